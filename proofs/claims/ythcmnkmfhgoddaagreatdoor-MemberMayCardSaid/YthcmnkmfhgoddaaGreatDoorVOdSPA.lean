/-
  Same: the library's Equal at pairs,Same of replies,the program's and the document's. Condition: at most 10^9 pairs.
  PutReply,the program's: a reply's text. Conditions: its texts at most 2^20 bytes; its numbers such as a program can hold; at most 2,000 pairs.
  pairs,the program's: texts,two by two. Condition: at most 5,000 texts.
-/
import Derived.Test.YthcmnkmfhgoddaaGreatDoorVOdPCA
import Derived.Test.YthcmnkmfhgoddaaGreatDoorVDsSMA
namespace Go.Proofs.YthcmnkmfhgoddaaGreatDoor.Od
open Go.RowKit Bnd
open Ds (int_yes int_no)
attribute [local go_sem ↓] Go.wp_at_zero Go.wp_at_succ
end Go.Proofs.YthcmnkmfhgoddaaGreatDoor.Od

namespace Go.Proofs.YthcmnkmfhgoddaaGreatDoor.Od
open Go.RowKit Bnd
open Go.Proofs.YthcmnkmfhgoddaaGreatDoor.M (tieT numT inR)
open Ds (nb nb_size own_new)
end Go.Proofs.YthcmnkmfhgoddaaGreatDoor.Od

namespace Go.Proofs.YthcmnkmfhgoddaaGreatDoor.Od
open Go.RowKit Bnd
open Ds (run_append2)
end Go.Proofs.YthcmnkmfhgoddaaGreatDoor.Od

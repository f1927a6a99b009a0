
/-
  The document's set: a session in the place of an earlier one. Conditions: sessions without pairs, at most 100,000.
  The document's word on whether sessions may be: one, Is. Conditions: lengths at most 2^47.
  The document's Note and Merge. Conditions: sessions without pairs, at most 5,000.
-/
import Derived.Test.YtpedalilamloaaaGreatDoorSsBFA
import Derived.Test.YtpedalilamloaaaGreatDoorRegA
import Derived.Test.YtpedalilamloaaaGreatDoorDsPNA
import Derived.Test.YtpedalilamloaaaGreatDoorSsBoA
import Derived.Test.YtpedalilamloaaaGreatDoorSsLLA
namespace Go.Proofs.YtpedalilamloaaaGreatDoor.Ss
open Go.RowKit Bnd
open Go.Proofs.YtpedalilamloaaaGreatDoor.Od (Rep SP ArgP OwnP rv BoxR)
open Ds (run_append2)

/-- region 9: three appends, onto a row of the call's own -/
structure RW (W : World) (xs : List Zs) (z : Zs) (ys : List Zs) (L : Nat → Bool) (u : Nat → Value) (wx : World) : Prop where
  b : Below W.heap.size W wx
  o0 : L 0 = true → L 4 = false → ∃ h : Nat, u 0 = .slice (some ⟨h, 0, none⟩) 0 0 ∧ OwnZ wx W.heap.size (u 0) [] ∧ h < wx.heap.size ∧ (L 6 = true → u 6 ≠ .slice (some ⟨h, 0, none⟩) 1 1)
  o4 : L 4 = true → L 7 = false → OwnZ wx W.heap.size (u 4) xs
  o6 : L 6 = true → L 7 = false → ∃ g : Nat, u 6 = .slice (some ⟨g, 0, none⟩) 1 1 ∧ g < wx.heap.size ∧ Cs wx g (0 + 0 * 7) z
  o7 : L 7 = true → L 9 = false → OwnZ wx W.heap.size (u 7) (xs ++ [z])
  o9 : L 9 = true → OwnZ wx W.heap.size (u 9) (xs ++ [z] ++ ys)
/-- what set comes to -/
def SetOut (W : World) (l : List Ses) (e : Ending) (w' : World) : Prop := ∃ v' zs', e = .returned v' ∧ ses zs' = l ∧ ArgZ w' v' zs' ∧ NoP zs' ∧ Below W.heap.size W w'
end Go.Proofs.YtpedalilamloaaaGreatDoor.Ss

namespace Go.Proofs.YtpedalilamloaaaGreatDoor.Ss
open Go.RowKit Bnd
open Go.Proofs.YtpedalilamloaaaGreatDoor.Od (Rep SP isR seqB amongB rv BoxR)

/-- the client ahead of place k, or 0 -/
def prevC (zs : List Zs) (k : Nat) : Int := if k = 0 then 0 else (zs.getD (k - 1) (Ses.zero, undef)).1.client
end Go.Proofs.YtpedalilamloaaaGreatDoor.Ss

namespace Go.Proofs.YtpedalilamloaaaGreatDoor.Ss
open Go.RowKit Bnd
open Go.Proofs.YtpedalilamloaaaGreatDoor.Od (Rep SP ArgP OwnP rv BoxR)

/-- what Note and Merge answer -/
def NoteOut (W : World) (o : List Ses × Int) (e : Ending) (w' : World) : Prop := ∃ v' zs', e = .returned (.tuple #[v', .int .i64 o.2]) ∧ ses zs' = o.1 ∧ ArgZ w' v' zs' ∧ NoP zs' ∧ Below W.heap.size W w'
theorem NoteOut.none {W w' : World} {n : Int} (h : Below W.heap.size W w') : NoteOut W ([], n) (.returned (.tuple #[.slice none 0 0, .int .i64 n])) w' := ⟨_, [], rfl, rfl, .nil, (fun z hz => by cases hz), h⟩
end Go.Proofs.YtpedalilamloaaaGreatDoor.Ss

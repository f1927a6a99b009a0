/-
  The document's First at every text. Condition: lengths below 2^47.
-/
import Derived.Test.YtglkapamkigdhaaDoorFirst
import Derived.Test.YtglkapamkigdhaaDoorMath4
namespace Go.Proofs.YtglkapamkigdhaaDoor
open Go.RowKit M
attribute [local go_sem ↓] Go.wp_at_zero Go.wp_at_succ

end Go.Proofs.YtglkapamkigdhaaDoor

/-
  The document's First at every text. Condition: lengths below 2^47.
-/
import Derived.Test.YtdgnbiekklmafaaDoorFirst
import Derived.Test.YtdgnbiekklmafaaDoorMath4
namespace Go.Proofs.YtdgnbiekklmafaaDoor
open Go.RowKit M
attribute [local go_sem ↓] Go.wp_at_zero Go.wp_at_succ

end Go.Proofs.YtdgnbiekklmafaaDoor

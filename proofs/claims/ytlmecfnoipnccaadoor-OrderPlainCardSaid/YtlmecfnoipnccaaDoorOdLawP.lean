/-
  OrderPlain, walked: it answers true. Condition: the library's variables hold what their types allow.
-/
import Derived.Test.YtlmecfnoipnccaaDoorOdLawP6
import Derived.Test.YtlmecfnoipnccaaDoorOdLawP8
import Derived.Test.YtlmecfnoipnccaaDoorOdLawP12
namespace Go.Proofs.YtlmecfnoipnccaaDoor.Od
open Go.RowKit Bnd

theorem walk_plain (k c s i : Int) (w : World) (hg : Good w) : Calls Tryd.prog 9 #[.int .i64 k, .int .i64 c, .int .i64 s, .int .i64 i] w fun e w' => e = .returned (.bool true) ∧ Below w.heap.size w w' := by
  by_cases h6 : k = 6
  · subst h6; exact plain_6 c s i w hg
  by_cases h8 : k = 8
  · subst h8; exact plain_8 c s i w hg
  by_cases h12 : k = 12
  · subst h12; exact plain_12 c s i w hg
  exact plain_other k c s i w hg h6 h8 h12
end Go.Proofs.YtlmecfnoipnccaaDoor.Od

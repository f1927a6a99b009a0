/-
  Check, the program's: whether an order may be. Conditions: lengths at most 2^47; the library's variables hold what their types allow.
-/
import Derived.Test.YticikmkehobblaaDoorOdOFA
import Derived.Test.YticikmkehobblaaDoorOdPut
namespace Go.Proofs.YticikmkehobblaaDoor.Od
open Go.RowKit Bnd
open Go.Proofs.YticikmkehobblaaDoor.O (Bd isB keyB)

theorem ba_iff (a b : ByteArray) : a.toList = b.toList ↔ a = b := ⟨fun h => Ds.ba_ext h, fun h => by rw [h]⟩
theorem ite_ok (w : World) (c : Prop) [Decidable c] (x : Bool) : (if c then (Result.ok x w : Result Bool) else .ok false w) = .ok (decide c && x) w := by by_cases h : c <;> simp [h]
/-- what Check goes by -/
theorem chkA_zero {o : Ask} (h : sameA o Ask.zero = true) : chkA o = 0 := by unfold chkA isA; rw [h]; rfl
theorem chkA_own {o : Ask} (h : sameA o Ask.zero = false) (h1 : sameA o (ownA o) = false) : chkA o = 70 := by unfold chkA isA; rw [h, h1]; rfl
theorem chkA_cl {o : Ask} (h : sameA o Ask.zero = false) (h1 : seqB o.client = false) : chkA o = 70 := by unfold chkA isA; rw [h, h1]; simp
theorem chkA_sq {o : Ask} (h : sameA o Ask.zero = false) (h1 : seqB o.seq = false) : chkA o = 70 := by unfold chkA isA; rw [h, h1]; simp
theorem chkA_fit {o : Ask} (h : sameA o Ask.zero = false) (h1 : fitsA o = false) : chkA o = 70 := by unfold chkA isA; rw [h, h1]; simp
theorem chkA_all {o : Ask} (h1 : sameA o (ownA o) = true) (h2 : seqB o.client = true) (h3 : seqB o.seq = true) (h4 : fitsA o = true) : chkA o = 0 := by unfold chkA isA; rw [h1, h2, h3, h4]; simp

end Go.Proofs.YticikmkehobblaaDoor.Od

/-
  own, the program's: an order with nothing but the fields of its kind. No condition.
  Whether an order may be, the program's answers: fitsKey, fits. Conditions: lengths at most 2^47; the library's variables hold what their types allow.
-/
import Derived.Test.YticikmkehobblaaDoorOdA
import Derived.Test.YticikmkehobblaaDoorDsParse
namespace Go.Proofs.YticikmkehobblaaDoor.Od
open Go.RowKit Bnd

end Go.Proofs.YticikmkehobblaaDoor.Od

namespace Go.Proofs.YticikmkehobblaaDoor.Od
open Go.RowKit Bnd
open Go.Proofs.YticikmkehobblaaDoor.O (Bd isB keyB)
open Go.Proofs.YticikmkehobblaaDoor.Bnd (levelT chk keyE)

theorem parseD_num (s : Ds.Text) : (Ds.parseD s).2 = 0 ∨ (Ds.parseD s).2 = 60 := by
  unfold Ds.parseD
  cases M.untieT s with
  | none => exact .inr rfl
  | some l =>
    simp only
    cases Ds.parseL l with
    | none => exact .inr rfl
    | some d =>
      simp only
      rcases Ds.okD_cases d with ⟨_, h⟩ | h
      · rw [h]; exact .inl rfl
      · rw [h]; exact .inr rfl

end Go.Proofs.YticikmkehobblaaDoor.Od

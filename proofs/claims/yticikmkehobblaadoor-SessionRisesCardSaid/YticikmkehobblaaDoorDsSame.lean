/-
  Same: slices.Equal at members, Same; the document's Members and Same. Condition: at most 2^40 members.
-/
import Derived.Test.YticikmkehobblaaDoorDsFind
import Derived.Test.YticikmkehobblaaDoorTieA
namespace Go.Proofs.YticikmkehobblaaDoor.Ds
open Go.RowKit Bnd
attribute [local go_sem ↓] Go.wp_at_zero Go.wp_at_succ

theorem memEq_yes {x y : Mem} (h : x = y) : (x.1 == y.1) = true ∧ (x.2 == y.2) = true := by rw [h]; simp
theorem int_yes {x y : Int} (h : x = y) : (x == y) = true ∧ (x != y) = false ∧ (x = y) = True := by subst h; simp
theorem int_no {x y : Int} (h : ¬ x = y) : (x == y) = false ∧ (x != y) = true ∧ (x = y) = False := ⟨by simpa using h, by simpa using h, eq_false h⟩
theorem sameD_no {a b : De} (h : ¬ a = b) : sameD a b = false := by
  cases hs : sameD a b with
  | false => rfl
  | true => exact absurd ((sameD_iff a b).1 hs) h
theorem sameD_ms {a b : De} (h1 : a.id = b.id) (h2 : a.f = b.f) (h3 : a.t = b.t) (h4 : a.gen = b.gen) (h5 : a.next = b.next) : sameD a b = decide (a.ms = b.ms) := by
  unfold sameD; simp [h1, h2, h3, h4, h5]

end Go.Proofs.YticikmkehobblaaDoor.Ds

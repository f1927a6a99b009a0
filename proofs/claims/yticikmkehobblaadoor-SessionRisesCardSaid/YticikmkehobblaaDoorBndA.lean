/-
  What every walk of this seat leans on: bounds as values, texts and results, the world behind a call that makes memory. No condition.
  The program's and the document's answers on keys and bounds: whether they may be, what lies in them. Condition: lengths below 2^63.
  The program's answers on two bounds: Meet, Inside, Next. Condition: lengths at most 2^47.
  The document's answers on keys and bounds: Key, Is, Has, Meet, Inside, Next; the laws' own small and num. Condition: lengths at most 2^47.
  Cut and Join, the program's and the document's. Condition: lengths at most 2^47.
  Cut and Join of the document. Condition: lengths at most 2^47.
-/
import Derived.Test.YticikmkehobblaaDoorProg
import Derived.Test.YticikmkehobblaaDoorOrder
import Derived.Tactics
import Derived.Tactics2
import Derived.WalkKit
import Derived.WalkLawsBesides
import Derived.BigCall
import Derived.Lib.Hide
import Derived.KernelRfl
import Derived.RegionTactic
import Derived.ChangeAlike
namespace Go.Proofs.YticikmkehobblaaDoor.Bnd
open Go.RowKit O

theorem ret_bool {a b : Bool} (h : a = b) : Ending.returned (.bool a) = .returned (.bool b) := by rw [h]
theorem ret_int {k : IntKind} {a b : Int} (h : a = b) : Ending.returned (.int k a) = .returned (.int k b) := by rw [h]
theorem ret_string {a b : ByteArray} (h : a = b) : Ending.returned (.string a) = .returned (.string b) := by rw [h]
theorem bytes_ext {a b : ByteArray} (h : a.toList = b.toList) : a = b := by
  rw [ByteArray.toList_eq, ByteArray.toList_eq] at h
  obtain ⟨⟨x⟩⟩ := a
  obtain ⟨⟨y⟩⟩ := b
  have h : x = y := h
  rw [h]

/-- A bound as the program holds it, and as the mathematics does. -/
abbrev bd (f t : ByteArray) : Value := .agg #[.string f, .string t]
abbrev B (f t : ByteArray) : Bd := ⟨f.toList, t.toList⟩

theorem size_toList (s : ByteArray) : s.toList.length = s.size := by rw [ByteArray.toList_eq]; simp
theorem empty_of {s : ByteArray} (h : s.toList = []) : s = ⟨#[]⟩ := bytes_ext (by rw [h, ByteArray.toList_eq])
theorem isEmpty_no {s : ByteArray} (h : ¬ s.toList = []) : s.toList.isEmpty = false := by
  cases e : s.toList with
  | nil => exact absurd e h
  | cons c l => rfl

theorem bcell {W w1 : World} (hb : Below W.heap.size W w1) : (∀ b o, b < W.heap.size → w1.cell? ⟨b, o, none⟩ = W.cell? ⟨b, o, none⟩) ∧ (∀ b o, b < W.heap.size → w1.frozen? ⟨b, o, none⟩ = W.frozen? ⟨b, o, none⟩) :=
  ⟨fun b o h => hb.cell (p := ⟨b, o, none⟩) h, fun b o h => hb.frozen (p := ⟨b, o, none⟩) h⟩

end Go.Proofs.YticikmkehobblaaDoor.Bnd

namespace Go.Proofs.YticikmkehobblaaDoor.Bnd
open Go.RowKit O

/-- below a bound's end -/
def belowB (k t : Text) : Bool := decide (t = []) || lt k t

/-- what Check answers -/
def chk (b : Bd) : Int := if isB b = true then 0 else 20
def keyE (k : Text) : Int := if keyB k = true then 0 else 20

theorem isB_parts (f t : ByteArray) : isB (B f t) = (decide (f.size ≤ 33) && decide (t.size ≤ 33) && belowB f.toList t.toList) := by
  simp only [isB, size_toList, belowB]

set_option maxHeartbeats 400000 in
theorem key_any (k : ByteArray) (w : World) (hk : k.size ≤ 140737488355328) :
    Calls Tryd.prog 60 #[.string k] w fun e w' => e = .returned (.int .i64 (keyE k.toList)) ∧ w = w' := by
  have hc : keyE k.toList = if keyB k.toList = true then 0 else 20 := rfl
  by_cases h : k.toList = []
  · have hc : keyE k.toList = 20 := by rw [hc]; simp [keyB, h]
    rw [hc]
    clear hc
    obtain rfl := empty_of h
    clear h
    go_enter Tryd.func60, Tryd.ntmps60
    go_wp2_with fail
    go_ret
    exact ⟨rfl, rfl⟩
  · have h1 := isEmpty_no h
    have h0 : 1 ≤ k.size := by
      rw [← size_toList]
      cases e : k.toList with
      | nil => exact absurd e h
      | cons c l => simp
    by_cases h2 : k.size ≤ 32
    · have hc : keyE k.toList = 0 := by rw [hc]; simp [keyB, size_toList, h0, h2]
      rw [hc]
      clear hc h
      go_enter Tryd.func60, Tryd.ntmps60
      go_wp2_with fail
      go_ret
      exact ⟨rfl, rfl⟩
    · have hc : keyE k.toList = 20 := by rw [hc]; simp [keyB, size_toList, h2]
      rw [hc]
      clear hc h
      go_enter Tryd.func60, Tryd.ntmps60
      go_wp2_with fail
      go_ret
      exact ⟨rfl, rfl⟩

theorem hasB_parts (f t k : ByteArray) : hasB (B f t) k.toList = (!lt k.toList f.toList && belowB k.toList t.toList) := rfl

/-! ### yes and no: what callers take -/
end Go.Proofs.YticikmkehobblaaDoor.Bnd

namespace Go.Proofs.YticikmkehobblaaDoor.Bnd
open Go.RowKit O

theorem meet_alt (a b : Bd) : meetB a b = (isB a && isB b && belowB a.f b.t && belowB b.f a.t) := by
  cases ha : isB a
  · simp [meetB, ha]
  cases hb : isB b
  · simp [meetB, ha, hb]
  have h1 := has_self ha
  have h2 := has_self hb
  simp only [meetB, ha, hb, Bool.true_and]
  simp only [hasB, lt_irrefl, Bool.not_false, Bool.true_and] at h1 h2
  have e1 : hasB a b.f = (!lt b.f a.f && belowB b.f a.t) := rfl
  have e2 : hasB b a.f = (!lt a.f b.f && belowB a.f b.t) := rfl
  have g1 : belowB a.f a.t = true := h1
  have g2 : belowB b.f b.t = true := h2
  rw [e1, e2]
  have mono : ∀ {x y z : Text}, lt x y = true → belowB y z = true → belowB x z = true := by
    intro x y z h k
    unfold belowB at *
    simp only [Bool.or_eq_true, decide_eq_true_eq] at *
    rcases k with k | k
    · exact .inl k
    · exact .inr (lt_trans h k)
  rcases lt_tri a.f b.f with h | h | h
  · rw [lt_asymm h, h, mono h g2]; simp
  · rw [h, lt_irrefl, ← h, g1, h, g2]; simp
  · rw [lt_asymm h, h, mono h g1]; simp

theorem inside_alt (a b : Bd) : insideB a b = (isB a && isB b && !lt a.f b.f && (decide (b.t = []) || (!decide (a.t = []) && (lt a.t b.t || decide (a.t = b.t))))) := by
  have : (!lt b.t a.t) = (lt a.t b.t || decide (a.t = b.t)) := by
    rcases lt_tri a.t b.t with h | h | h
    · rw [lt_asymm h, h]; rfl
    · rw [h, lt_irrefl]; simp
    · rw [lt_asymm h, h]
      have : ¬ a.t = b.t := by rintro e; rw [e, lt_irrefl] at h; cases h
      simp [this]
  unfold insideB
  rw [this]

/-- The world with the two boxes. -/
theorem two_boxes (w w1 : World) (o o' : Obj) (b : Below ((w.alloc o).alloc o').heap.size ((w.alloc o).alloc o') w1) : Below w.heap.size w w1 :=
  (((Below.refl _ w).alloc (Nat.le_refl _) o).alloc (by simp) o').trans (b.mono (by simp; omega))

variable (f t g u : ByteArray) (w : World) (hf : f.size ≤ 140737488355328) (ht : t.size ≤ 140737488355328) (hg : g.size ≤ 140737488355328) (hu : u.size ≤ 140737488355328)
include hf ht hg hu

end Go.Proofs.YticikmkehobblaaDoor.Bnd

namespace Go.Proofs.YticikmkehobblaaDoor.Bnd
open Go.RowKit O

/-- what the laws ask of a bound -/
def smallB (f t : ByteArray) : Bool := decide (f.size ≤ 2000) && decide (t.size ≤ 2000)

set_option maxHeartbeats 400000 in
theorem rkey_any (k : ByteArray) (w : World) (hk : k.size ≤ 140737488355328) : Calls Tryd.prog 46 #[.string k] w fun e w' => e = .returned (.bool (keyB k.toList)) ∧ w = w' := by
  have hr : keyB k.toList = (decide (1 ≤ k.size) && decide (k.size ≤ 32)) := by simp [keyB, size_toList]
  rw [hr]; clear hr
  by_cases h1 : 1 ≤ k.size
  · go_enter Tryd.func46, Tryd.ntmps46
    go_wp2_with fail
    go_ret
    exact ⟨ret_bool (by rw [Bool.eq_iff_iff]; simp; omega), rfl⟩
  · go_enter Tryd.func46, Tryd.ntmps46
    go_wp2_with fail
    go_ret
    exact ⟨ret_bool (by simp), rfl⟩

section
variable (f t g u : ByteArray) (w : World) (hf : f.size ≤ 140737488355328) (ht : t.size ≤ 140737488355328) (hg : g.size ≤ 140737488355328) (hu : u.size ≤ 140737488355328)
include hf ht hg hu

end

end Go.Proofs.YticikmkehobblaaDoor.Bnd

namespace Go.Proofs.YticikmkehobblaaDoor.Bnd
open Go.RowKit O

abbrev E0 : ByteArray := ⟨#[]⟩
/-- whether k cuts b -/
def cutsB (b : Bd) (k : Text) : Bool := isB b && keyB k && hasB b k && !decide (k = b.f)
/-- what Cut answers -/
def cutV (f t k : ByteArray) : Value := if cutsB (B f t) k.toList = true then .tuple #[bd f k, bd k t, .int .i64 0] else .tuple #[bd E0 E0, bd E0 E0, .int .i64 20]
def joinV (f t g u : ByteArray) : Value := if nextB (B f t) (B g u) = true then .tuple #[bd f u, .int .i64 0] else .tuple #[bd E0 E0, .int .i64 20]

theorem ret_eq {v v' : Value} (h : v = v') : Ending.returned v = .returned v' := by rw [h]

/-- The world with the boxes of two bounds and of the result. -/
theorem three_boxes (w w1 : World) (o o' o'' : Obj) (b : Below (((w.alloc o).alloc o').alloc o'').heap.size (((w.alloc o).alloc o').alloc o'') w1) : Below w.heap.size w w1 :=
  ((((Below.refl _ w).alloc (Nat.le_refl _) o).alloc (by simp) o').alloc (by simp; omega) o'').trans (b.mono (by simp; omega))

end Go.Proofs.YticikmkehobblaaDoor.Bnd

namespace Go.Proofs.YticikmkehobblaaDoor.Bnd
open Go.RowKit O

end Go.Proofs.YticikmkehobblaaDoor.Bnd

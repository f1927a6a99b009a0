/-
  The program's and the document's answers on keys and bounds: whether they may be, what lies in them. Condition: lengths below 2^63.
-/
import Derived.Test.YtojphacongbnmaaDoorBndBase
namespace Go.Proofs.YtojphacongbnmaaDoor.Bnd
open Go.RowKit O

/-- below a bound's end -/
def belowB (k t : Text) : Bool := decide (t = []) || lt k t

set_option maxHeartbeats 400000 in
theorem below_any (k t : ByteArray) (w : World) : Calls Tryd.prog 67 #[.string k, .string t] w fun e w' => e = .returned (.bool (belowB k.toList t.toList)) ∧ w = w' := by
  by_cases h : t.toList = []
  · have hr : belowB k.toList t.toList = true := by simp [belowB, h]
    rw [hr]
    clear hr
    obtain rfl := empty_of h
    clear h
    go_enter Tryd.func67, Tryd.ntmps67
    go_wp2_with fail
    go_ret
    exact ⟨rfl, rfl⟩
  · have hr : belowB k.toList t.toList = lt k.toList t.toList := by simp [belowB, h]
    rw [hr]
    have h1 := isEmpty_no h
    clear h hr
    go_enter Tryd.func67, Tryd.ntmps67
    go_wp2_with fail
    go_ret
    exact ⟨rfl, rfl⟩

/-- what Check answers -/
def chk (b : Bd) : Int := if isB b = true then 0 else 20
def keyE (k : Text) : Int := if keyB k = true then 0 else 20

theorem isB_parts (f t : ByteArray) : isB (B f t) = (decide (f.size ≤ 33) && decide (t.size ≤ 33) && belowB f.toList t.toList) := by
  simp only [isB, size_toList, belowB]

set_option maxHeartbeats 1000000 in
theorem check_any (f t : ByteArray) (w : World) (hf : f.size ≤ 140737488355328) (ht : t.size ≤ 140737488355328) :
    Calls Tryd.prog 46 #[bd f t] w fun e w' => e = .returned (.int .i64 (chk (B f t))) ∧ Below w.heap.size w w' := by
  have hc : chk (B f t) = if isB (B f t) = true then 0 else 20 := rfl
  rw [isB_parts] at hc
  have cb := below_any f t
  by_cases h1 : f.size ≤ 33
  · by_cases h2 : t.size ≤ 33
    · cases hb : belowB f.toList t.toList with
      | false =>
        rw [hb] at cb hc
        have hc : chk (B f t) = 20 := by rw [hc]; simp
        rw [hc]
        clear hc hb
        go_enter Tryd.func46, Tryd.ntmps46
        go_wp2_with fail
        refine (cb _).mono ?_
        rintro e w' ⟨rfl, rfl⟩
        go_wp2_with fail
        go_ret
        exact ⟨rfl, (Below.refl _ _).alloc (Nat.le_refl _) _⟩
      | true =>
        rw [hb] at cb hc
        have hc : chk (B f t) = 0 := by rw [hc]; simp [h1, h2]
        rw [hc]
        clear hc hb
        go_enter Tryd.func46, Tryd.ntmps46
        go_wp2_with fail
        refine (cb _).mono ?_
        rintro e w' ⟨rfl, rfl⟩
        go_wp2_with fail
        go_ret
        exact ⟨rfl, (Below.refl _ _).alloc (Nat.le_refl _) _⟩
    · have hc : chk (B f t) = 20 := by rw [hc]; simp [h2]
      rw [hc]
      clear hc
      go_enter Tryd.func46, Tryd.ntmps46
      go_wp2_with fail
      go_ret
      exact ⟨rfl, (Below.refl _ _).alloc (Nat.le_refl _) _⟩
  · have hc : chk (B f t) = 20 := by rw [hc]; simp [h1]
    rw [hc]
    clear hc
    go_enter Tryd.func46, Tryd.ntmps46
    go_wp2_with fail
    go_ret
    exact ⟨rfl, (Below.refl _ _).alloc (Nat.le_refl _) _⟩

set_option maxHeartbeats 400000 in
theorem key_any (k : ByteArray) (w : World) (hk : k.size ≤ 140737488355328) :
    Calls Tryd.prog 73 #[.string k] w fun e w' => e = .returned (.int .i64 (keyE k.toList)) ∧ w = w' := by
  have hc : keyE k.toList = if keyB k.toList = true then 0 else 20 := rfl
  by_cases h : k.toList = []
  · have hc : keyE k.toList = 20 := by rw [hc]; simp [keyB, h]
    rw [hc]
    clear hc
    obtain rfl := empty_of h
    clear h
    go_enter Tryd.func73, Tryd.ntmps73
    go_wp2_with fail
    go_ret
    exact ⟨rfl, rfl⟩
  · have h1 := isEmpty_no h
    have h0 : 1 ≤ k.size := by
      rw [← size_toList]
      cases e : k.toList with
      | nil => exact absurd e h
      | cons c l => simp
    by_cases h2 : k.size ≤ 32
    · have hc : keyE k.toList = 0 := by rw [hc]; simp [keyB, size_toList, h0, h2]
      rw [hc]
      clear hc h
      go_enter Tryd.func73, Tryd.ntmps73
      go_wp2_with fail
      go_ret
      exact ⟨rfl, rfl⟩
    · have hc : keyE k.toList = 20 := by rw [hc]; simp [keyB, size_toList, h2]
      rw [hc]
      clear hc h
      go_enter Tryd.func73, Tryd.ntmps73
      go_wp2_with fail
      go_ret
      exact ⟨rfl, rfl⟩

theorem hasB_parts (f t k : ByteArray) : hasB (B f t) k.toList = (!lt k.toList f.toList && belowB k.toList t.toList) := rfl

set_option maxHeartbeats 1000000 in
theorem has_any (f t k : ByteArray) (w : World) :
    Calls Tryd.prog 74 #[bd f t, .string k] w fun e w' => e = .returned (.bool (hasB (B f t) k.toList)) ∧ Below w.heap.size w w' := by
  rw [hasB_parts]
  have cb := below_any k t
  cases h1 : lt k.toList f.toList with
  | true =>
    go_enter Tryd.func74, Tryd.ntmps74
    go_wp2_with fail
    go_ret
    exact ⟨rfl, (Below.refl _ _).alloc (Nat.le_refl _) _⟩
  | false =>
    go_enter Tryd.func74, Tryd.ntmps74
    go_wp2_with fail
    refine (cb _).mono ?_
    rintro e w' ⟨rfl, rfl⟩
    go_wp2_with fail
    go_ret
    exact ⟨rfl, (Below.refl _ _).alloc (Nat.le_refl _) _⟩

/-! ### yes and no: what callers take -/
theorem check_yes (f t : ByteArray) (w : World) (hf : f.size ≤ 140737488355328) (ht : t.size ≤ 140737488355328) (h : isB (B f t) = true) :
    Calls Tryd.prog 46 #[bd f t] w fun e w' => e = .returned (.int .i64 0) ∧ Below w.heap.size w w' := by
  have := check_any f t w hf ht
  unfold chk at this
  rwa [if_pos h] at this
theorem check_no (f t : ByteArray) (w : World) (hf : f.size ≤ 140737488355328) (ht : t.size ≤ 140737488355328) (h : isB (B f t) = false) :
    Calls Tryd.prog 46 #[bd f t] w fun e w' => e = .returned (.int .i64 20) ∧ Below w.heap.size w w' := by
  have := check_any f t w hf ht
  unfold chk at this
  rwa [if_neg (by rw [h]; decide)] at this

set_option maxHeartbeats 1000000 in
theorem both_any (f t g u : ByteArray) (w : World) (hf : f.size ≤ 140737488355328) (ht : t.size ≤ 140737488355328) (hg : g.size ≤ 140737488355328) (hu : u.size ≤ 140737488355328) :
    Calls Tryd.prog 84 #[bd f t, bd g u] w fun e w' => e = .returned (.bool (isB (B f t) && isB (B g u))) ∧ Below w.heap.size w w' := by
  cases h1 : isB (B f t) with
  | false =>
    have c1 := fun w => check_no f t w hf ht h1
    clear h1
    go_enter Tryd.func84, Tryd.ntmps84
    go_wp2_with fail
    refine (c1 _).mono ?_
    rintro e w1 ⟨rfl, b1⟩
    go_wp2_with fail
    go_ret
    exact ⟨rfl, (((Below.refl _ w).alloc (Nat.le_refl _) _).alloc (by simp) _).trans (b1.mono (by simp; omega))⟩
  | true =>
    have c1 := fun w => check_yes f t w hf ht h1
    clear h1
    cases h2 : isB (B g u) with
    | false =>
      have c2 := fun w => check_no g u w hg hu h2
      clear h2
      go_enter Tryd.func84, Tryd.ntmps84
      go_wp2_with fail
      refine (c1 _).mono ?_
      rintro e w1 ⟨rfl, b1⟩
      obtain ⟨hc, hfz⟩ := bcell b1
      go_wp2_with fail
      refine (c2 _).mono ?_
      rintro e w2 ⟨rfl, b2⟩
      go_wp2_with fail
      go_ret
      have b01 := (((Below.refl _ w).alloc (Nat.le_refl _) (.cells #[.string f, .string t] 23)).alloc (by simp) (.cells #[.string g, .string u] 23)).trans (b1.mono (by simp; omega))
      exact ⟨rfl, b01.trans (b2.mono b01.size)⟩
    | true =>
      have c2 := fun w => check_yes g u w hg hu h2
      clear h2
      go_enter Tryd.func84, Tryd.ntmps84
      go_wp2_with fail
      refine (c1 _).mono ?_
      rintro e w1 ⟨rfl, b1⟩
      obtain ⟨hc, hfz⟩ := bcell b1
      go_wp2_with fail
      refine (c2 _).mono ?_
      rintro e w2 ⟨rfl, b2⟩
      go_wp2_with fail
      go_ret
      have b01 := (((Below.refl _ w).alloc (Nat.le_refl _) (.cells #[.string f, .string t] 23)).alloc (by simp) (.cells #[.string g, .string u] 23)).trans (b1.mono (by simp; omega))
      exact ⟨rfl, b01.trans (b2.mono b01.size)⟩

end Go.Proofs.YtojphacongbnmaaDoor.Bnd

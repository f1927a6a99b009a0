/-
  Cut and Join, the program's and the document's. Condition: lengths at most 2^47.
-/
import Derived.Test.YtojphacongbnmaaDoorBndRef
import Derived.RegionTactic
import Derived.ChangeAlike
namespace Go.Proofs.YtojphacongbnmaaDoor.Bnd
open Go.RowKit O

abbrev E0 : ByteArray := ⟨#[]⟩
/-- whether k cuts b -/
def cutsB (b : Bd) (k : Text) : Bool := isB b && keyB k && hasB b k && !decide (k = b.f)
/-- what Cut answers -/
def cutV (f t k : ByteArray) : Value := if cutsB (B f t) k.toList = true then .tuple #[bd f k, bd k t, .int .i64 0] else .tuple #[bd E0 E0, bd E0 E0, .int .i64 20]
def joinV (f t g u : ByteArray) : Value := if nextB (B f t) (B g u) = true then .tuple #[bd f u, .int .i64 0] else .tuple #[bd E0 E0, .int .i64 20]

theorem ret_eq {v v' : Value} (h : v = v') : Ending.returned v = .returned v' := by rw [h]

/-- The world with the boxes of two bounds and of the result. -/
theorem three_boxes (w w1 : World) (o o' o'' : Obj) (b : Below (((w.alloc o).alloc o').alloc o'').heap.size (((w.alloc o).alloc o').alloc o'') w1) : Below w.heap.size w w1 :=
  ((((Below.refl _ w).alloc (Nat.le_refl _) o).alloc (by simp) o').alloc (by simp; omega) o'').trans (b.mono (by simp; omega))

set_option maxHeartbeats 1000000 in
theorem join_any (f t g u : ByteArray) (w : World) (hf : f.size ≤ 140737488355328) (ht : t.size ≤ 140737488355328) (hg : g.size ≤ 140737488355328) (hu : u.size ≤ 140737488355328) :
    Calls Tryd.prog 58 #[bd f t, bd g u] w fun e w' => e = .returned (joinV f t g u) ∧ Below w.heap.size w w' := by
  have c1 := fun w => next_any f t g u w hf ht hg hu
  cases h : nextB (B f t) (B g u) with
  | false =>
    rw [h] at c1
    have hr : joinV f t g u = .tuple #[bd E0 E0, .int .i64 20] := by unfold joinV; rw [h]; rfl
    rw [hr]
    clear h hr
    go_enter Tryd.func58, Tryd.ntmps58
    go_wp2_with fail
    refine (c1 _).mono ?_
    rintro e w1 ⟨rfl, b1⟩
    obtain ⟨hc, hfz⟩ := bcell b1
    have hz : w.heap.size + 1 + 1 < w1.heap.size := by have := b1.size; simp at this; omega
    go_wp2_with fail
    exact bodyPost_ret (v := .tuple #[bd E0 E0, .int .i64 20]) (by simp [results, go_sem, hc]) rfl ⟨rfl, ((three_boxes w w1 _ _ _ b1).setCell (by first | (simp; done) | (simp; omega)) _).setCell (by first | (simp; done) | (simp; omega)) _⟩
  | true =>
    rw [h] at c1
    have hr : joinV f t g u = .tuple #[bd f u, .int .i64 0] := by unfold joinV; rw [h]; rfl
    rw [hr]
    clear h hr
    go_enter Tryd.func58, Tryd.ntmps58
    go_wp2_with fail
    refine (c1 _).mono ?_
    rintro e w1 ⟨rfl, b1⟩
    obtain ⟨hc, hfz⟩ := bcell b1
    have hz : w.heap.size + 1 + 1 < w1.heap.size := by have := b1.size; simp at this; omega
    go_wp2_with fail
    exact bodyPost_ret (v := .tuple #[bd f u, .int .i64 0]) (by simp [results, go_sem, hc]) rfl ⟨rfl, ((three_boxes w w1 _ _ _ b1).setCell (by first | (simp; done) | (simp; omega)) _).setCell (by first | (simp; done) | (simp; omega)) _⟩

set_option maxHeartbeats 1000000 in
theorem cut_any (f t k : ByteArray) (w : World) (hf : f.size ≤ 140737488355328) (ht : t.size ≤ 140737488355328) (hk : k.size ≤ 140737488355328) :
    Calls Tryd.prog 55 #[bd f t, .string k] w fun e w' => e = .returned (cutV f t k) ∧ Below w.heap.size w w' := by
  have c1 := fun w => check_any f t w hf ht
  have c2 := fun w => key_any k w hk
  have c3 := fun w => has_any f t k w
  cases h : isB (B f t) with
  | false =>
    have hr : cutV f t k = .tuple #[bd E0 E0, bd E0 E0, .int .i64 20] := by unfold cutV cutsB; rw [h]; rfl
    rw [hr]
    have e1 : chk (B f t) = 20 := by unfold chk; rw [h]; rfl
    rw [e1] at c1
    clear h hr e1
    go_enter Tryd.func55, Tryd.ntmps55
    go_wp2_with fail
    refine (c1 _).mono ?_
    rintro e w1 ⟨rfl, b1⟩
    obtain ⟨hc, hfz⟩ := bcell b1
    have hz : w.heap.size + 1 + 1 < w1.heap.size := by have := b1.size; simp at this; omega
    go_wp2_with fail
    exact bodyPost_ret (v := .tuple #[bd E0 E0, bd E0 E0, .int .i64 20]) (by simp [results, go_sem, hc]) rfl ⟨rfl, ((((three_boxes w w1 _ _ _ b1).setCell (by first | (simp; done) | (simp; omega)) _).setCell (by first | (simp; done) | (simp; omega)) _).setCell (by first | (simp; done) | (simp; omega)) _).setCell (by first | (simp; done) | (simp; omega)) _⟩
  | true =>
    have e1 : chk (B f t) = 0 := by unfold chk; rw [h]; rfl
    rw [e1] at c1
    clear e1
    cases h2 : keyB k.toList with
    | false =>
      have hr : cutV f t k = .tuple #[bd E0 E0, bd E0 E0, .int .i64 20] := by unfold cutV cutsB; rw [h, h2]; rfl
      rw [hr]
      have e2 : keyE k.toList = 20 := by unfold keyE; rw [h2]; rfl
      rw [e2] at c2
      clear h hr e2 h2
      go_enter Tryd.func55, Tryd.ntmps55
      go_wp2_with fail
      refine (c1 _).mono ?_
      rintro e w1 ⟨rfl, b1⟩
      obtain ⟨hc, hfz⟩ := bcell b1
      have hz : w.heap.size + 1 + 1 < w1.heap.size := by have := b1.size; simp at this; omega
      go_wp2_with fail
      refine (c2 _).mono ?_
      rintro e w' ⟨rfl, rfl⟩
      go_wp2_with fail
      exact bodyPost_ret (v := .tuple #[bd E0 E0, bd E0 E0, .int .i64 20]) (by simp [results, go_sem, hc]) rfl ⟨rfl, ((((three_boxes w w1 _ _ _ b1).setCell (by first | (simp; done) | (simp; omega)) _).setCell (by first | (simp; done) | (simp; omega)) _).setCell (by first | (simp; done) | (simp; omega)) _).setCell (by first | (simp; done) | (simp; omega)) _⟩
    | true =>
      have e2 : keyE k.toList = 0 := by unfold keyE; rw [h2]; rfl
      rw [e2] at c2
      clear e2
      cases h3 : hasB (B f t) k.toList with
      | false =>
        have hr : cutV f t k = .tuple #[bd E0 E0, bd E0 E0, .int .i64 20] := by unfold cutV cutsB; rw [h, h2, h3]; rfl
        rw [hr]
        rw [h3] at c3
        clear h hr h2 h3
        go_enter Tryd.func55, Tryd.ntmps55
        go_wp2_with fail
        refine (c1 _).mono ?_
        rintro e w1 ⟨rfl, b1⟩
        obtain ⟨hc, hfz⟩ := bcell b1
        have hz : w.heap.size + 1 + 1 < w1.heap.size := by have := b1.size; simp at this; omega
        go_wp2_with fail
        refine (c2 _).mono ?_
        rintro e w' ⟨rfl, rfl⟩
        go_wp2_with fail
        refine (c3 _).mono ?_
        rintro e w2 ⟨rfl, b2'⟩
        have b2 := b1.trans (b2'.mono b1.size)
        clear hc hfz hz
        obtain ⟨hc, hfz⟩ := bcell b2
        have hz : w.heap.size + 1 + 1 < w2.heap.size := by have := b2.size; simp at this; omega
        go_wp2_with fail
        exact bodyPost_ret (v := .tuple #[bd E0 E0, bd E0 E0, .int .i64 20]) (by simp [results, go_sem, hc]) rfl ⟨rfl, ((((three_boxes w w2 _ _ _ b2).setCell (by first | (simp; done) | (simp; omega)) _).setCell (by first | (simp; done) | (simp; omega)) _).setCell (by first | (simp; done) | (simp; omega)) _).setCell (by first | (simp; done) | (simp; omega)) _⟩
      | true =>
        rw [h3] at c3
        by_cases h4 : k.toList = f.toList
        · have hr : cutV f t k = .tuple #[bd E0 E0, bd E0 E0, .int .i64 20] := by unfold cutV cutsB; rw [h, h2, h3]; simp [h4]
          rw [hr]
          have n4 : (k.toList == f.toList) = true := by simpa using h4
          clear h hr h2 h3 h4
          go_enter Tryd.func55, Tryd.ntmps55
          go_wp2_with fail
          refine (c1 _).mono ?_
          rintro e w1 ⟨rfl, b1⟩
          obtain ⟨hc, hfz⟩ := bcell b1
          have hz : w.heap.size + 1 + 1 < w1.heap.size := by have := b1.size; simp at this; omega
          go_wp2_with fail
          refine (c2 _).mono ?_
          rintro e w' ⟨rfl, rfl⟩
          go_wp2_with fail
          refine (c3 _).mono ?_
          rintro e w2 ⟨rfl, b2'⟩
          have b2 := b1.trans (b2'.mono b1.size)
          clear hc hfz hz
          obtain ⟨hc, hfz⟩ := bcell b2
          have hz : w.heap.size + 1 + 1 < w2.heap.size := by have := b2.size; simp at this; omega
          go_wp2_with fail
          exact bodyPost_ret (v := .tuple #[bd E0 E0, bd E0 E0, .int .i64 20]) (by simp [results, go_sem, hc]) rfl ⟨rfl, ((((three_boxes w w2 _ _ _ b2).setCell (by first | (simp; done) | (simp; omega)) _).setCell (by first | (simp; done) | (simp; omega)) _).setCell (by first | (simp; done) | (simp; omega)) _).setCell (by first | (simp; done) | (simp; omega)) _⟩
        · have hr : cutV f t k = .tuple #[bd f k, bd k t, .int .i64 0] := by unfold cutV cutsB; rw [h, h2, h3]; simp [h4]
          rw [hr]
          have n4 : (k.toList == f.toList) = false := by simpa using h4
          clear h hr h2 h3 h4
          go_enter Tryd.func55, Tryd.ntmps55
          go_wp2_with fail
          refine (c1 _).mono ?_
          rintro e w1 ⟨rfl, b1⟩
          obtain ⟨hc, hfz⟩ := bcell b1
          have hz : w.heap.size + 1 + 1 < w1.heap.size := by have := b1.size; simp at this; omega
          go_wp2_with fail
          refine (c2 _).mono ?_
          rintro e w' ⟨rfl, rfl⟩
          go_wp2_with fail
          refine (c3 _).mono ?_
          rintro e w2 ⟨rfl, b2'⟩
          have b2 := b1.trans (b2'.mono b1.size)
          clear hc hfz hz
          obtain ⟨hc, hfz⟩ := bcell b2
          have hz : w.heap.size + 1 + 1 < w2.heap.size := by have := b2.size; simp at this; omega
          go_wp2_with fail
          go_region
          go_wp2_with fail
          exact bodyPost_ret (v := .tuple #[bd f k, bd k t, .int .i64 0]) (by simp [results, go_sem, hc]) rfl ⟨rfl, (((((three_boxes w w2 _ _ _ b2).setCell (by first | (simp; done) | (simp; omega)) _).setCell (by first | (simp; done) | (simp; omega)) _).setCell (by first | (simp; done) | (simp; omega)) _).setCell (by first | (simp; done) | (simp; omega)) _).drew⟩

end Go.Proofs.YtojphacongbnmaaDoor.Bnd

/-
  Whole, the document's. Condition: at most 2^47 bounds of at most 2^47 bytes.
-/
import Derived.Test.YtbjgpcfimpmjiaaWhole
import Derived.Test.YtbjgpcfimpmjiaaSteady
import Derived.IntWalk
namespace Go.Proofs.Ytbjgpcfimpmjiaa
open Go.RowKit O

theorem whole_false {l : List Pair} {k : Nat} (h : ¬ okAt (bds l) k) : wholeB (bds l) = false := by
  cases hw : wholeB (bds l)
  · rfl
  · exfalso
    cases e : bds l with
    | nil => rw [e] at hw; cases hw
    | cons a m =>
      rw [e] at hw h
      simp only [wholeB, Bool.and_eq_true] at hw
      exact h (ok_of_chain _ hw.1.2 k)
theorem whole_head {l : List Pair} (h0 : 0 < l.length) (h : ¬ l[0].1.toList = []) : wholeB (bds l) = false := by
  cases l with
  | nil => simp at h0
  | cons a l =>
    show (decide (a.1.toList = []) && _ && _) = false
    have : ¬ a.1.toList = [] := h
    simp [this]
theorem whole_tail {l : List Pair} {n : Nat} (hn : l.length = n + 1) (h : ¬ (l[n]'(by omega)).2.toList = []) : wholeB (bds l) = false := by
  have h1 : 0 < (bds l).length := by rw [bds_length]; omega
  have h2 := lastT_get (bds l) h1
  have h3 : lastT (bds l) = (l[n]'(by omega)).2.toList := by
    rw [h2]
    have e : (bds l).length - 1 = n := by rw [bds_length]; omega
    have := bds_get l n (by omega)
    rw [show (bds l)[(bds l).length - 1]'(by omega) = (bds l)[n]'(by rw [bds_length]; omega) by congr 1]
    rw [this]
  cases e : bds l with
  | nil => rw [e] at h1; simp at h1
  | cons a m =>
    rw [e] at h3
    show (_ && _ && decide (lastT (a :: m) = [])) = false
    rw [h3]; simp [h]
theorem whole_true {l : List Pair} {n : Nat} (hn : l.length = n + 1) (h0 : (l[0]'(by omega)).1.toList = []) (h1 : (l[n]'(by omega)).2.toList = []) (h : ∀ i, i < n + 1 → okAt (bds l) i) : wholeB (bds l) = true := by
  have hlen : 0 < (bds l).length := by rw [bds_length]; omega
  have h2 := lastT_get (bds l) hlen
  have h3 : lastT (bds l) = (l[n]'(by omega)).2.toList := by
    rw [h2]
    have e : (bds l).length - 1 = n := by rw [bds_length]; omega
    have := bds_get l n (by omega)
    rw [show (bds l)[(bds l).length - 1]'(by omega) = (bds l)[n]'(by rw [bds_length]; omega) by congr 1]
    rw [this]
  have hc : chain (bds l) = true := chain_of_ok _ fun i => by
    by_cases hi : i < n + 1
    · exact h i hi
    · exact ⟨fun h' => by rw [bds_length] at h'; omega, fun h' => by rw [bds_length] at h'; omega⟩
  have hb := bds_get l 0 (by omega)
  cases e : bds l with
  | nil => rw [e] at hlen; simp at hlen
  | cons a m =>
    rw [e] at h3 hc
    have ha : a = B (l[0]'(by omega)).1 (l[0]'(by omega)).2 := by rw [← hb]; simp [e]
    show (decide (a.f = []) && chain (a :: m) && decide (lastT (a :: m) = [])) = true
    rw [h3, hc, ha]
    simp [h0, h1]
theorem not_ok_is {l : List Pair} {k : Nat} (hk : k < l.length) (h : isB (B l[k].1 l[k].2) = false) : ¬ okAt (bds l) k := by
  intro hok
  have := hok.1 (by rw [bds_length]; exact hk)
  rw [bds_get l k hk, h] at this; cases this
theorem not_ok_next {l : List Pair} {j : Nat} (hk : j + 1 < l.length) (h : nextB (B (l[j]'(by omega)).1 (l[j]'(by omega)).2) (B l[j + 1].1 l[j + 1].2) = false) : ¬ okAt (bds l) (j + 1) := by
  intro hok
  have := hok.2 (by rw [bds_length]; exact hk) (by omega)
  have e1 := bds_get l j (by omega)
  have e2 := bds_get l (j + 1) hk
  simp only [Nat.add_sub_cancel] at this
  rw [e1, e2, h] at this; cases this
theorem ok_zero {l : List Pair} (hk : 0 < l.length) (h : isB (B l[0].1 l[0].2) = true) : okAt (bds l) 0 :=
  ⟨fun _ => by rw [bds_get l 0 hk]; exact h, fun _ h0 => by omega⟩
theorem ok_succ {l : List Pair} {j : Nat} (hk : j + 1 < l.length) (h : isB (B l[j + 1].1 l[j + 1].2) = true) (h2 : nextB (B (l[j]'(by omega)).1 (l[j]'(by omega)).2) (B l[j + 1].1 l[j + 1].2) = true) : okAt (bds l) (j + 1) :=
  ⟨fun _ => by rw [bds_get l (j + 1) hk]; exact h, fun _ _ => by
    have e1 := bds_get l j (by omega)
    have e2 := bds_get l (j + 1) hk
    simp only [Nat.add_sub_cancel]
    rw [e1, e2]; exact h2⟩

/-- Calls that keep what lies below keep S. -/
theorem keptS {S : World → Prop} {f : FuncId} {args : Array Value} {v : Value} (hS : ∀ w w', S w → Below w.heap.size w w' → S w') (h : ∀ w, Calls Try.prog f args w fun e w' => e = .returned v ∧ Below w.heap.size w w') (w : World) (hw : S w) :
    Calls Try.prog f args w fun e w' => e = .returned v ∧ S w' :=
  (h w).mono fun _ _ ⟨h1, h2⟩ => ⟨h1, hS _ _ hw h2⟩

set_option maxHeartbeats 4000000 in
theorem rwhole_any (v : Value) (bs : List Pair) (w : World) (hv : SB w w.heap.size v bs) (hl : bs.length ≤ 140737488355328) (hs : ∀ p ∈ bs, p.1.size ≤ 140737488355328 ∧ p.2.size ≤ 140737488355328) :
    Calls Try.prog 31 #[v] w fun e w' => e = .returned (.bool (wholeB (bds bs))) ∧ Below w.heap.size w w' := by
  obtain ⟨A, c, hv1, hcell⟩ := hv
  subst hv1
  have HS := Lib.hid hs
  clear hs
  by_cases h0 : 0 < bs.length
  · obtain ⟨b, o, rfl, hb, hc⟩ := hcell h0
    clear hcell
    obtain ⟨n, hn⟩ : ∃ n, bs.length = n + 1 := ⟨bs.length - 1, by omega⟩
    have hlen : (n : Int) ≤ 140737488355327 := by omega
    have HC := Lib.hid hc
    have Hn := Lib.hid hn
    obtain ⟨R, hR⟩ : ∃ R, wholeB (bds bs) = R := ⟨_, rfl⟩
    rw [hR, hn]
    have hgn : n < bs.length := by omega
    have c00 := (hc 0 h0).1
    have cn1 := (hc n hgn).2
    obtain ⟨x0, hx0⟩ : ∃ x, bs[0].1 = x := ⟨_, rfl⟩
    obtain ⟨yn, hyn⟩ : ∃ x, (bs[n]'hgn).2 = x := ⟨_, rfl⟩
    rw [hx0, Nat.zero_mul, Nat.add_zero] at c00
    rw [hyn] at cn1
    clear hc hl
    by_cases h1 : x0.toList = []
    · by_cases h2 : yn.toList = []
      · have H1 := Lib.hid h1
        have H2 := Lib.hid h2
        have HR := Lib.hid hR
        have Hx0 := Lib.hid hx0
        have Hyn := Lib.hid hyn
        obtain rfl := empty_of h1
        obtain rfl := empty_of h2
        clear h1 h2 hx0 hyn hR hn
        go_enter Try.func31, Try.ntmps31
        go_wp2_with fail
        go_loopw [3] (fun vi wr => ∃ (k : Nat), k ≤ n + 1 ∧ vi = .int .i64 (k : Int) ∧ Hid (∀ i, i < k → okAt (bds bs) i) ∧ Below w.heap.size w wr) (fun vi _ => n + 1 - (intOf vi).toNat)
        case atStart => exact ⟨0, by omega, rfl, Lib.hid (fun i hi => by omega), Below.refl _ _⟩
        case round =>
          obtain ⟨k, hk, rfl, hok, hbw⟩ := hrel
          by_cases hlt : k < n + 1
          · have hlt' : k < bs.length := by rw [Hn.out]; exact hlt
            have hbz := hbw.size
            have hbk : b < wr.heap.size := by omega
            rcases k with _ | j
            · have hk1 := (hbw.cell (p := ⟨b, o + 0 * 2, none⟩) hb).trans (HC.out 0 h0).1
              have hk2 := (hbw.cell (p := ⟨b, o + 0 * 2 + 1, none⟩) hb).trans (HC.out 0 h0).2
              rw [Nat.zero_mul, Nat.add_zero] at hk1 hk2
              obtain ⟨hp1, hp2⟩ := HS.out bs[0] (List.getElem_mem h0)
              obtain ⟨x, hx⟩ : ∃ x, bs[0].1 = x := ⟨_, rfl⟩
              obtain ⟨y, hy⟩ : ∃ y, bs[0].2 = y := ⟨_, rfl⟩
              rw [hx] at hk1 hp1
              rw [hy] at hk2 hp2
              have cc := fun w => ris_any x y w hp1 hp2
              cases hi : isB (B x y) with
              | false =>
                have hfin : R = false := by rw [← HR.out]; exact whole_false (not_ok_is h0 (by rw [hx, hy]; exact hi))
                rw [hi] at cc
                have stab : ∀ w1 w2 : World, (fun w' => (Below wr.heap.size wr w' ∧ w'.cell? ⟨b, o, none⟩ = some (.string x) ∧ w'.cell? ⟨b, o + 1, none⟩ = some (.string y))) w1 → Below w1.heap.size w1 w2 → (fun w' => (Below wr.heap.size wr w' ∧ w'.cell? ⟨b, o, none⟩ = some (.string x) ∧ w'.cell? ⟨b, o + 1, none⟩ = some (.string y))) w2 := fun w1 w2 h1 h2 => by
                  have hB := h1.1.trans (h2.mono h1.1.size)
                  exact ⟨hB, (hB.cell (p := ⟨b, o, none⟩) hbk).trans hk1, (hB.cell (p := ⟨b, o + 1, none⟩) hbk).trans hk2⟩
                have ck : ∀ w', (Below wr.heap.size wr w' ∧ w'.cell? ⟨b, o, none⟩ = some (.string x) ∧ w'.cell? ⟨b, o + 1, none⟩ = some (.string y)) → _ := keptS stab cc
                have HF := Lib.hid hfin
                clear hfin hi hx hy hok stab
                go_wp2_with fail
                refine St.wp_region_steady (fun w' => (Below wr.heap.size wr w' ∧ w'.cell? ⟨b, o, none⟩ = some (.string x) ∧ w'.cell? ⟨b, o + 1, none⟩ = some (.string y))) (by kernel_rfl) (by kernel_rfl) (by kernel_rfl) ⟨(Below.refl _ _).drew, hk1, hk2⟩ ?_
                repeat (first
                  | (apply St.step_past
                     · rfl
                     simp only [Act.put, List.setIfInBounds_toArray, List.set_cons_zero, List.set_cons_succ])
                  | (apply St.step_give
                     · rfl
                     · intro w hSw
                       go_simp
                       try with_reducible rfl
                     simp only [Act.put, List.setIfInBounds_toArray, List.set_cons_zero, List.set_cons_succ])
                  | (apply St.step_into
                     · rfl
                     · intro w hSw
                       go_simp
                       exact ⟨rfl, rfl⟩
                     · first | exact ck
                     simp only [Act.put, List.setIfInBounds_toArray, List.set_cons_zero, List.set_cons_succ]))
                refine St.step_last ?_
                intro w1 hS1
                go_wp2_with fail
                go_ret
                exact ⟨ret_bool HF.out.symm, hbw.trans (hS1.1.mono hbz)⟩
              | true =>
                have hnew : ∀ i, i < 0 + 1 → okAt (bds bs) i := fun i hi' => by
                  obtain rfl : i = 0 := by omega
                  exact ok_zero h0 (by rw [hx, hy]; exact hi)
                rw [hi] at cc
                have stab : ∀ w1 w2 : World, (fun w' => (Below wr.heap.size wr w' ∧ w'.cell? ⟨b, o, none⟩ = some (.string x) ∧ w'.cell? ⟨b, o + 1, none⟩ = some (.string y))) w1 → Below w1.heap.size w1 w2 → (fun w' => (Below wr.heap.size wr w' ∧ w'.cell? ⟨b, o, none⟩ = some (.string x) ∧ w'.cell? ⟨b, o + 1, none⟩ = some (.string y))) w2 := fun w1 w2 h1 h2 => by
                  have hB := h1.1.trans (h2.mono h1.1.size)
                  exact ⟨hB, (hB.cell (p := ⟨b, o, none⟩) hbk).trans hk1, (hB.cell (p := ⟨b, o + 1, none⟩) hbk).trans hk2⟩
                have ck : ∀ w', (Below wr.heap.size wr w' ∧ w'.cell? ⟨b, o, none⟩ = some (.string x) ∧ w'.cell? ⟨b, o + 1, none⟩ = some (.string y)) → _ := keptS stab cc
                have HN := Lib.hid hnew
                clear hnew hi hx hy hok stab
                go_wp2_with fail
                refine St.wp_region_steady (fun w' => (Below wr.heap.size wr w' ∧ w'.cell? ⟨b, o, none⟩ = some (.string x) ∧ w'.cell? ⟨b, o + 1, none⟩ = some (.string y))) (by kernel_rfl) (by kernel_rfl) (by kernel_rfl) ⟨(Below.refl _ _).drew, hk1, hk2⟩ ?_
                repeat (first
                  | (apply St.step_past
                     · rfl
                     simp only [Act.put, List.setIfInBounds_toArray, List.set_cons_zero, List.set_cons_succ])
                  | (apply St.step_give
                     · rfl
                     · intro w hSw
                       go_simp
                       try with_reducible rfl
                     simp only [Act.put, List.setIfInBounds_toArray, List.set_cons_zero, List.set_cons_succ])
                  | (apply St.step_into
                     · rfl
                     · intro w hSw
                       go_simp
                       exact ⟨rfl, rfl⟩
                     · first | exact ck
                     simp only [Act.put, List.setIfInBounds_toArray, List.set_cons_zero, List.set_cons_succ]))
                refine St.step_last ?_
                intro w1 hS1
                go_wp2_with fail
                go_roundw
                case rel => exact ⟨0 + 1, by omega, by go_num, HN, hbw.trans (hS1.1.mono hbz)⟩
                case measure => simp [intOf] <;> omega
            · have hj : j < bs.length := by omega
              have hk1 := (hbw.cell (p := ⟨b, o + (j + 1) * 2, none⟩) hb).trans (HC.out (j + 1) hlt').1
              have hk2 := (hbw.cell (p := ⟨b, o + (j + 1) * 2 + 1, none⟩) hb).trans (HC.out (j + 1) hlt').2
              have hk3 := (hbw.cell (p := ⟨b, o + j * 2, none⟩) hb).trans (HC.out j hj).1
              have hk4 := (hbw.cell (p := ⟨b, o + j * 2 + 1, none⟩) hb).trans (HC.out j hj).2
              obtain ⟨hp1, hp2⟩ := HS.out bs[j + 1] (List.getElem_mem hlt')
              obtain ⟨hp3, hp4⟩ := HS.out bs[j] (List.getElem_mem hj)
              obtain ⟨x, hx⟩ : ∃ x, bs[j + 1].1 = x := ⟨_, rfl⟩
              obtain ⟨y, hy⟩ : ∃ y, bs[j + 1].2 = y := ⟨_, rfl⟩
              obtain ⟨x1, hx1⟩ : ∃ x, bs[j].1 = x := ⟨_, rfl⟩
              obtain ⟨y1, hy1⟩ : ∃ y, bs[j].2 = y := ⟨_, rfl⟩
              rw [hx] at hk1 hp1
              rw [hy] at hk2 hp2
              rw [hx1] at hk3 hp3
              rw [hy1] at hk4 hp4
              have cc := fun w => ris_any x y w hp1 hp2
              have cn := fun w => rnext_any x1 y1 x y w hp3 hp4 hp1 hp2
              have hj0 : (0 : Int) ≤ (j : Int) := by omega
              have hj1 : (j : Int) + 1 < (n : Int) + 1 := by omega
              have hj2 : (j : Int) < (n : Int) + 1 := by omega
              have hj3 : (0 : Int) ≤ (j : Int) + 1 := by omega
              have hj4 : j < n := by omega
              have hj5 : (j : Int) < (n : Int) := by omega
              have hw1 : IntKind.i64.wrap (j : Int) = (j : Int) := IntWalk.i64_in _ (by omega)
              have hw2 : IntKind.i64.wrap ((j : Int) + 1 - 1) = (j : Int) := by rw [show (j : Int) + 1 - 1 = (j : Int) by omega]; exact hw1
              cases hi : isB (B x y) with
              | false =>
                have hfin : R = false := by rw [← HR.out]; exact whole_false (not_ok_is hlt' (by rw [hx, hy]; exact hi))
                rw [hi] at cc
                have stab : ∀ w1 w2 : World, (fun w' => (Below wr.heap.size wr w' ∧ w'.cell? ⟨b, o + (j + 1) * 2, none⟩ = some (.string x) ∧ w'.cell? ⟨b, o + (j + 1) * 2 + 1, none⟩ = some (.string y) ∧ w'.cell? ⟨b, o + j * 2, none⟩ = some (.string x1) ∧ w'.cell? ⟨b, o + j * 2 + 1, none⟩ = some (.string y1))) w1 → Below w1.heap.size w1 w2 → (fun w' => (Below wr.heap.size wr w' ∧ w'.cell? ⟨b, o + (j + 1) * 2, none⟩ = some (.string x) ∧ w'.cell? ⟨b, o + (j + 1) * 2 + 1, none⟩ = some (.string y) ∧ w'.cell? ⟨b, o + j * 2, none⟩ = some (.string x1) ∧ w'.cell? ⟨b, o + j * 2 + 1, none⟩ = some (.string y1))) w2 := fun w1 w2 h1 h2 => by
                  have hB := h1.1.trans (h2.mono h1.1.size)
                  exact ⟨hB, (hB.cell (p := ⟨b, o + (j + 1) * 2, none⟩) hbk).trans hk1, (hB.cell (p := ⟨b, o + (j + 1) * 2 + 1, none⟩) hbk).trans hk2, (hB.cell (p := ⟨b, o + j * 2, none⟩) hbk).trans hk3, (hB.cell (p := ⟨b, o + j * 2 + 1, none⟩) hbk).trans hk4⟩
                have ck : ∀ w', (Below wr.heap.size wr w' ∧ w'.cell? ⟨b, o + (j + 1) * 2, none⟩ = some (.string x) ∧ w'.cell? ⟨b, o + (j + 1) * 2 + 1, none⟩ = some (.string y) ∧ w'.cell? ⟨b, o + j * 2, none⟩ = some (.string x1) ∧ w'.cell? ⟨b, o + j * 2 + 1, none⟩ = some (.string y1)) → _ := keptS stab cc
                have HF := Lib.hid hfin
                clear hfin hi hx hy hok stab hx1 hy1
                go_wp2_with fail
                refine St.wp_region_steady (fun w' => (Below wr.heap.size wr w' ∧ w'.cell? ⟨b, o + (j + 1) * 2, none⟩ = some (.string x) ∧ w'.cell? ⟨b, o + (j + 1) * 2 + 1, none⟩ = some (.string y) ∧ w'.cell? ⟨b, o + j * 2, none⟩ = some (.string x1) ∧ w'.cell? ⟨b, o + j * 2 + 1, none⟩ = some (.string y1))) (by kernel_rfl) (by kernel_rfl) (by kernel_rfl) ⟨(Below.refl _ _).drew, hk1, hk2, hk3, hk4⟩ ?_
                repeat (first
                  | (apply St.step_past
                     · rfl
                     simp only [Act.put, List.setIfInBounds_toArray, List.set_cons_zero, List.set_cons_succ])
                  | (apply St.step_give
                     · rfl
                     · intro w hSw
                       go_simp
                       try with_reducible rfl
                     simp only [Act.put, List.setIfInBounds_toArray, List.set_cons_zero, List.set_cons_succ])
                  | (apply St.step_into
                     · rfl
                     · intro w hSw
                       go_simp
                       exact ⟨rfl, rfl⟩
                     · first | exact ck
                     simp only [Act.put, List.setIfInBounds_toArray, List.set_cons_zero, List.set_cons_succ]))
                refine St.step_last ?_
                intro w1 hS1
                go_wp2_with fail
                go_ret
                exact ⟨ret_bool HF.out.symm, hbw.trans (hS1.1.mono hbz)⟩
              | true =>
                rw [hi] at cc
                cases hq : nextB (B x1 y1) (B x y) with
                | false =>
                  have hfin : R = false := by rw [← HR.out]; exact whole_false (not_ok_next hlt' (by rw [hx, hy, hx1, hy1]; exact hq))
                  rw [hq] at cn
                  have stab : ∀ w1 w2 : World, (fun w' => (Below wr.heap.size wr w' ∧ w'.cell? ⟨b, o + (j + 1) * 2, none⟩ = some (.string x) ∧ w'.cell? ⟨b, o + (j + 1) * 2 + 1, none⟩ = some (.string y) ∧ w'.cell? ⟨b, o + j * 2, none⟩ = some (.string x1) ∧ w'.cell? ⟨b, o + j * 2 + 1, none⟩ = some (.string y1))) w1 → Below w1.heap.size w1 w2 → (fun w' => (Below wr.heap.size wr w' ∧ w'.cell? ⟨b, o + (j + 1) * 2, none⟩ = some (.string x) ∧ w'.cell? ⟨b, o + (j + 1) * 2 + 1, none⟩ = some (.string y) ∧ w'.cell? ⟨b, o + j * 2, none⟩ = some (.string x1) ∧ w'.cell? ⟨b, o + j * 2 + 1, none⟩ = some (.string y1))) w2 := fun w1 w2 h1 h2 => by
                    have hB := h1.1.trans (h2.mono h1.1.size)
                    exact ⟨hB, (hB.cell (p := ⟨b, o + (j + 1) * 2, none⟩) hbk).trans hk1, (hB.cell (p := ⟨b, o + (j + 1) * 2 + 1, none⟩) hbk).trans hk2, (hB.cell (p := ⟨b, o + j * 2, none⟩) hbk).trans hk3, (hB.cell (p := ⟨b, o + j * 2 + 1, none⟩) hbk).trans hk4⟩
                  have ck : ∀ w', (Below wr.heap.size wr w' ∧ w'.cell? ⟨b, o + (j + 1) * 2, none⟩ = some (.string x) ∧ w'.cell? ⟨b, o + (j + 1) * 2 + 1, none⟩ = some (.string y) ∧ w'.cell? ⟨b, o + j * 2, none⟩ = some (.string x1) ∧ w'.cell? ⟨b, o + j * 2 + 1, none⟩ = some (.string y1)) → _ := keptS stab cc
                  have ck2 : ∀ w', (Below wr.heap.size wr w' ∧ w'.cell? ⟨b, o + (j + 1) * 2, none⟩ = some (.string x) ∧ w'.cell? ⟨b, o + (j + 1) * 2 + 1, none⟩ = some (.string y) ∧ w'.cell? ⟨b, o + j * 2, none⟩ = some (.string x1) ∧ w'.cell? ⟨b, o + j * 2 + 1, none⟩ = some (.string y1)) → _ := keptS stab cn
                  have HF := Lib.hid hfin
                  clear hfin hi hx hy hok stab hx1 hy1 hq
                  go_wp2_with fail
                  refine St.wp_region_steady (fun w' => (Below wr.heap.size wr w' ∧ w'.cell? ⟨b, o + (j + 1) * 2, none⟩ = some (.string x) ∧ w'.cell? ⟨b, o + (j + 1) * 2 + 1, none⟩ = some (.string y) ∧ w'.cell? ⟨b, o + j * 2, none⟩ = some (.string x1) ∧ w'.cell? ⟨b, o + j * 2 + 1, none⟩ = some (.string y1))) (by kernel_rfl) (by kernel_rfl) (by kernel_rfl) ⟨(Below.refl _ _).drew, hk1, hk2, hk3, hk4⟩ ?_
                  repeat (first
                    | (apply St.step_past
                       · rfl
                       simp only [Act.put, List.setIfInBounds_toArray, List.set_cons_zero, List.set_cons_succ])
                    | (apply St.step_give
                       · rfl
                       · intro w hSw
                         go_simp
                         try with_reducible rfl
                       simp only [Act.put, List.setIfInBounds_toArray, List.set_cons_zero, List.set_cons_succ])
                    | (apply St.step_into
                       · rfl
                       · intro w hSw
                         go_simp
                         exact ⟨rfl, rfl⟩
                       · first | exact ck | exact ck2
                       simp only [Act.put, List.setIfInBounds_toArray, List.set_cons_zero, List.set_cons_succ]))
                  refine St.step_last ?_
                  intro w1 hS1
                  go_wp2_with fail
                  go_ret
                  exact ⟨ret_bool HF.out.symm, hbw.trans (hS1.1.mono hbz)⟩
                | true =>
                  have hnew : ∀ i, i < j + 1 + 1 → okAt (bds bs) i := fun i hi' => by
                    by_cases hij : i < j + 1
                    · exact hok.out i hij
                    · obtain rfl : i = j + 1 := by omega
                      exact ok_succ hlt' (by rw [hx, hy]; exact hi) (by rw [hx, hy, hx1, hy1]; exact hq)
                  rw [hq] at cn
                  have stab : ∀ w1 w2 : World, (fun w' => (Below wr.heap.size wr w' ∧ w'.cell? ⟨b, o + (j + 1) * 2, none⟩ = some (.string x) ∧ w'.cell? ⟨b, o + (j + 1) * 2 + 1, none⟩ = some (.string y) ∧ w'.cell? ⟨b, o + j * 2, none⟩ = some (.string x1) ∧ w'.cell? ⟨b, o + j * 2 + 1, none⟩ = some (.string y1))) w1 → Below w1.heap.size w1 w2 → (fun w' => (Below wr.heap.size wr w' ∧ w'.cell? ⟨b, o + (j + 1) * 2, none⟩ = some (.string x) ∧ w'.cell? ⟨b, o + (j + 1) * 2 + 1, none⟩ = some (.string y) ∧ w'.cell? ⟨b, o + j * 2, none⟩ = some (.string x1) ∧ w'.cell? ⟨b, o + j * 2 + 1, none⟩ = some (.string y1))) w2 := fun w1 w2 h1 h2 => by
                    have hB := h1.1.trans (h2.mono h1.1.size)
                    exact ⟨hB, (hB.cell (p := ⟨b, o + (j + 1) * 2, none⟩) hbk).trans hk1, (hB.cell (p := ⟨b, o + (j + 1) * 2 + 1, none⟩) hbk).trans hk2, (hB.cell (p := ⟨b, o + j * 2, none⟩) hbk).trans hk3, (hB.cell (p := ⟨b, o + j * 2 + 1, none⟩) hbk).trans hk4⟩
                  have ck : ∀ w', (Below wr.heap.size wr w' ∧ w'.cell? ⟨b, o + (j + 1) * 2, none⟩ = some (.string x) ∧ w'.cell? ⟨b, o + (j + 1) * 2 + 1, none⟩ = some (.string y) ∧ w'.cell? ⟨b, o + j * 2, none⟩ = some (.string x1) ∧ w'.cell? ⟨b, o + j * 2 + 1, none⟩ = some (.string y1)) → _ := keptS stab cc
                  have ck2 : ∀ w', (Below wr.heap.size wr w' ∧ w'.cell? ⟨b, o + (j + 1) * 2, none⟩ = some (.string x) ∧ w'.cell? ⟨b, o + (j + 1) * 2 + 1, none⟩ = some (.string y) ∧ w'.cell? ⟨b, o + j * 2, none⟩ = some (.string x1) ∧ w'.cell? ⟨b, o + j * 2 + 1, none⟩ = some (.string y1)) → _ := keptS stab cn
                  have HN := Lib.hid hnew
                  clear hnew hi hx hy hok stab hx1 hy1 hq
                  go_wp2_with fail
                  refine St.wp_region_steady (fun w' => (Below wr.heap.size wr w' ∧ w'.cell? ⟨b, o + (j + 1) * 2, none⟩ = some (.string x) ∧ w'.cell? ⟨b, o + (j + 1) * 2 + 1, none⟩ = some (.string y) ∧ w'.cell? ⟨b, o + j * 2, none⟩ = some (.string x1) ∧ w'.cell? ⟨b, o + j * 2 + 1, none⟩ = some (.string y1))) (by kernel_rfl) (by kernel_rfl) (by kernel_rfl) ⟨(Below.refl _ _).drew, hk1, hk2, hk3, hk4⟩ ?_
                  repeat (first
                    | (apply St.step_past
                       · rfl
                       simp only [Act.put, List.setIfInBounds_toArray, List.set_cons_zero, List.set_cons_succ])
                    | (apply St.step_give
                       · rfl
                       · intro w hSw
                         go_simp
                         try with_reducible rfl
                       simp only [Act.put, List.setIfInBounds_toArray, List.set_cons_zero, List.set_cons_succ])
                    | (apply St.step_into
                       · rfl
                       · intro w hSw
                         go_simp
                         exact ⟨rfl, rfl⟩
                       · first | exact ck | exact ck2
                       simp only [Act.put, List.setIfInBounds_toArray, List.set_cons_zero, List.set_cons_succ]))
                  refine St.step_last ?_
                  intro w1 hS1
                  go_wp2_with fail
                  go_roundw
                  case rel => exact ⟨j + 1 + 1, by omega, by go_num, HN, hbw.trans (hS1.1.mono hbz)⟩
                  case measure => simp [intOf] <;> omega
          · obtain rfl : k = n + 1 := by omega
            have hfin : R = true := by
              rw [← HR.out]
              exact whole_true Hn.out (by rw [Hx0.out]; exact H1.out) (by rw [Hyn.out]; exact H2.out) hok.out
            have HF := Lib.hid hfin
            clear hfin
            go_wp2_with fail
            go_ret
            exact ⟨ret_bool HF.out.symm, hbw⟩
      · have hfin : R = false := by rw [← hR]; exact whole_tail hn (by rw [hyn]; exact h2)
        have n2 := isEmpty_no h2
        obtain rfl := empty_of h1
        have HF := Lib.hid hfin
        clear hfin h2 hx0 hyn hR hn h1
        go_enter Try.func31, Try.ntmps31
        go_wp2_with fail
        go_ret
        exact ⟨ret_bool HF.out.symm, Below.refl _ _⟩
    · have hfin : R = false := by rw [← hR]; exact whole_head h0 (by rw [hx0]; exact h1)
      have n1 := isEmpty_no h1
      have HF := Lib.hid hfin
      clear hfin h1 hx0 hyn hR hn
      go_enter Try.func31, Try.ntmps31
      go_wp2_with fail
      go_ret
      exact ⟨ret_bool HF.out.symm, Below.refl _ _⟩
  · have hz : bs.length = 0 := by omega
    obtain rfl : bs = [] := List.length_eq_zero_iff.1 hz
    clear hcell h0 hz
    go_enter Try.func31, Try.ntmps31
    go_wp2_with fail
    go_ret
    exact ⟨rfl, Below.refl _ _⟩

end Go.Proofs.Ytbjgpcfimpmjiaa

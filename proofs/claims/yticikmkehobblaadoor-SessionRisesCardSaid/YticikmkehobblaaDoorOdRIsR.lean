/-
  The document's own word on whether a reply may be. Conditions: texts at most 2^47 bytes, at most 2^47 pairs.
-/
import Derived.Test.YticikmkehobblaaDoorOdReply
import Derived.Test.YticikmkehobblaaDoorBndA
import Derived.BigQuiet
namespace Go.Proofs.YticikmkehobblaaDoor.Od
open Go.RowKit Bnd
open Go.Proofs.YticikmkehobblaaDoor.O (Bd isB keyB)

theorem isR_head (r : Rep) : isR r = ((decide (0 ≤ r.code) && (decide (r.code ≤ 4) && (tellsB r.code r.err && (decide (r.val.size ≤ 65536) && decide (r.ps.length ≤ 100))))) && r.ps.all pairB) := by
  unfold isR amongB
  rw [Bool.eq_iff_iff]
  simp only [Bool.and_eq_true, decide_eq_true_eq]
  constructor
  · rintro ⟨⟨⟨⟨h1, h2⟩, h3⟩, h4, h5⟩, h6⟩; exact ⟨⟨h1, h2, h3, h4, h5⟩, h6⟩
  · rintro ⟨⟨h1, h2, h3, h4, h5⟩, h6⟩; exact ⟨⟨⟨⟨h1, h2⟩, h3⟩, h4, h5⟩, h6⟩
theorem isR_no {r : Rep} (h : ¬ (0 ≤ r.code ∧ r.code ≤ 4 ∧ tellsB r.code r.err = true ∧ r.val.size ≤ 65536 ∧ r.ps.length ≤ 100)) : isR r = false := by
  rw [isR_head]
  cases e : (decide (0 ≤ r.code) && (decide (r.code ≤ 4) && (tellsB r.code r.err && (decide (r.val.size ≤ 65536) && decide (r.ps.length ≤ 100))))) with
  | false => rfl
  | true =>
    simp only [Bool.and_eq_true, decide_eq_true_eq] at e
    exact absurd e h

set_option maxHeartbeats 8000000 in
set_option maxRecDepth 100000 in
theorem risR_any (r : Rep) (s : Value) (w : World) (hs : SP w w.heap.size s r.ps) (hv : r.val.size ≤ 140737488355328) (hl : r.ps.length ≤ 140737488355328) (hp : ∀ p ∈ r.ps, p.1.size ≤ 140737488355328 ∧ p.2.size ≤ 140737488355328) :
    Calls Tryd.prog 33 #[rv r s] w fun e w' => e = .returned (.bool (isR r)) ∧ Below w.heap.size w w' := by
  obtain ⟨A, c, rfl⟩ := hs.form
  obtain ⟨code, err, has, val, ps⟩ := r
  simp only at hs hv hl hp ⊢
  obtain ⟨R, hR⟩ : ∃ R, isR ⟨code, err, has, val, ps⟩ = R := ⟨_, rfl⟩
  have hno := isR_no (r := ⟨code, err, has, val, ps⟩)
  rw [hR] at hno ⊢
  simp only at hno
  by_cases h1 : 0 ≤ code
  rotate_left
  · have e : R = false := hno (fun h => h1 h.1)
    subst e
    have g1 : (code < 0) = True := eq_true (by omega)
    clear h1 hno hR
    go_enter Tryd.func33, Tryd.ntmps33
    go_wp2_with fail
    go_ret
    exact ⟨rfl, (by (repeat' (first | with_reducible assumption | with_reducible exact Below.refl _ _ | with_reducible refine Below.alloc ?_ ?_ _ | with_reducible refine Below.setCell ?_ ?_ _ | with_reducible refine Below.drew ?_ | omega | (simp; done) | (simp; omega))))⟩
  by_cases h2 : code ≤ 4
  rotate_left
  · have e : R = false := hno (fun h => h2 h.2.1)
    subst e
    have g1 : (code < 0) = False := eq_false (by omega)
    have g2 : (code > 4) = True := eq_true (by omega)
    clear h1 h2 hno hR
    go_enter Tryd.func33, Tryd.ntmps33
    go_wp2_with fail
    go_ret
    exact ⟨rfl, (by (repeat' (first | with_reducible assumption | with_reducible exact Below.refl _ _ | with_reducible refine Below.alloc ?_ ?_ _ | with_reducible refine Below.setCell ?_ ?_ _ | with_reducible refine Below.drew ?_ | omega | (simp; done) | (simp; omega))))⟩
  have g1 : (code < 0) = False := eq_false (by omega)
  have g2 : (code > 4) = False := eq_false (by omega)
  by_cases ht : tellsB code err = true
  rotate_left
  · have e : R = false := hno (fun h => ht h.2.2.1)
    subst e
    clear hno hR
    by_cases h4 : code = 4
    · subst h4
      have hx : ¬ (1 ≤ err ∧ err ≤ 999) := fun h => ht (by unfold tellsB amongB; simp; omega)
      clear ht h1 h2 g1 g2
      by_cases x1 : 1 ≤ err
      · have y1 : (err ≥ 1) = True := eq_true (by omega)
        have y2 : (err ≤ 999) = False := eq_false (by omega)
        clear hx x1
        go_enter Tryd.func33, Tryd.ntmps33
        go_wp2_with fail
        go_ret
        exact ⟨rfl, (by (repeat' (first | with_reducible assumption | with_reducible exact Below.refl _ _ | with_reducible refine Below.alloc ?_ ?_ _ | with_reducible refine Below.setCell ?_ ?_ _ | with_reducible refine Below.drew ?_ | omega | (simp; done) | (simp; omega))))⟩
      · have y1 : (err ≥ 1) = False := eq_false (by omega)
        clear hx x1
        go_enter Tryd.func33, Tryd.ntmps33
        go_wp2_with fail
        go_ret
        exact ⟨rfl, (by (repeat' (first | with_reducible assumption | with_reducible exact Below.refl _ _ | with_reducible refine Below.alloc ?_ ?_ _ | with_reducible refine Below.setCell ?_ ?_ _ | with_reducible refine Below.drew ?_ | omega | (simp; done) | (simp; omega))))⟩
    · have hx : err ≠ 0 := fun h => ht (by unfold tellsB; rw [if_neg h4]; simpa using h)
      have g3 : (code == 4) = false := by simpa using h4
      have g4 : (code != 4) = true := by simpa using h4
      have g5 : (err != 0) = true := by simpa using hx
      clear ht h1 h2 h4
      by_cases x1 : 1 ≤ err
      · have y1 : (err ≥ 1) = True := eq_true (by omega)
        by_cases x2 : err ≤ 999
        · have y2 : (err ≤ 999) = True := eq_true (by omega)
          clear hx x1 x2
          go_enter Tryd.func33, Tryd.ntmps33
          go_wp2_with fail
          go_ret
          exact ⟨rfl, (by (repeat' (first | with_reducible assumption | with_reducible exact Below.refl _ _ | with_reducible refine Below.alloc ?_ ?_ _ | with_reducible refine Below.setCell ?_ ?_ _ | with_reducible refine Below.drew ?_ | omega | (simp; done) | (simp; omega))))⟩
        · have y2 : (err ≤ 999) = False := eq_false (by omega)
          clear hx x1 x2
          go_enter Tryd.func33, Tryd.ntmps33
          go_wp2_with fail
          go_ret
          exact ⟨rfl, (by (repeat' (first | with_reducible assumption | with_reducible exact Below.refl _ _ | with_reducible refine Below.alloc ?_ ?_ _ | with_reducible refine Below.setCell ?_ ?_ _ | with_reducible refine Below.drew ?_ | omega | (simp; done) | (simp; omega))))⟩
      · have y1 : (err ≥ 1) = False := eq_false (by omega)
        clear hx x1
        go_enter Tryd.func33, Tryd.ntmps33
        go_wp2_with fail
        go_ret
        exact ⟨rfl, (by (repeat' (first | with_reducible assumption | with_reducible exact Below.refl _ _ | with_reducible refine Below.alloc ?_ ?_ _ | with_reducible refine Below.setCell ?_ ?_ _ | with_reducible refine Below.drew ?_ | omega | (simp; done) | (simp; omega))))⟩
  have hE : ∃ E4 : Bool, (code == 4) = E4 ∧ (code != 4) = !E4 ∧ ((E4 = true ∧ (err ≥ 1) = True ∧ (err ≤ 999) = True) ∨ (E4 = false ∧ (err ≥ 1) = False ∧ (err != 0) = false)) := by
    unfold tellsB at ht
    by_cases h4 : code = 4
    · rw [if_pos h4] at ht
      unfold amongB at ht
      rw [decide_eq_true_eq] at ht
      exact ⟨true, by simpa using h4, by simpa using h4, .inl ⟨rfl, eq_true (by omega), eq_true (by omega)⟩⟩
    · rw [if_neg h4, decide_eq_true_eq] at ht
      exact ⟨false, by simpa using h4, by simpa using h4, .inr ⟨rfl, eq_false (by omega), by simpa using ht⟩⟩
  obtain ⟨E4, k1, k2, k3⟩ := hE
  by_cases h3 : val.size ≤ 65536
  rotate_left
  · have e : R = false := hno (fun h => h3 h.2.2.2.1)
    subst e
    have g3 : ((val.size : Int) > 65536) = True := eq_true (by omega)
    clear hno hR ht h1 h2 h3
    rcases k3 with ⟨rfl, y1, y2⟩ | ⟨rfl, y1, y2⟩
    all_goals
      go_enter Tryd.func33, Tryd.ntmps33
      go_wp2_with fail
      go_ret
      exact ⟨rfl, (by (repeat' (first | with_reducible assumption | with_reducible exact Below.refl _ _ | with_reducible refine Below.alloc ?_ ?_ _ | with_reducible refine Below.setCell ?_ ?_ _ | with_reducible refine Below.drew ?_ | omega | (simp; done) | (simp; omega))))⟩
  have g3 : ((val.size : Int) > 65536) = False := eq_false (by omega)
  by_cases h4 : ps.length ≤ 100
  rotate_left
  · have e : R = false := hno (fun h => h4 h.2.2.2.2)
    subst e
    have g4 : ((ps.length : Int) > 100) = True := eq_true (by omega)
    clear hno hR ht h1 h2 h3 h4
    rcases k3 with ⟨rfl, y1, y2⟩ | ⟨rfl, y1, y2⟩
    all_goals
      go_enter Tryd.func33, Tryd.ntmps33
      go_wp2_with fail
      go_ret
      exact ⟨rfl, (by (repeat' (first | with_reducible assumption | with_reducible exact Below.refl _ _ | with_reducible refine Below.alloc ?_ ?_ _ | with_reducible refine Below.setCell ?_ ?_ _ | with_reducible refine Below.drew ?_ | omega | (simp; done) | (simp; omega))))⟩
  have g4 : ((ps.length : Int) > 100) = False := eq_false (by omega)
  have hR' : R = ps.all pairB := by
    rw [← hR, isR_head]
    simp only
    rw [ht, decide_eq_true h1, decide_eq_true h2, decide_eq_true h3, decide_eq_true h4]
    simp
  have HR := Lib.hid hR'
  have HL := Lib.hid h4
  clear hno hR ht h1 h2 h3 h4 hR' hv hl
  have B0 : BoxR w.heap.size ⟨code, err, has, val, ps⟩ (.slice A ps.length c) (w.alloc (.cells #[.int .i64 code, .int .i64 err, .bool has, .string val, .slice A ps.length c] 26)) := BoxR.new w ⟨code, err, has, val, ps⟩ (.slice A ps.length c)
  have hs1 : SP (w.alloc (.cells #[.int .i64 code, .int .i64 err, .bool has, .string val, .slice A ps.length c] 26)) w.heap.size (.slice A ps.length c) ps := hs.below ((Below.refl _ w).alloc (Nat.le_refl _) _)
  have hbw : Below w.heap.size w (w.alloc (.cells #[.int .i64 code, .int .i64 err, .bool has, .string val, .slice A ps.length c] 26)) := (Below.refl _ w).alloc (Nat.le_refl _) _
  obtain ⟨W1, hW1⟩ : ∃ W1, w.alloc (.cells #[.int .i64 code, .int .i64 err, .bool has, .string val, .slice A ps.length c] 26) = W1 := ⟨_, rfl⟩
  rw [hW1] at B0 hs1 hbw
  obtain ⟨z, hz⟩ : ∃ z, z = ps.length := ⟨_, rfl⟩
  have HZ := Lib.hid hz
  have hz100 : z ≤ 100 := by have := HL.out; omega
  rw [← hz] at B0 hs1 hW1 g4 ⊢
  clear hz
  rcases k3 with ⟨rfl, y1, y2⟩ | ⟨rfl, y1, y2⟩
  all_goals
    obtain ⟨p_0, ⟨p_1, p_2, p_3, p_4, p_5⟩, p_6⟩ := _root_.id B0
    simp only at p_1 p_2 p_3 p_4 p_5
    go_enter Tryd.func33, Tryd.ntmps33
    go_wp2_with fail
    try rw [hW1]
    clear p_0 p_1 p_2 p_3 p_4 p_5 p_6

    go_loopw [3] (fun vi wr => ∃ k, k ≤ z ∧ vi = .int .i64 (k : Int) ∧ Hid ((ps.take k).all pairB = true) ∧ wr = W1) (fun vi _ => z - (intOf vi).toNat)
    case atStart => exact ⟨0, Nat.zero_le _, rfl, Lib.hid rfl, rfl⟩
    case round =>
      obtain ⟨k, hk, rfl, HP, rfl⟩ := hrel
      have B1 := B0
      obtain ⟨p_0, ⟨p_1, p_2, p_3, p_4, p_5⟩, p_6⟩ := _root_.id B1
      simp only at p_1 p_2 p_3 p_4 p_5
      by_cases hlt : k < z
      · have hkx : k < ps.length := by rw [← HZ.out]; exact hlt
        obtain ⟨b, o, rfl, hb, hc1, hc2⟩ := hs1.at_ hkx
        have hsz := hp _ (List.getElem_mem hkx)
        have hall : (ps.take (k + 1)).all pairB = pairB ps[k] := by
          rw [List.take_succ_eq_append_getElem hkx, List.all_append, HP.out]
          simp
        have hfull : pairB ps[k] = false → ps.all pairB = false := by
          intro h
          cases e : ps.all pairB with
          | false => rfl
          | true => rw [List.all_eq_true] at e; rw [e _ (List.getElem_mem hkx)] at h; cases h
        obtain ⟨⟨x, y⟩, hm⟩ : ∃ m, ps[k] = m := ⟨_, rfl⟩
        rw [hm] at hc1 hc2 hsz hall hfull
        simp only at hc1 hc2 hsz
        have ck := fun w => rkey_any x w hsz.1
        have hk0 : (0 : Int) ≤ (k : Int) := by omega
        have hk1 : (k : Int) < (z : Int) := by omega
        clear hm
        unfold pairB at hall hfull
        simp only at hall hfull
        cases hkey : keyB x.toList with
        | false =>
          rw [hkey] at ck hfull
          have HF := Lib.hid (HR.out.trans (hfull rfl))
          clear hkey hall hfull hsz
          go_wp2_with fail
          refine (ck _).mono ?_
          rintro e w1 ⟨rfl, rfl⟩
          go_wp2_with fail
          go_ret
          exact ⟨ret_bool (by rw [HF.out]), hbw⟩
        | true =>
          rw [hkey] at ck hfull hall
          by_cases hy : y.size ≤ 512
          · have j1 : ((y.size : Int) > 512) = False := eq_false (by omega)
            rw [decide_eq_true hy] at hall
            have HN := Lib.hid (show (ps.take (k + 1)).all pairB = true from hall)
            clear hkey hall hfull hsz hy
            go_wp2_with fail
            refine (ck _).mono ?_
            rintro e w1 ⟨rfl, rfl⟩
            go_wp2_with fail
            go_roundw
            case rel => exact ⟨k + 1, by omega, by go_num, HN, trivial⟩
            case measure => simp [intOf]; omega
          · have j1 : ((y.size : Int) > 512) = True := eq_true (by omega)
            rw [decide_eq_false hy] at hfull
            have HF := Lib.hid (HR.out.trans (hfull rfl))
            clear hkey hall hfull hsz hy
            go_wp2_with fail
            refine (ck _).mono ?_
            rintro e w1 ⟨rfl, rfl⟩
            go_wp2_with fail
            go_ret
            exact ⟨ret_bool (by rw [HF.out]), hbw⟩
      · obtain rfl : k = z := by omega
        have HF := Lib.hid (show R = true by rw [HR.out, ← HP.out, HZ.out, List.take_length])
        have l0 : ((k : Int) < (k : Int)) = False := eq_false (by omega)
        go_wp2_with fail
        go_ret
        exact ⟨ret_bool (by rw [HF.out]), hbw⟩
end Go.Proofs.YticikmkehobblaaDoor.Od

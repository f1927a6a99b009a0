/-
  Whether a message, a packet has fields such as it has to have, the program's answers: among, isNode, fitsEntries, fitsWire, fitsStatus, fits. Conditions: lengths at most 2^47; the library's variables hold what their types allow.
  Whether a packet has fields such as it has to have, the program's answers: fitsStatus, fits. Conditions: lengths at most 2^47; the library's variables hold what their types allow.
-/
import Derived.Test.YtkpakiiijphjeaaGreatDoorPPoB
import Derived.Test.YtkpakiiijphjeaaGreatDoorPOdPCA
import Derived.Test.YtkpakiiijphjeaaGreatDoorPRoA
namespace Go.Proofs.YtkpakiiijphjeaaGreatDoor.Po
open Go.RowKit Bnd
open Go.Proofs.YtkpakiiijphjeaaGreatDoor.Od (Rep SP amongB isR isA chkA chkR)
open Go.Proofs.YtkpakiiijphjeaaGreatDoor.Ro (En SE Lg isL chkL riseE)
theorem among_any (n a b : Int) (w : World) : Calls Tryz.prog 19 #[.int .i64 n, .int .i64 a, .int .i64 b] w fun e w' => e = .returned (.bool (amongB n a b)) ∧ w = w' := by
  by_cases h1 : a ≤ n
  · by_cases h2 : n ≤ b
    all_goals
      have e : amongB n a b = decide (n ≤ b) := by simp [amongB, h1]
      rw [e]
      clear e
      go_enter Tryz.func19, Tryz.ntmps19
      go_wp2_with fail
      go_ret
      exact ⟨ret_bool (by simp [h2]), rfl⟩
  · have e : amongB n a b = false := by simp [amongB, h1]
    rw [e]
    clear e
    go_enter Tryz.func19, Tryz.ntmps19
    go_wp2_with fail
    go_ret
    exact ⟨rfl, rfl⟩
theorem isNode_any (n : Int) (w : World) : Calls Tryz.prog 58 #[.int .i64 n] w fun e w' => e = .returned (.bool (nodeB n)) ∧ w = w' := by
  have c := fun w => among_any n 1 7 w
  go_enter Tryz.func58, Tryz.ntmps58
  go_wp2_with fail
  refine (c _).mono ?_
  rintro e w1 ⟨rfl, rfl⟩
  go_wp2_with fail
  go_ret
  exact ⟨rfl, rfl⟩
theorem allE_at {P : List En} {k : Nat} (h : k < P.length) : (P.drop k).all (fun e => decide (e.2.size ≤ 131072)) = (decide (P[k].2.size ≤ 131072) && (P.drop (k + 1)).all (fun e => decide (e.2.size ≤ 131072))) := by
  rw [List.drop_eq_getElem_cons h, List.all_cons]
set_option maxHeartbeats 8000000 in
set_option maxRecDepth 100000 in
theorem fitsE_any (m : Wr) (s : Value) (w : World) (hs : SE w w.heap.size s m.es) (hl : m.es.length ≤ 140737488355328) (hsz : ∀ e ∈ m.es, e.2.size ≤ 140737488355328) :
    Calls Tryz.prog 94 #[wv m s] w fun e w' => e = .returned (.bool (fitsE m)) ∧ Below w.heap.size w w' := by
  obtain ⟨A, c, rfl⟩ := hs.form
  obtain ⟨es, hes⟩ : ∃ es, m.es = es := ⟨_, rfl⟩
  rw [hes] at hs hl hsz ⊢
  obtain ⟨N, hN⟩ : ∃ N, es.length = N := ⟨_, rfl⟩
  have HN := Lib.hid hN
  have HV := Lib.hid hs
  rw [hN] at hl ⊢
  clear hs
  by_cases h1 : N ≤ 64
  rotate_left
  · have e : fitsE m = false := by unfold fitsE; rw [hes, decide_eq_false (by omega)]; rfl
    rw [e]
    have g1 : ((64 : Int) < (N : Int)) = True := eq_true (by omega)
    clear e h1 hN hl hes
    go_enter Tryz.func94, Tryz.ntmps94
    go_wp2_with fail
    go_ret
    exact ⟨rfl, (by (repeat' (first | with_reducible assumption | with_reducible exact Below.refl _ _ | with_reducible refine Below.alloc ?_ ?_ _ | with_reducible refine Below.setCell ?_ ?_ _ | with_reducible refine Below.drew ?_ | omega | (simp; done) | (simp; omega))))⟩
  have g1 : ((64 : Int) < (N : Int)) = False := eq_false (by omega)
  obtain ⟨q, hq⟩ : ∃ q, isL ⟨m.index, m.lterm, es⟩ = q := ⟨_, rfl⟩
  have he : fitsE m = ((es.drop 0).all (fun e => decide (e.2.size ≤ 131072)) && q) := by unfold fitsE; rw [hes, decide_eq_true (by omega), hq]; simp
  obtain ⟨R, hR⟩ : ∃ R, (es.drop 0).all (fun e => decide (e.2.size ≤ 131072)) = R := ⟨_, rfl⟩
  rw [he, hR]
  have HR := Lib.hid hR
  have HSZ := Lib.hid hsz
  have ck := fun w h1 => Ro.check_any ⟨m.index, m.lterm, es⟩ (.slice A N c) w h1 (by simp only; omega)
  have hck : chkL ⟨m.index, m.lterm, es⟩ = if q then 0 else 110 := by unfold chkL; rw [hq]
  rw [hck] at ck
  have B0 := BoxW.new w ⟨m, .slice A N c⟩
  obtain ⟨mk, mf, mt, mm, mi, ml, mc, mh, mr, mes, mx⟩ := m
  simp only at hes ck B0 ⊢
  subst hes
  clear hR he hq hN hsz hck h1
  go_enter Tryz.func94, Tryz.ntmps94
  go_wp2_with fail
  obtain ⟨W0, hW0⟩ : ∃ W0, w.alloc (.cells (arrBoxW ⟨⟨mk, mf, mt, mm, mi, ml, mc, mh, mr, mes, mx⟩, .slice A N c⟩) 24) = W0 := ⟨_, rfl⟩
  have B1 : BoxW w.heap.size ⟨⟨mk, mf, mt, mm, mi, ml, mc, mh, mr, mes, mx⟩, .slice A N c⟩ W0 := hW0 ▸ B0
  unfold arrBoxW at hW0
  try rw [hW0]
  have hb0 : Below w.heap.size w W0 := by rw [← hW0]; exact (Below.refl _ w).alloc (Nat.le_refl _) _
  have hz0 : w.heap.size < W0.heap.size := B1.lt
  have HV0 := Lib.hid ((HV.out.below hb0).more hb0.size)
  have HB := Lib.hid B1
  clear hW0 B0 B1 HV
  go_loopw [4, 12] (fun _ vi wr => ∃ (k : Nat), k ≤ N ∧ vi = .int .i64 (k : Int) ∧ Hid (R = (mes.drop k).all (fun e => decide (e.2.size ≤ 131072))) ∧ Below W0.heap.size W0 wr) (fun _ vi _ => N - (intOf vi).toNat)
  case atStart => exact ⟨0, Nat.zero_le _, rfl, Lib.hid HR.out.symm, Below.refl _ _⟩
  case round =>
    obtain ⟨k, hk, rfl, HG, hbw⟩ := hrel
    have hz := hbw.size
    have hbx : Below w.heap.size w wr := hb0.trans (hbw.mono (by omega))
    by_cases hlt : k < N
    rotate_left
    · obtain rfl : k = N := by omega
      have hg := HG.out
      rw [List.drop_of_length_le (by have := HN.out; omega)] at hg
      obtain rfl : R = true := hg
      clear HG HR
      have B2 := HB.out.below hz0 hbw
      obtain ⟨p0, p1, p2, p3, p4, p5, p6, p7, p8, p9, p10⟩ := B2.cells
      have hv1 := (HV0.out.below hbw).more hbw.size
      rw [HN.out] at hv1
      cases q
      all_goals
        simp only [Bool.false_eq_true, if_false, if_true] at ck
        have ck2 := ck wr hv1
        clear ck
        go_wp2_with fail
        refine ck2.mono ?_
        rintro e w1 ⟨rfl, b1⟩
        have hbx1 := hbx.trans (b1.mono hbx.size)
        go_wp2_with fail
        go_ret
        exact ⟨rfl, hbx1⟩
    · have hkx : k < mes.length := by rw [HN.out]; exact hlt
      have hv1 := HV0.out.below hbw
      rw [HN.out] at hv1
      obtain ⟨b, o, rfl, hb, q0, q1⟩ := hv1.at_ hkx
      have hg := HG.out
      rw [allE_at hkx] at hg
      have hsk := HSZ.out _ (List.getElem_mem hkx)
      obtain ⟨⟨x, y⟩, hx⟩ : ∃ x, mes[k] = x := ⟨_, rfl⟩
      rw [hx] at q0 q1 hg hsk
      simp only at q0 q1 hg hsk
      have k0 : (0 ≤ (k : Int)) = True := eq_true (by omega)
      have k1 : ((k : Int) < (N : Int)) = True := eq_true (by omega)
      have hk1 : (k : Int) < (N : Int) := by omega
      have hbz : b < wr.heap.size := by omega
      clear hv1 hx hkx ck
      by_cases h1 : y.size ≤ 131072
      · rw [decide_eq_true h1, Bool.true_and] at hg
        have g2 : ((131072 : Int) < (y.size : Int)) = False := eq_false (by omega)
        have HG2 := Lib.hid hg
        clear hg h1 HG HR
        go_wp2_with fail
        go_roundw
        case rel => exact ⟨k + 1, by omega, by go_num, HG2, (by (repeat' (first | with_reducible assumption | with_reducible exact Below.refl _ _ | with_reducible refine Below.alloc ?_ ?_ _ | with_reducible refine Below.setCell ?_ ?_ _ | with_reducible refine Below.drew ?_ | omega | (simp; done) | (simp; omega))))⟩
        case measure => simp [intOf]; omega
      · rw [decide_eq_false h1, Bool.false_and] at hg
        have g2 : ((131072 : Int) < (y.size : Int)) = True := eq_true (by omega)
        subst hg
        clear h1 HG HR
        go_wp2_with fail
        go_ret
        exact ⟨rfl, (by (repeat' (first | with_reducible assumption | with_reducible exact Below.refl _ _ | with_reducible refine Below.alloc ?_ ?_ _ | with_reducible refine Below.setCell ?_ ?_ _ | with_reducible refine Below.drew ?_ | omega | (simp; done) | (simp; omega))))⟩
set_option maxHeartbeats 8000000 in
set_option maxRecDepth 100000 in
theorem fitsW_any (m : Wr) (s : Value) (w : World) (hs : SE w w.heap.size s m.es) (hl : m.es.length ≤ 140737488355328) (hsz : ∀ e ∈ m.es, e.2.size ≤ 140737488355328) (hx : m.text.size ≤ 140737488355328) :
    Calls Tryz.prog 59 #[wv m s] w fun e w' => e = .returned (.bool (fitsW m)) ∧ Below w.heap.size w w' := by
  obtain ⟨A, c, rfl⟩ := hs.form
  have B0 := BoxW.new w ⟨m, .slice A m.es.length c⟩
  have ce := fun w h => fitsE_any m (.slice A m.es.length c) w h hl hsz
  have hv : ∀ w1, Below w.heap.size w w1 → SE w1 w1.heap.size (.slice A m.es.length c) m.es := fun w1 h => (hs.below h).more h.size
  obtain ⟨q, hq⟩ : ∃ q, fitsE m = q := ⟨_, rfl⟩
  obtain ⟨r, hr⟩ : ∃ r, fitsW m = r := ⟨_, rfl⟩
  have hrq := hr
  unfold fitsW at hrq
  rw [hr]
  rw [hq] at hrq ce
  clear hq hr hs hl hsz
  obtain ⟨mk, mf, mt, mm, mi, ml, mc, mh, mr, mes, mx⟩ := m
  simp only at hrq B0 ce hv hx ⊢
  obtain ⟨N, hN⟩ : ∃ N, mes.length = N := ⟨_, rfl⟩
  rw [hN] at B0 ce hv ⊢
  clear hN
  have c1 := fun w => among_any mk 1 7 w
  cases h1 : amongB mk 1 7 with
  | false =>
    have hr : r = false := by rw [← hrq, h1]; simp
    subst hr
    rw [h1] at c1
    clear hrq h1 ce hv B0
    go_enter Tryz.func59, Tryz.ntmps59
    go_wp2_with fail
    refine (c1 _).mono ?_
    rintro e w1 ⟨rfl, rfl⟩
    go_wp2_with fail
    go_ret
    exact ⟨rfl, (by (repeat' (first | with_reducible assumption | with_reducible exact Below.refl _ _ | with_reducible refine Below.alloc ?_ ?_ _ | with_reducible refine Below.setCell ?_ ?_ _ | with_reducible refine Below.drew ?_ | omega | (simp; done) | (simp; omega))))⟩
  | true =>
  rw [h1] at c1
  have c2 := fun w => among_any mf 1 1099511627776 w
  rw [show amongB mf 1 1099511627776 = idB mf from rfl] at c2
  cases h2 : idB mf with
  | false =>
    have hr : r = false := by rw [← hrq, h2]; simp
    subst hr
    rw [h2] at c2
    clear hrq h1 h2 ce hv B0
    go_enter Tryz.func59, Tryz.ntmps59
    go_wp2_with fail
    refine (c1 _).mono ?_
    rintro e w1 ⟨rfl, rfl⟩
    go_wp2_with fail
    refine (c2 _).mono ?_
    rintro e w1 ⟨rfl, rfl⟩
    go_wp2_with fail
    go_ret
    exact ⟨rfl, (by (repeat' (first | with_reducible assumption | with_reducible exact Below.refl _ _ | with_reducible refine Below.alloc ?_ ?_ _ | with_reducible refine Below.setCell ?_ ?_ _ | with_reducible refine Below.drew ?_ | omega | (simp; done) | (simp; omega))))⟩
  | true =>
  rw [h2] at c2
  have c3 := fun w => among_any mt 1 1099511627776 w
  rw [show amongB mt 1 1099511627776 = idB mt from rfl] at c3
  cases h3 : idB mt with
  | false =>
    have hr : r = false := by rw [← hrq, h3]; simp
    subst hr
    rw [h3] at c3
    clear hrq h1 h2 h3 ce hv B0
    go_enter Tryz.func59, Tryz.ntmps59
    go_wp2_with fail
    refine (c1 _).mono ?_
    rintro e w1 ⟨rfl, rfl⟩
    go_wp2_with fail
    refine (c2 _).mono ?_
    rintro e w1 ⟨rfl, rfl⟩
    go_wp2_with fail
    refine (c3 _).mono ?_
    rintro e w1 ⟨rfl, rfl⟩
    go_wp2_with fail
    go_ret
    exact ⟨rfl, (by (repeat' (first | with_reducible assumption | with_reducible exact Below.refl _ _ | with_reducible refine Below.alloc ?_ ?_ _ | with_reducible refine Below.setCell ?_ ?_ _ | with_reducible refine Below.drew ?_ | omega | (simp; done) | (simp; omega))))⟩
  | true =>
  rw [h3] at c3
  by_cases hne : mf = mt
  · subst hne
    have hr : r = false := by rw [← hrq, h1, h2]; simp
    subst hr
    have n0 : (mf != mf) = false := by simp
    clear hrq h1 h2 h3 ce hv B0
    go_enter Tryz.func59, Tryz.ntmps59
    go_wp2_with fail
    refine (c1 _).mono ?_
    rintro e w1 ⟨rfl, rfl⟩
    go_wp2_with fail
    refine (c2 _).mono ?_
    rintro e w1 ⟨rfl, rfl⟩
    go_wp2_with fail
    refine (c3 _).mono ?_
    rintro e w1 ⟨rfl, rfl⟩
    go_wp2_with fail
    go_ret
    exact ⟨rfl, (by (repeat' (first | with_reducible assumption | with_reducible exact Below.refl _ _ | with_reducible refine Below.alloc ?_ ?_ _ | with_reducible refine Below.setCell ?_ ?_ _ | with_reducible refine Below.drew ?_ | omega | (simp; done) | (simp; omega))))⟩
  have n0 : (mf != mt) = true := by simpa using hne
  have n1 : (mf == mt) = false := by simpa using hne
  have c4 := fun w => among_any mm 1 1099511627776 w
  cases h4 : amongB mm 1 1099511627776 with
  | false =>
    have hr : r = false := by rw [← hrq, h4]; simp
    subst hr
    rw [h4] at c4
    clear hrq h1 h2 h3 h4 ce hv B0
    go_enter Tryz.func59, Tryz.ntmps59
    go_wp2_with fail
    refine (c1 _).mono ?_
    rintro e w1 ⟨rfl, rfl⟩
    go_wp2_with fail
    refine (c2 _).mono ?_
    rintro e w1 ⟨rfl, rfl⟩
    go_wp2_with fail
    refine (c3 _).mono ?_
    rintro e w1 ⟨rfl, rfl⟩
    go_wp2_with fail
    refine (c4 _).mono ?_
    rintro e w1 ⟨rfl, rfl⟩
    go_wp2_with fail
    go_ret
    exact ⟨rfl, (by (repeat' (first | with_reducible assumption | with_reducible exact Below.refl _ _ | with_reducible refine Below.alloc ?_ ?_ _ | with_reducible refine Below.setCell ?_ ?_ _ | with_reducible refine Below.drew ?_ | omega | (simp; done) | (simp; omega))))⟩
  | true =>
  rw [h4] at c4
  have c5 := fun w => among_any mc 0 1099511627776 w
  cases h5 : amongB mc 0 1099511627776 with
  | false =>
    have hr : r = false := by rw [← hrq, h5]; simp
    subst hr
    rw [h5] at c5
    clear hrq h1 h2 h3 h4 h5 ce hv B0
    go_enter Tryz.func59, Tryz.ntmps59
    go_wp2_with fail
    refine (c1 _).mono ?_
    rintro e w1 ⟨rfl, rfl⟩
    go_wp2_with fail
    refine (c2 _).mono ?_
    rintro e w1 ⟨rfl, rfl⟩
    go_wp2_with fail
    refine (c3 _).mono ?_
    rintro e w1 ⟨rfl, rfl⟩
    go_wp2_with fail
    refine (c4 _).mono ?_
    rintro e w1 ⟨rfl, rfl⟩
    go_wp2_with fail
    refine (c5 _).mono ?_
    rintro e w1 ⟨rfl, rfl⟩
    go_wp2_with fail
    go_ret
    exact ⟨rfl, (by (repeat' (first | with_reducible assumption | with_reducible exact Below.refl _ _ | with_reducible refine Below.alloc ?_ ?_ _ | with_reducible refine Below.setCell ?_ ?_ _ | with_reducible refine Below.drew ?_ | omega | (simp; done) | (simp; omega))))⟩
  | true =>
  rw [h5] at c5
  have c6 := fun w => among_any mh (-1) 1099511627776 w
  cases h6 : amongB mh (-1) 1099511627776 with
  | false =>
    have hr : r = false := by rw [← hrq, h6]; simp
    subst hr
    rw [h6] at c6
    clear hrq h1 h2 h3 h4 h5 h6 ce hv B0
    go_enter Tryz.func59, Tryz.ntmps59
    go_wp2_with fail
    refine (c1 _).mono ?_
    rintro e w1 ⟨rfl, rfl⟩
    go_wp2_with fail
    refine (c2 _).mono ?_
    rintro e w1 ⟨rfl, rfl⟩
    go_wp2_with fail
    refine (c3 _).mono ?_
    rintro e w1 ⟨rfl, rfl⟩
    go_wp2_with fail
    refine (c4 _).mono ?_
    rintro e w1 ⟨rfl, rfl⟩
    go_wp2_with fail
    refine (c5 _).mono ?_
    rintro e w1 ⟨rfl, rfl⟩
    go_wp2_with fail
    refine (c6 _).mono ?_
    rintro e w1 ⟨rfl, rfl⟩
    go_wp2_with fail
    go_ret
    exact ⟨rfl, (by (repeat' (first | with_reducible assumption | with_reducible exact Below.refl _ _ | with_reducible refine Below.alloc ?_ ?_ _ | with_reducible refine Below.setCell ?_ ?_ _ | with_reducible refine Below.drew ?_ | omega | (simp; done) | (simp; omega))))⟩
  | true =>
  rw [h6] at c6
  have hr : r = (q && decide (mx.size ≤ 262144)) := by rw [← hrq, h1, h2, h3, h4, h5, h6, decide_eq_false hne]; simp
  subst hr
  clear hrq h1 h2 h3 h4 h5 h6 hne
  cases q with
  | false =>
    go_enter Tryz.func59, Tryz.ntmps59
    go_wp2_with fail
    refine (c1 _).mono ?_
    rintro e w1 ⟨rfl, rfl⟩
    go_wp2_with fail
    refine (c2 _).mono ?_
    rintro e w1 ⟨rfl, rfl⟩
    go_wp2_with fail
    refine (c3 _).mono ?_
    rintro e w1 ⟨rfl, rfl⟩
    go_wp2_with fail
    refine (c4 _).mono ?_
    rintro e w1 ⟨rfl, rfl⟩
    go_wp2_with fail
    refine (c5 _).mono ?_
    rintro e w1 ⟨rfl, rfl⟩
    go_wp2_with fail
    refine (c6 _).mono ?_
    rintro e w1 ⟨rfl, rfl⟩
    go_wp2_with fail
    refine (ce _ (hv _ (by (repeat' (first | with_reducible assumption | with_reducible exact Below.refl _ _ | with_reducible refine Below.alloc ?_ ?_ _ | with_reducible refine Below.setCell ?_ ?_ _ | with_reducible refine Below.drew ?_ | omega | (simp; done) | (simp; omega)))))).mono ?_
    rintro e w1 ⟨rfl, b1⟩
    have hb1 : Below w.heap.size w w1 := (show Below w.heap.size w _ from (by (repeat' (first | with_reducible assumption | with_reducible exact Below.refl _ _ | with_reducible refine Below.alloc ?_ ?_ _ | with_reducible refine Below.setCell ?_ ?_ _ | with_reducible refine Below.drew ?_ | omega | (simp; done) | (simp; omega))))).trans (b1.mono (by simp))
    go_wp2_with fail
    go_ret
    exact ⟨rfl, hb1⟩
  | true =>
    go_enter Tryz.func59, Tryz.ntmps59
    go_wp2_with fail
    refine (c1 _).mono ?_
    rintro e w1 ⟨rfl, rfl⟩
    go_wp2_with fail
    refine (c2 _).mono ?_
    rintro e w1 ⟨rfl, rfl⟩
    go_wp2_with fail
    refine (c3 _).mono ?_
    rintro e w1 ⟨rfl, rfl⟩
    go_wp2_with fail
    refine (c4 _).mono ?_
    rintro e w1 ⟨rfl, rfl⟩
    go_wp2_with fail
    refine (c5 _).mono ?_
    rintro e w1 ⟨rfl, rfl⟩
    go_wp2_with fail
    refine (c6 _).mono ?_
    rintro e w1 ⟨rfl, rfl⟩
    go_wp2_with fail
    refine (ce _ (hv _ (by (repeat' (first | with_reducible assumption | with_reducible exact Below.refl _ _ | with_reducible refine Below.alloc ?_ ?_ _ | with_reducible refine Below.setCell ?_ ?_ _ | with_reducible refine Below.drew ?_ | omega | (simp; done) | (simp; omega)))))).mono ?_
    rintro e w1 ⟨rfl, b1⟩
    have hb1 : Below w.heap.size w w1 := (show Below w.heap.size w _ from (by (repeat' (first | with_reducible assumption | with_reducible exact Below.refl _ _ | with_reducible refine Below.alloc ?_ ?_ _ | with_reducible refine Below.setCell ?_ ?_ _ | with_reducible refine Below.drew ?_ | omega | (simp; done) | (simp; omega))))).trans (b1.mono (by simp))
    obtain ⟨p0, p1, p2, p3, p4, p5, p6, p7, p8, p9, p10⟩ := (B0.keep b1).cells
    clear b1 B0 ce hv
    go_wp2_with fail
    go_ret
    exact ⟨ret_bool (by simp; omega), hb1⟩
end Go.Proofs.YtkpakiiijphjeaaGreatDoor.Po

namespace Go.Proofs.YtkpakiiijphjeaaGreatDoor.Po
open Go.RowKit Bnd
open Go.Proofs.YtkpakiiijphjeaaGreatDoor.Od (Rep SP amongB isR isA chkA chkR)
open Go.Proofs.YtkpakiiijphjeaaGreatDoor.Ro (En SE Lg isL chkL riseE)
set_option maxHeartbeats 8000000 in
set_option maxRecDepth 100000 in
theorem fitsS_any (o : Kh) (w : World) (hs : SP w w.heap.size o.rs o.k.rep.ps) (hv : o.k.rep.val.size ≤ 140737488355328) (hl : o.k.rep.ps.length ≤ 140737488355328) (hsz : ∀ p ∈ o.k.rep.ps, p.1.size ≤ 140737488355328 ∧ p.2.size ≤ 140737488355328) :
    Calls Tryz.prog 61 #[kv o] w fun e w' => e = .returned (.bool (fitsS o.k)) ∧ Below w.heap.size w w' := by
  have hk : ∀ w1, Below w.heap.size w w1 → SP w1 w1.heap.size o.rs o.k.rep.ps := fun w1 h => (hs.below h).more h.size
  have cr := fun w1 (h : Below w.heap.size w w1) => Od.checkR_any o.k.rep o.rs w1 (hk w1 h) hv hl hsz
  have ca := fun w => among_any o.k.hint 0 7 w
  obtain ⟨A, c, hrs⟩ := hs.form
  obtain ⟨p, ws, rs⟩ := o
  simp only at cr ca hrs ⊢
  clear hk hs hv hl hsz
  obtain ⟨kk, kf, kt, kr, kw, ki, kn, ko, kc, kq, ks, kh, kp⟩ := p
  simp only at cr ca hrs ⊢
  obtain ⟨N, hN⟩ : ∃ N, kp.ps.length = N := ⟨_, rfl⟩
  rw [hN] at hrs
  clear hN
  subst hrs
  unfold fitsS
  simp only
  by_cases h1 : ks = 1
  · subst h1
    rw [if_pos rfl]
    unfold chkR at cr
    cases h2 : isR kp
    all_goals
      rw [h2] at cr
      simp only [Bool.false_eq_true, if_false, if_true] at cr
      clear h2
      go_enter Tryz.func61, Tryz.ntmps61
      go_wp2_with (refine wpList_boxK (o := ⟨⟨kk, kf, kt, kr, kw, ki, kn, ko, kc, kq, 1, kh, kp⟩, ws, .slice A N c⟩) rfl rfl rfl ?_)
      intro W0 B0 hW hz0
      have p30 : W0.cell? ⟨w.heap.size, 30, none⟩ = some (.int .i64 1) := B0.cell 30
      have p32 : W0.cell? ⟨w.heap.size, 32, none⟩ = some (.int .i64 kp.code) := B0.cell 32
      have p33 : W0.cell? ⟨w.heap.size, 33, none⟩ = some (.int .i64 kp.err) := B0.cell 33
      have p34 : W0.cell? ⟨w.heap.size, 34, none⟩ = some (.bool kp.has) := B0.cell 34
      have p35 : W0.cell? ⟨w.heap.size, 35, none⟩ = some (.string kp.val) := B0.cell 35
      have p36 : W0.cell? ⟨w.heap.size, 36, none⟩ = some (.slice A N c) := B0.cell 36
      go_wp2_with fail
      refine (cr _ hW).mono ?_
      rintro e w1 ⟨rfl, b1⟩
      have hb1 : Below w.heap.size w w1 := hW.trans (b1.mono (by omega))
      clear b1
      go_wp2_with fail
      go_ret
      exact ⟨rfl, hb1⟩
  have g1 : (ks == 1) = false := by simpa using h1
  rw [if_neg h1]
  by_cases h2 : ks = 2
  · subst h2
    rw [if_pos rfl]
    clear h1 cr
    go_enter Tryz.func61, Tryz.ntmps61
    go_wp2_with (refine wpList_boxK (o := ⟨⟨kk, kf, kt, kr, kw, ki, kn, ko, kc, kq, 2, kh, kp⟩, ws, .slice A N c⟩) rfl rfl rfl ?_)
    intro W0 B0 hW hz0
    have p30 : W0.cell? ⟨w.heap.size, 30, none⟩ = some (.int .i64 2) := B0.cell 30
    have p31 : W0.cell? ⟨w.heap.size, 31, none⟩ = some (.int .i64 kh) := B0.cell 31
    go_wp2_with fail
    refine (ca _).mono ?_
    rintro e w1 ⟨rfl, rfl⟩
    go_wp2_with fail
    go_ret
    exact ⟨rfl, hW⟩
  have g2 : (ks == 2) = false := by simpa using h2
  rw [if_neg h2]
  clear h1 h2 cr ca
  go_enter Tryz.func61, Tryz.ntmps61
  go_wp2_with (refine wpList_boxK (o := ⟨⟨kk, kf, kt, kr, kw, ki, kn, ko, kc, kq, ks, kh, kp⟩, ws, .slice A N c⟩) rfl rfl rfl ?_)
  intro W0 B0 hW hz0
  have p30 : W0.cell? ⟨w.heap.size, 30, none⟩ = some (.int .i64 ks) := B0.cell 30
  go_wp2_with fail
  go_ret
  exact ⟨ret_bool (by first | rfl | (simp; done) | skip), hW⟩
structure SizK (p : Pk) : Prop where
  es : p.wire.es.length ≤ 1000000
  et : ∀ e ∈ p.wire.es, e.2.size ≤ 140737488355328
  wt : p.wire.text.size ≤ 140737488355328
  key : p.ord.key.size ≤ 140737488355328
  til : p.ord.til.size ≤ 140737488355328
  val : p.ord.val.size ≤ 140737488355328
  ps : p.rep.ps.length ≤ 1000000
  pt : ∀ x ∈ p.rep.ps, x.1.size ≤ 140737488355328 ∧ x.2.size ≤ 140737488355328
  rv : p.rep.val.size ≤ 140737488355328
set_option maxHeartbeats 8000000 in
set_option maxRecDepth 100000 in
theorem fits_any (o : Kh) (w : World) (h : HK w w.heap.size o) (hz : SizK o.k) (hid : -9223372036854775808 ≤ o.k.id ∧ o.k.id ≤ 9223372036854775807) (hg : Good w) :
    Calls Tryz.prog 21 #[kv o] w fun e w' => e = .returned (.bool (fitsK o.k)) ∧ Below w.heap.size w w' := by
  have hk : ∀ w1, Below w.heap.size w w1 → HK w1 w1.heap.size o := fun w1 h1 => (h.below h1).more h1.size
  have cw := fun w1 (h1 : Below w.heap.size w w1) => fitsW_any o.k.wire o.ws w1 (hk w1 h1).es (by have := hz.es; omega) hz.et hz.wt
  have cs := fun w1 (h1 : Below w.heap.size w w1) => fitsS_any o w1 (hk w1 h1).ps hz.rv (by have := hz.ps; omega) hz.pt
  have co := fun w1 (h1 : Below w.heap.size w w1) => Od.check_any o.k.ord w1 hz.key hz.til hz.val (hg.below h1)
  have cf := fun w => isNode_any o.k.frm w
  have ct := fun w => isNode_any o.k.til w
  obtain ⟨r, hr⟩ : ∃ r, fitsK o.k = r := ⟨_, rfl⟩
  have hrq := hr
  unfold fitsK at hrq
  rw [hr]
  obtain ⟨p, ws, rs⟩ := o
  obtain ⟨kk, kf, kt, kr, kw, ki, kn, ko, kc, kq, ks, kh, kp⟩ := p
  simp only at cw cs co cf ct hrq hid ⊢
  clear hk h hz hr
  by_cases k1 : kk = 1
  · subst k1
    rw [if_pos rfl] at hrq
    clear cs co hid
    cases h1 : nodeB kf with
    | false =>
      rw [h1] at cf
      have hr : r = false := by rw [← hrq, h1]; simp
      subst hr
      clear hrq h1 cw ct
      go_enter Tryz.func21, Tryz.ntmps21
      go_wp2_with (refine wpList_boxK (o := ⟨⟨1, kf, kt, kr, kw, ki, kn, ko, kc, kq, ks, kh, kp⟩, ws, rs⟩) rfl rfl rfl ?_)
      intro W0 B0 hW hz0
      have p0 : W0.cell? ⟨w.heap.size, 0, none⟩ = some (.int .i64 1) := B0.cell 0
      have p1 : W0.cell? ⟨w.heap.size, 1, none⟩ = some (.int .i64 kf) := B0.cell 1
      go_wp2_with fail
      refine (cf _).mono ?_
      rintro e w1 ⟨rfl, rfl⟩
      go_wp2_with fail
      go_ret
      exact ⟨rfl, hW⟩
    | true =>
    rw [h1] at cf
    cases h2 : nodeB kt with
    | false =>
      rw [h2] at ct
      have hr : r = false := by rw [← hrq, h1, h2]; simp
      subst hr
      clear hrq h1 h2 cw
      go_enter Tryz.func21, Tryz.ntmps21
      go_wp2_with (refine wpList_boxK (o := ⟨⟨1, kf, kt, kr, kw, ki, kn, ko, kc, kq, ks, kh, kp⟩, ws, rs⟩) rfl rfl rfl ?_)
      intro W0 B0 hW hz0
      have p0 : W0.cell? ⟨w.heap.size, 0, none⟩ = some (.int .i64 1) := B0.cell 0
      have p1 : W0.cell? ⟨w.heap.size, 1, none⟩ = some (.int .i64 kf) := B0.cell 1
      have p2 : W0.cell? ⟨w.heap.size, 2, none⟩ = some (.int .i64 kt) := B0.cell 2
      go_wp2_with fail
      refine (cf _).mono ?_
      rintro e w1 ⟨rfl, rfl⟩
      go_wp2_with fail
      refine (ct _).mono ?_
      rintro e w1 ⟨rfl, rfl⟩
      go_wp2_with fail
      go_ret
      exact ⟨rfl, hW⟩
    | true =>
    rw [h2] at ct
    rw [h1, h2] at hrq
    simp only [Bool.true_and] at hrq
    rw [hrq] at cw
    clear hrq h1 h2
    go_enter Tryz.func21, Tryz.ntmps21
    go_wp2_with (refine wpList_boxK (o := ⟨⟨1, kf, kt, kr, kw, ki, kn, ko, kc, kq, ks, kh, kp⟩, ws, rs⟩) rfl rfl rfl ?_)
    intro W0 B0 hW hz0
    have p0 : W0.cell? ⟨w.heap.size, 0, none⟩ = some (.int .i64 1) := B0.cell 0
    have p1 : W0.cell? ⟨w.heap.size, 1, none⟩ = some (.int .i64 kf) := B0.cell 1
    have p2 : W0.cell? ⟨w.heap.size, 2, none⟩ = some (.int .i64 kt) := B0.cell 2
    have p4 : W0.cell? ⟨w.heap.size, 4, none⟩ = some (.int .i64 kw.kind) := B0.cell 4
    have p5 : W0.cell? ⟨w.heap.size, 5, none⟩ = some (.int .i64 kw.frm) := B0.cell 5
    have p6 : W0.cell? ⟨w.heap.size, 6, none⟩ = some (.int .i64 kw.til) := B0.cell 6
    have p7 : W0.cell? ⟨w.heap.size, 7, none⟩ = some (.int .i64 kw.term) := B0.cell 7
    have p8 : W0.cell? ⟨w.heap.size, 8, none⟩ = some (.int .i64 kw.index) := B0.cell 8
    have p9 : W0.cell? ⟨w.heap.size, 9, none⟩ = some (.int .i64 kw.lterm) := B0.cell 9
    have p10 : W0.cell? ⟨w.heap.size, 10, none⟩ = some (.int .i64 kw.commit) := B0.cell 10
    have p11 : W0.cell? ⟨w.heap.size, 11, none⟩ = some (.int .i64 kw.hint) := B0.cell 11
    have p12 : W0.cell? ⟨w.heap.size, 12, none⟩ = some (.bool kw.reject) := B0.cell 12
    have p13 : W0.cell? ⟨w.heap.size, 13, none⟩ = some (ws) := B0.cell 13
    have p14 : W0.cell? ⟨w.heap.size, 14, none⟩ = some (.string kw.text) := B0.cell 14
    go_wp2_with fail
    refine (cf _).mono ?_
    rintro e w1 ⟨rfl, rfl⟩
    go_wp2_with fail
    refine (ct _).mono ?_
    rintro e w1 ⟨rfl, rfl⟩
    go_wp2_with fail
    refine (cw _ hW).mono ?_
    rintro e w1 ⟨rfl, b1⟩
    have hb1 : Below w.heap.size w w1 := hW.trans (b1.mono (by omega))
    clear b1
    go_wp2_with fail
    go_ret
    exact ⟨rfl, hb1⟩
  have g1 : (kk == 1) = false := by simpa using k1
  rw [if_neg k1] at hrq
  clear cw
  by_cases k2 : kk = 2
  · subst k2
    rw [if_pos rfl] at hrq
    clear cs co k1
    have ci := fun w => among_any ki 1 1099511627776 w
    rw [show amongB ki 1 1099511627776 = idB ki from rfl] at ci
    have cn := fun w => among_any kn (ki + 1) 1099511627777 w
    cases h1 : nodeB kf with
    | false =>
      rw [h1] at cf
      have hr : r = false := by rw [← hrq, h1]; simp
      subst hr
      clear hrq h1 ct ci cn hid
      go_enter Tryz.func21, Tryz.ntmps21
      go_wp2_with (refine wpList_boxK (o := ⟨⟨2, kf, kt, kr, kw, ki, kn, ko, kc, kq, ks, kh, kp⟩, ws, rs⟩) rfl rfl rfl ?_)
      intro W0 B0 hW hz0
      have p0 : W0.cell? ⟨w.heap.size, 0, none⟩ = some (.int .i64 2) := B0.cell 0
      have p1 : W0.cell? ⟨w.heap.size, 1, none⟩ = some (.int .i64 kf) := B0.cell 1
      go_wp2_with fail
      refine (cf _).mono ?_
      rintro e w1 ⟨rfl, rfl⟩
      go_wp2_with fail
      go_ret
      exact ⟨rfl, hW⟩
    | true =>
    rw [h1] at cf
    cases h2 : nodeB kt with
    | false =>
      rw [h2] at ct
      have hr : r = false := by rw [← hrq, h1, h2]; simp
      subst hr
      clear hrq h1 h2 ci cn hid
      go_enter Tryz.func21, Tryz.ntmps21
      go_wp2_with (refine wpList_boxK (o := ⟨⟨2, kf, kt, kr, kw, ki, kn, ko, kc, kq, ks, kh, kp⟩, ws, rs⟩) rfl rfl rfl ?_)
      intro W0 B0 hW hz0
      have p0 : W0.cell? ⟨w.heap.size, 0, none⟩ = some (.int .i64 2) := B0.cell 0
      have p1 : W0.cell? ⟨w.heap.size, 1, none⟩ = some (.int .i64 kf) := B0.cell 1
      have p2 : W0.cell? ⟨w.heap.size, 2, none⟩ = some (.int .i64 kt) := B0.cell 2
      go_wp2_with fail
      refine (cf _).mono ?_
      rintro e w1 ⟨rfl, rfl⟩
      go_wp2_with fail
      refine (ct _).mono ?_
      rintro e w1 ⟨rfl, rfl⟩
      go_wp2_with fail
      go_ret
      exact ⟨rfl, hW⟩
    | true =>
    rw [h2] at ct
    cases h3 : idB ki with
    | false =>
      rw [h3] at ci
      have hr : r = false := by rw [← hrq, h1, h2, h3]; simp
      subst hr
      clear hrq h1 h2 h3 cn hid
      go_enter Tryz.func21, Tryz.ntmps21
      go_wp2_with (refine wpList_boxK (o := ⟨⟨2, kf, kt, kr, kw, ki, kn, ko, kc, kq, ks, kh, kp⟩, ws, rs⟩) rfl rfl rfl ?_)
      intro W0 B0 hW hz0
      have p0 : W0.cell? ⟨w.heap.size, 0, none⟩ = some (.int .i64 2) := B0.cell 0
      have p1 : W0.cell? ⟨w.heap.size, 1, none⟩ = some (.int .i64 kf) := B0.cell 1
      have p2 : W0.cell? ⟨w.heap.size, 2, none⟩ = some (.int .i64 kt) := B0.cell 2
      have p15 : W0.cell? ⟨w.heap.size, 15, none⟩ = some (.int .i64 ki) := B0.cell 15
      go_wp2_with fail
      refine (cf _).mono ?_
      rintro e w1 ⟨rfl, rfl⟩
      go_wp2_with fail
      refine (ct _).mono ?_
      rintro e w1 ⟨rfl, rfl⟩
      go_wp2_with fail
      refine (ci _).mono ?_
      rintro e w1 ⟨rfl, rfl⟩
      go_wp2_with fail
      go_ret
      exact ⟨rfl, hW⟩
    | true =>
    rw [h3] at ci
    have hki : 1 ≤ ki ∧ ki ≤ 1099511627776 := by have := h3; unfold idB amongB at this; simpa using this
    have j1 : IntKind.i64.wrap (ki + 1) = ki + 1 := by rw [IntKind.wrap_i64] <;> omega
    rw [h1, h2, h3] at hrq
    simp only [Bool.true_and] at hrq
    rw [hrq] at cn
    clear hrq h1 h2 h3 hki hid
    go_enter Tryz.func21, Tryz.ntmps21
    go_wp2_with (refine wpList_boxK (o := ⟨⟨2, kf, kt, kr, kw, ki, kn, ko, kc, kq, ks, kh, kp⟩, ws, rs⟩) rfl rfl rfl ?_)
    intro W0 B0 hW hz0
    have p0 : W0.cell? ⟨w.heap.size, 0, none⟩ = some (.int .i64 2) := B0.cell 0
    have p1 : W0.cell? ⟨w.heap.size, 1, none⟩ = some (.int .i64 kf) := B0.cell 1
    have p2 : W0.cell? ⟨w.heap.size, 2, none⟩ = some (.int .i64 kt) := B0.cell 2
    have p15 : W0.cell? ⟨w.heap.size, 15, none⟩ = some (.int .i64 ki) := B0.cell 15
    have p16 : W0.cell? ⟨w.heap.size, 16, none⟩ = some (.int .i64 kn) := B0.cell 16
    go_wp2_with fail
    refine (cf _).mono ?_
    rintro e w1 ⟨rfl, rfl⟩
    go_wp2_with fail
    refine (ct _).mono ?_
    rintro e w1 ⟨rfl, rfl⟩
    go_wp2_with fail
    refine (ci _).mono ?_
    rintro e w1 ⟨rfl, rfl⟩
    go_wp2_with fail
    try rw [j1]
    refine (cn _).mono ?_
    rintro e w1 ⟨rfl, rfl⟩
    go_wp2_with fail
    go_ret
    exact ⟨rfl, hW⟩
  have g2 : (kk == 2) = false := by simpa using k2
  rw [if_neg k2] at hrq
  by_cases k3 : kk = 3
  · subst k3
    rw [if_pos rfl] at hrq
    clear cs cf k1 k2 hid
    cases h1 : nodeB kt with
    | false =>
      rw [h1] at ct
      have hr : r = false := by rw [← hrq, h1]; simp
      subst hr
      clear hrq h1 co
      go_enter Tryz.func21, Tryz.ntmps21
      go_wp2_with (refine wpList_boxK (o := ⟨⟨3, kf, kt, kr, kw, ki, kn, ko, kc, kq, ks, kh, kp⟩, ws, rs⟩) rfl rfl rfl ?_)
      intro W0 B0 hW hz0
      have p0 : W0.cell? ⟨w.heap.size, 0, none⟩ = some (.int .i64 3) := B0.cell 0
      have p2 : W0.cell? ⟨w.heap.size, 2, none⟩ = some (.int .i64 kt) := B0.cell 2
      go_wp2_with fail
      refine (ct _).mono ?_
      rintro e w1 ⟨rfl, rfl⟩
      go_wp2_with fail
      go_ret
      exact ⟨rfl, hW⟩
    | true =>
    rw [h1] at ct
    by_cases h2 : ko.kind = 0
    · have e2 : (ko.kind != 0) = false := by rw [h2]; rfl
      have hr : r = false := by rw [← hrq, h1, decide_eq_true h2]; simp
      subst hr
      clear hrq h1 co
      go_enter Tryz.func21, Tryz.ntmps21
      go_wp2_with (refine wpList_boxK (o := ⟨⟨3, kf, kt, kr, kw, ki, kn, ko, kc, kq, ks, kh, kp⟩, ws, rs⟩) rfl rfl rfl ?_)
      intro W0 B0 hW hz0
      have p0 : W0.cell? ⟨w.heap.size, 0, none⟩ = some (.int .i64 3) := B0.cell 0
      have p2 : W0.cell? ⟨w.heap.size, 2, none⟩ = some (.int .i64 kt) := B0.cell 2
      have p17 : W0.cell? ⟨w.heap.size, 17, none⟩ = some (.int .i64 ko.kind) := B0.cell 17
      go_wp2_with fail
      refine (ct _).mono ?_
      rintro e w1 ⟨rfl, rfl⟩
      go_wp2_with fail
      go_ret
      exact ⟨rfl, hW⟩
    have e2 : (ko.kind != 0) = true := by simpa using h2
    have e3 : (ko.kind == 0) = false := by simpa using h2
    rw [h1, decide_eq_false h2] at hrq
    simp only [Bool.true_and, Bool.not_false] at hrq
    unfold chkA at co
    rw [hrq] at co
    clear hrq h1 h2
    cases r
    all_goals
      simp only [Bool.false_eq_true, if_false, if_true] at co
      go_enter Tryz.func21, Tryz.ntmps21
      go_wp2_with (refine wpList_boxK (o := ⟨⟨3, kf, kt, kr, kw, ki, kn, ko, kc, kq, ks, kh, kp⟩, ws, rs⟩) rfl rfl rfl ?_)
      intro W0 B0 hW hz0
      have p0 : W0.cell? ⟨w.heap.size, 0, none⟩ = some (.int .i64 3) := B0.cell 0
      have p2 : W0.cell? ⟨w.heap.size, 2, none⟩ = some (.int .i64 kt) := B0.cell 2
      have p17 : W0.cell? ⟨w.heap.size, 17, none⟩ = some (.int .i64 ko.kind) := B0.cell 17
      have p18 : W0.cell? ⟨w.heap.size, 18, none⟩ = some (.int .i64 ko.client) := B0.cell 18
      have p19 : W0.cell? ⟨w.heap.size, 19, none⟩ = some (.int .i64 ko.seq) := B0.cell 19
      have p20 : W0.cell? ⟨w.heap.size, 20, none⟩ = some (.string ko.key) := B0.cell 20
      have p21 : W0.cell? ⟨w.heap.size, 21, none⟩ = some (.string ko.til) := B0.cell 21
      have p22 : W0.cell? ⟨w.heap.size, 22, none⟩ = some (.string ko.val) := B0.cell 22
      have p23 : W0.cell? ⟨w.heap.size, 23, none⟩ = some (.string ko.old) := B0.cell 23
      have p24 : W0.cell? ⟨w.heap.size, 24, none⟩ = some (.bool ko.has) := B0.cell 24
      have p25 : W0.cell? ⟨w.heap.size, 25, none⟩ = some (.int .i64 ko.lim) := B0.cell 25
      have p26 : W0.cell? ⟨w.heap.size, 26, none⟩ = some (.int .i64 ko.id) := B0.cell 26
      have p27 : W0.cell? ⟨w.heap.size, 27, none⟩ = some (.int .i64 ko.node) := B0.cell 27
      go_wp2_with fail
      refine (ct _).mono ?_
      rintro e w1 ⟨rfl, rfl⟩
      go_wp2_with fail
      refine (co _ hW).mono ?_
      rintro e w1 ⟨rfl, b1⟩
      have hb1 : Below w.heap.size w w1 := hW.trans (b1.mono (by omega))
      clear b1
      go_wp2_with fail
      go_ret
      exact ⟨rfl, hb1⟩
  have g3 : (kk == 3) = false := by simpa using k3
  rw [if_neg k3] at hrq
  clear co
  by_cases k4 : kk = 4
  · subst k4
    rw [if_pos rfl] at hrq
    clear ct k1 k2 k3 hid
    have cc := fun w => among_any kc 1 1099511627776 w
    have cq := fun w => among_any kq 1 1099511627776 w
    rw [show amongB kc 1 1099511627776 = idB kc from rfl] at cc
    rw [show amongB kq 1 1099511627776 = idB kq from rfl] at cq
    cases h1 : nodeB kf with
    | false =>
      rw [h1] at cf
      have hr : r = false := by rw [← hrq, h1]; simp
      subst hr
      clear hrq h1 cs cc cq
      go_enter Tryz.func21, Tryz.ntmps21
      go_wp2_with (refine wpList_boxK (o := ⟨⟨4, kf, kt, kr, kw, ki, kn, ko, kc, kq, ks, kh, kp⟩, ws, rs⟩) rfl rfl rfl ?_)
      intro W0 B0 hW hz0
      have p0 : W0.cell? ⟨w.heap.size, 0, none⟩ = some (.int .i64 4) := B0.cell 0
      have p1 : W0.cell? ⟨w.heap.size, 1, none⟩ = some (.int .i64 kf) := B0.cell 1
      go_wp2_with fail
      refine (cf _).mono ?_
      rintro e w1 ⟨rfl, rfl⟩
      go_wp2_with fail
      go_ret
      exact ⟨rfl, hW⟩
    | true =>
    rw [h1] at cf
    cases h2 : idB kc with
    | false =>
      rw [h2] at cc
      have hr : r = false := by rw [← hrq, h1, h2]; simp
      subst hr
      clear hrq h1 h2 cs cq
      go_enter Tryz.func21, Tryz.ntmps21
      go_wp2_with (refine wpList_boxK (o := ⟨⟨4, kf, kt, kr, kw, ki, kn, ko, kc, kq, ks, kh, kp⟩, ws, rs⟩) rfl rfl rfl ?_)
      intro W0 B0 hW hz0
      have p0 : W0.cell? ⟨w.heap.size, 0, none⟩ = some (.int .i64 4) := B0.cell 0
      have p1 : W0.cell? ⟨w.heap.size, 1, none⟩ = some (.int .i64 kf) := B0.cell 1
      have p28 : W0.cell? ⟨w.heap.size, 28, none⟩ = some (.int .i64 kc) := B0.cell 28
      go_wp2_with fail
      refine (cf _).mono ?_
      rintro e w1 ⟨rfl, rfl⟩
      go_wp2_with fail
      refine (cc _).mono ?_
      rintro e w1 ⟨rfl, rfl⟩
      go_wp2_with fail
      go_ret
      exact ⟨rfl, hW⟩
    | true =>
    rw [h2] at cc
    cases h3 : idB kq with
    | false =>
      rw [h3] at cq
      have hr : r = false := by rw [← hrq, h1, h2, h3]; simp
      subst hr
      clear hrq h1 h2 h3 cs
      go_enter Tryz.func21, Tryz.ntmps21
      go_wp2_with (refine wpList_boxK (o := ⟨⟨4, kf, kt, kr, kw, ki, kn, ko, kc, kq, ks, kh, kp⟩, ws, rs⟩) rfl rfl rfl ?_)
      intro W0 B0 hW hz0
      have p0 : W0.cell? ⟨w.heap.size, 0, none⟩ = some (.int .i64 4) := B0.cell 0
      have p1 : W0.cell? ⟨w.heap.size, 1, none⟩ = some (.int .i64 kf) := B0.cell 1
      have p28 : W0.cell? ⟨w.heap.size, 28, none⟩ = some (.int .i64 kc) := B0.cell 28
      have p29 : W0.cell? ⟨w.heap.size, 29, none⟩ = some (.int .i64 kq) := B0.cell 29
      go_wp2_with fail
      refine (cf _).mono ?_
      rintro e w1 ⟨rfl, rfl⟩
      go_wp2_with fail
      refine (cc _).mono ?_
      rintro e w1 ⟨rfl, rfl⟩
      go_wp2_with fail
      refine (cq _).mono ?_
      rintro e w1 ⟨rfl, rfl⟩
      go_wp2_with fail
      go_ret
      exact ⟨rfl, hW⟩
    | true =>
    rw [h3] at cq
    rw [h1, h2, h3] at hrq
    simp only [Bool.true_and] at hrq
    rw [show fitsS (⟨4, kf, kt, kr, kw, ki, kn, ko, kc, kq, ks, kh, kp⟩ : Pk) = r from hrq] at cs
    clear hrq h1 h2 h3
    go_enter Tryz.func21, Tryz.ntmps21
    go_wp2_with (refine wpList_boxK (o := ⟨⟨4, kf, kt, kr, kw, ki, kn, ko, kc, kq, ks, kh, kp⟩, ws, rs⟩) rfl rfl rfl ?_)
    intro W0 B0 hW hz0
    have p0 : W0.cell? ⟨w.heap.size, 0, none⟩ = some (.int .i64 4) := B0.cell 0
    have p1 : W0.cell? ⟨w.heap.size, 1, none⟩ = some (.int .i64 kf) := B0.cell 1
    have p28 : W0.cell? ⟨w.heap.size, 28, none⟩ = some (.int .i64 kc) := B0.cell 28
    have p29 : W0.cell? ⟨w.heap.size, 29, none⟩ = some (.int .i64 kq) := B0.cell 29
    go_wp2_with fail
    refine (cf _).mono ?_
    rintro e w1 ⟨rfl, rfl⟩
    go_wp2_with fail
    refine (cc _).mono ?_
    rintro e w1 ⟨rfl, rfl⟩
    go_wp2_with fail
    refine (cq _).mono ?_
    rintro e w1 ⟨rfl, rfl⟩
    go_wp2_with (refine wpList_loadK (o := ⟨⟨4, kf, kt, kr, kw, ki, kn, ko, kc, kq, ks, kh, kp⟩, ws, rs⟩) rfl rfl rfl B0 ?_)
    refine (cs _ hW).mono ?_
    rintro e w1 ⟨rfl, b1⟩
    have hb1 : Below w.heap.size w w1 := hW.trans (b1.mono (by omega))
    clear b1
    go_wp2_with fail
    go_ret
    exact ⟨rfl, hb1⟩
  have g4 : (kk == 4) = false := by simpa using k4
  rw [if_neg k4] at hrq
  subst hrq
  clear k1 k2 k3 k4 cs cf ct hid
  go_enter Tryz.func21, Tryz.ntmps21
  go_wp2_with (refine wpList_boxK (o := ⟨⟨kk, kf, kt, kr, kw, ki, kn, ko, kc, kq, ks, kh, kp⟩, ws, rs⟩) rfl rfl rfl ?_)
  intro W0 B0 hW hz0
  have p0 : W0.cell? ⟨w.heap.size, 0, none⟩ = some (.int .i64 kk) := B0.cell 0
  go_wp2_with fail
  go_ret
  exact ⟨rfl, hW⟩
end Go.Proofs.YtkpakiiijphjeaaGreatDoor.Po

/-
  The document's Compact. Conditions: bases from 0 to 2^40, at most 100,000 entries; numbers such as a program can hold.
-/
import Derived.Test.YtimodohcihnoiaaDoorRoComp
namespace Go.Proofs.YtimodohcihnoiaaDoor.Ro
open Go.RowKit

set_option maxHeartbeats 8000000 in
set_option maxRecDepth 100000 in
theorem rcompact_any (r : Lg) (s : Value) (to : Int) (w : World) (hs : ArgE w s r.es) (ft : FitL r) (hn : r.es.length ≤ 100000) (ht : inI to) :
    Calls Tryd.prog 29 #[lv r s, .int .i64 to] w fun e w' => GaveL w (compL r to) e w' := by
  obtain ⟨A, c, rfl, hc⟩ := hs.room
  have cp := fun w' (h : Below w.heap.size w w') => rterm_any r (.slice A r.es.length c) to w' (hs.keep h).sm ft ht
  have hoff0 := hs.sm.off (Nat.le_succ w.heap.size)
  have b0 := ft.b0
  have b1 := ft.b1
  obtain ⟨base, bt, es⟩ := r
  simp only at cp hn hc hs hoff0 b0 b1 ⊢
  obtain ⟨N, hN⟩ : ∃ N, es.length = N := ⟨_, rfl⟩
  have B0 := (BoxL.new w ⟨base, bt, es⟩ (.slice A N c)).alloc (.cells #[.int .i64 0, .int .i64 0, .slice none 0 0] 24)
  have B1 := box2 w (.cells #[.int .i64 base, .int .i64 bt, .slice A N c] 24) Lg.zero (.slice none 0 0)
  have hb0 : Below w.heap.size w ((w.alloc (.cells #[.int .i64 base, .int .i64 bt, .slice A N c] 24)).alloc (.cells #[.int .i64 0, .int .i64 0, .slice none 0 0] 24)) := (by (repeat' (first | with_reducible assumption | with_reducible exact Below.refl _ _ | with_reducible refine Below.alloc ?_ ?_ _ | with_reducible refine Below.setCell ?_ ?_ _ | with_reducible refine Below.drew ?_ | omega | (simp; done) | (simp; omega))))
  have HN := Lib.hid hN
  have HS := Lib.hid hs
  rw [hN] at cp hoff0 HS hc ⊢
  cases hp : placeL ⟨base, bt, es⟩ to with
  | none =>
    rw [show compL ⟨base, bt, es⟩ to = ⟨base, bt, es⟩ by unfold compL; rw [hp]]
    have HOF := Lib.hid hoff0
    have hno := placeL_no hp
    simp only at hno
    have htt : (termL ⟨base, bt, es⟩ to = none) ∨ (∃ t, termL ⟨base, bt, es⟩ to = some t ∧ to ≤ base) := by
      by_cases h : to = base
      · exact .inr ⟨bt, by rw [h]; exact termL_base ⟨base, bt, es⟩, by omega⟩
      · exact .inl (termL_out (by simp only; omega))
    rcases htt with htt | ⟨t, htt, hle⟩
    · rw [htt] at cp
      simp only [termV] at cp
      clear hp hs hN ft hno htt hoff0
      go_enter Tryd.func29, Tryd.ntmps29
      obtain ⟨p_0, ⟨p_1, p_2, p_3⟩, p_4⟩ := _root_.id B0
      go_wp2_with fail
      refine (cp _ hb0).mono ?_
      rintro e w1 ⟨rfl, b1⟩
      have hb1 := hb0.trans (b1.mono hb0.size)
      have C0 := B0.keep b1
      have C1 := B1.keep b1
      clear p_0 p_1 p_2 p_3 p_4
      clear b1 B0 B1 cp
      obtain ⟨p_0, ⟨p_1, p_2, p_3⟩, p_4⟩ := _root_.id C0
      obtain ⟨q_0, ⟨q_1, q_2, q_3⟩, q_4⟩ := _root_.id C1
      go_wp2_with fail
      have ha := HS.out.keep hb1
      exact bodyPost_ret (res_box Tryd.results29 rfl (C1.put ⟨base, bt, es⟩ (.slice A N c))) rfl ⟨_, rfl, ((ha.set HOF.out _).set HOF.out _).set HOF.out _, ((hb1.setCell (p := ⟨w.heap.size + 1, 0, none⟩) (show w.heap.size ≤ w.heap.size + 1 by omega) _).setCell (p := ⟨w.heap.size + 1, 1, none⟩) (show w.heap.size ≤ w.heap.size + 1 by omega) _).setCell (p := ⟨w.heap.size + 1, 2, none⟩) (show w.heap.size ≤ w.heap.size + 1 by omega) _⟩
    · rw [htt] at cp
      simp only [termV] at cp
      have g1 : (to ≤ base) = True := eq_true hle
      clear hp hs hN ft hno htt hoff0 hle
      go_enter Tryd.func29, Tryd.ntmps29
      obtain ⟨p_0, ⟨p_1, p_2, p_3⟩, p_4⟩ := _root_.id B0
      go_wp2_with fail
      refine (cp _ hb0).mono ?_
      rintro e w1 ⟨rfl, b1⟩
      have hb1 := hb0.trans (b1.mono hb0.size)
      have C0 := B0.keep b1
      have C1 := B1.keep b1
      clear p_0 p_1 p_2 p_3 p_4
      clear b1 B0 B1 cp
      obtain ⟨p_0, ⟨p_1, p_2, p_3⟩, p_4⟩ := _root_.id C0
      obtain ⟨q_0, ⟨q_1, q_2, q_3⟩, q_4⟩ := _root_.id C1
      go_wp2_with fail
      have ha := HS.out.keep hb1
      exact bodyPost_ret (res_box Tryd.results29 rfl (C1.put ⟨base, bt, es⟩ (.slice A N c))) rfl ⟨_, rfl, ((ha.set HOF.out _).set HOF.out _).set HOF.out _, ((hb1.setCell (p := ⟨w.heap.size + 1, 0, none⟩) (show w.heap.size ≤ w.heap.size + 1 by omega) _).setCell (p := ⟨w.heap.size + 1, 1, none⟩) (show w.heap.size ≤ w.heap.size + 1 by omega) _).setCell (p := ⟨w.heap.size + 1, 2, none⟩) (show w.heap.size ≤ w.heap.size + 1 by omega) _⟩
  | some k =>
    obtain ⟨hk, hto⟩ := placeL_some hp
    simp only at hk hto
    have hterm : termL ⟨base, bt, es⟩ to = some (es[k]).1 := by rw [hto]; exact termL_at (r := ⟨base, bt, es⟩) hk
    have hcomp : compL ⟨base, bt, es⟩ to = ⟨to, (es[k]).1, es.drop (k + 1)⟩ := by
      unfold compL; rw [hp]; simp only
      rw [List.getD_eq_getElem?_getD, List.getElem?_eq_getElem hk]; rfl
    rw [hcomp]
    obtain ⟨b, o, rfl, -⟩ := hs.sm.at_ hk
    obtain ⟨⟨x, y⟩, hx⟩ : ∃ x, es[k] = x := ⟨_, rfl⟩
    rw [hx] at hterm ⊢
    simp only at hterm ⊢
    rw [hterm] at cp
    simp only [termV] at cp
    rw [hN] at hk hs
    obtain ⟨M, hM⟩ : ∃ M, N - (k + 1) = M := ⟨_, rfl⟩
    obtain ⟨K, hK⟩ : ∃ K, k + 1 = K := ⟨_, rfl⟩
    have hta := fun w1 (hb1 : Below w.heap.size w w1) => tail_arg (hs.keep hb1) hk
    have g1 : (to ≤ base) = False := eq_false (by omega)
    have j1 : IntKind.i64.wrap (to - base) = (K : Int) := by rw [IntKind.wrap_i64] <;> omega
    have k4 : (0 ≤ (K : Int)) = True := eq_true (by omega)
    have k5 : ((K : Int) ≤ (N : Int)) = True := eq_true (by omega)
    have k6 : ((N : Int) ≤ (c : Int)) = True := eq_true (by omega)
    rw [hK] at hta hM ⊢
    have k7 : K ≤ N := by omega
    have k8 : N ≤ c := hc
    have hMl : (es.drop K).length = M := by simp; omega
    have HML := Lib.hid hMl
    clear hp hN ft hx hcomp hs hterm hto hk hK hMl hoff0
    go_enter Tryd.func29, Tryd.ntmps29
    obtain ⟨p_0, ⟨p_1, p_2, p_3⟩, p_4⟩ := _root_.id B0
    go_wp2_with fail
    refine (cp _ hb0).mono ?_
    rintro e W ⟨rfl, b1⟩
    have hb1 := hb0.trans (b1.mono hb0.size)
    have C0 := B0.keep b1
    have C1 := B1.keep b1
    have hWz := C1.1
    obtain ⟨hT1, hT2⟩ := hta W hb1
    have hbE : Below W.heap.size W (W.alloc (.cells #[] 54)) := (Below.refl _ _).alloc (Nat.le_refl _) _
    clear p_0 p_1 p_2 p_3 p_4
    clear b1 B0 B1 cp hta
    by_cases hck : c = K
    · obtain rfl : M = 0 := by omega
      obtain rfl : N = K := by omega
      subst hck
      have htail : ∀ ad c', ArgE (W.alloc (.cells #[] 54)) (.slice (some ad) 0 c') (es.drop c) := fun ad c' => by
        rw [List.eq_nil_of_length_eq_zero HML.out]
        exact .empty ad c'
      clear hT1 hT2 hc
      obtain ⟨p_0, ⟨p_1, p_2, p_3⟩, p_4⟩ := _root_.id C0
      go_wp2_with (at_builtin; refine wpList_append_es rfl _ _ rfl W.heap.size _ [] rfl (own_empty W) (by simp) _ (es.drop c) rfl (htail _ _) (by have := HML.out; have := HN.out; simp only [List.length_nil]; omega) ?_)
      intro v' w2 ho b2 _
      have hb2 := hbE.trans b2
      have D0 := C0.keep hb2
      have D1 := C1.keep hb2
      obtain ⟨A2, c2, hv2, _⟩ := own_room ho
      rw [HML.out] at hv2
      subst hv2
      have hbw : Below w.heap.size w w2 := hb1.trans (hb2.mono hb1.size)
      have HO := Lib.hid (fun (u0 u1 u2 : Value) => own_set (own_set (own_set ho (a := ⟨w.heap.size + 1, 0, none⟩) hWz u0) (a := ⟨w.heap.size + 1, 1, none⟩) hWz u1) (a := ⟨w.heap.size + 1, 2, none⟩) hWz u2)
      clear p_0 p_1 p_2 p_3 p_4
      clear C0 C1 ho b2 hb2 hbE htail
      obtain ⟨p_0, ⟨p_1, p_2, p_3⟩, p_4⟩ := _root_.id D0
      obtain ⟨q_0, ⟨q_1, q_2, q_3⟩, q_4⟩ := _root_.id D1
      go_wp2_with fail
      exact bodyPost_ret (res_box Tryd.results29 rfl (D1.put ⟨to, x, es.drop c⟩ (.slice A2 0 c2))) rfl ⟨_, rfl, ArgE.of_own (HO.out _ _ _), ((hbw.setCell (p := ⟨w.heap.size + 1, 0, none⟩) (show w.heap.size ≤ w.heap.size + 1 by omega) _).setCell (p := ⟨w.heap.size + 1, 1, none⟩) (show w.heap.size ≤ w.heap.size + 1 by omega) _).setCell (p := ⟨w.heap.size + 1, 2, none⟩) (show w.heap.size ≤ w.heap.size + 1 by omega) _⟩
    · have k3 : (c = K) = False := eq_false hck
      have htail := hT2 hck _ hbE
      rw [hM] at htail
      clear hT1 hT2 hc hck
      obtain ⟨p_0, ⟨p_1, p_2, p_3⟩, p_4⟩ := _root_.id C0
      go_wp2_with (at_builtin; refine wpList_append_es rfl _ _ rfl W.heap.size _ [] rfl (own_empty W) (by simp) _ (es.drop K) rfl htail (by have := HML.out; have := HN.out; simp only [List.length_nil]; omega) ?_)
      intro v' w2 ho b2 _
      have hb2 := hbE.trans b2
      have D0 := C0.keep hb2
      have D1 := C1.keep hb2
      obtain ⟨A2, c2, hv2, _⟩ := own_room ho
      rw [HML.out] at hv2
      subst hv2
      have hbw : Below w.heap.size w w2 := hb1.trans (hb2.mono hb1.size)
      have HO := Lib.hid (fun (u0 u1 u2 : Value) => own_set (own_set (own_set ho (a := ⟨w.heap.size + 1, 0, none⟩) hWz u0) (a := ⟨w.heap.size + 1, 1, none⟩) hWz u1) (a := ⟨w.heap.size + 1, 2, none⟩) hWz u2)
      clear p_0 p_1 p_2 p_3 p_4
      clear C0 C1 ho b2 hb2 hbE htail
      obtain ⟨p_0, ⟨p_1, p_2, p_3⟩, p_4⟩ := _root_.id D0
      obtain ⟨q_0, ⟨q_1, q_2, q_3⟩, q_4⟩ := _root_.id D1
      go_wp2_with fail
      exact bodyPost_ret (res_box Tryd.results29 rfl (D1.put ⟨to, x, es.drop K⟩ (.slice A2 M c2))) rfl ⟨_, rfl, ArgE.of_own (HO.out _ _ _), ((hbw.setCell (p := ⟨w.heap.size + 1, 0, none⟩) (show w.heap.size ≤ w.heap.size + 1 by omega) _).setCell (p := ⟨w.heap.size + 1, 1, none⟩) (show w.heap.size ≤ w.heap.size + 1 by omega) _).setCell (p := ⟨w.heap.size + 1, 2, none⟩) (show w.heap.size ≤ w.heap.size + 1 by omega) _⟩
end Go.Proofs.YtimodohcihnoiaaDoor.Ro

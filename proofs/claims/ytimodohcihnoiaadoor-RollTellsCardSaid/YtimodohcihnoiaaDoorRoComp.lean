/-
  Compact, the program's and the document's. Conditions: bases from 0 to 2^40, at most 100,000 entries; numbers such as a program can hold.
-/
import Derived.Test.YtimodohcihnoiaaDoorRoRSl
import Derived.Test.YtimodohcihnoiaaDoorMixed
namespace Go.Proofs.YtimodohcihnoiaaDoor.Ro
open Go.RowKit

/-- a region at whose end a call (operation kc) makes a roll, and it is stored into the box n (operation ks) -/
structure RC (kc ks n : Nat) (W : World) (to x : Int) (M : Nat) (es : List En) (L : Nat → Bool) (u : Nat → Value) (wx : World) : Prop where
  a : L kc = false → Below W.heap.size W wx
  b : L kc = true → L ks = false → ∃ A c, u kc = .agg #[.int .i64 to, .int .i64 x, .slice A M c] ∧ ArgE wx (.slice A M c) es ∧ Off n (.slice A M c) ∧ Below W.heap.size W wx
  c : L ks = true → ∃ A c wy, ArgE wy (.slice A M c) es ∧ Off n (.slice A M c) ∧ Below W.heap.size W wy ∧ wx = (((wy.setCell ⟨n, 0, none⟩ (.int .i64 to)).setCell ⟨n, 1, none⟩ (.int .i64 x)).setCell ⟨n, 2, none⟩ (.slice A M c))
theorem RC.start {kc ks n : Nat} {W : World} {to x : Int} {M : Nat} {es : List En} : RC kc ks n W to x M es (fun _ => false) (fun _ => undef) W.drew :=
  ⟨fun _ => (Below.refl _ W).drew, fun h => (by cases h), fun h => (by cases h)⟩
/-- a call ahead of the last one -/
theorem RC.call {kc ks n i : Nat} {W wx w' : World} {to x : Int} {M : Nat} {es : List En} {L : Nat → Bool} {u : Nat → Value} {v : Value} (h : RC kc ks n W to x M es L u wx) (h0 : L kc = false) (h1 : L ks = false) (hb : Below wx.heap.size wx w') (n0 : kc ≠ i) (n1 : ks ≠ i) :
    RC kc ks n W to x M es (St.mark L i) (St.upd u i v) w' := by
  have h0' := h.a h0
  refine ⟨fun _ => h0'.trans (hb.mono h0'.size), fun h' => ?_, fun h' => ?_⟩
  · rw [show St.mark L i kc = L kc by simp [St.mark, n0], h0] at h'; cases h'
  · rw [show St.mark L i ks = L ks by simp [St.mark, n1], h1] at h'; cases h'
/-- the last one -/
theorem RC.made {kc ks n : Nat} {W wx w' : World} {to x : Int} {M : Nat} {es : List En} {L : Nat → Bool} {u : Nat → Value} {A : Option Addr} {c : Nat} (h : RC kc ks n W to x M es L u wx) (h0 : L kc = false) (h1 : L ks = false) (hne : kc ≠ ks)
    (ha : ArgE w' (.slice A M c) es) (ho : Off n (.slice A M c)) (hb : Below wx.heap.size wx w') : RC kc ks n W to x M es (St.mark L kc) (St.upd u kc (.agg #[.int .i64 to, .int .i64 x, .slice A M c])) w' := by
  have h0' := h.a h0
  refine ⟨fun h' => ?_, fun _ _ => ⟨A, c, by simp [St.upd], ha, ho, h0'.trans (hb.mono h0'.size)⟩, fun h' => ?_⟩
  · rw [show St.mark L kc kc = true by simp [St.mark]] at h'; cases h'
  · rw [show St.mark L kc ks = L ks by simp [St.mark, hne.symm], h1] at h'; cases h'
/-- what holds behind the region -/
theorem RC.done {kc ks n : Nat} {W wx : World} {to x : Int} {M : Nat} {es : List En} {L : Nat → Bool} {u : Nat → Value} {r0 : Lg} {s0 : Value} (h : RC kc ks n W to x M es L u wx) (hk : L ks = true) (hb : BoxL n r0 s0 W) :
    ∃ A c, BoxL n ⟨to, x, es⟩ (.slice A M c) wx ∧ ArgE wx (.slice A M c) es ∧ ∀ N w, Below N w W → N ≤ n → w.heap.size = N → Below N w wx := by
  obtain ⟨A, c, wy, h1, h2, h3, rfl⟩ := h.c hk
  refine ⟨A, c, (hb.keep h3).put ⟨to, x, es⟩ _, ((h1.set h2 _).set h2 _).set h2 _, fun N w hw hN hz => ?_⟩
  have hz2 := hw.size
  exact (((hw.trans (h3.mono (by omega))).setCell (p := ⟨n, 0, none⟩) hN _).setCell (p := ⟨n, 1, none⟩) hN _).setCell (p := ⟨n, 2, none⟩) hN _

/-- the entries behind the k-th one, as a slice -/
theorem tail_arg {w : World} {b o N c k : Nat} {es : List En} (h : ArgE w (.slice (some ⟨b, o, none⟩) N c) es) (hk : k < N) : (c = k + 1 → ∀ wx, Below w.heap.size w wx → ArgE wx (.slice (some ⟨b, o, none⟩) 0 0) (es.drop (k + 1))) ∧ (c ≠ k + 1 → ∀ wx, Below w.heap.size w wx → ArgE wx (.slice (some ⟨b, o + (k + 1) * 2, none⟩) (N - (k + 1)) (c - (k + 1))) (es.drop (k + 1))) := by
  refine ⟨fun hc wx hb => ?_, fun hc wx hb => argE_behind (h.keep hb) (by omega)⟩
  obtain ⟨_, _, e, hr⟩ := h.room
  injection e with e1 e2 e3
  rw [List.drop_of_length_le (by omega)]
  exact .empty _ _

set_option maxHeartbeats 8000000 in
set_option maxRecDepth 100000 in
theorem compact_any (r : Lg) (s : Value) (to : Int) (w : World) (hs : ArgE w s r.es) (ft : FitL r) (hn : r.es.length ≤ 100000) (ht : inI to) :
    Calls Tryd.prog 28 #[lv r s, .int .i64 to] w fun e w' => GaveL w (compL r to) e w' := by
  obtain ⟨A, c, rfl, hc⟩ := hs.room
  have cp := fun w' (h : Below w.heap.size w w') => place_any r (.slice A r.es.length c) to w' (hs.keep h).sm ft ht
  have cu := fun w' (h : Below w.heap.size w w') => upTo_any r A r.es.length c r.es.length w' (hs.keep h) (Nat.le_refl _)
  obtain ⟨base, bt, es⟩ := r
  simp only at cp cu hn hc hs ⊢
  obtain ⟨N, hN⟩ : ∃ N, es.length = N := ⟨_, rfl⟩
  have B0 := (BoxL.new w ⟨base, bt, es⟩ (.slice A N c)).alloc (.cells #[.int .i64 0, .int .i64 0, .slice none 0 0] 24)
  have B1 := box2 w (.cells #[.int .i64 base, .int .i64 bt, .slice A N c] 24) Lg.zero (.slice none 0 0)
  have hb0 : Below w.heap.size w ((w.alloc (.cells #[.int .i64 base, .int .i64 bt, .slice A N c] 24)).alloc (.cells #[.int .i64 0, .int .i64 0, .slice none 0 0] 24)) := (by (repeat' (first | with_reducible assumption | with_reducible exact Below.refl _ _ | with_reducible refine Below.alloc ?_ ?_ _ | with_reducible refine Below.setCell ?_ ?_ _ | with_reducible refine Below.drew ?_ | omega | (simp; done) | (simp; omega))))
  have HN := Lib.hid hN
  have hfr := argE_front hs (Nat.le_refl _)
  rw [List.take_of_length_le (Nat.le_refl _)] at hfr
  have hoff : Off (w.heap.size + 1) (.slice A N N) := fun b o k c' e hk => by
    cases e
    exact hs.sm.off (Nat.le_succ _) b o _ c rfl (by omega)
  rw [hN] at cp cu hfr hc hs ⊢
  cases hp : placeL ⟨base, bt, es⟩ to with
  | none =>
    rw [show compL ⟨base, bt, es⟩ to = ⟨base, bt, es⟩ by unfold compL; rw [hp]]
    rw [hp] at cp
    simp only [placeV] at cp
    have HF := Lib.hid hfr
    have HOF := Lib.hid hoff
    clear hp hs hN hfr hoff ft
    go_enter Tryd.func28, Tryd.ntmps28
    obtain ⟨p_0, ⟨p_1, p_2, p_3⟩, p_4⟩ := _root_.id B0
    go_wp2_with fail
    refine (cp _ hb0).mono ?_
    rintro e w1 ⟨rfl, b1⟩
    have hb1 := hb0.trans (b1.mono hb0.size)
    have C0 := B0.keep b1
    have C1 := B1.keep b1
    clear p_0 p_1 p_2 p_3 p_4
    clear b1 B0 B1 cp
    obtain ⟨p_0, ⟨p_1, p_2, p_3⟩, p_4⟩ := _root_.id C0
    go_wp2_with fail
    refine (cu _ hb1).mono ?_
    rintro e w2 ⟨rfl, b2⟩
    have hb2 := hb1.trans (b2.mono hb1.size)
    have D1 := C1.keep b2
    clear p_0 p_1 p_2 p_3 p_4
    clear b2 C0 C1 cu
    obtain ⟨q_0, ⟨q_1, q_2, q_3⟩, q_4⟩ := _root_.id D1
    go_wp2_with fail
    have ha := HF.out.keep hb2
    exact bodyPost_ret (res_box Tryd.results28 rfl (D1.put ⟨base, bt, es⟩ (.slice A N N))) rfl ⟨_, rfl, ((ha.set HOF.out _).set HOF.out _).set HOF.out _, ((hb2.setCell (p := ⟨w.heap.size + 1, 0, none⟩) (show w.heap.size ≤ w.heap.size + 1 by omega) _).setCell (p := ⟨w.heap.size + 1, 1, none⟩) (show w.heap.size ≤ w.heap.size + 1 by omega) _).setCell (p := ⟨w.heap.size + 1, 2, none⟩) (show w.heap.size ≤ w.heap.size + 1 by omega) _⟩
  | some k =>
    obtain ⟨hk, -⟩ := placeL_some hp
    simp only at hk
    obtain ⟨b, o, rfl, hb, q0, q1⟩ := hs.sm.at_ hk
    have hcomp : compL ⟨base, bt, es⟩ to = ⟨to, (es[k]).1, es.drop (k + 1)⟩ := by
      unfold compL; rw [hp]; simp only
      rw [List.getD_eq_getElem?_getD, List.getElem?_eq_getElem hk]; rfl
    rw [hcomp]
    obtain ⟨⟨x, y⟩, hx⟩ : ∃ x, es[k] = x := ⟨_, rfl⟩
    rw [hx] at q0 q1 ⊢
    simp only at q0 q1 ⊢
    rw [hN] at hk
    rw [hp] at cp
    simp only [placeV] at cp
    obtain ⟨M, hM⟩ : ∃ M, N - (k + 1) = M := ⟨_, rfl⟩
    have hta := fun w1 (hb1 : Below w.heap.size w w1) => tail_arg (hs.keep hb1) hk
    have k0 : (0 ≤ (k : Int)) = True := eq_true (by omega)
    have k1 : ((k : Int) < (N : Int)) = True := eq_true (by omega)
    have j1 : IntKind.i64.wrap ((k : Int) + 1) = (k : Int) + 1 := by rw [IntKind.wrap_i64] <;> omega
    have k4 : (0 ≤ (k : Int) + 1) = True := eq_true (by omega)
    have k5 : ((k : Int) + 1 ≤ (N : Int)) = True := eq_true (by omega)
    have k6 : ((N : Int) ≤ (c : Int)) = True := eq_true (by omega)
    have k7 : k + 1 ≤ N := hk
    have k8 : N ≤ c := hc
    have HP := Lib.hid hp
    clear hp hN hfr hoff ft hx hcomp hs cu
    go_enter Tryd.func28, Tryd.ntmps28
    obtain ⟨p_0, ⟨p_1, p_2, p_3⟩, p_4⟩ := _root_.id B0
    go_wp2_with fail
    refine (cp _ hb0).mono ?_
    rintro e W ⟨rfl, b1⟩
    have hb1 := hb0.trans (b1.mono hb0.size)
    have C0 := B0.keep b1
    have B1' := B1.keep b1
    have hWz := B1'.1
    have q2 := (hb1.cell (p := ⟨b, o + k * 2, none⟩) hb).trans q0
    have hbW : b < W.heap.size := by have := hb1.size; omega
    obtain ⟨hT1, hT2⟩ := hta W hb1
    have hbox : ∀ wx, Below W.heap.size W wx → BoxL w.heap.size ⟨base, bt, es⟩ (.slice (some ⟨b, o, none⟩) N c) wx := fun wx h => C0.keep h
    have hbox2 : ∀ wx, Below W.heap.size W wx → BoxL (w.heap.size + 1) Lg.zero (.slice none 0 0) wx := fun wx h => B1'.keep h
    clear p_0 p_1 p_2 p_3 p_4
    clear b1 B0 B1 cp C0 q0 q1 hta
    by_cases hck : c = k + 1
    · have k3 : (c = k + 1) = True := eq_true hck
      obtain rfl : M = 0 := by omega
      have htail := hT1 hck
      have hC : c - (k + 1) = 0 := by omega
      clear hT1 hT2 hc hck
      go_wp2_with fail
      refine St.wp_region_mixed (RC 13 14 (w.heap.size + 1) W to x 0 (es.drop (k + 1))) (fun i z => ∃ A c, z = .agg #[.int .i64 to, .int .i64 x, .slice A 0 c]) (by kernel_rfl) (by kernel_rfl) (by kernel_rfl) RC.start ?_
      apply St.mix_give
      · rfl
      · intro L u' wx hS hcl hrd hag
        go_simp
        try with_reducible rfl
      · exact fun L u' wx hS => ⟨hS.a, hS.b, hS.c⟩
      simp only [Act.put, List.setIfInBounds_toArray, List.set_cons_zero, List.set_cons_succ]
      apply St.mix_give
      · rfl
      · intro L u' wx hS hcl hrd hag
        go_simp
        try with_reducible rfl
      · exact fun L u' wx hS => ⟨hS.a, hS.b, hS.c⟩
      simp only [Act.put, List.setIfInBounds_toArray, List.set_cons_zero, List.set_cons_succ]
      apply St.mix_give
      · rfl
      · intro L u' wx hS hcl hrd hag
        obtain ⟨_, ⟨d0, d1, d2⟩, _⟩ := hbox wx (hS.a (St.not_yet hcl hrd 60 13 (by kernel_rfl)))
        go_simp
        try with_reducible rfl
      · exact fun L u' wx hS => ⟨hS.a, hS.b, hS.c⟩
      simp only [Act.put, List.setIfInBounds_toArray, List.set_cons_zero, List.set_cons_succ]
      apply St.mix_give
      · rfl
      · intro L u' wx hS hcl hrd hag
        go_simp
        try with_reducible rfl
      · exact fun L u' wx hS => ⟨hS.a, hS.b, hS.c⟩
      simp only [Act.put, List.setIfInBounds_toArray, List.set_cons_zero, List.set_cons_succ]
      apply St.mix_give
      · rfl
      · intro L u' wx hS hcl hrd hag
        go_simp
        try with_reducible rfl
      · exact fun L u' wx hS => ⟨hS.a, hS.b, hS.c⟩
      simp only [Act.put, List.setIfInBounds_toArray, List.set_cons_zero, List.set_cons_succ]
      apply St.mix_give
      · rfl
      · intro L u' wx hS hcl hrd hag
        go_simp
        try with_reducible rfl
      · exact fun L u' wx hS => ⟨hS.a, hS.b, hS.c⟩
      simp only [Act.put, List.setIfInBounds_toArray, List.set_cons_zero, List.set_cons_succ]
      apply St.mix_give
      · rfl
      · intro L u' wx hS hcl hrd hag
        have e0 := ((hS.a (St.not_yet hcl hrd 60 13 (by kernel_rfl))).cell (p := ⟨b, o + k * 2, none⟩) hbW).trans q2
        go_simp
        try with_reducible rfl
      · exact fun L u' wx hS => ⟨hS.a, hS.b, hS.c⟩
      simp only [Act.put, List.setIfInBounds_toArray, List.set_cons_zero, List.set_cons_succ]
      apply St.mix_give
      · rfl
      · intro L u' wx hS hcl hrd hag
        go_simp
        try with_reducible rfl
      · exact fun L u' wx hS => ⟨hS.a, hS.b, hS.c⟩
      simp only [Act.put, List.setIfInBounds_toArray, List.set_cons_zero, List.set_cons_succ]
      apply St.mix_give
      · rfl
      · intro L u' wx hS hcl hrd hag
        go_simp
        try with_reducible rfl
      · exact fun L u' wx hS => ⟨hS.a, hS.b, hS.c⟩
      simp only [Act.put, List.setIfInBounds_toArray, List.set_cons_zero, List.set_cons_succ]
      apply St.mix_give
      · rfl
      · intro L u' wx hS hcl hrd hag
        obtain ⟨_, ⟨d0, d1, d2⟩, _⟩ := hbox wx (hS.a (St.not_yet hcl hrd 60 13 (by kernel_rfl)))
        go_simp
        try with_reducible rfl
      · exact fun L u' wx hS => ⟨hS.a, hS.b, hS.c⟩
      simp only [Act.put, List.setIfInBounds_toArray, List.set_cons_zero, List.set_cons_succ]
      apply St.mix_give
      · rfl
      · intro L u' wx hS hcl hrd hag
        go_simp
        try with_reducible rfl
      · exact fun L u' wx hS => ⟨hS.a, hS.b, hS.c⟩
      simp only [Act.put, List.setIfInBounds_toArray, List.set_cons_zero, List.set_cons_succ]
      apply St.mix_give
      · rfl
      · intro L u' wx hS hcl hrd hag
        go_simp
        try with_reducible rfl
      · exact fun L u' wx hS => ⟨hS.a, hS.b, hS.c⟩
      simp only [Act.put, List.setIfInBounds_toArray, List.set_cons_zero, List.set_cons_succ]
      apply St.mix_give
      · rfl
      · intro L u' wx hS hcl hrd hag
        go_simp
        try with_reducible rfl
      · exact fun L u' wx hS => ⟨hS.a, hS.b, hS.c⟩
      simp only [Act.put, List.setIfInBounds_toArray, List.set_cons_zero, List.set_cons_succ]
      refine St.mix_call (f := 26) (args := #[.agg #[.int .i64 to, .int .i64 x, .slice none 0 0], .slice (some ⟨b, o, none⟩) 0 0]) rfl ?_ ?_ ?_
      · intro wx
        go_simp
        try with_reducible rfl
      · intro L u' wx hS hcl hrd hag
        have h14 := St.not_yet hcl hrd 60 14 (by kernel_rfl)
        have hb := hS.a hrd.1
        refine (append_new ⟨to, x, []⟩ none 0 0 _ _ wx .nil (htail wx hb) (by omega) (by simp; omega)).mono ?_
        rintro e w' ⟨v, rfl, ha, hn, hb'⟩
        obtain ⟨A7, c7, hv7, _⟩ := ha.room
        rw [show (appL ⟨to, x, []⟩ (es.drop (k + 1))).es.length = 0 by have := HN.out; simp [appL]; omega] at hv7
        subst hv7
        refine ⟨_, rfl, ⟨A7, c7, rfl⟩, hS.made hrd.1 h14 (by decide) ha ?_ hb'⟩
        rcases hn with h | h
        · rw [h]; intro b' o' k' c' e'; cases e'
        · exact h.off (by have := hb.size; omega)
      rintro _ ⟨A7, c7, rfl⟩
      simp only [Act.put, List.setIfInBounds_toArray, List.set_cons_zero, List.set_cons_succ]
      refine St.mix_skip rfl ?_ ?_
      · intro L u' wx hS hcl hrd hag
        have h13 := St.before_ready hcl hrd 60 13 (by kernel_rfl)
        obtain ⟨A8, c8, hu, h1, h2, h3⟩ := hS.b h13 hrd.1
        have hu2 : u' 13 = .agg #[.int .i64 to, .int .i64 x, .slice A7 0 c7] := hag 60 13 (by kernel_rfl)
        have hu3 := hu.symm.trans hu2
        injection hu3 with hu4
        injection hu4 with hu5
        injection hu5 with _ hu6
        injection hu6 with _ hu7
        injection hu7 with hu8 _
        injection hu8 with e1 _ e3
        subst e1 e3
        obtain ⟨_, ⟨d0, d1, d2⟩, dF⟩ := hbox2 wx h3
        refine ⟨(((wx.setCell ⟨w.heap.size + 1, 0, none⟩ (.int .i64 to)).setCell ⟨w.heap.size + 1, 1, none⟩ (.int .i64 x)).setCell ⟨w.heap.size + 1, 2, none⟩ (.slice A8 0 c8)), ?_, ⟨fun h => (by rw [show St.mark L 14 13 = L 13 from rfl, h13] at h; cases h), fun _ h => (by simp [St.mark] at h), fun _ => ⟨A8, c8, wx, h1, h2, h3, rfl⟩⟩⟩
        go_simp
        try with_reducible rfl
      simp only [Act.put]
      refine St.mix_last ?_
      intro L wx hS hall
      obtain ⟨A9, c9, hbx, harg, hbel⟩ := hS.done (hall 14 (by decide)) B1'
      have hbz := hbel w.heap.size w hb1 (by omega) rfl
      have HBX := Lib.hid hbx
      have HARG := Lib.hid harg
      have HBZ := Lib.hid hbz
      clear hS hall hbx harg hbel hbz
      go_wp2_with fail
      exact bodyPost_ret (res_box Tryd.results28 rfl HBX.out) rfl ⟨_, rfl, HARG.out, HBZ.out⟩
    · have htail := hT2 hck
      rw [hM] at htail
      have k3 : (c = k + 1) = False := eq_false hck
      clear hT1 hT2 hc hck
      go_wp2_with fail
      refine St.wp_region_mixed (RC 13 14 (w.heap.size + 1) W to x M (es.drop (k + 1))) (fun i z => ∃ A c, z = .agg #[.int .i64 to, .int .i64 x, .slice A M c]) (by kernel_rfl) (by kernel_rfl) (by kernel_rfl) RC.start ?_
      apply St.mix_give
      · rfl
      · intro L u' wx hS hcl hrd hag
        go_simp
        try with_reducible rfl
      · exact fun L u' wx hS => ⟨hS.a, hS.b, hS.c⟩
      simp only [Act.put, List.setIfInBounds_toArray, List.set_cons_zero, List.set_cons_succ]
      apply St.mix_give
      · rfl
      · intro L u' wx hS hcl hrd hag
        go_simp
        try with_reducible rfl
      · exact fun L u' wx hS => ⟨hS.a, hS.b, hS.c⟩
      simp only [Act.put, List.setIfInBounds_toArray, List.set_cons_zero, List.set_cons_succ]
      apply St.mix_give
      · rfl
      · intro L u' wx hS hcl hrd hag
        obtain ⟨_, ⟨d0, d1, d2⟩, _⟩ := hbox wx (hS.a (St.not_yet hcl hrd 60 13 (by kernel_rfl)))
        go_simp
        try with_reducible rfl
      · exact fun L u' wx hS => ⟨hS.a, hS.b, hS.c⟩
      simp only [Act.put, List.setIfInBounds_toArray, List.set_cons_zero, List.set_cons_succ]
      apply St.mix_give
      · rfl
      · intro L u' wx hS hcl hrd hag
        go_simp
        try with_reducible rfl
      · exact fun L u' wx hS => ⟨hS.a, hS.b, hS.c⟩
      simp only [Act.put, List.setIfInBounds_toArray, List.set_cons_zero, List.set_cons_succ]
      apply St.mix_give
      · rfl
      · intro L u' wx hS hcl hrd hag
        go_simp
        try with_reducible rfl
      · exact fun L u' wx hS => ⟨hS.a, hS.b, hS.c⟩
      simp only [Act.put, List.setIfInBounds_toArray, List.set_cons_zero, List.set_cons_succ]
      apply St.mix_give
      · rfl
      · intro L u' wx hS hcl hrd hag
        go_simp
        try with_reducible rfl
      · exact fun L u' wx hS => ⟨hS.a, hS.b, hS.c⟩
      simp only [Act.put, List.setIfInBounds_toArray, List.set_cons_zero, List.set_cons_succ]
      apply St.mix_give
      · rfl
      · intro L u' wx hS hcl hrd hag
        have e0 := ((hS.a (St.not_yet hcl hrd 60 13 (by kernel_rfl))).cell (p := ⟨b, o + k * 2, none⟩) hbW).trans q2
        go_simp
        try with_reducible rfl
      · exact fun L u' wx hS => ⟨hS.a, hS.b, hS.c⟩
      simp only [Act.put, List.setIfInBounds_toArray, List.set_cons_zero, List.set_cons_succ]
      apply St.mix_give
      · rfl
      · intro L u' wx hS hcl hrd hag
        go_simp
        try with_reducible rfl
      · exact fun L u' wx hS => ⟨hS.a, hS.b, hS.c⟩
      simp only [Act.put, List.setIfInBounds_toArray, List.set_cons_zero, List.set_cons_succ]
      apply St.mix_give
      · rfl
      · intro L u' wx hS hcl hrd hag
        go_simp
        try with_reducible rfl
      · exact fun L u' wx hS => ⟨hS.a, hS.b, hS.c⟩
      simp only [Act.put, List.setIfInBounds_toArray, List.set_cons_zero, List.set_cons_succ]
      apply St.mix_give
      · rfl
      · intro L u' wx hS hcl hrd hag
        obtain ⟨_, ⟨d0, d1, d2⟩, _⟩ := hbox wx (hS.a (St.not_yet hcl hrd 60 13 (by kernel_rfl)))
        go_simp
        try with_reducible rfl
      · exact fun L u' wx hS => ⟨hS.a, hS.b, hS.c⟩
      simp only [Act.put, List.setIfInBounds_toArray, List.set_cons_zero, List.set_cons_succ]
      apply St.mix_give
      · rfl
      · intro L u' wx hS hcl hrd hag
        go_simp
        try with_reducible rfl
      · exact fun L u' wx hS => ⟨hS.a, hS.b, hS.c⟩
      simp only [Act.put, List.setIfInBounds_toArray, List.set_cons_zero, List.set_cons_succ]
      apply St.mix_give
      · rfl
      · intro L u' wx hS hcl hrd hag
        go_simp
        try with_reducible rfl
      · exact fun L u' wx hS => ⟨hS.a, hS.b, hS.c⟩
      simp only [Act.put, List.setIfInBounds_toArray, List.set_cons_zero, List.set_cons_succ]
      apply St.mix_give
      · rfl
      · intro L u' wx hS hcl hrd hag
        go_simp
        try with_reducible rfl
      · exact fun L u' wx hS => ⟨hS.a, hS.b, hS.c⟩
      simp only [Act.put, List.setIfInBounds_toArray, List.set_cons_zero, List.set_cons_succ]
      refine St.mix_call (f := 26) (args := #[.agg #[.int .i64 to, .int .i64 x, .slice none 0 0], .slice (some ⟨b, o + (k + 1) * 2, none⟩) M (c - (k + 1))]) rfl ?_ ?_ ?_
      · intro wx
        go_simp
        try with_reducible rfl
      · intro L u' wx hS hcl hrd hag
        have h14 := St.not_yet hcl hrd 60 14 (by kernel_rfl)
        have hb := hS.a hrd.1
        refine (append_new ⟨to, x, []⟩ none 0 0 _ _ wx .nil (htail wx hb) (by omega) (by simp; omega)).mono ?_
        rintro e w' ⟨v, rfl, ha, hn, hb'⟩
        obtain ⟨A7, c7, hv7, _⟩ := ha.room
        rw [show (appL ⟨to, x, []⟩ (es.drop (k + 1))).es.length = M by have := HN.out; simp [appL]; omega] at hv7
        subst hv7
        refine ⟨_, rfl, ⟨A7, c7, rfl⟩, hS.made hrd.1 h14 (by decide) ha ?_ hb'⟩
        rcases hn with h | h
        · rw [h]; intro b' o' k' c' e'; cases e'
        · exact h.off (by have := hb.size; omega)
      rintro _ ⟨A7, c7, rfl⟩
      simp only [Act.put, List.setIfInBounds_toArray, List.set_cons_zero, List.set_cons_succ]
      refine St.mix_skip rfl ?_ ?_
      · intro L u' wx hS hcl hrd hag
        have h13 := St.before_ready hcl hrd 60 13 (by kernel_rfl)
        obtain ⟨A8, c8, hu, h1, h2, h3⟩ := hS.b h13 hrd.1
        have hu2 : u' 13 = .agg #[.int .i64 to, .int .i64 x, .slice A7 M c7] := hag 60 13 (by kernel_rfl)
        have hu3 := hu.symm.trans hu2
        injection hu3 with hu4
        injection hu4 with hu5
        injection hu5 with _ hu6
        injection hu6 with _ hu7
        injection hu7 with hu8 _
        injection hu8 with e1 _ e3
        subst e1 e3
        obtain ⟨_, ⟨d0, d1, d2⟩, dF⟩ := hbox2 wx h3
        refine ⟨(((wx.setCell ⟨w.heap.size + 1, 0, none⟩ (.int .i64 to)).setCell ⟨w.heap.size + 1, 1, none⟩ (.int .i64 x)).setCell ⟨w.heap.size + 1, 2, none⟩ (.slice A8 M c8)), ?_, ⟨fun h => (by rw [show St.mark L 14 13 = L 13 from rfl, h13] at h; cases h), fun _ h => (by simp [St.mark] at h), fun _ => ⟨A8, c8, wx, h1, h2, h3, rfl⟩⟩⟩
        go_simp
        try with_reducible rfl
      simp only [Act.put]
      refine St.mix_last ?_
      intro L wx hS hall
      obtain ⟨A9, c9, hbx, harg, hbel⟩ := hS.done (hall 14 (by decide)) B1'
      have hbz := hbel w.heap.size w hb1 (by omega) rfl
      have HBX := Lib.hid hbx
      have HARG := Lib.hid harg
      have HBZ := Lib.hid hbz
      clear hS hall hbx harg hbel hbz
      go_wp2_with fail
      exact bodyPost_ret (res_box Tryd.results28 rfl HBX.out) rfl ⟨_, rfl, HARG.out, HBZ.out⟩
end Go.Proofs.YtimodohcihnoiaaDoor.Ro

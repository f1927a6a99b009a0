
/-
  The document's Scan of a list of pairs. Condition: at most 100,000 pairs.
  The document's last word on what a change comes to: the descriptor, if it may be. Conditions: texts at most 2^47 bytes.
  The document's Split. Conditions: lengths at most 2^47.
  Cut, the document's. Conditions: a plot that may be, of at most 100,000 pairs; texts of at most 2^47 bytes.
  The law's own plot: each list appended to an empty one. Conditions: at most 1000 members, 100,000 pairs, sessions, eaten.
  DeedCuts, walked. Conditions: FitP, a key of at most 2^47 bytes; the library's variables hold what their types allow.
-/
import Derived.Test.YtoomkdofoceiaaaGreatDoorDpHHA
import Derived.Test.YtoomkdofoceiaaaGreatDoorDpMA
import Derived.Test.YtoomkdofoceiaaaGreatDoorDpRIA
import Derived.Test.YtoomkdofoceiaaaGreatDoorDsASA
import Derived.Test.YtoomkdofoceiaaaGreatDoorBndA
import Derived.Test.YtoomkdofoceiaaaGreatDoorDpCuA
import Derived.Test.YtoomkdofoceiaaaGreatDoorDpOTA
import Derived.Test.YtoomkdofoceiaaaGreatDoorDsLiftA
import Derived.Test.YtoomkdofoceiaaaGreatDoorDpRfA
import Derived.Test.YtoomkdofoceiaaaGreatDoorDpLive
import Derived.Test.YtoomkdofoceiaaaGreatDoorDpSmall
namespace Go.Proofs.YtoomkdofoceiaaaGreatDoor.Dp
open Go.RowKit Bnd
open Go.Proofs.YtoomkdofoceiaaaGreatDoor.O (lt)
open Go.Proofs.YtoomkdofoceiaaaGreatDoor.Od (Pr SP OwnP ArgP)
open Go.Proofs.YtoomkdofoceiaaaGreatDoor.Sf (kl between scanP)
theorem argP_one (w : World) (x y : ByteArray) : ArgP (w.alloc (.cells #[.string x, .string y] 66)) (.slice (some ⟨w.heap.size, 0, none⟩) 1 1) [(x, y)] :=
  .some w.heap.size 0 1 [(x, y)] ⟨_, 1, rfl, fun _ => ⟨w.heap.size, 0, rfl, by simp, fun i hi => by
    obtain rfl : i = 0 := by simp at hi; omega
    simp [go_sem]⟩⟩
theorem scan_take {ps : List Pr} {k : Nat} (h : k < ps.length) (f t : ByteArray) : scanP (ps.take (k + 1)) f t = scanP (ps.take k) f t ++ (if between f t ps[k] = true then [ps[k]] else []) := by
  unfold scanP
  rw [List.take_succ_eq_append_getElem h, List.filter_append]
  by_cases hb : between f t ps[k] = true <;> simp [hb]
theorem scan_le (ps : List Pr) (f t : ByteArray) (k : Nat) : (scanP (ps.take k) f t).length ≤ ps.length :=
  Nat.le_trans (List.length_filter_le _ _) (by simp; omega)
set_option maxHeartbeats 8000000 in
set_option maxRecDepth 100000 in
theorem rscan_any (v : Value) (ps : List Pr) (f t : ByteArray) (w : World) (hv : SP w w.heap.size v ps) (hl : ps.length ≤ 100000) :
    Calls Tryz.prog 70 #[v, .string f, .string t] w fun e w' => ∃ v', e = .returned v' ∧ OwnP w' w.heap.size v' (scanP ps f t) ∧ Below w.heap.size w w' := by
  obtain ⟨A, c, rfl⟩ := hv.form
  have HV := Lib.hid hv
  obtain ⟨N, hN⟩ : ∃ N, ps.length = N := ⟨_, rfl⟩
  have HN := Lib.hid hN
  rw [hN] at hl ⊢
  have htt : t.toList = [] → t = ⟨#[]⟩ := fun h => Ds.ba_ext (by rw [h, ByteArray.toList_eq])
  have cases_t : t = ⟨#[]⟩ ∨ t.toList.isEmpty = false ∧ decide (t.toList = []) = false := by
    by_cases h : t.toList = []
    · exact .inl (htt h)
    · refine .inr ⟨?_, by simpa using h⟩
      cases hh : t.toList with
      | nil => exact absurd hh h
      | cons a l => rfl
  clear hN hv htt
  go_enter Tryz.func70, Tryz.ntmps70
  go_wp2_with fail
  go_loopw [7, 8] (fun v7 v8 wr => ∃ k : Nat, k ≤ N ∧ v8 = .int .i64 (k : Int) ∧ OwnP wr w.heap.size v7 (scanP (ps.take k) f t) ∧ Below w.heap.size w wr) (fun _ v8 _ => N - (intOf v8).toNat)
  case atStart => exact ⟨0, Nat.zero_le _, rfl, ⟨rfl, .inl ⟨rfl, rfl⟩⟩, Below.refl _ _⟩
  case round =>
    obtain ⟨k, hk, rfl, hown, hbw⟩ := hrel
    have hz := hbw.size
    obtain ⟨xs, hxs⟩ : ∃ xs, scanP (ps.take k) f t = xs := ⟨_, rfl⟩
    rw [hxs] at hown
    obtain ⟨A7, c7, rfl⟩ := (SP.of_own hown).form
    have HO := Lib.hid hown
    have HXS := Lib.hid hxs
    clear hown hxs
    by_cases hlt : k < N
    rotate_left
    · obtain rfl : k = N := by omega
      have k1 : ((k : Int) < (k : Int)) = False := eq_false (by omega)
      have hall := HXS.out
      rw [List.take_of_length_le (by have := HN.out; omega)] at hall
      have HALL := Lib.hid hall
      clear hall cases_t hlt
      go_wp2_with fail
      go_ret
      exact ⟨_, rfl, by rw [HALL.out]; exact HO.out, hbw⟩
    · have hkx : k < ps.length := by rw [HN.out]; exact hlt
      have hv1 := HV.out.below hbw
      rw [HN.out] at hv1
      obtain ⟨b, o, rfl, hb, q0, q1⟩ := hv1.at_ hkx
      have htk := scan_take hkx f t
      rw [HXS.out] at htk
      have hxl : xs.length ≤ 100000 := by rw [← HXS.out]; have := scan_le ps f t k; have := HN.out; omega
      obtain ⟨⟨x, y⟩, hx⟩ : ∃ x, ps[k] = x := ⟨_, rfl⟩
      rw [hx] at q0 q1 htk
      simp only at q0 q1
      have HTK := Lib.hid htk
      have HXL := Lib.hid hxl
      have k0 : (0 ≤ (k : Int)) = True := eq_true (by omega)
      have k1 : ((k : Int) < (N : Int)) = True := eq_true (by omega)
      clear hv1 hx hkx htk hxl
      have no : between f t (x, y) = false → Hid (scanP (ps.take (k + 1)) f t = xs) := fun h => Lib.hid (by rw [HTK.out, h]; simp)
      have yes : between f t (x, y) = true → Hid (scanP (ps.take (k + 1)) f t = xs ++ [(x, y)]) := fun h => Lib.hid (by rw [HTK.out, h]; simp)
      cases a1 : lt x.toList f.toList with
      | true =>
        have NO := no (by unfold between kl; rw [a1]; rfl)
        clear no yes cases_t
        go_wp2_with fail
        go_roundw
        case rel => exact ⟨k + 1, by omega, by go_num, by rw [NO.out]; exact HO.out, hbw⟩
        case measure => simp [intOf]; omega
      | false =>
        rcases cases_t with ht | ⟨ht, hd⟩
        · subst ht
          have YES := yes (by unfold between kl; rw [a1]; simp [ByteArray.toList_eq])
          clear no yes
          go_wp2_with (at_builtin; refine Od.wpList_append_ps rfl _ _ rfl w.heap.size _ xs rfl (Od.own_alloc HO.out _) (by simp; omega) _ [(x, y)] rfl (argP_one wr x y) (by have := HXL.out; simp; omega) ?_)
          intro v' w3 O3 b3 _
          have B3 : Below w.heap.size w w3 := (hbw.alloc hz _).trans b3
          have HO3 := Lib.hid O3
          clear O3 b3
          go_wp2_with fail
          go_roundw
          case rel => exact ⟨k + 1, by omega, by go_num, by rw [YES.out]; exact HO3.out, B3⟩
          case measure => simp [intOf]; omega
        · cases a3 : lt x.toList t.toList with
          | false =>
            have NO := no (by unfold between kl; simp only [a1, a3, hd]; rfl)
            clear no yes hd
            go_wp2_with fail
            go_roundw
            case rel => exact ⟨k + 1, by omega, by go_num, by rw [NO.out]; exact HO.out, hbw⟩
            case measure => simp [intOf]; omega
          | true =>
            have YES := yes (by unfold between kl; simp only [a1, a3, hd]; rfl)
            clear no yes hd
            go_wp2_with (at_builtin; refine Od.wpList_append_ps rfl _ _ rfl w.heap.size _ xs rfl (Od.own_alloc HO.out _) (by simp; omega) _ [(x, y)] rfl (argP_one wr x y) (by have := HXL.out; simp; omega) ?_)
            intro v' w3 O3 b3 _
            have B3 : Below w.heap.size w w3 := (hbw.alloc hz _).trans b3
            have HO3 := Lib.hid O3
            clear O3 b3
            go_wp2_with fail
            go_roundw
            case rel => exact ⟨k + 1, by omega, by go_num, by rw [YES.out]; exact HO3.out, B3⟩
            case measure => simp [intOf]; omega
end Go.Proofs.YtoomkdofoceiaaaGreatDoor.Dp
namespace Go.Proofs.YtoomkdofoceiaaaGreatDoor.Ds
open Go.RowKit Bnd
end Go.Proofs.YtoomkdofoceiaaaGreatDoor.Ds
namespace Go.Proofs.YtoomkdofoceiaaaGreatDoor.Ds
open Go.RowKit Bnd
open Go.Proofs.YtoomkdofoceiaaaGreatDoor.O (Bd isB keyB hasB nextB)
structure RS (W0 : World) (d : De) (s : Value) (L : Nat → Bool) (u : Nat → Value) (wx : World) : Prop where
  b : Below W0.heap.size W0 wx
  p : L 2 = true → ∃ n, u 2 = ptr n ∧ W0.heap.size ≤ n ∧ (∃ d' s', BoxD n d' s' wx) ∧ (L 4 = true → BoxD n d s wx) ∧ (L 3 = true → u 3 ≠ ptr n)
  q : L 3 = true → ∃ n, u 3 = ptr n ∧ W0.heap.size ≤ n ∧ (∃ d' s', BoxD n d' s' wx) ∧ (L 5 = true → BoxD n d s wx)
theorem RS.two {W0 wx : World} {d : De} {s : Value} {L : Nat → Bool} {u : Nat → Value} (h : RS W0 d s L u wx) (h4 : L 4 = false) :
    RS W0 d s (St.mark L 2) (St.upd u 2 (ptr wx.heap.size)) (wx.alloc (.cells #[.int .i64 0, .string ⟨#[]⟩, .string ⟨#[]⟩, .int .i64 0, .slice none 0 0, .int .i64 0] 26)) := by
  have f3 : St.upd u 2 (ptr wx.heap.size) 3 = u 3 := by simp [St.upd]
  refine ⟨h.b.alloc h.b.size _, fun _ => ⟨wx.heap.size, by simp [St.upd], h.b.size, ⟨_, _, BoxD.zero wx⟩, fun h' => ?_, fun h3 => ?_⟩, fun h3 => ?_⟩
  · rw [show St.mark L 2 4 = L 4 from rfl, h4] at h'; cases h'
  · rw [f3]
    obtain ⟨n, e, _, ⟨_, _, hB⟩, _⟩ := h.q h3
    rw [e]
    intro e'
    have := ptr_inj e'
    have := hB.1
    omega
  · obtain ⟨n, e, e2, ⟨d', s', hB⟩, e5⟩ := h.q h3
    exact ⟨n, f3.trans e, e2, ⟨d', s', hB.alloc _⟩, fun h5 => (e5 h5).alloc _⟩
theorem RS.three {W0 wx : World} {d : De} {s : Value} {L : Nat → Bool} {u : Nat → Value} (h : RS W0 d s L u wx) (h5 : L 5 = false) :
    RS W0 d s (St.mark L 3) (St.upd u 3 (ptr wx.heap.size)) (wx.alloc (.cells #[.int .i64 0, .string ⟨#[]⟩, .string ⟨#[]⟩, .int .i64 0, .slice none 0 0, .int .i64 0] 26)) := by
  have f2 : St.upd u 3 (ptr wx.heap.size) 2 = u 2 := by simp [St.upd]
  refine ⟨h.b.alloc h.b.size _, fun h2 => ?_, fun _ => ⟨wx.heap.size, by simp [St.upd], h.b.size, ⟨_, _, BoxD.zero wx⟩, fun h' => ?_⟩⟩
  · obtain ⟨n, e, e2, ⟨d', s', hB⟩, e4, _⟩ := h.p h2
    refine ⟨n, f2.trans e, e2, ⟨d', s', hB.alloc _⟩, fun h4 => (e4 h4).alloc _, fun _ e' => ?_⟩
    have e' : ptr wx.heap.size = ptr n := by simpa [St.upd] using e'
    have := ptr_inj e'
    have := hB.1
    omega
  · rw [show St.mark L 3 5 = L 5 from rfl, h5] at h'; cases h'
theorem RS.four {W0 wx : World} {d : De} {s : Value} {L : Nat → Bool} {u : Nat → Value} (h : RS W0 d s L u wx) {n : Nat} (h2 : L 2 = true) (hu : u 2 = ptr n) :
    RS W0 d s (St.mark L 4) (St.upd u 4 undef) (putW wx n d s) := by
  obtain ⟨n', e, e2, ⟨d', s', hB⟩, _, e3⟩ := h.p h2
  obtain rfl := ptr_inj (e.symm.trans hu)
  refine ⟨putW_below h.b e2, fun _ => ⟨n', by simp [St.upd, e], e2, ⟨_, _, BoxD.put hB d s⟩, fun _ => BoxD.put hB d s, fun h3 => by simpa [St.upd] using e3 h3⟩, fun h3 => ?_⟩
  obtain ⟨m, g1, g2, ⟨_, _, g3⟩, g4⟩ := h.q h3
  have hne : n' ≠ m := fun e' => e3 h3 (by rw [g1, e'])
  exact ⟨m, by simp [St.upd, g1], g2, ⟨_, _, putW_box g3 hne⟩, fun h5 => putW_box (g4 h5) hne⟩
theorem RS.five {W0 wx : World} {d : De} {s : Value} {L : Nat → Bool} {u : Nat → Value} (h : RS W0 d s L u wx) {n : Nat} (h3 : L 3 = true) (hu : u 3 = ptr n) :
    RS W0 d s (St.mark L 5) (St.upd u 5 undef) (putW wx n d s) := by
  obtain ⟨n', e, e2, ⟨d', s', hB⟩, _⟩ := h.q h3
  obtain rfl := ptr_inj (e.symm.trans hu)
  refine ⟨putW_below h.b e2, fun h2 => ?_, fun _ => ⟨n', by simp [St.upd, e], e2, ⟨_, _, BoxD.put hB d s⟩, fun _ => BoxD.put hB d s⟩⟩
  obtain ⟨m, g1, g2, ⟨_, _, g3⟩, g4, g5⟩ := h.p h2
  have hne : n' ≠ m := fun e' => g5 h3 (by rw [e, e'])
  exact ⟨m, by simp [St.upd, g1], g2, ⟨_, _, putW_box g3 hne⟩, fun h5 => putW_box (g4 h5) hne, fun h3 => by simpa [St.upd] using g5 h3⟩
theorem BoxD.bound {n : Nat} {d : De} {s : Value} {w : World} (h : BoxD n d s w) (f t : ByteArray) : BoxD n { d with f := f, t := t } s ((w.setCell ⟨n, 1, none⟩ (.string f)).setCell ⟨n, 2, none⟩ (.string t)) := by
  obtain ⟨h0, ⟨h1, h2, h3, h4, h5, h6⟩, hf⟩ := h
  refine ⟨by simpa using h0, ⟨?_, ?_, ?_, ?_, ?_, ?_⟩, fun o => by simp [World.frozen?_setCell, hf]⟩
  all_goals simp [go_sem, h1, h2, h3, h4, h5, h6]
theorem BoxD.gen {n : Nat} {d : De} {s : Value} {w : World} (h : BoxD n d s w) (g : Int) : BoxD n { d with gen := g } s (w.setCell ⟨n, 3, none⟩ (.int .i64 g)) := by
  obtain ⟨h0, ⟨h1, h2, h3, h4, h5, h6⟩, hf⟩ := h
  refine ⟨by simpa using h0, ⟨?_, ?_, ?_, ?_, ?_, ?_⟩, fun o => by simp [World.frozen?_setCell, hf]⟩
  all_goals simp [go_sem, h1, h2, h3, h4, h5, h6]
theorem BoxD.number {n : Nat} {d : De} {s : Value} {w : World} (h : BoxD n d s w) (g : Int) : BoxD n { d with id := g } s (w.setCell ⟨n, 0, none⟩ (.int .i64 g)) := by
  obtain ⟨h0, ⟨h1, h2, h3, h4, h5, h6⟩, hf⟩ := h
  refine ⟨by simpa using h0, ⟨?_, ?_, ?_, ?_, ?_, ?_⟩, fun o => by simp [World.frozen?_setCell, hf]⟩
  all_goals simp [go_sem, h1, h2, h3, h4, h5, h6]
structure RT (N : Nat) (W : World) (n8 n9 : Nat) (x y : De) (s : Value) (wx : World) : Prop where
  b : Below N W wx
  x : BoxD n8 x s wx
  y : BoxD n9 y s wx
def left9 (d : De) (k : ByteArray) (a b : Bool) : De := ⟨d.id, d.f, bif a then k else d.t, bif b then d.gen + 1 else d.gen, d.ms, d.next⟩
def right10 (d : De) (k : ByteArray) (n : Int) (a b c : Bool) : De := ⟨bif a then n else d.id, bif b then k else d.f, d.t, bif c then d.gen + 1 else d.gen, d.ms, d.next⟩
set_option maxHeartbeats 8000000 in
set_option maxRecDepth 100000 in
theorem rsplit_any (d : De) (s : Value) (k : ByteArray) (n : Int) (w : World) (hl : ArgM w s d.ms) (fl : Fit d) (hk : k.size ≤ 140737488355328) :
    Calls Tryz.prog 69 #[dv d s, .string k, .int .i64 n] w fun e w' => Gave2 w (splitD d k n) e w' := by
  obtain ⟨A, c, rfl⟩ := hl.form
  have kl : ∀ w1, Below w.heap.size w w1 → ArgM w1 (.slice A d.ms.length c) d.ms := fun w1 hb => hl.keep hb
  have c1 := fun w hs => ris_any d (.slice A d.ms.length c) w hs fl.f fl.t (by have := fl.n; omega)
  have c2 := fun w => Bnd.rcut_any d.f d.t k w fl.f fl.t hk
  have hcv : cutV d.f d.t k = if cutsB d.b k.toList = true then .tuple #[bd d.f k, bd k d.t, .int .i64 0] else .tuple #[bd E0 E0, bd E0 E0, .int .i64 20] := rfl
  rw [hcv] at c2
  clear hcv
  cases h1 : isD d with
  | false =>
    have hr : splitD d k n = (De.zero, De.zero, 60) := by unfold splitD; rw [if_neg (by simp [h1])]
    rw [hr]
    rw [h1] at c1
    clear hr h1
    go_enter Tryz.func69, Tryz.ntmps69
    go_wp2_with fail
    refine (c1 _ (kl _ (by (repeat' (first | with_reducible assumption | with_reducible exact Below.refl _ _ | with_reducible refine Below.alloc ?_ ?_ _ | with_reducible refine Below.setCell ?_ ?_ _ | with_reducible refine Below.drew ?_ | omega | (simp; done) | (simp; omega))))).sm).mono ?_
    rintro e w1 ⟨rfl, b1⟩
    obtain ⟨B0, B1, B2, hb⟩ := boxes4 d (.slice A d.ms.length c) b1
    clear b1
    obtain ⟨p_0, ⟨p_1, p_2, p_3, p_4, p_5, p_6⟩, p_7⟩ := id B1
    obtain ⟨q_0, ⟨q_1, q_2, q_3, q_4, q_5, q_6⟩, q_7⟩ := id B2
    go_wp2_with fail
    exact bodyPost_ret (put2_fin _ _ _ _ _ _ B1 B2 (by omega) De.zero De.zero (.slice none 0 0) (.slice none 0 0) Tryz.results69 rfl rfl rfl) rfl (Gave2.zero (by (repeat' (first | with_reducible assumption | with_reducible exact Below.refl _ _ | with_reducible refine Below.alloc ?_ ?_ _ | with_reducible refine Below.setCell ?_ ?_ _ | with_reducible refine Below.drew ?_ | omega | (simp; done) | (simp; omega)))))
  | true =>
    have c0 := c1
    rw [h1] at c1
    cases h2 : cutsB d.b k.toList with
    | false =>
      have hr : splitD d k n = (De.zero, De.zero, 20) := by unfold splitD; rw [if_pos h1, if_neg (by simp [h2])]
      rw [hr]
      rw [h2] at c2
      simp only [Bool.false_eq_true, if_false] at c2
      clear hr h1 h2 c0
      go_enter Tryz.func69, Tryz.ntmps69
      go_wp2_with fail
      refine (c1 _ (kl _ (by (repeat' (first | with_reducible assumption | with_reducible exact Below.refl _ _ | with_reducible refine Below.alloc ?_ ?_ _ | with_reducible refine Below.setCell ?_ ?_ _ | with_reducible refine Below.drew ?_ | omega | (simp; done) | (simp; omega))))).sm).mono ?_
      rintro e w1 ⟨rfl, b1⟩
      obtain ⟨B0, B1, B2, hb⟩ := boxes4 d (.slice A d.ms.length c) b1
      clear b1
      obtain ⟨o_0, ⟨o_1, o_2, o_3, o_4, o_5, o_6⟩, o_7⟩ := id B0
      go_wp2_with fail
      refine (c2 _).mono ?_
      rintro e w2 ⟨rfl, b2⟩
      have C0 := B0.keep b2
      have C1 := B1.keep b2
      have C2 := B2.keep b2
      have hb2 : Below w.heap.size w w2 := hb.trans (b2.mono hb.size)
      have hz2 := hb2.size
      have hl1 : w.heap.size < w2.heap.size := by have := C2.1; omega
      have hl2 : w.heap.size + 1 < w2.heap.size := C1.1
      clear o_0 o_1 o_2 o_3 o_4 o_5 o_6 o_7
      clear b2 B0 B1 B2
      obtain ⟨p_0, ⟨p_1, p_2, p_3, p_4, p_5, p_6⟩, p_7⟩ := id C1
      obtain ⟨q_0, ⟨q_1, q_2, q_3, q_4, q_5, q_6⟩, q_7⟩ := id C2
      go_wp2_with fail
      exact bodyPost_ret (put2_fin2 _ _ _ _ _ _ _ _ C1 C2 (by omega) De.zero De.zero (.slice none 0 0) (.slice none 0 0) Tryz.results69 rfl rfl rfl) rfl (Gave2.zero (by (repeat' (first | with_reducible assumption | with_reducible exact Below.refl _ _ | with_reducible refine Below.alloc ?_ ?_ _ | with_reducible refine Below.setCell ?_ ?_ _ | with_reducible refine Below.drew ?_ | omega | (simp; done) | (simp; omega)))))
    | true =>
      rw [h2] at c2
      simp only [if_true] at c2
      by_cases h3 : n ≤ d.id
      · have hr : splitD d k n = (De.zero, De.zero, 2) := by unfold splitD; rw [if_pos h1, if_pos h2, if_pos h3]
        rw [hr]
        have n1 : (n ≤ d.id) = True := eq_true h3
        clear hr h1 h2 h3 c0
        go_enter Tryz.func69, Tryz.ntmps69
        go_wp2_with fail
        refine (c1 _ (kl _ (by (repeat' (first | with_reducible assumption | with_reducible exact Below.refl _ _ | with_reducible refine Below.alloc ?_ ?_ _ | with_reducible refine Below.setCell ?_ ?_ _ | with_reducible refine Below.drew ?_ | omega | (simp; done) | (simp; omega))))).sm).mono ?_
        rintro e w1 ⟨rfl, b1⟩
        obtain ⟨B0, B1, B2, hb⟩ := boxes4 d (.slice A d.ms.length c) b1
        clear b1
        obtain ⟨o_0, ⟨o_1, o_2, o_3, o_4, o_5, o_6⟩, o_7⟩ := id B0
        go_wp2_with fail
        refine (c2 _).mono ?_
        rintro e w2 ⟨rfl, b2⟩
        have C0 := B0.keep b2
        have C1 := B1.keep b2
        have C2 := B2.keep b2
        have hb2 : Below w.heap.size w w2 := hb.trans (b2.mono hb.size)
        have hz2 := hb2.size
        have hl1 : w.heap.size < w2.heap.size := by have := C2.1; omega
        have hl2 : w.heap.size + 1 < w2.heap.size := C1.1
        clear o_0 o_1 o_2 o_3 o_4 o_5 o_6 o_7
        clear b2 B0 B1 B2
        obtain ⟨o_0, ⟨o_1, o_2, o_3, o_4, o_5, o_6⟩, o_7⟩ := id C0
        obtain ⟨p_0, ⟨p_1, p_2, p_3, p_4, p_5, p_6⟩, p_7⟩ := id C1
        obtain ⟨q_0, ⟨q_1, q_2, q_3, q_4, q_5, q_6⟩, q_7⟩ := id C2
        go_wp2_with fail
        exact bodyPost_ret (put2_fin2 _ _ _ _ _ _ _ _ C1 C2 (by omega) De.zero De.zero (.slice none 0 0) (.slice none 0 0) Tryz.results69 rfl rfl rfl) rfl (Gave2.zero (by (repeat' (first | with_reducible assumption | with_reducible exact Below.refl _ _ | with_reducible refine Below.alloc ?_ ?_ _ | with_reducible refine Below.setCell ?_ ?_ _ | with_reducible refine Below.drew ?_ | omega | (simp; done) | (simp; omega)))))
      · have n1 : (n ≤ d.id) = False := eq_false h3
        have hgen := isD_gen h1
        have hgw : IntKind.i64.wrap (d.gen + 1) = d.gen + 1 := by rw [IntKind.wrap_i64] <;> omega
        have HGW := Lib.hid hgw
        obtain ⟨L, hL⟩ : ∃ L, ({ d with t := k, gen := d.gen + 1 } : De) = L := ⟨_, rfl⟩
        obtain ⟨R, hR⟩ : ∃ R, ({ d with f := k, gen := d.gen + 1, id := n } : De) = R := ⟨_, rfl⟩
        obtain ⟨ans, hans⟩ : ∃ ans, splitD d k n = ans := ⟨_, rfl⟩
        have hr : ans = if isD L = true ∧ isD R = true then (L, R, 0) else (De.zero, De.zero, 60) := by rw [← hans, ← hL, ← hR]; unfold splitD; rw [if_pos h1, if_pos h2, if_neg h3]
        rw [hans]
        have cL : ∀ wx, ArgM wx (.slice A d.ms.length c) d.ms → Calls Tryz.prog 48 #[dv L (.slice A d.ms.length c)] wx fun e w' => e = .returned (.bool (isD L)) ∧ Below wx.heap.size wx w' := by
          intro wx h
          have hm : L.ms = d.ms := by rw [← hL]
          have := ris_any L (.slice A d.ms.length c) wx (by rw [hm]; exact h.sm) (by rw [← hL]; exact fl.f) (by rw [← hL]; exact hk) (by rw [hm]; have := fl.n; omega)
          exact this
        have cR : ∀ wx, ArgM wx (.slice A d.ms.length c) d.ms → Calls Tryz.prog 48 #[dv R (.slice A d.ms.length c)] wx fun e w' => e = .returned (.bool (isD R)) ∧ Below wx.heap.size wx w' := by
          intro wx h
          have hm : R.ms = d.ms := by rw [← hR]
          have := ris_any R (.slice A d.ms.length c) wx (by rw [hm]; exact h.sm) (by rw [← hR]; exact hk) (by rw [← hR]; exact fl.t) (by rw [hm]; have := fl.n; omega)
          exact this
        have HR := Lib.hid hr
        have HL := Lib.hid hL
        have HRR := Lib.hid hR
        clear hr h1 h2 h3 hans hL hR hgen hgw c0
        go_enter Tryz.func69, Tryz.ntmps69
        go_wp2_with fail
        refine (c1 _ (kl _ (by (repeat' (first | with_reducible assumption | with_reducible exact Below.refl _ _ | with_reducible refine Below.alloc ?_ ?_ _ | with_reducible refine Below.setCell ?_ ?_ _ | with_reducible refine Below.drew ?_ | omega | (simp; done) | (simp; omega))))).sm).mono ?_
        rintro e w1 ⟨rfl, b1⟩
        obtain ⟨B0, B1, B2, hb⟩ := boxes4 d (.slice A d.ms.length c) b1
        clear b1
        obtain ⟨o_0, ⟨o_1, o_2, o_3, o_4, o_5, o_6⟩, o_7⟩ := id B0
        go_wp2_with fail
        refine (c2 _).mono ?_
        rintro e w2 ⟨rfl, b2⟩
        have C0 := B0.keep b2
        have C1 := B1.keep b2
        have C2 := B2.keep b2
        have hb2 : Below w.heap.size w w2 := hb.trans (b2.mono hb.size)
        have hz2 := hb2.size
        have hl1 : w.heap.size < w2.heap.size := by have := C2.1; omega
        have hl2 : w.heap.size + 1 < w2.heap.size := C1.1
        clear o_0 o_1 o_2 o_3 o_4 o_5 o_6 o_7
        obtain ⟨o_0, ⟨o_1, o_2, o_3, o_4, o_5, o_6⟩, o_7⟩ := id C0
        clear b2 B0 B1 B2
        go_wp2_with fail
        obtain ⟨W0, hW0⟩ : ∃ W0, (w2.alloc (.cells #[.string d.f, .string k] 23)).alloc (.cells #[.string k, .string d.t] 23) = W0 := ⟨_, rfl⟩
        have hb0 : Below w2.heap.size w2 W0 := hW0 ▸ (by (repeat' (first | with_reducible assumption | with_reducible exact Below.refl _ _ | with_reducible refine Below.alloc ?_ ?_ _ | with_reducible refine Below.setCell ?_ ?_ _ | with_reducible refine Below.drew ?_ | omega | (simp; done) | (simp; omega))))
        have hw0 : Below w.heap.size w W0 := hb2.trans (hb0.mono hz2)
        have hz0 := hw0.size
        have D0 := C0.kept (N := w2.heap.size) C0.1 hb0
        have D1 := C1.kept (N := w2.heap.size) C1.1 hb0
        have D2 := C2.kept (N := w2.heap.size) C2.1 hb0
        have x0 : W0.cell? ⟨w2.heap.size, 0, none⟩ = some (.string d.f) := by rw [← hW0]; simp [go_sem]
        have x1 : W0.cell? ⟨w2.heap.size, 1, none⟩ = some (.string k) := by rw [← hW0]; simp [go_sem]
        have x2 : W0.cell? ⟨w2.heap.size + 1, 0, none⟩ = some (.string k) := by rw [← hW0]; simp [go_sem]
        have x3 : W0.cell? ⟨w2.heap.size + 1, 1, none⟩ = some (.string d.t) := by rw [← hW0]; simp [go_sem]
        have hzz : W0.heap.size = w2.heap.size + 2 := by rw [← hW0]; simp
        rw [hW0]
        clear o_0 o_1 o_2 o_3 o_4 o_5 o_6 o_7
        clear hW0 C0 C1 C2
        refine St.wp_region_mixed (RS W0 d (.slice A d.ms.length c)) (fun _ _ => False) (by kernel_rfl) (by kernel_rfl) (by kernel_rfl) ⟨(Below.refl _ _).drew, fun h => (by cases h), fun h => (by cases h)⟩ ?_
        apply St.mix_give
        · rfl
        · intro L u' wx hS hcl hrd hag
          obtain ⟨j0, ⟨j1, j2, j3, j4, j5, j6⟩, j7⟩ := D0.keep hS.b
          go_simp
          try with_reducible rfl
        · exact fun L u' wx hS => ⟨hS.b, hS.p, hS.q⟩
        simp only [Act.put, List.setIfInBounds_toArray, List.set_cons_zero, List.set_cons_succ]
        apply St.mix_give
        · rfl
        · intro L u' wx hS hcl hrd hag
          obtain ⟨j0, ⟨j1, j2, j3, j4, j5, j6⟩, j7⟩ := D0.keep hS.b
          go_simp
          try with_reducible rfl
        · exact fun L u' wx hS => ⟨hS.b, hS.p, hS.q⟩
        simp only [Act.put, List.setIfInBounds_toArray, List.set_cons_zero, List.set_cons_succ]
        refine St.mix_free (fun x => ∃ n, x = ptr n) rfl ?_ ?_
        · intro L u' wx hS hcl hrd hag
          refine ⟨_, _, ⟨wx.heap.size, rfl⟩, ?_, hS.two (St.not_yet hcl hrd 40 4 (by kernel_rfl))⟩
          go_simp
          try with_reducible rfl
        rintro y ⟨n8, rfl⟩
        simp only [Act.put, List.setIfInBounds_toArray, List.set_cons_zero, List.set_cons_succ]
        refine St.mix_free (fun x => ∃ n, x = ptr n) rfl ?_ ?_
        · intro L u' wx hS hcl hrd hag
          refine ⟨_, _, ⟨wx.heap.size, rfl⟩, ?_, hS.three (St.not_yet hcl hrd 40 5 (by kernel_rfl))⟩
          go_simp
          try with_reducible rfl
        rintro y ⟨n9, rfl⟩
        simp only [Act.put, List.setIfInBounds_toArray, List.set_cons_zero, List.set_cons_succ]
        refine St.mix_skip rfl ?_ ?_
        · intro L u' wx hS hcl hrd hag
          have hu : u' 2 = ptr n8 := hag 40 2 (by kernel_rfl)
          have h2 := St.before_ready hcl hrd 40 2 (by kernel_rfl)
          obtain ⟨n', e8, hN, ⟨d', s', hB⟩, _⟩ := hS.p h2
          obtain rfl := ptr_inj (e8.symm.trans hu)
          obtain ⟨j0, ⟨j1, j2, j3, j4, j5, j6⟩, j7⟩ := id hB
          refine ⟨_, ?_, hS.four h2 hu⟩
          unfold putW
          go_simp
          try with_reducible rfl
        simp only [Act.put]
        refine St.mix_skip rfl ?_ ?_
        · intro L u' wx hS hcl hrd hag
          have hu : u' 3 = ptr n9 := hag 40 3 (by kernel_rfl)
          have h2 := St.before_ready hcl hrd 40 3 (by kernel_rfl)
          obtain ⟨n', e8, hN, ⟨d', s', hB⟩, _⟩ := hS.q h2
          obtain rfl := ptr_inj (e8.symm.trans hu)
          obtain ⟨j0, ⟨j1, j2, j3, j4, j5, j6⟩, j7⟩ := id hB
          refine ⟨_, ?_, hS.five h2 hu⟩
          unfold putW
          go_simp
          try with_reducible rfl
        simp only [Act.put]
        refine St.mix_last ?_
        intro L5 wx hS hall
        obtain ⟨n8', e8, hN8, _, E8, h89⟩ := hS.p (hall 2 (by decide))
        obtain rfl : n8 = n8' := ptr_inj (show ptr n8 = ptr n8' from e8)
        obtain ⟨n9', e9, hN9, _, E9⟩ := hS.q (hall 3 (by decide))
        obtain rfl : n9 = n9' := ptr_inj (show ptr n9 = ptr n9' from e9)
        have E8 := E8 (hall 4 (by decide))
        have E9 := E9 (hall 5 (by decide))
        have hne : n8 ≠ n9 := fun e => h89 (hall 3 (by decide)) (by rw [e]; rfl)
        have bx := hS.b
        clear hS hall e8 e9 h89
        have hs0 : RT W0.heap.size W0 n8 n9 (left9 d k false false) d (.slice A d.ms.length c) wx := ⟨bx, E8, E9⟩
        have hD0 : ∀ wy, Below W0.heap.size W0 wy → BoxD w.heap.size d (.slice A d.ms.length c) wy := fun wy h => D0.keep h
        have hX : ∀ wy, Below W0.heap.size W0 wy → wy.cell? ⟨w2.heap.size, 0, none⟩ = some (.string d.f) ∧ wy.cell? ⟨w2.heap.size, 1, none⟩ = some (.string k) ∧ wy.cell? ⟨w2.heap.size + 1, 0, none⟩ = some (.string k) ∧ wy.cell? ⟨w2.heap.size + 1, 1, none⟩ = some (.string d.t) := fun wy h =>
          ⟨(h.cell (p := ⟨w2.heap.size, 0, none⟩) (show w2.heap.size < W0.heap.size by omega)).trans x0, (h.cell (p := ⟨w2.heap.size, 1, none⟩) (show w2.heap.size < W0.heap.size by omega)).trans x1, (h.cell (p := ⟨w2.heap.size + 1, 0, none⟩) (show w2.heap.size + 1 < W0.heap.size by omega)).trans x2, (h.cell (p := ⟨w2.heap.size + 1, 1, none⟩) (show w2.heap.size + 1 < W0.heap.size by omega)).trans x3⟩
        clear E8 E9 bx x0 x1 x2 x3
        go_wp2_with fail
        refine St.wp_region_mixed (fun L _ wy => RT W0.heap.size W0 n8 n9 (left9 d k (L 5) (L 7)) d (.slice A d.ms.length c) wy) (fun _ _ => False) (by kernel_rfl) (by kernel_rfl) (by kernel_rfl) ⟨hs0.b.drew, hs0.x.drew, hs0.y.drew⟩ ?_
        apply St.mix_give
        · rfl
        · intro L u' wx hS hcl hrd hag
          obtain ⟨j0, ⟨j1, j2, j3, j4, j5, j6⟩, j7⟩ := hD0 wx hS.b
          obtain ⟨x0, x1, x2, x3⟩ := hX wx hS.b
          go_simp
          try with_reducible rfl
        · exact fun L u' wx hS => ⟨hS.b, hS.x, hS.y⟩
        simp only [Act.put, List.setIfInBounds_toArray, List.set_cons_zero, List.set_cons_succ]
        apply St.mix_give
        · rfl
        · intro L u' wx hS hcl hrd hag
          go_simp
          try with_reducible rfl
        · exact fun L u' wx hS => ⟨hS.b, hS.x, hS.y⟩
        simp only [Act.put, List.setIfInBounds_toArray, List.set_cons_zero, List.set_cons_succ]
        apply St.mix_give
        · rfl
        · intro L u' wx hS hcl hrd hag
          obtain ⟨j0, ⟨j1, j2, j3, j4, j5, j6⟩, j7⟩ := hD0 wx hS.b
          obtain ⟨x0, x1, x2, x3⟩ := hX wx hS.b
          go_simp
          try with_reducible rfl
        · exact fun L u' wx hS => ⟨hS.b, hS.x, hS.y⟩
        simp only [Act.put, List.setIfInBounds_toArray, List.set_cons_zero, List.set_cons_succ]
        apply St.mix_give
        · rfl
        · intro L u' wx hS hcl hrd hag
          have hgw := HGW.out
          go_simp
          try with_reducible rfl
        · exact fun L u' wx hS => ⟨hS.b, hS.x, hS.y⟩
        simp only [Act.put, List.setIfInBounds_toArray, List.set_cons_zero, List.set_cons_succ]
        apply St.mix_give
        · rfl
        · intro L u' wx hS hcl hrd hag
          go_simp
          try with_reducible rfl
        · exact fun L u' wx hS => ⟨hS.b, hS.x, hS.y⟩
        simp only [Act.put, List.setIfInBounds_toArray, List.set_cons_zero, List.set_cons_succ]
        refine St.mix_skip rfl ?_ ?_
        · intro L u' wx hS hcl hrd hag
          obtain ⟨j0, ⟨j1, j2, j3, j4, j5, j6⟩, j7⟩ := id hS.x
          have e5 := hrd.1
          have hx := BoxD.bound hS.x d.f k
          refine ⟨(wx.setCell ⟨n8, 1, none⟩ (.string d.f)).setCell ⟨n8, 2, none⟩ (.string k), ?_, ⟨(hS.b.setCell (p := ⟨n8, 1, none⟩) hN8 _).setCell (p := ⟨n8, 2, none⟩) hN8 _, ?_, (hS.y.other hne _).other hne _⟩⟩
          rotate_left
          · rw [show St.mark L 5 7 = L 7 from rfl, show St.mark L 5 5 = true by simp [St.mark]]
            exact hx
          go_simp
          try with_reducible rfl
        simp only [Act.put]
        apply St.mix_give
        · rfl
        · intro L u' wx hS hcl hrd hag
          go_simp
          try with_reducible rfl
        · exact fun L u' wx hS => ⟨hS.b, hS.x, hS.y⟩
        simp only [Act.put, List.setIfInBounds_toArray, List.set_cons_zero, List.set_cons_succ]
        refine St.mix_skip rfl ?_ ?_
        · intro L u' wx hS hcl hrd hag
          obtain ⟨j0, ⟨j1, j2, j3, j4, j5, j6⟩, j7⟩ := id hS.x
          have hx := BoxD.gen hS.x (d.gen + 1)
          refine ⟨wx.setCell ⟨n8, 3, none⟩ (.int .i64 (d.gen + 1)), ?_, ⟨hS.b.setCell (p := ⟨n8, 3, none⟩) hN8 _, ?_, hS.y.other hne _⟩⟩
          rotate_left
          · rw [show St.mark L 7 5 = L 5 from rfl, show St.mark L 7 7 = true by simp [St.mark]]
            exact hx
          go_simp
          try with_reducible rfl
        simp only [Act.put]
        refine St.mix_last ?_
        intro L5 wy hS hall
        have h5 : L5 5 = true := hall 5 (by decide)
        have h7 : L5 7 = true := hall 7 (by decide)
        rw [h5, h7] at hS
        clear hall h5 h7 hs0 L5
        have hs1 : RT W0.heap.size W0 n8 n9 (left9 d k true true) (right10 d k n false false false) (.slice A d.ms.length c) wy := ⟨hS.b, hS.x, hS.y⟩
        clear hS
        go_wp2_with fail
        refine St.wp_region_mixed (fun L _ wz => RT W0.heap.size W0 n8 n9 (left9 d k true true) (right10 d k n (L 6) (L 8) (L 10)) (.slice A d.ms.length c) wz) (fun _ _ => False) (by kernel_rfl) (by kernel_rfl) (by kernel_rfl) ⟨hs1.b.drew, hs1.x.drew, hs1.y.drew⟩ ?_
        apply St.mix_give
        · rfl
        · intro L u' wx hS hcl hrd hag
          go_simp
          try with_reducible rfl
        · exact fun L u' wx hS => ⟨hS.b, hS.x, hS.y⟩
        simp only [Act.put, List.setIfInBounds_toArray, List.set_cons_zero, List.set_cons_succ]
        apply St.mix_give
        · rfl
        · intro L u' wx hS hcl hrd hag
          obtain ⟨j0, ⟨j1, j2, j3, j4, j5, j6⟩, j7⟩ := hD0 wx hS.b
          obtain ⟨x0, x1, x2, x3⟩ := hX wx hS.b
          go_simp
          try with_reducible rfl
        · exact fun L u' wx hS => ⟨hS.b, hS.x, hS.y⟩
        simp only [Act.put, List.setIfInBounds_toArray, List.set_cons_zero, List.set_cons_succ]
        apply St.mix_give
        · rfl
        · intro L u' wx hS hcl hrd hag
          go_simp
          try with_reducible rfl
        · exact fun L u' wx hS => ⟨hS.b, hS.x, hS.y⟩
        simp only [Act.put, List.setIfInBounds_toArray, List.set_cons_zero, List.set_cons_succ]
        apply St.mix_give
        · rfl
        · intro L u' wx hS hcl hrd hag
          obtain ⟨j0, ⟨j1, j2, j3, j4, j5, j6⟩, j7⟩ := hD0 wx hS.b
          obtain ⟨x0, x1, x2, x3⟩ := hX wx hS.b
          go_simp
          try with_reducible rfl
        · exact fun L u' wx hS => ⟨hS.b, hS.x, hS.y⟩
        simp only [Act.put, List.setIfInBounds_toArray, List.set_cons_zero, List.set_cons_succ]
        apply St.mix_give
        · rfl
        · intro L u' wx hS hcl hrd hag
          have hgw := HGW.out
          go_simp
          try with_reducible rfl
        · exact fun L u' wx hS => ⟨hS.b, hS.x, hS.y⟩
        simp only [Act.put, List.setIfInBounds_toArray, List.set_cons_zero, List.set_cons_succ]
        apply St.mix_give
        · rfl
        · intro L u' wx hS hcl hrd hag
          go_simp
          try with_reducible rfl
        · exact fun L u' wx hS => ⟨hS.b, hS.x, hS.y⟩
        simp only [Act.put, List.setIfInBounds_toArray, List.set_cons_zero, List.set_cons_succ]
        refine St.mix_skip rfl ?_ ?_
        · intro L u' wx hS hcl hrd hag
          obtain ⟨j0, ⟨j1, j2, j3, j4, j5, j6⟩, j7⟩ := id hS.y
          have hx := BoxD.number hS.y n
          refine ⟨wx.setCell ⟨n9, 0, none⟩ (.int .i64 n), ?_, ⟨hS.b.setCell (p := ⟨n9, 0, none⟩) hN9 _, hS.x.other (fun e => hne e.symm) _, ?_⟩⟩
          rotate_left
          · rw [show St.mark L 6 8 = L 8 from rfl, show St.mark L 6 10 = L 10 from rfl, show St.mark L 6 6 = true by simp [St.mark]]
            exact hx
          go_simp
          try with_reducible rfl
        simp only [Act.put]
        apply St.mix_give
        · rfl
        · intro L u' wx hS hcl hrd hag
          go_simp
          try with_reducible rfl
        · exact fun L u' wx hS => ⟨hS.b, hS.x, hS.y⟩
        simp only [Act.put, List.setIfInBounds_toArray, List.set_cons_zero, List.set_cons_succ]
        refine St.mix_skip rfl ?_ ?_
        · intro L u' wx hS hcl hrd hag
          obtain ⟨j0, ⟨j1, j2, j3, j4, j5, j6⟩, j7⟩ := id hS.y
          have hx := BoxD.bound hS.y k d.t
          refine ⟨(wx.setCell ⟨n9, 1, none⟩ (.string k)).setCell ⟨n9, 2, none⟩ (.string d.t), ?_, ⟨(hS.b.setCell (p := ⟨n9, 1, none⟩) hN9 _).setCell (p := ⟨n9, 2, none⟩) hN9 _, (hS.x.other (fun e => hne e.symm) _).other (fun e => hne e.symm) _, ?_⟩⟩
          rotate_left
          · rw [show St.mark L 8 6 = L 6 from rfl, show St.mark L 8 10 = L 10 from rfl, show St.mark L 8 8 = true by simp [St.mark]]
            exact hx
          go_simp
          try with_reducible rfl
        simp only [Act.put]
        apply St.mix_give
        · rfl
        · intro L u' wx hS hcl hrd hag
          go_simp
          try with_reducible rfl
        · exact fun L u' wx hS => ⟨hS.b, hS.x, hS.y⟩
        simp only [Act.put, List.setIfInBounds_toArray, List.set_cons_zero, List.set_cons_succ]
        refine St.mix_skip rfl ?_ ?_
        · intro L u' wx hS hcl hrd hag
          obtain ⟨j0, ⟨j1, j2, j3, j4, j5, j6⟩, j7⟩ := id hS.y
          have hx := BoxD.gen hS.y (d.gen + 1)
          refine ⟨wx.setCell ⟨n9, 3, none⟩ (.int .i64 (d.gen + 1)), ?_, ⟨hS.b.setCell (p := ⟨n9, 3, none⟩) hN9 _, hS.x.other (fun e => hne e.symm) _, ?_⟩⟩
          rotate_left
          · rw [show St.mark L 10 6 = L 6 from rfl, show St.mark L 10 8 = L 8 from rfl, show St.mark L 10 10 = true by simp [St.mark]]
            exact hx
          go_simp
          try with_reducible rfl
        simp only [Act.put]
        refine St.mix_last ?_
        intro L5 wz hS hall
        have h6 : L5 6 = true := hall 6 (by decide)
        have h8 : L5 8 = true := hall 8 (by decide)
        have h10 : L5 10 = true := hall 10 (by decide)
        rw [h6, h8, h10] at hS
        clear hall h6 h8 h10 hs1 L5
        have E8 : BoxD n8 L (.slice A d.ms.length c) wz := by rw [← HL.out]; exact hS.x
        have E9 : BoxD n9 R (.slice A d.ms.length c) wz := by rw [← HRR.out]; exact hS.y
        have E1 := D1.keep hS.b
        have E2 := D2.keep hS.b
        have hbz : Below w.heap.size w wz := hw0.trans (hS.b.mono hz0)
        have hzz9 := hbz.size
        have hn8 : w.heap.size + 2 < n8 := by have := D2.1; omega
        have hn9 : w.heap.size + 2 < n9 := by have := D2.1; omega
        clear hS hX hD0 D0 D1 D2 HGW
        obtain ⟨o_0, ⟨o_1, o_2, o_3, o_4, o_5, o_6⟩, o_7⟩ := id E8
        go_wp2_with fail
        refine (cL _ (kl _ hbz)).mono ?_
        rintro e w6 ⟨rfl, b6⟩
        have M1 := E1.keep b6
        have M2 := E2.keep b6
        have M8 := E8.keep b6
        have M9 := E9.keep b6
        have hb6 : Below w.heap.size w w6 := hbz.trans (b6.mono hzz9)
        have hz6 := hb6.size
        clear o_0 o_1 o_2 o_3 o_4 o_5 o_6 o_7
        clear b6 cL E1 E2 E8 E9
        cases hLd : isD L with
        | false =>
          have hA := Lib.hid (show ans = (De.zero, De.zero, 60) by rw [HR.out, if_neg (by simp [hLd])])
          clear hLd
          obtain ⟨p_0, ⟨p_1, p_2, p_3, p_4, p_5, p_6⟩, p_7⟩ := id M1
          obtain ⟨q_0, ⟨q_1, q_2, q_3, q_4, q_5, q_6⟩, q_7⟩ := id M2
          go_wp2_with fail
          exact bodyPost_ret (put2_fin _ _ _ _ _ _ M1 M2 (by omega) De.zero De.zero (.slice none 0 0) (.slice none 0 0) Tryz.results69 rfl rfl rfl) rfl (by rw [hA.out]; exact Gave2.zero (by (repeat' (first | with_reducible assumption | with_reducible exact Below.refl _ _ | with_reducible refine Below.alloc ?_ ?_ _ | with_reducible refine Below.setCell ?_ ?_ _ | with_reducible refine Below.drew ?_ | omega | (simp; done) | (simp; omega)))))
        | true =>
          obtain ⟨o_0, ⟨o_1, o_2, o_3, o_4, o_5, o_6⟩, o_7⟩ := id M9
          go_wp2_with fail
          refine (cR _ (kl _ hb6)).mono ?_
          rintro e w7 ⟨rfl, b7⟩
          have N1 := M1.keep b7
          have N2 := M2.keep b7
          have N8 := M8.keep b7
          have N9 := M9.keep b7
          have hb7 : Below w.heap.size w w7 := hb6.trans (b7.mono hz6)
          clear o_0 o_1 o_2 o_3 o_4 o_5 o_6 o_7
          clear b7 cR M1 M2 M8 M9
          cases hRd : isD R with
          | false =>
            have hA := Lib.hid (show ans = (De.zero, De.zero, 60) by rw [HR.out, if_neg (by simp [hRd])])
            clear hLd hRd
            obtain ⟨p_0, ⟨p_1, p_2, p_3, p_4, p_5, p_6⟩, p_7⟩ := id N1
            obtain ⟨q_0, ⟨q_1, q_2, q_3, q_4, q_5, q_6⟩, q_7⟩ := id N2
            go_wp2_with fail
            exact bodyPost_ret (put2_fin _ _ _ _ _ _ N1 N2 (by omega) De.zero De.zero (.slice none 0 0) (.slice none 0 0) Tryz.results69 rfl rfl rfl) rfl (by rw [hA.out]; exact Gave2.zero (by (repeat' (first | with_reducible assumption | with_reducible exact Below.refl _ _ | with_reducible refine Below.alloc ?_ ?_ _ | with_reducible refine Below.setCell ?_ ?_ _ | with_reducible refine Below.drew ?_ | omega | (simp; done) | (simp; omega)))))
          | true =>
            have hA := Lib.hid (show ans = (L, R, 0) by rw [HR.out, if_pos ⟨hLd, hRd⟩])
            clear hLd hRd
            have hmL : L.ms = d.ms := by rw [← HL.out]
            have hmR : R.ms = d.ms := by rw [← HRR.out]
            go_wp2_with fail
            refine St.wp_region_mixed (fun L' _ wx => R13 w7 (w.heap.size + 1) (w.heap.size + 1 + 1) L R (.slice A d.ms.length c) (.slice A d.ms.length c) L' wx) (fun _ _ => False) (by kernel_rfl) (by kernel_rfl) (by kernel_rfl) ⟨fun _ => rfl, fun h => (by cases h), fun h => (by cases h)⟩ ?_
            apply St.mix_give
            · rfl
            · intro L' u' wx hS hcl hrd hag
              obtain rfl := hS.a (St.not_yet hcl hrd 40 2 (by kernel_rfl))
              obtain ⟨v0, ⟨v1, v2, v3, v4, v5, v6⟩, v7⟩ := id N8
              go_simp
              try with_reducible rfl
            · exact fun L' u' wx hS => ⟨hS.a, hS.b, hS.c⟩
            simp only [Act.put, List.setIfInBounds_toArray, List.set_cons_zero, List.set_cons_succ]
            apply St.mix_give
            · rfl
            · intro L' u' wx hS hcl hrd hag
              have h3 := St.not_yet hcl hrd 40 3 (by kernel_rfl)
              have hB : BoxD n9 R (.slice A d.ms.length c) wx := by
                cases h2 : L' 2 with
                | false => rw [hS.a h2]; exact N9.drew
                | true => rw [hS.b h2 h3]; exact putW_box N9.drew (by omega)
              obtain ⟨v0, ⟨v1, v2, v3, v4, v5, v6⟩, v7⟩ := hB
              go_simp
              try with_reducible rfl
            · exact fun L' u' wx hS => ⟨hS.a, hS.b, hS.c⟩
            simp only [Act.put, List.setIfInBounds_toArray, List.set_cons_zero, List.set_cons_succ]
            refine St.mix_skip rfl ?_ ?_
            · intro L' u' wx hS hcl hrd hag
              have h3 := St.not_yet hcl hrd 40 3 (by kernel_rfl)
              obtain rfl := hS.a hrd.1
              obtain ⟨v0, ⟨v1, v2, v3, v4, v5, v6⟩, v7⟩ := id N1
              refine ⟨_, ?_, ⟨fun h => (by simp [St.mark] at h), fun _ _ => rfl, fun h => (by rw [show St.mark L' 2 3 = L' 3 from rfl, h3] at h; cases h)⟩⟩
              unfold putW
              go_simp
              try with_reducible rfl
            simp only [Act.put]
            refine St.mix_skip rfl ?_ ?_
            · intro L' u' wx hS hcl hrd hag
              have h2 := St.before_ready hcl hrd 40 2 (by kernel_rfl)
              have hB : BoxD (w.heap.size + 1 + 1) De.zero (.slice none 0 0) wx := by rw [hS.b h2 hrd.1]; exact putW_box N2.drew (by omega)
              obtain ⟨v0, ⟨v1, v2, v3, v4, v5, v6⟩, v7⟩ := hB
              refine ⟨putW wx (w.heap.size + 1 + 1) R (.slice A d.ms.length c), ?_, ⟨fun h => (by rw [show St.mark L' 3 2 = L' 2 from rfl, h2] at h; cases h), fun _ h => (by simp [St.mark] at h), fun _ => by rw [hS.b h2 hrd.1]⟩⟩
              unfold putW
              go_simp
              try with_reducible rfl
            simp only [Act.put]
            apply St.mix_give
            · rfl
            · intro L' u' wx hS hcl hrd hag
              go_simp
              try with_reducible rfl
            · exact fun L' u' wx hS => ⟨hS.a, hS.b, hS.c⟩
            simp only [Act.put, List.setIfInBounds_toArray, List.set_cons_zero, List.set_cons_succ]
            refine St.mix_last ?_
            intro L8 wx hS hall
            obtain rfl := hS.c (hall 3 (by decide))
            have F1 : BoxD (w.heap.size + 1) L (.slice A d.ms.length c) (putW (putW w7.drew (w.heap.size + 1) L (.slice A d.ms.length c)) (w.heap.size + 1 + 1) R (.slice A d.ms.length c)) := putW_box (BoxD.put N1.drew L _) (by omega)
            have F2 : BoxD (w.heap.size + 1 + 1) R (.slice A d.ms.length c) (putW (putW w7.drew (w.heap.size + 1) L (.slice A d.ms.length c)) (w.heap.size + 1 + 1) R (.slice A d.ms.length c)) := BoxD.put (putW_box N2.drew (by omega)) R _
            have hbF : Below w.heap.size w (putW (putW w7.drew (w.heap.size + 1) L (.slice A d.ms.length c)) (w.heap.size + 1 + 1) R (.slice A d.ms.length c)) := putW_below (putW_below hb7.drew (by omega)) (by omega)
            obtain ⟨WF, hWF⟩ : ∃ WF, putW (putW w7.drew (w.heap.size + 1) L (.slice A d.ms.length c)) (w.heap.size + 1 + 1) R (.slice A d.ms.length c) = WF := ⟨_, rfl⟩
            rw [hWF] at F1 F2 hbF ⊢
            clear hS hall hWF
            go_wp2_with fail
            refine bodyPost_ret (res_box_box Tryz.results69 rfl rfl rfl F1 F2) rfl ?_
            rw [hA.out]
            refine ⟨_, _, rfl, ?_, ?_, hbF⟩
            · show ArgM _ _ L.ms
              rw [hmL]; exact kl _ hbF
            · show ArgM _ _ R.ms
              rw [hmR]; exact kl _ hbF
end Go.Proofs.YtoomkdofoceiaaaGreatDoor.Ds
namespace Go.Proofs.YtoomkdofoceiaaaGreatDoor.Dp
open Go.RowKit Bnd
open Go.Proofs.YtoomkdofoceiaaaGreatDoor.Ds (De SM OwnI OwnM ArgM ptr ptr_inj dv splitD BoxD isD)
open Go.Proofs.YtoomkdofoceiaaaGreatDoor.Ss (Ses Zs ses SZ PZ NoP OwnZ ArgZ)
open Go.Proofs.YtoomkdofoceiaaaGreatDoor.Od (Pr SP OwnP ArgP)
open Go.Proofs.YtoomkdofoceiaaaGreatDoor.Sf (scanP)
theorem ZE.put {n m : Nat} {w : World} (h : ZE n w) (hn : n ≠ m) (o : Ph) : ZE n (putW w m o) := by
  unfold ZE putW
  iterate 11
    refine Eq.trans (Below.heap_setCell _ _ _ _ ?_) ?_
    exact hn
  exact h
structure P9 (W : World) (N t6 t7 n8 n9 : Nat) (a b : Ph) (L : Nat → Bool) (wx : World) : Prop where
  bw : Below N W wx
  x : BoxP n8 a wx
  y : BoxP n9 b wx
  p : BoxP t6 (bif L 2 then a else Ph.zero) wx
  q : BoxP t7 (bif L 3 then b else Ph.zero) wx
  zp : L 2 = false → ZE t6 wx
  zq : L 3 = false → ZE t7 wx
  ma : ArgM wx a.sm a.d.ms
  mb : ArgM wx b.sm b.d.ms
  pa : ∃ base, t6 < base ∧ t7 < base ∧ OwnP wx base a.sp a.ps
  pb : ∃ base, t6 < base ∧ t7 < base ∧ OwnP wx base b.sp b.ps
theorem P9.two {W : World} {N t6 t7 n8 n9 : Nat} {a b : Ph} {L : Nat → Bool} {wx : World} (h : P9 W N t6 t7 n8 n9 a b L wx) (hl : L 2 = false) (g6 : N ≤ t6) (e1 : t6 ≠ n8) (e2 : t6 ≠ n9) (e3 : t6 ≠ t7) :
    P9 W N t6 t7 n8 n9 a b (St.mark L 2) (putW wx t6 a) := by
  refine ⟨putW_below a g6 h.bw, BoxP.putW h.x a e1, BoxP.putW h.y a e2, ?_, BoxP.putW h.q a e3, fun h' => (by simp [St.mark] at h'), fun h' => (h.zq h').put (Ne.symm e3) a, argM_put h.ma (h.zp hl) a, argM_put h.mb (h.zp hl) a, ?_, ?_⟩
  · rw [show St.mark L 2 2 = true by simp [St.mark]]
    exact BoxP.put h.p a
  · obtain ⟨base, b1, b2, ho⟩ := h.pa
    exact ⟨base, b1, b2, putW_own a b1 ho⟩
  · obtain ⟨base, b1, b2, ho⟩ := h.pb
    exact ⟨base, b1, b2, putW_own a b1 ho⟩
theorem P9.three {W : World} {N t6 t7 n8 n9 : Nat} {a b : Ph} {L : Nat → Bool} {wx : World} (h : P9 W N t6 t7 n8 n9 a b L wx) (hl : L 3 = false) (g7 : N ≤ t7) (e1 : t7 ≠ n8) (e2 : t7 ≠ n9) (e3 : t6 ≠ t7) :
    P9 W N t6 t7 n8 n9 a b (St.mark L 3) (putW wx t7 b) := by
  refine ⟨putW_below b g7 h.bw, BoxP.putW h.x b e1, BoxP.putW h.y b e2, BoxP.putW h.p b (Ne.symm e3), ?_, fun h' => (h.zp h').put e3 b, fun h' => (by simp [St.mark] at h'), argM_put h.ma (h.zq hl) b, argM_put h.mb (h.zq hl) b, ?_, ?_⟩
  · rw [show St.mark L 3 3 = true by simp [St.mark]]
    exact BoxP.put h.q b
  · obtain ⟨base, b1, b2, ho⟩ := h.pa
    exact ⟨base, b1, b2, putW_own b b2 ho⟩
  · obtain ⟨base, b1, b2, ho⟩ := h.pb
    exact ⟨base, b1, b2, putW_own b b2 ho⟩
set_option maxHeartbeats 16000000 in
set_option maxRecDepth 100000 in
theorem rcut_any (o : Ph) (key : ByteArray) (id : Int) (w : World) (h : HA w o) (hp : isP o.pl = true) (hl : o.ps.length ≤ 100000) (hk : key.size ≤ 140737488355328) :
    Calls Tryz.prog 21 #[qv o, .string key, .int .i64 id] w (GaveP2 w (cutP o.pl key id)) := by
  have hfd : Ds.Fit o.d := isD_fit (isP_d hp)
  clear hp
  obtain ⟨d, sm, ps, sp, zs, sz, fr, ea, se, al⟩ := o
  obtain ⟨h1, h2, h3, h4, h5, h6, h7⟩ := h
  simp only at h1 h2 h3 h4 h5 h6 h7 hl hfd
  obtain ⟨fA, fa, rfl⟩ := h1.form
  obtain ⟨fB, fb, rfl⟩ := h2.sm.form
  obtain ⟨fC, fc, rfl⟩ := h3.form
  obtain ⟨fD, fd, rfl⟩ := h5.si.form
  obtain ⟨W1, hW1⟩ : ∃ W1, ((w.alloc (.cells #[.int .i64 d.id, .string d.f, .string d.t, .int .i64 d.gen, .slice fA d.ms.length fa, .int .i64 d.next, .slice fB ps.length fb, .slice fC zs.length fc, .bool fr, .slice fD ea.length fd, .int .i64 al] 31)).alloc (.cells #[.int .i64 0, .string ⟨#[]⟩, .string ⟨#[]⟩, .int .i64 0, .slice none 0 0, .int .i64 0, .slice none 0 0, .slice none 0 0, .bool false, .slice none 0 0, .int .i64 0] 31)).alloc (.cells #[.int .i64 0, .string ⟨#[]⟩, .string ⟨#[]⟩, .int .i64 0, .slice none 0 0, .int .i64 0, .slice none 0 0, .slice none 0 0, .bool false, .slice none 0 0, .int .i64 0] 31) = W1 := ⟨_, rfl⟩
  have B0 : BoxP w.heap.size ⟨d, .slice fA d.ms.length fa, ps, .slice fB ps.length fb, zs, .slice fC zs.length fc, fr, ea, .slice fD ea.length fd, al⟩ W1 := hW1 ▸ ((BoxP.new w ⟨d, .slice fA d.ms.length fa, ps, .slice fB ps.length fb, zs, .slice fC zs.length fc, fr, ea, .slice fD ea.length fd, al⟩).alloc _).alloc _
  have Q1 : ZE (w.heap.size + 1) W1 := by
    have := ZE.new (w.alloc (.cells #[.int .i64 d.id, .string d.f, .string d.t, .int .i64 d.gen, .slice fA d.ms.length fa, .int .i64 d.next, .slice fB ps.length fb, .slice fC zs.length fc, .bool fr, .slice fD ea.length fd, .int .i64 al] 31))
    rw [World.size_alloc] at this
    rw [← hW1]
    exact this.keep ((Below.refl _ _).alloc (Nat.le_refl _) _)
  have Q2 : ZE (w.heap.size + 2) W1 := by
    have := ZE.new ((w.alloc (.cells #[.int .i64 d.id, .string d.f, .string d.t, .int .i64 d.gen, .slice fA d.ms.length fa, .int .i64 d.next, .slice fB ps.length fb, .slice fC zs.length fc, .bool fr, .slice fD ea.length fd, .int .i64 al] 31)).alloc (.cells #[.int .i64 0, .string ⟨#[]⟩, .string ⟨#[]⟩, .int .i64 0, .slice none 0 0, .int .i64 0, .slice none 0 0, .slice none 0 0, .bool false, .slice none 0 0, .int .i64 0] 31))
    rw [← hW1]
    rw [World.size_alloc, World.size_alloc] at this
    exact this
  have Z1 : BoxP (w.heap.size + 1) Ph.zero W1 := by
    have := BoxP.zero (w.alloc (.cells #[.int .i64 d.id, .string d.f, .string d.t, .int .i64 d.gen, .slice fA d.ms.length fa, .int .i64 d.next, .slice fB ps.length fb, .slice fC zs.length fc, .bool fr, .slice fD ea.length fd, .int .i64 al] 31))
    rw [World.size_alloc] at this
    rw [← hW1]
    exact this.alloc _
  have Z2 : BoxP (w.heap.size + 2) Ph.zero W1 := by
    have := BoxP.zero ((w.alloc (.cells #[.int .i64 d.id, .string d.f, .string d.t, .int .i64 d.gen, .slice fA d.ms.length fa, .int .i64 d.next, .slice fB ps.length fb, .slice fC zs.length fc, .bool fr, .slice fD ea.length fd, .int .i64 al] 31)).alloc (.cells #[.int .i64 0, .string ⟨#[]⟩, .string ⟨#[]⟩, .int .i64 0, .slice none 0 0, .int .i64 0, .slice none 0 0, .slice none 0 0, .bool false, .slice none 0 0, .int .i64 0] 31))
    rw [hW1, World.size_alloc, World.size_alloc] at this
    exact this
  have hz1 : W1.heap.size = w.heap.size + 3 := by rw [← hW1]; simp
  have hbw1 : Below w.heap.size w W1 := by rw [← hW1]; exact (((Below.refl _ w).alloc (Nat.le_refl _) _).alloc (by simp) _).alloc (by simp; omega) _
  cases fr with
  | true =>
    have hr : cutP (Ph.pl ⟨d, .slice fA d.ms.length fa, ps, .slice fB ps.length fb, zs, .slice fC zs.length fc, true, ea, .slice fD ea.length fd, al⟩) key id = (Pl.zero, Pl.zero, 90) := if_pos rfl
    rw [hr]
    clear hr Q1 Q2
    go_enter Tryz.func21, Tryz.ntmps21
    obtain ⟨p_0, ⟨p_1, p_2, p_3, p_4, p_5, p_6, p_7, p_8, p_9, p_10, p_11⟩, p_12⟩ := _root_.id B0
    obtain ⟨q_0, ⟨q_1, q_2, q_3, q_4, q_5, q_6, q_7, q_8, q_9, q_10, q_11⟩, q_12⟩ := _root_.id Z1
    obtain ⟨r_0, ⟨r_1, r_2, r_3, r_4, r_5, r_6, r_7, r_8, r_9, r_10, r_11⟩, r_12⟩ := _root_.id Z2
    go_wp2_with (rw [hW1])
    have F1 : BoxP (w.heap.size + 1) Ph.zero (putW (putW W1 (w.heap.size + 1) Ph.zero) (w.heap.size + 2) Ph.zero) := BoxP.putW (BoxP.put Z1 Ph.zero) Ph.zero (by omega)
    have F2 : BoxP (w.heap.size + 2) Ph.zero (putW (putW W1 (w.heap.size + 1) Ph.zero) (w.heap.size + 2) Ph.zero) := BoxP.put (BoxP.putW Z2 Ph.zero (by omega)) Ph.zero
    have FB : Below w.heap.size w (putW (putW W1 (w.heap.size + 1) Ph.zero) (w.heap.size + 2) Ph.zero) := putW_below Ph.zero (by omega) (putW_below Ph.zero (by omega) hbw1)
    exact bodyPost_ret (res_BoxP2 Tryz.results21 rfl rfl rfl F1 F2) rfl (GaveP2.zero FB)
  | false =>
    obtain ⟨x, y, er, hs⟩ : ∃ x y er, splitD d key id = (x, y, er) := ⟨_, _, _, rfl⟩
    have cs := Ds.rsplit_any d (.slice fA d.ms.length fa) key id W1 (h1.keep hbw1) hfd hk
    rw [hs] at cs
    have hcut : cutP (Ph.pl ⟨d, .slice fA d.ms.length fa, ps, .slice fB ps.length fb, zs, .slice fC zs.length fc, false, ea, .slice fD ea.length fd, al⟩) key id = if er = 0 then (⟨x, scanP ps Od.E0 key, ses zs, false, ea, al⟩, ⟨y, scanP ps key Od.E0, ses zs, false, ea, 0⟩, 0) else (Pl.zero, Pl.zero, er) := by
      unfold cutP
      rw [if_neg (by simp [Ph.pl])]
      have hs' : splitD (Ph.pl ⟨d, .slice fA d.ms.length fa, ps, .slice fB ps.length fb, zs, .slice fC zs.length fc, false, ea, .slice fD ea.length fd, al⟩).d key id = (x, y, er) := hs
      rw [hs']
      rfl
    rw [hcut]
    by_cases he : er = 0
    rotate_left
    · rw [if_neg he]
      have e1 : (er == 0) = false := by simpa using he
      have e2 : (er != 0) = true := by simpa using he
      have e3 : (er = 0) = False := eq_false he
      clear hcut hs he Q1 Q2
      go_enter Tryz.func21, Tryz.ntmps21
      obtain ⟨p_0, ⟨p_1, p_2, p_3, p_4, p_5, p_6, p_7, p_8, p_9, p_10, p_11⟩, p_12⟩ := _root_.id B0
      go_wp2_with (rw [hW1])
      ((try clear p_0); (try clear p_1); (try clear p_2); (try clear p_3); (try clear p_4); (try clear p_5); (try clear p_6); (try clear p_7); (try clear p_8); (try clear p_9); (try clear p_10); (try clear p_11); (try clear p_12))
      refine cs.mono ?_
      rintro e w2 ⟨s1, s2, rfl, a1, a2, b2⟩
      obtain ⟨gA, ga, rfl⟩ := a1.form
      obtain ⟨gB, gb, rfl⟩ := a2.form
      have Z1' := Z1.keep b2
      have Z2' := Z2.keep b2
      have hb2 : Below w.heap.size w w2 := hbw1.trans (b2.mono (by omega))
      obtain ⟨W3, hW3⟩ : ∃ W3, (w2.alloc (.cells #[.int .i64 x.id, .string x.f, .string x.t, .int .i64 x.gen, .slice gA x.ms.length ga, .int .i64 x.next] 26)).alloc (.cells #[.int .i64 y.id, .string y.f, .string y.t, .int .i64 y.gen, .slice gB y.ms.length gb, .int .i64 y.next] 26) = W3 := ⟨_, rfl⟩
      have Y1 : BoxP (w.heap.size + 1) Ph.zero W3 := hW3 ▸ (Z1'.alloc _).alloc _
      have Y2 : BoxP (w.heap.size + 2) Ph.zero W3 := hW3 ▸ (Z2'.alloc _).alloc _
      have hb3 : Below w.heap.size w W3 := hW3 ▸ (hb2.alloc hb2.size _).alloc (by have := hb2.size; simp; omega) _
      obtain ⟨q_0, ⟨q_1, q_2, q_3, q_4, q_5, q_6, q_7, q_8, q_9, q_10, q_11⟩, q_12⟩ := _root_.id Y1
      obtain ⟨r_0, ⟨r_1, r_2, r_3, r_4, r_5, r_6, r_7, r_8, r_9, r_10, r_11⟩, r_12⟩ := _root_.id Y2
      go_wp2_with (rw [hW3])
      have F1 : BoxP (w.heap.size + 1) Ph.zero (putW (putW W3 (w.heap.size + 1) Ph.zero) (w.heap.size + 2) Ph.zero) := BoxP.putW (BoxP.put Y1 Ph.zero) Ph.zero (by omega)
      have F2 : BoxP (w.heap.size + 2) Ph.zero (putW (putW W3 (w.heap.size + 1) Ph.zero) (w.heap.size + 2) Ph.zero) := BoxP.put (BoxP.putW Y2 Ph.zero (by omega)) Ph.zero
      have FB : Below w.heap.size w (putW (putW W3 (w.heap.size + 1) Ph.zero) (w.heap.size + 2) Ph.zero) := putW_below Ph.zero (by omega) (putW_below Ph.zero (by omega) hb3)
      exact bodyPost_ret (res_BoxP2 Tryz.results21 rfl rfl rfl F1 F2) rfl (GaveP2.zero FB)
    · subst he
      rw [if_pos rfl]
      clear hcut hs
      obtain ⟨pa, hpa⟩ : ∃ pa, scanP ps Od.E0 key = pa := ⟨_, rfl⟩
      obtain ⟨pb, hpb⟩ : ∃ pb, scanP ps key Od.E0 = pb := ⟨_, rfl⟩
      have sc1 := fun w' hb => rscan_any (.slice fB ps.length fb) ps ⟨#[]⟩ key w' ((h2.keep hb).sm) hl
      have sc2 := fun w' hb => rscan_any (.slice fB ps.length fb) ps key ⟨#[]⟩ w' ((h2.keep hb).sm) hl
      rw [show (⟨#[]⟩ : ByteArray) = Od.E0 from rfl, hpa] at sc1
      rw [show (⟨#[]⟩ : ByteArray) = Od.E0 from rfl, hpb] at sc2
      rw [show Od.E0 = (⟨#[]⟩ : ByteArray) from rfl] at sc1 sc2
      rw [hpa, hpb]
      clear hpa hpb
      go_enter Tryz.func21, Tryz.ntmps21
      obtain ⟨p_0, ⟨p_1, p_2, p_3, p_4, p_5, p_6, p_7, p_8, p_9, p_10, p_11⟩, p_12⟩ := _root_.id B0
      go_wp2_with (rw [hW1])
      ((try clear p_0); (try clear p_1); (try clear p_2); (try clear p_3); (try clear p_4); (try clear p_5); (try clear p_6); (try clear p_7); (try clear p_8); (try clear p_9); (try clear p_10); (try clear p_11); (try clear p_12))
      refine cs.mono ?_
      rintro e w2 ⟨s1, s2, rfl, a1, a2, b2⟩
      obtain ⟨gA, ga, rfl⟩ := a1.form
      obtain ⟨gB, gb, rfl⟩ := a2.form
      have P2 := B0.keep b2
      have Z1' := Z1.keep b2
      have Z2' := Z2.keep b2
      have Q1' := Q1.keep b2
      have Q2' := Q2.keep b2
      have hb2 : Below w.heap.size w w2 := hbw1.trans (b2.mono (by omega))
      obtain ⟨W3, hW3⟩ : ∃ W3, (w2.alloc (.cells #[.int .i64 x.id, .string x.f, .string x.t, .int .i64 x.gen, .slice gA x.ms.length ga, .int .i64 x.next] 26)).alloc (.cells #[.int .i64 y.id, .string y.f, .string y.t, .int .i64 y.gen, .slice gB y.ms.length gb, .int .i64 y.next] 26) = W3 := ⟨_, rfl⟩
      have b3 : Below w2.heap.size w2 W3 := hW3 ▸ ((Below.refl _ w2).alloc (Nat.le_refl _) _).alloc (by simp) _
      have X1 : BoxD w2.heap.size x (.slice gA x.ms.length ga) W3 := hW3 ▸ (BoxD.new w2 x (.slice gA x.ms.length ga)).alloc _
      have X2 : BoxD (w2.heap.size + 1) y (.slice gB y.ms.length gb) W3 := by
        have := BoxD.new (w2.alloc (.cells #[.int .i64 x.id, .string x.f, .string x.t, .int .i64 x.gen, .slice gA x.ms.length ga, .int .i64 x.next] 26)) y (.slice gB y.ms.length gb)
        rw [hW3, World.size_alloc] at this
        exact this
      have P4 := P2.keep b3
      have Y1 := Z1'.keep b3
      have Y2 := Z2'.keep b3
      have Q14 := Q1'.keep b3
      have Q24 := Q2'.keep b3
      have a14 := a1.keep b3
      have a24 := a2.keep b3
      have hz2 := hb2.size
      have hz3 := b3.size
      have hb3 : Below w.heap.size w W3 := hb2.trans (b3.mono hz2)
      have hy2 := Y2.1
      obtain ⟨p_0, ⟨p_1, p_2, p_3, p_4, p_5, p_6, p_7, p_8, p_9, p_10, p_11⟩, p_12⟩ := _root_.id P4
      go_wp2_with (rw [hW3])
      ((try clear p_0); (try clear p_1); (try clear p_2); (try clear p_3); (try clear p_4); (try clear p_5); (try clear p_6); (try clear p_7); (try clear p_8); (try clear p_9); (try clear p_10); (try clear p_11); (try clear p_12))
      clear P2 Z1' Z2' Q1' Q2' a1 a2 hW3 B0 Z1 Z2 hW1 Q1 Q2 cs
      refine St.wp_region_mixed (PS W3 ⟨d, .slice fA d.ms.length fa, ps, .slice fB ps.length fb, zs, .slice fC zs.length fc, false, ea, .slice fD ea.length fd, al⟩) (fun _ _ => False) (by kernel_rfl) (by kernel_rfl) (by kernel_rfl) ⟨(Below.refl _ _).drew, fun h => (by cases h), fun h => (by cases h)⟩ ?_
      iterate 2
        (apply St.mix_give
         · rfl
         · intro L u' wx hS hcl hrd hag
           obtain ⟨j0, ⟨j1, j2, j3, j4, j5, j6, j7, j8, j9, j10, j11⟩, j12⟩ := P4.keep hS.b
           go_simp
           try with_reducible rfl
         · exact fun L u' wx hS => ⟨hS.b, hS.p, hS.q⟩
         simp only [Act.put, List.setIfInBounds_toArray, List.set_cons_zero, List.set_cons_succ])
      refine St.mix_free (fun x => ∃ n, x = ptr n) rfl ?_ ?_
      · intro L u' wx hS hcl hrd hag
        refine ⟨_, _, ⟨wx.heap.size, rfl⟩, ?_, hS.two (St.not_yet hcl hrd 40 4 (by kernel_rfl))⟩
        go_simp
        try with_reducible rfl
      rintro y' ⟨n8, rfl⟩
      simp only [Act.put, List.setIfInBounds_toArray, List.set_cons_zero, List.set_cons_succ]
      refine St.mix_free (fun x => ∃ n, x = ptr n) rfl ?_ ?_
      · intro L u' wx hS hcl hrd hag
        refine ⟨_, _, ⟨wx.heap.size, rfl⟩, ?_, hS.three (St.not_yet hcl hrd 40 5 (by kernel_rfl))⟩
        go_simp
        try with_reducible rfl
      rintro y' ⟨n9, rfl⟩
      simp only [Act.put, List.setIfInBounds_toArray, List.set_cons_zero, List.set_cons_succ]
      refine St.mix_skip rfl ?_ ?_
      · intro L u' wx hS hcl hrd hag
        have hu : u' 2 = ptr n8 := hag 40 2 (by kernel_rfl)
        have h2 := St.before_ready hcl hrd 40 2 (by kernel_rfl)
        obtain ⟨n', e8, hN, ⟨o', hB⟩, _⟩ := hS.p h2
        obtain rfl := ptr_inj (e8.symm.trans hu)
        obtain ⟨j0, ⟨j1, j2, j3, j4, j5, j6, j7, j8, j9, j10, j11⟩, j12⟩ := _root_.id hB
        refine ⟨_, ?_, hS.four h2 hu⟩
        unfold putW
        go_simp
        try with_reducible rfl
      simp only [Act.put]
      refine St.mix_skip rfl ?_ ?_
      · intro L u' wx hS hcl hrd hag
        have hu : u' 3 = ptr n9 := hag 40 3 (by kernel_rfl)
        have h2 := St.before_ready hcl hrd 40 3 (by kernel_rfl)
        obtain ⟨n', e8, hN, ⟨o', hB⟩, _⟩ := hS.q h2
        obtain rfl := ptr_inj (e8.symm.trans hu)
        obtain ⟨j0, ⟨j1, j2, j3, j4, j5, j6, j7, j8, j9, j10, j11⟩, j12⟩ := _root_.id hB
        refine ⟨_, ?_, hS.five h2 hu⟩
        unfold putW
        go_simp
        try with_reducible rfl
      simp only [Act.put]
      refine St.mix_last ?_
      intro L5 wx hS hall
      obtain ⟨n8', e8, hN8, _, E8, h89⟩ := hS.p (hall 2 (by decide))
      obtain rfl : n8 = n8' := ptr_inj (show ptr n8 = ptr n8' from e8)
      obtain ⟨n9', e9, hN9, _, E9⟩ := hS.q (hall 3 (by decide))
      obtain rfl : n9 = n9' := ptr_inj (show ptr n9 = ptr n9' from e9)
      have E8 := E8 (hall 4 (by decide))
      have E9 := E9 (hall 5 (by decide))
      have hne : n8 ≠ n9 := fun e => h89 (hall 3 (by decide)) (by rw [e]; rfl)
      have bx := hS.b
      clear hS hall e8 e9 h89
      obtain ⟨o, ho⟩ : ∃ o : Ph, o = ⟨d, .slice fA d.ms.length fa, ps, .slice fB ps.length fb, zs, .slice fC zs.length fc, false, ea, .slice fD ea.length fd, al⟩ := ⟨_, rfl⟩
      rw [← ho] at E8 E9
      have HO := Lib.hid ho
      have hs0 : PT W3.heap.size W3 n8 n9 (half o x (.slice gA x.ms.length ga) ps (.slice fB ps.length fb) false false) (half o y (.slice gB y.ms.length gb) ps (.slice fB ps.length fb) false false) wx := ⟨bx, E8, E9⟩
      have hX1 := fun wy (hb : Below W3.heap.size W3 wy) => X1.keep hb
      have hX2 := fun wy (hb : Below W3.heap.size W3 wy) => X2.keep hb
      clear ho E8 E9 bx
      go_wp2_with fail
      refine St.wp_region_mixed (fun L _ wy => PT W3.heap.size W3 n8 n9 (half o x (.slice gA x.ms.length ga) ps (.slice fB ps.length fb) (L 3) false) (half o y (.slice gB y.ms.length gb) ps (.slice fB ps.length fb) (L 5) false) wy) (fun _ _ => False) (by kernel_rfl) (by kernel_rfl) (by kernel_rfl) ⟨hs0.b.drew, hs0.x.drew, hs0.y.drew⟩ ?_
      iterate 2
        (apply St.mix_give
         · rfl
         · intro L u' wx hS hcl hrd hag
           obtain ⟨j0, ⟨j1, j2, j3, j4, j5, j6⟩, j7⟩ := hX1 wx hS.b
           obtain ⟨k0, ⟨k1, k2, k3, k4, k5, k6⟩, k7⟩ := hX2 wx hS.b
           go_simp
           try with_reducible rfl
         · exact fun L u' wx hS => ⟨hS.b, hS.x, hS.y⟩
         simp only [Act.put, List.setIfInBounds_toArray, List.set_cons_zero, List.set_cons_succ])
      apply St.mix_give
      · rfl
      · intro L u' wx hS hcl hrd hag
        go_simp
        try with_reducible rfl
      · exact fun L u' wx hS => ⟨hS.b, hS.x, hS.y⟩
      simp only [Act.put, List.setIfInBounds_toArray, List.set_cons_zero, List.set_cons_succ]
      refine St.mix_skip rfl ?_ ?_
      · intro L u' wx hS hcl hrd hag
        obtain ⟨j0, ⟨j1, j2, j3, j4, j5, j6, j7, j8, j9, j10, j11⟩, j12⟩ := _root_.id hS.x
        have hx := BoxP.desc hS.x x (.slice gA x.ms.length ga)
        refine ⟨putD wx n8 x (.slice gA x.ms.length ga), ?_, ⟨putD_below hS.b hN8, ?_, putD_box hS.y hne⟩⟩
        rotate_left
        · rw [show St.mark L 3 3 = true by simp [St.mark]]
          exact hx
        unfold putD
        go_simp
        try with_reducible rfl
      simp only [Act.put]
      apply St.mix_give
      · rfl
      · intro L u' wx hS hcl hrd hag
        go_simp
        try with_reducible rfl
      · exact fun L u' wx hS => ⟨hS.b, hS.x, hS.y⟩
      simp only [Act.put, List.setIfInBounds_toArray, List.set_cons_zero, List.set_cons_succ]
      refine St.mix_skip rfl ?_ ?_
      · intro L u' wx hS hcl hrd hag
        obtain ⟨j0, ⟨j1, j2, j3, j4, j5, j6, j7, j8, j9, j10, j11⟩, j12⟩ := _root_.id hS.y
        have hx := BoxP.desc hS.y y (.slice gB y.ms.length gb)
        refine ⟨putD wx n9 y (.slice gB y.ms.length gb), ?_, ⟨putD_below hS.b hN9, putD_box hS.x hne.symm, ?_⟩⟩
        rotate_left
        · rw [show St.mark L 5 5 = true by simp [St.mark]]
          exact hx
        unfold putD
        go_simp
        try with_reducible rfl
      simp only [Act.put]
      refine St.mix_last ?_
      intro L5 wy hS hall
      have h3' : L5 3 = true := hall 3 (by decide)
      have h5' : L5 5 = true := hall 5 (by decide)
      rw [h3', h5', HO.out] at hS
      have G8 : BoxP n8 ⟨x, .slice gA x.ms.length ga, ps, .slice fB ps.length fb, zs, .slice fC zs.length fc, false, ea, .slice fD ea.length fd, al⟩ wy := hS.x
      have G9 : BoxP n9 ⟨y, .slice gB y.ms.length gb, ps, .slice fB ps.length fb, zs, .slice fC zs.length fc, false, ea, .slice fD ea.length fd, al⟩ wy := hS.y
      have by3 : Below W3.heap.size W3 wy := hS.b
      clear hS hall h3' h5' hs0 L5 HO o hX1 hX2
      --CUT
      have hzy := by3.size
      have hbwy : Below w.heap.size w wy := hb3.trans (by3.mono (by omega))
      have P5 := P4.keep by3
      have Y15 := Y1.keep by3
      have Y25 := Y2.keep by3
      have Q15 := Q14.keep by3
      have Q25 := Q24.keep by3
      have a15 := a14.keep by3
      have a25 := a24.keep by3
      obtain ⟨p_0, ⟨p_1, p_2, p_3, p_4, p_5, p_6, p_7, p_8, p_9, p_10, p_11⟩, p_12⟩ := _root_.id P5
      go_wp2_with fail
      ((try clear p_0); (try clear p_1); (try clear p_2); (try clear p_3); (try clear p_4); (try clear p_5); (try clear p_6); (try clear p_7); (try clear p_8); (try clear p_9); (try clear p_10); (try clear p_11); (try clear p_12))
      refine (sc1 wy hbwy).mono ?_
      rintro e w6 ⟨v1, rfl, O1, b6⟩
      obtain ⟨rA, ra, rfl⟩ := (SP.of_own O1).form
      have G86 := G8.keep b6
      have G96 := G9.keep b6
      have P6 := P5.keep b6
      obtain ⟨W6, hW6⟩ : ∃ W6, w6.setCell ⟨n8, 6, none⟩ (.slice rA pa.length ra) = W6 := ⟨_, rfl⟩
      have hz6 := b6.size
      have s8 : n8 < wy.heap.size := G8.1
      have s9 : n9 < wy.heap.size := G9.1
      have hbx6 : Below w.heap.size w W6 := hW6 ▸ (hbwy.trans (b6.mono (by omega))).setCell (p := ⟨n8, 6, none⟩) (by show w.heap.size ≤ n8; omega) _
      have H8 := hW6 ▸ BoxP.set6 G86 (.slice rA pa.length ra) pa
      have H9 : BoxP n9 ⟨y, .slice gB y.ms.length gb, ps, .slice fB ps.length fb, zs, .slice fC zs.length fc, false, ea, .slice fD ea.length fd, al⟩ W6 := hW6 ▸ G96.other (by simpa using hne) _
      have P7 : BoxP w.heap.size ⟨d, .slice fA d.ms.length fa, ps, .slice fB ps.length fb, zs, .slice fC zs.length fc, false, ea, .slice fD ea.length fd, al⟩ W6 := hW6 ▸ P6.other (by show n8 ≠ w.heap.size; omega) _
      have b36 : Below W3.heap.size W3 W6 := hW6 ▸ (by3.trans (b6.mono (by omega))).setCell (p := ⟨n8, 6, none⟩) hN8 _
      have O16 : OwnP W6 wy.heap.size (.slice rA pa.length ra) pa := hW6 ▸ ownsRow_setCell_below O1 (a := ⟨n8, 6, none⟩) s8 _
      obtain ⟨q_0, ⟨q_1, q_2, q_3, q_4, q_5, q_6, q_7, q_8, q_9, q_10, q_11⟩, q_12⟩ := _root_.id G86
      obtain ⟨p_0, ⟨p_1, p_2, p_3, p_4, p_5, p_6, p_7, p_8, p_9, p_10, p_11⟩, p_12⟩ := _root_.id P7
      go_wp2_with (rw [hW6])
      ((try clear p_0); (try clear p_1); (try clear p_2); (try clear p_3); (try clear p_4); (try clear p_5); (try clear p_6); (try clear p_7); (try clear p_8); (try clear p_9); (try clear p_10); (try clear p_11); (try clear p_12))
      ((try clear q_0); (try clear q_1); (try clear q_2); (try clear q_3); (try clear q_4); (try clear q_5); (try clear q_6); (try clear q_7); (try clear q_8); (try clear q_9); (try clear q_10); (try clear q_11); (try clear q_12))
      refine (sc2 W6 hbx6).mono ?_
      rintro e w7 ⟨v2, rfl, O2, b7⟩
      obtain ⟨rB, rb, rfl⟩ := (SP.of_own O2).form
      have G97 := H9.keep b7
      have G87 := H8.keep b7
      obtain ⟨W8, hW8⟩ : ∃ W8, (w7.setCell ⟨n9, 6, none⟩ (.slice rB pb.length rb)).setCell ⟨n9, 10, none⟩ (.int .i64 0) = W8 := ⟨_, rfl⟩
      have hz7 := b7.size
      have hz6' := hbx6.size
      have hz36 := b36.size
      have s96 : n9 < W6.heap.size := H9.1
      have b38 : Below W3.heap.size W3 W8 := hW8 ▸ ((b36.trans (b7.mono (by omega))).setCell (p := ⟨n9, 6, none⟩) hN9 _).setCell (p := ⟨n9, 10, none⟩) hN9 _
      have F9 : BoxP n9 ⟨y, .slice gB y.ms.length gb, pb, .slice rB pb.length rb, zs, .slice fC zs.length fc, false, ea, .slice fD ea.length fd, 0⟩ W8 := hW8 ▸ BoxP.set10 (BoxP.set6 G97 (.slice rB pb.length rb) pb) 0
      have F8 : BoxP n8 ⟨x, .slice gA x.ms.length ga, pa, .slice rA pa.length ra, zs, .slice fC zs.length fc, false, ea, .slice fD ea.length fd, al⟩ W8 := hW8 ▸ (BoxP.other (BoxP.other G87 (by simpa using hne.symm) _) (by simpa using hne.symm) _)
      have O18 : OwnP W8 wy.heap.size (.slice rA pa.length ra) pa := hW8 ▸ ownsRow_setCell_below (ownsRow_setCell_below (ownsRow_below O16 b7) (a := ⟨n9, 6, none⟩) s9 _) (a := ⟨n9, 10, none⟩) s9 _
      have O28 : OwnP W8 W6.heap.size (.slice rB pb.length rb) pb := hW8 ▸ ownsRow_setCell_below (ownsRow_setCell_below O2 (a := ⟨n9, 6, none⟩) s96 _) (a := ⟨n9, 10, none⟩) s96 _
      have K1 := Y1.keep b38
      have K2 := Y2.keep b38
      have J1 := Q14.keep b38
      have J2 := Q24.keep b38
      have m1 := a14.keep b38
      have m2 := a24.keep b38
      have hb8 : Below w.heap.size w W8 := hb3.trans (b38.mono (by omega))
      obtain ⟨q_0, ⟨q_1, q_2, q_3, q_4, q_5, q_6, q_7, q_8, q_9, q_10, q_11⟩, q_12⟩ := _root_.id G97
      go_wp2_with (rw [hW8])
      ((try clear q_0); (try clear q_1); (try clear q_2); (try clear q_3); (try clear q_4); (try clear q_5); (try clear q_6); (try clear q_7); (try clear q_8); (try clear q_9); (try clear q_10); (try clear q_11); (try clear q_12))
      have hs9 : P9 w w.heap.size (w.heap.size + 1) (w.heap.size + 2) n8 n9 ⟨x, .slice gA x.ms.length ga, pa, .slice rA pa.length ra, zs, .slice fC zs.length fc, false, ea, .slice fD ea.length fd, al⟩ ⟨y, .slice gB y.ms.length gb, pb, .slice rB pb.length rb, zs, .slice fC zs.length fc, false, ea, .slice fD ea.length fd, 0⟩ (fun _ => false) W8.drew := ⟨hb8.drew, F8.drew, F9.drew, K1.drew, K2.drew, fun _ => J1, fun _ => J2, m1.keep (Below.refl _ _).drew, m2.keep (Below.refl _ _).drew, ⟨wy.heap.size, by omega, by omega, ownsRow_below O18 (Below.refl _ _).drew⟩, ⟨W6.heap.size, by omega, by omega, ownsRow_below O28 (Below.refl _ _).drew⟩⟩
      refine St.wp_region_mixed (fun L _ wy => P9 w w.heap.size (w.heap.size + 1) (w.heap.size + 2) n8 n9 ⟨x, .slice gA x.ms.length ga, pa, .slice rA pa.length ra, zs, .slice fC zs.length fc, false, ea, .slice fD ea.length fd, al⟩ ⟨y, .slice gB y.ms.length gb, pb, .slice rB pb.length rb, zs, .slice fC zs.length fc, false, ea, .slice fD ea.length fd, 0⟩ L wy) (fun _ _ => False) (by kernel_rfl) (by kernel_rfl) (by kernel_rfl) hs9 ?_
      iterate 2
        (apply St.mix_give
         · rfl
         · intro L u' wx hS hcl hrd hag
           obtain ⟨j0, ⟨j1, j2, j3, j4, j5, j6, j7, j8, j9, j10, j11⟩, j12⟩ := _root_.id hS.x
           obtain ⟨k0, ⟨k1, k2, k3, k4, k5, k6, k7, k8, k9, k10, k11⟩, k12⟩ := _root_.id hS.y
           go_simp
           try with_reducible rfl
         · exact fun L u' wx hS => ⟨hS.bw, hS.x, hS.y, hS.p, hS.q, hS.zp, hS.zq, hS.ma, hS.mb, hS.pa, hS.pb⟩
         simp only [Act.put, List.setIfInBounds_toArray, List.set_cons_zero, List.set_cons_succ])
      refine St.mix_skip rfl ?_ ?_
      · intro L u' wx hS hcl hrd hag
        obtain ⟨j0, ⟨j1, j2, j3, j4, j5, j6, j7, j8, j9, j10, j11⟩, j12⟩ := _root_.id hS.p
        refine ⟨_, ?_, hS.two hrd.1 (by omega) (by omega) (by omega) (by omega)⟩
        unfold putW
        go_simp
        try with_reducible rfl
      simp only [Act.put]
      refine St.mix_skip rfl ?_ ?_
      · intro L u' wx hS hcl hrd hag
        obtain ⟨j0, ⟨j1, j2, j3, j4, j5, j6, j7, j8, j9, j10, j11⟩, j12⟩ := _root_.id hS.q
        refine ⟨_, ?_, hS.three hrd.1 (by omega) (by omega) (by omega) (by omega)⟩
        unfold putW
        go_simp
        try with_reducible rfl
      simp only [Act.put]
      apply St.mix_give
      · rfl
      · intro L u' wx hS hcl hrd hag
        go_simp
        try with_reducible rfl
      · exact fun L u' wx hS => ⟨hS.bw, hS.x, hS.y, hS.p, hS.q, hS.zp, hS.zq, hS.ma, hS.mb, hS.pa, hS.pb⟩
      simp only [Act.put, List.setIfInBounds_toArray, List.set_cons_zero, List.set_cons_succ]
      refine St.mix_last ?_
      intro L5 wz hS hall
      have h2' : L5 2 = true := hall 2 (by decide)
      have h3' : L5 3 = true := hall 3 (by decide)
      have R1 := hS.p
      have R2 := hS.q
      rw [h2'] at R1
      rw [h3'] at R2
      obtain ⟨c1, _, _, r1⟩ := hS.pa
      obtain ⟨c2, _, _, r2⟩ := hS.pb
      have rb' := hS.bw
      have A1 : HA wz ⟨x, .slice gA x.ms.length ga, pa, .slice rA pa.length ra, zs, .slice fC zs.length fc, false, ea, .slice fD ea.length fd, al⟩ := ⟨hS.ma, .of_own r1, h3.keep rb', h4, h5.keep rb', .own r1, h7⟩
      have A2 : HA wz ⟨y, .slice gB y.ms.length gb, pb, .slice rB pb.length rb, zs, .slice fC zs.length fc, false, ea, .slice fD ea.length fd, 0⟩ := ⟨hS.mb, .of_own r2, h3.keep rb', h4, h5.keep rb', .own r2, h7⟩
      clear hS hall h2' h3'
      go_wp2_with fail
      exact bodyPost_ret (res_BoxP2 Tryz.results21 rfl rfl rfl R1 R2) rfl ⟨_, _, rfl, rfl, rfl, A1, A2, rb'⟩
end Go.Proofs.YtoomkdofoceiaaaGreatDoor.Dp
namespace Go.Proofs.YtoomkdofoceiaaaGreatDoor.Dp
open Go.RowKit Bnd
open Go.Proofs.YtoomkdofoceiaaaGreatDoor.Ds (De SM OwnI OwnM ArgM)
open Go.Proofs.YtoomkdofoceiaaaGreatDoor.Ss (Ses Zs ses SZ PZ NoP OwnZ ArgZ)
open Go.Proofs.YtoomkdofoceiaaaGreatDoor.Od (Pr SP OwnP ArgP)
set_option maxHeartbeats 16000000 in
set_option maxRecDepth 100000 in
theorem lown_any (o : Ph) (w : World) (h : HA w o) (l1 : o.d.ms.length ≤ 1000) (l2 : o.ps.length ≤ 100000) (l3 : o.zs.length ≤ 100000) (l4 : o.ea.length ≤ 100000) :
    Calls Tryz.prog 17 #[qv o] w fun e w' => ∃ o', e = .returned (qv o') ∧ o'.pl = o.pl ∧ HA w' o' ∧ Below w.heap.size w w' := by
  obtain ⟨d, sm, ps, sp, zs, sz, fr, ea, se, al⟩ := o
  obtain ⟨h1, h2, h3, h4, h5, _, _⟩ := h
  simp only at h1 h2 h3 h4 h5 l1 l2 l3 l4
  obtain ⟨fA, fa, rfl⟩ := h1.form
  obtain ⟨fB, fb, rfl⟩ := h2.sm.form
  obtain ⟨fC, fc, rfl⟩ := h3.form
  obtain ⟨fD, fd, rfl⟩ := h5.si.form
  have hone : ∀ z ∈ zs, z.2.oneCell' = true := fun z hz => by obtain ⟨_, A, c, e⟩ := h4 z hz; rw [e]; rfl
  obtain ⟨V0, hV0⟩ : ∃ V0, (w.alloc (.cells #[.int .i64 d.id, .string d.f, .string d.t, .int .i64 d.gen, .slice fA d.ms.length fa, .int .i64 d.next, .slice fB ps.length fb, .slice fC zs.length fc, .bool fr, .slice fD ea.length fd, .int .i64 al] 31)).alloc (.cells #[.int .i64 0, .string ⟨#[]⟩, .string ⟨#[]⟩, .int .i64 0, .slice none 0 0, .int .i64 0, .slice none 0 0, .slice none 0 0, .bool false, .slice none 0 0, .int .i64 0] 31) = V0 := ⟨_, rfl⟩
  have B0 : BoxP w.heap.size ⟨d, .slice fA d.ms.length fa, ps, .slice fB ps.length fb, zs, .slice fC zs.length fc, fr, ea, .slice fD ea.length fd, al⟩ V0 := hV0 ▸ (BoxP.new w ⟨d, .slice fA d.ms.length fa, ps, .slice fB ps.length fb, zs, .slice fC zs.length fc, fr, ea, .slice fD ea.length fd, al⟩).alloc _
  have Z0 : BoxP (w.heap.size + 1) Ph.zero V0 := by
    have := BoxP.zero (w.alloc (.cells #[.int .i64 d.id, .string d.f, .string d.t, .int .i64 d.gen, .slice fA d.ms.length fa, .int .i64 d.next, .slice fB ps.length fb, .slice fC zs.length fc, .bool fr, .slice fD ea.length fd, .int .i64 al] 31))
    rw [hV0, World.size_alloc] at this
    exact this
  have hz0 : w.heap.size + 2 ≤ V0.heap.size := by rw [← hV0]; simp
  have hb0 : Below w.heap.size w V0 := by rw [← hV0]; exact ((Below.refl _ w).alloc (Nat.le_refl _) _).alloc (by simp) _
  go_enter Tryz.func17, Tryz.ntmps17
  obtain ⟨p_0, ⟨p_1, p_2, p_3, p_4, p_5, p_6, p_7, p_8, p_9, p_10, p_11⟩, p_12⟩ := _root_.id B0
  go_wp2_with (first | rw [hV0] | (at_builtin; refine Ds.wpList_append_ms rfl _ _ rfl V0.heap.size _ [] rfl (Ds.own_empty V0) (by simp) _ d.ms rfl (h1.keep (hb0.alloc (by omega) _)) (by simp; omega) ?_))
  ((try clear p_0); (try clear p_1); (try clear p_2); (try clear p_3); (try clear p_4); (try clear p_5); (try clear p_6); (try clear p_7); (try clear p_8); (try clear p_9); (try clear p_10); (try clear p_11); (try clear p_12))
  intro v' w1 hown hbn _
  obtain ⟨A1, a1, rfl⟩ := (SM.of_own hown).form
  have hbv : Below V0.heap.size V0 w1 := ((Below.refl _ V0).alloc (Nat.le_refl _) _).trans hbn
  have C1 := B0.keep hbv
  have Y1 := Z0.keep hbv
  have hzz := hbv.size
  obtain ⟨V1, hV1⟩ : ∃ V1, w1.setCell ⟨w.heap.size, 4, none⟩ (.slice A1 d.ms.length a1) = V1 := ⟨_, rfl⟩
  have B1 : BoxP w.heap.size ⟨d, .slice A1 d.ms.length a1, ps, .slice fB ps.length fb, zs, .slice fC zs.length fc, fr, ea, .slice fD ea.length fd, al⟩ V1 := hV1 ▸ BoxP.set4 C1 (.slice A1 d.ms.length a1)
  have Z1 : BoxP (w.heap.size + 1) Ph.zero V1 := hV1 ▸ Y1.other (by simp) (.slice A1 d.ms.length a1)
  have hz1 : w.heap.size + 2 ≤ V1.heap.size := by rw [← hV1]; simp; omega
  have hb1 : Below w.heap.size w V1 := hV1 ▸ (hb0.trans (hbv.mono (by omega))).setCell (p := ⟨w.heap.size, 4, none⟩) (Nat.le_refl _) _
  have R1 : OwnM V1 (w.heap.size + 2) (.slice A1 d.ms.length a1) d.ms := hV1 ▸ ownsRow_setCell_below (ownsRow_base hown hz0) (a := ⟨w.heap.size, 4, none⟩) (by show w.heap.size < _; omega) _
  obtain ⟨p_0, ⟨p_1, p_2, p_3, p_4, p_5, p_6, p_7, p_8, p_9, p_10, p_11⟩, p_12⟩ := _root_.id C1
  obtain ⟨q_0, ⟨q_1, q_2, q_3, q_4, q_5, q_6, q_7, q_8, q_9, q_10, q_11⟩, q_12⟩ := _root_.id B1
  clear hown hbn hV0 B0 Z0 Y1 hzz hbv
  go_wp2_with (first | rw [hV1] | (at_builtin; refine Od.wpList_append_ps rfl _ _ rfl V1.heap.size _ [] rfl (Od.own_empty V1) (by simp) _ ps rfl (h2.keep (hb1.alloc (by omega) _)) (by simp; omega) ?_))
  ((try clear p_0); (try clear p_1); (try clear p_2); (try clear p_3); (try clear p_4); (try clear p_5); (try clear p_6); (try clear p_7); (try clear p_8); (try clear p_9); (try clear p_10); (try clear p_11); (try clear p_12))
  ((try clear q_0); (try clear q_1); (try clear q_2); (try clear q_3); (try clear q_4); (try clear q_5); (try clear q_6); (try clear q_7); (try clear q_8); (try clear q_9); (try clear q_10); (try clear q_11); (try clear q_12))
  intro v' w2 hown hbn _
  obtain ⟨A2, a2, rfl⟩ := (SP.of_own hown).form
  have hbv : Below V1.heap.size V1 w2 := ((Below.refl _ V1).alloc (Nat.le_refl _) _).trans hbn
  have C2 := B1.keep hbv
  have Y2 := Z1.keep hbv
  have hzz := hbv.size
  obtain ⟨V2, hV2⟩ : ∃ V2, w2.setCell ⟨w.heap.size, 6, none⟩ (.slice A2 ps.length a2) = V2 := ⟨_, rfl⟩
  have B2 : BoxP w.heap.size ⟨d, .slice A1 d.ms.length a1, ps, .slice A2 ps.length a2, zs, .slice fC zs.length fc, fr, ea, .slice fD ea.length fd, al⟩ V2 := hV2 ▸ BoxP.set6 C2 (.slice A2 ps.length a2) ps
  have Z2 : BoxP (w.heap.size + 1) Ph.zero V2 := hV2 ▸ Y2.other (by simp) (.slice A2 ps.length a2)
  have hz2 : w.heap.size + 2 ≤ V2.heap.size := by rw [← hV2]; simp; omega
  have hb2 : Below w.heap.size w V2 := hV2 ▸ (hb1.trans (hbv.mono (by omega))).setCell (p := ⟨w.heap.size, 6, none⟩) (Nat.le_refl _) _
  have R1 : OwnM V2 (w.heap.size + 2) (.slice A1 d.ms.length a1) d.ms := hV2 ▸ ownsRow_setCell_below (ownsRow_below R1 hbv) (a := ⟨w.heap.size, 6, none⟩) (by show w.heap.size < _; omega) _
  have R2 : OwnP V2 (w.heap.size + 2) (.slice A2 ps.length a2) ps := hV2 ▸ ownsRow_setCell_below (ownsRow_base hown hz1) (a := ⟨w.heap.size, 6, none⟩) (by show w.heap.size < _; omega) _
  obtain ⟨p_0, ⟨p_1, p_2, p_3, p_4, p_5, p_6, p_7, p_8, p_9, p_10, p_11⟩, p_12⟩ := _root_.id C2
  obtain ⟨q_0, ⟨q_1, q_2, q_3, q_4, q_5, q_6, q_7, q_8, q_9, q_10, q_11⟩, q_12⟩ := _root_.id B2
  clear hown hbn hV1 B1 Z1 Y2 hzz hbv
  go_wp2_with (first | rw [hV2] | (at_builtin; refine Ss.wpList_append_zs rfl _ _ rfl V2.heap.size _ [] rfl (Ss.ownZ_empty V2) (by simp) _ zs rfl (h3.keep (hb2.alloc (by omega) _)) hone (by simp; omega) ?_))
  ((try clear p_0); (try clear p_1); (try clear p_2); (try clear p_3); (try clear p_4); (try clear p_5); (try clear p_6); (try clear p_7); (try clear p_8); (try clear p_9); (try clear p_10); (try clear p_11); (try clear p_12))
  ((try clear q_0); (try clear q_1); (try clear q_2); (try clear q_3); (try clear q_4); (try clear q_5); (try clear q_6); (try clear q_7); (try clear q_8); (try clear q_9); (try clear q_10); (try clear q_11); (try clear q_12))
  intro v' w3 hown hbn _
  obtain ⟨A3, a3, rfl⟩ := (SZ.of_own hown).form
  have hbv : Below V2.heap.size V2 w3 := ((Below.refl _ V2).alloc (Nat.le_refl _) _).trans hbn
  have C3 := B2.keep hbv
  have Y3 := Z2.keep hbv
  have hzz := hbv.size
  obtain ⟨V3, hV3⟩ : ∃ V3, w3.setCell ⟨w.heap.size, 7, none⟩ (.slice A3 zs.length a3) = V3 := ⟨_, rfl⟩
  have B3 : BoxP w.heap.size ⟨d, .slice A1 d.ms.length a1, ps, .slice A2 ps.length a2, zs, .slice A3 zs.length a3, fr, ea, .slice fD ea.length fd, al⟩ V3 := hV3 ▸ BoxP.set7 C3 (.slice A3 zs.length a3) zs
  have Z3 : BoxP (w.heap.size + 1) Ph.zero V3 := hV3 ▸ Y3.other (by simp) (.slice A3 zs.length a3)
  have hz3 : w.heap.size + 2 ≤ V3.heap.size := by rw [← hV3]; simp; omega
  have hb3 : Below w.heap.size w V3 := hV3 ▸ (hb2.trans (hbv.mono (by omega))).setCell (p := ⟨w.heap.size, 7, none⟩) (Nat.le_refl _) _
  have R1 : OwnM V3 (w.heap.size + 2) (.slice A1 d.ms.length a1) d.ms := hV3 ▸ ownsRow_setCell_below (ownsRow_below R1 hbv) (a := ⟨w.heap.size, 7, none⟩) (by show w.heap.size < _; omega) _
  have R2 : OwnP V3 (w.heap.size + 2) (.slice A2 ps.length a2) ps := hV3 ▸ ownsRow_setCell_below (ownsRow_below R2 hbv) (a := ⟨w.heap.size, 7, none⟩) (by show w.heap.size < _; omega) _
  have R3 : OwnZ V3 (w.heap.size + 2) (.slice A3 zs.length a3) zs := hV3 ▸ ownsRow_setCell_below (ownsRow_base hown hz2) (a := ⟨w.heap.size, 7, none⟩) (by show w.heap.size < _; omega) _
  obtain ⟨p_0, ⟨p_1, p_2, p_3, p_4, p_5, p_6, p_7, p_8, p_9, p_10, p_11⟩, p_12⟩ := _root_.id C3
  obtain ⟨q_0, ⟨q_1, q_2, q_3, q_4, q_5, q_6, q_7, q_8, q_9, q_10, q_11⟩, q_12⟩ := _root_.id B3
  clear hown hbn hV2 B2 Z2 Y3 hzz hbv
  go_wp2_with (first | rw [hV3] | (at_builtin; refine wpList_append_ints rfl _ _ rfl V3.heap.size _ [] rfl (ownI_empty V3) (by simp) _ ea rfl (h5.keep (hb3.alloc (by omega) _)) (by simp; omega) ?_))
  ((try clear p_0); (try clear p_1); (try clear p_2); (try clear p_3); (try clear p_4); (try clear p_5); (try clear p_6); (try clear p_7); (try clear p_8); (try clear p_9); (try clear p_10); (try clear p_11); (try clear p_12))
  ((try clear q_0); (try clear q_1); (try clear q_2); (try clear q_3); (try clear q_4); (try clear q_5); (try clear q_6); (try clear q_7); (try clear q_8); (try clear q_9); (try clear q_10); (try clear q_11); (try clear q_12))
  intro v' w4 hown hbn _
  obtain ⟨A4, a4, rfl⟩ := (SI.of_own hown).form
  have hbv : Below V3.heap.size V3 w4 := ((Below.refl _ V3).alloc (Nat.le_refl _) _).trans hbn
  have C4 := B3.keep hbv
  have Y4 := Z3.keep hbv
  have hzz := hbv.size
  obtain ⟨V4, hV4⟩ : ∃ V4, w4.setCell ⟨w.heap.size, 9, none⟩ (.slice A4 ea.length a4) = V4 := ⟨_, rfl⟩
  have B4 : BoxP w.heap.size ⟨d, .slice A1 d.ms.length a1, ps, .slice A2 ps.length a2, zs, .slice A3 zs.length a3, fr, ea, .slice A4 ea.length a4, al⟩ V4 := hV4 ▸ BoxP.set9 C4 (.slice A4 ea.length a4) ea
  have Z4 : BoxP (w.heap.size + 1) Ph.zero V4 := hV4 ▸ Y4.other (by simp) (.slice A4 ea.length a4)
  have hz4 : w.heap.size + 2 ≤ V4.heap.size := by rw [← hV4]; simp; omega
  have hb4 : Below w.heap.size w V4 := hV4 ▸ (hb3.trans (hbv.mono (by omega))).setCell (p := ⟨w.heap.size, 9, none⟩) (Nat.le_refl _) _
  have R1 : OwnM V4 (w.heap.size + 2) (.slice A1 d.ms.length a1) d.ms := hV4 ▸ ownsRow_setCell_below (ownsRow_below R1 hbv) (a := ⟨w.heap.size, 9, none⟩) (by show w.heap.size < _; omega) _
  have R2 : OwnP V4 (w.heap.size + 2) (.slice A2 ps.length a2) ps := hV4 ▸ ownsRow_setCell_below (ownsRow_below R2 hbv) (a := ⟨w.heap.size, 9, none⟩) (by show w.heap.size < _; omega) _
  have R3 : OwnZ V4 (w.heap.size + 2) (.slice A3 zs.length a3) zs := hV4 ▸ ownsRow_setCell_below (ownsRow_below R3 hbv) (a := ⟨w.heap.size, 9, none⟩) (by show w.heap.size < _; omega) _
  have R4 : OwnI V4 (w.heap.size + 2) (.slice A4 ea.length a4) ea := hV4 ▸ ownsRow_setCell_below (ownsRow_base hown hz3) (a := ⟨w.heap.size, 9, none⟩) (by show w.heap.size < _; omega) _
  obtain ⟨p_0, ⟨p_1, p_2, p_3, p_4, p_5, p_6, p_7, p_8, p_9, p_10, p_11⟩, p_12⟩ := _root_.id C4
  obtain ⟨q_0, ⟨q_1, q_2, q_3, q_4, q_5, q_6, q_7, q_8, q_9, q_10, q_11⟩, q_12⟩ := _root_.id B4
  clear hown hbn hV3 B3 Z3 Y4 hzz hbv
  have F4 := Z4
  obtain ⟨r_0, ⟨r_1, r_2, r_3, r_4, r_5, r_6, r_7, r_8, r_9, r_10, r_11⟩, r_12⟩ := _root_.id F4
  go_wp2_with (rw [hV4])
  ((try clear p_0); (try clear p_1); (try clear p_2); (try clear p_3); (try clear p_4); (try clear p_5); (try clear p_6); (try clear p_7); (try clear p_8); (try clear p_9); (try clear p_10); (try clear p_11); (try clear p_12))
  ((try clear q_0); (try clear q_1); (try clear q_2); (try clear q_3); (try clear q_4); (try clear q_5); (try clear q_6); (try clear q_7); (try clear q_8); (try clear q_9); (try clear q_10); (try clear q_11); (try clear q_12))
  ((try clear r_0); (try clear r_1); (try clear r_2); (try clear r_3); (try clear r_4); (try clear r_5); (try clear r_6); (try clear r_7); (try clear r_8); (try clear r_9); (try clear r_10); (try clear r_11); (try clear r_12))
  have F1 : BoxP (w.heap.size + 1) ⟨d, .slice A1 d.ms.length a1, ps, .slice A2 ps.length a2, zs, .slice A3 zs.length a3, fr, ea, .slice A4 ea.length a4, al⟩ (putW V4 (w.heap.size + 1) ⟨d, .slice A1 d.ms.length a1, ps, .slice A2 ps.length a2, zs, .slice A3 zs.length a3, fr, ea, .slice A4 ea.length a4, al⟩) := BoxP.put Z4 ⟨d, .slice A1 d.ms.length a1, ps, .slice A2 ps.length a2, zs, .slice A3 zs.length a3, fr, ea, .slice A4 ea.length a4, al⟩
  have FB : Below w.heap.size w (putW V4 (w.heap.size + 1) ⟨d, .slice A1 d.ms.length a1, ps, .slice A2 ps.length a2, zs, .slice A3 zs.length a3, fr, ea, .slice A4 ea.length a4, al⟩) := putW_below ⟨d, .slice A1 d.ms.length a1, ps, .slice A2 ps.length a2, zs, .slice A3 zs.length a3, fr, ea, .slice A4 ea.length a4, al⟩ (by omega) hb4
  have S1 : OwnM (putW V4 (w.heap.size + 1) ⟨d, .slice A1 d.ms.length a1, ps, .slice A2 ps.length a2, zs, .slice A3 zs.length a3, fr, ea, .slice A4 ea.length a4, al⟩) (w.heap.size + 2) (.slice A1 d.ms.length a1) d.ms := putW_own ⟨d, .slice A1 d.ms.length a1, ps, .slice A2 ps.length a2, zs, .slice A3 zs.length a3, fr, ea, .slice A4 ea.length a4, al⟩ (by omega) R1
  have S2 : OwnP (putW V4 (w.heap.size + 1) ⟨d, .slice A1 d.ms.length a1, ps, .slice A2 ps.length a2, zs, .slice A3 zs.length a3, fr, ea, .slice A4 ea.length a4, al⟩) (w.heap.size + 2) (.slice A2 ps.length a2) ps := putW_own ⟨d, .slice A1 d.ms.length a1, ps, .slice A2 ps.length a2, zs, .slice A3 zs.length a3, fr, ea, .slice A4 ea.length a4, al⟩ (by omega) R2
  have S3 : OwnZ (putW V4 (w.heap.size + 1) ⟨d, .slice A1 d.ms.length a1, ps, .slice A2 ps.length a2, zs, .slice A3 zs.length a3, fr, ea, .slice A4 ea.length a4, al⟩) (w.heap.size + 2) (.slice A3 zs.length a3) zs := putW_own ⟨d, .slice A1 d.ms.length a1, ps, .slice A2 ps.length a2, zs, .slice A3 zs.length a3, fr, ea, .slice A4 ea.length a4, al⟩ (by omega) R3
  have S4 : OwnI (putW V4 (w.heap.size + 1) ⟨d, .slice A1 d.ms.length a1, ps, .slice A2 ps.length a2, zs, .slice A3 zs.length a3, fr, ea, .slice A4 ea.length a4, al⟩) (w.heap.size + 2) (.slice A4 ea.length a4) ea := putW_own ⟨d, .slice A1 d.ms.length a1, ps, .slice A2 ps.length a2, zs, .slice A3 zs.length a3, fr, ea, .slice A4 ea.length a4, al⟩ (by omega) R4
  exact bodyPost_ret (res_BoxP Tryz.results17 rfl F1) rfl ⟨_, rfl, rfl, ⟨.of_own S1, .of_own S2, .of_own S3, h4, .of_own S4, .own S2, .own S4⟩, FB⟩
end Go.Proofs.YtoomkdofoceiaaaGreatDoor.Dp
namespace Go.Proofs.YtoomkdofoceiaaaGreatDoor.Dp
open Go.RowKit Bnd
open Go.Proofs.YtoomkdofoceiaaaGreatDoor.Ds (De)
open Go.Proofs.YtoomkdofoceiaaaGreatDoor.Ss (Ses Zs ses SZ PZ NoP)
open Go.Proofs.YtoomkdofoceiaaaGreatDoor.Od (Pr SP)
open Go.Proofs.YtoomkdofoceiaaaGreatDoor.Sf (scanP)
theorem few_zero {o : Ph} (h : o.pl = Pl.zero) : FewP o := by
  have h1 : o.d = De.zero := congrArg Pl.d h
  have h2 : o.ps = [] := congrArg Pl.ps h
  have h3 : ses o.zs = [] := congrArg Pl.ss h
  have h4 : o.ea = [] := congrArg Pl.ea h
  have h5 : o.zs.length = 0 := by have := congrArg List.length h3; simpa using this
  exact ⟨by rw [h1]; simp [De.zero], by rw [h2]; simp, by omega, by rw [h4]; simp⟩
theorem few_cut {p : Pl} {k : ByteArray} {n : Int} (hp : isP p = true) (hl : p.ps.length ≤ 100000) {o : Ph} (h : o.pl = (cutP p k n).1 ∨ o.pl = (cutP p k n).2.1) : FewP o := by
  rcases cut_cases p k n with ⟨er, _, hc⟩ | ⟨hfr, x, y, hsp, _, hc⟩
  · rw [hc] at h
    exact few_zero (by rcases h with h | h <;> exact h)
  · rw [hc] at h
    have hm := cut_may hp hsp hfr
    rcases h with h | h
    · refine isP_few (by rw [h]; exact hm.1) ?_
      rw [show o.ps = scanP p.ps Od.E0 k from congrArg Pl.ps h]
      exact Nat.le_trans (List.length_filter_le _ _) hl
    · refine isP_few (by rw [h]; exact hm.2) ?_
      rw [show o.ps = scanP p.ps k Od.E0 from congrArg Pl.ps h]
      exact Nat.le_trans (List.length_filter_le _ _) hl
set_option maxHeartbeats 16000000 in
set_option maxRecDepth 100000 in
theorem cuts_walk (o : Ph) (key : ByteArray) (idn : Int) (w : World) (h : HB w o) (hf : FitP o) (hk : key.size ≤ 140737488355328) (hg : Good w) :
    Calls Tryz.prog 4 #[qv o, .string key, .int .i64 idn] w fun e w' => e = .returned (.bool true) ∧ Below w.heap.size w w' := by
  obtain ⟨fA, fa, fB, fb, fC, fc, fD, fd, f1, f2, f3, f4⟩ := h.hp.form
  obtain ⟨d, sm, ps, sp, zs, sz, fr, ea, se, al⟩ := o
  simp only at f1 f2 f3 f4
  subst f1 f2 f3 f4
  obtain ⟨W1, hW1⟩ : ∃ W1, w.alloc (.cells #[.int .i64 d.id, .string d.f, .string d.t, .int .i64 d.gen, .slice fA d.ms.length fa, .int .i64 d.next, .slice fB ps.length fb, .slice fC zs.length fc, .bool fr, .slice fD ea.length fd, .int .i64 al] 31) = W1 := ⟨_, rfl⟩
  have B1 : BoxP w.heap.size ⟨d, .slice fA d.ms.length fa, ps, .slice fB ps.length fb, zs, .slice fC zs.length fc, fr, ea, .slice fD ea.length fd, al⟩ W1 := hW1 ▸ BoxP.new w ⟨d, .slice fA d.ms.length fa, ps, .slice fB ps.length fb, zs, .slice fC zs.length fc, fr, ea, .slice fD ea.length fd, al⟩
  have hz1 : W1.heap.size = w.heap.size + 1 := by rw [← hW1]; simp
  have hbw1 : Below w.heap.size w W1 := by rw [← hW1]; exact (Below.refl _ w).alloc (Nat.le_refl _) _
  have h1 := h.keep hbw1
  have cs := small_any ⟨d, .slice fA d.ms.length fa, ps, .slice fB ps.length fb, zs, .slice fC zs.length fc, fr, ea, .slice fD ea.length fd, al⟩ W1 h1.hp hf
  go_enter Tryz.func4, Tryz.ntmps4
  obtain ⟨p_0, ⟨p_1, p_2, p_3, p_4, p_5, p_6, p_7, p_8, p_9, p_10, p_11⟩, p_12⟩ := _root_.id B1
  go_wp2_with (rw [hW1])
  refine cs.mono ?_
  rintro e w2 ⟨⟨r, rfl, hr⟩, b2⟩
  have hz2 := b2.size
  have hb2 : Below w.heap.size w w2 := hbw1.trans (b2.mono (by omega))
  have B2 := B1.keep b2
  have h2 := h1.keep b2
  ((try clear p_0); (try clear p_1); (try clear p_2); (try clear p_3); (try clear p_4); (try clear p_5); (try clear p_6); (try clear p_7); (try clear p_8); (try clear p_9); (try clear p_10); (try clear p_11); (try clear p_12))
  clear cs hW1 h1 b2
  cases r with
  | false =>
    go_wp2_with fail
    refine (live_any _ (hg.below hb2)).mono ?_
    rintro e' wl ⟨rfl, bl⟩
    go_wp2_with fail
    go_ret
    exact ⟨rfl, (hb2).trans (bl.mono (by have h9 := (hb2).size; omega))⟩
  | true =>
    obtain ⟨sps, szs, sea, sms⟩ := hr rfl
    simp only at sps szs sea sms
    by_cases hlen : key.size ≤ 10000
    rotate_left
    · have e1 : ((key.size : Int) > 10000) = True := eq_true (by omega)
      have e3 : (10000 < (key.size : Int)) = True := eq_true (by omega)
      go_wp2_with fail
      refine (live_any _ (hg.below hb2)).mono ?_
      rintro e' wl ⟨rfl, bl⟩
      go_wp2_with fail
      go_ret
      exact ⟨rfl, (hb2).trans (bl.mono (by have h9 := (hb2).size; omega))⟩
    have e1 : ((key.size : Int) > 10000) = False := eq_false (by omega)
    have e3 : (10000 < (key.size : Int)) = False := eq_false (by omega)
    have ci := ris_any ⟨d, .slice fA d.ms.length fa, ps, .slice fB ps.length fb, zs, .slice fC zs.length fc, fr, ea, .slice fD ea.length fd, al⟩ w2 h2.hp hf
    obtain ⟨p_0, ⟨p_1, p_2, p_3, p_4, p_5, p_6, p_7, p_8, p_9, p_10, p_11⟩, p_12⟩ := _root_.id B2
    clear hlen
    go_wp2_with fail
    ((try clear p_0); (try clear p_1); (try clear p_2); (try clear p_3); (try clear p_4); (try clear p_5); (try clear p_6); (try clear p_7); (try clear p_8); (try clear p_9); (try clear p_10); (try clear p_11); (try clear p_12))
    refine ci.mono ?_
    rintro e w3 ⟨rfl, b3⟩
    have hz3 := b3.size
    have hb3 : Below w.heap.size w w3 := hb2.trans (b3.mono (by omega))
    have B3 := B2.keep b3
    have h3 := h2.keep b3
    clear ci b3 h2 B2 e1 e3
    cases hip : isP (Ph.pl ⟨d, .slice fA d.ms.length fa, ps, .slice fB ps.length fb, zs, .slice fC zs.length fc, fr, ea, .slice fD ea.length fd, al⟩) with
    | false =>
      go_wp2_with fail
      refine (live_any _ (hg.below hb3)).mono ?_
      rintro e' wl ⟨rfl, bl⟩
      go_wp2_with fail
      go_ret
      exact ⟨rfl, (hb3).trans (bl.mono (by have h9 := (hb3).size; omega))⟩
    | true =>
      have ha3 := h3.ha hip
      have hl1 : ps.length ≤ 100000 := by omega
      have hzl : zs.length ≤ 64 := by have := isS_len (isP_s hip); simpa [Ph.pl] using this
      have hel : ea.length ≤ 200 := isP_ea hip
      have hml : d.ms.length ≤ 5 := (isD_sizes (isP_d hip)).2.2
      have co := lown_any ⟨d, .slice fA d.ms.length fa, ps, .slice fB ps.length fb, zs, .slice fC zs.length fc, fr, ea, .slice fD ea.length fd, al⟩ w3 ha3 (by show d.ms.length ≤ _; omega) hl1 (by show zs.length ≤ _; omega) (by show ea.length ≤ _; omega)
      obtain ⟨cp, hcp⟩ : ∃ cp, cutP (Ph.pl ⟨d, .slice fA d.ms.length fa, ps, .slice fB ps.length fb, zs, .slice fC zs.length fc, fr, ea, .slice fD ea.length fd, al⟩) key idn = cp := ⟨_, rfl⟩
      have few : ∀ o' : Ph, (o'.pl = cp.1 ∨ o'.pl = cp.2.1) → FewP o' := fun o' h => few_cut (k := key) (n := idn) hip hl1 (by rw [hcp]; exact h)
      have rc := fun wx (hb : Below w3.heap.size w3 wx) => rcut_any ⟨d, .slice fA d.ms.length fa, ps, .slice fB ps.length fb, zs, .slice fC zs.length fc, fr, ea, .slice fD ea.length fd, al⟩ key idn wx (ha3.keep hb) hip hl1 hk
      rw [hcp] at rc
      obtain ⟨c1, c2, er⟩ := cp
      simp only at few rc
      have hpsl : (Ph.pl ⟨d, .slice fA d.ms.length fa, ps, .slice fB ps.length fb, zs, .slice fC zs.length fc, fr, ea, .slice fD ea.length fd, al⟩).ps.length ≤ 100000 := hl1
      obtain ⟨P, hP⟩ : ∃ P, Ph.pl ⟨d, .slice fA d.ms.length fa, ps, .slice fB ps.length fb, zs, .slice fC zs.length fc, fr, ea, .slice fD ea.length fd, al⟩ = P := ⟨_, rfl⟩
      rw [hP] at co hip hcp hpsl
      have HIP := Lib.hid hip
      have HCP := Lib.hid hcp
      clear hip hcp hP h3 ha3 sps szs sea sms hl1 hzl hel hml h hf
      obtain ⟨p_0, ⟨p_1, p_2, p_3, p_4, p_5, p_6, p_7, p_8, p_9, p_10, p_11⟩, p_12⟩ := _root_.id B3
      go_wp2_with fail
      ((try clear p_0); (try clear p_1); (try clear p_2); (try clear p_3); (try clear p_4); (try clear p_5); (try clear p_6); (try clear p_7); (try clear p_8); (try clear p_9); (try clear p_10); (try clear p_11); (try clear p_12))
      refine co.mono ?_
      rintro e w4 ⟨o1, rfl, hpl, hA1, b4⟩
      have cc := cut_any o1 key idn w4 hA1 (by rw [hpl]; exact HIP.out) (by rw [show o1.ps = P.ps from congrArg Pl.ps hpl]; exact hpsl) hk
      rw [hpl, HCP.out] at cc
      clear co
      go_wp2_with fail
      refine cc.mono ?_
      rintro e w5 ⟨ol, or, rfl, pl, pr, hl, hr', b5⟩
      simp only at pl pr
      have fl := few ol (.inl pl)
      have fq := few or (.inr pr)
      obtain ⟨lA, la, lB, lb, lC, lc, lD, le, l1, l2, l3, l4⟩ := hl.hp.form
      obtain ⟨ld, lsm, lps, lsp, lzs, lsz, lfr, lea, lse, lal⟩ := ol
      simp only at l1 l2 l3 l4
      subst l1 l2 l3 l4
      obtain ⟨qA, qa, qB, qb, qC, qc, qD, qe, q1, q2, q3, q4⟩ := hr'.hp.form
      obtain ⟨qd, qsm, qps, qsp, qzs, qsz, qfr, qea, qse, qal⟩ := or
      simp only at q1 q2 q3 q4
      subst q1 q2 q3 q4
      have hz4 := b4.size
      have hz5 := b5.size
      have b35 : Below w3.heap.size w3 w5 := b4.trans (b5.mono hz4)
      obtain ⟨W6, hW6⟩ : ∃ W6, (w5.alloc (.cells #[.int .i64 ld.id, .string ld.f, .string ld.t, .int .i64 ld.gen, .slice lA ld.ms.length la, .int .i64 ld.next, .slice lB lps.length lb, .slice lC lzs.length lc, .bool lfr, .slice lD lea.length le, .int .i64 lal] 31)).alloc (.cells #[.int .i64 qd.id, .string qd.f, .string qd.t, .int .i64 qd.gen, .slice qA qd.ms.length qa, .int .i64 qd.next, .slice qB qps.length qb, .slice qC qzs.length qc, .bool qfr, .slice qD qea.length qe, .int .i64 qal] 31) = W6 := ⟨_, rfl⟩
      have L6 : BoxP w5.heap.size ⟨ld, .slice lA ld.ms.length la, lps, .slice lB lps.length lb, lzs, .slice lC lzs.length lc, lfr, lea, .slice lD lea.length le, lal⟩ W6 := hW6 ▸ (BoxP.new w5 ⟨ld, .slice lA ld.ms.length la, lps, .slice lB lps.length lb, lzs, .slice lC lzs.length lc, lfr, lea, .slice lD lea.length le, lal⟩).alloc _
      have Q6 : BoxP (w5.heap.size + 1) ⟨qd, .slice qA qd.ms.length qa, qps, .slice qB qps.length qb, qzs, .slice qC qzs.length qc, qfr, qea, .slice qD qea.length qe, qal⟩ W6 := by
        have := BoxP.new (w5.alloc (.cells #[.int .i64 ld.id, .string ld.f, .string ld.t, .int .i64 ld.gen, .slice lA ld.ms.length la, .int .i64 ld.next, .slice lB lps.length lb, .slice lC lzs.length lc, .bool lfr, .slice lD lea.length le, .int .i64 lal] 31)) ⟨qd, .slice qA qd.ms.length qa, qps, .slice qB qps.length qb, qzs, .slice qC qzs.length qc, qfr, qea, .slice qD qea.length qe, qal⟩
        rw [World.size_alloc] at this
        rw [← hW6]
        exact this
      have b6 : Below w5.heap.size w5 W6 := by rw [← hW6]; exact ((Below.refl _ w5).alloc (Nat.le_refl _) _).alloc (by simp) _
      have hz6 := b6.size
      have hzz6 : W6.heap.size = w5.heap.size + 2 := by rw [← hW6]; simp
      have b36 : Below w3.heap.size w3 W6 := b35.trans (b6.mono (by omega))
      have B6 := B3.keep b36
      have hl6 := hl.keep b6
      have hr6 := hr'.keep b6
      clear cc hA1 hl hr' hpl
      obtain ⟨p_0, ⟨p_1, p_2, p_3, p_4, p_5, p_6, p_7, p_8, p_9, p_10, p_11⟩, p_12⟩ := _root_.id B6
      go_wp2_with (rw [hW6])
      ((try clear p_0); (try clear p_1); (try clear p_2); (try clear p_3); (try clear p_4); (try clear p_5); (try clear p_6); (try clear p_7); (try clear p_8); (try clear p_9); (try clear p_10); (try clear p_11); (try clear p_12))
      refine (rc W6 b36).mono ?_
      rintro e w7 ⟨oa, ob, rfl, pa, pb, ha', hb', b7⟩
      simp only at pa pb
      obtain ⟨uA, ua, uB, ub, uC, uc, uD, ue, u1, u2, u3, u4⟩ := ha'.hp.form
      obtain ⟨ud, usm, ups, usp, uzs, usz, ufr, uea, use, ual⟩ := oa
      simp only at u1 u2 u3 u4
      subst u1 u2 u3 u4
      obtain ⟨vA, va, vB, vb, vC, vc, vD, ve, v1, v2, v3, v4⟩ := hb'.hp.form
      obtain ⟨vd, vsm, vps, vsp, vzs, vsz, vfr, vea, vse, val⟩ := ob
      simp only at v1 v2 v3 v4
      subst v1 v2 v3 v4
      have hz7 := b7.size
      obtain ⟨W8, hW8⟩ : ∃ W8, (w7.alloc (.cells #[.int .i64 ud.id, .string ud.f, .string ud.t, .int .i64 ud.gen, .slice uA ud.ms.length ua, .int .i64 ud.next, .slice uB ups.length ub, .slice uC uzs.length uc, .bool ufr, .slice uD uea.length ue, .int .i64 ual] 31)).alloc (.cells #[.int .i64 vd.id, .string vd.f, .string vd.t, .int .i64 vd.gen, .slice vA vd.ms.length va, .int .i64 vd.next, .slice vB vps.length vb, .slice vC vzs.length vc, .bool vfr, .slice vD vea.length ve, .int .i64 val] 31) = W8 := ⟨_, rfl⟩
      have U8 : BoxP w7.heap.size ⟨ud, .slice uA ud.ms.length ua, ups, .slice uB ups.length ub, uzs, .slice uC uzs.length uc, ufr, uea, .slice uD uea.length ue, ual⟩ W8 := hW8 ▸ (BoxP.new w7 ⟨ud, .slice uA ud.ms.length ua, ups, .slice uB ups.length ub, uzs, .slice uC uzs.length uc, ufr, uea, .slice uD uea.length ue, ual⟩).alloc _
      have V8 : BoxP (w7.heap.size + 1) ⟨vd, .slice vA vd.ms.length va, vps, .slice vB vps.length vb, vzs, .slice vC vzs.length vc, vfr, vea, .slice vD vea.length ve, val⟩ W8 := by
        have := BoxP.new (w7.alloc (.cells #[.int .i64 ud.id, .string ud.f, .string ud.t, .int .i64 ud.gen, .slice uA ud.ms.length ua, .int .i64 ud.next, .slice uB ups.length ub, .slice uC uzs.length uc, .bool ufr, .slice uD uea.length ue, .int .i64 ual] 31)) ⟨vd, .slice vA vd.ms.length va, vps, .slice vB vps.length vb, vzs, .slice vC vzs.length vc, vfr, vea, .slice vD vea.length ve, val⟩
        rw [World.size_alloc] at this
        rw [← hW8]
        exact this
      have b8 : Below w7.heap.size w7 W8 := by rw [← hW8]; exact ((Below.refl _ w7).alloc (Nat.le_refl _) _).alloc (by simp) _
      have hz8 := b8.size
      have hzz8 : W8.heap.size = w7.heap.size + 2 := by rw [← hW8]; simp
      have b68 : Below W6.heap.size W6 W8 := b7.trans (b8.mono (by omega))
      have L8 := L6.keep b68
      have Q8 := Q6.keep b68
      have hl8 := hl6.keep b68
      have hr8 := hr6.keep b68
      have hu8 := ha'.keep b8
      have hv8 := hb'.keep b8
      have hb8 : Below w.heap.size w W8 := hb3.trans ((b36.trans (b68.mono (by omega))).mono (by omega))
      have s1 := rsame_yes ⟨ld, .slice lA ld.ms.length la, lps, .slice lB lps.length lb, lzs, .slice lC lzs.length lc, lfr, lea, .slice lD lea.length le, lal⟩ ⟨ud, .slice uA ud.ms.length ua, ups, .slice uB ups.length ub, uzs, .slice uC uzs.length uc, ufr, uea, .slice uD uea.length ue, ual⟩ W8 hl8.hp hu8.hp (pl.trans pa.symm) hl8.np hu8.np fl
      have s2 := fun wx (hb : Below W8.heap.size W8 wx) => rsame_yes ⟨qd, .slice qA qd.ms.length qa, qps, .slice qB qps.length qb, qzs, .slice qC qzs.length qc, qfr, qea, .slice qD qea.length qe, qal⟩ ⟨vd, .slice vA vd.ms.length va, vps, .slice vB vps.length vb, vzs, .slice vC vzs.length vc, vfr, vea, .slice vD vea.length ve, val⟩ wx (hr8.keep hb).hp (hv8.keep hb).hp (pr.trans pb.symm) hr8.np hv8.np fq
      clear rc few pl pr pa pb fl fq hl6 hr6 ha' hb' HIP HCP hl8 hr8 hu8 hv8
      obtain ⟨p_0, ⟨p_1, p_2, p_3, p_4, p_5, p_6, p_7, p_8, p_9, p_10, p_11⟩, p_12⟩ := _root_.id L8
      obtain ⟨q_0, ⟨q_1, q_2, q_3, q_4, q_5, q_6, q_7, q_8, q_9, q_10, q_11⟩, q_12⟩ := _root_.id U8
      go_wp2_with (rw [hW8])
      ((try clear p_0); (try clear p_1); (try clear p_2); (try clear p_3); (try clear p_4); (try clear p_5); (try clear p_6); (try clear p_7); (try clear p_8); (try clear p_9); (try clear p_10); (try clear p_11); (try clear p_12))
      ((try clear q_0); (try clear q_1); (try clear q_2); (try clear q_3); (try clear q_4); (try clear q_5); (try clear q_6); (try clear q_7); (try clear q_8); (try clear q_9); (try clear q_10); (try clear q_11); (try clear q_12))
      refine s1.mono ?_
      rintro e w9 ⟨rfl, b9⟩
      have Q9 := Q8.keep b9
      have V9 := V8.keep b9
      have hz9 := b9.size
      have hb9 : Below w.heap.size w w9 := hb8.trans (b9.mono (by omega))
      obtain ⟨p_0, ⟨p_1, p_2, p_3, p_4, p_5, p_6, p_7, p_8, p_9, p_10, p_11⟩, p_12⟩ := _root_.id Q9
      obtain ⟨q_0, ⟨q_1, q_2, q_3, q_4, q_5, q_6, q_7, q_8, q_9, q_10, q_11⟩, q_12⟩ := _root_.id V9
      go_wp2_with fail
      ((try clear p_0); (try clear p_1); (try clear p_2); (try clear p_3); (try clear p_4); (try clear p_5); (try clear p_6); (try clear p_7); (try clear p_8); (try clear p_9); (try clear p_10); (try clear p_11); (try clear p_12))
      ((try clear q_0); (try clear q_1); (try clear q_2); (try clear q_3); (try clear q_4); (try clear q_5); (try clear q_6); (try clear q_7); (try clear q_8); (try clear q_9); (try clear q_10); (try clear q_11); (try clear q_12))
      refine (s2 w9 b9).mono ?_
      rintro e w10 ⟨rfl, b10⟩
      have hb10 : Below w.heap.size w w10 := hb9.trans (b10.mono (by omega))
      go_wp2_with fail
      refine (num_any _ _).mono ?_
      rintro e' w' ⟨rfl, rfl⟩
      go_wp2_with fail
      refine (live_any _ (hg.below hb10)).mono ?_
      rintro e' wl ⟨rfl, bl⟩
      go_wp2_with fail
      go_ret
      exact ⟨rfl, (hb10).trans (bl.mono (by have h9 := (hb10).size; omega))⟩
end Go.Proofs.YtoomkdofoceiaaaGreatDoor.Dp

/-
  The law DescUnlike, walked: it answers true, at every two descriptors and every number. Conditions: the form's own reach; the library's variables hold what their types allow.
-/
import Derived.Test.YtojphacongbnmaaDoorDsSmall
namespace Go.Proofs.YtojphacongbnmaaDoor.Ds
open Go.RowKit Bnd
open Go.Proofs.YtojphacongbnmaaDoor.M (numT inR tieT intT untieT)

theorem beq_put {a b : De} {S T : ByteArray} (hS : S.data.toList = putT a) (hT : T.data.toList = putT b) : (S.toList == T.toList) = sameD a b := by
  rw [ByteArray.toList_eq, ByteArray.toList_eq, hS, hT]
  cases h : sameD a b with
  | true => rw [(sameD_iff a b).1 h]; simp
  | false =>
    simp only [beq_eq_false_iff_ne]
    intro e
    rw [putT_inj e, sameD_self] at h
    cases h
theorem parse_of {d : De} (fd : Fit d) (hs : smallD d = true) : parseD (putT d) = okD d := by
  obtain ⟨h1, h2, h3⟩ := small_iff.1 hs
  exact parse_put fd.r (by omega) (by have := put_length fd h2 h3 h1; omega)
/-- what Parse hands back for a descriptor's own text, whether it may be or not -/
theorem parse_text {d : De} (fd : Fit d) (hs : smallD d = true) {S : ByteArray} (hS : S.data.toList = putT d) (w : World) (hg : Good w) :
    Calls Tryd.prog 16 #[.string S] w fun e w' => Gave w (okD d) e w' := by
  have h2 := put_length fd (small_iff.1 hs).2.1 (small_iff.1 hs).2.2 (small_iff.1 hs).1
  have h3 : S.data.toList.length = S.size := by simp
  have := parse_any S w (by rw [hS] at h3; omega) hg
  rw [hS, parse_of fd hs] at this
  exact this
theorem take_text {d : De} {S : ByteArray} (hS : S.data.toList = putT d) (k : Nat) : (S.extract 0 k).data.toList = (putT d).take k := by
  rw [← hS]; simp

set_option maxHeartbeats 16000000 in
set_option maxRecDepth 100000 in
theorem walk_unlike (a b : De) (sa sb : Value) (cut : Int) (w : World) (ha : ArgM w sa a.ms) (hb : ArgM w sb b.ms) (la : Lim a) (lb : Lim b) (hc : -9223372036854775808 ≤ cut ∧ cut ≤ 9223372036854775807) (hg : Good w) :
    Calls Tryd.prog 9 #[dv a sa, dv b sb, .int .i64 cut] w fun e w' => e = .returned (.bool true) ∧ Below w.heap.size w w' := by
  obtain ⟨A, k1, rfl⟩ := ha.form
  obtain ⟨B, k2, rfl⟩ := hb.form
  have ka : ∀ w1, Below w.heap.size w w1 → ArgM w1 (.slice A a.ms.length k1) a.ms := fun w1 h => ha.keep h
  have kb : ∀ w1, Below w.heap.size w w1 → ArgM w1 (.slice B b.ms.length k2) b.ms := fun w1 h => hb.keep h
  have c1 := fun w h => small_any a (.slice A a.ms.length k1) w h la
  have c2 := fun w h => small_any b (.slice B b.ms.length k2) w h lb
  cases h1 : smallD a with
  | false =>
    rw [h1] at c1
    go_enter Tryd.func9, Tryd.ntmps9
    go_wp2_with fail
    refine (c1 _ (ka _ (by (repeat' (first | with_reducible assumption | with_reducible exact Below.refl _ _ | with_reducible refine Below.alloc ?_ ?_ _ | with_reducible refine Below.setCell ?_ ?_ _ | with_reducible refine Below.drew ?_ | omega | (simp; done) | (simp; omega)))))).mono ?_
    rintro e w1 ⟨rfl, b1⟩
    have hb1 : Below w.heap.size w w1 := (show Below w.heap.size w _ from (by (repeat' (first | with_reducible assumption | with_reducible exact Below.refl _ _ | with_reducible refine Below.alloc ?_ ?_ _ | with_reducible refine Below.setCell ?_ ?_ _ | with_reducible refine Below.drew ?_ | omega | (simp; done) | (simp; omega))))).trans (b1.mono (by simp; omega))
    clear b1
    go_wp2_with fail
    refine (live_any _ (hg.below hb1)).mono ?_
    rintro e w2 ⟨rfl, b2⟩
    go_wp2_with fail
    go_ret
    exact ⟨rfl, hb1.trans (b2.mono hb1.size)⟩
  | true =>
    rw [h1] at c1
    cases h2 : smallD b with
    | false =>
      rw [h2] at c2
      go_enter Tryd.func9, Tryd.ntmps9
      go_wp2_with fail
      refine (c1 _ (ka _ (by (repeat' (first | with_reducible assumption | with_reducible exact Below.refl _ _ | with_reducible refine Below.alloc ?_ ?_ _ | with_reducible refine Below.setCell ?_ ?_ _ | with_reducible refine Below.drew ?_ | omega | (simp; done) | (simp; omega)))))).mono ?_
      rintro e w1 ⟨rfl, b1⟩
      obtain ⟨_, BB, _⟩ := live_boxes a (.slice A a.ms.length k1) b (.slice B b.ms.length k2) b1
      have hb1 : Below w.heap.size w w1 := (show Below w.heap.size w _ from (by (repeat' (first | with_reducible assumption | with_reducible exact Below.refl _ _ | with_reducible refine Below.alloc ?_ ?_ _ | with_reducible refine Below.setCell ?_ ?_ _ | with_reducible refine Below.drew ?_ | omega | (simp; done) | (simp; omega))))).trans (b1.mono (by simp; omega))
      obtain ⟨p_0, ⟨p_1, p_2, p_3, p_4, p_5, p_6⟩, p_7⟩ := id BB
      clear b1
      go_wp2_with fail
      refine (c2 _ (kb _ hb1)).mono ?_
      rintro e w2 ⟨rfl, b2⟩
      have hb2 : Below w.heap.size w w2 := hb1.trans (b2.mono hb1.size)
      clear b2
      go_wp2_with fail
      refine (live_any _ (hg.below hb2)).mono ?_
      rintro e w3 ⟨rfl, b3⟩
      go_wp2_with fail
      go_ret
      exact ⟨rfl, hb2.trans (b3.mono hb2.size)⟩
    | true =>
      rw [h2] at c2
      have fa := la.fit h1
      have fb := lb.fit h2
      obtain ⟨g1, g2, g3⟩ := small_iff.1 h1
      obtain ⟨g4, g5, g6⟩ := small_iff.1 h2
      obtain ⟨S, hS⟩ : ∃ S : ByteArray, S = ⟨(putT a).toArray⟩ := ⟨_, rfl⟩
      obtain ⟨T, hT⟩ : ∃ T : ByteArray, T = ⟨(putT b).toArray⟩ := ⟨_, rfl⟩
      have hSd : S.data.toList = putT a := by rw [hS]
      have hTd : T.data.toList = putT b := by rw [hT]
      have c3 := fun w h => put_any a (.slice A a.ms.length k1) w h fa (by omega) (by omega)
      have c4 := fun w h => put_any b (.slice B b.ms.length k2) w h fb (by omega) (by omega)
      rw [show str (putT a) = .string S by rw [hS]] at c3
      rw [show str (putT b) = .string T by rw [hT]] at c4
      have c5 := fun w (h : ArgM w (.slice A a.ms.length k1) a.ms) (h' : ArgM w (.slice B b.ms.length k2) b.ms) => same_any a b (.slice A a.ms.length k1) (.slice B b.ms.length k2) w h.sm h'.sm (by omega) (by omega)
      have heq := beq_put hSd hTd
      obtain ⟨z, hz⟩ : ∃ z, sameD a b = z := ⟨_, rfl⟩
      rw [hz] at c5 heq
      have c6 := fun w h => parse_text fa h1 hSd w h
      have c7 := fun w h => check_any a (.slice A a.ms.length k1) w h (by omega) (by omega) (by omega)
      have hSl : S.size ≤ 10000 := by
        have h3 : S.data.toList.length = S.size := by simp
        have := put_length fa g2 g3 g1
        rw [hSd] at h3; omega
      have HSD := Lib.hid hSd
      clear hS hT hSd hTd hz
      go_enter Tryd.func9, Tryd.ntmps9
      go_wp2_with fail
      refine (c1 _ (ka _ (by (repeat' (first | with_reducible assumption | with_reducible exact Below.refl _ _ | with_reducible refine Below.alloc ?_ ?_ _ | with_reducible refine Below.setCell ?_ ?_ _ | with_reducible refine Below.drew ?_ | omega | (simp; done) | (simp; omega)))))).mono ?_
      rintro e w1 ⟨rfl, b1⟩
      obtain ⟨BA, BB, _⟩ := live_boxes a (.slice A a.ms.length k1) b (.slice B b.ms.length k2) b1
      have hb1 : Below w.heap.size w w1 := (show Below w.heap.size w _ from (by (repeat' (first | with_reducible assumption | with_reducible exact Below.refl _ _ | with_reducible refine Below.alloc ?_ ?_ _ | with_reducible refine Below.setCell ?_ ?_ _ | with_reducible refine Below.drew ?_ | omega | (simp; done) | (simp; omega))))).trans (b1.mono (by simp; omega))
      obtain ⟨p_0, ⟨p_1, p_2, p_3, p_4, p_5, p_6⟩, p_7⟩ := id BB
      clear b1 c1
      go_wp2_with fail
      refine (c2 _ (kb _ hb1)).mono ?_
      rintro e w2 ⟨rfl, b2⟩
      have hb2 : Below w.heap.size w w2 := hb1.trans (b2.mono hb1.size)
      have BA := BA.keep b2
      have BB := BB.keep b2
      have hba : ∀ wx, Below w2.heap.size w2 wx → BoxD w.heap.size a (.slice A a.ms.length k1) wx ∧ BoxD (w.heap.size + 1) b (.slice B b.ms.length k2) wx := fun wx h => ⟨BA.keep h, BB.keep h⟩
      clear p_0 p_1 p_2 p_3 p_4 p_5 p_6 p_7
      clear b2 c2
      go_wp2_with fail
      refine St.wp_region_mixed (fun _ _ wx => Below w2.heap.size w2 wx) (fun i z => match i with | 1 => z = .string S | _ => z = .string T) (by kernel_rfl) (by kernel_rfl) (by kernel_rfl) (Below.refl _ w2).drew ?_
      repeat (first
        | (apply St.mix_give
           · rfl
           · intro L u' wx hS hcl hrd hag
             obtain ⟨⟨_, ⟨j1, j2, j3, j4, j5, j6⟩, _⟩, ⟨_, ⟨i1, i2, i3, i4, i5, i6⟩, _⟩⟩ := hba wx hS
             go_simp
             try with_reducible rfl
           · exact fun L u' wx hS => hS
           simp only [Act.put, List.setIfInBounds_toArray, List.set_cons_zero, List.set_cons_succ])
        | (refine St.mix_into (v := .string S) (f := 23) (args := #[dv a (.slice A a.ms.length k1)]) rfl rfl ?_ ?_ ?_
           · intro wx
             go_simp
             try with_reducible rfl
           · intro L u' wx hS hcl hrd hag
             refine (c3 wx (ka wx (hb2.trans (hS.mono hb2.size))).sm).mono ?_
             rintro e w' ⟨rfl, hb'⟩
             exact ⟨rfl, hS.trans (hb'.mono hS.size)⟩
           simp only [Act.put, List.setIfInBounds_toArray, List.set_cons_zero, List.set_cons_succ])
        | (refine St.mix_into (v := .string T) (f := 23) (args := #[dv b (.slice B b.ms.length k2)]) rfl rfl ?_ ?_ ?_
           · intro wx
             go_simp
             try with_reducible rfl
           · intro L u' wx hS hcl hrd hag
             refine (c4 wx (kb wx (hb2.trans (hS.mono hb2.size))).sm).mono ?_
             rintro e w' ⟨rfl, hb'⟩
             exact ⟨rfl, hS.trans (hb'.mono hS.size)⟩
           simp only [Act.put, List.setIfInBounds_toArray, List.set_cons_zero, List.set_cons_succ]))
      refine St.mix_last ?_
      intro L w3 hS hall
      obtain ⟨BA, BB⟩ := hba w3 hS
      have hb3 : Below w.heap.size w w3 := hb2.trans (hS.mono hb2.size)
      clear hS hall hba c3 c4
      obtain ⟨o_0, ⟨o_1, o_2, o_3, o_4, o_5, o_6⟩, o_7⟩ := id BA
      obtain ⟨p_0, ⟨p_1, p_2, p_3, p_4, p_5, p_6⟩, p_7⟩ := id BB
      go_wp2_with fail
      refine (c5 _ (ka _ (by (repeat' (first | with_reducible assumption | with_reducible exact Below.refl _ _ | with_reducible refine Below.alloc ?_ ?_ _ | with_reducible refine Below.setCell ?_ ?_ _ | with_reducible refine Below.drew ?_ | omega | (simp; done) | (simp; omega))))) (kb _ (by (repeat' (first | with_reducible assumption | with_reducible exact Below.refl _ _ | with_reducible refine Below.alloc ?_ ?_ _ | with_reducible refine Below.setCell ?_ ?_ _ | with_reducible refine Below.drew ?_ | omega | (simp; done) | (simp; omega)))))).mono ?_
      rintro e w4 ⟨rfl, b4⟩
      have hzz : (z != z) = false := by simp
      have hb4 : Below w.heap.size w w4 := hb3.trans (b4.mono hb3.size)
      have BA := BA.keep b4
      clear o_0 o_1 o_2 o_3 o_4 o_5 o_6 o_7
      clear p_0 p_1 p_2 p_3 p_4 p_5 p_6 p_7
      clear b4 c5 BB
      go_wp2_with fail
      refine (c6 _ (hg.below hb4)).mono ?_
      rintro e w5 ⟨s5, rfl, a5, b5⟩
      have hb5 : Below w.heap.size w w5 := hb4.trans (b5.mono hb4.size)
      have BA := BA.keep b5
      have hz5 := hb5.size
      obtain ⟨o_0, ⟨o_1, o_2, o_3, o_4, o_5, o_6⟩, o_7⟩ := id BA
      clear b5 c6
      cases hI : isD a with
      | false =>
        rw [okD_no (by simp [hI])] at a5 ⊢
        rw [chkD_no hI] at c7
        obtain ⟨A5, k5, rfl⟩ := box_dead a5
        simp only
        go_wp2_with fail
        refine (c7 _ (ka _ (by (repeat' (first | with_reducible assumption | with_reducible exact Below.refl _ _ | with_reducible refine Below.alloc ?_ ?_ _ | with_reducible refine Below.setCell ?_ ?_ _ | with_reducible refine Below.drew ?_ | omega | (simp; done) | (simp; omega))))).sm).mono ?_
        rintro e w6 ⟨rfl, b6⟩
        have hb6 : Below w.heap.size w w6 := (show Below w.heap.size w _ from (by (repeat' (first | with_reducible assumption | with_reducible exact Below.refl _ _ | with_reducible refine Below.alloc ?_ ?_ _ | with_reducible refine Below.setCell ?_ ?_ _ | with_reducible refine Below.drew ?_ | omega | (simp; done) | (simp; omega))))).trans (b6.mono (by simp; omega))
        clear b6 c7
        go_wp2_with fail
        refine (num_any _ _).mono ?_
        rintro e w' ⟨rfl, rfl⟩
        go_wp2_with fail
        refine (num_any _ _).mono ?_
        rintro e w' ⟨rfl, rfl⟩
        go_wp2_with fail
        refine (live_any _ (hg.below hb6)).mono ?_
        rintro e w7 ⟨rfl, b7⟩
        go_wp2_with fail
        go_ret
        exact ⟨rfl, hb6.trans (b7.mono hb6.size)⟩
      | true =>
        rw [okD_is hI] at a5 ⊢
        rw [chkD_yes hI] at c7
        obtain ⟨A5, k5, rfl⟩ := a5.form
        have c8 := fun w (h : ArgM w (.slice A5 a.ms.length k5) a.ms) (h' : ArgM w (.slice A a.ms.length k1) a.ms) => same_any a a (.slice A5 a.ms.length k5) (.slice A a.ms.length k1) w h.sm h'.sm (by omega) (by omega)
        rw [sameD_self] at c8
        simp only
        go_wp2_with fail
        refine (c7 _ (ka _ (by (repeat' (first | with_reducible assumption | with_reducible exact Below.refl _ _ | with_reducible refine Below.alloc ?_ ?_ _ | with_reducible refine Below.setCell ?_ ?_ _ | with_reducible refine Below.drew ?_ | omega | (simp; done) | (simp; omega))))).sm).mono ?_
        rintro e w6 ⟨rfl, b6⟩
        obtain ⟨BX, hb56⟩ := one_box a (.slice A5 a.ms.length k5) b6
        have hb6 : Below w.heap.size w w6 := hb5.trans (hb56.mono hz5)
        have BA := BA.keep hb56
        have a6 := a5.keep hb56
        have hz6 := hb6.size
        clear o_0 o_1 o_2 o_3 o_4 o_5 o_6 o_7
        obtain ⟨o_0, ⟨o_1, o_2, o_3, o_4, o_5, o_6⟩, o_7⟩ := id BA
        obtain ⟨x_0, ⟨x_1, x_2, x_3, x_4, x_5, x_6⟩, x_7⟩ := id BX
        clear b6 c7 a5
        go_wp2_with fail
        refine (num_any _ _).mono ?_
        rintro e w' ⟨rfl, rfl⟩
        go_wp2_with fail
        refine (num_any _ _).mono ?_
        rintro e w' ⟨rfl, rfl⟩
        go_wp2_with fail
        refine (c8 _ (a6.keep (by (repeat' (first | with_reducible assumption | with_reducible exact Below.refl _ _ | with_reducible refine Below.alloc ?_ ?_ _ | with_reducible refine Below.setCell ?_ ?_ _ | with_reducible refine Below.drew ?_ | omega | (simp; done) | (simp; omega))))) (ka _ (by (repeat' (first | with_reducible assumption | with_reducible exact Below.refl _ _ | with_reducible refine Below.alloc ?_ ?_ _ | with_reducible refine Below.setCell ?_ ?_ _ | with_reducible refine Below.drew ?_ | omega | (simp; done) | (simp; omega)))))).mono ?_
        rintro e w7 ⟨rfl, b7⟩
        have hb7 : Below w.heap.size w w7 := hb6.trans (b7.mono hz6)
        have BA := BA.keep b7
        have hz7 := hb7.size
        clear o_0 o_1 o_2 o_3 o_4 o_5 o_6 o_7
        clear x_0 x_1 x_2 x_3 x_4 x_5 x_6 x_7
        obtain ⟨o_0, ⟨o_1, o_2, o_3, o_4, o_5, o_6⟩, o_7⟩ := id BA
        clear b7 c8 a6
        by_cases q1 : cut < 0
        · have e1 : (cut < 0) = True := eq_true q1
          go_wp2_with fail
          refine (live_any _ (hg.below hb7)).mono ?_
          rintro e w8 ⟨rfl, b8⟩
          go_wp2_with fail
          go_ret
          exact ⟨rfl, hb7.trans (b8.mono hz7)⟩
        · obtain ⟨K, rfl⟩ : ∃ K : Nat, cut = K := ⟨cut.toNat, by omega⟩
          have e1 : ((K : Int) < 0) = False := eq_false q1
          by_cases q2 : S.size ≤ K
          · have e2 : ((S.size : Int) ≤ (K : Int)) = True := eq_true (by omega)
            have e3 : ((K : Int) ≥ (S.size : Int)) = True := eq_true (by omega)
            go_wp2_with fail
            refine (live_any _ (hg.below hb7)).mono ?_
            rintro e w8 ⟨rfl, b8⟩
            go_wp2_with fail
            go_ret
            exact ⟨rfl, hb7.trans (b8.mono hz7)⟩
          · have e2 : ((S.size : Int) ≤ (K : Int)) = False := eq_false (by omega)
            have e3 : ((K : Int) ≥ (S.size : Int)) = False := eq_false (by omega)
            by_cases q3 : 1 < a.ms.length
            · have e4 : ((1 : Int) < (a.ms.length : Int)) = True := eq_true (by omega)
              have e5 : ((a.ms.length : Int) > 1) = True := eq_true (by omega)
              go_wp2_with fail
              refine (live_any _ (hg.below hb7)).mono ?_
              rintro e w8 ⟨rfl, b8⟩
              go_wp2_with fail
              go_ret
              exact ⟨rfl, hb7.trans (b8.mono hz7)⟩
            · have e4 : ((1 : Int) < (a.ms.length : Int)) = False := eq_false (by omega)
              have e5 : ((a.ms.length : Int) > 1) = False := eq_false (by omega)
              have hlt : K < (putT a).length := by
                have h3 : S.data.toList.length = S.size := by simp
                rw [HSD.out] at h3; omega
              have hcut : parseD (S.extract 0 K).data.toList = (De.zero, 60) := by rw [take_text HSD.out]; exact parse_cut (by omega) hlt
              have hsz : (S.extract 0 K).size ≤ 140737488355328 := by rw [ByteArray.size_extract]; omega
              have c9 := fun w h => parse_any (S.extract 0 K) w hsz h
              rw [hcut] at c9
              have e6 : ((K : Int) ≤ (S.size : Int)) = True := eq_true (by omega)
              clear hcut hsz hlt
              go_wp2_with fail
              refine (c9 _ (hg.below hb7)).mono ?_
              rintro e w8 ⟨s8, rfl, a8, b8⟩
              obtain ⟨A8, k8, rfl⟩ := box_dead a8
              have hb8 : Below w.heap.size w w8 := hb7.trans (b8.mono hz7)
              clear b8 c9
              simp only
              go_wp2_with fail
              refine (num_any _ _).mono ?_
              rintro e w' ⟨rfl, rfl⟩
              go_wp2_with fail
              have hb8' : Below w.heap.size w (w8.alloc (.cells #[.int .i64 De.zero.id, .string De.zero.f, .string De.zero.t, .int .i64 De.zero.gen, .slice A8 0 k8, .int .i64 De.zero.next] 26)) := hb8.alloc hb8.size _
              refine (live_any _ (hg.below hb8')).mono ?_
              rintro e w9 ⟨rfl, b9⟩
              go_wp2_with fail
              go_ret
              exact ⟨rfl, hb8'.trans (b9.mono hb8'.size)⟩
end Go.Proofs.YtojphacongbnmaaDoor.Ds

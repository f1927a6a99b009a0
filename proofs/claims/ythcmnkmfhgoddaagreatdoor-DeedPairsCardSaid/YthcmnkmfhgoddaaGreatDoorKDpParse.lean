/-
 Parse, the program's. Conditions: texts of at most 10,000 bytes; the library's variables hold what their types allow.
-/
import Derived.Test.YthcmnkmfhgoddaaGreatDoorKDpQA
import Derived.Test.YthcmnkmfhgoddaaGreatDoorKDpOA
import Derived.Test.YthcmnkmfhgoddaaGreatDoorKDpBGA
import Derived.Test.YthcmnkmfhgoddaaGreatDoorKDsPaA
import Derived.Test.YthcmnkmfhgoddaaGreatDoorKSsCA
namespace Go.Proofs.YthcmnkmfhgoddaaGreatDoor.Dp
open Go.RowKit Bnd
open Go.Proofs.YthcmnkmfhgoddaaGreatDoor.M (tieT untieT intT numT inR)
open Go.Proofs.YthcmnkmfhgoddaaGreatDoor.Ds (De SM OwnI OwnM ArgM isD parseD dv ptr ptr_inj BoxD)
open Go.Proofs.YthcmnkmfhgoddaaGreatDoor.Ss (Ses Zs ses SZ PZ NoP OwnZ ArgZ parseS isS)
open Go.Proofs.YthcmnkmfhgoddaaGreatDoor.Od (Pr SP OwnP ArgP twosT num0)
theorem six_of {ss : List ByteArray} (h : ss.length = 6) : ∃ a b c m e n, ss = [a, b, c, m, e, n] := by
 match ss, h with
 | [a, b, c, m, e, n], _ => exact ⟨a, b, c, m, e, n, rfl⟩
set_option maxHeartbeats 16000000 in
set_option maxRecDepth 100000 in
theorem parse_any (s : ByteArray) (w : World) (hs : s.size <= 10000) (hg : Good w) :
  Calls Tryz.prog 62 #[.string s] w (GaveP w (parseP s.data.toList)) := by
 obtain ⟨ans, hans⟩ : ∃ ans, parseP s.data.toList = ans := ⟨_, rfl⟩
 rw [hans]
 have hr := reads_parse (s := s.data.toList) (by rw [Array.length_toList]; have : s.data.size = s.size := rfl; omega)
 rw [hans] at hr
 have HR0 := Lib.hid hr
 clear hans hr
 obtain ⟨W1, hW1⟩ : ∃ W1, w.alloc (.cells #[.int .i64 0, .string ⟨#[]⟩, .string ⟨#[]⟩, .int .i64 0, .slice none 0 0, .int .i64 0, .slice none 0 0, .slice none 0 0, .bool false, .slice none 0 0, .int .i64 0] 38) = W1 := ⟨_, rfl⟩
 have ZE1 : ZE w.heap.size W1 := hW1 ▸ ZE.new w
 have hbw1 : Below w.heap.size w W1 := hW1 ▸ (Below.refl _ w).alloc (Nat.le_refl _) _
 have hz1 : W1.heap.size = w.heap.size + 1 := by rw [<- hW1]; simp
 have bad : ∀ Wx, ZE w.heap.size Wx -> Below w.heap.size w Wx -> BoxP w.heap.size Ph.zero (putW Wx w.heap.size Ph.zero) /\ Below w.heap.size w (putW Wx w.heap.size Ph.zero) := fun Wx h hb => ⟨BoxP.put (BoxP.of_ze h) Ph.zero, putW_below Ph.zero (Nat.le_refl _) hb⟩
 have cs := strands_any s W1 (by omega) (hg.below hbw1)
 go_enter Tryz.func62, Tryz.ntmps62
 go_wp2_with (rw [hW1])
 refine cs.mono ?_
 rintro e w2 ⟨⟨v, ss, rfl, hss, hown⟩, b2⟩
 have ZE2 := ZE1.keep b2
 have hz2 := b2.size
 have hb2 : Below w.heap.size w w2 := hbw1.trans (b2.mono (by omega))
 obtain ⟨A, c0, rfl⟩ := own_form hown
 obtain ⟨_, hsm⟩ := strands_small hss
 clear cs hW1 b2
 by_cases h6 : ss.length = 6
 rotate_left
 ·have HR : Hid (ans = (Pl.zero, 90)) := Lib.hid (by
   rw [<- HR0.out]
   unfold readsP
   rw [readPl_no (by rw [<- hss, texts_length]; exact h6)])
  obtain ⟨F, FB⟩ := bad w2 ZE2 hb2
  obtain ⟨N, hN⟩ : ∃ N, ss.length = N := ⟨_, rfl⟩
  rw [hN] at h6 ⊢
  have e1 : ((N : Int) == 6) = false := by simp; omega
  have e2 : ((N : Int) != 6) = true := by simp; omega
  have e3 : ((N : Int) = 6) = False := eq_false (by omega)
  have Z2 := BoxP.of_ze ZE2
  obtain ⟨q_0, ⟨q_1, q_2, q_3, q_4, q_5, q_6, q_7, q_8, q_9, q_10, q_11⟩, q_12⟩ := _root_.id Z2
  clear hN h6 hss hown hsm
  go_wp2_with fail
  exact bodyPost_ret (res_BoxP_tmp Tryz.results62 rfl rfl F) rfl (by rw [HR.out]; exact GaveP.zero FB)
 ·obtain ⟨g, cap, hA, hgb, hgl⟩ : ∃ g cap, (Value.slice A ss.length c0) = .slice (some ⟨g, 0, none⟩) 6 cap /\ W1.heap.size <= g /\ g < w2.heap.size := by
   rcases hown.2 with ⟨e, h0⟩ | ⟨g, cap, cur, e, h1, h2, _⟩
   ·omega
   ·exact ⟨g, cap, by rw [e, h6], h1, (Array.getElem?_eq_some_iff.1 h2).1⟩
  rw [hA] at hown ⊢
  obtain ⟨a, b, c, m, e, n, rfl⟩ := six_of h6
  have q0 := Ds.own_cells hown 0 (by simp)
  have q1 := Ds.own_cells hown 1 (by simp)
  have q2 := Ds.own_cells hown 2 (by simp)
  have q3 := Ds.own_cells hown 3 (by simp)
  have q4 := Ds.own_cells hown 4 (by simp)
  have q5 := Ds.own_cells hown 5 (by simp)
  simp only [List.getElem_cons_zero, List.getElem_cons_succ] at q0 q1 q2 q3 q4 q5
  have s0 : a.size <= s.size := hsm a (by simp)
  have s1 : b.size <= s.size := hsm b (by simp)
  have s2 : c.size <= s.size := hsm c (by simp)
  have s4 : e.size <= s.size := hsm e (by simp)
  have s5 : n.size <= s.size := hsm n (by simp)
  have hr := HR0.out
  unfold readsP at hr
  rw [<- hss, show texts [a, b, c, m, e, n] = [a.data.toList, b.data.toList, c.data.toList, m.data.toList, e.data.toList, n.data.toList] from rfl, readPl_six] at hr
  obtain ⟨d, ed, hD⟩ : ∃ d ed, parseD a.data.toList = (d, ed) := ⟨_, _, rfl⟩
  obtain ⟨zl, es, hS⟩ : ∃ zl es, parseS c.data.toList = (zl, es) := ⟨_, _, rfl⟩
  rw [hD, hS] at hr
  simp only at hr
  have cd := Ds.parse_any a w2 (by omega) (hg.below hb2)
  rw [hD] at cd
  have HR := Lib.hid hr
  clear hr hss hown hsm h6 hA HR0
  go_wp2_with fail
  refine cd.mono ?_
  rintro e' w3 ⟨s3, rfl, a3, b3⟩
  obtain ⟨hA, ha, rfl⟩ := a3.form
  obtain ⟨W4, hW4⟩ : ∃ W4, w3.alloc (.cells #[.int .i64 d.id, .string d.f, .string d.t, .int .i64 d.gen, .slice hA d.ms.length ha, .int .i64 d.next] 26) = W4 := ⟨_, rfl⟩
  have b4 : Below w3.heap.size w3 W4 := hW4 ▸ (Below.refl _ w3).alloc (Nat.le_refl _) _
  have X4 : BoxD w3.heap.size d (.slice hA d.ms.length ha) W4 := hW4 ▸ BoxD.new w3 d (.slice hA d.ms.length ha)
  have ZE4 := (ZE2.keep b3).keep b4
  have a4 := a3.keep b4
  have hz3 := b3.size
  have hz4 := b4.size
  have b24 : Below w2.heap.size w2 W4 := b3.trans (b4.mono (by omega))
  have hb4 : Below w.heap.size w W4 := hb2.trans (b24.mono (by omega))
  by_cases hed : ed = 0
  rotate_left
  ·have hr := HR.out
   rw [if_neg hed] at hr
   have HR := Lib.hid hr.symm
   obtain ⟨F, FB⟩ := bad W4 ZE4 hb4
   have e1 : (ed == 0) = false := by simpa using hed
   have e2 : (ed != 0) = true := by simpa using hed
   have e3 : (ed = 0) = False := eq_false hed
   have Z4 := BoxP.of_ze ZE4
   obtain ⟨q_0, ⟨q_1, q_2, q_3, q_4, q_5, q_6, q_7, q_8, q_9, q_10, q_11⟩, q_12⟩ := _root_.id Z4
   clear hr hed
   go_wp2_with (rw [hW4])
   exact bodyPost_ret (res_BoxP_tmp Tryz.results62 rfl rfl F) rfl (by rw [HR.out]; exact GaveP.zero FB)
  ·subst hed
   have hisd : isD d = true := parseD_is hD
   have hr := HR.out
   rw [if_pos rfl] at hr
   have HR := Lib.hid hr
   have cz := Ss.parse_any c W4 (by omega) (hg.below hb4)
   rw [hS] at cz
   have t2 : W4.cell? ⟨g, 2, none⟩ = some (.string c) := (b24.cell (p := ⟨g, 2, none⟩) hgl).trans q2
   clear hr cd
   go_wp2_with (rw [hW4])
   refine cz.mono ?_
   rintro e' w5 ⟨s5', zs2, rfl, hzs, a5, n5, b5⟩
   obtain ⟨jC, jc, rfl⟩ := a5.form
   have ZE5 := ZE4.keep b5
   have X5 := X4.keep b5
   have a4' := a4.keep b5
   have hz5 := b5.size
   have b25 : Below w2.heap.size w2 w5 := b24.trans (b5.mono (by omega))
   have hb5 : Below w.heap.size w w5 := hb4.trans (b5.mono (by omega))
   have HZS := Lib.hid hzs
   clear cz hW4 hzs t2 a3 a4 b3 b4 b5 b24 hb4 X4 ZE4 ZE2 ZE1
   by_cases hes : es = 0
   rotate_left
   ·have hr := HR.out
    rw [if_neg hes] at hr
    have HR := Lib.hid hr.symm
    obtain ⟨F, FB⟩ := bad w5 ZE5 hb5
    have e1 : (es == 0) = false := by simpa using hes
    have e2 : (es != 0) = true := by simpa using hes
    have e3 : (es = 0) = False := eq_false hes
    have Z5 := BoxP.of_ze ZE5
    obtain ⟨q_0, ⟨q_1, q_2, q_3, q_4, q_5, q_6, q_7, q_8, q_9, q_10, q_11⟩, q_12⟩ := _root_.id Z5
    clear hr hes
    go_wp2_with fail
    exact bodyPost_ret (res_BoxP_tmp Tryz.results62 rfl rfl F) rfl (by rw [HR.out]; exact GaveP.zero FB)
   ·subst hes
    have hiss : isS zl = true := parseS_is hS
    have hr := HR.out
    rw [if_pos rfl] at hr
    have HR := Lib.hid hr
    have hq : ∀ wx, Below w5.heap.size w5 wx -> wx.cell? ⟨g, 1, none⟩ = some (.string b) /\ wx.cell? ⟨g, 3, none⟩ = some (.string m) /\ wx.cell? ⟨g, 4, none⟩ = some (.string e) /\ wx.cell? ⟨g, 5, none⟩ = some (.string n) := fun wx hb => by
     have hb' : Below w2.heap.size w2 wx := b25.trans (hb.mono (by omega))
     exact ⟨(hb'.cell (p := ⟨g, 1, none⟩) hgl).trans q1, (hb'.cell (p := ⟨g, 3, none⟩) hgl).trans q3, (hb'.cell (p := ⟨g, 4, none⟩) hgl).trans q4, (hb'.cell (p := ⟨g, 5, none⟩) hgl).trans q5⟩
    have hX := fun wx (hb : Below w5.heap.size w5 wx) => X5.keep hb
    have gd := fun wx (hb : Below w5.heap.size w5 wx) => hg.below (hb5.trans (hb.mono (by omega)))
    have cb := fun wx (hb : Below w5.heap.size w5 wx) => readPairs_any b wx (by omega) (gd wx hb)
    have ce := fun wx (hb : Below w5.heap.size w5 wx) => readEaten_any e wx (by omega) (gd wx hb)
    have cn := fun wx (hb : Below w5.heap.size w5 wx) => number_any n wx (by omega) (gd wx hb)
    clear hr q0 q1 q2 q3 q4 q5 X5
    obtain ⟨PS, hPS⟩ : ∃ PS, twosT (strandsG b.data.toList) = PS := ⟨_, rfl⟩
    obtain ⟨ES, hES⟩ : ∃ ES, (strandsG e.data.toList).map num0 = ES := ⟨_, rfl⟩
    obtain ⟨AL, hAL⟩ : ∃ AL, num0 n.data.toList = AL := ⟨_, rfl⟩
    simp only [hPS] at cb
    simp only [hES] at ce
    simp only [hAL] at cn
    go_wp2_with fail
    refine St.wp_region_mixed (R10 w5 PS ES (fun v1 v2 => ⟨d, .slice hA d.ms.length ha, PS, v1, zs2, .slice jC zs2.length jc, (m.toList == [49]), ES, v2, AL⟩)) (fun i z => match i with | 4 => ∃ A n c, z = .slice A n c | 13 => ∃ A n c, z = .slice A n c | _ => z = .int .i64 AL) (by kernel_rfl) (by kernel_rfl) (by kernel_rfl) ⟨fun _ => (Below.refl _ _).drew, fun _ h => (by cases h), fun _ h => (by cases h), fun _ h => (by cases h), fun h => (by cases h)⟩ ?_
    iterate 4
     (apply St.mix_give
      ·rfl
      ·intro L u' wx hS hcl hrd hag
       have hb := hS.a (St.not_yet hcl hrd 40 20 (by kernel_rfl))
       obtain ⟨y1, y3, y4, y5⟩ := hq wx hb
       obtain ⟨x0, ⟨x1, x2, x3, x4, x5, x6⟩, x7⟩ := hX wx hb
       go_simp
       try with_reducible rfl
      ·exact fun L u' wx hS => ⟨hS.a, hS.p, hS.e, hS.x, hS.z⟩
      simp only [Act.put, St.pu])
    refine St.mix_call (f := 125) (args := #[.string b]) rfl ?_ ?_ ?_
    ·intro wx
     go_simp
     try with_reducible rfl
    ·intro L u' wx hS hcl hrd hag
     have n20 := St.not_yet hcl hrd 40 20 (by kernel_rfl)
     have hb := hS.a n20
     refine (cb wx hb).mono ?_
     rintro e' w' ⟨v, rfl, ho, hb'⟩
     obtain ⟨vA, vc, hv⟩ := (SP.of_own ho).form
     refine ⟨v, rfl, ⟨_, _, _, hv⟩, ⟨fun _ => hb.trans (hb'.mono hb.size), ?_, ?_, fun h0 h1 => ?_, fun h' => ?_⟩⟩
     ·exact fun _ _ => ownsRow_base ho hb.size
     ·exact fun h0 h1 => ownsRow_below (hS.e h0 h1) hb'
     ·obtain ⟨n', e1, e2, e3⟩ := hS.x h0 h1
      exact ⟨n', e1, e2, e3.keep hb'⟩
     ·rw [show St.mark L 4 20 = L 20 from rfl, n20] at h'; cases h'
    rintro y4 ⟨v4A, v4n, v4c, rfl⟩
    simp only [Act.put, St.pu]
    iterate 8
     (apply St.mix_give
      ·rfl
      ·intro L u' wx hS hcl hrd hag
       have hb := hS.a (St.not_yet hcl hrd 40 20 (by kernel_rfl))
       obtain ⟨y1, y3, y4, y5⟩ := hq wx hb
       go_simp
       try with_reducible rfl
      ·exact fun L u' wx hS => ⟨hS.a, hS.p, hS.e, hS.x, hS.z⟩
      simp only [Act.put, St.pu])
    refine St.mix_call (f := 126) (args := #[.string e]) rfl ?_ ?_ ?_
    ·intro wx
     go_simp
     try with_reducible rfl
    ·intro L u' wx hS hcl hrd hag
     have n20 := St.not_yet hcl hrd 40 20 (by kernel_rfl)
     have hb := hS.a n20
     refine (ce wx hb).mono ?_
     rintro e' w' ⟨v, rfl, ho, hb'⟩
     obtain ⟨vA, vc, hv⟩ := (SI.of_own ho).form
     refine ⟨v, rfl, ⟨_, _, _, hv⟩, ⟨fun _ => hb.trans (hb'.mono hb.size), ?_, ?_, fun h0 h1 => ?_, fun h' => ?_⟩⟩
     ·exact fun h0 h1 => ownsRow_below (hS.p h0 h1) hb'
     ·exact fun _ _ => ownsRow_base ho hb.size
     ·obtain ⟨n', e1, e2, e3⟩ := hS.x h0 h1
      exact ⟨n', e1, e2, e3.keep hb'⟩
     ·rw [show St.mark L 13 20 = L 20 from rfl, n20] at h'; cases h'
    rintro y13 ⟨v13A, v13n, v13c, rfl⟩
    simp only [Act.put, St.pu]
    iterate 3
     (apply St.mix_give
      ·rfl
      ·intro L u' wx hS hcl hrd hag
       have hb := hS.a (St.not_yet hcl hrd 40 20 (by kernel_rfl))
       obtain ⟨y1, y3, y4, y5⟩ := hq wx hb
       go_simp
       try with_reducible rfl
      ·exact fun L u' wx hS => ⟨hS.a, hS.p, hS.e, hS.x, hS.z⟩
      simp only [Act.put, St.pu])
    refine St.mix_into (v := .int .i64 AL) (f := 127) (args := #[.string n]) rfl rfl ?_ ?_ ?_
    ·intro wx
     go_simp
     try with_reducible rfl
    ·intro L u' wx hS hcl hrd hag
     have n20 := St.not_yet hcl hrd 40 20 (by kernel_rfl)
     have hb := hS.a n20
     refine (cn wx hb).mono ?_
     rintro e' w' ⟨rfl, hb'⟩
     refine ⟨rfl, ⟨fun _ => hb.trans (hb'.mono hb.size), fun h0 h1 => ownsRow_below (hS.p h0 h1) hb', fun h0 h1 => ownsRow_below (hS.e h0 h1) hb', fun h0 h1 => ?_, fun h' => ?_⟩⟩
     ·obtain ⟨n', e1, e2, e3⟩ := hS.x h0 h1
      exact ⟨n', e1, e2, e3.keep hb'⟩
     ·rw [show St.mark L 17 20 = L 20 from rfl, n20] at h'; cases h'
    simp only [Act.put, St.pu]
    iterate 1
     (apply St.mix_give
      ·rfl
      ·intro L u' wx hS hcl hrd hag
       have hb := hS.a (St.not_yet hcl hrd 40 20 (by kernel_rfl))
       obtain ⟨y1, y3, y4, y5⟩ := hq wx hb
       go_simp
       try with_reducible rfl
      ·exact fun L u' wx hS => ⟨hS.a, hS.p, hS.e, hS.x, hS.z⟩
      simp only [Act.put, St.pu])
    refine St.mix_free (fun x => ∃ n, x = ptr n) rfl ?_ ?_
    ·intro L u' wx hS hcl hrd hag
     have n20 := St.not_yet hcl hrd 40 20 (by kernel_rfl)
     have hb := hS.a n20
     have hb' : Below wx.heap.size wx (wx.alloc (.cells #[.int .i64 0, .string ⟨#[]⟩, .string ⟨#[]⟩, .int .i64 0, .slice none 0 0, .int .i64 0, .slice none 0 0, .slice none 0 0, .bool false, .slice none 0 0, .int .i64 0] 38)) := (Below.refl _ wx).alloc (Nat.le_refl _) _
     refine ⟨_, _, ⟨wx.heap.size, rfl⟩, ?_, ⟨fun _ => hb.trans (hb'.mono hb.size), fun h0 h1 => ownsRow_below (hS.p h0 h1) hb', fun h0 h1 => ownsRow_below (hS.e h0 h1) hb', fun _ _ => ⟨wx.heap.size, rfl, hb.size, ZE.new wx⟩, fun h' => ?_⟩⟩
     rotate_left
     ·rw [show St.mark L 19 20 = L 20 from rfl, n20] at h'; cases h'
     go_simp
     try with_reducible rfl
    rintro y' ⟨n8, rfl⟩
    simp only [Act.put, St.pu]
    refine St.mix_skip rfl ?_ ?_
    ·intro L u' wx hS hcl hrd hag
     have u4 : u' 4 = .slice v4A v4n v4c := hag 40 4 (by kernel_rfl)
     have u13 : u' 13 = .slice v13A v13n v13c := hag 40 13 (by kernel_rfl)
     have u19 : u' 19 = ptr n8 := hag 40 19 (by kernel_rfl)
     have d4 := St.before_ready hcl hrd 40 4 (by kernel_rfl)
     have d13 := St.before_ready hcl hrd 40 13 (by kernel_rfl)
     have d19 := St.before_ready hcl hrd 40 19 (by kernel_rfl)
     obtain ⟨n', e1, e2, e3⟩ := hS.x hrd.1 d19
     obtain rfl := ptr_inj (e1.symm.trans u19)
     obtain ⟨j0, ⟨j1, j2, j3, j4, j5, j6, j7, j8, j9, j10, j11⟩, j12⟩ := BoxP.of_ze e3
     refine ⟨putW wx n' ⟨d, .slice hA d.ms.length ha, PS, .slice v4A v4n v4c, zs2, .slice jC zs2.length jc, (m.toList == [49]), ES, .slice v13A v13n v13c, AL⟩, ?_, ⟨fun h' => (by simp [St.mark] at h'), fun h' => (by simp [St.mark] at h'), fun h' => (by simp [St.mark] at h'), fun h' => (by simp [St.mark] at h'), fun _ => ⟨wx, n', u19, e2, e3, hS.a hrd.1, hS.p hrd.1 d4, hS.e hrd.1 d13, ?_⟩⟩⟩
     ·unfold putW
      go_simp
      try with_reducible rfl
     ·rw [show St.upd u' 20 undef 4 = u' 4 from rfl, show St.upd u' 20 undef 13 = u' 13 from rfl, u4, u13]
    simp only [Act.put]
    refine St.mix_last ?_
    intro L5 wx hS hall
    obtain ⟨wy, n9, e9, hn9, zey, hby, hpy, hey, hwx⟩ := hS.z (hall 20 (by decide))
    obtain rfl : n8 = n9 := ptr_inj (show ptr n8 = ptr n9 from e9)
    have hpy' : OwnP wy w5.heap.size (.slice v4A v4n v4c) PS := hpy
    have hey' : OwnI wy w5.heap.size (.slice v13A v13n v13c) ES := hey
    have hwx' : wx = putW wy n8 ⟨d, .slice hA d.ms.length ha, PS, .slice v4A v4n v4c, zs2, .slice jC zs2.length jc, (m.toList == [49]), ES, .slice v13A v13n v13c, AL⟩ := hwx
    clear hS hall e9 hpy hey hwx cb ce cn hq hX gd
    obtain ⟨o, ho⟩ : ∃ o : Ph, o = ⟨d, .slice hA d.ms.length ha, PS, .slice v4A v4n v4c, zs2, .slice jC zs2.length jc, (m.toList == [49]), ES, .slice v13A v13n v13c, AL⟩ := ⟨_, rfl⟩
    have HAx : HA wx o := by
     rw [hwx', ho]
     exact ⟨argM_put (a4'.keep hby) zey _, .of_own (ownsRow_put hpy' zey (by decide) _), argZ_put (a5.keep hby) zey _, n5, .of_own (ownsRow_put hey' zey (by decide) _), .own hpy', .own hey'⟩
    have HPx : OwnP wx w5.heap.size (.slice v4A v4n v4c) PS := by rw [hwx']; exact ownsRow_put hpy' zey (by decide) _
    have HEx : OwnI wx w5.heap.size (.slice v13A v13n v13c) ES := by rw [hwx']; exact ownsRow_put hey' zey (by decide) _
    have Bx : BoxP n8 o wx := by rw [hwx', ho]; exact BoxP.put (BoxP.of_ze zey) _
    have hbx : Below w5.heap.size w5 wx := by rw [hwx']; exact putW_below _ hn9 hby
    have FT : FitP o := by
     rw [ho, <- hPS, <- hES]
     exact read_fit hisd (by rw [HZS.out]; exact hiss) (by omega) (by omega) _ _ _ _ _ _
    have hpl : o.pl = ⟨d, PS, zl, decide (m.data.toList = [49]), ES, AL⟩ := by
     rw [ho]
     unfold Ph.pl
     simp only
     rw [HZS.out]
     have : (m.toList == [49]) = decide (m.data.toList = [49]) := by
      rw [ByteArray.toList_eq, Bool.eq_iff_iff]
      simp
     rw [this]
    have hlen : o.ps.length <= 1700 := by rw [ho, <- hPS]; exact read_pairs (by omega)
    have hr := HR.out
    simp only [if_true, hPS, hES, hAL] at hr
    rw [<- hpl] at hr
    have HR := Lib.hid hr
    have ZEx := ZE5.keep hbx
    have hbwx : Below w.heap.size w wx := hb5.trans (hbx.mono (by omega))
    have cc := check_any o wx HAx.hp FT
    have hzx := hbwx.size
    clear hr hwx' zey hby hpy' hey' a4' a5 hpl hPS hES hAL FT HZS ZE5 hbx b25 hn9
    by_cases hip : isP o.pl = true
    ·rw [show chkP o.pl = 0 from if_pos hip] at cc
     have FTT := isP_fitT hip hlen
     have cput := fun wz (hb : Below wx.heap.size wx wz) => put_any o wz (HAx.keep hb).hp FTT
     obtain ⟨T, hT⟩ : ∃ T : ByteArray, T = ⟨(putP o.pl).toArray⟩ := ⟨_, rfl⟩
     have hstr : str (putP o.pl) = .string T := by rw [hT]
     simp only [hstr] at cput
     have hTd : T.data.toList = putP o.pl := by rw [hT]
     by_cases hTs : T = s
     ·have HR2 : Hid (ans = (o.pl, 0)) := Lib.hid (by rw [<- HR.out]; exact if_pos ⟨hip, by rw [<- hTd, hTs]⟩)
      rw [hTs] at cput
      have HPL : Hid (o.pl = Ph.pl ⟨d, .slice hA d.ms.length ha, PS, .slice v4A v4n v4c, zs2, .slice jC zs2.length jc, (m.toList == [49]), ES, .slice v13A v13n v13c, AL⟩) := Lib.hid (by rw [ho])
      rw [HPL.out] at HR2
      subst ho
      obtain ⟨p_0, ⟨p_1, p_2, p_3, p_4, p_5, p_6, p_7, p_8, p_9, p_10, p_11⟩, p_12⟩ := _root_.id Bx
      clear hip hT hstr hTd hTs hlen FTT
      go_wp2_with fail
      refine cc.mono ?_
      rintro e' w6 ⟨rfl, b6⟩
      have B6 := Bx.keep b6
      ((try clear p_0); (try clear p_1); (try clear p_2); (try clear p_3); (try clear p_4); (try clear p_5); (try clear p_6); (try clear p_7); (try clear p_8); (try clear p_9); (try clear p_10); (try clear p_11); (try clear p_12))
      obtain ⟨p_0, ⟨p_1, p_2, p_3, p_4, p_5, p_6, p_7, p_8, p_9, p_10, p_11⟩, p_12⟩ := _root_.id B6
      go_wp2_with fail
      refine (cput w6 b6).mono ?_
      rintro e' w7 ⟨rfl, b7⟩
      have B7 := B6.keep b7
      have ZE7 := (ZEx.keep b6).keep b7
      have HA7 := (HAx.keep b6).keep b7
      have hz6 := b6.size
      have hz7 := b7.size
      have hb7 : Below w.heap.size w w7 := (hbwx.trans (b6.mono (by omega))).trans (b7.mono (by omega))
      have F : BoxP w.heap.size ⟨d, .slice hA d.ms.length ha, PS, .slice v4A v4n v4c, zs2, .slice jC zs2.length jc, (m.toList == [49]), ES, .slice v13A v13n v13c, AL⟩ (putW w7 w.heap.size ⟨d, .slice hA d.ms.length ha, PS, .slice v4A v4n v4c, zs2, .slice jC zs2.length jc, (m.toList == [49]), ES, .slice v13A v13n v13c, AL⟩) := BoxP.put (BoxP.of_ze ZE7) _
      have FB : Below w.heap.size w (putW w7 w.heap.size ⟨d, .slice hA d.ms.length ha, PS, .slice v4A v4n v4c, zs2, .slice jC zs2.length jc, (m.toList == [49]), ES, .slice v13A v13n v13c, AL⟩) := putW_below _ (Nat.le_refl _) hb7
      have Z7 := BoxP.of_ze ZE7
      ((try clear p_0); (try clear p_1); (try clear p_2); (try clear p_3); (try clear p_4); (try clear p_5); (try clear p_6); (try clear p_7); (try clear p_8); (try clear p_9); (try clear p_10); (try clear p_11); (try clear p_12))
      obtain ⟨p_0, ⟨p_1, p_2, p_3, p_4, p_5, p_6, p_7, p_8, p_9, p_10, p_11⟩, p_12⟩ := _root_.id B7
      obtain ⟨q_0, ⟨q_1, q_2, q_3, q_4, q_5, q_6, q_7, q_8, q_9, q_10, q_11⟩, q_12⟩ := _root_.id Z7
      have FA : HA (putW w7 w.heap.size ⟨d, .slice hA d.ms.length ha, PS, .slice v4A v4n v4c, zs2, .slice jC zs2.length jc, (m.toList == [49]), ES, .slice v13A v13n v13c, AL⟩) ⟨d, .slice hA d.ms.length ha, PS, .slice v4A v4n v4c, zs2, .slice jC zs2.length jc, (m.toList == [49]), ES, .slice v13A v13n v13c, AL⟩ := ⟨argM_put HA7.sm ZE7 _, .of_own (putW_own _ (by omega) (ownsRow_below (ownsRow_below HPx b6) b7)), argZ_put HA7.sz ZE7 _, n5, .of_own (putW_own _ (by omega) (ownsRow_below (ownsRow_below HEx b6) b7)), .own HPx, .own HEx⟩
      clear b6 b7 B6 HPx HEx HA7 HAx ZE7
      go_wp2_with fail
      exact bodyPost_ret (res_BoxP_tmp Tryz.results62 rfl rfl F) rfl (by rw [HR2.out]; exact ⟨_, rfl, rfl, FA, FB⟩)
     ·have HR2 : Hid (ans = (Pl.zero, 90)) := Lib.hid (by
       rw [<- HR.out]
       refine if_neg fun h => hTs ?_
       have h2 : T.data.toList = s.data.toList := hTd.trans h.2
       rw [<- Ds.ba_data T, h2, Ds.ba_data])
      have e1 : (T.toList == s.toList) = false := by
       rw [beq_eq_false_iff_ne]
       exact fun h => hTs (Ds.ba_ext h)
      have e2 : (T.toList != s.toList) = true := by rw [bne, e1]; rfl
      subst ho
      obtain ⟨p_0, ⟨p_1, p_2, p_3, p_4, p_5, p_6, p_7, p_8, p_9, p_10, p_11⟩, p_12⟩ := _root_.id Bx
      clear hip hT hstr hTd hTs hlen FTT
      go_wp2_with fail
      refine cc.mono ?_
      rintro e' w6 ⟨rfl, b6⟩
      have B6 := Bx.keep b6
      ((try clear p_0); (try clear p_1); (try clear p_2); (try clear p_3); (try clear p_4); (try clear p_5); (try clear p_6); (try clear p_7); (try clear p_8); (try clear p_9); (try clear p_10); (try clear p_11); (try clear p_12))
      obtain ⟨p_0, ⟨p_1, p_2, p_3, p_4, p_5, p_6, p_7, p_8, p_9, p_10, p_11⟩, p_12⟩ := _root_.id B6
      go_wp2_with fail
      refine (cput w6 b6).mono ?_
      rintro e' w7 ⟨rfl, b7⟩
      have ZE7 := (ZEx.keep b6).keep b7
      have hz6 := b6.size
      have hb7 : Below w.heap.size w w7 := (hbwx.trans (b6.mono (by omega))).trans (b7.mono (by omega))
      obtain ⟨F, FB⟩ := bad w7 ZE7 hb7
      have Z7 := BoxP.of_ze ZE7
      ((try clear p_0); (try clear p_1); (try clear p_2); (try clear p_3); (try clear p_4); (try clear p_5); (try clear p_6); (try clear p_7); (try clear p_8); (try clear p_9); (try clear p_10); (try clear p_11); (try clear p_12))
      obtain ⟨q_0, ⟨q_1, q_2, q_3, q_4, q_5, q_6, q_7, q_8, q_9, q_10, q_11⟩, q_12⟩ := _root_.id Z7
      clear b6 b7 B6
      go_wp2_with fail
      exact bodyPost_ret (res_BoxP_tmp Tryz.results62 rfl rfl F) rfl (by rw [HR2.out]; exact GaveP.zero FB)
    ·rw [show chkP o.pl = 90 from if_neg hip] at cc
     have HR2 : Hid (ans = (Pl.zero, 90)) := Lib.hid (by rw [<- HR.out]; exact if_neg fun h => hip h.1)
     subst ho
     obtain ⟨p_0, ⟨p_1, p_2, p_3, p_4, p_5, p_6, p_7, p_8, p_9, p_10, p_11⟩, p_12⟩ := _root_.id Bx
     clear hip hlen
     go_wp2_with fail
     refine cc.mono ?_
     rintro e' w6 ⟨rfl, b6⟩
     have ZE6 := ZEx.keep b6
     have hb6 : Below w.heap.size w w6 := hbwx.trans (b6.mono (by omega))
     obtain ⟨F, FB⟩ := bad w6 ZE6 hb6
     have Z6 := BoxP.of_ze ZE6
     ((try clear p_0); (try clear p_1); (try clear p_2); (try clear p_3); (try clear p_4); (try clear p_5); (try clear p_6); (try clear p_7); (try clear p_8); (try clear p_9); (try clear p_10); (try clear p_11); (try clear p_12))
     obtain ⟨q_0, ⟨q_1, q_2, q_3, q_4, q_5, q_6, q_7, q_8, q_9, q_10, q_11⟩, q_12⟩ := _root_.id Z6
     clear b6
     go_wp2_with fail
     exact bodyPost_ret (res_BoxP_tmp Tryz.results62 rfl rfl F) rfl (by rw [HR2.out]; exact GaveP.zero FB)
end Go.Proofs.YthcmnkmfhgoddaaGreatDoor.Dp

/-
 The law's own plot: each list appended to an empty one. Conditions: at most 1000 members, 100,000 pairs, sessions, eaten.
-/
import Derived.Test.YthcmnkmfhgoddaaGreatDoorKDpOA
import Derived.Test.YthcmnkmfhgoddaaGreatDoorKDsLiftA
import Derived.Test.YthcmnkmfhgoddaaGreatDoorKDpRfA
namespace Go.Proofs.YthcmnkmfhgoddaaGreatDoor.Dp
open Go.RowKit Bnd
open Go.Proofs.YthcmnkmfhgoddaaGreatDoor.Ds (De SM OwnI OwnM ArgM)
open Go.Proofs.YthcmnkmfhgoddaaGreatDoor.Ss (Ses Zs ses SZ PZ NoP OwnZ ArgZ)
open Go.Proofs.YthcmnkmfhgoddaaGreatDoor.Od (Pr SP OwnP ArgP)
set_option maxHeartbeats 16000000 in
set_option maxRecDepth 100000 in
theorem lown_any (o : Ph) (w : World) (h : HA w o) (l1 : o.d.ms.length <= 1000) (l2 : o.ps.length <= 100000) (l3 : o.zs.length <= 100000) (l4 : o.ea.length <= 100000) :
  Calls Tryz.prog 25 #[qv o] w fun e w' => ∃ o', e = .returned (qv o') /\ o'.pl = o.pl /\ HA w' o' /\ Below w.heap.size w w' := by
 obtain ⟨d, sm, ps, sp, zs, sz, fr, ea, se, al⟩ := o
 obtain ⟨h1, h2, h3, h4, h5, _, _⟩ := h
 simp only at h1 h2 h3 h4 h5 l1 l2 l3 l4
 obtain ⟨fA, fa, rfl⟩ := h1.form
 obtain ⟨fB, fb, rfl⟩ := h2.sm.form
 obtain ⟨fC, fc, rfl⟩ := h3.form
 obtain ⟨fD, fd, rfl⟩ := h5.si.form
 have hone : ∀ z ∈ zs, z.2.oneCell' = true := fun z hz => by obtain ⟨_, A, c, e⟩ := h4 z hz; rw [e]; rfl
 obtain ⟨V0, hV0⟩ : ∃ V0, (w.alloc (.cells #[.int .i64 d.id, .string d.f, .string d.t, .int .i64 d.gen, .slice fA d.ms.length fa, .int .i64 d.next, .slice fB ps.length fb, .slice fC zs.length fc, .bool fr, .slice fD ea.length fd, .int .i64 al] 38)).alloc (.cells #[.int .i64 0, .string ⟨#[]⟩, .string ⟨#[]⟩, .int .i64 0, .slice none 0 0, .int .i64 0, .slice none 0 0, .slice none 0 0, .bool false, .slice none 0 0, .int .i64 0] 38) = V0 := ⟨_, rfl⟩
 have B0 : BoxP w.heap.size ⟨d, .slice fA d.ms.length fa, ps, .slice fB ps.length fb, zs, .slice fC zs.length fc, fr, ea, .slice fD ea.length fd, al⟩ V0 := hV0 ▸ (BoxP.new w ⟨d, .slice fA d.ms.length fa, ps, .slice fB ps.length fb, zs, .slice fC zs.length fc, fr, ea, .slice fD ea.length fd, al⟩).alloc _
 have Z0 : BoxP (w.heap.size + 1) Ph.zero V0 := by
  have := BoxP.zero (w.alloc (.cells #[.int .i64 d.id, .string d.f, .string d.t, .int .i64 d.gen, .slice fA d.ms.length fa, .int .i64 d.next, .slice fB ps.length fb, .slice fC zs.length fc, .bool fr, .slice fD ea.length fd, .int .i64 al] 38))
  rw [hV0, World.size_alloc] at this
  exact this
 have hz0 : w.heap.size + 2 <= V0.heap.size := by rw [<- hV0]; simp
 have hb0 : Below w.heap.size w V0 := by rw [<- hV0]; exact ((Below.refl _ w).alloc (Nat.le_refl _) _).alloc (by simp) _
 go_enter Tryz.func25, Tryz.ntmps25
 obtain ⟨p_0, ⟨p_1, p_2, p_3, p_4, p_5, p_6, p_7, p_8, p_9, p_10, p_11⟩, p_12⟩ := _root_.id B0
 go_wp2_with (first | rw [hV0] | (at_builtin; refine Ds.wpList_append_ms rfl _ _ rfl V0.heap.size _ [] rfl (Ds.own_empty V0) (by simp) _ d.ms rfl (h1.keep (hb0.alloc (by omega) _)) (by simp; omega) ?_))
 ((try clear p_0); (try clear p_1); (try clear p_2); (try clear p_3); (try clear p_4); (try clear p_5); (try clear p_6); (try clear p_7); (try clear p_8); (try clear p_9); (try clear p_10); (try clear p_11); (try clear p_12))
 intro v' w1 hown hbn _
 obtain ⟨A1, a1, rfl⟩ := (SM.of_own hown).form
 have hbv : Below V0.heap.size V0 w1 := ((Below.refl _ V0).alloc (Nat.le_refl _) _).trans hbn
 have C1 := B0.keep hbv
 have Y1 := Z0.keep hbv
 have hzz := hbv.size
 obtain ⟨V1, hV1⟩ : ∃ V1, w1.setCell ⟨w.heap.size, 4, none⟩ (.slice A1 d.ms.length a1) = V1 := ⟨_, rfl⟩
 have B1 : BoxP w.heap.size ⟨d, .slice A1 d.ms.length a1, ps, .slice fB ps.length fb, zs, .slice fC zs.length fc, fr, ea, .slice fD ea.length fd, al⟩ V1 := hV1 ▸ BoxP.set4 C1 (.slice A1 d.ms.length a1)
 have Z1 : BoxP (w.heap.size + 1) Ph.zero V1 := hV1 ▸ Y1.other (by simp) (.slice A1 d.ms.length a1)
 have hz1 : w.heap.size + 2 <= V1.heap.size := by rw [<- hV1]; simp; omega
 have hb1 : Below w.heap.size w V1 := hV1 ▸ (hb0.trans (hbv.mono (by omega))).setCell (p := ⟨w.heap.size, 4, none⟩) (Nat.le_refl _) _
 have R1 : OwnM V1 (w.heap.size + 2) (.slice A1 d.ms.length a1) d.ms := hV1 ▸ ownsRow_setCell_below (ownsRow_base hown hz0) (a := ⟨w.heap.size, 4, none⟩) (by show w.heap.size < _; omega) _
 obtain ⟨p_0, ⟨p_1, p_2, p_3, p_4, p_5, p_6, p_7, p_8, p_9, p_10, p_11⟩, p_12⟩ := _root_.id C1
 obtain ⟨q_0, ⟨q_1, q_2, q_3, q_4, q_5, q_6, q_7, q_8, q_9, q_10, q_11⟩, q_12⟩ := _root_.id B1
 clear hown hbn hV0 B0 Z0 Y1 hzz hbv
 go_wp2_with (first | rw [hV1] | (at_builtin; refine Od.wpList_append_ps rfl _ _ rfl V1.heap.size _ [] rfl (Od.own_empty V1) (by simp) _ ps rfl (h2.keep (hb1.alloc (by omega) _)) (by simp; omega) ?_))
 ((try clear p_0); (try clear p_1); (try clear p_2); (try clear p_3); (try clear p_4); (try clear p_5); (try clear p_6); (try clear p_7); (try clear p_8); (try clear p_9); (try clear p_10); (try clear p_11); (try clear p_12))
 ((try clear q_0); (try clear q_1); (try clear q_2); (try clear q_3); (try clear q_4); (try clear q_5); (try clear q_6); (try clear q_7); (try clear q_8); (try clear q_9); (try clear q_10); (try clear q_11); (try clear q_12))
 intro v' w2 hown hbn _
 obtain ⟨A2, a2, rfl⟩ := (SP.of_own hown).form
 have hbv : Below V1.heap.size V1 w2 := ((Below.refl _ V1).alloc (Nat.le_refl _) _).trans hbn
 have C2 := B1.keep hbv
 have Y2 := Z1.keep hbv
 have hzz := hbv.size
 obtain ⟨V2, hV2⟩ : ∃ V2, w2.setCell ⟨w.heap.size, 6, none⟩ (.slice A2 ps.length a2) = V2 := ⟨_, rfl⟩
 have B2 : BoxP w.heap.size ⟨d, .slice A1 d.ms.length a1, ps, .slice A2 ps.length a2, zs, .slice fC zs.length fc, fr, ea, .slice fD ea.length fd, al⟩ V2 := hV2 ▸ BoxP.set6 C2 (.slice A2 ps.length a2) ps
 have Z2 : BoxP (w.heap.size + 1) Ph.zero V2 := hV2 ▸ Y2.other (by simp) (.slice A2 ps.length a2)
 have hz2 : w.heap.size + 2 <= V2.heap.size := by rw [<- hV2]; simp; omega
 have hb2 : Below w.heap.size w V2 := hV2 ▸ (hb1.trans (hbv.mono (by omega))).setCell (p := ⟨w.heap.size, 6, none⟩) (Nat.le_refl _) _
 have R1 : OwnM V2 (w.heap.size + 2) (.slice A1 d.ms.length a1) d.ms := hV2 ▸ ownsRow_setCell_below (ownsRow_below R1 hbv) (a := ⟨w.heap.size, 6, none⟩) (by show w.heap.size < _; omega) _
 have R2 : OwnP V2 (w.heap.size + 2) (.slice A2 ps.length a2) ps := hV2 ▸ ownsRow_setCell_below (ownsRow_base hown hz1) (a := ⟨w.heap.size, 6, none⟩) (by show w.heap.size < _; omega) _
 obtain ⟨p_0, ⟨p_1, p_2, p_3, p_4, p_5, p_6, p_7, p_8, p_9, p_10, p_11⟩, p_12⟩ := _root_.id C2
 obtain ⟨q_0, ⟨q_1, q_2, q_3, q_4, q_5, q_6, q_7, q_8, q_9, q_10, q_11⟩, q_12⟩ := _root_.id B2
 clear hown hbn hV1 B1 Z1 Y2 hzz hbv
 go_wp2_with (first | rw [hV2] | (at_builtin; refine Ss.wpList_append_zs rfl _ _ rfl V2.heap.size _ [] rfl (Ss.ownZ_empty V2) (by simp) _ zs rfl (h3.keep (hb2.alloc (by omega) _)) hone (by simp; omega) ?_))
 ((try clear p_0); (try clear p_1); (try clear p_2); (try clear p_3); (try clear p_4); (try clear p_5); (try clear p_6); (try clear p_7); (try clear p_8); (try clear p_9); (try clear p_10); (try clear p_11); (try clear p_12))
 ((try clear q_0); (try clear q_1); (try clear q_2); (try clear q_3); (try clear q_4); (try clear q_5); (try clear q_6); (try clear q_7); (try clear q_8); (try clear q_9); (try clear q_10); (try clear q_11); (try clear q_12))
 intro v' w3 hown hbn _
 obtain ⟨A3, a3, rfl⟩ := (SZ.of_own hown).form
 have hbv : Below V2.heap.size V2 w3 := ((Below.refl _ V2).alloc (Nat.le_refl _) _).trans hbn
 have C3 := B2.keep hbv
 have Y3 := Z2.keep hbv
 have hzz := hbv.size
 obtain ⟨V3, hV3⟩ : ∃ V3, w3.setCell ⟨w.heap.size, 7, none⟩ (.slice A3 zs.length a3) = V3 := ⟨_, rfl⟩
 have B3 : BoxP w.heap.size ⟨d, .slice A1 d.ms.length a1, ps, .slice A2 ps.length a2, zs, .slice A3 zs.length a3, fr, ea, .slice fD ea.length fd, al⟩ V3 := hV3 ▸ BoxP.set7 C3 (.slice A3 zs.length a3) zs
 have Z3 : BoxP (w.heap.size + 1) Ph.zero V3 := hV3 ▸ Y3.other (by simp) (.slice A3 zs.length a3)
 have hz3 : w.heap.size + 2 <= V3.heap.size := by rw [<- hV3]; simp; omega
 have hb3 : Below w.heap.size w V3 := hV3 ▸ (hb2.trans (hbv.mono (by omega))).setCell (p := ⟨w.heap.size, 7, none⟩) (Nat.le_refl _) _
 have R1 : OwnM V3 (w.heap.size + 2) (.slice A1 d.ms.length a1) d.ms := hV3 ▸ ownsRow_setCell_below (ownsRow_below R1 hbv) (a := ⟨w.heap.size, 7, none⟩) (by show w.heap.size < _; omega) _
 have R2 : OwnP V3 (w.heap.size + 2) (.slice A2 ps.length a2) ps := hV3 ▸ ownsRow_setCell_below (ownsRow_below R2 hbv) (a := ⟨w.heap.size, 7, none⟩) (by show w.heap.size < _; omega) _
 have R3 : OwnZ V3 (w.heap.size + 2) (.slice A3 zs.length a3) zs := hV3 ▸ ownsRow_setCell_below (ownsRow_base hown hz2) (a := ⟨w.heap.size, 7, none⟩) (by show w.heap.size < _; omega) _
 obtain ⟨p_0, ⟨p_1, p_2, p_3, p_4, p_5, p_6, p_7, p_8, p_9, p_10, p_11⟩, p_12⟩ := _root_.id C3
 obtain ⟨q_0, ⟨q_1, q_2, q_3, q_4, q_5, q_6, q_7, q_8, q_9, q_10, q_11⟩, q_12⟩ := _root_.id B3
 clear hown hbn hV2 B2 Z2 Y3 hzz hbv
 go_wp2_with (first | rw [hV3] | (at_builtin; refine wpList_append_ints rfl _ _ rfl V3.heap.size _ [] rfl (ownI_empty V3) (by simp) _ ea rfl (h5.keep (hb3.alloc (by omega) _)) (by simp; omega) ?_))
 ((try clear p_0); (try clear p_1); (try clear p_2); (try clear p_3); (try clear p_4); (try clear p_5); (try clear p_6); (try clear p_7); (try clear p_8); (try clear p_9); (try clear p_10); (try clear p_11); (try clear p_12))
 ((try clear q_0); (try clear q_1); (try clear q_2); (try clear q_3); (try clear q_4); (try clear q_5); (try clear q_6); (try clear q_7); (try clear q_8); (try clear q_9); (try clear q_10); (try clear q_11); (try clear q_12))
 intro v' w4 hown hbn _
 obtain ⟨A4, a4, rfl⟩ := (SI.of_own hown).form
 have hbv : Below V3.heap.size V3 w4 := ((Below.refl _ V3).alloc (Nat.le_refl _) _).trans hbn
 have C4 := B3.keep hbv
 have Y4 := Z3.keep hbv
 have hzz := hbv.size
 obtain ⟨V4, hV4⟩ : ∃ V4, w4.setCell ⟨w.heap.size, 9, none⟩ (.slice A4 ea.length a4) = V4 := ⟨_, rfl⟩
 have B4 : BoxP w.heap.size ⟨d, .slice A1 d.ms.length a1, ps, .slice A2 ps.length a2, zs, .slice A3 zs.length a3, fr, ea, .slice A4 ea.length a4, al⟩ V4 := hV4 ▸ BoxP.set9 C4 (.slice A4 ea.length a4) ea
 have Z4 : BoxP (w.heap.size + 1) Ph.zero V4 := hV4 ▸ Y4.other (by simp) (.slice A4 ea.length a4)
 have hz4 : w.heap.size + 2 <= V4.heap.size := by rw [<- hV4]; simp; omega
 have hb4 : Below w.heap.size w V4 := hV4 ▸ (hb3.trans (hbv.mono (by omega))).setCell (p := ⟨w.heap.size, 9, none⟩) (Nat.le_refl _) _
 have R1 : OwnM V4 (w.heap.size + 2) (.slice A1 d.ms.length a1) d.ms := hV4 ▸ ownsRow_setCell_below (ownsRow_below R1 hbv) (a := ⟨w.heap.size, 9, none⟩) (by show w.heap.size < _; omega) _
 have R2 : OwnP V4 (w.heap.size + 2) (.slice A2 ps.length a2) ps := hV4 ▸ ownsRow_setCell_below (ownsRow_below R2 hbv) (a := ⟨w.heap.size, 9, none⟩) (by show w.heap.size < _; omega) _
 have R3 : OwnZ V4 (w.heap.size + 2) (.slice A3 zs.length a3) zs := hV4 ▸ ownsRow_setCell_below (ownsRow_below R3 hbv) (a := ⟨w.heap.size, 9, none⟩) (by show w.heap.size < _; omega) _
 have R4 : OwnI V4 (w.heap.size + 2) (.slice A4 ea.length a4) ea := hV4 ▸ ownsRow_setCell_below (ownsRow_base hown hz3) (a := ⟨w.heap.size, 9, none⟩) (by show w.heap.size < _; omega) _
 obtain ⟨p_0, ⟨p_1, p_2, p_3, p_4, p_5, p_6, p_7, p_8, p_9, p_10, p_11⟩, p_12⟩ := _root_.id C4
 obtain ⟨q_0, ⟨q_1, q_2, q_3, q_4, q_5, q_6, q_7, q_8, q_9, q_10, q_11⟩, q_12⟩ := _root_.id B4
 clear hown hbn hV3 B3 Z3 Y4 hzz hbv
 have F4 := Z4
 obtain ⟨r_0, ⟨r_1, r_2, r_3, r_4, r_5, r_6, r_7, r_8, r_9, r_10, r_11⟩, r_12⟩ := _root_.id F4
 go_wp2_with (rw [hV4])
 ((try clear p_0); (try clear p_1); (try clear p_2); (try clear p_3); (try clear p_4); (try clear p_5); (try clear p_6); (try clear p_7); (try clear p_8); (try clear p_9); (try clear p_10); (try clear p_11); (try clear p_12))
 ((try clear q_0); (try clear q_1); (try clear q_2); (try clear q_3); (try clear q_4); (try clear q_5); (try clear q_6); (try clear q_7); (try clear q_8); (try clear q_9); (try clear q_10); (try clear q_11); (try clear q_12))
 ((try clear r_0); (try clear r_1); (try clear r_2); (try clear r_3); (try clear r_4); (try clear r_5); (try clear r_6); (try clear r_7); (try clear r_8); (try clear r_9); (try clear r_10); (try clear r_11); (try clear r_12))
 have F1 : BoxP (w.heap.size + 1) ⟨d, .slice A1 d.ms.length a1, ps, .slice A2 ps.length a2, zs, .slice A3 zs.length a3, fr, ea, .slice A4 ea.length a4, al⟩ (putW V4 (w.heap.size + 1) ⟨d, .slice A1 d.ms.length a1, ps, .slice A2 ps.length a2, zs, .slice A3 zs.length a3, fr, ea, .slice A4 ea.length a4, al⟩) := BoxP.put Z4 ⟨d, .slice A1 d.ms.length a1, ps, .slice A2 ps.length a2, zs, .slice A3 zs.length a3, fr, ea, .slice A4 ea.length a4, al⟩
 have FB : Below w.heap.size w (putW V4 (w.heap.size + 1) ⟨d, .slice A1 d.ms.length a1, ps, .slice A2 ps.length a2, zs, .slice A3 zs.length a3, fr, ea, .slice A4 ea.length a4, al⟩) := putW_below ⟨d, .slice A1 d.ms.length a1, ps, .slice A2 ps.length a2, zs, .slice A3 zs.length a3, fr, ea, .slice A4 ea.length a4, al⟩ (by omega) hb4
 have S1 : OwnM (putW V4 (w.heap.size + 1) ⟨d, .slice A1 d.ms.length a1, ps, .slice A2 ps.length a2, zs, .slice A3 zs.length a3, fr, ea, .slice A4 ea.length a4, al⟩) (w.heap.size + 2) (.slice A1 d.ms.length a1) d.ms := putW_own ⟨d, .slice A1 d.ms.length a1, ps, .slice A2 ps.length a2, zs, .slice A3 zs.length a3, fr, ea, .slice A4 ea.length a4, al⟩ (by omega) R1
 have S2 : OwnP (putW V4 (w.heap.size + 1) ⟨d, .slice A1 d.ms.length a1, ps, .slice A2 ps.length a2, zs, .slice A3 zs.length a3, fr, ea, .slice A4 ea.length a4, al⟩) (w.heap.size + 2) (.slice A2 ps.length a2) ps := putW_own ⟨d, .slice A1 d.ms.length a1, ps, .slice A2 ps.length a2, zs, .slice A3 zs.length a3, fr, ea, .slice A4 ea.length a4, al⟩ (by omega) R2
 have S3 : OwnZ (putW V4 (w.heap.size + 1) ⟨d, .slice A1 d.ms.length a1, ps, .slice A2 ps.length a2, zs, .slice A3 zs.length a3, fr, ea, .slice A4 ea.length a4, al⟩) (w.heap.size + 2) (.slice A3 zs.length a3) zs := putW_own ⟨d, .slice A1 d.ms.length a1, ps, .slice A2 ps.length a2, zs, .slice A3 zs.length a3, fr, ea, .slice A4 ea.length a4, al⟩ (by omega) R3
 have S4 : OwnI (putW V4 (w.heap.size + 1) ⟨d, .slice A1 d.ms.length a1, ps, .slice A2 ps.length a2, zs, .slice A3 zs.length a3, fr, ea, .slice A4 ea.length a4, al⟩) (w.heap.size + 2) (.slice A4 ea.length a4) ea := putW_own ⟨d, .slice A1 d.ms.length a1, ps, .slice A2 ps.length a2, zs, .slice A3 zs.length a3, fr, ea, .slice A4 ea.length a4, al⟩ (by omega) R4
 exact bodyPost_ret (res_BoxP Tryz.results25 rfl F1) rfl ⟨_, rfl, rfl, ⟨.of_own S1, .of_own S2, .of_own S3, h4, .of_own S4, .own S2, .own S4⟩, FB⟩
end Go.Proofs.YthcmnkmfhgoddaaGreatDoor.Dp

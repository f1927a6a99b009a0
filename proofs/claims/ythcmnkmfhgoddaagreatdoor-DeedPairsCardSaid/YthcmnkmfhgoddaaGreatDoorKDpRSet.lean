/-
 Set, the document's. Condition: at most 90,000 pairs.
-/
import Derived.Test.YthcmnkmfhgoddaaGreatDoorKDpRLA
import Derived.Test.YthcmnkmfhgoddaaGreatDoorKDpSetA
namespace Go.Proofs.YthcmnkmfhgoddaaGreatDoor.Dp
open Go.RowKit Bnd
open Go.Proofs.YthcmnkmfhgoddaaGreatDoor.Ds (De SM OwnI OwnM ArgM)
open Go.Proofs.YthcmnkmfhgoddaaGreatDoor.Ss (Ses Zs ses SZ PZ NoP OwnZ ArgZ)
open Go.Proofs.YthcmnkmfhgoddaaGreatDoor.Od (Pr SP OwnP ArgP)
open Go.Proofs.YthcmnkmfhgoddaaGreatDoor.Sf (Ch doP)
set_option maxHeartbeats 16000000 in
set_option maxRecDepth 100000 in
theorem rset_any (o : Ph) (k v : ByteArray) (gn : Bool) (w : World) (h : HA w o) (l2 : o.ps.length <= 90000) :
  Calls Tryz.prog 35 #[qv o, .agg #[.string k, .string v, .bool gn]] w fun e w' => ∃ o', e = .returned (qv o') /\ o'.pl = setP o.pl ⟨k, v, gn⟩ /\ HA w' o' /\ Below w.heap.size w w' := by
 obtain ⟨d, ps, zs, fr, ea, al, fA, fB, fC, fD, fa, fb, fc, fd, rfl⟩ := h.hp.open
 simp only at l2
 obtain ⟨nm, hnm⟩ : ∃ n, d.ms.length = n := ⟨_, rfl⟩
 obtain ⟨np, hnp⟩ : ∃ n, ps.length = n := ⟨_, rfl⟩
 obtain ⟨nz, hnz⟩ : ∃ n, zs.length = n := ⟨_, rfl⟩
 obtain ⟨ne, hne⟩ : ∃ n, ea.length = n := ⟨_, rfl⟩
 rw [hnm, hnp, hnz, hne] at h ⊢
 obtain ⟨W0, hW0⟩ : ∃ W0, ((w.alloc (.cells #[.int .i64 d.id, .string d.f, .string d.t, .int .i64 d.gen, .slice fA nm fa, .int .i64 d.next, .slice fB np fb, .slice fC nz fc, .bool fr, .slice fD ne fd, .int .i64 al] 38)).alloc (.cells #[.string k, .string v, .bool gn] 57)).alloc (.cells #[.int .i64 0, .string ⟨#[]⟩, .string ⟨#[]⟩, .int .i64 0, .slice none 0 0, .int .i64 0, .slice none 0 0, .slice none 0 0, .bool false, .slice none 0 0, .int .i64 0] 38) = W0 := ⟨_, rfl⟩
 have hb0 : Below w.heap.size w W0 := by rw [<- hW0]; exact (((Below.refl _ w).alloc (Nat.le_refl _) _).alloc (by simp) _).alloc (by simp; omega) _
 have hz0 : W0.heap.size = w.heap.size + 3 := by rw [<- hW0]; simp
 have B0 : BoxP w.heap.size ⟨d, .slice fA nm fa, ps, .slice fB np fb, zs, .slice fC nz fc, fr, ea, .slice fD ne fd, al⟩ W0 := hW0 ▸ ((BoxP.new w ⟨d, .slice fA nm fa, ps, .slice fB np fb, zs, .slice fC nz fc, fr, ea, .slice fD ne fd, al⟩).alloc _).alloc _
 have Z0 : BoxP (w.heap.size + 2) Ph.zero W0 := by
  have := BoxP.zero ((w.alloc (.cells #[.int .i64 d.id, .string d.f, .string d.t, .int .i64 d.gen, .slice fA nm fa, .int .i64 d.next, .slice fB np fb, .slice fC nz fc, .bool fr, .slice fD ne fd, .int .i64 al] 38)).alloc (.cells #[.string k, .string v, .bool gn] 57))
  rw [World.size_alloc, World.size_alloc] at this
  exact hW0 ▸ this
 have c0 : W0.cell? ⟨w.heap.size + 1, 0, none⟩ = some (.string k) := by rw [<- hW0]; simp [go_sem]
 have c1 : W0.cell? ⟨w.heap.size + 1, 1, none⟩ = some (.string v) := by rw [<- hW0]; simp [go_sem]
 have c2 : W0.cell? ⟨w.heap.size + 1, 2, none⟩ = some (.bool gn) := by rw [<- hW0]; simp [go_sem]
 have cd := rdo_any (.slice fB np fb) ps k v gn W0 (h.keep hb0).sp h.rp l2
 have hpl : ∀ vv pp, pp = doP ps ⟨k, v, gn⟩ -> Ph.pl ⟨d, .slice fA nm fa, pp, vv, zs, .slice fC nz fc, fr, ea, .slice fD ne fd, al⟩ = setP (Ph.pl ⟨d, .slice fA nm fa, ps, .slice fB np fb, zs, .slice fC nz fc, fr, ea, .slice fD ne fd, al⟩) ⟨k, v, gn⟩ := fun vv pp hp => by
  rw [hp]
  rfl
 have HPL := Lib.hid hpl
 have HH := Lib.hid h
 have HZ := Lib.hid hz0
 obtain ⟨PP, hPP⟩ : ∃ PP, doP ps ⟨k, v, gn⟩ = PP := ⟨_, rfl⟩
 rw [hPP] at cd
 have HPP := Lib.hid hPP
 clear h hnm hnp hnz hne l2 hpl hz0 hPP
 have B := B0
 obtain ⟨p_0, ⟨p_1, p_2, p_3, p_4, p_5, p_6, p_7, p_8, p_9, p_10, p_11⟩, p_12⟩ := _root_.id B
 go_enter Tryz.func35, Tryz.ntmps35
 go_wp2_with (rw [hW0])
 clear hW0
 ((try clear p_0); (try clear p_1); (try clear p_2); (try clear p_3); (try clear p_4); (try clear p_5); (try clear p_6); (try clear p_7); (try clear p_8); (try clear p_9); (try clear p_10); (try clear p_11); (try clear p_12))
 clear c0 c1 c2 B
 refine cd.mono ?_
 rintro e w1 ⟨v1, rfl, ho1, b1⟩
 obtain ⟨A1, k1, hv1⟩ := (SP.of_own ho1).form
 subst hv1
 have B1 := B0.keep b1
 have Z1 := Z0.keep b1
 have hz1 := b1.size
 obtain ⟨W2, hW2⟩ : ∃ W2, w1.setCell ⟨w.heap.size, 6, none⟩ (.slice A1 PP.length k1) = W2 := ⟨_, rfl⟩
 have B2 : BoxP w.heap.size ⟨d, .slice fA nm fa, PP, .slice A1 PP.length k1, zs, .slice fC nz fc, fr, ea, .slice fD ne fd, al⟩ W2 := hW2 ▸ B1.set6 (.slice A1 PP.length k1) PP
 have Z2 : BoxP (w.heap.size + 2) Ph.zero W2 := hW2 ▸ Z1.other (by show w.heap.size ≠ w.heap.size + 2; omega) _
 have L2 : Below w.heap.size w W2 := hW2 ▸ (hb0.trans (b1.mono hb0.size)).setCell (p := ⟨w.heap.size, 6, none⟩) (Nat.le_refl _) _
 have O2 : OwnP W2 W0.heap.size (.slice A1 PP.length k1) PP := hW2 ▸ ownsRow_setCell_below ho1 (by have := HZ.out; show w.heap.size < _; omega) _
 have FB := BoxP.put Z2 ⟨d, .slice fA nm fa, PP, .slice A1 PP.length k1, zs, .slice fC nz fc, fr, ea, .slice fD ne fd, al⟩
 have FL := putW_below ⟨d, .slice fA nm fa, PP, .slice A1 PP.length k1, zs, .slice fC nz fc, fr, ea, .slice fD ne fd, al⟩ (n := w.heap.size + 2) (by omega) L2
 have FO := putW_own (n := w.heap.size + 2) ⟨d, .slice fA nm fa, PP, .slice A1 PP.length k1, zs, .slice fC nz fc, fr, ea, .slice fD ne fd, al⟩ (by have := HZ.out; omega) O2
 have FA : HA (putW W2 (w.heap.size + 2) ⟨d, .slice fA nm fa, PP, .slice A1 PP.length k1, zs, .slice fC nz fc, fr, ea, .slice fD ne fd, al⟩) ⟨d, .slice fA nm fa, PP, .slice A1 PP.length k1, zs, .slice fC nz fc, fr, ea, .slice fD ne fd, al⟩ := by
  have hk := HH.out.keep FL
  exact ⟨hk.sm, .of_own FO, hk.sz, hk.np, hk.se, .own FO, hk.re⟩
 have HFA := Lib.hid FA
 have HFB := Lib.hid FB
 have HFL := Lib.hid FL
 obtain ⟨p_0, ⟨p_1, p_2, p_3, p_4, p_5, p_6, p_7, p_8, p_9, p_10, p_11⟩, p_12⟩ := _root_.id B1
 obtain ⟨r_0, ⟨r_1, r_2, r_3, r_4, r_5, r_6, r_7, r_8, r_9, r_10, r_11⟩, r_12⟩ := _root_.id B2
 obtain ⟨z_0, ⟨z_1, z_2, z_3, z_4, z_5, z_6, z_7, z_8, z_9, z_10, z_11⟩, z_12⟩ := _root_.id Z2
 clear FA FB FL FO O2 L2 ho1 b1 cd B0 Z0 Z1 hb0
 go_wp2_with (rw [hW2])
 exact bodyPost_ret (res_BoxP Tryz.results35 rfl HFB.out) rfl ⟨_, rfl, HPL.out _ PP HPP.out.symm, HFA.out, HFL.out⟩
end Go.Proofs.YthcmnkmfhgoddaaGreatDoor.Dp

/-
  Whether a plot may be, the document's Is. Conditions: lengths at most 2^47.
-/
import Derived.Test.YthcmnkmfhgoddaaGreatDoorSDpBGA
import Derived.Test.YthcmnkmfhgoddaaGreatDoorSSsSRA
import Derived.Test.YthcmnkmfhgoddaaGreatDoorSMbLRA
import Derived.Test.YthcmnkmfhgoddaaGreatDoorSBndA
import Derived.Test.YthcmnkmfhgoddaaGreatDoorSRegA
namespace Go.Proofs.YthcmnkmfhgoddaaGreatDoor.Dp
open Go.RowKit Bnd
open Go.Proofs.YthcmnkmfhgoddaaGreatDoor.O (Bd isB keyB hasB lt lt_tri lt_irrefl lt_asymm)
open Go.Proofs.YthcmnkmfhgoddaaGreatDoor.Ds (De SM isD dv)
open Go.Proofs.YthcmnkmfhgoddaaGreatDoor.Ss (Ses Zs ses SZ PZ NoP isS)
open Go.Proofs.YthcmnkmfhgoddaaGreatDoor.Od (Pr SP amongB)
def prevT (ps : List Pr) (k : Nat) : Text := if k = 0 then [] else (ps.getD (k - 1) (Od.E0, Od.E0)).1.toList
theorem prevT_next {ps : List Pr} {k : Nat} (h : k < ps.length) : prevT ps (k + 1) = ps[k].1.toList := by
  unfold prevT
  rw [if_neg (by omega), List.getD_eq_getElem?_getD, List.getElem?_eq_getElem (show k + 1 - 1 < ps.length by omega)]
  rfl
def prevE (ns : List Int) (k : Nat) : Int := if k = 0 then 0 else ns.getD (k - 1) 0
theorem prevE_next {ns : List Int} {k : Nat} (h : k < ns.length) : prevE ns (k + 1) = ns[k] := by
  unfold prevE
  rw [if_neg (by omega), List.getD_eq_getElem?_getD, List.getElem?_eq_getElem (show k + 1 - 1 < ns.length by omega)]
  rfl
theorem lt_nil_key {k : Text} (h : keyB k = true) : lt [] k = true := by
  cases k with
  | nil => simp [keyB] at h
  | cons a l => rfl
set_option maxHeartbeats 16000000 in
set_option maxRecDepth 100000 in
theorem ris_any (o : Ph) (w : World) (h : HP w w.heap.size o) (hf : FitP o) :
    Calls Tryz.prog 16 #[qv o] w fun e w' => e = .returned (.bool (isP o.pl)) /\ Below w.heap.size w w' := by
  have KD := fun w' (hb : Below w.heap.size w w') => Ds.ris_any o.d o.sm w' ((h.below hb).more hb.size).sm hf.f hf.t hf.ms
  have KS := fun w' (hb : Below w.heap.size w w') => Ss.ris_any o.sz o.zs w' ((h.below hb).more hb.size).sz ((h.below hb).more hb.size).pz (fun z hz => ⟨(hf.fit z hz).1, (hf.fit z hz).2.1, (hf.fit z hz).2.2⟩) hf.zs
  obtain ⟨r, hR⟩ : ∃ r, isP o.pl = r := ⟨_, rfl⟩
  rw [hR]
  have hR' : (isD o.d && isS (ses o.zs) && goP (B o.d.f o.d.t) [] o.ps && (decide (o.ea.length <= 200) && goE 0 o.ea) && amongB o.al 0 1099511627776) = r := by rw [<- hR]; rfl
  have hsp := h.sp
  have hsi := h.se
  have heach := hf.each
  have hpl := hf.ps
  have hel := hf.ea
  obtain ⟨d, ps, zs, fr, ea, al, fA, fB, fC, fD, fa, fb, fc, fd, rfl⟩ := h.open
  simp only at KD KS hR' hsp hsi heach hpl hel ⊢
  obtain ⟨N, hN⟩ : ∃ N, ps.length = N := ⟨_, rfl⟩
  obtain ⟨M, hM⟩ : ∃ M, ea.length = M := ⟨_, rfl⟩
  have HN := Lib.hid hN
  have HM := Lib.hid hM
  rw [hN] at hpl hsp
  rw [hM] at hel hR' hsi
  simp only [qv, hN, hM]
  obtain ⟨x1, hx1⟩ : ∃ x, isD d = x := ⟨_, rfl⟩
  obtain ⟨x2, hx2⟩ : ∃ x, isS (ses zs) = x := ⟨_, rfl⟩
  rw [hx1] at KD hR'
  rw [hx2] at KS hR'
  have HR := Lib.hid hR'
  have HSP := Lib.hid hsp
  have HSI := Lib.hid hsi
  have HEA := Lib.hid heach
  obtain ⟨W0, hW0⟩ : ∃ W0, w.alloc (.cells #[.int .i64 d.id, .string d.f, .string d.t, .int .i64 d.gen, .slice fA d.ms.length fa, .int .i64 d.next, .slice fB N fb, .slice fC zs.length fc, .bool fr, .slice fD M fd, .int .i64 al] 38) = W0 := ⟨_, rfl⟩
  have B0 : BoxP w.heap.size ⟨d, .slice fA d.ms.length fa, ps, .slice fB N fb, zs, .slice fC zs.length fc, fr, ea, .slice fD M fd, al⟩ W0 := hW0 ▸ BoxP.new w ⟨d, .slice fA d.ms.length fa, ps, .slice fB N fb, zs, .slice fC zs.length fc, fr, ea, .slice fD M fd, al⟩
  have hb0 : Below w.heap.size w W0 := hW0 ▸ (Below.refl _ w).alloc (Nat.le_refl _) _
  clear hx1 hx2 hR hR' h hf hN hM hsp hsi heach
  go_enter Tryz.func16, Tryz.ntmps16
  obtain ⟨p_0, ⟨p_1, p_2, p_3, p_4, p_5, p_6, p_7, p_8, p_9, p_10, p_11⟩, p_12⟩ := _root_.id B0
  go_wp2_with (rw [hW0])
  refine (KD _ hb0).mono ?_
  rintro e w1 ⟨rfl, b1⟩
  have B1 := B0.keep b1
  have hb1 := hb0.trans (b1.mono hb0.size)
  ((try clear p_0); (try clear p_1); (try clear p_2); (try clear p_3); (try clear p_4); (try clear p_5); (try clear p_6); (try clear p_7); (try clear p_8); (try clear p_9); (try clear p_10); (try clear p_11); (try clear p_12))
  clear b1 B0 KD hW0
  obtain ⟨p_0, ⟨p_1, p_2, p_3, p_4, p_5, p_6, p_7, p_8, p_9, p_10, p_11⟩, p_12⟩ := _root_.id B1
  cases x1 with
  | false =>
    clear KS
    go_wp2_with fail
    go_ret
    exact ⟨by rw [<- HR.out]; rfl, hb1⟩
  | true =>
  go_wp2_with fail
  refine (KS _ hb1).mono ?_
  rintro e w2 ⟨rfl, b2⟩
  have B2 := B1.keep b2
  have hb2 := hb1.trans (b2.mono hb1.size)
  ((try clear p_0); (try clear p_1); (try clear p_2); (try clear p_3); (try clear p_4); (try clear p_5); (try clear p_6); (try clear p_7); (try clear p_8); (try clear p_9); (try clear p_10); (try clear p_11); (try clear p_12))
  clear b2 B1 KS hb1 hb0
  obtain ⟨p_0, ⟨p_1, p_2, p_3, p_4, p_5, p_6, p_7, p_8, p_9, p_10, p_11⟩, p_12⟩ := _root_.id B2
  cases x2 with
  | false =>
    go_wp2_with fail
    go_ret
    exact ⟨by rw [<- HR.out]; rfl, hb2⟩
  | true =>
  by_cases g1 : M <= 200
  rotate_left
  · have g2 : ((M : Int) > 200) = True := eq_true (by omega)
    have hr := HR.out
    rw [show decide (M <= 200) = false by simpa using g1] at hr
    have HR2 := Lib.hid hr
    clear hr g1
    go_wp2_with fail
    go_ret
    exact ⟨by rw [<- HR2.out]; simp, hb2⟩
  have g2 : ((M : Int) > 200) = False := eq_false (by omega)
  by_cases g3 : al < 0
  · have hr := HR.out
    rw [show amongB al 0 1099511627776 = false by unfold amongB; simp; omega] at hr
    have HR2 := Lib.hid hr
    have g4 : (al < 0) = True := eq_true g3
    clear hr g1 g3
    go_wp2_with fail
    go_ret
    exact ⟨by rw [<- HR2.out]; simp, hb2⟩
  by_cases g5 : al > 1099511627776
  · have hr := HR.out
    rw [show amongB al 0 1099511627776 = false by unfold amongB; simp; omega] at hr
    have HR2 := Lib.hid hr
    have g4 : (al < 0) = False := eq_false g3
    have g6 : (al > 1099511627776) = True := eq_true g5
    clear hr g1 g3 g5
    go_wp2_with fail
    go_ret
    exact ⟨by rw [<- HR2.out]; simp, hb2⟩
  have hr := HR.out
  rw [show amongB al 0 1099511627776 = true by unfold amongB; simp; omega, show decide (M <= 200) = true by simpa using g1] at hr
  simp only [Bool.true_and, Bool.and_true] at hr
  have HRR := Lib.hid hr
  have g4 : (al < 0) = False := eq_false g3
  have g6 : (al > 1099511627776) = False := eq_false g5
  clear hr g1 g3 g5 HR
  go_wp2_with fail
  ((try clear p_0); (try clear p_1); (try clear p_2); (try clear p_3); (try clear p_4); (try clear p_5); (try clear p_6); (try clear p_7); (try clear p_8); (try clear p_9); (try clear p_10); (try clear p_11); (try clear p_12))
  clear g2 g4 g6
  --CUT1
  go_loopw [3] (fun vi wr => ∃ (k : Nat), k <= N /\ vi = .int .i64 (k : Int) /\ Hid ((goP (B d.f d.t) (prevT ps k) (ps.drop k) && goE 0 ea) = r) /\ BoxP w.heap.size ⟨d, .slice fA d.ms.length fa, ps, .slice fB N fb, zs, .slice fC zs.length fc, fr, ea, .slice fD M fd, al⟩ wr /\ Below w.heap.size w wr) (fun vi _ => N - (intOf vi).toNat)
  case atStart => exact ⟨0, Nat.zero_le _, rfl, Lib.hid (by simpa [prevT] using HRR.out), B2, hb2⟩
  case round =>
    clear B2 hb2 HRR
    obtain ⟨k, hk, rfl, HG, BR, hbw⟩ := hrel
    have hz := hbw.size
    by_cases hlt : k < N
    rotate_left
    · obtain rfl : N = k := by omega
      have hg := HG.out
      rw [List.drop_of_length_le (by have := HN.out; omega)] at hg
      simp only [goP, Bool.true_and] at hg
      have HE := Lib.hid hg
      have k1 : ((N : Int) < (N : Int)) = False := eq_false (by omega)
      clear hg HG hlt
      obtain ⟨p_0, ⟨p_1, p_2, p_3, p_4, p_5, p_6, p_7, p_8, p_9, p_10, p_11⟩, p_12⟩ := _root_.id BR
      go_wp2_with fail
      ((try clear p_0); (try clear p_1); (try clear p_2); (try clear p_3); (try clear p_4); (try clear p_5); (try clear p_6); (try clear p_7); (try clear p_8); (try clear p_9); (try clear p_10); (try clear p_11); (try clear p_12))
      clear k1
      go_loopw [5] (fun vi wo => ∃ j : Nat, j <= M /\ vi = .int .i64 (j : Int) /\ Hid (goE (prevE ea j) (ea.drop j) = r) /\ 0 <= prevE ea j /\ BoxP w.heap.size ⟨d, .slice fA d.ms.length fa, ps, .slice fB N fb, zs, .slice fC zs.length fc, fr, ea, .slice fD M fd, al⟩ wo /\ Below w.heap.size w wo) (fun vi _ => M - (intOf vi).toNat)
      case atStart => exact ⟨0, Nat.zero_le _, rfl, Lib.hid (by simpa [prevE] using HE.out), by simp [prevE], BR, hbw⟩
      case round =>
        clear BR hbw HE hz
        revert hrel; revert wr; intro wo hrel
        obtain ⟨j, hj, rfl, HG, h0, BO, hbo⟩ := hrel
        have hzo := hbo.size
        by_cases hlt : j < M
        rotate_left
        · obtain rfl : j = M := by omega
          have hg := HG.out
          rw [List.drop_of_length_le (by have := HM.out; omega)] at hg
          have HG2 := Lib.hid hg
          have k1 : ((j : Int) < (j : Int)) = False := eq_false (by omega)
          clear hg HG hlt
          obtain ⟨p_0, ⟨p_1, p_2, p_3, p_4, p_5, p_6, p_7, p_8, p_9, p_10, p_11⟩, p_12⟩ := _root_.id BO
          go_wp2_with fail
          go_ret
          exact ⟨by rw [<- HG2.out]; rfl, hbo⟩
        · have hkx : j < ea.length := by rw [HM.out]; exact hlt
          have hv1 := HSI.out.below hbo
          have hprev : ∀ k', k' + 1 = j -> ∃ b o xp, fD = some ⟨b, o, none⟩ /\ wo.cell? ⟨b, o + k', none⟩ = some (.int .i64 xp) /\ xp = prevE ea j := by
            intro k' hk'
            have hkl : k' < ea.length := by omega
            obtain ⟨b', o', hA', hb', m0⟩ := hv1.at_ hkl
            refine ⟨b', o', _, hA', m0, ?_⟩
            rw [<- hk', prevE_next hkl]
          obtain ⟨b, o, rfl, hb, q0⟩ := hv1.at_ hkx
          have hg := HG.out
          rw [List.drop_eq_getElem_cons hkx, goE] at hg
          have hnx := prevE_next hkx
          obtain ⟨x, hx⟩ : ∃ x, ea[j] = x := ⟨_, rfl⟩
          rw [hx] at q0 hg hnx
          obtain ⟨P, hP⟩ : ∃ P, prevE ea j = P := ⟨_, rfl⟩
          rw [hP] at hg hprev h0
          have hbz2 : b < wo.heap.size := by omega
          have hq : ∀ wx, Below wo.heap.size wo wx -> wx.cell? ⟨b, o + j, none⟩ = some (.int .i64 x) := fun wx hb => (hb.cell (p := ⟨b, o + j, none⟩) hbz2).trans q0
          have ht9 : ∀ wx, Below wo.heap.size wo wx -> wx.cell? ⟨w.heap.size, 9, none⟩ = some (.slice (some ⟨b, o, none⟩) M fd) := fun wx hb => (BO.keep hb).2.1.2.2.2.2.2.2.2.2.2.1
          have hpv' : ∀ k', k' + 1 = j -> ∃ xp, (∀ wx, Below wo.heap.size wo wx -> wx.cell? ⟨b, o + k', none⟩ = some (.int .i64 xp)) /\ xp = P := by
            intro k' hk'
            obtain ⟨b', o', xp, e', m0, m1⟩ := hprev k' hk'
            injection e' with e'
            injection e' with e1 e2 _
            subst e1 e2
            exact ⟨xp, fun wx hb => (hb.cell (p := ⟨b, o + k', none⟩) hbz2).trans m0, m1⟩
          have hP0 : j = 0 -> P = 0 := fun h0 => by rw [<- hP, h0]; rfl
          have k0 : (0 <= (j : Int)) = True := eq_true (by omega)
          have k1 : ((j : Int) < (M : Int)) = True := eq_true (by omega)
          clear hv1 hkx hprev q0 hx hP HG
          obtain ⟨p_0, ⟨p_1, p_2, p_3, p_4, p_5, p_6, p_7, p_8, p_9, p_10, p_11⟩, p_12⟩ := _root_.id BO
          go_wp2_with fail
          ((try clear p_0); (try clear p_1); (try clear p_2); (try clear p_3); (try clear p_4); (try clear p_5); (try clear p_6); (try clear p_7); (try clear p_8); (try clear p_9); (try clear p_10); (try clear p_11); (try clear p_12))
          by_cases h1 : x < 1
          · have m1 : (x < 1) = True := eq_true h1
            rw [if_neg (by omega)] at hg
            have HG2 := Lib.hid hg
            clear hg h1 hpv' hP0 hnx
            refine St.wp_region_stage (fun _ wx => Below wo.heap.size wo wx) (by kernel_rfl) (by kernel_rfl) (by kernel_rfl) (Below.refl _ _).drew ?_
            iterate 7
              (apply St.step_give
               · rfl
               · intro L wx hS hcl hrd
                 have t9 := ht9 wx hS
                 have cq := hq wx hS
                 clear hcl hrd
                 go_simp
                 try with_reducible rfl
               · exact fun L wx hS => hS
               simp only [Act.put, St.pu])
            iterate 6
              (apply St.step_past
               · rfl
               · exact fun L wx hS => hS
               simp only [Act.put, St.pu])
            iterate 2
              (apply St.step_give
               · rfl
               · intro L wx hS hcl hrd
                 clear hcl hrd
                 go_simp
                 try with_reducible rfl
               · exact fun L wx hS => hS
               simp only [Act.put, St.pu])
            iterate 16
              (apply St.step_past
               · rfl
               · exact fun L wx hS => hS
               simp only [Act.put, St.pu])
            iterate 1
              (apply St.step_give
               · rfl
               · intro L wx hS hcl hrd
                 clear hcl hrd
                 go_simp
                 try with_reducible rfl
               · exact fun L wx hS => hS
               simp only [Act.put, St.pu])
            refine St.step_last ?_
            intro L9 wz hbz _
            clear ht9 hq
            go_wp2_with fail
            go_ret
            exact ⟨by rw [<- HG2.out]; rfl, hbo.trans (hbz.mono hbo.size)⟩
          have m1 : (x < 1) = False := eq_false h1
          by_cases h2 : x <= 1099511627776
          rotate_left
          · have m2 : (x > 1099511627776) = True := eq_true (by omega)
            rw [if_neg (by omega)] at hg
            have HG2 := Lib.hid hg
            clear hg h1 h2 hpv' hP0 hnx
            refine St.wp_region_stage (fun _ wx => Below wo.heap.size wo wx) (by kernel_rfl) (by kernel_rfl) (by kernel_rfl) (Below.refl _ _).drew ?_
            iterate 15
              (apply St.step_give
               · rfl
               · intro L wx hS hcl hrd
                 have t9 := ht9 wx hS
                 have cq := hq wx hS
                 clear hcl hrd
                 go_simp
                 try with_reducible rfl
               · exact fun L wx hS => hS
               simp only [Act.put, St.pu])
            iterate 16
              (apply St.step_past
               · rfl
               · exact fun L wx hS => hS
               simp only [Act.put, St.pu])
            iterate 1
              (apply St.step_give
               · rfl
               · intro L wx hS hcl hrd
                 clear hcl hrd
                 go_simp
                 try with_reducible rfl
               · exact fun L wx hS => hS
               simp only [Act.put, St.pu])
            refine St.step_last ?_
            intro L9 wz hbz _
            clear ht9 hq
            go_wp2_with fail
            go_ret
            exact ⟨by rw [<- HG2.out]; rfl, hbo.trans (hbz.mono hbo.size)⟩
          have m2 : (x > 1099511627776) = False := eq_false (by omega)
          by_cases hj0 : j = 0
          · rw [if_pos ⟨by rw [hP0 hj0]; omega, h2⟩, <- hnx] at hg
            have h0' : 0 <= prevE ea (j + 1) := by rw [hnx]; omega
            have e1 : ((j : Int) > 0) = False := eq_false (by omega)
            have e4 : ((0 : Int) < (j : Int)) = False := eq_false (by omega)
            have e5 : (0 < j) = False := eq_false (by omega)
            have HG2 := Lib.hid hg
            clear hg h1 h2 hpv' hP0 hnx hj0
            refine St.wp_region_stage (fun _ wx => Below wo.heap.size wo wx) (by kernel_rfl) (by kernel_rfl) (by kernel_rfl) (Below.refl _ _).drew ?_
            iterate 18
              (apply St.step_give
               · rfl
               · intro L wx hS hcl hrd
                 have t9 := ht9 wx hS
                 have cq := hq wx hS
                 clear hcl hrd
                 go_simp
                 try with_reducible rfl
               · exact fun L wx hS => hS
               simp only [Act.put, St.pu])
            iterate 12
              (apply St.step_past
               · rfl
               · exact fun L wx hS => hS
               simp only [Act.put, St.pu])
            iterate 2
              (apply St.step_give
               · rfl
               · intro L wx hS hcl hrd
                 clear hcl hrd
                 go_simp
                 try with_reducible rfl
               · exact fun L wx hS => hS
               simp only [Act.put, St.pu])
            refine St.step_last ?_
            intro L9 wz hbz _
            clear ht9 hq
            have hb9 := hbo.trans (hbz.mono hbo.size)
            have B9 := BO.keep hbz
            go_wp2_with fail
            go_roundw
            case rel => exact ⟨j + 1, by omega, by go_num, HG2, h0', B9, hb9⟩
            case measure => simp [intOf]; omega
          · obtain ⟨k', hk'⟩ : ∃ k', k' + 1 = j := ⟨j - 1, by omega⟩
            obtain ⟨xp, hpv, rfl⟩ := hpv' k' hk'
            have e1 : ((j : Int) > 0) = True := eq_true (by omega)
            have e4 : ((0 : Int) < (j : Int)) = True := eq_true (by omega)
            have e5 : (0 < j) = True := eq_true (by omega)
            have w4 : IntKind.i64.wrap ((j : Int) - 1) = (k' : Int) := by rw [IntKind.wrap_i64]; omega
            have w2' : (0 <= (k' : Int)) = True := eq_true (by omega)
            have w3 : ((k' : Int) < (M : Int)) = True := eq_true (by omega)
            by_cases h3 : xp < x
            · rw [if_pos ⟨h3, h2⟩, <- hnx] at hg
              have h0' : 0 <= prevE ea (j + 1) := by rw [hnx]; omega
              have m3 : (x <= xp) = False := eq_false (by omega)
              have HG2 := Lib.hid hg
              clear hg h1 h2 hpv' hP0 hnx hj0 h3 hk'
              refine St.wp_region_stage (fun _ wx => Below wo.heap.size wo wx) (by kernel_rfl) (by kernel_rfl) (by kernel_rfl) (Below.refl _ _).drew ?_
              iterate 32
                (apply St.step_give
                 · rfl
                 · intro L wx hS hcl hrd
                   have t9 := ht9 wx hS
                   have cq := hq wx hS
                   have cp := hpv wx hS
                   clear hcl hrd
                   go_simp
                   try with_reducible rfl
                 · exact fun L wx hS => hS
                 simp only [Act.put, St.pu])
              refine St.step_last ?_
              intro L9 wz hbz _
              clear ht9 hq
              have hb9 := hbo.trans (hbz.mono hbo.size)
              have B9 := BO.keep hbz
              go_wp2_with fail
              go_roundw
              case rel => exact ⟨j + 1, by omega, by go_num, HG2, h0', B9, hb9⟩
              case measure => simp [intOf]; omega
            · rw [if_neg (by omega)] at hg
              have m3 : (x <= xp) = True := eq_true (by omega)
              have HG2 := Lib.hid hg
              clear hg h1 h2 hpv' hP0 hnx hj0 h3 hk'
              refine St.wp_region_stage (fun _ wx => Below wo.heap.size wo wx) (by kernel_rfl) (by kernel_rfl) (by kernel_rfl) (Below.refl _ _).drew ?_
              iterate 32
                (apply St.step_give
                 · rfl
                 · intro L wx hS hcl hrd
                   have t9 := ht9 wx hS
                   have cq := hq wx hS
                   have cp := hpv wx hS
                   clear hcl hrd
                   go_simp
                   try with_reducible rfl
                 · exact fun L wx hS => hS
                 simp only [Act.put, St.pu])
              refine St.step_last ?_
              intro L9 wz hbz _
              clear ht9 hq
              go_wp2_with fail
              go_ret
              exact ⟨by rw [<- HG2.out]; rfl, hbo.trans (hbz.mono hbo.size)⟩
    · have hkx : k < ps.length := by rw [HN.out]; exact hlt
      have hv1 := HSP.out.below hbw
      have hprev : ∀ k', k' + 1 = k -> ∃ b o x, fB = some ⟨b, o, none⟩ /\ wr.cell? ⟨b, o + k' * 2, none⟩ = some (.string x) /\ x.toList = prevT ps k := by
        intro k' hk'
        have hkl : k' < ps.length := by omega
        obtain ⟨b', o', hA', hb', m0, _⟩ := hv1.at_ hkl
        refine ⟨b', o', _, hA', m0, ?_⟩
        rw [<- hk', prevT_next hkl]
      obtain ⟨b, o, rfl, hb, q0, q1⟩ := hv1.at_ hkx
      have hg := HG.out
      rw [List.drop_eq_getElem_cons hkx, goP] at hg
      have hnx := prevT_next hkx
      have hsz := HEA.out _ (List.getElem_mem hkx)
      obtain ⟨⟨x, y⟩, hx⟩ : ∃ x, ps[k] = x := ⟨_, rfl⟩
      rw [hx] at q0 q1 hg hsz hnx
      simp only at q0 q1 hg hsz hnx
      obtain ⟨P, hP⟩ : ∃ P, prevT ps k = P := ⟨_, rfl⟩
      rw [hP] at hg hprev
      obtain ⟨W2, hW2⟩ : ∃ W2, wr.alloc (.cells #[.string x, .string y] 85) = W2 := ⟨_, rfl⟩
      have hbr : Below wr.heap.size wr W2 := hW2 ▸ (Below.refl _ wr).alloc (Nat.le_refl _) _
      have hbq := hbw.trans (hbr.mono hz)
      have hwz : wr.heap.size < W2.heap.size := by rw [<- hW2]; simp
      have c0 : W2.cell? ⟨wr.heap.size, 0, none⟩ = some (.string x) := by rw [<- hW2]; simp [go_sem]
      have c1 : W2.cell? ⟨wr.heap.size, 1, none⟩ = some (.string y) := by rw [<- hW2]; simp [go_sem]
      have hx0 := fun wx (hb : Below W2.heap.size W2 wx) => (hb.cell (p := ⟨wr.heap.size, 0, none⟩) hwz).trans c0
      have hx1 := fun wx (hb : Below W2.heap.size W2 wx) => (hb.cell (p := ⟨wr.heap.size, 1, none⟩) hwz).trans c1
      have BQ := BR.keep hbr
      have ht1 : ∀ wx, Below W2.heap.size W2 wx -> wx.cell? ⟨w.heap.size, 1, none⟩ = some (.string d.f) := fun wx hb => (BQ.keep hb).2.1.2.1
      have ht2 : ∀ wx, Below W2.heap.size W2 wx -> wx.cell? ⟨w.heap.size, 2, none⟩ = some (.string d.t) := fun wx hb => (BQ.keep hb).2.1.2.2.1
      have ht6 : ∀ wx, Below W2.heap.size W2 wx -> wx.cell? ⟨w.heap.size, 6, none⟩ = some (.slice (some ⟨b, o, none⟩) N fb) := fun wx hb => (BQ.keep hb).2.1.2.2.2.2.2.2.1
      have k0 : (0 <= (k : Int)) = True := eq_true (by omega)
      have k1 : ((k : Int) < (N : Int)) = True := eq_true (by omega)
      have kK : ∀ wx, Below W2.heap.size W2 wx -> Calls Tryz.prog 50 #[.string x] wx fun e w' => e = .returned (.bool (keyB x.toList)) /\ Below W2.heap.size W2 w' := fun wx hb => (rkey_any x wx hsz.1).mono (by rintro e w' ⟨rfl, rfl⟩; exact ⟨rfl, hb⟩)
      have kH : ∀ wx, Below W2.heap.size W2 wx -> Calls Tryz.prog 20 #[bd d.f d.t, .string x] wx fun e w' => e = .returned (.bool (hasB (B d.f d.t) x.toList)) /\ Below W2.heap.size W2 w' := fun wx hb => (Bnd.rhas_any d.f d.t x wx).mono (by rintro e w' ⟨rfl, b3⟩; exact ⟨rfl, hb.trans (b3.mono hb.size)⟩)
      have hbz2 : b < wr.heap.size := by omega
      have hpv' : ∀ k', k' + 1 = k -> ∃ xp, (∀ wx, Below W2.heap.size W2 wx -> wx.cell? ⟨b, o + k' * 2, none⟩ = some (.string xp)) /\ xp.toList = P := by
        intro k' hk'
        obtain ⟨b', o', xp, e', m0, m1⟩ := hprev k' hk'
        injection e' with e'
        injection e' with e1 e2 _
        subst e1 e2
        exact ⟨xp, fun wx hb => ((hbr.trans (hb.mono hbr.size)).cell (p := ⟨b, o + k' * 2, none⟩) hbz2).trans m0, m1⟩
      have hP0 : k = 0 -> P = [] := fun h0 => by rw [<- hP, h0]; rfl
      clear hv1 hkx hprev c0 c1 hx hP
      obtain ⟨p_0, ⟨p_1, p_2, p_3, p_4, p_5, p_6, p_7, p_8, p_9, p_10, p_11⟩, p_12⟩ := _root_.id BR
      go_wp2_with (rw [hW2])
      ((try clear p_0); (try clear p_1); (try clear p_2); (try clear p_3); (try clear p_4); (try clear p_5); (try clear p_6); (try clear p_7); (try clear p_8); (try clear p_9); (try clear p_10); (try clear p_11); (try clear p_12))
      clear hW2 q0 q1 BR
      --CUT2
      cases h3 : keyB x.toList with
      | false =>
        rw [if_neg (fun h => by rw [h3] at h; exact absurd h.2.2.1 (by simp))] at hg
        rw [h3] at kK
        have HG2 := Lib.hid hg
        clear hg h3 hpv' hnx hP0
        refine St.wp_region_stage (fun _ wx => Below W2.heap.size W2 wx) (by kernel_rfl) (by kernel_rfl) (by kernel_rfl) (Below.refl _ _).drew ?_
        iterate 2
          (apply St.step_give
           · rfl
           · intro L wx hS hcl hrd
             have c0 := hx0 wx hS
             have c1 := hx1 wx hS
             have t1 := ht1 wx hS
             have t2 := ht2 wx hS
             have t6 := ht6 wx hS
             clear hcl hrd
             go_simp
             try with_reducible rfl
           · exact fun L wx hS => hS
           simp only [Act.put, St.pu])
        apply St.step_into
        · rfl
        · intro wx
          go_simp
          exact ⟨rfl, rfl⟩
        · exact fun L wx hS hcl hrd => kK wx hS
        simp only [Act.put, St.pu]
        iterate 2
          (apply St.step_give
           · rfl
           · intro L wx hS hcl hrd
             clear hcl hrd
             go_simp
             try with_reducible rfl
           · exact fun L wx hS => hS
           simp only [Act.put, St.pu])
        iterate 7
          (apply St.step_past
           · rfl
           · exact fun L wx hS => hS
           simp only [Act.put, St.pu])
        iterate 2
          (apply St.step_give
           · rfl
           · intro L wx hS hcl hrd
             clear hcl hrd
             go_simp
             try with_reducible rfl
           · exact fun L wx hS => hS
           simp only [Act.put, St.pu])
        iterate 4
          (apply St.step_past
           · rfl
           · exact fun L wx hS => hS
           simp only [Act.put, St.pu])
        iterate 2
          (apply St.step_give
           · rfl
           · intro L wx hS hcl hrd
             clear hcl hrd
             go_simp
             try with_reducible rfl
           · exact fun L wx hS => hS
           simp only [Act.put, St.pu])
        iterate 13
          (apply St.step_past
           · rfl
           · exact fun L wx hS => hS
           simp only [Act.put, St.pu])
        iterate 1
          (apply St.step_past
           · rfl
           · exact fun L wx hS => hS
           simp only [Act.put, St.pu])
        iterate 1
          (apply St.step_give
           · rfl
           · intro L wx hS hcl hrd
             clear hcl hrd
             go_simp
             try with_reducible rfl
           · exact fun L wx hS => hS
           simp only [Act.put, St.pu])
        refine St.step_last ?_
        intro L9 wz hbz _
        clear kK kH hx0 hx1 ht1 ht2 ht6
        go_wp2_with fail
        go_ret
        exact ⟨by rw [<- HG2.out]; rfl, hbq.trans (hbz.mono hbq.size)⟩
      | true =>
        rw [h3] at kK
        cases h4 : hasB (B d.f d.t) x.toList with
        | false =>
          rw [if_neg (fun h => by rw [h4] at h; exact absurd h.2.2.2 (by simp))] at hg
          rw [h4] at kH
          have HG2 := Lib.hid hg
          clear hg h3 h4 hpv' hnx hP0
          refine St.wp_region_stage (fun _ wx => Below W2.heap.size W2 wx) (by kernel_rfl) (by kernel_rfl) (by kernel_rfl) (Below.refl _ _).drew ?_
          iterate 2
            (apply St.step_give
             · rfl
             · intro L wx hS hcl hrd
               have c0 := hx0 wx hS
               have c1 := hx1 wx hS
               have t1 := ht1 wx hS
               have t2 := ht2 wx hS
               have t6 := ht6 wx hS
               clear hcl hrd
               go_simp
               try with_reducible rfl
             · exact fun L wx hS => hS
             simp only [Act.put, St.pu])
          apply St.step_into
          · rfl
          · intro wx
            go_simp
            exact ⟨rfl, rfl⟩
          · exact fun L wx hS hcl hrd => kK wx hS
          simp only [Act.put, St.pu]
          iterate 2
            (apply St.step_give
             · rfl
             · intro L wx hS hcl hrd
               clear hcl hrd
               go_simp
               try with_reducible rfl
             · exact fun L wx hS => hS
             simp only [Act.put, St.pu])
          iterate 5
            (apply St.step_give
             · rfl
             · intro L wx hS hcl hrd
               have c0 := hx0 wx hS
               have c1 := hx1 wx hS
               have t1 := ht1 wx hS
               have t2 := ht2 wx hS
               have t6 := ht6 wx hS
               clear hcl hrd
               go_simp
               try with_reducible rfl
             · exact fun L wx hS => hS
             simp only [Act.put, St.pu])
          apply St.step_into
          · rfl
          · intro wx
            go_simp
            exact ⟨rfl, rfl⟩
          · exact fun L wx hS hcl hrd => kH wx hS
          simp only [Act.put, St.pu]
          iterate 3
            (apply St.step_give
             · rfl
             · intro L wx hS hcl hrd
               clear hcl hrd
               go_simp
               try with_reducible rfl
             · exact fun L wx hS => hS
             simp only [Act.put, St.pu])
          iterate 4
            (apply St.step_past
             · rfl
             · exact fun L wx hS => hS
             simp only [Act.put, St.pu])
          iterate 2
            (apply St.step_give
             · rfl
             · intro L wx hS hcl hrd
               clear hcl hrd
               go_simp
               try with_reducible rfl
             · exact fun L wx hS => hS
             simp only [Act.put, St.pu])
          iterate 14
            (apply St.step_past
             · rfl
             · exact fun L wx hS => hS
             simp only [Act.put, St.pu])
          iterate 1
            (apply St.step_give
             · rfl
             · intro L wx hS hcl hrd
               clear hcl hrd
               go_simp
               try with_reducible rfl
             · exact fun L wx hS => hS
             simp only [Act.put, St.pu])
          refine St.step_last ?_
          intro L9 wz hbz _
          clear kK kH hx0 hx1 ht1 ht2 ht6
          go_wp2_with fail
          go_ret
          exact ⟨by rw [<- HG2.out]; rfl, hbq.trans (hbz.mono hbq.size)⟩
        | true =>
          rw [h4] at kH
          by_cases h2 : y.size <= 512
          rotate_left
          · rw [if_neg (fun h => h2 h.2.1)] at hg
            have l3 : ((y.size : Int) > 512) = True := eq_true (by omega)
            have l4 : ((512 : Int) < (y.size : Int)) = True := eq_true (by omega)
            have HG2 := Lib.hid hg
            clear hg h3 h4 h2 hpv' hnx hP0
            refine St.wp_region_stage (fun _ wx => Below W2.heap.size W2 wx) (by kernel_rfl) (by kernel_rfl) (by kernel_rfl) (Below.refl _ _).drew ?_
            iterate 2
              (apply St.step_give
               · rfl
               · intro L wx hS hcl hrd
                 have c0 := hx0 wx hS
                 have c1 := hx1 wx hS
                 have t1 := ht1 wx hS
                 have t2 := ht2 wx hS
                 have t6 := ht6 wx hS
                 clear hcl hrd
                 go_simp
                 try with_reducible rfl
               · exact fun L wx hS => hS
               simp only [Act.put, St.pu])
            apply St.step_into
            · rfl
            · intro wx
              go_simp
              exact ⟨rfl, rfl⟩
            · exact fun L wx hS hcl hrd => kK wx hS
            simp only [Act.put, St.pu]
            iterate 2
              (apply St.step_give
               · rfl
               · intro L wx hS hcl hrd
                 clear hcl hrd
                 go_simp
                 try with_reducible rfl
               · exact fun L wx hS => hS
               simp only [Act.put, St.pu])
            iterate 5
              (apply St.step_give
               · rfl
               · intro L wx hS hcl hrd
                 have c0 := hx0 wx hS
                 have c1 := hx1 wx hS
                 have t1 := ht1 wx hS
                 have t2 := ht2 wx hS
                 have t6 := ht6 wx hS
                 clear hcl hrd
                 go_simp
                 try with_reducible rfl
               · exact fun L wx hS => hS
               simp only [Act.put, St.pu])
            apply St.step_into
            · rfl
            · intro wx
              go_simp
              exact ⟨rfl, rfl⟩
            · exact fun L wx hS hcl hrd => kH wx hS
            simp only [Act.put, St.pu]
            iterate 3
              (apply St.step_give
               · rfl
               · intro L wx hS hcl hrd
                 clear hcl hrd
                 go_simp
                 try with_reducible rfl
               · exact fun L wx hS => hS
               simp only [Act.put, St.pu])
            iterate 4
              (apply St.step_give
               · rfl
               · intro L wx hS hcl hrd
                 have c0 := hx0 wx hS
                 have c1 := hx1 wx hS
                 have t1 := ht1 wx hS
                 have t2 := ht2 wx hS
                 have t6 := ht6 wx hS
                 clear hcl hrd
                 go_simp
                 try with_reducible rfl
               · exact fun L wx hS => hS
               simp only [Act.put, St.pu])
            iterate 2
              (apply St.step_give
               · rfl
               · intro L wx hS hcl hrd
                 clear hcl hrd
                 go_simp
                 try with_reducible rfl
               · exact fun L wx hS => hS
               simp only [Act.put, St.pu])
            iterate 14
              (apply St.step_past
               · rfl
               · exact fun L wx hS => hS
               simp only [Act.put, St.pu])
            iterate 1
              (apply St.step_give
               · rfl
               · intro L wx hS hcl hrd
                 clear hcl hrd
                 go_simp
                 try with_reducible rfl
               · exact fun L wx hS => hS
               simp only [Act.put, St.pu])
            refine St.step_last ?_
            intro L9 wz hbz _
            clear kK kH hx0 hx1 ht1 ht2 ht6
            go_wp2_with fail
            go_ret
            exact ⟨by rw [<- HG2.out]; rfl, hbq.trans (hbz.mono hbq.size)⟩
          have l3 : ((y.size : Int) > 512) = False := eq_false (by omega)
          have l4 : ((512 : Int) < (y.size : Int)) = False := eq_false (by omega)
          by_cases hk0 : k = 0
          · rw [if_pos ⟨by rw [hP0 hk0]; exact lt_nil_key h3, h2, h3, h4⟩, <- hnx] at hg
            have e1 : ((k : Int) > 0) = False := eq_false (by omega)
            have e4 : ((0 : Int) < (k : Int)) = False := eq_false (by omega)
            have e5 : (0 < k) = False := eq_false (by omega)
            have HG2 := Lib.hid hg
            clear hg h3 h4 h2 hpv' hnx hP0 hk0
            refine St.wp_region_stage (fun _ wx => Below W2.heap.size W2 wx) (by kernel_rfl) (by kernel_rfl) (by kernel_rfl) (Below.refl _ _).drew ?_
            iterate 2
              (apply St.step_give
               · rfl
               · intro L wx hS hcl hrd
                 have c0 := hx0 wx hS
                 have c1 := hx1 wx hS
                 have t1 := ht1 wx hS
                 have t2 := ht2 wx hS
                 have t6 := ht6 wx hS
                 clear hcl hrd
                 go_simp
                 try with_reducible rfl
               · exact fun L wx hS => hS
               simp only [Act.put, St.pu])
            apply St.step_into
            · rfl
            · intro wx
              go_simp
              exact ⟨rfl, rfl⟩
            · exact fun L wx hS hcl hrd => kK wx hS
            simp only [Act.put, St.pu]
            iterate 2
              (apply St.step_give
               · rfl
               · intro L wx hS hcl hrd
                 clear hcl hrd
                 go_simp
                 try with_reducible rfl
               · exact fun L wx hS => hS
               simp only [Act.put, St.pu])
            iterate 5
              (apply St.step_give
               · rfl
               · intro L wx hS hcl hrd
                 have c0 := hx0 wx hS
                 have c1 := hx1 wx hS
                 have t1 := ht1 wx hS
                 have t2 := ht2 wx hS
                 have t6 := ht6 wx hS
                 clear hcl hrd
                 go_simp
                 try with_reducible rfl
               · exact fun L wx hS => hS
               simp only [Act.put, St.pu])
            apply St.step_into
            · rfl
            · intro wx
              go_simp
              exact ⟨rfl, rfl⟩
            · exact fun L wx hS hcl hrd => kH wx hS
            simp only [Act.put, St.pu]
            iterate 3
              (apply St.step_give
               · rfl
               · intro L wx hS hcl hrd
                 clear hcl hrd
                 go_simp
                 try with_reducible rfl
               · exact fun L wx hS => hS
               simp only [Act.put, St.pu])
            iterate 4
              (apply St.step_give
               · rfl
               · intro L wx hS hcl hrd
                 have c0 := hx0 wx hS
                 have c1 := hx1 wx hS
                 have t1 := ht1 wx hS
                 have t2 := ht2 wx hS
                 have t6 := ht6 wx hS
                 clear hcl hrd
                 go_simp
                 try with_reducible rfl
               · exact fun L wx hS => hS
               simp only [Act.put, St.pu])
            iterate 2
              (apply St.step_give
               · rfl
               · intro L wx hS hcl hrd
                 clear hcl hrd
                 go_simp
                 try with_reducible rfl
               · exact fun L wx hS => hS
               simp only [Act.put, St.pu])
            iterate 3
              (apply St.step_give
               · rfl
               · intro L wx hS hcl hrd
                 clear hcl hrd
                 go_simp
                 try with_reducible rfl
               · exact fun L wx hS => hS
               simp only [Act.put, St.pu])
            iterate 10
              (apply St.step_past
               · rfl
               · exact fun L wx hS => hS
               simp only [Act.put, St.pu])
            iterate 2
              (apply St.step_give
               · rfl
               · intro L wx hS hcl hrd
                 clear hcl hrd
                 go_simp
                 try with_reducible rfl
               · exact fun L wx hS => hS
               simp only [Act.put, St.pu])
            refine St.step_last ?_
            intro L9 wz hbz _
            clear kK kH hx0 hx1 ht1 ht2 ht6
            have hb9 := hbq.trans (hbz.mono hbq.size)
            have B9 := BQ.keep hbz
            go_wp2_with fail
            go_roundw
            case rel => exact ⟨k + 1, by omega, by go_num, HG2, B9, hb9⟩
            case measure => simp [intOf]; omega
          · obtain ⟨k', hk'⟩ : ∃ k', k' + 1 = k := ⟨k - 1, by omega⟩
            obtain ⟨xp, hpv, rfl⟩ := hpv' k' hk'
            have e1 : ((k : Int) > 0) = True := eq_true (by omega)
            have e4 : ((0 : Int) < (k : Int)) = True := eq_true (by omega)
            have e5 : (0 < k) = True := eq_true (by omega)
            have w4 : IntKind.i64.wrap ((k : Int) - 1) = (k' : Int) := by rw [IntKind.wrap_i64]; omega
            have w2' : (0 <= (k' : Int)) = True := eq_true (by omega)
            have w3 : ((k' : Int) < (N : Int)) = True := eq_true (by omega)
            rcases lt_tri xp.toList x.toList with h1 | h1 | h1
            · rw [if_pos ⟨h1, h2, h3, h4⟩, <- hnx] at hg
              have l1 : lt x.toList xp.toList = false := lt_asymm h1
              have l2 : (x.toList == xp.toList) = false := by rw [beq_eq_false_iff_ne]; intro e; rw [e, lt_irrefl] at h1; cases h1
              have HG2 := Lib.hid hg
              clear hg h1 h3 h4 h2 hpv' hnx hP0 hk0 hk'
              refine St.wp_region_stage (fun _ wx => Below W2.heap.size W2 wx) (by kernel_rfl) (by kernel_rfl) (by kernel_rfl) (Below.refl _ _).drew ?_
              iterate 2
                (apply St.step_give
                 · rfl
                 · intro L wx hS hcl hrd
                   have c0 := hx0 wx hS
                   have c1 := hx1 wx hS
                   have t1 := ht1 wx hS
                   have t2 := ht2 wx hS
                   have t6 := ht6 wx hS
                   have cp := hpv wx hS
                   clear hcl hrd
                   go_simp
                   try with_reducible rfl
                 · exact fun L wx hS => hS
                 simp only [Act.put, St.pu])
              apply St.step_into
              · rfl
              · intro wx
                go_simp
                exact ⟨rfl, rfl⟩
              · exact fun L wx hS hcl hrd => kK wx hS
              simp only [Act.put, St.pu]
              iterate 2
                (apply St.step_give
                 · rfl
                 · intro L wx hS hcl hrd
                   clear hcl hrd
                   go_simp
                   try with_reducible rfl
                 · exact fun L wx hS => hS
                 simp only [Act.put, St.pu])
              iterate 5
                (apply St.step_give
                 · rfl
                 · intro L wx hS hcl hrd
                   have c0 := hx0 wx hS
                   have c1 := hx1 wx hS
                   have t1 := ht1 wx hS
                   have t2 := ht2 wx hS
                   have t6 := ht6 wx hS
                   have cp := hpv wx hS
                   clear hcl hrd
                   go_simp
                   try with_reducible rfl
                 · exact fun L wx hS => hS
                 simp only [Act.put, St.pu])
              apply St.step_into
              · rfl
              · intro wx
                go_simp
                exact ⟨rfl, rfl⟩
              · exact fun L wx hS hcl hrd => kH wx hS
              simp only [Act.put, St.pu]
              iterate 3
                (apply St.step_give
                 · rfl
                 · intro L wx hS hcl hrd
                   clear hcl hrd
                   go_simp
                   try with_reducible rfl
                 · exact fun L wx hS => hS
                 simp only [Act.put, St.pu])
              iterate 4
                (apply St.step_give
                 · rfl
                 · intro L wx hS hcl hrd
                   have c0 := hx0 wx hS
                   have c1 := hx1 wx hS
                   have t1 := ht1 wx hS
                   have t2 := ht2 wx hS
                   have t6 := ht6 wx hS
                   have cp := hpv wx hS
                   clear hcl hrd
                   go_simp
                   try with_reducible rfl
                 · exact fun L wx hS => hS
                 simp only [Act.put, St.pu])
              iterate 2
                (apply St.step_give
                 · rfl
                 · intro L wx hS hcl hrd
                   clear hcl hrd
                   go_simp
                   try with_reducible rfl
                 · exact fun L wx hS => hS
                 simp only [Act.put, St.pu])
              iterate 3
                (apply St.step_give
                 · rfl
                 · intro L wx hS hcl hrd
                   clear hcl hrd
                   go_simp
                   try with_reducible rfl
                 · exact fun L wx hS => hS
                 simp only [Act.put, St.pu])
              iterate 9
                (apply St.step_give
                 · rfl
                 · intro L wx hS hcl hrd
                   have c0 := hx0 wx hS
                   have c1 := hx1 wx hS
                   have t1 := ht1 wx hS
                   have t2 := ht2 wx hS
                   have t6 := ht6 wx hS
                   have cp := hpv wx hS
                   clear hcl hrd
                   go_simp
                   try with_reducible rfl
                 · exact fun L wx hS => hS
                 simp only [Act.put, St.pu])
              iterate 1
                (apply St.step_give
                 · rfl
                 · intro L wx hS hcl hrd
                   clear hcl hrd
                   go_simp
                   try with_reducible rfl
                 · exact fun L wx hS => hS
                 simp only [Act.put, St.pu])
              iterate 2
                (apply St.step_give
                 · rfl
                 · intro L wx hS hcl hrd
                   clear hcl hrd
                   go_simp
                   try with_reducible rfl
                 · exact fun L wx hS => hS
                 simp only [Act.put, St.pu])
              refine St.step_last ?_
              intro L9 wz hbz _
              clear kK kH hx0 hx1 ht1 ht2 ht6
              have hb9 := hbq.trans (hbz.mono hbq.size)
              have B9 := BQ.keep hbz
              go_wp2_with fail
              go_roundw
              case rel => exact ⟨k + 1, by omega, by go_num, HG2, B9, hb9⟩
              case measure => simp [intOf]; omega
            · rw [if_neg (fun h => by rw [h1, lt_irrefl] at h; exact absurd h.1 (by simp))] at hg
              have l1 : lt x.toList xp.toList = false := by rw [h1]; exact lt_irrefl _
              have l2 : (x.toList == xp.toList) = true := by rw [h1]; simp
              have HG2 := Lib.hid hg
              clear hg h1 h3 h4 h2 hpv' hnx hP0 hk0 hk'
              refine St.wp_region_stage (fun _ wx => Below W2.heap.size W2 wx) (by kernel_rfl) (by kernel_rfl) (by kernel_rfl) (Below.refl _ _).drew ?_
              iterate 2
                (apply St.step_give
                 · rfl
                 · intro L wx hS hcl hrd
                   have c0 := hx0 wx hS
                   have c1 := hx1 wx hS
                   have t1 := ht1 wx hS
                   have t2 := ht2 wx hS
                   have t6 := ht6 wx hS
                   have cp := hpv wx hS
                   clear hcl hrd
                   go_simp
                   try with_reducible rfl
                 · exact fun L wx hS => hS
                 simp only [Act.put, St.pu])
              apply St.step_into
              · rfl
              · intro wx
                go_simp
                exact ⟨rfl, rfl⟩
              · exact fun L wx hS hcl hrd => kK wx hS
              simp only [Act.put, St.pu]
              iterate 2
                (apply St.step_give
                 · rfl
                 · intro L wx hS hcl hrd
                   clear hcl hrd
                   go_simp
                   try with_reducible rfl
                 · exact fun L wx hS => hS
                 simp only [Act.put, St.pu])
              iterate 5
                (apply St.step_give
                 · rfl
                 · intro L wx hS hcl hrd
                   have c0 := hx0 wx hS
                   have c1 := hx1 wx hS
                   have t1 := ht1 wx hS
                   have t2 := ht2 wx hS
                   have t6 := ht6 wx hS
                   have cp := hpv wx hS
                   clear hcl hrd
                   go_simp
                   try with_reducible rfl
                 · exact fun L wx hS => hS
                 simp only [Act.put, St.pu])
              apply St.step_into
              · rfl
              · intro wx
                go_simp
                exact ⟨rfl, rfl⟩
              · exact fun L wx hS hcl hrd => kH wx hS
              simp only [Act.put, St.pu]
              iterate 3
                (apply St.step_give
                 · rfl
                 · intro L wx hS hcl hrd
                   clear hcl hrd
                   go_simp
                   try with_reducible rfl
                 · exact fun L wx hS => hS
                 simp only [Act.put, St.pu])
              iterate 4
                (apply St.step_give
                 · rfl
                 · intro L wx hS hcl hrd
                   have c0 := hx0 wx hS
                   have c1 := hx1 wx hS
                   have t1 := ht1 wx hS
                   have t2 := ht2 wx hS
                   have t6 := ht6 wx hS
                   have cp := hpv wx hS
                   clear hcl hrd
                   go_simp
                   try with_reducible rfl
                 · exact fun L wx hS => hS
                 simp only [Act.put, St.pu])
              iterate 2
                (apply St.step_give
                 · rfl
                 · intro L wx hS hcl hrd
                   clear hcl hrd
                   go_simp
                   try with_reducible rfl
                 · exact fun L wx hS => hS
                 simp only [Act.put, St.pu])
              iterate 3
                (apply St.step_give
                 · rfl
                 · intro L wx hS hcl hrd
                   clear hcl hrd
                   go_simp
                   try with_reducible rfl
                 · exact fun L wx hS => hS
                 simp only [Act.put, St.pu])
              iterate 9
                (apply St.step_give
                 · rfl
                 · intro L wx hS hcl hrd
                   have c0 := hx0 wx hS
                   have c1 := hx1 wx hS
                   have t1 := ht1 wx hS
                   have t2 := ht2 wx hS
                   have t6 := ht6 wx hS
                   have cp := hpv wx hS
                   clear hcl hrd
                   go_simp
                   try with_reducible rfl
                 · exact fun L wx hS => hS
                 simp only [Act.put, St.pu])
              iterate 1
                (apply St.step_give
                 · rfl
                 · intro L wx hS hcl hrd
                   clear hcl hrd
                   go_simp
                   try with_reducible rfl
                 · exact fun L wx hS => hS
                 simp only [Act.put, St.pu])
              iterate 2
                (apply St.step_give
                 · rfl
                 · intro L wx hS hcl hrd
                   clear hcl hrd
                   go_simp
                   try with_reducible rfl
                 · exact fun L wx hS => hS
                 simp only [Act.put, St.pu])
              refine St.step_last ?_
              intro L9 wz hbz _
              clear kK kH hx0 hx1 ht1 ht2 ht6
              go_wp2_with fail
              go_ret
              exact ⟨by rw [<- HG2.out]; rfl, hbq.trans (hbz.mono hbq.size)⟩
            · rw [if_neg (fun h => by rw [lt_asymm h1] at h; exact absurd h.1 (by simp))] at hg
              have l1 : lt x.toList xp.toList = true := h1
              have HG2 := Lib.hid hg
              clear hg h1 h3 h4 h2 hpv' hnx hP0 hk0 hk'
              refine St.wp_region_stage (fun _ wx => Below W2.heap.size W2 wx) (by kernel_rfl) (by kernel_rfl) (by kernel_rfl) (Below.refl _ _).drew ?_
              iterate 2
                (apply St.step_give
                 · rfl
                 · intro L wx hS hcl hrd
                   have c0 := hx0 wx hS
                   have c1 := hx1 wx hS
                   have t1 := ht1 wx hS
                   have t2 := ht2 wx hS
                   have t6 := ht6 wx hS
                   have cp := hpv wx hS
                   clear hcl hrd
                   go_simp
                   try with_reducible rfl
                 · exact fun L wx hS => hS
                 simp only [Act.put, St.pu])
              apply St.step_into
              · rfl
              · intro wx
                go_simp
                exact ⟨rfl, rfl⟩
              · exact fun L wx hS hcl hrd => kK wx hS
              simp only [Act.put, St.pu]
              iterate 2
                (apply St.step_give
                 · rfl
                 · intro L wx hS hcl hrd
                   clear hcl hrd
                   go_simp
                   try with_reducible rfl
                 · exact fun L wx hS => hS
                 simp only [Act.put, St.pu])
              iterate 5
                (apply St.step_give
                 · rfl
                 · intro L wx hS hcl hrd
                   have c0 := hx0 wx hS
                   have c1 := hx1 wx hS
                   have t1 := ht1 wx hS
                   have t2 := ht2 wx hS
                   have t6 := ht6 wx hS
                   have cp := hpv wx hS
                   clear hcl hrd
                   go_simp
                   try with_reducible rfl
                 · exact fun L wx hS => hS
                 simp only [Act.put, St.pu])
              apply St.step_into
              · rfl
              · intro wx
                go_simp
                exact ⟨rfl, rfl⟩
              · exact fun L wx hS hcl hrd => kH wx hS
              simp only [Act.put, St.pu]
              iterate 3
                (apply St.step_give
                 · rfl
                 · intro L wx hS hcl hrd
                   clear hcl hrd
                   go_simp
                   try with_reducible rfl
                 · exact fun L wx hS => hS
                 simp only [Act.put, St.pu])
              iterate 4
                (apply St.step_give
                 · rfl
                 · intro L wx hS hcl hrd
                   have c0 := hx0 wx hS
                   have c1 := hx1 wx hS
                   have t1 := ht1 wx hS
                   have t2 := ht2 wx hS
                   have t6 := ht6 wx hS
                   have cp := hpv wx hS
                   clear hcl hrd
                   go_simp
                   try with_reducible rfl
                 · exact fun L wx hS => hS
                 simp only [Act.put, St.pu])
              iterate 2
                (apply St.step_give
                 · rfl
                 · intro L wx hS hcl hrd
                   clear hcl hrd
                   go_simp
                   try with_reducible rfl
                 · exact fun L wx hS => hS
                 simp only [Act.put, St.pu])
              iterate 3
                (apply St.step_give
                 · rfl
                 · intro L wx hS hcl hrd
                   clear hcl hrd
                   go_simp
                   try with_reducible rfl
                 · exact fun L wx hS => hS
                 simp only [Act.put, St.pu])
              iterate 9
                (apply St.step_give
                 · rfl
                 · intro L wx hS hcl hrd
                   have c0 := hx0 wx hS
                   have c1 := hx1 wx hS
                   have t1 := ht1 wx hS
                   have t2 := ht2 wx hS
                   have t6 := ht6 wx hS
                   have cp := hpv wx hS
                   clear hcl hrd
                   go_simp
                   try with_reducible rfl
                 · exact fun L wx hS => hS
                 simp only [Act.put, St.pu])
              iterate 1
                (apply St.step_give
                 · rfl
                 · intro L wx hS hcl hrd
                   clear hcl hrd
                   go_simp
                   try with_reducible rfl
                 · exact fun L wx hS => hS
                 simp only [Act.put, St.pu])
              iterate 2
                (apply St.step_give
                 · rfl
                 · intro L wx hS hcl hrd
                   clear hcl hrd
                   go_simp
                   try with_reducible rfl
                 · exact fun L wx hS => hS
                 simp only [Act.put, St.pu])
              refine St.step_last ?_
              intro L9 wz hbz _
              clear kK kH hx0 hx1 ht1 ht2 ht6
              go_wp2_with fail
              go_ret
              exact ⟨by rw [<- HG2.out]; rfl, hbq.trans (hbz.mono hbq.size)⟩
end Go.Proofs.YthcmnkmfhgoddaaGreatDoor.Dp

/-
  The program's May. Conditions: plots that may be; lengths at most 2^47; the library's variables hold what their types allow.
-/
import Derived.Test.YtlcobgpgggegdaaGreatDoorPtNOA
import Derived.Test.YtlcobgpgggegdaaGreatDoorDsSMA
namespace Go.Proofs.YtlcobgpgggegdaaGreatDoor.Mb
open Go.RowKit Bnd
open Go.Proofs.YtlcobgpgggegdaaGreatDoor.Ds (De SM ArgM isD sameD BoxD)
open Go.Proofs.YtlcobgpgggegdaaGreatDoor.Od (Rep BoxR BoxA rv av)
open Go.Proofs.YtlcobgpgggegdaaGreatDoor.Dp (Ph Pl BoxP qv HA HP isP)
open Go.Proofs.YtlcobgpgggegdaaGreatDoor.Pt (Oc Fh fv ApplyOut applyC mayP BoxF)

theorem isCh_no {x : Od.Ask} (h : isCh x = false) : x.kind ≠ 10 ∧ x.kind ≠ 11 := by
  unfold isCh at h
  have := of_decide_eq_false h
  omega
theorem isCh_yes {x : Od.Ask} (h : isCh x = true) : x.kind = 10 ∨ x.kind = 11 := by
  unfold isCh at h
  exact of_decide_eq_true h

/-- what is behind Apply: whether the reply is OK, and the descriptor is another one -/
def endM (oc : Oc) (d : De) : Bool := decide (oc.r.code = 0) && !sameD oc.p.d d
theorem may_end {o : Ph} {x : Od.Ask} {oc : Oc} (h : isCh x = true) (ho : oc.out = applyC o.pl x) : mayP o.pl x = endM oc o.d := by
  unfold Pt.mayP endM
  rw [h, ← ho]
  rfl
theorem applyC_is {p : Pl} {x : Od.Ask} (hd : isD p.d = true) : isD (applyC p x).1.d = true := by
  have hb : isD (Pt.becameP p (changeD p.d x)).1.d = true := by
    unfold Pt.becameP
    by_cases h0 : (changeD p.d x).2 = 0
    · rw [if_pos h0]
      exact (change_is (d := p.d) (x := (changeD p.d x).1) (o := x) (by rw [← h0])).1
    · rw [if_neg h0]
      exact hd
  unfold Pt.applyC
  split
  · exact hd
  · unfold Pt.endP Pt.noteP
    (repeat' split) <;> first | exact hb | exact hd
set_option maxHeartbeats 32000000 in
set_option maxRecDepth 100000 in
theorem may_any (o : Ph) (x : Od.Ask) (w : World) (h : HA w o) (hP : isP o.pl = true)
    (hk : x.key.size ≤ 140737488355328) (ht : x.til.size ≤ 140737488355328) (hv : x.val.size ≤ 140737488355328) (hg : Good w) :
    Calls Tryz.prog 23 #[qv o, av x] w fun e w' => e = .returned (.bool (mayP o.pl x)) ∧ Below w.heap.size w w' := by
  have hp := h.hp
  have hd : isD o.d = true := Dp.isP_d hP
  obtain ⟨W0, hW0⟩ : ∃ W0, (w.alloc (.cells #[.int .i64 o.d.id, .string o.d.f, .string o.d.t, .int .i64 o.d.gen, o.sm, .int .i64 o.d.next, o.sp, o.sz, .bool o.fr, o.se, .int .i64 o.al] 38)).alloc (.cells #[.int .i64 x.kind, .int .i64 x.client, .int .i64 x.seq, .string x.key, .string x.til, .string x.val, .string x.old, .bool x.has, .int .i64 x.lim, .int .i64 x.id, .int .i64 x.node] 40) = W0 := ⟨_, rfl⟩
  have BP : BoxP w.heap.size o W0 := hW0 ▸ (BoxP.new w o).alloc _
  have BA : BoxA (w.heap.size + 1) x W0 := by
    have := BoxA.new (w.alloc (.cells #[.int .i64 o.d.id, .string o.d.f, .string o.d.t, .int .i64 o.d.gen, o.sm, .int .i64 o.d.next, o.sp, o.sz, .bool o.fr, o.se, .int .i64 o.al] 38)) x
    rw [World.size_alloc] at this
    rw [← hW0]
    exact this
  have hb0 : Below w.heap.size w W0 := hW0 ▸ (by (repeat' (first | with_reducible assumption | with_reducible exact Below.refl _ _ | with_reducible refine Below.alloc ?_ ?_ _ | with_reducible refine Below.setCell ?_ ?_ _ | with_reducible refine Below.drew ?_ | omega | (simp; done) | (simp; omega))))
  cases hc : isCh x with
  | false =>
    obtain ⟨h10, h11⟩ := isCh_no hc
    have n1 : (x.kind != 10) = true := by simpa using h10
    have n2 : (x.kind != 11) = true := by simpa using h11
    have n3 : (x.kind == 10) = false := by simpa using h10
    have n4 : (x.kind == 11) = false := by simpa using h11
    rw [show mayP o.pl x = false by unfold Pt.mayP; rw [hc]; rfl]
    obtain ⟨d, ps, zs, fr, ea, al, A, B, C, D, a, b, c, e, rfl⟩ := hp.open
    obtain ⟨k, client, seq, key, til, val, old, has, lim, id, node⟩ := x
    simp only at n1 n2 n3 n4
    clear h hP hk ht hv hg hp hd hc h10 h11
    obtain ⟨q_0, ⟨q_1, q_2, q_3, q_4, q_5, q_6, q_7, q_8, q_9, q_10, q_11⟩, q_12⟩ := _root_.id BA
    go_enter Tryz.func23, Tryz.ntmps23
    go_wp2_with fail
    go_ret
    exact ⟨rfl, hb0⟩
  | true =>
    have cA := fun w' (hb : Below w.heap.size w w') => Pt.apply_any o x w' (h.keep hb) hP hc hk ht hv (hg.below hb)
    have cS := fun (oc : Oc) w' (h1 : SM w' w'.heap.size oc.p.sm oc.p.d.ms) (h2 : SM w' w'.heap.size o.sm o.d.ms) (hl : oc.p.d.ms.length ≤ 1000000000) => Ds.same_any oc.p.d o.d oc.p.sm o.sm w' h1 h2 hl (by have := (Dp.isD_sizes hd).2.2; omega)
    have hme := fun oc => may_end (o := o) (x := x) (oc := oc) hc
    have HME := Lib.hid hme
    have HHA := Lib.hid h
    have hisf : ∀ oc : Oc, oc.out = applyC o.pl x → isD oc.p.d = true := fun oc e => by
      have := applyC_is (p := o.pl) (x := x) hd
      rw [← e] at this
      exact this
    have HIS := Lib.hid hisf
    have hcc := isCh_yes hc
    obtain ⟨d, ps, zs, fr, ea, al, A, B, C, D, a, b, c, e, rfl⟩ := hp.open
    obtain ⟨k, client, seq, key, til, val, old, has, lim, id, node⟩ := x
    simp only at hcc cS
    obtain ⟨nm, hnm⟩ : ∃ n, d.ms.length = n := ⟨_, rfl⟩
    obtain ⟨np, hnp⟩ : ∃ n, ps.length = n := ⟨_, rfl⟩
    obtain ⟨nz, hnz⟩ : ∃ n, zs.length = n := ⟨_, rfl⟩
    obtain ⟨ne, hne⟩ : ∃ n, ea.length = n := ⟨_, rfl⟩
    rw [hnm, hnp, hnz, hne] at cA BP HHA HME HIS hW0 ⊢
    rw [hnm] at cS
    obtain ⟨MY, hMY⟩ : ∃ m, mayP (Ph.pl ⟨d, .slice A nm a, ps, .slice B np b, zs, .slice C nz c, fr, ea, .slice D ne e, al⟩) ⟨k, client, seq, key, til, val, old, has, lim, id, node⟩ = m := ⟨_, rfl⟩
    rw [hMY] at HME ⊢
    clear h hP hk ht hv hg hp hd hc hme hisf hnm hnp hnz hne hMY
    rcases hcc with rfl | rfl
    all_goals
      obtain ⟨p_0, ⟨p_1, p_2, p_3, p_4, p_5, p_6, p_7, p_8, p_9, p_10, p_11⟩, p_12⟩ := _root_.id BP
      obtain ⟨q_0, ⟨q_1, q_2, q_3, q_4, q_5, q_6, q_7, q_8, q_9, q_10, q_11⟩, q_12⟩ := _root_.id BA
      go_enter Tryz.func23, Tryz.ntmps23
      go_wp2_with fail
      try rw [hW0]
      refine (cA _ hb0).mono ?_
      rintro e' w1 ⟨oc, rfl, ho, ha, hri, hrs, b1⟩
      have hmy := HME.out oc ho
      have hisd := HIS.out oc ho
      obtain ⟨d1, ps1, zs1, fr1, ea1, al1, A1, B1, C1, D1, a1, b1', c1, e1, hoc⟩ := ha.hp.open
      obtain ⟨d2, ps2, zs2, fr2, ea2, al2, A2, B2, C2, D2, a2, b2', c2, e2, hri'⟩ := hri.hp.open
      obtain ⟨A3, c3, hrs'⟩ := hrs
      obtain ⟨ocp, ⟨rcode, rerr, rhas, rval, rps⟩, ocrs, ⟨sl, ocri, eaten⟩⟩ := oc
      simp only at hoc hri' hrs' hmy ha hisd
      subst hoc hri' hrs'
      have cS1 := cS ⟨⟨d1, .slice A1 d1.ms.length a1, ps1, .slice B1 ps1.length b1', zs1, .slice C1 zs1.length c1, fr1, ea1, .slice D1 ea1.length e1, al1⟩, ⟨rcode, rerr, rhas, rval, rps⟩, .slice A3 rps.length c3, ⟨sl, ⟨d2, .slice A2 d2.ms.length a2, ps2, .slice B2 ps2.length b2', zs2, .slice C2 zs2.length c2, fr2, ea2, .slice D2 ea2.length e2, al2⟩, eaten⟩⟩
      have hl1 : d1.ms.length ≤ 1000000000 := by have : d1.ms.length ≤ 5 := (Dp.isD_sizes hisd).2.2; omega
      obtain ⟨n1, hn1⟩ : ∃ n, d1.ms.length = n := ⟨_, rfl⟩
      obtain ⟨m1, hm1⟩ : ∃ n, ps1.length = n := ⟨_, rfl⟩
      obtain ⟨l1, hl1'⟩ : ∃ n, zs1.length = n := ⟨_, rfl⟩
      obtain ⟨k1, hk1⟩ : ∃ n, ea1.length = n := ⟨_, rfl⟩
      obtain ⟨n2, hn2⟩ : ∃ n, d2.ms.length = n := ⟨_, rfl⟩
      obtain ⟨m2, hm2⟩ : ∃ n, ps2.length = n := ⟨_, rfl⟩
      obtain ⟨l2, hl2'⟩ : ∃ n, zs2.length = n := ⟨_, rfl⟩
      obtain ⟨k2, hk2⟩ : ∃ n, ea2.length = n := ⟨_, rfl⟩
      obtain ⟨n3, hn3⟩ : ∃ n, rps.length = n := ⟨_, rfl⟩
      have hsm1 := ha.hp.sm
      have hsm0 := HHA.out.hp.sm
      simp only at cS1 hsm1 hsm0
      rw [hn1, hm1, hl1', hk1, hn2, hm2, hl2', hk2, hn3]
      rw [hn1] at cS1 hsm1 hl1
      clear hn1 hm1 hl1' hk1 hn2 hm2 hl2' hk2 hn3 ho ha hri hisd HHA HME HIS cA cS
      have hb1 := hb0.trans (b1.mono hb0.size)
      obtain ⟨W2, hW2⟩ : ∃ W2, ((w1.alloc (.cells #[.int .i64 d1.id, .string d1.f, .string d1.t, .int .i64 d1.gen, .slice A1 n1 a1, .int .i64 d1.next, .slice B1 m1 b1', .slice C1 l1 c1, .bool fr1, .slice D1 k1 e1, .int .i64 al1] 38)).alloc (.cells #[.int .i64 rcode, .int .i64 rerr, .bool rhas, .string rval, .slice A3 n3 c3] 85)).alloc (.cells #[.bool sl, .int .i64 d2.id, .string d2.f, .string d2.t, .int .i64 d2.gen, .slice A2 n2 a2, .int .i64 d2.next, .slice B2 m2 b2', .slice C2 l2 c2, .bool fr2, .slice D2 k2 e2, .int .i64 al2, .int .i64 eaten] 87) = W2 := ⟨_, rfl⟩
      have h12 : Below w1.heap.size w1 W2 := hW2 ▸ (by (repeat' (first | with_reducible assumption | with_reducible exact Below.refl _ _ | with_reducible refine Below.alloc ?_ ?_ _ | with_reducible refine Below.setCell ?_ ?_ _ | with_reducible refine Below.drew ?_ | omega | (simp; done) | (simp; omega))))
      have BP2 := (BP.keep b1).keep h12
      have BN : BoxP w1.heap.size ⟨d1, .slice A1 n1 a1, ps1, .slice B1 m1 b1', zs1, .slice C1 l1 c1, fr1, ea1, .slice D1 k1 e1, al1⟩ W2 := hW2 ▸ ((BoxP.new w1 ⟨d1, .slice A1 n1 a1, ps1, .slice B1 m1 b1', zs1, .slice C1 l1 c1, fr1, ea1, .slice D1 k1 e1, al1⟩).alloc _).alloc _
      have BR : BoxR (w1.heap.size + 1) ⟨rcode, rerr, rhas, rval, rps⟩ (.slice A3 n3 c3) W2 := by
        have := (BoxR.new (w1.alloc (.cells #[.int .i64 d1.id, .string d1.f, .string d1.t, .int .i64 d1.gen, .slice A1 n1 a1, .int .i64 d1.next, .slice B1 m1 b1', .slice C1 l1 c1, .bool fr1, .slice D1 k1 e1, .int .i64 al1] 38)) ⟨rcode, rerr, rhas, rval, rps⟩ (.slice A3 n3 c3)).alloc (.cells #[.bool sl, .int .i64 d2.id, .string d2.f, .string d2.t, .int .i64 d2.gen, .slice A2 n2 a2, .int .i64 d2.next, .slice B2 m2 b2', .slice C2 l2 c2, .bool fr2, .slice D2 k2 e2, .int .i64 al2, .int .i64 eaten] 87)
        rw [World.size_alloc] at this
        rw [← hW2]
        exact this
      have hb2 := hb1.trans (h12.mono hb1.size)
      have cS2 := cS1 W2 ((hsm1.below h12).more h12.size) ((hsm0.below hb2).more hb2.size) hl1
      clear p_0 p_1 p_2 p_3 p_4 p_5 p_6 p_7 p_8 p_9 p_10 p_11 p_12
      clear q_0 q_1 q_2 q_3 q_4 q_5 q_6 q_7 q_8 q_9 q_10 q_11 q_12
      clear cS1 hsm1 hsm0 hl1 BA BP b1 hb0 hb1 hW0
      obtain ⟨p_0, ⟨p_1, p_2, p_3, p_4, p_5, p_6, p_7, p_8, p_9, p_10, p_11⟩, p_12⟩ := _root_.id BP2
      obtain ⟨q_0, ⟨q_1, q_2, q_3, q_4, q_5, q_6, q_7, q_8, q_9, q_10, q_11⟩, q_12⟩ := _root_.id BN
      obtain ⟨r_0, ⟨r_1, r_2, r_3, r_4, r_5⟩, r_6⟩ := _root_.id BR
      by_cases hcode : rcode = 0
      · subst hcode
        unfold endM at hmy
        simp only [decide_true, Bool.true_and] at hmy
        go_wp2_with fail
        try rw [hW2]
        clear hW2 h12
        go_wp2_with fail
        refine cS2.mono ?_
        rintro e' w3 ⟨rfl, b3⟩
        have hb3 := hb2.trans (b3.mono hb2.size)
        obtain ⟨SD, hSD⟩ : ∃ s, sameD d1 d = s := ⟨_, rfl⟩
        rw [hSD] at hmy ⊢
        subst hmy
        clear cS2 b3 hSD
        clear p_0 p_1 p_2 p_3 p_4 p_5 p_6 p_7 p_8 p_9 p_10 p_11 p_12
        clear q_0 q_1 q_2 q_3 q_4 q_5 q_6 q_7 q_8 q_9 q_10 q_11 q_12
        clear r_0 r_1 r_2 r_3 r_4 r_5 r_6
        clear BP2 BN BR hb2
        go_wp2_with fail
        go_ret
        exact ⟨rfl, hb3⟩
      · have n9 : (rcode == 0) = false := by simpa using hcode
        have n8 : (rcode = 0) = False := eq_false hcode
        unfold endM at hmy
        rw [show decide (rcode = 0) = false from decide_eq_false hcode] at hmy
        simp only [Bool.false_and] at hmy
        subst hmy
        clear hcode cS2
        go_wp2_with fail
        try rw [hW2]
        clear hW2 h12
        go_wp2_with fail
        go_ret
        exact ⟨rfl, hb2⟩
end Go.Proofs.YtlcobgpgggegdaaGreatDoor.Mb

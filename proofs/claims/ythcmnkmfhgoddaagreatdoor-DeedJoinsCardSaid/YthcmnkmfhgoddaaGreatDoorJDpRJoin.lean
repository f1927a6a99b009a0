/-
  Join, the document's. Conditions: plots that may be, of at most 100,000 pairs each.
-/
import Derived.Test.YthcmnkmfhgoddaaGreatDoorJDpTA
import Derived.Test.YthcmnkmfhgoddaaGreatDoorJSCatA
import Derived.Test.YthcmnkmfhgoddaaGreatDoorJDpSA
import Derived.Test.YthcmnkmfhgoddaaGreatDoorJDpRfA
import Derived.Test.YthcmnkmfhgoddaaGreatDoorJDpRJA
import Derived.Test.YthcmnkmfhgoddaaGreatDoorJDsJoin
import Derived.Test.YthcmnkmfhgoddaaGreatDoorJDpOJA
import Derived.Test.YthcmnkmfhgoddaaGreatDoorJSsMA
import Derived.Test.YthcmnkmfhgoddaaGreatDoorJSsSRA
namespace Go.Proofs.YthcmnkmfhgoddaaGreatDoor.Dp
open Go.RowKit Bnd
open Go.Proofs.YthcmnkmfhgoddaaGreatDoor.Ds (De SM OwnI OwnM ArgM ptr ptr_inj dv mergeD BoxD isD)
open Go.Proofs.YthcmnkmfhgoddaaGreatDoor.Ss (Ses Zs ses SZ PZ NoP OwnZ ArgZ mergeS)
open Go.Proofs.YthcmnkmfhgoddaaGreatDoor.Od (Pr SP OwnP ArgP)
set_option maxHeartbeats 16000000 in
set_option maxRecDepth 100000 in
theorem rjoin_any (l r : Ph) (w : World) (hl : HA w l) (hr : HA w r) (il : isP l.pl = true) (ir : isP r.pl = true) (nl : l.ps.length <= 100000) (nr : r.ps.length <= 100000) :
    Calls Tryz.prog 26 #[qv l, qv r] w (GaveP w (joinP l.pl r.pl)) := by
  have fl : Ds.Fit l.d := isD_fit (isP_d il)
  have fr : Ds.Fit r.d := isD_fit (isP_d ir)
  have zl : l.zs.length <= 64 := by have := isS_len (isP_s il); simpa [Ph.pl] using this
  have zr : r.zs.length <= 64 := by have := isS_len (isP_s ir); simpa [Ph.pl] using this
  have el : l.ea.length <= 200 := isP_ea il
  have er : r.ea.length <= 200 := isP_ea ir
  have hrs : Ss.riseB 0 (ses r.zs) = true := ((Ss.isS_iff _).1 (isP_s ir)).2
  clear il ir
  obtain ⟨d, sm, ps, sp, zs, sz, fz, ea, se, al⟩ := l
  obtain ⟨d', sm', ps', sp', zs', sz', fz', ea', se', al'⟩ := r
  obtain ⟨h1, h2, h3, h4, h5, h6, h7⟩ := hl
  obtain ⟨k1, k2, k3, k4, k5, k6, k7⟩ := hr
  simp only at h1 h2 h3 h4 h5 h6 h7 k1 k2 k3 k4 k5 k6 k7 fl fr zl zr el er hrs nl nr
  obtain ⟨fA, fa, rfl⟩ := h1.form
  obtain ⟨fB, fb, rfl⟩ := h2.sm.form
  obtain ⟨fC, fc, rfl⟩ := h3.form
  obtain ⟨fD, fd, rfl⟩ := h5.si.form
  obtain ⟨gA, ga, rfl⟩ := k1.form
  obtain ⟨gB, gb, rfl⟩ := k2.sm.form
  obtain ⟨gC, gc, rfl⟩ := k3.form
  obtain ⟨gD, gd, rfl⟩ := k5.si.form
  obtain ⟨o, ho⟩ : ∃ o : Ph, o = ⟨d, .slice fA d.ms.length fa, ps, .slice fB ps.length fb, zs, .slice fC zs.length fc, fz, ea, .slice fD ea.length fd, al⟩ := ⟨_, rfl⟩
  obtain ⟨p, hp⟩ : ∃ p : Ph, p = ⟨d', .slice gA d'.ms.length ga, ps', .slice gB ps'.length gb, zs', .slice gC zs'.length gc, fz', ea', .slice gD ea'.length gd, al'⟩ := ⟨_, rfl⟩
  obtain ⟨W1, hW1⟩ : ∃ W1, ((w.alloc (.cells #[.int .i64 d.id, .string d.f, .string d.t, .int .i64 d.gen, .slice fA d.ms.length fa, .int .i64 d.next, .slice fB ps.length fb, .slice fC zs.length fc, .bool fz, .slice fD ea.length fd, .int .i64 al] 38)).alloc (.cells #[.int .i64 d'.id, .string d'.f, .string d'.t, .int .i64 d'.gen, .slice gA d'.ms.length ga, .int .i64 d'.next, .slice gB ps'.length gb, .slice gC zs'.length gc, .bool fz', .slice gD ea'.length gd, .int .i64 al'] 38)).alloc (.cells #[.int .i64 0, .string ⟨#[]⟩, .string ⟨#[]⟩, .int .i64 0, .slice none 0 0, .int .i64 0, .slice none 0 0, .slice none 0 0, .bool false, .slice none 0 0, .int .i64 0] 38) = W1 := ⟨_, rfl⟩
  have B0 : BoxP w.heap.size ⟨d, .slice fA d.ms.length fa, ps, .slice fB ps.length fb, zs, .slice fC zs.length fc, fz, ea, .slice fD ea.length fd, al⟩ W1 := hW1 ▸ ((BoxP.new w ⟨d, .slice fA d.ms.length fa, ps, .slice fB ps.length fb, zs, .slice fC zs.length fc, fz, ea, .slice fD ea.length fd, al⟩).alloc _).alloc _
  have B1 : BoxP (w.heap.size + 1) ⟨d', .slice gA d'.ms.length ga, ps', .slice gB ps'.length gb, zs', .slice gC zs'.length gc, fz', ea', .slice gD ea'.length gd, al'⟩ W1 := by
    have := BoxP.new (w.alloc (.cells #[.int .i64 d.id, .string d.f, .string d.t, .int .i64 d.gen, .slice fA d.ms.length fa, .int .i64 d.next, .slice fB ps.length fb, .slice fC zs.length fc, .bool fz, .slice fD ea.length fd, .int .i64 al] 38)) ⟨d', .slice gA d'.ms.length ga, ps', .slice gB ps'.length gb, zs', .slice gC zs'.length gc, fz', ea', .slice gD ea'.length gd, al'⟩
    rw [World.size_alloc] at this
    rw [<- hW1]
    exact this.alloc _
  have Z2 : BoxP (w.heap.size + 2) Ph.zero W1 := by
    have := BoxP.zero ((w.alloc (.cells #[.int .i64 d.id, .string d.f, .string d.t, .int .i64 d.gen, .slice fA d.ms.length fa, .int .i64 d.next, .slice fB ps.length fb, .slice fC zs.length fc, .bool fz, .slice fD ea.length fd, .int .i64 al] 38)).alloc (.cells #[.int .i64 d'.id, .string d'.f, .string d'.t, .int .i64 d'.gen, .slice gA d'.ms.length ga, .int .i64 d'.next, .slice gB ps'.length gb, .slice gC zs'.length gc, .bool fz', .slice gD ea'.length gd, .int .i64 al'] 38))
    rw [hW1, World.size_alloc, World.size_alloc] at this
    exact this
  have ZE1 : ZE (w.heap.size + 2) W1 := by
    have := ZE.new ((w.alloc (.cells #[.int .i64 d.id, .string d.f, .string d.t, .int .i64 d.gen, .slice fA d.ms.length fa, .int .i64 d.next, .slice fB ps.length fb, .slice fC zs.length fc, .bool fz, .slice fD ea.length fd, .int .i64 al] 38)).alloc (.cells #[.int .i64 d'.id, .string d'.f, .string d'.t, .int .i64 d'.gen, .slice gA d'.ms.length ga, .int .i64 d'.next, .slice gB ps'.length gb, .slice gC zs'.length gc, .bool fz', .slice gD ea'.length gd, .int .i64 al'] 38))
    rw [World.size_alloc, World.size_alloc] at this
    rw [<- hW1]
    exact this
  have hz1 : W1.heap.size = w.heap.size + 3 := by rw [<- hW1]; simp
  have hbw1 : Below w.heap.size w W1 := by rw [<- hW1]; exact (((Below.refl _ w).alloc (Nat.le_refl _) _).alloc (by simp) _).alloc (by simp; omega) _
  have bad : ∀ Wx, BoxP (w.heap.size + 2) Ph.zero Wx -> Below w.heap.size w Wx -> BoxP (w.heap.size + 2) Ph.zero (putW Wx (w.heap.size + 2) Ph.zero) /\ Below w.heap.size w (putW Wx (w.heap.size + 2) Ph.zero) := fun Wx h hb => ⟨BoxP.put h Ph.zero, putW_below Ph.zero (by omega) hb⟩
  rw [<- ho, <- hp]
  have HO := Lib.hid ho
  have HP := Lib.hid hp
  have one : ∀ q : Int, (fz = true \/ fz = false /\ fz' = false) -> joinP o.pl p.pl = (Pl.zero, 90) := by
    intro q h
    unfold joinP
    rw [if_pos]
    rw [ho, hp]
    rcases h with h | h
    · exact .inl h
    · exact .inr h.2
  cases fz with
  | true =>
    rw [one 0 (.inl rfl)]
    obtain ⟨F, FB⟩ := bad W1 Z2 hbw1
    rw [ho, hp]
    clear one bad
    go_enter Tryz.func26, Tryz.ntmps26
    obtain ⟨p_0, ⟨p_1, p_2, p_3, p_4, p_5, p_6, p_7, p_8, p_9, p_10, p_11⟩, p_12⟩ := _root_.id B0
    obtain ⟨q_0, ⟨q_1, q_2, q_3, q_4, q_5, q_6, q_7, q_8, q_9, q_10, q_11⟩, q_12⟩ := _root_.id Z2
    go_wp2_with (rw [hW1])
    exact bodyPost_ret (res_BoxP_tmp Tryz.results26 rfl rfl F) rfl (GaveP.zero FB)
  | false =>
    cases fz' with
    | false =>
      rw [one 0 (.inr ⟨rfl, rfl⟩)]
      obtain ⟨F, FB⟩ := bad W1 Z2 hbw1
      rw [ho, hp]
      clear one bad
      go_enter Tryz.func26, Tryz.ntmps26
      obtain ⟨p_0, ⟨p_1, p_2, p_3, p_4, p_5, p_6, p_7, p_8, p_9, p_10, p_11⟩, p_12⟩ := _root_.id B0
      obtain ⟨r_0, ⟨r_1, r_2, r_3, r_4, r_5, r_6, r_7, r_8, r_9, r_10, r_11⟩, r_12⟩ := _root_.id B1
      obtain ⟨q_0, ⟨q_1, q_2, q_3, q_4, q_5, q_6, q_7, q_8, q_9, q_10, q_11⟩, q_12⟩ := _root_.id Z2
      go_wp2_with (rw [hW1])
      exact bodyPost_ret (res_BoxP_tmp Tryz.results26 rfl rfl F) rfl (GaveP.zero FB)
    | true =>
      clear one
      obtain ⟨x, ed, hD⟩ : ∃ x ed, mergeD d d' = (x, ed) := ⟨_, _, rfl⟩
      obtain ⟨ss, es, hS⟩ : ∃ ss es, mergeS (ses zs) (ses zs') = (ss, es) := ⟨_, _, rfl⟩
      obtain ⟨E, hE⟩ : ∃ E, eatsE (eatE d'.id ea) ea' = E := ⟨_, rfl⟩
      obtain ⟨ans, hans⟩ : ∃ ans, joinP o.pl p.pl = ans := ⟨_, rfl⟩
      have hr : ans = if d'.id ∈ ea then (Pl.zero, 8) else if ed = 0 then if es = 0 then if E.length <= 200 then (⟨x, ps ++ ps', ss, false, E, al⟩, 0) else (Pl.zero, 6) else (Pl.zero, es) else (Pl.zero, ed) := by
        rw [<- hans, ho, hp, <- hE]
        unfold joinP
        rw [if_neg (by simp [Ph.pl])]
        simp only [Ph.pl, hD, hS]
      rw [hans]
      have HR := Lib.hid hr
      have cc := rhas_any (.slice fD ea.length fd) ea d'.id W1 (h5.keep hbw1).si (by omega)
      rw [ho, hp]
      clear hr hans
      go_enter Tryz.func26, Tryz.ntmps26
      obtain ⟨p_0, ⟨p_1, p_2, p_3, p_4, p_5, p_6, p_7, p_8, p_9, p_10, p_11⟩, p_12⟩ := _root_.id B0
      obtain ⟨r_0, ⟨r_1, r_2, r_3, r_4, r_5, r_6, r_7, r_8, r_9, r_10, r_11⟩, r_12⟩ := _root_.id B1
      go_wp2_with (rw [hW1])
      refine cc.mono ?_
      rintro e w2 ⟨rfl, rfl⟩
      by_cases hin : d'.id ∈ ea
      · have hr := HR.out
        rw [if_pos hin] at hr
        have HR := Lib.hid hr
        obtain ⟨F, FB⟩ := bad W1 Z2 hbw1
        have hd : decide (d'.id ∈ ea) = true := by simpa using hin
        rw [hd]
        obtain ⟨q_0, ⟨q_1, q_2, q_3, q_4, q_5, q_6, q_7, q_8, q_9, q_10, q_11⟩, q_12⟩ := _root_.id Z2
        clear hr hin hd
        go_wp2_with fail
        exact bodyPost_ret (res_BoxP_tmp Tryz.results26 rfl rfl F) rfl (by rw [HR.out]; exact GaveP.zero FB)
      · have hr := HR.out
        rw [if_neg hin] at hr
        have HR := Lib.hid hr
        have hd : decide (d'.id ∈ ea) = false := by simpa using hin
        rw [hd]
        have cm := Ds.rmerge_any d d' (.slice fA d.ms.length fa) (.slice gA d'.ms.length ga) W1 (h1.keep hbw1) (k1.keep hbw1) fl fr
        rw [hD] at cm
        clear hr hin hd cc
        go_wp2_with fail
        ((try clear p_0); (try clear p_1); (try clear p_2); (try clear p_3); (try clear p_4); (try clear p_5); (try clear p_6); (try clear p_7); (try clear p_8); (try clear p_9); (try clear p_10); (try clear p_11); (try clear p_12))
        ((try clear r_0); (try clear r_1); (try clear r_2); (try clear r_3); (try clear r_4); (try clear r_5); (try clear r_6); (try clear r_7); (try clear r_8); (try clear r_9); (try clear r_10); (try clear r_11); (try clear r_12))
        refine cm.mono ?_
        rintro e w3 ⟨s3, rfl, a3, b3⟩
        obtain ⟨hA, ha, rfl⟩ := a3.form
        obtain ⟨W4, hW4⟩ : ∃ W4, w3.alloc (.cells #[.int .i64 x.id, .string x.f, .string x.t, .int .i64 x.gen, .slice hA x.ms.length ha, .int .i64 x.next] 26) = W4 := ⟨_, rfl⟩
        have b4 : Below w3.heap.size w3 W4 := hW4 ▸ (Below.refl _ w3).alloc (Nat.le_refl _) _
        have X4 : BoxD w3.heap.size x (.slice hA x.ms.length ha) W4 := hW4 ▸ BoxD.new w3 x (.slice hA x.ms.length ha)
        have L4 := (B0.keep b3).keep b4
        have R4 := (B1.keep b3).keep b4
        have Z4 := (Z2.keep b3).keep b4
        have ZE4 := (ZE1.keep b3).keep b4
        have a4 := a3.keep b4
        have hz3 := b3.size
        have hz4 := b4.size
        have hb4 : Below w.heap.size w W4 := (hbw1.trans (b3.mono (by omega))).trans (b4.mono (by omega))
        by_cases hed : ed = 0
        rotate_left
        · have hr := HR.out
          rw [if_neg hed] at hr
          have HR := Lib.hid hr
          obtain ⟨F, FB⟩ := bad W4 Z4 hb4
          have e1 : (ed == 0) = false := by simpa using hed
          have e2 : (ed != 0) = true := by simpa using hed
          have e3 : (ed = 0) = False := eq_false hed
          obtain ⟨q_0, ⟨q_1, q_2, q_3, q_4, q_5, q_6, q_7, q_8, q_9, q_10, q_11⟩, q_12⟩ := _root_.id Z4
          clear hr hed
          go_wp2_with (rw [hW4])
          exact bodyPost_ret (res_BoxP_tmp Tryz.results26 rfl rfl F) rfl (by rw [HR.out]; exact GaveP.zero FB)
        · subst hed
          have hr := HR.out
          rw [if_pos rfl] at hr
          have HR := Lib.hid hr
          have cs := Ss.rmerge_any (.slice fC zs.length fc) (.slice gC zs'.length gc) zs zs' W4 (h3.keep hb4) (k3.keep hb4).sz h4 k4 (by omega) (by omega) hrs
          rw [hS] at cs
          obtain ⟨p_0, ⟨p_1, p_2, p_3, p_4, p_5, p_6, p_7, p_8, p_9, p_10, p_11⟩, p_12⟩ := _root_.id L4
          obtain ⟨r_0, ⟨r_1, r_2, r_3, r_4, r_5, r_6, r_7, r_8, r_9, r_10, r_11⟩, r_12⟩ := _root_.id R4
          clear hr
          go_wp2_with (rw [hW4])
          ((try clear p_0); (try clear p_1); (try clear p_2); (try clear p_3); (try clear p_4); (try clear p_5); (try clear p_6); (try clear p_7); (try clear p_8); (try clear p_9); (try clear p_10); (try clear p_11); (try clear p_12))
          ((try clear r_0); (try clear r_1); (try clear r_2); (try clear r_3); (try clear r_4); (try clear r_5); (try clear r_6); (try clear r_7); (try clear r_8); (try clear r_9); (try clear r_10); (try clear r_11); (try clear r_12))
          refine cs.mono ?_
          rintro e w5 ⟨s5, zs2, rfl, hss, a5, n5, b5⟩
          obtain ⟨jC, jc, rfl⟩ := a5.form
          have L5 := L4.keep b5
          have R5 := R4.keep b5
          have Z5 := Z4.keep b5
          have ZE5 := ZE4.keep b5
          have X5 := X4.keep b5
          have a4' := a4.keep b5
          have hz5 := b5.size
          have hb5 : Below w.heap.size w w5 := hb4.trans (b5.mono (by omega))
          have HSS := Lib.hid hss
          clear cs cm hW4 hss
          by_cases hes : es = 0
          rotate_left
          · have hr := HR.out
            rw [if_neg hes] at hr
            have HR := Lib.hid hr
            obtain ⟨F, FB⟩ := bad w5 Z5 hb5
            have e1 : (es == 0) = false := by simpa using hes
            have e2 : (es != 0) = true := by simpa using hes
            have e3 : (es = 0) = False := eq_false hes
            obtain ⟨q_0, ⟨q_1, q_2, q_3, q_4, q_5, q_6, q_7, q_8, q_9, q_10, q_11⟩, q_12⟩ := _root_.id Z5
            clear hr hes
            go_wp2_with fail
            exact bodyPost_ret (res_BoxP_tmp Tryz.results26 rfl rfl F) rfl (by rw [HR.out]; exact GaveP.zero FB)
          · subst hes
            have hr := HR.out
            rw [if_pos rfl] at hr
            have HR := Lib.hid hr
            clear hr
            obtain ⟨p_0, ⟨p_1, p_2, p_3, p_4, p_5, p_6, p_7, p_8, p_9, p_10, p_11⟩, p_12⟩ := _root_.id L5
            obtain ⟨r_0, ⟨r_1, r_2, r_3, r_4, r_5, r_6⟩, r_7⟩ := _root_.id X5
            go_wp2_with fail
            clear p_0 p_1 p_2 p_3 p_4 p_5 p_6 p_7 p_8 p_9 p_10 p_11 p_12
            clear r_0 r_1 r_2 r_3 r_4 r_5 r_6 r_7
            obtain ⟨W10, hW10⟩ : ∃ W10, w5.alloc (.cells #[.int .i64 x.id, .string x.f, .string x.t, .int .i64 x.gen, .slice hA x.ms.length ha, .int .i64 x.next, .slice fB ps.length fb, .slice jC zs2.length jc, .bool false, .slice fD ea.length fd, .int .i64 al] 38) = W10 := ⟨_, rfl⟩
            have b10 : Below w5.heap.size w5 W10 := hW10 ▸ (Below.refl _ w5).alloc (Nat.le_refl _) _
            have X10 : BoxP w5.heap.size ⟨x, .slice hA x.ms.length ha, ps, .slice fB ps.length fb, zs2, .slice jC zs2.length jc, false, ea, .slice fD ea.length fd, al⟩ W10 := hW10 ▸ BoxP.new w5 ⟨x, .slice hA x.ms.length ha, ps, .slice fB ps.length fb, zs2, .slice jC zs2.length jc, false, ea, .slice fD ea.length fd, al⟩
            have hb10 : Below w.heap.size w W10 := hb5.trans (b10.mono (by omega))
            have hbl := fun wx (h : Below W10.heap.size W10 wx) => (L5.keep b10).keep h
            have hbr := fun wx (h : Below W10.heap.size W10 wx) => (R5.keep b10).keep h
            have kps := fun wx (h : Below W10.heap.size W10 wx) => (h2.keep hb10).keep h
            have kps' := fun wx (h : Below W10.heap.size W10 wx) => (k2.keep hb10).keep h
            have hz10 := b10.size
            try rw [hW10]
            clear hW10
            refine St.wp_region_mixed (RQ W10 w5.heap.size ps ps') (fun _ _ => False) (by kernel_rfl) (by kernel_rfl) (by kernel_rfl) ⟨fun _ => (Below.refl _ _).drew, fun h => (by cases h), fun h => (by cases h), fun h => (by cases h), fun h => (by cases h)⟩ ?_
            refine St.mix_free (fun z => ∃ b, z = .slice (some ⟨b, 0, none⟩) 0 0) rfl ?_ ?_
            · intro L u' wx hS hcl hrd hag
              refine ⟨.slice (some ⟨wx.heap.size, 0, none⟩) 0 0, wx.alloc (.cells #[] 85), ⟨_, rfl⟩, ?_, hS.made (St.not_yet hcl hrd 60 3 (by kernel_rfl)) (St.not_yet hcl hrd 60 6 (by kernel_rfl)) (St.not_yet hcl hrd 60 8 (by kernel_rfl))⟩
              go_simp
              try with_reducible rfl
            rintro y0 ⟨b0, rfl⟩
            simp only [Act.put, St.pu]
            iterate 2
              apply St.mix_give
              · rfl
              · intro L u' wx hS hcl hrd hag
                have hb := hS.a (St.not_yet hcl hrd 60 8 (by kernel_rfl))
                obtain ⟨m0, ⟨m1, m2, m3, m4, m5, m6, m7, m8, m9, m10, m11⟩, m12⟩ := hbl wx hb
                go_simp
                try with_reducible rfl
              · exact fun L u' wx hS => hS.plain (by decide) (by decide) (by decide) (by decide) _
              simp only [Act.put, St.pu]
            refine St.mix_free (fun z => ∃ A c, z = .slice A ps.length c) rfl ?_ ?_
            · intro L u' wx hS hcl hrd hag
              have h8 := (St.not_yet hcl hrd 60 8 (by kernel_rfl))
              obtain ⟨v', w', ⟨A', c', e'⟩, k1, k2⟩ := hS.app (St.before_ready hcl hrd 60 0 (by kernel_rfl)) hrd.1 (St.not_yet hcl hrd 60 6 (by kernel_rfl)) h8 (kps wx (hS.a h8)) nl 34
              rw [show u' 0 = .slice (some ⟨b0, 0, none⟩) 0 0 from hag 60 0 (by kernel_rfl)] at k1
              exact ⟨v', w', ⟨A', c', e'⟩, run_append2 rfl rfl rfl k1, k2⟩
            rintro y3 ⟨A3, c3, rfl⟩
            simp only [Act.put, St.pu]
            iterate 2
              apply St.mix_give
              · rfl
              · intro L u' wx hS hcl hrd hag
                have hb := hS.a (St.not_yet hcl hrd 60 8 (by kernel_rfl))
                obtain ⟨m0, ⟨m1, m2, m3, m4, m5, m6, m7, m8, m9, m10, m11⟩, m12⟩ := hbr wx hb
                go_simp
                try with_reducible rfl
              · exact fun L u' wx hS => hS.plain (by decide) (by decide) (by decide) (by decide) _
              simp only [Act.put, St.pu]
            refine St.mix_free (fun z => ∃ A c, z = .slice A (ps ++ ps').length c) rfl ?_ ?_
            · intro L u' wx hS hcl hrd hag
              have h8 := (St.not_yet hcl hrd 60 8 (by kernel_rfl))
              obtain ⟨v', w', ⟨A', c', e'⟩, k1, k2⟩ := hS.app2 (St.before_ready hcl hrd 60 3 (by kernel_rfl)) hrd.1 h8 (kps' wx (hS.a h8)) (by omega) 34
              rw [show u' 3 = .slice A3 ps.length c3 from hag 60 3 (by kernel_rfl)] at k1
              exact ⟨v', w', ⟨A', c', e'⟩, run_append2 rfl rfl rfl k1, k2⟩
            rintro y6 ⟨A6, c6, rfl⟩
            simp only [Act.put, St.pu]
            apply St.mix_give
            · rfl
            · intro L u' wx hS hcl hrd hag
              go_simp
              try with_reducible rfl
            · exact fun L u' wx hS => hS.plain (by decide) (by decide) (by decide) (by decide) _
            simp only [Act.put, St.pu]
            refine St.mix_skip rfl ?_ ?_
            · intro L u' wx hS hcl hrd hag
              have h8 := hrd.1
              obtain ⟨m0, ⟨m1, m2, m3, m4, m5, m6, m7, m8, m9, m10, m11⟩, m12⟩ := X10.keep (hS.a h8)
              have hst := hS.store (St.before_ready hcl hrd 60 3 (by kernel_rfl)) (St.before_ready hcl hrd 60 6 (by kernel_rfl)) h8
              rw [show u' 6 = .slice A6 (ps ++ ps').length c6 from hag 60 6 (by kernel_rfl)] at hst
              refine ⟨_, ?_, hst⟩
              go_simp
              try with_reducible rfl
            simp only [Act.put]
            refine St.mix_last ?_
            intro L W11 hS hall
            obtain ⟨wy, q1, q2, q3⟩ := hS.z (hall 8 (by decide))
            obtain ⟨NP, hNP⟩ : ∃ NP, (ps ++ ps').length = NP := ⟨_, rfl⟩
            have q2' : OwnP wy W10.heap.size (.slice A6 (ps ++ ps').length c6) (ps ++ ps') := q2
            have q3' : W11 = wy.setCell ⟨w5.heap.size, 6, none⟩ (.slice A6 (ps ++ ps').length c6) := q3
            rw [hNP] at q2' q3'
            have J0 : JL w5 w5.heap.size (.slice fD ea.length fd) ea (⟨x, .slice hA x.ms.length ha, ps ++ ps', .slice A6 NP c6, zs2, .slice jC zs2.length jc, false, ea, .slice fD ea.length fd, al⟩ : Ph) W11 := by
              rw [q3']
              exact JL.start b10 X10 q1 q2' h7
            clear hS hall q1 q2 q3 q2' q3' hbl hbr kps kps' X10 b10 hb10 hz10
            have K11 : Below w.heap.size w W11 := hb5.trans (J0.b.mono (by omega))
            have L11 := L5.keep J0.b
            have R11 := R5.keep J0.b
            have ce := reat_any (.slice fD ea.length fd) ea d'.id W11 (h5.keep K11) h7 (by omega)
            obtain ⟨E1, hE1⟩ : ∃ E1, eatE d'.id ea = E1 := ⟨_, rfl⟩
            have HE1 := Lib.hid hE1
            have hl1 : E1.length <= 201 := by rw [<- hE1]; have := eat_length (n := d'.id) (l := ea); omega
            have HL1 := Lib.hid hl1
            rw [hE1] at ce
            have HJ0 := Lib.hid J0
            have J11 := J0.box
            have HNP := Lib.hid hNP
            have HEL := Lib.hid el
            have HER := Lib.hid er
            have HTE := Lib.hid hE
            clear hE1 hl1 J0 hNP el er zl zr nl nr hE
            rw [HNP.out]
            obtain ⟨p_0, ⟨p_1, p_2, p_3, p_4, p_5, p_6, p_7, p_8, p_9, p_10, p_11⟩, p_12⟩ := _root_.id L11
            obtain ⟨r_0, ⟨r_1, r_2, r_3, r_4, r_5, r_6, r_7, r_8, r_9, r_10, r_11⟩, r_12⟩ := _root_.id R11
            go_wp2_with fail
            refine ce.mono ?_
            rintro e w12 ⟨v12, rfl, ho12, hr12, b12⟩
            have J12 : JL w5 w5.heap.size (.slice fD ea.length fd) ea (⟨x, .slice hA x.ms.length ha, ps ++ ps', .slice A6 NP c6, zs2, .slice jC zs2.length jc, false, E1, v12, al⟩ : Ph) (w12.setCell ⟨w5.heap.size, 9, none⟩ v12) := by
              have h := HJ0.out.ate (n := d'.id) (v := v12) (wx := w12) ⟨by rw [HE1.out]; exact ho12, hr12, b12⟩
              rw [HE1.out] at h
              exact h
            obtain ⟨A12, c12, hf12⟩ : ∃ A c, v12 = .slice A E1.length c := by
              rcases ho12 with ⟨e1, e2⟩ | h
              · exact ⟨fD, fd, by rw [e1, e2]⟩
              · exact (SI.of_own h).form
            subst hf12
            ((try clear p_0); (try clear p_1); (try clear p_2); (try clear p_3); (try clear p_4); (try clear p_5); (try clear p_6); (try clear p_7); (try clear p_8); (try clear p_9); (try clear p_10); (try clear p_11); (try clear p_12))
            ((try clear r_0); (try clear r_1); (try clear r_2); (try clear r_3); (try clear r_4); (try clear r_5); (try clear r_6); (try clear r_7); (try clear r_8); (try clear r_9); (try clear r_10); (try clear r_11); (try clear r_12))
            have J11' := J11.keep b12
            obtain ⟨q_0, ⟨q_1, q_2, q_3, q_4, q_5, q_6, q_7, q_8, q_9, q_10, q_11⟩, q_12⟩ := _root_.id J11'
            have HJ12 := Lib.hid J12
            clear ce ho12 hr12 HJ0 J11 J12
            go_wp2_with fail
            ((try clear q_0); (try clear q_1); (try clear q_2); (try clear q_3); (try clear q_4); (try clear q_5); (try clear q_6); (try clear q_7); (try clear q_8); (try clear q_9); (try clear q_10); (try clear q_11); (try clear q_12))
            go_loopw [11] (fun v11 wr => ∃ (k : Nat) (G : List Int) (A : Option Addr) (c : Nat), k <= ea'.length /\ v11 = .int .i64 (k : Int) /\ Hid (G = eatsE E1 (ea'.take k) /\ G.length <= 201 + k) /\ Hid (JL w5 w5.heap.size (.slice fD ea.length fd) ea (⟨x, .slice hA x.ms.length ha, ps ++ ps', .slice A6 NP c6, zs2, .slice jC zs2.length jc, false, G, .slice A G.length c, al⟩ : Ph) wr)) (fun v11 _ => ea'.length - (intOf v11).toNat)
            case atStart => exact ⟨0, E1, A12, c12, Nat.zero_le _, rfl, Lib.hid ⟨by simp [eatsE], HL1.out⟩, HJ12⟩
            case round =>
              obtain ⟨k, G, A, c, hk, rfl, HE, HJ⟩ := hrel
              have J := HJ.out
              have Kr : Below w.heap.size w wr := hb5.trans (J.b.mono (by omega))
              have Lr := L5.keep J.b
              have Rr := R5.keep J.b
              have Xr := J.box
              by_cases hlt : k < ea'.length
              · have g1 : ((k : Int) < (ea'.length : Int)) = True := eq_true (by omega)
                have g2 : (0 <= (k : Int)) = True := eq_true (by omega)
                have hcell : ∃ b o : Nat, gD = some ⟨b, o, none⟩ /\ b < w.heap.size /\ ∀ wx, Below w.heap.size w wx -> wx.cell? ⟨b, o + k, none⟩ = some (.int .i64 ea'[k]) := by
                  obtain ⟨A', c', e, hq⟩ := k5.si
                  injection e with e1 e2 e3
                  obtain ⟨b, o, e4, hb, hq2⟩ := hq (by omega)
                  exact ⟨b, o, e1.trans e4, hb, fun wx h => (h.cell (p := ⟨b, o + k, none⟩) hb).trans (hq2 k hlt)⟩
                obtain ⟨gb, go, rfl, hgb, hcell⟩ := hcell
                obtain ⟨n, hn⟩ : ∃ n, ea'[k] = n := ⟨_, rfl⟩
                rw [hn] at hcell
                obtain ⟨E2, hE2⟩ : ∃ E2, eatE n G = E2 := ⟨_, rfl⟩
                have HE2 : Hid (E2 = eatsE E1 (ea'.take (k + 1)) /\ E2.length <= 201 + (k + 1)) := Lib.hid (by
                  refine ⟨?_, by rw [<- hE2]; have := eat_length (n := n) (l := G); have := HE.out.2; omega⟩
                  rw [<- hE2, HE.out.1, List.take_succ_eq_append_getElem hlt, hn]
                  unfold eatsE
                  rw [List.foldl_append]
                  rfl)
                have cl := fun wx (h : Below wr.heap.size wr wx) => reat_any (.slice A G.length c) G n wx (by
                  have h1 : ArgI wr (.slice A G.length c) G := J.arg (h5.keep Kr)
                  exact h1.keep h) J.rm (by have := HE.out.2; have := HER.out; omega)
                rw [hE2] at cl
                have HA2 : ∀ v wx, (v = .slice A G.length c /\ E2 = G \/ OwnI wx wr.heap.size v E2) -> Room v -> Below wr.heap.size wr wx -> JL w5 w5.heap.size (.slice fD ea.length fd) ea (⟨x, .slice hA x.ms.length ha, ps ++ ps', .slice A6 NP c6, zs2, .slice jC zs2.length jc, false, E2, v, al⟩ : Ph) (wx.setCell ⟨w5.heap.size, 9, none⟩ v) := fun v wx ho hr hb => by
                  have h := J.ate (n := n) (v := v) (wx := wx) ⟨by rw [hE2]; exact ho, hr, hb⟩
                  rw [hE2] at h
                  exact h
                have hk1 : k + 1 <= ea'.length := hlt
                have hbx := fun wx (h : Below wr.heap.size wr wx) => Xr.keep h
                have hbr := fun wx (h : Below wr.heap.size wr wx) => Rr.keep h
                have hbc := fun wx (h : Below wr.heap.size wr wx) => hcell wx (Kr.trans (h.mono Kr.size))
                have hws : w5.heap.size < wr.heap.size := Xr.1
                clear hcell hE2 hn HE HJ J hlt hk
                obtain ⟨r_0, ⟨r_1, r_2, r_3, r_4, r_5, r_6, r_7, r_8, r_9, r_10, r_11⟩, r_12⟩ := _root_.id Rr
                go_wp2_with fail
                clear r_0 r_1 r_2 r_3 r_4 r_5 r_6 r_7 r_8 r_9 r_10 r_11 r_12
                refine St.wp_region_mixed (RE19 wr w5.heap.size (.slice A G.length c) G E2) (fun i z => match i with | 7 => ∃ A' c', z = .slice A' E2.length c' | _ => False) (by kernel_rfl) (by kernel_rfl) (by kernel_rfl) ⟨fun _ _ => (Below.refl _ _).drew, fun h => (by cases h), fun h => (by cases h)⟩ ?_
                iterate 7
                  (apply St.mix_give
                   · rfl
                   · intro L u' wx hS hcl hrd hag
                     have hb := hS.a (St.not_yet hcl hrd 40 7 (by kernel_rfl)) (St.not_yet hcl hrd 40 9 (by kernel_rfl))
                     obtain ⟨m0, ⟨m1, m2, m3, m4, m5, m6, m7, m8, m9, m10, m11⟩, m12⟩ := hbx wx hb
                     obtain ⟨r0, ⟨r1, r2, r3, r4, r5, r6, r7, r8, r9, r10, r11⟩, r12⟩ := hbr wx hb
                     have q0 := hbc wx hb
                     go_simp
                     try with_reducible rfl
                   · exact fun L u' wx hS => hS.plain (by decide) (by decide) _
                   simp only [Act.put, St.pu])
                refine St.mix_call (f := 74) (args := #[.slice A G.length c, .int .i64 n]) rfl ?_ ?_ ?_
                · intro wx
                  go_simp
                  try with_reducible rfl
                · intro L u' wx hS hcl hrd hag
                  have n9 := St.not_yet hcl hrd 40 9 (by kernel_rfl)
                  have hb := hS.a hrd.1 n9
                  refine (cl wx hb).mono ?_
                  rintro e w' ⟨v, rfl, ho, hr, hb'⟩
                  have ho' : v = .slice A G.length c /\ E2 = G \/ OwnI w' wr.heap.size v E2 := by
                    rcases ho with h | h
                    · exact .inl h
                    · exact .inr (ownI_base h hb.size)
                  have hf : ∃ A' c', v = .slice A' E2.length c' := by
                    rcases ho' with ⟨e1, e2⟩ | h
                    · exact ⟨A, c, by rw [e1, e2]⟩
                    · exact (SI.of_own h).form
                  exact ⟨v, rfl, hf, RE19.call n9 ho' hr (hb.trans (hb'.mono hb.size))⟩
                rintro y7 ⟨A7, c7, rfl⟩
                simp only [Act.put, St.pu]
                apply St.mix_give
                · rfl
                · intro L u' wx hS hcl hrd hag
                  go_simp
                  try with_reducible rfl
                · exact fun L u' wx hS => hS.plain (by decide) (by decide) _
                simp only [Act.put, St.pu]
                refine St.mix_skip rfl ?_ ?_
                · intro L u' wx hS hcl hrd hag
                  have b7 := St.before_ready hcl hrd 40 7 (by kernel_rfl)
                  have e7 : u' 7 = .slice A7 E2.length c7 := hag 40 7 (by kernel_rfl)
                  obtain ⟨_, _, hb⟩ := hS.g b7 hrd.1
                  obtain ⟨m0, ⟨m1, m2, m3, m4, m5, m6, m7, m8, m9, m10, m11⟩, m12⟩ := hbx wx hb
                  have hst := hS.store b7 hrd.1
                  rw [e7] at hst
                  refine ⟨_, ?_, hst⟩
                  go_simp
                  try with_reducible rfl
                simp only [Act.put]
                refine St.mix_last ?_
                intro L W19 hS hall
                obtain ⟨wy, ⟨ho, hr, hb⟩, hw19⟩ := hS.z (hall 9 (by decide))
                have hw19' : W19 = wy.setCell ⟨w5.heap.size, 9, none⟩ (.slice A7 E2.length c7) := hw19
                have HJ2 : Hid (JL w5 w5.heap.size (.slice fD ea.length fd) ea (⟨x, .slice hA x.ms.length ha, ps ++ ps', .slice A6 NP c6, zs2, .slice jC zs2.length jc, false, E2, .slice A7 E2.length c7, al⟩ : Ph) W19) := Lib.hid (by rw [hw19']; exact HA2 _ wy ho hr hb)
                clear hS hall ho hr hb hw19 hw19' HA2 hbx hbr hbc cl
                have hk2 := HER.out
                go_wp2_with fail
                go_roundw
                case rel => exact ⟨k + 1, E2, A7, c7, hk1, by go_num, HE2, HJ2⟩
                case measure => simp [intOf]; omega
              · have g1 : ((k : Int) < (ea'.length : Int)) = False := eq_false (by omega)
                obtain rfl : k = ea'.length := by omega
                have hGE : G = E := by
                  have h1 := HE.out.1
                  rw [List.take_length, <- HE1.out] at h1
                  exact h1.trans HTE.out
                subst hGE
                have Zr := Z5.keep J.b
                have ZEr := ZE5.keep J.b
                have ar := a5.keep J.b
                have ar4 := a4'.keep J.b
                have hr := HR.out
                by_cases hel : G.length <= 200
                · have e1 : ((G.length : Int) > 200) = False := eq_false (by omega)
                  have e2 : (200 < (G.length : Int)) = False := eq_false (by omega)
                  rw [if_pos hel] at hr
                  have HR := Lib.hid hr
                  have F := BoxP.put Zr (⟨x, .slice hA x.ms.length ha, ps ++ ps', .slice A6 NP c6, zs2, .slice jC zs2.length jc, false, G, .slice A G.length c, al⟩ : Ph)
                  have FB : Below w.heap.size w (putW wr (w.heap.size + 2) (⟨x, .slice hA x.ms.length ha, ps ++ ps', .slice A6 NP c6, zs2, .slice jC zs2.length jc, false, G, .slice A G.length c, al⟩ : Ph)) := putW_below _ (by omega) Kr
                  have FA := J.ha (n := w.heap.size + 2) ZEr (by omega) ar4 ar n5 (.own J.op) (h5.keep FB)
                  have HFA := Lib.hid FA
                  have HFB := Lib.hid FB
                  have HF := Lib.hid F
                  obtain ⟨r_0, ⟨r_1, r_2, r_3, r_4, r_5, r_6, r_7, r_8, r_9, r_10, r_11⟩, r_12⟩ := _root_.id Rr
                  obtain ⟨q_0, ⟨q_1, q_2, q_3, q_4, q_5, q_6, q_7, q_8, q_9, q_10, q_11⟩, q_12⟩ := _root_.id Xr
                  obtain ⟨z_0, ⟨z_1, z_2, z_3, z_4, z_5, z_6, z_7, z_8, z_9, z_10, z_11⟩, z_12⟩ := _root_.id Zr
                  clear hr hel F FA FB HJ J HE Lr Rr ZEr ar ar4
                  go_wp2_with fail
                  exact bodyPost_ret (res_BoxP_tmp Tryz.results26 rfl rfl HF.out) rfl (by
                    rw [HR.out]
                    exact ⟨_, rfl, by unfold Ph.pl; simp [HSS.out], HFA.out, HFB.out⟩)
                · have e1 : ((G.length : Int) > 200) = True := eq_true (by omega)
                  have e2 : (200 < (G.length : Int)) = True := eq_true (by omega)
                  rw [if_neg hel] at hr
                  have HR := Lib.hid hr
                  obtain ⟨F, FB⟩ := bad wr Zr Kr
                  obtain ⟨r_0, ⟨r_1, r_2, r_3, r_4, r_5, r_6, r_7, r_8, r_9, r_10, r_11⟩, r_12⟩ := _root_.id Rr
                  obtain ⟨q_0, ⟨q_1, q_2, q_3, q_4, q_5, q_6, q_7, q_8, q_9, q_10, q_11⟩, q_12⟩ := _root_.id Xr
                  obtain ⟨z_0, ⟨z_1, z_2, z_3, z_4, z_5, z_6, z_7, z_8, z_9, z_10, z_11⟩, z_12⟩ := _root_.id Zr
                  clear hr hel HJ J HE Lr Rr ZEr ar ar4
                  go_wp2_with fail
                  exact bodyPost_ret (res_BoxP_tmp Tryz.results26 rfl rfl F) rfl (by rw [HR.out]; exact GaveP.zero FB)
end Go.Proofs.YthcmnkmfhgoddaaGreatDoor.Dp

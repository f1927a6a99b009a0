/-
  Join, the program's. Conditions: plots that may be, of at most 100,000 pairs each.
-/
import Derived.Test.YtoomkdofoceiaaaGreatDoorDpCuA
import Derived.Test.YtoomkdofoceiaaaGreatDoorDpCat
import Derived.Test.YtoomkdofoceiaaaGreatDoorDpSEA
import Derived.Test.YtoomkdofoceiaaaGreatDoorDsJoin
import Derived.Test.YtoomkdofoceiaaaGreatDoorSsMerge
namespace Go.Proofs.YtoomkdofoceiaaaGreatDoor.Dp
open Go.RowKit Bnd
open Go.Proofs.YtoomkdofoceiaaaGreatDoor.Ds (De SM OwnI OwnM ArgM ptr ptr_inj dv mergeD BoxD isD)
open Go.Proofs.YtoomkdofoceiaaaGreatDoor.Ss (Ses Zs ses SZ PZ NoP OwnZ ArgZ mergeS)
open Go.Proofs.YtoomkdofoceiaaaGreatDoor.Od (Pr SP OwnP ArgP)
structure R16 (W : World) (t : Nat) (va vb : Value) (ps : List Pr) (O : Value → Ph) (L : Nat → Bool) (u : Nat → Value) (wx : World) : Prop where
  a : L 12 = false → Below W.heap.size W wx
  g : L 5 = true → L 6 = false → ∃ g : Nat, u 5 = .slice (some ⟨g, 0, none⟩) 2 2 ∧ g < wx.heap.size ∧ wx.cell? ⟨g, 0, none⟩ = some va ∧ wx.cell? ⟨g, 1, none⟩ = some vb
  p : L 6 = true → L 12 = false → OwnP wx W.heap.size (u 6) ps
  z : L 12 = true → ∃ wy, Below W.heap.size W wy ∧ OwnP wy W.heap.size (u 6) ps ∧ wx = putW wy t (O (u 6))
theorem joined_eat {l m : List Int} {n : Int} (hl : l.Pairwise (· < ·)) : onceE (sorted (l ++ m ++ [n])) = eatsE (eatE n l) m :=
  once_eats hl (sorted_le _) fun _ => mem_sorted
theorem isP_rise {p : Pl} (h : isP p = true) : p.ea.Pairwise (· < ·) := ((goE_iff _ _).1 ((isP_iff p).1 h).2.2.2.1.2).2
set_option maxHeartbeats 16000000 in
set_option maxRecDepth 100000 in
theorem join_any (l r : Ph) (w : World) (hl : HA w l) (hr : HA w r) (il : isP l.pl = true) (ir : isP r.pl = true) (nl : l.ps.length ≤ 100000) (nr : r.ps.length ≤ 100000) :
    Calls Tryz.prog 22 #[qv l, qv r] w (GaveP w (joinP l.pl r.pl)) := by
  have fl : Ds.Fit l.d := isD_fit (isP_d il)
  have fr : Ds.Fit r.d := isD_fit (isP_d ir)
  have zl : l.zs.length ≤ 64 := by have := isS_len (isP_s il); simpa [Ph.pl] using this
  have zr : r.zs.length ≤ 64 := by have := isS_len (isP_s ir); simpa [Ph.pl] using this
  have el : l.ea.length ≤ 200 := isP_ea il
  have er : r.ea.length ≤ 200 := isP_ea ir
  have hup : l.ea.Pairwise (· < ·) := isP_rise il
  clear il ir
  obtain ⟨d, sm, ps, sp, zs, sz, fz, ea, se, al⟩ := l
  obtain ⟨d', sm', ps', sp', zs', sz', fz', ea', se', al'⟩ := r
  obtain ⟨h1, h2, h3, h4, h5, h6, h7⟩ := hl
  obtain ⟨k1, k2, k3, k4, k5, k6, k7⟩ := hr
  simp only at h1 h2 h3 h4 h5 h6 h7 k1 k2 k3 k4 k5 k6 k7 fl fr zl zr el er hup nl nr
  obtain ⟨fA, fa, rfl⟩ := h1.form
  obtain ⟨fB, fb, rfl⟩ := h2.sm.form
  obtain ⟨fC, fc, rfl⟩ := h3.form
  obtain ⟨fD, fd, rfl⟩ := h5.si.form
  obtain ⟨gA, ga, rfl⟩ := k1.form
  obtain ⟨gB, gb, rfl⟩ := k2.sm.form
  obtain ⟨gC, gc, rfl⟩ := k3.form
  obtain ⟨gD, gd, rfl⟩ := k5.si.form
  obtain ⟨o, ho⟩ : ∃ o : Ph, o = ⟨d, .slice fA d.ms.length fa, ps, .slice fB ps.length fb, zs, .slice fC zs.length fc, fz, ea, .slice fD ea.length fd, al⟩ := ⟨_, rfl⟩
  obtain ⟨p, hp⟩ : ∃ p : Ph, p = ⟨d', .slice gA d'.ms.length ga, ps', .slice gB ps'.length gb, zs', .slice gC zs'.length gc, fz', ea', .slice gD ea'.length gd, al'⟩ := ⟨_, rfl⟩
  obtain ⟨W1, hW1⟩ : ∃ W1, ((w.alloc (.cells #[.int .i64 d.id, .string d.f, .string d.t, .int .i64 d.gen, .slice fA d.ms.length fa, .int .i64 d.next, .slice fB ps.length fb, .slice fC zs.length fc, .bool fz, .slice fD ea.length fd, .int .i64 al] 31)).alloc (.cells #[.int .i64 d'.id, .string d'.f, .string d'.t, .int .i64 d'.gen, .slice gA d'.ms.length ga, .int .i64 d'.next, .slice gB ps'.length gb, .slice gC zs'.length gc, .bool fz', .slice gD ea'.length gd, .int .i64 al'] 31)).alloc (.cells #[.int .i64 0, .string ⟨#[]⟩, .string ⟨#[]⟩, .int .i64 0, .slice none 0 0, .int .i64 0, .slice none 0 0, .slice none 0 0, .bool false, .slice none 0 0, .int .i64 0] 31) = W1 := ⟨_, rfl⟩
  have B0 : BoxP w.heap.size ⟨d, .slice fA d.ms.length fa, ps, .slice fB ps.length fb, zs, .slice fC zs.length fc, fz, ea, .slice fD ea.length fd, al⟩ W1 := hW1 ▸ ((BoxP.new w ⟨d, .slice fA d.ms.length fa, ps, .slice fB ps.length fb, zs, .slice fC zs.length fc, fz, ea, .slice fD ea.length fd, al⟩).alloc _).alloc _
  have B1 : BoxP (w.heap.size + 1) ⟨d', .slice gA d'.ms.length ga, ps', .slice gB ps'.length gb, zs', .slice gC zs'.length gc, fz', ea', .slice gD ea'.length gd, al'⟩ W1 := by
    have := BoxP.new (w.alloc (.cells #[.int .i64 d.id, .string d.f, .string d.t, .int .i64 d.gen, .slice fA d.ms.length fa, .int .i64 d.next, .slice fB ps.length fb, .slice fC zs.length fc, .bool fz, .slice fD ea.length fd, .int .i64 al] 31)) ⟨d', .slice gA d'.ms.length ga, ps', .slice gB ps'.length gb, zs', .slice gC zs'.length gc, fz', ea', .slice gD ea'.length gd, al'⟩
    rw [World.size_alloc] at this
    rw [← hW1]
    exact this.alloc _
  have Z2 : BoxP (w.heap.size + 2) Ph.zero W1 := by
    have := BoxP.zero ((w.alloc (.cells #[.int .i64 d.id, .string d.f, .string d.t, .int .i64 d.gen, .slice fA d.ms.length fa, .int .i64 d.next, .slice fB ps.length fb, .slice fC zs.length fc, .bool fz, .slice fD ea.length fd, .int .i64 al] 31)).alloc (.cells #[.int .i64 d'.id, .string d'.f, .string d'.t, .int .i64 d'.gen, .slice gA d'.ms.length ga, .int .i64 d'.next, .slice gB ps'.length gb, .slice gC zs'.length gc, .bool fz', .slice gD ea'.length gd, .int .i64 al'] 31))
    rw [hW1, World.size_alloc, World.size_alloc] at this
    exact this
  have ZE1 : ZE (w.heap.size + 2) W1 := by
    have := ZE.new ((w.alloc (.cells #[.int .i64 d.id, .string d.f, .string d.t, .int .i64 d.gen, .slice fA d.ms.length fa, .int .i64 d.next, .slice fB ps.length fb, .slice fC zs.length fc, .bool fz, .slice fD ea.length fd, .int .i64 al] 31)).alloc (.cells #[.int .i64 d'.id, .string d'.f, .string d'.t, .int .i64 d'.gen, .slice gA d'.ms.length ga, .int .i64 d'.next, .slice gB ps'.length gb, .slice gC zs'.length gc, .bool fz', .slice gD ea'.length gd, .int .i64 al'] 31))
    rw [World.size_alloc, World.size_alloc] at this
    rw [← hW1]
    exact this
  have hz1 : W1.heap.size = w.heap.size + 3 := by rw [← hW1]; simp
  have hbw1 : Below w.heap.size w W1 := by rw [← hW1]; exact (((Below.refl _ w).alloc (Nat.le_refl _) _).alloc (by simp) _).alloc (by simp; omega) _
  have bad : ∀ Wx, BoxP (w.heap.size + 2) Ph.zero Wx → Below w.heap.size w Wx → BoxP (w.heap.size + 2) Ph.zero (putW Wx (w.heap.size + 2) Ph.zero) ∧ Below w.heap.size w (putW Wx (w.heap.size + 2) Ph.zero) := fun Wx h hb => ⟨BoxP.put h Ph.zero, putW_below Ph.zero (by omega) hb⟩
  rw [← ho, ← hp]
  have HO := Lib.hid ho
  have HP := Lib.hid hp
  have one : ∀ q : Int, (fz = true ∨ fz = false ∧ fz' = false) → joinP o.pl p.pl = (Pl.zero, 90) := by
    intro q h
    unfold joinP
    rw [if_pos]
    rw [ho, hp]
    rcases h with h | h
    · exact .inl h
    · exact .inr h.2
  cases fz with
  | true =>
    rw [one 0 (.inl rfl)]
    obtain ⟨F, FB⟩ := bad W1 Z2 hbw1
    rw [ho, hp]
    clear one bad hup
    go_enter Tryz.func22, Tryz.ntmps22
    obtain ⟨p_0, ⟨p_1, p_2, p_3, p_4, p_5, p_6, p_7, p_8, p_9, p_10, p_11⟩, p_12⟩ := _root_.id B0
    obtain ⟨q_0, ⟨q_1, q_2, q_3, q_4, q_5, q_6, q_7, q_8, q_9, q_10, q_11⟩, q_12⟩ := _root_.id Z2
    go_wp2_with (rw [hW1])
    exact bodyPost_ret (res_BoxP_tmp Tryz.results22 rfl rfl F) rfl (GaveP.zero FB)
  | false =>
    cases fz' with
    | false =>
      rw [one 0 (.inr ⟨rfl, rfl⟩)]
      obtain ⟨F, FB⟩ := bad W1 Z2 hbw1
      rw [ho, hp]
      clear one bad hup
      go_enter Tryz.func22, Tryz.ntmps22
      obtain ⟨p_0, ⟨p_1, p_2, p_3, p_4, p_5, p_6, p_7, p_8, p_9, p_10, p_11⟩, p_12⟩ := _root_.id B0
      obtain ⟨r_0, ⟨r_1, r_2, r_3, r_4, r_5, r_6, r_7, r_8, r_9, r_10, r_11⟩, r_12⟩ := _root_.id B1
      obtain ⟨q_0, ⟨q_1, q_2, q_3, q_4, q_5, q_6, q_7, q_8, q_9, q_10, q_11⟩, q_12⟩ := _root_.id Z2
      go_wp2_with (rw [hW1])
      exact bodyPost_ret (res_BoxP_tmp Tryz.results22 rfl rfl F) rfl (GaveP.zero FB)
    | true =>
      clear one
      obtain ⟨x, ed, hD⟩ : ∃ x ed, mergeD d d' = (x, ed) := ⟨_, _, rfl⟩
      obtain ⟨ss, es, hS⟩ : ∃ ss es, mergeS (ses zs) (ses zs') = (ss, es) := ⟨_, _, rfl⟩
      obtain ⟨E, hE⟩ : ∃ E, eatsE (eatE d'.id ea) ea' = E := ⟨_, rfl⟩
      have hj := joined_eat (m := ea') (n := d'.id) hup
      rw [hE] at hj
      obtain ⟨ans, hans⟩ : ∃ ans, joinP o.pl p.pl = ans := ⟨_, rfl⟩
      have hr : ans = if d'.id ∈ ea then (Pl.zero, 8) else if ed = 0 then if es = 0 then if E.length ≤ 200 then (⟨x, ps ++ ps', ss, false, E, al⟩, 0) else (Pl.zero, 6) else (Pl.zero, es) else (Pl.zero, ed) := by
        rw [← hans, ho, hp, ← hE]
        unfold joinP
        rw [if_neg (by simp [Ph.pl])]
        simp only [Ph.pl, hD, hS]
      rw [hans]
      have HR := Lib.hid hr
      have HJ := Lib.hid hj
      have cc := contains_any (.slice fD ea.length fd) ea d'.id W1 (h5.keep hbw1).si (by omega)
      rw [ho, hp]
      clear hr hj hans hE hup
      go_enter Tryz.func22, Tryz.ntmps22
      obtain ⟨p_0, ⟨p_1, p_2, p_3, p_4, p_5, p_6, p_7, p_8, p_9, p_10, p_11⟩, p_12⟩ := _root_.id B0
      obtain ⟨r_0, ⟨r_1, r_2, r_3, r_4, r_5, r_6, r_7, r_8, r_9, r_10, r_11⟩, r_12⟩ := _root_.id B1
      go_wp2_with (rw [hW1])
      refine cc.mono ?_
      rintro e w2 ⟨rfl, rfl⟩
      by_cases hin : d'.id ∈ ea
      · have hr := HR.out
        rw [if_pos hin] at hr
        have HR := Lib.hid hr
        obtain ⟨F, FB⟩ := bad w2 Z2 hbw1
        have hd : decide (d'.id ∈ ea) = true := by simpa using hin
        rw [hd]
        obtain ⟨q_0, ⟨q_1, q_2, q_3, q_4, q_5, q_6, q_7, q_8, q_9, q_10, q_11⟩, q_12⟩ := _root_.id Z2
        clear hr hin hd
        go_wp2_with fail
        exact bodyPost_ret (res_BoxP_tmp Tryz.results22 rfl rfl F) rfl (by rw [HR.out]; exact GaveP.zero FB)
      · have hr := HR.out
        rw [if_neg hin] at hr
        have HR := Lib.hid hr
        have hd : decide (d'.id ∈ ea) = false := by simpa using hin
        rw [hd]
        have cm := Ds.merge_any d d' (.slice fA d.ms.length fa) (.slice gA d'.ms.length ga) w2 (h1.keep hbw1) (k1.keep hbw1) fl fr
        rw [hD] at cm
        clear hr hin hd cc
        go_wp2_with fail
        ((try clear p_0); (try clear p_1); (try clear p_2); (try clear p_3); (try clear p_4); (try clear p_5); (try clear p_6); (try clear p_7); (try clear p_8); (try clear p_9); (try clear p_10); (try clear p_11); (try clear p_12))
        ((try clear r_0); (try clear r_1); (try clear r_2); (try clear r_3); (try clear r_4); (try clear r_5); (try clear r_6); (try clear r_7); (try clear r_8); (try clear r_9); (try clear r_10); (try clear r_11); (try clear r_12))
        refine cm.mono ?_
        rintro e w3 ⟨s3, rfl, a3, b3⟩
        obtain ⟨hA, ha, rfl⟩ := a3.form
        obtain ⟨W4, hW4⟩ : ∃ W4, w3.alloc (.cells #[.int .i64 x.id, .string x.f, .string x.t, .int .i64 x.gen, .slice hA x.ms.length ha, .int .i64 x.next] 26) = W4 := ⟨_, rfl⟩
        have b4 : Below w3.heap.size w3 W4 := hW4 ▸ (Below.refl _ w3).alloc (Nat.le_refl _) _
        have X4 : BoxD w3.heap.size x (.slice hA x.ms.length ha) W4 := hW4 ▸ BoxD.new w3 x (.slice hA x.ms.length ha)
        have L4 := (B0.keep b3).keep b4
        have R4 := (B1.keep b3).keep b4
        have Z4 := (Z2.keep b3).keep b4
        have ZE4 := (ZE1.keep b3).keep b4
        have a4 := a3.keep b4
        have hz3 := b3.size
        have hz4 := b4.size
        have hb4 : Below w.heap.size w W4 := (hbw1.trans (b3.mono (by omega))).trans (b4.mono (by omega))
        by_cases hed : ed = 0
        rotate_left
        · have hr := HR.out
          rw [if_neg hed] at hr
          have HR := Lib.hid hr
          obtain ⟨F, FB⟩ := bad W4 Z4 hb4
          have e1 : (ed == 0) = false := by simpa using hed
          have e2 : (ed != 0) = true := by simpa using hed
          have e3 : (ed = 0) = False := eq_false hed
          obtain ⟨q_0, ⟨q_1, q_2, q_3, q_4, q_5, q_6, q_7, q_8, q_9, q_10, q_11⟩, q_12⟩ := _root_.id Z4
          clear hr hed
          go_wp2_with (rw [hW4])
          exact bodyPost_ret (res_BoxP_tmp Tryz.results22 rfl rfl F) rfl (by rw [HR.out]; exact GaveP.zero FB)
        · subst hed
          have hr := HR.out
          rw [if_pos rfl] at hr
          have HR := Lib.hid hr
          have cs := Ss.merge_any (.slice fC zs.length fc) (.slice gC zs'.length gc) zs zs' W4 (h3.keep hb4).sz (k3.keep hb4).sz h4 k4 (by omega) (by omega)
          rw [hS] at cs
          obtain ⟨p_0, ⟨p_1, p_2, p_3, p_4, p_5, p_6, p_7, p_8, p_9, p_10, p_11⟩, p_12⟩ := _root_.id L4
          obtain ⟨r_0, ⟨r_1, r_2, r_3, r_4, r_5, r_6, r_7, r_8, r_9, r_10, r_11⟩, r_12⟩ := _root_.id R4
          clear hr
          go_wp2_with (rw [hW4])
          ((try clear p_0); (try clear p_1); (try clear p_2); (try clear p_3); (try clear p_4); (try clear p_5); (try clear p_6); (try clear p_7); (try clear p_8); (try clear p_9); (try clear p_10); (try clear p_11); (try clear p_12))
          ((try clear r_0); (try clear r_1); (try clear r_2); (try clear r_3); (try clear r_4); (try clear r_5); (try clear r_6); (try clear r_7); (try clear r_8); (try clear r_9); (try clear r_10); (try clear r_11); (try clear r_12))
          refine cs.mono ?_
          rintro e w5 ⟨s5, zs2, rfl, hss, a5, n5, b5⟩
          obtain ⟨jC, jc, rfl⟩ := a5.form
          have L5 := L4.keep b5
          have R5 := R4.keep b5
          have Z5 := Z4.keep b5
          have ZE5 := ZE4.keep b5
          have X5 := X4.keep b5
          have a4' := a4.keep b5
          have hz5 := b5.size
          have hb5 : Below w.heap.size w w5 := hb4.trans (b5.mono (by omega))
          have HSS := Lib.hid hss
          clear cs cm hW4 hss
          by_cases hes : es = 0
          rotate_left
          · have hr := HR.out
            rw [if_neg hes] at hr
            have HR := Lib.hid hr
            obtain ⟨F, FB⟩ := bad w5 Z5 hb5
            have e1 : (es == 0) = false := by simpa using hes
            have e2 : (es != 0) = true := by simpa using hes
            have e3 : (es = 0) = False := eq_false hes
            obtain ⟨q_0, ⟨q_1, q_2, q_3, q_4, q_5, q_6, q_7, q_8, q_9, q_10, q_11⟩, q_12⟩ := _root_.id Z5
            clear hr hes
            go_wp2_with fail
            exact bodyPost_ret (res_BoxP_tmp Tryz.results22 rfl rfl F) rfl (by rw [HR.out]; exact GaveP.zero FB)
          · subst hes
            have hr := HR.out
            rw [if_pos rfl] at hr
            have HR := Lib.hid hr
            obtain ⟨W6, hW6⟩ : ∃ W6, (w5.alloc (.cells #[.int .i64 d'.id] 2)).alloc (.cells #[.slice fD ea.length fd, .slice gD ea'.length gd, .slice (some ⟨w5.heap.size, 0, none⟩) 1 1] 29) = W6 := ⟨_, rfl⟩
            have b6 : Below w5.heap.size w5 W6 := hW6 ▸ ((Below.refl _ w5).alloc (Nat.le_refl _) _).alloc (by simp) _
            have hb6 : Below w.heap.size w W6 := hb5.trans (b6.mono (by omega))
            have hz6 : W6.heap.size = w5.heap.size + 2 := by rw [← hW6]; simp
            have g0 : W6.cell? ⟨w5.heap.size + 1, 0, none⟩ = some (.slice fD ea.length fd) := by rw [← hW6]; simp [go_sem]
            have g1 : W6.cell? ⟨w5.heap.size + 1, 1, none⟩ = some (.slice gD ea'.length gd) := by rw [← hW6]; simp [go_sem]
            have g2 : W6.cell? ⟨w5.heap.size + 1, 2, none⟩ = some (.slice (some ⟨w5.heap.size, 0, none⟩) 1 1) := by rw [← hW6]; simp [go_sem]
            have q1 : ArgI W6 (.slice (some ⟨w5.heap.size, 0, none⟩) 1 1) [d'.id] := hW6 ▸ (argI_one w5 d'.id).keep ((Below.refl _ _).alloc (Nat.le_refl _) _)
            have ce := concatI_any (w5.heap.size + 1) _ _ _ ea ea' [d'.id] W6 g0 g1 g2 (by omega) (h5.keep hb6) (k5.keep hb6) q1 (by omega) (by omega) (by simp)
            obtain ⟨X7, hX7⟩ : ∃ X, ea ++ ea' ++ [d'.id] = X := ⟨_, rfl⟩
            have hlen : X7.length ≤ 1000000 := by rw [← hX7, List.length_append, List.length_append, List.length_singleton]; omega
            have hpos : 0 < X7.length := by rw [← hX7, List.length_append, List.length_singleton]; omega
            have hj := HJ.out
            rw [hX7] at ce hj
            obtain ⟨S8, hS8⟩ : ∃ S, sorted X7 = S := ⟨_, rfl⟩
            have hl8 : S8.length = X7.length := by rw [← hS8]; exact List.length_mergeSort _
            rw [hS8] at hj
            have HJ := Lib.hid hj
            have HL8 := Lib.hid hl8
            have HS8 := Lib.hid hS8
            clear hX7 hj hl8 hS8
            obtain ⟨p_0, ⟨p_1, p_2, p_3, p_4, p_5, p_6, p_7, p_8, p_9, p_10, p_11⟩, p_12⟩ := _root_.id L5
            obtain ⟨r_0, ⟨r_1, r_2, r_3, r_4, r_5, r_6, r_7, r_8, r_9, r_10, r_11⟩, r_12⟩ := _root_.id R5
            clear hr
            go_wp2_with (rw [hW6])
            ((try clear p_0); (try clear p_1); (try clear p_2); (try clear p_3); (try clear p_4); (try clear p_5); (try clear p_6); (try clear p_7); (try clear p_8); (try clear p_9); (try clear p_10); (try clear p_11); (try clear p_12))
            ((try clear r_0); (try clear r_1); (try clear r_2); (try clear r_3); (try clear r_4); (try clear r_5); (try clear r_6); (try clear r_7); (try clear r_8); (try clear r_9); (try clear r_10); (try clear r_11); (try clear r_12))
            refine ce.mono ?_
            rintro e w7 ⟨v7, rfl, O7, b7⟩
            have hz7 := b7.size
            obtain ⟨yA, ya, rfl⟩ := (SI.of_own O7).form
            have ct := sort_any _ _ w7 W6.heap.size O7 hpos hz7 hlen
            rw [HS8.out] at ct
            have HLN := Lib.hid hlen
            have HPS := Lib.hid hpos
            have b57 : Below w5.heap.size w5 w7 := b6.trans (b7.mono (by omega))
            clear ce hW6 g0 g1 g2 q1 hlen hpos
            go_wp2_with fail
            refine ct.mono ?_
            rintro e w8 ⟨rfl, O8, b8⟩
            have hz8 := b8.size
            have b58 : Below w5.heap.size w5 w8 := b57.trans (b8.mono (by omega))
            have cp := compact_any _ S8 w8 W6.heap.size O8 (by rw [HL8.out]; exact HPS.out) (by omega) (by rw [HL8.out]; exact HLN.out)
            rw [HJ.out] at cp
            clear ct O7 O8
            go_wp2_with fail
            refine cp.mono ?_
            rintro e w9 ⟨v9, rfl, O9, b9⟩
            obtain ⟨qD, qd, rfl⟩ := (SI.of_own O9).form
            have hz9 := b9.size
            have b59 : Below w5.heap.size w5 w9 := b58.trans (b9.mono (by omega))
            have L9 := L5.keep b59
            have R9 := R5.keep b59
            have Z9 := Z5.keep b59
            have ZE9 := ZE5.keep b59
            have X9 := X5.keep b59
            have hb9 : Below w.heap.size w w9 := hb5.trans (b59.mono (by omega))
            clear cp b57 b58 b7 b8 b9
            by_cases hel : E.length ≤ 200
            rotate_left
            · have hr := HR.out
              rw [if_neg hel] at hr
              have HR := Lib.hid hr
              obtain ⟨F, FB⟩ := bad w9 Z9 hb9
              have e1 : ((E.length : Int) > 200) = True := eq_true (by omega)
              have e2 : (200 < (E.length : Int)) = True := eq_true (by omega)
              obtain ⟨q_0, ⟨q_1, q_2, q_3, q_4, q_5, q_6, q_7, q_8, q_9, q_10, q_11⟩, q_12⟩ := _root_.id Z9
              clear hr hel
              go_wp2_with fail
              exact bodyPost_ret (res_BoxP_tmp Tryz.results22 rfl rfl F) rfl (by rw [HR.out]; exact GaveP.zero FB)
            · have hr := HR.out
              rw [if_pos hel] at hr
              have HR := Lib.hid hr
              have e1 : ((E.length : Int) > 200) = False := eq_false (by omega)
              have e2 : (200 < (E.length : Int)) = False := eq_false (by omega)
              have a49 := a4'.keep b59
              have a59 := a5.keep b59
              have cq := fun (g : Nat) wx (hb : Below w9.heap.size w9 wx) (g0 : wx.cell? ⟨g, 0, none⟩ = some (.slice fB ps.length fb)) (g1 : wx.cell? ⟨g, 1, none⟩ = some (.slice gB ps'.length gb)) (hg : g < wx.heap.size) => concatP_any g _ _ ps ps' wx g0 g1 hg (h2.keep (hb9.trans (hb.mono (by omega)))) (k2.keep (hb9.trans (hb.mono (by omega)))) nl nr
              have hbl := fun wx (hb : Below w9.heap.size w9 wx) => L9.keep hb
              have hbr := fun wx (hb : Below w9.heap.size w9 wx) => R9.keep hb
              have hbx := fun wx (hb : Below w9.heap.size w9 wx) => X9.keep hb
              clear hr hel L4 R4 Z4 L5 R5 Z5 X4 X5 a3 a4 B0 B1 Z2 ZE1 ZE4 ZE5 b3 b4 b5 b6 hb4 hb6 hbw1 h1 h2 h3 k1 k2 k3 h5 k5 bad hW1 HJ HLN HPS HL8 HS8 nl nr fl fr zl zr el er h4 k4 h6 h7 k6 k7
              go_wp2_with fail
              refine St.wp_region_mixed (R16 w9 (w.heap.size + 2) (.slice fB ps.length fb) (.slice gB ps'.length gb) (ps ++ ps') (fun v => ⟨x, .slice hA x.ms.length ha, ps ++ ps', v, zs2, .slice jC zs2.length jc, false, E, .slice qD E.length qd, al⟩)) (fun i z => match i with | 6 => ∃ A n c, z = .slice A n c | _ => False) (by kernel_rfl) (by kernel_rfl) (by kernel_rfl) ⟨fun _ => (Below.refl _ _).drew, fun h => (by cases h), fun h => (by cases h), fun h => (by cases h)⟩ ?_
              iterate 5
                (apply St.mix_give
                 · rfl
                 · intro L u' wx hS hcl hrd hag
                   have hb := hS.a (St.not_yet hcl hrd 40 12 (by kernel_rfl))
                   obtain ⟨j0, ⟨j1, j2, j3, j4, j5, j6, j7, j8, j9, j10, j11⟩, j12⟩ := hbl wx hb
                   obtain ⟨m0, ⟨m1, m2, m3, m4, m5, m6, m7, m8, m9, m10, m11⟩, m12⟩ := hbr wx hb
                   obtain ⟨x0, ⟨x1, x2, x3, x4, x5, x6⟩, x7⟩ := hbx wx hb
                   go_simp
                   try with_reducible rfl
                 · exact fun L u' wx hS => ⟨hS.a, hS.g, hS.p, hS.z⟩
                 simp only [Act.put, List.setIfInBounds_toArray, List.set_cons_zero, List.set_cons_succ])
              refine St.mix_free (fun z => ∃ g, z = .slice (some ⟨g, 0, none⟩) 2 2) rfl ?_ ?_
              · intro L u' wx hS hcl hrd hag
                have n12 := St.not_yet hcl hrd 40 12 (by kernel_rfl)
                have n6 := St.not_yet hcl hrd 40 6 (by kernel_rfl)
                have hb := hS.a n12
                refine ⟨_, _, ⟨wx.heap.size, rfl⟩, ?_, ⟨fun _ => hb.alloc hb.size (.cells #[.slice fB ps.length fb, .slice gB ps'.length gb] 27), fun _ _ => ⟨wx.heap.size, rfl, by simp, by simp [go_sem], by simp [go_sem]⟩, fun h' => ?_, fun h' => ?_⟩⟩
                rotate_left
                · rw [show St.mark L 5 6 = L 6 from rfl, n6] at h'; cases h'
                · rw [show St.mark L 5 12 = L 12 from rfl, n12] at h'; cases h'
                go_simp
                try with_reducible rfl
              rintro y5 ⟨g5, rfl⟩
              simp only [Act.put, List.setIfInBounds_toArray, List.set_cons_zero, List.set_cons_succ]
              refine St.mix_call (f := 77) (args := #[.slice (some ⟨g5, 0, none⟩) 2 2]) rfl ?_ ?_ ?_
              · intro wx
                go_simp
                try with_reducible rfl
              · intro L u' wx hS hcl hrd hag
                have n12 := St.not_yet hcl hrd 40 12 (by kernel_rfl)
                have b5 := St.before_ready hcl hrd 40 5 (by kernel_rfl)
                have hb := hS.a n12
                obtain ⟨g, eg, hg, q0, q1⟩ := hS.g b5 hrd.1
                have eg' : u' 5 = .slice (some ⟨g5, 0, none⟩) 2 2 := hag 40 5 (by kernel_rfl)
                have : g = g5 := by
                  rw [eg] at eg'
                  injection eg' with e1
                  injection e1 with e1
                  injection e1
                subst this
                refine (cq g wx hb q0 q1 hg).mono ?_
                rintro e w' ⟨v, rfl, ho, hb'⟩
                obtain ⟨vA, vc, hv⟩ := (SP.of_own ho).form
                refine ⟨v, rfl, ⟨_, _, _, hv⟩, ⟨fun _ => hb.trans (hb'.mono hb.size), fun _ h' => (by simp [St.mark] at h'), fun _ _ => ownsRow_base ho hb.size, fun h' => ?_⟩⟩
                rw [show St.mark L 6 12 = L 12 from rfl, n12] at h'; cases h'
              rintro y6 ⟨vA, vn, vc, rfl⟩
              simp only [Act.put, List.setIfInBounds_toArray, List.set_cons_zero, List.set_cons_succ]
              iterate 5
                (apply St.mix_give
                 · rfl
                 · intro L u' wx hS hcl hrd hag
                   have hb := hS.a (St.not_yet hcl hrd 40 12 (by kernel_rfl))
                   obtain ⟨j0, ⟨j1, j2, j3, j4, j5, j6, j7, j8, j9, j10, j11⟩, j12⟩ := hbl wx hb
                   go_simp
                   try with_reducible rfl
                 · exact fun L u' wx hS => ⟨hS.a, hS.g, hS.p, hS.z⟩
                 simp only [Act.put, List.setIfInBounds_toArray, List.set_cons_zero, List.set_cons_succ])
              refine St.mix_skip rfl ?_ ?_
              · intro L u' wx hS hcl hrd hag
                have b6 := St.before_ready hcl hrd 40 6 (by kernel_rfl)
                have e6 : u' 6 = .slice vA vn vc := hag 40 6 (by kernel_rfl)
                have hb := hS.a hrd.1
                have hB := Z9.keep hb
                obtain ⟨j0, ⟨j1, j2, j3, j4, j5, j6, j7, j8, j9, j10, j11⟩, j12⟩ := _root_.id hB
                refine ⟨putW wx (w.heap.size + 2) ((fun v => ⟨x, .slice hA x.ms.length ha, ps ++ ps', v, zs2, .slice jC zs2.length jc, false, E, .slice qD E.length qd, al⟩) (.slice vA vn vc)), ?_, ⟨fun h' => (by simp [St.mark] at h'), fun _ h' => ?_, fun _ h' => (by simp [St.mark] at h'), fun _ => ⟨wx, hb, hS.p b6 hrd.1, ?_⟩⟩⟩
                · unfold putW
                  go_simp
                  try with_reducible rfl
                · rw [show St.mark L 12 6 = L 6 from rfl, b6] at h'; cases h'
                · rw [show St.upd u' 12 undef 6 = u' 6 from rfl, e6]
              simp only [Act.put]
              apply St.mix_give
              · rfl
              · intro L u' wx hS hcl hrd hag
                go_simp
                try with_reducible rfl
              · exact fun L u' wx hS => ⟨hS.a, hS.g, hS.p, hS.z⟩
              simp only [Act.put, List.setIfInBounds_toArray, List.set_cons_zero, List.set_cons_succ]
              refine St.mix_last ?_
              intro L5 wx hS hall
              obtain ⟨wy, hby, hoy, hwx⟩ := hS.z (hall 12 (by decide))
              have hoy' : OwnP wy w9.heap.size (.slice vA vn vc) (ps ++ ps') := hoy
              have hwx' : wx = putW wy (w.heap.size + 2) ((fun v => ⟨x, .slice hA x.ms.length ha, ps ++ ps', v, zs2, .slice jC zs2.length jc, false, E, .slice qD E.length qd, al⟩) (.slice vA vn vc)) := hwx
              clear hS hall hoy hwx cq hbl hbr hbx
              have Zy := Z9.keep hby
              have ZEy := ZE9.keep hby
              have F := BoxP.put Zy ((fun v => ⟨x, .slice hA x.ms.length ha, ps ++ ps', v, zs2, .slice jC zs2.length jc, false, E, .slice qD E.length qd, al⟩) (.slice vA vn vc))
              have hw2 : w.heap.size + 2 < w9.heap.size := Z9.1
              have FA : HA wx ((fun v => ⟨x, .slice hA x.ms.length ha, ps ++ ps', v, zs2, .slice jC zs2.length jc, false, E, .slice qD E.length qd, al⟩) (.slice vA vn vc)) := by
                rw [hwx']
                exact ⟨argM_put (a49.keep hby) ZEy _, .of_own (putW_own _ hw2 hoy'), argZ_put (a59.keep hby) ZEy _, n5, .of_own (putW_own _ (by omega) (ownsRow_below O9 hby)), .own hoy', .own O9⟩
              have FB : Below w.heap.size w wx := by
                rw [hwx']
                exact putW_below _ (by omega) (hb9.trans (hby.mono (by omega)))
              have FC : BoxP (w.heap.size + 2) ((fun v => ⟨x, .slice hA x.ms.length ha, ps ++ ps', v, zs2, .slice jC zs2.length jc, false, E, .slice qD E.length qd, al⟩) (.slice vA vn vc)) wx := by rw [hwx']; exact F
              clear hwx' F Zy ZEy hoy' hby Z9 ZE9 O9 a49 a59
              go_wp2_with fail
              exact bodyPost_ret (res_BoxP_tmp Tryz.results22 rfl rfl FC) rfl (by
                rw [HR.out]
                exact ⟨_, rfl, by unfold Ph.pl; simp [HSS.out], FA, FB⟩)
end Go.Proofs.YtoomkdofoceiaaaGreatDoor.Dp

/-
 The laws' own num, some and live, of plots: live answers true. Condition: the library's variables hold what their types allow.
-/
import Derived.Test.YthcmnkmfhgoddaaGreatDoorKSsMA
import Derived.Test.YthcmnkmfhgoddaaGreatDoorKDpParse
import Derived.Test.YthcmnkmfhgoddaaGreatDoorKDpRfA
namespace Go.Proofs.YthcmnkmfhgoddaaGreatDoor.Dp
open Go.RowKit Bnd
open Go.Proofs.YthcmnkmfhgoddaaGreatDoor.Ds (De SM OwnI OwnM ArgM dv)
open Go.Proofs.YthcmnkmfhgoddaaGreatDoor.Ss (Ses Zs ses SZ PZ NoP OwnZ ArgZ)
open Go.Proofs.YthcmnkmfhgoddaaGreatDoor.Od (Pr SP OwnP ArgP)
theorem num_any (n : Int) (w : World) : Calls Tryz.prog 28 #[.int .i64 n] w fun e w' => e = .returned (.int .i64 n) /\ w = w' := by
 go_enter Tryz.func28, Tryz.ntmps28
 go_wp2_with fail
 go_ret
 exact ⟨rfl, rfl⟩
abbrev bA : ByteArray := ⟨#[97]⟩
abbrev bOne : ByteArray := ⟨#[49]⟩
abbrev bM : ByteArray := ⟨#[109]⟩
abbrev bTwo : ByteArray := ⟨#[50]⟩
abbrev bK : ByteArray := ⟨#[107]⟩
abbrev dS : De := ⟨1, ⟨#[]⟩, ⟨#[]⟩, 1, [(1, 1)], 2⟩
abbrev plS : Pl := ⟨dS, [(bA, bOne), (bM, bTwo)], [], false, [], 0⟩
abbrev plL : Pl := ⟨⟨1, ⟨#[]⟩, bK, 2, [(1, 1)], 2⟩, [(bA, bOne)], [], false, [], 0⟩
abbrev plR : Pl := ⟨⟨2, bK, ⟨#[]⟩, 2, [(1, 1)], 2⟩, [(bM, bTwo)], [], false, [], 0⟩
abbrev plF : Pl := ⟨⟨2, bK, ⟨#[]⟩, 2, [(1, 1)], 2⟩, [(bM, bTwo)], [], true, [], 0⟩
abbrev plJ : Pl := ⟨⟨1, ⟨#[]⟩, ⟨#[]⟩, 3, [(1, 1)], 2⟩, [(bA, bOne), (bM, bTwo)], [], false, [2], 0⟩
theorem is_S : isP plS = true := by kernel_rfl
theorem is_L : isP plL = true := by kernel_rfl
theorem is_F : isP plF = true := by kernel_rfl
theorem is_J : isP plJ = true := by kernel_rfl
theorem live_cut : cutP plS bK 2 = (plL, plR, 0) := by kernel_rfl
theorem live_join : joinP plL plF = (plJ, 0) := by kernel_rfl
theorem live_parse : parseP (putP plJ) = (plJ, 0) := parseP_yes is_J rfl
theorem live_get : Sf.getP plJ.ps bM = some bTwo := by kernel_rfl
theorem live_chk : chkP Pl.zero = 90 := by kernel_rfl
theorem put_J : (putP plJ).length <= 10000 := of_decide_eq_true (by kernel_rfl)
set_option maxHeartbeats 4000000 in
set_option maxRecDepth 100000 in
theorem some_any (w : World) : Calls Tryz.prog 61 #[] w fun e w' => ∃ o, e = .returned (qv o) /\ o.pl = plS /\ HA w' o /\ Below w.heap.size w w' := by
 go_enter Tryz.func61, Tryz.ntmps61
 go_wp2_with fail
 obtain ⟨W1, hW1⟩ : ∃ W1, ((w.alloc (.cells #[.int .i64 1, .string ⟨#[]⟩, .string ⟨#[]⟩, .int .i64 1, .slice (some ⟨w.heap.size + 1, 0, none⟩) 1 1, .int .i64 2, .slice (some ⟨w.heap.size + 1 + 1, 0, none⟩) 2 2, .slice none 0 0, .bool false, .slice none 0 0, .int .i64 0] 38)).alloc (.cells #[.int .i64 1, .int .i64 1] 70)).alloc (.cells #[.string bA, .string bOne, .string bM, .string bTwo] 85) = W1 := ⟨_, rfl⟩
 have hb : Below w.heap.size w W1 := by rw [<- hW1]; exact (((Below.refl _ w).alloc (Nat.le_refl _) _).alloc (by simp) _).alloc (by simp; omega) _
 have hz : W1.heap.size = w.heap.size + 3 := by rw [<- hW1]; simp
 have B : BoxP w.heap.size ⟨dS, .slice (some ⟨w.heap.size + 1, 0, none⟩) 1 1, [(bA, bOne), (bM, bTwo)], .slice (some ⟨w.heap.size + 1 + 1, 0, none⟩) 2 2, [], .slice none 0 0, false, [], .slice none 0 0, 0⟩ W1 := hW1 ▸ ((BoxP.new w ⟨dS, .slice (some ⟨w.heap.size + 1, 0, none⟩) 1 1, [(bA, bOne), (bM, bTwo)], .slice (some ⟨w.heap.size + 1 + 1, 0, none⟩) 2 2, [], .slice none 0 0, false, [], .slice none 0 0, 0⟩).alloc _).alloc _
 have HM : ArgM W1 (.slice (some ⟨w.heap.size + 1, 0, none⟩) 1 1) [(1, 1)] := .some (w.heap.size + 1) 0 1 [(1, 1)] ⟨_, _, rfl, fun _ => ⟨_, 0, rfl, by omega, fun i hi => by
  obtain rfl : i = 0 := by simp at hi; omega
  rw [<- hW1]; simp [go_sem]⟩⟩
 have HQ : ArgP W1 (.slice (some ⟨w.heap.size + 1 + 1, 0, none⟩) 2 2) [(bA, bOne), (bM, bTwo)] := .some (w.heap.size + 1 + 1) 0 2 [(bA, bOne), (bM, bTwo)] ⟨_, _, rfl, fun _ => ⟨_, 0, rfl, by omega, fun i hi => by
  match i, hi with
  | 0, _ => rw [<- hW1]; simp [go_sem]
  | 1, _ => rw [<- hW1]; simp [go_sem]⟩⟩
 rw [hW1]
 exact bodyPost_ret (res_BoxP Tryz.results61 rfl B) rfl ⟨_, rfl, rfl, ⟨HM, HQ, .nil, (fun z hz => by cases hz), .nil, (fun A n c e => by injection e with _ e1 e2; omega), .nil⟩, hb⟩
theorem flat {w : World} {o : Ph} {p : Pl} (h : HA w o) (hp : o.pl = p) (hs : p.ss = []) : ∃ A a B b C c D e, o = ⟨p.d, .slice A p.d.ms.length a, p.ps, .slice B p.ps.length b, [], .slice C 0 c, p.fr, p.ea, .slice D p.ea.length e, p.al⟩ := by
 obtain ⟨A, a, B, b, C, c, D, e, h1, h2, h3, h4⟩ := h.hp.form
 have hz : o.zs = [] := by
  have : ses o.zs = [] := (congrArg Pl.ss hp).trans hs
  simpa using this
 refine ⟨A, a, B, b, C, c, D, e, ?_⟩
 subst hp
 obtain ⟨d, sm, ps, sp, zs, sz, fr, ea, se, al⟩ := o
 simp only at h1 h2 h3 h4 hz
 subst hz h1 h2 h3 h4
 rfl
set_option maxHeartbeats 16000000 in
set_option maxRecDepth 100000 in
theorem live_any (w : World) (hg : Good w) : Calls Tryz.prog 23 #[] w fun e w' => e = .returned (.bool true) /\ Below w.heap.size w w' := by
 obtain ⟨T, hT⟩ : ∃ T : ByteArray, T = ⟨(putP plJ).toArray⟩ := ⟨_, rfl⟩
 have hTd : T.data.toList = putP plJ := by rw [hT]
 have hTs : T.size <= 10000 := by
  have h1 := put_J
  have h2 : T.size = (putP plJ).length := by rw [hT]; simp [ByteArray.size]
  omega
 have hstr : str (putP plJ) = .string T := by rw [hT]
 have cC : ∀ o w, HA w o -> o.pl = plS -> Calls Tryz.prog 60 #[qv o, .string bK, .int .i64 2] w (GaveP2 w (plL, plR, 0)) := by
  intro o w h hp
  have := cut_any o bK 2 w h (by rw [hp]; exact is_S) (by rw [show o.ps = plS.ps from congrArg Pl.ps hp]; decide) (by decide)
  rw [hp, live_cut] at this
  exact this
 have cJ : ∀ l r w, HA w l -> HA w r -> l.pl = plL -> r.pl = plF -> Calls Tryz.prog 24 #[qv l, qv r] w (GaveP w (plJ, 0)) := by
  intro l r w hl hr pl pr
  have := join_any l r w hl hr (by rw [pl]; exact is_L) (by rw [pr]; exact is_F) (by rw [show l.ps = plL.ps from congrArg Pl.ps pl]; decide) (by rw [show r.ps = plF.ps from congrArg Pl.ps pr]; decide)
  rw [pl, pr, live_join] at this
  exact this
 have cP : ∀ o w, HA w o -> o.pl = plJ -> Calls Tryz.prog 63 #[qv o] w fun e w' => e = .returned (.string T) /\ Below w.heap.size w w' := by
  intro o w h hp
  have := put_any o w h.hp (isP_fitT (by rw [hp]; exact is_J) (by rw [show o.ps = plJ.ps from congrArg Pl.ps hp]; decide))
  rw [hp, hstr] at this
  exact this
 have cQ : ∀ w, Good w -> Calls Tryz.prog 62 #[.string T] w (GaveP w (plJ, 0)) := by
  intro w hg
  have := parse_any T w hTs hg
  rw [hTd, live_parse] at this
  exact this
 have cG : ∀ o w, HA w o -> o.pl = plJ -> Calls Tryz.prog 29 #[qv o, .string bM] w fun e w' => e = .returned (.tuple #[.string bTwo, .bool true]) /\ Below w.heap.size w w' := by
  intro o w h hp
  have hi : isP o.pl = true := by rw [hp]; exact is_J
  have hl : o.ps.length <= 100000 := by rw [show o.ps = plJ.ps from congrArg Pl.ps hp]; decide
  have := get_any o bM w h.hp (isP_fit hi hl) (isP_up hi)
  rw [show o.ps = plJ.ps from congrArg Pl.ps hp, live_get] at this
  exact this
 have cE : ∀ a b w, HA w a -> HA w b -> a.pl = plJ -> b.pl = plJ -> Calls Tryz.prog 27 #[qv a, qv b] w fun e w' => e = .returned (.bool true) /\ Below w.heap.size w w' := by
  intro a b w ha hb pa pb
  have hi : isP a.pl = true := by rw [pa]; exact is_J
  exact rsame_yes a b w ha.hp hb.hp (pa.trans pb.symm) ha.np hb.np (isP_few hi (by rw [show a.ps = plJ.ps from congrArg Pl.ps pa]; decide))
 have cZ : ∀ w, Calls Tryz.prog 36 #[.agg #[.int .i64 0, .string ⟨#[]⟩, .string ⟨#[]⟩, .int .i64 0, .slice none 0 0, .int .i64 0, .slice none 0 0, .slice none 0 0, .bool false, .slice none 0 0, .int .i64 0]] w fun e w' => e = .returned (.int .i64 90) /\ Below w.heap.size w w' := by
  intro w
  have := check_any Ph.zero w (HA.zero w).hp ⟨by decide, by decide, by decide, by decide, (fun p hp => by cases hp), by decide, (fun z hz => by cases hz), by decide⟩
  rw [show Ph.zero.pl = Pl.zero from rfl, live_chk] at this
  exact this
 have cS := some_any w
 clear hT hTd hTs hstr
 go_enter Tryz.func23, Tryz.ntmps23
 go_wp2_with fail
 refine cS.mono ?_
 rintro e w1 ⟨o, rfl, po, ho, b1⟩
 have hz1 := b1.size
 have c1 := cC o w1 ho po
 clear cS cC
 go_wp2_with fail
 refine c1.mono ?_
 rintro e w2 ⟨ol, or, rfl, pl, pr, hl, hr, b2⟩
 have hz2 := b2.size
 have hb2 : Below w.heap.size w w2 := b1.trans (b2.mono hz1)
 obtain ⟨lA, la, lB, lb, lC, lc, lD, ld, el0⟩ := flat hl pl rfl
 obtain ⟨rA, ra, rB, rb, rC, rc, rD, rd, er0⟩ := flat hr pr rfl
 have el : ol = ⟨⟨1, ⟨#[]⟩, bK, 2, [(1, 1)], 2⟩, .slice lA 1 la, [(bA, bOne)], .slice lB 1 lb, [], .slice lC 0 lc, false, [], .slice lD 0 ld, 0⟩ := el0
 clear el0
 have er : or = ⟨⟨2, bK, ⟨#[]⟩, 2, [(1, 1)], 2⟩, .slice rA 1 ra, [(bM, bTwo)], .slice rB 1 rb, [], .slice rC 0 rc, false, [], .slice rD 0 rd, 0⟩ := er0
 clear er0
 subst el er
 clear c1 po ho b1 b2 pl pr
 obtain ⟨W4, hW4⟩ : ∃ W4, (w2.alloc (.cells #[.int .i64 1, .string ⟨#[]⟩, .string bK, .int .i64 2, .slice lA 1 la, .int .i64 2, .slice lB 1 lb, .slice lC 0 lc, .bool false, .slice lD 0 ld, .int .i64 0] 38)).alloc (.cells #[.int .i64 2, .string bK, .string ⟨#[]⟩, .int .i64 2, .slice rA 1 ra, .int .i64 2, .slice rB 1 rb, .slice rC 0 rc, .bool true, .slice rD 0 rd, .int .i64 0] 38) = W4 := ⟨_, rfl⟩
 have BL4 : BoxP w2.heap.size ⟨⟨1, ⟨#[]⟩, bK, 2, [(1, 1)], 2⟩, .slice lA 1 la, [(bA, bOne)], .slice lB 1 lb, [], .slice lC 0 lc, false, [], .slice lD 0 ld, 0⟩ W4 := hW4 ▸ (BoxP.new w2 ⟨⟨1, ⟨#[]⟩, bK, 2, [(1, 1)], 2⟩, .slice lA 1 la, [(bA, bOne)], .slice lB 1 lb, [], .slice lC 0 lc, false, [], .slice lD 0 ld, 0⟩).alloc _
 have BR4 : BoxP (w2.heap.size + 1) ⟨⟨2, bK, ⟨#[]⟩, 2, [(1, 1)], 2⟩, .slice rA 1 ra, [(bM, bTwo)], .slice rB 1 rb, [], .slice rC 0 rc, true, [], .slice rD 0 rd, 0⟩ W4 := by
  have := BoxP.new (w2.alloc (.cells #[.int .i64 1, .string ⟨#[]⟩, .string bK, .int .i64 2, .slice lA 1 la, .int .i64 2, .slice lB 1 lb, .slice lC 0 lc, .bool false, .slice lD 0 ld, .int .i64 0] 38)) ⟨⟨2, bK, ⟨#[]⟩, 2, [(1, 1)], 2⟩, .slice rA 1 ra, [(bM, bTwo)], .slice rB 1 rb, [], .slice rC 0 rc, true, [], .slice rD 0 rd, 0⟩
  rw [World.size_alloc] at this
  rw [<- hW4]
  exact this
 have b4 : Below w2.heap.size w2 W4 := by rw [<- hW4]; exact ((Below.refl _ w2).alloc (Nat.le_refl _) _).alloc (by simp) _
 have hb4 : Below w.heap.size w W4 := hb2.trans (b4.mono (by omega))
 have hz4 := b4.size
 have hl4 : HA W4 ⟨⟨1, ⟨#[]⟩, bK, 2, [(1, 1)], 2⟩, .slice lA 1 la, [(bA, bOne)], .slice lB 1 lb, [], .slice lC 0 lc, false, [], .slice lD 0 ld, 0⟩ := hl.keep b4
 have hr0 := hr.keep b4
 have hr4 : HA W4 ⟨⟨2, bK, ⟨#[]⟩, 2, [(1, 1)], 2⟩, .slice rA 1 ra, [(bM, bTwo)], .slice rB 1 rb, [], .slice rC 0 rc, true, [], .slice rD 0 rd, 0⟩ := ⟨hr0.sm, hr0.sp, hr0.sz, hr0.np, hr0.se, hr0.rp, hr0.re⟩
 have c2 := cJ _ _ W4 hl4 hr4 rfl rfl
 clear cJ hr0 hl hr
 obtain ⟨p_0, ⟨p_1, p_2, p_3, p_4, p_5, p_6, p_7, p_8, p_9, p_10, p_11⟩, p_12⟩ := _root_.id BL4
 obtain ⟨r_0, ⟨r_1, r_2, r_3, r_4, r_5, r_6, r_7, r_8, r_9, r_10, r_11⟩, r_12⟩ := _root_.id BR4
 go_wp2_with (rw [hW4])
 ((try clear p_0); (try clear p_1); (try clear p_2); (try clear p_3); (try clear p_4); (try clear p_5); (try clear p_6); (try clear p_7); (try clear p_8); (try clear p_9); (try clear p_10); (try clear p_11); (try clear p_12))
 ((try clear r_0); (try clear r_1); (try clear r_2); (try clear r_3); (try clear r_4); (try clear r_5); (try clear r_6); (try clear r_7); (try clear r_8); (try clear r_9); (try clear r_10); (try clear r_11); (try clear r_12))
 clear hW4
 refine c2.mono ?_
 rintro e w5 ⟨oj, rfl, pj, hj, b5⟩
 obtain ⟨jA, ja, jB, jb, jC, jc, jD, jd, ej0⟩ := flat hj pj rfl
 have ej : oj = ⟨⟨1, ⟨#[]⟩, ⟨#[]⟩, 3, [(1, 1)], 2⟩, .slice jA 1 ja, [(bA, bOne), (bM, bTwo)], .slice jB 2 jb, [], .slice jC 0 jc, false, [2], .slice jD 1 jd, 0⟩ := ej0
 clear ej0
 subst ej
 have hz5 := b5.size
 have hb5 : Below w.heap.size w w5 := hb4.trans (b5.mono (by omega))
 obtain ⟨W6, hW6⟩ : ∃ W6, w5.alloc (.cells #[.int .i64 1, .string ⟨#[]⟩, .string ⟨#[]⟩, .int .i64 3, .slice jA 1 ja, .int .i64 2, .slice jB 2 jb, .slice jC 0 jc, .bool false, .slice jD 1 jd, .int .i64 0] 38) = W6 := ⟨_, rfl⟩
 have BJ6 : BoxP w5.heap.size ⟨⟨1, ⟨#[]⟩, ⟨#[]⟩, 3, [(1, 1)], 2⟩, .slice jA 1 ja, [(bA, bOne), (bM, bTwo)], .slice jB 2 jb, [], .slice jC 0 jc, false, [2], .slice jD 1 jd, 0⟩ W6 := hW6 ▸ BoxP.new w5 ⟨⟨1, ⟨#[]⟩, ⟨#[]⟩, 3, [(1, 1)], 2⟩, .slice jA 1 ja, [(bA, bOne), (bM, bTwo)], .slice jB 2 jb, [], .slice jC 0 jc, false, [2], .slice jD 1 jd, 0⟩
 have b6 : Below w5.heap.size w5 W6 := hW6 ▸ (Below.refl _ w5).alloc (Nat.le_refl _) _
 have hj6 := hj.keep b6
 have BL6 := (BL4.keep b5).keep b6
 have BR6 := (BR4.keep b5).keep b6
 have hz6 := b6.size
 have hb6 : Below w.heap.size w W6 := hb5.trans (b6.mono (by omega))
 have c3 := cP _ W6 hj6 rfl
 have HW6 := Lib.hid hW6
 clear c2 cP hj pj b5 b6 BL4 BR4 hW6
 go_wp2_with fail
 rw [HW6.out]
 refine c3.mono ?_
 rintro e w7 ⟨rfl, b7⟩
 have hz7 := b7.size
 have hb7 : Below w.heap.size w w7 := hb6.trans (b7.mono (by omega))
 have BJ7 := BJ6.keep b7
 have BL7 := BL6.keep b7
 have BR7 := BR6.keep b7
 have hj7 := hj6.keep b7
 have c4 := cQ w7 (hg.below hb7)
 clear c3 cQ b7 BJ6 BL6 BR6 hj6
 go_wp2_with fail
 refine c4.mono ?_
 rintro e w8 ⟨oq, rfl, pq, hq, b8⟩
 obtain ⟨qA, qa, qB, qb, qC, qc, qD, qd, eq0⟩ := flat hq pq rfl
 have eq : oq = ⟨⟨1, ⟨#[]⟩, ⟨#[]⟩, 3, [(1, 1)], 2⟩, .slice qA 1 qa, [(bA, bOne), (bM, bTwo)], .slice qB 2 qb, [], .slice qC 0 qc, false, [2], .slice qD 1 qd, 0⟩ := eq0
 clear eq0
 subst eq
 have hz8 := b8.size
 have hb8 : Below w.heap.size w w8 := hb7.trans (b8.mono (by omega))
 obtain ⟨W9, hW9⟩ : ∃ W9, w8.alloc (.cells #[.int .i64 1, .string ⟨#[]⟩, .string ⟨#[]⟩, .int .i64 3, .slice qA 1 qa, .int .i64 2, .slice qB 2 qb, .slice qC 0 qc, .bool false, .slice qD 1 qd, .int .i64 0] 38) = W9 := ⟨_, rfl⟩
 have BQ9 : BoxP w8.heap.size ⟨⟨1, ⟨#[]⟩, ⟨#[]⟩, 3, [(1, 1)], 2⟩, .slice qA 1 qa, [(bA, bOne), (bM, bTwo)], .slice qB 2 qb, [], .slice qC 0 qc, false, [2], .slice qD 1 qd, 0⟩ W9 := hW9 ▸ BoxP.new w8 ⟨⟨1, ⟨#[]⟩, ⟨#[]⟩, 3, [(1, 1)], 2⟩, .slice qA 1 qa, [(bA, bOne), (bM, bTwo)], .slice qB 2 qb, [], .slice qC 0 qc, false, [2], .slice qD 1 qd, 0⟩
 have b9 : Below w8.heap.size w8 W9 := hW9 ▸ (Below.refl _ w8).alloc (Nat.le_refl _) _
 have hz9 := b9.size
 have hb9 : Below w.heap.size w W9 := hb8.trans (b9.mono (by omega))
 have hq9 := hq.keep b9
 have hj9 := (hj7.keep b8).keep b9
 have BJ9 := (BJ7.keep b8).keep b9
 have BL9 := (BL7.keep b8).keep b9
 have BR9 := (BR7.keep b8).keep b9
 have c5 := cG _ W9 hj9 rfl
 obtain ⟨kJ0, ⟨kJ1, kJ2, kJ3, kJ4, kJ5, kJ6, kJ7, kJ8, kJ9, kJ10, kJ11⟩, _⟩ := BJ7.keep b8
 have HW9 := Lib.hid hW9
 clear c4 cG hq pq b8 b9 BJ7 BL7 BR7 hj7 hW9
 go_wp2_with fail
 rw [HW9.out]
 clear kJ0 kJ1 kJ2 kJ3 kJ4 kJ5 kJ6 kJ7 kJ8 kJ9 kJ10 kJ11
 refine c5.mono ?_
 rintro e wa ⟨rfl, ba⟩
 have hza := ba.size
 have hba : Below w.heap.size w wa := hb9.trans (ba.mono (by omega))
 have BQa := BQ9.keep ba
 have BJa := BJ9.keep ba
 have BLa := BL9.keep ba
 have BRa := BR9.keep ba
 have hqa := hq9.keep ba
 have hja := hj9.keep ba
 have c6 := cE _ _ wa hqa hja rfl rfl
 obtain ⟨eb, eo, ejD, _, ec0⟩ := hja.se.si.at_ (k := 0) (by simp)
 simp only [List.getElem_cons_zero, Nat.add_zero] at ec0
 clear c5 cE ba BQ9 BJ9 BL9 BR9 hq9 hj9
 go_wp2_with fail
 refine (num_any _ _).mono ?_
 rintro e w' ⟨rfl, rfl⟩
 go_wp2_with fail
 refine (num_any _ _).mono ?_
 rintro e w' ⟨rfl, rfl⟩
 go_wp2_with fail
 refine (num_any _ _).mono ?_
 rintro e w' ⟨rfl, rfl⟩
 subst ejD
 obtain ⟨o_0, ⟨o_1, o_2, o_3, o_4, o_5, o_6, o_7, o_8, o_9, o_10, o_11⟩, o_12⟩ := _root_.id BQa
 obtain ⟨p_0, ⟨p_1, p_2, p_3, p_4, p_5, p_6, p_7, p_8, p_9, p_10, p_11⟩, p_12⟩ := _root_.id BJa
 obtain ⟨q_0, ⟨q_1, q_2, q_3, q_4, q_5, q_6, q_7, q_8, q_9, q_10, q_11⟩, q_12⟩ := _root_.id BLa
 obtain ⟨r_0, ⟨r_1, r_2, r_3, r_4, r_5, r_6, r_7, r_8, r_9, r_10, r_11⟩, r_12⟩ := _root_.id BRa
 go_wp2_with fail
 refine c6.mono ?_
 rintro e wb ⟨rfl, bb⟩
 have hbb : Below w.heap.size w wb := hba.trans (bb.mono (by omega))
 have hzb := hbb.size
 clear c6
 go_wp2_with fail
 refine (cZ wb).mono ?_
 rintro e wc ⟨rfl, bc⟩
 go_wp2_with fail
 refine (num_any _ _).mono ?_
 rintro e w' ⟨rfl, rfl⟩
 go_wp2_with fail
 go_ret
 exact ⟨rfl, hbb.trans (bc.mono (by omega))⟩
end Go.Proofs.YthcmnkmfhgoddaaGreatDoor.Dp

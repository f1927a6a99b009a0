/-
  The document's ParseReply, at every text. Conditions: lengths below 2^47.
-/
import Derived.Test.YticikmkehobblaaGreatDoorOdRIsR
import Derived.Test.YticikmkehobblaaGreatDoorOdTwA
import Derived.Test.YticikmkehobblaaGreatDoorOdParseR
import Derived.Test.YticikmkehobblaaGreatDoorFirstA
namespace Go.Proofs.YticikmkehobblaaGreatDoor.Od
open Go.RowKit Bnd
open Go.Proofs.YticikmkehobblaaGreatDoor.M (numT inR tieT intT untieT)
open Ds (own_cells run_append2)

theorem okR_no {o : Rep} {s : Text} (h : ¬ (isR o = true ∧ putR o = s)) : okR o s = (Rep.zero, 70) := if_neg h
theorem intR_twoR (t : Text) : ∃ f : Int, intR (intT t) = .tuple #[.int .i64 (num0 t), .int .i64 f] ∧ (f = 0 ∨ (f = 10 ∧ intT t = none)) := by
  unfold num0
  cases h : intT t with
  | none => exact ⟨10, rfl, .inr ⟨rfl, rfl⟩⟩
  | some n => exact ⟨0, rfl, .inl rfl⟩
theorem strand_numR {o : Rep} {s : Text} {l : List Text} (hu : untieT s = some l) (hp : putR o = s) : l = strandsR o := by
  have h := (M.untie_spec hu).1
  unfold putR at hp
  rw [h] at hp
  exact (M.tieT_inj hp).symm
theorem isR_ranges {o : Rep} (h : isR o = true) : (0 ≤ o.code ∧ o.code ≤ 4) ∧ 0 ≤ o.err ∧ o.err ≤ 999 := by
  rw [isR_head] at h
  simp only [Bool.and_eq_true, decide_eq_true_eq] at h
  obtain ⟨⟨h1, h2, h3, _⟩, _⟩ := h
  refine ⟨⟨h1, h2⟩, ?_⟩
  unfold tellsB amongB at h3
  split at h3
  · rw [decide_eq_true_eq] at h3; omega
  · rw [decide_eq_true_eq] at h3; omega
/-- an odd number of strands: none -/
theorem parseR_odd {s : Text} {ss : List ByteArray} (h : untieT s = some (texts ss)) (hl : ss.length % 2 = 1) : parseR s = (Rep.zero, 70) := by
  rcases parseR_cases s with ⟨o, _, hp, _⟩ | e
  · exfalso
    have := congrArg List.length (strand_numR h hp)
    rw [texts_length] at this
    unfold strandsR at this
    simp [pairsT_length] at this
    omega
  · exact e
def putRw (w : World) (n : Nat) (o : Rep) (s : Value) : World := World.setCell (World.setCell (World.setCell (World.setCell (World.setCell w ⟨n, 0, none⟩ (.int .i64 o.code)) ⟨n, 1, none⟩ (.int .i64 o.err)) ⟨n, 2, none⟩ (.bool o.has)) ⟨n, 3, none⟩ (.string o.val)) ⟨n, 4, none⟩ s
theorem putRw_below {w w0 : World} {N n : Nat} {o : Rep} {s : Value} (h : Below N w0 w) (hn : N ≤ n) : Below N w0 (putRw w n o s) := by
  unfold putRw
  repeat refine Below.setCell ?_ hn _
  exact h
/-- region 8: a reply is built in a box that may be made at any time -/
structure RE (W : World) (o : Rep) (L : Nat → Bool) (wx : World) : Prop where
  w0 : L 10 = false → wx = W.drew
  w1 : L 10 = true → L 11 = false → wx = W.drew.alloc (.cells #[.int .i64 0, .int .i64 0, .bool false, .string ⟨#[]⟩, .slice none 0 0] 76)
  w2 : L 11 = true → wx = putRw (W.drew.alloc (.cells #[.int .i64 0, .int .i64 0, .bool false, .string ⟨#[]⟩, .slice none 0 0] 76)) W.heap.size o (.slice none 0 0)
/-- region 12: one pair is put behind the others, whichever operation comes first -/
structure RP (N n : Nat) (W : World) (xs : List Pr) (m : Pr) (L : Nat → Bool) (u : Nat → Value) (wx : World) : Prop where
  w0 : L 12 = false → wx = W.drew
  w9 : L 12 = true → L 13 = false → wx = W.drew.alloc (.cells #[.string m.1, .string m.2] 80)
  wa : L 13 = true → L 15 = false → Below N W wx ∧ OwnP wx N (u 13) (xs ++ [m])
  wz : L 15 = true → ∃ w', (Below N W w' ∧ OwnP w' N (u 13) (xs ++ [m])) ∧ wx = w'.setCell ⟨n, 4, none⟩ (u 13)

set_option maxHeartbeats 16000000 in
set_option maxRecDepth 100000 in
theorem rparseR_fresh (s : ByteArray) (w : World) (hs : s.size ≤ 140737488355328) :
    Calls Tryz.prog 54 #[.string s] w fun e w' => GaveF w (parseR s.data.toList) e w' := by
  have cu := fun w => runtie_any s w hs
  have B0 := BoxR.new w Rep.zero (.slice none 0 0)
  cases hu : untieT s.data.toList with
  | none =>
    rw [parseR_none hu]
    rw [hu] at cu
    unfold UntieOut at cu
    clear hu
    go_enter Tryz.func54, Tryz.ntmps54
    go_wp2_with fail
    refine (cu _).mono ?_
    rintro e w1 ⟨rfl, b1⟩
    have B1 := B0.keep b1
    have hb1 : Below w.heap.size w w1 := (show Below w.heap.size w _ from (by (repeat' (first | with_reducible assumption | with_reducible exact Below.refl _ _ | with_reducible refine Below.alloc ?_ ?_ _ | with_reducible refine Below.setCell ?_ ?_ _ | with_reducible refine Below.drew ?_ | omega | (simp; done) | (simp; omega))))).trans (b1.mono (by simp))
    obtain ⟨p_0, ⟨p_1, p_2, p_3, p_4, p_5⟩, p_6⟩ := _root_.id B1
    clear b1 cu
    go_wp2_with fail
    exact bodyPost_ret (res_BoxR_tmp Tryz.results54 rfl rfl (BoxR.put B1 Rep.zero (.slice none 0 0))) rfl ⟨.slice none 0 0, rfl, SP.nil _ _, (by (repeat' (first | with_reducible assumption | with_reducible exact Below.refl _ _ | with_reducible refine Below.alloc ?_ ?_ _ | with_reducible refine Below.setCell ?_ ?_ _ | with_reducible refine Below.drew ?_ | omega | (simp; done) | (simp; omega)))), fun h0 => absurd h0 (by simp)⟩
  | some l =>
    obtain ⟨q, hq⟩ : ∃ q, parseR s.data.toList = q := ⟨_, rfl⟩
    rw [hq]
    have HQ := Lib.hid hq
    clear hq
    rw [hu] at cu
    have hus := M.untie_spec hu
    go_enter Tryz.func54, Tryz.ntmps54
    go_wp2_with fail
    refine (cu _).mono ?_
    rintro e w1 ⟨⟨v, ss, rfl, hss, hsl⟩, b1⟩
    subst hss
    have hszs : ∀ x ∈ ss, x.size ≤ 1048576 := by
      intro x hx
      have h1 := mem_le_tie (l := texts ss) (x := x.data.toList) (List.mem_map.2 ⟨x, hx, rfl⟩)
      have h2 := hus.2.2
      rw [hus.1] at h2
      have h3 : x.data.toList.length = x.size := by simp
      omega
    have hln : ss.length ≤ 4096 := by have := hus.2.1; rwa [texts_length] at this
    have B1 := B0.keep b1
    have hb1 : Below w.heap.size w w1 := (show Below w.heap.size w _ from (by (repeat' (first | with_reducible assumption | with_reducible exact Below.refl _ _ | with_reducible refine Below.alloc ?_ ?_ _ | with_reducible refine Below.setCell ?_ ?_ _ | with_reducible refine Below.drew ?_ | omega | (simp; done) | (simp; omega))))).trans (b1.mono (by simp))
    have hz1 := hb1.size
    obtain ⟨p_0, ⟨p_1, p_2, p_3, p_4, p_5⟩, p_6⟩ := _root_.id B1
    have HU := Lib.hid hu
    clear b1 cu hus hu
    obtain ⟨A, c, rfl⟩ := hsl.form
    by_cases h4 : ss.length < 4
    · have HR := Lib.hid (HQ.out.symm.trans (parseR_len HU.out h4))
      have g1 : ((ss.length : Int) < 4) = True := eq_true (by omega)
      clear h4 hsl HU HQ
      go_wp2_with fail
      exact bodyPost_ret (res_BoxR_tmp Tryz.results54 rfl rfl (BoxR.put B1 Rep.zero (.slice none 0 0))) rfl ⟨.slice none 0 0, by rw [HR.out] <;> rfl, by rw [HR.out]; exact SP.nil _ _, (by (repeat' (first | with_reducible assumption | with_reducible exact Below.refl _ _ | with_reducible refine Below.alloc ?_ ?_ _ | with_reducible refine Below.setCell ?_ ?_ _ | with_reducible refine Below.drew ?_ | omega | (simp; done) | (simp; omega)))), by rw [HR.out]; exact fun h0 => absurd h0 (by simp)⟩
    have g1 : ((ss.length : Int) < 4) = False := eq_false (by omega)
    by_cases hodd : ss.length % 2 = 1
    · have HR := Lib.hid (HQ.out.symm.trans (parseR_odd HU.out hodd))
      have g2 : ((ss.length : Int) % 2 == 1) = true := by rw [beq_iff_eq]; omega
      have g3 : ((ss.length : Int) % 2 = 1) = True := eq_true (by omega)
      clear h4 hodd hsl HU HQ
      go_wp2_with fail
      exact bodyPost_ret (res_BoxR_tmp Tryz.results54 rfl rfl (BoxR.put B1 Rep.zero (.slice none 0 0))) rfl ⟨.slice none 0 0, by rw [HR.out] <;> rfl, by rw [HR.out]; exact SP.nil _ _, (by (repeat' (first | with_reducible assumption | with_reducible exact Below.refl _ _ | with_reducible refine Below.alloc ?_ ?_ _ | with_reducible refine Below.setCell ?_ ?_ _ | with_reducible refine Below.drew ?_ | omega | (simp; done) | (simp; omega)))), by rw [HR.out]; exact fun h0 => absurd h0 (by simp)⟩
    have g2 : ((ss.length : Int) % 2 == 1) = false := by rw [beq_eq_false_iff_ne]; omega
    have g3 : ((ss.length : Int) % 2 = 1) = False := eq_false (by omega)
    obtain ⟨x0, x1, x2, x3, tl, rfl⟩ : ∃ x0 x1 x2 x3 tl, ss = x0 :: x1 :: x2 :: x3 :: tl := by
      rcases ss with _ | ⟨a, _ | ⟨f, _ | ⟨t, _ | ⟨g, tl⟩⟩⟩⟩
      all_goals first | exact ⟨_, _, _, _, _, rfl⟩ | (exfalso; simp at h4)
    have HP := Lib.hid (HQ.out.symm.trans (parseR_some HU.out))
    have HS : ∀ o : Rep, putR o = s.data.toList → texts (x0 :: x1 :: x2 :: x3 :: tl) = strandsR o := fun o hp => strand_numR HU.out hp
    clear HQ
    obtain ⟨ad, rfl, hadb, z0⟩ := hsl.at_ (k := 0) (by simp)
    obtain ⟨ad1, ha1, _, z1⟩ := hsl.at_ (k := 1) (by simp)
    obtain rfl : ad = ad1 := Option.some.inj ha1
    obtain ⟨ad2, ha2, _, z2⟩ := hsl.at_ (k := 2) (by simp)
    obtain rfl : ad = ad2 := Option.some.inj ha2
    obtain ⟨ad3, ha3, _, z3⟩ := hsl.at_ (k := 3) (by simp)
    obtain rfl : ad = ad3 := Option.some.inj ha3
    have zt : ∀ i (h : i < tl.length), w1.cell? (ad.add (i + 4)) = some (.string tl[i]) := by
      intro i h
      obtain ⟨ad4, ha4, _, z4⟩ := hsl.at_ (k := i + 4) (by simp; omega)
      obtain rfl : ad = ad4 := Option.some.inj ha4
      simpa using z4
    clear ha1 ha2 ha3
    simp only [List.getElem_cons_zero, List.getElem_cons_succ] at z0 z1 z2 z3
    have z0 : w1.cell? ad = some (.string x0) := z0
    have z1 : w1.cell? ⟨ad.block, ad.off + 1, none⟩ = some (.string x1) := z1
    have z2 : w1.cell? ⟨ad.block, ad.off + 2, none⟩ = some (.string x2) := z2
    have z3 : w1.cell? ⟨ad.block, ad.off + 3, none⟩ = some (.string x3) := z3
    have hx0 := hszs x0 (by simp)
    have hx1 := hszs x1 (by simp)
    have hx3 := hszs x3 (by simp)
    have hxt : ∀ x ∈ tl, x.size ≤ 1048576 := fun x hx => hszs x (by simp [hx])
    obtain ⟨t, ht⟩ : ∃ t, t = tl.length := ⟨_, rfl⟩
    have hlen : (x0 :: x1 :: x2 :: x3 :: tl).length = t + 4 := by simp [ht]
    have hpm : ∀ p ∈ twosS tl, p.1.size ≤ 1048576 ∧ p.2.size ≤ 1048576 := fun p hp => ⟨hxt _ (twosS_mem hp).1, hxt _ (twosS_mem hp).2⟩
    obtain ⟨f0, c0, d0⟩ : ∃ f : Int, (∀ w, Calls Tryz.prog 53 #[.string x0] w fun e w' => e = .returned (.tuple #[.int .i64 (num0 x0.data.toList), .int .i64 f]) ∧ w = w') ∧ (f = 0 ∨ (f = 10 ∧ intT x0.data.toList = none)) := by
      obtain ⟨f, h1, h2⟩ := intR_twoR x0.data.toList
      exact ⟨f, fun w => by rw [← h1]; exact rint_any x0 w (by omega), h2⟩
    obtain ⟨f1, c1, d1⟩ : ∃ f : Int, (∀ w, Calls Tryz.prog 53 #[.string x1] w fun e w' => e = .returned (.tuple #[.int .i64 (num0 x1.data.toList), .int .i64 f]) ∧ w = w') ∧ (f = 0 ∨ (f = 10 ∧ intT x1.data.toList = none)) := by
      obtain ⟨f, h1, h2⟩ := intR_twoR x1.data.toList
      exact ⟨f, fun w => by rw [← h1]; exact rint_any x1 w (by omega), h2⟩
    have i0 := num0_in x0.data.toList
    have i1 := num0_in x1.data.toList
    have hbad : intT x0.data.toList = none ∨ intT x1.data.toList = none → q = (Rep.zero, 70) := by
      intro hx
      rw [HP.out]
      refine okR_no (fun hh => ?_)
      have e := HS _ hh.2
      simp only [texts, strandsR, List.map_cons] at e
      injection e with e0 e
      injection e with e1 e
      rcases hx with hx | hx
      · rw [e0, M.intT_some (num0_in _) rfl] at hx; cases hx
      · rw [e1, M.intT_some (num0_in _) rfl] at hx; cases hx
    obtain ⟨n0, hn0⟩ : ∃ n, num0 x0.data.toList = n := ⟨_, rfl⟩
    obtain ⟨n1, hn1⟩ : ∃ n, num0 x1.data.toList = n := ⟨_, rfl⟩
    rw [hn0] at c0 i0 HP
    rw [hn1] at c1 i1 HP
    rw [← is_one] at HP
    obtain ⟨o, ho⟩ : ∃ o : Rep, (⟨n0, n1, x2.toList == [49], x3, twosS tl⟩ : Rep) = o := ⟨_, rfl⟩
    rw [ho] at HP
    have hps : twosS tl = o.ps := by rw [← ho]
    rw [hps] at hpm
    have hvl : o.val.size ≤ 1048576 := by rw [← ho]; exact hx3
    have hfit : isR o = true → FitR o := by
      intro hI
      refine ⟨by rw [← ho]; exact i0, by rw [← ho]; exact i1, hvl, ?_, hpm⟩
      unfold isR at hI
      simp only [Bool.and_eq_true, decide_eq_true_eq] at hI
      omega
    have hpsz : ∀ p ∈ o.ps, p.1.size ≤ 140737488355328 ∧ p.2.size ≤ 140737488355328 := fun p hp => by have := hpm p hp; omega
    have hrange : ¬ ((0 ≤ n0 ∧ n0 ≤ 4) ∧ 0 ≤ n1 ∧ n1 ≤ 999) → q = (Rep.zero, 70) := by
      intro hn
      rw [HP.out]
      refine okR_no (fun hh => hn ?_)
      have := isR_ranges hh.1
      rw [← ho] at this
      exact this
    have HO := Lib.hid ho
    have HB := Lib.hid hbad
    have HRG := Lib.hid hrange
    have HPS := Lib.hid hps
    have HT := Lib.hid ht
    have ht2 : t % 2 = 0 ∧ t + 4 ≤ 4096 := by simp only [List.length_cons] at hodd hln; omega
    rw [hlen] at g1 g2 g3 ⊢
    have D := Lib.hid (And.intro d0 d1)
    clear hn0 hn1 ho hps HU hszs hx0 hx1 hx3 hxt i0 i1 hlen h4 hln ht hpm hbad hrange hsl HS hodd d0 d1
    have e0 : ((0 : Int) < (t : Int) + 4) = True := eq_true (by omega)
    have e1 : ((1 : Int) < (t : Int) + 4) = True := eq_true (by omega)
    have e2 : ((2 : Int) < (t : Int) + 4) = True := eq_true (by omega)
    have e3 : ((3 : Int) < (t : Int) + 4) = True := eq_true (by omega)
    have g1 : ((t : Int) + 4 < 4) = False := eq_false (by omega)
    have g2 : (((t : Int) + 4) % 2 == 1) = false := by rw [beq_eq_false_iff_ne]; omega
    have g3 : (((t : Int) + 4) % 2 = 1) = False := eq_false (by omega)
    go_wp2_with fail
    refine (c0 _).mono ?_
    rintro e w2 ⟨rfl, rfl⟩
    go_wp2_with fail
    refine (c1 _).mono ?_
    rintro e w2 ⟨rfl, rfl⟩
    obtain ⟨d0, d1⟩ := D.out
    clear c0 c1 D g1 g2 g3
    by_cases hall : f0 = 0 ∧ f1 = 0
    rotate_left
    · have HR : Hid (q = (Rep.zero, 70)) := by
        refine Lib.hid ?_
        rcases d0 with r0 | ⟨_, h⟩
        rotate_left
        · exact HB.out (.inl h)
        rcases d1 with r1 | ⟨_, h⟩
        rotate_left
        · exact HB.out (.inr h)
        exact absurd ⟨r0, r1⟩ hall
      obtain ⟨s1, hs1⟩ : ∃ s1, s1 = f0 + f1 := ⟨_, rfl⟩
      have j1 : IntKind.i64.wrap (f0 + f1) = s1 := by rw [IntKind.wrap_i64] <;> omega
      have j6 : (s1 != 0) = true := by rw [bne_iff_ne]; omega
      clear d0 d1 hall hs1
      go_wp2_with fail
      exact bodyPost_ret (res_BoxR_tmp Tryz.results54 rfl rfl (BoxR.put B1 Rep.zero (.slice none 0 0))) rfl ⟨.slice none 0 0, by rw [HR.out] <;> rfl, by rw [HR.out]; exact SP.nil _ _, (by (repeat' (first | with_reducible assumption | with_reducible exact Below.refl _ _ | with_reducible refine Below.alloc ?_ ?_ _ | with_reducible refine Below.setCell ?_ ?_ _ | with_reducible refine Below.drew ?_ | omega | (simp; done) | (simp; omega)))), by rw [HR.out]; exact fun h0 => absurd h0 (by simp)⟩
    obtain ⟨rfl, rfl⟩ := hall
    clear d0 d1
    by_cases t9 : 0 ≤ n0
    rotate_left
    · have HR := Lib.hid (HRG.out (by omega))
      have t2 : (n0 < 0) = True := eq_true (by omega)
      clear t9
      go_wp2_with fail
      exact bodyPost_ret (res_BoxR_tmp Tryz.results54 rfl rfl (BoxR.put B1 Rep.zero (.slice none 0 0))) rfl ⟨.slice none 0 0, by rw [HR.out] <;> rfl, by rw [HR.out]; exact SP.nil _ _, (by (repeat' (first | with_reducible assumption | with_reducible exact Below.refl _ _ | with_reducible refine Below.alloc ?_ ?_ _ | with_reducible refine Below.setCell ?_ ?_ _ | with_reducible refine Below.drew ?_ | omega | (simp; done) | (simp; omega)))), by rw [HR.out]; exact fun h0 => absurd h0 (by simp)⟩
    have tn0a : (n0 < 0) = False := eq_false (by omega)
    clear t9
    by_cases t9 : n0 ≤ 4
    rotate_left
    · have HR := Lib.hid (HRG.out (by omega))
      have t2 : (n0 > 4) = True := eq_true (by omega)
      clear t9
      go_wp2_with fail
      exact bodyPost_ret (res_BoxR_tmp Tryz.results54 rfl rfl (BoxR.put B1 Rep.zero (.slice none 0 0))) rfl ⟨.slice none 0 0, by rw [HR.out] <;> rfl, by rw [HR.out]; exact SP.nil _ _, (by (repeat' (first | with_reducible assumption | with_reducible exact Below.refl _ _ | with_reducible refine Below.alloc ?_ ?_ _ | with_reducible refine Below.setCell ?_ ?_ _ | with_reducible refine Below.drew ?_ | omega | (simp; done) | (simp; omega)))), by rw [HR.out]; exact fun h0 => absurd h0 (by simp)⟩
    have tn0b : (n0 > 4) = False := eq_false (by omega)
    clear t9
    by_cases t9 : 0 ≤ n1
    rotate_left
    · have HR := Lib.hid (HRG.out (by omega))
      have t2 : (n1 < 0) = True := eq_true (by omega)
      clear t9
      go_wp2_with fail
      exact bodyPost_ret (res_BoxR_tmp Tryz.results54 rfl rfl (BoxR.put B1 Rep.zero (.slice none 0 0))) rfl ⟨.slice none 0 0, by rw [HR.out] <;> rfl, by rw [HR.out]; exact SP.nil _ _, (by (repeat' (first | with_reducible assumption | with_reducible exact Below.refl _ _ | with_reducible refine Below.alloc ?_ ?_ _ | with_reducible refine Below.setCell ?_ ?_ _ | with_reducible refine Below.drew ?_ | omega | (simp; done) | (simp; omega)))), by rw [HR.out]; exact fun h0 => absurd h0 (by simp)⟩
    have tn1a : (n1 < 0) = False := eq_false (by omega)
    clear t9
    by_cases t9 : n1 ≤ 999
    rotate_left
    · have HR := Lib.hid (HRG.out (by omega))
      have t2 : (n1 > 999) = True := eq_true (by omega)
      clear t9
      go_wp2_with fail
      exact bodyPost_ret (res_BoxR_tmp Tryz.results54 rfl rfl (BoxR.put B1 Rep.zero (.slice none 0 0))) rfl ⟨.slice none 0 0, by rw [HR.out] <;> rfl, by rw [HR.out]; exact SP.nil _ _, (by (repeat' (first | with_reducible assumption | with_reducible exact Below.refl _ _ | with_reducible refine Below.alloc ?_ ?_ _ | with_reducible refine Below.setCell ?_ ?_ _ | with_reducible refine Below.drew ?_ | omega | (simp; done) | (simp; omega)))), by rw [HR.out]; exact fun h0 => absurd h0 (by simp)⟩
    have tn1b : (n1 > 999) = False := eq_false (by omega)
    clear t9
    go_wp2_with fail
    refine St.wp_region_mixed (fun L _ wx => RE w1 o L wx) (fun _ _ => False) (by kernel_rfl) (by kernel_rfl) (by kernel_rfl) ⟨fun _ => rfl, fun h => (by cases h), fun h => (by cases h)⟩ ?_
    have cells : ∀ L wx, RE w1 o L wx → L 11 = false → wx.cell? ⟨ad.block, ad.off + 2, none⟩ = some (.string x2) ∧ wx.cell? ⟨ad.block, ad.off + 3, none⟩ = some (.string x3) := by
      intro L wx hS h11
      have hq : Below w1.heap.size w1 wx := by
        cases h10 : L 10 with
        | false => rw [hS.w0 h10]; exact (Below.refl _ _).drew
        | true => rw [hS.w1 h10 h11]; exact (Below.refl _ _).drew.alloc (Nat.le_refl _) _
      exact ⟨(hq.cell (p := ⟨ad.block, ad.off + 2, none⟩) hadb).trans z2, (hq.cell (p := ⟨ad.block, ad.off + 3, none⟩) hadb).trans z3⟩
    iterate 10
      (apply St.mix_give
       · rfl
       · intro L u' wx hS hcl hrd hag
         obtain ⟨k0, k1⟩ := cells _ _ hS (St.not_yet hcl hrd 40 11 (by kernel_rfl))
         go_simp
         try with_reducible rfl
       · exact fun L u' wx hS => ⟨hS.w0, hS.w1, hS.w2⟩
       simp only [Act.put, List.setIfInBounds_toArray, List.set_cons_zero, List.set_cons_succ])
    refine St.mix_free (fun z => z = Ds.ptr w1.heap.size) rfl ?_ ?_
    · intro L u' wx hS hcl hrd hag
      have h11 := St.not_yet hcl hrd 40 11 (by kernel_rfl)
      obtain rfl := hS.w0 hrd.1
      refine ⟨_, _, rfl, ?_, ⟨fun h => (by simp [St.mark] at h), fun _ _ => rfl, fun h => (by rw [show St.mark L 10 11 = L 11 from rfl, h11] at h; cases h)⟩⟩
      go_simp
      try with_reducible rfl
    rintro _ rfl
    simp only [Act.put, List.setIfInBounds_toArray, List.set_cons_zero, List.set_cons_succ]
    refine St.mix_skip rfl ?_ ?_
    · intro L u' wx hS hcl hrd hag
      have h10 := St.before_ready hcl hrd 40 10 (by kernel_rfl)
      obtain rfl := hS.w1 h10 hrd.1
      refine ⟨putRw _ w1.heap.size o (.slice none 0 0), ?_, ⟨fun h => (by rw [show St.mark L 11 10 = L 10 from rfl, h10] at h; cases h), fun _ h => (by simp [St.mark] at h), fun _ => rfl⟩⟩
      rw [← HO.out]
      unfold putRw
      obtain ⟨_, ⟨d0, d1, d2, d3, d4⟩, dz⟩ := BoxR.new w1 Rep.zero (.slice none 0 0)
      go_simp
      try with_reducible rfl
    simp only [Act.put]
    refine St.mix_last ?_
    intro L wx hS hall
    have hwx := hS.w2 (hall 11 (by decide))
    have hq15 : Below w1.heap.size w1 wx := by rw [hwx]; exact putRw_below ((Below.refl _ _).drew.alloc (Nat.le_refl _) _) (Nat.le_refl _)
    have X0 : BoxR w1.heap.size o (.slice none 0 0) wx := by
      rw [hwx]
      unfold putRw
      exact BoxR.put (BoxR.new w1.drew Rep.zero (.slice none 0 0)) o (.slice none 0 0)
    have Bz := B1.keep hq15
    have hwr : w.heap.size < w1.heap.size := B1.1
    clear hS hall cells hwx z0 z1 z2 z3 tn0a tn0b tn1a tn1b
    go_wp2_with fail
    go_loopw [11] (fun vi w2 => ∃ (j i : Nat) (ms : List Pr) (sv : Value), j * 2 ≤ t ∧ i = j * 2 + 4 ∧ vi = .int .i64 (i : Int) ∧ Hid (twosS (tl.take (j * 2)) = ms) ∧ Hid (ms.length = j) ∧ BoxR w1.heap.size o sv w2 ∧ OwnP w2 (w1.heap.size + 1) sv ms ∧ BoxR w.heap.size Rep.zero (.slice none 0 0) w2 ∧ Below w1.heap.size w1 w2) (fun vi _ => t + 4 - (intOf vi).toNat)
    case atStart => exact ⟨0, 4, [], .slice none 0 0, by omega, by omega, rfl, Lib.hid (by simp [twosS]), Lib.hid rfl, X0, own_nil _ _, Bz, hq15⟩
    case round =>
      clear X0 Bz hq15
      obtain ⟨j, i, ms, sv, hj, hij, rfl, HTW, HL, X1, hown, Bz, hb2⟩ := hrel
      have hz2 := hb2.size
      have hb2w : Below w.heap.size w wr := hb1.trans (hb2.mono (by omega))
      obtain ⟨A7, c7, rfl⟩ := (SP.of_own hown).form
      have HO1 := Lib.hid hown
      have hlm : ms.length ≤ 5000 := by have := HL.out; omega
      obtain ⟨zz1, ⟨f1, f2, f3, f4, f5⟩, f7⟩ := id X1
      by_cases hlt : i < t + 4
      · have hjm : j * 2 + 1 < tl.length := by have := HT.out; omega
        obtain ⟨i1, hi1⟩ : ∃ i1 : Nat, i1 = i + 1 := ⟨_, rfl⟩
        obtain ⟨i2, hi2⟩ : ∃ i2 : Nat, i2 = i + 2 := ⟨_, rfl⟩
        have cx := (hb2.cell (p := ad.add (j * 2 + 4)) hadb).trans (zt (j * 2) (by omega))
        have cy := (hb2.cell (p := ad.add (j * 2 + 1 + 4)) hadb).trans (zt (j * 2 + 1) hjm)
        rw [show j * 2 + 4 = i by omega] at cx
        rw [show j * 2 + 1 + 4 = i1 by omega] at cy
        have htake := twosS_take j tl hjm
        rw [HTW.out] at htake
        obtain ⟨x, hx⟩ : ∃ x, tl[j * 2]'(by omega) = x := ⟨_, rfl⟩
        obtain ⟨y, hy⟩ : ∃ y, tl[j * 2 + 1] = y := ⟨_, rfl⟩
        rw [hx, hy] at htake
        rw [hx] at cx
        rw [hy] at cy
        have j0 : (0 ≤ (i : Int)) = True := eq_true (by omega)
        have j1 : (0 ≤ (i1 : Int)) = True := eq_true (by omega)
        have j2 : ((i : Int) < (t : Int) + 4) = True := eq_true (by omega)
        have j3 : ((i1 : Int) < (t : Int) + 4) = True := eq_true (by omega)
        have j4 : IntKind.i64.wrap ((i : Int) + 1) = (i1 : Int) := by rw [IntKind.wrap_i64] <;> omega
        have j5 : IntKind.i64.wrap ((i : Int) + 2) = (i2 : Int) := by rw [IntKind.wrap_i64] <;> omega
        obtain ⟨zz2, ⟨q1, q2, q3, q4, q5⟩, q7⟩ := id Bz
        have hzb : w.heap.size < wr.heap.size := zz2
        have HT2 := Lib.hid htake
        have HI := Lib.hid hij
        have HI2 := Lib.hid hi2
        clear htake hx hy HTW hij hi1 hi2 hown
        go_wp2_with fail
        have hsz1 : w1.heap.size + 1 ≤ wr.heap.size := by have := X1.1; omega
        refine St.wp_region_mixed (RP (w1.heap.size + 1) w1.heap.size wr ms (x, y)) (fun _ _ => False) (by kernel_rfl) (by kernel_rfl) (by kernel_rfl) ⟨fun _ => rfl, fun h => (by cases h), fun h => (by cases h), fun h => (by cases h)⟩ ?_
        have hO' := HO1.out
        obtain ⟨i0, hi, hz0', hz1', hz2'⟩ := info_parts infoP
        have hb0r : ad.block < wr.heap.size := by omega
        have hbi : (ad.add i).block < wr.drew.heap.size := by cases i <;> exact hb0r
        have hbi1 : (ad.add i1).block < wr.drew.heap.size := by cases i1 <;> exact hb0r
        have cells : ∀ L u wx, RP (w1.heap.size + 1) w1.heap.size wr ms (x, y) L u wx → L 13 = false → wx.cell? ⟨w1.heap.size, 4, none⟩ = some (.slice A7 ms.length c7) ∧ wx.cell? (ad.add i) = some (.string x) ∧ wx.cell? (ad.add i1) = some (.string y) := by
          intro L u wx hS h13
          cases h12 : L 12 with
          | false => rw [hS.w0 h12]; exact ⟨f5, cx, cy⟩
          | true =>
            rw [hS.w9 h12 h13]
            exact ⟨(World.cell?_alloc_lt wr.drew _ ⟨w1.heap.size, 4, none⟩ (by show w1.heap.size < wr.heap.size; omega)).trans f5, (World.cell?_alloc_lt wr.drew _ (ad.add i) hbi).trans cx, (World.cell?_alloc_lt wr.drew _ (ad.add i1) hbi1).trans cy⟩
        iterate 12
          (apply St.mix_give
           · rfl
           · intro L u' wx hS hcl hrd hag
             obtain ⟨l1, l2, l3⟩ := cells _ _ _ hS (St.not_yet hcl hrd 40 13 (by kernel_rfl))
             go_simp
             try with_reducible rfl
           · exact fun L u' wx hS => ⟨hS.w0, hS.w9, hS.wa, hS.wz⟩
           simp only [Act.put, List.setIfInBounds_toArray, List.set_cons_zero, List.set_cons_succ])
        refine St.mix_free (fun z => z = .slice (some ⟨wr.heap.size, 0, none⟩) 1 1) rfl ?_ ?_
        · intro L u' wx hS hcl hrd hag
          have h13 := St.not_yet hcl hrd 40 13 (by kernel_rfl)
          have h15 := St.not_yet hcl hrd 40 15 (by kernel_rfl)
          obtain rfl := hS.w0 hrd.1
          refine ⟨_, _, rfl, ?_, ⟨fun h => (by simp [St.mark] at h), fun _ _ => rfl, fun h => (by rw [show St.mark L 12 13 = L 13 from rfl, h13] at h; cases h), fun h => (by rw [show St.mark L 12 15 = L 15 from rfl, h15] at h; cases h)⟩⟩
          go_simp
          try with_reducible rfl
        rintro _ rfl
        simp only [Act.put, List.setIfInBounds_toArray, List.set_cons_zero, List.set_cons_succ]
        refine St.mix_free (fun z => ∃ A c, z = .slice A (ms.length + 1) c) rfl ?_ ?_
        · intro L u' wx hS hcl hrd hag
          have h12 := St.before_ready hcl hrd 40 12 (by kernel_rfl)
          have h15 := St.not_yet hcl hrd 40 15 (by kernel_rfl)
          obtain rfl := hS.w9 h12 hrd.1
          obtain ⟨v', w', k1, k2, k3, _⟩ := run_append_own (P := Tryz.prog) (w := wr.drew.alloc (.cells #[.string x, .string y] 80)) (w1.heap.size + 1) 41 41 80 i0 (.agg #[.string ⟨#[]⟩, .string ⟨#[]⟩]) 2 32 Tryz.underlying41 hi hz0' hz1' hz2' rfl (by decide)
            (.slice A7 ms.length c7) ms.length (pcells ms) (hO'.alloc (w := wr.drew) _) ⟨wr.heap.size, 0, none⟩ 1 1 [.string x, .string y] rfl
            (fun j z hz => by
              match j with
              | 0 => simp at hz; subst hz; exact World.cell?_alloc_new wr.drew _ _ 0
              | 1 => simp at hz; subst hz; exact World.cell?_alloc_new wr.drew _ _ 1
              | j + 2 => simp at hz) (fun z hz => by simp at hz; rcases hz with rfl | rfl <;> rfl) (by unfold maxLen; omega) (by omega) (by simp; omega)
          have k2' : OwnP w' (w1.heap.size + 1) v' (ms ++ [(x, y)]) := by
            show w'.ownsRow _ _ _ _ _ _
            rw [List.length_append, pcells_append]
            exact k2
          have hbe : Below (w1.heap.size + 1) wr w' := (((Below.refl _ wr).drew).alloc hsz1 _).trans ((Below.refl _ _).grown k3 (by simp; omega) (fun q hq => ((hO'.alloc (w := wr.drew) (.cells #[.string x, .string y] 80)).lt q hq).1))
          refine ⟨v', w', ?_, run_append2 rfl rfl rfl k1, ⟨fun h => (by rw [show St.mark L 13 12 = L 12 from rfl, h12] at h; cases h), fun _ h => (by simp [St.mark] at h), fun _ _ => ⟨hbe, k2'⟩, fun h => (by rw [show St.mark L 13 15 = L 15 from rfl, h15] at h; cases h)⟩⟩
          obtain ⟨A', c', hv'⟩ := (SP.of_own k2').form
          rw [List.length_append] at hv'
          exact ⟨A', c', hv'⟩
        rintro y9 ⟨A9, c9, rfl⟩
        simp only [Act.put, List.setIfInBounds_toArray, List.set_cons_zero, List.set_cons_succ]
        iterate 1
          (apply St.mix_give
           · rfl
           · intro L u' wx hS hcl hrd hag
             skip
             go_simp
             try with_reducible rfl
           · exact fun L u' wx hS => ⟨hS.w0, hS.w9, hS.wa, hS.wz⟩
           simp only [Act.put, List.setIfInBounds_toArray, List.set_cons_zero, List.set_cons_succ])
        refine St.mix_skip rfl ?_ ?_
        · intro L u' wx hS hcl hrd hag
          have h13 := St.before_ready hcl hrd 40 13 (by kernel_rfl)
          have h12 := St.before_ready hcl hrd 40 12 (by kernel_rfl)
          obtain ⟨kb, k2⟩ := hS.wa h13 hrd.1
          have hu : u' 13 = .slice A9 (ms.length + 1) c9 := hag 40 13 (by kernel_rfl)
          have l1 := (kb.cell (p := ⟨w1.heap.size, 4, none⟩) (by show w1.heap.size < w1.heap.size + 1; omega)).trans f5
          have l2 := (kb.frozen (p := ⟨w1.heap.size, 4, none⟩) (by show w1.heap.size < w1.heap.size + 1; omega)).trans (f7 4)
          refine ⟨wx.setCell ⟨w1.heap.size, 4, none⟩ (u' 13), ?_, ⟨fun h => (by rw [show St.mark L 15 12 = L 12 from rfl, h12] at h; cases h), fun _ h => (by rw [show St.mark L 15 13 = L 13 from rfl, h13] at h; cases h), fun _ h => (by simp [St.mark] at h), fun _ => ⟨wx, ⟨kb, k2⟩, rfl⟩⟩⟩
          rw [hu]
          go_simp
          try with_reducible rfl
        simp only [Act.put]
        refine St.mix_last ?_
        intro L wx hS hall
        obtain ⟨w9, ⟨kb, k2⟩, hwx⟩ := hS.wz (hall 15 (by decide))
        have k2' : OwnP w9 (w1.heap.size + 1) (.slice A9 (ms.length + 1) c9) (ms ++ [(x, y)]) := k2
        have hwx' : wx = w9.setCell ⟨w1.heap.size, 4, none⟩ (.slice A9 (ms.length + 1) c9) := hwx
        have D0 : BoxR w.heap.size Rep.zero (.slice none 0 0) wx := by rw [hwx']; exact (BoxR.kept (N := w1.heap.size + 1) Bz (by omega) kb).other (by show w1.heap.size ≠ w.heap.size; omega) _
        have D1 : BoxR w1.heap.size o (.slice A9 (ms.length + 1) c9) wx := by
          rw [hwx']
          have := BoxR.kept (N := w1.heap.size + 1) X1 (by omega) kb
          obtain ⟨t0, ⟨t1, t2, t3, t4, t5⟩, t7⟩ := id this
          exact ⟨by simpa using t0, ⟨by simp [go_sem, t1], by simp [go_sem, t2], by simp [go_sem, t3], by simp [go_sem, t4], by simp [go_sem, t5]⟩, fun o => by simp [World.frozen?_setCell, t7 o]⟩
        have hbn : Below w1.heap.size w1 wx := by rw [hwx']; exact (hb2.trans (kb.mono (by omega))).setCell (p := ⟨w1.heap.size, 4, none⟩) (Nat.le_refl _) _
        have hOn : OwnP wx (w1.heap.size + 1) (.slice A9 (ms.length + 1) c9) (ms ++ [(x, y)]) := by rw [hwx']; exact own_set k2' (by show w1.heap.size < w1.heap.size + 1; omega) _
        clear hwx hwx' hS hall kb k2 k2' cells X1 Bz f1 f2 f3 f4 f5 f7 q1 q2 q3 q4 q5 q7 hO' cx cy
        have HON := Lib.hid hOn
        clear hOn
        go_wp2_with fail
        go_roundw
        case rel => exact ⟨j + 1, i2, ms ++ [(x, y)], _, by have := HT.out; omega, by have := HI.out; have := HI2.out; omega, rfl, HT2, Lib.hid (by have := HL.out; simp; omega), D1, by simpa using HON.out, D0, hbn⟩
        case measure => have := HI2.out; simp [intOf]; omega
      · have hjm : j * 2 = t := by omega
        have hall : ms = o.ps := by rw [← HTW.out, hjm, HT.out, List.take_length]; exact HPS.out
        subst hall
        have l0 : ((i : Int) < (t : Int) + 4) = False := eq_false (by omega)
        have HSP := Lib.hid (SP.of_own hown)
        have hA := X1
        have hB := Bz
        clear hjm HTW HL hij hj hlt hown X1 Bz
        have ck := fun w hsp => risR_any o (.slice A7 o.ps.length c7) w hsp (by omega) (by omega) hpsz
        obtain ⟨zz2, ⟨q1, q2, q3, q4, q5⟩, q7⟩ := id hB
        cases hI : isR o with
        | false =>
          rw [hI] at ck
          have HR := Lib.hid (show q = (Rep.zero, 70) by rw [HP.out]; exact okR_no (fun hh => by rw [hI] at hh; exact absurd hh.1 (by simp)))
          clear hI HP
          go_wp2_with fail
          refine (ck _ HSP.out).mono ?_
          rintro e w3 ⟨rfl, b3⟩
          have A3 := hB.keep b3
          have hb3 := hb2w.trans (b3.mono hb2w.size)
          clear q1 q2 q3 q4 q5 q7 zz2 b3
          obtain ⟨p_0, ⟨p_1, p_2, p_3, p_4, p_5⟩, p_6⟩ := _root_.id A3
          go_wp2_with fail
          exact bodyPost_ret (res_BoxR_tmp Tryz.results54 rfl rfl (BoxR.put A3 Rep.zero (.slice none 0 0))) rfl ⟨.slice none 0 0, by rw [HR.out] <;> rfl, by rw [HR.out]; exact SP.nil _ _, (by (repeat' (first | with_reducible assumption | with_reducible exact Below.refl _ _ | with_reducible refine Below.alloc ?_ ?_ _ | with_reducible refine Below.setCell ?_ ?_ _ | with_reducible refine Below.drew ?_ | omega | (simp; done) | (simp; omega)))), by rw [HR.out]; exact fun h0 => absurd h0 (by simp)⟩
        | true =>
          rw [hI] at ck
          have cp := fun w hsp => rputR_any o (.slice A7 o.ps.length c7) w hsp (hfit hI)
          obtain ⟨Pt, hP⟩ : ∃ P : ByteArray, (⟨(putR o).toArray⟩ : ByteArray) = P := ⟨_, rfl⟩
          have cp2 : ∀ w, SP w w.heap.size (.slice A7 o.ps.length c7) o.ps → Calls Tryz.prog 61 #[rv o (.slice A7 o.ps.length c7)] w fun e w' => e = .returned (.string Pt) ∧ Below w.heap.size w w' := fun w hsp => by rw [← hP]; exact cp w hsp
          clear cp
          have hPd : putR o = Pt.data.toList := by rw [← hP]
          by_cases hs' : Pt = s
          · subst hs'
            have HR := Lib.hid (show q = (o, 0) by rw [HP.out]; unfold okR; rw [hI]; exact if_pos ⟨rfl, hPd⟩)
            clear hI hP hPd HP
            go_wp2_with fail
            refine (ck _ HSP.out).mono ?_
            rintro e w3 ⟨rfl, b3⟩
            have A3 := hB.keep b3
            have B3 := hA.keep b3
            have S3 := Lib.hid ((HSP.out.below b3).more b3.size)
            have B3b := b3
            have hb3 := hb2w.trans (b3.mono hb2w.size)
            have hz3 := hb3.size
            clear q1 q2 q3 q4 q5 q7 zz2 b3 f1 f2 f3 f4 f5 f7 zz1
            obtain ⟨p_0, ⟨p_1, p_2, p_3, p_4, p_5⟩, p_6⟩ := _root_.id A3
            obtain ⟨o_0, ⟨o_1, o_2, o_3, o_4, o_5⟩, o_6⟩ := _root_.id B3
            go_wp2_with fail
            refine (cp2 _ S3.out).mono ?_
            rintro e w4 ⟨rfl, b4⟩
            have A4 := A3.keep b4
            have B4 := B3.keep b4
            have S4 := own_keep (own_keep HO1.out B3b) b4
            have hb4 := hb3.trans (b4.mono hz3)
            have hz4 := hb4.size
            clear p_0 p_1 p_2 p_3 p_4 p_5 p_6
            clear o_0 o_1 o_2 o_3 o_4 o_5 o_6
            obtain ⟨p_0, ⟨p_1, p_2, p_3, p_4, p_5⟩, p_6⟩ := _root_.id A4
            obtain ⟨o_0, ⟨o_1, o_2, o_3, o_4, o_5⟩, o_6⟩ := _root_.id B4
            have HS4 := Lib.hid S4
            clear b4 S4 B3b
            go_wp2_with fail
            refine bodyPost_ret (res_BoxR_tmp Tryz.results54 rfl rfl (BoxR.put A4 o (.slice A7 o.ps.length c7))) rfl ⟨.slice A7 o.ps.length c7, by rw [HR.out] <;> rfl, ?_, (by (repeat' (first | with_reducible assumption | with_reducible exact Below.refl _ _ | with_reducible refine Below.alloc ?_ ?_ _ | with_reducible refine Below.setCell ?_ ?_ _ | with_reducible refine Below.drew ?_ | omega | (simp; done) | (simp; omega)))), ?_⟩
            all_goals
              rw [HR.out]
              have hw0 : w.heap.size < w1.heap.size + 1 := by omega
              have hw1 := own_set (own_set (own_set (own_set (own_set HS4.out (a := ⟨w.heap.size, 0, none⟩) hw0 (.int .i64 o.code)) (a := ⟨w.heap.size, 1, none⟩) hw0 (.int .i64 o.err)) (a := ⟨w.heap.size, 2, none⟩) hw0 (.bool o.has)) (a := ⟨w.heap.size, 3, none⟩) hw0 (.string o.val)) (a := ⟨w.heap.size, 4, none⟩) hw0 (.slice A7 o.ps.length c7)
            · exact SP.of_own hw1
            · exact fun _ => own_base hw1 (by omega)
          · have HR := Lib.hid (show q = (Rep.zero, 70) by rw [HP.out]; exact okR_no (fun hh => hs' (ba_same (hPd.symm.trans hh.2))))
            have q2' : (Pt.toList == s.toList) = false := by rw [beq_eq_false_iff_ne]; exact fun h => hs' ((ba_iff Pt s).1 h)
            have q3' : (Pt.toList = s.toList) = False := eq_false (fun h => hs' ((ba_iff Pt s).1 h))
            clear hI hP hPd HP hs'
            go_wp2_with fail
            refine (ck _ HSP.out).mono ?_
            rintro e w3 ⟨rfl, b3⟩
            have A3 := hB.keep b3
            have B3 := hA.keep b3
            have S3 := Lib.hid ((HSP.out.below b3).more b3.size)
            have hb3 := hb2w.trans (b3.mono hb2w.size)
            have hz3 := hb3.size
            clear q1 q2 q3 q4 q5 q7 zz2 b3 f1 f2 f3 f4 f5 f7 zz1
            obtain ⟨p_0, ⟨p_1, p_2, p_3, p_4, p_5⟩, p_6⟩ := _root_.id A3
            obtain ⟨o_0, ⟨o_1, o_2, o_3, o_4, o_5⟩, o_6⟩ := _root_.id B3
            go_wp2_with fail
            refine (cp2 _ S3.out).mono ?_
            rintro e w4 ⟨rfl, b4⟩
            have A4 := A3.keep b4
            have hb4 := hb3.trans (b4.mono hz3)
            have hz4 := hb4.size
            clear p_0 p_1 p_2 p_3 p_4 p_5 p_6
            clear o_0 o_1 o_2 o_3 o_4 o_5 o_6
            obtain ⟨p_0, ⟨p_1, p_2, p_3, p_4, p_5⟩, p_6⟩ := _root_.id A4
            clear b4
            go_wp2_with fail
            exact bodyPost_ret (res_BoxR_tmp Tryz.results54 rfl rfl (BoxR.put A4 Rep.zero (.slice none 0 0))) rfl ⟨.slice none 0 0, by rw [HR.out] <;> rfl, by rw [HR.out]; exact SP.nil _ _, (by (repeat' (first | with_reducible assumption | with_reducible exact Below.refl _ _ | with_reducible refine Below.alloc ?_ ?_ _ | with_reducible refine Below.setCell ?_ ?_ _ | with_reducible refine Below.drew ?_ | omega | (simp; done) | (simp; omega)))), by rw [HR.out]; exact fun h0 => absurd h0 (by simp)⟩
theorem rparseR_any (s : ByteArray) (w : World) (hs : s.size ≤ 140737488355328) :
    Calls Tryz.prog 54 #[.string s] w fun e w' => GaveR w (parseR s.data.toList) e w' := by
  refine (rparseR_fresh s w hs).mono ?_
  rintro e w' ⟨v, h1, h2, h3, _⟩
  exact ⟨v, h1, h2, h3⟩
end Go.Proofs.YticikmkehobblaaGreatDoor.Od

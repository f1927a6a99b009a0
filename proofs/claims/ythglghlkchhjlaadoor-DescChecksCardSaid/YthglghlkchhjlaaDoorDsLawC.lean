/-
  DescChecks, walked: whether a descriptor may be, who is where, its text, and a text as one, are what the document says. Conditions: lengths at most 2^47; the library's variables hold what their types allow.
-/
import Derived.Test.YthglghlkchhjlaaDoorDsRPar
import Derived.Test.YthglghlkchhjlaaDoorDsSmall
import Derived.Test.YthglghlkchhjlaaDoorDsHeld
namespace Go.Proofs.YthglghlkchhjlaaDoor.Ds
open Go.RowKit Bnd
open Go.Proofs.YthglghlkchhjlaaDoor.M (untieT)

/-- block n of w' is a box with a member -/
def Two (n : Nat) (m : Mem) (w' : World) : Prop := n < w'.heap.size ∧ w'.cell? ⟨n, 0, none⟩ = some (.int .i64 m.1) ∧ w'.cell? ⟨n, 1, none⟩ = some (.int .i64 m.2)
theorem Two.keep {n : Nat} {m : Mem} {w1 w2 : World} (h : Two n m w1) (hb : Below w1.heap.size w1 w2) : Two n m w2 :=
  ⟨Nat.lt_of_lt_of_le h.1 hb.size, (hb.cell (p := ⟨n, 0, none⟩) h.1).trans h.2.1, (hb.cell (p := ⟨n, 1, none⟩) h.1).trans h.2.2⟩
theorem Two.new (w : World) (m : Mem) : Two w.heap.size m (w.alloc (.cells #[.int .i64 m.1, .int .i64 m.2] 30)) := ⟨by simp, by simp, by simp⟩
theorem opt_form (o : Option Mem) : ∃ m k, optV o = .tuple #[mv m, .bool k] := by
  cases o with
  | none => exact ⟨(0, 0), false, rfl⟩
  | some m => exact ⟨m, true, rfl⟩
theorem parse_few (s : Text) : (parseD s).1.ms.length ≤ 1000000000 := by
  have key : ∀ d : De, (okD d).1.ms.length ≤ 1000000000 := by
    intro d
    rcases okD_cases d with ⟨h, e⟩ | e
    · rw [e]
      have := ((isD_iff d).1 h).2.2.2.2.1.2
      show d.ms.length ≤ _
      omega
    · rw [e]; simp [De.zero]
  unfold parseD
  cases untieT s with
  | none => simp [De.zero]
  | some l =>
    simp only
    cases parseL l with
    | none => simp [De.zero]
    | some d => exact key d

set_option maxHeartbeats 16000000 in
set_option maxRecDepth 100000 in
theorem walk_checks (d o : De) (sd so : Value) (n i : Int) (s : ByteArray) (w : World) (hd : ArgM w sd d.ms) (ho : ArgM w so o.ms) (ld : Lim d) (lo : Lim o) (hs : s.size ≤ 140737488355328) (hg : Good w) :
    Calls Tryd.prog 3 #[dv d sd, dv o so, .int .i64 n, .int .i64 i, .string s] w fun e w' => e = .returned (.bool true) ∧ Below w.heap.size w w' := by
  obtain ⟨A, ka, rfl⟩ := hd.form
  obtain ⟨D, kb, rfl⟩ := ho.form
  have kd : ∀ wx, Below w.heap.size w wx → ArgM wx (.slice A d.ms.length ka) d.ms := fun wx h => hd.keep h
  have ko : ∀ wx, Below w.heap.size w wx → ArgM wx (.slice D o.ms.length kb) o.ms := fun wx h => ho.keep h
  have cs := fun w h => small_any d (.slice A d.ms.length ka) w h ld
  have ct := fun w h => small_any o (.slice D o.ms.length kb) w h lo
  obtain ⟨W0, hW0⟩ : ∃ W0, (w.alloc (.cells #[.int .i64 d.id, .string d.f, .string d.t, .int .i64 d.gen, (.slice A d.ms.length ka), .int .i64 d.next] 26)).alloc (.cells #[.int .i64 o.id, .string o.f, .string o.t, .int .i64 o.gen, (.slice D o.ms.length kb), .int .i64 o.next] 26) = W0 := ⟨_, rfl⟩
  have A0 : BoxD w.heap.size d (.slice A d.ms.length ka) W0 := hW0 ▸ (BoxD.new w d (.slice A d.ms.length ka)).alloc _
  have B0 : BoxD (w.heap.size + 1) o (.slice D o.ms.length kb) W0 := by
    have := BoxD.new (w.alloc (.cells #[.int .i64 d.id, .string d.f, .string d.t, .int .i64 d.gen, (.slice A d.ms.length ka), .int .i64 d.next] 26)) o (.slice D o.ms.length kb)
    rw [hW0, World.size_alloc] at this
    exact this
  have hb0 : Below w.heap.size w W0 := by rw [← hW0]; exact ((Below.refl _ w).alloc (Nat.le_refl _) _).alloc (by simp) _
  have hz0 := hb0.size
  clear hd ho
  cases hsa : smallD d with
  | false =>
    rw [hsa] at cs
    clear hsa ct
    obtain ⟨p_0, ⟨p_1, p_2, p_3, p_4, p_5, p_6⟩, p_7⟩ := _root_.id A0
    obtain ⟨q_0, ⟨q_1, q_2, q_3, q_4, q_5, q_6⟩, q_7⟩ := _root_.id B0
    go_enter Tryd.func3, Tryd.ntmps3
    go_wp2_with fail
    refine (cs _ (kd _ hb0)).mono ?_
    rintro e w1 ⟨rfl, b1⟩
    have hb1 := hb0.trans (b1.mono hz0)
    clear hW0 b1
    go_wp2_with fail
    refine (live_any _ (hg.below hb1)).mono ?_
    rintro e w9 ⟨rfl, b9⟩
    go_wp2_with fail
    go_ret
    exact ⟨rfl, (hb1).trans (b9.mono (hb1).size)⟩
  | true =>
    have hsm := small_iff.1 hsa
    have fd : Fit d := ld.fit hsa
    rw [hsa] at cs
    clear hsa
    cases hsb : smallD o with
    | false =>
      rw [hsb] at ct
      clear hsb
      obtain ⟨p_0, ⟨p_1, p_2, p_3, p_4, p_5, p_6⟩, p_7⟩ := _root_.id A0
      obtain ⟨q_0, ⟨q_1, q_2, q_3, q_4, q_5, q_6⟩, q_7⟩ := _root_.id B0
      go_enter Tryd.func3, Tryd.ntmps3
      go_wp2_with fail
      refine (cs _ (kd _ hb0)).mono ?_
      rintro e w1 ⟨rfl, b1⟩
      have B1 := B0.keep b1
      have hb1 := hb0.trans (b1.mono hz0)
      have hz1 := hb1.size
      clear hW0 b1
      clear p_0 p_1 p_2 p_3 p_4 p_5 p_6 p_7
      clear q_0 q_1 q_2 q_3 q_4 q_5 q_6 q_7
      obtain ⟨p_0, ⟨p_1, p_2, p_3, p_4, p_5, p_6⟩, p_7⟩ := _root_.id B1
      go_wp2_with fail
      refine (ct _ (ko _ hb1)).mono ?_
      rintro e w2 ⟨rfl, b2⟩
      have hb2 := hb1.trans (b2.mono hz1)
      clear b2
      go_wp2_with fail
      refine (live_any _ (hg.below hb2)).mono ?_
      rintro e w9 ⟨rfl, b9⟩
      go_wp2_with fail
      go_ret
      exact ⟨rfl, (hb2).trans (b9.mono (hb2).size)⟩
    | true =>
      have hsn := small_iff.1 hsb
      rw [hsb] at ct
      clear hsb
      by_cases hlong : 2000 < s.size
      · have e1 : ((s.size : Int) > 2000) = True := eq_true (by omega)
        clear hlong
        obtain ⟨p_0, ⟨p_1, p_2, p_3, p_4, p_5, p_6⟩, p_7⟩ := _root_.id A0
        obtain ⟨q_0, ⟨q_1, q_2, q_3, q_4, q_5, q_6⟩, q_7⟩ := _root_.id B0
        go_enter Tryd.func3, Tryd.ntmps3
        go_wp2_with fail
        refine (cs _ (kd _ hb0)).mono ?_
        rintro e w1 ⟨rfl, b1⟩
        have A1 := A0.keep b1
        have B1 := B0.keep b1
        have hb1 := hb0.trans (b1.mono hz0)
        have hz1 := hb1.size
        clear hW0 b1
        clear p_0 p_1 p_2 p_3 p_4 p_5 p_6 p_7
        clear q_0 q_1 q_2 q_3 q_4 q_5 q_6 q_7
        obtain ⟨p_0, ⟨p_1, p_2, p_3, p_4, p_5, p_6⟩, p_7⟩ := _root_.id B1
        go_wp2_with fail
        refine (ct _ (ko _ hb1)).mono ?_
        rintro e w2 ⟨rfl, b2⟩
        have A2 := A1.keep b2
        have B2 := B1.keep b2
        have hb2 := hb1.trans (b2.mono hz1)
        have hz2 := hb2.size
        clear b2 A1 B1
        clear p_0 p_1 p_2 p_3 p_4 p_5 p_6 p_7
        clear A2 B2
        go_wp2_with fail
        refine (live_any _ (hg.below hb2)).mono ?_
        rintro e w9 ⟨rfl, b9⟩
        go_wp2_with fail
        go_ret
        exact ⟨rfl, (hb2).trans (b9.mono (hb2).size)⟩
      have e1 : ((s.size : Int) > 2000) = False := eq_false (by omega)
      clear hlong
      have hdn : d.ms.length ≤ 140737488355328 := by omega
      have hon : o.ms.length ≤ 140737488355328 := by omega
      obtain ⟨m1, k1, hm1⟩ := opt_form (onM n d.ms)
      obtain ⟨m2, k2, hm2⟩ := opt_form (hasM i d.ms)
      have c1 := fun w h => on_any d (.slice A d.ms.length ka) n w h hdn
      have c2 := fun w h => ron_any d (.slice A d.ms.length ka) n w h hdn
      have c3 := fun w h => has_any d (.slice A d.ms.length ka) i w h hdn
      have c4 := fun w h => rhas_any d (.slice A d.ms.length ka) i w h hdn
      rw [hm1] at c1 c2
      rw [hm2] at c3 c4
      obtain ⟨x1, y1⟩ := m1
      obtain ⟨x2, y2⟩ := m2
      obtain ⟨⟨x, g⟩, hq⟩ : ∃ q, parseD s.data.toList = q := ⟨_, rfl⟩
      have hxl : x.ms.length ≤ 1000000000 := by have := parse_few s.data.toList; rw [hq] at this; exact this
      have c5 : ∀ w, Good w → Calls Tryd.prog 15 #[.string s] w fun e w' => ∃ A c, e = .returned (.tuple #[dv x (.slice A x.ms.length c), .int .i64 g]) ∧ ArgM w' (.slice A x.ms.length c) x.ms ∧ Below w.heap.size w w' := by
        intro w h
        have := parse_any s w hs h
        rw [hq] at this
        exact this.mono fun e w' hh => gave_form hh
      have c6 : ∀ w, Calls Tryd.prog 16 #[.string s] w fun e w' => ∃ A c, e = .returned (.tuple #[dv x (.slice A x.ms.length c), .int .i64 g]) ∧ ArgM w' (.slice A x.ms.length c) x.ms ∧ Below w.heap.size w w' := by
        intro w
        have := rparse_any s w hs
        rw [hq] at this
        exact this.mono fun e w' hh => gave_form hh
      obtain ⟨I, hI⟩ : ∃ I, isD d = I := ⟨_, rfl⟩
      obtain ⟨K, hK⟩ : ∃ K, chkD d = K := ⟨_, rfl⟩
      have hKI : (I = true ∧ K = 0) ∨ (I = false ∧ K = 60) := by
        rw [← hK, ← hI]
        unfold chkD
        cases isD d <;> simp
      obtain ⟨S, hS0⟩ : ∃ S, sameD d o = S := ⟨_, rfl⟩
      obtain ⟨P, hP⟩ : ∃ P : ByteArray, (⟨(putT d).toArray⟩ : ByteArray) = P := ⟨_, rfl⟩
      have hPd : P.data.toList = putT d := by rw [← hP]
      have hPl := put_length fd hsm.2.1 hsm.2.2 hsm.1
      have hPs : P.size ≤ 140737488355328 := by
        have : P.size = (putT d).length := by rw [← hP]; simp [ByteArray.size]
        omega
      have c9 : I = true → ∀ w, Good w → Calls Tryd.prog 15 #[.string P] w fun e w' => ∃ A c, e = .returned (.tuple #[dv d (.slice A d.ms.length c), .int .i64 0]) ∧ ArgM w' (.slice A d.ms.length c) d.ms ∧ Below w.heap.size w w' := by
        intro hh w h
        have := parse_any P w hPs h
        rw [hPd, parse_put fd.r (by omega) (by omega), okD_is (by rw [hI]; exact hh)] at this
        exact this.mono fun e w' hh => gave_form hh
      have cPut : ∀ w, ArgM w (.slice A d.ms.length ka) d.ms → Calls Tryd.prog 22 #[dv d (.slice A d.ms.length ka)] w fun e w' => e = .returned (.string P) ∧ Below w.heap.size w w' := by
        intro w h
        rw [← hP]
        exact put_any d (.slice A d.ms.length ka) w h.sm fd (by omega) (by omega)
      have cRPut : ∀ w, ArgM w (.slice A d.ms.length ka) d.ms → Calls Tryd.prog 23 #[dv d (.slice A d.ms.length ka)] w fun e w' => e = .returned (.string P) ∧ Below w.heap.size w w' := by
        intro w h
        rw [← hP]
        exact rput_any d (.slice A d.ms.length ka) w h.sm fd (by omega) (by omega)
      have cSelf : ∀ s s' w, ArgM w s x.ms → ArgM w s' x.ms → Calls Tryd.prog 20 #[dv x s, dv x s'] w fun e w' => e = .returned (.bool true) ∧ Below w.heap.size w w' := by
        intro s s' w h h'
        have := rsame_any x x s s' w h.sm h'.sm hxl hxl
        rw [sameD_self] at this
        exact this
      have cSelfD : ∀ s s' w, ArgM w s d.ms → ArgM w s' d.ms → Calls Tryd.prog 20 #[dv d s, dv d s'] w fun e w' => e = .returned (.bool true) ∧ Below w.heap.size w w' := by
        intro s s' w h h'
        have := rsame_any d d s s' w h.sm h'.sm (by omega) (by omega)
        rw [sameD_self] at this
        exact this
      have cSame : ∀ w, ArgM w (.slice A d.ms.length ka) d.ms → ArgM w (.slice D o.ms.length kb) o.ms → Calls Tryd.prog 21 #[dv d (.slice A d.ms.length ka), dv o (.slice D o.ms.length kb)] w fun e w' => e = .returned (.bool S) ∧ Below w.heap.size w w' := by
        intro w h h'
        rw [← hS0]
        exact same_any d o _ _ w h.sm h'.sm (by omega) (by omega)
      have cRSame : ∀ w, ArgM w (.slice A d.ms.length ka) d.ms → ArgM w (.slice D o.ms.length kb) o.ms → Calls Tryd.prog 20 #[dv d (.slice A d.ms.length ka), dv o (.slice D o.ms.length kb)] w fun e w' => e = .returned (.bool S) ∧ Below w.heap.size w w' := by
        intro w h h'
        rw [← hS0]
        exact rsame_any d o _ _ w h.sm h'.sm (by omega) (by omega)
      have cChk : ∀ w, ArgM w (.slice A d.ms.length ka) d.ms → Calls Tryd.prog 18 #[dv d (.slice A d.ms.length ka)] w fun e w' => e = .returned (.int .i64 K) ∧ Below w.heap.size w w' := by
        intro w h
        rw [← hK]
        exact check_any d _ w h.sm hdn (by omega) (by omega)
      have cIs : ∀ w, ArgM w (.slice A d.ms.length ka) d.ms → Calls Tryd.prog 19 #[dv d (.slice A d.ms.length ka)] w fun e w' => e = .returned (.bool I) ∧ Below w.heap.size w w' := by
        intro w h
        rw [← hI]
        exact ris_any d _ w h.sm (by omega) (by omega) hdn
      clear hq hm1 hm2 hI hK hS0 hP hPd hPl hPs hxl fd hsm hsn hdn hon
      obtain ⟨p_0, ⟨p_1, p_2, p_3, p_4, p_5, p_6⟩, p_7⟩ := _root_.id A0
      obtain ⟨q_0, ⟨q_1, q_2, q_3, q_4, q_5, q_6⟩, q_7⟩ := _root_.id B0
      go_enter Tryd.func3, Tryd.ntmps3
      go_wp2_with fail
      refine (cs _ (kd _ hb0)).mono ?_
      rintro e w1 ⟨rfl, b1⟩
      have A1 := A0.keep b1
      have B1 := B0.keep b1
      have hb1 := hb0.trans (b1.mono hz0)
      have hz1 := hb1.size
      clear hW0 b1
      clear p_0 p_1 p_2 p_3 p_4 p_5 p_6 p_7
      clear q_0 q_1 q_2 q_3 q_4 q_5 q_6 q_7
      obtain ⟨p_0, ⟨p_1, p_2, p_3, p_4, p_5, p_6⟩, p_7⟩ := _root_.id B1
      go_wp2_with fail
      refine (ct _ (ko _ hb1)).mono ?_
      rintro e w2 ⟨rfl, b2⟩
      have A2 := A1.keep b2
      have B2 := B1.keep b2
      have hb2 := hb1.trans (b2.mono hz1)
      have hz2 := hb2.size
      clear b2 A1 B1
      clear p_0 p_1 p_2 p_3 p_4 p_5 p_6 p_7
      obtain ⟨p_0, ⟨p_1, p_2, p_3, p_4, p_5, p_6⟩, p_7⟩ := _root_.id A2
      go_wp2_with fail
      refine (c1 _ (kd _ hb2).sm).mono ?_
      rintro e w3 ⟨rfl, b3⟩
      clear p_0 p_1 p_2 p_3 p_4 p_5 p_6 p_7
      obtain ⟨W3, hW3⟩ : ∃ W, w3.alloc (.cells #[.int .i64 x1, .int .i64 y1] 30) = W := ⟨_, rfl⟩
      have r3 : Below w2.heap.size w2 W3 := hW3 ▸ b3.alloc b3.size _
      have A3 := A2.keep r3
      have B3 := B2.keep r3
      have hb3 := hb2.trans (r3.mono hz2)
      have hz3 := hb3.size
      have P3 : Two w3.heap.size (x1, y1) W3 := hW3 ▸ Two.new w3 (x1, y1)
      clear b3 r3 A2 B2

      obtain ⟨p_0, ⟨p_1, p_2, p_3, p_4, p_5, p_6⟩, p_7⟩ := _root_.id A3
      go_wp2_with fail
      try rw [hW3]
      refine (c2 _ (kd _ hb3).sm).mono ?_
      rintro e w4 ⟨rfl, b4⟩
      clear p_0 p_1 p_2 p_3 p_4 p_5 p_6 p_7
      obtain ⟨W4, hW4⟩ : ∃ W, w4.alloc (.cells #[.int .i64 x1, .int .i64 y1] 30) = W := ⟨_, rfl⟩
      have r4 : Below W3.heap.size W3 W4 := hW4 ▸ b4.alloc b4.size _
      have A4 := A3.keep r4
      have B4 := B3.keep r4
      have P4 := P3.keep r4
      have hb4 := hb3.trans (r4.mono hz3)
      have hz4 := hb4.size
      have Q4 : Two w4.heap.size (x1, y1) W4 := hW4 ▸ Two.new w4 (x1, y1)
      clear b4 r4 A3 B3 P3 hW3

      obtain ⟨p_0, ⟨p_1, p_2, p_3, p_4, p_5, p_6⟩, p_7⟩ := _root_.id A4
      go_wp2_with fail
      try rw [hW4]
      refine (c3 _ (kd _ hb4).sm).mono ?_
      rintro e w5 ⟨rfl, b5⟩
      clear p_0 p_1 p_2 p_3 p_4 p_5 p_6 p_7
      obtain ⟨W5, hW5⟩ : ∃ W, w5.alloc (.cells #[.int .i64 x2, .int .i64 y2] 30) = W := ⟨_, rfl⟩
      have r5 : Below W4.heap.size W4 W5 := hW5 ▸ b5.alloc b5.size _
      have A5 := A4.keep r5
      have B5 := B4.keep r5
      have P5 := P4.keep r5
      have Q5 := Q4.keep r5
      have hb5 := hb4.trans (r5.mono hz4)
      have hz5 := hb5.size
      have R5 : Two w5.heap.size (x2, y2) W5 := hW5 ▸ Two.new w5 (x2, y2)
      clear b5 r5 A4 B4 P4 Q4 hW4

      obtain ⟨p_0, ⟨p_1, p_2, p_3, p_4, p_5, p_6⟩, p_7⟩ := _root_.id A5
      go_wp2_with fail
      try rw [hW5]
      refine (c4 _ (kd _ hb5).sm).mono ?_
      rintro e w6 ⟨rfl, b6⟩
      clear p_0 p_1 p_2 p_3 p_4 p_5 p_6 p_7
      obtain ⟨W6, hW6⟩ : ∃ W, w6.alloc (.cells #[.int .i64 x2, .int .i64 y2] 30) = W := ⟨_, rfl⟩
      have r6 : Below W5.heap.size W5 W6 := hW6 ▸ b6.alloc b6.size _
      have A6 := A5.keep r6
      have B6 := B5.keep r6
      have P6 := P5.keep r6
      have Q6 := Q5.keep r6
      have R6 := R5.keep r6
      have hb6 := hb5.trans (r6.mono hz5)
      have hz6 := hb6.size
      have T6 : Two w6.heap.size (x2, y2) W6 := hW6 ▸ Two.new w6 (x2, y2)
      clear b6 r6 A5 B5 P5 Q5 R5 hW5

      obtain ⟨p_0, ⟨p_1, p_2, p_3, p_4, p_5, p_6⟩, p_7⟩ := _root_.id A6
      go_wp2_with fail
      try rw [hW6]
      refine (c5 _ (hg.below hb6)).mono ?_
      rintro e w7 ⟨A7, q7, rfl, a7, b7⟩
      clear p_0 p_1 p_2 p_3 p_4 p_5 p_6 p_7
      obtain ⟨W7, hW7⟩ : ∃ W, w7.alloc (.cells #[.int .i64 x.id, .string x.f, .string x.t, .int .i64 x.gen, .slice A7 x.ms.length q7, .int .i64 x.next] 26) = W := ⟨_, rfl⟩
      have r7 : Below W6.heap.size W6 W7 := hW7 ▸ b7.alloc b7.size _
      have A7' := A6.keep r7
      have B7 := B6.keep r7
      have P7 := P6.keep r7
      have Q7 := Q6.keep r7
      have R7 := R6.keep r7
      have T7 := T6.keep r7
      have hb7 := hb6.trans (r7.mono hz6)
      have hz7 := hb7.size
      have U7 : Held w7.heap.size x (.slice A7 x.ms.length q7) W7 := hW7 ▸ Held.new w7 x _ a7
      clear b7 r7 A6 B6 P6 Q6 R6 T6 hW6
      clear a7
      obtain ⟨p_0, ⟨p_1, p_2, p_3, p_4, p_5, p_6⟩, p_7⟩ := _root_.id A7'
      go_wp2_with fail
      try rw [hW7]
      refine (c6 _).mono ?_
      rintro e w8 ⟨A8, q8, rfl, a8, b8⟩
      clear p_0 p_1 p_2 p_3 p_4 p_5 p_6 p_7
      obtain ⟨W8, hW8⟩ : ∃ W, w8.alloc (.cells #[.int .i64 x.id, .string x.f, .string x.t, .int .i64 x.gen, .slice A8 x.ms.length q8, .int .i64 x.next] 26) = W := ⟨_, rfl⟩
      have r8 : Below W7.heap.size W7 W8 := hW8 ▸ b8.alloc b8.size _
      have A8' := A7'.keep r8
      have B8 := B7.keep r8
      have P8 := P7.keep r8
      have Q8 := Q7.keep r8
      have R8 := R7.keep r8
      have T8 := T7.keep r8
      have U8 := U7.keep r8
      have hb8 := hb7.trans (r8.mono hz7)
      have hz8 := hb8.size
      have V8 : Held w8.heap.size x (.slice A8 x.ms.length q8) W8 := hW8 ▸ Held.new w8 x _ a8
      clear b8 r8 A7' B7 P7 Q7 R7 T7 U7 hW7
      clear a8
      have hg8 := hg.below hb8
      have kd8 : ∀ wx, Below W8.heap.size W8 wx → ArgM wx (.slice A d.ms.length ka) d.ms := fun wx h => kd wx (hb8.trans (h.mono hz8))
      have ko8 : ∀ wx, Below W8.heap.size W8 wx → ArgM wx (.slice D o.ms.length kb) o.ms := fun wx h => ko wx (hb8.trans (h.mono hz8))
      have hbox : ∀ wx, Below W8.heap.size W8 wx → (BoxD w.heap.size d (.slice A d.ms.length ka) wx ∧ BoxD (w.heap.size + 1) o (.slice D o.ms.length kb) wx) ∧ (Two w3.heap.size (x1, y1) wx ∧ Two w4.heap.size (x1, y1) wx) ∧ (Two w5.heap.size (x2, y2) wx ∧ Two w6.heap.size (x2, y2) wx) ∧ Held w7.heap.size x (.slice A7 x.ms.length q7) wx ∧ Held w8.heap.size x (.slice A8 x.ms.length q8) wx := fun wx hx => ⟨⟨A8'.keep hx, B8.keep hx⟩, ⟨P8.keep hx, Q8.keep hx⟩, ⟨R8.keep hx, T8.keep hx⟩, U8.keep hx, V8.keep hx⟩
      have g1 : ∀ wx, Below W8.heap.size W8 wx → Calls Tryd.prog 18 #[dv d (.slice A d.ms.length ka)] wx fun e w' => e = .returned (.int .i64 K) ∧ Below W8.heap.size W8 w' := by
        intro wx hx
        refine (cChk wx (kd8 wx hx)).mono ?_
        rintro e w' ⟨rfl, b⟩
        exact ⟨rfl, hx.trans (b.mono hx.size)⟩
      have g2 : ∀ wx, Below W8.heap.size W8 wx → Calls Tryd.prog 19 #[dv d (.slice A d.ms.length ka)] wx fun e w' => e = .returned (.bool I) ∧ Below W8.heap.size W8 w' := by
        intro wx hx
        refine (cIs wx (kd8 wx hx)).mono ?_
        rintro e w' ⟨rfl, b⟩
        exact ⟨rfl, hx.trans (b.mono hx.size)⟩
      have g3 : ∀ wx, Below W8.heap.size W8 wx → Calls Tryd.prog 20 #[dv x (.slice A7 x.ms.length q7), dv x (.slice A8 x.ms.length q8)] wx fun e w' => e = .returned (.bool true) ∧ Below W8.heap.size W8 w' := by
        intro wx hx
        obtain ⟨_, _, _, h7, h8⟩ := hbox wx hx
        refine (cSelf _ _ wx h7.2 h8.2).mono ?_
        rintro e w' ⟨rfl, b⟩
        exact ⟨rfl, hx.trans (b.mono hx.size)⟩
      have g4 : ∀ wx, Below W8.heap.size W8 wx → Calls Tryd.prog 21 #[dv d (.slice A d.ms.length ka), dv o (.slice D o.ms.length kb)] wx fun e w' => e = .returned (.bool S) ∧ Below W8.heap.size W8 w' := by
        intro wx hx
        refine (cSame wx (kd8 wx hx) (ko8 wx hx)).mono ?_
        rintro e w' ⟨rfl, b⟩
        exact ⟨rfl, hx.trans (b.mono hx.size)⟩
      have g5 : ∀ wx, Below W8.heap.size W8 wx → Calls Tryd.prog 20 #[dv d (.slice A d.ms.length ka), dv o (.slice D o.ms.length kb)] wx fun e w' => e = .returned (.bool S) ∧ Below W8.heap.size W8 w' := by
        intro wx hx
        refine (cRSame wx (kd8 wx hx) (ko8 wx hx)).mono ?_
        rintro e w' ⟨rfl, b⟩
        exact ⟨rfl, hx.trans (b.mono hx.size)⟩
      have gn : ∀ n wx, Below W8.heap.size W8 wx → Calls Tryd.prog 17 #[.int .i64 n] wx fun e w' => e = .returned (.int .i64 n) ∧ Below W8.heap.size W8 w' := by
        intro n wx hx
        refine (num_any n wx).mono ?_
        rintro e w' ⟨rfl, rfl⟩
        exact ⟨rfl, hx⟩
      clear c1 c2 c3 c4 c5 c6 cs ct cSelf cSame cRSame cChk A8' B8 P8 Q8 R8 T8 U8 V8
      rcases hKI with ⟨rfl, rfl⟩ | ⟨rfl, rfl⟩
      · go_wp2_with fail
        try rw [hW8]
        refine St.wp_region_stage (fun _ wx => Below W8.heap.size W8 wx) (by kernel_rfl) (by kernel_rfl) (by kernel_rfl) (Below.refl _ _).drew ?_
        apply St.step_give
        · rfl
        · intro L wx hS hcl hrd
          obtain ⟨⟨⟨_, ⟨d0, d1, d2, d3, d4, d5⟩, _⟩, ⟨_, ⟨f0, f1, f2, f3, f4, f5⟩, _⟩⟩, ⟨⟨_, h0, h1⟩, ⟨_, h2, h3⟩⟩, ⟨⟨_, h4, h5⟩, ⟨_, h6, h7⟩⟩, ⟨⟨_, ⟨j0, j1, j2, j3, j4, j5⟩, _⟩, _⟩, ⟨⟨_, ⟨l0, l1, l2, l3, l4, l5⟩, _⟩, _⟩⟩ := hbox wx hS
          go_simp
          try with_reducible rfl
        · exact fun L wx hS => hS
        simp only [Act.put, List.setIfInBounds_toArray, List.set_cons_zero, List.set_cons_succ]
        apply St.step_into
        · rfl
        · intro wx
          go_simp
          exact ⟨rfl, rfl⟩
        · exact fun L wx hS hcl hrd => g1 wx hS
        simp only [Act.put, List.setIfInBounds_toArray, List.set_cons_zero, List.set_cons_succ]
        apply St.step_into
        · rfl
        · intro wx
          go_simp
          exact ⟨rfl, rfl⟩
        · exact fun L wx hS hcl hrd => gn _ wx hS
        simp only [Act.put, List.setIfInBounds_toArray, List.set_cons_zero, List.set_cons_succ]
        apply St.step_give
        · rfl
        · intro L wx hS hcl hrd
          obtain ⟨⟨⟨_, ⟨d0, d1, d2, d3, d4, d5⟩, _⟩, ⟨_, ⟨f0, f1, f2, f3, f4, f5⟩, _⟩⟩, ⟨⟨_, h0, h1⟩, ⟨_, h2, h3⟩⟩, ⟨⟨_, h4, h5⟩, ⟨_, h6, h7⟩⟩, ⟨⟨_, ⟨j0, j1, j2, j3, j4, j5⟩, _⟩, _⟩, ⟨⟨_, ⟨l0, l1, l2, l3, l4, l5⟩, _⟩, _⟩⟩ := hbox wx hS
          go_simp
          try with_reducible rfl
        · exact fun L wx hS => hS
        simp only [Act.put, List.setIfInBounds_toArray, List.set_cons_zero, List.set_cons_succ]
        apply St.step_give
        · rfl
        · intro L wx hS hcl hrd
          obtain ⟨⟨⟨_, ⟨d0, d1, d2, d3, d4, d5⟩, _⟩, ⟨_, ⟨f0, f1, f2, f3, f4, f5⟩, _⟩⟩, ⟨⟨_, h0, h1⟩, ⟨_, h2, h3⟩⟩, ⟨⟨_, h4, h5⟩, ⟨_, h6, h7⟩⟩, ⟨⟨_, ⟨j0, j1, j2, j3, j4, j5⟩, _⟩, _⟩, ⟨⟨_, ⟨l0, l1, l2, l3, l4, l5⟩, _⟩, _⟩⟩ := hbox wx hS
          go_simp
          try with_reducible rfl
        · exact fun L wx hS => hS
        simp only [Act.put, List.setIfInBounds_toArray, List.set_cons_zero, List.set_cons_succ]
        apply St.step_into
        · rfl
        · intro wx
          go_simp
          exact ⟨rfl, rfl⟩
        · exact fun L wx hS hcl hrd => g2 wx hS
        simp only [Act.put, List.setIfInBounds_toArray, List.set_cons_zero, List.set_cons_succ]
        apply St.step_give
        · rfl
        · intro L wx hS hcl hrd
          obtain ⟨⟨⟨_, ⟨d0, d1, d2, d3, d4, d5⟩, _⟩, ⟨_, ⟨f0, f1, f2, f3, f4, f5⟩, _⟩⟩, ⟨⟨_, h0, h1⟩, ⟨_, h2, h3⟩⟩, ⟨⟨_, h4, h5⟩, ⟨_, h6, h7⟩⟩, ⟨⟨_, ⟨j0, j1, j2, j3, j4, j5⟩, _⟩, _⟩, ⟨⟨_, ⟨l0, l1, l2, l3, l4, l5⟩, _⟩, _⟩⟩ := hbox wx hS
          go_simp
          try with_reducible rfl
        · exact fun L wx hS => hS
        simp only [Act.put, List.setIfInBounds_toArray, List.set_cons_zero, List.set_cons_succ]
        apply St.step_give
        · rfl
        · intro L wx hS hcl hrd
          obtain ⟨⟨⟨_, ⟨d0, d1, d2, d3, d4, d5⟩, _⟩, ⟨_, ⟨f0, f1, f2, f3, f4, f5⟩, _⟩⟩, ⟨⟨_, h0, h1⟩, ⟨_, h2, h3⟩⟩, ⟨⟨_, h4, h5⟩, ⟨_, h6, h7⟩⟩, ⟨⟨_, ⟨j0, j1, j2, j3, j4, j5⟩, _⟩, _⟩, ⟨⟨_, ⟨l0, l1, l2, l3, l4, l5⟩, _⟩, _⟩⟩ := hbox wx hS
          go_simp
          try with_reducible rfl
        · exact fun L wx hS => hS
        simp only [Act.put, List.setIfInBounds_toArray, List.set_cons_zero, List.set_cons_succ]
        apply St.step_give
        · rfl
        · intro L wx hS hcl hrd
          obtain ⟨⟨⟨_, ⟨d0, d1, d2, d3, d4, d5⟩, _⟩, ⟨_, ⟨f0, f1, f2, f3, f4, f5⟩, _⟩⟩, ⟨⟨_, h0, h1⟩, ⟨_, h2, h3⟩⟩, ⟨⟨_, h4, h5⟩, ⟨_, h6, h7⟩⟩, ⟨⟨_, ⟨j0, j1, j2, j3, j4, j5⟩, _⟩, _⟩, ⟨⟨_, ⟨l0, l1, l2, l3, l4, l5⟩, _⟩, _⟩⟩ := hbox wx hS
          go_simp
          try with_reducible rfl
        · exact fun L wx hS => hS
        simp only [Act.put, List.setIfInBounds_toArray, List.set_cons_zero, List.set_cons_succ]
        apply St.step_give
        · rfl
        · intro L wx hS hcl hrd
          obtain ⟨⟨⟨_, ⟨d0, d1, d2, d3, d4, d5⟩, _⟩, ⟨_, ⟨f0, f1, f2, f3, f4, f5⟩, _⟩⟩, ⟨⟨_, h0, h1⟩, ⟨_, h2, h3⟩⟩, ⟨⟨_, h4, h5⟩, ⟨_, h6, h7⟩⟩, ⟨⟨_, ⟨j0, j1, j2, j3, j4, j5⟩, _⟩, _⟩, ⟨⟨_, ⟨l0, l1, l2, l3, l4, l5⟩, _⟩, _⟩⟩ := hbox wx hS
          go_simp
          try with_reducible rfl
        · exact fun L wx hS => hS
        simp only [Act.put, List.setIfInBounds_toArray, List.set_cons_zero, List.set_cons_succ]
        apply St.step_give
        · rfl
        · intro L wx hS hcl hrd
          obtain ⟨⟨⟨_, ⟨d0, d1, d2, d3, d4, d5⟩, _⟩, ⟨_, ⟨f0, f1, f2, f3, f4, f5⟩, _⟩⟩, ⟨⟨_, h0, h1⟩, ⟨_, h2, h3⟩⟩, ⟨⟨_, h4, h5⟩, ⟨_, h6, h7⟩⟩, ⟨⟨_, ⟨j0, j1, j2, j3, j4, j5⟩, _⟩, _⟩, ⟨⟨_, ⟨l0, l1, l2, l3, l4, l5⟩, _⟩, _⟩⟩ := hbox wx hS
          go_simp
          try with_reducible rfl
        · exact fun L wx hS => hS
        simp only [Act.put, List.setIfInBounds_toArray, List.set_cons_zero, List.set_cons_succ]
        apply St.step_give
        · rfl
        · intro L wx hS hcl hrd
          obtain ⟨⟨⟨_, ⟨d0, d1, d2, d3, d4, d5⟩, _⟩, ⟨_, ⟨f0, f1, f2, f3, f4, f5⟩, _⟩⟩, ⟨⟨_, h0, h1⟩, ⟨_, h2, h3⟩⟩, ⟨⟨_, h4, h5⟩, ⟨_, h6, h7⟩⟩, ⟨⟨_, ⟨j0, j1, j2, j3, j4, j5⟩, _⟩, _⟩, ⟨⟨_, ⟨l0, l1, l2, l3, l4, l5⟩, _⟩, _⟩⟩ := hbox wx hS
          go_simp
          try with_reducible rfl
        · exact fun L wx hS => hS
        simp only [Act.put, List.setIfInBounds_toArray, List.set_cons_zero, List.set_cons_succ]
        apply St.step_give
        · rfl
        · intro L wx hS hcl hrd
          obtain ⟨⟨⟨_, ⟨d0, d1, d2, d3, d4, d5⟩, _⟩, ⟨_, ⟨f0, f1, f2, f3, f4, f5⟩, _⟩⟩, ⟨⟨_, h0, h1⟩, ⟨_, h2, h3⟩⟩, ⟨⟨_, h4, h5⟩, ⟨_, h6, h7⟩⟩, ⟨⟨_, ⟨j0, j1, j2, j3, j4, j5⟩, _⟩, _⟩, ⟨⟨_, ⟨l0, l1, l2, l3, l4, l5⟩, _⟩, _⟩⟩ := hbox wx hS
          go_simp
          try with_reducible rfl
        · exact fun L wx hS => hS
        simp only [Act.put, List.setIfInBounds_toArray, List.set_cons_zero, List.set_cons_succ]
        apply St.step_give
        · rfl
        · intro L wx hS hcl hrd
          obtain ⟨⟨⟨_, ⟨d0, d1, d2, d3, d4, d5⟩, _⟩, ⟨_, ⟨f0, f1, f2, f3, f4, f5⟩, _⟩⟩, ⟨⟨_, h0, h1⟩, ⟨_, h2, h3⟩⟩, ⟨⟨_, h4, h5⟩, ⟨_, h6, h7⟩⟩, ⟨⟨_, ⟨j0, j1, j2, j3, j4, j5⟩, _⟩, _⟩, ⟨⟨_, ⟨l0, l1, l2, l3, l4, l5⟩, _⟩, _⟩⟩ := hbox wx hS
          go_simp
          try with_reducible rfl
        · exact fun L wx hS => hS
        simp only [Act.put, List.setIfInBounds_toArray, List.set_cons_zero, List.set_cons_succ]
        apply St.step_give
        · rfl
        · intro L wx hS hcl hrd
          obtain ⟨⟨⟨_, ⟨d0, d1, d2, d3, d4, d5⟩, _⟩, ⟨_, ⟨f0, f1, f2, f3, f4, f5⟩, _⟩⟩, ⟨⟨_, h0, h1⟩, ⟨_, h2, h3⟩⟩, ⟨⟨_, h4, h5⟩, ⟨_, h6, h7⟩⟩, ⟨⟨_, ⟨j0, j1, j2, j3, j4, j5⟩, _⟩, _⟩, ⟨⟨_, ⟨l0, l1, l2, l3, l4, l5⟩, _⟩, _⟩⟩ := hbox wx hS
          go_simp
          try with_reducible rfl
        · exact fun L wx hS => hS
        simp only [Act.put, List.setIfInBounds_toArray, List.set_cons_zero, List.set_cons_succ]
        apply St.step_give
        · rfl
        · intro L wx hS hcl hrd
          obtain ⟨⟨⟨_, ⟨d0, d1, d2, d3, d4, d5⟩, _⟩, ⟨_, ⟨f0, f1, f2, f3, f4, f5⟩, _⟩⟩, ⟨⟨_, h0, h1⟩, ⟨_, h2, h3⟩⟩, ⟨⟨_, h4, h5⟩, ⟨_, h6, h7⟩⟩, ⟨⟨_, ⟨j0, j1, j2, j3, j4, j5⟩, _⟩, _⟩, ⟨⟨_, ⟨l0, l1, l2, l3, l4, l5⟩, _⟩, _⟩⟩ := hbox wx hS
          go_simp
          try with_reducible rfl
        · exact fun L wx hS => hS
        simp only [Act.put, List.setIfInBounds_toArray, List.set_cons_zero, List.set_cons_succ]
        apply St.step_give
        · rfl
        · intro L wx hS hcl hrd
          obtain ⟨⟨⟨_, ⟨d0, d1, d2, d3, d4, d5⟩, _⟩, ⟨_, ⟨f0, f1, f2, f3, f4, f5⟩, _⟩⟩, ⟨⟨_, h0, h1⟩, ⟨_, h2, h3⟩⟩, ⟨⟨_, h4, h5⟩, ⟨_, h6, h7⟩⟩, ⟨⟨_, ⟨j0, j1, j2, j3, j4, j5⟩, _⟩, _⟩, ⟨⟨_, ⟨l0, l1, l2, l3, l4, l5⟩, _⟩, _⟩⟩ := hbox wx hS
          go_simp
          try with_reducible rfl
        · exact fun L wx hS => hS
        simp only [Act.put, List.setIfInBounds_toArray, List.set_cons_zero, List.set_cons_succ]
        apply St.step_give
        · rfl
        · intro L wx hS hcl hrd
          obtain ⟨⟨⟨_, ⟨d0, d1, d2, d3, d4, d5⟩, _⟩, ⟨_, ⟨f0, f1, f2, f3, f4, f5⟩, _⟩⟩, ⟨⟨_, h0, h1⟩, ⟨_, h2, h3⟩⟩, ⟨⟨_, h4, h5⟩, ⟨_, h6, h7⟩⟩, ⟨⟨_, ⟨j0, j1, j2, j3, j4, j5⟩, _⟩, _⟩, ⟨⟨_, ⟨l0, l1, l2, l3, l4, l5⟩, _⟩, _⟩⟩ := hbox wx hS
          go_simp
          try with_reducible rfl
        · exact fun L wx hS => hS
        simp only [Act.put, List.setIfInBounds_toArray, List.set_cons_zero, List.set_cons_succ]
        apply St.step_give
        · rfl
        · intro L wx hS hcl hrd
          obtain ⟨⟨⟨_, ⟨d0, d1, d2, d3, d4, d5⟩, _⟩, ⟨_, ⟨f0, f1, f2, f3, f4, f5⟩, _⟩⟩, ⟨⟨_, h0, h1⟩, ⟨_, h2, h3⟩⟩, ⟨⟨_, h4, h5⟩, ⟨_, h6, h7⟩⟩, ⟨⟨_, ⟨j0, j1, j2, j3, j4, j5⟩, _⟩, _⟩, ⟨⟨_, ⟨l0, l1, l2, l3, l4, l5⟩, _⟩, _⟩⟩ := hbox wx hS
          go_simp
          try with_reducible rfl
        · exact fun L wx hS => hS
        simp only [Act.put, List.setIfInBounds_toArray, List.set_cons_zero, List.set_cons_succ]
        apply St.step_give
        · rfl
        · intro L wx hS hcl hrd
          obtain ⟨⟨⟨_, ⟨d0, d1, d2, d3, d4, d5⟩, _⟩, ⟨_, ⟨f0, f1, f2, f3, f4, f5⟩, _⟩⟩, ⟨⟨_, h0, h1⟩, ⟨_, h2, h3⟩⟩, ⟨⟨_, h4, h5⟩, ⟨_, h6, h7⟩⟩, ⟨⟨_, ⟨j0, j1, j2, j3, j4, j5⟩, _⟩, _⟩, ⟨⟨_, ⟨l0, l1, l2, l3, l4, l5⟩, _⟩, _⟩⟩ := hbox wx hS
          go_simp
          try with_reducible rfl
        · exact fun L wx hS => hS
        simp only [Act.put, List.setIfInBounds_toArray, List.set_cons_zero, List.set_cons_succ]
        apply St.step_give
        · rfl
        · intro L wx hS hcl hrd
          obtain ⟨⟨⟨_, ⟨d0, d1, d2, d3, d4, d5⟩, _⟩, ⟨_, ⟨f0, f1, f2, f3, f4, f5⟩, _⟩⟩, ⟨⟨_, h0, h1⟩, ⟨_, h2, h3⟩⟩, ⟨⟨_, h4, h5⟩, ⟨_, h6, h7⟩⟩, ⟨⟨_, ⟨j0, j1, j2, j3, j4, j5⟩, _⟩, _⟩, ⟨⟨_, ⟨l0, l1, l2, l3, l4, l5⟩, _⟩, _⟩⟩ := hbox wx hS
          go_simp
          try with_reducible rfl
        · exact fun L wx hS => hS
        simp only [Act.put, List.setIfInBounds_toArray, List.set_cons_zero, List.set_cons_succ]
        apply St.step_give
        · rfl
        · intro L wx hS hcl hrd
          obtain ⟨⟨⟨_, ⟨d0, d1, d2, d3, d4, d5⟩, _⟩, ⟨_, ⟨f0, f1, f2, f3, f4, f5⟩, _⟩⟩, ⟨⟨_, h0, h1⟩, ⟨_, h2, h3⟩⟩, ⟨⟨_, h4, h5⟩, ⟨_, h6, h7⟩⟩, ⟨⟨_, ⟨j0, j1, j2, j3, j4, j5⟩, _⟩, _⟩, ⟨⟨_, ⟨l0, l1, l2, l3, l4, l5⟩, _⟩, _⟩⟩ := hbox wx hS
          go_simp
          try with_reducible rfl
        · exact fun L wx hS => hS
        simp only [Act.put, List.setIfInBounds_toArray, List.set_cons_zero, List.set_cons_succ]
        apply St.step_give
        · rfl
        · intro L wx hS hcl hrd
          obtain ⟨⟨⟨_, ⟨d0, d1, d2, d3, d4, d5⟩, _⟩, ⟨_, ⟨f0, f1, f2, f3, f4, f5⟩, _⟩⟩, ⟨⟨_, h0, h1⟩, ⟨_, h2, h3⟩⟩, ⟨⟨_, h4, h5⟩, ⟨_, h6, h7⟩⟩, ⟨⟨_, ⟨j0, j1, j2, j3, j4, j5⟩, _⟩, _⟩, ⟨⟨_, ⟨l0, l1, l2, l3, l4, l5⟩, _⟩, _⟩⟩ := hbox wx hS
          go_simp
          try with_reducible rfl
        · exact fun L wx hS => hS
        simp only [Act.put, List.setIfInBounds_toArray, List.set_cons_zero, List.set_cons_succ]
        apply St.step_give
        · rfl
        · intro L wx hS hcl hrd
          obtain ⟨⟨⟨_, ⟨d0, d1, d2, d3, d4, d5⟩, _⟩, ⟨_, ⟨f0, f1, f2, f3, f4, f5⟩, _⟩⟩, ⟨⟨_, h0, h1⟩, ⟨_, h2, h3⟩⟩, ⟨⟨_, h4, h5⟩, ⟨_, h6, h7⟩⟩, ⟨⟨_, ⟨j0, j1, j2, j3, j4, j5⟩, _⟩, _⟩, ⟨⟨_, ⟨l0, l1, l2, l3, l4, l5⟩, _⟩, _⟩⟩ := hbox wx hS
          go_simp
          try with_reducible rfl
        · exact fun L wx hS => hS
        simp only [Act.put, List.setIfInBounds_toArray, List.set_cons_zero, List.set_cons_succ]
        apply St.step_give
        · rfl
        · intro L wx hS hcl hrd
          obtain ⟨⟨⟨_, ⟨d0, d1, d2, d3, d4, d5⟩, _⟩, ⟨_, ⟨f0, f1, f2, f3, f4, f5⟩, _⟩⟩, ⟨⟨_, h0, h1⟩, ⟨_, h2, h3⟩⟩, ⟨⟨_, h4, h5⟩, ⟨_, h6, h7⟩⟩, ⟨⟨_, ⟨j0, j1, j2, j3, j4, j5⟩, _⟩, _⟩, ⟨⟨_, ⟨l0, l1, l2, l3, l4, l5⟩, _⟩, _⟩⟩ := hbox wx hS
          go_simp
          try with_reducible rfl
        · exact fun L wx hS => hS
        simp only [Act.put, List.setIfInBounds_toArray, List.set_cons_zero, List.set_cons_succ]
        apply St.step_give
        · rfl
        · intro L wx hS hcl hrd
          obtain ⟨⟨⟨_, ⟨d0, d1, d2, d3, d4, d5⟩, _⟩, ⟨_, ⟨f0, f1, f2, f3, f4, f5⟩, _⟩⟩, ⟨⟨_, h0, h1⟩, ⟨_, h2, h3⟩⟩, ⟨⟨_, h4, h5⟩, ⟨_, h6, h7⟩⟩, ⟨⟨_, ⟨j0, j1, j2, j3, j4, j5⟩, _⟩, _⟩, ⟨⟨_, ⟨l0, l1, l2, l3, l4, l5⟩, _⟩, _⟩⟩ := hbox wx hS
          go_simp
          try with_reducible rfl
        · exact fun L wx hS => hS
        simp only [Act.put, List.setIfInBounds_toArray, List.set_cons_zero, List.set_cons_succ]
        apply St.step_give
        · rfl
        · intro L wx hS hcl hrd
          obtain ⟨⟨⟨_, ⟨d0, d1, d2, d3, d4, d5⟩, _⟩, ⟨_, ⟨f0, f1, f2, f3, f4, f5⟩, _⟩⟩, ⟨⟨_, h0, h1⟩, ⟨_, h2, h3⟩⟩, ⟨⟨_, h4, h5⟩, ⟨_, h6, h7⟩⟩, ⟨⟨_, ⟨j0, j1, j2, j3, j4, j5⟩, _⟩, _⟩, ⟨⟨_, ⟨l0, l1, l2, l3, l4, l5⟩, _⟩, _⟩⟩ := hbox wx hS
          go_simp
          try with_reducible rfl
        · exact fun L wx hS => hS
        simp only [Act.put, List.setIfInBounds_toArray, List.set_cons_zero, List.set_cons_succ]
        apply St.step_give
        · rfl
        · intro L wx hS hcl hrd
          obtain ⟨⟨⟨_, ⟨d0, d1, d2, d3, d4, d5⟩, _⟩, ⟨_, ⟨f0, f1, f2, f3, f4, f5⟩, _⟩⟩, ⟨⟨_, h0, h1⟩, ⟨_, h2, h3⟩⟩, ⟨⟨_, h4, h5⟩, ⟨_, h6, h7⟩⟩, ⟨⟨_, ⟨j0, j1, j2, j3, j4, j5⟩, _⟩, _⟩, ⟨⟨_, ⟨l0, l1, l2, l3, l4, l5⟩, _⟩, _⟩⟩ := hbox wx hS
          go_simp
          try with_reducible rfl
        · exact fun L wx hS => hS
        simp only [Act.put, List.setIfInBounds_toArray, List.set_cons_zero, List.set_cons_succ]
        apply St.step_give
        · rfl
        · intro L wx hS hcl hrd
          obtain ⟨⟨⟨_, ⟨d0, d1, d2, d3, d4, d5⟩, _⟩, ⟨_, ⟨f0, f1, f2, f3, f4, f5⟩, _⟩⟩, ⟨⟨_, h0, h1⟩, ⟨_, h2, h3⟩⟩, ⟨⟨_, h4, h5⟩, ⟨_, h6, h7⟩⟩, ⟨⟨_, ⟨j0, j1, j2, j3, j4, j5⟩, _⟩, _⟩, ⟨⟨_, ⟨l0, l1, l2, l3, l4, l5⟩, _⟩, _⟩⟩ := hbox wx hS
          go_simp
          try with_reducible rfl
        · exact fun L wx hS => hS
        simp only [Act.put, List.setIfInBounds_toArray, List.set_cons_zero, List.set_cons_succ]
        apply St.step_give
        · rfl
        · intro L wx hS hcl hrd
          obtain ⟨⟨⟨_, ⟨d0, d1, d2, d3, d4, d5⟩, _⟩, ⟨_, ⟨f0, f1, f2, f3, f4, f5⟩, _⟩⟩, ⟨⟨_, h0, h1⟩, ⟨_, h2, h3⟩⟩, ⟨⟨_, h4, h5⟩, ⟨_, h6, h7⟩⟩, ⟨⟨_, ⟨j0, j1, j2, j3, j4, j5⟩, _⟩, _⟩, ⟨⟨_, ⟨l0, l1, l2, l3, l4, l5⟩, _⟩, _⟩⟩ := hbox wx hS
          go_simp
          try with_reducible rfl
        · exact fun L wx hS => hS
        simp only [Act.put, List.setIfInBounds_toArray, List.set_cons_zero, List.set_cons_succ]
        apply St.step_into
        · rfl
        · intro wx
          go_simp
          exact ⟨rfl, rfl⟩
        · exact fun L wx hS hcl hrd => g3 wx hS
        simp only [Act.put, List.setIfInBounds_toArray, List.set_cons_zero, List.set_cons_succ]
        apply St.step_give
        · rfl
        · intro L wx hS hcl hrd
          obtain ⟨⟨⟨_, ⟨d0, d1, d2, d3, d4, d5⟩, _⟩, ⟨_, ⟨f0, f1, f2, f3, f4, f5⟩, _⟩⟩, ⟨⟨_, h0, h1⟩, ⟨_, h2, h3⟩⟩, ⟨⟨_, h4, h5⟩, ⟨_, h6, h7⟩⟩, ⟨⟨_, ⟨j0, j1, j2, j3, j4, j5⟩, _⟩, _⟩, ⟨⟨_, ⟨l0, l1, l2, l3, l4, l5⟩, _⟩, _⟩⟩ := hbox wx hS
          go_simp
          try with_reducible rfl
        · exact fun L wx hS => hS
        simp only [Act.put, List.setIfInBounds_toArray, List.set_cons_zero, List.set_cons_succ]
        apply St.step_give
        · rfl
        · intro L wx hS hcl hrd
          obtain ⟨⟨⟨_, ⟨d0, d1, d2, d3, d4, d5⟩, _⟩, ⟨_, ⟨f0, f1, f2, f3, f4, f5⟩, _⟩⟩, ⟨⟨_, h0, h1⟩, ⟨_, h2, h3⟩⟩, ⟨⟨_, h4, h5⟩, ⟨_, h6, h7⟩⟩, ⟨⟨_, ⟨j0, j1, j2, j3, j4, j5⟩, _⟩, _⟩, ⟨⟨_, ⟨l0, l1, l2, l3, l4, l5⟩, _⟩, _⟩⟩ := hbox wx hS
          go_simp
          try with_reducible rfl
        · exact fun L wx hS => hS
        simp only [Act.put, List.setIfInBounds_toArray, List.set_cons_zero, List.set_cons_succ]
        apply St.step_give
        · rfl
        · intro L wx hS hcl hrd
          obtain ⟨⟨⟨_, ⟨d0, d1, d2, d3, d4, d5⟩, _⟩, ⟨_, ⟨f0, f1, f2, f3, f4, f5⟩, _⟩⟩, ⟨⟨_, h0, h1⟩, ⟨_, h2, h3⟩⟩, ⟨⟨_, h4, h5⟩, ⟨_, h6, h7⟩⟩, ⟨⟨_, ⟨j0, j1, j2, j3, j4, j5⟩, _⟩, _⟩, ⟨⟨_, ⟨l0, l1, l2, l3, l4, l5⟩, _⟩, _⟩⟩ := hbox wx hS
          go_simp
          try with_reducible rfl
        · exact fun L wx hS => hS
        simp only [Act.put, List.setIfInBounds_toArray, List.set_cons_zero, List.set_cons_succ]
        apply St.step_give
        · rfl
        · intro L wx hS hcl hrd
          obtain ⟨⟨⟨_, ⟨d0, d1, d2, d3, d4, d5⟩, _⟩, ⟨_, ⟨f0, f1, f2, f3, f4, f5⟩, _⟩⟩, ⟨⟨_, h0, h1⟩, ⟨_, h2, h3⟩⟩, ⟨⟨_, h4, h5⟩, ⟨_, h6, h7⟩⟩, ⟨⟨_, ⟨j0, j1, j2, j3, j4, j5⟩, _⟩, _⟩, ⟨⟨_, ⟨l0, l1, l2, l3, l4, l5⟩, _⟩, _⟩⟩ := hbox wx hS
          go_simp
          try with_reducible rfl
        · exact fun L wx hS => hS
        simp only [Act.put, List.setIfInBounds_toArray, List.set_cons_zero, List.set_cons_succ]
        apply St.step_into
        · rfl
        · intro wx
          go_simp
          exact ⟨rfl, rfl⟩
        · exact fun L wx hS hcl hrd => gn _ wx hS
        simp only [Act.put, List.setIfInBounds_toArray, List.set_cons_zero, List.set_cons_succ]
        apply St.step_give
        · rfl
        · intro L wx hS hcl hrd
          obtain ⟨⟨⟨_, ⟨d0, d1, d2, d3, d4, d5⟩, _⟩, ⟨_, ⟨f0, f1, f2, f3, f4, f5⟩, _⟩⟩, ⟨⟨_, h0, h1⟩, ⟨_, h2, h3⟩⟩, ⟨⟨_, h4, h5⟩, ⟨_, h6, h7⟩⟩, ⟨⟨_, ⟨j0, j1, j2, j3, j4, j5⟩, _⟩, _⟩, ⟨⟨_, ⟨l0, l1, l2, l3, l4, l5⟩, _⟩, _⟩⟩ := hbox wx hS
          go_simp
          try with_reducible rfl
        · exact fun L wx hS => hS
        simp only [Act.put, List.setIfInBounds_toArray, List.set_cons_zero, List.set_cons_succ]
        apply St.step_give
        · rfl
        · intro L wx hS hcl hrd
          obtain ⟨⟨⟨_, ⟨d0, d1, d2, d3, d4, d5⟩, _⟩, ⟨_, ⟨f0, f1, f2, f3, f4, f5⟩, _⟩⟩, ⟨⟨_, h0, h1⟩, ⟨_, h2, h3⟩⟩, ⟨⟨_, h4, h5⟩, ⟨_, h6, h7⟩⟩, ⟨⟨_, ⟨j0, j1, j2, j3, j4, j5⟩, _⟩, _⟩, ⟨⟨_, ⟨l0, l1, l2, l3, l4, l5⟩, _⟩, _⟩⟩ := hbox wx hS
          go_simp
          try with_reducible rfl
        · exact fun L wx hS => hS
        simp only [Act.put, List.setIfInBounds_toArray, List.set_cons_zero, List.set_cons_succ]
        apply St.step_give
        · rfl
        · intro L wx hS hcl hrd
          obtain ⟨⟨⟨_, ⟨d0, d1, d2, d3, d4, d5⟩, _⟩, ⟨_, ⟨f0, f1, f2, f3, f4, f5⟩, _⟩⟩, ⟨⟨_, h0, h1⟩, ⟨_, h2, h3⟩⟩, ⟨⟨_, h4, h5⟩, ⟨_, h6, h7⟩⟩, ⟨⟨_, ⟨j0, j1, j2, j3, j4, j5⟩, _⟩, _⟩, ⟨⟨_, ⟨l0, l1, l2, l3, l4, l5⟩, _⟩, _⟩⟩ := hbox wx hS
          go_simp
          try with_reducible rfl
        · exact fun L wx hS => hS
        simp only [Act.put, List.setIfInBounds_toArray, List.set_cons_zero, List.set_cons_succ]
        apply St.step_give
        · rfl
        · intro L wx hS hcl hrd
          obtain ⟨⟨⟨_, ⟨d0, d1, d2, d3, d4, d5⟩, _⟩, ⟨_, ⟨f0, f1, f2, f3, f4, f5⟩, _⟩⟩, ⟨⟨_, h0, h1⟩, ⟨_, h2, h3⟩⟩, ⟨⟨_, h4, h5⟩, ⟨_, h6, h7⟩⟩, ⟨⟨_, ⟨j0, j1, j2, j3, j4, j5⟩, _⟩, _⟩, ⟨⟨_, ⟨l0, l1, l2, l3, l4, l5⟩, _⟩, _⟩⟩ := hbox wx hS
          go_simp
          try with_reducible rfl
        · exact fun L wx hS => hS
        simp only [Act.put, List.setIfInBounds_toArray, List.set_cons_zero, List.set_cons_succ]
        apply St.step_give
        · rfl
        · intro L wx hS hcl hrd
          obtain ⟨⟨⟨_, ⟨d0, d1, d2, d3, d4, d5⟩, _⟩, ⟨_, ⟨f0, f1, f2, f3, f4, f5⟩, _⟩⟩, ⟨⟨_, h0, h1⟩, ⟨_, h2, h3⟩⟩, ⟨⟨_, h4, h5⟩, ⟨_, h6, h7⟩⟩, ⟨⟨_, ⟨j0, j1, j2, j3, j4, j5⟩, _⟩, _⟩, ⟨⟨_, ⟨l0, l1, l2, l3, l4, l5⟩, _⟩, _⟩⟩ := hbox wx hS
          go_simp
          try with_reducible rfl
        · exact fun L wx hS => hS
        simp only [Act.put, List.setIfInBounds_toArray, List.set_cons_zero, List.set_cons_succ]
        apply St.step_give
        · rfl
        · intro L wx hS hcl hrd
          obtain ⟨⟨⟨_, ⟨d0, d1, d2, d3, d4, d5⟩, _⟩, ⟨_, ⟨f0, f1, f2, f3, f4, f5⟩, _⟩⟩, ⟨⟨_, h0, h1⟩, ⟨_, h2, h3⟩⟩, ⟨⟨_, h4, h5⟩, ⟨_, h6, h7⟩⟩, ⟨⟨_, ⟨j0, j1, j2, j3, j4, j5⟩, _⟩, _⟩, ⟨⟨_, ⟨l0, l1, l2, l3, l4, l5⟩, _⟩, _⟩⟩ := hbox wx hS
          go_simp
          try with_reducible rfl
        · exact fun L wx hS => hS
        simp only [Act.put, List.setIfInBounds_toArray, List.set_cons_zero, List.set_cons_succ]
        apply St.step_into
        · rfl
        · intro wx
          go_simp
          exact ⟨rfl, rfl⟩
        · exact fun L wx hS hcl hrd => g4 wx hS
        simp only [Act.put, List.setIfInBounds_toArray, List.set_cons_zero, List.set_cons_succ]
        apply St.step_give
        · rfl
        · intro L wx hS hcl hrd
          obtain ⟨⟨⟨_, ⟨d0, d1, d2, d3, d4, d5⟩, _⟩, ⟨_, ⟨f0, f1, f2, f3, f4, f5⟩, _⟩⟩, ⟨⟨_, h0, h1⟩, ⟨_, h2, h3⟩⟩, ⟨⟨_, h4, h5⟩, ⟨_, h6, h7⟩⟩, ⟨⟨_, ⟨j0, j1, j2, j3, j4, j5⟩, _⟩, _⟩, ⟨⟨_, ⟨l0, l1, l2, l3, l4, l5⟩, _⟩, _⟩⟩ := hbox wx hS
          go_simp
          try with_reducible rfl
        · exact fun L wx hS => hS
        simp only [Act.put, List.setIfInBounds_toArray, List.set_cons_zero, List.set_cons_succ]
        apply St.step_give
        · rfl
        · intro L wx hS hcl hrd
          obtain ⟨⟨⟨_, ⟨d0, d1, d2, d3, d4, d5⟩, _⟩, ⟨_, ⟨f0, f1, f2, f3, f4, f5⟩, _⟩⟩, ⟨⟨_, h0, h1⟩, ⟨_, h2, h3⟩⟩, ⟨⟨_, h4, h5⟩, ⟨_, h6, h7⟩⟩, ⟨⟨_, ⟨j0, j1, j2, j3, j4, j5⟩, _⟩, _⟩, ⟨⟨_, ⟨l0, l1, l2, l3, l4, l5⟩, _⟩, _⟩⟩ := hbox wx hS
          go_simp
          try with_reducible rfl
        · exact fun L wx hS => hS
        simp only [Act.put, List.setIfInBounds_toArray, List.set_cons_zero, List.set_cons_succ]
        apply St.step_into
        · rfl
        · intro wx
          go_simp
          exact ⟨rfl, rfl⟩
        · exact fun L wx hS hcl hrd => g5 wx hS
        simp only [Act.put, List.setIfInBounds_toArray, List.set_cons_zero, List.set_cons_succ]
        apply St.step_give
        · rfl
        · intro L wx hS hcl hrd
          obtain ⟨⟨⟨_, ⟨d0, d1, d2, d3, d4, d5⟩, _⟩, ⟨_, ⟨f0, f1, f2, f3, f4, f5⟩, _⟩⟩, ⟨⟨_, h0, h1⟩, ⟨_, h2, h3⟩⟩, ⟨⟨_, h4, h5⟩, ⟨_, h6, h7⟩⟩, ⟨⟨_, ⟨j0, j1, j2, j3, j4, j5⟩, _⟩, _⟩, ⟨⟨_, ⟨l0, l1, l2, l3, l4, l5⟩, _⟩, _⟩⟩ := hbox wx hS
          go_simp
          try with_reducible rfl
        · exact fun L wx hS => hS
        simp only [Act.put, List.setIfInBounds_toArray, List.set_cons_zero, List.set_cons_succ]
        apply St.step_give
        · rfl
        · intro L wx hS hcl hrd
          obtain ⟨⟨⟨_, ⟨d0, d1, d2, d3, d4, d5⟩, _⟩, ⟨_, ⟨f0, f1, f2, f3, f4, f5⟩, _⟩⟩, ⟨⟨_, h0, h1⟩, ⟨_, h2, h3⟩⟩, ⟨⟨_, h4, h5⟩, ⟨_, h6, h7⟩⟩, ⟨⟨_, ⟨j0, j1, j2, j3, j4, j5⟩, _⟩, _⟩, ⟨⟨_, ⟨l0, l1, l2, l3, l4, l5⟩, _⟩, _⟩⟩ := hbox wx hS
          go_simp
          try with_reducible rfl
        · exact fun L wx hS => hS
        simp only [Act.put, List.setIfInBounds_toArray, List.set_cons_zero, List.set_cons_succ]
        refine St.step_last ?_
        intro L wx hS _
        have hb10 := hb8.trans (hS.mono hz8)
        have hz10 := hb10.size
        obtain ⟨⟨A10, _⟩, _⟩ := hbox wx hS
        clear g1 g2 g3 g4 g5 gn hbox
        obtain ⟨p_0, ⟨p_1, p_2, p_3, p_4, p_5, p_6⟩, p_7⟩ := _root_.id A10
        go_wp2_with fail
        refine (cIs _ (kd _ hb10)).mono ?_
        rintro e w11 ⟨rfl, b11⟩
        have A11 := A10.keep b11
        have hb11 := hb10.trans (b11.mono hz10)
        have hz11 := hb11.size
        clear p_0 p_1 p_2 p_3 p_4 p_5 p_6 p_7
        obtain ⟨p_0, ⟨p_1, p_2, p_3, p_4, p_5, p_6⟩, p_7⟩ := _root_.id A11
        clear b11
        go_wp2_with fail
        refine (cPut _ (kd _ hb11)).mono ?_
        rintro e w12 ⟨rfl, b12⟩
        have A12 := A11.keep b12
        have hb12 := hb11.trans (b12.mono hz11)
        have hz12 := hb12.size
        clear p_0 p_1 p_2 p_3 p_4 p_5 p_6 p_7
        clear b12
        have c9' := c9 trivial
        go_wp2_with fail
        refine (c9' _ (hg.below hb12)).mono ?_
        rintro e w13 ⟨A13, q13, rfl, a13, b13⟩
        obtain ⟨W13, hW13⟩ : ∃ W, w13.alloc (.cells #[.int .i64 d.id, .string d.f, .string d.t, .int .i64 d.gen, .slice A13 d.ms.length q13, .int .i64 d.next] 26) = W := ⟨_, rfl⟩
        have r13 : Below w12.heap.size w12 W13 := hW13 ▸ b13.alloc b13.size _
        have A14 := A12.keep r13
        have Z14 : Held w13.heap.size d (.slice A13 d.ms.length q13) W13 := hW13 ▸ Held.new w13 d _ a13
        have hb13 := hb12.trans (r13.mono hz12)
        have hz13 := hb13.size
        have hg13 := hg.below hb13
        have kd13 : ∀ wx, Below W13.heap.size W13 wx → ArgM wx (.slice A d.ms.length ka) d.ms := fun wx h => kd wx (hb13.trans (h.mono hz13))
        have hbox2 : ∀ wx, Below W13.heap.size W13 wx → BoxD w.heap.size d (.slice A d.ms.length ka) wx ∧ Held w13.heap.size d (.slice A13 d.ms.length q13) wx := fun wx hx => ⟨A14.keep hx, Z14.keep hx⟩
        have g1 : ∀ wx, Below W13.heap.size W13 wx → Calls Tryd.prog 22 #[dv d (.slice A d.ms.length ka)] wx fun e w' => e = .returned (.string P) ∧ Below W13.heap.size W13 w' := by
          intro wx hx
          refine (cPut wx (kd13 wx hx)).mono ?_
          rintro e w' ⟨rfl, b⟩
          exact ⟨rfl, hx.trans (b.mono hx.size)⟩
        have g2 : ∀ wx, Below W13.heap.size W13 wx → Calls Tryd.prog 23 #[dv d (.slice A d.ms.length ka)] wx fun e w' => e = .returned (.string P) ∧ Below W13.heap.size W13 w' := by
          intro wx hx
          refine (cRPut wx (kd13 wx hx)).mono ?_
          rintro e w' ⟨rfl, b⟩
          exact ⟨rfl, hx.trans (b.mono hx.size)⟩
        have g3 : ∀ wx, Below W13.heap.size W13 wx → Calls Tryd.prog 20 #[dv d (.slice A13 d.ms.length q13), dv d (.slice A d.ms.length ka)] wx fun e w' => e = .returned (.bool true) ∧ Below W13.heap.size W13 w' := by
          intro wx hx
          refine (cSelfD _ _ wx (hbox2 wx hx).2.2 (kd13 wx hx)).mono ?_
          rintro e w' ⟨rfl, b⟩
          exact ⟨rfl, hx.trans (b.mono hx.size)⟩
        have gn : ∀ n wx, Below W13.heap.size W13 wx → Calls Tryd.prog 17 #[.int .i64 n] wx fun e w' => e = .returned (.int .i64 n) ∧ Below W13.heap.size W13 w' := by
          intro n wx hx
          refine (num_any n wx).mono ?_
          rintro e w' ⟨rfl, rfl⟩
          exact ⟨rfl, hx⟩
        have gl : ∀ wx, Below W13.heap.size W13 wx → Calls Tryd.prog 10 #[] wx fun e w' => e = .returned (.bool true) ∧ Below W13.heap.size W13 w' := by
          intro wx hx
          refine (live_any wx (hg13.below hx)).mono ?_
          rintro e w' ⟨rfl, b⟩
          exact ⟨rfl, hx.trans (b.mono hx.size)⟩
        clear c9 c9' cPut cRPut cSelfD cIs hbox2 b13 r13 a13 A12 kd ko
        obtain ⟨A14', Z14'⟩ : BoxD w.heap.size d (.slice A d.ms.length ka) W13 ∧ Held w13.heap.size d (.slice A13 d.ms.length q13) W13 := ⟨A14, Z14⟩
        have hbox2 : ∀ wx, Below W13.heap.size W13 wx → BoxD w.heap.size d (.slice A d.ms.length ka) wx ∧ Held w13.heap.size d (.slice A13 d.ms.length q13) wx := fun wx hx => ⟨A14'.keep hx, Z14'.keep hx⟩
        clear A14 Z14 A14' Z14'
        go_wp2_with fail
        try rw [hW13]
        refine St.wp_region_stage (fun _ wx => Below W13.heap.size W13 wx) (by kernel_rfl) (by kernel_rfl) (by kernel_rfl) (Below.refl _ _).drew ?_
        apply St.step_give
        · rfl
        · intro L wx hS hcl hrd
          obtain ⟨⟨_, ⟨d0, d1, d2, d3, d4, d5⟩, _⟩, ⟨⟨_, ⟨f0, f1, f2, f3, f4, f5⟩, _⟩, _⟩⟩ := hbox2 wx hS
          go_simp
          try with_reducible rfl
        · exact fun L wx hS => hS
        simp only [Act.put, List.setIfInBounds_toArray, List.set_cons_zero, List.set_cons_succ]
        apply St.step_into
        · rfl
        · intro wx
          go_simp
          exact ⟨rfl, rfl⟩
        · exact fun L wx hS hcl hrd => g1 wx hS
        simp only [Act.put, List.setIfInBounds_toArray, List.set_cons_zero, List.set_cons_succ]
        apply St.step_give
        · rfl
        · intro L wx hS hcl hrd
          obtain ⟨⟨_, ⟨d0, d1, d2, d3, d4, d5⟩, _⟩, ⟨⟨_, ⟨f0, f1, f2, f3, f4, f5⟩, _⟩, _⟩⟩ := hbox2 wx hS
          go_simp
          try with_reducible rfl
        · exact fun L wx hS => hS
        simp only [Act.put, List.setIfInBounds_toArray, List.set_cons_zero, List.set_cons_succ]
        apply St.step_into
        · rfl
        · intro wx
          go_simp
          exact ⟨rfl, rfl⟩
        · exact fun L wx hS hcl hrd => g2 wx hS
        simp only [Act.put, List.setIfInBounds_toArray, List.set_cons_zero, List.set_cons_succ]
        apply St.step_give
        · rfl
        · intro L wx hS hcl hrd
          obtain ⟨⟨_, ⟨d0, d1, d2, d3, d4, d5⟩, _⟩, ⟨⟨_, ⟨f0, f1, f2, f3, f4, f5⟩, _⟩, _⟩⟩ := hbox2 wx hS
          go_simp
          try with_reducible rfl
        · exact fun L wx hS => hS
        simp only [Act.put, List.setIfInBounds_toArray, List.set_cons_zero, List.set_cons_succ]
        apply St.step_give
        · rfl
        · intro L wx hS hcl hrd
          obtain ⟨⟨_, ⟨d0, d1, d2, d3, d4, d5⟩, _⟩, ⟨⟨_, ⟨f0, f1, f2, f3, f4, f5⟩, _⟩, _⟩⟩ := hbox2 wx hS
          go_simp
          try with_reducible rfl
        · exact fun L wx hS => hS
        simp only [Act.put, List.setIfInBounds_toArray, List.set_cons_zero, List.set_cons_succ]
        apply St.step_give
        · rfl
        · intro L wx hS hcl hrd
          obtain ⟨⟨_, ⟨d0, d1, d2, d3, d4, d5⟩, _⟩, ⟨⟨_, ⟨f0, f1, f2, f3, f4, f5⟩, _⟩, _⟩⟩ := hbox2 wx hS
          go_simp
          try with_reducible rfl
        · exact fun L wx hS => hS
        simp only [Act.put, List.setIfInBounds_toArray, List.set_cons_zero, List.set_cons_succ]
        apply St.step_into
        · rfl
        · intro wx
          go_simp
          exact ⟨rfl, rfl⟩
        · exact fun L wx hS hcl hrd => gn _ wx hS
        simp only [Act.put, List.setIfInBounds_toArray, List.set_cons_zero, List.set_cons_succ]
        apply St.step_give
        · rfl
        · intro L wx hS hcl hrd
          obtain ⟨⟨_, ⟨d0, d1, d2, d3, d4, d5⟩, _⟩, ⟨⟨_, ⟨f0, f1, f2, f3, f4, f5⟩, _⟩, _⟩⟩ := hbox2 wx hS
          go_simp
          try with_reducible rfl
        · exact fun L wx hS => hS
        simp only [Act.put, List.setIfInBounds_toArray, List.set_cons_zero, List.set_cons_succ]
        apply St.step_give
        · rfl
        · intro L wx hS hcl hrd
          obtain ⟨⟨_, ⟨d0, d1, d2, d3, d4, d5⟩, _⟩, ⟨⟨_, ⟨f0, f1, f2, f3, f4, f5⟩, _⟩, _⟩⟩ := hbox2 wx hS
          go_simp
          try with_reducible rfl
        · exact fun L wx hS => hS
        simp only [Act.put, List.setIfInBounds_toArray, List.set_cons_zero, List.set_cons_succ]
        apply St.step_give
        · rfl
        · intro L wx hS hcl hrd
          obtain ⟨⟨_, ⟨d0, d1, d2, d3, d4, d5⟩, _⟩, ⟨⟨_, ⟨f0, f1, f2, f3, f4, f5⟩, _⟩, _⟩⟩ := hbox2 wx hS
          go_simp
          try with_reducible rfl
        · exact fun L wx hS => hS
        simp only [Act.put, List.setIfInBounds_toArray, List.set_cons_zero, List.set_cons_succ]
        apply St.step_give
        · rfl
        · intro L wx hS hcl hrd
          obtain ⟨⟨_, ⟨d0, d1, d2, d3, d4, d5⟩, _⟩, ⟨⟨_, ⟨f0, f1, f2, f3, f4, f5⟩, _⟩, _⟩⟩ := hbox2 wx hS
          go_simp
          try with_reducible rfl
        · exact fun L wx hS => hS
        simp only [Act.put, List.setIfInBounds_toArray, List.set_cons_zero, List.set_cons_succ]
        apply St.step_give
        · rfl
        · intro L wx hS hcl hrd
          obtain ⟨⟨_, ⟨d0, d1, d2, d3, d4, d5⟩, _⟩, ⟨⟨_, ⟨f0, f1, f2, f3, f4, f5⟩, _⟩, _⟩⟩ := hbox2 wx hS
          go_simp
          try with_reducible rfl
        · exact fun L wx hS => hS
        simp only [Act.put, List.setIfInBounds_toArray, List.set_cons_zero, List.set_cons_succ]
        apply St.step_into
        · rfl
        · intro wx
          go_simp
          exact ⟨rfl, rfl⟩
        · exact fun L wx hS hcl hrd => g3 wx hS
        simp only [Act.put, List.setIfInBounds_toArray, List.set_cons_zero, List.set_cons_succ]
        apply St.step_give
        · rfl
        · intro L wx hS hcl hrd
          obtain ⟨⟨_, ⟨d0, d1, d2, d3, d4, d5⟩, _⟩, ⟨⟨_, ⟨f0, f1, f2, f3, f4, f5⟩, _⟩, _⟩⟩ := hbox2 wx hS
          go_simp
          try with_reducible rfl
        · exact fun L wx hS => hS
        simp only [Act.put, List.setIfInBounds_toArray, List.set_cons_zero, List.set_cons_succ]
        apply St.step_give
        · rfl
        · intro L wx hS hcl hrd
          obtain ⟨⟨_, ⟨d0, d1, d2, d3, d4, d5⟩, _⟩, ⟨⟨_, ⟨f0, f1, f2, f3, f4, f5⟩, _⟩, _⟩⟩ := hbox2 wx hS
          go_simp
          try with_reducible rfl
        · exact fun L wx hS => hS
        simp only [Act.put, List.setIfInBounds_toArray, List.set_cons_zero, List.set_cons_succ]
        apply St.step_into
        · rfl
        · intro wx
          go_simp
          exact ⟨rfl, rfl⟩
        · exact fun L wx hS hcl hrd => gl wx hS
        simp only [Act.put, List.setIfInBounds_toArray, List.set_cons_zero, List.set_cons_succ]
        apply St.step_give
        · rfl
        · intro L wx hS hcl hrd
          obtain ⟨⟨_, ⟨d0, d1, d2, d3, d4, d5⟩, _⟩, ⟨⟨_, ⟨f0, f1, f2, f3, f4, f5⟩, _⟩, _⟩⟩ := hbox2 wx hS
          go_simp
          try with_reducible rfl
        · exact fun L wx hS => hS
        simp only [Act.put, List.setIfInBounds_toArray, List.set_cons_zero, List.set_cons_succ]
        apply St.step_give
        · rfl
        · intro L wx hS hcl hrd
          obtain ⟨⟨_, ⟨d0, d1, d2, d3, d4, d5⟩, _⟩, ⟨⟨_, ⟨f0, f1, f2, f3, f4, f5⟩, _⟩, _⟩⟩ := hbox2 wx hS
          go_simp
          try with_reducible rfl
        · exact fun L wx hS => hS
        simp only [Act.put, List.setIfInBounds_toArray, List.set_cons_zero, List.set_cons_succ]
        refine St.step_last ?_
        intro L wx hS _
        clear g1 g2 g3 gl gn hbox2
        go_wp2_with fail
        go_ret
        exact ⟨rfl, hb13.trans (hS.mono hz13)⟩
      · go_wp2_with fail
        try rw [hW8]
        refine St.wp_region_stage (fun _ wx => Below W8.heap.size W8 wx) (by kernel_rfl) (by kernel_rfl) (by kernel_rfl) (Below.refl _ _).drew ?_
        apply St.step_give
        · rfl
        · intro L wx hS hcl hrd
          obtain ⟨⟨⟨_, ⟨d0, d1, d2, d3, d4, d5⟩, _⟩, ⟨_, ⟨f0, f1, f2, f3, f4, f5⟩, _⟩⟩, ⟨⟨_, h0, h1⟩, ⟨_, h2, h3⟩⟩, ⟨⟨_, h4, h5⟩, ⟨_, h6, h7⟩⟩, ⟨⟨_, ⟨j0, j1, j2, j3, j4, j5⟩, _⟩, _⟩, ⟨⟨_, ⟨l0, l1, l2, l3, l4, l5⟩, _⟩, _⟩⟩ := hbox wx hS
          go_simp
          try with_reducible rfl
        · exact fun L wx hS => hS
        simp only [Act.put, List.setIfInBounds_toArray, List.set_cons_zero, List.set_cons_succ]
        apply St.step_into
        · rfl
        · intro wx
          go_simp
          exact ⟨rfl, rfl⟩
        · exact fun L wx hS hcl hrd => g1 wx hS
        simp only [Act.put, List.setIfInBounds_toArray, List.set_cons_zero, List.set_cons_succ]
        apply St.step_into
        · rfl
        · intro wx
          go_simp
          exact ⟨rfl, rfl⟩
        · exact fun L wx hS hcl hrd => gn _ wx hS
        simp only [Act.put, List.setIfInBounds_toArray, List.set_cons_zero, List.set_cons_succ]
        apply St.step_give
        · rfl
        · intro L wx hS hcl hrd
          obtain ⟨⟨⟨_, ⟨d0, d1, d2, d3, d4, d5⟩, _⟩, ⟨_, ⟨f0, f1, f2, f3, f4, f5⟩, _⟩⟩, ⟨⟨_, h0, h1⟩, ⟨_, h2, h3⟩⟩, ⟨⟨_, h4, h5⟩, ⟨_, h6, h7⟩⟩, ⟨⟨_, ⟨j0, j1, j2, j3, j4, j5⟩, _⟩, _⟩, ⟨⟨_, ⟨l0, l1, l2, l3, l4, l5⟩, _⟩, _⟩⟩ := hbox wx hS
          go_simp
          try with_reducible rfl
        · exact fun L wx hS => hS
        simp only [Act.put, List.setIfInBounds_toArray, List.set_cons_zero, List.set_cons_succ]
        apply St.step_give
        · rfl
        · intro L wx hS hcl hrd
          obtain ⟨⟨⟨_, ⟨d0, d1, d2, d3, d4, d5⟩, _⟩, ⟨_, ⟨f0, f1, f2, f3, f4, f5⟩, _⟩⟩, ⟨⟨_, h0, h1⟩, ⟨_, h2, h3⟩⟩, ⟨⟨_, h4, h5⟩, ⟨_, h6, h7⟩⟩, ⟨⟨_, ⟨j0, j1, j2, j3, j4, j5⟩, _⟩, _⟩, ⟨⟨_, ⟨l0, l1, l2, l3, l4, l5⟩, _⟩, _⟩⟩ := hbox wx hS
          go_simp
          try with_reducible rfl
        · exact fun L wx hS => hS
        simp only [Act.put, List.setIfInBounds_toArray, List.set_cons_zero, List.set_cons_succ]
        apply St.step_into
        · rfl
        · intro wx
          go_simp
          exact ⟨rfl, rfl⟩
        · exact fun L wx hS hcl hrd => g2 wx hS
        simp only [Act.put, List.setIfInBounds_toArray, List.set_cons_zero, List.set_cons_succ]
        apply St.step_give
        · rfl
        · intro L wx hS hcl hrd
          obtain ⟨⟨⟨_, ⟨d0, d1, d2, d3, d4, d5⟩, _⟩, ⟨_, ⟨f0, f1, f2, f3, f4, f5⟩, _⟩⟩, ⟨⟨_, h0, h1⟩, ⟨_, h2, h3⟩⟩, ⟨⟨_, h4, h5⟩, ⟨_, h6, h7⟩⟩, ⟨⟨_, ⟨j0, j1, j2, j3, j4, j5⟩, _⟩, _⟩, ⟨⟨_, ⟨l0, l1, l2, l3, l4, l5⟩, _⟩, _⟩⟩ := hbox wx hS
          go_simp
          try with_reducible rfl
        · exact fun L wx hS => hS
        simp only [Act.put, List.setIfInBounds_toArray, List.set_cons_zero, List.set_cons_succ]
        apply St.step_give
        · rfl
        · intro L wx hS hcl hrd
          obtain ⟨⟨⟨_, ⟨d0, d1, d2, d3, d4, d5⟩, _⟩, ⟨_, ⟨f0, f1, f2, f3, f4, f5⟩, _⟩⟩, ⟨⟨_, h0, h1⟩, ⟨_, h2, h3⟩⟩, ⟨⟨_, h4, h5⟩, ⟨_, h6, h7⟩⟩, ⟨⟨_, ⟨j0, j1, j2, j3, j4, j5⟩, _⟩, _⟩, ⟨⟨_, ⟨l0, l1, l2, l3, l4, l5⟩, _⟩, _⟩⟩ := hbox wx hS
          go_simp
          try with_reducible rfl
        · exact fun L wx hS => hS
        simp only [Act.put, List.setIfInBounds_toArray, List.set_cons_zero, List.set_cons_succ]
        apply St.step_give
        · rfl
        · intro L wx hS hcl hrd
          obtain ⟨⟨⟨_, ⟨d0, d1, d2, d3, d4, d5⟩, _⟩, ⟨_, ⟨f0, f1, f2, f3, f4, f5⟩, _⟩⟩, ⟨⟨_, h0, h1⟩, ⟨_, h2, h3⟩⟩, ⟨⟨_, h4, h5⟩, ⟨_, h6, h7⟩⟩, ⟨⟨_, ⟨j0, j1, j2, j3, j4, j5⟩, _⟩, _⟩, ⟨⟨_, ⟨l0, l1, l2, l3, l4, l5⟩, _⟩, _⟩⟩ := hbox wx hS
          go_simp
          try with_reducible rfl
        · exact fun L wx hS => hS
        simp only [Act.put, List.setIfInBounds_toArray, List.set_cons_zero, List.set_cons_succ]
        apply St.step_give
        · rfl
        · intro L wx hS hcl hrd
          obtain ⟨⟨⟨_, ⟨d0, d1, d2, d3, d4, d5⟩, _⟩, ⟨_, ⟨f0, f1, f2, f3, f4, f5⟩, _⟩⟩, ⟨⟨_, h0, h1⟩, ⟨_, h2, h3⟩⟩, ⟨⟨_, h4, h5⟩, ⟨_, h6, h7⟩⟩, ⟨⟨_, ⟨j0, j1, j2, j3, j4, j5⟩, _⟩, _⟩, ⟨⟨_, ⟨l0, l1, l2, l3, l4, l5⟩, _⟩, _⟩⟩ := hbox wx hS
          go_simp
          try with_reducible rfl
        · exact fun L wx hS => hS
        simp only [Act.put, List.setIfInBounds_toArray, List.set_cons_zero, List.set_cons_succ]
        apply St.step_give
        · rfl
        · intro L wx hS hcl hrd
          obtain ⟨⟨⟨_, ⟨d0, d1, d2, d3, d4, d5⟩, _⟩, ⟨_, ⟨f0, f1, f2, f3, f4, f5⟩, _⟩⟩, ⟨⟨_, h0, h1⟩, ⟨_, h2, h3⟩⟩, ⟨⟨_, h4, h5⟩, ⟨_, h6, h7⟩⟩, ⟨⟨_, ⟨j0, j1, j2, j3, j4, j5⟩, _⟩, _⟩, ⟨⟨_, ⟨l0, l1, l2, l3, l4, l5⟩, _⟩, _⟩⟩ := hbox wx hS
          go_simp
          try with_reducible rfl
        · exact fun L wx hS => hS
        simp only [Act.put, List.setIfInBounds_toArray, List.set_cons_zero, List.set_cons_succ]
        apply St.step_give
        · rfl
        · intro L wx hS hcl hrd
          obtain ⟨⟨⟨_, ⟨d0, d1, d2, d3, d4, d5⟩, _⟩, ⟨_, ⟨f0, f1, f2, f3, f4, f5⟩, _⟩⟩, ⟨⟨_, h0, h1⟩, ⟨_, h2, h3⟩⟩, ⟨⟨_, h4, h5⟩, ⟨_, h6, h7⟩⟩, ⟨⟨_, ⟨j0, j1, j2, j3, j4, j5⟩, _⟩, _⟩, ⟨⟨_, ⟨l0, l1, l2, l3, l4, l5⟩, _⟩, _⟩⟩ := hbox wx hS
          go_simp
          try with_reducible rfl
        · exact fun L wx hS => hS
        simp only [Act.put, List.setIfInBounds_toArray, List.set_cons_zero, List.set_cons_succ]
        apply St.step_give
        · rfl
        · intro L wx hS hcl hrd
          obtain ⟨⟨⟨_, ⟨d0, d1, d2, d3, d4, d5⟩, _⟩, ⟨_, ⟨f0, f1, f2, f3, f4, f5⟩, _⟩⟩, ⟨⟨_, h0, h1⟩, ⟨_, h2, h3⟩⟩, ⟨⟨_, h4, h5⟩, ⟨_, h6, h7⟩⟩, ⟨⟨_, ⟨j0, j1, j2, j3, j4, j5⟩, _⟩, _⟩, ⟨⟨_, ⟨l0, l1, l2, l3, l4, l5⟩, _⟩, _⟩⟩ := hbox wx hS
          go_simp
          try with_reducible rfl
        · exact fun L wx hS => hS
        simp only [Act.put, List.setIfInBounds_toArray, List.set_cons_zero, List.set_cons_succ]
        apply St.step_give
        · rfl
        · intro L wx hS hcl hrd
          obtain ⟨⟨⟨_, ⟨d0, d1, d2, d3, d4, d5⟩, _⟩, ⟨_, ⟨f0, f1, f2, f3, f4, f5⟩, _⟩⟩, ⟨⟨_, h0, h1⟩, ⟨_, h2, h3⟩⟩, ⟨⟨_, h4, h5⟩, ⟨_, h6, h7⟩⟩, ⟨⟨_, ⟨j0, j1, j2, j3, j4, j5⟩, _⟩, _⟩, ⟨⟨_, ⟨l0, l1, l2, l3, l4, l5⟩, _⟩, _⟩⟩ := hbox wx hS
          go_simp
          try with_reducible rfl
        · exact fun L wx hS => hS
        simp only [Act.put, List.setIfInBounds_toArray, List.set_cons_zero, List.set_cons_succ]
        apply St.step_give
        · rfl
        · intro L wx hS hcl hrd
          obtain ⟨⟨⟨_, ⟨d0, d1, d2, d3, d4, d5⟩, _⟩, ⟨_, ⟨f0, f1, f2, f3, f4, f5⟩, _⟩⟩, ⟨⟨_, h0, h1⟩, ⟨_, h2, h3⟩⟩, ⟨⟨_, h4, h5⟩, ⟨_, h6, h7⟩⟩, ⟨⟨_, ⟨j0, j1, j2, j3, j4, j5⟩, _⟩, _⟩, ⟨⟨_, ⟨l0, l1, l2, l3, l4, l5⟩, _⟩, _⟩⟩ := hbox wx hS
          go_simp
          try with_reducible rfl
        · exact fun L wx hS => hS
        simp only [Act.put, List.setIfInBounds_toArray, List.set_cons_zero, List.set_cons_succ]
        apply St.step_give
        · rfl
        · intro L wx hS hcl hrd
          obtain ⟨⟨⟨_, ⟨d0, d1, d2, d3, d4, d5⟩, _⟩, ⟨_, ⟨f0, f1, f2, f3, f4, f5⟩, _⟩⟩, ⟨⟨_, h0, h1⟩, ⟨_, h2, h3⟩⟩, ⟨⟨_, h4, h5⟩, ⟨_, h6, h7⟩⟩, ⟨⟨_, ⟨j0, j1, j2, j3, j4, j5⟩, _⟩, _⟩, ⟨⟨_, ⟨l0, l1, l2, l3, l4, l5⟩, _⟩, _⟩⟩ := hbox wx hS
          go_simp
          try with_reducible rfl
        · exact fun L wx hS => hS
        simp only [Act.put, List.setIfInBounds_toArray, List.set_cons_zero, List.set_cons_succ]
        apply St.step_give
        · rfl
        · intro L wx hS hcl hrd
          obtain ⟨⟨⟨_, ⟨d0, d1, d2, d3, d4, d5⟩, _⟩, ⟨_, ⟨f0, f1, f2, f3, f4, f5⟩, _⟩⟩, ⟨⟨_, h0, h1⟩, ⟨_, h2, h3⟩⟩, ⟨⟨_, h4, h5⟩, ⟨_, h6, h7⟩⟩, ⟨⟨_, ⟨j0, j1, j2, j3, j4, j5⟩, _⟩, _⟩, ⟨⟨_, ⟨l0, l1, l2, l3, l4, l5⟩, _⟩, _⟩⟩ := hbox wx hS
          go_simp
          try with_reducible rfl
        · exact fun L wx hS => hS
        simp only [Act.put, List.setIfInBounds_toArray, List.set_cons_zero, List.set_cons_succ]
        apply St.step_give
        · rfl
        · intro L wx hS hcl hrd
          obtain ⟨⟨⟨_, ⟨d0, d1, d2, d3, d4, d5⟩, _⟩, ⟨_, ⟨f0, f1, f2, f3, f4, f5⟩, _⟩⟩, ⟨⟨_, h0, h1⟩, ⟨_, h2, h3⟩⟩, ⟨⟨_, h4, h5⟩, ⟨_, h6, h7⟩⟩, ⟨⟨_, ⟨j0, j1, j2, j3, j4, j5⟩, _⟩, _⟩, ⟨⟨_, ⟨l0, l1, l2, l3, l4, l5⟩, _⟩, _⟩⟩ := hbox wx hS
          go_simp
          try with_reducible rfl
        · exact fun L wx hS => hS
        simp only [Act.put, List.setIfInBounds_toArray, List.set_cons_zero, List.set_cons_succ]
        apply St.step_give
        · rfl
        · intro L wx hS hcl hrd
          obtain ⟨⟨⟨_, ⟨d0, d1, d2, d3, d4, d5⟩, _⟩, ⟨_, ⟨f0, f1, f2, f3, f4, f5⟩, _⟩⟩, ⟨⟨_, h0, h1⟩, ⟨_, h2, h3⟩⟩, ⟨⟨_, h4, h5⟩, ⟨_, h6, h7⟩⟩, ⟨⟨_, ⟨j0, j1, j2, j3, j4, j5⟩, _⟩, _⟩, ⟨⟨_, ⟨l0, l1, l2, l3, l4, l5⟩, _⟩, _⟩⟩ := hbox wx hS
          go_simp
          try with_reducible rfl
        · exact fun L wx hS => hS
        simp only [Act.put, List.setIfInBounds_toArray, List.set_cons_zero, List.set_cons_succ]
        apply St.step_give
        · rfl
        · intro L wx hS hcl hrd
          obtain ⟨⟨⟨_, ⟨d0, d1, d2, d3, d4, d5⟩, _⟩, ⟨_, ⟨f0, f1, f2, f3, f4, f5⟩, _⟩⟩, ⟨⟨_, h0, h1⟩, ⟨_, h2, h3⟩⟩, ⟨⟨_, h4, h5⟩, ⟨_, h6, h7⟩⟩, ⟨⟨_, ⟨j0, j1, j2, j3, j4, j5⟩, _⟩, _⟩, ⟨⟨_, ⟨l0, l1, l2, l3, l4, l5⟩, _⟩, _⟩⟩ := hbox wx hS
          go_simp
          try with_reducible rfl
        · exact fun L wx hS => hS
        simp only [Act.put, List.setIfInBounds_toArray, List.set_cons_zero, List.set_cons_succ]
        apply St.step_give
        · rfl
        · intro L wx hS hcl hrd
          obtain ⟨⟨⟨_, ⟨d0, d1, d2, d3, d4, d5⟩, _⟩, ⟨_, ⟨f0, f1, f2, f3, f4, f5⟩, _⟩⟩, ⟨⟨_, h0, h1⟩, ⟨_, h2, h3⟩⟩, ⟨⟨_, h4, h5⟩, ⟨_, h6, h7⟩⟩, ⟨⟨_, ⟨j0, j1, j2, j3, j4, j5⟩, _⟩, _⟩, ⟨⟨_, ⟨l0, l1, l2, l3, l4, l5⟩, _⟩, _⟩⟩ := hbox wx hS
          go_simp
          try with_reducible rfl
        · exact fun L wx hS => hS
        simp only [Act.put, List.setIfInBounds_toArray, List.set_cons_zero, List.set_cons_succ]
        apply St.step_give
        · rfl
        · intro L wx hS hcl hrd
          obtain ⟨⟨⟨_, ⟨d0, d1, d2, d3, d4, d5⟩, _⟩, ⟨_, ⟨f0, f1, f2, f3, f4, f5⟩, _⟩⟩, ⟨⟨_, h0, h1⟩, ⟨_, h2, h3⟩⟩, ⟨⟨_, h4, h5⟩, ⟨_, h6, h7⟩⟩, ⟨⟨_, ⟨j0, j1, j2, j3, j4, j5⟩, _⟩, _⟩, ⟨⟨_, ⟨l0, l1, l2, l3, l4, l5⟩, _⟩, _⟩⟩ := hbox wx hS
          go_simp
          try with_reducible rfl
        · exact fun L wx hS => hS
        simp only [Act.put, List.setIfInBounds_toArray, List.set_cons_zero, List.set_cons_succ]
        apply St.step_give
        · rfl
        · intro L wx hS hcl hrd
          obtain ⟨⟨⟨_, ⟨d0, d1, d2, d3, d4, d5⟩, _⟩, ⟨_, ⟨f0, f1, f2, f3, f4, f5⟩, _⟩⟩, ⟨⟨_, h0, h1⟩, ⟨_, h2, h3⟩⟩, ⟨⟨_, h4, h5⟩, ⟨_, h6, h7⟩⟩, ⟨⟨_, ⟨j0, j1, j2, j3, j4, j5⟩, _⟩, _⟩, ⟨⟨_, ⟨l0, l1, l2, l3, l4, l5⟩, _⟩, _⟩⟩ := hbox wx hS
          go_simp
          try with_reducible rfl
        · exact fun L wx hS => hS
        simp only [Act.put, List.setIfInBounds_toArray, List.set_cons_zero, List.set_cons_succ]
        apply St.step_give
        · rfl
        · intro L wx hS hcl hrd
          obtain ⟨⟨⟨_, ⟨d0, d1, d2, d3, d4, d5⟩, _⟩, ⟨_, ⟨f0, f1, f2, f3, f4, f5⟩, _⟩⟩, ⟨⟨_, h0, h1⟩, ⟨_, h2, h3⟩⟩, ⟨⟨_, h4, h5⟩, ⟨_, h6, h7⟩⟩, ⟨⟨_, ⟨j0, j1, j2, j3, j4, j5⟩, _⟩, _⟩, ⟨⟨_, ⟨l0, l1, l2, l3, l4, l5⟩, _⟩, _⟩⟩ := hbox wx hS
          go_simp
          try with_reducible rfl
        · exact fun L wx hS => hS
        simp only [Act.put, List.setIfInBounds_toArray, List.set_cons_zero, List.set_cons_succ]
        apply St.step_give
        · rfl
        · intro L wx hS hcl hrd
          obtain ⟨⟨⟨_, ⟨d0, d1, d2, d3, d4, d5⟩, _⟩, ⟨_, ⟨f0, f1, f2, f3, f4, f5⟩, _⟩⟩, ⟨⟨_, h0, h1⟩, ⟨_, h2, h3⟩⟩, ⟨⟨_, h4, h5⟩, ⟨_, h6, h7⟩⟩, ⟨⟨_, ⟨j0, j1, j2, j3, j4, j5⟩, _⟩, _⟩, ⟨⟨_, ⟨l0, l1, l2, l3, l4, l5⟩, _⟩, _⟩⟩ := hbox wx hS
          go_simp
          try with_reducible rfl
        · exact fun L wx hS => hS
        simp only [Act.put, List.setIfInBounds_toArray, List.set_cons_zero, List.set_cons_succ]
        apply St.step_give
        · rfl
        · intro L wx hS hcl hrd
          obtain ⟨⟨⟨_, ⟨d0, d1, d2, d3, d4, d5⟩, _⟩, ⟨_, ⟨f0, f1, f2, f3, f4, f5⟩, _⟩⟩, ⟨⟨_, h0, h1⟩, ⟨_, h2, h3⟩⟩, ⟨⟨_, h4, h5⟩, ⟨_, h6, h7⟩⟩, ⟨⟨_, ⟨j0, j1, j2, j3, j4, j5⟩, _⟩, _⟩, ⟨⟨_, ⟨l0, l1, l2, l3, l4, l5⟩, _⟩, _⟩⟩ := hbox wx hS
          go_simp
          try with_reducible rfl
        · exact fun L wx hS => hS
        simp only [Act.put, List.setIfInBounds_toArray, List.set_cons_zero, List.set_cons_succ]
        apply St.step_give
        · rfl
        · intro L wx hS hcl hrd
          obtain ⟨⟨⟨_, ⟨d0, d1, d2, d3, d4, d5⟩, _⟩, ⟨_, ⟨f0, f1, f2, f3, f4, f5⟩, _⟩⟩, ⟨⟨_, h0, h1⟩, ⟨_, h2, h3⟩⟩, ⟨⟨_, h4, h5⟩, ⟨_, h6, h7⟩⟩, ⟨⟨_, ⟨j0, j1, j2, j3, j4, j5⟩, _⟩, _⟩, ⟨⟨_, ⟨l0, l1, l2, l3, l4, l5⟩, _⟩, _⟩⟩ := hbox wx hS
          go_simp
          try with_reducible rfl
        · exact fun L wx hS => hS
        simp only [Act.put, List.setIfInBounds_toArray, List.set_cons_zero, List.set_cons_succ]
        apply St.step_give
        · rfl
        · intro L wx hS hcl hrd
          obtain ⟨⟨⟨_, ⟨d0, d1, d2, d3, d4, d5⟩, _⟩, ⟨_, ⟨f0, f1, f2, f3, f4, f5⟩, _⟩⟩, ⟨⟨_, h0, h1⟩, ⟨_, h2, h3⟩⟩, ⟨⟨_, h4, h5⟩, ⟨_, h6, h7⟩⟩, ⟨⟨_, ⟨j0, j1, j2, j3, j4, j5⟩, _⟩, _⟩, ⟨⟨_, ⟨l0, l1, l2, l3, l4, l5⟩, _⟩, _⟩⟩ := hbox wx hS
          go_simp
          try with_reducible rfl
        · exact fun L wx hS => hS
        simp only [Act.put, List.setIfInBounds_toArray, List.set_cons_zero, List.set_cons_succ]
        apply St.step_give
        · rfl
        · intro L wx hS hcl hrd
          obtain ⟨⟨⟨_, ⟨d0, d1, d2, d3, d4, d5⟩, _⟩, ⟨_, ⟨f0, f1, f2, f3, f4, f5⟩, _⟩⟩, ⟨⟨_, h0, h1⟩, ⟨_, h2, h3⟩⟩, ⟨⟨_, h4, h5⟩, ⟨_, h6, h7⟩⟩, ⟨⟨_, ⟨j0, j1, j2, j3, j4, j5⟩, _⟩, _⟩, ⟨⟨_, ⟨l0, l1, l2, l3, l4, l5⟩, _⟩, _⟩⟩ := hbox wx hS
          go_simp
          try with_reducible rfl
        · exact fun L wx hS => hS
        simp only [Act.put, List.setIfInBounds_toArray, List.set_cons_zero, List.set_cons_succ]
        apply St.step_give
        · rfl
        · intro L wx hS hcl hrd
          obtain ⟨⟨⟨_, ⟨d0, d1, d2, d3, d4, d5⟩, _⟩, ⟨_, ⟨f0, f1, f2, f3, f4, f5⟩, _⟩⟩, ⟨⟨_, h0, h1⟩, ⟨_, h2, h3⟩⟩, ⟨⟨_, h4, h5⟩, ⟨_, h6, h7⟩⟩, ⟨⟨_, ⟨j0, j1, j2, j3, j4, j5⟩, _⟩, _⟩, ⟨⟨_, ⟨l0, l1, l2, l3, l4, l5⟩, _⟩, _⟩⟩ := hbox wx hS
          go_simp
          try with_reducible rfl
        · exact fun L wx hS => hS
        simp only [Act.put, List.setIfInBounds_toArray, List.set_cons_zero, List.set_cons_succ]
        apply St.step_into
        · rfl
        · intro wx
          go_simp
          exact ⟨rfl, rfl⟩
        · exact fun L wx hS hcl hrd => g3 wx hS
        simp only [Act.put, List.setIfInBounds_toArray, List.set_cons_zero, List.set_cons_succ]
        apply St.step_give
        · rfl
        · intro L wx hS hcl hrd
          obtain ⟨⟨⟨_, ⟨d0, d1, d2, d3, d4, d5⟩, _⟩, ⟨_, ⟨f0, f1, f2, f3, f4, f5⟩, _⟩⟩, ⟨⟨_, h0, h1⟩, ⟨_, h2, h3⟩⟩, ⟨⟨_, h4, h5⟩, ⟨_, h6, h7⟩⟩, ⟨⟨_, ⟨j0, j1, j2, j3, j4, j5⟩, _⟩, _⟩, ⟨⟨_, ⟨l0, l1, l2, l3, l4, l5⟩, _⟩, _⟩⟩ := hbox wx hS
          go_simp
          try with_reducible rfl
        · exact fun L wx hS => hS
        simp only [Act.put, List.setIfInBounds_toArray, List.set_cons_zero, List.set_cons_succ]
        apply St.step_give
        · rfl
        · intro L wx hS hcl hrd
          obtain ⟨⟨⟨_, ⟨d0, d1, d2, d3, d4, d5⟩, _⟩, ⟨_, ⟨f0, f1, f2, f3, f4, f5⟩, _⟩⟩, ⟨⟨_, h0, h1⟩, ⟨_, h2, h3⟩⟩, ⟨⟨_, h4, h5⟩, ⟨_, h6, h7⟩⟩, ⟨⟨_, ⟨j0, j1, j2, j3, j4, j5⟩, _⟩, _⟩, ⟨⟨_, ⟨l0, l1, l2, l3, l4, l5⟩, _⟩, _⟩⟩ := hbox wx hS
          go_simp
          try with_reducible rfl
        · exact fun L wx hS => hS
        simp only [Act.put, List.setIfInBounds_toArray, List.set_cons_zero, List.set_cons_succ]
        apply St.step_give
        · rfl
        · intro L wx hS hcl hrd
          obtain ⟨⟨⟨_, ⟨d0, d1, d2, d3, d4, d5⟩, _⟩, ⟨_, ⟨f0, f1, f2, f3, f4, f5⟩, _⟩⟩, ⟨⟨_, h0, h1⟩, ⟨_, h2, h3⟩⟩, ⟨⟨_, h4, h5⟩, ⟨_, h6, h7⟩⟩, ⟨⟨_, ⟨j0, j1, j2, j3, j4, j5⟩, _⟩, _⟩, ⟨⟨_, ⟨l0, l1, l2, l3, l4, l5⟩, _⟩, _⟩⟩ := hbox wx hS
          go_simp
          try with_reducible rfl
        · exact fun L wx hS => hS
        simp only [Act.put, List.setIfInBounds_toArray, List.set_cons_zero, List.set_cons_succ]
        apply St.step_give
        · rfl
        · intro L wx hS hcl hrd
          obtain ⟨⟨⟨_, ⟨d0, d1, d2, d3, d4, d5⟩, _⟩, ⟨_, ⟨f0, f1, f2, f3, f4, f5⟩, _⟩⟩, ⟨⟨_, h0, h1⟩, ⟨_, h2, h3⟩⟩, ⟨⟨_, h4, h5⟩, ⟨_, h6, h7⟩⟩, ⟨⟨_, ⟨j0, j1, j2, j3, j4, j5⟩, _⟩, _⟩, ⟨⟨_, ⟨l0, l1, l2, l3, l4, l5⟩, _⟩, _⟩⟩ := hbox wx hS
          go_simp
          try with_reducible rfl
        · exact fun L wx hS => hS
        simp only [Act.put, List.setIfInBounds_toArray, List.set_cons_zero, List.set_cons_succ]
        apply St.step_into
        · rfl
        · intro wx
          go_simp
          exact ⟨rfl, rfl⟩
        · exact fun L wx hS hcl hrd => gn _ wx hS
        simp only [Act.put, List.setIfInBounds_toArray, List.set_cons_zero, List.set_cons_succ]
        apply St.step_give
        · rfl
        · intro L wx hS hcl hrd
          obtain ⟨⟨⟨_, ⟨d0, d1, d2, d3, d4, d5⟩, _⟩, ⟨_, ⟨f0, f1, f2, f3, f4, f5⟩, _⟩⟩, ⟨⟨_, h0, h1⟩, ⟨_, h2, h3⟩⟩, ⟨⟨_, h4, h5⟩, ⟨_, h6, h7⟩⟩, ⟨⟨_, ⟨j0, j1, j2, j3, j4, j5⟩, _⟩, _⟩, ⟨⟨_, ⟨l0, l1, l2, l3, l4, l5⟩, _⟩, _⟩⟩ := hbox wx hS
          go_simp
          try with_reducible rfl
        · exact fun L wx hS => hS
        simp only [Act.put, List.setIfInBounds_toArray, List.set_cons_zero, List.set_cons_succ]
        apply St.step_give
        · rfl
        · intro L wx hS hcl hrd
          obtain ⟨⟨⟨_, ⟨d0, d1, d2, d3, d4, d5⟩, _⟩, ⟨_, ⟨f0, f1, f2, f3, f4, f5⟩, _⟩⟩, ⟨⟨_, h0, h1⟩, ⟨_, h2, h3⟩⟩, ⟨⟨_, h4, h5⟩, ⟨_, h6, h7⟩⟩, ⟨⟨_, ⟨j0, j1, j2, j3, j4, j5⟩, _⟩, _⟩, ⟨⟨_, ⟨l0, l1, l2, l3, l4, l5⟩, _⟩, _⟩⟩ := hbox wx hS
          go_simp
          try with_reducible rfl
        · exact fun L wx hS => hS
        simp only [Act.put, List.setIfInBounds_toArray, List.set_cons_zero, List.set_cons_succ]
        apply St.step_give
        · rfl
        · intro L wx hS hcl hrd
          obtain ⟨⟨⟨_, ⟨d0, d1, d2, d3, d4, d5⟩, _⟩, ⟨_, ⟨f0, f1, f2, f3, f4, f5⟩, _⟩⟩, ⟨⟨_, h0, h1⟩, ⟨_, h2, h3⟩⟩, ⟨⟨_, h4, h5⟩, ⟨_, h6, h7⟩⟩, ⟨⟨_, ⟨j0, j1, j2, j3, j4, j5⟩, _⟩, _⟩, ⟨⟨_, ⟨l0, l1, l2, l3, l4, l5⟩, _⟩, _⟩⟩ := hbox wx hS
          go_simp
          try with_reducible rfl
        · exact fun L wx hS => hS
        simp only [Act.put, List.setIfInBounds_toArray, List.set_cons_zero, List.set_cons_succ]
        apply St.step_give
        · rfl
        · intro L wx hS hcl hrd
          obtain ⟨⟨⟨_, ⟨d0, d1, d2, d3, d4, d5⟩, _⟩, ⟨_, ⟨f0, f1, f2, f3, f4, f5⟩, _⟩⟩, ⟨⟨_, h0, h1⟩, ⟨_, h2, h3⟩⟩, ⟨⟨_, h4, h5⟩, ⟨_, h6, h7⟩⟩, ⟨⟨_, ⟨j0, j1, j2, j3, j4, j5⟩, _⟩, _⟩, ⟨⟨_, ⟨l0, l1, l2, l3, l4, l5⟩, _⟩, _⟩⟩ := hbox wx hS
          go_simp
          try with_reducible rfl
        · exact fun L wx hS => hS
        simp only [Act.put, List.setIfInBounds_toArray, List.set_cons_zero, List.set_cons_succ]
        apply St.step_give
        · rfl
        · intro L wx hS hcl hrd
          obtain ⟨⟨⟨_, ⟨d0, d1, d2, d3, d4, d5⟩, _⟩, ⟨_, ⟨f0, f1, f2, f3, f4, f5⟩, _⟩⟩, ⟨⟨_, h0, h1⟩, ⟨_, h2, h3⟩⟩, ⟨⟨_, h4, h5⟩, ⟨_, h6, h7⟩⟩, ⟨⟨_, ⟨j0, j1, j2, j3, j4, j5⟩, _⟩, _⟩, ⟨⟨_, ⟨l0, l1, l2, l3, l4, l5⟩, _⟩, _⟩⟩ := hbox wx hS
          go_simp
          try with_reducible rfl
        · exact fun L wx hS => hS
        simp only [Act.put, List.setIfInBounds_toArray, List.set_cons_zero, List.set_cons_succ]
        apply St.step_give
        · rfl
        · intro L wx hS hcl hrd
          obtain ⟨⟨⟨_, ⟨d0, d1, d2, d3, d4, d5⟩, _⟩, ⟨_, ⟨f0, f1, f2, f3, f4, f5⟩, _⟩⟩, ⟨⟨_, h0, h1⟩, ⟨_, h2, h3⟩⟩, ⟨⟨_, h4, h5⟩, ⟨_, h6, h7⟩⟩, ⟨⟨_, ⟨j0, j1, j2, j3, j4, j5⟩, _⟩, _⟩, ⟨⟨_, ⟨l0, l1, l2, l3, l4, l5⟩, _⟩, _⟩⟩ := hbox wx hS
          go_simp
          try with_reducible rfl
        · exact fun L wx hS => hS
        simp only [Act.put, List.setIfInBounds_toArray, List.set_cons_zero, List.set_cons_succ]
        apply St.step_into
        · rfl
        · intro wx
          go_simp
          exact ⟨rfl, rfl⟩
        · exact fun L wx hS hcl hrd => g4 wx hS
        simp only [Act.put, List.setIfInBounds_toArray, List.set_cons_zero, List.set_cons_succ]
        apply St.step_give
        · rfl
        · intro L wx hS hcl hrd
          obtain ⟨⟨⟨_, ⟨d0, d1, d2, d3, d4, d5⟩, _⟩, ⟨_, ⟨f0, f1, f2, f3, f4, f5⟩, _⟩⟩, ⟨⟨_, h0, h1⟩, ⟨_, h2, h3⟩⟩, ⟨⟨_, h4, h5⟩, ⟨_, h6, h7⟩⟩, ⟨⟨_, ⟨j0, j1, j2, j3, j4, j5⟩, _⟩, _⟩, ⟨⟨_, ⟨l0, l1, l2, l3, l4, l5⟩, _⟩, _⟩⟩ := hbox wx hS
          go_simp
          try with_reducible rfl
        · exact fun L wx hS => hS
        simp only [Act.put, List.setIfInBounds_toArray, List.set_cons_zero, List.set_cons_succ]
        apply St.step_give
        · rfl
        · intro L wx hS hcl hrd
          obtain ⟨⟨⟨_, ⟨d0, d1, d2, d3, d4, d5⟩, _⟩, ⟨_, ⟨f0, f1, f2, f3, f4, f5⟩, _⟩⟩, ⟨⟨_, h0, h1⟩, ⟨_, h2, h3⟩⟩, ⟨⟨_, h4, h5⟩, ⟨_, h6, h7⟩⟩, ⟨⟨_, ⟨j0, j1, j2, j3, j4, j5⟩, _⟩, _⟩, ⟨⟨_, ⟨l0, l1, l2, l3, l4, l5⟩, _⟩, _⟩⟩ := hbox wx hS
          go_simp
          try with_reducible rfl
        · exact fun L wx hS => hS
        simp only [Act.put, List.setIfInBounds_toArray, List.set_cons_zero, List.set_cons_succ]
        apply St.step_into
        · rfl
        · intro wx
          go_simp
          exact ⟨rfl, rfl⟩
        · exact fun L wx hS hcl hrd => g5 wx hS
        simp only [Act.put, List.setIfInBounds_toArray, List.set_cons_zero, List.set_cons_succ]
        apply St.step_give
        · rfl
        · intro L wx hS hcl hrd
          obtain ⟨⟨⟨_, ⟨d0, d1, d2, d3, d4, d5⟩, _⟩, ⟨_, ⟨f0, f1, f2, f3, f4, f5⟩, _⟩⟩, ⟨⟨_, h0, h1⟩, ⟨_, h2, h3⟩⟩, ⟨⟨_, h4, h5⟩, ⟨_, h6, h7⟩⟩, ⟨⟨_, ⟨j0, j1, j2, j3, j4, j5⟩, _⟩, _⟩, ⟨⟨_, ⟨l0, l1, l2, l3, l4, l5⟩, _⟩, _⟩⟩ := hbox wx hS
          go_simp
          try with_reducible rfl
        · exact fun L wx hS => hS
        simp only [Act.put, List.setIfInBounds_toArray, List.set_cons_zero, List.set_cons_succ]
        apply St.step_give
        · rfl
        · intro L wx hS hcl hrd
          obtain ⟨⟨⟨_, ⟨d0, d1, d2, d3, d4, d5⟩, _⟩, ⟨_, ⟨f0, f1, f2, f3, f4, f5⟩, _⟩⟩, ⟨⟨_, h0, h1⟩, ⟨_, h2, h3⟩⟩, ⟨⟨_, h4, h5⟩, ⟨_, h6, h7⟩⟩, ⟨⟨_, ⟨j0, j1, j2, j3, j4, j5⟩, _⟩, _⟩, ⟨⟨_, ⟨l0, l1, l2, l3, l4, l5⟩, _⟩, _⟩⟩ := hbox wx hS
          go_simp
          try with_reducible rfl
        · exact fun L wx hS => hS
        simp only [Act.put, List.setIfInBounds_toArray, List.set_cons_zero, List.set_cons_succ]
        refine St.step_last ?_
        intro L wx hS _
        have hb10 := hb8.trans (hS.mono hz8)
        have hz10 := hb10.size
        obtain ⟨⟨A10, _⟩, _⟩ := hbox wx hS
        clear g1 g2 g3 g4 g5 gn hbox
        obtain ⟨p_0, ⟨p_1, p_2, p_3, p_4, p_5, p_6⟩, p_7⟩ := _root_.id A10
        go_wp2_with fail
        refine (cIs _ (kd _ hb10)).mono ?_
        rintro e w11 ⟨rfl, b11⟩
        have hb11 := hb10.trans (b11.mono hz10)
        clear b11
        clear p_0 p_1 p_2 p_3 p_4 p_5 p_6 p_7
        go_wp2_with fail
        refine (live_any _ (hg.below hb11)).mono ?_
        rintro e w9 ⟨rfl, b9⟩
        go_wp2_with fail
        go_ret
        exact ⟨rfl, (hb11).trans (b9.mono (hb11).size)⟩
end Go.Proofs.YthglghlkchhjlaaDoor.Ds

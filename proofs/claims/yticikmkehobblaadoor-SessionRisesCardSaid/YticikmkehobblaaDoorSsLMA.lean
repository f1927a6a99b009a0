/-
  SessionMerges, walked. Conditions: lengths at most 2^47; the library's variables hold what their types allow.
  SessionAsks, walked. Conditions: lengths at most 2^47; the library's variables hold what their types allow.
-/
import Derived.Test.YticikmkehobblaaDoorSsLvA
import Derived.Test.YticikmkehobblaaDoorSsPSA
import Derived.Test.YticikmkehobblaaDoorSsRNote
namespace Go.Proofs.YticikmkehobblaaDoor.Ss
open Go.RowKit Bnd
open Go.Proofs.YticikmkehobblaaDoor.Od (Rep SP ArgP OwnP rv BoxR)

theorem merge_len (a b : List Ses) : (mergeS a b).1.length ≤ 64 := by
  rcases merge_cases a b with ⟨h, e⟩ | e
  · rw [e]; exact h
  · rw [e]; simp
/-- a list of sessions that comes in, kept through a law -/
structure InZ (w : World) (v : Value) (zs : List Zs) : Prop where
  arg : ArgZ w v zs
  pz : PZ w w.heap.size zs
  fit : ∀ z ∈ zs, FitZ z.1
  len : zs.length ≤ 140737488355328
theorem InZ.keep {w w' : World} {v : Value} {zs : List Zs} (h : InZ w v zs) (hb : Below w.heap.size w w') : InZ w' v zs := ⟨h.arg.keep hb, (h.pz.below hb).more hb.size, h.fit, h.len⟩
theorem InZ.nop {w : World} {v : Value} {zs : List Zs} (h : InZ w v zs) (hs : isS (ses zs) = true) : NoP zs := h.pz.nop fun s hs' => fits_ps (rise_mem ((isS_iff _).1 hs).2 s hs').2
theorem InZ.one {w : World} {v : Value} {zs : List Zs} (h : InZ w v zs) : ∀ z ∈ zs, z.2.oneCell' = true := h.pz.one
theorem is_len {zs : List Zs} (hs : isS (ses zs) = true) : zs.length ≤ 64 := by have := ((isS_iff _).1 hs).1; simpa using this

set_option maxHeartbeats 16000000 in
set_option maxRecDepth 100000 in
theorem merges_walk (va vb : Value) (za zb : List Zs) (w : World) (ha : InZ w va za) (hb : InZ w vb zb) (hg : Good w) :
    Calls Tryd.prog 4 #[va, vb] w fun e w' => e = .returned (.bool true) ∧ Below w.heap.size w w' := by
  obtain ⟨A, ca, rfl⟩ := ha.arg.form
  obtain ⟨D, cb, rfl⟩ := hb.arg.form
  obtain ⟨na, hna⟩ : ∃ n, za.length = n := ⟨_, rfl⟩
  obtain ⟨nb, hnb⟩ : ∃ n, zb.length = n := ⟨_, rfl⟩
  rw [hna] at ha ⊢
  rw [hnb] at hb ⊢
  clear hna hnb
  have KA : ∀ w', Below w.heap.size w w' → InZ w' (.slice A na ca) za := fun w' h => ha.keep h
  have KB : ∀ w', Below w.heap.size w w' → InZ w' (.slice D nb cb) zb := fun w' h => hb.keep h
  have cS1 := fun w' (h : Below w.heap.size w w') => small_any _ za w' (KA w' h).arg.sz (KA w' h).pz (KA w' h).fit (KA w' h).len
  have cS2 := fun w' (h : Below w.heap.size w w') => small_any _ zb w' (KB w' h).arg.sz (KB w' h).pz (KB w' h).fit (KB w' h).len
  have cI1 := fun w' (h : Below w.heap.size w w') => ris_any _ za w' (KA w' h).arg.sz (KA w' h).pz (KA w' h).fit (KA w' h).len
  have cI2 := fun w' (h : Below w.heap.size w w') => ris_any _ zb w' (KB w' h).arg.sz (KB w' h).pz (KB w' h).fit (KB w' h).len
  have cL := fun w' (h : Below w.heap.size w w') => live_any w' (hg.below h)
  clear ha hb
  go_enter Tryd.func4, Tryd.ntmps4
  go_wp2_with fail
  refine (cS1 _ (Below.refl _ _)).mono ?_
  rintro e w1 ⟨⟨r1, rfl, _⟩, b1⟩
  cases r1 with
  | false =>
    go_wp2_with fail
    refine (cL _ b1).mono ?_
    rintro e w2 ⟨rfl, b2⟩
    have hbz := b1.trans (b2.mono b1.size)
    clear b2
    go_wp2_with fail
    go_ret
    exact ⟨rfl, hbz⟩
  | true =>
  go_wp2_with fail
  refine (cS2 _ b1).mono ?_
  rintro e w2 ⟨⟨r2, rfl, _⟩, b2⟩
  have hb2 := b1.trans (b2.mono b1.size)
  clear b2
  cases r2 with
  | false =>
    go_wp2_with fail
    refine (cL _ hb2).mono ?_
    rintro e w3 ⟨rfl, b3⟩
    have hbz := hb2.trans (b3.mono hb2.size)
    clear b3
    go_wp2_with fail
    go_ret
    exact ⟨rfl, hbz⟩
  | true =>
  have hA : isS (ses za) = true ∨ isS (ses za) = false := by cases isS (ses za) <;> simp
  have hB : isS (ses zb) = true ∨ isS (ses zb) = false := by cases isS (ses zb) <;> simp
  rcases hA with hA | hA
  rotate_left
  · rw [hA] at cI1
    clear hA hB
    go_wp2_with fail
    refine (cI1 _ hb2).mono ?_
    rintro e w3 ⟨rfl, b3⟩
    have hb3 := hb2.trans (b3.mono hb2.size)
    clear b3
    go_wp2_with fail
    refine (cL _ hb3).mono ?_
    rintro e w4 ⟨rfl, b4⟩
    have hbz := hb3.trans (b4.mono hb3.size)
    clear b4
    go_wp2_with fail
    go_ret
    exact ⟨rfl, hbz⟩
  rcases hB with hB | hB
  rotate_left
  · rw [hA] at cI1
    rw [hB] at cI2
    clear hA hB
    go_wp2_with fail
    refine (cI1 _ hb2).mono ?_
    rintro e w3 ⟨rfl, b3⟩
    have hb3 := hb2.trans (b3.mono hb2.size)
    clear b3
    go_wp2_with fail
    refine (cI2 _ hb3).mono ?_
    rintro e w4 ⟨rfl, b4⟩
    have hb4 := hb3.trans (b4.mono hb3.size)
    clear b4
    go_wp2_with fail
    refine (cL _ hb4).mono ?_
    rintro e w5 ⟨rfl, b5⟩
    have hbz := hb4.trans (b5.mono hb4.size)
    clear b5
    go_wp2_with fail
    go_ret
    exact ⟨rfl, hbz⟩
  have PA := (KA w (Below.refl _ _)).nop hA
  have PB := (KB w (Below.refl _ _)).nop hB
  have la := is_len hA
  have lb := is_len hB
  have hrb := ((isS_iff _).1 hB).2
  have cO1 := fun w' (h : Below w.heap.size w w') => own_any _ za w' (KA w' h).arg (KA w' h).one (by omega)
  have cO2 := fun w' (h : Below w.heap.size w w') => own_any _ zb w' (KB w' h).arg (KB w' h).one (by omega)
  have cM := fun va vb w' (h1 : ArgZ w' va za) (h2 : ArgZ w' vb zb) => merge_any va vb za zb w' h1.sz h2.sz PA PB (by omega) (by omega)
  have cR := fun w' (h : Below w.heap.size w w') => rmerge_any _ _ za zb w' (KA w' h).arg (KB w' h).arg.sz PA PB (by omega) (by omega) hrb
  have hln := merge_len (ses za) (ses zb)
  obtain ⟨ans, hans⟩ : ∃ q, mergeS (ses za) (ses zb) = q := ⟨_, rfl⟩
  obtain ⟨l, n⟩ := ans
  rw [hans] at cM cR hln
  rw [hA] at cI1
  rw [hB] at cI2
  clear hA hB PA PB la lb hrb hans KA KB cS1 cS2
  go_wp2_with fail
  refine (cI1 _ hb2).mono ?_
  rintro e w3 ⟨rfl, b3⟩
  have hb3 := hb2.trans (b3.mono hb2.size)
  clear b3
  go_wp2_with fail
  refine (cI2 _ hb3).mono ?_
  rintro e w4 ⟨rfl, b4⟩
  have hb4 := hb3.trans (b4.mono hb3.size)
  clear b4
  go_wp2_with fail
  refine (cO1 _ hb4).mono ?_
  rintro e w5 ⟨v5, rfl, a5, b5⟩
  have hb5 := hb4.trans (b5.mono hb4.size)
  clear b5
  go_wp2_with fail
  refine (cO2 _ hb5).mono ?_
  rintro e w6 ⟨v6, rfl, a6, b6⟩
  have hb6 := hb5.trans (b6.mono hb5.size)
  have a5' := a5.keep b6
  clear b6 a5
  go_wp2_with fail
  refine (cM _ _ _ a5' a6).mono ?_
  rintro e w7 ⟨v7, z7, rfl, hs7, a7, p7, b7⟩
  have hb7 := hb6.trans (b7.mono hb6.size)
  clear b7 a5' a6
  obtain ⟨A7, c7, hv7⟩ := a7.form
  have HV7 := Lib.hid hv7
  have HS7 := Lib.hid hs7
  clear hs7 hv7
  go_wp2_with fail
  refine (cR _ hb7).mono ?_
  rintro e w8 ⟨v8, z8, rfl, hs8, a8, p8, b8⟩
  have hb8 := hb7.trans (b8.mono hb7.size)
  have a7' := a7.keep b8
  have HS8 := Lib.hid hs8
  have hl7 : z7.length ≤ 1000000 := by have := congrArg List.length HS7.out; simp only [List.length_map] at this hln; omega
  have cE := fun w' (h : Below w8.heap.size w8 w') => rsame_yes _ _ z7 z8 w' (a7'.keep h).sz (a8.keep h).sz p7 p8 (HS7.out.trans HS8.out.symm) hl7
  clear b8 a7 hs8
  go_wp2_with fail
  refine (cE _ (Below.refl _ _)).mono ?_
  rintro e w9 ⟨rfl, b9⟩
  have hb9 := hb8.trans (b9.mono hb8.size)
  clear b9
  go_wp2_with fail
  refine (num_any _ _).mono ?_
  rintro e w' ⟨rfl, rfl⟩
  go_wp2_with fail
  refine (cL _ hb9).mono ?_
  rintro e w10 ⟨rfl, b10⟩
  have hbz := hb9.trans (b10.mono hb9.size)
  clear b10
  go_wp2_with fail
  go_ret
  exact ⟨rfl, hbz⟩
end Go.Proofs.YticikmkehobblaaDoor.Ss

namespace Go.Proofs.YticikmkehobblaaDoor.Ss
open Go.RowKit Bnd
open Go.Proofs.YticikmkehobblaaDoor.Od (Rep SP ArgP OwnP rv BoxR rsameR_any)
open Ds (run_append2)

theorem opt_nop {zs : List Zs} (h : NoP zs) (c : Int) : (optS (findS c (ses zs))).1.rep.ps = [] := by
  cases hf : findS c (ses zs) with
  | none => rfl
  | some s =>
    obtain ⟨z, hz, e⟩ := List.mem_map.1 (findS_some hf).1
    have := (h z hz).1
    rw [e] at this
    exact this
theorem ask_nop {zs : List Zs} (h : NoP zs) (c q : Int) : (askS (ses zs) c q).1.ps = [] := by
  unfold askS
  cases hf : findS c (ses zs) with
  | none => rfl
  | some s =>
    obtain ⟨z, hz, e⟩ := List.mem_map.1 (findS_some hf).1
    have := (h z hz).1
    rw [e] at this
    simp only
    split
    · rfl
    · split
      · exact this
      · rfl
theorem note_len (l : List Ses) (s : Ses) : (noteS l s).1.length ≤ 64 := by
  rcases note_cases l s with ⟨_, h, e⟩ | ⟨_, _, e⟩ | ⟨_, e⟩
  · rw [e]; exact h
  · rw [e]; simp
  · rw [e]; simp
theorem ses_pair {s : Ses} {b : Bool} {q : Ses × Bool} (h : q = (s, b)) : q.1 = s := by rw [h]
/-- region 7: a list of its own, and a session out of its box, in either order; then Note -/
structure RN7 (W : World) (za : List Zs) (l : List Ses) (n : Int) (L : Nat → Bool) (u : Nat → Value) (wx : World) : Prop where
  lo : Below W.heap.size W wx
  own : L 1 = true → L 3 = false → ArgZ wx (u 1) za
  note : L 3 = true → ∃ zs' A' c', u 3 = .tuple #[.slice A' zs'.length c', .int .i64 n] ∧ ses zs' = l ∧ NoP zs' ∧ ArgZ wx (.slice A' zs'.length c') zs'

set_option maxHeartbeats 16000000 in
set_option maxRecDepth 100000 in
theorem asks_walk (va : Value) (za : List Zs) (z : Zs) (c q : Int) (w : World) (ha : InZ w va za) (hz2 : SP w w.heap.size z.2 z.1.rep.ps) (fz : FitZ z.1) (hg : Good w) :
    Calls Tryd.prog 3 #[va, .int .i64 c, .int .i64 q, sv z] w fun e w' => e = .returned (.bool true) ∧ Below w.heap.size w w' := by
  obtain ⟨A, ca, rfl⟩ := ha.arg.form
  obtain ⟨s, pv⟩ := z
  simp only at hz2 fz
  obtain ⟨pA, pc, rfl⟩ := SP.form hz2
  obtain ⟨na, hna⟩ : ∃ n, za.length = n := ⟨_, rfl⟩
  obtain ⟨P, hP⟩ : ∃ P, s.rep.ps.length = P := ⟨_, rfl⟩
  rw [hna] at ha ⊢
  rw [hP] at hz2 ⊢
  have HP := Lib.hid hP
  have HNA := Lib.hid hna
  clear hna hP
  have KA : ∀ w', Below w.heap.size w w' → InZ w' (.slice A na ca) za := fun w' h => ha.keep h
  have KP : ∀ w', Below w.heap.size w w' → SP w' w'.heap.size (.slice pA P pc) s.rep.ps := fun w' h => (hz2.below h).more h.size
  have cS1 := fun w' (h : Below w.heap.size w w') => small_any _ za w' (KA w' h).arg.sz (KA w' h).pz (KA w' h).fit (KA w' h).len
  have cS2 : ∀ w', Below w.heap.size w w' → Calls Tryd.prog 7 #[.slice (some ⟨w'.heap.size, 0, none⟩) 1 1] (w'.alloc (.cells #[.int .i64 s.client, .int .i64 s.seq, .int .i64 s.rep.code, .int .i64 s.rep.err, .bool s.rep.has, .string s.rep.val, .slice pA P pc] 28)) fun e w2 => (∃ r, e = .returned (.bool r)) ∧ Below w'.heap.size w' w2 := by
    intro w' h
    have h1 : Below w.heap.size w (w'.alloc (.cells #[.int .i64 s.client, .int .i64 s.seq, .int .i64 s.rep.code, .int .i64 s.rep.err, .bool s.rep.has, .string s.rep.val, .slice pA P pc] 28)) := h.alloc h.size _
    have := small_any _ [(s, .slice pA P pc)] _ (argZ_one w' (s, .slice pA P pc)).sz (fun z hz => by simp only [List.mem_singleton] at hz; subst hz; exact KP _ h1) (fun z hz => by simp only [List.mem_singleton] at hz; subst hz; exact fz) (by simp)
    refine this.mono ?_
    rintro e w2 ⟨⟨r, rfl, _⟩, b⟩
    exact ⟨⟨r, rfl⟩, ((Below.refl _ w').alloc (Nat.le_refl _) _).trans (b.mono (by simp))⟩
  have cI1 := fun w' (h : Below w.heap.size w w') => ris_any _ za w' (KA w' h).arg.sz (KA w' h).pz (KA w' h).fit (KA w' h).len
  have cL := fun w' (h : Below w.heap.size w w') => live_any w' (hg.below h)
  have BX := BoxS.new w (s, .slice pA P pc)
  have hbx : Below w.heap.size w (w.alloc (.cells #[.int .i64 s.client, .int .i64 s.seq, .int .i64 s.rep.code, .int .i64 s.rep.err, .bool s.rep.has, .string s.rep.val, .slice pA P pc] 28)) := (Below.refl _ w).alloc (Nat.le_refl _) _
  clear ha hz2
  go_enter Tryd.func3, Tryd.ntmps3
  go_wp2_with fail
  refine (cS1 _ hbx).mono ?_
  rintro e w1 ⟨⟨r1, rfl, _⟩, b1⟩
  have B1 := BX.keep b1
  have hb1 := hbx.trans (b1.mono hbx.size)
  clear b1 BX
  cases r1 with
  | false =>
    go_wp2_with fail
    refine (cL _ hb1).mono ?_
    rintro e w2 ⟨rfl, b2⟩
    have hbz := hb1.trans (b2.mono hb1.size)
    clear b2
    go_wp2_with fail
    go_ret
    exact ⟨rfl, hbz⟩
  | true =>
  obtain ⟨p_0, ⟨p_1, p_2, p_3, p_4, p_5, p_6, p_7⟩, p_8⟩ := _root_.id B1
  go_wp2_with fail
  refine (cS2 _ hb1).mono ?_
  rintro e w2 ⟨⟨r2, rfl⟩, b2⟩
  have B2 := B1.keep b2
  have hb2 := hb1.trans (b2.mono hb1.size)
  clear b2 B1
  clear p_0 p_1 p_2 p_3 p_4 p_5 p_6 p_7 p_8
  cases r2 with
  | false =>
    go_wp2_with fail
    refine (cL _ hb2).mono ?_
    rintro e w9 ⟨rfl, b9⟩
    have hbz := (hb2).trans (b9.mono (hb2).size)
    clear b9
    go_wp2_with fail
    go_ret
    exact ⟨rfl, hbz⟩
  | true =>
  have hA : isS (ses za) = true ∨ isS (ses za) = false := by cases isS (ses za) <;> simp
  rcases hA with hA | hA
  rotate_left
  · rw [hA] at cI1
    clear hA B2
    go_wp2_with fail
    refine (cI1 _ hb2).mono ?_
    rintro e w3 ⟨rfl, b3⟩
    have hb3 := hb2.trans (b3.mono hb2.size)
    clear b3
    go_wp2_with fail
    refine (cL _ hb3).mono ?_
    rintro e w9 ⟨rfl, b9⟩
    have hbz := (hb3).trans (b9.mono (hb3).size)
    clear b9
    go_wp2_with fail
    go_ret
    exact ⟨rfl, hbz⟩
  have PA := (KA w (Below.refl _ _)).nop hA
  have la := is_len hA
  have hra := ((isS_iff _).1 hA).2
  have KO := fun w' (h : Below w.heap.size w w') => own_any _ za w' (KA w' h).arg (KA w' h).one (by omega)
  have cF := fun v w' (h : ArgZ w' v za) => find_any v za c w' h.sz hra PA (by omega)
  have cF2 := fun w' (h : Below w.heap.size w w') => rfind_any _ za c w' (KA w' h).arg.sz PA (by omega)
  have cA := fun v w' (h : ArgZ w' v za) => ask_any v za c q w' h.sz hra PA (by omega)
  have cA2 := fun w' (h : Below w.heap.size w w') => rask_any _ za c q w' (KA w' h).arg.sz PA (by omega)
  have cN := fun v w' (h : ArgZ w' v za) (h2 : Below w.heap.size w w') => note_any v za s (.slice pA P pc) w' h.sz PA (by omega) (KP w' h2) fz
  have cN2 := fun w' (h2 : Below w.heap.size w w') => rnote_any _ za s (.slice pA P pc) w' (KA w' h2).arg PA (by omega) (KP w' h2) fz
  have hfp := opt_nop PA c
  have hap := ask_nop PA c q
  have hnl := note_len (ses za) s
  obtain ⟨ff, hff⟩ : ∃ x, optS (findS c (ses za)) = x := ⟨_, rfl⟩
  obtain ⟨fs, fb⟩ := ff
  unfold FoundZ at cF cF2
  simp only [hff] at cF cF2 hfp
  obtain ⟨aa, haa⟩ : ∃ x, askS (ses za) c q = x := ⟨_, rfl⟩
  obtain ⟨ar, ab⟩ := aa
  unfold AskedZ at cA cA2
  simp only [haa] at cA cA2 hap
  obtain ⟨nn, hnn⟩ : ∃ x, noteS (ses za) s = x := ⟨_, rfl⟩
  obtain ⟨nl, ne⟩ := nn
  simp only [hnn] at cN cN2 hnl
  rw [hA] at cI1
  have HFP := Lib.hid hfp
  have HAP := Lib.hid hap
  have HNL := Lib.hid hnl
  clear hA PA la hra hff haa hnn hfp hap hnl cS1 cS2 KP
  go_wp2_with fail
  refine (cI1 _ hb2).mono ?_
  rintro e w3 ⟨rfl, b3⟩
  have B3 := B2.keep b3
  have hb3 := hb2.trans (b3.mono hb2.size)
  clear b3 B2
  go_wp2_with fail
  refine (KO _ hb3).mono ?_
  rintro e w4 ⟨v4, rfl, a4, b4⟩
  have B4 := B3.keep b4
  have hb4 := hb3.trans (b4.mono hb3.size)
  clear b4 B3
  go_wp2_with fail
  refine (cF _ _ a4).mono ?_
  rintro e w5 ⟨⟨A5, c5, rfl⟩, b5⟩
  have B5 := (B4.keep b5).alloc (.cells #[.int .i64 fs.client, .int .i64 fs.seq, .int .i64 fs.rep.code, .int .i64 fs.rep.err, .bool fs.rep.has, .string fs.rep.val, .slice A5 0 c5] 28)
  have C5 := BoxS.new w5 (fs, .slice A5 0 c5)
  have hb5 := hb4.trans (b5.mono hb4.size)
  have hb5' : Below w.heap.size w (w5.alloc (.cells #[.int .i64 fs.client, .int .i64 fs.seq, .int .i64 fs.rep.code, .int .i64 fs.rep.err, .bool fs.rep.has, .string fs.rep.val, .slice A5 0 c5] 28)) := hb5.alloc hb5.size _
  clear b5 a4 B4
  go_wp2_with fail
  refine (cF2 _ hb5').mono ?_
  rintro e w6 ⟨⟨A6, c6, rfl⟩, b6⟩
  have B6 := (B5.keep b6).alloc (.cells #[.int .i64 fs.client, .int .i64 fs.seq, .int .i64 fs.rep.code, .int .i64 fs.rep.err, .bool fs.rep.has, .string fs.rep.val, .slice A6 0 c6] 28)
  have C6 := (C5.keep b6).alloc (.cells #[.int .i64 fs.client, .int .i64 fs.seq, .int .i64 fs.rep.code, .int .i64 fs.rep.err, .bool fs.rep.has, .string fs.rep.val, .slice A6 0 c6] 28)
  have D6 := BoxS.new w6 (fs, .slice A6 0 c6)
  have hb6 := hb5'.trans (b6.mono hb5'.size)
  have hb6' : Below w.heap.size w (w6.alloc (.cells #[.int .i64 fs.client, .int .i64 fs.seq, .int .i64 fs.rep.code, .int .i64 fs.rep.err, .bool fs.rep.has, .string fs.rep.val, .slice A6 0 c6] 28)) := hb6.alloc hb6.size _
  clear b6 B5 C5
  go_wp2_with fail
  refine (KO _ hb6').mono ?_
  rintro e w7 ⟨v7, rfl, a7, b7⟩
  have B7 := B6.keep b7
  have C7 := C6.keep b7
  have D7 := D6.keep b7
  have hb7 := hb6'.trans (b7.mono hb6'.size)
  clear b7 B6 C6 D6
  go_wp2_with fail
  refine (cA _ _ a7).mono ?_
  rintro e w8 ⟨⟨A8, c8, rfl⟩, b8⟩
  have B8 := (B7.keep b8).alloc (.cells #[.int .i64 ar.code, .int .i64 ar.err, .bool ar.has, .string ar.val, .slice A8 0 c8] 26)
  have C8 := (C7.keep b8).alloc (.cells #[.int .i64 ar.code, .int .i64 ar.err, .bool ar.has, .string ar.val, .slice A8 0 c8] 26)
  have D8 := (D7.keep b8).alloc (.cells #[.int .i64 ar.code, .int .i64 ar.err, .bool ar.has, .string ar.val, .slice A8 0 c8] 26)
  have E8 := BoxR.new w8 ar (.slice A8 0 c8)
  have hb8 := hb7.trans (b8.mono hb7.size)
  have hb8' : Below w.heap.size w (w8.alloc (.cells #[.int .i64 ar.code, .int .i64 ar.err, .bool ar.has, .string ar.val, .slice A8 0 c8] 26)) := hb8.alloc hb8.size _
  clear b8 a7 B7 C7 D7
  go_wp2_with fail
  refine (cA2 _ hb8').mono ?_
  rintro e w9 ⟨⟨A9, c9, rfl⟩, b9⟩
  have B9 := (B8.keep b9).alloc (.cells #[.int .i64 ar.code, .int .i64 ar.err, .bool ar.has, .string ar.val, .slice A9 0 c9] 26)
  have C9 := (C8.keep b9).alloc (.cells #[.int .i64 ar.code, .int .i64 ar.err, .bool ar.has, .string ar.val, .slice A9 0 c9] 26)
  have D9 := (D8.keep b9).alloc (.cells #[.int .i64 ar.code, .int .i64 ar.err, .bool ar.has, .string ar.val, .slice A9 0 c9] 26)
  have E9 := (E8.keep b9).alloc (.cells #[.int .i64 ar.code, .int .i64 ar.err, .bool ar.has, .string ar.val, .slice A9 0 c9] 26)
  have F9 := BoxR.new w9 ar (.slice A9 0 c9)
  have hb9 := hb8'.trans (b9.mono hb8'.size)
  obtain ⟨W, hW⟩ : ∃ W, w9.alloc (.cells #[.int .i64 ar.code, .int .i64 ar.err, .bool ar.has, .string ar.val, .slice A9 0 c9] 26) = W := ⟨_, rfl⟩
  have hbW : Below w.heap.size w W := by rw [← hW]; exact hb9.alloc hb9.size _
  rw [hW] at B9 C9 D9 E9 F9
  have hzW := hbW.size
  clear b9 B8 C8 D8 E8
  go_wp2_with fail
  try rw [hW]
  clear hW
  refine St.wp_region_mixed (RN7 W za nl ne) (fun k x => match k with | 1 => ∃ A' c', x = .slice A' na c' | _ => ∃ A' k' c', x = .tuple #[.slice A' k' c', .int .i64 ne]) (by kernel_rfl) (by kernel_rfl) (by kernel_rfl) ⟨(Below.refl _ W).drew, fun h => (by cases h), fun h => (by cases h)⟩ ?_
  apply St.mix_give
  · rfl
  · intro L u' wx hS hcl hrd hag
    go_simp
    try with_reducible rfl
  · exact fun L u' wx hS => ⟨hS.lo, hS.own, hS.note⟩
  simp only [Act.put, List.setIfInBounds_toArray, List.set_cons_zero, List.set_cons_succ]
  refine St.mix_call (f := 11) (args := #[.slice A na ca]) rfl ?_ ?_ ?_
  · intro wx
    go_simp
    try with_reducible rfl
  · intro L u' wx hS hcl hrd hag
    have h3 := St.not_yet hcl hrd 40 3 (by kernel_rfl)
    refine (KO wx (hbW.trans (hS.lo.mono hzW))).mono ?_
    rintro e w' ⟨v', rfl, a', b'⟩
    obtain ⟨A', c', hv'⟩ := a'.form
    rw [HNA.out] at hv'
    exact ⟨v', rfl, ⟨A', c', hv'⟩, ⟨hS.lo.trans (b'.mono hS.lo.size), fun _ _ => (show ArgZ w' (St.upd u' 1 v' 1) za from a'), fun h => (by rw [show St.mark L 1 3 = L 3 from rfl, h3] at h; cases h)⟩⟩
  rintro _ ⟨Ao, co, rfl⟩
  simp only [Act.put, List.setIfInBounds_toArray, List.set_cons_zero, List.set_cons_succ]
  apply St.mix_give
  · rfl
  · intro L u' wx hS hcl hrd hag
    obtain ⟨p_0, ⟨p_1, p_2, p_3, p_4, p_5, p_6, p_7⟩, p_8⟩ := B9.keep hS.lo
    go_simp
    try with_reducible rfl
  · exact fun L u' wx hS => ⟨hS.lo, hS.own, hS.note⟩
  simp only [Act.put, List.setIfInBounds_toArray, List.set_cons_zero, List.set_cons_succ]
  refine St.mix_call (f := 15) (args := #[.slice Ao na co, sv (s, .slice pA P pc)]) rfl ?_ ?_ ?_
  · intro wx
    go_simp
    try with_reducible rfl
  · intro L u' wx hS hcl hrd hag
    have h1 := St.before_ready hcl hrd 40 1 (by kernel_rfl)
    have ho := hS.own h1 hrd.1
    rw [show u' 1 = .slice Ao na co from hag 40 1 (by kernel_rfl)] at ho
    refine (cN _ wx ho (hbW.trans (hS.lo.mono hzW))).mono ?_
    rintro e w' ⟨v', zs', rfl, hs', ha', hp', hb'⟩
    obtain ⟨A', c', rfl⟩ := ha'.form
    exact ⟨_, rfl, ⟨A', _, c', rfl⟩, ⟨hS.lo.trans (hb'.mono hS.lo.size), fun _ h => (by simp [St.mark] at h), fun _ => ⟨zs', A', c', rfl, hs', hp', ha'⟩⟩⟩
  rintro _ ⟨An, kn, cn, rfl⟩
  simp only [Act.put, List.setIfInBounds_toArray, List.set_cons_zero, List.set_cons_succ]
  apply St.mix_give
  · rfl
  · intro L u' wx hS hcl hrd hag
    go_simp
    try with_reducible rfl
  · exact fun L u' wx hS => ⟨hS.lo, hS.own, hS.note⟩
  simp only [Act.put, List.setIfInBounds_toArray, List.set_cons_zero, List.set_cons_succ]
  apply St.mix_give
  · rfl
  · intro L u' wx hS hcl hrd hag
    go_simp
    try with_reducible rfl
  · exact fun L u' wx hS => ⟨hS.lo, hS.own, hS.note⟩
  simp only [Act.put, List.setIfInBounds_toArray, List.set_cons_zero, List.set_cons_succ]
  apply St.mix_give
  · rfl
  · intro L u' wx hS hcl hrd hag
    go_simp
    try with_reducible rfl
  · exact fun L u' wx hS => ⟨hS.lo, hS.own, hS.note⟩
  simp only [Act.put, List.setIfInBounds_toArray, List.set_cons_zero, List.set_cons_succ]
  apply St.mix_give
  · rfl
  · intro L u' wx hS hcl hrd hag
    go_simp
    try with_reducible rfl
  · exact fun L u' wx hS => ⟨hS.lo, hS.own, hS.note⟩
  simp only [Act.put, List.setIfInBounds_toArray, List.set_cons_zero, List.set_cons_succ]
  apply St.mix_give
  · rfl
  · intro L u' wx hS hcl hrd hag
    go_simp
    try with_reducible rfl
  · exact fun L u' wx hS => ⟨hS.lo, hS.own, hS.note⟩
  simp only [Act.put, List.setIfInBounds_toArray, List.set_cons_zero, List.set_cons_succ]
  refine St.mix_last ?_
  intro L w10 hS hall
  obtain ⟨zn, A', c', hu, hsn, hpn, han⟩ := hS.note (hall 3 (by decide))
  have hu' : Value.tuple #[.slice An kn cn, .int .i64 ne] = .tuple #[.slice A' zn.length c', .int .i64 ne] := hu
  injection hu' with hu'
  have hu2 : Value.slice An kn cn = .slice A' zn.length c' := by simpa using hu'
  injection hu2 with hu3 hu4 hu5
  subst hu3 hu4 hu5
  have B10 := B9.keep hS.lo
  have C10 := C9.keep hS.lo
  have D10 := D9.keep hS.lo
  have E10 := E9.keep hS.lo
  have F10 := F9.keep hS.lo
  have hb10 : Below w.heap.size w w10 := hbW.trans (hS.lo.mono hzW)
  have HSN := Lib.hid hsn
  have hln : zn.length ≤ 64 := by have := congrArg List.length hsn; simp only [List.length_map] at this; have := HNL.out; omega
  have KN : ∀ w', Below w10.heap.size w10 w' → ArgZ w' (.slice An zn.length cn) zn := fun w' h => han.keep h
  obtain ⟨kn, hkn⟩ : ∃ k, zn.length = k := ⟨_, rfl⟩
  rw [hkn] at KN hln ⊢
  have HKN := Lib.hid hkn
  have hz10 := hb10.size
  clear hS hall hu hu' hsn han hkn B9 C9 D9 E9 F9 hbW hzW
  obtain ⟨p_0, ⟨p_1, p_2, p_3, p_4, p_5, p_6, p_7⟩, p_8⟩ := _root_.id B10
  go_wp2_with fail
  refine (cN2 _ hb10).mono ?_
  rintro e w11 ⟨v11, z11, rfl, hs11, a11, p11, b11⟩
  obtain ⟨A11, c11, hv11⟩ := a11.form
  have hl11 : z11.length ≤ 64 := by have := congrArg List.length hs11; simp only [List.length_map] at this; have := HNL.out; omega
  have HS11 := Lib.hid hs11
  have K11 : ∀ w', Below w11.heap.size w11 w' → ArgZ w' v11 z11 := fun w' h => a11.keep h
  have KN11 : ∀ w', Below w11.heap.size w11 w' → ArgZ w' (.slice An kn cn) zn := fun w' h => KN w' (b11.trans (h.mono b11.size))
  have C11 := C10.keep b11
  have D11 := D10.keep b11
  have E11 := E10.keep b11
  have F11 := F10.keep b11
  have hb11 := hb10.trans (b11.mono hz10)
  have HV11 := Lib.hid hv11
  clear p_0 p_1 p_2 p_3 p_4 p_5 p_6 p_7 p_8
  clear b11 hs11 a11 hv11 B10 C10 D10 E10 F10 KN
  have hz11 := hb11.size
  obtain ⟨W2, hW2⟩ : ∃ W2, (w11.alloc (.cells #[.int .i64 fs.client, .int .i64 fs.seq, .int .i64 fs.rep.code, .int .i64 fs.rep.err, .bool fs.rep.has, .string fs.rep.val, .slice A5 0 c5] 28)).alloc (.cells #[.int .i64 fs.client, .int .i64 fs.seq, .int .i64 fs.rep.code, .int .i64 fs.rep.err, .bool fs.rep.has, .string fs.rep.val, .slice A6 0 c6] 28) = W2 := ⟨_, rfl⟩
  have hx1 := ((argZ_one w11 (fs, .slice A5 0 c5)).keep ((Below.refl _ _).alloc (Nat.le_refl _) (.cells #[.int .i64 fs.client, .int .i64 fs.seq, .int .i64 fs.rep.code, .int .i64 fs.rep.err, .bool fs.rep.has, .string fs.rep.val, .slice A6 0 c6] 28)))
  have hx2 := argZ_one (w11.alloc (.cells #[.int .i64 fs.client, .int .i64 fs.seq, .int .i64 fs.rep.code, .int .i64 fs.rep.err, .bool fs.rep.has, .string fs.rep.val, .slice A5 0 c5] 28)) (fs, .slice A6 0 c6)
  rw [World.size_alloc] at hx2
  have bW2 : Below w11.heap.size w11 W2 := by rw [← hW2]; exact ((Below.refl _ _).alloc (Nat.le_refl _) _).alloc (by simp) _
  have E12 := E11.keep bW2
  have F12 := F11.keep bW2
  have hbW2 := hb11.trans (bW2.mono hz11)
  have cE1 : Calls Tryd.prog 17 #[.slice (some ⟨w11.heap.size, 0, none⟩) 1 1, .slice (some ⟨w11.heap.size + 1, 0, none⟩) 1 1] W2 fun e w' => e = .returned (.bool true) ∧ Below W2.heap.size W2 w' := by
    rw [← hW2]
    exact rsame_yes _ _ [(fs, .slice A5 0 c5)] [(fs, .slice A6 0 c6)] _ hx1.sz hx2.sz (NoP.single HFP.out) (NoP.single HFP.out) rfl (by simp)
  have cE2 := fun w' (h : Below w11.heap.size w11 w') => rsame_yes _ _ zn z11 w' (KN11 w' h).sz (K11 w' h).sz hpn p11 (HSN.out.trans HS11.out.symm) (by have := HKN.out; omega)
  have cO : ∀ w', Calls Tryd.prog 18 #[rv ar (.slice A8 0 c8), rv ar (.slice A9 0 c9)] w' fun e w2 => e = .returned (.bool true) ∧ Below w'.heap.size w' w2 := fun w' => by
    have h := HAP.out
    have := rsameR_any ar ar (.slice A8 0 c8) (.slice A9 0 c9) w' (by rw [h]; exact ⟨_, _, rfl, fun h => absurd h (by simp)⟩) (by rw [h]; exact ⟨_, _, rfl, fun h => absurd h (by simp)⟩) (by rw [h]; simp) (by rw [h]; simp)
    rw [(Od.sameR_iff ar ar).2 rfl] at this
    exact this
  clear hx1 hx2 E11 F11 KN11 K11
  obtain ⟨p_0, ⟨p_1, p_2, p_3, p_4, p_5, p_6, p_7⟩, p_8⟩ := _root_.id C11
  obtain ⟨q_0, ⟨q_1, q_2, q_3, q_4, q_5, q_6, q_7⟩, q_8⟩ := _root_.id D11
  go_wp2_with fail
  try rw [hW2]
  refine cE1.mono ?_
  rintro e w12 ⟨rfl, b12⟩
  have E13 := E12.keep b12
  have F13 := F12.keep b12
  have hb12 := hbW2.trans (b12.mono hbW2.size)
  have hb12' : Below w11.heap.size w11 w12 := bW2.trans (b12.mono bW2.size)
  clear p_0 p_1 p_2 p_3 p_4 p_5 p_6 p_7 p_8
  clear q_0 q_1 q_2 q_3 q_4 q_5 q_6 q_7 q_8
  clear b12 E12 F12 cE1 hW2 C11 D11
  obtain ⟨p_0, ⟨p_1, p_2, p_3, p_4, p_5⟩, p_6⟩ := _root_.id E13
  obtain ⟨q_0, ⟨q_1, q_2, q_3, q_4, q_5⟩, q_6⟩ := _root_.id F13
  go_wp2_with fail
  refine (cO _).mono ?_
  rintro e w13 ⟨rfl, b13⟩
  have hb13 := hb12.trans (b13.mono hb12.size)
  have hb13' := hb12'.trans (b13.mono hb12'.size)
  clear p_0 p_1 p_2 p_3 p_4 p_5 p_6
  clear q_0 q_1 q_2 q_3 q_4 q_5 q_6
  clear b13 E13 F13
  go_wp2_with fail
  refine (cE2 _ hb13').mono ?_
  rintro e w14 ⟨rfl, b14⟩
  have hb14 := hb13.trans (b14.mono hb13.size)
  clear b14
  go_wp2_with fail
  refine (num_any _ _).mono ?_
  rintro e w' ⟨rfl, rfl⟩
  go_wp2_with fail
  refine (cL _ hb14).mono ?_
  rintro e w15 ⟨rfl, b15⟩
  have hbz := hb14.trans (b15.mono hb14.size)
  clear b15
  go_wp2_with fail
  go_ret
  exact ⟨rfl, hbz⟩
end Go.Proofs.YticikmkehobblaaDoor.Ss

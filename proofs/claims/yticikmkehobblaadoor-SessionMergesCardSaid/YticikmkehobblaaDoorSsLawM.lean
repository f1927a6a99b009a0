/-
  SessionMerges, walked. Conditions: lengths at most 2^47; the library's variables hold what their types allow.
-/
import Derived.Test.YticikmkehobblaaDoorSsLive
import Derived.Test.YticikmkehobblaaDoorSsPSA
import Derived.Test.YticikmkehobblaaDoorSsRNote
namespace Go.Proofs.YticikmkehobblaaDoor.Ss
open Go.RowKit Bnd
open Go.Proofs.YticikmkehobblaaDoor.Od (Rep SP ArgP OwnP rv BoxR)

theorem merge_len (a b : List Ses) : (mergeS a b).1.length ≤ 64 := by
  rcases merge_cases a b with ⟨h, e⟩ | e
  · rw [e]; exact h
  · rw [e]; simp
/-- a list of sessions that comes in, kept through a law -/
structure InZ (w : World) (v : Value) (zs : List Zs) : Prop where
  arg : ArgZ w v zs
  pz : PZ w w.heap.size zs
  fit : ∀ z ∈ zs, FitZ z.1
  len : zs.length ≤ 140737488355328
theorem InZ.keep {w w' : World} {v : Value} {zs : List Zs} (h : InZ w v zs) (hb : Below w.heap.size w w') : InZ w' v zs := ⟨h.arg.keep hb, (h.pz.below hb).more hb.size, h.fit, h.len⟩
theorem InZ.nop {w : World} {v : Value} {zs : List Zs} (h : InZ w v zs) (hs : isS (ses zs) = true) : NoP zs := h.pz.nop fun s hs' => fits_ps (rise_mem ((isS_iff _).1 hs).2 s hs').2
theorem InZ.one {w : World} {v : Value} {zs : List Zs} (h : InZ w v zs) : ∀ z ∈ zs, z.2.oneCell' = true := h.pz.one
theorem is_len {zs : List Zs} (hs : isS (ses zs) = true) : zs.length ≤ 64 := by have := ((isS_iff _).1 hs).1; simpa using this

set_option maxHeartbeats 16000000 in
set_option maxRecDepth 100000 in
theorem merges_walk (va vb : Value) (za zb : List Zs) (w : World) (ha : InZ w va za) (hb : InZ w vb zb) (hg : Good w) :
    Calls Tryd.prog 4 #[va, vb] w fun e w' => e = .returned (.bool true) ∧ Below w.heap.size w w' := by
  obtain ⟨A, ca, rfl⟩ := ha.arg.form
  obtain ⟨D, cb, rfl⟩ := hb.arg.form
  obtain ⟨na, hna⟩ : ∃ n, za.length = n := ⟨_, rfl⟩
  obtain ⟨nb, hnb⟩ : ∃ n, zb.length = n := ⟨_, rfl⟩
  rw [hna] at ha ⊢
  rw [hnb] at hb ⊢
  clear hna hnb
  have KA : ∀ w', Below w.heap.size w w' → InZ w' (.slice A na ca) za := fun w' h => ha.keep h
  have KB : ∀ w', Below w.heap.size w w' → InZ w' (.slice D nb cb) zb := fun w' h => hb.keep h
  have cS1 := fun w' (h : Below w.heap.size w w') => small_any _ za w' (KA w' h).arg.sz (KA w' h).pz (KA w' h).fit (KA w' h).len
  have cS2 := fun w' (h : Below w.heap.size w w') => small_any _ zb w' (KB w' h).arg.sz (KB w' h).pz (KB w' h).fit (KB w' h).len
  have cI1 := fun w' (h : Below w.heap.size w w') => ris_any _ za w' (KA w' h).arg.sz (KA w' h).pz (KA w' h).fit (KA w' h).len
  have cI2 := fun w' (h : Below w.heap.size w w') => ris_any _ zb w' (KB w' h).arg.sz (KB w' h).pz (KB w' h).fit (KB w' h).len
  have cL := fun w' (h : Below w.heap.size w w') => live_any w' (hg.below h)
  clear ha hb
  go_enter Tryd.func4, Tryd.ntmps4
  go_wp2_with fail
  refine (cS1 _ (Below.refl _ _)).mono ?_
  rintro e w1 ⟨⟨r1, rfl, _⟩, b1⟩
  cases r1 with
  | false =>
    go_wp2_with fail
    refine (cL _ b1).mono ?_
    rintro e w2 ⟨rfl, b2⟩
    have hbz := b1.trans (b2.mono b1.size)
    clear b2
    go_wp2_with fail
    go_ret
    exact ⟨rfl, hbz⟩
  | true =>
  go_wp2_with fail
  refine (cS2 _ b1).mono ?_
  rintro e w2 ⟨⟨r2, rfl, _⟩, b2⟩
  have hb2 := b1.trans (b2.mono b1.size)
  clear b2
  cases r2 with
  | false =>
    go_wp2_with fail
    refine (cL _ hb2).mono ?_
    rintro e w3 ⟨rfl, b3⟩
    have hbz := hb2.trans (b3.mono hb2.size)
    clear b3
    go_wp2_with fail
    go_ret
    exact ⟨rfl, hbz⟩
  | true =>
  have hA : isS (ses za) = true ∨ isS (ses za) = false := by cases isS (ses za) <;> simp
  have hB : isS (ses zb) = true ∨ isS (ses zb) = false := by cases isS (ses zb) <;> simp
  rcases hA with hA | hA
  rotate_left
  · rw [hA] at cI1
    clear hA hB
    go_wp2_with fail
    refine (cI1 _ hb2).mono ?_
    rintro e w3 ⟨rfl, b3⟩
    have hb3 := hb2.trans (b3.mono hb2.size)
    clear b3
    go_wp2_with fail
    refine (cL _ hb3).mono ?_
    rintro e w4 ⟨rfl, b4⟩
    have hbz := hb3.trans (b4.mono hb3.size)
    clear b4
    go_wp2_with fail
    go_ret
    exact ⟨rfl, hbz⟩
  rcases hB with hB | hB
  rotate_left
  · rw [hA] at cI1
    rw [hB] at cI2
    clear hA hB
    go_wp2_with fail
    refine (cI1 _ hb2).mono ?_
    rintro e w3 ⟨rfl, b3⟩
    have hb3 := hb2.trans (b3.mono hb2.size)
    clear b3
    go_wp2_with fail
    refine (cI2 _ hb3).mono ?_
    rintro e w4 ⟨rfl, b4⟩
    have hb4 := hb3.trans (b4.mono hb3.size)
    clear b4
    go_wp2_with fail
    refine (cL _ hb4).mono ?_
    rintro e w5 ⟨rfl, b5⟩
    have hbz := hb4.trans (b5.mono hb4.size)
    clear b5
    go_wp2_with fail
    go_ret
    exact ⟨rfl, hbz⟩
  have PA := (KA w (Below.refl _ _)).nop hA
  have PB := (KB w (Below.refl _ _)).nop hB
  have la := is_len hA
  have lb := is_len hB
  have hrb := ((isS_iff _).1 hB).2
  have cO1 := fun w' (h : Below w.heap.size w w') => own_any _ za w' (KA w' h).arg (KA w' h).one (by omega)
  have cO2 := fun w' (h : Below w.heap.size w w') => own_any _ zb w' (KB w' h).arg (KB w' h).one (by omega)
  have cM := fun va vb w' (h1 : ArgZ w' va za) (h2 : ArgZ w' vb zb) => merge_any va vb za zb w' h1.sz h2.sz PA PB (by omega) (by omega)
  have cR := fun w' (h : Below w.heap.size w w') => rmerge_any _ _ za zb w' (KA w' h).arg (KB w' h).arg.sz PA PB (by omega) (by omega) hrb
  have hln := merge_len (ses za) (ses zb)
  obtain ⟨ans, hans⟩ : ∃ q, mergeS (ses za) (ses zb) = q := ⟨_, rfl⟩
  obtain ⟨l, n⟩ := ans
  rw [hans] at cM cR hln
  rw [hA] at cI1
  rw [hB] at cI2
  clear hA hB PA PB la lb hrb hans KA KB cS1 cS2
  go_wp2_with fail
  refine (cI1 _ hb2).mono ?_
  rintro e w3 ⟨rfl, b3⟩
  have hb3 := hb2.trans (b3.mono hb2.size)
  clear b3
  go_wp2_with fail
  refine (cI2 _ hb3).mono ?_
  rintro e w4 ⟨rfl, b4⟩
  have hb4 := hb3.trans (b4.mono hb3.size)
  clear b4
  go_wp2_with fail
  refine (cO1 _ hb4).mono ?_
  rintro e w5 ⟨v5, rfl, a5, b5⟩
  have hb5 := hb4.trans (b5.mono hb4.size)
  clear b5
  go_wp2_with fail
  refine (cO2 _ hb5).mono ?_
  rintro e w6 ⟨v6, rfl, a6, b6⟩
  have hb6 := hb5.trans (b6.mono hb5.size)
  have a5' := a5.keep b6
  clear b6 a5
  go_wp2_with fail
  refine (cM _ _ _ a5' a6).mono ?_
  rintro e w7 ⟨v7, z7, rfl, hs7, a7, p7, b7⟩
  have hb7 := hb6.trans (b7.mono hb6.size)
  clear b7 a5' a6
  obtain ⟨A7, c7, hv7⟩ := a7.form
  have HV7 := Lib.hid hv7
  have HS7 := Lib.hid hs7
  clear hs7 hv7
  go_wp2_with fail
  refine (cR _ hb7).mono ?_
  rintro e w8 ⟨v8, z8, rfl, hs8, a8, p8, b8⟩
  have hb8 := hb7.trans (b8.mono hb7.size)
  have a7' := a7.keep b8
  have HS8 := Lib.hid hs8
  have hl7 : z7.length ≤ 1000000 := by have := congrArg List.length HS7.out; simp only [List.length_map] at this hln; omega
  have cE := fun w' (h : Below w8.heap.size w8 w') => rsame_yes _ _ z7 z8 w' (a7'.keep h).sz (a8.keep h).sz p7 p8 (HS7.out.trans HS8.out.symm) hl7
  clear b8 a7 hs8
  go_wp2_with fail
  refine (cE _ (Below.refl _ _)).mono ?_
  rintro e w9 ⟨rfl, b9⟩
  have hb9 := hb8.trans (b9.mono hb8.size)
  clear b9
  go_wp2_with fail
  refine (num_any _ _).mono ?_
  rintro e w' ⟨rfl, rfl⟩
  go_wp2_with fail
  refine (cL _ hb9).mono ?_
  rintro e w10 ⟨rfl, b10⟩
  have hbz := hb9.trans (b10.mono hb9.size)
  clear b10
  go_wp2_with fail
  go_ret
  exact ⟨rfl, hbz⟩
end Go.Proofs.YticikmkehobblaaDoor.Ss

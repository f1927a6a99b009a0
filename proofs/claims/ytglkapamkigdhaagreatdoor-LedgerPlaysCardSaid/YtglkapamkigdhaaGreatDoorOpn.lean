/-
  The program's Open, told of the model. Conditions: what may be of a reel; the library's variables hold what their types allow; fewer than 2^62 operations.
-/
import Derived.Test.YtglkapamkigdhaaGreatDoorOpenL
namespace Go.Proofs.YtglkapamkigdhaaGreatDoor.Rl
open Go.RowKit
open Go.Proofs.YtglkapamkigdhaaGreatDoor.M (pageT kBase kRec inR tellT tell_len scanT)

theorem tell_zero {s : Text} (h : (tellT s).1 = 0) : tellT s = (0, [], [], 0) := by
  unfold tellT scanT at *
  split
  · rename_i n b r hh
    rw [hh] at h
    simp only at h
    split
    · rename_i hn
      rw [if_pos hn] at h
      simp only [Option.getD_some] at h
      omega
    · rfl
  · rfl
theorem beginM_zero (l : Lg) (m : M) (z0 z1 : Nat) (h : (beginM l m z0 z1).1 = 0) : (beginM l m z0 z1).2.1 = { l with epoch := 1 } := by
  unfold beginM at *
  split
  · rename_i h1; rw [if_pos h1] at h; exact absurd h h1
  · rename_i h1
    rw [if_neg h1] at h
    split
    · rename_i h2; rw [if_pos h2] at h; exact absurd h h2
    · rename_i h2
      rw [if_neg h2] at h
      exact putM_keep _ _ _ _ h

set_option maxHeartbeats 16000000 in
set_option maxRecDepth 100000 in
theorem open_begin {b : Nat} {m : M} {w : World} (hr : RP b m w) (ho : m.off = false) (hm : m.ok) (hops : m.ops < 4611686018427387890) (hg : Good w) (h0 : (tellT m.a.s).1 = 0) (h1 : (tellT m.b.s).1 = 0) :
    Calls Tryz.prog 10 #[ptr b] w fun e w' => OpenOut (openM m) b w e w' := by
  have cb := both_on hr ho hm hg
  have t0 := tell_zero h0
  have t1 := tell_zero h1
  have hM := openM_begin ho h0 h1 hm
  rw [t0, t1] at cb
  obtain ⟨R, hR⟩ : ∃ R, beginM ⟨0, 0, 0, false⟩ m m.a.s.length m.b.s.length = R := ⟨_, rfl⟩
  have hl1 : R.1 = 0 → R.2.1 = ⟨0, 1, 0, false⟩ := by rw [← hR]; exact beginM_zero _ _ _ _
  rw [hR] at hM
  rw [hM]
  have cc := fun (w2 : World) (b0 b1 : ByteArray) (A0 A1 : Option Addr) (n0 n1 : Nat) q (h : LP q b ⟨0, 0, 0, false⟩ w2) (hr : RP b m w2) => l_begin 0 0 0 0 m.a.s.length m.b.s.length b0 b1 (.slice A0 0 n0) (.slice A1 0 n1) h hr hm hops ⟨_, _, _, rfl⟩ ⟨_, _, _, rfl⟩
  rw [hR] at cc
  clear hR hM
  have walk : ∀ O, O = (if R.1 = 0 then (0, some (⟨0, 1, 0, false⟩, [], []), R.2.2) else (R.1, none, R.2.2)) → Calls Tryz.prog 10 #[ptr b] w fun e w' => OpenOut O b w e w' := by
   intro O hO
   go_enter Tryz.func10, Tryz.ntmps10
   go_wp2_with fail
   refine cb.mono ?_
   rintro e w1 ⟨b0, rv0, ss0, b1, rv1, ss1, rfl, ⟨hb0, hs0, hS0⟩, ⟨hb1, hs1, hS1⟩, B1⟩
   obtain ⟨A0, n0, rfl⟩ := hS0.form
   obtain ⟨A1, n1, rfl⟩ := hS1.form
   have hr1 := hr.below B1
   obtain rfl : ss0 = [] := by cases ss0 with
     | nil => rfl
     | cons x l => simp [texts] at hs0
   obtain rfl : ss1 = [] := by cases ss1 with
     | nil => rfl
     | cons x l => simp [texts] at hs1
   simp only [List.length_nil]
   have hT := heap_alloc_new w1 (.cells #[.int .i64 0, .string b0, .slice A0 0 n0, .int .i64 0, .int .i64 m.a.s.length, .int .i64 0, .string b1, .slice A1 0 n1, .int .i64 0, .int .i64 m.b.s.length] 71)
   obtain ⟨V, hV⟩ : ∃ V, V = w1.alloc (.cells #[.int .i64 0, .string b0, .slice A0 0 n0, .int .i64 0, .int .i64 m.a.s.length, .int .i64 0, .string b1, .slice A1 0 n1, .int .i64 0, .int .i64 m.b.s.length] 71) := ⟨_, rfl⟩
   rw [← hV] at hT
   have hVs : V.heap.size = w1.heap.size + 1 := by rw [hV]; simp
   have BV : Below w.heap.size w V := by rw [hV]; exact B1.alloc B1.size _
   have y1 : ∀ i, V.cell? ⟨w1.heap.size, i, none⟩ = _ := fun i => Lib.cell_of_heap hT i
   have SV : SR w.heap.size (.slice A0 0 n0) [] V := by rw [hV]; exact hS0.below ((Below.refl _ w1).alloc (Nat.le_refl _) _)
   go_wp2_with fail
   rw [← hV]
   refine (newest_any _ _ _ _ _ _ b0 b1 _ _ V).mono ?_
   rintro e w2 ⟨rfl, b2⟩
   rw [if_neg (by omega)]
   have B2 := BV.trans (b2.mono BV.size)
   have T2 := (b2.block w1.heap.size (by omega)).trans hT
   have y2 : ∀ i, w2.cell? ⟨w1.heap.size, i, none⟩ = _ := fun i => Lib.cell_of_heap T2 i
   have hlt2 : w1.heap.size < w2.heap.size := by have := b2.size; omega
   have hblt : b < w2.heap.size := Nat.lt_of_lt_of_le hr.lt B2.size
   obtain ⟨W3, hW3⟩ : ∃ W3, W3 = ((w2.alloc (.cells #[.int .i64 0, .string b0, .slice A0 0 n0, .int .i64 0, .int .i64 m.a.s.length] 70)).alloc (.cells #[ptr b, .int .i64 0, .int .i64 0, .int .i64 0, .bool false] 76)) := ⟨_, rfl⟩
   have B3' : Below w2.heap.size w2 W3 := by rw [hW3]; exact ((Below.refl _ w2).alloc (Nat.le_refl _) _).alloc (by simp) _
   have B3 : Below w.heap.size w W3 := B2.trans (B3'.mono B2.size)
   have hF : W3.heap[w2.heap.size]? = some (.cells #[.int .i64 0, .string b0, .slice A0 0 n0, .int .i64 0, .int .i64 m.a.s.length] 70 (0, 0)) := by rw [hW3, Below.heap_alloc _ _ _ (by simp)]; exact heap_alloc_new w2 _
   have hLd : LP (w2.heap.size + 1) b ⟨0, 0, 0, false⟩ W3 := by
     have := heap_alloc_new (w2.alloc (.cells #[.int .i64 0, .string b0, .slice A0 0 n0, .int .i64 0, .int .i64 m.a.s.length] 70)) (.cells #[ptr b, .int .i64 0, .int .i64 0, .int .i64 0, .bool false] 76)
     rw [← hW3] at this
     simpa [LP] using this
   have hT3 := (B3'.block w1.heap.size hlt2).trans T2
   have y3 : ∀ i, W3.cell? ⟨w1.heap.size, i, none⟩ = _ := fun i => Lib.cell_of_heap hT3 i
   have y4 : ∀ i, W3.cell? ⟨w2.heap.size, i, none⟩ = _ := fun i => Lib.cell_of_heap hF i
   have hr3 := hr.below B3
   have SW := SV.below b2 |>.below B3'
   have hwq : w.heap.size ≤ w2.heap.size + 1 := by have := B2.size; omega
   clear hV y1 hT BV cb T2 hT3 SV hS0 hS1
   go_wp2_with fail
   rw [← hW3]
   clear hW3
   have cf := cc W3 b0 b1 A0 A1 n0 n1 _ hLd hr3
   refine cf.mono ?_
   rintro e w4 ⟨rfl, L4, r4, f4⟩
   have F4 := f4.other hr3 w2.heap.size _ _ _ hF (by omega) (by omega) (by decide)
   have x4 : ∀ i, w4.cell? ⟨w2.heap.size, i, none⟩ = _ := fun i => Lib.cell_of_heap F4 i
   have S4 := SW.keep (f4.keep9 hr3 hLd)
   have G4 : Fr b w w4 := Fr.of_fl ((FL.of_below (q := w2.heap.size + 1) B3 hr.lt).tr f4) hr.lt hwq
   clear cc cf y2 y3 y4 hF F4 SW f4 hLd hr3 B3 B3' b2
   by_cases hz1 : R.1 = 0
   · rw [if_pos hz1] at hO
     subst hO
     rw [hl1 hz1] at L4
     rw [hz1]
     clear hz1
     go_wp2_with fail
     refine St.wp_region_stage (fun _ wx => wx = w4.drew) (by kernel_rfl) (by kernel_rfl) (by kernel_rfl) rfl ?_
     repeat (first
       | (apply St.step_give
          · rfl
          · intro L wx hS hcl hrd
            subst hS
            go_simp
            try with_reducible rfl
          · exact fun L wx hS => hS
          simp only [Act.put, List.setIfInBounds_toArray, List.set_cons_zero, List.set_cons_succ]))
     refine St.step_last ?_
     intro L wx hS _
     subst hS
     go_wp2_with fail
     refine bodyPost_ret (v := .tuple #[ptr (w2.heap.size + 1), .string b0, .slice A0 0 n0, .int .i64 0]) (by simp [results, Tryz.results10, go_sem]) rfl ⟨r4.drew, G4.drew, w2.heap.size + 1, b0, _, [], rfl, hb0, rfl, ?_, hwq, S4⟩
     exact L4.drew
   · have hz1b : (R.1 != 0) = true := by simpa using hz1
     rw [if_neg hz1] at hO
     subst hO
     clear hz1
     go_wp2_with fail
     exact bodyPost_ret (v := .tuple #[.pointer none, .string ⟨#[]⟩, .slice none 0 0, .int .i64 R.1]) (by simp [results, Tryz.results10, go_sem]) rfl ⟨r4, G4, rfl⟩
  exact walk _ rfl

set_option maxHeartbeats 16000000 in
set_option maxRecDepth 100000 in
theorem open_tidy0 {b : Nat} {m : M} {w : World} (hr : RP b m w) (ho : m.off = false) (hm : m.ok) (hops : m.ops < 4611686018427387890) (hg : Good w) (hl : ¬ (tellT m.a.s).1 < (tellT m.b.s).1) (hz : (tellT m.a.s).1 ≠ 0) :
    Calls Tryz.prog 10 #[ptr b] w fun e w' => OpenOut (openM m) b w e w' := by
  have cb := both_on hr ho hm hg
  have hn0 := tell_len m.a.s
  have hn1 := tell_len m.b.s
  have hM := openM_tidy ho 0 (by rw [if_neg hl]) (hz)
  simp only [show m.get 0 = m.a from rfl, show m.get 1 = m.b from rfl, show (1 : Int) - 0 = 1 from rfl] at hM
  obtain ⟨R, hR⟩ : ∃ R, tidyM m 0 (tellT m.a.s).2.2.2 m.a.s.length m.b.s.length = R := ⟨_, rfl⟩
  rw [hR] at hM
  rw [hM]
  have cc := fun (w2 : World) (E0 E1 : Int) (b0 b1 : ByteArray) (A0 A1 : Option Addr) (s0 s1 n0 n1 q : Nat) (l : Lg) (hlt : l.t = 0) (R1 : Nat) (h : LP q b l w2) (hr : RP b m w2) => tidy0 E0 E1 (tellT m.a.s).2.2.2 R1 m.a.s.length m.b.s.length b0 b1 (.slice A0 s0 n0) (.slice A1 s1 n1) h hlt hr hm hops ⟨_, _, _, rfl⟩ ⟨_, _, _, rfl⟩
  rw [hR] at cc
  clear hR hM
  have walk : ∀ O, O = (if R.1 = 0 then (0, some (⟨0, (tellT m.a.s).1, (tellT m.a.s).2.2.1.length, false⟩, (tellT m.a.s).2.1, (tellT m.a.s).2.2.1), R.2) else (R.1, none, R.2)) → Calls Tryz.prog 10 #[ptr b] w fun e w' => OpenOut O b w e w' := by
   intro O hO
   go_enter Tryz.func10, Tryz.ntmps10
   go_wp2_with fail
   refine cb.mono ?_
   rintro e w1 ⟨b0, rv0, ss0, b1, rv1, ss1, rfl, ⟨hb0, hs0, hS0⟩, ⟨hb1, hs1, hS1⟩, B1⟩
   obtain ⟨A0, n0, rfl⟩ := hS0.form
   obtain ⟨A1, n1, rfl⟩ := hS1.form
   have hr1 := hr.below B1
   have hlen : ss0.length = (tellT m.a.s).2.2.1.length := by rw [← hs0]; simp [texts]
   have HLEN := Lib.hid hlen
   clear hlen
   have HS := Lib.hid hs0
   have HB := Lib.hid hb0
   obtain ⟨E0, hE0⟩ : ∃ E, (tellT m.a.s).1 = E := ⟨_, rfl⟩
   obtain ⟨E1, hE1⟩ : ∃ E, (tellT m.b.s).1 = E := ⟨_, rfl⟩
   obtain ⟨R0, hR0⟩ : ∃ E, (tellT m.a.s).2.2.2 = E := ⟨_, rfl⟩
   obtain ⟨R1, hR1⟩ : ∃ E, (tellT m.b.s).2.2.2 = E := ⟨_, rfl⟩
   have cc' := fun (w2 : World) (A0 A1 : Option Addr) (s0 s1 n0 n1 q : Nat) (l : Lg) (hlt : l.t = 0) (h : LP q b l w2) (hr : RP b m w2) => cc w2 E0 E1 b0 b1 A0 A1 s0 s1 n0 n1 q l hlt R1 h hr
   rw [hE0] at hn0 hz
   rw [hE1] at hn1
   rw [hE0, hE1] at hl
   rw [hR0] at cc'
   simp only [hE0, hE1, hR0, hR1]
   clear cc hs0 hs1 hb0 hb1
   have hez : (E0 == 0) = false := by simpa using hz
   clear hn0 hn1
   have hT := heap_alloc_new w1 (.cells #[.int .i64 E0, .string b0, .slice A0 ss0.length n0, .int .i64 R0, .int .i64 m.a.s.length, .int .i64 E1, .string b1, .slice A1 ss1.length n1, .int .i64 R1, .int .i64 m.b.s.length] 71)
   obtain ⟨V, hV⟩ : ∃ V, V = w1.alloc (.cells #[.int .i64 E0, .string b0, .slice A0 ss0.length n0, .int .i64 R0, .int .i64 m.a.s.length, .int .i64 E1, .string b1, .slice A1 ss1.length n1, .int .i64 R1, .int .i64 m.b.s.length] 71) := ⟨_, rfl⟩
   rw [← hV] at hT
   have hVs : V.heap.size = w1.heap.size + 1 := by rw [hV]; simp
   have BV : Below w.heap.size w V := by rw [hV]; exact B1.alloc B1.size _
   have y1 : ∀ i, V.cell? ⟨w1.heap.size, i, none⟩ = _ := fun i => Lib.cell_of_heap hT i
   have SV : SR w.heap.size (.slice A0 ss0.length n0) ss0 V := by rw [hV]; exact hS0.below ((Below.refl _ w1).alloc (Nat.le_refl _) _)
   go_wp2_with fail
   rw [← hV]
   refine (newest_any _ _ _ _ _ _ b0 b1 _ _ V).mono ?_
   rintro e w2 ⟨rfl, b2⟩
   rw [if_neg (by omega)]
   have B2 := BV.trans (b2.mono BV.size)
   have T2 := (b2.block w1.heap.size (by omega)).trans hT
   have y2 : ∀ i, w2.cell? ⟨w1.heap.size, i, none⟩ = _ := fun i => Lib.cell_of_heap T2 i
   have hlt2 : w1.heap.size < w2.heap.size := by have := b2.size; omega
   have hblt : b < w2.heap.size := Nat.lt_of_lt_of_le hr.lt B2.size
   obtain ⟨W3, hW3⟩ : ∃ W3, W3 = ((w2.alloc (.cells #[.int .i64 E0, .string b0, .slice A0 ss0.length n0, .int .i64 R0, .int .i64 m.a.s.length] 70)).alloc (.cells #[ptr b, .int .i64 0, .int .i64 E0, .int .i64 ss0.length, .bool false] 76)) := ⟨_, rfl⟩
   have B3' : Below w2.heap.size w2 W3 := by rw [hW3]; exact ((Below.refl _ w2).alloc (Nat.le_refl _) _).alloc (by simp) _
   have B3 : Below w.heap.size w W3 := B2.trans (B3'.mono B2.size)
   have hF : W3.heap[w2.heap.size]? = some (.cells #[.int .i64 E0, .string b0, .slice A0 ss0.length n0, .int .i64 R0, .int .i64 m.a.s.length] 70 (0, 0)) := by rw [hW3, Below.heap_alloc _ _ _ (by simp)]; exact heap_alloc_new w2 _
   have hLd : LP (w2.heap.size + 1) b ⟨0, E0, ss0.length, false⟩ W3 := by
     have := heap_alloc_new (w2.alloc (.cells #[.int .i64 E0, .string b0, .slice A0 ss0.length n0, .int .i64 R0, .int .i64 m.a.s.length] 70)) (.cells #[ptr b, .int .i64 0, .int .i64 E0, .int .i64 ss0.length, .bool false] 76)
     rw [← hW3] at this
     simpa [LP] using this
   have hT3 := (B3'.block w1.heap.size hlt2).trans T2
   have y3 : ∀ i, W3.cell? ⟨w1.heap.size, i, none⟩ = _ := fun i => Lib.cell_of_heap hT3 i
   have y4 : ∀ i, W3.cell? ⟨w2.heap.size, i, none⟩ = _ := fun i => Lib.cell_of_heap hF i
   have hr3 := hr.below B3
   have SW := SV.below b2 |>.below B3'
   have hwq : w.heap.size ≤ w2.heap.size + 1 := by have := B2.size; omega
   clear hV y1 hT BV cb T2 hT3 SV hS0 hS1
   go_wp2_with fail
   rw [← hW3]
   clear hW3
   have cf := cc' W3 A0 A1 ss0.length ss1.length n0 n1 _ ⟨0, E0, ss0.length, false⟩ rfl hLd hr3
   refine cf.mono ?_
   rintro e w4 ⟨rfl, L4, r4, f4⟩
   have F4 := f4.other hr3 w2.heap.size _ _ _ hF (by omega) (by omega) (by decide)
   have x4 : ∀ i, w4.cell? ⟨w2.heap.size, i, none⟩ = _ := fun i => Lib.cell_of_heap F4 i
   have S4 := SW.keep (f4.keep9 hr3 hLd)
   have G4 : Fr b w w4 := Fr.of_fl ((FL.of_below (q := w2.heap.size + 1) B3 hr.lt).tr f4) hr.lt hwq
   clear cc' cf y2 y3 y4 hF F4 SW f4 hLd hr3 B3 B3' b2
   by_cases hz1 : R.1 = 0
   · rw [if_pos hz1] at hO
     subst hO
     rw [hz1]
     clear hz1
     go_wp2_with fail
     refine St.wp_region_stage (fun _ wx => wx = w4.drew) (by kernel_rfl) (by kernel_rfl) (by kernel_rfl) rfl ?_
     repeat (first
       | (apply St.step_give
          · rfl
          · intro L wx hS hcl hrd
            subst hS
            go_simp
            try with_reducible rfl
          · exact fun L wx hS => hS
          simp only [Act.put, List.setIfInBounds_toArray, List.set_cons_zero, List.set_cons_succ]))
     refine St.step_last ?_
     intro L wx hS _
     subst hS
     go_wp2_with fail
     refine bodyPost_ret (v := .tuple #[ptr (w2.heap.size + 1), .string b0, .slice A0 ss0.length n0, .int .i64 0]) (by simp [results, Tryz.results10, go_sem]) rfl ⟨r4.drew, G4.drew, w2.heap.size + 1, b0, _, ss0, rfl, HB.out, HS.out, ?_, hwq, S4⟩
     show LP _ b ⟨0, (tellT m.a.s).1, (tellT m.a.s).2.2.1.length, false⟩ w4.drew
     rw [← HLEN.out, hE0]
     exact L4.drew
   · have hz1b : (R.1 != 0) = true := by simpa using hz1
     rw [if_neg hz1] at hO
     subst hO
     clear hz1
     go_wp2_with fail
     exact bodyPost_ret (v := .tuple #[.pointer none, .string ⟨#[]⟩, .slice none 0 0, .int .i64 R.1]) (by simp [results, Tryz.results10, go_sem]) rfl ⟨r4, G4, rfl⟩
  exact walk _ rfl

set_option maxHeartbeats 16000000 in
set_option maxRecDepth 100000 in
theorem open_tidy1 {b : Nat} {m : M} {w : World} (hr : RP b m w) (ho : m.off = false) (hm : m.ok) (hops : m.ops < 4611686018427387890) (hg : Good w) (hl : (tellT m.a.s).1 < (tellT m.b.s).1) :
    Calls Tryz.prog 10 #[ptr b] w fun e w' => OpenOut (openM m) b w e w' := by
  have cb := both_on hr ho hm hg
  have hn0 := tell_len m.a.s
  have hn1 := tell_len m.b.s
  have hM := openM_tidy ho 1 (by rw [if_pos hl]) (by show (tellT m.b.s).1 ≠ 0; omega)
  simp only [show m.get 0 = m.a from rfl, show m.get 1 = m.b from rfl, show (1 : Int) - 1 = 0 from rfl] at hM
  obtain ⟨R, hR⟩ : ∃ R, tidyM m 1 (tellT m.b.s).2.2.2 m.b.s.length m.a.s.length = R := ⟨_, rfl⟩
  rw [hR] at hM
  rw [hM]
  have cc := fun (w2 : World) (E0 E1 : Int) (b0 b1 : ByteArray) (A0 A1 : Option Addr) (s0 s1 n0 n1 q : Nat) (l : Lg) (hlt : l.t = 1) (R1 : Nat) (h : LP q b l w2) (hr : RP b m w2) => tidy1 E0 E1 R1 (tellT m.b.s).2.2.2 m.a.s.length m.b.s.length b0 b1 (.slice A0 s0 n0) (.slice A1 s1 n1) h hlt hr hm hops ⟨_, _, _, rfl⟩ ⟨_, _, _, rfl⟩
  rw [hR] at cc
  clear hR hM
  have walk : ∀ O, O = (if R.1 = 0 then (0, some (⟨1, (tellT m.b.s).1, (tellT m.b.s).2.2.1.length, false⟩, (tellT m.b.s).2.1, (tellT m.b.s).2.2.1), R.2) else (R.1, none, R.2)) → Calls Tryz.prog 10 #[ptr b] w fun e w' => OpenOut O b w e w' := by
   intro O hO
   go_enter Tryz.func10, Tryz.ntmps10
   go_wp2_with fail
   refine cb.mono ?_
   rintro e w1 ⟨b0, rv0, ss0, b1, rv1, ss1, rfl, ⟨hb0, hs0, hS0⟩, ⟨hb1, hs1, hS1⟩, B1⟩
   obtain ⟨A0, n0, rfl⟩ := hS0.form
   obtain ⟨A1, n1, rfl⟩ := hS1.form
   have hr1 := hr.below B1
   have hlen : ss1.length = (tellT m.b.s).2.2.1.length := by rw [← hs1]; simp [texts]
   have HLEN := Lib.hid hlen
   clear hlen
   have HS := Lib.hid hs1
   have HB := Lib.hid hb1
   obtain ⟨E0, hE0⟩ : ∃ E, (tellT m.a.s).1 = E := ⟨_, rfl⟩
   obtain ⟨E1, hE1⟩ : ∃ E, (tellT m.b.s).1 = E := ⟨_, rfl⟩
   obtain ⟨R0, hR0⟩ : ∃ E, (tellT m.a.s).2.2.2 = E := ⟨_, rfl⟩
   obtain ⟨R1, hR1⟩ : ∃ E, (tellT m.b.s).2.2.2 = E := ⟨_, rfl⟩
   have cc' := fun (w2 : World) (A0 A1 : Option Addr) (s0 s1 n0 n1 q : Nat) (l : Lg) (hlt : l.t = 1) (h : LP q b l w2) (hr : RP b m w2) => cc w2 E0 E1 b0 b1 A0 A1 s0 s1 n0 n1 q l hlt R0 h hr
   rw [hE0] at hn0
   rw [hE1] at hn1
   rw [hE0, hE1] at hl
   rw [hR1] at cc'
   simp only [hE0, hE1, hR0, hR1]
   clear cc hs0 hs1 hb0 hb1
   have hez : (E1 == 0) = false := by
     have h1 := hn0.2.2.1
     simp; omega
   clear hn0 hn1
   have hT := heap_alloc_new w1 (.cells #[.int .i64 E0, .string b0, .slice A0 ss0.length n0, .int .i64 R0, .int .i64 m.a.s.length, .int .i64 E1, .string b1, .slice A1 ss1.length n1, .int .i64 R1, .int .i64 m.b.s.length] 71)
   obtain ⟨V, hV⟩ : ∃ V, V = w1.alloc (.cells #[.int .i64 E0, .string b0, .slice A0 ss0.length n0, .int .i64 R0, .int .i64 m.a.s.length, .int .i64 E1, .string b1, .slice A1 ss1.length n1, .int .i64 R1, .int .i64 m.b.s.length] 71) := ⟨_, rfl⟩
   rw [← hV] at hT
   have hVs : V.heap.size = w1.heap.size + 1 := by rw [hV]; simp
   have BV : Below w.heap.size w V := by rw [hV]; exact B1.alloc B1.size _
   have y1 : ∀ i, V.cell? ⟨w1.heap.size, i, none⟩ = _ := fun i => Lib.cell_of_heap hT i
   have SV : SR w.heap.size (.slice A1 ss1.length n1) ss1 V := by rw [hV]; exact hS1.below ((Below.refl _ w1).alloc (Nat.le_refl _) _)
   go_wp2_with fail
   rw [← hV]
   refine (newest_any _ _ _ _ _ _ b0 b1 _ _ V).mono ?_
   rintro e w2 ⟨rfl, b2⟩
   rw [if_pos hl]
   have B2 := BV.trans (b2.mono BV.size)
   have T2 := (b2.block w1.heap.size (by omega)).trans hT
   have y2 : ∀ i, w2.cell? ⟨w1.heap.size, i, none⟩ = _ := fun i => Lib.cell_of_heap T2 i
   have hlt2 : w1.heap.size < w2.heap.size := by have := b2.size; omega
   have hblt : b < w2.heap.size := Nat.lt_of_lt_of_le hr.lt B2.size
   obtain ⟨W3, hW3⟩ : ∃ W3, W3 = ((w2.alloc (.cells #[.int .i64 E1, .string b1, .slice A1 ss1.length n1, .int .i64 R1, .int .i64 m.b.s.length] 70)).alloc (.cells #[ptr b, .int .i64 1, .int .i64 E1, .int .i64 ss1.length, .bool false] 76)) := ⟨_, rfl⟩
   have B3' : Below w2.heap.size w2 W3 := by rw [hW3]; exact ((Below.refl _ w2).alloc (Nat.le_refl _) _).alloc (by simp) _
   have B3 : Below w.heap.size w W3 := B2.trans (B3'.mono B2.size)
   have hF : W3.heap[w2.heap.size]? = some (.cells #[.int .i64 E1, .string b1, .slice A1 ss1.length n1, .int .i64 R1, .int .i64 m.b.s.length] 70 (0, 0)) := by rw [hW3, Below.heap_alloc _ _ _ (by simp)]; exact heap_alloc_new w2 _
   have hLd : LP (w2.heap.size + 1) b ⟨1, E1, ss1.length, false⟩ W3 := by
     have := heap_alloc_new (w2.alloc (.cells #[.int .i64 E1, .string b1, .slice A1 ss1.length n1, .int .i64 R1, .int .i64 m.b.s.length] 70)) (.cells #[ptr b, .int .i64 1, .int .i64 E1, .int .i64 ss1.length, .bool false] 76)
     rw [← hW3] at this
     simpa [LP] using this
   have hT3 := (B3'.block w1.heap.size hlt2).trans T2
   have y3 : ∀ i, W3.cell? ⟨w1.heap.size, i, none⟩ = _ := fun i => Lib.cell_of_heap hT3 i
   have y4 : ∀ i, W3.cell? ⟨w2.heap.size, i, none⟩ = _ := fun i => Lib.cell_of_heap hF i
   have hr3 := hr.below B3
   have SW := SV.below b2 |>.below B3'
   have hwq : w.heap.size ≤ w2.heap.size + 1 := by have := B2.size; omega
   clear hV y1 hT BV cb T2 hT3 SV hS0 hS1
   go_wp2_with fail
   rw [← hW3]
   clear hW3
   have cf := cc' W3 A0 A1 ss0.length ss1.length n0 n1 _ ⟨1, E1, ss1.length, false⟩ rfl hLd hr3
   refine cf.mono ?_
   rintro e w4 ⟨rfl, L4, r4, f4⟩
   have F4 := f4.other hr3 w2.heap.size _ _ _ hF (by omega) (by omega) (by decide)
   have x4 : ∀ i, w4.cell? ⟨w2.heap.size, i, none⟩ = _ := fun i => Lib.cell_of_heap F4 i
   have S4 := SW.keep (f4.keep9 hr3 hLd)
   have G4 : Fr b w w4 := Fr.of_fl ((FL.of_below (q := w2.heap.size + 1) B3 hr.lt).tr f4) hr.lt hwq
   clear cc' cf y2 y3 y4 hF F4 SW f4 hLd hr3 B3 B3' b2
   by_cases hz1 : R.1 = 0
   · rw [if_pos hz1] at hO
     subst hO
     rw [hz1]
     clear hz1
     go_wp2_with fail
     refine St.wp_region_stage (fun _ wx => wx = w4.drew) (by kernel_rfl) (by kernel_rfl) (by kernel_rfl) rfl ?_
     repeat (first
       | (apply St.step_give
          · rfl
          · intro L wx hS hcl hrd
            subst hS
            go_simp
            try with_reducible rfl
          · exact fun L wx hS => hS
          simp only [Act.put, List.setIfInBounds_toArray, List.set_cons_zero, List.set_cons_succ]))
     refine St.step_last ?_
     intro L wx hS _
     subst hS
     go_wp2_with fail
     refine bodyPost_ret (v := .tuple #[ptr (w2.heap.size + 1), .string b1, .slice A1 ss1.length n1, .int .i64 0]) (by simp [results, Tryz.results10, go_sem]) rfl ⟨r4.drew, G4.drew, w2.heap.size + 1, b1, _, ss1, rfl, HB.out, HS.out, ?_, hwq, S4⟩
     show LP _ b ⟨1, (tellT m.b.s).1, (tellT m.b.s).2.2.1.length, false⟩ w4.drew
     rw [← HLEN.out, hE1]
     exact L4.drew
   · have hz1b : (R.1 != 0) = true := by simpa using hz1
     rw [if_neg hz1] at hO
     subst hO
     clear hz1
     go_wp2_with fail
     exact bodyPost_ret (v := .tuple #[.pointer none, .string ⟨#[]⟩, .slice none 0 0, .int .i64 R.1]) (by simp [results, Tryz.results10, go_sem]) rfl ⟨r4, G4, rfl⟩
  exact walk _ rfl

set_option maxHeartbeats 4000000 in
set_option maxRecDepth 100000 in
theorem open_off {b : Nat} {m : M} {w : World} (hr : RP b m w) (ho : m.off = true) :
    Calls Tryz.prog 10 #[ptr b] w fun e w' => OpenOut (openM m) b w e w' := by
  have cb := both_off hr ho
  rw [openM_off ho]
  go_enter Tryz.func10, Tryz.ntmps10
  go_wp2_with fail
  refine cb.mono ?_
  rintro e w1 ⟨rfl, B1⟩
  go_wp2_with fail
  exact bodyPost_ret (v := .tuple #[.pointer none, .string ⟨#[]⟩, .slice none 0 0, .int .i64 30]) (by simp [results, Tryz.results10, go_sem]) rfl ⟨(hr.below B1).below ((Below.refl _ w1).alloc (Nat.le_refl _) _), (Fr.of_below B1 hr.lt).trans (Fr.alloc b w1 _ (Nat.lt_of_lt_of_le hr.lt B1.size)), rfl⟩
theorem c_open {b : Nat} {m : M} {w : World} (hr : RP b m w) (hm : m.ok) (hops : m.ops < 4611686018427387890) (hg : Good w) :
    Calls Tryz.prog 10 #[ptr b] w fun e w' => OpenOut (openM m) b w e w' := by
  cases ho : m.off with
  | true => exact open_off hr ho
  | false =>
    by_cases hl : (tellT m.a.s).1 < (tellT m.b.s).1
    · exact open_tidy1 hr ho hm hops hg hl
    · by_cases hz : (tellT m.a.s).1 = 0
      · have h1 := (tell_len m.b.s).2.2.1
        exact open_begin hr ho hm hops hg hz (by omega)
      · exact open_tidy0 hr ho hm hops hg hl hz
set_option maxHeartbeats 4000000 in
set_option maxRecDepth 100000 in
theorem both_nil (w : World) : Calls Tryz.prog 28 #[.pointer none] w fun e w' => e = .returned (.tuple #[.agg #[.int .i64 0, .string ⟨#[]⟩, .slice none 0 0, .int .i64 0, .int .i64 0, .int .i64 0, .string ⟨#[]⟩, .slice none 0 0, .int .i64 0, .int .i64 0], .int .i64 7]) ∧ Below w.heap.size w w' := by
  go_enter Tryz.func28, Tryz.ntmps28
  go_wp2_with fail
  refine wp_loop_rounds 3 ?_
  rw [rounds_succ]
  go_wp2_with fail
  refine (nil_read 0 _).mono ?_
  rintro e w' ⟨rfl, rfl⟩
  go_wp2_with fail
  exact bodyPost_ret (v := .tuple #[.agg #[.int .i64 0, .string ⟨#[]⟩, .slice none 0 0, .int .i64 0, .int .i64 0, .int .i64 0, .string ⟨#[]⟩, .slice none 0 0, .int .i64 0, .int .i64 0], .int .i64 7]) (by simp [results, Tryz.results28, go_sem]) rfl ⟨rfl, ((Below.refl _ w).alloc (Nat.le_refl _) _).alloc (by simp) _⟩
set_option maxHeartbeats 4000000 in
set_option maxRecDepth 100000 in
theorem open_nil (w : World) : Calls Tryz.prog 10 #[.pointer none] w fun e w' => e = .returned (.tuple #[.pointer none, .string ⟨#[]⟩, .slice none 0 0, .int .i64 7]) ∧ Below w.heap.size w w' := by
  go_enter Tryz.func10, Tryz.ntmps10
  go_wp2_with fail
  refine (both_nil _).mono ?_
  rintro e w1 ⟨rfl, B1⟩
  go_wp2_with fail
  exact bodyPost_ret (v := .tuple #[.pointer none, .string ⟨#[]⟩, .slice none 0 0, .int .i64 7]) (by simp [results, Tryz.results10, go_sem]) rfl ⟨rfl, B1.alloc B1.size _⟩
theorem num_any (n : Int) (w : World) : Calls Tryz.prog 8 #[.int .i64 n] w fun e w' => e = .returned (.int .i64 n) ∧ w = w' := by
  go_enter Tryz.func8, Tryz.ntmps8
  go_wp2
  go_ret
  exact ⟨rfl, rfl⟩

end Go.Proofs.YtglkapamkigdhaaGreatDoor.Rl

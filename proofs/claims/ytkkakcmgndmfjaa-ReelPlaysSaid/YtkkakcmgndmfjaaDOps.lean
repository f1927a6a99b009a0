/-
  The document's own operations on a reel, told of the model: Write, Sync, Wipe, Trim. Conditions: what may be of a reel; texts at most 2^46 bytes; fewer than 2^62 operations.
-/
import Derived.Test.YtkkakcmgndmfjaaDoc
namespace Go.Proofs.Ytkkakcmgndmfjaa
open Go.RowKit

theorem RD.al {p : Nat} {m : M} {w w' : World} (h : RD p m w) (k : Al w' w) : RD p m w' := h.keep (by rw [k.1]) (by rw [k.1]) (by rw [k.1])
theorem FD.al {p : Nat} {w w1 w2 : World} (h : FD p w w1) (k : Al w2 w1) : FD p w w2 := ⟨k.below h.below, fun i hi h0 h1 h2 => by rw [k.1]; exact h.old i hi h0 h1 h2⟩

theorem dwrite_x {p : Nat} {m : M} {w : World} (t : Int) (s : ByteArray) (h : RD p m w) (hm : m.ok) (ht : isT t = false) :
    Calls Try.prog 28 #[dtr p, .int .i64 t, .string s] w fun e w' => e = .returned (.int .i64 (m.write t s.toList).1) ∧ RD p (m.write t s.toList).2 w' ∧ FD p w w' := by
  have hw : m.write t s.toList = (2, m) := by unfold M.write; rw [if_pos ht]
  rw [hw]
  clear hw
  go_enter Try.func28, Try.ntmps28
  go_wp2_with fail
  refine (begin_x h hm ht).mono ?_
  rintro e w1 ⟨rfl, r1, f1⟩
  go_wp2_with fail
  go_ret
  exact ⟨rfl, r1, f1⟩
theorem dsync_x {p : Nat} {m : M} {w : World} (t : Int) (h : RD p m w) (hm : m.ok) (ht : isT t = false) :
    Calls Try.prog 29 #[dtr p, .int .i64 t] w fun e w' => e = .returned (.int .i64 (m.sync t).1) ∧ RD p (m.sync t).2 w' ∧ FD p w w' := by
  have hw : m.sync t = (2, m) := by unfold M.sync; rw [if_pos ht]
  rw [hw]
  clear hw
  go_enter Try.func29, Try.ntmps29
  go_wp2_with fail
  refine (begin_x h hm ht).mono ?_
  rintro e w1 ⟨rfl, r1, f1⟩
  go_wp2_with fail
  go_ret
  exact ⟨rfl, r1, f1⟩
theorem dwipe_x {p : Nat} {m : M} {w : World} (t : Int) (h : RD p m w) (hm : m.ok) (ht : isT t = false) :
    Calls Try.prog 30 #[dtr p, .int .i64 t] w fun e w' => e = .returned (.int .i64 (m.trim t 0).1) ∧ RD p (m.trim t 0).2 w' ∧ FD p w w' := by
  have hw : m.trim t 0 = (2, m) := by unfold M.trim; rw [if_pos (.inl ht)]
  rw [hw]
  clear hw
  go_enter Try.func30, Try.ntmps30
  go_wp2_with fail
  refine (begin_x h hm ht).mono ?_
  rintro e w1 ⟨rfl, r1, f1⟩
  go_wp2_with fail
  go_ret
  exact ⟨rfl, r1, f1⟩
theorem dtrim_neg {p : Nat} {m : M} {w : World} (t n : Int) (h : RD p m w) (hn : n < 0) :
    Calls Try.prog 31 #[dtr p, .int .i64 t, .int .i64 n] w fun e w' => e = .returned (.int .i64 (m.trim t n).1) ∧ RD p (m.trim t n).2 w' ∧ FD p w w' := by
  have hw : m.trim t n = (2, m) := by unfold M.trim; rw [if_pos (.inr hn)]
  rw [hw]
  clear hw
  go_enter Try.func31, Try.ntmps31
  go_wp2_with fail
  go_ret
  exact ⟨rfl, h, FD.refl _ _⟩
theorem dtrim_x {p : Nat} {m : M} {w : World} (t n : Int) (h : RD p m w) (hm : m.ok) (hn : ¬ n < 0) (ht : isT t = false) :
    Calls Try.prog 31 #[dtr p, .int .i64 t, .int .i64 n] w fun e w' => e = .returned (.int .i64 (m.trim t n).1) ∧ RD p (m.trim t n).2 w' ∧ FD p w w' := by
  have hw : m.trim t n = (2, m) := by unfold M.trim; rw [if_pos (.inl ht)]
  rw [hw]
  clear hw
  go_enter Try.func31, Try.ntmps31
  go_wp2_with fail
  refine (begin_x h hm ht).mono ?_
  rintro e w1 ⟨rfl, r1, f1⟩
  go_wp2_with fail
  go_ret
  exact ⟨rfl, r1, f1⟩

set_option maxHeartbeats 2000000 in
theorem dwriteA {p : Nat} {m : M} {w : World} (s : ByteArray) (h : RD p m w) (hm : m.ok) (ho : m.ops < 4611686018427387904) (hsz : s.size ≤ 70368744177664) :
    Calls Try.prog 28 #[dtr p, .int .i64 0, .string s] w fun e w' => e = .returned (.int .i64 (m.write 0 s.toList).1) ∧ RD p (m.write 0 s.toList).2 w' ∧ FD p w w' := by
  by_cases hd : m.dead = true
  · have hw : m.write 0 s.toList = (30, m.cut) := by unfold M.write; rw [if_neg (by decide), if_pos hd]
    rw [hw]
    have cb := begin_yes (t := 0) h hm rfl hd
    clear hw hd
    go_enter Try.func28, Try.ntmps28
    go_wp2_with fail
    refine cb.mono ?_
    rintro e w1 ⟨rfl, r1, f1⟩
    go_wp2_with fail
    go_ret
    exact ⟨rfl, r1, f1⟩
  have cb := begin_no (t := 0) h hm rfl hd
  have cf := fun w (h : RD p m.tick w) => d_free h hm.tick
  have hfree : m.tick.free = (m.room : Int) - m.used := by unfold M.free M.tick M.used; simp only; omega
  have hroom := hm.room
  have hfits := hm.fits
  by_cases hf : m.room < m.used + s.toList.length
  · have hw : m.write 0 s.toList = (5, m.tick) := by unfold M.write; rw [if_neg (by decide), if_neg hd, if_pos hf]
    rw [hw]
    rw [size_toList] at hf
    obtain ⟨q, hq⟩ : ∃ q, q = m.tick.free := ⟨_, rfl⟩
    rw [← hq] at cf
    have hlt : q < (s.size : Int) := by rw [hq]; unfold M.used at *; omega
    clear hw hd hq
    go_enter Try.func28, Try.ntmps28
    go_wp2_with fail
    refine cb.mono ?_
    rintro e w1 ⟨rfl, r1, f1⟩
    go_wp2_with fail
    refine (cf _ r1).mono ?_
    rintro e w2 ⟨rfl, a2⟩
    go_wp2_with fail
    go_ret
    exact ⟨rfl, r1.al a2, f1.al a2⟩
  · have hw : m.write 0 s.toList = (0, M.done { m.tick with a := ⟨m.a.s ++ s.toList, m.a.k⟩ }) := by
      unfold M.write; rw [if_neg (by decide), if_neg hd, if_neg hf]; rfl
    rw [hw]
    rw [size_toList] at hf
    obtain ⟨q, hq⟩ : ∃ q, q = m.tick.free := ⟨_, rfl⟩
    rw [← hq] at cf
    have hge : (s.size : Int) ≤ q := by rw [hq]; unfold M.used at *; omega
    have hlen : m.a.s.length ≤ 4194304 := by omega
    clear hw hd hq hf hfits hroom hfree
    go_enter Try.func28, Try.ntmps28
    go_wp2_with fail
    refine cb.mono ?_
    rintro e w1 ⟨rfl, r1, f1⟩
    go_wp2_with fail
    refine (cf _ r1).mono ?_
    rintro e w2 ⟨rfl, a2⟩
    have r2 := r1.al a2
    have f2 := f1.al a2
    have r3 := (r2.sA (m.a.s ++ s.toList)).ops (m.ops + 1)
    have f3 := (f2.trans (FD.set0 p 0 w2 (.string (tx (m.a.s ++ s.toList))))).trans (FD.set2 p 5 _ (.int .i64 (m.ops + 1 : Nat)))
    rw [← tx_append] at r3 f3
    obtain ⟨os0, os1, ok0, ok1, c0, c1, c2, c3, c4, oc5, g0, g1, g2⟩ := r2.cells
    have s0 : w2.cell? ⟨p, 0, none⟩ = some (Value.string (tx m.a.s)) := os0
    have k0 : w2.cell? ⟨p + 1, 0, none⟩ = some (Value.int .i64 m.a.k) := ok0
    have c5 : w2.cell? ⟨p + 2, 5, none⟩ = some (Value.int .i64 m.ops) := oc5
    have g00 := g0 0
    have g10 := g1 0
    have g25 := g2 5
    have z := tx_size m.a.s
    clear os0 os1 ok0 ok1 oc5 c2 c3 c4 g0 g1 g2
    clear r1 r2 f1 f2 a2 cf cb
    go_wp2_with fail
    go_region
    all_goals go_wp2
    all_goals go_ret
    all_goals exact ⟨rfl, r3, f3.drew⟩

set_option maxHeartbeats 2000000 in
theorem dsyncA {p : Nat} {m : M} {w : World} (h : RD p m w) (hm : m.ok) (ho : m.ops < 4611686018427387904) :
    Calls Try.prog 29 #[dtr p, .int .i64 0] w fun e w' => e = .returned (.int .i64 (m.sync 0).1) ∧ RD p (m.sync 0).2 w' ∧ FD p w w' := by
  by_cases hd : m.dead = true
  · have hw : m.sync 0 = (30, m.cut) := by unfold M.sync; rw [if_neg (by decide), if_pos hd]
    rw [hw]
    have cb := begin_yes (t := 0) h hm rfl hd
    clear hw hd
    go_enter Try.func29, Try.ntmps29
    go_wp2_with fail
    refine cb.mono ?_
    rintro e w1 ⟨rfl, r1, f1⟩
    go_wp2_with fail
    go_ret
    exact ⟨rfl, r1, f1⟩
  · have cb := begin_no (t := 0) h hm rfl hd
    have hw : m.sync 0 = (0, M.done { m.tick with a := ⟨m.a.s, m.a.s.length⟩ }) := by
      unfold M.sync; rw [if_neg (by decide), if_neg hd]; rfl
    rw [hw]
    have hroom := hm.room
    have hfits := hm.fits
    have hlen : m.a.s.length ≤ 4194304 := by omega
    clear hw hd hfits hroom
    go_enter Try.func29, Try.ntmps29
    go_wp2_with fail
    refine cb.mono ?_
    rintro e w2 ⟨rfl, r2, f2⟩
    have r3 := (r2.kA m.a.s.length).ops (m.ops + 1)
    have f3 := (f2.trans (FD.set1 p 0 w2 (.int .i64 m.a.s.length))).trans (FD.set2 p 5 _ (.int .i64 (m.ops + 1 : Nat)))
    obtain ⟨os0, os1, ok0, ok1, c0, c1, c2, c3, c4, oc5, g0, g1, g2⟩ := r2.cells
    have s0 : w2.cell? ⟨p, 0, none⟩ = some (Value.string (tx m.a.s)) := os0
    have k0 : w2.cell? ⟨p + 1, 0, none⟩ = some (Value.int .i64 m.a.k) := ok0
    have c5 : w2.cell? ⟨p + 2, 5, none⟩ = some (Value.int .i64 m.ops) := oc5
    have g00 := g0 0
    have g10 := g1 0
    have g25 := g2 5
    have z := tx_size m.a.s
    clear os0 os1 ok0 ok1 oc5 c2 c3 c4 g0 g1 g2
    clear r2 f2 cb
    go_wp2_with fail
    go_region
    all_goals go_wp2
    all_goals go_ret
    all_goals exact ⟨rfl, r3, f3.drew⟩

set_option maxHeartbeats 2000000 in
theorem dwipeA {p : Nat} {m : M} {w : World} (h : RD p m w) (hm : m.ok) (ho : m.ops < 4611686018427387904) :
    Calls Try.prog 30 #[dtr p, .int .i64 0] w fun e w' => e = .returned (.int .i64 (m.trim 0 0).1) ∧ RD p (m.trim 0 0).2 w' ∧ FD p w w' := by
  have hor : ¬ (isT 0 = false ∨ (0 : Int) < 0) := fun h' => h'.elim (fun h' => by cases h') (by decide)
  by_cases hd : m.dead = true
  · have hw : m.trim 0 0 = (30, m.cut) := by unfold M.trim; rw [if_neg hor, if_pos hd]
    rw [hw]
    have cb := begin_yes (t := 0) h hm rfl hd
    clear hw hd hor
    go_enter Try.func30, Try.ntmps30
    go_wp2_with fail
    refine cb.mono ?_
    rintro e w1 ⟨rfl, r1, f1⟩
    go_wp2_with fail
    go_ret
    exact ⟨rfl, r1, f1⟩
  · have cb := begin_no (t := 0) h hm rfl hd
    have hw : m.trim 0 0 = (0, M.done { m.tick with a := ⟨[], 0⟩ }) := by
      unfold M.trim; rw [if_neg hor, if_neg hd, if_neg (by show ¬ (m.a.s.length : Int) < 0; omega)]
      show (0, M.done { m.tick with a := ⟨m.a.s.take 0, min m.a.k 0⟩ }) = _
      rw [List.take_zero, Nat.min_zero]
    rw [hw]
    clear hw hd hor
    go_enter Try.func30, Try.ntmps30
    go_wp2_with fail
    refine cb.mono ?_
    rintro e w2 ⟨rfl, r2, f2⟩
    have r3 := ((r2.sA []).kA 0).ops (m.ops + 1)
    have f3 := ((f2.trans (FD.set0 p 0 w2 (.string (tx [])))).trans (FD.set1 p 0 _ (.int .i64 (0 : Nat)))).trans (FD.set2 p 5 _ (.int .i64 (m.ops + 1 : Nat)))
    obtain ⟨os0, os1, ok0, ok1, c0, c1, c2, c3, c4, oc5, g0, g1, g2⟩ := r2.cells
    have s0 : w2.cell? ⟨p, 0, none⟩ = some (Value.string (tx m.a.s)) := os0
    have k0 : w2.cell? ⟨p + 1, 0, none⟩ = some (Value.int .i64 m.a.k) := ok0
    have c5 : w2.cell? ⟨p + 2, 5, none⟩ = some (Value.int .i64 m.ops) := oc5
    have g00 := g0 0
    have g10 := g1 0
    have g25 := g2 5
    have z := tx_size m.a.s
    clear os0 os1 ok0 ok1 oc5 c2 c3 c4 g0 g1 g2
    clear r2 f2 cb
    go_wp2_with fail
    go_region
    all_goals go_wp2
    all_goals go_ret
    all_goals exact ⟨rfl, r3, f3.drew⟩

set_option maxHeartbeats 2000000 in
theorem dtrimA {p : Nat} {m : M} {w : World} (n : Int) (h : RD p m w) (hm : m.ok) (ho : m.ops < 4611686018427387904) (hn : ¬ n < 0) :
    Calls Try.prog 31 #[dtr p, .int .i64 0, .int .i64 n] w fun e w' => e = .returned (.int .i64 (m.trim 0 n).1) ∧ RD p (m.trim 0 n).2 w' ∧ FD p w w' := by
  have hor : ¬ (isT 0 = false ∨ n < 0) := fun h' => h'.elim (fun h' => by cases h') hn
  have hroom := hm.room
  have hfits := hm.fits
  have hlen : m.a.s.length ≤ 4194304 := by omega
  have hkl : m.a.k ≤ 4194304 := by have := hm.ka; omega
  by_cases hd : m.dead = true
  · have hw : m.trim 0 n = (30, m.cut) := by unfold M.trim; rw [if_neg hor, if_pos hd]
    rw [hw]
    have cb := begin_yes (t := 0) h hm rfl hd
    clear hw hd hor
    go_enter Try.func31, Try.ntmps31
    go_wp2_with fail
    refine cb.mono ?_
    rintro e w1 ⟨rfl, r1, f1⟩
    go_wp2_with fail
    go_ret
    exact ⟨rfl, r1, f1⟩
  have cb := begin_no (t := 0) h hm rfl hd
  by_cases hl : ((m.get 0).s.length : Int) < n
  · have hw : m.trim 0 n = (2, m.tick) := by unfold M.trim; rw [if_neg hor, if_neg hd, if_pos hl]
    rw [hw]
    have hl' : (m.a.s.length : Int) < n := hl
    clear hw hd hl hor
    go_enter Try.func31, Try.ntmps31
    go_wp2_with fail
    refine cb.mono ?_
    rintro e w2 ⟨rfl, r2, f2⟩
    obtain ⟨os0, os1, ok0, ok1, c0, c1, c2, c3, c4, oc5, g0, g1, g2⟩ := r2.cells
    have s0 : w2.cell? ⟨p, 0, none⟩ = some (Value.string (tx m.a.s)) := os0
    have k0 : w2.cell? ⟨p + 1, 0, none⟩ = some (Value.int .i64 m.a.k) := ok0
    have c5 : w2.cell? ⟨p + 2, 5, none⟩ = some (Value.int .i64 m.ops) := oc5
    have g00 := g0 0
    have g10 := g1 0
    have g25 := g2 5
    have z := tx_size m.a.s
    clear os0 os1 ok0 ok1 oc5 c2 c3 c4 g0 g1 g2
    go_wp2_with fail
    go_ret
    exact ⟨rfl, r2, f2⟩
  · have hw : m.trim 0 n = (0, M.done { m.tick with a := ⟨m.a.s.take n.toNat, min m.a.k n.toNat⟩ }) := by
      unfold M.trim; rw [if_neg hor, if_neg hd, if_neg hl]; rfl
    rw [hw]
    have hl' : n ≤ (m.a.s.length : Int) := by have : ¬ (m.a.s.length : Int) < n := hl; omega
    obtain ⟨k, rfl⟩ : ∃ k : Nat, n = k := ⟨n.toNat, by omega⟩
    simp only [Int.toNat_natCast] at *
    have hkk : k ≤ m.a.s.length := by omega
    clear hw hd hl hor hn
    have hcases : (k < m.a.k ∧ min m.a.k k = k) ∨ (¬ k < m.a.k ∧ min m.a.k k = m.a.k) := by omega
    rcases hcases with ⟨hc, hmin⟩ | ⟨hc, hmin⟩
    all_goals
      rw [hmin]
      clear hmin
      go_enter Try.func31, Try.ntmps31
      go_wp2_with fail
      refine cb.mono ?_
      rintro e w2 ⟨rfl, r2, f2⟩
      have r3 := fun q : Nat => ((r2.sA (m.a.s.take k)).kA q).ops (m.ops + 1)
      have f3 := fun q : Nat => ((f2.trans (FD.set0 p 0 w2 (.string (tx (m.a.s.take k))))).trans (FD.set1 p 0 _ (.int .i64 q))).trans (FD.set2 p 5 _ (.int .i64 (m.ops + 1 : Nat)))
      rw [← tx_take] at r3 f3
      obtain ⟨os0, os1, ok0, ok1, c0, c1, c2, c3, c4, oc5, g0, g1, g2⟩ := r2.cells
      have s0 : w2.cell? ⟨p, 0, none⟩ = some (Value.string (tx m.a.s)) := os0
      have k0 : w2.cell? ⟨p + 1, 0, none⟩ = some (Value.int .i64 m.a.k) := ok0
      have c5 : w2.cell? ⟨p + 2, 5, none⟩ = some (Value.int .i64 m.ops) := oc5
      have g00 := g0 0
      have g10 := g1 0
      have g25 := g2 5
      have z := tx_size m.a.s
      clear os0 os1 ok0 ok1 oc5 c2 c3 c4 g0 g1 g2
      clear r2 f2 cb
      go_wp2_with fail
      go_region
      all_goals go_wp2
      all_goals go_region
      all_goals go_wp2
      all_goals go_ret
      all_goals exact ⟨rfl, r3 _, (f3 _).drew.drew⟩

set_option maxHeartbeats 2000000 in
theorem dwriteB {p : Nat} {m : M} {w : World} (s : ByteArray) (h : RD p m w) (hm : m.ok) (ho : m.ops < 4611686018427387904) (hsz : s.size ≤ 70368744177664) :
    Calls Try.prog 28 #[dtr p, .int .i64 1, .string s] w fun e w' => e = .returned (.int .i64 (m.write 1 s.toList).1) ∧ RD p (m.write 1 s.toList).2 w' ∧ FD p w w' := by
  by_cases hd : m.dead = true
  · have hw : m.write 1 s.toList = (30, m.cut) := by unfold M.write; rw [if_neg (by decide), if_pos hd]
    rw [hw]
    have cb := begin_yes (t := 1) h hm rfl hd
    clear hw hd
    go_enter Try.func28, Try.ntmps28
    go_wp2_with fail
    refine cb.mono ?_
    rintro e w1 ⟨rfl, r1, f1⟩
    go_wp2_with fail
    go_ret
    exact ⟨rfl, r1, f1⟩
  have cb := begin_no (t := 1) h hm rfl hd
  have cf := fun w (h : RD p m.tick w) => d_free h hm.tick
  have hfree : m.tick.free = (m.room : Int) - m.used := by unfold M.free M.tick M.used; simp only; omega
  have hroom := hm.room
  have hfits := hm.fits
  by_cases hf : m.room < m.used + s.toList.length
  · have hw : m.write 1 s.toList = (5, m.tick) := by unfold M.write; rw [if_neg (by decide), if_neg hd, if_pos hf]
    rw [hw]
    rw [size_toList] at hf
    obtain ⟨q, hq⟩ : ∃ q, q = m.tick.free := ⟨_, rfl⟩
    rw [← hq] at cf
    have hlt : q < (s.size : Int) := by rw [hq]; unfold M.used at *; omega
    clear hw hd hq
    go_enter Try.func28, Try.ntmps28
    go_wp2_with fail
    refine cb.mono ?_
    rintro e w1 ⟨rfl, r1, f1⟩
    go_wp2_with fail
    refine (cf _ r1).mono ?_
    rintro e w2 ⟨rfl, a2⟩
    go_wp2_with fail
    go_ret
    exact ⟨rfl, r1.al a2, f1.al a2⟩
  · have hw : m.write 1 s.toList = (0, M.done { m.tick with b := ⟨m.b.s ++ s.toList, m.b.k⟩ }) := by
      unfold M.write; rw [if_neg (by decide), if_neg hd, if_neg hf]; rfl
    rw [hw]
    rw [size_toList] at hf
    obtain ⟨q, hq⟩ : ∃ q, q = m.tick.free := ⟨_, rfl⟩
    rw [← hq] at cf
    have hge : (s.size : Int) ≤ q := by rw [hq]; unfold M.used at *; omega
    have hlen : m.b.s.length ≤ 4194304 := by omega
    clear hw hd hq hf hfits hroom hfree
    go_enter Try.func28, Try.ntmps28
    go_wp2_with fail
    refine cb.mono ?_
    rintro e w1 ⟨rfl, r1, f1⟩
    go_wp2_with fail
    refine (cf _ r1).mono ?_
    rintro e w2 ⟨rfl, a2⟩
    have r2 := r1.al a2
    have f2 := f1.al a2
    have r3 := (r2.sB (m.b.s ++ s.toList)).ops (m.ops + 1)
    have f3 := (f2.trans (FD.set0 p 1 w2 (.string (tx (m.b.s ++ s.toList))))).trans (FD.set2 p 5 _ (.int .i64 (m.ops + 1 : Nat)))
    rw [← tx_append] at r3 f3
    obtain ⟨os0, os1, ok0, ok1, c0, c1, c2, c3, c4, oc5, g0, g1, g2⟩ := r2.cells
    have s1 : w2.cell? ⟨p, 1, none⟩ = some (Value.string (tx m.b.s)) := os1
    have k1 : w2.cell? ⟨p + 1, 1, none⟩ = some (Value.int .i64 m.b.k) := ok1
    have c5 : w2.cell? ⟨p + 2, 5, none⟩ = some (Value.int .i64 m.ops) := oc5
    have g01 := g0 1
    have g11 := g1 1
    have g25 := g2 5
    have z := tx_size m.b.s
    clear os0 os1 ok0 ok1 oc5 c2 c3 c4 g0 g1 g2
    clear r1 r2 f1 f2 a2 cf cb
    go_wp2_with fail
    go_region
    all_goals go_wp2
    all_goals go_ret
    all_goals exact ⟨rfl, r3, f3.drew⟩

set_option maxHeartbeats 2000000 in
theorem dsyncB {p : Nat} {m : M} {w : World} (h : RD p m w) (hm : m.ok) (ho : m.ops < 4611686018427387904) :
    Calls Try.prog 29 #[dtr p, .int .i64 1] w fun e w' => e = .returned (.int .i64 (m.sync 1).1) ∧ RD p (m.sync 1).2 w' ∧ FD p w w' := by
  by_cases hd : m.dead = true
  · have hw : m.sync 1 = (30, m.cut) := by unfold M.sync; rw [if_neg (by decide), if_pos hd]
    rw [hw]
    have cb := begin_yes (t := 1) h hm rfl hd
    clear hw hd
    go_enter Try.func29, Try.ntmps29
    go_wp2_with fail
    refine cb.mono ?_
    rintro e w1 ⟨rfl, r1, f1⟩
    go_wp2_with fail
    go_ret
    exact ⟨rfl, r1, f1⟩
  · have cb := begin_no (t := 1) h hm rfl hd
    have hw : m.sync 1 = (0, M.done { m.tick with b := ⟨m.b.s, m.b.s.length⟩ }) := by
      unfold M.sync; rw [if_neg (by decide), if_neg hd]; rfl
    rw [hw]
    have hroom := hm.room
    have hfits := hm.fits
    have hlen : m.b.s.length ≤ 4194304 := by omega
    clear hw hd hfits hroom
    go_enter Try.func29, Try.ntmps29
    go_wp2_with fail
    refine cb.mono ?_
    rintro e w2 ⟨rfl, r2, f2⟩
    have r3 := (r2.kB m.b.s.length).ops (m.ops + 1)
    have f3 := (f2.trans (FD.set1 p 1 w2 (.int .i64 m.b.s.length))).trans (FD.set2 p 5 _ (.int .i64 (m.ops + 1 : Nat)))
    obtain ⟨os0, os1, ok0, ok1, c0, c1, c2, c3, c4, oc5, g0, g1, g2⟩ := r2.cells
    have s1 : w2.cell? ⟨p, 1, none⟩ = some (Value.string (tx m.b.s)) := os1
    have k1 : w2.cell? ⟨p + 1, 1, none⟩ = some (Value.int .i64 m.b.k) := ok1
    have c5 : w2.cell? ⟨p + 2, 5, none⟩ = some (Value.int .i64 m.ops) := oc5
    have g01 := g0 1
    have g11 := g1 1
    have g25 := g2 5
    have z := tx_size m.b.s
    clear os0 os1 ok0 ok1 oc5 c2 c3 c4 g0 g1 g2
    clear r2 f2 cb
    go_wp2_with fail
    go_region
    all_goals go_wp2
    all_goals go_ret
    all_goals exact ⟨rfl, r3, f3.drew⟩

set_option maxHeartbeats 2000000 in
theorem dwipeB {p : Nat} {m : M} {w : World} (h : RD p m w) (hm : m.ok) (ho : m.ops < 4611686018427387904) :
    Calls Try.prog 30 #[dtr p, .int .i64 1] w fun e w' => e = .returned (.int .i64 (m.trim 1 0).1) ∧ RD p (m.trim 1 0).2 w' ∧ FD p w w' := by
  have hor : ¬ (isT 1 = false ∨ (0 : Int) < 0) := fun h' => h'.elim (fun h' => by cases h') (by decide)
  by_cases hd : m.dead = true
  · have hw : m.trim 1 0 = (30, m.cut) := by unfold M.trim; rw [if_neg hor, if_pos hd]
    rw [hw]
    have cb := begin_yes (t := 1) h hm rfl hd
    clear hw hd hor
    go_enter Try.func30, Try.ntmps30
    go_wp2_with fail
    refine cb.mono ?_
    rintro e w1 ⟨rfl, r1, f1⟩
    go_wp2_with fail
    go_ret
    exact ⟨rfl, r1, f1⟩
  · have cb := begin_no (t := 1) h hm rfl hd
    have hw : m.trim 1 0 = (0, M.done { m.tick with b := ⟨[], 0⟩ }) := by
      unfold M.trim; rw [if_neg hor, if_neg hd, if_neg (by show ¬ (m.b.s.length : Int) < 0; omega)]
      show (0, M.done { m.tick with b := ⟨m.b.s.take 0, min m.b.k 0⟩ }) = _
      rw [List.take_zero, Nat.min_zero]
    rw [hw]
    clear hw hd hor
    go_enter Try.func30, Try.ntmps30
    go_wp2_with fail
    refine cb.mono ?_
    rintro e w2 ⟨rfl, r2, f2⟩
    have r3 := ((r2.sB []).kB 0).ops (m.ops + 1)
    have f3 := ((f2.trans (FD.set0 p 1 w2 (.string (tx [])))).trans (FD.set1 p 1 _ (.int .i64 (0 : Nat)))).trans (FD.set2 p 5 _ (.int .i64 (m.ops + 1 : Nat)))
    obtain ⟨os0, os1, ok0, ok1, c0, c1, c2, c3, c4, oc5, g0, g1, g2⟩ := r2.cells
    have s1 : w2.cell? ⟨p, 1, none⟩ = some (Value.string (tx m.b.s)) := os1
    have k1 : w2.cell? ⟨p + 1, 1, none⟩ = some (Value.int .i64 m.b.k) := ok1
    have c5 : w2.cell? ⟨p + 2, 5, none⟩ = some (Value.int .i64 m.ops) := oc5
    have g01 := g0 1
    have g11 := g1 1
    have g25 := g2 5
    have z := tx_size m.b.s
    clear os0 os1 ok0 ok1 oc5 c2 c3 c4 g0 g1 g2
    clear r2 f2 cb
    go_wp2_with fail
    go_region
    all_goals go_wp2
    all_goals go_ret
    all_goals exact ⟨rfl, r3, f3.drew⟩

set_option maxHeartbeats 2000000 in
theorem dtrimB {p : Nat} {m : M} {w : World} (n : Int) (h : RD p m w) (hm : m.ok) (ho : m.ops < 4611686018427387904) (hn : ¬ n < 0) :
    Calls Try.prog 31 #[dtr p, .int .i64 1, .int .i64 n] w fun e w' => e = .returned (.int .i64 (m.trim 1 n).1) ∧ RD p (m.trim 1 n).2 w' ∧ FD p w w' := by
  have hor : ¬ (isT 1 = false ∨ n < 0) := fun h' => h'.elim (fun h' => by cases h') hn
  have hroom := hm.room
  have hfits := hm.fits
  have hlen : m.b.s.length ≤ 4194304 := by omega
  have hkl : m.b.k ≤ 4194304 := by have := hm.kb; omega
  by_cases hd : m.dead = true
  · have hw : m.trim 1 n = (30, m.cut) := by unfold M.trim; rw [if_neg hor, if_pos hd]
    rw [hw]
    have cb := begin_yes (t := 1) h hm rfl hd
    clear hw hd hor
    go_enter Try.func31, Try.ntmps31
    go_wp2_with fail
    refine cb.mono ?_
    rintro e w1 ⟨rfl, r1, f1⟩
    go_wp2_with fail
    go_ret
    exact ⟨rfl, r1, f1⟩
  have cb := begin_no (t := 1) h hm rfl hd
  by_cases hl : ((m.get 1).s.length : Int) < n
  · have hw : m.trim 1 n = (2, m.tick) := by unfold M.trim; rw [if_neg hor, if_neg hd, if_pos hl]
    rw [hw]
    have hl' : (m.b.s.length : Int) < n := hl
    clear hw hd hl hor
    go_enter Try.func31, Try.ntmps31
    go_wp2_with fail
    refine cb.mono ?_
    rintro e w2 ⟨rfl, r2, f2⟩
    obtain ⟨os0, os1, ok0, ok1, c0, c1, c2, c3, c4, oc5, g0, g1, g2⟩ := r2.cells
    have s1 : w2.cell? ⟨p, 1, none⟩ = some (Value.string (tx m.b.s)) := os1
    have k1 : w2.cell? ⟨p + 1, 1, none⟩ = some (Value.int .i64 m.b.k) := ok1
    have c5 : w2.cell? ⟨p + 2, 5, none⟩ = some (Value.int .i64 m.ops) := oc5
    have g01 := g0 1
    have g11 := g1 1
    have g25 := g2 5
    have z := tx_size m.b.s
    clear os0 os1 ok0 ok1 oc5 c2 c3 c4 g0 g1 g2
    go_wp2_with fail
    go_ret
    exact ⟨rfl, r2, f2⟩
  · have hw : m.trim 1 n = (0, M.done { m.tick with b := ⟨m.b.s.take n.toNat, min m.b.k n.toNat⟩ }) := by
      unfold M.trim; rw [if_neg hor, if_neg hd, if_neg hl]; rfl
    rw [hw]
    have hl' : n ≤ (m.b.s.length : Int) := by have : ¬ (m.b.s.length : Int) < n := hl; omega
    obtain ⟨k, rfl⟩ : ∃ k : Nat, n = k := ⟨n.toNat, by omega⟩
    simp only [Int.toNat_natCast] at *
    have hkk : k ≤ m.b.s.length := by omega
    clear hw hd hl hor hn
    have hcases : (k < m.b.k ∧ min m.b.k k = k) ∨ (¬ k < m.b.k ∧ min m.b.k k = m.b.k) := by omega
    rcases hcases with ⟨hc, hmin⟩ | ⟨hc, hmin⟩
    all_goals
      rw [hmin]
      clear hmin
      go_enter Try.func31, Try.ntmps31
      go_wp2_with fail
      refine cb.mono ?_
      rintro e w2 ⟨rfl, r2, f2⟩
      have r3 := fun q : Nat => ((r2.sB (m.b.s.take k)).kB q).ops (m.ops + 1)
      have f3 := fun q : Nat => ((f2.trans (FD.set0 p 1 w2 (.string (tx (m.b.s.take k))))).trans (FD.set1 p 1 _ (.int .i64 q))).trans (FD.set2 p 5 _ (.int .i64 (m.ops + 1 : Nat)))
      rw [← tx_take] at r3 f3
      obtain ⟨os0, os1, ok0, ok1, c0, c1, c2, c3, c4, oc5, g0, g1, g2⟩ := r2.cells
      have s1 : w2.cell? ⟨p, 1, none⟩ = some (Value.string (tx m.b.s)) := os1
      have k1 : w2.cell? ⟨p + 1, 1, none⟩ = some (Value.int .i64 m.b.k) := ok1
      have c5 : w2.cell? ⟨p + 2, 5, none⟩ = some (Value.int .i64 m.ops) := oc5
      have g01 := g0 1
      have g11 := g1 1
      have g25 := g2 5
      have z := tx_size m.b.s
      clear os0 os1 ok0 ok1 oc5 c2 c3 c4 g0 g1 g2
      clear r2 f2 cb
      go_wp2_with fail
      go_region
      all_goals go_wp2
      all_goals go_region
      all_goals go_wp2
      all_goals go_ret
      all_goals exact ⟨rfl, r3 _, (f3 _).drew.drew⟩

theorem d_write {p : Nat} {m : M} {w : World} (t : Int) (s : ByteArray) (h : RD p m w) (hm : m.ok) (ho : m.ops < 4611686018427387904) (hsz : s.size ≤ 70368744177664) :
    Calls Try.prog 28 #[dtr p, .int .i64 t, .string s] w fun e w' => e = .returned (.int .i64 (m.write t s.toList).1) ∧ RD p (m.write t s.toList).2 w' ∧ FD p w w' := by
  cases ht : isT t with
  | false => exact dwrite_x t s h hm ht
  | true =>
    rcases isT_cases ht with rfl | rfl
    · exact dwriteA s h hm ho hsz
    · exact dwriteB s h hm ho hsz
theorem d_sync {p : Nat} {m : M} {w : World} (t : Int) (h : RD p m w) (hm : m.ok) (ho : m.ops < 4611686018427387904) :
    Calls Try.prog 29 #[dtr p, .int .i64 t] w fun e w' => e = .returned (.int .i64 (m.sync t).1) ∧ RD p (m.sync t).2 w' ∧ FD p w w' := by
  cases ht : isT t with
  | false => exact dsync_x t h hm ht
  | true =>
    rcases isT_cases ht with rfl | rfl
    · exact dsyncA h hm ho
    · exact dsyncB h hm ho
theorem d_wipe {p : Nat} {m : M} {w : World} (t : Int) (h : RD p m w) (hm : m.ok) (ho : m.ops < 4611686018427387904) :
    Calls Try.prog 30 #[dtr p, .int .i64 t] w fun e w' => e = .returned (.int .i64 (m.trim t 0).1) ∧ RD p (m.trim t 0).2 w' ∧ FD p w w' := by
  cases ht : isT t with
  | false => exact dwipe_x t h hm ht
  | true =>
    rcases isT_cases ht with rfl | rfl
    · exact dwipeA h hm ho
    · exact dwipeB h hm ho
theorem d_trim {p : Nat} {m : M} {w : World} (t n : Int) (h : RD p m w) (hm : m.ok) (ho : m.ops < 4611686018427387904) :
    Calls Try.prog 31 #[dtr p, .int .i64 t, .int .i64 n] w fun e w' => e = .returned (.int .i64 (m.trim t n).1) ∧ RD p (m.trim t n).2 w' ∧ FD p w w' := by
  by_cases hn : n < 0
  · exact dtrim_neg t n h hn
  cases ht : isT t with
  | false => exact dtrim_x t n h hm hn ht
  | true =>
    rcases isT_cases ht with rfl | rfl
    · exact dtrimA n h hm ho hn
    · exact dtrimB n h hm ho hn

end Go.Proofs.Ytkkakcmgndmfjaa

/-
  The program's operations on a reel, told of the model: Write, Sync, Trim, Wipe, Read, Crash, New. Conditions: what may be of a reel; texts at most 2^46 bytes; fewer than 2^62 operations.
-/
import Derived.Test.YtglkapamkigdhaaDoorRlOps
import Derived.Deep.QuietTactic
import Derived.BigQuiet
namespace Go.Proofs.YtglkapamkigdhaaDoor.Rl
open Go.RowKit

abbrev ptr (b : Nat) : Value := .pointer (some ⟨b, 0, none⟩)
theorem power_yes {b : Nat} {m : M} {w : World} (h : RP b m w) (hm : m.ok) (hd : m.dead = true) : Calls Tryd.prog 41 #[ptr b] w fun e w' => e = .returned (.int .i64 30) ∧ RP b m.cut w' ∧ Fr b w w' := by
  have := c_power b m w h hm
  rw [if_pos hd, if_pos hd] at this
  exact this
theorem power_no {b : Nat} {m : M} {w : World} (h : RP b m w) (hm : m.ok) (hd : ¬ m.dead = true) : Calls Tryd.prog 41 #[ptr b] w fun e w' => e = .returned (.int .i64 0) ∧ RP b m.tick w' ∧ Fr b w w' := by
  have := c_power b m w h hm
  rw [if_neg hd, if_neg hd] at this
  exact this

theorem write_x {b : Nat} {m : M} {w : World} (t : Int) (s : ByteArray) (h : RP b m w) (ht : isT t = false) :
    Calls Tryd.prog 35 #[ptr b, .int .i64 t, .string s] w fun e w' => e = .returned (.int .i64 (m.write t s.toList).1) ∧ RP b (m.write t s.toList).2 w' ∧ Fr b w w' := by
  have hw : m.write t s.toList = (2, m) := by unfold M.write; rw [if_pos ht]
  rw [hw]
  clear hw
  go_enter Tryd.func35, Tryd.ntmps35
  go_wp2_with fail
  refine (c_tapeX b t _ ht).mono ?_
  rintro e w' ⟨rfl, rfl⟩
  go_wp2_with fail
  go_ret
  exact ⟨rfl, h, Fr.refl _ _⟩
theorem sync_x {b : Nat} {m : M} {w : World} (t : Int) (h : RP b m w) (ht : isT t = false) :
    Calls Tryd.prog 37 #[ptr b, .int .i64 t] w fun e w' => e = .returned (.int .i64 (m.sync t).1) ∧ RP b (m.sync t).2 w' ∧ Fr b w w' := by
  have hw : m.sync t = (2, m) := by unfold M.sync; rw [if_pos ht]
  rw [hw]
  clear hw
  go_enter Tryd.func37, Tryd.ntmps37
  go_wp2_with fail
  refine (c_tapeX b t _ ht).mono ?_
  rintro e w' ⟨rfl, rfl⟩
  go_wp2_with fail
  go_ret
  exact ⟨rfl, h, Fr.refl _ _⟩
theorem trim_x {b : Nat} {m : M} {w : World} (t n : Int) (h : RP b m w) (ht : isT t = false) :
    Calls Tryd.prog 34 #[ptr b, .int .i64 t, .int .i64 n] w fun e w' => e = .returned (.int .i64 (m.trim t n).1) ∧ RP b (m.trim t n).2 w' ∧ Fr b w w' := by
  have hw : m.trim t n = (2, m) := by unfold M.trim; rw [if_pos (.inl ht)]
  rw [hw]
  clear hw
  go_enter Tryd.func34, Tryd.ntmps34
  go_wp2_with fail
  refine (c_tapeX b t _ ht).mono ?_
  rintro e w' ⟨rfl, rfl⟩
  go_wp2_with fail
  go_ret
  exact ⟨rfl, h, Fr.refl _ _⟩
theorem read_x {b : Nat} {w : World} (t : Int) (ht : isT t = false) :
    Calls Tryd.prog 20 #[ptr b, .int .i64 t] w fun e w' => e = .returned (.tuple #[.string ⟨#[]⟩, .int .i64 2]) ∧ w = w' := by
  go_enter Tryd.func20, Tryd.ntmps20
  go_wp2_with fail
  refine (c_tapeX b t _ ht).mono ?_
  rintro e w' ⟨rfl, rfl⟩
  go_wp2_with fail
  go_ret2
  exact ⟨rfl, rfl⟩

set_option maxHeartbeats 1000000 in
theorem writeA {b : Nat} {m : M} {w : World} (s : ByteArray) (h : RP b m w) (hm : m.ok) (ho : m.ops < 4611686018427387904) (_hsz : s.size ≤ 70368744177664) :
    Calls Tryd.prog 35 #[ptr b, .int .i64 0, .string s] w fun e w' => e = .returned (.int .i64 (m.write 0 s.toList).1) ∧ RP b (m.write 0 s.toList).2 w' ∧ Fr b w w' := by
  by_cases hd : m.dead = true
  · have hw : m.write 0 s.toList = (30, m.cut) := by unfold M.write; rw [if_neg (by decide), if_pos hd]
    rw [hw]
    have cp := fun w (h : RP b m w) => power_yes h hm hd
    clear hw hd
    go_enter Tryd.func35, Tryd.ntmps35
    go_wp2_with fail
    refine (c_tape0 b _).mono ?_
    rintro e w' ⟨rfl, rfl⟩
    go_wp2_with fail
    refine (cp _ h).mono ?_
    rintro e w1 ⟨rfl, h1, f1⟩
    go_wp2_with fail
    go_ret
    exact ⟨rfl, h1, f1⟩
  have cp := fun w (h : RP b m w) => power_no h hm hd
  have cf := fun w (h : RP b m.tick w) => c_free b m.tick w h hm.tick
  have hfree : m.tick.free = (m.room : Int) - m.used := by unfold M.free M.tick M.used; simp only; omega
  have hroom := hm.room
  have hfits := hm.fits
  by_cases hf : m.room < m.used + s.toList.length
  · have hw : m.write 0 s.toList = (5, m.tick) := by unfold M.write; rw [if_neg (by decide), if_neg hd, if_pos hf]
    rw [hw]
    rw [size_toList] at hf
    obtain ⟨q, hq⟩ : ∃ q, q = m.tick.free := ⟨_, rfl⟩
    rw [← hq] at cf
    have hlt : q < (s.size : Int) := by rw [hq]; unfold M.used at *; omega
    clear hw hd hq
    go_enter Tryd.func35, Tryd.ntmps35
    go_wp2_with fail
    refine (c_tape0 b _).mono ?_
    rintro e w' ⟨rfl, rfl⟩
    go_wp2_with fail
    refine (cp _ h).mono ?_
    rintro e w1 ⟨rfl, h1, f1⟩
    go_wp2_with fail
    refine (cf _ h1).mono ?_
    rintro e w2 ⟨rfl, b2⟩
    go_wp2_with fail
    go_ret
    exact ⟨rfl, h1.below b2, f1.trans (Fr.of_below b2 h1.lt)⟩
  · have hw : m.write 0 s.toList = (0, M.done { m.tick with a := ⟨m.a.s ++ s.toList, m.a.k⟩ }) := by
      unfold M.write; rw [if_neg (by decide), if_neg hd, if_neg hf]; rfl
    rw [hw]
    rw [size_toList] at hf
    obtain ⟨q, hq⟩ : ∃ q, q = m.tick.free := ⟨_, rfl⟩
    rw [← hq] at cf
    have hge : (s.size : Int) ≤ q := by rw [hq]; unfold M.used at *; omega
    have hlen : m.a.s.length + s.size ≤ 140737488355328 := by unfold M.used at *; omega
    have hot : M.ops { m.tick with a := ⟨m.a.s ++ s.toList, m.a.k⟩ } < 4611686018427387904 := ho
    clear hw hd hq hf hfits hroom hfree
    go_enter Tryd.func35, Tryd.ntmps35
    go_wp2_with fail
    refine (c_tape0 b _).mono ?_
    rintro e w' ⟨rfl, rfl⟩
    go_wp2_with fail
    refine (cp _ h).mono ?_
    rintro e w1 ⟨rfl, h1, f1⟩
    go_wp2_with fail
    refine (cf _ h1).mono ?_
    rintro e w2 ⟨rfl, b2⟩
    have h2 := h1.below b2
    have f2 := f1.trans (Fr.of_below b2 h1.lt)
    go_wp2_with fail
    refine (c_writeA b m.tick s _ h2 hlen).mono ?_
    rintro e w3 ⟨rfl, h3, f3⟩
    have f3' := f2.trans f3
    go_wp2_with fail
    refine (c_done b _ _ h3 hot).mono ?_
    rintro e w4 ⟨rfl, h4, f4⟩
    go_wp2_with fail
    go_ret
    exact ⟨rfl, h4, f3'.trans f4⟩

set_option maxHeartbeats 1000000 in
theorem syncA {b : Nat} {m : M} {w : World} (h : RP b m w) (hm : m.ok) (ho : m.ops < 4611686018427387904) :
    Calls Tryd.prog 37 #[ptr b, .int .i64 0] w fun e w' => e = .returned (.int .i64 (m.sync 0).1) ∧ RP b (m.sync 0).2 w' ∧ Fr b w w' := by
  by_cases hd : m.dead = true
  · have hw : m.sync 0 = (30, m.cut) := by unfold M.sync; rw [if_neg (by decide), if_pos hd]
    rw [hw]
    have cp := fun w (h : RP b m w) => power_yes h hm hd
    clear hw hd
    go_enter Tryd.func37, Tryd.ntmps37
    go_wp2_with fail
    refine (c_tape0 b _).mono ?_
    rintro e w' ⟨rfl, rfl⟩
    go_wp2_with fail
    refine (cp _ h).mono ?_
    rintro e w1 ⟨rfl, h1, f1⟩
    go_wp2_with fail
    go_ret
    exact ⟨rfl, h1, f1⟩
  have cp := fun w (h : RP b m w) => power_no h hm hd
  have hw : m.sync 0 = (0, M.done { m.tick with a := ⟨m.a.s, m.a.s.length⟩ }) := by
    unfold M.sync; rw [if_neg (by decide), if_neg hd]; rfl
  rw [hw]
  have hot : M.ops { m.tick with a := ⟨m.a.s, m.a.s.length⟩ } < 4611686018427387904 := ho
  clear hw hd
  go_enter Tryd.func37, Tryd.ntmps37
  go_wp2_with fail
  refine (c_tape0 b _).mono ?_
  rintro e w' ⟨rfl, rfl⟩
  go_wp2_with fail
  refine (cp _ h).mono ?_
  rintro e w1 ⟨rfl, h1, f1⟩
  go_wp2_with fail
  refine (c_syncA b m.tick _ h1).mono ?_
  rintro e w3 ⟨rfl, h3, f3⟩
  have f3' := f1.trans f3
  go_wp2_with fail
  refine (c_done b _ _ h3 hot).mono ?_
  rintro e w4 ⟨rfl, h4, f4⟩
  go_wp2_with fail
  go_ret
  exact ⟨rfl, h4, f3'.trans f4⟩

set_option maxHeartbeats 1000000 in
theorem trimA {b : Nat} {m : M} {w : World} (n : Int) (h : RP b m w) (hm : m.ok) (ho : m.ops < 4611686018427387904) :
    Calls Tryd.prog 34 #[ptr b, .int .i64 0, .int .i64 n] w fun e w' => e = .returned (.int .i64 (m.trim 0 n).1) ∧ RP b (m.trim 0 n).2 w' ∧ Fr b w w' := by
  by_cases hn : n < 0
  · have hw : m.trim 0 n = (2, m) := by unfold M.trim; rw [if_pos (.inr hn)]
    rw [hw]
    clear hw
    go_enter Tryd.func34, Tryd.ntmps34
    go_wp2_with fail
    refine (c_tape0 b _).mono ?_
    rintro e w' ⟨rfl, rfl⟩
    go_wp2_with fail
    go_ret
    exact ⟨rfl, h, Fr.refl _ _⟩
  have hor : ¬ (isT 0 = false ∨ n < 0) := fun h' => h'.elim (fun h' => by cases h') hn
  by_cases hd : m.dead = true
  · have hw : m.trim 0 n = (30, m.cut) := by unfold M.trim; rw [if_neg hor, if_pos hd]
    rw [hw]
    have cp := fun w (h : RP b m w) => power_yes h hm hd
    clear hw hd
    go_enter Tryd.func34, Tryd.ntmps34
    go_wp2_with fail
    refine (c_tape0 b _).mono ?_
    rintro e w' ⟨rfl, rfl⟩
    go_wp2_with fail
    refine (cp _ h).mono ?_
    rintro e w1 ⟨rfl, h1, f1⟩
    go_wp2_with fail
    go_ret
    exact ⟨rfl, h1, f1⟩
  have cp := fun w (h : RP b m w) => power_no h hm hd
  by_cases hl : ((m.get 0).s.length : Int) < n
  · have hw : m.trim 0 n = (2, m.tick) := by unfold M.trim; rw [if_neg hor, if_neg hd, if_pos hl]
    rw [hw]
    have hl' : (m.a.s.length : Int) < n := hl
    clear hw hd hl hor
    go_enter Tryd.func34, Tryd.ntmps34
    go_wp2_with fail
    refine (c_tape0 b _).mono ?_
    rintro e w' ⟨rfl, rfl⟩
    go_wp2_with fail
    refine (cp _ h).mono ?_
    rintro e w1 ⟨rfl, h1, f1⟩
    obtain ⟨ao, cap, hcell⟩ : ∃ ao cap, w1.cell? ⟨b, 1, none⟩ = some (.slice ao m.a.s.length cap) := by
      obtain ⟨v0, v1, hb, h0, h1', hs⟩ := h1
      obtain ⟨ao, cap, rfl, _⟩ := h0.form
      exact ⟨ao, cap, by rw [Lib.cell_of_heap hb]; rfl⟩
    go_wp2_with fail
    go_ret
    exact ⟨rfl, h1, f1⟩
  · have hw : m.trim 0 n = (0, M.done { m.tick with a := ⟨m.a.s.take n.toNat, min m.a.k n.toNat⟩ }) := by
      unfold M.trim; rw [if_neg hor, if_neg hd, if_neg hl]; rfl
    rw [hw]
    have hl' : n ≤ (m.a.s.length : Int) := by have : ¬ (m.a.s.length : Int) < n := hl; omega
    have hot : M.ops { m.tick with a := ⟨m.a.s.take n.toNat, min m.a.k n.toNat⟩ } < 4611686018427387904 := ho
    obtain ⟨k, rfl⟩ : ∃ k : Nat, n = k := ⟨n.toNat, by omega⟩
    simp only [Int.toNat_natCast] at *
    have hkl : k ≤ m.a.s.length := by omega
    clear hw hd hl hor hn
    go_enter Tryd.func34, Tryd.ntmps34
    go_wp2_with fail
    refine (c_tape0 b _).mono ?_
    rintro e w' ⟨rfl, rfl⟩
    go_wp2_with fail
    refine (cp _ h).mono ?_
    rintro e w1 ⟨rfl, h1, f1⟩
    obtain ⟨ao, cap, hcell⟩ : ∃ ao cap, w1.cell? ⟨b, 1, none⟩ = some (.slice ao m.a.s.length cap) := by
      obtain ⟨v0, v1, hb, h0, h1', hs⟩ := h1
      obtain ⟨ao, cap, rfl, _⟩ := h0.form
      exact ⟨ao, cap, by rw [Lib.cell_of_heap hb]; rfl⟩
    go_wp2_with fail
    refine (c_trimA b m.tick k _ h1 hm.tick hkl).mono ?_
    rintro e w3 ⟨rfl, h3, f3⟩
    have f3' := f1.trans f3
    go_wp2_with fail
    refine (c_done b _ _ h3 hot).mono ?_
    rintro e w4 ⟨rfl, h4, f4⟩
    go_wp2_with fail
    go_ret
    exact ⟨rfl, h4, f3'.trans f4⟩

set_option maxHeartbeats 1000000 in
theorem writeB {b : Nat} {m : M} {w : World} (s : ByteArray) (h : RP b m w) (hm : m.ok) (ho : m.ops < 4611686018427387904) (_hsz : s.size ≤ 70368744177664) :
    Calls Tryd.prog 35 #[ptr b, .int .i64 1, .string s] w fun e w' => e = .returned (.int .i64 (m.write 1 s.toList).1) ∧ RP b (m.write 1 s.toList).2 w' ∧ Fr b w w' := by
  by_cases hd : m.dead = true
  · have hw : m.write 1 s.toList = (30, m.cut) := by unfold M.write; rw [if_neg (by decide), if_pos hd]
    rw [hw]
    have cp := fun w (h : RP b m w) => power_yes h hm hd
    clear hw hd
    go_enter Tryd.func35, Tryd.ntmps35
    go_wp2_with fail
    refine (c_tape1 b _).mono ?_
    rintro e w' ⟨rfl, rfl⟩
    go_wp2_with fail
    refine (cp _ h).mono ?_
    rintro e w1 ⟨rfl, h1, f1⟩
    go_wp2_with fail
    go_ret
    exact ⟨rfl, h1, f1⟩
  have cp := fun w (h : RP b m w) => power_no h hm hd
  have cf := fun w (h : RP b m.tick w) => c_free b m.tick w h hm.tick
  have hfree : m.tick.free = (m.room : Int) - m.used := by unfold M.free M.tick M.used; simp only; omega
  have hroom := hm.room
  have hfits := hm.fits
  by_cases hf : m.room < m.used + s.toList.length
  · have hw : m.write 1 s.toList = (5, m.tick) := by unfold M.write; rw [if_neg (by decide), if_neg hd, if_pos hf]
    rw [hw]
    rw [size_toList] at hf
    obtain ⟨q, hq⟩ : ∃ q, q = m.tick.free := ⟨_, rfl⟩
    rw [← hq] at cf
    have hlt : q < (s.size : Int) := by rw [hq]; unfold M.used at *; omega
    clear hw hd hq
    go_enter Tryd.func35, Tryd.ntmps35
    go_wp2_with fail
    refine (c_tape1 b _).mono ?_
    rintro e w' ⟨rfl, rfl⟩
    go_wp2_with fail
    refine (cp _ h).mono ?_
    rintro e w1 ⟨rfl, h1, f1⟩
    go_wp2_with fail
    refine (cf _ h1).mono ?_
    rintro e w2 ⟨rfl, b2⟩
    go_wp2_with fail
    go_ret
    exact ⟨rfl, h1.below b2, f1.trans (Fr.of_below b2 h1.lt)⟩
  · have hw : m.write 1 s.toList = (0, M.done { m.tick with b := ⟨m.b.s ++ s.toList, m.b.k⟩ }) := by
      unfold M.write; rw [if_neg (by decide), if_neg hd, if_neg hf]; rfl
    rw [hw]
    rw [size_toList] at hf
    obtain ⟨q, hq⟩ : ∃ q, q = m.tick.free := ⟨_, rfl⟩
    rw [← hq] at cf
    have hge : (s.size : Int) ≤ q := by rw [hq]; unfold M.used at *; omega
    have hlen : m.b.s.length + s.size ≤ 140737488355328 := by unfold M.used at *; omega
    have hot : M.ops { m.tick with b := ⟨m.b.s ++ s.toList, m.b.k⟩ } < 4611686018427387904 := ho
    clear hw hd hq hf hfits hroom hfree
    go_enter Tryd.func35, Tryd.ntmps35
    go_wp2_with fail
    refine (c_tape1 b _).mono ?_
    rintro e w' ⟨rfl, rfl⟩
    go_wp2_with fail
    refine (cp _ h).mono ?_
    rintro e w1 ⟨rfl, h1, f1⟩
    go_wp2_with fail
    refine (cf _ h1).mono ?_
    rintro e w2 ⟨rfl, b2⟩
    have h2 := h1.below b2
    have f2 := f1.trans (Fr.of_below b2 h1.lt)
    go_wp2_with fail
    refine (c_writeB b m.tick s _ h2 hlen).mono ?_
    rintro e w3 ⟨rfl, h3, f3⟩
    have f3' := f2.trans f3
    go_wp2_with fail
    refine (c_done b _ _ h3 hot).mono ?_
    rintro e w4 ⟨rfl, h4, f4⟩
    go_wp2_with fail
    go_ret
    exact ⟨rfl, h4, f3'.trans f4⟩

set_option maxHeartbeats 1000000 in
theorem syncB {b : Nat} {m : M} {w : World} (h : RP b m w) (hm : m.ok) (ho : m.ops < 4611686018427387904) :
    Calls Tryd.prog 37 #[ptr b, .int .i64 1] w fun e w' => e = .returned (.int .i64 (m.sync 1).1) ∧ RP b (m.sync 1).2 w' ∧ Fr b w w' := by
  by_cases hd : m.dead = true
  · have hw : m.sync 1 = (30, m.cut) := by unfold M.sync; rw [if_neg (by decide), if_pos hd]
    rw [hw]
    have cp := fun w (h : RP b m w) => power_yes h hm hd
    clear hw hd
    go_enter Tryd.func37, Tryd.ntmps37
    go_wp2_with fail
    refine (c_tape1 b _).mono ?_
    rintro e w' ⟨rfl, rfl⟩
    go_wp2_with fail
    refine (cp _ h).mono ?_
    rintro e w1 ⟨rfl, h1, f1⟩
    go_wp2_with fail
    go_ret
    exact ⟨rfl, h1, f1⟩
  have cp := fun w (h : RP b m w) => power_no h hm hd
  have hw : m.sync 1 = (0, M.done { m.tick with b := ⟨m.b.s, m.b.s.length⟩ }) := by
    unfold M.sync; rw [if_neg (by decide), if_neg hd]; rfl
  rw [hw]
  have hot : M.ops { m.tick with b := ⟨m.b.s, m.b.s.length⟩ } < 4611686018427387904 := ho
  clear hw hd
  go_enter Tryd.func37, Tryd.ntmps37
  go_wp2_with fail
  refine (c_tape1 b _).mono ?_
  rintro e w' ⟨rfl, rfl⟩
  go_wp2_with fail
  refine (cp _ h).mono ?_
  rintro e w1 ⟨rfl, h1, f1⟩
  go_wp2_with fail
  refine (c_syncB b m.tick _ h1).mono ?_
  rintro e w3 ⟨rfl, h3, f3⟩
  have f3' := f1.trans f3
  go_wp2_with fail
  refine (c_done b _ _ h3 hot).mono ?_
  rintro e w4 ⟨rfl, h4, f4⟩
  go_wp2_with fail
  go_ret
  exact ⟨rfl, h4, f3'.trans f4⟩

set_option maxHeartbeats 1000000 in
theorem trimB {b : Nat} {m : M} {w : World} (n : Int) (h : RP b m w) (hm : m.ok) (ho : m.ops < 4611686018427387904) :
    Calls Tryd.prog 34 #[ptr b, .int .i64 1, .int .i64 n] w fun e w' => e = .returned (.int .i64 (m.trim 1 n).1) ∧ RP b (m.trim 1 n).2 w' ∧ Fr b w w' := by
  by_cases hn : n < 0
  · have hw : m.trim 1 n = (2, m) := by unfold M.trim; rw [if_pos (.inr hn)]
    rw [hw]
    clear hw
    go_enter Tryd.func34, Tryd.ntmps34
    go_wp2_with fail
    refine (c_tape1 b _).mono ?_
    rintro e w' ⟨rfl, rfl⟩
    go_wp2_with fail
    go_ret
    exact ⟨rfl, h, Fr.refl _ _⟩
  have hor : ¬ (isT 1 = false ∨ n < 0) := fun h' => h'.elim (fun h' => by cases h') hn
  by_cases hd : m.dead = true
  · have hw : m.trim 1 n = (30, m.cut) := by unfold M.trim; rw [if_neg hor, if_pos hd]
    rw [hw]
    have cp := fun w (h : RP b m w) => power_yes h hm hd
    clear hw hd
    go_enter Tryd.func34, Tryd.ntmps34
    go_wp2_with fail
    refine (c_tape1 b _).mono ?_
    rintro e w' ⟨rfl, rfl⟩
    go_wp2_with fail
    refine (cp _ h).mono ?_
    rintro e w1 ⟨rfl, h1, f1⟩
    go_wp2_with fail
    go_ret
    exact ⟨rfl, h1, f1⟩
  have cp := fun w (h : RP b m w) => power_no h hm hd
  by_cases hl : ((m.get 1).s.length : Int) < n
  · have hw : m.trim 1 n = (2, m.tick) := by unfold M.trim; rw [if_neg hor, if_neg hd, if_pos hl]
    rw [hw]
    have hl' : (m.b.s.length : Int) < n := hl
    clear hw hd hl hor
    go_enter Tryd.func34, Tryd.ntmps34
    go_wp2_with fail
    refine (c_tape1 b _).mono ?_
    rintro e w' ⟨rfl, rfl⟩
    go_wp2_with fail
    refine (cp _ h).mono ?_
    rintro e w1 ⟨rfl, h1, f1⟩
    obtain ⟨ao, cap, hcell⟩ : ∃ ao cap, w1.cell? ⟨b, 3, none⟩ = some (.slice ao m.b.s.length cap) := by
      obtain ⟨v0, v1, hb, h0, h1', hs⟩ := h1
      obtain ⟨ao, cap, rfl, _⟩ := h1'.form
      exact ⟨ao, cap, by rw [Lib.cell_of_heap hb]; rfl⟩
    go_wp2_with fail
    go_ret
    exact ⟨rfl, h1, f1⟩
  · have hw : m.trim 1 n = (0, M.done { m.tick with b := ⟨m.b.s.take n.toNat, min m.b.k n.toNat⟩ }) := by
      unfold M.trim; rw [if_neg hor, if_neg hd, if_neg hl]; rfl
    rw [hw]
    have hl' : n ≤ (m.b.s.length : Int) := by have : ¬ (m.b.s.length : Int) < n := hl; omega
    have hot : M.ops { m.tick with b := ⟨m.b.s.take n.toNat, min m.b.k n.toNat⟩ } < 4611686018427387904 := ho
    obtain ⟨k, rfl⟩ : ∃ k : Nat, n = k := ⟨n.toNat, by omega⟩
    simp only [Int.toNat_natCast] at *
    have hkl : k ≤ m.b.s.length := by omega
    clear hw hd hl hor hn
    go_enter Tryd.func34, Tryd.ntmps34
    go_wp2_with fail
    refine (c_tape1 b _).mono ?_
    rintro e w' ⟨rfl, rfl⟩
    go_wp2_with fail
    refine (cp _ h).mono ?_
    rintro e w1 ⟨rfl, h1, f1⟩
    obtain ⟨ao, cap, hcell⟩ : ∃ ao cap, w1.cell? ⟨b, 3, none⟩ = some (.slice ao m.b.s.length cap) := by
      obtain ⟨v0, v1, hb, h0, h1', hs⟩ := h1
      obtain ⟨ao, cap, rfl, _⟩ := h1'.form
      exact ⟨ao, cap, by rw [Lib.cell_of_heap hb]; rfl⟩
    go_wp2_with fail
    refine (c_trimB b m.tick k _ h1 hm.tick hkl).mono ?_
    rintro e w3 ⟨rfl, h3, f3⟩
    have f3' := f1.trans f3
    go_wp2_with fail
    refine (c_done b _ _ h3 hot).mono ?_
    rintro e w4 ⟨rfl, h4, f4⟩
    go_wp2_with fail
    go_ret
    exact ⟨rfl, h4, f3'.trans f4⟩

theorem c_write {b : Nat} {m : M} {w : World} (t : Int) (s : ByteArray) (h : RP b m w) (hm : m.ok) (ho : m.ops < 4611686018427387904) (hsz : s.size ≤ 70368744177664) :
    Calls Tryd.prog 35 #[ptr b, .int .i64 t, .string s] w fun e w' => e = .returned (.int .i64 (m.write t s.toList).1) ∧ RP b (m.write t s.toList).2 w' ∧ Fr b w w' := by
  cases ht : isT t with
  | false => exact write_x t s h ht
  | true =>
    rcases isT_cases ht with rfl | rfl
    · exact writeA s h hm ho hsz
    · exact writeB s h hm ho hsz
theorem c_sync {b : Nat} {m : M} {w : World} (t : Int) (h : RP b m w) (hm : m.ok) (ho : m.ops < 4611686018427387904) :
    Calls Tryd.prog 37 #[ptr b, .int .i64 t] w fun e w' => e = .returned (.int .i64 (m.sync t).1) ∧ RP b (m.sync t).2 w' ∧ Fr b w w' := by
  cases ht : isT t with
  | false => exact sync_x t h ht
  | true =>
    rcases isT_cases ht with rfl | rfl
    · exact syncA h hm ho
    · exact syncB h hm ho
theorem c_trim {b : Nat} {m : M} {w : World} (t n : Int) (h : RP b m w) (hm : m.ok) (ho : m.ops < 4611686018427387904) :
    Calls Tryd.prog 34 #[ptr b, .int .i64 t, .int .i64 n] w fun e w' => e = .returned (.int .i64 (m.trim t n).1) ∧ RP b (m.trim t n).2 w' ∧ Fr b w w' := by
  cases ht : isT t with
  | false => exact trim_x t n h ht
  | true =>
    rcases isT_cases ht with rfl | rfl
    · exact trimA n h hm ho
    · exact trimB n h hm ho
theorem c_wipe {b : Nat} {m : M} {w : World} (t : Int) (h : RP b m w) (hm : m.ok) (ho : m.ops < 4611686018427387904) :
    Calls Tryd.prog 29 #[ptr b, .int .i64 t] w fun e w' => e = .returned (.int .i64 (m.trim t 0).1) ∧ RP b (m.trim t 0).2 w' ∧ Fr b w w' := by
  go_enter Tryd.func29, Tryd.ntmps29
  go_wp2_with fail
  refine (c_trim t 0 h hm ho).mono ?_
  rintro e w1 ⟨rfl, h1, f1⟩
  go_wp2_with fail
  go_ret
  exact ⟨rfl, h1, f1⟩

theorem new_bad (r : Int) (w : World) (h : r < 0 ∨ 4194304 < r) : Calls Tryd.prog 9 #[.int .i64 r] w fun e w' => e = .returned (.tuple #[.pointer none, .int .i64 2]) ∧ w = w' := by
  by_cases h0 : r < 0
  · go_enter Tryd.func9, Tryd.ntmps9
    go_wp2
    go_ret2
    exact ⟨rfl, rfl⟩
  · have h1 : 4194304 < r := by omega
    go_enter Tryd.func9, Tryd.ntmps9
    go_wp2
    go_ret2
    exact ⟨rfl, rfl⟩
theorem RP.made (room : Nat) (w : World) : RP w.heap.size (M.new room) (w.alloc (.cells #[.int .i64 room, .slice none 0 0, .int .i64 0, .slice none 0 0, .int .i64 0, .int .i64 (-1), .bool false, .int .i64 0] 55)) :=
  ⟨.slice none 0 0, .slice none 0 0, heap_alloc_new w _, World.ownsRow_nil _ _ _ _, World.ownsRow_nil _ _ _ _, fun _ h => by cases h⟩
theorem new_good (room : Nat) (w : World) (h : room ≤ 4194304) : Calls Tryd.prog 9 #[.int .i64 room] w fun e w' => e = .returned (.tuple #[ptr w.heap.size, .int .i64 0]) ∧ RP w.heap.size (M.new room) w' ∧ Below w.heap.size w w' ∧ w'.heap.size = w.heap.size + 1 := by
  go_enter Tryd.func9, Tryd.ntmps9
  go_wp2
  go_ret2
  exact ⟨rfl, RP.made room w, (Below.refl _ w).alloc (Nat.le_refl _) _, by simp⟩

end Go.Proofs.YtglkapamkigdhaaDoor.Rl

/-
  The program's Read and Crash of a reel, told of the model; a nil reel. Condition: what may be of a reel.
-/
import Derived.Test.YtglkapamkigdhaaDoorRlCalls
import Derived.Laws.BytesString
import Derived.Laws.IdiomStrings
import Derived.Deep.RegionWith
namespace Go.Proofs.YtglkapamkigdhaaDoor.Rl
open Go.RowKit

abbrev tx (s : Text) : ByteArray := ⟨s.toArray⟩
theorem tx_toList (s : Text) : (tx s).toList = s := by rw [ByteArray.toList_eq]
theorem tx_size (s : Text) : (tx s).size = s.length := by rw [← size_toList, tx_toList]
theorem tx_self (s : ByteArray) : tx s.toList = s := bytes_ext (tx_toList _)

theorem Rw.text {w : World} {b : Nat} {v : Value} {s : Text} (h : Rw w b v s) : (convert 50 9 v).run Tryd.prog w = .ok (.string (tx s)) w := by
  rcases h.2 with ⟨rfl, h0⟩ | ⟨g, cap, cur, rfl, hb, hg, h1, h2, h3, h4⟩
  · obtain rfl : s = [] := List.eq_nil_of_length_eq_zero h0
    rw [run_convert_bytes_string w 50 9 5 none 0 0 Tryd.underlying50 Tryd.underlying5 Tryd.underlying9]
    rfl
  · refine run_convert_bytes_back (P := Tryd.prog) w 50 9 5 ⟨g, 0, none⟩ cap s Tryd.underlying50 Tryd.underlying5 Tryd.underlying9 (fun j hj => ?_)
    have := h.cells (g := g) rfl j (.int .u8 (s[j].toNat : Int)) (by simp [Lib.byteCells, hj])
    exact this

theorem readA {b : Nat} {m : M} {w : World} (h : RP b m w) :
    Calls Tryd.prog 20 #[ptr b, .int .i64 0] w fun e w' => e = .returned (.tuple #[.string (tx (m.read 0).1), .int .i64 (m.read 0).2]) ∧ w = w' := by
  obtain ⟨v0, v1, hb, h0, h1, hs⟩ := h
  have g6 : w.cell? ⟨b, 6, none⟩ = some (.bool m.off) := by rw [Lib.cell_of_heap hb]; rfl
  have g1 : w.cell? ⟨b, 1, none⟩ = some v0 := by rw [Lib.cell_of_heap hb]; rfl
  have ht := h0.text
  cases hof : m.off with
  | true =>
    have hr : m.read 0 = ([], 30) := by unfold M.read; rw [if_neg (by decide), if_pos hof]
    rw [hr]
    rw [hof] at g6
    clear hr hof
    go_enter Tryd.func20, Tryd.ntmps20
    go_wp2_with fail
    refine (c_tape0 b _).mono ?_
    rintro e w' ⟨rfl, rfl⟩
    go_wp2_with fail
    go_ret2
    exact ⟨rfl, rfl⟩
  | false =>
    have hr : m.read 0 = (m.a.s, 0) := by unfold M.read; rw [if_neg (by decide), if_neg (by rw [hof]; decide)]; rfl
    rw [hr]
    rw [hof] at g6
    clear hr hof
    obtain ⟨ao, cap, rfl, _⟩ := h0.form
    go_enter Tryd.func20, Tryd.ntmps20
    go_wp2_with fail
    refine (c_tape0 b _).mono ?_
    rintro e w' ⟨rfl, rfl⟩
    go_wp2_with fail
    go_ret2
    exact ⟨rfl, rfl⟩
theorem readB {b : Nat} {m : M} {w : World} (h : RP b m w) :
    Calls Tryd.prog 20 #[ptr b, .int .i64 1] w fun e w' => e = .returned (.tuple #[.string (tx (m.read 1).1), .int .i64 (m.read 1).2]) ∧ w = w' := by
  obtain ⟨v0, v1, hb, h0, h1, hs⟩ := h
  have g6 : w.cell? ⟨b, 6, none⟩ = some (.bool m.off) := by rw [Lib.cell_of_heap hb]; rfl
  have g1 : w.cell? ⟨b, 3, none⟩ = some v1 := by rw [Lib.cell_of_heap hb]; rfl
  have ht := h1.text
  cases hof : m.off with
  | true =>
    have hr : m.read 1 = ([], 30) := by unfold M.read; rw [if_neg (by decide), if_pos hof]
    rw [hr]
    rw [hof] at g6
    clear hr hof
    go_enter Tryd.func20, Tryd.ntmps20
    go_wp2_with fail
    refine (c_tape1 b _).mono ?_
    rintro e w' ⟨rfl, rfl⟩
    go_wp2_with fail
    go_ret2
    exact ⟨rfl, rfl⟩
  | false =>
    have hr : m.read 1 = (m.b.s, 0) := by unfold M.read; rw [if_neg (by decide), if_neg (by rw [hof]; decide)]; rfl
    rw [hr]
    rw [hof] at g6
    clear hr hof
    obtain ⟨ao, cap, rfl, _⟩ := h1.form
    go_enter Tryd.func20, Tryd.ntmps20
    go_wp2_with fail
    refine (c_tape1 b _).mono ?_
    rintro e w' ⟨rfl, rfl⟩
    go_wp2_with fail
    go_ret2
    exact ⟨rfl, rfl⟩
theorem c_read {b : Nat} {m : M} {w : World} (t : Int) (h : RP b m w) :
    Calls Tryd.prog 20 #[ptr b, .int .i64 t] w fun e w' => e = .returned (.tuple #[.string (tx (m.read t).1), .int .i64 (m.read t).2]) ∧ w = w' := by
  cases ht : isT t with
  | false =>
    have hr : m.read t = ([], 2) := by unfold M.read; rw [if_pos ht]
    rw [hr]
    exact read_x t ht
  | true =>
    rcases isT_cases ht with rfl | rfl
    · exact readA h
    · exact readB h

theorem RP.drew {b : Nat} {m : M} {w : World} (h : RP b m w) : RP b m w.drew := h
theorem M.ok.crashA {m : M} (h : m.ok) (a0 : Int) (u : UInt8) : M.ok { m with a := m.a.crash a0 u } := by
  obtain ⟨p1, p2, p3⟩ := Tape.crash_k h.ka a0 u
  have := h.fits
  exact ⟨by show (m.a.crash a0 u).k ≤ (m.a.crash a0 u).s.length; omega, h.kb, by show (m.a.crash a0 u).s.length + m.b.s.length ≤ m.room; omega, h.room, h.lo, h.hi, h.ops⟩
abbrev tailV (k0 k1 : Int) (u : UInt8) : Value := .agg #[.int .i64 k0, .int .i64 k1, .int .u8 u.toNat]
set_option maxHeartbeats 2000000 in
theorem c_crash {b : Nat} {m : M} {w : World} (k0 k1 : Int) (u : UInt8) (h : RP b m w) (hm : m.ok) (h0 : -9223372036854775808 ≤ k0) (h1 : k0 ≤ 9223372036854775807) (h2 : -9223372036854775808 ≤ k1) (h3 : k1 ≤ 9223372036854775807) :
    Calls Tryd.prog 16 #[ptr b, tailV k0 k1 u] w fun e w' => e = .returned (.tuple #[]) ∧ RP b (m.crash k0 k1 u) w' ∧ Fr b w w' := by
  have hlt := h.lt
  have hR0 := h.below ((Below.refl _ w).alloc (Nat.le_refl _) (.cells #[.int .i64 k0, .int .i64 k1, .int .u8 u.toNat] 36))
  go_enter Tryd.func16, Tryd.ntmps16
  go_wp2
  refine wp_loop_rounds 3 ?_
  rw [rounds_succ]
  go_wp2
  go_region_with (go_at_call 30; refine (c_crashA b m k0 u _ hR0.drew hm h0 h1).mono ?_; rintro e w1 ⟨rfl, p1, f1⟩)
  all_goals
    have B1 := Fr.other f1 hR0.drew w.heap.size #[.int .i64 k0, .int .i64 k1, .int .u8 u.toNat] 36 (0, 0) (heap_alloc_new w _) (by omega) (by decide)
    have q1 : w1.cell? ⟨w.heap.size, 1, none⟩ = some (.int .i64 k1) := by rw [Lib.cell_of_heap B1]; rfl
    have q2 : w1.cell? ⟨w.heap.size, 2, none⟩ = some (.int .u8 u.toNat) := by rw [Lib.cell_of_heap B1]; rfl
    go_wp2
    rw [rounds_succ]
    go_wp2
    go_region_with (go_at_call 30; refine (c_crashB b { m with a := m.a.crash k0 u } k1 u _ p1.drew (hm.crashA k0 u) h2 h3).mono ?_; rintro e w2 ⟨rfl, p2, f2⟩)
  all_goals
    have ff := ((Fr.alloc b w (.cells #[.int .i64 k0, .int .i64 k1, .int .u8 u.toNat] 36) hlt).drew.trans f1).drew.trans f2
    have hc5 : ∃ x, w2.cell? ⟨b, 5, none⟩ = some x := by obtain ⟨v0, v1, hb, _⟩ := p2; exact ⟨_, by rw [Lib.cell_of_heap hb]; rfl⟩
    have hc6 : ∃ x, w2.cell? ⟨b, 6, none⟩ = some x := by obtain ⟨v0, v1, hb, _⟩ := p2; exact ⟨_, by rw [Lib.cell_of_heap hb]; rfl⟩
    have hf5 : w2.frozen? ⟨b, 5, none⟩ = false := by obtain ⟨v0, v1, hb, _⟩ := p2; exact Lib.frozen_of_heap hb 5
    have hf6 : w2.frozen? ⟨b, 6, none⟩ = false := by obtain ⟨v0, v1, hb, _⟩ := p2; exact Lib.frozen_of_heap hb 6
    obtain ⟨x5, hc5⟩ := hc5
    obtain ⟨x6, hc6⟩ := hc6
    have fin : RP b (m.crash k0 k1 u) ((w2.setCell ⟨b, 6, none⟩ (.bool false)).setCell ⟨b, 5, none⟩ (.int .i64 (-1))) := (p2.off false).left (-1)
    have fin2 := (ff.trans (Fr.set b 6 w2 (.bool false))).trans (Fr.set b 5 _ (.int .i64 (-1)))
    clear ff p1 p2 f1 f2 B1 q1 q2
    go_wp2
    rw [rounds_succ]
    go_wp2
    go_end0
    exact ⟨rfl, fin, fin2⟩

end Go.Proofs.YtglkapamkigdhaaDoor.Rl

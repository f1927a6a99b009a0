/-
  The program's ledger, told of the model: how it is held, what a call may touch; must, takes, put, Add, Base, Epoch, Records, Broken; a nil one. Conditions: what may be of a reel; texts below 2^46 bytes; numbers that are numbers.
-/
import Derived.Test.YtglkapamkigdhaaGreatDoorBytes
import Derived.Test.YtglkapamkigdhaaGreatDoorRlLedger
import Derived.Test.YtglkapamkigdhaaGreatDoorRlBll
namespace Go.Proofs.YtglkapamkigdhaaGreatDoor.Rl
open Go.RowKit
open Go.Proofs.YtglkapamkigdhaaGreatDoor.M (pageT kBase kRec inR)

/-- Block q of w is the ledger l of the reel at block b, as the program holds it. -/
def LP (q b : Nat) (l : Lg) (w : World) : Prop := w.heap[q]? = some (.cells #[ptr b, .int .i64 l.t, .int .i64 l.epoch, .int .i64 l.n, .bool l.broken] 76 (0, 0))
/-- What a call on the ledger at block q, of the reel at block b, may touch. -/
structure FL (b q : Nat) (w w' : World) : Prop where
  below : ∀ N, N ≤ b → N ≤ q → Below N w w'
  old : ∀ k, k < w.heap.size → ¬ Mine w b k → k ≠ q → w'.heap[k]? = w.heap[k]?
  mine : ∀ k, k < w.heap.size → Mine w' b k → Mine w b k
theorem FL.refl (b q : Nat) (w : World) : FL b q w w := ⟨fun _ _ _ => Below.refl _ _, fun _ _ _ _ => rfl, fun _ _ h => h⟩
theorem FL.of_fr {b q : Nat} {w w' : World} (f : Fr b w w') : FL b q w w' := ⟨fun _ h _ => f.below.mono h, fun k hk hm _ => f.old k hk hm, f.mine⟩
theorem FL.trans {b q : Nat} {w1 w2 w3 : World} (h : FL b q w1 w2) (k : FL b q w2 w3) (hs : w1.heap.size ≤ w2.heap.size) : FL b q w1 w3 :=
  ⟨fun N h1 h2 => (h.below N h1 h2).trans (k.below N h1 h2),
   fun i hi hn hq => (k.old i (Nat.lt_of_lt_of_le hi hs) (fun hm => hn (h.mine i hi hm)) hq).trans (h.old i hi hn hq),
   fun i hi hm => h.mine i hi (k.mine i (Nat.lt_of_lt_of_le hi hs) hm)⟩
theorem FL.size {b q : Nat} {w w' : World} (h : FL b q w w') : w.heap.size ≤ w'.heap.size := (h.below 0 (Nat.zero_le _) (Nat.zero_le _)).size
theorem FL.tr {b q : Nat} {w1 w2 w3 : World} (h : FL b q w1 w2) (k : FL b q w2 w3) : FL b q w1 w3 := h.trans k h.size
theorem FL.of_below {b q : Nat} {w w' : World} (h : Below w.heap.size w w') (hb : b < w.heap.size) : FL b q w w' := FL.of_fr (Fr.of_below h hb)
theorem FL.set {b q : Nat} (i : Nat) {w : World} (u : Value) (hbq : b ≠ q) : FL b q w (w.setCell ⟨q, i, none⟩ u) :=
  ⟨fun N _ h => (Below.refl N w).setCell (p := ⟨q, i, none⟩) h u, fun _ _ _ hq => Below.heap_setCell _ _ _ _ hq, fun _ _ hm => hm.same (Below.heap_setCell _ _ _ _ hbq)⟩
theorem FL.drew {b q : Nat} {w w' : World} (h : FL b q w w') : FL b q w w'.drew := ⟨fun N h1 h2 => (h.below N h1 h2).drew, h.old, h.mine⟩
theorem FL.other {b q : Nat} {m : M} {w w' : World} (f : FL b q w w') (h : RP b m w) (k : Nat) (o : Array Value) (e : TypeId) (fz : Nat × Nat) (hk : w.heap[k]? = some (.cells o e fz)) (hb : k ≠ b) (hq : k ≠ q) (he : e ≠ 5) : w'.heap[k]? = some (.cells o e fz) := by
  rw [f.old k (lt_of_block hk) ?_ hq]
  · exact hk
  · intro hm
    rcases (h.mine hm).2 with rfl | ⟨o', f', h5⟩
    · exact hb rfl
    · rw [hk] at h5
      injection h5 with h5
      injection h5 with _ h5
      exact he h5
theorem LP.lt {q b : Nat} {l : Lg} {w : World} (h : LP q b l w) : q < w.heap.size := lt_of_block h
theorem LP.ne {q b : Nat} {l : Lg} {m : M} {w : World} (h : LP q b l w) (hr : RP b m w) : q ≠ b := by
  rintro rfl
  obtain ⟨v0, v1, hb, _⟩ := hr
  rw [show w.heap[q]? = _ from h] at hb
  injection hb with hb
  injection hb with _ hb
  exact absurd hb (by decide)
theorem LP.below {q b : Nat} {l : Lg} {w w' : World} (h : LP q b l w) (hk : Below w.heap.size w w') : LP q b l w' := by
  unfold LP; rw [hk.block q h.lt]; exact h
theorem LP.fr {q b : Nat} {l : Lg} {m : M} {w w' : World} (h : LP q b l w) (hr : RP b m w) (f : Fr b w w') : LP q b l w' := f.other hr q _ _ _ h (h.ne hr) (by decide)
/-- a cell of the ledger is written: the reel stays -/
theorem RP.lset {q b : Nat} {m : M} {l : Lg} {w : World} (h : RP b m w) (hl : LP q b l w) (i : Nat) (u : Value) : RP b m (w.setCell ⟨q, i, none⟩ u) := by
  have hne := hl.ne h
  have keep : ∀ k, Mine w b k → (w.setCell ⟨q, i, none⟩ u).heap[k]? = w.heap[k]? := by
    intro k hk
    refine Below.heap_setCell _ _ _ _ ?_
    rintro rfl
    rcases (h.mine hk).2 with rfl | ⟨o', f', h5⟩
    · exact hne rfl
    · rw [show w.heap[_]? = _ from hl] at h5
      injection h5 with h5
      injection h5 with _ h5
      exact absurd h5 (by decide)
  obtain ⟨v0, v1, hb, h0, h1, hs⟩ := h
  exact ⟨v0, v1, by rw [keep b (.inl rfl)]; exact hb, h0.keep fun g hg => keep g (mine0 hb hg), h1.keep fun g hg => keep g (mine1 hb hg), hs⟩
structure LC (q b : Nat) (l : Lg) (w : World) : Prop where
  c0 : w.cell? ⟨q, 0, none⟩ = some (ptr b)
  c1 : w.cell? ⟨q, 1, none⟩ = some (.int .i64 l.t)
  c2 : w.cell? ⟨q, 2, none⟩ = some (.int .i64 l.epoch)
  c3 : w.cell? ⟨q, 3, none⟩ = some (.int .i64 l.n)
  c4 : w.cell? ⟨q, 4, none⟩ = some (.bool l.broken)
  f : ∀ i, w.frozen? ⟨q, i, none⟩ = false
theorem LP.cells {q b : Nat} {l : Lg} {w : World} (h : LP q b l w) : LC q b l w :=
  ⟨by rw [Lib.cell_of_heap h]; rfl, by rw [Lib.cell_of_heap h]; rfl, by rw [Lib.cell_of_heap h]; rfl, by rw [Lib.cell_of_heap h]; rfl, by rw [Lib.cell_of_heap h]; rfl, fun i => Lib.frozen_of_heap h i⟩
theorem LP.set4 {q b : Nat} {l : Lg} {w : World} (h : LP q b l w) (x : Bool) : LP q b { l with broken := x } (w.setCell ⟨q, 4, none⟩ (.bool x)) := heap_setCell_same w q 4 _ _ _ h
theorem LP.set3 {q b : Nat} {l : Lg} {w : World} (h : LP q b l w) (x : Nat) : LP q b { l with n := x } (w.setCell ⟨q, 3, none⟩ (.int .i64 x)) := heap_setCell_same w q 3 _ _ _ h
theorem LP.set2 {q b : Nat} {l : Lg} {w : World} (h : LP q b l w) (x : Int) : LP q b { l with epoch := x } (w.setCell ⟨q, 2, none⟩ (.int .i64 x)) := heap_setCell_same w q 2 _ _ _ h
theorem LP.set1 {q b : Nat} {l : Lg} {w : World} (h : LP q b l w) (x : Int) : LP q b { l with t := x } (w.setCell ⟨q, 1, none⟩ (.int .i64 x)) := heap_setCell_same w q 1 _ _ _ h

/-! ### small calls -/
theorem l_other (t : Int) (w : World) (ht : isT t = true) : Calls Tryz.prog 41 #[.int .i64 t] w fun e w' => e = .returned (.int .i64 (1 - t)) ∧ w = w' := by
  rcases isT_cases ht with rfl | rfl
  all_goals
    go_enter Tryz.func41, Tryz.ntmps41
    go_wp2
    go_ret
    exact ⟨rfl, rfl⟩
theorem l_must {q b : Nat} {l : Lg} {m : M} {w : World} (e : Int) (h : LP q b l w) (hr : RP b m w) :
    Calls Tryz.prog 42 #[ptr q, .int .i64 e] w fun r w' => r = .returned (.int .i64 e) ∧ LP q b (if e = 0 then l else { l with broken := true }) w' ∧ RP b m w' ∧ FL b q w w' := by
  obtain ⟨c0, c1, c2, c3, c4, f⟩ := h.cells
  have hne := h.ne hr
  have hrs := hr.lset h 4 (.bool true)
  have hls := h.set4 true
  by_cases he : e = 0
  · subst he
    rw [if_pos rfl]
    go_enter Tryz.func42, Tryz.ntmps42
    go_wp2
    go_ret
    exact ⟨rfl, h, hr, FL.refl _ _ _⟩
  · rw [if_neg he]
    have hz : (e != 0) = true := by simpa using he
    clear he
    go_enter Tryz.func42, Tryz.ntmps42
    go_wp2
    go_ret
    exact ⟨rfl, hls, hrs, FL.set 4 _ (Ne.symm hne)⟩
def takesM (l : Lg) (s : ByteArray) : Int := if l.broken = true then 40 else if 524288 < s.size then 1 else 0
theorem l_takes {q b : Nat} {l : Lg} {w : World} (s : ByteArray) (h : LP q b l w) :
    Calls Tryz.prog 38 #[ptr q, .string s] w fun r w' => r = .returned (.int .i64 (takesM l s)) ∧ w = w' := by
  obtain ⟨c0, c1, c2, c3, c4, f⟩ := h.cells
  unfold takesM
  cases hb : l.broken with
  | true =>
    rw [hb] at c4
    rw [if_pos rfl]
    clear hb h
    go_enter Tryz.func38, Tryz.ntmps38
    go_wp2
    go_ret
    exact ⟨rfl, rfl⟩
  | false =>
    rw [hb] at c4
    rw [if_neg (by decide)]
    by_cases hs : 524288 < s.size
    · rw [if_pos hs]
      have hs' : (524288 : Int) < (s.size : Int) := by omega
      clear hb h hs
      go_enter Tryz.func38, Tryz.ntmps38
      go_wp2
      go_ret
      exact ⟨rfl, rfl⟩
    · rw [if_neg hs]
      have hs' : ¬ (524288 : Int) < (s.size : Int) := by omega
      clear hb h hs
      go_enter Tryz.func38, Tryz.ntmps38
      go_wp2
      go_ret
      exact ⟨rfl, rfl⟩
theorem takes_nil (s : ByteArray) (w : World) : Calls Tryz.prog 38 #[.pointer none, .string s] w fun r w' => r = .returned (.int .i64 7) ∧ w = w' := by
  go_enter Tryz.func38, Tryz.ntmps38
  go_wp2
  go_ret
  exact ⟨rfl, rfl⟩
theorem add_nil (s : ByteArray) (w : World) : Calls Tryz.prog 13 #[.pointer none, .string s] w fun r w' => r = .returned (.int .i64 7) ∧ w = w' := by
  go_enter Tryz.func13, Tryz.ntmps13
  go_wp2_with fail
  refine (takes_nil s _).mono ?_
  rintro e w' ⟨rfl, rfl⟩
  go_wp2_with fail
  go_ret
  exact ⟨rfl, rfl⟩
theorem base_nil (s : ByteArray) (w : World) : Calls Tryz.prog 15 #[.pointer none, .string s] w fun r w' => r = .returned (.int .i64 7) ∧ w = w' := by
  go_enter Tryz.func15, Tryz.ntmps15
  go_wp2_with fail
  refine (takes_nil s _).mono ?_
  rintro e w' ⟨rfl, rfl⟩
  go_wp2_with fail
  go_ret
  exact ⟨rfl, rfl⟩
theorem epoch_nil (w : World) : Calls Tryz.prog 23 #[.pointer none] w fun r w' => r = .returned (.int .i64 0) ∧ w = w' := by
  go_enter Tryz.func23, Tryz.ntmps23
  go_wp2
  go_ret
  exact ⟨rfl, rfl⟩
theorem records_nil (w : World) : Calls Tryz.prog 24 #[.pointer none] w fun r w' => r = .returned (.int .i64 0) ∧ w = w' := by
  go_enter Tryz.func24, Tryz.ntmps24
  go_wp2
  go_ret
  exact ⟨rfl, rfl⟩
theorem broken_nil (w : World) : Calls Tryz.prog 25 #[.pointer none] w fun r w' => r = .returned (.bool false) ∧ w = w' := by
  go_enter Tryz.func25, Tryz.ntmps25
  go_wp2
  go_ret
  exact ⟨rfl, rfl⟩
theorem l_epoch {q b : Nat} {l : Lg} {w : World} (h : LP q b l w) : Calls Tryz.prog 23 #[ptr q] w fun r w' => r = .returned (.int .i64 l.epoch) ∧ w = w' := by
  obtain ⟨c0, c1, c2, c3, c4, f⟩ := h.cells
  go_enter Tryz.func23, Tryz.ntmps23
  go_wp2
  go_ret
  exact ⟨rfl, rfl⟩
theorem l_records {q b : Nat} {l : Lg} {w : World} (h : LP q b l w) : Calls Tryz.prog 24 #[ptr q] w fun r w' => r = .returned (.int .i64 (l.n : Int)) ∧ w = w' := by
  obtain ⟨c0, c1, c2, c3, c4, f⟩ := h.cells
  go_enter Tryz.func24, Tryz.ntmps24
  go_wp2
  go_ret
  exact ⟨rfl, rfl⟩
theorem l_broken {q b : Nat} {l : Lg} {w : World} (h : LP q b l w) : Calls Tryz.prog 25 #[ptr q] w fun r w' => r = .returned (.bool l.broken) ∧ w = w' := by
  obtain ⟨c0, c1, c2, c3, c4, f⟩ := h.cells
  go_enter Tryz.func25, Tryz.ntmps25
  go_wp2
  go_ret
  exact ⟨rfl, rfl⟩

end Go.Proofs.YtglkapamkigdhaaGreatDoor.Rl

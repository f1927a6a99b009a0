/-
  What is done with one tape, told of the reel: write, sync, trim, a crash. Condition: what may be of a reel.
-/
import Derived.Test.YtglkapamkigdhaaDoorRlCrash
import Derived.Laws.BitsAllLaws
namespace Go.Proofs.YtglkapamkigdhaaDoor.Rl
open Go.RowKit

theorem Rw.ne {w : World} {b : Nat} {v : Value} {s : Text} (h : Rw w b v s) : v.ownBlock ≠ some b := fun e => by have := (h.lt b e).1; omega
theorem Rw.typed {w : World} {b : Nat} {v : Value} {s : Text} (h : Rw w b v s) {k : Nat} {o : Array Value} {e : TypeId} {f : Nat × Nat} (hk : w.heap[k]? = some (.cells o e f)) (he : e ≠ 5) : v.ownBlock ≠ some k := fun hv => by
  rcases h.2 with ⟨rfl, _⟩ | ⟨g, cap, cur, rfl, _, hg, _⟩
  · simp [Value.ownBlock] at hv
  · simp [Value.ownBlock] at hv
    subst hv
    rw [hg] at hk
    injection hk with hk
    injection hk with _ h5 _
    exact he h5.symm
theorem mine0 {w : World} {b : Nat} {m : M} {v0 v1 : Value} (hb : w.heap[b]? = some (.cells (arr m v0 v1) 55 (0, 0))) {k : Nat} (h : v0.ownBlock = some k) : Mine w b k := .inr ⟨_, _, _, v0, hb, .inl rfl, h⟩
theorem mine1 {w : World} {b : Nat} {m : M} {v0 v1 : Value} (hb : w.heap[b]? = some (.cells (arr m v0 v1) 55 (0, 0))) {k : Nat} (h : v1.ownBlock = some k) : Mine w b k := .inr ⟨_, _, _, v1, hb, .inr rfl, h⟩
/-- What is of a reel is there; and it is the reel's block, or a row of bytes. -/
theorem RP.mine {b : Nat} {m : M} {w : World} (h : RP b m w) {k : Nat} (hm : Mine w b k) : k < w.heap.size ∧ (k = b ∨ ∃ o f, w.heap[k]? = some (.cells o 5 f)) := by
  obtain ⟨v0, v1, hb, h0, h1, hs⟩ := h
  have row : ∀ v s, Rw w b v s → v.ownBlock = some k → k < w.heap.size ∧ (k = b ∨ ∃ o f, w.heap[k]? = some (.cells o 5 f)) := by
    intro v s hv hk
    refine ⟨(hv.lt k hk).2, .inr ?_⟩
    rcases hv.2 with ⟨rfl, _⟩ | ⟨g, cap, cur, rfl, _, hg, _⟩
    · simp [Value.ownBlock] at hk
    · simp [Value.ownBlock] at hk
      subst hk
      exact ⟨_, _, hg⟩
  rcases hm with rfl | ⟨cs, T, f, v, hh, hv, hk⟩
  · exact ⟨lt_of_block hb, .inl rfl⟩
  · rw [hb] at hh
    injection hh with hh
    injection hh with e1 _ _
    subst e1
    rcases hv with hv | hv
    · simp [arr] at hv; subst hv; exact row _ _ h0 hk
    · simp [arr] at hv; subst hv; exact row _ _ h1 hk
/-- What is no row of bytes, and not the reel, stays. -/
theorem Fr.other {b : Nat} {m : M} {w w' : World} (f : Fr b w w') (h : RP b m w) (k : Nat) (o : Array Value) (e : TypeId) (fz : Nat × Nat) (hk : w.heap[k]? = some (.cells o e fz)) (hb : k ≠ b) (he : e ≠ 5) : w'.heap[k]? = some (.cells o e fz) := by
  rw [f.old k (lt_of_block hk) ?_]
  · exact hk
  · intro hm
    rcases (h.mine hm).2 with e1 | ⟨o', f', h'⟩
    · exact hb e1
    · rw [hk] at h'; injection h' with h'; injection h' with _ h5 _; exact he h5
/-- A row that was written, and laid into the reel. -/
theorem Fr.wrote {w w1 : World} {b o : Nat} {v v' : Value} {s : Text} (h : Rw w b v s) (hb : b < w.heap.size) (hm : ∀ k, v.ownBlock = some k → Mine w b k) (hg : w.grownBy w1 v.ownBlock) (hat : v'.ownBlock = v.ownBlock ∨ v'.ownBlock = some w.heap.size) : Fr b w (w1.setCell ⟨b, o, none⟩ v') := by
  have hbb : w1.heap[b]? = w.heap[b]? := hg.block b hb (fun x => h.ne x.symm)
  refine ⟨((Below.refl b w).grown hg (Nat.le_of_lt hb) (fun k hk => by have := (h.lt k hk).1; omega)).setCell (p := ⟨b, o, none⟩) (Nat.le_refl _) _, fun k hk hn => ?_, fun k hk hmm => ?_⟩
  · rw [Below.heap_setCell _ _ _ _ (fun e => hn (.inl e))]
    exact hg.block k hk (fun x => hn (hm k x.symm))
  · rcases hmm.set with hm1 | ⟨_, hu⟩
    · exact hm1.same hbb
    · rcases hat with e | e
      · exact hm k (by rw [← e]; exact hu)
      · rw [e] at hu; injection hu with hu; omega
theorem Rw.grown {w w1 : World} {b : Nat} {v u : Value} {t : Text} (h : Rw w b u t) (hg : w.grownBy w1 v.ownBlock) (hs : Sep u v) : Rw w1 b u t :=
  h.keep fun g hu => hg.block g (h.lt g hu).2 (fun x => hs g hu x.symm)

/-- Of a row its front. -/
theorem Rw.front {w : World} {b : Nat} {ao : Option Addr} {l cap n : Nat} {s : Text} (h : Rw w b (.slice ao l cap) s) (hn : n ≤ s.length) : Rw w b (.slice ao n cap) (s.take n) := by
  have hx : (s.take n).length = n := by rw [List.length_take]; omega
  refine ⟨by simp [Lib.byteCells_length, hx], ?_⟩
  rw [hx]
  rcases h.2 with ⟨hv, h0⟩ | ⟨g, c, cur, hv, hb, hg, h1, h2, h3, h4⟩
  · injection hv with e1 e2 e3
    subst e1; subst e3
    exact .inl ⟨by rw [show n = 0 by omega], by omega⟩
  · injection hv with e1 e2 e3
    subst e1; subst e3
    refine .inr ⟨g, cap, cur, rfl, hb, hg, by omega, h2, h3, ?_⟩
    have h4 : cur.toList.take s.length = Lib.byteCells s := by simpa using h4
    have := congrArg (List.take n) h4
    rw [List.take_take, Nat.min_eq_left hn] at this
    rw [Nat.mul_one, this, Lib.byteCells, Lib.byteCells, List.map_take]
/-- Of a row one byte is another one. -/
theorem Rw.turn {w : World} {b g cap : Nat} {s : Text} (h : Rw w b (.slice (some ⟨g, 0, none⟩) s.length cap) s) (j : Nat) (c : UInt8) : Rw (w.setCell ⟨g, j, none⟩ (.int .u8 c.toNat)) b (.slice (some ⟨g, 0, none⟩) (s.set j c).length cap) (s.set j c) := by
  unfold Rw at *
  rw [List.length_set]
  have := h.stored j (.int .u8 (c.toNat : Int))
  have e : Lib.byteCells (s.set j c) = (Lib.byteCells s).set j (.int .u8 (c.toNat : Int)) := by
    rw [Lib.byteCells, Lib.byteCells, List.map_set]
  rw [e]
  exact this.1
theorem Rw.nil_cap {w : World} {b : Nat} {ao : Option Addr} {l cap : Nat} {s : Text} (h : Rw w b (.slice ao l cap) s) : ao = none → cap = 0 := by
  intro e
  rcases h.2 with ⟨hv, h0⟩ | ⟨g, c, cur, hv, _⟩
  · injection hv with e1 e2 e3
  · injection hv with e1 e2 e3
    rw [e] at e1; cases e1
theorem Sep.of_own {v v' u : Value} (h : Sep v u) (e : v'.ownBlock = v.ownBlock) : Sep v' u := fun g hg => h g (by rw [← e]; exact hg)

/-- What a crash leaves of a tape: what is safe, of the rest so much as is kept; the last byte that is kept is turned. -/
def Tape.kept (T : Tape) (keep : Int) : Nat := (min (max keep 0) ((T.s.length : Int) - T.k)).toNat
def Tape.crash (T : Tape) (keep : Int) (turn : UInt8) : Tape :=
  ⟨if T.kept keep = 0 then T.s.take T.k else (T.s.take (T.k + T.kept keep)).modify (T.k + T.kept keep - 1) (· ^^^ turn), T.k + T.kept keep⟩
theorem modify_set (f : UInt8 → UInt8) : ∀ (l : Text) (i : Nat) (h : i < l.length), l.modify i f = l.set i (f l[i])
  | [], i, h => by simp at h
  | c :: l, 0, _ => rfl
  | c :: l, i + 1, h => by
    have := modify_set f l i (by simpa using h)
    simp [List.modify_succ_cons, this]
theorem xor_byte (c d : UInt8) : bits .xor .u8 (c.toNat : Int) (d.toNat : Int) = ((c ^^^ d).toNat : Int) := by
  rw [u8_xor_nat _ _ c.toNat_lt d.toNat_lt, UInt8.toNat_xor]

theorem c_writeA (b : Nat) (m : M) (s : ByteArray) (w : World) (h : RP b m w) (hlen : m.a.s.length + s.size ≤ 140737488355328) :
    Calls Tryd.prog 45 #[.pointer (some ⟨b, 1, none⟩), .string s] w fun e w' => e = .returned (.tuple #[]) ∧ RP b { m with a := ⟨m.a.s ++ s.toList, m.a.k⟩ } w' ∧ Fr b w w' := by
  obtain ⟨v0, v1, hb, h0, h1, hs⟩ := h
  refine (t_write b 1 v0 m.a.s s w (by rw [Lib.cell_of_heap hb]; rfl) (Lib.frozen_of_heap hb 1) (lt_of_block hb) h0 h0.ne hlen).mono ?_
  rintro e w' ⟨rfl, v', w1, rfl, hv', hg, hat⟩
  have hb1 : w1.heap[b]? = some (.cells (arr m v0 v1) 55 (0, 0)) := by rw [hg.block b (lt_of_block hb) (fun x => h0.ne x.symm)]; exact hb
  have hs' : Sep v' v1 := by
    rcases hat with e | e
    · exact Sep.of_own hs e
    · intro g hg1 hg2
      rw [e] at hg1; injection hg1 with hg1
      have := (h1.lt g hg2).2
      omega
  refine ⟨rfl, ⟨v', v1, heap_setCell_same w1 b 1 _ _ _ hb1, hv'.set _ _, (h1.grown hg hs.symm).set _ _, hs'⟩, Fr.wrote h0 (lt_of_block hb) (fun _ h => mine0 hb h) hg hat⟩

theorem c_syncA (b : Nat) (m : M) (w : World) (h : RP b m w) :
    Calls Tryd.prog 38 #[.pointer (some ⟨b, 1, none⟩)] w fun e w' => e = .returned (.tuple #[]) ∧ RP b { m with a := ⟨m.a.s, m.a.s.length⟩ } w' ∧ Fr b w w' := by
  obtain ⟨v0, v1, hb, h0, h1, hs⟩ := h
  obtain ⟨ao, cap, rfl, hl, hc⟩ := h0.form
  refine (t_sync b 1 ao m.a.s.length cap m.a.k w (by rw [Lib.cell_of_heap hb]; rfl) (by rw [Lib.cell_of_heap hb]; rfl) (Lib.frozen_of_heap hb 2)).mono ?_
  rintro e w' ⟨rfl, rfl⟩
  exact ⟨rfl, ⟨_, _, heap_setCell_same w b 2 _ _ _ hb, h0.set _ _, h1.set _ _, hs⟩, Fr.set b 2 w _⟩

theorem c_trimA (b : Nat) (m : M) (n : Nat) (w : World) (h : RP b m w) (hm : m.ok) (hn : n ≤ m.a.s.length) :
    Calls Tryd.prog 42 #[.pointer (some ⟨b, 1, none⟩), .int .i64 n] w fun e w' => e = .returned (.tuple #[]) ∧ RP b { m with a := ⟨m.a.s.take n, min m.a.k n⟩ } w' ∧ Fr b w w' := by
  obtain ⟨v0, v1, hb, h0, h1, hs⟩ := h
  obtain ⟨ao, cap, rfl, hl, hc⟩ := h0.form
  have hcap : cap ≤ 9223372036854775807 := hc
  have hk : m.a.k ≤ 9223372036854775807 := by have := hm.ka; omega
  refine (t_trim b 1 ao m.a.s.length cap n m.a.k w (by rw [Lib.cell_of_heap hb]; rfl) (by rw [Lib.cell_of_heap hb]; rfl) (Lib.frozen_of_heap hb 1) (Lib.frozen_of_heap hb 2) hn hl hcap hk h0.nil_cap).mono ?_
  rintro e w' ⟨rfl, rfl⟩
  exact ⟨rfl, ⟨_, _, heap_setCell_same _ b 2 _ _ _ (heap_setCell_same w b 1 _ _ _ hb), ((h0.front hn).set _ _).set _ _, (h1.set _ _).set _ _, hs.of_own (v := .slice ao m.a.s.length cap) (by cases ao <;> rfl)⟩, (Fr.set b 1 w _ (fun k _ h _ => mine0 hb (by cases ao <;> exact h))).trans (Fr.set b 2 _ _)⟩

set_option maxHeartbeats 1000000 in
theorem c_crashA (b : Nat) (m : M) (keep : Int) (turn : UInt8) (w : World) (h : RP b m w) (hm : m.ok) (hlo : -9223372036854775808 ≤ keep) (hhi : keep ≤ 9223372036854775807) :
    Calls Tryd.prog 30 #[.pointer (some ⟨b, 1, none⟩), .int .i64 keep, .int .u8 turn.toNat] w fun e w' => e = .returned (.tuple #[]) ∧ RP b { m with a := m.a.crash keep turn } w' ∧ Fr b w w' := by
  obtain ⟨v0, v1, hb, h0, h1, hs⟩ := h
  obtain ⟨ao, cap, rfl, hl, hc⟩ := h0.form
  have hcap : cap ≤ 9223372036854775807 := hc
  have hk := hm.ka
  have c0 : w.cell? ⟨b, 1, none⟩ = some (.slice ao m.a.s.length cap) := by rw [Lib.cell_of_heap hb]; rfl
  have c1 : w.cell? ⟨b, 1 + 1, none⟩ = some (.int .i64 m.a.k) := by rw [Lib.cell_of_heap hb]; rfl
  -- nothing is kept
  have none_kept : m.a.kept keep = 0 → ∀ (e : Ending) (w' : World), e = .returned (.tuple #[]) ∧ Al w' ((w.setCell ⟨b, 1, none⟩ (.slice ao m.a.k cap)).setCell ⟨b, 1 + 1, none⟩ (.int .i64 m.a.k)) →
      e = .returned (.tuple #[]) ∧ RP b { m with a := m.a.crash keep turn } w' ∧ Fr b w w' := by
    rintro hz e w' ⟨rfl, hal⟩
    have hx : m.a.crash keep turn = ⟨m.a.s.take m.a.k, m.a.k⟩ := by unfold Tape.crash; rw [if_pos hz, hz]; rfl
    rw [hx]
    have hf := h0.front (n := m.a.k) hk
    refine ⟨rfl, ⟨_, _, by rw [hal.1]; exact heap_setCell_same _ b 2 _ _ _ (heap_setCell_same w b 1 _ _ _ hb), ?_, ?_, hs.of_own (v := .slice _ m.a.s.length cap) (by first | rfl | (cases ao <;> rfl))⟩, hal.fr ((Fr.set b 1 w _ (fun k _ h _ => mine0 hb (by cases ao <;> exact h))).trans (Fr.set b 2 _ _))⟩
    all_goals exact Rw.keep (w := (w.setCell ⟨b, 1, none⟩ (.slice ao m.a.k cap)).setCell ⟨b, 1 + 1, none⟩ (.int .i64 m.a.k)) (by first | exact (hf.set _ _).set _ _ | exact (h1.set _ _).set _ _) (fun _ _ => by rw [hal.1])
  by_cases k1 : keep < 0
  · exact (t_crashA b 1 ao _ cap _ keep turn.toNat w c0 c1 (Lib.frozen_of_heap hb 1) (Lib.frozen_of_heap hb 2) hk hl hcap h0.nil_cap k1 hlo).mono (none_kept (by unfold Tape.kept; omega))
  by_cases k2 : keep = 0
  · exact (t_crashZ b 1 ao _ cap _ keep turn.toNat w c0 c1 (Lib.frozen_of_heap hb 1) (Lib.frozen_of_heap hb 2) hk hl hcap h0.nil_cap k2).mono (none_kept (by unfold Tape.kept; omega))
  by_cases k3 : m.a.k = m.a.s.length
  · exact (t_crashE b 1 ao _ cap _ keep turn.toNat w c0 c1 (Lib.frozen_of_heap hb 1) (Lib.frozen_of_heap hb 2) hk hl hcap h0.nil_cap (by omega) k3).mono (none_kept (by unfold Tape.kept; omega))
  -- something is kept: n bytes stand there then
  obtain ⟨g, rfl⟩ : ∃ g, ao = some ⟨g, 0, none⟩ := by
    rcases h0.2 with ⟨hv, h0⟩ | ⟨g, c, cur, hv, _⟩
    · omega
    · injection hv with e1 e2 e3
      exact ⟨g, e1⟩
  have hgb : g ≠ b := fun e => h0.ne (by rw [← e]; rfl)
  have hgm : ∀ n, Mine (w.setCell ⟨b, 1, none⟩ (.slice (some ⟨g, 0, none⟩) n cap)) b g := fun n => .inr ⟨_, _, _, .slice (some ⟨g, 0, none⟩) n cap, heap_setCell_same w b 1 _ _ _ hb, .inl rfl, rfl⟩
  have hgt : b < g := (h0.lt g rfl).1
  have some_kept : ∀ n, n = m.a.k + m.a.kept keep → m.a.k < n → n ≤ m.a.s.length → ∀ hj : n - 1 < m.a.s.length,
      (w.cell? ⟨g, n - 1, none⟩ = some (.int .u8 ((m.a.s[n - 1]).toNat : Int)) ∧ w.frozen? ⟨g, n - 1, none⟩ = false) ∧
      ∀ (e : Ending) (w' : World), e = .returned (.tuple #[]) ∧ Al w' (((w.setCell ⟨b, 1, none⟩ (.slice (some ⟨g, 0, none⟩) n cap)).setCell ⟨g, n - 1, none⟩ (.int .u8 (bits .xor .u8 ((m.a.s[n - 1]).toNat : Int) (turn.toNat : Int)))).setCell ⟨b, 1 + 1, none⟩ (.int .i64 n)) →
      e = .returned (.tuple #[]) ∧ RP b { m with a := m.a.crash keep turn } w' ∧ Fr b w w' := by
    intro n hn hkn hnl hj
    refine ⟨⟨?_, h0.frozenAt _⟩, ?_⟩
    · rw [h0.cellAt (n - 1) (by omega)]
      simp [Lib.byteCells, hj]
    rintro e w' ⟨rfl, hal⟩
    have hlen : (m.a.s.take n).length = n := by rw [List.length_take]; omega
    have hx : m.a.crash keep turn = ⟨(m.a.s.take n).set (n - 1) (m.a.s[n - 1] ^^^ turn), n⟩ := by
      unfold Tape.crash
      rw [if_neg (by omega), ← hn, modify_set _ _ _ (by rw [hlen]; omega)]
      simp
    rw [hx]
    rw [xor_byte] at hal
    have hf := h0.front (n := n) hnl
    have hf1 : Rw (w.setCell ⟨b, 1, none⟩ (.slice (some ⟨g, 0, none⟩) n cap)) b (.slice (some ⟨g, 0, none⟩) (m.a.s.take n).length cap) (m.a.s.take n) := by rw [hlen]; exact hf.set _ _
    have hf2 := hf1.turn (n - 1) (m.a.s[n - 1] ^^^ turn)
    rw [List.length_set, hlen] at hf2
    have hu : Rw ((w.setCell ⟨b, 1, none⟩ (.slice (some ⟨g, 0, none⟩) n cap)).setCell ⟨g, n - 1, none⟩ (.int .u8 ((m.a.s[n - 1] ^^^ turn).toNat : Int))) b v1 m.b.s :=
      (h1.set 1 _).keep fun g' hg' => by rw [Below.heap_setCell _ _ _ _ (fun e => hs g rfl (by rw [hg', e]))]
    have hbk := heap_setCell_same _ b 2 _ _ (.int .i64 n) ((Below.heap_setCell _ ⟨g, n - 1, none⟩ (.int .u8 ((m.a.s[n - 1] ^^^ turn).toNat : Int)) b (fun e => hgb e.symm)).trans (heap_setCell_same w b 1 _ _ (.slice (some ⟨g, 0, none⟩) n cap) hb))
    refine ⟨rfl, ⟨_, _, by rw [hal.1]; exact hbk, ?_, ?_, hs.of_own (v := .slice _ m.a.s.length cap) (by first | rfl | (cases ao <;> rfl))⟩, hal.fr (((Fr.set b 1 w (.slice (some ⟨g, 0, none⟩) n cap) (fun k _ h _ => mine0 hb h)).trans (Fr.turn (n - 1) _ (hgm n) hgt)).trans (Fr.set b 2 _ _))⟩
    · exact Rw.keep (w := ((w.setCell ⟨b, 1, none⟩ (.slice (some ⟨g, 0, none⟩) n cap)).setCell ⟨g, n - 1, none⟩ (.int .u8 ((m.a.s[n - 1] ^^^ turn).toNat : Int))).setCell ⟨b, 1 + 1, none⟩ (.int .i64 n)) (by first | exact hf2.set _ _ | exact hu.set _ _) (fun _ _ => by rw [hal.1])
    · exact Rw.keep (w := ((w.setCell ⟨b, 1, none⟩ (.slice (some ⟨g, 0, none⟩) n cap)).setCell ⟨g, n - 1, none⟩ (.int .u8 ((m.a.s[n - 1] ^^^ turn).toNat : Int))).setCell ⟨b, 1 + 1, none⟩ (.int .i64 n)) (by first | exact hf2.set _ _ | exact hu.set _ _) (fun _ _ => by rw [hal.1])
  by_cases k4 : keep ≤ (m.a.s.length : Int) - m.a.k
  · obtain ⟨p, hp⟩ : ∃ p : Nat, keep = (p + 1 : Nat) := ⟨(keep - 1).toNat, by omega⟩
    obtain ⟨⟨q1, q2⟩, q3⟩ := some_kept (m.a.k + (p + 1)) (by unfold Tape.kept; omega) (by omega) (by omega) (by omega)
    subst hp
    exact (t_crashB b 1 g _ cap _ p turn.toNat w c0 c1 (Lib.frozen_of_heap hb 1) (Lib.frozen_of_heap hb 2) hl hcap (by omega) hgb _ q1 q2).mono q3
  · obtain ⟨q, hq⟩ : ∃ q, m.a.s.length = q + 1 := ⟨m.a.s.length - 1, by omega⟩
    obtain ⟨⟨q1, q2⟩, q3⟩ := some_kept (m.a.k + (q + 1 - m.a.k)) (by unfold Tape.kept; omega) (by omega) (by omega) (by omega)
    exact (t_crashC b 1 g _ cap _ q keep turn.toNat w c0 c1 (Lib.frozen_of_heap hb 1) (Lib.frozen_of_heap hb 2) hl hcap hq (by omega) (by omega) hhi hgb _ q1 q2).mono q3

theorem c_writeB (b : Nat) (m : M) (s : ByteArray) (w : World) (h : RP b m w) (hlen : m.b.s.length + s.size ≤ 140737488355328) :
    Calls Tryd.prog 45 #[.pointer (some ⟨b, 3, none⟩), .string s] w fun e w' => e = .returned (.tuple #[]) ∧ RP b { m with b := ⟨m.b.s ++ s.toList, m.b.k⟩ } w' ∧ Fr b w w' := by
  obtain ⟨v0, v1, hb, h0, h1, hs⟩ := h
  refine (t_write b 3 v1 m.b.s s w (by rw [Lib.cell_of_heap hb]; rfl) (Lib.frozen_of_heap hb 3) (lt_of_block hb) h1 h1.ne hlen).mono ?_
  rintro e w' ⟨rfl, v', w1, rfl, hv', hg, hat⟩
  have hb1 : w1.heap[b]? = some (.cells (arr m v0 v1) 55 (0, 0)) := by rw [hg.block b (lt_of_block hb) (fun x => h1.ne x.symm)]; exact hb
  have hs' : Sep v' v0 := by
    rcases hat with e | e
    · exact Sep.of_own hs.symm e
    · intro g hg1 hg2
      rw [e] at hg1; injection hg1 with hg1
      have := (h0.lt g hg2).2
      omega
  refine ⟨rfl, ⟨v0, v', heap_setCell_same w1 b 3 _ _ _ hb1, (h0.grown hg hs).set _ _, hv'.set _ _, hs'.symm⟩, Fr.wrote h1 (lt_of_block hb) (fun _ h => mine1 hb h) hg hat⟩

theorem c_syncB (b : Nat) (m : M) (w : World) (h : RP b m w) :
    Calls Tryd.prog 38 #[.pointer (some ⟨b, 3, none⟩)] w fun e w' => e = .returned (.tuple #[]) ∧ RP b { m with b := ⟨m.b.s, m.b.s.length⟩ } w' ∧ Fr b w w' := by
  obtain ⟨v0, v1, hb, h0, h1, hs⟩ := h
  obtain ⟨ao, cap, rfl, hl, hc⟩ := h1.form
  refine (t_sync b 3 ao m.b.s.length cap m.b.k w (by rw [Lib.cell_of_heap hb]; rfl) (by rw [Lib.cell_of_heap hb]; rfl) (Lib.frozen_of_heap hb 4)).mono ?_
  rintro e w' ⟨rfl, rfl⟩
  exact ⟨rfl, ⟨_, _, heap_setCell_same w b 4 _ _ _ hb, h0.set _ _, h1.set _ _, hs⟩, Fr.set b 4 w _⟩

theorem c_trimB (b : Nat) (m : M) (n : Nat) (w : World) (h : RP b m w) (hm : m.ok) (hn : n ≤ m.b.s.length) :
    Calls Tryd.prog 42 #[.pointer (some ⟨b, 3, none⟩), .int .i64 n] w fun e w' => e = .returned (.tuple #[]) ∧ RP b { m with b := ⟨m.b.s.take n, min m.b.k n⟩ } w' ∧ Fr b w w' := by
  obtain ⟨v0, v1, hb, h0, h1, hs⟩ := h
  obtain ⟨ao, cap, rfl, hl, hc⟩ := h1.form
  have hcap : cap ≤ 9223372036854775807 := hc
  have hk : m.b.k ≤ 9223372036854775807 := by have := hm.kb; omega
  refine (t_trim b 3 ao m.b.s.length cap n m.b.k w (by rw [Lib.cell_of_heap hb]; rfl) (by rw [Lib.cell_of_heap hb]; rfl) (Lib.frozen_of_heap hb 3) (Lib.frozen_of_heap hb 4) hn hl hcap hk h1.nil_cap).mono ?_
  rintro e w' ⟨rfl, rfl⟩
  exact ⟨rfl, ⟨_, _, heap_setCell_same _ b 4 _ _ _ (heap_setCell_same w b 3 _ _ _ hb), (h0.set _ _).set _ _, ((h1.front hn).set _ _).set _ _, (hs.symm.of_own (v := .slice ao m.b.s.length cap) (by cases ao <;> rfl)).symm⟩, (Fr.set b 3 w _ (fun k _ h _ => mine1 hb (by cases ao <;> exact h))).trans (Fr.set b 4 _ _)⟩

set_option maxHeartbeats 1000000 in
theorem c_crashB (b : Nat) (m : M) (keep : Int) (turn : UInt8) (w : World) (h : RP b m w) (hm : m.ok) (hlo : -9223372036854775808 ≤ keep) (hhi : keep ≤ 9223372036854775807) :
    Calls Tryd.prog 30 #[.pointer (some ⟨b, 3, none⟩), .int .i64 keep, .int .u8 turn.toNat] w fun e w' => e = .returned (.tuple #[]) ∧ RP b { m with b := m.b.crash keep turn } w' ∧ Fr b w w' := by
  obtain ⟨v0, v1, hb, h0, h1, hs⟩ := h
  obtain ⟨ao, cap, rfl, hl, hc⟩ := h1.form
  have hcap : cap ≤ 9223372036854775807 := hc
  have hk := hm.kb
  have c0 : w.cell? ⟨b, 3, none⟩ = some (.slice ao m.b.s.length cap) := by rw [Lib.cell_of_heap hb]; rfl
  have c1 : w.cell? ⟨b, 3 + 1, none⟩ = some (.int .i64 m.b.k) := by rw [Lib.cell_of_heap hb]; rfl
  -- nothing is kept
  have none_kept : m.b.kept keep = 0 → ∀ (e : Ending) (w' : World), e = .returned (.tuple #[]) ∧ Al w' ((w.setCell ⟨b, 3, none⟩ (.slice ao m.b.k cap)).setCell ⟨b, 3 + 1, none⟩ (.int .i64 m.b.k)) →
      e = .returned (.tuple #[]) ∧ RP b { m with b := m.b.crash keep turn } w' ∧ Fr b w w' := by
    rintro hz e w' ⟨rfl, hal⟩
    have hx : m.b.crash keep turn = ⟨m.b.s.take m.b.k, m.b.k⟩ := by unfold Tape.crash; rw [if_pos hz, hz]; rfl
    rw [hx]
    have hf := h1.front (n := m.b.k) hk
    refine ⟨rfl, ⟨_, _, by rw [hal.1]; exact heap_setCell_same _ b 4 _ _ _ (heap_setCell_same w b 3 _ _ _ hb), ?_, ?_, (hs.symm.of_own (v := .slice _ m.b.s.length cap) (by first | rfl | (cases ao <;> rfl))).symm⟩, hal.fr ((Fr.set b 3 w _ (fun k _ h _ => mine1 hb (by cases ao <;> exact h))).trans (Fr.set b 4 _ _))⟩
    all_goals exact Rw.keep (w := (w.setCell ⟨b, 3, none⟩ (.slice ao m.b.k cap)).setCell ⟨b, 3 + 1, none⟩ (.int .i64 m.b.k)) (by first | exact (hf.set _ _).set _ _ | exact (h0.set _ _).set _ _) (fun _ _ => by rw [hal.1])
  by_cases k1 : keep < 0
  · exact (t_crashA b 3 ao _ cap _ keep turn.toNat w c0 c1 (Lib.frozen_of_heap hb 3) (Lib.frozen_of_heap hb 4) hk hl hcap h1.nil_cap k1 hlo).mono (none_kept (by unfold Tape.kept; omega))
  by_cases k2 : keep = 0
  · exact (t_crashZ b 3 ao _ cap _ keep turn.toNat w c0 c1 (Lib.frozen_of_heap hb 3) (Lib.frozen_of_heap hb 4) hk hl hcap h1.nil_cap k2).mono (none_kept (by unfold Tape.kept; omega))
  by_cases k3 : m.b.k = m.b.s.length
  · exact (t_crashE b 3 ao _ cap _ keep turn.toNat w c0 c1 (Lib.frozen_of_heap hb 3) (Lib.frozen_of_heap hb 4) hk hl hcap h1.nil_cap (by omega) k3).mono (none_kept (by unfold Tape.kept; omega))
  -- something is kept: n bytes stand there then
  obtain ⟨g, rfl⟩ : ∃ g, ao = some ⟨g, 0, none⟩ := by
    rcases h1.2 with ⟨hv, h0⟩ | ⟨g, c, cur, hv, _⟩
    · omega
    · injection hv with e1 e2 e3
      exact ⟨g, e1⟩
  have hgb : g ≠ b := fun e => h1.ne (by rw [← e]; rfl)
  have hgm : ∀ n, Mine (w.setCell ⟨b, 3, none⟩ (.slice (some ⟨g, 0, none⟩) n cap)) b g := fun n => .inr ⟨_, _, _, .slice (some ⟨g, 0, none⟩) n cap, heap_setCell_same w b 3 _ _ _ hb, .inr rfl, rfl⟩
  have hgt : b < g := (h1.lt g rfl).1
  have some_kept : ∀ n, n = m.b.k + m.b.kept keep → m.b.k < n → n ≤ m.b.s.length → ∀ hj : n - 1 < m.b.s.length,
      (w.cell? ⟨g, n - 1, none⟩ = some (.int .u8 ((m.b.s[n - 1]).toNat : Int)) ∧ w.frozen? ⟨g, n - 1, none⟩ = false) ∧
      ∀ (e : Ending) (w' : World), e = .returned (.tuple #[]) ∧ Al w' (((w.setCell ⟨b, 3, none⟩ (.slice (some ⟨g, 0, none⟩) n cap)).setCell ⟨g, n - 1, none⟩ (.int .u8 (bits .xor .u8 ((m.b.s[n - 1]).toNat : Int) (turn.toNat : Int)))).setCell ⟨b, 3 + 1, none⟩ (.int .i64 n)) →
      e = .returned (.tuple #[]) ∧ RP b { m with b := m.b.crash keep turn } w' ∧ Fr b w w' := by
    intro n hn hkn hnl hj
    refine ⟨⟨?_, h1.frozenAt _⟩, ?_⟩
    · rw [h1.cellAt (n - 1) (by omega)]
      simp [Lib.byteCells, hj]
    rintro e w' ⟨rfl, hal⟩
    have hlen : (m.b.s.take n).length = n := by rw [List.length_take]; omega
    have hx : m.b.crash keep turn = ⟨(m.b.s.take n).set (n - 1) (m.b.s[n - 1] ^^^ turn), n⟩ := by
      unfold Tape.crash
      rw [if_neg (by omega), ← hn, modify_set _ _ _ (by rw [hlen]; omega)]
      simp
    rw [hx]
    rw [xor_byte] at hal
    have hf := h1.front (n := n) hnl
    have hf1 : Rw (w.setCell ⟨b, 3, none⟩ (.slice (some ⟨g, 0, none⟩) n cap)) b (.slice (some ⟨g, 0, none⟩) (m.b.s.take n).length cap) (m.b.s.take n) := by rw [hlen]; exact hf.set _ _
    have hf2 := hf1.turn (n - 1) (m.b.s[n - 1] ^^^ turn)
    rw [List.length_set, hlen] at hf2
    have hu : Rw ((w.setCell ⟨b, 3, none⟩ (.slice (some ⟨g, 0, none⟩) n cap)).setCell ⟨g, n - 1, none⟩ (.int .u8 ((m.b.s[n - 1] ^^^ turn).toNat : Int))) b v0 m.a.s :=
      (h0.set 3 _).keep fun g' hg' => by rw [Below.heap_setCell _ _ _ _ (fun e => hs.symm g rfl (by rw [hg', e]))]
    have hbk := heap_setCell_same _ b 4 _ _ (.int .i64 n) ((Below.heap_setCell _ ⟨g, n - 1, none⟩ (.int .u8 ((m.b.s[n - 1] ^^^ turn).toNat : Int)) b (fun e => hgb e.symm)).trans (heap_setCell_same w b 3 _ _ (.slice (some ⟨g, 0, none⟩) n cap) hb))
    refine ⟨rfl, ⟨_, _, by rw [hal.1]; exact hbk, ?_, ?_, (hs.symm.of_own (v := .slice _ m.b.s.length cap) (by first | rfl | (cases ao <;> rfl))).symm⟩, hal.fr (((Fr.set b 3 w (.slice (some ⟨g, 0, none⟩) n cap) (fun k _ h _ => mine1 hb h)).trans (Fr.turn (n - 1) _ (hgm n) hgt)).trans (Fr.set b 4 _ _))⟩
    · exact Rw.keep (w := ((w.setCell ⟨b, 3, none⟩ (.slice (some ⟨g, 0, none⟩) n cap)).setCell ⟨g, n - 1, none⟩ (.int .u8 ((m.b.s[n - 1] ^^^ turn).toNat : Int))).setCell ⟨b, 3 + 1, none⟩ (.int .i64 n)) (by first | exact hf2.set _ _ | exact hu.set _ _) (fun _ _ => by rw [hal.1])
    · exact Rw.keep (w := ((w.setCell ⟨b, 3, none⟩ (.slice (some ⟨g, 0, none⟩) n cap)).setCell ⟨g, n - 1, none⟩ (.int .u8 ((m.b.s[n - 1] ^^^ turn).toNat : Int))).setCell ⟨b, 3 + 1, none⟩ (.int .i64 n)) (by first | exact hf2.set _ _ | exact hu.set _ _) (fun _ _ => by rw [hal.1])
  by_cases k4 : keep ≤ (m.b.s.length : Int) - m.b.k
  · obtain ⟨p, hp⟩ : ∃ p : Nat, keep = (p + 1 : Nat) := ⟨(keep - 1).toNat, by omega⟩
    obtain ⟨⟨q1, q2⟩, q3⟩ := some_kept (m.b.k + (p + 1)) (by unfold Tape.kept; omega) (by omega) (by omega) (by omega)
    subst hp
    exact (t_crashB b 3 g _ cap _ p turn.toNat w c0 c1 (Lib.frozen_of_heap hb 3) (Lib.frozen_of_heap hb 4) hl hcap (by omega) hgb _ q1 q2).mono q3
  · obtain ⟨q, hq⟩ : ∃ q, m.b.s.length = q + 1 := ⟨m.b.s.length - 1, by omega⟩
    obtain ⟨⟨q1, q2⟩, q3⟩ := some_kept (m.b.k + (q + 1 - m.b.k)) (by unfold Tape.kept; omega) (by omega) (by omega) (by omega)
    exact (t_crashC b 3 g _ cap _ q keep turn.toNat w c0 c1 (Lib.frozen_of_heap hb 3) (Lib.frozen_of_heap hb 4) hl hcap hq (by omega) (by omega) hhi hgb _ q1 q2).mono q3

end Go.Proofs.YtglkapamkigdhaaDoor.Rl

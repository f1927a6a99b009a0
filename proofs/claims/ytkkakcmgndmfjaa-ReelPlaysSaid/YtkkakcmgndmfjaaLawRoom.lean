/-
  The law ReelRoom, walked: it answers true, at every argument. No condition but the form's own reach.
-/
import Derived.Test.YtkkakcmgndmfjaaActs
import Derived.Test.YtkkakcmgndmfjaaEqs
namespace Go.Proofs.Ytkkakcmgndmfjaa
open Go.RowKit

theorem SA.more {w : World} {N N' : Nat} {v : Value} {xs : List Act} (h : SA w N v xs) (hN : N ≤ N') : SA w N' v xs := by
  obtain ⟨A, c, hv, h⟩ := h
  refine ⟨A, c, hv, fun h0 => ?_⟩
  obtain ⟨b, o, e, hb, hc⟩ := h h0
  exact ⟨b, o, e, by omega, hc⟩
/-- what an act with an error leaves: the tapes as they were; and the power on only if it was -/
def Left (m m' : M) : Prop := m' = m ∨ m' = m.cut ∨ m' = m.tick
theorem write_err (m : M) (t : Int) (s : Text) (h : (m.write t s).1 ≠ 0) : Left m (m.write t s).2 := by
  unfold M.write at *
  split
  · exact .inl rfl
  split
  · exact .inr (.inl rfl)
  split
  · exact .inr (.inr rfl)
  · rename_i h1 h2 h3
    rw [if_neg h1, if_neg h2, if_neg h3] at h
    exact absurd rfl h
theorem sync_err (m : M) (t : Int) (h : (m.sync t).1 ≠ 0) : Left m (m.sync t).2 := by
  unfold M.sync at *
  split
  · exact .inl rfl
  split
  · exact .inr (.inl rfl)
  · rename_i h1 h2
    rw [if_neg h1, if_neg h2] at h
    exact absurd rfl h
theorem trim_err (m : M) (t n : Int) (h : (m.trim t n).1 ≠ 0) : Left m (m.trim t n).2 := by
  unfold M.trim at *
  split
  · exact .inl rfl
  split
  · exact .inr (.inl rfl)
  split
  · exact .inr (.inr rfl)
  · rename_i h1 h2 h3
    rw [if_neg h1, if_neg h2, if_neg h3] at h
    exact absurd rfl h
theorem does_left (m : M) (a : Act) (h : (m.does a).1 ≠ 0) : Left m (m.does a).2 := by
  unfold M.does at *
  split
  · rename_i q; rw [if_pos q] at h; exact write_err _ _ _ h
  rename_i q0; rw [if_neg q0] at h
  split
  · rename_i q; rw [if_pos q] at h; exact sync_err _ _ h
  rename_i q1; rw [if_neg q1] at h
  split
  · rename_i q; rw [if_pos q] at h; exact trim_err _ _ _ h
  rename_i q2; rw [if_neg q2] at h
  split
  · rename_i q; rw [if_pos q] at h; exact trim_err _ _ _ h
  rename_i q3; rw [if_neg q3] at h
  split
  · rename_i q; rw [if_pos q] at h; exact absurd rfl h
  rename_i q4; rw [if_neg q4] at h
  split
  · rename_i q; rw [if_pos q] at h; exact absurd rfl h
  · rename_i q; rw [if_neg q] at h; exact absurd rfl h
theorem does_err (m : M) (a : Act) (h : (m.does a).1 ≠ 0) (ho : (m.does a).2.off = false) : m.off = false ∧ (m.does a).2.a.s = m.a.s ∧ (m.does a).2.b.s = m.b.s := by
  rcases does_left m a h with e | e | e
  · rw [e] at ho ⊢; exact ⟨ho, rfl, rfl⟩
  · rw [e] at ho; exact absurd (show true = false from ho) (by decide)
  · rw [e] at ho ⊢; exact ⟨ho, rfl, rfl⟩

theorem room_reads {b : Nat} {m : M} {w : World} (h : RP b m w) (ho : m.off = false) :
    (Calls Try.prog 20 #[ptr b, .int .i64 0] w fun e w' => e = .returned (.tuple #[.string (tx m.a.s), .int .i64 0]) ∧ w = w') ∧ (Calls Try.prog 20 #[ptr b, .int .i64 1] w fun e w' => e = .returned (.tuple #[.string (tx m.b.s), .int .i64 0]) ∧ w = w') := by
  have h0 := c_read 0 h
  have h1 := c_read 1 h
  have e0 : m.read 0 = (m.a.s, 0) := by unfold M.read; rw [if_neg (by decide), if_neg (by rw [ho]; decide)]; rfl
  have e1 : m.read 1 = (m.b.s, 0) := by unfold M.read; rw [if_neg (by decide), if_neg (by rw [ho]; decide)]; rfl
  rw [e0] at h0
  rw [e1] at h1
  exact ⟨h0, h1⟩

/-- the round's state: the reel, and the texts that were read when the power was last seen on -/
def RoomInv (b : Nat) (w : World) (r : Nat) (i : Nat) (x y : ByteArray) (wr : World) : Prop :=
  ∃ m : M, RP b m wr ∧ m.ok ∧ m.ops ≤ i ∧ m.room = r ∧ (m.off = false → x = tx m.a.s ∧ y = tx m.b.s) ∧ Below w.heap.size w wr

theorem does_room (m : M) (a : Act) : (m.does a).2.room = m.room := by
  unfold M.does M.write M.sync M.trim M.put M.done M.tick M.cut M.arm M.crash
  repeat' split
  all_goals rfl

set_option maxRecDepth 100000 in
set_option maxHeartbeats 8000000 in
theorem room_in (r : Nat) (v : Value) (xs : List Act) (w : World) (hv : SA w w.heap.size v xs) (hl : xs.length ≤ 140737488355328) (ha : ∀ a ∈ xs, a.ok) (hr : r ≤ 4194304) :
    Calls Try.prog 8 #[.int .i64 r, v] w fun e w' => e = .returned (.bool true) ∧ Below w.heap.size w w' := by
  have cs := c_small v xs w hv hl (fun a h => (ha a h).s)
  obtain ⟨A, c, rfl⟩ := hv.form
  have cn := new_good r w hr
  go_enter Try.func8, Try.ntmps8
  go_wp2_with fail
  refine cs.mono ?_
  rintro e w' ⟨q, rfl, rfl, hq⟩
  have HQ := Lib.hid hq
  clear hq cs
  cases q with
  | false =>
    go_wp2_with fail
    refine (live_any _).mono ?_
    rintro e w1 ⟨rfl, b1⟩
    go_wp2_with fail
    go_ret
    exact ⟨rfl, b1⟩
  | true =>
    obtain ⟨hl60, hs⟩ := HQ.out rfl
    have HA := Lib.hid ha
    have HS := Lib.hid hs
    clear ha hs HQ
    go_wp2_with fail
    refine cn.mono ?_
    rintro e w1 ⟨rfl, r1, b1, _⟩
    clear cn
    go_wp2_with fail
    refine (num_any _ _).mono ?_
    rintro e w' ⟨rfl, rfl⟩
    go_wp2_with fail
    go_loopw [7, 8, 9] (fun vx vy vi wr => ∃ (k : Nat) (x y : ByteArray), k ≤ xs.length ∧ vi = .int .i64 (k : Int) ∧ vx = .string x ∧ vy = .string y ∧ RoomInv w.heap.size w r k x y wr) (fun _ _ vi _ => xs.length - (intOf vi).toNat)
    case atStart => exact ⟨0, ⟨#[]⟩, ⟨#[]⟩, by omega, rfl, rfl, rfl, M.new r, r1, M.ok.new hr, Nat.le_refl _, rfl, fun _ => ⟨rfl, rfl⟩, b1⟩
    case round =>
      clear r1 b1
      obtain ⟨k, x, y, hk, rfl, rfl, rfl, m, hrp, hok, hops, hrm, hxy, hbw⟩ := hrel
      by_cases hlt : k < xs.length
      · obtain ⟨b, o, rfl, hb, hc⟩ := (hv.below hbw).at_ hlt
        have hao := HA.out xs[k] (List.getElem_mem hlt)
        have hsz := HS.out xs[k] (List.getElem_mem hlt)
        obtain ⟨a, hak⟩ : ∃ a, xs[k] = a := ⟨_, rfl⟩
        rw [hak] at hao hsz hc
        clear hak
        have c0 : wr.cell? ⟨b, o + k * 7, none⟩ = some (.int .i64 a.kind) := hc 0 (by omega)
        have c1 : wr.cell? ⟨b, o + k * 7 + 1, none⟩ = some (.int .i64 a.t) := hc 1 (by omega)
        have c2 : wr.cell? ⟨b, o + k * 7 + 2, none⟩ = some (.string a.s) := hc 2 (by omega)
        have c3 : wr.cell? ⟨b, o + k * 7 + 3, none⟩ = some (.int .i64 a.n) := hc 3 (by omega)
        have c4 : wr.cell? ⟨b, o + k * 7 + 4, none⟩ = some (.int .i64 a.k0) := hc 4 (by omega)
        have c5 : wr.cell? ⟨b, o + k * 7 + 5, none⟩ = some (.int .i64 a.k1) := hc 5 (by omega)
        have c6 : wr.cell? ⟨b, o + k * 7 + 6, none⟩ = some (.int .u8 a.u.toNat) := hc 6 (by omega)
        have cd := c_does a hrp hok hao (by omega) (by omega)
        have hok' := hok.does hao (by omega)
        have hops' := m.does_ops a
        have herr := does_err m a
        have hrm' := does_room m a
        obtain ⟨f, hf⟩ : ∃ f, (m.does a).1 = f := ⟨_, rfl⟩
        obtain ⟨m', hm'⟩ : ∃ m', (m.does a).2 = m' := ⟨_, rfl⟩
        rw [hf, hm'] at herr
        rw [hf, hm'] at cd
        rw [hm'] at hok' hops' hrm'
        have HE := Lib.hid herr
        have HX := Lib.hid hxy
        have HM := Lib.hid (hrm'.trans hrm)
        have HO := Lib.hid hok'
        clear hc hf hm' herr hxy hrm' hrm hok hok' hsz hao
        cases hoff : m'.off with
        | true =>
          have cx := fun w' h => c_dead w.heap.size m' w' h
          rw [hoff] at cx
          have HF := Lib.hid hoff
          clear hoff
          go_wp2_with fail
          refine cd.mono ?_
          rintro e w2 ⟨rfl, r2, f2⟩
          have b2 := hbw.trans f2.below
          clear hbw f2 hrp c0 c1 c2 c3 c4 c5 c6
          go_wp2_with fail
          refine (cx _ r2).mono ?_
          rintro e w' ⟨rfl, rfl⟩
          go_wp2_with fail
          go_roundw
          case rel => exact ⟨k + 1, x, y, by omega, by go_num, rfl, rfl, m', r2, HO.out, by omega, HM.out, fun h => absurd h (by rw [HF.out]; decide), b2⟩
          case measure => simp [intOf]; omega
        | false =>
          have cx := fun w' h => c_dead w.heap.size m' w' h
          rw [hoff] at cx
          have crd := fun w' (h : RP w.heap.size m' w') => room_reads h hoff
          have cfr := fun w' h => c_free w.heap.size m' w' h HO.out
          have hfit := HO.out.fits
          obtain ⟨X, hX⟩ : ∃ X, tx m'.a.s = X := ⟨_, rfl⟩
          obtain ⟨Y, hY⟩ : ∃ Y, tx m'.b.s = Y := ⟨_, rfl⟩
          have hXs : X.size = m'.a.s.length := by rw [← hX, tx_size]
          have hYs : Y.size = m'.b.s.length := by rw [← hY, tx_size]
          rw [hX, hY] at crd
          rw [show m'.free = (r : Int) - X.size - Y.size by unfold M.free; rw [HM.out, hXs, hYs]] at cfr
          have hXY : X.size + Y.size ≤ r := by rw [hXs, hYs]; have := HM.out; omega
          have htest : ((r : Int) - X.size - Y.size + X.size + Y.size == (r : Int)) = true := by simp; omega
          by_cases hf0 : f = 0
          · subst hf0
            have HF := Lib.hid hoff
            have HXX := Lib.hid hX
            have HYY := Lib.hid hY
            clear hoff hX hY hXs hYs hfit HE
            go_wp2_with fail
            refine cd.mono ?_
            rintro e w2 ⟨rfl, r2, f2⟩
            have b2 := hbw.trans f2.below
            clear hbw f2 hrp c0 c1 c2 c3 c4 c5 c6
            go_wp2_with fail
            refine (cx _ r2).mono ?_
            rintro e w' ⟨rfl, rfl⟩
            go_wp2_with fail
            refine (crd _ r2).1.mono ?_
            rintro e w' ⟨rfl, rfl⟩
            go_wp2_with fail
            refine (crd _ r2).2.mono ?_
            rintro e w' ⟨rfl, rfl⟩
            go_wp2_with fail
            refine (num_any _ _).mono ?_
            rintro e w' ⟨rfl, rfl⟩
            go_wp2_with fail
            refine (num_any _ _).mono ?_
            rintro e w' ⟨rfl, rfl⟩
            go_wp2_with fail
            refine (cfr _ r2).mono ?_
            rintro e w3 ⟨rfl, b3'⟩
            have b3 := below_step b2 b3'
            have r3 := r2.below b3'
            go_wp2_with fail
            all_goals
              go_roundw
              case rel => exact ⟨k + 1, X, Y, by omega, by go_num, rfl, rfl, m', r3, HO.out, by omega, HM.out, fun _ => ⟨HXX.out.symm, HYY.out.symm⟩, b3⟩
              case measure => simp [intOf]; omega
          · obtain ⟨hmo, ha', hb'⟩ := HE.out hf0 hoff
            obtain ⟨hx, hy⟩ := HX.out hmo
            obtain rfl : X = x := by rw [← hX, ha', ← hx]
            obtain rfl : Y = y := by rw [← hY, hb', ← hy]
            have hfq : (f == 0) = false := by simpa using hf0
            have HF := Lib.hid hoff
            have HXX := Lib.hid hX
            have HYY := Lib.hid hY
            clear hoff hX hY hXs hYs hfit HE hmo ha' hb' hx hy HX hf0
            go_wp2_with fail
            refine cd.mono ?_
            rintro e w2 ⟨rfl, r2, f2⟩
            have b2 := hbw.trans f2.below
            clear hbw f2 hrp c0 c1 c2 c3 c4 c5 c6
            go_wp2_with fail
            refine (cx _ r2).mono ?_
            rintro e w' ⟨rfl, rfl⟩
            go_wp2_with fail
            refine (crd _ r2).1.mono ?_
            rintro e w' ⟨rfl, rfl⟩
            go_wp2_with fail
            refine (crd _ r2).2.mono ?_
            rintro e w' ⟨rfl, rfl⟩
            go_wp2_with fail
            refine (num_any _ _).mono ?_
            rintro e w' ⟨rfl, rfl⟩
            go_wp2_with fail
            refine (num_any _ _).mono ?_
            rintro e w' ⟨rfl, rfl⟩
            go_wp2_with fail
            refine (cfr _ r2).mono ?_
            rintro e w3 ⟨rfl, b3'⟩
            have b3 := below_step b2 b3'
            have r3 := r2.below b3'
            go_wp2_with fail
            all_goals
              go_roundw
              case rel => exact ⟨k + 1, X, Y, by omega, by go_num, rfl, rfl, m', r3, HO.out, by omega, HM.out, fun _ => ⟨HXX.out.symm, HYY.out.symm⟩, b3⟩
              case measure => simp [intOf]; omega
      · obtain rfl : k = xs.length := by omega
        have HX := Lib.hid hxy
        clear hxy hrm
        go_wp2_with fail
        refine (live_any _).mono ?_
        rintro e w6 ⟨rfl, b6⟩
        go_wp2_with fail
        try rw [Exit.noGoto_ret]
        go_ret
        exact ⟨rfl, below_step hbw b6⟩

set_option maxRecDepth 100000 in
set_option maxHeartbeats 4000000 in
theorem walk_room (r : Int) (v : Value) (xs : List Act) (w : World) (hv : SA w w.heap.size v xs) (hl : xs.length ≤ 140737488355328) (ha : ∀ a ∈ xs, a.ok) :
    Calls Try.prog 8 #[.int .i64 r, v] w fun e w' => e = .returned (.bool true) ∧ Below w.heap.size w w' := by
  have cs := c_small v xs w hv hl (fun a h => (ha a h).s)
  by_cases h0 : r < 0
  · have HA := Lib.hid ha
    clear ha
    go_enter Try.func8, Try.ntmps8
    go_wp2_with fail
    refine cs.mono ?_
    rintro e w' ⟨q, rfl, rfl, _⟩
    cases q
    all_goals
      go_wp2_with fail
      refine (live_any _).mono ?_
      rintro e w1 ⟨rfl, b1⟩
      go_wp2_with fail
      go_ret
      exact ⟨rfl, b1⟩
  by_cases h1 : 4194304 < r
  · have HA := Lib.hid ha
    clear ha
    go_enter Try.func8, Try.ntmps8
    go_wp2_with fail
    refine cs.mono ?_
    rintro e w' ⟨q, rfl, rfl, _⟩
    cases q
    all_goals
      go_wp2_with fail
      refine (live_any _).mono ?_
      rintro e w1 ⟨rfl, b1⟩
      go_wp2_with fail
      go_ret
      exact ⟨rfl, b1⟩
  obtain ⟨k, rfl⟩ : ∃ k : Nat, r = k := ⟨r.toNat, by omega⟩
  exact room_in k v xs w hv hl ha (by omega)

end Go.Proofs.Ytkkakcmgndmfjaa

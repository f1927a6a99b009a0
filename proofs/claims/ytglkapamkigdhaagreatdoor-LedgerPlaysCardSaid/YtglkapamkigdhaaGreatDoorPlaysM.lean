/-
  For LedgerPlays: what Open answers at all; how the program's and the document's ledgers stand beside each other; whether the tapes are the same. No condition of a law.
-/
import Derived.Test.YtglkapamkigdhaaGreatDoorRdOpen
import Derived.Test.YtglkapamkigdhaaGreatDoorRdBase
import Derived.Test.YtglkapamkigdhaaGreatDoorGivesAll
import Derived.Test.YtglkapamkigdhaaGreatDoorLiveAll
namespace Go.Proofs.YtglkapamkigdhaaGreatDoor.Rl
open Go.RowKit
open Go.Proofs.YtglkapamkigdhaaGreatDoor.M (pageT kBase kRec inR tellT tell_len)

theorem openM_l {m : M} (hm : m.ok) {e : Int} {l : Lg} {b : Text} {xs : List Text} {m' : M} (h : openM m = (e, some (l, b, xs), m')) : isT l.t = true ∧ 0 ≤ l.epoch ∧ l.epoch ≤ 4611686018427387904 ∧ l.n ≤ 4194304 ∧ xs.length ≤ 4194304 := by
  have hr := hm.room
  have hf := hm.fits
  have ta := tell_len m.a.s
  have tb := tell_len m.b.s
  cases hoff : m.off with
  | true => rw [openM_off hoff] at h; simp at h
  | false =>
    by_cases hz : (tellT m.a.s).1 = 0 ∧ (tellT m.b.s).1 = 0
    · have key : ∀ r : Int × M, openM m = (if r.1 = 0 then (0, some (⟨0, 1, 0, false⟩, [], []), r.2) else (r.1, none, r.2)) → isT l.t = true ∧ 0 ≤ l.epoch ∧ l.epoch ≤ 4611686018427387904 ∧ l.n ≤ 4194304 ∧ xs.length ≤ 4194304 := by
        intro r he
        rw [he] at h
        split at h
        · simp only [Prod.mk.injEq, Option.some.injEq] at h
          obtain ⟨_, ⟨rfl, rfl, rfl⟩, _⟩ := h
          exact ⟨rfl, by decide, by decide, by decide, by decide⟩
        · simp at h
      exact key _ (openM_fresh_eq rfl hoff hz.1 hz.2 rfl rfl rfl rfl)
    · have key : ∀ (t : Int) (pT : Int × Text × List Text × Nat) (r : Int × M), isT t = true → 0 ≤ pT.1 → pT.1 ≤ 4611686018427387904 → pT.2.2.1.length ≤ 4194304 → openM m = (if r.1 = 0 then (0, some (⟨t, pT.1, pT.2.2.1.length, false⟩, pT.2.1, pT.2.2.1), r.2) else (r.1, none, r.2)) →
          isT l.t = true ∧ 0 ≤ l.epoch ∧ l.epoch ≤ 4611686018427387904 ∧ l.n ≤ 4194304 ∧ xs.length ≤ 4194304 := by
        intro t pT r k1 k2 k3 k4 he
        rw [he] at h
        split at h
        · simp only [Prod.mk.injEq, Option.some.injEq] at h
          obtain ⟨_, ⟨rfl, _, rfl⟩, _⟩ := h
          exact ⟨k1, k2, k3, k4, k4⟩
        · simp at h
      by_cases hl : (tellT m.a.s).1 < (tellT m.b.s).1
      · exact key 1 (tellT m.b.s) _ rfl tb.2.2.1 tb.2.2.2 (by omega) (openM_tidy_eq (t := 1) ⟨hoff, by rw [if_pos hl], hz⟩ rfl rfl rfl)
      · exact key 0 (tellT m.a.s) _ rfl ta.2.2.1 ta.2.2.2 (by omega) (openM_tidy_eq (t := 0) ⟨hoff, by rw [if_neg hl], hz⟩ rfl rfl rfl)

/-! ### beside each other -/
section
variable {b p q q' : Nat} {m m' : M} {l : Lg} {w w' : World}

theorem RD.fl (h : RD p m' w) (hr : RP b m w) (f : FL b q w w') (hb : b < p) (hq : p + 2 < q) : RD p m' w' :=
  ⟨f.other hr _ _ _ _ h.1 (by omega) (by omega) (by decide), f.other hr _ _ _ _ h.2.1 (by omega) (by omega) (by decide), f.other hr _ _ _ _ h.2.2 (by omega) (by omega) (by decide)⟩
theorem LD.fl (h : LD q' p l w) (hr : RP b m w) (f : FL b q w w') (hb : q' ≠ b) (hq : q' ≠ q) : LD q' p l w' := f.other hr _ _ _ _ h hb hq (by decide)
theorem LD.fr (h : LD q' p l w) (hr : RP b m w) (f : Fr b w w') (hb : q' ≠ b) : LD q' p l w' := f.other hr _ _ _ _ h hb (by decide)
theorem LP.fd (h : LP q b l w) (f : FD p w w') (hq : p + 2 < q) : LP q b l w' := by
  unfold LP; rw [f.old q h.lt (by omega) (by omega) (by omega)]; exact h
theorem LP.fq (h : LP q b l w) (f : FQ p q' w w') (hq : p + 2 < q) (hne : q ≠ q') : LP q b l w' := by
  unfold LP; rw [f.old q h.lt (by omega) (by omega) (by omega) hne]; exact h
theorem RP.fq {l' : Lg} (h : RP b m w) (hd : RD p m' w) (hl : LD q' p l' w) (f : FQ p q' w w') (hb : b < p) (hq : p + 2 < q') : RP b m w' := by
  have ne : ∀ k, Mine w b k → k ≠ p ∧ k ≠ p + 1 ∧ k ≠ p + 2 ∧ k ≠ q' := by
    intro k hk
    rcases (h.mine hk).2 with rfl | ⟨o, f', h5⟩
    · omega
    · refine ⟨?_, ?_, ?_, ?_⟩
      · rintro rfl; rw [hd.1] at h5; injection h5 with h5; injection h5 with _ h5; exact absurd h5 (by decide)
      · rintro rfl; rw [hd.2.1] at h5; injection h5 with h5; injection h5 with _ h5; exact absurd h5 (by decide)
      · rintro rfl; rw [hd.2.2] at h5; injection h5 with h5; injection h5 with _ h5; exact absurd h5 (by decide)
      · rintro rfl; rw [show w.heap[k]? = _ from hl] at h5; injection h5 with h5; injection h5 with _ h5; exact absurd h5 (by decide)
  have same : ∀ k, Mine w b k → w'.heap[k]? = w.heap[k]? := fun k hk => f.old k (h.mine hk).1 (ne k hk).1 (ne k hk).2.1 (ne k hk).2.2.1 (ne k hk).2.2.2
  obtain ⟨v0, v1, hb, h0, h1, hs⟩ := h
  exact ⟨v0, v1, by rw [same b (.inl rfl)]; exact hb, h0.keep fun g hg => same g (mine0 hb hg), h1.keep fun g hg => same g (mine1 hb hg), hs⟩
theorem RD.left' (h : RD p m w) (x : Int) : RD p (m.arm x) (w.setCell ⟨p + 2, 3, none⟩ (.int .i64 x)) := h.left x
end

/-- the two ledgers, both or none -/
def Led (o : Option Lg) (b p : Nat) (va vb : Value) (w : World) : Prop := match o with
  | none => va = .pointer none ∧ vb = .pointer none
  | some l => ∃ q q' : Nat, va = ptr q ∧ vb = ptr q' ∧ LP q b l w ∧ LD q' p l w ∧ p + 2 < q ∧ p + 2 < q' ∧ q ≠ q'
/-- all that the law carries: both reels, both ledgers -/
structure PW (N : Nat) (m : M) (o : Option Lg) (p : Nat) (va vb : Value) (w : World) : Prop where
  rp : RP N m w
  rd : RD p m w
  led : Led o N p va vb w
  np : N < p
theorem PW.below {N p : Nat} {m : M} {o : Option Lg} {va vb : Value} {w w' : World} (h : PW N m o p va vb w) (hb : Below w.heap.size w w') : PW N m o p va vb w' := by
  refine ⟨h.rp.below hb, h.rd.below hb, ?_, h.np⟩
  have hl := h.led
  unfold Led at hl ⊢
  cases o with
  | none => exact hl
  | some l =>
    obtain ⟨q, q', h1, h2, h3, h4, h5⟩ := hl
    exact ⟨q, q', h1, h2, h3.below hb, h4.below hb, h5⟩
theorem Led.fr {N p : Nat} {m : M} {o : Option Lg} {va vb : Value} {w w' : World} (h : Led o N p va vb w) (hr : RP N m w) (f : Fr N w w') (hN : N < p) : Led o N p va vb w' := by
  unfold Led at h ⊢
  cases o with
  | none => exact h
  | some l =>
    obtain ⟨q, q', h1, h2, h3, h4, h5, h6, h7⟩ := h
    exact ⟨q, q', h1, h2, h3.fr hr f, h4.fr hr f (by omega), h5, h6, h7⟩
theorem Led.fd {N p : Nat} {o : Option Lg} {va vb : Value} {w w' : World} (h : Led o N p va vb w) (f : FD p w w') : Led o N p va vb w' := by
  unfold Led at h ⊢
  cases o with
  | none => exact h
  | some l =>
    obtain ⟨q, q', h1, h2, h3, h4, h5, h6, h7⟩ := h
    exact ⟨q, q', h1, h2, h3.fd f h5, h4.fd f h6, h5, h6, h7⟩

/-! ### are the tapes the same? -/
set_option maxHeartbeats 8000000 in
set_option maxRecDepth 100000 in
theorem c_same {b p : Nat} {m : M} {w : World} (h : RP b m w) (hd : RD p m w) :
    Calls Tryz.prog 12 #[ptr b, dtr p] w fun e w' => e = .returned (.bool true) ∧ w = w' := by
  have a0 := c_read 0 h
  have a1 := c_read 1 h
  have b0 := d_read 0 hd
  have b1 := d_read 1 hd
  obtain ⟨X0, hX0⟩ : ∃ X, tx (m.read 0).1 = X := ⟨_, rfl⟩
  obtain ⟨X1, hX1⟩ : ∃ X, tx (m.read 1).1 = X := ⟨_, rfl⟩
  obtain ⟨E0, hE0⟩ : ∃ E, (m.read 0).2 = E := ⟨_, rfl⟩
  obtain ⟨E1, hE1⟩ : ∃ E, (m.read 1).2 = E := ⟨_, rfl⟩
  rw [hX0, hE0] at a0 b0
  rw [hX1, hE1] at a1 b1
  have s0 := eq_yes (rfl : X0 = X0)
  have s1 := eq_yes (rfl : X1 = X1)
  clear hX0 hX1 hE0 hE1
  go_enter Tryz.func12, Tryz.ntmps12
  go_wp2_with fail
  refine wp_loop_rounds 4 ?_
  rw [rounds_succ]
  go_wp2_with fail
  refine a0.mono ?_
  rintro e w' ⟨rfl, rfl⟩
  go_wp2_with fail
  refine b0.mono ?_
  rintro e w' ⟨rfl, rfl⟩
  go_wp2_with fail
  refine (num_any _ _).mono ?_
  rintro e w' ⟨rfl, rfl⟩
  go_wp2_with fail
  rw [rounds_succ]
  go_wp2_with fail
  refine a1.mono ?_
  rintro e w' ⟨rfl, rfl⟩
  go_wp2_with fail
  refine b1.mono ?_
  rintro e w' ⟨rfl, rfl⟩
  go_wp2_with fail
  refine (num_any _ _).mono ?_
  rintro e w' ⟨rfl, rfl⟩
  go_wp2_with fail
  rw [rounds_succ]
  go_wp2_with fail
  go_ret
  exact ⟨rfl, rfl⟩

end Go.Proofs.YtglkapamkigdhaaGreatDoor.Rl

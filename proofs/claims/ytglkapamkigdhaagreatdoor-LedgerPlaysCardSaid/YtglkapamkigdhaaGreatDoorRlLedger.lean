/-
  The ledger as plain mathematics upon the model of a reel: Open, Add, Base; what is there behind a crash. No program; no condition.
-/
import Derived.Test.YtglkapamkigdhaaGreatDoorRlAll
import Derived.Test.YtglkapamkigdhaaGreatDoorPagesAll
namespace Go.Proofs.YtglkapamkigdhaaGreatDoor.Rl
open Go.RowKit
open Go.Proofs.YtglkapamkigdhaaGreatDoor.M (pageT kBase kRec scanT recPages scan_tape scan_whole scan_torn scan_nil scan_cut read_nil read_torn page_ne)

structure Lg where
  t : Int
  epoch : Int
  n : Nat
  broken : Bool
/-- a tape as the document's Scan answers it: 0: it has no epoch -/
noncomputable def scan4 (s : Text) : Int × Text × List Text × Nat := (scanT s).getD (0, [], [], 0)
/-- Open: the first error, the ledger, its base, its records, the reel -/
noncomputable def openM (m : M) : Int × Option (Lg × Text × List Text) × M :=
  if m.off = true then (30, none, m) else
  if (scan4 m.a.s).1 = 0 ∧ (scan4 m.b.s).1 = 0 then
    let r1 := if m.a.s = [] then (0, m) else m.trim 0 0
    let r2 := if r1.1 = 0 ∧ m.b.s ≠ [] then r1.2.trim 1 0 else r1
    let r3 := if r2.1 = 0 then r2.2.write 0 (pageT kBase 1 []) else r2
    let r4 := if r3.1 = 0 then r3.2.sync 0 else r3
    if r4.1 = 0 then (0, some (⟨0, 1, 0, false⟩, [], []), r4.2) else (r4.1, none, r4.2)
  else
    let t : Int := if (scan4 m.a.s).1 < (scan4 m.b.s).1 then 1 else 0
    let p := if (scan4 m.a.s).1 < (scan4 m.b.s).1 then scan4 m.b.s else scan4 m.a.s
    let r1 := if p.2.2.2 < (m.get t).s.length then m.trim t p.2.2.2 else (0, m)
    let r2 := if r1.1 = 0 ∧ (m.get (1 - t)).s ≠ [] then r1.2.trim (1 - t) 0 else r1
    if r2.1 = 0 then (0, some (⟨t, p.1, p.2.2.1.length, false⟩, p.2.1, p.2.2.1), r2.2) else (r2.1, none, r2.2)
def Lg.did (l : Lg) (e : Int) (mild : Bool) : Lg := { l with broken := l.broken || (e != 0 && !(mild && e == 5)) }
def addM (l : Lg) (m : M) (s : Text) : Int × Lg × M :=
  if l.broken = true then (40, l, m) else if 524288 < s.length then (1, l, m) else
    let r1 := m.write l.t (pageT kRec ((l.n : Int) + 1) s)
    if r1.1 ≠ 0 then (r1.1, l.did r1.1 true, r1.2) else
      let r2 := r1.2.sync l.t
      if r2.1 ≠ 0 then (r2.1, l.did r2.1 false, r2.2) else (0, { l with n := l.n + 1 }, r2.2)
def baseM (l : Lg) (m : M) (s : Text) : Int × Lg × M :=
  if l.broken = true then (40, l, m) else if 524288 < s.length then (1, l, m) else
    let r1 := m.write (1 - l.t) (pageT kBase (l.epoch + 1) s)
    if r1.1 ≠ 0 then (r1.1, l.did r1.1 true, r1.2) else
      let r2 := r1.2.sync (1 - l.t)
      if r2.1 ≠ 0 then (r2.1, l.did r2.1 false, r2.2) else
        let r3 := r2.2.trim l.t 0
        if r3.1 ≠ 0 then (r3.1, l.did r3.1 false, r3.2) else (0, ⟨1 - l.t, l.epoch + 1, 0, l.broken⟩, r3.2)

/-! ### what a crash leaves that turns nothing -/
theorem xor_zero (l : Text) (i : Nat) : l.modify i (· ^^^ (0 : UInt8)) = l := by
  apply List.ext_getElem?
  intro j
  rw [List.getElem?_modify]
  cases h : l[j]? with
  | none => simp
  | some c => simp
theorem crash_plain (T : Tape) (keep : Int) : T.crash keep 0 = ⟨T.s.take (T.k + T.kept keep), T.k + T.kept keep⟩ := by
  unfold Tape.crash
  split
  · rename_i h; rw [h]; rfl
  · rw [xor_zero]
theorem kept_le (T : Tape) (keep : Int) (h : T.k ≤ T.s.length) : T.k + T.kept keep ≤ T.s.length := by unfold Tape.kept; omega
/-- what is safe stays as it is -/
theorem crash_safe_all (S : Text) (keep : Int) : Tape.crash ⟨S, S.length⟩ keep 0 = ⟨S, S.length⟩ := by
  have : Tape.kept ⟨S, S.length⟩ keep = 0 := by unfold Tape.kept; simp only; omega
  rw [crash_plain, this]
  simp
/-- of what is not safe a front stays -/
theorem crash_front (S P : Text) (keep : Int) : ∃ j, j ≤ P.length ∧ Tape.crash ⟨S ++ P, S.length⟩ keep 0 = ⟨S ++ P.take j, (S ++ P.take j).length⟩ := by
  refine ⟨Tape.kept ⟨S ++ P, S.length⟩ keep, ?_, ?_⟩
  · have := kept_le ⟨S ++ P, S.length⟩ keep (by simp)
    simp only [List.length_append] at this; omega
  · rw [crash_plain]
    simp only
    have hk := kept_le ⟨S ++ P, S.length⟩ keep (by simp)
    simp only [List.length_append] at hk
    rw [List.take_append, List.take_of_length_le (by omega), Nat.add_sub_cancel_left]
    congr 1
    rw [List.length_append, List.length_take]
    omega

/-! ### a tape of a base and its records -/
def baseT (e : Int) (b : Text) (l : List Text) : Text := pageT kBase e b ++ recPages 0 l
structure Fine (e : Int) (b : Text) (l : List Text) : Prop where
  e1 : 1 ≤ e
  e2 : e ≤ 2305843009213693952
  hb : b.length ≤ 524288
  hl : ∀ x ∈ l, x.length ≤ 524288
  hc : l.length ≤ 1000
theorem scan4_whole {e : Int} {b : Text} {l : List Text} (h : Fine e b l) : scan4 (baseT e b l) = (e, b, l, (baseT e b l).length) := by
  unfold scan4 baseT
  rw [scan_whole h.e1 (by have := h.e2; omega) h.hb h.hl (by have := h.hc; omega)]
  simp
theorem scan4_torn {e : Int} {b : Text} {l : List Text} {k p q t : Text} {m : Int} (h : Fine e b l) (hp : pageT k m t = p ++ q) (hq : q ≠ []) : scan4 (baseT e b l ++ p) = (e, b, l, (baseT e b l).length) := by
  unfold scan4 baseT
  rw [List.append_assoc, scan_torn h.e1 (by have := h.e2; omega) h.hb h.hl (by have := h.hc; omega) hp hq]
  simp
theorem scan4_nil : scan4 [] = (0, [], [], 0) := by unfold scan4; rw [scan_nil]; rfl
theorem scan4_cut {k p q t : Text} {m : Int} (h : pageT k m t = p ++ q) (hq : q ≠ []) : scan4 p = (0, [], [], 0) := by unfold scan4; rw [scan_cut h hq]; rfl
theorem baseT_snoc (e : Int) (b : Text) (l : List Text) (x : Text) : baseT e b (l ++ [x]) = baseT e b l ++ pageT kRec ((l.length : Int) + 1) x := by
  unfold baseT
  rw [Go.Proofs.YtglkapamkigdhaaGreatDoor.M.recPages_snoc, List.append_assoc]
  simp
theorem baseT_ne (e : Int) (b : Text) (l : List Text) : baseT e b l ≠ [] := by
  unfold baseT
  intro h
  exact page_ne kBase e b (List.append_eq_nil_iff.1 h).1

/-! ### Open of a reel that is not armed -/
structure Calm (m : M) : Prop where
  off : m.off = false
  left : m.left = -1
theorem Calm.dead {m : M} (h : Calm m) : m.dead = false := by unfold M.dead; rw [h.off, h.left]; rfl
theorem Calm.tick {m : M} (h : Calm m) : m.tick = m := by
  obtain ⟨r, a, b, l, o, n⟩ := m
  obtain ⟨h1, h2⟩ := h
  simp only at h1 h2
  subst h1 h2
  rfl
theorem put_get (m : M) (t : Int) (T : Tape) : (m.put t T).get t = T := by unfold M.put M.get; split <;> simp_all
theorem put_other (m : M) (t : Int) (T : Tape) (ht : isT t = true) : (m.put t T).get (1 - t) = m.get (1 - t) := by
  rcases isT_cases ht with rfl | rfl <;> rfl
theorem put_other' (m : M) (t : Int) (T : Tape) (ht : isT t = true) : (m.put (1 - t) T).get t = m.get t := by
  rcases isT_cases ht with rfl | rfl <;> rfl
theorem isT_other {t : Int} (ht : isT t = true) : isT (1 - t) = true := by rcases isT_cases ht with rfl | rfl <;> rfl
theorem done_get (m : M) (t : Int) : m.done.get t = m.get t := rfl
theorem Calm.put {m : M} (h : Calm m) (t : Int) (T : Tape) : Calm (m.put t T).done := by
  unfold M.put
  split
  · exact ⟨h.off, h.left⟩
  · exact ⟨h.off, h.left⟩
theorem Calm.trim {m : M} (h : Calm m) {t : Int} (ht : isT t = true) (n : Nat) (hn : n ≤ (m.get t).s.length) : m.trim t n = (0, (m.put t ⟨(m.get t).s.take n, min (m.get t).k n⟩).done) := by
  unfold M.trim
  rw [if_neg (by rw [ht]; exact fun h' => h'.elim (fun h => by cases h) (fun h => by omega)), if_neg (by rw [h.dead]; decide), if_neg (by omega), h.tick]
  simp
theorem Calm.write {m : M} (h : Calm m) {t : Int} (ht : isT t = true) (s : Text) (hs : m.used + s.length ≤ m.room) : m.write t s = (0, (m.put t ⟨(m.get t).s ++ s, (m.get t).k⟩).done) := by
  unfold M.write
  rw [if_neg (by rw [ht]; decide), if_neg (by rw [h.dead]; decide), if_neg (by omega), h.tick]
theorem Calm.sync {m : M} (h : Calm m) {t : Int} (ht : isT t = true) : m.sync t = (0, (m.put t ⟨(m.get t).s, (m.get t).s.length⟩).done) := by
  unfold M.sync
  rw [if_neg (by rw [ht]; decide), if_neg (by rw [h.dead]; decide), h.tick]

/-- A tape with a base and its records, what is behind them of no account, and another tape with a smaller epoch, or none: that one is the ledger; what is behind goes, and the other tape. -/
theorem open_pick {m : M} (h : Calm m) {t : Int} (ht : isT t = true) {e : Int} {b p : Text} {l : List Text} (hs : (m.get t).s = baseT e b l ++ p) (hk : (m.get t).k = (baseT e b l ++ p).length)
    (hsc : scan4 (baseT e b l ++ p) = (e, b, l, (baseT e b l).length)) (he : 1 ≤ e) (ho : (scan4 (m.get (1 - t)).s).1 < e) (hko : (m.get (1 - t)).k = (m.get (1 - t)).s.length) :
    ∃ m', openM m = (0, some (⟨t, e, l.length, false⟩, b, l), m') ∧ Calm m' ∧ m'.room = m.room ∧ m'.get t = ⟨baseT e b l, (baseT e b l).length⟩ ∧ m'.get (1 - t) = ⟨[], 0⟩ := by
  -- the trim of what is behind
  obtain ⟨r1, h1, c1, hr1, hg1, ho1⟩ : ∃ r1, (if (baseT e b l).length < (m.get t).s.length then m.trim t ((baseT e b l).length : Nat) else (0, m)) = (0, r1) ∧ Calm r1 ∧ r1.room = m.room ∧ r1.get t = ⟨baseT e b l, (baseT e b l).length⟩ ∧ r1.get (1 - t) = m.get (1 - t) := by
    by_cases hp : (baseT e b l).length < (m.get t).s.length
    · rw [if_pos hp, h.trim ht _ (Nat.le_of_lt hp)]
      refine ⟨_, rfl, h.put _ _, by unfold M.put; split <;> rfl, ?_, ?_⟩
      · rw [done_get, put_get, hs, hk]
        simp
      · rw [done_get, put_other _ _ _ ht]
    · rw [if_neg hp]
      have hp0 : p = [] := by
        rw [hs, List.length_append] at hp
        exact List.length_eq_zero_iff.1 (by omega)
      refine ⟨m, rfl, h, rfl, ?_, rfl⟩
      rw [hp0, List.append_nil] at hs hk
      rcases hm : m.get t with ⟨s', k'⟩
      rw [hm] at hs hk
      simp only at hs hk
      rw [hs, hk]
  -- the other tape
  obtain ⟨r2, h2, c2, hr2, hg2, ho2⟩ : ∃ r2, (if (m.get (1 - t)).s ≠ [] then r1.trim (1 - t) 0 else (0, r1)) = (0, r2) ∧ Calm r2 ∧ r2.room = m.room ∧ r2.get t = ⟨baseT e b l, (baseT e b l).length⟩ ∧ r2.get (1 - t) = ⟨[], 0⟩ := by
    by_cases hq : (m.get (1 - t)).s = []
    · rw [if_neg (fun h => h hq)]
      refine ⟨r1, rfl, c1, hr1, hg1, ?_⟩
      rw [ho1]
      rcases hm : m.get (1 - t) with ⟨s', k'⟩
      rw [hm] at hq hko
      simp only at hq hko
      rw [hko, hq]
      rfl
    · rw [if_pos hq]
      have := c1.trim (isT_other ht) 0 (Nat.zero_le _)
      rw [show ((0 : Nat) : Int) = 0 from rfl] at this
      rw [this]
      refine ⟨_, rfl, c1.put _ _, by rw [← hr1]; unfold M.put; split <;> rfl, ?_, ?_⟩
      · rw [done_get, put_other' _ _ _ ht, hg1]
      · rw [done_get, put_get]
        simp
  refine ⟨r2, ?_, c2, hr2, hg2, ho2⟩
  unfold openM
  rw [if_neg (by rw [h.off]; decide)]
  rcases isT_cases ht with rfl | rfl
  · have ea : (scan4 m.a.s) = (e, b, l, (baseT e b l).length) := by rw [show m.a.s = (m.get 0).s from rfl, hs, hsc]
    have eb : (scan4 m.b.s).1 < e := ho
    rw [if_neg (by rw [ea]; rintro ⟨h, _⟩; simp only at h; omega)]
    have hlt : ¬ (scan4 m.a.s).1 < (scan4 m.b.s).1 := by rw [ea]; simp only; omega
    simp only [if_neg hlt]
    simp only [ea]
    rw [h1]
    simp only [true_and]
    rw [h2]
    simp
  · have ea : (scan4 m.b.s) = (e, b, l, (baseT e b l).length) := by rw [show m.b.s = (m.get 1).s from rfl, hs, hsc]
    have eb : (scan4 m.a.s).1 < e := ho
    rw [if_neg (by rw [ea]; rintro ⟨_, h⟩; simp only at h; omega)]
    have hlt : (scan4 m.a.s).1 < (scan4 m.b.s).1 := by rw [ea]; simp only; omega
    simp only [if_pos hlt]
    simp only [ea]
    rw [h1]
    simp only [true_and]
    rw [h2]
    simp

/-! ### whole, or under way -/
/-- The ledger l, not broken, with the base b and the records xs, stands on the reel; all is safe. -/
structure Whole (m : M) (l : Lg) (b : Text) (xs : List Text) : Prop where
  ht : isT l.t = true
  fine : Fine l.epoch b xs
  hn : l.n = xs.length
  nb : l.broken = false
  off : m.off = false
  hg : m.get l.t = ⟨baseT l.epoch b xs, (baseT l.epoch b xs).length⟩
  ho : m.get (1 - l.t) = ⟨[], 0⟩
/-- What the tapes hold when the power may have failed on the way from (b, xs) to (nb, nxs). -/
def Tapes (E : Int) (m : M) (b : Text) (xs : List Text) (nb : Text) (nxs : List Text) : Prop :=
  ∃ t e, isT t = true ∧ e ≤ E ∧ Fine e b xs ∧
    ((m.get t = ⟨baseT e b xs, (baseT e b xs).length⟩ ∧ m.get (1 - t) = ⟨[], 0⟩) ∨
     (∃ x, nb = b ∧ nxs = xs ++ [x] ∧ Fine e b (xs ++ [x]) ∧ m.get t = ⟨baseT e b xs ++ pageT kRec ((xs.length : Int) + 1) x, (baseT e b xs).length⟩ ∧ m.get (1 - t) = ⟨[], 0⟩) ∨
     (Fine (e + 1) nb [] ∧ nxs = [] ∧ m.get t = ⟨baseT e b xs, (baseT e b xs).length⟩ ∧ (m.get (1 - t) = ⟨pageT kBase (e + 1) nb, 0⟩ ∨ m.get (1 - t) = ⟨pageT kBase (e + 1) nb, (pageT kBase (e + 1) nb).length⟩)))
theorem Whole.tapes {m : M} {l : Lg} {b : Text} {xs : List Text} (h : Whole m l b xs) (nb : Text) (nxs : List Text) : Tapes l.epoch m b xs nb nxs := ⟨l.t, l.epoch, h.ht, Int.le_refl _, h.fine, .inl ⟨h.hg, h.ho⟩⟩
theorem Tapes.same {E : Int} {m m' : M} {b nb : Text} {xs nxs : List Text} (h : Tapes E m b xs nb nxs) (ha : m'.a = m.a) (hb : m'.b = m.b) : Tapes E m' b xs nb nxs := by
  have hg : ∀ t, m'.get t = m.get t := fun t => by unfold M.get; rw [ha, hb]
  unfold Tapes at *
  simp only [hg]
  exact h

theorem crash_get (m : M) (k0 k1 : Int) (t : Int) : (m.crash k0 k1 0).get t = (m.get t).crash (if t = 0 then k0 else k1) 0 := by
  unfold M.get M.crash
  split <;> rfl
theorem one_sub (t : Int) : 1 - (1 - t) = t := by omega
theorem baseT_one (e : Int) (b : Text) : baseT e b [] = pageT kBase e b := by unfold baseT; simp [recPages]

/-- Whenever the power failed: what is opened is what was there behind the last call that was OK, or behind the one that was under way. -/
theorem crash_open {E : Int} {m : M} {b nb : Text} {xs nxs : List Text} (h : Tapes E m b xs nb nxs) (k0 k1 : Int) :
    ∃ l' b' xs' m', openM (m.crash k0 k1 0) = (0, some (l', b', xs'), m') ∧ Whole m' l' b' xs' ∧ Calm m' ∧ m'.room = m.room ∧ l'.epoch ≤ E + 1 ∧ ((b' = b ∧ xs' = xs) ∨ (b' = nb ∧ xs' = nxs)) := by
  have hc : Calm (m.crash k0 k1 0) := ⟨rfl, rfl⟩
  obtain ⟨t, e, ht, hE, hf, h⟩ := h
  have none0 : (scan4 ([] : Text)).1 = 0 := by rw [scan4_nil]
  have e1 := hf.e1
  -- the tape t is the ledger
  have pick : ∀ (ys : List Text) (p : Text), Fine e b ys → (m.crash k0 k1 0).get t = ⟨baseT e b ys ++ p, (baseT e b ys ++ p).length⟩ → scan4 (baseT e b ys ++ p) = (e, b, ys, (baseT e b ys).length) →
      (scan4 ((m.crash k0 k1 0).get (1 - t)).s).1 < e → ((m.crash k0 k1 0).get (1 - t)).k = ((m.crash k0 k1 0).get (1 - t)).s.length →
      ∃ l' m', openM (m.crash k0 k1 0) = (0, some (l', b, ys), m') ∧ Whole m' l' b ys ∧ Calm m' ∧ m'.room = m.room ∧ l'.epoch ≤ E + 1 := by
    intro ys p hfy hg hsc ho hko
    obtain ⟨m', q1, q2, q3, q4, q5⟩ := open_pick hc ht (e := e) (b := b) (p := p) (l := ys) (by rw [hg]) (by rw [hg]) hsc e1 ho hko
    exact ⟨_, m', q1, ⟨ht, hfy, rfl, rfl, q2.off, q4, q5⟩, q2, q3, by simp only; omega⟩
  rcases h with ⟨hg, ho⟩ | ⟨x, rfl, rfl, hfx, hg, ho⟩ | ⟨hfn, rfl, hg, ho⟩
  · obtain ⟨l', m', q1, q2, q3, q4, q5⟩ := pick xs [] hf (by rw [crash_get, hg, crash_safe_all]; simp) (by rw [List.append_nil]; exact scan4_whole hf) (by rw [crash_get, ho, show (⟨[], 0⟩ : Tape) = ⟨[], ([] : Text).length⟩ from rfl, crash_safe_all, none0]; omega)
      (by rw [crash_get, ho, show (⟨[], 0⟩ : Tape) = ⟨[], ([] : Text).length⟩ from rfl, crash_safe_all])
    exact ⟨l', _, _, m', q1, q2, q3, q4, q5, .inl ⟨rfl, rfl⟩⟩
  · obtain ⟨j, hj, hcr⟩ := crash_front (baseT e nb xs) (pageT kRec ((xs.length : Int) + 1) x) (if t = 0 then k0 else k1)
    have o1 : (scan4 ((m.crash k0 k1 0).get (1 - t)).s).1 < e := by rw [crash_get, ho, show (⟨[], 0⟩ : Tape) = ⟨[], ([] : Text).length⟩ from rfl, crash_safe_all, none0]; omega
    have o2 : ((m.crash k0 k1 0).get (1 - t)).k = ((m.crash k0 k1 0).get (1 - t)).s.length := by rw [crash_get, ho, show (⟨[], 0⟩ : Tape) = ⟨[], ([] : Text).length⟩ from rfl, crash_safe_all]
    by_cases hjl : j = (pageT kRec ((xs.length : Int) + 1) x).length
    · obtain ⟨l', m', q1, q2, q3, q4, q5⟩ := pick (xs ++ [x]) [] hfx (by rw [crash_get, hg, hcr, hjl, List.take_length, List.append_nil, baseT_snoc]) (by rw [List.append_nil]; exact scan4_whole hfx) o1 o2
      exact ⟨l', _, _, m', q1, q2, q3, q4, q5, .inr ⟨rfl, rfl⟩⟩
    · have hsplit : pageT kRec ((xs.length : Int) + 1) x = (pageT kRec ((xs.length : Int) + 1) x).take j ++ (pageT kRec ((xs.length : Int) + 1) x).drop j := (List.take_append_drop j _).symm
      have hdrop : (pageT kRec ((xs.length : Int) + 1) x).drop j ≠ [] := fun h0 => by
        have := congrArg List.length h0
        simp at this; omega
      obtain ⟨l', m', q1, q2, q3, q4, q5⟩ := pick xs ((pageT kRec ((xs.length : Int) + 1) x).take j) hf (by rw [crash_get, hg, hcr]) (scan4_torn hf hsplit hdrop) o1 o2
      exact ⟨l', _, _, m', q1, q2, q3, q4, q5, .inl ⟨rfl, rfl⟩⟩
  · -- the other tape holds the new base, or a front of it
    have g1 : (m.crash k0 k1 0).get t = ⟨baseT e b xs, (baseT e b xs).length⟩ := by rw [crash_get, hg, crash_safe_all]
    obtain ⟨j, hj, hcr⟩ : ∃ j, j ≤ (pageT kBase (e + 1) nb).length ∧ (m.crash k0 k1 0).get (1 - t) = ⟨(pageT kBase (e + 1) nb).take j, ((pageT kBase (e + 1) nb).take j).length⟩ := by
      rcases ho with ho | ho
      · obtain ⟨j, hj, hcr⟩ := crash_front [] (pageT kBase (e + 1) nb) (if 1 - t = 0 then k0 else k1)
        exact ⟨j, hj, by rw [crash_get, ho]; simpa using hcr⟩
      · exact ⟨_, Nat.le_refl _, by rw [crash_get, ho, crash_safe_all, List.take_length]⟩
    by_cases hjl : j = (pageT kBase (e + 1) nb).length
    · rw [hjl, List.take_length] at hcr
      obtain ⟨m', q1, q2, q3, q4, q5⟩ := open_pick hc (isT_other ht) (e := e + 1) (b := nb) (p := []) (l := []) (by rw [hcr, baseT_one, List.append_nil]) (by rw [hcr, baseT_one, List.append_nil]) (by rw [List.append_nil]; exact scan4_whole hfn) hfn.e1
        (by rw [one_sub, g1, scan4_whole hf]; simp only; omega) (by rw [one_sub, g1])
      exact ⟨_, _, _, m', q1, ⟨isT_other ht, hfn, rfl, rfl, q2.off, q4, q5⟩, q2, q3, by simp only; omega, .inr ⟨rfl, rfl⟩⟩
    · have hsplit : pageT kBase (e + 1) nb = (pageT kBase (e + 1) nb).take j ++ (pageT kBase (e + 1) nb).drop j := (List.take_append_drop j _).symm
      have hdrop : (pageT kBase (e + 1) nb).drop j ≠ [] := fun h0 => by
        have := congrArg List.length h0
        simp at this; omega
      obtain ⟨l', m', q1, q2, q3, q4, q5⟩ := pick xs [] hf (by rw [g1, List.append_nil]) (by rw [List.append_nil]; exact scan4_whole hf) (by rw [hcr, scan4_cut hsplit hdrop]; simp only; omega) (by rw [hcr])
      exact ⟨l', _, _, m', q1, q2, q3, q4, q5, .inl ⟨rfl, rfl⟩⟩

/-! ### Add and Base, whenever the power fails -/
theorem not_dead {m : M} (h : ¬ m.dead = true) : m.off = false := by
  unfold M.dead at h
  cases ho : m.off with
  | false => rfl
  | true => rw [ho] at h; exact absurd rfl h
theorem write_or (m : M) {t : Int} (ht : isT t = true) (s : Text) (hs : m.used + s.length ≤ m.room) :
    m.write t s = (30, m.cut) ∨ (m.off = false ∧ m.write t s = (0, (m.tick.put t ⟨(m.get t).s ++ s, (m.get t).k⟩).done)) := by
  unfold M.write
  rw [if_neg (by rw [ht]; decide)]
  by_cases hd : m.dead = true
  · rw [if_pos hd]; exact .inl rfl
  · rw [if_neg hd, if_neg (by omega)]; exact .inr ⟨not_dead hd, rfl⟩
theorem sync_or (m : M) {t : Int} (ht : isT t = true) : m.sync t = (30, m.cut) ∨ (m.off = false ∧ m.sync t = (0, (m.tick.put t ⟨(m.get t).s, (m.get t).s.length⟩).done)) := by
  unfold M.sync
  rw [if_neg (by rw [ht]; decide)]
  by_cases hd : m.dead = true
  · rw [if_pos hd]; exact .inl rfl
  · rw [if_neg hd]; exact .inr ⟨not_dead hd, rfl⟩
theorem wipe_or (m : M) {t : Int} (ht : isT t = true) : m.trim t 0 = (30, m.cut) ∨ (m.off = false ∧ m.trim t 0 = (0, (m.tick.put t ⟨[], 0⟩).done)) := by
  unfold M.trim
  rw [if_neg (by rw [ht]; exact fun h' => h'.elim (fun h => by cases h) (fun h => by omega))]
  by_cases hd : m.dead = true
  · rw [if_pos hd]; exact .inl rfl
  · rw [if_neg hd, if_neg (by omega)]
    refine .inr ⟨not_dead hd, ?_⟩
    simp
theorem used_get (m : M) {t : Int} (ht : isT t = true) : m.used = (m.get t).s.length + (m.get (1 - t)).s.length := by
  rcases isT_cases ht with rfl | rfl
  · rfl
  · unfold M.used; exact Nat.add_comm _ _
theorem put_off (m : M) (t : Int) (T : Tape) : (m.put t T).done.off = m.off := by unfold M.put; split <;> rfl
theorem put_room (m : M) (t : Int) (T : Tape) : (m.put t T).done.room = m.room := by unfold M.put; split <;> rfl
theorem cut_get (m : M) (t : Int) : m.cut.get t = m.get t := rfl
theorem tick_get (m : M) (t : Int) : m.tick.get t = m.get t := rfl

theorem add_step {m : M} {l : Lg} {b : Text} {xs : List Text} (h : Whole m l b xs) (x : Text) (hf : Fine l.epoch b (xs ++ [x])) (hr : m.used + (pageT kRec ((xs.length : Int) + 1) x).length ≤ m.room) :
    ∃ e l' m', addM l m x = (e, l', m') ∧ m'.room = m.room ∧ m'.used ≤ m.used + (pageT kRec ((xs.length : Int) + 1) x).length ∧
      ((e = 0 ∧ Whole m' l' b (xs ++ [x]) ∧ l'.epoch = l.epoch) ∨ (e = 30 ∧ l'.broken = true ∧ Tapes l.epoch m' b xs b (xs ++ [x]))) := by
  obtain ⟨ht, hfi, hn, hb, hoff, hg, ho⟩ := h
  have hx : ¬ 524288 < x.length := by have := hf.hl x (by simp); omega
  obtain ⟨P, hP⟩ : ∃ P, P = pageT kRec ((xs.length : Int) + 1) x := ⟨_, rfl⟩
  rw [← hP] at hr
  unfold addM
  rw [if_neg (by rw [hb]; decide), if_neg hx, hn, ← hP]
  rcases write_or m ht P hr with hw | ⟨_, hw⟩
  · rw [hw]
    exact ⟨30, _, m.cut, rfl, rfl, Nat.le_add_right _ _, .inr ⟨rfl, by unfold Lg.did; simp, l.t, l.epoch, ht, Int.le_refl _, hfi, .inl ⟨hg, ho⟩⟩⟩
  · rw [hw]
    obtain ⟨m1, hm1⟩ : ∃ m1, m1 = (m.tick.put l.t ⟨(m.get l.t).s ++ P, (m.get l.t).k⟩).done := ⟨_, rfl⟩
    have g1 : m1.get l.t = ⟨baseT l.epoch b xs ++ P, (baseT l.epoch b xs).length⟩ := by rw [hm1, done_get, put_get, hg]
    have o1 : m1.get (1 - l.t) = ⟨[], 0⟩ := by rw [hm1, done_get, put_other _ _ _ ht, tick_get, ho]
    have f1 : m1.off = false := by rw [hm1, put_off]; exact hoff
    have r1 : m1.room = m.room := by rw [hm1, put_room]; rfl
    have u1 : m1.used = m.used + P.length := by rw [used_get m1 ht, used_get m ht, g1, o1, hg, ho]; simp only [List.length_append, List.length_nil]; omega
    rw [← hm1]
    dsimp only
    rw [if_neg (fun h => h rfl)]
    rcases sync_or m1 ht with hs | ⟨_, hs⟩
    · rw [hs]
      refine ⟨30, _, m1.cut, rfl, r1, ?_, .inr ⟨rfl, by unfold Lg.did; simp, l.t, l.epoch, ht, Int.le_refl _, hfi, .inr (.inl ⟨x, rfl, rfl, hf, ?_, ?_⟩)⟩⟩
      · show m1.used ≤ _; omega
      · rw [cut_get, g1, hP]
      · rw [cut_get, o1]
    · rw [hs]
      refine ⟨0, _, _, rfl, by rw [put_room]; exact r1, ?_, .inl ⟨rfl, ⟨ht, hf, by simp, hb, by rw [put_off]; exact f1, ?_, ?_⟩, rfl⟩⟩
      · rw [used_get _ ht, done_get, done_get, put_get, put_other _ _ _ ht, tick_get, ← used_get m1 ht]; omega
      · rw [done_get, put_get, g1, baseT_snoc, ← hP]
      · rw [done_get, put_other _ _ _ ht, tick_get, o1]

theorem base_step {m : M} {l : Lg} {b : Text} {xs : List Text} (h : Whole m l b xs) (x : Text) (hf : Fine (l.epoch + 1) x []) (hr : m.used + (pageT kBase (l.epoch + 1) x).length ≤ m.room) :
    ∃ e l' m', baseM l m x = (e, l', m') ∧ m'.room = m.room ∧ m'.used ≤ m.used + (pageT kBase (l.epoch + 1) x).length ∧
      ((e = 0 ∧ Whole m' l' x [] ∧ l'.epoch = l.epoch + 1) ∨ (e = 30 ∧ l'.broken = true ∧ Tapes l.epoch m' b xs x [])) := by
  obtain ⟨ht, hfi, hn, hb, hoff, hg, ho⟩ := h
  have hto := isT_other ht
  have hx : ¬ 524288 < x.length := by have := hf.hb; omega
  obtain ⟨P, hP⟩ : ∃ P, P = pageT kBase (l.epoch + 1) x := ⟨_, rfl⟩
  rw [← hP] at hr
  unfold baseM
  rw [if_neg (by rw [hb]; decide), if_neg hx, ← hP]
  rcases write_or m hto P hr with hw | ⟨_, hw⟩
  · rw [hw]
    exact ⟨30, _, m.cut, rfl, rfl, Nat.le_add_right _ _, .inr ⟨rfl, by unfold Lg.did; simp, l.t, l.epoch, ht, Int.le_refl _, hfi, .inl ⟨hg, ho⟩⟩⟩
  · rw [hw]
    obtain ⟨m1, hm1⟩ : ∃ m1, m1 = (m.tick.put (1 - l.t) ⟨(m.get (1 - l.t)).s ++ P, (m.get (1 - l.t)).k⟩).done := ⟨_, rfl⟩
    have g1 : m1.get l.t = ⟨baseT l.epoch b xs, (baseT l.epoch b xs).length⟩ := by rw [hm1, done_get, put_other' _ _ _ ht, tick_get, hg]
    have o1 : m1.get (1 - l.t) = ⟨P, 0⟩ := by rw [hm1, done_get, put_get, ho]; rfl
    have f1 : m1.off = false := by rw [hm1, put_off]; exact hoff
    have r1 : m1.room = m.room := by rw [hm1, put_room]; rfl
    have u1 : m1.used = m.used + P.length := by rw [used_get m1 ht, used_get m ht, g1, o1, hg, ho]; simp only [List.length_nil]; omega
    rw [← hm1]
    dsimp only
    rw [if_neg (fun h => h rfl)]
    rcases sync_or m1 hto with hs | ⟨_, hs⟩
    · rw [hs]
      refine ⟨30, _, m1.cut, rfl, r1, ?_, .inr ⟨rfl, by unfold Lg.did; simp, l.t, l.epoch, ht, Int.le_refl _, hfi, .inr (.inr ⟨hf, rfl, by rw [cut_get, g1], .inl (by rw [cut_get, o1, hP])⟩)⟩⟩
      show m1.used ≤ _; omega
    · rw [hs]
      obtain ⟨m2, hm2⟩ : ∃ m2, m2 = (m1.tick.put (1 - l.t) ⟨(m1.get (1 - l.t)).s, (m1.get (1 - l.t)).s.length⟩).done := ⟨_, rfl⟩
      have g2 : m2.get l.t = ⟨baseT l.epoch b xs, (baseT l.epoch b xs).length⟩ := by rw [hm2, done_get, put_other' _ _ _ ht, tick_get, g1]
      have o2 : m2.get (1 - l.t) = ⟨P, P.length⟩ := by rw [hm2, done_get, put_get, o1]
      have f2 : m2.off = false := by rw [hm2, put_off]; exact f1
      have r2 : m2.room = m.room := by rw [hm2, put_room]; exact r1
      have u2 : m2.used = m.used + P.length := by rw [used_get m2 ht, g2, o2, ← u1, used_get m1 ht, g1, o1]
      rw [← hm2]
      dsimp only
      rw [if_neg (fun h => h rfl)]
      rcases wipe_or m2 ht with hs | ⟨_, hs⟩
      · rw [hs]
        refine ⟨30, _, m2.cut, rfl, r2, ?_, .inr ⟨rfl, by unfold Lg.did; simp, l.t, l.epoch, ht, Int.le_refl _, hfi, .inr (.inr ⟨hf, rfl, by rw [cut_get, g2], .inr (by rw [cut_get, o2, hP])⟩)⟩⟩
        show m2.used ≤ _; omega
      · rw [hs]
        refine ⟨0, _, _, rfl, by rw [put_room]; exact r2, ?_, .inl ⟨rfl, ⟨hto, hf, rfl, hb, by rw [put_off]; exact f2, ?_, ?_⟩, rfl⟩⟩
        · rw [used_get _ ht, done_get, done_get, put_get, put_other _ _ _ ht, tick_get, o2]
          simp only [List.length_nil]; omega
        · show (m2.tick.put l.t ⟨[], 0⟩).done.get (1 - l.t) = ⟨baseT (l.epoch + 1) x [], _⟩
          rw [done_get, put_other _ _ _ ht, tick_get, o2, baseT_one, hP]
        · show (m2.tick.put l.t ⟨[], 0⟩).done.get (1 - (1 - l.t)) = _
          rw [one_sub, done_get, put_get]

/-- Open of a reel that is empty. -/
theorem open_fresh {m : M} (h : Calm m) (ha : m.a = ⟨[], 0⟩) (hb : m.b = ⟨[], 0⟩) (hr : (pageT kBase 1 []).length ≤ m.room) :
    ∃ m', openM m = (0, some (⟨0, 1, 0, false⟩, [], []), m') ∧ Whole m' ⟨0, 1, 0, false⟩ [] [] ∧ Calm m' ∧ m'.room = m.room ∧ m'.used = (pageT kBase 1 []).length := by
  have hu : m.used = 0 := by unfold M.used; rw [ha, hb]; rfl
  obtain ⟨m1, hm1⟩ : ∃ m1, m1 = (m.put 0 ⟨pageT kBase 1 [], 0⟩).done := ⟨_, rfl⟩
  have hw : m.write 0 (pageT kBase 1 []) = (0, m1) := by
    rw [h.write rfl _ (by omega), hm1, show m.get 0 = ⟨[], 0⟩ from ha]
    rfl
  have c1 : Calm m1 := by rw [hm1]; exact h.put _ _
  have g1 : m1.get 0 = ⟨pageT kBase 1 [], 0⟩ := by rw [hm1, done_get, put_get]
  have o1 : m1.get 1 = ⟨[], 0⟩ := by rw [hm1, done_get]; exact hb
  have hs := c1.sync (t := 0) rfl
  obtain ⟨m2, hm2⟩ : ∃ m2, m2 = (m1.put 0 ⟨(m1.get 0).s, (m1.get 0).s.length⟩).done := ⟨_, rfl⟩
  rw [← hm2] at hs
  have c2 : Calm m2 := by rw [hm2]; exact c1.put _ _
  have g2 : m2.get 0 = ⟨pageT kBase 1 [], (pageT kBase 1 []).length⟩ := by rw [hm2, done_get, put_get, g1]
  have o2 : m2.get 1 = ⟨[], 0⟩ := by rw [hm2, done_get]; exact o1
  refine ⟨m2, ?_, ⟨rfl, ⟨by decide, by decide, by decide, by simp, by decide⟩, rfl, rfl, c2.off, by rw [baseT_one]; exact g2, o2⟩, c2, ?_, ?_⟩
  · unfold openM
    rw [if_neg (by rw [h.off]; decide), ha, hb]
    simp only [scan4_nil, and_self, if_true]
    simp only [ne_eq, not_true_eq_false, and_false, if_false, if_true]
    rw [hw]
    simp only [if_true]
    rw [hs]
    simp
  · rw [hm2, put_room, hm1, put_room]
  · rw [used_get m2 (t := 0) rfl, g2, show (1 : Int) - 0 = 1 from rfl, o2]
    rfl

end Go.Proofs.YtglkapamkigdhaaGreatDoor.Rl

/-
  For LedgerLasts: what the law's ledger is, act by act, upon the model; no program. No condition.
-/
import Derived.Test.YtglkapamkigdhaaGreatDoorLiveAll
namespace Go.Proofs.YtglkapamkigdhaaGreatDoor.Rl
open Go.RowKit
open Go.Proofs.YtglkapamkigdhaaGreatDoor.M (pageT kBase kRec inR tellT tell_len)

theorem addM_l (l : Lg) (m : M) (s : Text) : (addM l m s).2.1.t = l.t ∧ (addM l m s).2.1.epoch = l.epoch ∧ (addM l m s).2.1.n ≤ l.n + 1 := by
  unfold addM
  split
  · exact ⟨rfl, rfl, Nat.le_succ _⟩
  split
  · exact ⟨rfl, rfl, Nat.le_succ _⟩
  dsimp only
  split
  · exact ⟨rfl, rfl, Nat.le_succ _⟩
  split
  · exact ⟨rfl, rfl, Nat.le_succ _⟩
  · exact ⟨rfl, rfl, Nat.le_refl _⟩
theorem baseM_l (l : Lg) (m : M) (s : Text) : ((baseM l m s).2.1.t = l.t ∨ (baseM l m s).2.1.t = 1 - l.t) ∧ (l.epoch ≤ (baseM l m s).2.1.epoch ∧ (baseM l m s).2.1.epoch ≤ l.epoch + 1) ∧ (baseM l m s).2.1.n ≤ l.n := by
  have e : l.epoch ≤ l.epoch ∧ l.epoch ≤ l.epoch + 1 := by omega
  unfold baseM
  split
  · exact ⟨.inl rfl, e, Nat.le_refl _⟩
  split
  · exact ⟨.inl rfl, e, Nat.le_refl _⟩
  dsimp only
  split
  · exact ⟨.inl rfl, e, Nat.le_refl _⟩
  split
  · exact ⟨.inl rfl, e, Nat.le_refl _⟩
  split
  · exact ⟨.inl rfl, e, Nat.le_refl _⟩
  · exact ⟨.inr rfl, by simp only; omega, Nat.zero_le _⟩

/-- The law's ledger ahead of act k: its base b0 and records xs; what was under way: b1, ys. -/
structure LI (k : Nat) (m : M) (l : Lg) (b0 : Text) (xs : List Text) (b1 : Text) (ys : List Text) : Prop where
  st : (l.broken = false ∧ Whole m l b0 xs) ∨ (l.broken = true ∧ Tapes ((k : Int) + 1) m b0 xs b1 ys)
  ok : m.ok
  ops : m.ops ≤ 4 + 5 * k
  room : m.room = 4194304
  t : isT l.t = true
  e1 : 1 ≤ l.epoch
  e2 : l.epoch ≤ (k : Int) + 1
  n : l.n ≤ k
  hb0 : b0.length ≤ 8000
  hxs : ∀ x ∈ xs, x.length ≤ 8000
  hxk : xs.length ≤ k
  hb1 : b1.length ≤ 8000
  hys : ∀ x ∈ ys, x.length ≤ 8000
  hyk : ys.length ≤ k

section
variable {k : Nat} {m : M} {l : Lg} {b0 b1 : Text} {xs ys : List Text}

theorem Tapes.mono {E E' : Int} (h : Tapes E m b0 xs b1 ys) (he : E ≤ E') : Tapes E' m b0 xs b1 ys := by
  obtain ⟨t, e, h1, h2, h3⟩ := h
  exact ⟨t, e, h1, Int.le_trans h2 he, h3⟩
theorem LI.lok (h : LI k m l b0 xs b1 ys) (hk : k ≤ 50) : l.ok := ⟨h.t, by have := h.e1; omega, by have := h.e2; omega, by have := h.n; omega⟩
theorem LI.next (h : LI k m l b0 xs b1 ys) : LI (k + 1) m l b0 xs b1 ys :=
  ⟨h.st.imp id (fun x => ⟨x.1, x.2.mono (by omega)⟩), h.ok, by have := h.ops; omega, h.room, h.t, h.e1, by have := h.e2; omega, by have := h.n; omega, h.hb0, h.hxs, by have := h.hxk; omega, h.hb1, h.hys, by have := h.hyk; omega⟩
theorem LI.whole (h : LI k m l b0 xs b1 ys) (hb : l.broken = false) : Whole m l b0 xs := by
  rcases h.st with ⟨_, h⟩ | ⟨h, _⟩
  · exact h
  · rw [hb] at h; cases h
theorem LI.dead (_h : LI k m l b0 xs b1 ys) (hb : l.broken = true) (s : Text) : addM l m s = (40, l, m) := addM_broken hb m s
theorem LI.arm (h : LI k m l b0 xs b1 ys) {n : Int} (h1 : -9223372036854775808 ≤ n) (h2 : n ≤ 9223372036854775807) : LI (k + 1) (m.arm n) l b0 xs b1 ys := by
  have h' := h.next
  refine ⟨?_, h'.ok.arm h1 h2, h'.ops, h'.room, h'.t, h'.e1, h'.e2, h'.n, h'.hb0, h'.hxs, h'.hxk, h'.hb1, h'.hys, h'.hyk⟩
  rcases h'.st with ⟨p, q⟩ | ⟨p, q⟩
  · exact .inl ⟨p, ⟨q.ht, q.fine, q.hn, q.nb, q.off, q.hg, q.ho⟩⟩
  · exact .inr ⟨p, q.same rfl rfl⟩

theorem LI.add (h : LI k m l b0 xs b1 ys) (hb : l.broken = false) (hk : k < 50) {x : Text} (hx : x.length ≤ 8000) :
    ∃ e l' m', addM l m x = (e, l', m') ∧ ((e = 0 ∧ LI (k + 1) m' l' b0 (xs ++ [x]) b0 (xs ++ [x])) ∨ (e = 30 ∧ LI (k + 1) m' l' b0 xs b0 (xs ++ [x]))) := by
  have hw := h.whole hb
  have h1 := h.hxk
  have hf : Fine l.epoch b0 (xs ++ [x]) := hw.fine.snoc x (by omega) (by omega)
  have hp : (pageT kRec ((xs.length : Int) + 1) x).length ≤ 8120 := by have := rec_short (n := xs.length) (x := x) (by omega) (by omega); omega
  obtain ⟨e, l', m', q1, q2, q3, q4⟩ := add_step hw x hf (hw.fits (c := 8000) (k := 50) h.hb0 h.hxs (by omega) (by decide) (by have := h.room; omega))
  obtain ⟨k1, o1⟩ := addM_ok' h.ok (by have := h.ops; omega) q1
  have hl := addM_l l m x
  rw [q1] at hl
  simp only at hl
  obtain ⟨t1, t2, t3⟩ := hl
  have e1 := h.e1
  have e2 := h.e2
  have n1 := h.n
  have o2 := h.ops
  have hxs : ∀ y ∈ xs ++ [x], y.length ≤ 8000 := by
    intro y hy
    rcases List.mem_append.1 hy with hy | hy
    · exact h.hxs y hy
    · simp at hy; subst hy; exact hx
  have hlen : (xs ++ [x]).length ≤ k + 1 := by simp; omega
  refine ⟨e, l', m', q1, ?_⟩
  rcases q4 with ⟨q4, q5, _⟩ | ⟨q4, q5, q6⟩
  · exact .inl ⟨q4, ⟨.inl ⟨q5.nb, q5⟩, k1, by omega, by rw [q2]; exact h.room, by rw [t1]; exact h.t, by omega, by omega, by omega, h.hb0, hxs, hlen, h.hb0, hxs, hlen⟩⟩
  · exact .inr ⟨q4, ⟨.inr ⟨q5, q6.mono (by omega)⟩, k1, by omega, by rw [q2]; exact h.room, by rw [t1]; exact h.t, by omega, by omega, by omega, h.hb0, h.hxs, by omega, h.hb0, hxs, hlen⟩⟩
theorem LI.base (h : LI k m l b0 xs b1 ys) (hb : l.broken = false) (hk : k < 50) {x : Text} (hx : x.length ≤ 8000) :
    ∃ e l' m', baseM l m x = (e, l', m') ∧ ((e = 0 ∧ LI (k + 1) m' l' x [] x []) ∨ (e = 30 ∧ LI (k + 1) m' l' b0 xs x [])) := by
  have hw := h.whole hb
  have h1 := h.hxk
  have e1 := h.e1
  have e2 := h.e2
  have hf : Fine (l.epoch + 1) x [] := hw.fine.next x (by omega) (by omega)
  have hp : (pageT kBase (l.epoch + 1) x).length ≤ 8120 := by have := base_short (e := l.epoch + 1) (x := x) (by omega) (by omega) (by omega); omega
  obtain ⟨e, l', m', q1, q2, q3, q4⟩ := base_step hw x hf (hw.fits (c := 8000) (k := 50) h.hb0 h.hxs (by omega) (by decide) (by have := h.room; omega))
  obtain ⟨k1, o1⟩ := baseM_ok' h.ok (by have := h.ops; omega) q1
  have hl := baseM_l l m x
  rw [q1] at hl
  simp only at hl
  obtain ⟨t1, t2, t3⟩ := hl
  have n1 := h.n
  have o2 := h.ops
  have ht : isT l'.t = true := by
    rcases t1 with t1 | t1
    · rw [t1]; exact h.t
    · rw [t1]; exact isT_other h.t
  refine ⟨e, l', m', q1, ?_⟩
  rcases q4 with ⟨q4, q5, _⟩ | ⟨q4, q5, q6⟩
  · exact .inl ⟨q4, ⟨.inl ⟨q5.nb, q5⟩, k1, by omega, by rw [q2]; exact h.room, ht, by omega, by omega, by omega, hx, by simp, by simp, hx, by simp, by simp⟩⟩
  · exact .inr ⟨q4, ⟨.inr ⟨q5, q6.mono (by omega)⟩, k1, by omega, by rw [q2]; exact h.room, ht, by omega, by omega, by omega, h.hb0, h.hxs, by omega, hx, by simp, by simp⟩⟩
theorem LI.crash (h : LI k m l b0 xs b1 ys) (hk : k < 50) (k0 k1 : Int) :
    ∃ l' b' xs' m', openM (m.crash k0 k1 0) = (0, some (l', b', xs'), m') ∧ LI (k + 1) m' l' b' xs' b' xs' ∧ ((b' = b0 ∧ xs' = xs) ∨ (b' = b1 ∧ xs' = ys)) := by
  have ht : Tapes ((k : Int) + 1) m b0 xs b1 ys := by
    rcases h.st with ⟨_, q⟩ | ⟨_, q⟩
    · exact (q.tapes b1 ys).mono h.e2
    · exact q
  obtain ⟨l', b', xs', m', q1, q2, q3, q4, q5, q6⟩ := crash_open ht k0 k1
  have o2 := h.ops
  obtain ⟨j1, o1⟩ := openM_ok' (h.ok.crash k0 k1 0) (by show m.ops < _; omega) q1
  have o1' : m'.ops ≤ m.ops + 4 := o1
  have hb : b'.length ≤ 8000 ∧ (∀ x ∈ xs', x.length ≤ 8000) ∧ xs'.length ≤ k := by
    rcases q6 with ⟨rfl, rfl⟩ | ⟨rfl, rfl⟩
    · exact ⟨h.hb0, h.hxs, h.hxk⟩
    · exact ⟨h.hb1, h.hys, h.hyk⟩
  obtain ⟨hb, hx, hl⟩ := hb
  refine ⟨l', b', xs', m', q1, ⟨.inl ⟨q2.nb, q2⟩, j1, by omega, by rw [q4]; exact h.room, q2.ht, q2.fine.e1, by push_cast; omega, by rw [q2.hn]; omega, hb, hx, by omega, hb, hx, by omega⟩, q6⟩

theorem LI.start {m : M} (hw : Whole m ⟨0, 1, 0, false⟩ [] []) (hok : m.ok) (ho : m.ops ≤ 4) (hr : m.room = 4194304) : LI 0 m ⟨0, 1, 0, false⟩ [] [] [] [] :=
  ⟨.inl ⟨rfl, hw⟩, hok, by omega, hr, rfl, by decide, by decide, Nat.le_refl _, by simp, by simp, by simp, by simp, by simp, by simp⟩
end

end Go.Proofs.YtglkapamkigdhaaGreatDoor.Rl

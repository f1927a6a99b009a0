/-
  Slices of bounds, as lists of pairs of texts; whole chains, reckoned from the front and place by place. No condition.
-/
import Derived.Test.YtbjgpcfimpmjiaaRMeta
import Derived.Laws.OwnMore
import Derived.Maps.AppendAt
namespace Go.Proofs.Ytbjgpcfimpmjiaa
open Go.RowKit O

theorem add_block (a : Addr) (n : Nat) : (a.add n).block = a.block := by unfold Addr.add; split <;> rfl

abbrev Pair := ByteArray × ByteArray
def bds (l : List Pair) : List Bd := l.map fun p => B p.1 p.2

/-- In the world w the slice value v holds the bounds bs; its cells lie below block N. -/
def SB (w : World) (N : Nat) (v : Value) (bs : List Pair) : Prop :=
  ∃ (A : Option Addr) (c : Nat), v = .slice A bs.length c ∧ (0 < bs.length → ∃ b o : Nat, A = some ⟨b, o, none⟩ ∧ b < N ∧ ∀ i (h : i < bs.length), w.cell? ⟨b, o + i * 2, none⟩ = some (.string bs[i].1) ∧ w.cell? ⟨b, o + i * 2 + 1, none⟩ = some (.string bs[i].2))

theorem SB.nil (w : World) (N : Nat) : SB w N (.slice none 0 0) [] := ⟨none, 0, rfl, fun h => absurd h (by simp)⟩
theorem SB.keep {w w' : World} {N : Nat} {v : Value} {bs : List Pair} (h : SB w N v bs) (hk : ∀ p : Addr, p.block < N → w'.cell? p = w.cell? p) : SB w' N v bs := by
  obtain ⟨A, c, hv, h⟩ := h
  refine ⟨A, c, hv, fun h0 => ?_⟩
  obtain ⟨b, o, e, hb, hc⟩ := h h0
  exact ⟨b, o, e, hb, fun i hi => by rw [hk ⟨b, o + i * 2, none⟩ hb, hk ⟨b, o + i * 2 + 1, none⟩ hb]; exact hc i hi⟩
theorem SB.below {w w' : World} {N : Nat} {v : Value} {bs : List Pair} (h : SB w N v bs) (hb : Below N w w') : SB w' N v bs := h.keep fun _ hp => hb.cell hp
theorem SB.more {w : World} {N N' : Nat} {v : Value} {bs : List Pair} (h : SB w N v bs) (hB : N ≤ N') : SB w N' v bs := by
  obtain ⟨A, c, hv, h⟩ := h
  refine ⟨A, c, hv, fun h0 => ?_⟩
  obtain ⟨b, o, e, hb, hc⟩ := h h0
  exact ⟨b, o, e, by omega, hc⟩
theorem SB.at_ {w : World} {N k : Nat} {A : Option Addr} {n c : Nat} {bs : List Pair} (h : SB w N (.slice A n c) bs) (hk : k < bs.length) :
    ∃ b o : Nat, A = some ⟨b, o, none⟩ ∧ b < N ∧ w.cell? ⟨b, o + k * 2, none⟩ = some (.string bs[k].1) ∧ w.cell? ⟨b, o + k * 2 + 1, none⟩ = some (.string bs[k].2) := by
  obtain ⟨A', c', hv, h⟩ := h
  injection hv with h1 h2 h3
  subst h1
  obtain ⟨b, o, e, hb, hc⟩ := h (by omega)
  exact ⟨b, o, e, hb, hc k hk⟩
theorem SB.form {w : World} {N : Nat} {v : Value} {bs : List Pair} (h : SB w N v bs) : ∃ A c, v = .slice A bs.length c := by
  obtain ⟨A, c, hv, _⟩ := h; exact ⟨A, c, hv⟩

/-- The chain from the front: what begins at from, and each at the end of the one ahead. -/
def wgo (s : Text) : List Bd → Bool
  | [] => false
  | b :: l => if isB b = true ∧ b.f = s then (if b.t = [] then decide (l = []) else wgo b.t l) else false

theorem wgo_chain : ∀ (l : List Bd) (a : Bd) (s : Text), wgo s (a :: l) = (decide (a.f = s) && chain (a :: l) && decide (lastT (a :: l) = []))
  | [], a, s => by
    unfold wgo chain lastT
    by_cases h1 : isB a = true
    · by_cases h2 : a.f = s
      · rw [if_pos ⟨h1, h2⟩]
        by_cases h3 : a.t = [] <;> simp [h1, h2, h3, wgo]
      · simp [h2]
    · simp [h1]
  | b :: l, a, s => by
    have ih := wgo_chain l b a.t
    rw [wgo]
    have hch : chain (a :: b :: l) = (nextB a b && chain (b :: l)) := rfl
    have hla : lastT (a :: b :: l) = lastT (b :: l) := rfl
    rw [hch, hla]
    by_cases h1 : isB a = true
    · by_cases h2 : a.f = s
      · rw [if_pos ⟨h1, h2⟩]
        by_cases h3 : a.t = []
        · simp [h3, nextB]
        · rw [if_neg h3, ih]
          cases hc : chain (b :: l)
          · simp
          · have hb := chain_isB hc b (by simp)
            have e : decide (b.f = a.t) = decide (a.t = b.f) := by rw [Bool.eq_iff_iff]; simp; exact eq_comm
            simp [h1, h2, h3, nextB, hb, e]
      · simp [h2]
    · have : nextB a b = false := by unfold nextB; simp [h1]
      simp [h1, this]
theorem whole_wgo (l : List Bd) : wholeB l = wgo [] l := by
  cases l with
  | nil => rfl
  | cons a l => rw [wgo_chain]; rfl

/-- one place of a chain -/
def okAt (l : List Bd) (i : Nat) : Prop := (∀ h : i < l.length, isB l[i] = true) ∧ ∀ (h : i < l.length), 0 < i → nextB (l[i - 1]'(by omega)) l[i] = true
theorem chain_of_ok : ∀ (l : List Bd), (∀ i, okAt l i) → chain l = true
  | [], _ => rfl
  | [a], h => (h 0).1 (by simp)
  | a :: b :: l, h => by
    have hch : chain (a :: b :: l) = (nextB a b && chain (b :: l)) := rfl
    rw [hch, Bool.and_eq_true]
    refine ⟨(h 1).2 (by simp) (by omega), chain_of_ok (b :: l) fun i => ⟨fun hi => (h (i + 1)).1 (by simpa using hi), fun hi h0 => ?_⟩⟩
    have := (h (i + 1)).2 (by simpa using hi) (by omega)
    obtain ⟨j, rfl⟩ : ∃ j, i = j + 1 := ⟨i - 1, by omega⟩
    exact this
theorem ok_of_chain : ∀ (l : List Bd), chain l = true → ∀ i, okAt l i
  | [], _, i => ⟨fun h => by simp at h, fun h => by simp at h⟩
  | [a], h, i => ⟨fun hi => by have : i = 0 := by simp at hi; omega
                               subst this; exact h, fun hi h0 => by simp at hi; omega⟩
  | a :: b :: l, h, i => by
    have hch : chain (a :: b :: l) = (nextB a b && chain (b :: l)) := rfl
    rw [hch, Bool.and_eq_true] at h
    have ih := ok_of_chain (b :: l) h.2
    refine ⟨fun hi => ?_, fun hi h0 => ?_⟩
    · rcases i with _ | i
      · exact ((nextB_iff _ _).1 h.1).1
      · exact (ih i).1 (by simpa using hi)
    · rcases i with _ | _ | i
      · omega
      · exact h.1
      · exact (ih (i + 1)).2 (by simpa using hi) (by omega)
theorem lastT_get : ∀ (l : List Bd) (h : 0 < l.length), lastT l = (l[l.length - 1]'(by omega)).t
  | [a], _ => rfl
  | a :: b :: l, _ => by
    have := lastT_get (b :: l) (by simp)
    show lastT (b :: l) = _
    rw [this]; rfl

end Go.Proofs.Ytbjgpcfimpmjiaa

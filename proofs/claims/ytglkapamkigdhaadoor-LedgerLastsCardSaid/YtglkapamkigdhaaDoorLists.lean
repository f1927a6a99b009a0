/-
  Lists of texts as the laws take them: how many bytes they have together; what stands on the tapes of a whole ledger. No condition.
-/
import Derived.Test.YtglkapamkigdhaaDoorLive
namespace Go.Proofs.YtglkapamkigdhaaDoor.Rl
open Go.RowKit
open Go.Proofs.YtglkapamkigdhaaDoor.M (pageT kBase kRec inR tellT tell_len)

/-- the bytes of the first k texts -/
def tot (ss : List ByteArray) (k : Nat) : Nat := ((ss.take k).map ByteArray.size).sum
theorem tot_zero (ss : List ByteArray) : tot ss 0 = 0 := rfl
theorem tot_succ (ss : List ByteArray) (k : Nat) (h : k < ss.length) : tot ss (k + 1) = tot ss k + ss[k].size := by
  unfold tot
  rw [List.take_add_one, List.map_append, List.sum_append]
  simp [h]
theorem tot_mono (ss : List ByteArray) {k n : Nat} (h : k ≤ n) : tot ss k ≤ tot ss n := by
  unfold tot
  have : ss.take n = ss.take k ++ (ss.take n).drop k := by
    conv => lhs; rw [← List.take_append_drop k (ss.take n)]
    rw [List.take_take, Nat.min_eq_left h]
  rw [this, List.map_append, List.sum_append]
  omega
theorem tot_mem (ss : List ByteArray) {s : ByteArray} (h : s ∈ ss) : s.size ≤ tot ss ss.length := by
  unfold tot
  rw [List.take_length]
  induction ss with
  | nil => cases h
  | cons x l ih =>
    simp only [List.map_cons, List.sum_cons]
    rcases List.mem_cons.1 h with rfl | h
    · omega
    · have := ih h; omega
theorem SL.at' {w : World} {B k : Nat} {v : Value} {ss : List ByteArray} (h : SL w B v ss) (hk : k < ss.length) :
    ∃ b o c : Nat, v = .slice (some ⟨b, o, none⟩) ss.length c ∧ b < B ∧ ∀ i (h : i < ss.length), w.cell? ⟨b, o + i, none⟩ = some (.string ss[i]) := by
  obtain ⟨A, c, hv, h2⟩ := h.plain
  obtain ⟨b, o, rfl, hb, hc⟩ := h2 (by omega)
  exact ⟨b, o, c, hv, hb, hc⟩

/-- the tapes of a ledger that is whole: its own has something, the other one nothing -/
theorem Whole.reads {m : M} {l : Lg} {b : Text} {xs : List Text} (h : Whole m l b xs) :
    (l.t = 0 ∧ m.read 0 = (baseT l.epoch b xs, 0) ∧ m.read 1 = ([], 0)) ∨ (l.t = 1 ∧ m.read 0 = ([], 0) ∧ m.read 1 = (baseT l.epoch b xs, 0)) := by
  have ho := h.off
  have hg := h.hg
  have hoth := h.ho
  rcases isT_cases h.ht with ht | ht
  · left
    rw [ht] at hg hoth
    refine ⟨ht, ?_, ?_⟩
    · unfold M.read; rw [if_neg (by decide), if_neg (by rw [ho]; decide), hg]
    · unfold M.read; rw [if_neg (by decide), if_neg (by rw [ho]; decide), show m.get 1 = ⟨[], 0⟩ from hoth]
  · right
    rw [ht] at hg hoth
    refine ⟨ht, ?_, ?_⟩
    · unfold M.read; rw [if_neg (by decide), if_neg (by rw [ho]; decide), show m.get 0 = ⟨[], 0⟩ from hoth]
    · unfold M.read; rw [if_neg (by decide), if_neg (by rw [ho]; decide), hg]

end Go.Proofs.YtglkapamkigdhaaDoor.Rl

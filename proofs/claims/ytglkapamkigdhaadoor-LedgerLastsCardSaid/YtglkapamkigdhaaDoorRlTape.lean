/-
  What is done with one tape: write, sync, trim. Condition: the tape and the text together at most 2^47 bytes.
-/
import Derived.Test.YtglkapamkigdhaaDoorRlBase
namespace Go.Proofs.YtglkapamkigdhaaDoor.Rl
open Go.RowKit

set_option maxHeartbeats 1000000 in
theorem t_write (b o : Nat) (v : Value) (t : Text) (s : ByteArray) (w : World) (h0 : w.cell? ⟨b, o, none⟩ = some v) (hf : w.frozen? ⟨b, o, none⟩ = false) (hb : b < w.heap.size)
    (hv : Rw w b v t) (hne : v.ownBlock ≠ some b) (hlen : t.length + s.size ≤ 140737488355328) :
    Calls Tryd.prog 45 #[.pointer (some ⟨b, o, none⟩), .string s] w fun e w' => e = .returned (.tuple #[]) ∧
      ∃ v' w1, w' = w1.setCell ⟨b, o, none⟩ v' ∧ Rw w1 b v' (t ++ s.toList) ∧ w.grownBy w1 v.ownBlock ∧ (v'.ownBlock = v.ownBlock ∨ v'.ownBlock = some w.heap.size) := by
  obtain ⟨i0, hi, hz0, hz1, hz2⟩ := info_parts infoByte
  go_enter Tryd.func45, Tryd.ntmps45
  go_wp2_with (at_builtin; refine wpList_app rfl _ _ 50 9 rfl (b + 1) 5 i0 Tryd.underlying50 Tryd.underlying9 hi hz0 hz1 hz2 _ _ _ rfl hv s rfl ?c4 ?c5 ?_)
  case c4 => omega
  case c5 => omega
  intro v' w1 hown hgrow hat
  have d0 : w1.cell? ⟨b, o, none⟩ = some v := by
    rw [← h0]; exact World.cell?_of_block (w := w) (hgrow.block b hb (fun e => hne e.symm))
  have f0 : w1.frozen? ⟨b, o, none⟩ = false := by
    rw [← hf]; exact World.frozen?_of_block (w := w) (hgrow.block b hb (fun e => hne e.symm))
  obtain ⟨ao, n', cap, rfl⟩ : ∃ ao n' cap, v' = .slice ao n' cap := by
    rcases hown.2 with ⟨hv, _⟩ | ⟨g, cap, cur, hv, _⟩
    · exact ⟨_, _, _, hv⟩
    · exact ⟨_, _, _, hv⟩
  go_wp2
  go_end0
  refine ⟨rfl, _, w1, rfl, ?_, hgrow, hat⟩
  unfold Rw
  rw [List.length_append, size_toList, Lib.byteCells_append, ← strCells_toList]
  exact hown

theorem t_sync (b o : Nat) (ao : Option Addr) (n cap : Nat) (k : Int) (w : World) (h0 : w.cell? ⟨b, o, none⟩ = some (.slice ao n cap)) (h1 : w.cell? ⟨b, o + 1, none⟩ = some (.int .i64 k)) (hf : w.frozen? ⟨b, o + 1, none⟩ = false) :
    Calls Tryd.prog 38 #[.pointer (some ⟨b, o, none⟩)] w fun e w' => e = .returned (.tuple #[]) ∧ w' = w.setCell ⟨b, o + 1, none⟩ (.int .i64 n) := by
  go_enter Tryd.func38, Tryd.ntmps38
  go_wp2
  go_end0
  exact ⟨rfl, rfl⟩

set_option maxHeartbeats 1000000 in
theorem t_trim (b o : Nat) (ao : Option Addr) (l cap n k : Nat) (w : World) (h0 : w.cell? ⟨b, o, none⟩ = some (.slice ao l cap)) (h1 : w.cell? ⟨b, o + 1, none⟩ = some (.int .i64 k))
    (hf0 : w.frozen? ⟨b, o, none⟩ = false) (hf1 : w.frozen? ⟨b, o + 1, none⟩ = false) (hn : n ≤ l) (hl : l ≤ cap) (hc : cap ≤ 9223372036854775807) (_hk : k ≤ 9223372036854775807) (hao : ao = none → cap = 0) :
    Calls Tryd.prog 42 #[.pointer (some ⟨b, o, none⟩), .int .i64 n] w fun e w' => e = .returned (.tuple #[]) ∧ w' = (w.setCell ⟨b, o, none⟩ (.slice ao n cap)).setCell ⟨b, o + 1, none⟩ (.int .i64 (min k n : Nat)) := by
  have hm : min k n = if n < k then n else k := by split <;> omega
  rw [hm]
  rcases ao with _ | ⟨g, go, gs⟩
  · obtain rfl := hao rfl
    obtain rfl : l = 0 := by omega
    obtain rfl : n = 0 := by omega
    go_enter Tryd.func42, Tryd.ntmps42
    go_wp2
    all_goals go_end0
    all_goals exact ⟨rfl, by first | rfl | (split <;> first | rfl | omega)⟩
  · go_enter Tryd.func42, Tryd.ntmps42
    go_wp2
    all_goals go_end0
    all_goals exact ⟨rfl, by first | rfl | (split <;> first | rfl | omega)⟩

end Go.Proofs.YtglkapamkigdhaaDoor.Rl

/-
  The model's operations on a reel that is not armed, reckoned. No program.
-/
import Derived.Test.YtkkakcmgndmfjaaLive
namespace Go.Proofs.Ytkkakcmgndmfjaa
open Go.RowKit

theorem write_eq0 (r : Nat) (a b : Tape) (n : Nat) (s : Text) (h : a.s.length + b.s.length + s.length ≤ r) : (M.mk r a b (-1) false n).write 0 s = (0, ⟨r, ⟨a.s ++ s, a.k⟩, b, -1, false, n + 1⟩) := by
  unfold M.write
  rw [if_neg (by decide), if_neg (by show ¬ (false || ((-1 : Int) == 0)) = true; decide), if_neg (by show ¬ r < a.s.length + b.s.length + s.length; omega)]
  rfl
theorem write_eq1 (r : Nat) (a b : Tape) (n : Nat) (s : Text) (h : a.s.length + b.s.length + s.length ≤ r) : (M.mk r a b (-1) false n).write 1 s = (0, ⟨r, a, ⟨b.s ++ s, b.k⟩, -1, false, n + 1⟩) := by
  unfold M.write
  rw [if_neg (by decide), if_neg (by show ¬ (false || ((-1 : Int) == 0)) = true; decide), if_neg (by show ¬ r < a.s.length + b.s.length + s.length; omega)]
  rfl
theorem sync_eq0 (r : Nat) (a b : Tape) (n : Nat) : (M.mk r a b (-1) false n).sync 0 = (0, ⟨r, ⟨a.s, a.s.length⟩, b, -1, false, n + 1⟩) := rfl
theorem sync_eq1 (r : Nat) (a b : Tape) (n : Nat) : (M.mk r a b (-1) false n).sync 1 = (0, ⟨r, a, ⟨b.s, b.s.length⟩, -1, false, n + 1⟩) := rfl
theorem trim_eq0 (r : Nat) (a b : Tape) (n k : Nat) (h : k ≤ a.s.length) : (M.mk r a b (-1) false n).trim 0 k = (0, ⟨r, ⟨a.s.take k, min a.k k⟩, b, -1, false, n + 1⟩) := by
  unfold M.trim
  rw [if_neg (by rintro (h' | h'); · cases h'
                 · omega), if_neg (by show ¬ (false || ((-1 : Int) == 0)) = true; decide), if_neg (by show ¬ (a.s.length : Int) < k; omega)]
  rfl
theorem Tape.crash0 (T : Tape) (keep : Int) (u : UInt8) (h : keep ≤ 0) : T.crash keep u = ⟨T.s.take T.k, T.k⟩ := by
  have : T.kept keep = 0 := by unfold Tape.kept; omega
  unfold Tape.crash
  rw [if_pos this, this]
  rfl

end Go.Proofs.Ytkkakcmgndmfjaa

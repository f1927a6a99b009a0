/-
  The directory's keys: Level, Meta, Search, the program's and the document's. Condition: lengths at most 2^47 - 100.
-/
import Derived.Test.YtkpakiiijphjeaaGreatDoorPBndA
import Derived.Test.YtkpakiiijphjeaaGreatDoorPShelf
import Derived.LoopTactic
import Derived.Outline
namespace Go.Proofs.YtkpakiiijphjeaaGreatDoor.Bnd
open Go.RowKit O
def levelT : Text → Int
  | [] => 3
  | c :: _ => if c.toNat = 0 then 3 else if c.toNat ≤ 2 then (c.toNat : Int) else 0
theorem size_pos {k : ByteArray} (h : ¬ k.toList = []) : 0 < k.size := by
  rw [← size_toList]
  cases e : k.toList with
  | nil => exact absurd e h
  | cons c l => simp
theorem level_of {k : ByteArray} (h : 0 < k.size) : levelT k.toList = (if k[0].toNat = 0 then (3 : Int) else if k[0].toNat ≤ 2 then (k[0].toNat : Int) else (0 : Int)) := by
  obtain ⟨⟨l⟩⟩ := k
  cases l with
  | nil => exact absurd h (by decide)
  | cons c l => rw [ByteArray.toList_eq]; rfl
set_option maxHeartbeats 1000000 in
theorem level_any (k : ByteArray) (w : World) (hk : k.size ≤ 140737488355328) : Calls Tryz.prog 138 #[.string k] w fun e w' => e = .returned (.int .i64 (levelT k.toList)) ∧ w = w' := by
  by_cases h : k.toList = []
  · rw [h]
    obtain rfl := empty_of h
    clear h
    go_enter Tryz.func138, Tryz.ntmps138
    go_wp2_with fail
    go_ret
    exact ⟨rfl, rfl⟩
  · have h0 := size_pos h
    have hr := level_of h0
    have n := isEmpty_no h
    have hlt := UInt8.toNat_lt k[0]
    rw [hr]
    clear h hr
    by_cases h1 : k[0].toNat = 0
    · rw [if_pos h1]
      have h2 : ((k[0].toNat : Nat) : Int) < 1 := by omega
      clear h1
      go_enter Tryz.func138, Tryz.ntmps138
      go_wp2_with fail
      go_ret
      exact ⟨rfl, rfl⟩
    · rw [if_neg h1]
      by_cases h2 : k[0].toNat ≤ 2
      · rw [if_pos h2]
        have h3 : ¬ ((k[0].toNat : Nat) : Int) < 1 := by omega
        have h4 : ¬ 2 < ((k[0].toNat : Nat) : Int) := by omega
        clear h1
        go_enter Tryz.func138, Tryz.ntmps138
        go_wp2_with fail
        go_ret
        exact ⟨ret_int (by simp), rfl⟩
      · rw [if_neg h2]
        have h3 : ¬ ((k[0].toNat : Nat) : Int) < 1 := by omega
        have h4 : 2 < ((k[0].toNat : Nat) : Int) := by omega
        clear h1
        go_enter Tryz.func138, Tryz.ntmps138
        go_wp2_with fail
        go_ret
        exact ⟨rfl, rfl⟩
end Go.Proofs.YtkpakiiijphjeaaGreatDoor.Bnd

/-
  The directory's keys: Level, Meta, Search, the program's and the document's. Condition: lengths at most 2^47 - 100.
-/
import Derived.Test.YtbjgpcfimpmjiaaRCut
import Derived.Test.YtbjgpcfimpmjiaaShelf
import Derived.LoopTactic
import Derived.Outline
namespace Go.Proofs.Ytbjgpcfimpmjiaa
open Go.RowKit O

def levelT : Text → Int
  | [] => 3
  | c :: _ => if c.toNat = 0 then 3 else if c.toNat ≤ 2 then (c.toNat : Int) else 0

theorem size_pos {k : ByteArray} (h : ¬ k.toList = []) : 0 < k.size := by
  rw [← size_toList]
  cases e : k.toList with
  | nil => exact absurd e h
  | cons c l => simp
theorem level_of {k : ByteArray} (h : 0 < k.size) : levelT k.toList = (if k[0].toNat = 0 then (3 : Int) else if k[0].toNat ≤ 2 then (k[0].toNat : Int) else (0 : Int)) := by
  obtain ⟨⟨l⟩⟩ := k
  cases l with
  | nil => exact absurd h (by decide)
  | cons c l => rw [ByteArray.toList_eq]; rfl

set_option maxHeartbeats 1000000 in
theorem level_any (k : ByteArray) (w : World) (hk : k.size ≤ 140737488355328) : Calls Try.prog 32 #[.string k] w fun e w' => e = .returned (.int .i64 (levelT k.toList)) ∧ w = w' := by
  by_cases h : k.toList = []
  · rw [h]
    obtain rfl := empty_of h
    clear h
    go_enter Try.func32, Try.ntmps32
    go_wp2_with fail
    go_ret
    exact ⟨rfl, rfl⟩
  · have h0 := size_pos h
    have hr := level_of h0
    have n := isEmpty_no h
    have hlt := UInt8.toNat_lt k[0]
    rw [hr]
    clear h hr
    by_cases h1 : k[0].toNat = 0
    · rw [if_pos h1]
      have h2 : ((k[0].toNat : Nat) : Int) < 1 := by omega
      clear h1
      go_enter Try.func32, Try.ntmps32
      go_wp2_with fail
      go_ret
      exact ⟨rfl, rfl⟩
    · rw [if_neg h1]
      by_cases h2 : k[0].toNat ≤ 2
      · rw [if_pos h2]
        have h3 : ¬ ((k[0].toNat : Nat) : Int) < 1 := by omega
        have h4 : ¬ 2 < ((k[0].toNat : Nat) : Int) := by omega
        clear h1
        go_enter Try.func32, Try.ntmps32
        go_wp2_with fail
        go_ret
        exact ⟨ret_int (by simp), rfl⟩
      · rw [if_neg h2]
        have h3 : ¬ ((k[0].toNat : Nat) : Int) < 1 := by omega
        have h4 : 2 < ((k[0].toNat : Nat) : Int) := by omega
        clear h1
        go_enter Try.func32, Try.ntmps32
        go_wp2_with fail
        go_ret
        exact ⟨rfl, rfl⟩

set_option maxHeartbeats 1000000 in
theorem rlevel_any (k : ByteArray) (w : World) (hk : k.size ≤ 140737488355328) : Calls Try.prog 33 #[.string k] w fun e w' => e = .returned (.int .i64 (levelT k.toList)) ∧ w = w' := by
  by_cases h : k.toList = []
  · rw [h]
    obtain rfl := empty_of h
    clear h
    go_enter Try.func33, Try.ntmps33
    go_wp2_with fail
    go_ret
    exact ⟨rfl, rfl⟩
  · have h0 := size_pos h
    have hr := level_of h0
    have n := isEmpty_no h
    have hlt := UInt8.toNat_lt k[0]
    rw [hr]
    clear h hr
    by_cases h1 : k[0].toNat = 0
    · rw [if_pos h1]
      have h2 : (((k[0].toNat : Nat) : Int) == 0) = true := by rw [h1]; rfl
      clear h1
      go_enter Try.func33, Try.ntmps33
      go_wp2_with fail
      go_ret
      exact ⟨rfl, rfl⟩
    · rw [if_neg h1]
      have h5 : (((k[0].toNat : Nat) : Int) == 0) = false := by simpa using h1
      by_cases h2 : k[0].toNat ≤ 2
      · rw [if_pos h2]
        have h4 : ((k[0].toNat : Nat) : Int) ≤ 2 := by omega
        clear h1
        go_enter Try.func33, Try.ntmps33
        go_wp2_with fail
        go_ret
        exact ⟨ret_int (by simp), rfl⟩
      · rw [if_neg h2]
        have h4 : ¬ ((k[0].toNat : Nat) : Int) ≤ 2 := by omega
        clear h1
        go_enter Try.func33, Try.ntmps33
        go_wp2_with fail
        go_ret
        exact ⟨rfl, rfl⟩

/-- is there such a level? -/
def lvB (n : Int) : Bool := decide (1 ≤ n) && decide (n ≤ 2)
set_option maxHeartbeats 400000 in
theorem isLevel_any (n : Int) (w : World) : Calls Try.prog 40 #[.int .i64 n] w fun e w' => e = .returned (.bool (lvB n)) ∧ w = w' := by
  by_cases h : 1 ≤ n
  · go_enter Try.func40, Try.ntmps40
    go_wp2_with fail
    go_ret
    exact ⟨ret_bool (by simp [lvB, h]), rfl⟩
  · go_enter Try.func40, Try.ntmps40
    go_wp2_with fail
    go_ret
    exact ⟨ret_bool (by simp [lvB]; omega), rfl⟩

theorem conv1 (c : UInt8) (w : World) : (convert 60 9 (.slice (some ⟨w.heap.size, 0, none⟩) 1 1)).run Try.prog (w.alloc (.cells #[.int .u8 (c.toNat : Int)] 5)) = .ok (.string ⟨#[c]⟩) (w.alloc (.cells #[.int .u8 (c.toNat : Int)] 5)) := by
  have h := run_convert_bytes_back (P := Try.prog) (w.alloc (.cells #[.int .u8 (c.toNat : Int)] 5)) 60 9 5 ⟨w.heap.size, 0, none⟩ 1 [c] Try.underlying60 Try.underlying5 Try.underlying9 (by
    intro j hj
    have : j = 0 := by simp at hj; omega
    subst this
    simp [Addr.add])
  simpa using h

set_option maxHeartbeats 400000 in
theorem lead1 (w : World) : Calls Try.prog 42 #[.int .i64 1] w fun e w' => e = .returned (.string ⟨#[1]⟩) ∧ Below w.heap.size w w' := by
  have hcv := conv1 1 w
  rw [show (((1 : UInt8).toNat : Nat) : Int) = 1 from rfl] at hcv
  go_enter Try.func42, Try.ntmps42
  go_wp2_with fail
  go_ret
  exact ⟨rfl, (Below.refl _ _).alloc (Nat.le_refl _) _⟩

set_option maxHeartbeats 400000 in
theorem lead2 (w : World) : Calls Try.prog 42 #[.int .i64 2] w fun e w' => e = .returned (.string ⟨#[2]⟩) ∧ Below w.heap.size w w' := by
  have hcv := conv1 2 w
  rw [show (((2 : UInt8).toNat : Nat) : Int) = 2 from rfl] at hcv
  go_enter Try.func42, Try.ntmps42
  go_wp2_with fail
  go_ret
  exact ⟨rfl, (Below.refl _ _).alloc (Nat.le_refl _) _⟩

set_option maxHeartbeats 400000 in
theorem lead3 (w : World) : Calls Try.prog 42 #[.int .i64 3] w fun e w' => e = .returned (.string ⟨#[3]⟩) ∧ Below w.heap.size w w' := by
  have hcv := conv1 3 w
  rw [show (((3 : UInt8).toNat : Nat) : Int) = 3 from rfl] at hcv
  go_enter Try.func42, Try.ntmps42
  go_wp2_with fail
  go_ret
  exact ⟨rfl, (Below.refl _ _).alloc (Nat.le_refl _) _⟩

/-- what Meta answers -/
def metaS (n : Int) (t : Text) : Text := if n = 1 then metaT 1 t else if n = 2 then metaT 2 t else []
theorem ff31 : Lib.repeatL [255] 31 = List.replicate 31 255 := by decide
theorem sz31 : (⟨(List.replicate 31 (255 : UInt8)).toArray⟩ : ByteArray).toList = List.replicate 31 255 := by rw [ByteArray.toList_eq]

theorem repeat31 (w : World) : Calls Try.prog 41 #[.string ⟨#[255]⟩, .int .i64 31] w fun e w' => e = .returned (.string ⟨(List.replicate 31 255).toArray⟩) ∧ Below w.heap.size w w' := by
  have := Try.strings_Repeat ⟨#[255]⟩ 31 w (by decide) (by decide)
  rw [show Lib.repeatL (⟨#[255]⟩ : ByteArray).data.toList 31 = List.replicate 31 255 from ff31] at this
  exact this

end Go.Proofs.Ytbjgpcfimpmjiaa

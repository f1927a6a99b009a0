/-
  Meta and Search of the document. Condition: lengths at most 2^47 - 100.
-/
import Derived.Test.YtbjgpcfimpmjiaaMeta
namespace Go.Proofs.Ytbjgpcfimpmjiaa
open Go.RowKit O

theorem rep_snoc (c : UInt8) (k : Nat) (S : ByteArray) (h : S.toList = c :: List.replicate k 255) : (S ++ ⟨#[255]⟩ : ByteArray).toList = c :: List.replicate (k + 1) 255 := by
  rw [app_toList, h, ByteArray.toList_eq ⟨#[255]⟩, List.replicate_succ']; rfl

set_option maxHeartbeats 1000000 in
theorem rmeta1 (t : ByteArray) (w : World) (ht : t.size ≤ 140737488355228) : Calls Try.prog 35 #[.int .i64 1, .string t] w fun e w' => e = .returned (.string (ba (metaT 1 t.toList))) ∧ w = w' := by
  by_cases h : t.toList = []
  · obtain ⟨R, hR⟩ : ∃ R : ByteArray, ba (metaT 1 t.toList) = R := ⟨_, rfl⟩
    have hfin : R.toList = 1 :: List.replicate 31 255 := by rw [← hR]; refine (ba_toList _).trans ?_; rw [h]; rfl
    have HF := Lib.hid hfin
    rw [hR]
    clear hR
    obtain rfl := empty_of h
    clear h hfin
    go_enter Try.func35, Try.ntmps35
    go_wp2_with fail
    go_loop [5, 6] (fun vs vi => ∃ (k : Nat) (S : ByteArray), k ≤ 31 ∧ vi = .int .i64 (k : Int) ∧ vs = .string S ∧ Hid (S.toList = 1 :: List.replicate k 255) ∧ S.size ≤ 32) (fun _ vi => 31 - (intOf vi).toNat)
    case atStart => exact ⟨0, ⟨#[1]⟩, by omega, rfl, rfl, Lib.hid (by rw [ByteArray.toList_eq]; rfl), by decide⟩
    case round =>
      obtain ⟨k, S, hk, rfl, rfl, hS, hSs⟩ := hrel
      by_cases hlt : k < 31
      · have hnew := rep_snoc 1 k S hS.out
        have hns : (S ++ ⟨#[255]⟩ : ByteArray).size ≤ 32 := by
          rw [← size_toList, hnew]; simp; omega
        have HN := Lib.hid hnew
        clear hnew hS
        go_wp2_with fail
        go_round
        case rel => exact ⟨k + 1, S ++ ⟨#[255]⟩, by omega, by go_num, rfl, HN, hns⟩
        case measure => simp [intOf]; omega
      · obtain rfl : k = 31 := by omega
        go_wp2_with fail
        go_ret
        exact ⟨ret_string (bytes_ext (hS.out.trans HF.out.symm)), rfl⟩
  · have hfin := meta1_n 1 h
    have HF := Lib.hid hfin
    have hn := isEmpty_no h
    clear h hfin
    go_enter Try.func35, Try.ntmps35
    go_wp2_with fail
    go_ret
    exact ⟨ret_string (bytes_ext (HF.out.trans (ba_toList _).symm)), rfl⟩

set_option maxHeartbeats 1000000 in
theorem rmeta2 (t : ByteArray) (w : World) (ht : t.size ≤ 140737488355228) : Calls Try.prog 35 #[.int .i64 2, .string t] w fun e w' => e = .returned (.string (ba (metaT 2 t.toList))) ∧ w = w' := by
  by_cases h : t.toList = []
  · obtain ⟨R, hR⟩ : ∃ R : ByteArray, ba (metaT 2 t.toList) = R := ⟨_, rfl⟩
    have hfin : R.toList = 2 :: List.replicate 31 255 := by rw [← hR]; refine (ba_toList _).trans ?_; rw [h]; rfl
    have HF := Lib.hid hfin
    rw [hR]
    clear hR
    obtain rfl := empty_of h
    clear h hfin
    go_enter Try.func35, Try.ntmps35
    go_wp2_with fail
    go_loop [5, 6] (fun vs vi => ∃ (k : Nat) (S : ByteArray), k ≤ 31 ∧ vi = .int .i64 (k : Int) ∧ vs = .string S ∧ Hid (S.toList = 2 :: List.replicate k 255) ∧ S.size ≤ 32) (fun _ vi => 31 - (intOf vi).toNat)
    case atStart => exact ⟨0, ⟨#[2]⟩, by omega, rfl, rfl, Lib.hid (by rw [ByteArray.toList_eq]; rfl), by decide⟩
    case round =>
      obtain ⟨k, S, hk, rfl, rfl, hS, hSs⟩ := hrel
      by_cases hlt : k < 31
      · have hnew := rep_snoc 2 k S hS.out
        have hns : (S ++ ⟨#[255]⟩ : ByteArray).size ≤ 32 := by
          rw [← size_toList, hnew]; simp; omega
        have HN := Lib.hid hnew
        clear hnew hS
        go_wp2_with fail
        go_round
        case rel => exact ⟨k + 1, S ++ ⟨#[255]⟩, by omega, by go_num, rfl, HN, hns⟩
        case measure => simp [intOf]; omega
      · obtain rfl : k = 31 := by omega
        go_wp2_with fail
        go_ret
        exact ⟨ret_string (bytes_ext (hS.out.trans HF.out.symm)), rfl⟩
  · have hfin := meta1_n 2 h
    have HF := Lib.hid hfin
    have hn := isEmpty_no h
    clear h hfin
    go_enter Try.func35, Try.ntmps35
    go_wp2_with fail
    go_ret
    exact ⟨ret_string (bytes_ext (HF.out.trans (ba_toList _).symm)), rfl⟩

set_option maxHeartbeats 400000 in
theorem rmeta_no (n : Int) (h1 : ¬ n = 1) (h2 : ¬ n = 2) (t : ByteArray) (w : World) : Calls Try.prog 35 #[.int .i64 n, .string t] w fun e w' => e = .returned (.string E0) ∧ w = w' := by
  have n1 : (n == 1) = false := by simpa using h1
  have n2 : (n == 2) = false := by simpa using h2
  have m1 : (n != 1) = true := by simpa using h1
  have m2 : (n != 2) = true := by simpa using h2
  clear h1 h2
  go_enter Try.func35, Try.ntmps35
  go_wp2_with fail
  go_ret
  exact ⟨rfl, rfl⟩

set_option maxHeartbeats 1000000 in
theorem rsearch1 (t : ByteArray) (w : World) (ht : t.size ≤ 140737488355228) : Calls Try.prog 37 #[.int .i64 1, .string t] w fun e w' => e = .returned (bd (ba (searchB 1 t.toList).f) (ba (searchB 1 t.toList).t)) ∧ Below w.heap.size w w' := by
  have hlen : (metaT 1 t.toList).length ≤ 140737488355328 := by
    unfold metaT
    split
    · simp
    · simp [size_toList]; omega
  obtain ⟨M, hM⟩ : ∃ M : ByteArray, M = ba (metaT 1 t.toList) := ⟨_, rfl⟩
  have hMs : M.size ≤ 140737488355328 := by rw [hM]; exact hlen
  have c2 := fun w => rmeta1 t w ht
  rw [← hM] at c2
  have hfin : (M ++ ⟨#[0]⟩ : ByteArray) = ba (searchB 1 t.toList).f := bytes_ext ((app_toList _ _).trans (.trans (by rw [hM, ba_toList (metaT 1 t.toList), ByteArray.toList_eq ⟨#[0]⟩]; rfl) (ba_toList _).symm))
  have hfin2 : (⟨#[2]⟩ : ByteArray) = ba (searchB 1 t.toList).t := rfl
  rw [← hfin, ← hfin2]
  clear hM hfin hfin2 hlen
  go_enter Try.func37, Try.ntmps37
  go_wp2_with fail
  refine (c2 _).mono ?_
  rintro e w' ⟨rfl, rfl⟩
  go_wp2_with fail
  exact bodyPost_ret (v := bd (M ++ ⟨#[0]⟩) ⟨#[2]⟩) (by simp [results, Try.results37, go_sem]) rfl ⟨rfl, (Below.refl _ w).alloc (Nat.le_refl _) _⟩

set_option maxHeartbeats 1000000 in
theorem rsearch2 (t : ByteArray) (w : World) (ht : t.size ≤ 140737488355228) : Calls Try.prog 37 #[.int .i64 2, .string t] w fun e w' => e = .returned (bd (ba (searchB 2 t.toList).f) (ba (searchB 2 t.toList).t)) ∧ Below w.heap.size w w' := by
  have hlen : (metaT 2 t.toList).length ≤ 140737488355328 := by
    unfold metaT
    split
    · simp
    · simp [size_toList]; omega
  obtain ⟨M, hM⟩ : ∃ M : ByteArray, M = ba (metaT 2 t.toList) := ⟨_, rfl⟩
  have hMs : M.size ≤ 140737488355328 := by rw [hM]; exact hlen
  have c2 := fun w => rmeta2 t w ht
  rw [← hM] at c2
  have hfin : (M ++ ⟨#[0]⟩ : ByteArray) = ba (searchB 2 t.toList).f := bytes_ext ((app_toList _ _).trans (.trans (by rw [hM, ba_toList (metaT 2 t.toList), ByteArray.toList_eq ⟨#[0]⟩]; rfl) (ba_toList _).symm))
  have hfin2 : (⟨#[3]⟩ : ByteArray) = ba (searchB 2 t.toList).t := rfl
  rw [← hfin, ← hfin2]
  clear hM hfin hfin2 hlen
  go_enter Try.func37, Try.ntmps37
  go_wp2_with fail
  refine (c2 _).mono ?_
  rintro e w' ⟨rfl, rfl⟩
  go_wp2_with fail
  exact bodyPost_ret (v := bd (M ++ ⟨#[0]⟩) ⟨#[3]⟩) (by simp [results, Try.results37, go_sem]) rfl ⟨rfl, (Below.refl _ w).alloc (Nat.le_refl _) _⟩

set_option maxHeartbeats 1000000 in
theorem rsearch_no (n : Int) (h1 : ¬ n = 1) (h2 : ¬ n = 2) (t : ByteArray) (w : World) : Calls Try.prog 37 #[.int .i64 n, .string t] w fun e w' => e = .returned (bd E0 E0) ∧ Below w.heap.size w w' := by
  have n1 : (n == 1) = false := by simpa using h1
  have n2 : (n == 2) = false := by simpa using h2
  clear h1 h2
  go_enter Try.func37, Try.ntmps37
  go_wp2_with fail
  exact bodyPost_ret (v := bd E0 E0) (by simp [results, Try.results37, go_sem]) rfl ⟨rfl, (Below.refl _ w).alloc (Nat.le_refl _) _⟩

end Go.Proofs.Ytbjgpcfimpmjiaa

/-
  Meta and Search, the program's and the document's. Condition: lengths at most 2^47 - 100.
-/
import Derived.Test.YtbjgpcfimpmjiaaLevel
namespace Go.Proofs.Ytbjgpcfimpmjiaa
open Go.RowKit O

theorem app_toList (a b : ByteArray) : (a ++ b).toList = a.toList ++ b.toList := by
  rw [ByteArray.toList_eq, ByteArray.toList_eq, ByteArray.toList_eq, ByteArray.data_append, Array.toList_append]
/-- a text as bytes -/
abbrev ba (l : Text) : ByteArray := ⟨l.toArray⟩
theorem ba_toList (l : Text) : (ba l).toList = l := by rw [ByteArray.toList_eq]
theorem meta1_e {t : ByteArray} {F : ByteArray} (hF : F.toList = List.replicate 31 255) (c : UInt8) (h : t.toList = []) : (⟨#[c]⟩ ++ F : ByteArray).toList = metaT c t.toList := by
  rw [app_toList, hF, h, ByteArray.toList_eq]; rfl
theorem meta1_n {t : ByteArray} (c : UInt8) (h : ¬ t.toList = []) : (⟨#[c]⟩ ++ t : ByteArray).toList = metaT c t.toList := by
  rw [app_toList, metaT, if_neg h, ByteArray.toList_eq]; rfl
theorem lv_no {n : Int} (h1 : ¬ n = 1) (h2 : ¬ n = 2) : lvB n = false := by
  unfold lvB; simp; omega

theorem F31 : ∃ F : ByteArray, F.toList = List.replicate 31 255 ∧ F.size = 31 ∧ ∀ w, Calls Try.prog 41 #[.string ⟨#[255]⟩, .int .i64 31] w fun e w' => e = .returned (.string F) ∧ Below w.heap.size w w' :=
  ⟨_, sz31, by decide, repeat31⟩

set_option maxHeartbeats 1000000 in
theorem meta1 (t : ByteArray) (w : World) (ht : t.size ≤ 140737488355228) : Calls Try.prog 34 #[.int .i64 1, .string t] w fun e w' => e = .returned (.string (ba (metaT 1 t.toList))) ∧ Below w.heap.size w w' := by
  have c1 := fun w => isLevel_any 1 w
  rw [show lvB 1 = true from rfl] at c1
  by_cases h : t.toList = []
  · obtain ⟨F, hF, hs, c2⟩ := F31
    have hfin := meta1_e hF 1 h
    have HF := Lib.hid hfin
    have hs2 : F.size ≤ 31 := by omega
    obtain rfl := empty_of h
    clear h hF hfin hs
    go_enter Try.func34, Try.ntmps34
    go_wp2_with fail
    refine (c1 _).mono ?_
    rintro e w' ⟨rfl, rfl⟩
    go_wp2_with fail
    refine (c2 _).mono ?_
    rintro e w1 ⟨rfl, b1⟩
    go_wp2_with fail
    refine (lead1 _).mono ?_
    rintro e w2 ⟨rfl, b2⟩
    go_wp2_with fail
    go_ret
    exact ⟨ret_string (bytes_ext (HF.out.trans (ba_toList _).symm)), b1.trans (b2.mono b1.size)⟩
  · have hfin := meta1_n 1 h
    have HF := Lib.hid hfin
    have hn := isEmpty_no h
    clear h hfin
    go_enter Try.func34, Try.ntmps34
    go_wp2_with fail
    refine (c1 _).mono ?_
    rintro e w' ⟨rfl, rfl⟩
    go_wp2_with fail
    refine (lead1 _).mono ?_
    rintro e w2 ⟨rfl, b2⟩
    go_wp2_with fail
    go_ret
    exact ⟨ret_string (bytes_ext (HF.out.trans (ba_toList _).symm)), b2⟩

set_option maxHeartbeats 1000000 in
theorem meta2 (t : ByteArray) (w : World) (ht : t.size ≤ 140737488355228) : Calls Try.prog 34 #[.int .i64 2, .string t] w fun e w' => e = .returned (.string (ba (metaT 2 t.toList))) ∧ Below w.heap.size w w' := by
  have c1 := fun w => isLevel_any 2 w
  rw [show lvB 2 = true from rfl] at c1
  by_cases h : t.toList = []
  · obtain ⟨F, hF, hs, c2⟩ := F31
    have hfin := meta1_e hF 2 h
    have HF := Lib.hid hfin
    have hs2 : F.size ≤ 31 := by omega
    obtain rfl := empty_of h
    clear h hF hfin hs
    go_enter Try.func34, Try.ntmps34
    go_wp2_with fail
    refine (c1 _).mono ?_
    rintro e w' ⟨rfl, rfl⟩
    go_wp2_with fail
    refine (c2 _).mono ?_
    rintro e w1 ⟨rfl, b1⟩
    go_wp2_with fail
    refine (lead2 _).mono ?_
    rintro e w2 ⟨rfl, b2⟩
    go_wp2_with fail
    go_ret
    exact ⟨ret_string (bytes_ext (HF.out.trans (ba_toList _).symm)), b1.trans (b2.mono b1.size)⟩
  · have hfin := meta1_n 2 h
    have HF := Lib.hid hfin
    have hn := isEmpty_no h
    clear h hfin
    go_enter Try.func34, Try.ntmps34
    go_wp2_with fail
    refine (c1 _).mono ?_
    rintro e w' ⟨rfl, rfl⟩
    go_wp2_with fail
    refine (lead2 _).mono ?_
    rintro e w2 ⟨rfl, b2⟩
    go_wp2_with fail
    go_ret
    exact ⟨ret_string (bytes_ext (HF.out.trans (ba_toList _).symm)), b2⟩

set_option maxHeartbeats 400000 in
theorem meta_no (n : Int) (h1 : ¬ n = 1) (h2 : ¬ n = 2) (t : ByteArray) (w : World) : Calls Try.prog 34 #[.int .i64 n, .string t] w fun e w' => e = .returned (.string E0) ∧ Below w.heap.size w w' := by
  have c1 := fun w => isLevel_any n w
  rw [lv_no h1 h2] at c1
  clear h1 h2
  go_enter Try.func34, Try.ntmps34
  go_wp2_with fail
  refine (c1 _).mono ?_
  rintro e w' ⟨rfl, rfl⟩
  go_wp2_with fail
  go_ret
  exact ⟨rfl, Below.refl _ _⟩

set_option maxHeartbeats 1000000 in
theorem search1 (t : ByteArray) (w : World) (ht : t.size ≤ 140737488355228) : Calls Try.prog 36 #[.int .i64 1, .string t] w fun e w' => e = .returned (bd (ba (searchB 1 t.toList).f) (ba (searchB 1 t.toList).t)) ∧ Below w.heap.size w w' := by
  have c1 := fun w => isLevel_any 1 w
  rw [show lvB 1 = true from rfl] at c1
  have hlen : (metaT 1 t.toList).length ≤ 140737488355328 := by
    unfold metaT
    split
    · simp
    · simp [size_toList]; omega
  obtain ⟨M, hM⟩ : ∃ M : ByteArray, M = ba (metaT 1 t.toList) := ⟨_, rfl⟩
  have hMs : M.size ≤ 140737488355328 := by rw [hM]; exact hlen
  have c2 := fun w => meta1 t w ht
  rw [← hM] at c2
  have hfin : (M ++ ⟨#[0]⟩ : ByteArray) = ba (searchB 1 t.toList).f := bytes_ext ((app_toList _ _).trans (.trans (by rw [hM, ba_toList (metaT 1 t.toList), ByteArray.toList_eq ⟨#[0]⟩]; rfl) (ba_toList _).symm))
  have hfin2 : (⟨#[2]⟩ : ByteArray) = ba (searchB 1 t.toList).t := rfl
  rw [← hfin, ← hfin2]
  clear hM hfin hfin2 hlen
  go_enter Try.func36, Try.ntmps36
  go_wp2_with fail
  refine (c1 _).mono ?_
  rintro e w' ⟨rfl, rfl⟩
  go_wp2_with fail
  refine (c2 _).mono ?_
  rintro e w1 ⟨rfl, b1⟩
  go_wp2_with fail
  refine (lead2 _).mono ?_
  rintro e w2 ⟨rfl, b2'⟩
  have b2 := b1.trans (b2'.mono b1.size)
  obtain ⟨hc, hfz⟩ := bcell b2
  have hz : w.heap.size < w2.heap.size := by have := b2.size; simp at this; omega
  go_wp2_with fail
  exact bodyPost_ret (v := bd (M ++ ⟨#[0]⟩) ⟨#[2]⟩) (by simp [results, Try.results36, go_sem, hc]) rfl ⟨rfl, ((((Below.refl _ w).alloc (Nat.le_refl _) (.cells #[.string E0, .string E0] 23)).trans (b2.mono (by simp))).setCell (by simp) _).setCell (by simp) _⟩

set_option maxHeartbeats 1000000 in
theorem search2 (t : ByteArray) (w : World) (ht : t.size ≤ 140737488355228) : Calls Try.prog 36 #[.int .i64 2, .string t] w fun e w' => e = .returned (bd (ba (searchB 2 t.toList).f) (ba (searchB 2 t.toList).t)) ∧ Below w.heap.size w w' := by
  have c1 := fun w => isLevel_any 2 w
  rw [show lvB 2 = true from rfl] at c1
  have hlen : (metaT 2 t.toList).length ≤ 140737488355328 := by
    unfold metaT
    split
    · simp
    · simp [size_toList]; omega
  obtain ⟨M, hM⟩ : ∃ M : ByteArray, M = ba (metaT 2 t.toList) := ⟨_, rfl⟩
  have hMs : M.size ≤ 140737488355328 := by rw [hM]; exact hlen
  have c2 := fun w => meta2 t w ht
  rw [← hM] at c2
  have hfin : (M ++ ⟨#[0]⟩ : ByteArray) = ba (searchB 2 t.toList).f := bytes_ext ((app_toList _ _).trans (.trans (by rw [hM, ba_toList (metaT 2 t.toList), ByteArray.toList_eq ⟨#[0]⟩]; rfl) (ba_toList _).symm))
  have hfin2 : (⟨#[3]⟩ : ByteArray) = ba (searchB 2 t.toList).t := rfl
  rw [← hfin, ← hfin2]
  clear hM hfin hfin2 hlen
  go_enter Try.func36, Try.ntmps36
  go_wp2_with fail
  refine (c1 _).mono ?_
  rintro e w' ⟨rfl, rfl⟩
  go_wp2_with fail
  refine (c2 _).mono ?_
  rintro e w1 ⟨rfl, b1⟩
  go_wp2_with fail
  refine (lead3 _).mono ?_
  rintro e w2 ⟨rfl, b2'⟩
  have b2 := b1.trans (b2'.mono b1.size)
  obtain ⟨hc, hfz⟩ := bcell b2
  have hz : w.heap.size < w2.heap.size := by have := b2.size; simp at this; omega
  go_wp2_with fail
  exact bodyPost_ret (v := bd (M ++ ⟨#[0]⟩) ⟨#[3]⟩) (by simp [results, Try.results36, go_sem, hc]) rfl ⟨rfl, ((((Below.refl _ w).alloc (Nat.le_refl _) (.cells #[.string E0, .string E0] 23)).trans (b2.mono (by simp))).setCell (by simp) _).setCell (by simp) _⟩

set_option maxHeartbeats 1000000 in
theorem search_no (n : Int) (h1 : ¬ n = 1) (h2 : ¬ n = 2) (t : ByteArray) (w : World) : Calls Try.prog 36 #[.int .i64 n, .string t] w fun e w' => e = .returned (bd E0 E0) ∧ Below w.heap.size w w' := by
  have c1 := fun w => isLevel_any n w
  rw [lv_no h1 h2] at c1
  clear h1 h2
  go_enter Try.func36, Try.ntmps36
  go_wp2_with fail
  refine (c1 _).mono ?_
  rintro e w' ⟨rfl, rfl⟩
  go_wp2_with fail
  exact bodyPost_ret (v := bd E0 E0) (by simp [results, Try.results36, go_sem]) rfl ⟨rfl, (Below.refl _ w).alloc (Nat.le_refl _) _⟩

end Go.Proofs.Ytbjgpcfimpmjiaa

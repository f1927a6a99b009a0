/-
  Who is where: On, Has, of the program and of the document; Quorum. Condition: at most 2^47 members.
-/
import Derived.Test.YthglghlkchhjlaaDoorDsBool
namespace Go.Proofs.YthglghlkchhjlaaDoor.Ds
open Go.RowKit Bnd

/-- what On and Has answer -/
def optV (o : Option Mem) : Value := match o with
  | some m => .tuple #[mv m, .bool true]
  | none => .tuple #[mv (0, 0), .bool false]
theorem onM_yes {n : Int} {m : Mem} {l : List Mem} (h : m.1 = n) : onM n (m :: l) = some m := by rw [onM, if_pos h]
theorem onM_no {n : Int} {m : Mem} {l : List Mem} (h : m.1 ≠ n) : onM n (m :: l) = onM n l := by rw [onM, if_neg h]
theorem hasM_yes {n : Int} {m : Mem} {l : List Mem} (h : m.2 = n) : hasM n (m :: l) = some m := by rw [hasM, if_pos h]
theorem hasM_no {n : Int} {m : Mem} {l : List Mem} (h : m.2 ≠ n) : hasM n (m :: l) = hasM n l := by rw [hasM, if_neg h]
theorem drop_cons {l : List Mem} {k : Nat} (h : k < l.length) : l.drop k = l[k] :: l.drop (k + 1) := List.drop_eq_getElem_cons h

theorem quorum_any (n : Int) (w : World) (h : 0 ≤ n) (h2 : n ≤ 1000001) : Calls Tryd.prog 47 #[.int .i64 n] w fun e w' => e = .returned (.int .i64 (n / 2 + 1)) ∧ w = w' := by
  obtain ⟨k, rfl⟩ : ∃ k : Nat, n = k := ⟨n.toNat, by omega⟩
  go_enter Tryd.func47, Tryd.ntmps47
  go_wp2_with fail
  go_ret
  exact ⟨ret_int (by go_num; try omega), rfl⟩

set_option maxHeartbeats 2000000 in
theorem on_any (d : De) (s : Value) (n : Int) (w : World) (hv : SM w w.heap.size s d.ms) (hl : d.ms.length ≤ 140737488355328) :
    Calls Tryd.prog 11 #[dv d s, .int .i64 n] w fun e w' => e = .returned (optV (onM n d.ms)) ∧ Below w.heap.size w w' := by
  obtain ⟨A, c, rfl⟩ := hv.form
  obtain ⟨R, hR0⟩ : ∃ R, onM n d.ms = R := ⟨_, rfl⟩
  rw [hR0]
  have hR1 : Hid (onM n (d.ms.drop 0) = R) := Lib.hid (by simpa using hR0)
  clear hR0
  go_enter Tryd.func11, Tryd.ntmps11
  go_wp2_with fail
  go_loopw [5, 7, 11] (fun v5 _ vi wr => ∃ k : Nat, k ≤ d.ms.length ∧ vi = .int .i64 (k : Int) ∧ v5 = .bool false ∧
      (wr.cell? ⟨w.heap.size + 1, 0, none⟩ = some (.int .i64 0) ∧ wr.cell? ⟨w.heap.size + 1, 1, none⟩ = some (.int .i64 0) ∧ wr.frozen? ⟨w.heap.size + 1, 0, none⟩ = false ∧ wr.frozen? ⟨w.heap.size + 1, 1, none⟩ = false) ∧ Hid (onM n (d.ms.drop k) = R) ∧ Below w.heap.size w wr ∧ w.heap.size + 1 < wr.heap.size) (fun _ _ vi _ => d.ms.length - (intOf vi).toNat)
  case atStart =>
    exact ⟨0, by omega, rfl, rfl, by simp [go_sem], hR1, ((Below.refl _ w).alloc (Nat.le_refl _) _).alloc (by simp) _, by simp⟩
  case round =>
    clear hR1
    obtain ⟨k, hk, rfl, rfl, ⟨r1, r2, r3, r4⟩, hR, hbw, hTz⟩ := hrel
    by_cases hlt : k < d.ms.length
    · obtain ⟨b, o, rfl, hb, hc1, hc2⟩ := (hv.below hbw).at_ hlt
      have hd := drop_cons hlt
      obtain ⟨⟨x, y⟩, hm⟩ : ∃ m, d.ms[k] = m := ⟨_, rfl⟩
      rw [hm] at hc1 hc2 hd
      clear hm
      have hbz := hbw.size
      have hstep := hR.out
      rw [hd] at hstep
      by_cases he : x = n
      · rw [onM_yes he] at hstep
        have HF := Lib.hid hstep
        have n1 : (x == n) = true := by simpa using he
        have n2 : (x = n) = True := eq_true he
        clear hstep hd hR he
        go_wp2_with fail
        refine bodyPost_ret (v := .tuple #[mv (x, y), .bool true]) (by simp [results, Tryd.results11, go_sem, r1, r2, hTz]) rfl ⟨by rw [← HF.out]; rfl, ?_⟩
        (repeat' (first | with_reducible assumption | with_reducible exact Below.refl _ _ | with_reducible refine Below.alloc ?_ ?_ _ | with_reducible refine Below.setCell ?_ ?_ _ | with_reducible refine Below.drew ?_ | omega | (simp; done) | (simp; omega)))
      · rw [onM_no he] at hstep
        have HN := Lib.hid hstep
        have n1 : (x == n) = false := by simpa using he
        have n2 : (x = n) = False := eq_false he
        clear hstep hd hR he
        go_wp2_with fail
        go_roundw
        case rel => exact ⟨k + 1, by omega, by go_num, rfl, by simp [go_sem, r1, r2, r3, r4, hTz], HN, hbw.alloc hbz _, by simp; omega⟩
        case measure => simp [intOf]; omega
    · obtain rfl : k = d.ms.length := by omega
      have hfin : R = none := by
        rw [← hR.out, List.drop_eq_nil_iff.2 (Nat.le_refl _)]; rfl
      have HF := Lib.hid hfin
      clear hfin hR
      go_wp2_with fail
      refine bodyPost_ret (v := .tuple #[mv (0, 0), .bool false]) (by simp [results, Tryd.results11, go_sem, r1, r2]) rfl ⟨by rw [HF.out]; rfl, ?_⟩
      (repeat' (first | with_reducible assumption | with_reducible exact Below.refl _ _ | with_reducible refine Below.alloc ?_ ?_ _ | with_reducible refine Below.setCell ?_ ?_ _ | with_reducible refine Below.drew ?_ | omega | (simp; done) | (simp; omega)))

set_option maxHeartbeats 2000000 in
theorem has_any (d : De) (s : Value) (n : Int) (w : World) (hv : SM w w.heap.size s d.ms) (hl : d.ms.length ≤ 140737488355328) :
    Calls Tryd.prog 13 #[dv d s, .int .i64 n] w fun e w' => e = .returned (optV (hasM n d.ms)) ∧ Below w.heap.size w w' := by
  obtain ⟨A, c, rfl⟩ := hv.form
  obtain ⟨R, hR0⟩ : ∃ R, hasM n d.ms = R := ⟨_, rfl⟩
  rw [hR0]
  have hR1 : Hid (hasM n (d.ms.drop 0) = R) := Lib.hid (by simpa using hR0)
  clear hR0
  go_enter Tryd.func13, Tryd.ntmps13
  go_wp2_with fail
  go_loopw [5, 7, 11] (fun v5 _ vi wr => ∃ k : Nat, k ≤ d.ms.length ∧ vi = .int .i64 (k : Int) ∧ v5 = .bool false ∧
      (wr.cell? ⟨w.heap.size + 1, 0, none⟩ = some (.int .i64 0) ∧ wr.cell? ⟨w.heap.size + 1, 1, none⟩ = some (.int .i64 0) ∧ wr.frozen? ⟨w.heap.size + 1, 0, none⟩ = false ∧ wr.frozen? ⟨w.heap.size + 1, 1, none⟩ = false) ∧ Hid (hasM n (d.ms.drop k) = R) ∧ Below w.heap.size w wr ∧ w.heap.size + 1 < wr.heap.size) (fun _ _ vi _ => d.ms.length - (intOf vi).toNat)
  case atStart =>
    exact ⟨0, by omega, rfl, rfl, by simp [go_sem], hR1, ((Below.refl _ w).alloc (Nat.le_refl _) _).alloc (by simp) _, by simp⟩
  case round =>
    clear hR1
    obtain ⟨k, hk, rfl, rfl, ⟨r1, r2, r3, r4⟩, hR, hbw, hTz⟩ := hrel
    by_cases hlt : k < d.ms.length
    · obtain ⟨b, o, rfl, hb, hc1, hc2⟩ := (hv.below hbw).at_ hlt
      have hd := drop_cons hlt
      obtain ⟨⟨x, y⟩, hm⟩ : ∃ m, d.ms[k] = m := ⟨_, rfl⟩
      rw [hm] at hc1 hc2 hd
      clear hm
      have hbz := hbw.size
      have hstep := hR.out
      rw [hd] at hstep
      by_cases he : y = n
      · rw [hasM_yes he] at hstep
        have HF := Lib.hid hstep
        have n1 : (y == n) = true := by simpa using he
        have n2 : (y = n) = True := eq_true he
        clear hstep hd hR he
        go_wp2_with fail
        refine bodyPost_ret (v := .tuple #[mv (x, y), .bool true]) (by simp [results, Tryd.results13, go_sem, r1, r2, hTz]) rfl ⟨by rw [← HF.out]; rfl, ?_⟩
        (repeat' (first | with_reducible assumption | with_reducible exact Below.refl _ _ | with_reducible refine Below.alloc ?_ ?_ _ | with_reducible refine Below.setCell ?_ ?_ _ | with_reducible refine Below.drew ?_ | omega | (simp; done) | (simp; omega)))
      · rw [hasM_no he] at hstep
        have HN := Lib.hid hstep
        have n1 : (y == n) = false := by simpa using he
        have n2 : (y = n) = False := eq_false he
        clear hstep hd hR he
        go_wp2_with fail
        go_roundw
        case rel => exact ⟨k + 1, by omega, by go_num, rfl, by simp [go_sem, r1, r2, r3, r4, hTz], HN, hbw.alloc hbz _, by simp; omega⟩
        case measure => simp [intOf]; omega
    · obtain rfl : k = d.ms.length := by omega
      have hfin : R = none := by
        rw [← hR.out, List.drop_eq_nil_iff.2 (Nat.le_refl _)]; rfl
      have HF := Lib.hid hfin
      clear hfin hR
      go_wp2_with fail
      refine bodyPost_ret (v := .tuple #[mv (0, 0), .bool false]) (by simp [results, Tryd.results13, go_sem, r1, r2]) rfl ⟨by rw [HF.out]; rfl, ?_⟩
      (repeat' (first | with_reducible assumption | with_reducible exact Below.refl _ _ | with_reducible refine Below.alloc ?_ ?_ _ | with_reducible refine Below.setCell ?_ ?_ _ | with_reducible refine Below.drew ?_ | omega | (simp; done) | (simp; omega)))

set_option maxHeartbeats 2000000 in
theorem ron_any (d : De) (s : Value) (n : Int) (w : World) (hv : SM w w.heap.size s d.ms) (hl : d.ms.length ≤ 140737488355328) :
    Calls Tryd.prog 12 #[dv d s, .int .i64 n] w fun e w' => e = .returned (optV (onM n d.ms)) ∧ Below w.heap.size w w' := by
  obtain ⟨A, c, rfl⟩ := hv.form
  obtain ⟨R, hR0⟩ : ∃ R, onM n d.ms = R := ⟨_, rfl⟩
  rw [hR0]
  have hR1 : Hid (onM n (d.ms.drop 0) = R) := Lib.hid (by simpa using hR0)
  clear hR0
  go_enter Tryd.func12, Tryd.ntmps12
  go_wp2_with fail
  go_loopw [5, 6] (fun v5 vi wr => ∃ k : Nat, k ≤ d.ms.length ∧ vi = .int .i64 (k : Int) ∧ v5 = .bool false ∧ wr = (w.alloc (.cells #[.int .i64 d.id, .string d.f, .string d.t, .int .i64 d.gen, .slice A d.ms.length c, .int .i64 d.next] 26)).alloc (.cells #[.int .i64 0, .int .i64 0] 30) ∧ Hid (onM n (d.ms.drop k) = R)) (fun _ vi _ => d.ms.length - (intOf vi).toNat)
  case atStart => exact ⟨0, by omega, rfl, rfl, rfl, hR1⟩
  case round =>
    clear hR1
    obtain ⟨k, hk, rfl, rfl, rfl, hR⟩ := hrel
    by_cases hlt : k < d.ms.length
    · obtain ⟨b, o, rfl, hb, hc1, hc2⟩ := hv.at_ hlt
      have hbn : b < w.heap.size + 1 := by omega
      have hd := drop_cons hlt
      obtain ⟨⟨x, y⟩, hm⟩ : ∃ m, d.ms[k] = m := ⟨_, rfl⟩
      rw [hm] at hc1 hc2 hd
      clear hm
      have hstep := hR.out
      rw [hd] at hstep
      by_cases he : x = n
      · rw [onM_yes he] at hstep
        have HF := Lib.hid hstep
        have n1 : (x == n) = true := by simpa using he
        have n2 : (x = n) = True := eq_true he
        clear hstep hd hR he
        go_wp2_with fail
        refine bodyPost_ret (v := .tuple #[mv (x, y), .bool true]) (by simp [results, Tryd.results12, go_sem]) rfl ⟨by rw [← HF.out]; rfl, ?_⟩
        (repeat' (first | with_reducible assumption | with_reducible exact Below.refl _ _ | with_reducible refine Below.alloc ?_ ?_ _ | with_reducible refine Below.setCell ?_ ?_ _ | with_reducible refine Below.drew ?_ | omega | (simp; done) | (simp; omega)))
      · rw [onM_no he] at hstep
        have HN := Lib.hid hstep
        have n1 : (x == n) = false := by simpa using he
        have n2 : (x = n) = False := eq_false he
        clear hstep hd hR he
        go_wp2_with fail
        go_roundw
        case rel => exact ⟨k + 1, by omega, by go_num, rfl, by first | rfl | trivial, HN⟩
        case measure => simp [intOf]; omega
    · obtain rfl : k = d.ms.length := by omega
      have hfin : R = none := by
        rw [← hR.out, List.drop_eq_nil_iff.2 (Nat.le_refl _)]; rfl
      have HF := Lib.hid hfin
      clear hfin hR
      go_wp2_with fail
      refine bodyPost_ret (v := .tuple #[mv (0, 0), .bool false]) (by simp [results, Tryd.results12, go_sem]) rfl ⟨by rw [HF.out]; rfl, ?_⟩
      (repeat' (first | with_reducible assumption | with_reducible exact Below.refl _ _ | with_reducible refine Below.alloc ?_ ?_ _ | with_reducible refine Below.setCell ?_ ?_ _ | with_reducible refine Below.drew ?_ | omega | (simp; done) | (simp; omega)))

set_option maxHeartbeats 2000000 in
theorem rhas_any (d : De) (s : Value) (n : Int) (w : World) (hv : SM w w.heap.size s d.ms) (hl : d.ms.length ≤ 140737488355328) :
    Calls Tryd.prog 14 #[dv d s, .int .i64 n] w fun e w' => e = .returned (optV (hasM n d.ms)) ∧ Below w.heap.size w w' := by
  obtain ⟨A, c, rfl⟩ := hv.form
  obtain ⟨R, hR0⟩ : ∃ R, hasM n d.ms = R := ⟨_, rfl⟩
  rw [hR0]
  have hR1 : Hid (hasM n (d.ms.drop 0) = R) := Lib.hid (by simpa using hR0)
  clear hR0
  go_enter Tryd.func14, Tryd.ntmps14
  go_wp2_with fail
  go_loopw [5, 6] (fun v5 vi wr => ∃ k : Nat, k ≤ d.ms.length ∧ vi = .int .i64 (k : Int) ∧ v5 = .bool false ∧ wr = (w.alloc (.cells #[.int .i64 d.id, .string d.f, .string d.t, .int .i64 d.gen, .slice A d.ms.length c, .int .i64 d.next] 26)).alloc (.cells #[.int .i64 0, .int .i64 0] 30) ∧ Hid (hasM n (d.ms.drop k) = R)) (fun _ vi _ => d.ms.length - (intOf vi).toNat)
  case atStart => exact ⟨0, by omega, rfl, rfl, rfl, hR1⟩
  case round =>
    clear hR1
    obtain ⟨k, hk, rfl, rfl, rfl, hR⟩ := hrel
    by_cases hlt : k < d.ms.length
    · obtain ⟨b, o, rfl, hb, hc1, hc2⟩ := hv.at_ hlt
      have hbn : b < w.heap.size + 1 := by omega
      have hd := drop_cons hlt
      obtain ⟨⟨x, y⟩, hm⟩ : ∃ m, d.ms[k] = m := ⟨_, rfl⟩
      rw [hm] at hc1 hc2 hd
      clear hm
      have hstep := hR.out
      rw [hd] at hstep
      by_cases he : y = n
      · rw [hasM_yes he] at hstep
        have HF := Lib.hid hstep
        have n1 : (y == n) = true := by simpa using he
        have n2 : (y = n) = True := eq_true he
        clear hstep hd hR he
        go_wp2_with fail
        refine bodyPost_ret (v := .tuple #[mv (x, y), .bool true]) (by simp [results, Tryd.results14, go_sem]) rfl ⟨by rw [← HF.out]; rfl, ?_⟩
        (repeat' (first | with_reducible assumption | with_reducible exact Below.refl _ _ | with_reducible refine Below.alloc ?_ ?_ _ | with_reducible refine Below.setCell ?_ ?_ _ | with_reducible refine Below.drew ?_ | omega | (simp; done) | (simp; omega)))
      · rw [hasM_no he] at hstep
        have HN := Lib.hid hstep
        have n1 : (y == n) = false := by simpa using he
        have n2 : (y = n) = False := eq_false he
        clear hstep hd hR he
        go_wp2_with fail
        go_roundw
        case rel => exact ⟨k + 1, by omega, by go_num, rfl, by first | rfl | trivial, HN⟩
        case measure => simp [intOf]; omega
    · obtain rfl : k = d.ms.length := by omega
      have hfin : R = none := by
        rw [← hR.out, List.drop_eq_nil_iff.2 (Nat.le_refl _)]; rfl
      have HF := Lib.hid hfin
      clear hfin hR
      go_wp2_with fail
      refine bodyPost_ret (v := .tuple #[mv (0, 0), .bool false]) (by simp [results, Tryd.results14, go_sem]) rfl ⟨by rw [HF.out]; rfl, ?_⟩
      (repeat' (first | with_reducible assumption | with_reducible exact Below.refl _ _ | with_reducible refine Below.alloc ?_ ?_ _ | with_reducible refine Below.setCell ?_ ?_ _ | with_reducible refine Below.drew ?_ | omega | (simp; done) | (simp; omega)))

end Go.Proofs.YthglghlkchhjlaaDoor.Ds

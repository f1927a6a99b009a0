/-
  The laws' own functions of orders: num, small, light, live: live answers true. Conditions: lengths at most 2^47; the library's variables hold what their types allow.
-/
import Derived.Test.YthglghlkchhjlaaGreatDoorOdParseR
namespace Go.Proofs.YthglghlkchhjlaaGreatDoor.Od
open Go.RowKit Bnd
open Go.Proofs.YthglghlkchhjlaaGreatDoor.M (numT inR tieT intT untieT)
open Ds (nb nb_size)

theorem num_any (n : Int) (w : World) : Calls Tryz.prog 9 #[.int .i64 n] w fun e w' => e = .returned (.int .i64 n) ∧ w = w' := by
  go_enter Tryz.func9, Tryz.ntmps9
  go_wp2_with fail
  go_ret
  exact ⟨rfl, rfl⟩

/-! ### how long texts are -/
theorem putA_length {o : Ask} (h : FitA o) : (putA o).length ≤ 400 + o.key.size + o.til.size + o.val.size + o.old.size := by
  have hf := few_strS h
  unfold putA
  rw [← texts_strS]
  have h1 := M.tie_length (texts (strS o)) (by
    intro x hx
    obtain ⟨s, hs, rfl⟩ := List.mem_map.1 hx
    have := hf.short s hs
    simp; omega)
  have h2 : (texts (strS o)).length = 11 := by simp [texts, strS]
  have h3 : ((texts (strS o)).map List.length).sum ≤ 121 + o.key.size + o.til.size + o.val.size + o.old.size := by
    have a1 := M.numT_length h.r.kind
    have a2 := M.numT_length h.r.client
    have a3 := M.numT_length h.r.seq
    have a4 := M.numT_length h.r.lim
    have a5 := M.numT_length h.r.id
    have a6 := M.numT_length h.r.node
    have a7 : (truthT o.has).length = 1 := by cases o.has <;> rfl
    simp only [texts, strS, List.map_cons, List.map_nil, List.sum_cons, List.sum_nil, Array.length_toList]
    have b1 : ∀ x : ByteArray, x.data.size = x.size := fun x => rfl
    simp only [b1] at *
    omega
  omega
def sumP (l : List Pr) : Nat := (l.map fun p => p.1.size + p.2.size).sum
theorem sumP_mem {l : List Pr} {p : Pr} (h : p ∈ l) : p.1.size + p.2.size ≤ sumP l := by
  induction l with
  | nil => simp at h
  | cons q l ih =>
    have e : sumP (q :: l) = q.1.size + q.2.size + sumP l := by simp [sumP]
    rcases List.mem_cons.1 h with rfl | h
    · omega
    · have := ih h; omega
theorem sumP_take {l : List Pr} {k : Nat} (h : k < l.length) : sumP (l.take (k + 1)) = sumP (l.take k) + l[k].1.size + l[k].2.size := by
  unfold sumP
  rw [List.take_succ_eq_append_getElem h, List.map_append, List.sum_append]
  simp
  omega
theorem sumP_le (l : List Pr) (k : Nat) : sumP (l.take k) ≤ sumP l := by
  have : sumP l = sumP (l.take k) + sumP (l.drop k) := by
    unfold sumP
    rw [← List.sum_append, ← List.map_append, List.take_append_drop]
  omega
theorem sumP_texts : ∀ l : List Pr, ((pairsT l).map List.length).sum = sumP l
  | [] => rfl
  | p :: l => by
    have e : sumP (p :: l) = p.1.size + p.2.size + sumP l := by simp [sumP]
    rw [pairsT_cons, e, ← sumP_texts l]
    simp
    omega
theorem putR_length {r : Rep} (h : FitR r) : (putR r).length ≤ 200 + 44 * r.ps.length + r.val.size + sumP r.ps := by
  have hf := few_strR h
  unfold putR
  have h1 := M.tie_length (strandsR r) (by
    rw [← texts_strR]
    intro x hx
    obtain ⟨s, hs, rfl⟩ := List.mem_map.1 hx
    have := hf.short s hs
    simp; omega)
  have h2 : (strandsR r).length = 4 + r.ps.length * 2 := by unfold strandsR; simp [pairsT_length]; omega
  have h3 : ((strandsR r).map List.length).sum ≤ 41 + r.val.size + sumP r.ps := by
    have a1 := M.numT_length h.code
    have a2 := M.numT_length h.err
    have a7 : (truthT r.has).length = 1 := by cases r.has <;> rfl
    have b1 : r.val.data.toList.length = r.val.size := by simp
    unfold strandsR
    simp only [List.map_cons, List.sum_cons, sumP_texts]
    omega
  omega

/-! ### small, light -/
def smallA (o : Ask) : Bool := decide (o.key.size ≤ 20000 ∧ o.til.size ≤ 20000 ∧ o.val.size ≤ 131072 ∧ o.old.size ≤ 20000)
set_option maxHeartbeats 4000000 in
theorem small_any (o : Ask) (w : World) (hk : o.key.size ≤ 140737488355328) (ht : o.til.size ≤ 140737488355328) (hv : o.val.size ≤ 140737488355328) (hd : o.old.size ≤ 140737488355328) :
    Calls Tryz.prog 7 #[av o] w fun e w' => e = .returned (.bool (smallA o)) ∧ Below w.heap.size w w' := by
  obtain ⟨B, hB⟩ : ∃ B, smallA o = B := ⟨_, rfl⟩
  have hB' := hB
  unfold smallA at hB'
  rw [hB]
  clear hB
  have key : ∀ a b c d : Bool, decide (o.key.size ≤ 20000) = a → decide (o.til.size ≤ 20000) = b → decide (o.val.size ≤ 131072) = c → decide (o.old.size ≤ 20000) = d → B = (a && (b && (c && d))) := by
    rintro _ _ _ _ rfl rfl rfl rfl
    rw [← hB']
    simp
  clear hB'
  by_cases h1 : o.key.size ≤ 20000
  rotate_left
  · have e : B = false := key false _ _ _ (by simpa using h1) rfl rfl rfl
    subst e
    have g1 : ((o.key.size : Int) ≤ 20000) = False := eq_false (by omega)
    clear key h1
    go_enter Tryz.func7, Tryz.ntmps7
    go_wp2_with fail
    go_ret
    exact ⟨rfl, (by (repeat' (first | with_reducible assumption | with_reducible exact Below.refl _ _ | with_reducible refine Below.alloc ?_ ?_ _ | with_reducible refine Below.setCell ?_ ?_ _ | with_reducible refine Below.drew ?_ | omega | (simp; done) | (simp; omega))))⟩
  have g1 : ((o.key.size : Int) ≤ 20000) = True := eq_true (by omega)
  by_cases h2 : o.til.size ≤ 20000
  rotate_left
  · have e : B = false := (key true false _ _ (by simpa using h1) (by simpa using h2) rfl rfl)
    subst e
    have g2 : ((o.til.size : Int) ≤ 20000) = False := eq_false (by omega)
    clear key h1 h2
    go_enter Tryz.func7, Tryz.ntmps7
    go_wp2_with fail
    go_ret
    exact ⟨rfl, (by (repeat' (first | with_reducible assumption | with_reducible exact Below.refl _ _ | with_reducible refine Below.alloc ?_ ?_ _ | with_reducible refine Below.setCell ?_ ?_ _ | with_reducible refine Below.drew ?_ | omega | (simp; done) | (simp; omega))))⟩
  have g2 : ((o.til.size : Int) ≤ 20000) = True := eq_true (by omega)
  by_cases h3 : o.val.size ≤ 131072
  rotate_left
  · have e : B = false := (key true true false _ (by simpa using h1) (by simpa using h2) (by simpa using h3) rfl)
    subst e
    have g3 : ((o.val.size : Int) ≤ 131072) = False := eq_false (by omega)
    clear key h1 h2 h3
    go_enter Tryz.func7, Tryz.ntmps7
    go_wp2_with fail
    go_ret
    exact ⟨rfl, (by (repeat' (first | with_reducible assumption | with_reducible exact Below.refl _ _ | with_reducible refine Below.alloc ?_ ?_ _ | with_reducible refine Below.setCell ?_ ?_ _ | with_reducible refine Below.drew ?_ | omega | (simp; done) | (simp; omega))))⟩
  have g3 : ((o.val.size : Int) ≤ 131072) = True := eq_true (by omega)
  by_cases h4 : o.old.size ≤ 20000
  · have e : B = true := (key true true true true (by simpa using h1) (by simpa using h2) (by simpa using h3) (by simpa using h4))
    subst e
    have g4 : ((o.old.size : Int) ≤ 20000) = True := eq_true (by omega)
    clear key h1 h2 h3 h4
    go_enter Tryz.func7, Tryz.ntmps7
    go_wp2_with fail
    go_ret
    exact ⟨rfl, (by (repeat' (first | with_reducible assumption | with_reducible exact Below.refl _ _ | with_reducible refine Below.alloc ?_ ?_ _ | with_reducible refine Below.setCell ?_ ?_ _ | with_reducible refine Below.drew ?_ | omega | (simp; done) | (simp; omega))))⟩
  · have e : B = false := (key true true true false (by simpa using h1) (by simpa using h2) (by simpa using h3) (by simpa using h4))
    subst e
    have g4 : ((o.old.size : Int) ≤ 20000) = False := eq_false (by omega)
    clear key h1 h2 h3 h4
    go_enter Tryz.func7, Tryz.ntmps7
    go_wp2_with fail
    go_ret
    exact ⟨rfl, (by (repeat' (first | with_reducible assumption | with_reducible exact Below.refl _ _ | with_reducible refine Below.alloc ?_ ?_ _ | with_reducible refine Below.setCell ?_ ?_ _ | with_reducible refine Below.drew ?_ | omega | (simp; done) | (simp; omega))))⟩

/-! ### live -/
abbrev kA : ByteArray := ⟨#[97]⟩
abbrev kB : ByteArray := ⟨#[98]⟩
abbrev kX : ByteArray := ⟨#[120]⟩
abbrev oL : Ask := ⟨2, 1, 2, kA, E0, kX, E0, false, 0, 0, 0⟩
abbrev rL : Rep := ⟨4, 7, false, E0, [(kA, kB)]⟩
theorem fit_oL : FitA oL := ⟨⟨by decide, by decide, by decide, by decide, by decide, by decide⟩, by decide, by decide, by decide, by decide⟩
theorem fit_rL : FitR rL := ⟨by decide, by decide, by decide, by decide, by decide⟩
theorem is_oL : isA oL = true := by kernel_rfl
theorem is_rL : isR rL = true := by kernel_rfl
theorem live_parse : parseA (putA oL) = (oL, 0) := by
  rw [parse_put fit_oL.r (by have h := putA_length fit_oL; have e : 400 + oL.key.size + oL.til.size + oL.val.size + oL.old.size = 402 := rfl; rw [e] at h; exact Nat.le_trans h (by decide)), if_pos is_oL]
theorem live_parseR : parseR (putR rL) = (rL, 0) := by
  rw [parse_putR fit_rL.code fit_rL.err (by decide) (by have h := putR_length fit_rL; have e : 200 + 44 * rL.ps.length + rL.val.size + sumP rL.ps = 246 := rfl; rw [e] at h; omega), if_pos is_rL]
theorem live_chk : chkA ⟨1, 0, 0, E0, E0, E0, E0, false, 0, 0, 0⟩ = 70 := by kernel_rfl
theorem live_chkR : chkR ⟨9, 0, false, E0, []⟩ = 70 := by kernel_rfl
theorem sp_one (w : World) : SP (w.alloc (.cells #[.string kA, .string kB] 59)) (w.heap.size + 1) (.slice (some ⟨w.heap.size, 0, none⟩) 1 1) [(kA, kB)] := by
  have := (arg_one w (kA, kB)).sm
  simpa using this

theorem live_boxes (w2 : World) (n : Nat) (h : BoxA n oL w2) :
    BoxA n oL (((w2.alloc (.cells #[.int .i64 2, .int .i64 1, .int .i64 2, .string kA, .string E0, .string kX, .string E0, .bool false, .int .i64 0, .int .i64 0, .int .i64 0] 23)).alloc (.cells #[.string kA, .string kB] 59)).alloc (.cells #[.int .i64 4, .int .i64 7, .bool false, .string E0, .slice (some ⟨w2.heap.size + 1, 0, none⟩) 1 1] 37)) ∧
    BoxA w2.heap.size oL (((w2.alloc (.cells #[.int .i64 2, .int .i64 1, .int .i64 2, .string kA, .string E0, .string kX, .string E0, .bool false, .int .i64 0, .int .i64 0, .int .i64 0] 23)).alloc (.cells #[.string kA, .string kB] 59)).alloc (.cells #[.int .i64 4, .int .i64 7, .bool false, .string E0, .slice (some ⟨w2.heap.size + 1, 0, none⟩) 1 1] 37)) ∧
    BoxR (w2.heap.size + 1 + 1) rL (.slice (some ⟨w2.heap.size + 1, 0, none⟩) 1 1) (((w2.alloc (.cells #[.int .i64 2, .int .i64 1, .int .i64 2, .string kA, .string E0, .string kX, .string E0, .bool false, .int .i64 0, .int .i64 0, .int .i64 0] 23)).alloc (.cells #[.string kA, .string kB] 59)).alloc (.cells #[.int .i64 4, .int .i64 7, .bool false, .string E0, .slice (some ⟨w2.heap.size + 1, 0, none⟩) 1 1] 37)) ∧
    SP (((w2.alloc (.cells #[.int .i64 2, .int .i64 1, .int .i64 2, .string kA, .string E0, .string kX, .string E0, .bool false, .int .i64 0, .int .i64 0, .int .i64 0] 23)).alloc (.cells #[.string kA, .string kB] 59)).alloc (.cells #[.int .i64 4, .int .i64 7, .bool false, .string E0, .slice (some ⟨w2.heap.size + 1, 0, none⟩) 1 1] 37)) (w2.heap.size + 3) (.slice (some ⟨w2.heap.size + 1, 0, none⟩) 1 1) rL.ps := by
  refine ⟨((h.alloc _).alloc _).alloc _, ((BoxA.new w2 oL).alloc _).alloc _, ?_, ?_⟩
  · have := BoxR.new ((w2.alloc (.cells #[.int .i64 2, .int .i64 1, .int .i64 2, .string kA, .string E0, .string kX, .string E0, .bool false, .int .i64 0, .int .i64 0, .int .i64 0] 23)).alloc (.cells #[.string kA, .string kB] 59)) rL (.slice (some ⟨w2.heap.size + 1, 0, none⟩) 1 1)
    simpa using this
  · have h1 := sp_one (w2.alloc (.cells #[.int .i64 2, .int .i64 1, .int .i64 2, .string kA, .string E0, .string kX, .string E0, .bool false, .int .i64 0, .int .i64 0, .int .i64 0] 23))
    rw [World.size_alloc] at h1
    refine (h1.below ?_).more (by omega)
    exact (Below.refl _ _).alloc (by simp) _

set_option maxHeartbeats 16000000 in
set_option maxRecDepth 100000 in
theorem live_any (w : World) (hg : Good w) : Calls Tryz.prog 8 #[] w fun e w' => e = .returned (.bool true) ∧ Below w.heap.size w w' := by
  obtain ⟨T, hT⟩ : ∃ T : ByteArray, T = ⟨(putA oL).toArray⟩ := ⟨_, rfl⟩
  have hTd : T.data.toList = putA oL := by rw [hT]
  have hTs : T.size ≤ 140737488355328 := by
    have h1 := putA_length fit_oL
    have e : 400 + oL.key.size + oL.til.size + oL.val.size + oL.old.size = 402 := rfl
    have h2 : T.size = (putA oL).length := by rw [hT]; simp [ByteArray.size]
    omega
  obtain ⟨U, hU⟩ : ∃ U : ByteArray, U = ⟨(putR rL).toArray⟩ := ⟨_, rfl⟩
  have hUd : U.data.toList = putR rL := by rw [hU]
  have hUs : U.size ≤ 140737488355328 := by
    have h1 := putR_length fit_rL
    have e : 200 + 44 * rL.ps.length + rL.val.size + sumP rL.ps = 246 := rfl
    have h2 : U.size = (putR rL).length := by rw [hU]; simp [ByteArray.size]
    omega
  have c1 : ∀ w, Calls Tryz.prog 14 #[av oL] w fun e w' => e = .returned (.string T) ∧ Below w.heap.size w w' := by
    intro w; rw [hT]; exact put_any oL w fit_oL
  have c2 : ∀ w, Good w → Calls Tryz.prog 12 #[.string T] w fun e w' => e = .returned (.tuple #[av oL, .int .i64 0]) ∧ Below w.heap.size w w' := by
    intro w hg
    have := parse_any T w hTs hg
    rw [hTd, live_parse] at this
    exact this
  have c3 : ∀ s w, SP w w.heap.size s rL.ps → Calls Tryz.prog 21 #[rv rL s] w fun e w' => e = .returned (.string U) ∧ Below w.heap.size w w' := by
    intro s w hs; rw [hU]; exact putR_any rL s w hs fit_rL
  have c4 : ∀ w, Good w → Calls Tryz.prog 17 #[.string U] w fun e w' => ∃ A c, e = .returned (.tuple #[rv rL (.slice A 1 c), .int .i64 0]) ∧ SP w' w'.heap.size (.slice A 1 c) rL.ps ∧ Below w.heap.size w w' := by
    intro w hg
    have := parseR_any U w hUs hg
    rw [hUd, live_parseR] at this
    refine this.mono ?_
    rintro e w' ⟨s, h1, h2, h3⟩
    obtain ⟨A, c, rfl⟩ := h2.form
    exact ⟨A, c, h1, h2, h3⟩
  have c5 : ∀ s s' w, SP w w.heap.size s rL.ps → SP w w.heap.size s' rL.ps → Calls Tryz.prog 24 #[rv rL s, rv rL s'] w fun e w' => e = .returned (.bool true) ∧ Below w.heap.size w w' := by
    intro s s' w h h'
    have := sameR_any rL rL s s' w h h' (by decide) (by decide)
    rw [(sameR_iff rL rL).2 rfl] at this
    exact this
  have c6 : ∀ s s' w, SP w w.heap.size s rL.ps → SP w w.heap.size s' rL.ps → Calls Tryz.prog 23 #[rv rL s, rv rL s'] w fun e w' => e = .returned (.bool true) ∧ Below w.heap.size w w' := by
    intro s s' w h h'
    have := rsameR_any rL rL s s' w h h' (by decide) (by decide)
    rw [(sameR_iff rL rL).2 rfl] at this
    exact this
  have c7 : ∀ w, Good w → Calls Tryz.prog 10 #[av ⟨1, 0, 0, E0, E0, E0, E0, false, 0, 0, 0⟩] w fun e w' => e = .returned (.int .i64 70) ∧ Below w.heap.size w w' := by
    intro w hg
    have := check_any ⟨1, 0, 0, E0, E0, E0, E0, false, 0, 0, 0⟩ w (by decide) (by decide) (by decide) hg
    rw [live_chk] at this
    exact this
  have c8 : ∀ w, Calls Tryz.prog 19 #[rv ⟨9, 0, false, E0, []⟩ (.slice none 0 0)] w fun e w' => e = .returned (.int .i64 70) ∧ Below w.heap.size w w' := by
    intro w
    have := checkR_any ⟨9, 0, false, E0, []⟩ (.slice none 0 0) w (SP.nil _ _) (by decide) (by decide) (by decide)
    rw [live_chkR] at this
    exact this
  have c9 : ∀ w, Calls Tryz.prog 36 #[.int .i64 5] w fun e w' => e = .returned (.bool true) ∧ w = w' := fun w => reads_any 5 w
  have c10 : ∀ w, Calls Tryz.prog 37 #[.int .i64 7] w fun e w' => e = .returned (.bool true) ∧ w = w' := fun w => keyed_any 7 w
  clear hTd hTs hUd hUs hT hU
  go_enter Tryz.func8, Tryz.ntmps8
  go_wp2_with fail
  refine (c1 _).mono ?_
  rintro e w1 ⟨rfl, b1⟩
  have B1 := (BoxA.new w oL).keep b1
  have hb1 : Below w.heap.size w w1 := (show Below w.heap.size w _ from (by (repeat' (first | with_reducible assumption | with_reducible exact Below.refl _ _ | with_reducible refine Below.alloc ?_ ?_ _ | with_reducible refine Below.setCell ?_ ?_ _ | with_reducible refine Below.drew ?_ | omega | (simp; done) | (simp; omega))))).trans (b1.mono (by simp))
  have hz1 := hb1.size
  clear b1
  obtain ⟨p_0, ⟨p_1, p_2, p_3, p_4, p_5, p_6, p_7, p_8, p_9, p_10, p_11⟩, p_12⟩ := _root_.id B1
  go_wp2_with fail
  refine (c2 _ (hg.below (by (repeat' (first | with_reducible assumption | with_reducible exact Below.refl _ _ | with_reducible refine Below.alloc ?_ ?_ _ | with_reducible refine Below.setCell ?_ ?_ _ | with_reducible refine Below.drew ?_ | omega | (simp; done) | (simp; omega)))))).mono ?_
  rintro e w2 ⟨rfl, b2⟩
  have B2 := B1.keep b2
  have hb2 : Below w.heap.size w w2 := hb1.trans (b2.mono (by omega))
  have hz2 := hb2.size
  clear b2
  clear p_0 p_1 p_2 p_3 p_4 p_5 p_6 p_7 p_8 p_9 p_10 p_11 p_12
  obtain ⟨p_0, ⟨p_1, p_2, p_3, p_4, p_5, p_6, p_7, p_8, p_9, p_10, p_11⟩, p_12⟩ := _root_.id B2
  go_wp2_with fail
  obtain ⟨A3, Q3, R3, P3⟩ := live_boxes w2 w.heap.size B2
  have P3' := P3.more (N' := w2.heap.size + 1 + 1 + 1) (by omega)
  refine (c3 _ _ (by simpa using P3')).mono ?_
  rintro e w3 ⟨rfl, b3⟩
  have A4 := A3.keep b3
  have Q4 := Q3.keep b3
  have R4 := R3.keep b3
  have P4 : SP w3 w3.heap.size (.slice (some ⟨w2.heap.size + 1, 0, none⟩) 1 1) rL.ps := (P3.below (b3.mono (by simp))).more (by have := b3.size; simp at this; omega)
  have hb3 : Below w.heap.size w w3 := (show Below w.heap.size w _ from (by (repeat' (first | with_reducible assumption | with_reducible exact Below.refl _ _ | with_reducible refine Below.alloc ?_ ?_ _ | with_reducible refine Below.setCell ?_ ?_ _ | with_reducible refine Below.drew ?_ | omega | (simp; done) | (simp; omega))))).trans (b3.mono (by simp; omega))
  have hz3 := hb3.size
  clear b3 A3 Q3 R3 P3 P3'
  clear p_0 p_1 p_2 p_3 p_4 p_5 p_6 p_7 p_8 p_9 p_10 p_11 p_12
  obtain ⟨p_0, ⟨p_1, p_2, p_3, p_4, p_5, p_6, p_7, p_8, p_9, p_10, p_11⟩, p_12⟩ := _root_.id A4
  obtain ⟨q_0, ⟨q_1, q_2, q_3, q_4, q_5, q_6, q_7, q_8, q_9, q_10, q_11⟩, q_12⟩ := _root_.id Q4
  obtain ⟨r_0, ⟨r_1, r_2, r_3, r_4, r_5⟩, r_6⟩ := _root_.id R4
  go_wp2_with fail
  refine (c4 _ (hg.below (by (repeat' (first | with_reducible assumption | with_reducible exact Below.refl _ _ | with_reducible refine Below.alloc ?_ ?_ _ | with_reducible refine Below.setCell ?_ ?_ _ | with_reducible refine Below.drew ?_ | omega | (simp; done) | (simp; omega)))))).mono ?_
  rintro e w4 ⟨Z, cz, rfl, PZ, b4⟩
  have A5 := A4.keep b4
  have Q5 := Q4.keep b4
  have R5 := R4.keep b4
  have P5 := (P4.below b4).more b4.size
  have hb4 : Below w.heap.size w w4 := hb3.trans (b4.mono (by omega))
  have hz4 := hb4.size
  have sA5 := A5.1
  have sQ5 := Q5.1
  have sR5 := R5.1
  clear b4 A4 Q4 R4 P4
  clear p_0 p_1 p_2 p_3 p_4 p_5 p_6 p_7 p_8 p_9 p_10 p_11 p_12
  clear q_0 q_1 q_2 q_3 q_4 q_5 q_6 q_7 q_8 q_9 q_10 q_11 q_12
  clear r_0 r_1 r_2 r_3 r_4 r_5 r_6
  obtain ⟨p_0, ⟨p_1, p_2, p_3, p_4, p_5, p_6, p_7, p_8, p_9, p_10, p_11⟩, p_12⟩ := _root_.id A5
  obtain ⟨q_0, ⟨q_1, q_2, q_3, q_4, q_5, q_6, q_7, q_8, q_9, q_10, q_11⟩, q_12⟩ := _root_.id Q5
  obtain ⟨r_0, ⟨r_1, r_2, r_3, r_4, r_5⟩, r_6⟩ := _root_.id R5
  go_wp2_with fail
  refine (num_any _ _).mono ?_
  rintro e w' ⟨rfl, rfl⟩
  go_wp2_with fail
  refine (num_any _ _).mono ?_
  rintro e w' ⟨rfl, rfl⟩
  go_wp2_with fail
  have hal : Below w4.heap.size w4 (w4.alloc (.cells #[.int .i64 4, .int .i64 7, .bool false, .string E0, .slice Z 1 cz] 37)) := (Below.refl _ _).alloc (Nat.le_refl _) _
  have T6 : BoxR w4.heap.size rL (.slice Z 1 cz) (w4.alloc (.cells #[.int .i64 4, .int .i64 7, .bool false, .string E0, .slice Z 1 cz] 37)) := BoxR.new w4 rL (.slice Z 1 cz)
  have P6 := (P5.below hal).more hal.size
  have PZ6 := (PZ.below hal).more hal.size
  have R6 := R5.keep hal
  have hb5 := hb4.trans (hal.mono hz4)
  refine (c6 _ _ _ PZ6 P6).mono ?_
  rintro e w5 ⟨rfl, b5⟩
  have T7 := T6.keep b5
  have P7 := (P6.below b5).more b5.size
  have PZ7 := (PZ6.below b5).more b5.size
  have R7 := R6.keep b5
  have hb6 := hb5.trans (b5.mono hb5.size)
  have hz6 := hb6.size
  clear b5 hal T6 P6 PZ6 R6 hb5 P5 PZ R5
  clear p_0 p_1 p_2 p_3 p_4 p_5 p_6 p_7 p_8 p_9 p_10 p_11 p_12
  clear q_0 q_1 q_2 q_3 q_4 q_5 q_6 q_7 q_8 q_9 q_10 q_11 q_12
  clear r_0 r_1 r_2 r_3 r_4 r_5 r_6
  obtain ⟨r_0, ⟨r_1, r_2, r_3, r_4, r_5⟩, r_6⟩ := _root_.id R7
  obtain ⟨t_0, ⟨t_1, t_2, t_3, t_4, t_5⟩, t_6⟩ := _root_.id T7
  go_wp2_with fail
  refine (c5 _ _ _ PZ7 P7).mono ?_
  rintro e w6 ⟨rfl, b6⟩
  have hb7 := hb6.trans (b6.mono hz6)
  have hz7 := hb7.size
  clear b6
  clear r_0 r_1 r_2 r_3 r_4 r_5 r_6
  clear t_0 t_1 t_2 t_3 t_4 t_5 t_6
  go_wp2_with fail
  refine (c7 _ (hg.below hb7)).mono ?_
  rintro e w7 ⟨rfl, b7⟩
  have hb8 := hb7.trans (b7.mono hz7)
  have hz8 := hb8.size
  clear b7
  go_wp2_with fail
  refine (num_any _ _).mono ?_
  rintro e w' ⟨rfl, rfl⟩
  go_wp2_with fail
  refine (c8 _).mono ?_
  rintro e w8 ⟨rfl, b8⟩
  have hb9 := hb8.trans (b8.mono hz8)
  clear b8
  go_wp2_with fail
  refine (num_any _ _).mono ?_
  rintro e w' ⟨rfl, rfl⟩
  go_wp2_with fail
  refine (c9 _).mono ?_
  rintro e w' ⟨rfl, rfl⟩
  go_wp2_with fail
  refine (c10 _).mono ?_
  rintro e w' ⟨rfl, rfl⟩
  go_wp2_with fail
  go_ret
  exact ⟨rfl, hb9⟩
end Go.Proofs.YthglghlkchhjlaaGreatDoor.Od

/-
  The laws' own functions of orders: num, small, light, live: live answers true. Conditions: lengths at most 2^47; the library's variables hold what their types allow.
-/
import Derived.Test.YticikmkehobblaaDoorOdParseR
namespace Go.Proofs.YticikmkehobblaaDoor.Od
open Go.RowKit Bnd
open Go.Proofs.YticikmkehobblaaDoor.M (numT inR tieT intT untieT)
open Ds (nb nb_size)

/-! ### how long texts are -/
theorem putA_length {o : Ask} (h : FitA o) : (putA o).length ≤ 400 + o.key.size + o.til.size + o.val.size + o.old.size := by
  have hf := few_strS h
  unfold putA
  rw [← texts_strS]
  have h1 := M.tie_length (texts (strS o)) (by
    intro x hx
    obtain ⟨s, hs, rfl⟩ := List.mem_map.1 hx
    have := hf.short s hs
    simp; omega)
  have h2 : (texts (strS o)).length = 11 := by simp [texts, strS]
  have h3 : ((texts (strS o)).map List.length).sum ≤ 121 + o.key.size + o.til.size + o.val.size + o.old.size := by
    have a1 := M.numT_length h.r.kind
    have a2 := M.numT_length h.r.client
    have a3 := M.numT_length h.r.seq
    have a4 := M.numT_length h.r.lim
    have a5 := M.numT_length h.r.id
    have a6 := M.numT_length h.r.node
    have a7 : (truthT o.has).length = 1 := by cases o.has <;> rfl
    simp only [texts, strS, List.map_cons, List.map_nil, List.sum_cons, List.sum_nil, Array.length_toList]
    have b1 : ∀ x : ByteArray, x.data.size = x.size := fun x => rfl
    simp only [b1] at *
    omega
  omega
def sumP (l : List Pr) : Nat := (l.map fun p => p.1.size + p.2.size).sum
theorem sumP_mem {l : List Pr} {p : Pr} (h : p ∈ l) : p.1.size + p.2.size ≤ sumP l := by
  induction l with
  | nil => simp at h
  | cons q l ih =>
    have e : sumP (q :: l) = q.1.size + q.2.size + sumP l := by simp [sumP]
    rcases List.mem_cons.1 h with rfl | h
    · omega
    · have := ih h; omega
theorem sumP_take {l : List Pr} {k : Nat} (h : k < l.length) : sumP (l.take (k + 1)) = sumP (l.take k) + l[k].1.size + l[k].2.size := by
  unfold sumP
  rw [List.take_succ_eq_append_getElem h, List.map_append, List.sum_append]
  simp
  omega
theorem sumP_le (l : List Pr) (k : Nat) : sumP (l.take k) ≤ sumP l := by
  have : sumP l = sumP (l.take k) + sumP (l.drop k) := by
    unfold sumP
    rw [← List.sum_append, ← List.map_append, List.take_append_drop]
  omega
theorem sumP_texts : ∀ l : List Pr, ((pairsT l).map List.length).sum = sumP l
  | [] => rfl
  | p :: l => by
    have e : sumP (p :: l) = p.1.size + p.2.size + sumP l := by simp [sumP]
    rw [pairsT_cons, e, ← sumP_texts l]
    simp
    omega
theorem putR_length {r : Rep} (h : FitR r) : (putR r).length ≤ 200 + 44 * r.ps.length + r.val.size + sumP r.ps := by
  have hf := few_strR h
  unfold putR
  have h1 := M.tie_length (strandsR r) (by
    rw [← texts_strR]
    intro x hx
    obtain ⟨s, hs, rfl⟩ := List.mem_map.1 hx
    have := hf.short s hs
    simp; omega)
  have h2 : (strandsR r).length = 4 + r.ps.length * 2 := by unfold strandsR; simp [pairsT_length]; omega
  have h3 : ((strandsR r).map List.length).sum ≤ 41 + r.val.size + sumP r.ps := by
    have a1 := M.numT_length h.code
    have a2 := M.numT_length h.err
    have a7 : (truthT r.has).length = 1 := by cases r.has <;> rfl
    have b1 : r.val.data.toList.length = r.val.size := by simp
    unfold strandsR
    simp only [List.map_cons, List.sum_cons, sumP_texts]
    omega
  omega

/-! ### small, light -/
def smallA (o : Ask) : Bool := decide (o.key.size ≤ 20000 ∧ o.til.size ≤ 20000 ∧ o.val.size ≤ 131072 ∧ o.old.size ≤ 20000)
/-! ### live -/
abbrev kA : ByteArray := ⟨#[97]⟩
abbrev kB : ByteArray := ⟨#[98]⟩
abbrev kX : ByteArray := ⟨#[120]⟩
abbrev oL : Ask := ⟨2, 1, 2, kA, E0, kX, E0, false, 0, 0, 0⟩
abbrev rL : Rep := ⟨4, 7, false, E0, [(kA, kB)]⟩
theorem fit_oL : FitA oL := ⟨⟨by decide, by decide, by decide, by decide, by decide, by decide⟩, by decide, by decide, by decide, by decide⟩
theorem fit_rL : FitR rL := ⟨by decide, by decide, by decide, by decide, by decide⟩
theorem is_oL : isA oL = true := by kernel_rfl
theorem is_rL : isR rL = true := by kernel_rfl
theorem live_parse : parseA (putA oL) = (oL, 0) := by
  rw [parse_put fit_oL.r (by have h := putA_length fit_oL; have e : 400 + oL.key.size + oL.til.size + oL.val.size + oL.old.size = 402 := rfl; rw [e] at h; exact Nat.le_trans h (by decide)), if_pos is_oL]
theorem live_parseR : parseR (putR rL) = (rL, 0) := by
  rw [parse_putR fit_rL.code fit_rL.err (by decide) (by have h := putR_length fit_rL; have e : 200 + 44 * rL.ps.length + rL.val.size + sumP rL.ps = 246 := rfl; rw [e] at h; omega), if_pos is_rL]
theorem live_chk : chkA ⟨1, 0, 0, E0, E0, E0, E0, false, 0, 0, 0⟩ = 70 := by kernel_rfl
theorem live_chkR : chkR ⟨9, 0, false, E0, []⟩ = 70 := by kernel_rfl
theorem sp_one (w : World) : SP (w.alloc (.cells #[.string kA, .string kB] 49)) (w.heap.size + 1) (.slice (some ⟨w.heap.size, 0, none⟩) 1 1) [(kA, kB)] := by
  have := (arg_one w (kA, kB)).sm
  simpa using this

end Go.Proofs.YticikmkehobblaaDoor.Od

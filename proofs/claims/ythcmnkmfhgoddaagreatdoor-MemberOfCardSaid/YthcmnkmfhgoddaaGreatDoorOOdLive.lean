/-
  The laws' own functions of orders: num, small, light, live: live answers true. Conditions: lengths at most 2^47; the library's variables hold what their types allow.
-/
import Derived.Test.YthcmnkmfhgoddaaGreatDoorOOdPaA
namespace Go.Proofs.YthcmnkmfhgoddaaGreatDoor.Od
open Go.RowKit Bnd
open Go.Proofs.YthcmnkmfhgoddaaGreatDoor.M (numT inR tieT intT untieT)
open Ds (nb nb_size)
theorem putA_length {o : Ask} (h : FitA o) : (putA o).length ≤ 400 + o.key.size + o.til.size + o.val.size + o.old.size := by
  have hf := few_strS h
  unfold putA
  rw [← texts_strS]
  have h1 := M.tie_length (texts (strS o)) (by
    intro x hx
    obtain ⟨s, hs, rfl⟩ := List.mem_map.1 hx
    have := hf.short s hs
    simp; omega)
  have h2 : (texts (strS o)).length = 11 := by simp [texts, strS]
  have h3 : ((texts (strS o)).map List.length).sum ≤ 121 + o.key.size + o.til.size + o.val.size + o.old.size := by
    have a1 := M.numT_length h.r.kind
    have a2 := M.numT_length h.r.client
    have a3 := M.numT_length h.r.seq
    have a4 := M.numT_length h.r.lim
    have a5 := M.numT_length h.r.id
    have a6 := M.numT_length h.r.node
    have a7 : (truthT o.has).length = 1 := by cases o.has <;> rfl
    simp only [texts, strS, List.map_cons, List.map_nil, List.sum_cons, List.sum_nil, Array.length_toList]
    have b1 : ∀ x : ByteArray, x.data.size = x.size := fun x => rfl
    simp only [b1] at *
    omega
  omega
end Go.Proofs.YthcmnkmfhgoddaaGreatDoor.Od

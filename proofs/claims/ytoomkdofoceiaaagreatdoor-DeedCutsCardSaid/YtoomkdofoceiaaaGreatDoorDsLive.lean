
/-
  The law's own functions: num, small, own, live: live answers true. Conditions: the library's variables hold what their types allow.
-/
import Derived.Test.YtoomkdofoceiaaaGreatDoorDsPaA
import Derived.Test.YtoomkdofoceiaaaGreatDoorDsASA
import Derived.Test.YtoomkdofoceiaaaGreatDoorDsA
namespace Go.Proofs.YtoomkdofoceiaaaGreatDoor.Ds
open Go.RowKit Bnd
open Go.Proofs.YtoomkdofoceiaaaGreatDoor.M (numT inR tieT intT untieT)
abbrev kM : ByteArray := ⟨#[109]⟩
abbrev dF : De := ⟨1, ⟨#[]⟩, ⟨#[]⟩, 1, [(1, 1), (2, 2), (3, 3)], 4⟩
abbrev dL : De := ⟨1, ⟨#[]⟩, kM, 2, [(1, 1), (2, 2), (3, 3)], 4⟩
abbrev dR : De := ⟨2, kM, ⟨#[]⟩, 2, [(1, 1), (2, 2), (3, 3)], 4⟩
abbrev dA : De := ⟨2, kM, ⟨#[]⟩, 3, [(1, 1), (2, 2), (3, 3), (4, 4)], 5⟩
theorem live_isA : isD dA = true := by kernel_rfl
theorem inR_small {n : Int} (h0 : 0 ≤ n) (h : n ≤ 100) : inR n := by unfold M.inR; omega
theorem fit_of {d : De} (hf : d.f.size ≤ 2) (ht : d.t.size ≤ 2) (hn : d.ms.length ≤ 5) (h1 : 0 ≤ d.id ∧ d.id ≤ 100) (h2 : 0 ≤ d.gen ∧ d.gen ≤ 100) (h3 : 0 ≤ d.next ∧ d.next ≤ 100) (hm : ∀ m ∈ d.ms, (0 ≤ m.1 ∧ m.1 ≤ 100) ∧ 0 ≤ m.2 ∧ m.2 ≤ 100) : Fit d :=
  ⟨by omega, by omega, by omega, ⟨inR_small h1.1 h1.2, inR_small h2.1 h2.2, inR_small h3.1 h3.2, fun m h => ⟨inR_small (hm m h).1.1 (hm m h).1.2, inR_small (hm m h).2.1 (hm m h).2.2⟩⟩⟩
theorem fitA : Fit dA := fit_of (by decide) (by decide) (by decide) (by decide) (by decide) (by decide) (by decide)
theorem put_length {d : De} (fd : Fit d) (hf : d.f.size ≤ 2000) (ht : d.t.size ≤ 2000) (hn : d.ms.length ≤ 30) : (putT d).length ≤ 10000 := by
  unfold putT
  have hfew : ∀ x ∈ strandsT d, x.length ≤ 1048576 := by
    rw [← texts_strands]
    intro x hx
    obtain ⟨s, hs, rfl⟩ := List.mem_map.1 hx
    have := (few_strands fd (by omega) (by omega)).short s hs
    simp; omega
  have h1 := M.tie_length (strandsT d) hfew
  have hl : (strandsT d).length = 5 + d.ms.length * 2 := by unfold strandsT; rw [List.length_append, memsT_length]; rfl
  have hsum : ((strandsT d).map List.length).sum ≤ 4060 + d.ms.length * 40 := by
    unfold strandsT
    rw [List.map_append, List.sum_append]
    have e1 : ([numT d.id, d.f.toList, d.t.toList, numT d.gen, numT d.next].map List.length).sum ≤ 4060 := by
      have a1 := M.numT_length fd.r.id
      have a2 := M.numT_length fd.r.gen
      have a3 := M.numT_length fd.r.next
      have a4 : d.f.toList.length = d.f.size := by rw [ByteArray.toList_eq]; simp
      have a5 : d.t.toList.length = d.t.size := by rw [ByteArray.toList_eq]; simp
      simp only [List.map_cons, List.map_nil, List.sum_cons, List.sum_nil]
      omega
    have e2 : ∀ l : List Mem, (∀ m ∈ l, inR m.1 ∧ inR m.2) → ((memsT l).map List.length).sum ≤ l.length * 40 := by
      intro l
      induction l with
      | nil => intro _; simp [memsT]
      | cons m l ih =>
        intro h
        have a1 := M.numT_length (h m (by simp)).1
        have a2 := M.numT_length (h m (by simp)).2
        have := ih (fun x hx => h x (by simp [hx]))
        rw [memsT_cons]
        simp only [List.map_cons, List.sum_cons, List.length_cons]
        omega
    have := e2 d.ms fd.r.ms
    omega
  omega
theorem live_parse : parseD (putT dA) = (dA, 0) := by
  rw [parse_put fitA.r (by decide) (by have := put_length fitA (by decide) (by decide) (by decide); omega)]
  exact okD_is live_isA
end Go.Proofs.YtoomkdofoceiaaaGreatDoor.Ds

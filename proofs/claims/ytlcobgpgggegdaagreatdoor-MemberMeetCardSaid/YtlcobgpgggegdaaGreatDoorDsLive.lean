
/-
  The law's own functions: num, small, own, live: live answers true. Conditions: the library's variables hold what their types allow.
-/
import Derived.Test.YtlcobgpgggegdaaGreatDoorDsPaA
import Derived.Test.YtlcobgpgggegdaaGreatDoorDsASA
import Derived.Test.YtlcobgpgggegdaaGreatDoorDsA
namespace Go.Proofs.YtlcobgpgggegdaaGreatDoor.Ds
open Go.RowKit Bnd
open Go.Proofs.YtlcobgpgggegdaaGreatDoor.M (numT inR tieT intT untieT)

/-! ### the descriptors that live makes -/
abbrev kM : ByteArray := ⟨#[109]⟩
abbrev dF : De := ⟨1, ⟨#[]⟩, ⟨#[]⟩, 1, [(1, 1), (2, 2), (3, 3)], 4⟩
abbrev dL : De := ⟨1, ⟨#[]⟩, kM, 2, [(1, 1), (2, 2), (3, 3)], 4⟩
abbrev dR : De := ⟨2, kM, ⟨#[]⟩, 2, [(1, 1), (2, 2), (3, 3)], 4⟩
abbrev dA : De := ⟨2, kM, ⟨#[]⟩, 3, [(1, 1), (2, 2), (3, 3), (4, 4)], 5⟩
theorem inR_small {n : Int} (h0 : 0 ≤ n) (h : n ≤ 100) : inR n := by unfold M.inR; omega
theorem si_three (w : World) : SI (w.alloc (.cells #[.int .i64 1, .int .i64 2, .int .i64 3] 3)) (w.heap.size + 1) (.slice (some ⟨w.heap.size, 0, none⟩) 3 3) [1, 2, 3] :=
  ⟨_, _, rfl, fun _ => ⟨w.heap.size, 0, rfl, by omega, fun i hi => by
    match i, hi with
    | 0, _ => simp
    | 1, _ => simp
    | 2, _ => simp⟩⟩

end Go.Proofs.YtlcobgpgggegdaaGreatDoor.Ds

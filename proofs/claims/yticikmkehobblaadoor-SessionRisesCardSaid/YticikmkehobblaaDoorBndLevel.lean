/-
  The directory's keys: Level, Meta, Search, the program's and the document's. Condition: lengths at most 2^47 - 100.
-/
import Derived.Test.YticikmkehobblaaDoorBndA
import Derived.Test.YticikmkehobblaaDoorShelf
import Derived.LoopTactic
import Derived.Outline
namespace Go.Proofs.YticikmkehobblaaDoor.Bnd
open Go.RowKit O

def levelT : Text → Int
  | [] => 3
  | c :: _ => if c.toNat = 0 then 3 else if c.toNat ≤ 2 then (c.toNat : Int) else 0

theorem size_pos {k : ByteArray} (h : ¬ k.toList = []) : 0 < k.size := by
  rw [← size_toList]
  cases e : k.toList with
  | nil => exact absurd e h
  | cons c l => simp
theorem level_of {k : ByteArray} (h : 0 < k.size) : levelT k.toList = (if k[0].toNat = 0 then (3 : Int) else if k[0].toNat ≤ 2 then (k[0].toNat : Int) else (0 : Int)) := by
  obtain ⟨⟨l⟩⟩ := k
  cases l with
  | nil => exact absurd h (by decide)
  | cons c l => rw [ByteArray.toList_eq]; rfl

/-- is there such a level? -/
def lvB (n : Int) : Bool := decide (1 ≤ n) && decide (n ≤ 2)
theorem conv1 (c : UInt8) (w : World) : (convert 88 9 (.slice (some ⟨w.heap.size, 0, none⟩) 1 1)).run Tryd.prog (w.alloc (.cells #[.int .u8 (c.toNat : Int)] 5)) = .ok (.string ⟨#[c]⟩) (w.alloc (.cells #[.int .u8 (c.toNat : Int)] 5)) := by
  have h := run_convert_bytes_back (P := Tryd.prog) (w.alloc (.cells #[.int .u8 (c.toNat : Int)] 5)) 88 9 5 ⟨w.heap.size, 0, none⟩ 1 [c] Tryd.underlying88 Tryd.underlying5 Tryd.underlying9 (by
    intro j hj
    have : j = 0 := by simp at hj; omega
    subst this
    simp [Addr.add])
  simpa using h

/-- what Meta answers -/
def metaS (n : Int) (t : Text) : Text := if n = 1 then metaT 1 t else if n = 2 then metaT 2 t else []
theorem sz31 : (⟨(List.replicate 31 (255 : UInt8)).toArray⟩ : ByteArray).toList = List.replicate 31 255 := by rw [ByteArray.toList_eq]

end Go.Proofs.YticikmkehobblaaDoor.Bnd

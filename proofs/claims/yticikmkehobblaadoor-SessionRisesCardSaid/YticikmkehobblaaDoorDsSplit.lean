/-
  Split, the program's. Condition: at most 1000 members, lengths at most 2^47.
-/
import Derived.Test.YticikmkehobblaaDoorDsJAA
import Derived.Test.YticikmkehobblaaDoorRegA
namespace Go.Proofs.YticikmkehobblaaDoor.Ds
open Go.RowKit Bnd
open Go.Proofs.YticikmkehobblaaDoor.O (Bd isB keyB hasB nextB)

abbrev ptr (n : Nat) : Value := .pointer (some ⟨n, 0, none⟩)
theorem dv_inj {d : De} {s s' : Value} (h : dv d s = dv d s') : s = s' := by
  injection h with h
  simpa using h
theorem ptr_inj {n n' : Nat} (h : ptr n = ptr n') : n = n' := by
  injection h with h; injection h with h; injection h
/-- the world with a descriptor written into a box -/
def putW (w : World) (n : Nat) (d : De) (s : Value) : World := (((((w.setCell ⟨n, 0, none⟩ (.int .i64 d.id)).setCell ⟨n, 1, none⟩ (.string d.f)).setCell ⟨n, 2, none⟩ (.string d.t)).setCell ⟨n, 3, none⟩ (.int .i64 d.gen)).setCell ⟨n, 4, none⟩ s).setCell ⟨n, 5, none⟩ (.int .i64 d.next)
theorem putW_box {w : World} {n n' : Nat} {d d' : De} {s s' : Value} (h : BoxD n' d' s' w) (ha : n ≠ n') : BoxD n' d' s' (putW w n d s) := by
  unfold putW
  repeat refine BoxD.other ?_ ha _
  exact h
theorem putW_below {w w0 : World} {N n : Nat} {d : De} {s : Value} (h : Below N w0 w) (hn : N ≤ n) : Below N w0 (putW w n d s) := by
  unfold putW
  repeat refine Below.setCell ?_ hn _
  exact h
/-- Split's region 13: both descriptors are laid into the results -/
structure R13 (w7 : World) (r1 r2 : Nat) (l r : De) (sl sr : Value) (L : Nat → Bool) (wx : World) : Prop where
  a : L 2 = false → wx = w7.drew
  b : L 2 = true → L 3 = false → wx = putW w7.drew r1 l sl
  c : L 3 = true → wx = putW (putW w7.drew r1 l sl) r2 r sr

/-- what Split answers -/
def Gave2 (w : World) (p : De × De × Int) (e : Ending) (w' : World) : Prop := ∃ s' s'', e = .returned (.tuple #[dv p.1 s', dv p.2.1 s'', .int .i64 p.2.2]) ∧ ArgM w' s' p.1.ms ∧ ArgM w' s'' p.2.1.ms ∧ Below w.heap.size w w'
theorem Gave2.zero {w w' : World} {n : Int} (h : Below w.heap.size w w') : Gave2 w (De.zero, De.zero, n) (.returned (.tuple #[dv De.zero (.slice none 0 0), dv De.zero (.slice none 0 0), .int .i64 n])) w' := ⟨_, _, rfl, .nil, .nil, h⟩
/-- two boxes are written, one behind the other -/
theorem put2 {w1 : World} {n n' : Nat} {d0 d0' : De} {s0 s0' : Value} (h : BoxD n d0 s0 w1) (h' : BoxD n' d0' s0' w1) (hne : n ≠ n') (d d' : De) (s s' : Value) :
    BoxD n d s ((((((((((((((w1).setCell ⟨n, 0, none⟩ (.int .i64 d.id)).setCell ⟨n, 1, none⟩ (.string d.f)).setCell ⟨n, 2, none⟩ (.string d.t)).setCell ⟨n, 3, none⟩ (.int .i64 d.gen)).setCell ⟨n, 4, none⟩ s).setCell ⟨n, 5, none⟩ (.int .i64 d.next))).setCell ⟨n', 0, none⟩ (.int .i64 d'.id)).setCell ⟨n', 1, none⟩ (.string d'.f)).setCell ⟨n', 2, none⟩ (.string d'.t)).setCell ⟨n', 3, none⟩ (.int .i64 d'.gen)).setCell ⟨n', 4, none⟩ s').setCell ⟨n', 5, none⟩ (.int .i64 d'.next)) ∧ BoxD n' d' s' ((((((((((((((w1).setCell ⟨n, 0, none⟩ (.int .i64 d.id)).setCell ⟨n, 1, none⟩ (.string d.f)).setCell ⟨n, 2, none⟩ (.string d.t)).setCell ⟨n, 3, none⟩ (.int .i64 d.gen)).setCell ⟨n, 4, none⟩ s).setCell ⟨n, 5, none⟩ (.int .i64 d.next))).setCell ⟨n', 0, none⟩ (.int .i64 d'.id)).setCell ⟨n', 1, none⟩ (.string d'.f)).setCell ⟨n', 2, none⟩ (.string d'.t)).setCell ⟨n', 3, none⟩ (.int .i64 d'.gen)).setCell ⟨n', 4, none⟩ s').setCell ⟨n', 5, none⟩ (.int .i64 d'.next)) :=
  ⟨putW_box (n := n') (d := d') (s := s') (BoxD.put h d s) (fun e => hne e.symm), BoxD.put (putW_box (n := n) (d := d) (s := s) h' hne) d' s'⟩
end Go.Proofs.YticikmkehobblaaDoor.Ds

/-
  Parse, the program's, at every text. Condition: lengths below 2^47; the library's variables hold what their types allow.
-/
import Derived.Test.YticikmkehobblaaDoorDsChunk
import Derived.Test.YticikmkehobblaaDoorDsJAA
import Derived.Test.YticikmkehobblaaDoorTieA
import Derived.Test.YticikmkehobblaaDoorRegA
namespace Go.Proofs.YticikmkehobblaaDoor.Ds
open Go.RowKit Bnd
open Go.Proofs.YticikmkehobblaaDoor.M (numT inR tieT intT untieT)

theorem parseL_short {l : List M.Text} (h : l.length < 5) : parseL l = none := by
  rcases l with _ | ⟨a, _ | ⟨f, _ | ⟨t, _ | ⟨g, _ | ⟨n, tl⟩⟩⟩⟩⟩
  all_goals first | rfl | (simp at h; omega)
theorem parseL_cons (a f t g n : M.Text) (tl : List M.Text) : parseL (a :: f :: t :: g :: n :: tl) =
    (match intsOf [a, g, n], (intsOf tl).bind pairsI with | some [a, g, n], some ms => some ⟨a, ⟨f.toArray⟩, ⟨t.toArray⟩, g, ms, n⟩ | _, _ => none) := by
  rw [parseL]
  cases h1 : intT a <;> cases h2 : intT g <;> cases h3 : intT n <;> cases h4 : intsOf tl <;> simp [intsOf, h1, h2, h3]
  rename_i q
  cases pairsI q <;> rfl
theorem ints3 {a g n : M.Text} {r : List Int} (h : intsOf [a, g, n] = some r) : ∃ x y z, r = [x, y, z] := by
  have := intsOf_length h
  rcases r with _ | ⟨x, _ | ⟨y, _ | ⟨z, _ | ⟨u, r⟩⟩⟩⟩
  all_goals first | exact ⟨_, _, _, rfl⟩ | (simp at this)
theorem intsOf_some_length {l : List M.Text} {ms : List Mem} (h : (intsOf l).bind pairsI = some ms) : ms.length ≤ l.length := by
  cases h1 : intsOf l with
  | none => rw [h1] at h; cases h
  | some q =>
    rw [h1] at h
    have e1 := intsOf_length h1
    have e2 := pairsI_length (show pairsI q = some ms from h)
    omega
theorem ba_data (b : ByteArray) : (⟨b.data.toList.toArray⟩ : ByteArray) = b := by simp
/-- the row's cells -/
theorem own_cells {w : World} {base g n cap : Nat} {ss : List ByteArray} (h : w.ownsRow base 9 1 (.slice (some ⟨g, 0, none⟩) n cap) ss.length (ss.map Value.string)) (i : Nat) (hi : i < ss.length) : w.cell? ⟨g, i, none⟩ = some (.string ss[i]) := by
  have := h.cells (g := g) rfl i _ (by rw [List.getElem?_map, List.getElem?_eq_getElem hi]; rfl)
  rw [Addr.add_lit, Nat.zero_add] at this
  exact this
theorem ownI_cells {w : World} {base g n cap : Nat} {ss : List Int} (h : OwnI w base (.slice (some ⟨g, 0, none⟩) n cap) ss) (i : Nat) (hi : i < ss.length) : w.cell? ⟨g, i, none⟩ = some (.int .i64 ss[i]) := by
  have := h.cells (g := g) rfl i _ (by rw [List.getElem?_map, List.getElem?_eq_getElem hi]; rfl)
  rw [Addr.add_lit, Nat.zero_add] at this
  exact this

/-- region 4: three texts are laid in a row, numbers is called -/
structure R4 (w1 W9 : World) (r : Option (List Int)) (L : Nat → Bool) (u : Nat → Value) (wx : World) : Prop where
  w0 : L 9 = false → wx = w1.drew
  w9 : L 9 = true → L 10 = false → wx = W9
  w10 : L 10 = true → NumsOut W9.heap.size r (.returned (u 10)) wx ∧ Below W9.heap.size W9 wx
/-- region 10: a descriptor is built, checked, laid into the result -/
structure R10 (w3 : World) (n : Nat) (p : De) (s : Value) (L : Nat → Bool) (wx : World) : Prop where
  b : L 21 = false → Below w3.heap.size w3 wx
  e : L 21 = true → ∃ w5, Below w3.heap.size w3 w5 ∧ wx = ((((((w5.setCell ⟨n, 0, none⟩ (.int .i64 p.id)).setCell ⟨n, 1, none⟩ (.string p.f)).setCell ⟨n, 2, none⟩ (.string p.t)).setCell ⟨n, 3, none⟩ (.int .i64 p.gen)).setCell ⟨n, 4, none⟩ s).setCell ⟨n, 5, none⟩ (.int .i64 p.next))

/-- what Parse answers, told by the strands -/
theorem parseD_none {s : M.Text} (h : untieT s = none) : parseD s = (De.zero, 60) := by unfold parseD; rw [h]
theorem parseD_short {s : M.Text} {l : List M.Text} (h : untieT s = some l) (hl : l.length < 5) : parseD s = (De.zero, 60) := by unfold parseD; rw [h]; simp only; rw [parseL_short hl]
theorem parseD_cons {s : M.Text} {a f t g n : ByteArray} {tl : List ByteArray} (h : untieT s = some (texts (a :: f :: t :: g :: n :: tl))) : parseD s =
    (match intsOf (texts [a, g, n]), (intsOf (texts tl)).bind pairsI with | some [x, y, z], some ms => okD ⟨x, f, t, y, ms, z⟩ | _, _ => (De.zero, 60)) := by
  unfold parseD
  rw [h]
  simp only
  rw [show texts (a :: f :: t :: g :: n :: tl) = a.data.toList :: f.data.toList :: t.data.toList :: g.data.toList :: n.data.toList :: texts tl from rfl, parseL_cons]
  rw [show texts [a, g, n] = [a.data.toList, g.data.toList, n.data.toList] from rfl]
  cases h1 : intsOf [a.data.toList, g.data.toList, n.data.toList] with
  | none => rfl
  | some r =>
    obtain ⟨x, y, z, rfl⟩ := ints3 h1
    cases h2 : (intsOf (texts tl)).bind pairsI with
    | none => rfl
    | some ms => simp only [ba_data]

end Go.Proofs.YticikmkehobblaaDoor.Ds

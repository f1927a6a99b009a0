/-
  A slice from a place on, whether there is room behind it or not. No condition.
  Merge, the program's. Conditions: bases from 0 to 2^40, at most 50,000 entries; numbers such as a program can hold.
  The texts that a roll's text is tied of; an append of texts in a drawn region, wherever calls that make memory stand. Conditions: at most 1,000 entries.
  Put, the program's and the document's: the text of a roll. Conditions: numbers such as a program can hold; texts of at most 2^20 bytes; at most 1,000 entries.
  Merge, the document's. Conditions: bases from 0 to 2^40, at most 50,000 entries; numbers such as a program can hold.
-/
import Derived.Test.YtkpakiiijphjeaaGreatDoorPRoB
import Derived.Test.YtkpakiiijphjeaaGreatDoorPRoA
import Derived.Test.YtkpakiiijphjeaaGreatDoorPRegA
namespace Go.Proofs.YtkpakiiijphjeaaGreatDoor.Ro
open Go.RowKit
end Go.Proofs.YtkpakiiijphjeaaGreatDoor.Ro

namespace Go.Proofs.YtkpakiiijphjeaaGreatDoor.Ro
open Go.RowKit
end Go.Proofs.YtkpakiiijphjeaaGreatDoor.Ro

namespace Go.Proofs.YtkpakiiijphjeaaGreatDoor.Ro
open Go.RowKit
open Go.Proofs.YtkpakiiijphjeaaGreatDoor.M (tieT numT inR)
abbrev nb (n : Int) : ByteArray := ⟨(numT n).toArray⟩
theorem nb_size {n : Int} (h : inR n) : (nb n).size ≤ 20 := by
  have h1 := M.numT_length h
  have h2 : (nb n).size = (numT n).length := by simp [ByteArray.size]
  omega
theorem run_append2 {P : Program} {a : Go.Act} {o : Oper} {s x : Operand} {t : TypeId} {v y v' : Value} {w w' : World} (ho : o.op = .call { callee := .builtin .append, args := #[s, x], argTypes := #[t, t] }) (hs : a.eval s = v) (hx : a.eval x = y)
    (hrun : (Builtin.append_ #[t, t] o.type #[v, y]).run P w = .ok v' w') : (execOp a.eval o).run P w = .ok (.value v') w' := by
  simp [execOp, ho, resolve, invoke, builtin, hs, hx, hrun, Result.andThen]
theorem own_new (w : World) (base : Nat) (ss : List ByteArray) (hb : base ≤ w.heap.size) (hl : ss.length ≤ 100) : (w.alloc (.cells (ss.map Value.string).toArray 9)).ownsRow base 9 1 (.slice (some ⟨w.heap.size, 0, none⟩) ss.length ss.length) ss.length (ss.map Value.string) :=
  ⟨by simp, .inr ⟨w.heap.size, ss.length, _, rfl, hb, heap_alloc_new w _, Nat.le_refl _, by unfold maxLen; omega, by simp, by rw [Nat.mul_one]; exact List.take_of_length_le (by simp)⟩⟩
def entB (e : En) : List ByteArray := [nb e.1, e.2]
theorem flat_len (l : List En) : ((l.map entB).flatten).length = l.length * 2 := by
  induction l with
  | nil => rfl
  | cons e l ih => simp only [List.map_cons, List.flatten_cons, List.length_append, ih, entB, List.length_cons, List.length_nil]; omega
theorem texts_flat : ∀ l : List En, texts ((l.map entB).flatten) = entsT l
  | [] => rfl
  | e :: l => by
    rw [List.map_cons, List.flatten_cons, entsT_cons]
    show texts (entB e ++ _) = _
    rw [show ∀ a b : List ByteArray, texts (a ++ b) = texts a ++ texts b from fun a b => List.map_append .., texts_flat l]
    simp [entB, texts, nb]
structure PL (k7 k8 base : Nat) (W0 : World) (xs ns : List ByteArray) (L : Nat → Bool) (u : Nat → Value) (wx : World) : Prop where
  le : base ≤ W0.heap.size
  b0 : L k8 = false → Below W0.heap.size W0 wx
  b : Below base W0 wx
  p7 : L k7 = true → L k8 = false → ∃ g : Nat, u k7 = .slice (some ⟨g, 0, none⟩) ns.length ns.length ∧ (∀ i (h : i < ns.length), wx.cell? ⟨g, i, none⟩ = some (.string ns[i])) ∧ g < wx.heap.size
  o8 : L k8 = true → wx.ownsRow base 9 1 (u k8) (xs.length + ns.length) ((xs ++ ns).map Value.string)
theorem PL.start {k7 k8 base : Nat} {W0 : World} (xs ns : List ByteArray) (h : base ≤ W0.heap.size) : PL k7 k8 base W0 xs ns (fun _ => false) (fun _ => undef) W0.drew :=
  ⟨h, fun _ => (Below.refl _ W0).drew, (Below.refl _ W0).drew, fun h => (by cases h), fun h => (by cases h)⟩
theorem PL.call {k7 k8 base i : Nat} {W0 wx w' : World} {xs ns : List ByteArray} {L : Nat → Bool} {u : Nat → Value} {v : Value} (h : PL k7 k8 base W0 xs ns L u wx) (h8 : L k8 = false) (hb : Below wx.heap.size wx w') (n7 : k7 ≠ i) (n8 : k8 ≠ i) :
    PL k7 k8 base W0 xs ns (St.mark L i) (St.upd u i v) w' := by
  have h0 := h.b0 h8
  have e7 : St.mark L i k7 = L k7 := by simp [St.mark, n7]
  have e8 : St.mark L i k8 = L k8 := by simp [St.mark, n8]
  have q7 : St.upd u i v k7 = u k7 := by simp [St.upd, n7]
  refine ⟨h.le, fun _ => h0.trans (hb.mono h0.size), h.b.trans (hb.mono (Nat.le_trans h.le h0.size)), fun h7 _ => ?_, fun h' => ?_⟩
  · rw [e7] at h7
    obtain ⟨g, g1, g2, g4⟩ := h.p7 h7 h8
    exact ⟨g, by rw [q7]; exact g1, fun i hi => (hb.cell (p := ⟨g, i, none⟩) g4).trans (g2 i hi), Nat.lt_of_lt_of_le g4 hb.size⟩
  · rw [e8, h8] at h'; cases h'
theorem PL.made {k7 k8 base : Nat} {W0 wx : World} {xs ns : List ByteArray} {L : Nat → Bool} {u : Nat → Value} (h : PL k7 k8 base W0 xs ns L u wx) (h8 : L k8 = false) (hne : k7 ≠ k8) :
    PL k7 k8 base W0 xs ns (St.mark L k7) (St.upd u k7 (.slice (some ⟨wx.heap.size, 0, none⟩) ns.length ns.length)) (wx.alloc (.cells (ns.map Value.string).toArray 9)) := by
  have h0 := h.b0 h8
  refine ⟨h.le, fun _ => h0.alloc h0.size _, h.b.alloc (Nat.le_trans h.le h0.size) _, fun _ _ => ?_, fun h' => ?_⟩
  · refine ⟨wx.heap.size, by simp [St.upd], fun i hi => ?_, by simp⟩
    rw [World.cell?_alloc_new wx _ _ i]
    simp [hi]
  · have : St.mark L k7 k8 = L k8 := by simp [St.mark, hne.symm]
    rw [this, h8] at h'; cases h'
theorem PL.app {k7 k8 base : Nat} {W0 wx : World} {xs ns : List ByteArray} {L : Nat → Bool} {u : Nat → Value} (h : PL k7 k8 base W0 xs ns L u wx) (h7 : L k7 = true) (h8 : L k8 = false) {v : Value}
    (hown : W0.ownsRow base 9 1 v xs.length (xs.map Value.string)) (hle : xs.length ≤ 100000) (hln : ns.length ≤ 100) (ty : TypeId) :
    ∃ v' w', (Builtin.append_ #[70, 70] ty #[v, u k7]).run Tryz.prog wx = .ok v' w' ∧ PL k7 k8 base W0 xs ns (St.mark L k8) (St.upd u k8 v') w' := by
  obtain ⟨i0, hi, hz0, hz1, hz2⟩ := info_parts infoStr
  have h0 := h.b0 h8
  have ho := own_below hown h0
  obtain ⟨g, g1, g2, g4⟩ := h.p7 h7 h8
  obtain ⟨v', w', k1, k2, k3, _⟩ := run_append_own (P := Tryz.prog) (w := wx) base 70 ty 9 i0 (.string ⟨#[]⟩) 1 16 Tryz.underlying70 hi hz0 hz1 hz2 rfl (by decide) v xs.length (xs.map Value.string) ho ⟨g, 0, none⟩ ns.length ns.length (ns.map Value.string)
    (by simp) (fun j z hz => by
      have hj : j < ns.length := by
        have := (List.getElem?_eq_some_iff.1 hz).1
        simpa using this
      rw [List.getElem?_map, List.getElem?_eq_getElem hj] at hz
      obtain rfl := Option.some.inj hz
      rw [Addr.add_lit, Nat.zero_add]
      exact g2 j hj) (fun z hz => by obtain ⟨x, _, rfl⟩ := List.mem_map.1 hz; rfl) (by unfold maxLen; omega) (by omega) (Nat.le_trans h.le h0.size)
  rw [← g1] at k1
  have e8 : St.mark L k8 k8 = true := by simp [St.mark]
  refine ⟨v', w', k1, h.le, fun h' => (by rw [e8] at h'; cases h'), h.b.grown k3 (Nat.le_trans h.le h0.size) (fun k hk => (ho.lt k hk).1), fun _ h' => (by rw [e8] at h'; cases h'), fun _ => ?_⟩
  have : St.upd u k8 v' k8 = v' := by simp [St.upd]
  rw [this]
  simpa using k2
end Go.Proofs.YtkpakiiijphjeaaGreatDoor.Ro

namespace Go.Proofs.YtkpakiiijphjeaaGreatDoor.Ro
open Go.RowKit
open Go.Proofs.YtkpakiiijphjeaaGreatDoor.M (tieT numT inR)
end Go.Proofs.YtkpakiiijphjeaaGreatDoor.Ro

namespace Go.Proofs.YtkpakiiijphjeaaGreatDoor.Ro
open Go.RowKit
end Go.Proofs.YtkpakiiijphjeaaGreatDoor.Ro

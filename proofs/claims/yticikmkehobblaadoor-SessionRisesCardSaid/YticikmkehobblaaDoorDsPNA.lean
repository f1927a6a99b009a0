/-
  A descriptor's text: Put, of the program and of the document. Conditions: at most 1000 members, keys of at most a million bytes, numbers of 64 bits.
  numbers: the numbers whose texts these are, or none. Condition: at most 10,000 texts; the library's variables hold what their types allow.
-/
import Derived.Test.YticikmkehobblaaDoorDsSame
import Derived.Test.YticikmkehobblaaDoorDsMake
import Derived.Test.YticikmkehobblaaDoorRegA
import Derived.Test.YticikmkehobblaaDoorTieA
import Derived.Test.YticikmkehobblaaDoorFirstA
import Derived.OwnWalk
namespace Go.Proofs.YticikmkehobblaaDoor.Ds
open Go.RowKit Bnd
open Go.Proofs.YticikmkehobblaaDoor.M (numT inR tieT)

abbrev nb (n : Int) : ByteArray := ⟨(numT n).toArray⟩
def headS (d : De) : List ByteArray := [nb d.id, d.f, d.t, nb d.gen, nb d.next]
def memS (l : List Mem) : List ByteArray := (l.map fun m => [nb m.1, nb m.2]).flatten
theorem memS_length : ∀ l : List Mem, (memS l).length = l.length * 2
  | [] => rfl
  | m :: l => by
    have := memS_length l
    unfold memS at *
    simp only [List.map_cons, List.flatten_cons, List.length_append, List.length_cons, List.length_nil]
    omega
theorem memS_snoc (l : List Mem) (m : Mem) : memS (l ++ [m]) = memS l ++ [nb m.1, nb m.2] := by simp [memS]
theorem memS_take (l : List Mem) (k : Nat) (h : k < l.length) : memS (l.take (k + 1)) = memS (l.take k) ++ [nb l[k].1, nb l[k].2] := by
  rw [List.take_succ_eq_append_getElem h, memS_snoc]
theorem texts_memS : ∀ l : List Mem, texts (memS l) = memsT l
  | [] => rfl
  | m :: l => by
    have := texts_memS l
    rw [memsT_cons, ← this]
    rfl
theorem texts_strands (d : De) : texts (headS d ++ memS d.ms) = strandsT d := by
  unfold strandsT
  rw [← texts_memS, ByteArray.toList_eq, ByteArray.toList_eq]
  unfold headS
  simp [texts]
theorem nb_size {n : Int} (h : inR n) : (nb n).size ≤ 20 := by
  have h1 := M.numT_length h
  have h2 : (nb n).size = (numT n).length := by simp [ByteArray.size]
  omega
theorem few_strands {d : De} (fd : Fit d) (hf : d.f.size ≤ 1000000) (ht : d.t.size ≤ 1000000) : Few (headS d ++ memS d.ms) := by
  refine ⟨?_, ?_⟩
  · rw [List.length_append, memS_length]
    have := fd.n
    simp [headS]; omega
  · intro s hs
    rcases List.mem_append.1 hs with hs | hs
    · simp only [headS, List.mem_cons, List.not_mem_nil, or_false] at hs
      rcases hs with rfl | rfl | rfl | rfl | rfl
      · have := nb_size fd.r.id; omega
      · omega
      · omega
      · have := nb_size fd.r.gen; omega
      · have := nb_size fd.r.next; omega
    · unfold memS at hs
      obtain ⟨l, hl, hs⟩ := List.mem_flatten.1 hs
      obtain ⟨m, hm, rfl⟩ := List.mem_map.1 hl
      have := fd.r.ms m hm
      simp only [List.mem_cons, List.not_mem_nil, or_false] at hs
      rcases hs with rfl | rfl
      · have := nb_size this.1; omega
      · have := nb_size this.2; omega

theorem run_append2 {P : Program} {a : Go.Act} {o : Oper} {s x : Operand} {t : TypeId} {v y v' : Value} {w w' : World} (ho : o.op = .call { callee := .builtin .append, args := #[s, x], argTypes := #[t, t] }) (hs : a.eval s = v) (hx : a.eval x = y)
    (hrun : (Builtin.append_ #[t, t] o.type #[v, y]).run P w = .ok v' w') : (execOp a.eval o).run P w = .ok (.value v') w' := by
  simp [execOp, ho, resolve, invoke, builtin, hs, hx, hrun, Result.andThen]

/-- a row of texts that was just built -/
theorem own_new (w : World) (base : Nat) (ss : List ByteArray) (hb : base ≤ w.heap.size) (hl : ss.length ≤ 100) : (w.alloc (.cells (ss.map Value.string).toArray 9)).ownsRow base 9 1 (.slice (some ⟨w.heap.size, 0, none⟩) ss.length ss.length) ss.length (ss.map Value.string) :=
  ⟨by simp, .inr ⟨w.heap.size, ss.length, _, rfl, hb, heap_alloc_new w _, Nat.le_refl _, by unfold maxLen; omega, by simp, by rw [Nat.mul_one]; exact List.take_of_length_le (by simp)⟩⟩
theorem head_zero (d : De) : headS d ++ memS (d.ms.take 0) = headS d := by simp [memS]
/-- an append of two texts, wherever its operations stand: k7 builds them, k8 appends -/
structure PR (k7 k8 base : Nat) (W0 : World) (xs : List ByteArray) (x y : ByteArray) (L : Nat → Bool) (u : Nat → Value) (wx : World) : Prop where
  le : base ≤ W0.heap.size
  b0 : L k8 = false → Below W0.heap.size W0 wx
  b : Below base W0 wx
  p7 : L k7 = true → L k8 = false → ∃ g, u k7 = .slice (some ⟨g, 0, none⟩) 2 2 ∧ wx.cell? ⟨g, 0, none⟩ = some (.string x) ∧ wx.cell? ⟨g, 1, none⟩ = some (.string y) ∧ g < wx.heap.size
  o8 : L k8 = true → wx.ownsRow base 9 1 (u k8) (xs.length + 2) ((xs ++ [x, y]).map Value.string)
theorem PR.start {k7 k8 base : Nat} {W0 : World} (xs : List ByteArray) (x y : ByteArray) (h : base ≤ W0.heap.size) : PR k7 k8 base W0 xs x y (fun _ => false) (fun _ => undef) W0.drew :=
  ⟨h, fun _ => (Below.refl _ W0).drew, ((Below.refl _ W0).drew).mono h, fun h => (by cases h), fun h => (by cases h)⟩
theorem PR.call {k7 k8 base i : Nat} {W0 wx w' : World} {xs : List ByteArray} {x y : ByteArray} {L : Nat → Bool} {u : Nat → Value} {z : Value} (h : PR k7 k8 base W0 xs x y L u wx) (h8 : L k8 = false) (hb : Below wx.heap.size wx w') (e7 : St.mark L i k7 = L k7) (e8 : St.mark L i k8 = L k8) (q7 : St.upd u i z k7 = u k7) :
    PR k7 k8 base W0 xs x y (St.mark L i) (St.upd u i z) w' := by
  have h0 := h.b0 h8
  refine ⟨h.le, fun _ => h0.trans (hb.mono h0.size), h.b.trans (hb.mono (Nat.le_trans h.le h0.size)), fun h7 h8' => ?_, fun h' => ?_⟩
  · rw [e7] at h7
    obtain ⟨g, g1, g2, g3, g4⟩ := h.p7 h7 h8
    exact ⟨g, by rw [q7]; exact g1, (hb.cell (p := ⟨g, 0, none⟩) g4).trans g2, (hb.cell (p := ⟨g, 1, none⟩) g4).trans g3, Nat.lt_of_lt_of_le g4 hb.size⟩
  · rw [e8, h8] at h'; cases h'
theorem PR.made {k7 k8 base : Nat} {W0 wx : World} {xs : List ByteArray} {x y : ByteArray} {L : Nat → Bool} {u : Nat → Value} (h : PR k7 k8 base W0 xs x y L u wx) (h8 : L k8 = false) (hne : k7 ≠ k8) :
    PR k7 k8 base W0 xs x y (St.mark L k7) (St.upd u k7 (.slice (some ⟨wx.heap.size, 0, none⟩) 2 2)) (wx.alloc (.cells #[.string x, .string y] 9)) := by
  have h0 := h.b0 h8
  refine ⟨h.le, fun _ => h0.alloc h0.size _, h.b.alloc (Nat.le_trans h.le h0.size) _, fun _ _ => ?_, fun h' => ?_⟩
  · exact ⟨wx.heap.size, by simp [St.upd], World.cell?_alloc_new wx _ _ 0, World.cell?_alloc_new wx _ _ 1, by simp⟩
  · have : St.mark L k7 k8 = L k8 := by simp [St.mark, hne.symm]
    rw [this, h8] at h'; cases h'
theorem PR.app {k7 k8 base : Nat} {W0 wx : World} {xs : List ByteArray} {x y : ByteArray} {L : Nat → Bool} {u : Nat → Value} (h : PR k7 k8 base W0 xs x y L u wx) (h7 : L k7 = true) (h8 : L k8 = false) {v : Value}
    (hown : W0.ownsRow base 9 1 v xs.length (xs.map Value.string)) (hle : xs.length ≤ 10000) (ty : TypeId) :
    ∃ v' w', (Builtin.append_ #[62, 62] ty #[v, u k7]).run Tryd.prog wx = .ok v' w' ∧ PR k7 k8 base W0 xs x y (St.mark L k8) (St.upd u k8 v') w' := by
  obtain ⟨i0, hi, hz0, hz1, hz2⟩ := info_parts infoStr
  have h0 := h.b0 h8
  have ho := own_below hown h0
  obtain ⟨g, g1, g2, g3, g4⟩ := h.p7 h7 h8
  obtain ⟨v', w', k1, k2, k3, _⟩ := run_append_own (P := Tryd.prog) (w := wx) base 62 ty 9 i0 (.string ⟨#[]⟩) 1 16 Tryd.underlying62 hi hz0 hz1 hz2 rfl (by decide) v xs.length (xs.map Value.string) ho ⟨g, 0, none⟩ 2 2 [.string x, .string y]
    rfl (fun j z hz => by
      match j with
      | 0 => simp at hz; subst hz; exact g2
      | 1 => simp at hz; subst hz; exact g3
      | j + 2 => simp at hz) (fun z hz => by simp at hz; rcases hz with rfl | rfl <;> rfl) (by unfold maxLen; omega) (by omega) (Nat.le_trans h.le h0.size)
  rw [← g1] at k1
  have e8 : St.mark L k8 k8 = true := by simp [St.mark]
  refine ⟨v', w', k1, h.le, fun h' => (by rw [e8] at h'; cases h'), h.b.grown k3 (Nat.le_trans h.le h0.size) (fun k hk => (ho.lt k hk).1), fun _ h' => (by rw [e8] at h'; cases h'), fun _ => ?_⟩
  have : St.upd u k8 v' k8 = v' := by simp [St.upd]
  rw [this]
  simpa using k2

end Go.Proofs.YticikmkehobblaaDoor.Ds

namespace Go.Proofs.YticikmkehobblaaDoor.Ds
open Go.RowKit Bnd
open Go.Proofs.YticikmkehobblaaDoor.M (numT inR tieT intT)

/-- a row of numbers of the call's own -/
abbrev OwnI (w : World) (base : Nat) (v : Value) (ns : List Int) : Prop := w.ownsRow base 2 1 v ns.length (ns.map (Value.int .i64))
theorem infoI : (Tryd.prog.info? 2).map (fun i => (i.zero, i.size, i.bytes)) = some (some (.int .i64 0), 1, 8) := by kernel_rfl
theorem SI.of_own {w : World} {base : Nat} {v : Value} {ns : List Int} (h : OwnI w base v ns) : SI w w.heap.size v ns := by
  rcases h.2 with ⟨rfl, h0⟩ | ⟨g, cap, cur, rfl, _, hh, _⟩
  · have : ns = [] := List.length_eq_zero_iff.1 h0
    subst this
    exact ⟨none, 0, rfl, fun h => absurd h (by simp)⟩
  · refine ⟨_, _, rfl, fun h0 => ⟨g, 0, rfl, ?_, fun i hi => ?_⟩⟩
    · exact (Array.getElem?_eq_some_iff.1 hh).1
    · have := h.cells (g := g) rfl i _ (by rw [List.getElem?_map, List.getElem?_eq_getElem hi]; rfl)
      rw [Addr.add_lit] at this
      exact this
theorem ownI_keep {w w' : World} {base : Nat} {v : Value} {ns : List Int} (h : OwnI w base v ns) (hb : Below w.heap.size w w') : OwnI w' base v ns :=
  h.kept (row := none) ⟨hb.os, hb.tape, hb.output, hb.size, fun k hk _ => hb.block k hk⟩ (Classical.em _)

/-- what numbers hands back -/
def NumsOut (base : Nat) (o : Option (List Int)) (e : Ending) (w' : World) : Prop := match o with
  | some ns => ∃ v, e = .returned (.tuple #[v, .bool true]) ∧ OwnI w' base v ns ∧ v ≠ .slice none 0 0
  | none => e = .returned (.tuple #[.slice none 0 0, .bool false])

theorem intsOf_take {l : List M.Text} {k : Nat} (h : k < l.length) {r : List Int} {n : Int} (hr : intsOf (l.take k) = some r) (hn : intT l[k] = some n) : intsOf (l.take (k + 1)) = some (r ++ [n]) := by
  rw [List.take_succ_eq_append_getElem h, intsOf_snoc, hr, hn]
theorem intsOf_at {l : List M.Text} {k : Nat} (h : k < l.length) (hn : intT l[k] = none) : intsOf l = none := by
  have e : l = l.take k ++ l[k] :: l.drop (k + 1) := by rw [← List.drop_eq_getElem_cons h, List.take_append_drop]
  rw [e]; exact intsOf_bad hn

end Go.Proofs.YticikmkehobblaaDoor.Ds

/-
  How a program holds a message, a packet: their values, boxes that hold one. No condition.
  read: a number out of a text, into a cell. Conditions: texts of at most 2^47 bytes; the library's variables hold what their types allow.
  A SCOPE OUT OF WHICH THE RUN GOES ON AT ONE LABEL FURTHER DOWN, at most once: at each jump what stands behind the label is walked there. No program, no condition.
  Operations that make, write and read a packet's box, in one step each. No condition.
  Operations that make, write and read a message's box, in one step each; results of two. No condition.
-/
import Derived.Test.YtkpakiiijphjeaaGreatDoorPPoA
import Derived.Test.YtkpakiiijphjeaaGreatDoorPOdA
import Derived.Test.YtkpakiiijphjeaaGreatDoorPRoA
import Derived.Test.YtkpakiiijphjeaaGreatDoorPFirstA
import Derived.ScopeJumps
import Derived.ControlIn
import Derived.Tactics2
import Derived.WalkMore
import Derived.Test.YtkpakiiijphjeaaGreatDoorPOrdA
import Derived.Test.YtkpakiiijphjeaaGreatDoorPOdOFA
namespace Go.Proofs.YtkpakiiijphjeaaGreatDoor.Po
open Go.RowKit
open Go.Proofs.YtkpakiiijphjeaaGreatDoor.Od (Rep av rv SP ArgP OwnP)
open Go.Proofs.YtkpakiiijphjeaaGreatDoor.Ro (En SE ArgE OwnE)
structure Wh where
  m : Wr
  s : Value
abbrev wv (m : Wr) (s : Value) : Value := .agg #[.int .i64 m.kind, .int .i64 m.frm, .int .i64 m.til, .int .i64 m.term, .int .i64 m.index, .int .i64 m.lterm, .int .i64 m.commit, .int .i64 m.hint, .bool m.reject, s, .string m.text]
structure Kh where
  k : Pk
  ws : Value
  rs : Value
abbrev kv (o : Kh) : Value := .agg #[.int .i64 o.k.kind, .int .i64 o.k.frm, .int .i64 o.k.til, .int .i64 o.k.range, .int .i64 o.k.wire.kind, .int .i64 o.k.wire.frm, .int .i64 o.k.wire.til, .int .i64 o.k.wire.term, .int .i64 o.k.wire.index, .int .i64 o.k.wire.lterm, .int .i64 o.k.wire.commit, .int .i64 o.k.wire.hint, .bool o.k.wire.reject, o.ws, .string o.k.wire.text, .int .i64 o.k.id, .int .i64 o.k.next, .int .i64 o.k.ord.kind, .int .i64 o.k.ord.client, .int .i64 o.k.ord.seq, .string o.k.ord.key, .string o.k.ord.til, .string o.k.ord.val, .string o.k.ord.old, .bool o.k.ord.has, .int .i64 o.k.ord.lim, .int .i64 o.k.ord.id, .int .i64 o.k.ord.node, .int .i64 o.k.client, .int .i64 o.k.seq, .int .i64 o.k.status, .int .i64 o.k.hint, .int .i64 o.k.rep.code, .int .i64 o.k.rep.err, .bool o.k.rep.has, .string o.k.rep.val, o.rs]
abbrev nilS : Value := .slice none 0 0
abbrev Wh.zero : Wh := ⟨Wr.zero, nilS⟩
abbrev Kh.zero : Kh := ⟨Pk.zero, nilS, nilS⟩
structure HK (w : World) (N : Nat) (o : Kh) : Prop where
  es : SE w N o.ws o.k.wire.es
  ps : SP w N o.rs o.k.rep.ps
theorem HK.below {w w' : World} {N : Nat} {o : Kh} (h : HK w N o) (hb : Below N w w') : HK w' N o := ⟨h.es.below hb, h.ps.below hb⟩
theorem HK.more {w : World} {N N' : Nat} {o : Kh} (h : HK w N o) (hB : N ≤ N') : HK w N' o := ⟨h.es.more hB, h.ps.more hB⟩
theorem HK.keep {w w' : World} {o : Kh} (h : HK w w.heap.size o) (hb : Below w.heap.size w w') : HK w' w'.heap.size o := (h.below hb).more hb.size
theorem HK.form {w : World} {N : Nat} {o : Kh} (h : HK w N o) : ∃ A a B b, o.ws = .slice A o.k.wire.es.length a ∧ o.rs = .slice B o.k.rep.ps.length b := by
  obtain ⟨A, a, h1⟩ := h.es.form
  obtain ⟨B, b, h2⟩ := h.ps.form
  exact ⟨A, a, B, b, h1, h2⟩
theorem HK.zero (w : World) (N : Nat) : HK w N Kh.zero := ⟨SE.nil _ _, SP.nil _ _⟩
theorem run_cells {P : Program} {w : World} {b : Nat} : ∀ (l : List Value) (i : Nat) (acc : Array Value), (∀ j (h : j < l.length), w.cell? ⟨b, i + j, none⟩ = some l[j]) → (loadCellsFrom ⟨b, 0, none⟩ i l.length acc).run P w = .ok (acc ++ l.toArray) w := by
  intro l
  induction l with
  | nil => intro i acc _; simp [loadCellsFrom, go_sem]
  | cons v l ih =>
    intro i acc h
    have h0 := h 0 (by simp)
    have h2 := ih (i + 1) (acc.push v) (fun j hj => by have := h (j + 1) (by simp; omega); rw [Nat.add_right_comm, Nat.add_assoc]; simpa using this)
    have e : (Addr.add ⟨b, 0, none⟩ i) = ⟨b, i, none⟩ := by rw [Addr.add_lit, Nat.zero_add]
    rw [List.length_cons, loadCellsFrom]
    simp only [List.getElem_cons_zero, Nat.add_zero] at h0
    simp [go_sem, e, h0, h2]
def putL (w : World) (n : Nat) : Nat → List Value → World
  | _, [] => w
  | i, v :: vs => putL (w.setCell ⟨n, i, none⟩ v) n (i + 1) vs
theorem heap_set {w : World} {n i : Nat} {l : List Value} {T : TypeId} (h : w.heap[n]? = some (.cells l.toArray T (0, 0))) (v : Value) : (w.setCell ⟨n, i, none⟩ v).heap[n]? = some (.cells (l.set i v).toArray T (0, 0)) := by
  simp only [World.setCell, Array.getElem?_modify]
  rw [if_pos trivial, h]
  simp
theorem putL_below {N n : Nat} {w0 : World} : ∀ {l : List Value} {i : Nat} {w1 : World}, Below N w0 w1 → N ≤ n → Below N w0 (putL w1 n i l)
  | [], _, _, h, _ => h
  | v :: l, i, _, h, hn => putL_below (l := l) (i := i + 1) (h.setCell (p := ⟨n, i, none⟩) hn v) hn
theorem putL_heap {w : World} {n : Nat} {T : TypeId} : ∀ (vs l : List Value) (i : Nat), w.heap[n]? = some (.cells l.toArray T (0, 0)) → l.length = i + vs.length → (putL w n i vs).heap[n]? = some (.cells (l.take i ++ vs).toArray T (0, 0)) := by
  intro vs
  induction vs generalizing w with
  | nil => intro l i h hl; rw [putL, List.append_nil, List.take_of_length_le (by simp at hl; omega)]; exact h
  | cons v vs ih =>
    intro l i h hl
    rw [List.length_cons] at hl
    have h2 := ih (w := w.setCell ⟨n, i, none⟩ v) (l.set i v) (i + 1) (heap_set h v) (by rw [List.length_set]; omega)
    rw [putL, h2]
    congr 2
    rw [List.take_succ_eq_append_getElem (by rw [List.length_set]; omega), List.getElem_set_self, List.take_set_of_le (Nat.le_refl _), List.append_assoc]
    rfl
theorem run_storeL {P : Program} {n : Nat} {T : TypeId} : ∀ (vs l : List Value) (i : Nat) (w : World), w.heap[n]? = some (.cells l.toArray T (0, 0)) → i + vs.length ≤ l.length → (∀ v ∈ vs, v.oneCell' = true) → (storeCells ⟨n, 0, none⟩ vs i).run P w = .ok () (putL w n i vs)
  | [], _, _, _, _, _, _ => rfl
  | v :: vs, l, i, w, h, hl, h1 => by
    rw [List.length_cons] at hl
    have hi : i < l.length := by omega
    have hc : w.cell? ⟨n, i, none⟩ = some l[i] := by simp [World.cell?, h, hi]
    have hf : w.frozen? ⟨n, i, none⟩ = false := by simp [World.frozen?, h]
    have ih := run_storeL (P := P) vs (l.set i v) (i + 1) (w.setCell ⟨n, i, none⟩ v) (heap_set h v) (by rw [List.length_set]; omega) (fun x hx => h1 x (by simp [hx]))
    rw [storeCells, Sem.run_bind, Addr.add_lit, Nat.zero_add, run_store P w _ v _ (h1 v (by simp)), hc, hf]
    exact ih
def arrBoxW (o : Wh) : Array Value := #[.int .i64 o.m.kind, .int .i64 o.m.frm, .int .i64 o.m.til, .int .i64 o.m.term, .int .i64 o.m.index, .int .i64 o.m.lterm, .int .i64 o.m.commit, .int .i64 o.m.hint, .bool o.m.reject, o.s, .string o.m.text]
def BoxW (n : Nat) (o : Wh) (w : World) : Prop := w.heap[n]? = some (.cells (arrBoxW o) 24 (0, 0))
theorem BoxW.lt {n : Nat} {o : Wh} {w : World} (h : BoxW n o w) : n < w.heap.size := (Array.getElem?_eq_some_iff.1 h).1
theorem BoxW.below {n N : Nat} {o : Wh} {w w' : World} (h : BoxW n o w) (hn : n < N) (hb : Below N w w') : BoxW n o w' := (hb.block n hn).trans h
theorem BoxW.keep {n : Nat} {o : Wh} {w w' : World} (h : BoxW n o w) (hb : Below w.heap.size w w') : BoxW n o w' := h.below h.lt hb
theorem BoxW.new (w : World) (o : Wh) : BoxW w.heap.size o (w.alloc (.cells #[.int .i64 o.m.kind, .int .i64 o.m.frm, .int .i64 o.m.til, .int .i64 o.m.term, .int .i64 o.m.index, .int .i64 o.m.lterm, .int .i64 o.m.commit, .int .i64 o.m.hint, .bool o.m.reject, o.s, .string o.m.text] 24)) := heap_alloc_new w _
theorem BoxW.drew {n : Nat} {o : Wh} {w1 : World} (h : BoxW n o w1) : BoxW n o w1.drew := h
theorem BoxW.other {n : Nat} {o : Wh} {w1 : World} (h : BoxW n o w1) {a : Addr} (ha : a.block ≠ n) (u : Value) : BoxW n o (w1.setCell a u) := (Below.heap_setCell w1 a u n (Ne.symm ha)).trans h
theorem BoxW.cell {n : Nat} {o : Wh} {w : World} (h : BoxW n o w) (i : Nat) : w.cell? ⟨n, i, none⟩ = (arrBoxW o)[i]? := by
  unfold BoxW at h
  simp [World.cell?, h]
theorem BoxW.cells {n : Nat} {o : Wh} {w : World} (h : BoxW n o w) : w.cell? ⟨n, 0, none⟩ = some (.int .i64 o.m.kind) ∧ w.cell? ⟨n, 1, none⟩ = some (.int .i64 o.m.frm) ∧ w.cell? ⟨n, 2, none⟩ = some (.int .i64 o.m.til) ∧ w.cell? ⟨n, 3, none⟩ = some (.int .i64 o.m.term) ∧ w.cell? ⟨n, 4, none⟩ = some (.int .i64 o.m.index) ∧ w.cell? ⟨n, 5, none⟩ = some (.int .i64 o.m.lterm) ∧ w.cell? ⟨n, 6, none⟩ = some (.int .i64 o.m.commit) ∧ w.cell? ⟨n, 7, none⟩ = some (.int .i64 o.m.hint) ∧ w.cell? ⟨n, 8, none⟩ = some (.bool o.m.reject) ∧ w.cell? ⟨n, 9, none⟩ = some (o.s) ∧ w.cell? ⟨n, 10, none⟩ = some (.string o.m.text) := ⟨h.cell 0, h.cell 1, h.cell 2, h.cell 3, h.cell 4, h.cell 5, h.cell 6, h.cell 7, h.cell 8, h.cell 9, h.cell 10⟩
theorem BoxW.frozen {n : Nat} {o : Wh} {w : World} (h : BoxW n o w) (i : Nat) : w.frozen? ⟨n, i, none⟩ = false := by
  unfold BoxW at h
  simp [World.frozen?, h]
abbrev cellsToW (w1 : World) (n : Nat) (o : Wh) : World := World.setCell (World.setCell (World.setCell (World.setCell (World.setCell (World.setCell (World.setCell (World.setCell (World.setCell (World.setCell (World.setCell w1 ⟨n, 0, none⟩ (.int .i64 o.m.kind)) ⟨n, 1, none⟩ (.int .i64 o.m.frm)) ⟨n, 2, none⟩ (.int .i64 o.m.til)) ⟨n, 3, none⟩ (.int .i64 o.m.term)) ⟨n, 4, none⟩ (.int .i64 o.m.index)) ⟨n, 5, none⟩ (.int .i64 o.m.lterm)) ⟨n, 6, none⟩ (.int .i64 o.m.commit)) ⟨n, 7, none⟩ (.int .i64 o.m.hint)) ⟨n, 8, none⟩ (.bool o.m.reject)) ⟨n, 9, none⟩ (o.s)) ⟨n, 10, none⟩ (.string o.m.text)
theorem BoxW.put {n : Nat} {o0 : Wh} {w1 : World} (h : BoxW n o0 w1) (o : Wh) : BoxW n o (cellsToW w1 n o) := by
  have := putL_heap (w := w1) (n := n) (T := 24) [.int .i64 o.m.kind, .int .i64 o.m.frm, .int .i64 o.m.til, .int .i64 o.m.term, .int .i64 o.m.index, .int .i64 o.m.lterm, .int .i64 o.m.commit, .int .i64 o.m.hint, .bool o.m.reject, o.s, .string o.m.text] (arrBoxW o0).toList 0 (by rw [Array.toArray_toList]; exact h) (by simp [arrBoxW])
  exact this
theorem BoxW.put' {n : Nat} {o0 : Wh} {w1 : World} (h : BoxW n o0 w1) (o : Wh) : BoxW n o (putL w1 n 0 (arrBoxW o).toList) := h.put o
theorem wpList_storeW {ops : Array Oper} {rest : List Oper} {op : Oper} {a : Act} {w : World} {Q : Exit → Act → World → Prop} {n : Nat} {o0 o : Wh} {p x : Operand} (hw : Region.wanted op (yielded ops a.tmps) = true) (ho : op.op = .store 24 p x)
    (hp : a.eval p = .pointer (some ⟨n, 0, none⟩)) (hx : a.eval x = wv o.m o.s) (h : BoxW n o0 w) (h1 : ∀ v ∈ (arrBoxW o).toList, v.oneCell' = true) (hk : wpList Tryz.prog ops Q rest (a.put op.dst undef) (putL w n 0 (arrBoxW o).toList)) : wpList Tryz.prog ops Q (op :: rest) a w := by
  have h2 := Tryz.sizeOf24
  have hr : (execOp a.eval op).run Tryz.prog w = .ok .skip (putL w n 0 (arrBoxW o).toList) := by
    have h3 := run_storeL (P := Tryz.prog) (arrBoxW o).toList (arrBoxW o0).toList 0 w (by rw [Array.toArray_toList]; exact h) (by simp [arrBoxW]) h1
    have h4 : (storeVar 24 ⟨n, 0, none⟩ (wv o.m o.s)).run Tryz.prog w = .ok () (putL w n 0 (arrBoxW o).toList) := by
      unfold storeVar
      rw [Sem.run_bind, h2]
      exact h3
    have h5 : (Instr.storeAt 24 (.pointer (some ⟨n, 0, none⟩)) (wv o.m o.s)).run Tryz.prog w = .ok () (putL w n 0 (arrBoxW o).toList) := h4
    unfold execOp
    rw [ho]
    simp only [hp, hx]
    rw [show ∀ (m : Sem Unit), (do m; pure Next.skip : Sem Next) = (m >>= fun _ => pure Next.skip) from fun m => rfl] <;> first | (rw [Sem.run_bind, h5]; rfl) | skip
  refine wpList_step fun K hK => ?_
  rw [if_pos hw]
  unfold Oper.wp
  rw [hr]
  exact hK _ _ hk
theorem res_BoxW {fn : Func} {a : Tmp} {tmps : Array Value} {n : Nat} {o : Wh} {w1 : World} (hf : fn.results = #[.cell a 24]) (ht : tmps[a]?.getD undef = .pointer (some ⟨n, 0, none⟩)) (h : BoxW n o w1) : (results fn tmps).run Tryz.prog w1 = .ok (wv o.m o.s) w1 := by
  have h1 := Tryz.isAgg24
  have h2 := Tryz.sizeOf24
  have h3 : (loadCells ⟨n, 0, none⟩ 11).run Tryz.prog w1 = .ok (arrBoxW o) w1 := by
    have := run_cells (P := Tryz.prog) (w := w1) (b := n) (arrBoxW o).toList 0 #[] (fun j hj => by rw [Nat.zero_add, h.cell]; simp)
    simpa [loadCells, arrBoxW] using this
  have h4 : (loadVar 24 ⟨n, 0, none⟩).run Tryz.prog w1 = .ok (wv o.m o.s) w1 := by
    unfold loadVar
    rw [Sem.run_bind, h1]
    simp only [Result.andThen]
    rw [if_pos trivial, Sem.run_bind, h2]
    simp only [Result.andThen]
    rw [Sem.run_bind, h3]
    rfl
  simp [results, hf, asAddr, ht, h4]
theorem oneW (o : Wh) (h0 : o.s.oneCell' = true) : ∀ v ∈ (arrBoxW o).toList, v.oneCell' = true := by
  intro v hv
  simp only [arrBoxW, List.mem_cons, List.not_mem_nil, or_false] at hv
  rcases hv with rfl | rfl | rfl | rfl | rfl | rfl | rfl | rfl | rfl | rfl | rfl <;> first | rfl | assumption
def arrBoxK (o : Kh) : Array Value := #[.int .i64 o.k.kind, .int .i64 o.k.frm, .int .i64 o.k.til, .int .i64 o.k.range, .int .i64 o.k.wire.kind, .int .i64 o.k.wire.frm, .int .i64 o.k.wire.til, .int .i64 o.k.wire.term, .int .i64 o.k.wire.index, .int .i64 o.k.wire.lterm, .int .i64 o.k.wire.commit, .int .i64 o.k.wire.hint, .bool o.k.wire.reject, o.ws, .string o.k.wire.text, .int .i64 o.k.id, .int .i64 o.k.next, .int .i64 o.k.ord.kind, .int .i64 o.k.ord.client, .int .i64 o.k.ord.seq, .string o.k.ord.key, .string o.k.ord.til, .string o.k.ord.val, .string o.k.ord.old, .bool o.k.ord.has, .int .i64 o.k.ord.lim, .int .i64 o.k.ord.id, .int .i64 o.k.ord.node, .int .i64 o.k.client, .int .i64 o.k.seq, .int .i64 o.k.status, .int .i64 o.k.hint, .int .i64 o.k.rep.code, .int .i64 o.k.rep.err, .bool o.k.rep.has, .string o.k.rep.val, o.rs]
def BoxK (n : Nat) (o : Kh) (w : World) : Prop := w.heap[n]? = some (.cells (arrBoxK o) 32 (0, 0))
theorem BoxK.lt {n : Nat} {o : Kh} {w : World} (h : BoxK n o w) : n < w.heap.size := (Array.getElem?_eq_some_iff.1 h).1
theorem BoxK.below {n N : Nat} {o : Kh} {w w' : World} (h : BoxK n o w) (hn : n < N) (hb : Below N w w') : BoxK n o w' := (hb.block n hn).trans h
theorem BoxK.keep {n : Nat} {o : Kh} {w w' : World} (h : BoxK n o w) (hb : Below w.heap.size w w') : BoxK n o w' := h.below h.lt hb
theorem BoxK.new (w : World) (o : Kh) : BoxK w.heap.size o (w.alloc (.cells #[.int .i64 o.k.kind, .int .i64 o.k.frm, .int .i64 o.k.til, .int .i64 o.k.range, .int .i64 o.k.wire.kind, .int .i64 o.k.wire.frm, .int .i64 o.k.wire.til, .int .i64 o.k.wire.term, .int .i64 o.k.wire.index, .int .i64 o.k.wire.lterm, .int .i64 o.k.wire.commit, .int .i64 o.k.wire.hint, .bool o.k.wire.reject, o.ws, .string o.k.wire.text, .int .i64 o.k.id, .int .i64 o.k.next, .int .i64 o.k.ord.kind, .int .i64 o.k.ord.client, .int .i64 o.k.ord.seq, .string o.k.ord.key, .string o.k.ord.til, .string o.k.ord.val, .string o.k.ord.old, .bool o.k.ord.has, .int .i64 o.k.ord.lim, .int .i64 o.k.ord.id, .int .i64 o.k.ord.node, .int .i64 o.k.client, .int .i64 o.k.seq, .int .i64 o.k.status, .int .i64 o.k.hint, .int .i64 o.k.rep.code, .int .i64 o.k.rep.err, .bool o.k.rep.has, .string o.k.rep.val, o.rs] 32)) := heap_alloc_new w _
theorem BoxK.drew {n : Nat} {o : Kh} {w1 : World} (h : BoxK n o w1) : BoxK n o w1.drew := h
theorem BoxK.other {n : Nat} {o : Kh} {w1 : World} (h : BoxK n o w1) {a : Addr} (ha : a.block ≠ n) (u : Value) : BoxK n o (w1.setCell a u) := (Below.heap_setCell w1 a u n (Ne.symm ha)).trans h
theorem BoxK.cell {n : Nat} {o : Kh} {w : World} (h : BoxK n o w) (i : Nat) : w.cell? ⟨n, i, none⟩ = (arrBoxK o)[i]? := by
  unfold BoxK at h
  simp [World.cell?, h]
theorem BoxK.cells {n : Nat} {o : Kh} {w : World} (h : BoxK n o w) : w.cell? ⟨n, 0, none⟩ = some (.int .i64 o.k.kind) ∧ w.cell? ⟨n, 1, none⟩ = some (.int .i64 o.k.frm) ∧ w.cell? ⟨n, 2, none⟩ = some (.int .i64 o.k.til) ∧ w.cell? ⟨n, 3, none⟩ = some (.int .i64 o.k.range) ∧ w.cell? ⟨n, 4, none⟩ = some (.int .i64 o.k.wire.kind) ∧ w.cell? ⟨n, 5, none⟩ = some (.int .i64 o.k.wire.frm) ∧ w.cell? ⟨n, 6, none⟩ = some (.int .i64 o.k.wire.til) ∧ w.cell? ⟨n, 7, none⟩ = some (.int .i64 o.k.wire.term) ∧ w.cell? ⟨n, 8, none⟩ = some (.int .i64 o.k.wire.index) ∧ w.cell? ⟨n, 9, none⟩ = some (.int .i64 o.k.wire.lterm) ∧ w.cell? ⟨n, 10, none⟩ = some (.int .i64 o.k.wire.commit) ∧ w.cell? ⟨n, 11, none⟩ = some (.int .i64 o.k.wire.hint) ∧ w.cell? ⟨n, 12, none⟩ = some (.bool o.k.wire.reject) ∧ w.cell? ⟨n, 13, none⟩ = some (o.ws) ∧ w.cell? ⟨n, 14, none⟩ = some (.string o.k.wire.text) ∧ w.cell? ⟨n, 15, none⟩ = some (.int .i64 o.k.id) ∧ w.cell? ⟨n, 16, none⟩ = some (.int .i64 o.k.next) ∧ w.cell? ⟨n, 17, none⟩ = some (.int .i64 o.k.ord.kind) ∧ w.cell? ⟨n, 18, none⟩ = some (.int .i64 o.k.ord.client) ∧ w.cell? ⟨n, 19, none⟩ = some (.int .i64 o.k.ord.seq) ∧ w.cell? ⟨n, 20, none⟩ = some (.string o.k.ord.key) ∧ w.cell? ⟨n, 21, none⟩ = some (.string o.k.ord.til) ∧ w.cell? ⟨n, 22, none⟩ = some (.string o.k.ord.val) ∧ w.cell? ⟨n, 23, none⟩ = some (.string o.k.ord.old) ∧ w.cell? ⟨n, 24, none⟩ = some (.bool o.k.ord.has) ∧ w.cell? ⟨n, 25, none⟩ = some (.int .i64 o.k.ord.lim) ∧ w.cell? ⟨n, 26, none⟩ = some (.int .i64 o.k.ord.id) ∧ w.cell? ⟨n, 27, none⟩ = some (.int .i64 o.k.ord.node) ∧ w.cell? ⟨n, 28, none⟩ = some (.int .i64 o.k.client) ∧ w.cell? ⟨n, 29, none⟩ = some (.int .i64 o.k.seq) ∧ w.cell? ⟨n, 30, none⟩ = some (.int .i64 o.k.status) ∧ w.cell? ⟨n, 31, none⟩ = some (.int .i64 o.k.hint) ∧ w.cell? ⟨n, 32, none⟩ = some (.int .i64 o.k.rep.code) ∧ w.cell? ⟨n, 33, none⟩ = some (.int .i64 o.k.rep.err) ∧ w.cell? ⟨n, 34, none⟩ = some (.bool o.k.rep.has) ∧ w.cell? ⟨n, 35, none⟩ = some (.string o.k.rep.val) ∧ w.cell? ⟨n, 36, none⟩ = some (o.rs) := ⟨h.cell 0, h.cell 1, h.cell 2, h.cell 3, h.cell 4, h.cell 5, h.cell 6, h.cell 7, h.cell 8, h.cell 9, h.cell 10, h.cell 11, h.cell 12, h.cell 13, h.cell 14, h.cell 15, h.cell 16, h.cell 17, h.cell 18, h.cell 19, h.cell 20, h.cell 21, h.cell 22, h.cell 23, h.cell 24, h.cell 25, h.cell 26, h.cell 27, h.cell 28, h.cell 29, h.cell 30, h.cell 31, h.cell 32, h.cell 33, h.cell 34, h.cell 35, h.cell 36⟩
theorem BoxK.frozen {n : Nat} {o : Kh} {w : World} (h : BoxK n o w) (i : Nat) : w.frozen? ⟨n, i, none⟩ = false := by
  unfold BoxK at h
  simp [World.frozen?, h]
theorem BoxK.put' {n : Nat} {o0 : Kh} {w1 : World} (h : BoxK n o0 w1) (o : Kh) : BoxK n o (putL w1 n 0 (arrBoxK o).toList) := by
  have := putL_heap (w := w1) (n := n) (T := 32) (arrBoxK o).toList (arrBoxK o0).toList 0 (by rw [Array.toArray_toList]; exact h) (by simp [arrBoxK])
  rw [List.take_zero, List.nil_append, Array.toArray_toList] at this
  exact this
theorem wpList_storeK {ops : Array Oper} {rest : List Oper} {op : Oper} {a : Act} {w : World} {Q : Exit → Act → World → Prop} {n : Nat} {o0 o : Kh} {p x : Operand} (hw : Region.wanted op (yielded ops a.tmps) = true) (ho : op.op = .store 32 p x)
    (hp : a.eval p = .pointer (some ⟨n, 0, none⟩)) (hx : a.eval x = kv o) (h : BoxK n o0 w) (h1 : ∀ v ∈ (arrBoxK o).toList, v.oneCell' = true) (hk : wpList Tryz.prog ops Q rest (a.put op.dst undef) (putL w n 0 (arrBoxK o).toList)) : wpList Tryz.prog ops Q (op :: rest) a w := by
  have h2 := Tryz.sizeOf32
  have hr : (execOp a.eval op).run Tryz.prog w = .ok .skip (putL w n 0 (arrBoxK o).toList) := by
    have h3 := run_storeL (P := Tryz.prog) (arrBoxK o).toList (arrBoxK o0).toList 0 w (by rw [Array.toArray_toList]; exact h) (by simp [arrBoxK]) h1
    have h4 : (storeVar 32 ⟨n, 0, none⟩ (kv o)).run Tryz.prog w = .ok () (putL w n 0 (arrBoxK o).toList) := by
      unfold storeVar
      rw [Sem.run_bind, h2]
      exact h3
    have h5 : (Instr.storeAt 32 (.pointer (some ⟨n, 0, none⟩)) (kv o)).run Tryz.prog w = .ok () (putL w n 0 (arrBoxK o).toList) := h4
    unfold execOp
    rw [ho]
    simp only [hp, hx]
    rw [show ∀ (m : Sem Unit), (do m; pure Next.skip : Sem Next) = (m >>= fun _ => pure Next.skip) from fun m => rfl] <;> first | (rw [Sem.run_bind, h5]; rfl) | skip
  refine wpList_step fun K hK => ?_
  rw [if_pos hw]
  unfold Oper.wp
  rw [hr]
  exact hK _ _ hk
theorem res_BoxK {fn : Func} {a : Tmp} {tmps : Array Value} {n : Nat} {o : Kh} {w1 : World} (hf : fn.results = #[.cell a 32]) (ht : tmps[a]?.getD undef = .pointer (some ⟨n, 0, none⟩)) (h : BoxK n o w1) : (results fn tmps).run Tryz.prog w1 = .ok (kv o) w1 := by
  have h1 := Tryz.isAgg32
  have h2 := Tryz.sizeOf32
  have h3 : (loadCells ⟨n, 0, none⟩ 37).run Tryz.prog w1 = .ok (arrBoxK o) w1 := by
    have := run_cells (P := Tryz.prog) (w := w1) (b := n) (arrBoxK o).toList 0 #[] (fun j hj => by rw [Nat.zero_add, h.cell]; simp)
    simpa [loadCells, arrBoxK] using this
  have h4 : (loadVar 32 ⟨n, 0, none⟩).run Tryz.prog w1 = .ok (kv o) w1 := by
    unfold loadVar
    rw [Sem.run_bind, h1]
    simp only [Result.andThen]
    rw [if_pos trivial, Sem.run_bind, h2]
    simp only [Result.andThen]
    rw [Sem.run_bind, h3]
    rfl
  simp [results, hf, asAddr, ht, h4]
theorem oneK (o : Kh) (h0 : o.ws.oneCell' = true) (h1 : o.rs.oneCell' = true) : ∀ v ∈ (arrBoxK o).toList, v.oneCell' = true := by
  intro v hv
  simp only [arrBoxK, List.mem_cons, List.not_mem_nil, or_false] at hv
  rcases hv with rfl | rfl | rfl | rfl | rfl | rfl | rfl | rfl | rfl | rfl | rfl | rfl | rfl | rfl | rfl | rfl | rfl | rfl | rfl | rfl | rfl | rfl | rfl | rfl | rfl | rfl | rfl | rfl | rfl | rfl | rfl | rfl | rfl | rfl | rfl | rfl | rfl <;> first | rfl | assumption
end Go.Proofs.YtkpakiiijphjeaaGreatDoor.Po

namespace Go.Proofs.YtkpakiiijphjeaaGreatDoor.Po
open Go.RowKit
open Go.Proofs.YtkpakiiijphjeaaGreatDoor.M (intT inR intT_spec)
def ReadOut (b k : Nat) (w : World) (o : Option Int) (e : Ending) (w' : World) : Prop := e = .returned (.bool o.isSome) ∧ ∃ wy, Below w.heap.size w wy ∧ w' = wy.setCell ⟨b, k, none⟩ (.int .i64 (o.getD 0))
set_option maxHeartbeats 4000000 in
theorem readI_any (b k : Nat) (old : Int) (s : ByteArray) (w : World) (hs : s.size ≤ 140737488355328) (hg : Good w) (hc : w.cell? ⟨b, k, none⟩ = some (.int .i64 old)) (hf : w.frozen? ⟨b, k, none⟩ = false) (hb : b < w.heap.size) :
    Calls Tryz.prog 45 #[.pointer (some ⟨b, k, none⟩), .string s] w fun e w' => ReadOut b k w (intT s.data.toList) e w' := by
  have ci := int_any s w hs hg
  cases hi : intT s.data.toList with
  | none =>
    rw [hi] at ci
    unfold intR at ci
    simp only [] at ci
    clear hi
    go_enter Tryz.func45, Tryz.ntmps45
    go_wp2_with fail
    refine ci.mono ?_
    rintro e w1 ⟨rfl, b1⟩
    have c1 := (b1.cell (p := ⟨b, k, none⟩) hb).trans hc
    have f1 := (b1.frozen (p := ⟨b, k, none⟩) hb).trans hf
    go_wp2_with fail
    go_ret
    exact ⟨rfl, w1, b1, rfl⟩
  | some n =>
    rw [hi] at ci
    have hn := (intT_spec hi).1
    unfold inR at hn
    unfold intR at ci
    simp only [] at ci
    have j1 : IntKind.i64.wrap n = n := by rw [IntKind.wrap_i64] <;> omega
    clear hi hn
    go_enter Tryz.func45, Tryz.ntmps45
    go_wp2_with fail
    refine ci.mono ?_
    rintro e w1 ⟨rfl, b1⟩
    have c1 := (b1.cell (p := ⟨b, k, none⟩) hb).trans hc
    have f1 := (b1.frozen (p := ⟨b, k, none⟩) hb).trans hf
    go_wp2_with fail
    go_ret
    exact ⟨by first | rfl | simp, w1, b1, rfl⟩
set_option maxHeartbeats 4000000 in
theorem readL_any (b k : Nat) (old : Int) (s : ByteArray) (w : World) (hs : s.size ≤ 140737488355328) (hg : Good w) (hc : w.cell? ⟨b, k, none⟩ = some (.int .i64 old)) (hf : w.frozen? ⟨b, k, none⟩ = false) (hb : b < w.heap.size) :
    Calls Tryz.prog 46 #[.pointer (some ⟨b, k, none⟩), .string s] w fun e w' => ReadOut b k w (intT s.data.toList) e w' := by
  have ci := int_any s w hs hg
  cases hi : intT s.data.toList with
  | none =>
    rw [hi] at ci
    unfold intR at ci
    simp only [] at ci
    clear hi
    go_enter Tryz.func46, Tryz.ntmps46
    go_wp2_with fail
    refine ci.mono ?_
    rintro e w1 ⟨rfl, b1⟩
    have c1 := (b1.cell (p := ⟨b, k, none⟩) hb).trans hc
    have f1 := (b1.frozen (p := ⟨b, k, none⟩) hb).trans hf
    go_wp2_with fail
    go_ret
    exact ⟨rfl, w1, b1, rfl⟩
  | some n =>
    rw [hi] at ci
    have hn := (intT_spec hi).1
    unfold inR at hn
    unfold intR at ci
    simp only [] at ci
    have j1 : IntKind.i64.wrap n = n := by rw [IntKind.wrap_i64] <;> omega
    clear hi hn
    go_enter Tryz.func46, Tryz.ntmps46
    go_wp2_with fail
    refine ci.mono ?_
    rintro e w1 ⟨rfl, b1⟩
    have c1 := (b1.cell (p := ⟨b, k, none⟩) hb).trans hc
    have f1 := (b1.frozen (p := ⟨b, k, none⟩) hb).trans hf
    go_wp2_with fail
    go_ret
    exact ⟨by first | rfl | simp, w1, b1, rfl⟩
end Go.Proofs.YtkpakiiijphjeaaGreatDoor.Po

namespace Go.Proofs.YtkpakiiijphjeaaGreatDoor.Po
open Go
theorem jump_weak {l : Nat} {P : Program} {rest : Code} {Q : Exit → Act → World → Prop} {a : Act} {w : World} {J : Act → World → Prop} (h : rest.wp P (Exit.noGoto Q) a w) : rest.wp P (Exit.jump l J Q) a w :=
  wp_mono h fun e a w h => by
    cases e with
    | goto l' => exact h.elim
    | _ => exact h
theorem wp_scope_fwd {P : Program} {Q : Exit → Act → World → Prop} {a : Act} {w : World} {c rest : Code} (l : Nat) (hf : findLabel c l = some rest)
    (first : c.wp P (Exit.jump l (fun a w => rest.wp P (Exit.noGoto Q) a w) Q) a w) : (Code.scope c).wp P Q a w :=
  wp_scope_jumps l (fun a w => rest.wp P (Exit.noGoto Q) a w) (fun _ _ => 0) hf first fun _ _ h => jump_weak h
theorem wpIn_scope_fwd {n : Nat} {P : Program} {Q : Exit → Act → World → Prop} {a : Act} {w : World} {c rest : Code} (l : Nat) (hf : findLabel c l = some rest)
    (first : c.wpIn Fence.wide n P (Exit.jump l (fun a w => rest.wpIn Fence.wide n P (Exit.noGoto Q) a w) Q) a w) : (Code.scope c).wpIn Fence.wide n P Q a w := by
  rw [wpIn_wide] at first ⊢
  refine wp_scope_fwd l hf (wp_mono first fun e a w h => ?_)
  cases e with
  | goto l' => exact ⟨h.1, wpIn_wide.1 h.2⟩
  | _ => exact h
end Go.Proofs.YtkpakiiijphjeaaGreatDoor.Po

namespace Go.Proofs.YtkpakiiijphjeaaGreatDoor.Po
open Go.RowKit
open Go.Proofs.YtkpakiiijphjeaaGreatDoor.Od (Rep SP)
open Go.Proofs.YtkpakiiijphjeaaGreatDoor.Ro (En SE)
attribute [local go_sem] Oper.semAt_some
theorem wpList_boxK {ops : Array Oper} {rest : List Oper} {op : Oper} {a : Act} {w : World} {Q : Exit → Act → World → Prop} {o : Kh} {x : Operand} (hw : Region.wanted op (yielded ops a.tmps) = true) (ho : op.op = .box 32 x) (hx : a.eval x = kv o)
    (hk : ∀ W, BoxK w.heap.size o W → Below w.heap.size w W → W.heap.size = w.heap.size + 1 → wpList Tryz.prog ops Q rest (a.put op.dst (.pointer (some ⟨w.heap.size, 0, none⟩))) W) : wpList Tryz.prog ops Q (op :: rest) a w := by
  have hr : (execOp a.eval op).run Tryz.prog w = .ok (.value (.pointer (some ⟨w.heap.size, 0, none⟩))) (w.alloc (.cells (arrBoxK o) 32)) := by
    unfold execOp
    rw [ho]
    simp only [hx]
    obtain ⟨⟨kk, kf, kt, kr, ⟨mk, mf, mt, mm, mi, ml, mc, mh, mr, mes, mx⟩, ki, kn, ⟨o1, o2, o3, o4, o5, o6, o7, o8, o9, o10, o11⟩, kc, kq, ks, kh, ⟨p1, p2, p3, p4, p5⟩⟩, ws, rs⟩ := o
    simp [go_sem, arrBoxK]
  refine wpList_step fun K hK => ?_
  rw [if_pos hw]
  unfold Oper.wp
  rw [hr]
  exact hK _ _ (hk _ (heap_alloc_new w _) ((Below.refl _ w).alloc (Nat.le_refl _) _) (by simp))
theorem wpList_newK {ops : Array Oper} {rest : List Oper} {op : Oper} {a : Act} {w : World} {Q : Exit → Act → World → Prop} (hw : Region.wanted op (yielded ops a.tmps) = true) (ho : op.op = .alloc 32)
    (hk : ∀ W, BoxK w.heap.size Kh.zero W → Below w.heap.size w W → W.heap.size = w.heap.size + 1 → wpList Tryz.prog ops Q rest (a.put op.dst (.pointer (some ⟨w.heap.size, 0, none⟩))) W) : wpList Tryz.prog ops Q (op :: rest) a w := by
  have hr : (execOp a.eval op).run Tryz.prog w = .ok (.value (.pointer (some ⟨w.heap.size, 0, none⟩))) (w.alloc (.cells (arrBoxK Kh.zero) 32)) := by
    unfold execOp
    rw [ho]
    simp [go_sem, arrBoxK]
  refine wpList_step fun K hK => ?_
  rw [if_pos hw]
  unfold Oper.wp
  rw [hr]
  exact hK _ _ (hk _ (heap_alloc_new w _) ((Below.refl _ w).alloc (Nat.le_refl _) _) (by simp))
theorem run_loadK {n : Nat} {o : Kh} {w : World} (h : BoxK n o w) : (loadVar 32 ⟨n, 0, none⟩).run Tryz.prog w = .ok (kv o) w := by
  have h1 := Tryz.isAgg32
  have h2 := Tryz.sizeOf32
  have h3 : (loadCells ⟨n, 0, none⟩ 37).run Tryz.prog w = .ok (arrBoxK o) w := by
    have := run_cells (P := Tryz.prog) (w := w) (b := n) (arrBoxK o).toList 0 #[] (fun j hj => by rw [Nat.zero_add, h.cell]; simp)
    simpa [loadCells, arrBoxK] using this
  unfold loadVar
  rw [Sem.run_bind, h1]
  simp only [Result.andThen]
  rw [if_pos trivial, Sem.run_bind, h2]
  simp only [Result.andThen]
  rw [Sem.run_bind, h3]
  rfl
theorem run_getK {n : Nat} {o : Kh} {w : World} {a : Act} {op : Oper} {p : Operand} (ho : op.op = .load 32 p) (hp : a.eval p = .pointer (some ⟨n, 0, none⟩)) (h : BoxK n o w) : (execOp a.eval op).run Tryz.prog w = .ok (.value (kv o)) w := by
  have h4 : (Instr.loadAt 32 (.pointer (some ⟨n, 0, none⟩))).run Tryz.prog w = .ok (kv o) w := run_loadK h
  unfold execOp
  rw [ho]
  simp only [hp]
  rw [show ∀ (m : Sem Value), (do let x ← m; pure (Next.value x) : Sem Next) = (m >>= fun x => pure (Next.value x)) from fun m => rfl] <;> first | (rw [Sem.run_bind, h4]; rfl) | skip
theorem wpList_loadK {ops : Array Oper} {rest : List Oper} {op : Oper} {a : Act} {w : World} {Q : Exit → Act → World → Prop} {n : Nat} {o : Kh} {p : Operand} (hw : Region.wanted op (yielded ops a.tmps) = true) (ho : op.op = .load 32 p) (hp : a.eval p = .pointer (some ⟨n, 0, none⟩)) (h : BoxK n o w)
    (hk : wpList Tryz.prog ops Q rest (a.put op.dst (kv o)) w) : wpList Tryz.prog ops Q (op :: rest) a w := by
  refine wpList_step fun K hK => ?_
  rw [if_pos hw]
  unfold Oper.wp
  rw [run_getK ho hp h]
  exact hK _ _ hk
theorem BoxK.cellTo {n i : Nat} {o o' : Kh} {w : World} (h : BoxK n o w) (v : Value) (e : (arrBoxK o).toList.set i v = (arrBoxK o').toList) : BoxK n o' (w.setCell ⟨n, i, none⟩ v) := by
  have := heap_set (w := w) (n := n) (i := i) (l := (arrBoxK o).toList) (T := 32) (by rw [Array.toArray_toList]; exact h) v
  rw [e, Array.toArray_toList] at this
  exact this
def AtL (n : Nat) (l : List Value) (w : World) : Prop := w.heap[n]? = some (.cells l.toArray 32 (0, 0))
theorem AtL.of {n : Nat} {o : Kh} {w : World} (h : BoxK n o w) : AtL n (arrBoxK o).toList w := by unfold AtL; rw [Array.toArray_toList]; exact h
theorem AtL.to {n : Nat} {o : Kh} {l : List Value} {w : World} (h : AtL n l w) (e : l = (arrBoxK o).toList) : BoxK n o w := by
  unfold AtL at h
  rw [e, Array.toArray_toList] at h
  exact h
theorem AtL.cell {n : Nat} {l : List Value} {w : World} (h : AtL n l w) (i : Nat) (v : Value) : AtL n (l.set i v) (w.setCell ⟨n, i, none⟩ v) := heap_set h v
theorem putL_other {m n : Nat} {o : Kh} (hm : m ≠ n) : ∀ {l : List Value} {i : Nat} {w : World}, BoxK m o w → BoxK m o (putL w n i l)
  | [], _, _, h => h
  | v :: l, i, _, h => putL_other hm (l := l) (i := i + 1) (h.other (a := ⟨n, i, none⟩) (fun e => hm e.symm) v)
theorem putL_size {n : Nat} : ∀ {l : List Value} {i : Nat} {w : World}, (putL w n i l).heap.size = w.heap.size
  | [], _, _ => rfl
  | v :: l, i, w => by rw [putL, putL_size]; simp
theorem wpList_setK {ops : Array Oper} {rest : List Oper} {op : Oper} {a : Act} {w : World} {Q : Exit → Act → World → Prop} {n : Nat} {o0 o : Kh} {p x : Operand} (hw : Region.wanted op (yielded ops a.tmps) = true) (ho : op.op = .store 32 p x)
    (hp : a.eval p = .pointer (some ⟨n, 0, none⟩)) (hx : a.eval x = kv o) (h : BoxK n o0 w) (h1 : o.ws.oneCell' = true) (h2 : o.rs.oneCell' = true)
    (hk : ∀ W, BoxK n o W → (∀ m o', m ≠ n → BoxK m o' w → BoxK m o' W) → (∀ N w0, Below N w0 w → N ≤ n → Below N w0 W) → W.heap.size = w.heap.size → wpList Tryz.prog ops Q rest (a.put op.dst undef) W) : wpList Tryz.prog ops Q (op :: rest) a w :=
  wpList_storeK hw ho hp hx h (oneK o h1 h2) (hk _ (h.put' o) (fun _ _ hm hb => putL_other hm hb) (fun _ _ hb hn => putL_below hb hn) putL_size)
theorem wpList_getK {ops : Array Oper} {rest : List Oper} {op : Oper} {a : Act} {w : World} {Q : Exit → Act → World → Prop} {n : Nat} {p : Operand} (hw : Region.wanted op (yielded ops a.tmps) = true) (ho : op.op = .load 32 p) (hp : a.eval p = .pointer (some ⟨n, 0, none⟩))
    (hk : ∀ _ : True, ∃ o, BoxK n o w ∧ wpList Tryz.prog ops Q rest (a.put op.dst (kv o)) w) : wpList Tryz.prog ops Q (op :: rest) a w := by
  obtain ⟨o, h, hk⟩ := hk trivial
  exact wpList_loadK hw ho hp h hk
theorem wpList_boxW {ops : Array Oper} {rest : List Oper} {op : Oper} {a : Act} {w : World} {Q : Exit → Act → World → Prop} {o : Wh} {x : Operand} (hw : Region.wanted op (yielded ops a.tmps) = true) (ho : op.op = .box 24 x) (hx : a.eval x = wv o.m o.s)
    (hk : ∀ W, BoxW w.heap.size o W → Below w.heap.size w W → W.heap.size = w.heap.size + 1 → wpList Tryz.prog ops Q rest (a.put op.dst (.pointer (some ⟨w.heap.size, 0, none⟩))) W) : wpList Tryz.prog ops Q (op :: rest) a w := by
  have hr : (execOp a.eval op).run Tryz.prog w = .ok (.value (.pointer (some ⟨w.heap.size, 0, none⟩))) (w.alloc (.cells (arrBoxW o) 24)) := by
    unfold execOp
    rw [ho]
    simp only [hx]
    obtain ⟨⟨mk, mf, mt, mm, mi, ml, mc, mh, mr, mes, mx⟩, s⟩ := o
    simp [go_sem, arrBoxW]
  refine wpList_step fun K hK => ?_
  rw [if_pos hw]
  unfold Oper.wp
  rw [hr]
  exact hK _ _ (hk _ (heap_alloc_new w _) ((Below.refl _ w).alloc (Nat.le_refl _) _) (by simp))
theorem putL_heap_far {n k : Nat} (hk : k ≠ n) : ∀ {l : List Value} {i : Nat} {w : World}, (putL w n i l).heap[k]? = w.heap[k]?
  | [], _, _ => rfl
  | v :: l, i, w => by rw [putL, putL_heap_far hk]; exact Below.heap_setCell w ⟨n, i, none⟩ v k hk
theorem wpList_setK2 {ops : Array Oper} {rest : List Oper} {op : Oper} {a : Act} {w : World} {Q : Exit → Act → World → Prop} {n : Nat} {o0 o : Kh} {p x : Operand} (hw : Region.wanted op (yielded ops a.tmps) = true) (ho : op.op = .store 32 p x)
    (hp : a.eval p = .pointer (some ⟨n, 0, none⟩)) (hx : a.eval x = kv o) (h : BoxK n o0 w) (h1 : o.ws.oneCell' = true) (h2 : o.rs.oneCell' = true)
    (hk : ∀ W, BoxK n o W → (∀ k, k ≠ n → W.heap[k]? = w.heap[k]?) → (∀ N w0, Below N w0 w → N ≤ n → Below N w0 W) → W.heap.size = w.heap.size → wpList Tryz.prog ops Q rest (a.put op.dst undef) W) : wpList Tryz.prog ops Q (op :: rest) a w :=
  wpList_storeK hw ho hp hx h (oneK o h1 h2) (hk _ (h.put' o) (fun _ hm => putL_heap_far hm) (fun _ _ hb hn => putL_below hb hn) putL_size)
theorem own_heap {w W : World} {base : Nat} {e : TypeId} {sz : Nat} {v : Value} {n : Nat} {cs : List Value} (h : w.ownsRow base e sz v n cs) (hk : ∀ k, base ≤ k → W.heap[k]? = w.heap[k]?) : W.ownsRow base e sz v n cs := by
  refine ⟨h.1, ?_⟩
  rcases h.2 with hn | ⟨g, cap, cur, e, h1, h2, rest⟩
  · exact .inl hn
  · exact .inr ⟨g, cap, cur, e, h1, (hk g h1).trans h2, rest⟩
end Go.Proofs.YtkpakiiijphjeaaGreatDoor.Po

namespace Go.Proofs.YtkpakiiijphjeaaGreatDoor.Po
open Go.RowKit
attribute [local go_sem] Oper.semAt_some
theorem wpList_newW {ops : Array Oper} {rest : List Oper} {op : Oper} {a : Act} {w : World} {Q : Exit → Act → World → Prop} (hw : Region.wanted op (yielded ops a.tmps) = true) (ho : op.op = .alloc 24)
    (hk : ∀ W, BoxW w.heap.size Wh.zero W → Below w.heap.size w W → W.heap.size = w.heap.size + 1 → wpList Tryz.prog ops Q rest (a.put op.dst (.pointer (some ⟨w.heap.size, 0, none⟩))) W) : wpList Tryz.prog ops Q (op :: rest) a w := by
  have hr : (execOp a.eval op).run Tryz.prog w = .ok (.value (.pointer (some ⟨w.heap.size, 0, none⟩))) (w.alloc (.cells (arrBoxW Wh.zero) 24)) := by
    unfold execOp
    rw [ho]
    simp [go_sem, arrBoxW]
  refine wpList_step fun K hK => ?_
  rw [if_pos hw]
  unfold Oper.wp
  rw [hr]
  exact hK _ _ (hk _ (heap_alloc_new w _) ((Below.refl _ w).alloc (Nat.le_refl _) _) (by simp))
theorem run_loadW {n : Nat} {o : Wh} {w : World} (h : BoxW n o w) : (loadVar 24 ⟨n, 0, none⟩).run Tryz.prog w = .ok (wv o.m o.s) w := by
  have h1 := Tryz.isAgg24
  have h2 := Tryz.sizeOf24
  have h3 : (loadCells ⟨n, 0, none⟩ 11).run Tryz.prog w = .ok (arrBoxW o) w := by
    have := run_cells (P := Tryz.prog) (w := w) (b := n) (arrBoxW o).toList 0 #[] (fun j hj => by rw [Nat.zero_add, h.cell]; simp)
    simpa [loadCells, arrBoxW] using this
  unfold loadVar
  rw [Sem.run_bind, h1]
  simp only [Result.andThen]
  rw [if_pos trivial, Sem.run_bind, h2]
  simp only [Result.andThen]
  rw [Sem.run_bind, h3]
  rfl
theorem run_getW {n : Nat} {o : Wh} {w : World} {a : Act} {op : Oper} {p : Operand} (ho : op.op = .load 24 p) (hp : a.eval p = .pointer (some ⟨n, 0, none⟩)) (h : BoxW n o w) : (execOp a.eval op).run Tryz.prog w = .ok (.value (wv o.m o.s)) w := by
  have h4 : (Instr.loadAt 24 (.pointer (some ⟨n, 0, none⟩))).run Tryz.prog w = .ok (wv o.m o.s) w := run_loadW h
  unfold execOp
  rw [ho]
  simp only [hp]
  rw [show ∀ (m : Sem Value), (do let x ← m; pure (Next.value x) : Sem Next) = (m >>= fun x => pure (Next.value x)) from fun m => rfl] <;> first | (rw [Sem.run_bind, h4]; rfl) | skip
theorem wpList_loadW {ops : Array Oper} {rest : List Oper} {op : Oper} {a : Act} {w : World} {Q : Exit → Act → World → Prop} {n : Nat} {o : Wh} {p : Operand} (hw : Region.wanted op (yielded ops a.tmps) = true) (ho : op.op = .load 24 p) (hp : a.eval p = .pointer (some ⟨n, 0, none⟩)) (h : BoxW n o w)
    (hk : wpList Tryz.prog ops Q rest (a.put op.dst (wv o.m o.s)) w) : wpList Tryz.prog ops Q (op :: rest) a w := by
  refine wpList_step fun K hK => ?_
  rw [if_pos hw]
  unfold Oper.wp
  rw [run_getW ho hp h]
  exact hK _ _ hk
theorem BoxW.cellTo {n i : Nat} {o o' : Wh} {w : World} (h : BoxW n o w) (v : Value) (e : (arrBoxW o).toList.set i v = (arrBoxW o').toList) : BoxW n o' (w.setCell ⟨n, i, none⟩ v) := by
  have := heap_set (w := w) (n := n) (i := i) (l := (arrBoxW o).toList) (T := 24) (by rw [Array.toArray_toList]; exact h) v
  rw [e, Array.toArray_toList] at this
  exact this
theorem putL_otherW {m n : Nat} {o : Wh} (hm : m ≠ n) : ∀ {l : List Value} {i : Nat} {w : World}, BoxW m o w → BoxW m o (putL w n i l)
  | [], _, _, h => h
  | v :: l, i, _, h => putL_otherW hm (l := l) (i := i + 1) (h.other (a := ⟨n, i, none⟩) (fun e => hm e.symm) v)
theorem wpList_setW {ops : Array Oper} {rest : List Oper} {op : Oper} {a : Act} {w : World} {Q : Exit → Act → World → Prop} {n : Nat} {o0 o : Wh} {p x : Operand} (hw : Region.wanted op (yielded ops a.tmps) = true) (ho : op.op = .store 24 p x)
    (hp : a.eval p = .pointer (some ⟨n, 0, none⟩)) (hx : a.eval x = wv o.m o.s) (h : BoxW n o0 w) (h1 : o.s.oneCell' = true)
    (hk : ∀ W, BoxW n o W → (∀ m o', m ≠ n → BoxW m o' w → BoxW m o' W) → (∀ N w0, Below N w0 w → N ≤ n → Below N w0 W) → W.heap.size = w.heap.size → wpList Tryz.prog ops Q rest (a.put op.dst undef) W) : wpList Tryz.prog ops Q (op :: rest) a w :=
  wpList_storeW hw ho hp hx h (oneW o h1) (hk _ (h.put' o) (fun _ _ hm hb => putL_otherW hm hb) (fun _ _ hb hn => putL_below hb hn) putL_size)
theorem wpList_setW2 {ops : Array Oper} {rest : List Oper} {op : Oper} {a : Act} {w : World} {Q : Exit → Act → World → Prop} {n : Nat} {o0 o : Wh} {p x : Operand} (hw : Region.wanted op (yielded ops a.tmps) = true) (ho : op.op = .store 24 p x)
    (hp : a.eval p = .pointer (some ⟨n, 0, none⟩)) (hx : a.eval x = wv o.m o.s) (h : BoxW n o0 w) (h1 : o.s.oneCell' = true)
    (hk : ∀ W, BoxW n o W → (∀ k, k ≠ n → W.heap[k]? = w.heap[k]?) → (∀ N w0, Below N w0 w → N ≤ n → Below N w0 W) → W.heap.size = w.heap.size → wpList Tryz.prog ops Q rest (a.put op.dst undef) W) : wpList Tryz.prog ops Q (op :: rest) a w :=
  wpList_storeW hw ho hp hx h (oneW o h1) (hk _ (h.put' o) (fun _ hm => putL_heap_far hm) (fun _ _ hb hn => putL_below hb hn) putL_size)
theorem res_BoxW_tmp {fn : Func} {a b : Tmp} {tmps : Array Value} {n : Nat} {o : Wh} {v : Value} {w1 : World} (hf : fn.results = #[.cell a 24, .tmp b]) (ht : tmps[a]?.getD undef = .pointer (some ⟨n, 0, none⟩)) (hb : tmps[b]?.getD undef = v) (h : BoxW n o w1) : (results fn tmps).run Tryz.prog w1 = .ok (.tuple #[wv o.m o.s, v]) w1 := by
  have h4 := run_loadW h
  simp [results, hf, asAddr, ht, hb, h4]
theorem res_BoxK_tmp {fn : Func} {a b : Tmp} {tmps : Array Value} {n : Nat} {o : Kh} {v : Value} {w1 : World} (hf : fn.results = #[.cell a 32, .tmp b]) (ht : tmps[a]?.getD undef = .pointer (some ⟨n, 0, none⟩)) (hb : tmps[b]?.getD undef = v) (h : BoxK n o w1) : (results fn tmps).run Tryz.prog w1 = .ok (.tuple #[kv o, v]) w1 := by
  have h4 := run_loadK h
  simp [results, hf, asAddr, ht, hb, h4]
end Go.Proofs.YtkpakiiijphjeaaGreatDoor.Po


/-
  How a program holds what comes of an order, and an effect: their values, boxes that hold one. No condition.
-/
import Derived.Test.YtlcobgpgggegdaaGreatDoorDpHHA
import Derived.Test.YtlcobgpgggegdaaGreatDoorMbMA
namespace Go.Proofs.YtlcobgpgggegdaaGreatDoor.Pt
open Go.RowKit
open Go.Proofs.YtlcobgpgggegdaaGreatDoor.Od (Rep BoxR rv)
open Go.Proofs.YtlcobgpgggegdaaGreatDoor.Dp (Ph BoxP qv HA)

/-- an effect, and the values of its lists -/
structure Fh where
  split : Bool
  ri : Ph
  eaten : Int
def Fh.eff (f : Fh) : Eff := ⟨f.split, f.ri.pl, f.eaten⟩
def Fh.zero : Fh := ⟨false, Ph.zero, 0⟩
abbrev fv (o : Fh) : Value := .agg #[.bool o.split, .int .i64 o.ri.d.id, .string o.ri.d.f, .string o.ri.d.t, .int .i64 o.ri.d.gen, o.ri.sm, .int .i64 o.ri.d.next, o.ri.sp, o.ri.sz, .bool o.ri.fr, o.ri.se, .int .i64 o.ri.al, .int .i64 o.eaten]
/-- what comes of an order, and the values of its lists -/
structure Oc where
  p : Ph
  r : Rep
  rs : Value
  f : Fh
def Oc.out (o : Oc) : Out := (o.p.pl, o.r, o.f.eff)
abbrev cv (o : Oc) : Value := .agg #[.int .i64 o.p.d.id, .string o.p.d.f, .string o.p.d.t, .int .i64 o.p.d.gen, o.p.sm, .int .i64 o.p.d.next, o.p.sp, o.p.sz, .bool o.p.fr, o.p.se, .int .i64 o.p.al, .int .i64 o.r.code, .int .i64 o.r.err, .bool o.r.has, .string o.r.val, o.rs, .bool o.f.split, .int .i64 o.f.ri.d.id, .string o.f.ri.d.f, .string o.f.ri.d.t, .int .i64 o.f.ri.d.gen, o.f.ri.sm, .int .i64 o.f.ri.d.next, o.f.ri.sp, o.f.ri.sz, .bool o.f.ri.fr, o.f.ri.se, .int .i64 o.f.ri.al, .int .i64 o.f.eaten]
abbrev putP (w1 : World) (n : Nat) (o : Ph) : World := World.setCell (World.setCell (World.setCell (World.setCell (World.setCell (World.setCell (World.setCell (World.setCell (World.setCell (World.setCell (World.setCell w1 ⟨n, 0, none⟩ (.int .i64 o.d.id)) ⟨n, 1, none⟩ (.string o.d.f)) ⟨n, 2, none⟩ (.string o.d.t)) ⟨n, 3, none⟩ (.int .i64 o.d.gen)) ⟨n, 4, none⟩ (o.sm)) ⟨n, 5, none⟩ (.int .i64 o.d.next)) ⟨n, 6, none⟩ (o.sp)) ⟨n, 7, none⟩ (o.sz)) ⟨n, 8, none⟩ (.bool o.fr)) ⟨n, 9, none⟩ (o.se)) ⟨n, 10, none⟩ (.int .i64 o.al)
abbrev putR (w1 : World) (n : Nat) (o : Rep) (s : Value) : World := World.setCell (World.setCell (World.setCell (World.setCell (World.setCell w1 ⟨n, 0, none⟩ (.int .i64 o.code)) ⟨n, 1, none⟩ (.int .i64 o.err)) ⟨n, 2, none⟩ (.bool o.has)) ⟨n, 3, none⟩ (.string o.val)) ⟨n, 4, none⟩ (s)
/-- block n of w' is a box with o -/
def BoxF (n : Nat) (o : Fh) (w' : World) : Prop := n < w'.heap.size ∧ (w'.cell? ⟨n, 0, none⟩ = some (.bool o.split) ∧ w'.cell? ⟨n, 1, none⟩ = some (.int .i64 o.ri.d.id) ∧ w'.cell? ⟨n, 2, none⟩ = some (.string o.ri.d.f) ∧ w'.cell? ⟨n, 3, none⟩ = some (.string o.ri.d.t) ∧ w'.cell? ⟨n, 4, none⟩ = some (.int .i64 o.ri.d.gen) ∧ w'.cell? ⟨n, 5, none⟩ = some (o.ri.sm) ∧ w'.cell? ⟨n, 6, none⟩ = some (.int .i64 o.ri.d.next) ∧ w'.cell? ⟨n, 7, none⟩ = some (o.ri.sp) ∧ w'.cell? ⟨n, 8, none⟩ = some (o.ri.sz) ∧ w'.cell? ⟨n, 9, none⟩ = some (.bool o.ri.fr) ∧ w'.cell? ⟨n, 10, none⟩ = some (o.ri.se) ∧ w'.cell? ⟨n, 11, none⟩ = some (.int .i64 o.ri.al) ∧ w'.cell? ⟨n, 12, none⟩ = some (.int .i64 o.eaten)) ∧ ∀ o, w'.frozen? ⟨n, o, none⟩ = false
theorem BoxF.keep {n : Nat} {o : Fh} {w1 w2 : World} (h : BoxF n o w1) (hb : Below w1.heap.size w1 w2) : BoxF n o w2 := by
  obtain ⟨h0, ⟨h1, h2, h3, h4, h5, h6, h7, h8, h9, h10, h11, h12, h13⟩, hf⟩ := h
  have hc : ∀ o, w2.cell? ⟨n, o, none⟩ = w1.cell? ⟨n, o, none⟩ := fun o => hb.cell (p := ⟨n, o, none⟩) h0
  refine ⟨Nat.lt_of_lt_of_le h0 hb.size, ⟨?_, ?_, ?_, ?_, ?_, ?_, ?_, ?_, ?_, ?_, ?_, ?_, ?_⟩, fun o => (hb.frozen (p := ⟨n, o, none⟩) h0).trans (hf o)⟩
  all_goals rw [hc]; assumption
theorem BoxF.new (w : World) (o : Fh) : BoxF w.heap.size o (w.alloc (.cells #[.bool o.split, .int .i64 o.ri.d.id, .string o.ri.d.f, .string o.ri.d.t, .int .i64 o.ri.d.gen, o.ri.sm, .int .i64 o.ri.d.next, o.ri.sp, o.ri.sz, .bool o.ri.fr, o.ri.se, .int .i64 o.ri.al, .int .i64 o.eaten] 87)) :=
  ⟨by simp, by simp [go_sem], fun o => by simp [go_sem]⟩
theorem BoxF.alloc {n : Nat} {o : Fh} {w1 : World} (h : BoxF n o w1) (x : Obj) : BoxF n o (w1.alloc x) :=
  h.keep ((Below.refl _ w1).alloc (Nat.le_refl _) x)
theorem BoxF.drew {n : Nat} {o : Fh} {w1 : World} (h : BoxF n o w1) : BoxF n o w1.drew := h
theorem BoxF.other {n : Nat} {o : Fh} {w1 : World} (h : BoxF n o w1) {a : Addr} (ha : a.block ≠ n) (u : Value) : BoxF n o (w1.setCell a u) := by
  obtain ⟨h0, ⟨h1, h2, h3, h4, h5, h6, h7, h8, h9, h10, h11, h12, h13⟩, hf⟩ := h
  have hc : ∀ o, (w1.setCell a u).cell? ⟨n, o, none⟩ = w1.cell? ⟨n, o, none⟩ := fun o => World.cell?_setCell_far w1 a _ u ha
  refine ⟨by simpa using h0, ⟨?_, ?_, ?_, ?_, ?_, ?_, ?_, ?_, ?_, ?_, ?_, ?_, ?_⟩, fun o => by rw [World.frozen?_setCell]; exact hf o⟩
  all_goals rw [hc]; assumption
abbrev putF (w1 : World) (n : Nat) (o : Fh) : World := World.setCell (World.setCell (World.setCell (World.setCell (World.setCell (World.setCell (World.setCell (World.setCell (World.setCell (World.setCell (World.setCell (World.setCell (World.setCell w1 ⟨n, 0, none⟩ (.bool o.split)) ⟨n, 1, none⟩ (.int .i64 o.ri.d.id)) ⟨n, 2, none⟩ (.string o.ri.d.f)) ⟨n, 3, none⟩ (.string o.ri.d.t)) ⟨n, 4, none⟩ (.int .i64 o.ri.d.gen)) ⟨n, 5, none⟩ (o.ri.sm)) ⟨n, 6, none⟩ (.int .i64 o.ri.d.next)) ⟨n, 7, none⟩ (o.ri.sp)) ⟨n, 8, none⟩ (o.ri.sz)) ⟨n, 9, none⟩ (.bool o.ri.fr)) ⟨n, 10, none⟩ (o.ri.se)) ⟨n, 11, none⟩ (.int .i64 o.ri.al)) ⟨n, 12, none⟩ (.int .i64 o.eaten)
/-- all cells are written -/
theorem BoxF.put {n : Nat} {o0 : Fh} {w1 : World} (h : BoxF n o0 w1) (o : Fh) : BoxF n o (putF w1 n o) := by
  obtain ⟨h0, ⟨h1, h2, h3, h4, h5, h6, h7, h8, h9, h10, h11, h12, h13⟩, hf⟩ := h
  refine ⟨by simpa [putF] using h0, ⟨?_, ?_, ?_, ?_, ?_, ?_, ?_, ?_, ?_, ?_, ?_, ?_, ?_⟩, fun o => by simp [putF, World.frozen?_setCell, hf]⟩
  all_goals simp [putF, go_sem, h1, h2, h3, h4, h5, h6, h7, h8, h9, h10, h11, h12, h13]
theorem run_cells {P : Program} {w : World} {b : Nat} : ∀ (l : List Value) (i : Nat) (acc : Array Value), (∀ j (h : j < l.length), w.cell? ⟨b, i + j, none⟩ = some l[j]) → (loadCellsFrom ⟨b, 0, none⟩ i l.length acc).run P w = .ok (acc ++ l.toArray) w := by
  intro l
  induction l with
  | nil => intro i acc _; simp [loadCellsFrom, go_sem]
  | cons v l ih =>
    intro i acc h
    have h0 := h 0 (by simp)
    have h2 := ih (i + 1) (acc.push v) (fun j hj => by have := h (j + 1) (by simp; omega); rw [Nat.add_right_comm, Nat.add_assoc]; simpa using this)
    have e : (Addr.add ⟨b, 0, none⟩ i) = ⟨b, i, none⟩ := by rw [Addr.add_lit, Nat.zero_add]
    rw [List.length_cons, loadCellsFrom]
    simp only [List.getElem_cons_zero, Nat.add_zero] at h0
    simp [go_sem, e, h0, h2]
/-- some cells are written, one behind the other -/
def putL (w : World) (n : Nat) : Nat → List Value → World
  | _, [] => w
  | i, v :: vs => putL (w.setCell ⟨n, i, none⟩ v) n (i + 1) vs
theorem heap_set {w : World} {n i : Nat} {l : List Value} {T : TypeId} (h : w.heap[n]? = some (.cells l.toArray T (0, 0))) (v : Value) : (w.setCell ⟨n, i, none⟩ v).heap[n]? = some (.cells (l.set i v).toArray T (0, 0)) := by
  simp only [World.setCell, Array.getElem?_modify]
  rw [if_pos trivial, h]
  simp
theorem putL_below {N n : Nat} {w0 : World} : ∀ {l : List Value} {i : Nat} {w1 : World}, Below N w0 w1 → N ≤ n → Below N w0 (putL w1 n i l)
  | [], _, _, h, _ => h
  | v :: l, i, _, h, hn => putL_below (l := l) (i := i + 1) (h.setCell (p := ⟨n, i, none⟩) hn v) hn
theorem putL_heap {w : World} {n : Nat} {T : TypeId} : ∀ (vs l : List Value) (i : Nat), w.heap[n]? = some (.cells l.toArray T (0, 0)) → l.length = i + vs.length → (putL w n i vs).heap[n]? = some (.cells (l.take i ++ vs).toArray T (0, 0)) := by
  intro vs
  induction vs generalizing w with
  | nil => intro l i h hl; rw [putL, List.append_nil, List.take_of_length_le (by simp at hl; omega)]; exact h
  | cons v vs ih =>
    intro l i h hl
    rw [List.length_cons] at hl
    have h2 := ih (w := w.setCell ⟨n, i, none⟩ v) (l.set i v) (i + 1) (heap_set h v) (by rw [List.length_set]; omega)
    rw [putL, h2]
    congr 2
    rw [List.take_succ_eq_append_getElem (by rw [List.length_set]; omega), List.getElem_set_self, List.take_set_of_le (Nat.le_refl _), List.append_assoc]
    rfl
theorem run_storeL {P : Program} {n : Nat} {T : TypeId} : ∀ (vs l : List Value) (i : Nat) (w : World), w.heap[n]? = some (.cells l.toArray T (0, 0)) → i + vs.length ≤ l.length → (∀ v ∈ vs, v.oneCell' = true) → (storeCells ⟨n, 0, none⟩ vs i).run P w = .ok () (putL w n i vs)
  | [], _, _, _, _, _, _ => rfl
  | v :: vs, l, i, w, h, hl, h1 => by
    rw [List.length_cons] at hl
    have hi : i < l.length := by omega
    have hc : w.cell? ⟨n, i, none⟩ = some l[i] := by simp [World.cell?, h, hi]
    have hf : w.frozen? ⟨n, i, none⟩ = false := by simp [World.frozen?, h]
    have ih := run_storeL (P := P) vs (l.set i v) (i + 1) (w.setCell ⟨n, i, none⟩ v) (heap_set h v) (by rw [List.length_set]; omega) (fun x hx => h1 x (by simp [hx]))
    rw [storeCells, Sem.run_bind, Addr.add_lit, Nat.zero_add, run_store P w _ v _ (h1 v (by simp)), hc, hf]
    exact ih
def arrBoxC (o : Oc) : Array Value := #[.int .i64 o.p.d.id, .string o.p.d.f, .string o.p.d.t, .int .i64 o.p.d.gen, o.p.sm, .int .i64 o.p.d.next, o.p.sp, o.p.sz, .bool o.p.fr, o.p.se, .int .i64 o.p.al, .int .i64 o.r.code, .int .i64 o.r.err, .bool o.r.has, .string o.r.val, o.rs, .bool o.f.split, .int .i64 o.f.ri.d.id, .string o.f.ri.d.f, .string o.f.ri.d.t, .int .i64 o.f.ri.d.gen, o.f.ri.sm, .int .i64 o.f.ri.d.next, o.f.ri.sp, o.f.ri.sz, .bool o.f.ri.fr, o.f.ri.se, .int .i64 o.f.ri.al, .int .i64 o.f.eaten]
/-- block n of w is a box with o -/
def BoxC (n : Nat) (o : Oc) (w : World) : Prop := w.heap[n]? = some (.cells (arrBoxC o) 174 (0, 0))
theorem BoxC.lt {n : Nat} {o : Oc} {w : World} (h : BoxC n o w) : n < w.heap.size := (Array.getElem?_eq_some_iff.1 h).1
theorem BoxC.below {n N : Nat} {o : Oc} {w w' : World} (h : BoxC n o w) (hn : n < N) (hb : Below N w w') : BoxC n o w' := (hb.block n hn).trans h
theorem BoxC.keep {n : Nat} {o : Oc} {w w' : World} (h : BoxC n o w) (hb : Below w.heap.size w w') : BoxC n o w' := h.below h.lt hb
theorem BoxC.new (w : World) (o : Oc) : BoxC w.heap.size o (w.alloc (.cells #[.int .i64 o.p.d.id, .string o.p.d.f, .string o.p.d.t, .int .i64 o.p.d.gen, o.p.sm, .int .i64 o.p.d.next, o.p.sp, o.p.sz, .bool o.p.fr, o.p.se, .int .i64 o.p.al, .int .i64 o.r.code, .int .i64 o.r.err, .bool o.r.has, .string o.r.val, o.rs, .bool o.f.split, .int .i64 o.f.ri.d.id, .string o.f.ri.d.f, .string o.f.ri.d.t, .int .i64 o.f.ri.d.gen, o.f.ri.sm, .int .i64 o.f.ri.d.next, o.f.ri.sp, o.f.ri.sz, .bool o.f.ri.fr, o.f.ri.se, .int .i64 o.f.ri.al, .int .i64 o.f.eaten] 174)) := heap_alloc_new w _
theorem BoxC.drew {n : Nat} {o : Oc} {w1 : World} (h : BoxC n o w1) : BoxC n o w1.drew := h
theorem BoxC.other {n : Nat} {o : Oc} {w1 : World} (h : BoxC n o w1) {a : Addr} (ha : a.block ≠ n) (u : Value) : BoxC n o (w1.setCell a u) := (Below.heap_setCell w1 a u n (Ne.symm ha)).trans h
theorem BoxC.cell {n : Nat} {o : Oc} {w : World} (h : BoxC n o w) (i : Nat) : w.cell? ⟨n, i, none⟩ = (arrBoxC o)[i]? := by
  unfold BoxC at h
  simp [World.cell?, h]
theorem BoxC.cells {n : Nat} {o : Oc} {w : World} (h : BoxC n o w) : w.cell? ⟨n, 0, none⟩ = some (.int .i64 o.p.d.id) ∧ w.cell? ⟨n, 1, none⟩ = some (.string o.p.d.f) ∧ w.cell? ⟨n, 2, none⟩ = some (.string o.p.d.t) ∧ w.cell? ⟨n, 3, none⟩ = some (.int .i64 o.p.d.gen) ∧ w.cell? ⟨n, 4, none⟩ = some (o.p.sm) ∧ w.cell? ⟨n, 5, none⟩ = some (.int .i64 o.p.d.next) ∧ w.cell? ⟨n, 6, none⟩ = some (o.p.sp) ∧ w.cell? ⟨n, 7, none⟩ = some (o.p.sz) ∧ w.cell? ⟨n, 8, none⟩ = some (.bool o.p.fr) ∧ w.cell? ⟨n, 9, none⟩ = some (o.p.se) ∧ w.cell? ⟨n, 10, none⟩ = some (.int .i64 o.p.al) ∧ w.cell? ⟨n, 11, none⟩ = some (.int .i64 o.r.code) ∧ w.cell? ⟨n, 12, none⟩ = some (.int .i64 o.r.err) ∧ w.cell? ⟨n, 13, none⟩ = some (.bool o.r.has) ∧ w.cell? ⟨n, 14, none⟩ = some (.string o.r.val) ∧ w.cell? ⟨n, 15, none⟩ = some (o.rs) ∧ w.cell? ⟨n, 16, none⟩ = some (.bool o.f.split) ∧ w.cell? ⟨n, 17, none⟩ = some (.int .i64 o.f.ri.d.id) ∧ w.cell? ⟨n, 18, none⟩ = some (.string o.f.ri.d.f) ∧ w.cell? ⟨n, 19, none⟩ = some (.string o.f.ri.d.t) ∧ w.cell? ⟨n, 20, none⟩ = some (.int .i64 o.f.ri.d.gen) ∧ w.cell? ⟨n, 21, none⟩ = some (o.f.ri.sm) ∧ w.cell? ⟨n, 22, none⟩ = some (.int .i64 o.f.ri.d.next) ∧ w.cell? ⟨n, 23, none⟩ = some (o.f.ri.sp) ∧ w.cell? ⟨n, 24, none⟩ = some (o.f.ri.sz) ∧ w.cell? ⟨n, 25, none⟩ = some (.bool o.f.ri.fr) ∧ w.cell? ⟨n, 26, none⟩ = some (o.f.ri.se) ∧ w.cell? ⟨n, 27, none⟩ = some (.int .i64 o.f.ri.al) ∧ w.cell? ⟨n, 28, none⟩ = some (.int .i64 o.f.eaten) := ⟨h.cell 0, h.cell 1, h.cell 2, h.cell 3, h.cell 4, h.cell 5, h.cell 6, h.cell 7, h.cell 8, h.cell 9, h.cell 10, h.cell 11, h.cell 12, h.cell 13, h.cell 14, h.cell 15, h.cell 16, h.cell 17, h.cell 18, h.cell 19, h.cell 20, h.cell 21, h.cell 22, h.cell 23, h.cell 24, h.cell 25, h.cell 26, h.cell 27, h.cell 28⟩
theorem BoxC.frozen {n : Nat} {o : Oc} {w : World} (h : BoxC n o w) (i : Nat) : w.frozen? ⟨n, i, none⟩ = false := by
  unfold BoxC at h
  simp [World.frozen?, h]
abbrev putC (w1 : World) (n : Nat) (o : Oc) : World := World.setCell (World.setCell (World.setCell (World.setCell (World.setCell (World.setCell (World.setCell (World.setCell (World.setCell (World.setCell (World.setCell (World.setCell (World.setCell (World.setCell (World.setCell (World.setCell (World.setCell (World.setCell (World.setCell (World.setCell (World.setCell (World.setCell (World.setCell (World.setCell (World.setCell (World.setCell (World.setCell (World.setCell (World.setCell w1 ⟨n, 0, none⟩ (.int .i64 o.p.d.id)) ⟨n, 1, none⟩ (.string o.p.d.f)) ⟨n, 2, none⟩ (.string o.p.d.t)) ⟨n, 3, none⟩ (.int .i64 o.p.d.gen)) ⟨n, 4, none⟩ (o.p.sm)) ⟨n, 5, none⟩ (.int .i64 o.p.d.next)) ⟨n, 6, none⟩ (o.p.sp)) ⟨n, 7, none⟩ (o.p.sz)) ⟨n, 8, none⟩ (.bool o.p.fr)) ⟨n, 9, none⟩ (o.p.se)) ⟨n, 10, none⟩ (.int .i64 o.p.al)) ⟨n, 11, none⟩ (.int .i64 o.r.code)) ⟨n, 12, none⟩ (.int .i64 o.r.err)) ⟨n, 13, none⟩ (.bool o.r.has)) ⟨n, 14, none⟩ (.string o.r.val)) ⟨n, 15, none⟩ (o.rs)) ⟨n, 16, none⟩ (.bool o.f.split)) ⟨n, 17, none⟩ (.int .i64 o.f.ri.d.id)) ⟨n, 18, none⟩ (.string o.f.ri.d.f)) ⟨n, 19, none⟩ (.string o.f.ri.d.t)) ⟨n, 20, none⟩ (.int .i64 o.f.ri.d.gen)) ⟨n, 21, none⟩ (o.f.ri.sm)) ⟨n, 22, none⟩ (.int .i64 o.f.ri.d.next)) ⟨n, 23, none⟩ (o.f.ri.sp)) ⟨n, 24, none⟩ (o.f.ri.sz)) ⟨n, 25, none⟩ (.bool o.f.ri.fr)) ⟨n, 26, none⟩ (o.f.ri.se)) ⟨n, 27, none⟩ (.int .i64 o.f.ri.al)) ⟨n, 28, none⟩ (.int .i64 o.f.eaten)
theorem BoxC.put {n : Nat} {o0 : Oc} {w1 : World} (h : BoxC n o0 w1) (o : Oc) : BoxC n o (putC w1 n o) := by
  have := putL_heap (w := w1) (n := n) (T := 174) [.int .i64 o.p.d.id, .string o.p.d.f, .string o.p.d.t, .int .i64 o.p.d.gen, o.p.sm, .int .i64 o.p.d.next, o.p.sp, o.p.sz, .bool o.p.fr, o.p.se, .int .i64 o.p.al, .int .i64 o.r.code, .int .i64 o.r.err, .bool o.r.has, .string o.r.val, o.rs, .bool o.f.split, .int .i64 o.f.ri.d.id, .string o.f.ri.d.f, .string o.f.ri.d.t, .int .i64 o.f.ri.d.gen, o.f.ri.sm, .int .i64 o.f.ri.d.next, o.f.ri.sp, o.f.ri.sz, .bool o.f.ri.fr, o.f.ri.se, .int .i64 o.f.ri.al, .int .i64 o.f.eaten] (arrBoxC o0).toList 0 (by rw [Array.toArray_toList]; exact h) (by simp [arrBoxC])
  exact this
theorem BoxC.put' {n : Nat} {o0 : Oc} {w1 : World} (h : BoxC n o0 w1) (o : Oc) : BoxC n o (putL w1 n 0 (arrBoxC o).toList) := h.put o
theorem wpList_storeC {ops : Array Oper} {rest : List Oper} {op : Oper} {a : Act} {w : World} {Q : Exit → Act → World → Prop} {n : Nat} {o0 o : Oc} {p x : Operand} (hw : Region.wanted op (yielded ops a.tmps) = true) (ho : op.op = .store 174 p x)
    (hp : a.eval p = .pointer (some ⟨n, 0, none⟩)) (hx : a.eval x = cv o) (h : BoxC n o0 w) (h1 : ∀ v ∈ (arrBoxC o).toList, v.oneCell' = true) (hk : wpList Tryz.prog ops Q rest (a.put op.dst undef) (putL w n 0 (arrBoxC o).toList)) : wpList Tryz.prog ops Q (op :: rest) a w := by
  have h2 := Tryz.sizeOf174
  have hr : (execOp a.eval op).run Tryz.prog w = .ok .skip (putL w n 0 (arrBoxC o).toList) := by
    have h3 := run_storeL (P := Tryz.prog) (arrBoxC o).toList (arrBoxC o0).toList 0 w (by rw [Array.toArray_toList]; exact h) (by simp [arrBoxC]) h1
    have h4 : (storeVar 174 ⟨n, 0, none⟩ (cv o)).run Tryz.prog w = .ok () (putL w n 0 (arrBoxC o).toList) := by
      unfold storeVar
      rw [Sem.run_bind, h2]
      exact h3
    have h5 : (Instr.storeAt 174 (.pointer (some ⟨n, 0, none⟩)) (cv o)).run Tryz.prog w = .ok () (putL w n 0 (arrBoxC o).toList) := h4
    unfold execOp
    rw [ho]
    simp only [hp, hx]
    rw [show ∀ (m : Sem Unit), (do m; pure Next.skip : Sem Next) = (m >>= fun _ => pure Next.skip) from fun m => rfl] <;> first | (rw [Sem.run_bind, h5]; rfl) | skip
  refine wpList_step fun K hK => ?_
  rw [if_pos hw]
  unfold Oper.wp
  rw [hr]
  exact hK _ _ hk
theorem res_BoxC {fn : Func} {a : Tmp} {tmps : Array Value} {n : Nat} {o : Oc} {w1 : World} (hf : fn.results = #[.cell a 174]) (ht : tmps[a]?.getD undef = .pointer (some ⟨n, 0, none⟩)) (h : BoxC n o w1) : (results fn tmps).run Tryz.prog w1 = .ok (cv o) w1 := by
  have h1 := Tryz.isAgg174
  have h2 := Tryz.sizeOf174
  have h3 : (loadCells ⟨n, 0, none⟩ 29).run Tryz.prog w1 = .ok (arrBoxC o) w1 := by
    have := run_cells (P := Tryz.prog) (w := w1) (b := n) (arrBoxC o).toList 0 #[] (fun j hj => by rw [Nat.zero_add, h.cell]; simp)
    simpa [loadCells, arrBoxC] using this
  have h4 : (loadVar 174 ⟨n, 0, none⟩).run Tryz.prog w1 = .ok (cv o) w1 := by
    unfold loadVar
    rw [Sem.run_bind, h1]
    simp only [Result.andThen]
    rw [if_pos trivial, Sem.run_bind, h2]
    simp only [Result.andThen]
    rw [Sem.run_bind, h3]
    rfl
  simp [results, hf, asAddr, ht, h4]
theorem oneC (o : Oc) (h1 : o.p.sm.oneCell' = true) (h2 : o.p.sp.oneCell' = true) (h3 : o.p.sz.oneCell' = true) (h4 : o.p.se.oneCell' = true) (h5 : o.rs.oneCell' = true) (h6 : o.f.ri.sm.oneCell' = true) (h7 : o.f.ri.sp.oneCell' = true) (h8 : o.f.ri.sz.oneCell' = true) (h9 : o.f.ri.se.oneCell' = true) : ∀ v ∈ (arrBoxC o).toList, v.oneCell' = true := by
  intro v hv
  simp only [arrBoxC, List.mem_cons, List.not_mem_nil, or_false] at hv
  rcases hv with rfl | rfl | rfl | rfl | rfl | rfl | rfl | rfl | rfl | rfl | rfl | rfl | rfl | rfl | rfl | rfl | rfl | rfl | rfl | rfl | rfl | rfl | rfl | rfl | rfl | rfl | rfl | rfl | rfl <;> first | rfl | assumption
end Go.Proofs.YtlcobgpgggegdaaGreatDoor.Pt

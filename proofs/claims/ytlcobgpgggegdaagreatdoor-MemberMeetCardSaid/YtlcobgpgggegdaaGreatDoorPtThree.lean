
/-
  What stays when some blocks are written; regions that write three results, in whatever order. No condition.
-/
import Derived.Test.YtlcobgpgggegdaaGreatDoorPtBox
import Derived.Test.YtlcobgpgggegdaaGreatDoorDsChA
import Derived.Test.YtlcobgpgggegdaaGreatDoorRegA
namespace Go.Proofs.YtlcobgpgggegdaaGreatDoor.Pt
open Go.RowKit Bnd
open Go.Proofs.YtlcobgpgggegdaaGreatDoor.Ds (De SM ArgM putT isD dv nodeB)
open Go.Proofs.YtlcobgpgggegdaaGreatDoor.Ss (Zs SZ ArgZ Cs)
open Go.Proofs.YtlcobgpgggegdaaGreatDoor.Od (Rep BoxR rv E0 SP ArgP)
open Go.Proofs.YtlcobgpgggegdaaGreatDoor.Dp (Ph BoxP qv HA HP SI ArgI)

/-- all but some blocks is as it was -/
structure But (ns : List Nat) (W w : World) : Prop where
  os : w.os = W.os
  tape : w.tape = W.tape
  output : w.output = W.output
  size : W.heap.size ≤ w.heap.size
  block : ∀ k, k < W.heap.size → k ∉ ns → w.heap[k]? = W.heap[k]?
theorem But.refl (ns : List Nat) (W : World) : But ns W W := ⟨rfl, rfl, rfl, Nat.le_refl _, fun _ _ _ => rfl⟩
theorem But.drew {ns : List Nat} {W w : World} (h : But ns W w) : But ns W w.drew := ⟨h.os, h.tape, h.output, h.size, h.block⟩
theorem But.call {ns : List Nat} {W w w' : World} (h : But ns W w) (hb : Below w.heap.size w w') : But ns W w' :=
  ⟨hb.os.trans h.os, hb.tape.trans h.tape, hb.output.trans h.output, Nat.le_trans h.size hb.size, fun k hk hn => (hb.block k (Nat.lt_of_lt_of_le hk h.size)).trans (h.block k hk hn)⟩
theorem But.set {ns : List Nat} {W w : World} (h : But ns W w) {n i : Nat} (hn : n ∈ ns) (v : Value) : But ns W (w.setCell ⟨n, i, none⟩ v) := by
  have hb : Below 0 w (w.setCell ⟨n, i, none⟩ v) := (Below.refl 0 w).setCell (Nat.zero_le _) v
  exact ⟨hb.os.trans h.os, hb.tape.trans h.tape, hb.output.trans h.output, Nat.le_trans h.size hb.size, fun k hk hm => (Below.heap_setCell w ⟨n, i, none⟩ v k (fun e => hm (e ▸ hn))).trans (h.block k hk hm)⟩
theorem But.below {ns : List Nat} {W w : World} {N : Nat} (h : But ns W w) (hN : N ≤ W.heap.size) (hn : ∀ n ∈ ns, N ≤ n) : Below N W w :=
  ⟨h.os, h.tape, h.output, h.size, fun k hk => h.block k (Nat.lt_of_lt_of_le hk hN) fun hm => by have := hn k hm; omega⟩
theorem But.cell {ns : List Nat} {W w : World} (h : But ns W w) {p : Addr} (hp : p.block < W.heap.size) (hn : p.block ∉ ns) : w.cell? p = W.cell? p := by
  simp only [World.cell?, h.block p.block hp hn]
theorem But.frozen {ns : List Nat} {W w : World} (h : But ns W w) {p : Addr} (hp : p.block < W.heap.size) (hn : p.block ∉ ns) : w.frozen? p = W.frozen? p := by
  simp only [World.frozen?, h.block p.block hp hn]
theorem But.boxP {ns : List Nat} {W w : World} (h : But ns W w) {n : Nat} {o : Ph} (hb : BoxP n o W) (hn : n ∉ ns) : BoxP n o w := by
  obtain ⟨h0, hc, hf⟩ := hb
  have e : ∀ o, w.cell? ⟨n, o, none⟩ = W.cell? ⟨n, o, none⟩ := fun o => h.cell (p := ⟨n, o, none⟩) h0 hn
  refine ⟨Nat.lt_of_lt_of_le h0 h.size, ?_, fun o => (h.frozen (p := ⟨n, o, none⟩) h0 hn).trans (hf o)⟩
  simp only [e]
  exact hc
theorem But.boxR {ns : List Nat} {W w : World} (h : But ns W w) {n : Nat} {o : Rep} {s : Value} (hb : BoxR n o s W) (hn : n ∉ ns) : BoxR n o s w := by
  obtain ⟨h0, hc, hf⟩ := hb
  have e : ∀ o, w.cell? ⟨n, o, none⟩ = W.cell? ⟨n, o, none⟩ := fun o => h.cell (p := ⟨n, o, none⟩) h0 hn
  refine ⟨Nat.lt_of_lt_of_le h0 h.size, ?_, fun o => (h.frozen (p := ⟨n, o, none⟩) h0 hn).trans (hf o)⟩
  simp only [e]
  exact hc
theorem But.boxC {ns : List Nat} {W w : World} (h : But ns W w) {n : Nat} {o : Oc} (hb : BoxC n o W) (hn : n ∉ ns) : BoxC n o w := (h.block n hb.lt hn).trans hb

/-- the slice's cells lie elsewhere -/
def OffV (n : Nat) (v : Value) : Prop := ∀ b o k c, v = .slice (some ⟨b, o, none⟩) k c → 0 < k → b ≠ n
theorem OffV.nil (n : Nat) (A : Option Addr) (c : Nat) : OffV n (.slice A 0 c) := fun b o k c' e hk => by injection e with _ e2; omega
theorem argM_but {ns : List Nat} {W w : World} {s : Value} {ms : List Ds.Mem} (h : ArgM W s ms) (hoff : ∀ n ∈ ns, OffV n s) (hb : But ns W w) : ArgM w s ms := by
  cases h with
  | nil => exact .nil
  | empty a c => exact .empty a c
  | some b o c ms h =>
    refine .some b o c ms ⟨_, _, rfl, fun h0 => ?_⟩
    obtain ⟨b', o2, e, hlt, _⟩ := h.at_ (k := 0) h0
    cases e
    have hne : b ∉ ns := fun hm => hoff b hm b o _ c rfl h0 rfl
    refine ⟨b, o, rfl, by have := hb.size; omega, fun i hi => ?_⟩
    obtain ⟨b', o2, e, _, q⟩ := h.at_ (k := i) hi
    cases e
    exact ⟨(hb.cell (p := ⟨b, o + i * 2, none⟩) hlt hne).trans q.1, (hb.cell (p := ⟨b, o + i * 2 + 1, none⟩) hlt hne).trans q.2⟩
theorem argM_low {W : World} {s : Value} {ms : List Ds.Mem} (h : ArgM W s ms) {n : Nat} (hn : W.heap.size ≤ n) : OffV n s := by
  cases h with
  | nil => intro b o k c e hk; cases e
  | empty a c => intro b o k c' e hk; injection e with _ e2; omega
  | some b o c ms h =>
    intro b1 o1 k c1 e hk
    injection e with e1 e2 e3
    injection e1 with e1
    injection e1 with e4 e5
    subst e2
    obtain ⟨b', o2, e, hlt, _⟩ := h.at_ (k := 0) hk
    cases e
    omega
theorem argZ_but {ns : List Nat} {W w : World} {s : Value} {ms : List Zs} (h : ArgZ W s ms) (hoff : ∀ n ∈ ns, OffV n s) (hb : But ns W w) : ArgZ w s ms := by
  cases h with
  | nil => exact .nil
  | empty a c => exact .empty a c
  | some b o c ms hc h =>
    refine .some b o c ms hc ⟨_, _, rfl, fun h0 => ?_⟩
    obtain ⟨b', o2, e, hlt, _⟩ := h.at_ (k := 0) h0
    cases e
    have hne : b ∉ ns := fun hm => hoff b hm b o _ c rfl h0 rfl
    refine ⟨b, o, rfl, by have := hb.size; omega, fun i hi => ?_⟩
    obtain ⟨b', o2, e, _, q⟩ := h.at_ (k := i) hi
    cases e
    exact q.keep fun j => hb.cell (p := ⟨b, j, none⟩) hlt hne
/-- none of a plot's lists lies there -/
structure OffP (n : Nat) (o : Ph) : Prop where
  sm : OffV n o.sm
  sp : OffV n o.sp
  sz : OffV n o.sz
  se : OffV n o.se
/-- a block whose integers side by side begin with 0: no members that may be lie in it -/
theorem argM_off {W : World} {s : Value} {ms : List Ds.Mem} (h : ArgM W s ms) {n : Nat} {arr : Array Value} {T : TypeId} (hz : W.heap[n]? = some (.cells arr T (0, 0)))
    (harr : ∀ i x y, arr[i]? = some (.int .i64 x) → arr[i + 1]? = some (.int .i64 y) → x = 0) (hm : ∀ m ∈ ms, m.1 ≠ 0) : OffV n s := by
  cases h with
  | nil => intro b o k c e hk; cases e
  | empty a c => intro b o k c' e hk; injection e with _ e2; omega
  | some b o c ms h =>
    intro b1 o1 k c1 e hk hbn
    injection e with e1 e2 e3
    injection e1 with e1
    injection e1 with e4 e5
    subst e2
    obtain ⟨b', o2, e, hlt, q0, q1⟩ := h.at_ (k := 0) hk
    cases e
    have hb : b = n := by omega
    subst hb
    rw [Nat.zero_mul, Nat.add_zero] at q0 q1
    have e0 : ∀ i, W.cell? ⟨b, i, none⟩ = arr[i]? := fun i => by simp [World.cell?, hz]
    rw [e0] at q0 q1
    exact hm _ (List.getElem_mem hk) (harr _ _ _ q0 q1)
/-- a block in which no four integers stand side by side: no sessions lie in it -/
theorem argZ_off {W : World} {s : Value} {zs : List Zs} (h : ArgZ W s zs) {n : Nat} (hn : ∀ i x0 x1 x2 x3, W.cell? ⟨n, i, none⟩ = some (.int .i64 x0) → W.cell? ⟨n, i + 1, none⟩ = some (.int .i64 x1) → W.cell? ⟨n, i + 2, none⟩ = some (.int .i64 x2) → W.cell? ⟨n, i + 3, none⟩ = some (.int .i64 x3) → False) : OffV n s := by
  cases h with
  | nil => intro b o k c e hk; cases e
  | empty a c => intro b o k c' e hk; injection e with _ e2; omega
  | some b o c zs hc h =>
    intro b1 o1 k c1 e hk hbn
    injection e with e1 e2 e3
    injection e1 with e1
    injection e1 with e4 e5
    subst e2
    obtain ⟨b', o2, e, hlt, q⟩ := h.at_ (k := 0) hk
    cases e
    have hb : b = n := by omega
    subst hb
    exact hn _ _ _ _ _ q.1 q.2.1 q.2.2.1 q.2.2.2.1

/-- the three results' boxes, by what has been written -/
structure R3 (W1 : World) (n4 n5 n6 i4 i5 i6 : Nat) (o : Ph) (r : Rep) (rs : Value) (f : Fh) (L : Nat → Bool) (u : Nat → Value) (wx : World) : Prop where
  but : But [n4, n5, n6] W1 wx
  b4 : BoxP n4 (bif L i4 then o else Ph.zero) wx
  b5 : BoxR n5 (bif L i5 then r else Od.Rep.zero) (bif L i5 then rs else .slice none 0 0) wx
  b6 : BoxF n6 (bif L i6 then f else Fh.zero) wx
section
variable {W1 wx w' : World} {n4 n5 n6 i4 i5 i6 k : Nat} {o : Ph} {r : Rep} {rs : Value} {f : Fh} {L : Nat → Bool} {u : Nat → Value}
theorem mark_ne (h : k ≠ i4) : St.mark L k i4 = L i4 := by simp [St.mark, Ne.symm h]
theorem mark_eq : St.mark L k k = true := by simp [St.mark]
theorem R3.call (h : R3 W1 n4 n5 n6 i4 i5 i6 o r rs f L u wx) (h4 : k ≠ i4) (h5 : k ≠ i5) (h6 : k ≠ i6) (hb : Below wx.heap.size wx w') (v : Value) : R3 W1 n4 n5 n6 i4 i5 i6 o r rs f (St.mark L k) (St.upd u k v) w' :=
  ⟨h.but.call hb, by rw [mark_ne h4]; exact h.b4.keep hb, by rw [mark_ne h5]; exact h.b5.keep hb, by rw [mark_ne h6]; exact h.b6.keep hb⟩
theorem R3.give (h : R3 W1 n4 n5 n6 i4 i5 i6 o r rs f L u wx) (h4 : k ≠ i4) (h5 : k ≠ i5) (h6 : k ≠ i6) (v : Value) : R3 W1 n4 n5 n6 i4 i5 i6 o r rs f (St.mark L k) (St.upd u k v) wx :=
  h.call h4 h5 h6 (Below.refl _ _) v
theorem R3.put4 (h : R3 W1 n4 n5 n6 i4 i5 i6 o r rs f L u wx) (h5 : i4 ≠ i5) (h6 : i4 ≠ i6) (hn5 : n4 ≠ n5) (hn6 : n4 ≠ n6) (v : Value) : R3 W1 n4 n5 n6 i4 i5 i6 o r rs f (St.mark L i4) (St.upd u i4 v) (putP wx n4 o) := by
  refine ⟨?_, ?_, ?_, ?_⟩
  · unfold putP
    iterate 11 refine But.set ?_ (by simp) _
    exact h.but
  · rw [mark_eq]; exact h.b4.put o
  · rw [mark_ne h5]
    unfold putP
    iterate 11 refine BoxR.other ?_ (by simpa using hn5) _
    exact h.b5
  · rw [mark_ne h6]
    unfold putP
    iterate 11 refine BoxF.other ?_ (by simpa using hn6) _
    exact h.b6
theorem R3.put5 (h : R3 W1 n4 n5 n6 i4 i5 i6 o r rs f L u wx) (h4 : i5 ≠ i4) (h6 : i5 ≠ i6) (hn4 : n5 ≠ n4) (hn6 : n5 ≠ n6) (v : Value) : R3 W1 n4 n5 n6 i4 i5 i6 o r rs f (St.mark L i5) (St.upd u i5 v) (putR wx n5 r rs) := by
  refine ⟨?_, ?_, ?_, ?_⟩
  · unfold putR
    iterate 5 refine But.set ?_ (by simp) _
    exact h.but
  · rw [mark_ne h4]
    unfold putR
    iterate 5 refine BoxP.other ?_ (by simpa using hn4) _
    exact h.b4
  · rw [mark_eq]; exact h.b5.put r rs
  · rw [mark_ne h6]
    unfold putR
    iterate 5 refine BoxF.other ?_ (by simpa using hn6) _
    exact h.b6
theorem R3.put6 (h : R3 W1 n4 n5 n6 i4 i5 i6 o r rs f L u wx) (h4 : i6 ≠ i4) (h5 : i6 ≠ i5) (hn4 : n6 ≠ n4) (hn5 : n6 ≠ n5) (v : Value) : R3 W1 n4 n5 n6 i4 i5 i6 o r rs f (St.mark L i6) (St.upd u i6 v) (putF wx n6 f) := by
  refine ⟨?_, ?_, ?_, ?_⟩
  · unfold putF
    iterate 13 refine But.set ?_ (by simp) _
    exact h.but
  · rw [mark_ne h4]
    unfold putF
    iterate 13 refine BoxP.other ?_ (by simpa using hn4) _
    exact h.b4
  · rw [mark_ne h5]
    unfold putF
    iterate 13 refine BoxR.other ?_ (by simpa using hn5) _
    exact h.b5
  · rw [mark_eq]; exact h.b6.put f
theorem R3.start (W1 : World) (h4 : BoxP n4 Ph.zero W1) (h5 : BoxR n5 Od.Rep.zero (.slice none 0 0) W1) (h6 : BoxF n6 Fh.zero W1) : R3 W1 n4 n5 n6 i4 i5 i6 o r rs f (fun _ => false) u W1.drew := ⟨(But.refl _ _).drew, h4, h5, h6⟩
theorem R3.fin (h : R3 W1 n4 n5 n6 i4 i5 i6 o r rs f L u wx) (h4 : L i4 = true) (h5 : L i5 = true) (h6 : L i6 = true) : But [n4, n5, n6] W1 wx ∧ BoxP n4 o wx ∧ BoxR n5 r rs wx ∧ BoxF n6 f wx := by
  obtain ⟨a, b, c, d⟩ := h
  rw [h4] at b
  rw [h5] at c
  rw [h6] at d
  exact ⟨a, b, c, d⟩
end
theorem res_three {fn : Func} {a b c : Tmp} {tmps : Array Value} {n4 n5 n6 : Nat} {o : Ph} {r : Rep} {rs : Value} {f : Fh} {w1 : World} (hf : fn.results = #[.cell a 38, .cell b 85, .cell c 87]) (ha : tmps[a]?.getD undef = .pointer (some ⟨n4, 0, none⟩)) (hb : tmps[b]?.getD undef = .pointer (some ⟨n5, 0, none⟩)) (hc : tmps[c]?.getD undef = .pointer (some ⟨n6, 0, none⟩)) (h4 : BoxP n4 o w1) (h5 : BoxR n5 r rs w1) (h6 : BoxF n6 f w1) :
    (results fn tmps).run Tryz.prog w1 = .ok (.tuple #[qv o, rv r rs, fv f]) w1 := by
  have a1 := Tryz.isAgg38
  have a2 := Tryz.sizeOf38
  have a3 := Tryz.isAgg85
  have a4 := Tryz.sizeOf85
  have a5 := Tryz.isAgg87
  have a6 := Tryz.sizeOf87
  obtain ⟨_, ⟨c1, c2, c3, c4, c5, c6, c7, c8, c9, c10, c11⟩, _⟩ := h4
  obtain ⟨_, ⟨d1, d2, d3, d4, d5⟩, _⟩ := h5
  obtain ⟨_, ⟨e1, e2, e3, e4, e5, e6, e7, e8, e9, e10, e11, e12, e13⟩, _⟩ := h6
  simp [results, hf, go_sem, ha, hb, hc, a1, a2, a3, a4, a5, a6, c1, c2, c3, c4, c5, c6, c7, c8, c9, c10, c11, d1, d2, d3, d4, d5, e1, e2, e3, e4, e5, e6, e7, e8, e9, e10, e11, e12, e13]
/-- what Apply answers -/
def ApplyOut (w : World) (x : Out) (e : Ending) (w' : World) : Prop := ∃ oc : Oc, e = .returned (.tuple #[qv oc.p, rv oc.r oc.rs, fv oc.f]) ∧ oc.out = x ∧ HA w' oc.p ∧ HA w' oc.f.ri ∧ (∃ A c, oc.rs = .slice A oc.r.ps.length c) ∧ Below w.heap.size w w'
end Go.Proofs.YtlcobgpgggegdaaGreatDoor.Pt

/-
  The program's Scan: a range over within's function, that is left by a return in its body. Conditions: pairs by rising keys, at most 100,000; the list has room for what it holds.
-/
import Derived.Test.YthcmnkmfhgoddaaGreatDoorDpWith
import Derived.Test.YthcmnkmfhgoddaaGreatDoorDpHHA
import Derived.Test.YthcmnkmfhgoddaaGreatDoorSsMA
namespace Go.Proofs.YthcmnkmfhgoddaaGreatDoor.Dp
open Go.RowKit Bnd
open Go.Proofs.YthcmnkmfhgoddaaGreatDoor.Od (Pr SP ArgP OwnP pv pcells infoP)
open Go.Proofs.YthcmnkmfhgoddaaGreatDoor.O (hasB)
open Go.Proofs.YthcmnkmfhgoddaaGreatDoor.Sf (Up scanP)
open Go.Proofs.YthcmnkmfhgoddaaGreatDoor.Ds (Ix vals_snoc vals_length)
open Go.Proofs.YthcmnkmfhgoddaaGreatDoor.Ss (mixB)
attribute [local go_sem] Oper.semAt_some
theorem lim_all {P : List Pr} {f t : ByteArray} {lim : Int} {q m M : Nat} (hs : scanP P f t = (P.drop q).take m) (_hm : q + m ≤ P.length) (hM : (max lim 0).toNat = M) (h : m ≤ M) : limP P f t lim = (scanP P f t, Od.E0) := by
  unfold limP
  rw [hM, List.getElem?_eq_none (by rw [hs, List.length_take, List.length_drop]; omega)]
theorem lim_some {P : List Pr} {f t : ByteArray} {lim : Int} {q m M : Nat} (hs : scanP P f t = (P.drop q).take m) (hm : q + m ≤ P.length) (hM : (max lim 0).toNat = M) (h : M < m) : limP P f t lim = ((P.drop q).take M, (nthP P (q + M)).1) := by
  have hl : M < (scanP P f t).length := by rw [hs, List.length_take, List.length_drop]; omega
  unfold limP
  rw [hM, List.getElem?_eq_getElem hl]
  simp only
  have e1 : (scanP P f t)[M] = nthP P (q + M) := by
    rw [nthP_is (by omega)]
    simp only [hs, List.getElem_take, List.getElem_drop]
  rw [e1, hs, List.take_take, show min M m = M by omega]
theorem take_nth {P : List Pr} {q k : Nat} (h : q + k ≤ P.length) : (P.drop q).take k = (List.range k).map fun i => nthP P (q + i) := by
  refine List.ext_getElem (by simp; omega) fun i h1 h2 => ?_
  simp only [List.length_map, List.length_range] at h2
  simp only [List.getElem_take, List.getElem_drop, List.getElem_map, List.getElem_range]
  rw [nthP_is (by omega)]
theorem pre_nth {P : List Pr} {q m k : Nat} {pre : List (Ix m)} (h : pre.map (·.1) = List.range k) : (pre.map fun x => nthP P (q + x.1)) = (List.range k).map fun i => nthP P (q + i) := by
  rw [← h, List.map_map]
  rfl
theorem obj_own (n : Nat) (o : Obj) (hc : o.isCells = true) : Own (fun (_ : Unit) W => W.heap[n]? = some o) := by
  rintro _ X Y row h hg hr
  exact (grownBy_keeps_cells hg hr h hc).trans h
theorem obj_not_row {W : World} {B : Nat} {cs : Array Value} {t e : TypeId} {z : Nat × Nat} (h : W.heap[B]? = some (.cells cs t z)) (hte : t ≠ e) {base size k : Nat} {v : Value} {xs : List Value} (hr : W.ownsRow base e size v k xs) : some B ≠ v.ownBlock := by
  rcases hr.2 with ⟨rfl, _⟩ | ⟨g, cap, cur, rfl, _, hgb, _⟩
  · simp [Value.ownBlock]
  · intro e'
    obtain rfl : B = g := by simpa [Value.ownBlock] using e'
    have := h.symm.trans hgb
    simp at this
    exact hte this.2.1
structure SC (w : World) (q : Nat) (ps : List Pr) (f t : ByteArray) (B : Option Addr) (np b : Nat) (lim : Int) (M m : Nat) (pre : List (Ix m)) (W : World) : Prop where
  row : ∃ v, Boxed W (w.heap.size + 4) 34 v ∧ W.ownsRow (w.heap.size + 4) 85 2 v pre.length (pcells (pre.map fun x => nthP ps (q + x.1))) ∧ True
  le : pre.length ≤ M
  rl : Boxed W (w.heap.size + 1) 3 (.int .i64 lim)
  r0 : Boxed W (w.heap.size + 2) 34 (.slice none 0 0)
  r1 : Boxed W (w.heap.size + 3) 9 (.string ⟨#[]⟩)
  b0 : Boxed W (w.heap.size + 5) 34 (.slice B np b)
  b1 : W.heap[w.heap.size + 6]? = some (.cells #[.string f, .string t] 23 (0, 0))
  low : Below w.heap.size w W
theorem sc_own (w : World) (q : Nat) (ps : List Pr) (f t : ByteArray) (B : Option Addr) (np b : Nat) (lim : Int) (M m K : Nat) (hK : w.heap.size ≤ K) : OwnFrom K (fun (pre : List (Ix m)) W => SC w q ps f t B np b lim M m pre W) := by
  intro pre X Y row h hg hr
  have hr2 : ∀ r, row = some r → ∃ o : Obj, X.heap[r]? = some o ∧ o.isCells = false := fun r e => (hr r e).2
  obtain ⟨h1, h2, h3, h4, h5, h6, h7, h8⟩ := h
  exact ⟨holdsRow_own (w.heap.size + 4) (w.heap.size + 4) 34 85 2 (fun p : List (Ix m) => p.length) (fun p => pcells (p.map fun x => nthP ps (q + x.1))) (fun _ _ => True) pre X Y row h1 hg hr2, h2,
    boxed_own _ _ (fun _ : Unit => _) () X Y row h3 hg hr2, boxed_own _ _ (fun _ : Unit => _) () X Y row h4 hg hr2, boxed_own _ _ (fun _ : Unit => _) () X Y row h5 hg hr2, boxed_own _ _ (fun _ : Unit => _) () X Y row h6 hg hr2,
    obj_own _ _ rfl () X Y row h7 hg hr2, ownFrom_below (β := Unit) (Nat.le_refl _) hK () X Y row h8 hg hr⟩
structure SX (w : World) (q : Nat) (ps : List Pr) (M m : Nat) (pre : List (Ix m)) (W : World) : Prop where
  len : pre.length = M + 1
  row : ∃ v, Boxed W (w.heap.size + 2) 34 v ∧ W.ownsRow (w.heap.size + 4) 85 2 v M (pcells ((pre.take M).map fun x => nthP ps (q + x.1))) ∧ True
  key : ∃ x, pre[M]? = some x ∧ Boxed W (w.heap.size + 3) 9 (.string (nthP ps (q + x.1)).1)
  low : Below w.heap.size w W
theorem sx_own (w : World) (q : Nat) (ps : List Pr) (M m K : Nat) (hK : w.heap.size ≤ K) : OwnFrom K (fun (pre : List (Ix m)) W => SX w q ps M m pre W) := by
  intro pre X Y row h hg hr
  have hr2 : ∀ r, row = some r → ∃ o : Obj, X.heap[r]? = some o ∧ o.isCells = false := fun r e => (hr r e).2
  obtain ⟨h1, h2, ⟨x, h5, h3⟩, h4⟩ := h
  exact ⟨h1, holdsRow_own (w.heap.size + 4) (w.heap.size + 2) 34 85 2 (fun _ : List (Ix m) => M) (fun p => pcells ((p.take M).map fun x => nthP ps (q + x.1))) (fun _ _ => True) pre X Y row h2 hg hr2,
    ⟨x, h5, boxed_own _ _ (fun _ : Unit => _) () X Y row h3 hg hr2⟩, ownFrom_below (β := Unit) (Nat.le_refl _) hK () X Y row h4 hg hr⟩
structure SR (w : World) (W : World) (v : Value) (key : ByteArray) (xs : List Value) (M : Nat) (Bx : Nat) (x y : ByteArray) (L : Nat → Bool) (wx : World) : Prop where
  l : Boxed wx (w.heap.size + 4) 34 v
  own : wx.ownsRow (w.heap.size + 4) 85 2 v M xs
  p : wx.heap[Bx]? = some (.cells #[.string x, .string y] 85 (0, 0))
  a : Boxed wx (w.heap.size + 2) 34 (if L 3 = true then v else .slice none 0 0)
  b : Boxed wx (w.heap.size + 3) 9 (.string (if L 4 = true then key else ⟨#[]⟩))
  ko : KeepsOthers W wx
  low : Below w.heap.size w wx
theorem cell_two_new (w : World) (x y : Value) (t : TypeId) : ∀ j u, [x, y][j]? = some u → (w.alloc (.cells #[x, y] t)).cell? ((⟨w.heap.size, 0, none⟩ : Addr).add j) = some u := by
  intro j u hj
  match j, hj with
  | 0, hj => simp at hj; subst hj; exact World.cell?_alloc_new w _ _ 0
  | 1, hj => simp at hj; subst hj; exact World.cell?_alloc_new w _ _ 1
  | j + 2, hj => simp at hj
theorem box_appP {wy w1 : World} {tmp : Obj} {v : Value} {base size k B : Nat} {t e : TypeId} {u : Value} {xs : List Value} (h : Boxed wy B t u) (hrow : wy.ownsRow base e size v k xs) (k3 : (wy.alloc tmp).grownBy w1 v.ownBlock) (ht : t ≠ e) (Lb : Nat) (hne : B ≠ Lb) (x : Value) : Boxed (w1.setCell ⟨Lb, 0, none⟩ x) B t u :=
  ((Boxed.alloc h tmp).kept k3 (Boxed.not_row h ht hrow)).other hne x
theorem obj_appP {wy w1 : World} {tmp : Obj} {v : Value} {base size k B : Nat} {t e : TypeId} {cs : Array Value} {z : Nat × Nat} {xs : List Value} (h : wy.heap[B]? = some (.cells cs t z)) (hrow : wy.ownsRow base e size v k xs) (k3 : (wy.alloc tmp).grownBy w1 v.ownBlock) (ht : t ≠ e) (Lb : Nat) (hne : B ≠ Lb) (x : Value) : (w1.setCell ⟨Lb, 0, none⟩ x).heap[B]? = some (.cells cs t z) := by
  have hlt := (Array.getElem?_eq_some_iff.1 h).1
  have h1 : (wy.alloc tmp).heap[B]? = some (.cells cs t z) := (Below.heap_alloc _ _ _ hlt).trans h
  have h2 : w1.heap[B]? = some (.cells cs t z) := (k3.block B (by simp; omega) (obj_not_row h ht hrow)).trans h1
  exact (Below.heap_setCell w1 ⟨Lb, 0, none⟩ x B hne).trans h2
theorem obj_set {W : World} {n : Nat} {o : Obj} (h : W.heap[n]? = some o) {a : Addr} (ha : n ≠ a.block) (u : Value) : (W.setCell a u).heap[n]? = some o := (Below.heap_setCell W a u n ha).trans h
set_option maxRecDepth 100000 in
set_option maxHeartbeats 16000000 in
theorem inner_scan (d : Ds.De) (ps : List Pr) (zs : List Ss.Zs) (fr : Bool) (ea : List Int) (al : Int) (A B C D : Option Addr) (nm np nz ne a b c g : Nat) (f t : ByteArray) (lim : Int) (w : World) (hv : SP w w.heap.size (.slice B np b) ps) (hn : ps.length = np) (hu : Up ps) (hl : np ≤ 100000) (hc : np ≤ b) (_hlim : M.inR lim) :
    CallsIn Fence.wide 5 Tryz.prog 31 #[qv ⟨d, .slice A nm a, ps, .slice B np b, zs, .slice C nz c, fr, ea, .slice D ne g, al⟩, .string f, .string t, .int .i64 lim] w fun e w' => ∃ v, e = .returned (.tuple #[v, .string (limP ps f t lim).2]) ∧ OwnP w' w.heap.size v (limP ps f t lim).1 ∧ Below w.heap.size w w' := by
  obtain ⟨m, hm, hs, hin, hout⟩ := scan_run hu f t
  obtain ⟨q, hq⟩ : ∃ q, placeP ps f = q := ⟨_, rfl⟩
  rw [hq] at hm hs
  have hin : ∀ i (h : q + i < ps.length), i < m → hasB (Bnd.B f t) ps[q + i].1.toList = true := by subst hq; exact hin
  have hout : ∀ h : q + m < ps.length, hasB (Bnd.B f t) ps[q + m].1.toList = false := by subst hq; exact hout
  obtain ⟨M, hM⟩ : ∃ M, (max lim 0).toNat = M := ⟨_, rfl⟩
  have hMl : lim ≤ (M : Int) ∧ (lim < 0 ∨ (M : Int) = lim) ∧ (lim < 0 → M = 0) := by omega
  have hall := fun h => lim_all hs hm hM h
  have hsome := fun h => lim_some hs hm hM h
  have HALL := Lib.hid hall
  have HSOME := Lib.hid hsome
  have HS := Lib.hid hs
  have HQ := Lib.hid hq
  have HM := Lib.hid hm
  have HIN := Lib.hid hin
  have HOUT := Lib.hid hout
  have HNP := Lib.hid hn
  have HU := Lib.hid hu
  have HML := Lib.hid hMl
  have hm9 : m ≤ 100000 := by omega
  clear hall hsome hs hin hout hq hM hMl hm hu
  refine callsIn_of_wp_marks Tryz.func31 rfl trivial ?_ rfl
  simp only [Tryz.ntmps31, List.size_toArray, List.length_cons, List.length_nil, Nat.reduceAdd, Nat.reduceSub, Array.replicate_succ, Array.replicate_zero, List.push_toArray, List.append_toArray, List.nil_append, List.cons_append]
  gi_wp2_with (refine ⟨trivial, ?_⟩; gi_at_call 79; refine (within_in 4 _ _ _ _ _ _).mono ?_; rintro e w2 ⟨rfl, rfl⟩)
  obtain ⟨W0, hW0⟩ : ∃ W0, (((((((w.alloc (.cells #[.int .i64 d.id, .string d.f, .string d.t, .int .i64 d.gen, .slice A nm a, .int .i64 d.next, .slice B np b, .slice C nz c, .bool fr, .slice D ne g, .int .i64 al] 38)).alloc (.cells #[.int .i64 lim] 3)).alloc (.cells #[.slice none 0 0] 34)).alloc (.cells #[.string ⟨#[]⟩] 9)).alloc (.cells #[.slice none 0 0] 34)).alloc (.cells #[.slice B np b] 34)).alloc (.cells #[.string f, .string t] 23)) = W0 := ⟨_, rfl⟩
  have rl : Boxed W0 (w.heap.size + 1) 3 (.int .i64 lim) := by
    have := (((((Boxed.new (w.alloc (.cells #[.int .i64 d.id, .string d.f, .string d.t, .int .i64 d.gen, .slice A nm a, .int .i64 d.next, .slice B np b, .slice C nz c, .bool fr, .slice D ne g, .int .i64 al] 38)) 3 (.int .i64 lim)).alloc (.cells #[.slice none 0 0] 34)).alloc (.cells #[.string ⟨#[]⟩] 9)).alloc (.cells #[.slice none 0 0] 34)).alloc (.cells #[.slice B np b] 34)).alloc (.cells #[.string f, .string t] 23)
    simp only [World.size_alloc] at this
    exact hW0 ▸ this
  have r0 : Boxed W0 (w.heap.size + 2) 34 (.slice none 0 0) := by
    have := ((((Boxed.new ((w.alloc (.cells #[.int .i64 d.id, .string d.f, .string d.t, .int .i64 d.gen, .slice A nm a, .int .i64 d.next, .slice B np b, .slice C nz c, .bool fr, .slice D ne g, .int .i64 al] 38)).alloc (.cells #[.int .i64 lim] 3)) 34 (.slice none 0 0)).alloc (.cells #[.string ⟨#[]⟩] 9)).alloc (.cells #[.slice none 0 0] 34)).alloc (.cells #[.slice B np b] 34)).alloc (.cells #[.string f, .string t] 23)
    simp only [World.size_alloc] at this
    exact hW0 ▸ this
  have r1 : Boxed W0 (w.heap.size + 3) 9 (.string ⟨#[]⟩) := by
    have := (((Boxed.new (((w.alloc (.cells #[.int .i64 d.id, .string d.f, .string d.t, .int .i64 d.gen, .slice A nm a, .int .i64 d.next, .slice B np b, .slice C nz c, .bool fr, .slice D ne g, .int .i64 al] 38)).alloc (.cells #[.int .i64 lim] 3)).alloc (.cells #[.slice none 0 0] 34)) 9 (.string ⟨#[]⟩)).alloc (.cells #[.slice none 0 0] 34)).alloc (.cells #[.slice B np b] 34)).alloc (.cells #[.string f, .string t] 23)
    simp only [World.size_alloc] at this
    exact hW0 ▸ this
  have rv : Boxed W0 (w.heap.size + 4) 34 (.slice none 0 0) := by
    have := ((Boxed.new ((((w.alloc (.cells #[.int .i64 d.id, .string d.f, .string d.t, .int .i64 d.gen, .slice A nm a, .int .i64 d.next, .slice B np b, .slice C nz c, .bool fr, .slice D ne g, .int .i64 al] 38)).alloc (.cells #[.int .i64 lim] 3)).alloc (.cells #[.slice none 0 0] 34)).alloc (.cells #[.string ⟨#[]⟩] 9)) 34 (.slice none 0 0)).alloc (.cells #[.slice B np b] 34)).alloc (.cells #[.string f, .string t] 23)
    simp only [World.size_alloc] at this
    exact hW0 ▸ this
  have b0 : Boxed W0 (w.heap.size + 5) 34 (.slice B np b) := by
    have := (Boxed.new (((((w.alloc (.cells #[.int .i64 d.id, .string d.f, .string d.t, .int .i64 d.gen, .slice A nm a, .int .i64 d.next, .slice B np b, .slice C nz c, .bool fr, .slice D ne g, .int .i64 al] 38)).alloc (.cells #[.int .i64 lim] 3)).alloc (.cells #[.slice none 0 0] 34)).alloc (.cells #[.string ⟨#[]⟩] 9)).alloc (.cells #[.slice none 0 0] 34)) 34 (.slice B np b)).alloc (.cells #[.string f, .string t] 23)
    simp only [World.size_alloc] at this
    exact hW0 ▸ this
  have b1 : W0.heap[w.heap.size + 6]? = some (.cells #[.string f, .string t] 23 (0, 0)) := by
    have := World.alloc_heap_new ((((((w.alloc (.cells #[.int .i64 d.id, .string d.f, .string d.t, .int .i64 d.gen, .slice A nm a, .int .i64 d.next, .slice B np b, .slice C nz c, .bool fr, .slice D ne g, .int .i64 al] 38)).alloc (.cells #[.int .i64 lim] 3)).alloc (.cells #[.slice none 0 0] 34)).alloc (.cells #[.string ⟨#[]⟩] 9)).alloc (.cells #[.slice none 0 0] 34)).alloc (.cells #[.slice B np b] 34)) (.cells #[.string f, .string t] 23)
    simp only [World.size_alloc] at this
    exact hW0 ▸ this
  have hB0 : Below w.heap.size w W0 := hW0 ▸ (by (repeat' (first | with_reducible assumption | with_reducible exact Below.refl _ _ | with_reducible refine Below.alloc ?_ ?_ _ | with_reducible refine Below.setCell ?_ ?_ _ | with_reducible refine Below.drew ?_ | omega | (simp; done) | (simp; omega))))
  have hz0 : W0.heap.size = w.heap.size + 7 := by rw [← hW0]; simp
  have hsp : SP W0 w.heap.size (.slice B ps.length b) ps := by rw [hn]; exact hv.keep fun p hp => hB0.cell hp
  have c0 := b0.cell
  have c1 : W0.cell? ⟨w.heap.size + 6, 0, none⟩ = some (.string f) := by simp [World.cell?, b1]
  have c2 : W0.cell? ⟨w.heap.size + 6, 1, none⟩ = some (.string t) := by simp [World.cell?, b1]
  rw [← hn] at c0
  rw [hW0]
  clear hW0 hv
  refine wpIn_rangeFunc_ownH (w0 := W0) (N := m) rfl (by omega) (gf := 149) (lb := #[.pointer (some ⟨w.heap.size + 5, 0, none⟩), .pointer (some ⟨w.heap.size + 6, 0, none⟩)]) rfl trivial (enters_of Tryz.func149 (by kernel_rfl) rfl)
    (within_stops 4 (by omega) w.heap.size (w.heap.size + 5) (w.heap.size + 6) m q ps B b f t HU.out (by omega) (by omega) HQ HM HIN HOUT W0 (by omega) (by omega) (by omega) hsp c0 c1 c2) kpW_t (kpW_b (by omega) (by omega) (by omega)) (Below.refl _ _) (fun _ => rfl)
    (fun pre W => SC w q ps f t B np b lim M m pre W)
    (fun c pre W => c = .ret ∧ SX w q ps M m pre W)
    (sc_own w q ps f t B np b lim M m _ (by omega))
    (fun c s X Y row hs hg hr => ⟨hs.1, sx_own w q ps M m _ (by omega) s X Y row hs.2 hg hr⟩)
    ⟨⟨_, rv, World.ownsRow_nil _ _ _ _, trivial⟩, Nat.zero_le _, rl, r0, r1, b0, b1, hB0⟩
    (fun x a' W => ∃ Bx, w.heap.size + 6 < Bx ∧ W.heap[Bx]? = some (.cells #[.string (nthP ps (q + x.1)).1, .string (nthP ps (q + x.1)).2] 85 (0, 0)) ∧ a' = { tmps := #[qv ⟨d, .slice A nm a, ps, .slice B np b, zs, .slice C nz c, fr, ea, .slice D ne g, al⟩, .string f, .string t, .int .i64 lim, .pointer (some ⟨w.heap.size, 0, none⟩), undef, undef, .pointer (some ⟨w.heap.size + 1, 0, none⟩), .pointer (some ⟨w.heap.size + 1 + 1, 0, none⟩), .pointer (some ⟨w.heap.size + 1 + 1 + 1, 0, none⟩), .pointer (some ⟨w.heap.size + 1 + 1 + 1 + 1, 0, none⟩), .pointer (some ⟨Bx, 0, none⟩), .pointer (some ⟨w.heap.size, 6, none⟩), .slice B np b, .string f, .string t, .agg #[.string f, .string t], .func (.func 149) #[] #[.pointer (some ⟨w.heap.size + 1 + 1 + 1 + 1 + 1, 0, none⟩), .pointer (some ⟨w.heap.size + 1 + 1 + 1 + 1 + 1 + 1, 0, none⟩)], pv (nthP ps (q + x.1)), undef, undef, undef, undef, undef, undef, undef, undef, undef, undef, undef, undef], defers := [] })
    (fun x a' _ X Y row hs hg hr => by obtain ⟨Bx, h1, h2, h3⟩ := hs; exact ⟨Bx, h1, obj_own Bx _ rfl () X Y row h2 hg (fun r e => (hr r e).2), h3⟩)
    ?assign ?body ?done ?stop
  case assign =>
    rintro l pre x W K hI hK
    have hzW := hI.low.size
    have hlW := (Array.getElem?_eq_some_iff.1 hI.b1).1
    obtain ⟨⟨x1, y1⟩, hxy⟩ : ∃ p, nthP ps (q + x.1) = p := ⟨_, rfl⟩
    simp only [hxy] at hK ⊢
    clear hxy
    gi_wp2
    refine hK _ _ ((KeepsOthers.alloc _ _).from _) (kpW_of ((Below.refl _ W).alloc (Nat.le_refl _) _) (by omega) (by omega) (by omega)) ((sc_own w q ps f t B np b lim M m _ (Nat.le_refl _)).alloc (s := pre) _ hI) ⟨W.heap.size, by omega, World.alloc_heap_new W _, rfl⟩
  case body =>
    rintro l pre x a' W hl ⟨r, hr⟩ ⟨⟨v, hv, hrow, _⟩, hle, hrl, hr0, hr1, hb0, hb1, hlow⟩ ⟨Bx, hBx, bX, rfl⟩ hlt
    obtain ⟨k, hk⟩ : ∃ k, pre.length = k := ⟨_, rfl⟩
    have HK := Lib.hid hk
    obtain ⟨⟨x1, y1⟩, hxy⟩ : ∃ p, nthP ps (q + x.1) = p := ⟨_, rfl⟩
    rw [hxy] at bX
    simp only [hxy]
    have HXY := Lib.hid hxy
    rw [hk] at hle hlt hrow
    obtain ⟨A7, c7, rfl⟩ : ∃ A7 c7, v = .slice A7 k c7 := by
      rcases hrow.2 with ⟨rfl, h0⟩ | ⟨g', cap', cur', rfl, _⟩
      · exact ⟨none, 0, by rw [h0]⟩
      · exact ⟨_, _, rfl⟩
    have hzW := hlow.size
    have hlW := (Array.getElem?_eq_some_iff.1 hb1).1
    have hBxl := (Array.getElem?_eq_some_iff.1 bX).1
    have d0 := hv.cell
    have dl := hrl.cell
    have x0 : W.cell? ⟨Bx, 0, none⟩ = some (.string x1) := by simp [World.cell?, bX]
    have x2 : W.cell? ⟨Bx, 1, none⟩ = some (.string y1) := by simp [World.cell?, bX]
    clear hk hxy
    by_cases h : lim ≤ (k : Int)
    · have g1 : ((k : Int) ≥ lim) = True := eq_true h
      have g2 : (lim ≤ (k : Int)) = True := eq_true h
      have hkM : k = M := by have := HML.out; omega
      subst hkM
      clear h
      gi_wp2
      refine St.wpIn_region_calm (fun L _ wx => SR w W (.slice A7 k c7) x1 (pcells (pre.map fun x : Ix m => nthP ps (q + x.1))) k Bx x1 y1 L wx) (by kernel_rfl) mixB (by kernel_rfl) (by kernel_rfl) ⟨hv, hrow, bX, hr0, hr1, Ss.keepsOthers_of (Below.refl _ W).drew, hlow.drew⟩ ?_
      iterate 3
        apply St.mix_give
        · rfl
        · intro L u' wx hS hcl hrd hag
          have z0 := hS.l.cell
          have z1 : wx.cell? ⟨Bx, 0, none⟩ = some (.string x1) := by simp [World.cell?, hS.p]
          go_simp
          try with_reducible rfl
        · exact fun L u' wx hS => ⟨hS.l, hS.own, hS.p, hS.a, hS.b, hS.ko, hS.low⟩
        simp only [Act.put, List.setIfInBounds_toArray, List.set_cons_zero, List.set_cons_succ]
      refine St.mix_skip rfl ?_ ?_
      · intro L u' wx hS hcl hrd hag
        have z0 := hS.a.cell
        have z1 := hS.a.frozen
        refine ⟨wx.setCell ⟨w.heap.size + 2, 0, none⟩ (.slice A7 k c7), ?_, hS.l.other (by omega) _, ownsRow_setCell_below hS.own (a := ⟨w.heap.size + 2, 0, none⟩) (by show w.heap.size + 2 < w.heap.size + 4; omega) _, obj_set hS.p (by simp; omega) _, ?_, hS.b.other (by omega) _, hS.ko.trans (KeepsOthers.setCell _ _ _), hS.low.setCell (p := ⟨w.heap.size + 2, 0, none⟩) (by simp) _⟩
        · go_simp
          try with_reducible rfl
        · have h3 : St.mark L 3 3 = true := by simp [St.mark]
          rw [h3, if_pos rfl]
          exact hS.a.set _
      simp only [Act.put]
      refine St.mix_skip rfl ?_ ?_
      · intro L u' wx hS hcl hrd hag
        have z0 := hS.b.cell
        have z1 := hS.b.frozen
        refine ⟨wx.setCell ⟨w.heap.size + 3, 0, none⟩ (.string x1), ?_, hS.l.other (by omega) _, ownsRow_setCell_below hS.own (a := ⟨w.heap.size + 3, 0, none⟩) (by show w.heap.size + 3 < w.heap.size + 4; omega) _, obj_set hS.p (by simp; omega) _, hS.a.other (by omega) _, ?_, hS.ko.trans (KeepsOthers.setCell _ _ _), hS.low.setCell (p := ⟨w.heap.size + 3, 0, none⟩) (by simp) _⟩
        · go_simp
          try with_reducible rfl
        · have h4 : St.mark L 4 4 = true := by simp [St.mark]
          rw [h4, if_pos rfl]
          exact hS.b.set _
      simp only [Act.put]
      refine St.mix_last ?_
      intro L wx hS hall
      have ha := hS.a
      have hb := hS.b
      rw [hall 3 (by decide), if_pos rfl] at ha
      rw [hall 4 (by decide), if_pos rfl] at hb
      have hown := hS.own
      have hko := hS.ko
      have hlo := hS.low
      have htk : (pre ++ [x]).take k = pre := by rw [← HK.out]; simp
      have hat : (pre ++ [x])[k]? = some x := by rw [← HK.out]; simp
      have hkey : (nthP ps (q + x.1)).1 = x1 := by rw [HXY.out]
      have HTK := Lib.hid htk
      have HAT := Lib.hid hat
      have HKEY := Lib.hid hkey
      clear hS hall htk hat hkey
      gi_wp2
      exact ⟨hko.from _, rfl, ⟨by rw [List.length_append, HK.out]; rfl, ⟨_, ha, by rw [HTK.out]; exact hown, trivial⟩, ⟨x, HAT.out, by rw [HKEY.out]; exact hb⟩, hlo⟩⟩
    · have g1 : ((k : Int) ≥ lim) = False := eq_false h
      have g2 : (lim ≤ (k : Int)) = False := eq_false h
      have hk1 : k + 1 ≤ M := by have := HML.out; omega
      clear h
      obtain ⟨i0, hi, hz0, hz1, hz2⟩ := info_parts infoP
      gi_wp2_with (gi_at_builtin; refine wpListIn_append_own _ rfl _ _ 34 rfl (w.heap.size + 4) 85 i0 (.agg #[.string Od.E0, .string Od.E0]) 2 32 Tryz.underlying34 hi hz0 hz1 hz2 rfl (by decide) _ _ _ rfl (hrow.alloc _) ⟨W.heap.size, 0, none⟩ 1 1 [.string x1, .string y1] rfl rfl (cell_two_new W _ _ _) (by simp [Value.oneCell']) (by unfold maxLen; omega) (by omega) (by simp; omega) ?_; intro v' w1 hown' hgrow _; obtain ⟨g', cap', rfl⟩ := ownsRow_succ hown'; obtain ⟨hv1, hv2, hr2, hk2, hb2⟩ := hv.appended (by decide) hrow (by omega) (Nat.le_refl _) hown' hgrow; have hc1 := hv1.cell; have hf1 := hv1.frozen)
      have z1 := box_appP hrl hrow hgrow (by decide) (w.heap.size + 4) (by omega) (.slice (some ⟨g', 0, none⟩) (k + 1) cap')
      have z2 := box_appP hr0 hrow hgrow (by decide) (w.heap.size + 4) (by omega) (.slice (some ⟨g', 0, none⟩) (k + 1) cap')
      have z3 := box_appP hr1 hrow hgrow (by decide) (w.heap.size + 4) (by omega) (.slice (some ⟨g', 0, none⟩) (k + 1) cap')
      have z5 := box_appP hb0 hrow hgrow (by decide) (w.heap.size + 4) (by omega) (.slice (some ⟨g', 0, none⟩) (k + 1) cap')
      have z6 := obj_appP hb1 hrow hgrow (by decide) (w.heap.size + 4) (by omega) (.slice (some ⟨g', 0, none⟩) (k + 1) cap')
      have q6 : ∀ i, (w1.setCell ⟨w.heap.size + 4, 0, none⟩ (.slice (some ⟨g', 0, none⟩) (k + 1) cap')).cell? ⟨w.heap.size + 6, i, none⟩ = W.cell? ⟨w.heap.size + 6, i, none⟩ := fun i => by
        simp only [World.cell?, z6, hb1]
      refine ⟨hk2.from _, ⟨fun p hp => hb2.cell (by omega), z5.cell.trans hb0.cell.symm, ⟨q6 0, q6 1⟩, hb2.size⟩, ⟨⟨_, hv2, ?_, trivial⟩, by rw [List.length_append, HK.out]; exact hk1, z1, z2, z3, z5, z6, hlow.trans (hb2.mono (by omega))⟩⟩
      rw [List.length_append, HK.out, List.map_append, Od.pcells_append]
      rw [show pcells ([x].map fun x : Ix m => nthP ps (q + x.1)) = [.string x1, .string y1] by rw [List.map_singleton, HXY.out]; rfl]
      exact hr2
  case done =>
    rintro D ys W hD hys ⟨⟨v, hv, hrow, _⟩, hle, hrl, hr0, hr1, hb0, hb1, hlow⟩ hK
    have hyl : ys.length = m := vals_length hys
    rw [hyl] at hle hrow
    have hans := HALL.out hle
    have hres : (ys.map fun x : Ix m => nthP ps (q + x.1)) = scanP ps f t := by
      rw [HS.out, take_nth HM.out]
      exact pre_nth hys
    rw [hres] at hrow
    have hsl : (scanP ps f t).length = m := by rw [← hres, List.length_map, hyl]
    obtain ⟨A7, c7, rfl⟩ : ∃ A7 c7, v = .slice A7 m c7 := by
      rcases hrow.2 with ⟨rfl, h0⟩ | ⟨g', cap', cur', rfl, _⟩
      · exact ⟨none, 0, by rw [h0]⟩
      · exact ⟨_, _, rfl⟩
    have d4 := hv.cell
    have d2 := hr0.cell
    have f2 := hr0.frozen
    have d3 := hr1.cell
    have f3 := hr1.frozen
    have hzW := hlow.size
    have hlW := (Array.getElem?_eq_some_iff.1 hb1).1
    have HAN := Lib.hid hans
    have HROW := Lib.hid hrow
    have HSL := Lib.hid hsl
    clear hres hans hyl hrow hsl
    gi_wp2
    have hK' := ((KeepsOthers.setCell W ⟨w.heap.size + 2, 0, none⟩ (.slice A7 m c7)).trans (KeepsOthers.setCell _ ⟨w.heap.size + 3, 0, none⟩ (.string ⟨#[]⟩))).same D _ hK rfl
    refine ⟨by simp, .inl ⟨_, _, rfl, run_takeDeferred hK', ?_⟩⟩
    have hc5 := cell_kept (show ((W.setCell ⟨w.heap.size + 2, 0, none⟩ (.slice A7 m c7)).setCell ⟨w.heap.size + 3, 0, none⟩ (.string ⟨#[]⟩)).cell? ⟨w.heap.size + 2, 0, none⟩ = some (.slice A7 m c7) by simp [go_sem, d2]) (grownBy_putObj' _ D (.deferred none)) (fun r e => by cases e; exact ⟨_, hK', rfl⟩)
    have hc6 := cell_kept (show ((W.setCell ⟨w.heap.size + 2, 0, none⟩ (.slice A7 m c7)).setCell ⟨w.heap.size + 3, 0, none⟩ (.string ⟨#[]⟩)).cell? ⟨w.heap.size + 3, 0, none⟩ = some (.string ⟨#[]⟩) by simp [go_sem, d3]) (grownBy_putObj' _ D (.deferred none)) (fun r e => by cases e; exact ⟨_, hK', rfl⟩)
    have hrow2 := ownsRow_setCell_below (ownsRow_setCell_below HROW.out (a := ⟨w.heap.size + 2, 0, none⟩) (by show w.heap.size + 2 < w.heap.size + 4; omega) (.slice A7 m c7)) (a := ⟨w.heap.size + 3, 0, none⟩) (by show w.heap.size + 3 < w.heap.size + 4; omega) (.string ⟨#[]⟩)
    have hrow3 := ownsRow_base (ownsRow_putObj hrow2 (.deferred none) hK' rfl) (show w.heap.size ≤ w.heap.size + 4 by omega)
    refine ⟨.tuple #[.slice A7 m c7, .string ⟨#[]⟩], by simp [results, Tryz.results31, go_sem, hc5, hc6], ?_⟩
    rw [HAN.out]
    refine ⟨_, rfl, ?_, ((hlow.setCell (p := ⟨w.heap.size + 2, 0, none⟩) (by simp) _).setCell (p := ⟨w.heap.size + 3, 0, none⟩) (by simp) _).trans (belowK_b (w := w) (Nat.le_refl _) _ D _ _ (by omega) hK' rfl rfl)⟩
    show World.ownsRow _ _ _ _ _ _ _
    rw [HSL.out]
    exact hrow3
  case stop =>
    rintro D c pre W hD ⟨k, hk, hpk⟩ ⟨rfl, ⟨hlen, ⟨v, hv, hrow, _⟩, ⟨x, hx, hkey⟩, hlow⟩⟩ hK
    have hpl := vals_length hpk
    have hkM : k = M + 1 := by omega
    have hMm : M < m := by omega
    have hans := HSOME.out hMm
    have hx1 : x.1 = M := by
      have h1 : (pre.map (·.1))[M]? = some x.1 := by rw [List.getElem?_map, hx]; rfl
      rw [hpk, List.getElem?_range (by omega)] at h1
      exact (Option.some.inj h1).symm
    have htk : ((pre.take M).map (·.1)) = List.range M := by
      rw [List.map_take, hpk, hkM, List.take_range]
      congr 1
      omega
    have hqm := HM.out
    have hres : ((pre.take M).map fun x : Ix m => nthP ps (q + x.1)) = (ps.drop q).take M := by
      rw [take_nth (by omega)]
      exact pre_nth htk
    rw [hres] at hrow
    rw [hx1] at hkey
    have hsl : ((ps.drop q).take M).length = M := by rw [List.length_take, List.length_drop]; omega
    obtain ⟨A7, c7, rfl⟩ : ∃ A7 c7, v = .slice A7 M c7 := by
      rcases hrow.2 with ⟨rfl, h0⟩ | ⟨g', cap', cur', rfl, _⟩
      · exact ⟨none, 0, by rw [h0]⟩
      · exact ⟨_, _, rfl⟩
    have HAN := Lib.hid hans
    have HROW := Lib.hid hrow
    have HSL := Lib.hid hsl
    have r0 := hv.cell
    have r1 := hkey.cell
    clear hans hres hpl hkM htk hsl hrow hx1 hx hlen hpk hqm
    gi_wp2
    refine ⟨by simp, .inl ⟨_, _, rfl, run_takeDeferred hK, ?_⟩⟩
    have hc5 := cell_kept r0 (grownBy_putObj' _ D (.deferred none)) (fun r e => by cases e; exact ⟨_, hK, rfl⟩)
    have hc6 := cell_kept r1 (grownBy_putObj' _ D (.deferred none)) (fun r e => by cases e; exact ⟨_, hK, rfl⟩)
    refine ⟨.tuple #[.slice A7 M c7, .string (nthP ps (q + M)).1], by simp [results, Tryz.results31, go_sem, hc5, hc6], ?_⟩
    rw [HAN.out]
    refine ⟨_, rfl, ?_, hlow.trans (belowK_b (w := w) (Nat.le_refl _) W D _ _ (by omega) hK rfl rfl)⟩
    show World.ownsRow _ _ _ _ _ _ _
    rw [HSL.out]
    exact ownsRow_base (ownsRow_putObj HROW.out (.deferred none) hK rfl) (show w.heap.size ≤ w.heap.size + 4 by omega)
theorem scan_any (o : Ph) (f t : ByteArray) (lim : Int) (w : World) (h : HA w o) (hu : Up o.ps) (hl : o.ps.length ≤ 100000) (hlim : M.inR lim) :
    Calls Tryz.prog 31 #[qv o, .string f, .string t, .int .i64 lim] w fun e w' => ∃ v, e = .returned (.tuple #[v, .string (limP o.ps f t lim).2]) ∧ OwnP w' w.heap.size v (limP o.ps f t lim).1 ∧ Below w.heap.size w w' := by
  have hsp := h.sp.sm
  have hrm := h.rp
  obtain ⟨d, ps, zs, fr, ea, al, A, B, C, D, a, b, c, g, rfl⟩ := h.hp.open
  exact callsIn_wide.1 (inner_scan d ps zs fr ea al A B C D _ _ _ _ a b c g f t lim w hsp rfl hu hl (hrm _ _ _ rfl) hlim)
end Go.Proofs.YthcmnkmfhgoddaaGreatDoor.Dp

/-
  readEntries: the entries whose text a text is. Conditions: texts of at most 30,000 bytes; the library's variables hold what their types allow.
-/
import Derived.Test.YtkpakiiijphjeaaGreatDoorPPoA
import Derived.Test.YtkpakiiijphjeaaGreatDoorPPoB
import Derived.Test.YtkpakiiijphjeaaGreatDoorPRoE
namespace Go.Proofs.YtkpakiiijphjeaaGreatDoor.Po
open Go.RowKit
open Ro (En tAt tAt_get Ix vals_length chunk2 chunks_in chunks_stops KpC kpC_t kpC_b keepsOthers_of ecells ecells_append infoE own_keep OwnE entsT)
open Go.Proofs.YtkpakiiijphjeaaGreatDoor.M (tieT intT inR)
attribute [local go_sem] Oper.semAt_some
theorem row_cells {w : World} {base : Nat} {v : Value} {ss : List ByteArray} (h : w.ownsRow base 9 1 v ss.length (ss.map Value.string)) :
    ∃ (g : Nat) (A : Option Addr) (cap : Nat), v = .slice A ss.length cap ∧ (0 < ss.length → A = some ⟨g, 0, none⟩ ∧ g < w.heap.size) ∧ ss.length ≤ cap ∧ cap ≤ maxLen ∧ ∀ i (_ : i < ss.length), w.cell? ⟨g, i, none⟩ = some (.string (tAt ss i)) := by
  rcases h.2 with ⟨e, h0⟩ | ⟨g, cap, cur, e, hbg, hgb, hnc, hcm, hcs, htk⟩
  · exact ⟨0, none, 0, by rw [e, h0], fun h => by omega, by omega, by unfold maxLen; omega, fun i hi => by omega⟩
  · refine ⟨g, _, cap, e, fun _ => ⟨rfl, (Array.getElem?_eq_some_iff.1 hgb).1⟩, hnc, hcm, fun i hi => ?_⟩
    have := h.cells (g := g) (by rw [e]; rfl) i _ (by rw [List.getElem?_map, List.getElem?_eq_getElem hi]; rfl)
    rw [Addr.add_lit, Nat.zero_add] at this
    rw [this, tAt_get hi]
noncomputable def entS (ss : List ByteArray) (j : Nat) : En := ((intT (tAt ss (j * 2)).data.toList).getD 0, tAt ss (j * 2 + 1))
theorem entS_succ (a b : ByteArray) (l : List ByteArray) (j : Nat) : entS (a :: b :: l) (j + 1) = entS l j := by
  unfold entS
  rw [show (j + 1) * 2 = j * 2 + 2 by omega, show j * 2 + 2 + 1 = j * 2 + 1 + 2 by omega]
  rfl
theorem entsO_all : ∀ (m : Nat) (ss : List ByteArray), ss.length = m * 2 → (∀ j, j < m → intT (tAt ss (j * 2)).data.toList ≠ none) → entsO (texts ss) = some ((List.range m).map (entS ss))
  | 0, ss, h, _ => by
    obtain rfl := List.length_eq_zero_iff.1 (by omega : ss.length = 0)
    rfl
  | m + 1, [], h, _ => by simp at h
  | m + 1, [_], h, _ => by simp at h; omega
  | m + 1, a :: b :: l, h, ha => by
    have hl : l.length = m * 2 := by simp at h; omega
    have h0 : intT a.data.toList ≠ none := ha 0 (by omega)
    have ih := entsO_all m l hl (fun j hj => by have := ha (j + 1) (by omega); rwa [show (j + 1) * 2 = j * 2 + 2 by omega, show tAt (a :: b :: l) (j * 2 + 2) = tAt l (j * 2) from rfl] at this)
    cases hi : intT a.data.toList with
    | none => exact absurd hi h0
    | some n =>
      show entsO (a.data.toList :: b.data.toList :: texts l) = _
      rw [entsO, hi, ih, List.range_succ_eq_map, List.map_cons, List.map_map]
      rw [show (entS (a :: b :: l)) ∘ Nat.succ = entS l from funext fun j => entS_succ a b l j]
      simp only [Option.map_some]
      have e0 : entS (a :: b :: l) 0 = (n, b) := by
        unfold entS
        rw [show tAt (a :: b :: l) (0 * 2) = a from rfl, show tAt (a :: b :: l) (0 * 2 + 1) = b from rfl, hi]; rfl
      rw [e0]
theorem entsO_bad : ∀ (m : Nat) (ss : List ByteArray), ss.length = m * 2 → (∃ j, j < m ∧ intT (tAt ss (j * 2)).data.toList = none) → entsO (texts ss) = none
  | 0, ss, h, hx => by obtain ⟨j, hj, _⟩ := hx; omega
  | m + 1, [], h, _ => by simp at h
  | m + 1, [_], h, _ => by simp at h; omega
  | m + 1, a :: b :: l, h, hx => by
    have hl : l.length = m * 2 := by simp at h; omega
    show entsO (a.data.toList :: b.data.toList :: texts l) = _
    rw [entsO]
    cases hi : intT a.data.toList with
    | none => rfl
    | some n =>
      obtain ⟨j, hj, hn⟩ := hx
      cases j with
      | zero => rw [show tAt (a :: b :: l) (0 * 2) = a from rfl, hi] at hn; cases hn
      | succ j =>
        rw [show (j + 1) * 2 = j * 2 + 2 by omega, show tAt (a :: b :: l) (j * 2 + 2) = tAt l (j * 2) from rfl] at hn
        simp only
        rw [entsO_bad m l hl ⟨j, by omega, hn⟩]; rfl
theorem entsO_odd : ∀ {l : List (List UInt8)}, l.length % 2 = 1 → entsO l = none
  | [], h => by simp at h
  | [_], _ => rfl
  | a :: b :: l, h => by
    rw [entsO, entsO_odd (l := l) (by simp at h; omega)]
    cases intT a <;> rfl
def EntsOut (base : Nat) (o : Option (List En)) (e : Ending) (w' : World) : Prop := match o with
  | some es => ∃ v, e = .returned (.tuple #[v, .int .i64 0]) ∧ OwnE w' base v es
  | none => e = .returned (.tuple #[.slice none 0 0, .int .i64 140])
theorem EntsOut.no {base : Nat} {o : Option (List En)} {w' : World} (h : o = none) : EntsOut base o (.returned (.tuple #[.slice none 0 0, .int .i64 140])) w' := by subst h; exact rfl
theorem obj_not_row {W : World} {B : Nat} {cs : Array Value} {t e : TypeId} {z : Nat × Nat} (h : W.heap[B]? = some (.cells cs t z)) (hte : t ≠ e) {base size k : Nat} {v : Value} {xs : List Value} (hr : W.ownsRow base e size v k xs) : some B ≠ v.ownBlock := by
  rcases hr.2 with ⟨rfl, _⟩ | ⟨g, cap, cur, rfl, _, hgb, _⟩
  · simp [Value.ownBlock]
  · intro e'
    obtain rfl : B = g := by simpa [Value.ownBlock] using e'
    have := h.symm.trans hgb
    simp at this
    exact hte this.2.1
theorem cell_two_new (w : World) (x y : Value) (t : TypeId) : ∀ j u, [x, y][j]? = some u → (w.alloc (.cells #[x, y] t)).cell? ((⟨w.heap.size, 0, none⟩ : Addr).add j) = some u := by
  intro j u hj
  match j, hj with
  | 0, hj => simp at hj; subst hj; exact World.cell?_alloc_new w _ _ 0
  | 1, hj => simp at hj; subst hj; exact World.cell?_alloc_new w _ _ 1
  | j + 2, hj => simp at hj
theorem box_appP {wy w1 : World} {tmp : Obj} {v : Value} {base size k B : Nat} {t e : TypeId} {u : Value} {xs : List Value} (h : Boxed wy B t u) (hrow : wy.ownsRow base e size v k xs) (k3 : (wy.alloc tmp).grownBy w1 v.ownBlock) (ht : t ≠ e) (Lb : Nat) (hne : B ≠ Lb) (x : Value) : Boxed (w1.setCell ⟨Lb, 0, none⟩ x) B t u :=
  ((Boxed.alloc h tmp).kept k3 (Boxed.not_row h ht hrow)).other hne x
theorem obj_appP {wy w1 : World} {tmp : Obj} {v : Value} {base size k B : Nat} {t e : TypeId} {cs : Array Value} {z : Nat × Nat} {xs : List Value} (h : wy.heap[B]? = some (.cells cs t z)) (hrow : wy.ownsRow base e size v k xs) (k3 : (wy.alloc tmp).grownBy w1 v.ownBlock) (ht : t ≠ e) (Lb : Nat) (hne : B ≠ Lb) (x : Value) : (w1.setCell ⟨Lb, 0, none⟩ x).heap[B]? = some (.cells cs t z) := by
  have hlt := (Array.getElem?_eq_some_iff.1 h).1
  have h1 : (wy.alloc tmp).heap[B]? = some (.cells cs t z) := (Below.heap_alloc _ _ _ hlt).trans h
  have h2 : w1.heap[B]? = some (.cells cs t z) := (k3.block B (by simp; omega) (obj_not_row h ht hrow)).trans h1
  exact (Below.heap_setCell w1 ⟨Lb, 0, none⟩ x B hne).trans h2
structure SCe (w w1 : World) (ss : List ByteArray) (g B0 : Nat) (A : Option Addr) (N cap : Nat) (m : Nat) (pre : List (Ix m)) (W : World) : Prop where
  row : ∃ v, Boxed W w.heap.size 22 v ∧ W.ownsRow w.heap.size 51 2 v pre.length (ecells (pre.map fun x => entS ss x.1)) ∧ True
  ok : ∀ x ∈ pre, intT (tAt ss (x.1 * 2)).data.toList ≠ none
  b0 : Boxed W B0 70 (.slice A N cap)
  b1 : Boxed W (B0 + 1) 3 (.int .i64 2)
  pr : ∀ cs, w1.heap[g]? = some (.cells cs 9 (0, 0)) → W.heap[g]? = some (.cells cs 9 (0, 0))
  low : Below w.heap.size w W
set_option maxHeartbeats 2000000 in
theorem sce_own (w w1 : World) (ss : List ByteArray) (g B0 : Nat) (A : Option Addr) (N cap m K : Nat) (hK : w.heap.size ≤ K) : OwnFrom K (fun (pre : List (Ix m)) W => SCe w w1 ss g B0 A N cap m pre W) := by
  intro pre X Y row h hg hr
  have hr2 : ∀ r, row = some r → ∃ o : Obj, X.heap[r]? = some o ∧ o.isCells = false := fun r e => (hr r e).2
  obtain ⟨h1, h2, h3, h4, h5, h6⟩ := h
  have k1 := holdsRow_own w.heap.size w.heap.size 22 51 2 (fun p : List (Ix m) => p.length) (fun p => ecells (p.map fun x => entS ss x.1)) (fun _ _ => True) pre X Y row h1 hg hr2
  have k3 := boxed_own B0 70 (fun _ : Unit => .slice A N cap) () X Y row h3 hg hr2
  have k4 := boxed_own (B0 + 1) 3 (fun _ : Unit => .int .i64 2) () X Y row h4 hg hr2
  have k5 : ∀ cs, w1.heap[g]? = some (.cells cs 9 (0, 0)) → Y.heap[g]? = some (.cells cs 9 (0, 0)) := fun cs hcs => (grownBy_keeps_cells hg hr2 (h5 cs hcs) rfl).trans (h5 cs hcs)
  have k6 := ownFrom_below (β := Unit) (n₀ := w.heap.size) (w₀ := w) (Nat.le_refl _) hK () X Y row h6 hg hr
  exact ⟨k1, h2, k3, k4, k5, k6⟩
set_option maxRecDepth 100000 in
set_option maxHeartbeats 16000000 in
theorem inner_ents (s : ByteArray) (l : List (List UInt8)) (m : Nat) (w : World) (hs : s.size ≤ 30000) (hg : Good w) (hu : allT s.data.toList = some l) (hm : l.length = m * 2) :
    CallsIn Fence.wide 5 Tryz.prog 87 #[.string s] w fun e w' => EntsOut w.heap.size (readE s.data.toList) e w' ∧ Below w.heap.size w w' := by
  have hre : readE s.data.toList = entsO l := by unfold readE; rw [hu]; rfl
  rw [hre]
  have cu : ∀ w, Good w → Calls Tryz.prog 44 #[.string s] w fun e w' => (∃ v ss, e = .returned (.tuple #[v, .bool true]) ∧ texts ss = l ∧ w'.ownsRow w.heap.size 9 1 v ss.length (ss.map Value.string)) ∧ Below w.heap.size w w' := fun w hg => by
    have := all_any s w (by omega) hg
    rw [hu] at this
    exact this
  have hus := all_spec hu
  have htc := tie_count l
  rw [← hus] at htc
  have hsl : s.data.toList.length ≤ 30000 := by simpa using hs
  have hl1 : l.length ≤ 10000 := by omega
  have hsz0 : ∀ x ∈ l, x.length ≤ 30000 := fun x hx => by have := mem_tie hx; rw [← hus] at this; omega
  have hb0 : Below w.heap.size w (w.alloc (.cells #[.slice none 0 0] 22)) := (Below.refl _ w).alloc (Nat.le_refl _) _
  have bL0 : Boxed (w.alloc (.cells #[.slice none 0 0] 22)) w.heap.size 22 (.slice none 0 0) := Boxed.new w _ _
  clear hu hre htc hsl hus
  refine callsIn_of_wp_marks Tryz.func87 rfl trivial ?_ rfl
  simp only [Tryz.ntmps87, List.size_toArray, List.length_cons, List.length_nil, Nat.reduceAdd, Nat.reduceSub, Array.replicate_succ, Array.replicate_zero, List.push_toArray, List.append_toArray, List.nil_append, List.cons_append]
  gi_wp2
  refine wpIn_scope_fwd 0 rfl ?_
  gi_wp2_with (refine ⟨trivial, ?_⟩; gi_at_call 44; refine (callsIn_wide.2 (cu _ (hg.below hb0))).mono ?_)
  rintro e w1 ⟨⟨v, ss, rfl, hss, hown⟩, b1⟩
  subst hss
  rw [texts_length] at hm hl1
  have hszs : ∀ i, i < ss.length → (tAt ss i).size ≤ 30000 := fun i hi => by
    have := hsz0 (tAt ss i).data.toList (List.mem_map.2 ⟨tAt ss i, by rw [tAt_get hi]; exact List.getElem_mem hi, rfl⟩)
    simpa using this
  have hrow := hown
  obtain ⟨g, A, cap, rfl, hA, hnc, hcm, hcl⟩ := row_cells hown
  have hgo : 0 < ss.length → ∃ cs, w1.heap[g]? = some (.cells cs 9 (0, 0)) := fun h0 => by
    obtain ⟨g', cap', cur, e1, _, hgb, _⟩ := hrow.2.resolve_left (fun h => by omega)
    have := (hA h0).1
    rw [this] at e1
    injection e1 with e2
    injection e2 with e2
    injection e2 with e2
    subst e2
    exact ⟨_, hgb⟩
  obtain ⟨N, hN⟩ : ∃ N, ss.length = N := ⟨_, rfl⟩
  rw [hN] at hm hl1 hnc hcl hA hgo hszs ⊢
  have HN := Lib.hid hN
  have HM := Lib.hid hm
  have hm1 : m ≤ 10000 := by omega
  have e3 : (((N : Int) % 2) == 0) = true := by simp; omega
  have e4 : (((N : Int) % 2) != 0) = false := by simp [bne, e3]
  have e1 : (((N : Int).tmod 2) == 0) = true := by rw [Int.tmod_eq_emod_of_nonneg (by omega)]; exact e3
  have e2 : (((N : Int).tmod 2) != 0) = false := by simp [bne, e1]
  have bL1 : Boxed w1 w.heap.size 22 (.slice none 0 0) := (b1.block w.heap.size (by simp)).trans bL0
  have hb1 := hb0.trans (b1.mono (by simp))
  have hz1 : w.heap.size < w1.heap.size := by have := b1.size; simp at this; omega
  have hg1 : Good w1 := hg.below hb1
  have HCL := Lib.hid hcl
  have HSZ := Lib.hid hszs
  have HGO := Lib.hid hgo
  clear b1 bL0 cu hown hrow hN hm hcl hszs hgo hsz0
  gi_wp2_with (refine ⟨trivial, ?_⟩; gi_at_call 102; refine (chunks_in Fence.wide 4 trivial rfl _ _ _ _).mono ?_; rintro e w2 ⟨rfl, rfl⟩)
  obtain ⟨W0, hW0⟩ : ∃ W0, (w1.alloc (.cells #[.slice A N cap] 70)).alloc (.cells #[.int .i64 2] 3) = W0 := ⟨_, rfl⟩
  have bS : Boxed W0 w1.heap.size 70 (.slice A N cap) := hW0 ▸ (Boxed.new w1 70 (.slice A N cap)).alloc _
  have bI : Boxed W0 (w1.heap.size + 1) 3 (.int .i64 2) := by
    have := Boxed.new (w1.alloc (.cells #[.slice A N cap] 70)) 3 (.int .i64 2)
    rw [World.size_alloc] at this; exact hW0 ▸ this
  have hB0 : Below w1.heap.size w1 W0 := hW0 ▸ ((Below.refl _ w1).alloc (Nat.le_refl _) _).alloc (by simp) _
  have hz0 : W0.heap.size = w1.heap.size + 2 := by rw [← hW0]; simp
  have bL : Boxed W0 w.heap.size 22 (.slice none 0 0) := (hB0.block _ hz1).trans bL1
  have hlow0 : Below w.heap.size w W0 := hb1.trans (hB0.mono (by omega))
  have hpr0 : ∀ cs, w1.heap[g]? = some (.cells cs 9 (0, 0)) → W0.heap[g]? = some (.cells cs 9 (0, 0)) := fun cs hcs => (hB0.block g (Array.getElem?_eq_some_iff.1 hcs).1).trans hcs
  rw [hW0]
  clear hW0 e1 e2 e3 e4
  refine wpIn_rangeFunc_ownG (w0 := W0) (N := m) rfl (by omega) (gf := 117) (lb := #[.pointer (some ⟨w1.heap.size, 0, none⟩), .pointer (some ⟨w1.heap.size + 1, 0, none⟩)]) rfl trivial (enters_of Tryz.func117 (by kernel_rfl) rfl)
    (chunks_stops Fence.wide 4 trivial rfl (by omega) w1.heap.size (w1.heap.size + 1) g 0 m N cap A (fun h => (hA (by have := HM.out; omega)).1) (by omega) HM hnc hcm W0 (by omega) (by omega) bS.cell bI.cell) kpC_t (kpC_b (by omega) (by omega)) (Below.refl _ _) (fun _ => rfl)
    (fun pre W => SCe w w1 ss g w1.heap.size A N cap m pre W)
    (fun c pre W => c = .goto 0 ∧ ((∃ x ∈ pre, intT (tAt ss (x.1 * 2)).data.toList = none) ∧ Below w.heap.size w W))
    (sce_own w w1 ss g w1.heap.size A N cap m _ (by omega))
    (fun c s X Y row hs hg hr => ⟨hs.1, hs.2.1, (ownFrom_below (β := Unit) (n₀ := w.heap.size) (B := W0.heap.size) (w₀ := w) (Nat.le_refl _) (by omega)) () X Y row hs.2.2 hg hr⟩)
    ⟨⟨_, bL, World.ownsRow_nil _ _ _ _, trivial⟩, (fun x hx => by cases hx), bS, bI, hpr0, hlow0⟩
    (fun x => { tmps := #[.string s, undef, .slice none 0 0, .int .i64 0, .pointer (some ⟨w.heap.size, 0, none⟩), .slice A N cap, .bool true, chunk2 g 0 x.1, undef, .tuple #[.slice A N cap, .bool true], .string s, .tuple #[.slice A N cap, .bool true], .slice A N cap, .bool true,
      .bool true, .bool false, .bool false, .slice A N cap, .int .i64 (N : Int), .int .i64 ((N : Int) % 2), .bool false, .bool false, .slice A N cap, .func (.func 117) #[] #[.pointer (some ⟨w1.heap.size, 0, none⟩), .pointer (some ⟨w1.heap.size + 1, 0, none⟩)], chunk2 g 0 x.1,
      undef, undef, undef, undef, undef, undef, undef, undef, undef, undef, undef, undef, undef, undef, undef], defers := [] }) ?assign ?body ?done ?stop
  case assign =>
    intro l x W K hK
    gi_wp2
    exact hK
  case body =>
    rintro l pre x W ⟨⟨v, hv, hrow, _⟩, hok, hs0, hi0, hpr, hlow⟩ hlt
    obtain ⟨k, hk⟩ : ∃ k, pre.length = k := ⟨_, rfl⟩
    have HK := Lib.hid hk
    rw [hk] at hlt hrow
    obtain ⟨A7, c7, rfl⟩ : ∃ A7 c7, v = .slice A7 k c7 := by
      rcases hrow.2 with ⟨rfl, h0⟩ | ⟨g', cap', cur', rfl, _⟩
      · exact ⟨none, 0, by rw [h0]⟩
      · exact ⟨_, _, rfl⟩
    have hx2 := x.2
    have hxN : x.1 * 2 + 1 < N := by have := HM.out; omega
    obtain ⟨cs, hcs⟩ := HGO.out (by omega)
    have hpW := hpr cs hcs
    have hgl := (Array.getElem?_eq_some_iff.1 hpW).1
    have hyc : ∀ i, i < N → W.cell? ⟨g, i, none⟩ = some (.string (tAt ss i)) := fun i hi => by
      have h1 := HCL.out i hi
      have e : W.cell? ⟨g, i, none⟩ = w1.cell? ⟨g, i, none⟩ := by simp only [World.cell?, hpW, hcs]
      rw [e]; exact h1
    have y0 := hyc (x.1 * 2) (by omega)
    have y1 := hyc (x.1 * 2 + 1) (by omega)
    have s0 := HSZ.out (x.1 * 2) (by omega)
    have hent : entS ss x.1 = ((intT (tAt ss (x.1 * 2)).data.toList).getD 0, tAt ss (x.1 * 2 + 1)) := rfl
    have hnum : intT (tAt ss (x.1 * 2)).data.toList = intT (tAt ss (x.1 * 2)).data.toList := rfl
    obtain ⟨tx, htx⟩ : ∃ t, tAt ss (x.1 * 2) = t := ⟨_, rfl⟩
    obtain ⟨ty, hty⟩ : ∃ t, tAt ss (x.1 * 2 + 1) = t := ⟨_, rfl⟩
    rw [htx] at y0 s0 hent
    conv at hnum => rhs; rw [htx]
    rw [hty] at y1 hent
    have hzW := hlow.size
    obtain ⟨W1, hW1⟩ : ∃ W1, W.alloc (.cells #[.int .i64 0, .string ty] 51) = W1 := ⟨_, rfl⟩
    have hbW1 : Below W.heap.size W W1 := hW1 ▸ (Below.refl _ W).alloc (Nat.le_refl _) _
    have hzW1 : W1.heap.size = W.heap.size + 1 := by rw [← hW1]; simp
    have f0 : W1.cell? ⟨W.heap.size, 0, none⟩ = some (.int .i64 0) := by rw [← hW1]; simp [go_sem]
    have f1 : W1.cell? ⟨W.heap.size, 1, none⟩ = some (.string ty) := by rw [← hW1]; simp [go_sem]
    have ff : W1.frozen? ⟨W.heap.size, 0, none⟩ = false := by rw [← hW1]; simp [go_sem]
    have cr := readL_any W.heap.size 0 0 tx W1 (by omega) (hg.below (hlow.trans (hbW1.mono hzW))) f0 ff (by omega)
    have y0' := (hbW1.cell (p := ⟨g, x.1 * 2, none⟩) hgl).trans y0
    have hlW := (Array.getElem?_eq_some_iff.1 (show W.heap[w1.heap.size + 1]? = _ from hi0)).1
    have H1 := Lib.hid hW1
    have HENT := Lib.hid hent
    have HNUM := Lib.hid hnum
    clear hk hW1 htx hty hent hnum hyc
    unfold chunk2
    simp only [Nat.zero_add]
    gi_wp2_with (refine ⟨trivial, ?_⟩; gi_at_call 46; rw [H1.out]; refine (CallsIn.inRound l (callsIn_wide.2 cr)).mono ?_)
    rintro e w' ⟨rfl, wy, hby, rfl⟩
    have hbwy : Below W.heap.size W wy := hbW1.trans (hby.mono (by omega))
    have hbW2 : ∀ n : Int, Below W.heap.size W (wy.setCell ⟨W.heap.size, 0, none⟩ (.int .i64 n)) := fun n => hbwy.setCell (p := ⟨W.heap.size, 0, none⟩) (Nat.le_refl _) _
    have hzy := hby.size
    have k1 : wy.cell? ⟨W.heap.size, 1, none⟩ = some (.string ty) := (hby.cell (p := ⟨W.heap.size, 1, none⟩) (by simp; omega)).trans f1
    have k0 : wy.cell? ⟨W.heap.size, 0, none⟩ = some (.int .i64 0) := (hby.cell (p := ⟨W.heap.size, 0, none⟩) (by simp; omega)).trans f0
    clear cr f0 f1 ff y0 y0' y1 s0 hby
    cases hi : intT tx.data.toList with
    | none =>
      have HI := Lib.hid hi
      clear hi
      simp only [Option.isSome_none, Option.getD_none]
      have hb2 := hbW2 0
      gi_wp2
      refine wpIn_goto ?_
      have hfin : KeepsFrom W0.heap.size W (wy.setCell ⟨W.heap.size, 0, none⟩ (.int .i64 0)) ∧ (Code.goto 0 = Code.goto 0 ∧ ((∃ y ∈ pre ++ [x], intT (tAt ss (y.1 * 2)).data.toList = none) ∧ Below w.heap.size w (wy.setCell ⟨W.heap.size, 0, none⟩ (.int .i64 0)))) := ⟨(keepsOthers_of hb2).from _, rfl, ⟨x, by simp, by rw [HNUM.out]; exact HI.out⟩, hlow.trans (hb2.mono hzW)⟩
      exact hfin
    | some n =>
      have HI := Lib.hid hi
      clear hi
      simp only [Option.isSome_some, Option.getD_some]
      obtain ⟨W2, hW2⟩ : ∃ W2, wy.setCell ⟨W.heap.size, 0, none⟩ (.int .i64 n) = W2 := ⟨_, rfl⟩
      have hb2 : Below W.heap.size W W2 := hW2 ▸ hbW2 n
      have m0 : W2.cell? ⟨W.heap.size, 0, none⟩ = some (.int .i64 n) := by rw [← hW2]; simp [go_sem, k0]
      have m1 : W2.cell? ⟨W.heap.size, 1, none⟩ = some (.string ty) := by rw [← hW2]; simp [go_sem, k1]
      have hz2 : W.heap.size < W2.heap.size := by rw [← hW2]; simp; omega
      have hv2' : Boxed W2 w.heap.size 22 (.slice A7 k c7) := (hb2.block _ (by omega)).trans hv
      have hrow2 : W2.ownsRow w.heap.size 51 2 (.slice A7 k c7) k (ecells (pre.map fun x => entS ss x.1)) := hrow.kept (row := none) ⟨hb2.os, hb2.tape, hb2.output, hb2.size, fun j hj _ => hb2.block j hj⟩ (Classical.em _)
      have hs2 : Boxed W2 w1.heap.size 70 (.slice A N cap) := (hb2.block _ (by omega)).trans hs0
      have hi2 : Boxed W2 (w1.heap.size + 1) 3 (.int .i64 2) := (hb2.block _ hlW).trans hi0
      have hp2 : W2.heap[g]? = some (.cells cs 9 (0, 0)) := (hb2.block _ hgl).trans hpW
      have d0 := hv2'.cell
      obtain ⟨i0, hi9, hz0', hz1', hz2'⟩ := info_parts infoE
      have hkl : k ≤ 10000 := by omega
      rw [hW2]
      clear hW2 k0 k1 hbwy hbW2
      gi_wp2_with (gi_at_builtin; refine wpListIn_append_own _ rfl _ _ 22 rfl w.heap.size 51 i0 (.agg #[.int .i64 0, .string Ro.E0]) 2 24 Tryz.underlying22 hi9 hz0' hz1' hz2' rfl (by decide) _ _ _ rfl (hrow2.alloc _) ⟨W2.heap.size, 0, none⟩ 1 1 [.int .i64 n, .string ty] rfl rfl (cell_two_new W2 _ _ _) (by simp [Value.oneCell']) (by unfold maxLen; omega) (by omega) (by simp; omega) ?_; intro v' w3 hown' hgrow _; obtain ⟨g', cap', rfl⟩ := ownsRow_succ hown'; obtain ⟨hv1, hv3, hr3, hk3, hb3⟩ := hv2'.appended (by decide) hrow2 (by omega) (Nat.le_refl _) hown' hgrow; have hc1 := hv1.cell; have hf1 := hv1.frozen)
      have z5 := box_appP hs2 hrow2 hgrow (by decide) w.heap.size (by omega) (.slice (some ⟨g', 0, none⟩) (k + 1) cap')
      have z6 := box_appP hi2 hrow2 hgrow (by decide) w.heap.size (by omega) (.slice (some ⟨g', 0, none⟩) (k + 1) cap')
      have z7 : (w3.setCell ⟨w.heap.size, 0, none⟩ (.slice (some ⟨g', 0, none⟩) (k + 1) cap')).heap[g]? = some (.cells cs 9 (0, 0)) := obj_appP hp2 hrow2 hgrow (by decide) w.heap.size (fun e => by
        have h1 := hp2
        rw [e] at h1
        have h2 := (show W2.heap[w.heap.size]? = _ from hv2').symm.trans h1
        simp at h2) (.slice (some ⟨g', 0, none⟩) (k + 1) cap')
      refine ⟨((keepsOthers_of hb2).trans hk3).from _, ⟨z5.cell.trans hs0.cell.symm, z6.cell.trans hi0.cell.symm⟩, ⟨⟨_, hv3, ?_, trivial⟩, ?_, z5, z6, fun cs' h' => (by rw [hcs] at h'; cases h'; exact z7), (hlow.trans (hb2.mono hzW)).trans hb3⟩⟩
      · rw [List.length_append, HK.out, List.map_append, ecells_append]
        rw [show ecells ([x].map fun x : Ix m => entS ss x.1) = [.int .i64 n, .string ty] by rw [List.map_singleton, HENT.out, HI.out]; rfl]
        exact hr3
      · intro y hy
        rcases List.mem_append.1 hy with hy | hy
        · exact hok y hy
        · simp only [List.mem_singleton] at hy
          subst hy
          rw [HNUM.out, HI.out]; simp
  case done =>
    rintro D ys W hD hys ⟨⟨v, hv, hrow, _⟩, hok, hs0, hi0, hpr, hlow⟩ hK
    have hyl : ys.length = m := vals_length hys
    rw [hyl] at hrow
    have hres : (ys.map fun x : Ix m => entS ss x.1) = (List.range m).map (entS ss) := by
      rw [show ys.map (fun x : Ix m => entS ss x.1) = (ys.map (·.1)).map (entS ss) by rw [List.map_map]; rfl, hys]
    have hall : entsO (texts ss) = some ((List.range m).map (entS ss)) := entsO_all m ss (by rw [HN.out]; exact HM.out) (fun j hj => by
      have : j ∈ ys.map (·.1) := by rw [hys]; exact List.mem_range.2 hj
      obtain ⟨x, hx, rfl⟩ := List.mem_map.1 this
      exact hok x hx)
    rw [hres] at hrow
    obtain ⟨A7, c7, rfl⟩ : ∃ A7 c7, v = .slice A7 m c7 := by
      rcases hrow.2 with ⟨rfl, h0⟩ | ⟨g', cap', cur', rfl, _⟩
      · exact ⟨none, 0, by rw [h0]⟩
      · exact ⟨_, _, rfl⟩
    have d4 := hv.cell
    have HAN := Lib.hid hall
    have HROW := Lib.hid hrow
    clear hres hall hyl hrow
    gi_wp2
    refine ⟨by simp, .inl ⟨_, _, rfl, run_takeDeferred hK, ?_⟩⟩
    refine ⟨.tuple #[.slice A7 m c7, .int .i64 0], by simp [results, Tryz.results87, go_sem], ?_⟩
    rw [HAN.out]
    refine ⟨⟨_, rfl, ?_⟩, hlow.trans (belowK_b (w := w) (Nat.le_refl _) W D _ _ (by omega) hK rfl rfl)⟩
    show World.ownsRow _ _ _ _ _ _ _
    rw [show ((List.range m).map (entS ss)).length = m by simp]
    exact ownsRow_putObj HROW.out (.deferred none) hK rfl
  case stop =>
    rintro D c pre W hD ⟨k, hk, hpk⟩ ⟨rfl, ⟨x, hx, hbad⟩, hlow⟩ hK
    have hall : entsO (texts ss) = none := entsO_bad m ss (by rw [HN.out]; exact HM.out) ⟨x.1, x.2, hbad⟩
    have HAN := Lib.hid hall
    clear hall hx hbad hpk
    refine wpIn_goto ?_
    refine And.intro (show (0 : Nat) = 0 from rfl) ?_
    try dsimp only
    gi_wp2
    refine ⟨by simp, .inl ⟨_, _, rfl, run_takeDeferred hK, ?_⟩⟩
    refine ⟨.tuple #[.slice none 0 0, .int .i64 140], by simp [results, Tryz.results87, go_sem], ?_⟩
    exact ⟨EntsOut.no HAN.out, hlow.trans (belowK_b (w := w) (Nat.le_refl _) W D _ _ (by omega) hK rfl rfl)⟩
set_option maxRecDepth 100000 in
set_option maxHeartbeats 8000000 in
theorem readE_any (s : ByteArray) (w : World) (hs : s.size ≤ 30000) (hg : Good w) :
    Calls Tryz.prog 87 #[.string s] w fun e w' => EntsOut w.heap.size (readE s.data.toList) e w' ∧ Below w.heap.size w w' := by
  have cu := fun w hg => all_any s w (by omega) hg
  have hb0 : Below w.heap.size w (w.alloc (.cells #[.slice none 0 0] 22)) := (Below.refl _ w).alloc (Nat.le_refl _) _
  cases hu : allT s.data.toList with
  | none =>
    have hr : readE s.data.toList = none := by unfold readE; rw [hu]; rfl
    rw [hr]
    rw [hu] at cu
    unfold StrOut at cu
    clear hr hu
    go_enter Tryz.func87, Tryz.ntmps87
    go_wp2_with fail
    refine wp_scope_fwd 0 rfl ?_
    go_wp2_with fail
    refine (cu _ (hg.below hb0)).mono ?_
    rintro e w1 ⟨rfl, b1⟩
    have hb1 := hb0.trans (b1.mono (by simp))
    clear cu b1
    go_wp2_with fail
    refine wp_goto ?_
    refine And.intro (show (0 : Nat) = 0 from rfl) ?_
    try dsimp only
    go_wp2_with fail
    rw [Exit.noGoto_ret]
    go_ret2
    exact ⟨rfl, hb1⟩
  | some l =>
    by_cases hm : l.length % 2 = 0
    · exact callsIn_wide.1 (inner_ents s l (l.length / 2) w hs hg hu (by omega))
    · have hr : readE s.data.toList = none := by unfold readE; rw [hu]; exact entsO_odd (by omega)
      rw [hr]
      rw [hu] at cu
      unfold StrOut at cu
      have htc := tie_count l
      rw [← all_spec hu] at htc
      have hsl : s.data.toList.length ≤ 30000 := by simpa using hs
      have hl1 : l.length ≤ 10000 := by omega
      clear hr hu htc hsl
      go_enter Tryz.func87, Tryz.ntmps87
      go_wp2_with fail
      refine wp_scope_fwd 0 rfl ?_
      go_wp2_with fail
      refine (cu _ (hg.below hb0)).mono ?_
      rintro e w1 ⟨⟨v, ss, rfl, hss, hown⟩, b1⟩
      subst hss
      rw [texts_length] at hm hl1
      obtain ⟨g, A, cap, rfl, _, _, _, _⟩ := row_cells hown
      obtain ⟨N, hN⟩ : ∃ N, ss.length = N := ⟨_, rfl⟩
      rw [hN] at hm hl1 ⊢
      have e3 : (((N : Int) % 2) == 0) = false := by simp; omega
      have e4 : (((N : Int) % 2) != 0) = true := by simp [bne, e3]
      have e1 : (((N : Int).tmod 2) == 0) = false := by rw [Int.tmod_eq_emod_of_nonneg (by omega)]; exact e3
      have e2 : (((N : Int).tmod 2) != 0) = true := by simp [bne, e1]
      have hb1 := hb0.trans (b1.mono (by simp))
      clear cu b1 hown hN hm hl1
      go_wp2_with fail
      refine wp_goto ?_
      refine And.intro (show (0 : Nat) = 0 from rfl) ?_
      try dsimp only
      go_wp2_with fail
      rw [Exit.noGoto_ret]
      go_ret2
      exact ⟨rfl, hb1⟩
end Go.Proofs.YtkpakiiijphjeaaGreatDoor.Po

/-
  Parse, the program's: a roll out of a text. Conditions: texts of at most 12,000 bytes; the library's variables hold what their types allow.
-/
import Derived.Test.YtimodohcihnoiaaDoorRoRPar
import Derived.Test.YtimodohcihnoiaaDoorRoChunk
import Derived.Test.YtimodohcihnoiaaDoorMixedCall
namespace Go.Proofs.YtimodohcihnoiaaDoor.Ro
open Go.RowKit
open Go.Proofs.YtimodohcihnoiaaDoor.M (tieT untieT intT numT inR untie_spec)
attribute [local go_sem] Oper.semAt_some

/-- what Untie's row is, nil or not -/
theorem row_cells {w : World} {base : Nat} {v : Value} {ss : List ByteArray} (h : w.ownsRow base 9 1 v ss.length (ss.map Value.string)) :
    ∃ (g : Nat) (A : Option Addr) (cap : Nat), v = .slice A ss.length cap ∧ (0 < ss.length → A = some ⟨g, 0, none⟩ ∧ g < w.heap.size) ∧ ss.length ≤ cap ∧ cap ≤ maxLen ∧ ∀ i (_ : i < ss.length), w.cell? ⟨g, i, none⟩ = some (.string (tAt ss i)) := by
  rcases h.2 with ⟨e, h0⟩ | ⟨g, cap, cur, e, hbg, hgb, hnc, hcm, hcs, htk⟩
  · exact ⟨0, none, 0, by rw [e, h0], fun h => by omega, by omega, by unfold maxLen; omega, fun i hi => by omega⟩
  · refine ⟨g, _, cap, e, fun _ => ⟨rfl, (Array.getElem?_eq_some_iff.1 hgb).1⟩, hnc, hcm, fun i hi => ?_⟩
    have := h.cells (g := g) (by rw [e]; rfl) i _ (by rw [List.getElem?_map, List.getElem?_eq_getElem hi]; rfl)
    rw [Addr.add_lit, Nat.zero_add] at this
    rw [this, tAt_get hi]
theorem boxL_kept {n : Nat} {r : Lg} {s : Value} {X Y : World} {row : Option Nat} (h : BoxL n r s X) (hg : X.grownBy Y row) (hr : ∀ r, row = some r → ∃ o : Obj, X.heap[r]? = some o ∧ o.isCells = false) : BoxL n r s Y := by
  obtain ⟨h0, ⟨c1, c2, c3⟩, hf⟩ := h
  exact ⟨Nat.lt_of_lt_of_le h0 hg.size, ⟨cell_kept c1 hg hr, cell_kept c2 hg hr, cell_kept c3 hg hr⟩, fun o => by
    obtain ⟨ob, ho, hc⟩ := cells_of_cell c1
    have e : Y.frozen? ⟨n, o, none⟩ = X.frozen? ⟨n, o, none⟩ := World.frozen?_of_block (grownBy_keeps_cells hg hr ho hc)
    rw [e]
    exact hf o⟩
theorem rowL_own {β : Type} (n0 Bs : Nat) (a b : Int) (f : β → List En) : Own (fun s W => ∃ v, BoxL n0 ⟨a, b, []⟩ v W ∧ OwnE W Bs v (f s)) := by
  rintro s X Y row ⟨v, hb, hr⟩ hg hrow
  refine ⟨v, boxL_kept hb hg hrow, hr.kept hg ?_⟩
  rcases hr.2 with ⟨rfl, _⟩ | ⟨g, cap, cur, rfl, _, hgb, _⟩
  · exact .inl rfl
  · refine .inr fun e' => ?_
    obtain ⟨o, ho, hc⟩ := hrow g (by simpa [Value.ownBlock] using e'.symm)
    rw [hgb] at ho; cases ho; cases hc
/-- how far the loop has come -/
def QI (n Bs B0 B1 : Nat) (w1 : World) (V0 V1 : Int) (v0 : Value) (ss : List ByteArray) (m : Nat) (pre : List (Ix m)) (W : World) : Prop :=
  (∃ v, BoxL n ⟨V0, V1, []⟩ v W ∧ OwnE W Bs v (pre.map fun x => entAt ss x.1)) ∧ ((Boxed W B0 56 v0 ∧ Boxed W B1 3 (.int .i64 2)) ∧ Below w1.heap.size w1 W)
theorem qi_own (n Bs B0 B1 : Nat) (w1 : World) (V0 V1 : Int) (v0 : Value) (ss : List ByteArray) (m B : Nat) (hB : w1.heap.size ≤ B) : OwnFrom B (fun (pre : List (Ix m)) W => QI n Bs B0 B1 w1 V0 V1 v0 ss m pre W) := by
  have k1 := rowL_own n Bs V0 V1 (fun q : List (Ix m) => q.map fun x => entAt ss x.1)
  have k2 := boxed_own B0 56 (fun _ : List (Ix m) => v0)
  have k3 := boxed_own B1 3 (fun _ : List (Ix m) => .int .i64 2)
  have k4 := ownFrom_below (β := List (Ix m)) (n₀ := w1.heap.size) (w₀ := w1) (Nat.le_refl _) hB
  intro pre X Y row h hg hr
  have hr2 : ∀ r, row = some r → ∃ o : Obj, X.heap[r]? = some o ∧ o.isCells = false := fun r e => (hr r e).2
  unfold QI at h ⊢
  exact ⟨k1 pre X Y row h.1 hg hr2, ⟨k2 pre X Y row h.2.1.1 hg hr2, k3 pre X Y row h.2.1.2 hg hr2⟩, k4 pre X Y row h.2.2 hg hr⟩
theorem boxed_set {W : World} {B n : Nat} {t : TypeId} {v : Value} (h : Boxed W B t v) (hne : B ≠ n) {i : Nat} (u : Value) : Boxed (W.setCell ⟨n, i, none⟩ u) B t v :=
  (Below.heap_setCell W ⟨n, i, none⟩ u B (fun e => hne e)).trans h
theorem Below.boxed {N B : Nat} {W W' : World} {t : TypeId} {v : Value} (hb : Below N W W') (hB : B < N) (h : Boxed W B t v) : Boxed W' B t v := (hb.block B hB).trans h
/-- region 4: a roll's box is made, somewhere, and written at the end -/
structure RB (W : World) (V0 V1 : Int) (L : Nat → Bool) (u : Nat → Value) (wx : World) : Prop where
  a : L 10 = false → Below W.heap.size W wx
  b : L 9 = true → L 10 = false → ∃ n : Nat, u 9 = .pointer (some ⟨n, 0, none⟩) ∧ W.heap.size ≤ n ∧ BoxL n Lg.zero (.slice none 0 0) wx
  c : L 10 = true → ∃ n : Nat, u 9 = .pointer (some ⟨n, 0, none⟩) ∧ W.heap.size ≤ n ∧ BoxL n ⟨V0, V1, []⟩ (.slice none 0 0) wx ∧ Below W.heap.size W wx
theorem RB.call {W wx w' : World} {V0 V1 : Int} {i : Nat} {L : Nat → Bool} {u : Nat → Value} {v : Value} (h : RB W V0 V1 L u wx) (h10 : L 10 = false) (hb : Below wx.heap.size wx w') (n9 : 9 ≠ i) (n10 : 10 ≠ i) : RB W V0 V1 (St.mark L i) (St.upd u i v) w' := by
  have h0 := h.a h10
  refine ⟨fun _ => h0.trans (hb.mono h0.size), fun h9 _ => ?_, fun h' => ?_⟩
  · rw [show St.mark L i 9 = L 9 by simp [St.mark, n9]] at h9
    obtain ⟨n, q0, q1, q2⟩ := h.b h9 h10
    exact ⟨n, by rw [show St.upd u i v 9 = u 9 by simp [St.upd, n9]]; exact q0, q1, q2.keep hb⟩
  · rw [show St.mark L i 10 = L 10 by simp [St.mark, n10], h10] at h'; cases h'
theorem RB.made {W wx : World} {V0 V1 : Int} {L : Nat → Bool} {u : Nat → Value} (h : RB W V0 V1 L u wx) (h10 : L 10 = false) : RB W V0 V1 (St.mark L 9) (St.upd u 9 (.pointer (some ⟨wx.heap.size, 0, none⟩))) (wx.alloc (.cells #[.int .i64 0, .int .i64 0, .slice none 0 0] 24)) := by
  have h0 := h.a h10
  refine ⟨fun _ => h0.alloc h0.size _, fun _ _ => ⟨wx.heap.size, by simp [St.upd], h0.size, BoxL.new wx Lg.zero (.slice none 0 0)⟩, fun h' => ?_⟩
  rw [show St.mark L 9 10 = L 10 from rfl, h10] at h'; cases h'
theorem RB.store {W wx : World} {V0 V1 : Int} {L : Nat → Bool} {u : Nat → Value} {n : Nat} (h : RB W V0 V1 L u wx) (hu : u 9 = .pointer (some ⟨n, 0, none⟩)) (h9 : L 9 = true) (h10 : L 10 = false) : RB W V0 V1 (St.mark L 10) (St.upd u 10 undef) (((wx.setCell ⟨n, 0, none⟩ (.int .i64 V0)).setCell ⟨n, 1, none⟩ (.int .i64 V1)).setCell ⟨n, 2, none⟩ (.slice none 0 0)) := by
  obtain ⟨n', q0, q1, q2⟩ := h.b h9 h10
  obtain rfl : n' = n := by
    have := q0.symm.trans hu
    injection this with e1
    injection e1 with e2
    injection e2
  refine ⟨fun h' => (by simp [St.mark] at h'), fun _ h' => (by simp [St.mark] at h'), fun _ => ⟨n', by rw [show St.upd u 10 undef 9 = u 9 from rfl]; exact hu, q1, q2.put ⟨V0, V1, []⟩ (.slice none 0 0), ?_⟩⟩
  exact (((h.a h10).setCell (p := ⟨n', 0, none⟩) q1 _).setCell (p := ⟨n', 1, none⟩) q1 _).setCell (p := ⟨n', 2, none⟩) q1 _
/-- the texts behind the first two -/
theorem slice_two (g : Nat) (N c : Nat) (h : 2 ≤ N) (hc : N ≤ c) : ∃ A2, (∀ w : World, (Instr.slice 56 (.slice (some ⟨g, 0, none⟩) N c) (some (.int .i64 2)) none none).run Tryd.prog w = .ok (.slice A2 (N - 2) (c - 2)) w) ∧ (2 < N → A2 = some ⟨g, 2, none⟩) := by
  refine ⟨if c = 2 then some ⟨g, 0, none⟩ else some ⟨g, 2, none⟩, fun w => ?_, fun h2 => by rw [if_neg (by omega)]⟩
  have k1 : ((2 : Int) ≤ (N : Int)) = True := eq_true (by omega)
  by_cases hc2 : c = 2
  · simp [go_sem, Tryd.underlying56, Tryd.sizeOf9, k1, hc2]
  · simp [go_sem, Tryd.underlying56, Tryd.sizeOf9, k1, hc2]

set_option maxRecDepth 100000 in
set_option maxHeartbeats 16000000 in
theorem parse_in (s : ByteArray) (l : List (List UInt8)) (m : Nat) (w : World) (hs : s.size ≤ 12000) (hg : Good w) (hu : untieT s.data.toList = some l) (hm : l.length = m * 2 + 2) :
    CallsIn Fence.wide 5 Tryd.prog 10 #[.string s] w fun e w' => GaveR w (parseL s.data.toList) e w' := by
  have cu : ∀ w, Good w → Calls Tryd.prog 35 #[.string s] w fun e w' => (∃ v ss, e = .returned (.tuple #[v, .bool true]) ∧ texts ss = l ∧ w'.ownsRow w.heap.size 9 1 v ss.length (ss.map Value.string)) ∧ Below w.heap.size w w' := fun w hg => by
    have := strands_any s w hs hg
    rw [hu] at this
    exact this
  have hus := M.untie_spec hu
  have HU := Lib.hid hu
  have hb0 : Below w.heap.size w (w.alloc (.cells #[.int .i64 0, .int .i64 0, .slice none 0 0] 24)) := (Below.refl _ w).alloc (Nat.le_refl _) _
  have B0 := BoxL.new w Lg.zero (.slice none 0 0)
  clear hu
  refine callsIn_of_wp_marks Tryd.func10 rfl trivial ?_ rfl
  simp only [Tryd.ntmps10, List.size_toArray, List.length_cons, List.length_nil, Nat.reduceAdd, Nat.reduceSub, Array.replicate_succ, Array.replicate_zero, List.push_toArray, List.append_toArray, List.nil_append, List.cons_append]
  gi_wp2_with (refine ⟨trivial, ?_⟩; gi_at_call 35; refine (callsIn_wide.2 (cu _ (hg.below hb0))).mono ?_)
  rintro e w1 ⟨⟨v, ss, rfl, hss, hown⟩, b1⟩
  subst hss
  rw [texts_length] at hm
  have hszs : ∀ i, (tAt ss i).size ≤ 1048576 := tAt_size HU.out
  have hln : ss.length ≤ 4096 := by have := hus.2.1; rwa [texts_length] at this
  obtain ⟨g, A, cap, rfl, hA, hnc, hcm, hcl⟩ := row_cells hown
  obtain ⟨rfl, hgl1⟩ := hA (by omega)
  obtain ⟨N, hN⟩ : ∃ N, ss.length = N := ⟨_, rfl⟩
  rw [hN] at hm hln hnc hcl ⊢
  have HN := Lib.hid hN
  have HM := Lib.hid hm
  have hm1 : m ≤ 2100 := by omega
  have g1 : ((N : Int) < 2) = False := eq_false (by omega)
  have j1 : IntKind.i64.wrap ((N : Int) - 2) = ((m * 2 : Nat) : Int) := by rw [IntKind.wrap_i64] <;> omega
  have e1 : ((((m * 2 : Nat) : Int).tmod 2) == 0) = true := by rw [Int.tmod_eq_emod_of_nonneg (by omega)]; simp
  have e2 : ((((m * 2 : Nat) : Int).tmod 2) != 0) = false := by simp [bne]
  have e3 : ((((m * 2 : Nat) : Int) % 2) == 0) = true := by simp
  have e4 : ((((m * 2 : Nat) : Int) % 2) != 0) = false := by simp [bne]
  have e5 : (((m : Int) * 2 % 2) == 0) = true := by simp
  have e6 : (((m : Int) * 2 % 2) != 0) = false := by simp [bne]
  have hb1 := hb0.trans (b1.mono hb0.size)
  have C0 := B0.keep b1
  have hg1 : Good w1 := hg.below hb1
  have hw0 : w.heap.size < w1.heap.size := C0.1
  have HEV := Lib.hid (parseL_even HU.out (by rw [hN]; exact hm))
  have y0 := hcl 0 (by omega)
  have y1 := hcl 1 (by omega)
  obtain ⟨x0, hx0⟩ : ∃ x, tAt ss 0 = x := ⟨_, rfl⟩
  obtain ⟨x1, hx1⟩ : ∃ x, tAt ss 1 = x := ⟨_, rfl⟩
  have s0 := hszs 0
  have s1 := hszs 1
  rw [hx0] at y0 s0 HEV
  rw [hx1] at y1 s1 HEV
  have c0 := fun w hg => number_any x0 w (by omega) hg
  have c1 := fun w hg => number_any x1 w (by omega) hg
  obtain ⟨V0, hV0⟩ : ∃ x, num1 x0.data.toList = x := ⟨_, rfl⟩
  obtain ⟨V1, hV1⟩ : ∃ x, num1 x1.data.toList = x := ⟨_, rfl⟩
  rw [hV0] at c0 HEV
  rw [hV1] at c1 HEV
  have hy0 : ∀ wx, Below w1.heap.size w1 wx → wx.cell? ⟨g, 0, none⟩ = some (.string x0) := fun wx h => (h.cell (p := ⟨g, 0, none⟩) hgl1).trans y0
  have hy1 : ∀ wx, Below w1.heap.size w1 wx → wx.cell? ⟨g, 1, none⟩ = some (.string x1) := fun wx h => (h.cell (p := ⟨g, 1, none⟩) hgl1).trans y1
  obtain ⟨A2, hs2, hA2⟩ := slice_two g N cap (by omega) hnc
  have i1 : (0 < N) = True := eq_true (by omega)
  have i2 : ((N : Int) ≤ 1) = False := eq_false (by omega)
  have i3 : ((0 : Int) < (N : Int)) = True := eq_true (by omega)
  have i4 : ((1 : Int) < (N : Int)) = True := eq_true (by omega)
  have hA3 : 0 < m → A2 = some ⟨g, 2, none⟩ := fun h => hA2 (by omega)
  have hcap1 : cap - 2 ≤ maxLen := by omega
  obtain ⟨P, hP⟩ : ∃ P, N - 2 = P := ⟨_, rfl⟩
  obtain ⟨cp, hcp⟩ : ∃ cp, cap - 2 = cp := ⟨_, rfl⟩
  have HPM : Hid (P = m * 2) := Lib.hid (by omega)
  have hPc : P ≤ cp := by omega
  have HCL := Lib.hid hcl
  have HSZ := Lib.hid hszs
  rw [hP, hcp] at hs2
  rw [hcp] at hcap1
  clear hx0 hx1 hV0 hV1 s0 s1 y0 y1 b1 B0 cu hown hN hm hus hA2 hA hcl hszs hnc hcm hP hcp
  obtain ⟨p_0, ⟨p_1, p_2, p_3⟩, p_4⟩ := _root_.id C0
  gi_wp2
  clear p_0 p_1 p_2 p_3 p_4
  clear e1 e2 e3 e4 e5 e6 j1 g1
  refine St.wpIn_region_calls (RB w1 V0 V1) (fun j y => match j with | 3 => y = .int .i64 V0 | _ => y = .int .i64 V1) (fun _ => trivial) (fun h => by cases h) (fun _ _ _ _ h => callsIn_wide.2 h) (by kernel_rfl) (by kernel_rfl) (by kernel_rfl) (by kernel_rfl)
    ⟨fun _ => (Below.refl _ w1).drew, fun h => (by cases h), fun h => (by cases h)⟩ ?_
  apply St.mix_give
  · rfl
  · intro L u' wx hS hcl hrd hag
    go_simp
    try with_reducible rfl
  · exact fun L u' wx hS => ⟨hS.a, hS.b, hS.c⟩
  simp only [Act.put, List.setIfInBounds_toArray, List.set_cons_zero, List.set_cons_succ]
  apply St.mix_give
  · rfl
  · intro L u' wx hS hcl hrd hag
    go_simp
    try with_reducible rfl
  · exact fun L u' wx hS => ⟨hS.a, hS.b, hS.c⟩
  simp only [Act.put, List.setIfInBounds_toArray, List.set_cons_zero, List.set_cons_succ]
  apply St.mix_give
  · rfl
  · intro L u' wx hS hcl hrd hag
    have e1 := hy0 wx (hS.a (St.not_yet hcl hrd 60 10 (by kernel_rfl)))
    go_simp
    try with_reducible rfl
  · exact fun L u' wx hS => ⟨hS.a, hS.b, hS.c⟩
  simp only [Act.put, List.setIfInBounds_toArray, List.set_cons_zero, List.set_cons_succ]
  refine St.mix_into (v := .int .i64 V0) (f := 36) (args := #[.string x0]) rfl rfl ?_ ?_ ?_
  · intro wx
    go_simp
    try with_reducible rfl
  · intro L u' wx hS hcl hrd hag
    have h10 := (St.not_yet hcl hrd 60 10 (by kernel_rfl))
    refine (c0 wx (hg1.below (hS.a h10))).mono ?_
    rintro e w' ⟨rfl, hb'⟩
    exact ⟨rfl, hS.call h10 hb' (by decide) (by decide)⟩
  simp only [Act.put, List.setIfInBounds_toArray, List.set_cons_zero, List.set_cons_succ]
  apply St.mix_give
  · rfl
  · intro L u' wx hS hcl hrd hag
    go_simp
    try with_reducible rfl
  · exact fun L u' wx hS => ⟨hS.a, hS.b, hS.c⟩
  simp only [Act.put, List.setIfInBounds_toArray, List.set_cons_zero, List.set_cons_succ]
  apply St.mix_give
  · rfl
  · intro L u' wx hS hcl hrd hag
    go_simp
    try with_reducible rfl
  · exact fun L u' wx hS => ⟨hS.a, hS.b, hS.c⟩
  simp only [Act.put, List.setIfInBounds_toArray, List.set_cons_zero, List.set_cons_succ]
  apply St.mix_give
  · rfl
  · intro L u' wx hS hcl hrd hag
    have e1 := hy1 wx (hS.a (St.not_yet hcl hrd 60 10 (by kernel_rfl)))
    go_simp
    try with_reducible rfl
  · exact fun L u' wx hS => ⟨hS.a, hS.b, hS.c⟩
  simp only [Act.put, List.setIfInBounds_toArray, List.set_cons_zero, List.set_cons_succ]
  refine St.mix_into (v := .int .i64 V1) (f := 36) (args := #[.string x1]) rfl rfl ?_ ?_ ?_
  · intro wx
    go_simp
    try with_reducible rfl
  · intro L u' wx hS hcl hrd hag
    have h10 := (St.not_yet hcl hrd 60 10 (by kernel_rfl))
    refine (c1 wx (hg1.below (hS.a h10))).mono ?_
    rintro e w' ⟨rfl, hb'⟩
    exact ⟨rfl, hS.call h10 hb' (by decide) (by decide)⟩
  simp only [Act.put, List.setIfInBounds_toArray, List.set_cons_zero, List.set_cons_succ]
  apply St.mix_give
  · rfl
  · intro L u' wx hS hcl hrd hag
    go_simp
    try with_reducible rfl
  · exact fun L u' wx hS => ⟨hS.a, hS.b, hS.c⟩
  simp only [Act.put, List.setIfInBounds_toArray, List.set_cons_zero, List.set_cons_succ]
  refine St.mix_free (fun z => ∃ n : Nat, z = .pointer (some ⟨n, 0, none⟩)) rfl ?_ ?_
  · intro L u' wx hS hcl hrd hag
    refine ⟨_, _, ⟨wx.heap.size, rfl⟩, ?_, hS.made (St.not_yet hcl hrd 60 10 (by kernel_rfl))⟩
    go_simp
    try with_reducible rfl
  rintro y9 ⟨n0, rfl⟩
  simp only [Act.put, List.setIfInBounds_toArray, List.set_cons_zero, List.set_cons_succ]
  refine St.mix_skip rfl ?_ ?_
  · intro L u' wx hS hcl hrd hag
    have h9 := St.before_ready hcl hrd 60 9 (by kernel_rfl)
    obtain ⟨n, q0, q1, q2⟩ := hS.b h9 hrd.1
    have hu : u' 9 = .pointer (some ⟨n0, 0, none⟩) := hag 60 9 (by kernel_rfl)
    obtain rfl : n = n0 := by
      have := q0.symm.trans hu
      injection this with e1
      injection e1 with e2
      injection e2
    have hst := hS.store q0 h9 hrd.1
    obtain ⟨_, ⟨d0, d1, d2⟩, dF⟩ := q2
    unfold Lg.zero at d0 d1
    refine ⟨_, ?_, hst⟩
    go_simp
    try with_reducible rfl
  simp only [Act.put]
  refine St.mix_last ?_
  intro L W4 hS hall
  obtain ⟨n, q0, q1, q2, q3⟩ := hS.c (hall 10 (by decide))
  obtain rfl : n = n0 := by
    have q0' : Value.pointer (some ⟨n0, 0, none⟩) = .pointer (some ⟨n, 0, none⟩) := q0
    injection q0' with e1
    injection e1 with e2
    injection e2 with e3
    exact e3.symm
  have hR0 := q2
  have h41 := q3
  have hn4 := q2.1
  have hn4' : w1.heap.size ≤ n := q1
  clear hS hall q0 q2 q3 q1 hy0 hy1 c0 c1 i1 i2 i3 i4
  gi_wp2_with (refine ⟨trivial, ?_⟩; gi_at_call 37; refine (chunks_in Fence.wide 4 trivial rfl _ _ _ _).mono ?_; rintro e w2 ⟨rfl, rfl⟩)
  obtain ⟨W0, hW0⟩ : ∃ W0, (W4.alloc (.cells #[.slice A2 P cp] 56)).alloc (.cells #[.int .i64 2] 3) = W0 := ⟨_, rfl⟩
  have bS : Boxed W0 W4.heap.size 56 (.slice A2 P cp) := hW0 ▸ (Boxed.new W4 56 (.slice A2 P cp)).alloc _
  have bI : Boxed W0 (W4.heap.size + 1) 3 (.int .i64 2) := by
    have := Boxed.new (W4.alloc (.cells #[.slice A2 P cp] 56)) 3 (.int .i64 2)
    rw [World.size_alloc] at this; exact hW0 ▸ this
  have hB0 : Below W4.heap.size W4 W0 := hW0 ▸ (by (repeat' (first | with_reducible assumption | with_reducible exact Below.refl _ _ | with_reducible refine Below.alloc ?_ ?_ _ | with_reducible refine Below.setCell ?_ ?_ _ | with_reducible refine Below.drew ?_ | omega | (simp; done) | (simp; omega))))
  have hz0 : W0.heap.size = W4.heap.size + 2 := by rw [← hW0]; simp
  have bR : BoxL n ⟨V0, V1, []⟩ (.slice none 0 0) W0 := hR0.keep hB0
  have hlow0 : Below w1.heap.size w1 W0 := h41.trans (hB0.mono h41.size)
  obtain ⟨Bs, hBs⟩ : ∃ Bs, Bs = W4.heap.size + 2 := ⟨_, rfl⟩
  have hnB : n < Bs := by omega
  have hBs0 : Bs = W0.heap.size := by omega
  rw [hW0]
  clear hW0 hs2
  refine wpIn_rangeFunc_ownG (w0 := W0) (N := m) rfl (by omega) (gf := 52) (lb := #[.pointer (some ⟨W4.heap.size, 0, none⟩), .pointer (some ⟨W4.heap.size + 1, 0, none⟩)]) rfl trivial (enters_of Tryd.func52 (by kernel_rfl) rfl)
    (chunks_stops Fence.wide 4 trivial rfl (by omega) W4.heap.size (W4.heap.size + 1) g 2 m P cp A2 hA3 (by omega) HPM hPc hcap1 W0 (by omega) (by omega) bS.cell bI.cell) kpC_t (kpC_b (by omega) (by omega)) (Below.refl _ _) (fun _ => rfl)
    (QI n Bs W4.heap.size (W4.heap.size + 1) w1 V0 V1 (.slice A2 P cp) ss m)
    (fun _ _ _ => False)
    (qi_own n Bs W4.heap.size (W4.heap.size + 1) w1 V0 V1 (.slice A2 P cp) ss m _ hlow0.size)
    (fun c s X Y row hs hg hr => hs.elim)
    ⟨⟨_, bR, own_nil _ _⟩, ⟨bS, bI⟩, hlow0⟩
    (fun x => { tmps := #[.string s, undef, .pointer (some ⟨w.heap.size, 0, none⟩), .int .i64 0, .slice (some ⟨g, 0, none⟩) N cap, .bool true, .pointer (some ⟨n, 0, none⟩), chunk2 g 2 x.1,
      .tuple #[.slice (some ⟨g, 0, none⟩) N cap, .bool true], .string s, .tuple #[.slice (some ⟨g, 0, none⟩) N cap, .bool true], .slice (some ⟨g, 0, none⟩) N cap, .bool true, .bool true, .bool false, .bool false,
      .slice (some ⟨g, 0, none⟩) N cap, .int .i64 (N : Int), .bool false, .bool false, .bool false, .slice (some ⟨g, 0, none⟩) N cap, .int .i64 (N : Int), .int .i64 ((m : Int) * 2), .int .i64 0, .bool false, .bool false, undef,
      .slice (some ⟨g, 0, none⟩) N cap, .pointer (some ⟨g, 0, none⟩), .string x0, .int .i64 V0, .slice (some ⟨g, 0, none⟩) N cap, .pointer (some ⟨g, 1, none⟩), .string x1, .int .i64 V1, .agg #[.int .i64 V0, .int .i64 V1, .slice none 0 0],
      .slice (some ⟨g, 0, none⟩) N cap, .slice A2 P cp, .func (.func 52) #[] #[.pointer (some ⟨W4.heap.size, 0, none⟩), .pointer (some ⟨W4.heap.size + 1, 0, none⟩)], chunk2 g 2 x.1,
      undef, undef, undef, undef, undef, undef, undef, undef, undef, undef, undef, undef, undef, undef, undef, undef, undef, undef], defers := [] }) ?assign ?body ?done ?stop
  case stop =>
    rintro D c pre W hD hpre hx hK
    exact hx.elim
  case assign =>
    intro l x W K hK
    gi_wp2
    exact hK
  case body =>
    rintro l pre x W ⟨⟨v, hbx, ho⟩, ⟨hs0, hi0⟩, hlow⟩ hlt
    obtain ⟨A7, c7, hv7, _⟩ := own_room ho
    obtain ⟨k, hk⟩ : ∃ k, pre.length = k := ⟨_, rfl⟩
    rw [List.length_map, hk] at hv7
    subst hv7
    have hgW : Good W := hg1.below hlow
    have hx2 := x.2
    have hxN : x.1 * 2 + 3 < N := by have := HM.out; omega
    have y0 := HCL.out (x.1 * 2 + 2) (by omega)
    have y1 := HCL.out (x.1 * 2 + 3) hxN
    rw [show x.1 * 2 + 2 = 2 + x.1 * 2 by omega] at y0
    rw [show x.1 * 2 + 3 = 2 + x.1 * 2 + 1 by omega] at y1
    have s0 := HSZ.out (2 + x.1 * 2)
    have hent : entAt ss x.1 = (num1 (tAt ss (2 + x.1 * 2)).data.toList, tAt ss (2 + x.1 * 2 + 1)) := by unfold entAt; rw [show x.1 * 2 + 2 = 2 + x.1 * 2 by omega, show x.1 * 2 + 3 = 2 + x.1 * 2 + 1 by omega]
    obtain ⟨tx, htx⟩ : ∃ t, tAt ss (2 + x.1 * 2) = t := ⟨_, rfl⟩
    obtain ⟨ty, hty⟩ : ∃ t, tAt ss (2 + x.1 * 2 + 1) = t := ⟨_, rfl⟩
    rw [htx] at y0 s0 hent
    rw [hty] at y1 hent
    have cn := fun w hg => number_any tx w (by omega) hg
    obtain ⟨V, hV⟩ : ∃ V, num1 tx.data.toList = V := ⟨_, rfl⟩
    rw [hV] at cn hent
    have hgl : g < W.heap.size := Nat.lt_of_lt_of_le hgl1 hlow.size
    have hy0 : ∀ wx, Below W.heap.size W wx → wx.cell? ⟨g, 2 + x.1 * 2, none⟩ = some (.string tx) := fun wx h => (h.cell (p := ⟨g, 2 + x.1 * 2, none⟩) hgl).trans ((hlow.cell (p := ⟨g, 2 + x.1 * 2, none⟩) hgl1).trans y0)
    have hy1 : ∀ wx, Below W.heap.size W wx → wx.cell? ⟨g, 2 + x.1 * 2 + 1, none⟩ = some (.string ty) := fun wx h => (h.cell (p := ⟨g, 2 + x.1 * 2 + 1, none⟩) hgl).trans ((hlow.cell (p := ⟨g, 2 + x.1 * 2 + 1, none⟩) hgl1).trans y1)
    obtain ⟨es, hes⟩ : ∃ es, (pre.map fun x => entAt ss x.1) = es := ⟨_, rfl⟩
    have hel : es.length = k := by rw [← hes, List.length_map, hk]
    rw [hes] at ho
    have HES := Lib.hid hes
    have HENT := Lib.hid hent
    have HEL := Lib.hid hel
    have HOW := Lib.hid ho
    have hk4 : k ≤ 4096 := by omega
    have hBW : Bs ≤ W.heap.size := by have := hi0.lt; omega
    have hbox : ∀ wx, Below W.heap.size W wx → BoxL n ⟨V0, V1, []⟩ (.slice A7 k c7) wx := fun wx h => hbx.keep h
    have hbox1 : ∀ wx, Below Bs W wx → BoxL n ⟨V0, V1, []⟩ (.slice A7 k c7) wx := fun wx h => hbx.kept hnB h
    unfold chunk2
    clear hV htx hty hent hel hes ho y0 y1 hk hx2 hxN s0
    gi_wp2
    refine St.wpIn_region_calls (RE 10 11 13 n Bs W es V ty) (fun _ y => y = .int .i64 V) (fun _ => trivial) (fun h => by cases h) (fun _ _ _ _ h => CallsIn.inRound l (callsIn_wide.2 h)) (by kernel_rfl) (by kernel_rfl) (by kernel_rfl) (by kernel_rfl) (RE.start hBW) ?_
    apply St.mix_give
    · rfl
    · intro L u' wx hS hcl hrd hag
      go_simp
      try with_reducible rfl
    · exact fun L u' wx hS => ⟨hS.le, hS.k, hS.a, hS.p, hS.b⟩
    simp only [Act.put, List.setIfInBounds_toArray, List.set_cons_zero, List.set_cons_succ]
    apply St.mix_give
    · rfl
    · intro L u' wx hS hcl hrd hag
      obtain ⟨_, ⟨d0, d1, d2⟩, _⟩ := hbox wx (hS.a (St.not_yet hcl hrd 60 11 (by kernel_rfl)))
      go_simp
      try with_reducible rfl
    · exact fun L u' wx hS => ⟨hS.le, hS.k, hS.a, hS.p, hS.b⟩
    simp only [Act.put, List.setIfInBounds_toArray, List.set_cons_zero, List.set_cons_succ]
    apply St.mix_give
    · rfl
    · intro L u' wx hS hcl hrd hag
      go_simp
      try with_reducible rfl
    · exact fun L u' wx hS => ⟨hS.le, hS.k, hS.a, hS.p, hS.b⟩
    simp only [Act.put, List.setIfInBounds_toArray, List.set_cons_zero, List.set_cons_succ]
    apply St.mix_give
    · rfl
    · intro L u' wx hS hcl hrd hag
      go_simp
      try with_reducible rfl
    · exact fun L u' wx hS => ⟨hS.le, hS.k, hS.a, hS.p, hS.b⟩
    simp only [Act.put, List.setIfInBounds_toArray, List.set_cons_zero, List.set_cons_succ]
    apply St.mix_give
    · rfl
    · intro L u' wx hS hcl hrd hag
      have e1 := hy0 wx (hS.a (St.not_yet hcl hrd 60 11 (by kernel_rfl)))
      go_simp
      try with_reducible rfl
    · exact fun L u' wx hS => ⟨hS.le, hS.k, hS.a, hS.p, hS.b⟩
    simp only [Act.put, List.setIfInBounds_toArray, List.set_cons_zero, List.set_cons_succ]
    refine St.mix_into (v := .int .i64 V) (f := 36) (args := #[.string tx]) rfl rfl ?_ ?_ ?_
    · intro wx
      go_simp
      try with_reducible rfl
    · intro L u' wx hS hcl hrd hag
      have h11 := (St.not_yet hcl hrd 60 11 (by kernel_rfl))
      refine (cn wx (hgW.below (hS.a h11))).mono ?_
      rintro e w' ⟨rfl, hb'⟩
      exact ⟨rfl, hS.call h11 hb' (by decide) (by decide)⟩
    simp only [Act.put, List.setIfInBounds_toArray, List.set_cons_zero, List.set_cons_succ]
    apply St.mix_give
    · rfl
    · intro L u' wx hS hcl hrd hag
      go_simp
      try with_reducible rfl
    · exact fun L u' wx hS => ⟨hS.le, hS.k, hS.a, hS.p, hS.b⟩
    simp only [Act.put, List.setIfInBounds_toArray, List.set_cons_zero, List.set_cons_succ]
    apply St.mix_give
    · rfl
    · intro L u' wx hS hcl hrd hag
      go_simp
      try with_reducible rfl
    · exact fun L u' wx hS => ⟨hS.le, hS.k, hS.a, hS.p, hS.b⟩
    simp only [Act.put, List.setIfInBounds_toArray, List.set_cons_zero, List.set_cons_succ]
    apply St.mix_give
    · rfl
    · intro L u' wx hS hcl hrd hag
      have e1 := hy1 wx (hS.a (St.not_yet hcl hrd 60 11 (by kernel_rfl)))
      go_simp
      try with_reducible rfl
    · exact fun L u' wx hS => ⟨hS.le, hS.k, hS.a, hS.p, hS.b⟩
    simp only [Act.put, List.setIfInBounds_toArray, List.set_cons_zero, List.set_cons_succ]
    apply St.mix_give
    · rfl
    · intro L u' wx hS hcl hrd hag
      go_simp
      try with_reducible rfl
    · exact fun L u' wx hS => ⟨hS.le, hS.k, hS.a, hS.p, hS.b⟩
    simp only [Act.put, List.setIfInBounds_toArray, List.set_cons_zero, List.set_cons_succ]
    refine St.mix_free (fun z => ∃ g, z = .slice (some ⟨g, 0, none⟩) 1 1) rfl ?_ ?_
    · intro L u' wx hS hcl hrd hag
      refine ⟨_, _, ⟨wx.heap.size, rfl⟩, ?_, hS.made (St.not_yet hcl hrd 60 11 (by kernel_rfl)) (by decide)⟩
      go_simp
      try with_reducible rfl
    rintro y9 ⟨g9, rfl⟩
    simp only [Act.put, List.setIfInBounds_toArray, List.set_cons_zero, List.set_cons_succ]
    refine St.mix_free (fun z => ∃ A c, z = .slice A (k + 1) c) rfl ?_ ?_
    · intro L u' wx hS hcl hrd hag
      obtain ⟨v', w', k1, k2, k3⟩ := hS.app (St.before_ready hcl hrd 60 10 (by kernel_rfl)) hrd.1 (St.not_yet hcl hrd 60 13 (by kernel_rfl)) (by decide) HOW.out (by have := HEL.out; omega) 22
      rw [show u' 10 = .slice (some ⟨g9, 0, none⟩) 1 1 from hag 60 10 (by kernel_rfl)] at k1
      rw [HEL.out] at k2
      exact ⟨v', w', k2, run_append2 rfl rfl rfl k1, k3⟩
    rintro y10 ⟨A10, c10, rfl⟩
    simp only [Act.put, List.setIfInBounds_toArray, List.set_cons_zero, List.set_cons_succ]
    apply St.mix_give
    · rfl
    · intro L u' wx hS hcl hrd hag
      go_simp
      try with_reducible rfl
    · exact fun L u' wx hS => ⟨hS.le, hS.k, hS.a, hS.p, hS.b⟩
    simp only [Act.put, List.setIfInBounds_toArray, List.set_cons_zero, List.set_cons_succ]
    refine St.mix_skip rfl ?_ ?_
    · intro L u' wx hS hcl hrd hag
      have h11 := St.before_ready hcl hrd 60 11 (by kernel_rfl)
      obtain ⟨wy, q1, q2, q3⟩ := hS.b h11
      obtain ⟨rfl, _⟩ := q3.resolve_right (fun h => by rw [hrd.1] at h; cases h.2)
      obtain ⟨_, ⟨d0, d1, d2⟩, dF⟩ := hbox1 wx q1
      have hst := hS.store h11 hrd.1 (by decide)
      rw [show u' 11 = .slice A10 (k + 1) c10 from hag 60 11 (by kernel_rfl)] at hst
      refine ⟨_, ?_, hst⟩
      go_simp
      try with_reducible rfl
    simp only [Act.put]
    refine St.mix_last ?_
    intro L wx hS hall
    obtain ⟨q1, q2, qk, wy, q4, q5⟩ := hS.done (hall 11 (by decide)) (hall 13 (by decide)) hbx hnB
    have q1' : BoxL n ⟨V0, V1, []⟩ (.slice A10 (k + 1) c10) wx := q1
    have q2' : OwnE wx Bs (.slice A10 (k + 1) c10) (es ++ [(V, ty)]) := q2
    have q3 : Boxed wx W4.heap.size 56 (.slice A2 P cp) := by
      rw [q5]; exact boxed_set (Below.boxed q4 (by omega) hs0) (by omega) _
    have q6 : Boxed wx (W4.heap.size + 1) 3 (.int .i64 2) := by
      rw [q5]; exact boxed_set (Below.boxed q4 (by omega) hi0) (by omega) _
    have q7 : Below w1.heap.size w1 wx := by
      rw [q5]
      exact (hlow.trans (q4.mono (by have := hlow0.size; omega))).setCell (p := ⟨n, 2, none⟩) hn4' _
    clear hS hall q1 q2 q4 q5 hbox hbox1 hy0 hy1 cn
    gi_wp2
    refine ⟨qk.from _, ⟨q3.cell.trans hs0.cell.symm, q6.cell.trans hi0.cell.symm⟩, ⟨_, q1', ?_⟩, ⟨q3, q6⟩, q7⟩
    rw [List.map_append, HES.out]
    show OwnE wx Bs _ (es ++ [entAt ss x.1])
    rw [HENT.out]
    exact q2'
  case done =>
    rintro D ys W hD hys ⟨⟨v, hbx, ho⟩, ⟨hs0, hi0⟩, hlow⟩ hK
    have hres : (ys.map fun x => entAt ss x.1) = (List.range m).map (entAt ss) := by
      rw [show ys.map (fun x => entAt ss x.1) = (ys.map (·.1)).map (entAt ss) by rw [List.map_map]; rfl, hys]
    rw [hres] at ho
    obtain ⟨A7, c7, hv7, _⟩ := own_room ho
    rw [ents_len] at hv7
    subst hv7
    have hbw : Below w.heap.size w W := hb1.trans (hlow.mono hb1.size)
    have F0 := C0.keep hlow
    have ck := check_any ⟨V0, V1, (List.range m).map (entAt ss)⟩ (.slice A7 m c7) W (SE.of_own ho) (by rw [ents_len]; omega)
    have hev := HEV.out
    have HO := Lib.hid ho
    have HK := Lib.hid hK
    have HBX := Lib.hid hbx
    unfold Lg.zero at F0
    clear hres hs0 hi0 ho hK
    cases hI : isL ⟨V0, V1, (List.range m).map (entAt ss)⟩ with
    | false =>
      rw [if_neg (by simp [hI])] at hev
      rw [show chkL ⟨V0, V1, (List.range m).map (entAt ss)⟩ = 110 by unfold chkL; rw [hI]; rfl] at ck
      clear hI
      obtain ⟨q_0, ⟨q_1, q_2, q_3⟩, q_4⟩ := _root_.id hbx
      gi_wp2_with (refine ⟨trivial, ?_⟩; gi_at_call 13; refine (callsIn_wide.2 ck).mono ?_)
      rintro e W3 rfl hb3
      have hbw3 := hbw.trans (hb3.mono hbw.size)
      have G0 := F0.keep hb3
      have hK3 := (keepsOthers_of hb3).same D _ HK.out rfl
      clear q_0 q_1 q_2 q_3 q_4
      clear ck F0
      obtain ⟨p_0, ⟨p_1, p_2, p_3⟩, p_4⟩ := _root_.id G0
      gi_wp2
      have G1 := G0.put Lg.zero (.slice none 0 0)
      have hK' := (((KeepsOthers.setCell W3 ⟨w.heap.size, 0, none⟩ (.int .i64 0)).trans (KeepsOthers.setCell _ ⟨w.heap.size, 1, none⟩ (.int .i64 0))).trans (KeepsOthers.setCell _ ⟨w.heap.size, 2, none⟩ (.slice none 0 0))).same D _ hK3 rfl
      refine ⟨by simp, .inl ⟨_, _, rfl, run_takeDeferred hK', ?_⟩⟩
      refine ⟨.tuple #[lv Lg.zero (.slice none 0 0), .int .i64 110], res_box_tmp Tryd.results10 rfl rfl (boxL_kept G1 (grownBy_putObj' _ D (.deferred none)) (fun r e => by cases e; exact ⟨_, hK', rfl⟩)), ?_⟩
      rw [hev]
      exact ⟨_, rfl, .nil, (((hbw3.setCell (p := ⟨w.heap.size, 0, none⟩) (Nat.le_refl _) _).setCell (p := ⟨w.heap.size, 1, none⟩) (Nat.le_refl _) _).setCell (p := ⟨w.heap.size, 2, none⟩) (Nat.le_refl _) _).trans (belowK_b (w := w) (Nat.le_refl _) _ D _ _ (by have := h41.size; omega) hK' rfl rfl)⟩
    | true =>
      rw [if_pos hI] at hev
      rw [show chkL ⟨V0, V1, (List.range m).map (entAt ss)⟩ = 0 by unfold chkL; rw [hI]; rfl] at ck
      clear hI
      obtain ⟨q_0, ⟨q_1, q_2, q_3⟩, q_4⟩ := _root_.id hbx
      gi_wp2_with (refine ⟨trivial, ?_⟩; gi_at_call 13; refine (callsIn_wide.2 ck).mono ?_)
      rintro e W3 rfl hb3
      have hbw3 := hbw.trans (hb3.mono hbw.size)
      have G0 := F0.keep hb3
      have hK3 := (keepsOthers_of hb3).same D _ HK.out rfl
      have hbx3 := HBX.out.keep hb3
      have HO3 := Lib.hid (own_keep HO.out hb3)
      clear q_0 q_1 q_2 q_3 q_4
      clear ck F0 hbx
      obtain ⟨p_0, ⟨p_1, p_2, p_3⟩, p_4⟩ := _root_.id G0
      obtain ⟨q_0, ⟨q_1, q_2, q_3⟩, q_4⟩ := _root_.id hbx3
      gi_wp2
      have G1 := G0.put ⟨V0, V1, (List.range m).map (entAt ss)⟩ (.slice A7 m c7)
      have hK' := (((KeepsOthers.setCell W3 ⟨w.heap.size, 0, none⟩ (.int .i64 V0)).trans (KeepsOthers.setCell _ ⟨w.heap.size, 1, none⟩ (.int .i64 V1))).trans (KeepsOthers.setCell _ ⟨w.heap.size, 2, none⟩ (.slice A7 m c7))).same D _ hK3 rfl
      have hwB : w.heap.size < Bs := by have := h41.size; omega
      have HO4 := own_set (own_set (own_set HO3.out (a := ⟨w.heap.size, 0, none⟩) hwB (.int .i64 V0)) (a := ⟨w.heap.size, 1, none⟩) hwB (.int .i64 V1)) (a := ⟨w.heap.size, 2, none⟩) hwB (.slice A7 m c7)
      refine ⟨by simp, .inl ⟨_, _, rfl, run_takeDeferred hK', ?_⟩⟩
      refine ⟨.tuple #[lv ⟨V0, V1, (List.range m).map (entAt ss)⟩ (.slice A7 m c7), .int .i64 0], res_box_tmp Tryd.results10 rfl rfl (boxL_kept G1 (grownBy_putObj' _ D (.deferred none)) (fun r e => by cases e; exact ⟨_, hK', rfl⟩)), ?_⟩
      rw [hev]
      exact ⟨_, rfl, ArgE.of_own (ownsRow_putObj HO4 _ hK' rfl), (((hbw3.setCell (p := ⟨w.heap.size, 0, none⟩) (Nat.le_refl _) _).setCell (p := ⟨w.heap.size, 1, none⟩) (Nat.le_refl _) _).setCell (p := ⟨w.heap.size, 2, none⟩) (Nat.le_refl _) _).trans (belowK_b (w := w) (Nat.le_refl _) _ D _ _ (by have := h41.size; omega) hK' rfl rfl)⟩


set_option maxRecDepth 100000 in
set_option maxHeartbeats 8000000 in
theorem parse_any (s : ByteArray) (w : World) (hs : s.size ≤ 12000) (hg : Good w) :
    Calls Tryd.prog 10 #[.string s] w fun e w' => GaveR w (parseL s.data.toList) e w' := by
  have hb0 : Below w.heap.size w (w.alloc (.cells #[.int .i64 0, .int .i64 0, .slice none 0 0] 24)) := (Below.refl _ w).alloc (Nat.le_refl _) _
  have cu := strands_any s _ hs (hg.below hb0)
  have B0 := BoxL.new w Lg.zero (.slice none 0 0)
  obtain ⟨p, hp⟩ : ∃ p, parseL s.data.toList = p := ⟨_, rfl⟩
  cases hu : untieT s.data.toList with
  | none =>
    rw [hp]
    rw [parseL_none hu] at hp
    subst hp
    rw [hu] at cu
    unfold StrOut at cu
    clear hu
    go_enter Tryd.func10, Tryd.ntmps10
    go_wp2_with fail
    refine cu.mono ?_
    rintro e w1 ⟨rfl, b1⟩
    have hb1 := hb0.trans (b1.mono hb0.size)
    have C0 := B0.keep b1
    clear b1 B0 cu
    unfold Lg.zero at C0
    obtain ⟨p_0, ⟨p_1, p_2, p_3⟩, p_4⟩ := _root_.id C0
    go_wp2_with fail
    exact bodyPost_ret (res_box_tmp Tryd.results10 rfl rfl (C0.put Lg.zero (.slice none 0 0))) rfl ⟨_, rfl, .nil, ((hb1.setCell (p := ⟨w.heap.size, 0, none⟩) (Nat.le_refl _) _).setCell (p := ⟨w.heap.size, 1, none⟩) (Nat.le_refl _) _).setCell (p := ⟨w.heap.size, 2, none⟩) (Nat.le_refl _) _⟩
  | some l =>
    by_cases hm : 2 ≤ l.length ∧ l.length % 2 = 0
    · exact callsIn_wide.1 (parse_in s l ((l.length - 2) / 2) w hs hg hu (by omega))
    · rw [hp]
      rw [hu] at cu
      unfold StrOut at cu
      have HU := Lib.hid hu
      have HPP := Lib.hid hp
      clear hu hp
      go_enter Tryd.func10, Tryd.ntmps10
      go_wp2_with fail
      refine cu.mono ?_
      rintro e w1 ⟨⟨v, ss, rfl, hss, hown⟩, b1⟩
      subst hss
      rw [texts_length] at hm
      have hb1 := hb0.trans (b1.mono hb0.size)
      have C0 := B0.keep b1
      obtain ⟨g, A, cap, rfl, _, _, _, _⟩ := row_cells hown
      clear b1 B0 cu hown
      unfold Lg.zero at C0
      have hcnt : ss.length ≤ 4096 := by have := (untie_spec HU.out).2.1; rwa [texts_length] at this
      have hpz := parseL_odd HU.out (by omega)
      rw [HPP.out] at hpz
      subst hpz
      obtain ⟨N, hN⟩ : ∃ N, ss.length = N := ⟨_, rfl⟩
      rw [hN] at hm hcnt ⊢
      clear hN HPP HU
      by_cases h2 : N < 2
      · have g1 : ((N : Int) < 2) = True := eq_true (by omega)
        clear h2 hm hcnt
        obtain ⟨p_0, ⟨p_1, p_2, p_3⟩, p_4⟩ := _root_.id C0
        go_wp2_with fail
        exact bodyPost_ret (res_box_tmp Tryd.results10 rfl rfl (C0.put Lg.zero (.slice none 0 0))) rfl ⟨_, rfl, .nil, ((hb1.setCell (p := ⟨w.heap.size, 0, none⟩) (Nat.le_refl _) _).setCell (p := ⟨w.heap.size, 1, none⟩) (Nat.le_refl _) _).setCell (p := ⟨w.heap.size, 2, none⟩) (Nat.le_refl _) _⟩
      · have g1 : ((N : Int) < 2) = False := eq_false (by omega)
        obtain ⟨k, hk⟩ : ∃ k, N = k * 2 + 3 := ⟨(N - 3) / 2, by omega⟩
        have j1 : IntKind.i64.wrap ((N : Int) - 2) = ((k * 2 + 1 : Nat) : Int) := by rw [IntKind.wrap_i64] <;> omega
        have e1 : ((((k * 2 + 1 : Nat) : Int).tmod 2) == 0) = false := by rw [Int.tmod_eq_emod_of_nonneg (by omega), show ((k * 2 + 1 : Nat) : Int) % 2 = 1 by omega]; rfl
        have e2 : ((((k * 2 + 1 : Nat) : Int).tmod 2) != 0) = true := by rw [bne, e1]; rfl
        have e3 : ((((k * 2 + 1 : Nat) : Int) % 2) == 0) = false := by rw [show ((k * 2 + 1 : Nat) : Int) % 2 = 1 by omega]; rfl
        have e4 : ((((k * 2 + 1 : Nat) : Int) % 2) != 0) = true := by rw [bne, e3]; rfl
        have e5 : (((k : Int) * 2 + 1) % 2 == 0) = false := by rw [show ((k : Int) * 2 + 1) % 2 = 1 by omega]; rfl
        have e6 : (((k : Int) * 2 + 1) % 2 != 0) = true := by rw [bne, e5]; rfl
        clear hk hm h2 hcnt
        obtain ⟨p_0, ⟨p_1, p_2, p_3⟩, p_4⟩ := _root_.id C0
        go_wp2_with fail
        exact bodyPost_ret (res_box_tmp Tryd.results10 rfl rfl (C0.put Lg.zero (.slice none 0 0))) rfl ⟨_, rfl, .nil, ((hb1.setCell (p := ⟨w.heap.size, 0, none⟩) (Nat.le_refl _) _).setCell (p := ⟨w.heap.size, 1, none⟩) (Nat.le_refl _) _).setCell (p := ⟨w.heap.size, 2, none⟩) (Nat.le_refl _) _⟩
end Go.Proofs.YtimodohcihnoiaaDoor.Ro

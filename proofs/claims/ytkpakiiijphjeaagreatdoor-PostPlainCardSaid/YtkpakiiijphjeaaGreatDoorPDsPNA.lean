/-
  knot.Untie and the document's Untie, at every text. Condition: lengths below 2^47; the library's variables hold what their types allow.
  A descriptor's text: Put, of the program and of the document. Conditions: at most 1000 members, keys of at most a million bytes, numbers of 64 bits.
  numbers: the numbers whose texts these are, or none. Condition: at most 10,000 texts; the library's variables hold what their types allow.
-/
import Derived.Test.YtkpakiiijphjeaaGreatDoorPTieA
import Derived.Test.YtkpakiiijphjeaaGreatDoorPDsSMA
import Derived.Test.YtkpakiiijphjeaaGreatDoorPRegA
import Derived.Test.YtkpakiiijphjeaaGreatDoorPFirstA
import Derived.OwnWalk
namespace Go.Proofs.YtkpakiiijphjeaaGreatDoor
open Go.RowKit M
theorem texts_length (ss : List ByteArray) : (texts ss).length = ss.length := by simp [texts]
theorem texts_snoc (ss : List ByteArray) (x : ByteArray) : texts (ss ++ [x]) = texts ss ++ [x.data.toList] := by simp [texts]
theorem own_below {w w' : World} {base : Nat} {v : Value} {n : Nat} {xs : List Value} (h : w.ownsRow base 9 1 v n xs) (hb : Below w.heap.size w w') : w'.ownsRow base 9 1 v n xs :=
  h.kept (row := none) ⟨hb.os, hb.tape, hb.output, hb.size, fun k hk _ => hb.block k hk⟩ (Classical.em _)
theorem own_form {w : World} {base : Nat} {v : Value} {ss : List ByteArray} (h : w.ownsRow base 9 1 v ss.length (ss.map Value.string)) : ∃ A c, v = .slice A ss.length c := (SL.of_own h).form
theorem first_is (t : ByteArray) {x r : Text} (h : firstT t.data.toList = some (x, r)) : ∃ X R : ByteArray, firstR t (firstT t.data.toList) = .tuple #[.string X, .string R, .int .i64 0] ∧ X.data.toList = x ∧ R.data.toList = r :=
  ⟨⟨x.toArray⟩, ⟨r.toArray⟩, by rw [h]; rfl, rfl, rfl⟩
end Go.Proofs.YtkpakiiijphjeaaGreatDoor

namespace Go.Proofs.YtkpakiiijphjeaaGreatDoor.Ds
open Go.RowKit Bnd
open Go.Proofs.YtkpakiiijphjeaaGreatDoor.M (numT inR tieT)
abbrev nb (n : Int) : ByteArray := ⟨(numT n).toArray⟩
theorem nb_size {n : Int} (h : inR n) : (nb n).size ≤ 20 := by
  have h1 := M.numT_length h
  have h2 : (nb n).size = (numT n).length := by simp [ByteArray.size]
  omega
theorem run_append2 {P : Program} {a : Go.Act} {o : Oper} {s x : Operand} {t : TypeId} {v y v' : Value} {w w' : World} (ho : o.op = .call { callee := .builtin .append, args := #[s, x], argTypes := #[t, t] }) (hs : a.eval s = v) (hx : a.eval x = y)
    (hrun : (Builtin.append_ #[t, t] o.type #[v, y]).run P w = .ok v' w') : (execOp a.eval o).run P w = .ok (.value v') w' := by
  simp [execOp, ho, resolve, invoke, builtin, hs, hx, hrun, Result.andThen]
theorem own_new (w : World) (base : Nat) (ss : List ByteArray) (hb : base ≤ w.heap.size) (hl : ss.length ≤ 100) : (w.alloc (.cells (ss.map Value.string).toArray 9)).ownsRow base 9 1 (.slice (some ⟨w.heap.size, 0, none⟩) ss.length ss.length) ss.length (ss.map Value.string) :=
  ⟨by simp, .inr ⟨w.heap.size, ss.length, _, rfl, hb, heap_alloc_new w _, Nat.le_refl _, by unfold maxLen; omega, by simp, by rw [Nat.mul_one]; exact List.take_of_length_le (by simp)⟩⟩
structure PR (k7 k8 base : Nat) (W0 : World) (xs : List ByteArray) (x y : ByteArray) (L : Nat → Bool) (u : Nat → Value) (wx : World) : Prop where
  le : base ≤ W0.heap.size
  b0 : L k8 = false → Below W0.heap.size W0 wx
  b : Below base W0 wx
  p7 : L k7 = true → L k8 = false → ∃ g, u k7 = .slice (some ⟨g, 0, none⟩) 2 2 ∧ wx.cell? ⟨g, 0, none⟩ = some (.string x) ∧ wx.cell? ⟨g, 1, none⟩ = some (.string y) ∧ g < wx.heap.size
  o8 : L k8 = true → wx.ownsRow base 9 1 (u k8) (xs.length + 2) ((xs ++ [x, y]).map Value.string)
theorem PR.start {k7 k8 base : Nat} {W0 : World} (xs : List ByteArray) (x y : ByteArray) (h : base ≤ W0.heap.size) : PR k7 k8 base W0 xs x y (fun _ => false) (fun _ => undef) W0.drew :=
  ⟨h, fun _ => (Below.refl _ W0).drew, ((Below.refl _ W0).drew).mono h, fun h => (by cases h), fun h => (by cases h)⟩
theorem PR.call {k7 k8 base i : Nat} {W0 wx w' : World} {xs : List ByteArray} {x y : ByteArray} {L : Nat → Bool} {u : Nat → Value} {z : Value} (h : PR k7 k8 base W0 xs x y L u wx) (h8 : L k8 = false) (hb : Below wx.heap.size wx w') (e7 : St.mark L i k7 = L k7) (e8 : St.mark L i k8 = L k8) (q7 : St.upd u i z k7 = u k7) :
    PR k7 k8 base W0 xs x y (St.mark L i) (St.upd u i z) w' := by
  have h0 := h.b0 h8
  refine ⟨h.le, fun _ => h0.trans (hb.mono h0.size), h.b.trans (hb.mono (Nat.le_trans h.le h0.size)), fun h7 h8' => ?_, fun h' => ?_⟩
  · rw [e7] at h7
    obtain ⟨g, g1, g2, g3, g4⟩ := h.p7 h7 h8
    exact ⟨g, by rw [q7]; exact g1, (hb.cell (p := ⟨g, 0, none⟩) g4).trans g2, (hb.cell (p := ⟨g, 1, none⟩) g4).trans g3, Nat.lt_of_lt_of_le g4 hb.size⟩
  · rw [e8, h8] at h'; cases h'
theorem PR.made {k7 k8 base : Nat} {W0 wx : World} {xs : List ByteArray} {x y : ByteArray} {L : Nat → Bool} {u : Nat → Value} (h : PR k7 k8 base W0 xs x y L u wx) (h8 : L k8 = false) (hne : k7 ≠ k8) :
    PR k7 k8 base W0 xs x y (St.mark L k7) (St.upd u k7 (.slice (some ⟨wx.heap.size, 0, none⟩) 2 2)) (wx.alloc (.cells #[.string x, .string y] 9)) := by
  have h0 := h.b0 h8
  refine ⟨h.le, fun _ => h0.alloc h0.size _, h.b.alloc (Nat.le_trans h.le h0.size) _, fun _ _ => ?_, fun h' => ?_⟩
  · exact ⟨wx.heap.size, by simp [St.upd], World.cell?_alloc_new wx _ _ 0, World.cell?_alloc_new wx _ _ 1, by simp⟩
  · have : St.mark L k7 k8 = L k8 := by simp [St.mark, hne.symm]
    rw [this, h8] at h'; cases h'
theorem PR.app {k7 k8 base : Nat} {W0 wx : World} {xs : List ByteArray} {x y : ByteArray} {L : Nat → Bool} {u : Nat → Value} (h : PR k7 k8 base W0 xs x y L u wx) (h7 : L k7 = true) (h8 : L k8 = false) {v : Value}
    (hown : W0.ownsRow base 9 1 v xs.length (xs.map Value.string)) (hle : xs.length ≤ 10000) (ty : TypeId) :
    ∃ v' w', (Builtin.append_ #[70, 70] ty #[v, u k7]).run Tryz.prog wx = .ok v' w' ∧ PR k7 k8 base W0 xs x y (St.mark L k8) (St.upd u k8 v') w' := by
  obtain ⟨i0, hi, hz0, hz1, hz2⟩ := info_parts infoStr
  have h0 := h.b0 h8
  have ho := own_below hown h0
  obtain ⟨g, g1, g2, g3, g4⟩ := h.p7 h7 h8
  obtain ⟨v', w', k1, k2, k3, _⟩ := run_append_own (P := Tryz.prog) (w := wx) base 70 ty 9 i0 (.string ⟨#[]⟩) 1 16 Tryz.underlying70 hi hz0 hz1 hz2 rfl (by decide) v xs.length (xs.map Value.string) ho ⟨g, 0, none⟩ 2 2 [.string x, .string y]
    rfl (fun j z hz => by
      match j with
      | 0 => simp at hz; subst hz; exact g2
      | 1 => simp at hz; subst hz; exact g3
      | j + 2 => simp at hz) (fun z hz => by simp at hz; rcases hz with rfl | rfl <;> rfl) (by unfold maxLen; omega) (by omega) (Nat.le_trans h.le h0.size)
  rw [← g1] at k1
  have e8 : St.mark L k8 k8 = true := by simp [St.mark]
  refine ⟨v', w', k1, h.le, fun h' => (by rw [e8] at h'; cases h'), h.b.grown k3 (Nat.le_trans h.le h0.size) (fun k hk => (ho.lt k hk).1), fun _ h' => (by rw [e8] at h'; cases h'), fun _ => ?_⟩
  have : St.upd u k8 v' k8 = v' := by simp [St.upd]
  rw [this]
  simpa using k2
end Go.Proofs.YtkpakiiijphjeaaGreatDoor.Ds

namespace Go.Proofs.YtkpakiiijphjeaaGreatDoor.Ds
open Go.RowKit Bnd
open Go.Proofs.YtkpakiiijphjeaaGreatDoor.M (numT inR tieT intT)
abbrev OwnI (w : World) (base : Nat) (v : Value) (ns : List Int) : Prop := w.ownsRow base 2 1 v ns.length (ns.map (Value.int .i64))
theorem infoI : (Tryz.prog.info? 2).map (fun i => (i.zero, i.size, i.bytes)) = some (some (.int .i64 0), 1, 8) := by kernel_rfl
theorem SI.of_own {w : World} {base : Nat} {v : Value} {ns : List Int} (h : OwnI w base v ns) : SI w w.heap.size v ns := by
  rcases h.2 with ⟨rfl, h0⟩ | ⟨g, cap, cur, rfl, _, hh, _⟩
  · have : ns = [] := List.length_eq_zero_iff.1 h0
    subst this
    exact ⟨none, 0, rfl, fun h => absurd h (by simp)⟩
  · refine ⟨_, _, rfl, fun h0 => ⟨g, 0, rfl, ?_, fun i hi => ?_⟩⟩
    · exact (Array.getElem?_eq_some_iff.1 hh).1
    · have := h.cells (g := g) rfl i _ (by rw [List.getElem?_map, List.getElem?_eq_getElem hi]; rfl)
      rw [Addr.add_lit] at this
      exact this
theorem ownI_keep {w w' : World} {base : Nat} {v : Value} {ns : List Int} (h : OwnI w base v ns) (hb : Below w.heap.size w w') : OwnI w' base v ns :=
  h.kept (row := none) ⟨hb.os, hb.tape, hb.output, hb.size, fun k hk _ => hb.block k hk⟩ (Classical.em _)
theorem wpList_append_is {w : World} {ops : Array Oper} {rest : List Oper} {o : Oper} {a : Act} {Q : Exit → Act → World → Prop} (hgd : o.guard = none) (s x : Operand)
    (ho : o.op = .call { callee := .builtin .append, args := #[s, x], argTypes := #[88, 88] }) (base : Nat) (v : Value) (xs : List Int) (hs : a.eval s = v)
    (hown : OwnI w base v xs) (hbase : base ≤ w.heap.size) (n : Int) (b : Nat) (hx : a.eval x = .slice (some ⟨b, 0, none⟩) 1 1) (hc : w.cell? ⟨b, 0, none⟩ = some (.int .i64 n)) (hlen : xs.length ≤ 1000000)
    (h : ∀ v' w', OwnI w' base v' (xs ++ [n]) → Below base w w' → v' ≠ .slice none 0 0 → wpList Tryz.prog ops Q rest (a.put o.dst v') w') : wpList Tryz.prog ops Q (o :: rest) a w := by
  obtain ⟨i0, hi, hz0, hz1, hz2⟩ := info_parts infoI
  refine wpList_append_own w hgd s x 88 ho base 2 i0 (.int .i64 0) 1 8 Tryz.underlying88 hi hz0 hz1 hz2 rfl (by decide) v xs.length (xs.map (Value.int .i64)) hs hown ⟨b, 0, none⟩ 1 1 [.int .i64 n] hx rfl ?_ ?_ (by unfold maxLen; omega) (by omega) hbase ?_
  · intro j u hj
    match j, hj with
    | 0, hj => simp at hj; subst hj; simpa [Addr.add] using hc
  · intro u hu; simp at hu; subst hu; rfl
  · intro v' w' h2 h3 h4
    exact h v' w' (by show w'.ownsRow _ _ _ _ _ _; simpa using h2) ((Below.refl _ w).grown h3 hbase (fun k hk => (hown.lt k hk).1)) (fun e => by have := (h4.1 e).2; cases this)
def NumsOut (base : Nat) (o : Option (List Int)) (e : Ending) (w' : World) : Prop := match o with
  | some ns => ∃ v, e = .returned (.tuple #[v, .bool true]) ∧ OwnI w' base v ns ∧ v ≠ .slice none 0 0
  | none => e = .returned (.tuple #[.slice none 0 0, .bool false])
theorem intsOf_take {l : List M.Text} {k : Nat} (h : k < l.length) {r : List Int} {n : Int} (hr : intsOf (l.take k) = some r) (hn : intT l[k] = some n) : intsOf (l.take (k + 1)) = some (r ++ [n]) := by
  rw [List.take_succ_eq_append_getElem h, intsOf_snoc, hr, hn]
theorem intsOf_at {l : List M.Text} {k : Nat} (h : k < l.length) (hn : intT l[k] = none) : intsOf l = none := by
  have e : l = l.take k ++ l[k] :: l.drop (k + 1) := by rw [← List.drop_eq_getElem_cons h, List.take_append_drop]
  rw [e]; exact intsOf_bad hn
set_option maxHeartbeats 4000000 in
set_option maxRecDepth 100000 in
theorem numbers_any (v : Value) (ss : List ByteArray) (w : World) (hv : SL w w.heap.size v ss) (hl : ss.length ≤ 10000) (hsz : ∀ s ∈ ss, s.size ≤ 140737488355328) (hg : Good w) :
    Calls Tryz.prog 121 #[v] w fun e w' => NumsOut w.heap.size (intsOf (texts ss)) e w' ∧ Below w.heap.size w w' := by
  obtain ⟨i0, hi0, hz0, hz1, hz2⟩ := info_parts infoI
  obtain ⟨A, c, rfl⟩ := hv.form
  obtain ⟨n, hn⟩ : ∃ n, n = ss.length := ⟨_, rfl⟩
  have HX := Lib.hid hn
  rw [← hn] at hv hl ⊢
  clear hn
  go_enter Tryz.func121, Tryz.ntmps121
  go_wp2_with (at_make; refine wpList_make_own _ rfl _ _ 88 rfl w.heap.size 2 i0 (.int .i64 0) 1 Tryz.underlying88 hi0 hz0 hz1 .i64 .i64 _ n rfl rfl rfl (by rw [hz2]; omega) (by unfold maxLen; omega) (Nat.le_refl _) ?_; intro w0 hown0 hgrow0)
  have hb0 : Below w.heap.size w w0 := (Below.refl _ w).grown hgrow0 (Nat.le_refl _) (fun k hk => by cases hk)
  clear hgrow0
  go_wp2_with fail
  go_loopw [4, 6, 7, 8, 14] (fun v4 _ _ _ vi wr => ∃ (k : Nat) (ns : List Int), k ≤ n ∧ vi = .int .i64 (k : Int) ∧ OwnI wr w.heap.size v4 ns ∧ Hid (v4 ≠ .slice none 0 0) ∧ Hid (intsOf ((texts ss).take k) = some ns) ∧ Hid (ns.length = k) ∧ Below w.heap.size w wr) (fun _ _ _ _ vi _ => n - (intOf vi).toNat)
  case atStart => exact ⟨0, [], by omega, rfl, hown0, Lib.hid (by simp), rfl, Lib.hid rfl, hb0⟩
  case round =>
    obtain ⟨k, ns, hk, rfl, hown, hne, hR, hnl, hbw⟩ := hrel
    have hz := hbw.size
    by_cases hlt : k < n
    · have hkx : k < ss.length := by rw [← HX.out]; exact hlt
      have hkt : k < (texts ss).length := by rw [texts_length]; exact hkx
      obtain ⟨ad, rfl, hadb, hcell⟩ := (hv.below hbw).at_ hkx
      have hss := hsz _ (List.getElem_mem hkx)
      have htx : (texts ss)[k] = ss[k].data.toList := by simp [texts]
      obtain ⟨x, hx⟩ : ∃ x, ss[k] = x := ⟨_, rfl⟩
      rw [hx] at hcell hss htx
      have hcon := int_any x wr hss (hg.below hbw)
      have hk0 : (0 : Int) ≤ (k : Int) := by omega
      have hk1 : (k : Int) < (n : Int) := by omega
      have HO := Lib.hid hown
      obtain ⟨A4, c4, hv4⟩ := (SI.of_own hown).form
      subst hv4
      cases hi : intT x.data.toList with
      | none =>
        rw [hi] at hcon
        have hres : intsOf (texts ss) = none := intsOf_at hkt (by rw [htx]; exact hi)
        have HR := Lib.hid hres
        unfold intR at hcon
        clear hres hi hR hx htx hown
        go_wp2_with fail
        refine hcon.mono ?_
        rintro e w1 ⟨rfl, b1⟩
        go_wp2_with fail
        go_ret2
        exact ⟨by rw [HR.out]; rfl, hbw.trans (b1.mono hbw.size)⟩
      | some m =>
        rw [hi] at hcon
        have hstep := intsOf_take hkt hR.out (by rw [htx]; exact hi)
        have HS := Lib.hid hstep
        unfold intR at hcon
        clear hstep hi hR hx htx hown
        go_wp2_with fail
        refine hcon.mono ?_
        rintro e w1 ⟨rfl, b1⟩
        have HO1 := Lib.hid (ownI_keep HO.out b1)
        have B1 := hbw.trans (b1.mono hbw.size)
        have hz1 := B1.size
        go_wp2_with (at_builtin; refine wpList_append_is rfl _ _ rfl w.heap.size _ ns rfl (HO1.out.alloc _) (by simp; omega) m w1.heap.size rfl (by simp [go_sem]) (by have := hnl.out; omega) ?_)
        intro v' w2 O2 b2 ne2
        have NE := Lib.hid ne2
        have B2 : Below w.heap.size w w2 := (B1.alloc hz1 _).trans b2
        have O3 := Lib.hid O2
        clear O2 b2 ne2
        go_wp2_with fail
        go_roundw
        case rel => exact ⟨k + 1, ns ++ [m], by omega, by go_num, O3.out, NE, HS, (show (ns ++ [m]).length = k + 1 by have := hnl.out; simp; omega), B2⟩
        case measure => simp [intOf]; omega
    · obtain rfl : k = n := by omega
      have hfin : intsOf (texts ss) = some ns := by
        rw [← hR.out, List.take_of_length_le (by rw [texts_length]; have := HX.out; omega)]
      have HF := Lib.hid hfin
      have HO := Lib.hid hown
      clear hfin hR hown
      go_wp2_with fail
      go_ret2
      exact ⟨by rw [HF.out]; exact ⟨_, rfl, HO.out, hne.out⟩, hbw⟩
end Go.Proofs.YtkpakiiijphjeaaGreatDoor.Ds

/-
  numbers: the numbers whose texts these are, or none. Condition: at most 10,000 texts; the library's variables hold what their types allow.
-/
import Derived.Test.YthglghlkchhjlaaDoorDsPut
import Derived.Test.YthglghlkchhjlaaDoorFirstA
import Derived.OwnWalk
namespace Go.Proofs.YthglghlkchhjlaaDoor.Ds
open Go.RowKit Bnd
open Go.Proofs.YthglghlkchhjlaaDoor.M (numT inR tieT intT)

/-- a row of numbers of the call's own -/
abbrev OwnI (w : World) (base : Nat) (v : Value) (ns : List Int) : Prop := w.ownsRow base 2 1 v ns.length (ns.map (Value.int .i64))
theorem infoI : (Tryd.prog.info? 2).map (fun i => (i.zero, i.size, i.bytes)) = some (some (.int .i64 0), 1, 8) := by kernel_rfl
theorem SI.of_own {w : World} {base : Nat} {v : Value} {ns : List Int} (h : OwnI w base v ns) : SI w w.heap.size v ns := by
  rcases h.2 with ⟨rfl, h0⟩ | ⟨g, cap, cur, rfl, _, hh, _⟩
  · have : ns = [] := List.length_eq_zero_iff.1 h0
    subst this
    exact ⟨none, 0, rfl, fun h => absurd h (by simp)⟩
  · refine ⟨_, _, rfl, fun h0 => ⟨g, 0, rfl, ?_, fun i hi => ?_⟩⟩
    · exact (Array.getElem?_eq_some_iff.1 hh).1
    · have := h.cells (g := g) rfl i _ (by rw [List.getElem?_map, List.getElem?_eq_getElem hi]; rfl)
      rw [Addr.add_lit] at this
      exact this
theorem ownI_keep {w w' : World} {base : Nat} {v : Value} {ns : List Int} (h : OwnI w base v ns) (hb : Below w.heap.size w w') : OwnI w' base v ns :=
  h.kept (row := none) ⟨hb.os, hb.tape, hb.output, hb.size, fun k hk _ => hb.block k hk⟩ (Classical.em _)

theorem wpList_append_is {w : World} {ops : Array Oper} {rest : List Oper} {o : Oper} {a : Act} {Q : Exit → Act → World → Prop} (hgd : o.guard = none) (s x : Operand)
    (ho : o.op = .call { callee := .builtin .append, args := #[s, x], argTypes := #[81, 81] }) (base : Nat) (v : Value) (xs : List Int) (hs : a.eval s = v)
    (hown : OwnI w base v xs) (hbase : base ≤ w.heap.size) (n : Int) (b : Nat) (hx : a.eval x = .slice (some ⟨b, 0, none⟩) 1 1) (hc : w.cell? ⟨b, 0, none⟩ = some (.int .i64 n)) (hlen : xs.length ≤ 1000000)
    (h : ∀ v' w', OwnI w' base v' (xs ++ [n]) → Below base w w' → v' ≠ .slice none 0 0 → wpList Tryd.prog ops Q rest (a.put o.dst v') w') : wpList Tryd.prog ops Q (o :: rest) a w := by
  obtain ⟨i0, hi, hz0, hz1, hz2⟩ := info_parts infoI
  refine wpList_append_own w hgd s x 81 ho base 2 i0 (.int .i64 0) 1 8 Tryd.underlying81 hi hz0 hz1 hz2 rfl (by decide) v xs.length (xs.map (Value.int .i64)) hs hown ⟨b, 0, none⟩ 1 1 [.int .i64 n] hx rfl ?_ ?_ (by unfold maxLen; omega) (by omega) hbase ?_
  · intro j u hj
    match j, hj with
    | 0, hj => simp at hj; subst hj; simpa [Addr.add] using hc
  · intro u hu; simp at hu; subst hu; rfl
  · intro v' w' h2 h3 h4
    exact h v' w' (by show w'.ownsRow _ _ _ _ _ _; simpa using h2) ((Below.refl _ w).grown h3 hbase (fun k hk => (hown.lt k hk).1)) (fun e => by have := (h4.1 e).2; cases this)

/-- what numbers hands back -/
def NumsOut (base : Nat) (o : Option (List Int)) (e : Ending) (w' : World) : Prop := match o with
  | some ns => ∃ v, e = .returned (.tuple #[v, .bool true]) ∧ OwnI w' base v ns ∧ v ≠ .slice none 0 0
  | none => e = .returned (.tuple #[.slice none 0 0, .bool false])

theorem intsOf_take {l : List M.Text} {k : Nat} (h : k < l.length) {r : List Int} {n : Int} (hr : intsOf (l.take k) = some r) (hn : intT l[k] = some n) : intsOf (l.take (k + 1)) = some (r ++ [n]) := by
  rw [List.take_succ_eq_append_getElem h, intsOf_snoc, hr, hn]
theorem intsOf_at {l : List M.Text} {k : Nat} (h : k < l.length) (hn : intT l[k] = none) : intsOf l = none := by
  have e : l = l.take k ++ l[k] :: l.drop (k + 1) := by rw [← List.drop_eq_getElem_cons h, List.take_append_drop]
  rw [e]; exact intsOf_bad hn

set_option maxHeartbeats 4000000 in
set_option maxRecDepth 100000 in
theorem numbers_any (v : Value) (ss : List ByteArray) (w : World) (hv : SL w w.heap.size v ss) (hl : ss.length ≤ 10000) (hsz : ∀ s ∈ ss, s.size ≤ 140737488355328) (hg : Good w) :
    Calls Tryd.prog 49 #[v] w fun e w' => NumsOut w.heap.size (intsOf (texts ss)) e w' ∧ Below w.heap.size w w' := by
  obtain ⟨i0, hi0, hz0, hz1, hz2⟩ := info_parts infoI
  obtain ⟨A, c, rfl⟩ := hv.form
  obtain ⟨n, hn⟩ : ∃ n, n = ss.length := ⟨_, rfl⟩
  have HX := Lib.hid hn
  rw [← hn] at hv hl ⊢
  clear hn
  go_enter Tryd.func49, Tryd.ntmps49
  go_wp2_with (at_make; refine wpList_make_own _ rfl _ _ 81 rfl w.heap.size 2 i0 (.int .i64 0) 1 Tryd.underlying81 hi0 hz0 hz1 .i64 .i64 _ n rfl rfl rfl (by rw [hz2]; omega) (by unfold maxLen; omega) (Nat.le_refl _) ?_; intro w0 hown0 hgrow0)
  have hb0 : Below w.heap.size w w0 := (Below.refl _ w).grown hgrow0 (Nat.le_refl _) (fun k hk => by cases hk)
  clear hgrow0
  go_wp2_with fail
  go_loopw [4, 6, 7, 8, 14] (fun v4 _ _ _ vi wr => ∃ (k : Nat) (ns : List Int), k ≤ n ∧ vi = .int .i64 (k : Int) ∧ OwnI wr w.heap.size v4 ns ∧ Hid (v4 ≠ .slice none 0 0) ∧ Hid (intsOf ((texts ss).take k) = some ns) ∧ Hid (ns.length = k) ∧ Below w.heap.size w wr) (fun _ _ _ _ vi _ => n - (intOf vi).toNat)
  case atStart => exact ⟨0, [], by omega, rfl, hown0, Lib.hid (by simp), rfl, Lib.hid rfl, hb0⟩
  case round =>
    obtain ⟨k, ns, hk, rfl, hown, hne, hR, hnl, hbw⟩ := hrel
    have hz := hbw.size
    by_cases hlt : k < n
    · have hkx : k < ss.length := by rw [← HX.out]; exact hlt
      have hkt : k < (texts ss).length := by rw [texts_length]; exact hkx
      obtain ⟨ad, rfl, hadb, hcell⟩ := (hv.below hbw).at_ hkx
      have hss := hsz _ (List.getElem_mem hkx)
      have htx : (texts ss)[k] = ss[k].data.toList := by simp [texts]
      obtain ⟨x, hx⟩ : ∃ x, ss[k] = x := ⟨_, rfl⟩
      rw [hx] at hcell hss htx
      have hcon := int_any x wr hss (hg.below hbw)
      have hk0 : (0 : Int) ≤ (k : Int) := by omega
      have hk1 : (k : Int) < (n : Int) := by omega
      have HO := Lib.hid hown
      obtain ⟨A4, c4, hv4⟩ := (SI.of_own hown).form
      subst hv4
      cases hi : intT x.data.toList with
      | none =>
        rw [hi] at hcon
        have hres : intsOf (texts ss) = none := intsOf_at hkt (by rw [htx]; exact hi)
        have HR := Lib.hid hres
        unfold intR at hcon
        clear hres hi hR hx htx hown
        go_wp2_with fail
        refine hcon.mono ?_
        rintro e w1 ⟨rfl, b1⟩
        go_wp2_with fail
        go_ret2
        exact ⟨by rw [HR.out]; rfl, hbw.trans (b1.mono hbw.size)⟩
      | some m =>
        rw [hi] at hcon
        have hstep := intsOf_take hkt hR.out (by rw [htx]; exact hi)
        have HS := Lib.hid hstep
        unfold intR at hcon
        clear hstep hi hR hx htx hown
        go_wp2_with fail
        refine hcon.mono ?_
        rintro e w1 ⟨rfl, b1⟩
        have HO1 := Lib.hid (ownI_keep HO.out b1)
        have B1 := hbw.trans (b1.mono hbw.size)
        have hz1 := B1.size
        go_wp2_with (at_builtin; refine wpList_append_is rfl _ _ rfl w.heap.size _ ns rfl (HO1.out.alloc _) (by simp; omega) m w1.heap.size rfl (by simp [go_sem]) (by have := hnl.out; omega) ?_)
        intro v' w2 O2 b2 ne2
        have NE := Lib.hid ne2
        have B2 : Below w.heap.size w w2 := (B1.alloc hz1 _).trans b2
        have O3 := Lib.hid O2
        clear O2 b2 ne2
        go_wp2_with fail
        go_roundw
        case rel => exact ⟨k + 1, ns ++ [m], by omega, by go_num, O3.out, NE, HS, (show (ns ++ [m]).length = k + 1 by have := hnl.out; simp; omega), B2⟩
        case measure => simp [intOf]; omega
    · obtain rfl : k = n := by omega
      have hfin : intsOf (texts ss) = some ns := by
        rw [← hR.out, List.take_of_length_le (by rw [texts_length]; have := HX.out; omega)]
      have HF := Lib.hid hfin
      have HO := Lib.hid hown
      clear hfin hR hown
      go_wp2_with fail
      go_ret2
      exact ⟨by rw [HF.out]; exact ⟨_, rfl, HO.out, hne.out⟩, hbw⟩
end Go.Proofs.YthglghlkchhjlaaDoor.Ds

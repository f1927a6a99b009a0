/-
  Eat, the document's: a number among rising ones. Condition: at most 100,000 numbers.
  A drawn region that puts two lists of pairs behind one another in a row of its own, and stores it. Condition: at most 100,000 pairs each.
  A plot's box whose eaten ones are told anew, one number behind the other. No condition.
-/
import Derived.Test.YthcmnkmfhgoddaaGreatDoorJDpMA
import Derived.Test.YthcmnkmfhgoddaaGreatDoorJDpHHA
import Derived.Test.YthcmnkmfhgoddaaGreatDoorJRegA
import Derived.Test.YthcmnkmfhgoddaaGreatDoorJDpOA
import Derived.Test.YthcmnkmfhgoddaaGreatDoorJDpTA
namespace Go.Proofs.YthcmnkmfhgoddaaGreatDoor.Dp
open Go.RowKit Bnd
open Go.Proofs.YthcmnkmfhgoddaaGreatDoor.Ds (De SM OwnI infoI)
theorem ArgI.none_zero {w : World} {n c : Nat} {l : List Int} (h : ArgI w (.slice none n c) l) : n = 0 /\ c = 0 := by
  cases h
  exact ⟨rfl, rfl⟩
theorem argI_front {w : World} {A : Option Addr} {n c k : Nat} {l : List Int} (h : ArgI w (.slice A n c) l) (hk : k <= n) : ArgI w (.slice A k c) (l.take k) := by
  obtain ⟨A', c', e, hq⟩ := h.si
  injection e with e1 e2 e3
  subst e1 e2 e3
  have hl : (l.take k).length = k := by simp; omega
  by_cases h0 : k = 0
  · subst h0
    rw [List.take_zero]
    cases A with
    | none => obtain ⟨_, rfl⟩ := h.none_zero; exact .nil
    | some a => exact .empty a c
  · obtain ⟨b, o, rfl, hb, hc⟩ := hq (by omega)
    have key : ArgI w (.slice (some ⟨b, o, none⟩) (l.take k).length c) (l.take k) := .some b o c _ ⟨_, _, rfl, fun _ => ⟨b, o, rfl, hb, fun i hi => by rw [List.getElem_take]; exact hc i (by omega)⟩⟩
    rwa [hl] at key
theorem slice_frontI (A : Option Addr) (N c K : Nat) (h : K <= N) (hc : N <= c) : ∀ w : World, (Instr.slice 36 (.slice A N c) none (some (.int .i64 (K : Int))) none).run Tryz.prog w = .ok (.slice A K c) w := by
  intro w
  have k2 : (0 <= (K : Int)) = True := eq_true (by omega)
  by_cases h0 : c = 0
  · simp [go_sem, Tryz.underlying36, Tryz.sizeOf2, k2, h0]
    omega
  · have k1 : ((K : Int) <= (c : Int)) = True := eq_true (by omega)
    have k3 : (c = 0) = False := eq_false h0
    cases A <;> simp [go_sem, Tryz.underlying36, Tryz.sizeOf2, k1, k2, k3] <;> omega
theorem slice_tailI (A : Option Addr) (N c K : Nat) (h : K <= N) (hc : N <= c) : ∃ A2, (∀ w : World, (Instr.slice 36 (.slice A N c) (some (.int .i64 (K : Int))) none none).run Tryz.prog w = .ok (.slice A2 (N - K) (c - K)) w) /\
    (∀ (w : World) (ns : List Int), ArgI w (.slice A N c) ns -> ArgI w (.slice A2 (N - K) (c - K)) (ns.drop K)) := by
  refine ⟨if c = K then A else A.map (fun a => a.add K), fun w => ?_, fun w ns ha => ?_⟩
  · have k1 : ((K : Int) <= (N : Int)) = True := eq_true (by omega)
    have k2 : (0 <= (K : Int)) = True := eq_true (by omega)
    simp [go_sem, Tryz.underlying36, Tryz.sizeOf2, k1, k2]
  · obtain ⟨A', c', e, hq⟩ := ha.si
    injection e with e1 e2 e3
    subst e1 e3
    by_cases hck : c = K
    · rw [if_pos hck, List.drop_of_length_le (by omega), show N - K = 0 by omega, show c - K = 0 by omega]
      cases A with
      | none => exact .nil
      | some ad => exact .empty ad 0
    · rw [if_neg hck]
      cases A with
      | none =>
        obtain ⟨rfl, rfl⟩ := ha.none_zero
        omega
      | some ad =>
        by_cases h0 : N - K = 0
        · rw [h0, List.drop_of_length_le (by omega)]
          exact .empty _ _
        · obtain ⟨b, o, e5, hb, hcc⟩ := hq (by omega)
          cases e5
          have hl : (ns.drop K).length = N - K := by rw [List.length_drop]; omega
          have key : ArgI w (.slice (some ⟨b, o + K, none⟩) (ns.drop K).length (c - K)) (ns.drop K) := .some b (o + K) _ _ ⟨_, _, rfl, fun _ => ⟨b, o + K, rfl, hb, fun i hi => by rw [List.getElem_drop, Nat.add_assoc]; exact hcc (K + i) (by rw [hl] at hi; omega)⟩⟩
          rw [hl] at key
          simpa [Addr.add_lit] using key
theorem run_append2 {P : Program} {a : Go.Act} {o : Oper} {s x : Operand} {t : TypeId} {v y v' : Value} {w w' : World} (ho : o.op = .call { callee := .builtin .append, args := #[s, x], argTypes := #[t, t] }) (hs : a.eval s = v) (hx : a.eval x = y)
    (hrun : (Builtin.append_ #[t, t] o.type #[v, y]).run P w = .ok v' w') : (execOp a.eval o).run P w = .ok (.value v') w' := by
  simp [execOp, ho, resolve, invoke, builtin, hs, hx, hrun, Result.andThen]
theorem run_append_ints {w : World} {base : Nat} {v : Value} {xs : List Int} (hown : OwnI w base v xs) (hbase : base <= w.heap.size) {y : Value} {ys : List Int} (hy : ArgI w y ys) (hlen : xs.length + ys.length <= 10000000) (ty : TypeId) :
    ∃ v' w', (Builtin.append_ #[36, 36] ty #[v, y]).run Tryz.prog w = .ok v' w' /\ OwnI w' base v' (xs ++ ys) /\ w.grownBy w' v.ownBlock := by
  obtain ⟨i0, hi, hz0, hz1, hz2⟩ := info_parts infoI
  cases hy with
  | nil =>
    have hrun := run_append_owned_none (P := Tryz.prog) (w := w) base 36 ty 2 i0 1 Tryz.underlying36 hi v xs.length (xs.map (Value.int .i64)) hown
    exact ⟨v, w, hrun, by simpa using hown, ⟨rfl, rfl, rfl, Nat.le_refl _, fun _ _ _ => rfl⟩⟩
  | some b o c ys hn =>
    obtain ⟨v', w', k1, k2, k3, _⟩ := run_append_own (P := Tryz.prog) (w := w) base 36 ty 2 i0 (.int .i64 0) 1 8 Tryz.underlying36 hi hz0 hz1 hz2 rfl (by decide) v xs.length (xs.map (Value.int .i64)) hown ⟨b, o, none⟩ ys.length c (ys.map (Value.int .i64)) (by simp) (by
      intro j u hj
      rw [List.getElem?_map] at hj
      have hjl : j < ys.length := by
        rcases Nat.lt_or_ge j ys.length with h | h
        · exact h
        · rw [List.getElem?_eq_none h] at hj; cases hj
      rw [List.getElem?_eq_getElem hjl] at hj
      obtain rfl := Option.some.inj hj
      obtain ⟨b', o2, e, _, q⟩ := hn.at_ hjl
      cases e
      rw [Addr.add_lit]
      exact q) (fun u h => by simp at h; obtain ⟨n, _, rfl⟩ := h; rfl) (by unfold maxLen; omega) (by omega) hbase
    exact ⟨v', w', k1, by show w'.ownsRow _ _ _ _ _ _; rw [List.length_append, List.map_append]; exact k2, k3⟩
  | empty ad c =>
    obtain ⟨v', w', k1, k2, k3, _⟩ := run_append_own (P := Tryz.prog) (w := w) base 36 ty 2 i0 (.int .i64 0) 1 8 Tryz.underlying36 hi hz0 hz1 hz2 rfl (by decide) v xs.length (xs.map (Value.int .i64)) hown ad 0 c [] rfl (fun j u h => by simp at h) (fun u h => by simp at h) (by unfold maxLen; simp at hlen; omega) (by simp at hlen; omega) hbase
    exact ⟨v', w', k1, by show w'.ownsRow _ _ _ _ _ _; simpa using k2, k3⟩
theorem ownI_base {w : World} {base base' : Nat} {v : Value} {ns : List Int} (h : OwnI w base v ns) (hb : base' <= base) : OwnI w base' v ns := by
  refine ⟨h.1, ?_⟩
  rcases h.2 with hn | ⟨g, cap, cur, e, h1, rest⟩
  · exact .inl hn
  · exact .inr ⟨g, cap, cur, e, Nat.le_trans hb h1, rest⟩
theorem ownI_keep {w w' : World} {base : Nat} {v : Value} {ns : List Int} (h : OwnI w base v ns) (hb : Below w.heap.size w w') : OwnI w' base v ns :=
  h.kept (row := none) ⟨hb.os, hb.tape, hb.output, hb.size, fun k hk _ => hb.block k hk⟩ (Classical.em _)
structure RI (W : World) (xs : List Int) (n : Int) (ys : List Int) (L : Nat -> Bool) (u : Nat -> Value) (wx : World) : Prop where
  b : Below W.heap.size W wx
  o0 : L 0 = true -> L 4 = false -> ∃ h : Nat, u 0 = .slice (some ⟨h, 0, none⟩) 0 0 /\ OwnI wx W.heap.size (u 0) [] /\ h < wx.heap.size /\ (L 6 = true -> u 6 ≠ .slice (some ⟨h, 0, none⟩) 1 1)
  o4 : L 4 = true -> L 7 = false -> OwnI wx W.heap.size (u 4) xs
  o6 : L 6 = true -> L 7 = false -> ∃ g : Nat, u 6 = .slice (some ⟨g, 0, none⟩) 1 1 /\ g < wx.heap.size /\ wx.cell? ⟨g, 0, none⟩ = some (.int .i64 n)
  o7 : L 7 = true -> L 11 = false -> OwnI wx W.heap.size (u 7) (xs ++ [n])
  z : L 11 = true -> OwnI wx W.heap.size (u 11) (xs ++ [n] ++ ys)
section
variable {W wx : World} {xs ys : List Int} {n : Int} {L : Nat -> Bool} {u : Nat -> Value}
theorem RI.plain (h : RI W xs n ys L u wx) {j : Nat} (h0 : 0 ≠ j) (h4 : 4 ≠ j) (h6 : 6 ≠ j) (h7 : 7 ≠ j) (h11 : 11 ≠ j) (v : Value) : RI W xs n ys (St.mark L j) (St.upd u j v) wx := by
  have a0 : St.mark L j 0 = L 0 := by simp [St.mark, h0]
  have a4 : St.mark L j 4 = L 4 := by simp [St.mark, h4]
  have a6 : St.mark L j 6 = L 6 := by simp [St.mark, h6]
  have a7 : St.mark L j 7 = L 7 := by simp [St.mark, h7]
  have a11 : St.mark L j 11 = L 11 := by simp [St.mark, h11]
  have b0 : St.upd u j v 0 = u 0 := by simp [St.upd, h0]
  have b4 : St.upd u j v 4 = u 4 := by simp [St.upd, h4]
  have b6 : St.upd u j v 6 = u 6 := by simp [St.upd, h6]
  have b7 : St.upd u j v 7 = u 7 := by simp [St.upd, h7]
  have b11 : St.upd u j v 11 = u 11 := by simp [St.upd, h11]
  exact ⟨h.b, by rw [a0, a4, a6, b0, b6]; exact h.o0, by rw [a4, a7, b4]; exact h.o4, by rw [a6, a7, b6]; exact h.o6, by rw [a7, a11, b7]; exact h.o7, by rw [a11, b11]; exact h.z⟩
theorem RI.made (h : RI W xs n ys L u wx) (h4 : L 4 = false) (h7 : L 7 = false) (h11 : L 11 = false) : RI W xs n ys (St.mark L 0) (St.upd u 0 (.slice (some ⟨wx.heap.size, 0, none⟩) 0 0)) (wx.alloc (.cells #[] 2)) := by
  have hz := h.b.size
  refine ⟨h.b.alloc hz _, fun _ _ => ⟨wx.heap.size, rfl, ownI_base (ownI_empty wx) hz, by simp, fun h6 e => ?_⟩, fun h' => ?_, fun h6 _ => ?_, fun h' => ?_, fun h' => ?_⟩
  · have h6 : L 6 = true := h6
    obtain ⟨g, g1, g2, _⟩ := h.o6 h6 h7
    have e : u 6 = .slice (some ⟨wx.heap.size, 0, none⟩) 1 1 := e
    rw [g1] at e
    injection e with e _ _
    injection e with e
    injection e with e _ _
    omega
  · rw [show St.mark L 0 4 = L 4 from rfl, h4] at h'; cases h'
  · have h6 : L 6 = true := h6
    obtain ⟨g, g1, g2, g3⟩ := h.o6 h6 h7
    exact ⟨g, g1, by simp; omega, (World.cell?_alloc_lt wx _ ⟨g, 0, none⟩ g2).trans g3⟩
  · rw [show St.mark L 0 7 = L 7 from rfl, h7] at h'; cases h'
  · rw [show St.mark L 0 11 = L 11 from rfl, h11] at h'; cases h'
theorem RI.one (h : RI W xs n ys L u wx) (h7 : L 7 = false) (h11 : L 11 = false) : RI W xs n ys (St.mark L 6) (St.upd u 6 (.slice (some ⟨wx.heap.size, 0, none⟩) 1 1)) (wx.alloc (.cells #[.int .i64 n] 2)) := by
  have hz := h.b.size
  have hal := (Below.refl wx.heap.size wx).alloc (Nat.le_refl _) (.cells #[.int .i64 n] 2)
  refine ⟨h.b.alloc hz _, fun h0 h4 => ?_, fun h4 _ => ownI_keep (h.o4 h4 h7) hal, fun _ _ => ⟨wx.heap.size, rfl, by simp, World.cell?_alloc_new wx _ _ 0⟩, fun h' => ?_, fun h' => ?_⟩
  · obtain ⟨g, g1, g2, g3, _⟩ := h.o0 h0 h4
    refine ⟨g, g1, ownI_keep g2 hal, by simp; omega, fun _ e => ?_⟩
    have e : (Value.slice (some ⟨wx.heap.size, 0, none⟩) 1 1) = .slice (some ⟨g, 0, none⟩) 1 1 := e
    injection e with e _ _
    injection e with e
    injection e with e _ _
    omega
  · rw [show St.mark L 6 7 = L 7 from rfl, h7] at h'; cases h'
  · rw [show St.mark L 6 11 = L 11 from rfl, h11] at h'; cases h'
theorem RI.app (h : RI W xs n ys L u wx) (h0 : L 0 = true) (h4 : L 4 = false) (h7 : L 7 = false) (h11 : L 11 = false) {v : Value} (hv : ArgI wx v xs) (hl : xs.length <= 100000) (ty : TypeId) :
    ∃ v' w', (∃ A c, v' = .slice A xs.length c) /\ (Builtin.append_ #[36, 36] ty #[u 0, v]).run Tryz.prog wx = .ok v' w' /\ RI W xs n ys (St.mark L 4) (St.upd u 4 v') w' := by
  have hz := h.b.size
  obtain ⟨q, q1, q2, q3, q4⟩ := h.o0 h0 h4
  obtain ⟨v', w', k1, k2, k3⟩ := run_append_ints q2 hz hv (by simp; omega) ty
  rw [List.nil_append] at k2
  have hbe : Below W.heap.size wx w' := (Below.refl _ wx).grown k3 hz (fun k hk => (q2.lt k hk).1)
  refine ⟨v', w', (SI.of_own k2).form, k1, h.b.trans hbe, fun _ h' => (by simp [St.mark] at h'), fun _ _ => k2, fun h6 _ => ?_, fun h' => ?_, fun h' => ?_⟩
  · have h6 : L 6 = true := h6
    obtain ⟨g, g1, g2, g3⟩ := h.o6 h6 h7
    have hne : (u 0).ownBlock ≠ some g := by
      intro e
      rw [q1] at e
      have e' : q = g := by simpa [Value.ownBlock] using e
      exact q4 h6 (by rw [g1, e'])
    exact ⟨g, g1, Nat.lt_of_lt_of_le g2 hbe.size, (World.cell?_of_block (a := ⟨g, 0, none⟩) (k3.block g g2 (fun e => hne e.symm))).trans g3⟩
  · rw [show St.mark L 4 7 = L 7 from rfl, h7] at h'; cases h'
  · rw [show St.mark L 4 11 = L 11 from rfl, h11] at h'; cases h'
theorem RI.app2 (h : RI W xs n ys L u wx) (h4 : L 4 = true) (h6 : L 6 = true) (h7 : L 7 = false) (h11 : L 11 = false) (hl : xs.length <= 100000) (ty : TypeId) :
    ∃ v' w', (∃ A c, v' = .slice A (xs.length + 1) c) /\ (Builtin.append_ #[36, 36] ty #[u 4, u 6]).run Tryz.prog wx = .ok v' w' /\ RI W xs n ys (St.mark L 7) (St.upd u 7 v') w' := by
  have hz := h.b.size
  have q4 := h.o4 h4 h7
  obtain ⟨g, g1, g2, g3⟩ := h.o6 h6 h7
  have ha : ArgI wx (.slice (some ⟨g, 0, none⟩) [n].length 1) [n] := .some g 0 1 [n] ⟨_, _, rfl, fun _ => ⟨g, 0, rfl, g2, fun i hi => by
    obtain rfl : i = 0 := by simp at hi; omega
    exact g3⟩⟩
  obtain ⟨v', w', k1, k2, k3⟩ := run_append_ints q4 hz ha (by simp; omega) ty
  rw [show Value.slice (some ⟨g, 0, none⟩) [n].length 1 = u 6 from g1.symm] at k1
  have hbe : Below W.heap.size wx w' := (Below.refl _ wx).grown k3 hz (fun k hk => (q4.lt k hk).1)
  have hf := (SI.of_own k2).form
  rw [List.length_append] at hf
  refine ⟨v', w', hf, k1, h.b.trans hbe, fun _ h' => ?_, fun _ h' => (by simp [St.mark] at h'), fun _ h' => (by simp [St.mark] at h'), fun _ _ => k2, fun h' => ?_⟩
  · rw [show St.mark L 7 4 = L 4 from rfl, h4] at h'; cases h'
  · rw [show St.mark L 7 11 = L 11 from rfl, h11] at h'; cases h'
theorem RI.app3 (h : RI W xs n ys L u wx) (h4 : L 4 = true) (h7 : L 7 = true) (h11 : L 11 = false) {v : Value} (hv : ArgI wx v ys) (hl : xs.length + 1 + ys.length <= 1000000) (ty : TypeId) :
    ∃ v' w', (∃ A c, v' = .slice A (xs.length + 1 + ys.length) c) /\ (Builtin.append_ #[36, 36] ty #[u 7, v]).run Tryz.prog wx = .ok v' w' /\ RI W xs n ys (St.mark L 11) (St.upd u 11 v') w' := by
  have hz := h.b.size
  have q7 := h.o7 h7 h11
  obtain ⟨v', w', k1, k2, k3⟩ := run_append_ints q7 hz hv (by simp; omega) ty
  have hbe : Below W.heap.size wx w' := (Below.refl _ wx).grown k3 hz (fun k hk => (q7.lt k hk).1)
  have hf := (SI.of_own k2).form
  rw [List.length_append, List.length_append] at hf
  refine ⟨v', w', hf, k1, h.b.trans hbe, fun _ h' => ?_, fun _ h' => ?_, fun _ h' => ?_, fun _ h' => (by simp [St.mark] at h'), fun _ => k2⟩
  · rw [show St.mark L 11 4 = L 4 from rfl, h4] at h'; cases h'
  · rw [show St.mark L 11 7 = L 7 from rfl, h7] at h'; cases h'
  · rw [show St.mark L 11 7 = L 7 from rfl, h7] at h'; cases h'
end
set_option maxHeartbeats 8000000 in
set_option maxRecDepth 100000 in
theorem reat_any (v : Value) (l : List Int) (n : Int) (w : World) (hv : ArgI w v l) (hr : Room v) (hl : l.length <= 90000) :
    Calls Tryz.prog 74 #[v, .int .i64 n] w fun e w' => ∃ v', e = .returned v' /\ (v' = v /\ eatE n l = l \/ OwnI w' w.heap.size v' (eatE n l)) /\ Room v' /\ Below w.heap.size w w' := by
  obtain ⟨A, c, rfl⟩ := hv.si.form
  have hc : l.length <= c := hr A _ c rfl
  obtain ⟨N, hN⟩ : ∃ N, l.length = N := ⟨_, rfl⟩
  have HN := Lib.hid hN
  rw [hN] at hv hc hl hr ⊢
  have HV := Lib.hid hv
  have HR := Lib.hid hr
  clear hv hN hr
  go_enter Tryz.func74, Tryz.ntmps74
  go_wp2_with fail
  go_loopw [5] (fun v5 wr => ∃ k : Nat, k <= N /\ v5 = .int .i64 (k : Int) /\ Hid (eatE n l = l.take k ++ eatE n (l.drop k)) /\ Below w.heap.size w wr) (fun v5 _ => N - (intOf v5).toNat)
  case atStart => exact ⟨0, Nat.zero_le _, rfl, Lib.hid (by simp), Below.refl _ _⟩
  case round =>
    obtain ⟨k, hk, rfl, HG, hbw⟩ := hrel
    by_cases hlt : k < N
    rotate_left
    · have g1 : ((k : Int) < (N : Int)) = False := eq_false (by omega)
      have HE : Hid (eatE n l = l.take k ++ [n] ++ l.drop k) := Lib.hid (by
        have h1 := HG.out
        have h2 : l.drop k = [] := List.drop_of_length_le (by have := HN.out; omega)
        rw [h2] at h1 ⊢
        rw [h1]
        simp [eatE])
      clear hlt HG
      have hfr := slice_frontI A N c k hk hc
      obtain ⟨A2, hs2, hA2⟩ := slice_tailI A N c k hk hc
      have hlt0 : (l.take k).length = k := by have := HN.out; simp; omega
      have hld0 : (l.drop k).length = N - k := by have := HN.out; simp; omega
      have KV : ∀ wx, Below wr.heap.size wr wx -> ArgI wx (.slice A N c) l := fun wx h => HV.out.keep (hbw.trans (h.mono hbw.size))
      go_wp2_with fail
      refine St.wp_region_mixed (RI wr (l.take k) n (l.drop k)) (fun _ _ => False) (by kernel_rfl) (by kernel_rfl) (by kernel_rfl) ⟨(Below.refl _ _).drew, fun h => (by cases h), fun h => (by cases h), fun h => (by cases h), fun h => (by cases h), fun h => (by cases h)⟩ ?_
      refine St.mix_free (fun z => ∃ b, z = .slice (some ⟨b, 0, none⟩) 0 0) rfl ?_ ?_
      · intro L u' wx hS hcl hrd hag
        refine ⟨.slice (some ⟨wx.heap.size, 0, none⟩) 0 0, wx.alloc (.cells #[] 2), ⟨_, rfl⟩, ?_, hS.made (St.not_yet hcl hrd 60 4 (by kernel_rfl)) (St.not_yet hcl hrd 60 7 (by kernel_rfl)) (St.not_yet hcl hrd 60 11 (by kernel_rfl))⟩
        go_simp
        try with_reducible rfl
      rintro y0 ⟨b0, rfl⟩
      simp only [Act.put, St.pu]
      iterate 3
        apply St.mix_give
        · rfl
        · intro L u' wx hS hcl hrd hag
          go_simp
          try with_reducible rfl
        · exact fun L u' wx hS => hS.plain (by decide) (by decide) (by decide) (by decide) (by decide) _
        simp only [Act.put, St.pu]
      refine St.mix_free (fun z => ∃ A c, z = .slice A k c) rfl ?_ ?_
      · intro L u' wx hS hcl hrd hag
        obtain ⟨v', w', ⟨A', c', e'⟩, k1, k2⟩ := hS.app (St.before_ready hcl hrd 60 0 (by kernel_rfl)) hrd.1 (St.not_yet hcl hrd 60 7 (by kernel_rfl)) (St.not_yet hcl hrd 60 11 (by kernel_rfl)) (argI_front (KV wx hS.b) hk) (by omega) 36
        rw [show u' 0 = .slice (some ⟨b0, 0, none⟩) 0 0 from hag 60 0 (by kernel_rfl)] at k1
        rw [hlt0] at e'
        exact ⟨v', w', ⟨A', c', e'⟩, run_append2 rfl rfl rfl k1, k2⟩
      rintro y4 ⟨A4, c4, rfl⟩
      simp only [Act.put, St.pu]
      apply St.mix_give
      · rfl
      · intro L u' wx hS hcl hrd hag
        go_simp
        try with_reducible rfl
      · exact fun L u' wx hS => hS.plain (by decide) (by decide) (by decide) (by decide) (by decide) _
      simp only [Act.put, St.pu]
      refine St.mix_free (fun z => ∃ b, z = .slice (some ⟨b, 0, none⟩) 1 1) rfl ?_ ?_
      · intro L u' wx hS hcl hrd hag
        refine ⟨.slice (some ⟨wx.heap.size, 0, none⟩) 1 1, wx.alloc (.cells #[.int .i64 n] 2), ⟨_, rfl⟩, ?_, hS.one (St.not_yet hcl hrd 60 7 (by kernel_rfl)) (St.not_yet hcl hrd 60 11 (by kernel_rfl))⟩
        go_simp
        try with_reducible rfl
      rintro y6 ⟨b6, rfl⟩
      simp only [Act.put, St.pu]
      refine St.mix_free (fun z => ∃ A c, z = .slice A (k + 1) c) rfl ?_ ?_
      · intro L u' wx hS hcl hrd hag
        obtain ⟨v', w', ⟨A', c', e'⟩, k1, k2⟩ := hS.app2 (St.before_ready hcl hrd 60 4 (by kernel_rfl)) (St.before_ready hcl hrd 60 6 (by kernel_rfl)) hrd.1 (St.not_yet hcl hrd 60 11 (by kernel_rfl)) (by omega) 36
        rw [show u' 4 = .slice A4 k c4 from hag 60 4 (by kernel_rfl), show u' 6 = .slice (some ⟨b6, 0, none⟩) 1 1 from hag 60 6 (by kernel_rfl)] at k1
        rw [hlt0] at e'
        exact ⟨v', w', ⟨A', c', e'⟩, run_append2 rfl rfl rfl k1, k2⟩
      rintro y7 ⟨A7, c7, rfl⟩
      simp only [Act.put, St.pu]
      iterate 3
        apply St.mix_give
        · rfl
        · intro L u' wx hS hcl hrd hag
          go_simp
          try with_reducible rfl
        · exact fun L u' wx hS => hS.plain (by decide) (by decide) (by decide) (by decide) (by decide) _
        simp only [Act.put, St.pu]
      refine St.mix_free (fun z => ∃ A c, z = .slice A (k + 1 + (N - k)) c) rfl ?_ ?_
      · intro L u' wx hS hcl hrd hag
        obtain ⟨v', w', ⟨A', c', e'⟩, k1, k2⟩ := hS.app3 (St.before_ready hcl hrd 60 4 (by kernel_rfl)) (St.before_ready hcl hrd 60 7 (by kernel_rfl)) hrd.1 (hA2 wx l (KV wx hS.b)) (by omega) 36
        rw [show u' 7 = .slice A7 (k + 1) c7 from hag 60 7 (by kernel_rfl)] at k1
        rw [hlt0, hld0] at e'
        exact ⟨v', w', ⟨A', c', e'⟩, run_append2 rfl rfl rfl k1, k2⟩
      rintro y11 ⟨A11, c11, rfl⟩
      simp only [Act.put, St.pu]
      apply St.mix_give
      · rfl
      · intro L u' wx hS hcl hrd hag
        go_simp
        try with_reducible rfl
      · exact fun L u' wx hS => hS.plain (by decide) (by decide) (by decide) (by decide) (by decide) _
      simp only [Act.put, St.pu]
      refine St.mix_last ?_
      intro L W6 hS hall
      have hz : OwnI W6 wr.heap.size (.slice A11 (k + 1 + (N - k)) c11) (l.take k ++ [n] ++ l.drop k) := hS.z (hall 11 (by decide))
      have h6 := hS.b
      clear hS hall KV hA2 hs2 hfr
      go_wp2_with fail
      go_ret
      rw [HE.out]
      exact ⟨_, rfl, .inr (ownI_base hz hbw.size), Room.own hz, hbw.trans (h6.mono hbw.size)⟩
    have g1 : ((k : Int) < (N : Int)) = True := eq_true (by omega)
    have hkl : k < l.length := by rw [HN.out]; exact hlt
    have hvk := (HV.out.keep hbw).si
    have hcell : ∃ b o : Nat, A = some ⟨b, o, none⟩ /\ wr.cell? ⟨b, o + k, none⟩ = some (.int .i64 l[k]) := by
      obtain ⟨A', c', e, hq⟩ := hvk
      injection e with e1 e2 e3
      obtain ⟨b, o, e4, _, hq2⟩ := hq (by omega)
      exact ⟨b, o, e1.trans e4, hq2 k hkl⟩
    obtain ⟨b, o, rfl, q0⟩ := hcell
    have hg := HG.out
    rw [List.drop_eq_getElem_cons hkl, eatE] at hg
    obtain ⟨x, hx⟩ : ∃ x, l[k] = x := ⟨_, rfl⟩
    have HX := Lib.hid hx
    rw [hx] at q0 hg
    clear hx hvk
    by_cases hxn : x < n
    · have g2 : (x < n) = True := eq_true hxn
      rw [if_pos hxn] at hg
      have HG2 : Hid (eatE n l = l.take (k + 1) ++ eatE n (l.drop (k + 1))) := Lib.hid (by
        rw [hg, List.take_succ_eq_append_getElem hkl, HX.out, List.append_assoc]; rfl)
      have hk1 : k + 1 <= N := hlt
      clear hg HG hxn hlt hk
      go_wp2_with fail
      go_roundw
      case rel => exact ⟨k + 1, hk1, by go_num, HG2, hbw⟩
      case measure => simp [intOf]; omega
    · have g2 : (x < n) = False := eq_false hxn
      rw [if_neg hxn] at hg
      by_cases hxe : x = n
      · subst hxe
        rw [if_pos rfl] at hg
        have g3 : (x == x) = true := by simp
        have HE : Hid (eatE x l = l) := Lib.hid (by rw [hg, <- HX.out, <- List.drop_eq_getElem_cons hkl, List.take_append_drop])
        clear hg HG hlt hk hxn
        go_wp2_with fail
        go_ret
        rw [HE.out]
        exact ⟨_, rfl, .inl ⟨rfl, rfl⟩, HR.out, hbw⟩
      · have g3 : (x == n) = false := by simpa using hxe
        have g4 : (x = n) = False := eq_false hxe
        rw [if_neg hxe] at hg
        have HE : Hid (eatE n l = l.take k ++ [n] ++ l.drop k) := Lib.hid (by
          rw [hg, List.drop_eq_getElem_cons hkl, HX.out]
          simp)
        clear hg HG hlt hxn hxe
        have hfr := slice_frontI (some ⟨b, o, none⟩) N c k hk hc
        obtain ⟨A2, hs2, hA2⟩ := slice_tailI (some ⟨b, o, none⟩) N c k hk hc
        have hlt0 : (l.take k).length = k := by have := HN.out; simp; omega
        have hld0 : (l.drop k).length = N - k := by have := HN.out; simp; omega
        have KV : ∀ wx, Below wr.heap.size wr wx -> ArgI wx (.slice (some ⟨b, o, none⟩) N c) l := fun wx h => HV.out.keep (hbw.trans (h.mono hbw.size))
        go_wp2_with fail
        refine St.wp_region_mixed (RI wr (l.take k) n (l.drop k)) (fun _ _ => False) (by kernel_rfl) (by kernel_rfl) (by kernel_rfl) ⟨(Below.refl _ _).drew, fun h => (by cases h), fun h => (by cases h), fun h => (by cases h), fun h => (by cases h), fun h => (by cases h)⟩ ?_
        refine St.mix_free (fun z => ∃ b, z = .slice (some ⟨b, 0, none⟩) 0 0) rfl ?_ ?_
        · intro L u' wx hS hcl hrd hag
          refine ⟨.slice (some ⟨wx.heap.size, 0, none⟩) 0 0, wx.alloc (.cells #[] 2), ⟨_, rfl⟩, ?_, hS.made (St.not_yet hcl hrd 60 4 (by kernel_rfl)) (St.not_yet hcl hrd 60 7 (by kernel_rfl)) (St.not_yet hcl hrd 60 11 (by kernel_rfl))⟩
          go_simp
          try with_reducible rfl
        rintro y0 ⟨b0, rfl⟩
        simp only [Act.put, St.pu]
        iterate 3
          apply St.mix_give
          · rfl
          · intro L u' wx hS hcl hrd hag
            go_simp
            try with_reducible rfl
          · exact fun L u' wx hS => hS.plain (by decide) (by decide) (by decide) (by decide) (by decide) _
          simp only [Act.put, St.pu]
        refine St.mix_free (fun z => ∃ A c, z = .slice A k c) rfl ?_ ?_
        · intro L u' wx hS hcl hrd hag
          obtain ⟨v', w', ⟨A', c', e'⟩, k1, k2⟩ := hS.app (St.before_ready hcl hrd 60 0 (by kernel_rfl)) hrd.1 (St.not_yet hcl hrd 60 7 (by kernel_rfl)) (St.not_yet hcl hrd 60 11 (by kernel_rfl)) (argI_front (KV wx hS.b) hk) (by omega) 36
          rw [show u' 0 = .slice (some ⟨b0, 0, none⟩) 0 0 from hag 60 0 (by kernel_rfl)] at k1
          rw [hlt0] at e'
          exact ⟨v', w', ⟨A', c', e'⟩, run_append2 rfl rfl rfl k1, k2⟩
        rintro y4 ⟨A4, c4, rfl⟩
        simp only [Act.put, St.pu]
        apply St.mix_give
        · rfl
        · intro L u' wx hS hcl hrd hag
          go_simp
          try with_reducible rfl
        · exact fun L u' wx hS => hS.plain (by decide) (by decide) (by decide) (by decide) (by decide) _
        simp only [Act.put, St.pu]
        refine St.mix_free (fun z => ∃ b, z = .slice (some ⟨b, 0, none⟩) 1 1) rfl ?_ ?_
        · intro L u' wx hS hcl hrd hag
          refine ⟨.slice (some ⟨wx.heap.size, 0, none⟩) 1 1, wx.alloc (.cells #[.int .i64 n] 2), ⟨_, rfl⟩, ?_, hS.one (St.not_yet hcl hrd 60 7 (by kernel_rfl)) (St.not_yet hcl hrd 60 11 (by kernel_rfl))⟩
          go_simp
          try with_reducible rfl
        rintro y6 ⟨b6, rfl⟩
        simp only [Act.put, St.pu]
        refine St.mix_free (fun z => ∃ A c, z = .slice A (k + 1) c) rfl ?_ ?_
        · intro L u' wx hS hcl hrd hag
          obtain ⟨v', w', ⟨A', c', e'⟩, k1, k2⟩ := hS.app2 (St.before_ready hcl hrd 60 4 (by kernel_rfl)) (St.before_ready hcl hrd 60 6 (by kernel_rfl)) hrd.1 (St.not_yet hcl hrd 60 11 (by kernel_rfl)) (by omega) 36
          rw [show u' 4 = .slice A4 k c4 from hag 60 4 (by kernel_rfl), show u' 6 = .slice (some ⟨b6, 0, none⟩) 1 1 from hag 60 6 (by kernel_rfl)] at k1
          rw [hlt0] at e'
          exact ⟨v', w', ⟨A', c', e'⟩, run_append2 rfl rfl rfl k1, k2⟩
        rintro y7 ⟨A7, c7, rfl⟩
        simp only [Act.put, St.pu]
        iterate 3
          apply St.mix_give
          · rfl
          · intro L u' wx hS hcl hrd hag
            go_simp
            try with_reducible rfl
          · exact fun L u' wx hS => hS.plain (by decide) (by decide) (by decide) (by decide) (by decide) _
          simp only [Act.put, St.pu]
        refine St.mix_free (fun z => ∃ A c, z = .slice A (k + 1 + (N - k)) c) rfl ?_ ?_
        · intro L u' wx hS hcl hrd hag
          obtain ⟨v', w', ⟨A', c', e'⟩, k1, k2⟩ := hS.app3 (St.before_ready hcl hrd 60 4 (by kernel_rfl)) (St.before_ready hcl hrd 60 7 (by kernel_rfl)) hrd.1 (hA2 wx l (KV wx hS.b)) (by omega) 36
          rw [show u' 7 = .slice A7 (k + 1) c7 from hag 60 7 (by kernel_rfl)] at k1
          rw [hlt0, hld0] at e'
          exact ⟨v', w', ⟨A', c', e'⟩, run_append2 rfl rfl rfl k1, k2⟩
        rintro y11 ⟨A11, c11, rfl⟩
        simp only [Act.put, St.pu]
        apply St.mix_give
        · rfl
        · intro L u' wx hS hcl hrd hag
          go_simp
          try with_reducible rfl
        · exact fun L u' wx hS => hS.plain (by decide) (by decide) (by decide) (by decide) (by decide) _
        simp only [Act.put, St.pu]
        refine St.mix_last ?_
        intro L W6 hS hall
        have hz : OwnI W6 wr.heap.size (.slice A11 (k + 1 + (N - k)) c11) (l.take k ++ [n] ++ l.drop k) := hS.z (hall 11 (by decide))
        have h6 := hS.b
        clear hS hall KV hA2 hs2 hfr
        go_wp2_with fail
        go_ret
        rw [HE.out]
        exact ⟨_, rfl, .inr (ownI_base hz hbw.size), Room.own hz, hbw.trans (h6.mono hbw.size)⟩
end Go.Proofs.YthcmnkmfhgoddaaGreatDoor.Dp

namespace Go.Proofs.YthcmnkmfhgoddaaGreatDoor.Dp
open Go.RowKit Bnd
open Go.Proofs.YthcmnkmfhgoddaaGreatDoor.Od (Pr SP OwnP ArgP pcells pcells_length pcells_append pcells_one infoP)
theorem run_append_prs {w : World} {base : Nat} {v : Value} {xs : List Pr} (hown : OwnP w base v xs) (hbase : base <= w.heap.size) {y : Value} {ys : List Pr} (hy : ArgP w y ys) (hlen : xs.length + ys.length <= 1000000) (ty : TypeId) :
    ∃ v' w', (Builtin.append_ #[34, 34] ty #[v, y]).run Tryz.prog w = .ok v' w' /\ OwnP w' base v' (xs ++ ys) /\ Below base w w' := by
  obtain ⟨i0, hi, hz0, hz1, hz2⟩ := info_parts infoP
  cases hy with
  | nil =>
    have hrun := run_append_owned_none (P := Tryz.prog) (w := w) base 34 ty 85 i0 2 Tryz.underlying34 hi v xs.length (pcells xs) hown
    exact ⟨v, w, hrun, by simpa using hown, Below.refl _ w⟩
  | some b o c ys hn =>
    obtain ⟨v', w', k1, k2, k3, _⟩ := run_append_own (P := Tryz.prog) (w := w) base 34 ty 85 i0 (.agg #[.string Od.E0, .string Od.E0]) 2 32 Tryz.underlying34 hi hz0 hz1 hz2 rfl (by decide) v xs.length (pcells xs) hown ⟨b, o, none⟩ ys.length c (pcells ys) (pcells_length ys) (Od.news_of hn) (pcells_one ys) (by unfold maxLen; omega) (by omega) hbase
    exact ⟨v', w', k1, by show w'.ownsRow _ _ _ _ _ _; rw [List.length_append, pcells_append]; exact k2, (Below.refl _ w).grown k3 hbase (fun k hk => (hown.lt k hk).1)⟩
  | empty ad c =>
    obtain ⟨v', w', k1, k2, k3, _⟩ := run_append_own (P := Tryz.prog) (w := w) base 34 ty 85 i0 (.agg #[.string Od.E0, .string Od.E0]) 2 32 Tryz.underlying34 hi hz0 hz1 hz2 rfl (by decide) v xs.length (pcells xs) hown ad 0 c [] rfl (fun j u h => by simp at h) (fun u h => by simp at h) (by unfold maxLen; simp at hlen; omega) (by simp at hlen; omega) hbase
    exact ⟨v', w', k1, by show w'.ownsRow _ _ _ _ _ _; simpa using k2, (Below.refl _ w).grown k3 hbase (fun k hk => (hown.lt k hk).1)⟩
structure RQ (W : World) (t : Nat) (xs ys : List Pr) (L : Nat -> Bool) (u : Nat -> Value) (wx : World) : Prop where
  a : L 8 = false -> Below W.heap.size W wx
  o0 : L 0 = true -> L 3 = false -> OwnP wx W.heap.size (u 0) []
  o3 : L 3 = true -> L 6 = false -> OwnP wx W.heap.size (u 3) xs
  o6 : L 6 = true -> L 8 = false -> OwnP wx W.heap.size (u 6) (xs ++ ys)
  z : L 8 = true -> ∃ wy, Below W.heap.size W wy /\ OwnP wy W.heap.size (u 6) (xs ++ ys) /\ wx = wy.setCell ⟨t, 6, none⟩ (u 6)
section
variable {W wx : World} {t : Nat} {xs ys : List Pr} {L : Nat -> Bool} {u : Nat -> Value}
theorem RQ.plain (h : RQ W t xs ys L u wx) {j : Nat} (h0 : 0 ≠ j) (h3 : 3 ≠ j) (h6 : 6 ≠ j) (h8 : 8 ≠ j) (v : Value) : RQ W t xs ys (St.mark L j) (St.upd u j v) wx := by
  have a0 : St.mark L j 0 = L 0 := by simp [St.mark, h0]
  have a3 : St.mark L j 3 = L 3 := by simp [St.mark, h3]
  have a6 : St.mark L j 6 = L 6 := by simp [St.mark, h6]
  have a8 : St.mark L j 8 = L 8 := by simp [St.mark, h8]
  have b0 : St.upd u j v 0 = u 0 := by simp [St.upd, h0]
  have b3 : St.upd u j v 3 = u 3 := by simp [St.upd, h3]
  have b6 : St.upd u j v 6 = u 6 := by simp [St.upd, h6]
  exact ⟨by rw [a8]; exact h.a, by rw [a0, a3, b0]; exact h.o0, by rw [a3, a6, b3]; exact h.o3, by rw [a6, a8, b6]; exact h.o6, by rw [a8, b6]; exact h.z⟩
theorem RQ.made (h : RQ W t xs ys L u wx) (h3 : L 3 = false) (h6 : L 6 = false) (h8 : L 8 = false) : RQ W t xs ys (St.mark L 0) (St.upd u 0 (.slice (some ⟨wx.heap.size, 0, none⟩) 0 0)) (wx.alloc (.cells #[] 85)) := by
  have hb := h.a h8
  refine ⟨fun _ => hb.alloc hb.size _, fun _ _ => Od.own_base (Od.own_empty wx) hb.size, fun h' => ?_, fun h' => ?_, fun h' => ?_⟩
  · rw [show St.mark L 0 3 = L 3 from rfl, h3] at h'; cases h'
  · rw [show St.mark L 0 6 = L 6 from rfl, h6] at h'; cases h'
  · rw [show St.mark L 0 8 = L 8 from rfl, h8] at h'; cases h'
theorem RQ.app (h : RQ W t xs ys L u wx) (h0 : L 0 = true) (h3 : L 3 = false) (h6 : L 6 = false) (h8 : L 8 = false) {v : Value} (hv : ArgP wx v xs) (hl : xs.length <= 100000) (ty : TypeId) :
    ∃ v' w', (∃ A c, v' = .slice A xs.length c) /\ (Builtin.append_ #[34, 34] ty #[u 0, v]).run Tryz.prog wx = .ok v' w' /\ RQ W t xs ys (St.mark L 3) (St.upd u 3 v') w' := by
  have hb := h.a h8
  obtain ⟨v', w', k1, k2, k3⟩ := run_append_prs (h.o0 h0 h3) hb.size hv (by simp; omega) ty
  rw [List.nil_append] at k2
  refine ⟨v', w', (SP.of_own k2).form, k1, fun _ => hb.trans k3, fun _ h' => (by simp [St.mark] at h'), fun _ _ => k2, fun h' => ?_, fun h' => ?_⟩
  · rw [show St.mark L 3 6 = L 6 from rfl, h6] at h'; cases h'
  · rw [show St.mark L 3 8 = L 8 from rfl, h8] at h'; cases h'
theorem RQ.app2 (h : RQ W t xs ys L u wx) (h3 : L 3 = true) (h6 : L 6 = false) (h8 : L 8 = false) {v : Value} (hv : ArgP wx v ys) (hl : xs.length + ys.length <= 200000) (ty : TypeId) :
    ∃ v' w', (∃ A c, v' = .slice A (xs ++ ys).length c) /\ (Builtin.append_ #[34, 34] ty #[u 3, v]).run Tryz.prog wx = .ok v' w' /\ RQ W t xs ys (St.mark L 6) (St.upd u 6 v') w' := by
  have hb := h.a h8
  obtain ⟨v', w', k1, k2, k3⟩ := run_append_prs (h.o3 h3 h6) hb.size hv (by omega) ty
  refine ⟨v', w', (SP.of_own k2).form, k1, fun _ => hb.trans k3, fun _ h' => ?_, fun _ h' => (by simp [St.mark] at h'), fun _ _ => k2, fun h' => ?_⟩
  · rw [show St.mark L 6 3 = L 3 from rfl, h3] at h'; cases h'
  · rw [show St.mark L 6 8 = L 8 from rfl, h8] at h'; cases h'
theorem RQ.store (h : RQ W t xs ys L u wx) (h3 : L 3 = true) (h6 : L 6 = true) (h8 : L 8 = false) : RQ W t xs ys (St.mark L 8) (St.upd u 8 undef) (wx.setCell ⟨t, 6, none⟩ (u 6)) := by
  refine ⟨fun h' => (by simp [St.mark] at h'), fun _ h' => ?_, fun _ h' => ?_, fun _ h' => (by simp [St.mark] at h'), fun _ => ⟨wx, h.a h8, h.o6 h6 h8, rfl⟩⟩
  · rw [show St.mark L 8 3 = L 3 from rfl, h3] at h'; cases h'
  · rw [show St.mark L 8 6 = L 6 from rfl, h6] at h'; cases h'
end
end Go.Proofs.YthcmnkmfhgoddaaGreatDoor.Dp

namespace Go.Proofs.YthcmnkmfhgoddaaGreatDoor.Dp
open Go.RowKit Bnd
open Go.Proofs.YthcmnkmfhgoddaaGreatDoor.Ds (De SM OwnI ArgM)
open Go.Proofs.YthcmnkmfhgoddaaGreatDoor.Ss (NoP ArgZ)
open Go.Proofs.YthcmnkmfhgoddaaGreatDoor.Od (Pr SP OwnP ArgP)
structure JL (W5 : World) (t : Nat) (s0 : Value) (e0 : List Int) (o : Ph) (wr : World) : Prop where
  b : Below t W5 wr
  box : BoxP t o wr
  op : OwnP wr (t + 1) o.sp o.ps
  oe : o.se = s0 /\ o.ea = e0 \/ OwnI wr (t + 1) o.se o.ea
  rm : Room o.se
theorem JL.start {W5 W10 wy : World} {t : Nat} {o : Ph} {v : Value} {ps : List Pr} (hb : Below t W5 W10) (X : BoxP t o W10) (hy : Below W10.heap.size W10 wy) (hp : OwnP wy W10.heap.size v ps) (hr : Room o.se) :
    JL W5 t o.se o.ea { o with ps := ps, sp := v } (wy.setCell ⟨t, 6, none⟩ v) := by
  have ht : t < W10.heap.size := X.1
  exact ⟨(hb.trans (hy.mono (by omega))).setCell (p := ⟨t, 6, none⟩) (Nat.le_refl _) _, (X.keep hy).set6 v ps, ownsRow_setCell_below (a := ⟨t, 6, none⟩) (ownsRow_base hp (by omega)) (by show t < t + 1; omega) _, .inl ⟨rfl, rfl⟩, hr⟩
theorem JL.arg {W5 wr : World} {t : Nat} {s0 : Value} {e0 : List Int} {o : Ph} (h : JL W5 t s0 e0 o wr) (h0 : ArgI wr s0 e0) : ArgI wr o.se o.ea := by
  rcases h.oe with ⟨e1, e2⟩ | h1
  · rw [e1, e2]
    exact h0
  · exact ArgI.of_own h1
def Ate (wr : World) (o : Ph) (n : Int) (v : Value) (wx : World) : Prop := (v = o.se /\ eatE n o.ea = o.ea \/ OwnI wx wr.heap.size v (eatE n o.ea)) /\ Room v /\ Below wr.heap.size wr wx
theorem JL.ate {W5 wr wx : World} {t : Nat} {s0 : Value} {e0 : List Int} {o : Ph} {n : Int} {v : Value} (h : JL W5 t s0 e0 o wr) (h2 : Ate wr o n v wx) :
    JL W5 t s0 e0 { o with ea := eatE n o.ea, se := v } (wx.setCell ⟨t, 9, none⟩ v) := by
  obtain ⟨ha, hr, hb⟩ := h2
  have ht : t < wr.heap.size := h.box.1
  refine ⟨(h.b.trans (hb.mono (by omega))).setCell (p := ⟨t, 9, none⟩) (Nat.le_refl _) _, (h.box.keep hb).set9 v _, ownsRow_setCell_below (a := ⟨t, 9, none⟩) (ownsRow_below h.op hb) (by show t < t + 1; omega) _, ?_, hr⟩
  rcases ha with ⟨e1, e2⟩ | h1
  · show v = s0 /\ eatE n o.ea = e0 \/ _
    rcases h.oe with ⟨e3, e4⟩ | h3
    · exact .inl ⟨e1.trans e3, e2.trans e4⟩
    · refine .inr ?_
      show OwnI _ (t + 1) v (eatE n o.ea)
      rw [e1, e2]
      exact ownsRow_setCell_below (a := ⟨t, 9, none⟩) (ownsRow_below h3 hb) (by show t < t + 1; omega) _
  · exact .inr (ownsRow_setCell_below (a := ⟨t, 9, none⟩) (ownI_base h1 (by omega)) (by show t < t + 1; omega) _)
theorem JL.own {W5 wr : World} {t : Nat} {s0 : Value} {e0 : List Int} {o : Ph} (h : JL W5 t s0 e0 o wr) : ArgP wr o.sp o.ps := .of_own h.op
theorem JL.ha {W5 wr : World} {t n : Nat} {s0 : Value} {e0 : List Int} {o : Ph} (h : JL W5 t s0 e0 o wr) (hz : ZE n wr) (hn : n < t + 1) (hm : ArgM wr o.sm o.d.ms) (hs : ArgZ wr o.sz o.zs) (hnp : NoP o.zs) (hro : Room o.sp) (h0 : ArgI (putW wr n o) s0 e0) :
    HA (putW wr n o) o := by
  have hop : OwnP (putW wr n o) (t + 1) o.sp o.ps := putW_own o hn h.op
  have hse : ArgI (putW wr n o) o.se o.ea := by
    rcases h.oe with ⟨e1, e2⟩ | h1
    · rw [e1, e2]
      exact h0
    · exact .of_own (putW_own o hn h1)
  exact ⟨argM_put hm hz o, .of_own hop, argZ_put hs hz o, hnp, hse, hro, h.rm⟩
structure RE19 (W : World) (t : Nat) (s : Value) (E E2 : List Int) (L : Nat -> Bool) (u : Nat -> Value) (wx : World) : Prop where
  a : L 7 = false -> L 9 = false -> Below W.heap.size W wx
  g : L 7 = true -> L 9 = false -> (u 7 = s /\ E2 = E \/ OwnI wx W.heap.size (u 7) E2) /\ Room (u 7) /\ Below W.heap.size W wx
  z : L 9 = true -> ∃ wy, ((u 7 = s /\ E2 = E \/ OwnI wy W.heap.size (u 7) E2) /\ Room (u 7) /\ Below W.heap.size W wy) /\ wx = wy.setCell ⟨t, 9, none⟩ (u 7)
section
variable {W wx : World} {t : Nat} {s : Value} {E E2 : List Int} {L : Nat -> Bool} {u : Nat -> Value}
theorem RE19.plain (h : RE19 W t s E E2 L u wx) {j : Nat} (h7 : 7 ≠ j) (h9 : 9 ≠ j) (v : Value) : RE19 W t s E E2 (St.mark L j) (St.upd u j v) wx := by
  have a7 : St.mark L j 7 = L 7 := by simp [St.mark, h7]
  have a9 : St.mark L j 9 = L 9 := by simp [St.mark, h9]
  have b7 : St.upd u j v 7 = u 7 := by simp [St.upd, h7]
  exact ⟨by rw [a7, a9]; exact h.a, by rw [a7, a9, b7]; exact h.g, by rw [a9, b7]; exact h.z⟩
theorem RE19.call (h9 : L 9 = false) {v : Value} (ho : v = s /\ E2 = E \/ OwnI wx W.heap.size v E2) (hr : Room v) (hb : Below W.heap.size W wx) : RE19 W t s E E2 (St.mark L 7) (St.upd u 7 v) wx :=
  ⟨fun h' _ => (by simp [St.mark] at h'), fun _ _ => ⟨ho, hr, hb⟩, fun h' => (by rw [show St.mark L 7 9 = L 9 from rfl, h9] at h'; cases h')⟩
theorem RE19.store (h : RE19 W t s E E2 L u wx) (h7 : L 7 = true) (h9 : L 9 = false) : RE19 W t s E E2 (St.mark L 9) (St.upd u 9 undef) (wx.setCell ⟨t, 9, none⟩ (u 7)) :=
  ⟨fun _ h' => (by simp [St.mark] at h'), fun _ h' => (by simp [St.mark] at h'), fun _ => ⟨wx, h.g h7 h9, rfl⟩⟩
end
end Go.Proofs.YthcmnkmfhgoddaaGreatDoor.Dp

/-
  Slices of members, as lists of pairs of numbers; descriptors as values; append onto a row of members that the call owns. No condition.
  Whether a descriptor may be: the program's answers (isId, isNode, mayBe, Check, checked). Condition: lengths at most 2^47.
  Who is where: On, Has, of the program and of the document; Quorum. Condition: at most 2^47 members.
-/
import Derived.Test.YtkpakiiijphjeaaGreatDoorPDsA
import Derived.Test.YtkpakiiijphjeaaGreatDoorPBndA
import Derived.Laws.OwnMore
import Derived.Maps.AppendAt
import Derived.Deep.RegionHeld
namespace Go.Proofs.YtkpakiiijphjeaaGreatDoor.Ds
open Go.RowKit
open Go.Proofs.YtkpakiiijphjeaaGreatDoor.O (Bd isB keyB)
abbrev dv (d : De) (s : Value) : Value := .agg #[.int .i64 d.id, .string d.f, .string d.t, .int .i64 d.gen, s, .int .i64 d.next]
def SM (w : World) (N : Nat) (v : Value) (ms : List Mem) : Prop :=
  ∃ (A : Option Addr) (c : Nat), v = .slice A ms.length c ∧ (0 < ms.length → ∃ b o : Nat, A = some ⟨b, o, none⟩ ∧ b < N ∧ ∀ i (h : i < ms.length), w.cell? ⟨b, o + i * 2, none⟩ = some (.int .i64 ms[i].1) ∧ w.cell? ⟨b, o + i * 2 + 1, none⟩ = some (.int .i64 ms[i].2))
theorem SM.nil (w : World) (N : Nat) : SM w N (.slice none 0 0) [] := ⟨none, 0, rfl, fun h => absurd h (by simp)⟩
theorem SM.keep {w w' : World} {N : Nat} {v : Value} {ms : List Mem} (h : SM w N v ms) (hk : ∀ p : Addr, p.block < N → w'.cell? p = w.cell? p) : SM w' N v ms := by
  obtain ⟨A, c, hv, h⟩ := h
  refine ⟨A, c, hv, fun h0 => ?_⟩
  obtain ⟨b, o, e, hb, hc⟩ := h h0
  exact ⟨b, o, e, hb, fun i hi => by rw [hk ⟨b, o + i * 2, none⟩ hb, hk ⟨b, o + i * 2 + 1, none⟩ hb]; exact hc i hi⟩
theorem SM.below {w w' : World} {N : Nat} {v : Value} {ms : List Mem} (h : SM w N v ms) (hb : Below N w w') : SM w' N v ms := h.keep fun _ hp => hb.cell hp
theorem SM.more {w : World} {N N' : Nat} {v : Value} {ms : List Mem} (h : SM w N v ms) (hB : N ≤ N') : SM w N' v ms := by
  obtain ⟨A, c, hv, h⟩ := h
  refine ⟨A, c, hv, fun h0 => ?_⟩
  obtain ⟨b, o, e, hb, hc⟩ := h h0
  exact ⟨b, o, e, by omega, hc⟩
theorem SM.at_ {w : World} {N k : Nat} {A : Option Addr} {n c : Nat} {ms : List Mem} (h : SM w N (.slice A n c) ms) (hk : k < ms.length) :
    ∃ b o : Nat, A = some ⟨b, o, none⟩ ∧ b < N ∧ w.cell? ⟨b, o + k * 2, none⟩ = some (.int .i64 ms[k].1) ∧ w.cell? ⟨b, o + k * 2 + 1, none⟩ = some (.int .i64 ms[k].2) := by
  obtain ⟨A', c', hv, h⟩ := h
  injection hv with h1 h2 h3
  subst h1
  obtain ⟨b, o, e, hb, hc⟩ := h (by omega)
  exact ⟨b, o, e, hb, hc k hk⟩
theorem SM.form {w : World} {N : Nat} {v : Value} {ms : List Mem} (h : SM w N v ms) : ∃ A c, v = .slice A ms.length c := by
  obtain ⟨A, c, hv, _⟩ := h; exact ⟨A, c, hv⟩
def mcells : List Mem → List Value
  | [] => []
  | p :: l => .int .i64 p.1 :: .int .i64 p.2 :: mcells l
theorem mcells_append : ∀ a b : List Mem, mcells (a ++ b) = mcells a ++ mcells b
  | [], _ => rfl
  | p :: a, b => by simp [mcells, mcells_append a b]
theorem mcells_get : ∀ (l : List Mem) (i : Nat) (h : i < l.length), (mcells l)[i * 2]? = some (.int .i64 l[i].1) ∧ (mcells l)[i * 2 + 1]? = some (.int .i64 l[i].2)
  | p :: l, 0, _ => ⟨rfl, rfl⟩
  | p :: l, i + 1, h => by
    have := mcells_get l i (by simpa using h)
    have e : (i + 1) * 2 = i * 2 + 1 + 1 := by omega
    rw [e]
    exact this
abbrev OwnM (w : World) (base : Nat) (v : Value) (ms : List Mem) : Prop := w.ownsRow base 149 2 v ms.length (mcells ms)
theorem SM.of_own {w : World} {base : Nat} {v : Value} {ms : List Mem} (h : OwnM w base v ms) : SM w w.heap.size v ms := by
  rcases h.2 with ⟨rfl, h0⟩ | ⟨g, cap, cur, rfl, _, hh, _⟩
  · have : ms = [] := List.length_eq_zero_iff.1 h0
    subst this
    exact SM.nil w _
  · refine ⟨_, _, rfl, fun h0 => ⟨g, 0, rfl, ?_, fun i hi => ?_⟩⟩
    · exact (Array.getElem?_eq_some_iff.1 hh).1
    · obtain ⟨g1, g2⟩ := mcells_get ms i hi
      have e1 := h.cells (g := g) rfl (i * 2) _ g1
      have e2 := h.cells (g := g) rfl (i * 2 + 1) _ g2
      rw [Addr.add_lit] at e1 e2
      exact ⟨e1, e2⟩
inductive ArgM (w : World) : Value → List Mem → Prop
  | nil : ArgM w (.slice none 0 0) []
  | some (b o : Nat) (c : Nat) (ms : List Mem) (h : SM w w.heap.size (.slice (some ⟨b, o, none⟩) ms.length c) ms) : ArgM w (.slice (some ⟨b, o, none⟩) ms.length c) ms
  | empty (a : Addr) (c : Nat) : ArgM w (.slice (some a) 0 c) []
theorem ArgM.sm {w : World} {v : Value} {ms : List Mem} (h : ArgM w v ms) : SM w w.heap.size v ms := by
  cases h with
  | nil => exact SM.nil _ _
  | some b o c ms h => exact h
  | empty a c => exact ⟨_, _, rfl, fun h => absurd h (by simp)⟩
theorem ArgM.keep {w w' : World} {v : Value} {ms : List Mem} (h : ArgM w v ms) (hb : Below w.heap.size w w') : ArgM w' v ms := by
  cases h with
  | nil => exact .nil
  | some b o c ms h => exact .some b o c ms ((h.below hb).more hb.size)
  | empty a c => exact .empty a c
theorem ArgM.form {w : World} {v : Value} {ms : List Mem} (h : ArgM w v ms) : ∃ A c, v = .slice A ms.length c := h.sm.form
theorem ArgM.of_own {w : World} {base : Nat} {v : Value} {ms : List Mem} (h : OwnM w base v ms) : ArgM w v ms := by
  have hs := SM.of_own h
  rcases h.2 with ⟨rfl, h0⟩ | ⟨g, cap, cur, rfl, _⟩
  · have : ms = [] := List.length_eq_zero_iff.1 h0
    subst this
    exact .nil
  · exact .some _ _ _ _ hs
theorem own_keep {w w' : World} {base : Nat} {v : Value} {ms : List Mem} (h : OwnM w base v ms) (hb : Below w.heap.size w w') : OwnM w' base v ms :=
  h.kept (row := none) ⟨hb.os, hb.tape, hb.output, hb.size, fun k hk _ => hb.block k hk⟩ (Classical.em _)
theorem own_base {w : World} {base base' : Nat} {v : Value} {ms : List Mem} (h : OwnM w base v ms) (hb : base' ≤ base) : OwnM w base' v ms := by
  refine ⟨h.1, ?_⟩
  rcases h.2 with hn | ⟨g, cap, cur, e, h1, rest⟩
  · exact .inl hn
  · exact .inr ⟨g, cap, cur, e, Nat.le_trans hb h1, rest⟩
theorem own_set {w : World} {base : Nat} {v : Value} {ms : List Mem} (h : OwnM w base v ms) {a : Addr} (ha : a.block < base) (u : Value) : OwnM (w.setCell a u) base v ms := ownsRow_setCell_below h ha u
theorem own_alloc {w : World} {base : Nat} {v : Value} {ms : List Mem} (h : OwnM w base v ms) (o : Obj) : OwnM (w.alloc o) base v ms := own_keep h ((Below.refl _ w).alloc (Nat.le_refl _) o)
theorem own_drew {w : World} {base : Nat} {v : Value} {ms : List Mem} (h : OwnM w base v ms) : OwnM w.drew base v ms := h
theorem infoM : (Tryz.prog.info? 149).map (fun i => (i.zero, i.size, i.bytes)) = some (some (.agg #[.int .i64 0, .int .i64 0]), 2, 16) := by kernel_rfl
def BoxD (n : Nat) (d : De) (s : Value) (w' : World) : Prop := n < w'.heap.size ∧ (w'.cell? ⟨n, 0, none⟩ = some (.int .i64 d.id) ∧ w'.cell? ⟨n, 1, none⟩ = some (.string d.f) ∧ w'.cell? ⟨n, 2, none⟩ = some (.string d.t) ∧ w'.cell? ⟨n, 3, none⟩ = some (.int .i64 d.gen) ∧ w'.cell? ⟨n, 4, none⟩ = some s ∧ w'.cell? ⟨n, 5, none⟩ = some (.int .i64 d.next)) ∧ ∀ o, w'.frozen? ⟨n, o, none⟩ = false
theorem BoxD.keep {n : Nat} {d : De} {s : Value} {w1 w2 : World} (h : BoxD n d s w1) (hb : Below w1.heap.size w1 w2) : BoxD n d s w2 := by
  obtain ⟨h0, ⟨h1, h2, h3, h4, h5, h6⟩, hf⟩ := h
  have hc : ∀ o, w2.cell? ⟨n, o, none⟩ = w1.cell? ⟨n, o, none⟩ := fun o => hb.cell (p := ⟨n, o, none⟩) h0
  refine ⟨Nat.lt_of_lt_of_le h0 hb.size, ⟨?_, ?_, ?_, ?_, ?_, ?_⟩, fun o => (hb.frozen (p := ⟨n, o, none⟩) h0).trans (hf o)⟩
  all_goals rw [hc]; assumption
theorem BoxD.new (w : World) (d : De) (s : Value) : BoxD w.heap.size d s (w.alloc (.cells #[.int .i64 d.id, .string d.f, .string d.t, .int .i64 d.gen, s, .int .i64 d.next] 109)) :=
  ⟨by simp, by simp [go_sem], fun o => by simp [go_sem]⟩
theorem BoxD.alloc {n : Nat} {d : De} {s : Value} {w1 : World} (h : BoxD n d s w1) (o : Obj) : BoxD n d s (w1.alloc o) :=
  h.keep ((Below.refl _ w1).alloc (Nat.le_refl _) o)
theorem BoxD.drew {n : Nat} {d : De} {s : Value} {w1 : World} (h : BoxD n d s w1) : BoxD n d s w1.drew := h
theorem BoxD.zero (w : World) : BoxD w.heap.size De.zero (.slice none 0 0) (w.alloc (.cells #[.int .i64 0, .string ⟨#[]⟩, .string ⟨#[]⟩, .int .i64 0, .slice none 0 0, .int .i64 0] 109)) := BoxD.new w De.zero (.slice none 0 0)
theorem BoxD.other {n : Nat} {d : De} {s : Value} {w1 : World} (h : BoxD n d s w1) {a : Addr} (ha : a.block ≠ n) (u : Value) : BoxD n d s (w1.setCell a u) := by
  obtain ⟨h0, ⟨h1, h2, h3, h4, h5, h6⟩, hf⟩ := h
  have hc : ∀ o, (w1.setCell a u).cell? ⟨n, o, none⟩ = w1.cell? ⟨n, o, none⟩ := fun o => World.cell?_setCell_far w1 a _ u ha
  refine ⟨by simpa using h0, ⟨?_, ?_, ?_, ?_, ?_, ?_⟩, fun o => by rw [World.frozen?_setCell]; exact hf o⟩
  all_goals rw [hc]; assumption
theorem BoxD.put {n : Nat} {d0 : De} {s0 : Value} {w1 : World} (h : BoxD n d0 s0 w1) (d : De) (s : Value) :
    BoxD n d s ((((((w1.setCell ⟨n, 0, none⟩ (.int .i64 d.id)).setCell ⟨n, 1, none⟩ (.string d.f)).setCell ⟨n, 2, none⟩ (.string d.t)).setCell ⟨n, 3, none⟩ (.int .i64 d.gen)).setCell ⟨n, 4, none⟩ s).setCell ⟨n, 5, none⟩ (.int .i64 d.next)) := by
  obtain ⟨h0, ⟨h1, h2, h3, h4, h5, h6⟩, hf⟩ := h
  refine ⟨by simpa using h0, ⟨?_, ?_, ?_, ?_, ?_, ?_⟩, fun o => by simp [World.frozen?_setCell, hf]⟩
  all_goals simp [go_sem, h1, h2, h3, h4, h5, h6]
theorem BoxD.load {n : Nat} {d : De} {s : Value} {w1 : World} (h : BoxD n d s w1) : Sem.run Tryz.prog (loadCellsFrom ⟨n, 0, none⟩ 0 6 #[]) w1 = .ok #[.int .i64 d.id, .string d.f, .string d.t, .int .i64 d.gen, s, .int .i64 d.next] w1 := by
  obtain ⟨h0, ⟨h1, h2, h3, h4, h5, h6⟩, hf⟩ := h
  simp [loadCellsFrom, go_sem, h1, h2, h3, h4, h5, h6]
theorem res_box_tmp {fn : Func} {a b : Tmp} {tmps : Array Value} {n : Nat} {d : De} {s v : Value} {w1 : World} (hf : fn.results = #[.cell a 109, .tmp b]) (ht : tmps[a]?.getD undef = .pointer (some ⟨n, 0, none⟩)) (hb : tmps[b]?.getD undef = v) (h : BoxD n d s w1) : (results fn tmps).run Tryz.prog w1 = .ok (.tuple #[dv d s, v]) w1 := by
  have h1 := Tryz.isAgg109
  have h2 := Tryz.sizeOf109
  obtain ⟨_, ⟨c1, c2, c3, c4, c5, c6⟩, _⟩ := h
  simp [results, hf, go_sem, ht, hb, h1, h2, c1, c2, c3, c4, c5, c6]
end Go.Proofs.YtkpakiiijphjeaaGreatDoor.Ds

namespace Go.Proofs.YtkpakiiijphjeaaGreatDoor.Ds
open Go.RowKit Bnd
open Go.Proofs.YtkpakiiijphjeaaGreatDoor.O (Bd isB keyB)
theorem isId_any (n : Int) (w : World) : Calls Tryz.prog 147 #[.int .i64 n] w fun e w' => e = .returned (.bool (idB n)) ∧ w = w' := by
  by_cases h1 : 1 ≤ n
  · by_cases h2 : n ≤ 1099511627776
    all_goals
      have e : idB n = decide (n ≤ 1099511627776) := by simp [idB, h1]
      rw [e]
      clear e
      go_enter Tryz.func147, Tryz.ntmps147
      go_wp2_with fail
      go_ret
      exact ⟨ret_bool (by simp [h2]), rfl⟩
  · have e : idB n = false := by simp [idB, h1]
    rw [e]
    clear e
    go_enter Tryz.func147, Tryz.ntmps147
    go_wp2_with fail
    go_ret
    exact ⟨rfl, rfl⟩
theorem isNode_any (n : Int) (w : World) : Calls Tryz.prog 136 #[.int .i64 n] w fun e w' => e = .returned (.bool (nodeB n)) ∧ w = w' := by
  by_cases h1 : 1 ≤ n
  · by_cases h2 : n ≤ 7
    all_goals
      have e : nodeB n = decide (n ≤ 7) := by simp [nodeB, h1]
      rw [e]
      clear e
      go_enter Tryz.func136, Tryz.ntmps136
      go_wp2_with fail
      go_ret
      exact ⟨ret_bool (by simp [h2]), rfl⟩
  · have e : nodeB n = false := by simp [nodeB, h1]
    rw [e]
    clear e
    go_enter Tryz.func136, Tryz.ntmps136
    go_wp2_with fail
    go_ret
    exact ⟨rfl, rfl⟩
theorem mayGo_no {next last : Int} {tk : List Int} {m : Mem} {l : List Mem} (h : ¬ (nodeB m.1 = true ∧ ¬ m.1 ∈ tk ∧ last < m.2 ∧ m.2 < next)) : mayGo next last tk (m :: l) = false := by
  rw [mayGo, if_neg h]
theorem mayGo_on {next last : Int} {tk : List Int} {m : Mem} {l : List Mem} (h : nodeB m.1 = true ∧ ¬ m.1 ∈ tk ∧ last < m.2 ∧ m.2 < next) : mayGo next last tk (m :: l) = mayGo next m.2 (m.1 :: tk) l := by
  rw [mayGo, if_pos h]
set_option maxHeartbeats 2000000 in
theorem mayBe_any (next : Int) (v : Value) (ms : List Mem) (w : World) (hv : SM w w.heap.size v ms) (hl : ms.length ≤ 140737488355328) :
    Calls Tryz.prog 148 #[.int .i64 next, v] w fun e w' => e = .returned (.bool (mayB next ms)) ∧ Below w.heap.size w w' := by
  obtain ⟨A, c, rfl⟩ := hv.form
  by_cases h0 : 1 ≤ ms.length ∧ ms.length ≤ 5
  · obtain ⟨R, hR0⟩ : ∃ R, mayGo next 0 [] ms = R := ⟨_, rfl⟩
    have hr : mayB next ms = R := by unfold mayB; rw [hR0]; simp [h0]
    rw [hr]
    have hR1 : Hid (mayGo next 0 [] (ms.drop 0) = R) := Lib.hid (by simpa using hR0)
    obtain ⟨h1, h2⟩ := h0
    have g1 : ((ms.length : Int) < 1) = False := eq_false (by omega)
    have g2 : ((ms.length : Int) > 5) = False := eq_false (by omega)
    clear hR0 hr
    go_enter Tryz.func148, Tryz.ntmps148
    go_wp2_with fail
    go_loopw [4, 6, 8, 19] (fun v4 v6 v8 vi wr => ∃ (k : Nat) (last : Int) (tk : List Int), k ≤ ms.length ∧ vi = .int .i64 (k : Int) ∧ v4 = .bool false ∧ v6 = .int .i64 last ∧
        (∀ j, j < 8 → wr.cell? ⟨w.heap.size, j, none⟩ = some (.bool (decide ((j : Int) ∈ tk))) ∧ wr.frozen? ⟨w.heap.size, j, none⟩ = false) ∧ Hid (mayGo next last tk (ms.drop k) = R) ∧ Below w.heap.size w wr ∧ w.heap.size < wr.heap.size) (fun _ _ _ vi _ => ms.length - (intOf vi).toNat)
    case atStart =>
      refine ⟨0, 0, [], by omega, rfl, rfl, rfl, ?_, hR1, (Below.refl _ w).alloc (Nat.le_refl _) _, by simp⟩
      intro j hj
      match j, hj with
      | 0, _ => exact ⟨by simp [go_sem], by simp [go_sem]⟩
      | 1, _ => exact ⟨by simp [go_sem], by simp [go_sem]⟩
      | 2, _ => exact ⟨by simp [go_sem], by simp [go_sem]⟩
      | 3, _ => exact ⟨by simp [go_sem], by simp [go_sem]⟩
      | 4, _ => exact ⟨by simp [go_sem], by simp [go_sem]⟩
      | 5, _ => exact ⟨by simp [go_sem], by simp [go_sem]⟩
      | 6, _ => exact ⟨by simp [go_sem], by simp [go_sem]⟩
      | 7, _ => exact ⟨by simp [go_sem], by simp [go_sem]⟩
    case round =>
      clear hR1
      obtain ⟨k, last, tk, hk, rfl, rfl, rfl, hT, hR, hbw, hTz⟩ := hrel
      by_cases hlt : k < ms.length
      · obtain ⟨b, o, rfl, hb, hc1, hc2⟩ := (hv.below hbw).at_ hlt
        have hd : ms.drop k = ms[k] :: ms.drop (k + 1) := List.drop_eq_getElem_cons hlt
        obtain ⟨⟨x, y⟩, hm⟩ : ∃ m, ms[k] = m := ⟨_, rfl⟩
        rw [hm] at hc1 hc2 hd
        clear hm
        have hbz := hbw.size
        have ci := fun w => isNode_any x w
        have hstep := hR.out
        rw [hd] at hstep
        have HT := Lib.hid hT
        cases hn : nodeB x with
        | false =>
          rw [mayGo_no (by simp [hn])] at hstep
          rw [hn] at ci
          have HF := Lib.hid hstep
          clear hstep hd hR hn hT
          go_wp2_with fail
          refine (ci _).mono ?_
          rintro e w1 ⟨rfl, rfl⟩
          go_wp2_with fail
          try rw [Exit.noGoto_ret]
          go_ret
          exact ⟨ret_bool HF.out, hbw.alloc hbz _⟩
        | true =>
          rw [hn] at ci
          obtain ⟨g1, g7⟩ := (nodeB_iff x).1 hn
          obtain ⟨nd, rfl⟩ : ∃ nd : Nat, x = nd := ⟨x.toNat, by omega⟩
          have hnd : nd < 8 := by omega
          have hndz : ((nd : Int) < 0) = False := eq_false (by omega)
          obtain ⟨t1, t2⟩ := hT nd hnd
          clear g1 g7
          by_cases hin : (nd : Int) ∈ tk
          · rw [mayGo_no (by simp [hin])] at hstep
            have t1' : wr.cell? ⟨w.heap.size, nd, none⟩ = some (.bool true) := by rw [t1]; simp [hin]
            have HF := Lib.hid hstep
            clear hstep hd hR hn hT t1 hin
            go_wp2_with fail
            refine (ci _).mono ?_
            rintro e w1 ⟨rfl, rfl⟩
            go_wp2_with fail
            try rw [Exit.noGoto_ret]
            go_ret
            exact ⟨ret_bool HF.out, hbw.alloc hbz _⟩
          · have t1' : wr.cell? ⟨w.heap.size, nd, none⟩ = some (.bool false) := by rw [t1]; simp [hin]
            have hgo : mayGo next last tk (((nd : Int), y) :: ms.drop (k + 1)) = (if last < y ∧ y < next then mayGo next y ((nd : Int) :: tk) (ms.drop (k + 1)) else false) := by
              by_cases hc : last < y ∧ y < next
              · rw [if_pos hc, mayGo_on ⟨hn, hin, hc.1, hc.2⟩]
              · rw [if_neg hc, mayGo_no (by rintro ⟨_, _, a, b⟩; exact hc ⟨a, b⟩)]
            rw [hgo] at hstep
            clear hgo
            by_cases hc : last < y ∧ y < next
            · rw [if_pos hc] at hstep
              have HN := Lib.hid hstep
              have c1 : (y ≤ last) = False := eq_false (by omega)
              have c2 : (y ≥ next) = False := eq_false (by omega)
              have HB : Hid (¬ (nd : Int) ∈ tk) := Lib.hid hin
              clear hstep hd hR hn hT t1 hin hc
              go_wp2_with fail
              refine (ci _).mono ?_
              rintro e w1 ⟨rfl, rfl⟩
              go_wp2_with fail
              go_roundw
              case rel =>
                refine ⟨k + 1, y, (nd : Int) :: tk, by omega, by go_num, rfl, rfl, ?_, HN, (hbw.setCell (p := ⟨w.heap.size, nd, none⟩) (Nat.le_refl _) _).alloc (by simp; omega) _, by simp; omega⟩
                intro j hj
                obtain ⟨q1, q2⟩ := HT.out j hj
                refine ⟨?_, by simp [go_sem, q2, hTz]⟩
                by_cases hjn : j = nd
                · subst hjn
                  simp [go_sem, q1, hTz]
                · have e1 : ((j : Int) = (nd : Int)) = False := eq_false (by omega)
                  simp [go_sem, q1, hTz, e1]
              case measure => simp [intOf]; omega
            · rw [if_neg hc] at hstep
              have HF := Lib.hid hstep
              have c12 : (y ≤ last) = True ∨ ((y ≤ last) = False ∧ (y ≥ next) = True) := by
                by_cases h1 : y ≤ last
                · exact .inl (eq_true h1)
                · exact .inr ⟨eq_false h1, eq_true (by omega)⟩
              clear hstep hd hR hn hT t1 hin hc
              rcases c12 with c1 | ⟨c1, c2⟩
              all_goals
                go_wp2_with fail
                refine (ci _).mono ?_
                rintro e w1 ⟨rfl, rfl⟩
                go_wp2_with fail
                try rw [Exit.noGoto_ret]
                go_ret
                exact ⟨ret_bool HF.out, hbw.alloc hbz _⟩
      · obtain rfl : k = ms.length := by omega
        have hfin : R = true := by
          rw [← hR.out, List.drop_eq_nil_iff.2 (Nat.le_refl _)]; rfl
        have HF := Lib.hid hfin
        clear hfin hR
        go_wp2_with fail
        try rw [Exit.noGoto_ret]
        go_ret
        exact ⟨ret_bool HF.out.symm, hbw⟩
  · have hr : mayB next ms = false := by unfold mayB; simp [h0]
    rw [hr]
    clear hr
    have g : ((ms.length : Int) < 1) = True ∨ (((ms.length : Int) < 1) = False ∧ ((ms.length : Int) > 5) = True) := by
      by_cases h1 : (ms.length : Int) < 1
      · exact .inl (eq_true h1)
      · exact .inr ⟨eq_false h1, eq_true (by omega)⟩
    clear h0
    rcases g with g1 | ⟨g1, g2⟩
    all_goals
      go_enter Tryz.func148, Tryz.ntmps148
      go_wp2_with fail
      go_ret
      exact ⟨rfl, Below.refl _ _⟩
def chkD (d : De) : Int := if isD d = true then 0 else 60
set_option maxHeartbeats 2000000 in
theorem check_any (d : De) (s : Value) (w : World) (hs : SM w w.heap.size s d.ms) (hl : d.ms.length ≤ 140737488355328) (hf : d.f.size ≤ 140737488355328) (ht : d.t.size ≤ 140737488355328) :
    Calls Tryz.prog 137 #[dv d s] w fun e w' => e = .returned (.int .i64 (chkD d)) ∧ Below w.heap.size w w' := by
  have c1 := fun w => isId_any d.id w
  have c2 := fun w => isId_any d.gen w
  have c3 := fun w => isId_any d.next w
  have c4 := fun w => Bnd.check_any d.f d.t w hf ht
  have hck : chkD d = if (idB d.id && idB d.gen && idB d.next && isB d.b && mayB d.next d.ms) = true then 0 else 60 := rfl
  have e4 : chk (B d.f d.t) = if isB d.b = true then 0 else 20 := rfl
  rw [e4] at c4
  obtain ⟨R, hR⟩ : ∃ R, chkD d = R := ⟨_, rfl⟩
  rw [hR]
  rw [hR] at hck
  clear hR e4
  cases h1 : idB d.id with
  | false =>
    rw [h1] at c1 hck
    have HF := Lib.hid hck
    clear h1 hck
    go_enter Tryz.func137, Tryz.ntmps137
    go_wp2_with fail
    refine (c1 _).mono ?_
    rintro e w1 ⟨rfl, rfl⟩
    go_wp2_with fail
    go_ret
    exact ⟨ret_int (by rw [HF.out]; rfl), (Below.refl _ _).alloc (Nat.le_refl _) _⟩
  | true =>
    rw [h1] at c1 hck
    clear h1
    cases h2 : idB d.gen with
    | false =>
      rw [h2] at c2 hck
      have HF := Lib.hid hck
      clear h2 hck
      go_enter Tryz.func137, Tryz.ntmps137
      go_wp2_with fail
      refine (c1 _).mono ?_
      rintro e w1 ⟨rfl, rfl⟩
      go_wp2_with fail
      refine (c2 _).mono ?_
      rintro e w1 ⟨rfl, rfl⟩
      go_wp2_with fail
      go_ret
      exact ⟨ret_int (by rw [HF.out]; rfl), (Below.refl _ _).alloc (Nat.le_refl _) _⟩
    | true =>
      rw [h2] at c2 hck
      clear h2
      cases h3 : idB d.next with
      | false =>
        rw [h3] at c3 hck
        have HF := Lib.hid hck
        clear h3 hck
        go_enter Tryz.func137, Tryz.ntmps137
        go_wp2_with fail
        refine (c1 _).mono ?_
        rintro e w1 ⟨rfl, rfl⟩
        go_wp2_with fail
        refine (c2 _).mono ?_
        rintro e w1 ⟨rfl, rfl⟩
        go_wp2_with fail
        refine (c3 _).mono ?_
        rintro e w1 ⟨rfl, rfl⟩
        go_wp2_with fail
        go_ret
        exact ⟨ret_int (by rw [HF.out]; rfl), (Below.refl _ _).alloc (Nat.le_refl _) _⟩
      | true =>
        rw [h3] at c3 hck
        clear h3
        cases h4 : isB d.b with
        | false =>
          rw [h4] at c4 hck
          have HF := Lib.hid hck
          clear h4 hck
          go_enter Tryz.func137, Tryz.ntmps137
          go_wp2_with fail
          refine (c1 _).mono ?_
          rintro e w1 ⟨rfl, rfl⟩
          go_wp2_with fail
          refine (c2 _).mono ?_
          rintro e w1 ⟨rfl, rfl⟩
          go_wp2_with fail
          refine (c3 _).mono ?_
          rintro e w1 ⟨rfl, rfl⟩
          go_wp2_with fail
          refine (c4 _).mono ?_
          rintro e w1 ⟨rfl, b1⟩
          go_wp2_with fail
          go_ret
          exact ⟨ret_int (by rw [HF.out]; rfl), ((Below.refl _ w).alloc (Nat.le_refl _) _).trans (b1.mono (by simp))⟩
        | true =>
          rw [h4] at c4 hck
          clear h4
          have c5 := fun w hs => mayBe_any d.next s d.ms w hs hl
          cases h5 : mayB d.next d.ms
          all_goals
            rw [h5] at hck c5
            have HF := Lib.hid hck
            clear h5 hck
            go_enter Tryz.func137, Tryz.ntmps137
            go_wp2_with fail
            refine (c1 _).mono ?_
            rintro e w1 ⟨rfl, rfl⟩
            go_wp2_with fail
            refine (c2 _).mono ?_
            rintro e w1 ⟨rfl, rfl⟩
            go_wp2_with fail
            refine (c3 _).mono ?_
            rintro e w1 ⟨rfl, rfl⟩
            go_wp2_with fail
            refine (c4 _).mono ?_
            rintro e w1 ⟨rfl, b1⟩
            obtain ⟨hc, hfz⟩ := bcell b1
            have hz : w.heap.size < w1.heap.size := by have := b1.size; simp at this; omega
            have hb1 : Below w.heap.size w w1 := ((Below.refl _ w).alloc (Nat.le_refl _) _).trans (b1.mono (by simp))
            have hs1 : SM w1 w1.heap.size s d.ms := (hs.below hb1).more hb1.size
            clear b1
            go_wp2_with fail
            refine (c5 _ hs1).mono ?_
            rintro e w2 ⟨rfl, b2⟩
            go_wp2_with fail
            go_ret
            exact ⟨ret_int (by rw [HF.out]; rfl), hb1.trans (b2.mono hb1.size)⟩
end Go.Proofs.YtkpakiiijphjeaaGreatDoor.Ds

namespace Go.Proofs.YtkpakiiijphjeaaGreatDoor.Ds
open Go.RowKit Bnd
end Go.Proofs.YtkpakiiijphjeaaGreatDoor.Ds

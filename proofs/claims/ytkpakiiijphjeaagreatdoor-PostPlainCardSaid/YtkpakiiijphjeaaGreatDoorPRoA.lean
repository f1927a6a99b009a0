/-
  Slices of entries, as a walk finds them; rolls as values; append onto a row of entries that the call owns, and onto one that has no room. No condition.
  Whether a roll may be: the program's isIndex, isTerm, Check; the document's Is. Condition: at most 2^47 entries.
  The last entry, a place, a term, who is not behind: the program's Last, place, Term, Newer, the document's Last, Term, Newer. Conditions: bases from 0 to 2^40, at most 1,000,000 entries.
  The document's Is, Entries, Same; the law's small, own, num. Condition: at most 2^47 entries.
  Terms, and who is not behind: the program's Term, Newer; the document's Term, Newer. Conditions: bases from 0 to 2^40, at most 1,000,000 entries; numbers such as a program can hold.
-/
import Derived.Test.YtkpakiiijphjeaaGreatDoorPRoM
import Derived.Test.YtkpakiiijphjeaaGreatDoorPDsPNA
import Derived.Laws.OwnMore
import Derived.Maps.AppendAt
import Derived.Deep.RegionHeld
import Derived.Deep.Upon
import Derived.ArgAppend
import Derived.BigQuiet
namespace Go.Proofs.YtkpakiiijphjeaaGreatDoor.Ro
open Go.RowKit
abbrev E0 : ByteArray := ⟨#[]⟩
abbrev lv (r : Lg) (s : Value) : Value := .agg #[.int .i64 r.base, .int .i64 r.bt, s]
def SE (w : World) (N : Nat) (v : Value) (ms : List En) : Prop :=
  ∃ (A : Option Addr) (c : Nat), v = .slice A ms.length c ∧ (0 < ms.length → ∃ b o : Nat, A = some ⟨b, o, none⟩ ∧ b < N ∧ ∀ i (h : i < ms.length), w.cell? ⟨b, o + i * 2, none⟩ = some (.int .i64 ms[i].1) ∧ w.cell? ⟨b, o + i * 2 + 1, none⟩ = some (.string ms[i].2))
theorem SE.nil (w : World) (N : Nat) : SE w N (.slice none 0 0) [] := ⟨none, 0, rfl, fun h => absurd h (by simp)⟩
theorem SE.keep {w w' : World} {N : Nat} {v : Value} {ms : List En} (h : SE w N v ms) (hk : ∀ p : Addr, p.block < N → w'.cell? p = w.cell? p) : SE w' N v ms := by
  obtain ⟨A, c, hv, h⟩ := h
  refine ⟨A, c, hv, fun h0 => ?_⟩
  obtain ⟨b, o, e, hb, hc⟩ := h h0
  exact ⟨b, o, e, hb, fun i hi => by rw [hk ⟨b, o + i * 2, none⟩ hb, hk ⟨b, o + i * 2 + 1, none⟩ hb]; exact hc i hi⟩
theorem SE.below {w w' : World} {N : Nat} {v : Value} {ms : List En} (h : SE w N v ms) (hb : Below N w w') : SE w' N v ms := h.keep fun _ hp => hb.cell hp
theorem SE.more {w : World} {N N' : Nat} {v : Value} {ms : List En} (h : SE w N v ms) (hB : N ≤ N') : SE w N' v ms := by
  obtain ⟨A, c, hv, h⟩ := h
  refine ⟨A, c, hv, fun h0 => ?_⟩
  obtain ⟨b, o, e, hb, hc⟩ := h h0
  exact ⟨b, o, e, by omega, hc⟩
theorem SE.at_ {w : World} {N k : Nat} {A : Option Addr} {n c : Nat} {ms : List En} (h : SE w N (.slice A n c) ms) (hk : k < ms.length) :
    ∃ b o : Nat, A = some ⟨b, o, none⟩ ∧ b < N ∧ w.cell? ⟨b, o + k * 2, none⟩ = some (.int .i64 ms[k].1) ∧ w.cell? ⟨b, o + k * 2 + 1, none⟩ = some (.string ms[k].2) := by
  obtain ⟨A', c', hv, h⟩ := h
  injection hv with h1 h2 h3
  subst h1
  obtain ⟨b, o, e, hb, hc⟩ := h (by omega)
  exact ⟨b, o, e, hb, hc k hk⟩
theorem SE.form {w : World} {N : Nat} {v : Value} {ms : List En} (h : SE w N v ms) : ∃ A c, v = .slice A ms.length c := by
  obtain ⟨A, c, hv, _⟩ := h; exact ⟨A, c, hv⟩
def ecells : List En → List Value
  | [] => []
  | p :: l => .int .i64 p.1 :: .string p.2 :: ecells l
theorem ecells_append : ∀ a b : List En, ecells (a ++ b) = ecells a ++ ecells b
  | [], _ => rfl
  | p :: a, b => by simp [ecells, ecells_append a b]
theorem ecells_get : ∀ (l : List En) (i : Nat) (h : i < l.length), (ecells l)[i * 2]? = some (.int .i64 l[i].1) ∧ (ecells l)[i * 2 + 1]? = some (.string l[i].2)
  | p :: l, 0, _ => ⟨rfl, rfl⟩
  | p :: l, i + 1, h => by
    have := ecells_get l i (by simpa using h)
    have e : (i + 1) * 2 = i * 2 + 1 + 1 := by omega
    rw [e]
    exact this
abbrev OwnE (w : World) (base : Nat) (v : Value) (ms : List En) : Prop := w.ownsRow base 51 2 v ms.length (ecells ms)
theorem SE.of_own {w : World} {base : Nat} {v : Value} {ms : List En} (h : OwnE w base v ms) : SE w w.heap.size v ms := by
  rcases h.2 with ⟨rfl, h0⟩ | ⟨g, cap, cur, rfl, _, hh, _⟩
  · have : ms = [] := List.length_eq_zero_iff.1 h0
    subst this
    exact SE.nil w _
  · refine ⟨_, _, rfl, fun h0 => ⟨g, 0, rfl, ?_, fun i hi => ?_⟩⟩
    · exact (Array.getElem?_eq_some_iff.1 hh).1
    · obtain ⟨g1, g2⟩ := ecells_get ms i hi
      have e1 := h.cells (g := g) rfl (i * 2) _ g1
      have e2 := h.cells (g := g) rfl (i * 2 + 1) _ g2
      rw [Addr.add_lit] at e1 e2
      exact ⟨e1, e2⟩
inductive ArgE (w : World) : Value → List En → Prop
  | nil : ArgE w (.slice none 0 0) []
  | some (b o : Nat) (c : Nat) (ms : List En) (hc : ms.length ≤ c) (h : SE w w.heap.size (.slice (some ⟨b, o, none⟩) ms.length c) ms) : ArgE w (.slice (some ⟨b, o, none⟩) ms.length c) ms
  | empty (a : Addr) (c : Nat) : ArgE w (.slice (some a) 0 c) []
theorem ArgE.sm {w : World} {v : Value} {ms : List En} (h : ArgE w v ms) : SE w w.heap.size v ms := by
  cases h with
  | nil => exact SE.nil _ _
  | some b o c ms hc h => exact h
  | empty a c => exact ⟨_, _, rfl, fun h => absurd h (by simp)⟩
theorem ArgE.keep {w w' : World} {v : Value} {ms : List En} (h : ArgE w v ms) (hb : Below w.heap.size w w') : ArgE w' v ms := by
  cases h with
  | nil => exact .nil
  | some b o c ms hc h => exact .some b o c ms hc ((h.below hb).more hb.size)
  | empty a c => exact .empty a c
theorem ArgE.form {w : World} {v : Value} {ms : List En} (h : ArgE w v ms) : ∃ A c, v = .slice A ms.length c := h.sm.form
theorem ArgE.of_own {w : World} {base : Nat} {v : Value} {ms : List En} (h : OwnE w base v ms) : ArgE w v ms := by
  have hs := SE.of_own h
  rcases h.2 with ⟨rfl, h0⟩ | ⟨g, cap, cur, rfl, _, _, hn, _⟩
  · have : ms = [] := List.length_eq_zero_iff.1 h0
    subst this
    exact .nil
  · exact .some _ _ _ _ hn hs
theorem own_keep {w w' : World} {base : Nat} {v : Value} {ms : List En} (h : OwnE w base v ms) (hb : Below w.heap.size w w') : OwnE w' base v ms :=
  h.kept (row := none) ⟨hb.os, hb.tape, hb.output, hb.size, fun k hk _ => hb.block k hk⟩ (Classical.em _)
theorem own_base {w : World} {base base' : Nat} {v : Value} {ms : List En} (h : OwnE w base v ms) (hb : base' ≤ base) : OwnE w base' v ms := by
  refine ⟨h.1, ?_⟩
  rcases h.2 with hn | ⟨g, cap, cur, e, h1, rest⟩
  · exact .inl hn
  · exact .inr ⟨g, cap, cur, e, Nat.le_trans hb h1, rest⟩
theorem own_set {w : World} {base : Nat} {v : Value} {ms : List En} (h : OwnE w base v ms) {a : Addr} (ha : a.block < base) (u : Value) : OwnE (w.setCell a u) base v ms := ownsRow_setCell_below h ha u
theorem infoE : (Tryz.prog.info? 51).map (fun i => (i.zero, i.size, i.bytes)) = some (some (.agg #[.int .i64 0, .string E0]), 2, 24) := by kernel_rfl
theorem own_nil (w : World) (base : Nat) : OwnE w base (.slice none 0 0) [] := ⟨rfl, .inl ⟨rfl, rfl⟩⟩
theorem own_room {w : World} {base : Nat} {v : Value} {ms : List En} (h : OwnE w base v ms) : ∃ A c, v = .slice A ms.length c ∧ ms.length ≤ c := by
  rcases h.2 with ⟨rfl, h0⟩ | ⟨g, cap, cur, rfl, _, _, hn, _⟩
  · exact ⟨none, 0, by rw [h0], by omega⟩
  · exact ⟨_, _, rfl, hn⟩
def Off (n : Nat) (v : Value) : Prop := ∀ b o k c, v = .slice (some ⟨b, o, none⟩) k c → 0 < k → b ≠ n
def New (B : Nat) (v : Value) : Prop := ∀ b o k c, v = .slice (some ⟨b, o, none⟩) k c → 0 < k → B ≤ b
theorem New.more {B B' : Nat} {v : Value} (h : New B v) (hn : B' ≤ B) : New B' v := fun b o k c e hk => Nat.le_trans hn (h b o k c e hk)
theorem New.of_own {w : World} {base : Nat} {v : Value} {ms : List En} (h : OwnE w base v ms) : New base v := fun b o k c e hk => by
  rcases h.2 with ⟨e1, _⟩ | ⟨g, cap, cur, e1, hb, _⟩
  · rw [e1] at e; cases e
  · rw [e1] at e
    injection e with e2
    injection e2 with e3
    injection e3 with e4
    omega
theorem ArgE.set {w : World} {v : Value} {ms : List En} (h : ArgE w v ms) {n i : Nat} (ho : Off n v) (u : Value) : ArgE (w.setCell ⟨n, i, none⟩ u) v ms := by
  cases h with
  | nil => exact .nil
  | empty a c => exact .empty a c
  | some b o c ms hc h =>
    refine .some b o c ms hc ?_
    obtain ⟨A, c', e, h1⟩ := h
    injection e with e1 e2 e3
    subst e1 e3
    refine ⟨_, _, rfl, fun h0 => ?_⟩
    obtain ⟨b', o', e', hb, hq⟩ := h1 h0
    cases e'
    have hne : b ≠ n := ho b o _ c rfl h0
    refine ⟨b, o, rfl, by simpa using hb, fun i hi => ?_⟩
    rw [World.cell?_setCell_far w _ _ u (Ne.symm hne), World.cell?_setCell_far w _ _ u (Ne.symm hne)]
    exact hq i hi
def BoxL (n : Nat) (r : Lg) (s : Value) (w' : World) : Prop := n < w'.heap.size ∧ (w'.cell? ⟨n, 0, none⟩ = some (.int .i64 r.base) ∧ w'.cell? ⟨n, 1, none⟩ = some (.int .i64 r.bt) ∧ w'.cell? ⟨n, 2, none⟩ = some s) ∧ ∀ o, w'.frozen? ⟨n, o, none⟩ = false
theorem BoxL.keep {n : Nat} {r : Lg} {s : Value} {w1 w2 : World} (h : BoxL n r s w1) (hb : Below w1.heap.size w1 w2) : BoxL n r s w2 := by
  obtain ⟨h0, ⟨h1, h2, h3⟩, hf⟩ := h
  have hc : ∀ o, w2.cell? ⟨n, o, none⟩ = w1.cell? ⟨n, o, none⟩ := fun o => hb.cell (p := ⟨n, o, none⟩) h0
  refine ⟨Nat.lt_of_lt_of_le h0 hb.size, ⟨?_, ?_, ?_⟩, fun o => (hb.frozen (p := ⟨n, o, none⟩) h0).trans (hf o)⟩
  all_goals rw [hc]; assumption
theorem BoxL.kept {N n : Nat} {r : Lg} {s : Value} {w1 w2 : World} (h : BoxL n r s w1) (hn : n < N) (hb : Below N w1 w2) : BoxL n r s w2 := by
  obtain ⟨h0, ⟨h1, h2, h3⟩, hf⟩ := h
  have hc : ∀ o, w2.cell? ⟨n, o, none⟩ = w1.cell? ⟨n, o, none⟩ := fun o => hb.cell (p := ⟨n, o, none⟩) hn
  refine ⟨Nat.lt_of_lt_of_le h0 hb.size, ⟨?_, ?_, ?_⟩, fun o => (hb.frozen (p := ⟨n, o, none⟩) hn).trans (hf o)⟩
  all_goals rw [hc]; assumption
theorem BoxL.new (w : World) (r : Lg) (s : Value) : BoxL w.heap.size r s (w.alloc (.cells #[.int .i64 r.base, .int .i64 r.bt, s] 101)) :=
  ⟨by simp, by simp [go_sem], fun o => by simp [go_sem]⟩
theorem BoxL.alloc {n : Nat} {r : Lg} {s : Value} {w1 : World} (h : BoxL n r s w1) (o : Obj) : BoxL n r s (w1.alloc o) :=
  h.keep ((Below.refl _ w1).alloc (Nat.le_refl _) o)
theorem BoxL.drew {n : Nat} {r : Lg} {s : Value} {w1 : World} (h : BoxL n r s w1) : BoxL n r s w1.drew := h
theorem BoxL.other {n : Nat} {r : Lg} {s : Value} {w1 : World} (h : BoxL n r s w1) {a : Addr} (ha : a.block ≠ n) (u : Value) : BoxL n r s (w1.setCell a u) := by
  obtain ⟨h0, ⟨h1, h2, h3⟩, hf⟩ := h
  have hc : ∀ o, (w1.setCell a u).cell? ⟨n, o, none⟩ = w1.cell? ⟨n, o, none⟩ := fun o => World.cell?_setCell_far w1 a _ u ha
  refine ⟨by simpa using h0, ⟨?_, ?_, ?_⟩, fun o => by rw [World.frozen?_setCell]; exact hf o⟩
  all_goals rw [hc]; assumption
theorem BoxL.put {n : Nat} {r0 : Lg} {s0 : Value} {w1 : World} (h : BoxL n r0 s0 w1) (r : Lg) (s : Value) :
    BoxL n r s (((w1.setCell ⟨n, 0, none⟩ (.int .i64 r.base)).setCell ⟨n, 1, none⟩ (.int .i64 r.bt)).setCell ⟨n, 2, none⟩ s) := by
  obtain ⟨h0, ⟨h1, h2, h3⟩, hf⟩ := h
  refine ⟨by simpa using h0, ⟨?_, ?_, ?_⟩, fun o => by simp [World.frozen?_setCell, hf]⟩
  all_goals simp [go_sem, h1, h2, h3]
theorem BoxL.es {n : Nat} {r0 : Lg} {s0 : Value} {w1 : World} (h : BoxL n r0 s0 w1) (l : List En) (s : Value) : BoxL n ⟨r0.base, r0.bt, l⟩ s (w1.setCell ⟨n, 2, none⟩ s) := by
  obtain ⟨h0, ⟨h1, h2, h3⟩, hf⟩ := h
  refine ⟨by simpa using h0, ⟨?_, ?_, ?_⟩, fun o => by simp [World.frozen?_setCell, hf]⟩
  all_goals simp [go_sem, h1, h2, h3]
end Go.Proofs.YtkpakiiijphjeaaGreatDoor.Ro

namespace Go.Proofs.YtkpakiiijphjeaaGreatDoor.Ro
open Go.RowKit
theorem ret_b {a b : Bool} (h : a = b) : Ending.returned (.bool a) = .returned (.bool b) := by rw [h]
theorem isIndex_any (n : Int) (w : World) : Calls Tryz.prog 118 #[.int .i64 n] w fun e w' => e = .returned (.bool (isIx n)) ∧ w = w' := by
  by_cases h1 : 0 ≤ n
  · have g1 : ((0 : Int) ≤ n) = True := eq_true h1
    go_enter Tryz.func118, Tryz.ntmps118
    go_wp2_with fail
    go_ret
    exact ⟨ret_b (by unfold isIx; simp [h1]), rfl⟩
  · have g1 : ((0 : Int) ≤ n) = False := eq_false h1
    rw [show isIx n = false by unfold isIx; simp [h1]]
    go_enter Tryz.func118, Tryz.ntmps118
    go_wp2_with fail
    go_ret
    exact ⟨rfl, rfl⟩
theorem isTerm_any (n : Int) (w : World) : Calls Tryz.prog 119 #[.int .i64 n] w fun e w' => e = .returned (.bool (isIx n)) ∧ w = w' := by
  by_cases h1 : 0 ≤ n
  · have g1 : ((0 : Int) ≤ n) = True := eq_true h1
    go_enter Tryz.func119, Tryz.ntmps119
    go_wp2_with fail
    go_ret
    exact ⟨ret_b (by unfold isIx; simp [h1]), rfl⟩
  · have g1 : ((0 : Int) ≤ n) = False := eq_false h1
    rw [show isIx n = false by unfold isIx; simp [h1]]
    go_enter Tryz.func119, Tryz.ntmps119
    go_wp2_with fail
    go_ret
    exact ⟨rfl, rfl⟩
theorem riseE_drop {es : List En} {k : Nat} (h : k < es.length) (t : Int) : riseE t (es.drop k) = (decide (t ≤ es[k].1) && decide (es[k].1 ≤ 1099511627776) && riseE es[k].1 (es.drop (k + 1))) := by
  rw [List.drop_eq_getElem_cons h, riseE]
set_option maxHeartbeats 4000000 in
set_option maxRecDepth 100000 in
theorem check_any (r : Lg) (s : Value) (w : World) (hs : SE w w.heap.size s r.es) (hl : r.es.length ≤ 140737488355328) :
    Calls Tryz.prog 107 #[lv r s] w fun e w' => e = .returned (.int .i64 (chkL r)) ∧ Below w.heap.size w w' := by
  obtain ⟨A, c, rfl⟩ := hs.form
  have HV := Lib.hid hs
  obtain ⟨base, bt, es⟩ := r
  simp only at HV hl ⊢
  obtain ⟨N, hN⟩ : ∃ N, es.length = N := ⟨_, rfl⟩
  have HN := Lib.hid hN
  have c1 := fun w => isIndex_any base w
  have c2 := fun w => isTerm_any bt w
  have B0 := BoxL.new w ⟨base, bt, es⟩ (.slice A N c)
  rw [hN] at hl ⊢
  obtain ⟨q, hq⟩ : ∃ q, chkL ⟨base, bt, es⟩ = q := ⟨_, rfl⟩
  rw [hq]
  clear hs
  cases h1 : isIx base with
  | false =>
    have hr : q = 110 := by rw [← hq]; unfold chkL isL; simp [h1]
    subst hr
    rw [h1] at c1
    clear h1 hq hN
    go_enter Tryz.func107, Tryz.ntmps107
    go_wp2_with fail
    refine (c1 _).mono ?_
    rintro e w1 ⟨rfl, rfl⟩
    go_wp2_with fail
    go_ret
    exact ⟨rfl, (by (repeat' (first | with_reducible assumption | with_reducible exact Below.refl _ _ | with_reducible refine Below.alloc ?_ ?_ _ | with_reducible refine Below.setCell ?_ ?_ _ | with_reducible refine Below.drew ?_ | omega | (simp; done) | (simp; omega))))⟩
  | true =>
  rw [h1] at c1
  cases h2 : isIx bt with
  | false =>
    have hr : q = 110 := by rw [← hq]; unfold chkL isL; simp [h2]
    subst hr
    rw [h2] at c2
    clear h1 h2 hq hN
    go_enter Tryz.func107, Tryz.ntmps107
    go_wp2_with fail
    refine (c1 _).mono ?_
    rintro e w1 ⟨rfl, rfl⟩
    go_wp2_with fail
    refine (c2 _).mono ?_
    rintro e w1 ⟨rfl, rfl⟩
    go_wp2_with fail
    go_ret
    exact ⟨rfl, (by (repeat' (first | with_reducible assumption | with_reducible exact Below.refl _ _ | with_reducible refine Below.alloc ?_ ?_ _ | with_reducible refine Below.setCell ?_ ?_ _ | with_reducible refine Below.drew ?_ | omega | (simp; done) | (simp; omega))))⟩
  | true =>
  rw [h2] at c2
  have hb := (isIx_iff base).1 h1
  have hbt := (isIx_iff bt).1 h2
  have j1 : IntKind.i64.wrap (1099511627776 - base) = 1099511627776 - base := by rw [IntKind.wrap_i64] <;> omega
  by_cases h3 : (N : Int) ≤ 1099511627776 - base
  rotate_left
  · have hr : q = 110 := by rw [← hq]; unfold chkL isL; simp only [hN]; simp [h3]
    subst hr
    have g3 : (1099511627776 - base < (N : Int)) = True := eq_true (by omega)
    clear h1 h2 h3 hq hN hb hbt
    go_enter Tryz.func107, Tryz.ntmps107
    go_wp2_with fail
    refine (c1 _).mono ?_
    rintro e w1 ⟨rfl, rfl⟩
    go_wp2_with fail
    refine (c2 _).mono ?_
    rintro e w1 ⟨rfl, rfl⟩
    go_wp2_with fail
    go_ret
    exact ⟨rfl, (by (repeat' (first | with_reducible assumption | with_reducible exact Below.refl _ _ | with_reducible refine Below.alloc ?_ ?_ _ | with_reducible refine Below.setCell ?_ ?_ _ | with_reducible refine Below.drew ?_ | omega | (simp; done) | (simp; omega))))⟩
  have g3 : (1099511627776 - base < (N : Int)) = False := eq_false (by omega)
  have hr : q = if riseE bt es then 0 else 110 := by rw [← hq]; unfold chkL isL; simp only [hN, h1, h2, decide_eq_true h3, Bool.true_and]
  have HQ := Lib.hid hr
  clear h1 h2 h3 hq hN hr
  have hbt0 : 0 ≤ bt := hbt.1
  have hb0 : 0 ≤ base := hb.1
  have hb1 : base ≤ 1099511627776 := hb.2
  have HB := Lib.hid hbt0
  clear hb hbt hbt0 hb0 hb1
  go_enter Tryz.func107, Tryz.ntmps107
  go_wp2_with fail
  refine (c1 _).mono ?_
  rintro e w1 ⟨rfl, rfl⟩
  go_wp2_with fail
  refine (c2 _).mono ?_
  rintro e w1 ⟨rfl, rfl⟩
  go_wp2_with fail
  have B1 : Hid (BoxL w.heap.size ⟨base, bt, es⟩ (.slice A N c) (w.alloc (.cells #[.int .i64 base, .int .i64 bt, .slice A N c] 101))) := Lib.hid B0
  obtain ⟨W0, hW0⟩ : ∃ W0, w.alloc (.cells #[.int .i64 base, .int .i64 bt, .slice A N c] 101) = W0 := ⟨_, rfl⟩
  rw [hW0] at B1
  try rw [hW0]
  have hb0 : Below w.heap.size w W0 := by rw [← hW0]; exact (Below.refl _ w).alloc (Nat.le_refl _) _
  have hz0 : w.heap.size < W0.heap.size := B1.out.1
  have HV0 := Lib.hid ((HV.out.below hb0).more hb0.size)
  clear hW0 B0 HV
  go_loopw [3, 5, 30] (fun v3 _ vi wr => ∃ (k : Nat) (t : Int), k ≤ N ∧ vi = .int .i64 (k : Int) ∧ v3 = .int .i64 t ∧ Hid (0 ≤ t) ∧ Hid (q = if riseE t (es.drop k) then 0 else 110) ∧ Below W0.heap.size W0 wr) (fun _ _ vi _ => N - (intOf vi).toNat)
  case atStart => exact ⟨0, bt, Nat.zero_le _, rfl, rfl, HB, Lib.hid (by simpa using HQ.out), Below.refl _ _⟩
  case round =>
    obtain ⟨k, t, hk, rfl, rfl, HT, HG, hbw⟩ := hrel
    have hz := hbw.size
    have hbx : Below w.heap.size w wr := hb0.trans (hbw.mono (by omega))
    by_cases hlt : k < N
    rotate_left
    · obtain rfl : k = N := by omega
      have hg := HG.out
      rw [List.drop_of_length_le (by have := HN.out; omega), riseE, if_pos rfl] at hg
      subst hg
      clear HG
      go_wp2_with fail
      go_ret
      exact ⟨rfl, hbx⟩
    · have hkx : k < es.length := by rw [HN.out]; exact hlt
      have hv1 := HV0.out.below hbw
      rw [HN.out] at hv1
      obtain ⟨b, o, rfl, hb, q0, q1⟩ := hv1.at_ hkx
      have hg := HG.out
      rw [riseE_drop hkx] at hg
      obtain ⟨⟨x, y⟩, hx⟩ : ∃ x, es[k] = x := ⟨_, rfl⟩
      rw [hx] at q0 q1 hg
      simp only at q0 q1 hg
      have ht := HT.out
      have k0 : (0 ≤ (k : Int)) = True := eq_true (by omega)
      have k1 : ((k : Int) < (N : Int)) = True := eq_true (by omega)
      have hk1 : (k : Int) < (N : Int) := by omega
      have hbz : b < wr.heap.size := by omega
      have ct := fun w => isTerm_any x w
      clear hv1 hx hkx
      by_cases h1 : x < t
      · have g1 : (x < t) = True := eq_true h1
        rw [decide_eq_false (by omega : ¬ t ≤ x)] at hg
        simp only [Bool.false_and] at hg
        have HG2 := Lib.hid hg
        clear hg h1 ht HG
        go_wp2_with fail
        go_ret
        exact ⟨by rw [HG2.out]; rfl, (by (repeat' (first | with_reducible assumption | with_reducible exact Below.refl _ _ | with_reducible refine Below.alloc ?_ ?_ _ | with_reducible refine Below.setCell ?_ ?_ _ | with_reducible refine Below.drew ?_ | omega | (simp; done) | (simp; omega))))⟩
      · have g1 : (x < t) = False := eq_false h1
        rw [decide_eq_true (by omega : t ≤ x), Bool.true_and] at hg
        by_cases h2 : x ≤ 1099511627776
        · rw [show isIx x = true from (isIx_iff x).2 ⟨by omega, h2⟩] at ct
          rw [decide_eq_true h2, Bool.true_and] at hg
          have HG2 := Lib.hid hg
          have HT2 : Hid (0 ≤ x) := Lib.hid (by omega)
          clear hg h1 h2 ht HG
          go_wp2_with fail
          refine (ct _).mono ?_
          rintro e w1 ⟨rfl, rfl⟩
          go_wp2_with fail
          go_roundw
          case rel => exact ⟨k + 1, x, by omega, by go_num, rfl, HT2, HG2, (by (repeat' (first | with_reducible assumption | with_reducible exact Below.refl _ _ | with_reducible refine Below.alloc ?_ ?_ _ | with_reducible refine Below.setCell ?_ ?_ _ | with_reducible refine Below.drew ?_ | omega | (simp; done) | (simp; omega))))⟩
          case measure => simp [intOf]; omega
        · rw [show isIx x = false by unfold isIx; simp [h2]] at ct
          rw [decide_eq_false h2] at hg
          simp only [Bool.false_and] at hg
          have HG2 := Lib.hid hg
          clear hg h1 h2 ht HG
          go_wp2_with fail
          refine (ct _).mono ?_
          rintro e w1 ⟨rfl, rfl⟩
          go_wp2_with fail
          go_ret
          exact ⟨by rw [HG2.out]; rfl, (by (repeat' (first | with_reducible assumption | with_reducible exact Below.refl _ _ | with_reducible refine Below.alloc ?_ ?_ _ | with_reducible refine Below.setCell ?_ ?_ _ | with_reducible refine Below.drew ?_ | omega | (simp; done) | (simp; omega))))⟩
end Go.Proofs.YtkpakiiijphjeaaGreatDoor.Ro

namespace Go.Proofs.YtkpakiiijphjeaaGreatDoor.Ro
open Go.RowKit
structure FitL (r : Lg) : Prop where
  b0 : 0 ≤ r.base
  b1 : r.base ≤ 1099511627776
  n : r.es.length ≤ 1000000
theorem FitL.of {r : Lg} (h : isL r = true) (hn : r.es.length ≤ 1000000) : FitL r := by
  obtain ⟨h1, _, _, _⟩ := (isL_iff r).1 h
  exact ⟨h1.1, h1.2, hn⟩
end Go.Proofs.YtkpakiiijphjeaaGreatDoor.Ro

namespace Go.Proofs.YtkpakiiijphjeaaGreatDoor.Ro
open Go.RowKit
theorem ba_iff (a b : ByteArray) : a.toList = b.toList ↔ a = b := ⟨fun h => by
  rw [ByteArray.toList_eq, ByteArray.toList_eq] at h
  obtain ⟨⟨x⟩⟩ := a
  obtain ⟨⟨y⟩⟩ := b
  have h : x = y := h
  rw [h], fun h => by rw [h]⟩
theorem int_yes {x y : Int} (h : x = y) : (x == y) = true ∧ (x != y) = false ∧ (x = y) = True := by subst h; simp
theorem int_no {x y : Int} (h : ¬ x = y) : (x == y) = false ∧ (x != y) = true ∧ (x = y) = False := ⟨by simpa using h, by simpa using h, eq_false h⟩
set_option maxHeartbeats 4000000 in
set_option maxRecDepth 100000 in
theorem entries_any (va vb : Value) (xs ys : List En) (w : World) (ha : SE w w.heap.size va xs) (hb : SE w w.heap.size vb ys) (hx : xs.length ≤ 1000000000) (hy : ys.length ≤ 1000000000) :
    Calls Tryz.prog 72 #[va, vb] w fun e w' => e = .returned (.bool (decide (xs = ys))) ∧ Below w.heap.size w w' := by
  obtain ⟨A, c, rfl⟩ := ha.form
  obtain ⟨D, d, rfl⟩ := hb.form
  by_cases hl : xs.length = ys.length
  · obtain ⟨n, hn⟩ : ∃ n, n = xs.length := ⟨_, rfl⟩
    have hny : n = ys.length := by omega
    have HX := Lib.hid hn
    have HY := Lib.hid hny
    have hn1 : n ≤ 1000000000 := by omega
    rw [← hn] at ha ⊢
    rw [← hny] at hb ⊢
    clear hl hn hny hx hy
    go_enter Tryz.func72, Tryz.ntmps72
    go_wp2_with fail
    go_loopw [5] (fun vi wr => ∃ (k : Nat), k ≤ n ∧ vi = .int .i64 (k : Int) ∧ Hid (xs.take k = ys.take k) ∧ Below w.heap.size w wr) (fun vi _ => n - (intOf vi).toNat)
    case atStart => exact ⟨0, by omega, rfl, rfl, Below.refl _ w⟩
    case round =>
      obtain ⟨k, hk, rfl, heq, hbw⟩ := hrel
      by_cases hlt : k < n
      · have hkx : k < xs.length := by rw [← HX.out]; exact hlt
        have hky : k < ys.length := by rw [← HY.out]; exact hlt
        obtain ⟨b1, o1, rfl, hadb, hc1, hc2⟩ := (ha.below hbw).at_ hkx
        obtain ⟨b2, o2, rfl, hbdb, hd1, hd2⟩ := (hb.below hbw).at_ hky
        obtain ⟨⟨x1, x2⟩, hx⟩ : ∃ x, xs[k] = x := ⟨_, rfl⟩
        obtain ⟨⟨y1, y2⟩, hy⟩ : ∃ y, ys[k] = y := ⟨_, rfl⟩
        rw [hx] at hc1 hc2
        rw [hy] at hd1 hd2
        have hk0 : (0 : Int) ≤ (k : Int) := by omega
        have hk1 : (k : Int) < (n : Int) := by omega
        have EX := Lib.hid hx
        have EY := Lib.hid hy
        clear hx hy
        by_cases hxy : ((x1, x2) : En) = (y1, y2)
        · have HXY := Lib.hid hxy
          injection hxy with q1 q2
          subst q1 q2
          go_wp2_with fail
          go_quiet (fail)
          go_wp2_with fail
          go_roundw
          case rel =>
            refine ⟨k + 1, by omega, by go_num, ?_, below_drewN hbw _⟩
            show xs.take (k + 1) = ys.take (k + 1)
            rw [List.take_succ_eq_append_getElem hkx, List.take_succ_eq_append_getElem hky, heq.out, EX.out, EY.out]
          case measure => simp [intOf]; omega
        · have hor : ((x1 == y1) = false) ∨ (x1 = y1 ∧ (x2.toList == y2.toList) = false) := by
            by_cases q : x1 = y1
            · refine .inr ⟨q, ?_⟩
              rw [beq_eq_false_iff_ne]
              intro h
              exact hxy (by rw [q, (ba_iff x2 y2).1 h])
            · exact .inl (by simpa using q)
          have hres : decide (xs = ys) = false := by
            simp
            rintro rfl
            exact hxy (by rw [← EX.out, EY.out])
          have HR := Lib.hid hres
          clear hxy hres
          rcases hor with q1 | ⟨rfl, q2⟩
          all_goals
            go_wp2_with fail
            go_quiet (fail)
            go_wp2_with fail
            go_ret
            exact ⟨by rw [HR.out]; rfl, below_drewN hbw _⟩
      · obtain rfl : k = n := by omega
        have hres : decide (xs = ys) = true := by
          have h := heq.out
          have e1 := HX.out
          have e2 := HY.out
          rw [List.take_of_length_le (by omega), List.take_of_length_le (by omega)] at h
          simpa using h
        have HR := Lib.hid hres
        clear hres heq
        go_wp2_with fail
        go_ret
        exact ⟨by rw [HR.out]; rfl, hbw⟩
  · have hres : decide (xs = ys) = false := by
      simp
      rintro rfl
      exact hl rfl
    have HR := Lib.hid hres
    have hq : ((xs.length : Int) != (ys.length : Int)) = true := by
      have : (xs.length : Int) ≠ (ys.length : Int) := by omega
      simpa using this
    have hq2 : (xs.length != ys.length) = true := by simpa using hl
    clear hres hl
    go_enter Tryz.func72, Tryz.ntmps72
    go_wp2_with fail
    go_ret
    exact ⟨by rw [HR.out]; rfl, Below.refl _ w⟩
def sumE (l : List En) : Nat := (l.map fun e => e.2.size).sum
structure SmallL (r : Lg) : Prop where
  n : r.es.length ≤ 60
  sum : sumE r.es ≤ 10000
def SmallOut (r : Lg) (e : Ending) : Prop := ∃ x, e = .returned (.bool x) ∧ (x = true → SmallL r)
theorem SmallOut.no (r : Lg) : SmallOut r (.returned (.bool false)) := ⟨false, rfl, fun h => by cases h⟩
end Go.Proofs.YtkpakiiijphjeaaGreatDoor.Ro

namespace Go.Proofs.YtkpakiiijphjeaaGreatDoor.Ro
open Go.RowKit
end Go.Proofs.YtkpakiiijphjeaaGreatDoor.Ro

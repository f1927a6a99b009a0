/-
  slices.Chunk at texts, by twos. Condition: at most 10,000 chunks.
-/
import Derived.RangeFuncBox
import Derived.RangeFuncLeaves
import Derived.RangeFuncNested
import Derived.RangeFuncWrites
import Derived.Shelf.Abstract
import Derived.WalkKit
import Derived.OwnWalkIn
import Derived.TacticsInMore
import Derived.LoopNIn
import Derived.LoopIn
import Derived.Test.YtimodohcihnoiaaDoorRoRow
import Derived.Test.YtimodohcihnoiaaDoorMixedIn
import Derived.Lib.MinMax
namespace Go.Proofs.YtimodohcihnoiaaDoor.Ro
open Go.RowKit
attribute [local go_sem] Oper.semAt_some

/-- a chunk's number -/
abbrev Ix (m : Nat) := { j : Nat // j < m }
theorem vals_snoc {m k : Nat} {pre : List (Ix m)} (h : pre.map (·.1) = List.range k) (hk : k < m) : (pre ++ [(⟨k, hk⟩ : Ix m)]).map (·.1) = List.range (k + 1) := by
  rw [List.map_append, h, List.range_succ]; rfl
theorem vals_length {m k : Nat} {pre : List (Ix m)} (h : pre.map (·.1) = List.range k) : pre.length = k := by
  have := congrArg List.length h
  simpa using this

/-- what a round keeps: the iterator's two boxes -/
def KpC (B0 B1 : Nat) (W W' : World) : Prop := W'.cell? ⟨B0, 0, none⟩ = W.cell? ⟨B0, 0, none⟩ ∧ W'.cell? ⟨B1, 0, none⟩ = W.cell? ⟨B1, 0, none⟩
theorem kpC_t {B0 B1 : Nat} {A B C : World} (h : KpC B0 B1 A B) (k : KpC B0 B1 B C) : KpC B0 B1 A C := ⟨k.1.trans h.1, k.2.trans h.2⟩
theorem kpC_b {B0 B1 : Nat} {w : World} (h0 : B0 < w.heap.size) (h1 : B1 < w.heap.size) (W : World) (l : Nat) (o o' : Obj) (hl : w.heap.size ≤ l) (h : W.heap[l]? = some o) (_ : o.isCells = false) (_ : o.isWalk = false) : KpC B0 B1 W (W.putObj l o') := by
  have hb : Below w.heap.size W (W.putObj l o') := (Below.refl _ W).grown (grownBy_putObj' W l o') (by have := (Array.getElem?_eq_some_iff.1 h).1; omega) (fun k e => by cases e; omega)
  exact ⟨hb.cell (p := ⟨B0, 0, none⟩) h0, hb.cell (p := ⟨B1, 0, none⟩) h1⟩

def chunk2 (b off : Nat) (j : Nat) : Value := .slice (some ⟨b, off + j * 2, none⟩) 2 2
set_option maxRecDepth 100000 in
set_option maxHeartbeats 2000000 in
/-- slices.Chunk's closure: for every loop body that keeps its two boxes. -/
theorem chunks1_in (F : Fence) (n : Nat) (hf : F.fn 52) (hro : F.round = none) (hn : 1 ≤ n) (l B0 B1 b off m N cap : Nat) (A : Option Addr) (hA : 0 < m → A = some ⟨b, off, none⟩) (hreach : m ≤ 10000) (hN : Hid (N = m * 2)) (hcap : N ≤ cap) (_hcap2 : cap ≤ maxLen) (J Jx : List (Ix m) → World → Prop)
    (hY : ∀ pre x W, J pre W → pre.length < m → YieldAt F (n - 1) Tryd.prog l #[chunk2 b off x.1] W fun e W' =>
      (e = .returned (.bool true) ∧ J (pre ++ [x]) W' ∧ KpC B0 B1 W W') ∨ (e = .returned (.bool false) ∧ Jx (pre ++ [x]) W'))
    (W : World) (hB0s : W.cell? ⟨B0, 0, none⟩ = some (.slice A N cap)) (hB1s : W.cell? ⟨B1, 0, none⟩ = some (.int .i64 2))
    (hJd : AbidesFrom W.heap.size J) (h0 : J [] W) :
    CallsIn F n Tryd.prog 52 #[.func (.yield l) #[] #[], .pointer (some ⟨B0, 0, none⟩), .pointer (some ⟨B1, 0, none⟩)] W fun e W' => (∃ v, e = .returned v) ∧
      ((∃ ys, ys.map (·.1) = List.range m ∧ J ys W') ∨ (∃ pre, (∃ k, k ≤ m ∧ pre.map (·.1) = List.range k) ∧ Jx pre W')) := by
  refine callsIn_of_wp Tryd.func52 rfl hf ?_ hro
  simp only [Tryd.ntmps52, List.size_toArray, List.length_cons, List.length_nil, Nat.reduceAdd, Nat.reduceSub, Array.replicate_succ, Array.replicate_zero, List.push_toArray, List.append_toArray, List.nil_append, List.cons_append]
  gi_wp2
  gi_loopw [4, 5] (fun i _ wr => ∃ (k K : Nat) (pre : List (Ix m)), k ≤ m ∧ i = .int .i64 (K : Int) ∧ Hid (K = k * 2) ∧ pre.map (·.1) = List.range k ∧ J pre wr ∧ KpC B0 B1 W wr)
    (fun i _ _ => N - (intOf i).toNat)
  case atStart => exact ⟨0, 0, [], Nat.zero_le _, rfl, Lib.hid rfl, rfl, h0, rfl, rfl⟩
  case round =>
    obtain ⟨k, K, pre, hk, rfl, hK, hp, hJs, hnx⟩ := hrel
    have c0 := hnx.1.trans hB0s
    have c1 := hnx.2.trans hB1s
    by_cases hlt : k < m
    · rw [hA (by omega)] at c0
      have q1 := hN.out
      have q2 := hK.out
      have hKN : K + 2 ≤ N := by omega
      have hoff : off + k * 2 = off + K := by omega
      have hN2 : N ≤ 20000 := by omega
      clear q1 q2
      have HO := Lib.hid hoff
      clear hoff
      have hKi : (K : Int) < (N : Int) := by omega
      have e1 : ((K : Int) ≤ (N : Int)) = True := eq_true (by omega)
      have e2 : (cap = K) = False := eq_false (by omega)
      have e3 : min (2 : Int) ((N - K : Nat) : Int) = 2 := by omega
      have e4 : min (2 : Int) ((N : Int) - (K : Int)) = 2 := by omega
      have e5 : IntKind.i64.wrap ((K : Int) + 2) = (K : Int) + 2 := by rw [IntKind.wrap_i64]; omega
      gi_wp2
      refine St.wpIn_region_calm (fun _ _ wx => wx = wr.drew) (by kernel_rfl) (by kernel_rfl) (by kernel_rfl) (by kernel_rfl) rfl ?_
      apply St.mix_give
      · rfl
      · rintro L u' wx rfl hcl hrd hag
        go_simp
        try with_reducible rfl
      · exact fun L u' wx hS => hS
      simp only [Act.put, List.setIfInBounds_toArray, List.set_cons_zero, List.set_cons_succ]
      apply St.mix_give
      · rfl
      · rintro L u' wx rfl hcl hrd hag
        go_simp
        try with_reducible rfl
      · exact fun L u' wx hS => hS
      simp only [Act.put, List.setIfInBounds_toArray, List.set_cons_zero, List.set_cons_succ]
      apply St.mix_give
      · rfl
      · rintro L u' wx rfl hcl hrd hag
        go_simp
        try with_reducible rfl
      · exact fun L u' wx hS => hS
      simp only [Act.put, List.setIfInBounds_toArray, List.set_cons_zero, List.set_cons_succ]
      apply St.mix_give
      · rfl
      · rintro L u' wx rfl hcl hrd hag
        go_simp
        try with_reducible rfl
      · exact fun L u' wx hS => hS
      simp only [Act.put, List.setIfInBounds_toArray, List.set_cons_zero, List.set_cons_succ]
      apply St.mix_give
      · rfl
      · rintro L u' wx rfl hcl hrd hag
        go_simp
        try with_reducible rfl
      · exact fun L u' wx hS => hS
      simp only [Act.put, List.setIfInBounds_toArray, List.set_cons_zero, List.set_cons_succ]
      apply St.mix_give
      · rfl
      · rintro L u' wx rfl hcl hrd hag
        go_simp
        try with_reducible rfl
      · exact fun L u' wx hS => hS
      simp only [Act.put, List.setIfInBounds_toArray, List.set_cons_zero, List.set_cons_succ]
      apply St.mix_give
      · rfl
      · rintro L u' wx rfl hcl hrd hag
        go_simp
        try with_reducible rfl
      · exact fun L u' wx hS => hS
      simp only [Act.put, List.setIfInBounds_toArray, List.set_cons_zero, List.set_cons_succ]
      refine St.mix_last ?_
      rintro L wx rfl hall
      have hJd' : J pre wr.drew := hJd _ wr wr.drew none hJs ⟨rfl, rfl, rfl, Nat.le_refl _, fun _ _ _ => rfl⟩ (fun r e => by cases e)
      obtain ⟨fn, tmps, assign, body, hy, hR⟩ := hY _ (⟨k, hlt⟩ : Ix m) wr.drew hJd' (by rw [vals_length hp]; exact hlt)
      dsimp only at hy
      unfold chunk2 at hy
      rw [HO.out] at hy
      have HP := Lib.hid hp
      clear hp
      gi_wp2
      refine hR.mono ?_
      rintro e W3 (⟨rfl, hJ3, hk3⟩ | ⟨rfl, hJx3⟩)
      · have B3 : KpC B0 B1 W W3 := kpC_t (B := wr.drew) hnx hk3
        have c1' := B3.2.trans hB1s
        gi_wp2
        go_roundw
        case rel => exact ⟨k + 1, K + 2, _, by omega, by go_num, Lib.hid (by have := hK.out; omega), vals_snoc HP.out hlt, hJ3, B3⟩
        case measure => simp [intOf]; omega
      · gi_wp2
        refine bodyPost_ret (results_none rfl _ _ _) rfl ?_
        exact ⟨⟨_, rfl⟩, .inr ⟨_, ⟨k + 1, by omega, vals_snoc HP.out hlt⟩, hJx3⟩⟩
    · obtain rfl : k = m := by omega
      have hKN : N = K := by have := hN.out; have := hK.out; omega
      subst hKN
      gi_wp2
      go_end0
      exact ⟨⟨_, rfl⟩, .inl ⟨_, hp, hJs⟩⟩

set_option maxHeartbeats 1000000 in
/-- slices.Chunk by twos: the slice and the number are boxed; the function value captures the boxes. -/
theorem chunks_in (F : Fence) (n : Nat) (hf : F.fn 37) (hro : F.round = none) (a : Option Addr) (len cap : Nat) (w : World) :
    CallsIn F n Tryd.prog 37 #[.slice a len cap, .int .i64 2] w fun e w' => e = .returned (.func (.func 52) #[] #[.pointer (some ⟨w.heap.size, 0, none⟩), .pointer (some ⟨w.heap.size + 1, 0, none⟩)]) ∧ w' = (w.alloc (.cells #[.slice a len cap] 56)).alloc (.cells #[.int .i64 2] 3) := by
  refine callsIn_of_wp Tryd.func37 rfl hf ?_ hro
  simp only [Tryd.ntmps37, List.size_toArray, List.length_cons, List.length_nil, Nat.reduceAdd, Nat.reduceSub, Array.replicate_succ, Array.replicate_zero, List.push_toArray, List.append_toArray, List.nil_append, List.cons_append]
  gi_wp2
  go_ret
  exact ⟨rfl, rfl⟩

theorem chunks_stops (F : Fence) (n : Nat) (hf : F.fn 52) (hro : F.round = none) (hn : 1 ≤ n) (B0 B1 b off m N cap : Nat) (A : Option Addr) (hA : 0 < m → A = some ⟨b, off, none⟩) (hreach : m ≤ 10000) (hN : Hid (N = m * 2)) (hcap : N ≤ cap) (hcap2 : cap ≤ maxLen) (w : World) (h0 : B0 < w.heap.size) (h1 : B1 < w.heap.size)
    (hc0 : w.cell? ⟨B0, 0, none⟩ = some (.slice A N cap)) (hc1 : w.cell? ⟨B1, 0, none⟩ = some (.int .i64 2)) :
    SeqStopsK F n Tryd.prog 52 #[.pointer (some ⟨B0, 0, none⟩), .pointer (some ⟨B1, 0, none⟩)] (fun x : Ix m => #[chunk2 b off x.1]) (KpC B0 B1) (fun ys => ys.map (·.1) = List.range m) (fun pre => ∃ k, k ≤ m ∧ pre.map (·.1) = List.range k) m w := fun l J Jx W hW hJd _ hY h00 =>
  chunks1_in F n hf hro hn l B0 B1 b off m N cap A hA hreach hN hcap hcap2 J Jx hY W ((hW.cell (p := ⟨B0, 0, none⟩) h0).trans hc0) ((hW.cell (p := ⟨B1, 0, none⟩) h1).trans hc1) hJd h00

end Go.Proofs.YtimodohcihnoiaaDoor.Ro

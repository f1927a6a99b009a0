/-
  slices.Chunk at texts, by twos. Condition: at most 10,000 chunks.
  The same as Mixed inside a fence that lets all functions in, a round's fence too ('for x := range f'): a region whose order of evaluation is drawn, with calls. No condition of a program.
  Parse, the program's: a roll out of a text. Conditions: texts of at most 12,000 bytes; the library's variables hold what their types allow.
  The laws' own roll and live: live answers true. Condition: the library's variables hold what their types allow.
-/
import Derived.RangeFuncBox
import Derived.RangeFuncLeaves
import Derived.RangeFuncNested
import Derived.RangeFuncWrites
import Derived.Shelf.Abstract
import Derived.WalkKit
import Derived.OwnWalkIn
import Derived.TacticsInMore
import Derived.LoopNIn
import Derived.LoopIn
import Derived.Test.YtkpakiiijphjeaaGreatDoorPRoD
import Derived.Test.YtkpakiiijphjeaaGreatDoorPDsChA
import Derived.Lib.MinMax
import Derived.Test.YtkpakiiijphjeaaGreatDoorPRegA
import Derived.OrdersIn
import Derived.Test.YtkpakiiijphjeaaGreatDoorPRoC
import Derived.Test.YtkpakiiijphjeaaGreatDoorPRoB
import Derived.Test.YtkpakiiijphjeaaGreatDoorPRoA
namespace Go.Proofs.YtkpakiiijphjeaaGreatDoor.Ro
open Go.RowKit
attribute [local go_sem] Oper.semAt_some
abbrev Ix (m : Nat) := { j : Nat // j < m }
theorem vals_snoc {m k : Nat} {pre : List (Ix m)} (h : pre.map (·.1) = List.range k) (hk : k < m) : (pre ++ [(⟨k, hk⟩ : Ix m)]).map (·.1) = List.range (k + 1) := by
  rw [List.map_append, h, List.range_succ]; rfl
theorem vals_length {m k : Nat} {pre : List (Ix m)} (h : pre.map (·.1) = List.range k) : pre.length = k := by
  have := congrArg List.length h
  simpa using this
def KpC (B0 B1 : Nat) (W W' : World) : Prop := W'.cell? ⟨B0, 0, none⟩ = W.cell? ⟨B0, 0, none⟩ ∧ W'.cell? ⟨B1, 0, none⟩ = W.cell? ⟨B1, 0, none⟩
theorem kpC_t {B0 B1 : Nat} {A B C : World} (h : KpC B0 B1 A B) (k : KpC B0 B1 B C) : KpC B0 B1 A C := ⟨k.1.trans h.1, k.2.trans h.2⟩
theorem kpC_b {B0 B1 : Nat} {w : World} (h0 : B0 < w.heap.size) (h1 : B1 < w.heap.size) (W : World) (l : Nat) (o o' : Obj) (hl : w.heap.size ≤ l) (h : W.heap[l]? = some o) (_ : o.isCells = false) (_ : o.isWalk = false) : KpC B0 B1 W (W.putObj l o') := by
  have hb : Below w.heap.size W (W.putObj l o') := (Below.refl _ W).grown (grownBy_putObj' W l o') (by have := (Array.getElem?_eq_some_iff.1 h).1; omega) (fun k e => by cases e; omega)
  exact ⟨hb.cell (p := ⟨B0, 0, none⟩) h0, hb.cell (p := ⟨B1, 0, none⟩) h1⟩
def chunk2 (b off : Nat) (j : Nat) : Value := .slice (some ⟨b, off + j * 2, none⟩) 2 2
set_option maxRecDepth 100000 in
set_option maxHeartbeats 2000000 in
theorem chunks1_in (F : Fence) (n : Nat) (hf : F.fn 117) (hro : F.round = none) (hn : 1 ≤ n) (l B0 B1 b off m N cap : Nat) (A : Option Addr) (hA : 0 < m → A = some ⟨b, off, none⟩) (hreach : m ≤ 10000) (hN : Hid (N = m * 2)) (hcap : N ≤ cap) (_hcap2 : cap ≤ maxLen) (J Jx : List (Ix m) → World → Prop)
    (hY : ∀ pre x W, J pre W → pre.length < m → YieldAt F (n - 1) Tryz.prog l #[chunk2 b off x.1] W fun e W' =>
      (e = .returned (.bool true) ∧ J (pre ++ [x]) W' ∧ KpC B0 B1 W W') ∨ (e = .returned (.bool false) ∧ Jx (pre ++ [x]) W'))
    (W : World) (hB0s : W.cell? ⟨B0, 0, none⟩ = some (.slice A N cap)) (hB1s : W.cell? ⟨B1, 0, none⟩ = some (.int .i64 2))
    (hJd : AbidesFrom W.heap.size J) (h0 : J [] W) :
    CallsIn F n Tryz.prog 117 #[.func (.yield l) #[] #[], .pointer (some ⟨B0, 0, none⟩), .pointer (some ⟨B1, 0, none⟩)] W fun e W' => (∃ v, e = .returned v) ∧
      ((∃ ys, ys.map (·.1) = List.range m ∧ J ys W') ∨ (∃ pre, (∃ k, k ≤ m ∧ pre.map (·.1) = List.range k) ∧ Jx pre W')) := by
  refine callsIn_of_wp Tryz.func117 rfl hf ?_ hro
  simp only [Tryz.ntmps117, List.size_toArray, List.length_cons, List.length_nil, Nat.reduceAdd, Nat.reduceSub, Array.replicate_succ, Array.replicate_zero, List.push_toArray, List.append_toArray, List.nil_append, List.cons_append]
  gi_wp2
  gi_loopw [4, 5] (fun i _ wr => ∃ (k K : Nat) (pre : List (Ix m)), k ≤ m ∧ i = .int .i64 (K : Int) ∧ Hid (K = k * 2) ∧ pre.map (·.1) = List.range k ∧ J pre wr ∧ KpC B0 B1 W wr)
    (fun i _ _ => N - (intOf i).toNat)
  case atStart => exact ⟨0, 0, [], Nat.zero_le _, rfl, Lib.hid rfl, rfl, h0, rfl, rfl⟩
  case round =>
    obtain ⟨k, K, pre, hk, rfl, hK, hp, hJs, hnx⟩ := hrel
    have c0 := hnx.1.trans hB0s
    have c1 := hnx.2.trans hB1s
    by_cases hlt : k < m
    · rw [hA (by omega)] at c0
      have q1 := hN.out
      have q2 := hK.out
      have hKN : K + 2 ≤ N := by omega
      have hoff : off + k * 2 = off + K := by omega
      have hN2 : N ≤ 20000 := by omega
      clear q1 q2
      have HO := Lib.hid hoff
      clear hoff
      have hKi : (K : Int) < (N : Int) := by omega
      have e1 : ((K : Int) ≤ (N : Int)) = True := eq_true (by omega)
      have e2 : (cap = K) = False := eq_false (by omega)
      have e3 : min (2 : Int) ((N - K : Nat) : Int) = 2 := by omega
      have e4 : min (2 : Int) ((N : Int) - (K : Int)) = 2 := by omega
      have e5 : IntKind.i64.wrap ((K : Int) + 2) = (K : Int) + 2 := by rw [IntKind.wrap_i64]; omega
      gi_wp2
      refine St.wpIn_region_calm (fun _ _ wx => wx = wr.drew) (by kernel_rfl) (by kernel_rfl) (by kernel_rfl) (by kernel_rfl) rfl ?_
      apply St.mix_give
      · rfl
      · rintro L u' wx rfl hcl hrd hag
        go_simp
        try with_reducible rfl
      · exact fun L u' wx hS => hS
      simp only [Act.put, List.setIfInBounds_toArray, List.set_cons_zero, List.set_cons_succ]
      apply St.mix_give
      · rfl
      · rintro L u' wx rfl hcl hrd hag
        go_simp
        try with_reducible rfl
      · exact fun L u' wx hS => hS
      simp only [Act.put, List.setIfInBounds_toArray, List.set_cons_zero, List.set_cons_succ]
      apply St.mix_give
      · rfl
      · rintro L u' wx rfl hcl hrd hag
        go_simp
        try with_reducible rfl
      · exact fun L u' wx hS => hS
      simp only [Act.put, List.setIfInBounds_toArray, List.set_cons_zero, List.set_cons_succ]
      apply St.mix_give
      · rfl
      · rintro L u' wx rfl hcl hrd hag
        go_simp
        try with_reducible rfl
      · exact fun L u' wx hS => hS
      simp only [Act.put, List.setIfInBounds_toArray, List.set_cons_zero, List.set_cons_succ]
      apply St.mix_give
      · rfl
      · rintro L u' wx rfl hcl hrd hag
        go_simp
        try with_reducible rfl
      · exact fun L u' wx hS => hS
      simp only [Act.put, List.setIfInBounds_toArray, List.set_cons_zero, List.set_cons_succ]
      apply St.mix_give
      · rfl
      · rintro L u' wx rfl hcl hrd hag
        go_simp
        try with_reducible rfl
      · exact fun L u' wx hS => hS
      simp only [Act.put, List.setIfInBounds_toArray, List.set_cons_zero, List.set_cons_succ]
      apply St.mix_give
      · rfl
      · rintro L u' wx rfl hcl hrd hag
        go_simp
        try with_reducible rfl
      · exact fun L u' wx hS => hS
      simp only [Act.put, List.setIfInBounds_toArray, List.set_cons_zero, List.set_cons_succ]
      refine St.mix_last ?_
      rintro L wx rfl hall
      have hJd' : J pre wr.drew := hJd _ wr wr.drew none hJs ⟨rfl, rfl, rfl, Nat.le_refl _, fun _ _ _ => rfl⟩ (fun r e => by cases e)
      obtain ⟨fn, tmps, assign, body, hy, hR⟩ := hY _ (⟨k, hlt⟩ : Ix m) wr.drew hJd' (by rw [vals_length hp]; exact hlt)
      dsimp only at hy
      unfold chunk2 at hy
      rw [HO.out] at hy
      have HP := Lib.hid hp
      clear hp
      gi_wp2
      refine hR.mono ?_
      rintro e W3 (⟨rfl, hJ3, hk3⟩ | ⟨rfl, hJx3⟩)
      · have B3 : KpC B0 B1 W W3 := kpC_t (B := wr.drew) hnx hk3
        have c1' := B3.2.trans hB1s
        gi_wp2
        go_roundw
        case rel => exact ⟨k + 1, K + 2, _, by omega, by go_num, Lib.hid (by have := hK.out; omega), vals_snoc HP.out hlt, hJ3, B3⟩
        case measure => simp [intOf]; omega
      · gi_wp2
        refine bodyPost_ret (results_none rfl _ _ _) rfl ?_
        exact ⟨⟨_, rfl⟩, .inr ⟨_, ⟨k + 1, by omega, vals_snoc HP.out hlt⟩, hJx3⟩⟩
    · obtain rfl : k = m := by omega
      have hKN : N = K := by have := hN.out; have := hK.out; omega
      subst hKN
      gi_wp2
      go_end0
      exact ⟨⟨_, rfl⟩, .inl ⟨_, hp, hJs⟩⟩
set_option maxHeartbeats 1000000 in
theorem chunks_in (F : Fence) (n : Nat) (hf : F.fn 102) (hro : F.round = none) (a : Option Addr) (len cap : Nat) (w : World) :
    CallsIn F n Tryz.prog 102 #[.slice a len cap, .int .i64 2] w fun e w' => e = .returned (.func (.func 117) #[] #[.pointer (some ⟨w.heap.size, 0, none⟩), .pointer (some ⟨w.heap.size + 1, 0, none⟩)]) ∧ w' = (w.alloc (.cells #[.slice a len cap] 70)).alloc (.cells #[.int .i64 2] 3) := by
  refine callsIn_of_wp Tryz.func102 rfl hf ?_ hro
  simp only [Tryz.ntmps102, List.size_toArray, List.length_cons, List.length_nil, Nat.reduceAdd, Nat.reduceSub, Array.replicate_succ, Array.replicate_zero, List.push_toArray, List.append_toArray, List.nil_append, List.cons_append]
  gi_wp2
  go_ret
  exact ⟨rfl, rfl⟩
theorem chunks_stops (F : Fence) (n : Nat) (hf : F.fn 117) (hro : F.round = none) (hn : 1 ≤ n) (B0 B1 b off m N cap : Nat) (A : Option Addr) (hA : 0 < m → A = some ⟨b, off, none⟩) (hreach : m ≤ 10000) (hN : Hid (N = m * 2)) (hcap : N ≤ cap) (hcap2 : cap ≤ maxLen) (w : World) (h0 : B0 < w.heap.size) (h1 : B1 < w.heap.size)
    (hc0 : w.cell? ⟨B0, 0, none⟩ = some (.slice A N cap)) (hc1 : w.cell? ⟨B1, 0, none⟩ = some (.int .i64 2)) :
    SeqStopsK F n Tryz.prog 117 #[.pointer (some ⟨B0, 0, none⟩), .pointer (some ⟨B1, 0, none⟩)] (fun x : Ix m => #[chunk2 b off x.1]) (KpC B0 B1) (fun ys => ys.map (·.1) = List.range m) (fun pre => ∃ k, k ≤ m ∧ pre.map (·.1) = List.range k) m w := fun l J Jx W hW hJd _ hY h00 =>
  chunks1_in F n hf hro hn l B0 B1 b off m N cap A hA hreach hN hcap hcap2 J Jx hY W ((hW.cell (p := ⟨B0, 0, none⟩) h0).trans hc0) ((hW.cell (p := ⟨B1, 0, none⟩) h1).trans hc1) hJd h00
end Go.Proofs.YtkpakiiijphjeaaGreatDoor.Ro

namespace Go.Proofs.YtkpakiiijphjeaaGreatDoor.St
open Go
section
variable {F : Fence} {n : Nat} {P : Program} {md : Region.Mode} {ops : Array Oper} {Q : Exit → Act → World → Prop} {S : (Nat → Bool) → (Nat → Value) → World → Prop} {C : Nat → Value → Prop}
end
end Go.Proofs.YtkpakiiijphjeaaGreatDoor.St

namespace Go.Proofs.YtkpakiiijphjeaaGreatDoor.Ro
open Go.RowKit
open Go.Proofs.YtkpakiiijphjeaaGreatDoor.M (tieT untieT intT numT inR untie_spec)
attribute [local go_sem] Oper.semAt_some
structure RB (W : World) (V0 V1 : Int) (L : Nat → Bool) (u : Nat → Value) (wx : World) : Prop where
  a : L 10 = false → Below W.heap.size W wx
  b : L 9 = true → L 10 = false → ∃ n : Nat, u 9 = .pointer (some ⟨n, 0, none⟩) ∧ W.heap.size ≤ n ∧ BoxL n Lg.zero (.slice none 0 0) wx
  c : L 10 = true → ∃ n : Nat, u 9 = .pointer (some ⟨n, 0, none⟩) ∧ W.heap.size ≤ n ∧ BoxL n ⟨V0, V1, []⟩ (.slice none 0 0) wx ∧ Below W.heap.size W wx
theorem RB.call {W wx w' : World} {V0 V1 : Int} {i : Nat} {L : Nat → Bool} {u : Nat → Value} {v : Value} (h : RB W V0 V1 L u wx) (h10 : L 10 = false) (hb : Below wx.heap.size wx w') (n9 : 9 ≠ i) (n10 : 10 ≠ i) : RB W V0 V1 (St.mark L i) (St.upd u i v) w' := by
  have h0 := h.a h10
  refine ⟨fun _ => h0.trans (hb.mono h0.size), fun h9 _ => ?_, fun h' => ?_⟩
  · rw [show St.mark L i 9 = L 9 by simp [St.mark, n9]] at h9
    obtain ⟨n, q0, q1, q2⟩ := h.b h9 h10
    exact ⟨n, by rw [show St.upd u i v 9 = u 9 by simp [St.upd, n9]]; exact q0, q1, q2.keep hb⟩
  · rw [show St.mark L i 10 = L 10 by simp [St.mark, n10], h10] at h'; cases h'
theorem RB.made {W wx : World} {V0 V1 : Int} {L : Nat → Bool} {u : Nat → Value} (h : RB W V0 V1 L u wx) (h10 : L 10 = false) : RB W V0 V1 (St.mark L 9) (St.upd u 9 (.pointer (some ⟨wx.heap.size, 0, none⟩))) (wx.alloc (.cells #[.int .i64 0, .int .i64 0, .slice none 0 0] 101)) := by
  have h0 := h.a h10
  refine ⟨fun _ => h0.alloc h0.size _, fun _ _ => ⟨wx.heap.size, by simp [St.upd], h0.size, BoxL.new wx Lg.zero (.slice none 0 0)⟩, fun h' => ?_⟩
  rw [show St.mark L 9 10 = L 10 from rfl, h10] at h'; cases h'
theorem RB.store {W wx : World} {V0 V1 : Int} {L : Nat → Bool} {u : Nat → Value} {n : Nat} (h : RB W V0 V1 L u wx) (hu : u 9 = .pointer (some ⟨n, 0, none⟩)) (h9 : L 9 = true) (h10 : L 10 = false) : RB W V0 V1 (St.mark L 10) (St.upd u 10 undef) (((wx.setCell ⟨n, 0, none⟩ (.int .i64 V0)).setCell ⟨n, 1, none⟩ (.int .i64 V1)).setCell ⟨n, 2, none⟩ (.slice none 0 0)) := by
  obtain ⟨n', q0, q1, q2⟩ := h.b h9 h10
  obtain rfl : n' = n := by
    have := q0.symm.trans hu
    injection this with e1
    injection e1 with e2
    injection e2
  refine ⟨fun h' => (by simp [St.mark] at h'), fun _ h' => (by simp [St.mark] at h'), fun _ => ⟨n', by rw [show St.upd u 10 undef 9 = u 9 from rfl]; exact hu, q1, q2.put ⟨V0, V1, []⟩ (.slice none 0 0), ?_⟩⟩
  exact (((h.a h10).setCell (p := ⟨n', 0, none⟩) q1 _).setCell (p := ⟨n', 1, none⟩) q1 _).setCell (p := ⟨n', 2, none⟩) q1 _
end Go.Proofs.YtkpakiiijphjeaaGreatDoor.Ro

namespace Go.Proofs.YtkpakiiijphjeaaGreatDoor.Ro
open Go.RowKit
open Go.Proofs.YtkpakiiijphjeaaGreatDoor.M (tieT untieT intT numT inR)
end Go.Proofs.YtkpakiiijphjeaaGreatDoor.Ro

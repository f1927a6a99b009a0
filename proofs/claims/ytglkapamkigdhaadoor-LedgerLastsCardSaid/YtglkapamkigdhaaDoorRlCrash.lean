/-
  What a crash leaves of one tape.
-/
import Derived.Test.YtglkapamkigdhaaDoorRlTape
import Derived.RegionTactic
import Derived.BigRegion
namespace Go.Proofs.YtglkapamkigdhaaDoor.Rl
open Go.RowKit

set_option maxHeartbeats 4000000 in
theorem t_crashA (b o : Nat) (ao : Option Addr) (l cap k : Nat) (keep : Int) (turn : Int) (w : World) (h0 : w.cell? ⟨b, o, none⟩ = some (.slice ao l cap)) (h1 : w.cell? ⟨b, o + 1, none⟩ = some (.int .i64 k))
    (hf0 : w.frozen? ⟨b, o, none⟩ = false) (hf1 : w.frozen? ⟨b, o + 1, none⟩ = false) (hn : k ≤ l) (hl : l ≤ cap) (hc : cap ≤ 9223372036854775807) (hao : ao = none → cap = 0)
    (hk : keep < 0) (_hk0 : -9223372036854775808 ≤ keep) :
    Calls Tryd.prog 30 #[.pointer (some ⟨b, o, none⟩), .int .i64 keep, .int .u8 turn] w fun e w' => e = .returned (.tuple #[]) ∧ Al w' ((w.setCell ⟨b, o, none⟩ (.slice ao k cap)).setCell ⟨b, o + 1, none⟩ (.int .i64 k)) := by
  rcases ao with _ | ⟨g, go, gs⟩
  · obtain rfl := hao rfl
    obtain rfl : l = 0 := by omega
    obtain rfl : k = 0 := by omega
    go_enter Tryd.func30, Tryd.ntmps30
    go_wp2
    go_region
    all_goals go_wp2
    all_goals go_region
    all_goals go_wp2_with fail
    all_goals
      refine (t_sync b o (none) 0 0 0 _ (by simp [go_sem, h0]) (by simp [go_sem, h1]) (by simp [go_sem, hf1])).mono ?_
      rintro e w1 ⟨rfl, rfl⟩
      go_wp2
      go_end0
      exact ⟨rfl, rfl, rfl, rfl, rfl⟩
  · go_enter Tryd.func30, Tryd.ntmps30
    go_wp2
    go_region
    all_goals go_wp2
    all_goals go_region
    all_goals go_wp2_with fail
    all_goals
      refine (t_sync b o (some ⟨g, go, gs⟩) k cap k _ (by simp [go_sem, h0]) (by simp [go_sem, h1]) (by simp [go_sem, hf1])).mono ?_
      rintro e w1 ⟨rfl, rfl⟩
      go_wp2
      go_end0
      exact ⟨rfl, rfl, rfl, rfl, rfl⟩

set_option maxHeartbeats 4000000 in
theorem t_crashZ (b o : Nat) (ao : Option Addr) (l cap k : Nat) (keep : Int) (turn : Int) (w : World) (h0 : w.cell? ⟨b, o, none⟩ = some (.slice ao l cap)) (h1 : w.cell? ⟨b, o + 1, none⟩ = some (.int .i64 k))
    (hf0 : w.frozen? ⟨b, o, none⟩ = false) (hf1 : w.frozen? ⟨b, o + 1, none⟩ = false) (hn : k ≤ l) (hl : l ≤ cap) (hc : cap ≤ 9223372036854775807) (hao : ao = none → cap = 0)
    (hk : keep = 0) :
    Calls Tryd.prog 30 #[.pointer (some ⟨b, o, none⟩), .int .i64 keep, .int .u8 turn] w fun e w' => e = .returned (.tuple #[]) ∧ Al w' ((w.setCell ⟨b, o, none⟩ (.slice ao k cap)).setCell ⟨b, o + 1, none⟩ (.int .i64 k)) := by
  subst hk
  rcases ao with _ | ⟨g, go, gs⟩
  · obtain rfl := hao rfl
    obtain rfl : l = 0 := by omega
    obtain rfl : k = 0 := by omega
    go_enter Tryd.func30, Tryd.ntmps30
    go_wp2
    go_region
    all_goals go_wp2
    all_goals go_region
    all_goals go_wp2_with fail
    all_goals
      refine (t_sync b o (none) 0 0 0 _ (by simp [go_sem, h0]) (by simp [go_sem, h1]) (by simp [go_sem, hf1])).mono ?_
      rintro e w1 ⟨rfl, rfl⟩
      go_wp2
      go_end0
      exact ⟨rfl, rfl, rfl, rfl, rfl⟩
  · go_enter Tryd.func30, Tryd.ntmps30
    go_wp2
    go_region
    all_goals go_wp2
    all_goals go_region
    all_goals go_wp2_with fail
    all_goals
      refine (t_sync b o (some ⟨g, go, gs⟩) k cap k _ (by simp [go_sem, h0]) (by simp [go_sem, h1]) (by simp [go_sem, hf1])).mono ?_
      rintro e w1 ⟨rfl, rfl⟩
      go_wp2
      go_end0
      exact ⟨rfl, rfl, rfl, rfl, rfl⟩

set_option maxHeartbeats 4000000 in
theorem t_crashE (b o : Nat) (ao : Option Addr) (l cap k : Nat) (keep : Int) (turn : Int) (w : World) (h0 : w.cell? ⟨b, o, none⟩ = some (.slice ao l cap)) (h1 : w.cell? ⟨b, o + 1, none⟩ = some (.int .i64 k))
    (hf0 : w.frozen? ⟨b, o, none⟩ = false) (hf1 : w.frozen? ⟨b, o + 1, none⟩ = false) (hn : k ≤ l) (hl : l ≤ cap) (hc : cap ≤ 9223372036854775807) (hao : ao = none → cap = 0)
    (hk : 0 < keep) (hkl : k = l) :
    Calls Tryd.prog 30 #[.pointer (some ⟨b, o, none⟩), .int .i64 keep, .int .u8 turn] w fun e w' => e = .returned (.tuple #[]) ∧ Al w' ((w.setCell ⟨b, o, none⟩ (.slice ao k cap)).setCell ⟨b, o + 1, none⟩ (.int .i64 k)) := by
  subst hkl
  rcases ao with _ | ⟨g, go, gs⟩
  · obtain rfl := hao rfl
    obtain rfl : k = 0 := by omega
    go_enter Tryd.func30, Tryd.ntmps30
    go_wp2
    go_region
    all_goals go_wp2
    all_goals go_region
    all_goals go_wp2_with fail
    all_goals
      refine (t_sync b o (none) 0 0 0 _ (by simp [go_sem, h0]) (by simp [go_sem, h1]) (by simp [go_sem, hf1])).mono ?_
      rintro e w1 ⟨rfl, rfl⟩
      go_wp2
      go_end0
      exact ⟨rfl, rfl, rfl, rfl, rfl⟩
  · go_enter Tryd.func30, Tryd.ntmps30
    go_wp2
    go_region
    all_goals go_wp2
    all_goals go_region
    all_goals go_wp2_with fail
    all_goals
      refine (t_sync b o (some ⟨g, go, gs⟩) k cap k _ (by simp [go_sem, h0]) (by simp [go_sem, h1]) (by simp [go_sem, hf1])).mono ?_
      rintro e w1 ⟨rfl, rfl⟩
      go_wp2
      go_end0
      exact ⟨rfl, rfl, rfl, rfl, rfl⟩

set_option maxHeartbeats 4000000 in
theorem t_crashB (b o g : Nat) (l cap k : Nat) (p : Nat) (turn : Int) (w : World) (h0 : w.cell? ⟨b, o, none⟩ = some (.slice (some ⟨g, 0, none⟩) l cap)) (h1 : w.cell? ⟨b, o + 1, none⟩ = some (.int .i64 k))
    (hf0 : w.frozen? ⟨b, o, none⟩ = false) (hf1 : w.frozen? ⟨b, o + 1, none⟩ = false) (hl : l ≤ cap) (hc : cap ≤ 9223372036854775807)
    (hp : k + p + 1 ≤ l) (hg : g ≠ b) (x : Int) (hx : w.cell? ⟨g, k + p, none⟩ = some (.int .u8 x)) (hfx : w.frozen? ⟨g, k + p, none⟩ = false) :
    Calls Tryd.prog 30 #[.pointer (some ⟨b, o, none⟩), .int .i64 (p + 1 : Nat), .int .u8 turn] w fun e w' => e = .returned (.tuple #[]) ∧ Al w' (((w.setCell ⟨b, o, none⟩ (.slice (some ⟨g, 0, none⟩) (k + (p + 1)) cap)).setCell ⟨g, (k + p), none⟩ (.int .u8 (bits .xor .u8 x turn))).setCell ⟨b, o + 1, none⟩ (.int .i64 ((k + (p + 1)) : Nat))) := by
    go_enter Tryd.func30, Tryd.ntmps30
    go_wp2
    go_region
    all_goals go_wp2
    all_goals go_region
    all_goals go_wp2
    all_goals go_region
    all_goals go_wp2_with fail
    all_goals
      refine (t_sync b o (some ⟨g, 0, none⟩) (k + (p + 1)) cap k _ (by simp [go_sem, h0]) (by simp [go_sem, h1]) (by simp [go_sem, hf1])).mono ?_
      rintro e w1 ⟨rfl, rfl⟩
      go_wp2
      go_end0
      exact ⟨rfl, rfl, rfl, rfl, rfl⟩

set_option maxHeartbeats 4000000 in
theorem t_crashC (b o g : Nat) (l cap k q : Nat) (keep : Int) (turn : Int) (w : World) (h0 : w.cell? ⟨b, o, none⟩ = some (.slice (some ⟨g, 0, none⟩) l cap)) (h1 : w.cell? ⟨b, o + 1, none⟩ = some (.int .i64 k))
    (hf0 : w.frozen? ⟨b, o, none⟩ = false) (hf1 : w.frozen? ⟨b, o + 1, none⟩ = false) (hl : l ≤ cap) (hc : cap ≤ 9223372036854775807)
    (hp : l = q + 1) (hk : k ≤ q) (hkeep : (l : Int) - k < keep) (hkh : keep ≤ 9223372036854775807) (hg : g ≠ b) (x : Int) (hx : w.cell? ⟨g, k + (q + 1 - k) - 1, none⟩ = some (.int .u8 x)) (hfx : w.frozen? ⟨g, k + (q + 1 - k) - 1, none⟩ = false) :
    Calls Tryd.prog 30 #[.pointer (some ⟨b, o, none⟩), .int .i64 keep, .int .u8 turn] w fun e w' => e = .returned (.tuple #[]) ∧ Al w' (((w.setCell ⟨b, o, none⟩ (.slice (some ⟨g, 0, none⟩) (k + (q + 1 - k)) cap)).setCell ⟨g, (k + (q + 1 - k) - 1), none⟩ (.int .u8 (bits .xor .u8 x turn))).setCell ⟨b, o + 1, none⟩ (.int .i64 ((k + (q + 1 - k)) : Nat))) := by
    subst hp
    go_enter Tryd.func30, Tryd.ntmps30
    go_wp2
    go_region
    all_goals go_wp2
    all_goals go_region
    all_goals go_wp2
    all_goals go_region
    all_goals go_wp2_with fail
    all_goals
      refine (t_sync b o (some ⟨g, 0, none⟩) (k + (q + 1 - k)) cap k _ (by simp [go_sem, h0]) (by simp [go_sem, h1]) (by simp [go_sem, hf1])).mono ?_
      rintro e w1 ⟨rfl, rfl⟩
      go_wp2
      go_end0
      exact ⟨rfl, rfl, rfl, rfl, rfl⟩

end Go.Proofs.YtglkapamkigdhaaDoor.Rl

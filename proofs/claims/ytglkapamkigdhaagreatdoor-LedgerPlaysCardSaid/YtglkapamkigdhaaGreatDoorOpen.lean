/-
  knot.Open and the document's answer to it, at every text. Condition: lengths below 2^47.
-/
import Derived.Test.YtglkapamkigdhaaGreatDoorSeal
import Derived.RegionTactic
import Derived.ChangeAlike
import Derived.Deep.RegionHeld3
import Derived.Deep.DrawnRows
import Derived.Deep.QuietTactic
import Derived.BigQuiet
namespace Go.Proofs.YtglkapamkigdhaaGreatDoor
open Go.RowKit M
attribute [local go_sem ↓] Go.wp_at_zero Go.wp_at_succ

theorem below_of_drew {B : Nat} {w w1 : World} (h : Below B w.drew w1) : Below B w w1 := ⟨h.os, h.tape, h.output, h.size, h.block⟩

/-- what both hand back -/
def openR : Option Text → Value
  | some x => .tuple #[str x, .int .i64 0]
  | none => .tuple #[str [], .int .i64 11]

theorem open_short (s : ByteArray) (h : s.size < 8) : openT s.data.toList = none := by
  unfold openT; rw [if_neg]; rintro ⟨h1, _⟩; simp at h1; omega
theorem open_eq (s p : ByteArray) (h : sealT p.data.toList = s.data.toList) : openT s.data.toList = some p.data.toList := by
  rw [← h]; exact open_seal _
theorem open_ne (s p : ByteArray) (hp : p.data.toList = s.data.toList.take (s.size - 8)) (h : sealT p.data.toList ≠ s.data.toList) : openT s.data.toList = none := by
  unfold openT; rw [if_neg]; rintro ⟨_, h2⟩
  rw [show s.data.toList.length = s.size by simp, ← hp] at h2
  exact h h2
theorem beq_yes {l : Text} {s : ByteArray} (h : l = s.data.toList) : (l == s.toList) = true := by rw [ByteArray.toList_eq, h]; simp
theorem beq_no {l : Text} {s : ByteArray} (h : l ≠ s.data.toList) : (l == s.toList) = false := by rw [ByteArray.toList_eq]; simpa using h

set_option maxHeartbeats 1000000 in
set_option maxRecDepth 100000 in
theorem ropen_any (s : ByteArray) (w : World) (hs : s.size ≤ 140737488355328) :
    Calls Tryz.prog 68 #[.string s] w fun e w' => e = .returned (openR (openT s.data.toList)) ∧ w = w' := by
  by_cases h8 : s.size < 8
  · rw [open_short s h8]
    go_enter Tryz.func68, Tryz.ntmps68
    go_wp2
    go_ret2
    exact ⟨rfl, rfl⟩
  · obtain ⟨p, hp⟩ : ∃ p, s.extract 0 (s.size - 8) = p := ⟨_, rfl⟩
    have hpd : p.data.toList = s.data.toList.take (s.size - 8) := by rw [← hp, take_data]
    have hps : p.size ≤ 140737488355328 := by rw [← hp, ByteArray.size_extract]; omega
    have hcon := fun w => rseal_any p w hps
    obtain ⟨n, hn⟩ : ∃ n : Nat, s.size = n + 8 := ⟨s.size - 8, by omega⟩
    have hx : s.extract 0 n = p := by rw [← hp]; congr 1; omega
    by_cases h : sealT p.data.toList = s.data.toList
    · rw [open_eq s p h]
      have hb := beq_yes h
      clear hpd h hp
      go_enter Tryz.func68, Tryz.ntmps68
      go_wp2_with (go_at_call 53; refine (hcon _).mono ?_; rintro e w' ⟨rfl, rfl⟩)
      go_ret2
      exact ⟨rfl, rfl⟩
    · rw [open_ne s p hpd h]
      have hb := beq_no h
      clear hpd h hp
      go_enter Tryz.func68, Tryz.ntmps68
      go_wp2_with (go_at_call 53; refine (hcon _).mono ?_; rintro e w' ⟨rfl, rfl⟩)
      go_ret2
      exact ⟨rfl, rfl⟩

set_option maxHeartbeats 1000000 in
set_option maxRecDepth 100000 in
theorem open_any (s : ByteArray) (w : World) (hs : s.size ≤ 140737488355328) :
    Calls Tryz.prog 83 #[.string s] w fun e w' => e = .returned (openR (openT s.data.toList)) ∧ Below w.heap.size w w' := by
  by_cases h8 : s.size < 8
  · rw [open_short s h8]
    have hneg : (s.size : Int) - 8 < 0 := by omega
    have hd : decide ((s.size : Int) - 8 < 0) = true := by simpa using hneg
    go_enter Tryz.func83, Tryz.ntmps83
    go_wp2
    go_quiet (fail)
    go_wp2
    go_ret2
    exact ⟨rfl, below_drewN (Below.refl _ w) _⟩
  · obtain ⟨p, hp⟩ : ∃ p, s.extract 0 (s.size - 8) = p := ⟨_, rfl⟩
    have hpd : p.data.toList = s.data.toList.take (s.size - 8) := by rw [← hp, take_data]
    have hps : p.size ≤ 140737488355328 := by rw [← hp, ByteArray.size_extract]; omega
    have hc1 := fun w => sum_any p w (by omega)
    have hc2 := fun w => hex_any (sumT p.data.toList) w (sumT_lt _)
    obtain ⟨n, hn⟩ : ∃ n : Nat, s.size = n + 8 := ⟨s.size - 8, by omega⟩
    have hx : s.extract 0 n = p := by rw [← hp]; congr 1; omega
    have hi1 : (0 : Int) ≤ (n : Int) := by omega
    have hi2 : (n : Int) ≤ (s.size : Int) := by omega
    have hi3 : (n : Int) ≤ (n : Int) + 8 := by omega
    obtain ⟨q, hq⟩ : ∃ q, s.extract n s.size = q := ⟨_, rfl⟩
    have hq2 : s.extract n (n + 8) = q := by rw [← hq, hn]
    have hsq : s.data.toList = p.data.toList ++ q.data.toList := by rw [← hx, ← hq, cut_again]
    by_cases h : sealT p.data.toList = s.data.toList
    · rw [open_eq s p h]
      have hb : (q.toList == hexT 8 (sumT p.data.toList)) = true := by
        rw [ByteArray.toList_eq]
        unfold sealT at h
        rw [hsq] at h
        simpa using (List.append_cancel_left h).symm
      clear hpd hp h hsq
      go_enter Tryz.func83, Tryz.ntmps83
      go_wp2
      go_region_held3 (fun _ => True) (trivial) ((first
        | (go_at_call 81; refine (hc1 _).mono ?_; rintro e w' ⟨rfl, rfl⟩)
        | (go_at_call 80; refine (hc2 _).mono ?_; rintro e w1 ⟨rfl, hb1⟩)))
      all_goals (go_wp2; go_ret2; exact ⟨rfl, below_of_drew hb1⟩)
    · rw [open_ne s p hpd h]
      have hb : (q.toList == hexT 8 (sumT p.data.toList)) = false := by
        rw [ByteArray.toList_eq]
        unfold sealT at h
        rw [hsq] at h
        simpa using fun e => h (by rw [e])
      clear hpd hp h hsq
      go_enter Tryz.func83, Tryz.ntmps83
      go_wp2
      go_region_held3 (fun _ => True) (trivial) ((first
        | (go_at_call 81; refine (hc1 _).mono ?_; rintro e w' ⟨rfl, rfl⟩)
        | (go_at_call 80; refine (hc2 _).mono ?_; rintro e w1 ⟨rfl, hb1⟩)))
      all_goals (go_wp2; go_ret2; exact ⟨rfl, below_of_drew hb1⟩)

end Go.Proofs.YtglkapamkigdhaaGreatDoor

/-
  What every walk of this seat leans on: bounds as values, texts and results, the world behind a call that makes memory. No condition.
  The program's and the document's answers on keys and bounds: whether they may be, what lies in them. Condition: lengths below 2^63.
  The program's answers on two bounds: Meet, Inside, Next. Condition: lengths at most 2^47.
  The document's answers on keys and bounds: Key, Is, Has, Meet, Inside, Next; the laws' own small and num. Condition: lengths at most 2^47.
  Cut and Join, the program's and the document's. Condition: lengths at most 2^47.
  Cut and Join of the document. Condition: lengths at most 2^47.
-/
import Derived.Test.YtkpakiiijphjeaaGreatDoorProg
import Derived.Test.YtkpakiiijphjeaaGreatDoorPOrdA
import Derived.Tactics
import Derived.Tactics2
import Derived.WalkKit
import Derived.WalkLawsBesides
import Derived.BigCall
import Derived.Lib.Hide
import Derived.KernelRfl
import Derived.RegionTactic
import Derived.ChangeAlike
namespace Go.Proofs.YtkpakiiijphjeaaGreatDoor.Bnd
open Go.RowKit O
theorem ret_bool {a b : Bool} (h : a = b) : Ending.returned (.bool a) = .returned (.bool b) := by rw [h]
theorem ret_int {k : IntKind} {a b : Int} (h : a = b) : Ending.returned (.int k a) = .returned (.int k b) := by rw [h]
theorem bytes_ext {a b : ByteArray} (h : a.toList = b.toList) : a = b := by
  rw [ByteArray.toList_eq, ByteArray.toList_eq] at h
  obtain ⟨⟨x⟩⟩ := a
  obtain ⟨⟨y⟩⟩ := b
  have h : x = y := h
  rw [h]
abbrev bd (f t : ByteArray) : Value := .agg #[.string f, .string t]
abbrev B (f t : ByteArray) : Bd := ⟨f.toList, t.toList⟩
theorem size_toList (s : ByteArray) : s.toList.length = s.size := by rw [ByteArray.toList_eq]; simp
theorem empty_of {s : ByteArray} (h : s.toList = []) : s = ⟨#[]⟩ := bytes_ext (by rw [h, ByteArray.toList_eq])
theorem isEmpty_no {s : ByteArray} (h : ¬ s.toList = []) : s.toList.isEmpty = false := by
  cases e : s.toList with
  | nil => exact absurd e h
  | cons c l => rfl
theorem bcell {W w1 : World} (hb : Below W.heap.size W w1) : (∀ b o, b < W.heap.size → w1.cell? ⟨b, o, none⟩ = W.cell? ⟨b, o, none⟩) ∧ (∀ b o, b < W.heap.size → w1.frozen? ⟨b, o, none⟩ = W.frozen? ⟨b, o, none⟩) :=
  ⟨fun b o h => hb.cell (p := ⟨b, o, none⟩) h, fun b o h => hb.frozen (p := ⟨b, o, none⟩) h⟩
end Go.Proofs.YtkpakiiijphjeaaGreatDoor.Bnd

namespace Go.Proofs.YtkpakiiijphjeaaGreatDoor.Bnd
open Go.RowKit O
def belowB (k t : Text) : Bool := decide (t = []) || lt k t
set_option maxHeartbeats 400000 in
theorem below_any (k t : ByteArray) (w : World) : Calls Tryz.prog 120 #[.string k, .string t] w fun e w' => e = .returned (.bool (belowB k.toList t.toList)) ∧ w = w' := by
  by_cases h : t.toList = []
  · have hr : belowB k.toList t.toList = true := by simp [belowB, h]
    rw [hr]
    clear hr
    obtain rfl := empty_of h
    clear h
    go_enter Tryz.func120, Tryz.ntmps120
    go_wp2_with fail
    go_ret
    exact ⟨rfl, rfl⟩
  · have hr : belowB k.toList t.toList = lt k.toList t.toList := by simp [belowB, h]
    rw [hr]
    have h1 := isEmpty_no h
    clear h hr
    go_enter Tryz.func120, Tryz.ntmps120
    go_wp2_with fail
    go_ret
    exact ⟨rfl, rfl⟩
def chk (b : Bd) : Int := if isB b = true then 0 else 20
def keyE (k : Text) : Int := if keyB k = true then 0 else 20
theorem isB_parts (f t : ByteArray) : isB (B f t) = (decide (f.size ≤ 33) && decide (t.size ≤ 33) && belowB f.toList t.toList) := by
  simp only [isB, size_toList, belowB]
set_option maxHeartbeats 1000000 in
theorem check_any (f t : ByteArray) (w : World) (hf : f.size ≤ 140737488355328) (ht : t.size ≤ 140737488355328) :
    Calls Tryz.prog 109 #[bd f t] w fun e w' => e = .returned (.int .i64 (chk (B f t))) ∧ Below w.heap.size w w' := by
  have hc : chk (B f t) = if isB (B f t) = true then 0 else 20 := rfl
  rw [isB_parts] at hc
  have cb := below_any f t
  by_cases h1 : f.size ≤ 33
  · by_cases h2 : t.size ≤ 33
    · cases hb : belowB f.toList t.toList with
      | false =>
        rw [hb] at cb hc
        have hc : chk (B f t) = 20 := by rw [hc]; simp
        rw [hc]
        clear hc hb
        go_enter Tryz.func109, Tryz.ntmps109
        go_wp2_with fail
        refine (cb _).mono ?_
        rintro e w' ⟨rfl, rfl⟩
        go_wp2_with fail
        go_ret
        exact ⟨rfl, (Below.refl _ _).alloc (Nat.le_refl _) _⟩
      | true =>
        rw [hb] at cb hc
        have hc : chk (B f t) = 0 := by rw [hc]; simp [h1, h2]
        rw [hc]
        clear hc hb
        go_enter Tryz.func109, Tryz.ntmps109
        go_wp2_with fail
        refine (cb _).mono ?_
        rintro e w' ⟨rfl, rfl⟩
        go_wp2_with fail
        go_ret
        exact ⟨rfl, (Below.refl _ _).alloc (Nat.le_refl _) _⟩
    · have hc : chk (B f t) = 20 := by rw [hc]; simp [h2]
      rw [hc]
      clear hc
      go_enter Tryz.func109, Tryz.ntmps109
      go_wp2_with fail
      go_ret
      exact ⟨rfl, (Below.refl _ _).alloc (Nat.le_refl _) _⟩
  · have hc : chk (B f t) = 20 := by rw [hc]; simp [h1]
    rw [hc]
    clear hc
    go_enter Tryz.func109, Tryz.ntmps109
    go_wp2_with fail
    go_ret
    exact ⟨rfl, (Below.refl _ _).alloc (Nat.le_refl _) _⟩
set_option maxHeartbeats 400000 in
theorem key_any (k : ByteArray) (w : World) (hk : k.size ≤ 140737488355328) :
    Calls Tryz.prog 106 #[.string k] w fun e w' => e = .returned (.int .i64 (keyE k.toList)) ∧ w = w' := by
  have hc : keyE k.toList = if keyB k.toList = true then 0 else 20 := rfl
  by_cases h : k.toList = []
  · have hc : keyE k.toList = 20 := by rw [hc]; simp [keyB, h]
    rw [hc]
    clear hc
    obtain rfl := empty_of h
    clear h
    go_enter Tryz.func106, Tryz.ntmps106
    go_wp2_with fail
    go_ret
    exact ⟨rfl, rfl⟩
  · have h1 := isEmpty_no h
    have h0 : 1 ≤ k.size := by
      rw [← size_toList]
      cases e : k.toList with
      | nil => exact absurd e h
      | cons c l => simp
    by_cases h2 : k.size ≤ 32
    · have hc : keyE k.toList = 0 := by rw [hc]; simp [keyB, size_toList, h0, h2]
      rw [hc]
      clear hc h
      go_enter Tryz.func106, Tryz.ntmps106
      go_wp2_with fail
      go_ret
      exact ⟨rfl, rfl⟩
    · have hc : keyE k.toList = 20 := by rw [hc]; simp [keyB, size_toList, h2]
      rw [hc]
      clear hc h
      go_enter Tryz.func106, Tryz.ntmps106
      go_wp2_with fail
      go_ret
      exact ⟨rfl, rfl⟩
end Go.Proofs.YtkpakiiijphjeaaGreatDoor.Bnd

namespace Go.Proofs.YtkpakiiijphjeaaGreatDoor.Bnd
open Go.RowKit O
variable (f t g u : ByteArray) (w : World) (hf : f.size ≤ 140737488355328) (ht : t.size ≤ 140737488355328) (hg : g.size ≤ 140737488355328) (hu : u.size ≤ 140737488355328)
include hf ht hg hu
end Go.Proofs.YtkpakiiijphjeaaGreatDoor.Bnd

namespace Go.Proofs.YtkpakiiijphjeaaGreatDoor.Bnd
open Go.RowKit O
section
variable (f t g u : ByteArray) (w : World) (hf : f.size ≤ 140737488355328) (ht : t.size ≤ 140737488355328) (hg : g.size ≤ 140737488355328) (hu : u.size ≤ 140737488355328)
include hf ht hg hu
end
end Go.Proofs.YtkpakiiijphjeaaGreatDoor.Bnd

namespace Go.Proofs.YtkpakiiijphjeaaGreatDoor.Bnd
open Go.RowKit O
end Go.Proofs.YtkpakiiijphjeaaGreatDoor.Bnd

namespace Go.Proofs.YtkpakiiijphjeaaGreatDoor.Bnd
open Go.RowKit O
end Go.Proofs.YtkpakiiijphjeaaGreatDoor.Bnd

/-
  What every walk of this seat leans on: bounds as values,texts and results,the world behind a call that makes memory. No condition.
  The program's and the document's answers on keys and bounds: whether they may be,what lies in them. Condition: lengths below 2^63.
  The program's answers on two bounds: Meet,Inside,Next. Condition: lengths at most 2^47.
  The document's answers on keys and bounds: Key,Is,Has,Meet,Inside,Next; the laws' own small and num. Condition: lengths at most 2^47.
  Cut and Join,the program's and the document's. Condition: lengths at most 2^47.
  Cut and Join of the document. Condition: lengths at most 2^47.
-/
import Derived.Test.YthcmnkmfhgoddaaGreatDoorProg
import Derived.Test.YthcmnkmfhgoddaaGreatDoorVOrdA
import Derived.Tactics
import Derived.Tactics2
import Derived.WalkKit
import Derived.WalkLawsBesides
import Derived.BigCall
import Derived.Lib.Hide
import Derived.KernelRfl
import Derived.RegionTactic
import Derived.ChangeAlike
namespace Go.Proofs.YthcmnkmfhgoddaaGreatDoor.Bnd
open Go.RowKit O
theorem ret_bool {a b : Bool} (h : a = b) : Ending.returned (.bool a) = .returned (.bool b):=by rw [h]
theorem ret_int {k : IntKind} {a b : Int} (h : a = b) : Ending.returned (.int k a) = .returned (.int k b):=by rw [h]
theorem bytes_ext {a b : ByteArray} (h : a.toList = b.toList) : a = b:=by
 rw [ByteArray.toList_eq,ByteArray.toList_eq] at h
 obtain ⟨⟨x⟩⟩:=a
 obtain ⟨⟨y⟩⟩:=b
 have h : x = y:=h
 rw [h]
abbrev bd (f t : ByteArray) : Value:=.agg #[.string f,.string t]
abbrev B (f t : ByteArray) : Bd:=⟨f.toList,t.toList⟩
theorem size_toList (s : ByteArray) : s.toList.length = s.size:=by rw [ByteArray.toList_eq]; simp
theorem empty_of {s : ByteArray} (h : s.toList = []) : s = ⟨#[]⟩:=bytes_ext (by rw [h,ByteArray.toList_eq])
theorem isEmpty_no {s : ByteArray} (h : ¬ s.toList = []) : s.toList.isEmpty = false:=by
 cases e : s.toList with
 | nil => exact absurd e h
 | cons c l => rfl
theorem bcell {W w1 : World} (hb : Below W.heap.size W w1) : (∀ b o,b < W.heap.size -> w1.cell? ⟨b,o,none⟩ = W.cell? ⟨b,o,none⟩) /\ (∀ b o,b < W.heap.size -> w1.frozen? ⟨b,o,none⟩ = W.frozen? ⟨b,o,none⟩) :=
 ⟨fun b o h => hb.cell (p:=⟨b,o,none⟩) h,fun b o h => hb.frozen (p:=⟨b,o,none⟩) h⟩
end Go.Proofs.YthcmnkmfhgoddaaGreatDoor.Bnd

namespace Go.Proofs.YthcmnkmfhgoddaaGreatDoor.Bnd
open Go.RowKit O
def belowB (k t : Text) : Bool:=decide (t = []) || lt k t
set_option maxHeartbeats 400000 in
theorem below_any (k t : ByteArray) (w : World) : Calls Tryz.prog 225 #[.string k,.string t] w fun e w' => e = .returned (.bool (belowB k.toList t.toList)) /\ w = w':=by
 by_cases h : t.toList = []
 ·have hr : belowB k.toList t.toList = true:=by simp [belowB,h]
  rw [hr]
  clear hr
  obtain rfl:=empty_of h
  clear h
  go_enter Tryz.func225,Tryz.ntmps225
  go_wp2_with fail
  go_ret
  exact ⟨rfl,rfl⟩
 ·have hr : belowB k.toList t.toList = lt k.toList t.toList:=by simp [belowB,h]
  rw [hr]
  have h1:=isEmpty_no h
  clear h hr
  go_enter Tryz.func225,Tryz.ntmps225
  go_wp2_with fail
  go_ret
  exact ⟨rfl,rfl⟩
def chk (b : Bd) : Int:=if isB b = true then 0 else 20
def keyE (k : Text) : Int:=if keyB k = true then 0 else 20
theorem isB_parts (f t : ByteArray) : isB (B f t) = (decide (f.size <= 33) && decide (t.size <= 33) && belowB f.toList t.toList):=by
 simp only [isB,size_toList,belowB]
set_option maxHeartbeats 1000000 in
theorem check_any (f t : ByteArray) (w : World) (hf : f.size <= 140737488355328) (ht : t.size <= 140737488355328) :
  Calls Tryz.prog 159 #[bd f t] w fun e w' => e = .returned (.int .i64 (chk (B f t))) /\ Below w.heap.size w w':=by
 have hc : chk (B f t) = if isB (B f t) = true then 0 else 20:=rfl
 rw [isB_parts] at hc
 have cb:=below_any f t
 by_cases h1 : f.size <= 33
 ·by_cases h2 : t.size <= 33
  ·cases hb : belowB f.toList t.toList with
   | false =>
    rw [hb] at cb hc
    have hc : chk (B f t) = 20:=by rw [hc]; simp
    rw [hc]
    clear hc hb
    go_enter Tryz.func159,Tryz.ntmps159
    go_wp2_with fail
    refine (cb _).mono ?_
    rintro e w' ⟨rfl,rfl⟩
    go_wp2_with fail
    go_ret
    exact ⟨rfl,(Below.refl _ _).alloc (Nat.le_refl _) _⟩
   | true =>
    rw [hb] at cb hc
    have hc : chk (B f t) = 0:=by rw [hc]; simp [h1,h2]
    rw [hc]
    clear hc hb
    go_enter Tryz.func159,Tryz.ntmps159
    go_wp2_with fail
    refine (cb _).mono ?_
    rintro e w' ⟨rfl,rfl⟩
    go_wp2_with fail
    go_ret
    exact ⟨rfl,(Below.refl _ _).alloc (Nat.le_refl _) _⟩
  ·have hc : chk (B f t) = 20:=by rw [hc]; simp [h2]
   rw [hc]
   clear hc
   go_enter Tryz.func159,Tryz.ntmps159
   go_wp2_with fail
   go_ret
   exact ⟨rfl,(Below.refl _ _).alloc (Nat.le_refl _) _⟩
 ·have hc : chk (B f t) = 20:=by rw [hc]; simp [h1]
  rw [hc]
  clear hc
  go_enter Tryz.func159,Tryz.ntmps159
  go_wp2_with fail
  go_ret
  exact ⟨rfl,(Below.refl _ _).alloc (Nat.le_refl _) _⟩
set_option maxHeartbeats 400000 in
theorem key_any (k : ByteArray) (w : World) (hk : k.size <= 140737488355328) :
  Calls Tryz.prog 162 #[.string k] w fun e w' => e = .returned (.int .i64 (keyE k.toList)) /\ w = w':=by
 have hc : keyE k.toList = if keyB k.toList = true then 0 else 20:=rfl
 by_cases h : k.toList = []
 ·have hc : keyE k.toList = 20:=by rw [hc]; simp [keyB,h]
  rw [hc]
  clear hc
  obtain rfl:=empty_of h
  clear h
  go_enter Tryz.func162,Tryz.ntmps162
  go_wp2_with fail
  go_ret
  exact ⟨rfl,rfl⟩
 ·have h1:=isEmpty_no h
  have h0 : 1 <= k.size:=by
   rw [<- size_toList]
   cases e : k.toList with
   | nil => exact absurd e h
   | cons c l => simp
  by_cases h2 : k.size <= 32
  ·have hc : keyE k.toList = 0:=by rw [hc]; simp [keyB,size_toList,h0,h2]
   rw [hc]
   clear hc h
   go_enter Tryz.func162,Tryz.ntmps162
   go_wp2_with fail
   go_ret
   exact ⟨rfl,rfl⟩
  ·have hc : keyE k.toList = 20:=by rw [hc]; simp [keyB,size_toList,h2]
   rw [hc]
   clear hc h
   go_enter Tryz.func162,Tryz.ntmps162
   go_wp2_with fail
   go_ret
   exact ⟨rfl,rfl⟩
theorem hasB_parts (f t k : ByteArray) : hasB (B f t) k.toList = (!lt k.toList f.toList && belowB k.toList t.toList):=rfl
set_option maxHeartbeats 1000000 in
theorem has_any (f t k : ByteArray) (w : World) :
  Calls Tryz.prog 150 #[bd f t,.string k] w fun e w' => e = .returned (.bool (hasB (B f t) k.toList)) /\ Below w.heap.size w w':=by
 rw [hasB_parts]
 have cb:=below_any k t
 cases h1 : lt k.toList f.toList with
 | true =>
  go_enter Tryz.func150,Tryz.ntmps150
  go_wp2_with fail
  go_ret
  exact ⟨rfl,(Below.refl _ _).alloc (Nat.le_refl _) _⟩
 | false =>
  go_enter Tryz.func150,Tryz.ntmps150
  go_wp2_with fail
  refine (cb _).mono ?_
  rintro e w' ⟨rfl,rfl⟩
  go_wp2_with fail
  go_ret
  exact ⟨rfl,(Below.refl _ _).alloc (Nat.le_refl _) _⟩
end Go.Proofs.YthcmnkmfhgoddaaGreatDoor.Bnd

namespace Go.Proofs.YthcmnkmfhgoddaaGreatDoor.Bnd
open Go.RowKit O
variable (f t g u : ByteArray) (w : World) (hf : f.size <= 140737488355328) (ht : t.size <= 140737488355328) (hg : g.size <= 140737488355328) (hu : u.size <= 140737488355328)
include hf ht hg hu
end Go.Proofs.YthcmnkmfhgoddaaGreatDoor.Bnd

namespace Go.Proofs.YthcmnkmfhgoddaaGreatDoor.Bnd
open Go.RowKit O
set_option maxHeartbeats 400000 in
theorem rkey_any (k : ByteArray) (w : World) (hk : k.size <= 140737488355328) : Calls Tryz.prog 50 #[.string k] w fun e w' => e = .returned (.bool (keyB k.toList)) /\ w = w':=by
 have hr : keyB k.toList = (decide (1 <= k.size) && decide (k.size <= 32)):=by simp [keyB,size_toList]
 rw [hr]; clear hr
 by_cases h1 : 1 <= k.size
 ·go_enter Tryz.func50,Tryz.ntmps50
  go_wp2_with fail
  go_ret
  exact ⟨ret_bool (by rw [Bool.eq_iff_iff]; simp; omega),rfl⟩
 ·go_enter Tryz.func50,Tryz.ntmps50
  go_wp2_with fail
  go_ret
  exact ⟨ret_bool (by simp),rfl⟩
set_option maxHeartbeats 400000 in
theorem ris_any (f t : ByteArray) (w : World) (hf : f.size <= 140737488355328) (ht : t.size <= 140737488355328) :
  Calls Tryz.prog 38 #[bd f t] w fun e w' => e = .returned (.bool (isB (B f t))) /\ Below w.heap.size w w':=by
 rw [isB_parts]
 by_cases h1 : f.size <= 33
 ·by_cases h2 : t.size <= 33
  ·by_cases h3 : t.toList = []
   ·obtain rfl:=empty_of h3
    clear h3
    go_enter Tryz.func38,Tryz.ntmps38
    go_wp2_with fail
    go_ret
    exact ⟨ret_bool (by simp [h1,belowB]; exact h2),(Below.refl _ _).alloc (Nat.le_refl _) _⟩
   ·have n3:=isEmpty_no h3
    have H3:=Lib.hid h3
    have e3 : (f.toList == t.toList) = true -> lt f.toList t.toList = false:=by
     intro h; rw [beq_iff_eq] at h; rw [h,lt_irrefl]
    have E3:=Lib.hid e3
    clear h3 e3
    go_enter Tryz.func38,Tryz.ntmps38
    go_wp2_with fail
    go_ret
    refine ⟨ret_bool ?_,(Below.refl _ _).alloc (Nat.le_refl _) _⟩
    simp only [h1,h2,decide_true,Bool.true_and,belowB,H3.out,decide_false,Bool.false_or]
    rcases lt_tri f.toList t.toList with h | h | h
    ·rw [h]; simp [lt_asymm h]; rintro e; rw [e,lt_irrefl] at h; cases h
    ·rw [h,lt_irrefl]; simp
    ·rw [lt_asymm h]; simp [h]
  ·go_enter Tryz.func38,Tryz.ntmps38
   go_wp2_with fail
   go_ret
   exact ⟨ret_bool (by simp),(Below.refl _ _).alloc (Nat.le_refl _) _⟩
 ·go_enter Tryz.func38,Tryz.ntmps38
  go_wp2_with fail
  go_ret
  exact ⟨ret_bool (by simp),(Below.refl _ _).alloc (Nat.le_refl _) _⟩
set_option maxHeartbeats 400000 in
theorem rhas_any (f t k : ByteArray) (w : World) :
  Calls Tryz.prog 20 #[bd f t,.string k] w fun e w' => e = .returned (.bool (hasB (B f t) k.toList)) /\ Below w.heap.size w w':=by
 rw [hasB_parts]
 cases h1 : lt k.toList f.toList with
 | true =>
  go_enter Tryz.func20,Tryz.ntmps20
  go_wp2_with fail
  go_ret
  exact ⟨rfl,(Below.refl _ _).alloc (Nat.le_refl _) _⟩
 | false =>
  by_cases h3 : t.toList = []
  ·obtain rfl:=empty_of h3
   clear h3
   go_enter Tryz.func20,Tryz.ntmps20
   go_wp2_with fail
   go_ret
   exact ⟨ret_bool (by simp [belowB]),(Below.refl _ _).alloc (Nat.le_refl _) _⟩
  ·have n3:=isEmpty_no h3
   have H3:=Lib.hid h3
   clear h3
   go_enter Tryz.func20,Tryz.ntmps20
   go_wp2_with fail
   go_ret
   exact ⟨ret_bool (by simp [belowB,H3.out]),(Below.refl _ _).alloc (Nat.le_refl _) _⟩
section
variable (f t g u : ByteArray) (w : World) (hf : f.size <= 140737488355328) (ht : t.size <= 140737488355328) (hg : g.size <= 140737488355328) (hu : u.size <= 140737488355328)
include hf ht hg hu
end
end Go.Proofs.YthcmnkmfhgoddaaGreatDoor.Bnd

namespace Go.Proofs.YthcmnkmfhgoddaaGreatDoor.Bnd
open Go.RowKit O
abbrev E0 : ByteArray:=⟨#[]⟩
end Go.Proofs.YthcmnkmfhgoddaaGreatDoor.Bnd

namespace Go.Proofs.YthcmnkmfhgoddaaGreatDoor.Bnd
open Go.RowKit O
end Go.Proofs.YthcmnkmfhgoddaaGreatDoor.Bnd

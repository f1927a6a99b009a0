/-
  The document's own word on whether an order may be. Conditions: lengths at most 2^47.
  The document's own word on whether an order may be: kinds 0,1,3,8,6. Conditions: lengths at most 2^47.
  The document's own word on whether an order may be: kinds 12,2,4. Conditions: lengths at most 2^47.
-/
import Derived.Test.YthcmnkmfhgoddaaGreatDoorVOdPCA
import Derived.Test.YthcmnkmfhgoddaaGreatDoorVDsRPA
import Derived.Test.YthcmnkmfhgoddaaGreatDoorVBndLevel
namespace Go.Proofs.YthcmnkmfhgoddaaGreatDoor.Od
open Go.RowKit Bnd
open Go.Proofs.YthcmnkmfhgoddaaGreatDoor.O (Bd isB keyB)
open Go.Proofs.YthcmnkmfhgoddaaGreatDoor.Bnd (levelT)
def restA (o : Ask) : Ask :=
 ⟨0,0,0,if keyedK o.kind = true then E0 else o.key,if o.kind = 5 then E0 else o.til,
  if o.kind = 2 \/ o.kind = 9 \/ o.kind = 4 \/ o.kind = 13 then E0 else o.val,if o.kind = 4 then E0 else o.old,if o.kind = 4 then false else o.has,
  if o.kind = 5 \/ o.kind = 13 then 0 else o.lim,if o.kind = 7 \/ o.kind = 11 then 0 else o.id,if o.kind = 10 then 0 else o.node⟩
theorem rest_own (o : Ask) : sameA (restA o) Ask.zero = sameA o (ownA o):=by
 rw [Bool.eq_iff_iff]
 unfold sameA restA ownA
 simp only [decide_eq_true_eq]
 have h : ∀ (c : Prop) [Decidable c] (x y : ByteArray),((if c then y else x) = y) = (x = if c then x else y):=by intro c _ x y; by_cases h : c <;> simp [h]
 have hi : ∀ (c : Prop) [Decidable c] (x y : Int),((if c then y else x) = y) = (x = if c then x else y):=by intro c _ x y; by_cases h : c <;> simp [h]
 have hb : ∀ (c : Prop) [Decidable c] (x y : Bool),((if c then y else x) = y) = (x = if c then x else y):=by intro c _ x y; by_cases h : c <;> simp [h]
 simp only [h,hi,hb,true_and]
theorem isA_no {o : Ask} (h : o.kind ≠ 0) : isA o = (sameA (restA o) Ask.zero && (seqB o.client && seqB o.seq) && fitsA o):=by
 have : sameA o Ask.zero = false:=by unfold sameA; simp [h]
 unfold isA
 rw [this,rest_own]
 simp [Bool.and_assoc]
theorem isA_none {o : Ask} (h : o.kind = 0) : isA o = (sameA (restA o) Ask.zero && (decide (o.client = 0) && decide (o.seq = 0))):=by
 have e : sameA o Ask.zero = (decide (o.client = 0) && decide (o.seq = 0) && sameA (restA o) Ask.zero):=by
  rw [Bool.eq_iff_iff]
  unfold sameA restA
  obtain ⟨kind,client,seq,key,til,val,old,has,lim,id,node⟩:=o
  simp only at h
  subst h
  have k : keyedK 0 = false:=rfl
  simp [k,and_assoc]
 rw [Bool.and_comm]
 unfold isA
 rw [e]
 cases hh : keyB o.key.toList <;> simp [fitsA,fitsKeyA,h,hh]
theorem among_two (n a b : Int) : amongB n a b = (decide (a <= n) && decide (n <= b)):=by
 unfold amongB
 rw [Bool.eq_iff_iff]
 simp
theorem level_range (k : List UInt8) : levelT k = 0 \/ levelT k = 1 \/ levelT k = 2 \/ levelT k = 3:=by
 cases k with
 | nil => right; right; right; rfl
 | cons c l =>
  have e : levelT (c :: l) = if c.toNat = 0 then 3 else if c.toNat <= 2 then (c.toNat : Int) else 0:=rfl
  rw [e]
  split
  ·omega
  ·split <;> omega
end Go.Proofs.YthcmnkmfhgoddaaGreatDoor.Od

namespace Go.Proofs.YthcmnkmfhgoddaaGreatDoor.Od
open Go.RowKit Bnd
open Go.Proofs.YthcmnkmfhgoddaaGreatDoor.O (Bd isB keyB)
open Go.Proofs.YthcmnkmfhgoddaaGreatDoor.Bnd (levelT)
set_option maxHeartbeats 8000000 in
set_option maxRecDepth 100000 in
theorem ris_0 (client seq : Int) (key til val old : ByteArray) (has : Bool) (lim id node : Int) (w : World)  : Calls Tryz.prog 19 #[av ⟨0,client,seq,key,til,val,old,has,lim,id,node⟩] w fun e w' => e = .returned (.bool (isA ⟨0,client,seq,key,til,val,old,has,lim,id,node⟩)) /\ Below w.heap.size w w':=by
 have cs:=fun n w => rseq_any n w
 have hE : ∀ w,(Op.equalIn 10000 40 (.agg #[.int .i64 0,.int .i64 0,.int .i64 0,.string key,.string til,.string val,.string old,.bool has,.int .i64 lim,.int .i64 id,.int .i64 node]) (.agg #[.int .i64 0,.int .i64 0,.int .i64 0,.string E0,.string E0,.string E0,.string E0,.bool false,.int .i64 0,.int .i64 0,.int .i64 0])).run Tryz.prog w = .ok (sameA ⟨0,0,0,key,til,val,old,has,lim,id,node⟩ Ask.zero) w:=fun w => run_same_ask ⟨0,0,0,key,til,val,old,has,lim,id,node⟩ Ask.zero w
 have hI : isA ⟨0,client,seq,key,til,val,old,has,lim,id,node⟩ = (sameA ⟨0,0,0,key,til,val,old,has,lim,id,node⟩ Ask.zero && (decide (client = 0) && decide (seq = 0))):=isA_none (o:=⟨0,client,seq,key,til,val,old,has,lim,id,node⟩) rfl
 obtain ⟨X,hX⟩ : ∃ X,sameA ⟨0,0,0,key,til,val,old,has,lim,id,node⟩ Ask.zero = X:=⟨_,rfl⟩
 rw [hX] at hE hI
 rw [hI]
 clear hX hI
 obtain ⟨x1,hx1⟩ : ∃ x,seqB client = x:=⟨_,rfl⟩
 obtain ⟨x2,hx2⟩ : ∃ x,seqB seq = x:=⟨_,rfl⟩
 have cs1 : ∀ w,Calls Tryz.prog 54 #[.int .i64 client] w fun e w' => e = .returned (.bool x1) /\ w = w':=fun w => hx1 ▸ cs client w
 have cs2 : ∀ w,Calls Tryz.prog 54 #[.int .i64 seq] w fun e w' => e = .returned (.bool x2) /\ w = w':=fun w => hx2 ▸ cs seq w
 clear cs hx1 hx2
 by_cases g1 : client = 0
 ·
  subst g1
  by_cases g2 : seq = 0
  ·
   subst g2
   cases x1
   ·
    go_enter Tryz.func19,Tryz.ntmps19
    go_wp2_with fail
    refine (cs1 _).mono ?_
    rintro e w1 ⟨rfl,rfl⟩
    go_wp2_with fail
    go_ret
    exact ⟨ret_bool (by simp),(by exact bex0)⟩
   ·
    go_enter Tryz.func19,Tryz.ntmps19
    go_wp2_with fail
    refine (cs1 _).mono ?_
    rintro e w1 ⟨rfl,rfl⟩
    go_wp2_with fail
    refine (cs2 _).mono ?_
    rintro e w1 ⟨rfl,rfl⟩
    go_wp2_with fail
    go_ret
    exact ⟨ret_bool (by simp),(by exact bex0)⟩
  ·
   have e2 : (seq == 0) = false:=by simpa using g2
   rw [decide_eq_false g2]
   clear g2
   cases x1
   ·
    go_enter Tryz.func19,Tryz.ntmps19
    go_wp2_with fail
    refine (cs1 _).mono ?_
    rintro e w1 ⟨rfl,rfl⟩
    go_wp2_with fail
    go_ret
    exact ⟨ret_bool (by simp),(by exact bex0)⟩
   ·
    go_enter Tryz.func19,Tryz.ntmps19
    go_wp2_with fail
    refine (cs1 _).mono ?_
    rintro e w1 ⟨rfl,rfl⟩
    go_wp2_with fail
    refine (cs2 _).mono ?_
    rintro e w1 ⟨rfl,rfl⟩
    go_wp2_with fail
    go_ret
    exact ⟨ret_bool (by simp),(by exact bex0)⟩
 ·
  have e1 : (client == 0) = false:=by simpa using g1
  rw [decide_eq_false g1]
  clear g1
  cases x1
  ·
   go_enter Tryz.func19,Tryz.ntmps19
   go_wp2_with fail
   refine (cs1 _).mono ?_
   rintro e w1 ⟨rfl,rfl⟩
   go_wp2_with fail
   go_ret
   exact ⟨ret_bool (by simp),(by exact bex0)⟩
  ·
   go_enter Tryz.func19,Tryz.ntmps19
   go_wp2_with fail
   refine (cs1 _).mono ?_
   rintro e w1 ⟨rfl,rfl⟩
   go_wp2_with fail
   refine (cs2 _).mono ?_
   rintro e w1 ⟨rfl,rfl⟩
   go_wp2_with fail
   go_ret
   exact ⟨ret_bool (by simp),(by exact bex0)⟩
set_option maxHeartbeats 8000000 in
set_option maxRecDepth 100000 in
theorem ris_1 (client seq : Int) (key til val old : ByteArray) (has : Bool) (lim id node : Int) (w : World) (hk : key.size <= 140737488355328) : Calls Tryz.prog 19 #[av ⟨1,client,seq,key,til,val,old,has,lim,id,node⟩] w fun e w' => e = .returned (.bool (isA ⟨1,client,seq,key,til,val,old,has,lim,id,node⟩)) /\ Below w.heap.size w w':=by
 have cs:=fun n w => rseq_any n w
 have hE : ∀ w,(Op.equalIn 10000 40 (.agg #[.int .i64 0,.int .i64 0,.int .i64 0,.string E0,.string til,.string val,.string old,.bool has,.int .i64 lim,.int .i64 id,.int .i64 node]) (.agg #[.int .i64 0,.int .i64 0,.int .i64 0,.string E0,.string E0,.string E0,.string E0,.bool false,.int .i64 0,.int .i64 0,.int .i64 0])).run Tryz.prog w = .ok (sameA ⟨0,0,0,E0,til,val,old,has,lim,id,node⟩ Ask.zero) w:=fun w => run_same_ask ⟨0,0,0,E0,til,val,old,has,lim,id,node⟩ Ask.zero w
 have hI : isA ⟨1,client,seq,key,til,val,old,has,lim,id,node⟩ = (sameA ⟨0,0,0,E0,til,val,old,has,lim,id,node⟩ Ask.zero && (seqB client && seqB seq) && fitsA ⟨1,client,seq,key,til,val,old,has,lim,id,node⟩):=isA_no (o:=⟨1,client,seq,key,til,val,old,has,lim,id,node⟩) (by decide : (1 : Int) ≠ 0)
 obtain ⟨X,hX⟩ : ∃ X,sameA ⟨0,0,0,E0,til,val,old,has,lim,id,node⟩ Ask.zero = X:=⟨_,rfl⟩
 rw [hX] at hE hI
 rw [hI]
 clear hX hI
 rw [show fitsA ⟨1,client,seq,key,til,val,old,has,lim,id,node⟩ = (keyB key.toList && true) from rfl]
 cases h1 : seqB client with
 | false =>
  have cs1 : ∀ w,Calls Tryz.prog 54 #[.int .i64 client] w fun e w' => e = .returned (.bool false) /\ w = w':=fun w => h1 ▸ cs client w
  clear cs h1
  go_enter Tryz.func19,Tryz.ntmps19
  go_wp2_with fail
  refine (cs1 _).mono ?_
  rintro e w1 ⟨rfl,rfl⟩
  go_wp2_with fail
  go_ret
  exact ⟨ret_bool (by simp),(by exact bex0)⟩
 | true =>
  have cs1 : ∀ w,Calls Tryz.prog 54 #[.int .i64 client] w fun e w' => e = .returned (.bool true) /\ w = w':=fun w => h1 ▸ cs client w
  clear h1
  cases h2 : seqB seq with
  | false =>
   have cs2 : ∀ w,Calls Tryz.prog 54 #[.int .i64 seq] w fun e w' => e = .returned (.bool false) /\ w = w':=fun w => h2 ▸ cs seq w
   clear cs h2
   go_enter Tryz.func19,Tryz.ntmps19
   go_wp2_with fail
   refine (cs1 _).mono ?_
   rintro e w1 ⟨rfl,rfl⟩
   go_wp2_with fail
   refine (cs2 _).mono ?_
   rintro e w1 ⟨rfl,rfl⟩
   go_wp2_with fail
   go_ret
   exact ⟨ret_bool (by simp),(by exact bex0)⟩
  | true =>
   have cs2 : ∀ w,Calls Tryz.prog 54 #[.int .i64 seq] w fun e w' => e = .returned (.bool true) /\ w = w':=fun w => h2 ▸ cs seq w
   clear cs h2
   have ck:=fun w => Bnd.rkey_any key w hk
   cases hb : keyB key.toList with
   | false =>
    rw [hb] at ck
    clear hb
    go_enter Tryz.func19,Tryz.ntmps19
    go_wp2_with fail
    refine (cs1 _).mono ?_
    rintro e w1 ⟨rfl,rfl⟩
    go_wp2_with fail
    refine (cs2 _).mono ?_
    rintro e w1 ⟨rfl,rfl⟩
    go_wp2_with fail
    refine (ck _).mono ?_
    rintro e w1 ⟨rfl,rfl⟩
    go_wp2_with fail
    go_ret
    exact ⟨ret_bool (by simp),(by exact bex0)⟩
   | true =>
    rw [hb] at ck
    clear hb
    go_enter Tryz.func19,Tryz.ntmps19
    go_wp2_with fail
    refine (cs1 _).mono ?_
    rintro e w1 ⟨rfl,rfl⟩
    go_wp2_with fail
    refine (cs2 _).mono ?_
    rintro e w1 ⟨rfl,rfl⟩
    go_wp2_with fail
    refine (ck _).mono ?_
    rintro e w1 ⟨rfl,rfl⟩
    go_wp2_with fail
    go_ret
    exact ⟨ret_bool (by simp),(by exact bex0)⟩
set_option maxHeartbeats 8000000 in
set_option maxRecDepth 100000 in
theorem ris_3 (client seq : Int) (key til val old : ByteArray) (has : Bool) (lim id node : Int) (w : World) (hk : key.size <= 140737488355328) : Calls Tryz.prog 19 #[av ⟨3,client,seq,key,til,val,old,has,lim,id,node⟩] w fun e w' => e = .returned (.bool (isA ⟨3,client,seq,key,til,val,old,has,lim,id,node⟩)) /\ Below w.heap.size w w':=by
 have cs:=fun n w => rseq_any n w
 have hE : ∀ w,(Op.equalIn 10000 40 (.agg #[.int .i64 0,.int .i64 0,.int .i64 0,.string E0,.string til,.string val,.string old,.bool has,.int .i64 lim,.int .i64 id,.int .i64 node]) (.agg #[.int .i64 0,.int .i64 0,.int .i64 0,.string E0,.string E0,.string E0,.string E0,.bool false,.int .i64 0,.int .i64 0,.int .i64 0])).run Tryz.prog w = .ok (sameA ⟨0,0,0,E0,til,val,old,has,lim,id,node⟩ Ask.zero) w:=fun w => run_same_ask ⟨0,0,0,E0,til,val,old,has,lim,id,node⟩ Ask.zero w
 have hI : isA ⟨3,client,seq,key,til,val,old,has,lim,id,node⟩ = (sameA ⟨0,0,0,E0,til,val,old,has,lim,id,node⟩ Ask.zero && (seqB client && seqB seq) && fitsA ⟨3,client,seq,key,til,val,old,has,lim,id,node⟩):=isA_no (o:=⟨3,client,seq,key,til,val,old,has,lim,id,node⟩) (by decide : (3 : Int) ≠ 0)
 obtain ⟨X,hX⟩ : ∃ X,sameA ⟨0,0,0,E0,til,val,old,has,lim,id,node⟩ Ask.zero = X:=⟨_,rfl⟩
 rw [hX] at hE hI
 rw [hI]
 clear hX hI
 rw [show fitsA ⟨3,client,seq,key,til,val,old,has,lim,id,node⟩ = (keyB key.toList && true) from rfl]
 cases h1 : seqB client with
 | false =>
  have cs1 : ∀ w,Calls Tryz.prog 54 #[.int .i64 client] w fun e w' => e = .returned (.bool false) /\ w = w':=fun w => h1 ▸ cs client w
  clear cs h1
  go_enter Tryz.func19,Tryz.ntmps19
  go_wp2_with fail
  refine (cs1 _).mono ?_
  rintro e w1 ⟨rfl,rfl⟩
  go_wp2_with fail
  go_ret
  exact ⟨ret_bool (by simp),(by exact bex0)⟩
 | true =>
  have cs1 : ∀ w,Calls Tryz.prog 54 #[.int .i64 client] w fun e w' => e = .returned (.bool true) /\ w = w':=fun w => h1 ▸ cs client w
  clear h1
  cases h2 : seqB seq with
  | false =>
   have cs2 : ∀ w,Calls Tryz.prog 54 #[.int .i64 seq] w fun e w' => e = .returned (.bool false) /\ w = w':=fun w => h2 ▸ cs seq w
   clear cs h2
   go_enter Tryz.func19,Tryz.ntmps19
   go_wp2_with fail
   refine (cs1 _).mono ?_
   rintro e w1 ⟨rfl,rfl⟩
   go_wp2_with fail
   refine (cs2 _).mono ?_
   rintro e w1 ⟨rfl,rfl⟩
   go_wp2_with fail
   go_ret
   exact ⟨ret_bool (by simp),(by exact bex0)⟩
  | true =>
   have cs2 : ∀ w,Calls Tryz.prog 54 #[.int .i64 seq] w fun e w' => e = .returned (.bool true) /\ w = w':=fun w => h2 ▸ cs seq w
   clear cs h2
   have ck:=fun w => Bnd.rkey_any key w hk
   cases hb : keyB key.toList with
   | false =>
    rw [hb] at ck
    clear hb
    go_enter Tryz.func19,Tryz.ntmps19
    go_wp2_with fail
    refine (cs1 _).mono ?_
    rintro e w1 ⟨rfl,rfl⟩
    go_wp2_with fail
    refine (cs2 _).mono ?_
    rintro e w1 ⟨rfl,rfl⟩
    go_wp2_with fail
    refine (ck _).mono ?_
    rintro e w1 ⟨rfl,rfl⟩
    go_wp2_with fail
    go_ret
    exact ⟨ret_bool (by simp),(by exact bex0)⟩
   | true =>
    rw [hb] at ck
    clear hb
    go_enter Tryz.func19,Tryz.ntmps19
    go_wp2_with fail
    refine (cs1 _).mono ?_
    rintro e w1 ⟨rfl,rfl⟩
    go_wp2_with fail
    refine (cs2 _).mono ?_
    rintro e w1 ⟨rfl,rfl⟩
    go_wp2_with fail
    refine (ck _).mono ?_
    rintro e w1 ⟨rfl,rfl⟩
    go_wp2_with fail
    go_ret
    exact ⟨ret_bool (by simp),(by exact bex0)⟩
set_option maxHeartbeats 8000000 in
set_option maxRecDepth 100000 in
theorem ris_8 (client seq : Int) (key til val old : ByteArray) (has : Bool) (lim id node : Int) (w : World) (hk : key.size <= 140737488355328) : Calls Tryz.prog 19 #[av ⟨8,client,seq,key,til,val,old,has,lim,id,node⟩] w fun e w' => e = .returned (.bool (isA ⟨8,client,seq,key,til,val,old,has,lim,id,node⟩)) /\ Below w.heap.size w w':=by
 have cs:=fun n w => rseq_any n w
 have hE : ∀ w,(Op.equalIn 10000 40 (.agg #[.int .i64 0,.int .i64 0,.int .i64 0,.string E0,.string til,.string val,.string old,.bool has,.int .i64 lim,.int .i64 id,.int .i64 node]) (.agg #[.int .i64 0,.int .i64 0,.int .i64 0,.string E0,.string E0,.string E0,.string E0,.bool false,.int .i64 0,.int .i64 0,.int .i64 0])).run Tryz.prog w = .ok (sameA ⟨0,0,0,E0,til,val,old,has,lim,id,node⟩ Ask.zero) w:=fun w => run_same_ask ⟨0,0,0,E0,til,val,old,has,lim,id,node⟩ Ask.zero w
 have hI : isA ⟨8,client,seq,key,til,val,old,has,lim,id,node⟩ = (sameA ⟨0,0,0,E0,til,val,old,has,lim,id,node⟩ Ask.zero && (seqB client && seqB seq) && fitsA ⟨8,client,seq,key,til,val,old,has,lim,id,node⟩):=isA_no (o:=⟨8,client,seq,key,til,val,old,has,lim,id,node⟩) (by decide : (8 : Int) ≠ 0)
 obtain ⟨X,hX⟩ : ∃ X,sameA ⟨0,0,0,E0,til,val,old,has,lim,id,node⟩ Ask.zero = X:=⟨_,rfl⟩
 rw [hX] at hE hI
 rw [hI]
 clear hX hI
 rw [show fitsA ⟨8,client,seq,key,til,val,old,has,lim,id,node⟩ = (keyB key.toList && true) from rfl]
 cases h1 : seqB client with
 | false =>
  have cs1 : ∀ w,Calls Tryz.prog 54 #[.int .i64 client] w fun e w' => e = .returned (.bool false) /\ w = w':=fun w => h1 ▸ cs client w
  clear cs h1
  go_enter Tryz.func19,Tryz.ntmps19
  go_wp2_with fail
  refine (cs1 _).mono ?_
  rintro e w1 ⟨rfl,rfl⟩
  go_wp2_with fail
  go_ret
  exact ⟨ret_bool (by simp),(by exact bex0)⟩
 | true =>
  have cs1 : ∀ w,Calls Tryz.prog 54 #[.int .i64 client] w fun e w' => e = .returned (.bool true) /\ w = w':=fun w => h1 ▸ cs client w
  clear h1
  cases h2 : seqB seq with
  | false =>
   have cs2 : ∀ w,Calls Tryz.prog 54 #[.int .i64 seq] w fun e w' => e = .returned (.bool false) /\ w = w':=fun w => h2 ▸ cs seq w
   clear cs h2
   go_enter Tryz.func19,Tryz.ntmps19
   go_wp2_with fail
   refine (cs1 _).mono ?_
   rintro e w1 ⟨rfl,rfl⟩
   go_wp2_with fail
   refine (cs2 _).mono ?_
   rintro e w1 ⟨rfl,rfl⟩
   go_wp2_with fail
   go_ret
   exact ⟨ret_bool (by simp),(by exact bex0)⟩
  | true =>
   have cs2 : ∀ w,Calls Tryz.prog 54 #[.int .i64 seq] w fun e w' => e = .returned (.bool true) /\ w = w':=fun w => h2 ▸ cs seq w
   clear cs h2
   have ck:=fun w => Bnd.rkey_any key w hk
   cases hb : keyB key.toList with
   | false =>
    rw [hb] at ck
    clear hb
    go_enter Tryz.func19,Tryz.ntmps19
    go_wp2_with fail
    refine (cs1 _).mono ?_
    rintro e w1 ⟨rfl,rfl⟩
    go_wp2_with fail
    refine (cs2 _).mono ?_
    rintro e w1 ⟨rfl,rfl⟩
    go_wp2_with fail
    refine (ck _).mono ?_
    rintro e w1 ⟨rfl,rfl⟩
    go_wp2_with fail
    go_ret
    exact ⟨ret_bool (by simp),(by exact bex0)⟩
   | true =>
    rw [hb] at ck
    clear hb
    go_enter Tryz.func19,Tryz.ntmps19
    go_wp2_with fail
    refine (cs1 _).mono ?_
    rintro e w1 ⟨rfl,rfl⟩
    go_wp2_with fail
    refine (cs2 _).mono ?_
    rintro e w1 ⟨rfl,rfl⟩
    go_wp2_with fail
    refine (ck _).mono ?_
    rintro e w1 ⟨rfl,rfl⟩
    go_wp2_with fail
    go_ret
    exact ⟨ret_bool (by simp),(by exact bex0)⟩
set_option maxHeartbeats 8000000 in
set_option maxRecDepth 100000 in
theorem ris_6 (client seq : Int) (key til val old : ByteArray) (has : Bool) (lim id node : Int) (w : World)  : Calls Tryz.prog 19 #[av ⟨6,client,seq,key,til,val,old,has,lim,id,node⟩] w fun e w' => e = .returned (.bool (isA ⟨6,client,seq,key,til,val,old,has,lim,id,node⟩)) /\ Below w.heap.size w w':=by
 have cs:=fun n w => rseq_any n w
 have hE : ∀ w,(Op.equalIn 10000 40 (.agg #[.int .i64 0,.int .i64 0,.int .i64 0,.string key,.string til,.string val,.string old,.bool has,.int .i64 lim,.int .i64 id,.int .i64 node]) (.agg #[.int .i64 0,.int .i64 0,.int .i64 0,.string E0,.string E0,.string E0,.string E0,.bool false,.int .i64 0,.int .i64 0,.int .i64 0])).run Tryz.prog w = .ok (sameA ⟨0,0,0,key,til,val,old,has,lim,id,node⟩ Ask.zero) w:=fun w => run_same_ask ⟨0,0,0,key,til,val,old,has,lim,id,node⟩ Ask.zero w
 have hI : isA ⟨6,client,seq,key,til,val,old,has,lim,id,node⟩ = (sameA ⟨0,0,0,key,til,val,old,has,lim,id,node⟩ Ask.zero && (seqB client && seqB seq) && fitsA ⟨6,client,seq,key,til,val,old,has,lim,id,node⟩):=isA_no (o:=⟨6,client,seq,key,til,val,old,has,lim,id,node⟩) (by decide : (6 : Int) ≠ 0)
 obtain ⟨X,hX⟩ : ∃ X,sameA ⟨0,0,0,key,til,val,old,has,lim,id,node⟩ Ask.zero = X:=⟨_,rfl⟩
 rw [hX] at hE hI
 rw [hI]
 clear hX hI
 rw [show fitsA ⟨6,client,seq,key,til,val,old,has,lim,id,node⟩ = true from rfl]
 cases h1 : seqB client with
 | false =>
  have cs1 : ∀ w,Calls Tryz.prog 54 #[.int .i64 client] w fun e w' => e = .returned (.bool false) /\ w = w':=fun w => h1 ▸ cs client w
  clear cs h1
  go_enter Tryz.func19,Tryz.ntmps19
  go_wp2_with fail
  refine (cs1 _).mono ?_
  rintro e w1 ⟨rfl,rfl⟩
  go_wp2_with fail
  go_ret
  exact ⟨ret_bool (by simp),(by exact bex0)⟩
 | true =>
  have cs1 : ∀ w,Calls Tryz.prog 54 #[.int .i64 client] w fun e w' => e = .returned (.bool true) /\ w = w':=fun w => h1 ▸ cs client w
  clear h1
  cases h2 : seqB seq with
  | false =>
   have cs2 : ∀ w,Calls Tryz.prog 54 #[.int .i64 seq] w fun e w' => e = .returned (.bool false) /\ w = w':=fun w => h2 ▸ cs seq w
   clear cs h2
   go_enter Tryz.func19,Tryz.ntmps19
   go_wp2_with fail
   refine (cs1 _).mono ?_
   rintro e w1 ⟨rfl,rfl⟩
   go_wp2_with fail
   refine (cs2 _).mono ?_
   rintro e w1 ⟨rfl,rfl⟩
   go_wp2_with fail
   go_ret
   exact ⟨ret_bool (by simp),(by exact bex0)⟩
  | true =>
   have cs2 : ∀ w,Calls Tryz.prog 54 #[.int .i64 seq] w fun e w' => e = .returned (.bool true) /\ w = w':=fun w => h2 ▸ cs seq w
   clear cs h2
   go_enter Tryz.func19,Tryz.ntmps19
   go_wp2_with fail
   refine (cs1 _).mono ?_
   rintro e w1 ⟨rfl,rfl⟩
   go_wp2_with fail
   refine (cs2 _).mono ?_
   rintro e w1 ⟨rfl,rfl⟩
   go_wp2_with fail
   go_ret
   exact ⟨ret_bool (by simp),(by exact bex0)⟩
end Go.Proofs.YthcmnkmfhgoddaaGreatDoor.Od

namespace Go.Proofs.YthcmnkmfhgoddaaGreatDoor.Od
open Go.RowKit Bnd
open Go.Proofs.YthcmnkmfhgoddaaGreatDoor.O (Bd isB keyB)
open Go.Proofs.YthcmnkmfhgoddaaGreatDoor.Bnd (levelT)
set_option maxHeartbeats 8000000 in
set_option maxRecDepth 100000 in
theorem ris_12 (client seq : Int) (key til val old : ByteArray) (has : Bool) (lim id node : Int) (w : World) (hk : key.size <= 140737488355328) : Calls Tryz.prog 19 #[av ⟨12,client,seq,key,til,val,old,has,lim,id,node⟩] w fun e w' => e = .returned (.bool (isA ⟨12,client,seq,key,til,val,old,has,lim,id,node⟩)) /\ Below w.heap.size w w':=by
 have cs:=fun n w => rseq_any n w
 have hE : ∀ w,(Op.equalIn 10000 40 (.agg #[.int .i64 0,.int .i64 0,.int .i64 0,.string E0,.string til,.string val,.string old,.bool has,.int .i64 lim,.int .i64 id,.int .i64 node]) (.agg #[.int .i64 0,.int .i64 0,.int .i64 0,.string E0,.string E0,.string E0,.string E0,.bool false,.int .i64 0,.int .i64 0,.int .i64 0])).run Tryz.prog w = .ok (sameA ⟨0,0,0,E0,til,val,old,has,lim,id,node⟩ Ask.zero) w:=fun w => run_same_ask ⟨0,0,0,E0,til,val,old,has,lim,id,node⟩ Ask.zero w
 have hI : isA ⟨12,client,seq,key,til,val,old,has,lim,id,node⟩ = (sameA ⟨0,0,0,E0,til,val,old,has,lim,id,node⟩ Ask.zero && (seqB client && seqB seq) && fitsA ⟨12,client,seq,key,til,val,old,has,lim,id,node⟩):=isA_no (o:=⟨12,client,seq,key,til,val,old,has,lim,id,node⟩) (by decide : (12 : Int) ≠ 0)
 obtain ⟨X,hX⟩ : ∃ X,sameA ⟨0,0,0,E0,til,val,old,has,lim,id,node⟩ Ask.zero = X:=⟨_,rfl⟩
 rw [hX] at hE hI
 rw [hI]
 clear hX hI
 rw [show fitsA ⟨12,client,seq,key,til,val,old,has,lim,id,node⟩ = (keyB key.toList && true) from rfl]
 cases h1 : seqB client with
 | false =>
  have cs1 : ∀ w,Calls Tryz.prog 54 #[.int .i64 client] w fun e w' => e = .returned (.bool false) /\ w = w':=fun w => h1 ▸ cs client w
  clear cs h1
  go_enter Tryz.func19,Tryz.ntmps19
  go_wp2_with fail
  refine (cs1 _).mono ?_
  rintro e w1 ⟨rfl,rfl⟩
  go_wp2_with fail
  go_ret
  exact ⟨ret_bool (by simp),(by exact bex0)⟩
 | true =>
  have cs1 : ∀ w,Calls Tryz.prog 54 #[.int .i64 client] w fun e w' => e = .returned (.bool true) /\ w = w':=fun w => h1 ▸ cs client w
  clear h1
  cases h2 : seqB seq with
  | false =>
   have cs2 : ∀ w,Calls Tryz.prog 54 #[.int .i64 seq] w fun e w' => e = .returned (.bool false) /\ w = w':=fun w => h2 ▸ cs seq w
   clear cs h2
   go_enter Tryz.func19,Tryz.ntmps19
   go_wp2_with fail
   refine (cs1 _).mono ?_
   rintro e w1 ⟨rfl,rfl⟩
   go_wp2_with fail
   refine (cs2 _).mono ?_
   rintro e w1 ⟨rfl,rfl⟩
   go_wp2_with fail
   go_ret
   exact ⟨ret_bool (by simp),(by exact bex0)⟩
  | true =>
   have cs2 : ∀ w,Calls Tryz.prog 54 #[.int .i64 seq] w fun e w' => e = .returned (.bool true) /\ w = w':=fun w => h2 ▸ cs seq w
   clear cs h2
   have ck:=fun w => Bnd.rkey_any key w hk
   cases hb : keyB key.toList with
   | false =>
    rw [hb] at ck
    clear hb
    go_enter Tryz.func19,Tryz.ntmps19
    go_wp2_with fail
    refine (cs1 _).mono ?_
    rintro e w1 ⟨rfl,rfl⟩
    go_wp2_with fail
    refine (cs2 _).mono ?_
    rintro e w1 ⟨rfl,rfl⟩
    go_wp2_with fail
    refine (ck _).mono ?_
    rintro e w1 ⟨rfl,rfl⟩
    go_wp2_with fail
    go_ret
    exact ⟨ret_bool (by simp),(by exact bex0)⟩
   | true =>
    rw [hb] at ck
    clear hb
    go_enter Tryz.func19,Tryz.ntmps19
    go_wp2_with fail
    refine (cs1 _).mono ?_
    rintro e w1 ⟨rfl,rfl⟩
    go_wp2_with fail
    refine (cs2 _).mono ?_
    rintro e w1 ⟨rfl,rfl⟩
    go_wp2_with fail
    refine (ck _).mono ?_
    rintro e w1 ⟨rfl,rfl⟩
    go_wp2_with fail
    go_ret
    exact ⟨ret_bool (by simp),(by exact bex0)⟩
set_option maxHeartbeats 8000000 in
set_option maxRecDepth 100000 in
theorem ris_2 (client seq : Int) (key til val old : ByteArray) (has : Bool) (lim id node : Int) (w : World) (hk : key.size <= 140737488355328) : Calls Tryz.prog 19 #[av ⟨2,client,seq,key,til,val,old,has,lim,id,node⟩] w fun e w' => e = .returned (.bool (isA ⟨2,client,seq,key,til,val,old,has,lim,id,node⟩)) /\ Below w.heap.size w w':=by
 have cs:=fun n w => rseq_any n w
 have hE : ∀ w,(Op.equalIn 10000 40 (.agg #[.int .i64 0,.int .i64 0,.int .i64 0,.string E0,.string til,.string E0,.string old,.bool has,.int .i64 lim,.int .i64 id,.int .i64 node]) (.agg #[.int .i64 0,.int .i64 0,.int .i64 0,.string E0,.string E0,.string E0,.string E0,.bool false,.int .i64 0,.int .i64 0,.int .i64 0])).run Tryz.prog w = .ok (sameA ⟨0,0,0,E0,til,E0,old,has,lim,id,node⟩ Ask.zero) w:=fun w => run_same_ask ⟨0,0,0,E0,til,E0,old,has,lim,id,node⟩ Ask.zero w
 have hI : isA ⟨2,client,seq,key,til,val,old,has,lim,id,node⟩ = (sameA ⟨0,0,0,E0,til,E0,old,has,lim,id,node⟩ Ask.zero && (seqB client && seqB seq) && fitsA ⟨2,client,seq,key,til,val,old,has,lim,id,node⟩):=isA_no (o:=⟨2,client,seq,key,til,val,old,has,lim,id,node⟩) (by decide : (2 : Int) ≠ 0)
 obtain ⟨X,hX⟩ : ∃ X,sameA ⟨0,0,0,E0,til,E0,old,has,lim,id,node⟩ Ask.zero = X:=⟨_,rfl⟩
 rw [hX] at hE hI
 rw [hI]
 clear hX hI
 rw [show fitsA ⟨2,client,seq,key,til,val,old,has,lim,id,node⟩ = (keyB key.toList && decide (val.size <= 64)) from rfl]
 cases h1 : seqB client with
 | false =>
  have cs1 : ∀ w,Calls Tryz.prog 54 #[.int .i64 client] w fun e w' => e = .returned (.bool false) /\ w = w':=fun w => h1 ▸ cs client w
  clear cs h1
  go_enter Tryz.func19,Tryz.ntmps19
  go_wp2_with fail
  refine (cs1 _).mono ?_
  rintro e w1 ⟨rfl,rfl⟩
  go_wp2_with fail
  go_ret
  exact ⟨ret_bool (by simp),(by exact bex0)⟩
 | true =>
  have cs1 : ∀ w,Calls Tryz.prog 54 #[.int .i64 client] w fun e w' => e = .returned (.bool true) /\ w = w':=fun w => h1 ▸ cs client w
  clear h1
  cases h2 : seqB seq with
  | false =>
   have cs2 : ∀ w,Calls Tryz.prog 54 #[.int .i64 seq] w fun e w' => e = .returned (.bool false) /\ w = w':=fun w => h2 ▸ cs seq w
   clear cs h2
   go_enter Tryz.func19,Tryz.ntmps19
   go_wp2_with fail
   refine (cs1 _).mono ?_
   rintro e w1 ⟨rfl,rfl⟩
   go_wp2_with fail
   refine (cs2 _).mono ?_
   rintro e w1 ⟨rfl,rfl⟩
   go_wp2_with fail
   go_ret
   exact ⟨ret_bool (by simp),(by exact bex0)⟩
  | true =>
   have cs2 : ∀ w,Calls Tryz.prog 54 #[.int .i64 seq] w fun e w' => e = .returned (.bool true) /\ w = w':=fun w => h2 ▸ cs seq w
   clear cs h2
   have ck:=fun w => Bnd.rkey_any key w hk
   cases hb : keyB key.toList with
   | false =>
    rw [hb] at ck
    clear hb
    go_enter Tryz.func19,Tryz.ntmps19
    go_wp2_with fail
    refine (cs1 _).mono ?_
    rintro e w1 ⟨rfl,rfl⟩
    go_wp2_with fail
    refine (cs2 _).mono ?_
    rintro e w1 ⟨rfl,rfl⟩
    go_wp2_with fail
    refine (ck _).mono ?_
    rintro e w1 ⟨rfl,rfl⟩
    go_wp2_with fail
    go_ret
    exact ⟨ret_bool (by simp),(by exact bex0)⟩
   | true =>
    rw [hb] at ck
    clear hb
    by_cases g0 : (val.size : Int) <= 64
    rotate_left
    ·
     rw [show decide (val.size <= 64) = false from decide_eq_false (by omega)]
     have e0 : ((val.size : Int) <= 64) = False:=eq_false (by omega)
     clear g0
     go_enter Tryz.func19,Tryz.ntmps19
     go_wp2_with fail
     refine (cs1 _).mono ?_
     rintro e w1 ⟨rfl,rfl⟩
     go_wp2_with fail
     refine (cs2 _).mono ?_
     rintro e w1 ⟨rfl,rfl⟩
     go_wp2_with fail
     refine (ck _).mono ?_
     rintro e w1 ⟨rfl,rfl⟩
     go_wp2_with fail
     go_ret
     exact ⟨ret_bool (by simp),(by exact bex0)⟩
    rw [show decide (val.size <= 64) = true from decide_eq_true (by omega)]
    have e0 : ((val.size : Int) <= 64) = True:=eq_true (by omega)
    clear g0
    go_enter Tryz.func19,Tryz.ntmps19
    go_wp2_with fail
    refine (cs1 _).mono ?_
    rintro e w1 ⟨rfl,rfl⟩
    go_wp2_with fail
    refine (cs2 _).mono ?_
    rintro e w1 ⟨rfl,rfl⟩
    go_wp2_with fail
    refine (ck _).mono ?_
    rintro e w1 ⟨rfl,rfl⟩
    go_wp2_with fail
    go_ret
    exact ⟨ret_bool (by simp),(by exact bex0)⟩
set_option maxHeartbeats 8000000 in
set_option maxRecDepth 100000 in
theorem ris_4 (client seq : Int) (key til val old : ByteArray) (has : Bool) (lim id node : Int) (w : World) (hk : key.size <= 140737488355328) : Calls Tryz.prog 19 #[av ⟨4,client,seq,key,til,val,old,has,lim,id,node⟩] w fun e w' => e = .returned (.bool (isA ⟨4,client,seq,key,til,val,old,has,lim,id,node⟩)) /\ Below w.heap.size w w':=by
 have cs:=fun n w => rseq_any n w
 have hE : ∀ w,(Op.equalIn 10000 40 (.agg #[.int .i64 0,.int .i64 0,.int .i64 0,.string E0,.string til,.string E0,.string E0,.bool false,.int .i64 lim,.int .i64 id,.int .i64 node]) (.agg #[.int .i64 0,.int .i64 0,.int .i64 0,.string E0,.string E0,.string E0,.string E0,.bool false,.int .i64 0,.int .i64 0,.int .i64 0])).run Tryz.prog w = .ok (sameA ⟨0,0,0,E0,til,E0,E0,false,lim,id,node⟩ Ask.zero) w:=fun w => run_same_ask ⟨0,0,0,E0,til,E0,E0,false,lim,id,node⟩ Ask.zero w
 have hI : isA ⟨4,client,seq,key,til,val,old,has,lim,id,node⟩ = (sameA ⟨0,0,0,E0,til,E0,E0,false,lim,id,node⟩ Ask.zero && (seqB client && seqB seq) && fitsA ⟨4,client,seq,key,til,val,old,has,lim,id,node⟩):=isA_no (o:=⟨4,client,seq,key,til,val,old,has,lim,id,node⟩) (by decide : (4 : Int) ≠ 0)
 obtain ⟨X,hX⟩ : ∃ X,sameA ⟨0,0,0,E0,til,E0,E0,false,lim,id,node⟩ Ask.zero = X:=⟨_,rfl⟩
 rw [hX] at hE hI
 rw [hI]
 clear hX hI
 rw [show fitsA ⟨4,client,seq,key,til,val,old,has,lim,id,node⟩ = (keyB key.toList && (decide (val.size <= 64) && decide (old.size <= 64) && (has || decide (old = E0)))) from rfl]
 cases h1 : seqB client with
 | false =>
  have cs1 : ∀ w,Calls Tryz.prog 54 #[.int .i64 client] w fun e w' => e = .returned (.bool false) /\ w = w':=fun w => h1 ▸ cs client w
  clear cs h1
  go_enter Tryz.func19,Tryz.ntmps19
  go_wp2_with fail
  refine (cs1 _).mono ?_
  rintro e w1 ⟨rfl,rfl⟩
  go_wp2_with fail
  go_ret
  exact ⟨ret_bool (by simp),(by exact bex0)⟩
 | true =>
  have cs1 : ∀ w,Calls Tryz.prog 54 #[.int .i64 client] w fun e w' => e = .returned (.bool true) /\ w = w':=fun w => h1 ▸ cs client w
  clear h1
  cases h2 : seqB seq with
  | false =>
   have cs2 : ∀ w,Calls Tryz.prog 54 #[.int .i64 seq] w fun e w' => e = .returned (.bool false) /\ w = w':=fun w => h2 ▸ cs seq w
   clear cs h2
   go_enter Tryz.func19,Tryz.ntmps19
   go_wp2_with fail
   refine (cs1 _).mono ?_
   rintro e w1 ⟨rfl,rfl⟩
   go_wp2_with fail
   refine (cs2 _).mono ?_
   rintro e w1 ⟨rfl,rfl⟩
   go_wp2_with fail
   go_ret
   exact ⟨ret_bool (by simp),(by exact bex0)⟩
  | true =>
   have cs2 : ∀ w,Calls Tryz.prog 54 #[.int .i64 seq] w fun e w' => e = .returned (.bool true) /\ w = w':=fun w => h2 ▸ cs seq w
   clear cs h2
   have ck:=fun w => Bnd.rkey_any key w hk
   cases hb : keyB key.toList with
   | false =>
    rw [hb] at ck
    clear hb
    go_enter Tryz.func19,Tryz.ntmps19
    go_wp2_with fail
    refine (cs1 _).mono ?_
    rintro e w1 ⟨rfl,rfl⟩
    go_wp2_with fail
    refine (cs2 _).mono ?_
    rintro e w1 ⟨rfl,rfl⟩
    go_wp2_with fail
    refine (ck _).mono ?_
    rintro e w1 ⟨rfl,rfl⟩
    go_wp2_with fail
    go_ret
    exact ⟨ret_bool (by simp),(by exact bex0)⟩
   | true =>
    rw [hb] at ck
    clear hb
    by_cases h3 : val.size <= 64
    rotate_left
    ·
     rw [decide_eq_false h3]
     have g : ((val.size : Int) <= 64) = False:=eq_false (by omega)
     clear h3
     go_enter Tryz.func19,Tryz.ntmps19
     go_wp2_with fail
     refine (cs1 _).mono ?_
     rintro e w1 ⟨rfl,rfl⟩
     go_wp2_with fail
     refine (cs2 _).mono ?_
     rintro e w1 ⟨rfl,rfl⟩
     go_wp2_with fail
     refine (ck _).mono ?_
     rintro e w1 ⟨rfl,rfl⟩
     go_wp2_with fail
     go_ret
     exact ⟨ret_bool (by simp),(by exact bex0)⟩
    rw [decide_eq_true h3]
    have g : ((val.size : Int) <= 64) = True:=eq_true (by omega)
    clear h3
    by_cases h4 : old.size <= 64
    rotate_left
    ·
     rw [decide_eq_false h4]
     have g4 : ((old.size : Int) <= 64) = False:=eq_false (by omega)
     clear h4
     go_enter Tryz.func19,Tryz.ntmps19
     go_wp2_with fail
     refine (cs1 _).mono ?_
     rintro e w1 ⟨rfl,rfl⟩
     go_wp2_with fail
     refine (cs2 _).mono ?_
     rintro e w1 ⟨rfl,rfl⟩
     go_wp2_with fail
     refine (ck _).mono ?_
     rintro e w1 ⟨rfl,rfl⟩
     go_wp2_with fail
     go_ret
     exact ⟨ret_bool (by simp),(by exact bex0)⟩
    rw [decide_eq_true h4]
    have g4 : ((old.size : Int) <= 64) = True:=eq_true (by omega)
    clear h4
    cases has with
    | true =>
     go_enter Tryz.func19,Tryz.ntmps19
     go_wp2_with fail
     refine (cs1 _).mono ?_
     rintro e w1 ⟨rfl,rfl⟩
     go_wp2_with fail
     refine (cs2 _).mono ?_
     rintro e w1 ⟨rfl,rfl⟩
     go_wp2_with fail
     refine (ck _).mono ?_
     rintro e w1 ⟨rfl,rfl⟩
     go_wp2_with fail
     go_ret
     exact ⟨ret_bool (by simp),(by exact bex0)⟩
    | false =>
     by_cases h5 : old = E0
     ·
      subst h5
      go_enter Tryz.func19,Tryz.ntmps19
      go_wp2_with fail
      refine (cs1 _).mono ?_
      rintro e w1 ⟨rfl,rfl⟩
      go_wp2_with fail
      refine (cs2 _).mono ?_
      rintro e w1 ⟨rfl,rfl⟩
      go_wp2_with fail
      refine (ck _).mono ?_
      rintro e w1 ⟨rfl,rfl⟩
      go_wp2_with fail
      go_ret
      exact ⟨ret_bool (by simp),(by exact bex0)⟩
     ·
      rw [decide_eq_false h5]
      have g5 : old.toList.isEmpty = false:=isEmpty_no (fun hh => h5 (empty_of hh))
      clear h5
      go_enter Tryz.func19,Tryz.ntmps19
      go_wp2_with fail
      refine (cs1 _).mono ?_
      rintro e w1 ⟨rfl,rfl⟩
      go_wp2_with fail
      refine (cs2 _).mono ?_
      rintro e w1 ⟨rfl,rfl⟩
      go_wp2_with fail
      refine (ck _).mono ?_
      rintro e w1 ⟨rfl,rfl⟩
      go_wp2_with fail
      go_ret
      exact ⟨ret_bool (by simp),(by exact bex0)⟩
end Go.Proofs.YthcmnkmfhgoddaaGreatDoor.Od

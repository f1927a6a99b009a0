/-
 The document's own word on whether an order may be: kinds 10,11. Conditions: lengths at most 2^47.
-/
import Derived.Test.YthcmnkmfhgoddaaGreatDoorVOdRA
namespace Go.Proofs.YthcmnkmfhgoddaaGreatDoor.Od
open Go.RowKit Bnd
open Go.Proofs.YthcmnkmfhgoddaaGreatDoor.O (Bd isB keyB)
open Go.Proofs.YthcmnkmfhgoddaaGreatDoor.Bnd (levelT)
set_option maxHeartbeats 8000000 in
set_option maxRecDepth 100000 in
theorem ris_10 (client seq : Int) (key til val old : ByteArray) (has : Bool) (lim id node : Int) (w : World) (hk : key.size <= 140737488355328) : Calls Tryz.prog 19 #[av ⟨10,client,seq,key,til,val,old,has,lim,id,node⟩] w fun e w' => e = .returned (.bool (isA ⟨10,client,seq,key,til,val,old,has,lim,id,node⟩)) /\ Below w.heap.size w w':=by
 have cs:=fun n w => rseq_any n w
 have hE : ∀ w,(Op.equalIn 10000 40 (.agg #[.int .i64 0,.int .i64 0,.int .i64 0,.string E0,.string til,.string val,.string old,.bool has,.int .i64 lim,.int .i64 id,.int .i64 0]) (.agg #[.int .i64 0,.int .i64 0,.int .i64 0,.string E0,.string E0,.string E0,.string E0,.bool false,.int .i64 0,.int .i64 0,.int .i64 0])).run Tryz.prog w = .ok (sameA ⟨0,0,0,E0,til,val,old,has,lim,id,0⟩ Ask.zero) w:=fun w => run_same_ask ⟨0,0,0,E0,til,val,old,has,lim,id,0⟩ Ask.zero w
 have hI : isA ⟨10,client,seq,key,til,val,old,has,lim,id,node⟩ = (sameA ⟨0,0,0,E0,til,val,old,has,lim,id,0⟩ Ask.zero && (seqB client && seqB seq) && fitsA ⟨10,client,seq,key,til,val,old,has,lim,id,node⟩):=isA_no (o:=⟨10,client,seq,key,til,val,old,has,lim,id,node⟩) (by decide : (10 : Int) ≠ 0)
 obtain ⟨X,hX⟩ : ∃ X,sameA ⟨0,0,0,E0,til,val,old,has,lim,id,0⟩ Ask.zero = X:=⟨_,rfl⟩
 rw [hX] at hE hI
 rw [hI]
 clear hX hI
 rw [show fitsA ⟨10,client,seq,key,til,val,old,has,lim,id,node⟩ = (keyB key.toList && amongB node 1 7) from rfl,among_two node]
 cases h1 : seqB client with
 | false =>
  have cs1 : ∀ w,Calls Tryz.prog 54 #[.int .i64 client] w fun e w' => e = .returned (.bool false) /\ w = w':=fun w => h1 ▸ cs client w
  clear cs h1
  go_enter Tryz.func19,Tryz.ntmps19
  go_wp2_with fail
  refine (cs1 _).mono ?_
  rintro e w1 ⟨rfl,rfl⟩
  go_wp2_with fail
  go_ret
  exact ⟨ret_bool (by simp),(by exact bex0)⟩
 | true =>
  have cs1 : ∀ w,Calls Tryz.prog 54 #[.int .i64 client] w fun e w' => e = .returned (.bool true) /\ w = w':=fun w => h1 ▸ cs client w
  clear h1
  cases h2 : seqB seq with
  | false =>
   have cs2 : ∀ w,Calls Tryz.prog 54 #[.int .i64 seq] w fun e w' => e = .returned (.bool false) /\ w = w':=fun w => h2 ▸ cs seq w
   clear cs h2
   go_enter Tryz.func19,Tryz.ntmps19
   go_wp2_with fail
   refine (cs1 _).mono ?_
   rintro e w1 ⟨rfl,rfl⟩
   go_wp2_with fail
   refine (cs2 _).mono ?_
   rintro e w1 ⟨rfl,rfl⟩
   go_wp2_with fail
   go_ret
   exact ⟨ret_bool (by simp),(by exact bex0)⟩
  | true =>
   have cs2 : ∀ w,Calls Tryz.prog 54 #[.int .i64 seq] w fun e w' => e = .returned (.bool true) /\ w = w':=fun w => h2 ▸ cs seq w
   clear cs h2
   have ck:=fun w => Bnd.rkey_any key w hk
   cases hb : keyB key.toList with
   | false =>
    rw [hb] at ck
    clear hb
    go_enter Tryz.func19,Tryz.ntmps19
    go_wp2_with fail
    refine (cs1 _).mono ?_
    rintro e w1 ⟨rfl,rfl⟩
    go_wp2_with fail
    refine (cs2 _).mono ?_
    rintro e w1 ⟨rfl,rfl⟩
    go_wp2_with fail
    refine (ck _).mono ?_
    rintro e w1 ⟨rfl,rfl⟩
    go_wp2_with fail
    go_ret
    exact ⟨ret_bool (by simp),(by exact bex0)⟩
   | true =>
    rw [hb] at ck
    clear hb
    by_cases g0 : 1 <= node
    rotate_left
    ·
     rw [show decide (1 <= node) = false from decide_eq_false (by omega)]
     have e0 : (node >= 1) = False:=eq_false (by omega)
     clear g0
     go_enter Tryz.func19,Tryz.ntmps19
     go_wp2_with fail
     refine (cs1 _).mono ?_
     rintro e w1 ⟨rfl,rfl⟩
     go_wp2_with fail
     refine (cs2 _).mono ?_
     rintro e w1 ⟨rfl,rfl⟩
     go_wp2_with fail
     refine (ck _).mono ?_
     rintro e w1 ⟨rfl,rfl⟩
     go_wp2_with fail
     go_ret
     exact ⟨ret_bool (by simp),(by exact bex0)⟩
    rw [show decide (1 <= node) = true from decide_eq_true (by omega)]
    have e0 : (node >= 1) = True:=eq_true (by omega)
    clear g0
    by_cases g1 : node <= 7
    rotate_left
    ·
     rw [show decide (node <= 7) = false from decide_eq_false (by omega)]
     have e1 : (node <= 7) = False:=eq_false (by omega)
     clear g1
     go_enter Tryz.func19,Tryz.ntmps19
     go_wp2_with fail
     refine (cs1 _).mono ?_
     rintro e w1 ⟨rfl,rfl⟩
     go_wp2_with fail
     refine (cs2 _).mono ?_
     rintro e w1 ⟨rfl,rfl⟩
     go_wp2_with fail
     refine (ck _).mono ?_
     rintro e w1 ⟨rfl,rfl⟩
     go_wp2_with fail
     go_ret
     exact ⟨ret_bool (by simp),(by exact bex0)⟩
    rw [show decide (node <= 7) = true from decide_eq_true (by omega)]
    have e1 : (node <= 7) = True:=eq_true (by omega)
    clear g1
    go_enter Tryz.func19,Tryz.ntmps19
    go_wp2_with fail
    refine (cs1 _).mono ?_
    rintro e w1 ⟨rfl,rfl⟩
    go_wp2_with fail
    refine (cs2 _).mono ?_
    rintro e w1 ⟨rfl,rfl⟩
    go_wp2_with fail
    refine (ck _).mono ?_
    rintro e w1 ⟨rfl,rfl⟩
    go_wp2_with fail
    go_ret
    exact ⟨ret_bool (by simp),(by exact bex0)⟩
set_option maxHeartbeats 8000000 in
set_option maxRecDepth 100000 in
theorem ris_11 (client seq : Int) (key til val old : ByteArray) (has : Bool) (lim id node : Int) (w : World) (hk : key.size <= 140737488355328) : Calls Tryz.prog 19 #[av ⟨11,client,seq,key,til,val,old,has,lim,id,node⟩] w fun e w' => e = .returned (.bool (isA ⟨11,client,seq,key,til,val,old,has,lim,id,node⟩)) /\ Below w.heap.size w w':=by
 have cs:=fun n w => rseq_any n w
 have hE : ∀ w,(Op.equalIn 10000 40 (.agg #[.int .i64 0,.int .i64 0,.int .i64 0,.string E0,.string til,.string val,.string old,.bool has,.int .i64 lim,.int .i64 0,.int .i64 node]) (.agg #[.int .i64 0,.int .i64 0,.int .i64 0,.string E0,.string E0,.string E0,.string E0,.bool false,.int .i64 0,.int .i64 0,.int .i64 0])).run Tryz.prog w = .ok (sameA ⟨0,0,0,E0,til,val,old,has,lim,0,node⟩ Ask.zero) w:=fun w => run_same_ask ⟨0,0,0,E0,til,val,old,has,lim,0,node⟩ Ask.zero w
 have hI : isA ⟨11,client,seq,key,til,val,old,has,lim,id,node⟩ = (sameA ⟨0,0,0,E0,til,val,old,has,lim,0,node⟩ Ask.zero && (seqB client && seqB seq) && fitsA ⟨11,client,seq,key,til,val,old,has,lim,id,node⟩):=isA_no (o:=⟨11,client,seq,key,til,val,old,has,lim,id,node⟩) (by decide : (11 : Int) ≠ 0)
 obtain ⟨X,hX⟩ : ∃ X,sameA ⟨0,0,0,E0,til,val,old,has,lim,0,node⟩ Ask.zero = X:=⟨_,rfl⟩
 rw [hX] at hE hI
 rw [hI]
 clear hX hI
 rw [show fitsA ⟨11,client,seq,key,til,val,old,has,lim,id,node⟩ = (keyB key.toList && amongB id 1 1099511627776) from rfl,among_two id]
 cases h1 : seqB client with
 | false =>
  have cs1 : ∀ w,Calls Tryz.prog 54 #[.int .i64 client] w fun e w' => e = .returned (.bool false) /\ w = w':=fun w => h1 ▸ cs client w
  clear cs h1
  go_enter Tryz.func19,Tryz.ntmps19
  go_wp2_with fail
  refine (cs1 _).mono ?_
  rintro e w1 ⟨rfl,rfl⟩
  go_wp2_with fail
  go_ret
  exact ⟨ret_bool (by simp),(by exact bex0)⟩
 | true =>
  have cs1 : ∀ w,Calls Tryz.prog 54 #[.int .i64 client] w fun e w' => e = .returned (.bool true) /\ w = w':=fun w => h1 ▸ cs client w
  clear h1
  cases h2 : seqB seq with
  | false =>
   have cs2 : ∀ w,Calls Tryz.prog 54 #[.int .i64 seq] w fun e w' => e = .returned (.bool false) /\ w = w':=fun w => h2 ▸ cs seq w
   clear cs h2
   go_enter Tryz.func19,Tryz.ntmps19
   go_wp2_with fail
   refine (cs1 _).mono ?_
   rintro e w1 ⟨rfl,rfl⟩
   go_wp2_with fail
   refine (cs2 _).mono ?_
   rintro e w1 ⟨rfl,rfl⟩
   go_wp2_with fail
   go_ret
   exact ⟨ret_bool (by simp),(by exact bex0)⟩
  | true =>
   have cs2 : ∀ w,Calls Tryz.prog 54 #[.int .i64 seq] w fun e w' => e = .returned (.bool true) /\ w = w':=fun w => h2 ▸ cs seq w
   clear cs h2
   have ck:=fun w => Bnd.rkey_any key w hk
   cases hb : keyB key.toList with
   | false =>
    rw [hb] at ck
    clear hb
    go_enter Tryz.func19,Tryz.ntmps19
    go_wp2_with fail
    refine (cs1 _).mono ?_
    rintro e w1 ⟨rfl,rfl⟩
    go_wp2_with fail
    refine (cs2 _).mono ?_
    rintro e w1 ⟨rfl,rfl⟩
    go_wp2_with fail
    refine (ck _).mono ?_
    rintro e w1 ⟨rfl,rfl⟩
    go_wp2_with fail
    go_ret
    exact ⟨ret_bool (by simp),(by exact bex0)⟩
   | true =>
    rw [hb] at ck
    clear hb
    by_cases g0 : 1 <= id
    rotate_left
    ·
     rw [show decide (1 <= id) = false from decide_eq_false (by omega)]
     have e0 : (id >= 1) = False:=eq_false (by omega)
     clear g0
     go_enter Tryz.func19,Tryz.ntmps19
     go_wp2_with fail
     refine (cs1 _).mono ?_
     rintro e w1 ⟨rfl,rfl⟩
     go_wp2_with fail
     refine (cs2 _).mono ?_
     rintro e w1 ⟨rfl,rfl⟩
     go_wp2_with fail
     refine (ck _).mono ?_
     rintro e w1 ⟨rfl,rfl⟩
     go_wp2_with fail
     go_ret
     exact ⟨ret_bool (by simp),(by exact bex0)⟩
    rw [show decide (1 <= id) = true from decide_eq_true (by omega)]
    have e0 : (id >= 1) = True:=eq_true (by omega)
    clear g0
    by_cases g1 : id <= 1099511627776
    rotate_left
    ·
     rw [show decide (id <= 1099511627776) = false from decide_eq_false (by omega)]
     have e1 : (id <= 1099511627776) = False:=eq_false (by omega)
     clear g1
     go_enter Tryz.func19,Tryz.ntmps19
     go_wp2_with fail
     refine (cs1 _).mono ?_
     rintro e w1 ⟨rfl,rfl⟩
     go_wp2_with fail
     refine (cs2 _).mono ?_
     rintro e w1 ⟨rfl,rfl⟩
     go_wp2_with fail
     refine (ck _).mono ?_
     rintro e w1 ⟨rfl,rfl⟩
     go_wp2_with fail
     go_ret
     exact ⟨ret_bool (by simp),(by exact bex0)⟩
    rw [show decide (id <= 1099511627776) = true from decide_eq_true (by omega)]
    have e1 : (id <= 1099511627776) = True:=eq_true (by omega)
    clear g1
    go_enter Tryz.func19,Tryz.ntmps19
    go_wp2_with fail
    refine (cs1 _).mono ?_
    rintro e w1 ⟨rfl,rfl⟩
    go_wp2_with fail
    refine (cs2 _).mono ?_
    rintro e w1 ⟨rfl,rfl⟩
    go_wp2_with fail
    refine (ck _).mono ?_
    rintro e w1 ⟨rfl,rfl⟩
    go_wp2_with fail
    go_ret
    exact ⟨ret_bool (by simp),(by exact bex0)⟩
end Go.Proofs.YthcmnkmfhgoddaaGreatDoor.Od

/-
 The document's own word on whether an order may be: kinds 7,9. Conditions: lengths at most 2^47.
-/
import Derived.Test.YthcmnkmfhgoddaaGreatDoorVOdRA
namespace Go.Proofs.YthcmnkmfhgoddaaGreatDoor.Od
open Go.RowKit Bnd
open Go.Proofs.YthcmnkmfhgoddaaGreatDoor.O (Bd isB keyB)
open Go.Proofs.YthcmnkmfhgoddaaGreatDoor.Bnd (levelT)
set_option maxHeartbeats 8000000 in
set_option maxRecDepth 100000 in
theorem ris_7 (client seq : Int) (key til val old : ByteArray) (has : Bool) (lim id node : Int) (w : World) (hk : key.size <= 140737488355328) : Calls Tryz.prog 19 #[av ⟨7,client,seq,key,til,val,old,has,lim,id,node⟩] w fun e w' => e = .returned (.bool (isA ⟨7,client,seq,key,til,val,old,has,lim,id,node⟩)) /\ Below w.heap.size w w':=by
 have cs:=fun n w => rseq_any n w
 have hE : ∀ w,(Op.equalIn 10000 40 (.agg #[.int .i64 0,.int .i64 0,.int .i64 0,.string E0,.string til,.string val,.string old,.bool has,.int .i64 lim,.int .i64 0,.int .i64 node]) (.agg #[.int .i64 0,.int .i64 0,.int .i64 0,.string E0,.string E0,.string E0,.string E0,.bool false,.int .i64 0,.int .i64 0,.int .i64 0])).run Tryz.prog w = .ok (sameA ⟨0,0,0,E0,til,val,old,has,lim,0,node⟩ Ask.zero) w:=fun w => run_same_ask ⟨0,0,0,E0,til,val,old,has,lim,0,node⟩ Ask.zero w
 have hI : isA ⟨7,client,seq,key,til,val,old,has,lim,id,node⟩ = (sameA ⟨0,0,0,E0,til,val,old,has,lim,0,node⟩ Ask.zero && (seqB client && seqB seq) && fitsA ⟨7,client,seq,key,til,val,old,has,lim,id,node⟩):=isA_no (o:=⟨7,client,seq,key,til,val,old,has,lim,id,node⟩) (by decide : (7 : Int) ≠ 0)
 obtain ⟨X,hX⟩ : ∃ X,sameA ⟨0,0,0,E0,til,val,old,has,lim,0,node⟩ Ask.zero = X:=⟨_,rfl⟩
 rw [hX] at hE hI
 rw [hI]
 clear hX hI
 rw [show fitsA ⟨7,client,seq,key,til,val,old,has,lim,id,node⟩ = (keyB key.toList && (cutLv key && amongB id 2 1099511627776)) from rfl,among_two id]
 cases h1 : seqB client with
 | false =>
  have cs1 : ∀ w,Calls Tryz.prog 54 #[.int .i64 client] w fun e w' => e = .returned (.bool false) /\ w = w':=fun w => h1 ▸ cs client w
  clear cs h1
  go_enter Tryz.func19,Tryz.ntmps19
  go_wp2_with fail
  refine (cs1 _).mono ?_
  rintro e w1 ⟨rfl,rfl⟩
  go_wp2_with fail
  go_ret
  exact ⟨ret_bool (by simp),(by exact bex0)⟩
 | true =>
  have cs1 : ∀ w,Calls Tryz.prog 54 #[.int .i64 client] w fun e w' => e = .returned (.bool true) /\ w = w':=fun w => h1 ▸ cs client w
  clear h1
  cases h2 : seqB seq with
  | false =>
   have cs2 : ∀ w,Calls Tryz.prog 54 #[.int .i64 seq] w fun e w' => e = .returned (.bool false) /\ w = w':=fun w => h2 ▸ cs seq w
   clear cs h2
   go_enter Tryz.func19,Tryz.ntmps19
   go_wp2_with fail
   refine (cs1 _).mono ?_
   rintro e w1 ⟨rfl,rfl⟩
   go_wp2_with fail
   refine (cs2 _).mono ?_
   rintro e w1 ⟨rfl,rfl⟩
   go_wp2_with fail
   go_ret
   exact ⟨ret_bool (by simp),(by exact bex0)⟩
  | true =>
   have cs2 : ∀ w,Calls Tryz.prog 54 #[.int .i64 seq] w fun e w' => e = .returned (.bool true) /\ w = w':=fun w => h2 ▸ cs seq w
   clear cs h2
   have ck:=fun w => Bnd.rkey_any key w hk
   cases hb : keyB key.toList with
   | false =>
    rw [hb] at ck
    clear hb
    go_enter Tryz.func19,Tryz.ntmps19
    go_wp2_with fail
    refine (cs1 _).mono ?_
    rintro e w1 ⟨rfl,rfl⟩
    go_wp2_with fail
    refine (cs2 _).mono ?_
    rintro e w1 ⟨rfl,rfl⟩
    go_wp2_with fail
    refine (ck _).mono ?_
    rintro e w1 ⟨rfl,rfl⟩
    go_wp2_with fail
    go_ret
    exact ⟨ret_bool (by simp),(by exact bex0)⟩
   | true =>
    rw [hb] at ck
    clear hb
    have cl:=fun w => Bnd.rlevel_any key w hk
    have hl:=level_range key.toList
    unfold cutLv
    obtain ⟨l,hl0⟩ : ∃ l,levelT key.toList = l:=⟨_,rfl⟩
    rw [hl0] at cl hl ⊢
    clear hl0
    rcases hl with rfl | rfl | rfl | rfl
    ·
     by_cases g0 : 2 <= id
     rotate_left
     ·
      rw [show decide (2 <= id) = false from decide_eq_false (by omega)]
      have e0 : (id >= 2) = False:=eq_false (by omega)
      clear g0
      go_enter Tryz.func19,Tryz.ntmps19
      go_wp2_with fail
      refine (cs1 _).mono ?_
      rintro e w1 ⟨rfl,rfl⟩
      go_wp2_with fail
      refine (cs2 _).mono ?_
      rintro e w1 ⟨rfl,rfl⟩
      go_wp2_with fail
      refine (ck _).mono ?_
      rintro e w1 ⟨rfl,rfl⟩
      go_wp2_with fail
      refine (cl _).mono ?_
      rintro e w1 ⟨rfl,rfl⟩
      go_wp2_with fail
      go_ret
      exact ⟨ret_bool (by simp),(by exact bex0)⟩
     rw [show decide (2 <= id) = true from decide_eq_true (by omega)]
     have e0 : (id >= 2) = True:=eq_true (by omega)
     clear g0
     by_cases g1 : id <= 1099511627776
     rotate_left
     ·
      rw [show decide (id <= 1099511627776) = false from decide_eq_false (by omega)]
      have e1 : (id <= 1099511627776) = False:=eq_false (by omega)
      clear g1
      go_enter Tryz.func19,Tryz.ntmps19
      go_wp2_with fail
      refine (cs1 _).mono ?_
      rintro e w1 ⟨rfl,rfl⟩
      go_wp2_with fail
      refine (cs2 _).mono ?_
      rintro e w1 ⟨rfl,rfl⟩
      go_wp2_with fail
      refine (ck _).mono ?_
      rintro e w1 ⟨rfl,rfl⟩
      go_wp2_with fail
      refine (cl _).mono ?_
      rintro e w1 ⟨rfl,rfl⟩
      go_wp2_with fail
      go_ret
      exact ⟨ret_bool (by simp),(by exact bex0)⟩
     rw [show decide (id <= 1099511627776) = true from decide_eq_true (by omega)]
     have e1 : (id <= 1099511627776) = True:=eq_true (by omega)
     clear g1
     go_enter Tryz.func19,Tryz.ntmps19
     go_wp2_with fail
     refine (cs1 _).mono ?_
     rintro e w1 ⟨rfl,rfl⟩
     go_wp2_with fail
     refine (cs2 _).mono ?_
     rintro e w1 ⟨rfl,rfl⟩
     go_wp2_with fail
     refine (ck _).mono ?_
     rintro e w1 ⟨rfl,rfl⟩
     go_wp2_with fail
     refine (cl _).mono ?_
     rintro e w1 ⟨rfl,rfl⟩
     go_wp2_with fail
     go_ret
     exact ⟨ret_bool (by simp),(by exact bex0)⟩
    ·
     go_enter Tryz.func19,Tryz.ntmps19
     go_wp2_with fail
     refine (cs1 _).mono ?_
     rintro e w1 ⟨rfl,rfl⟩
     go_wp2_with fail
     refine (cs2 _).mono ?_
     rintro e w1 ⟨rfl,rfl⟩
     go_wp2_with fail
     refine (ck _).mono ?_
     rintro e w1 ⟨rfl,rfl⟩
     go_wp2_with fail
     refine (cl _).mono ?_
     rintro e w1 ⟨rfl,rfl⟩
     go_wp2_with fail
     go_ret
     exact ⟨ret_bool (by simp),(by exact bex0)⟩
    ·
     by_cases g0 : 2 <= id
     rotate_left
     ·
      rw [show decide (2 <= id) = false from decide_eq_false (by omega)]
      have e0 : (id >= 2) = False:=eq_false (by omega)
      clear g0
      go_enter Tryz.func19,Tryz.ntmps19
      go_wp2_with fail
      refine (cs1 _).mono ?_
      rintro e w1 ⟨rfl,rfl⟩
      go_wp2_with fail
      refine (cs2 _).mono ?_
      rintro e w1 ⟨rfl,rfl⟩
      go_wp2_with fail
      refine (ck _).mono ?_
      rintro e w1 ⟨rfl,rfl⟩
      go_wp2_with fail
      refine (cl _).mono ?_
      rintro e w1 ⟨rfl,rfl⟩
      go_wp2_with fail
      go_ret
      exact ⟨ret_bool (by simp),(by exact bex0)⟩
     rw [show decide (2 <= id) = true from decide_eq_true (by omega)]
     have e0 : (id >= 2) = True:=eq_true (by omega)
     clear g0
     by_cases g1 : id <= 1099511627776
     rotate_left
     ·
      rw [show decide (id <= 1099511627776) = false from decide_eq_false (by omega)]
      have e1 : (id <= 1099511627776) = False:=eq_false (by omega)
      clear g1
      go_enter Tryz.func19,Tryz.ntmps19
      go_wp2_with fail
      refine (cs1 _).mono ?_
      rintro e w1 ⟨rfl,rfl⟩
      go_wp2_with fail
      refine (cs2 _).mono ?_
      rintro e w1 ⟨rfl,rfl⟩
      go_wp2_with fail
      refine (ck _).mono ?_
      rintro e w1 ⟨rfl,rfl⟩
      go_wp2_with fail
      refine (cl _).mono ?_
      rintro e w1 ⟨rfl,rfl⟩
      go_wp2_with fail
      go_ret
      exact ⟨ret_bool (by simp),(by exact bex0)⟩
     rw [show decide (id <= 1099511627776) = true from decide_eq_true (by omega)]
     have e1 : (id <= 1099511627776) = True:=eq_true (by omega)
     clear g1
     go_enter Tryz.func19,Tryz.ntmps19
     go_wp2_with fail
     refine (cs1 _).mono ?_
     rintro e w1 ⟨rfl,rfl⟩
     go_wp2_with fail
     refine (cs2 _).mono ?_
     rintro e w1 ⟨rfl,rfl⟩
     go_wp2_with fail
     refine (ck _).mono ?_
     rintro e w1 ⟨rfl,rfl⟩
     go_wp2_with fail
     refine (cl _).mono ?_
     rintro e w1 ⟨rfl,rfl⟩
     go_wp2_with fail
     go_ret
     exact ⟨ret_bool (by simp),(by exact bex0)⟩
    ·
     go_enter Tryz.func19,Tryz.ntmps19
     go_wp2_with fail
     refine (cs1 _).mono ?_
     rintro e w1 ⟨rfl,rfl⟩
     go_wp2_with fail
     refine (cs2 _).mono ?_
     rintro e w1 ⟨rfl,rfl⟩
     go_wp2_with fail
     refine (ck _).mono ?_
     rintro e w1 ⟨rfl,rfl⟩
     go_wp2_with fail
     refine (cl _).mono ?_
     rintro e w1 ⟨rfl,rfl⟩
     go_wp2_with fail
     go_ret
     exact ⟨ret_bool (by simp),(by exact bex0)⟩
set_option maxHeartbeats 8000000 in
set_option maxRecDepth 100000 in
theorem ris_9 (client seq : Int) (key til val old : ByteArray) (has : Bool) (lim id node : Int) (w : World) (hk : key.size <= 140737488355328) : Calls Tryz.prog 19 #[av ⟨9,client,seq,key,til,val,old,has,lim,id,node⟩] w fun e w' => e = .returned (.bool (isA ⟨9,client,seq,key,til,val,old,has,lim,id,node⟩)) /\ Below w.heap.size w w':=by
 have cs:=fun n w => rseq_any n w
 have hE : ∀ w,(Op.equalIn 10000 40 (.agg #[.int .i64 0,.int .i64 0,.int .i64 0,.string E0,.string til,.string E0,.string old,.bool has,.int .i64 lim,.int .i64 id,.int .i64 node]) (.agg #[.int .i64 0,.int .i64 0,.int .i64 0,.string E0,.string E0,.string E0,.string E0,.bool false,.int .i64 0,.int .i64 0,.int .i64 0])).run Tryz.prog w = .ok (sameA ⟨0,0,0,E0,til,E0,old,has,lim,id,node⟩ Ask.zero) w:=fun w => run_same_ask ⟨0,0,0,E0,til,E0,old,has,lim,id,node⟩ Ask.zero w
 have hI : isA ⟨9,client,seq,key,til,val,old,has,lim,id,node⟩ = (sameA ⟨0,0,0,E0,til,E0,old,has,lim,id,node⟩ Ask.zero && (seqB client && seqB seq) && fitsA ⟨9,client,seq,key,til,val,old,has,lim,id,node⟩):=isA_no (o:=⟨9,client,seq,key,til,val,old,has,lim,id,node⟩) (by decide : (9 : Int) ≠ 0)
 obtain ⟨X,hX⟩ : ∃ X,sameA ⟨0,0,0,E0,til,E0,old,has,lim,id,node⟩ Ask.zero = X:=⟨_,rfl⟩
 rw [hX] at hE hI
 rw [hI]
 clear hX hI
 rw [show fitsA ⟨9,client,seq,key,til,val,old,has,lim,id,node⟩ = (keyB key.toList && amongB (val.size : Int) 1 65536) from rfl,among_two (val.size : Int)]
 cases h1 : seqB client with
 | false =>
  have cs1 : ∀ w,Calls Tryz.prog 54 #[.int .i64 client] w fun e w' => e = .returned (.bool false) /\ w = w':=fun w => h1 ▸ cs client w
  clear cs h1
  go_enter Tryz.func19,Tryz.ntmps19
  go_wp2_with fail
  refine (cs1 _).mono ?_
  rintro e w1 ⟨rfl,rfl⟩
  go_wp2_with fail
  go_ret
  exact ⟨ret_bool (by simp),(by exact bex0)⟩
 | true =>
  have cs1 : ∀ w,Calls Tryz.prog 54 #[.int .i64 client] w fun e w' => e = .returned (.bool true) /\ w = w':=fun w => h1 ▸ cs client w
  clear h1
  cases h2 : seqB seq with
  | false =>
   have cs2 : ∀ w,Calls Tryz.prog 54 #[.int .i64 seq] w fun e w' => e = .returned (.bool false) /\ w = w':=fun w => h2 ▸ cs seq w
   clear cs h2
   go_enter Tryz.func19,Tryz.ntmps19
   go_wp2_with fail
   refine (cs1 _).mono ?_
   rintro e w1 ⟨rfl,rfl⟩
   go_wp2_with fail
   refine (cs2 _).mono ?_
   rintro e w1 ⟨rfl,rfl⟩
   go_wp2_with fail
   go_ret
   exact ⟨ret_bool (by simp),(by exact bex0)⟩
  | true =>
   have cs2 : ∀ w,Calls Tryz.prog 54 #[.int .i64 seq] w fun e w' => e = .returned (.bool true) /\ w = w':=fun w => h2 ▸ cs seq w
   clear cs h2
   have ck:=fun w => Bnd.rkey_any key w hk
   cases hb : keyB key.toList with
   | false =>
    rw [hb] at ck
    clear hb
    go_enter Tryz.func19,Tryz.ntmps19
    go_wp2_with fail
    refine (cs1 _).mono ?_
    rintro e w1 ⟨rfl,rfl⟩
    go_wp2_with fail
    refine (cs2 _).mono ?_
    rintro e w1 ⟨rfl,rfl⟩
    go_wp2_with fail
    refine (ck _).mono ?_
    rintro e w1 ⟨rfl,rfl⟩
    go_wp2_with fail
    go_ret
    exact ⟨ret_bool (by simp),(by exact bex0)⟩
   | true =>
    rw [hb] at ck
    clear hb
    by_cases g0 : 1 <= (val.size : Int)
    rotate_left
    ·
     rw [show decide (1 <= (val.size : Int)) = false from decide_eq_false (by omega)]
     have e0 : ((val.size : Int) >= 1) = False:=eq_false (by omega)
     clear g0
     go_enter Tryz.func19,Tryz.ntmps19
     go_wp2_with fail
     refine (cs1 _).mono ?_
     rintro e w1 ⟨rfl,rfl⟩
     go_wp2_with fail
     refine (cs2 _).mono ?_
     rintro e w1 ⟨rfl,rfl⟩
     go_wp2_with fail
     refine (ck _).mono ?_
     rintro e w1 ⟨rfl,rfl⟩
     go_wp2_with fail
     go_ret
     exact ⟨ret_bool (by simp),(by exact bex0)⟩
    rw [show decide (1 <= (val.size : Int)) = true from decide_eq_true (by omega)]
    have e0 : ((val.size : Int) >= 1) = True:=eq_true (by omega)
    clear g0
    by_cases g1 : (val.size : Int) <= 65536
    rotate_left
    ·
     rw [show decide ((val.size : Int) <= 65536) = false from decide_eq_false (by omega)]
     have e1 : ((val.size : Int) <= 65536) = False:=eq_false (by omega)
     clear g1
     go_enter Tryz.func19,Tryz.ntmps19
     go_wp2_with fail
     refine (cs1 _).mono ?_
     rintro e w1 ⟨rfl,rfl⟩
     go_wp2_with fail
     refine (cs2 _).mono ?_
     rintro e w1 ⟨rfl,rfl⟩
     go_wp2_with fail
     refine (ck _).mono ?_
     rintro e w1 ⟨rfl,rfl⟩
     go_wp2_with fail
     go_ret
     exact ⟨ret_bool (by simp),(by exact bex0)⟩
    rw [show decide ((val.size : Int) <= 65536) = true from decide_eq_true (by omega)]
    have e1 : ((val.size : Int) <= 65536) = True:=eq_true (by omega)
    clear g1
    go_enter Tryz.func19,Tryz.ntmps19
    go_wp2_with fail
    refine (cs1 _).mono ?_
    rintro e w1 ⟨rfl,rfl⟩
    go_wp2_with fail
    refine (cs2 _).mono ?_
    rintro e w1 ⟨rfl,rfl⟩
    go_wp2_with fail
    refine (ck _).mono ?_
    rintro e w1 ⟨rfl,rfl⟩
    go_wp2_with fail
    go_ret
    exact ⟨ret_bool (by simp),(by exact bex0)⟩
end Go.Proofs.YthcmnkmfhgoddaaGreatDoor.Od

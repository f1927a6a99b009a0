/-
 The document's own word on whether an order may be: kinds 5,13,the others. Conditions: lengths at most 2^47.
-/
import Derived.Test.YthcmnkmfhgoddaaGreatDoorVOdRA
namespace Go.Proofs.YthcmnkmfhgoddaaGreatDoor.Od
open Go.RowKit Bnd
open Go.Proofs.YthcmnkmfhgoddaaGreatDoor.O (Bd isB keyB)
open Go.Proofs.YthcmnkmfhgoddaaGreatDoor.Bnd (levelT)
set_option maxHeartbeats 8000000 in
set_option maxRecDepth 100000 in
theorem ris_5 (client seq : Int) (key til val old : ByteArray) (has : Bool) (lim id node : Int) (w : World) (hk : key.size <= 140737488355328) (ht : til.size <= 140737488355328) : Calls Tryz.prog 19 #[av ⟨5,client,seq,key,til,val,old,has,lim,id,node⟩] w fun e w' => e = .returned (.bool (isA ⟨5,client,seq,key,til,val,old,has,lim,id,node⟩)) /\ Below w.heap.size w w':=by
 have cs:=fun n w => rseq_any n w
 have hE : ∀ w,(Op.equalIn 10000 40 (.agg #[.int .i64 0,.int .i64 0,.int .i64 0,.string E0,.string E0,.string val,.string old,.bool has,.int .i64 0,.int .i64 id,.int .i64 node]) (.agg #[.int .i64 0,.int .i64 0,.int .i64 0,.string E0,.string E0,.string E0,.string E0,.bool false,.int .i64 0,.int .i64 0,.int .i64 0])).run Tryz.prog w = .ok (sameA ⟨0,0,0,E0,E0,val,old,has,0,id,node⟩ Ask.zero) w:=fun w => run_same_ask ⟨0,0,0,E0,E0,val,old,has,0,id,node⟩ Ask.zero w
 have hI : isA ⟨5,client,seq,key,til,val,old,has,lim,id,node⟩ = (sameA ⟨0,0,0,E0,E0,val,old,has,0,id,node⟩ Ask.zero && (seqB client && seqB seq) && fitsA ⟨5,client,seq,key,til,val,old,has,lim,id,node⟩):=isA_no (o:=⟨5,client,seq,key,til,val,old,has,lim,id,node⟩) (by decide : (5 : Int) ≠ 0)
 obtain ⟨X,hX⟩ : ∃ X,sameA ⟨0,0,0,E0,E0,val,old,has,0,id,node⟩ Ask.zero = X:=⟨_,rfl⟩
 rw [hX] at hE hI
 rw [hI]
 clear hX hI
 rw [show fitsA ⟨5,client,seq,key,til,val,old,has,lim,id,node⟩ = (isB ⟨key.toList,til.toList⟩ && amongB lim 1 100) from rfl,among_two]
 cases h1 : seqB client with
 | false =>
  have cs1 : ∀ w,Calls Tryz.prog 54 #[.int .i64 client] w fun e w' => e = .returned (.bool false) /\ w = w':=fun w => h1 ▸ cs client w
  clear cs h1
  go_enter Tryz.func19,Tryz.ntmps19
  go_wp2_with fail
  refine (cs1 _).mono ?_
  rintro e w1 ⟨rfl,rfl⟩
  go_wp2_with fail
  go_ret
  exact ⟨ret_bool (by simp),(by exact bex0)⟩
 | true =>
  have cs1 : ∀ w,Calls Tryz.prog 54 #[.int .i64 client] w fun e w' => e = .returned (.bool true) /\ w = w':=fun w => h1 ▸ cs client w
  clear h1
  cases h2 : seqB seq with
  | false =>
   have cs2 : ∀ w,Calls Tryz.prog 54 #[.int .i64 seq] w fun e w' => e = .returned (.bool false) /\ w = w':=fun w => h2 ▸ cs seq w
   clear cs h2
   go_enter Tryz.func19,Tryz.ntmps19
   go_wp2_with fail
   refine (cs1 _).mono ?_
   rintro e w1 ⟨rfl,rfl⟩
   go_wp2_with fail
   refine (cs2 _).mono ?_
   rintro e w1 ⟨rfl,rfl⟩
   go_wp2_with fail
   go_ret
   exact ⟨ret_bool (by simp),(by exact bex0)⟩
  | true =>
   have cs2 : ∀ w,Calls Tryz.prog 54 #[.int .i64 seq] w fun e w' => e = .returned (.bool true) /\ w = w':=fun w => h2 ▸ cs seq w
   clear cs h2
   have cb:=fun w => Bnd.ris_any key til w hk ht
   have hbb : isB (B key til) = isB ⟨key.toList,til.toList⟩:=rfl
   rw [hbb] at cb
   clear hbb
   cases hb : isB ⟨key.toList,til.toList⟩ with
   | false =>
    rw [hb] at cb
    clear hb
    go_enter Tryz.func19,Tryz.ntmps19
    go_wp2_with fail
    refine (cs1 _).mono ?_
    rintro e w1 ⟨rfl,rfl⟩
    go_wp2_with fail
    refine (cs2 _).mono ?_
    rintro e w1 ⟨rfl,rfl⟩
    go_wp2_with fail
    refine (cb _).mono ?_
    rintro e w1 ⟨rfl,b1⟩
    have K1:=((BoxA.new w ⟨5,client,seq,key,til,val,old,has,lim,id,node⟩).alloc (.cells #[.int .i64 0,.int .i64 0,.int .i64 0,.string key,.string til,.string val,.string old,.bool has,.int .i64 lim,.int .i64 id,.int .i64 node] 40)).keep b1
    have X1:=(BoxA.new (w.alloc (.cells #[.int .i64 5,.int .i64 client,.int .i64 seq,.string key,.string til,.string val,.string old,.bool has,.int .i64 lim,.int .i64 id,.int .i64 node] 40)) ⟨0,0,0,key,til,val,old,has,lim,id,node⟩).keep b1
    rw [World.size_alloc] at X1
    have b2 : Below w.heap.size w w1:=(((Below.refl _ w).alloc (Nat.le_refl _) _).alloc (by simp) _).trans (b1.mono (by simp; omega))
    have hz:=b2.size
    obtain ⟨p_0,⟨p_1,p_2,p_3,p_4,p_5,p_6,p_7,p_8,p_9,p_10,p_11⟩,p_12⟩:=_root_.id K1
    obtain ⟨m_0,⟨m_1,m_2,m_3,m_4,m_5,m_6,m_7,m_8,m_9,m_10,m_11⟩,m_12⟩:=_root_.id X1
    simp only at p_1 p_2 p_3 p_4 p_5 p_6 p_7 p_8 p_9 p_10 p_11 m_1 m_2 m_3 m_4 m_5 m_6 m_7 m_8 m_9 m_10 m_11
    have hzx : w.heap.size + 1 < w1.heap.size:=m_0
    have hzo : w.heap.size < w1.heap.size:=p_0
    clear b1 K1 X1 m_0 p_0
    go_wp2_with fail
    go_ret
    exact ⟨ret_bool (by simp),(by exact bex0)⟩
   | true =>
    rw [hb] at cb
    clear hb
    by_cases g0 : 1 <= lim
    rotate_left
    ·
     rw [show decide (1 <= lim) = false from decide_eq_false (by omega)]
     have e0 : (lim >= 1) = False:=eq_false (by omega)
     clear g0
     go_enter Tryz.func19,Tryz.ntmps19
     go_wp2_with fail
     refine (cs1 _).mono ?_
     rintro e w1 ⟨rfl,rfl⟩
     go_wp2_with fail
     refine (cs2 _).mono ?_
     rintro e w1 ⟨rfl,rfl⟩
     go_wp2_with fail
     refine (cb _).mono ?_
     rintro e w1 ⟨rfl,b1⟩
     have K1:=((BoxA.new w ⟨5,client,seq,key,til,val,old,has,lim,id,node⟩).alloc (.cells #[.int .i64 0,.int .i64 0,.int .i64 0,.string key,.string til,.string val,.string old,.bool has,.int .i64 lim,.int .i64 id,.int .i64 node] 40)).keep b1
     have X1:=(BoxA.new (w.alloc (.cells #[.int .i64 5,.int .i64 client,.int .i64 seq,.string key,.string til,.string val,.string old,.bool has,.int .i64 lim,.int .i64 id,.int .i64 node] 40)) ⟨0,0,0,key,til,val,old,has,lim,id,node⟩).keep b1
     rw [World.size_alloc] at X1
     have b2 : Below w.heap.size w w1:=(((Below.refl _ w).alloc (Nat.le_refl _) _).alloc (by simp) _).trans (b1.mono (by simp; omega))
     have hz:=b2.size
     obtain ⟨p_0,⟨p_1,p_2,p_3,p_4,p_5,p_6,p_7,p_8,p_9,p_10,p_11⟩,p_12⟩:=_root_.id K1
     obtain ⟨m_0,⟨m_1,m_2,m_3,m_4,m_5,m_6,m_7,m_8,m_9,m_10,m_11⟩,m_12⟩:=_root_.id X1
     simp only at p_1 p_2 p_3 p_4 p_5 p_6 p_7 p_8 p_9 p_10 p_11 m_1 m_2 m_3 m_4 m_5 m_6 m_7 m_8 m_9 m_10 m_11
     have hzx : w.heap.size + 1 < w1.heap.size:=m_0
     have hzo : w.heap.size < w1.heap.size:=p_0
     clear b1 K1 X1 m_0 p_0
     go_wp2_with fail
     go_ret
     exact ⟨ret_bool (by simp),(by exact bex0)⟩
    rw [show decide (1 <= lim) = true from decide_eq_true (by omega)]
    have e0 : (lim >= 1) = True:=eq_true (by omega)
    clear g0
    by_cases g1 : lim <= 100
    rotate_left
    ·
     rw [show decide (lim <= 100) = false from decide_eq_false (by omega)]
     have e1 : (lim <= 100) = False:=eq_false (by omega)
     clear g1
     go_enter Tryz.func19,Tryz.ntmps19
     go_wp2_with fail
     refine (cs1 _).mono ?_
     rintro e w1 ⟨rfl,rfl⟩
     go_wp2_with fail
     refine (cs2 _).mono ?_
     rintro e w1 ⟨rfl,rfl⟩
     go_wp2_with fail
     refine (cb _).mono ?_
     rintro e w1 ⟨rfl,b1⟩
     have K1:=((BoxA.new w ⟨5,client,seq,key,til,val,old,has,lim,id,node⟩).alloc (.cells #[.int .i64 0,.int .i64 0,.int .i64 0,.string key,.string til,.string val,.string old,.bool has,.int .i64 lim,.int .i64 id,.int .i64 node] 40)).keep b1
     have X1:=(BoxA.new (w.alloc (.cells #[.int .i64 5,.int .i64 client,.int .i64 seq,.string key,.string til,.string val,.string old,.bool has,.int .i64 lim,.int .i64 id,.int .i64 node] 40)) ⟨0,0,0,key,til,val,old,has,lim,id,node⟩).keep b1
     rw [World.size_alloc] at X1
     have b2 : Below w.heap.size w w1:=(((Below.refl _ w).alloc (Nat.le_refl _) _).alloc (by simp) _).trans (b1.mono (by simp; omega))
     have hz:=b2.size
     obtain ⟨p_0,⟨p_1,p_2,p_3,p_4,p_5,p_6,p_7,p_8,p_9,p_10,p_11⟩,p_12⟩:=_root_.id K1
     obtain ⟨m_0,⟨m_1,m_2,m_3,m_4,m_5,m_6,m_7,m_8,m_9,m_10,m_11⟩,m_12⟩:=_root_.id X1
     simp only at p_1 p_2 p_3 p_4 p_5 p_6 p_7 p_8 p_9 p_10 p_11 m_1 m_2 m_3 m_4 m_5 m_6 m_7 m_8 m_9 m_10 m_11
     have hzx : w.heap.size + 1 < w1.heap.size:=m_0
     have hzo : w.heap.size < w1.heap.size:=p_0
     clear b1 K1 X1 m_0 p_0
     go_wp2_with fail
     go_ret
     exact ⟨ret_bool (by simp),(by exact bex0)⟩
    rw [show decide (lim <= 100) = true from decide_eq_true (by omega)]
    have e1 : (lim <= 100) = True:=eq_true (by omega)
    clear g1
    go_enter Tryz.func19,Tryz.ntmps19
    go_wp2_with fail
    refine (cs1 _).mono ?_
    rintro e w1 ⟨rfl,rfl⟩
    go_wp2_with fail
    refine (cs2 _).mono ?_
    rintro e w1 ⟨rfl,rfl⟩
    go_wp2_with fail
    refine (cb _).mono ?_
    rintro e w1 ⟨rfl,b1⟩
    have K1:=((BoxA.new w ⟨5,client,seq,key,til,val,old,has,lim,id,node⟩).alloc (.cells #[.int .i64 0,.int .i64 0,.int .i64 0,.string key,.string til,.string val,.string old,.bool has,.int .i64 lim,.int .i64 id,.int .i64 node] 40)).keep b1
    have X1:=(BoxA.new (w.alloc (.cells #[.int .i64 5,.int .i64 client,.int .i64 seq,.string key,.string til,.string val,.string old,.bool has,.int .i64 lim,.int .i64 id,.int .i64 node] 40)) ⟨0,0,0,key,til,val,old,has,lim,id,node⟩).keep b1
    rw [World.size_alloc] at X1
    have b2 : Below w.heap.size w w1:=(((Below.refl _ w).alloc (Nat.le_refl _) _).alloc (by simp) _).trans (b1.mono (by simp; omega))
    have hz:=b2.size
    obtain ⟨p_0,⟨p_1,p_2,p_3,p_4,p_5,p_6,p_7,p_8,p_9,p_10,p_11⟩,p_12⟩:=_root_.id K1
    obtain ⟨m_0,⟨m_1,m_2,m_3,m_4,m_5,m_6,m_7,m_8,m_9,m_10,m_11⟩,m_12⟩:=_root_.id X1
    simp only at p_1 p_2 p_3 p_4 p_5 p_6 p_7 p_8 p_9 p_10 p_11 m_1 m_2 m_3 m_4 m_5 m_6 m_7 m_8 m_9 m_10 m_11
    have hzx : w.heap.size + 1 < w1.heap.size:=m_0
    have hzo : w.heap.size < w1.heap.size:=p_0
    clear b1 K1 X1 m_0 p_0
    go_wp2_with fail
    go_ret
    exact ⟨ret_bool (by simp),(by exact bex0)⟩
set_option maxHeartbeats 8000000 in
set_option maxRecDepth 100000 in
theorem ris_13 (client seq : Int) (key til val old : ByteArray) (has : Bool) (lim id node : Int) (w : World) (hv : val.size <= 140737488355328) : Calls Tryz.prog 19 #[av ⟨13,client,seq,key,til,val,old,has,lim,id,node⟩] w fun e w' => e = .returned (.bool (isA ⟨13,client,seq,key,til,val,old,has,lim,id,node⟩)) /\ Below w.heap.size w w':=by
 have cs:=fun n w => rseq_any n w
 have hE : ∀ w,(Op.equalIn 10000 40 (.agg #[.int .i64 0,.int .i64 0,.int .i64 0,.string key,.string til,.string E0,.string old,.bool has,.int .i64 0,.int .i64 id,.int .i64 node]) (.agg #[.int .i64 0,.int .i64 0,.int .i64 0,.string E0,.string E0,.string E0,.string E0,.bool false,.int .i64 0,.int .i64 0,.int .i64 0])).run Tryz.prog w = .ok (sameA ⟨0,0,0,key,til,E0,old,has,0,id,node⟩ Ask.zero) w:=fun w => run_same_ask ⟨0,0,0,key,til,E0,old,has,0,id,node⟩ Ask.zero w
 have hI : isA ⟨13,client,seq,key,til,val,old,has,lim,id,node⟩ = (sameA ⟨0,0,0,key,til,E0,old,has,0,id,node⟩ Ask.zero && (seqB client && seqB seq) && fitsA ⟨13,client,seq,key,til,val,old,has,lim,id,node⟩):=isA_no (o:=⟨13,client,seq,key,til,val,old,has,lim,id,node⟩) (by decide : (13 : Int) ≠ 0)
 obtain ⟨X,hX⟩ : ∃ X,sameA ⟨0,0,0,key,til,E0,old,has,0,id,node⟩ Ask.zero = X:=⟨_,rfl⟩
 rw [hX] at hE hI
 rw [hI,show fitsA ⟨13,client,seq,key,til,val,old,has,lim,id,node⟩ = (decide ((Ds.parseD val.data.toList).2 = 0) && amongB lim 1 2) from rfl]
 clear hX hI
 have cp:=fun w => Ds.rparse_any val w hv
 have hn:=parseD_num val.data.toList
 obtain ⟨q,hq⟩ : ∃ q,Ds.parseD val.data.toList = q:=⟨_,rfl⟩
 rw [hq] at hn ⊢
 have cp2 : ∀ w,Calls Tryz.prog 56 #[.string val] w fun e w' => Ds.Gave w q e w':=by
  intro w
  have:=cp w
  rw [hq] at this
  exact this
 clear cp hq
 obtain ⟨d,n⟩:=q
 simp only at hn ⊢
 cases h1 : seqB client with
 | false =>
  have cs1 : ∀ w,Calls Tryz.prog 54 #[.int .i64 client] w fun e w' => e = .returned (.bool false) /\ w = w':=fun w => h1 ▸ cs client w
  clear cs h1
  go_enter Tryz.func19,Tryz.ntmps19
  go_wp2_with fail
  refine (cs1 _).mono ?_
  rintro e w1 ⟨rfl,rfl⟩
  go_wp2_with fail
  refine (cp2 _).mono ?_
  rintro e w1 ⟨s1,rfl,a1,b1⟩
  have K1:=((BoxA.new w ⟨13,client,seq,key,til,val,old,has,lim,id,node⟩).alloc (.cells #[.int .i64 0,.int .i64 0,.int .i64 0,.string key,.string til,.string val,.string old,.bool has,.int .i64 lim,.int .i64 id,.int .i64 node] 40)).keep b1
  have X1:=(BoxA.new (w.alloc (.cells #[.int .i64 13,.int .i64 client,.int .i64 seq,.string key,.string til,.string val,.string old,.bool has,.int .i64 lim,.int .i64 id,.int .i64 node] 40)) ⟨0,0,0,key,til,val,old,has,lim,id,node⟩).keep b1
  rw [World.size_alloc] at X1
  have b2 : Below w.heap.size w w1:=(((Below.refl _ w).alloc (Nat.le_refl _) _).alloc (by simp) _).trans (b1.mono (by simp; omega))
  have hz:=b2.size
  obtain ⟨A1,k1,rfl⟩:=a1.form
  obtain ⟨p_0,⟨p_1,p_2,p_3,p_4,p_5,p_6,p_7,p_8,p_9,p_10,p_11⟩,p_12⟩:=_root_.id K1
  obtain ⟨m_0,⟨m_1,m_2,m_3,m_4,m_5,m_6,m_7,m_8,m_9,m_10,m_11⟩,m_12⟩:=_root_.id X1
  simp only at p_1 p_2 p_3 p_4 p_5 p_6 p_7 p_8 p_9 p_10 p_11 m_1 m_2 m_3 m_4 m_5 m_6 m_7 m_8 m_9 m_10 m_11
  have hzx : w.heap.size + 1 < w1.heap.size:=m_0
  have hzo : w.heap.size < w1.heap.size:=p_0
  clear b1 K1 X1 a1 m_0 p_0
  go_wp2_with fail
  go_ret
  exact ⟨ret_bool (by simp),(by exact bex0)⟩
 | true =>
  have cs1 : ∀ w,Calls Tryz.prog 54 #[.int .i64 client] w fun e w' => e = .returned (.bool true) /\ w = w':=fun w => h1 ▸ cs client w
  clear h1
  cases h2 : seqB seq with
  | false =>
   have cs2 : ∀ w,Calls Tryz.prog 54 #[.int .i64 seq] w fun e w' => e = .returned (.bool false) /\ w = w':=fun w => h2 ▸ cs seq w
   clear cs h2
   go_enter Tryz.func19,Tryz.ntmps19
   go_wp2_with fail
   refine (cs1 _).mono ?_
   rintro e w1 ⟨rfl,rfl⟩
   go_wp2_with fail
   refine (cs2 _).mono ?_
   rintro e w1 ⟨rfl,rfl⟩
   go_wp2_with fail
   refine (cp2 _).mono ?_
   rintro e w1 ⟨s1,rfl,a1,b1⟩
   have K1:=((BoxA.new w ⟨13,client,seq,key,til,val,old,has,lim,id,node⟩).alloc (.cells #[.int .i64 0,.int .i64 0,.int .i64 0,.string key,.string til,.string val,.string old,.bool has,.int .i64 lim,.int .i64 id,.int .i64 node] 40)).keep b1
   have X1:=(BoxA.new (w.alloc (.cells #[.int .i64 13,.int .i64 client,.int .i64 seq,.string key,.string til,.string val,.string old,.bool has,.int .i64 lim,.int .i64 id,.int .i64 node] 40)) ⟨0,0,0,key,til,val,old,has,lim,id,node⟩).keep b1
   rw [World.size_alloc] at X1
   have b2 : Below w.heap.size w w1:=(((Below.refl _ w).alloc (Nat.le_refl _) _).alloc (by simp) _).trans (b1.mono (by simp; omega))
   have hz:=b2.size
   obtain ⟨A1,k1,rfl⟩:=a1.form
   obtain ⟨p_0,⟨p_1,p_2,p_3,p_4,p_5,p_6,p_7,p_8,p_9,p_10,p_11⟩,p_12⟩:=_root_.id K1
   obtain ⟨m_0,⟨m_1,m_2,m_3,m_4,m_5,m_6,m_7,m_8,m_9,m_10,m_11⟩,m_12⟩:=_root_.id X1
   simp only at p_1 p_2 p_3 p_4 p_5 p_6 p_7 p_8 p_9 p_10 p_11 m_1 m_2 m_3 m_4 m_5 m_6 m_7 m_8 m_9 m_10 m_11
   have hzx : w.heap.size + 1 < w1.heap.size:=m_0
   have hzo : w.heap.size < w1.heap.size:=p_0
   clear b1 K1 X1 a1 m_0 p_0
   go_wp2_with fail
   go_ret
   exact ⟨ret_bool (by simp),(by exact bex0)⟩
  | true =>
   have cs2 : ∀ w,Calls Tryz.prog 54 #[.int .i64 seq] w fun e w' => e = .returned (.bool true) /\ w = w':=fun w => h2 ▸ cs seq w
   clear cs h2
   rcases hn with rfl | rfl
   rotate_left
   ·
    go_enter Tryz.func19,Tryz.ntmps19
    go_wp2_with fail
    refine (cs1 _).mono ?_
    rintro e w1 ⟨rfl,rfl⟩
    go_wp2_with fail
    refine (cs2 _).mono ?_
    rintro e w1 ⟨rfl,rfl⟩
    go_wp2_with fail
    refine (cp2 _).mono ?_
    rintro e w1 ⟨s1,rfl,a1,b1⟩
    have K1:=((BoxA.new w ⟨13,client,seq,key,til,val,old,has,lim,id,node⟩).alloc (.cells #[.int .i64 0,.int .i64 0,.int .i64 0,.string key,.string til,.string val,.string old,.bool has,.int .i64 lim,.int .i64 id,.int .i64 node] 40)).keep b1
    have X1:=(BoxA.new (w.alloc (.cells #[.int .i64 13,.int .i64 client,.int .i64 seq,.string key,.string til,.string val,.string old,.bool has,.int .i64 lim,.int .i64 id,.int .i64 node] 40)) ⟨0,0,0,key,til,val,old,has,lim,id,node⟩).keep b1
    rw [World.size_alloc] at X1
    have b2 : Below w.heap.size w w1:=(((Below.refl _ w).alloc (Nat.le_refl _) _).alloc (by simp) _).trans (b1.mono (by simp; omega))
    have hz:=b2.size
    obtain ⟨A1,k1,rfl⟩:=a1.form
    obtain ⟨p_0,⟨p_1,p_2,p_3,p_4,p_5,p_6,p_7,p_8,p_9,p_10,p_11⟩,p_12⟩:=_root_.id K1
    obtain ⟨m_0,⟨m_1,m_2,m_3,m_4,m_5,m_6,m_7,m_8,m_9,m_10,m_11⟩,m_12⟩:=_root_.id X1
    simp only at p_1 p_2 p_3 p_4 p_5 p_6 p_7 p_8 p_9 p_10 p_11 m_1 m_2 m_3 m_4 m_5 m_6 m_7 m_8 m_9 m_10 m_11
    have hzx : w.heap.size + 1 < w1.heap.size:=m_0
    have hzo : w.heap.size < w1.heap.size:=p_0
    clear b1 K1 X1 a1 m_0 p_0
    go_wp2_with fail
    go_ret
    exact ⟨ret_bool (by simp),(by exact bex0)⟩
   by_cases l1 : lim = 1
   ·
    subst l1
    go_enter Tryz.func19,Tryz.ntmps19
    go_wp2_with fail
    refine (cs1 _).mono ?_
    rintro e w1 ⟨rfl,rfl⟩
    go_wp2_with fail
    refine (cs2 _).mono ?_
    rintro e w1 ⟨rfl,rfl⟩
    go_wp2_with fail
    refine (cp2 _).mono ?_
    rintro e w1 ⟨s1,rfl,a1,b1⟩
    have K1:=((BoxA.new w ⟨13,client,seq,key,til,val,old,has,1,id,node⟩).alloc (.cells #[.int .i64 0,.int .i64 0,.int .i64 0,.string key,.string til,.string val,.string old,.bool has,.int .i64 1,.int .i64 id,.int .i64 node] 40)).keep b1
    have X1:=(BoxA.new (w.alloc (.cells #[.int .i64 13,.int .i64 client,.int .i64 seq,.string key,.string til,.string val,.string old,.bool has,.int .i64 1,.int .i64 id,.int .i64 node] 40)) ⟨0,0,0,key,til,val,old,has,1,id,node⟩).keep b1
    rw [World.size_alloc] at X1
    have b2 : Below w.heap.size w w1:=(((Below.refl _ w).alloc (Nat.le_refl _) _).alloc (by simp) _).trans (b1.mono (by simp; omega))
    have hz:=b2.size
    obtain ⟨A1,k1,rfl⟩:=a1.form
    obtain ⟨p_0,⟨p_1,p_2,p_3,p_4,p_5,p_6,p_7,p_8,p_9,p_10,p_11⟩,p_12⟩:=_root_.id K1
    obtain ⟨m_0,⟨m_1,m_2,m_3,m_4,m_5,m_6,m_7,m_8,m_9,m_10,m_11⟩,m_12⟩:=_root_.id X1
    simp only at p_1 p_2 p_3 p_4 p_5 p_6 p_7 p_8 p_9 p_10 p_11 m_1 m_2 m_3 m_4 m_5 m_6 m_7 m_8 m_9 m_10 m_11
    have hzx : w.heap.size + 1 < w1.heap.size:=m_0
    have hzo : w.heap.size < w1.heap.size:=p_0
    clear b1 K1 X1 a1 m_0 p_0
    go_wp2_with fail
    go_ret
    exact ⟨ret_bool (by simp [amongB]),(by exact bex0)⟩
   have e1 : (lim == 1) = false:=by simpa using l1
   by_cases l2 : lim = 2
   ·
    subst l2
    go_enter Tryz.func19,Tryz.ntmps19
    go_wp2_with fail
    refine (cs1 _).mono ?_
    rintro e w1 ⟨rfl,rfl⟩
    go_wp2_with fail
    refine (cs2 _).mono ?_
    rintro e w1 ⟨rfl,rfl⟩
    go_wp2_with fail
    refine (cp2 _).mono ?_
    rintro e w1 ⟨s1,rfl,a1,b1⟩
    have K1:=((BoxA.new w ⟨13,client,seq,key,til,val,old,has,2,id,node⟩).alloc (.cells #[.int .i64 0,.int .i64 0,.int .i64 0,.string key,.string til,.string val,.string old,.bool has,.int .i64 2,.int .i64 id,.int .i64 node] 40)).keep b1
    have X1:=(BoxA.new (w.alloc (.cells #[.int .i64 13,.int .i64 client,.int .i64 seq,.string key,.string til,.string val,.string old,.bool has,.int .i64 2,.int .i64 id,.int .i64 node] 40)) ⟨0,0,0,key,til,val,old,has,2,id,node⟩).keep b1
    rw [World.size_alloc] at X1
    have b2 : Below w.heap.size w w1:=(((Below.refl _ w).alloc (Nat.le_refl _) _).alloc (by simp) _).trans (b1.mono (by simp; omega))
    have hz:=b2.size
    obtain ⟨A1,k1,rfl⟩:=a1.form
    obtain ⟨p_0,⟨p_1,p_2,p_3,p_4,p_5,p_6,p_7,p_8,p_9,p_10,p_11⟩,p_12⟩:=_root_.id K1
    obtain ⟨m_0,⟨m_1,m_2,m_3,m_4,m_5,m_6,m_7,m_8,m_9,m_10,m_11⟩,m_12⟩:=_root_.id X1
    simp only at p_1 p_2 p_3 p_4 p_5 p_6 p_7 p_8 p_9 p_10 p_11 m_1 m_2 m_3 m_4 m_5 m_6 m_7 m_8 m_9 m_10 m_11
    have hzx : w.heap.size + 1 < w1.heap.size:=m_0
    have hzo : w.heap.size < w1.heap.size:=p_0
    clear b1 K1 X1 a1 m_0 p_0
    go_wp2_with fail
    go_ret
    exact ⟨ret_bool (by simp [amongB]),(by exact bex0)⟩
   have e2 : (lim == 2) = false:=by simpa using l2
   rw [show amongB lim 1 2 = false from decide_eq_false (by omega)]
   clear l1 l2
   go_enter Tryz.func19,Tryz.ntmps19
   go_wp2_with fail
   refine (cs1 _).mono ?_
   rintro e w1 ⟨rfl,rfl⟩
   go_wp2_with fail
   refine (cs2 _).mono ?_
   rintro e w1 ⟨rfl,rfl⟩
   go_wp2_with fail
   refine (cp2 _).mono ?_
   rintro e w1 ⟨s1,rfl,a1,b1⟩
   have K1:=((BoxA.new w ⟨13,client,seq,key,til,val,old,has,lim,id,node⟩).alloc (.cells #[.int .i64 0,.int .i64 0,.int .i64 0,.string key,.string til,.string val,.string old,.bool has,.int .i64 lim,.int .i64 id,.int .i64 node] 40)).keep b1
   have X1:=(BoxA.new (w.alloc (.cells #[.int .i64 13,.int .i64 client,.int .i64 seq,.string key,.string til,.string val,.string old,.bool has,.int .i64 lim,.int .i64 id,.int .i64 node] 40)) ⟨0,0,0,key,til,val,old,has,lim,id,node⟩).keep b1
   rw [World.size_alloc] at X1
   have b2 : Below w.heap.size w w1:=(((Below.refl _ w).alloc (Nat.le_refl _) _).alloc (by simp) _).trans (b1.mono (by simp; omega))
   have hz:=b2.size
   obtain ⟨A1,k1,rfl⟩:=a1.form
   obtain ⟨p_0,⟨p_1,p_2,p_3,p_4,p_5,p_6,p_7,p_8,p_9,p_10,p_11⟩,p_12⟩:=_root_.id K1
   obtain ⟨m_0,⟨m_1,m_2,m_3,m_4,m_5,m_6,m_7,m_8,m_9,m_10,m_11⟩,m_12⟩:=_root_.id X1
   simp only at p_1 p_2 p_3 p_4 p_5 p_6 p_7 p_8 p_9 p_10 p_11 m_1 m_2 m_3 m_4 m_5 m_6 m_7 m_8 m_9 m_10 m_11
   have hzx : w.heap.size + 1 < w1.heap.size:=m_0
   have hzo : w.heap.size < w1.heap.size:=p_0
   clear b1 K1 X1 a1 m_0 p_0
   go_wp2_with fail
   go_ret
   exact ⟨ret_bool (by simp),(by exact bex0)⟩
set_option maxHeartbeats 8000000 in
set_option maxRecDepth 100000 in
theorem ris_o (kind client seq : Int) (key til val old : ByteArray) (has : Bool) (lim id node : Int) (w : World) (hr : kind < 0 \/ 13 < kind) : Calls Tryz.prog 19 #[av ⟨kind,client,seq,key,til,val,old,has,lim,id,node⟩] w fun e w' => e = .returned (.bool (isA ⟨kind,client,seq,key,til,val,old,has,lim,id,node⟩)) /\ Below w.heap.size w w':=by
 have hI : isA ⟨kind,client,seq,key,til,val,old,has,lim,id,node⟩ = false:=by
  rw [isA_no (o:=⟨kind,client,seq,key,til,val,old,has,lim,id,node⟩) (by show kind ≠ 0; omega)]
  have : fitsA ⟨kind,client,seq,key,til,val,old,has,lim,id,node⟩ = false:=by
   unfold fitsA fitsKeyA
   simp only
   rw [if_neg (by omega),if_neg (by omega),if_neg (by omega),if_neg (by omega),if_neg (by omega),if_neg (by omega),if_neg (by omega),if_neg (by omega),if_neg (by omega),if_neg (by omega)]
   simp
  rw [this]
  simp
 rw [hI]
 clear hI
 have cs:=fun n w => rseq_any n w
 obtain ⟨x1,hx1⟩ : ∃ x,seqB client = x:=⟨_,rfl⟩
 obtain ⟨x2,hx2⟩ : ∃ x,seqB seq = x:=⟨_,rfl⟩
 have cs1 : ∀ w,Calls Tryz.prog 54 #[.int .i64 client] w fun e w' => e = .returned (.bool x1) /\ w = w':=fun w => hx1 ▸ cs client w
 have cs2 : ∀ w,Calls Tryz.prog 54 #[.int .i64 seq] w fun e w' => e = .returned (.bool x2) /\ w = w':=fun w => hx2 ▸ cs seq w
 clear cs hx1 hx2
 have g0 : (kind == 0) = false:=by simp; omega
 have g1 : (kind == 1) = false:=by simp; omega
 have g2 : (kind == 2) = false:=by simp; omega
 have g3 : (kind == 3) = false:=by simp; omega
 have g4 : (kind == 4) = false:=by simp; omega
 have g5 : (kind == 5) = false:=by simp; omega
 have g6 : (kind == 6) = false:=by simp; omega
 have g7 : (kind == 7) = false:=by simp; omega
 have g8 : (kind == 8) = false:=by simp; omega
 have g9 : (kind == 9) = false:=by simp; omega
 have g10 : (kind == 10) = false:=by simp; omega
 have g11 : (kind == 11) = false:=by simp; omega
 have g12 : (kind == 12) = false:=by simp; omega
 have g13 : (kind == 13) = false:=by simp; omega
 clear hr
 cases x1
 ·
  go_enter Tryz.func19,Tryz.ntmps19
  go_wp2_with fail
  refine (cs1 _).mono ?_
  rintro e w1 ⟨rfl,rfl⟩
  go_wp2_with fail
  go_ret
  exact ⟨rfl,(by exact bex0)⟩
 ·
  go_enter Tryz.func19,Tryz.ntmps19
  go_wp2_with fail
  refine (cs1 _).mono ?_
  rintro e w1 ⟨rfl,rfl⟩
  go_wp2_with fail
  refine (cs2 _).mono ?_
  rintro e w1 ⟨rfl,rfl⟩
  go_wp2_with fail
  go_ret
  exact ⟨rfl,(by exact bex0)⟩
end Go.Proofs.YthcmnkmfhgoddaaGreatDoor.Od

/-
  slices.Index and slices.Delete at members: where a member stands; a row of the call's own without one of its members. Condition: at most 1000 members.
  Remove,the program's. Condition: at most 1000 members,lengths at most 2^47.
  What comes of an order that cannot be done,and of a change of members: failed,became,do. Conditions: plots that may be.
  What comes of a change of members: do. Conditions: plots that may be.
-/
import Derived.Test.YthcmnkmfhgoddaaGreatDoorVDsSMA
import Derived.Test.YthcmnkmfhgoddaaGreatDoorVDsPaA
import Derived.Test.YthcmnkmfhgoddaaGreatDoorVDsPNA
import Derived.Test.YthcmnkmfhgoddaaGreatDoorVRegA
import Derived.Laws.CopyRow
import Derived.Test.YthcmnkmfhgoddaaGreatDoorVDsA
import Derived.Test.YthcmnkmfhgoddaaGreatDoorVPtBA
import Derived.Test.YthcmnkmfhgoddaaGreatDoorVDpBGA
namespace Go.Proofs.YthcmnkmfhgoddaaGreatDoor.Ds
open Go.RowKit Bnd
section
attribute [local go_sem ↓] Go.wp_at_zero Go.wp_at_succ
theorem mem_ne {x y : Mem} (h : x ≠ y) : ((x.1 == y.1) = false) \/ (x.1 = y.1 /\ (x.2 == y.2) = false):=by
 by_cases q : x.1 = y.1
 ·refine .inr ⟨q,?_⟩
  simp only [beq_eq_false_iff_ne]
  intro e
  exact h (Prod.ext q e)
 ·exact .inl (by simpa using q)
set_option maxHeartbeats 4000000 in
set_option maxRecDepth 100000 in
theorem index_any (v : Value) (xs : List Mem) (x : Mem) (i : Nat) (w : World) (hv : SM w w.heap.size v xs) (hl : xs.length <= 1000000) (hi : i < xs.length) (hx : xs[i] = x) (hb : ∀ j (h : j < i),xs[j]'(by omega) ≠ x) :
  Calls Tryz.prog 174 #[v,mv x] w fun e w' => e = .returned (.int .i64 (i : Int)) /\ Below w.heap.size w w':=by
 obtain ⟨A,c,rfl⟩:=hv.form
 obtain ⟨x1,x2⟩:=x
 obtain ⟨n,hn⟩ : ∃ n,n = xs.length:=⟨_,rfl⟩
 have HX:=Lib.hid hn
 have HI:=Lib.hid hx
 have HB:=Lib.hid hb
 have hin : i < n:=by omega
 rw [<- hn] at hv ⊢
 have hl' : n <= 1000000:=by omega
 clear hn hx hb hl
 go_enter Tryz.func174,Tryz.ntmps174
 go_wp2_with fail
 go_loopw [5,8] (fun _ vi wr => ∃ (k : Nat),k <= i /\ vi = .int .i64 (k : Int) /\ (wr.cell? ⟨w.heap.size,0,none⟩ = some (.int .i64 x1) /\ wr.cell? ⟨w.heap.size,1,none⟩ = some (.int .i64 x2)) /\ Below w.heap.size w wr) (fun _ vi _ => n - (intOf vi).toNat)
 case atStart => exact ⟨0,by omega,rfl,by simp [go_sem],(Below.refl _ w).alloc (Nat.le_refl _) _⟩
 case round =>
  obtain ⟨k,hk,rfl,⟨r1,r2⟩,hbw⟩:=hrel
  have hkx : k < xs.length:=by rw [<- HX.out]; omega
  obtain ⟨b,o,rfl,hb,hc1,hc2⟩:=(hv.below hbw).at_ hkx
  have hk0 : (0 : Int) <= (k : Int):=by omega
  have hk1 : (k : Int) < (n : Int):=by omega
  by_cases he : k = i
  ·subst he
   rw [HI.out] at hc1 hc2
   go_wp2_with fail
   go_quiet (fail)
   go_wp2_with fail
   go_ret
   exact ⟨rfl,below_drewN hbw _⟩
  ·have hne:=HB.out k (by omega)
   obtain ⟨⟨y1,y2⟩,hy⟩ : ∃ y,xs[k] = y:=⟨_,rfl⟩
   rw [hy] at hc1 hc2 hne
   have hor:=mem_ne (fun e => hne e.symm)
   simp only at hor
   clear hy hne
   rcases hor with q1 | ⟨rfl,q2⟩
   all_goals
    go_wp2_with fail
    go_quiet (fail)
    go_wp2_with fail
    go_roundw
    case rel => exact ⟨k + 1,by omega,by go_num,⟨r1,r2⟩,below_drewN hbw _⟩
    case measure => simp [intOf]; omega
end
theorem wpList_run_builtin {P : Program} {ops : Array Oper} {rest : List Oper} {o : Oper} {a : Act} {w w' : World} {Q : Exit -> Act -> World -> Prop} (hgd : o.guard = none) {s x : Operand} {t : TypeId} {v y v' : Value}
  (ho : o.op = .call { callee:=.builtin .append,args:=#[s,x],argTypes:=#[t,t] }) (hs : a.eval s = v) (hx : a.eval x = y) (hrun : (Builtin.append_ #[t,t] o.type #[v,y]).run P w = .ok v' w')
  (h : wpList P ops Q rest (a.put o.dst v') w') : wpList P ops Q (o :: rest) a w:=by
 refine wpList_plain hgd fun _ hK => ?_
 unfold Oper.wp
 rw [run_append2 ho hs hx hrun]
 exact hK _ _ h
theorem run_clear_one {w : World} {g m c : Nat} {cur : Array Value} (ty : TypeId) (hg : w.heap[g]? = some (.cells cur 70 (0,0))) (hm : m * 2 + 2 <= cur.size) :
  (Builtin.clear_ #[24] ty #[.slice (some ⟨g,m * 2,none⟩) 1 c]).run Tryz.prog w = .ok (.tuple #[]) (w.setRow g (cur.toList.take (m * 2) ++ [Value.int .i64 0,Value.int .i64 0] ++ cur.toList.drop (m * 2 + 2)).toArray):=by
 have hst:=run_storeCells_at Tryz.prog g (m * 2) 70 [Value.int .i64 0,Value.int .i64 0] 0 cur w hg (by simpa using hm) (by intro v hv; simp at hv; rcases hv with rfl | rfl <;> rfl)
 simp only [Nat.add_zero,List.length_cons,List.length_nil,Nat.zero_add,Nat.reduceAdd] at hst
 have hz : (Builtin.zeroCells (Value.agg #[Value.int .i64 0,Value.int .i64 0]).cells 1).toList = [Value.int .i64 0,Value.int .i64 0]:=by first | kernel_rfl | simp [Builtin.zeroCells,Value.cells]
 simp [Builtin.clear_,run_underlying Tryz.underlying24,Tryz.zeroValue70,hz,hst]
set_option maxHeartbeats 4000000 in
set_option maxRecDepth 100000 in
theorem delete_any (g cap base : Nat) (ms : List Mem) (m i : Nat) (w : World) (hm : ms.length = m + 1) (hown : OwnM w base (.slice (some ⟨g,0,none⟩) (m + 1) cap) ms) (hi : i <= m) (hl : m <= 1000) (hbase : base <= w.heap.size) :
  Calls Tryz.prog 175 #[.slice (some ⟨g,0,none⟩) (m + 1) cap,.int .i64 (i : Int),.int .i64 ((i : Int) + 1)] w fun e w' =>
   e = .returned (.slice (some ⟨g,0,none⟩) m cap) /\ OwnM w' base (.slice (some ⟨g,0,none⟩) m cap) (ms.take i ++ ms.drop (i + 1)) /\ Below base w w':=by
 obtain ⟨i0,hi0,hz0,hz1,hz2⟩:=info_parts infoM
 obtain ⟨g',cap9,cur,e1,hbg,hg,hnc,hcm,hcs,htk⟩:=hown.2.resolve_left (fun h => by simp at h)
 injection e1 with e1 e2 e3
 injection e1 with e1
 injection e1 with e1
 subst e1 e3
 clear e2
 rw [hm] at hnc htk
 -- what the append leaves
 have hnews : (mcells (ms.drop (i + 1))).length = (m - i) * 2:=by rw [mcells_length,List.length_drop]; omega
 have hread : ∀ (ad : Addr),(0 < m - i -> ad = ⟨g,(i + 1) * 2,none⟩) -> ∀ j u,(mcells (ms.drop (i + 1)))[j]? = some u -> w.drew.cell? (ad.add j) = some u:=by
  intro ad had j u hj
  have hjl : j < (m - i) * 2:=by rw [<- hnews]; exact (List.getElem?_eq_some_iff.1 hj).1
  rw [had (by omega),Addr.add_lit]
  have h1 : (mcells ms)[(i + 1) * 2 + j]? = some u:=by
   have e : mcells ms = mcells (ms.take (i + 1)) ++ mcells (ms.drop (i + 1)):=by rw [<- mcells_append,List.take_append_drop]
   have hlt : (mcells (ms.take (i + 1))).length = (i + 1) * 2:=by rw [mcells_length,List.length_take]; congr 1; omega
   rw [e,List.getElem?_append_right (by omega),hlt,Nat.add_sub_cancel_left]
   exact hj
  have:=hown.cells (g:=g) rfl _ _ h1
  rw [Addr.add_lit,Nat.zero_add] at this
  exact this
 have hone : ∀ u ∈ mcells (ms.drop (i + 1)),u.oneCell' = true:=mcells_one _
 have hpre : OwnM w.drew base (.slice (some ⟨g,0,none⟩) i cap) (ms.take i):=by
  have hil : (ms.take i).length = i:=by rw [List.length_take]; omega
  refine ⟨by rw [mcells_length],.inr ⟨g,cap,cur,by rw [hil],hbg,hg,by rw [hil]; omega,hcm,hcs,?_⟩⟩
  rw [hil]
  have e : mcells ms = mcells (ms.take i) ++ mcells (ms.drop i):=by rw [<- mcells_append,List.take_append_drop]
  have hlt : (mcells (ms.take i)).length = i * 2:=by rw [mcells_length,hil]
  have h2 : cur.toList.take (i * 2) = (cur.toList.take ((m + 1) * 2)).take (i * 2):=by rw [List.take_take]; congr 1; omega
  rw [h2,htk,e,<- hlt,List.take_left]
 obtain ⟨W1,hW1⟩ : ∃ W1,w.drew.setRow g (cur.toList.take (i * i0.size) ++ mcells (ms.drop (i + 1)) ++ cur.toList.drop (i * i0.size + (mcells (ms.drop (i + 1))).length)).toArray = W1:=⟨_,rfl⟩
 have hres : ∀ (ad : Addr) (c : Nat),(0 < m - i -> ad = ⟨g,(i + 1) * 2,none⟩) -> (Builtin.append_ #[24,24] 24 #[.slice (some ⟨g,0,none⟩) i cap,.slice (some ad) (m - i) c]).run Tryz.prog w.drew = .ok (.slice (some ⟨g,0,none⟩) m cap) W1:=by
  intro ad c had
  have:=run_append_room (P:=Tryz.prog) (w:=w.drew) 24 24 70 i0 Tryz.underlying24 hi0 g i cap cur hg ad (m - i) c (mcells (ms.drop (i + 1))) (by rw [hz1]; exact hnews) (hread ad had) hone (by omega) (by rw [hz1,hnews,hcs]; omega)
  rw [hW1,show i + (m - i) = m by omega] at this
  exact this
 have hW1own : OwnM W1 base (.slice (some ⟨g,0,none⟩) m cap) (ms.take i ++ ms.drop (i + 1)) /\ Below base w W1:=by
  have hil : (ms.take i).length = i:=by rw [List.length_take]; omega
  obtain ⟨v',w',k1,k2,k3,_⟩:=run_append_own (P:=Tryz.prog) (w:=w.drew) base 24 24 70 i0 (.agg #[Value.int .i64 0,Value.int .i64 0]) 2 16 Tryz.underlying24 hi0 hz0 hz1 hz2 rfl (by decide)
   (.slice (some ⟨g,0,none⟩) i cap) i (mcells (ms.take i)) (by have h3 : w.drew.ownsRow base 70 2 (.slice (some ⟨g,0,none⟩) i cap) (ms.take i).length (mcells (ms.take i)):=hpre; rw [hil] at h3; exact h3) ⟨g,(i + 1) * 2,none⟩ (m - i) 0 (mcells (ms.drop (i + 1))) hnews (hread _ (fun _ => rfl)) hone (by unfold maxLen; omega) (by omega) hbase
  rw [hres ⟨g,(i + 1) * 2,none⟩ 0 (fun _ => rfl)] at k1
  injection k1 with k1 k4
  subst k1 k4
  refine ⟨?_,(Below.refl _ w).drew.grown k3 hbase (fun k hk => (hpre.lt k hk).1)⟩
  have hlen : (ms.take i ++ ms.drop (i + 1)).length = m:=by rw [List.length_append,hil,List.length_drop]; omega
  show W1.ownsRow _ _ _ _ _ _
  rw [hlen,mcells_append]
  have:=k2
  rw [show i + (m - i) = m by omega] at this
  exact this
 obtain ⟨hO1,hb1⟩:=hW1own
 have hlen : (ms.take i ++ ms.drop (i + 1)).length = m:=by rw [List.length_append,List.length_take,List.length_drop]; omega
 obtain ⟨g2,cap2,cur2,e1,_,hg2,hnc2,hcm2,hcs2,htk2⟩:=hO1.2.resolve_left (fun h => by simp at h)
 injection e1 with e1 e2 e3
 injection e1 with e1
 injection e1 with e1
 subst e1 e3
 clear e2
 have hclr : ∀ ty c,(Builtin.clear_ #[24] ty #[.slice (some ⟨g,m * 2,none⟩) 1 c]).run Tryz.prog W1 = .ok (.tuple #[]) (W1.setRow g (cur2.toList.take (m * 2) ++ [Value.int .i64 0,Value.int .i64 0] ++ cur2.toList.drop (m * 2 + 2)).toArray):=fun ty c => run_clear_one ty hg2 (by rw [hcs2]; omega)
 obtain ⟨W2,hW2⟩ : ∃ W2,W1.setRow g (cur2.toList.take (m * 2) ++ [Value.int .i64 0,Value.int .i64 0] ++ cur2.toList.drop (m * 2 + 2)).toArray = W2:=⟨_,rfl⟩
 rw [hW2] at hclr
 have hO2 : OwnM W2 base (.slice (some ⟨g,0,none⟩) m cap) (ms.take i ++ ms.drop (i + 1)):=by
  refine ⟨hO1.1,.inr ⟨g,cap,_,by rw [hlen],hbg,by rw [<- hW2]; exact setRow_heap W1 g cur2 _ 70 (0,0) hg2,by omega,hcm,?_,?_⟩⟩
  ·simp only [List.size_toArray,List.length_append,List.length_take,List.length_drop,Array.length_toList,List.length_cons,List.length_nil]
   rw [hcs2]; omega
  ·rw [hlen] at htk2 ⊢
   rw [List.append_assoc]
   have : (cur2.toList.take (m * 2)).length = m * 2:=by rw [List.length_take,Array.length_toList,hcs2]; omega
   rw [<- htk2]
   exact List.take_left' this
 have hb2 : Below base w W2:=hb1.trans (by
  rw [<- hW2]
  refine (Below.refl base W1).grown (row:=some g) ⟨rfl,rfl,rfl,by simp [World.setRow],fun k _ hk => setRow_other W1 g k _ (fun e => hk (by rw [e]))⟩ (Nat.le_trans hbase hb1.size) (fun k hk => by injection hk with hk; omega))
 have HO2:=Lib.hid hO2
 have HB2:=Lib.hid hb2
 clear hO1 hO2 hb1 hb2 hW1 hW2 hg2 hcs2 htk2 hpre hread hnews hone hown htk hcs hg
 have HRES:=Lib.hid hres
 have HCLR:=Lib.hid hclr
 clear hres hclr hm hlen
 have f1 : ((i : Int) <= (i : Int) + 1) = True:=eq_true (by omega)
 have f2 : ((i : Int) + 1 <= (m : Int) + 1) = True:=eq_true (by omega)
 have f3 : ((m : Int) + 1 <= (cap : Int)) = True:=eq_true (by omega)
 have f4 : ((i : Int) == (i : Int) + 1) = false:=by simp; omega
 have f5 : ((i : Int) <= (cap : Int)) = True:=eq_true (by omega)
 have f6 : ((m : Int) <= (m : Int) + 1) = True:=eq_true (by omega)
 have f7 : (cap = m) = False:=eq_false (by omega)
 have f8 : ((i : Int) + 1 <= (cap : Int)) = True:=eq_true (by omega)
 go_enter Tryz.func175,Tryz.ntmps175
 have f0 : ((0 : Int) <= (i : Int) + 1) = True:=eq_true (by omega)
 have hcase : (cap = m + 1 /\ i = m) \/ ¬ cap = i + 1:=by
  by_cases h : cap = i + 1
  ·exact .inl ⟨by omega,by omega⟩
  ·exact .inr h
 rcases hcase with ⟨rfl,rfl⟩ | f9
 rotate_left
 ·have H0:=Lib.hid (HRES.out ⟨g,(i + 1) * 2,none⟩ (cap - (i + 1)) (fun _ => rfl))
  clear HRES
  go_wp2_with fail
  refine St.wp_region_tail 6 (fun _ wx => wx = w.drew) (by kernel_rfl) (by kernel_rfl) (by kernel_rfl) (by kernel_rfl) (by decide) rfl ?_
  simp only [List.take,List.drop]
  repeat
   (apply St.step_give
    ·rfl
    ·rintro L wx rfl hcl hrd
     go_simp
     try with_reducible rfl
    ·exact fun L wx hS => hS
    simp only [Act.put,St.pu])
  refine St.step_last ?_
  rintro L wx rfl -
  go_wp2_with (at_builtin; refine wpList_run_builtin rfl rfl rfl rfl H0.out ?_)
  go_wp2_with fail
  rw [HCLR.out 0 (cap - m)]
  go_wp2_with fail
  go_ret
  exact ⟨rfl,HO2.out,HB2.out⟩
 ·have H0:=HRES.out ⟨g,0,none⟩ 0 (by intro h; exfalso; omega)
  rw [Nat.sub_self] at H0
  have H0:=Lib.hid H0
  clear HRES
  go_wp2_with fail
  refine St.wp_region_tail 6 (fun _ wx => wx = w.drew) (by kernel_rfl) (by kernel_rfl) (by kernel_rfl) (by kernel_rfl) (by decide) rfl ?_
  simp only [List.take,List.drop]
  repeat
   (apply St.step_give
    ·rfl
    ·rintro L wx rfl hcl hrd
     go_simp
     try with_reducible rfl
    ·exact fun L wx hS => hS
    simp only [Act.put,St.pu])
  refine St.step_last ?_
  rintro L wx rfl -
  go_wp2_with (at_builtin; refine wpList_run_builtin rfl rfl rfl rfl H0.out ?_)
  go_wp2_with fail
  rw [HCLR.out 0 1]
  go_wp2_with fail
  go_ret
  exact ⟨rfl,HO2.out,HB2.out⟩
end Go.Proofs.YthcmnkmfhgoddaaGreatDoor.Ds

namespace Go.Proofs.YthcmnkmfhgoddaaGreatDoor.Ds
open Go.RowKit Bnd
open Go.Proofs.YthcmnkmfhgoddaaGreatDoor.O (Bd isB keyB hasB)
theorem place_of {i : Int} {x : Mem} : ∀ {l : List Mem},l.Pairwise (fun a b => a.2 < b.2) -> hasM i l = some x -> ∃ p,∃ hp : p < l.length,l[p] = x /\ (∀ j (h : j < p),l[j]'(by omega) ≠ x) /\ dropM i l = l.take p ++ l.drop (p + 1)
 | y :: l,hp,h => by
  rw [List.pairwise_cons] at hp
  rw [hasM] at h
  by_cases e : y.2 = i
  ·rw [if_pos e] at h
   obtain rfl:=Option.some.inj h
   refine ⟨0,by simp,rfl,fun j hj => by omega,?_⟩
   unfold dropM
   rw [List.filter_cons_of_neg (by simpa using e),List.filter_eq_self.2]
   ·simp
   ·intro m hm
    have:=hp.1 m hm
    simp; omega
  ·rw [if_neg e] at h
   obtain ⟨p,hpl,h1,h2,h3⟩:=place_of hp.2 h
   refine ⟨p + 1,by simp; omega,by simpa using h1,fun j hj => ?_,?_⟩
   ·cases j with
    | zero =>
     intro he
     have h4:=(hasM_some h).2
     have he' : y = x:=he
     rw [<- he'] at h4
     exact e h4
    | succ j => simpa using h2 j (by omega)
   ·unfold dropM at *
    rw [List.filter_cons_of_pos (by simpa using e),h3]
    simp
set_option maxHeartbeats 8000000 in
set_option maxRecDepth 100000 in
theorem remove_any (d : De) (s : Value) (i : Int) (w : World) (hl : ArgM w s d.ms) (fl : Fit d) :
  Calls Tryz.prog 97 #[dv d s,.int .i64 i] w fun e w' => Gave w (removeD d i) e w':=by
 obtain ⟨A,c,rfl⟩:=hl.form
 have kl : ∀ w1,Below w.heap.size w w1 -> ArgM w1 (.slice A d.ms.length c) d.ms:=fun w1 hb => hl.keep hb
 have c1:=fun w hs => check_any d (.slice A d.ms.length c) w hs (by have:=fl.n; omega) fl.f fl.t
 have c3:=fun w hs => has_any d (.slice A d.ms.length c) i w hs (by have:=fl.n; omega)
 cases h1 : isD d with
 | false =>
  have hr : removeD d i = (De.zero,60):=by unfold removeD; rw [if_neg (by simp [h1])]
  rw [hr]
  rw [chkD_no h1] at c1
  clear hr h1
  go_enter Tryz.func97,Tryz.ntmps97
  go_wp2_with fail
  refine (c1 _ (kl _ (by exact bex0)).sm).mono ?_
  rintro e w1 ⟨rfl,b1⟩
  obtain ⟨B0,B1,hb⟩:=boxes2 d (.slice A d.ms.length c) b1
  obtain ⟨p_0,⟨p_1,p_2,p_3,p_4,p_5,p_6⟩,p_7⟩:=id B1
  clear b1
  go_wp2_with fail
  exact bodyPost_ret (res_box_tmp Tryz.results97 rfl rfl (BoxD.put B1 De.zero (.slice none 0 0))) rfl (Gave.zero (by exact bex0))
 | true =>
  rw [chkD_yes h1] at c1
  cases h3 : hasM i d.ms with
  | none =>
   have hr : removeD d i = (De.zero,7):=by unfold removeD; rw [if_pos h1,if_neg (by rw [h3]; simp)]
   rw [hr]
   rw [h3] at c3
   simp only [optV] at c3
   clear hr h1 h3
   go_enter Tryz.func97,Tryz.ntmps97
   go_wp2_with fail
   refine (c1 _ (kl _ (by exact bex0)).sm).mono ?_
   rintro e w1 ⟨rfl,b1⟩
   obtain ⟨B0,B1,hb⟩:=boxes2 d (.slice A d.ms.length c) b1
   obtain ⟨o_0,⟨o_1,o_2,o_3,o_4,o_5,o_6⟩,o_7⟩:=id B0
   clear b1
   go_wp2_with fail
   refine (c3 _ (kl _ hb).sm).mono ?_
   rintro e w2 ⟨rfl,b2⟩
   have C1:=B1.keep b2
   have hb2 : Below w.heap.size w w2:=hb.trans (b2.mono hb.size)
   have hz2:=hb2.size
   clear o_0 o_1 o_2 o_3 o_4 o_5 o_6 o_7
   obtain ⟨p_0,⟨p_1,p_2,p_3,p_4,p_5,p_6⟩,p_7⟩:=id C1
   clear b2
   go_wp2_with fail
   exact bodyPost_ret (res_box_tmp Tryz.results97 rfl rfl ((BoxD.put C1 De.zero (.slice none 0 0)).alloc _)) rfl (Gave.zero (by exact bex0))
  | some x =>
   obtain ⟨x1,x2⟩:=x
   rw [h3] at c3
   simp only [optV] at c3
   by_cases h4 : d.ms.length = 1
   ·have hr : removeD d i = (De.zero,2):=by unfold removeD; rw [if_pos h1,if_pos (by rw [h3]; rfl),if_pos h4]
    rw [hr]
    have n1 : ((d.ms.length : Int) == 1) = true:=by simp; omega
    have n2 : ((d.ms.length : Int) = 1) = True:=eq_true (by omega)
    clear hr h1 h3 h4
    go_enter Tryz.func97,Tryz.ntmps97
    go_wp2_with fail
    refine (c1 _ (kl _ (by exact bex0)).sm).mono ?_
    rintro e w1 ⟨rfl,b1⟩
    obtain ⟨B0,B1,hb⟩:=boxes2 d (.slice A d.ms.length c) b1
    obtain ⟨o_0,⟨o_1,o_2,o_3,o_4,o_5,o_6⟩,o_7⟩:=id B0
    clear b1
    go_wp2_with fail
    refine (c3 _ (kl _ hb).sm).mono ?_
    rintro e w2 ⟨rfl,b2⟩
    have C0:=B0.keep b2
    have C1:=B1.keep b2
    have hb2 : Below w.heap.size w w2:=hb.trans (b2.mono hb.size)
    have hz2:=hb2.size
    clear o_0 o_1 o_2 o_3 o_4 o_5 o_6 o_7
    obtain ⟨o_0,⟨o_1,o_2,o_3,o_4,o_5,o_6⟩,o_7⟩:=id C0
    obtain ⟨p_0,⟨p_1,p_2,p_3,p_4,p_5,p_6⟩,p_7⟩:=id C1
    clear b2
    go_wp2_with fail
    exact bodyPost_ret (res_box_tmp Tryz.results97 rfl rfl ((BoxD.put C1 De.zero (.slice none 0 0)).alloc _)) rfl (Gave.zero (by exact bex0))
   ·obtain ⟨P,hP,hPx,hPb,hdrop⟩:=place_of (isD_parts h1).2.1 h3
    obtain ⟨M,hM⟩ : ∃ M,d.ms.length = M + 1:=⟨d.ms.length - 1,by omega⟩
    obtain ⟨ls,hls⟩ : ∃ ls,d.ms.take P ++ d.ms.drop (P + 1) = ls:=⟨_,rfl⟩
    obtain ⟨D,hD⟩ : ∃ D,({ d with ms:=ls,gen:=d.gen + 1 } : De) = D:=⟨_,rfl⟩
    have hr : removeD d i = okD D:=by unfold removeD; rw [if_pos h1,if_pos (by rw [h3]; rfl),if_neg h4,hdrop,hls,hD]
    obtain ⟨p,q,hpq⟩ : ∃ p q,okD D = (p,q):=⟨_,_,rfl⟩
    rw [hr,hpq]
    have n1 : ((d.ms.length : Int) == 1) = false:=by simp; omega
    have n2 : ((d.ms.length : Int) = 1) = False:=eq_false (by omega)
    have c4:=fun w hv => raised_any d (.slice A d.ms.length c) d.gen w hv fl.n (by have:=isD_gen h1; omega) (by have:=isD_gen h1; omega)
    have hle : d.ms.length <= 1000:=fl.n
    have hlsl : ls.length = M:=by rw [<- hls,List.length_append,List.length_take,List.length_drop]; omega
    have HPQ:=Lib.hid hpq
    have HD:=Lib.hid hD
    have HM:=Lib.hid hM
    have HLL:=Lib.hid hlsl
    have hPM : P <= M:=by omega
    have hP1 : P <= 1000:=by omega
    have hg0:=isD_gen h1
    have c5:=fun v w (hv : SM w w.heap.size v d.ms) => index_any v d.ms (x1,x2) P w hv (by omega) hP hPx hPb
    have c6 : ∀ (g cap base : Nat) (w : World),OwnM w base (.slice (some ⟨g,0,none⟩) d.ms.length cap) d.ms -> base <= w.heap.size -> Calls Tryz.prog 175 #[.slice (some ⟨g,0,none⟩) d.ms.length cap,.int .i64 (P : Int),.int .i64 ((P : Int) + 1)] w fun e w' => e = .returned (.slice (some ⟨g,0,none⟩) M cap) /\ OwnM w' base (.slice (some ⟨g,0,none⟩) M cap) ls /\ Below base w w':=by
     intro g cap base w ho hb
     have:=delete_any g cap base d.ms M P w hM (by rw [<- hM]; exact ho) hPM (by omega) hb
     rw [hls,<- hM] at this
     exact this
    clear hr h1 h3 h4 hpq hD hM hls hlsl hdrop hP hPx hPb
    go_enter Tryz.func97,Tryz.ntmps97
    go_wp2_with fail
    refine (c1 _ (kl _ (by exact bex0)).sm).mono ?_
    rintro e w1 ⟨rfl,b1⟩
    obtain ⟨B0,B1,hb⟩:=boxes2 d (.slice A d.ms.length c) b1
    obtain ⟨o_0,⟨o_1,o_2,o_3,o_4,o_5,o_6⟩,o_7⟩:=id B0
    clear b1
    go_wp2_with fail
    refine (c3 _ (kl _ hb).sm).mono ?_
    rintro e w2 ⟨rfl,b2⟩
    have C0:=B0.keep b2
    have C1:=B1.keep b2
    have hb2 : Below w.heap.size w w2:=hb.trans (b2.mono hb.size)
    have hz2:=hb2.size
    have hl2 : w.heap.size < w2.heap.size:=C0.1
    clear o_0 o_1 o_2 o_3 o_4 o_5 o_6 o_7
    obtain ⟨o_0,⟨o_1,o_2,o_3,o_4,o_5,o_6⟩,o_7⟩:=id C0
    clear b2 B0 B1
    go_wp2_with fail
    refine (c4 _ ((kl _ hb2).keep ((Below.refl _ w2).alloc (Nat.le_refl _) _))).mono ?_
    rintro e w3 ⟨s',rfl,hown,b3⟩
    have hx1 : w3.cell? ⟨w2.heap.size,0,none⟩ = some (.int .i64 x1):=by rw [b3.cell (p:=⟨w2.heap.size,0,none⟩) (by simp)]; simp [go_sem]
    have hx2 : w3.cell? ⟨w2.heap.size,1,none⟩ = some (.int .i64 x2):=by rw [b3.cell (p:=⟨w2.heap.size,1,none⟩) (by simp)]; simp [go_sem]
    have E0:=(C0.alloc _).keep b3
    have E1:=(C1.alloc _).keep b3
    obtain ⟨g,cap,rfl,hbg⟩ : ∃ g cap,s' = .slice (some ⟨g,0,none⟩) d.ms.length cap /\ w2.heap.size + 1 <= g:=by
     rcases hown.2 with ⟨_,h0⟩ | ⟨g,cap,_,h,hb,_⟩
     ·exfalso; have:=HM.out; omega
     ·exact ⟨g,cap,h,by simpa using hb⟩
    have hown1:=own_base (base':=w.heap.size + 2) hown (by have:=C1.1; simp; omega)
    have hb3 : Below w.heap.size w w3:=(hb2.alloc hz2 _).trans (b3.mono (by simp; omega))
    have hz3:=hb3.size
    have hne : (w2.heap.size = w.heap.size) = False:=eq_false (by omega)
    have hne2 : (w.heap.size = w2.heap.size) = False:=eq_false (by omega)
    have hz31:=E1.1
    clear o_0 o_1 o_2 o_3 o_4 o_5 o_6 o_7
    obtain ⟨o_0,⟨o_1,o_2,o_3,o_4,o_5,o_6⟩,o_7⟩:=id E0
    clear b3 hown C0 C1
    go_wp2_with fail
    obtain ⟨W8,hW8⟩ : ∃ W8,((((((w3.setCell ⟨w.heap.size,0,none⟩ (.int .i64 d.id)).setCell ⟨w.heap.size,1,none⟩ (.string d.f)).setCell ⟨w.heap.size,2,none⟩ (.string d.t)).setCell ⟨w.heap.size,3,none⟩ (.int .i64 (d.gen + 1))).setCell ⟨w.heap.size,4,none⟩ (.slice (some ⟨g,0,none⟩) d.ms.length cap)).setCell ⟨w.heap.size,5,none⟩ (.int .i64 d.next)) = W8:=⟨_,rfl⟩
    have E8 : BoxD w.heap.size { d with gen:=d.gen + 1 } (.slice (some ⟨g,0,none⟩) d.ms.length cap) W8:=by rw [<- hW8]; exact BoxD.put E0 { d with gen:=d.gen + 1 } _
    have E18 : BoxD (w.heap.size + 1) De.zero (.slice none 0 0) W8:=by
     rw [<- hW8]
     clear hl
     (repeat' (first | with_reducible assumption | with_reducible refine BoxD.other ?_ ?_ _ | with_reducible refine BoxD.alloc ?_ _ | with_reducible refine BoxD.drew ?_ | omega | (simp; done) | (simp; omega)))
    have own8 : OwnM W8 (w.heap.size + 2) (.slice (some ⟨g,0,none⟩) d.ms.length cap) d.ms:=by
     rw [<- hW8]
     clear hl
     (repeat' (first | with_reducible assumption | with_reducible refine own_set ?_ ?_ _ | with_reducible refine own_alloc ?_ _ | with_reducible refine own_drew ?_ | omega | (simp; done) | (simp; omega)))
    have hb8 : Below w.heap.size w W8:=by
     rw [<- hW8]
     (exact bex0)
    rw [hW8]
    clear o_0 o_1 o_2 o_3 o_4 o_5 o_6 o_7
    clear hW8 E0 E1 hown1 hx1 hx2
    refine (c5 _ W8 (SM.of_own own8)).mono ?_
    rintro e w4 ⟨rfl,b4⟩
    have E4:=E8.keep b4
    have E14:=E18.keep b4
    have own4:=own_keep own8 b4
    have hb4 : Below w.heap.size w w4:=hb8.trans (b4.mono hb8.size)
    have hz4 : w.heap.size + 2 <= w4.heap.size:=by have:=E14.1; omega
    obtain ⟨o_0,⟨o_1,o_2,o_3,o_4,o_5,o_6⟩,o_7⟩:=id E4
    simp only at o_1 o_2 o_3 o_4 o_5 o_6
    have O4:=Lib.hid own4
    clear b4 E8 E18 own8 own4 c5
    go_wp2_with fail
    refine (c6 g cap (w.heap.size + 2) w4 O4.out hz4).mono ?_
    rintro e w5 ⟨rfl,own5,b5⟩
    have E5:=E4.kept (N:=w.heap.size + 2) (by omega) b5
    have E15:=E14.kept (N:=w.heap.size + 2) (by omega) b5
    have hb5 : Below w.heap.size w w5:=hb4.trans (b5.mono (by omega))
    have hz5:=hb5.size
    have O5:=Lib.hid own5
    obtain ⟨s2,hs2,ha2⟩:=okV_spec D (.slice (some ⟨g,0,none⟩) M cap)
    have hDm : D.ms = ls:=by rw [<- HD.out]
    have cc : ∀ w1,SM w1 w1.heap.size (.slice (some ⟨g,0,none⟩) M cap) ls -> Calls Tryz.prog 137 #[.agg #[.int .i64 d.id,.string d.f,.string d.t,.int .i64 (d.gen + 1),.slice (some ⟨g,0,none⟩) M cap,.int .i64 d.next]] w1 fun e w' => e = .returned (okV D (.slice (some ⟨g,0,none⟩) M cap)) /\ Below w1.heap.size w1 w':=by
     intro w1 hs
     have h:=checked_any D (.slice (some ⟨g,0,none⟩) M cap) w1 (by rw [hDm]; exact hs) (by rw [hDm,HLL.out]; have:=HM.out; omega) (by rw [<- HD.out]; exact fl.f) (by rw [<- HD.out]; exact fl.t)
     have e : dv D (.slice (some ⟨g,0,none⟩) M cap) = .agg #[.int .i64 d.id,.string d.f,.string d.t,.int .i64 (d.gen + 1),.slice (some ⟨g,0,none⟩) M cap,.int .i64 d.next]:=by rw [<- HD.out]
     rw [e] at h; exact h
    rw [hs2,HPQ.out] at cc
    rw [HPQ.out,hDm] at ha2
    simp only at cc ha2
    obtain ⟨A4,c4',rfl⟩:=(ha2 _ (ArgM.of_own own5)).form
    have HA:=Lib.hid ha2
    clear o_0 o_1 o_2 o_3 o_4 o_5 o_6 o_7
    obtain ⟨o_0,⟨o_1,o_2,o_3,o_4,o_5,o_6⟩,o_7⟩:=id E5
    simp only at o_1 o_2 o_3 o_4 o_5 o_6
    clear b5 E4 E14 own5 c6 hs2 ha2 hDm
    go_wp2_with fail
    refine (cc _ (SM.of_own (own_set O5.out (by show w.heap.size < w.heap.size + 2; omega) _))).mono ?_
    rintro e w6 ⟨rfl,b6⟩
    have F1 : BoxD (w.heap.size + 1) De.zero (.slice none 0 0) w6:=(E15.other (by simp) _).keep b6
    have O6:=Lib.hid (own_keep (own_set O5.out (a:=⟨w.heap.size,4,none⟩) (by show w.heap.size < w.heap.size + 2; omega) (.slice (some ⟨g,0,none⟩) M cap)) b6)
    have hb6 : Below w.heap.size w w6:=(hb5.setCell (p:=⟨w.heap.size,4,none⟩) (Nat.le_refl _) _).trans (b6.mono (by simpa using hz5))
    clear o_0 o_1 o_2 o_3 o_4 o_5 o_6 o_7
    obtain ⟨o_0,⟨o_1,o_2,o_3,o_4,o_5,o_6⟩,o_7⟩:=id F1
    clear b6 E5 E15 cc
    go_wp2_with fail
    refine bodyPost_ret (res_box_tmp Tryz.results97 rfl rfl (BoxD.put F1 p (.slice A4 p.ms.length c4'))) rfl ⟨_,rfl,HA.out _ (ArgM.of_own (base:=w.heap.size + 2) ?_),(by exact bex0)⟩
    have:=O6.out
    clear hl
    (repeat' (first | with_reducible assumption | with_reducible refine own_set ?_ ?_ _ | with_reducible refine own_alloc ?_ _ | with_reducible refine own_drew ?_ | omega | (simp; done) | (simp; omega)))
end Go.Proofs.YthcmnkmfhgoddaaGreatDoor.Ds

namespace Go.Proofs.YthcmnkmfhgoddaaGreatDoor.Pt
open Go.RowKit Bnd
open Go.Proofs.YthcmnkmfhgoddaaGreatDoor.Ds (De SM ArgM putT isD dv addD removeD)
open Go.Proofs.YthcmnkmfhgoddaaGreatDoor.Od (Rep BoxR rv E0 av)
open Go.Proofs.YthcmnkmfhgoddaaGreatDoor.Dp (Ph BoxP qv HA HP)
open Go.Proofs.YthcmnkmfhgoddaaGreatDoor.Mb (changeD isCh)
def Oc.zero : Oc:=⟨Ph.zero,Od.Rep.zero,.slice none 0 0,Fh.zero⟩
set_option maxHeartbeats 16000000 in
set_option maxRecDepth 100000 in
theorem failed_any (o : Ph) (n : Int) (w : World) (h : HP w w.heap.size o) : Calls Tryz.prog 234 #[qv o,.int .i64 n] w fun e w' => e = .returned (cv ⟨o,badR n,.slice none 0 0,Fh.zero⟩) /\ Below w.heap.size w w':=by
 obtain ⟨d,ps,zs,fr,ea,al,A,B,C,D,a,b,c,e,rfl⟩:=h.open
 clear h
 obtain ⟨nm,hnm⟩ : ∃ n,d.ms.length = n:=⟨_,rfl⟩
 obtain ⟨np,hnp⟩ : ∃ n,ps.length = n:=⟨_,rfl⟩
 obtain ⟨nz,hnz⟩ : ∃ n,zs.length = n:=⟨_,rfl⟩
 obtain ⟨ne,hne⟩ : ∃ n,ea.length = n:=⟨_,rfl⟩
 rw [hnm,hnp,hnz,hne]
 clear hnm hnp hnz hne
 obtain ⟨W0,hW0⟩ : ∃ W0,(w.alloc (.cells #[.int .i64 d.id,.string d.f,.string d.t,.int .i64 d.gen,.slice A nm a,.int .i64 d.next,.slice B np b,.slice C nz c,.bool fr,.slice D ne e,.int .i64 al] 38)).alloc (.cells #[.int .i64 0,.string ⟨#[]⟩,.string ⟨#[]⟩,.int .i64 0,.slice none 0 0,.int .i64 0,.slice none 0 0,.slice none 0 0,.bool false,.slice none 0 0,.int .i64 0,.int .i64 0,.int .i64 0,.bool false,.string ⟨#[]⟩,.slice none 0 0,.bool false,.int .i64 0,.string ⟨#[]⟩,.string ⟨#[]⟩,.int .i64 0,.slice none 0 0,.int .i64 0,.slice none 0 0,.slice none 0 0,.bool false,.slice none 0 0,.int .i64 0,.int .i64 0] 158) = W0:=⟨_,rfl⟩
 have BP : BoxP w.heap.size ⟨d,.slice A nm a,ps,.slice B np b,zs,.slice C nz c,fr,ea,.slice D ne e,al⟩ W0:=hW0 ▸ (BoxP.new w ⟨d,.slice A nm a,ps,.slice B np b,zs,.slice C nz c,fr,ea,.slice D ne e,al⟩).alloc _
 have BC : BoxC (w.heap.size + 1) Oc.zero W0:=by rw [<- hW0,<- World.size_alloc w (.cells #[.int .i64 d.id,.string d.f,.string d.t,.int .i64 d.gen,.slice A nm a,.int .i64 d.next,.slice B np b,.slice C nz c,.bool fr,.slice D ne e,.int .i64 al] 38)]; exact BoxC.new _ Oc.zero
 have hb0 : Below w.heap.size w W0:=hW0 ▸ (by exact bex0)
 have hbox : ∀ wx,Below W0.heap.size W0 wx -> BoxP w.heap.size ⟨d,.slice A nm a,ps,.slice B np b,zs,.slice C nz c,fr,ea,.slice D ne e,al⟩ wx:=fun wx hx => BP.keep hx
 have cb:=fun w => bad_any n w
 clear BP
 go_enter Tryz.func234,Tryz.ntmps234
 go_wp2_with fail
 try rw [hW0]
 refine St.wp_region_tail 4 (fun _ wx => Below W0.heap.size W0 wx) (by kernel_rfl) (by kernel_rfl) (by kernel_rfl) (by kernel_rfl) (by decide) (Below.refl _ _).drew ?_
 simp only [List.take,List.drop]
 apply St.step_give
 ·rfl
 ·intro L wx hS hcl hrd
  obtain ⟨_,⟨d0,d1,d2,d3,d4,d5,d6,d7,d8,d9,d10⟩,_⟩:=hbox wx hS
  go_simp
  try with_reducible rfl
 ·exact fun L wx hS => hS
 simp only [Act.put,St.pu]
 apply St.step_give
 ·rfl
 ·intro L wx hS hcl hrd
  skip
  go_simp
  try with_reducible rfl
 ·exact fun L wx hS => hS
 simp only [Act.put,St.pu]
 apply St.step_into
 ·rfl
 ·intro wx
  go_simp
  exact ⟨rfl,rfl⟩
 ·intro L wx hS hcl hrd
  refine (cb wx).mono ?_
  rintro e' w' ⟨rfl,b⟩
  exact ⟨rfl,hS.trans (b.mono hS.size)⟩
 simp only [Act.put,St.pu]
 apply St.step_give
 ·rfl
 ·intro L wx hS hcl hrd
  skip
  go_simp
  try with_reducible rfl
 ·exact fun L wx hS => hS
 simp only [Act.put,St.pu]
 refine St.step_last ?_
 intro L wx hS _
 have BC1:=BC.keep hS
 have hb1:=hb0.trans (hS.mono hb0.size)
 have hlt:=BC1.lt
 clear hW0 hbox cb BC hS hb0
 refine wpList_storeC (o:=⟨⟨d,.slice A nm a,ps,.slice B np b,zs,.slice C nz c,fr,ea,.slice D ne e,al⟩,badR n,.slice none 0 0,Fh.zero⟩) rfl rfl rfl rfl BC1 (oneC _ rfl rfl rfl rfl rfl rfl rfl rfl rfl) ?_
 have BC2:=BC1.put' ⟨⟨d,.slice A nm a,ps,.slice B np b,zs,.slice C nz c,fr,ea,.slice D ne e,al⟩,badR n,.slice none 0 0,Fh.zero⟩
 have hb2:=putL_below (l:=(arrBoxC ⟨⟨d,.slice A nm a,ps,.slice B np b,zs,.slice C nz c,fr,ea,.slice D ne e,al⟩,badR n,.slice none 0 0,Fh.zero⟩).toList) (i:=0) hb1 (Nat.le_succ w.heap.size)
 generalize putL _ _ _ _ = WF at BC2 hb2 ⊢
 clear BC1 hb1 hlt
 go_wp2_with fail
 exact bodyPost_ret (res_BoxC Tryz.results234 rfl BC2) rfl ⟨rfl,hb2⟩
theorem boxP_d6 {n : Nat} {o : Ph} {w1 : World} (h : BoxP n o w1) (d : De) (s : Value) :
  BoxP n { o with d:=d,sm:=s } (World.setCell (World.setCell (World.setCell (World.setCell (World.setCell (World.setCell w1 ⟨n,0,none⟩ (.int .i64 d.id)) ⟨n,1,none⟩ (.string d.f)) ⟨n,2,none⟩ (.string d.t)) ⟨n,3,none⟩ (.int .i64 d.gen)) ⟨n,4,none⟩ s) ⟨n,5,none⟩ (.int .i64 d.next)):=by
 obtain ⟨h0,⟨h1,h2,h3,h4,h5,h6,h7,h8,h9,h10,h11⟩,hf⟩:=h
 refine ⟨by simpa using h0,⟨?_,?_,?_,?_,?_,?_,?_,?_,?_,?_,?_⟩,fun o => by simp [World.frozen?_setCell,hf]⟩
 all_goals simp [go_sem,h1,h2,h3,h4,h5,h6,h7,h8,h9,h10,h11]
def turnOc (o : Ph) (c : De × Int) (s : Value) : Oc:=if c.2 = 0 then ⟨{ o with d:=c.1,sm:=s },toldR 0 false (putT c.1),.slice none 0 0,Fh.zero⟩ else ⟨o,badR c.2,.slice none 0 0,Fh.zero⟩
theorem turnOc_out (o : Ph) (c : De × Int) (s : Value) : (turnOc o c s).out = becameP o.pl c:=by
 unfold turnOc becameP
 split <;> rfl
set_option maxHeartbeats 16000000 in
set_option maxRecDepth 100000 in
theorem became_any (o : Ph) (g : De) (s : Value) (n : Int) (w : World) (h : HP w w.heap.size o) (hs : SM w w.heap.size s g.ms) (hg : n = 0 -> isD g = true) :
  Calls Tryz.prog 189 #[qv o,dv g s,.int .i64 n] w fun e w' => e = .returned (cv (turnOc o (g,n) s)) /\ Below w.heap.size w w':=by
 have cf:=fun w' (hb : Below w.heap.size w w') => failed_any o n w' ((h.below hb).more hb.size)
 have cp:=fun w' (hb : Below w.heap.size w w') (hn : n = 0) => put_is g s w' ((hs.below hb).more hb.size) (hg hn)
 obtain ⟨G,cg,rfl⟩:=hs.form
 obtain ⟨ng,hng⟩ : ∃ n,g.ms.length = n:=⟨_,rfl⟩
 rw [hng] at cp ⊢
 obtain ⟨d,ps,zs,fr,ea,al,A,B,C,D,a,b,c,e,rfl⟩:=h.open
 clear h hs hg hng
 obtain ⟨nm,hnm⟩ : ∃ n,d.ms.length = n:=⟨_,rfl⟩
 obtain ⟨np,hnp⟩ : ∃ n,ps.length = n:=⟨_,rfl⟩
 obtain ⟨nz,hnz⟩ : ∃ n,zs.length = n:=⟨_,rfl⟩
 obtain ⟨ne,hne⟩ : ∃ n,ea.length = n:=⟨_,rfl⟩
 rw [hnm,hnp,hnz,hne] at cf ⊢
 clear hnm hnp hnz hne
 obtain ⟨W0,hW0⟩ : ∃ W0,((w.alloc (.cells #[.int .i64 d.id,.string d.f,.string d.t,.int .i64 d.gen,.slice A nm a,.int .i64 d.next,.slice B np b,.slice C nz c,.bool fr,.slice D ne e,.int .i64 al] 38)).alloc (.cells #[.int .i64 g.id,.string g.f,.string g.t,.int .i64 g.gen,.slice G ng cg,.int .i64 g.next] 26)).alloc (.cells #[.int .i64 0,.string ⟨#[]⟩,.string ⟨#[]⟩,.int .i64 0,.slice none 0 0,.int .i64 0,.slice none 0 0,.slice none 0 0,.bool false,.slice none 0 0,.int .i64 0,.int .i64 0,.int .i64 0,.bool false,.string ⟨#[]⟩,.slice none 0 0,.bool false,.int .i64 0,.string ⟨#[]⟩,.string ⟨#[]⟩,.int .i64 0,.slice none 0 0,.int .i64 0,.slice none 0 0,.slice none 0 0,.bool false,.slice none 0 0,.int .i64 0,.int .i64 0] 158) = W0:=⟨_,rfl⟩
 have BP : BoxP w.heap.size ⟨d,.slice A nm a,ps,.slice B np b,zs,.slice C nz c,fr,ea,.slice D ne e,al⟩ W0:=hW0 ▸ ((BoxP.new w ⟨d,.slice A nm a,ps,.slice B np b,zs,.slice C nz c,fr,ea,.slice D ne e,al⟩).alloc _).alloc _
 have BD : Ds.BoxD (w.heap.size + 1) g (.slice G ng cg) W0:=by
  rw [<- hW0,<- World.size_alloc w (.cells #[.int .i64 d.id,.string d.f,.string d.t,.int .i64 d.gen,.slice A nm a,.int .i64 d.next,.slice B np b,.slice C nz c,.bool fr,.slice D ne e,.int .i64 al] 38)]
  exact (Ds.BoxD.new _ g (.slice G ng cg)).alloc _
 have BC : BoxC (w.heap.size + 2) Oc.zero W0:=by
  have:=BoxC.new ((w.alloc (.cells #[.int .i64 d.id,.string d.f,.string d.t,.int .i64 d.gen,.slice A nm a,.int .i64 d.next,.slice B np b,.slice C nz c,.bool fr,.slice D ne e,.int .i64 al] 38)).alloc (.cells #[.int .i64 g.id,.string g.f,.string g.t,.int .i64 g.gen,.slice G ng cg,.int .i64 g.next] 26)) Oc.zero
  rw [World.size_alloc,World.size_alloc] at this
  rw [<- hW0]
  exact this
 have hb0 : Below w.heap.size w W0:=hW0 ▸ (by exact bex0)
 have hz0 : W0.heap.size = w.heap.size + 3:=by rw [<- hW0]; simp
 by_cases hn : n = 0
 ·subst hn
  rw [show turnOc ⟨d,.slice A nm a,ps,.slice B np b,zs,.slice C nz c,fr,ea,.slice D ne e,al⟩ (g,0) (.slice G ng cg) = ⟨⟨g,.slice G ng cg,ps,.slice B np b,zs,.slice C nz c,fr,ea,.slice D ne e,al⟩,toldR 0 false (putT g),.slice none 0 0,Fh.zero⟩ from rfl]
  obtain ⟨TX,hTX⟩ : ∃ T,txt (putT g) = T:=⟨_,rfl⟩
  have cq:=fun w' hb => cp w' hb rfl
  rw [show toldR 0 false (putT g) = (⟨0,0,false,txt (putT g),[]⟩ : Rep) from rfl]
  rw [hTX] at cq ⊢
  obtain ⟨W1,hW1⟩ : ∃ W1,World.setCell (World.setCell (World.setCell (World.setCell (World.setCell (World.setCell W0 ⟨w.heap.size,0,none⟩ (.int .i64 g.id)) ⟨w.heap.size,1,none⟩ (.string g.f)) ⟨w.heap.size,2,none⟩ (.string g.t)) ⟨w.heap.size,3,none⟩ (.int .i64 g.gen)) ⟨w.heap.size,4,none⟩ (.slice G ng cg)) ⟨w.heap.size,5,none⟩ (.int .i64 g.next) = W1:=⟨_,rfl⟩
  have BP1 : BoxP w.heap.size ⟨g,.slice G ng cg,ps,.slice B np b,zs,.slice C nz c,fr,ea,.slice D ne e,al⟩ W1:=hW1 ▸ boxP_d6 BP g (.slice G ng cg)
  have BD1 : Ds.BoxD (w.heap.size + 1) g (.slice G ng cg) W1:=by
   rw [<- hW1]
   iterate 6 refine Ds.BoxD.other ?_ (by simp) _
   exact BD
  have BC1 : BoxC (w.heap.size + 2) Oc.zero W1:=by
   rw [<- hW1]
   iterate 6 refine BoxC.other ?_ (by simp) _
   exact BC
  have hb1 : Below w.heap.size w W1:=by
   rw [<- hW1]
   iterate 6 refine Below.setCell ?_ (by simp) _
   exact hb0
  have hbox : ∀ wx,Below W1.heap.size W1 wx -> BoxP w.heap.size ⟨g,.slice G ng cg,ps,.slice B np b,zs,.slice C nz c,fr,ea,.slice D ne e,al⟩ wx /\ Ds.BoxD (w.heap.size + 1) g (.slice G ng cg) wx:=fun wx hx => ⟨BP1.keep hx,BD1.keep hx⟩
  have cr:=fun wx (hx : Below W1.heap.size W1 wx) => cq wx (hb1.trans (hx.mono hb1.size))
  clear cf cp cq hTX BP1 BD1 BC hb0
  obtain ⟨p_0,⟨p_1,p_2,p_3,p_4,p_5,p_6,p_7,p_8,p_9,p_10,p_11⟩,p_12⟩:=_root_.id BP
  obtain ⟨q_0,⟨q_1,q_2,q_3,q_4,q_5,q_6⟩,q_7⟩:=id BD
  go_enter Tryz.func189,Tryz.ntmps189
  go_wp2_with fail
  try rw [hW0]
  try rw [hW1]
  clear p_0 p_1 p_2 p_3 p_4 p_5 p_6 p_7 p_8 p_9 p_10 p_11 p_12
  clear q_0 q_1 q_2 q_3 q_4 q_5 q_6 q_7
  refine St.wp_region_tail 5 (fun _ wx => Below W1.heap.size W1 wx) (by kernel_rfl) (by kernel_rfl) (by kernel_rfl) (by kernel_rfl) (by decide) (Below.refl _ _).drew ?_
  simp only [List.take,List.drop]
  apply St.step_give
  ·rfl
  ·intro L wx hS hcl hrd
   obtain ⟨⟨_,⟨d0,d1,d2,d3,d4,d5,d6,d7,d8,d9,d10⟩,_⟩,-⟩:=hbox wx hS
   go_simp
   try with_reducible rfl
  ·exact fun L wx hS => hS
  simp only [Act.put,St.pu]
  apply St.step_give
  ·rfl
  ·intro L wx hS hcl hrd
   obtain ⟨-,⟨_,⟨d0,d1,d2,d3,d4,d5⟩,_⟩⟩:=hbox wx hS
   go_simp
   try with_reducible rfl
  ·exact fun L wx hS => hS
  simp only [Act.put,St.pu]
  apply St.step_into
  ·rfl
  ·intro wx
   go_simp
   exact ⟨rfl,rfl⟩
  ·intro L wx hS hcl hrd
   refine (cr wx hS).mono ?_
   rintro e' w' ⟨rfl,b⟩
   exact ⟨rfl,hS.trans (b.mono hS.size)⟩
  simp only [Act.put,St.pu]
  iterate 2
   apply St.step_give
   ·rfl
   ·intro L wx hS hcl hrd
    skip
    go_simp
    try with_reducible rfl
   ·exact fun L wx hS => hS
   simp only [Act.put,St.pu]
  refine St.step_last ?_
  intro L wx hS _
  have BC2:=BC1.keep hS
  have hb2:=hb1.trans (hS.mono hb1.size)
  clear hW0 hW1 hbox cr BC1 hS hb1
  refine wpList_storeC (o:=⟨⟨g,.slice G ng cg,ps,.slice B np b,zs,.slice C nz c,fr,ea,.slice D ne e,al⟩,⟨0,0,false,TX,[]⟩,.slice none 0 0,Fh.zero⟩) rfl rfl rfl rfl BC2 (oneC _ rfl rfl rfl rfl rfl rfl rfl rfl rfl) ?_
  have BC3:=BC2.put' ⟨⟨g,.slice G ng cg,ps,.slice B np b,zs,.slice C nz c,fr,ea,.slice D ne e,al⟩,⟨0,0,false,TX,[]⟩,.slice none 0 0,Fh.zero⟩
  have hb3:=putL_below (l:=(arrBoxC ⟨⟨g,.slice G ng cg,ps,.slice B np b,zs,.slice C nz c,fr,ea,.slice D ne e,al⟩,⟨0,0,false,TX,[]⟩,.slice none 0 0,Fh.zero⟩).toList) (i:=0) hb2 (Nat.le_add_right w.heap.size 2)
  generalize putL _ _ _ _ = WF at BC3 hb3 ⊢
  clear BC2 hb2
  go_wp2_with fail
  exact bodyPost_ret (res_BoxC Tryz.results189 rfl BC3) rfl ⟨rfl,hb3⟩
 ·rw [show turnOc ⟨d,.slice A nm a,ps,.slice B np b,zs,.slice C nz c,fr,ea,.slice D ne e,al⟩ (g,n) (.slice G ng cg) = ⟨⟨d,.slice A nm a,ps,.slice B np b,zs,.slice C nz c,fr,ea,.slice D ne e,al⟩,badR n,.slice none 0 0,Fh.zero⟩ from if_neg hn]
  have n1 : (n == 0) = false:=by simpa using hn
  have n2 : (n != 0) = true:=by simpa using hn
  have n3 : (n = 0) = False:=eq_false hn
  have cr:=fun wx (hx : Below W0.heap.size W0 wx) => cf wx (hb0.trans (hx.mono hb0.size))
  have BC1:=fun wx (hx : Below W0.heap.size W0 wx) => BC.keep hx
  have hb1:=fun wx (hx : Below W0.heap.size W0 wx) => hb0.trans (hx.mono hb0.size)
  clear cf cp hn BC hb0
  obtain ⟨p_0,⟨p_1,p_2,p_3,p_4,p_5,p_6,p_7,p_8,p_9,p_10,p_11⟩,p_12⟩:=_root_.id BP
  obtain ⟨q_0,⟨q_1,q_2,q_3,q_4,q_5,q_6⟩,q_7⟩:=id BD
  go_enter Tryz.func189,Tryz.ntmps189
  go_wp2_with fail
  try rw [hW0]
  refine (cr _ (Below.refl _ _)).mono ?_
  rintro e' w1 ⟨rfl,b1⟩
  have BC2:=BC1 _ b1
  have hb2:=hb1 _ b1
  clear cr BC1 hb1 b1 hW0
  clear p_0 p_1 p_2 p_3 p_4 p_5 p_6 p_7 p_8 p_9 p_10 p_11 p_12
  clear q_0 q_1 q_2 q_3 q_4 q_5 q_6 q_7
  go_wp2_with (refine wpList_storeC (o:=⟨⟨d,.slice A nm a,ps,.slice B np b,zs,.slice C nz c,fr,ea,.slice D ne e,al⟩,badR n,.slice none 0 0,Fh.zero⟩) rfl rfl rfl rfl BC2 (oneC _ rfl rfl rfl rfl rfl rfl rfl rfl rfl) ?_)
  exact bodyPost_ret (res_BoxC Tryz.results189 rfl (BC2.put' ⟨⟨d,.slice A nm a,ps,.slice B np b,zs,.slice C nz c,fr,ea,.slice D ne e,al⟩,badR n,.slice none 0 0,Fh.zero⟩)) rfl ⟨rfl,putL_below hb2 (Nat.le_add_right w.heap.size 2)⟩
end Go.Proofs.YthcmnkmfhgoddaaGreatDoor.Pt

namespace Go.Proofs.YthcmnkmfhgoddaaGreatDoor.Pt
open Go.RowKit Bnd
open Go.Proofs.YthcmnkmfhgoddaaGreatDoor.Ds (De SM ArgM putT isD dv addD removeD)
open Go.Proofs.YthcmnkmfhgoddaaGreatDoor.Od (Rep BoxR rv E0 av)
open Go.Proofs.YthcmnkmfhgoddaaGreatDoor.Dp (Ph BoxP qv HA HP)
theorem but_putL {ns : List Nat} {W : World} {n : Nat} : ∀ {l : List Value} {i : Nat} {w : World},But ns W w -> n ∈ ns -> But ns W (putL w n i l)
 | [],_,_,h,_ => h
 | v :: l,i,_,h,hn => but_putL (l:=l) (i:=i + 1) (h.set hn v) hn
theorem ok_nodes (x : De) : ∀ m ∈ (Ds.okD x).1.ms,m.1 ≠ 0:=by
 rcases Ds.okD_cases x with ⟨h,e⟩ | e
 ·rw [e]
  intro m hm
  have:=(Ds.nodeB_iff _).1 ((Ds.isD_parts h).1 m hm).1
  omega
 ·rw [e]; intro m hm; cases hm
theorem add_nodes (d : De) (n : Int) : ∀ m ∈ (addD d n).1.ms,m.1 ≠ 0:=by
 unfold addD
 (repeat' split) <;> first | exact ok_nodes _ | (intro m hm; cases hm)
theorem remove_nodes (d : De) (n : Int) : ∀ m ∈ (removeD d n).1.ms,m.1 ≠ 0:=by
 unfold removeD
 (repeat' split) <;> first | exact ok_nodes _ | (intro m hm; cases hm)
theorem zero_ints (i : Nat) (x y : Int) (h0 : (arrBoxC Oc.zero)[i]? = some (.int .i64 x)) (h1 : (arrBoxC Oc.zero)[i + 1]? = some (.int .i64 y)) : x = 0:=by
 match i,h0,h1 with
 | 0,_,h1 => cases h1
 | 1,h0,_ => cases h0
 | 2,h0,_ => cases h0
 | 3,_,h1 => cases h1
 | 4,h0,_ => cases h0
 | 5,_,h1 => cases h1
 | 6,h0,_ => cases h0
 | 7,h0,_ => cases h0
 | 8,h0,_ => cases h0
 | 9,h0,_ => cases h0
 | 10,h0,_ => cases h0; rfl
 | 11,h0,_ => cases h0; rfl
 | 12,h0,_ => cases h0; rfl
 | 13,h0,_ => cases h0
 | 14,h0,_ => cases h0
 | 15,h0,_ => cases h0
 | 16,h0,_ => cases h0
 | 17,h0,_ => cases h0; rfl
 | 18,h0,_ => cases h0
 | 19,h0,_ => cases h0
 | 20,h0,_ => cases h0; rfl
 | 21,h0,_ => cases h0
 | 22,h0,_ => cases h0; rfl
 | 23,h0,_ => cases h0
 | 24,h0,_ => cases h0
 | 25,h0,_ => cases h0
 | 26,h0,_ => cases h0
 | 27,h0,_ => cases h0; rfl
 | 28,h0,_ => cases h0; rfl
 | i + 29,h0,_ => simp [arrBoxC] at h0
set_option maxHeartbeats 16000000 in
set_option maxRecDepth 100000 in
theorem do_add (o : Ph) (x : Od.Ask) (w : World) (h : HA w o) (hd : isD o.d = true) (hk : x.kind = 10) :
  Calls Tryz.prog 105 #[qv o,av x] w fun e w' => ∃ s,e = .returned (cv (turnOc o (addD o.d x.node) s)) /\ ArgM w' s (addD o.d x.node).1.ms /\ Below w.heap.size w w':=by
 have hp:=h.hp
 have c1:=fun w' (hb : Below w.heap.size w w') => Ds.add_any o.d o.sm x.node w' (h.sm.keep hb) (Dp.isD_fit hd)
 have hg : ∀ n,(addD o.d x.node).2 = n -> n = 0 -> isD (addD o.d x.node).1 = true:=fun n e h0 => (Mb.change_is (d:=o.d) (x:=(addD o.d x.node).1) (o:=x) (by unfold Mb.changeD; rw [hk]; simp; rw [<- h0,<- e])).1
 obtain ⟨⟨g,en⟩,hG⟩ : ∃ p,addD o.d x.node = p:=⟨_,rfl⟩
 have hnd:=add_nodes o.d x.node
 rw [hG] at c1 hg hnd ⊢
 have HND:=Lib.hid hnd
 clear hnd
 simp only at hg
 have c2:=fun s w' (hb : Below w.heap.size w w') (hs : SM w' w'.heap.size s g.ms) => became_any o g s en w' ((hp.below hb).more hb.size) hs (hg en rfl)
 clear hG hg h hd
 obtain ⟨kind,client,seq,key,til,val,old,has,lim,id,node⟩:=x
 simp only at hk c1 ⊢
 subst hk
 obtain ⟨d,ps,zs,fr,ea,al,A,B,C,D,a,b,c,e,rfl⟩:=hp.open
 simp only at c1 c2 ⊢
 obtain ⟨nm,hnm⟩ : ∃ n,d.ms.length = n:=⟨_,rfl⟩
 obtain ⟨np,hnp⟩ : ∃ n,ps.length = n:=⟨_,rfl⟩
 obtain ⟨nz,hnz⟩ : ∃ n,zs.length = n:=⟨_,rfl⟩
 obtain ⟨ne,hne⟩ : ∃ n,ea.length = n:=⟨_,rfl⟩
 rw [hnm] at c1
 rw [hnm,hnp,hnz,hne] at c2 ⊢
 clear hp hnm hnp hnz hne
 obtain ⟨W0,hW0⟩ : ∃ W0,(((w.alloc (.cells #[.int .i64 d.id,.string d.f,.string d.t,.int .i64 d.gen,.slice A nm a,.int .i64 d.next,.slice B np b,.slice C nz c,.bool fr,.slice D ne e,.int .i64 al] 38)).alloc (.cells #[.int .i64 10,.int .i64 client,.int .i64 seq,.string key,.string til,.string val,.string old,.bool has,.int .i64 lim,.int .i64 id,.int .i64 node] 40)).alloc (.cells #[.int .i64 0,.string ⟨#[]⟩,.string ⟨#[]⟩,.int .i64 0,.slice none 0 0,.int .i64 0,.slice none 0 0,.slice none 0 0,.bool false,.slice none 0 0,.int .i64 0,.int .i64 0,.int .i64 0,.bool false,.string ⟨#[]⟩,.slice none 0 0,.bool false,.int .i64 0,.string ⟨#[]⟩,.string ⟨#[]⟩,.int .i64 0,.slice none 0 0,.int .i64 0,.slice none 0 0,.slice none 0 0,.bool false,.slice none 0 0,.int .i64 0,.int .i64 0] 158)).alloc (.cells #[.int .i64 0,.int .i64 0,.bool false,.string ⟨#[]⟩,.slice none 0 0] 87) = W0:=⟨_,rfl⟩
 have BP : BoxP w.heap.size ⟨d,.slice A nm a,ps,.slice B np b,zs,.slice C nz c,fr,ea,.slice D ne e,al⟩ W0:=hW0 ▸ (((BoxP.new w ⟨d,.slice A nm a,ps,.slice B np b,zs,.slice C nz c,fr,ea,.slice D ne e,al⟩).alloc _).alloc _).alloc _
 have BA : Od.BoxA (w.heap.size + 1) ⟨10,client,seq,key,til,val,old,has,lim,id,node⟩ W0:=by
  rw [<- hW0,<- World.size_alloc w (.cells #[.int .i64 d.id,.string d.f,.string d.t,.int .i64 d.gen,.slice A nm a,.int .i64 d.next,.slice B np b,.slice C nz c,.bool fr,.slice D ne e,.int .i64 al] 38)]
  exact ((Od.BoxA.new _ ⟨10,client,seq,key,til,val,old,has,lim,id,node⟩).alloc _).alloc _
 have BC : BoxC (w.heap.size + 2) Oc.zero W0:=by
  have:=BoxC.new ((w.alloc (.cells #[.int .i64 d.id,.string d.f,.string d.t,.int .i64 d.gen,.slice A nm a,.int .i64 d.next,.slice B np b,.slice C nz c,.bool fr,.slice D ne e,.int .i64 al] 38)).alloc (.cells #[.int .i64 10,.int .i64 client,.int .i64 seq,.string key,.string til,.string val,.string old,.bool has,.int .i64 lim,.int .i64 id,.int .i64 node] 40)) Oc.zero
  rw [World.size_alloc,World.size_alloc] at this
  rw [<- hW0]
  exact this.keep ((Below.refl _ _).alloc (Nat.le_refl _) _)
 have hb0 : Below w.heap.size w W0:=hW0 ▸ (by exact bex0)
 have e0 : (0 : Int) = 0:=rfl
 obtain ⟨p_0,⟨p_1,p_2,p_3,p_4,p_5,p_6,p_7,p_8,p_9,p_10,p_11⟩,p_12⟩:=_root_.id BP
 obtain ⟨q_0,⟨q_1,q_2,q_3,q_4,q_5,q_6,q_7,q_8,q_9,q_10,q_11⟩,q_12⟩:=_root_.id BA
 go_enter Tryz.func105,Tryz.ntmps105
 go_wp2_with fail
 try rw [hW0]
 refine (c1 _ hb0).mono ?_
 rintro e' w1 ⟨s,rfl,ha,b1⟩
 obtain ⟨G,cg,rfl⟩:=ha.form
 have BP1:=BP.keep b1
 have BC1:=BC.keep b1
 have hb1:=hb0.trans (b1.mono hb0.size)
 have ha2:=ha.keep ((Below.refl _ w1).alloc (Nat.le_refl _) (.cells #[.int .i64 g.id,.string g.f,.string g.t,.int .i64 g.gen,.slice G g.ms.length cg,.int .i64 g.next] 26))
 have c3:=c2 _ _ (hb1.alloc hb1.size _) ha2.sm
 have BP2:=BP1.alloc (.cells #[.int .i64 g.id,.string g.f,.string g.t,.int .i64 g.gen,.slice G g.ms.length cg,.int .i64 g.next] 26)
 have BC2:=BC1.keep ((Below.refl _ w1).alloc (Nat.le_refl _) (.cells #[.int .i64 g.id,.string g.f,.string g.t,.int .i64 g.gen,.slice G g.ms.length cg,.int .i64 g.next] 26))
 have hb2:=hb1.alloc hb1.size (.cells #[.int .i64 g.id,.string g.f,.string g.t,.int .i64 g.gen,.slice G g.ms.length cg,.int .i64 g.next] 26)
 clear p_0 p_1 p_2 p_3 p_4 p_5 p_6 p_7 p_8 p_9 p_10 p_11 p_12
 clear q_0 q_1 q_2 q_3 q_4 q_5 q_6 q_7 q_8 q_9 q_10 q_11 q_12
 have hlt:=BP1.1
 have hz:=hb1.size
 clear b1 c1 c2 BC BC1 hb0 hW0 ha BP BA
 obtain ⟨ng,hng⟩ : ∃ n,g.ms.length = n:=⟨_,rfl⟩
 rw [hng] at c3 BP2 BC2 hb2 ha2 ⊢
 have HNG:=Lib.hid hng
 clear hng
 obtain ⟨p_0,⟨p_1,p_2,p_3,p_4,p_5,p_6,p_7,p_8,p_9,p_10,p_11⟩,p_12⟩:=_root_.id BP1
 go_wp2_with fail
 refine c3.mono ?_
 rintro e' w2 ⟨rfl,b2⟩
 have BC3:=BC2.keep b2
 have hb3:=hb2.trans (b2.mono hb2.size)
 have ha3:=ha2.keep b2
 clear p_0 p_1 p_2 p_3 p_4 p_5 p_6 p_7 p_8 p_9 p_10 p_11 p_12
 clear b2 c3 BC2 hb2 ha2 BP2
 obtain ⟨X,hX⟩ : ∃ X,turnOc ⟨d,.slice A nm a,ps,.slice B np b,zs,.slice C nz c,fr,ea,.slice D ne e,al⟩ (g,en) (.slice G ng cg) = X:=⟨_,rfl⟩
 have hone : ∀ v ∈ (arrBoxC X).toList,v.oneCell' = true:=by
  rw [<- hX]
  unfold turnOc
  split <;> exact oneC _ rfl rfl rfl rfl rfl rfl rfl rfl rfl
 rw [hX]
 have HX:=Lib.hid hX
 clear hX
 go_wp2_with (refine wpList_storeC (o:=X) rfl rfl rfl rfl BC3 hone ?_)
 exact bodyPost_ret (res_BoxC Tryz.results105 rfl (BC3.put' X)) rfl ⟨.slice G ng cg,by rw [HX.out],argM_but ha3 (fun m hm => by simp only [List.mem_singleton] at hm; subst hm; exact argM_off ha3 BC3 zero_ints HND.out) (but_putL (l:=(arrBoxC X).toList) (i:=0) (But.refl [w.heap.size + 2] w2) (by simp)),putL_below hb3 (Nat.le_add_right w.heap.size 2)⟩
set_option maxHeartbeats 16000000 in
set_option maxRecDepth 100000 in
theorem do_remove (o : Ph) (x : Od.Ask) (w : World) (h : HA w o) (hd : isD o.d = true) (hk : x.kind = 11) :
  Calls Tryz.prog 105 #[qv o,av x] w fun e w' => ∃ s,e = .returned (cv (turnOc o (removeD o.d x.id) s)) /\ ArgM w' s (removeD o.d x.id).1.ms /\ Below w.heap.size w w':=by
 have hp:=h.hp
 have c1:=fun w' (hb : Below w.heap.size w w') => Ds.remove_any o.d o.sm x.id w' (h.sm.keep hb) (Dp.isD_fit hd)
 have hg : ∀ n,(removeD o.d x.id).2 = n -> n = 0 -> isD (removeD o.d x.id).1 = true:=fun n e h0 => (Mb.change_is (d:=o.d) (x:=(removeD o.d x.id).1) (o:=x) (by unfold Mb.changeD; rw [hk]; simp; rw [<- h0,<- e])).1
 obtain ⟨⟨g,en⟩,hG⟩ : ∃ p,removeD o.d x.id = p:=⟨_,rfl⟩
 have hnd:=remove_nodes o.d x.id
 rw [hG] at c1 hg hnd ⊢
 have HND:=Lib.hid hnd
 clear hnd
 simp only at hg
 have c2:=fun s w' (hb : Below w.heap.size w w') (hs : SM w' w'.heap.size s g.ms) => became_any o g s en w' ((hp.below hb).more hb.size) hs (hg en rfl)
 clear hG hg h hd
 obtain ⟨kind,client,seq,key,til,val,old,has,lim,id,node⟩:=x
 simp only at hk c1 ⊢
 subst hk
 obtain ⟨d,ps,zs,fr,ea,al,A,B,C,D,a,b,c,e,rfl⟩:=hp.open
 simp only at c1 c2 ⊢
 obtain ⟨nm,hnm⟩ : ∃ n,d.ms.length = n:=⟨_,rfl⟩
 obtain ⟨np,hnp⟩ : ∃ n,ps.length = n:=⟨_,rfl⟩
 obtain ⟨nz,hnz⟩ : ∃ n,zs.length = n:=⟨_,rfl⟩
 obtain ⟨ne,hne⟩ : ∃ n,ea.length = n:=⟨_,rfl⟩
 rw [hnm] at c1
 rw [hnm,hnp,hnz,hne] at c2 ⊢
 clear hp hnm hnp hnz hne
 obtain ⟨W0,hW0⟩ : ∃ W0,(((w.alloc (.cells #[.int .i64 d.id,.string d.f,.string d.t,.int .i64 d.gen,.slice A nm a,.int .i64 d.next,.slice B np b,.slice C nz c,.bool fr,.slice D ne e,.int .i64 al] 38)).alloc (.cells #[.int .i64 11,.int .i64 client,.int .i64 seq,.string key,.string til,.string val,.string old,.bool has,.int .i64 lim,.int .i64 id,.int .i64 node] 40)).alloc (.cells #[.int .i64 0,.string ⟨#[]⟩,.string ⟨#[]⟩,.int .i64 0,.slice none 0 0,.int .i64 0,.slice none 0 0,.slice none 0 0,.bool false,.slice none 0 0,.int .i64 0,.int .i64 0,.int .i64 0,.bool false,.string ⟨#[]⟩,.slice none 0 0,.bool false,.int .i64 0,.string ⟨#[]⟩,.string ⟨#[]⟩,.int .i64 0,.slice none 0 0,.int .i64 0,.slice none 0 0,.slice none 0 0,.bool false,.slice none 0 0,.int .i64 0,.int .i64 0] 158)).alloc (.cells #[.int .i64 0,.int .i64 0,.bool false,.string ⟨#[]⟩,.slice none 0 0] 87) = W0:=⟨_,rfl⟩
 have BP : BoxP w.heap.size ⟨d,.slice A nm a,ps,.slice B np b,zs,.slice C nz c,fr,ea,.slice D ne e,al⟩ W0:=hW0 ▸ (((BoxP.new w ⟨d,.slice A nm a,ps,.slice B np b,zs,.slice C nz c,fr,ea,.slice D ne e,al⟩).alloc _).alloc _).alloc _
 have BA : Od.BoxA (w.heap.size + 1) ⟨11,client,seq,key,til,val,old,has,lim,id,node⟩ W0:=by
  rw [<- hW0,<- World.size_alloc w (.cells #[.int .i64 d.id,.string d.f,.string d.t,.int .i64 d.gen,.slice A nm a,.int .i64 d.next,.slice B np b,.slice C nz c,.bool fr,.slice D ne e,.int .i64 al] 38)]
  exact ((Od.BoxA.new _ ⟨11,client,seq,key,til,val,old,has,lim,id,node⟩).alloc _).alloc _
 have BC : BoxC (w.heap.size + 2) Oc.zero W0:=by
  have:=BoxC.new ((w.alloc (.cells #[.int .i64 d.id,.string d.f,.string d.t,.int .i64 d.gen,.slice A nm a,.int .i64 d.next,.slice B np b,.slice C nz c,.bool fr,.slice D ne e,.int .i64 al] 38)).alloc (.cells #[.int .i64 11,.int .i64 client,.int .i64 seq,.string key,.string til,.string val,.string old,.bool has,.int .i64 lim,.int .i64 id,.int .i64 node] 40)) Oc.zero
  rw [World.size_alloc,World.size_alloc] at this
  rw [<- hW0]
  exact this.keep ((Below.refl _ _).alloc (Nat.le_refl _) _)
 have hb0 : Below w.heap.size w W0:=hW0 ▸ (by exact bex0)
 have e0 : (0 : Int) = 0:=rfl
 obtain ⟨p_0,⟨p_1,p_2,p_3,p_4,p_5,p_6,p_7,p_8,p_9,p_10,p_11⟩,p_12⟩:=_root_.id BP
 obtain ⟨q_0,⟨q_1,q_2,q_3,q_4,q_5,q_6,q_7,q_8,q_9,q_10,q_11⟩,q_12⟩:=_root_.id BA
 go_enter Tryz.func105,Tryz.ntmps105
 go_wp2_with fail
 try rw [hW0]
 refine (c1 _ hb0).mono ?_
 rintro e' w1 ⟨s,rfl,ha,b1⟩
 obtain ⟨G,cg,rfl⟩:=ha.form
 have BP1:=BP.keep b1
 have BC1:=BC.keep b1
 have hb1:=hb0.trans (b1.mono hb0.size)
 have ha2:=ha.keep ((Below.refl _ w1).alloc (Nat.le_refl _) (.cells #[.int .i64 g.id,.string g.f,.string g.t,.int .i64 g.gen,.slice G g.ms.length cg,.int .i64 g.next] 26))
 have c3:=c2 _ _ (hb1.alloc hb1.size _) ha2.sm
 have BP2:=BP1.alloc (.cells #[.int .i64 g.id,.string g.f,.string g.t,.int .i64 g.gen,.slice G g.ms.length cg,.int .i64 g.next] 26)
 have BC2:=BC1.keep ((Below.refl _ w1).alloc (Nat.le_refl _) (.cells #[.int .i64 g.id,.string g.f,.string g.t,.int .i64 g.gen,.slice G g.ms.length cg,.int .i64 g.next] 26))
 have hb2:=hb1.alloc hb1.size (.cells #[.int .i64 g.id,.string g.f,.string g.t,.int .i64 g.gen,.slice G g.ms.length cg,.int .i64 g.next] 26)
 clear p_0 p_1 p_2 p_3 p_4 p_5 p_6 p_7 p_8 p_9 p_10 p_11 p_12
 clear q_0 q_1 q_2 q_3 q_4 q_5 q_6 q_7 q_8 q_9 q_10 q_11 q_12
 have hlt:=BP1.1
 have hz:=hb1.size
 clear b1 c1 c2 BC BC1 hb0 hW0 ha BP BA
 obtain ⟨ng,hng⟩ : ∃ n,g.ms.length = n:=⟨_,rfl⟩
 rw [hng] at c3 BP2 BC2 hb2 ha2 ⊢
 have HNG:=Lib.hid hng
 clear hng
 obtain ⟨p_0,⟨p_1,p_2,p_3,p_4,p_5,p_6,p_7,p_8,p_9,p_10,p_11⟩,p_12⟩:=_root_.id BP1
 go_wp2_with fail
 refine c3.mono ?_
 rintro e' w2 ⟨rfl,b2⟩
 have BC3:=BC2.keep b2
 have hb3:=hb2.trans (b2.mono hb2.size)
 have ha3:=ha2.keep b2
 clear p_0 p_1 p_2 p_3 p_4 p_5 p_6 p_7 p_8 p_9 p_10 p_11 p_12
 clear b2 c3 BC2 hb2 ha2 BP2
 obtain ⟨X,hX⟩ : ∃ X,turnOc ⟨d,.slice A nm a,ps,.slice B np b,zs,.slice C nz c,fr,ea,.slice D ne e,al⟩ (g,en) (.slice G ng cg) = X:=⟨_,rfl⟩
 have hone : ∀ v ∈ (arrBoxC X).toList,v.oneCell' = true:=by
  rw [<- hX]
  unfold turnOc
  split <;> exact oneC _ rfl rfl rfl rfl rfl rfl rfl rfl rfl
 rw [hX]
 have HX:=Lib.hid hX
 clear hX
 go_wp2_with (refine wpList_storeC (o:=X) rfl rfl rfl rfl BC3 hone ?_)
 exact bodyPost_ret (res_BoxC Tryz.results105 rfl (BC3.put' X)) rfl ⟨.slice G ng cg,by rw [HX.out],argM_but ha3 (fun m hm => by simp only [List.mem_singleton] at hm; subst hm; exact argM_off ha3 BC3 zero_ints HND.out) (but_putL (l:=(arrBoxC X).toList) (i:=0) (But.refl [w.heap.size + 2] w2) (by simp)),putL_below hb3 (Nat.le_add_right w.heap.size 2)⟩
end Go.Proofs.YthcmnkmfhgoddaaGreatDoor.Pt

/-
  knot.Untie and the document's Untie,at every text. Condition: lengths below 2^47; the library's variables hold what their types allow.
  A descriptor's text: Put,of the program and of the document. Conditions: at most 1000 members,keys of at most a million bytes,numbers of 64 bits.
  numbers: the numbers whose texts these are,or none. Condition: at most 10,000 texts; the library's variables hold what their types allow.
-/
import Derived.Test.YthcmnkmfhgoddaaGreatDoorVTieA
import Derived.Test.YthcmnkmfhgoddaaGreatDoorVDsSMA
import Derived.Test.YthcmnkmfhgoddaaGreatDoorVRegA
import Derived.Test.YthcmnkmfhgoddaaGreatDoorVFirstA
import Derived.OwnWalk
namespace Go.Proofs.YthcmnkmfhgoddaaGreatDoor
open Go.RowKit M
def UntieOut (o : Option (List Text)) (e : Ending) (w' : World) : Prop :=
 match o with
 | some l => ∃ v ss,e = .returned (.tuple #[v,.int .i64 0]) /\ texts ss = l /\ SL w' w'.heap.size v ss
 | none => e = .returned (.tuple #[.slice none 0 0,.int .i64 10])
theorem texts_length (ss : List ByteArray) : (texts ss).length = ss.length:=by simp [texts]
theorem texts_snoc (ss : List ByteArray) (x : ByteArray) : texts (ss ++ [x]) = texts ss ++ [x.data.toList]:=by simp [texts]
theorem own_below {w w' : World} {base : Nat} {v : Value} {n : Nat} {xs : List Value} (h : w.ownsRow base 9 1 v n xs) (hb : Below w.heap.size w w') : w'.ownsRow base 9 1 v n xs :=
 h.kept (row:=none) ⟨hb.os,hb.tape,hb.output,hb.size,fun k hk _ => hb.block k hk⟩ (Classical.em _)
theorem own_form {w : World} {base : Nat} {v : Value} {ss : List ByteArray} (h : w.ownsRow base 9 1 v ss.length (ss.map Value.string)) : ∃ A c,v = .slice A ss.length c:=(SL.of_own h).form
theorem first_is (t : ByteArray) {x r : Text} (h : firstT t.data.toList = some (x,r)) : ∃ X R : ByteArray,firstR t (firstT t.data.toList) = .tuple #[.string X,.string R,.int .i64 0] /\ X.data.toList = x /\ R.data.toList = r :=
 ⟨⟨x.toArray⟩,⟨r.toArray⟩,by rw [h]; rfl,rfl,rfl⟩
set_option maxHeartbeats 4000000 in
set_option maxRecDepth 100000 in
theorem runtie_any (s : ByteArray) (w : World) (hs : s.size <= 140737488355328) :
  Calls Tryz.prog 98 #[.string s] w fun e w' => UntieOut (untieT s.data.toList) e w' /\ Below w.heap.size w w':=by
 obtain ⟨i0,hi,hz0,hz1,hz2⟩:=info_parts infoStr
 by_cases hlong : 1048576 < s.size
 ·rw [untie_long (by simpa using hlong)]
  have hi' : (1048576 : Int) < (s.size : Int):=by omega
  go_enter Tryz.func98,Tryz.ntmps98
  go_wp2_with fail
  go_ret2
  exact ⟨rfl,Below.refl _ w⟩
 ·have hi' : ¬ (1048576 : Int) < (s.size : Int):=by omega
  have hi'' : (s.size : Int) <= 1048576:=by omega
  have hsl : s.data.toList.length <= 1048576:=by simp; omega
  go_enter Tryz.func98,Tryz.ntmps98
  go_wp2_with fail
  go_loopw [0,4] (fun v0 v4 wr => ∃ (t : ByteArray) (ss : List ByteArray),v0 = .string t /\ Hid (s.data.toList = tieT (texts ss) ++ t.data.toList) /\ ss.length <= 4096 /\ t.size <= 1048576 /\ wr.ownsRow w.heap.size 9 1 v4 ss.length (ss.map Value.string) /\ Below w.heap.size w wr) (fun v0 _ _ => lenOf v0)
  case atStart => exact ⟨s,[],rfl,rfl,by simp,by omega,⟨by simp,.inl ⟨rfl,rfl⟩⟩,Below.refl _ w⟩
  case round =>
   obtain ⟨t,ss,rfl,hst,hss,hts,hown,hbw⟩:=hrel
   by_cases h0 : t.size = 0
   ·have hE:=empty_no t h0
    have hres : untieT s.data.toList = some (texts ss):=by
     have h:=hst.out
     rw [(toList_nil t).1 h0,List.append_nil] at h
     exact untie_some h (by rw [texts_length]; exact hss) hsl
    have HR:=Lib.hid hres
    clear hres hst h0
    go_wp2_with fail
    go_ret2
    exact ⟨by rw [HR.out]; exact ⟨_,ss,rfl,rfl,SL.of_own hown⟩,hbw⟩
   ·have hE:=empty_yes t h0
    have hne : t.data.toList ≠ []:=fun e => h0 ((toList_nil t).2 e)
    obtain ⟨A,c,rfl⟩:=own_form hown
    have hcon:=rfirst_any t wr (by omega)
    cases hf : firstT t.data.toList with
    | none =>
     have hres:=untie_stuck hst.out hne hf
     rw [hf] at hcon
     have HR:=Lib.hid hres
     clear hres hst h0 hne hf
     go_wp2_with fail
     refine hcon.mono ?_
     rintro e w1 ⟨rfl,b1⟩
     unfold firstR
     go_wp2_with fail
     go_ret2
     exact ⟨by rw [HR.out]; rfl,hbw.trans (b1.mono hbw.size)⟩
    | some p =>
     obtain ⟨x,r⟩:=p
     obtain ⟨X,R,hfr,rfl,rfl⟩:=first_is t hf
     rw [hfr] at hcon
     have hstep:=untie_step hst.out hf
     have hrl : t.data.toList.length = (strand X.data.toList).length + R.data.toList.length:=by
      rw [(first_spec hf).1,List.length_append]
     have hsn:=List.length_pos_iff.2 (strand_ne X.data.toList)
     have hR1 : R.size < t.size:=by simp at hrl; omega
     by_cases hm : ss.length = 4096
     ·have hres:=untie_many hst.out hne (by rw [texts_length]; exact hm)
      have HR:=Lib.hid hres
      have hmb : ((ss.length : Int) == 4096) = true:=by rw [hm]; rfl
      clear hres hst h0 hne hf hfr hstep hrl hsn hm
      go_wp2_with fail
      refine hcon.mono ?_
      rintro e w1 ⟨rfl,b1⟩
      go_wp2_with fail
      go_ret2
      exact ⟨by rw [HR.out]; rfl,hbw.trans (b1.mono hbw.size)⟩
     ·have hmb : ((ss.length : Int) == 4096) = false:=by
       have : (ss.length : Int) ≠ 4096:=by omega
       simpa using this
      have HS:=Lib.hid hstep
      have hl2 : ss.length + 1 <= 4096:=by omega
      clear hst h0 hne hf hfr hstep hrl hsn hm
      go_wp2_with fail
      refine hcon.mono ?_
      rintro e w1 ⟨rfl,b1⟩
      have B1:=hbw.trans (b1.mono hbw.size)
      have O1:=own_below hown b1
      go_wp2_with (at_builtin; refine wpList_append_own _ rfl _ _ 101 rfl w.heap.size 9 i0 (.string ⟨#[]⟩) 1 16 Tryz.underlying101 hi hz0 hz1 hz2 rfl (by decide) _ _ _ rfl (O1.alloc _) ⟨w1.heap.size,0,none⟩ 1 1 [.string X] rfl rfl ?c1 ?c2 ?c3 ?c4 ?c5 ?_)
      case c1 =>
       intro j u hj
       match j,hj with
       | 0,hj => simp at hj; subst hj; simp [Addr.add]
      case c2 => intro u hu; simp at hu; subst hu; rfl
      case c3 => unfold maxLen; omega
      case c4 => omega
      case c5 => have:=B1.size; simp; omega
      intro v' w2 O2 hgrow _
      have B2 : Below w.heap.size w w2:=(B1.alloc B1.size _).grown hgrow (by have:=B1.size; simp; omega) (fun k hk => (O1.lt k hk).1)
      have O3 : w2.ownsRow w.heap.size 9 1 v' (ss ++ [X]).length ((ss ++ [X]).map Value.string):=by simpa using O2
      clear O2 hgrow
      go_wp2_with fail
      go_roundw
      case rel =>
       refine ⟨R,ss ++ [X],rfl,?_,by simp; omega,by omega,O3,B2⟩
       show s.data.toList = _
       rw [texts_snoc]; exact HS.out
      case measure => simp only [lenOf]; omega
end Go.Proofs.YthcmnkmfhgoddaaGreatDoor

namespace Go.Proofs.YthcmnkmfhgoddaaGreatDoor.Ds
open Go.RowKit Bnd
open Go.Proofs.YthcmnkmfhgoddaaGreatDoor.M (numT inR tieT)
abbrev nb (n : Int) : ByteArray:=⟨(numT n).toArray⟩
def headS (d : De) : List ByteArray:=[nb d.id,d.f,d.t,nb d.gen,nb d.next]
def memS (l : List Mem) : List ByteArray:=(l.map fun m => [nb m.1,nb m.2]).flatten
theorem memS_length : ∀ l : List Mem,(memS l).length = l.length * 2
  | [] => rfl
  | m :: l => by
    have:=memS_length l
    unfold memS at *
    simp only [List.map_cons,List.flatten_cons,List.length_append,List.length_cons,List.length_nil]
    omega
theorem memS_snoc (l : List Mem) (m : Mem) : memS (l ++ [m]) = memS l ++ [nb m.1,nb m.2]:=by simp [memS]
theorem memS_take (l : List Mem) (k : Nat) (h : k < l.length) : memS (l.take (k + 1)) = memS (l.take k) ++ [nb l[k].1,nb l[k].2]:=by
  rw [List.take_succ_eq_append_getElem h,memS_snoc]
theorem texts_memS : ∀ l : List Mem,texts (memS l) = memsT l
  | [] => rfl
  | m :: l => by
    have:=texts_memS l
    rw [memsT_cons,<- this]
    rfl
theorem texts_strands (d : De) : texts (headS d ++ memS d.ms) = strandsT d:=by
  unfold strandsT
  rw [<- texts_memS,ByteArray.toList_eq,ByteArray.toList_eq]
  unfold headS
  simp [texts]
theorem nb_size {n : Int} (h : inR n) : (nb n).size <= 20:=by
  have h1:=M.numT_length h
  have h2 : (nb n).size = (numT n).length:=by simp [ByteArray.size]
  omega
theorem few_strands {d : De} (fd : Fit d) (hf : d.f.size <= 1000000) (ht : d.t.size <= 1000000) : Few (headS d ++ memS d.ms):=by
  refine ⟨?_,?_⟩
  · rw [List.length_append,memS_length]
    have:=fd.n
    simp [headS]; omega
  · intro s hs
    rcases List.mem_append.1 hs with hs | hs
    · simp only [headS,List.mem_cons,List.not_mem_nil,or_false] at hs
      rcases hs with rfl | rfl | rfl | rfl | rfl
      · have:=nb_size fd.r.id; omega
      · omega
      · omega
      · have:=nb_size fd.r.gen; omega
      · have:=nb_size fd.r.next; omega
    · unfold memS at hs
      obtain ⟨l,hl,hs⟩:=List.mem_flatten.1 hs
      obtain ⟨m,hm,rfl⟩:=List.mem_map.1 hl
      have:=fd.r.ms m hm
      simp only [List.mem_cons,List.not_mem_nil,or_false] at hs
      rcases hs with rfl | rfl
      · have:=nb_size this.1; omega
      · have:=nb_size this.2; omega
theorem run_append2 {P : Program} {a : Go.Act} {o : Oper} {s x : Operand} {t : TypeId} {v y v' : Value} {w w' : World} (ho : o.op = .call { callee:=.builtin .append,args:=#[s,x],argTypes:=#[t,t] }) (hs : a.eval s = v) (hx : a.eval x = y)
    (hrun : (Builtin.append_ #[t,t] o.type #[v,y]).run P w = .ok v' w') : (execOp a.eval o).run P w = .ok (.value v') w':=by
  simp [execOp,ho,resolve,invoke,builtin,hs,hx,hrun,Result.andThen]
theorem own_new (w : World) (base : Nat) (ss : List ByteArray) (hb : base <= w.heap.size) (hl : ss.length <= 100) : (w.alloc (.cells (ss.map Value.string).toArray 9)).ownsRow base 9 1 (.slice (some ⟨w.heap.size,0,none⟩) ss.length ss.length) ss.length (ss.map Value.string) :=
  ⟨by simp,.inr ⟨w.heap.size,ss.length,_,rfl,hb,heap_alloc_new w _,Nat.le_refl _,by unfold maxLen; omega,by simp,by rw [Nat.mul_one]; exact List.take_of_length_le (by simp)⟩⟩
theorem head_zero (d : De) : headS d ++ memS (d.ms.take 0) = headS d:=by simp [memS]
structure PR (k7 k8 base : Nat) (W0 : World) (xs : List ByteArray) (x y : ByteArray) (L : Nat -> Bool) (u : Nat -> Value) (wx : World) : Prop where
  le : base <= W0.heap.size
  b0 : L k8 = false -> Below W0.heap.size W0 wx
  b : Below base W0 wx
  p7 : L k7 = true -> L k8 = false -> ∃ g,u k7 = .slice (some ⟨g,0,none⟩) 2 2 /\ wx.cell? ⟨g,0,none⟩ = some (.string x) /\ wx.cell? ⟨g,1,none⟩ = some (.string y) /\ g < wx.heap.size
  o8 : L k8 = true -> wx.ownsRow base 9 1 (u k8) (xs.length + 2) ((xs ++ [x,y]).map Value.string)
theorem PR.start {k7 k8 base : Nat} {W0 : World} (xs : List ByteArray) (x y : ByteArray) (h : base <= W0.heap.size) : PR k7 k8 base W0 xs x y (fun _ => false) (fun _ => undef) W0.drew :=
  ⟨h,fun _ => (Below.refl _ W0).drew,((Below.refl _ W0).drew).mono h,fun h => (by cases h),fun h => (by cases h)⟩
theorem PR.call {k7 k8 base i : Nat} {W0 wx w' : World} {xs : List ByteArray} {x y : ByteArray} {L : Nat -> Bool} {u : Nat -> Value} {z : Value} (h : PR k7 k8 base W0 xs x y L u wx) (h8 : L k8 = false) (hb : Below wx.heap.size wx w') (e7 : St.mark L i k7 = L k7) (e8 : St.mark L i k8 = L k8) (q7 : St.upd u i z k7 = u k7) :
    PR k7 k8 base W0 xs x y (St.mark L i) (St.upd u i z) w':=by
  have h0:=h.b0 h8
  refine ⟨h.le,fun _ => h0.trans (hb.mono h0.size),h.b.trans (hb.mono (Nat.le_trans h.le h0.size)),fun h7 h8' => ?_,fun h' => ?_⟩
  · rw [e7] at h7
    obtain ⟨g,g1,g2,g3,g4⟩:=h.p7 h7 h8
    exact ⟨g,by rw [q7]; exact g1,(hb.cell (p:=⟨g,0,none⟩) g4).trans g2,(hb.cell (p:=⟨g,1,none⟩) g4).trans g3,Nat.lt_of_lt_of_le g4 hb.size⟩
  · rw [e8,h8] at h'; cases h'
theorem PR.made {k7 k8 base : Nat} {W0 wx : World} {xs : List ByteArray} {x y : ByteArray} {L : Nat -> Bool} {u : Nat -> Value} (h : PR k7 k8 base W0 xs x y L u wx) (h8 : L k8 = false) (hne : k7 ≠ k8) :
    PR k7 k8 base W0 xs x y (St.mark L k7) (St.upd u k7 (.slice (some ⟨wx.heap.size,0,none⟩) 2 2)) (wx.alloc (.cells #[.string x,.string y] 9)):=by
  have h0:=h.b0 h8
  refine ⟨h.le,fun _ => h0.alloc h0.size _,h.b.alloc (Nat.le_trans h.le h0.size) _,fun _ _ => ?_,fun h' => ?_⟩
  · exact ⟨wx.heap.size,by simp [St.upd],World.cell?_alloc_new wx _ _ 0,World.cell?_alloc_new wx _ _ 1,by simp⟩
  · have : St.mark L k7 k8 = L k8:=by simp [St.mark,hne.symm]
    rw [this,h8] at h'; cases h'
theorem PR.app {k7 k8 base : Nat} {W0 wx : World} {xs : List ByteArray} {x y : ByteArray} {L : Nat -> Bool} {u : Nat -> Value} (h : PR k7 k8 base W0 xs x y L u wx) (h7 : L k7 = true) (h8 : L k8 = false) {v : Value}
    (hown : W0.ownsRow base 9 1 v xs.length (xs.map Value.string)) (hle : xs.length <= 10000) (ty : TypeId) :
    ∃ v' w',(Builtin.append_ #[101,101] ty #[v,u k7]).run Tryz.prog wx = .ok v' w' /\ PR k7 k8 base W0 xs x y (St.mark L k8) (St.upd u k8 v') w':=by
  obtain ⟨i0,hi,hz0,hz1,hz2⟩:=info_parts infoStr
  have h0:=h.b0 h8
  have ho:=own_below hown h0
  obtain ⟨g,g1,g2,g3,g4⟩:=h.p7 h7 h8
  obtain ⟨v',w',k1,k2,k3,_⟩:=run_append_own (P:=Tryz.prog) (w:=wx) base 101 ty 9 i0 (.string ⟨#[]⟩) 1 16 Tryz.underlying101 hi hz0 hz1 hz2 rfl (by decide) v xs.length (xs.map Value.string) ho ⟨g,0,none⟩ 2 2 [.string x,.string y]
    rfl (fun j z hz => by
      match j with
      | 0 => simp at hz; subst hz; exact g2
      | 1 => simp at hz; subst hz; exact g3
      | j + 2 => simp at hz) (fun z hz => by simp at hz; rcases hz with rfl | rfl <;> rfl) (by unfold maxLen; omega) (by omega) (Nat.le_trans h.le h0.size)
  rw [<- g1] at k1
  have e8 : St.mark L k8 k8 = true:=by simp [St.mark]
  refine ⟨v',w',k1,h.le,fun h' => (by rw [e8] at h'; cases h'),h.b.grown k3 (Nat.le_trans h.le h0.size) (fun k hk => (ho.lt k hk).1),fun _ h' => (by rw [e8] at h'; cases h'),fun _ => ?_⟩
  have : St.upd u k8 v' k8 = v':=by simp [St.upd]
  rw [this]
  simpa using k2
set_option maxHeartbeats 16000000 in
set_option maxRecDepth 100000 in
theorem put_any (d : De) (s : Value) (w : World) (hs : SM w w.heap.size s d.ms) (fd : Fit d) (hf : d.f.size <= 1000000) (ht : d.t.size <= 1000000) :
    Calls Tryz.prog 129 #[dv d s] w fun e w' => e = .returned (str (putT d)) /\ Below w.heap.size w w':=by
  obtain ⟨A,c,rfl⟩:=hs.form
  have hfew:=few_strands fd hf ht
  have hln : d.ms.length <= 1000:=fd.n
  have HT:=Lib.hid (texts_strands d)
  have c1 : ∀ n w,inR n -> Calls Tryz.prog 133 #[.int .i64 n] w fun e w' => e = .returned (.string (nb n)) /\ Below w.heap.size w w':=fun n w h => (num_any n w h)
  obtain ⟨W1,hW1⟩ : ∃ W1,w.alloc (.cells #[.int .i64 d.id,.string d.f,.string d.t,.int .i64 d.gen,.slice A d.ms.length c,.int .i64 d.next] 26) = W1:=⟨_,rfl⟩
  have B0 : BoxD w.heap.size d (.slice A d.ms.length c) W1:=hW1 ▸ BoxD.new w d (.slice A d.ms.length c)
  have hz1 : W1.heap.size = w.heap.size + 1:=by rw [<- hW1]; simp
  have hbw1 : Below w.heap.size w W1:=by rw [<- hW1]; exact (Below.refl _ w).alloc (Nat.le_refl _) _
  have hs1 : SM W1 w.heap.size (.slice A d.ms.length c) d.ms:=hs.below hbw1
  have call : ∀ n wx,inR n -> Below W1.heap.size W1 wx -> Calls Tryz.prog 133 #[.int .i64 n] wx fun e w' => e = .returned (.string (nb n)) /\ Below W1.heap.size W1 w':=by
    intro n wx hn hx
    refine (c1 n wx hn).mono ?_
    rintro e w' ⟨rfl,b⟩
    exact ⟨rfl,hx.trans (b.mono hx.size)⟩
  have hI1:=fd.r.id
  have hI2:=fd.r.gen
  have hI3:=fd.r.next
  have hbox : ∀ wx,Below W1.heap.size W1 wx -> BoxD w.heap.size d (.slice A d.ms.length c) wx:=fun wx hx => BoxD.kept (N:=W1.heap.size) B0 (by omega) hx
  go_enter Tryz.func129,Tryz.ntmps129
  go_wp2
  try rw [hW1]
  refine St.wp_region_tail 15 (fun _ wx => Below W1.heap.size W1 wx) (by kernel_rfl) (by kernel_rfl) (by kernel_rfl) (by kernel_rfl) (by decide) (Below.refl _ _).drew ?_
  simp only [List.take,List.drop]
  repeat (first
    | (apply St.step_give
       · rfl
       · intro L wx hS hcl hrd
         obtain ⟨_,⟨d0,d1,d2,d3,d4,d5⟩,_⟩:=hbox wx hS
         go_simp
         try with_reducible rfl
       · exact fun L wx hS => hS
       simp only [Act.put,St.pu])
    | (apply St.step_into
       · rfl
       · intro wx
         go_simp
         exact ⟨rfl,rfl⟩
       · exact fun L wx hS hcl hrd => call _ wx (by first | exact hI1 | exact hI2 | exact hI3) hS
       simp only [Act.put,St.pu]))
  refine St.step_last ?_
  intro L wx hS _
  clear hI1 hI2 hI3 call
  have B1:=hbox wx hS
  have hz : W1.heap.size <= wx.heap.size:=hS.size
  have hown0:=own_new wx W1.heap.size (headS d) hz (by simp [headS])
  have HO:=Lib.hid hown0
  have hS1:=hS.alloc hz (.cells #[.string (nb d.id),.string d.f,.string d.t,.string (nb d.gen),.string (nb d.next)] 9)
  clear hown0 hW1
  obtain ⟨p_0,⟨p_1,p_2,p_3,p_4,p_5,p_6⟩,p_7⟩:=id B1
  go_wp2_with fail
  clear p_0 p_1 p_2 p_3 p_4 p_5 p_6 p_7
  go_loopw [3,5,25] (fun v3 v5 vi wr => ∃ k,k <= d.ms.length /\ vi = .int .i64 (k : Int) /\ wr.ownsRow W1.heap.size 9 1 v3 (headS d ++ memS (d.ms.take k)).length ((headS d ++ memS (d.ms.take k)).map Value.string) /\ Below W1.heap.size W1 wr) (fun _ _ vi _ => d.ms.length - (intOf vi).toNat)
  case atStart => exact ⟨0,by omega,rfl,by rw [head_zero]; exact HO.out,hS1⟩
  case round =>
    clear HO hS hS1 B1 hz
    obtain ⟨k,hk,rfl,hown,hbw⟩:=hrel
    have B1:=hbox wr hbw
    have hz:=hbw.size
    obtain ⟨p_0,⟨p_1,p_2,p_3,p_4,p_5,p_6⟩,p_7⟩:=id B1
    by_cases hlt : k < d.ms.length
    · obtain ⟨b,o,rfl,hb,hc1,hc2⟩:=(hs1.below (hbw.mono (by omega))).at_ hlt
      have hin:=fd.r.ms _ (List.getElem_mem hlt)
      have htk:=memS_take d.ms k hlt
      obtain ⟨⟨x,y⟩,hm⟩ : ∃ m,d.ms[k] = m:=⟨_,rfl⟩
      rw [hm] at hc1 hc2 hin htk
      clear hm
      obtain ⟨xs,hxs⟩ : ∃ xs,headS d ++ memS (d.ms.take k) = xs:=⟨_,rfl⟩
      have hxl : xs.length <= 10000:=by rw [<- hxs,List.length_append,memS_length,List.length_take]; simp [headS]; omega
      rw [hxs] at hown
      have HN:=Lib.hid (show headS d ++ memS (d.ms.take (k + 1)) = xs ++ [nb x,nb y] by rw [htk,<- List.append_assoc,hxs])
      obtain ⟨A3,c3,rfl⟩:=own_form hown
      have H3:=Lib.hid hown
      have hk0 : (0 : Int) <= (k : Int):=by omega
      have hk1 : (k : Int) < (d.ms.length : Int):=by omega
      clear htk hxs hown
      obtain ⟨W2,hW2⟩ : ∃ W2,wr.alloc (.cells #[.int .i64 x,.int .i64 y] 70) = W2:=⟨_,rfl⟩
      have hz2 : W2.heap.size = wr.heap.size + 1:=by rw [<- hW2]; simp
      have hb2 : Below wr.heap.size wr W2:=by rw [<- hW2]; exact (Below.refl _ wr).alloc (Nat.le_refl _) _
      have x0 : W2.cell? ⟨wr.heap.size,0,none⟩ = some (.int .i64 x):=by rw [<- hW2]; simp [go_sem]
      have x1 : W2.cell? ⟨wr.heap.size,1,none⟩ = some (.int .i64 y):=by rw [<- hW2]; simp [go_sem]
      have H2:=Lib.hid hW2
      clear hW2
      go_wp2
      try rw [H2.out]
      have hown2:=own_below H3.out hb2
      have hle2 : W1.heap.size <= W2.heap.size:=by have:=hb2.size; omega
      refine St.wp_region_mixed (PR 7 8 W1.heap.size W2 xs (nb x) (nb y)) (fun i z => match i with | 3 => z = .string (nb x) | _ => z = .string (nb y)) (by kernel_rfl) (by kernel_rfl) (by kernel_rfl) (PR.start xs (nb x) (nb y) hle2) ?_
      apply St.mix_give
      · rfl
      · intro L u' wx hS hcl hrd hag
        go_simp
        try with_reducible rfl
      · exact fun L u' wx hS => ⟨hS.le,hS.b0,hS.b,hS.p7,hS.o8⟩
      simp only [Act.put,St.pu]
      iterate 2
        apply St.mix_give
        · rfl
        · intro L u' wx hS hcl hrd hag
          have y0 : wx.cell? ⟨wr.heap.size,0,none⟩ = some (.int .i64 x):=((hS.b0 (St.not_yet hcl hrd 40 8 (by kernel_rfl))).cell (p:=⟨wr.heap.size,0,none⟩) (show wr.heap.size < W2.heap.size by omega)).trans x0
          have y1 : wx.cell? ⟨wr.heap.size,1,none⟩ = some (.int .i64 y):=((hS.b0 (St.not_yet hcl hrd 40 8 (by kernel_rfl))).cell (p:=⟨wr.heap.size,1,none⟩) (show wr.heap.size < W2.heap.size by omega)).trans x1
          go_simp
          try with_reducible rfl
        · exact fun L u' wx hS => ⟨hS.le,hS.b0,hS.b,hS.p7,hS.o8⟩
        simp only [Act.put,St.pu]
      refine St.mix_into (v:=.string (nb x)) (f:=133) (args:=#[.int .i64 x]) rfl rfl ?_ ?_ ?_
      · intro wx
        go_simp
        try with_reducible rfl
      · intro L u' wx hS hcl hrd hag
        refine (c1 x wx hin.1).mono ?_
        rintro e w' ⟨rfl,hb'⟩
        exact ⟨rfl,hS.call (St.not_yet hcl hrd 40 8 (by kernel_rfl)) hb' rfl rfl rfl⟩
      simp only [Act.put,St.pu]
      iterate 2
        apply St.mix_give
        · rfl
        · intro L u' wx hS hcl hrd hag
          have y0 : wx.cell? ⟨wr.heap.size,0,none⟩ = some (.int .i64 x):=((hS.b0 (St.not_yet hcl hrd 40 8 (by kernel_rfl))).cell (p:=⟨wr.heap.size,0,none⟩) (show wr.heap.size < W2.heap.size by omega)).trans x0
          have y1 : wx.cell? ⟨wr.heap.size,1,none⟩ = some (.int .i64 y):=((hS.b0 (St.not_yet hcl hrd 40 8 (by kernel_rfl))).cell (p:=⟨wr.heap.size,1,none⟩) (show wr.heap.size < W2.heap.size by omega)).trans x1
          go_simp
          try with_reducible rfl
        · exact fun L u' wx hS => ⟨hS.le,hS.b0,hS.b,hS.p7,hS.o8⟩
        simp only [Act.put,St.pu]
      refine St.mix_into (v:=.string (nb y)) (f:=133) (args:=#[.int .i64 y]) rfl rfl ?_ ?_ ?_
      · intro wx
        go_simp
        try with_reducible rfl
      · intro L u' wx hS hcl hrd hag
        refine (c1 y wx hin.2).mono ?_
        rintro e w' ⟨rfl,hb'⟩
        exact ⟨rfl,hS.call (St.not_yet hcl hrd 40 8 (by kernel_rfl)) hb' rfl rfl rfl⟩
      simp only [Act.put,St.pu]
      refine St.mix_free (fun z => ∃ g,z = .slice (some ⟨g,0,none⟩) 2 2) rfl ?_ ?_
      · intro L u' wx hS hcl hrd hag
        refine ⟨_,_,⟨wx.heap.size,rfl⟩,?_,hS.made (St.not_yet hcl hrd 40 8 (by kernel_rfl)) (by decide)⟩
        go_simp
        try with_reducible rfl
      rintro y7 ⟨g7,rfl⟩
      simp only [Act.put,St.pu]
      refine St.mix_free (fun z => True) rfl ?_ ?_
      · intro L u' wx hS hcl hrd hag
        obtain ⟨v',w',k1,k2⟩:=hS.app (St.before_ready hcl hrd 40 7 (by kernel_rfl)) hrd.1 hown2 hxl 101
        rw [show u' 7 = .slice (some ⟨g7,0,none⟩) 2 2 from hag 40 7 (by kernel_rfl)] at k1
        exact ⟨v',w',trivial,run_append2 rfl rfl rfl k1,k2⟩
      rintro y8 -
      simp only [Act.put,St.pu]
      apply St.mix_give
      · rfl
      · intro L u' wx hS hcl hrd hag
        go_simp
        try with_reducible rfl
      · exact fun L u' wx hS => ⟨hS.le,hS.b0,hS.b,hS.p7,hS.o8⟩
      simp only [Act.put,St.pu]
      refine St.mix_last ?_
      intro L wx hS hall
      have o8 : wx.ownsRow W1.heap.size 9 1 y8 (xs.length + 2) ((xs ++ [nb x,nb y]).map Value.string):=hS.o8 (hall 8 (by decide))
      have bx : Below W1.heap.size W1 wx:=(hbw.trans (hb2.mono hz)).trans hS.b
      have O8:=Lib.hid o8
      have hr8 : ∃ A8 c8,y8 = .slice A8 (xs.length + 2) c8:=by
        obtain ⟨A8,c8,e⟩:=own_form (ss:=xs ++ [nb x,nb y]) (by simpa using o8)
        exact ⟨A8,c8,by simpa using e⟩
      obtain ⟨A8,c8,rfl⟩:=hr8
      clear hS hall o8
      go_wp2_with fail
      go_roundw
      case rel =>
        refine ⟨k + 1,by omega,by go_num,?_,bx⟩
        rw [HN.out]
        simpa using O8.out
      case measure => simp [intOf]; omega
    · obtain rfl : k = d.ms.length:=by omega
      rw [List.take_length] at hown
      obtain ⟨ts,hts⟩ : ∃ ts,headS d ++ memS d.ms = ts:=⟨_,rfl⟩
      rw [hts] at hown hfew HT
      have hsl:=SL.of_own hown
      obtain ⟨A3,c3,rfl⟩:=own_form hown
      have HS:=Lib.hid hsl
      have HF:=Lib.hid hfew
      have H3:=Lib.hid hown
      clear hsl hown hts hfew
      go_wp2_with fail
      refine (tie_any _ ts wr HS.out HF.out).mono ?_
      rintro e w1 ⟨rfl,b1⟩
      go_wp2_with fail
      go_ret
      exact ⟨by rw [HT.out]; rfl,(hbw1.trans (hbw.mono (by omega))).trans (b1.mono (by omega))⟩
set_option maxHeartbeats 16000000 in
set_option maxRecDepth 100000 in
theorem rput_any (d : De) (s : Value) (w : World) (hs : SM w w.heap.size s d.ms) (fd : Fit d) (hf : d.f.size <= 1000000) (ht : d.t.size <= 1000000) :
    Calls Tryz.prog 115 #[dv d s] w fun e w' => e = .returned (str (putT d)) /\ Below w.heap.size w w':=by
  obtain ⟨A,c,rfl⟩:=hs.form
  have hfew:=few_strands fd hf ht
  have hln : d.ms.length <= 1000:=fd.n
  have HT:=Lib.hid (texts_strands d)
  have c1 : ∀ n w,inR n -> Calls Tryz.prog 58 #[.int .i64 n] w fun e w' => e = .returned (.string (nb n)) /\ Below w.heap.size w w':=fun n w h => ((rnum_any n w h).mono fun e w2 h => ⟨h.1,h.2 ▸ Below.refl _ _⟩)
  obtain ⟨W1,hW1⟩ : ∃ W1,w.alloc (.cells #[.int .i64 d.id,.string d.f,.string d.t,.int .i64 d.gen,.slice A d.ms.length c,.int .i64 d.next] 26) = W1:=⟨_,rfl⟩
  have B0 : BoxD w.heap.size d (.slice A d.ms.length c) W1:=hW1 ▸ BoxD.new w d (.slice A d.ms.length c)
  have hz1 : W1.heap.size = w.heap.size + 1:=by rw [<- hW1]; simp
  have hbw1 : Below w.heap.size w W1:=by rw [<- hW1]; exact (Below.refl _ w).alloc (Nat.le_refl _) _
  have hs1 : SM W1 w.heap.size (.slice A d.ms.length c) d.ms:=hs.below hbw1
  have call : ∀ n wx,inR n -> Below W1.heap.size W1 wx -> Calls Tryz.prog 58 #[.int .i64 n] wx fun e w' => e = .returned (.string (nb n)) /\ Below W1.heap.size W1 w':=by
    intro n wx hn hx
    refine (c1 n wx hn).mono ?_
    rintro e w' ⟨rfl,b⟩
    exact ⟨rfl,hx.trans (b.mono hx.size)⟩
  have hI1:=fd.r.id
  have hI2:=fd.r.gen
  have hI3:=fd.r.next
  have hbox : ∀ wx,Below W1.heap.size W1 wx -> BoxD w.heap.size d (.slice A d.ms.length c) wx:=fun wx hx => BoxD.kept (N:=W1.heap.size) B0 (by omega) hx
  go_enter Tryz.func115,Tryz.ntmps115
  go_wp2
  try rw [hW1]
  refine St.wp_region_tail 15 (fun _ wx => Below W1.heap.size W1 wx) (by kernel_rfl) (by kernel_rfl) (by kernel_rfl) (by kernel_rfl) (by decide) (Below.refl _ _).drew ?_
  simp only [List.take,List.drop]
  repeat (first
    | (apply St.step_give
       · rfl
       · intro L wx hS hcl hrd
         obtain ⟨_,⟨d0,d1,d2,d3,d4,d5⟩,_⟩:=hbox wx hS
         go_simp
         try with_reducible rfl
       · exact fun L wx hS => hS
       simp only [Act.put,St.pu])
    | (apply St.step_into
       · rfl
       · intro wx
         go_simp
         exact ⟨rfl,rfl⟩
       · exact fun L wx hS hcl hrd => call _ wx (by first | exact hI1 | exact hI2 | exact hI3) hS
       simp only [Act.put,St.pu]))
  refine St.step_last ?_
  intro L wx hS _
  clear hI1 hI2 hI3 call
  have B1:=hbox wx hS
  have hz : W1.heap.size <= wx.heap.size:=hS.size
  have hown0:=own_new wx W1.heap.size (headS d) hz (by simp [headS])
  have HO:=Lib.hid hown0
  have hS1:=hS.alloc hz (.cells #[.string (nb d.id),.string d.f,.string d.t,.string (nb d.gen),.string (nb d.next)] 9)
  clear hown0 hW1
  obtain ⟨p_0,⟨p_1,p_2,p_3,p_4,p_5,p_6⟩,p_7⟩:=id B1
  go_wp2_with fail
  clear p_0 p_1 p_2 p_3 p_4 p_5 p_6 p_7
  go_loopw [3,4] (fun v3 vi wr => ∃ k,k <= d.ms.length /\ vi = .int .i64 (k : Int) /\ wr.ownsRow W1.heap.size 9 1 v3 (headS d ++ memS (d.ms.take k)).length ((headS d ++ memS (d.ms.take k)).map Value.string) /\ Below W1.heap.size W1 wr) (fun _ vi _ => d.ms.length - (intOf vi).toNat)
  case atStart => exact ⟨0,by omega,rfl,by rw [head_zero]; exact HO.out,hS1⟩
  case round =>
    clear HO hS hS1 B1 hz
    obtain ⟨k,hk,rfl,hown,hbw⟩:=hrel
    have B1:=hbox wr hbw
    have hz:=hbw.size
    obtain ⟨p_0,⟨p_1,p_2,p_3,p_4,p_5,p_6⟩,p_7⟩:=id B1
    by_cases hlt : k < d.ms.length
    · obtain ⟨b,o,rfl,hb,hc1,hc2⟩:=(hs1.below (hbw.mono (by omega))).at_ hlt
      have hin:=fd.r.ms _ (List.getElem_mem hlt)
      have htk:=memS_take d.ms k hlt
      obtain ⟨⟨x,y⟩,hm⟩ : ∃ m,d.ms[k] = m:=⟨_,rfl⟩
      rw [hm] at hc1 hc2 hin htk
      clear hm
      obtain ⟨xs,hxs⟩ : ∃ xs,headS d ++ memS (d.ms.take k) = xs:=⟨_,rfl⟩
      have hxl : xs.length <= 10000:=by rw [<- hxs,List.length_append,memS_length,List.length_take]; simp [headS]; omega
      rw [hxs] at hown
      have HN:=Lib.hid (show headS d ++ memS (d.ms.take (k + 1)) = xs ++ [nb x,nb y] by rw [htk,<- List.append_assoc,hxs])
      obtain ⟨A3,c3,rfl⟩:=own_form hown
      have H3:=Lib.hid hown
      have hk0 : (0 : Int) <= (k : Int):=by omega
      have hk1 : (k : Int) < (d.ms.length : Int):=by omega
      clear htk hxs hown
      obtain ⟨W2,hW2⟩ : ∃ W2,wr = W2:=⟨_,rfl⟩
      have hb2 : Below wr.heap.size wr W2:=by rw [<- hW2]; exact Below.refl _ wr
      subst hW2
      go_wp2
      have hown2:=own_below H3.out hb2
      have hle2 : W1.heap.size <= wr.heap.size:=by have:=hb2.size; omega
      refine St.wp_region_mixed (PR 15 16 W1.heap.size wr xs (nb x) (nb y)) (fun i z => match i with | 7 => z = .string (nb x) | _ => z = .string (nb y)) (by kernel_rfl) (by kernel_rfl) (by kernel_rfl) (PR.start xs (nb x) (nb y) hle2) ?_
      apply St.mix_give
      · rfl
      · intro L u' wx hS hcl hrd hag
        go_simp
        try with_reducible rfl
      · exact fun L u' wx hS => ⟨hS.le,hS.b0,hS.b,hS.p7,hS.o8⟩
      simp only [Act.put,St.pu]
      iterate 6
        apply St.mix_give
        · rfl
        · intro L u' wx hS hcl hrd hag
          have hw0:=hS.b0 (St.not_yet hcl hrd 40 16 (by kernel_rfl))
          have y0:=(hw0.cell (p:=⟨b,o + k * 2,none⟩) (show b < wr.heap.size by omega)).trans hc1
          have y1:=(hw0.cell (p:=⟨b,o + k * 2 + 1,none⟩) (show b < wr.heap.size by omega)).trans hc2
          have y4:=(hw0.cell (p:=⟨w.heap.size,4,none⟩) (show w.heap.size < wr.heap.size by omega)).trans p_5
          go_simp
          try with_reducible rfl
        · exact fun L u' wx hS => ⟨hS.le,hS.b0,hS.b,hS.p7,hS.o8⟩
        simp only [Act.put,St.pu]
      refine St.mix_into (v:=.string (nb x)) (f:=58) (args:=#[.int .i64 x]) rfl rfl ?_ ?_ ?_
      · intro wx
        go_simp
        try with_reducible rfl
      · intro L u' wx hS hcl hrd hag
        refine (c1 x wx hin.1).mono ?_
        rintro e w' ⟨rfl,hb'⟩
        exact ⟨rfl,hS.call (St.not_yet hcl hrd 40 16 (by kernel_rfl)) hb' rfl rfl rfl⟩
      simp only [Act.put,St.pu]
      iterate 6
        apply St.mix_give
        · rfl
        · intro L u' wx hS hcl hrd hag
          have hw0:=hS.b0 (St.not_yet hcl hrd 40 16 (by kernel_rfl))
          have y0:=(hw0.cell (p:=⟨b,o + k * 2,none⟩) (show b < wr.heap.size by omega)).trans hc1
          have y1:=(hw0.cell (p:=⟨b,o + k * 2 + 1,none⟩) (show b < wr.heap.size by omega)).trans hc2
          have y4:=(hw0.cell (p:=⟨w.heap.size,4,none⟩) (show w.heap.size < wr.heap.size by omega)).trans p_5
          go_simp
          try with_reducible rfl
        · exact fun L u' wx hS => ⟨hS.le,hS.b0,hS.b,hS.p7,hS.o8⟩
        simp only [Act.put,St.pu]
      refine St.mix_into (v:=.string (nb y)) (f:=58) (args:=#[.int .i64 y]) rfl rfl ?_ ?_ ?_
      · intro wx
        go_simp
        try with_reducible rfl
      · intro L u' wx hS hcl hrd hag
        refine (c1 y wx hin.2).mono ?_
        rintro e w' ⟨rfl,hb'⟩
        exact ⟨rfl,hS.call (St.not_yet hcl hrd 40 16 (by kernel_rfl)) hb' rfl rfl rfl⟩
      simp only [Act.put,St.pu]
      refine St.mix_free (fun z => ∃ g,z = .slice (some ⟨g,0,none⟩) 2 2) rfl ?_ ?_
      · intro L u' wx hS hcl hrd hag
        refine ⟨_,_,⟨wx.heap.size,rfl⟩,?_,hS.made (St.not_yet hcl hrd 40 16 (by kernel_rfl)) (by decide)⟩
        go_simp
        try with_reducible rfl
      rintro y7 ⟨g7,rfl⟩
      simp only [Act.put,St.pu]
      refine St.mix_free (fun z => True) rfl ?_ ?_
      · intro L u' wx hS hcl hrd hag
        obtain ⟨v',w',k1,k2⟩:=hS.app (St.before_ready hcl hrd 40 15 (by kernel_rfl)) hrd.1 hown2 hxl 101
        rw [show u' 15 = .slice (some ⟨g7,0,none⟩) 2 2 from hag 40 15 (by kernel_rfl)] at k1
        exact ⟨v',w',trivial,run_append2 rfl rfl rfl k1,k2⟩
      rintro y8 -
      simp only [Act.put,St.pu]
      apply St.mix_give
      · rfl
      · intro L u' wx hS hcl hrd hag
        go_simp
        try with_reducible rfl
      · exact fun L u' wx hS => ⟨hS.le,hS.b0,hS.b,hS.p7,hS.o8⟩
      simp only [Act.put,St.pu]
      refine St.mix_last ?_
      intro L wx hS hall
      have o8 : wx.ownsRow W1.heap.size 9 1 y8 (xs.length + 2) ((xs ++ [nb x,nb y]).map Value.string):=hS.o8 (hall 16 (by decide))
      have bx : Below W1.heap.size W1 wx:=(hbw.trans (hb2.mono hz)).trans hS.b
      have O8:=Lib.hid o8
      have hr8 : ∃ A8 c8,y8 = .slice A8 (xs.length + 2) c8:=by
        obtain ⟨A8,c8,e⟩:=own_form (ss:=xs ++ [nb x,nb y]) (by simpa using o8)
        exact ⟨A8,c8,by simpa using e⟩
      obtain ⟨A8,c8,rfl⟩:=hr8
      clear hS hall o8
      go_wp2_with fail
      go_roundw
      case rel =>
        refine ⟨k + 1,by omega,by go_num,?_,bx⟩
        rw [HN.out]
        simpa using O8.out
      case measure => simp [intOf]; omega
    · obtain rfl : k = d.ms.length:=by omega
      rw [List.take_length] at hown
      obtain ⟨ts,hts⟩ : ∃ ts,headS d ++ memS d.ms = ts:=⟨_,rfl⟩
      rw [hts] at hown hfew HT
      have hsl:=SL.of_own hown
      obtain ⟨A3,c3,rfl⟩:=own_form hown
      have HS:=Lib.hid hsl
      have HF:=Lib.hid hfew
      have H3:=Lib.hid hown
      clear hsl hown hts hfew
      go_wp2_with fail
      refine (rtie_any _ ts wr HS.out HF.out).mono ?_
      rintro e w1 ⟨rfl,b1⟩
      subst b1
      go_wp2_with fail
      go_ret
      exact ⟨by rw [HT.out]; rfl,(hbw1.trans (hbw.mono (by omega)))⟩
end Go.Proofs.YthcmnkmfhgoddaaGreatDoor.Ds

namespace Go.Proofs.YthcmnkmfhgoddaaGreatDoor.Ds
open Go.RowKit Bnd
open Go.Proofs.YthcmnkmfhgoddaaGreatDoor.M (numT inR tieT intT)
abbrev OwnI (w : World) (base : Nat) (v : Value) (ns : List Int) : Prop:=w.ownsRow base 2 1 v ns.length (ns.map (Value.int .i64))
theorem infoI : (Tryz.prog.info? 2).map (fun i => (i.zero,i.size,i.bytes)) = some (some (.int .i64 0),1,8):=by kernel_rfl
theorem SI.of_own {w : World} {base : Nat} {v : Value} {ns : List Int} (h : OwnI w base v ns) : SI w w.heap.size v ns:=by
 rcases h.2 with ⟨rfl,h0⟩ | ⟨g,cap,cur,rfl,_,hh,_⟩
 ·have : ns = []:=List.length_eq_zero_iff.1 h0
  subst this
  exact ⟨none,0,rfl,fun h => absurd h (by simp)⟩
 ·refine ⟨_,_,rfl,fun h0 => ⟨g,0,rfl,?_,fun i hi => ?_⟩⟩
  ·exact (Array.getElem?_eq_some_iff.1 hh).1
  ·have:=h.cells (g:=g) rfl i _ (by rw [List.getElem?_map,List.getElem?_eq_getElem hi]; rfl)
   rw [Addr.add_lit] at this
   exact this
theorem ownI_keep {w w' : World} {base : Nat} {v : Value} {ns : List Int} (h : OwnI w base v ns) (hb : Below w.heap.size w w') : OwnI w' base v ns :=
 h.kept (row:=none) ⟨hb.os,hb.tape,hb.output,hb.size,fun k hk _ => hb.block k hk⟩ (Classical.em _)
theorem wpList_append_is {w : World} {ops : Array Oper} {rest : List Oper} {o : Oper} {a : Act} {Q : Exit -> Act -> World -> Prop} (hgd : o.guard = none) (s x : Operand)
  (ho : o.op = .call { callee:=.builtin .append,args:=#[s,x],argTypes:=#[36,36] }) (base : Nat) (v : Value) (xs : List Int) (hs : a.eval s = v)
  (hown : OwnI w base v xs) (hbase : base <= w.heap.size) (n : Int) (b : Nat) (hx : a.eval x = .slice (some ⟨b,0,none⟩) 1 1) (hc : w.cell? ⟨b,0,none⟩ = some (.int .i64 n)) (hlen : xs.length <= 1000000)
  (h : ∀ v' w',OwnI w' base v' (xs ++ [n]) -> Below base w w' -> v' ≠ .slice none 0 0 -> wpList Tryz.prog ops Q rest (a.put o.dst v') w') : wpList Tryz.prog ops Q (o :: rest) a w:=by
 obtain ⟨i0,hi,hz0,hz1,hz2⟩:=info_parts infoI
 refine wpList_append_own w hgd s x 36 ho base 2 i0 (.int .i64 0) 1 8 Tryz.underlying36 hi hz0 hz1 hz2 rfl (by decide) v xs.length (xs.map (Value.int .i64)) hs hown ⟨b,0,none⟩ 1 1 [.int .i64 n] hx rfl ?_ ?_ (by unfold maxLen; omega) (by omega) hbase ?_
 ·intro j u hj
  match j,hj with
  | 0,hj => simp at hj; subst hj; simpa [Addr.add] using hc
 ·intro u hu; simp at hu; subst hu; rfl
 ·intro v' w' h2 h3 h4
  exact h v' w' (by show w'.ownsRow _ _ _ _ _ _; simpa using h2) ((Below.refl _ w).grown h3 hbase (fun k hk => (hown.lt k hk).1)) (fun e => by have:=(h4.1 e).2; cases this)
def NumsOut (base : Nat) (o : Option (List Int)) (e : Ending) (w' : World) : Prop:=match o with
 | some ns => ∃ v,e = .returned (.tuple #[v,.bool true]) /\ OwnI w' base v ns /\ v ≠ .slice none 0 0
 | none => e = .returned (.tuple #[.slice none 0 0,.bool false])
theorem intsOf_take {l : List M.Text} {k : Nat} (h : k < l.length) {r : List Int} {n : Int} (hr : intsOf (l.take k) = some r) (hn : intT l[k] = some n) : intsOf (l.take (k + 1)) = some (r ++ [n]):=by
 rw [List.take_succ_eq_append_getElem h,intsOf_snoc,hr,hn]
theorem intsOf_at {l : List M.Text} {k : Nat} (h : k < l.length) (hn : intT l[k] = none) : intsOf l = none:=by
 have e : l = l.take k ++ l[k] :: l.drop (k + 1):=by rw [<- List.drop_eq_getElem_cons h,List.take_append_drop]
 rw [e]; exact intsOf_bad hn
set_option maxHeartbeats 4000000 in
set_option maxRecDepth 100000 in
theorem numbers_any (v : Value) (ss : List ByteArray) (w : World) (hv : SL w w.heap.size v ss) (hl : ss.length <= 10000) (hsz : ∀ s ∈ ss,s.size <= 140737488355328) (hg : Good w) :
  Calls Tryz.prog 201 #[v] w fun e w' => NumsOut w.heap.size (intsOf (texts ss)) e w' /\ Below w.heap.size w w':=by
 obtain ⟨i0,hi0,hz0,hz1,hz2⟩:=info_parts infoI
 obtain ⟨A,c,rfl⟩:=hv.form
 obtain ⟨n,hn⟩ : ∃ n,n = ss.length:=⟨_,rfl⟩
 have HX:=Lib.hid hn
 rw [<- hn] at hv hl ⊢
 clear hn
 go_enter Tryz.func201,Tryz.ntmps201
 go_wp2_with (at_make; refine wpList_make_own _ rfl _ _ 36 rfl w.heap.size 2 i0 (.int .i64 0) 1 Tryz.underlying36 hi0 hz0 hz1 .i64 .i64 _ n rfl rfl rfl (by rw [hz2]; omega) (by unfold maxLen; omega) (Nat.le_refl _) ?_; intro w0 hown0 hgrow0)
 have hb0 : Below w.heap.size w w0:=(Below.refl _ w).grown hgrow0 (Nat.le_refl _) (fun k hk => by cases hk)
 clear hgrow0
 go_wp2_with fail
 go_loopw [4,6,7,8,14] (fun v4 _ _ _ vi wr => ∃ (k : Nat) (ns : List Int),k <= n /\ vi = .int .i64 (k : Int) /\ OwnI wr w.heap.size v4 ns /\ Hid (v4 ≠ .slice none 0 0) /\ Hid (intsOf ((texts ss).take k) = some ns) /\ Hid (ns.length = k) /\ Below w.heap.size w wr) (fun _ _ _ _ vi _ => n - (intOf vi).toNat)
 case atStart => exact ⟨0,[],by omega,rfl,hown0,Lib.hid (by simp),rfl,Lib.hid rfl,hb0⟩
 case round =>
  obtain ⟨k,ns,hk,rfl,hown,hne,hR,hnl,hbw⟩:=hrel
  have hz:=hbw.size
  by_cases hlt : k < n
  ·have hkx : k < ss.length:=by rw [<- HX.out]; exact hlt
   have hkt : k < (texts ss).length:=by rw [texts_length]; exact hkx
   obtain ⟨ad,rfl,hadb,hcell⟩:=(hv.below hbw).at_ hkx
   have hss:=hsz _ (List.getElem_mem hkx)
   have htx : (texts ss)[k] = ss[k].data.toList:=by simp [texts]
   obtain ⟨x,hx⟩ : ∃ x,ss[k] = x:=⟨_,rfl⟩
   rw [hx] at hcell hss htx
   have hcon:=int_any x wr hss (hg.below hbw)
   have hk0 : (0 : Int) <= (k : Int):=by omega
   have hk1 : (k : Int) < (n : Int):=by omega
   have HO:=Lib.hid hown
   obtain ⟨A4,c4,hv4⟩:=(SI.of_own hown).form
   subst hv4
   cases hi : intT x.data.toList with
   | none =>
    rw [hi] at hcon
    have hres : intsOf (texts ss) = none:=intsOf_at hkt (by rw [htx]; exact hi)
    have HR:=Lib.hid hres
    unfold intR at hcon
    clear hres hi hR hx htx hown
    go_wp2_with fail
    refine hcon.mono ?_
    rintro e w1 ⟨rfl,b1⟩
    go_wp2_with fail
    go_ret2
    exact ⟨by rw [HR.out]; rfl,hbw.trans (b1.mono hbw.size)⟩
   | some m =>
    rw [hi] at hcon
    have hstep:=intsOf_take hkt hR.out (by rw [htx]; exact hi)
    have HS:=Lib.hid hstep
    unfold intR at hcon
    clear hstep hi hR hx htx hown
    go_wp2_with fail
    refine hcon.mono ?_
    rintro e w1 ⟨rfl,b1⟩
    have HO1:=Lib.hid (ownI_keep HO.out b1)
    have B1:=hbw.trans (b1.mono hbw.size)
    have hz1:=B1.size
    go_wp2_with (at_builtin; refine wpList_append_is rfl _ _ rfl w.heap.size _ ns rfl (HO1.out.alloc _) (by simp; omega) m w1.heap.size rfl (by simp [go_sem]) (by have:=hnl.out; omega) ?_)
    intro v' w2 O2 b2 ne2
    have NE:=Lib.hid ne2
    have B2 : Below w.heap.size w w2:=(B1.alloc hz1 _).trans b2
    have O3:=Lib.hid O2
    clear O2 b2 ne2
    go_wp2_with fail
    go_roundw
    case rel => exact ⟨k + 1,ns ++ [m],by omega,by go_num,O3.out,NE,HS,(show (ns ++ [m]).length = k + 1 by have:=hnl.out; simp; omega),B2⟩
    case measure => simp [intOf]; omega
  ·obtain rfl : k = n:=by omega
   have hfin : intsOf (texts ss) = some ns:=by
    rw [<- hR.out,List.take_of_length_le (by rw [texts_length]; have:=HX.out; omega)]
   have HF:=Lib.hid hfin
   have HO:=Lib.hid hown
   clear hfin hR hown
   go_wp2_with fail
   go_ret2
   exact ⟨by rw [HF.out]; exact ⟨_,rfl,HO.out,hne.out⟩,hbw⟩
end Go.Proofs.YthcmnkmfhgoddaaGreatDoor.Ds

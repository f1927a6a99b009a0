/-
  The document's own word on whether a descriptor may be. Conditions: texts at most 2^47 bytes.
  Whether a plot may be,the document's Is. Conditions: lengths at most 2^47.
-/
import Derived.Test.YthcmnkmfhgoddaaGreatDoorVDsSMA
import Derived.BigQuiet
import Derived.Test.YthcmnkmfhgoddaaGreatDoorVDpBGA
import Derived.Test.YthcmnkmfhgoddaaGreatDoorVSsSRA
import Derived.Test.YthcmnkmfhgoddaaGreatDoorVBndA
import Derived.Test.YthcmnkmfhgoddaaGreatDoorVRegA
namespace Go.Proofs.YthcmnkmfhgoddaaGreatDoor.Ds
open Go.RowKit Bnd
open Go.Proofs.YthcmnkmfhgoddaaGreatDoor.O (Bd isB keyB hasB)
theorem rid_any (n : Int) (w : World) : Calls Tryz.prog 37 #[.int .i64 n] w fun e w' => e = .returned (.bool (idB n)) /\ w = w':=by
 by_cases h1 : 1 <= n
 ·by_cases h2 : n <= 1099511627776
  ·have hv : idB n = true:=(idB_iff n).2 ⟨h1,h2⟩
   have e1 : (n >= 1) = True:=eq_true (by omega)
   have e2 : (n <= 1099511627776) = True:=eq_true h2
   rw [hv]
   clear hv h1 h2
   go_enter Tryz.func37,Tryz.ntmps37
   go_wp2
   go_ret
   exact ⟨rfl,rfl⟩
  ·have hv : idB n = false:=by simp only [idB,decide_eq_false_iff_not]; omega
   have e1 : (n >= 1) = True:=eq_true (by omega)
   have e2 : (n <= 1099511627776) = False:=eq_false h2
   rw [hv]
   clear hv h1 h2
   go_enter Tryz.func37,Tryz.ntmps37
   go_wp2
   go_ret
   exact ⟨rfl,rfl⟩
 ·have hv : idB n = false:=by simp only [idB,decide_eq_false_iff_not]; omega
  have e1 : (n >= 1) = False:=eq_false (by omega)
  rw [hv]
  clear hv h1
  go_enter Tryz.func37,Tryz.ntmps37
  go_wp2
  go_ret
  exact ⟨rfl,rfl⟩
structure OkAt (next : Int) (ms : List Mem) (j : Nat) (h : j < ms.length) : Prop where
 n1 : 1 <= ms[j].1
 n7 : ms[j].1 <= 7
 i1 : 1 <= ms[j].2
 ix : ms[j].2 < next
 up : ∀ i (hi : i < j),i + 1 = j -> (ms[i]'(by omega)).2 < ms[j].2
 ne : ∀ i (hi : i < j),(ms[i]'(by omega)).1 ≠ ms[j].1
def PrevOk (ms : List Mem) (k : Nat) (y : Int) : Prop:=∀ i (h : i < ms.length),i + 1 = k -> ms[i].2 < y
theorem ups {next : Int} {ms : List Mem} (h : ∀ j (hj : j < ms.length),OkAt next ms j hj) : ∀ j (hj : j < ms.length) i (hi : i < j),(ms[i]'(by omega)).2 < ms[j].2
 | j + 1,hj,i,hi => by
  rcases Nat.lt_succ_iff_lt_or_eq.1 hi with h1 | rfl
  ·have:=ups h j (by omega) i h1
   have:=(h (j + 1) hj).up j (by omega) rfl
   omega
  ·exact (h (i + 1) hj).up i (by omega) rfl
theorem mayGo_at (next : Int) (ms : List Mem) : mayGo next 0 [] ms = true ↔ ∀ j (hj : j < ms.length),OkAt next ms j hj:=by
 rw [mayGo_iff]
 constructor
 ·rintro ⟨h1,h2,h3⟩ j hj
  obtain ⟨a1,_,a3,a4⟩:=h1 _ (List.getElem_mem hj)
  obtain ⟨b1,b2⟩:=(nodeB_iff _).1 a1
  refine ⟨b1,b2,by omega,a4,fun i hi _ => List.pairwise_iff_getElem.1 h2 i j (by omega) hj hi,fun i hi e => ?_⟩
  have:=List.pairwise_iff_getElem.1 h3 i j (by simp; omega) (by simp; omega) hi
  simp at this
  exact this e
 ·intro h
  refine ⟨fun m hm => ?_,List.pairwise_iff_getElem.2 fun i j hi hj hij => ups h j hj i hij,List.pairwise_iff_getElem.2 fun i j hi hj hij => ?_⟩
  ·obtain ⟨j,hj,rfl⟩:=List.getElem_of_mem hm
   have:=h j hj
   exact ⟨(nodeB_iff _).2 ⟨this.n1,this.n7⟩,by simp,by have:=this.i1; omega,this.ix⟩
  ·simp only [List.getElem_map]
   exact (h j (by simpa using hj)).ne i hij
set_option maxHeartbeats 8000000 in
set_option maxRecDepth 100000 in
theorem ris_any (d : De) (s : Value) (w : World) (hs : SM w w.heap.size s d.ms) (hf : d.f.size <= 140737488355328) (ht : d.t.size <= 140737488355328) (hl : d.ms.length <= 140737488355328) :
  Calls Tryz.prog 10 #[dv d s] w fun e w' => e = .returned (.bool (isD d)) /\ Below w.heap.size w w':=by
 obtain ⟨A,c,rfl⟩:=hs.form
 have c1:=fun w => rid_any d.id w
 have c2:=fun w => rid_any d.gen w
 have c3:=fun w => rid_any d.next w
 have c4:=fun w => Bnd.ris_any d.f d.t w hf ht
 have e4 : isB (B d.f d.t) = isB d.b:=rfl
 rw [e4] at c4
 have hck : isD d = (idB d.id && idB d.gen && idB d.next && isB d.b && mayB d.next d.ms):=rfl
 obtain ⟨R,hR⟩ : ∃ R,isD d = R:=⟨_,rfl⟩
 rw [hR]
 rw [hR] at hck
 clear hR e4
 cases h1 : idB d.id with
 | false =>
  rw [h1] at c1 hck
  have HF:=Lib.hid hck
  clear h1 hck
  go_enter Tryz.func10,Tryz.ntmps10
  go_wp2_with fail
  refine (c1 _).mono ?_
  rintro e w1 ⟨rfl,rfl⟩
  go_wp2_with fail
  go_ret
  exact ⟨ret_bool (by rw [HF.out]; rfl),(Below.refl _ _).alloc (Nat.le_refl _) _⟩
 | true =>
  rw [h1] at c1 hck
  clear h1
  cases h2 : idB d.gen with
  | false =>
   rw [h2] at c2 hck
   have HF:=Lib.hid hck
   clear h2 hck
   go_enter Tryz.func10,Tryz.ntmps10
   go_wp2_with fail
   refine (c1 _).mono ?_
   rintro e w1 ⟨rfl,rfl⟩
   go_wp2_with fail
   refine (c2 _).mono ?_
   rintro e w1 ⟨rfl,rfl⟩
   go_wp2_with fail
   go_ret
   exact ⟨ret_bool (by rw [HF.out]; rfl),(Below.refl _ _).alloc (Nat.le_refl _) _⟩
  | true =>
   rw [h2] at c2 hck
   clear h2
   cases h3 : idB d.next with
   | false =>
    rw [h3] at c3 hck
    have HF:=Lib.hid hck
    clear h3 hck
    go_enter Tryz.func10,Tryz.ntmps10
    go_wp2_with fail
    refine (c1 _).mono ?_
    rintro e w1 ⟨rfl,rfl⟩
    go_wp2_with fail
    refine (c2 _).mono ?_
    rintro e w1 ⟨rfl,rfl⟩
    go_wp2_with fail
    refine (c3 _).mono ?_
    rintro e w1 ⟨rfl,rfl⟩
    go_wp2_with fail
    go_ret
    exact ⟨ret_bool (by rw [HF.out]; rfl),(Below.refl _ _).alloc (Nat.le_refl _) _⟩
   | true =>
    rw [h3] at c3 hck
    clear h3
    cases h4 : isB d.b with
    | false =>
     rw [h4] at c4 hck
     have HF:=Lib.hid hck
     clear h4 hck
     go_enter Tryz.func10,Tryz.ntmps10
     go_wp2_with fail
     refine (c1 _).mono ?_
     rintro e w1 ⟨rfl,rfl⟩
     go_wp2_with fail
     refine (c2 _).mono ?_
     rintro e w1 ⟨rfl,rfl⟩
     go_wp2_with fail
     refine (c3 _).mono ?_
     rintro e w1 ⟨rfl,rfl⟩
     go_wp2_with fail
     refine (c4 _).mono ?_
     rintro e w1 ⟨rfl,b1⟩
     go_wp2_with fail
     go_ret
     exact ⟨ret_bool (by rw [HF.out]; rfl),((Below.refl _ w).alloc (Nat.le_refl _) _).trans (b1.mono (by simp))⟩
    | true =>
     rw [h4] at c4 hck
     clear h4
     by_cases h5 : 1 <= d.ms.length /\ d.ms.length <= 5
     rotate_left
     ·have hr : mayB d.next d.ms = false:=by unfold mayB; simp [h5]
      rw [hr] at hck
      have HF:=Lib.hid hck
      have g : ((d.ms.length : Int) < 1) = True \/ (((d.ms.length : Int) < 1) = False /\ ((d.ms.length : Int) > 5) = True):=by
       by_cases h1 : (d.ms.length : Int) < 1
       ·exact .inl (eq_true h1)
       ·exact .inr ⟨eq_false h1,eq_true (by omega)⟩
      clear hr hck h5
      rcases g with g1 | ⟨g1,g2⟩
      all_goals
       go_enter Tryz.func10,Tryz.ntmps10
       go_wp2_with fail
       refine (c1 _).mono ?_
       rintro e w1 ⟨rfl,rfl⟩
       go_wp2_with fail
       refine (c2 _).mono ?_
       rintro e w1 ⟨rfl,rfl⟩
       go_wp2_with fail
       refine (c3 _).mono ?_
       rintro e w1 ⟨rfl,rfl⟩
       go_wp2_with fail
       refine (c4 _).mono ?_
       rintro e w1 ⟨rfl,b1⟩
       have B1:=(BoxD.new w d (.slice A d.ms.length c)).keep b1
       obtain ⟨p_0,⟨p_1,p_2,p_3,p_4,p_5,p_6⟩,p_7⟩:=id B1
       go_wp2_with fail
       go_ret
       exact ⟨ret_bool (by rw [HF.out]; rfl),((Below.refl _ w).alloc (Nat.le_refl _) _).trans (b1.mono (by simp))⟩
     ·have hr : mayB d.next d.ms = mayGo d.next 0 [] d.ms:=by unfold mayB; simp [h5]
      rw [hr] at hck
      have hck' : (mayGo d.next 0 [] d.ms = R):=by simpa using hck.symm
      have HF:=Lib.hid hck'
      obtain ⟨h51,h52⟩:=h5
      have g1 : ((d.ms.length : Int) < 1) = False:=eq_false (by omega)
      have g2 : ((d.ms.length : Int) > 5) = False:=eq_false (by omega)
      clear hr hck hck'
      go_enter Tryz.func10,Tryz.ntmps10
      go_wp2_with fail
      refine (c1 _).mono ?_
      rintro e w1 ⟨rfl,rfl⟩
      go_wp2_with fail
      refine (c2 _).mono ?_
      rintro e w1 ⟨rfl,rfl⟩
      go_wp2_with fail
      refine (c3 _).mono ?_
      rintro e w1 ⟨rfl,rfl⟩
      go_wp2_with fail
      refine (c4 _).mono ?_
      rintro e w1 ⟨rfl,b1⟩
      have B1:=(BoxD.new w d (.slice A d.ms.length c)).keep b1
      have hb1 : Below w.heap.size w w1:=((Below.refl _ w).alloc (Nat.le_refl _) _).trans (b1.mono (by simp))
      obtain ⟨p_0,⟨p_1,p_2,p_3,p_4,p_5,p_6⟩,p_7⟩:=id B1
      clear b1 c1 c2 c3 c4
      go_wp2_with fail
      clear p_0 p_1 p_2 p_3 p_4 p_5 p_6 p_7
      have hs1 : SM w1 w1.heap.size (.slice A d.ms.length c) d.ms:=(hs.below hb1).more hb1.size
      go_loopw [2,3,4,5] (fun v2 vi _ _ wr => ∃ k : Nat,k <= d.ms.length /\ vi = .int .i64 (k : Int) /\ v2 = .bool false /\ Hid (∀ j (_ : j < k) (hj : j < d.ms.length),OkAt d.next d.ms j hj) /\ Below w1.heap.size w1 wr) (fun _ vi _ _ _ => d.ms.length - (intOf vi).toNat)
      case atStart => exact ⟨0,Nat.zero_le _,rfl,rfl,Lib.hid (fun j hj => by omega),Below.refl _ _⟩
      case round =>
       revert hrel; revert wr; intro wo hrel
       obtain ⟨k,hk,rfl,rfl,HK,hbo⟩:=hrel
       have Bo:=B1.keep hbo
       obtain ⟨p_0,⟨p_1,p_2,p_3,p_4,p_5,p_6⟩,p_7⟩:=id Bo
       by_cases hlt : k < d.ms.length
       rotate_left
       ·obtain rfl : k = d.ms.length:=by omega
        have HT : Hid (R = true):=Lib.hid (HF.out ▸ (mayGo_at _ _).2 fun j hj => HK.out j hj hj)
        go_wp2_with fail
        go_ret
        exact ⟨ret_bool HT.out.symm,hb1.trans (hbo.mono hb1.size)⟩
       ·obtain ⟨b,o,rfl,hb,m1,m2⟩:=(hs1.below hbo).at_ hlt
        obtain ⟨⟨x,y⟩,hm⟩ : ∃ m,d.ms[k] = m:=⟨_,rfl⟩
        rw [hm] at m1 m2
        have HM:=Lib.hid hm
        clear hm
        simp only at m1 m2
        have hbad : ¬ OkAt d.next d.ms k hlt -> Hid (false = R):=fun h => Lib.hid (by
         rw [<- HF.out]
         cases hx : mayGo d.next 0 [] d.ms with
         | false => rfl
         | true => exact absurd ((mayGo_at _ _).1 hx k hlt) h)
        have HB:=Lib.hid hbad
        clear hbad
        have hbw : Below w.heap.size w wo:=hb1.trans (hbo.mono hb1.size)
        have k0 : (0 <= (k : Int)) = True:=eq_true (by omega)
        have k1 : ((k : Int) < (d.ms.length : Int)) = True:=eq_true (by omega)
        have four : ((x < 1) = True \/ ((x < 1) = False /\ (x > 7) = True) \/ ((x < 1) = False /\ (x > 7) = False /\ (y < 1) = True) \/ ((x < 1) = False /\ (x > 7) = False /\ (y < 1) = False /\ (y >= d.next) = True)) \/ ((x < 1) = False /\ (x > 7) = False /\ (y < 1) = False /\ (y >= d.next) = False):=by
         by_cases q1 : x < 1
         ·exact .inl (.inl (eq_true q1))
         ·by_cases q2 : x > 7
          ·exact .inl (.inr (.inl ⟨eq_false q1,eq_true q2⟩))
          ·by_cases q3 : y < 1
           ·exact .inl (.inr (.inr (.inl ⟨eq_false q1,eq_false q2,eq_true q3⟩)))
           ·by_cases q4 : y >= d.next
            ·exact .inl (.inr (.inr (.inr ⟨eq_false q1,eq_false q2,eq_false q3,eq_true q4⟩)))
            ·exact .inr ⟨eq_false q1,eq_false q2,eq_false q3,eq_false q4⟩
        rcases four with hbd | ⟨e1,e2,e3,e4⟩
        ·have HR : Hid (false = R):=HB.out (by
          intro ho
          have hm:=HM.out
          have a1:=ho.n1
          have a2:=ho.n7
          have a3:=ho.i1
          have a4:=ho.ix
          rw [hm] at a1 a2 a3 a4
          simp only at a1 a2 a3 a4
          rcases hbd with q | ⟨_,q⟩ | ⟨_,_,q⟩ | ⟨_,_,_,q⟩ <;> (have q:=of_eq_true q; omega))
         clear HB HM HF HK
         rcases hbd with e1 | ⟨e1,e2⟩ | ⟨e1,e2,e3⟩ | ⟨e1,e2,e3,e4⟩
         all_goals
          go_wp2_with fail
          go_quiet (fail)
          go_wp2_with fail
          go_ret
          exact ⟨ret_bool HR.out,below_drewN (hbw.alloc hbw.size _) _⟩
        ·have five : (((k : Int) > 0) = False /\ (0 < k) = False /\ k = 0) \/ (((k : Int) > 0) = True /\ (0 < k) = True /\ ∃ k',k = k' + 1):=by
          cases k with
          | zero => exact .inl ⟨eq_false (by omega),eq_false (by omega),rfl⟩
          | succ k' => exact .inr ⟨eq_true (by omega),eq_true (by omega),k',rfl⟩
         rcases five with ⟨e5,e5n,h0⟩ | ⟨e5,e5n,k',hk'⟩
         ·have HG : Hid (x <= 7 /\ 1 <= x /\ 1 <= y /\ y < d.next /\ PrevOk d.ms k y):=Lib.hid ⟨by have:=of_eq_false e2; omega,by have:=of_eq_false e1; omega,by have:=of_eq_false e3; omega,by have:=of_eq_false e4; omega,fun i hi he => by omega⟩
          have HZ:=Lib.hid h0
          clear h0
          go_wp2_with fail
          go_quiet (fail)
          go_wp2_with fail
          clear e1 e2 e3 e4 e5 e5n
          go_loopw [2,5] (fun v2 vq wr => ∃ i : Nat,i <= k /\ vq = .int .i64 (i : Int) /\ v2 = .bool false /\ Hid (∀ a (_ : a < i) (ha : a < d.ms.length),d.ms[a].1 ≠ x) /\ wr.cell? ⟨wo.heap.size,0,none⟩ = some (.int .i64 x) /\ wo.heap.size < wr.heap.size /\ Below wo.heap.size wo wr) (fun _ vq _ => k - (intOf vq).toNat)
          case atStart => exact ⟨0,Nat.zero_le _,rfl,rfl,Lib.hid (fun a h => by omega),by simp [go_sem],by simp,below_drewN ((Below.refl _ wo).alloc (Nat.le_refl _) _) _⟩
          case round =>
           clear p_0 p_1 p_2 p_3 p_4 p_5 p_6 p_7
           obtain ⟨i,hi,rfl,rfl,HI,n1,n2,hby⟩:=hrel
           have By:=Bo.keep hby
           obtain ⟨p_0,⟨p_1,p_2,p_3,p_4,p_5,p_6⟩,p_7⟩:=id By
           have hbz : Below w.heap.size w wr:=hbw.trans (hby.mono hbw.size)
           by_cases hik : i < k
           rotate_left
           ·have hie : i = k:=by omega
            have i5 : ((i : Int) < (k : Int)) = False:=eq_false (by omega)
            go_wp2_with fail
            go_roundw
            case rel =>
             refine ⟨k + 1,by omega,by go_num,rfl,Lib.hid (fun j hj hjl => ?_),hbo.trans (hby.mono hbo.size)⟩
             by_cases hjk : j < k
             ·exact HK.out j hjk hjl
             ·obtain rfl : j = k:=by omega
              have hm:=HM.out
              obtain ⟨r1,r2,r3,r4,r5⟩:=HG.out
              exact ⟨by rw [hm]; exact r2,by rw [hm]; exact r1,by rw [hm]; exact r3,by rw [hm]; exact r4,fun a ha he => by rw [hm]; exact r5 a (by omega) he,fun a ha => by rw [hm]; exact HI.out a (by omega) (by omega)⟩
            case measure => simp [intOf]; omega
           ·have hil : i < d.ms.length:=by omega
            obtain ⟨b2,o2,hA2,hb2,s1,s2⟩:=((hs1.below hbo).below (hby.mono (by have:=hbo.size; omega))).at_ hil
            injection hA2 with hA2
            injection hA2 with hA3 hA4 _
            subst hA3 hA4
            obtain ⟨⟨ax,ay⟩,ham⟩ : ∃ m,d.ms[i] = m:=⟨_,rfl⟩
            rw [ham] at s1 s2
            simp only at s1 s2
            have HA:=Lib.hid ham
            have j0 : (0 <= (i : Int)) = True:=eq_true (by omega)
            have j1 : ((i : Int) < (d.ms.length : Int)) = True:=eq_true (by omega)
            clear ham
            by_cases hax : ax = x
            ·have HR : Hid (false = R):=HB.out (by
              intro ho
              have hm:=HM.out
              have a1:=ho.ne i hik
              rw [hm,HA.out] at a1
              exact a1 hax)
             have ax1 : (ax == x) = true:=by simpa using hax
             have ax2 : (ax = x) = True:=eq_true hax
             clear HB HM HF HK HG HI HA hax
             go_wp2_with fail
             go_quiet (fail)
             go_wp2_with fail
             go_ret
             exact ⟨ret_bool HR.out,below_drewN hbz _⟩
            ·have ax1 : (ax == x) = false:=by simpa using hax
             have ax2 : (ax = x) = False:=eq_false hax
             have HI2 : Hid (∀ a (_ : a < i + 1) (ha : a < d.ms.length),d.ms[a].1 ≠ x):=Lib.hid (fun a h ha => by
              by_cases h2 : a < i
              ·exact HI.out a h2 ha
              ·obtain rfl : a = i:=by omega
               rw [HA.out]; exact hax)
             clear hax
             go_wp2_with fail
             go_quiet (fail)
             go_wp2_with fail
             go_roundw
             case rel => exact ⟨i + 1,by omega,by go_num,rfl,HI2,n1,by simpa using n2,below_drewN hby _⟩
             case measure => simp [intOf]; omega
         ·have hkl : k' < d.ms.length:=by omega
          obtain ⟨b',o',hA',hb',m3,m4⟩:=(hs1.below hbo).at_ hkl
          injection hA' with hA'
          injection hA' with hA1 hA2 _
          subst hA1 hA2
          obtain ⟨⟨px,py⟩,hpm⟩ : ∃ m,d.ms[k'] = m:=⟨_,rfl⟩
          rw [hpm] at m3 m4
          simp only at m3 m4
          have HP:=Lib.hid hpm
          have HKK:=Lib.hid hk'
          have w4' : IntKind.i64.wrap ((k : Int) - 1) = (k' : Int):=by rw [IntKind.wrap_i64]; omega
          have hbs : b < wo.heap.size:=by have:=hbo.size; omega
          have w2' : (0 <= (k' : Int)) = True:=eq_true (by omega)
          have w3' : ((k' : Int) < (d.ms.length : Int)) = True:=eq_true (by omega)
          clear hpm hk'
          by_cases h6 : y <= py
          ·have e6 : (y <= py) = True:=eq_true h6
           have HR : Hid (false = R):=HB.out (by
            intro ho
            have hm:=HM.out
            have a1:=ho.up k' (by have:=HKK.out; omega) HKK.out.symm
            rw [hm,HP.out] at a1
            simp only at a1
            omega)
           clear HB HM HF HK HP HKK h6
           go_wp2_with fail
           go_quiet (fail)
           go_wp2_with fail
           go_ret
           exact ⟨ret_bool HR.out,below_drewN (hbw.alloc hbw.size _) _⟩
          ·have e6 : (y <= py) = False:=eq_false h6
           have HG : Hid (x <= 7 /\ 1 <= x /\ 1 <= y /\ y < d.next /\ PrevOk d.ms k y):=Lib.hid ⟨by have:=of_eq_false e2; omega,by have:=of_eq_false e1; omega,by have:=of_eq_false e3; omega,by have:=of_eq_false e4; omega,fun i hi he => by
            obtain rfl : i = k':=by have:=HKK.out; omega
            rw [HP.out]; simp only; omega⟩
           clear h6
           go_wp2_with fail
           go_quiet (fail)
           go_wp2_with fail
           clear e1 e2 e3 e4 e5 e5n
           go_loopw [2,5] (fun v2 vq wr => ∃ i : Nat,i <= k /\ vq = .int .i64 (i : Int) /\ v2 = .bool false /\ Hid (∀ a (_ : a < i) (ha : a < d.ms.length),d.ms[a].1 ≠ x) /\ wr.cell? ⟨wo.heap.size,0,none⟩ = some (.int .i64 x) /\ wo.heap.size < wr.heap.size /\ Below wo.heap.size wo wr) (fun _ vq _ => k - (intOf vq).toNat)
           case atStart => exact ⟨0,Nat.zero_le _,rfl,rfl,Lib.hid (fun a h => by omega),by simp [go_sem],by simp,below_drewN ((Below.refl _ wo).alloc (Nat.le_refl _) _) _⟩
           case round =>
            clear p_0 p_1 p_2 p_3 p_4 p_5 p_6 p_7
            obtain ⟨i,hi,rfl,rfl,HI,n1,n2,hby⟩:=hrel
            have By:=Bo.keep hby
            obtain ⟨p_0,⟨p_1,p_2,p_3,p_4,p_5,p_6⟩,p_7⟩:=id By
            have hbz : Below w.heap.size w wr:=hbw.trans (hby.mono hbw.size)
            by_cases hik : i < k
            rotate_left
            ·have hie : i = k:=by omega
             have i5 : ((i : Int) < (k : Int)) = False:=eq_false (by omega)
             go_wp2_with fail
             go_roundw
             case rel =>
              refine ⟨k + 1,by omega,by go_num,rfl,Lib.hid (fun j hj hjl => ?_),hbo.trans (hby.mono hbo.size)⟩
              by_cases hjk : j < k
              ·exact HK.out j hjk hjl
              ·obtain rfl : j = k:=by omega
               have hm:=HM.out
               obtain ⟨r1,r2,r3,r4,r5⟩:=HG.out
               exact ⟨by rw [hm]; exact r2,by rw [hm]; exact r1,by rw [hm]; exact r3,by rw [hm]; exact r4,fun a ha he => by rw [hm]; exact r5 a (by omega) he,fun a ha => by rw [hm]; exact HI.out a (by omega) (by omega)⟩
             case measure => simp [intOf]; omega
            ·have hil : i < d.ms.length:=by omega
             obtain ⟨b2,o2,hA2,hb2,s1,s2⟩:=((hs1.below hbo).below (hby.mono (by have:=hbo.size; omega))).at_ hil
             injection hA2 with hA2
             injection hA2 with hA3 hA4 _
             subst hA3 hA4
             obtain ⟨⟨ax,ay⟩,ham⟩ : ∃ m,d.ms[i] = m:=⟨_,rfl⟩
             rw [ham] at s1 s2
             simp only at s1 s2
             have HA:=Lib.hid ham
             have j0 : (0 <= (i : Int)) = True:=eq_true (by omega)
             have j1 : ((i : Int) < (d.ms.length : Int)) = True:=eq_true (by omega)
             clear ham
             by_cases hax : ax = x
             ·have HR : Hid (false = R):=HB.out (by
               intro ho
               have hm:=HM.out
               have a1:=ho.ne i hik
               rw [hm,HA.out] at a1
               exact a1 hax)
              have ax1 : (ax == x) = true:=by simpa using hax
              have ax2 : (ax = x) = True:=eq_true hax
              clear HB HM HF HK HG HI HA hax
              go_wp2_with fail
              go_quiet (fail)
              go_wp2_with fail
              go_ret
              exact ⟨ret_bool HR.out,below_drewN hbz _⟩
             ·have ax1 : (ax == x) = false:=by simpa using hax
              have ax2 : (ax = x) = False:=eq_false hax
              have HI2 : Hid (∀ a (_ : a < i + 1) (ha : a < d.ms.length),d.ms[a].1 ≠ x):=Lib.hid (fun a h ha => by
               by_cases h2 : a < i
               ·exact HI.out a h2 ha
               ·obtain rfl : a = i:=by omega
                rw [HA.out]; exact hax)
              clear hax
              go_wp2_with fail
              go_quiet (fail)
              go_wp2_with fail
              go_roundw
              case rel => exact ⟨i + 1,by omega,by go_num,rfl,HI2,n1,by simpa using n2,below_drewN hby _⟩
              case measure => simp [intOf]; omega
end Go.Proofs.YthcmnkmfhgoddaaGreatDoor.Ds

namespace Go.Proofs.YthcmnkmfhgoddaaGreatDoor.Dp
open Go.RowKit Bnd
open Go.Proofs.YthcmnkmfhgoddaaGreatDoor.O (Bd isB keyB hasB lt lt_tri lt_irrefl lt_asymm)
open Go.Proofs.YthcmnkmfhgoddaaGreatDoor.Ds (De SM isD dv)
open Go.Proofs.YthcmnkmfhgoddaaGreatDoor.Ss (Ses Zs ses SZ PZ NoP isS)
open Go.Proofs.YthcmnkmfhgoddaaGreatDoor.Od (Pr SP amongB)
def prevT (ps : List Pr) (k : Nat) : Text:=if k = 0 then [] else (ps.getD (k - 1) (Od.E0,Od.E0)).1.toList
theorem prevT_next {ps : List Pr} {k : Nat} (h : k < ps.length) : prevT ps (k + 1) = ps[k].1.toList:=by
 unfold prevT
 rw [if_neg (by omega),List.getD_eq_getElem?_getD,List.getElem?_eq_getElem (show k + 1 - 1 < ps.length by omega)]
 rfl
def prevE (ns : List Int) (k : Nat) : Int:=if k = 0 then 0 else ns.getD (k - 1) 0
theorem prevE_next {ns : List Int} {k : Nat} (h : k < ns.length) : prevE ns (k + 1) = ns[k]:=by
 unfold prevE
 rw [if_neg (by omega),List.getD_eq_getElem?_getD,List.getElem?_eq_getElem (show k + 1 - 1 < ns.length by omega)]
 rfl
theorem lt_nil_key {k : Text} (h : keyB k = true) : lt [] k = true:=by
 cases k with
 | nil => simp [keyB] at h
 | cons a l => rfl
set_option maxHeartbeats 16000000 in
set_option maxRecDepth 100000 in
theorem ris_any (o : Ph) (w : World) (h : HP w w.heap.size o) (hf : FitP o) :
  Calls Tryz.prog 16 #[qv o] w fun e w' => e = .returned (.bool (isP o.pl)) /\ Below w.heap.size w w':=by
 have KD:=fun w' (hb : Below w.heap.size w w') => Ds.ris_any o.d o.sm w' ((h.below hb).more hb.size).sm hf.f hf.t hf.ms
 have KS:=fun w' (hb : Below w.heap.size w w') => Ss.ris_any o.sz o.zs w' ((h.below hb).more hb.size).sz ((h.below hb).more hb.size).pz (fun z hz => ⟨(hf.fit z hz).1,(hf.fit z hz).2.1,(hf.fit z hz).2.2⟩) hf.zs
 obtain ⟨r,hR⟩ : ∃ r,isP o.pl = r:=⟨_,rfl⟩
 rw [hR]
 have hR' : (isD o.d && isS (ses o.zs) && goP (B o.d.f o.d.t) [] o.ps && (decide (o.ea.length <= 200) && goE 0 o.ea) && amongB o.al 0 1099511627776) = r:=by rw [<- hR]; rfl
 have hsp:=h.sp
 have hsi:=h.se
 have heach:=hf.each
 have hpl:=hf.ps
 have hel:=hf.ea
 obtain ⟨d,ps,zs,fr,ea,al,fA,fB,fC,fD,fa,fb,fc,fd,rfl⟩:=h.open
 simp only at KD KS hR' hsp hsi heach hpl hel ⊢
 obtain ⟨N,hN⟩ : ∃ N,ps.length = N:=⟨_,rfl⟩
 obtain ⟨M,hM⟩ : ∃ M,ea.length = M:=⟨_,rfl⟩
 have HN:=Lib.hid hN
 have HM:=Lib.hid hM
 rw [hN] at hpl hsp
 rw [hM] at hel hR' hsi
 simp only [qv,hN,hM]
 obtain ⟨x1,hx1⟩ : ∃ x,isD d = x:=⟨_,rfl⟩
 obtain ⟨x2,hx2⟩ : ∃ x,isS (ses zs) = x:=⟨_,rfl⟩
 rw [hx1] at KD hR'
 rw [hx2] at KS hR'
 have HR:=Lib.hid hR'
 have HSP:=Lib.hid hsp
 have HSI:=Lib.hid hsi
 have HEA:=Lib.hid heach
 obtain ⟨W0,hW0⟩ : ∃ W0,w.alloc (.cells #[.int .i64 d.id,.string d.f,.string d.t,.int .i64 d.gen,.slice fA d.ms.length fa,.int .i64 d.next,.slice fB N fb,.slice fC zs.length fc,.bool fr,.slice fD M fd,.int .i64 al] 38) = W0:=⟨_,rfl⟩
 have B0 : BoxP w.heap.size ⟨d,.slice fA d.ms.length fa,ps,.slice fB N fb,zs,.slice fC zs.length fc,fr,ea,.slice fD M fd,al⟩ W0:=hW0 ▸ BoxP.new w ⟨d,.slice fA d.ms.length fa,ps,.slice fB N fb,zs,.slice fC zs.length fc,fr,ea,.slice fD M fd,al⟩
 have hb0 : Below w.heap.size w W0:=hW0 ▸ (Below.refl _ w).alloc (Nat.le_refl _) _
 clear hx1 hx2 hR hR' h hf hN hM hsp hsi heach
 go_enter Tryz.func16,Tryz.ntmps16
 obtain ⟨p_0,⟨p_1,p_2,p_3,p_4,p_5,p_6,p_7,p_8,p_9,p_10,p_11⟩,p_12⟩:=_root_.id B0
 go_wp2_with (rw [hW0])
 refine (KD _ hb0).mono ?_
 rintro e w1 ⟨rfl,b1⟩
 have B1:=B0.keep b1
 have hb1:=hb0.trans (b1.mono hb0.size)
 ((try clear p_0); (try clear p_1); (try clear p_2); (try clear p_3); (try clear p_4); (try clear p_5); (try clear p_6); (try clear p_7); (try clear p_8); (try clear p_9); (try clear p_10); (try clear p_11); (try clear p_12))
 clear b1 B0 KD hW0
 obtain ⟨p_0,⟨p_1,p_2,p_3,p_4,p_5,p_6,p_7,p_8,p_9,p_10,p_11⟩,p_12⟩:=_root_.id B1
 cases x1 with
 | false =>
  clear KS
  go_wp2_with fail
  go_ret
  exact ⟨by rw [<- HR.out]; rfl,hb1⟩
 | true =>
 go_wp2_with fail
 refine (KS _ hb1).mono ?_
 rintro e w2 ⟨rfl,b2⟩
 have B2:=B1.keep b2
 have hb2:=hb1.trans (b2.mono hb1.size)
 ((try clear p_0); (try clear p_1); (try clear p_2); (try clear p_3); (try clear p_4); (try clear p_5); (try clear p_6); (try clear p_7); (try clear p_8); (try clear p_9); (try clear p_10); (try clear p_11); (try clear p_12))
 clear b2 B1 KS hb1 hb0
 obtain ⟨p_0,⟨p_1,p_2,p_3,p_4,p_5,p_6,p_7,p_8,p_9,p_10,p_11⟩,p_12⟩:=_root_.id B2
 cases x2 with
 | false =>
  go_wp2_with fail
  go_ret
  exact ⟨by rw [<- HR.out]; rfl,hb2⟩
 | true =>
 by_cases g1 : M <= 200
 rotate_left
 ·have g2 : ((M : Int) > 200) = True:=eq_true (by omega)
  have hr:=HR.out
  rw [show decide (M <= 200) = false by simpa using g1] at hr
  have HR2:=Lib.hid hr
  clear hr g1
  go_wp2_with fail
  go_ret
  exact ⟨by rw [<- HR2.out]; simp,hb2⟩
 have g2 : ((M : Int) > 200) = False:=eq_false (by omega)
 by_cases g3 : al < 0
 ·have hr:=HR.out
  rw [show amongB al 0 1099511627776 = false by unfold amongB; simp; omega] at hr
  have HR2:=Lib.hid hr
  have g4 : (al < 0) = True:=eq_true g3
  clear hr g1 g3
  go_wp2_with fail
  go_ret
  exact ⟨by rw [<- HR2.out]; simp,hb2⟩
 by_cases g5 : al > 1099511627776
 ·have hr:=HR.out
  rw [show amongB al 0 1099511627776 = false by unfold amongB; simp; omega] at hr
  have HR2:=Lib.hid hr
  have g4 : (al < 0) = False:=eq_false g3
  have g6 : (al > 1099511627776) = True:=eq_true g5
  clear hr g1 g3 g5
  go_wp2_with fail
  go_ret
  exact ⟨by rw [<- HR2.out]; simp,hb2⟩
 have hr:=HR.out
 rw [show amongB al 0 1099511627776 = true by unfold amongB; simp; omega,show decide (M <= 200) = true by simpa using g1] at hr
 simp only [Bool.true_and,Bool.and_true] at hr
 have HRR:=Lib.hid hr
 have g4 : (al < 0) = False:=eq_false g3
 have g6 : (al > 1099511627776) = False:=eq_false g5
 clear hr g1 g3 g5 HR
 go_wp2_with fail
 ((try clear p_0); (try clear p_1); (try clear p_2); (try clear p_3); (try clear p_4); (try clear p_5); (try clear p_6); (try clear p_7); (try clear p_8); (try clear p_9); (try clear p_10); (try clear p_11); (try clear p_12))
 clear g2 g4 g6
 --CUT1
 go_loopw [3] (fun vi wr => ∃ (k : Nat),k <= N /\ vi = .int .i64 (k : Int) /\ Hid ((goP (B d.f d.t) (prevT ps k) (ps.drop k) && goE 0 ea) = r) /\ BoxP w.heap.size ⟨d,.slice fA d.ms.length fa,ps,.slice fB N fb,zs,.slice fC zs.length fc,fr,ea,.slice fD M fd,al⟩ wr /\ Below w.heap.size w wr) (fun vi _ => N - (intOf vi).toNat)
 case atStart => exact ⟨0,Nat.zero_le _,rfl,Lib.hid (by simpa [prevT] using HRR.out),B2,hb2⟩
 case round =>
  clear B2 hb2 HRR
  obtain ⟨k,hk,rfl,HG,BR,hbw⟩:=hrel
  have hz:=hbw.size
  by_cases hlt : k < N
  rotate_left
  ·obtain rfl : N = k:=by omega
   have hg:=HG.out
   rw [List.drop_of_length_le (by have:=HN.out; omega)] at hg
   simp only [goP,Bool.true_and] at hg
   have HE:=Lib.hid hg
   have k1 : ((N : Int) < (N : Int)) = False:=eq_false (by omega)
   clear hg HG hlt
   obtain ⟨p_0,⟨p_1,p_2,p_3,p_4,p_5,p_6,p_7,p_8,p_9,p_10,p_11⟩,p_12⟩:=_root_.id BR
   go_wp2_with fail
   ((try clear p_0); (try clear p_1); (try clear p_2); (try clear p_3); (try clear p_4); (try clear p_5); (try clear p_6); (try clear p_7); (try clear p_8); (try clear p_9); (try clear p_10); (try clear p_11); (try clear p_12))
   clear k1
   go_loopw [5] (fun vi wo => ∃ j : Nat,j <= M /\ vi = .int .i64 (j : Int) /\ Hid (goE (prevE ea j) (ea.drop j) = r) /\ 0 <= prevE ea j /\ BoxP w.heap.size ⟨d,.slice fA d.ms.length fa,ps,.slice fB N fb,zs,.slice fC zs.length fc,fr,ea,.slice fD M fd,al⟩ wo /\ Below w.heap.size w wo) (fun vi _ => M - (intOf vi).toNat)
   case atStart => exact ⟨0,Nat.zero_le _,rfl,Lib.hid (by simpa [prevE] using HE.out),by simp [prevE],BR,hbw⟩
   case round =>
    clear BR hbw HE hz
    revert hrel; revert wr; intro wo hrel
    obtain ⟨j,hj,rfl,HG,h0,BO,hbo⟩:=hrel
    have hzo:=hbo.size
    by_cases hlt : j < M
    rotate_left
    ·obtain rfl : j = M:=by omega
     have hg:=HG.out
     rw [List.drop_of_length_le (by have:=HM.out; omega)] at hg
     have HG2:=Lib.hid hg
     have k1 : ((j : Int) < (j : Int)) = False:=eq_false (by omega)
     clear hg HG hlt
     obtain ⟨p_0,⟨p_1,p_2,p_3,p_4,p_5,p_6,p_7,p_8,p_9,p_10,p_11⟩,p_12⟩:=_root_.id BO
     go_wp2_with fail
     go_ret
     exact ⟨by rw [<- HG2.out]; rfl,hbo⟩
    ·have hkx : j < ea.length:=by rw [HM.out]; exact hlt
     have hv1:=HSI.out.below hbo
     have hprev : ∀ k',k' + 1 = j -> ∃ b o xp,fD = some ⟨b,o,none⟩ /\ wo.cell? ⟨b,o + k',none⟩ = some (.int .i64 xp) /\ xp = prevE ea j:=by
      intro k' hk'
      have hkl : k' < ea.length:=by omega
      obtain ⟨b',o',hA',hb',m0⟩:=hv1.at_ hkl
      refine ⟨b',o',_,hA',m0,?_⟩
      rw [<- hk',prevE_next hkl]
     obtain ⟨b,o,rfl,hb,q0⟩:=hv1.at_ hkx
     have hg:=HG.out
     rw [List.drop_eq_getElem_cons hkx,goE] at hg
     have hnx:=prevE_next hkx
     obtain ⟨x,hx⟩ : ∃ x,ea[j] = x:=⟨_,rfl⟩
     rw [hx] at q0 hg hnx
     obtain ⟨P,hP⟩ : ∃ P,prevE ea j = P:=⟨_,rfl⟩
     rw [hP] at hg hprev h0
     have hbz2 : b < wo.heap.size:=by omega
     have hq : ∀ wx,Below wo.heap.size wo wx -> wx.cell? ⟨b,o + j,none⟩ = some (.int .i64 x):=fun wx hb => (hb.cell (p:=⟨b,o + j,none⟩) hbz2).trans q0
     have ht9 : ∀ wx,Below wo.heap.size wo wx -> wx.cell? ⟨w.heap.size,9,none⟩ = some (.slice (some ⟨b,o,none⟩) M fd):=fun wx hb => (BO.keep hb).2.1.2.2.2.2.2.2.2.2.2.1
     have hpv' : ∀ k',k' + 1 = j -> ∃ xp,(∀ wx,Below wo.heap.size wo wx -> wx.cell? ⟨b,o + k',none⟩ = some (.int .i64 xp)) /\ xp = P:=by
      intro k' hk'
      obtain ⟨b',o',xp,e',m0,m1⟩:=hprev k' hk'
      injection e' with e'
      injection e' with e1 e2 _
      subst e1 e2
      exact ⟨xp,fun wx hb => (hb.cell (p:=⟨b,o + k',none⟩) hbz2).trans m0,m1⟩
     have hP0 : j = 0 -> P = 0:=fun h0 => by rw [<- hP,h0]; rfl
     have k0 : (0 <= (j : Int)) = True:=eq_true (by omega)
     have k1 : ((j : Int) < (M : Int)) = True:=eq_true (by omega)
     clear hv1 hkx hprev q0 hx hP HG
     obtain ⟨p_0,⟨p_1,p_2,p_3,p_4,p_5,p_6,p_7,p_8,p_9,p_10,p_11⟩,p_12⟩:=_root_.id BO
     go_wp2_with fail
     ((try clear p_0); (try clear p_1); (try clear p_2); (try clear p_3); (try clear p_4); (try clear p_5); (try clear p_6); (try clear p_7); (try clear p_8); (try clear p_9); (try clear p_10); (try clear p_11); (try clear p_12))
     by_cases h1 : x < 1
     ·have m1 : (x < 1) = True:=eq_true h1
      rw [if_neg (by omega)] at hg
      have HG2:=Lib.hid hg
      clear hg h1 hpv' hP0 hnx
      refine St.wp_region_stage (fun _ wx => Below wo.heap.size wo wx) (by kernel_rfl) (by kernel_rfl) (by kernel_rfl) (Below.refl _ _).drew ?_
      iterate 7
       (apply St.step_give
        ·rfl
        ·intro L wx hS hcl hrd
         have t9:=ht9 wx hS
         have cq:=hq wx hS
         clear hcl hrd
         go_simp
         try with_reducible rfl
        ·exact fun L wx hS => hS
        simp only [Act.put,St.pu])
      iterate 6
       (apply St.step_past
        ·rfl
        ·exact fun L wx hS => hS
        simp only [Act.put,St.pu])
      iterate 2
       (apply St.step_give
        ·rfl
        ·intro L wx hS hcl hrd
         clear hcl hrd
         go_simp
         try with_reducible rfl
        ·exact fun L wx hS => hS
        simp only [Act.put,St.pu])
      iterate 16
       (apply St.step_past
        ·rfl
        ·exact fun L wx hS => hS
        simp only [Act.put,St.pu])
      iterate 1
       (apply St.step_give
        ·rfl
        ·intro L wx hS hcl hrd
         clear hcl hrd
         go_simp
         try with_reducible rfl
        ·exact fun L wx hS => hS
        simp only [Act.put,St.pu])
      refine St.step_last ?_
      intro L9 wz hbz _
      clear ht9 hq
      go_wp2_with fail
      go_ret
      exact ⟨by rw [<- HG2.out]; rfl,hbo.trans (hbz.mono hbo.size)⟩
     have m1 : (x < 1) = False:=eq_false h1
     by_cases h2 : x <= 1099511627776
     rotate_left
     ·have m2 : (x > 1099511627776) = True:=eq_true (by omega)
      rw [if_neg (by omega)] at hg
      have HG2:=Lib.hid hg
      clear hg h1 h2 hpv' hP0 hnx
      refine St.wp_region_stage (fun _ wx => Below wo.heap.size wo wx) (by kernel_rfl) (by kernel_rfl) (by kernel_rfl) (Below.refl _ _).drew ?_
      iterate 15
       (apply St.step_give
        ·rfl
        ·intro L wx hS hcl hrd
         have t9:=ht9 wx hS
         have cq:=hq wx hS
         clear hcl hrd
         go_simp
         try with_reducible rfl
        ·exact fun L wx hS => hS
        simp only [Act.put,St.pu])
      iterate 16
       (apply St.step_past
        ·rfl
        ·exact fun L wx hS => hS
        simp only [Act.put,St.pu])
      iterate 1
       (apply St.step_give
        ·rfl
        ·intro L wx hS hcl hrd
         clear hcl hrd
         go_simp
         try with_reducible rfl
        ·exact fun L wx hS => hS
        simp only [Act.put,St.pu])
      refine St.step_last ?_
      intro L9 wz hbz _
      clear ht9 hq
      go_wp2_with fail
      go_ret
      exact ⟨by rw [<- HG2.out]; rfl,hbo.trans (hbz.mono hbo.size)⟩
     have m2 : (x > 1099511627776) = False:=eq_false (by omega)
     by_cases hj0 : j = 0
     ·rw [if_pos ⟨by rw [hP0 hj0]; omega,h2⟩,<- hnx] at hg
      have h0' : 0 <= prevE ea (j + 1):=by rw [hnx]; omega
      have e1 : ((j : Int) > 0) = False:=eq_false (by omega)
      have e4 : ((0 : Int) < (j : Int)) = False:=eq_false (by omega)
      have e5 : (0 < j) = False:=eq_false (by omega)
      have HG2:=Lib.hid hg
      clear hg h1 h2 hpv' hP0 hnx hj0
      refine St.wp_region_stage (fun _ wx => Below wo.heap.size wo wx) (by kernel_rfl) (by kernel_rfl) (by kernel_rfl) (Below.refl _ _).drew ?_
      iterate 18
       (apply St.step_give
        ·rfl
        ·intro L wx hS hcl hrd
         have t9:=ht9 wx hS
         have cq:=hq wx hS
         clear hcl hrd
         go_simp
         try with_reducible rfl
        ·exact fun L wx hS => hS
        simp only [Act.put,St.pu])
      iterate 12
       (apply St.step_past
        ·rfl
        ·exact fun L wx hS => hS
        simp only [Act.put,St.pu])
      iterate 2
       (apply St.step_give
        ·rfl
        ·intro L wx hS hcl hrd
         clear hcl hrd
         go_simp
         try with_reducible rfl
        ·exact fun L wx hS => hS
        simp only [Act.put,St.pu])
      refine St.step_last ?_
      intro L9 wz hbz _
      clear ht9 hq
      have hb9:=hbo.trans (hbz.mono hbo.size)
      have B9:=BO.keep hbz
      go_wp2_with fail
      go_roundw
      case rel => exact ⟨j + 1,by omega,by go_num,HG2,h0',B9,hb9⟩
      case measure => simp [intOf]; omega
     ·obtain ⟨k',hk'⟩ : ∃ k',k' + 1 = j:=⟨j - 1,by omega⟩
      obtain ⟨xp,hpv,rfl⟩:=hpv' k' hk'
      have e1 : ((j : Int) > 0) = True:=eq_true (by omega)
      have e4 : ((0 : Int) < (j : Int)) = True:=eq_true (by omega)
      have e5 : (0 < j) = True:=eq_true (by omega)
      have w4 : IntKind.i64.wrap ((j : Int) - 1) = (k' : Int):=by rw [IntKind.wrap_i64]; omega
      have w2' : (0 <= (k' : Int)) = True:=eq_true (by omega)
      have w3 : ((k' : Int) < (M : Int)) = True:=eq_true (by omega)
      by_cases h3 : xp < x
      ·rw [if_pos ⟨h3,h2⟩,<- hnx] at hg
       have h0' : 0 <= prevE ea (j + 1):=by rw [hnx]; omega
       have m3 : (x <= xp) = False:=eq_false (by omega)
       have HG2:=Lib.hid hg
       clear hg h1 h2 hpv' hP0 hnx hj0 h3 hk'
       refine St.wp_region_stage (fun _ wx => Below wo.heap.size wo wx) (by kernel_rfl) (by kernel_rfl) (by kernel_rfl) (Below.refl _ _).drew ?_
       iterate 32
        (apply St.step_give
         ·rfl
         ·intro L wx hS hcl hrd
          have t9:=ht9 wx hS
          have cq:=hq wx hS
          have cp:=hpv wx hS
          clear hcl hrd
          go_simp
          try with_reducible rfl
         ·exact fun L wx hS => hS
         simp only [Act.put,St.pu])
       refine St.step_last ?_
       intro L9 wz hbz _
       clear ht9 hq
       have hb9:=hbo.trans (hbz.mono hbo.size)
       have B9:=BO.keep hbz
       go_wp2_with fail
       go_roundw
       case rel => exact ⟨j + 1,by omega,by go_num,HG2,h0',B9,hb9⟩
       case measure => simp [intOf]; omega
      ·rw [if_neg (by omega)] at hg
       have m3 : (x <= xp) = True:=eq_true (by omega)
       have HG2:=Lib.hid hg
       clear hg h1 h2 hpv' hP0 hnx hj0 h3 hk'
       refine St.wp_region_stage (fun _ wx => Below wo.heap.size wo wx) (by kernel_rfl) (by kernel_rfl) (by kernel_rfl) (Below.refl _ _).drew ?_
       iterate 32
        (apply St.step_give
         ·rfl
         ·intro L wx hS hcl hrd
          have t9:=ht9 wx hS
          have cq:=hq wx hS
          have cp:=hpv wx hS
          clear hcl hrd
          go_simp
          try with_reducible rfl
         ·exact fun L wx hS => hS
         simp only [Act.put,St.pu])
       refine St.step_last ?_
       intro L9 wz hbz _
       clear ht9 hq
       go_wp2_with fail
       go_ret
       exact ⟨by rw [<- HG2.out]; rfl,hbo.trans (hbz.mono hbo.size)⟩
  ·have hkx : k < ps.length:=by rw [HN.out]; exact hlt
   have hv1:=HSP.out.below hbw
   have hprev : ∀ k',k' + 1 = k -> ∃ b o x,fB = some ⟨b,o,none⟩ /\ wr.cell? ⟨b,o + k' * 2,none⟩ = some (.string x) /\ x.toList = prevT ps k:=by
    intro k' hk'
    have hkl : k' < ps.length:=by omega
    obtain ⟨b',o',hA',hb',m0,_⟩:=hv1.at_ hkl
    refine ⟨b',o',_,hA',m0,?_⟩
    rw [<- hk',prevT_next hkl]
   obtain ⟨b,o,rfl,hb,q0,q1⟩:=hv1.at_ hkx
   have hg:=HG.out
   rw [List.drop_eq_getElem_cons hkx,goP] at hg
   have hnx:=prevT_next hkx
   have hsz:=HEA.out _ (List.getElem_mem hkx)
   obtain ⟨⟨x,y⟩,hx⟩ : ∃ x,ps[k] = x:=⟨_,rfl⟩
   rw [hx] at q0 q1 hg hsz hnx
   simp only at q0 q1 hg hsz hnx
   obtain ⟨P,hP⟩ : ∃ P,prevT ps k = P:=⟨_,rfl⟩
   rw [hP] at hg hprev
   obtain ⟨W2,hW2⟩ : ∃ W2,wr.alloc (.cells #[.string x,.string y] 85) = W2:=⟨_,rfl⟩
   have hbr : Below wr.heap.size wr W2:=hW2 ▸ (Below.refl _ wr).alloc (Nat.le_refl _) _
   have hbq:=hbw.trans (hbr.mono hz)
   have hwz : wr.heap.size < W2.heap.size:=by rw [<- hW2]; simp
   have c0 : W2.cell? ⟨wr.heap.size,0,none⟩ = some (.string x):=by rw [<- hW2]; simp [go_sem]
   have c1 : W2.cell? ⟨wr.heap.size,1,none⟩ = some (.string y):=by rw [<- hW2]; simp [go_sem]
   have hx0:=fun wx (hb : Below W2.heap.size W2 wx) => (hb.cell (p:=⟨wr.heap.size,0,none⟩) hwz).trans c0
   have hx1:=fun wx (hb : Below W2.heap.size W2 wx) => (hb.cell (p:=⟨wr.heap.size,1,none⟩) hwz).trans c1
   have BQ:=BR.keep hbr
   have ht1 : ∀ wx,Below W2.heap.size W2 wx -> wx.cell? ⟨w.heap.size,1,none⟩ = some (.string d.f):=fun wx hb => (BQ.keep hb).2.1.2.1
   have ht2 : ∀ wx,Below W2.heap.size W2 wx -> wx.cell? ⟨w.heap.size,2,none⟩ = some (.string d.t):=fun wx hb => (BQ.keep hb).2.1.2.2.1
   have ht6 : ∀ wx,Below W2.heap.size W2 wx -> wx.cell? ⟨w.heap.size,6,none⟩ = some (.slice (some ⟨b,o,none⟩) N fb):=fun wx hb => (BQ.keep hb).2.1.2.2.2.2.2.2.1
   have k0 : (0 <= (k : Int)) = True:=eq_true (by omega)
   have k1 : ((k : Int) < (N : Int)) = True:=eq_true (by omega)
   have kK : ∀ wx,Below W2.heap.size W2 wx -> Calls Tryz.prog 50 #[.string x] wx fun e w' => e = .returned (.bool (keyB x.toList)) /\ Below W2.heap.size W2 w':=fun wx hb => (rkey_any x wx hsz.1).mono (by rintro e w' ⟨rfl,rfl⟩; exact ⟨rfl,hb⟩)
   have kH : ∀ wx,Below W2.heap.size W2 wx -> Calls Tryz.prog 20 #[bd d.f d.t,.string x] wx fun e w' => e = .returned (.bool (hasB (B d.f d.t) x.toList)) /\ Below W2.heap.size W2 w':=fun wx hb => (rhas_any d.f d.t x wx).mono (by rintro e w' ⟨rfl,b3⟩; exact ⟨rfl,hb.trans (b3.mono hb.size)⟩)
   have hbz2 : b < wr.heap.size:=by omega
   have hpv' : ∀ k',k' + 1 = k -> ∃ xp,(∀ wx,Below W2.heap.size W2 wx -> wx.cell? ⟨b,o + k' * 2,none⟩ = some (.string xp)) /\ xp.toList = P:=by
    intro k' hk'
    obtain ⟨b',o',xp,e',m0,m1⟩:=hprev k' hk'
    injection e' with e'
    injection e' with e1 e2 _
    subst e1 e2
    exact ⟨xp,fun wx hb => ((hbr.trans (hb.mono hbr.size)).cell (p:=⟨b,o + k' * 2,none⟩) hbz2).trans m0,m1⟩
   have hP0 : k = 0 -> P = []:=fun h0 => by rw [<- hP,h0]; rfl
   clear hv1 hkx hprev c0 c1 hx hP
   obtain ⟨p_0,⟨p_1,p_2,p_3,p_4,p_5,p_6,p_7,p_8,p_9,p_10,p_11⟩,p_12⟩:=_root_.id BR
   go_wp2_with (rw [hW2])
   ((try clear p_0); (try clear p_1); (try clear p_2); (try clear p_3); (try clear p_4); (try clear p_5); (try clear p_6); (try clear p_7); (try clear p_8); (try clear p_9); (try clear p_10); (try clear p_11); (try clear p_12))
   clear hW2 q0 q1 BR
   --CUT2
   cases h3 : keyB x.toList with
   | false =>
    rw [if_neg (fun h => by rw [h3] at h; exact absurd h.2.2.1 (by simp))] at hg
    rw [h3] at kK
    have HG2:=Lib.hid hg
    clear hg h3 hpv' hnx hP0
    refine St.wp_region_stage (fun _ wx => Below W2.heap.size W2 wx) (by kernel_rfl) (by kernel_rfl) (by kernel_rfl) (Below.refl _ _).drew ?_
    iterate 2
     (apply St.step_give
      ·rfl
      ·intro L wx hS hcl hrd
       have c0:=hx0 wx hS
       have c1:=hx1 wx hS
       have t1:=ht1 wx hS
       have t2:=ht2 wx hS
       have t6:=ht6 wx hS
       clear hcl hrd
       go_simp
       try with_reducible rfl
      ·exact fun L wx hS => hS
      simp only [Act.put,St.pu])
    apply St.step_into
    ·rfl
    ·intro wx
     go_simp
     exact ⟨rfl,rfl⟩
    ·exact fun L wx hS hcl hrd => kK wx hS
    simp only [Act.put,St.pu]
    iterate 2
     (apply St.step_give
      ·rfl
      ·intro L wx hS hcl hrd
       clear hcl hrd
       go_simp
       try with_reducible rfl
      ·exact fun L wx hS => hS
      simp only [Act.put,St.pu])
    iterate 7
     (apply St.step_past
      ·rfl
      ·exact fun L wx hS => hS
      simp only [Act.put,St.pu])
    iterate 2
     (apply St.step_give
      ·rfl
      ·intro L wx hS hcl hrd
       clear hcl hrd
       go_simp
       try with_reducible rfl
      ·exact fun L wx hS => hS
      simp only [Act.put,St.pu])
    iterate 4
     (apply St.step_past
      ·rfl
      ·exact fun L wx hS => hS
      simp only [Act.put,St.pu])
    iterate 2
     (apply St.step_give
      ·rfl
      ·intro L wx hS hcl hrd
       clear hcl hrd
       go_simp
       try with_reducible rfl
      ·exact fun L wx hS => hS
      simp only [Act.put,St.pu])
    iterate 13
     (apply St.step_past
      ·rfl
      ·exact fun L wx hS => hS
      simp only [Act.put,St.pu])
    iterate 1
     (apply St.step_past
      ·rfl
      ·exact fun L wx hS => hS
      simp only [Act.put,St.pu])
    iterate 1
     (apply St.step_give
      ·rfl
      ·intro L wx hS hcl hrd
       clear hcl hrd
       go_simp
       try with_reducible rfl
      ·exact fun L wx hS => hS
      simp only [Act.put,St.pu])
    refine St.step_last ?_
    intro L9 wz hbz _
    clear kK kH hx0 hx1 ht1 ht2 ht6
    go_wp2_with fail
    go_ret
    exact ⟨by rw [<- HG2.out]; rfl,hbq.trans (hbz.mono hbq.size)⟩
   | true =>
    rw [h3] at kK
    cases h4 : hasB (B d.f d.t) x.toList with
    | false =>
     rw [if_neg (fun h => by rw [h4] at h; exact absurd h.2.2.2 (by simp))] at hg
     rw [h4] at kH
     have HG2:=Lib.hid hg
     clear hg h3 h4 hpv' hnx hP0
     refine St.wp_region_stage (fun _ wx => Below W2.heap.size W2 wx) (by kernel_rfl) (by kernel_rfl) (by kernel_rfl) (Below.refl _ _).drew ?_
     iterate 2
      (apply St.step_give
       ·rfl
       ·intro L wx hS hcl hrd
        have c0:=hx0 wx hS
        have c1:=hx1 wx hS
        have t1:=ht1 wx hS
        have t2:=ht2 wx hS
        have t6:=ht6 wx hS
        clear hcl hrd
        go_simp
        try with_reducible rfl
       ·exact fun L wx hS => hS
       simp only [Act.put,St.pu])
     apply St.step_into
     ·rfl
     ·intro wx
      go_simp
      exact ⟨rfl,rfl⟩
     ·exact fun L wx hS hcl hrd => kK wx hS
     simp only [Act.put,St.pu]
     iterate 2
      (apply St.step_give
       ·rfl
       ·intro L wx hS hcl hrd
        clear hcl hrd
        go_simp
        try with_reducible rfl
       ·exact fun L wx hS => hS
       simp only [Act.put,St.pu])
     iterate 5
      (apply St.step_give
       ·rfl
       ·intro L wx hS hcl hrd
        have c0:=hx0 wx hS
        have c1:=hx1 wx hS
        have t1:=ht1 wx hS
        have t2:=ht2 wx hS
        have t6:=ht6 wx hS
        clear hcl hrd
        go_simp
        try with_reducible rfl
       ·exact fun L wx hS => hS
       simp only [Act.put,St.pu])
     apply St.step_into
     ·rfl
     ·intro wx
      go_simp
      exact ⟨rfl,rfl⟩
     ·exact fun L wx hS hcl hrd => kH wx hS
     simp only [Act.put,St.pu]
     iterate 3
      (apply St.step_give
       ·rfl
       ·intro L wx hS hcl hrd
        clear hcl hrd
        go_simp
        try with_reducible rfl
       ·exact fun L wx hS => hS
       simp only [Act.put,St.pu])
     iterate 4
      (apply St.step_past
       ·rfl
       ·exact fun L wx hS => hS
       simp only [Act.put,St.pu])
     iterate 2
      (apply St.step_give
       ·rfl
       ·intro L wx hS hcl hrd
        clear hcl hrd
        go_simp
        try with_reducible rfl
       ·exact fun L wx hS => hS
       simp only [Act.put,St.pu])
     iterate 14
      (apply St.step_past
       ·rfl
       ·exact fun L wx hS => hS
       simp only [Act.put,St.pu])
     iterate 1
      (apply St.step_give
       ·rfl
       ·intro L wx hS hcl hrd
        clear hcl hrd
        go_simp
        try with_reducible rfl
       ·exact fun L wx hS => hS
       simp only [Act.put,St.pu])
     refine St.step_last ?_
     intro L9 wz hbz _
     clear kK kH hx0 hx1 ht1 ht2 ht6
     go_wp2_with fail
     go_ret
     exact ⟨by rw [<- HG2.out]; rfl,hbq.trans (hbz.mono hbq.size)⟩
    | true =>
     rw [h4] at kH
     by_cases h2 : y.size <= 512
     rotate_left
     ·rw [if_neg (fun h => h2 h.2.1)] at hg
      have l3 : ((y.size : Int) > 512) = True:=eq_true (by omega)
      have l4 : ((512 : Int) < (y.size : Int)) = True:=eq_true (by omega)
      have HG2:=Lib.hid hg
      clear hg h3 h4 h2 hpv' hnx hP0
      refine St.wp_region_stage (fun _ wx => Below W2.heap.size W2 wx) (by kernel_rfl) (by kernel_rfl) (by kernel_rfl) (Below.refl _ _).drew ?_
      iterate 2
       (apply St.step_give
        ·rfl
        ·intro L wx hS hcl hrd
         have c0:=hx0 wx hS
         have c1:=hx1 wx hS
         have t1:=ht1 wx hS
         have t2:=ht2 wx hS
         have t6:=ht6 wx hS
         clear hcl hrd
         go_simp
         try with_reducible rfl
        ·exact fun L wx hS => hS
        simp only [Act.put,St.pu])
      apply St.step_into
      ·rfl
      ·intro wx
       go_simp
       exact ⟨rfl,rfl⟩
      ·exact fun L wx hS hcl hrd => kK wx hS
      simp only [Act.put,St.pu]
      iterate 2
       (apply St.step_give
        ·rfl
        ·intro L wx hS hcl hrd
         clear hcl hrd
         go_simp
         try with_reducible rfl
        ·exact fun L wx hS => hS
        simp only [Act.put,St.pu])
      iterate 5
       (apply St.step_give
        ·rfl
        ·intro L wx hS hcl hrd
         have c0:=hx0 wx hS
         have c1:=hx1 wx hS
         have t1:=ht1 wx hS
         have t2:=ht2 wx hS
         have t6:=ht6 wx hS
         clear hcl hrd
         go_simp
         try with_reducible rfl
        ·exact fun L wx hS => hS
        simp only [Act.put,St.pu])
      apply St.step_into
      ·rfl
      ·intro wx
       go_simp
       exact ⟨rfl,rfl⟩
      ·exact fun L wx hS hcl hrd => kH wx hS
      simp only [Act.put,St.pu]
      iterate 3
       (apply St.step_give
        ·rfl
        ·intro L wx hS hcl hrd
         clear hcl hrd
         go_simp
         try with_reducible rfl
        ·exact fun L wx hS => hS
        simp only [Act.put,St.pu])
      iterate 4
       (apply St.step_give
        ·rfl
        ·intro L wx hS hcl hrd
         have c0:=hx0 wx hS
         have c1:=hx1 wx hS
         have t1:=ht1 wx hS
         have t2:=ht2 wx hS
         have t6:=ht6 wx hS
         clear hcl hrd
         go_simp
         try with_reducible rfl
        ·exact fun L wx hS => hS
        simp only [Act.put,St.pu])
      iterate 2
       (apply St.step_give
        ·rfl
        ·intro L wx hS hcl hrd
         clear hcl hrd
         go_simp
         try with_reducible rfl
        ·exact fun L wx hS => hS
        simp only [Act.put,St.pu])
      iterate 14
       (apply St.step_past
        ·rfl
        ·exact fun L wx hS => hS
        simp only [Act.put,St.pu])
      iterate 1
       (apply St.step_give
        ·rfl
        ·intro L wx hS hcl hrd
         clear hcl hrd
         go_simp
         try with_reducible rfl
        ·exact fun L wx hS => hS
        simp only [Act.put,St.pu])
      refine St.step_last ?_
      intro L9 wz hbz _
      clear kK kH hx0 hx1 ht1 ht2 ht6
      go_wp2_with fail
      go_ret
      exact ⟨by rw [<- HG2.out]; rfl,hbq.trans (hbz.mono hbq.size)⟩
     have l3 : ((y.size : Int) > 512) = False:=eq_false (by omega)
     have l4 : ((512 : Int) < (y.size : Int)) = False:=eq_false (by omega)
     by_cases hk0 : k = 0
     ·rw [if_pos ⟨by rw [hP0 hk0]; exact lt_nil_key h3,h2,h3,h4⟩,<- hnx] at hg
      have e1 : ((k : Int) > 0) = False:=eq_false (by omega)
      have e4 : ((0 : Int) < (k : Int)) = False:=eq_false (by omega)
      have e5 : (0 < k) = False:=eq_false (by omega)
      have HG2:=Lib.hid hg
      clear hg h3 h4 h2 hpv' hnx hP0 hk0
      refine St.wp_region_stage (fun _ wx => Below W2.heap.size W2 wx) (by kernel_rfl) (by kernel_rfl) (by kernel_rfl) (Below.refl _ _).drew ?_
      iterate 2
       (apply St.step_give
        ·rfl
        ·intro L wx hS hcl hrd
         have c0:=hx0 wx hS
         have c1:=hx1 wx hS
         have t1:=ht1 wx hS
         have t2:=ht2 wx hS
         have t6:=ht6 wx hS
         clear hcl hrd
         go_simp
         try with_reducible rfl
        ·exact fun L wx hS => hS
        simp only [Act.put,St.pu])
      apply St.step_into
      ·rfl
      ·intro wx
       go_simp
       exact ⟨rfl,rfl⟩
      ·exact fun L wx hS hcl hrd => kK wx hS
      simp only [Act.put,St.pu]
      iterate 2
       (apply St.step_give
        ·rfl
        ·intro L wx hS hcl hrd
         clear hcl hrd
         go_simp
         try with_reducible rfl
        ·exact fun L wx hS => hS
        simp only [Act.put,St.pu])
      iterate 5
       (apply St.step_give
        ·rfl
        ·intro L wx hS hcl hrd
         have c0:=hx0 wx hS
         have c1:=hx1 wx hS
         have t1:=ht1 wx hS
         have t2:=ht2 wx hS
         have t6:=ht6 wx hS
         clear hcl hrd
         go_simp
         try with_reducible rfl
        ·exact fun L wx hS => hS
        simp only [Act.put,St.pu])
      apply St.step_into
      ·rfl
      ·intro wx
       go_simp
       exact ⟨rfl,rfl⟩
      ·exact fun L wx hS hcl hrd => kH wx hS
      simp only [Act.put,St.pu]
      iterate 3
       (apply St.step_give
        ·rfl
        ·intro L wx hS hcl hrd
         clear hcl hrd
         go_simp
         try with_reducible rfl
        ·exact fun L wx hS => hS
        simp only [Act.put,St.pu])
      iterate 4
       (apply St.step_give
        ·rfl
        ·intro L wx hS hcl hrd
         have c0:=hx0 wx hS
         have c1:=hx1 wx hS
         have t1:=ht1 wx hS
         have t2:=ht2 wx hS
         have t6:=ht6 wx hS
         clear hcl hrd
         go_simp
         try with_reducible rfl
        ·exact fun L wx hS => hS
        simp only [Act.put,St.pu])
      iterate 2
       (apply St.step_give
        ·rfl
        ·intro L wx hS hcl hrd
         clear hcl hrd
         go_simp
         try with_reducible rfl
        ·exact fun L wx hS => hS
        simp only [Act.put,St.pu])
      iterate 3
       (apply St.step_give
        ·rfl
        ·intro L wx hS hcl hrd
         clear hcl hrd
         go_simp
         try with_reducible rfl
        ·exact fun L wx hS => hS
        simp only [Act.put,St.pu])
      iterate 10
       (apply St.step_past
        ·rfl
        ·exact fun L wx hS => hS
        simp only [Act.put,St.pu])
      iterate 2
       (apply St.step_give
        ·rfl
        ·intro L wx hS hcl hrd
         clear hcl hrd
         go_simp
         try with_reducible rfl
        ·exact fun L wx hS => hS
        simp only [Act.put,St.pu])
      refine St.step_last ?_
      intro L9 wz hbz _
      clear kK kH hx0 hx1 ht1 ht2 ht6
      have hb9:=hbq.trans (hbz.mono hbq.size)
      have B9:=BQ.keep hbz
      go_wp2_with fail
      go_roundw
      case rel => exact ⟨k + 1,by omega,by go_num,HG2,B9,hb9⟩
      case measure => simp [intOf]; omega
     ·obtain ⟨k',hk'⟩ : ∃ k',k' + 1 = k:=⟨k - 1,by omega⟩
      obtain ⟨xp,hpv,rfl⟩:=hpv' k' hk'
      have e1 : ((k : Int) > 0) = True:=eq_true (by omega)
      have e4 : ((0 : Int) < (k : Int)) = True:=eq_true (by omega)
      have e5 : (0 < k) = True:=eq_true (by omega)
      have w4 : IntKind.i64.wrap ((k : Int) - 1) = (k' : Int):=by rw [IntKind.wrap_i64]; omega
      have w2' : (0 <= (k' : Int)) = True:=eq_true (by omega)
      have w3 : ((k' : Int) < (N : Int)) = True:=eq_true (by omega)
      rcases lt_tri xp.toList x.toList with h1 | h1 | h1
      ·rw [if_pos ⟨h1,h2,h3,h4⟩,<- hnx] at hg
       have l1 : lt x.toList xp.toList = false:=lt_asymm h1
       have l2 : (x.toList == xp.toList) = false:=by rw [beq_eq_false_iff_ne]; intro e; rw [e,lt_irrefl] at h1; cases h1
       have HG2:=Lib.hid hg
       clear hg h1 h3 h4 h2 hpv' hnx hP0 hk0 hk'
       refine St.wp_region_stage (fun _ wx => Below W2.heap.size W2 wx) (by kernel_rfl) (by kernel_rfl) (by kernel_rfl) (Below.refl _ _).drew ?_
       iterate 2
        (apply St.step_give
         ·rfl
         ·intro L wx hS hcl hrd
          have c0:=hx0 wx hS
          have c1:=hx1 wx hS
          have t1:=ht1 wx hS
          have t2:=ht2 wx hS
          have t6:=ht6 wx hS
          have cp:=hpv wx hS
          clear hcl hrd
          go_simp
          try with_reducible rfl
         ·exact fun L wx hS => hS
         simp only [Act.put,St.pu])
       apply St.step_into
       ·rfl
       ·intro wx
        go_simp
        exact ⟨rfl,rfl⟩
       ·exact fun L wx hS hcl hrd => kK wx hS
       simp only [Act.put,St.pu]
       iterate 2
        (apply St.step_give
         ·rfl
         ·intro L wx hS hcl hrd
          clear hcl hrd
          go_simp
          try with_reducible rfl
         ·exact fun L wx hS => hS
         simp only [Act.put,St.pu])
       iterate 5
        (apply St.step_give
         ·rfl
         ·intro L wx hS hcl hrd
          have c0:=hx0 wx hS
          have c1:=hx1 wx hS
          have t1:=ht1 wx hS
          have t2:=ht2 wx hS
          have t6:=ht6 wx hS
          have cp:=hpv wx hS
          clear hcl hrd
          go_simp
          try with_reducible rfl
         ·exact fun L wx hS => hS
         simp only [Act.put,St.pu])
       apply St.step_into
       ·rfl
       ·intro wx
        go_simp
        exact ⟨rfl,rfl⟩
       ·exact fun L wx hS hcl hrd => kH wx hS
       simp only [Act.put,St.pu]
       iterate 3
        (apply St.step_give
         ·rfl
         ·intro L wx hS hcl hrd
          clear hcl hrd
          go_simp
          try with_reducible rfl
         ·exact fun L wx hS => hS
         simp only [Act.put,St.pu])
       iterate 4
        (apply St.step_give
         ·rfl
         ·intro L wx hS hcl hrd
          have c0:=hx0 wx hS
          have c1:=hx1 wx hS
          have t1:=ht1 wx hS
          have t2:=ht2 wx hS
          have t6:=ht6 wx hS
          have cp:=hpv wx hS
          clear hcl hrd
          go_simp
          try with_reducible rfl
         ·exact fun L wx hS => hS
         simp only [Act.put,St.pu])
       iterate 2
        (apply St.step_give
         ·rfl
         ·intro L wx hS hcl hrd
          clear hcl hrd
          go_simp
          try with_reducible rfl
         ·exact fun L wx hS => hS
         simp only [Act.put,St.pu])
       iterate 3
        (apply St.step_give
         ·rfl
         ·intro L wx hS hcl hrd
          clear hcl hrd
          go_simp
          try with_reducible rfl
         ·exact fun L wx hS => hS
         simp only [Act.put,St.pu])
       iterate 9
        (apply St.step_give
         ·rfl
         ·intro L wx hS hcl hrd
          have c0:=hx0 wx hS
          have c1:=hx1 wx hS
          have t1:=ht1 wx hS
          have t2:=ht2 wx hS
          have t6:=ht6 wx hS
          have cp:=hpv wx hS
          clear hcl hrd
          go_simp
          try with_reducible rfl
         ·exact fun L wx hS => hS
         simp only [Act.put,St.pu])
       iterate 1
        (apply St.step_give
         ·rfl
         ·intro L wx hS hcl hrd
          clear hcl hrd
          go_simp
          try with_reducible rfl
         ·exact fun L wx hS => hS
         simp only [Act.put,St.pu])
       iterate 2
        (apply St.step_give
         ·rfl
         ·intro L wx hS hcl hrd
          clear hcl hrd
          go_simp
          try with_reducible rfl
         ·exact fun L wx hS => hS
         simp only [Act.put,St.pu])
       refine St.step_last ?_
       intro L9 wz hbz _
       clear kK kH hx0 hx1 ht1 ht2 ht6
       have hb9:=hbq.trans (hbz.mono hbq.size)
       have B9:=BQ.keep hbz
       go_wp2_with fail
       go_roundw
       case rel => exact ⟨k + 1,by omega,by go_num,HG2,B9,hb9⟩
       case measure => simp [intOf]; omega
      ·rw [if_neg (fun h => by rw [h1,lt_irrefl] at h; exact absurd h.1 (by simp))] at hg
       have l1 : lt x.toList xp.toList = false:=by rw [h1]; exact lt_irrefl _
       have l2 : (x.toList == xp.toList) = true:=by rw [h1]; simp
       have HG2:=Lib.hid hg
       clear hg h1 h3 h4 h2 hpv' hnx hP0 hk0 hk'
       refine St.wp_region_stage (fun _ wx => Below W2.heap.size W2 wx) (by kernel_rfl) (by kernel_rfl) (by kernel_rfl) (Below.refl _ _).drew ?_
       iterate 2
        (apply St.step_give
         ·rfl
         ·intro L wx hS hcl hrd
          have c0:=hx0 wx hS
          have c1:=hx1 wx hS
          have t1:=ht1 wx hS
          have t2:=ht2 wx hS
          have t6:=ht6 wx hS
          have cp:=hpv wx hS
          clear hcl hrd
          go_simp
          try with_reducible rfl
         ·exact fun L wx hS => hS
         simp only [Act.put,St.pu])
       apply St.step_into
       ·rfl
       ·intro wx
        go_simp
        exact ⟨rfl,rfl⟩
       ·exact fun L wx hS hcl hrd => kK wx hS
       simp only [Act.put,St.pu]
       iterate 2
        (apply St.step_give
         ·rfl
         ·intro L wx hS hcl hrd
          clear hcl hrd
          go_simp
          try with_reducible rfl
         ·exact fun L wx hS => hS
         simp only [Act.put,St.pu])
       iterate 5
        (apply St.step_give
         ·rfl
         ·intro L wx hS hcl hrd
          have c0:=hx0 wx hS
          have c1:=hx1 wx hS
          have t1:=ht1 wx hS
          have t2:=ht2 wx hS
          have t6:=ht6 wx hS
          have cp:=hpv wx hS
          clear hcl hrd
          go_simp
          try with_reducible rfl
         ·exact fun L wx hS => hS
         simp only [Act.put,St.pu])
       apply St.step_into
       ·rfl
       ·intro wx
        go_simp
        exact ⟨rfl,rfl⟩
       ·exact fun L wx hS hcl hrd => kH wx hS
       simp only [Act.put,St.pu]
       iterate 3
        (apply St.step_give
         ·rfl
         ·intro L wx hS hcl hrd
          clear hcl hrd
          go_simp
          try with_reducible rfl
         ·exact fun L wx hS => hS
         simp only [Act.put,St.pu])
       iterate 4
        (apply St.step_give
         ·rfl
         ·intro L wx hS hcl hrd
          have c0:=hx0 wx hS
          have c1:=hx1 wx hS
          have t1:=ht1 wx hS
          have t2:=ht2 wx hS
          have t6:=ht6 wx hS
          have cp:=hpv wx hS
          clear hcl hrd
          go_simp
          try with_reducible rfl
         ·exact fun L wx hS => hS
         simp only [Act.put,St.pu])
       iterate 2
        (apply St.step_give
         ·rfl
         ·intro L wx hS hcl hrd
          clear hcl hrd
          go_simp
          try with_reducible rfl
         ·exact fun L wx hS => hS
         simp only [Act.put,St.pu])
       iterate 3
        (apply St.step_give
         ·rfl
         ·intro L wx hS hcl hrd
          clear hcl hrd
          go_simp
          try with_reducible rfl
         ·exact fun L wx hS => hS
         simp only [Act.put,St.pu])
       iterate 9
        (apply St.step_give
         ·rfl
         ·intro L wx hS hcl hrd
          have c0:=hx0 wx hS
          have c1:=hx1 wx hS
          have t1:=ht1 wx hS
          have t2:=ht2 wx hS
          have t6:=ht6 wx hS
          have cp:=hpv wx hS
          clear hcl hrd
          go_simp
          try with_reducible rfl
         ·exact fun L wx hS => hS
         simp only [Act.put,St.pu])
       iterate 1
        (apply St.step_give
         ·rfl
         ·intro L wx hS hcl hrd
          clear hcl hrd
          go_simp
          try with_reducible rfl
         ·exact fun L wx hS => hS
         simp only [Act.put,St.pu])
       iterate 2
        (apply St.step_give
         ·rfl
         ·intro L wx hS hcl hrd
          clear hcl hrd
          go_simp
          try with_reducible rfl
         ·exact fun L wx hS => hS
         simp only [Act.put,St.pu])
       refine St.step_last ?_
       intro L9 wz hbz _
       clear kK kH hx0 hx1 ht1 ht2 ht6
       go_wp2_with fail
       go_ret
       exact ⟨by rw [<- HG2.out]; rfl,hbq.trans (hbz.mono hbq.size)⟩
      ·rw [if_neg (fun h => by rw [lt_asymm h1] at h; exact absurd h.1 (by simp))] at hg
       have l1 : lt x.toList xp.toList = true:=h1
       have HG2:=Lib.hid hg
       clear hg h1 h3 h4 h2 hpv' hnx hP0 hk0 hk'
       refine St.wp_region_stage (fun _ wx => Below W2.heap.size W2 wx) (by kernel_rfl) (by kernel_rfl) (by kernel_rfl) (Below.refl _ _).drew ?_
       iterate 2
        (apply St.step_give
         ·rfl
         ·intro L wx hS hcl hrd
          have c0:=hx0 wx hS
          have c1:=hx1 wx hS
          have t1:=ht1 wx hS
          have t2:=ht2 wx hS
          have t6:=ht6 wx hS
          have cp:=hpv wx hS
          clear hcl hrd
          go_simp
          try with_reducible rfl
         ·exact fun L wx hS => hS
         simp only [Act.put,St.pu])
       apply St.step_into
       ·rfl
       ·intro wx
        go_simp
        exact ⟨rfl,rfl⟩
       ·exact fun L wx hS hcl hrd => kK wx hS
       simp only [Act.put,St.pu]
       iterate 2
        (apply St.step_give
         ·rfl
         ·intro L wx hS hcl hrd
          clear hcl hrd
          go_simp
          try with_reducible rfl
         ·exact fun L wx hS => hS
         simp only [Act.put,St.pu])
       iterate 5
        (apply St.step_give
         ·rfl
         ·intro L wx hS hcl hrd
          have c0:=hx0 wx hS
          have c1:=hx1 wx hS
          have t1:=ht1 wx hS
          have t2:=ht2 wx hS
          have t6:=ht6 wx hS
          have cp:=hpv wx hS
          clear hcl hrd
          go_simp
          try with_reducible rfl
         ·exact fun L wx hS => hS
         simp only [Act.put,St.pu])
       apply St.step_into
       ·rfl
       ·intro wx
        go_simp
        exact ⟨rfl,rfl⟩
       ·exact fun L wx hS hcl hrd => kH wx hS
       simp only [Act.put,St.pu]
       iterate 3
        (apply St.step_give
         ·rfl
         ·intro L wx hS hcl hrd
          clear hcl hrd
          go_simp
          try with_reducible rfl
         ·exact fun L wx hS => hS
         simp only [Act.put,St.pu])
       iterate 4
        (apply St.step_give
         ·rfl
         ·intro L wx hS hcl hrd
          have c0:=hx0 wx hS
          have c1:=hx1 wx hS
          have t1:=ht1 wx hS
          have t2:=ht2 wx hS
          have t6:=ht6 wx hS
          have cp:=hpv wx hS
          clear hcl hrd
          go_simp
          try with_reducible rfl
         ·exact fun L wx hS => hS
         simp only [Act.put,St.pu])
       iterate 2
        (apply St.step_give
         ·rfl
         ·intro L wx hS hcl hrd
          clear hcl hrd
          go_simp
          try with_reducible rfl
         ·exact fun L wx hS => hS
         simp only [Act.put,St.pu])
       iterate 3
        (apply St.step_give
         ·rfl
         ·intro L wx hS hcl hrd
          clear hcl hrd
          go_simp
          try with_reducible rfl
         ·exact fun L wx hS => hS
         simp only [Act.put,St.pu])
       iterate 9
        (apply St.step_give
         ·rfl
         ·intro L wx hS hcl hrd
          have c0:=hx0 wx hS
          have c1:=hx1 wx hS
          have t1:=ht1 wx hS
          have t2:=ht2 wx hS
          have t6:=ht6 wx hS
          have cp:=hpv wx hS
          clear hcl hrd
          go_simp
          try with_reducible rfl
         ·exact fun L wx hS => hS
         simp only [Act.put,St.pu])
       iterate 1
        (apply St.step_give
         ·rfl
         ·intro L wx hS hcl hrd
          clear hcl hrd
          go_simp
          try with_reducible rfl
         ·exact fun L wx hS => hS
         simp only [Act.put,St.pu])
       iterate 2
        (apply St.step_give
         ·rfl
         ·intro L wx hS hcl hrd
          clear hcl hrd
          go_simp
          try with_reducible rfl
         ·exact fun L wx hS => hS
         simp only [Act.put,St.pu])
       refine St.step_last ?_
       intro L9 wz hbz _
       clear kK kH hx0 hx1 ht1 ht2 ht6
       go_wp2_with fail
       go_ret
       exact ⟨by rw [<- HG2.out]; rfl,hbq.trans (hbz.mono hbq.size)⟩
end Go.Proofs.YthcmnkmfhgoddaaGreatDoor.Dp

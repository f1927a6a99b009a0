/-
  Same: slices.Equal at members,Same; the document's Members and Same. Condition: at most 2^40 members.
  Descriptors that are made: slices.Clone at members,raised,checked,First. Condition: at most 1000 members,lengths at most 2^47.
-/
import Derived.Test.YthcmnkmfhgoddaaGreatDoorVDsRA
import Derived.Test.YthcmnkmfhgoddaaGreatDoorVTieA
import Derived.Lib.SliceRun
import Derived.RegionTactic
import Derived.Deep.RegionLaw
namespace Go.Proofs.YthcmnkmfhgoddaaGreatDoor.Ds
open Go.RowKit Bnd
attribute [local go_sem ↓] Go.wp_at_zero Go.wp_at_succ
set_option maxHeartbeats 2000000 in
set_option maxRecDepth 100000 in
theorem equal_any (a b : Value) (xs ys : List Mem) (w : World) (ha : SM w w.heap.size a xs) (hb : SM w w.heap.size b ys) (hx : xs.length <= 1000000000) (hy : ys.length <= 1000000000) :
  Calls Tryz.prog 109 #[a,b] w fun e w' => e = .returned (.bool (decide (xs = ys))) /\ Below w.heap.size w w':=by
 obtain ⟨A,c,rfl⟩:=ha.form
 obtain ⟨D,d,rfl⟩:=hb.form
 by_cases hl : xs.length = ys.length
 ·obtain ⟨n,hn⟩ : ∃ n,n = xs.length:=⟨_,rfl⟩
  have hny : n = ys.length:=by omega
  have HX:=Lib.hid hn
  have HY:=Lib.hid hny
  have hn1 : n <= 1000000000:=by omega
  rw [<- hn] at ha ⊢
  rw [<- hny] at hb ⊢
  clear hl hn hny hx hy
  go_enter Tryz.func109,Tryz.ntmps109
  go_wp2_with fail
  go_loopw [13] (fun vi wr => ∃ (k : Nat),k <= n /\ vi = .int .i64 (k : Int) /\ Hid (xs.take k = ys.take k) /\ Below w.heap.size w wr) (fun vi _ => n - (intOf vi).toNat)
  case atStart => exact ⟨0,by omega,rfl,rfl,Below.refl _ w⟩
  case round =>
   obtain ⟨k,hk,rfl,heq,hbw⟩:=hrel
   by_cases hlt : k < n
   ·have hkx : k < xs.length:=by rw [<- HX.out]; exact hlt
    have hky : k < ys.length:=by rw [<- HY.out]; exact hlt
    obtain ⟨b1,o1,rfl,hadb,hc1,hc2⟩:=(ha.below hbw).at_ hkx
    obtain ⟨b2,o2,rfl,hbdb,hd1,hd2⟩:=(hb.below hbw).at_ hky
    obtain ⟨⟨x1,x2⟩,hx⟩ : ∃ x,xs[k] = x:=⟨_,rfl⟩
    obtain ⟨⟨y1,y2⟩,hy⟩ : ∃ y,ys[k] = y:=⟨_,rfl⟩
    rw [hx] at hc1 hc2
    rw [hy] at hd1 hd2
    have hk0 : (0 : Int) <= (k : Int):=by omega
    have hk1 : (k : Int) < (n : Int):=by omega
    have EX:=Lib.hid hx
    have EY:=Lib.hid hy
    clear hx hy
    by_cases hxy : ((x1,x2) : Mem) = (y1,y2)
    ·have HXY:=Lib.hid hxy
     injection hxy with q1 q2
     subst q1 q2
     go_wp2_with fail
     go_quiet (fail)
     go_wp2_with fail
     go_roundw
     case rel =>
      refine ⟨k + 1,by omega,by go_num,?_,below_drewN hbw _⟩
      show xs.take (k + 1) = ys.take (k + 1)
      rw [List.take_succ_eq_append_getElem hkx,List.take_succ_eq_append_getElem hky,heq.out,EX.out,EY.out]
     case measure => simp [intOf]; omega
    ·have hor : ((x1 == y1) = false) \/ (x1 = y1 /\ (x2 == y2) = false):=by
      by_cases q : x1 = y1
      ·refine .inr ⟨q,?_⟩
       simp only [beq_eq_false_iff_ne]
       rintro rfl
       exact hxy (by rw [q])
      ·exact .inl (by simpa using q)
     have hres : decide (xs = ys) = false:=by
      simp
      rintro rfl
      exact hxy (by rw [<- EX.out,EY.out])
     have HR:=Lib.hid hres
     clear hxy hres
     rcases hor with q1 | ⟨rfl,q2⟩
     all_goals
      go_wp2_with fail
      go_quiet (fail)
      go_wp2_with fail
      go_ret
      exact ⟨by rw [HR.out]; rfl,below_drewN hbw _⟩
   ·obtain rfl : k = n:=by omega
    have hres : decide (xs = ys) = true:=by
     have h:=heq.out
     have e1:=HX.out
     have e2:=HY.out
     rw [List.take_of_length_le (by omega),List.take_of_length_le (by omega)] at h
     simpa using h
    have HR:=Lib.hid hres
    clear hres heq
    go_wp2_with fail
    go_ret
    exact ⟨by rw [HR.out]; rfl,hbw⟩
 ·have hres : decide (xs = ys) = false:=by
   simp
   rintro rfl
   exact hl rfl
  have HR:=Lib.hid hres
  have hq : ((xs.length : Int) != (ys.length : Int)) = true:=by
   have : (xs.length : Int) ≠ (ys.length : Int):=by omega
   simpa using this
  have hq2 : (xs.length != ys.length) = true:=by simpa using hl
  clear hres hl
  go_enter Tryz.func109,Tryz.ntmps109
  go_wp2_with fail
  go_ret
  exact ⟨by rw [HR.out]; rfl,Below.refl _ w⟩
-- BY PROGRAM (gen_dssame.py)
set_option maxHeartbeats 2000000 in
set_option maxRecDepth 100000 in
theorem members_any (a b : Value) (xs ys : List Mem) (w : World) (ha : SM w w.heap.size a xs) (hb : SM w w.heap.size b ys) (hx : xs.length <= 1000000000) (hy : ys.length <= 1000000000) :
  Calls Tryz.prog 42 #[a,b] w fun e w' => e = .returned (.bool (decide (xs = ys))) /\ Below w.heap.size w w':=by
 obtain ⟨A,c,rfl⟩:=ha.form
 obtain ⟨D,d,rfl⟩:=hb.form
 by_cases hl : xs.length = ys.length
 ·obtain ⟨n,hn⟩ : ∃ n,n = xs.length:=⟨_,rfl⟩
  have hny : n = ys.length:=by omega
  have HX:=Lib.hid hn
  have HY:=Lib.hid hny
  have hn1 : n <= 1000000000:=by omega
  rw [<- hn] at ha ⊢
  rw [<- hny] at hb ⊢
  clear hl hn hny hx hy
  go_enter Tryz.func42,Tryz.ntmps42
  go_wp2_with fail
  go_loopw [5] (fun vi wr => ∃ (k : Nat),k <= n /\ vi = .int .i64 (k : Int) /\ Hid (xs.take k = ys.take k) /\ Below w.heap.size w wr) (fun vi _ => n - (intOf vi).toNat)
  case atStart => exact ⟨0,by omega,rfl,rfl,Below.refl _ w⟩
  case round =>
   obtain ⟨k,hk,rfl,heq,hbw⟩:=hrel
   by_cases hlt : k < n
   ·have hkx : k < xs.length:=by rw [<- HX.out]; exact hlt
    have hky : k < ys.length:=by rw [<- HY.out]; exact hlt
    obtain ⟨b1,o1,rfl,hadb,hc1,hc2⟩:=(ha.below hbw).at_ hkx
    obtain ⟨b2,o2,rfl,hbdb,hd1,hd2⟩:=(hb.below hbw).at_ hky
    obtain ⟨⟨x1,x2⟩,hx⟩ : ∃ x,xs[k] = x:=⟨_,rfl⟩
    obtain ⟨⟨y1,y2⟩,hy⟩ : ∃ y,ys[k] = y:=⟨_,rfl⟩
    rw [hx] at hc1 hc2
    rw [hy] at hd1 hd2
    have hk0 : (0 : Int) <= (k : Int):=by omega
    have hk1 : (k : Int) < (n : Int):=by omega
    have EX:=Lib.hid hx
    have EY:=Lib.hid hy
    clear hx hy
    by_cases hxy : ((x1,x2) : Mem) = (y1,y2)
    ·have HXY:=Lib.hid hxy
     injection hxy with q1 q2
     subst q1 q2
     go_wp2_with fail
     go_quiet (fail)
     go_wp2_with fail
     go_roundw
     case rel =>
      refine ⟨k + 1,by omega,by go_num,?_,below_drewN hbw _⟩
      show xs.take (k + 1) = ys.take (k + 1)
      rw [List.take_succ_eq_append_getElem hkx,List.take_succ_eq_append_getElem hky,heq.out,EX.out,EY.out]
     case measure => simp [intOf]; omega
    ·have hor : ((x1 == y1) = false) \/ (x1 = y1 /\ (x2 == y2) = false):=by
      by_cases q : x1 = y1
      ·refine .inr ⟨q,?_⟩
       simp only [beq_eq_false_iff_ne]
       rintro rfl
       exact hxy (by rw [q])
      ·exact .inl (by simpa using q)
     have hres : decide (xs = ys) = false:=by
      simp
      rintro rfl
      exact hxy (by rw [<- EX.out,EY.out])
     have HR:=Lib.hid hres
     clear hxy hres
     rcases hor with q1 | ⟨rfl,q2⟩
     all_goals
      go_wp2_with fail
      go_quiet (fail)
      go_wp2_with fail
      go_ret
      exact ⟨by rw [HR.out]; rfl,below_drewN hbw _⟩
   ·obtain rfl : k = n:=by omega
    have hres : decide (xs = ys) = true:=by
     have h:=heq.out
     have e1:=HX.out
     have e2:=HY.out
     rw [List.take_of_length_le (by omega),List.take_of_length_le (by omega)] at h
     simpa using h
    have HR:=Lib.hid hres
    clear hres heq
    go_wp2_with fail
    go_ret
    exact ⟨by rw [HR.out]; rfl,hbw⟩
 ·have hres : decide (xs = ys) = false:=by
   simp
   rintro rfl
   exact hl rfl
  have HR:=Lib.hid hres
  have hq : ((xs.length : Int) != (ys.length : Int)) = true:=by
   have : (xs.length : Int) ≠ (ys.length : Int):=by omega
   simpa using this
  have hq2 : (xs.length != ys.length) = true:=by simpa using hl
  clear hres hl
  go_enter Tryz.func42,Tryz.ntmps42
  go_wp2_with fail
  go_ret
  exact ⟨by rw [HR.out]; rfl,Below.refl _ w⟩
theorem int_yes {x y : Int} (h : x = y) : (x == y) = true /\ (x != y) = false /\ (x = y) = True:=by subst h; simp
theorem int_no {x y : Int} (h : ¬ x = y) : (x == y) = false /\ (x != y) = true /\ (x = y) = False:=⟨by simpa using h,by simpa using h,eq_false h⟩
theorem sameD_no {a b : De} (h : ¬ a = b) : sameD a b = false:=by
 cases hs : sameD a b with
 | false => rfl
 | true => exact absurd ((sameD_iff a b).1 hs) h
theorem sameD_ms {a b : De} (h1 : a.id = b.id) (h2 : a.f = b.f) (h3 : a.t = b.t) (h4 : a.gen = b.gen) (h5 : a.next = b.next) : sameD a b = decide (a.ms = b.ms):=by
 unfold sameD; simp [h1,h2,h3,h4,h5]
set_option maxHeartbeats 4000000 in
theorem same_any (a b : De) (sa sb : Value) (w : World) (ha : SM w w.heap.size sa a.ms) (hb : SM w w.heap.size sb b.ms) (hx : a.ms.length <= 1000000000) (hy : b.ms.length <= 1000000000) :
  Calls Tryz.prog 52 #[dv a sa,dv b sb] w fun e w' => e = .returned (.bool (sameD a b)) /\ Below w.heap.size w w':=by
 obtain ⟨A,c,rfl⟩:=ha.form
 obtain ⟨D,d,rfl⟩:=hb.form
 have cc:=fun w ha hb => equal_any (.slice A a.ms.length c) (.slice D b.ms.length d) a.ms b.ms w ha hb hx hy
 have ka : ∀ w1,Below w.heap.size w w1 -> SM w1 w1.heap.size (.slice A a.ms.length c) a.ms:=fun w1 h => (ha.below h).more h.size
 have kb : ∀ w1,Below w.heap.size w w1 -> SM w1 w1.heap.size (.slice D b.ms.length d) b.ms:=fun w1 h => (hb.below h).more h.size
 by_cases h1 : a.id = b.id
 ·obtain ⟨n0,m0,l0⟩:=int_yes h1
  by_cases h2 : a.f = b.f
  ·have n1:=bytes_beq_yes h2
   by_cases h3 : a.t = b.t
   ·have n2:=bytes_beq_yes h3
    by_cases h4 : a.gen = b.gen
    ·obtain ⟨n3,m3,l3⟩:=int_yes h4
     by_cases h5 : a.next = b.next
     ·obtain ⟨n4,m4,l4⟩:=int_yes h5
      rw [sameD_ms h1 h2 h3 h4 h5]
      clear h1 h2 h3 h4 h5
      go_enter Tryz.func52,Tryz.ntmps52
      go_wp2_with fail
      refine (cc _ (ka _ (by exact bex0)) (kb _ (by exact bex0))).mono ?_
      rintro e w1 ⟨rfl,b1⟩
      have hb1 : Below w.heap.size w w1:=(show Below w.heap.size w _ from (by exact bex0)).trans (b1.mono (by simp; omega))
      clear b1
      go_wp2_with fail
      go_ret
      exact ⟨rfl,hb1⟩
     ·obtain ⟨n4,m4,l4⟩:=int_no h5
      rw [sameD_no (fun e => h5 (by rw [e]))]
      clear h1 h2 h3 h4 h5
      go_enter Tryz.func52,Tryz.ntmps52
      go_wp2_with fail
      go_ret
      exact ⟨rfl,(by exact bex0)⟩
    ·obtain ⟨n3,m3,l3⟩:=int_no h4
     rw [sameD_no (fun e => h4 (by rw [e]))]
     clear h1 h2 h3 h4
     go_enter Tryz.func52,Tryz.ntmps52
     go_wp2_with fail
     go_ret
     exact ⟨rfl,(by exact bex0)⟩
   ·have n2:=bytes_beq_no h3
    rw [sameD_no (fun e => h3 (by rw [e]))]
    clear h1 h2 h3
    go_enter Tryz.func52,Tryz.ntmps52
    go_wp2_with fail
    go_ret
    exact ⟨rfl,(by exact bex0)⟩
  ·have n1:=bytes_beq_no h2
   rw [sameD_no (fun e => h2 (by rw [e]))]
   clear h1 h2
   go_enter Tryz.func52,Tryz.ntmps52
   go_wp2_with fail
   go_ret
   exact ⟨rfl,(by exact bex0)⟩
 ·obtain ⟨n0,m0,l0⟩:=int_no h1
  rw [sameD_no (fun e => h1 (by rw [e]))]
  clear h1
  go_enter Tryz.func52,Tryz.ntmps52
  go_wp2_with fail
  go_ret
  exact ⟨rfl,(by exact bex0)⟩
set_option maxHeartbeats 4000000 in
theorem rsame_any (a b : De) (sa sb : Value) (w : World) (ha : SM w w.heap.size sa a.ms) (hb : SM w w.heap.size sb b.ms) (hx : a.ms.length <= 1000000000) (hy : b.ms.length <= 1000000000) :
  Calls Tryz.prog 12 #[dv a sa,dv b sb] w fun e w' => e = .returned (.bool (sameD a b)) /\ Below w.heap.size w w':=by
 obtain ⟨A,c,rfl⟩:=ha.form
 obtain ⟨D,d,rfl⟩:=hb.form
 have cc:=fun w ha hb => members_any (.slice A a.ms.length c) (.slice D b.ms.length d) a.ms b.ms w ha hb hx hy
 have ka : ∀ w1,Below w.heap.size w w1 -> SM w1 w1.heap.size (.slice A a.ms.length c) a.ms:=fun w1 h => (ha.below h).more h.size
 have kb : ∀ w1,Below w.heap.size w w1 -> SM w1 w1.heap.size (.slice D b.ms.length d) b.ms:=fun w1 h => (hb.below h).more h.size
 by_cases h1 : a.id = b.id
 ·obtain ⟨n0,m0,l0⟩:=int_yes h1
  by_cases h2 : a.f = b.f
  ·have n1:=bytes_beq_yes h2
   by_cases h3 : a.t = b.t
   ·have n2:=bytes_beq_yes h3
    by_cases h4 : a.gen = b.gen
    ·obtain ⟨n3,m3,l3⟩:=int_yes h4
     by_cases h5 : a.next = b.next
     ·obtain ⟨n4,m4,l4⟩:=int_yes h5
      rw [sameD_ms h1 h2 h3 h4 h5]
      clear h1 h2 h3 h4 h5
      go_enter Tryz.func12,Tryz.ntmps12
      go_wp2_with fail
      refine (cc _ (ka _ (by exact bex0)) (kb _ (by exact bex0))).mono ?_
      rintro e w1 ⟨rfl,b1⟩
      have hb1 : Below w.heap.size w w1:=(show Below w.heap.size w _ from (by exact bex0)).trans (b1.mono (by simp; omega))
      clear b1
      go_wp2_with fail
      go_ret
      exact ⟨rfl,hb1⟩
     ·obtain ⟨n4,m4,l4⟩:=int_no h5
      rw [sameD_no (fun e => h5 (by rw [e]))]
      clear h1 h2 h3 h4 h5
      go_enter Tryz.func12,Tryz.ntmps12
      go_wp2_with fail
      go_ret
      exact ⟨rfl,(by exact bex0)⟩
    ·obtain ⟨n3,m3,l3⟩:=int_no h4
     rw [sameD_no (fun e => h4 (by rw [e]))]
     clear h1 h2 h3 h4
     go_enter Tryz.func12,Tryz.ntmps12
     go_wp2_with fail
     go_ret
     exact ⟨rfl,(by exact bex0)⟩
   ·have n2:=bytes_beq_no h3
    rw [sameD_no (fun e => h3 (by rw [e]))]
    clear h1 h2 h3
    go_enter Tryz.func12,Tryz.ntmps12
    go_wp2_with fail
    go_ret
    exact ⟨rfl,(by exact bex0)⟩
  ·have n1:=bytes_beq_no h2
   rw [sameD_no (fun e => h2 (by rw [e]))]
   clear h1 h2
   go_enter Tryz.func12,Tryz.ntmps12
   go_wp2_with fail
   go_ret
   exact ⟨rfl,(by exact bex0)⟩
 ·obtain ⟨n0,m0,l0⟩:=int_no h1
  rw [sameD_no (fun e => h1 (by rw [e]))]
  clear h1
  go_enter Tryz.func12,Tryz.ntmps12
  go_wp2_with fail
  go_ret
  exact ⟨rfl,(by exact bex0)⟩
end Go.Proofs.YthcmnkmfhgoddaaGreatDoor.Ds

namespace Go.Proofs.YthcmnkmfhgoddaaGreatDoor.Ds
open Go.RowKit Bnd
set_option maxHeartbeats 2000000 in
theorem clone_any (v : Value) (ms : List Mem) (w : World) (hv : ArgM w v ms) (hl : ms.length <= 1000) :
  Calls Tryz.prog 43 #[v] w fun e w' => ∃ v',e = .returned v' /\ OwnM w' w.heap.size v' ms /\ Below w.heap.size w w':=by
 have q : ∀ (w : World) (a : Option Addr) (n c n' c' : Nat),(binOp .eql 24 (.slice a n c) (.slice none n' c')).run Tryz.prog w = .ok (.bool a.isNone) w:=fun w a n c n' c' => Lib.run_eql_slice_nil w _ _ a n c n' c' Tryz.underlying24
 cases hv with
 | nil =>
  go_enter Tryz.func43,Tryz.ntmps43
  go_wp2_with fail
  go_ret
  exact ⟨_,rfl,own_nil _ _,Below.refl _ _⟩
 | some b o c ms h =>
  go_enter Tryz.func43,Tryz.ntmps43
  go_wp2_with (at_builtin; refine wpList_append_ms rfl _ _ rfl w.heap.size _ [] rfl (own_empty w) (by simp) _ ms rfl (.some b o c ms ((h.below ((Below.refl _ w).alloc (Nat.le_refl _) _)).more (by simp))) (by simp; omega) ?_)
  intro v' w1 hown hb1 _
  go_wp2_with fail
  go_ret
  exact ⟨_,rfl,by simpa using hown,((Below.refl _ w).alloc (Nat.le_refl _) _).trans hb1⟩
 | empty a c =>
  go_enter Tryz.func43,Tryz.ntmps43
  go_wp2_with (at_builtin; refine wpList_append_ms rfl _ _ rfl w.heap.size _ [] rfl (own_empty w) (by simp) _ [] rfl (.empty a c) (by simp) ?_)
  intro v' w1 hown hb1 _
  go_wp2_with fail
  go_ret
  exact ⟨_,rfl,by simpa using hown,((Below.refl _ w).alloc (Nat.le_refl _) _).trans hb1⟩
set_option maxHeartbeats 2000000 in
theorem raised_any (d : De) (s : Value) (g : Int) (w : World) (hv : ArgM w s d.ms) (hl : d.ms.length <= 1000) (h1 : 0 <= g) (h2 : g <= 1099511627776) :
  Calls Tryz.prog 136 #[dv d s,.int .i64 g] w fun e w' => ∃ s',e = .returned (dv { d with gen:=g + 1 } s') /\ OwnM w' w.heap.size s' d.ms /\ Below w.heap.size w w':=by
 have cc:=fun w hv => clone_any s d.ms w hv hl
 go_enter Tryz.func136,Tryz.ntmps136
 go_wp2_with fail
 refine (cc _ ((hv.keep ((Below.refl _ w).alloc (Nat.le_refl _) _)).keep ((Below.refl _ _).alloc (Nat.le_refl _) _))).mono ?_
 rintro e w1 ⟨s',rfl,hown,b1⟩
 have B1:=((BoxD.new w { d with gen:=g + 1 } s).alloc (.cells #[.int .i64 0,.string ⟨#[]⟩,.string ⟨#[]⟩,.int .i64 0,.slice none 0 0,.int .i64 0] 26)).keep b1
 have B2:=(BoxD.zero (w.alloc (.cells #[.int .i64 d.id,.string d.f,.string d.t,.int .i64 (g + 1),s,.int .i64 d.next] 26))).keep b1
 rw [World.size_alloc] at B2
 obtain ⟨z1,⟨e1,e2,e3,e4,e5,e6⟩,e7⟩:=id B1
 obtain ⟨z2,⟨f1,f2,f3,f4,f5,f6⟩,f7⟩:=id B2
 have hb : Below w.heap.size w w1:=(((Below.refl _ w).alloc (Nat.le_refl _) _).alloc (by simp) _).trans (b1.mono (by simp; omega))
 rw [World.size_alloc,World.size_alloc] at hown
 obtain ⟨A',c',rfl⟩:=(SM.of_own hown).form
 have HO:=Lib.hid hown
 clear b1 hown
 go_wp2_with fail
 refine bodyPost_ret (v:=dv { d with gen:=g + 1 } (.slice A' d.ms.length c')) (res_box Tryz.results136 rfl (BoxD.put (B2.other (by simp) _) { d with gen:=g + 1 } _)) rfl ⟨_,rfl,?_,?_⟩
 ·refine own_base (base:=w.heap.size + 1 + 1) ?_ (by omega)
  have:=HO.out
  (repeat' (first | with_reducible assumption | with_reducible refine own_set ?_ ?_ _ | with_reducible refine own_alloc ?_ _ | with_reducible refine own_drew ?_ | omega | (simp; done) | (simp; omega)))
 ·(exact Ds.bex1)
def okV (d : De) (s : Value) : Value:=if isD d = true then .tuple #[dv d s,.int .i64 0] else .tuple #[dv De.zero (.slice none 0 0),.int .i64 60]
theorem okV_spec (d : De) (s : Value) : ∃ s',okV d s = .tuple #[dv (okD d).1 s',.int .i64 (okD d).2] /\ ∀ w,ArgM w s d.ms -> ArgM w s' (okD d).1.ms:=by
 unfold okV okD
 by_cases hd : isD d = true
 ·rw [if_pos hd,if_pos hd]; exact ⟨s,rfl,fun _ h => h⟩
 ·rw [if_neg hd,if_neg hd]; exact ⟨_,rfl,fun _ _ => .nil⟩
set_option maxHeartbeats 2000000 in
theorem checked_any (d : De) (s : Value) (w : World) (hs : SM w w.heap.size s d.ms) (hl : d.ms.length <= 140737488355328) (hf : d.f.size <= 140737488355328) (ht : d.t.size <= 140737488355328) :
  Calls Tryz.prog 137 #[dv d s] w fun e w' => e = .returned (okV d s) /\ Below w.heap.size w w':=by
 obtain ⟨A,c,rfl⟩:=hs.form
 have cc:=fun w hs => check_any d (.slice A d.ms.length c) w hs hl hf ht
 have hst : ∀ w1,Below w.heap.size w w1 -> SM w1 w1.heap.size (.slice A d.ms.length c) d.ms:=fun w1 hb => (hs.below hb).more hb.size
 cases hd : isD d with
 | false =>
  have hr : okV d (.slice A d.ms.length c) = .tuple #[dv De.zero (.slice none 0 0),.int .i64 60]:=by unfold okV; rw [if_neg (by simp [hd])]
  rw [hr]
  have e1 : chkD d = 60:=by unfold chkD; rw [if_neg (by simp [hd])]
  rw [e1] at cc
  clear e1 hr hd
  go_enter Tryz.func137,Tryz.ntmps137
  go_wp2_with fail
  refine (cc _ (hst _ (by exact Ds.bex1))).mono ?_
  rintro e w1 ⟨rfl,b1⟩
  have B2:=(BoxD.zero (w.alloc (.cells #[.int .i64 d.id,.string d.f,.string d.t,.int .i64 d.gen,.slice A d.ms.length c,.int .i64 d.next] 26))).keep b1
  rw [World.size_alloc] at B2
  obtain ⟨z2,⟨f1,f2,f3,f4,f5,f6⟩,f7⟩:=id B2
  have hb : Below w.heap.size w w1:=(((Below.refl _ w).alloc (Nat.le_refl _) _).alloc (by simp) _).trans (b1.mono (by simp; omega))
  clear b1
  go_wp2_with fail
  refine bodyPost_ret (v:=.tuple #[dv De.zero (.slice none 0 0),.int .i64 60]) (res_box_tmp Tryz.results137 rfl rfl (BoxD.put B2 De.zero (.slice none 0 0))) rfl ⟨rfl,?_⟩
  (exact Ds.bex1)
 | true =>
  have hr : okV d (.slice A d.ms.length c) = .tuple #[dv d (.slice A d.ms.length c),.int .i64 0]:=by unfold okV; rw [if_pos hd]
  rw [hr]
  have e1 : chkD d = 0:=by unfold chkD; rw [if_pos hd]
  rw [e1] at cc
  clear e1 hr hd
  go_enter Tryz.func137,Tryz.ntmps137
  go_wp2_with fail
  refine (cc _ (hst _ (by exact Ds.bex1))).mono ?_
  rintro e w1 ⟨rfl,b1⟩
  have B1:=((BoxD.new w d (.slice A d.ms.length c)).alloc (.cells #[.int .i64 0,.string ⟨#[]⟩,.string ⟨#[]⟩,.int .i64 0,.slice none 0 0,.int .i64 0] 26)).keep b1
  have B2:=(BoxD.zero (w.alloc (.cells #[.int .i64 d.id,.string d.f,.string d.t,.int .i64 d.gen,.slice A d.ms.length c,.int .i64 d.next] 26))).keep b1
  rw [World.size_alloc] at B2
  obtain ⟨z1,⟨e1,e2,e3,e4,e5,e6⟩,e7⟩:=id B1
  obtain ⟨z2,⟨f1,f2,f3,f4,f5,f6⟩,f7⟩:=id B2
  have hb : Below w.heap.size w w1:=(((Below.refl _ w).alloc (Nat.le_refl _) _).alloc (by simp) _).trans (b1.mono (by simp; omega))
  clear b1
  go_wp2_with fail
  refine bodyPost_ret (v:=.tuple #[dv d (.slice A d.ms.length c),.int .i64 0]) (res_box_tmp Tryz.results137 rfl rfl (BoxD.put B2 d (.slice A d.ms.length c))) rfl ⟨rfl,?_⟩
  (exact Ds.bex1)
def SI (w : World) (N : Nat) (v : Value) (ns : List Int) : Prop :=
 ∃ (A : Option Addr) (c : Nat),v = .slice A ns.length c /\ (0 < ns.length -> ∃ b o : Nat,A = some ⟨b,o,none⟩ /\ b < N /\ ∀ i (h : i < ns.length),w.cell? ⟨b,o + i,none⟩ = some (.int .i64 ns[i]))
theorem SI.form {w : World} {N : Nat} {v : Value} {ns : List Int} (h : SI w N v ns) : ∃ A c,v = .slice A ns.length c:=by
 obtain ⟨A,c,hv,_⟩:=h; exact ⟨A,c,hv⟩
theorem SI.below {w w' : World} {N : Nat} {v : Value} {ns : List Int} (h : SI w N v ns) (hb : Below N w w') : SI w' N v ns:=by
 obtain ⟨A,c,hv,h⟩:=h
 refine ⟨A,c,hv,fun h0 => ?_⟩
 obtain ⟨b,o,e,hlt,hc⟩:=h h0
 exact ⟨b,o,e,hlt,fun i hi => by rw [hb.cell (p:=⟨b,o + i,none⟩) hlt]; exact hc i hi⟩
theorem SI.more {w : World} {N N' : Nat} {v : Value} {ns : List Int} (h : SI w N v ns) (hB : N <= N') : SI w N' v ns:=by
 obtain ⟨A,c,hv,h⟩:=h
 refine ⟨A,c,hv,fun h0 => ?_⟩
 obtain ⟨b,o,e,hb,hc⟩:=h h0
 exact ⟨b,o,e,by omega,hc⟩
theorem SI.at_ {w : World} {N k : Nat} {A : Option Addr} {n c : Nat} {ns : List Int} (h : SI w N (.slice A n c) ns) (hk : k < ns.length) :
  ∃ b o : Nat,A = some ⟨b,o,none⟩ /\ b < N /\ w.cell? ⟨b,o + k,none⟩ = some (.int .i64 ns[k]):=by
 obtain ⟨A',c',hv,h⟩:=h
 injection hv with h1 h2 h3
 subst h1
 obtain ⟨b,o,e,hb,hc⟩:=h (by omega)
 exact ⟨b,o,e,hb,hc k hk⟩
theorem BoxD.kept {n N : Nat} {d : De} {s : Value} {w1 w2 : World} (h : BoxD n d s w1) (hn : n < N) (hb : Below N w1 w2) : BoxD n d s w2:=by
 obtain ⟨h0,⟨h1,h2,h3,h4,h5,h6⟩,hf⟩:=h
 have hc : ∀ o,w2.cell? ⟨n,o,none⟩ = w1.cell? ⟨n,o,none⟩:=fun o => hb.cell (p:=⟨n,o,none⟩) hn
 refine ⟨Nat.lt_of_lt_of_le h0 hb.size,⟨?_,?_,?_,?_,?_,?_⟩,fun o => (hb.frozen (p:=⟨n,o,none⟩) hn).trans (hf o)⟩
 all_goals rw [hc]; assumption
theorem BoxD.of {n : Nat} {d d' : De} {s : Value} {w1 : World} (h : BoxD n d s w1) (h1 : d.id = d'.id) (h2 : d.f = d'.f) (h3 : d.t = d'.t) (h4 : d.gen = d'.gen) (h5 : d.next = d'.next) : BoxD n d' s w1:=by
 unfold BoxD at *
 rw [<- h1,<- h2,<- h3,<- h4,<- h5]
 exact h
end Go.Proofs.YthcmnkmfhgoddaaGreatDoor.Ds

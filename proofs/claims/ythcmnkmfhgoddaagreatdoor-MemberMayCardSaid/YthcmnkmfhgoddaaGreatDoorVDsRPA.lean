/-
  How the document's Parse goes about,reckoned without a program: the numbers of the strands,one by one,and the members,two by two. No condition.
  The document's First. Condition: at most 1000 nodes.
  The document's Int at every text. Condition: lengths below 2^47.
  The document's Parse. Condition: lengths at most 2^47.
-/
import Derived.Test.YthcmnkmfhgoddaaGreatDoorVDsA
import Derived.Test.YthcmnkmfhgoddaaGreatDoorVDsREA
import Derived.Test.YthcmnkmfhgoddaaGreatDoorVDsPNA
import Derived.Test.YthcmnkmfhgoddaaGreatDoorVDsJoin
import Derived.Test.YthcmnkmfhgoddaaGreatDoorVRegA
import Derived.Test.YthcmnkmfhgoddaaGreatDoorVFirstA
import Derived.Test.YthcmnkmfhgoddaaGreatDoorVDsPaA
namespace Go.Proofs.YthcmnkmfhgoddaaGreatDoor.Ds
open Go.Proofs.YthcmnkmfhgoddaaGreatDoor.M (tieT untieT untie_some untie_spec numT intT inR tieT_inj tie_prefix)
def rintsOf : Nat -> List Text -> Option (List Int)
 | _,[] => some []
 | i,x :: l => if i = 1 \/ i = 2 then (rintsOf (i + 1) l).map (0 :: ·) else
  match intT x,rintsOf (i + 1) l with
  | some n,some r => some (n :: r)
  | _,_ => none
theorem rintsOf_ge : ∀ (l : List Text) (i : Nat),3 <= i -> rintsOf i l = intsOf l
 | [],_,_ => rfl
 | x :: l,i,h => by
  rw [rintsOf,if_neg (by omega),rintsOf_ge l (i + 1) (by omega),intsOf]
  cases intT x <;> cases intsOf l <;> rfl
theorem rintsOf_cons (a f t g n : Text) (tl : List Text) : rintsOf 0 (a :: f :: t :: g :: n :: tl) =
  (match intT a,intT g,intT n,intsOf tl with | some a,some g,some n,some q => some (a :: 0 :: 0 :: g :: n :: q) | _,_,_,_ => none):=by
 rw [rintsOf,if_neg (by omega),rintsOf,if_pos (by omega),rintsOf,if_pos (by omega),rintsOf,if_neg (by omega),rintsOf,if_neg (by omega),rintsOf_ge tl _ (by omega)]
 cases intT a <;> cases intT g <;> cases intT n <;> cases intsOf tl <;> rfl
def rok (f t : Text) : List Int -> De × Int
 | a :: _ :: _ :: g :: n :: q => (match pairsI q with | some ms => okD ⟨a,⟨f.toArray⟩,⟨t.toArray⟩,g,ms,n⟩ | none => (De.zero,60))
 | _ => (De.zero,60)
theorem parseD_ints {s a f t g n : Text} {tl : List Text} (h : untieT s = some (a :: f :: t :: g :: n :: tl)) :
  parseD s = (match rintsOf 0 (a :: f :: t :: g :: n :: tl) with | some r => rok f t r | none => (De.zero,60)):=by
 unfold parseD
 rw [h,rintsOf_cons]
 simp only [parseL]
 cases intT a <;> cases intT g <;> cases intT n <;> cases intsOf tl <;> try rfl
 rename_i q
 simp only [rok]
 cases pairsI q <;> rfl
theorem parseD_odd {s : Text} {l : List Text} (h : untieT s = some l) (hl : l.length < 7 \/ l.length % 2 = 0) : parseD s = (De.zero,60):=by
 unfold parseD
 rw [h]
 simp only
 cases hp : parseL l with
 | none => rfl
 | some d =>
  simp only
  rcases hl with hl | hl
  ·exact okD_no (by rw [parseL_few hl d hp]; simp)
  ·exfalso
   rcases l with _ | ⟨a,_ | ⟨f,_ | ⟨t,_ | ⟨g,_ | ⟨n,tl⟩⟩⟩⟩⟩
   all_goals try (simp [parseL] at hp; done)
   rw [parseL] at hp
   cases h1 : intT a <;> cases h2 : intT g <;> cases h3 : intT n <;> cases h4 : intsOf tl <;> simp [h1,h2,h3,h4] at hp
   rename_i q
   have e1:=intsOf_length h4
   have e2 : pairsI q = none:=pairsI_odd q (by simp at hl; omega)
   rw [e2] at hp
   simp at hp
theorem pairsI_take : ∀ (q : List Int) (k : Nat) (ms : List Mem),pairsI (q.take (k * 2)) = some ms -> ∀ (h : k * 2 + 1 < q.length),nodeB (q[k * 2]) = true -> pairsI (q.take ((k + 1) * 2)) = some (ms ++ [(q[k * 2],q[k * 2 + 1])])
 | a :: b :: q,0,ms,hp,_,hn => by
  have : ms = []:=by simpa [pairsI] using hp.symm
  subst this
  have hn : nodeB a = true:=hn
  simp [pairsI,hn]
 | a :: b :: q,k + 1,ms,hp,h,hn => by
  have e1 : (k + 1 + 1) * 2 = (k + 1) * 2 + 1 + 1:=by omega
  have e2 : (k + 1) * 2 = k * 2 + 1 + 1:=by omega
  rw [e2,List.take_succ_cons,List.take_succ_cons,pairsI] at hp
  rw [e1,List.take_succ_cons,List.take_succ_cons,pairsI]
  by_cases ha : nodeB a = true
  ·rw [if_pos ha] at hp ⊢
   cases hq : pairsI (q.take (k * 2)) with
   | none => rw [hq] at hp; simp at hp
   | some r =>
    rw [hq] at hp
    have hm : (a,b) :: r = ms:=by simpa using hp
    subst hm
    have:=pairsI_take q k r hq (by simp at h; omega) (by simpa [e2] using hn)
    rw [this]
    simp [e2]
  ·rw [if_neg ha] at hp; simp at hp
 | [],_,_,_,h,_ => by simp at h
 | [_],0,_,_,h,_ => by simp at h
 | [_],_ + 1,_,_,h,_ => by simp at h
theorem pairsI_stop : ∀ (q : List Int) (k : Nat) (h : k * 2 + 1 < q.length),nodeB (q[k * 2]) = false -> pairsI q = none
 | a :: b :: q,0,_,hn => by
  have hn : nodeB a = false:=hn
  rw [pairsI,if_neg (by simp [hn])]
 | a :: b :: q,k + 1,h,hn => by
  have e2 : (k + 1) * 2 = k * 2 + 1 + 1:=by omega
  rw [pairsI]
  by_cases ha : nodeB a = true
  ·rw [if_pos ha,pairsI_stop q k (by simp at h; omega) (by simpa [e2] using hn)]
  ·rw [if_neg ha]
 | [],_,h,_ => by simp at h
 | [_],0,h,_ => by simp at h
 | [_],_ + 1,h,_ => by simp at h
end Go.Proofs.YthcmnkmfhgoddaaGreatDoor.Ds

namespace Go.Proofs.YthcmnkmfhgoddaaGreatDoor.Ds
open Go.RowKit Bnd
end Go.Proofs.YthcmnkmfhgoddaaGreatDoor.Ds

namespace Go.Proofs.YthcmnkmfhgoddaaGreatDoor
open Go.RowKit M
theorem not45 (n : Nat) (r : Text) : dig n ≠ 45 :: r:=by
 intro h
 have:=dig_isDig n 45 (by rw [h]; simp)
 unfold isDig at this
 exact absurd this.1 (by decide)
def Behind (s d : Text) (below : Bool) : Prop:=∀ n,numT n = s -> dig n.natAbs = d /\ (below = true ↔ n < 0)
theorem behind_neg (d : Text) : Behind (45 :: d) d true:=by
 intro n h
 unfold numT at h
 by_cases h0 : n < 0
 ·rw [if_pos h0] at h
  exact ⟨by simpa using h,by simp [h0]⟩
 ·rw [if_neg h0] at h
  exact absurd h (not45 _ _)
theorem behind_pos (s : Text) (hs : s.head? ≠ some 45) : Behind s s false:=by
 intro n h
 unfold numT at h
 by_cases h0 : n < 0
 ·rw [if_pos h0] at h
  exact absurd (by rw [<- h]; rfl) hs
 ·rw [if_neg h0] at h
  exact ⟨h,by simp [h0]⟩
theorem bail_dig {s d : Text} {below : Bool} (hb : Behind s d below) {k : Nat} (hk : k < d.length) (h : ¬ isDig d[k]) : intT s = none :=
 intT_none fun n _ e => by
  obtain ⟨h1,_⟩:=hb n e
  subst h1
  exact h (dig_isDig _ _ (List.getElem_mem hk))
theorem bail_big {s d : Text} {below : Bool} (hb : Behind s d below) {k : Nat} (hk : k < d.length) (h : 1152921504606846976 < valN (d.take k)) : intT s = none :=
 intT_none fun n hn e => by
  obtain ⟨h1,_⟩:=hb n e
  subst h1
  have:=dig_take n.natAbs k hk
  unfold inR at hn
  omega
theorem end_pos {s d : Text} (hb : Behind s d false) {x : Int} (hx : inR x) (h2 : valN d <= 9223372036854775807 -> x = (valN d : Int)) : intT s = if numT x = s then some x else none:=by
 by_cases h : numT x = s
 ·rw [if_pos h,intT_some hx h]
 ·rw [if_neg h]
  exact intT_none fun n hn e => by
   obtain ⟨h1,h3⟩:=hb n e
   have hv : valN d = n.natAbs:=by rw [<- h1,valN_dig]
   have h0 : ¬ n < 0:=fun h => by have:=h3.2 h; cases this
   unfold inR at hn
   exact h (by rw [h2 (by omega),hv,<- e]; congr 1; omega)
theorem end_neg {s d : Text} (hb : Behind s d true) {x : Int} (hx : inR x) (h2 : valN d <= 9223372036854775808 -> x = -(valN d : Int)) : intT s = if numT x = s then some x else none:=by
 by_cases h : numT x = s
 ·rw [if_pos h,intT_some hx h]
 ·rw [if_neg h]
  exact intT_none fun n hn e => by
   obtain ⟨h1,h3⟩:=hb n e
   have hv : valN d = n.natAbs:=by rw [<- h1,valN_dig]
   have h0 : n < 0:=h3.1 rfl
   unfold inR at hn
   exact h (by rw [h2 (by omega),hv,<- e]; congr 1; omega)
theorem notU64 (a : Int) (h1 : 0 <= a) (h2 : a <= 18446744073709551615) : bits .xor .u64 18446744073709551615 a = 18446744073709551615 - a:=by
 obtain ⟨n,rfl⟩ : ∃ n : Nat,a = (n : Int):=⟨a.toNat,by omega⟩
 show IntKind.u64.wrap ((BitVec.ofInt 64 18446744073709551615 ^^^ BitVec.ofInt 64 (n : Int)).toNat : Int) = _
 rw [show BitVec.ofInt 64 18446744073709551615 = BitVec.allOnes 64 by decide,BitVec.allOnes_xor,BitVec.toNat_not,BitVec.toNat_ofInt,IntKind.wrap_u64]
 omega
set_option maxHeartbeats 2000000 in
set_option maxRecDepth 100000 in
theorem rint_neg (s d : ByteArray) (w : World) (hs : 1 <= s.size) (hs2 : s.size <= 20) (h0 : (s[0]'(by omega)).toNat = 45) (hd : s.extract 1 s.size = d) :
  Calls Tryz.prog 99 #[.string s] w fun e w' => e = .returned (intR (intT s.data.toList)) /\ w = w':=by
 have hi' : (s.size : Int) <= 20:=by omega
 have hi1 : (1 : Int) <= s.size:=by omega
 have h0' : (((s[0]'(by omega)).toNat : Int) == 45) = true:=by rw [h0]; rfl
 have hds : d.size <= 20:=by rw [<- hd,ByteArray.size_extract]; omega
 have HB : Hid (Behind s.data.toList d.data.toList true):=by
  show Behind _ _ _
  have h : s.data.toList = 45 :: d.data.toList:=by
   rw [<- hd,drop_data]
   have h1 : 0 < s.data.toList.length:=by rw [show s.data.toList.length = s.size by simp]; omega
   have h2:=List.drop_eq_getElem_cons h1
   rw [List.drop_zero] at h2
   have h3 : s.data.toList[0] = (45 : UInt8):=UInt8.toNat_inj.1 h0
   rw [h3] at h2
   exact h2
  rw [h]; exact behind_neg _
 clear h0
 go_enter Tryz.func99,Tryz.ntmps99
 go_wp2_with fail
 go_loop [6,7] (fun vn vi => ∃ (k : Nat) (a : Int),k <= d.size /\ vi = .int .i64 (k : Int) /\ vn = .int .u64 a /\ 0 <= a /\ a <= 11529215046068469769 /\ Hid (a = (valN (d.data.toList.take k) : Int))) (fun _ vi => d.size - (intOf vi).toNat)
 case atStart => exact ⟨0,0,Nat.zero_le _,rfl,rfl,by omega,by omega,rfl⟩
 case round =>
  obtain ⟨k,a,hk,rfl,rfl,ha0,ha1,ha⟩:=hrel
  by_cases hlt : k < d.size
  ·obtain ⟨c,hc⟩ : ∃ c : Int,((d[k]'hlt).toNat : Int) = c:=⟨_,rfl⟩
   have hc0 : 0 <= c:=by omega
   have hc1 : c <= 255:=by have:=UInt8.toNat_lt (d[k]'hlt); omega
   have hkl : k < d.data.toList.length:=by simpa using hlt
   have hget : d.data.toList[k] = d[k]'hlt:=rfl
   by_cases h48 : c < 48
   ·have hbail:=bail_dig (HB.out) hkl (by rw [hget]; unfold isDig; omega)
    have HBA:=Lib.hid hbail
    clear hbail hget
    go_wp2_with fail
    go_ret2
    exact ⟨by rw [HBA.out]; rfl,rfl⟩
   ·by_cases h57 : 57 < c
    ·have hbail:=bail_dig (HB.out) hkl (by rw [hget]; unfold isDig; omega)
     have HBA:=Lib.hid hbail
     clear hbail hget
     go_wp2_with fail
     go_ret2
     exact ⟨by rw [HBA.out]; rfl,rfl⟩
    ·by_cases hbig : 1152921504606846976 < a
     ·have hbail:=bail_big (HB.out) hkl (by have:=ha.out; omega)
      have HBA:=Lib.hid hbail
      clear hbail hget
      go_wp2_with fail
      go_ret2
      exact ⟨by rw [HBA.out]; rfl,rfl⟩
     ·have hnew : Hid (10 * a + (c - 48) = (valN (d.data.toList.take (k + 1)) : Int)):=by
       show 10 * a + (c - 48) = _
       rw [take_snoc d k hlt,valN_snoc,ha.out]
       omega
      clear ha hget
      go_wp2_with fail
      go_round
      case rel => exact ⟨k + 1,_,by omega,by go_num,rfl,by omega,by omega,hnew⟩
      case measure => simp [intOf]; omega
  ·obtain rfl : k = d.size:=by omega
   have ha2:=ha.out
   rw [take_all] at ha2
   obtain ⟨x,hx⟩ : ∃ x : Int,wrap64 (IntKind.u64.wrap (bits .xor .u64 IntKind.u64.max a + 1)) = x:=⟨_,rfl⟩
   have hxe : (18446744073709551615 - a + 1) % 18446744073709551616 < 9223372036854775808 /\ x = (18446744073709551615 - a + 1) % 18446744073709551616 \/ 9223372036854775808 <= (18446744073709551615 - a + 1) % 18446744073709551616 /\ x = (18446744073709551615 - a + 1) % 18446744073709551616 - 18446744073709551616:=by
    rw [<- hx,show IntKind.u64.max = 18446744073709551615 by rfl,notU64 a ha0 (by omega),IntKind.wrap_u64]; unfold wrap64; omega
   have hxr : inR x:=by unfold inR; clear hx; omega
   have hxv : valN d.data.toList <= 9223372036854775808 -> x = -(valN d.data.toList : Int):=by
    intro h; clear hx; omega
   have hE:=end_neg HB.out hxr hxv
   have hnum:=fun w => rnum_any x w hxr
   clear HB ha ha2 hxv hxr hxe
   by_cases he : numT x = s.data.toList
   ·rw [if_pos he] at hE
    have hq:=beq_yes he
    have HE:=Lib.hid hE
    clear he hE
    go_wp2_with fail
    refine (hnum _).mono ?_
    rintro e w' ⟨rfl,rfl⟩
    go_wp2_with fail
    go_ret2
    exact ⟨by rw [HE.out]; rfl,rfl⟩
   ·rw [if_neg he] at hE
    have hq:=beq_no he
    have HE:=Lib.hid hE
    clear he hE
    go_wp2_with fail
    refine (hnum _).mono ?_
    rintro e w' ⟨rfl,rfl⟩
    go_wp2_with fail
    go_ret2
    exact ⟨by rw [HE.out]; rfl,rfl⟩
set_option maxHeartbeats 2000000 in
set_option maxRecDepth 100000 in
theorem rint_pos (s : ByteArray) (w : World) (hs : 1 <= s.size) (hs2 : s.size <= 20) (h0 : (s[0]'(by omega)).toNat ≠ 45) :
  Calls Tryz.prog 99 #[.string s] w fun e w' => e = .returned (intR (intT s.data.toList)) /\ w = w':=by
 have hi' : (s.size : Int) <= 20:=by omega
 have hi1 : (1 : Int) <= s.size:=by omega
 have h0' : (((s[0]'(by omega)).toNat : Int) == 45) = false:=by
  have : ((s[0]'(by omega)).toNat : Int) ≠ 45:=by omega
  simpa using this
 have hds : s.size <= 20:=hs2
 have HB : Hid (Behind s.data.toList s.data.toList false):=by
  show Behind _ _ _
  refine behind_pos _ fun h => h0 ?_
  have h1 : 0 < s.data.toList.length:=by rw [show s.data.toList.length = s.size by simp]; omega
  rw [List.head?_eq_getElem?,List.getElem?_eq_getElem h1] at h
  have h3 : s.data.toList[0] = (45 : UInt8):=Option.some.inj h
  exact congrArg UInt8.toNat h3
 clear h0
 go_enter Tryz.func99,Tryz.ntmps99
 go_wp2_with fail
 go_loop [6,7] (fun vn vi => ∃ (k : Nat) (a : Int),k <= s.size /\ vi = .int .i64 (k : Int) /\ vn = .int .u64 a /\ 0 <= a /\ a <= 11529215046068469769 /\ Hid (a = (valN (s.data.toList.take k) : Int))) (fun _ vi => s.size - (intOf vi).toNat)
 case atStart => exact ⟨0,0,Nat.zero_le _,rfl,rfl,by omega,by omega,rfl⟩
 case round =>
  obtain ⟨k,a,hk,rfl,rfl,ha0,ha1,ha⟩:=hrel
  by_cases hlt : k < s.size
  ·obtain ⟨c,hc⟩ : ∃ c : Int,((s[k]'hlt).toNat : Int) = c:=⟨_,rfl⟩
   have hc0 : 0 <= c:=by omega
   have hc1 : c <= 255:=by have:=UInt8.toNat_lt (s[k]'hlt); omega
   have hkl : k < s.data.toList.length:=by simpa using hlt
   have hget : s.data.toList[k] = s[k]'hlt:=rfl
   by_cases h48 : c < 48
   ·have hbail:=bail_dig (HB.out) hkl (by rw [hget]; unfold isDig; omega)
    have HBA:=Lib.hid hbail
    clear hbail hget
    go_wp2_with fail
    go_ret2
    exact ⟨by rw [HBA.out]; rfl,rfl⟩
   ·by_cases h57 : 57 < c
    ·have hbail:=bail_dig (HB.out) hkl (by rw [hget]; unfold isDig; omega)
     have HBA:=Lib.hid hbail
     clear hbail hget
     go_wp2_with fail
     go_ret2
     exact ⟨by rw [HBA.out]; rfl,rfl⟩
    ·by_cases hbig : 1152921504606846976 < a
     ·have hbail:=bail_big (HB.out) hkl (by have:=ha.out; omega)
      have HBA:=Lib.hid hbail
      clear hbail hget
      go_wp2_with fail
      go_ret2
      exact ⟨by rw [HBA.out]; rfl,rfl⟩
     ·have hnew : Hid (10 * a + (c - 48) = (valN (s.data.toList.take (k + 1)) : Int)):=by
       show 10 * a + (c - 48) = _
       rw [take_snoc s k hlt,valN_snoc,ha.out]
       omega
      clear ha hget
      go_wp2_with fail
      go_round
      case rel => exact ⟨k + 1,_,by omega,by go_num,rfl,by omega,by omega,hnew⟩
      case measure => simp [intOf]; omega
  ·obtain rfl : k = s.size:=by omega
   have ha2:=ha.out
   rw [take_all] at ha2
   obtain ⟨x,hx⟩ : ∃ x : Int,IntKind.i64.wrap a = x:=⟨_,rfl⟩
   have hxr : inR x:=by rw [<- hx,IntKind.wrap_i64]; unfold inR; omega
   have hxv : valN s.data.toList <= 9223372036854775807 -> x = (valN s.data.toList : Int):=by
    intro h; rw [<- hx,IntKind.wrap_i64]; omega
   have hE:=end_pos HB.out hxr hxv
   have hnum:=fun w => rnum_any x w hxr
   clear HB ha ha2 hxv hxr
   by_cases he : numT x = s.data.toList
   ·rw [if_pos he] at hE
    have hq:=beq_yes he
    have HE:=Lib.hid hE
    clear he hE
    go_wp2_with fail
    refine (hnum _).mono ?_
    rintro e w' ⟨rfl,rfl⟩
    go_wp2_with fail
    go_ret2
    exact ⟨by rw [HE.out]; rfl,rfl⟩
   ·rw [if_neg he] at hE
    have hq:=beq_no he
    have HE:=Lib.hid hE
    clear he hE
    go_wp2_with fail
    refine (hnum _).mono ?_
    rintro e w' ⟨rfl,rfl⟩
    go_wp2_with fail
    go_ret2
    exact ⟨by rw [HE.out]; rfl,rfl⟩
set_option maxHeartbeats 2000000 in
set_option maxRecDepth 100000 in
theorem rint_empty (s : ByteArray) (w : World) (hs : s.size = 0) :
  Calls Tryz.prog 99 #[.string s] w fun e w' => e = .returned (intR (intT s.data.toList)) /\ w = w':=by
 have HB : Hid (Behind s.data.toList s.data.toList false):=by
  show Behind _ _ _
  refine behind_pos _ fun h => ?_
  rw [(toList_nil s).1 hs] at h; cases h
 go_enter Tryz.func99,Tryz.ntmps99
 go_wp2_with fail
 go_loop [6,7] (fun vn vi => ∃ (k : Nat) (a : Int),k <= s.size /\ vi = .int .i64 (k : Int) /\ vn = .int .u64 a /\ 0 <= a /\ a <= 11529215046068469769 /\ Hid (a = (valN (s.data.toList.take k) : Int))) (fun _ vi => s.size - (intOf vi).toNat)
 case atStart => exact ⟨0,0,Nat.zero_le _,rfl,rfl,by omega,by omega,rfl⟩
 case round =>
  obtain ⟨k,a,hk,rfl,rfl,ha0,ha1,ha⟩:=hrel
  by_cases hlt : k < s.size
  ·omega
  ·obtain rfl : k = s.size:=by omega
   have ha2:=ha.out
   rw [take_all] at ha2
   obtain ⟨x,hx⟩ : ∃ x : Int,IntKind.i64.wrap a = x:=⟨_,rfl⟩
   have hxr : inR x:=by rw [<- hx,IntKind.wrap_i64]; unfold inR; omega
   have hxv : valN s.data.toList <= 9223372036854775807 -> x = (valN s.data.toList : Int):=by
    intro h; rw [<- hx,IntKind.wrap_i64]; omega
   have hE:=end_pos HB.out hxr hxv
   have hnum:=fun w => rnum_any x w hxr
   clear HB ha ha2 hxv hxr
   by_cases he : numT x = s.data.toList
   ·rw [if_pos he] at hE
    have hq:=beq_yes he
    have HE:=Lib.hid hE
    clear he hE
    go_wp2_with fail
    refine (hnum _).mono ?_
    rintro e w' ⟨rfl,rfl⟩
    go_wp2_with fail
    go_ret2
    exact ⟨by rw [HE.out]; rfl,rfl⟩
   ·rw [if_neg he] at hE
    have hq:=beq_no he
    have HE:=Lib.hid hE
    clear he hE
    go_wp2_with fail
    refine (hnum _).mono ?_
    rintro e w' ⟨rfl,rfl⟩
    go_wp2_with fail
    go_ret2
    exact ⟨by rw [HE.out]; rfl,rfl⟩
theorem rint_any (s : ByteArray) (w : World) (hs : s.size <= 140737488355328) :
  Calls Tryz.prog 99 #[.string s] w fun e w' => e = .returned (intR (intT s.data.toList)) /\ w = w':=by
 by_cases h20 : 20 < s.size
 ·rw [intT_long s h20]
  have hi : (20 : Int) < (s.size : Int):=by omega
  go_enter Tryz.func99,Tryz.ntmps99
  go_wp2_with fail
  go_ret2
  exact ⟨rfl,rfl⟩
 ·by_cases h0 : s.size = 0
  ·exact rint_empty s w h0
  ·by_cases h45 : (s[0]'(by omega)).toNat = 45
   ·exact rint_neg s _ w (by omega) (by omega) h45 rfl
   ·exact rint_pos s w (by omega) (by omega) h45
end Go.Proofs.YthcmnkmfhgoddaaGreatDoor

namespace Go.Proofs.YthcmnkmfhgoddaaGreatDoor.Ds
open Go.RowKit Bnd
open Go.Proofs.YthcmnkmfhgoddaaGreatDoor.M (numT inR tieT intT untieT)
def Read (l : List Text) (k : Nat) (ns : List Int) : Prop:=ns.length = k /\ ∀ o,rintsOf k (l.drop k) = o -> rintsOf 0 l = o.map (ns ++ ·)
theorem Read.start (l : List Text) : Read l 0 []:=⟨rfl,fun o h => by have h' : rintsOf 0 l = o:=h; rw [h']; cases o <;> simp⟩
theorem Read.skip {l : List Text} {k : Nat} {ns : List Int} (h : Read l k ns) (hk : k < l.length) (h12 : k = 1 \/ k = 2) : Read l (k + 1) (ns ++ [0]):=by
 refine ⟨by simp [h.1],fun o ho => ?_⟩
 have:=h.2 _ rfl
 rw [List.drop_eq_getElem_cons hk,rintsOf,if_pos h12,ho] at this
 rw [this]
 cases o <;> simp
theorem Read.num {l : List Text} {k : Nat} {ns : List Int} (h : Read l k ns) (hk : k < l.length) (h12 : ¬ (k = 1 \/ k = 2)) {n : Int} (hn : intT l[k] = some n) : Read l (k + 1) (ns ++ [n]):=by
 refine ⟨by simp [h.1],fun o ho => ?_⟩
 have:=h.2 _ rfl
 rw [List.drop_eq_getElem_cons hk,rintsOf,if_neg h12,hn,ho] at this
 rw [this]
 cases o <;> simp
theorem Read.bad {l : List Text} {k : Nat} {ns : List Int} (h : Read l k ns) (hk : k < l.length) (h12 : ¬ (k = 1 \/ k = 2)) (hn : intT l[k] = none) : rintsOf 0 l = none:=by
 have:=h.2 _ rfl
 rw [List.drop_eq_getElem_cons hk,rintsOf,if_neg h12,hn] at this
 simpa using this
theorem Read.all {l : List Text} {ns : List Int} (h : Read l l.length ns) : rintsOf 0 l = some ns:=by
 have:=h.2 _ rfl
 rw [List.drop_length] at this
 simpa [rintsOf] using this
theorem five {α : Type} {l : List α} (h : 5 <= l.length) : ∃ a f t g n tl,l = a :: f :: t :: g :: n :: tl:=by
 rcases l with _ | ⟨a,_ | ⟨f,_ | ⟨t,_ | ⟨g,_ | ⟨n,tl⟩⟩⟩⟩⟩
 all_goals first | exact ⟨_,_,_,_,_,_,rfl⟩ | (exfalso; simp at h)
theorem parseD_bad {s : Text} {l : List Text} (h : untieT s = some l) (hl : 5 <= l.length) (hr : rintsOf 0 l = none) : parseD s = (De.zero,60):=by
 obtain ⟨a,f,t,g,n,tl,rfl⟩:=five hl
 rw [parseD_ints h,hr]
def endD (f t : ByteArray) (a g n : Int) (qs : List Int) : De × Int:=match pairsI qs with
 | some ms => okD ⟨a,f,t,g,ms,n⟩
 | none => (De.zero,60)
theorem parseD_good {s : Text} {ss : List ByteArray} {x0 f t x3 x4 : ByteArray} {tl : List ByteArray} {a z1 z2 g n : Int} {qs : List Int} (h : untieT s = some (texts ss)) (hs : ss = x0 :: f :: t :: x3 :: x4 :: tl) (hr : rintsOf 0 (texts ss) = some (a :: z1 :: z2 :: g :: n :: qs)) : parseD s = endD f t a g n qs:=by
 subst hs
 have e:=parseD_ints (s:=s) h
 rw [e]
 show (match rintsOf 0 (texts (x0 :: f :: t :: x3 :: x4 :: tl)) with | some r => rok f.data.toList t.data.toList r | none => (De.zero,60)) = _
 rw [hr]
 simp only [rok,endD]
 all_goals (cases pairsI qs <;> simp)
structure RQ (W : World) (d : De) (L : Nat -> Bool) (wx : World) : Prop where
 w0 : L 17 = false -> wx = W.drew
 w1 : L 17 = true -> L 18 = false -> wx = W.drew.alloc (.cells #[.int .i64 0,.string ⟨#[]⟩,.string ⟨#[]⟩,.int .i64 0,.slice none 0 0,.int .i64 0] 26)
 w2 : L 18 = true -> wx = putW (W.drew.alloc (.cells #[.int .i64 0,.string ⟨#[]⟩,.string ⟨#[]⟩,.int .i64 0,.slice none 0 0,.int .i64 0] 26)) W.heap.size d (.slice none 0 0)
structure RG (N n : Nat) (W : World) (xs : List Mem) (m : Mem) (L : Nat -> Bool) (u : Nat -> Value) (wx : World) : Prop where
 w0 : L 12 = false -> wx = W.drew
 w9 : L 12 = true -> L 13 = false -> wx = W.drew.alloc (.cells #[.int .i64 m.1,.int .i64 m.2] 70)
 wa : L 13 = true -> L 15 = false -> Below N W wx /\ OwnM wx N (u 13) (xs ++ [m])
 wz : L 15 = true -> ∃ w',(Below N W w' /\ OwnM w' N (u 13) (xs ++ [m])) /\ wx = w'.setCell ⟨n,4,none⟩ (u 13)
theorem endD_none {f t : ByteArray} {a g n : Int} {qs : List Int} (h : pairsI qs = none) : endD f t a g n qs = (De.zero,60):=by unfold endD; rw [h]
theorem endD_some {f t : ByteArray} {a g n : Int} {qs : List Int} {ms : List Mem} (h : pairsI qs = some ms) : endD f t a g n qs = okD ⟨a,f,t,g,ms,n⟩:=by unfold endD; rw [h]
set_option maxHeartbeats 16000000 in
set_option maxRecDepth 100000 in
theorem rparse_any (s : ByteArray) (w : World) (hs : s.size <= 140737488355328) :
  Calls Tryz.prog 56 #[.string s] w fun e w' => Gave w (parseD s.data.toList) e w':=by
 have cu:=fun w => runtie_any s w hs
 have B0:=BoxD.zero w
 cases hu : untieT s.data.toList with
 | none =>
  rw [parseD_none hu]
  rw [hu] at cu
  unfold UntieOut at cu
  clear hu
  go_enter Tryz.func56,Tryz.ntmps56
  go_wp2_with fail
  refine (cu _).mono ?_
  rintro e w1 ⟨rfl,b1⟩
  have B1:=B0.keep b1
  have hb1 : Below w.heap.size w w1:=(show Below w.heap.size w _ from (by exact bex0)).trans (b1.mono (by simp))
  obtain ⟨p_0,⟨p_1,p_2,p_3,p_4,p_5,p_6⟩,p_7⟩:=id B1
  clear b1 cu
  go_wp2_with fail
  exact bodyPost_ret (res_box_tmp Tryz.results56 rfl rfl (BoxD.put B1 De.zero (.slice none 0 0))) rfl (Gave.zero (by exact bex0))
 | some l =>
  obtain ⟨q,hq⟩ : ∃ q,parseD s.data.toList = q:=⟨_,rfl⟩
  rw [hq]
  have HQ:=Lib.hid hq
  clear hq
  rw [hu] at cu
  have hus:=M.untie_spec hu
  go_enter Tryz.func56,Tryz.ntmps56
  go_wp2_with fail
  refine (cu _).mono ?_
  rintro e w1 ⟨⟨v,ss,rfl,hss,hsl⟩,b1⟩
  subst hss
  have hszs : ∀ x ∈ ss,x.size <= 140737488355328:=by
   intro x hx
   have h1:=mem_le_tie (l:=texts ss) (x:=x.data.toList) (List.mem_map.2 ⟨x,hx,rfl⟩)
   have h2:=hus.2.2
   rw [hus.1] at h2
   have h3 : x.data.toList.length = x.size:=by simp
   omega
  have hln : ss.length <= 4096:=by have:=hus.2.1; rwa [texts_length] at this
  have B1:=B0.keep b1
  have hb1 : Below w.heap.size w w1:=(show Below w.heap.size w _ from (by exact bex0)).trans (b1.mono (by simp))
  have hz1:=hb1.size
  have hlt1:=B1.1
  obtain ⟨p_0,⟨p_1,p_2,p_3,p_4,p_5,p_6⟩,p_7⟩:=id B1
  have HU:=Lib.hid hu
  clear b1 cu hus hu
  obtain ⟨A,c,rfl⟩:=hsl.form
  by_cases h7 : ss.length < 7
  ·have HR:=Lib.hid (HQ.out.symm.trans (parseD_odd HU.out (.inl (by rw [texts_length]; exact h7))))
   have g1 : ((ss.length : Int) < 7) = True:=eq_true (by omega)
   clear h7 hsl HU HQ
   go_wp2_with fail
   exact bodyPost_ret (res_box_tmp Tryz.results56 rfl rfl (BoxD.put B1 De.zero (.slice none 0 0))) rfl (by rw [HR.out]; exact Gave.zero (by exact bex0))
  have g1 : ((ss.length : Int) < 7) = False:=eq_false (by omega)
  by_cases h2 : ss.length % 2 = 0
  ·have HR:=Lib.hid (HQ.out.symm.trans (parseD_odd HU.out (.inr (by rw [texts_length]; exact h2))))
   have g2 : ((ss.length : Int) % 2 == 0) = true:=by rw [beq_iff_eq]; omega
   have g3 : ((ss.length : Int) % 2 = 0) = True:=eq_true (by omega)
   clear h7 h2 hsl HU HQ
   go_wp2_with fail
   exact bodyPost_ret (res_box_tmp Tryz.results56 rfl rfl (BoxD.put B1 De.zero (.slice none 0 0))) rfl (by rw [HR.out]; exact Gave.zero (by exact bex0))
  have g2 : ((ss.length : Int) % 2 == 0) = false:=by rw [beq_eq_false_iff_ne]; omega
  have g3 : ((ss.length : Int) % 2 = 0) = False:=eq_false (by omega)
  obtain ⟨n,hn⟩ : ∃ n,n = ss.length:=⟨_,rfl⟩
  have HX:=Lib.hid hn
  have H2:=Lib.hid h2
  rw [<- hn] at hsl g1 g2 g3 h7 hln ⊢
  clear hn h2
  go_wp2_with fail
  clear g1 g2 g3
  clear p_0 p_1 p_2 p_3 p_4 p_5 p_6 p_7
  go_loopw [6,7,8,9,10] (fun v6 v7 _ _ _ wr => ∃ (k : Nat) (ns : List Int),k <= n /\ v7 = .int .i64 (k : Int) /\ OwnI wr w1.heap.size v6 ns /\ Hid (Read (texts ss) k ns) /\ Hid (ns.length = k) /\ Below w1.heap.size w1 wr) (fun _ v7 _ _ _ _ => n - (intOf v7).toNat)
  case atStart => exact ⟨0,[],Nat.zero_le _,rfl,⟨rfl,.inl ⟨rfl,rfl⟩⟩,Lib.hid (Read.start _),Lib.hid rfl,Below.refl _ _⟩
  case round =>
   revert hrel
   revert wr
   intro wo hrel
   obtain ⟨k,ns,hk,rfl,hown,HRD,hnl,hbw⟩:=hrel
   have hz:=hbw.size
   by_cases hlt : k < n
   ·have hkx : k < ss.length:=by rw [<- HX.out]; exact hlt
    have hkt : k < (texts ss).length:=by rw [texts_length]; exact hkx
    have hk0 : (0 : Int) <= (k : Int):=by omega
    have hk1 : (k : Int) < (n : Int):=by omega
    have HO:=Lib.hid hown
    obtain ⟨A4,c4,hv4⟩:=(SI.of_own hown).form
    subst hv4
    clear hown
    by_cases h12 : k = 1 \/ k = 2
    ·have HN:=Lib.hid (Read.skip HRD.out hkt h12)
     have g : ((k : Int) != 1) = false \/ (((k : Int) != 1) = true /\ ((k : Int) != 2) = false):=by
      rcases h12 with rfl | rfl
      ·exact .inl rfl
      ·exact .inr ⟨rfl,rfl⟩
     clear h12 HRD
     rcases g with g1 | ⟨g1,g2⟩
     all_goals
      go_wp2_with (at_builtin; refine wpList_append_is rfl _ _ rfl w1.heap.size _ ns rfl (HO.out.alloc _) (by simp; omega) 0 wo.heap.size rfl (by simp [go_sem]) (by have:=hnl.out; omega) ?_)
      intro v' w2 O2 b2 ne2
      have B2 : Below w1.heap.size w1 w2:=(hbw.alloc hz _).trans b2
      have O3:=Lib.hid O2
      clear O2 b2 ne2
      go_wp2_with fail
      go_roundw
      case rel => exact ⟨k + 1,ns ++ [0],by omega,by go_num,O3.out,HN,Lib.hid (by have:=hnl.out; simp; omega),B2⟩
      case measure => simp [intOf]; omega
    ·have g1 : ((k : Int) != 1) = true:=by rw [bne_iff_ne]; omega
     have g2 : ((k : Int) != 2) = true:=by rw [bne_iff_ne]; omega
     obtain ⟨ad,rfl,hadb,hcell⟩:=(hsl.below (hbw.mono (by omega))).at_ hkx
     have hss:=hszs _ (List.getElem_mem hkx)
     have htx : (texts ss)[k] = ss[k].data.toList:=by simp [texts]
     obtain ⟨x,hx⟩ : ∃ x,ss[k] = x:=⟨_,rfl⟩
     rw [hx] at hcell hss htx
     have hcon:=rint_any x wo hss
     cases hi : intT x.data.toList with
     | none =>
      rw [hi] at hcon
      have HR:=Lib.hid (show q = (De.zero,60) by rw [<- HQ.out]; exact parseD_bad HU.out (by rw [texts_length]; have:=HX.out; omega) (HRD.out.bad hkt h12 (by rw [htx]; exact hi)))
      unfold intR at hcon
      have Bz:=B1.keep hbw
      obtain ⟨p_0,⟨p_1,p_2,p_3,p_4,p_5,p_6⟩,p_7⟩:=id Bz
      clear hi HRD hx htx h12
      go_wp2_with fail
      refine hcon.mono ?_
      rintro e w2 ⟨rfl,rfl⟩
      go_wp2_with fail
      exact bodyPost_ret (res_box_tmp Tryz.results56 rfl rfl (BoxD.put Bz De.zero (.slice none 0 0))) rfl (by rw [HR.out]; exact Gave.zero (by have:=hb1.trans (hbw.mono hz1); (exact bex0)))
     | some m =>
      rw [hi] at hcon
      have HN:=Lib.hid (Read.num HRD.out hkt h12 (by rw [htx]; exact hi))
      unfold intR at hcon
      clear hi HRD hx htx h12
      go_wp2_with fail
      refine hcon.mono ?_
      rintro e w2 ⟨rfl,rfl⟩
      go_wp2_with (at_builtin; refine wpList_append_is rfl _ _ rfl w1.heap.size _ ns rfl (HO.out.alloc _) (by simp; omega) m wo.heap.size rfl (by simp [go_sem]) (by have:=hnl.out; omega) ?_)
      intro v' w3 O2 b2 ne2
      have B2 : Below w1.heap.size w1 w3:=(hbw.alloc hz _).trans b2
      have O3:=Lib.hid O2
      clear O2 b2 ne2
      go_wp2_with fail
      go_roundw
      case rel => exact ⟨k + 1,ns ++ [m],by omega,by go_num,O3.out,HN,Lib.hid (by have:=hnl.out; simp; omega),B2⟩
      case measure => simp [intOf]; omega
   ·obtain rfl : k = n:=by omega
    have hR0:=Read.all (l:=texts ss) (ns:=ns) (by rw [texts_length,<- HX.out]; exact HRD.out)
    obtain ⟨x0,f,t,x3,x4,stl,hss⟩:=five (l:=ss) (by rw [<- HX.out]; omega)
    obtain ⟨a,z1,z2,g,nx,qs,rfl⟩:=five (l:=ns) (by have:=hnl.out; omega)
    have hqe:=HQ.out.symm.trans (parseD_good HU.out hss hR0)
    have hkq : k = qs.length + 5:=by have:=hnl.out; simp at this; omega
    obtain ⟨ad,rfl,hadb,hf1⟩:=(hsl.below (hbw.mono (by omega))).at_ (k:=1) (by rw [hss]; simp)
    obtain ⟨ad',had',_,hf2⟩:=(hsl.below (hbw.mono (by omega))).at_ (k:=2) (by rw [hss]; simp)
    obtain rfl : ad = ad':=Option.some.inj had'
    have e1 : ss[1]'(by rw [hss]; simp) = f:=by simp [hss]
    have e2 : ss[2]'(by rw [hss]; simp) = t:=by simp [hss]
    rw [e1] at hf1
    rw [e2] at hf2
    have hf1 : wo.cell? ⟨ad.block,ad.off + 1,none⟩ = some (.string f):=hf1
    have hf2 : wo.cell? ⟨ad.block,ad.off + 2,none⟩ = some (.string t):=hf2
    have hfs : f.size <= 140737488355328:=hszs f (by rw [hss]; simp)
    have hts : t.size <= 140737488355328:=hszs t (by rw [hss]; simp)
    obtain ⟨b0,cap,cur,rfl,hbg,hgb,hnc,hcm,hcs,htk⟩:=hown.2.resolve_left (fun h => by simp at h)
    have y0:=ownI_cells hown 0 (by simp)
    have y3:=ownI_cells hown 3 (by simp)
    have y4:=ownI_cells hown 4 (by simp)
    have yq : ∀ j (h : j < qs.length),wo.cell? ⟨b0,j + 5,none⟩ = some (.int .i64 qs[j]):=fun j h => ownI_cells hown (j + 5) (by simp; omega)
    simp only [List.getElem_cons_zero,List.getElem_cons_succ] at y0 y3 y4
    have hb0l : b0 < wo.heap.size:=Lib.lt_of_cell y0
    have hadl : ad.block < wo.heap.size:=by omega
    have HE:=Lib.hid hqe
    have HK:=Lib.hid hkq
    obtain ⟨m,hm⟩ : ∃ m,m = qs.length:=⟨_,rfl⟩
    have HM:=Lib.hid hm
    have hlen : (a :: z1 :: z2 :: g :: nx :: qs).length = m + 5:=by simp [hm]
    rw [hlen] at hnc ⊢
    obtain rfl : k = m + 5:=by omega
    have hm1 : m + 5 <= 4096:=hln
    clear hqe hkq hm had' e1 e2 hown hbg hgb hcm hcs htk hR0 hss HRD hnl hlen HU HQ hszs
    obtain ⟨D,hD⟩ : ∃ D : De,(⟨a,f,t,g,[],nx⟩ : De) = D:=⟨_,rfl⟩
    have g0 : ((0 : Int) < (m : Int) + 5) = True:=eq_true (by omega)
    have g1 : ((1 : Int) < (m : Int) + 5) = True:=eq_true (by omega)
    have g2 : ((2 : Int) < (m : Int) + 5) = True:=eq_true (by omega)
    have g3 : ((3 : Int) < (m : Int) + 5) = True:=eq_true (by omega)
    have g4 : ((4 : Int) < (m : Int) + 5) = True:=eq_true (by omega)
    go_wp2_with fail
    refine St.wp_region_mixed (fun L _ wx => RQ wo D L wx) (fun _ _ => False) (by kernel_rfl) (by kernel_rfl) (by kernel_rfl) ⟨fun _ => rfl,fun h => (by cases h),fun h => (by cases h)⟩ ?_
    have cells : ∀ L wx,RQ wo D L wx -> L 18 = false -> wx.cell? ⟨b0,0,none⟩ = some (.int .i64 a) /\ wx.cell? ⟨b0,3,none⟩ = some (.int .i64 g) /\ wx.cell? ⟨b0,4,none⟩ = some (.int .i64 nx) /\ wx.cell? ⟨ad.block,ad.off + 1,none⟩ = some (.string f) /\ wx.cell? ⟨ad.block,ad.off + 2,none⟩ = some (.string t):=by
     intro L wx hS h18
     have hq : Below wo.heap.size wo wx:=by
      cases h17 : L 17 with
      | false => rw [hS.w0 h17]; exact (Below.refl _ _).drew
      | true => rw [hS.w1 h17 h18]; exact (Below.refl _ _).drew.alloc (Nat.le_refl _) _
     exact ⟨(hq.cell (p:=⟨b0,0,none⟩) hb0l).trans y0,(hq.cell (p:=⟨b0,3,none⟩) hb0l).trans y3,(hq.cell (p:=⟨b0,4,none⟩) hb0l).trans y4,(hq.cell (p:=⟨ad.block,ad.off + 1,none⟩) hadl).trans hf1,(hq.cell (p:=⟨ad.block,ad.off + 2,none⟩) hadl).trans hf2⟩
    iterate 17
     (apply St.mix_give
      ·rfl
      ·intro L u' wx hS hcl hrd hag
       obtain ⟨k0,k1,k2,k3,k4⟩:=cells _ _ hS (St.not_yet hcl hrd 40 18 (by kernel_rfl))
       go_simp
       try with_reducible rfl
      ·exact fun L u' wx hS => ⟨hS.w0,hS.w1,hS.w2⟩
      simp only [Act.put,St.pu])
    refine St.mix_free (fun z => z = ptr wo.heap.size) rfl ?_ ?_
    ·intro L u' wx hS hcl hrd hag
     have h18:=St.not_yet hcl hrd 40 18 (by kernel_rfl)
     obtain rfl:=hS.w0 hrd.1
     refine ⟨_,_,rfl,?_,⟨fun h => (by simp [St.mark] at h),fun _ _ => rfl,fun h => (by rw [show St.mark L 17 18 = L 18 from rfl,h18] at h; cases h)⟩⟩
     go_simp
     try with_reducible rfl
    rintro _ rfl
    simp only [Act.put,St.pu]
    refine St.mix_skip rfl ?_ ?_
    ·intro L u' wx hS hcl hrd hag
     have h17:=St.before_ready hcl hrd 40 17 (by kernel_rfl)
     obtain rfl:=hS.w1 h17 hrd.1
     refine ⟨putW _ wo.heap.size D (.slice none 0 0),?_,⟨fun h => (by rw [show St.mark L 18 17 = L 17 from rfl,h17] at h; cases h),fun _ h => (by simp [St.mark] at h),fun _ => rfl⟩⟩
     rw [<- hD]
     unfold putW
     obtain ⟨_,⟨d0,d1,d2,d3,d4,d5⟩,dz⟩:=BoxD.zero wo
     go_simp
     try with_reducible rfl
    simp only [Act.put]
    refine St.mix_last ?_
    intro L wx hS hall
    have hwx:=hS.w2 (hall 18 (by decide))
    have hq15 : Below wo.heap.size wo wx:=by rw [hwx]; exact putW_below ((Below.refl _ _).drew.alloc (Nat.le_refl _) _) (Nat.le_refl _)
    have X0 : BoxD wo.heap.size D (.slice none 0 0) wx:=by
     rw [hwx]
     unfold putW
     exact BoxD.put (BoxD.zero wo.drew) D (.slice none 0 0)
    have hbw2 : Below w.heap.size w wo:=hb1.trans (hbw.mono hz1)
    have Bz:=(B1.keep hbw).keep hq15
    have hwr : w.heap.size < wo.heap.size:=by have:=(B1.keep hbw).1; exact this
    clear hS hall cells hwx y0 y3 y4 hf1 hf2
    have hme : m % 2 = 0:=by have:=H2.out; have:=HX.out; omega
    go_wp2_with fail
    go_loopw [12] (fun vi w2 => ∃ (j i : Nat) (ms : List Mem) (sv : Value),j * 2 <= m /\ i = j * 2 + 5 /\ vi = .int .i64 (i : Int) /\ Hid (pairsI (qs.take (j * 2)) = some ms) /\ Hid (ms.length = j) /\ BoxD wo.heap.size D sv w2 /\ OwnM w2 (wo.heap.size + 1) sv ms /\ BoxD w.heap.size De.zero (.slice none 0 0) w2 /\ Below wo.heap.size wo w2) (fun vi _ => m + 5 - (intOf vi).toNat)
    case atStart => exact ⟨0,5,[],.slice none 0 0,by omega,by omega,rfl,Lib.hid (by simp [pairsI]),Lib.hid rfl,X0,own_nil _ _,Bz,hq15⟩
    case round =>
     clear X0 Bz hq15
     obtain ⟨j,i,ms,sv,hj,hij,rfl,HP,HL,X1,hown,Bz,hb2⟩:=hrel
     have hz2:=hb2.size
     have hb2w : Below w.heap.size w wr:=hbw2.trans (hb2.mono (by omega))
     obtain ⟨A7,c7,rfl⟩:=(SM.of_own hown).form
     have HO:=Lib.hid hown
     have hlm : ms.length <= 5000:=by have:=HL.out; omega
     obtain ⟨zz1,⟨f1,f2,f3,f4,f5,f6⟩,f7⟩:=id X1
     by_cases hlt : i < m + 5
     ·have hjm : j * 2 + 1 < qs.length:=by have:=HM.out; omega
      obtain ⟨i1,hi1⟩ : ∃ i1 : Nat,i1 = i + 1:=⟨_,rfl⟩
      obtain ⟨i2,hi2⟩ : ∃ i2 : Nat,i2 = i + 2:=⟨_,rfl⟩
      have cx:=(hb2.cell (p:=⟨b0,j * 2 + 5,none⟩) hb0l).trans (yq (j * 2) (by omega))
      have cy:=(hb2.cell (p:=⟨b0,j * 2 + 1 + 5,none⟩) hb0l).trans (yq (j * 2 + 1) hjm)
      rw [show j * 2 + 5 = i by omega] at cx
      rw [show j * 2 + 1 + 5 = i1 by omega] at cy
      have hstop:=pairsI_stop qs j hjm
      have htake:=pairsI_take qs j ms HP.out hjm
      obtain ⟨x,hx⟩ : ∃ x,qs[j * 2]'(by omega) = x:=⟨_,rfl⟩
      obtain ⟨y,hy⟩ : ∃ y,qs[j * 2 + 1] = y:=⟨_,rfl⟩
      rw [hx] at cx hstop htake
      rw [hy] at cy htake
      have j0 : (0 <= (i : Int)) = True:=eq_true (by omega)
      have j1 : (0 <= (i1 : Int)) = True:=eq_true (by omega)
      have j2 : ((i : Int) < (m : Int) + 5) = True:=eq_true (by omega)
      have j3 : ((i1 : Int) < (m : Int) + 5) = True:=eq_true (by omega)
      have j4 : IntKind.i64.wrap ((i : Int) + 1) = (i1 : Int):=by rw [IntKind.wrap_i64] <;> omega
      have j5 : IntKind.i64.wrap ((i : Int) + 2) = (i2 : Int):=by rw [IntKind.wrap_i64] <;> omega
      obtain ⟨zz2,⟨q1,q2,q3,q4,q5,q6⟩,q7⟩:=id Bz
      have hzb : w.heap.size < wr.heap.size:=zz2
      by_cases h1 : x < 1
      ·have HR:=Lib.hid (show q = (De.zero,60) by rw [HE.out]; exact endD_none (hstop (by unfold nodeB; simp; omega)))
       have n1 : (x < 1) = True:=eq_true h1
       clear hstop htake hx hy h1 HP HL hij hi1 hi2 hown hjm
       go_wp2_with fail
       exact bodyPost_ret (res_box_tmp Tryz.results56 rfl rfl (BoxD.put Bz De.zero (.slice none 0 0))) rfl (by rw [HR.out]; exact Gave.zero (by exact bex0))
      have n1 : (x < 1) = False:=eq_false h1
      by_cases h2 : x > 7
      ·have HR:=Lib.hid (show q = (De.zero,60) by rw [HE.out]; exact endD_none (hstop (by unfold nodeB; simp; omega)))
       have n2 : (x > 7) = True:=eq_true h2
       clear hstop htake hx hy h1 h2 HP HL hij hi1 hi2 hown hjm
       go_wp2_with fail
       exact bodyPost_ret (res_box_tmp Tryz.results56 rfl rfl (BoxD.put Bz De.zero (.slice none 0 0))) rfl (by rw [HR.out]; exact Gave.zero (by exact bex0))
      have n2 : (x > 7) = False:=eq_false h2
      have HT:=Lib.hid (htake (by unfold nodeB; simp; omega))
      have HI:=Lib.hid hij
      have HI2:=Lib.hid hi2
      clear hstop htake hx hy h1 h2 HP hij hi1 hi2 hown
      go_wp2_with fail
      have hsz1 : wo.heap.size + 1 <= wr.heap.size:=by have:=X1.1; omega
      refine St.wp_region_mixed (RG (wo.heap.size + 1) wo.heap.size wr ms (x,y)) (fun _ _ => False) (by kernel_rfl) (by kernel_rfl) (by kernel_rfl) ⟨fun _ => rfl,fun h => (by cases h),fun h => (by cases h),fun h => (by cases h)⟩ ?_
      have hO':=HO.out
      obtain ⟨i0,hi,hz0',hz1',hz2'⟩:=info_parts infoM
      have hb0r : b0 < wr.heap.size:=by omega
      have cells : ∀ L u wx,RG (wo.heap.size + 1) wo.heap.size wr ms (x,y) L u wx -> L 13 = false -> wx.cell? ⟨wo.heap.size,4,none⟩ = some (.slice A7 ms.length c7) /\ wx.cell? ⟨b0,i,none⟩ = some (.int .i64 x) /\ wx.cell? ⟨b0,i1,none⟩ = some (.int .i64 y):=by
       intro L u wx hS h13
       cases h12 : L 12 with
       | false => rw [hS.w0 h12]; exact ⟨f5,cx,cy⟩
       | true =>
        rw [hS.w9 h12 h13]
        exact ⟨(World.cell?_alloc_lt wr.drew _ ⟨wo.heap.size,4,none⟩ (by show wo.heap.size < wr.heap.size; omega)).trans f5,(World.cell?_alloc_lt wr.drew _ ⟨b0,i,none⟩ hb0r).trans cx,(World.cell?_alloc_lt wr.drew _ ⟨b0,i1,none⟩ hb0r).trans cy⟩
      iterate 12
       (apply St.mix_give
        ·rfl
        ·intro L u' wx hS hcl hrd hag
         obtain ⟨l1,l2,l3⟩:=cells _ _ _ hS (St.not_yet hcl hrd 40 13 (by kernel_rfl))
         go_simp
         try with_reducible rfl
        ·exact fun L u' wx hS => ⟨hS.w0,hS.w9,hS.wa,hS.wz⟩
        simp only [Act.put,St.pu])
      refine St.mix_free (fun z => z = .slice (some ⟨wr.heap.size,0,none⟩) 1 1) rfl ?_ ?_
      ·intro L u' wx hS hcl hrd hag
       have h13:=St.not_yet hcl hrd 40 13 (by kernel_rfl)
       have h15:=St.not_yet hcl hrd 40 15 (by kernel_rfl)
       obtain rfl:=hS.w0 hrd.1
       refine ⟨_,_,rfl,?_,⟨fun h => (by simp [St.mark] at h),fun _ _ => rfl,fun h => (by rw [show St.mark L 12 13 = L 13 from rfl,h13] at h; cases h),fun h => (by rw [show St.mark L 12 15 = L 15 from rfl,h15] at h; cases h)⟩⟩
       go_simp
       try with_reducible rfl
      rintro _ rfl
      simp only [Act.put,St.pu]
      refine St.mix_free (fun z => ∃ A c,z = .slice A (ms.length + 1) c) rfl ?_ ?_
      ·intro L u' wx hS hcl hrd hag
       have h12:=St.before_ready hcl hrd 40 12 (by kernel_rfl)
       have h15:=St.not_yet hcl hrd 40 15 (by kernel_rfl)
       obtain rfl:=hS.w9 h12 hrd.1
       obtain ⟨v',w',k1,k2,k3,_⟩:=run_append_own (P:=Tryz.prog) (w:=wr.drew.alloc (.cells #[.int .i64 x,.int .i64 y] 70)) (wo.heap.size + 1) 24 24 70 i0 (.agg #[.int .i64 0,.int .i64 0]) 2 16 Tryz.underlying24 hi hz0' hz1' hz2' rfl (by decide)
        (.slice A7 ms.length c7) ms.length (mcells ms) (hO'.alloc (w:=wr.drew) _) ⟨wr.heap.size,0,none⟩ 1 1 [.int .i64 x,.int .i64 y] rfl
        (fun j z hz => by
         match j with
         | 0 => simp at hz; subst hz; exact World.cell?_alloc_new wr.drew _ _ 0
         | 1 => simp at hz; subst hz; exact World.cell?_alloc_new wr.drew _ _ 1
         | j + 2 => simp at hz) (fun z hz => by simp at hz; rcases hz with rfl | rfl <;> rfl) (by unfold maxLen; omega) (by omega) (by simp; omega)
       have k2' : OwnM w' (wo.heap.size + 1) v' (ms ++ [(x,y)]):=by
        show w'.ownsRow _ _ _ _ _ _
        rw [List.length_append,mcells_append]
        exact k2
       have hbe : Below (wo.heap.size + 1) wr w':=(((Below.refl _ wr).drew).alloc hsz1 _).trans ((Below.refl _ _).grown k3 (by simp; omega) (fun q hq => ((hO'.alloc (w:=wr.drew) (.cells #[.int .i64 x,.int .i64 y] 70)).lt q hq).1))
       refine ⟨v',w',?_,run_append2 rfl rfl rfl k1,⟨fun h => (by rw [show St.mark L 13 12 = L 12 from rfl,h12] at h; cases h),fun _ h => (by simp [St.mark] at h),fun _ _ => ⟨hbe,k2'⟩,fun h => (by rw [show St.mark L 13 15 = L 15 from rfl,h15] at h; cases h)⟩⟩
       obtain ⟨A',c',hv'⟩:=(SM.of_own k2').form
       rw [List.length_append] at hv'
       exact ⟨A',c',hv'⟩
      rintro y9 ⟨A9,c9,rfl⟩
      simp only [Act.put,St.pu]
      iterate 1
       (apply St.mix_give
        ·rfl
        ·intro L u' wx hS hcl hrd hag
         skip
         go_simp
         try with_reducible rfl
        ·exact fun L u' wx hS => ⟨hS.w0,hS.w9,hS.wa,hS.wz⟩
        simp only [Act.put,St.pu])
      refine St.mix_skip rfl ?_ ?_
      ·intro L u' wx hS hcl hrd hag
       have h13:=St.before_ready hcl hrd 40 13 (by kernel_rfl)
       have h12:=St.before_ready hcl hrd 40 12 (by kernel_rfl)
       obtain ⟨kb,k2⟩:=hS.wa h13 hrd.1
       have hu : u' 13 = .slice A9 (ms.length + 1) c9:=hag 40 13 (by kernel_rfl)
       have l1:=(kb.cell (p:=⟨wo.heap.size,4,none⟩) (by show wo.heap.size < wo.heap.size + 1; omega)).trans f5
       have l2:=(kb.frozen (p:=⟨wo.heap.size,4,none⟩) (by show wo.heap.size < wo.heap.size + 1; omega)).trans (f7 4)
       refine ⟨wx.setCell ⟨wo.heap.size,4,none⟩ (u' 13),?_,⟨fun h => (by rw [show St.mark L 15 12 = L 12 from rfl,h12] at h; cases h),fun _ h => (by rw [show St.mark L 15 13 = L 13 from rfl,h13] at h; cases h),fun _ h => (by simp [St.mark] at h),fun _ => ⟨wx,⟨kb,k2⟩,rfl⟩⟩⟩
       rw [hu]
       go_simp
       try with_reducible rfl
      simp only [Act.put]
      refine St.mix_last ?_
      intro L wx hS hall
      obtain ⟨w9,⟨kb,k2⟩,hwx⟩:=hS.wz (hall 15 (by decide))
      have k2' : OwnM w9 (wo.heap.size + 1) (.slice A9 (ms.length + 1) c9) (ms ++ [(x,y)]):=k2
      have hwx' : wx = w9.setCell ⟨wo.heap.size,4,none⟩ (.slice A9 (ms.length + 1) c9):=hwx
      have D0 : BoxD w.heap.size De.zero (.slice none 0 0) wx:=by rw [hwx']; exact (Bz.kept (N:=wo.heap.size + 1) (by omega) kb).other (by show wo.heap.size ≠ w.heap.size; omega) _
      have D1 : BoxD wo.heap.size D (.slice A9 (ms.length + 1) c9) wx:=by
       rw [hwx']
       have:=X1.kept (N:=wo.heap.size + 1) (by omega) kb
       obtain ⟨t0,⟨t1,t2,t3,t4,t5,t6⟩,t7⟩:=id this
       exact ⟨by simpa using t0,⟨by simp [go_sem,t1],by simp [go_sem,t2],by simp [go_sem,t3],by simp [go_sem,t4],by simp [go_sem,t5],by simp [go_sem,t6]⟩,fun o => by simp [World.frozen?_setCell,t7]⟩
      have hbn : Below wo.heap.size wo wx:=by rw [hwx']; exact (hb2.trans (kb.mono (by omega))).setCell (p:=⟨wo.heap.size,4,none⟩) (Nat.le_refl _) _
      have hOn : OwnM wx (wo.heap.size + 1) (.slice A9 (ms.length + 1) c9) (ms ++ [(x,y)]):=by rw [hwx']; exact own_set k2' (by show wo.heap.size < wo.heap.size + 1; omega) _
      clear hwx hwx' hS hall kb k2 k2' cells X1 Bz f1 f2 f3 f4 f5 f6 f7 q1 q2 q3 q4 q5 q6 q7 hO' cx cy
      have HON:=Lib.hid hOn
      clear hOn
      go_wp2_with fail
      go_roundw
      case rel => exact ⟨j + 1,i2,ms ++ [(x,y)],_,by have:=HM.out; omega,by have:=HI.out; have:=HI2.out; omega,rfl,HT,Lib.hid (by have:=HL.out; simp; omega),D1,by simpa using HON.out,D0,hbn⟩
      case measure => have:=HI2.out; simp [intOf]; omega
     ·have hjm : j * 2 = m:=by omega
      have hall : pairsI qs = some ms:=by rw [<- HP.out,hjm,HM.out,List.take_length]
      have hqe : q = okD ⟨a,f,t,g,ms,nx⟩:=by rw [HE.out]; exact endD_some hall
      subst hD
      obtain ⟨s',hs',ha'⟩:=okV_spec ⟨a,f,t,g,ms,nx⟩ (.slice A7 ms.length c7)
      have cc:=fun wx h => right_any ⟨a,f,t,g,ms,nx⟩ (.slice A7 ms.length c7) wx h (by simp only; omega) hfs hts
      rw [hs'] at cc
      rw [<- hqe] at cc ha'
      have ha : ArgM wr (.slice A7 ms.length c7) ms:=ArgM.of_own HO.out
      obtain ⟨A2,c2,rfl⟩:=(ha' _ ha).form
      have HA:=Lib.hid ha'
      have l0 : ((i : Int) < (m : Int) + 5) = False:=eq_false (by omega)
      simp only at cc f1 f2 f3 f4 f6
      obtain ⟨zz2,⟨q1,q2,q3,q4,q5,q6⟩,q7⟩:=id Bz
      clear hs' ha' ha hqe hall hjm HP HL hown hij hj hlt HE
      go_wp2_with fail
      refine (cc _ (SM.of_own HO.out)).mono ?_
      rintro e w5 ⟨rfl,b5⟩
      have Gz:=Bz.keep b5
      have hO5:=Lib.hid (own_keep HO.out b5)
      have hb5 : Below w.heap.size w w5:=hb2w.trans (b5.mono hb2w.size)
      have hz5:=b5.size
      clear q1 q2 q3 q4 q5 q6 q7 zz2 b5 cc
      obtain ⟨p_0,⟨p_1,p_2,p_3,p_4,p_5,p_6⟩,p_7⟩:=id Gz
      go_wp2_with fail
      refine bodyPost_ret (res_box_tmp Tryz.results56 rfl rfl (BoxD.put Gz q.1 (.slice A2 q.1.ms.length c2))) rfl ⟨_,rfl,HA.out _ (ArgM.of_own (base:=wo.heap.size + 1) ?_),(by exact bex0)⟩
      show OwnM _ _ _ ms
      have:=hO5.out
      (repeat' (first | with_reducible assumption | with_reducible refine own_set ?_ ?_ _ | with_reducible refine own_alloc ?_ _ | with_reducible refine own_drew ?_ | omega | (simp; done) | (simp; omega)))
end Go.Proofs.YthcmnkmfhgoddaaGreatDoor.Ds

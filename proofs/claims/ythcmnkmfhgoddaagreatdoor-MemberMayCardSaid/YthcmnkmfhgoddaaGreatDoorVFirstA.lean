/-
  The document's Num and Int,and knot.Int,at every number and every text. Condition: lengths below 2^47; the library's variables hold what their types allow.
  knot.First at every text. Condition: lengths below 2^47; the library's variables hold what their types allow.
  THE PLAIN MATHEMATICS OF PACKAGE knot,its fourth part,of no program: a strand at the front,read digit by digit. No condition.
  The document's First at every text. Condition: lengths below 2^47.
-/
import Derived.Test.YthcmnkmfhgoddaaGreatDoorVBaseA
import Derived.Lib.ParseIntBTie
import Derived.Test.YthcmnkmfhgoddaaGreatDoorVOrdA
import Derived.Lib.IndexMore
namespace Go.Proofs.YthcmnkmfhgoddaaGreatDoor
open Go.RowKit M
attribute [local go_sem ↓] Go.wp_at_zero Go.wp_at_succ
theorem slice_dec (d : Nat) (h : d < 10) (w : World) : (Instr.slice 9 (.string ⟨#[48,49,50,51,52,53,54,55,56,57]⟩) (some (.int .u64 (d : Int))) (some (.int .u64 ((d : Int) + 1))) none).run Tryz.prog w = .ok (str (dig d)) w:=by
 rw [dig_lt h]
 have h16 : d = 0 \/ d = 1 \/ d = 2 \/ d = 3 \/ d = 4 \/ d = 5 \/ d = 6 \/ d = 7 \/ d = 8 \/ d = 9:=by omega
 rcases h16 with rfl | rfl | rfl | rfl | rfl | rfl | rfl | rfl | rfl | rfl
 all_goals (show _ = _; kernel_rfl)
set_option maxHeartbeats 1000000 in
set_option maxRecDepth 100000 in
theorem rdigits_any (n : Nat) (w : World) (hn : n <= 18446744073709551615) :
  Calls Tryz.prog 120 #[.int .u64 (n : Int)] w fun e w' => e = .returned (str (dig n)) /\ w = w':=by
 induction n using Nat.strongRecOn with
 | _ n ih =>
  by_cases h : n < 10
  ·have hsl:=slice_dec n h
   go_enter Tryz.func120,Tryz.ntmps120
   go_wp2
   go_ret
   exact ⟨rfl,rfl⟩
  ·have h1:=ih (n / 10) (by omega) (by omega)
   have h2:=ih (n % 10) (by omega) (by omega)
   have hl1:=dig_length 19 (n / 10) (by omega)
   have hl2:=dig_length 19 (n % 10) (by omega)
   have he : dig n = dig (n / 10) ++ dig (n % 10):=by rw [dig_ge h,dig_lt (n:=n % 10) (by omega)]
   obtain ⟨q,hq⟩ : ∃ q,q = n / 10:=⟨_,rfl⟩
   obtain ⟨r,hr⟩ : ∃ r,r = n % 10:=⟨_,rfl⟩
   rw [<- hq] at h1 hl1 he
   rw [<- hr] at h2 hl2 he
   have hq' : (n : Int) / 10 = (q : Int):=by omega
   have hr' : (n : Int) % 10 = (r : Int):=by omega
   have HE:=Lib.hid he
   clear hq hr ih he
   go_enter Tryz.func120,Tryz.ntmps120
   go_wp2_with fail
   refine h1.mono ?_
   rintro e w' ⟨rfl,rfl⟩
   go_wp2_with fail
   refine h2.mono ?_
   rintro e w' ⟨rfl,rfl⟩
   go_wp2_with fail
   go_ret
   refine ⟨ret_string (a:=(⟨(dig q).toArray⟩ : ByteArray) ++ (⟨(dig r).toArray⟩ : ByteArray)) (b:=⟨(dig n).toArray⟩) ?_,rfl⟩
   rw [str_app,HE.out]
theorem not64 (x : Int) (h1 : -9223372036854775808 <= x) (h2 : x <= 9223372036854775807) : bits .xor .i64 (-1) x = -x - 1:=by
 show IntKind.i64.wrap ((BitVec.ofInt 64 (-1) ^^^ BitVec.ofInt 64 x).toNat : Int) = _
 rw [show BitVec.ofInt 64 (-1) = BitVec.allOnes 64 by decide,BitVec.allOnes_xor,BitVec.toNat_not,BitVec.toNat_ofInt,IntKind.wrap_i64]
 omega
set_option maxHeartbeats 1000000 in
set_option maxRecDepth 100000 in
theorem rnum_any (n : Int) (w : World) (hn : inR n) :
  Calls Tryz.prog 58 #[.int .i64 n] w fun e w' => e = .returned (str (numT n)) /\ w = w':=by
 unfold inR at hn
 by_cases h : n < 0
 ·obtain ⟨m,rfl⟩ : ∃ m : Nat,n = -(m : Int):=⟨n.natAbs,by omega⟩
  have h1:=fun w => rdigits_any m w (by omega)
  have hl:=dig_length 19 m (by omega)
  have he : numT (-(m : Int)) = 45 :: dig m:=by unfold numT; rw [if_pos h,Int.natAbs_neg,Int.natAbs_natCast]
  have HE:=Lib.hid he
  clear he
  have hwr : IntKind.u64.wrap (IntKind.u64.wrap (bits .xor .i64 (-1) (-(m : Int))) + 1) = (m : Int):=by
   rw [not64 _ (by omega) (by omega),IntKind.wrap_u64,IntKind.wrap_u64]; omega
  go_enter Tryz.func58,Tryz.ntmps58
  go_wp2_with fail
  refine (h1 _).mono ?_
  rintro e w' ⟨rfl,rfl⟩
  go_wp2_with fail
  go_ret
  refine ⟨ret_string (a:=(⟨#[45]⟩ : ByteArray) ++ (⟨(dig m).toArray⟩ : ByteArray)) (b:=⟨(numT (-(m : Int))).toArray⟩) ?_,rfl⟩
  rw [str_app,HE.out]; rfl
 ·obtain ⟨m,rfl⟩ : ∃ m : Nat,n = (m : Int):=⟨n.natAbs,by omega⟩
  have h1:=fun w => rdigits_any m w (by omega)
  have he:=numT_nat m
  have HE:=Lib.hid he
  clear he
  go_enter Tryz.func58,Tryz.ntmps58
  go_wp2_with fail
  refine (h1 _).mono ?_
  rintro e w' ⟨rfl,rfl⟩
  go_wp2_with fail
  go_ret
  exact ⟨ret_str (a:=dig m) HE.out.symm,rfl⟩
def intR : Option Int -> Value
 | some n => .tuple #[.int .i64 n,.int .i64 0]
 | none => .tuple #[.int .i64 0,.int .i64 10]
theorem intT_long (s : ByteArray) (h : 20 < s.size) : intT s.data.toList = none :=
 intT_none fun n hn e => by
  have:=numT_length hn
  rw [e] at this
  simp at this
  omega
theorem intT_of_parse {s : ByteArray} {v : Int} (hp : Lib.parseIntB 64 s.data.toList = .ok v) (hne : numT v ≠ s.data.toList) : intT s.data.toList = none :=
 intT_none fun n hn e => by
  rw [<- e,parse_numT hn] at hp
  injection hp with hp
  exact hne (by rw [<- hp,e])
theorem intT_of_fail {s : ByteArray} (hp : ∀ v,Lib.parseIntB 64 s.data.toList ≠ .ok v) : intT s.data.toList = none :=
 intT_none fun n hn e => hp n (by rw [<- e,parse_numT hn])
set_option maxHeartbeats 1000000 in
set_option maxRecDepth 100000 in
theorem int_any (s : ByteArray) (w : World) (hs : s.size <= 140737488355328) (hg : Good w) :
  Calls Tryz.prog 166 #[.string s] w fun e w' => e = .returned (intR (intT s.data.toList)) /\ Below w.heap.size w w':=by
 by_cases h20 : 20 < s.size
 ·rw [intT_long s h20]
  have hi : (20 : Int) < (s.size : Int):=by omega
  go_enter Tryz.func166,Tryz.ntmps166
  go_wp2_with fail
  go_ret2
  exact ⟨rfl,Below.refl _ w⟩
 ·have hi : ¬ (20 : Int) < (s.size : Int):=by omega
  have hi' : (s.size : Int) <= 20:=by omega
  cases hp : Lib.parseIntB 64 s.data.toList with
  | ok v =>
   have hb:=Lib.parseIntB_bounds hp
   have hin : inR v:=by unfold inR; omega
   have hc : Calls Tryz.prog 230 #[.string s,.int .i64 10,.int .i64 64] w fun e w' => e = .returned (.tuple #[.int .i64 v,.nilIface]) /\ Below w.heap.size w w' :=
    (Tryz.strconv_ParseInt_10_at64_ok s (by omega) v hp w).mono fun e w' ⟨h1,h2⟩ => ⟨h1,by
     rcases h2 with rfl | ⟨t,rfl⟩
     ·exact Below.refl _ _
     ·exact Lib.bytesWorld_below w 5 t⟩
   have hnum:=fun w => num_any v w hin
   by_cases he : numT v = s.data.toList
   ·rw [intT_some hin he]
    have hq:=beq_yes he
    clear he hb hp hin
    go_enter Tryz.func166,Tryz.ntmps166
    go_wp2_with fail
    refine hc.mono ?_
    rintro e w1 ⟨rfl,hb1⟩
    go_wp2_with fail
    refine (hnum _).mono ?_
    rintro e w2 ⟨rfl,hb2⟩
    go_wp2_with fail
    go_ret2
    exact ⟨rfl,hb1.trans (hb2.mono hb1.size)⟩
   ·rw [intT_of_parse hp he]
    have hq:=beq_no he
    clear he hb hp hin
    go_enter Tryz.func166,Tryz.ntmps166
    go_wp2_with fail
    refine hc.mono ?_
    rintro e w1 ⟨rfl,hb1⟩
    go_wp2_with fail
    refine (hnum _).mono ?_
    rintro e w2 ⟨rfl,hb2⟩
    go_wp2_with fail
    go_ret2
    exact ⟨rfl,hb1.trans (hb2.mono hb1.size)⟩
  | range =>
   rw [intT_of_fail (by rw [hp]; intro v h; cases h)]
   obtain ⟨_,_,⟨ev,hv,hev⟩,_⟩:=hg
   have hc:=Tryz.strconv_ParseInt_10_at64_range s (by omega) hp ev w hv hev
   clear hp hv hev
   go_enter Tryz.func166,Tryz.ntmps166
   go_wp2_with fail
   refine hc.mono ?_
   rintro e w' ⟨N,rfl,hN,hw',hbel⟩
   clear hw'
   go_wp2_with fail
   go_ret2
   exact ⟨rfl,hbel⟩
  | _ =>
   rw [intT_of_fail (by rw [hp]; intro v h; cases h)]
   obtain ⟨_,⟨ev,hv,hev⟩,_,_⟩:=hg
   have hc:=Tryz.strconv_ParseInt_10_at64_fails s (by omega) (by rw [hp]; intro v h; cases h) (by rw [hp]; intro h; cases h) ev w hv hev
   clear hp hv hev
   go_enter Tryz.func166,Tryz.ntmps166
   go_wp2_with fail
   refine hc.mono ?_
   rintro e w' ⟨N,rfl,hN,hw',hbel⟩
   clear hw'
   go_wp2_with fail
   go_ret2
   exact ⟨rfl,hbel⟩
end Go.Proofs.YthcmnkmfhgoddaaGreatDoor

namespace Go.Proofs.YthcmnkmfhgoddaaGreatDoor
open Go.RowKit M
attribute [local go_sem ↓] Go.wp_at_zero Go.wp_at_succ
theorem index_colon : ∀ (p q : Text),(58 : UInt8) ∉ p -> Lib.index (p ++ 58 :: q) [58] = (p.length : Int)
 | [],q,_ => by simp [Lib.index,List.isPrefixOf]
 | c :: p,q,h => by
  have hc : c ≠ 58:=fun e => h (by simp [e])
  have ih:=index_colon p q (fun m => h (by simp [m]))
  simp only [List.cons_append,Lib.index]
  rw [if_neg (by simp [List.isPrefixOf]; exact fun e => hc e.symm),ih,if_neg (by simp)]
  rfl
theorem index_no_colon : ∀ (l : Text),(58 : UInt8) ∉ l -> Lib.index l [58] = -1
 | [],_ => rfl
 | c :: l,h => by
  have hc : c ≠ 58:=fun e => h (by simp [e])
  have ih:=index_no_colon l (fun m => h (by simp [m]))
  simp only [Lib.index]
  rw [if_neg (by simp [List.isPrefixOf]; exact fun e => hc e.symm),ih]
  rfl
theorem cut_colon (p q : Text) (h : (58 : UInt8) ∉ p) : Lib.cut (p ++ 58 :: q) [58] = (p,q,true):=by
 unfold Lib.cut
 rw [index_colon p q h,if_pos (by omega)]
 simp
theorem cut_no_colon (l : Text) (h : (58 : UInt8) ∉ l) : Lib.cut l [58] = (l,[],false):=by
 unfold Lib.cut
 rw [index_no_colon l h,if_neg (by omega)]
theorem has_colon : ∀ (l : Text),(58 : UInt8) ∈ l -> ∃ p q,l = p ++ 58 :: q /\ (58 : UInt8) ∉ p
 | [],h => by cases h
 | c :: l,h => by
  by_cases hc : c = 58
  ·exact ⟨[],l,by rw [hc]; rfl,by simp⟩
  ·obtain ⟨p,q,e,hp⟩:=has_colon l (by simpa [Ne.symm hc] using h)
   exact ⟨c :: p,q,by rw [e]; rfl,by simp [hp,Ne.symm hc]⟩
theorem str_of {x : ByteArray} {l : Text} (h : x.data.toList = l) : str l = .string x:=by
 rw [<- h]
theorem below_of_drewN {B n : Nat} {w w1 : World} (h : Below B (w.drewN n) w1) : Below B w w1:=⟨h.os,h.tape,h.output,h.size,h.block⟩
def firstR (s : ByteArray) : Option (Text × Text) -> Value
 | some (x,r) => .tuple #[str x,str r,.int .i64 0]
 | none => .tuple #[str [],.string s,.int .i64 10]
set_option maxHeartbeats 2000000 in
set_option maxRecDepth 100000 in
theorem first_any (s : ByteArray) (w : World) (hs : s.size <= 140737488355328) (hg : Good w) :
  Calls Tryz.prog 165 #[.string s] w fun e w' => e = .returned (firstR s (firstT s.data.toList)) /\ Below w.heap.size w w':=by
 obtain ⟨m,hmin⟩ : ∃ m : Nat,min (s.size : Int) 1048576 = (m : Int):=⟨(min (s.size : Int) 1048576).toNat,by omega⟩
 have hm1 : m <= s.size:=by omega
 obtain ⟨t,ht⟩ : ∃ t,s.extract 0 m = t:=⟨_,rfl⟩
 have htd : t.data.toList = s.data.toList.take 1048576:=by
  rw [<- ht,take_data]
  rcases Nat.le_total s.size 1048576 with h | h
  ·rw [List.take_of_length_le (by simp; omega),List.take_of_length_le (by simp; omega)]
  ·rw [show m = 1048576 by omega]
 have hts : t.size <= 1048576:=by rw [<- ht,ByteArray.size_extract]; omega
 obtain ⟨mm,hmm⟩:=hg.most
 have hc0:=Tryz.strings_Cut t ⟨#[58]⟩ mm w (by omega) hmm
 rw [show (⟨#[58]⟩ : ByteArray).data.toList = [58] from rfl] at hc0
 clear hmm
 by_cases hcol : (58 : UInt8) ∈ t.data.toList
 ·obtain ⟨p,q,hpq,hp⟩:=has_colon _ hcol
  rw [hpq,cut_colon p q hp] at hc0
  simp only [] at hc0
  rw [hpq] at htd
  obtain ⟨P,hP⟩ : ∃ P : ByteArray,⟨p.toArray⟩ = P:=⟨_,rfl⟩
  obtain ⟨Q,hQ⟩ : ∃ Q : ByteArray,⟨q.toArray⟩ = Q:=⟨_,rfl⟩
  obtain rfl : P.data.toList = p:=by rw [<- hP]
  obtain rfl : Q.data.toList = q:=by rw [<- hQ]
  have hsz : P.size + Q.size <= 1048576:=by
   have:=congrArg List.length hpq
   simp at this
   omega
  have hint:=fun n => int_any P (w.drewN n) (by omega) (hg.drewN n)
  rw [hP,hQ] at hc0
  clear hcol hpq hP hQ
  cases hi : intT P.data.toList with
  | none =>
   rw [hi] at hint
   rw [first_cut_none htd.symm hp hi]
   clear hi htd hp
   go_enter Tryz.func165,Tryz.ntmps165
   go_wp2_with fail
   refine hc0.mono ?_
   rintro e w1 ⟨rfl,n,rfl⟩
   go_wp2_with fail
   refine (hint n).mono ?_
   rintro e w2 ⟨rfl,hb2⟩
   unfold intR
   go_wp2_with fail
   go_ret3
   exact ⟨rfl,below_of_drewN hb2⟩
  | some v =>
   rw [hi] at hint
   unfold intR at hint
   simp only [] at hint
   have hvr:=(intT_spec hi).1
   unfold inR at hvr
   obtain ⟨hv1,hv2⟩:=hvr
   by_cases hneg : v < 0
   ·rw [first_cut_far htd.symm hp hi (.inl hneg)]
    clear hi htd hp
    go_enter Tryz.func165,Tryz.ntmps165
    go_wp2_with fail
    refine hc0.mono ?_
    rintro e w1 ⟨rfl,n,rfl⟩
    go_wp2_with fail
    refine (hint n).mono ?_
    rintro e w2 ⟨rfl,hb2⟩
    go_wp2_with fail
    go_ret3
    exact ⟨rfl,below_of_drewN hb2⟩
   ·by_cases hfar : (Q.size : Int) <= v
    ·rw [first_cut_far htd.symm hp hi (.inr (by simpa using hfar))]
     clear hi htd hp
     go_enter Tryz.func165,Tryz.ntmps165
     go_wp2_with fail
     refine hc0.mono ?_
     rintro e w1 ⟨rfl,n,rfl⟩
     go_wp2_with fail
     refine (hint n).mono ?_
     rintro e w2 ⟨rfl,hb2⟩
     go_wp2_with fail
     go_ret3
     exact ⟨rfl,below_of_drewN hb2⟩
    ·obtain ⟨k,rfl⟩ : ∃ k : Nat,v = (k : Int):=⟨v.toNat,by omega⟩
     have hkq : k < Q.size:=by omega
     have hkl : k < Q.data.toList.length:=by simpa using hkq
     by_cases h44 : (Q[k]'hkq).toNat = 44
     ·have hget : Q.data.toList[k]? = some 44:=by
       rw [List.getElem?_eq_getElem hkl]
       exact congrArg some (UInt8.toNat_inj.1 h44)
      obtain ⟨hf,hle⟩:=first_cut_some htd.symm hi hkl hget
      have hb1 : (((Q[k]'hkq).toNat : Int) != 44) = false:=by rw [h44]; rfl
      obtain ⟨E,hE⟩ : ∃ E : Nat,E = P.size + 1 + k + 1:=⟨_,rfl⟩
      rw [show P.data.toList.length = P.size by simp,<- hE] at hf hle
      rw [show s.data.toList.length = s.size by simp] at hle
      have hfr : firstR s (firstT s.data.toList) = .tuple #[.string (Q.extract 0 k),.string (s.extract E s.size),.int .i64 0]:=by
       rw [hf]
       show Value.tuple #[str (Q.data.toList.take k),str (s.data.toList.drop E),.int .i64 0] = _
       rw [str_of (take_data Q k),str_of (drop_data s E)]
      rw [hfr]
      have hEi : (P.size : Int) + 1 + (k : Int) + 1 = (E : Int):=by omega
      have hE0 : (0 : Int) <= (E : Int):=by omega
      have hE1 : (E : Int) <= (s.size : Int):=by omega
      have hk0 : (0 : Int) <= (k : Int):=by omega
      have hk1 : (k : Int) <= (Q.size : Int):=by omega
      clear hi htd hp hget hf h44 hE hfr
      go_enter Tryz.func165,Tryz.ntmps165
      go_wp2_with fail
      refine hc0.mono ?_
      rintro e w1 ⟨rfl,n,rfl⟩
      go_wp2_with fail
      refine (hint n).mono ?_
      rintro e w2 ⟨rfl,hb2⟩
      go_wp2_with fail
      go_quiet (fail)
      go_wp2_with fail
      go_ret3
      exact ⟨rfl,below_drewN (below_of_drewN hb2) _⟩
     ·have hget : Q.data.toList[k]? ≠ some 44:=by
       rw [List.getElem?_eq_getElem hkl]
       intro e
       exact h44 (congrArg UInt8.toNat (Option.some.inj e))
      have hb1 : (((Q[k]'hkq).toNat : Int) != 44) = true:=by
       have : ((Q[k]'hkq).toNat : Int) ≠ 44:=by omega
       simpa using this
      rw [first_cut_comma htd.symm hp hi hget]
      clear hi htd hp hget h44
      go_enter Tryz.func165,Tryz.ntmps165
      go_wp2_with fail
      refine hc0.mono ?_
      rintro e w1 ⟨rfl,n,rfl⟩
      go_wp2_with fail
      refine (hint n).mono ?_
      rintro e w2 ⟨rfl,hb2⟩
      go_wp2_with fail
      go_ret3
      exact ⟨rfl,below_of_drewN hb2⟩
 ·rw [cut_no_colon _ hcol] at hc0
  simp only [] at hc0
  rw [htd] at hcol
  rw [first_no_colon hcol]
  rw [show (⟨t.data.toList.toArray⟩ : ByteArray) = t from str_self t] at hc0
  clear hcol htd
  go_enter Tryz.func165,Tryz.ntmps165
  go_wp2_with fail
  refine hc0.mono ?_
  rintro e w1 ⟨rfl,n,rfl⟩
  go_wp2_with fail
  go_ret3
  exact ⟨rfl,below_drewN (Below.refl _ w) n⟩
end Go.Proofs.YthcmnkmfhgoddaaGreatDoor

namespace Go.Proofs.YthcmnkmfhgoddaaGreatDoor.M
structure Front (s : Text) (k n : Nat) : Prop where
 le8 : k <= 8
 le : k <= s.length
 dig : ∀ c ∈ s.take k,isDig c
 val : n = valN (s.take k)
def Stop (s : Text) (k : Nat) : Prop:=k = s.length \/ k = 8 \/ ∃ h : k < s.length,¬ isDig s[k]
theorem valN_lt : ∀ (l : Text),(∀ c ∈ l,isDig c) -> valN l < 10 ^ l.length:=by
 intro l
 induction h : l.length generalizing l with
 | zero => intro _; rw [List.length_eq_zero_iff.1 h]; decide
 | succ n ih =>
  intro hd
  have h0 : l ≠ []:=by intro e; subst e; simp at h
  obtain ⟨r,c,rfl⟩ : ∃ r c,l = r ++ [c]:=⟨l.dropLast,l.getLast h0,(List.dropLast_concat_getLast h0).symm⟩
  have hr : r.length = n:=by simpa using h
  have:=ih r hr (fun c hc => hd c (by simp [hc]))
  have hc:=hd c (by simp)
  unfold isDig at hc
  rw [valN_snoc,Nat.pow_succ]
  omega
theorem Front.lt {s : Text} {k n : Nat} (h : Front s k n) : n < 100000000:=by
 have h1:=valN_lt _ h.dig
 rw [<- h.val,List.length_take,Nat.min_eq_left h.le] at h1
 have h2 : 10 ^ k <= 10 ^ 8:=Nat.pow_le_pow_right (by omega) h.le8
 omega
theorem Front.start (s : Text) : Front s 0 0:=⟨by omega,by omega,by simp,by simp [valN]⟩
theorem Front.step {s : Text} {k n : Nat} (h : Front s k n) (h8 : k < 8) (hk : k < s.length) (hd : isDig s[k]) : Front s (k + 1) (10 * n + (s[k].toNat - 48)):=by
 have e : s.take (k + 1) = s.take k ++ [s[k]]:=List.take_succ_eq_append_getElem hk
 refine ⟨by omega,by omega,?_,?_⟩
 ·intro c hc
  rw [e,List.mem_append] at hc
  rcases hc with hc | hc
  ·exact h.dig c hc
  ·simp at hc; subst hc; exact hd
 ·rw [e,valN_snoc,<- h.val]
theorem front_key {s : Text} {k n : Nat} (h : Front s k n) (hs : Stop s k) {x r : Text} (e : s = strand x ++ r) (hl : (strand x).length <= 1048576) :
  0 < k /\ k < s.length /\ s[k]? = some 58 /\ ¬ (1 < k /\ s[0]? = some 48) /\ k + n + 2 <= s.length /\ k + n + 2 <= 1048576 /\ s[k + 1 + n]? = some 44:=by
 have hx:=strand_small hl
 have e2:=e
 rw [strand_app,numT_nat] at e2
 have hD : (dig x.length).length <= 7:=dig_length 6 _ (by omega)
 have hD0:=dig_pos x.length
 have hat : ∀ i (hi : i < (dig x.length).length),s[i]? = some (dig x.length)[i]:=by
  intro i hi; rw [e2,List.getElem?_append_left hi,List.getElem?_eq_getElem hi]
 have hcol : s[(dig x.length).length]? = some 58:=by rw [e2]; simp
 have hlen : s.length = (dig x.length).length + 1 + x.length + 1 + r.length:=by rw [e2]; simp; omega
 have hk : k = (dig x.length).length:=by
  rcases Nat.lt_trichotomy k (dig x.length).length with hlt | heq | hgt
  ·exfalso
   rcases hs with hs | hs | ⟨h1,h2⟩
   ·omega
   ·omega
   ·have:=hat k hlt
    rw [List.getElem?_eq_getElem h1] at this
    rw [Option.some.inj this] at h2
    exact h2 (dig_isDig _ _ (List.getElem_mem hlt))
  ·exact heq
  ·exfalso
   have hm : (58 : UInt8) ∈ s.take k:=by
    rw [List.mem_take_iff_getElem]
    refine ⟨(dig x.length).length,by have:=h.le; omega,?_⟩
    have:=hcol
    rw [List.getElem?_eq_getElem (by omega)] at this
    exact Option.some.inj this
   have:=h.dig _ hm
   unfold isDig at this
   exact absurd this.2 (by decide)
 have htk : s.take k = dig x.length:=by rw [e2,hk]; exact List.take_left
 have hn : n = x.length:=by rw [h.val,htk,valN_dig]
 subst hn
 have hst:=strand_length x
 rw [numT_nat] at hst
 refine ⟨by omega,by omega,by rw [hk]; exact hcol,?_,by omega,by omega,?_⟩
 ·rintro ⟨h1,h2⟩
  have h3:=hat 0 hD0
  rw [h2] at h3
  have h4 : (dig x.length).head? = some 48:=by rw [List.head?_eq_getElem?,List.getElem?_eq_getElem hD0,<- Option.some.inj h3]
  have h5:=dig_head _ h4
  rw [h5] at hk
  rw [dig_lt (by omega)] at hk
  simp at hk; omega
 ·have hj : k + 1 + x.length - (dig x.length).length = x.length + 1:=by omega
  rw [e2,List.getElem?_append_right (by omega),hj]
  simp
theorem front_none {s : Text} {k n : Nat} (h : Front s k n) (hs : Stop s k)
  (hc : ¬ (0 < k /\ k < s.length /\ s[k]? = some 58 /\ ¬ (1 < k /\ s[0]? = some 48) /\ k + n + 2 <= s.length /\ k + n + 2 <= 1048576 /\ s[k + 1 + n]? = some 44)) : firstT s = none :=
 first_none fun _ _ e hl => hc (front_key h hs e hl)
theorem front_some {s : Text} {k n : Nat} (h : Front s k n) (h0 : 0 < k) (h58 : s[k]? = some 58) (hz : ¬ (1 < k /\ s[0]? = some 48)) (hl : k + n + 2 <= 1048576) (h44 : s[k + 1 + n]? = some 44) :
  firstT s = some ((s.drop (k + 1)).take n,s.drop (k + 2 + n)):=by
 have hlen : k + 1 + n < s.length:=(List.getElem?_eq_some_iff.1 h44).1
 have hD : dig n = s.take k:=by
  rw [h.val]
  refine dig_valN _ ?_ h.dig ?_
  ·intro e
   have:=congrArg List.length e
   rw [List.length_take,Nat.min_eq_left h.le] at this
   simp at this; omega
  ·rw [List.length_take,Nat.min_eq_left h.le]
   by_cases h1 : k = 1
   ·exact .inl h1
   ·right
    rw [List.head?_take,if_neg (by omega),List.head?_eq_getElem?]
    exact fun e => hz ⟨by omega,e⟩
 have hx : ((s.drop (k + 1)).take n).length = n:=by rw [List.length_take,List.length_drop]; omega
 have e1 : s.drop k = 58 :: s.drop (k + 1):=by
  rw [List.drop_eq_getElem_cons (by omega)]
  rw [List.getElem?_eq_getElem (by omega)] at h58
  rw [Option.some.inj h58]
 have e3 : s.drop (k + 1 + n) = 44 :: s.drop (k + 2 + n):=by
  rw [List.drop_eq_getElem_cons hlen]
  rw [List.getElem?_eq_getElem hlen] at h44
  rw [Option.some.inj h44,show k + 1 + n + 1 = k + 2 + n by omega]
 have e2 : s.drop (k + 1) = (s.drop (k + 1)).take n ++ 44 :: s.drop (k + 2 + n):=by
  have e4 : s.drop (k + 1 + n) = (s.drop (k + 1)).drop n:=by rw [List.drop_drop]
  rw [<- e3,e4,List.take_append_drop]
 have es : s = strand ((s.drop (k + 1)).take n) ++ s.drop (k + 2 + n):=by
  rw [strand_app,hx,numT_nat,hD,<- e2,<- e1,List.take_append_drop]
 refine first_some es ?_
 rw [strand_length,hx,numT_nat,hD,List.length_take,Nat.min_eq_left h.le]
 omega
end Go.Proofs.YthcmnkmfhgoddaaGreatDoor.M

namespace Go.Proofs.YthcmnkmfhgoddaaGreatDoor
open Go.RowKit M
attribute [local go_sem ↓] Go.wp_at_zero Go.wp_at_succ
set_option maxHeartbeats 20000000 in
set_option maxRecDepth 100000 in
theorem rfirst_any (s : ByteArray) (w : World) (hs : s.size <= 140737488355328) :
  Calls Tryz.prog 176 #[.string s] w fun e w' => e = .returned (firstR s (firstT s.data.toList)) /\ Below w.heap.size w w':=by
 go_enter Tryz.func176,Tryz.ntmps176
 go_wp2_with fail
 go_loop [5,6] (fun vn vk => ∃ (k n : Nat),k <= 8 /\ k <= s.size /\ n < 100000000 /\ vk = .int .i64 (k : Int) /\ vn = .int .i64 (n : Int) /\ Hid (Front s.data.toList k n)) (fun _ vk => 8 - (intOf vk).toNat)
 case atStart => exact ⟨0,0,by omega,by omega,by omega,rfl,rfl,Front.start _⟩
 case round =>
  obtain ⟨k,n,hk8,hks,hn,rfl,rfl,hF⟩:=hrel
  by_cases hlt : k < s.size
  ·have hkl : k < s.data.toList.length:=by simpa using hlt
   have hget : s.data.toList[k] = s[k]'hlt:=rfl
   obtain ⟨c,hc⟩ : ∃ c : Int,((s[k]'hlt).toNat : Int) = c:=⟨_,rfl⟩
   have hc0 : 0 <= c:=by omega
   have hc1 : c <= 255:=by have:=UInt8.toNat_lt (s[k]'hlt); omega
   by_cases h8 : k < 8
   ·by_cases hd : 48 <= c /\ c <= 57
    ·have hnew:=hF.out.step h8 hkl (by rw [hget]; unfold isDig; omega)
     have hnl:=hnew.lt
     rw [hget] at hnew hnl
     obtain ⟨n',hn'⟩ : ∃ n' : Nat,n' = 10 * n + ((s[k]'hlt).toNat - 48):=⟨_,rfl⟩
     rw [<- hn'] at hnew hnl
     have hni : 10 * (n : Int) + (c - 48) = (n' : Int):=by omega
     have HN:=Lib.hid hnew
     obtain ⟨hd1,hd2⟩:=hd
     clear hnew hn' hF hget
     go_wp2_with fail
     go_round
     case rel => exact ⟨k + 1,n',by omega,by omega,by omega,by go_num,rfl,HN.out⟩
     case measure => simp [intOf]; omega
    ·have hS : Stop s.data.toList k:=.inr (.inr ⟨hkl,by rw [hget]; unfold isDig; omega⟩)
     by_cases h48 : c < 48
     ·skip
      have h58 : c ≠ 58:=by omega
      have h58b : (c != 58) = true:=by simpa using h58
      by_cases hk0 : k = 0
      ·have hk0b : ((k : Int) == 0) = true:=by rw [hk0]; rfl
       have HR:=Lib.hid (front_none hF.out hS (by rintro ⟨_,_,h3,_⟩; rw [List.getElem?_eq_getElem hkl,hget] at h3; have h3 : (s[k]'hlt).toNat = 58:=congrArg UInt8.toNat (Option.some.inj h3); exact h58 (by rw [<- hc,h3]; rfl)))
       clear hF hS hget hk0
       go_wp2_with fail
       go_ret3
       exact ⟨by rw [HR.out]; rfl,Below.refl _ w⟩
      ·skip
       have hk0b : ((k : Int) == 0) = false:=by
        have : (k : Int) ≠ 0:=by omega
        simpa using this
       have hkne : ((k : Int) == (s.size : Int)) = false:=by
        have : (k : Int) ≠ (s.size : Int):=by omega
        simpa using this
       have HR:=Lib.hid (front_none hF.out hS (by rintro ⟨_,_,h3,_⟩; rw [List.getElem?_eq_getElem hkl,hget] at h3; have h3 : (s[k]'hlt).toNat = 58:=congrArg UInt8.toNat (Option.some.inj h3); exact h58 (by rw [<- hc,h3]; rfl)))
       clear hF hS hget
       go_wp2_with fail
       go_ret3
       exact ⟨by rw [HR.out]; rfl,Below.refl _ w⟩
     ·have h57 : 57 < c:=by omega
      by_cases h58 : c = 58
      ·have h58b : (c != 58) = false:=by rw [h58]; rfl
       have hg58 : s.data.toList[k]? = some 58:=by
        rw [List.getElem?_eq_getElem hkl,hget]
        exact congrArg some (UInt8.toNat_inj.1 (by show (s[k]'hlt).toNat = 58; omega))
       by_cases hk0 : k = 0
       ·have hk0b : ((k : Int) == 0) = true:=by rw [hk0]; rfl
        have HR:=Lib.hid (front_none hF.out hS (by rintro ⟨h1,_⟩; omega))
        clear hF hS hget hg58 hk0 h58 hd
        go_wp2_with fail
        go_ret3
        exact ⟨by rw [HR.out]; rfl,Below.refl _ w⟩
       ·have hk1 : 1 <= k:=by omega
        have hk0b : ((k : Int) == 0) = false:=by
         have : (k : Int) ≠ 0:=by omega
         simpa using this
        have hkne : ((k : Int) == (s.size : Int)) = false:=by
         have : (k : Int) ≠ (s.size : Int):=by omega
         simpa using this
        obtain ⟨z,hz⟩ : ∃ z : Int,((s[0]'(by omega)).toNat : Int) = z:=⟨_,rfl⟩
        have hl0 : 0 < s.data.toList.length:=by omega
        have hz0 : s.data.toList[0]? = some 48 ↔ z = 48:=by
         rw [List.getElem?_eq_getElem hl0,show s.data.toList[0] = s[0]'(by omega) from rfl]
         constructor
         ·intro e
          have e : (s[0]'(by omega)).toNat = 48:=congrArg UInt8.toNat (Option.some.inj e)
          rw [<- hz,e]; rfl
         ·intro e
          exact congrArg some (UInt8.toNat_inj.1 (by show (s[0]'_).toNat = 48; omega))
        by_cases hlead : 1 < k /\ z = 48
        ·obtain ⟨hla,hlb⟩:=hlead
         have hzb : (z == 48) = true:=by rw [hlb]; rfl
         have hkk : (1 : Int) < (k : Int):=by omega
         have HR:=Lib.hid (front_none hF.out hS (by rintro ⟨_,_,_,h4,_⟩; exact h4 ⟨hla,hz0.2 hlb⟩))
         clear hF hS hget hg58 hz0 h58 hlb hd
         go_wp2_with fail
         go_ret3
         exact ⟨by rw [HR.out]; rfl,Below.refl _ w⟩
        ·have hnl : ¬ (1 < k /\ s.data.toList[0]? = some 48):=by rw [hz0]; exact hlead
         by_cases hk2 : 1 < k
         ·have hzne : z ≠ 48:=fun e => hlead ⟨hk2,e⟩
          have hzb : (z == 48) = false:=by simpa using hzne
          have hkk : (1 : Int) < (k : Int):=by omega
          by_cases hfar : (s.size : Int) - (k : Int) - 2 < (n : Int)
          ·have HR:=Lib.hid (front_none hF.out hS (by rintro ⟨_,_,_,_,h5,_⟩; simp at h5; omega))
           clear hF hS hget hg58 hz0 hnl hlead h58 hd
           go_wp2_with fail
           go_ret3
           exact ⟨by rw [HR.out]; rfl,Below.refl _ w⟩
          ·by_cases hmax : 1048576 - (k : Int) - 2 < (n : Int)
           ·have HR:=Lib.hid (front_none hF.out hS (by rintro ⟨_,_,_,_,_,h6,_⟩; omega))
            clear hF hS hget hg58 hz0 hnl hlead h58 hd
            go_wp2_with fail
            go_ret3
            exact ⟨by rw [HR.out]; rfl,Below.refl _ w⟩
           ·obtain ⟨J,hJ⟩ : ∃ J : Nat,J = k + 1 + n:=⟨_,rfl⟩
            have hJi : (k : Int) + 1 + (n : Int) = (J : Int):=by omega
            have hJ2 : J < s.size:=by omega
            have hJl : J < s.data.toList.length:=by simpa using hJ2
            obtain ⟨g,hg⟩ : ∃ g : Int,((s[J]'hJ2).toNat : Int) = g:=⟨_,rfl⟩
            by_cases h44 : g = 44
            ·have h44b : (g != 44) = false:=by rw [h44]; rfl
             have hg44 : s.data.toList[k + 1 + n]? = some 44:=by
              rw [<- hJ,List.getElem?_eq_getElem hJl,show s.data.toList[J] = s[J]'hJ2 from rfl]
              exact congrArg some (UInt8.toNat_inj.1 (by show (s[J]'hJ2).toNat = 44; omega))
             obtain ⟨E,hE⟩ : ∃ E : Nat,E = k + 2 + n:=⟨_,rfl⟩
             have hfr : firstR s (firstT s.data.toList) = .tuple #[.string (s.extract (k + 1) J),.string (s.extract E s.size),.int .i64 0]:=by
              rw [front_some hF.out (by omega) hg58 hnl (by omega) hg44]
              show Value.tuple #[str ((s.data.toList.drop (k + 1)).take n),str (s.data.toList.drop (k + 2 + n)),.int .i64 0] = _
              rw [str_of (x:=s.extract (k + 1) J) (by rw [Lib.extract_data,show J - (k + 1) = n by omega]),<- hE,str_of (drop_data s E)]
             have HFR:=Lib.hid hfr
             have hEi : (k : Int) + 2 + (n : Int) = (E : Int):=by omega
             have hE0 : (0 : Int) <= (E : Int):=by omega
             have hE1 : (E : Int) <= (s.size : Int):=by omega
             have hJ3 : (k : Int) + 1 <= (J : Int):=by omega
             have hJ4 : (J : Int) <= (s.size : Int):=by omega
             have hk3 : (0 : Int) <= (k : Int) + 1:=by omega
             clear hF hS hget hg58 hfr hg44 hE hJ hz0 hnl hlead h44 h58 hd
             go_wp2_with fail
             go_quiet (fail)
             go_wp2_with fail
             go_ret3
             exact ⟨by rw [HFR.out]; rfl,below_drewN (Below.refl _ w) _⟩
            ·have h44b : (g != 44) = true:=by simpa using h44
             have hg44 : s.data.toList[k + 1 + n]? ≠ some 44:=by
              rw [<- hJ,List.getElem?_eq_getElem hJl,show s.data.toList[J] = s[J]'hJ2 from rfl]
              intro e
              have e : (s[J]'hJ2).toNat = 44:=congrArg UInt8.toNat (Option.some.inj e)
              exact h44 (by rw [<- hg,e]; rfl)
             have HR:=Lib.hid (front_none hF.out hS (by rintro ⟨_,_,_,_,_,_,h7⟩; exact hg44 h7))
             clear hF hS hget hg58 hg44 hz0 hnl hlead hJ h58 hd
             go_wp2_with fail
             go_ret3
             exact ⟨by rw [HR.out]; rfl,Below.refl _ w⟩
         ·have hk1b : ¬ (1 : Int) < (k : Int):=by omega
          by_cases hfar : (s.size : Int) - (k : Int) - 2 < (n : Int)
          ·have HR:=Lib.hid (front_none hF.out hS (by rintro ⟨_,_,_,_,h5,_⟩; simp at h5; omega))
           clear hF hS hget hg58 hz0 hnl hlead h58 hd
           go_wp2_with fail
           go_ret3
           exact ⟨by rw [HR.out]; rfl,Below.refl _ w⟩
          ·by_cases hmax : 1048576 - (k : Int) - 2 < (n : Int)
           ·have HR:=Lib.hid (front_none hF.out hS (by rintro ⟨_,_,_,_,_,h6,_⟩; omega))
            clear hF hS hget hg58 hz0 hnl hlead h58 hd
            go_wp2_with fail
            go_ret3
            exact ⟨by rw [HR.out]; rfl,Below.refl _ w⟩
           ·obtain ⟨J,hJ⟩ : ∃ J : Nat,J = k + 1 + n:=⟨_,rfl⟩
            have hJi : (k : Int) + 1 + (n : Int) = (J : Int):=by omega
            have hJ2 : J < s.size:=by omega
            have hJl : J < s.data.toList.length:=by simpa using hJ2
            obtain ⟨g,hg⟩ : ∃ g : Int,((s[J]'hJ2).toNat : Int) = g:=⟨_,rfl⟩
            by_cases h44 : g = 44
            ·have h44b : (g != 44) = false:=by rw [h44]; rfl
             have hg44 : s.data.toList[k + 1 + n]? = some 44:=by
              rw [<- hJ,List.getElem?_eq_getElem hJl,show s.data.toList[J] = s[J]'hJ2 from rfl]
              exact congrArg some (UInt8.toNat_inj.1 (by show (s[J]'hJ2).toNat = 44; omega))
             obtain ⟨E,hE⟩ : ∃ E : Nat,E = k + 2 + n:=⟨_,rfl⟩
             have hfr : firstR s (firstT s.data.toList) = .tuple #[.string (s.extract (k + 1) J),.string (s.extract E s.size),.int .i64 0]:=by
              rw [front_some hF.out (by omega) hg58 hnl (by omega) hg44]
              show Value.tuple #[str ((s.data.toList.drop (k + 1)).take n),str (s.data.toList.drop (k + 2 + n)),.int .i64 0] = _
              rw [str_of (x:=s.extract (k + 1) J) (by rw [Lib.extract_data,show J - (k + 1) = n by omega]),<- hE,str_of (drop_data s E)]
             have HFR:=Lib.hid hfr
             have hEi : (k : Int) + 2 + (n : Int) = (E : Int):=by omega
             have hE0 : (0 : Int) <= (E : Int):=by omega
             have hE1 : (E : Int) <= (s.size : Int):=by omega
             have hJ3 : (k : Int) + 1 <= (J : Int):=by omega
             have hJ4 : (J : Int) <= (s.size : Int):=by omega
             have hk3 : (0 : Int) <= (k : Int) + 1:=by omega
             clear hF hS hget hg58 hfr hg44 hE hJ hz0 hnl hlead h44 h58 hd
             go_wp2_with fail
             go_quiet (fail)
             go_wp2_with fail
             go_ret3
             exact ⟨by rw [HFR.out]; rfl,below_drewN (Below.refl _ w) _⟩
            ·have h44b : (g != 44) = true:=by simpa using h44
             have hg44 : s.data.toList[k + 1 + n]? ≠ some 44:=by
              rw [<- hJ,List.getElem?_eq_getElem hJl,show s.data.toList[J] = s[J]'hJ2 from rfl]
              intro e
              have e : (s[J]'hJ2).toNat = 44:=congrArg UInt8.toNat (Option.some.inj e)
              exact h44 (by rw [<- hg,e]; rfl)
             have HR:=Lib.hid (front_none hF.out hS (by rintro ⟨_,_,_,_,_,_,h7⟩; exact hg44 h7))
             clear hF hS hget hg58 hg44 hz0 hnl hlead hJ h58 hd
             go_wp2_with fail
             go_ret3
             exact ⟨by rw [HR.out]; rfl,Below.refl _ w⟩
      ·have h58b : (c != 58) = true:=by simpa using h58
       by_cases hk0 : k = 0
       ·have hk0b : ((k : Int) == 0) = true:=by rw [hk0]; rfl
        have HR:=Lib.hid (front_none hF.out hS (by rintro ⟨_,_,h3,_⟩; rw [List.getElem?_eq_getElem hkl,hget] at h3; have h3 : (s[k]'hlt).toNat = 58:=congrArg UInt8.toNat (Option.some.inj h3); exact h58 (by rw [<- hc,h3]; rfl)))
        clear hF hS hget hk0 hd
        go_wp2_with fail
        go_ret3
        exact ⟨by rw [HR.out]; rfl,Below.refl _ w⟩
       ·skip
        have hk0b : ((k : Int) == 0) = false:=by
         have : (k : Int) ≠ 0:=by omega
         simpa using this
        have hkne : ((k : Int) == (s.size : Int)) = false:=by
         have : (k : Int) ≠ (s.size : Int):=by omega
         simpa using this
        have HR:=Lib.hid (front_none hF.out hS (by rintro ⟨_,_,h3,_⟩; rw [List.getElem?_eq_getElem hkl,hget] at h3; have h3 : (s[k]'hlt).toNat = 58:=congrArg UInt8.toNat (Option.some.inj h3); exact h58 (by rw [<- hc,h3]; rfl)))
        clear hF hS hget hd
        go_wp2_with fail
        go_ret3
        exact ⟨by rw [HR.out]; rfl,Below.refl _ w⟩
   ·have hS : Stop s.data.toList k:=.inr (.inl (by omega))
    have h88 : k = 8:=by omega
    have hk8b : ¬ (k : Int) < 8:=by omega
    by_cases h58 : c = 58
    ·have h58b : (c != 58) = false:=by rw [h58]; rfl
     have hg58 : s.data.toList[k]? = some 58:=by
      rw [List.getElem?_eq_getElem hkl,hget]
      exact congrArg some (UInt8.toNat_inj.1 (by show (s[k]'hlt).toNat = 58; omega))
     by_cases hk0 : k = 0
     ·have hk0b : ((k : Int) == 0) = true:=by rw [hk0]; rfl
      have HR:=Lib.hid (front_none hF.out hS (by rintro ⟨h1,_⟩; omega))
      clear hF hS hget hg58 hk0 h58 h88
      go_wp2_with fail
      go_ret3
      exact ⟨by rw [HR.out]; rfl,Below.refl _ w⟩
     ·have hk1 : 1 <= k:=by omega
      have hk0b : ((k : Int) == 0) = false:=by
       have : (k : Int) ≠ 0:=by omega
       simpa using this
      have hkne : ((k : Int) == (s.size : Int)) = false:=by
       have : (k : Int) ≠ (s.size : Int):=by omega
       simpa using this
      obtain ⟨z,hz⟩ : ∃ z : Int,((s[0]'(by omega)).toNat : Int) = z:=⟨_,rfl⟩
      have hl0 : 0 < s.data.toList.length:=by omega
      have hz0 : s.data.toList[0]? = some 48 ↔ z = 48:=by
       rw [List.getElem?_eq_getElem hl0,show s.data.toList[0] = s[0]'(by omega) from rfl]
       constructor
       ·intro e
        have e : (s[0]'(by omega)).toNat = 48:=congrArg UInt8.toNat (Option.some.inj e)
        rw [<- hz,e]; rfl
       ·intro e
        exact congrArg some (UInt8.toNat_inj.1 (by show (s[0]'_).toNat = 48; omega))
      by_cases hlead : 1 < k /\ z = 48
      ·obtain ⟨hla,hlb⟩:=hlead
       have hzb : (z == 48) = true:=by rw [hlb]; rfl
       have hkk : (1 : Int) < (k : Int):=by omega
       have HR:=Lib.hid (front_none hF.out hS (by rintro ⟨_,_,_,h4,_⟩; exact h4 ⟨hla,hz0.2 hlb⟩))
       clear hF hS hget hg58 hz0 h58 hlb h88
       go_wp2_with fail
       go_ret3
       exact ⟨by rw [HR.out]; rfl,Below.refl _ w⟩
      ·have hnl : ¬ (1 < k /\ s.data.toList[0]? = some 48):=by rw [hz0]; exact hlead
       by_cases hk2 : 1 < k
       ·have hzne : z ≠ 48:=fun e => hlead ⟨hk2,e⟩
        have hzb : (z == 48) = false:=by simpa using hzne
        have hkk : (1 : Int) < (k : Int):=by omega
        by_cases hfar : (s.size : Int) - (k : Int) - 2 < (n : Int)
        ·have HR:=Lib.hid (front_none hF.out hS (by rintro ⟨_,_,_,_,h5,_⟩; simp at h5; omega))
         clear hF hS hget hg58 hz0 hnl hlead h58 h88
         go_wp2_with fail
         go_ret3
         exact ⟨by rw [HR.out]; rfl,Below.refl _ w⟩
        ·by_cases hmax : 1048576 - (k : Int) - 2 < (n : Int)
         ·have HR:=Lib.hid (front_none hF.out hS (by rintro ⟨_,_,_,_,_,h6,_⟩; omega))
          clear hF hS hget hg58 hz0 hnl hlead h58 h88
          go_wp2_with fail
          go_ret3
          exact ⟨by rw [HR.out]; rfl,Below.refl _ w⟩
         ·obtain ⟨J,hJ⟩ : ∃ J : Nat,J = k + 1 + n:=⟨_,rfl⟩
          have hJi : (k : Int) + 1 + (n : Int) = (J : Int):=by omega
          have hJ2 : J < s.size:=by omega
          have hJl : J < s.data.toList.length:=by simpa using hJ2
          obtain ⟨g,hg⟩ : ∃ g : Int,((s[J]'hJ2).toNat : Int) = g:=⟨_,rfl⟩
          by_cases h44 : g = 44
          ·have h44b : (g != 44) = false:=by rw [h44]; rfl
           have hg44 : s.data.toList[k + 1 + n]? = some 44:=by
            rw [<- hJ,List.getElem?_eq_getElem hJl,show s.data.toList[J] = s[J]'hJ2 from rfl]
            exact congrArg some (UInt8.toNat_inj.1 (by show (s[J]'hJ2).toNat = 44; omega))
           obtain ⟨E,hE⟩ : ∃ E : Nat,E = k + 2 + n:=⟨_,rfl⟩
           have hfr : firstR s (firstT s.data.toList) = .tuple #[.string (s.extract (k + 1) J),.string (s.extract E s.size),.int .i64 0]:=by
            rw [front_some hF.out (by omega) hg58 hnl (by omega) hg44]
            show Value.tuple #[str ((s.data.toList.drop (k + 1)).take n),str (s.data.toList.drop (k + 2 + n)),.int .i64 0] = _
            rw [str_of (x:=s.extract (k + 1) J) (by rw [Lib.extract_data,show J - (k + 1) = n by omega]),<- hE,str_of (drop_data s E)]
           have HFR:=Lib.hid hfr
           have hEi : (k : Int) + 2 + (n : Int) = (E : Int):=by omega
           have hE0 : (0 : Int) <= (E : Int):=by omega
           have hE1 : (E : Int) <= (s.size : Int):=by omega
           have hJ3 : (k : Int) + 1 <= (J : Int):=by omega
           have hJ4 : (J : Int) <= (s.size : Int):=by omega
           have hk3 : (0 : Int) <= (k : Int) + 1:=by omega
           clear hF hS hget hg58 hfr hg44 hE hJ hz0 hnl hlead h44 h58 h88
           go_wp2_with fail
           go_quiet (fail)
           go_wp2_with fail
           go_ret3
           exact ⟨by rw [HFR.out]; rfl,below_drewN (Below.refl _ w) _⟩
          ·have h44b : (g != 44) = true:=by simpa using h44
           have hg44 : s.data.toList[k + 1 + n]? ≠ some 44:=by
            rw [<- hJ,List.getElem?_eq_getElem hJl,show s.data.toList[J] = s[J]'hJ2 from rfl]
            intro e
            have e : (s[J]'hJ2).toNat = 44:=congrArg UInt8.toNat (Option.some.inj e)
            exact h44 (by rw [<- hg,e]; rfl)
           have HR:=Lib.hid (front_none hF.out hS (by rintro ⟨_,_,_,_,_,_,h7⟩; exact hg44 h7))
           clear hF hS hget hg58 hg44 hz0 hnl hlead hJ h58 h88
           go_wp2_with fail
           go_ret3
           exact ⟨by rw [HR.out]; rfl,Below.refl _ w⟩
       ·have hk1b : ¬ (1 : Int) < (k : Int):=by omega
        by_cases hfar : (s.size : Int) - (k : Int) - 2 < (n : Int)
        ·have HR:=Lib.hid (front_none hF.out hS (by rintro ⟨_,_,_,_,h5,_⟩; simp at h5; omega))
         clear hF hS hget hg58 hz0 hnl hlead h58 h88
         go_wp2_with fail
         go_ret3
         exact ⟨by rw [HR.out]; rfl,Below.refl _ w⟩
        ·by_cases hmax : 1048576 - (k : Int) - 2 < (n : Int)
         ·have HR:=Lib.hid (front_none hF.out hS (by rintro ⟨_,_,_,_,_,h6,_⟩; omega))
          clear hF hS hget hg58 hz0 hnl hlead h58 h88
          go_wp2_with fail
          go_ret3
          exact ⟨by rw [HR.out]; rfl,Below.refl _ w⟩
         ·obtain ⟨J,hJ⟩ : ∃ J : Nat,J = k + 1 + n:=⟨_,rfl⟩
          have hJi : (k : Int) + 1 + (n : Int) = (J : Int):=by omega
          have hJ2 : J < s.size:=by omega
          have hJl : J < s.data.toList.length:=by simpa using hJ2
          obtain ⟨g,hg⟩ : ∃ g : Int,((s[J]'hJ2).toNat : Int) = g:=⟨_,rfl⟩
          by_cases h44 : g = 44
          ·have h44b : (g != 44) = false:=by rw [h44]; rfl
           have hg44 : s.data.toList[k + 1 + n]? = some 44:=by
            rw [<- hJ,List.getElem?_eq_getElem hJl,show s.data.toList[J] = s[J]'hJ2 from rfl]
            exact congrArg some (UInt8.toNat_inj.1 (by show (s[J]'hJ2).toNat = 44; omega))
           obtain ⟨E,hE⟩ : ∃ E : Nat,E = k + 2 + n:=⟨_,rfl⟩
           have hfr : firstR s (firstT s.data.toList) = .tuple #[.string (s.extract (k + 1) J),.string (s.extract E s.size),.int .i64 0]:=by
            rw [front_some hF.out (by omega) hg58 hnl (by omega) hg44]
            show Value.tuple #[str ((s.data.toList.drop (k + 1)).take n),str (s.data.toList.drop (k + 2 + n)),.int .i64 0] = _
            rw [str_of (x:=s.extract (k + 1) J) (by rw [Lib.extract_data,show J - (k + 1) = n by omega]),<- hE,str_of (drop_data s E)]
           have HFR:=Lib.hid hfr
           have hEi : (k : Int) + 2 + (n : Int) = (E : Int):=by omega
           have hE0 : (0 : Int) <= (E : Int):=by omega
           have hE1 : (E : Int) <= (s.size : Int):=by omega
           have hJ3 : (k : Int) + 1 <= (J : Int):=by omega
           have hJ4 : (J : Int) <= (s.size : Int):=by omega
           have hk3 : (0 : Int) <= (k : Int) + 1:=by omega
           clear hF hS hget hg58 hfr hg44 hE hJ hz0 hnl hlead h44 h58 h88
           go_wp2_with fail
           go_quiet (fail)
           go_wp2_with fail
           go_ret3
           exact ⟨by rw [HFR.out]; rfl,below_drewN (Below.refl _ w) _⟩
          ·have h44b : (g != 44) = true:=by simpa using h44
           have hg44 : s.data.toList[k + 1 + n]? ≠ some 44:=by
            rw [<- hJ,List.getElem?_eq_getElem hJl,show s.data.toList[J] = s[J]'hJ2 from rfl]
            intro e
            have e : (s[J]'hJ2).toNat = 44:=congrArg UInt8.toNat (Option.some.inj e)
            exact h44 (by rw [<- hg,e]; rfl)
           have HR:=Lib.hid (front_none hF.out hS (by rintro ⟨_,_,_,_,_,_,h7⟩; exact hg44 h7))
           clear hF hS hget hg58 hg44 hz0 hnl hlead hJ h58 h88
           go_wp2_with fail
           go_ret3
           exact ⟨by rw [HR.out]; rfl,Below.refl _ w⟩
    ·have h58b : (c != 58) = true:=by simpa using h58
     by_cases hk0 : k = 0
     ·have hk0b : ((k : Int) == 0) = true:=by rw [hk0]; rfl
      have HR:=Lib.hid (front_none hF.out hS (by rintro ⟨_,_,h3,_⟩; rw [List.getElem?_eq_getElem hkl,hget] at h3; have h3 : (s[k]'hlt).toNat = 58:=congrArg UInt8.toNat (Option.some.inj h3); exact h58 (by rw [<- hc,h3]; rfl)))
      clear hF hS hget hk0 h88
      go_wp2_with fail
      go_ret3
      exact ⟨by rw [HR.out]; rfl,Below.refl _ w⟩
     ·skip
      have hk0b : ((k : Int) == 0) = false:=by
       have : (k : Int) ≠ 0:=by omega
       simpa using this
      have hkne : ((k : Int) == (s.size : Int)) = false:=by
       have : (k : Int) ≠ (s.size : Int):=by omega
       simpa using this
      have HR:=Lib.hid (front_none hF.out hS (by rintro ⟨_,_,h3,_⟩; rw [List.getElem?_eq_getElem hkl,hget] at h3; have h3 : (s[k]'hlt).toNat = 58:=congrArg UInt8.toNat (Option.some.inj h3); exact h58 (by rw [<- hc,h3]; rfl)))
      clear hF hS hget h88
      go_wp2_with fail
      go_ret3
      exact ⟨by rw [HR.out]; rfl,Below.refl _ w⟩
  ·obtain rfl : k = s.size:=by omega
   have hS : Stop s.data.toList s.size:=.inl (by simp)
   have HR:=Lib.hid (front_none hF.out hS (by rintro ⟨_,h2,_⟩; simp at h2))
   clear hF hS
   by_cases hk0 : s.size = 0
   ·go_wp2_with fail
    go_ret3
    exact ⟨by rw [HR.out]; rfl,Below.refl _ w⟩
   ·have hk0b : ((s.size : Int) == 0) = false:=by
     have : (s.size : Int) ≠ 0:=by omega
     simpa using this
    go_wp2_with fail
    go_ret3
    exact ⟨by rw [HR.out]; rfl,Below.refl _ w⟩
end Go.Proofs.YthcmnkmfhgoddaaGreatDoor

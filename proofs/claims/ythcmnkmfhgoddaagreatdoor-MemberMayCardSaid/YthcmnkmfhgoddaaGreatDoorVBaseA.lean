/-
  A strings.Builder of the call's own,over this program: copyCheck,WriteByte,WriteString; and the world as each call finds it. Conditions: the new length at most 2^47 bytes; the builder was made by the call.
  knot.Num,for every int64: the decimal numeral; nothing that was there has turned. No condition beyond the type's own bounds.
  THE PLAIN MATHEMATICS OF PACKAGE knot,its third part,of no program: sums,seals,and that one spoilt byte shows. No condition.
  The sums: the document's answer and knot.Sum,at every text. Condition: the text's length is a Go length.
  The seals: knot.hex,Seal,Open,and the document's answers to them,at every text. Condition: lengths below 2^47.
  knot.Open and the document's answer to it,at every text. Condition: lengths below 2^47.
-/
import Derived.Test.YthcmnkmfhgoddaaGreatDoorVShelf
import Derived.WalkKit
import Derived.BigCall
import Derived.Lib.Hide
import Derived.Laws.IdiomStrings
import Derived.Test.YthcmnkmfhgoddaaGreatDoorVOrdA
import Derived.Laws.BitsAllLaws
import Derived.RegionTactic
import Derived.ChangeAlike
import Derived.Deep.RegionHeld3
import Derived.Deep.DrawnRows
import Derived.Deep.QuietTactic
import Derived.BigQuiet
namespace Go.Proofs.YthcmnkmfhgoddaaGreatDoor
open Go.RowKit
theorem sizeB : (Tryz.prog.info? 250).map (fun i => i.size) = some 2:=by kernel_rfl
theorem liesB : liesAt Tryz.prog Tryz.prog.depth 250 (2 / Tryz.prog.cellsOf 250) 0 250 1 = true:=by kernel_rfl
theorem infoByte : (Tryz.prog.info? 5).map (fun i => (i.zero,i.size,i.bytes)) = some (some (.int .u8 0),1,1):=by kernel_rfl
theorem infoStr : (Tryz.prog.info? 9).map (fun i => (i.zero,i.size,i.bytes)) = some (some (.string ⟨#[]⟩),1,16):=by kernel_rfl
set_option maxHeartbeats 1000000 in
set_option maxRecDepth 100000 in
theorem copyCheck_used (b : Nat) (w : World) (h0 : w.cell? ⟨b,0,none⟩ = some (.pointer (some ⟨b,0,none⟩))) :
  Calls Tryz.prog 246 #[.pointer (some ⟨b,0,none⟩)] w fun e w' => e = .returned (.tuple #[]) /\ w' = w:=by
 obtain ⟨j,hj,_⟩:=Option.map_eq_some_iff.1 sizeB
 go_enter Tryz.func246,Tryz.ntmps246
 go_wp2
 rw [Lib.run_neq_ptr_same w _ Tryz.underlying247 hj]
 go_wp2
 go_end0
 exact ⟨rfl,rfl⟩
set_option maxHeartbeats 1000000 in
set_option maxRecDepth 100000 in
theorem copyCheck_fresh (b : Nat) (w : World) (h0 : w.cell? ⟨b,0,none⟩ = some (.pointer none)) (hsh : w.shape? b = some (250,2)) (hfz : w.frozen? ⟨b,0,none⟩ = false) :
  Calls Tryz.prog 246 #[.pointer (some ⟨b,0,none⟩)] w fun e w' => e = .returned (.tuple #[]) /\ w' = w.setCell ⟨b,0,none⟩ (.pointer (some ⟨b,0,none⟩)):=by
 obtain ⟨j,hj,hjs⟩:=Option.map_eq_some_iff.1 sizeB
 go_enter Tryz.func246,Tryz.ntmps246
 go_wp2
 rw [Lib.run_to_unsafe w ⟨b,0,none⟩ Tryz.underlying247 Tryz.underlying308 hj (by rw [hjs]; decide) hsh (Nat.zero_lt_succ 1)]
 simp only [Result.andThen]
 rw [Oper.upon_value]
 go_wp2
 rw [run_callFunc_extern Tryz.func267 (by kernel_rfl) (by kernel_rfl) (by kernel_rfl) (e:=Extern.AbiNoEscape.same) (by kernel_rfl)]
 rw [Lib.run_noEscape]
 simp only [Result.andThen]
 rw [Oper.upon_value]
 go_wp2
 rw [Lib.run_from_unsafe w ⟨b,0,none⟩ Tryz.underlying308 Tryz.underlying247 hj hsh liesB]
 simp only [Result.andThen]
 rw [Oper.upon_value]
 go_wp2
 go_end0
 exact ⟨rfl,rfl⟩
abbrev IsB (B b : Nat) (l : List UInt8) (w : World) : Prop:=Lib.IsBuilderF 250 5 B b (Lib.byteCells l) w
theorem copyCheck_any (B b : Nat) (bs : List Value) (w : World) (h : Lib.IsBuilderF 250 5 B b bs w) :
  Calls Tryz.prog 246 #[.pointer (some ⟨b,0,none⟩)] w fun e w' => e = .returned (.tuple #[]) /\ (Lib.BuilderAtF 250 5 B b (.pointer (some ⟨b,0,none⟩)) bs w' /\ Below B w w'):=by
 rcases h with h | h
 ·refine (copyCheck_fresh b w h.cell0 h.shape h.frozen0).mono ?_
  rintro e w' ⟨rfl,rfl⟩
  exact ⟨rfl,h.used _,(Below.refl B w).setCell (p:=⟨b,0,none⟩) h.1 _⟩
 ·refine (copyCheck_used b w h.cell0).mono ?_
  rintro e w' ⟨rfl,rfl⟩
  exact ⟨rfl,h,Below.refl B _⟩
set_option maxHeartbeats 2000000 in
set_option maxRecDepth 100000 in
theorem writeByte_any (B b : Nat) (bs : List Value) (c : Int) (w : World) (h : Lib.IsBuilderF 250 5 B b bs w) (hlen : bs.length + 1 <= 140737488355328) (hBw : B <= w.heap.size) :
  Calls Tryz.prog 207 #[.pointer (some ⟨b,0,none⟩),.int .u8 c] w fun e w' => e = .returned .nilIface /\ (Lib.IsBuilderF 250 5 B b (bs ++ [.int .u8 c]) w' /\ Below B w w'):=by
 obtain ⟨i0,hi,hz0,hz1,hz2⟩:=info_parts infoByte
 go_enter Tryz.func207,Tryz.ntmps207
 go_wp2_with (go_at_call 246; refine (copyCheck_any B b bs _ h).mono ?_)
 rintro e w1 ⟨rfl,h1,hb1⟩
 obtain ⟨hB,v,hbk,hown,hne⟩:=h1
 have c0 : w1.cell? ⟨b,0,none⟩ = some (.pointer (some ⟨b,0,none⟩)):=by rw [Lib.cell_of_heap hbk]; rfl
 have c1 : w1.cell? ⟨b,1,none⟩ = some v:=by rw [Lib.cell_of_heap hbk]; rfl
 go_wp2_with (at_builtin; refine wpList_append_ownF _ rfl _ _ 248 rfl B 5 i0 (.int .u8 0) 1 1 Tryz.underlying248 hi hz0 hz1 hz2 rfl (by decide) _ _ _ rfl (hown.alloc _) ⟨w1.heap.size,0,none⟩ 1 1 [.int .u8 c] rfl rfl ?c1 ?c2 ?c3 ?c4 ?c5 ?_)
 case c1 =>
  intro j u hj
  match j,hj with
  | 0,hj => simp at hj; subst hj; simp [Addr.add]
 case c2 => intro u hu; simp at hu; subst hu; rfl
 case c3 => unfold maxLen; omega
 case c4 => omega
 case c5 => have:=hb1.size; simp; omega
 intro v' w2 hown' hgrow _
 have hlt : b < w1.heap.size:=by
  rcases Nat.lt_or_ge b w1.heap.size with h' | h'
  ·exact h'
  ·simp [Array.getElem?_eq_none h'] at hbk
 have hb2 : w2.heap[b]? = some (.cells #[.pointer (some ⟨b,0,none⟩),v] 250 (0,0)):=by
  rw [hgrow.block b (by simp; omega) (fun e => hne e.symm),Lib.alloc_old w1 _ b hlt]
  exact hbk
 have d0 : w2.cell? ⟨b,0,none⟩ = some (.pointer (some ⟨b,0,none⟩)):=by rw [Lib.cell_of_heap hb2]; rfl
 have d1 : w2.cell? ⟨b,1,none⟩ = some v:=by rw [Lib.cell_of_heap hb2]; rfl
 have f1 : w2.frozen? ⟨b,1,none⟩ = false:=Lib.frozen_of_heap hb2 1
 obtain ⟨g,cap,rfl⟩ : ∃ g cap,v' = .slice (some ⟨g,0,none⟩) (bs.length + 1) cap:=by
  rcases hown'.2 with ⟨_,h0⟩ | ⟨g,cap,cur,fz,hv,_⟩
  ·omega
  ·exact ⟨g,cap,hv⟩
 go_wp2
 go_ret
 refine ⟨rfl,.inr ?_,?_⟩
 ·exact Lib.BuilderAtF.put (T:=250) (e:=5) hB hb2 (bs':=bs ++ [.int .u8 c]) (by simpa using hown') (by decide)
 ·exact ((hb1.alloc (by have:=hb1.size; omega) _).grown hgrow (by have:=hb1.size; simp; omega) (fun k hk => (hown.lt k hk).1)).setCell (p:=⟨b,1,none⟩) hB _
set_option maxHeartbeats 2000000 in
set_option maxRecDepth 100000 in
theorem writeString_any (B b : Nat) (bs : List Value) (s : ByteArray) (w : World) (h : Lib.IsBuilderF 250 5 B b bs w) (hlen : bs.length + s.size <= 140737488355328) (hBw : B <= w.heap.size) :
  Calls Tryz.prog 206 #[.pointer (some ⟨b,0,none⟩),.string s] w fun e w' => e = .returned (.tuple #[.int .i64 s.size,.nilIface]) /\ (Lib.IsBuilderF 250 5 B b (bs ++ Lib.strCells s) w' /\ Below B w w'):=by
 obtain ⟨i0,hi,hz0,hz1,hz2⟩:=info_parts infoByte
 go_enter Tryz.func206,Tryz.ntmps206
 go_wp2_with (go_at_call 246; refine (copyCheck_any B b bs _ h).mono ?_)
 rintro e w1 ⟨rfl,h1,hb1⟩
 obtain ⟨hB,v,hbk,hown,hne⟩:=h1
 have c0 : w1.cell? ⟨b,0,none⟩ = some (.pointer (some ⟨b,0,none⟩)):=by rw [Lib.cell_of_heap hbk]; rfl
 have c1 : w1.cell? ⟨b,1,none⟩ = some v:=by rw [Lib.cell_of_heap hbk]; rfl
 go_wp2_with (at_builtin; refine Lib.wpList_append_own_stringF _ rfl _ _ 248 9 rfl B 5 i0 Tryz.underlying248 Tryz.underlying9 hi hz0 hz1 hz2 _ _ _ rfl hown s rfl ?c3 ?c4 ?c5 ?_)
 case c3 => unfold maxLen; omega
 case c4 => omega
 case c5 => have:=hb1.size; omega
 intro v' w2 hown' hgrow _
 have hlt : b < w1.heap.size:=by
  rcases Nat.lt_or_ge b w1.heap.size with h' | h'
  ·exact h'
  ·simp [Array.getElem?_eq_none h'] at hbk
 have hb2 : w2.heap[b]? = some (.cells #[.pointer (some ⟨b,0,none⟩),v] 250 (0,0)):=by
  rw [hgrow.block b hlt (fun e => hne e.symm)]
  exact hbk
 have d0 : w2.cell? ⟨b,0,none⟩ = some (.pointer (some ⟨b,0,none⟩)):=by rw [Lib.cell_of_heap hb2]; rfl
 have d1 : w2.cell? ⟨b,1,none⟩ = some v:=by rw [Lib.cell_of_heap hb2]; rfl
 have f1 : w2.frozen? ⟨b,1,none⟩ = false:=Lib.frozen_of_heap hb2 1
 obtain ⟨ao,n',cap,rfl⟩ : ∃ ao n' cap,v' = .slice ao n' cap:=by
  rcases hown'.2 with ⟨hv,_⟩ | ⟨g,cap,cur,fz,hv,_⟩
  ·exact ⟨_,_,_,hv⟩
  ·exact ⟨_,_,_,hv⟩
 go_wp2
 go_ret2
 refine ⟨rfl,.inr ?_,?_⟩
 ·exact Lib.BuilderAtF.put (T:=250) (e:=5) hB hb2 (bs':=bs ++ Lib.strCells s) (by simpa [Lib.strCells_length] using hown') (by decide)
 ·exact (hb1.grown hgrow (by have:=hb1.size; omega) (fun k hk => (hown.lt k hk).1)).setCell (p:=⟨b,1,none⟩) hB _
structure Good (w : World) : Prop where
 size : 3 <= w.heap.size
 syn : ∃ ev,w.cell? ⟨1,0,none⟩ = some ev /\ (ev = .nilIface \/ ∃ te pe,ev = .iface te pe)
 rng : ∃ ev,w.cell? ⟨2,0,none⟩ = some ev /\ (ev = .nilIface \/ ∃ te pe,ev = .iface te pe)
 most : ∃ m,w.cell? ⟨0,0,none⟩ = some (.int .i64 m)
theorem Good.below {w w' : World} (h : Good w) (hb : Below w.heap.size w w') : Good w':=by
 obtain ⟨h0,h1,h2,h3⟩:=h
 refine ⟨Nat.le_trans h0 hb.size,?_,?_,?_⟩
 ·rw [hb.cell (p:=⟨1,0,none⟩) (Nat.lt_of_lt_of_le (by decide) h0)]; exact h1
 ·rw [hb.cell (p:=⟨2,0,none⟩) (Nat.lt_of_lt_of_le (by decide) h0)]; exact h2
 ·rw [hb.cell (p:=⟨0,0,none⟩) (Nat.lt_of_lt_of_le (by decide) h0)]; exact h3
theorem below_drewN {B : Nat} {a w : World} (h : Below B a w) (n : Nat) : Below B a (w.drewN n):=⟨h.os,h.tape,h.output,h.size,h.block⟩
theorem Good.drew {w : World} (h : Good w) : Good w.drew:=⟨h.1,h.2,h.3,h.4⟩
theorem Good.drewN {w : World} (h : Good w) (n : Nat) : Good (w.drewN n):=⟨h.1,h.2,h.3,h.4⟩
theorem Good.alloc {w : World} (h : Good w) (o : Obj) : Good (w.alloc o):=h.below ((Below.refl _ w).alloc (Nat.le_refl _) o)
abbrev str (l : List UInt8) : Value:=.string ⟨l.toArray⟩
theorem ret_str {a b : List UInt8} (h : a = b) : Ending.returned (str a) = .returned (str b):=by rw [h]
theorem bex0 {N : Nat} {w w' : World} (h : Below N w w':=by (repeat' (first | with_reducible assumption | with_reducible exact Below.refl _ _ | with_reducible refine Below.alloc ?_ ?_ _ | with_reducible refine Below.setCell ?_ ?_ _ | with_reducible refine Below.drew ?_ | omega | (simp; done) | (simp; omega)))) : Below N w w':=h
end Go.Proofs.YthcmnkmfhgoddaaGreatDoor

namespace Go.Proofs.YthcmnkmfhgoddaaGreatDoor
open Go.RowKit M
def Row (w : World) (g t n k : Nat) (l : List UInt8) : Prop :=
 ∃ cs : Array Value,w.heap[g]? = some (.cells cs t (0,0)) /\ cs.size = n /\ k + l.length = n /\ ∀ i (_ : i < l.length),cs[k + i]? = some (.int .u8 (l[i].toNat : Int))
theorem add_plain (b o j : Nat) : (⟨b,o,none⟩ : Addr).add j = ⟨b,o + j,none⟩:=by
 unfold Addr.add; split <;> simp_all
section
variable {w : World} {g t n k : Nat} {l : List UInt8}
theorem Row.start (w : World) (t n : Nat) (cs : Array Value) (h : cs.size = n) : Row (w.alloc (.cells cs t)) w.heap.size t n n [] :=
 ⟨cs,heap_alloc_new w _,h,by simp,fun i hi => absurd hi (by simp)⟩
theorem Row.lt (h : Row w g t n k l) : g < w.heap.size:=by
 obtain ⟨cs,h1,_⟩:=h
 rcases Nat.lt_or_ge g w.heap.size with hlt | hge
 ·exact hlt
 ·rw [Array.getElem?_eq_none hge] at h1; cases h1
theorem Row.cell (h : Row w g t n k l) (i : Nat) (hi : i < n) : ∃ v,w.cell? ⟨g,i,none⟩ = some v:=by
 obtain ⟨cs,h1,h2,_⟩:=h
 rw [Lib.cell_of_heap h1]
 exact ⟨cs[i]'(by omega),by rw [Array.getElem?_eq_getElem]⟩
theorem Row.frozen (h : Row w g t n k l) (i : Nat) : w.frozen? ⟨g,i,none⟩ = false:=by
 obtain ⟨cs,h1,_⟩:=h
 exact Lib.frozen_of_heap h1 i
theorem Row.put (h : Row w g t n (k + 1) l) (c : UInt8) (x : Int) (hx : x = (c.toNat : Int)) : Row (w.setCell ⟨g,k,none⟩ (.int .u8 x)) g t n k (c :: l):=by
 obtain ⟨cs,h1,h2,h3,h4⟩:=h
 refine ⟨cs.setIfInBounds k (.int .u8 x),?_,by simpa using h2,by simp; omega,?_⟩
 ·simp [World.setCell,Array.getElem?_modify,h1]
 ·intro i hi
  rcases i with _ | i
  ·rw [Nat.add_zero,Array.getElem?_setIfInBounds_self_of_lt (by omega),hx]; rfl
  ·rw [Array.getElem?_setIfInBounds_ne (by omega),List.getElem_cons_succ,<- h4 i (by simpa using hi)]
   congr 1; omega
theorem Row.read (h : Row w g t n k l) : ∀ j (_ : j < l.length),w.cell? ((⟨g,k,none⟩ : Addr).add j) = some (.int .u8 (l[j].toNat : Int)):=by
 obtain ⟨cs,h1,h2,h3,h4⟩:=h
 intro j hj
 rw [add_plain,Lib.cell_of_heap h1]
 exact h4 j hj
theorem Row.length (h : Row w g t n k l) : k + l.length = n:=by
 obtain ⟨_,_,_,h3,_⟩:=h; exact h3
theorem Row.convert (h : Row w g t n k l) : (convert 248 9 (.slice (some ⟨g,k,none⟩) (n - k) (n - k))).run Tryz.prog w = .ok (str l) w:=by
 have h1:=run_convert_bytes_back (P:=Tryz.prog) w 248 9 5 ⟨g,k,none⟩ (n - k) l Tryz.underlying248 Tryz.underlying5 Tryz.underlying9 h.read
 have:=h.length
 rw [show n - k = l.length by omega] at h1 ⊢
 exact h1
end
theorem slice60 (g k : Nat) (hk : k < 20) (W : World) :
  (Instr.sliceAt 258 (.pointer (some ⟨g,0,none⟩)) (some (.int .i64 (k : Int))) none none).run Tryz.prog W = .ok (.slice (some ⟨g,k,none⟩) (20 - k) (20 - k)) W:=by
 have hal : Tryz.prog.arrayLen 258 = 20:=by kernel_rfl
 rw [run_sliceAt_array_l W 258 ⟨g,0,none⟩ (by kernel_rfl) .i64 (k : Int) (by omega) (by rw [hal]; omega)]
 go_simp
 omega
def NumInv (N m : Nat) (l : List UInt8) : Prop:=dig N = dig m ++ l /\ (m ≠ 0 \/ l = [])
theorem NumInv.step {N m : Nat} {l : List UInt8} (h : NumInv N m l) (hm : 10 <= m) : NumInv N (m / 10) (dchar (m % 10) :: l):=by
 refine ⟨?_,.inl (by omega)⟩
 rw [h.1,dig_ge (by omega)]; simp
theorem NumInv.last {N m : Nat} {l : List UInt8} (h : NumInv N m l) (hm : m < 10) : dig N = dchar (m % 10) :: l:=by
 rw [h.1,dig_lt hm,Nat.mod_eq_of_lt hm]; rfl
set_option maxHeartbeats 1000000 in
set_option maxRecDepth 100000 in
theorem num_pos (n : Nat) (w : World) (hn : n <= 9223372036854775807) :
  Calls Tryz.prog 133 #[.int .i64 (n : Int)] w fun e w' => e = .returned (str (numT (n : Int))) /\ Below w.heap.size w w':=by
 have hnn : ¬ ((n : Int) < 0):=by omega
 go_enter Tryz.func133,Tryz.ntmps133
 go_wp2
 go_loopw [4,5] (fun va vm wr => ∃ (a m : Nat) (l : List UInt8),va = .int .i64 (a : Int) /\ vm = .int .u64 (m : Int) /\ Row wr w.heap.size 258 20 a l /\ Below w.heap.size w wr /\ 1 <= a /\ a <= 20 /\ m <= 18446744073709551615 /\ m < 10 ^ a /\ NumInv n m l) (fun va _ _ => (intOf va).toNat)
 case atStart => exact ⟨20,n,[],rfl,rfl,Row.start w 258 20 _ rfl,(Below.refl _ w).alloc (Nat.le_refl _) _,by omega,by omega,by omega,by omega,by simp,.inr rfl⟩
 case round =>
  obtain ⟨a,m,l,rfl,rfl,hrow,hbel,ha1,ha2,hm,hlt,hinv⟩:=hrel
  obtain ⟨k,rfl⟩ : ∃ k,a = k + 1:=⟨a - 1,by omega⟩
  obtain ⟨v,hc⟩:=hrow.cell k (by omega)
  have hf:=hrow.frozen k
  have hput:=hrow.put (dchar (m % 10)) (48 + (m : Int) % 10) (by rw [dchar_toNat (by omega)]; omega)
  have hbel2:=hbel.setCell (p:=⟨w.heap.size,k,none⟩) (Nat.le_refl _) (.int .u8 (48 + (m : Int) % 10))
  have hsl:=fun W => slice60 w.heap.size k (by omega) W
  have hcv:=hput.convert
  have HP:=Lib.hid hput
  have HI:=Lib.hid hinv
  have HL:=Lib.hid hlt
  have HB:=Lib.hid hbel2
  clear hput hinv hlt hbel2 hrow hbel
  go_wp2
  ·have h10 : m < 10:=by
    have h : ((m : Int) / 10 == 0) = true:=by assumption
    have : (m : Int) / 10 = 0:=by simpa using h
    omega
   go_ret
   refine ⟨ret_str (a:=dchar (m % 10) :: l) ?_,HB.out⟩
   rw [numT_nat,HI.out.last h10]
  ·have h10 : 10 <= m:=by
    have h : ((m : Int) / 10 == 0) = false:=by assumption
    have : (m : Int) / 10 ≠ 0:=by simpa using h
    omega
   go_roundw
   case rel =>
    have hl:=HL.out
    rw [Nat.pow_succ] at hl
    refine ⟨k,m / 10,_,rfl,by go_num,HP.out,HB.out,?_,by omega,by omega,by omega,HI.out.step h10⟩
    rcases Nat.eq_zero_or_pos k with rfl | hk
    ·simp at hl; omega
    ·exact hk
   case measure => simp [intOf] <;> omega
set_option maxHeartbeats 1000000 in
set_option maxRecDepth 100000 in
theorem num_neg (n : Nat) (w : World) (h0 : 1 <= n) (hn : n <= 9223372036854775808) :
  Calls Tryz.prog 133 #[.int .i64 (-(n : Int))] w fun e w' => e = .returned (str (numT (-(n : Int)))) /\ Below w.heap.size w w':=by
 have hnn : -(n : Int) < 0:=by omega
 have hwr : IntKind.u64.wrap (-IntKind.u64.wrap (-(n : Int))) = (n : Int):=by rw [IntKind.wrap_u64,IntKind.wrap_u64]; omega
 go_enter Tryz.func133,Tryz.ntmps133
 go_wp2
 go_loopw [4,5] (fun va vm wr => ∃ (a m : Nat) (l : List UInt8),va = .int .i64 (a : Int) /\ vm = .int .u64 (m : Int) /\ Row wr w.heap.size 258 20 a l /\ Below w.heap.size w wr /\ 2 <= a /\ a <= 20 /\ m <= 18446744073709551615 /\ m < 10 ^ (a - 1) /\ NumInv n m l) (fun va _ _ => (intOf va).toNat)
 case atStart => exact ⟨20,n,[],rfl,rfl,Row.start w 258 20 _ rfl,(Below.refl _ w).alloc (Nat.le_refl _) _,by omega,by omega,by omega,by omega,by simp,.inr rfl⟩
 case round =>
  obtain ⟨a,m,l,rfl,rfl,hrow,hbel,ha1,ha2,hm,hlt,hinv⟩:=hrel
  obtain ⟨k,rfl⟩ : ∃ k,a = k + 1 + 1:=⟨a - 2,by omega⟩
  obtain ⟨v,hc⟩:=hrow.cell (k + 1) (by omega)
  have hf:=hrow.frozen (k + 1)
  obtain ⟨v2,hc2⟩:=hrow.cell k (by omega)
  have hf2:=hrow.frozen k
  have hput:=hrow.put (dchar (m % 10)) (48 + (m : Int) % 10) (by rw [dchar_toNat (by omega)]; omega)
  have hput2:=hput.put 45 45 (by decide)
  have hbel2:=hbel.setCell (p:=⟨w.heap.size,k + 1,none⟩) (Nat.le_refl _) (.int .u8 (48 + (m : Int) % 10))
  have hbel3:=hbel2.setCell (p:=⟨w.heap.size,k,none⟩) (Nat.le_refl _) (.int .u8 45)
  have hsl:=fun W => slice60 w.heap.size k (by omega) W
  have hcv:=hput2.convert
  have HP:=Lib.hid hput
  have HI:=Lib.hid hinv
  have HL:=Lib.hid hlt
  have HB:=Lib.hid hbel2
  have HB3:=Lib.hid hbel3
  clear hput hput2 hinv hlt hbel2 hbel3 hrow hbel
  go_wp2
  ·have h10 : m < 10:=by
    have h : ((m : Int) / 10 == 0) = true:=by assumption
    have : (m : Int) / 10 = 0:=by simpa using h
    omega
   go_ret
   refine ⟨ret_str (a:=45 :: dchar (m % 10) :: l) ?_,HB3.out⟩
   unfold numT
   rw [if_pos hnn,Int.natAbs_neg,Int.natAbs_natCast,HI.out.last h10]
  ·have h10 : 10 <= m:=by
    have h : ((m : Int) / 10 == 0) = false:=by assumption
    have : (m : Int) / 10 ≠ 0:=by simpa using h
    omega
   go_roundw
   case rel =>
    have hl:=HL.out
    rw [show k + 1 + 1 - 1 = k + 1 by omega,Nat.pow_succ] at hl
    refine ⟨k + 1,m / 10,_,rfl,by go_num,HP.out,HB.out,?_,by omega,by omega,by rw [Nat.add_sub_cancel]; omega,HI.out.step h10⟩
    rcases Nat.eq_zero_or_pos k with rfl | hk
    ·simp at hl; omega
    ·omega
   case measure => simp [intOf] <;> omega
theorem num_any (n : Int) (w : World) (hn : inR n) :
  Calls Tryz.prog 133 #[.int .i64 n] w fun e w' => e = .returned (str (numT n)) /\ Below w.heap.size w w':=by
 unfold inR at hn
 by_cases h : n < 0
 ·obtain ⟨m,rfl⟩ : ∃ m : Nat,n = -(m : Int):=⟨n.natAbs,by omega⟩
  exact num_neg m w (by omega) (by omega)
 ·obtain ⟨m,rfl⟩ : ∃ m : Nat,n = (m : Int):=⟨n.natAbs,by omega⟩
  exact num_pos m w (by omega)
end Go.Proofs.YthcmnkmfhgoddaaGreatDoor

namespace Go.Proofs.YthcmnkmfhgoddaaGreatDoor.M
def sumStep (p : Nat × Nat) (c : UInt8) : Nat × Nat:=((p.1 + c.toNat) % 65521,(p.2 + (p.1 + c.toNat) % 65521) % 65521)
def sumAB (l : Text) : Nat × Nat:=l.foldl sumStep (1,0)
theorem sumAB_snoc (l : Text) (c : UInt8) : sumAB (l ++ [c]) = sumStep (sumAB l) c:=by simp [sumAB,List.foldl_append]
theorem sumAB_lt (l : Text) : (sumAB l).1 < 65521 /\ (sumAB l).2 < 65521:=by
 rcases List.eq_nil_or_concat l with rfl | ⟨r,c,rfl⟩
 ·simp [sumAB]
 ·rw [List.concat_eq_append,sumAB_snoc]; unfold sumStep; simp only []; omega
end Go.Proofs.YthcmnkmfhgoddaaGreatDoor.M

namespace Go.Proofs.YthcmnkmfhgoddaaGreatDoor
open Go.RowKit M
theorem ret_int {k : IntKind} {a b : Int} (h : a = b) : Ending.returned (.int k a) = .returned (.int k b):=by rw [h]
theorem take_snoc (s : ByteArray) (k : Nat) (h : k < s.size) : s.data.toList.take (k + 1) = s.data.toList.take k ++ [s[k]]:=by
 rw [List.take_succ_eq_append_getElem (by simpa using h)]; rfl
theorem take_all (s : ByteArray) : s.data.toList.take s.size = s.data.toList:=List.take_of_length_le (by simp)
theorem drop_data (t : ByteArray) (k : Nat) : (t.extract k t.size).data.toList = t.data.toList.drop k:=by
 rw [Lib.extract_data]; exact List.take_of_length_le (by simp)
theorem take_data (t : ByteArray) (k : Nat) : (t.extract 0 k).data.toList = t.data.toList.take k:=by
 rw [Lib.extract_data]; rfl
theorem toList_nil (t : ByteArray) : t.size = 0 ↔ t.data.toList = []:=by
 rw [show t.size = t.data.toList.length by simp]; exact List.length_eq_zero_iff
theorem empty_no (t : ByteArray) (h : t.size = 0) : (!t.toList.isEmpty) = false:=by
 rw [ByteArray.toList_eq,(toList_nil t).1 h]; rfl
theorem empty_yes (t : ByteArray) (h : t.size ≠ 0) : (!t.toList.isEmpty) = true:=by
 rw [ByteArray.toList_eq]
 have:=fun e => h ((toList_nil t).2 e)
 cases he : t.data.toList <;> simp_all
def SumInv (p r : Text) (a b : Nat) : Prop :=
 a % 65521 = (sumAB (p ++ r)).1 /\ b % 65521 = (sumAB (p ++ r)).2 /\ a <= 65520 + 255 * r.length /\ 2 * b <= 131040 + 131040 * r.length + 255 * (r.length * (r.length + 1))
theorem SumInv.start {p : Text} {a b : Nat} (ha : a = (sumAB p).1) (hb : b = (sumAB p).2) : SumInv p [] a b:=by
 have:=sumAB_lt p
 unfold SumInv
 rw [List.append_nil,ha,hb]
 simp only [List.length_nil]
 omega
theorem SumInv.step {p r : Text} {a b : Nat} (h : SumInv p r a b) (c : UInt8) : SumInv p (r ++ [c]) (a + c.toNat) (b + (a + c.toNat)):=by
 obtain ⟨h1,h2,h3,h4⟩:=h
 have hc:=UInt8.toNat_lt c
 unfold SumInv
 rw [<- List.append_assoc,sumAB_snoc,List.length_append,List.length_singleton]
 unfold sumStep
 simp only []
 have e : (r.length + 1) * (r.length + 1 + 1) = r.length * (r.length + 1) + 2 * (r.length + 1):=by
  rw [Nat.add_mul,Nat.mul_add r.length (r.length + 1) 1]; omega
 generalize r.length * (r.length + 1) = T at *
 omega
def lenOf : Value -> Nat
 | .string t => t.size
 | _ => 0
end Go.Proofs.YthcmnkmfhgoddaaGreatDoor

namespace Go.Proofs.YthcmnkmfhgoddaaGreatDoor
open Go.RowKit M
theorem ret_string {a b : ByteArray} (h : a = b) : Ending.returned (.string a) = .returned (.string b):=by rw [h]
theorem bytes_ext {a b : ByteArray} (h : a.data.toList = b.data.toList) : a = b:=by
 cases a; cases b; simp_all [Array.toList_inj]
theorem str_app (s : ByteArray) (l : List UInt8) : s ++ (⟨l.toArray⟩ : ByteArray) = ⟨(s.data.toList ++ l).toArray⟩:=by
 apply bytes_ext
 rw [ByteArray.data_append,Array.toList_append]
theorem str_self (s : ByteArray) : (⟨s.data.toList.toArray⟩ : ByteArray) = s:=bytes_ext (by simp)
end Go.Proofs.YthcmnkmfhgoddaaGreatDoor

namespace Go.Proofs.YthcmnkmfhgoddaaGreatDoor
open Go.RowKit M
attribute [local go_sem ↓] Go.wp_at_zero Go.wp_at_succ
theorem beq_yes {l : Text} {s : ByteArray} (h : l = s.data.toList) : (l == s.toList) = true:=by rw [ByteArray.toList_eq,h]; simp
theorem beq_no {l : Text} {s : ByteArray} (h : l ≠ s.data.toList) : (l == s.toList) = false:=by rw [ByteArray.toList_eq]; simpa using h
end Go.Proofs.YthcmnkmfhgoddaaGreatDoor

/-
  DERIVED: THE SHELF's CONTRACTS AT THIS DUMP,IN PLAIN WORDS (tools/lay-plain.mjs out of 'TryzShelf.lean',which tools/lay-shelf.mjs wrote): THE SAME DECLARATIONS UNDER THE SAME NAMES: 'import','namespace','open','def','theorem' AND NOTHING ELSE: no command of the shelf's: FOR A HAND-IN. Each laying: the table of numbers ('.._ren') and one theorem,a field a fact of the dump's own or the kernel's comparison; each contract: ONE APPLICATION.
  The library's Contains,Concat (of three lists of numbers,of two of pairs),Sort and Compact at numbers. Conditions: at most 1,000,000 numbers,100,000 pairs.
-/
import Derived.Shelf.Strings.Builder1
import Derived.Shelf.Strings.Builder2
import Derived.Shelf.Strings.BuilderF
import Derived.Shelf.Strings.BuilderK
import Derived.Shelf.Strconv.ParseIntEmpty
import Derived.Shelf.LaysM
import Derived.Shelf.Strconv.Clone
import Derived.Shelf.Strconv.SyntaxError
import Derived.Shelf.LaysC
import Derived.Shelf.Strconv.ToError
import Derived.Shelf.Strconv.Lower
import Derived.Shelf.Strconv.ParseUint10
import Derived.Shelf.Strconv.ParseUint10Empty
import Derived.Shelf.Strconv.ParseUint10Any
import Derived.Shelf.Strconv.ParseInt10
import Derived.Shelf.Strconv.RangeError
import Derived.Shelf.Strconv.ToErrorRange
import Derived.Shelf.Strconv.ParseUintEmpty
import Derived.Shelf.Strconv.ParseUint10b64
import Derived.Shelf.Strconv.ParseUint10b32
import Derived.Shelf.Strconv.ParseUint10b16
import Derived.Shelf.Strconv.ParseUint10b8
import Derived.Shelf.Strconv.ParseUint10At
import Derived.Shelf.Strconv.ParseInt10At64
import Derived.Shelf.Strconv.ParseInt10At32
import Derived.Shelf.Strconv.ParseInt10At16
import Derived.Shelf.Strconv.ParseInt10At8
import Derived.Shelf.Strconv.ParseInt10All
import Derived.Shelf.Strconv.ParseIntPublic10
import Derived.Shelf.Strconv.ErrVarParseInt
import Derived.Shelf.Strings.Search1
import Derived.Shelf.Strings.Search2
import Derived.Shelf.Strings.Cut
import Derived.Shelf.Strings.Shaped
import Derived.Shelf.Strings.Prefix
import Derived.Shelf.Bits.Mul64
import Derived.Shelf.Strings.Repeat
import Derived.Ground.SlgnProg
import Derived.Shelf.SlicesE.Index
import Derived.Shelf.SlicesE.Compact
import Derived.Ground.SlgmProg
import Derived.Shelf.SortM.Plain
import Derived.Test.YthcmnkmfhgoddaaGreatDoorProg
import Derived.Test.YthcmnkmfhgoddaaGreatDoorVDpHHA
import Derived.Lib.AppendZerosOnto
import Derived.Sort.OwnSortedInts
namespace Go.Proofs
open Go.Shelf
def Tryz.laysSlE31_f64_ren : Go.Shelf.Ren:=⟨fun | 31 => 64 | 29 => 134 | n => n,fun | 22 => 36 | 23 => 2 | 4 => 4 | 3 => 3 | 0 => 0 | n => n,fun | n => n⟩
theorem Tryz.laysSlE31_f64 : Go.Proofs.SlLaysE.n31 Tryz.prog Tryz.laysSlE31_f64_ren:={
 mixed:=by kernel_rfl
 f29:=⟨Tryz.f134.name,by decide,Tryz.func134.trans (congrArg some (by kernel_rfl))⟩
 f31:=⟨Tryz.f64.name,by decide,Tryz.func64.trans (congrArg some (by kernel_rfl))⟩
 t0:=Tryz.underlying0
 a0:=Tryz.isAgg0
 z0:=Tryz.sizeOf0
 v0:=Tryz.zeroValue0
 t3:=Tryz.underlying3
 a3:=Tryz.isAgg3
 z3:=Tryz.sizeOf3
 v3:=Tryz.zeroValue3
 t4:=Tryz.underlying4
 a4:=Tryz.isAgg4
 z4:=Tryz.sizeOf4
 v4:=Tryz.zeroValue4
 t22:=Tryz.underlying36
 a22:=Tryz.isAgg36
 z22:=Tryz.sizeOf36
 v22:=Tryz.zeroValue36
 a23:=Tryz.isAgg2
 z23:=Tryz.sizeOf2 }
open Go.Lib in
theorem Tryz.slices_Contains {α : Type} [Inhabited α] (enc : α -> Value) (eq : α -> α -> Bool) (heq : EqlAt Tryz.prog 2 enc eq) (b off n c : Nat) (zs : List α) (x : α) (w : World) (hz : n <= zs.length) (hbig : n <= 9223372036854775807) (hc : ∀ j,j < zs.length -> w.cell? ⟨b,off + j,none⟩ = some (enc zs[j]!)) :
  Calls Tryz.prog 64 #[.slice (some ⟨b,off,none⟩) n c,enc x] w fun e w' => e = .returned (.bool ((zs.take n).any fun y => eq x y)) /\ w' = w:=AnyE.slices_Contains Tryz.laysSlE31_f64 enc eq heq b off n c zs x w hz hbig hc
open Go.Lib in
theorem Tryz.slices_Contains_empty {α : Type} [Inhabited α] (a : Option Addr) (c : Nat) (xv : Value) (w : World) :
  Calls Tryz.prog 64 #[.slice a 0 c,xv] w fun e w' => e = .returned (.bool false) /\ w' = w:=AnyE.slices_Contains_empty Tryz.laysSlE31_f64 a c xv w
def Tryz.laysSlM5_f68_ren : Go.Shelf.Ren:=⟨fun | 5 => 68 | 8 => 142 | 7 => 141 | 19 => 222 | 20 => 223 | 10 => 213 | 11 => 214 | 12 => 215 | 13 => 216 | 14 => 217 | 15 => 218 | 16 => 219 | 17 => 220 | 18 => 221 | 30 => 248 | 31 => 249 | 32 => 250 | 33 => 251 | 34 => 252 | 35 => 253 | 40 => 268 | n => n,fun | 23 => 36 | 25 => 2 | 3 => 3 | 32 => 196 | 22 => 36 | 0 => 0 | 44 => 271 | 46 => 171 | 4 => 4 | 36 => 263 | 35 => 262 | 41 => 268 | 5 => 5 | 9 => 9 | 53 => 293 | 57 => 297 | 63 => 310 | 64 => 311 | n => n,fun | n => n⟩
theorem Tryz.laysSlM5_f68 : Go.Proofs.SlLaysM.n5 Tryz.prog Tryz.laysSlM5_f68_ren:={
 mixed:=by kernel_rfl
 f5:=⟨Tryz.f68.name,by decide,Tryz.func68.trans (congrArg some (by kernel_rfl))⟩
 f7:=⟨Tryz.f141.name,by decide,Tryz.func141.trans (congrArg some (by kernel_rfl))⟩
 f8:=Tryz.func142.trans (congrArg some (by kernel_rfl))
 f10:=⟨Tryz.f213.name,by decide,Tryz.func213.trans (congrArg some (by kernel_rfl))⟩
 f11:=⟨Tryz.f214.name,by decide,Tryz.func214.trans (congrArg some (by kernel_rfl))⟩
 f12:=⟨Tryz.f215.name,by decide,Tryz.func215.trans (congrArg some (by kernel_rfl))⟩
 f13:=⟨Tryz.f216.name,by decide,Tryz.func216.trans (congrArg some (by kernel_rfl))⟩
 f14:=⟨Tryz.f217.name,by decide,Tryz.func217.trans (congrArg some (by kernel_rfl))⟩
 f15:=⟨Tryz.f218.name,by decide,Tryz.func218.trans (congrArg some (by kernel_rfl))⟩
 f16:=⟨Tryz.f219.name,by decide,Tryz.func219.trans (congrArg some (by kernel_rfl))⟩
 f17:=⟨Tryz.f220.name,by decide,Tryz.func220.trans (congrArg some (by kernel_rfl))⟩
 f18:=⟨Tryz.f221.name,by decide,Tryz.func221.trans (congrArg some (by kernel_rfl))⟩
 f19:=Tryz.func222.trans (congrArg some (by kernel_rfl))
 f20:=Tryz.func223.trans (congrArg some (by kernel_rfl))
 f30:=⟨Tryz.f248.name,by decide,Tryz.func248.trans (congrArg some (by kernel_rfl))⟩
 f31:=Tryz.func249.trans (congrArg some (by kernel_rfl))
 f32:=Tryz.func250.trans (congrArg some (by kernel_rfl))
 f33:=⟨Tryz.f251.name,by decide,Tryz.func251.trans (congrArg some (by kernel_rfl))⟩
 f34:=⟨Tryz.f252.name,by decide,Tryz.func252.trans (congrArg some (by kernel_rfl))⟩
 f35:=⟨Tryz.f253.name,by decide,Tryz.func253.trans (congrArg some (by kernel_rfl))⟩
 f40:=⟨Tryz.f268.name,by decide,Tryz.func268.trans (congrArg some (by kernel_rfl))⟩
 t0:=Tryz.underlying0
 a0:=Tryz.isAgg0
 z0:=Tryz.sizeOf0
 v0:=Tryz.zeroValue0
 t3:=Tryz.underlying3
 a3:=Tryz.isAgg3
 z3:=Tryz.sizeOf3
 v3:=Tryz.zeroValue3
 t4:=Tryz.underlying4
 a4:=Tryz.isAgg4
 z4:=Tryz.sizeOf4
 v4:=Tryz.zeroValue4
 t5:=Tryz.underlying5
 a5:=Tryz.isAgg5
 z5:=Tryz.sizeOf5
 v5:=Tryz.zeroValue5
 t9:=Tryz.underlying9
 a9:=Tryz.isAgg9
 z9:=Tryz.sizeOf9
 v9:=Tryz.zeroValue9
 t22:=Tryz.underlying36
 a22:=Tryz.isAgg36
 z22:=Tryz.sizeOf36
 v22:=Tryz.zeroValue36
 t23:=Tryz.underlying36
 a23:=Tryz.isAgg36
 z23:=Tryz.sizeOf36
 v23:=Tryz.zeroValue36
 t25:=Tryz.underlying2
 a25:=Tryz.isAgg2
 z25:=Tryz.sizeOf2
 v25:=Tryz.zeroValue2
 t32:=Tryz.underlying196
 a32:=Tryz.isAgg196
 z32:=Tryz.sizeOf196
 v32:=Tryz.zeroValue196
 t35:=Tryz.underlying262
 a35:=Tryz.isAgg262
 z35:=Tryz.sizeOf262
 v35:=Tryz.zeroValue262
 t36:=Tryz.underlying263
 a36:=Tryz.isAgg263
 z36:=Tryz.sizeOf263
 v36:=Tryz.zeroValue263
 t41:=Tryz.underlying268
 a41:=Tryz.isAgg268
 z41:=Tryz.sizeOf268
 v41:=Tryz.zeroValue268
 t44:=Tryz.underlying271
 a44:=Tryz.isAgg271
 z44:=Tryz.sizeOf271
 v44:=Tryz.zeroValue271
 t46:=Tryz.underlying171
 a46:=Tryz.isAgg171
 z46:=Tryz.sizeOf171
 v46:=Tryz.zeroValue171
 t53:=Tryz.underlying293
 a53:=Tryz.isAgg293
 z53:=Tryz.sizeOf293
 v53:=Tryz.zeroValue293
 t57:=Tryz.underlying297
 a57:=Tryz.isAgg297
 z57:=Tryz.sizeOf297
 v57:=Tryz.zeroValue297
 t63:=Tryz.underlying310
 a63:=Tryz.isAgg310
 z63:=Tryz.sizeOf310
 v63:=Tryz.zeroValue310
 t64:=Tryz.underlying311
 a64:=Tryz.isAgg311
 z64:=Tryz.sizeOf311
 v64:=Tryz.zeroValue311 }
open Go.Sort Go.RowKit in
theorem Tryz.slices_Sort_int (blk off cap : Nat) (zs : List Int) (w : World) (hH : Holds (Value.int .i64) w blk off zs.toArray) (hblk : blk < w.heap.size) (hsz : zs.length < 4611686018427387904) :
  Calls Tryz.prog 68 #[.slice (some ⟨blk,off,none⟩) zs.length cap] w fun e w' =>
   e = .returned (.tuple #[]) /\ ∃ n os,w' = grow (putRow (Value.int .i64) (Sort.ahead w n) blk off (zs.mergeSort fun x y => decide (x <= y)).toArray) os:=AnyM.slices_Sort_int Tryz.laysSlM5_f68 blk off cap zs w hH hblk hsz
end Go.Proofs

namespace Go.Proofs.YthcmnkmfhgoddaaGreatDoor.Dp
open Go.RowKit Bnd
open Go.Proofs.YthcmnkmfhgoddaaGreatDoor.Ds (OwnI infoI)
open Go.Proofs.YthcmnkmfhgoddaaGreatDoor.Od (Pr SP OwnP ArgP infoP pcells)
theorem eqlI : EqlAt Tryz.prog 2 (Value.int .i64) (fun x y => decide (x = y)):=EqlAt.intD Tryz.prog 2 .i64
theorem contains_any (v : Value) (ns : List Int) (x : Int) (w : World) (hv : SI w w.heap.size v ns) (hl : ns.length <= 140737488355328) :
  Calls Tryz.prog 64 #[v,.int .i64 x] w fun e w' => e = .returned (.bool (decide (x ∈ ns))) /\ w' = w:=by
 obtain ⟨A,c,rfl⟩:=hv.form
 by_cases h0 : ns.length = 0
 ·obtain rfl : ns = []:=List.length_eq_zero_iff.1 h0
  refine (Tryz.slices_Contains_empty (α:=Int) A c (.int .i64 x) w).mono ?_
  rintro e w' ⟨rfl,rfl⟩
  exact ⟨by simp,rfl⟩
 ·obtain ⟨b,o,rfl,_,_⟩:=hv.at_ (k:=0) (by omega)
  refine (Tryz.slices_Contains (Value.int .i64) _ eqlI b o ns.length c ns x w (Nat.le_refl _) (by omega) fun j hj => ?_).mono ?_
  ·obtain ⟨b',o',e,_,q⟩:=hv.at_ hj
   cases e
   rw [q,getElem!_pos ns j hj]
  ·rintro e w' ⟨rfl,rfl⟩
   refine ⟨?_,rfl⟩
   rw [List.take_of_length_le (Nat.le_refl _)]
   congr 2
   rw [Bool.eq_iff_iff]
   simp only [List.any_eq_true,decide_eq_true_eq]
   exact ⟨fun ⟨y,hy,e⟩ => e ▸ hy,fun h => ⟨x,h,rfl⟩⟩
theorem ownI_row {w : World} {base : Nat} {v : Value} {ns : List Int} (h : OwnI w base v ns) (h0 : 0 < ns.length) : ∃ g cap cur,v = .slice (some ⟨g,0,none⟩) ns.length cap /\ base <= g /\ w.heap[g]? = some (.cells cur 2 (0,0)) /\ ns.length <= cap /\ cap <= maxLen /\ cur.size = cap * 1 /\ cur.toList.take ns.length = ns.map (Value.int .i64):=by
 rcases h.2 with ⟨_,e⟩ | ⟨g,cap,cur,e,h1,h2,h3,h4,h5,h6⟩
 ·omega
 ·exact ⟨g,cap,cur,e,h1,h2,h3,h4,h5,by simpa using h6⟩
abbrev sorted (ns : List Int) : List Int:=ns.mergeSort fun x y => decide (x <= y)
theorem sorted_le (ns : List Int) : (sorted ns).Pairwise (· <= ·):=by
 have:=List.pairwise_mergeSort (le:=fun x y : Int => decide (x <= y)) (fun a b c h1 h2 => by simp at *; omega) (fun a b => by simp; omega) ns
 exact this.imp fun h => by simpa using h
theorem sort_any (v : Value) (ns : List Int) (w : World) (base : Nat) (h : OwnI w base v ns) (h0 : 0 < ns.length) (hb : base <= w.heap.size) (hl : ns.length <= 1000000) :
  Calls Tryz.prog 68 #[v] w fun e w' => e = .returned (.tuple #[]) /\ OwnI w' base v (sorted ns) /\ Below base w w':=by
 obtain ⟨g,cap,cur,rfl,h1,h2,h3,h4,h5,h6⟩:=ownI_row h h0
 have hg : g < w.heap.size:=(Array.getElem?_eq_some_iff.1 h2).1
 refine (Tryz.slices_Sort_int g 0 cap ns w (holds_of_blockI h2 h6) hg (by omega)).mono ?_
 rintro e w' ⟨rfl,n,os,rfl⟩
 have hs : (sorted ns).length = ns.length:=List.length_mergeSort _
 refine ⟨rfl,?_,(Below.refl _ w).grown (grownBy_sortedI _) hb (fun k hk => by obtain rfl:=Option.some.inj hk; exact h1)⟩
 have:=ownsRow_sortedI (n:=n) (os:=os) hs h1 h2 h3 h4 h5
 show World.ownsRow _ _ _ _ _ (sorted ns).length _
 rw [hs]
 exact this
end Go.Proofs.YthcmnkmfhgoddaaGreatDoor.Dp

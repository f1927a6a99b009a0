/-
  DERIVED: THE SHELF's CONTRACTS AT THIS DUMP, IN PLAIN WORDS (tools/lay-plain.mjs out of 'TryzShelf.lean', which tools/lay-shelf.mjs wrote): THE SAME DECLARATIONS UNDER THE SAME NAMES: 'import', 'namespace', 'open', 'def', 'theorem' AND NOTHING ELSE: no command of the shelf's: FOR A HAND-IN. Each laying: the table of numbers ('.._ren') and one theorem, a field a fact of the dump's own or the kernel's comparison; each contract: ONE APPLICATION.
  The library's Contains, Concat (of three lists of numbers, of two of pairs), Sort and Compact at numbers. Conditions: at most 1,000,000 numbers, 100,000 pairs.
-/
import Derived.Shelf.Strings.Builder1
import Derived.Shelf.Strings.Builder2
import Derived.Shelf.Strings.BuilderF
import Derived.Shelf.Strings.BuilderK
import Derived.Shelf.Strconv.ParseIntEmpty
import Derived.Shelf.LaysM
import Derived.Shelf.Strconv.Clone
import Derived.Shelf.Strconv.SyntaxError
import Derived.Shelf.LaysC
import Derived.Shelf.Strconv.ToError
import Derived.Shelf.Strconv.Lower
import Derived.Shelf.Strconv.ParseUint10
import Derived.Shelf.Strconv.ParseUint10Empty
import Derived.Shelf.Strconv.ParseUint10Any
import Derived.Shelf.Strconv.ParseInt10
import Derived.Shelf.Strconv.RangeError
import Derived.Shelf.Strconv.ToErrorRange
import Derived.Shelf.Strconv.ParseUintEmpty
import Derived.Shelf.Strconv.ParseUint10b64
import Derived.Shelf.Strconv.ParseUint10b32
import Derived.Shelf.Strconv.ParseUint10b16
import Derived.Shelf.Strconv.ParseUint10b8
import Derived.Shelf.Strconv.ParseUint10At
import Derived.Shelf.Strconv.ParseInt10At64
import Derived.Shelf.Strconv.ParseInt10At32
import Derived.Shelf.Strconv.ParseInt10At16
import Derived.Shelf.Strconv.ParseInt10At8
import Derived.Shelf.Strconv.ParseInt10All
import Derived.Shelf.Strconv.ParseIntPublic10
import Derived.Shelf.Strconv.ErrVarParseInt
import Derived.Shelf.Strings.Search1
import Derived.Shelf.Strings.Search2
import Derived.Shelf.Strings.Cut
import Derived.Shelf.Strings.Shaped
import Derived.Shelf.Strings.Prefix
import Derived.Shelf.Bits.Mul64
import Derived.Shelf.Strings.Repeat
import Derived.Ground.SlgnProg
import Derived.Shelf.SlicesE.Index
import Derived.Shelf.SlicesE.Compact
import Derived.Ground.SlgmProg
import Derived.Shelf.SortM.Plain
import Derived.Test.YthcmnkmfhgoddaaGreatDoorProg
import Derived.Test.YthcmnkmfhgoddaaGreatDoorKDpHHA
import Derived.Lib.AppendZerosOnto
import Derived.Sort.OwnSortedInts
namespace Go.Proofs
open Go.Shelf
def Tryz.laysSlE31_f64_ren : Go.Shelf.Ren := ⟨fun | 31 => 64 | 29 => 134 | n => n, fun | 22 => 36 | 23 => 2 | 4 => 4 | 3 => 3 | 0 => 0 | n => n, fun | n => n⟩
theorem Tryz.laysSlE31_f64 : Go.Proofs.SlLaysE.n31 Tryz.prog Tryz.laysSlE31_f64_ren := {
 mixed := by kernel_rfl
 f29 := ⟨Tryz.f134.name, by decide, Tryz.func134.trans (congrArg some (by kernel_rfl))⟩
 f31 := ⟨Tryz.f64.name, by decide, Tryz.func64.trans (congrArg some (by kernel_rfl))⟩
 t0 := Tryz.underlying0
 a0 := Tryz.isAgg0
 z0 := Tryz.sizeOf0
 v0 := Tryz.zeroValue0
 t3 := Tryz.underlying3
 a3 := Tryz.isAgg3
 z3 := Tryz.sizeOf3
 v3 := Tryz.zeroValue3
 t4 := Tryz.underlying4
 a4 := Tryz.isAgg4
 z4 := Tryz.sizeOf4
 v4 := Tryz.zeroValue4
 t22 := Tryz.underlying36
 a22 := Tryz.isAgg36
 z22 := Tryz.sizeOf36
 v22 := Tryz.zeroValue36
 a23 := Tryz.isAgg2
 z23 := Tryz.sizeOf2 }
open Go.Lib in
theorem Tryz.slices_Contains {α : Type} [Inhabited α] (enc : α -> Value) (eq : α -> α -> Bool) (heq : EqlAt Tryz.prog 2 enc eq) (b off n c : Nat) (zs : List α) (x : α) (w : World) (hz : n <= zs.length) (hbig : n <= 9223372036854775807) (hc : ∀ j, j < zs.length -> w.cell? ⟨b, off + j, none⟩ = some (enc zs[j]!)) :
  Calls Tryz.prog 64 #[.slice (some ⟨b, off, none⟩) n c, enc x] w fun e w' => e = .returned (.bool ((zs.take n).any fun y => eq x y)) /\ w' = w := AnyE.slices_Contains Tryz.laysSlE31_f64 enc eq heq b off n c zs x w hz hbig hc
open Go.Lib in
theorem Tryz.slices_Contains_empty {α : Type} [Inhabited α] (a : Option Addr) (c : Nat) (xv : Value) (w : World) :
  Calls Tryz.prog 64 #[.slice a 0 c, xv] w fun e w' => e = .returned (.bool false) /\ w' = w := AnyE.slices_Contains_empty Tryz.laysSlE31_f64 a c xv w
def Tryz.laysSlE43_f69_ren : Go.Shelf.Ren := ⟨fun | 43 => 69 | n => n, fun | 22 => 36 | 23 => 2 | 3 => 3 | 4 => 4 | 0 => 0 | n => n, fun | n => n⟩
theorem Tryz.laysSlE43_f69 : Go.Proofs.SlLaysE.n43 Tryz.prog Tryz.laysSlE43_f69_ren := {
 mixed := by kernel_rfl
 f43 := ⟨Tryz.f69.name, by decide, Tryz.func69.trans (congrArg some (by kernel_rfl))⟩
 t0 := Tryz.underlying0
 a0 := Tryz.isAgg0
 z0 := Tryz.sizeOf0
 v0 := Tryz.zeroValue0
 t3 := Tryz.underlying3
 a3 := Tryz.isAgg3
 z3 := Tryz.sizeOf3
 v3 := Tryz.zeroValue3
 t4 := Tryz.underlying4
 a4 := Tryz.isAgg4
 z4 := Tryz.sizeOf4
 v4 := Tryz.zeroValue4
 t22 := Tryz.underlying36
 a22 := Tryz.isAgg36
 z22 := Tryz.sizeOf36
 v22 := Tryz.zeroValue36
 a23 := Tryz.isAgg2
 z23 := Tryz.sizeOf2 }
open Go.RowKit Go.Lib Go.Sort in
theorem Tryz.slices_Compact {α : Type} [Inhabited α] [DecidableEq α] (enc : α -> Value) (hO : OneCell enc) (heq : EqlAt Tryz.prog 2 enc (fun x y => decide (x = y))) (hne : NeqAt Tryz.prog 2 enc (fun x y => decide (x = y))) (zr : α) (v23 : ∀ w, (zeroValue 2).run Tryz.prog w = .ok (enc zr) w) (blk off cap : Nat) (d : Array α) (w : World) (hH : Holds enc w blk off d) (hsz : d.size <= 9223372036854775807) (hcap : d.size <= cap) :
  Calls Tryz.prog 69 #[.slice (some ⟨blk, off, none⟩) d.size cap] w fun e w' => e = .returned (.slice (some ⟨blk, off, none⟩) (compactUpTo d d.size).length cap) /\ ∃ q, w' = putRow enc (Sort.ahead w q) blk off (compactUpTo d d.size ++ List.replicate (d.size - (compactUpTo d d.size).length) zr).toArray := AnyE.slices_Compact Tryz.laysSlE43_f69 enc hO heq hne zr v23 blk off cap d w hH hsz hcap
def Tryz.laysSlM5_f68_ren : Go.Shelf.Ren := ⟨fun | 5 => 68 | 8 => 142 | 7 => 141 | 19 => 222 | 20 => 223 | 10 => 213 | 11 => 214 | 12 => 215 | 13 => 216 | 14 => 217 | 15 => 218 | 16 => 219 | 17 => 220 | 18 => 221 | 30 => 248 | 31 => 249 | 32 => 250 | 33 => 251 | 34 => 252 | 35 => 253 | 40 => 268 | n => n, fun | 23 => 36 | 25 => 2 | 3 => 3 | 32 => 196 | 22 => 36 | 0 => 0 | 44 => 271 | 46 => 171 | 4 => 4 | 36 => 263 | 35 => 262 | 41 => 268 | 5 => 5 | 9 => 9 | 53 => 293 | 57 => 297 | 63 => 310 | 64 => 311 | n => n, fun | n => n⟩
theorem Tryz.laysSlM5_f68 : Go.Proofs.SlLaysM.n5 Tryz.prog Tryz.laysSlM5_f68_ren := {
 mixed := by kernel_rfl
 f5 := ⟨Tryz.f68.name, by decide, Tryz.func68.trans (congrArg some (by kernel_rfl))⟩
 f7 := ⟨Tryz.f141.name, by decide, Tryz.func141.trans (congrArg some (by kernel_rfl))⟩
 f8 := Tryz.func142.trans (congrArg some (by kernel_rfl))
 f10 := ⟨Tryz.f213.name, by decide, Tryz.func213.trans (congrArg some (by kernel_rfl))⟩
 f11 := ⟨Tryz.f214.name, by decide, Tryz.func214.trans (congrArg some (by kernel_rfl))⟩
 f12 := ⟨Tryz.f215.name, by decide, Tryz.func215.trans (congrArg some (by kernel_rfl))⟩
 f13 := ⟨Tryz.f216.name, by decide, Tryz.func216.trans (congrArg some (by kernel_rfl))⟩
 f14 := ⟨Tryz.f217.name, by decide, Tryz.func217.trans (congrArg some (by kernel_rfl))⟩
 f15 := ⟨Tryz.f218.name, by decide, Tryz.func218.trans (congrArg some (by kernel_rfl))⟩
 f16 := ⟨Tryz.f219.name, by decide, Tryz.func219.trans (congrArg some (by kernel_rfl))⟩
 f17 := ⟨Tryz.f220.name, by decide, Tryz.func220.trans (congrArg some (by kernel_rfl))⟩
 f18 := ⟨Tryz.f221.name, by decide, Tryz.func221.trans (congrArg some (by kernel_rfl))⟩
 f19 := Tryz.func222.trans (congrArg some (by kernel_rfl))
 f20 := Tryz.func223.trans (congrArg some (by kernel_rfl))
 f30 := ⟨Tryz.f248.name, by decide, Tryz.func248.trans (congrArg some (by kernel_rfl))⟩
 f31 := Tryz.func249.trans (congrArg some (by kernel_rfl))
 f32 := Tryz.func250.trans (congrArg some (by kernel_rfl))
 f33 := ⟨Tryz.f251.name, by decide, Tryz.func251.trans (congrArg some (by kernel_rfl))⟩
 f34 := ⟨Tryz.f252.name, by decide, Tryz.func252.trans (congrArg some (by kernel_rfl))⟩
 f35 := ⟨Tryz.f253.name, by decide, Tryz.func253.trans (congrArg some (by kernel_rfl))⟩
 f40 := ⟨Tryz.f268.name, by decide, Tryz.func268.trans (congrArg some (by kernel_rfl))⟩
 t0 := Tryz.underlying0
 a0 := Tryz.isAgg0
 z0 := Tryz.sizeOf0
 v0 := Tryz.zeroValue0
 t3 := Tryz.underlying3
 a3 := Tryz.isAgg3
 z3 := Tryz.sizeOf3
 v3 := Tryz.zeroValue3
 t4 := Tryz.underlying4
 a4 := Tryz.isAgg4
 z4 := Tryz.sizeOf4
 v4 := Tryz.zeroValue4
 t5 := Tryz.underlying5
 a5 := Tryz.isAgg5
 z5 := Tryz.sizeOf5
 v5 := Tryz.zeroValue5
 t9 := Tryz.underlying9
 a9 := Tryz.isAgg9
 z9 := Tryz.sizeOf9
 v9 := Tryz.zeroValue9
 t22 := Tryz.underlying36
 a22 := Tryz.isAgg36
 z22 := Tryz.sizeOf36
 v22 := Tryz.zeroValue36
 t23 := Tryz.underlying36
 a23 := Tryz.isAgg36
 z23 := Tryz.sizeOf36
 v23 := Tryz.zeroValue36
 t25 := Tryz.underlying2
 a25 := Tryz.isAgg2
 z25 := Tryz.sizeOf2
 v25 := Tryz.zeroValue2
 t32 := Tryz.underlying196
 a32 := Tryz.isAgg196
 z32 := Tryz.sizeOf196
 v32 := Tryz.zeroValue196
 t35 := Tryz.underlying262
 a35 := Tryz.isAgg262
 z35 := Tryz.sizeOf262
 v35 := Tryz.zeroValue262
 t36 := Tryz.underlying263
 a36 := Tryz.isAgg263
 z36 := Tryz.sizeOf263
 v36 := Tryz.zeroValue263
 t41 := Tryz.underlying268
 a41 := Tryz.isAgg268
 z41 := Tryz.sizeOf268
 v41 := Tryz.zeroValue268
 t44 := Tryz.underlying271
 a44 := Tryz.isAgg271
 z44 := Tryz.sizeOf271
 v44 := Tryz.zeroValue271
 t46 := Tryz.underlying171
 a46 := Tryz.isAgg171
 z46 := Tryz.sizeOf171
 v46 := Tryz.zeroValue171
 t53 := Tryz.underlying293
 a53 := Tryz.isAgg293
 z53 := Tryz.sizeOf293
 v53 := Tryz.zeroValue293
 t57 := Tryz.underlying297
 a57 := Tryz.isAgg297
 z57 := Tryz.sizeOf297
 v57 := Tryz.zeroValue297
 t63 := Tryz.underlying310
 a63 := Tryz.isAgg310
 z63 := Tryz.sizeOf310
 v63 := Tryz.zeroValue310
 t64 := Tryz.underlying311
 a64 := Tryz.isAgg311
 z64 := Tryz.sizeOf311
 v64 := Tryz.zeroValue311 }
open Go.Sort Go.RowKit in
theorem Tryz.slices_Sort_int (blk off cap : Nat) (zs : List Int) (w : World) (hH : Holds (Value.int .i64) w blk off zs.toArray) (hblk : blk < w.heap.size) (hsz : zs.length < 4611686018427387904) :
  Calls Tryz.prog 68 #[.slice (some ⟨blk, off, none⟩) zs.length cap] w fun e w' =>
   e = .returned (.tuple #[]) /\ ∃ n os, w' = grow (putRow (Value.int .i64) (Sort.ahead w n) blk off (zs.mergeSort fun x y => decide (x <= y)).toArray) os := AnyM.slices_Sort_int Tryz.laysSlM5_f68 blk off cap zs w hH hblk hsz
end Go.Proofs

namespace Go.Proofs.YthcmnkmfhgoddaaGreatDoor.Dp
open Go.RowKit Bnd
open Go.Proofs.YthcmnkmfhgoddaaGreatDoor.Ds (OwnI infoI)
open Go.Proofs.YthcmnkmfhgoddaaGreatDoor.Od (Pr SP OwnP ArgP infoP pcells)
theorem eqlI : EqlAt Tryz.prog 2 (Value.int .i64) (fun x y => decide (x = y)) := EqlAt.intD Tryz.prog 2 .i64
theorem neqI : NeqAt Tryz.prog 2 (Value.int .i64) (fun x y => decide (x = y)) := NeqAt.intD Tryz.prog 2 .i64
theorem contains_any (v : Value) (ns : List Int) (x : Int) (w : World) (hv : SI w w.heap.size v ns) (hl : ns.length <= 140737488355328) :
  Calls Tryz.prog 64 #[v, .int .i64 x] w fun e w' => e = .returned (.bool (decide (x ∈ ns))) /\ w' = w := by
 obtain ⟨A, c, rfl⟩ := hv.form
 by_cases h0 : ns.length = 0
 ·obtain rfl : ns = [] := List.length_eq_zero_iff.1 h0
  refine (Tryz.slices_Contains_empty (α := Int) A c (.int .i64 x) w).mono ?_
  rintro e w' ⟨rfl, rfl⟩
  exact ⟨by simp, rfl⟩
 ·obtain ⟨b, o, rfl, _, _⟩ := hv.at_ (k := 0) (by omega)
  refine (Tryz.slices_Contains (Value.int .i64) _ eqlI b o ns.length c ns x w (Nat.le_refl _) (by omega) fun j hj => ?_).mono ?_
  ·obtain ⟨b', o', e, _, q⟩ := hv.at_ hj
   cases e
   rw [q, getElem!_pos ns j hj]
  ·rintro e w' ⟨rfl, rfl⟩
   refine ⟨?_, rfl⟩
   rw [List.take_of_length_le (Nat.le_refl _)]
   congr 2
   rw [Bool.eq_iff_iff]
   simp only [List.any_eq_true, decide_eq_true_eq]
   exact ⟨fun ⟨y, hy, e⟩ => e ▸ hy, fun h => ⟨x, h, rfl⟩⟩
set_option maxHeartbeats 4000000 in
set_option maxRecDepth 100000 in
theorem growI_any (n : Nat) (w : World) (hn : n <= 10000000) :
  Calls Tryz.prog 140 #[.slice none 0 0, .int .i64 (n : Int)] w fun e w' => ∃ v', e = .returned v' /\ OwnI w' w.heap.size v' [] /\ Below w.heap.size w w' := by
 by_cases h0 : n = 0
 ·subst h0
  go_enter Tryz.func140, Tryz.ntmps140
  go_wp2_with fail
  go_ret
  exact ⟨_, rfl, ⟨rfl, .inl ⟨rfl, rfl⟩⟩, Below.refl _ _⟩
 ·obtain ⟨i0, hi, hz0, hz1, hz2⟩ := info_parts infoI
  have hG := grownCap_le_maxLen w (0 + n) 0 2 (by unfold maxLen; omega)
  have hGn := grownCap_ge w (0 + n) 0 2
  have hr := fun ty => Lib.run_append_grow_zeros (P := Tryz.prog) w 36 3 ty 2 i0 (.int .i64 0) .i64 .i64 Tryz.underlying36 Tryz.underlying3 hi hz0 none 0 0 [] (run_firstCells_none w.drew i0.size 0 0 0) n (by omega) (by omega) (by omega) (by omega) (by rw [hz2]; omega) (growslice_fits (by omega) (by rw [hz2]; omega))
  obtain ⟨G, hGe⟩ : ∃ G, grownCap w (0 + n) 0 2 = G := ⟨_, rfl⟩
  rw [hGe] at hr hG hGn
  simp only [Nat.zero_add] at hr hGn
  obtain ⟨cells, hc⟩ : ∃ cells : Array Value, ([].toArray ++ Builtin.zeroCells (.int .i64 0 : Value).cells n ++ Builtin.zeroCells (.int .i64 0 : Value).cells (G - n)) = cells := ⟨_, rfl⟩
  have hcs : cells.size = G * 1 := by rw [<- hc]; simp only [Array.size_append, size_zeroCells, show (.int .i64 0 : Value).cells.size = 1 from rfl, List.toArray, Array.size_empty]; simp; omega
  rw [hc] at hr
  have hn0 : ((n : Int) > 0) = True := eq_true (by omega)
  have hn1 : ((n : Int) < 0) = False := eq_false (by omega)
  have hw : IntKind.i64.wrap ((n : Int) - 0) = (n : Int) := by rw [IntKind.wrap_i64] <;> omega
  clear hc hGe
  go_enter Tryz.func140, Tryz.ntmps140
  go_wp2_with (at_builtin; refine Lib.wpList_append_run _ rfl _ _ _ _ rfl _ _ rfl rfl _ _ (hr _) ?_)
  go_ret
  exact ⟨_, rfl, ⟨rfl, .inr ⟨w.heap.size, G, cells, by simp, Nat.le_refl _, heap_alloc_new w.drew _, Nat.zero_le _, hG, hcs, rfl⟩⟩, ((Below.refl _ w).drew).alloc (by simp) _⟩
set_option maxHeartbeats 4000000 in
set_option maxRecDepth 100000 in
theorem growP_any (n : Nat) (w : World) (hn : n <= 1000000) :
  Calls Tryz.prog 143 #[.slice none 0 0, .int .i64 (n : Int)] w fun e w' => ∃ v', e = .returned v' /\ OwnP w' w.heap.size v' [] /\ Below w.heap.size w w' := by
 by_cases h0 : n = 0
 ·subst h0
  go_enter Tryz.func143, Tryz.ntmps143
  go_wp2_with fail
  go_ret
  exact ⟨_, rfl, ⟨rfl, .inl ⟨rfl, rfl⟩⟩, Below.refl _ _⟩
 ·obtain ⟨i0, hi, hz0, hz1, hz2⟩ := info_parts infoP
  have hG := grownCap_le_maxLen w (0 + n) 0 85 (by unfold maxLen; omega)
  have hGn := grownCap_ge w (0 + n) 0 85
  have hr := fun ty => Lib.run_append_grow_zeros (P := Tryz.prog) w 34 3 ty 85 i0 (.agg #[.string ⟨#[]⟩, .string ⟨#[]⟩]) .i64 .i64 Tryz.underlying34 Tryz.underlying3 hi hz0 none 0 0 [] (run_firstCells_none w.drew i0.size 0 0 0) n (by omega) (by omega) (by omega) (by omega) (by rw [hz2]; omega) (growslice_fits (by omega) (by rw [hz2]; omega))
  obtain ⟨G, hGe⟩ : ∃ G, grownCap w (0 + n) 0 85 = G := ⟨_, rfl⟩
  rw [hGe] at hr hG hGn
  simp only [Nat.zero_add] at hr hGn
  obtain ⟨cells, hc⟩ : ∃ cells : Array Value, ([].toArray ++ Builtin.zeroCells (.agg #[.string ⟨#[]⟩, .string ⟨#[]⟩] : Value).cells n ++ Builtin.zeroCells (.agg #[.string ⟨#[]⟩, .string ⟨#[]⟩] : Value).cells (G - n)) = cells := ⟨_, rfl⟩
  have hcs : cells.size = G * 2 := by rw [<- hc]; simp only [Array.size_append, size_zeroCells, show (.agg #[.string ⟨#[]⟩, .string ⟨#[]⟩] : Value).cells.size = 2 from rfl, List.toArray, Array.size_empty]; simp; omega
  rw [hc] at hr
  have hn0 : ((n : Int) > 0) = True := eq_true (by omega)
  have hn1 : ((n : Int) < 0) = False := eq_false (by omega)
  have hw : IntKind.i64.wrap ((n : Int) - 0) = (n : Int) := by rw [IntKind.wrap_i64] <;> omega
  clear hc hGe
  go_enter Tryz.func143, Tryz.ntmps143
  go_wp2_with (at_builtin; refine Lib.wpList_append_run _ rfl _ _ _ _ rfl _ _ rfl rfl _ _ (hr _) ?_)
  go_ret
  exact ⟨_, rfl, ⟨rfl, .inr ⟨w.heap.size, G, cells, by simp, Nat.le_refl _, heap_alloc_new w.drew _, Nat.zero_le _, hG, hcs, rfl⟩⟩, ((Below.refl _ w).drew).alloc (by simp) _⟩
def SameW (w w' : World) : Prop := w' = w
def cat3 {α : Type} (a b c : List α) : Nat -> List α
 | 0 => []
 | 1 => a
 | 2 => a ++ b
 | _ => a ++ b ++ c
set_option maxHeartbeats 8000000 in
set_option maxRecDepth 100000 in
theorem concatI_any (b : Nat) (va vb vc : Value) (xa xb xc : List Int) (w : World) (h0 : w.cell? ⟨b, 0, none⟩ = some va) (h1 : w.cell? ⟨b, 1, none⟩ = some vb) (h2 : w.cell? ⟨b, 2, none⟩ = some vc) (hb : b < w.heap.size)
  (ha : ArgI w va xa) (hb' : ArgI w vb xb) (hc : ArgI w vc xc) (la : xa.length <= 1000000) (lb : xb.length <= 1000000) (lc : xc.length <= 1000000) :
  Calls Tryz.prog 67 #[.slice (some ⟨b, 0, none⟩) 3 3] w fun e w' => ∃ v', e = .returned v' /\ OwnI w' w.heap.size v' (xa ++ xb ++ xc) /\ Below w.heap.size w w' := by
 obtain ⟨A, ca, rfl⟩ := ha.si.form
 obtain ⟨B, cb, rfl⟩ := hb'.si.form
 obtain ⟨C, cc, rfl⟩ := hc.si.form
 obtain ⟨na, hna⟩ : ∃ n, xa.length = n := ⟨_, rfl⟩
 obtain ⟨nb, hnb⟩ : ∃ n, xb.length = n := ⟨_, rfl⟩
 obtain ⟨nc, hnc⟩ : ∃ n, xc.length = n := ⟨_, rfl⟩
 rw [hna] at la h0 ha
 rw [hnb] at lb h1 hb'
 rw [hnc] at lc h2 hc
 have HNA := Lib.hid hna
 have HNB := Lib.hid hnb
 have HNC := Lib.hid hnc
 have HA := Lib.hid ha
 have HB := Lib.hid hb'
 have HC := Lib.hid hc
 have cg := fun w => growI_any (na + nb + nc) w (by omega)
 obtain ⟨S, hS⟩ : ∃ S, na + nb + nc = S := ⟨_, rfl⟩
 have w1 : IntKind.i64.wrap ((0 : Int) + (na : Int)) = (na : Int) := by rw [IntKind.wrap_i64] <;> omega
 have w2 : IntKind.i64.wrap ((na : Int) + (nb : Int)) = ((na + nb : Nat) : Int) := by rw [IntKind.wrap_i64] <;> omega
 have w3 : IntKind.i64.wrap (((na + nb : Nat) : Int) + (nc : Int)) = (S : Int) := by rw [IntKind.wrap_i64] <;> omega
 clear hna hnb hnc ha hb' hc
 go_enter Tryz.func67, Tryz.ntmps67
 go_wp2_with fail
 go_loopw [3, 5, 11] (fun v3 _ vi wr => ∃ k : Nat, k <= 3 /\ vi = .int .i64 (k : Int) /\ v3 = .int .i64 (match k with | 0 => 0 | 1 => (na : Int) | 2 => ((na + nb : Nat) : Int) | _ => (S : Int)) /\ SameW w wr) (fun _ _ vi _ => 3 - (intOf vi).toNat)
 case atStart => exact ⟨0, by omega, rfl, rfl, rfl⟩
 case round =>
  obtain ⟨k, hk, rfl, rfl, hsw⟩ := hrel
  have hsw' : w = wr := hsw.symm
  subst hsw'
  obtain rfl | rfl | rfl | rfl : k = 0 \/ k = 1 \/ k = 2 \/ k = 3 := by omega
  ·have g0 : (((na : Nat) : Int) < 0) = False := eq_false (by omega)
   simp only
   go_wp2_with fail
   go_roundw
   case rel => exact ⟨1, by omega, rfl, by simp only, rfl⟩
   case measure => simp [intOf]
  ·have g0 : (((na + nb : Nat) : Int) < 0) = False := eq_false (by omega)
   simp only
   go_wp2_with fail
   go_roundw
   case rel => exact ⟨2, by omega, rfl, rfl, rfl⟩
   case measure => simp [intOf]
  ·have g0 : ((S : Int) < 0) = False := eq_false (by omega)
   simp only
   go_wp2_with fail
   go_roundw
   case rel => exact ⟨3, by omega, rfl, congrArg (Value.int .i64) (by show _ = (S : Int); omega), rfl⟩
   case measure => simp [intOf]
  ·simp only
   rw [hS] at cg
   go_wp2_with fail
   refine (cg w).mono ?_
   rintro e w1 ⟨v1, rfl, O1, b1⟩
   go_wp2_with fail
   go_loopw [6, 8, 27] (fun v6 _ vi wr2 => ∃ k : Nat, k <= 3 /\ vi = .int .i64 (k : Int) /\ OwnI wr2 w.heap.size v6 (cat3 xa xb xc k) /\ Below w.heap.size w wr2) (fun _ _ vi _ => 3 - (intOf vi).toNat)
   case atStart => exact ⟨0, by omega, rfl, O1, b1⟩
   case round =>
    obtain ⟨k, hk, rfl, hown, hbw⟩ := hrel
    obtain ⟨A6, c6, rfl⟩ := (SI.of_own hown).form
    have g0 := (hbw.cell (p := ⟨b, 0, none⟩) hb).trans h0
    have g1 := (hbw.cell (p := ⟨b, 1, none⟩) hb).trans h1
    have g2 := (hbw.cell (p := ⟨b, 2, none⟩) hb).trans h2
    obtain rfl | rfl | rfl | rfl : k = 0 \/ k = 1 \/ k = 2 \/ k = 3 := by omega
    ·have hown' : OwnI wr w.heap.size (.slice A6 ([]).length c6) ([]) := hown
     have HO := Lib.hid hown'
     clear hown'
     go_wp2_with (at_builtin; refine wpList_append_ints rfl _ _ rfl w.heap.size _ ([]) rfl HO.out hbw.size _ xa rfl (HA.out.keep hbw) (by have := HNA.out; simp; omega) ?_)
     intro v' w3 O3 b3 _
     have HO3 := Lib.hid O3
     have B3 := hbw.trans b3
     clear O3 b3
     go_wp2_with fail
     go_roundw
     case rel => exact ⟨1, by omega, rfl, HO3.out, B3⟩
     case measure => simp [intOf]
    ·have hown' : OwnI wr w.heap.size (.slice A6 (xa).length c6) (xa) := hown
     have HO := Lib.hid hown'
     clear hown'
     go_wp2_with (at_builtin; refine wpList_append_ints rfl _ _ rfl w.heap.size _ (xa) rfl HO.out hbw.size _ xb rfl (HB.out.keep hbw) (by have := HNA.out; have := HNB.out; omega) ?_)
     intro v' w3 O3 b3 _
     have HO3 := Lib.hid O3
     have B3 := hbw.trans b3
     clear O3 b3
     go_wp2_with fail
     go_roundw
     case rel => exact ⟨2, by omega, rfl, HO3.out, B3⟩
     case measure => simp [intOf]
    ·have hown' : OwnI wr w.heap.size (.slice A6 (xa ++ xb).length c6) (xa ++ xb) := hown
     have HO := Lib.hid hown'
     clear hown'
     go_wp2_with (at_builtin; refine wpList_append_ints rfl _ _ rfl w.heap.size _ (xa ++ xb) rfl HO.out hbw.size _ xc rfl (HC.out.keep hbw) (by have := HNA.out; have := HNB.out; have := HNC.out; simp; omega) ?_)
     intro v' w3 O3 b3 _
     have HO3 := Lib.hid O3
     have B3 := hbw.trans b3
     clear O3 b3
     go_wp2_with fail
     go_roundw
     case rel => exact ⟨3, by omega, rfl, by show OwnI _ _ _ (xa ++ xb ++ xc); rw [List.append_assoc]; exact HO3.out, B3⟩
     case measure => simp [intOf]
    ·have HO := Lib.hid hown
     clear hown
     go_wp2_with fail
     go_ret
     exact ⟨_, rfl, HO.out, hbw⟩
def cat2 {α : Type} (a b : List α) : Nat -> List α
 | 0 => []
 | 1 => a
 | _ => a ++ b
set_option maxHeartbeats 8000000 in
set_option maxRecDepth 100000 in
theorem concatP_any (b : Nat) (va vb : Value) (xa xb : List Pr) (w : World) (h0 : w.cell? ⟨b, 0, none⟩ = some va) (h1 : w.cell? ⟨b, 1, none⟩ = some vb) (hb : b < w.heap.size)
  (ha : ArgP w va xa) (hb' : ArgP w vb xb) (la : xa.length <= 100000) (lb : xb.length <= 100000) :
  Calls Tryz.prog 70 #[.slice (some ⟨b, 0, none⟩) 2 2] w fun e w' => ∃ v', e = .returned v' /\ OwnP w' w.heap.size v' (xa ++ xb) /\ Below w.heap.size w w' := by
 obtain ⟨A, ca, rfl⟩ := ha.sm.form
 obtain ⟨B, cb, rfl⟩ := hb'.sm.form
 obtain ⟨na, hna⟩ : ∃ n, xa.length = n := ⟨_, rfl⟩
 obtain ⟨nb, hnb⟩ : ∃ n, xb.length = n := ⟨_, rfl⟩
 rw [hna] at la h0 ha
 rw [hnb] at lb h1 hb'
 have HNA := Lib.hid hna
 have HNB := Lib.hid hnb
 have HA := Lib.hid ha
 have HB := Lib.hid hb'
 have cg := fun w => growP_any (na + nb) w (by omega)
 obtain ⟨S, hS⟩ : ∃ S, na + nb = S := ⟨_, rfl⟩
 have w1 : IntKind.i64.wrap ((0 : Int) + (na : Int)) = (na : Int) := by rw [IntKind.wrap_i64] <;> omega
 have w2 : IntKind.i64.wrap ((na : Int) + (nb : Int)) = (S : Int) := by rw [IntKind.wrap_i64] <;> omega
 clear hna hnb ha hb'
 go_enter Tryz.func70, Tryz.ntmps70
 go_wp2_with fail
 go_loopw [3, 5, 11] (fun v3 _ vi wr => ∃ k : Nat, k <= 2 /\ vi = .int .i64 (k : Int) /\ v3 = .int .i64 (match k with | 0 => 0 | 1 => (na : Int) | _ => (S : Int)) /\ SameW w wr) (fun _ _ vi _ => 2 - (intOf vi).toNat)
 case atStart => exact ⟨0, by omega, rfl, rfl, rfl⟩
 case round =>
  obtain ⟨k, hk, rfl, rfl, hsw⟩ := hrel
  have hsw' : w = wr := hsw.symm
  subst hsw'
  obtain rfl | rfl | rfl : k = 0 \/ k = 1 \/ k = 2 := by omega
  ·have g0 : (((na : Nat) : Int) < 0) = False := eq_false (by omega)
   simp only
   go_wp2_with fail
   go_roundw
   case rel => exact ⟨1, by omega, rfl, by simp only, rfl⟩
   case measure => simp [intOf]
  ·have g0 : ((S : Int) < 0) = False := eq_false (by omega)
   simp only
   go_wp2_with fail
   go_roundw
   case rel => exact ⟨2, by omega, rfl, congrArg (Value.int .i64) (by show _ = (S : Int); omega), rfl⟩
   case measure => simp [intOf]
  ·simp only
   rw [hS] at cg
   go_wp2_with fail
   refine (cg w).mono ?_
   rintro e w1 ⟨v1, rfl, O1, b1⟩
   go_wp2_with fail
   go_loopw [6, 8, 27] (fun v6 _ vi wr => ∃ k : Nat, k <= 2 /\ vi = .int .i64 (k : Int) /\ OwnP wr w.heap.size v6 (cat2 xa xb k) /\ Below w.heap.size w wr) (fun _ _ vi _ => 2 - (intOf vi).toNat)
   case atStart => exact ⟨0, by omega, rfl, O1, b1⟩
   case round =>
    obtain ⟨k, hk, rfl, hown, hbw⟩ := hrel
    obtain ⟨A6, c6, rfl⟩ := (SP.of_own hown).form
    have g0 := (hbw.cell (p := ⟨b, 0, none⟩) hb).trans h0
    have g1 := (hbw.cell (p := ⟨b, 1, none⟩) hb).trans h1
    obtain rfl | rfl | rfl : k = 0 \/ k = 1 \/ k = 2 := by omega
    ·have hown' : OwnP wr w.heap.size (.slice A6 ([] : List Pr).length c6) ([]) := hown
     have HO := Lib.hid hown'
     clear hown'
     go_wp2_with (at_builtin; refine Od.wpList_append_ps rfl _ _ rfl w.heap.size _ ([]) rfl HO.out hbw.size _ xa rfl (HA.out.keep hbw) (by have := HNA.out; simp; omega) ?_)
     intro v' w3 O3 b3 _
     have HO3 := Lib.hid O3
     have B3 := hbw.trans b3
     clear O3 b3
     go_wp2_with fail
     go_roundw
     case rel => exact ⟨1, by omega, rfl, HO3.out, B3⟩
     case measure => simp [intOf]
    ·have hown' : OwnP wr w.heap.size (.slice A6 (xa).length c6) (xa) := hown
     have HO := Lib.hid hown'
     clear hown'
     go_wp2_with (at_builtin; refine Od.wpList_append_ps rfl _ _ rfl w.heap.size _ (xa) rfl HO.out hbw.size _ xb rfl (HB.out.keep hbw) (by have := HNA.out; have := HNB.out; omega) ?_)
     intro v' w3 O3 b3 _
     have HO3 := Lib.hid O3
     have B3 := hbw.trans b3
     clear O3 b3
     go_wp2_with fail
     go_roundw
     case rel => exact ⟨2, by omega, rfl, HO3.out, B3⟩
     case measure => simp [intOf]
    ·have HO := Lib.hid hown
     clear hown
     go_wp2_with fail
     go_ret
     exact ⟨_, rfl, HO.out, hbw⟩
theorem ownI_row {w : World} {base : Nat} {v : Value} {ns : List Int} (h : OwnI w base v ns) (h0 : 0 < ns.length) : ∃ g cap cur, v = .slice (some ⟨g, 0, none⟩) ns.length cap /\ base <= g /\ w.heap[g]? = some (.cells cur 2 (0, 0)) /\ ns.length <= cap /\ cap <= maxLen /\ cur.size = cap * 1 /\ cur.toList.take ns.length = ns.map (Value.int .i64) := by
 rcases h.2 with ⟨_, e⟩ | ⟨g, cap, cur, e, h1, h2, h3, h4, h5, h6⟩
 ·omega
 ·exact ⟨g, cap, cur, e, h1, h2, h3, h4, h5, by simpa using h6⟩
abbrev sorted (ns : List Int) : List Int := ns.mergeSort fun x y => decide (x <= y)
theorem sorted_le (ns : List Int) : (sorted ns).Pairwise (· <= ·) := by
 have := List.pairwise_mergeSort (le := fun x y : Int => decide (x <= y)) (fun a b c h1 h2 => by simp at *; omega) (fun a b => by simp; omega) ns
 exact this.imp fun h => by simpa using h
theorem mem_sorted {x : Int} {ns : List Int} : x ∈ sorted ns ↔ x ∈ ns := (List.mergeSort_perm ns _).mem_iff
theorem sort_any (v : Value) (ns : List Int) (w : World) (base : Nat) (h : OwnI w base v ns) (h0 : 0 < ns.length) (hb : base <= w.heap.size) (hl : ns.length <= 1000000) :
  Calls Tryz.prog 68 #[v] w fun e w' => e = .returned (.tuple #[]) /\ OwnI w' base v (sorted ns) /\ Below base w w' := by
 obtain ⟨g, cap, cur, rfl, h1, h2, h3, h4, h5, h6⟩ := ownI_row h h0
 have hg : g < w.heap.size := (Array.getElem?_eq_some_iff.1 h2).1
 refine (Tryz.slices_Sort_int g 0 cap ns w (holds_of_blockI h2 h6) hg (by omega)).mono ?_
 rintro e w' ⟨rfl, n, os, rfl⟩
 have hs : (sorted ns).length = ns.length := List.length_mergeSort _
 refine ⟨rfl, ?_, (Below.refl _ w).grown (grownBy_sortedI _) hb (fun k hk => by obtain rfl := Option.some.inj hk; exact h1)⟩
 have := ownsRow_sortedI (n := n) (os := os) hs h1 h2 h3 h4 h5
 show World.ownsRow _ _ _ _ _ (sorted ns).length _
 rw [hs]
 exact this
theorem once_snoc (y x : Int) : ∀ l : List Int, onceE (l ++ [y, x]) = if y = x then onceE (l ++ [y]) else onceE (l ++ [y]) ++ [x]
 | [] => by
  simp only [List.nil_append, onceE]
  split
  ·rename_i h; rw [h]
  ·rfl
 | [a] => by
  simp only [List.cons_append, List.nil_append, onceE]
  split
  ·rename_i h; subst h; split
   ·rename_i h; rw [h]
   ·rfl
  ·split
   ·rename_i h; subst h; simp
   ·simp
 | a :: b :: l => by
  have := once_snoc y x (b :: l)
  simp only [List.cons_append, onceE] at this ⊢
  split
  ·exact this
  ·rw [this]; split <;> simp
theorem compact_once (ns : List Int) : ∀ m, m <= ns.length -> Lib.compactUpTo ns.toArray m = onceE (ns.take m)
 | 0, _ => by simp [Lib.compactUpTo, onceE]
 | 1, h => by
  have : ns.take 1 = [ns[0]] := by rw [List.take_succ_eq_append_getElem (by omega)]; rfl
  rw [this, Lib.compactUpTo_succ, Lib.keeps_lt_one ns.toArray 0 (by omega)]
  simp [Lib.compactUpTo, onceE, getElem!_pos ns 0 (by omega)]
 | m + 2, h => by
  rw [Lib.compactUpTo_succ, compact_once ns (m + 1) (by omega)]
  have e1 : ns.take (m + 1) = ns.take m ++ [ns[m]] := List.take_succ_eq_append_getElem (by omega)
  have e2 : ns.take (m + 2) = ns.take m ++ [ns[m], ns[m + 1]] := by rw [List.take_succ_eq_append_getElem (i := m + 1) (by omega), e1, List.append_assoc]; rfl
  rw [e2, once_snoc, <- e1]
  have g0 : ns.toArray[m]! = ns[m] := by simp [getElem!_pos ns m (by omega)]
  have g1 : ns.toArray[m + 1]! = ns[m + 1] := by simp [getElem!_pos ns (m + 1) (by omega)]
  by_cases he : ns[m] = ns[m + 1]
  ·rw [if_pos he, Lib.keeps_neg (by omega) (by rw [Nat.add_sub_cancel, g0, g1, he])]; simp
  ·rw [if_neg he, Lib.keeps_pos (by rw [Nat.add_sub_cancel, g0, g1]; exact fun e => he e.symm), g1]; simp
theorem compact_any (v : Value) (ns : List Int) (w : World) (base : Nat) (h : OwnI w base v ns) (h0 : 0 < ns.length) (hb : base <= w.heap.size) (hl : ns.length <= 1000000) :
  Calls Tryz.prog 69 #[v] w fun e w' => ∃ v', e = .returned v' /\ OwnI w' base v' (onceE ns) /\ Below base w w' := by
 obtain ⟨g, cap, cur, rfl, h1, h2, h3, h4, h5, h6⟩ := ownI_row h h0
 have hg : g < w.heap.size := (Array.getElem?_eq_some_iff.1 h2).1
 have hc := Tryz.slices_Compact (Value.int .i64) (fun x => rfl) eqlI neqI 0 (fun w => Tryz.zeroValue2 w) g 0 cap ns.toArray w (holds_of_blockI h2 h6) (by simp; omega) (by simpa using h3)
 have e1 : Lib.compactUpTo ns.toArray ns.toArray.size = onceE ns := by
  have := compact_once ns ns.length (Nat.le_refl _)
  rw [List.take_of_length_le (Nat.le_refl _)] at this
  simpa using this
 rw [e1] at hc
 refine hc.mono ?_
 rintro e w' ⟨rfl, q, rfl⟩
 have hle : (onceE ns).length <= ns.length := by
  rw [<- e1]
  unfold Lib.compactUpTo
  rw [List.length_map]
  refine Nat.le_trans (List.length_filter_le _ _) (by simp)
 obtain ⟨ts, hts⟩ : ∃ ts, onceE ns ++ List.replicate (ns.toArray.size - (onceE ns).length) (0 : Int) = ts := ⟨_, rfl⟩
 have hlt : ts.length = ns.length := by rw [<- hts]; simp; omega
 rw [hts]
 have O := ownsRow_sortedI (n := q) (os := #[]) hlt h1 h2 h3 h4 h5
 rw [Go.Sort.grow_empty] at O
 have hB := grownBy_sortedI (w := w) (n := q) (g := g) (os := #[]) ts.toArray
 rw [Go.Sort.grow_empty] at hB
 refine ⟨_, rfl, ?_, (Below.refl _ w).grown hB hb (fun k hk => by obtain rfl := Option.some.inj hk; exact h1)⟩
 rcases O.2 with ⟨e, _⟩ | ⟨g', cap', cur', e, k1, k2, k3, k4, k5, k6⟩
 ·cases e
 ·cases e
  refine ⟨by simp, .inr ⟨g, cap, cur', rfl, k1, k2, by omega, k4, k5, ?_⟩⟩
  have h7 := congrArg (List.take (onceE ns).length) k6
  rw [List.take_take, Nat.mul_one, Nat.min_eq_left hle, <- hts] at h7
  rw [Nat.mul_one, h7]
  simp
end Go.Proofs.YthcmnkmfhgoddaaGreatDoor.Dp

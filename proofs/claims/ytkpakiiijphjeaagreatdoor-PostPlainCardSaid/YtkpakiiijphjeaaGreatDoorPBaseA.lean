/-
  A strings.Builder of the call's own, over this program: copyCheck, WriteByte, WriteString; and the world as each call finds it. Conditions: the new length at most 2^47 bytes; the builder was made by the call.
  knot.Num, for every int64: the decimal numeral; nothing that was there has turned. No condition beyond the type's own bounds.
  THE PLAIN MATHEMATICS OF PACKAGE knot, its third part, of no program: sums, seals, and that one spoilt byte shows. No condition.
  The sums: the document's answer and knot.Sum, at every text. Condition: the text's length is a Go length.
  The seals: knot.hex, Seal, Open, and the document's answers to them, at every text. Condition: lengths below 2^47.
  knot.Open and the document's answer to it, at every text. Condition: lengths below 2^47.
-/
import Derived.Test.YtkpakiiijphjeaaGreatDoorPShelf
import Derived.WalkKit
import Derived.BigCall
import Derived.Lib.Hide
import Derived.Laws.IdiomStrings
import Derived.Test.YtkpakiiijphjeaaGreatDoorPOrdA
import Derived.Laws.BitsAllLaws
import Derived.RegionTactic
import Derived.ChangeAlike
import Derived.Deep.RegionHeld3
import Derived.Deep.DrawnRows
import Derived.Deep.QuietTactic
import Derived.BigQuiet
namespace Go.Proofs.YtkpakiiijphjeaaGreatDoor
open Go.RowKit
theorem sizeB : (Tryz.prog.info? 119).map (fun i => i.size) = some 2 := by kernel_rfl
theorem liesB : liesAt Tryz.prog Tryz.prog.depth 119 (2 / Tryz.prog.cellsOf 119) 0 119 1 = true := by kernel_rfl
theorem infoByte : (Tryz.prog.info? 5).map (fun i => (i.zero, i.size, i.bytes)) = some (some (.int .u8 0), 1, 1) := by kernel_rfl
theorem infoStr : (Tryz.prog.info? 9).map (fun i => (i.zero, i.size, i.bytes)) = some (some (.string ⟨#[]⟩), 1, 16) := by kernel_rfl
set_option maxHeartbeats 1000000 in
set_option maxRecDepth 100000 in
theorem copyCheck_used (b : Nat) (w : World) (h0 : w.cell? ⟨b, 0, none⟩ = some (.pointer (some ⟨b, 0, none⟩))) :
    Calls Tryz.prog 99 #[.pointer (some ⟨b, 0, none⟩)] w fun e w' => e = .returned (.tuple #[]) ∧ w' = w := by
  obtain ⟨j, hj, _⟩ := Option.map_eq_some_iff.1 sizeB
  go_enter Tryz.func99, Tryz.ntmps99
  go_wp2
  rw [Lib.run_neq_ptr_same w _ Tryz.underlying117 hj]
  go_wp2
  go_end0
  exact ⟨rfl, rfl⟩
set_option maxHeartbeats 1000000 in
set_option maxRecDepth 100000 in
theorem copyCheck_fresh (b : Nat) (w : World) (h0 : w.cell? ⟨b, 0, none⟩ = some (.pointer none)) (hsh : w.shape? b = some (119, 2)) (hfz : w.frozen? ⟨b, 0, none⟩ = false) :
    Calls Tryz.prog 99 #[.pointer (some ⟨b, 0, none⟩)] w fun e w' => e = .returned (.tuple #[]) ∧ w' = w.setCell ⟨b, 0, none⟩ (.pointer (some ⟨b, 0, none⟩)) := by
  obtain ⟨j, hj, hjs⟩ := Option.map_eq_some_iff.1 sizeB
  go_enter Tryz.func99, Tryz.ntmps99
  go_wp2
  rw [Lib.run_to_unsafe w ⟨b, 0, none⟩ Tryz.underlying117 Tryz.underlying167 hj (by rw [hjs]; decide) hsh (Nat.zero_lt_succ 1)]
  simp only [Result.andThen]
  rw [Oper.upon_value]
  go_wp2
  rw [run_callFunc_extern Tryz.func113 (by kernel_rfl) (by kernel_rfl) (by kernel_rfl) (e := Extern.AbiNoEscape.same) (by kernel_rfl)]
  rw [Lib.run_noEscape]
  simp only [Result.andThen]
  rw [Oper.upon_value]
  go_wp2
  rw [Lib.run_from_unsafe w ⟨b, 0, none⟩ Tryz.underlying167 Tryz.underlying117 hj hsh liesB]
  simp only [Result.andThen]
  rw [Oper.upon_value]
  go_wp2
  go_end0
  exact ⟨rfl, rfl⟩
abbrev IsB (B b : Nat) (l : List UInt8) (w : World) : Prop := Lib.IsBuilderF 119 5 B b (Lib.byteCells l) w
theorem copyCheck_any (B b : Nat) (bs : List Value) (w : World) (h : Lib.IsBuilderF 119 5 B b bs w) :
    Calls Tryz.prog 99 #[.pointer (some ⟨b, 0, none⟩)] w fun e w' => e = .returned (.tuple #[]) ∧ (Lib.BuilderAtF 119 5 B b (.pointer (some ⟨b, 0, none⟩)) bs w' ∧ Below B w w') := by
  rcases h with h | h
  · refine (copyCheck_fresh b w h.cell0 h.shape h.frozen0).mono ?_
    rintro e w' ⟨rfl, rfl⟩
    exact ⟨rfl, h.used _, (Below.refl B w).setCell (p := ⟨b, 0, none⟩) h.1 _⟩
  · refine (copyCheck_used b w h.cell0).mono ?_
    rintro e w' ⟨rfl, rfl⟩
    exact ⟨rfl, h, Below.refl B _⟩
set_option maxHeartbeats 2000000 in
set_option maxRecDepth 100000 in
theorem writeByte_any (B b : Nat) (bs : List Value) (c : Int) (w : World) (h : Lib.IsBuilderF 119 5 B b bs w) (hlen : bs.length + 1 ≤ 140737488355328) (hBw : B ≤ w.heap.size) :
    Calls Tryz.prog 76 #[.pointer (some ⟨b, 0, none⟩), .int .u8 c] w fun e w' => e = .returned .nilIface ∧ (Lib.IsBuilderF 119 5 B b (bs ++ [.int .u8 c]) w' ∧ Below B w w') := by
  obtain ⟨i0, hi, hz0, hz1, hz2⟩ := info_parts infoByte
  go_enter Tryz.func76, Tryz.ntmps76
  go_wp2_with (go_at_call 99; refine (copyCheck_any B b bs _ h).mono ?_)
  rintro e w1 ⟨rfl, h1, hb1⟩
  obtain ⟨hB, v, hbk, hown, hne⟩ := h1
  have c0 : w1.cell? ⟨b, 0, none⟩ = some (.pointer (some ⟨b, 0, none⟩)) := by rw [Lib.cell_of_heap hbk]; rfl
  have c1 : w1.cell? ⟨b, 1, none⟩ = some v := by rw [Lib.cell_of_heap hbk]; rfl
  go_wp2_with (at_builtin; refine wpList_append_ownF _ rfl _ _ 47 rfl B 5 i0 (.int .u8 0) 1 1 Tryz.underlying47 hi hz0 hz1 hz2 rfl (by decide) _ _ _ rfl (hown.alloc _) ⟨w1.heap.size, 0, none⟩ 1 1 [.int .u8 c] rfl rfl ?c1 ?c2 ?c3 ?c4 ?c5 ?_)
  case c1 =>
    intro j u hj
    match j, hj with
    | 0, hj => simp at hj; subst hj; simp [Addr.add]
  case c2 => intro u hu; simp at hu; subst hu; rfl
  case c3 => unfold maxLen; omega
  case c4 => omega
  case c5 => have := hb1.size; simp; omega
  intro v' w2 hown' hgrow _
  have hlt : b < w1.heap.size := by
    rcases Nat.lt_or_ge b w1.heap.size with h' | h'
    · exact h'
    · simp [Array.getElem?_eq_none h'] at hbk
  have hb2 : w2.heap[b]? = some (.cells #[.pointer (some ⟨b, 0, none⟩), v] 119 (0, 0)) := by
    rw [hgrow.block b (by simp; omega) (fun e => hne e.symm), Lib.alloc_old w1 _ b hlt]
    exact hbk
  have d0 : w2.cell? ⟨b, 0, none⟩ = some (.pointer (some ⟨b, 0, none⟩)) := by rw [Lib.cell_of_heap hb2]; rfl
  have d1 : w2.cell? ⟨b, 1, none⟩ = some v := by rw [Lib.cell_of_heap hb2]; rfl
  have f1 : w2.frozen? ⟨b, 1, none⟩ = false := Lib.frozen_of_heap hb2 1
  obtain ⟨g, cap, rfl⟩ : ∃ g cap, v' = .slice (some ⟨g, 0, none⟩) (bs.length + 1) cap := by
    rcases hown'.2 with ⟨_, h0⟩ | ⟨g, cap, cur, fz, hv, _⟩
    · omega
    · exact ⟨g, cap, hv⟩
  go_wp2
  go_ret
  refine ⟨rfl, .inr ?_, ?_⟩
  · exact Lib.BuilderAtF.put (T := 119) (e := 5) hB hb2 (bs' := bs ++ [.int .u8 c]) (by simpa using hown') (by decide)
  · exact ((hb1.alloc (by have := hb1.size; omega) _).grown hgrow (by have := hb1.size; simp; omega) (fun k hk => (hown.lt k hk).1)).setCell (p := ⟨b, 1, none⟩) hB _
set_option maxHeartbeats 2000000 in
set_option maxRecDepth 100000 in
theorem writeString_any (B b : Nat) (bs : List Value) (s : ByteArray) (w : World) (h : Lib.IsBuilderF 119 5 B b bs w) (hlen : bs.length + s.size ≤ 140737488355328) (hBw : B ≤ w.heap.size) :
    Calls Tryz.prog 75 #[.pointer (some ⟨b, 0, none⟩), .string s] w fun e w' => e = .returned (.tuple #[.int .i64 s.size, .nilIface]) ∧ (Lib.IsBuilderF 119 5 B b (bs ++ Lib.strCells s) w' ∧ Below B w w') := by
  obtain ⟨i0, hi, hz0, hz1, hz2⟩ := info_parts infoByte
  go_enter Tryz.func75, Tryz.ntmps75
  go_wp2_with (go_at_call 99; refine (copyCheck_any B b bs _ h).mono ?_)
  rintro e w1 ⟨rfl, h1, hb1⟩
  obtain ⟨hB, v, hbk, hown, hne⟩ := h1
  have c0 : w1.cell? ⟨b, 0, none⟩ = some (.pointer (some ⟨b, 0, none⟩)) := by rw [Lib.cell_of_heap hbk]; rfl
  have c1 : w1.cell? ⟨b, 1, none⟩ = some v := by rw [Lib.cell_of_heap hbk]; rfl
  go_wp2_with (at_builtin; refine Lib.wpList_append_own_stringF _ rfl _ _ 47 9 rfl B 5 i0 Tryz.underlying47 Tryz.underlying9 hi hz0 hz1 hz2 _ _ _ rfl hown s rfl ?c3 ?c4 ?c5 ?_)
  case c3 => unfold maxLen; omega
  case c4 => omega
  case c5 => have := hb1.size; omega
  intro v' w2 hown' hgrow _
  have hlt : b < w1.heap.size := by
    rcases Nat.lt_or_ge b w1.heap.size with h' | h'
    · exact h'
    · simp [Array.getElem?_eq_none h'] at hbk
  have hb2 : w2.heap[b]? = some (.cells #[.pointer (some ⟨b, 0, none⟩), v] 119 (0, 0)) := by
    rw [hgrow.block b hlt (fun e => hne e.symm)]
    exact hbk
  have d0 : w2.cell? ⟨b, 0, none⟩ = some (.pointer (some ⟨b, 0, none⟩)) := by rw [Lib.cell_of_heap hb2]; rfl
  have d1 : w2.cell? ⟨b, 1, none⟩ = some v := by rw [Lib.cell_of_heap hb2]; rfl
  have f1 : w2.frozen? ⟨b, 1, none⟩ = false := Lib.frozen_of_heap hb2 1
  obtain ⟨ao, n', cap, rfl⟩ : ∃ ao n' cap, v' = .slice ao n' cap := by
    rcases hown'.2 with ⟨hv, _⟩ | ⟨g, cap, cur, fz, hv, _⟩
    · exact ⟨_, _, _, hv⟩
    · exact ⟨_, _, _, hv⟩
  go_wp2
  go_ret2
  refine ⟨rfl, .inr ?_, ?_⟩
  · exact Lib.BuilderAtF.put (T := 119) (e := 5) hB hb2 (bs' := bs ++ Lib.strCells s) (by simpa [Lib.strCells_length] using hown') (by decide)
  · exact (hb1.grown hgrow (by have := hb1.size; omega) (fun k hk => (hown.lt k hk).1)).setCell (p := ⟨b, 1, none⟩) hB _
structure Good (w : World) : Prop where
  size : 3 ≤ w.heap.size
  syn : ∃ ev, w.cell? ⟨1, 0, none⟩ = some ev ∧ (ev = .nilIface ∨ ∃ te pe, ev = .iface te pe)
  rng : ∃ ev, w.cell? ⟨2, 0, none⟩ = some ev ∧ (ev = .nilIface ∨ ∃ te pe, ev = .iface te pe)
  most : ∃ m, w.cell? ⟨0, 0, none⟩ = some (.int .i64 m)
theorem Good.below {w w' : World} (h : Good w) (hb : Below w.heap.size w w') : Good w' := by
  obtain ⟨h0, h1, h2, h3⟩ := h
  refine ⟨Nat.le_trans h0 hb.size, ?_, ?_, ?_⟩
  · rw [hb.cell (p := ⟨1, 0, none⟩) (Nat.lt_of_lt_of_le (by decide) h0)]; exact h1
  · rw [hb.cell (p := ⟨2, 0, none⟩) (Nat.lt_of_lt_of_le (by decide) h0)]; exact h2
  · rw [hb.cell (p := ⟨0, 0, none⟩) (Nat.lt_of_lt_of_le (by decide) h0)]; exact h3
theorem below_drewN {B : Nat} {a w : World} (h : Below B a w) (n : Nat) : Below B a (w.drewN n) := ⟨h.os, h.tape, h.output, h.size, h.block⟩
theorem Good.drew {w : World} (h : Good w) : Good w.drew := ⟨h.1, h.2, h.3, h.4⟩
theorem Good.drewN {w : World} (h : Good w) (n : Nat) : Good (w.drewN n) := ⟨h.1, h.2, h.3, h.4⟩
theorem Good.alloc {w : World} (h : Good w) (o : Obj) : Good (w.alloc o) := h.below ((Below.refl _ w).alloc (Nat.le_refl _) o)
abbrev str (l : List UInt8) : Value := .string ⟨l.toArray⟩
theorem ret_str {a b : List UInt8} (h : a = b) : Ending.returned (str a) = .returned (str b) := by rw [h]
end Go.Proofs.YtkpakiiijphjeaaGreatDoor

namespace Go.Proofs.YtkpakiiijphjeaaGreatDoor
open Go.RowKit M
def Row (w : World) (g t n k : Nat) (l : List UInt8) : Prop :=
  ∃ cs : Array Value, w.heap[g]? = some (.cells cs t (0, 0)) ∧ cs.size = n ∧ k + l.length = n ∧ ∀ i (_ : i < l.length), cs[k + i]? = some (.int .u8 (l[i].toNat : Int))
theorem add_plain (b o j : Nat) : (⟨b, o, none⟩ : Addr).add j = ⟨b, o + j, none⟩ := by
  unfold Addr.add; split <;> simp_all
section
variable {w : World} {g t n k : Nat} {l : List UInt8}
theorem Row.start (w : World) (t n : Nat) (cs : Array Value) (h : cs.size = n) : Row (w.alloc (.cells cs t)) w.heap.size t n n [] :=
  ⟨cs, heap_alloc_new w _, h, by simp, fun i hi => absurd hi (by simp)⟩
theorem Row.lt (h : Row w g t n k l) : g < w.heap.size := by
  obtain ⟨cs, h1, _⟩ := h
  rcases Nat.lt_or_ge g w.heap.size with hlt | hge
  · exact hlt
  · rw [Array.getElem?_eq_none hge] at h1; cases h1
theorem Row.cell (h : Row w g t n k l) (i : Nat) (hi : i < n) : ∃ v, w.cell? ⟨g, i, none⟩ = some v := by
  obtain ⟨cs, h1, h2, _⟩ := h
  rw [Lib.cell_of_heap h1]
  exact ⟨cs[i]'(by omega), by rw [Array.getElem?_eq_getElem]⟩
theorem Row.frozen (h : Row w g t n k l) (i : Nat) : w.frozen? ⟨g, i, none⟩ = false := by
  obtain ⟨cs, h1, _⟩ := h
  exact Lib.frozen_of_heap h1 i
theorem Row.put (h : Row w g t n (k + 1) l) (c : UInt8) (x : Int) (hx : x = (c.toNat : Int)) : Row (w.setCell ⟨g, k, none⟩ (.int .u8 x)) g t n k (c :: l) := by
  obtain ⟨cs, h1, h2, h3, h4⟩ := h
  refine ⟨cs.setIfInBounds k (.int .u8 x), ?_, by simpa using h2, by simp; omega, ?_⟩
  · simp [World.setCell, Array.getElem?_modify, h1]
  · intro i hi
    rcases i with _ | i
    · rw [Nat.add_zero, Array.getElem?_setIfInBounds_self_of_lt (by omega), hx]; rfl
    · rw [Array.getElem?_setIfInBounds_ne (by omega), List.getElem_cons_succ, ← h4 i (by simpa using hi)]
      congr 1; omega
theorem Row.read (h : Row w g t n k l) : ∀ j (_ : j < l.length), w.cell? ((⟨g, k, none⟩ : Addr).add j) = some (.int .u8 (l[j].toNat : Int)) := by
  obtain ⟨cs, h1, h2, h3, h4⟩ := h
  intro j hj
  rw [add_plain, Lib.cell_of_heap h1]
  exact h4 j hj
theorem Row.length (h : Row w g t n k l) : k + l.length = n := by
  obtain ⟨_, _, _, h3, _⟩ := h; exact h3
theorem Row.convert (h : Row w g t n k l) : (convert 47 9 (.slice (some ⟨g, k, none⟩) (n - k) (n - k))).run Tryz.prog w = .ok (str l) w := by
  have h1 := run_convert_bytes_back (P := Tryz.prog) w 47 9 5 ⟨g, k, none⟩ (n - k) l Tryz.underlying47 Tryz.underlying5 Tryz.underlying9 h.read
  have := h.length
  rw [show n - k = l.length by omega] at h1 ⊢
  exact h1
end
theorem slice60 (g k : Nat) (hk : k < 20) (W : World) :
    (Instr.sliceAt 126 (.pointer (some ⟨g, 0, none⟩)) (some (.int .i64 (k : Int))) none none).run Tryz.prog W = .ok (.slice (some ⟨g, k, none⟩) (20 - k) (20 - k)) W := by
  have hal : Tryz.prog.arrayLen 126 = 20 := by kernel_rfl
  rw [run_sliceAt_array_l W 126 ⟨g, 0, none⟩ (by kernel_rfl) .i64 (k : Int) (by omega) (by rw [hal]; omega)]
  go_simp
  omega
def NumInv (N m : Nat) (l : List UInt8) : Prop := dig N = dig m ++ l ∧ (m ≠ 0 ∨ l = [])
theorem NumInv.step {N m : Nat} {l : List UInt8} (h : NumInv N m l) (hm : 10 ≤ m) : NumInv N (m / 10) (dchar (m % 10) :: l) := by
  refine ⟨?_, .inl (by omega)⟩
  rw [h.1, dig_ge (by omega)]; simp
theorem NumInv.last {N m : Nat} {l : List UInt8} (h : NumInv N m l) (hm : m < 10) : dig N = dchar (m % 10) :: l := by
  rw [h.1, dig_lt hm, Nat.mod_eq_of_lt hm]; rfl
set_option maxHeartbeats 1000000 in
set_option maxRecDepth 100000 in
theorem num_pos (n : Nat) (w : World) (hn : n ≤ 9223372036854775807) :
    Calls Tryz.prog 33 #[.int .i64 (n : Int)] w fun e w' => e = .returned (str (numT (n : Int))) ∧ Below w.heap.size w w' := by
  have hnn : ¬ ((n : Int) < 0) := by omega
  go_enter Tryz.func33, Tryz.ntmps33
  go_wp2
  go_loopw [4, 5] (fun va vm wr => ∃ (a m : Nat) (l : List UInt8), va = .int .i64 (a : Int) ∧ vm = .int .u64 (m : Int) ∧ Row wr w.heap.size 126 20 a l ∧ Below w.heap.size w wr ∧ 1 ≤ a ∧ a ≤ 20 ∧ m ≤ 18446744073709551615 ∧ m < 10 ^ a ∧ NumInv n m l) (fun va _ _ => (intOf va).toNat)
  case atStart => exact ⟨20, n, [], rfl, rfl, Row.start w 126 20 _ rfl, (Below.refl _ w).alloc (Nat.le_refl _) _, by omega, by omega, by omega, by omega, by simp, .inr rfl⟩
  case round =>
    obtain ⟨a, m, l, rfl, rfl, hrow, hbel, ha1, ha2, hm, hlt, hinv⟩ := hrel
    obtain ⟨k, rfl⟩ : ∃ k, a = k + 1 := ⟨a - 1, by omega⟩
    obtain ⟨v, hc⟩ := hrow.cell k (by omega)
    have hf := hrow.frozen k
    have hput := hrow.put (dchar (m % 10)) (48 + (m : Int) % 10) (by rw [dchar_toNat (by omega)]; omega)
    have hbel2 := hbel.setCell (p := ⟨w.heap.size, k, none⟩) (Nat.le_refl _) (.int .u8 (48 + (m : Int) % 10))
    have hsl := fun W => slice60 w.heap.size k (by omega) W
    have hcv := hput.convert
    have HP := Lib.hid hput
    have HI := Lib.hid hinv
    have HL := Lib.hid hlt
    have HB := Lib.hid hbel2
    clear hput hinv hlt hbel2 hrow hbel
    go_wp2
    · have h10 : m < 10 := by
        have h : ((m : Int) / 10 == 0) = true := by assumption
        have : (m : Int) / 10 = 0 := by simpa using h
        omega
      go_ret
      refine ⟨ret_str (a := dchar (m % 10) :: l) ?_, HB.out⟩
      rw [numT_nat, HI.out.last h10]
    · have h10 : 10 ≤ m := by
        have h : ((m : Int) / 10 == 0) = false := by assumption
        have : (m : Int) / 10 ≠ 0 := by simpa using h
        omega
      go_roundw
      case rel =>
        have hl := HL.out
        rw [Nat.pow_succ] at hl
        refine ⟨k, m / 10, _, rfl, by go_num, HP.out, HB.out, ?_, by omega, by omega, by omega, HI.out.step h10⟩
        rcases Nat.eq_zero_or_pos k with rfl | hk
        · simp at hl; omega
        · exact hk
      case measure => simp [intOf] <;> omega
set_option maxHeartbeats 1000000 in
set_option maxRecDepth 100000 in
theorem num_neg (n : Nat) (w : World) (h0 : 1 ≤ n) (hn : n ≤ 9223372036854775808) :
    Calls Tryz.prog 33 #[.int .i64 (-(n : Int))] w fun e w' => e = .returned (str (numT (-(n : Int)))) ∧ Below w.heap.size w w' := by
  have hnn : -(n : Int) < 0 := by omega
  have hwr : IntKind.u64.wrap (-IntKind.u64.wrap (-(n : Int))) = (n : Int) := by rw [IntKind.wrap_u64, IntKind.wrap_u64]; omega
  go_enter Tryz.func33, Tryz.ntmps33
  go_wp2
  go_loopw [4, 5] (fun va vm wr => ∃ (a m : Nat) (l : List UInt8), va = .int .i64 (a : Int) ∧ vm = .int .u64 (m : Int) ∧ Row wr w.heap.size 126 20 a l ∧ Below w.heap.size w wr ∧ 2 ≤ a ∧ a ≤ 20 ∧ m ≤ 18446744073709551615 ∧ m < 10 ^ (a - 1) ∧ NumInv n m l) (fun va _ _ => (intOf va).toNat)
  case atStart => exact ⟨20, n, [], rfl, rfl, Row.start w 126 20 _ rfl, (Below.refl _ w).alloc (Nat.le_refl _) _, by omega, by omega, by omega, by omega, by simp, .inr rfl⟩
  case round =>
    obtain ⟨a, m, l, rfl, rfl, hrow, hbel, ha1, ha2, hm, hlt, hinv⟩ := hrel
    obtain ⟨k, rfl⟩ : ∃ k, a = k + 1 + 1 := ⟨a - 2, by omega⟩
    obtain ⟨v, hc⟩ := hrow.cell (k + 1) (by omega)
    have hf := hrow.frozen (k + 1)
    obtain ⟨v2, hc2⟩ := hrow.cell k (by omega)
    have hf2 := hrow.frozen k
    have hput := hrow.put (dchar (m % 10)) (48 + (m : Int) % 10) (by rw [dchar_toNat (by omega)]; omega)
    have hput2 := hput.put 45 45 (by decide)
    have hbel2 := hbel.setCell (p := ⟨w.heap.size, k + 1, none⟩) (Nat.le_refl _) (.int .u8 (48 + (m : Int) % 10))
    have hbel3 := hbel2.setCell (p := ⟨w.heap.size, k, none⟩) (Nat.le_refl _) (.int .u8 45)
    have hsl := fun W => slice60 w.heap.size k (by omega) W
    have hcv := hput2.convert
    have HP := Lib.hid hput
    have HI := Lib.hid hinv
    have HL := Lib.hid hlt
    have HB := Lib.hid hbel2
    have HB3 := Lib.hid hbel3
    clear hput hput2 hinv hlt hbel2 hbel3 hrow hbel
    go_wp2
    · have h10 : m < 10 := by
        have h : ((m : Int) / 10 == 0) = true := by assumption
        have : (m : Int) / 10 = 0 := by simpa using h
        omega
      go_ret
      refine ⟨ret_str (a := 45 :: dchar (m % 10) :: l) ?_, HB3.out⟩
      unfold numT
      rw [if_pos hnn, Int.natAbs_neg, Int.natAbs_natCast, HI.out.last h10]
    · have h10 : 10 ≤ m := by
        have h : ((m : Int) / 10 == 0) = false := by assumption
        have : (m : Int) / 10 ≠ 0 := by simpa using h
        omega
      go_roundw
      case rel =>
        have hl := HL.out
        rw [show k + 1 + 1 - 1 = k + 1 by omega, Nat.pow_succ] at hl
        refine ⟨k + 1, m / 10, _, rfl, by go_num, HP.out, HB.out, ?_, by omega, by omega, by rw [Nat.add_sub_cancel]; omega, HI.out.step h10⟩
        rcases Nat.eq_zero_or_pos k with rfl | hk
        · simp at hl; omega
        · omega
      case measure => simp [intOf] <;> omega
theorem num_any (n : Int) (w : World) (hn : inR n) :
    Calls Tryz.prog 33 #[.int .i64 n] w fun e w' => e = .returned (str (numT n)) ∧ Below w.heap.size w w' := by
  unfold inR at hn
  by_cases h : n < 0
  · obtain ⟨m, rfl⟩ : ∃ m : Nat, n = -(m : Int) := ⟨n.natAbs, by omega⟩
    exact num_neg m w (by omega) (by omega)
  · obtain ⟨m, rfl⟩ : ∃ m : Nat, n = (m : Int) := ⟨n.natAbs, by omega⟩
    exact num_pos m w (by omega)
end Go.Proofs.YtkpakiiijphjeaaGreatDoor

namespace Go.Proofs.YtkpakiiijphjeaaGreatDoor.M
def sumStep (p : Nat × Nat) (c : UInt8) : Nat × Nat := ((p.1 + c.toNat) % 65521, (p.2 + (p.1 + c.toNat) % 65521) % 65521)
def sumAB (l : Text) : Nat × Nat := l.foldl sumStep (1, 0)
def sumT (l : Text) : Nat := (sumAB l).2 * 65536 + (sumAB l).1
theorem sumAB_snoc (l : Text) (c : UInt8) : sumAB (l ++ [c]) = sumStep (sumAB l) c := by simp [sumAB, List.foldl_append]
theorem sumAB_lt (l : Text) : (sumAB l).1 < 65521 ∧ (sumAB l).2 < 65521 := by
  rcases List.eq_nil_or_concat l with rfl | ⟨r, c, rfl⟩
  · simp [sumAB]
  · rw [List.concat_eq_append, sumAB_snoc]; unfold sumStep; simp only []; omega
theorem sumT_lt (l : Text) : sumT l < 4294967296 := by have := sumAB_lt l; unfold sumT; omega
def hexd (d : Nat) : UInt8 := if d < 10 then UInt8.ofNat (48 + d) else UInt8.ofNat (87 + d)
def hexT : Nat → Nat → Text
  | 0, _ => []
  | k + 1, n => hexT k (n / 16) ++ [hexd (n % 16)]
theorem hexT_length (k : Nat) : ∀ n, (hexT k n).length = k := by
  induction k with
  | zero => intro n; rfl
  | succ k ih => intro n; simp [hexT, ih]
theorem hexT_cons (k : Nat) : ∀ n, hexT (k + 1) n = hexd (n / 16 ^ k % 16) :: hexT k n := by
  induction k with
  | zero => intro n; simp [hexT]
  | succ k ih =>
    intro n
    rw [hexT, ih (n / 16), Nat.div_div_eq_div_mul, show 16 * 16 ^ k = 16 ^ (k + 1) by rw [Nat.pow_succ]; omega]
    simp [hexT]
def sealT (s : Text) : Text := s ++ hexT 8 (sumT s)
theorem sealT_length (s : Text) : (sealT s).length = s.length + 8 := by simp [sealT, hexT_length]
def openT (s : Text) : Option Text := if 8 ≤ s.length ∧ sealT (s.take (s.length - 8)) = s then some (s.take (s.length - 8)) else none
theorem open_seal (s : Text) : openT (sealT s) = some s := by
  have h : (sealT s).take ((sealT s).length - 8) = s := by
    rw [sealT_length, Nat.add_sub_cancel]; unfold sealT; exact List.take_left
  unfold openT
  rw [h, if_pos ⟨by rw [sealT_length]; omega, rfl⟩]
theorem open_spec {s x : Text} (h : openT s = some x) : sealT x = s := by
  unfold openT at h
  split at h
  · rename_i hh
    injection h with h
    rw [← h]; exact hh.2
  · cases h
end Go.Proofs.YtkpakiiijphjeaaGreatDoor.M

namespace Go.Proofs.YtkpakiiijphjeaaGreatDoor
open Go.RowKit M
theorem int_eq {k : IntKind} {a b : Int} (h : a = b) : Value.int k a = Value.int k b := by rw [h]
theorem ret_int {k : IntKind} {a b : Int} (h : a = b) : Ending.returned (.int k a) = .returned (.int k b) := by rw [h]
theorem take_snoc (s : ByteArray) (k : Nat) (h : k < s.size) : s.data.toList.take (k + 1) = s.data.toList.take k ++ [s[k]] := by
  rw [List.take_succ_eq_append_getElem (by simpa using h)]; rfl
theorem take_all (s : ByteArray) : s.data.toList.take s.size = s.data.toList := List.take_of_length_le (by simp)
theorem or_join (b a : Nat) (hb : b < 65536) (ha : a < 65536) : bits .or .u32 ((b : Int) * 65536) (a : Int) = ((b * 65536 + a : Nat) : Int) := by
  have h := u32_or_nat (b * 65536) a (by omega) (by omega)
  rw [show ((b * 65536 : Nat) : Int) = (b : Int) * 65536 by omega] at h
  rw [h]
  have e := Nat.shiftLeft_add_eq_or_of_lt (i := 16) (b := a) (by omega) b
  rw [Nat.shiftLeft_eq] at e
  rw [← e]
theorem drop_data (t : ByteArray) (k : Nat) : (t.extract k t.size).data.toList = t.data.toList.drop k := by
  rw [Lib.extract_data]; exact List.take_of_length_le (by simp)
theorem take_data (t : ByteArray) (k : Nat) : (t.extract 0 k).data.toList = t.data.toList.take k := by
  rw [Lib.extract_data]; rfl
theorem cut_again (t : ByteArray) (k : Nat) : (t.extract 0 k).data.toList ++ (t.extract k t.size).data.toList = t.data.toList := by
  rw [drop_data, take_data, List.take_append_drop]
theorem toList_nil (t : ByteArray) : t.size = 0 ↔ t.data.toList = [] := by
  rw [show t.size = t.data.toList.length by simp]; exact List.length_eq_zero_iff
theorem empty_no (t : ByteArray) (h : t.size = 0) : (!t.toList.isEmpty) = false := by
  rw [ByteArray.toList_eq, (toList_nil t).1 h]; rfl
theorem empty_yes (t : ByteArray) (h : t.size ≠ 0) : (!t.toList.isEmpty) = true := by
  rw [ByteArray.toList_eq]
  have := fun e => h ((toList_nil t).2 e)
  cases he : t.data.toList <;> simp_all
def SumInv (p r : Text) (a b : Nat) : Prop :=
  a % 65521 = (sumAB (p ++ r)).1 ∧ b % 65521 = (sumAB (p ++ r)).2 ∧ a ≤ 65520 + 255 * r.length ∧ 2 * b ≤ 131040 + 131040 * r.length + 255 * (r.length * (r.length + 1))
theorem SumInv.start {p : Text} {a b : Nat} (ha : a = (sumAB p).1) (hb : b = (sumAB p).2) : SumInv p [] a b := by
  have := sumAB_lt p
  unfold SumInv
  rw [List.append_nil, ha, hb]
  simp only [List.length_nil]
  omega
theorem SumInv.step {p r : Text} {a b : Nat} (h : SumInv p r a b) (c : UInt8) : SumInv p (r ++ [c]) (a + c.toNat) (b + (a + c.toNat)) := by
  obtain ⟨h1, h2, h3, h4⟩ := h
  have hc := UInt8.toNat_lt c
  unfold SumInv
  rw [← List.append_assoc, sumAB_snoc, List.length_append, List.length_singleton]
  unfold sumStep
  simp only []
  have e : (r.length + 1) * (r.length + 1 + 1) = r.length * (r.length + 1) + 2 * (r.length + 1) := by
    rw [Nat.add_mul, Nat.mul_add r.length (r.length + 1) 1]; omega
  generalize r.length * (r.length + 1) = T at *
  omega
theorem SumInv.le1 {p r : Text} {a b : Nat} (h : SumInv p r a b) (hr : r.length ≤ 4096) : a ≤ 1110000 := by
  obtain ⟨_, _, h3, _⟩ := h; omega
theorem SumInv.le2 {p r : Text} {a b : Nat} (h : SumInv p r a b) (hr : r.length ≤ 4096) : b ≤ 2408052720 := by
  obtain ⟨_, _, _, h4⟩ := h
  have : r.length * (r.length + 1) ≤ 4096 * 4097 := Nat.mul_le_mul hr (by omega)
  omega
def lenOf : Value → Nat
  | .string t => t.size
  | _ => 0
set_option maxHeartbeats 2000000 in
theorem sum_any (s : ByteArray) (w : World) (hs : s.size ≤ 9223372036854775807) :
    Calls Tryz.prog 74 #[.string s] w fun e w' => e = .returned (.int .u32 (sumT s.data.toList : Int)) ∧ w = w' := by
  go_enter Tryz.func74, Tryz.ntmps74
  go_wp2
  go_loop [0, 3, 4] (fun v0 va vb => ∃ (t : ByteArray) (p : Text), v0 = .string t ∧ Hid (s.data.toList = p ++ t.data.toList) ∧ t.size ≤ 9223372036854775807 ∧ va = .int .u32 ((sumAB p).1 : Int) ∧ vb = .int .u32 ((sumAB p).2 : Int)) (fun v0 _ _ => lenOf v0)
  case atStart => exact ⟨s, [], rfl, rfl, hs, rfl, rfl⟩
  case round =>
    obtain ⟨t, p, rfl, hsp, ht, rfl, rfl⟩ := hrel
    obtain ⟨ha, hb⟩ := sumAB_lt p
    obtain ⟨a, hA⟩ : ∃ a, a = (sumAB p).1 := ⟨_, rfl⟩
    obtain ⟨b, hB⟩ : ∃ b, b = (sumAB p).2 := ⟨_, rfl⟩
    rw [← hA] at ha ⊢
    rw [← hB] at hb ⊢
    have HA := Lib.hid hA
    have HB := Lib.hid hB
    clear hA hB
    by_cases h0 : t.size = 0
    · have hE := empty_no t h0
      go_wp2
      rw [or_join b a (by omega) (by omega)]
      go_ret
      refine ⟨ret_int (a := ((b * 65536 + a : Nat) : Int)) ?_, rfl⟩
      have h := hsp.out
      rw [(toList_nil t).1 h0, List.append_nil] at h
      unfold sumT
      rw [h, ← HA.out, ← HB.out]
    · have hE := empty_yes t h0
      obtain ⟨n, hmin⟩ : ∃ n : Nat, min (t.size : Int) 4096 = (n : Int) := ⟨(min (t.size : Int) 4096).toNat, by omega⟩
      have hn1 : 1 ≤ n := by omega
      have hn2 : n ≤ 4096 := by omega
      have hn3 : n ≤ t.size := by omega
      obtain ⟨q, hq⟩ : ∃ q, t.extract 0 n = q := ⟨_, rfl⟩
      have hqs : q.size = n := by rw [← hq, ByteArray.size_extract]; omega
      have HQ := Lib.hid hq
      have hinv0 : Hid (SumInv p [] a b) := SumInv.start HA.out HB.out
      clear HA HB ha hb
      go_wp2
      go_loop [3, 4, 16] (fun va vb vi => ∃ k a b : Nat, k ≤ n ∧ vi = .int .i64 (k : Int) ∧ va = .int .u32 (a : Int) ∧ vb = .int .u32 (b : Int) ∧ Hid (SumInv p (q.data.toList.take k) a b)) (fun _ _ vi => n - (intOf vi).toNat)
      case atStart => exact ⟨0, a, b, Nat.zero_le _, rfl, rfl, rfl, hinv0.out⟩
      case round =>
        clear hinv0 hmin hq
        obtain ⟨k, a, b, hk, rfl, rfl, rfl, hinv⟩ := hrel
        have hb1 : a ≤ 1110000 := hinv.out.le1 (by simp; omega)
        have hb2 : b ≤ 2408052720 := hinv.out.le2 (by simp; omega)
        by_cases hlt : k < n
        · have hbyte := UInt8.toNat_lt (q[k]'(by omega))
          go_wp2
          go_round
          case rel =>
            refine ⟨k + 1, a + (q[k]'(by omega)).toNat, b + (a + (q[k]'(by omega)).toNat), by omega, by go_num, int_eq (by omega), int_eq (by omega), ?_⟩
            have h := hinv.out.step (q[k]'(by omega))
            rw [← take_snoc q k (by omega)] at h
            exact h
          case measure => simp [intOf]; omega
        · obtain rfl : k = n := by omega
          have hr := hinv.out
          rw [← hqs, take_all] at hr
          have HR := Lib.hid hr
          clear hr
          go_wp2
          go_round
          case rel =>
            obtain ⟨e1, e2, _, _⟩ := HR.out
            refine ⟨_, p ++ q.data.toList, rfl, ?_, ?_, int_eq ?_, int_eq ?_⟩
            · show s.data.toList = _
              rw [hsp.out, ← HQ.out, List.append_assoc, cut_again]
            · rw [ByteArray.size_extract]; omega
            · rw [← e1]; omega
            · rw [← e2]; omega
          case measure =>
            simp [lenOf]
            omega
end Go.Proofs.YtkpakiiijphjeaaGreatDoor

namespace Go.Proofs.YtkpakiiijphjeaaGreatDoor
open Go.RowKit M
theorem index_hex (d : Nat) (h : d < 16) (w : World) : (Instr.index 9 (.string ⟨#[48, 49, 50, 51, 52, 53, 54, 55, 56, 57, 97, 98, 99, 100, 101, 102]⟩) (.int .u32 (d : Int))).run Tryz.prog w = .ok (.int .u8 ((hexd d).toNat : Int)) w := by
  have h16 : d = 0 ∨ d = 1 ∨ d = 2 ∨ d = 3 ∨ d = 4 ∨ d = 5 ∨ d = 6 ∨ d = 7 ∨ d = 8 ∨ d = 9 ∨ d = 10 ∨ d = 11 ∨ d = 12 ∨ d = 13 ∨ d = 14 ∨ d = 15 := by omega
  rcases h16 with rfl | rfl | rfl | rfl | rfl | rfl | rfl | rfl | rfl | rfl | rfl | rfl | rfl | rfl | rfl | rfl
  all_goals (show _ = _; kernel_rfl)
theorem and15 (m : Nat) (hm : m < 4294967296) : bits .and .u32 (m : Int) 15 = ((m % 16 : Nat) : Int) := by
  have h := u32_and_nat m 15 hm (by omega)
  rw [show ((15 : Nat) : Int) = 15 by rfl] at h
  rw [h, show m &&& 15 = m % 16 from Nat.and_two_pow_sub_one_eq_mod m 4]
theorem slice75 (g : Nat) (W : World) :
    (Instr.sliceAt 151 (.pointer (some ⟨g, 0, none⟩)) none none none).run Tryz.prog W = .ok (.slice (some ⟨g, 0, none⟩) (8 - 0) (8 - 0)) W := by
  have hal : Tryz.prog.arrayLen 151 = 8 := by kernel_rfl
  rw [run_sliceAt_array_all W 151 ⟨g, 0, none⟩ (by kernel_rfl)]
  go_simp
set_option maxHeartbeats 1000000 in
set_option maxRecDepth 100000 in
theorem hex_any (n : Nat) (w : World) (hn : n < 4294967296) :
    Calls Tryz.prog 73 #[.int .u32 (n : Int)] w fun e w' => e = .returned (str (hexT 8 n)) ∧ Below w.heap.size w w' := by
  go_enter Tryz.func73, Tryz.ntmps73
  go_wp2
  go_loopw [0, 5] (fun vm vi wr => ∃ (i m : Nat), i ≤ 8 ∧ vi = .int .i64 (i : Int) ∧ vm = .int .u32 (m : Int) ∧ m < 4294967296 ∧ Hid (m = n / 16 ^ i) ∧ Row wr w.heap.size 151 8 (8 - i) (hexT i n) ∧ Below w.heap.size w wr) (fun _ vi _ => 8 - (intOf vi).toNat)
  case atStart => exact ⟨0, n, by omega, rfl, rfl, hn, by show n = _; simp, Row.start w 151 8 _ rfl, (Below.refl _ w).alloc (Nat.le_refl _) _⟩
  case round =>
    obtain ⟨i, m, hi, rfl, rfl, hm, hmi, hrow, hbel⟩ := hrel
    by_cases hlt : i < 8
    · obtain ⟨k, hk⟩ : ∃ k, k = 7 - i := ⟨_, rfl⟩
      have hk1 : k ≤ 7 := by omega
      rw [show 8 - i = k + 1 by omega] at hrow
      obtain ⟨v, hc⟩ := hrow.cell k (by omega)
      have hf := hrow.frozen k
      have hsub : (7 : Int) - (i : Int) = (k : Int) := by omega
      obtain ⟨d, hd⟩ : ∃ d, d = m % 16 := ⟨_, rfl⟩
      have hd16 : d < 16 := by omega
      have hand := and15 m hm
      rw [← hd] at hand
      have hidx := index_hex d hd16
      have hput := hrow.put (hexd d) ((hexd d).toNat : Int) rfl
      have hbel2 := hbel.setCell (p := ⟨w.heap.size, k, none⟩) (Nat.le_refl _) (.int .u8 ((hexd d).toNat : Int))
      generalize ((hexd d).toNat : Int) = x at hidx hput hbel2
      have HK := Lib.hid hk
      have HP := Lib.hid hput
      have HB := Lib.hid hbel2
      have HD := Lib.hid hd
      clear hk hrow hbel hput hbel2 hd
      go_wp2
      go_roundw
      case rel =>
        refine ⟨i + 1, m / 16, by omega, by go_num, by go_num, by omega, ?_, ?_, HB.out⟩
        · show m / 16 = _
          rw [hmi.out, Nat.div_div_eq_div_mul, Nat.pow_succ]
        · have h := HP.out
          rw [HD.out, hmi.out, ← hexT_cons i n] at h
          rw [show 8 - (i + 1) = k by have := HK.out; omega]
          exact h
      case measure => simp [intOf]; omega
    · obtain rfl : i = 8 := by omega
      have hcv := hrow.convert
      have hsl := slice75 w.heap.size
      have HB := Lib.hid hbel
      clear hrow hbel
      go_wp2
      go_ret
      exact ⟨rfl, HB.out⟩
theorem ret_string {a b : ByteArray} (h : a = b) : Ending.returned (.string a) = .returned (.string b) := by rw [h]
theorem bytes_ext {a b : ByteArray} (h : a.data.toList = b.data.toList) : a = b := by
  cases a; cases b; simp_all [Array.toList_inj]
theorem str_app (s : ByteArray) (l : List UInt8) : s ++ (⟨l.toArray⟩ : ByteArray) = ⟨(s.data.toList ++ l).toArray⟩ := by
  apply bytes_ext
  rw [ByteArray.data_append, Array.toList_append]
theorem str_self (s : ByteArray) : (⟨s.data.toList.toArray⟩ : ByteArray) = s := bytes_ext (by simp)
set_option maxHeartbeats 1000000 in
theorem seal_any (s : ByteArray) (w : World) (hs : s.size ≤ 140737488355328) :
    Calls Tryz.prog 31 #[.string s] w fun e w' => e = .returned (str (sealT s.data.toList)) ∧ Below w.heap.size w w' := by
  go_enter Tryz.func31, Tryz.ntmps31
  have hlt := sumT_lt s.data.toList
  have hl8 := hexT_length 8 (sumT s.data.toList)
  go_wp2_with (first
    | (go_at_call 74; refine (sum_any s _ (by omega)).mono ?_; rintro e w' ⟨rfl, rfl⟩)
    | (go_at_call 73; refine (hex_any (sumT s.data.toList) _ hlt).mono ?_; rintro e w1 ⟨rfl, hb1⟩))
  go_ret
  refine ⟨ret_string (a := s ++ (⟨(hexT 8 (sumT s.data.toList)).toArray⟩ : ByteArray)) (b := ⟨(sealT s.data.toList).toArray⟩) ?_, hb1⟩
  rw [str_app]; rfl
end Go.Proofs.YtkpakiiijphjeaaGreatDoor

namespace Go.Proofs.YtkpakiiijphjeaaGreatDoor
open Go.RowKit M
attribute [local go_sem ↓] Go.wp_at_zero Go.wp_at_succ
theorem below_of_drew {B : Nat} {w w1 : World} (h : Below B w.drew w1) : Below B w w1 := ⟨h.os, h.tape, h.output, h.size, h.block⟩
def openR : Option Text → Value
  | some x => .tuple #[str x, .int .i64 0]
  | none => .tuple #[str [], .int .i64 11]
theorem open_short (s : ByteArray) (h : s.size < 8) : openT s.data.toList = none := by
  unfold openT; rw [if_neg]; rintro ⟨h1, _⟩; simp at h1; omega
theorem open_eq (s p : ByteArray) (h : sealT p.data.toList = s.data.toList) : openT s.data.toList = some p.data.toList := by
  rw [← h]; exact open_seal _
theorem open_ne (s p : ByteArray) (hp : p.data.toList = s.data.toList.take (s.size - 8)) (h : sealT p.data.toList ≠ s.data.toList) : openT s.data.toList = none := by
  unfold openT; rw [if_neg]; rintro ⟨_, h2⟩
  rw [show s.data.toList.length = s.size by simp, ← hp] at h2
  exact h h2
theorem beq_yes {l : Text} {s : ByteArray} (h : l = s.data.toList) : (l == s.toList) = true := by rw [ByteArray.toList_eq, h]; simp
theorem beq_no {l : Text} {s : ByteArray} (h : l ≠ s.data.toList) : (l == s.toList) = false := by rw [ByteArray.toList_eq]; simpa using h
set_option maxHeartbeats 1000000 in
set_option maxRecDepth 100000 in
theorem open_any (s : ByteArray) (w : World) (hs : s.size ≤ 140737488355328) :
    Calls Tryz.prog 43 #[.string s] w fun e w' => e = .returned (openR (openT s.data.toList)) ∧ Below w.heap.size w w' := by
  by_cases h8 : s.size < 8
  · rw [open_short s h8]
    have hneg : (s.size : Int) - 8 < 0 := by omega
    have hd : decide ((s.size : Int) - 8 < 0) = true := by simpa using hneg
    go_enter Tryz.func43, Tryz.ntmps43
    go_wp2
    go_quiet (fail)
    go_wp2
    go_ret2
    exact ⟨rfl, below_drewN (Below.refl _ w) _⟩
  · obtain ⟨p, hp⟩ : ∃ p, s.extract 0 (s.size - 8) = p := ⟨_, rfl⟩
    have hpd : p.data.toList = s.data.toList.take (s.size - 8) := by rw [← hp, take_data]
    have hps : p.size ≤ 140737488355328 := by rw [← hp, ByteArray.size_extract]; omega
    have hc1 := fun w => sum_any p w (by omega)
    have hc2 := fun w => hex_any (sumT p.data.toList) w (sumT_lt _)
    obtain ⟨n, hn⟩ : ∃ n : Nat, s.size = n + 8 := ⟨s.size - 8, by omega⟩
    have hx : s.extract 0 n = p := by rw [← hp]; congr 1; omega
    have hi1 : (0 : Int) ≤ (n : Int) := by omega
    have hi2 : (n : Int) ≤ (s.size : Int) := by omega
    have hi3 : (n : Int) ≤ (n : Int) + 8 := by omega
    obtain ⟨q, hq⟩ : ∃ q, s.extract n s.size = q := ⟨_, rfl⟩
    have hq2 : s.extract n (n + 8) = q := by rw [← hq, hn]
    have hsq : s.data.toList = p.data.toList ++ q.data.toList := by rw [← hx, ← hq, cut_again]
    by_cases h : sealT p.data.toList = s.data.toList
    · rw [open_eq s p h]
      have hb : (q.toList == hexT 8 (sumT p.data.toList)) = true := by
        rw [ByteArray.toList_eq]
        unfold sealT at h
        rw [hsq] at h
        simpa using (List.append_cancel_left h).symm
      clear hpd hp h hsq
      go_enter Tryz.func43, Tryz.ntmps43
      go_wp2
      go_region_held3 (fun _ => True) (trivial) ((first
        | (go_at_call 74; refine (hc1 _).mono ?_; rintro e w' ⟨rfl, rfl⟩)
        | (go_at_call 73; refine (hc2 _).mono ?_; rintro e w1 ⟨rfl, hb1⟩)))
      all_goals (go_wp2; go_ret2; exact ⟨rfl, below_of_drew hb1⟩)
    · rw [open_ne s p hpd h]
      have hb : (q.toList == hexT 8 (sumT p.data.toList)) = false := by
        rw [ByteArray.toList_eq]
        unfold sealT at h
        rw [hsq] at h
        simpa using fun e => h (by rw [e])
      clear hpd hp h hsq
      go_enter Tryz.func43, Tryz.ntmps43
      go_wp2
      go_region_held3 (fun _ => True) (trivial) ((first
        | (go_at_call 74; refine (hc1 _).mono ?_; rintro e w' ⟨rfl, rfl⟩)
        | (go_at_call 73; refine (hc2 _).mono ?_; rintro e w1 ⟨rfl, hb1⟩)))
      all_goals (go_wp2; go_ret2; exact ⟨rfl, below_of_drew hb1⟩)
end Go.Proofs.YtkpakiiijphjeaaGreatDoor

/-
  knot.Num, for every int64: the decimal numeral; nothing that was there has turned. No condition beyond the type's own bounds.
  The sums: the document's answer and knot.Sum, at every text. Condition: the text's length is a Go length.
  The seals: knot.hex, Seal, Open, and the document's answers to them, at every text. Condition: lengths below 2^47.
  knot.Open and the document's answer to it, at every text. Condition: lengths below 2^47.
-/
import Derived.Test.YticikmkehobblaaDoorBase
import Derived.Test.YticikmkehobblaaDoorMathA
import Derived.Laws.BitsAllLaws
import Derived.RegionTactic
import Derived.ChangeAlike
import Derived.Deep.RegionHeld3
import Derived.Deep.DrawnRows
import Derived.Deep.QuietTactic
import Derived.BigQuiet
namespace Go.Proofs.YticikmkehobblaaDoor
open Go.RowKit M

/-- Block g is n cells of type t; from place k on they hold the bytes l. -/
def Row (w : World) (g t n k : Nat) (l : List UInt8) : Prop :=
  ∃ cs : Array Value, w.heap[g]? = some (.cells cs t (0, 0)) ∧ cs.size = n ∧ k + l.length = n ∧ ∀ i (_ : i < l.length), cs[k + i]? = some (.int .u8 (l[i].toNat : Int))

theorem add_plain (b o j : Nat) : (⟨b, o, none⟩ : Addr).add j = ⟨b, o + j, none⟩ := by
  unfold Addr.add; split <;> simp_all

section
variable {w : World} {g t n k : Nat} {l : List UInt8}
theorem Row.start (w : World) (t n : Nat) (cs : Array Value) (h : cs.size = n) : Row (w.alloc (.cells cs t)) w.heap.size t n n [] :=
  ⟨cs, heap_alloc_new w _, h, by simp, fun i hi => absurd hi (by simp)⟩
theorem Row.lt (h : Row w g t n k l) : g < w.heap.size := by
  obtain ⟨cs, h1, _⟩ := h
  rcases Nat.lt_or_ge g w.heap.size with hlt | hge
  · exact hlt
  · rw [Array.getElem?_eq_none hge] at h1; cases h1
theorem Row.cell (h : Row w g t n k l) (i : Nat) (hi : i < n) : ∃ v, w.cell? ⟨g, i, none⟩ = some v := by
  obtain ⟨cs, h1, h2, _⟩ := h
  rw [Lib.cell_of_heap h1]
  exact ⟨cs[i]'(by omega), by rw [Array.getElem?_eq_getElem]⟩
theorem Row.frozen (h : Row w g t n k l) (i : Nat) : w.frozen? ⟨g, i, none⟩ = false := by
  obtain ⟨cs, h1, _⟩ := h
  exact Lib.frozen_of_heap h1 i
theorem Row.put (h : Row w g t n (k + 1) l) (c : UInt8) (x : Int) (hx : x = (c.toNat : Int)) : Row (w.setCell ⟨g, k, none⟩ (.int .u8 x)) g t n k (c :: l) := by
  obtain ⟨cs, h1, h2, h3, h4⟩ := h
  refine ⟨cs.setIfInBounds k (.int .u8 x), ?_, by simpa using h2, by simp; omega, ?_⟩
  · simp [World.setCell, Array.getElem?_modify, h1]
  · intro i hi
    rcases i with _ | i
    · rw [Nat.add_zero, Array.getElem?_setIfInBounds_self_of_lt (by omega), hx]; rfl
    · rw [Array.getElem?_setIfInBounds_ne (by omega), List.getElem_cons_succ, ← h4 i (by simpa using hi)]
      congr 1; omega
theorem Row.read (h : Row w g t n k l) : ∀ j (_ : j < l.length), w.cell? ((⟨g, k, none⟩ : Addr).add j) = some (.int .u8 (l[j].toNat : Int)) := by
  obtain ⟨cs, h1, h2, h3, h4⟩ := h
  intro j hj
  rw [add_plain, Lib.cell_of_heap h1]
  exact h4 j hj
theorem Row.length (h : Row w g t n k l) : k + l.length = n := by
  obtain ⟨_, _, _, h3, _⟩ := h; exact h3
theorem Row.convert (h : Row w g t n k l) : (convert 88 9 (.slice (some ⟨g, k, none⟩) (n - k) (n - k))).run Tryd.prog w = .ok (str l) w := by
  have h1 := run_convert_bytes_back (P := Tryd.prog) w 88 9 5 ⟨g, k, none⟩ (n - k) l Tryd.underlying88 Tryd.underlying5 Tryd.underlying9 h.read
  have := h.length
  rw [show n - k = l.length by omega] at h1 ⊢
  exact h1
end

theorem slice60 (g k : Nat) (hk : k < 20) (W : World) :
    (Instr.sliceAt 86 (.pointer (some ⟨g, 0, none⟩)) (some (.int .i64 (k : Int))) none none).run Tryd.prog W = .ok (.slice (some ⟨g, k, none⟩) (20 - k) (20 - k)) W := by
  have hal : Tryd.prog.arrayLen 86 = 20 := by kernel_rfl
  rw [run_sliceAt_array_l W 86 ⟨g, 0, none⟩ (by kernel_rfl) .i64 (k : Int) (by omega) (by rw [hal]; omega)]
  go_simp
  omega

/-- what stands at a round's head: the numeral of N is that of what is left, and what was written behind it. -/
def NumInv (N m : Nat) (l : List UInt8) : Prop := dig N = dig m ++ l ∧ (m ≠ 0 ∨ l = [])
theorem NumInv.step {N m : Nat} {l : List UInt8} (h : NumInv N m l) (hm : 10 ≤ m) : NumInv N (m / 10) (dchar (m % 10) :: l) := by
  refine ⟨?_, .inl (by omega)⟩
  rw [h.1, dig_ge (by omega)]; simp
theorem NumInv.last {N m : Nat} {l : List UInt8} (h : NumInv N m l) (hm : m < 10) : dig N = dchar (m % 10) :: l := by
  rw [h.1, dig_lt hm, Nat.mod_eq_of_lt hm]; rfl


set_option maxHeartbeats 1000000 in
set_option maxRecDepth 100000 in
theorem num_pos (n : Nat) (w : World) (hn : n ≤ 9223372036854775807) :
    Calls Tryd.prog 38 #[.int .i64 (n : Int)] w fun e w' => e = .returned (str (numT (n : Int))) ∧ Below w.heap.size w w' := by
  have hnn : ¬ ((n : Int) < 0) := by omega
  go_enter Tryd.func38, Tryd.ntmps38
  go_wp2
  go_loopw [4, 5] (fun va vm wr => ∃ (a m : Nat) (l : List UInt8), va = .int .i64 (a : Int) ∧ vm = .int .u64 (m : Int) ∧ Row wr w.heap.size 86 20 a l ∧ Below w.heap.size w wr ∧ 1 ≤ a ∧ a ≤ 20 ∧ m ≤ 18446744073709551615 ∧ m < 10 ^ a ∧ NumInv n m l) (fun va _ _ => (intOf va).toNat)
  case atStart => exact ⟨20, n, [], rfl, rfl, Row.start w 86 20 _ rfl, (Below.refl _ w).alloc (Nat.le_refl _) _, by omega, by omega, by omega, by omega, by simp, .inr rfl⟩
  case round =>
    obtain ⟨a, m, l, rfl, rfl, hrow, hbel, ha1, ha2, hm, hlt, hinv⟩ := hrel
    obtain ⟨k, rfl⟩ : ∃ k, a = k + 1 := ⟨a - 1, by omega⟩
    obtain ⟨v, hc⟩ := hrow.cell k (by omega)
    have hf := hrow.frozen k
    have hput := hrow.put (dchar (m % 10)) (48 + (m : Int) % 10) (by rw [dchar_toNat (by omega)]; omega)
    have hbel2 := hbel.setCell (p := ⟨w.heap.size, k, none⟩) (Nat.le_refl _) (.int .u8 (48 + (m : Int) % 10))
    have hsl := fun W => slice60 w.heap.size k (by omega) W
    have hcv := hput.convert
    have HP := Lib.hid hput
    have HI := Lib.hid hinv
    have HL := Lib.hid hlt
    have HB := Lib.hid hbel2
    clear hput hinv hlt hbel2 hrow hbel
    go_wp2
    · have h10 : m < 10 := by
        have h : ((m : Int) / 10 == 0) = true := by assumption
        have : (m : Int) / 10 = 0 := by simpa using h
        omega
      go_ret
      refine ⟨ret_str (a := dchar (m % 10) :: l) ?_, HB.out⟩
      rw [numT_nat, HI.out.last h10]
    · have h10 : 10 ≤ m := by
        have h : ((m : Int) / 10 == 0) = false := by assumption
        have : (m : Int) / 10 ≠ 0 := by simpa using h
        omega
      go_roundw
      case rel =>
        have hl := HL.out
        rw [Nat.pow_succ] at hl
        refine ⟨k, m / 10, _, rfl, by go_num, HP.out, HB.out, ?_, by omega, by omega, by omega, HI.out.step h10⟩
        rcases Nat.eq_zero_or_pos k with rfl | hk
        · simp at hl; omega
        · exact hk
      case measure => simp [intOf] <;> omega

set_option maxHeartbeats 1000000 in
set_option maxRecDepth 100000 in
theorem num_neg (n : Nat) (w : World) (h0 : 1 ≤ n) (hn : n ≤ 9223372036854775808) :
    Calls Tryd.prog 38 #[.int .i64 (-(n : Int))] w fun e w' => e = .returned (str (numT (-(n : Int)))) ∧ Below w.heap.size w w' := by
  have hnn : -(n : Int) < 0 := by omega
  have hwr : IntKind.u64.wrap (-IntKind.u64.wrap (-(n : Int))) = (n : Int) := by rw [IntKind.wrap_u64, IntKind.wrap_u64]; omega
  go_enter Tryd.func38, Tryd.ntmps38
  go_wp2
  go_loopw [4, 5] (fun va vm wr => ∃ (a m : Nat) (l : List UInt8), va = .int .i64 (a : Int) ∧ vm = .int .u64 (m : Int) ∧ Row wr w.heap.size 86 20 a l ∧ Below w.heap.size w wr ∧ 2 ≤ a ∧ a ≤ 20 ∧ m ≤ 18446744073709551615 ∧ m < 10 ^ (a - 1) ∧ NumInv n m l) (fun va _ _ => (intOf va).toNat)
  case atStart => exact ⟨20, n, [], rfl, rfl, Row.start w 86 20 _ rfl, (Below.refl _ w).alloc (Nat.le_refl _) _, by omega, by omega, by omega, by omega, by simp, .inr rfl⟩
  case round =>
    obtain ⟨a, m, l, rfl, rfl, hrow, hbel, ha1, ha2, hm, hlt, hinv⟩ := hrel
    obtain ⟨k, rfl⟩ : ∃ k, a = k + 1 + 1 := ⟨a - 2, by omega⟩
    obtain ⟨v, hc⟩ := hrow.cell (k + 1) (by omega)
    have hf := hrow.frozen (k + 1)
    obtain ⟨v2, hc2⟩ := hrow.cell k (by omega)
    have hf2 := hrow.frozen k
    have hput := hrow.put (dchar (m % 10)) (48 + (m : Int) % 10) (by rw [dchar_toNat (by omega)]; omega)
    have hput2 := hput.put 45 45 (by decide)
    have hbel2 := hbel.setCell (p := ⟨w.heap.size, k + 1, none⟩) (Nat.le_refl _) (.int .u8 (48 + (m : Int) % 10))
    have hbel3 := hbel2.setCell (p := ⟨w.heap.size, k, none⟩) (Nat.le_refl _) (.int .u8 45)
    have hsl := fun W => slice60 w.heap.size k (by omega) W
    have hcv := hput2.convert
    have HP := Lib.hid hput
    have HI := Lib.hid hinv
    have HL := Lib.hid hlt
    have HB := Lib.hid hbel2
    have HB3 := Lib.hid hbel3
    clear hput hput2 hinv hlt hbel2 hbel3 hrow hbel
    go_wp2
    · have h10 : m < 10 := by
        have h : ((m : Int) / 10 == 0) = true := by assumption
        have : (m : Int) / 10 = 0 := by simpa using h
        omega
      go_ret
      refine ⟨ret_str (a := 45 :: dchar (m % 10) :: l) ?_, HB3.out⟩
      unfold numT
      rw [if_pos hnn, Int.natAbs_neg, Int.natAbs_natCast, HI.out.last h10]
    · have h10 : 10 ≤ m := by
        have h : ((m : Int) / 10 == 0) = false := by assumption
        have : (m : Int) / 10 ≠ 0 := by simpa using h
        omega
      go_roundw
      case rel =>
        have hl := HL.out
        rw [show k + 1 + 1 - 1 = k + 1 by omega, Nat.pow_succ] at hl
        refine ⟨k + 1, m / 10, _, rfl, by go_num, HP.out, HB.out, ?_, by omega, by omega, by rw [Nat.add_sub_cancel]; omega, HI.out.step h10⟩
        rcases Nat.eq_zero_or_pos k with rfl | hk
        · simp at hl; omega
        · omega
      case measure => simp [intOf] <;> omega

/-- knot.Num at every int64. -/
theorem num_any (n : Int) (w : World) (hn : inR n) :
    Calls Tryd.prog 38 #[.int .i64 n] w fun e w' => e = .returned (str (numT n)) ∧ Below w.heap.size w w' := by
  unfold inR at hn
  by_cases h : n < 0
  · obtain ⟨m, rfl⟩ : ∃ m : Nat, n = -(m : Int) := ⟨n.natAbs, by omega⟩
    exact num_neg m w (by omega) (by omega)
  · obtain ⟨m, rfl⟩ : ∃ m : Nat, n = (m : Int) := ⟨n.natAbs, by omega⟩
    exact num_pos m w (by omega)

end Go.Proofs.YticikmkehobblaaDoor

namespace Go.Proofs.YticikmkehobblaaDoor
open Go.RowKit M

theorem int_eq {k : IntKind} {a b : Int} (h : a = b) : Value.int k a = Value.int k b := by rw [h]
theorem ret_int {k : IntKind} {a b : Int} (h : a = b) : Ending.returned (.int k a) = .returned (.int k b) := by rw [h]
theorem take_snoc (s : ByteArray) (k : Nat) (h : k < s.size) : s.data.toList.take (k + 1) = s.data.toList.take k ++ [s[k]] := by
  rw [List.take_succ_eq_append_getElem (by simpa using h)]; rfl
theorem take_all (s : ByteArray) : s.data.toList.take s.size = s.data.toList := List.take_of_length_le (by simp)

theorem or_join (b a : Nat) (hb : b < 65536) (ha : a < 65536) : bits .or .u32 ((b : Int) * 65536) (a : Int) = ((b * 65536 + a : Nat) : Int) := by
  have h := u32_or_nat (b * 65536) a (by omega) (by omega)
  rw [show ((b * 65536 : Nat) : Int) = (b : Int) * 65536 by omega] at h
  rw [h]
  have e := Nat.shiftLeft_add_eq_or_of_lt (i := 16) (b := a) (by omega) b
  rw [Nat.shiftLeft_eq] at e
  rw [← e]

theorem drop_data (t : ByteArray) (k : Nat) : (t.extract k t.size).data.toList = t.data.toList.drop k := by
  rw [Lib.extract_data]; exact List.take_of_length_le (by simp)
theorem take_data (t : ByteArray) (k : Nat) : (t.extract 0 k).data.toList = t.data.toList.take k := by
  rw [Lib.extract_data]; rfl
theorem cut_again (t : ByteArray) (k : Nat) : (t.extract 0 k).data.toList ++ (t.extract k t.size).data.toList = t.data.toList := by
  rw [drop_data, take_data, List.take_append_drop]
theorem toList_nil (t : ByteArray) : t.size = 0 ↔ t.data.toList = [] := by
  rw [show t.size = t.data.toList.length by simp]; exact List.length_eq_zero_iff
theorem empty_no (t : ByteArray) (h : t.size = 0) : (!t.toList.isEmpty) = false := by
  rw [ByteArray.toList_eq, (toList_nil t).1 h]; rfl
theorem empty_yes (t : ByteArray) (h : t.size ≠ 0) : (!t.toList.isEmpty) = true := by
  rw [ByteArray.toList_eq]
  have := fun e => h ((toList_nil t).2 e)
  cases he : t.data.toList <;> simp_all

/-- within a stretch: what a and b are, and how great at most. -/
def SumInv (p r : Text) (a b : Nat) : Prop :=
  a % 65521 = (sumAB (p ++ r)).1 ∧ b % 65521 = (sumAB (p ++ r)).2 ∧ a ≤ 65520 + 255 * r.length ∧ 2 * b ≤ 131040 + 131040 * r.length + 255 * (r.length * (r.length + 1))
theorem SumInv.start {p : Text} {a b : Nat} (ha : a = (sumAB p).1) (hb : b = (sumAB p).2) : SumInv p [] a b := by
  have := sumAB_lt p
  unfold SumInv
  rw [List.append_nil, ha, hb]
  simp only [List.length_nil]
  omega
theorem SumInv.step {p r : Text} {a b : Nat} (h : SumInv p r a b) (c : UInt8) : SumInv p (r ++ [c]) (a + c.toNat) (b + (a + c.toNat)) := by
  obtain ⟨h1, h2, h3, h4⟩ := h
  have hc := UInt8.toNat_lt c
  unfold SumInv
  rw [← List.append_assoc, sumAB_snoc, List.length_append, List.length_singleton]
  unfold sumStep
  simp only []
  have e : (r.length + 1) * (r.length + 1 + 1) = r.length * (r.length + 1) + 2 * (r.length + 1) := by
    rw [Nat.add_mul, Nat.mul_add r.length (r.length + 1) 1]; omega
  generalize r.length * (r.length + 1) = T at *
  omega
theorem SumInv.le1 {p r : Text} {a b : Nat} (h : SumInv p r a b) (hr : r.length ≤ 4096) : a ≤ 1110000 := by
  obtain ⟨_, _, h3, _⟩ := h; omega
theorem SumInv.le2 {p r : Text} {a b : Nat} (h : SumInv p r a b) (hr : r.length ≤ 4096) : b ≤ 2408052720 := by
  obtain ⟨_, _, _, h4⟩ := h
  have : r.length * (r.length + 1) ≤ 4096 * 4097 := Nat.mul_le_mul hr (by omega)
  omega

def lenOf : Value → Nat
  | .string t => t.size
  | _ => 0

end Go.Proofs.YticikmkehobblaaDoor

namespace Go.Proofs.YticikmkehobblaaDoor
open Go.RowKit M

abbrev hexDigits : ByteArray := ⟨#[48, 49, 50, 51, 52, 53, 54, 55, 56, 57, 97, 98, 99, 100, 101, 102]⟩
theorem index_hex (d : Nat) (h : d < 16) (w : World) : (Instr.index 9 (.string ⟨#[48, 49, 50, 51, 52, 53, 54, 55, 56, 57, 97, 98, 99, 100, 101, 102]⟩) (.int .u32 (d : Int))).run Tryd.prog w = .ok (.int .u8 ((hexd d).toNat : Int)) w := by
  have h16 : d = 0 ∨ d = 1 ∨ d = 2 ∨ d = 3 ∨ d = 4 ∨ d = 5 ∨ d = 6 ∨ d = 7 ∨ d = 8 ∨ d = 9 ∨ d = 10 ∨ d = 11 ∨ d = 12 ∨ d = 13 ∨ d = 14 ∨ d = 15 := by omega
  rcases h16 with rfl | rfl | rfl | rfl | rfl | rfl | rfl | rfl | rfl | rfl | rfl | rfl | rfl | rfl | rfl | rfl
  all_goals (show _ = _; kernel_rfl)

theorem and15 (m : Nat) (hm : m < 4294967296) : bits .and .u32 (m : Int) 15 = ((m % 16 : Nat) : Int) := by
  have h := u32_and_nat m 15 hm (by omega)
  rw [show ((15 : Nat) : Int) = 15 by rfl] at h
  rw [h, show m &&& 15 = m % 16 from Nat.and_two_pow_sub_one_eq_mod m 4]

theorem ret_string {a b : ByteArray} (h : a = b) : Ending.returned (.string a) = .returned (.string b) := by rw [h]
theorem bytes_ext {a b : ByteArray} (h : a.data.toList = b.data.toList) : a = b := by
  cases a; cases b; simp_all [Array.toList_inj]
theorem str_app (s : ByteArray) (l : List UInt8) : s ++ (⟨l.toArray⟩ : ByteArray) = ⟨(s.data.toList ++ l).toArray⟩ := by
  apply bytes_ext
  rw [ByteArray.data_append, Array.toList_append]
theorem str_self (s : ByteArray) : (⟨s.data.toList.toArray⟩ : ByteArray) = s := bytes_ext (by simp)

theorem slice_hex (d : Nat) (h : d < 16) (c : ByteArray) (hc : c = ⟨#[hexd d]⟩) (w : World) : (Instr.slice 9 (.string ⟨#[48, 49, 50, 51, 52, 53, 54, 55, 56, 57, 97, 98, 99, 100, 101, 102]⟩) (some (.int .u32 (d : Int))) (some (.int .u32 ((d : Int) + 1))) none).run Tryd.prog w = .ok (.string c) w := by
  subst hc
  have h16 : d = 0 ∨ d = 1 ∨ d = 2 ∨ d = 3 ∨ d = 4 ∨ d = 5 ∨ d = 6 ∨ d = 7 ∨ d = 8 ∨ d = 9 ∨ d = 10 ∨ d = 11 ∨ d = 12 ∨ d = 13 ∨ d = 14 ∨ d = 15 := by omega
  rcases h16 with rfl | rfl | rfl | rfl | rfl | rfl | rfl | rfl | rfl | rfl | rfl | rfl | rfl | rfl | rfl | rfl
  all_goals (show _ = _; kernel_rfl)

theorem hexT_up (n i : Nat) (hi : i < 8) : hexT (i + 1) (n / 16 ^ (8 - (i + 1))) = hexT i (n / 16 ^ (8 - i)) ++ [hexd (n / 16 ^ (7 - i) % 16)] := by
  rw [hexT, show 8 - (i + 1) = 7 - i by omega, Nat.div_div_eq_div_mul, ← Nat.pow_succ, show (7 - i).succ = 8 - i by omega]

end Go.Proofs.YticikmkehobblaaDoor

namespace Go.Proofs.YticikmkehobblaaDoor
open Go.RowKit M
attribute [local go_sem ↓] Go.wp_at_zero Go.wp_at_succ

theorem below_of_drew {B : Nat} {w w1 : World} (h : Below B w.drew w1) : Below B w w1 := ⟨h.os, h.tape, h.output, h.size, h.block⟩

/-- what both hand back -/
def openR : Option Text → Value
  | some x => .tuple #[str x, .int .i64 0]
  | none => .tuple #[str [], .int .i64 11]

theorem open_short (s : ByteArray) (h : s.size < 8) : openT s.data.toList = none := by
  unfold openT; rw [if_neg]; rintro ⟨h1, _⟩; simp at h1; omega
theorem open_eq (s p : ByteArray) (h : sealT p.data.toList = s.data.toList) : openT s.data.toList = some p.data.toList := by
  rw [← h]; exact open_seal _
theorem open_ne (s p : ByteArray) (hp : p.data.toList = s.data.toList.take (s.size - 8)) (h : sealT p.data.toList ≠ s.data.toList) : openT s.data.toList = none := by
  unfold openT; rw [if_neg]; rintro ⟨_, h2⟩
  rw [show s.data.toList.length = s.size by simp, ← hp] at h2
  exact h h2
theorem beq_yes {l : Text} {s : ByteArray} (h : l = s.data.toList) : (l == s.toList) = true := by rw [ByteArray.toList_eq, h]; simp
theorem beq_no {l : Text} {s : ByteArray} (h : l ≠ s.data.toList) : (l == s.toList) = false := by rw [ByteArray.toList_eq]; simpa using h

end Go.Proofs.YticikmkehobblaaDoor

/-
  knot.Num, for every int64: the decimal numeral; nothing that was there has turned. No condition beyond the type's own bounds.
-/
import Derived.Test.YtimodohcihnoiaaDoorBase
import Derived.Test.YtimodohcihnoiaaDoorMath
namespace Go.Proofs.YtimodohcihnoiaaDoor
open Go.RowKit M

/-- Block g is n cells of type t; from place k on they hold the bytes l. -/
def Row (w : World) (g t n k : Nat) (l : List UInt8) : Prop :=
  ∃ cs : Array Value, w.heap[g]? = some (.cells cs t (0, 0)) ∧ cs.size = n ∧ k + l.length = n ∧ ∀ i (_ : i < l.length), cs[k + i]? = some (.int .u8 (l[i].toNat : Int))

theorem add_plain (b o j : Nat) : (⟨b, o, none⟩ : Addr).add j = ⟨b, o + j, none⟩ := by
  unfold Addr.add; split <;> simp_all

section
variable {w : World} {g t n k : Nat} {l : List UInt8}
theorem Row.start (w : World) (t n : Nat) (cs : Array Value) (h : cs.size = n) : Row (w.alloc (.cells cs t)) w.heap.size t n n [] :=
  ⟨cs, heap_alloc_new w _, h, by simp, fun i hi => absurd hi (by simp)⟩
theorem Row.lt (h : Row w g t n k l) : g < w.heap.size := by
  obtain ⟨cs, h1, _⟩ := h
  rcases Nat.lt_or_ge g w.heap.size with hlt | hge
  · exact hlt
  · rw [Array.getElem?_eq_none hge] at h1; cases h1
theorem Row.cell (h : Row w g t n k l) (i : Nat) (hi : i < n) : ∃ v, w.cell? ⟨g, i, none⟩ = some v := by
  obtain ⟨cs, h1, h2, _⟩ := h
  rw [Lib.cell_of_heap h1]
  exact ⟨cs[i]'(by omega), by rw [Array.getElem?_eq_getElem]⟩
theorem Row.frozen (h : Row w g t n k l) (i : Nat) : w.frozen? ⟨g, i, none⟩ = false := by
  obtain ⟨cs, h1, _⟩ := h
  exact Lib.frozen_of_heap h1 i
theorem Row.put (h : Row w g t n (k + 1) l) (c : UInt8) (x : Int) (hx : x = (c.toNat : Int)) : Row (w.setCell ⟨g, k, none⟩ (.int .u8 x)) g t n k (c :: l) := by
  obtain ⟨cs, h1, h2, h3, h4⟩ := h
  refine ⟨cs.setIfInBounds k (.int .u8 x), ?_, by simpa using h2, by simp; omega, ?_⟩
  · simp [World.setCell, Array.getElem?_modify, h1]
  · intro i hi
    rcases i with _ | i
    · rw [Nat.add_zero, Array.getElem?_setIfInBounds_self_of_lt (by omega), hx]; rfl
    · rw [Array.getElem?_setIfInBounds_ne (by omega), List.getElem_cons_succ, ← h4 i (by simpa using hi)]
      congr 1; omega
theorem Row.read (h : Row w g t n k l) : ∀ j (_ : j < l.length), w.cell? ((⟨g, k, none⟩ : Addr).add j) = some (.int .u8 (l[j].toNat : Int)) := by
  obtain ⟨cs, h1, h2, h3, h4⟩ := h
  intro j hj
  rw [add_plain, Lib.cell_of_heap h1]
  exact h4 j hj
theorem Row.length (h : Row w g t n k l) : k + l.length = n := by
  obtain ⟨_, _, _, h3, _⟩ := h; exact h3
theorem Row.convert (h : Row w g t n k l) : (convert 85 9 (.slice (some ⟨g, k, none⟩) (n - k) (n - k))).run Tryd.prog w = .ok (str l) w := by
  have h1 := run_convert_bytes_back (P := Tryd.prog) w 85 9 5 ⟨g, k, none⟩ (n - k) l Tryd.underlying85 Tryd.underlying5 Tryd.underlying9 h.read
  have := h.length
  rw [show n - k = l.length by omega] at h1 ⊢
  exact h1
end

theorem slice60 (g k : Nat) (hk : k < 20) (W : World) :
    (Instr.sliceAt 84 (.pointer (some ⟨g, 0, none⟩)) (some (.int .i64 (k : Int))) none none).run Tryd.prog W = .ok (.slice (some ⟨g, k, none⟩) (20 - k) (20 - k)) W := by
  have hal : Tryd.prog.arrayLen 84 = 20 := by kernel_rfl
  rw [run_sliceAt_array_l W 84 ⟨g, 0, none⟩ (by kernel_rfl) .i64 (k : Int) (by omega) (by rw [hal]; omega)]
  go_simp
  omega

/-- what stands at a round's head: the numeral of N is that of what is left, and what was written behind it. -/
def NumInv (N m : Nat) (l : List UInt8) : Prop := dig N = dig m ++ l ∧ (m ≠ 0 ∨ l = [])
theorem NumInv.step {N m : Nat} {l : List UInt8} (h : NumInv N m l) (hm : 10 ≤ m) : NumInv N (m / 10) (dchar (m % 10) :: l) := by
  refine ⟨?_, .inl (by omega)⟩
  rw [h.1, dig_ge (by omega)]; simp
theorem NumInv.last {N m : Nat} {l : List UInt8} (h : NumInv N m l) (hm : m < 10) : dig N = dchar (m % 10) :: l := by
  rw [h.1, dig_lt hm, Nat.mod_eq_of_lt hm]; rfl


set_option maxHeartbeats 1000000 in
set_option maxRecDepth 100000 in
theorem num_pos (n : Nat) (w : World) (hn : n ≤ 9223372036854775807) :
    Calls Tryd.prog 42 #[.int .i64 (n : Int)] w fun e w' => e = .returned (str (numT (n : Int))) ∧ Below w.heap.size w w' := by
  have hnn : ¬ ((n : Int) < 0) := by omega
  go_enter Tryd.func42, Tryd.ntmps42
  go_wp2
  go_loopw [4, 5] (fun va vm wr => ∃ (a m : Nat) (l : List UInt8), va = .int .i64 (a : Int) ∧ vm = .int .u64 (m : Int) ∧ Row wr w.heap.size 84 20 a l ∧ Below w.heap.size w wr ∧ 1 ≤ a ∧ a ≤ 20 ∧ m ≤ 18446744073709551615 ∧ m < 10 ^ a ∧ NumInv n m l) (fun va _ _ => (intOf va).toNat)
  case atStart => exact ⟨20, n, [], rfl, rfl, Row.start w 84 20 _ rfl, (Below.refl _ w).alloc (Nat.le_refl _) _, by omega, by omega, by omega, by omega, by simp, .inr rfl⟩
  case round =>
    obtain ⟨a, m, l, rfl, rfl, hrow, hbel, ha1, ha2, hm, hlt, hinv⟩ := hrel
    obtain ⟨k, rfl⟩ : ∃ k, a = k + 1 := ⟨a - 1, by omega⟩
    obtain ⟨v, hc⟩ := hrow.cell k (by omega)
    have hf := hrow.frozen k
    have hput := hrow.put (dchar (m % 10)) (48 + (m : Int) % 10) (by rw [dchar_toNat (by omega)]; omega)
    have hbel2 := hbel.setCell (p := ⟨w.heap.size, k, none⟩) (Nat.le_refl _) (.int .u8 (48 + (m : Int) % 10))
    have hsl := fun W => slice60 w.heap.size k (by omega) W
    have hcv := hput.convert
    have HP := Lib.hid hput
    have HI := Lib.hid hinv
    have HL := Lib.hid hlt
    have HB := Lib.hid hbel2
    clear hput hinv hlt hbel2 hrow hbel
    go_wp2
    · have h10 : m < 10 := by
        have h : ((m : Int) / 10 == 0) = true := by assumption
        have : (m : Int) / 10 = 0 := by simpa using h
        omega
      go_ret
      refine ⟨ret_str (a := dchar (m % 10) :: l) ?_, HB.out⟩
      rw [numT_nat, HI.out.last h10]
    · have h10 : 10 ≤ m := by
        have h : ((m : Int) / 10 == 0) = false := by assumption
        have : (m : Int) / 10 ≠ 0 := by simpa using h
        omega
      go_roundw
      case rel =>
        have hl := HL.out
        rw [Nat.pow_succ] at hl
        refine ⟨k, m / 10, _, rfl, by go_num, HP.out, HB.out, ?_, by omega, by omega, by omega, HI.out.step h10⟩
        rcases Nat.eq_zero_or_pos k with rfl | hk
        · simp at hl; omega
        · exact hk
      case measure => simp [intOf] <;> omega

set_option maxHeartbeats 1000000 in
set_option maxRecDepth 100000 in
theorem num_neg (n : Nat) (w : World) (h0 : 1 ≤ n) (hn : n ≤ 9223372036854775808) :
    Calls Tryd.prog 42 #[.int .i64 (-(n : Int))] w fun e w' => e = .returned (str (numT (-(n : Int)))) ∧ Below w.heap.size w w' := by
  have hnn : -(n : Int) < 0 := by omega
  have hwr : IntKind.u64.wrap (-IntKind.u64.wrap (-(n : Int))) = (n : Int) := by rw [IntKind.wrap_u64, IntKind.wrap_u64]; omega
  go_enter Tryd.func42, Tryd.ntmps42
  go_wp2
  go_loopw [4, 5] (fun va vm wr => ∃ (a m : Nat) (l : List UInt8), va = .int .i64 (a : Int) ∧ vm = .int .u64 (m : Int) ∧ Row wr w.heap.size 84 20 a l ∧ Below w.heap.size w wr ∧ 2 ≤ a ∧ a ≤ 20 ∧ m ≤ 18446744073709551615 ∧ m < 10 ^ (a - 1) ∧ NumInv n m l) (fun va _ _ => (intOf va).toNat)
  case atStart => exact ⟨20, n, [], rfl, rfl, Row.start w 84 20 _ rfl, (Below.refl _ w).alloc (Nat.le_refl _) _, by omega, by omega, by omega, by omega, by simp, .inr rfl⟩
  case round =>
    obtain ⟨a, m, l, rfl, rfl, hrow, hbel, ha1, ha2, hm, hlt, hinv⟩ := hrel
    obtain ⟨k, rfl⟩ : ∃ k, a = k + 1 + 1 := ⟨a - 2, by omega⟩
    obtain ⟨v, hc⟩ := hrow.cell (k + 1) (by omega)
    have hf := hrow.frozen (k + 1)
    obtain ⟨v2, hc2⟩ := hrow.cell k (by omega)
    have hf2 := hrow.frozen k
    have hput := hrow.put (dchar (m % 10)) (48 + (m : Int) % 10) (by rw [dchar_toNat (by omega)]; omega)
    have hput2 := hput.put 45 45 (by decide)
    have hbel2 := hbel.setCell (p := ⟨w.heap.size, k + 1, none⟩) (Nat.le_refl _) (.int .u8 (48 + (m : Int) % 10))
    have hbel3 := hbel2.setCell (p := ⟨w.heap.size, k, none⟩) (Nat.le_refl _) (.int .u8 45)
    have hsl := fun W => slice60 w.heap.size k (by omega) W
    have hcv := hput2.convert
    have HP := Lib.hid hput
    have HI := Lib.hid hinv
    have HL := Lib.hid hlt
    have HB := Lib.hid hbel2
    have HB3 := Lib.hid hbel3
    clear hput hput2 hinv hlt hbel2 hbel3 hrow hbel
    go_wp2
    · have h10 : m < 10 := by
        have h : ((m : Int) / 10 == 0) = true := by assumption
        have : (m : Int) / 10 = 0 := by simpa using h
        omega
      go_ret
      refine ⟨ret_str (a := 45 :: dchar (m % 10) :: l) ?_, HB3.out⟩
      unfold numT
      rw [if_pos hnn, Int.natAbs_neg, Int.natAbs_natCast, HI.out.last h10]
    · have h10 : 10 ≤ m := by
        have h : ((m : Int) / 10 == 0) = false := by assumption
        have : (m : Int) / 10 ≠ 0 := by simpa using h
        omega
      go_roundw
      case rel =>
        have hl := HL.out
        rw [show k + 1 + 1 - 1 = k + 1 by omega, Nat.pow_succ] at hl
        refine ⟨k + 1, m / 10, _, rfl, by go_num, HP.out, HB.out, ?_, by omega, by omega, by rw [Nat.add_sub_cancel]; omega, HI.out.step h10⟩
        rcases Nat.eq_zero_or_pos k with rfl | hk
        · simp at hl; omega
        · omega
      case measure => simp [intOf] <;> omega

/-- knot.Num at every int64. -/
theorem num_any (n : Int) (w : World) (hn : inR n) :
    Calls Tryd.prog 42 #[.int .i64 n] w fun e w' => e = .returned (str (numT n)) ∧ Below w.heap.size w w' := by
  unfold inR at hn
  by_cases h : n < 0
  · obtain ⟨m, rfl⟩ : ∃ m : Nat, n = -(m : Int) := ⟨n.natAbs, by omega⟩
    exact num_neg m w (by omega) (by omega)
  · obtain ⟨m, rfl⟩ : ∃ m : Nat, n = (m : Int) := ⟨n.natAbs, by omega⟩
    exact num_pos m w (by omega)

end Go.Proofs.YtimodohcihnoiaaDoor

/-
  The document's Int at every text. Condition: lengths below 2^47.
-/
import Derived.Test.YthcmnkmfhgoddaaGreatDoorOFirstA
namespace Go.Proofs.YthcmnkmfhgoddaaGreatDoor
open Go.RowKit M
theorem not45 (n : Nat) (r : Text) : dig n ≠ 45 :: r := by
  intro h
  have := dig_isDig n 45 (by rw [h]; simp)
  unfold isDig at this
  exact absurd this.1 (by decide)
def Behind (s d : Text) (below : Bool) : Prop := ∀ n, numT n = s → dig n.natAbs = d ∧ (below = true ↔ n < 0)
theorem behind_neg (d : Text) : Behind (45 :: d) d true := by
  intro n h
  unfold numT at h
  by_cases h0 : n < 0
  · rw [if_pos h0] at h
    exact ⟨by simpa using h, by simp [h0]⟩
  · rw [if_neg h0] at h
    exact absurd h (not45 _ _)
theorem behind_pos (s : Text) (hs : s.head? ≠ some 45) : Behind s s false := by
  intro n h
  unfold numT at h
  by_cases h0 : n < 0
  · rw [if_pos h0] at h
    exact absurd (by rw [← h]; rfl) hs
  · rw [if_neg h0] at h
    exact ⟨h, by simp [h0]⟩
theorem bail_dig {s d : Text} {below : Bool} (hb : Behind s d below) {k : Nat} (hk : k < d.length) (h : ¬ isDig d[k]) : intT s = none :=
  intT_none fun n _ e => by
    obtain ⟨h1, _⟩ := hb n e
    subst h1
    exact h (dig_isDig _ _ (List.getElem_mem hk))
theorem bail_big {s d : Text} {below : Bool} (hb : Behind s d below) {k : Nat} (hk : k < d.length) (h : 1152921504606846976 < valN (d.take k)) : intT s = none :=
  intT_none fun n hn e => by
    obtain ⟨h1, _⟩ := hb n e
    subst h1
    have := dig_take n.natAbs k hk
    unfold inR at hn
    omega
theorem end_pos {s d : Text} (hb : Behind s d false) {x : Int} (hx : inR x) (h2 : valN d ≤ 9223372036854775807 → x = (valN d : Int)) : intT s = if numT x = s then some x else none := by
  by_cases h : numT x = s
  · rw [if_pos h, intT_some hx h]
  · rw [if_neg h]
    exact intT_none fun n hn e => by
      obtain ⟨h1, h3⟩ := hb n e
      have hv : valN d = n.natAbs := by rw [← h1, valN_dig]
      have h0 : ¬ n < 0 := fun h => by have := h3.2 h; cases this
      unfold inR at hn
      exact h (by rw [h2 (by omega), hv, ← e]; congr 1; omega)
theorem end_neg {s d : Text} (hb : Behind s d true) {x : Int} (hx : inR x) (h2 : valN d ≤ 9223372036854775808 → x = -(valN d : Int)) : intT s = if numT x = s then some x else none := by
  by_cases h : numT x = s
  · rw [if_pos h, intT_some hx h]
  · rw [if_neg h]
    exact intT_none fun n hn e => by
      obtain ⟨h1, h3⟩ := hb n e
      have hv : valN d = n.natAbs := by rw [← h1, valN_dig]
      have h0 : n < 0 := h3.1 rfl
      unfold inR at hn
      exact h (by rw [h2 (by omega), hv, ← e]; congr 1; omega)
theorem notU64 (a : Int) (h1 : 0 ≤ a) (h2 : a ≤ 18446744073709551615) : bits .xor .u64 18446744073709551615 a = 18446744073709551615 - a := by
  obtain ⟨n, rfl⟩ : ∃ n : Nat, a = (n : Int) := ⟨a.toNat, by omega⟩
  show IntKind.u64.wrap ((BitVec.ofInt 64 18446744073709551615 ^^^ BitVec.ofInt 64 (n : Int)).toNat : Int) = _
  rw [show BitVec.ofInt 64 18446744073709551615 = BitVec.allOnes 64 by decide, BitVec.allOnes_xor, BitVec.toNat_not, BitVec.toNat_ofInt, IntKind.wrap_u64]
  omega
set_option maxHeartbeats 2000000 in
set_option maxRecDepth 100000 in
theorem rint_neg (s d : ByteArray) (w : World) (hs : 1 ≤ s.size) (hs2 : s.size ≤ 20) (h0 : (s[0]'(by omega)).toNat = 45) (hd : s.extract 1 s.size = d) :
    Calls Tryz.prog 99 #[.string s] w fun e w' => e = .returned (intR (intT s.data.toList)) ∧ w = w' := by
  have hi' : (s.size : Int) ≤ 20 := by omega
  have hi1 : (1 : Int) ≤ s.size := by omega
  have h0' : (((s[0]'(by omega)).toNat : Int) == 45) = true := by rw [h0]; rfl
  have hds : d.size ≤ 20 := by rw [← hd, ByteArray.size_extract]; omega
  have HB : Hid (Behind s.data.toList d.data.toList true) := by
    show Behind _ _ _
    have h : s.data.toList = 45 :: d.data.toList := by
      rw [← hd, drop_data]
      have h1 : 0 < s.data.toList.length := by rw [show s.data.toList.length = s.size by simp]; omega
      have h2 := List.drop_eq_getElem_cons h1
      rw [List.drop_zero] at h2
      have h3 : s.data.toList[0] = (45 : UInt8) := UInt8.toNat_inj.1 h0
      rw [h3] at h2
      exact h2
    rw [h]; exact behind_neg _
  clear h0
  go_enter Tryz.func99, Tryz.ntmps99
  go_wp2_with fail
  go_loop [6, 7] (fun vn vi => ∃ (k : Nat) (a : Int), k ≤ d.size ∧ vi = .int .i64 (k : Int) ∧ vn = .int .u64 a ∧ 0 ≤ a ∧ a ≤ 11529215046068469769 ∧ Hid (a = (valN (d.data.toList.take k) : Int))) (fun _ vi => d.size - (intOf vi).toNat)
  case atStart => exact ⟨0, 0, Nat.zero_le _, rfl, rfl, by omega, by omega, rfl⟩
  case round =>
    obtain ⟨k, a, hk, rfl, rfl, ha0, ha1, ha⟩ := hrel
    by_cases hlt : k < d.size
    · obtain ⟨c, hc⟩ : ∃ c : Int, ((d[k]'hlt).toNat : Int) = c := ⟨_, rfl⟩
      have hc0 : 0 ≤ c := by omega
      have hc1 : c ≤ 255 := by have := UInt8.toNat_lt (d[k]'hlt); omega
      have hkl : k < d.data.toList.length := by simpa using hlt
      have hget : d.data.toList[k] = d[k]'hlt := rfl
      by_cases h48 : c < 48
      · have hbail := bail_dig (HB.out) hkl (by rw [hget]; unfold isDig; omega)
        have HBA := Lib.hid hbail
        clear hbail hget
        go_wp2_with fail
        go_ret2
        exact ⟨by rw [HBA.out]; rfl, rfl⟩
      · by_cases h57 : 57 < c
        · have hbail := bail_dig (HB.out) hkl (by rw [hget]; unfold isDig; omega)
          have HBA := Lib.hid hbail
          clear hbail hget
          go_wp2_with fail
          go_ret2
          exact ⟨by rw [HBA.out]; rfl, rfl⟩
        · by_cases hbig : 1152921504606846976 < a
          · have hbail := bail_big (HB.out) hkl (by have := ha.out; omega)
            have HBA := Lib.hid hbail
            clear hbail hget
            go_wp2_with fail
            go_ret2
            exact ⟨by rw [HBA.out]; rfl, rfl⟩
          · have hnew : Hid (10 * a + (c - 48) = (valN (d.data.toList.take (k + 1)) : Int)) := by
              show 10 * a + (c - 48) = _
              rw [take_snoc d k hlt, valN_snoc, ha.out]
              omega
            clear ha hget
            go_wp2_with fail
            go_round
            case rel => exact ⟨k + 1, _, by omega, by go_num, rfl, by omega, by omega, hnew⟩
            case measure => simp [intOf]; omega
    · obtain rfl : k = d.size := by omega
      have ha2 := ha.out
      rw [take_all] at ha2
      obtain ⟨x, hx⟩ : ∃ x : Int, wrap64 (IntKind.u64.wrap (bits .xor .u64 IntKind.u64.max a + 1)) = x := ⟨_, rfl⟩
      have hxe : (18446744073709551615 - a + 1) % 18446744073709551616 < 9223372036854775808 ∧ x = (18446744073709551615 - a + 1) % 18446744073709551616 ∨ 9223372036854775808 ≤ (18446744073709551615 - a + 1) % 18446744073709551616 ∧ x = (18446744073709551615 - a + 1) % 18446744073709551616 - 18446744073709551616 := by
        rw [← hx, show IntKind.u64.max = 18446744073709551615 by rfl, notU64 a ha0 (by omega), IntKind.wrap_u64]; unfold wrap64; omega
      have hxr : inR x := by unfold inR; clear hx; omega
      have hxv : valN d.data.toList ≤ 9223372036854775808 → x = -(valN d.data.toList : Int) := by
        intro h; clear hx; omega
      have hE := end_neg HB.out hxr hxv
      have hnum := fun w => rnum_any x w hxr
      clear HB ha ha2 hxv hxr hxe
      by_cases he : numT x = s.data.toList
      · rw [if_pos he] at hE
        have hq := beq_yes he
        have HE := Lib.hid hE
        clear he hE
        go_wp2_with fail
        refine (hnum _).mono ?_
        rintro e w' ⟨rfl, rfl⟩
        go_wp2_with fail
        go_ret2
        exact ⟨by rw [HE.out]; rfl, rfl⟩
      · rw [if_neg he] at hE
        have hq := beq_no he
        have HE := Lib.hid hE
        clear he hE
        go_wp2_with fail
        refine (hnum _).mono ?_
        rintro e w' ⟨rfl, rfl⟩
        go_wp2_with fail
        go_ret2
        exact ⟨by rw [HE.out]; rfl, rfl⟩
set_option maxHeartbeats 2000000 in
set_option maxRecDepth 100000 in
theorem rint_pos (s : ByteArray) (w : World) (hs : 1 ≤ s.size) (hs2 : s.size ≤ 20) (h0 : (s[0]'(by omega)).toNat ≠ 45) :
    Calls Tryz.prog 99 #[.string s] w fun e w' => e = .returned (intR (intT s.data.toList)) ∧ w = w' := by
  have hi' : (s.size : Int) ≤ 20 := by omega
  have hi1 : (1 : Int) ≤ s.size := by omega
  have h0' : (((s[0]'(by omega)).toNat : Int) == 45) = false := by
    have : ((s[0]'(by omega)).toNat : Int) ≠ 45 := by omega
    simpa using this
  have hds : s.size ≤ 20 := hs2
  have HB : Hid (Behind s.data.toList s.data.toList false) := by
    show Behind _ _ _
    refine behind_pos _ fun h => h0 ?_
    have h1 : 0 < s.data.toList.length := by rw [show s.data.toList.length = s.size by simp]; omega
    rw [List.head?_eq_getElem?, List.getElem?_eq_getElem h1] at h
    have h3 : s.data.toList[0] = (45 : UInt8) := Option.some.inj h
    exact congrArg UInt8.toNat h3
  clear h0
  go_enter Tryz.func99, Tryz.ntmps99
  go_wp2_with fail
  go_loop [6, 7] (fun vn vi => ∃ (k : Nat) (a : Int), k ≤ s.size ∧ vi = .int .i64 (k : Int) ∧ vn = .int .u64 a ∧ 0 ≤ a ∧ a ≤ 11529215046068469769 ∧ Hid (a = (valN (s.data.toList.take k) : Int))) (fun _ vi => s.size - (intOf vi).toNat)
  case atStart => exact ⟨0, 0, Nat.zero_le _, rfl, rfl, by omega, by omega, rfl⟩
  case round =>
    obtain ⟨k, a, hk, rfl, rfl, ha0, ha1, ha⟩ := hrel
    by_cases hlt : k < s.size
    · obtain ⟨c, hc⟩ : ∃ c : Int, ((s[k]'hlt).toNat : Int) = c := ⟨_, rfl⟩
      have hc0 : 0 ≤ c := by omega
      have hc1 : c ≤ 255 := by have := UInt8.toNat_lt (s[k]'hlt); omega
      have hkl : k < s.data.toList.length := by simpa using hlt
      have hget : s.data.toList[k] = s[k]'hlt := rfl
      by_cases h48 : c < 48
      · have hbail := bail_dig (HB.out) hkl (by rw [hget]; unfold isDig; omega)
        have HBA := Lib.hid hbail
        clear hbail hget
        go_wp2_with fail
        go_ret2
        exact ⟨by rw [HBA.out]; rfl, rfl⟩
      · by_cases h57 : 57 < c
        · have hbail := bail_dig (HB.out) hkl (by rw [hget]; unfold isDig; omega)
          have HBA := Lib.hid hbail
          clear hbail hget
          go_wp2_with fail
          go_ret2
          exact ⟨by rw [HBA.out]; rfl, rfl⟩
        · by_cases hbig : 1152921504606846976 < a
          · have hbail := bail_big (HB.out) hkl (by have := ha.out; omega)
            have HBA := Lib.hid hbail
            clear hbail hget
            go_wp2_with fail
            go_ret2
            exact ⟨by rw [HBA.out]; rfl, rfl⟩
          · have hnew : Hid (10 * a + (c - 48) = (valN (s.data.toList.take (k + 1)) : Int)) := by
              show 10 * a + (c - 48) = _
              rw [take_snoc s k hlt, valN_snoc, ha.out]
              omega
            clear ha hget
            go_wp2_with fail
            go_round
            case rel => exact ⟨k + 1, _, by omega, by go_num, rfl, by omega, by omega, hnew⟩
            case measure => simp [intOf]; omega
    · obtain rfl : k = s.size := by omega
      have ha2 := ha.out
      rw [take_all] at ha2
      obtain ⟨x, hx⟩ : ∃ x : Int, IntKind.i64.wrap a = x := ⟨_, rfl⟩
      have hxr : inR x := by rw [← hx, IntKind.wrap_i64]; unfold inR; omega
      have hxv : valN s.data.toList ≤ 9223372036854775807 → x = (valN s.data.toList : Int) := by
        intro h; rw [← hx, IntKind.wrap_i64]; omega
      have hE := end_pos HB.out hxr hxv
      have hnum := fun w => rnum_any x w hxr
      clear HB ha ha2 hxv hxr
      by_cases he : numT x = s.data.toList
      · rw [if_pos he] at hE
        have hq := beq_yes he
        have HE := Lib.hid hE
        clear he hE
        go_wp2_with fail
        refine (hnum _).mono ?_
        rintro e w' ⟨rfl, rfl⟩
        go_wp2_with fail
        go_ret2
        exact ⟨by rw [HE.out]; rfl, rfl⟩
      · rw [if_neg he] at hE
        have hq := beq_no he
        have HE := Lib.hid hE
        clear he hE
        go_wp2_with fail
        refine (hnum _).mono ?_
        rintro e w' ⟨rfl, rfl⟩
        go_wp2_with fail
        go_ret2
        exact ⟨by rw [HE.out]; rfl, rfl⟩
set_option maxHeartbeats 2000000 in
set_option maxRecDepth 100000 in
theorem rint_empty (s : ByteArray) (w : World) (hs : s.size = 0) :
    Calls Tryz.prog 99 #[.string s] w fun e w' => e = .returned (intR (intT s.data.toList)) ∧ w = w' := by
  have HB : Hid (Behind s.data.toList s.data.toList false) := by
    show Behind _ _ _
    refine behind_pos _ fun h => ?_
    rw [(toList_nil s).1 hs] at h; cases h
  go_enter Tryz.func99, Tryz.ntmps99
  go_wp2_with fail
  go_loop [6, 7] (fun vn vi => ∃ (k : Nat) (a : Int), k ≤ s.size ∧ vi = .int .i64 (k : Int) ∧ vn = .int .u64 a ∧ 0 ≤ a ∧ a ≤ 11529215046068469769 ∧ Hid (a = (valN (s.data.toList.take k) : Int))) (fun _ vi => s.size - (intOf vi).toNat)
  case atStart => exact ⟨0, 0, Nat.zero_le _, rfl, rfl, by omega, by omega, rfl⟩
  case round =>
    obtain ⟨k, a, hk, rfl, rfl, ha0, ha1, ha⟩ := hrel
    by_cases hlt : k < s.size
    · omega
    · obtain rfl : k = s.size := by omega
      have ha2 := ha.out
      rw [take_all] at ha2
      obtain ⟨x, hx⟩ : ∃ x : Int, IntKind.i64.wrap a = x := ⟨_, rfl⟩
      have hxr : inR x := by rw [← hx, IntKind.wrap_i64]; unfold inR; omega
      have hxv : valN s.data.toList ≤ 9223372036854775807 → x = (valN s.data.toList : Int) := by
        intro h; rw [← hx, IntKind.wrap_i64]; omega
      have hE := end_pos HB.out hxr hxv
      have hnum := fun w => rnum_any x w hxr
      clear HB ha ha2 hxv hxr
      by_cases he : numT x = s.data.toList
      · rw [if_pos he] at hE
        have hq := beq_yes he
        have HE := Lib.hid hE
        clear he hE
        go_wp2_with fail
        refine (hnum _).mono ?_
        rintro e w' ⟨rfl, rfl⟩
        go_wp2_with fail
        go_ret2
        exact ⟨by rw [HE.out]; rfl, rfl⟩
      · rw [if_neg he] at hE
        have hq := beq_no he
        have HE := Lib.hid hE
        clear he hE
        go_wp2_with fail
        refine (hnum _).mono ?_
        rintro e w' ⟨rfl, rfl⟩
        go_wp2_with fail
        go_ret2
        exact ⟨by rw [HE.out]; rfl, rfl⟩
theorem rint_any (s : ByteArray) (w : World) (hs : s.size ≤ 140737488355328) :
    Calls Tryz.prog 99 #[.string s] w fun e w' => e = .returned (intR (intT s.data.toList)) ∧ w = w' := by
  by_cases h20 : 20 < s.size
  · rw [intT_long s h20]
    have hi : (20 : Int) < (s.size : Int) := by omega
    go_enter Tryz.func99, Tryz.ntmps99
    go_wp2_with fail
    go_ret2
    exact ⟨rfl, rfl⟩
  · by_cases h0 : s.size = 0
    · exact rint_empty s w h0
    · by_cases h45 : (s[0]'(by omega)).toNat = 45
      · exact rint_neg s _ w (by omega) (by omega) h45 rfl
      · exact rint_pos s w (by omega) (by omega) h45
end Go.Proofs.YthcmnkmfhgoddaaGreatDoor

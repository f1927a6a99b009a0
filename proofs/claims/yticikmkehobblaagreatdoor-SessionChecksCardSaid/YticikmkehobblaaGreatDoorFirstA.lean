/-
  The document's Num and Int, and knot.Int, at every number and every text. Condition: lengths below 2^47; the library's variables hold what their types allow.
  The document's Int at every text. Condition: lengths below 2^47.
  knot.First at every text. Condition: lengths below 2^47; the library's variables hold what their types allow.
  The document's First at every text. Condition: lengths below 2^47.
-/
import Derived.Test.YticikmkehobblaaGreatDoorSealA
import Derived.Lib.ParseIntBTie
import Derived.Test.YticikmkehobblaaGreatDoorMathA
import Derived.Lib.IndexMore
namespace Go.Proofs.YticikmkehobblaaGreatDoor
open Go.RowKit M
attribute [local go_sem ↓] Go.wp_at_zero Go.wp_at_succ

theorem slice_dec (d : Nat) (h : d < 10) (w : World) : (Instr.slice 9 (.string ⟨#[48, 49, 50, 51, 52, 53, 54, 55, 56, 57]⟩) (some (.int .u64 (d : Int))) (some (.int .u64 ((d : Int) + 1))) none).run Tryz.prog w = .ok (str (dig d)) w := by
  rw [dig_lt h]
  have h16 : d = 0 ∨ d = 1 ∨ d = 2 ∨ d = 3 ∨ d = 4 ∨ d = 5 ∨ d = 6 ∨ d = 7 ∨ d = 8 ∨ d = 9 := by omega
  rcases h16 with rfl | rfl | rfl | rfl | rfl | rfl | rfl | rfl | rfl | rfl
  all_goals (show _ = _; kernel_rfl)

set_option maxHeartbeats 1000000 in
set_option maxRecDepth 100000 in
theorem rdigits_any (n : Nat) (w : World) (hn : n ≤ 18446744073709551615) :
    Calls Tryz.prog 117 #[.int .u64 (n : Int)] w fun e w' => e = .returned (str (dig n)) ∧ w = w' := by
  induction n using Nat.strongRecOn with
  | _ n ih =>
    by_cases h : n < 10
    · have hsl := slice_dec n h
      go_enter Tryz.func117, Tryz.ntmps117
      go_wp2
      go_ret
      exact ⟨rfl, rfl⟩
    · have h1 := ih (n / 10) (by omega) (by omega)
      have h2 := ih (n % 10) (by omega) (by omega)
      have hl1 := dig_length 19 (n / 10) (by omega)
      have hl2 := dig_length 19 (n % 10) (by omega)
      have he : dig n = dig (n / 10) ++ dig (n % 10) := by rw [dig_ge h, dig_lt (n := n % 10) (by omega)]
      obtain ⟨q, hq⟩ : ∃ q, q = n / 10 := ⟨_, rfl⟩
      obtain ⟨r, hr⟩ : ∃ r, r = n % 10 := ⟨_, rfl⟩
      rw [← hq] at h1 hl1 he
      rw [← hr] at h2 hl2 he
      have hq' : (n : Int) / 10 = (q : Int) := by omega
      have hr' : (n : Int) % 10 = (r : Int) := by omega
      have HE := Lib.hid he
      clear hq hr ih he
      go_enter Tryz.func117, Tryz.ntmps117
      go_wp2_with fail
      refine h1.mono ?_
      rintro e w' ⟨rfl, rfl⟩
      go_wp2_with fail
      refine h2.mono ?_
      rintro e w' ⟨rfl, rfl⟩
      go_wp2_with fail
      go_ret
      refine ⟨ret_string (a := (⟨(dig q).toArray⟩ : ByteArray) ++ (⟨(dig r).toArray⟩ : ByteArray)) (b := ⟨(dig n).toArray⟩) ?_, rfl⟩
      rw [str_app, HE.out]


theorem not64 (x : Int) (h1 : -9223372036854775808 ≤ x) (h2 : x ≤ 9223372036854775807) : bits .xor .i64 (-1) x = -x - 1 := by
  show IntKind.i64.wrap ((BitVec.ofInt 64 (-1) ^^^ BitVec.ofInt 64 x).toNat : Int) = _
  rw [show BitVec.ofInt 64 (-1) = BitVec.allOnes 64 by decide, BitVec.allOnes_xor, BitVec.toNat_not, BitVec.toNat_ofInt, IntKind.wrap_i64]
  omega

set_option maxHeartbeats 1000000 in
set_option maxRecDepth 100000 in
theorem rnum_any (n : Int) (w : World) (hn : inR n) :
    Calls Tryz.prog 60 #[.int .i64 n] w fun e w' => e = .returned (str (numT n)) ∧ w = w' := by
  unfold inR at hn
  by_cases h : n < 0
  · obtain ⟨m, rfl⟩ : ∃ m : Nat, n = -(m : Int) := ⟨n.natAbs, by omega⟩
    have h1 := fun w => rdigits_any m w (by omega)
    have hl := dig_length 19 m (by omega)
    have he : numT (-(m : Int)) = 45 :: dig m := by unfold numT; rw [if_pos h, Int.natAbs_neg, Int.natAbs_natCast]
    have HE := Lib.hid he
    clear he
    have hwr : IntKind.u64.wrap (IntKind.u64.wrap (bits .xor .i64 (-1) (-(m : Int))) + 1) = (m : Int) := by
      rw [not64 _ (by omega) (by omega), IntKind.wrap_u64, IntKind.wrap_u64]; omega
    go_enter Tryz.func60, Tryz.ntmps60
    go_wp2_with fail
    refine (h1 _).mono ?_
    rintro e w' ⟨rfl, rfl⟩
    go_wp2_with fail
    go_ret
    refine ⟨ret_string (a := (⟨#[45]⟩ : ByteArray) ++ (⟨(dig m).toArray⟩ : ByteArray)) (b := ⟨(numT (-(m : Int))).toArray⟩) ?_, rfl⟩
    rw [str_app, HE.out]; rfl
  · obtain ⟨m, rfl⟩ : ∃ m : Nat, n = (m : Int) := ⟨n.natAbs, by omega⟩
    have h1 := fun w => rdigits_any m w (by omega)
    have he := numT_nat m
    have HE := Lib.hid he
    clear he
    go_enter Tryz.func60, Tryz.ntmps60
    go_wp2_with fail
    refine (h1 _).mono ?_
    rintro e w' ⟨rfl, rfl⟩
    go_wp2_with fail
    go_ret
    exact ⟨ret_str (a := dig m) HE.out.symm, rfl⟩


/-- what both hand back -/
def intR : Option Int → Value
  | some n => .tuple #[.int .i64 n, .int .i64 0]
  | none => .tuple #[.int .i64 0, .int .i64 10]

theorem intT_long (s : ByteArray) (h : 20 < s.size) : intT s.data.toList = none :=
  intT_none fun n hn e => by
    have := numT_length hn
    rw [e] at this
    simp at this
    omega
theorem intT_of_parse {s : ByteArray} {v : Int} (hp : Lib.parseIntB 64 s.data.toList = .ok v) (hne : numT v ≠ s.data.toList) : intT s.data.toList = none :=
  intT_none fun n hn e => by
    rw [← e, parse_numT hn] at hp
    injection hp with hp
    exact hne (by rw [← hp, e])
theorem intT_of_fail {s : ByteArray} (hp : ∀ v, Lib.parseIntB 64 s.data.toList ≠ .ok v) : intT s.data.toList = none :=
  intT_none fun n hn e => hp n (by rw [← e, parse_numT hn])

set_option maxHeartbeats 1000000 in
set_option maxRecDepth 100000 in
theorem int_any (s : ByteArray) (w : World) (hs : s.size ≤ 140737488355328) (hg : Good w) :
    Calls Tryz.prog 108 #[.string s] w fun e w' => e = .returned (intR (intT s.data.toList)) ∧ Below w.heap.size w w' := by
  by_cases h20 : 20 < s.size
  · rw [intT_long s h20]
    have hi : (20 : Int) < (s.size : Int) := by omega
    go_enter Tryz.func108, Tryz.ntmps108
    go_wp2_with fail
    go_ret2
    exact ⟨rfl, Below.refl _ w⟩
  · have hi : ¬ (20 : Int) < (s.size : Int) := by omega
    have hi' : (s.size : Int) ≤ 20 := by omega
    cases hp : Lib.parseIntB 64 s.data.toList with
    | ok v =>
      have hb := Lib.parseIntB_bounds hp
      have hin : inR v := by unfold inR; omega
      have hc : Calls Tryz.prog 160 #[.string s, .int .i64 10, .int .i64 64] w fun e w' => e = .returned (.tuple #[.int .i64 v, .nilIface]) ∧ Below w.heap.size w w' :=
        (Tryz.strconv_ParseInt_10_at64_ok s (by omega) v hp w).mono fun e w' ⟨h1, h2⟩ => ⟨h1, by
          rcases h2 with rfl | ⟨t, rfl⟩
          · exact Below.refl _ _
          · exact Lib.bytesWorld_below w 5 t⟩
      have hnum := fun w => num_any v w hin
      by_cases he : numT v = s.data.toList
      · rw [intT_some hin he]
        have hq := beq_yes he
        clear he hb hp hin
        go_enter Tryz.func108, Tryz.ntmps108
        go_wp2_with fail
        refine hc.mono ?_
        rintro e w1 ⟨rfl, hb1⟩
        go_wp2_with fail
        refine (hnum _).mono ?_
        rintro e w2 ⟨rfl, hb2⟩
        go_wp2_with fail
        go_ret2
        exact ⟨rfl, hb1.trans (hb2.mono hb1.size)⟩
      · rw [intT_of_parse hp he]
        have hq := beq_no he
        clear he hb hp hin
        go_enter Tryz.func108, Tryz.ntmps108
        go_wp2_with fail
        refine hc.mono ?_
        rintro e w1 ⟨rfl, hb1⟩
        go_wp2_with fail
        refine (hnum _).mono ?_
        rintro e w2 ⟨rfl, hb2⟩
        go_wp2_with fail
        go_ret2
        exact ⟨rfl, hb1.trans (hb2.mono hb1.size)⟩
    | range =>
      rw [intT_of_fail (by rw [hp]; intro v h; cases h)]
      obtain ⟨_, _, ⟨ev, hv, hev⟩, _⟩ := hg
      have hc := Tryz.strconv_ParseInt_10_at64_range s (by omega) hp ev w hv hev
      clear hp hv hev
      go_enter Tryz.func108, Tryz.ntmps108
      go_wp2_with fail
      refine hc.mono ?_
      rintro e w' ⟨N, rfl, hN, hw', hbel⟩
      clear hw'
      go_wp2_with fail
      go_ret2
      exact ⟨rfl, hbel⟩
    | _ =>
      rw [intT_of_fail (by rw [hp]; intro v h; cases h)]
      obtain ⟨_, ⟨ev, hv, hev⟩, _, _⟩ := hg
      have hc := Tryz.strconv_ParseInt_10_at64_fails s (by omega) (by rw [hp]; intro v h; cases h) (by rw [hp]; intro h; cases h) ev w hv hev
      clear hp hv hev
      go_enter Tryz.func108, Tryz.ntmps108
      go_wp2_with fail
      refine hc.mono ?_
      rintro e w' ⟨N, rfl, hN, hw', hbel⟩
      clear hw'
      go_wp2_with fail
      go_ret2
      exact ⟨rfl, hbel⟩

end Go.Proofs.YticikmkehobblaaGreatDoor

namespace Go.Proofs.YticikmkehobblaaGreatDoor
open Go.RowKit M

theorem not45 (n : Nat) (r : Text) : dig n ≠ 45 :: r := by
  intro h
  have := dig_isDig n 45 (by rw [h]; simp)
  unfold isDig at this
  exact absurd this.1 (by decide)

/-- d is what stands behind the sign, if any: of every number's numeral. -/
def Behind (s d : Text) (below : Bool) : Prop := ∀ n, numT n = s → dig n.natAbs = d ∧ (below = true ↔ n < 0)
theorem behind_neg (d : Text) : Behind (45 :: d) d true := by
  intro n h
  unfold numT at h
  by_cases h0 : n < 0
  · rw [if_pos h0] at h
    exact ⟨by simpa using h, by simp [h0]⟩
  · rw [if_neg h0] at h
    exact absurd h (not45 _ _)
theorem behind_pos (s : Text) (hs : s.head? ≠ some 45) : Behind s s false := by
  intro n h
  unfold numT at h
  by_cases h0 : n < 0
  · rw [if_pos h0] at h
    exact absurd (by rw [← h]; rfl) hs
  · rw [if_neg h0] at h
    exact ⟨h, by simp [h0]⟩

theorem bail_dig {s d : Text} {below : Bool} (hb : Behind s d below) {k : Nat} (hk : k < d.length) (h : ¬ isDig d[k]) : intT s = none :=
  intT_none fun n _ e => by
    obtain ⟨h1, _⟩ := hb n e
    subst h1
    exact h (dig_isDig _ _ (List.getElem_mem hk))
theorem bail_big {s d : Text} {below : Bool} (hb : Behind s d below) {k : Nat} (hk : k < d.length) (h : 1152921504606846976 < valN (d.take k)) : intT s = none :=
  intT_none fun n hn e => by
    obtain ⟨h1, _⟩ := hb n e
    subst h1
    have := dig_take n.natAbs k hk
    unfold inR at hn
    omega
theorem end_pos {s d : Text} (hb : Behind s d false) {x : Int} (hx : inR x) (h2 : valN d ≤ 9223372036854775807 → x = (valN d : Int)) : intT s = if numT x = s then some x else none := by
  by_cases h : numT x = s
  · rw [if_pos h, intT_some hx h]
  · rw [if_neg h]
    exact intT_none fun n hn e => by
      obtain ⟨h1, h3⟩ := hb n e
      have hv : valN d = n.natAbs := by rw [← h1, valN_dig]
      have h0 : ¬ n < 0 := fun h => by have := h3.2 h; cases this
      unfold inR at hn
      exact h (by rw [h2 (by omega), hv, ← e]; congr 1; omega)
theorem end_neg {s d : Text} (hb : Behind s d true) {x : Int} (hx : inR x) (h2 : valN d ≤ 9223372036854775808 → x = -(valN d : Int)) : intT s = if numT x = s then some x else none := by
  by_cases h : numT x = s
  · rw [if_pos h, intT_some hx h]
  · rw [if_neg h]
    exact intT_none fun n hn e => by
      obtain ⟨h1, h3⟩ := hb n e
      have hv : valN d = n.natAbs := by rw [← h1, valN_dig]
      have h0 : n < 0 := h3.1 rfl
      unfold inR at hn
      exact h (by rw [h2 (by omega), hv, ← e]; congr 1; omega)

theorem notU64 (a : Int) (h1 : 0 ≤ a) (h2 : a ≤ 18446744073709551615) : bits .xor .u64 18446744073709551615 a = 18446744073709551615 - a := by
  obtain ⟨n, rfl⟩ : ∃ n : Nat, a = (n : Int) := ⟨a.toNat, by omega⟩
  show IntKind.u64.wrap ((BitVec.ofInt 64 18446744073709551615 ^^^ BitVec.ofInt 64 (n : Int)).toNat : Int) = _
  rw [show BitVec.ofInt 64 18446744073709551615 = BitVec.allOnes 64 by decide, BitVec.allOnes_xor, BitVec.toNat_not, BitVec.toNat_ofInt, IntKind.wrap_u64]
  omega

set_option maxHeartbeats 2000000 in
set_option maxRecDepth 100000 in
theorem rint_neg (s d : ByteArray) (w : World) (hs : 1 ≤ s.size) (hs2 : s.size ≤ 20) (h0 : (s[0]'(by omega)).toNat = 45) (hd : s.extract 1 s.size = d) :
    Calls Tryz.prog 53 #[.string s] w fun e w' => e = .returned (intR (intT s.data.toList)) ∧ w = w' := by
  have hi' : (s.size : Int) ≤ 20 := by omega
  have hi1 : (1 : Int) ≤ s.size := by omega
  have h0' : (((s[0]'(by omega)).toNat : Int) == 45) = true := by rw [h0]; rfl
  have hds : d.size ≤ 20 := by rw [← hd, ByteArray.size_extract]; omega
  have HB : Hid (Behind s.data.toList d.data.toList true) := by
    show Behind _ _ _
    have h : s.data.toList = 45 :: d.data.toList := by
      rw [← hd, drop_data]
      have h1 : 0 < s.data.toList.length := by rw [show s.data.toList.length = s.size by simp]; omega
      have h2 := List.drop_eq_getElem_cons h1
      rw [List.drop_zero] at h2
      have h3 : s.data.toList[0] = (45 : UInt8) := UInt8.toNat_inj.1 h0
      rw [h3] at h2
      exact h2
    rw [h]; exact behind_neg _
  clear h0
  go_enter Tryz.func53, Tryz.ntmps53
  go_wp2_with fail
  go_loop [6, 7] (fun vn vi => ∃ (k : Nat) (a : Int), k ≤ d.size ∧ vi = .int .i64 (k : Int) ∧ vn = .int .u64 a ∧ 0 ≤ a ∧ a ≤ 11529215046068469769 ∧ Hid (a = (valN (d.data.toList.take k) : Int))) (fun _ vi => d.size - (intOf vi).toNat)
  case atStart => exact ⟨0, 0, Nat.zero_le _, rfl, rfl, by omega, by omega, rfl⟩
  case round =>
    obtain ⟨k, a, hk, rfl, rfl, ha0, ha1, ha⟩ := hrel
    by_cases hlt : k < d.size
    · obtain ⟨c, hc⟩ : ∃ c : Int, ((d[k]'hlt).toNat : Int) = c := ⟨_, rfl⟩
      have hc0 : 0 ≤ c := by omega
      have hc1 : c ≤ 255 := by have := UInt8.toNat_lt (d[k]'hlt); omega
      have hkl : k < d.data.toList.length := by simpa using hlt
      have hget : d.data.toList[k] = d[k]'hlt := rfl
      by_cases h48 : c < 48
      · have hbail := bail_dig (HB.out) hkl (by rw [hget]; unfold isDig; omega)
        have HBA := Lib.hid hbail
        clear hbail hget
        go_wp2_with fail
        go_ret2
        exact ⟨by rw [HBA.out]; rfl, rfl⟩
      · by_cases h57 : 57 < c
        · have hbail := bail_dig (HB.out) hkl (by rw [hget]; unfold isDig; omega)
          have HBA := Lib.hid hbail
          clear hbail hget
          go_wp2_with fail
          go_ret2
          exact ⟨by rw [HBA.out]; rfl, rfl⟩
        · by_cases hbig : 1152921504606846976 < a
          · have hbail := bail_big (HB.out) hkl (by have := ha.out; omega)
            have HBA := Lib.hid hbail
            clear hbail hget
            go_wp2_with fail
            go_ret2
            exact ⟨by rw [HBA.out]; rfl, rfl⟩
          · have hnew : Hid (10 * a + (c - 48) = (valN (d.data.toList.take (k + 1)) : Int)) := by
              show 10 * a + (c - 48) = _
              rw [take_snoc d k hlt, valN_snoc, ha.out]
              omega
            clear ha hget
            go_wp2_with fail
            go_round
            case rel => exact ⟨k + 1, _, by omega, by go_num, rfl, by omega, by omega, hnew⟩
            case measure => simp [intOf]; omega
    · obtain rfl : k = d.size := by omega
      have ha2 := ha.out
      rw [take_all] at ha2
      obtain ⟨x, hx⟩ : ∃ x : Int, wrap64 (IntKind.u64.wrap (bits .xor .u64 IntKind.u64.max a + 1)) = x := ⟨_, rfl⟩
      have hxe : (18446744073709551615 - a + 1) % 18446744073709551616 < 9223372036854775808 ∧ x = (18446744073709551615 - a + 1) % 18446744073709551616 ∨ 9223372036854775808 ≤ (18446744073709551615 - a + 1) % 18446744073709551616 ∧ x = (18446744073709551615 - a + 1) % 18446744073709551616 - 18446744073709551616 := by
        rw [← hx, show IntKind.u64.max = 18446744073709551615 by rfl, notU64 a ha0 (by omega), IntKind.wrap_u64]; unfold wrap64; omega
      have hxr : inR x := by unfold inR; clear hx; omega
      have hxv : valN d.data.toList ≤ 9223372036854775808 → x = -(valN d.data.toList : Int) := by
        intro h; clear hx; omega
      have hE := end_neg HB.out hxr hxv
      have hnum := fun w => rnum_any x w hxr
      clear HB ha ha2 hxv hxr hxe
      by_cases he : numT x = s.data.toList
      · rw [if_pos he] at hE
        have hq := beq_yes he
        have HE := Lib.hid hE
        clear he hE
        go_wp2_with fail
        refine (hnum _).mono ?_
        rintro e w' ⟨rfl, rfl⟩
        go_wp2_with fail
        go_ret2
        exact ⟨by rw [HE.out]; rfl, rfl⟩
      · rw [if_neg he] at hE
        have hq := beq_no he
        have HE := Lib.hid hE
        clear he hE
        go_wp2_with fail
        refine (hnum _).mono ?_
        rintro e w' ⟨rfl, rfl⟩
        go_wp2_with fail
        go_ret2
        exact ⟨by rw [HE.out]; rfl, rfl⟩

set_option maxHeartbeats 2000000 in
set_option maxRecDepth 100000 in
theorem rint_pos (s : ByteArray) (w : World) (hs : 1 ≤ s.size) (hs2 : s.size ≤ 20) (h0 : (s[0]'(by omega)).toNat ≠ 45) :
    Calls Tryz.prog 53 #[.string s] w fun e w' => e = .returned (intR (intT s.data.toList)) ∧ w = w' := by
  have hi' : (s.size : Int) ≤ 20 := by omega
  have hi1 : (1 : Int) ≤ s.size := by omega
  have h0' : (((s[0]'(by omega)).toNat : Int) == 45) = false := by
    have : ((s[0]'(by omega)).toNat : Int) ≠ 45 := by omega
    simpa using this
  have hds : s.size ≤ 20 := hs2
  have HB : Hid (Behind s.data.toList s.data.toList false) := by
    show Behind _ _ _
    refine behind_pos _ fun h => h0 ?_
    have h1 : 0 < s.data.toList.length := by rw [show s.data.toList.length = s.size by simp]; omega
    rw [List.head?_eq_getElem?, List.getElem?_eq_getElem h1] at h
    have h3 : s.data.toList[0] = (45 : UInt8) := Option.some.inj h
    exact congrArg UInt8.toNat h3
  clear h0
  go_enter Tryz.func53, Tryz.ntmps53
  go_wp2_with fail
  go_loop [6, 7] (fun vn vi => ∃ (k : Nat) (a : Int), k ≤ s.size ∧ vi = .int .i64 (k : Int) ∧ vn = .int .u64 a ∧ 0 ≤ a ∧ a ≤ 11529215046068469769 ∧ Hid (a = (valN (s.data.toList.take k) : Int))) (fun _ vi => s.size - (intOf vi).toNat)
  case atStart => exact ⟨0, 0, Nat.zero_le _, rfl, rfl, by omega, by omega, rfl⟩
  case round =>
    obtain ⟨k, a, hk, rfl, rfl, ha0, ha1, ha⟩ := hrel
    by_cases hlt : k < s.size
    · obtain ⟨c, hc⟩ : ∃ c : Int, ((s[k]'hlt).toNat : Int) = c := ⟨_, rfl⟩
      have hc0 : 0 ≤ c := by omega
      have hc1 : c ≤ 255 := by have := UInt8.toNat_lt (s[k]'hlt); omega
      have hkl : k < s.data.toList.length := by simpa using hlt
      have hget : s.data.toList[k] = s[k]'hlt := rfl
      by_cases h48 : c < 48
      · have hbail := bail_dig (HB.out) hkl (by rw [hget]; unfold isDig; omega)
        have HBA := Lib.hid hbail
        clear hbail hget
        go_wp2_with fail
        go_ret2
        exact ⟨by rw [HBA.out]; rfl, rfl⟩
      · by_cases h57 : 57 < c
        · have hbail := bail_dig (HB.out) hkl (by rw [hget]; unfold isDig; omega)
          have HBA := Lib.hid hbail
          clear hbail hget
          go_wp2_with fail
          go_ret2
          exact ⟨by rw [HBA.out]; rfl, rfl⟩
        · by_cases hbig : 1152921504606846976 < a
          · have hbail := bail_big (HB.out) hkl (by have := ha.out; omega)
            have HBA := Lib.hid hbail
            clear hbail hget
            go_wp2_with fail
            go_ret2
            exact ⟨by rw [HBA.out]; rfl, rfl⟩
          · have hnew : Hid (10 * a + (c - 48) = (valN (s.data.toList.take (k + 1)) : Int)) := by
              show 10 * a + (c - 48) = _
              rw [take_snoc s k hlt, valN_snoc, ha.out]
              omega
            clear ha hget
            go_wp2_with fail
            go_round
            case rel => exact ⟨k + 1, _, by omega, by go_num, rfl, by omega, by omega, hnew⟩
            case measure => simp [intOf]; omega
    · obtain rfl : k = s.size := by omega
      have ha2 := ha.out
      rw [take_all] at ha2
      obtain ⟨x, hx⟩ : ∃ x : Int, IntKind.i64.wrap a = x := ⟨_, rfl⟩
      have hxr : inR x := by rw [← hx, IntKind.wrap_i64]; unfold inR; omega
      have hxv : valN s.data.toList ≤ 9223372036854775807 → x = (valN s.data.toList : Int) := by
        intro h; rw [← hx, IntKind.wrap_i64]; omega
      have hE := end_pos HB.out hxr hxv
      have hnum := fun w => rnum_any x w hxr
      clear HB ha ha2 hxv hxr
      by_cases he : numT x = s.data.toList
      · rw [if_pos he] at hE
        have hq := beq_yes he
        have HE := Lib.hid hE
        clear he hE
        go_wp2_with fail
        refine (hnum _).mono ?_
        rintro e w' ⟨rfl, rfl⟩
        go_wp2_with fail
        go_ret2
        exact ⟨by rw [HE.out]; rfl, rfl⟩
      · rw [if_neg he] at hE
        have hq := beq_no he
        have HE := Lib.hid hE
        clear he hE
        go_wp2_with fail
        refine (hnum _).mono ?_
        rintro e w' ⟨rfl, rfl⟩
        go_wp2_with fail
        go_ret2
        exact ⟨by rw [HE.out]; rfl, rfl⟩

set_option maxHeartbeats 2000000 in
set_option maxRecDepth 100000 in
theorem rint_empty (s : ByteArray) (w : World) (hs : s.size = 0) :
    Calls Tryz.prog 53 #[.string s] w fun e w' => e = .returned (intR (intT s.data.toList)) ∧ w = w' := by
  have HB : Hid (Behind s.data.toList s.data.toList false) := by
    show Behind _ _ _
    refine behind_pos _ fun h => ?_
    rw [(toList_nil s).1 hs] at h; cases h
  go_enter Tryz.func53, Tryz.ntmps53
  go_wp2_with fail
  go_loop [6, 7] (fun vn vi => ∃ (k : Nat) (a : Int), k ≤ s.size ∧ vi = .int .i64 (k : Int) ∧ vn = .int .u64 a ∧ 0 ≤ a ∧ a ≤ 11529215046068469769 ∧ Hid (a = (valN (s.data.toList.take k) : Int))) (fun _ vi => s.size - (intOf vi).toNat)
  case atStart => exact ⟨0, 0, Nat.zero_le _, rfl, rfl, by omega, by omega, rfl⟩
  case round =>
    obtain ⟨k, a, hk, rfl, rfl, ha0, ha1, ha⟩ := hrel
    by_cases hlt : k < s.size
    · omega
    · obtain rfl : k = s.size := by omega
      have ha2 := ha.out
      rw [take_all] at ha2
      obtain ⟨x, hx⟩ : ∃ x : Int, IntKind.i64.wrap a = x := ⟨_, rfl⟩
      have hxr : inR x := by rw [← hx, IntKind.wrap_i64]; unfold inR; omega
      have hxv : valN s.data.toList ≤ 9223372036854775807 → x = (valN s.data.toList : Int) := by
        intro h; rw [← hx, IntKind.wrap_i64]; omega
      have hE := end_pos HB.out hxr hxv
      have hnum := fun w => rnum_any x w hxr
      clear HB ha ha2 hxv hxr
      by_cases he : numT x = s.data.toList
      · rw [if_pos he] at hE
        have hq := beq_yes he
        have HE := Lib.hid hE
        clear he hE
        go_wp2_with fail
        refine (hnum _).mono ?_
        rintro e w' ⟨rfl, rfl⟩
        go_wp2_with fail
        go_ret2
        exact ⟨by rw [HE.out]; rfl, rfl⟩
      · rw [if_neg he] at hE
        have hq := beq_no he
        have HE := Lib.hid hE
        clear he hE
        go_wp2_with fail
        refine (hnum _).mono ?_
        rintro e w' ⟨rfl, rfl⟩
        go_wp2_with fail
        go_ret2
        exact ⟨by rw [HE.out]; rfl, rfl⟩

theorem rint_any (s : ByteArray) (w : World) (hs : s.size ≤ 140737488355328) :
    Calls Tryz.prog 53 #[.string s] w fun e w' => e = .returned (intR (intT s.data.toList)) ∧ w = w' := by
  by_cases h20 : 20 < s.size
  · rw [intT_long s h20]
    have hi : (20 : Int) < (s.size : Int) := by omega
    go_enter Tryz.func53, Tryz.ntmps53
    go_wp2_with fail
    go_ret2
    exact ⟨rfl, rfl⟩
  · by_cases h0 : s.size = 0
    · exact rint_empty s w h0
    · by_cases h45 : (s[0]'(by omega)).toNat = 45
      · exact rint_neg s _ w (by omega) (by omega) h45 rfl
      · exact rint_pos s w (by omega) (by omega) h45

end Go.Proofs.YticikmkehobblaaGreatDoor

namespace Go.Proofs.YticikmkehobblaaGreatDoor
open Go.RowKit M
attribute [local go_sem ↓] Go.wp_at_zero Go.wp_at_succ

theorem index_colon : ∀ (p q : Text), (58 : UInt8) ∉ p → Lib.index (p ++ 58 :: q) [58] = (p.length : Int)
  | [], q, _ => by simp [Lib.index, List.isPrefixOf]
  | c :: p, q, h => by
    have hc : c ≠ 58 := fun e => h (by simp [e])
    have ih := index_colon p q (fun m => h (by simp [m]))
    simp only [List.cons_append, Lib.index]
    rw [if_neg (by simp [List.isPrefixOf]; exact fun e => hc e.symm), ih, if_neg (by simp)]
    rfl
theorem index_no_colon : ∀ (l : Text), (58 : UInt8) ∉ l → Lib.index l [58] = -1
  | [], _ => rfl
  | c :: l, h => by
    have hc : c ≠ 58 := fun e => h (by simp [e])
    have ih := index_no_colon l (fun m => h (by simp [m]))
    simp only [Lib.index]
    rw [if_neg (by simp [List.isPrefixOf]; exact fun e => hc e.symm), ih]
    rfl
theorem cut_colon (p q : Text) (h : (58 : UInt8) ∉ p) : Lib.cut (p ++ 58 :: q) [58] = (p, q, true) := by
  unfold Lib.cut
  rw [index_colon p q h, if_pos (by omega)]
  simp
theorem cut_no_colon (l : Text) (h : (58 : UInt8) ∉ l) : Lib.cut l [58] = (l, [], false) := by
  unfold Lib.cut
  rw [index_no_colon l h, if_neg (by omega)]
theorem has_colon : ∀ (l : Text), (58 : UInt8) ∈ l → ∃ p q, l = p ++ 58 :: q ∧ (58 : UInt8) ∉ p
  | [], h => by cases h
  | c :: l, h => by
    by_cases hc : c = 58
    · exact ⟨[], l, by rw [hc]; rfl, by simp⟩
    · obtain ⟨p, q, e, hp⟩ := has_colon l (by simpa [Ne.symm hc] using h)
      exact ⟨c :: p, q, by rw [e]; rfl, by simp [hp, Ne.symm hc]⟩

theorem str_of {x : ByteArray} {l : Text} (h : x.data.toList = l) : str l = .string x := by
  rw [← h]

theorem below_of_drewN {B n : Nat} {w w1 : World} (h : Below B (w.drewN n) w1) : Below B w w1 := ⟨h.os, h.tape, h.output, h.size, h.block⟩

/-- what both hand back -/
def firstR (s : ByteArray) : Option (Text × Text) → Value
  | some (x, r) => .tuple #[str x, str r, .int .i64 0]
  | none => .tuple #[str [], .string s, .int .i64 10]

set_option maxHeartbeats 2000000 in
set_option maxRecDepth 100000 in
theorem first_any (s : ByteArray) (w : World) (hs : s.size ≤ 140737488355328) (hg : Good w) :
    Calls Tryz.prog 103 #[.string s] w fun e w' => e = .returned (firstR s (firstT s.data.toList)) ∧ Below w.heap.size w w' := by
  obtain ⟨m, hmin⟩ : ∃ m : Nat, min (s.size : Int) 1048576 = (m : Int) := ⟨(min (s.size : Int) 1048576).toNat, by omega⟩
  have hm1 : m ≤ s.size := by omega
  obtain ⟨t, ht⟩ : ∃ t, s.extract 0 m = t := ⟨_, rfl⟩
  have htd : t.data.toList = s.data.toList.take 1048576 := by
    rw [← ht, take_data]
    rcases Nat.le_total s.size 1048576 with h | h
    · rw [List.take_of_length_le (by simp; omega), List.take_of_length_le (by simp; omega)]
    · rw [show m = 1048576 by omega]
  have hts : t.size ≤ 1048576 := by rw [← ht, ByteArray.size_extract]; omega
  obtain ⟨mm, hmm⟩ := hg.most
  have hc0 := Tryz.strings_Cut t ⟨#[58]⟩ mm w (by omega) hmm
  rw [show (⟨#[58]⟩ : ByteArray).data.toList = [58] from rfl] at hc0
  clear hmm
  by_cases hcol : (58 : UInt8) ∈ t.data.toList
  · obtain ⟨p, q, hpq, hp⟩ := has_colon _ hcol
    rw [hpq, cut_colon p q hp] at hc0
    simp only [] at hc0
    rw [hpq] at htd
    obtain ⟨P, hP⟩ : ∃ P : ByteArray, ⟨p.toArray⟩ = P := ⟨_, rfl⟩
    obtain ⟨Q, hQ⟩ : ∃ Q : ByteArray, ⟨q.toArray⟩ = Q := ⟨_, rfl⟩
    obtain rfl : P.data.toList = p := by rw [← hP]
    obtain rfl : Q.data.toList = q := by rw [← hQ]
    have hsz : P.size + Q.size ≤ 1048576 := by
      have := congrArg List.length hpq
      simp at this
      omega
    have hint := fun n => int_any P (w.drewN n) (by omega) (hg.drewN n)
    rw [hP, hQ] at hc0
    clear hcol hpq hP hQ
    cases hi : intT P.data.toList with
    | none =>
      rw [hi] at hint
      rw [first_cut_none htd.symm hp hi]
      clear hi htd hp
      go_enter Tryz.func103, Tryz.ntmps103
      go_wp2_with fail
      refine hc0.mono ?_
      rintro e w1 ⟨rfl, n, rfl⟩
      go_wp2_with fail
      refine (hint n).mono ?_
      rintro e w2 ⟨rfl, hb2⟩
      unfold intR
      go_wp2_with fail
      go_ret3
      exact ⟨rfl, below_of_drewN hb2⟩
    | some v =>
      rw [hi] at hint
      unfold intR at hint
      simp only [] at hint
      have hvr := (intT_spec hi).1
      unfold inR at hvr
      obtain ⟨hv1, hv2⟩ := hvr
      by_cases hneg : v < 0
      · rw [first_cut_far htd.symm hp hi (.inl hneg)]
        clear hi htd hp
        go_enter Tryz.func103, Tryz.ntmps103
        go_wp2_with fail
        refine hc0.mono ?_
        rintro e w1 ⟨rfl, n, rfl⟩
        go_wp2_with fail
        refine (hint n).mono ?_
        rintro e w2 ⟨rfl, hb2⟩
        go_wp2_with fail
        go_ret3
        exact ⟨rfl, below_of_drewN hb2⟩
      · by_cases hfar : (Q.size : Int) ≤ v
        · rw [first_cut_far htd.symm hp hi (.inr (by simpa using hfar))]
          clear hi htd hp
          go_enter Tryz.func103, Tryz.ntmps103
          go_wp2_with fail
          refine hc0.mono ?_
          rintro e w1 ⟨rfl, n, rfl⟩
          go_wp2_with fail
          refine (hint n).mono ?_
          rintro e w2 ⟨rfl, hb2⟩
          go_wp2_with fail
          go_ret3
          exact ⟨rfl, below_of_drewN hb2⟩
        · obtain ⟨k, rfl⟩ : ∃ k : Nat, v = (k : Int) := ⟨v.toNat, by omega⟩
          have hkq : k < Q.size := by omega
          have hkl : k < Q.data.toList.length := by simpa using hkq
          by_cases h44 : (Q[k]'hkq).toNat = 44
          · have hget : Q.data.toList[k]? = some 44 := by
              rw [List.getElem?_eq_getElem hkl]
              exact congrArg some (UInt8.toNat_inj.1 h44)
            obtain ⟨hf, hle⟩ := first_cut_some htd.symm hi hkl hget
            have hb1 : (((Q[k]'hkq).toNat : Int) != 44) = false := by rw [h44]; rfl
            obtain ⟨E, hE⟩ : ∃ E : Nat, E = P.size + 1 + k + 1 := ⟨_, rfl⟩
            rw [show P.data.toList.length = P.size by simp, ← hE] at hf hle
            rw [show s.data.toList.length = s.size by simp] at hle
            have hfr : firstR s (firstT s.data.toList) = .tuple #[.string (Q.extract 0 k), .string (s.extract E s.size), .int .i64 0] := by
              rw [hf]
              show Value.tuple #[str (Q.data.toList.take k), str (s.data.toList.drop E), .int .i64 0] = _
              rw [str_of (take_data Q k), str_of (drop_data s E)]
            rw [hfr]
            have hEi : (P.size : Int) + 1 + (k : Int) + 1 = (E : Int) := by omega
            have hE0 : (0 : Int) ≤ (E : Int) := by omega
            have hE1 : (E : Int) ≤ (s.size : Int) := by omega
            have hk0 : (0 : Int) ≤ (k : Int) := by omega
            have hk1 : (k : Int) ≤ (Q.size : Int) := by omega
            clear hi htd hp hget hf h44 hE hfr
            go_enter Tryz.func103, Tryz.ntmps103
            go_wp2_with fail
            refine hc0.mono ?_
            rintro e w1 ⟨rfl, n, rfl⟩
            go_wp2_with fail
            refine (hint n).mono ?_
            rintro e w2 ⟨rfl, hb2⟩
            go_wp2_with fail
            go_quiet (fail)
            go_wp2_with fail
            go_ret3
            exact ⟨rfl, below_drewN (below_of_drewN hb2) _⟩
          · have hget : Q.data.toList[k]? ≠ some 44 := by
              rw [List.getElem?_eq_getElem hkl]
              intro e
              exact h44 (congrArg UInt8.toNat (Option.some.inj e))
            have hb1 : (((Q[k]'hkq).toNat : Int) != 44) = true := by
              have : ((Q[k]'hkq).toNat : Int) ≠ 44 := by omega
              simpa using this
            rw [first_cut_comma htd.symm hp hi hget]
            clear hi htd hp hget h44
            go_enter Tryz.func103, Tryz.ntmps103
            go_wp2_with fail
            refine hc0.mono ?_
            rintro e w1 ⟨rfl, n, rfl⟩
            go_wp2_with fail
            refine (hint n).mono ?_
            rintro e w2 ⟨rfl, hb2⟩
            go_wp2_with fail
            go_ret3
            exact ⟨rfl, below_of_drewN hb2⟩
  · rw [cut_no_colon _ hcol] at hc0
    simp only [] at hc0
    rw [htd] at hcol
    rw [first_no_colon hcol]
    rw [show (⟨t.data.toList.toArray⟩ : ByteArray) = t from str_self t] at hc0
    clear hcol htd
    go_enter Tryz.func103, Tryz.ntmps103
    go_wp2_with fail
    refine hc0.mono ?_
    rintro e w1 ⟨rfl, n, rfl⟩
    go_wp2_with fail
    go_ret3
    exact ⟨rfl, below_drewN (Below.refl _ w) n⟩

end Go.Proofs.YticikmkehobblaaGreatDoor

namespace Go.Proofs.YticikmkehobblaaGreatDoor
open Go.RowKit M
attribute [local go_sem ↓] Go.wp_at_zero Go.wp_at_succ

set_option maxHeartbeats 20000000 in
set_option maxRecDepth 100000 in
theorem rfirst_any (s : ByteArray) (w : World) (hs : s.size ≤ 140737488355328) :
    Calls Tryz.prog 109 #[.string s] w fun e w' => e = .returned (firstR s (firstT s.data.toList)) ∧ Below w.heap.size w w' := by
  go_enter Tryz.func109, Tryz.ntmps109
  go_wp2_with fail
  go_loop [5, 6] (fun vn vk => ∃ (k n : Nat), k ≤ 8 ∧ k ≤ s.size ∧ n < 100000000 ∧ vk = .int .i64 (k : Int) ∧ vn = .int .i64 (n : Int) ∧ Hid (Front s.data.toList k n)) (fun _ vk => 8 - (intOf vk).toNat)
  case atStart => exact ⟨0, 0, by omega, by omega, by omega, rfl, rfl, Front.start _⟩
  case round =>
    obtain ⟨k, n, hk8, hks, hn, rfl, rfl, hF⟩ := hrel
    by_cases hlt : k < s.size
    · have hkl : k < s.data.toList.length := by simpa using hlt
      have hget : s.data.toList[k] = s[k]'hlt := rfl
      obtain ⟨c, hc⟩ : ∃ c : Int, ((s[k]'hlt).toNat : Int) = c := ⟨_, rfl⟩
      have hc0 : 0 ≤ c := by omega
      have hc1 : c ≤ 255 := by have := UInt8.toNat_lt (s[k]'hlt); omega
      by_cases h8 : k < 8
      · by_cases hd : 48 ≤ c ∧ c ≤ 57
        · have hnew := hF.out.step h8 hkl (by rw [hget]; unfold isDig; omega)
          have hnl := hnew.lt
          rw [hget] at hnew hnl
          obtain ⟨n', hn'⟩ : ∃ n' : Nat, n' = 10 * n + ((s[k]'hlt).toNat - 48) := ⟨_, rfl⟩
          rw [← hn'] at hnew hnl
          have hni : 10 * (n : Int) + (c - 48) = (n' : Int) := by omega
          have HN := Lib.hid hnew
          obtain ⟨hd1, hd2⟩ := hd
          clear hnew hn' hF hget
          go_wp2_with fail
          go_round
          case rel => exact ⟨k + 1, n', by omega, by omega, by omega, by go_num, rfl, HN.out⟩
          case measure => simp [intOf]; omega
        · have hS : Stop s.data.toList k := .inr (.inr ⟨hkl, by rw [hget]; unfold isDig; omega⟩)
          by_cases h48 : c < 48
          · skip
            have h58 : c ≠ 58 := by omega
            have h58b : (c != 58) = true := by simpa using h58
            by_cases hk0 : k = 0
            · have hk0b : ((k : Int) == 0) = true := by rw [hk0]; rfl
              have HR := Lib.hid (front_none hF.out hS (by rintro ⟨_, _, h3, _⟩; rw [List.getElem?_eq_getElem hkl, hget] at h3; have h3 : (s[k]'hlt).toNat = 58 := congrArg UInt8.toNat (Option.some.inj h3); exact h58 (by rw [← hc, h3]; rfl)))
              clear hF hS hget hk0
              go_wp2_with fail
              go_ret3
              exact ⟨by rw [HR.out]; rfl, Below.refl _ w⟩
            · skip
              have hk0b : ((k : Int) == 0) = false := by
                have : (k : Int) ≠ 0 := by omega
                simpa using this
              have hkne : ((k : Int) == (s.size : Int)) = false := by
                have : (k : Int) ≠ (s.size : Int) := by omega
                simpa using this
              have HR := Lib.hid (front_none hF.out hS (by rintro ⟨_, _, h3, _⟩; rw [List.getElem?_eq_getElem hkl, hget] at h3; have h3 : (s[k]'hlt).toNat = 58 := congrArg UInt8.toNat (Option.some.inj h3); exact h58 (by rw [← hc, h3]; rfl)))
              clear hF hS hget
              go_wp2_with fail
              go_ret3
              exact ⟨by rw [HR.out]; rfl, Below.refl _ w⟩
          · have h57 : 57 < c := by omega
            by_cases h58 : c = 58
            · have h58b : (c != 58) = false := by rw [h58]; rfl
              have hg58 : s.data.toList[k]? = some 58 := by
                rw [List.getElem?_eq_getElem hkl, hget]
                exact congrArg some (UInt8.toNat_inj.1 (by show (s[k]'hlt).toNat = 58; omega))
              by_cases hk0 : k = 0
              · have hk0b : ((k : Int) == 0) = true := by rw [hk0]; rfl
                have HR := Lib.hid (front_none hF.out hS (by rintro ⟨h1, _⟩; omega))
                clear hF hS hget hg58 hk0 h58 hd
                go_wp2_with fail
                go_ret3
                exact ⟨by rw [HR.out]; rfl, Below.refl _ w⟩
              · have hk1 : 1 ≤ k := by omega
                have hk0b : ((k : Int) == 0) = false := by
                  have : (k : Int) ≠ 0 := by omega
                  simpa using this
                have hkne : ((k : Int) == (s.size : Int)) = false := by
                  have : (k : Int) ≠ (s.size : Int) := by omega
                  simpa using this
                obtain ⟨z, hz⟩ : ∃ z : Int, ((s[0]'(by omega)).toNat : Int) = z := ⟨_, rfl⟩
                have hl0 : 0 < s.data.toList.length := by omega
                have hz0 : s.data.toList[0]? = some 48 ↔ z = 48 := by
                  rw [List.getElem?_eq_getElem hl0, show s.data.toList[0] = s[0]'(by omega) from rfl]
                  constructor
                  · intro e
                    have e : (s[0]'(by omega)).toNat = 48 := congrArg UInt8.toNat (Option.some.inj e)
                    rw [← hz, e]; rfl
                  · intro e
                    exact congrArg some (UInt8.toNat_inj.1 (by show (s[0]'_).toNat = 48; omega))
                by_cases hlead : 1 < k ∧ z = 48
                · obtain ⟨hla, hlb⟩ := hlead
                  have hzb : (z == 48) = true := by rw [hlb]; rfl
                  have hkk : (1 : Int) < (k : Int) := by omega
                  have HR := Lib.hid (front_none hF.out hS (by rintro ⟨_, _, _, h4, _⟩; exact h4 ⟨hla, hz0.2 hlb⟩))
                  clear hF hS hget hg58 hz0 h58 hlb hd
                  go_wp2_with fail
                  go_ret3
                  exact ⟨by rw [HR.out]; rfl, Below.refl _ w⟩
                · have hnl : ¬ (1 < k ∧ s.data.toList[0]? = some 48) := by rw [hz0]; exact hlead
                  by_cases hk2 : 1 < k
                  · have hzne : z ≠ 48 := fun e => hlead ⟨hk2, e⟩
                    have hzb : (z == 48) = false := by simpa using hzne
                    have hkk : (1 : Int) < (k : Int) := by omega
                    by_cases hfar : (s.size : Int) - (k : Int) - 2 < (n : Int)
                    · have HR := Lib.hid (front_none hF.out hS (by rintro ⟨_, _, _, _, h5, _⟩; simp at h5; omega))
                      clear hF hS hget hg58 hz0 hnl hlead h58 hd
                      go_wp2_with fail
                      go_ret3
                      exact ⟨by rw [HR.out]; rfl, Below.refl _ w⟩

                    · by_cases hmax : 1048576 - (k : Int) - 2 < (n : Int)
                      · have HR := Lib.hid (front_none hF.out hS (by rintro ⟨_, _, _, _, _, h6, _⟩; omega))
                        clear hF hS hget hg58 hz0 hnl hlead h58 hd
                        go_wp2_with fail
                        go_ret3
                        exact ⟨by rw [HR.out]; rfl, Below.refl _ w⟩

                      · obtain ⟨J, hJ⟩ : ∃ J : Nat, J = k + 1 + n := ⟨_, rfl⟩
                        have hJi : (k : Int) + 1 + (n : Int) = (J : Int) := by omega
                        have hJ2 : J < s.size := by omega
                        have hJl : J < s.data.toList.length := by simpa using hJ2
                        obtain ⟨g, hg⟩ : ∃ g : Int, ((s[J]'hJ2).toNat : Int) = g := ⟨_, rfl⟩
                        by_cases h44 : g = 44
                        · have h44b : (g != 44) = false := by rw [h44]; rfl
                          have hg44 : s.data.toList[k + 1 + n]? = some 44 := by
                            rw [← hJ, List.getElem?_eq_getElem hJl, show s.data.toList[J] = s[J]'hJ2 from rfl]
                            exact congrArg some (UInt8.toNat_inj.1 (by show (s[J]'hJ2).toNat = 44; omega))
                          obtain ⟨E, hE⟩ : ∃ E : Nat, E = k + 2 + n := ⟨_, rfl⟩
                          have hfr : firstR s (firstT s.data.toList) = .tuple #[.string (s.extract (k + 1) J), .string (s.extract E s.size), .int .i64 0] := by
                            rw [front_some hF.out (by omega) hg58 hnl (by omega) hg44]
                            show Value.tuple #[str ((s.data.toList.drop (k + 1)).take n), str (s.data.toList.drop (k + 2 + n)), .int .i64 0] = _
                            rw [str_of (x := s.extract (k + 1) J) (by rw [Lib.extract_data, show J - (k + 1) = n by omega]), ← hE, str_of (drop_data s E)]
                          have HFR := Lib.hid hfr
                          have hEi : (k : Int) + 2 + (n : Int) = (E : Int) := by omega
                          have hE0 : (0 : Int) ≤ (E : Int) := by omega
                          have hE1 : (E : Int) ≤ (s.size : Int) := by omega
                          have hJ3 : (k : Int) + 1 ≤ (J : Int) := by omega
                          have hJ4 : (J : Int) ≤ (s.size : Int) := by omega
                          have hk3 : (0 : Int) ≤ (k : Int) + 1 := by omega
                          clear hF hS hget hg58 hfr hg44 hE hJ hz0 hnl hlead h44 h58 hd
                          go_wp2_with fail
                          go_quiet (fail)
                          go_wp2_with fail
                          go_ret3
                          exact ⟨by rw [HFR.out]; rfl, below_drewN (Below.refl _ w) _⟩
                        · have h44b : (g != 44) = true := by simpa using h44
                          have hg44 : s.data.toList[k + 1 + n]? ≠ some 44 := by
                            rw [← hJ, List.getElem?_eq_getElem hJl, show s.data.toList[J] = s[J]'hJ2 from rfl]
                            intro e
                            have e : (s[J]'hJ2).toNat = 44 := congrArg UInt8.toNat (Option.some.inj e)
                            exact h44 (by rw [← hg, e]; rfl)
                          have HR := Lib.hid (front_none hF.out hS (by rintro ⟨_, _, _, _, _, _, h7⟩; exact hg44 h7))
                          clear hF hS hget hg58 hg44 hz0 hnl hlead hJ h58 hd
                          go_wp2_with fail
                          go_ret3
                          exact ⟨by rw [HR.out]; rfl, Below.refl _ w⟩

                  · have hk1b : ¬ (1 : Int) < (k : Int) := by omega
                    by_cases hfar : (s.size : Int) - (k : Int) - 2 < (n : Int)
                    · have HR := Lib.hid (front_none hF.out hS (by rintro ⟨_, _, _, _, h5, _⟩; simp at h5; omega))
                      clear hF hS hget hg58 hz0 hnl hlead h58 hd
                      go_wp2_with fail
                      go_ret3
                      exact ⟨by rw [HR.out]; rfl, Below.refl _ w⟩

                    · by_cases hmax : 1048576 - (k : Int) - 2 < (n : Int)
                      · have HR := Lib.hid (front_none hF.out hS (by rintro ⟨_, _, _, _, _, h6, _⟩; omega))
                        clear hF hS hget hg58 hz0 hnl hlead h58 hd
                        go_wp2_with fail
                        go_ret3
                        exact ⟨by rw [HR.out]; rfl, Below.refl _ w⟩

                      · obtain ⟨J, hJ⟩ : ∃ J : Nat, J = k + 1 + n := ⟨_, rfl⟩
                        have hJi : (k : Int) + 1 + (n : Int) = (J : Int) := by omega
                        have hJ2 : J < s.size := by omega
                        have hJl : J < s.data.toList.length := by simpa using hJ2
                        obtain ⟨g, hg⟩ : ∃ g : Int, ((s[J]'hJ2).toNat : Int) = g := ⟨_, rfl⟩
                        by_cases h44 : g = 44
                        · have h44b : (g != 44) = false := by rw [h44]; rfl
                          have hg44 : s.data.toList[k + 1 + n]? = some 44 := by
                            rw [← hJ, List.getElem?_eq_getElem hJl, show s.data.toList[J] = s[J]'hJ2 from rfl]
                            exact congrArg some (UInt8.toNat_inj.1 (by show (s[J]'hJ2).toNat = 44; omega))
                          obtain ⟨E, hE⟩ : ∃ E : Nat, E = k + 2 + n := ⟨_, rfl⟩
                          have hfr : firstR s (firstT s.data.toList) = .tuple #[.string (s.extract (k + 1) J), .string (s.extract E s.size), .int .i64 0] := by
                            rw [front_some hF.out (by omega) hg58 hnl (by omega) hg44]
                            show Value.tuple #[str ((s.data.toList.drop (k + 1)).take n), str (s.data.toList.drop (k + 2 + n)), .int .i64 0] = _
                            rw [str_of (x := s.extract (k + 1) J) (by rw [Lib.extract_data, show J - (k + 1) = n by omega]), ← hE, str_of (drop_data s E)]
                          have HFR := Lib.hid hfr
                          have hEi : (k : Int) + 2 + (n : Int) = (E : Int) := by omega
                          have hE0 : (0 : Int) ≤ (E : Int) := by omega
                          have hE1 : (E : Int) ≤ (s.size : Int) := by omega
                          have hJ3 : (k : Int) + 1 ≤ (J : Int) := by omega
                          have hJ4 : (J : Int) ≤ (s.size : Int) := by omega
                          have hk3 : (0 : Int) ≤ (k : Int) + 1 := by omega
                          clear hF hS hget hg58 hfr hg44 hE hJ hz0 hnl hlead h44 h58 hd
                          go_wp2_with fail
                          go_quiet (fail)
                          go_wp2_with fail
                          go_ret3
                          exact ⟨by rw [HFR.out]; rfl, below_drewN (Below.refl _ w) _⟩
                        · have h44b : (g != 44) = true := by simpa using h44
                          have hg44 : s.data.toList[k + 1 + n]? ≠ some 44 := by
                            rw [← hJ, List.getElem?_eq_getElem hJl, show s.data.toList[J] = s[J]'hJ2 from rfl]
                            intro e
                            have e : (s[J]'hJ2).toNat = 44 := congrArg UInt8.toNat (Option.some.inj e)
                            exact h44 (by rw [← hg, e]; rfl)
                          have HR := Lib.hid (front_none hF.out hS (by rintro ⟨_, _, _, _, _, _, h7⟩; exact hg44 h7))
                          clear hF hS hget hg58 hg44 hz0 hnl hlead hJ h58 hd
                          go_wp2_with fail
                          go_ret3
                          exact ⟨by rw [HR.out]; rfl, Below.refl _ w⟩

            · have h58b : (c != 58) = true := by simpa using h58
              by_cases hk0 : k = 0
              · have hk0b : ((k : Int) == 0) = true := by rw [hk0]; rfl
                have HR := Lib.hid (front_none hF.out hS (by rintro ⟨_, _, h3, _⟩; rw [List.getElem?_eq_getElem hkl, hget] at h3; have h3 : (s[k]'hlt).toNat = 58 := congrArg UInt8.toNat (Option.some.inj h3); exact h58 (by rw [← hc, h3]; rfl)))
                clear hF hS hget hk0 hd
                go_wp2_with fail
                go_ret3
                exact ⟨by rw [HR.out]; rfl, Below.refl _ w⟩
              · skip
                have hk0b : ((k : Int) == 0) = false := by
                  have : (k : Int) ≠ 0 := by omega
                  simpa using this
                have hkne : ((k : Int) == (s.size : Int)) = false := by
                  have : (k : Int) ≠ (s.size : Int) := by omega
                  simpa using this
                have HR := Lib.hid (front_none hF.out hS (by rintro ⟨_, _, h3, _⟩; rw [List.getElem?_eq_getElem hkl, hget] at h3; have h3 : (s[k]'hlt).toNat = 58 := congrArg UInt8.toNat (Option.some.inj h3); exact h58 (by rw [← hc, h3]; rfl)))
                clear hF hS hget hd
                go_wp2_with fail
                go_ret3
                exact ⟨by rw [HR.out]; rfl, Below.refl _ w⟩
      · have hS : Stop s.data.toList k := .inr (.inl (by omega))
        have h88 : k = 8 := by omega
        have hk8b : ¬ (k : Int) < 8 := by omega
        by_cases h58 : c = 58
        · have h58b : (c != 58) = false := by rw [h58]; rfl
          have hg58 : s.data.toList[k]? = some 58 := by
            rw [List.getElem?_eq_getElem hkl, hget]
            exact congrArg some (UInt8.toNat_inj.1 (by show (s[k]'hlt).toNat = 58; omega))
          by_cases hk0 : k = 0
          · have hk0b : ((k : Int) == 0) = true := by rw [hk0]; rfl
            have HR := Lib.hid (front_none hF.out hS (by rintro ⟨h1, _⟩; omega))
            clear hF hS hget hg58 hk0 h58 h88
            go_wp2_with fail
            go_ret3
            exact ⟨by rw [HR.out]; rfl, Below.refl _ w⟩
          · have hk1 : 1 ≤ k := by omega
            have hk0b : ((k : Int) == 0) = false := by
              have : (k : Int) ≠ 0 := by omega
              simpa using this
            have hkne : ((k : Int) == (s.size : Int)) = false := by
              have : (k : Int) ≠ (s.size : Int) := by omega
              simpa using this
            obtain ⟨z, hz⟩ : ∃ z : Int, ((s[0]'(by omega)).toNat : Int) = z := ⟨_, rfl⟩
            have hl0 : 0 < s.data.toList.length := by omega
            have hz0 : s.data.toList[0]? = some 48 ↔ z = 48 := by
              rw [List.getElem?_eq_getElem hl0, show s.data.toList[0] = s[0]'(by omega) from rfl]
              constructor
              · intro e
                have e : (s[0]'(by omega)).toNat = 48 := congrArg UInt8.toNat (Option.some.inj e)
                rw [← hz, e]; rfl
              · intro e
                exact congrArg some (UInt8.toNat_inj.1 (by show (s[0]'_).toNat = 48; omega))
            by_cases hlead : 1 < k ∧ z = 48
            · obtain ⟨hla, hlb⟩ := hlead
              have hzb : (z == 48) = true := by rw [hlb]; rfl
              have hkk : (1 : Int) < (k : Int) := by omega
              have HR := Lib.hid (front_none hF.out hS (by rintro ⟨_, _, _, h4, _⟩; exact h4 ⟨hla, hz0.2 hlb⟩))
              clear hF hS hget hg58 hz0 h58 hlb h88
              go_wp2_with fail
              go_ret3
              exact ⟨by rw [HR.out]; rfl, Below.refl _ w⟩
            · have hnl : ¬ (1 < k ∧ s.data.toList[0]? = some 48) := by rw [hz0]; exact hlead
              by_cases hk2 : 1 < k
              · have hzne : z ≠ 48 := fun e => hlead ⟨hk2, e⟩
                have hzb : (z == 48) = false := by simpa using hzne
                have hkk : (1 : Int) < (k : Int) := by omega
                by_cases hfar : (s.size : Int) - (k : Int) - 2 < (n : Int)
                · have HR := Lib.hid (front_none hF.out hS (by rintro ⟨_, _, _, _, h5, _⟩; simp at h5; omega))
                  clear hF hS hget hg58 hz0 hnl hlead h58 h88
                  go_wp2_with fail
                  go_ret3
                  exact ⟨by rw [HR.out]; rfl, Below.refl _ w⟩

                · by_cases hmax : 1048576 - (k : Int) - 2 < (n : Int)
                  · have HR := Lib.hid (front_none hF.out hS (by rintro ⟨_, _, _, _, _, h6, _⟩; omega))
                    clear hF hS hget hg58 hz0 hnl hlead h58 h88
                    go_wp2_with fail
                    go_ret3
                    exact ⟨by rw [HR.out]; rfl, Below.refl _ w⟩

                  · obtain ⟨J, hJ⟩ : ∃ J : Nat, J = k + 1 + n := ⟨_, rfl⟩
                    have hJi : (k : Int) + 1 + (n : Int) = (J : Int) := by omega
                    have hJ2 : J < s.size := by omega
                    have hJl : J < s.data.toList.length := by simpa using hJ2
                    obtain ⟨g, hg⟩ : ∃ g : Int, ((s[J]'hJ2).toNat : Int) = g := ⟨_, rfl⟩
                    by_cases h44 : g = 44
                    · have h44b : (g != 44) = false := by rw [h44]; rfl
                      have hg44 : s.data.toList[k + 1 + n]? = some 44 := by
                        rw [← hJ, List.getElem?_eq_getElem hJl, show s.data.toList[J] = s[J]'hJ2 from rfl]
                        exact congrArg some (UInt8.toNat_inj.1 (by show (s[J]'hJ2).toNat = 44; omega))
                      obtain ⟨E, hE⟩ : ∃ E : Nat, E = k + 2 + n := ⟨_, rfl⟩
                      have hfr : firstR s (firstT s.data.toList) = .tuple #[.string (s.extract (k + 1) J), .string (s.extract E s.size), .int .i64 0] := by
                        rw [front_some hF.out (by omega) hg58 hnl (by omega) hg44]
                        show Value.tuple #[str ((s.data.toList.drop (k + 1)).take n), str (s.data.toList.drop (k + 2 + n)), .int .i64 0] = _
                        rw [str_of (x := s.extract (k + 1) J) (by rw [Lib.extract_data, show J - (k + 1) = n by omega]), ← hE, str_of (drop_data s E)]
                      have HFR := Lib.hid hfr
                      have hEi : (k : Int) + 2 + (n : Int) = (E : Int) := by omega
                      have hE0 : (0 : Int) ≤ (E : Int) := by omega
                      have hE1 : (E : Int) ≤ (s.size : Int) := by omega
                      have hJ3 : (k : Int) + 1 ≤ (J : Int) := by omega
                      have hJ4 : (J : Int) ≤ (s.size : Int) := by omega
                      have hk3 : (0 : Int) ≤ (k : Int) + 1 := by omega
                      clear hF hS hget hg58 hfr hg44 hE hJ hz0 hnl hlead h44 h58 h88
                      go_wp2_with fail
                      go_quiet (fail)
                      go_wp2_with fail
                      go_ret3
                      exact ⟨by rw [HFR.out]; rfl, below_drewN (Below.refl _ w) _⟩
                    · have h44b : (g != 44) = true := by simpa using h44
                      have hg44 : s.data.toList[k + 1 + n]? ≠ some 44 := by
                        rw [← hJ, List.getElem?_eq_getElem hJl, show s.data.toList[J] = s[J]'hJ2 from rfl]
                        intro e
                        have e : (s[J]'hJ2).toNat = 44 := congrArg UInt8.toNat (Option.some.inj e)
                        exact h44 (by rw [← hg, e]; rfl)
                      have HR := Lib.hid (front_none hF.out hS (by rintro ⟨_, _, _, _, _, _, h7⟩; exact hg44 h7))
                      clear hF hS hget hg58 hg44 hz0 hnl hlead hJ h58 h88
                      go_wp2_with fail
                      go_ret3
                      exact ⟨by rw [HR.out]; rfl, Below.refl _ w⟩

              · have hk1b : ¬ (1 : Int) < (k : Int) := by omega
                by_cases hfar : (s.size : Int) - (k : Int) - 2 < (n : Int)
                · have HR := Lib.hid (front_none hF.out hS (by rintro ⟨_, _, _, _, h5, _⟩; simp at h5; omega))
                  clear hF hS hget hg58 hz0 hnl hlead h58 h88
                  go_wp2_with fail
                  go_ret3
                  exact ⟨by rw [HR.out]; rfl, Below.refl _ w⟩

                · by_cases hmax : 1048576 - (k : Int) - 2 < (n : Int)
                  · have HR := Lib.hid (front_none hF.out hS (by rintro ⟨_, _, _, _, _, h6, _⟩; omega))
                    clear hF hS hget hg58 hz0 hnl hlead h58 h88
                    go_wp2_with fail
                    go_ret3
                    exact ⟨by rw [HR.out]; rfl, Below.refl _ w⟩

                  · obtain ⟨J, hJ⟩ : ∃ J : Nat, J = k + 1 + n := ⟨_, rfl⟩
                    have hJi : (k : Int) + 1 + (n : Int) = (J : Int) := by omega
                    have hJ2 : J < s.size := by omega
                    have hJl : J < s.data.toList.length := by simpa using hJ2
                    obtain ⟨g, hg⟩ : ∃ g : Int, ((s[J]'hJ2).toNat : Int) = g := ⟨_, rfl⟩
                    by_cases h44 : g = 44
                    · have h44b : (g != 44) = false := by rw [h44]; rfl
                      have hg44 : s.data.toList[k + 1 + n]? = some 44 := by
                        rw [← hJ, List.getElem?_eq_getElem hJl, show s.data.toList[J] = s[J]'hJ2 from rfl]
                        exact congrArg some (UInt8.toNat_inj.1 (by show (s[J]'hJ2).toNat = 44; omega))
                      obtain ⟨E, hE⟩ : ∃ E : Nat, E = k + 2 + n := ⟨_, rfl⟩
                      have hfr : firstR s (firstT s.data.toList) = .tuple #[.string (s.extract (k + 1) J), .string (s.extract E s.size), .int .i64 0] := by
                        rw [front_some hF.out (by omega) hg58 hnl (by omega) hg44]
                        show Value.tuple #[str ((s.data.toList.drop (k + 1)).take n), str (s.data.toList.drop (k + 2 + n)), .int .i64 0] = _
                        rw [str_of (x := s.extract (k + 1) J) (by rw [Lib.extract_data, show J - (k + 1) = n by omega]), ← hE, str_of (drop_data s E)]
                      have HFR := Lib.hid hfr
                      have hEi : (k : Int) + 2 + (n : Int) = (E : Int) := by omega
                      have hE0 : (0 : Int) ≤ (E : Int) := by omega
                      have hE1 : (E : Int) ≤ (s.size : Int) := by omega
                      have hJ3 : (k : Int) + 1 ≤ (J : Int) := by omega
                      have hJ4 : (J : Int) ≤ (s.size : Int) := by omega
                      have hk3 : (0 : Int) ≤ (k : Int) + 1 := by omega
                      clear hF hS hget hg58 hfr hg44 hE hJ hz0 hnl hlead h44 h58 h88
                      go_wp2_with fail
                      go_quiet (fail)
                      go_wp2_with fail
                      go_ret3
                      exact ⟨by rw [HFR.out]; rfl, below_drewN (Below.refl _ w) _⟩
                    · have h44b : (g != 44) = true := by simpa using h44
                      have hg44 : s.data.toList[k + 1 + n]? ≠ some 44 := by
                        rw [← hJ, List.getElem?_eq_getElem hJl, show s.data.toList[J] = s[J]'hJ2 from rfl]
                        intro e
                        have e : (s[J]'hJ2).toNat = 44 := congrArg UInt8.toNat (Option.some.inj e)
                        exact h44 (by rw [← hg, e]; rfl)
                      have HR := Lib.hid (front_none hF.out hS (by rintro ⟨_, _, _, _, _, _, h7⟩; exact hg44 h7))
                      clear hF hS hget hg58 hg44 hz0 hnl hlead hJ h58 h88
                      go_wp2_with fail
                      go_ret3
                      exact ⟨by rw [HR.out]; rfl, Below.refl _ w⟩

        · have h58b : (c != 58) = true := by simpa using h58
          by_cases hk0 : k = 0
          · have hk0b : ((k : Int) == 0) = true := by rw [hk0]; rfl
            have HR := Lib.hid (front_none hF.out hS (by rintro ⟨_, _, h3, _⟩; rw [List.getElem?_eq_getElem hkl, hget] at h3; have h3 : (s[k]'hlt).toNat = 58 := congrArg UInt8.toNat (Option.some.inj h3); exact h58 (by rw [← hc, h3]; rfl)))
            clear hF hS hget hk0 h88
            go_wp2_with fail
            go_ret3
            exact ⟨by rw [HR.out]; rfl, Below.refl _ w⟩
          · skip
            have hk0b : ((k : Int) == 0) = false := by
              have : (k : Int) ≠ 0 := by omega
              simpa using this
            have hkne : ((k : Int) == (s.size : Int)) = false := by
              have : (k : Int) ≠ (s.size : Int) := by omega
              simpa using this
            have HR := Lib.hid (front_none hF.out hS (by rintro ⟨_, _, h3, _⟩; rw [List.getElem?_eq_getElem hkl, hget] at h3; have h3 : (s[k]'hlt).toNat = 58 := congrArg UInt8.toNat (Option.some.inj h3); exact h58 (by rw [← hc, h3]; rfl)))
            clear hF hS hget h88
            go_wp2_with fail
            go_ret3
            exact ⟨by rw [HR.out]; rfl, Below.refl _ w⟩
    · obtain rfl : k = s.size := by omega
      have hS : Stop s.data.toList s.size := .inl (by simp)
      have HR := Lib.hid (front_none hF.out hS (by rintro ⟨_, h2, _⟩; simp at h2))
      clear hF hS
      by_cases hk0 : s.size = 0
      · go_wp2_with fail
        go_ret3
        exact ⟨by rw [HR.out]; rfl, Below.refl _ w⟩
      · have hk0b : ((s.size : Int) == 0) = false := by
          have : (s.size : Int) ≠ 0 := by omega
          simpa using this
        go_wp2_with fail
        go_ret3
        exact ⟨by rw [HR.out]; rfl, Below.refl _ w⟩

end Go.Proofs.YticikmkehobblaaGreatDoor

/-
  The document's Num and Int, and knot.Int, at every number and every text. Condition: lengths below 2^47; the library's variables hold what their types allow.
-/
import Derived.Test.YtimodohcihnoiaaDoorOpen
import Derived.Lib.ParseIntBTie
namespace Go.Proofs.YtimodohcihnoiaaDoor
open Go.RowKit M
attribute [local go_sem ↓] Go.wp_at_zero Go.wp_at_succ

theorem slice_dec (d : Nat) (h : d < 10) (w : World) : (Instr.slice 9 (.string ⟨#[48, 49, 50, 51, 52, 53, 54, 55, 56, 57]⟩) (some (.int .u64 (d : Int))) (some (.int .u64 ((d : Int) + 1))) none).run Tryd.prog w = .ok (str (dig d)) w := by
  rw [dig_lt h]
  have h16 : d = 0 ∨ d = 1 ∨ d = 2 ∨ d = 3 ∨ d = 4 ∨ d = 5 ∨ d = 6 ∨ d = 7 ∨ d = 8 ∨ d = 9 := by omega
  rcases h16 with rfl | rfl | rfl | rfl | rfl | rfl | rfl | rfl | rfl | rfl
  all_goals (show _ = _; kernel_rfl)

set_option maxHeartbeats 1000000 in
set_option maxRecDepth 100000 in
theorem rdigits_any (n : Nat) (w : World) (hn : n ≤ 18446744073709551615) :
    Calls Tryd.prog 57 #[.int .u64 (n : Int)] w fun e w' => e = .returned (str (dig n)) ∧ w = w' := by
  induction n using Nat.strongRecOn with
  | _ n ih =>
    by_cases h : n < 10
    · have hsl := slice_dec n h
      go_enter Tryd.func57, Tryd.ntmps57
      go_wp2
      go_ret
      exact ⟨rfl, rfl⟩
    · have h1 := ih (n / 10) (by omega) (by omega)
      have h2 := ih (n % 10) (by omega) (by omega)
      have hl1 := dig_length 19 (n / 10) (by omega)
      have hl2 := dig_length 19 (n % 10) (by omega)
      have he : dig n = dig (n / 10) ++ dig (n % 10) := by rw [dig_ge h, dig_lt (n := n % 10) (by omega)]
      obtain ⟨q, hq⟩ : ∃ q, q = n / 10 := ⟨_, rfl⟩
      obtain ⟨r, hr⟩ : ∃ r, r = n % 10 := ⟨_, rfl⟩
      rw [← hq] at h1 hl1 he
      rw [← hr] at h2 hl2 he
      have hq' : (n : Int) / 10 = (q : Int) := by omega
      have hr' : (n : Int) % 10 = (r : Int) := by omega
      have HE := Lib.hid he
      clear hq hr ih he
      go_enter Tryd.func57, Tryd.ntmps57
      go_wp2_with fail
      refine h1.mono ?_
      rintro e w' ⟨rfl, rfl⟩
      go_wp2_with fail
      refine h2.mono ?_
      rintro e w' ⟨rfl, rfl⟩
      go_wp2_with fail
      go_ret
      refine ⟨ret_string (a := (⟨(dig q).toArray⟩ : ByteArray) ++ (⟨(dig r).toArray⟩ : ByteArray)) (b := ⟨(dig n).toArray⟩) ?_, rfl⟩
      rw [str_app, HE.out]


theorem not64 (x : Int) (h1 : -9223372036854775808 ≤ x) (h2 : x ≤ 9223372036854775807) : bits .xor .i64 (-1) x = -x - 1 := by
  show IntKind.i64.wrap ((BitVec.ofInt 64 (-1) ^^^ BitVec.ofInt 64 x).toNat : Int) = _
  rw [show BitVec.ofInt 64 (-1) = BitVec.allOnes 64 by decide, BitVec.allOnes_xor, BitVec.toNat_not, BitVec.toNat_ofInt, IntKind.wrap_i64]
  omega

set_option maxHeartbeats 1000000 in
set_option maxRecDepth 100000 in
theorem rnum_any (n : Int) (w : World) (hn : inR n) :
    Calls Tryd.prog 44 #[.int .i64 n] w fun e w' => e = .returned (str (numT n)) ∧ w = w' := by
  unfold inR at hn
  by_cases h : n < 0
  · obtain ⟨m, rfl⟩ : ∃ m : Nat, n = -(m : Int) := ⟨n.natAbs, by omega⟩
    have h1 := fun w => rdigits_any m w (by omega)
    have hl := dig_length 19 m (by omega)
    have he : numT (-(m : Int)) = 45 :: dig m := by unfold numT; rw [if_pos h, Int.natAbs_neg, Int.natAbs_natCast]
    have HE := Lib.hid he
    clear he
    have hwr : IntKind.u64.wrap (IntKind.u64.wrap (bits .xor .i64 (-1) (-(m : Int))) + 1) = (m : Int) := by
      rw [not64 _ (by omega) (by omega), IntKind.wrap_u64, IntKind.wrap_u64]; omega
    go_enter Tryd.func44, Tryd.ntmps44
    go_wp2_with fail
    refine (h1 _).mono ?_
    rintro e w' ⟨rfl, rfl⟩
    go_wp2_with fail
    go_ret
    refine ⟨ret_string (a := (⟨#[45]⟩ : ByteArray) ++ (⟨(dig m).toArray⟩ : ByteArray)) (b := ⟨(numT (-(m : Int))).toArray⟩) ?_, rfl⟩
    rw [str_app, HE.out]; rfl
  · obtain ⟨m, rfl⟩ : ∃ m : Nat, n = (m : Int) := ⟨n.natAbs, by omega⟩
    have h1 := fun w => rdigits_any m w (by omega)
    have he := numT_nat m
    have HE := Lib.hid he
    clear he
    go_enter Tryd.func44, Tryd.ntmps44
    go_wp2_with fail
    refine (h1 _).mono ?_
    rintro e w' ⟨rfl, rfl⟩
    go_wp2_with fail
    go_ret
    exact ⟨ret_str (a := dig m) HE.out.symm, rfl⟩


/-- what both hand back -/
def intR : Option Int → Value
  | some n => .tuple #[.int .i64 n, .int .i64 0]
  | none => .tuple #[.int .i64 0, .int .i64 10]

theorem intT_long (s : ByteArray) (h : 20 < s.size) : intT s.data.toList = none :=
  intT_none fun n hn e => by
    have := numT_length hn
    rw [e] at this
    simp at this
    omega
theorem intT_of_parse {s : ByteArray} {v : Int} (hp : Lib.parseIntB 64 s.data.toList = .ok v) (hne : numT v ≠ s.data.toList) : intT s.data.toList = none :=
  intT_none fun n hn e => by
    rw [← e, parse_numT hn] at hp
    injection hp with hp
    exact hne (by rw [← hp, e])
theorem intT_of_fail {s : ByteArray} (hp : ∀ v, Lib.parseIntB 64 s.data.toList ≠ .ok v) : intT s.data.toList = none :=
  intT_none fun n hn e => hp n (by rw [← e, parse_numT hn])

set_option maxHeartbeats 1000000 in
set_option maxRecDepth 100000 in
theorem int_any (s : ByteArray) (w : World) (hs : s.size ≤ 140737488355328) (hg : Good w) :
    Calls Tryd.prog 51 #[.string s] w fun e w' => e = .returned (intR (intT s.data.toList)) ∧ Below w.heap.size w w' := by
  by_cases h20 : 20 < s.size
  · rw [intT_long s h20]
    have hi : (20 : Int) < (s.size : Int) := by omega
    go_enter Tryd.func51, Tryd.ntmps51
    go_wp2_with fail
    go_ret2
    exact ⟨rfl, Below.refl _ w⟩
  · have hi : ¬ (20 : Int) < (s.size : Int) := by omega
    have hi' : (s.size : Int) ≤ 20 := by omega
    cases hp : Lib.parseIntB 64 s.data.toList with
    | ok v =>
      have hb := Lib.parseIntB_bounds hp
      have hin : inR v := by unfold inR; omega
      have hc : Calls Tryd.prog 60 #[.string s, .int .i64 10, .int .i64 64] w fun e w' => e = .returned (.tuple #[.int .i64 v, .nilIface]) ∧ Below w.heap.size w w' :=
        (Tryd.strconv_ParseInt_10_at64_ok s (by omega) v hp w).mono fun e w' ⟨h1, h2⟩ => ⟨h1, by
          rcases h2 with rfl | ⟨t, rfl⟩
          · exact Below.refl _ _
          · exact Lib.bytesWorld_below w 5 t⟩
      have hnum := fun w => num_any v w hin
      by_cases he : numT v = s.data.toList
      · rw [intT_some hin he]
        have hq := beq_yes he
        clear he hb hp hin
        go_enter Tryd.func51, Tryd.ntmps51
        go_wp2_with fail
        refine hc.mono ?_
        rintro e w1 ⟨rfl, hb1⟩
        go_wp2_with fail
        refine (hnum _).mono ?_
        rintro e w2 ⟨rfl, hb2⟩
        go_wp2_with fail
        go_ret2
        exact ⟨rfl, hb1.trans (hb2.mono hb1.size)⟩
      · rw [intT_of_parse hp he]
        have hq := beq_no he
        clear he hb hp hin
        go_enter Tryd.func51, Tryd.ntmps51
        go_wp2_with fail
        refine hc.mono ?_
        rintro e w1 ⟨rfl, hb1⟩
        go_wp2_with fail
        refine (hnum _).mono ?_
        rintro e w2 ⟨rfl, hb2⟩
        go_wp2_with fail
        go_ret2
        exact ⟨rfl, hb1.trans (hb2.mono hb1.size)⟩
    | range =>
      rw [intT_of_fail (by rw [hp]; intro v h; cases h)]
      obtain ⟨_, _, ⟨ev, hv, hev⟩, _⟩ := hg
      have hc := Tryd.strconv_ParseInt_10_at64_range s (by omega) hp ev w hv hev
      clear hp hv hev
      go_enter Tryd.func51, Tryd.ntmps51
      go_wp2_with fail
      refine hc.mono ?_
      rintro e w' ⟨N, rfl, hN, hw', hbel⟩
      clear hw'
      go_wp2_with fail
      go_ret2
      exact ⟨rfl, hbel⟩
    | _ =>
      rw [intT_of_fail (by rw [hp]; intro v h; cases h)]
      obtain ⟨_, ⟨ev, hv, hev⟩, _, _⟩ := hg
      have hc := Tryd.strconv_ParseInt_10_at64_fails s (by omega) (by rw [hp]; intro v h; cases h) (by rw [hp]; intro h; cases h) ev w hv hev
      clear hp hv hev
      go_enter Tryd.func51, Tryd.ntmps51
      go_wp2_with fail
      refine hc.mono ?_
      rintro e w' ⟨N, rfl, hN, hw', hbel⟩
      clear hw'
      go_wp2_with fail
      go_ret2
      exact ⟨rfl, hbel⟩

end Go.Proofs.YtimodohcihnoiaaDoor

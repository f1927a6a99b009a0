/-
  The document's First at every text. Condition: lengths below 2^47.
-/
import Derived.Test.YtimodohcihnoiaaDoorFirst
import Derived.Test.YtimodohcihnoiaaDoorMath4
namespace Go.Proofs.YtimodohcihnoiaaDoor
open Go.RowKit M
attribute [local go_sem ↓] Go.wp_at_zero Go.wp_at_succ

set_option maxHeartbeats 20000000 in
set_option maxRecDepth 100000 in
theorem rfirst_any (s : ByteArray) (w : World) (hs : s.size ≤ 140737488355328) :
    Calls Tryd.prog 53 #[.string s] w fun e w' => e = .returned (firstR s (firstT s.data.toList)) ∧ Below w.heap.size w w' := by
  go_enter Tryd.func53, Tryd.ntmps53
  go_wp2_with fail
  go_loop [5, 6] (fun vn vk => ∃ (k n : Nat), k ≤ 8 ∧ k ≤ s.size ∧ n < 100000000 ∧ vk = .int .i64 (k : Int) ∧ vn = .int .i64 (n : Int) ∧ Hid (Front s.data.toList k n)) (fun _ vk => 8 - (intOf vk).toNat)
  case atStart => exact ⟨0, 0, by omega, by omega, by omega, rfl, rfl, Front.start _⟩
  case round =>
    obtain ⟨k, n, hk8, hks, hn, rfl, rfl, hF⟩ := hrel
    by_cases hlt : k < s.size
    · have hkl : k < s.data.toList.length := by simpa using hlt
      have hget : s.data.toList[k] = s[k]'hlt := rfl
      obtain ⟨c, hc⟩ : ∃ c : Int, ((s[k]'hlt).toNat : Int) = c := ⟨_, rfl⟩
      have hc0 : 0 ≤ c := by omega
      have hc1 : c ≤ 255 := by have := UInt8.toNat_lt (s[k]'hlt); omega
      by_cases h8 : k < 8
      · by_cases hd : 48 ≤ c ∧ c ≤ 57
        · have hnew := hF.out.step h8 hkl (by rw [hget]; unfold isDig; omega)
          have hnl := hnew.lt
          rw [hget] at hnew hnl
          obtain ⟨n', hn'⟩ : ∃ n' : Nat, n' = 10 * n + ((s[k]'hlt).toNat - 48) := ⟨_, rfl⟩
          rw [← hn'] at hnew hnl
          have hni : 10 * (n : Int) + (c - 48) = (n' : Int) := by omega
          have HN := Lib.hid hnew
          obtain ⟨hd1, hd2⟩ := hd
          clear hnew hn' hF hget
          go_wp2_with fail
          go_round
          case rel => exact ⟨k + 1, n', by omega, by omega, by omega, by go_num, rfl, HN.out⟩
          case measure => simp [intOf]; omega
        · have hS : Stop s.data.toList k := .inr (.inr ⟨hkl, by rw [hget]; unfold isDig; omega⟩)
          by_cases h48 : c < 48
          · skip
            have h58 : c ≠ 58 := by omega
            have h58b : (c != 58) = true := by simpa using h58
            by_cases hk0 : k = 0
            · have hk0b : ((k : Int) == 0) = true := by rw [hk0]; rfl
              have HR := Lib.hid (front_none hF.out hS (by rintro ⟨_, _, h3, _⟩; rw [List.getElem?_eq_getElem hkl, hget] at h3; have h3 : (s[k]'hlt).toNat = 58 := congrArg UInt8.toNat (Option.some.inj h3); exact h58 (by rw [← hc, h3]; rfl)))
              clear hF hS hget hk0
              go_wp2_with fail
              go_ret3
              exact ⟨by rw [HR.out]; rfl, Below.refl _ w⟩
            · skip
              have hk0b : ((k : Int) == 0) = false := by
                have : (k : Int) ≠ 0 := by omega
                simpa using this
              have hkne : ((k : Int) == (s.size : Int)) = false := by
                have : (k : Int) ≠ (s.size : Int) := by omega
                simpa using this
              have HR := Lib.hid (front_none hF.out hS (by rintro ⟨_, _, h3, _⟩; rw [List.getElem?_eq_getElem hkl, hget] at h3; have h3 : (s[k]'hlt).toNat = 58 := congrArg UInt8.toNat (Option.some.inj h3); exact h58 (by rw [← hc, h3]; rfl)))
              clear hF hS hget
              go_wp2_with fail
              go_ret3
              exact ⟨by rw [HR.out]; rfl, Below.refl _ w⟩
          · have h57 : 57 < c := by omega
            by_cases h58 : c = 58
            · have h58b : (c != 58) = false := by rw [h58]; rfl
              have hg58 : s.data.toList[k]? = some 58 := by
                rw [List.getElem?_eq_getElem hkl, hget]
                exact congrArg some (UInt8.toNat_inj.1 (by show (s[k]'hlt).toNat = 58; omega))
              by_cases hk0 : k = 0
              · have hk0b : ((k : Int) == 0) = true := by rw [hk0]; rfl
                have HR := Lib.hid (front_none hF.out hS (by rintro ⟨h1, _⟩; omega))
                clear hF hS hget hg58 hk0 h58 hd
                go_wp2_with fail
                go_ret3
                exact ⟨by rw [HR.out]; rfl, Below.refl _ w⟩
              · have hk1 : 1 ≤ k := by omega
                have hk0b : ((k : Int) == 0) = false := by
                  have : (k : Int) ≠ 0 := by omega
                  simpa using this
                have hkne : ((k : Int) == (s.size : Int)) = false := by
                  have : (k : Int) ≠ (s.size : Int) := by omega
                  simpa using this
                obtain ⟨z, hz⟩ : ∃ z : Int, ((s[0]'(by omega)).toNat : Int) = z := ⟨_, rfl⟩
                have hl0 : 0 < s.data.toList.length := by omega
                have hz0 : s.data.toList[0]? = some 48 ↔ z = 48 := by
                  rw [List.getElem?_eq_getElem hl0, show s.data.toList[0] = s[0]'(by omega) from rfl]
                  constructor
                  · intro e
                    have e : (s[0]'(by omega)).toNat = 48 := congrArg UInt8.toNat (Option.some.inj e)
                    rw [← hz, e]; rfl
                  · intro e
                    exact congrArg some (UInt8.toNat_inj.1 (by show (s[0]'_).toNat = 48; omega))
                by_cases hlead : 1 < k ∧ z = 48
                · obtain ⟨hla, hlb⟩ := hlead
                  have hzb : (z == 48) = true := by rw [hlb]; rfl
                  have hkk : (1 : Int) < (k : Int) := by omega
                  have HR := Lib.hid (front_none hF.out hS (by rintro ⟨_, _, _, h4, _⟩; exact h4 ⟨hla, hz0.2 hlb⟩))
                  clear hF hS hget hg58 hz0 h58 hlb hd
                  go_wp2_with fail
                  go_ret3
                  exact ⟨by rw [HR.out]; rfl, Below.refl _ w⟩
                · have hnl : ¬ (1 < k ∧ s.data.toList[0]? = some 48) := by rw [hz0]; exact hlead
                  by_cases hk2 : 1 < k
                  · have hzne : z ≠ 48 := fun e => hlead ⟨hk2, e⟩
                    have hzb : (z == 48) = false := by simpa using hzne
                    have hkk : (1 : Int) < (k : Int) := by omega
                    by_cases hfar : (s.size : Int) - (k : Int) - 2 < (n : Int)
                    · have HR := Lib.hid (front_none hF.out hS (by rintro ⟨_, _, _, _, h5, _⟩; simp at h5; omega))
                      clear hF hS hget hg58 hz0 hnl hlead h58 hd
                      go_wp2_with fail
                      go_ret3
                      exact ⟨by rw [HR.out]; rfl, Below.refl _ w⟩

                    · by_cases hmax : 1048576 - (k : Int) - 2 < (n : Int)
                      · have HR := Lib.hid (front_none hF.out hS (by rintro ⟨_, _, _, _, _, h6, _⟩; omega))
                        clear hF hS hget hg58 hz0 hnl hlead h58 hd
                        go_wp2_with fail
                        go_ret3
                        exact ⟨by rw [HR.out]; rfl, Below.refl _ w⟩

                      · obtain ⟨J, hJ⟩ : ∃ J : Nat, J = k + 1 + n := ⟨_, rfl⟩
                        have hJi : (k : Int) + 1 + (n : Int) = (J : Int) := by omega
                        have hJ2 : J < s.size := by omega
                        have hJl : J < s.data.toList.length := by simpa using hJ2
                        obtain ⟨g, hg⟩ : ∃ g : Int, ((s[J]'hJ2).toNat : Int) = g := ⟨_, rfl⟩
                        by_cases h44 : g = 44
                        · have h44b : (g != 44) = false := by rw [h44]; rfl
                          have hg44 : s.data.toList[k + 1 + n]? = some 44 := by
                            rw [← hJ, List.getElem?_eq_getElem hJl, show s.data.toList[J] = s[J]'hJ2 from rfl]
                            exact congrArg some (UInt8.toNat_inj.1 (by show (s[J]'hJ2).toNat = 44; omega))
                          obtain ⟨E, hE⟩ : ∃ E : Nat, E = k + 2 + n := ⟨_, rfl⟩
                          have hfr : firstR s (firstT s.data.toList) = .tuple #[.string (s.extract (k + 1) J), .string (s.extract E s.size), .int .i64 0] := by
                            rw [front_some hF.out (by omega) hg58 hnl (by omega) hg44]
                            show Value.tuple #[str ((s.data.toList.drop (k + 1)).take n), str (s.data.toList.drop (k + 2 + n)), .int .i64 0] = _
                            rw [str_of (x := s.extract (k + 1) J) (by rw [Lib.extract_data, show J - (k + 1) = n by omega]), ← hE, str_of (drop_data s E)]
                          have HFR := Lib.hid hfr
                          have hEi : (k : Int) + 2 + (n : Int) = (E : Int) := by omega
                          have hE0 : (0 : Int) ≤ (E : Int) := by omega
                          have hE1 : (E : Int) ≤ (s.size : Int) := by omega
                          have hJ3 : (k : Int) + 1 ≤ (J : Int) := by omega
                          have hJ4 : (J : Int) ≤ (s.size : Int) := by omega
                          have hk3 : (0 : Int) ≤ (k : Int) + 1 := by omega
                          clear hF hS hget hg58 hfr hg44 hE hJ hz0 hnl hlead h44 h58 hd
                          go_wp2_with fail
                          go_quiet (fail)
                          go_wp2_with fail
                          go_ret3
                          exact ⟨by rw [HFR.out]; rfl, below_drewN (Below.refl _ w) _⟩
                        · have h44b : (g != 44) = true := by simpa using h44
                          have hg44 : s.data.toList[k + 1 + n]? ≠ some 44 := by
                            rw [← hJ, List.getElem?_eq_getElem hJl, show s.data.toList[J] = s[J]'hJ2 from rfl]
                            intro e
                            have e : (s[J]'hJ2).toNat = 44 := congrArg UInt8.toNat (Option.some.inj e)
                            exact h44 (by rw [← hg, e]; rfl)
                          have HR := Lib.hid (front_none hF.out hS (by rintro ⟨_, _, _, _, _, _, h7⟩; exact hg44 h7))
                          clear hF hS hget hg58 hg44 hz0 hnl hlead hJ h58 hd
                          go_wp2_with fail
                          go_ret3
                          exact ⟨by rw [HR.out]; rfl, Below.refl _ w⟩

                  · have hk1b : ¬ (1 : Int) < (k : Int) := by omega
                    by_cases hfar : (s.size : Int) - (k : Int) - 2 < (n : Int)
                    · have HR := Lib.hid (front_none hF.out hS (by rintro ⟨_, _, _, _, h5, _⟩; simp at h5; omega))
                      clear hF hS hget hg58 hz0 hnl hlead h58 hd
                      go_wp2_with fail
                      go_ret3
                      exact ⟨by rw [HR.out]; rfl, Below.refl _ w⟩

                    · by_cases hmax : 1048576 - (k : Int) - 2 < (n : Int)
                      · have HR := Lib.hid (front_none hF.out hS (by rintro ⟨_, _, _, _, _, h6, _⟩; omega))
                        clear hF hS hget hg58 hz0 hnl hlead h58 hd
                        go_wp2_with fail
                        go_ret3
                        exact ⟨by rw [HR.out]; rfl, Below.refl _ w⟩

                      · obtain ⟨J, hJ⟩ : ∃ J : Nat, J = k + 1 + n := ⟨_, rfl⟩
                        have hJi : (k : Int) + 1 + (n : Int) = (J : Int) := by omega
                        have hJ2 : J < s.size := by omega
                        have hJl : J < s.data.toList.length := by simpa using hJ2
                        obtain ⟨g, hg⟩ : ∃ g : Int, ((s[J]'hJ2).toNat : Int) = g := ⟨_, rfl⟩
                        by_cases h44 : g = 44
                        · have h44b : (g != 44) = false := by rw [h44]; rfl
                          have hg44 : s.data.toList[k + 1 + n]? = some 44 := by
                            rw [← hJ, List.getElem?_eq_getElem hJl, show s.data.toList[J] = s[J]'hJ2 from rfl]
                            exact congrArg some (UInt8.toNat_inj.1 (by show (s[J]'hJ2).toNat = 44; omega))
                          obtain ⟨E, hE⟩ : ∃ E : Nat, E = k + 2 + n := ⟨_, rfl⟩
                          have hfr : firstR s (firstT s.data.toList) = .tuple #[.string (s.extract (k + 1) J), .string (s.extract E s.size), .int .i64 0] := by
                            rw [front_some hF.out (by omega) hg58 hnl (by omega) hg44]
                            show Value.tuple #[str ((s.data.toList.drop (k + 1)).take n), str (s.data.toList.drop (k + 2 + n)), .int .i64 0] = _
                            rw [str_of (x := s.extract (k + 1) J) (by rw [Lib.extract_data, show J - (k + 1) = n by omega]), ← hE, str_of (drop_data s E)]
                          have HFR := Lib.hid hfr
                          have hEi : (k : Int) + 2 + (n : Int) = (E : Int) := by omega
                          have hE0 : (0 : Int) ≤ (E : Int) := by omega
                          have hE1 : (E : Int) ≤ (s.size : Int) := by omega
                          have hJ3 : (k : Int) + 1 ≤ (J : Int) := by omega
                          have hJ4 : (J : Int) ≤ (s.size : Int) := by omega
                          have hk3 : (0 : Int) ≤ (k : Int) + 1 := by omega
                          clear hF hS hget hg58 hfr hg44 hE hJ hz0 hnl hlead h44 h58 hd
                          go_wp2_with fail
                          go_quiet (fail)
                          go_wp2_with fail
                          go_ret3
                          exact ⟨by rw [HFR.out]; rfl, below_drewN (Below.refl _ w) _⟩
                        · have h44b : (g != 44) = true := by simpa using h44
                          have hg44 : s.data.toList[k + 1 + n]? ≠ some 44 := by
                            rw [← hJ, List.getElem?_eq_getElem hJl, show s.data.toList[J] = s[J]'hJ2 from rfl]
                            intro e
                            have e : (s[J]'hJ2).toNat = 44 := congrArg UInt8.toNat (Option.some.inj e)
                            exact h44 (by rw [← hg, e]; rfl)
                          have HR := Lib.hid (front_none hF.out hS (by rintro ⟨_, _, _, _, _, _, h7⟩; exact hg44 h7))
                          clear hF hS hget hg58 hg44 hz0 hnl hlead hJ h58 hd
                          go_wp2_with fail
                          go_ret3
                          exact ⟨by rw [HR.out]; rfl, Below.refl _ w⟩

            · have h58b : (c != 58) = true := by simpa using h58
              by_cases hk0 : k = 0
              · have hk0b : ((k : Int) == 0) = true := by rw [hk0]; rfl
                have HR := Lib.hid (front_none hF.out hS (by rintro ⟨_, _, h3, _⟩; rw [List.getElem?_eq_getElem hkl, hget] at h3; have h3 : (s[k]'hlt).toNat = 58 := congrArg UInt8.toNat (Option.some.inj h3); exact h58 (by rw [← hc, h3]; rfl)))
                clear hF hS hget hk0 hd
                go_wp2_with fail
                go_ret3
                exact ⟨by rw [HR.out]; rfl, Below.refl _ w⟩
              · skip
                have hk0b : ((k : Int) == 0) = false := by
                  have : (k : Int) ≠ 0 := by omega
                  simpa using this
                have hkne : ((k : Int) == (s.size : Int)) = false := by
                  have : (k : Int) ≠ (s.size : Int) := by omega
                  simpa using this
                have HR := Lib.hid (front_none hF.out hS (by rintro ⟨_, _, h3, _⟩; rw [List.getElem?_eq_getElem hkl, hget] at h3; have h3 : (s[k]'hlt).toNat = 58 := congrArg UInt8.toNat (Option.some.inj h3); exact h58 (by rw [← hc, h3]; rfl)))
                clear hF hS hget hd
                go_wp2_with fail
                go_ret3
                exact ⟨by rw [HR.out]; rfl, Below.refl _ w⟩
      · have hS : Stop s.data.toList k := .inr (.inl (by omega))
        have h88 : k = 8 := by omega
        have hk8b : ¬ (k : Int) < 8 := by omega
        by_cases h58 : c = 58
        · have h58b : (c != 58) = false := by rw [h58]; rfl
          have hg58 : s.data.toList[k]? = some 58 := by
            rw [List.getElem?_eq_getElem hkl, hget]
            exact congrArg some (UInt8.toNat_inj.1 (by show (s[k]'hlt).toNat = 58; omega))
          by_cases hk0 : k = 0
          · have hk0b : ((k : Int) == 0) = true := by rw [hk0]; rfl
            have HR := Lib.hid (front_none hF.out hS (by rintro ⟨h1, _⟩; omega))
            clear hF hS hget hg58 hk0 h58 h88
            go_wp2_with fail
            go_ret3
            exact ⟨by rw [HR.out]; rfl, Below.refl _ w⟩
          · have hk1 : 1 ≤ k := by omega
            have hk0b : ((k : Int) == 0) = false := by
              have : (k : Int) ≠ 0 := by omega
              simpa using this
            have hkne : ((k : Int) == (s.size : Int)) = false := by
              have : (k : Int) ≠ (s.size : Int) := by omega
              simpa using this
            obtain ⟨z, hz⟩ : ∃ z : Int, ((s[0]'(by omega)).toNat : Int) = z := ⟨_, rfl⟩
            have hl0 : 0 < s.data.toList.length := by omega
            have hz0 : s.data.toList[0]? = some 48 ↔ z = 48 := by
              rw [List.getElem?_eq_getElem hl0, show s.data.toList[0] = s[0]'(by omega) from rfl]
              constructor
              · intro e
                have e : (s[0]'(by omega)).toNat = 48 := congrArg UInt8.toNat (Option.some.inj e)
                rw [← hz, e]; rfl
              · intro e
                exact congrArg some (UInt8.toNat_inj.1 (by show (s[0]'_).toNat = 48; omega))
            by_cases hlead : 1 < k ∧ z = 48
            · obtain ⟨hla, hlb⟩ := hlead
              have hzb : (z == 48) = true := by rw [hlb]; rfl
              have hkk : (1 : Int) < (k : Int) := by omega
              have HR := Lib.hid (front_none hF.out hS (by rintro ⟨_, _, _, h4, _⟩; exact h4 ⟨hla, hz0.2 hlb⟩))
              clear hF hS hget hg58 hz0 h58 hlb h88
              go_wp2_with fail
              go_ret3
              exact ⟨by rw [HR.out]; rfl, Below.refl _ w⟩
            · have hnl : ¬ (1 < k ∧ s.data.toList[0]? = some 48) := by rw [hz0]; exact hlead
              by_cases hk2 : 1 < k
              · have hzne : z ≠ 48 := fun e => hlead ⟨hk2, e⟩
                have hzb : (z == 48) = false := by simpa using hzne
                have hkk : (1 : Int) < (k : Int) := by omega
                by_cases hfar : (s.size : Int) - (k : Int) - 2 < (n : Int)
                · have HR := Lib.hid (front_none hF.out hS (by rintro ⟨_, _, _, _, h5, _⟩; simp at h5; omega))
                  clear hF hS hget hg58 hz0 hnl hlead h58 h88
                  go_wp2_with fail
                  go_ret3
                  exact ⟨by rw [HR.out]; rfl, Below.refl _ w⟩

                · by_cases hmax : 1048576 - (k : Int) - 2 < (n : Int)
                  · have HR := Lib.hid (front_none hF.out hS (by rintro ⟨_, _, _, _, _, h6, _⟩; omega))
                    clear hF hS hget hg58 hz0 hnl hlead h58 h88
                    go_wp2_with fail
                    go_ret3
                    exact ⟨by rw [HR.out]; rfl, Below.refl _ w⟩

                  · obtain ⟨J, hJ⟩ : ∃ J : Nat, J = k + 1 + n := ⟨_, rfl⟩
                    have hJi : (k : Int) + 1 + (n : Int) = (J : Int) := by omega
                    have hJ2 : J < s.size := by omega
                    have hJl : J < s.data.toList.length := by simpa using hJ2
                    obtain ⟨g, hg⟩ : ∃ g : Int, ((s[J]'hJ2).toNat : Int) = g := ⟨_, rfl⟩
                    by_cases h44 : g = 44
                    · have h44b : (g != 44) = false := by rw [h44]; rfl
                      have hg44 : s.data.toList[k + 1 + n]? = some 44 := by
                        rw [← hJ, List.getElem?_eq_getElem hJl, show s.data.toList[J] = s[J]'hJ2 from rfl]
                        exact congrArg some (UInt8.toNat_inj.1 (by show (s[J]'hJ2).toNat = 44; omega))
                      obtain ⟨E, hE⟩ : ∃ E : Nat, E = k + 2 + n := ⟨_, rfl⟩
                      have hfr : firstR s (firstT s.data.toList) = .tuple #[.string (s.extract (k + 1) J), .string (s.extract E s.size), .int .i64 0] := by
                        rw [front_some hF.out (by omega) hg58 hnl (by omega) hg44]
                        show Value.tuple #[str ((s.data.toList.drop (k + 1)).take n), str (s.data.toList.drop (k + 2 + n)), .int .i64 0] = _
                        rw [str_of (x := s.extract (k + 1) J) (by rw [Lib.extract_data, show J - (k + 1) = n by omega]), ← hE, str_of (drop_data s E)]
                      have HFR := Lib.hid hfr
                      have hEi : (k : Int) + 2 + (n : Int) = (E : Int) := by omega
                      have hE0 : (0 : Int) ≤ (E : Int) := by omega
                      have hE1 : (E : Int) ≤ (s.size : Int) := by omega
                      have hJ3 : (k : Int) + 1 ≤ (J : Int) := by omega
                      have hJ4 : (J : Int) ≤ (s.size : Int) := by omega
                      have hk3 : (0 : Int) ≤ (k : Int) + 1 := by omega
                      clear hF hS hget hg58 hfr hg44 hE hJ hz0 hnl hlead h44 h58 h88
                      go_wp2_with fail
                      go_quiet (fail)
                      go_wp2_with fail
                      go_ret3
                      exact ⟨by rw [HFR.out]; rfl, below_drewN (Below.refl _ w) _⟩
                    · have h44b : (g != 44) = true := by simpa using h44
                      have hg44 : s.data.toList[k + 1 + n]? ≠ some 44 := by
                        rw [← hJ, List.getElem?_eq_getElem hJl, show s.data.toList[J] = s[J]'hJ2 from rfl]
                        intro e
                        have e : (s[J]'hJ2).toNat = 44 := congrArg UInt8.toNat (Option.some.inj e)
                        exact h44 (by rw [← hg, e]; rfl)
                      have HR := Lib.hid (front_none hF.out hS (by rintro ⟨_, _, _, _, _, _, h7⟩; exact hg44 h7))
                      clear hF hS hget hg58 hg44 hz0 hnl hlead hJ h58 h88
                      go_wp2_with fail
                      go_ret3
                      exact ⟨by rw [HR.out]; rfl, Below.refl _ w⟩

              · have hk1b : ¬ (1 : Int) < (k : Int) := by omega
                by_cases hfar : (s.size : Int) - (k : Int) - 2 < (n : Int)
                · have HR := Lib.hid (front_none hF.out hS (by rintro ⟨_, _, _, _, h5, _⟩; simp at h5; omega))
                  clear hF hS hget hg58 hz0 hnl hlead h58 h88
                  go_wp2_with fail
                  go_ret3
                  exact ⟨by rw [HR.out]; rfl, Below.refl _ w⟩

                · by_cases hmax : 1048576 - (k : Int) - 2 < (n : Int)
                  · have HR := Lib.hid (front_none hF.out hS (by rintro ⟨_, _, _, _, _, h6, _⟩; omega))
                    clear hF hS hget hg58 hz0 hnl hlead h58 h88
                    go_wp2_with fail
                    go_ret3
                    exact ⟨by rw [HR.out]; rfl, Below.refl _ w⟩

                  · obtain ⟨J, hJ⟩ : ∃ J : Nat, J = k + 1 + n := ⟨_, rfl⟩
                    have hJi : (k : Int) + 1 + (n : Int) = (J : Int) := by omega
                    have hJ2 : J < s.size := by omega
                    have hJl : J < s.data.toList.length := by simpa using hJ2
                    obtain ⟨g, hg⟩ : ∃ g : Int, ((s[J]'hJ2).toNat : Int) = g := ⟨_, rfl⟩
                    by_cases h44 : g = 44
                    · have h44b : (g != 44) = false := by rw [h44]; rfl
                      have hg44 : s.data.toList[k + 1 + n]? = some 44 := by
                        rw [← hJ, List.getElem?_eq_getElem hJl, show s.data.toList[J] = s[J]'hJ2 from rfl]
                        exact congrArg some (UInt8.toNat_inj.1 (by show (s[J]'hJ2).toNat = 44; omega))
                      obtain ⟨E, hE⟩ : ∃ E : Nat, E = k + 2 + n := ⟨_, rfl⟩
                      have hfr : firstR s (firstT s.data.toList) = .tuple #[.string (s.extract (k + 1) J), .string (s.extract E s.size), .int .i64 0] := by
                        rw [front_some hF.out (by omega) hg58 hnl (by omega) hg44]
                        show Value.tuple #[str ((s.data.toList.drop (k + 1)).take n), str (s.data.toList.drop (k + 2 + n)), .int .i64 0] = _
                        rw [str_of (x := s.extract (k + 1) J) (by rw [Lib.extract_data, show J - (k + 1) = n by omega]), ← hE, str_of (drop_data s E)]
                      have HFR := Lib.hid hfr
                      have hEi : (k : Int) + 2 + (n : Int) = (E : Int) := by omega
                      have hE0 : (0 : Int) ≤ (E : Int) := by omega
                      have hE1 : (E : Int) ≤ (s.size : Int) := by omega
                      have hJ3 : (k : Int) + 1 ≤ (J : Int) := by omega
                      have hJ4 : (J : Int) ≤ (s.size : Int) := by omega
                      have hk3 : (0 : Int) ≤ (k : Int) + 1 := by omega
                      clear hF hS hget hg58 hfr hg44 hE hJ hz0 hnl hlead h44 h58 h88
                      go_wp2_with fail
                      go_quiet (fail)
                      go_wp2_with fail
                      go_ret3
                      exact ⟨by rw [HFR.out]; rfl, below_drewN (Below.refl _ w) _⟩
                    · have h44b : (g != 44) = true := by simpa using h44
                      have hg44 : s.data.toList[k + 1 + n]? ≠ some 44 := by
                        rw [← hJ, List.getElem?_eq_getElem hJl, show s.data.toList[J] = s[J]'hJ2 from rfl]
                        intro e
                        have e : (s[J]'hJ2).toNat = 44 := congrArg UInt8.toNat (Option.some.inj e)
                        exact h44 (by rw [← hg, e]; rfl)
                      have HR := Lib.hid (front_none hF.out hS (by rintro ⟨_, _, _, _, _, _, h7⟩; exact hg44 h7))
                      clear hF hS hget hg58 hg44 hz0 hnl hlead hJ h58 h88
                      go_wp2_with fail
                      go_ret3
                      exact ⟨by rw [HR.out]; rfl, Below.refl _ w⟩

        · have h58b : (c != 58) = true := by simpa using h58
          by_cases hk0 : k = 0
          · have hk0b : ((k : Int) == 0) = true := by rw [hk0]; rfl
            have HR := Lib.hid (front_none hF.out hS (by rintro ⟨_, _, h3, _⟩; rw [List.getElem?_eq_getElem hkl, hget] at h3; have h3 : (s[k]'hlt).toNat = 58 := congrArg UInt8.toNat (Option.some.inj h3); exact h58 (by rw [← hc, h3]; rfl)))
            clear hF hS hget hk0 h88
            go_wp2_with fail
            go_ret3
            exact ⟨by rw [HR.out]; rfl, Below.refl _ w⟩
          · skip
            have hk0b : ((k : Int) == 0) = false := by
              have : (k : Int) ≠ 0 := by omega
              simpa using this
            have hkne : ((k : Int) == (s.size : Int)) = false := by
              have : (k : Int) ≠ (s.size : Int) := by omega
              simpa using this
            have HR := Lib.hid (front_none hF.out hS (by rintro ⟨_, _, h3, _⟩; rw [List.getElem?_eq_getElem hkl, hget] at h3; have h3 : (s[k]'hlt).toNat = 58 := congrArg UInt8.toNat (Option.some.inj h3); exact h58 (by rw [← hc, h3]; rfl)))
            clear hF hS hget h88
            go_wp2_with fail
            go_ret3
            exact ⟨by rw [HR.out]; rfl, Below.refl _ w⟩
    · obtain rfl : k = s.size := by omega
      have hS : Stop s.data.toList s.size := .inl (by simp)
      have HR := Lib.hid (front_none hF.out hS (by rintro ⟨_, h2, _⟩; simp at h2))
      clear hF hS
      by_cases hk0 : s.size = 0
      · go_wp2_with fail
        go_ret3
        exact ⟨by rw [HR.out]; rfl, Below.refl _ w⟩
      · have hk0b : ((s.size : Int) == 0) = false := by
          have : (s.size : Int) ≠ 0 := by omega
          simpa using this
        go_wp2_with fail
        go_ret3
        exact ⟨by rw [HR.out]; rfl, Below.refl _ w⟩

end Go.Proofs.YtimodohcihnoiaaDoor

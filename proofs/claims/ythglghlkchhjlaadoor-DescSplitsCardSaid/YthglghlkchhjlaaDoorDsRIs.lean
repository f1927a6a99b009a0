/-
  The document's own word on whether a descriptor may be. Conditions: texts at most 2^47 bytes.
-/
import Derived.Test.YthglghlkchhjlaaDoorDsMake
import Derived.BigQuiet
namespace Go.Proofs.YthglghlkchhjlaaDoor.Ds
open Go.RowKit Bnd
open Go.Proofs.YthglghlkchhjlaaDoor.O (Bd isB keyB hasB nextB)

theorem rid_any (n : Int) (w : World) : Calls Tryd.prog 58 #[.int .i64 n] w fun e w' => e = .returned (.bool (idB n)) ∧ w = w' := by
  by_cases h1 : 1 ≤ n
  · by_cases h2 : n ≤ 1099511627776
    · have hv : idB n = true := (idB_iff n).2 ⟨h1, h2⟩
      have e1 : (n ≥ 1) = True := eq_true (by omega)
      have e2 : (n ≤ 1099511627776) = True := eq_true h2
      rw [hv]
      clear hv h1 h2
      go_enter Tryd.func58, Tryd.ntmps58
      go_wp2
      go_ret
      exact ⟨rfl, rfl⟩
    · have hv : idB n = false := by simp only [idB, decide_eq_false_iff_not]; omega
      have e1 : (n ≥ 1) = True := eq_true (by omega)
      have e2 : (n ≤ 1099511627776) = False := eq_false h2
      rw [hv]
      clear hv h1 h2
      go_enter Tryd.func58, Tryd.ntmps58
      go_wp2
      go_ret
      exact ⟨rfl, rfl⟩
  · have hv : idB n = false := by simp only [idB, decide_eq_false_iff_not]; omega
    have e1 : (n ≥ 1) = False := eq_false (by omega)
    rw [hv]
    clear hv h1
    go_enter Tryd.func58, Tryd.ntmps58
    go_wp2
    go_ret
    exact ⟨rfl, rfl⟩

/-- what the document asks of the member at place j -/
structure OkAt (next : Int) (ms : List Mem) (j : Nat) (h : j < ms.length) : Prop where
  n1 : 1 ≤ ms[j].1
  n7 : ms[j].1 ≤ 7
  i1 : 1 ≤ ms[j].2
  ix : ms[j].2 < next
  up : ∀ i (hi : i < j), i + 1 = j → (ms[i]'(by omega)).2 < ms[j].2
  ne : ∀ i (hi : i < j), (ms[i]'(by omega)).1 ≠ ms[j].1
/-- the number ahead of place k is below y -/
def PrevOk (ms : List Mem) (k : Nat) (y : Int) : Prop := ∀ i (h : i < ms.length), i + 1 = k → ms[i].2 < y
theorem ups {next : Int} {ms : List Mem} (h : ∀ j (hj : j < ms.length), OkAt next ms j hj) : ∀ j (hj : j < ms.length) i (hi : i < j), (ms[i]'(by omega)).2 < ms[j].2
  | j + 1, hj, i, hi => by
    rcases Nat.lt_succ_iff_lt_or_eq.1 hi with h1 | rfl
    · have := ups h j (by omega) i h1
      have := (h (j + 1) hj).up j (by omega) rfl
      omega
    · exact (h (i + 1) hj).up i (by omega) rfl
theorem mayGo_at (next : Int) (ms : List Mem) : mayGo next 0 [] ms = true ↔ ∀ j (hj : j < ms.length), OkAt next ms j hj := by
  rw [mayGo_iff]
  constructor
  · rintro ⟨h1, h2, h3⟩ j hj
    obtain ⟨a1, _, a3, a4⟩ := h1 _ (List.getElem_mem hj)
    obtain ⟨b1, b2⟩ := (nodeB_iff _).1 a1
    refine ⟨b1, b2, by omega, a4, fun i hi _ => List.pairwise_iff_getElem.1 h2 i j (by omega) hj hi, fun i hi e => ?_⟩
    have := List.pairwise_iff_getElem.1 h3 i j (by simp; omega) (by simp; omega) hi
    simp at this
    exact this e
  · intro h
    refine ⟨fun m hm => ?_, List.pairwise_iff_getElem.2 fun i j hi hj hij => ups h j hj i hij, List.pairwise_iff_getElem.2 fun i j hi hj hij => ?_⟩
    · obtain ⟨j, hj, rfl⟩ := List.getElem_of_mem hm
      have := h j hj
      exact ⟨(nodeB_iff _).2 ⟨this.n1, this.n7⟩, by simp, by have := this.i1; omega, this.ix⟩
    · simp only [List.getElem_map]
      exact (h j (by simpa using hj)).ne i hij

set_option maxHeartbeats 8000000 in
set_option maxRecDepth 100000 in
theorem ris_any (d : De) (s : Value) (w : World) (hs : SM w w.heap.size s d.ms) (hf : d.f.size ≤ 140737488355328) (ht : d.t.size ≤ 140737488355328) (hl : d.ms.length ≤ 140737488355328) :
    Calls Tryd.prog 19 #[dv d s] w fun e w' => e = .returned (.bool (isD d)) ∧ Below w.heap.size w w' := by
  obtain ⟨A, c, rfl⟩ := hs.form
  have c1 := fun w => rid_any d.id w
  have c2 := fun w => rid_any d.gen w
  have c3 := fun w => rid_any d.next w
  have c4 := fun w => Bnd.ris_any d.f d.t w hf ht
  have e4 : isB (B d.f d.t) = isB d.b := rfl
  rw [e4] at c4
  have hck : isD d = (idB d.id && idB d.gen && idB d.next && isB d.b && mayB d.next d.ms) := rfl
  obtain ⟨R, hR⟩ : ∃ R, isD d = R := ⟨_, rfl⟩
  rw [hR]
  rw [hR] at hck
  clear hR e4
  cases h1 : idB d.id with
  | false =>
    rw [h1] at c1 hck
    have HF := Lib.hid hck
    clear h1 hck
    go_enter Tryd.func19, Tryd.ntmps19
    go_wp2_with fail
    refine (c1 _).mono ?_
    rintro e w1 ⟨rfl, rfl⟩
    go_wp2_with fail
    go_ret
    exact ⟨ret_bool (by rw [HF.out]; rfl), (Below.refl _ _).alloc (Nat.le_refl _) _⟩
  | true =>
    rw [h1] at c1 hck
    clear h1
    cases h2 : idB d.gen with
    | false =>
      rw [h2] at c2 hck
      have HF := Lib.hid hck
      clear h2 hck
      go_enter Tryd.func19, Tryd.ntmps19
      go_wp2_with fail
      refine (c1 _).mono ?_
      rintro e w1 ⟨rfl, rfl⟩
      go_wp2_with fail
      refine (c2 _).mono ?_
      rintro e w1 ⟨rfl, rfl⟩
      go_wp2_with fail
      go_ret
      exact ⟨ret_bool (by rw [HF.out]; rfl), (Below.refl _ _).alloc (Nat.le_refl _) _⟩
    | true =>
      rw [h2] at c2 hck
      clear h2
      cases h3 : idB d.next with
      | false =>
        rw [h3] at c3 hck
        have HF := Lib.hid hck
        clear h3 hck
        go_enter Tryd.func19, Tryd.ntmps19
        go_wp2_with fail
        refine (c1 _).mono ?_
        rintro e w1 ⟨rfl, rfl⟩
        go_wp2_with fail
        refine (c2 _).mono ?_
        rintro e w1 ⟨rfl, rfl⟩
        go_wp2_with fail
        refine (c3 _).mono ?_
        rintro e w1 ⟨rfl, rfl⟩
        go_wp2_with fail
        go_ret
        exact ⟨ret_bool (by rw [HF.out]; rfl), (Below.refl _ _).alloc (Nat.le_refl _) _⟩
      | true =>
        rw [h3] at c3 hck
        clear h3
        cases h4 : isB d.b with
        | false =>
          rw [h4] at c4 hck
          have HF := Lib.hid hck
          clear h4 hck
          go_enter Tryd.func19, Tryd.ntmps19
          go_wp2_with fail
          refine (c1 _).mono ?_
          rintro e w1 ⟨rfl, rfl⟩
          go_wp2_with fail
          refine (c2 _).mono ?_
          rintro e w1 ⟨rfl, rfl⟩
          go_wp2_with fail
          refine (c3 _).mono ?_
          rintro e w1 ⟨rfl, rfl⟩
          go_wp2_with fail
          refine (c4 _).mono ?_
          rintro e w1 ⟨rfl, b1⟩
          go_wp2_with fail
          go_ret
          exact ⟨ret_bool (by rw [HF.out]; rfl), ((Below.refl _ w).alloc (Nat.le_refl _) _).trans (b1.mono (by simp))⟩
        | true =>
          rw [h4] at c4 hck
          clear h4
          by_cases h5 : 1 ≤ d.ms.length ∧ d.ms.length ≤ 5
          rotate_left
          · have hr : mayB d.next d.ms = false := by unfold mayB; simp [h5]
            rw [hr] at hck
            have HF := Lib.hid hck
            have g : ((d.ms.length : Int) < 1) = True ∨ (((d.ms.length : Int) < 1) = False ∧ ((d.ms.length : Int) > 5) = True) := by
              by_cases h1 : (d.ms.length : Int) < 1
              · exact .inl (eq_true h1)
              · exact .inr ⟨eq_false h1, eq_true (by omega)⟩
            clear hr hck h5
            rcases g with g1 | ⟨g1, g2⟩
            all_goals
              go_enter Tryd.func19, Tryd.ntmps19
              go_wp2_with fail
              refine (c1 _).mono ?_
              rintro e w1 ⟨rfl, rfl⟩
              go_wp2_with fail
              refine (c2 _).mono ?_
              rintro e w1 ⟨rfl, rfl⟩
              go_wp2_with fail
              refine (c3 _).mono ?_
              rintro e w1 ⟨rfl, rfl⟩
              go_wp2_with fail
              refine (c4 _).mono ?_
              rintro e w1 ⟨rfl, b1⟩
              have B1 := (BoxD.new w d (.slice A d.ms.length c)).keep b1
              obtain ⟨p_0, ⟨p_1, p_2, p_3, p_4, p_5, p_6⟩, p_7⟩ := id B1
              go_wp2_with fail
              go_ret
              exact ⟨ret_bool (by rw [HF.out]; rfl), ((Below.refl _ w).alloc (Nat.le_refl _) _).trans (b1.mono (by simp))⟩
          · have hr : mayB d.next d.ms = mayGo d.next 0 [] d.ms := by unfold mayB; simp [h5]
            rw [hr] at hck
            have hck' : (mayGo d.next 0 [] d.ms = R) := by simpa using hck.symm
            have HF := Lib.hid hck'
            obtain ⟨h51, h52⟩ := h5
            have g1 : ((d.ms.length : Int) < 1) = False := eq_false (by omega)
            have g2 : ((d.ms.length : Int) > 5) = False := eq_false (by omega)
            clear hr hck hck'
            go_enter Tryd.func19, Tryd.ntmps19
            go_wp2_with fail
            refine (c1 _).mono ?_
            rintro e w1 ⟨rfl, rfl⟩
            go_wp2_with fail
            refine (c2 _).mono ?_
            rintro e w1 ⟨rfl, rfl⟩
            go_wp2_with fail
            refine (c3 _).mono ?_
            rintro e w1 ⟨rfl, rfl⟩
            go_wp2_with fail
            refine (c4 _).mono ?_
            rintro e w1 ⟨rfl, b1⟩
            have B1 := (BoxD.new w d (.slice A d.ms.length c)).keep b1
            have hb1 : Below w.heap.size w w1 := ((Below.refl _ w).alloc (Nat.le_refl _) _).trans (b1.mono (by simp))
            obtain ⟨p_0, ⟨p_1, p_2, p_3, p_4, p_5, p_6⟩, p_7⟩ := id B1
            clear b1 c1 c2 c3 c4
            go_wp2_with fail
            clear p_0 p_1 p_2 p_3 p_4 p_5 p_6 p_7
            have hs1 : SM w1 w1.heap.size (.slice A d.ms.length c) d.ms := (hs.below hb1).more hb1.size
            go_loopw [2, 3, 4, 5] (fun v2 vi _ _ wr => ∃ k : Nat, k ≤ d.ms.length ∧ vi = .int .i64 (k : Int) ∧ v2 = .bool false ∧ Hid (∀ j (_ : j < k) (hj : j < d.ms.length), OkAt d.next d.ms j hj) ∧ Below w1.heap.size w1 wr) (fun _ vi _ _ _ => d.ms.length - (intOf vi).toNat)
            case atStart => exact ⟨0, Nat.zero_le _, rfl, rfl, Lib.hid (fun j hj => by omega), Below.refl _ _⟩
            case round =>
              revert hrel; revert wr; intro wo hrel
              obtain ⟨k, hk, rfl, rfl, HK, hbo⟩ := hrel
              have Bo := B1.keep hbo
              obtain ⟨p_0, ⟨p_1, p_2, p_3, p_4, p_5, p_6⟩, p_7⟩ := id Bo
              by_cases hlt : k < d.ms.length
              rotate_left
              · obtain rfl : k = d.ms.length := by omega
                have HT : Hid (R = true) := Lib.hid (HF.out ▸ (mayGo_at _ _).2 fun j hj => HK.out j hj hj)
                go_wp2_with fail
                go_ret
                exact ⟨ret_bool HT.out.symm, hb1.trans (hbo.mono hb1.size)⟩
              · obtain ⟨b, o, rfl, hb, m1, m2⟩ := (hs1.below hbo).at_ hlt
                obtain ⟨⟨x, y⟩, hm⟩ : ∃ m, d.ms[k] = m := ⟨_, rfl⟩
                rw [hm] at m1 m2
                have HM := Lib.hid hm
                clear hm
                simp only at m1 m2
                have hbad : ¬ OkAt d.next d.ms k hlt → Hid (false = R) := fun h => Lib.hid (by
                  rw [← HF.out]
                  cases hx : mayGo d.next 0 [] d.ms with
                  | false => rfl
                  | true => exact absurd ((mayGo_at _ _).1 hx k hlt) h)
                have HB := Lib.hid hbad
                clear hbad
                have hbw : Below w.heap.size w wo := hb1.trans (hbo.mono hb1.size)
                have k0 : (0 ≤ (k : Int)) = True := eq_true (by omega)
                have k1 : ((k : Int) < (d.ms.length : Int)) = True := eq_true (by omega)
                have four : ((x < 1) = True ∨ ((x < 1) = False ∧ (x > 7) = True) ∨ ((x < 1) = False ∧ (x > 7) = False ∧ (y < 1) = True) ∨ ((x < 1) = False ∧ (x > 7) = False ∧ (y < 1) = False ∧ (y ≥ d.next) = True)) ∨ ((x < 1) = False ∧ (x > 7) = False ∧ (y < 1) = False ∧ (y ≥ d.next) = False) := by
                  by_cases q1 : x < 1
                  · exact .inl (.inl (eq_true q1))
                  · by_cases q2 : x > 7
                    · exact .inl (.inr (.inl ⟨eq_false q1, eq_true q2⟩))
                    · by_cases q3 : y < 1
                      · exact .inl (.inr (.inr (.inl ⟨eq_false q1, eq_false q2, eq_true q3⟩)))
                      · by_cases q4 : y ≥ d.next
                        · exact .inl (.inr (.inr (.inr ⟨eq_false q1, eq_false q2, eq_false q3, eq_true q4⟩)))
                        · exact .inr ⟨eq_false q1, eq_false q2, eq_false q3, eq_false q4⟩
                rcases four with hbd | ⟨e1, e2, e3, e4⟩
                · have HR : Hid (false = R) := HB.out (by
                    intro ho
                    have hm := HM.out
                    have a1 := ho.n1
                    have a2 := ho.n7
                    have a3 := ho.i1
                    have a4 := ho.ix
                    rw [hm] at a1 a2 a3 a4
                    simp only at a1 a2 a3 a4
                    rcases hbd with q | ⟨_, q⟩ | ⟨_, _, q⟩ | ⟨_, _, _, q⟩ <;> (have q := of_eq_true q; omega))
                  clear HB HM HF HK
                  rcases hbd with e1 | ⟨e1, e2⟩ | ⟨e1, e2, e3⟩ | ⟨e1, e2, e3, e4⟩
                  all_goals
                    go_wp2_with fail
                    go_quiet (fail)
                    go_wp2_with fail
                    go_ret
                    exact ⟨ret_bool HR.out, below_drewN (hbw.alloc hbw.size _) _⟩
                · have five : (((k : Int) > 0) = False ∧ (0 < k) = False ∧ k = 0) ∨ (((k : Int) > 0) = True ∧ (0 < k) = True ∧ ∃ k', k = k' + 1) := by
                    cases k with
                    | zero => exact .inl ⟨eq_false (by omega), eq_false (by omega), rfl⟩
                    | succ k' => exact .inr ⟨eq_true (by omega), eq_true (by omega), k', rfl⟩
                  rcases five with ⟨e5, e5n, h0⟩ | ⟨e5, e5n, k', hk'⟩
                  · have HG : Hid (x ≤ 7 ∧ 1 ≤ x ∧ 1 ≤ y ∧ y < d.next ∧ PrevOk d.ms k y) := Lib.hid ⟨by have := of_eq_false e2; omega, by have := of_eq_false e1; omega, by have := of_eq_false e3; omega, by have := of_eq_false e4; omega, fun i hi he => by omega⟩
                    have HZ := Lib.hid h0
                    clear h0
                    go_wp2_with fail
                    go_quiet (fail)
                    go_wp2_with fail
                    clear e1 e2 e3 e4 e5 e5n
                    go_loopw [2, 5] (fun v2 vq wr => ∃ i : Nat, i ≤ k ∧ vq = .int .i64 (i : Int) ∧ v2 = .bool false ∧ Hid (∀ a (_ : a < i) (ha : a < d.ms.length), d.ms[a].1 ≠ x) ∧ wr.cell? ⟨wo.heap.size, 0, none⟩ = some (.int .i64 x) ∧ wo.heap.size < wr.heap.size ∧ Below wo.heap.size wo wr) (fun _ vq _ => k - (intOf vq).toNat)
                    case atStart => exact ⟨0, Nat.zero_le _, rfl, rfl, Lib.hid (fun a h => by omega), by simp [go_sem], by simp, below_drewN ((Below.refl _ wo).alloc (Nat.le_refl _) _) _⟩
                    case round =>
                      clear p_0 p_1 p_2 p_3 p_4 p_5 p_6 p_7
                      obtain ⟨i, hi, rfl, rfl, HI, n1, n2, hby⟩ := hrel
                      have By := Bo.keep hby
                      obtain ⟨p_0, ⟨p_1, p_2, p_3, p_4, p_5, p_6⟩, p_7⟩ := id By
                      have hbz : Below w.heap.size w wr := hbw.trans (hby.mono hbw.size)
                      by_cases hik : i < k
                      rotate_left
                      · have hie : i = k := by omega
                        have i5 : ((i : Int) < (k : Int)) = False := eq_false (by omega)
                        go_wp2_with fail
                        go_roundw
                        case rel =>
                          refine ⟨k + 1, by omega, by go_num, rfl, Lib.hid (fun j hj hjl => ?_), hbo.trans (hby.mono hbo.size)⟩
                          by_cases hjk : j < k
                          · exact HK.out j hjk hjl
                          · obtain rfl : j = k := by omega
                            have hm := HM.out
                            obtain ⟨r1, r2, r3, r4, r5⟩ := HG.out
                            exact ⟨by rw [hm]; exact r2, by rw [hm]; exact r1, by rw [hm]; exact r3, by rw [hm]; exact r4, fun a ha he => by rw [hm]; exact r5 a (by omega) he, fun a ha => by rw [hm]; exact HI.out a (by omega) (by omega)⟩
                        case measure => simp [intOf]; omega
                      · have hil : i < d.ms.length := by omega
                        obtain ⟨b2, o2, hA2, hb2, s1, s2⟩ := ((hs1.below hbo).below (hby.mono (by have := hbo.size; omega))).at_ hil
                        injection hA2 with hA2
                        injection hA2 with hA3 hA4 _
                        subst hA3 hA4
                        obtain ⟨⟨ax, ay⟩, ham⟩ : ∃ m, d.ms[i] = m := ⟨_, rfl⟩
                        rw [ham] at s1 s2
                        simp only at s1 s2
                        have HA := Lib.hid ham
                        have j0 : (0 ≤ (i : Int)) = True := eq_true (by omega)
                        have j1 : ((i : Int) < (d.ms.length : Int)) = True := eq_true (by omega)
                        clear ham
                        by_cases hax : ax = x
                        · have HR : Hid (false = R) := HB.out (by
                            intro ho
                            have hm := HM.out
                            have a1 := ho.ne i hik
                            rw [hm, HA.out] at a1
                            exact a1 hax)
                          have ax1 : (ax == x) = true := by simpa using hax
                          have ax2 : (ax = x) = True := eq_true hax
                          clear HB HM HF HK HG HI HA hax
                          go_wp2_with fail
                          go_quiet (fail)
                          go_wp2_with fail
                          go_ret
                          exact ⟨ret_bool HR.out, below_drewN hbz _⟩
                        · have ax1 : (ax == x) = false := by simpa using hax
                          have ax2 : (ax = x) = False := eq_false hax
                          have HI2 : Hid (∀ a (_ : a < i + 1) (ha : a < d.ms.length), d.ms[a].1 ≠ x) := Lib.hid (fun a h ha => by
                            by_cases h2 : a < i
                            · exact HI.out a h2 ha
                            · obtain rfl : a = i := by omega
                              rw [HA.out]; exact hax)
                          clear hax
                          go_wp2_with fail
                          go_quiet (fail)
                          go_wp2_with fail
                          go_roundw
                          case rel => exact ⟨i + 1, by omega, by go_num, rfl, HI2, n1, by simpa using n2, below_drewN hby _⟩
                          case measure => simp [intOf]; omega
                  · have hkl : k' < d.ms.length := by omega
                    obtain ⟨b', o', hA', hb', m3, m4⟩ := (hs1.below hbo).at_ hkl
                    injection hA' with hA'
                    injection hA' with hA1 hA2 _
                    subst hA1 hA2
                    obtain ⟨⟨px, py⟩, hpm⟩ : ∃ m, d.ms[k'] = m := ⟨_, rfl⟩
                    rw [hpm] at m3 m4
                    simp only at m3 m4
                    have HP := Lib.hid hpm
                    have HKK := Lib.hid hk'
                    have w4' : IntKind.i64.wrap ((k : Int) - 1) = (k' : Int) := by rw [IntKind.wrap_i64]; omega
                    have hbs : b < wo.heap.size := by have := hbo.size; omega
                    have w2' : (0 ≤ (k' : Int)) = True := eq_true (by omega)
                    have w3' : ((k' : Int) < (d.ms.length : Int)) = True := eq_true (by omega)
                    clear hpm hk'
                    by_cases h6 : y ≤ py
                    · have e6 : (y ≤ py) = True := eq_true h6
                      have HR : Hid (false = R) := HB.out (by
                        intro ho
                        have hm := HM.out
                        have a1 := ho.up k' (by have := HKK.out; omega) HKK.out.symm
                        rw [hm, HP.out] at a1
                        simp only at a1
                        omega)
                      clear HB HM HF HK HP HKK h6
                      go_wp2_with fail
                      go_quiet (fail)
                      go_wp2_with fail
                      go_ret
                      exact ⟨ret_bool HR.out, below_drewN (hbw.alloc hbw.size _) _⟩
                    · have e6 : (y ≤ py) = False := eq_false h6
                      have HG : Hid (x ≤ 7 ∧ 1 ≤ x ∧ 1 ≤ y ∧ y < d.next ∧ PrevOk d.ms k y) := Lib.hid ⟨by have := of_eq_false e2; omega, by have := of_eq_false e1; omega, by have := of_eq_false e3; omega, by have := of_eq_false e4; omega, fun i hi he => by
                        obtain rfl : i = k' := by have := HKK.out; omega
                        rw [HP.out]; simp only; omega⟩
                      clear h6
                      go_wp2_with fail
                      go_quiet (fail)
                      go_wp2_with fail
                      clear e1 e2 e3 e4 e5 e5n
                      go_loopw [2, 5] (fun v2 vq wr => ∃ i : Nat, i ≤ k ∧ vq = .int .i64 (i : Int) ∧ v2 = .bool false ∧ Hid (∀ a (_ : a < i) (ha : a < d.ms.length), d.ms[a].1 ≠ x) ∧ wr.cell? ⟨wo.heap.size, 0, none⟩ = some (.int .i64 x) ∧ wo.heap.size < wr.heap.size ∧ Below wo.heap.size wo wr) (fun _ vq _ => k - (intOf vq).toNat)
                      case atStart => exact ⟨0, Nat.zero_le _, rfl, rfl, Lib.hid (fun a h => by omega), by simp [go_sem], by simp, below_drewN ((Below.refl _ wo).alloc (Nat.le_refl _) _) _⟩
                      case round =>
                        clear p_0 p_1 p_2 p_3 p_4 p_5 p_6 p_7
                        obtain ⟨i, hi, rfl, rfl, HI, n1, n2, hby⟩ := hrel
                        have By := Bo.keep hby
                        obtain ⟨p_0, ⟨p_1, p_2, p_3, p_4, p_5, p_6⟩, p_7⟩ := id By
                        have hbz : Below w.heap.size w wr := hbw.trans (hby.mono hbw.size)
                        by_cases hik : i < k
                        rotate_left
                        · have hie : i = k := by omega
                          have i5 : ((i : Int) < (k : Int)) = False := eq_false (by omega)
                          go_wp2_with fail
                          go_roundw
                          case rel =>
                            refine ⟨k + 1, by omega, by go_num, rfl, Lib.hid (fun j hj hjl => ?_), hbo.trans (hby.mono hbo.size)⟩
                            by_cases hjk : j < k
                            · exact HK.out j hjk hjl
                            · obtain rfl : j = k := by omega
                              have hm := HM.out
                              obtain ⟨r1, r2, r3, r4, r5⟩ := HG.out
                              exact ⟨by rw [hm]; exact r2, by rw [hm]; exact r1, by rw [hm]; exact r3, by rw [hm]; exact r4, fun a ha he => by rw [hm]; exact r5 a (by omega) he, fun a ha => by rw [hm]; exact HI.out a (by omega) (by omega)⟩
                          case measure => simp [intOf]; omega
                        · have hil : i < d.ms.length := by omega
                          obtain ⟨b2, o2, hA2, hb2, s1, s2⟩ := ((hs1.below hbo).below (hby.mono (by have := hbo.size; omega))).at_ hil
                          injection hA2 with hA2
                          injection hA2 with hA3 hA4 _
                          subst hA3 hA4
                          obtain ⟨⟨ax, ay⟩, ham⟩ : ∃ m, d.ms[i] = m := ⟨_, rfl⟩
                          rw [ham] at s1 s2
                          simp only at s1 s2
                          have HA := Lib.hid ham
                          have j0 : (0 ≤ (i : Int)) = True := eq_true (by omega)
                          have j1 : ((i : Int) < (d.ms.length : Int)) = True := eq_true (by omega)
                          clear ham
                          by_cases hax : ax = x
                          · have HR : Hid (false = R) := HB.out (by
                              intro ho
                              have hm := HM.out
                              have a1 := ho.ne i hik
                              rw [hm, HA.out] at a1
                              exact a1 hax)
                            have ax1 : (ax == x) = true := by simpa using hax
                            have ax2 : (ax = x) = True := eq_true hax
                            clear HB HM HF HK HG HI HA hax
                            go_wp2_with fail
                            go_quiet (fail)
                            go_wp2_with fail
                            go_ret
                            exact ⟨ret_bool HR.out, below_drewN hbz _⟩
                          · have ax1 : (ax == x) = false := by simpa using hax
                            have ax2 : (ax = x) = False := eq_false hax
                            have HI2 : Hid (∀ a (_ : a < i + 1) (ha : a < d.ms.length), d.ms[a].1 ≠ x) := Lib.hid (fun a h ha => by
                              by_cases h2 : a < i
                              · exact HI.out a h2 ha
                              · obtain rfl : a = i := by omega
                                rw [HA.out]; exact hax)
                            clear hax
                            go_wp2_with fail
                            go_quiet (fail)
                            go_wp2_with fail
                            go_roundw
                            case rel => exact ⟨i + 1, by omega, by go_num, rfl, HI2, n1, by simpa using n2, below_drewN hby _⟩
                            case measure => simp [intOf]; omega
end Go.Proofs.YthglghlkchhjlaaDoor.Ds

/-
  number, and strands, the program's: the texts whose knot a text is. Conditions: texts of at most 12,000 bytes; the library's variables hold what their types allow.
-/
import Derived.Test.YtimodohcihnoiaaDoorRoRMg
namespace Go.Proofs.YtimodohcihnoiaaDoor.Ro
open Go.RowKit
open Go.Proofs.YtimodohcihnoiaaDoor.M (tieT untieT intT numT inR intT_spec firstT untie_stuck untie_step untie_some first_cut_some first_cut_none first_cut_far first_cut_comma first_no_colon tieT_nil tieT_cons)

theorem number_any (s : ByteArray) (w : World) (hs : s.size ≤ 140737488355328) (hg : Good w) : Calls Tryd.prog 36 #[.string s] w fun e w' => e = .returned (.int .i64 (num1 s.data.toList)) ∧ Below w.heap.size w w' := by
  have c := int_any s w hs hg
  unfold num1
  cases h : intT s.data.toList with
  | none =>
    rw [h] at c
    unfold intR at c
    clear h
    go_enter Tryd.func36, Tryd.ntmps36
    go_wp2_with fail
    refine c.mono ?_
    rintro e w' ⟨rfl, hb⟩
    go_wp2_with fail
    go_ret
    exact ⟨rfl, hb⟩
  | some n =>
    rw [h] at c
    unfold intR at c
    clear h
    go_enter Tryd.func36, Tryd.ntmps36
    go_wp2_with fail
    refine c.mono ?_
    rintro e w' ⟨rfl, hb⟩
    go_wp2_with fail
    go_ret
    exact ⟨rfl, hb⟩

/-- what strands hands back -/
def StrOut (base : Nat) (o : Option (List (List UInt8))) (e : Ending) (w' : World) : Prop :=
  match o with
  | some l => ∃ v ss, e = .returned (.tuple #[v, .bool true]) ∧ texts ss = l ∧ w'.ownsRow base 9 1 v ss.length (ss.map Value.string)
  | none => e = .returned (.tuple #[.slice none 0 0, .bool false])
theorem StrOut.no {base : Nat} {o : Option (List (List UInt8))} {w' : World} (h : o = none) : StrOut base o (.returned (.tuple #[.slice none 0 0, .bool false])) w' := by subst h; exact rfl
theorem empty_ba {t : ByteArray} (h : t.size = 0) : t = ⟨#[]⟩ := by
  obtain ⟨⟨l⟩⟩ := t
  have : l.length = 0 := h
  rw [List.length_eq_zero_iff.1 this]
theorem tie_count : ∀ (l : List (List UInt8)), 3 * l.length ≤ (tieT l).length
  | [] => by simp
  | y :: l => by
    rw [tieT_cons, List.length_append, M.strand_length]
    have hp : 1 ≤ (numT (y.length : Int)).length := by rw [M.numT_nat]; exact M.dig_pos _
    have := tie_count l
    simp only [List.length_cons]; omega
theorem drop_cut {p q : List UInt8} {k : Nat} : (p ++ 58 :: q).drop (p.length + 1 + k + 1) = q.drop (k + 1) := by
  rw [show p.length + 1 + k + 1 = p.length + (k + 2) by omega, List.drop_append]
  rw [List.drop_of_length_le (by omega), List.nil_append, show p.length + (k + 2) - p.length = k + 1 + 1 by omega]
  rfl

set_option maxHeartbeats 8000000 in
set_option maxRecDepth 100000 in
theorem strands_any (s : ByteArray) (w : World) (hs : s.size ≤ 12000) (hg : Good w) :
    Calls Tryd.prog 35 #[.string s] w fun e w' => StrOut w.heap.size (untieT s.data.toList) e w' ∧ Below w.heap.size w w' := by
  obtain ⟨i0, hi, hz0, hz1, hz2⟩ := info_parts infoStr
  obtain ⟨s0, hs0⟩ : ∃ s0, s.data.toList = s0 := ⟨_, rfl⟩
  have hsl : s0.length ≤ 12000 := by rw [← hs0]; simpa using hs
  rw [hs0]
  have HS0 := Lib.hid hs0
  have HSL := Lib.hid hsl
  clear hs0 hsl
  go_enter Tryd.func35, Tryd.ntmps35
  go_wp2_with fail
  go_loopw [0, 4, 5, 6, 7, 8, 9] (fun v0 v4 _ _ _ _ _ wr => ∃ (t : ByteArray) (ss : List ByteArray), v0 = .string t ∧ Hid (s0 = tieT (texts ss) ++ t.data.toList) ∧ ss.length + t.size ≤ 12000 ∧ wr.ownsRow w.heap.size 9 1 v4 ss.length (ss.map Value.string) ∧ Below w.heap.size w wr) (fun v0 _ _ _ _ _ _ _ => lenOf v0)
  case atStart => exact ⟨s, [], rfl, Lib.hid (by simp [texts, tieT_nil, HS0.out]), by simpa using hs, ⟨by simp, .inl ⟨rfl, rfl⟩⟩, Below.refl _ w⟩
  case round =>
    revert hrel; revert wr; intro wo hrel
    obtain ⟨t, ss, rfl, HST, hts, hown, hbw⟩ := hrel
    obtain ⟨A, c, rfl⟩ := own_form hown
    have hzo := hbw.size
    by_cases ht0 : t.size = 0
    · obtain rfl := empty_ba ht0
      have hst := HST.out
      have hun : untieT s0 = some (texts ss) := untie_some (by simpa using hst) (by
        have h1 := tie_count (texts ss)
        have h2 := congrArg List.length hst
        have h3 := HSL.out
        rw [List.length_append] at h2
        omega) (by have := HSL.out; omega)
      have HUN := Lib.hid hun
      have HO := Lib.hid hown
      clear hun hst hown ht0
      go_wp2_with fail
      go_ret2
      exact ⟨by rw [HUN.out]; exact ⟨_, ss, rfl, rfl, HO.out⟩, hbw⟩
    have hte : t.toList.isEmpty = false := by
      rw [ByteArray.toList_eq]
      cases h : t.data.toList with
      | nil => exact absurd ((toList_nil t).2 h) ht0
      | cons a b => rfl
    have hne : t.data.toList ≠ [] := fun h => ht0 ((toList_nil t).2 h)
    have hstuck : firstT t.data.toList = none → untieT s0 = none := fun h => untie_stuck HST.out hne h
    have htk : t.data.toList.take 1048576 = t.data.toList := List.take_of_length_le (by simp; omega)
    obtain ⟨mm, hmm⟩ := (hg.below hbw).most
    have hc0 := Tryd.strings_Cut t ⟨#[58]⟩ mm wo (by omega) hmm
    rw [show (⟨#[58]⟩ : ByteArray).data.toList = [58] from rfl] at hc0
    clear hmm ht0
    have hneq : (t.toList == []) = false := by rw [beq_eq_false_iff_ne]; intro h; rw [h] at hte; cases hte
    by_cases hcol : (58 : UInt8) ∈ t.data.toList
    rotate_left
    · rw [cut_no_colon _ hcol] at hc0
      simp only [] at hc0
      have hun := hstuck (first_no_colon (by rw [htk]; exact hcol))
      rw [show (⟨t.data.toList.toArray⟩ : ByteArray) = t from str_self t] at hc0
      have hint := fun n => int_any t (wo.drewN n) (by omega) ((hg.below hbw).drewN n)
      have HUN := Lib.hid hun
      clear hcol htk hstuck hun hne
      cases hi2 : intT t.data.toList with
      | none =>
        rw [hi2] at hint
        unfold intR at hint
        clear hi2
        go_wp2_with fail
        refine hc0.mono ?_
        rintro e w1 ⟨rfl, n, rfl⟩
        go_wp2_with fail
        refine (hint n).mono ?_
        rintro e w2 ⟨rfl, hb2⟩
        have hb2' := below_of_drewN hb2
        go_wp2_with fail
        go_ret2
        exact ⟨StrOut.no HUN.out, hbw.trans (hb2'.mono hzo)⟩
      | some v =>
        rw [hi2] at hint
        unfold intR at hint
        simp only [] at hint
        clear hi2
        by_cases hneg : v < 0
        · have l1 : (v < 0) = True := eq_true hneg
          clear hneg
          go_wp2_with fail
          refine hc0.mono ?_
          rintro e w1 ⟨rfl, n, rfl⟩
          go_wp2_with fail
          refine (hint n).mono ?_
          rintro e w2 ⟨rfl, hb2⟩
          have hb2' := below_of_drewN hb2
          go_wp2_with fail
          go_ret2
          exact ⟨StrOut.no HUN.out, hbw.trans (hb2'.mono hzo)⟩
        · have l1 : (v < 0) = False := eq_false hneg
          have l2 : (0 ≤ v) = True := eq_true (by omega)
          clear hneg
          go_wp2_with fail
          refine hc0.mono ?_
          rintro e w1 ⟨rfl, n, rfl⟩
          go_wp2_with fail
          refine (hint n).mono ?_
          rintro e w2 ⟨rfl, hb2⟩
          have hb2' := below_of_drewN hb2
          go_wp2_with fail
          go_ret2
          exact ⟨StrOut.no HUN.out, hbw.trans (hb2'.mono hzo)⟩
    obtain ⟨p, q, hpq, hp⟩ := has_colon _ hcol
    rw [hpq, cut_colon p q hp] at hc0
    simp only [] at hc0
    obtain ⟨P, hP⟩ : ∃ P : ByteArray, ⟨p.toArray⟩ = P := ⟨_, rfl⟩
    obtain ⟨Q, hQ⟩ : ∃ Q : ByteArray, ⟨q.toArray⟩ = Q := ⟨_, rfl⟩
    obtain rfl : P.data.toList = p := by rw [← hP]
    obtain rfl : Q.data.toList = q := by rw [← hQ]
    have hsz : P.size + Q.size + 1 = t.size := by
      have := congrArg List.length hpq
      simp at this
      omega
    have hint := fun n => int_any P (wo.drewN n) (by omega) ((hg.below hbw).drewN n)
    rw [hP, hQ] at hc0
    rw [hpq] at htk hstuck
    have HPQ := Lib.hid hpq
    clear hcol hpq hP hQ hne
    cases hi2 : intT P.data.toList with
    | none =>
      rw [hi2] at hint
      have HUN := Lib.hid (hstuck (first_cut_none htk hp hi2))
      unfold intR at hint
      clear hi2 htk hp hstuck
      go_wp2_with fail
      refine hc0.mono ?_
      rintro e w1 ⟨rfl, n, rfl⟩
      go_wp2_with fail
      refine (hint n).mono ?_
      rintro e w2 ⟨rfl, hb2⟩
      have hb2' := below_of_drewN hb2
      go_wp2_with fail
      go_ret2
      exact ⟨StrOut.no HUN.out, hbw.trans (hb2'.mono hzo)⟩
    | some v =>
      rw [hi2] at hint
      unfold intR at hint
      simp only [] at hint
      have hvr := (intT_spec hi2).1
      unfold inR at hvr
      obtain ⟨hv1, hv2⟩ := hvr
      by_cases hneg : v < 0
      · have HUN := Lib.hid (hstuck (first_cut_far htk hp hi2 (.inl hneg)))
        have l1 : (v < 0) = True := eq_true hneg
        clear hi2 htk hp hstuck hneg
        go_wp2_with fail
        refine hc0.mono ?_
        rintro e w1 ⟨rfl, n, rfl⟩
        go_wp2_with fail
        refine (hint n).mono ?_
        rintro e w2 ⟨rfl, hb2⟩
        have hb2' := below_of_drewN hb2
        go_wp2_with fail
        go_ret2
        exact ⟨StrOut.no HUN.out, hbw.trans (hb2'.mono hzo)⟩
      have l1 : (v < 0) = False := eq_false hneg
      obtain ⟨k, rfl⟩ : ∃ k : Nat, v = (k : Int) := ⟨v.toNat, by omega⟩
      by_cases hfar : (Q.size : Int) ≤ (k : Int)
      · have HUN := Lib.hid (hstuck (first_cut_far htk hp hi2 (.inr (by simpa using hfar))))
        have l2 : ((Q.size : Int) ≤ (k : Int)) = True := eq_true hfar
        clear hi2 htk hp hstuck hneg hfar
        go_wp2_with fail
        refine hc0.mono ?_
        rintro e w1 ⟨rfl, n, rfl⟩
        go_wp2_with fail
        refine (hint n).mono ?_
        rintro e w2 ⟨rfl, hb2⟩
        have hb2' := below_of_drewN hb2
        go_wp2_with fail
        go_ret2
        exact ⟨StrOut.no HUN.out, hbw.trans (hb2'.mono hzo)⟩
      have l2 : ((Q.size : Int) ≤ (k : Int)) = False := eq_false hfar
      have hkq : k < Q.size := by omega
      have hkl : k < Q.data.toList.length := by simpa using hkq
      by_cases h44 : (Q[k]'hkq).toNat = 44
      rotate_left
      · have hget : Q.data.toList[k]? ≠ some 44 := by
          rw [List.getElem?_eq_getElem hkl]
          intro e
          exact h44 (congrArg UInt8.toNat (Option.some.inj e))
        have hb1 : (((Q[k]'hkq).toNat : Int) != 44) = true := by
          have : ((Q[k]'hkq).toNat : Int) ≠ 44 := by omega
          simpa using this
        have HUN := Lib.hid (hstuck (first_cut_comma htk hp hi2 hget))
        clear hi2 htk hp hstuck hneg hfar hget h44 hkl
        go_wp2_with fail
        refine hc0.mono ?_
        rintro e w1 ⟨rfl, n, rfl⟩
        go_wp2_with fail
        refine (hint n).mono ?_
        rintro e w2 ⟨rfl, hb2⟩
        have hb2' := below_of_drewN hb2
        go_wp2_with fail
        go_ret2
        exact ⟨StrOut.no HUN.out, hbw.trans (hb2'.mono hzo)⟩
      have hget : Q.data.toList[k]? = some 44 := by
        rw [List.getElem?_eq_getElem hkl]
        exact congrArg some (UInt8.toNat_inj.1 h44)
      obtain ⟨hf, hle⟩ := first_cut_some htk hi2 hkl hget
      rw [drop_cut] at hf
      have hb1 : (((Q[k]'hkq).toNat : Int) != 44) = false := by rw [h44]; rfl
      obtain ⟨X, hX⟩ : ∃ X, Q.extract 0 k = X := ⟨_, rfl⟩
      obtain ⟨R, hRq⟩ : ∃ R, Q.extract (k + 1) Q.size = R := ⟨_, rfl⟩
      have hXd : Q.data.toList.take k = X.data.toList := by rw [← hX, take_data]
      have hRd : Q.data.toList.drop (k + 1) = R.data.toList := by rw [← hRq, drop_data]
      rw [hXd, hRd] at hf
      have hstp := untie_step (s0 := s0) (acc := texts ss) (by rw [← HPQ.out]; exact HST.out) hf
      have HSTP := Lib.hid hstp
      have hRs : R.size = Q.size - (k + 1) := by rw [← hRq, ByteArray.size_extract]; omega
      have k1 : ((k : Int) < (Q.size : Int)) = True := eq_true (by omega)
      have hk0 : (0 : Int) ≤ (k : Int) := by omega
      have hk1 : (k : Int) ≤ (Q.size : Int) := by omega
      have hk2 : (k : Int) + 1 ≤ (Q.size : Int) := by omega
      have j1 : IntKind.i64.wrap ((k : Int) + 1) = (k : Int) + 1 := by rw [IntKind.wrap_i64] <;> omega
      clear hi2 htk hp hstuck hneg hfar hget h44 hkl hf hle hstp hXd hRd
      go_wp2_with fail
      refine hc0.mono ?_
      rintro e w1 ⟨rfl, n, rfl⟩
      go_wp2_with fail
      refine (hint n).mono ?_
      rintro e w2 ⟨rfl, hb2⟩
      have hb2' := below_of_drewN hb2
      have O2 := own_below hown hb2'
      have B2 := hbw.trans (hb2'.mono hzo)
      go_wp2_with (at_builtin; refine wpList_append_own _ rfl _ _ 56 rfl w.heap.size 9 i0 (.string ⟨#[]⟩) 1 16 Tryd.underlying56 hi hz0 hz1 hz2 rfl (by decide) _ _ _ rfl (O2.alloc _) ⟨w2.heap.size, 0, none⟩ 1 1 [.string X] rfl rfl ?c1 ?c2 ?c3 ?c4 ?c5 ?_)
      case c1 =>
        intro j u hj
        match j, hj with
        | 0, hj => simp at hj; subst hj; simp [Addr.add]
      case c2 => intro u hu; simp at hu; subst hu; rfl
      case c3 => unfold maxLen; omega
      case c4 => omega
      case c5 => have := B2.size; simp; omega
      intro v' w3 O3 hgrow _
      have B3 : Below w.heap.size w w3 := (B2.alloc B2.size _).grown hgrow (by have := B2.size; simp; omega) (fun k hk => (O2.lt k hk).1)
      have O4 : w3.ownsRow w.heap.size 9 1 v' (ss ++ [X]).length ((ss ++ [X]).map Value.string) := by simpa using O3
      clear O3 hgrow
      go_wp2_with fail
      try rw [hRq]
      go_roundw
      case rel =>
        refine ⟨R, ss ++ [X], rfl, Lib.hid ?_, by simp only [List.length_append, List.length_cons, List.length_nil]; omega, O4, B3⟩
        rw [texts_snoc]; exact HSTP.out
      case measure => simp only [lenOf]; omega
end Go.Proofs.YtimodohcihnoiaaDoor.Ro

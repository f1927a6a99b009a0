/-
  The document's page: the one at the front of a text. Conditions: texts at most 2^47 bytes.
-/
import Derived.Test.YtglkapamkigdhaaGreatDoorRPage
import Derived.Test.YtglkapamkigdhaaGreatDoorPagesAll
import Derived.Test.YtglkapamkigdhaaGreatDoorPage
import Derived.Test.YtglkapamkigdhaaGreatDoorRInt
import Derived.Test.YtglkapamkigdhaaGreatDoorRFirst
namespace Go.Proofs.YtglkapamkigdhaaGreatDoor
open Go.RowKit M

/-- what the document's page answers of the kind K, where o is what any page at the front is -/
def DPg (K : Text) (o : Option (Text × Int × Text × Text)) (e : Ending) : Prop :=
  (∃ n t r, o = some (K, n, t, r) ∧ e = .returned (.tuple #[.int .i64 n, str t, str r, .bool true])) ∨
  ((∀ n t r, o ≠ some (K, n, t, r)) ∧ ∃ n a b, e = .returned (.tuple #[.int .i64 n, .string a, .string b, .bool false]))
theorem DPg.no {K : Text} {o : Option (Text × Int × Text × Text)} (n : Int) (a b : ByteArray) (h : ∀ n t r, o ≠ some (K, n, t, r)) : DPg K o (.returned (.tuple #[.int .i64 n, .string a, .string b, .bool false])) := .inr ⟨h, n, a, b, rfl⟩

set_option maxHeartbeats 16000000 in
set_option maxRecDepth 100000 in
theorem rdpage_any (D s : ByteArray) (w : World) (hs : s.size ≤ 140737488355328) :
    Calls Tryz.prog 60 #[.string D, .string s] w fun e w' => DPg D.data.toList (anyT s.data.toList) e ∧ Below w.heap.size w w' := by
  have c1 := fun w => rfirst_any s w hs
  cases hf : firstT s.data.toList with
  | none =>
    have hno := DPg.no (K := D.data.toList) (o := anyT s.data.toList) 0 ⟨#[]⟩ ⟨#[]⟩ (by rw [any_first hf]; intro _ _ _ h; cases h)
    rw [hf] at c1
    unfold firstR at c1
    simp only at c1
    clear hf
    go_enter Tryz.func60, Tryz.ntmps60
    go_wp2_with fail
    refine (c1 _).mono ?_
    rintro e w1 ⟨rfl, b1⟩
    go_wp2_with fail
    exact bodyPost_ret (by simp [results, Tryz.results60, go_sem]) rfl ⟨hno, b1⟩
  | some p =>
    obtain ⟨x, r⟩ := p
    obtain ⟨X, R, hfr, hX, hR⟩ := first_is s hf
    have hxl := (first_spec hf).2
    have hsn := strand_length x
    have hXs : X.size ≤ 1048576 := by have : X.data.toList.length = X.size := by simp
                                      rw [hX] at this; omega
    rw [hfr] at c1
    have c2 := fun w => ropen_any X w (by omega)
    rw [hX] at c2
    cases ho : openT x with
    | none =>
      have hno := DPg.no (K := D.data.toList) (o := anyT s.data.toList) 0 ⟨#[]⟩ ⟨#[]⟩ (by rw [any_open hf ho]; intro _ _ _ h; cases h)
      rw [ho] at c2
      unfold openR at c2
      simp only at c2
      clear hf ho hfr hxl hsn hX hR
      go_enter Tryz.func60, Tryz.ntmps60
      go_wp2_with fail
      refine (c1 _).mono ?_
      rintro e w1 ⟨rfl, b1⟩
      go_wp2_with fail
      refine (c2 _).mono ?_
      rintro e w' ⟨rfl, rfl⟩
      go_wp2_with fail
      exact bodyPost_ret (by simp [results, Tryz.results60, go_sem]) rfl ⟨hno, b1⟩
    | some y =>
      obtain ⟨Y, hY⟩ : ∃ Y : ByteArray, ⟨y.toArray⟩ = Y := ⟨_, rfl⟩
      obtain rfl : Y.data.toList = y := by rw [← hY]
      have hys : (sealT Y.data.toList).length = Y.data.toList.length + 8 := sealT_length _
      rw [open_spec ho] at hys
      have hYs : Y.size ≤ 1048576 := by have : Y.data.toList.length = Y.size := by simp
                                        omega
      rw [ho] at c2
      unfold openR at c2
      simp only [str_ba] at c2
      have c3 := fun w => runtie_any Y w (by omega)
      cases hu : untieT Y.data.toList with
      | none =>
        have hno := DPg.no (K := D.data.toList) (o := anyT s.data.toList) 0 ⟨#[]⟩ ⟨#[]⟩ (by rw [any_untie hf ho hu]; intro _ _ _ h; cases h)
        rw [hu] at c3
        unfold UntieOut at c3
        simp only at c3
        clear hf ho hu hfr hxl hsn hX hR hys hY
        go_enter Tryz.func60, Tryz.ntmps60
        go_wp2_with fail
        refine (c1 _).mono ?_
        rintro e w1 ⟨rfl, b1⟩
        go_wp2_with fail
        refine (c2 _).mono ?_
        rintro e w' ⟨rfl, rfl⟩
        go_wp2_with fail
        refine (c3 _).mono ?_
        rintro e w3 ⟨rfl, b3⟩
        have B3 := b1.trans (b3.mono b1.size)
        clear b1 b3
        go_wp2_with fail
        exact bodyPost_ret (by simp [results, Tryz.results60, go_sem]) rfl ⟨hno, B3⟩
      | some l =>
        rw [hu] at c3
        unfold UntieOut at c3
        simp only at c3
        by_cases hl : l.length = 3
        · match l, hl with
          | [k, m, t], _ =>
            obtain ⟨Mm, hMm⟩ : ∃ Mm : ByteArray, ⟨m.toArray⟩ = Mm := ⟨_, rfl⟩
            obtain rfl : Mm.data.toList = m := by rw [← hMm]
            obtain ⟨T, hT⟩ : ∃ T : ByteArray, ⟨t.toArray⟩ = T := ⟨_, rfl⟩
            obtain rfl : T.data.toList = t := by rw [← hT]
            obtain ⟨K, hK⟩ : ∃ K : ByteArray, ⟨k.toArray⟩ = K := ⟨_, rfl⟩
            obtain rfl : K.data.toList = k := by rw [← hK]
            clear hMm hT hK
            have hlens := tie_mem_length (untie_spec hu)
            have hMs : Mm.size ≤ 1048576 := hlens.1
            have hTs : T.size ≤ 1048576 := hlens.2
            have c4 := fun w => rint_any Mm w (by omega)
            have c3' : ∀ w, Calls Tryz.prog 69 #[.string Y] w fun e w' => (∃ (g o c : Nat), e = .returned (.tuple #[.slice (some ⟨g, o, none⟩) 3 c, .int .i64 0]) ∧ g < w'.heap.size ∧ w'.cell? ⟨g, o, none⟩ = some (.string K) ∧ w'.cell? ⟨g, o + 1, none⟩ = some (.string Mm) ∧ w'.cell? ⟨g, o + 2, none⟩ = some (.string T)) ∧ Below w.heap.size w w' := by
              intro w
              refine (c3 w).mono ?_
              rintro e w' ⟨⟨v, ss, rfl, hts, hsl⟩, hb⟩
              obtain ⟨K', M', T', rfl⟩ := three_parts ss (by rw [← texts_length, hts]; rfl)
              simp only [texts, List.map_cons, List.map_nil, List.cons.injEq, and_true] at hts
              obtain ⟨h1, h2, h3⟩ := hts
              obtain rfl := ba_ext h1
              obtain rfl := ba_ext h2
              obtain rfl := ba_ext h3
              obtain ⟨g, o, c, rfl, q⟩ := hsl.three
              exact ⟨⟨g, o, c, rfl, q⟩, hb⟩
            clear c3 hlens
            by_cases hk : K = D
            · subst hk
              have hself := eq_yes (rfl : K = K)
              by_cases ht : T.data.toList.length ≤ 524288
              · have ht' : (T.size : Int) ≤ 524288 := by simp at ht; omega
                have ht2 : ¬ (524288 : Int) < (T.size : Int) := by omega
                cases hi : intT Mm.data.toList with
                | none =>
                  have hno := DPg.no (K := K.data.toList) (o := anyT s.data.toList) 0 T R (by rw [any_int hf ho hu hi]; intro _ _ _ h; cases h)
                  rw [hi] at c4
                  unfold intR at c4
                  simp only at c4
                  clear hf ho hu hfr hxl hsn hX hR hys hY hi ht
                  go_enter Tryz.func60, Tryz.ntmps60
                  go_wp2_with fail
                  refine (c1 _).mono ?_
                  rintro e w1 ⟨rfl, b1⟩
                  go_wp2_with fail
                  refine (c2 _).mono ?_
                  rintro e w' ⟨rfl, rfl⟩
                  go_wp2_with fail
                  refine (c3' _).mono ?_
                  rintro e w3 ⟨⟨g, o, c, rfl, hadb, d0, d1, d2⟩, b3⟩
                  have B3 := b1.trans (b3.mono b1.size)
                  clear b1 b3
                  go_wp2_with fail
                  refine (c4 _).mono ?_
                  rintro e w' ⟨rfl, rfl⟩
                  have e2 := d2
                  go_wp2_with fail
                  go_region
                  go_wp2_with fail
                  exact bodyPost_ret (by simp [results, Tryz.results60, go_sem]) rfl ⟨hno, B3.drew⟩
                | some n =>
                  have hyes : DPg K.data.toList (anyT s.data.toList) (.returned (.tuple #[.int .i64 n, .string T, .string R, .bool true])) := by
                    refine .inl ⟨n, T.data.toList, r, any_good hf ho hu hi ht, ?_⟩
                    rw [str_ba, ← hR, str_ba]
                  rw [hi] at c4
                  unfold intR at c4
                  simp only at c4
                  clear hf ho hu hfr hxl hsn hX hR hys hY hi ht
                  go_enter Tryz.func60, Tryz.ntmps60
                  go_wp2_with fail
                  refine (c1 _).mono ?_
                  rintro e w1 ⟨rfl, b1⟩
                  go_wp2_with fail
                  refine (c2 _).mono ?_
                  rintro e w' ⟨rfl, rfl⟩
                  go_wp2_with fail
                  refine (c3' _).mono ?_
                  rintro e w3 ⟨⟨g, o, c, rfl, hadb, d0, d1, d2⟩, b3⟩
                  have B3 := b1.trans (b3.mono b1.size)
                  clear b1 b3
                  go_wp2_with fail
                  refine (c4 _).mono ?_
                  rintro e w' ⟨rfl, rfl⟩
                  have e2 := d2
                  go_wp2_with fail
                  go_region
                  go_wp2_with fail
                  exact bodyPost_ret (by simp [results, Tryz.results60, go_sem]) rfl ⟨hyes, B3.drew⟩
              · have ht' : ¬ (T.size : Int) ≤ 524288 := by simp at ht; omega
                have ht2 : (524288 : Int) < (T.size : Int) := by omega
                have hno := DPg.no (K := K.data.toList) (o := anyT s.data.toList) 0 ⟨#[]⟩ ⟨#[]⟩ (by rw [any_long hf ho hu ht]; intro _ _ _ h; cases h)
                clear hf ho hu hfr hxl hsn hX hR hys hY ht c4
                go_enter Tryz.func60, Tryz.ntmps60
                go_wp2_with fail
                refine (c1 _).mono ?_
                rintro e w1 ⟨rfl, b1⟩
                go_wp2_with fail
                refine (c2 _).mono ?_
                rintro e w' ⟨rfl, rfl⟩
                go_wp2_with fail
                refine (c3' _).mono ?_
                rintro e w3 ⟨⟨g, o, c, rfl, hadb, d0, d1, d2⟩, b3⟩
                have B3 := b1.trans (b3.mono b1.size)
                clear b1 b3
                go_wp2_with fail
                exact bodyPost_ret (by simp [results, Tryz.results60, go_sem]) rfl ⟨hno, B3⟩
            · have hself := eq_no hk
              have hno := DPg.no (K := D.data.toList) (o := anyT s.data.toList) 0 ⟨#[]⟩ ⟨#[]⟩ (by
                intro n t r h
                refine hk (ba_ext ?_)
                cases hi : intT Mm.data.toList with
                | none => rw [any_int hf ho hu hi] at h; cases h
                | some n' =>
                  by_cases ht : T.data.toList.length ≤ 524288
                  · rw [any_good hf ho hu hi ht] at h
                    injection h with h; injection h with h
                  · rw [any_long hf ho hu ht] at h; cases h)
              clear hf ho hu hfr hxl hsn hX hR hys hY c4 hk
              go_enter Tryz.func60, Tryz.ntmps60
              go_wp2_with fail
              refine (c1 _).mono ?_
              rintro e w1 ⟨rfl, b1⟩
              go_wp2_with fail
              refine (c2 _).mono ?_
              rintro e w' ⟨rfl, rfl⟩
              go_wp2_with fail
              refine (c3' _).mono ?_
              rintro e w3 ⟨⟨g, o, c, rfl, hadb, d0, d1, d2⟩, b3⟩
              have B3 := b1.trans (b3.mono b1.size)
              clear b1 b3
              go_wp2_with fail
              exact bodyPost_ret (by simp [results, Tryz.results60, go_sem]) rfl ⟨hno, B3⟩
        · have hno := DPg.no (K := D.data.toList) (o := anyT s.data.toList) 0 ⟨#[]⟩ ⟨#[]⟩ (by rw [any_len hf ho hu hl]; intro _ _ _ h; cases h)
          clear hf ho hu hfr hxl hsn hX hR hys hY
          go_enter Tryz.func60, Tryz.ntmps60
          go_wp2_with fail
          refine (c1 _).mono ?_
          rintro e w1 ⟨rfl, b1⟩
          go_wp2_with fail
          refine (c2 _).mono ?_
          rintro e w' ⟨rfl, rfl⟩
          go_wp2_with fail
          refine (c3 _).mono ?_
          rintro e w3 ⟨hout, b3⟩
          have B3 := b1.trans (b3.mono b1.size)
          clear b1 b3
          obtain ⟨v, ss, rfl, hts, hsl⟩ := hout
          obtain ⟨A, c, rfl⟩ := hsl.form
          have hne : ((ss.length : Int) != 3) = true := by
            have : ss.length ≠ 3 := by rw [← hts, texts_length] at hl; exact hl
            simp; omega
          clear hl hts hsl
          go_wp2_with fail
          exact bodyPost_ret (by simp [results, Tryz.results60, go_sem]) rfl ⟨hno, B3⟩

end Go.Proofs.YtglkapamkigdhaaGreatDoor

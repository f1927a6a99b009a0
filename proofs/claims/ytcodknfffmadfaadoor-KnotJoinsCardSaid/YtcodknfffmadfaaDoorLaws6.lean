/-
  The law KnotJoins, walked: it answers true, at every argument. Condition: lists and lengths below 2^47; the library's variables hold what their types allow.
-/
import Derived.Test.YtcodknfffmadfaaDoorLaws5
namespace Go.Proofs.YtcodknfffmadfaaDoor
open Go.RowKit M

/-- a list of strings as an append finds it -/
def ArgAt (w : World) (y : Value) (ys : List ByteArray) : Prop :=
  (y = .slice none 0 0 ∧ ys = []) ∨ ∃ ad c, y = .slice (some ad) ys.length c ∧ ∀ j u, (ys.map Value.string)[j]? = some u → w.cell? (ad.add j) = some u
theorem ArgSL.at {w w' : World} {v : Value} {ss : List ByteArray} (h : ArgSL w v ss) (hb : Below w.heap.size w w') : ArgAt w' v ss := by
  cases h with
  | nil => exact .inl ⟨rfl, rfl⟩
  | some ad c ss hle h => exact .inr ⟨ad, c, rfl, news_of h hb⟩

theorem wpList_append_arg {w : World} {ops : Array Oper} {rest : List Oper} {o : Oper} {a : Act} {Q : Exit → Act → World → Prop} (hw : Region.wanted o (yielded ops a.tmps) = true) (s x : Operand)
    (ho : o.op = .call { callee := .builtin .append, args := #[s, x], argTypes := #[31, 31] }) (base : Nat) (v : Value) (xs : List ByteArray) (hs : a.eval s = v)
    (hown : w.ownsRow base 9 1 v xs.length (xs.map Value.string)) (hbase : base ≤ w.heap.size) (y : Value) (ys : List ByteArray) (hx : a.eval x = y) (hy : ArgAt w y ys) (hlen : xs.length + ys.length ≤ 1000000)
    (h : ∀ v' w', w'.ownsRow base 9 1 v' (xs ++ ys).length ((xs ++ ys).map Value.string) → Below base w w' → wpList Tryd.prog ops Q rest (a.put o.dst v') w') : wpList Tryd.prog ops Q (o :: rest) a w := by
  obtain ⟨i0, hi, hz0, hz1, hz2⟩ := info_parts infoStr
  refine wpList_step fun K hK => ?_
  rw [if_pos hw]
  rcases hy with ⟨rfl, rfl⟩ | ⟨ad, c, rfl, hn⟩
  · have hrun := run_append_owned_none (P := Tryd.prog) (w := w) base 31 o.type 9 i0 1 Tryd.underlying31 hi v xs.length (xs.map Value.string) hown
    unfold Oper.wp
    simp [execOp, ho, resolve, invoke, builtin, hs, hx, hrun, Result.andThen]
    exact hK _ _ (h v w (by simpa using hown) (Below.refl _ w))
  · refine wp_append_own w s x 31 ho base 9 i0 (.string ⟨#[]⟩) 1 16 Tryd.underlying31 hi hz0 hz1 hz2 rfl (by decide) v xs.length (xs.map Value.string) hs hown ad ys.length c (ys.map Value.string) hx (by simp) hn ?_ (by unfold maxLen; omega) (by omega) hbase ?_
    · intro u hu; simp at hu; obtain ⟨z, _, rfl⟩ := hu; rfl
    · intro v' w' h2 h3 _
      exact hK _ _ (h v' w' (by simpa using h2) ((Below.refl _ w).grown h3 hbase (fun k hk => (hown.lt k hk).1)))

theorem texts_append (a b : List ByteArray) : texts (a ++ b) = texts a ++ texts b := by simp [texts]

set_option maxHeartbeats 8000000 in
set_option maxRecDepth 100000 in
theorem walk_joins (v v2 : Value) (ss tt : List ByteArray) (w : World) (hv : ArgSL w v ss) (hv2 : ArgSL w v2 tt) (hl : ss.length ≤ 140737488355328) (hs : ∀ s ∈ ss, s.size ≤ 140737488355328)
    (hl2 : tt.length ≤ 140737488355328) (hs2 : ∀ s ∈ tt, s.size ≤ 140737488355328) (hg : Good w) :
    Calls Tryd.prog 9 #[v, v2] w fun e w' => e = .returned (.bool true) ∧ Below w.heap.size w w' := by
  have hsl := hv.sl
  have hsl2 := hv2.sl
  have cs := fun w hv => small_any v ss w hv hl hs
  have cs2 := fun w hv => small_any v2 tt w hv hl2 hs2
  cases hb : smallB ss with
  | false =>
    rw [hb] at cs
    go_enter Tryd.func9, Tryd.ntmps9
    go_wp2_with fail
    refine (cs _ hsl).mono ?_
    rintro e w' ⟨rfl, rfl⟩
    go_wp2_with fail
    refine (live_any _ hg).mono ?_
    rintro e w1 ⟨rfl, b1⟩
    go_wp2_with fail
    go_ret
    exact ⟨rfl, b1⟩
  | true =>
    cases hb2 : smallB tt with
    | false =>
      rw [hb] at cs
      rw [hb2] at cs2
      go_enter Tryd.func9, Tryd.ntmps9
      go_wp2_with fail
      refine (cs _ hsl).mono ?_
      rintro e w' ⟨rfl, rfl⟩
      go_wp2_with fail
      refine (cs2 _ hsl2).mono ?_
      rintro e w' ⟨rfl, rfl⟩
      go_wp2_with fail
      refine (live_any _ hg).mono ?_
      rintro e w1 ⟨rfl, b1⟩
      go_wp2_with fail
      go_ret
      exact ⟨rfl, b1⟩
    | true =>
      rw [hb] at cs
      rw [hb2] at cs2
      obtain ⟨hfew, hlen, _⟩ := few_small hb
      obtain ⟨hfew2, hlen2, _⟩ := few_small hb2
      have htl := tie_small hb
      have htl2 := tie_small hb2
      obtain ⟨S, hS⟩ : ∃ S : ByteArray, ⟨(tieT (texts ss)).toArray⟩ = S := ⟨_, rfl⟩
      obtain ⟨T, hT⟩ : ∃ T : ByteArray, ⟨(tieT (texts tt)).toArray⟩ = T := ⟨_, rfl⟩
      have hSs : S.size ≤ 22200 := by rw [← hS]; exact htl
      have hTs : T.size ≤ 22200 := by rw [← hT]; exact htl2
      have cT : ∀ w, SL w w.heap.size v ss → Calls Tryd.prog 18 #[v] w fun e w' => e = .returned (.string S) ∧ Below w.heap.size w w' := fun w hv => by rw [← hS]; exact tie_any v ss w hv hfew
      have cT2 : ∀ w, SL w w.heap.size v2 tt → Calls Tryd.prog 18 #[v2] w fun e w' => e = .returned (.string T) ∧ Below w.heap.size w w' := fun w hv => by rw [← hT]; exact tie_any v2 tt w hv hfew2
      have hst : (S ++ T).data.toList = tieT (texts (ss ++ tt)) := by
        rw [ByteArray.data_append, Array.toList_append, texts_append, tieT_append, ← hS, ← hT]
      have hsz : (S ++ T).size ≤ 44400 := by rw [ByteArray.size_append]; omega
      have hu : untieT (S ++ T).data.toList = some (texts (ss ++ tt)) := untie_some hst (by rw [texts_length, List.length_append]; omega) (by
        have : (S ++ T).data.toList.length = (S ++ T).size := by simp
        omega)
      have cU := fun w hg => untie_any (S ++ T) w (by omega) hg
      rw [hu] at cU
      have c0 : ∀ w, Calls Tryd.prog 18 #[.slice none 0 0] w fun e w' => e = .returned (.string ⟨#[]⟩) ∧ Below w.heap.size w w' := fun w => tie_any _ [] w (SL.nil _ _) ⟨by simp, by simp⟩
      clear hst hu hb hb2 hS hT hsz htl htl2
      go_enter Tryd.func9, Tryd.ntmps9
      go_wp2_with fail
      refine (cs _ hsl).mono ?_
      rintro e w' ⟨rfl, rfl⟩
      go_wp2_with fail
      refine (cs2 _ hsl2).mono ?_
      rintro e w' ⟨rfl, rfl⟩
      go_wp2_with fail
      refine (cT _ hsl).mono ?_
      rintro e w1 ⟨rfl, b1⟩
      have g1 := hg.below b1
      go_wp2_with fail
      refine (cT2 _ ((hsl2.below b1).more b1.size)).mono ?_
      rintro e w2 ⟨rfl, b2'⟩
      have b2 := b1.trans (b2'.mono b1.size)
      have g2 := g1.below b2'
      go_wp2_with fail
      refine (cU _ g2).mono ?_
      rintro e w3 ⟨⟨u, uu, rfl, ht, hu3⟩, b3'⟩
      obtain rfl := texts_inj ht
      have b3 := b2.trans (b3'.mono b2.size)
      have g3 := g2.below b3'
      clear ht
      go_wp2_with fail
      refine (num_of _ _).mono ?_
      rintro e w' ⟨rfl, rfl⟩
      have B3 := b3.alloc b3.size (.cells #[] 9)
      go_wp2_with (first
        | (at_builtin; refine wpList_append_arg rfl (.tmp 30) (.tmp 31) rfl w3.heap.size (.slice (some ⟨w3.heap.size, 0, none⟩) 0 0) [] rfl (own_empty w3) (by simp) v ss rfl (hv.at B3) (by simp; omega) ?_; intro v4 w4 O4 b4')
        | (at_builtin; refine wpList_append_arg rfl (.tmp 32) (.tmp 33) rfl w3.heap.size v4 ([] ++ ss) rfl O4 (by have := b4'.size; simp at this; omega) v2 tt rfl (hv2.at (B3.trans (b4'.mono b3.size))) (by simp; omega) ?_; intro v5 w5 O5 b5'))
      have B4 := B3.trans (b4'.mono b3.size)
      have B5 := B4.trans (b5'.mono b3.size)
      have hz4 : w3.heap.size ≤ w4.heap.size := by have := b4'.size; simp at this; omega
      have hz5 : w3.heap.size ≤ w5.heap.size := by have := b5'.size; omega
      have S5 : SL w5 w5.heap.size v5 (ss ++ tt) := by
        have := SL.of_own O5
        simpa using this
      have hb35 : Below w3.heap.size w3 w5 := (((Below.refl _ w3).alloc (Nat.le_refl _) (.cells #[] 9)).trans b4').trans b5'
      have U5 := (hu3.below hb35).more hz5
      have g5 := g3.below hb35
      have hl12 : (ss ++ tt).length ≤ 1000000000 := by rw [List.length_append]; omega
      clear O4 O5 hu3
      refine (same_any' _ _ _ _ _ U5 S5 hl12 rfl).mono ?_
      rintro e w6 ⟨rfl, b6'⟩
      have b6 := B5.trans (b6'.mono B5.size)
      have g6 := g5.below b6'
      go_wp2_with fail
      refine (c0 _).mono ?_
      rintro e w7 ⟨rfl, b7'⟩
      have b7 := b6.trans (b7'.mono b6.size)
      have g7 := g6.below b7'
      go_wp2_with fail
      refine (live_any _ g7).mono ?_
      rintro e w8 ⟨rfl, b8'⟩
      have b8 := b7.trans (b8'.mono b7.size)
      go_wp2_with fail
      go_ret
      exact ⟨rfl, b8⟩

end Go.Proofs.YtcodknfffmadfaaDoor

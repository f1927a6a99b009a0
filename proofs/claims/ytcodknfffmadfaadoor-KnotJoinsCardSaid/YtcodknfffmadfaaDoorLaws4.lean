/-
  The laws KnotTies, KnotBack and KnotJoins, walked: each answers true, at every argument. Condition: lists and lengths below 2^47; the library's variables hold what their types allow.
-/
import Derived.Test.YtcodknfffmadfaaDoorLive
import Derived.Laws.AppendOwnNone
namespace Go.Proofs.YtcodknfffmadfaaDoor
open Go.RowKit M

theorem few_small {ss : List ByteArray} (h : smallB ss = true) : Few ss ∧ ss.length ≤ 100 ∧ total ss ≤ 20000 := by
  unfold smallB at h
  have h := of_decide_eq_true h
  refine ⟨⟨by omega, fun s hs => ?_⟩, h⟩
  have : ∀ (l : List Nat) (x : Nat), x ∈ l → x ≤ l.sum := by
    intro l x hx
    induction l with
    | nil => cases hx
    | cons y l ih =>
      simp only [List.sum_cons]
      rcases List.mem_cons.1 hx with rfl | hx
      · omega
      · have := ih hx; omega
  have := this _ _ (List.mem_map_of_mem (f := ByteArray.size) hs)
  unfold total at h
  omega

/-- an empty slice of the call's own -/
theorem own_empty (w : World) : (w.alloc (.cells #[] 9)).ownsRow w.heap.size 9 1 (.slice (some ⟨w.heap.size, 0, none⟩) 0 0) 0 [] :=
  ⟨rfl, .inr ⟨w.heap.size, 0, #[], rfl, Nat.le_refl _, heap_alloc_new w _, Nat.le_refl _, by unfold maxLen; omega, rfl, rfl⟩⟩

/-- how a list of strings comes in -/
inductive ArgSL (w : World) : Value → List ByteArray → Prop
  | nil : ArgSL w (.slice none 0 0) []
  | some (ad : Addr) (c : Nat) (ss : List ByteArray) (hle : ss.length ≤ c) (h : SL w w.heap.size (.slice (some ad) ss.length c) ss) : ArgSL w (.slice (some ad) ss.length c) ss
theorem ArgSL.sl {w : World} {v : Value} {ss : List ByteArray} (h : ArgSL w v ss) : SL w w.heap.size v ss := by
  cases h with
  | nil => exact SL.nil _ _
  | some ad c ss hle h => exact h

theorem news_of {w w' : World} {ad : Addr} {n c : Nat} {ss : List ByteArray} (h : SL w w.heap.size (.slice (some ad) n c) ss) (hb : Below w.heap.size w w') :
    ∀ j u, (ss.map Value.string)[j]? = some u → w'.cell? (ad.add j) = some u := by
  intro j u hu
  have hj : j < ss.length := by simpa using (List.getElem?_eq_some_iff.1 hu).1
  obtain ⟨ad', e, hlt, hcell⟩ := h.at_ hj
  injection e with e
  subst e
  rw [hb.cell (by rw [add_block]; exact hlt), hcell]
  simpa [hj] using hu

set_option maxHeartbeats 4000000 in
set_option maxRecDepth 100000 in
theorem walk_ties (v : Value) (ss : List ByteArray) (w : World) (hv : ArgSL w v ss) (hl : ss.length ≤ 140737488355328) (hs : ∀ s ∈ ss, s.size ≤ 140737488355328) (hg : Good w) :
    Calls Tryd.prog 4 #[v] w fun e w' => e = .returned (.bool true) ∧ Below w.heap.size w w' := by
  have hsl := hv.sl
  have cs := fun w hv => small_any v ss w hv hl hs
  cases hb : smallB ss with
  | false =>
    rw [hb] at cs
    go_enter Tryd.func4, Tryd.ntmps4
    go_wp2_with fail
    refine (cs _ hsl).mono ?_
    rintro e w' ⟨rfl, rfl⟩
    go_wp2_with fail
    refine (live_any _ hg).mono ?_
    rintro e w1 ⟨rfl, b1⟩
    go_wp2_with fail
    go_ret
    exact ⟨rfl, b1⟩
  | true =>
    rw [hb] at cs
    obtain ⟨hfew, hlen, htot⟩ := few_small hb
    obtain ⟨i0, hi, hz0, hz1, hz2⟩ := info_parts infoStr
    cases hv with
    | nil =>
      go_enter Tryd.func4, Tryd.ntmps4
      go_wp2_with fail
      refine (cs _ hsl).mono ?_
      rintro e w' ⟨rfl, rfl⟩
      go_wp2_with (at_builtin; refine wpList_append_own_none _ rfl _ _ 31 rfl w.heap.size 9 i0 1 Tryd.underlying31 hi _ 0 [] rfl (own_empty w) rfl ?_)
      have B2 := (Below.refl w.heap.size w).alloc (Nat.le_refl _) (.cells #[] 9)
      have S2 : SL (w.alloc (.cells #[] 9)) (w.alloc (.cells #[] 9)).heap.size (.slice (some ⟨w.heap.size, 0, none⟩) 0 0) [] := SL.of_own (base := w.heap.size) (own_empty w)
      have g2 := hg.below B2
      go_wp2_with fail
      refine (tie_any _ _ _ S2 hfew).mono ?_
      rintro e w3 ⟨rfl, b3'⟩
      have b3 := B2.trans (b3'.mono B2.size)
      have g3 := g2.below b3'
      have hsl3 := (hsl.below b3).more b3.size
      go_wp2_with fail
      refine (rtie_any _ _ _ hsl3 hfew).mono ?_
      rintro e w' ⟨rfl, rfl⟩
      go_wp2_with fail
      refine (live_any _ g3).mono ?_
      rintro e w4 ⟨rfl, b4'⟩
      have b4 := b3.trans (b4'.mono b3.size)
      go_wp2_with fail
      go_ret
      exact ⟨rfl, b4⟩
    | some ad c ss hle hc =>
      go_enter Tryd.func4, Tryd.ntmps4
      go_wp2_with fail
      refine (cs _ hsl).mono ?_
      rintro e w' ⟨rfl, rfl⟩
      go_wp2_with (at_builtin; refine wpList_append_own _ rfl _ _ 31 rfl w.heap.size 9 i0 (.string ⟨#[]⟩) 1 16 Tryd.underlying31 hi hz0 hz1 hz2 rfl (by decide) _ 0 [] rfl (own_empty w) ad ss.length c (ss.map Value.string) rfl ?c0 ?c1 ?c2 ?c3 ?c4 ?c5 ?_)
      case c0 => simp
      case c1 => exact news_of hc ((Below.refl _ w).alloc (Nat.le_refl _) _)
      case c2 => intro u hu; simp at hu; obtain ⟨x, _, rfl⟩ := hu; rfl
      case c3 => unfold maxLen; omega
      case c4 => omega
      case c5 => simp
      intro v' w2 O2 hgrow _
      have B2 : Below w.heap.size w w2 := ((Below.refl _ w).alloc (Nat.le_refl _) (.cells #[] 9)).grown hgrow (by simp) (fun k hk => ((own_empty w).lt k hk).1)
      have S2 : SL w2 w2.heap.size v' ss := SL.of_own (base := w.heap.size) (by simpa using O2)
      clear O2 hgrow
      have g2 := hg.below B2
      go_wp2_with fail
      refine (tie_any _ _ _ S2 hfew).mono ?_
      rintro e w3 ⟨rfl, b3'⟩
      have b3 := B2.trans (b3'.mono B2.size)
      have g3 := g2.below b3'
      have hsl3 := (hsl.below b3).more b3.size
      go_wp2_with fail
      refine (rtie_any _ _ _ hsl3 hfew).mono ?_
      rintro e w' ⟨rfl, rfl⟩
      go_wp2_with fail
      refine (live_any _ g3).mono ?_
      rintro e w4 ⟨rfl, b4'⟩
      have b4 := b3.trans (b4'.mono b3.size)
      go_wp2_with fail
      go_ret
      exact ⟨rfl, b4⟩

end Go.Proofs.YtcodknfffmadfaaDoor

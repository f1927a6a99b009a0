/-
  The laws' own check that the program is alive: it answers true. Condition: the library's variables hold what their types allow.
-/
import Derived.Test.YtcodknfffmadfaaDoorUntie
namespace Go.Proofs.YtcodknfffmadfaaDoor
open Go.RowKit M

abbrev tAB : ByteArray := ⟨#[97, 98]⟩
abbrev tE : ByteArray := ⟨#[]⟩

theorem tie_live : tieT (texts [tAB, tE]) = [50, 58, 97, 98, 44, 48, 58, 44] := by
  have h2 : numT 2 = [50] := by rw [show (2 : Int) = ((2 : Nat) : Int) by rfl, numT_nat, dig_lt (by omega)]; rfl
  have h0 : numT 0 = [48] := by rw [show (0 : Int) = ((0 : Nat) : Int) by rfl, numT_nat, dig_lt (by omega)]; rfl
  simp [texts, tieT, strand, h2, h0]
theorem int_live : intT [48, 48, 55] = none := by
  have h7 : numT 7 = [55] := by rw [show (7 : Int) = ((7 : Nat) : Int) by rfl, numT_nat, dig_lt (by omega)]; rfl
  unfold intT
  rw [if_neg]
  rintro ⟨_, h⟩
  rw [show val [48, 48, 55] = 7 by rfl, h7] at h
  cases h
theorem num_live : numT (-12) = [45, 49, 50] := by
  unfold numT
  rw [if_pos (by omega), show ((-12 : Int)).natAbs = 12 by rfl, dig_ge (by omega), dig_lt (by omega)]; rfl
theorem seal_live : sealT [97] = [97, 48, 48, 54, 50, 48, 48, 54, 50] := by decide
theorem open_live : openT [97, 48, 48, 54, 50, 48, 48, 54, 50] = some [97] := by rw [← seal_live]; exact open_seal _
theorem untie_live : untieT [50, 58, 97, 98, 44, 48, 58, 44] = some (texts [tAB, tE]) := untie_some tie_live.symm (by decide) (by decide)
theorem texts_inj {a b : List ByteArray} (h : texts a = texts b) : a = b := by
  induction a generalizing b with
  | nil => cases b with
    | nil => rfl
    | cons y b => simp [texts] at h
  | cons x a ih => cases b with
    | nil => simp [texts] at h
    | cons y b =>
      simp only [texts, List.map_cons, List.cons.injEq] at h
      rw [bytes_ext h.1, ih h.2]
theorem few_live : Few [tAB, tE] := ⟨by decide, by intro s hs; simp at hs; rcases hs with rfl | rfl <;> decide⟩
theorem sl_live (w : World) : SL (w.alloc (.cells #[.string tAB, .string tE] 9)) (w.alloc (.cells #[.string tAB, .string tE] 9)).heap.size (.slice (some ⟨w.heap.size, 0, none⟩) 2 2) [tAB, tE] := by
  refine ⟨_, _, rfl, fun _ => ⟨⟨w.heap.size, 0, none⟩, rfl, by simp, fun i hi => ?_⟩⟩
  rw [add_plain, Lib.cell_of_heap (heap_alloc_new w _)]
  match i, hi with
  | 0, _ => rfl
  | 1, _ => rfl

/-- The calls of 'live', each at its own arguments. -/
theorem c_tie (w : World) : Calls Tryd.prog 18 #[.slice (some ⟨w.heap.size, 0, none⟩) 2 2] (w.alloc (.cells #[.string tAB, .string tE] 9)) fun e w' => e = .returned (.string ⟨#[50, 58, 97, 98, 44, 48, 58, 44]⟩) ∧ Below w.heap.size w w' :=
  (tie_any _ _ _ (sl_live w) few_live).mono fun e w' ⟨h1, h2⟩ => ⟨by rw [h1, tie_live], ((Below.refl _ w).alloc (Nat.le_refl _) _).trans (h2.mono (by simp))⟩
theorem c_untie (w : World) (hg : Good w) : Calls Tryd.prog 20 #[.string ⟨#[50, 58, 97, 98, 44, 48, 58, 44]⟩] w fun e w' => (∃ v, e = .returned (.tuple #[v, .int .i64 0]) ∧ SL w' w'.heap.size v [tAB, tE]) ∧ Below w.heap.size w w' := by
  have h := untie_any ⟨#[50, 58, 97, 98, 44, 48, 58, 44]⟩ w (by decide) hg
  rw [show (⟨#[50, 58, 97, 98, 44, 48, 58, 44]⟩ : ByteArray).data.toList = [50, 58, 97, 98, 44, 48, 58, 44] from rfl, untie_live] at h
  refine h.mono ?_
  rintro e w' ⟨⟨v, ss, h1, h2, h3⟩, h4⟩
  rw [texts_inj h2] at h3
  exact ⟨⟨v, h1, h3⟩, h4⟩
theorem c_int (w : World) (hg : Good w) : Calls Tryd.prog 12 #[.string ⟨#[48, 48, 55]⟩] w fun e w' => e = .returned (.tuple #[.int .i64 0, .int .i64 10]) ∧ Below w.heap.size w w' := by
  have h := int_any ⟨#[48, 48, 55]⟩ w (by decide) hg
  rw [show (⟨#[48, 48, 55]⟩ : ByteArray).data.toList = [48, 48, 55] from rfl, int_live] at h
  exact h
theorem c_seal (w : World) : Calls Tryd.prog 29 #[.string ⟨#[97]⟩] w fun e w' => e = .returned (.string ⟨#[97, 48, 48, 54, 50, 48, 48, 54, 50]⟩) ∧ Below w.heap.size w w' := by
  have h := seal_any ⟨#[97]⟩ w (by decide)
  rw [show (⟨#[97]⟩ : ByteArray).data.toList = [97] from rfl, seal_live] at h
  exact h
theorem c_open (w : World) : Calls Tryd.prog 25 #[.string ⟨#[97, 48, 48, 54, 50, 48, 48, 54, 50]⟩] w fun e w' => e = .returned (.tuple #[.string ⟨#[97]⟩, .int .i64 0]) ∧ Below w.heap.size w w' := by
  have h := open_any ⟨#[97, 48, 48, 54, 50, 48, 48, 54, 50]⟩ w (by decide)
  rw [show (⟨#[97, 48, 48, 54, 50, 48, 48, 54, 50]⟩ : ByteArray).data.toList = [97, 48, 48, 54, 50, 48, 48, 54, 50] from rfl, open_live] at h
  exact h
theorem c_num (w : World) : Calls Tryd.prog 14 #[.int .i64 (-12)] w fun e w' => e = .returned (.string ⟨#[45, 49, 50]⟩) ∧ Below w.heap.size w w' := by
  have h := num_any (-12) w (by decide)
  rw [num_live] at h
  exact h
theorem c_same (v : Value) (w : World) (hv : SL w w.heap.size v [tAB, tE]) : Calls Tryd.prog 24 #[v, .slice (some ⟨w.heap.size, 0, none⟩) 2 2] (w.alloc (.cells #[.string tAB, .string tE] 9)) fun e w' => e = .returned (.bool true) ∧ Below w.heap.size w w' := by
  have ha : SL (w.alloc (.cells #[.string tAB, .string tE] 9)) (w.alloc (.cells #[.string tAB, .string tE] 9)).heap.size v [tAB, tE] :=
    (hv.below ((Below.refl _ w).alloc (Nat.le_refl _) _)).more (by simp)
  refine (same_any _ _ _ _ _ ha (sl_live w) (by decide) (by decide)).mono ?_
  rintro e w' ⟨h1, h2⟩
  exact ⟨by rw [h1]; simp, ((Below.refl _ w).alloc (Nat.le_refl _) _).trans (h2.mono (by simp))⟩

set_option maxHeartbeats 2000000 in
set_option maxRecDepth 100000 in
theorem live_any (w : World) (hg : Good w) : Calls Tryd.prog 11 #[] w fun e w' => e = .returned (.bool true) ∧ Below w.heap.size w w' := by
  go_enter Tryd.func11, Tryd.ntmps11
  go_wp2_with fail
  refine (c_tie _).mono ?_
  rintro e w1 ⟨rfl, b1⟩
  have g1 := hg.below b1
  go_wp2_with fail
  refine (c_untie _ g1).mono ?_
  rintro e w2 ⟨⟨v, rfl, hv2⟩, b2'⟩
  have g2 := g1.below b2'
  have b2 := b1.trans (b2'.mono b1.size)
  go_wp2_with fail
  refine (c_int _ g2).mono ?_
  rintro e w3 ⟨rfl, b3'⟩
  have b3 := b2.trans (b3'.mono b2.size)
  have hv3 := (hv2.below b3').more b3'.size
  clear hv2
  go_wp2_with fail
  refine (c_seal _).mono ?_
  rintro e w4 ⟨rfl, b4'⟩
  have b4 := b3.trans (b4'.mono b3.size)
  have hv4 := (hv3.below b4').more b4'.size
  clear hv3
  go_wp2_with fail
  refine (c_open _).mono ?_
  rintro e w5 ⟨rfl, b5'⟩
  have b5 := b4.trans (b5'.mono b4.size)
  have hv5 := (hv4.below b5').more b5'.size
  clear hv4
  go_wp2_with fail
  refine (c_tie _).mono ?_
  rintro e w6 ⟨rfl, b6'⟩
  have b6 := b5.trans (b6'.mono b5.size)
  have hv6 := (hv5.below b6').more b6'.size
  clear hv5
  go_wp2_with fail
  refine (num_of _ _).mono ?_
  rintro e w' ⟨rfl, rfl⟩
  go_wp2_with fail
  refine (c_same v _ hv6).mono ?_
  rintro e w7 ⟨rfl, b7'⟩
  have b7 := b6.trans (b7'.mono b6.size)
  go_wp2_with fail
  refine (num_of _ _).mono ?_
  rintro e w' ⟨rfl, rfl⟩
  go_wp2_with fail
  refine (c_seal _).mono ?_
  rintro e w8 ⟨rfl, b8'⟩
  have b8 := b7.trans (b8'.mono b7.size)
  go_wp2_with fail
  refine (num_of _ _).mono ?_
  rintro e w' ⟨rfl, rfl⟩
  go_wp2_with fail
  refine (c_num _).mono ?_
  rintro e w9 ⟨rfl, b9'⟩
  have b9 := b8.trans (b9'.mono b8.size)
  go_wp2_with fail
  go_ret
  exact ⟨rfl, b9⟩

end Go.Proofs.YtcodknfffmadfaaDoor

/-
  The document's Page. Conditions: a short kind, a text of at most 2^19 bytes, a number of 64 bits.
-/
import Derived.Test.YtglkapamkigdhaaGreatDoorBytes
namespace Go.Proofs.YtglkapamkigdhaaGreatDoor
open Go.RowKit M

set_option maxHeartbeats 8000000 in
set_option maxRecDepth 100000 in
theorem rpage_any (k t : ByteArray) (n : Int) (w : World) (hn : inR n) (hk : k.size ≤ 4) (ht : t.size ≤ 524288) :
    Calls Tryz.prog 26 #[.string k, .int .i64 n, .string t] w fun e w' => e = .returned (str (pageT k.data.toList n t.data.toList)) ∧ Below w.heap.size w w' := by
  have hnl := numT_length hn
  obtain ⟨X, hX⟩ : ∃ X : ByteArray, ⟨(numT n).toArray⟩ = X := ⟨_, rfl⟩
  have hXd : X.data.toList = numT n := by rw [← hX]
  have hXs : X.size ≤ 20 := by have : X.data.toList.length = X.size := by simp
                               rw [hXd] at this; omega
  have c1 := fun w => rnum_any n w hn
  rw [show str (numT n) = .string X from by rw [← hX]] at c1
  obtain ⟨Y, hY⟩ : ∃ Y : ByteArray, ⟨(bodyT k.data.toList n t.data.toList).toArray⟩ = Y := ⟨_, rfl⟩
  have hYd : Y.data.toList = bodyT k.data.toList n t.data.toList := by rw [← hY]
  have hYs : Y.size ≤ 524400 := by
    have h1 := body_length (kind := k.data.toList) (n := n) (s := t.data.toList) (by simp; omega) hn (by simp; omega)
    have : Y.data.toList.length = Y.size := by simp
    rw [hYd] at this; omega
  have hkt : texts [k, X, t] = [k.data.toList, numT n, t.data.toList] := by simp [texts, hXd]
  have c2 : ∀ w : World, Calls Tryz.prog 54 #[.slice (some ⟨w.heap.size, 0, none⟩) 3 3] (w.alloc (.cells #[.string k, .string X, .string t] 9)) fun e w' => e = .returned (.string Y) ∧ (w.alloc (.cells #[.string k, .string X, .string t] 9)) = w' := by
    intro w
    have hsl := SL.new w [k, X, t]
    have := rtie_any _ [k, X, t] (w.alloc (.cells #[.string k, .string X, .string t] 9)) (by simpa using hsl) ⟨by simp, by intro s hs; simp at hs; rcases hs with rfl | rfl | rfl <;> omega⟩
    rw [hkt] at this
    refine this.mono ?_
    rintro e w' ⟨rfl, b⟩
    exact ⟨by rw [← hY]; rfl, b⟩
  obtain ⟨Z, hZ⟩ : ∃ Z : ByteArray, ⟨(sealT Y.data.toList).toArray⟩ = Z := ⟨_, rfl⟩
  have hZd : Z.data.toList = sealT Y.data.toList := by rw [← hZ]
  have hZs : Z.size ≤ 524408 := by
    have h1 := sealT_length Y.data.toList
    have : Z.data.toList.length = Z.size := by simp
    have h2 : Y.data.toList.length = Y.size := by simp
    rw [hZd] at this; omega
  have c3 := fun w => rseal_any Y w (by omega)
  rw [show str (sealT Y.data.toList) = .string Z from by rw [← hZ]] at c3
  have c4 : ∀ w : World, Calls Tryz.prog 52 #[.string Z] w fun e w' => e = .returned (str (pageT k.data.toList n t.data.toList)) ∧ w = w' := by
    intro w
    have := rstrand_any Z w (by omega)
    rw [show pageT k.data.toList n t.data.toList = strand Z.data.toList from by unfold pageT; rw [hZd, hYd]]
    exact this
  clear hX hXd hY hYd hZ hZd hkt hnl
  go_enter Tryz.func26, Tryz.ntmps26
  go_wp2_with fail
  refine (c1 _).mono ?_
  rintro e w' ⟨rfl, rfl⟩
  go_wp2_with fail
  refine (c2 _).mono ?_
  rintro e w2 ⟨rfl, rfl⟩
  go_wp2_with fail
  refine (c3 _).mono ?_
  rintro e w3 ⟨rfl, rfl⟩
  go_wp2_with fail
  refine (c4 _).mono ?_
  rintro e w4 ⟨rfl, rfl⟩
  go_wp2_with fail
  go_ret
  exact ⟨rfl, ((Below.refl _ w).alloc (Nat.le_refl _) _)⟩

end Go.Proofs.YtglkapamkigdhaaGreatDoor

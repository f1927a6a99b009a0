/-
  A page's bytes, as the program writes them. Conditions: a short kind, a text of at most 2^19 bytes, a number of 64 bits.
-/
import Derived.Test.YtglkapamkigdhaaGreatDoorPage
import Derived.Test.YtglkapamkigdhaaGreatDoorTail
namespace Go.Proofs.YtglkapamkigdhaaGreatDoor
open Go.RowKit M

/-- a slice that was just built -/
theorem SL.new (w : World) (ss : List ByteArray) : SL (w.alloc (.cells (ss.map Value.string).toArray 9)) (w.heap.size + 1) (.slice (some ⟨w.heap.size, 0, none⟩) ss.length ss.length) ss := by
  refine ⟨_, _, rfl, fun _ => ⟨_, rfl, Nat.lt_succ_self _, fun i hi => ?_⟩⟩
  rw [Addr.add_lit, Nat.zero_add, World.cell?_alloc_at _ _ _ _ rfl]
  simp [hi]

set_option maxHeartbeats 8000000 in
set_option maxRecDepth 100000 in
theorem bytes_any (k t : ByteArray) (n : Int) (w : World) (hn : inR n) (hk : k.size ≤ 4) (ht : t.size ≤ 524288) :
    Calls Tryz.prog 61 #[pgV k n t] w fun e w' => e = .returned (str (pageT k.data.toList n t.data.toList)) ∧ Below w.heap.size w w' := by
  have hnl := numT_length hn
  obtain ⟨X, hX⟩ : ∃ X : ByteArray, ⟨(numT n).toArray⟩ = X := ⟨_, rfl⟩
  have hXd : X.data.toList = numT n := by rw [← hX]
  have hXs : X.size ≤ 20 := by have : X.data.toList.length = X.size := by simp
                               rw [hXd] at this; omega
  have c1 := fun w => num_any n w hn
  rw [show str (numT n) = .string X from by rw [← hX]] at c1
  obtain ⟨Y, hY⟩ : ∃ Y : ByteArray, ⟨(bodyT k.data.toList n t.data.toList).toArray⟩ = Y := ⟨_, rfl⟩
  have hYd : Y.data.toList = bodyT k.data.toList n t.data.toList := by rw [← hY]
  have hYs : Y.size ≤ 524400 := by
    have h1 := body_length (kind := k.data.toList) (n := n) (s := t.data.toList) (by simp; omega) hn (by simp; omega)
    have : Y.data.toList.length = Y.size := by simp
    rw [hYd] at this; omega
  have hkt : texts [k, X, t] = [k.data.toList, numT n, t.data.toList] := by simp [texts, hXd]
  have c2 : ∀ w : World, Calls Tryz.prog 71 #[.slice (some ⟨w.heap.size, 0, none⟩) 3 3] (w.alloc (.cells #[.string k, .string X, .string t] 9)) fun e w' => e = .returned (.string Y) ∧ Below (w.heap.size + 1) (w.alloc (.cells #[.string k, .string X, .string t] 9)) w' := by
    intro w
    have hsl := SL.new w [k, X, t]
    have := tie_any _ [k, X, t] (w.alloc (.cells #[.string k, .string X, .string t] 9)) (by simpa using hsl) ⟨by simp, by intro s hs; simp at hs; rcases hs with rfl | rfl | rfl <;> omega⟩
    rw [hkt] at this
    refine this.mono ?_
    rintro e w' ⟨rfl, b⟩
    exact ⟨by rw [← hY]; rfl, by simpa using b⟩
  obtain ⟨Z, hZ⟩ : ∃ Z : ByteArray, ⟨(sealT Y.data.toList).toArray⟩ = Z := ⟨_, rfl⟩
  have hZd : Z.data.toList = sealT Y.data.toList := by rw [← hZ]
  have hZs : Z.size ≤ 524408 := by
    have h1 := sealT_length Y.data.toList
    have : Z.data.toList.length = Z.size := by simp
    have h2 : Y.data.toList.length = Y.size := by simp
    rw [hZd] at this; omega
  have c3 := fun w => seal_any Y w (by omega)
  rw [show str (sealT Y.data.toList) = .string Z from by rw [← hZ]] at c3
  have c4 : ∀ w : World, Calls Tryz.prog 71 #[.slice (some ⟨w.heap.size, 0, none⟩) 1 1] (w.alloc (.cells #[.string Z] 9)) fun e w' => e = .returned (str (pageT k.data.toList n t.data.toList)) ∧ Below (w.heap.size + 1) (w.alloc (.cells #[.string Z] 9)) w' := by
    intro w
    have hsl := SL.new w [Z]
    have := tie_any _ [Z] (w.alloc (.cells #[.string Z] 9)) (by simpa using hsl) ⟨by simp, by intro s hs; simp at hs; subst hs; omega⟩
    refine this.mono ?_
    rintro e w' ⟨rfl, b⟩
    refine ⟨?_, by simpa using b⟩
    show Ending.returned (str _) = _
    congr 2
    unfold pageT
    rw [← hYd, ← hZd]
    simp [texts, tieT]
  clear hX hXd hY hYd hZ hZd hkt hnl
  go_enter Tryz.func61, Tryz.ntmps61
  go_wp2
  have hbx : Below w.heap.size w (w.alloc (.cells #[.string k, .int .i64 n, .string t] 88)) := (Below.refl _ w).alloc (Nat.le_refl _) _
  have hcell : ∀ wx, Below (w.heap.size + 1) (w.alloc (.cells #[.string k, .int .i64 n, .string t] 88)) wx → wx.cell? ⟨w.heap.size, 0, none⟩ = some (.string k) ∧ wx.cell? ⟨w.heap.size, 1, none⟩ = some (.int .i64 n) ∧ wx.cell? ⟨w.heap.size, 2, none⟩ = some (.string t) := by
    intro wx hx
    refine ⟨?_, ?_, ?_⟩
    · rw [hx.cell (p := ⟨w.heap.size, 0, none⟩) (Nat.lt_succ_self _), World.cell?_alloc_at _ _ _ _ rfl]; rfl
    · rw [hx.cell (p := ⟨w.heap.size, 1, none⟩) (Nat.lt_succ_self _), World.cell?_alloc_at _ _ _ _ rfl]; rfl
    · rw [hx.cell (p := ⟨w.heap.size, 2, none⟩) (Nat.lt_succ_self _), World.cell?_alloc_at _ _ _ _ rfl]; rfl
  have P_num : ∀ (L L' : Nat → Bool) wx, Below (w.heap.size + 1) (w.alloc (.cells #[.string k, .int .i64 n, .string t] 88)) wx → Calls Tryz.prog 73 #[.int .i64 n] wx fun e w' => e = .returned (.string X) ∧ Below (w.heap.size + 1) (w.alloc (.cells #[.string k, .int .i64 n, .string t] 88)) w' := by
    intro L L' wx hx
    refine (c1 wx).mono ?_
    rintro e w' ⟨rfl, b⟩
    exact ⟨rfl, hx.trans (b.mono (by have := hx.size; simpa using this))⟩
  refine Rl.St.wp_region_tail 7 (fun _ wx => Below (w.heap.size + 1) (w.alloc (.cells #[.string k, .int .i64 n, .string t] 88)) wx) (by kernel_rfl) (by kernel_rfl) (by kernel_rfl) (by kernel_rfl) (by decide) (Below.refl _ _).drew ?_
  simp only [List.take, List.drop]
  repeat (first
    | (apply Rl.St.step_give
       · rfl
       · intro L wx hS hcl hrd
         obtain ⟨d0, d1, d2⟩ := hcell wx hS
         go_simp
         try with_reducible rfl
       · exact fun L wx hS => hS
       simp only [Act.put, List.setIfInBounds_toArray, List.set_cons_zero, List.set_cons_succ])
    | (apply Rl.St.step_into
       · rfl
       · intro wx
         go_simp
         exact ⟨rfl, rfl⟩
       · exact fun L wx hS hcl hrd => P_num L L wx hS
       simp only [Act.put, List.setIfInBounds_toArray, List.set_cons_zero, List.set_cons_succ]))
  refine Rl.St.step_last ?_
  intro L wx hS _
  clear P_num c1 hcell
  have q0 : Below w.heap.size w wx := hbx.trans (hS.mono (Nat.le_succ _))
  clear hbx hS
  go_wp2_with fail
  refine (c2 _).mono ?_
  rintro e w2 ⟨rfl, b2⟩
  have q2 : Below w.heap.size w w2 := (q0.alloc q0.size _).trans (b2.mono (by have := q0.size; omega))
  clear b2
  go_wp2_with fail
  refine (c3 _).mono ?_
  rintro e w3 ⟨rfl, b3⟩
  have q3 := q2.trans (b3.mono q2.size)
  clear b3
  go_wp2_with fail
  refine (c4 _).mono ?_
  rintro e w4 ⟨rfl, b4⟩
  have q4 : Below w.heap.size w w4 := (q3.alloc q3.size _).trans (b4.mono (by have := q3.size; omega))
  go_wp2_with fail
  go_ret
  exact ⟨rfl, q4⟩

end Go.Proofs.YtglkapamkigdhaaGreatDoor

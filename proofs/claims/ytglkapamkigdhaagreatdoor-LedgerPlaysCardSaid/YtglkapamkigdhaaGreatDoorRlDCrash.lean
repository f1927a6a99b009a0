/-
  The document's own Crash of a reel, and an act of the document's, told of the model. Conditions: what may be of a reel; texts at most 2^46 bytes; fewer than 2^62 operations.
-/
import Derived.Test.YtglkapamkigdhaaGreatDoorRlDll
import Derived.Test.YtglkapamkigdhaaGreatDoorRlStage
namespace Go.Proofs.YtglkapamkigdhaaGreatDoor.Rl
open Go.RowKit

theorem Tape.crash_none (T : Tape) (keep : Int) (u : UInt8) (h : T.kept keep = 0) : T.crash keep u = ⟨T.s.take T.k, T.k⟩ := by
  unfold Tape.crash
  rw [if_pos h, h]
  rfl
theorem Tape.crash_some (T : Tape) (keep : Int) (u : UInt8) (n i : Nat) (hi : i = n - 1) (hn : n = T.k + T.kept keep) (hk : T.k < n) (hl : n ≤ T.s.length) (hj : i < T.s.length) : T.crash keep u = ⟨(T.s.take n).set i (T.s[i] ^^^ u), n⟩ := by
  subst hi
  have hlen : (T.s.take n).length = n := by rw [List.length_take]; omega
  unfold Tape.crash
  rw [if_neg (by omega), ← hn, modify_set _ _ _ (by rw [hlen]; omega)]
  simp

structure DocRow (w w' : World) (S : Text) (n : Nat) : Prop where
  below : Below w.heap.size w w'
  size : w'.heap.size = w.heap.size + 1
  cell : ∀ j (_ : j < n) (h : j < S.length), w'.cell? ⟨w.heap.size, j, none⟩ = some (.int .u8 (S[j].toNat : Int))
  frozen : ∀ j, j < n → w'.frozen? ⟨w.heap.size, j, none⟩ = false
theorem doc_row (w : World) (S : Text) (n : Nat) (hn : n ≤ S.length) : ∃ (cap : Nat) (w' : World), (convert 9 61 (.string (tx (S.take n)))).run Tryz.prog w = .ok (.slice (some ⟨w.heap.size, 0, none⟩) n cap) w' ∧ n ≤ cap ∧ DocRow w w' S n := by
  obtain ⟨cap, w', hc, hN, hs⟩ := new_row' w (tx (S.take n))
  have hz : (tx (S.take n)).size = n := by rw [tx_size, List.length_take]; omega
  rw [hz] at hc
  refine ⟨cap, w', hc, by rw [← hz]; exact hN.le, hN.below, hs, fun j hj h => ?_, fun j hj => hN.frozen j (by rw [hz]; exact hj)⟩
  rw [hN.cell j (by rw [hz]; exact hj), getD_list _ _ (by show j < (S.take n).length; rw [List.length_take]; omega)]
  simp
theorem doc_back {w : World} {g cap n : Nat} (V : Text) (hV : V.length = n) (h : ∀ j (hj : j < V.length), w.cell? ⟨g, j, none⟩ = some (.int .u8 (V[j].toNat : Int))) :
    (convert 61 9 (.slice (some ⟨g, 0, none⟩) n cap)).run Tryz.prog w = .ok (.string (tx V)) w := by
  subst hV
  exact row_text V h

/-- the reel while the document's crash goes from tape to tape -/
def crSt (m : M) (k0 k1 : Int) (u : UInt8) : Nat → M
  | 0 => { m with left := -1, off := false }
  | 1 => { m with a := m.a.crash k0 u, left := -1, off := false }
  | _ => m.crash k0 k1 u

set_option maxRecDepth 100000 in
set_option maxHeartbeats 16000000 in
theorem d_crash {p : Nat} {m : M} {w : World} (k0 k1 : Int) (u : UInt8) (h : RD p m w) (hm0 : m.ok) (h00 : -9223372036854775808 ≤ k0) (h01 : k0 ≤ 9223372036854775807) (h10 : -9223372036854775808 ≤ k1) (h11 : k1 ≤ 9223372036854775807) :
    Calls Tryz.prog 19 #[dtr p, tailV k0 k1 u] w fun e w' => e = .returned (.tuple #[]) ∧ RD p (m.crash k0 k1 u) w' ∧ FD p w w' := by
  have hlt := h.lt
  obtain ⟨w0, hw0⟩ : ∃ w0, w0 = ((w.setCell ⟨p + 2, 4, none⟩ (.bool false)).setCell ⟨p + 2, 3, none⟩ (.int .i64 (-1))).alloc (.cells #[.int .i64 k0, .int .i64 k1, .int .u8 u.toNat] 42) := ⟨_, rfl⟩
  have r0 : RD p (crSt m k0 k1 u 0) w0 := by rw [hw0]; exact ((h.off false).left (-1)).below ((Below.refl _ _).alloc (Nat.le_refl _) _)
  have hfz : FD p w w0 := by rw [hw0]; exact ((FD.set2 p 4 w (.bool false)).trans (FD.set2 p 3 _ (.int .i64 (-1)))).trans (FD.alloc p _ _ (by simp; omega))
  have hbox : w.heap.size < w0.heap.size := by rw [hw0]; simp
  have hbx : w0.heap[w.heap.size]? = some (.cells #[.int .i64 k0, .int .i64 k1, .int .u8 u.toNat] 42 (0, 0)) := by
    rw [hw0]
    have := heap_alloc_new ((w.setCell ⟨p + 2, 4, none⟩ (.bool false)).setCell ⟨p + 2, 3, none⟩ (.int .i64 (-1))) (.cells #[.int .i64 k0, .int .i64 k1, .int .u8 u.toNat] 42)
    rw [World.size_setCell, World.size_setCell] at this
    exact this
  obtain ⟨s0, s1, kk0, kk1, c0, c1, c2, c3, c4, c5, g0, g1, g2⟩ := h.cells
  have g23 := g2 3
  have g24 := g2 4
  clear s0 s1 kk0 kk1 c0 c1 c2 c5 g0 g1 g2 h
  have HW := Lib.hid hw0
  clear hw0
  go_enter Tryz.func19, Tryz.ntmps19
  go_wp2
  go_loopw [4] (fun vt wr => ∃ i : Nat, i ≤ 2 ∧ vt = .int .i64 (i : Int) ∧ RD p (crSt m k0 k1 u i) wr ∧ FD p w0 wr) (fun vt _ => 2 - (intOf vt).toNat)
  case atStart => rw [← HW.out]; exact ⟨0, by omega, rfl, r0, FD.refl _ _⟩
  case round =>
    clear r0 c3 c4 g23 g24 HW
    obtain ⟨i, hi, rfl, r, hf⟩ := hrel
    have hB : wr.heap[w.heap.size]? = some (.cells #[.int .i64 k0, .int .i64 k1, .int .u8 u.toNat] 42 (0, 0)) := by
      rw [hf.old w.heap.size hbox (by omega) (by omega) (by omega)]; exact hbx
    have b0 : wr.cell? ⟨w.heap.size, 0, none⟩ = some (.int .i64 k0) := by rw [Lib.cell_of_heap hB]; rfl
    have b1 : wr.cell? ⟨w.heap.size, 1, none⟩ = some (.int .i64 k1) := by rw [Lib.cell_of_heap hB]; rfl
    have bu : wr.cell? ⟨w.heap.size, 2, none⟩ = some (.int .u8 u.toNat) := by rw [Lib.cell_of_heap hB]; rfl
    have hq := lt_of_block hB
    have HB := Lib.hid hbx
    clear hB hbx
    match i, hi with
    | 0, _ =>
      have hm := hm0
      have hkl := hm.ka
      have hl : m.a.s.length ≤ 4194304 := by have := hm.fits; have := hm.room; omega
      have z := tx_size m.a.s
      by_cases q1 : k0 < 0
      · have e1 : ((m.a.s.length : Int) - (m.a.k : Int) < k0) = False := eq_false (by omega)
        have e2 : ((0 : Int) < k0) = False := eq_false (by omega)
        have hkept : Tape.kept m.a k0 = 0 := by unfold Tape.kept; omega
        have ew1 : IntKind.i64.wrap ((m.a.s.length : Int) - (m.a.k : Int)) = (m.a.s.length : Int) - (m.a.k : Int) := by rw [IntKind.wrap_i64]; omega
        have ew2 : IntKind.i64.wrap (m.a.k : Int) = (m.a.k : Int) := by rw [IntKind.wrap_i64]; omega
        obtain ⟨cap, w6, hcv, hcap, hN⟩ := doc_row wr.drew m.a.s (m.a.k) (by omega)
        have hcv : (convert 9 61 (.string (tx (m.a.s.take (m.a.k))))).run Tryz.prog wr.drew = .ok (.slice (some ⟨wr.heap.size, 0, none⟩) (m.a.k) cap) w6 := hcv
        have r6 := r.drew.below hN.below
        have f6 := (hf.drew).trans (FD.of_below hN.below (by show p ≤ wr.heap.size; omega))
        have hsz6 : w6.heap.size = wr.heap.size + 1 := hN.size
        have hE : (tx m.a.s).extract 0 (m.a.k) = tx (m.a.s.take (m.a.k)) := tx_take _ _
        obtain ⟨Wt, hW⟩ : ∃ Wt, tx (m.a.s.take (m.a.k)) = Wt := ⟨_, rfl⟩
        rw [hW] at hcv hE
        clear hW
        have R : RD p (crSt m k0 k1 u 1) ((w6.setCell ⟨p, 0, none⟩ (.string (tx (m.a.s.take (m.a.k))))).setCell ⟨p + 1, 0, none⟩ (.int .i64 (m.a.k : Nat))) := by
          have := (r6.sA (m.a.s.take (m.a.k))).kA (m.a.k)
          unfold crSt
          rw [Tape.crash_none _ _ _ hkept]
          exact this
        have F : FD p w0 ((w6.setCell ⟨p, 0, none⟩ (.string (tx (m.a.s.take (m.a.k))))).setCell ⟨p + 1, 0, none⟩ (.int .i64 (m.a.k : Nat))) := (f6.trans (FD.set0 p 0 _ _)).trans (FD.set1 p 0 _ _)
        have hback : (convert 61 9 (.slice (some ⟨wr.heap.size, 0, none⟩) (m.a.k) cap)).run Tryz.prog w6.drew = .ok (.string (tx (m.a.s.take (m.a.k)))) w6.drew :=
          doc_back (w := w6.drew) _ (by rw [List.length_take]; omega) (fun j hj => by
            rw [List.length_take] at hj
            have := hN.cell j (by omega) (by omega)
            rw [List.getElem_take]
            exact this)
        obtain ⟨oxs0, oxs1, oxk0, oxk1, xc0, xc1, xc2, xc3, xc4, xc5, xg0, xg1, xg2⟩ := (r).cells
        have xs0 : (wr).cell? ⟨p, 0, none⟩ = some (.string (tx m.a.s)) := oxs0
        have xk0 : (wr).cell? ⟨p + 1, 0, none⟩ = some (.int .i64 m.a.k) := oxk0
        have xh0 := xg0 0
        have xh1 := xg1 0
        clear oxs0 oxs1 oxk0 oxk1 xc2 xc3 xc4 xc5 xg0 xg1 xg2
        obtain ⟨oys0, oys1, oyk0, oyk1, yc0, yc1, yc2, yc3, yc4, yc5, yg0, yg1, yg2⟩ := (r6).cells
        have ys0 : (w6).cell? ⟨p, 0, none⟩ = some (.string (tx m.a.s)) := oys0
        have yk0 : (w6).cell? ⟨p + 1, 0, none⟩ = some (.int .i64 m.a.k) := oyk0
        have yh0 := yg0 0
        have yh1 := yg1 0
        clear oys0 oys1 oyk0 oyk1 yc2 yc3 yc4 yc5 yg0 yg1 yg2
        clear hN r6 f6 hf r
        go_wp2
        refine St.wp_region_stage (fun _ wx => wx = wr.drew) (by kernel_rfl) (by kernel_rfl) (by kernel_rfl) rfl ?_
        repeat
          apply St.step_give
          · rfl
          · intro L wx hS hcl hrd
            subst hS
            go_simp
            try with_reducible rfl
          · exact fun L wx hS => hS
          simp only [Act.put, List.setIfInBounds_toArray, List.set_cons_zero, List.set_cons_succ]
        refine St.step_last ?_
        intro L wx hS _
        subst hS
        go_wp2
        go_region
        all_goals go_wp2
        all_goals
          go_roundw
          case rel => first | exact ⟨1, by omega, by go_num, R.drew, F.drew⟩ | ((repeat apply Exists.intro); exact ⟨⟨1, by omega, by go_num, R.drew, F.drew⟩, rfl⟩)
          case measure => simp [intOf]
      by_cases q2 : k0 = 0
      · have e1 : ((m.a.s.length : Int) - (m.a.k : Int) < 0) = False := eq_false (by omega)
        have hkept : Tape.kept m.a k0 = 0 := by unfold Tape.kept; omega
        have ew1 : IntKind.i64.wrap ((m.a.s.length : Int) - (m.a.k : Int)) = (m.a.s.length : Int) - (m.a.k : Int) := by rw [IntKind.wrap_i64]; omega
        have ew2 : IntKind.i64.wrap (m.a.k : Int) = (m.a.k : Int) := by rw [IntKind.wrap_i64]; omega
        subst q2
        obtain ⟨cap, w6, hcv, hcap, hN⟩ := doc_row wr.drew m.a.s (m.a.k) (by omega)
        have hcv : (convert 9 61 (.string (tx (m.a.s.take (m.a.k))))).run Tryz.prog wr.drew = .ok (.slice (some ⟨wr.heap.size, 0, none⟩) (m.a.k) cap) w6 := hcv
        have r6 := r.drew.below hN.below
        have f6 := (hf.drew).trans (FD.of_below hN.below (by show p ≤ wr.heap.size; omega))
        have hsz6 : w6.heap.size = wr.heap.size + 1 := hN.size
        have hE : (tx m.a.s).extract 0 (m.a.k) = tx (m.a.s.take (m.a.k)) := tx_take _ _
        obtain ⟨Wt, hW⟩ : ∃ Wt, tx (m.a.s.take (m.a.k)) = Wt := ⟨_, rfl⟩
        rw [hW] at hcv hE
        clear hW
        have R : RD p (crSt m 0 k1 u 1) ((w6.setCell ⟨p, 0, none⟩ (.string (tx (m.a.s.take (m.a.k))))).setCell ⟨p + 1, 0, none⟩ (.int .i64 (m.a.k : Nat))) := by
          have := (r6.sA (m.a.s.take (m.a.k))).kA (m.a.k)
          unfold crSt
          rw [Tape.crash_none _ _ _ hkept]
          exact this
        have F : FD p w0 ((w6.setCell ⟨p, 0, none⟩ (.string (tx (m.a.s.take (m.a.k))))).setCell ⟨p + 1, 0, none⟩ (.int .i64 (m.a.k : Nat))) := (f6.trans (FD.set0 p 0 _ _)).trans (FD.set1 p 0 _ _)
        have hback : (convert 61 9 (.slice (some ⟨wr.heap.size, 0, none⟩) (m.a.k) cap)).run Tryz.prog w6.drew = .ok (.string (tx (m.a.s.take (m.a.k)))) w6.drew :=
          doc_back (w := w6.drew) _ (by rw [List.length_take]; omega) (fun j hj => by
            rw [List.length_take] at hj
            have := hN.cell j (by omega) (by omega)
            rw [List.getElem_take]
            exact this)
        obtain ⟨oxs0, oxs1, oxk0, oxk1, xc0, xc1, xc2, xc3, xc4, xc5, xg0, xg1, xg2⟩ := (r).cells
        have xs0 : (wr).cell? ⟨p, 0, none⟩ = some (.string (tx m.a.s)) := oxs0
        have xk0 : (wr).cell? ⟨p + 1, 0, none⟩ = some (.int .i64 m.a.k) := oxk0
        have xh0 := xg0 0
        have xh1 := xg1 0
        clear oxs0 oxs1 oxk0 oxk1 xc2 xc3 xc4 xc5 xg0 xg1 xg2
        obtain ⟨oys0, oys1, oyk0, oyk1, yc0, yc1, yc2, yc3, yc4, yc5, yg0, yg1, yg2⟩ := (r6).cells
        have ys0 : (w6).cell? ⟨p, 0, none⟩ = some (.string (tx m.a.s)) := oys0
        have yk0 : (w6).cell? ⟨p + 1, 0, none⟩ = some (.int .i64 m.a.k) := oyk0
        have yh0 := yg0 0
        have yh1 := yg1 0
        clear oys0 oys1 oyk0 oyk1 yc2 yc3 yc4 yc5 yg0 yg1 yg2
        clear hN r6 f6 hf r
        go_wp2
        refine St.wp_region_stage (fun _ wx => wx = wr.drew) (by kernel_rfl) (by kernel_rfl) (by kernel_rfl) rfl ?_
        repeat
          apply St.step_give
          · rfl
          · intro L wx hS hcl hrd
            subst hS
            go_simp
            try with_reducible rfl
          · exact fun L wx hS => hS
          simp only [Act.put, List.setIfInBounds_toArray, List.set_cons_zero, List.set_cons_succ]
        refine St.step_last ?_
        intro L wx hS _
        subst hS
        go_wp2
        go_region
        all_goals go_wp2
        all_goals
          go_roundw
          case rel => first | exact ⟨1, by omega, by go_num, R.drew, F.drew⟩ | ((repeat apply Exists.intro); exact ⟨⟨1, by omega, by go_num, R.drew, F.drew⟩, rfl⟩)
          case measure => simp [intOf]
      by_cases q3 : m.a.k = m.a.s.length
      · have e1 : ((m.a.s.length : Int) - (m.a.k : Int) < k0) = True := eq_true (by omega)
        have e2 : ((0 : Int) < (m.a.s.length : Int) - (m.a.k : Int)) = False := eq_false (by omega)
        have e3 : ((m.a.k : Int) < (m.a.s.length : Int)) = False := eq_false (by omega)
        have e4 : (m.a.k < m.a.s.length) = False := eq_false (by omega)
        have Hq3 := Lib.hid q3
        have hkept : Tape.kept m.a k0 = 0 := by unfold Tape.kept; omega
        have ew1 : IntKind.i64.wrap ((m.a.s.length : Int) - (m.a.k : Int)) = (m.a.s.length : Int) - (m.a.k : Int) := by rw [IntKind.wrap_i64]; omega
        have ew2 : IntKind.i64.wrap (m.a.k : Int) = (m.a.k : Int) := by rw [IntKind.wrap_i64]; omega
        clear q3
        obtain ⟨cap, w6, hcv, hcap, hN⟩ := doc_row wr.drew m.a.s (m.a.k) (by omega)
        have hcv : (convert 9 61 (.string (tx (m.a.s.take (m.a.k))))).run Tryz.prog wr.drew = .ok (.slice (some ⟨wr.heap.size, 0, none⟩) (m.a.k) cap) w6 := hcv
        have r6 := r.drew.below hN.below
        have f6 := (hf.drew).trans (FD.of_below hN.below (by show p ≤ wr.heap.size; omega))
        have hsz6 : w6.heap.size = wr.heap.size + 1 := hN.size
        have hE : (tx m.a.s).extract 0 (m.a.k) = tx (m.a.s.take (m.a.k)) := tx_take _ _
        obtain ⟨Wt, hW⟩ : ∃ Wt, tx (m.a.s.take (m.a.k)) = Wt := ⟨_, rfl⟩
        rw [hW] at hcv hE
        clear hW
        have R : RD p (crSt m k0 k1 u 1) ((w6.setCell ⟨p, 0, none⟩ (.string (tx (m.a.s.take (m.a.k))))).setCell ⟨p + 1, 0, none⟩ (.int .i64 (m.a.k : Nat))) := by
          have := (r6.sA (m.a.s.take (m.a.k))).kA (m.a.k)
          unfold crSt
          rw [Tape.crash_none _ _ _ hkept]
          exact this
        have F : FD p w0 ((w6.setCell ⟨p, 0, none⟩ (.string (tx (m.a.s.take (m.a.k))))).setCell ⟨p + 1, 0, none⟩ (.int .i64 (m.a.k : Nat))) := (f6.trans (FD.set0 p 0 _ _)).trans (FD.set1 p 0 _ _)
        have hback : (convert 61 9 (.slice (some ⟨wr.heap.size, 0, none⟩) (m.a.k) cap)).run Tryz.prog w6.drew = .ok (.string (tx (m.a.s.take (m.a.k)))) w6.drew :=
          doc_back (w := w6.drew) _ (by rw [List.length_take]; omega) (fun j hj => by
            rw [List.length_take] at hj
            have := hN.cell j (by omega) (by omega)
            rw [List.getElem_take]
            exact this)
        obtain ⟨oxs0, oxs1, oxk0, oxk1, xc0, xc1, xc2, xc3, xc4, xc5, xg0, xg1, xg2⟩ := (r).cells
        have xs0 : (wr).cell? ⟨p, 0, none⟩ = some (.string (tx m.a.s)) := oxs0
        have xk0 : (wr).cell? ⟨p + 1, 0, none⟩ = some (.int .i64 m.a.k) := oxk0
        have xh0 := xg0 0
        have xh1 := xg1 0
        clear oxs0 oxs1 oxk0 oxk1 xc2 xc3 xc4 xc5 xg0 xg1 xg2
        obtain ⟨oys0, oys1, oyk0, oyk1, yc0, yc1, yc2, yc3, yc4, yc5, yg0, yg1, yg2⟩ := (r6).cells
        have ys0 : (w6).cell? ⟨p, 0, none⟩ = some (.string (tx m.a.s)) := oys0
        have yk0 : (w6).cell? ⟨p + 1, 0, none⟩ = some (.int .i64 m.a.k) := oyk0
        have yh0 := yg0 0
        have yh1 := yg1 0
        clear oys0 oys1 oyk0 oyk1 yc2 yc3 yc4 yc5 yg0 yg1 yg2
        clear hN r6 f6 hf r
        go_wp2
        refine St.wp_region_stage (fun _ wx => wx = wr.drew) (by kernel_rfl) (by kernel_rfl) (by kernel_rfl) rfl ?_
        repeat
          apply St.step_give
          · rfl
          · intro L wx hS hcl hrd
            subst hS
            go_simp
            try with_reducible rfl
          · exact fun L wx hS => hS
          simp only [Act.put, List.setIfInBounds_toArray, List.set_cons_zero, List.set_cons_succ]
        refine St.step_last ?_
        intro L wx hS _
        subst hS
        go_wp2
        go_region
        all_goals go_wp2
        all_goals
          go_roundw
          case rel => first | exact ⟨1, by omega, by go_num, R.drew, F.drew⟩ | ((repeat apply Exists.intro); exact ⟨⟨1, by omega, by go_num, R.drew, F.drew⟩, rfl⟩)
          case measure => simp [intOf]
      by_cases q4 : k0 ≤ (m.a.s.length : Int) - m.a.k
      · obtain ⟨d, rfl⟩ : ∃ d : Nat, k0 = (d + 1 : Nat) := ⟨(k0 - 1).toNat, by omega⟩
        have hdl : m.a.k + (d + 1) ≤ m.a.s.length := by omega
        have hgt : ((m.a.k : Int) < (m.a.k : Int) + ((d : Int) + 1)) = True := eq_true (by omega)
        have e1 : ((m.a.s.length : Int) - (m.a.k : Int) < (d : Int) + 1) = False := eq_false (by omega)
        have e2 : ((0 : Int) < (d : Int) + 1) = True := eq_true (by omega)
        have ew1 : IntKind.i64.wrap ((m.a.s.length : Int) - (m.a.k : Int)) = (m.a.s.length : Int) - (m.a.k : Int) := by rw [IntKind.wrap_i64]; omega
        have ew2 : IntKind.i64.wrap ((m.a.k : Int) + ((d : Int) + 1)) = (m.a.k : Int) + ((d : Int) + 1) := by rw [IntKind.wrap_i64]; omega
        have Hq1 := Lib.hid q1
        have Hq2 := Lib.hid q2
        clear h00 h01 q1 q2
        obtain ⟨cap, w6, hcv, hcap, hN⟩ := doc_row wr.drew m.a.s (m.a.k + (d + 1)) (by omega)
        have hcv : (convert 9 61 (.string (tx (m.a.s.take (m.a.k + (d + 1)))))).run Tryz.prog wr.drew = .ok (.slice (some ⟨wr.heap.size, 0, none⟩) (m.a.k + (d + 1)) cap) w6 := hcv
        have r6 := r.drew.below hN.below
        have f6 := (hf.drew).trans (FD.of_below hN.below (by show p ≤ wr.heap.size; omega))
        have hsz6 : w6.heap.size = wr.heap.size + 1 := hN.size
        have hE : (tx m.a.s).extract 0 (m.a.k + (d + 1)) = tx (m.a.s.take (m.a.k + (d + 1))) := tx_take _ _
        obtain ⟨Wt, hW⟩ : ∃ Wt, tx (m.a.s.take (m.a.k + (d + 1))) = Wt := ⟨_, rfl⟩
        rw [hW] at hcv hE
        clear hW
        have hj : m.a.k + d < m.a.s.length := by omega
        obtain ⟨c, hc⟩ : ∃ c, m.a.s[m.a.k + d] = c := ⟨_, rfl⟩
        have hx : w6.cell? ⟨wr.heap.size, m.a.k + d, none⟩ = some (.int .u8 (c.toNat : Int)) := by rw [← hc]; exact hN.cell (m.a.k + d) (by omega) hj
        have hfx : w6.frozen? ⟨wr.heap.size, m.a.k + d, none⟩ = false := hN.frozen (m.a.k + d) (by omega)
        have r7 := r6.far wr.heap.size (m.a.k + d) (.int .u8 (bits .xor .u8 (c.toNat : Int) (u.toNat : Int))) (by omega)
        have f7 : FD p w0 (w6.setCell ⟨wr.heap.size, m.a.k + d, none⟩ (.int .u8 (bits .xor .u8 (c.toNat : Int) (u.toNat : Int)))) := FD.far (m.a.k + d) f6 (.int .u8 (bits .xor .u8 (c.toNat : Int) (u.toNat : Int))) (by have := hf.below.size; omega) (by have := hbox; omega)
        have R : RD p (crSt m ((d + 1 : Nat) : Int) k1 u 1) (((w6.setCell ⟨wr.heap.size, m.a.k + d, none⟩ (.int .u8 (bits .xor .u8 (c.toNat : Int) (u.toNat : Int)))).setCell ⟨p, 0, none⟩ (.string (tx ((m.a.s.take (m.a.k + (d + 1))).set (m.a.k + d) (c ^^^ u))))).setCell ⟨p + 1, 0, none⟩ (.int .i64 ((m.a.k + (d + 1)) : Nat))) := by
          have := (r7.sA ((m.a.s.take (m.a.k + (d + 1))).set (m.a.k + d) (c ^^^ u))).kA (m.a.k + (d + 1))
          unfold crSt
          rw [Tape.crash_some m.a ((d + 1 : Nat) : Int) u (m.a.k + (d + 1)) (m.a.k + d) (by omega) (by unfold Tape.kept; omega) (by omega) (by omega) hj]
          rw [hc]
          exact this
        have F : FD p w0 (((w6.setCell ⟨wr.heap.size, m.a.k + d, none⟩ (.int .u8 (bits .xor .u8 (c.toNat : Int) (u.toNat : Int)))).setCell ⟨p, 0, none⟩ (.string (tx ((m.a.s.take (m.a.k + (d + 1))).set (m.a.k + d) (c ^^^ u))))).setCell ⟨p + 1, 0, none⟩ (.int .i64 ((m.a.k + (d + 1)) : Nat))) := (f7.trans (FD.set0 p 0 _ _)).trans (FD.set1 p 0 _ _)
        have hback : (convert 61 9 (.slice (some ⟨wr.heap.size, 0, none⟩) (m.a.k + (d + 1)) cap)).run Tryz.prog (w6.setCell ⟨wr.heap.size, m.a.k + d, none⟩ (.int .u8 (bits .xor .u8 (c.toNat : Int) (u.toNat : Int)))).drew.drew = .ok (.string (tx ((m.a.s.take (m.a.k + (d + 1))).set (m.a.k + d) (c ^^^ u)))) (w6.setCell ⟨wr.heap.size, m.a.k + d, none⟩ (.int .u8 (bits .xor .u8 (c.toNat : Int) (u.toNat : Int)))).drew.drew :=
          doc_back (w := (w6.setCell ⟨wr.heap.size, m.a.k + d, none⟩ (.int .u8 (bits .xor .u8 (c.toNat : Int) (u.toNat : Int)))).drew.drew) _ (by rw [List.length_set, List.length_take]; omega) (fun j hjj => by
            rw [List.length_set, List.length_take] at hjj
            show (w6.setCell ⟨wr.heap.size, m.a.k + d, none⟩ (.int .u8 (bits .xor .u8 (c.toNat : Int) (u.toNat : Int)))).cell? ⟨wr.heap.size, j, none⟩ = _
            by_cases hjk : j = m.a.k + d
            · subst hjk
              rw [World.cell?_setCell_same _ _ _ hx, xor_byte, List.getElem_set_self]
            · rw [World.cell?_setCell_other _ _ _ _ (by first | (simp; done) | (simp; omega)), List.getElem_set_ne (by omega), List.getElem_take]
              exact hN.cell j (by omega) (by omega))
        obtain ⟨oxs0, oxs1, oxk0, oxk1, xc0, xc1, xc2, xc3, xc4, xc5, xg0, xg1, xg2⟩ := (r).cells
        have xs0 : (wr).cell? ⟨p, 0, none⟩ = some (.string (tx m.a.s)) := oxs0
        have xk0 : (wr).cell? ⟨p + 1, 0, none⟩ = some (.int .i64 m.a.k) := oxk0
        have xh0 := xg0 0
        have xh1 := xg1 0
        clear oxs0 oxs1 oxk0 oxk1 xc2 xc3 xc4 xc5 xg0 xg1 xg2
        obtain ⟨oys0, oys1, oyk0, oyk1, yc0, yc1, yc2, yc3, yc4, yc5, yg0, yg1, yg2⟩ := (r6).cells
        have ys0 : (w6).cell? ⟨p, 0, none⟩ = some (.string (tx m.a.s)) := oys0
        have yk0 : (w6).cell? ⟨p + 1, 0, none⟩ = some (.int .i64 m.a.k) := oyk0
        have yh0 := yg0 0
        have yh1 := yg1 0
        clear oys0 oys1 oyk0 oyk1 yc2 yc3 yc4 yc5 yg0 yg1 yg2
        obtain ⟨ozs0, ozs1, ozk0, ozk1, zc0, zc1, zc2, zc3, zc4, zc5, zg0, zg1, zg2⟩ := (r7).cells
        have zs0 : ((w6.setCell ⟨wr.heap.size, m.a.k + d, none⟩ (.int .u8 (bits .xor .u8 (c.toNat : Int) (u.toNat : Int))))).cell? ⟨p, 0, none⟩ = some (.string (tx m.a.s)) := ozs0
        have zk0 : ((w6.setCell ⟨wr.heap.size, m.a.k + d, none⟩ (.int .u8 (bits .xor .u8 (c.toNat : Int) (u.toNat : Int))))).cell? ⟨p + 1, 0, none⟩ = some (.int .i64 m.a.k) := ozk0
        have zh0 := zg0 0
        have zh1 := zg1 0
        clear ozs0 ozs1 ozk0 ozk1 zc2 zc3 zc4 zc5 zg0 zg1 zg2
        have hn0 : ¬ p = wr.heap.size := by omega
        have hn1 : ¬ p + 1 = wr.heap.size := by omega
        have hn2 : ¬ p + 2 = wr.heap.size := by omega
        have hn3 : ¬ wr.heap.size = w.heap.size := by omega
        have yu : w6.cell? ⟨w.heap.size, 2, none⟩ = some (.int .u8 u.toNat) := by
          rw [hN.below.cell (p := ⟨w.heap.size, 2, none⟩) (by show w.heap.size < wr.heap.size; omega)]; exact bu
        clear hN r6 f6 hf r r7 f7 hc
        go_wp2
        refine St.wp_region_stage (fun _ wx => wx = wr.drew) (by kernel_rfl) (by kernel_rfl) (by kernel_rfl) rfl ?_
        repeat
          apply St.step_give
          · rfl
          · intro L wx hS hcl hrd
            subst hS
            go_simp
            try with_reducible rfl
          · exact fun L wx hS => hS
          simp only [Act.put, List.setIfInBounds_toArray, List.set_cons_zero, List.set_cons_succ]
        refine St.step_last ?_
        intro L wx hS _
        subst hS
        go_wp2
        go_region
        all_goals go_wp2
        all_goals go_region
        all_goals go_wp2
        all_goals
          go_roundw
          case rel => first | exact ⟨1, by omega, by go_num, R.drew.drew, F.drew.drew⟩ | ((repeat apply Exists.intro); exact ⟨⟨1, by omega, by go_num, R.drew.drew, F.drew.drew⟩, rfl⟩)
          case measure => simp [intOf]
      · obtain ⟨d, hd⟩ : ∃ d, m.a.s.length = d + 1 := ⟨m.a.s.length - 1, by omega⟩
        have e1 : ((d : Int) + 1 - (m.a.k : Int) < k0) = True := eq_true (by omega)
        have e2 : ((0 : Int) < (d : Int) + 1 - (m.a.k : Int)) = True := eq_true (by omega)
        have ew1 : IntKind.i64.wrap ((d : Int) + 1 - (m.a.k : Int)) = (d : Int) + 1 - (m.a.k : Int) := by rw [IntKind.wrap_i64]; omega
        have ew2 : IntKind.i64.wrap ((m.a.k : Int) + ((d : Int) + 1 - (m.a.k : Int))) = (m.a.k : Int) + ((d : Int) + 1 - (m.a.k : Int)) := by rw [IntKind.wrap_i64]; omega
        obtain ⟨cap, w6, hcv, hcap, hN⟩ := doc_row wr.drew m.a.s (m.a.k + (d + 1 - m.a.k)) (by omega)
        have hcv : (convert 9 61 (.string (tx (m.a.s.take (m.a.k + (d + 1 - m.a.k)))))).run Tryz.prog wr.drew = .ok (.slice (some ⟨wr.heap.size, 0, none⟩) (m.a.k + (d + 1 - m.a.k)) cap) w6 := hcv
        have r6 := r.drew.below hN.below
        have f6 := (hf.drew).trans (FD.of_below hN.below (by show p ≤ wr.heap.size; omega))
        have hsz6 : w6.heap.size = wr.heap.size + 1 := hN.size
        have hE : (tx m.a.s).extract 0 (m.a.k + (d + 1 - m.a.k)) = tx (m.a.s.take (m.a.k + (d + 1 - m.a.k))) := tx_take _ _
        obtain ⟨Wt, hW⟩ : ∃ Wt, tx (m.a.s.take (m.a.k + (d + 1 - m.a.k))) = Wt := ⟨_, rfl⟩
        rw [hW] at hcv hE
        clear hW
        have hj : m.a.k + (d + 1 - m.a.k) - 1 < m.a.s.length := by omega
        obtain ⟨c, hc⟩ : ∃ c, m.a.s[m.a.k + (d + 1 - m.a.k) - 1] = c := ⟨_, rfl⟩
        have hx : w6.cell? ⟨wr.heap.size, m.a.k + (d + 1 - m.a.k) - 1, none⟩ = some (.int .u8 (c.toNat : Int)) := by rw [← hc]; exact hN.cell (m.a.k + (d + 1 - m.a.k) - 1) (by omega) hj
        have hfx : w6.frozen? ⟨wr.heap.size, m.a.k + (d + 1 - m.a.k) - 1, none⟩ = false := hN.frozen (m.a.k + (d + 1 - m.a.k) - 1) (by omega)
        have r7 := r6.far wr.heap.size (m.a.k + (d + 1 - m.a.k) - 1) (.int .u8 (bits .xor .u8 (c.toNat : Int) (u.toNat : Int))) (by omega)
        have f7 : FD p w0 (w6.setCell ⟨wr.heap.size, m.a.k + (d + 1 - m.a.k) - 1, none⟩ (.int .u8 (bits .xor .u8 (c.toNat : Int) (u.toNat : Int)))) := FD.far (m.a.k + (d + 1 - m.a.k) - 1) f6 (.int .u8 (bits .xor .u8 (c.toNat : Int) (u.toNat : Int))) (by have := hf.below.size; omega) (by have := hbox; omega)
        have R : RD p (crSt m k0 k1 u 1) (((w6.setCell ⟨wr.heap.size, m.a.k + (d + 1 - m.a.k) - 1, none⟩ (.int .u8 (bits .xor .u8 (c.toNat : Int) (u.toNat : Int)))).setCell ⟨p, 0, none⟩ (.string (tx ((m.a.s.take (m.a.k + (d + 1 - m.a.k))).set (m.a.k + (d + 1 - m.a.k) - 1) (c ^^^ u))))).setCell ⟨p + 1, 0, none⟩ (.int .i64 ((m.a.k + (d + 1 - m.a.k)) : Nat))) := by
          have := (r7.sA ((m.a.s.take (m.a.k + (d + 1 - m.a.k))).set (m.a.k + (d + 1 - m.a.k) - 1) (c ^^^ u))).kA (m.a.k + (d + 1 - m.a.k))
          unfold crSt
          rw [Tape.crash_some m.a k0 u (m.a.k + (d + 1 - m.a.k)) (m.a.k + (d + 1 - m.a.k) - 1) (by omega) (by unfold Tape.kept; omega) (by omega) (by omega) hj]
          rw [hc]
          exact this
        have F : FD p w0 (((w6.setCell ⟨wr.heap.size, m.a.k + (d + 1 - m.a.k) - 1, none⟩ (.int .u8 (bits .xor .u8 (c.toNat : Int) (u.toNat : Int)))).setCell ⟨p, 0, none⟩ (.string (tx ((m.a.s.take (m.a.k + (d + 1 - m.a.k))).set (m.a.k + (d + 1 - m.a.k) - 1) (c ^^^ u))))).setCell ⟨p + 1, 0, none⟩ (.int .i64 ((m.a.k + (d + 1 - m.a.k)) : Nat))) := (f7.trans (FD.set0 p 0 _ _)).trans (FD.set1 p 0 _ _)
        have hcast : ((m.a.k + (d + 1 - m.a.k) : Nat) : Int) = (m.a.k : Int) + ((d : Int) + 1 - (m.a.k : Int)) := by omega
        rw [hcast] at R F
        clear hcast
        have hback : (convert 61 9 (.slice (some ⟨wr.heap.size, 0, none⟩) (m.a.k + (d + 1 - m.a.k)) cap)).run Tryz.prog (w6.setCell ⟨wr.heap.size, m.a.k + (d + 1 - m.a.k) - 1, none⟩ (.int .u8 (bits .xor .u8 (c.toNat : Int) (u.toNat : Int)))).drew.drew = .ok (.string (tx ((m.a.s.take (m.a.k + (d + 1 - m.a.k))).set (m.a.k + (d + 1 - m.a.k) - 1) (c ^^^ u)))) (w6.setCell ⟨wr.heap.size, m.a.k + (d + 1 - m.a.k) - 1, none⟩ (.int .u8 (bits .xor .u8 (c.toNat : Int) (u.toNat : Int)))).drew.drew :=
          doc_back (w := (w6.setCell ⟨wr.heap.size, m.a.k + (d + 1 - m.a.k) - 1, none⟩ (.int .u8 (bits .xor .u8 (c.toNat : Int) (u.toNat : Int)))).drew.drew) _ (by rw [List.length_set, List.length_take]; omega) (fun j hjj => by
            rw [List.length_set, List.length_take] at hjj
            show (w6.setCell ⟨wr.heap.size, m.a.k + (d + 1 - m.a.k) - 1, none⟩ (.int .u8 (bits .xor .u8 (c.toNat : Int) (u.toNat : Int)))).cell? ⟨wr.heap.size, j, none⟩ = _
            by_cases hjk : j = m.a.k + (d + 1 - m.a.k) - 1
            · subst hjk
              rw [World.cell?_setCell_same _ _ _ hx, xor_byte, List.getElem_set_self]
            · rw [World.cell?_setCell_other _ _ _ _ (by first | (simp; done) | (simp; omega)), List.getElem_set_ne (by omega), List.getElem_take]
              exact hN.cell j (by omega) (by omega))
        obtain ⟨oxs0, oxs1, oxk0, oxk1, xc0, xc1, xc2, xc3, xc4, xc5, xg0, xg1, xg2⟩ := (r).cells
        have xs0 : (wr).cell? ⟨p, 0, none⟩ = some (.string (tx m.a.s)) := oxs0
        have xk0 : (wr).cell? ⟨p + 1, 0, none⟩ = some (.int .i64 m.a.k) := oxk0
        have xh0 := xg0 0
        have xh1 := xg1 0
        clear oxs0 oxs1 oxk0 oxk1 xc2 xc3 xc4 xc5 xg0 xg1 xg2
        obtain ⟨oys0, oys1, oyk0, oyk1, yc0, yc1, yc2, yc3, yc4, yc5, yg0, yg1, yg2⟩ := (r6).cells
        have ys0 : (w6).cell? ⟨p, 0, none⟩ = some (.string (tx m.a.s)) := oys0
        have yk0 : (w6).cell? ⟨p + 1, 0, none⟩ = some (.int .i64 m.a.k) := oyk0
        have yh0 := yg0 0
        have yh1 := yg1 0
        clear oys0 oys1 oyk0 oyk1 yc2 yc3 yc4 yc5 yg0 yg1 yg2
        obtain ⟨ozs0, ozs1, ozk0, ozk1, zc0, zc1, zc2, zc3, zc4, zc5, zg0, zg1, zg2⟩ := (r7).cells
        have zs0 : ((w6.setCell ⟨wr.heap.size, m.a.k + (d + 1 - m.a.k) - 1, none⟩ (.int .u8 (bits .xor .u8 (c.toNat : Int) (u.toNat : Int))))).cell? ⟨p, 0, none⟩ = some (.string (tx m.a.s)) := ozs0
        have zk0 : ((w6.setCell ⟨wr.heap.size, m.a.k + (d + 1 - m.a.k) - 1, none⟩ (.int .u8 (bits .xor .u8 (c.toNat : Int) (u.toNat : Int))))).cell? ⟨p + 1, 0, none⟩ = some (.int .i64 m.a.k) := ozk0
        have zh0 := zg0 0
        have zh1 := zg1 0
        clear ozs0 ozs1 ozk0 ozk1 zc2 zc3 zc4 zc5 zg0 zg1 zg2
        have hn0 : ¬ p = wr.heap.size := by omega
        have hn1 : ¬ p + 1 = wr.heap.size := by omega
        have hn2 : ¬ p + 2 = wr.heap.size := by omega
        have hn3 : ¬ wr.heap.size = w.heap.size := by omega
        have yu : w6.cell? ⟨w.heap.size, 2, none⟩ = some (.int .u8 u.toNat) := by
          rw [hN.below.cell (p := ⟨w.heap.size, 2, none⟩) (by show w.heap.size < wr.heap.size; omega)]; exact bu
        clear hN r6 f6 hf r r7 f7 hc
        go_wp2
        refine St.wp_region_stage (fun _ wx => wx = wr.drew) (by kernel_rfl) (by kernel_rfl) (by kernel_rfl) rfl ?_
        repeat
          apply St.step_give
          · rfl
          · intro L wx hS hcl hrd
            subst hS
            go_simp
            try with_reducible rfl
          · exact fun L wx hS => hS
          simp only [Act.put, List.setIfInBounds_toArray, List.set_cons_zero, List.set_cons_succ]
        refine St.step_last ?_
        intro L wx hS _
        subst hS
        go_wp2
        go_region
        all_goals go_wp2
        all_goals go_region
        all_goals go_wp2
        all_goals
          go_roundw
          case rel => first | exact ⟨1, by omega, by go_num, R.drew.drew, F.drew.drew⟩ | ((repeat apply Exists.intro); exact ⟨⟨1, by omega, by go_num, R.drew.drew, F.drew.drew⟩, rfl⟩)
          case measure => simp [intOf]
    | 1, _ =>
      have hm := hm0
      have hkl := hm.kb
      have hl : m.b.s.length ≤ 4194304 := by have := hm.fits; have := hm.room; omega
      have z := tx_size m.b.s
      by_cases q1 : k1 < 0
      · have e1 : ((m.b.s.length : Int) - (m.b.k : Int) < k1) = False := eq_false (by omega)
        have e2 : ((0 : Int) < k1) = False := eq_false (by omega)
        have hkept : Tape.kept m.b k1 = 0 := by unfold Tape.kept; omega
        have ew1 : IntKind.i64.wrap ((m.b.s.length : Int) - (m.b.k : Int)) = (m.b.s.length : Int) - (m.b.k : Int) := by rw [IntKind.wrap_i64]; omega
        have ew2 : IntKind.i64.wrap (m.b.k : Int) = (m.b.k : Int) := by rw [IntKind.wrap_i64]; omega
        obtain ⟨cap, w6, hcv, hcap, hN⟩ := doc_row wr.drew m.b.s (m.b.k) (by omega)
        have hcv : (convert 9 61 (.string (tx (m.b.s.take (m.b.k))))).run Tryz.prog wr.drew = .ok (.slice (some ⟨wr.heap.size, 0, none⟩) (m.b.k) cap) w6 := hcv
        have r6 := r.drew.below hN.below
        have f6 := (hf.drew).trans (FD.of_below hN.below (by show p ≤ wr.heap.size; omega))
        have hsz6 : w6.heap.size = wr.heap.size + 1 := hN.size
        have hE : (tx m.b.s).extract 0 (m.b.k) = tx (m.b.s.take (m.b.k)) := tx_take _ _
        obtain ⟨Wt, hW⟩ : ∃ Wt, tx (m.b.s.take (m.b.k)) = Wt := ⟨_, rfl⟩
        rw [hW] at hcv hE
        clear hW
        have R : RD p (crSt m k0 k1 u 2) ((w6.setCell ⟨p, 1, none⟩ (.string (tx (m.b.s.take (m.b.k))))).setCell ⟨p + 1, 1, none⟩ (.int .i64 (m.b.k : Nat))) := by
          have := (r6.sB (m.b.s.take (m.b.k))).kB (m.b.k)
          unfold crSt
          unfold M.crash; rw [Tape.crash_none m.b _ _ hkept]
          exact this
        have F : FD p w0 ((w6.setCell ⟨p, 1, none⟩ (.string (tx (m.b.s.take (m.b.k))))).setCell ⟨p + 1, 1, none⟩ (.int .i64 (m.b.k : Nat))) := (f6.trans (FD.set0 p 1 _ _)).trans (FD.set1 p 1 _ _)
        have hback : (convert 61 9 (.slice (some ⟨wr.heap.size, 0, none⟩) (m.b.k) cap)).run Tryz.prog w6.drew = .ok (.string (tx (m.b.s.take (m.b.k)))) w6.drew :=
          doc_back (w := w6.drew) _ (by rw [List.length_take]; omega) (fun j hj => by
            rw [List.length_take] at hj
            have := hN.cell j (by omega) (by omega)
            rw [List.getElem_take]
            exact this)
        obtain ⟨oxs0, oxs1, oxk0, oxk1, xc0, xc1, xc2, xc3, xc4, xc5, xg0, xg1, xg2⟩ := (r).cells
        have xs1 : (wr).cell? ⟨p, 1, none⟩ = some (.string (tx m.b.s)) := oxs1
        have xk1 : (wr).cell? ⟨p + 1, 1, none⟩ = some (.int .i64 m.b.k) := oxk1
        have xh0 := xg0 1
        have xh1 := xg1 1
        clear oxs0 oxs1 oxk0 oxk1 xc2 xc3 xc4 xc5 xg0 xg1 xg2
        obtain ⟨oys0, oys1, oyk0, oyk1, yc0, yc1, yc2, yc3, yc4, yc5, yg0, yg1, yg2⟩ := (r6).cells
        have ys1 : (w6).cell? ⟨p, 1, none⟩ = some (.string (tx m.b.s)) := oys1
        have yk1 : (w6).cell? ⟨p + 1, 1, none⟩ = some (.int .i64 m.b.k) := oyk1
        have yh0 := yg0 1
        have yh1 := yg1 1
        clear oys0 oys1 oyk0 oyk1 yc2 yc3 yc4 yc5 yg0 yg1 yg2
        clear hN r6 f6 hf r
        go_wp2
        refine St.wp_region_stage (fun _ wx => wx = wr.drew) (by kernel_rfl) (by kernel_rfl) (by kernel_rfl) rfl ?_
        repeat
          apply St.step_give
          · rfl
          · intro L wx hS hcl hrd
            subst hS
            go_simp
            try with_reducible rfl
          · exact fun L wx hS => hS
          simp only [Act.put, List.setIfInBounds_toArray, List.set_cons_zero, List.set_cons_succ]
        refine St.step_last ?_
        intro L wx hS _
        subst hS
        go_wp2
        go_region
        all_goals go_wp2
        all_goals
          go_roundw
          case rel => first | exact ⟨2, by omega, by go_num, R.drew, F.drew⟩ | ((repeat apply Exists.intro); exact ⟨⟨2, by omega, by go_num, R.drew, F.drew⟩, rfl⟩)
          case measure => simp [intOf]
      by_cases q2 : k1 = 0
      · have e1 : ((m.b.s.length : Int) - (m.b.k : Int) < 0) = False := eq_false (by omega)
        have hkept : Tape.kept m.b k1 = 0 := by unfold Tape.kept; omega
        have ew1 : IntKind.i64.wrap ((m.b.s.length : Int) - (m.b.k : Int)) = (m.b.s.length : Int) - (m.b.k : Int) := by rw [IntKind.wrap_i64]; omega
        have ew2 : IntKind.i64.wrap (m.b.k : Int) = (m.b.k : Int) := by rw [IntKind.wrap_i64]; omega
        subst q2
        obtain ⟨cap, w6, hcv, hcap, hN⟩ := doc_row wr.drew m.b.s (m.b.k) (by omega)
        have hcv : (convert 9 61 (.string (tx (m.b.s.take (m.b.k))))).run Tryz.prog wr.drew = .ok (.slice (some ⟨wr.heap.size, 0, none⟩) (m.b.k) cap) w6 := hcv
        have r6 := r.drew.below hN.below
        have f6 := (hf.drew).trans (FD.of_below hN.below (by show p ≤ wr.heap.size; omega))
        have hsz6 : w6.heap.size = wr.heap.size + 1 := hN.size
        have hE : (tx m.b.s).extract 0 (m.b.k) = tx (m.b.s.take (m.b.k)) := tx_take _ _
        obtain ⟨Wt, hW⟩ : ∃ Wt, tx (m.b.s.take (m.b.k)) = Wt := ⟨_, rfl⟩
        rw [hW] at hcv hE
        clear hW
        have R : RD p (crSt m k0 0 u 2) ((w6.setCell ⟨p, 1, none⟩ (.string (tx (m.b.s.take (m.b.k))))).setCell ⟨p + 1, 1, none⟩ (.int .i64 (m.b.k : Nat))) := by
          have := (r6.sB (m.b.s.take (m.b.k))).kB (m.b.k)
          unfold crSt
          unfold M.crash; rw [Tape.crash_none m.b _ _ hkept]
          exact this
        have F : FD p w0 ((w6.setCell ⟨p, 1, none⟩ (.string (tx (m.b.s.take (m.b.k))))).setCell ⟨p + 1, 1, none⟩ (.int .i64 (m.b.k : Nat))) := (f6.trans (FD.set0 p 1 _ _)).trans (FD.set1 p 1 _ _)
        have hback : (convert 61 9 (.slice (some ⟨wr.heap.size, 0, none⟩) (m.b.k) cap)).run Tryz.prog w6.drew = .ok (.string (tx (m.b.s.take (m.b.k)))) w6.drew :=
          doc_back (w := w6.drew) _ (by rw [List.length_take]; omega) (fun j hj => by
            rw [List.length_take] at hj
            have := hN.cell j (by omega) (by omega)
            rw [List.getElem_take]
            exact this)
        obtain ⟨oxs0, oxs1, oxk0, oxk1, xc0, xc1, xc2, xc3, xc4, xc5, xg0, xg1, xg2⟩ := (r).cells
        have xs1 : (wr).cell? ⟨p, 1, none⟩ = some (.string (tx m.b.s)) := oxs1
        have xk1 : (wr).cell? ⟨p + 1, 1, none⟩ = some (.int .i64 m.b.k) := oxk1
        have xh0 := xg0 1
        have xh1 := xg1 1
        clear oxs0 oxs1 oxk0 oxk1 xc2 xc3 xc4 xc5 xg0 xg1 xg2
        obtain ⟨oys0, oys1, oyk0, oyk1, yc0, yc1, yc2, yc3, yc4, yc5, yg0, yg1, yg2⟩ := (r6).cells
        have ys1 : (w6).cell? ⟨p, 1, none⟩ = some (.string (tx m.b.s)) := oys1
        have yk1 : (w6).cell? ⟨p + 1, 1, none⟩ = some (.int .i64 m.b.k) := oyk1
        have yh0 := yg0 1
        have yh1 := yg1 1
        clear oys0 oys1 oyk0 oyk1 yc2 yc3 yc4 yc5 yg0 yg1 yg2
        clear hN r6 f6 hf r
        go_wp2
        refine St.wp_region_stage (fun _ wx => wx = wr.drew) (by kernel_rfl) (by kernel_rfl) (by kernel_rfl) rfl ?_
        repeat
          apply St.step_give
          · rfl
          · intro L wx hS hcl hrd
            subst hS
            go_simp
            try with_reducible rfl
          · exact fun L wx hS => hS
          simp only [Act.put, List.setIfInBounds_toArray, List.set_cons_zero, List.set_cons_succ]
        refine St.step_last ?_
        intro L wx hS _
        subst hS
        go_wp2
        go_region
        all_goals go_wp2
        all_goals
          go_roundw
          case rel => first | exact ⟨2, by omega, by go_num, R.drew, F.drew⟩ | ((repeat apply Exists.intro); exact ⟨⟨2, by omega, by go_num, R.drew, F.drew⟩, rfl⟩)
          case measure => simp [intOf]
      by_cases q3 : m.b.k = m.b.s.length
      · have e1 : ((m.b.s.length : Int) - (m.b.k : Int) < k1) = True := eq_true (by omega)
        have e2 : ((0 : Int) < (m.b.s.length : Int) - (m.b.k : Int)) = False := eq_false (by omega)
        have e3 : ((m.b.k : Int) < (m.b.s.length : Int)) = False := eq_false (by omega)
        have e4 : (m.b.k < m.b.s.length) = False := eq_false (by omega)
        have Hq3 := Lib.hid q3
        have hkept : Tape.kept m.b k1 = 0 := by unfold Tape.kept; omega
        have ew1 : IntKind.i64.wrap ((m.b.s.length : Int) - (m.b.k : Int)) = (m.b.s.length : Int) - (m.b.k : Int) := by rw [IntKind.wrap_i64]; omega
        have ew2 : IntKind.i64.wrap (m.b.k : Int) = (m.b.k : Int) := by rw [IntKind.wrap_i64]; omega
        clear q3
        obtain ⟨cap, w6, hcv, hcap, hN⟩ := doc_row wr.drew m.b.s (m.b.k) (by omega)
        have hcv : (convert 9 61 (.string (tx (m.b.s.take (m.b.k))))).run Tryz.prog wr.drew = .ok (.slice (some ⟨wr.heap.size, 0, none⟩) (m.b.k) cap) w6 := hcv
        have r6 := r.drew.below hN.below
        have f6 := (hf.drew).trans (FD.of_below hN.below (by show p ≤ wr.heap.size; omega))
        have hsz6 : w6.heap.size = wr.heap.size + 1 := hN.size
        have hE : (tx m.b.s).extract 0 (m.b.k) = tx (m.b.s.take (m.b.k)) := tx_take _ _
        obtain ⟨Wt, hW⟩ : ∃ Wt, tx (m.b.s.take (m.b.k)) = Wt := ⟨_, rfl⟩
        rw [hW] at hcv hE
        clear hW
        have R : RD p (crSt m k0 k1 u 2) ((w6.setCell ⟨p, 1, none⟩ (.string (tx (m.b.s.take (m.b.k))))).setCell ⟨p + 1, 1, none⟩ (.int .i64 (m.b.k : Nat))) := by
          have := (r6.sB (m.b.s.take (m.b.k))).kB (m.b.k)
          unfold crSt
          unfold M.crash; rw [Tape.crash_none m.b _ _ hkept]
          exact this
        have F : FD p w0 ((w6.setCell ⟨p, 1, none⟩ (.string (tx (m.b.s.take (m.b.k))))).setCell ⟨p + 1, 1, none⟩ (.int .i64 (m.b.k : Nat))) := (f6.trans (FD.set0 p 1 _ _)).trans (FD.set1 p 1 _ _)
        have hback : (convert 61 9 (.slice (some ⟨wr.heap.size, 0, none⟩) (m.b.k) cap)).run Tryz.prog w6.drew = .ok (.string (tx (m.b.s.take (m.b.k)))) w6.drew :=
          doc_back (w := w6.drew) _ (by rw [List.length_take]; omega) (fun j hj => by
            rw [List.length_take] at hj
            have := hN.cell j (by omega) (by omega)
            rw [List.getElem_take]
            exact this)
        obtain ⟨oxs0, oxs1, oxk0, oxk1, xc0, xc1, xc2, xc3, xc4, xc5, xg0, xg1, xg2⟩ := (r).cells
        have xs1 : (wr).cell? ⟨p, 1, none⟩ = some (.string (tx m.b.s)) := oxs1
        have xk1 : (wr).cell? ⟨p + 1, 1, none⟩ = some (.int .i64 m.b.k) := oxk1
        have xh0 := xg0 1
        have xh1 := xg1 1
        clear oxs0 oxs1 oxk0 oxk1 xc2 xc3 xc4 xc5 xg0 xg1 xg2
        obtain ⟨oys0, oys1, oyk0, oyk1, yc0, yc1, yc2, yc3, yc4, yc5, yg0, yg1, yg2⟩ := (r6).cells
        have ys1 : (w6).cell? ⟨p, 1, none⟩ = some (.string (tx m.b.s)) := oys1
        have yk1 : (w6).cell? ⟨p + 1, 1, none⟩ = some (.int .i64 m.b.k) := oyk1
        have yh0 := yg0 1
        have yh1 := yg1 1
        clear oys0 oys1 oyk0 oyk1 yc2 yc3 yc4 yc5 yg0 yg1 yg2
        clear hN r6 f6 hf r
        go_wp2
        refine St.wp_region_stage (fun _ wx => wx = wr.drew) (by kernel_rfl) (by kernel_rfl) (by kernel_rfl) rfl ?_
        repeat
          apply St.step_give
          · rfl
          · intro L wx hS hcl hrd
            subst hS
            go_simp
            try with_reducible rfl
          · exact fun L wx hS => hS
          simp only [Act.put, List.setIfInBounds_toArray, List.set_cons_zero, List.set_cons_succ]
        refine St.step_last ?_
        intro L wx hS _
        subst hS
        go_wp2
        go_region
        all_goals go_wp2
        all_goals
          go_roundw
          case rel => first | exact ⟨2, by omega, by go_num, R.drew, F.drew⟩ | ((repeat apply Exists.intro); exact ⟨⟨2, by omega, by go_num, R.drew, F.drew⟩, rfl⟩)
          case measure => simp [intOf]
      by_cases q4 : k1 ≤ (m.b.s.length : Int) - m.b.k
      · obtain ⟨d, rfl⟩ : ∃ d : Nat, k1 = (d + 1 : Nat) := ⟨(k1 - 1).toNat, by omega⟩
        have hdl : m.b.k + (d + 1) ≤ m.b.s.length := by omega
        have hgt : ((m.b.k : Int) < (m.b.k : Int) + ((d : Int) + 1)) = True := eq_true (by omega)
        have e1 : ((m.b.s.length : Int) - (m.b.k : Int) < (d : Int) + 1) = False := eq_false (by omega)
        have e2 : ((0 : Int) < (d : Int) + 1) = True := eq_true (by omega)
        have ew1 : IntKind.i64.wrap ((m.b.s.length : Int) - (m.b.k : Int)) = (m.b.s.length : Int) - (m.b.k : Int) := by rw [IntKind.wrap_i64]; omega
        have ew2 : IntKind.i64.wrap ((m.b.k : Int) + ((d : Int) + 1)) = (m.b.k : Int) + ((d : Int) + 1) := by rw [IntKind.wrap_i64]; omega
        have Hq1 := Lib.hid q1
        have Hq2 := Lib.hid q2
        clear h10 h11 q1 q2
        obtain ⟨cap, w6, hcv, hcap, hN⟩ := doc_row wr.drew m.b.s (m.b.k + (d + 1)) (by omega)
        have hcv : (convert 9 61 (.string (tx (m.b.s.take (m.b.k + (d + 1)))))).run Tryz.prog wr.drew = .ok (.slice (some ⟨wr.heap.size, 0, none⟩) (m.b.k + (d + 1)) cap) w6 := hcv
        have r6 := r.drew.below hN.below
        have f6 := (hf.drew).trans (FD.of_below hN.below (by show p ≤ wr.heap.size; omega))
        have hsz6 : w6.heap.size = wr.heap.size + 1 := hN.size
        have hE : (tx m.b.s).extract 0 (m.b.k + (d + 1)) = tx (m.b.s.take (m.b.k + (d + 1))) := tx_take _ _
        obtain ⟨Wt, hW⟩ : ∃ Wt, tx (m.b.s.take (m.b.k + (d + 1))) = Wt := ⟨_, rfl⟩
        rw [hW] at hcv hE
        clear hW
        have hj : m.b.k + d < m.b.s.length := by omega
        obtain ⟨c, hc⟩ : ∃ c, m.b.s[m.b.k + d] = c := ⟨_, rfl⟩
        have hx : w6.cell? ⟨wr.heap.size, m.b.k + d, none⟩ = some (.int .u8 (c.toNat : Int)) := by rw [← hc]; exact hN.cell (m.b.k + d) (by omega) hj
        have hfx : w6.frozen? ⟨wr.heap.size, m.b.k + d, none⟩ = false := hN.frozen (m.b.k + d) (by omega)
        have r7 := r6.far wr.heap.size (m.b.k + d) (.int .u8 (bits .xor .u8 (c.toNat : Int) (u.toNat : Int))) (by omega)
        have f7 : FD p w0 (w6.setCell ⟨wr.heap.size, m.b.k + d, none⟩ (.int .u8 (bits .xor .u8 (c.toNat : Int) (u.toNat : Int)))) := FD.far (m.b.k + d) f6 (.int .u8 (bits .xor .u8 (c.toNat : Int) (u.toNat : Int))) (by have := hf.below.size; omega) (by have := hbox; omega)
        have R : RD p (crSt m k0 ((d + 1 : Nat) : Int) u 2) (((w6.setCell ⟨wr.heap.size, m.b.k + d, none⟩ (.int .u8 (bits .xor .u8 (c.toNat : Int) (u.toNat : Int)))).setCell ⟨p, 1, none⟩ (.string (tx ((m.b.s.take (m.b.k + (d + 1))).set (m.b.k + d) (c ^^^ u))))).setCell ⟨p + 1, 1, none⟩ (.int .i64 ((m.b.k + (d + 1)) : Nat))) := by
          have := (r7.sB ((m.b.s.take (m.b.k + (d + 1))).set (m.b.k + d) (c ^^^ u))).kB (m.b.k + (d + 1))
          unfold crSt
          unfold M.crash; rw [Tape.crash_some m.b ((d + 1 : Nat) : Int) u (m.b.k + (d + 1)) (m.b.k + d) (by omega) (by unfold Tape.kept; omega) (by omega) (by omega) hj]
          rw [hc]
          exact this
        have F : FD p w0 (((w6.setCell ⟨wr.heap.size, m.b.k + d, none⟩ (.int .u8 (bits .xor .u8 (c.toNat : Int) (u.toNat : Int)))).setCell ⟨p, 1, none⟩ (.string (tx ((m.b.s.take (m.b.k + (d + 1))).set (m.b.k + d) (c ^^^ u))))).setCell ⟨p + 1, 1, none⟩ (.int .i64 ((m.b.k + (d + 1)) : Nat))) := (f7.trans (FD.set0 p 1 _ _)).trans (FD.set1 p 1 _ _)
        have hback : (convert 61 9 (.slice (some ⟨wr.heap.size, 0, none⟩) (m.b.k + (d + 1)) cap)).run Tryz.prog (w6.setCell ⟨wr.heap.size, m.b.k + d, none⟩ (.int .u8 (bits .xor .u8 (c.toNat : Int) (u.toNat : Int)))).drew.drew = .ok (.string (tx ((m.b.s.take (m.b.k + (d + 1))).set (m.b.k + d) (c ^^^ u)))) (w6.setCell ⟨wr.heap.size, m.b.k + d, none⟩ (.int .u8 (bits .xor .u8 (c.toNat : Int) (u.toNat : Int)))).drew.drew :=
          doc_back (w := (w6.setCell ⟨wr.heap.size, m.b.k + d, none⟩ (.int .u8 (bits .xor .u8 (c.toNat : Int) (u.toNat : Int)))).drew.drew) _ (by rw [List.length_set, List.length_take]; omega) (fun j hjj => by
            rw [List.length_set, List.length_take] at hjj
            show (w6.setCell ⟨wr.heap.size, m.b.k + d, none⟩ (.int .u8 (bits .xor .u8 (c.toNat : Int) (u.toNat : Int)))).cell? ⟨wr.heap.size, j, none⟩ = _
            by_cases hjk : j = m.b.k + d
            · subst hjk
              rw [World.cell?_setCell_same _ _ _ hx, xor_byte, List.getElem_set_self]
            · rw [World.cell?_setCell_other _ _ _ _ (by first | (simp; done) | (simp; omega)), List.getElem_set_ne (by omega), List.getElem_take]
              exact hN.cell j (by omega) (by omega))
        obtain ⟨oxs0, oxs1, oxk0, oxk1, xc0, xc1, xc2, xc3, xc4, xc5, xg0, xg1, xg2⟩ := (r).cells
        have xs1 : (wr).cell? ⟨p, 1, none⟩ = some (.string (tx m.b.s)) := oxs1
        have xk1 : (wr).cell? ⟨p + 1, 1, none⟩ = some (.int .i64 m.b.k) := oxk1
        have xh0 := xg0 1
        have xh1 := xg1 1
        clear oxs0 oxs1 oxk0 oxk1 xc2 xc3 xc4 xc5 xg0 xg1 xg2
        obtain ⟨oys0, oys1, oyk0, oyk1, yc0, yc1, yc2, yc3, yc4, yc5, yg0, yg1, yg2⟩ := (r6).cells
        have ys1 : (w6).cell? ⟨p, 1, none⟩ = some (.string (tx m.b.s)) := oys1
        have yk1 : (w6).cell? ⟨p + 1, 1, none⟩ = some (.int .i64 m.b.k) := oyk1
        have yh0 := yg0 1
        have yh1 := yg1 1
        clear oys0 oys1 oyk0 oyk1 yc2 yc3 yc4 yc5 yg0 yg1 yg2
        obtain ⟨ozs0, ozs1, ozk0, ozk1, zc0, zc1, zc2, zc3, zc4, zc5, zg0, zg1, zg2⟩ := (r7).cells
        have zs1 : ((w6.setCell ⟨wr.heap.size, m.b.k + d, none⟩ (.int .u8 (bits .xor .u8 (c.toNat : Int) (u.toNat : Int))))).cell? ⟨p, 1, none⟩ = some (.string (tx m.b.s)) := ozs1
        have zk1 : ((w6.setCell ⟨wr.heap.size, m.b.k + d, none⟩ (.int .u8 (bits .xor .u8 (c.toNat : Int) (u.toNat : Int))))).cell? ⟨p + 1, 1, none⟩ = some (.int .i64 m.b.k) := ozk1
        have zh0 := zg0 1
        have zh1 := zg1 1
        clear ozs0 ozs1 ozk0 ozk1 zc2 zc3 zc4 zc5 zg0 zg1 zg2
        have hn0 : ¬ p = wr.heap.size := by omega
        have hn1 : ¬ p + 1 = wr.heap.size := by omega
        have hn2 : ¬ p + 2 = wr.heap.size := by omega
        have hn3 : ¬ wr.heap.size = w.heap.size := by omega
        have yu : w6.cell? ⟨w.heap.size, 2, none⟩ = some (.int .u8 u.toNat) := by
          rw [hN.below.cell (p := ⟨w.heap.size, 2, none⟩) (by show w.heap.size < wr.heap.size; omega)]; exact bu
        clear hN r6 f6 hf r r7 f7 hc
        go_wp2
        refine St.wp_region_stage (fun _ wx => wx = wr.drew) (by kernel_rfl) (by kernel_rfl) (by kernel_rfl) rfl ?_
        repeat
          apply St.step_give
          · rfl
          · intro L wx hS hcl hrd
            subst hS
            go_simp
            try with_reducible rfl
          · exact fun L wx hS => hS
          simp only [Act.put, List.setIfInBounds_toArray, List.set_cons_zero, List.set_cons_succ]
        refine St.step_last ?_
        intro L wx hS _
        subst hS
        go_wp2
        go_region
        all_goals go_wp2
        all_goals go_region
        all_goals go_wp2
        all_goals
          go_roundw
          case rel => first | exact ⟨2, by omega, by go_num, R.drew.drew, F.drew.drew⟩ | ((repeat apply Exists.intro); exact ⟨⟨2, by omega, by go_num, R.drew.drew, F.drew.drew⟩, rfl⟩)
          case measure => simp [intOf]
      · obtain ⟨d, hd⟩ : ∃ d, m.b.s.length = d + 1 := ⟨m.b.s.length - 1, by omega⟩
        have e1 : ((d : Int) + 1 - (m.b.k : Int) < k1) = True := eq_true (by omega)
        have e2 : ((0 : Int) < (d : Int) + 1 - (m.b.k : Int)) = True := eq_true (by omega)
        have ew1 : IntKind.i64.wrap ((d : Int) + 1 - (m.b.k : Int)) = (d : Int) + 1 - (m.b.k : Int) := by rw [IntKind.wrap_i64]; omega
        have ew2 : IntKind.i64.wrap ((m.b.k : Int) + ((d : Int) + 1 - (m.b.k : Int))) = (m.b.k : Int) + ((d : Int) + 1 - (m.b.k : Int)) := by rw [IntKind.wrap_i64]; omega
        obtain ⟨cap, w6, hcv, hcap, hN⟩ := doc_row wr.drew m.b.s (m.b.k + (d + 1 - m.b.k)) (by omega)
        have hcv : (convert 9 61 (.string (tx (m.b.s.take (m.b.k + (d + 1 - m.b.k)))))).run Tryz.prog wr.drew = .ok (.slice (some ⟨wr.heap.size, 0, none⟩) (m.b.k + (d + 1 - m.b.k)) cap) w6 := hcv
        have r6 := r.drew.below hN.below
        have f6 := (hf.drew).trans (FD.of_below hN.below (by show p ≤ wr.heap.size; omega))
        have hsz6 : w6.heap.size = wr.heap.size + 1 := hN.size
        have hE : (tx m.b.s).extract 0 (m.b.k + (d + 1 - m.b.k)) = tx (m.b.s.take (m.b.k + (d + 1 - m.b.k))) := tx_take _ _
        obtain ⟨Wt, hW⟩ : ∃ Wt, tx (m.b.s.take (m.b.k + (d + 1 - m.b.k))) = Wt := ⟨_, rfl⟩
        rw [hW] at hcv hE
        clear hW
        have hj : m.b.k + (d + 1 - m.b.k) - 1 < m.b.s.length := by omega
        obtain ⟨c, hc⟩ : ∃ c, m.b.s[m.b.k + (d + 1 - m.b.k) - 1] = c := ⟨_, rfl⟩
        have hx : w6.cell? ⟨wr.heap.size, m.b.k + (d + 1 - m.b.k) - 1, none⟩ = some (.int .u8 (c.toNat : Int)) := by rw [← hc]; exact hN.cell (m.b.k + (d + 1 - m.b.k) - 1) (by omega) hj
        have hfx : w6.frozen? ⟨wr.heap.size, m.b.k + (d + 1 - m.b.k) - 1, none⟩ = false := hN.frozen (m.b.k + (d + 1 - m.b.k) - 1) (by omega)
        have r7 := r6.far wr.heap.size (m.b.k + (d + 1 - m.b.k) - 1) (.int .u8 (bits .xor .u8 (c.toNat : Int) (u.toNat : Int))) (by omega)
        have f7 : FD p w0 (w6.setCell ⟨wr.heap.size, m.b.k + (d + 1 - m.b.k) - 1, none⟩ (.int .u8 (bits .xor .u8 (c.toNat : Int) (u.toNat : Int)))) := FD.far (m.b.k + (d + 1 - m.b.k) - 1) f6 (.int .u8 (bits .xor .u8 (c.toNat : Int) (u.toNat : Int))) (by have := hf.below.size; omega) (by have := hbox; omega)
        have R : RD p (crSt m k0 k1 u 2) (((w6.setCell ⟨wr.heap.size, m.b.k + (d + 1 - m.b.k) - 1, none⟩ (.int .u8 (bits .xor .u8 (c.toNat : Int) (u.toNat : Int)))).setCell ⟨p, 1, none⟩ (.string (tx ((m.b.s.take (m.b.k + (d + 1 - m.b.k))).set (m.b.k + (d + 1 - m.b.k) - 1) (c ^^^ u))))).setCell ⟨p + 1, 1, none⟩ (.int .i64 ((m.b.k + (d + 1 - m.b.k)) : Nat))) := by
          have := (r7.sB ((m.b.s.take (m.b.k + (d + 1 - m.b.k))).set (m.b.k + (d + 1 - m.b.k) - 1) (c ^^^ u))).kB (m.b.k + (d + 1 - m.b.k))
          unfold crSt
          unfold M.crash; rw [Tape.crash_some m.b k1 u (m.b.k + (d + 1 - m.b.k)) (m.b.k + (d + 1 - m.b.k) - 1) (by omega) (by unfold Tape.kept; omega) (by omega) (by omega) hj]
          rw [hc]
          exact this
        have F : FD p w0 (((w6.setCell ⟨wr.heap.size, m.b.k + (d + 1 - m.b.k) - 1, none⟩ (.int .u8 (bits .xor .u8 (c.toNat : Int) (u.toNat : Int)))).setCell ⟨p, 1, none⟩ (.string (tx ((m.b.s.take (m.b.k + (d + 1 - m.b.k))).set (m.b.k + (d + 1 - m.b.k) - 1) (c ^^^ u))))).setCell ⟨p + 1, 1, none⟩ (.int .i64 ((m.b.k + (d + 1 - m.b.k)) : Nat))) := (f7.trans (FD.set0 p 1 _ _)).trans (FD.set1 p 1 _ _)
        have hcast : ((m.b.k + (d + 1 - m.b.k) : Nat) : Int) = (m.b.k : Int) + ((d : Int) + 1 - (m.b.k : Int)) := by omega
        rw [hcast] at R F
        clear hcast
        have hback : (convert 61 9 (.slice (some ⟨wr.heap.size, 0, none⟩) (m.b.k + (d + 1 - m.b.k)) cap)).run Tryz.prog (w6.setCell ⟨wr.heap.size, m.b.k + (d + 1 - m.b.k) - 1, none⟩ (.int .u8 (bits .xor .u8 (c.toNat : Int) (u.toNat : Int)))).drew.drew = .ok (.string (tx ((m.b.s.take (m.b.k + (d + 1 - m.b.k))).set (m.b.k + (d + 1 - m.b.k) - 1) (c ^^^ u)))) (w6.setCell ⟨wr.heap.size, m.b.k + (d + 1 - m.b.k) - 1, none⟩ (.int .u8 (bits .xor .u8 (c.toNat : Int) (u.toNat : Int)))).drew.drew :=
          doc_back (w := (w6.setCell ⟨wr.heap.size, m.b.k + (d + 1 - m.b.k) - 1, none⟩ (.int .u8 (bits .xor .u8 (c.toNat : Int) (u.toNat : Int)))).drew.drew) _ (by rw [List.length_set, List.length_take]; omega) (fun j hjj => by
            rw [List.length_set, List.length_take] at hjj
            show (w6.setCell ⟨wr.heap.size, m.b.k + (d + 1 - m.b.k) - 1, none⟩ (.int .u8 (bits .xor .u8 (c.toNat : Int) (u.toNat : Int)))).cell? ⟨wr.heap.size, j, none⟩ = _
            by_cases hjk : j = m.b.k + (d + 1 - m.b.k) - 1
            · subst hjk
              rw [World.cell?_setCell_same _ _ _ hx, xor_byte, List.getElem_set_self]
            · rw [World.cell?_setCell_other _ _ _ _ (by first | (simp; done) | (simp; omega)), List.getElem_set_ne (by omega), List.getElem_take]
              exact hN.cell j (by omega) (by omega))
        obtain ⟨oxs0, oxs1, oxk0, oxk1, xc0, xc1, xc2, xc3, xc4, xc5, xg0, xg1, xg2⟩ := (r).cells
        have xs1 : (wr).cell? ⟨p, 1, none⟩ = some (.string (tx m.b.s)) := oxs1
        have xk1 : (wr).cell? ⟨p + 1, 1, none⟩ = some (.int .i64 m.b.k) := oxk1
        have xh0 := xg0 1
        have xh1 := xg1 1
        clear oxs0 oxs1 oxk0 oxk1 xc2 xc3 xc4 xc5 xg0 xg1 xg2
        obtain ⟨oys0, oys1, oyk0, oyk1, yc0, yc1, yc2, yc3, yc4, yc5, yg0, yg1, yg2⟩ := (r6).cells
        have ys1 : (w6).cell? ⟨p, 1, none⟩ = some (.string (tx m.b.s)) := oys1
        have yk1 : (w6).cell? ⟨p + 1, 1, none⟩ = some (.int .i64 m.b.k) := oyk1
        have yh0 := yg0 1
        have yh1 := yg1 1
        clear oys0 oys1 oyk0 oyk1 yc2 yc3 yc4 yc5 yg0 yg1 yg2
        obtain ⟨ozs0, ozs1, ozk0, ozk1, zc0, zc1, zc2, zc3, zc4, zc5, zg0, zg1, zg2⟩ := (r7).cells
        have zs1 : ((w6.setCell ⟨wr.heap.size, m.b.k + (d + 1 - m.b.k) - 1, none⟩ (.int .u8 (bits .xor .u8 (c.toNat : Int) (u.toNat : Int))))).cell? ⟨p, 1, none⟩ = some (.string (tx m.b.s)) := ozs1
        have zk1 : ((w6.setCell ⟨wr.heap.size, m.b.k + (d + 1 - m.b.k) - 1, none⟩ (.int .u8 (bits .xor .u8 (c.toNat : Int) (u.toNat : Int))))).cell? ⟨p + 1, 1, none⟩ = some (.int .i64 m.b.k) := ozk1
        have zh0 := zg0 1
        have zh1 := zg1 1
        clear ozs0 ozs1 ozk0 ozk1 zc2 zc3 zc4 zc5 zg0 zg1 zg2
        have hn0 : ¬ p = wr.heap.size := by omega
        have hn1 : ¬ p + 1 = wr.heap.size := by omega
        have hn2 : ¬ p + 2 = wr.heap.size := by omega
        have hn3 : ¬ wr.heap.size = w.heap.size := by omega
        have yu : w6.cell? ⟨w.heap.size, 2, none⟩ = some (.int .u8 u.toNat) := by
          rw [hN.below.cell (p := ⟨w.heap.size, 2, none⟩) (by show w.heap.size < wr.heap.size; omega)]; exact bu
        clear hN r6 f6 hf r r7 f7 hc
        go_wp2
        refine St.wp_region_stage (fun _ wx => wx = wr.drew) (by kernel_rfl) (by kernel_rfl) (by kernel_rfl) rfl ?_
        repeat
          apply St.step_give
          · rfl
          · intro L wx hS hcl hrd
            subst hS
            go_simp
            try with_reducible rfl
          · exact fun L wx hS => hS
          simp only [Act.put, List.setIfInBounds_toArray, List.set_cons_zero, List.set_cons_succ]
        refine St.step_last ?_
        intro L wx hS _
        subst hS
        go_wp2
        go_region
        all_goals go_wp2
        all_goals go_region
        all_goals go_wp2
        all_goals
          go_roundw
          case rel => first | exact ⟨2, by omega, by go_num, R.drew.drew, F.drew.drew⟩ | ((repeat apply Exists.intro); exact ⟨⟨2, by omega, by go_num, R.drew.drew, F.drew.drew⟩, rfl⟩)
          case measure => simp [intOf]
    | 2, _ =>
      go_wp2
      go_end0
      exact ⟨rfl, r, hfz.trans hf⟩

end Go.Proofs.YtglkapamkigdhaaGreatDoor.Rl

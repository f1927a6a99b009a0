/-
  The document's Of. Conditions: descriptors that may be; at most 1,000,000 entries; texts of at most 2^47 bytes.
  The laws' entries: whether a list of entries is short enough. Condition: at most 2^47 entries, texts of at most 2^47 bytes.
  MemberOf, walked. Conditions: lengths at most 2^47; numbers such as a program can hold; the library's variables hold what their types allow.
-/
import Derived.Test.YthcmnkmfhgoddaaGreatDoorOMbOfA
import Derived.Test.YthcmnkmfhgoddaaGreatDoorODsRRA
import Derived.Test.YthcmnkmfhgoddaaGreatDoorOOdRC
import Derived.Test.YthcmnkmfhgoddaaGreatDoorOMbMA
import Derived.Test.YthcmnkmfhgoddaaGreatDoorORoRows
import Derived.Test.YthcmnkmfhgoddaaGreatDoorOBaseA
import Derived.Test.YthcmnkmfhgoddaaGreatDoorOMbLRA
import Derived.Test.YthcmnkmfhgoddaaGreatDoorODsSMA
namespace Go.Proofs.YthcmnkmfhgoddaaGreatDoor.Mb
open Go.RowKit Bnd
open Go.Proofs.YthcmnkmfhgoddaaGreatDoor.Ds (De SM ArgM OwnM isD dv addD removeD BoxE BoxD putW)
open Go.Proofs.YthcmnkmfhgoddaaGreatDoor.Od (BoxA av parseA)
open Go.Proofs.YthcmnkmfhgoddaaGreatDoor.Ro (SE)
theorem boxA_far {n m : Nat} {o : Od.Ask} {g : De} {s : Value} {w : World} (h : BoxA m o w) (hne : m ≠ n) : BoxA m o (putW w n g s) := by
  unfold putW
  iterate 6 refine BoxA.other ?_ (by simpa using Ne.symm hne) _
  exact h
set_option maxHeartbeats 16000000 in
set_option maxRecDepth 100000 in
theorem rof_any (d : De) (s : Value) (v : Value) (l : List En) (w : World) (h : ArgM w s d.ms) (hd : isD d = true) (hl : SE w w.heap.size v l) (hn : l.length ≤ 1000000) (ht : ∀ e ∈ l, e.2.size ≤ 140737488355328) :
    Calls Tryz.prog 14 #[dv d s, v] w (GaveX w (ofD d l)) := by
  obtain ⟨A, c, rfl⟩ := h.form
  obtain ⟨V, cv, rfl⟩ := hl.form
  obtain ⟨nm, hnm⟩ : ∃ n, d.ms.length = n := ⟨_, rfl⟩
  obtain ⟨nl, hnl⟩ : ∃ n, l.length = n := ⟨_, rfl⟩
  have HNL := Lib.hid hnl
  have HSE := Lib.hid hl
  have HHD := Lib.hid hd
  have HTX := Lib.hid ht
  rw [hnl] at hn HSE ⊢
  rw [hnm] at h ⊢
  obtain ⟨W0, hW0⟩ : ∃ W0, (w.alloc (.cells #[.int .i64 d.id, .string d.f, .string d.t, .int .i64 d.gen, (.slice A nm c), .int .i64 d.next] 26)).alloc (.cells #[.int .i64 0, .string ⟨#[]⟩, .string ⟨#[]⟩, .int .i64 0, .slice none 0 0, .int .i64 0] 26) = W0 := ⟨_, rfl⟩
  have hb0 : Below w.heap.size w W0 := hW0 ▸ (by (repeat' (first | with_reducible assumption | with_reducible exact Below.refl _ _ | with_reducible refine Below.alloc ?_ ?_ _ | with_reducible refine Below.setCell ?_ ?_ _ | with_reducible refine Below.drew ?_ | omega | (simp; done) | (simp; omega))))
  have BD : BoxE w.heap.size d (.slice A nm c) W0 := hW0 ▸ (BoxE.new w d (.slice A nm c)).alloc _
  have B4 : BoxE (w.heap.size + 1) De.zero (.slice none 0 0) W0 := by
    have := BoxE.new (w.alloc (.cells #[.int .i64 d.id, .string d.f, .string d.t, .int .i64 d.gen, (.slice A nm c), .int .i64 d.next] 26)) De.zero (.slice none 0 0)
    rw [World.size_alloc] at this
    rw [← hW0]
    exact this
  have HA0 := Lib.hid (h.keep hb0)
  clear h hd hl ht hnm hnl
  go_enter Tryz.func14, Tryz.ntmps14
  go_wp2_with fail
  try rw [hW0]
  clear hW0
  go_loopw [5] (fun vi wr => ∃ (k : Nat) (B : Option Addr) (nb cb : Nat), k ≤ nl ∧ vi = .int .i64 (k : Int) ∧ Hid (ArgM wr (.slice B nb cb) (ofD d (l.take k)).ms) ∧ BoxE w.heap.size (ofD d (l.take k)) (.slice B nb cb) wr ∧ BoxE (w.heap.size + 1) De.zero (.slice none 0 0) wr ∧ Below w.heap.size w wr) (fun vi _ => nl - (intOf vi).toNat)
  case atStart => exact ⟨0, A, nm, c, Nat.zero_le _, rfl, HA0, BD, B4, hb0⟩
  case round =>
    clear HA0 BD B4 hb0
    obtain ⟨k, B, nb, cb, hk, rfl, HAR, BD, B4, hbw⟩ := hrel
    by_cases hlt : k < nl
    · have hkl : k < l.length := by rw [HNL.out]; exact hlt
      have hta := ofD_take d l k hkl
      obtain ⟨b, o, hV, hb, q0, q1⟩ := HSE.out.at_ hkl
      have htx := HTX.out _ (List.getElem_mem hkl)
      obtain ⟨⟨tm, tx⟩, hx⟩ : ∃ e, l[k] = e := ⟨_, rfl⟩
      rw [hx] at q0 q1 hta htx
      simp only at q0 q1 hta htx
      have hisD : isD (ofD d (l.take k)) = true := of_is HHD.out
      obtain ⟨DK, hDK⟩ : ∃ e, ofD d (l.take k) = e := ⟨_, rfl⟩
      rw [hDK] at hta HAR BD hisD
      obtain ⟨⟨x', E⟩, hp⟩ : ∃ e, parseA tx.data.toList = e := ⟨_, rfl⟩
      have hstep : ofD d (l.take (k + 1)) = if E = 0 then turnD DK x' else DK := by rw [hta]; unfold stepD; rw [hp]
      have g0 := (hbw.cell (p := ⟨b, o + k * 2, none⟩) hb).trans q0
      have g1 := (hbw.cell (p := ⟨b, o + k * 2 + 1, none⟩) hb).trans q1
      have hwz := hbw.size
      have hbz : b < wr.heap.size := by omega
      have k0 : (0 ≤ (k : Int)) = True := eq_true (by omega)
      have k1 : ((k : Int) < (nl : Int)) = True := eq_true (by omega)
      have cP := fun w' => Od.rparse_any tx w' htx
      rw [hp] at cP
      simp only at cP
      have HST := Lib.hid hstep
      have HIS := Lib.hid hisD
      clear hta hx hDK hp hstep q0 q1 htx hkl hisD
      subst hV
      go_wp2_with fail
      refine (cP _).mono ?_
      rintro e' w3 ⟨rfl, b3⟩
      have BD3 := BD.keep b3
      have B43 := B4.keep b3
      have hb3 := hbw.trans (b3.mono hwz)
      have HA3 := Lib.hid (HAR.out.keep b3)
      clear cP b3 g0 g1 hbz hb BD B4 HAR
      by_cases hE : E = 0
      rotate_left
      · have hT : ofD d (l.take (k + 1)) = DK := by rw [HST.out, if_neg hE]
        have HT := Lib.hid hT
        have n1 : (E == 0) = false := by simpa using hE
        have n2 : (E != 0) = true := by simpa using hE
        have n3 : (E = 0) = False := eq_false hE
        obtain ⟨W4, hW4⟩ : ∃ W4, w3.alloc (.cells #[.int .i64 x'.kind, .int .i64 x'.client, .int .i64 x'.seq, .string x'.key, .string x'.til, .string x'.val, .string x'.old, .bool x'.has, .int .i64 x'.lim, .int .i64 x'.id, .int .i64 x'.node] 40) = W4 := ⟨_, rfl⟩
        have h34 : Below w3.heap.size w3 W4 := hW4 ▸ (Below.refl _ w3).alloc (Nat.le_refl _) _
        have BO : BoxA w3.heap.size x' W4 := hW4 ▸ BoxA.new w3 x'
        have BD4 := BD3.keep h34
        have B44 := B43.keep h34
        have hb4 := hb3.trans (h34.mono hb3.size)
        have HA4 := Lib.hid (HA3.out.keep h34)
        have hlt3 := BD3.1.1
        have hz4 := hb4.size
        clear h34 BD3 B43 hb3 HA3
        clear HST hT hE
        go_wp2_with fail
        try rw [hW4]
        clear hW4
        try go_wp2_with fail
        go_roundw
        case rel => exact ⟨k + 1, B, nb, cb, by omega, by go_num, Lib.hid (by rw [HT.out]; exact HA4.out), by rw [HT.out]; exact BD4, B44, hb4⟩
        case measure => simp [intOf]; omega
      subst hE
      have hT : ofD d (l.take (k + 1)) = turnD DK x' := HST.out
      clear HST
      obtain ⟨W4, hW4⟩ : ∃ W4, (w3.alloc (.cells #[.int .i64 x'.kind, .int .i64 x'.client, .int .i64 x'.seq, .string x'.key, .string x'.til, .string x'.val, .string x'.old, .bool x'.has, .int .i64 x'.lim, .int .i64 x'.id, .int .i64 x'.node] 40)).alloc (.cells #[.int .i64 0, .string ⟨#[]⟩, .string ⟨#[]⟩, .int .i64 0, .slice none 0 0, .int .i64 0] 26) = W4 := ⟨_, rfl⟩
      have h34 : Below w3.heap.size w3 W4 := by rw [← hW4]; exact ((Below.refl _ w3).alloc (Nat.le_refl _) _).alloc (by simp) _
      have BO0 : BoxA w3.heap.size x' W4 := hW4 ▸ (BoxA.new w3 x').alloc _
      have BX0 : BoxE (w3.heap.size + 1) De.zero (.slice none 0 0) W4 := by
        have := BoxE.new (w3.alloc (.cells #[.int .i64 x'.kind, .int .i64 x'.client, .int .i64 x'.seq, .string x'.key, .string x'.til, .string x'.val, .string x'.old, .bool x'.has, .int .i64 x'.lim, .int .i64 x'.id, .int .i64 x'.node] 40)) De.zero (.slice none 0 0)
        rw [World.size_alloc] at this
        rw [← hW4]
        exact this
      have hlt3 := BD3.1.1
      have hltz := B43.1.1
      have hz3 := hb3.size
      obtain ⟨W5, hW5⟩ : ∃ W5, (((((W4.setCell ⟨w3.heap.size + 1, 0, none⟩ (.int .i64 0)).setCell ⟨w3.heap.size + 1, 1, none⟩ (.string ⟨#[]⟩)).setCell ⟨w3.heap.size + 1, 2, none⟩ (.string ⟨#[]⟩)).setCell ⟨w3.heap.size + 1, 3, none⟩ (.int .i64 0)).setCell ⟨w3.heap.size + 1, 4, none⟩ (.slice none 0 0)).setCell ⟨w3.heap.size + 1, 5, none⟩ (.int .i64 0) = W5 := ⟨_, rfl⟩
      have e5 : putW W4 (w3.heap.size + 1) De.zero (.slice none 0 0) = W5 := hW5
      have BX : BoxE (w3.heap.size + 1) De.zero (.slice none 0 0) W5 := e5 ▸ BX0.put De.zero (.slice none 0 0)
      have BO : BoxA w3.heap.size x' W5 := e5 ▸ boxA_far BO0 (by omega)
      have BD4 : BoxE w.heap.size DK (.slice B nb cb) W5 := e5 ▸ boxE_far (BD3.keep h34) (by omega)
      have B44 : BoxE (w.heap.size + 1) De.zero (.slice none 0 0) W5 := e5 ▸ boxE_far (B43.keep h34) (by omega)
      have hb4 : Below w.heap.size w W5 := e5 ▸ putW_low (hb3.trans (h34.mono hb3.size)) (by omega)
      have HA4 := Lib.hid (e5 ▸ BX0.put_arg ⟨_, _, _, rfl⟩ (HA3.out.keep h34) : ArgM W5 (.slice B nb cb) DK.ms)
      have hz4 := hb4.size
      have hz9 : W5.heap.size = w3.heap.size + 2 := by rw [← hW5, ← hW4]; simp
      obtain ⟨⟨v_0, ⟨v_1, v_2, v_3, v_4, v_5, v_6⟩, v_7⟩, -⟩ := _root_.id BX0
      simp only [De.zero] at v_1 v_2 v_3 v_4 v_5 v_6
      clear h34 BD3 B43 hb3 HA3 BO0 BX0 e5
      have hfit := Dp.isD_fit HIS.out
      by_cases hk10 : x'.kind = 10
      · have hturn : turnD DK x' = if (addD DK x'.node).2 = 0 then (addD DK x'.node).1 else DK := by
          unfold turnD changeD isCh
          rw [hk10]
          rfl
        have cC := fun w' (h : ArgM w' (.slice B nb cb) DK.ms) => Ds.radd_any DK (.slice B nb cb) x'.node w' h hfit
        obtain ⟨⟨g, en⟩, hG⟩ : ∃ p, addD DK x'.node = p := ⟨_, rfl⟩
        rw [hG] at cC hturn
        simp only at hturn
        rw [hturn] at hT
        have HT := Lib.hid hT
        have m1 : (x'.kind == 10) = true := by simpa using hk10
        have m2 : (x'.kind = 10) = True := eq_true hk10
        clear hT hturn hG hk10
        obtain ⟨q_0, ⟨q_1, q_2, q_3, q_4, q_5, q_6, q_7, q_8, q_9, q_10, q_11⟩, q_12⟩ := _root_.id BO
        obtain ⟨⟨p_0, ⟨p_1, p_2, p_3, p_4, p_5, p_6⟩, p_7⟩, -⟩ := _root_.id BD4
        obtain ⟨⟨r_0, ⟨r_1, r_2, r_3, r_4, r_5, r_6⟩, r_7⟩, -⟩ := _root_.id BX
        go_wp2_with fail
        try rw [hW4]
        try go_wp2_with fail
        try rw [hW5]
        try go_wp2_with fail
        refine (cC _ HA4.out).mono ?_
        rintro e' w5 ⟨s5, rfl, ha5, b5⟩
        obtain ⟨G5, c5, rfl⟩ := ha5.form
        simp only at ha5
        obtain ⟨n5, hn5⟩ : ∃ n, g.ms.length = n := ⟨_, rfl⟩
        rw [hn5] at ha5
        simp only [hn5]
        have BD5 := BD4.keep b5
        have B45 := B44.keep b5
        have BX5 := BX.keep b5
        have hb5 := hb4.trans (b5.mono hb4.size)
        have HA5 := Lib.hid (HA4.out.keep b5)
        clear p_0 p_1 p_2 p_3 p_4 p_5 p_6 p_7 r_0 r_1 r_2 r_3 r_4 r_5 r_6 r_7 v_0 v_1 v_2 v_3 v_4 v_5 v_6 v_7 hW4 hW5
        clear q_0 q_1 q_2 q_3 q_4 q_5 q_6 q_7 q_8 q_9 q_10 q_11 q_12
        clear cC b5 BD4 B44 hb4 BO HA4 hn5 BX
        obtain ⟨W6, hW6⟩ : ∃ W6, (((((w5.setCell ⟨w3.heap.size + 1, 0, none⟩ (.int .i64 g.id)).setCell ⟨w3.heap.size + 1, 1, none⟩ (.string g.f)).setCell ⟨w3.heap.size + 1, 2, none⟩ (.string g.t)).setCell ⟨w3.heap.size + 1, 3, none⟩ (.int .i64 g.gen)).setCell ⟨w3.heap.size + 1, 4, none⟩ (.slice G5 n5 c5)).setCell ⟨w3.heap.size + 1, 5, none⟩ (.int .i64 g.next) = W6 := ⟨_, rfl⟩
        have e6 : putW w5 (w3.heap.size + 1) g (.slice G5 n5 c5) = W6 := hW6
        have BX6 : BoxE (w3.heap.size + 1) g (.slice G5 n5 c5) W6 := e6 ▸ BX5.put g (.slice G5 n5 c5)
        have ha6 : ArgM W6 (.slice G5 n5 c5) g.ms := e6 ▸ BX5.put_arg ⟨_, _, _, rfl⟩ ha5
        have HA6 := Lib.hid (e6 ▸ BX5.put_arg ⟨_, _, _, rfl⟩ HA5.out : ArgM W6 (.slice B nb cb) DK.ms)
        have BD6 : BoxE w.heap.size DK (.slice B nb cb) W6 := e6 ▸ boxE_far BD5 (by omega)
        have B46 : BoxE (w.heap.size + 1) De.zero (.slice none 0 0) W6 := e6 ▸ boxE_far B45 (by omega)
        have hb6 : Below w.heap.size w W6 := e6 ▸ putW_low hb5 (by omega)
        obtain ⟨⟨p_0, ⟨p_1, p_2, p_3, p_4, p_5, p_6⟩, p_7⟩, -⟩ := _root_.id BX5
        clear e6
        by_cases hen : en = 0
        · subst hen
          have hT : ofD d (l.take (k + 1)) = g := HT.out
          have HT := Lib.hid hT
          clear hT BD5 B45 hb5 HA5 ha5
          obtain ⟨⟨r_0, ⟨r_1, r_2, r_3, r_4, r_5, r_6⟩, r_7⟩, -⟩ := _root_.id BX6
          obtain ⟨⟨v_0, ⟨v_1, v_2, v_3, v_4, v_5, v_6⟩, v_7⟩, -⟩ := _root_.id BD6
          go_wp2_with fail
          try rw [hW6]
          try go_wp2_with fail
          clear p_0 p_1 p_2 p_3 p_4 p_5 p_6 p_7 r_0 r_1 r_2 r_3 r_4 r_5 r_6 r_7 v_0 v_1 v_2 v_3 v_4 v_5 v_6 v_7 hW6
          go_roundw
          case rel =>
            refine ⟨k + 1, G5, n5, c5, by omega, by go_num, Lib.hid ?_, ?_, ?_, ?_⟩
            · rw [HT.out]; exact BD6.put_arg (d := g) (s := .slice G5 n5 c5) ⟨_, _, _, rfl⟩ ha6
            · rw [HT.out]; exact BD6.put g (.slice G5 n5 c5)
            · exact boxE_far (n := w.heap.size) (g := g) (s := .slice G5 n5 c5) B46 (by omega)
            · exact putW_low (n := w.heap.size) (d := g) (s := .slice G5 n5 c5) hb6 (Nat.le_refl _)
          case measure => simp [intOf]; omega
        · have hT : ofD d (l.take (k + 1)) = DK := HT.out.trans (if_neg hen)
          have HT := Lib.hid hT
          have n1 : (en == 0) = false := by simpa using hen
          have n2 : (en = 0) = False := eq_false hen
          clear hT BD5 B45 hb5 HA5 ha5 ha6 hen
          go_wp2_with fail
          try rw [hW6]
          clear hW6 p_0 p_1 p_2 p_3 p_4 p_5 p_6 p_7 BX5
          try go_wp2_with fail
          go_roundw
          case rel => exact ⟨k + 1, B, nb, cb, by omega, by go_num, Lib.hid (by rw [HT.out]; exact HA6.out), by rw [HT.out]; exact BD6, B46, hb6⟩
          case measure => simp [intOf]; omega
      by_cases hk11 : x'.kind = 11
      · have hturn : turnD DK x' = if (removeD DK x'.id).2 = 0 then (removeD DK x'.id).1 else DK := by
          unfold turnD changeD isCh
          rw [hk11]
          rfl
        have cC := fun w' (h : ArgM w' (.slice B nb cb) DK.ms) => Ds.rremove_any DK (.slice B nb cb) x'.id w' h hfit
        obtain ⟨⟨g, en⟩, hG⟩ : ∃ p, removeD DK x'.id = p := ⟨_, rfl⟩
        rw [hG] at cC hturn
        simp only at hturn
        rw [hturn] at hT
        have HT := Lib.hid hT
        have m1 : (x'.kind == 11) = true := by simpa using hk11
        have m2 : (x'.kind = 11) = True := eq_true hk11
        have m3 : (x'.kind == 10) = false := by simpa using hk10
        have m4 : (x'.kind = 10) = False := eq_false hk10
        clear hT hturn hG hk11
        obtain ⟨q_0, ⟨q_1, q_2, q_3, q_4, q_5, q_6, q_7, q_8, q_9, q_10, q_11⟩, q_12⟩ := _root_.id BO
        obtain ⟨⟨p_0, ⟨p_1, p_2, p_3, p_4, p_5, p_6⟩, p_7⟩, -⟩ := _root_.id BD4
        obtain ⟨⟨r_0, ⟨r_1, r_2, r_3, r_4, r_5, r_6⟩, r_7⟩, -⟩ := _root_.id BX
        go_wp2_with fail
        try rw [hW4]
        try go_wp2_with fail
        try rw [hW5]
        try go_wp2_with fail
        refine (cC _ HA4.out).mono ?_
        rintro e' w5 ⟨s5, rfl, ha5, b5⟩
        obtain ⟨G5, c5, rfl⟩ := ha5.form
        simp only at ha5
        obtain ⟨n5, hn5⟩ : ∃ n, g.ms.length = n := ⟨_, rfl⟩
        rw [hn5] at ha5
        simp only [hn5]
        have BD5 := BD4.keep b5
        have B45 := B44.keep b5
        have BX5 := BX.keep b5
        have hb5 := hb4.trans (b5.mono hb4.size)
        have HA5 := Lib.hid (HA4.out.keep b5)
        clear p_0 p_1 p_2 p_3 p_4 p_5 p_6 p_7 r_0 r_1 r_2 r_3 r_4 r_5 r_6 r_7 v_0 v_1 v_2 v_3 v_4 v_5 v_6 v_7 hW4 hW5
        clear q_0 q_1 q_2 q_3 q_4 q_5 q_6 q_7 q_8 q_9 q_10 q_11 q_12
        clear cC b5 BD4 B44 hb4 BO HA4 hn5 BX
        obtain ⟨W6, hW6⟩ : ∃ W6, (((((w5.setCell ⟨w3.heap.size + 1, 0, none⟩ (.int .i64 g.id)).setCell ⟨w3.heap.size + 1, 1, none⟩ (.string g.f)).setCell ⟨w3.heap.size + 1, 2, none⟩ (.string g.t)).setCell ⟨w3.heap.size + 1, 3, none⟩ (.int .i64 g.gen)).setCell ⟨w3.heap.size + 1, 4, none⟩ (.slice G5 n5 c5)).setCell ⟨w3.heap.size + 1, 5, none⟩ (.int .i64 g.next) = W6 := ⟨_, rfl⟩
        have e6 : putW w5 (w3.heap.size + 1) g (.slice G5 n5 c5) = W6 := hW6
        have BX6 : BoxE (w3.heap.size + 1) g (.slice G5 n5 c5) W6 := e6 ▸ BX5.put g (.slice G5 n5 c5)
        have ha6 : ArgM W6 (.slice G5 n5 c5) g.ms := e6 ▸ BX5.put_arg ⟨_, _, _, rfl⟩ ha5
        have HA6 := Lib.hid (e6 ▸ BX5.put_arg ⟨_, _, _, rfl⟩ HA5.out : ArgM W6 (.slice B nb cb) DK.ms)
        have BD6 : BoxE w.heap.size DK (.slice B nb cb) W6 := e6 ▸ boxE_far BD5 (by omega)
        have B46 : BoxE (w.heap.size + 1) De.zero (.slice none 0 0) W6 := e6 ▸ boxE_far B45 (by omega)
        have hb6 : Below w.heap.size w W6 := e6 ▸ putW_low hb5 (by omega)
        obtain ⟨⟨p_0, ⟨p_1, p_2, p_3, p_4, p_5, p_6⟩, p_7⟩, -⟩ := _root_.id BX5
        clear e6
        by_cases hen : en = 0
        · subst hen
          have hT : ofD d (l.take (k + 1)) = g := HT.out
          have HT := Lib.hid hT
          clear hT BD5 B45 hb5 HA5 ha5
          obtain ⟨⟨r_0, ⟨r_1, r_2, r_3, r_4, r_5, r_6⟩, r_7⟩, -⟩ := _root_.id BX6
          obtain ⟨⟨v_0, ⟨v_1, v_2, v_3, v_4, v_5, v_6⟩, v_7⟩, -⟩ := _root_.id BD6
          go_wp2_with fail
          try rw [hW6]
          try go_wp2_with fail
          clear p_0 p_1 p_2 p_3 p_4 p_5 p_6 p_7 r_0 r_1 r_2 r_3 r_4 r_5 r_6 r_7 v_0 v_1 v_2 v_3 v_4 v_5 v_6 v_7 hW6
          go_roundw
          case rel =>
            refine ⟨k + 1, G5, n5, c5, by omega, by go_num, Lib.hid ?_, ?_, ?_, ?_⟩
            · rw [HT.out]; exact BD6.put_arg (d := g) (s := .slice G5 n5 c5) ⟨_, _, _, rfl⟩ ha6
            · rw [HT.out]; exact BD6.put g (.slice G5 n5 c5)
            · exact boxE_far (n := w.heap.size) (g := g) (s := .slice G5 n5 c5) B46 (by omega)
            · exact putW_low (n := w.heap.size) (d := g) (s := .slice G5 n5 c5) hb6 (Nat.le_refl _)
          case measure => simp [intOf]; omega
        · have hT : ofD d (l.take (k + 1)) = DK := HT.out.trans (if_neg hen)
          have HT := Lib.hid hT
          have n1 : (en == 0) = false := by simpa using hen
          have n2 : (en = 0) = False := eq_false hen
          clear hT BD5 B45 hb5 HA5 ha5 ha6 hen
          go_wp2_with fail
          try rw [hW6]
          clear hW6 p_0 p_1 p_2 p_3 p_4 p_5 p_6 p_7 BX5
          try go_wp2_with fail
          go_roundw
          case rel => exact ⟨k + 1, B, nb, cb, by omega, by go_num, Lib.hid (by rw [HT.out]; exact HA6.out), by rw [HT.out]; exact BD6, B46, hb6⟩
          case measure => simp [intOf]; omega
      have hT2 : ofD d (l.take (k + 1)) = DK := by
        rw [hT]
        unfold turnD isCh
        rw [if_neg (by simp; omega)]
      have HT := Lib.hid hT2
      have m1 : (x'.kind == 10) = false := by simpa using hk10
      have m2 : (x'.kind = 10) = False := eq_false hk10
      have m3 : (x'.kind == 11) = false := by simpa using hk11
      have m4 : (x'.kind = 11) = False := eq_false hk11
      clear hT hT2 hk10 hk11
      obtain ⟨q_0, ⟨q_1, q_2, q_3, q_4, q_5, q_6, q_7, q_8, q_9, q_10, q_11⟩, q_12⟩ := _root_.id BO
      go_wp2_with fail
      try rw [hW4]
      try go_wp2_with fail
      try rw [hW5]
      try go_wp2_with fail
      go_roundw
      case rel => exact ⟨k + 1, B, nb, cb, by omega, by go_num, Lib.hid (by rw [HT.out]; exact HA4.out), by rw [HT.out]; exact BD4, B44, hb4⟩
      case measure => simp [intOf]; omega
    · obtain rfl : k = nl := by omega
      have htk : l.take k = l := by rw [← HNL.out]; exact List.take_length
      rw [htk] at HAR BD
      clear hlt htk
      obtain ⟨⟨p_0, ⟨p_1, p_2, p_3, p_4, p_5, p_6⟩, p_7⟩, -⟩ := _root_.id BD
      obtain ⟨⟨r_0, ⟨r_1, r_2, r_3, r_4, r_5, r_6⟩, r_7⟩, -⟩ := _root_.id B4
      obtain ⟨DD, hDD⟩ : ∃ t, ofD d l = t := ⟨_, rfl⟩
      rw [hDD] at HAR p_1 p_2 p_3 p_4 p_6
      have HDD := Lib.hid hDD
      clear hDD
      go_wp2_with fail
      exact bodyPost_ret (Ds.res_box Tryz.results14 rfl (B4.put DD (.slice B nb cb)).1) rfl ⟨_, by rw [HDD.out], by rw [HDD.out]; exact B4.put_arg (d := DD) (s := .slice B nb cb) ⟨_, _, _, rfl⟩ HAR.out, putW_low (n := w.heap.size + 1) hbw (by omega)⟩
end Go.Proofs.YthcmnkmfhgoddaaGreatDoor.Mb

namespace Go.Proofs.YthcmnkmfhgoddaaGreatDoor.Mb
open Go.RowKit Bnd
open Go.Proofs.YthcmnkmfhgoddaaGreatDoor.Ro (SE)
def sumE (l : List En) : Nat := (l.map fun e => e.2.size).sum
theorem sumE_take {l : List En} {k : Nat} (h : k < l.length) : sumE (l.take (k + 1)) = sumE (l.take k) + (l[k]).2.size := by
  unfold sumE; rw [List.take_succ_eq_append_getElem h, List.map_append, List.sum_append]; simp only [List.map_cons, List.map_nil, List.sum_cons, List.sum_nil, Nat.add_zero]
structure SmallE (l : List En) : Prop where
  n : l.length ≤ 40
  sum : sumE l ≤ 10000
def EntOut (l : List En) (e : Ending) : Prop := ∃ x, e = .returned (.bool x) ∧ (x = true → SmallE l)
theorem EntOut.no (l : List En) : EntOut l (.returned (.bool false)) := ⟨false, rfl, fun h => by cases h⟩
set_option maxHeartbeats 8000000 in
set_option maxRecDepth 100000 in
theorem ents_any (v : Value) (es : List En) (w : World) (hs : SE w w.heap.size v es) (hl : es.length ≤ 140737488355328) (hf : ∀ e ∈ es, e.2.size ≤ 140737488355328) :
    Calls Tryz.prog 9 #[v] w fun e w' => EntOut es e ∧ w = w' := by
  obtain ⟨A, c, rfl⟩ := hs.form
  obtain ⟨N, hN⟩ : ∃ N, es.length = N := ⟨_, rfl⟩
  have HN := Lib.hid hN
  have HV := Lib.hid hs
  rw [hN] at hl HV ⊢
  clear hN hs
  go_enter Tryz.func9, Tryz.ntmps9
  go_wp2_with fail
  go_loopw [3, 4] (fun v3 v4 wr => ∃ (i S : Nat), i ≤ N ∧ i ≤ 41 ∧ v4 = .int .i64 (i : Int) ∧ v3 = .int .i64 (S : Int) ∧ Hid (S ≤ 900000000000000) ∧ Hid (S = sumE (es.take i)) ∧ wr = w) (fun _ v4 _ => N - (intOf v4).toNat)
  case atStart => exact ⟨0, 0, Nat.zero_le _, by omega, rfl, rfl, Lib.hid (by omega), Lib.hid (by simp [sumE]), rfl⟩
  case round =>
    obtain ⟨i, S, hi, hi2, rfl, rfl, HS9, HSM, rfl⟩ := hrel
    have g0 : ((i : Int) < (N : Int)) = (i < N) := by simp
    by_cases hlt : i < N
    rotate_left
    · obtain rfl : i = N := by omega
      have g1 : ((i : Int) < (i : Int)) = False := eq_false (by omega)
      clear g0
      by_cases h1 : i ≤ 40
      rotate_left
      · have g2 : ((i : Int) ≤ 40) = False := eq_false (by omega)
        clear h1
        go_wp2_with fail
        go_ret
        exact ⟨EntOut.no _, rfl⟩
      have g2 : ((i : Int) ≤ 40) = True := eq_true (by omega)
      by_cases h2 : S ≤ 10000
      rotate_left
      · have g3 : ((S : Int) ≤ 10000) = False := eq_false (by omega)
        clear h1 h2
        go_wp2_with fail
        go_ret
        exact ⟨EntOut.no _, rfl⟩
      have g3 : ((S : Int) ≤ 10000) = True := eq_true (by omega)
      have HF : Hid (SmallE es) := Lib.hid ⟨by have := HN.out; omega, by
        have := HSM.out
        rw [List.take_of_length_le (by have := HN.out; omega)] at this
        omega⟩
      clear h1 h2
      go_wp2_with fail
      go_ret
      exact ⟨⟨true, rfl, fun _ => HF.out⟩, rfl⟩
    · have g1 : ((i : Int) < (N : Int)) = True := eq_true (by omega)
      clear g0
      by_cases h1 : i ≤ 40
      rotate_left
      · have g2 : ((i : Int) ≤ 40) = False := eq_false (by omega)
        have g3 : ((N : Int) ≤ 40) = False := eq_false (by omega)
        clear h1
        go_wp2_with fail
        go_ret
        exact ⟨EntOut.no _, rfl⟩
      have g2 : ((i : Int) ≤ 40) = True := eq_true (by omega)
      by_cases h2 : S ≤ 10000
      rotate_left
      · have g3 : ((S : Int) ≤ 10000) = False := eq_false (by omega)
        clear h2
        by_cases h3 : N ≤ 40
        · have g4 : ((N : Int) ≤ 40) = True := eq_true (by omega)
          go_wp2_with fail
          go_ret
          exact ⟨EntOut.no _, rfl⟩
        · have g4 : ((N : Int) ≤ 40) = False := eq_false (by omega)
          go_wp2_with fail
          go_ret
          exact ⟨EntOut.no _, rfl⟩
      have g3 : ((S : Int) ≤ 10000) = True := eq_true (by omega)
      have hix : i < es.length := by rw [HN.out]; exact hlt
      have hv1 := HV.out
      obtain ⟨b, o, rfl, hb, q0, q1⟩ := hv1.at_ hix
      have hfx := hf _ (List.getElem_mem hix)
      have hsm := sumE_take hix
      obtain ⟨⟨x, y⟩, hx⟩ : ∃ x, es[i] = x := ⟨_, rfl⟩
      rw [hx] at q0 q1 hfx hsm
      simp only at q0 q1 hfx hsm
      have k0 : (0 ≤ (i : Int)) = True := eq_true (by omega)
      obtain ⟨S1, hS1⟩ : ∃ S1 : Nat, S1 = S + y.size := ⟨_, rfl⟩
      have j1 : IntKind.i64.wrap ((S : Int) + (y.size : Int)) = (S1 : Int) := by rw [IntKind.wrap_i64] <;> omega
      have HS2 : Hid (S1 ≤ 900000000000000) := Lib.hid (by omega)
      have HSM2 : Hid (S1 = sumE (es.take (i + 1))) := Lib.hid (by have := HSM.out; omega)
      clear hv1 hx hix hfx hsm hS1 h2 HS9 HSM
      go_wp2_with fail
      go_roundw
      case rel => exact ⟨i + 1, S1, by omega, by omega, by go_num, rfl, HS2, HSM2, by trivial⟩
      case measure => simp [intOf]; omega
end Go.Proofs.YthcmnkmfhgoddaaGreatDoor.Mb

namespace Go.Proofs.YthcmnkmfhgoddaaGreatDoor.Mb
open Go.RowKit Bnd
open Go.Proofs.YthcmnkmfhgoddaaGreatDoor.Ds (De SM ArgM OwnM isD dv BoxE BoxD sameD run_append2)
open Go.Proofs.YthcmnkmfhgoddaaGreatDoor.Ro (SE ArgE)
set_option maxHeartbeats 16000000 in
set_option maxRecDepth 100000 in
theorem of_walk (d : De) (s v : Value) (l : List En) (w : World) (hs : ArgM w s d.ms) (hf : d.f.size ≤ 140737488355328) (ht : d.t.size ≤ 140737488355328) (hd : d.ms.length ≤ 140737488355328) (hv : ArgE w v l) (hl : l.length ≤ 140737488355328) (hx : ∀ e ∈ l, e.2.size ≤ 140737488355328) (hg : Good w) :
    Calls Tryz.prog 3 #[dv d s, v] w fun e w' => e = .returned (.bool true) ∧ Below w.heap.size w w' := by
  obtain ⟨A, c, rfl⟩ := hs.form
  obtain ⟨V, cv, rfl⟩ := hv.form
  have HB5 := Lib.hid (show isD d = true → d.ms.length ≤ 1000 from fun h => by have := ((Ds.isD_iff d).1 h).2.2.2.2.1.2; omega)
  have HG := Lib.hid hg
  have HX := Lib.hid hx
  obtain ⟨nd, hnd⟩ : ∃ n, d.ms.length = n := ⟨_, rfl⟩
  obtain ⟨n1, hn1⟩ : ∃ n, l.length = n := ⟨_, rfl⟩
  have HND := Lib.hid hnd
  have H1 := Lib.hid hn1
  rw [hnd] at hs hd ⊢
  rw [hn1] at hv hl ⊢
  obtain ⟨W0, hW0⟩ : ∃ W0, w.alloc (.cells #[.int .i64 d.id, .string d.f, .string d.t, .int .i64 d.gen, .slice A nd c, .int .i64 d.next] 26) = W0 := ⟨_, rfl⟩
  have hb0 : Below w.heap.size w W0 := hW0 ▸ (by (repeat' (first | with_reducible assumption | with_reducible exact Below.refl _ _ | with_reducible refine Below.alloc ?_ ?_ _ | with_reducible refine Below.setCell ?_ ?_ _ | with_reducible refine Below.drew ?_ | omega | (simp; done) | (simp; omega))))
  have BD : BoxD w.heap.size d (.slice A nd c) W0 := hW0 ▸ BoxD.new w d (.slice A nd c)
  have KD := fun w' (h : Below W0.heap.size W0 w') => hs.keep (hb0.trans (h.mono hb0.size))
  have KV := fun w' (h : Below W0.heap.size W0 w') => hv.keep (hb0.trans (h.mono hb0.size))
  have cE := fun w' (h : Below W0.heap.size W0 w') => ents_any _ l w' (KV w' h).sm (by have := H1.out; omega) HX.out
  have cI := fun w' (h : Below W0.heap.size W0 w') => Ds.ris_any d _ w' (KD w' h).sm hf ht (by have := HND.out; omega)
  have cL := fun w' (h : Below W0.heap.size W0 w') => live_any w' (HG.out.below (hb0.trans (h.mono hb0.size)))
  obtain ⟨D, hD⟩ : ∃ b, isD d = b := ⟨_, rfl⟩
  have HD := Lib.hid hD
  rw [hD] at cI
  have h0 := Below.refl W0.heap.size W0
  have hbox : ∀ wx, Below W0.heap.size W0 wx → BoxD w.heap.size d (.slice A nd c) wx := fun wx h => BD.keep h
  clear hs hv hnd hn1 hf ht hd hg hD BD hx
  obtain ⟨_, ⟨z0, z1, z2, z3, z4, z5⟩, y0⟩ := hbox _ h0
  go_enter Tryz.func3, Tryz.ntmps3
  go_wp2_with fail
  try rw [hW0]
  clear hW0
  try go_wp2_with fail
  refine (cE _ h0).mono ?_
  rintro e w1 ⟨⟨x1, rfl, s1⟩, rfl⟩
  have HS1 := Lib.hid s1
  clear s1 cE
  cases x1 with
  | false =>
    go_wp2_with fail
    refine (cL _ h0).mono ?_
    rintro e wz ⟨rfl, b⟩
    have hz := (h0).trans (b.mono (h0).size)
    go_wp2_with fail
    go_ret
    exact ⟨rfl, hb0.trans (hz.mono hb0.size)⟩
  | true =>
  have se := HS1.out rfl
  clear HS1
  go_wp2_with fail
  refine (cI _ h0).mono ?_
  rintro e w2 ⟨rfl, b⟩
  have h2 := h0.trans (b.mono h0.size)
  clear b z0 z1 z2 z3 z4 z5 y0 cI
  cases D with
  | false =>
    go_wp2_with fail
    refine (cL _ h2).mono ?_
    rintro e wz ⟨rfl, b⟩
    have hz := (h2).trans (b.mono (h2).size)
    go_wp2_with fail
    go_ret
    exact ⟨rfl, hb0.trans (hz.mono hb0.size)⟩
  | true =>
  have hd1 := HD.out
  have hd2 := HB5.out hd1
  have hl1 := se.n
  have hn40 : n1 ≤ 40 := by have := H1.out; omega
  have cO := fun s v w' (hs : ArgM w' s d.ms) (hv : SE w' w'.heap.size v l) (h : Below W0.heap.size W0 w') => of_any d s v l w' hs hd1 hv (by omega) HX.out (HG.out.below (hb0.trans (h.mono hb0.size)))
  have cR := fun s v w' (hs : ArgM w' s d.ms) (hv : SE w' w'.heap.size v l) => rof_any d s v l w' hs hd1 hv (by omega) HX.out
  obtain ⟨E, hE⟩ : ∃ E, ofD d l = E := ⟨_, rfl⟩
  rw [hE] at cO cR
  have hEi : isD E = true := hE ▸ of_is hd1
  have hEn : E.ms.length ≤ 1000 := by have := ((Ds.isD_iff E).1 hEi).2.2.2.2.1.2; omega
  have cS1 := fun sa sb w' (ha : ArgM w' sa E.ms) (hb : ArgM w' sb E.ms) => Ds.rsame_any E E sa sb w' ha.sm hb.sm (by omega) (by omega)
  have cS2 := fun sa sb w' (ha : ArgM w' sa d.ms) (hb : ArgM w' sb d.ms) => Ds.rsame_any d d sa sb w' ha.sm hb.sm (by omega) (by omega)
  rw [Ds.sameD_self] at cS1 cS2
  obtain ⟨ne, hne⟩ : ∃ n, E.ms.length = n := ⟨_, rfl⟩
  have HNE := Lib.hid hne
  have HD1 := Lib.hid hd1
  have HD2 := Lib.hid hd2
  have HL1 := Lib.hid hl1
  clear hE hEi hEn hne hd1 hd2 hl1 se hl
  -- given
  obtain ⟨_, ⟨z0, z1, z2, z3, z4, z5⟩, y0⟩ := hbox _ h2
  obtain ⟨V0, hV0⟩ : ∃ V0, w2.alloc (.cells #[.int .i64 d.id, .string d.f, .string d.t, .int .i64 d.gen, .slice A nd c, .int .i64 d.next] 26) = V0 := ⟨_, rfl⟩
  have b20 : Below w2.heap.size w2 V0 := hV0 ▸ (Below.refl _ w2).alloc (Nat.le_refl _) _
  have G0 : BoxE w2.heap.size d (.slice A nd c) V0 := hV0 ▸ BoxE.new w2 d (.slice A nd c)
  have hv0 : Below W0.heap.size W0 V0 := h2.trans (b20.mono h2.size)
  have hz0 := hv0.size
  have D0 := hbox V0 hv0
  have K0 := KD (V0.alloc (.cells #[] 70)) (hv0.alloc (by omega) _)
  clear b20
  obtain ⟨_, ⟨g0, g1, g2, g3, g4, g5⟩, yg⟩ := G0.1
  obtain ⟨_, ⟨d0, d1, d2, d3, d4, d5⟩, yd⟩ := _root_.id D0
  go_wp2_with (first | rw [hV0] | (at_builtin; refine Ds.wpList_append_ms rfl _ _ rfl V0.heap.size _ [] rfl (Ds.own_empty V0) (by simp) _ d.ms rfl K0 (by have := HD2.out; simp; omega) ?_))
  clear z0 z1 z2 z3 z4 z5 y0 g0 g1 g2 g3 g4 g5 yg d0 d1 d2 d3 d4 d5 yd K0
  intro v' w3 hown hbn _
  have ha3 := ArgM.of_own hown
  obtain ⟨A1, c1, rfl⟩ := ha3.form
  rw [HND.out] at ha3 ⊢
  have hbv : Below V0.heap.size V0 w3 := ((Below.refl _ V0).alloc (Nat.le_refl _) _).trans hbn
  have G3 := G0.keep hbv
  have hv3 : Below W0.heap.size W0 w3 := hv0.trans (hbv.mono hv0.size)
  have D3 := hbox w3 hv3
  have hz3 := hbv.size
  obtain ⟨V1, hV1⟩ : ∃ V1, w3.setCell ⟨w2.heap.size, 4, none⟩ (.slice A1 nd c1) = V1 := ⟨_, rfl⟩
  have G1 : BoxE w2.heap.size d (.slice A1 nd c1) V1 := hV1 ▸ boxE_set4 G3 _
  have a1 : ArgM V1 (.slice A1 nd c1) d.ms := hV1 ▸ boxE_arg4 G3 ha3 _
  have h2z := h2.size
  have hv1 : Below W0.heap.size W0 V1 := hV1 ▸ hv3.setCell (p := ⟨w2.heap.size, 4, none⟩) (by show W0.heap.size ≤ w2.heap.size; omega) _
  have D1 := hbox V1 hv1
  clear hown hbn hV0 hbv hz3 ha3 G0 D0
  obtain ⟨_, ⟨g0, g1, g2, g3, g4, g5⟩, yg⟩ := G3.1
  go_wp2_with (rw [hV1])
  clear g0 g1 g2 g3 g4 g5 yg G3 D3 hV1 hv3
  have hboxs : ∀ wx, Below V1.heap.size V1 wx → BoxD w.heap.size d (.slice A nd c) wx ∧ BoxD w2.heap.size d (.slice A1 nd c1) wx := fun wx h => ⟨D1.keep h, G1.1.keep h⟩
  have hlow : ∀ wx, Below V1.heap.size V1 wx → Below W0.heap.size W0 wx := fun wx h => hv1.trans (h.mono hv1.size)
  have KA := fun wx (h : Below V1.heap.size V1 wx) => a1.keep h
  have h10 := Below.refl V1.heap.size V1
  clear D1 G1 a1 hbox
  refine St.wp_region_mixed (RT V1 (fun j => match j with | 3 => some (.en l) | 4 => some (.de E) | 7 => some (.de E) | _ => none)) (fun j x => match j with | 4 => ∃ A c, x = dv E (.slice A ne c) | 7 => ∃ A c, x = dv E (.slice A ne c) | 8 => x = .bool true | 12 => x = .bool true | 15 => x = .bool true | _ => True) (by kernel_rfl) (by kernel_rfl) (by kernel_rfl) (RT.start h10) ?_
  apply St.mix_give
  · rfl
  · intro L u' wx hS hcl hrd hag
    obtain ⟨⟨_, ⟨z0, z1, z2, z3, z4, z5⟩, y0⟩, ⟨_, ⟨g0, g1, g2, g3, g4, g5⟩, y1⟩⟩ := hboxs _ hS.low
    go_simp
    try with_reducible rfl
  · exact fun L u' wx hS => hS.plain rfl _
  simp only [Act.put, List.setIfInBounds_toArray, List.set_cons_zero, List.set_cons_succ]
  refine St.mix_free (fun z => ∃ b, z = .slice (some ⟨b, 0, none⟩) 0 0) rfl ?_ ?_
  · intro L u' wx hS hcl hrd hag
    refine ⟨.slice (some ⟨wx.heap.size, 0, none⟩) 0 0, wx.alloc (.cells #[] 47), ⟨_, rfl⟩, ?_, hS.into rfl ((Below.refl _ wx).alloc (Nat.le_refl _) _) _⟩
    go_simp
    try with_reducible rfl
  rintro y1 ⟨b1, rfl⟩
  simp only [Act.put, List.setIfInBounds_toArray, List.set_cons_zero, List.set_cons_succ]
  apply St.mix_give
  · rfl
  · intro L u' wx hS hcl hrd hag
    go_simp
    try with_reducible rfl
  · exact fun L u' wx hS => hS.plain rfl _
  simp only [Act.put, List.setIfInBounds_toArray, List.set_cons_zero, List.set_cons_succ]
  refine St.mix_free (fun z => ∃ A c, z = .slice A n1 c) rfl ?_ ?_
  · intro L u' wx hS hcl hrd hag
    obtain ⟨v', w', k1, k2, k3⟩ := run_append_ents ⟨b1, 0, none⟩ (KV wx (hlow wx hS.low)) (by have := HL1.out; omega) 27
    obtain ⟨A', c', e'⟩ := argE_form k2 H1.out
    exact ⟨v', w', ⟨A', c', e'⟩, run_append2 rfl rfl rfl k1, hS.got rfl k3 k2⟩
  rintro y3 ⟨A3, c3, rfl⟩
  simp only [Act.put, List.setIfInBounds_toArray, List.set_cons_zero, List.set_cons_succ]
  refine St.mix_call (f := 13) (args := #[dv d (.slice A1 nd c1), .slice A3 n1 c3]) rfl ?_ ?_ ?_
  · intro wx
    go_simp
    try with_reducible rfl
  · intro L u' wx hS hcl hrd hag
    refine (cO _ _ wx (KA wx hS.low) (hS.en (k := 3) (St.before_ready hcl hrd 4 3 (by kernel_rfl)) rfl (hag 4 3 (by kernel_rfl))).sm (hlow wx hS.low)).mono ?_
    rintro e w' ⟨s6, rfl, a6, b⟩
    obtain ⟨A6, c6, rfl⟩ := a6.form
    rw [HNE.out] at a6 ⊢
    exact ⟨_, rfl, ⟨A6, c6, rfl⟩, hS.got rfl b ⟨_, rfl, a6⟩⟩
  rintro y4 ⟨A4, c4, rfl⟩
  simp only [Act.put, List.setIfInBounds_toArray, List.set_cons_zero, List.set_cons_succ]
  apply St.mix_give
  · rfl
  · intro L u' wx hS hcl hrd hag
    obtain ⟨⟨_, ⟨z0, z1, z2, z3, z4, z5⟩, y0⟩, ⟨_, ⟨g0, g1, g2, g3, g4, g5⟩, y1⟩⟩ := hboxs _ hS.low
    go_simp
    try with_reducible rfl
  · exact fun L u' wx hS => hS.plain rfl _
  simp only [Act.put, List.setIfInBounds_toArray, List.set_cons_zero, List.set_cons_succ]
  apply St.mix_give
  · rfl
  · intro L u' wx hS hcl hrd hag
    go_simp
    try with_reducible rfl
  · exact fun L u' wx hS => hS.plain rfl _
  simp only [Act.put, List.setIfInBounds_toArray, List.set_cons_zero, List.set_cons_succ]
  refine St.mix_call (f := 14) (args := #[dv d (.slice A nd c), .slice V n1 cv]) rfl ?_ ?_ ?_
  · intro wx
    go_simp
    try with_reducible rfl
  · intro L u' wx hS hcl hrd hag
    refine (cR _ _ wx (KD wx (hlow wx hS.low)) (KV wx (hlow wx hS.low)).sm).mono ?_
    rintro e w' ⟨s6, rfl, a6, b⟩
    obtain ⟨A6, c6, rfl⟩ := a6.form
    rw [HNE.out] at a6 ⊢
    exact ⟨_, rfl, ⟨A6, c6, rfl⟩, hS.got rfl b ⟨_, rfl, a6⟩⟩
  rintro y7 ⟨A7, c7, rfl⟩
  simp only [Act.put, List.setIfInBounds_toArray, List.set_cons_zero, List.set_cons_succ]
  refine St.mix_into (f := 12) (args := #[dv E (.slice A4 ne c4), dv E (.slice A7 ne c7)]) rfl rfl ?_ ?_ ?_
  · intro wx
    go_simp
    try with_reducible rfl
  · intro L u' wx hS hcl hrd hag
    refine (cS1 _ _ wx (hS.de (k := 4) (St.before_ready hcl hrd 8 4 (by kernel_rfl)) rfl (hag 8 4 (by kernel_rfl))) (hS.de (k := 7) (St.before_ready hcl hrd 8 7 (by kernel_rfl)) rfl (hag 8 7 (by kernel_rfl)))).mono ?_
    rintro e w' ⟨rfl, b⟩
    exact ⟨rfl, hS.into rfl b _⟩
  simp only [Act.put, List.setIfInBounds_toArray, List.set_cons_zero, List.set_cons_succ]
  apply St.mix_give
  · rfl
  · intro L u' wx hS hcl hrd hag
    go_simp
    try with_reducible rfl
  · exact fun L u' wx hS => hS.plain rfl _
  simp only [Act.put, List.setIfInBounds_toArray, List.set_cons_zero, List.set_cons_succ]
  apply St.mix_give
  · rfl
  · intro L u' wx hS hcl hrd hag
    obtain ⟨⟨_, ⟨z0, z1, z2, z3, z4, z5⟩, y0⟩, ⟨_, ⟨g0, g1, g2, g3, g4, g5⟩, y1⟩⟩ := hboxs _ hS.low
    go_simp
    try with_reducible rfl
  · exact fun L u' wx hS => hS.plain rfl _
  simp only [Act.put, List.setIfInBounds_toArray, List.set_cons_zero, List.set_cons_succ]
  apply St.mix_give
  · rfl
  · intro L u' wx hS hcl hrd hag
    obtain ⟨⟨_, ⟨z0, z1, z2, z3, z4, z5⟩, y0⟩, ⟨_, ⟨g0, g1, g2, g3, g4, g5⟩, y1⟩⟩ := hboxs _ hS.low
    go_simp
    try with_reducible rfl
  · exact fun L u' wx hS => hS.plain rfl _
  simp only [Act.put, List.setIfInBounds_toArray, List.set_cons_zero, List.set_cons_succ]
  refine St.mix_into (f := 12) (args := #[dv d (.slice A1 nd c1), dv d (.slice A nd c)]) rfl rfl ?_ ?_ ?_
  · intro wx
    go_simp
    try with_reducible rfl
  · intro L u' wx hS hcl hrd hag
    refine (cS2 _ _ wx (KA wx hS.low) (KD wx (hlow wx hS.low))).mono ?_
    rintro e w' ⟨rfl, b⟩
    exact ⟨rfl, hS.into rfl b _⟩
  simp only [Act.put, List.setIfInBounds_toArray, List.set_cons_zero, List.set_cons_succ]
  apply St.mix_give
  · rfl
  · intro L u' wx hS hcl hrd hag
    go_simp
    try with_reducible rfl
  · exact fun L u' wx hS => hS.plain rfl _
  simp only [Act.put, List.setIfInBounds_toArray, List.set_cons_zero, List.set_cons_succ]
  apply St.mix_give
  · rfl
  · intro L u' wx hS hcl hrd hag
    go_simp
    try with_reducible rfl
  · exact fun L u' wx hS => hS.plain rfl _
  simp only [Act.put, List.setIfInBounds_toArray, List.set_cons_zero, List.set_cons_succ]
  refine St.mix_into (f := 11) (args := #[]) rfl rfl ?_ ?_ ?_
  · intro wx
    go_simp
    try with_reducible rfl
  · intro L u' wx hS hcl hrd hag
    refine (cL wx (hlow wx hS.low)).mono ?_
    rintro e w' ⟨rfl, b⟩
    exact ⟨rfl, hS.into rfl b _⟩
  simp only [Act.put, List.setIfInBounds_toArray, List.set_cons_zero, List.set_cons_succ]
  apply St.mix_give
  · rfl
  · intro L u' wx hS hcl hrd hag
    go_simp
    try with_reducible rfl
  · exact fun L u' wx hS => hS.plain rfl _
  simp only [Act.put, List.setIfInBounds_toArray, List.set_cons_zero, List.set_cons_succ]
  apply St.mix_give
  · rfl
  · intro L u' wx hS hcl hrd hag
    go_simp
    try with_reducible rfl
  · exact fun L u' wx hS => hS.plain rfl _
  simp only [Act.put, List.setIfInBounds_toArray, List.set_cons_zero, List.set_cons_succ]
  refine St.mix_last ?_
  intro L W4 hS hall
  have h9 := hlow _ hS.low
  clear hS hall
  go_wp2_with fail
  go_ret
  exact ⟨rfl, hb0.trans (h9.mono hb0.size)⟩
end Go.Proofs.YthcmnkmfhgoddaaGreatDoor.Mb

/-
  readWire: the message whose text a text is. Conditions: texts of at most 30,000 bytes; the library's variables hold what their types allow.
-/
import Derived.Test.YtkpakiiijphjeaaGreatDoorPPoREn
import Derived.Test.YtkpakiiijphjeaaGreatDoorPPoB
namespace Go.Proofs.YtkpakiiijphjeaaGreatDoor.Po
open Go.RowKit
open Ro (En tAt tAt_get OwnE ArgE SE)
open Go.Proofs.YtkpakiiijphjeaaGreatDoor.M (tieT intT inR)
theorem texts_inj {a b : List ByteArray} (h : texts a = texts b) : a = b := by
  induction a generalizing b with
  | nil => cases b with
    | nil => rfl
    | cons y b => simp [texts] at h
  | cons x a ih => cases b with
    | nil => simp [texts] at h
    | cons y b =>
      simp only [texts, List.map_cons] at h
      injection h with h1 h2
      rw [Od.ba_same h1, ih h2]
def WireOut (w : World) (o : Option Wr) (e : Ending) (w' : World) : Prop := (match o with
  | some m => ∃ s, e = .returned (.tuple #[wv m s, .int .i64 0]) ∧ OwnE w' w.heap.size s m.es
  | none => e = .returned (.tuple #[wv Wr.zero nilS, .int .i64 140])) ∧ Below w.heap.size w w'
structure SW (n : Nat) (w : World) (m : Wr) (wx : World) : Prop where
  z : BoxW n Wh.zero wx
  b : BoxW (n + 1) ⟨m, nilS⟩ wx
  low : Below n w wx
structure ST (n g : Nat) (xs : List ByteArray) (wx : World) : Prop where
  far : n + 1 < g
  gl : g < wx.heap.size
  t : ∀ j x, xs[j]? = some x → wx.cell? ⟨g, j, none⟩ = some (.string x)
theorem SW.keep {n : Nat} {w wx wy : World} {m : Wr} (h : SW n w m wx) (hb : Below wx.heap.size wx wy) : SW n w m wy := by
  have hlt := h.b.lt
  exact ⟨h.z.keep hb, h.b.keep hb, h.low.trans (hb.mono (by omega))⟩
theorem SW.put {n k : Nat} {w wx : World} {m m' : Wr} (h : SW n w m wx) (v : Value) (e : (arrBoxW ⟨m, nilS⟩).toList.set k v = (arrBoxW ⟨m', nilS⟩).toList) : SW n w m' (wx.setCell ⟨n + 1, k, none⟩ v) :=
  ⟨h.z.other (by simp) _, h.b.cellTo _ e, h.low.setCell (p := ⟨n + 1, k, none⟩) (by simp) _⟩
theorem ST.keep {n g : Nat} {xs : List ByteArray} {wx wy : World} (h : ST n g xs wx) (hb : Below wx.heap.size wx wy) : ST n g xs wy :=
  ⟨h.far, Nat.lt_of_lt_of_le h.gl hb.size, fun j x hx => (hb.cell (p := ⟨g, j, none⟩) h.gl).trans (h.t j x hx)⟩
theorem ST.put {n g k : Nat} {xs : List ByteArray} {wx : World} (h : ST n g xs wx) (v : Value) : ST n g xs (wx.setCell ⟨n + 1, k, none⟩ v) :=
  ⟨h.far, by simpa using h.gl, fun j x hx => (World.cell?_setCell_far wx ⟨n + 1, k, none⟩ ⟨g, j, none⟩ v (by have := h.far; simp; omega)).trans (h.t j x hx)⟩
set_option maxRecDepth 100000 in
set_option maxHeartbeats 16000000 in
theorem readW_none (s : ByteArray) (w : World) (hs : s.size ≤ 30000) (hg : Good w) (hu : allT s.data.toList = none) :
    Calls Tryz.prog 47 #[.string s] w fun e w' => WireOut w (readW s.data.toList) e w' := by
  have cu := fun w hg => all_any s w (by omega) hg
  have HR := Lib.hid (show readW s.data.toList = none by unfold readW; rw [hu]; rfl)
  rw [hu] at cu
  unfold StrOut at cu
  clear hu
  go_enter Tryz.func47, Tryz.ntmps47
  go_wp2_with (refine wpList_newW rfl rfl ?_)
  intro W0 Z0 hb00 hz0
  go_wp2_with fail
  refine wp_scope_fwd 0 rfl ?_
  go_wp2_with (refine wpList_newW rfl rfl ?_)
  intro W1 Z1 hb01 hz1
  have hS0 : SW w.heap.size w Wr.zero W1 := ⟨Z0.below (by omega) hb01, Z1, hb00.trans (hb01.mono (by omega))⟩
  clear Z0 Z1 hb00 hb01
  go_wp2_with fail
  refine (cu _ (hg.below hS0.low)).mono ?_
  rintro e w1 ⟨rfl, b1⟩
  have hS1 := hS0.keep b1
  clear cu b1 hS0
  go_wp2_with fail
  have hlowF := (hS1).low
  have hzF := (hS1).z
  refine wp_goto ?_
  refine And.intro (show (0 : Nat) = 0 from rfl) ?_
  try dsimp only
  go_wp2_with (refine wpList_setW (o := Wh.zero) rfl rfl rfl rfl hzF rfl ?_)
  intro WF hzG _ hbF _
  go_wp2_with fail
  rw [Exit.noGoto_ret]
  exact bodyPost_ret (res_BoxW_tmp Tryz.results47 rfl rfl hzG) rfl ⟨by rw [HR.out]; exact rfl, hbF _ _ hlowF (Nat.le_refl _)⟩
set_option maxRecDepth 100000 in
set_option maxHeartbeats 16000000 in
theorem readW_len (s : ByteArray) (w : World) (hs : s.size ≤ 30000) (hg : Good w) (l : List (List UInt8)) (hu : allT s.data.toList = some l) (hl : l.length ≠ 11) :
    Calls Tryz.prog 47 #[.string s] w fun e w' => WireOut w (readW s.data.toList) e w' := by
  have cu := fun w hg => all_any s w (by omega) hg
  have HR := Lib.hid (show readW s.data.toList = none by unfold readW; rw [hu]; exact readWL_len hl)
  rw [hu] at cu
  unfold StrOut at cu
  clear hu
  go_enter Tryz.func47, Tryz.ntmps47
  go_wp2_with (refine wpList_newW rfl rfl ?_)
  intro W0 Z0 hb00 hz0
  go_wp2_with fail
  refine wp_scope_fwd 0 rfl ?_
  go_wp2_with (refine wpList_newW rfl rfl ?_)
  intro W1 Z1 hb01 hz1
  have hS0 : SW w.heap.size w Wr.zero W1 := ⟨Z0.below (by omega) hb01, Z1, hb00.trans (hb01.mono (by omega))⟩
  clear Z0 Z1 hb00 hb01
  go_wp2_with fail
  refine (cu _ (hg.below hS0.low)).mono ?_
  rintro e w1 ⟨⟨v, ss, rfl, hss, hown⟩, b1⟩
  subst hss
  rw [texts_length] at hl
  obtain ⟨g, A, cap, rfl, _, _, _, _⟩ := row_cells hown
  obtain ⟨N, hN⟩ : ∃ N, ss.length = N := ⟨_, rfl⟩
  rw [hN] at hl ⊢
  have q1 : ((N : Int) == 11) = false := by simp; omega
  have q2 : ((N : Int) != 11) = true := by simp [bne, q1]
  have q3 : ((N : Int) = 11) = False := eq_false (by omega)
  have hS1 := hS0.keep b1
  clear cu b1 hS0 hown hN hl
  go_wp2_with fail
  have hlowF := (hS1).low
  have hzF := (hS1).z
  refine wp_goto ?_
  refine And.intro (show (0 : Nat) = 0 from rfl) ?_
  try dsimp only
  go_wp2_with (refine wpList_setW (o := Wh.zero) rfl rfl rfl rfl hzF rfl ?_)
  intro WF hzG _ hbF _
  go_wp2_with fail
  rw [Exit.noGoto_ret]
  exact bodyPost_ret (res_BoxW_tmp Tryz.results47 rfl rfl hzG) rfl ⟨by rw [HR.out]; exact rfl, hbF _ _ hlowF (Nat.le_refl _)⟩
set_option maxRecDepth 100000 in
set_option maxHeartbeats 16000000 in
theorem readW_some (s : ByteArray) (w : World) (hs : s.size ≤ 30000) (hg : Good w) (x0 x1 x2 x3 x4 x5 x6 x7 x8 x9 x10 : ByteArray) (hu : allT s.data.toList = some (texts [x0, x1, x2, x3, x4, x5, x6, x7, x8, x9, x10])) :
    Calls Tryz.prog 47 #[.string s] w fun e w' => WireOut w (readW s.data.toList) e w' := by
  have cu := fun w hg => all_any s w (by omega) hg
  have hread : readW s.data.toList = readWL (texts [x0, x1, x2, x3, x4, x5, x6, x7, x8, x9, x10]) := by unfold readW; rw [hu]; rfl
  rw [hu] at cu
  unfold StrOut at cu
  have hsz : ∀ x ∈ texts [x0, x1, x2, x3, x4, x5, x6, x7, x8, x9, x10], x.length ≤ 30000 := fun x hx => by
    have h1 := mem_tie hx
    rw [← all_spec hu] at h1
    have h2 : s.data.toList.length = s.size := by simp
    omega
  rw [show texts [x0, x1, x2, x3, x4, x5, x6, x7, x8, x9, x10] = [x0.data.toList, x1.data.toList, x2.data.toList, x3.data.toList, x4.data.toList, x5.data.toList, x6.data.toList, x7.data.toList, x8.data.toList, x9.data.toList, x10.data.toList] from rfl] at hread
  clear hu
  go_enter Tryz.func47, Tryz.ntmps47
  go_wp2_with (refine wpList_newW rfl rfl ?_)
  intro W0 Z0 hb00 hz0
  go_wp2_with fail
  refine wp_scope_fwd 0 rfl ?_
  go_wp2_with (refine wpList_newW rfl rfl ?_)
  intro W1 Z1 hb01 hz1
  have hS0 : SW w.heap.size w Wr.zero W1 := ⟨Z0.below (by omega) hb01, Z1, hb00.trans (hb01.mono (by omega))⟩
  clear Z0 Z1 hb00 hb01
  go_wp2_with fail
  refine (cu _ (hg.below hS0.low)).mono ?_
  rintro e w1 ⟨⟨v, ss, rfl, hss, hown⟩, b1⟩
  obtain rfl := texts_inj hss
  obtain ⟨g, A, cap, rfl, hA, hnc, _, hcl⟩ := row_cells hown
  obtain ⟨rfl, hgl⟩ := hA (by simp)
  have hfar : w.heap.size + 1 < g := by
    obtain ⟨g', cap', cur, e1, hbg, _⟩ := hown.2.resolve_left (fun h => absurd h.2 (by simp))
    injection e1 with e2
    injection e2 with e2
    injection e2 with e2
    have := hS0.b.lt
    omega
  have hT : ST w.heap.size g [x0, x1, x2, x3, x4, x5, x6, x7, x8, x9, x10] w1 := ⟨hfar, hgl, fun j x hx => by
    have hj : j < [x0, x1, x2, x3, x4, x5, x6, x7, x8, x9, x10].length := (List.getElem?_eq_some_iff.1 hx).1
    rw [hcl j hj, tAt_get hj]
    rw [List.getElem?_eq_getElem hj] at hx
    rw [Option.some.inj hx]⟩
  have hS := hS0.keep b1
  have hz : ∀ (j : Nat) (x : ByteArray), [x0, x1, x2, x3, x4, x5, x6, x7, x8, x9, x10][j]? = some x → x.size ≤ 30000 := fun j x hx => by
    have h1 := hsz x.data.toList (List.mem_map.2 ⟨x, List.mem_of_getElem? hx, rfl⟩)
    simpa using h1
  rw [show [x0, x1, x2, x3, x4, x5, x6, x7, x8, x9, x10].length = 11 from rfl]
  have y0 : w1.cell? ⟨g, 0, none⟩ = some (.string x0) := hT.t 0 x0 rfl
  clear cu b1 hS0 hown hA hcl hss hgl hfar hnc hsz
  go_wp2_with fail
  clear y0
  have cr := readI_any (w.heap.size + 1) 0 0 x0 w1 (by have := hz 0 x0 rfl; omega) (hg.below hS.low) (hS.b.cell 0) (hS.b.frozen 0) hS.b.lt
  refine cr.mono ?_
  rintro e w2 ⟨rfl, wy, hby, rfl⟩
  clear cr
  cases h0 : intT x0.data.toList with
  | none =>
    have HR := Lib.hid (show readW s.data.toList = none from hread.trans (by unfold readWL; simp [h0]))
    have hS2 := (hS.keep hby).put (k := 0) (m' := ⟨0, 0, 0, 0, 0, 0, 0, 0, false, [], Od.E0⟩) (.int .i64 0) rfl
    clear hS hT hread h0 hby
    simp only [Option.isSome_none, Option.getD_none]
    go_wp2_with fail
    have hlowF := (hS2).low
    have hzF := (hS2).z
    refine wp_goto ?_
    refine And.intro (show (0 : Nat) = 0 from rfl) ?_
    try dsimp only
    go_wp2_with (refine wpList_setW (o := Wh.zero) rfl rfl rfl rfl hzF rfl ?_)
    intro WF hzG _ hbF _
    go_wp2_with fail
    rw [Exit.noGoto_ret]
    exact bodyPost_ret (res_BoxW_tmp Tryz.results47 rfl rfl hzG) rfl ⟨by rw [HR.out]; exact rfl, hbF _ _ hlowF (Nat.le_refl _)⟩
  | some V0 =>
  have hS2 := (hS.keep hby).put (k := 0) (m' := ⟨V0, 0, 0, 0, 0, 0, 0, 0, false, [], Od.E0⟩) (.int .i64 V0) rfl
  have hT2 := (hT.keep hby).put (k := 0) (.int .i64 V0)
  clear hS hT hby
  simp only [Option.isSome_some, Option.getD_some]
  generalize World.setCell wy ⟨w.heap.size + 1, 0, none⟩ (.int .i64 V0) = w1 at hS2 hT2 ⊢
  have hS := hS2
  have hT := hT2
  clear hS2 hT2
  have y1 : w1.cell? ⟨g, 1, none⟩ = some (.string x1) := hT.t 1 x1 rfl
  go_wp2_with fail
  clear y1
  have cr := readL_any (w.heap.size + 1) 1 0 x1 w1 (by have := hz 1 x1 rfl; omega) (hg.below hS.low) (hS.b.cell 1) (hS.b.frozen 1) hS.b.lt
  refine cr.mono ?_
  rintro e w2 ⟨rfl, wy, hby, rfl⟩
  clear cr
  cases h1 : intT x1.data.toList with
  | none =>
    have HR := Lib.hid (show readW s.data.toList = none from hread.trans (by unfold readWL; simp [h0, h1]))
    have hS2 := (hS.keep hby).put (k := 1) (m' := ⟨V0, 0, 0, 0, 0, 0, 0, 0, false, [], Od.E0⟩) (.int .i64 0) rfl
    clear hS hT hread h0 h1 hby
    simp only [Option.isSome_none, Option.getD_none]
    go_wp2_with fail
    have hlowF := (hS2).low
    have hzF := (hS2).z
    refine wp_goto ?_
    refine And.intro (show (0 : Nat) = 0 from rfl) ?_
    try dsimp only
    go_wp2_with (refine wpList_setW (o := Wh.zero) rfl rfl rfl rfl hzF rfl ?_)
    intro WF hzG _ hbF _
    go_wp2_with fail
    rw [Exit.noGoto_ret]
    exact bodyPost_ret (res_BoxW_tmp Tryz.results47 rfl rfl hzG) rfl ⟨by rw [HR.out]; exact rfl, hbF _ _ hlowF (Nat.le_refl _)⟩
  | some V1 =>
  have hS2 := (hS.keep hby).put (k := 1) (m' := ⟨V0, V1, 0, 0, 0, 0, 0, 0, false, [], Od.E0⟩) (.int .i64 V1) rfl
  have hT2 := (hT.keep hby).put (k := 1) (.int .i64 V1)
  clear hS hT hby
  simp only [Option.isSome_some, Option.getD_some]
  generalize World.setCell wy ⟨w.heap.size + 1, 1, none⟩ (.int .i64 V1) = w1 at hS2 hT2 ⊢
  have hS := hS2
  have hT := hT2
  clear hS2 hT2
  have y2 : w1.cell? ⟨g, 2, none⟩ = some (.string x2) := hT.t 2 x2 rfl
  go_wp2_with fail
  clear y2
  have cr := readL_any (w.heap.size + 1) 2 0 x2 w1 (by have := hz 2 x2 rfl; omega) (hg.below hS.low) (hS.b.cell 2) (hS.b.frozen 2) hS.b.lt
  refine cr.mono ?_
  rintro e w2 ⟨rfl, wy, hby, rfl⟩
  clear cr
  cases h2 : intT x2.data.toList with
  | none =>
    have HR := Lib.hid (show readW s.data.toList = none from hread.trans (by unfold readWL; simp [h0, h1, h2]))
    have hS2 := (hS.keep hby).put (k := 2) (m' := ⟨V0, V1, 0, 0, 0, 0, 0, 0, false, [], Od.E0⟩) (.int .i64 0) rfl
    clear hS hT hread h0 h1 h2 hby
    simp only [Option.isSome_none, Option.getD_none]
    go_wp2_with fail
    have hlowF := (hS2).low
    have hzF := (hS2).z
    refine wp_goto ?_
    refine And.intro (show (0 : Nat) = 0 from rfl) ?_
    try dsimp only
    go_wp2_with (refine wpList_setW (o := Wh.zero) rfl rfl rfl rfl hzF rfl ?_)
    intro WF hzG _ hbF _
    go_wp2_with fail
    rw [Exit.noGoto_ret]
    exact bodyPost_ret (res_BoxW_tmp Tryz.results47 rfl rfl hzG) rfl ⟨by rw [HR.out]; exact rfl, hbF _ _ hlowF (Nat.le_refl _)⟩
  | some V2 =>
  have hS2 := (hS.keep hby).put (k := 2) (m' := ⟨V0, V1, V2, 0, 0, 0, 0, 0, false, [], Od.E0⟩) (.int .i64 V2) rfl
  have hT2 := (hT.keep hby).put (k := 2) (.int .i64 V2)
  clear hS hT hby
  simp only [Option.isSome_some, Option.getD_some]
  generalize World.setCell wy ⟨w.heap.size + 1, 2, none⟩ (.int .i64 V2) = w1 at hS2 hT2 ⊢
  have hS := hS2
  have hT := hT2
  clear hS2 hT2
  have y3 : w1.cell? ⟨g, 3, none⟩ = some (.string x3) := hT.t 3 x3 rfl
  go_wp2_with fail
  clear y3
  have cr := readL_any (w.heap.size + 1) 3 0 x3 w1 (by have := hz 3 x3 rfl; omega) (hg.below hS.low) (hS.b.cell 3) (hS.b.frozen 3) hS.b.lt
  refine cr.mono ?_
  rintro e w2 ⟨rfl, wy, hby, rfl⟩
  clear cr
  cases h3 : intT x3.data.toList with
  | none =>
    have HR := Lib.hid (show readW s.data.toList = none from hread.trans (by unfold readWL; simp [h0, h1, h2, h3]))
    have hS2 := (hS.keep hby).put (k := 3) (m' := ⟨V0, V1, V2, 0, 0, 0, 0, 0, false, [], Od.E0⟩) (.int .i64 0) rfl
    clear hS hT hread h0 h1 h2 h3 hby
    simp only [Option.isSome_none, Option.getD_none]
    go_wp2_with fail
    have hlowF := (hS2).low
    have hzF := (hS2).z
    refine wp_goto ?_
    refine And.intro (show (0 : Nat) = 0 from rfl) ?_
    try dsimp only
    go_wp2_with (refine wpList_setW (o := Wh.zero) rfl rfl rfl rfl hzF rfl ?_)
    intro WF hzG _ hbF _
    go_wp2_with fail
    rw [Exit.noGoto_ret]
    exact bodyPost_ret (res_BoxW_tmp Tryz.results47 rfl rfl hzG) rfl ⟨by rw [HR.out]; exact rfl, hbF _ _ hlowF (Nat.le_refl _)⟩
  | some V3 =>
  have hS2 := (hS.keep hby).put (k := 3) (m' := ⟨V0, V1, V2, V3, 0, 0, 0, 0, false, [], Od.E0⟩) (.int .i64 V3) rfl
  have hT2 := (hT.keep hby).put (k := 3) (.int .i64 V3)
  clear hS hT hby
  simp only [Option.isSome_some, Option.getD_some]
  generalize World.setCell wy ⟨w.heap.size + 1, 3, none⟩ (.int .i64 V3) = w1 at hS2 hT2 ⊢
  have hS := hS2
  have hT := hT2
  clear hS2 hT2
  have y4 : w1.cell? ⟨g, 4, none⟩ = some (.string x4) := hT.t 4 x4 rfl
  go_wp2_with fail
  clear y4
  have cr := readL_any (w.heap.size + 1) 4 0 x4 w1 (by have := hz 4 x4 rfl; omega) (hg.below hS.low) (hS.b.cell 4) (hS.b.frozen 4) hS.b.lt
  refine cr.mono ?_
  rintro e w2 ⟨rfl, wy, hby, rfl⟩
  clear cr
  cases h4 : intT x4.data.toList with
  | none =>
    have HR := Lib.hid (show readW s.data.toList = none from hread.trans (by unfold readWL; simp [h0, h1, h2, h3, h4]))
    have hS2 := (hS.keep hby).put (k := 4) (m' := ⟨V0, V1, V2, V3, 0, 0, 0, 0, false, [], Od.E0⟩) (.int .i64 0) rfl
    clear hS hT hread h0 h1 h2 h3 h4 hby
    simp only [Option.isSome_none, Option.getD_none]
    go_wp2_with fail
    have hlowF := (hS2).low
    have hzF := (hS2).z
    refine wp_goto ?_
    refine And.intro (show (0 : Nat) = 0 from rfl) ?_
    try dsimp only
    go_wp2_with (refine wpList_setW (o := Wh.zero) rfl rfl rfl rfl hzF rfl ?_)
    intro WF hzG _ hbF _
    go_wp2_with fail
    rw [Exit.noGoto_ret]
    exact bodyPost_ret (res_BoxW_tmp Tryz.results47 rfl rfl hzG) rfl ⟨by rw [HR.out]; exact rfl, hbF _ _ hlowF (Nat.le_refl _)⟩
  | some V4 =>
  have hS2 := (hS.keep hby).put (k := 4) (m' := ⟨V0, V1, V2, V3, V4, 0, 0, 0, false, [], Od.E0⟩) (.int .i64 V4) rfl
  have hT2 := (hT.keep hby).put (k := 4) (.int .i64 V4)
  clear hS hT hby
  simp only [Option.isSome_some, Option.getD_some]
  generalize World.setCell wy ⟨w.heap.size + 1, 4, none⟩ (.int .i64 V4) = w1 at hS2 hT2 ⊢
  have hS := hS2
  have hT := hT2
  clear hS2 hT2
  have y5 : w1.cell? ⟨g, 5, none⟩ = some (.string x5) := hT.t 5 x5 rfl
  go_wp2_with fail
  clear y5
  have cr := readL_any (w.heap.size + 1) 5 0 x5 w1 (by have := hz 5 x5 rfl; omega) (hg.below hS.low) (hS.b.cell 5) (hS.b.frozen 5) hS.b.lt
  refine cr.mono ?_
  rintro e w2 ⟨rfl, wy, hby, rfl⟩
  clear cr
  cases h5 : intT x5.data.toList with
  | none =>
    have HR := Lib.hid (show readW s.data.toList = none from hread.trans (by unfold readWL; simp [h0, h1, h2, h3, h4, h5]))
    have hS2 := (hS.keep hby).put (k := 5) (m' := ⟨V0, V1, V2, V3, V4, 0, 0, 0, false, [], Od.E0⟩) (.int .i64 0) rfl
    clear hS hT hread h0 h1 h2 h3 h4 h5 hby
    simp only [Option.isSome_none, Option.getD_none]
    go_wp2_with fail
    have hlowF := (hS2).low
    have hzF := (hS2).z
    refine wp_goto ?_
    refine And.intro (show (0 : Nat) = 0 from rfl) ?_
    try dsimp only
    go_wp2_with (refine wpList_setW (o := Wh.zero) rfl rfl rfl rfl hzF rfl ?_)
    intro WF hzG _ hbF _
    go_wp2_with fail
    rw [Exit.noGoto_ret]
    exact bodyPost_ret (res_BoxW_tmp Tryz.results47 rfl rfl hzG) rfl ⟨by rw [HR.out]; exact rfl, hbF _ _ hlowF (Nat.le_refl _)⟩
  | some V5 =>
  have hS2 := (hS.keep hby).put (k := 5) (m' := ⟨V0, V1, V2, V3, V4, V5, 0, 0, false, [], Od.E0⟩) (.int .i64 V5) rfl
  have hT2 := (hT.keep hby).put (k := 5) (.int .i64 V5)
  clear hS hT hby
  simp only [Option.isSome_some, Option.getD_some]
  generalize World.setCell wy ⟨w.heap.size + 1, 5, none⟩ (.int .i64 V5) = w1 at hS2 hT2 ⊢
  have hS := hS2
  have hT := hT2
  clear hS2 hT2
  have y6 : w1.cell? ⟨g, 6, none⟩ = some (.string x6) := hT.t 6 x6 rfl
  go_wp2_with fail
  clear y6
  have cr := readL_any (w.heap.size + 1) 6 0 x6 w1 (by have := hz 6 x6 rfl; omega) (hg.below hS.low) (hS.b.cell 6) (hS.b.frozen 6) hS.b.lt
  refine cr.mono ?_
  rintro e w2 ⟨rfl, wy, hby, rfl⟩
  clear cr
  cases h6 : intT x6.data.toList with
  | none =>
    have HR := Lib.hid (show readW s.data.toList = none from hread.trans (by unfold readWL; simp [h0, h1, h2, h3, h4, h5, h6]))
    have hS2 := (hS.keep hby).put (k := 6) (m' := ⟨V0, V1, V2, V3, V4, V5, 0, 0, false, [], Od.E0⟩) (.int .i64 0) rfl
    clear hS hT hread h0 h1 h2 h3 h4 h5 h6 hby
    simp only [Option.isSome_none, Option.getD_none]
    go_wp2_with fail
    have hlowF := (hS2).low
    have hzF := (hS2).z
    refine wp_goto ?_
    refine And.intro (show (0 : Nat) = 0 from rfl) ?_
    try dsimp only
    go_wp2_with (refine wpList_setW (o := Wh.zero) rfl rfl rfl rfl hzF rfl ?_)
    intro WF hzG _ hbF _
    go_wp2_with fail
    rw [Exit.noGoto_ret]
    exact bodyPost_ret (res_BoxW_tmp Tryz.results47 rfl rfl hzG) rfl ⟨by rw [HR.out]; exact rfl, hbF _ _ hlowF (Nat.le_refl _)⟩
  | some V6 =>
  have hS2 := (hS.keep hby).put (k := 6) (m' := ⟨V0, V1, V2, V3, V4, V5, V6, 0, false, [], Od.E0⟩) (.int .i64 V6) rfl
  have hT2 := (hT.keep hby).put (k := 6) (.int .i64 V6)
  clear hS hT hby
  simp only [Option.isSome_some, Option.getD_some]
  generalize World.setCell wy ⟨w.heap.size + 1, 6, none⟩ (.int .i64 V6) = w1 at hS2 hT2 ⊢
  have hS := hS2
  have hT := hT2
  clear hS2 hT2
  have y7 : w1.cell? ⟨g, 7, none⟩ = some (.string x7) := hT.t 7 x7 rfl
  go_wp2_with fail
  clear y7
  have cr := readL_any (w.heap.size + 1) 7 0 x7 w1 (by have := hz 7 x7 rfl; omega) (hg.below hS.low) (hS.b.cell 7) (hS.b.frozen 7) hS.b.lt
  refine cr.mono ?_
  rintro e w2 ⟨rfl, wy, hby, rfl⟩
  clear cr
  cases h7 : intT x7.data.toList with
  | none =>
    have HR := Lib.hid (show readW s.data.toList = none from hread.trans (by unfold readWL; simp [h0, h1, h2, h3, h4, h5, h6, h7]))
    have hS2 := (hS.keep hby).put (k := 7) (m' := ⟨V0, V1, V2, V3, V4, V5, V6, 0, false, [], Od.E0⟩) (.int .i64 0) rfl
    clear hS hT hread h0 h1 h2 h3 h4 h5 h6 h7 hby
    simp only [Option.isSome_none, Option.getD_none]
    go_wp2_with fail
    have hlowF := (hS2).low
    have hzF := (hS2).z
    refine wp_goto ?_
    refine And.intro (show (0 : Nat) = 0 from rfl) ?_
    try dsimp only
    go_wp2_with (refine wpList_setW (o := Wh.zero) rfl rfl rfl rfl hzF rfl ?_)
    intro WF hzG _ hbF _
    go_wp2_with fail
    rw [Exit.noGoto_ret]
    exact bodyPost_ret (res_BoxW_tmp Tryz.results47 rfl rfl hzG) rfl ⟨by rw [HR.out]; exact rfl, hbF _ _ hlowF (Nat.le_refl _)⟩
  | some V7 =>
  have hS2 := (hS.keep hby).put (k := 7) (m' := ⟨V0, V1, V2, V3, V4, V5, V6, V7, false, [], Od.E0⟩) (.int .i64 V7) rfl
  have hT2 := (hT.keep hby).put (k := 7) (.int .i64 V7)
  clear hS hT hby
  simp only [Option.isSome_some, Option.getD_some]
  generalize World.setCell wy ⟨w.heap.size + 1, 7, none⟩ (.int .i64 V7) = w1 at hS2 hT2 ⊢
  have hS := hS2
  have hT := hT2
  clear hS2 hT2
  by_cases hx1 : x8 = ⟨#[49]⟩
  · subst hx1
    have y8 : w1.cell? ⟨g, 8, none⟩ = some (.string ⟨#[49]⟩) := hT.t 8 ⟨#[49]⟩ rfl
    have y9 : w1.cell? ⟨g, 9, none⟩ = some (.string x9) := hT.t 9 x9 rfl
    have hle0 := hS.b.lt
    have u8 : w1.cell? ⟨w.heap.size + 1, 8, none⟩ = some (.bool false) := hS.b.cell 8
    have v8 : w1.frozen? ⟨w.heap.size + 1, 8, none⟩ = false := hS.b.frozen 8
    have hS2 := hS.put (k := 8) (m' := ⟨V0, V1, V2, V3, V4, V5, V6, V7, true, [], Od.E0⟩) (.bool true) rfl
    have hT2 := hT.put (k := 8) (.bool true)
    have y9' : (w1.setCell ⟨w.heap.size + 1, 8, none⟩ (.bool true)).cell? ⟨g, 9, none⟩ = some (.string x9) := hT2.t 9 x9 rfl
    have cE := readE_any x9 (w1.setCell ⟨w.heap.size + 1, 8, none⟩ (.bool true)) (hz 9 x9 rfl) (hg.below hS2.low)
    go_wp2_with fail
    clear y8 y9 u8 v8 hS hT y9'
    refine cE.mono ?_
    rintro e w2 ⟨hout, hb2⟩
    clear cE
    have hS := hS2.keep hb2
    have hT := hT2.keep hb2
    clear hS2 hT2
    cases hE : readE x9.data.toList with
    | none =>
      rw [hE] at hout
      have HR := Lib.hid (show readW s.data.toList = none from hread.trans (by unfold readWL; simp [h0, h1, h2, h3, h4, h5, h6, h7, hE]))
      unfold EntsOut at hout
      subst hout
      have u9 : w2.cell? ⟨w.heap.size + 1, 9, none⟩ = some nilS := hS.b.cell 9
      have v9 : w2.frozen? ⟨w.heap.size + 1, 9, none⟩ = false := hS.b.frozen 9
      have hS2 := hS.put (k := 9) (m' := ⟨V0, V1, V2, V3, V4, V5, V6, V7, true, [], Od.E0⟩) nilS rfl
      clear hread h0 h1 h2 h3 h4 h5 h6 h7 hE hb2 hS hT
      go_wp2_with fail
      have hlowF := (hS2).low
      have hzF := (hS2).z
      refine wp_goto ?_
      refine And.intro (show (0 : Nat) = 0 from rfl) ?_
      try dsimp only
      go_wp2_with (refine wpList_setW (o := Wh.zero) rfl rfl rfl rfl hzF rfl ?_)
      intro WF hzG _ hbF _
      go_wp2_with fail
      rw [Exit.noGoto_ret]
      exact bodyPost_ret (res_BoxW_tmp Tryz.results47 rfl rfl hzG) rfl ⟨by rw [HR.out]; exact rfl, hbF _ _ hlowF (Nat.le_refl _)⟩
    | some es =>
      rw [hE] at hout
      have HR := Lib.hid (show readW s.data.toList = some ⟨V0, V1, V2, V3, V4, V5, V6, V7, true, es, x10⟩ from hread.trans (by unfold readWL; simp [h0, h1, h2, h3, h4, h5, h6, h7, hE]))
      unfold EntsOut at hout
      obtain ⟨ve, rfl, hoE⟩ := hout
      have hag := ArgE.of_own hoE
      obtain ⟨Ae, ce, rfl⟩ := hag.form
      obtain ⟨n, hn⟩ : ∃ n, es.length = n := ⟨_, rfl⟩
      rw [hn] at hag hoE ⊢
      have hle : w.heap.size + 1 < (w1.setCell ⟨w.heap.size + 1, 8, none⟩ (.bool true)).heap.size := by simpa using hle0
      have u9 : w2.cell? ⟨w.heap.size + 1, 9, none⟩ = some nilS := hS.b.cell 9
      have v9 : w2.frozen? ⟨w.heap.size + 1, 9, none⟩ = false := hS.b.frozen 9
      have u10 : w2.cell? ⟨w.heap.size + 1, 10, none⟩ = some (.string Od.E0) := hS.b.cell 10
      have v10 : w2.frozen? ⟨w.heap.size + 1, 10, none⟩ = false := hS.b.frozen 10
      have y10 : w2.cell? ⟨g, 10, none⟩ = some (.string x10) := hT.t 10 x10 rfl
      have y10' : (w2.setCell ⟨w.heap.size + 1, 9, none⟩ (.slice Ae n ce)).cell? ⟨g, 10, none⟩ = some (.string x10) := (hT.put (k := 9) (.slice Ae n ce)).t 10 x10 rfl
      have hB : BoxW (w.heap.size + 1) ⟨⟨V0, V1, V2, V3, V4, V5, V6, V7, true, es, x10⟩, .slice Ae n ce⟩ ((w2.setCell ⟨w.heap.size + 1, 9, none⟩ (.slice Ae n ce)).setCell ⟨w.heap.size + 1, 10, none⟩ (.string x10)) := ((hS.b.cellTo (o' := ⟨⟨V0, V1, V2, V3, V4, V5, V6, V7, true, es, Od.E0⟩, .slice Ae n ce⟩) _ rfl).cellTo _ rfl)
      have hZ : BoxW w.heap.size Wh.zero ((w2.setCell ⟨w.heap.size + 1, 9, none⟩ (.slice Ae n ce)).setCell ⟨w.heap.size + 1, 10, none⟩ (.string x10)) := (hS.z.other (a := ⟨w.heap.size + 1, 9, none⟩) (by simp) _).other (a := ⟨w.heap.size + 1, 10, none⟩) (by simp) _
      have hL : Below w.heap.size w ((w2.setCell ⟨w.heap.size + 1, 9, none⟩ (.slice Ae n ce)).setCell ⟨w.heap.size + 1, 10, none⟩ (.string x10)) := (hS.low.setCell (p := ⟨w.heap.size + 1, 9, none⟩) (by simp) _).setCell (p := ⟨w.heap.size + 1, 10, none⟩) (by simp) _
      have hbase : w.heap.size + 2 ≤ (w1.setCell ⟨w.heap.size + 1, 8, none⟩ (.bool true)).heap.size := by have := hle; omega
      have hO : OwnE ((w2.setCell ⟨w.heap.size + 1, 9, none⟩ (.slice Ae n ce)).setCell ⟨w.heap.size + 1, 10, none⟩ (.string x10)) (w.heap.size + 2) (.slice Ae n ce) es := Ro.own_set (Ro.own_set (Ro.own_base (by rw [← hn] at hoE; rw [← hn]; exact hoE) hbase) (a := ⟨w.heap.size + 1, 9, none⟩) (by show w.heap.size + 1 < w.heap.size + 2; omega) _) (a := ⟨w.heap.size + 1, 10, none⟩) (by show w.heap.size + 1 < w.heap.size + 2; omega) _
      clear hread h0 h1 h2 h3 h4 h5 h6 h7 hE hb2 hS hT hoE hag hbase hle
      go_wp2_with (first | refine wpList_loadW (o := ⟨⟨V0, V1, V2, V3, V4, V5, V6, V7, true, es, x10⟩, .slice Ae n ce⟩) rfl rfl rfl hB ?_ | refine wpList_setW2 (o := ⟨⟨V0, V1, V2, V3, V4, V5, V6, V7, true, es, x10⟩, .slice Ae n ce⟩) rfl rfl rfl rfl hZ rfl ?_)
      intro WF hzG hko hbF hzF
      have hOF : OwnE WF w.heap.size (.slice Ae n ce) es := Ro.own_base (own_heap hO (fun k hk => hko k (by omega))) (by omega)
      go_wp2_with fail
      exact bodyPost_ret (res_BoxW_tmp Tryz.results47 rfl rfl hzG) rfl ⟨by rw [HR.out]; exact ⟨_, rfl, hOF⟩, hbF _ _ hL (Nat.le_refl _)⟩
  · by_cases hx0 : x8 = ⟨#[48]⟩
    · subst hx0
      have y8 : w1.cell? ⟨g, 8, none⟩ = some (.string ⟨#[48]⟩) := hT.t 8 ⟨#[48]⟩ rfl
      have y9 : w1.cell? ⟨g, 9, none⟩ = some (.string x9) := hT.t 9 x9 rfl
      have hle0 := hS.b.lt
      have u8 : w1.cell? ⟨w.heap.size + 1, 8, none⟩ = some (.bool false) := hS.b.cell 8
      have v8 : w1.frozen? ⟨w.heap.size + 1, 8, none⟩ = false := hS.b.frozen 8
      have hS2 := hS.put (k := 8) (m' := ⟨V0, V1, V2, V3, V4, V5, V6, V7, false, [], Od.E0⟩) (.bool false) rfl
      have hT2 := hT.put (k := 8) (.bool false)
      have y9' : (w1.setCell ⟨w.heap.size + 1, 8, none⟩ (.bool false)).cell? ⟨g, 9, none⟩ = some (.string x9) := hT2.t 9 x9 rfl
      have cE := readE_any x9 (w1.setCell ⟨w.heap.size + 1, 8, none⟩ (.bool false)) (hz 9 x9 rfl) (hg.below hS2.low)
      go_wp2_with fail
      clear y8 y9 u8 v8 hS hT y9'
      refine cE.mono ?_
      rintro e w2 ⟨hout, hb2⟩
      clear cE
      have hS := hS2.keep hb2
      have hT := hT2.keep hb2
      clear hS2 hT2
      cases hE : readE x9.data.toList with
      | none =>
        rw [hE] at hout
        have HR := Lib.hid (show readW s.data.toList = none from hread.trans (by unfold readWL; simp [h0, h1, h2, h3, h4, h5, h6, h7, hE]))
        unfold EntsOut at hout
        subst hout
        have u9 : w2.cell? ⟨w.heap.size + 1, 9, none⟩ = some nilS := hS.b.cell 9
        have v9 : w2.frozen? ⟨w.heap.size + 1, 9, none⟩ = false := hS.b.frozen 9
        have hS2 := hS.put (k := 9) (m' := ⟨V0, V1, V2, V3, V4, V5, V6, V7, false, [], Od.E0⟩) nilS rfl
        clear hread h0 h1 h2 h3 h4 h5 h6 h7 hE hb2 hS hT
        go_wp2_with fail
        have hlowF := (hS2).low
        have hzF := (hS2).z
        refine wp_goto ?_
        refine And.intro (show (0 : Nat) = 0 from rfl) ?_
        try dsimp only
        go_wp2_with (refine wpList_setW (o := Wh.zero) rfl rfl rfl rfl hzF rfl ?_)
        intro WF hzG _ hbF _
        go_wp2_with fail
        rw [Exit.noGoto_ret]
        exact bodyPost_ret (res_BoxW_tmp Tryz.results47 rfl rfl hzG) rfl ⟨by rw [HR.out]; exact rfl, hbF _ _ hlowF (Nat.le_refl _)⟩
      | some es =>
        rw [hE] at hout
        have HR := Lib.hid (show readW s.data.toList = some ⟨V0, V1, V2, V3, V4, V5, V6, V7, false, es, x10⟩ from hread.trans (by unfold readWL; simp [h0, h1, h2, h3, h4, h5, h6, h7, hE]))
        unfold EntsOut at hout
        obtain ⟨ve, rfl, hoE⟩ := hout
        have hag := ArgE.of_own hoE
        obtain ⟨Ae, ce, rfl⟩ := hag.form
        obtain ⟨n, hn⟩ : ∃ n, es.length = n := ⟨_, rfl⟩
        rw [hn] at hag hoE ⊢
        have hle : w.heap.size + 1 < (w1.setCell ⟨w.heap.size + 1, 8, none⟩ (.bool false)).heap.size := by simpa using hle0
        have u9 : w2.cell? ⟨w.heap.size + 1, 9, none⟩ = some nilS := hS.b.cell 9
        have v9 : w2.frozen? ⟨w.heap.size + 1, 9, none⟩ = false := hS.b.frozen 9
        have u10 : w2.cell? ⟨w.heap.size + 1, 10, none⟩ = some (.string Od.E0) := hS.b.cell 10
        have v10 : w2.frozen? ⟨w.heap.size + 1, 10, none⟩ = false := hS.b.frozen 10
        have y10 : w2.cell? ⟨g, 10, none⟩ = some (.string x10) := hT.t 10 x10 rfl
        have y10' : (w2.setCell ⟨w.heap.size + 1, 9, none⟩ (.slice Ae n ce)).cell? ⟨g, 10, none⟩ = some (.string x10) := (hT.put (k := 9) (.slice Ae n ce)).t 10 x10 rfl
        have hB : BoxW (w.heap.size + 1) ⟨⟨V0, V1, V2, V3, V4, V5, V6, V7, false, es, x10⟩, .slice Ae n ce⟩ ((w2.setCell ⟨w.heap.size + 1, 9, none⟩ (.slice Ae n ce)).setCell ⟨w.heap.size + 1, 10, none⟩ (.string x10)) := ((hS.b.cellTo (o' := ⟨⟨V0, V1, V2, V3, V4, V5, V6, V7, false, es, Od.E0⟩, .slice Ae n ce⟩) _ rfl).cellTo _ rfl)
        have hZ : BoxW w.heap.size Wh.zero ((w2.setCell ⟨w.heap.size + 1, 9, none⟩ (.slice Ae n ce)).setCell ⟨w.heap.size + 1, 10, none⟩ (.string x10)) := (hS.z.other (a := ⟨w.heap.size + 1, 9, none⟩) (by simp) _).other (a := ⟨w.heap.size + 1, 10, none⟩) (by simp) _
        have hL : Below w.heap.size w ((w2.setCell ⟨w.heap.size + 1, 9, none⟩ (.slice Ae n ce)).setCell ⟨w.heap.size + 1, 10, none⟩ (.string x10)) := (hS.low.setCell (p := ⟨w.heap.size + 1, 9, none⟩) (by simp) _).setCell (p := ⟨w.heap.size + 1, 10, none⟩) (by simp) _
        have hbase : w.heap.size + 2 ≤ (w1.setCell ⟨w.heap.size + 1, 8, none⟩ (.bool false)).heap.size := by have := hle; omega
        have hO : OwnE ((w2.setCell ⟨w.heap.size + 1, 9, none⟩ (.slice Ae n ce)).setCell ⟨w.heap.size + 1, 10, none⟩ (.string x10)) (w.heap.size + 2) (.slice Ae n ce) es := Ro.own_set (Ro.own_set (Ro.own_base (by rw [← hn] at hoE; rw [← hn]; exact hoE) hbase) (a := ⟨w.heap.size + 1, 9, none⟩) (by show w.heap.size + 1 < w.heap.size + 2; omega) _) (a := ⟨w.heap.size + 1, 10, none⟩) (by show w.heap.size + 1 < w.heap.size + 2; omega) _
        clear hread h0 h1 h2 h3 h4 h5 h6 h7 hE hb2 hS hT hoE hag hbase hle
        go_wp2_with (first | refine wpList_loadW (o := ⟨⟨V0, V1, V2, V3, V4, V5, V6, V7, false, es, x10⟩, .slice Ae n ce⟩) rfl rfl rfl hB ?_ | refine wpList_setW2 (o := ⟨⟨V0, V1, V2, V3, V4, V5, V6, V7, false, es, x10⟩, .slice Ae n ce⟩) rfl rfl rfl rfl hZ rfl ?_)
        intro WF hzG hko hbF hzF
        have hOF : OwnE WF w.heap.size (.slice Ae n ce) es := Ro.own_base (own_heap hO (fun k hk => hko k (by omega))) (by omega)
        go_wp2_with fail
        exact bodyPost_ret (res_BoxW_tmp Tryz.results47 rfl rfl hzG) rfl ⟨by rw [HR.out]; exact ⟨_, rfl, hOF⟩, hbF _ _ hL (Nat.le_refl _)⟩
    · have HR := Lib.hid (show readW s.data.toList = none from hread.trans (by
        unfold readWL
        have e1 : ¬ x8.data.toList = [49] := fun h => hx1 (Od.ba_same h)
        have e0 : ¬ x8.data.toList = [48] := fun h => hx0 (Od.ba_same h)
        simp [h0, h1, h2, h3, h4, h5, h6, h7, e1, e0]))
      have y8 : w1.cell? ⟨g, 8, none⟩ = some (.string x8) := hT.t 8 x8 rfl
      have n1 : (x8.toList == [49]) = false := by rw [beq_eq_false_iff_ne]; intro h; exact hx1 (Od.ba_same (by rw [← ByteArray.toList_eq]; exact h))
      have m1 : (x8.toList != [49]) = true := by rw [bne, n1]; rfl
      have n0 : (x8.toList == [48]) = false := by rw [beq_eq_false_iff_ne]; intro h; exact hx0 (Od.ba_same (by rw [← ByteArray.toList_eq]; exact h))
      have m0 : (x8.toList != [48]) = true := by rw [bne, n0]; rfl
      clear hread h0 h1 h2 h3 h4 h5 h6 h7 hx1 hx0 hT
      go_wp2_with fail
      have hlowF := (hS).low
      have hzF := (hS).z
      refine wp_goto ?_
      refine And.intro (show (0 : Nat) = 0 from rfl) ?_
      try dsimp only
      go_wp2_with (refine wpList_setW (o := Wh.zero) rfl rfl rfl rfl hzF rfl ?_)
      intro WF hzG _ hbF _
      go_wp2_with fail
      rw [Exit.noGoto_ret]
      exact bodyPost_ret (res_BoxW_tmp Tryz.results47 rfl rfl hzG) rfl ⟨by rw [HR.out]; exact rfl, hbF _ _ hlowF (Nat.le_refl _)⟩
theorem readW_any (s : ByteArray) (w : World) (hs : s.size ≤ 30000) (hg : Good w) : Calls Tryz.prog 47 #[.string s] w fun e w' => WireOut w (readW s.data.toList) e w' := by
  cases hu : allT s.data.toList with
  | none => exact readW_none s w hs hg hu
  | some l =>
    by_cases hl : l.length = 11
    · obtain ⟨a, b, c, d, e, f, g, i, r, x, t, rfl⟩ := len11 hl
      refine readW_some s w hs hg ⟨a.toArray⟩ ⟨b.toArray⟩ ⟨c.toArray⟩ ⟨d.toArray⟩ ⟨e.toArray⟩ ⟨f.toArray⟩ ⟨g.toArray⟩ ⟨i.toArray⟩ ⟨r.toArray⟩ ⟨x.toArray⟩ ⟨t.toArray⟩ ?_
      rw [hu]
      simp [texts]
    · exact readW_len s w hs hg l hu hl
end Go.Proofs.YtkpakiiijphjeaaGreatDoor.Po

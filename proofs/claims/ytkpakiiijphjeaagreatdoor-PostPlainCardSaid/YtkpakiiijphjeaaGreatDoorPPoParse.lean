/-
  Parse, the program's: the packet whose text a text is. Conditions: texts of at most 30,000 bytes; the library's variables hold what their types allow.
-/
import Derived.Test.YtkpakiiijphjeaaGreatDoorPPoRW
import Derived.Test.YtkpakiiijphjeaaGreatDoorPPoCheck
import Derived.Test.YtkpakiiijphjeaaGreatDoorPOdPaA
import Derived.Test.YtkpakiiijphjeaaGreatDoorPBaseA
namespace Go.Proofs.YtkpakiiijphjeaaGreatDoor.Po
open Go.RowKit
open Ro (En tAt tAt_get OwnE SE entsT entsT_length)
open Od (OwnP SP parseA parseR putA putR)
open Go.Proofs.YtkpakiiijphjeaaGreatDoor.M (tieT intT inR openT open_spec sealT sealT_length)
def ParseOut (w : World) (q : Pk × Int) (e : Ending) (w' : World) : Prop := ∃ o : Kh, o.k = q.1 ∧ e = .returned (.tuple #[kv o, .int .i64 q.2]) ∧ HK w' w'.heap.size o ∧ Below w.heap.size w w'
structure SK (n : Nat) (w : World) (o : Kh) (wx : World) : Prop where
  z : BoxK n Kh.zero wx
  b : BoxK (n + 1) o wx
  low : Below n w wx
  es : OwnE wx (n + 2) o.ws o.k.wire.es
  fs : ∃ A c, o.rs = .slice A o.k.rep.ps.length c
  ps : 0 < o.k.rep.ps.length → OwnP wx (n + 2) o.rs o.k.rep.ps
theorem row_keep {w w' : World} {base : Nat} {e : TypeId} {sz : Nat} {v : Value} {n : Nat} {cs : List Value} (h : w.ownsRow base e sz v n cs) (hb : Below w.heap.size w w') : w'.ownsRow base e sz v n cs :=
  h.kept (row := none) ⟨hb.os, hb.tape, hb.output, hb.size, fun k hk _ => hb.block k hk⟩ (Classical.em _)
theorem SK.keep {n : Nat} {w wx wy : World} {o : Kh} (h : SK n w o wx) (hb : Below wx.heap.size wx wy) : SK n w o wy := by
  have hlt := h.b.lt
  exact ⟨h.z.keep hb, h.b.keep hb, h.low.trans (hb.mono (by omega)), Ro.own_keep h.es hb, h.fs, fun h0 => row_keep (h.ps h0) hb⟩
theorem SK.put {n k : Nat} {w wx : World} {o o' : Kh} (h : SK n w o wx) (v : Value) (e : (arrBoxK o).toList.set k v = (arrBoxK o').toList) (e1 : o'.ws = o.ws) (e2 : o'.k.wire.es = o.k.wire.es) (e3 : o'.rs = o.rs) (e4 : o'.k.rep.ps = o.k.rep.ps) : SK n w o' (wx.setCell ⟨n + 1, k, none⟩ v) :=
  ⟨h.z.other (by simp) _, h.b.cellTo _ e, h.low.setCell (p := ⟨n + 1, k, none⟩) (by simp) _, by rw [e1, e2]; exact Ro.own_set h.es (a := ⟨n + 1, k, none⟩) (by show n + 1 < n + 2; omega) _, by rw [e3, e4]; exact h.fs, by
    rw [e3, e4]; exact fun h0 => ownsRow_setCell_below (h.ps h0) (a := ⟨n + 1, k, none⟩) (by show n + 1 < n + 2; omega) _⟩
theorem SK.hk {n : Nat} {w wx : World} {o : Kh} (h : SK n w o wx) : HK wx wx.heap.size o := by
  refine ⟨SE.of_own h.es, ?_⟩
  by_cases h0 : 0 < o.k.rep.ps.length
  · exact SP.of_own (h.ps h0)
  · obtain ⟨A, c, e⟩ := h.fs
    exact ⟨A, c, e, fun hh => absurd hh h0⟩
theorem HK_far {w W : World} {n : Nat} {o : Kh} {w0 : World} (h : SK n w0 o w) (hk : ∀ k, k ≠ n → W.heap[k]? = w.heap[k]?) : HK W W.heap.size o := by
  refine ⟨SE.of_own (own_heap h.es (fun k hb => hk k (by omega))), ?_⟩
  by_cases h0 : 0 < o.k.rep.ps.length
  · exact SP.of_own (own_heap (h.ps h0) (fun k hb => hk k (by omega)))
  · obtain ⟨A, c, e⟩ := h.fs
    exact ⟨A, c, e, fun hh => absurd hh h0⟩
theorem len_mem {l : List (List UInt8)} {x : List UInt8} (h : x ∈ l) (hl : (tieT l).length ≤ 30000) : x.length ≤ 30000 := by have := mem_tie h; omega
theorem count_len {l : List (List UInt8)} (hl : (tieT l).length ≤ 30000) : l.length ≤ 10000 := by have := tie_count l; omega
theorem siz_of {p : Pk} (hw : (putW p.wire).length ≤ 30000) (ha : (putA p.ord).length ≤ 30000) (hr : (putR p.rep).length ≤ 30000) : SizK p := by
  have h1 : (tieT (entsT p.wire.es)).length ≤ 30000 := len_mem (l := strandsW p.wire) (by unfold strandsW; simp) hw
  have h2 : p.wire.text.size ≤ 30000 := by have := len_mem (l := strandsW p.wire) (x := p.wire.text.data.toList) (by unfold strandsW; simp) hw; simpa using this
  have h3 := count_len h1
  rw [entsT_length] at h3
  have h4 := count_len (l := Od.strandsR p.rep) hr
  have h5 : (Od.strandsR p.rep).length = 4 + p.rep.ps.length * 2 := by unfold Od.strandsR; simp [Od.pairsT_length]; omega
  have m1 : ∀ x : ByteArray, x.data.toList ∈ Od.strandsA p.ord → x.size ≤ 30000 := fun x hx => by have := len_mem hx ha; simpa using this
  have m2 : ∀ x : ByteArray, x.data.toList ∈ Od.strandsR p.rep → x.size ≤ 30000 := fun x hx => by have := len_mem hx hr; simpa using this
  have m3 : ∀ y ∈ p.rep.ps, y.1.data.toList ∈ Od.strandsR p.rep ∧ y.2.data.toList ∈ Od.strandsR p.rep := fun y hy => by
    unfold Od.strandsR Od.pairsT
    constructor
    · simp only [List.mem_cons, List.mem_flatten, List.mem_map]
      exact .inr (.inr (.inr (.inr ⟨_, ⟨y, hy, rfl⟩, by simp⟩)))
    · simp only [List.mem_cons, List.mem_flatten, List.mem_map]
      exact .inr (.inr (.inr (.inr ⟨_, ⟨y, hy, rfl⟩, by simp⟩)))
  have m4 : ∀ e ∈ p.wire.es, e.2.size ≤ 30000 := fun e he => by
    have := len_mem (l := entsT p.wire.es) (x := e.2.data.toList) (by
      unfold entsT
      simp only [List.mem_flatten, List.mem_map]
      exact ⟨_, ⟨e, he, rfl⟩, by simp [Ro.entT]⟩) h1
    simpa using this
  have c1 := m1 p.ord.key (by unfold Od.strandsA; simp)
  have c2 := m1 p.ord.til (by unfold Od.strandsA; simp)
  have c3 := m1 p.ord.val (by unfold Od.strandsA; simp)
  have c4 := m2 p.rep.val (by unfold Od.strandsR; simp)
  exact ⟨by omega, fun e he => by have := m4 e he; omega, by omega, by omega, by omega, by omega, by omega, fun x hx => by have a1 := m2 _ (m3 x hx).1; have a2 := m2 _ (m3 x hx).2; omega, by omega⟩
set_option maxRecDepth 100000 in
set_option maxHeartbeats 16000000 in
theorem walk_open (s : ByteArray) (w : World) (hs : s.size ≤ 30000) (_ : Good w) (ho : openT s.data.toList = none) :
    Calls Tryz.prog 16 #[.string s] w fun e w' => ParseOut w (parseK s.data.toList) e w' := by
  have co := fun w => open_any s w (by omega)
  have hsl : s.data.toList.length ≤ 1048576 := by have h : s.data.toList.length = s.size := by simp
                                                  omega
  have HR := Lib.hid (show parseK s.data.toList = (Pk.zero, 140) from parseK_no hsl (by unfold readK; rw [ho]; rfl))
  rw [ho] at co
  unfold openR at co
  simp only [] at co
  clear ho hsl
  go_enter Tryz.func16, Tryz.ntmps16
  go_wp2_with (refine wpList_newK rfl rfl ?_)
  intro W0 Z0 hb00 hz0
  go_wp2_with fail
  refine wp_scope_fwd 0 rfl ?_
  go_wp2_with (refine wpList_newK rfl rfl ?_)
  intro W1 Z1 hb01 hz1
  have hS0 : SK w.heap.size w Kh.zero W1 := ⟨Z0.below (by omega) hb01, Z1, hb00.trans (hb01.mono (by omega)), Ro.own_nil _ _, ⟨_, _, rfl⟩, fun h => absurd h (by simp)⟩
  clear Z0 Z1 hb00 hb01
  go_wp2_with fail
  refine (co _).mono ?_
  rintro e w1 ⟨rfl, b1⟩
  have hS := hS0.keep b1
  clear co b1 hS0
  go_wp2_with fail
  have hlowF := (hS).low
  have hzF := (hS).z
  refine wp_goto ?_
  refine And.intro (show (0 : Nat) = 0 from rfl) ?_
  try dsimp only
  go_wp2_with (refine wpList_setK (o := Kh.zero) rfl rfl rfl rfl hzF rfl rfl ?_)
  intro WF hzG _ hbF _
  go_wp2_with fail
  rw [Exit.noGoto_ret]
  exact bodyPost_ret (res_BoxK_tmp Tryz.results16 rfl rfl hzG) rfl ⟨Kh.zero, by rw [HR.out], by rw [HR.out]; exact rfl, HK.zero _ _, hbF _ _ hlowF (Nat.le_refl _)⟩
set_option maxRecDepth 100000 in
set_option maxHeartbeats 16000000 in
theorem walk_none (s : ByteArray) (w : World) (hs : s.size ≤ 30000) (hg : Good w) (y : ByteArray) (ho : openT s.data.toList = some y.data.toList) (hu : allT y.data.toList = none) :
    Calls Tryz.prog 16 #[.string s] w fun e w' => ParseOut w (parseK s.data.toList) e w' := by
  have co := fun w => open_any s w (by omega)
  have hsl : s.data.toList.length ≤ 1048576 := by have h : s.data.toList.length = s.size := by simp
                                                  omega
  have HR := Lib.hid (show parseK s.data.toList = (Pk.zero, 140) from parseK_no hsl (by unfold readK; rw [ho, Option.bind_some, hu]; rfl))
  have hyl : y.size ≤ 30000 := by
    have h1 := congrArg List.length (open_spec ho)
    rw [sealT_length] at h1
    have h2 : s.data.toList.length = s.size := by simp
    have h3 : y.data.toList.length = y.size := by simp
    omega
  have cu := fun w hg => all_any y w (by omega) hg
  rw [ho] at co
  unfold openR at co
  simp only [] at co
  rw [show str y.data.toList = .string y by simp [str]] at co
  rw [hu] at cu
  unfold StrOut at cu
  clear ho hsl hu
  go_enter Tryz.func16, Tryz.ntmps16
  go_wp2_with (refine wpList_newK rfl rfl ?_)
  intro W0 Z0 hb00 hz0
  go_wp2_with fail
  refine wp_scope_fwd 0 rfl ?_
  go_wp2_with (refine wpList_newK rfl rfl ?_)
  intro W1 Z1 hb01 hz1
  have hS0 : SK w.heap.size w Kh.zero W1 := ⟨Z0.below (by omega) hb01, Z1, hb00.trans (hb01.mono (by omega)), Ro.own_nil _ _, ⟨_, _, rfl⟩, fun h => absurd h (by simp)⟩
  clear Z0 Z1 hb00 hb01
  go_wp2_with fail
  refine (co _).mono ?_
  rintro e w1 ⟨rfl, b1⟩
  have hS1 := hS0.keep b1
  clear co b1 hS0
  go_wp2_with fail
  refine (cu _ (hg.below hS1.low)).mono ?_
  rintro e w2 ⟨rfl, b2⟩
  have hS := hS1.keep b2
  clear cu b2 hS1
  go_wp2_with fail
  have hlowF := (hS).low
  have hzF := (hS).z
  refine wp_goto ?_
  refine And.intro (show (0 : Nat) = 0 from rfl) ?_
  try dsimp only
  go_wp2_with (refine wpList_setK (o := Kh.zero) rfl rfl rfl rfl hzF rfl rfl ?_)
  intro WF hzG _ hbF _
  go_wp2_with fail
  rw [Exit.noGoto_ret]
  exact bodyPost_ret (res_BoxK_tmp Tryz.results16 rfl rfl hzG) rfl ⟨Kh.zero, by rw [HR.out], by rw [HR.out]; exact rfl, HK.zero _ _, hbF _ _ hlowF (Nat.le_refl _)⟩
set_option maxRecDepth 100000 in
set_option maxHeartbeats 16000000 in
theorem walk_len (s : ByteArray) (w : World) (hs : s.size ≤ 30000) (hg : Good w) (y : ByteArray) (ho : openT s.data.toList = some y.data.toList) (l : List (List UInt8)) (hu : allT y.data.toList = some l) (hl : l.length ≠ 13) :
    Calls Tryz.prog 16 #[.string s] w fun e w' => ParseOut w (parseK s.data.toList) e w' := by
  have co := fun w => open_any s w (by omega)
  have hsl : s.data.toList.length ≤ 1048576 := by have h : s.data.toList.length = s.size := by simp
                                                  omega
  have HR := Lib.hid (show parseK s.data.toList = (Pk.zero, 140) from parseK_no hsl (by unfold readK; rw [ho, Option.bind_some, hu]; exact readL_len hl))
  have hyl : y.size ≤ 30000 := by
    have h1 := congrArg List.length (open_spec ho)
    rw [sealT_length] at h1
    have h2 : s.data.toList.length = s.size := by simp
    have h3 : y.data.toList.length = y.size := by simp
    omega
  have cu := fun w hg => all_any y w (by omega) hg
  rw [ho] at co
  unfold openR at co
  simp only [] at co
  rw [show str y.data.toList = .string y by simp [str]] at co
  rw [hu] at cu
  unfold StrOut at cu
  clear ho hsl hu
  go_enter Tryz.func16, Tryz.ntmps16
  go_wp2_with (refine wpList_newK rfl rfl ?_)
  intro W0 Z0 hb00 hz0
  go_wp2_with fail
  refine wp_scope_fwd 0 rfl ?_
  go_wp2_with (refine wpList_newK rfl rfl ?_)
  intro W1 Z1 hb01 hz1
  have hS0 : SK w.heap.size w Kh.zero W1 := ⟨Z0.below (by omega) hb01, Z1, hb00.trans (hb01.mono (by omega)), Ro.own_nil _ _, ⟨_, _, rfl⟩, fun h => absurd h (by simp)⟩
  clear Z0 Z1 hb00 hb01
  go_wp2_with fail
  refine (co _).mono ?_
  rintro e w1 ⟨rfl, b1⟩
  have hS1 := hS0.keep b1
  clear co b1 hS0
  go_wp2_with fail
  refine (cu _ (hg.below hS1.low)).mono ?_
  rintro e w2 ⟨⟨v, ss, rfl, hss, hown⟩, b2⟩
  subst hss
  rw [texts_length] at hl
  obtain ⟨g, A, cap, rfl, _, _, _, _⟩ := row_cells hown
  obtain ⟨N, hN⟩ : ∃ N, ss.length = N := ⟨_, rfl⟩
  rw [hN] at hl ⊢
  have q1 : ((N : Int) == 13) = false := by simp; omega
  have q2 : ((N : Int) != 13) = true := by simp [bne, q1]
  have q3 : ((N : Int) = 13) = False := eq_false (by omega)
  have hS := hS1.keep b2
  clear cu b2 hS1 hown hN hl
  go_wp2_with fail
  have hlowF := (hS).low
  have hzF := (hS).z
  refine wp_goto ?_
  refine And.intro (show (0 : Nat) = 0 from rfl) ?_
  try dsimp only
  go_wp2_with (refine wpList_setK (o := Kh.zero) rfl rfl rfl rfl hzF rfl rfl ?_)
  intro WF hzG _ hbF _
  go_wp2_with fail
  rw [Exit.noGoto_ret]
  exact bodyPost_ret (res_BoxK_tmp Tryz.results16 rfl rfl hzG) rfl ⟨Kh.zero, by rw [HR.out], by rw [HR.out]; exact rfl, HK.zero _ _, hbF _ _ hlowF (Nat.le_refl _)⟩
set_option maxRecDepth 100000 in
set_option maxHeartbeats 16000000 in
theorem walk_some (s : ByteArray) (w : World) (hs : s.size ≤ 30000) (hg : Good w) (y : ByteArray) (ho : openT s.data.toList = some y.data.toList) (x0 x1 x2 x3 x4 x5 x6 x7 x8 x9 x10 x11 x12 : ByteArray) (hu : allT y.data.toList = some (texts [x0, x1, x2, x3, x4, x5, x6, x7, x8, x9, x10, x11, x12])) :
    Calls Tryz.prog 16 #[.string s] w fun e w' => ParseOut w (parseK s.data.toList) e w' := by
  have co := fun w => open_any s w (by omega)
  have hsl : s.data.toList.length ≤ 1048576 := by have h : s.data.toList.length = s.size := by simp
                                                  omega
  have hread : readK s.data.toList = readL (texts [x0, x1, x2, x3, x4, x5, x6, x7, x8, x9, x10, x11, x12]) := by unfold readK; rw [ho, Option.bind_some, hu]; rfl
  have hyl : y.size ≤ 30000 := by
    have h1 := congrArg List.length (open_spec ho)
    rw [sealT_length] at h1
    have h2 : s.data.toList.length = s.size := by simp
    have h3 : y.data.toList.length = y.size := by simp
    omega
  have cu := fun w hg => all_any y w (by omega) hg
  rw [ho] at co
  unfold openR at co
  simp only [] at co
  rw [show str y.data.toList = .string y by simp [str]] at co
  rw [hu] at cu
  unfold StrOut at cu
  have hsz : ∀ x ∈ texts [x0, x1, x2, x3, x4, x5, x6, x7, x8, x9, x10, x11, x12], x.length ≤ 30000 := fun x hx => by
    have h1 := mem_tie hx
    rw [← all_spec hu] at h1
    have h2 : y.data.toList.length = y.size := by simp
    omega
  rw [show texts [x0, x1, x2, x3, x4, x5, x6, x7, x8, x9, x10, x11, x12] = [x0.data.toList, x1.data.toList, x2.data.toList, x3.data.toList, x4.data.toList, x5.data.toList, x6.data.toList, x7.data.toList, x8.data.toList, x9.data.toList, x10.data.toList, x11.data.toList, x12.data.toList] from rfl] at hread
  clear hu ho hyl
  go_enter Tryz.func16, Tryz.ntmps16
  go_wp2_with (refine wpList_newK rfl rfl ?_)
  intro W0 Z0 hb00 hz0
  go_wp2_with fail
  refine wp_scope_fwd 0 rfl ?_
  go_wp2_with (refine wpList_newK rfl rfl ?_)
  intro W1 Z1 hb01 hz1
  have hS0 : SK w.heap.size w Kh.zero W1 := ⟨Z0.below (by omega) hb01, Z1, hb00.trans (hb01.mono (by omega)), Ro.own_nil _ _, ⟨_, _, rfl⟩, fun h => absurd h (by simp)⟩
  clear Z0 Z1 hb00 hb01
  go_wp2_with fail
  refine (co _).mono ?_
  rintro e w1 ⟨rfl, b1⟩
  have hS1 := hS0.keep b1
  clear co b1 hS0
  go_wp2_with fail
  have hb12 : w.heap.size + 2 ≤ w1.heap.size := by have := hS1.b.lt; omega
  refine (cu _ (hg.below hS1.low)).mono ?_
  rintro e w2 ⟨⟨v, ss, rfl, hss, hown⟩, b2⟩
  obtain rfl := texts_inj hss
  obtain ⟨g, A, cap, rfl, hA, hnc, _, hcl⟩ := row_cells hown
  obtain ⟨rfl, hgl⟩ := hA (by simp)
  have hfar : w.heap.size + 1 < g := by
    obtain ⟨g', cap', cur, e1, hbg, _⟩ := hown.2.resolve_left (fun h => absurd h.2 (by simp))
    injection e1 with e2
    injection e2 with e2
    injection e2 with e2
    omega
  have hT : ST w.heap.size g [x0, x1, x2, x3, x4, x5, x6, x7, x8, x9, x10, x11, x12] w2 := ⟨hfar, hgl, fun j x hx => by
    have hj : j < [x0, x1, x2, x3, x4, x5, x6, x7, x8, x9, x10, x11, x12].length := (List.getElem?_eq_some_iff.1 hx).1
    rw [hcl j hj, tAt_get hj]
    rw [List.getElem?_eq_getElem hj] at hx
    rw [Option.some.inj hx]⟩
  have hS := hS1.keep b2
  have hz : ∀ (j : Nat) (x : ByteArray), [x0, x1, x2, x3, x4, x5, x6, x7, x8, x9, x10, x11, x12][j]? = some x → x.size ≤ 30000 := fun j x hx => by
    have h1 := hsz x.data.toList (List.mem_map.2 ⟨x, List.mem_of_getElem? hx, rfl⟩)
    simpa using h1
  rw [show [x0, x1, x2, x3, x4, x5, x6, x7, x8, x9, x10, x11, x12].length = 13 from rfl]
  have y0 : w2.cell? ⟨g, 0, none⟩ = some (.string x0) := hT.t 0 x0 rfl
  clear cu b2 hS1 hown hA hcl hss hgl hfar hnc hsz hb12 w1
  go_wp2_with fail
  clear y0
  generalize w2 = w1 at hS hT ⊢
  have cr := readI_any (w.heap.size + 1) 0 0 x0 w1 (by have := hz 0 x0 rfl; omega) (hg.below hS.low) (hS.b.cell 0) (hS.b.frozen 0) hS.b.lt
  refine cr.mono ?_
  rintro e w2 ⟨rfl, wy, hby, rfl⟩
  clear cr
  cases h0 : intT x0.data.toList with
  | none =>
    have HR := Lib.hid (show parseK s.data.toList = (Pk.zero, 140) from parseK_no hsl (hread.trans (by unfold readL; simp [h0])))
    have hS2 := (hS.keep hby).put (k := 0) (o' := ⟨⟨0, 0, 0, 0, Wr.zero, 0, 0, Od.Ask.zero, 0, 0, 0, 0, Od.Rep.zero⟩, nilS, nilS⟩) (.int .i64 0) rfl rfl rfl rfl rfl
    clear hS hT hread h0 hby
    simp only [Option.isSome_none, Option.getD_none]
    go_wp2_with fail
    have hlowF := (hS2).low
    have hzF := (hS2).z
    refine wp_goto ?_
    refine And.intro (show (0 : Nat) = 0 from rfl) ?_
    try dsimp only
    go_wp2_with (refine wpList_setK (o := Kh.zero) rfl rfl rfl rfl hzF rfl rfl ?_)
    intro WF hzG _ hbF _
    go_wp2_with fail
    rw [Exit.noGoto_ret]
    exact bodyPost_ret (res_BoxK_tmp Tryz.results16 rfl rfl hzG) rfl ⟨Kh.zero, by rw [HR.out], by rw [HR.out]; exact rfl, HK.zero _ _, hbF _ _ hlowF (Nat.le_refl _)⟩
  | some V0 =>
  have hS2 := (hS.keep hby).put (k := 0) (o' := ⟨⟨V0, 0, 0, 0, Wr.zero, 0, 0, Od.Ask.zero, 0, 0, 0, 0, Od.Rep.zero⟩, nilS, nilS⟩) (.int .i64 V0) rfl rfl rfl rfl rfl
  have hT2 := (hT.keep hby).put (k := 0) (.int .i64 V0)
  clear hS hT hby
  simp only [Option.isSome_some, Option.getD_some]
  generalize World.setCell wy ⟨w.heap.size + 1, 0, none⟩ (.int .i64 V0) = w1 at hS2 hT2 ⊢
  have hS := hS2
  have hT := hT2
  clear hS2 hT2
  have y1 : w1.cell? ⟨g, 1, none⟩ = some (.string x1) := hT.t 1 x1 rfl
  go_wp2_with fail
  clear y1
  have cr := readI_any (w.heap.size + 1) 1 0 x1 w1 (by have := hz 1 x1 rfl; omega) (hg.below hS.low) (hS.b.cell 1) (hS.b.frozen 1) hS.b.lt
  refine cr.mono ?_
  rintro e w2 ⟨rfl, wy, hby, rfl⟩
  clear cr
  cases h1 : intT x1.data.toList with
  | none =>
    have HR := Lib.hid (show parseK s.data.toList = (Pk.zero, 140) from parseK_no hsl (hread.trans (by unfold readL; simp [h0, h1])))
    have hS2 := (hS.keep hby).put (k := 1) (o' := ⟨⟨V0, 0, 0, 0, Wr.zero, 0, 0, Od.Ask.zero, 0, 0, 0, 0, Od.Rep.zero⟩, nilS, nilS⟩) (.int .i64 0) rfl rfl rfl rfl rfl
    clear hS hT hread h0 h1 hby
    simp only [Option.isSome_none, Option.getD_none]
    go_wp2_with fail
    have hlowF := (hS2).low
    have hzF := (hS2).z
    refine wp_goto ?_
    refine And.intro (show (0 : Nat) = 0 from rfl) ?_
    try dsimp only
    go_wp2_with (refine wpList_setK (o := Kh.zero) rfl rfl rfl rfl hzF rfl rfl ?_)
    intro WF hzG _ hbF _
    go_wp2_with fail
    rw [Exit.noGoto_ret]
    exact bodyPost_ret (res_BoxK_tmp Tryz.results16 rfl rfl hzG) rfl ⟨Kh.zero, by rw [HR.out], by rw [HR.out]; exact rfl, HK.zero _ _, hbF _ _ hlowF (Nat.le_refl _)⟩
  | some V1 =>
  have hS2 := (hS.keep hby).put (k := 1) (o' := ⟨⟨V0, V1, 0, 0, Wr.zero, 0, 0, Od.Ask.zero, 0, 0, 0, 0, Od.Rep.zero⟩, nilS, nilS⟩) (.int .i64 V1) rfl rfl rfl rfl rfl
  have hT2 := (hT.keep hby).put (k := 1) (.int .i64 V1)
  clear hS hT hby
  simp only [Option.isSome_some, Option.getD_some]
  generalize World.setCell wy ⟨w.heap.size + 1, 1, none⟩ (.int .i64 V1) = w1 at hS2 hT2 ⊢
  have hS := hS2
  have hT := hT2
  clear hS2 hT2
  have y2 : w1.cell? ⟨g, 2, none⟩ = some (.string x2) := hT.t 2 x2 rfl
  go_wp2_with fail
  clear y2
  have cr := readI_any (w.heap.size + 1) 2 0 x2 w1 (by have := hz 2 x2 rfl; omega) (hg.below hS.low) (hS.b.cell 2) (hS.b.frozen 2) hS.b.lt
  refine cr.mono ?_
  rintro e w2 ⟨rfl, wy, hby, rfl⟩
  clear cr
  cases h2 : intT x2.data.toList with
  | none =>
    have HR := Lib.hid (show parseK s.data.toList = (Pk.zero, 140) from parseK_no hsl (hread.trans (by unfold readL; simp [h0, h1, h2])))
    have hS2 := (hS.keep hby).put (k := 2) (o' := ⟨⟨V0, V1, 0, 0, Wr.zero, 0, 0, Od.Ask.zero, 0, 0, 0, 0, Od.Rep.zero⟩, nilS, nilS⟩) (.int .i64 0) rfl rfl rfl rfl rfl
    clear hS hT hread h0 h1 h2 hby
    simp only [Option.isSome_none, Option.getD_none]
    go_wp2_with fail
    have hlowF := (hS2).low
    have hzF := (hS2).z
    refine wp_goto ?_
    refine And.intro (show (0 : Nat) = 0 from rfl) ?_
    try dsimp only
    go_wp2_with (refine wpList_setK (o := Kh.zero) rfl rfl rfl rfl hzF rfl rfl ?_)
    intro WF hzG _ hbF _
    go_wp2_with fail
    rw [Exit.noGoto_ret]
    exact bodyPost_ret (res_BoxK_tmp Tryz.results16 rfl rfl hzG) rfl ⟨Kh.zero, by rw [HR.out], by rw [HR.out]; exact rfl, HK.zero _ _, hbF _ _ hlowF (Nat.le_refl _)⟩
  | some V2 =>
  have hS2 := (hS.keep hby).put (k := 2) (o' := ⟨⟨V0, V1, V2, 0, Wr.zero, 0, 0, Od.Ask.zero, 0, 0, 0, 0, Od.Rep.zero⟩, nilS, nilS⟩) (.int .i64 V2) rfl rfl rfl rfl rfl
  have hT2 := (hT.keep hby).put (k := 2) (.int .i64 V2)
  clear hS hT hby
  simp only [Option.isSome_some, Option.getD_some]
  generalize World.setCell wy ⟨w.heap.size + 1, 2, none⟩ (.int .i64 V2) = w1 at hS2 hT2 ⊢
  have hS := hS2
  have hT := hT2
  clear hS2 hT2
  have y3 : w1.cell? ⟨g, 3, none⟩ = some (.string x3) := hT.t 3 x3 rfl
  go_wp2_with fail
  clear y3
  have cr := readL_any (w.heap.size + 1) 3 0 x3 w1 (by have := hz 3 x3 rfl; omega) (hg.below hS.low) (hS.b.cell 3) (hS.b.frozen 3) hS.b.lt
  refine cr.mono ?_
  rintro e w2 ⟨rfl, wy, hby, rfl⟩
  clear cr
  cases h3 : intT x3.data.toList with
  | none =>
    have HR := Lib.hid (show parseK s.data.toList = (Pk.zero, 140) from parseK_no hsl (hread.trans (by unfold readL; simp [h0, h1, h2, h3])))
    have hS2 := (hS.keep hby).put (k := 3) (o' := ⟨⟨V0, V1, V2, 0, Wr.zero, 0, 0, Od.Ask.zero, 0, 0, 0, 0, Od.Rep.zero⟩, nilS, nilS⟩) (.int .i64 0) rfl rfl rfl rfl rfl
    clear hS hT hread h0 h1 h2 h3 hby
    simp only [Option.isSome_none, Option.getD_none]
    go_wp2_with fail
    have hlowF := (hS2).low
    have hzF := (hS2).z
    refine wp_goto ?_
    refine And.intro (show (0 : Nat) = 0 from rfl) ?_
    try dsimp only
    go_wp2_with (refine wpList_setK (o := Kh.zero) rfl rfl rfl rfl hzF rfl rfl ?_)
    intro WF hzG _ hbF _
    go_wp2_with fail
    rw [Exit.noGoto_ret]
    exact bodyPost_ret (res_BoxK_tmp Tryz.results16 rfl rfl hzG) rfl ⟨Kh.zero, by rw [HR.out], by rw [HR.out]; exact rfl, HK.zero _ _, hbF _ _ hlowF (Nat.le_refl _)⟩
  | some V3 =>
  have hS2 := (hS.keep hby).put (k := 3) (o' := ⟨⟨V0, V1, V2, V3, Wr.zero, 0, 0, Od.Ask.zero, 0, 0, 0, 0, Od.Rep.zero⟩, nilS, nilS⟩) (.int .i64 V3) rfl rfl rfl rfl rfl
  have hT2 := (hT.keep hby).put (k := 3) (.int .i64 V3)
  clear hS hT hby
  simp only [Option.isSome_some, Option.getD_some]
  generalize World.setCell wy ⟨w.heap.size + 1, 3, none⟩ (.int .i64 V3) = w1 at hS2 hT2 ⊢
  have hS := hS2
  have hT := hT2
  clear hS2 hT2
  have y4 : w1.cell? ⟨g, 4, none⟩ = some (.string x4) := hT.t 4 x4 rfl
  go_wp2_with fail
  clear y4
  have cw := readW_any x4 w1 (hz 4 x4 rfl) (hg.below hS.low)
  refine cw.mono ?_
  rintro e w2 ⟨hout, hb2⟩
  clear cw
  have hbase : w.heap.size + 2 ≤ w1.heap.size := by have := hS.b.lt; omega
  have hS2 := hS.keep hb2
  have hT2 := hT.keep hb2
  clear hS hT
  cases h4 : readW x4.data.toList with
  | none =>
    rw [h4] at hout
    simp only [] at hout
    subst hout
    have HR := Lib.hid (show parseK s.data.toList = (Pk.zero, 140) from parseK_no hsl (hread.trans (by unfold readL; simp [h0, h1, h2, h3, h4])))
    have hS := hS2
    have hT := hT2
    clear hS2 hT2
    have u4 : w2.cell? ⟨w.heap.size + 1, 4, none⟩ = some (.int .i64 0) := hS.b.cell 4
    have v4 : w2.frozen? ⟨w.heap.size + 1, 4, none⟩ = false := hS.b.frozen 4
    have u5 : w2.cell? ⟨w.heap.size + 1, 5, none⟩ = some (.int .i64 0) := hS.b.cell 5
    have v5 : w2.frozen? ⟨w.heap.size + 1, 5, none⟩ = false := hS.b.frozen 5
    have u6 : w2.cell? ⟨w.heap.size + 1, 6, none⟩ = some (.int .i64 0) := hS.b.cell 6
    have v6 : w2.frozen? ⟨w.heap.size + 1, 6, none⟩ = false := hS.b.frozen 6
    have u7 : w2.cell? ⟨w.heap.size + 1, 7, none⟩ = some (.int .i64 0) := hS.b.cell 7
    have v7 : w2.frozen? ⟨w.heap.size + 1, 7, none⟩ = false := hS.b.frozen 7
    have u8 : w2.cell? ⟨w.heap.size + 1, 8, none⟩ = some (.int .i64 0) := hS.b.cell 8
    have v8 : w2.frozen? ⟨w.heap.size + 1, 8, none⟩ = false := hS.b.frozen 8
    have u9 : w2.cell? ⟨w.heap.size + 1, 9, none⟩ = some (.int .i64 0) := hS.b.cell 9
    have v9 : w2.frozen? ⟨w.heap.size + 1, 9, none⟩ = false := hS.b.frozen 9
    have u10 : w2.cell? ⟨w.heap.size + 1, 10, none⟩ = some (.int .i64 0) := hS.b.cell 10
    have v10 : w2.frozen? ⟨w.heap.size + 1, 10, none⟩ = false := hS.b.frozen 10
    have u11 : w2.cell? ⟨w.heap.size + 1, 11, none⟩ = some (.int .i64 0) := hS.b.cell 11
    have v11 : w2.frozen? ⟨w.heap.size + 1, 11, none⟩ = false := hS.b.frozen 11
    have u12 : w2.cell? ⟨w.heap.size + 1, 12, none⟩ = some (.bool false) := hS.b.cell 12
    have v12 : w2.frozen? ⟨w.heap.size + 1, 12, none⟩ = false := hS.b.frozen 12
    have u13 : w2.cell? ⟨w.heap.size + 1, 13, none⟩ = some (nilS) := hS.b.cell 13
    have v13 : w2.frozen? ⟨w.heap.size + 1, 13, none⟩ = false := hS.b.frozen 13
    have u14 : w2.cell? ⟨w.heap.size + 1, 14, none⟩ = some (.string Od.E0) := hS.b.cell 14
    have v14 : w2.frozen? ⟨w.heap.size + 1, 14, none⟩ = false := hS.b.frozen 14
    have hS2 : SK w.heap.size w ⟨⟨V0, V1, V2, V3, Wr.zero, 0, 0, Od.Ask.zero, 0, 0, 0, 0, Od.Rep.zero⟩, nilS, nilS⟩ (World.setCell (World.setCell (World.setCell (World.setCell (World.setCell (World.setCell (World.setCell (World.setCell (World.setCell (World.setCell (World.setCell w2 ⟨w.heap.size + 1, 4, none⟩ (.int .i64 0)) ⟨w.heap.size + 1, 5, none⟩ (.int .i64 0)) ⟨w.heap.size + 1, 6, none⟩ (.int .i64 0)) ⟨w.heap.size + 1, 7, none⟩ (.int .i64 0)) ⟨w.heap.size + 1, 8, none⟩ (.int .i64 0)) ⟨w.heap.size + 1, 9, none⟩ (.int .i64 0)) ⟨w.heap.size + 1, 10, none⟩ (.int .i64 0)) ⟨w.heap.size + 1, 11, none⟩ (.int .i64 0)) ⟨w.heap.size + 1, 12, none⟩ (.bool false)) ⟨w.heap.size + 1, 13, none⟩ (nilS)) ⟨w.heap.size + 1, 14, none⟩ (.string Od.E0)) := ⟨(((((((((((hS.z.other (a := ⟨w.heap.size + 1, 4, none⟩) (by simp) (.int .i64 0)).other (a := ⟨w.heap.size + 1, 5, none⟩) (by simp) (.int .i64 0)).other (a := ⟨w.heap.size + 1, 6, none⟩) (by simp) (.int .i64 0)).other (a := ⟨w.heap.size + 1, 7, none⟩) (by simp) (.int .i64 0)).other (a := ⟨w.heap.size + 1, 8, none⟩) (by simp) (.int .i64 0)).other (a := ⟨w.heap.size + 1, 9, none⟩) (by simp) (.int .i64 0)).other (a := ⟨w.heap.size + 1, 10, none⟩) (by simp) (.int .i64 0)).other (a := ⟨w.heap.size + 1, 11, none⟩) (by simp) (.int .i64 0)).other (a := ⟨w.heap.size + 1, 12, none⟩) (by simp) (.bool false)).other (a := ⟨w.heap.size + 1, 13, none⟩) (by simp) (nilS)).other (a := ⟨w.heap.size + 1, 14, none⟩) (by simp) (.string Od.E0)), AtL.to ((((((((((((AtL.of hS.b).cell 4 (.int .i64 0)).cell 5 (.int .i64 0)).cell 6 (.int .i64 0)).cell 7 (.int .i64 0)).cell 8 (.int .i64 0)).cell 9 (.int .i64 0)).cell 10 (.int .i64 0)).cell 11 (.int .i64 0)).cell 12 (.bool false)).cell 13 (nilS)).cell 14 (.string Od.E0)) rfl, (((((((((((hS.low.setCell (p := ⟨w.heap.size + 1, 4, none⟩) (by simp) (.int .i64 0)).setCell (p := ⟨w.heap.size + 1, 5, none⟩) (by simp) (.int .i64 0)).setCell (p := ⟨w.heap.size + 1, 6, none⟩) (by simp) (.int .i64 0)).setCell (p := ⟨w.heap.size + 1, 7, none⟩) (by simp) (.int .i64 0)).setCell (p := ⟨w.heap.size + 1, 8, none⟩) (by simp) (.int .i64 0)).setCell (p := ⟨w.heap.size + 1, 9, none⟩) (by simp) (.int .i64 0)).setCell (p := ⟨w.heap.size + 1, 10, none⟩) (by simp) (.int .i64 0)).setCell (p := ⟨w.heap.size + 1, 11, none⟩) (by simp) (.int .i64 0)).setCell (p := ⟨w.heap.size + 1, 12, none⟩) (by simp) (.bool false)).setCell (p := ⟨w.heap.size + 1, 13, none⟩) (by simp) (nilS)).setCell (p := ⟨w.heap.size + 1, 14, none⟩) (by simp) (.string Od.E0)), (Ro.own_set (Ro.own_set (Ro.own_set (Ro.own_set (Ro.own_set (Ro.own_set (Ro.own_set (Ro.own_set (Ro.own_set (Ro.own_set (Ro.own_set hS.es (a := ⟨w.heap.size + 1, 4, none⟩) (by show w.heap.size + 1 < w.heap.size + 2; omega) (.int .i64 0)) (a := ⟨w.heap.size + 1, 5, none⟩) (by show w.heap.size + 1 < w.heap.size + 2; omega) (.int .i64 0)) (a := ⟨w.heap.size + 1, 6, none⟩) (by show w.heap.size + 1 < w.heap.size + 2; omega) (.int .i64 0)) (a := ⟨w.heap.size + 1, 7, none⟩) (by show w.heap.size + 1 < w.heap.size + 2; omega) (.int .i64 0)) (a := ⟨w.heap.size + 1, 8, none⟩) (by show w.heap.size + 1 < w.heap.size + 2; omega) (.int .i64 0)) (a := ⟨w.heap.size + 1, 9, none⟩) (by show w.heap.size + 1 < w.heap.size + 2; omega) (.int .i64 0)) (a := ⟨w.heap.size + 1, 10, none⟩) (by show w.heap.size + 1 < w.heap.size + 2; omega) (.int .i64 0)) (a := ⟨w.heap.size + 1, 11, none⟩) (by show w.heap.size + 1 < w.heap.size + 2; omega) (.int .i64 0)) (a := ⟨w.heap.size + 1, 12, none⟩) (by show w.heap.size + 1 < w.heap.size + 2; omega) (.bool false)) (a := ⟨w.heap.size + 1, 13, none⟩) (by show w.heap.size + 1 < w.heap.size + 2; omega) (nilS)) (a := ⟨w.heap.size + 1, 14, none⟩) (by show w.heap.size + 1 < w.heap.size + 2; omega) (.string Od.E0)), hS.fs, fun h0 => (ownsRow_setCell_below (ownsRow_setCell_below (ownsRow_setCell_below (ownsRow_setCell_below (ownsRow_setCell_below (ownsRow_setCell_below (ownsRow_setCell_below (ownsRow_setCell_below (ownsRow_setCell_below (ownsRow_setCell_below (ownsRow_setCell_below (hS.ps h0) (a := ⟨w.heap.size + 1, 4, none⟩) (by show w.heap.size + 1 < w.heap.size + 2; omega) (.int .i64 0)) (a := ⟨w.heap.size + 1, 5, none⟩) (by show w.heap.size + 1 < w.heap.size + 2; omega) (.int .i64 0)) (a := ⟨w.heap.size + 1, 6, none⟩) (by show w.heap.size + 1 < w.heap.size + 2; omega) (.int .i64 0)) (a := ⟨w.heap.size + 1, 7, none⟩) (by show w.heap.size + 1 < w.heap.size + 2; omega) (.int .i64 0)) (a := ⟨w.heap.size + 1, 8, none⟩) (by show w.heap.size + 1 < w.heap.size + 2; omega) (.int .i64 0)) (a := ⟨w.heap.size + 1, 9, none⟩) (by show w.heap.size + 1 < w.heap.size + 2; omega) (.int .i64 0)) (a := ⟨w.heap.size + 1, 10, none⟩) (by show w.heap.size + 1 < w.heap.size + 2; omega) (.int .i64 0)) (a := ⟨w.heap.size + 1, 11, none⟩) (by show w.heap.size + 1 < w.heap.size + 2; omega) (.int .i64 0)) (a := ⟨w.heap.size + 1, 12, none⟩) (by show w.heap.size + 1 < w.heap.size + 2; omega) (.bool false)) (a := ⟨w.heap.size + 1, 13, none⟩) (by show w.heap.size + 1 < w.heap.size + 2; omega) (nilS)) (a := ⟨w.heap.size + 1, 14, none⟩) (by show w.heap.size + 1 < w.heap.size + 2; omega) (.string Od.E0))⟩
    have hT2 := (((((((((((hT.put (k := 4) (.int .i64 0)).put (k := 5) (.int .i64 0)).put (k := 6) (.int .i64 0)).put (k := 7) (.int .i64 0)).put (k := 8) (.int .i64 0)).put (k := 9) (.int .i64 0)).put (k := 10) (.int .i64 0)).put (k := 11) (.int .i64 0)).put (k := 12) (.bool false)).put (k := 13) (nilS)).put (k := 14) (.string Od.E0))
    clear hS hT hread h0 h1 h2 h3 h4 hb2 hT2
    go_wp2_with fail
    have hlowF := (hS2).low
    have hzF := (hS2).z
    refine wp_goto ?_
    refine And.intro (show (0 : Nat) = 0 from rfl) ?_
    try dsimp only
    go_wp2_with (refine wpList_setK (o := Kh.zero) rfl rfl rfl rfl hzF rfl rfl ?_)
    intro WF hzG _ hbF _
    go_wp2_with fail
    rw [Exit.noGoto_ret]
    exact bodyPost_ret (res_BoxK_tmp Tryz.results16 rfl rfl hzG) rfl ⟨Kh.zero, by rw [HR.out], by rw [HR.out]; exact rfl, HK.zero _ _, hbF _ _ hlowF (Nat.le_refl _)⟩
  | some vm =>
    rw [h4] at hout
    simp only [] at hout
    obtain ⟨sw, rfl, hoE⟩ := hout
    have hoE2 := Ro.own_base hoE hbase
    obtain ⟨Aw, cw, hsw⟩ := (SE.of_own hoE).form
    subst hsw
    obtain ⟨nw, hnw⟩ : ∃ n, vm.es.length = n := ⟨_, rfl⟩
    rw [hnw] at hoE2 ⊢
    have hS := hS2
    have hT := hT2
    clear hS2 hT2 hoE
    have u4 : w2.cell? ⟨w.heap.size + 1, 4, none⟩ = some (.int .i64 0) := hS.b.cell 4
    have v4 : w2.frozen? ⟨w.heap.size + 1, 4, none⟩ = false := hS.b.frozen 4
    have u5 : w2.cell? ⟨w.heap.size + 1, 5, none⟩ = some (.int .i64 0) := hS.b.cell 5
    have v5 : w2.frozen? ⟨w.heap.size + 1, 5, none⟩ = false := hS.b.frozen 5
    have u6 : w2.cell? ⟨w.heap.size + 1, 6, none⟩ = some (.int .i64 0) := hS.b.cell 6
    have v6 : w2.frozen? ⟨w.heap.size + 1, 6, none⟩ = false := hS.b.frozen 6
    have u7 : w2.cell? ⟨w.heap.size + 1, 7, none⟩ = some (.int .i64 0) := hS.b.cell 7
    have v7 : w2.frozen? ⟨w.heap.size + 1, 7, none⟩ = false := hS.b.frozen 7
    have u8 : w2.cell? ⟨w.heap.size + 1, 8, none⟩ = some (.int .i64 0) := hS.b.cell 8
    have v8 : w2.frozen? ⟨w.heap.size + 1, 8, none⟩ = false := hS.b.frozen 8
    have u9 : w2.cell? ⟨w.heap.size + 1, 9, none⟩ = some (.int .i64 0) := hS.b.cell 9
    have v9 : w2.frozen? ⟨w.heap.size + 1, 9, none⟩ = false := hS.b.frozen 9
    have u10 : w2.cell? ⟨w.heap.size + 1, 10, none⟩ = some (.int .i64 0) := hS.b.cell 10
    have v10 : w2.frozen? ⟨w.heap.size + 1, 10, none⟩ = false := hS.b.frozen 10
    have u11 : w2.cell? ⟨w.heap.size + 1, 11, none⟩ = some (.int .i64 0) := hS.b.cell 11
    have v11 : w2.frozen? ⟨w.heap.size + 1, 11, none⟩ = false := hS.b.frozen 11
    have u12 : w2.cell? ⟨w.heap.size + 1, 12, none⟩ = some (.bool false) := hS.b.cell 12
    have v12 : w2.frozen? ⟨w.heap.size + 1, 12, none⟩ = false := hS.b.frozen 12
    have u13 : w2.cell? ⟨w.heap.size + 1, 13, none⟩ = some (nilS) := hS.b.cell 13
    have v13 : w2.frozen? ⟨w.heap.size + 1, 13, none⟩ = false := hS.b.frozen 13
    have u14 : w2.cell? ⟨w.heap.size + 1, 14, none⟩ = some (.string Od.E0) := hS.b.cell 14
    have v14 : w2.frozen? ⟨w.heap.size + 1, 14, none⟩ = false := hS.b.frozen 14
    have hS2 : SK w.heap.size w ⟨⟨V0, V1, V2, V3, vm, 0, 0, Od.Ask.zero, 0, 0, 0, 0, Od.Rep.zero⟩, .slice Aw nw cw, nilS⟩ (World.setCell (World.setCell (World.setCell (World.setCell (World.setCell (World.setCell (World.setCell (World.setCell (World.setCell (World.setCell (World.setCell w2 ⟨w.heap.size + 1, 4, none⟩ (.int .i64 vm.kind)) ⟨w.heap.size + 1, 5, none⟩ (.int .i64 vm.frm)) ⟨w.heap.size + 1, 6, none⟩ (.int .i64 vm.til)) ⟨w.heap.size + 1, 7, none⟩ (.int .i64 vm.term)) ⟨w.heap.size + 1, 8, none⟩ (.int .i64 vm.index)) ⟨w.heap.size + 1, 9, none⟩ (.int .i64 vm.lterm)) ⟨w.heap.size + 1, 10, none⟩ (.int .i64 vm.commit)) ⟨w.heap.size + 1, 11, none⟩ (.int .i64 vm.hint)) ⟨w.heap.size + 1, 12, none⟩ (.bool vm.reject)) ⟨w.heap.size + 1, 13, none⟩ (.slice Aw nw cw)) ⟨w.heap.size + 1, 14, none⟩ (.string vm.text)) := ⟨(((((((((((hS.z.other (a := ⟨w.heap.size + 1, 4, none⟩) (by simp) (.int .i64 vm.kind)).other (a := ⟨w.heap.size + 1, 5, none⟩) (by simp) (.int .i64 vm.frm)).other (a := ⟨w.heap.size + 1, 6, none⟩) (by simp) (.int .i64 vm.til)).other (a := ⟨w.heap.size + 1, 7, none⟩) (by simp) (.int .i64 vm.term)).other (a := ⟨w.heap.size + 1, 8, none⟩) (by simp) (.int .i64 vm.index)).other (a := ⟨w.heap.size + 1, 9, none⟩) (by simp) (.int .i64 vm.lterm)).other (a := ⟨w.heap.size + 1, 10, none⟩) (by simp) (.int .i64 vm.commit)).other (a := ⟨w.heap.size + 1, 11, none⟩) (by simp) (.int .i64 vm.hint)).other (a := ⟨w.heap.size + 1, 12, none⟩) (by simp) (.bool vm.reject)).other (a := ⟨w.heap.size + 1, 13, none⟩) (by simp) (.slice Aw nw cw)).other (a := ⟨w.heap.size + 1, 14, none⟩) (by simp) (.string vm.text)), AtL.to ((((((((((((AtL.of hS.b).cell 4 (.int .i64 vm.kind)).cell 5 (.int .i64 vm.frm)).cell 6 (.int .i64 vm.til)).cell 7 (.int .i64 vm.term)).cell 8 (.int .i64 vm.index)).cell 9 (.int .i64 vm.lterm)).cell 10 (.int .i64 vm.commit)).cell 11 (.int .i64 vm.hint)).cell 12 (.bool vm.reject)).cell 13 (.slice Aw nw cw)).cell 14 (.string vm.text)) rfl, (((((((((((hS.low.setCell (p := ⟨w.heap.size + 1, 4, none⟩) (by simp) (.int .i64 vm.kind)).setCell (p := ⟨w.heap.size + 1, 5, none⟩) (by simp) (.int .i64 vm.frm)).setCell (p := ⟨w.heap.size + 1, 6, none⟩) (by simp) (.int .i64 vm.til)).setCell (p := ⟨w.heap.size + 1, 7, none⟩) (by simp) (.int .i64 vm.term)).setCell (p := ⟨w.heap.size + 1, 8, none⟩) (by simp) (.int .i64 vm.index)).setCell (p := ⟨w.heap.size + 1, 9, none⟩) (by simp) (.int .i64 vm.lterm)).setCell (p := ⟨w.heap.size + 1, 10, none⟩) (by simp) (.int .i64 vm.commit)).setCell (p := ⟨w.heap.size + 1, 11, none⟩) (by simp) (.int .i64 vm.hint)).setCell (p := ⟨w.heap.size + 1, 12, none⟩) (by simp) (.bool vm.reject)).setCell (p := ⟨w.heap.size + 1, 13, none⟩) (by simp) (.slice Aw nw cw)).setCell (p := ⟨w.heap.size + 1, 14, none⟩) (by simp) (.string vm.text)), (Ro.own_set (Ro.own_set (Ro.own_set (Ro.own_set (Ro.own_set (Ro.own_set (Ro.own_set (Ro.own_set (Ro.own_set (Ro.own_set (Ro.own_set (show OwnE w2 (w.heap.size + 2) (.slice Aw nw cw) vm.es from hoE2) (a := ⟨w.heap.size + 1, 4, none⟩) (by show w.heap.size + 1 < w.heap.size + 2; omega) (.int .i64 vm.kind)) (a := ⟨w.heap.size + 1, 5, none⟩) (by show w.heap.size + 1 < w.heap.size + 2; omega) (.int .i64 vm.frm)) (a := ⟨w.heap.size + 1, 6, none⟩) (by show w.heap.size + 1 < w.heap.size + 2; omega) (.int .i64 vm.til)) (a := ⟨w.heap.size + 1, 7, none⟩) (by show w.heap.size + 1 < w.heap.size + 2; omega) (.int .i64 vm.term)) (a := ⟨w.heap.size + 1, 8, none⟩) (by show w.heap.size + 1 < w.heap.size + 2; omega) (.int .i64 vm.index)) (a := ⟨w.heap.size + 1, 9, none⟩) (by show w.heap.size + 1 < w.heap.size + 2; omega) (.int .i64 vm.lterm)) (a := ⟨w.heap.size + 1, 10, none⟩) (by show w.heap.size + 1 < w.heap.size + 2; omega) (.int .i64 vm.commit)) (a := ⟨w.heap.size + 1, 11, none⟩) (by show w.heap.size + 1 < w.heap.size + 2; omega) (.int .i64 vm.hint)) (a := ⟨w.heap.size + 1, 12, none⟩) (by show w.heap.size + 1 < w.heap.size + 2; omega) (.bool vm.reject)) (a := ⟨w.heap.size + 1, 13, none⟩) (by show w.heap.size + 1 < w.heap.size + 2; omega) (.slice Aw nw cw)) (a := ⟨w.heap.size + 1, 14, none⟩) (by show w.heap.size + 1 < w.heap.size + 2; omega) (.string vm.text)), hS.fs, fun h0 => (ownsRow_setCell_below (ownsRow_setCell_below (ownsRow_setCell_below (ownsRow_setCell_below (ownsRow_setCell_below (ownsRow_setCell_below (ownsRow_setCell_below (ownsRow_setCell_below (ownsRow_setCell_below (ownsRow_setCell_below (ownsRow_setCell_below (hS.ps h0) (a := ⟨w.heap.size + 1, 4, none⟩) (by show w.heap.size + 1 < w.heap.size + 2; omega) (.int .i64 vm.kind)) (a := ⟨w.heap.size + 1, 5, none⟩) (by show w.heap.size + 1 < w.heap.size + 2; omega) (.int .i64 vm.frm)) (a := ⟨w.heap.size + 1, 6, none⟩) (by show w.heap.size + 1 < w.heap.size + 2; omega) (.int .i64 vm.til)) (a := ⟨w.heap.size + 1, 7, none⟩) (by show w.heap.size + 1 < w.heap.size + 2; omega) (.int .i64 vm.term)) (a := ⟨w.heap.size + 1, 8, none⟩) (by show w.heap.size + 1 < w.heap.size + 2; omega) (.int .i64 vm.index)) (a := ⟨w.heap.size + 1, 9, none⟩) (by show w.heap.size + 1 < w.heap.size + 2; omega) (.int .i64 vm.lterm)) (a := ⟨w.heap.size + 1, 10, none⟩) (by show w.heap.size + 1 < w.heap.size + 2; omega) (.int .i64 vm.commit)) (a := ⟨w.heap.size + 1, 11, none⟩) (by show w.heap.size + 1 < w.heap.size + 2; omega) (.int .i64 vm.hint)) (a := ⟨w.heap.size + 1, 12, none⟩) (by show w.heap.size + 1 < w.heap.size + 2; omega) (.bool vm.reject)) (a := ⟨w.heap.size + 1, 13, none⟩) (by show w.heap.size + 1 < w.heap.size + 2; omega) (.slice Aw nw cw)) (a := ⟨w.heap.size + 1, 14, none⟩) (by show w.heap.size + 1 < w.heap.size + 2; omega) (.string vm.text))⟩
    have hT2 := (((((((((((hT.put (k := 4) (.int .i64 vm.kind)).put (k := 5) (.int .i64 vm.frm)).put (k := 6) (.int .i64 vm.til)).put (k := 7) (.int .i64 vm.term)).put (k := 8) (.int .i64 vm.index)).put (k := 9) (.int .i64 vm.lterm)).put (k := 10) (.int .i64 vm.commit)).put (k := 11) (.int .i64 vm.hint)).put (k := 12) (.bool vm.reject)).put (k := 13) (.slice Aw nw cw)).put (k := 14) (.string vm.text))
    have hwv : (wv vm (.slice Aw nw cw)) = wv vm (.slice Aw nw cw) := rfl
    obtain ⟨sw, hsw⟩ : ∃ sw, Value.slice Aw nw cw = sw := ⟨_, rfl⟩
    have y5 : (World.setCell (World.setCell (World.setCell (World.setCell (World.setCell (World.setCell (World.setCell (World.setCell (World.setCell (World.setCell (World.setCell w2 ⟨w.heap.size + 1, 4, none⟩ (.int .i64 vm.kind)) ⟨w.heap.size + 1, 5, none⟩ (.int .i64 vm.frm)) ⟨w.heap.size + 1, 6, none⟩ (.int .i64 vm.til)) ⟨w.heap.size + 1, 7, none⟩ (.int .i64 vm.term)) ⟨w.heap.size + 1, 8, none⟩ (.int .i64 vm.index)) ⟨w.heap.size + 1, 9, none⟩ (.int .i64 vm.lterm)) ⟨w.heap.size + 1, 10, none⟩ (.int .i64 vm.commit)) ⟨w.heap.size + 1, 11, none⟩ (.int .i64 vm.hint)) ⟨w.heap.size + 1, 12, none⟩ (.bool vm.reject)) ⟨w.heap.size + 1, 13, none⟩ (.slice Aw nw cw)) ⟨w.heap.size + 1, 14, none⟩ (.string vm.text)).cell? ⟨g, 5, none⟩ = some (.string x5) := hT2.t 5 x5 rfl
    clear hS hT hb2 hbase hoE2 hwv hsw sw
    go_wp2_with fail
    clear y5 u4 v4 u5 v5 u6 v6 u7 v7 u8 v8 u9 v9 u10 v10 u11 v11 u12 v12 u13 v13 u14 v14
    generalize (World.setCell (World.setCell (World.setCell (World.setCell (World.setCell (World.setCell (World.setCell (World.setCell (World.setCell (World.setCell (World.setCell w2 ⟨w.heap.size + 1, 4, none⟩ (.int .i64 vm.kind)) ⟨w.heap.size + 1, 5, none⟩ (.int .i64 vm.frm)) ⟨w.heap.size + 1, 6, none⟩ (.int .i64 vm.til)) ⟨w.heap.size + 1, 7, none⟩ (.int .i64 vm.term)) ⟨w.heap.size + 1, 8, none⟩ (.int .i64 vm.index)) ⟨w.heap.size + 1, 9, none⟩ (.int .i64 vm.lterm)) ⟨w.heap.size + 1, 10, none⟩ (.int .i64 vm.commit)) ⟨w.heap.size + 1, 11, none⟩ (.int .i64 vm.hint)) ⟨w.heap.size + 1, 12, none⟩ (.bool vm.reject)) ⟨w.heap.size + 1, 13, none⟩ (.slice Aw nw cw)) ⟨w.heap.size + 1, 14, none⟩ (.string vm.text)) = w1 at hS2 hT2 ⊢
    have hS := hS2
    have hT := hT2
    clear hS2 hT2
    have cr := readL_any (w.heap.size + 1) 15 0 x5 w1 (by have := hz 5 x5 rfl; omega) (hg.below hS.low) (hS.b.cell 15) (hS.b.frozen 15) hS.b.lt
    refine cr.mono ?_
    rintro e w2 ⟨rfl, wy, hby, rfl⟩
    clear cr
    cases h5 : intT x5.data.toList with
    | none =>
      have HR := Lib.hid (show parseK s.data.toList = (Pk.zero, 140) from parseK_no hsl (hread.trans (by unfold readL; simp [h0, h1, h2, h3, h4, h5])))
      have hS2 := (hS.keep hby).put (k := 15) (o' := ⟨⟨V0, V1, V2, V3, vm, 0, 0, Od.Ask.zero, 0, 0, 0, 0, Od.Rep.zero⟩, .slice Aw nw cw, nilS⟩) (.int .i64 0) rfl rfl rfl rfl rfl
      clear hS hT hread h0 h1 h2 h3 h4 h5 hby
      simp only [Option.isSome_none, Option.getD_none]
      go_wp2_with fail
      have hlowF := (hS2).low
      have hzF := (hS2).z
      refine wp_goto ?_
      refine And.intro (show (0 : Nat) = 0 from rfl) ?_
      try dsimp only
      go_wp2_with (refine wpList_setK (o := Kh.zero) rfl rfl rfl rfl hzF rfl rfl ?_)
      intro WF hzG _ hbF _
      go_wp2_with fail
      rw [Exit.noGoto_ret]
      exact bodyPost_ret (res_BoxK_tmp Tryz.results16 rfl rfl hzG) rfl ⟨Kh.zero, by rw [HR.out], by rw [HR.out]; exact rfl, HK.zero _ _, hbF _ _ hlowF (Nat.le_refl _)⟩
    | some V5 =>
    have hS2 := (hS.keep hby).put (k := 15) (o' := ⟨⟨V0, V1, V2, V3, vm, V5, 0, Od.Ask.zero, 0, 0, 0, 0, Od.Rep.zero⟩, .slice Aw nw cw, nilS⟩) (.int .i64 V5) rfl rfl rfl rfl rfl
    have hT2 := (hT.keep hby).put (k := 15) (.int .i64 V5)
    clear hS hT hby
    simp only [Option.isSome_some, Option.getD_some]
    generalize World.setCell wy ⟨w.heap.size + 1, 15, none⟩ (.int .i64 V5) = w1 at hS2 hT2 ⊢
    have hS := hS2
    have hT := hT2
    clear hS2 hT2
    have y6 : w1.cell? ⟨g, 6, none⟩ = some (.string x6) := hT.t 6 x6 rfl
    go_wp2_with fail
    clear y6
    have cr := readL_any (w.heap.size + 1) 16 0 x6 w1 (by have := hz 6 x6 rfl; omega) (hg.below hS.low) (hS.b.cell 16) (hS.b.frozen 16) hS.b.lt
    refine cr.mono ?_
    rintro e w2 ⟨rfl, wy, hby, rfl⟩
    clear cr
    cases h6 : intT x6.data.toList with
    | none =>
      have HR := Lib.hid (show parseK s.data.toList = (Pk.zero, 140) from parseK_no hsl (hread.trans (by unfold readL; simp [h0, h1, h2, h3, h4, h5, h6])))
      have hS2 := (hS.keep hby).put (k := 16) (o' := ⟨⟨V0, V1, V2, V3, vm, V5, 0, Od.Ask.zero, 0, 0, 0, 0, Od.Rep.zero⟩, .slice Aw nw cw, nilS⟩) (.int .i64 0) rfl rfl rfl rfl rfl
      clear hS hT hread h0 h1 h2 h3 h4 h5 h6 hby
      simp only [Option.isSome_none, Option.getD_none]
      go_wp2_with fail
      have hlowF := (hS2).low
      have hzF := (hS2).z
      refine wp_goto ?_
      refine And.intro (show (0 : Nat) = 0 from rfl) ?_
      try dsimp only
      go_wp2_with (refine wpList_setK (o := Kh.zero) rfl rfl rfl rfl hzF rfl rfl ?_)
      intro WF hzG _ hbF _
      go_wp2_with fail
      rw [Exit.noGoto_ret]
      exact bodyPost_ret (res_BoxK_tmp Tryz.results16 rfl rfl hzG) rfl ⟨Kh.zero, by rw [HR.out], by rw [HR.out]; exact rfl, HK.zero _ _, hbF _ _ hlowF (Nat.le_refl _)⟩
    | some V6 =>
    have hS2 := (hS.keep hby).put (k := 16) (o' := ⟨⟨V0, V1, V2, V3, vm, V5, V6, Od.Ask.zero, 0, 0, 0, 0, Od.Rep.zero⟩, .slice Aw nw cw, nilS⟩) (.int .i64 V6) rfl rfl rfl rfl rfl
    have hT2 := (hT.keep hby).put (k := 16) (.int .i64 V6)
    clear hS hT hby
    simp only [Option.isSome_some, Option.getD_some]
    generalize World.setCell wy ⟨w.heap.size + 1, 16, none⟩ (.int .i64 V6) = w1 at hS2 hT2 ⊢
    have hS := hS2
    have hT := hT2
    clear hS2 hT2
    have y7 : w1.cell? ⟨g, 7, none⟩ = some (.string x7) := hT.t 7 x7 rfl
    go_wp2_with fail
    clear y7
    have cw := Od.parse_any x7 w1 (by have := hz 7 x7 rfl; omega) (hg.below hS.low)
    refine cw.mono ?_
    rintro e w2 ⟨rfl, hb2⟩
    clear cw
    have hS2 := hS.keep hb2
    have hT2 := hT.keep hb2
    clear hS hT
    have hS := hS2
    have hT := hT2
    clear hS2 hT2
    rcases Od.parseA_cases x7.data.toList with ⟨vo, hoA, hoP, hpa⟩ | hpa
    · have h7 : ordO x7.data.toList = some vo := by unfold ordO; rw [hpa]; rfl
      rw [hpa]
      have u17 : w2.cell? ⟨w.heap.size + 1, 17, none⟩ = some (.int .i64 0) := hS.b.cell 17
      have v17 : w2.frozen? ⟨w.heap.size + 1, 17, none⟩ = false := hS.b.frozen 17
      have u18 : w2.cell? ⟨w.heap.size + 1, 18, none⟩ = some (.int .i64 0) := hS.b.cell 18
      have v18 : w2.frozen? ⟨w.heap.size + 1, 18, none⟩ = false := hS.b.frozen 18
      have u19 : w2.cell? ⟨w.heap.size + 1, 19, none⟩ = some (.int .i64 0) := hS.b.cell 19
      have v19 : w2.frozen? ⟨w.heap.size + 1, 19, none⟩ = false := hS.b.frozen 19
      have u20 : w2.cell? ⟨w.heap.size + 1, 20, none⟩ = some (.string Od.E0) := hS.b.cell 20
      have v20 : w2.frozen? ⟨w.heap.size + 1, 20, none⟩ = false := hS.b.frozen 20
      have u21 : w2.cell? ⟨w.heap.size + 1, 21, none⟩ = some (.string Od.E0) := hS.b.cell 21
      have v21 : w2.frozen? ⟨w.heap.size + 1, 21, none⟩ = false := hS.b.frozen 21
      have u22 : w2.cell? ⟨w.heap.size + 1, 22, none⟩ = some (.string Od.E0) := hS.b.cell 22
      have v22 : w2.frozen? ⟨w.heap.size + 1, 22, none⟩ = false := hS.b.frozen 22
      have u23 : w2.cell? ⟨w.heap.size + 1, 23, none⟩ = some (.string Od.E0) := hS.b.cell 23
      have v23 : w2.frozen? ⟨w.heap.size + 1, 23, none⟩ = false := hS.b.frozen 23
      have u24 : w2.cell? ⟨w.heap.size + 1, 24, none⟩ = some (.bool false) := hS.b.cell 24
      have v24 : w2.frozen? ⟨w.heap.size + 1, 24, none⟩ = false := hS.b.frozen 24
      have u25 : w2.cell? ⟨w.heap.size + 1, 25, none⟩ = some (.int .i64 0) := hS.b.cell 25
      have v25 : w2.frozen? ⟨w.heap.size + 1, 25, none⟩ = false := hS.b.frozen 25
      have u26 : w2.cell? ⟨w.heap.size + 1, 26, none⟩ = some (.int .i64 0) := hS.b.cell 26
      have v26 : w2.frozen? ⟨w.heap.size + 1, 26, none⟩ = false := hS.b.frozen 26
      have u27 : w2.cell? ⟨w.heap.size + 1, 27, none⟩ = some (.int .i64 0) := hS.b.cell 27
      have v27 : w2.frozen? ⟨w.heap.size + 1, 27, none⟩ = false := hS.b.frozen 27
      have hS2 : SK w.heap.size w ⟨⟨V0, V1, V2, V3, vm, V5, V6, vo, 0, 0, 0, 0, Od.Rep.zero⟩, .slice Aw nw cw, nilS⟩ (World.setCell (World.setCell (World.setCell (World.setCell (World.setCell (World.setCell (World.setCell (World.setCell (World.setCell (World.setCell (World.setCell w2 ⟨w.heap.size + 1, 17, none⟩ (.int .i64 vo.kind)) ⟨w.heap.size + 1, 18, none⟩ (.int .i64 vo.client)) ⟨w.heap.size + 1, 19, none⟩ (.int .i64 vo.seq)) ⟨w.heap.size + 1, 20, none⟩ (.string vo.key)) ⟨w.heap.size + 1, 21, none⟩ (.string vo.til)) ⟨w.heap.size + 1, 22, none⟩ (.string vo.val)) ⟨w.heap.size + 1, 23, none⟩ (.string vo.old)) ⟨w.heap.size + 1, 24, none⟩ (.bool vo.has)) ⟨w.heap.size + 1, 25, none⟩ (.int .i64 vo.lim)) ⟨w.heap.size + 1, 26, none⟩ (.int .i64 vo.id)) ⟨w.heap.size + 1, 27, none⟩ (.int .i64 vo.node)) := ⟨(((((((((((hS.z.other (a := ⟨w.heap.size + 1, 17, none⟩) (by simp) (.int .i64 vo.kind)).other (a := ⟨w.heap.size + 1, 18, none⟩) (by simp) (.int .i64 vo.client)).other (a := ⟨w.heap.size + 1, 19, none⟩) (by simp) (.int .i64 vo.seq)).other (a := ⟨w.heap.size + 1, 20, none⟩) (by simp) (.string vo.key)).other (a := ⟨w.heap.size + 1, 21, none⟩) (by simp) (.string vo.til)).other (a := ⟨w.heap.size + 1, 22, none⟩) (by simp) (.string vo.val)).other (a := ⟨w.heap.size + 1, 23, none⟩) (by simp) (.string vo.old)).other (a := ⟨w.heap.size + 1, 24, none⟩) (by simp) (.bool vo.has)).other (a := ⟨w.heap.size + 1, 25, none⟩) (by simp) (.int .i64 vo.lim)).other (a := ⟨w.heap.size + 1, 26, none⟩) (by simp) (.int .i64 vo.id)).other (a := ⟨w.heap.size + 1, 27, none⟩) (by simp) (.int .i64 vo.node)), AtL.to ((((((((((((AtL.of hS.b).cell 17 (.int .i64 vo.kind)).cell 18 (.int .i64 vo.client)).cell 19 (.int .i64 vo.seq)).cell 20 (.string vo.key)).cell 21 (.string vo.til)).cell 22 (.string vo.val)).cell 23 (.string vo.old)).cell 24 (.bool vo.has)).cell 25 (.int .i64 vo.lim)).cell 26 (.int .i64 vo.id)).cell 27 (.int .i64 vo.node)) rfl, (((((((((((hS.low.setCell (p := ⟨w.heap.size + 1, 17, none⟩) (by simp) (.int .i64 vo.kind)).setCell (p := ⟨w.heap.size + 1, 18, none⟩) (by simp) (.int .i64 vo.client)).setCell (p := ⟨w.heap.size + 1, 19, none⟩) (by simp) (.int .i64 vo.seq)).setCell (p := ⟨w.heap.size + 1, 20, none⟩) (by simp) (.string vo.key)).setCell (p := ⟨w.heap.size + 1, 21, none⟩) (by simp) (.string vo.til)).setCell (p := ⟨w.heap.size + 1, 22, none⟩) (by simp) (.string vo.val)).setCell (p := ⟨w.heap.size + 1, 23, none⟩) (by simp) (.string vo.old)).setCell (p := ⟨w.heap.size + 1, 24, none⟩) (by simp) (.bool vo.has)).setCell (p := ⟨w.heap.size + 1, 25, none⟩) (by simp) (.int .i64 vo.lim)).setCell (p := ⟨w.heap.size + 1, 26, none⟩) (by simp) (.int .i64 vo.id)).setCell (p := ⟨w.heap.size + 1, 27, none⟩) (by simp) (.int .i64 vo.node)), (Ro.own_set (Ro.own_set (Ro.own_set (Ro.own_set (Ro.own_set (Ro.own_set (Ro.own_set (Ro.own_set (Ro.own_set (Ro.own_set (Ro.own_set hS.es (a := ⟨w.heap.size + 1, 17, none⟩) (by show w.heap.size + 1 < w.heap.size + 2; omega) (.int .i64 vo.kind)) (a := ⟨w.heap.size + 1, 18, none⟩) (by show w.heap.size + 1 < w.heap.size + 2; omega) (.int .i64 vo.client)) (a := ⟨w.heap.size + 1, 19, none⟩) (by show w.heap.size + 1 < w.heap.size + 2; omega) (.int .i64 vo.seq)) (a := ⟨w.heap.size + 1, 20, none⟩) (by show w.heap.size + 1 < w.heap.size + 2; omega) (.string vo.key)) (a := ⟨w.heap.size + 1, 21, none⟩) (by show w.heap.size + 1 < w.heap.size + 2; omega) (.string vo.til)) (a := ⟨w.heap.size + 1, 22, none⟩) (by show w.heap.size + 1 < w.heap.size + 2; omega) (.string vo.val)) (a := ⟨w.heap.size + 1, 23, none⟩) (by show w.heap.size + 1 < w.heap.size + 2; omega) (.string vo.old)) (a := ⟨w.heap.size + 1, 24, none⟩) (by show w.heap.size + 1 < w.heap.size + 2; omega) (.bool vo.has)) (a := ⟨w.heap.size + 1, 25, none⟩) (by show w.heap.size + 1 < w.heap.size + 2; omega) (.int .i64 vo.lim)) (a := ⟨w.heap.size + 1, 26, none⟩) (by show w.heap.size + 1 < w.heap.size + 2; omega) (.int .i64 vo.id)) (a := ⟨w.heap.size + 1, 27, none⟩) (by show w.heap.size + 1 < w.heap.size + 2; omega) (.int .i64 vo.node)), hS.fs, fun h0 => (ownsRow_setCell_below (ownsRow_setCell_below (ownsRow_setCell_below (ownsRow_setCell_below (ownsRow_setCell_below (ownsRow_setCell_below (ownsRow_setCell_below (ownsRow_setCell_below (ownsRow_setCell_below (ownsRow_setCell_below (ownsRow_setCell_below (hS.ps h0) (a := ⟨w.heap.size + 1, 17, none⟩) (by show w.heap.size + 1 < w.heap.size + 2; omega) (.int .i64 vo.kind)) (a := ⟨w.heap.size + 1, 18, none⟩) (by show w.heap.size + 1 < w.heap.size + 2; omega) (.int .i64 vo.client)) (a := ⟨w.heap.size + 1, 19, none⟩) (by show w.heap.size + 1 < w.heap.size + 2; omega) (.int .i64 vo.seq)) (a := ⟨w.heap.size + 1, 20, none⟩) (by show w.heap.size + 1 < w.heap.size + 2; omega) (.string vo.key)) (a := ⟨w.heap.size + 1, 21, none⟩) (by show w.heap.size + 1 < w.heap.size + 2; omega) (.string vo.til)) (a := ⟨w.heap.size + 1, 22, none⟩) (by show w.heap.size + 1 < w.heap.size + 2; omega) (.string vo.val)) (a := ⟨w.heap.size + 1, 23, none⟩) (by show w.heap.size + 1 < w.heap.size + 2; omega) (.string vo.old)) (a := ⟨w.heap.size + 1, 24, none⟩) (by show w.heap.size + 1 < w.heap.size + 2; omega) (.bool vo.has)) (a := ⟨w.heap.size + 1, 25, none⟩) (by show w.heap.size + 1 < w.heap.size + 2; omega) (.int .i64 vo.lim)) (a := ⟨w.heap.size + 1, 26, none⟩) (by show w.heap.size + 1 < w.heap.size + 2; omega) (.int .i64 vo.id)) (a := ⟨w.heap.size + 1, 27, none⟩) (by show w.heap.size + 1 < w.heap.size + 2; omega) (.int .i64 vo.node))⟩
      have hT2 := (((((((((((hT.put (k := 17) (.int .i64 vo.kind)).put (k := 18) (.int .i64 vo.client)).put (k := 19) (.int .i64 vo.seq)).put (k := 20) (.string vo.key)).put (k := 21) (.string vo.til)).put (k := 22) (.string vo.val)).put (k := 23) (.string vo.old)).put (k := 24) (.bool vo.has)).put (k := 25) (.int .i64 vo.lim)).put (k := 26) (.int .i64 vo.id)).put (k := 27) (.int .i64 vo.node))
      have y8 : (World.setCell (World.setCell (World.setCell (World.setCell (World.setCell (World.setCell (World.setCell (World.setCell (World.setCell (World.setCell (World.setCell w2 ⟨w.heap.size + 1, 17, none⟩ (.int .i64 vo.kind)) ⟨w.heap.size + 1, 18, none⟩ (.int .i64 vo.client)) ⟨w.heap.size + 1, 19, none⟩ (.int .i64 vo.seq)) ⟨w.heap.size + 1, 20, none⟩ (.string vo.key)) ⟨w.heap.size + 1, 21, none⟩ (.string vo.til)) ⟨w.heap.size + 1, 22, none⟩ (.string vo.val)) ⟨w.heap.size + 1, 23, none⟩ (.string vo.old)) ⟨w.heap.size + 1, 24, none⟩ (.bool vo.has)) ⟨w.heap.size + 1, 25, none⟩ (.int .i64 vo.lim)) ⟨w.heap.size + 1, 26, none⟩ (.int .i64 vo.id)) ⟨w.heap.size + 1, 27, none⟩ (.int .i64 vo.node)).cell? ⟨g, 8, none⟩ = some (.string x8) := hT2.t 8 x8 rfl
      clear hS hT hb2 hpa
      simp only []
      go_wp2_with fail
      clear y8 u17 v17 u18 v18 u19 v19 u20 v20 u21 v21 u22 v22 u23 v23 u24 v24 u25 v25 u26 v26 u27 v27
      generalize (World.setCell (World.setCell (World.setCell (World.setCell (World.setCell (World.setCell (World.setCell (World.setCell (World.setCell (World.setCell (World.setCell w2 ⟨w.heap.size + 1, 17, none⟩ (.int .i64 vo.kind)) ⟨w.heap.size + 1, 18, none⟩ (.int .i64 vo.client)) ⟨w.heap.size + 1, 19, none⟩ (.int .i64 vo.seq)) ⟨w.heap.size + 1, 20, none⟩ (.string vo.key)) ⟨w.heap.size + 1, 21, none⟩ (.string vo.til)) ⟨w.heap.size + 1, 22, none⟩ (.string vo.val)) ⟨w.heap.size + 1, 23, none⟩ (.string vo.old)) ⟨w.heap.size + 1, 24, none⟩ (.bool vo.has)) ⟨w.heap.size + 1, 25, none⟩ (.int .i64 vo.lim)) ⟨w.heap.size + 1, 26, none⟩ (.int .i64 vo.id)) ⟨w.heap.size + 1, 27, none⟩ (.int .i64 vo.node)) = w1 at hS2 hT2 ⊢
      have hS := hS2
      have hT := hT2
      clear hS2 hT2
      have cr := readL_any (w.heap.size + 1) 28 0 x8 w1 (by have := hz 8 x8 rfl; omega) (hg.below hS.low) (hS.b.cell 28) (hS.b.frozen 28) hS.b.lt
      refine cr.mono ?_
      rintro e w2 ⟨rfl, wy, hby, rfl⟩
      clear cr
      cases h8 : intT x8.data.toList with
      | none =>
        have HR := Lib.hid (show parseK s.data.toList = (Pk.zero, 140) from parseK_no hsl (hread.trans (by unfold readL; simp [h0, h1, h2, h3, h4, h5, h6, h7, h8])))
        have hS2 := (hS.keep hby).put (k := 28) (o' := ⟨⟨V0, V1, V2, V3, vm, V5, V6, vo, 0, 0, 0, 0, Od.Rep.zero⟩, .slice Aw nw cw, nilS⟩) (.int .i64 0) rfl rfl rfl rfl rfl
        clear hS hT hread h0 h1 h2 h3 h4 h5 h6 h7 h8 hby
        simp only [Option.isSome_none, Option.getD_none]
        go_wp2_with fail
        have hlowF := (hS2).low
        have hzF := (hS2).z
        refine wp_goto ?_
        refine And.intro (show (0 : Nat) = 0 from rfl) ?_
        try dsimp only
        go_wp2_with (refine wpList_setK (o := Kh.zero) rfl rfl rfl rfl hzF rfl rfl ?_)
        intro WF hzG _ hbF _
        go_wp2_with fail
        rw [Exit.noGoto_ret]
        exact bodyPost_ret (res_BoxK_tmp Tryz.results16 rfl rfl hzG) rfl ⟨Kh.zero, by rw [HR.out], by rw [HR.out]; exact rfl, HK.zero _ _, hbF _ _ hlowF (Nat.le_refl _)⟩
      | some V8 =>
      have hS2 := (hS.keep hby).put (k := 28) (o' := ⟨⟨V0, V1, V2, V3, vm, V5, V6, vo, V8, 0, 0, 0, Od.Rep.zero⟩, .slice Aw nw cw, nilS⟩) (.int .i64 V8) rfl rfl rfl rfl rfl
      have hT2 := (hT.keep hby).put (k := 28) (.int .i64 V8)
      clear hS hT hby
      simp only [Option.isSome_some, Option.getD_some]
      generalize World.setCell wy ⟨w.heap.size + 1, 28, none⟩ (.int .i64 V8) = w1 at hS2 hT2 ⊢
      have hS := hS2
      have hT := hT2
      clear hS2 hT2
      have y9 : w1.cell? ⟨g, 9, none⟩ = some (.string x9) := hT.t 9 x9 rfl
      go_wp2_with fail
      clear y9
      have cr := readL_any (w.heap.size + 1) 29 0 x9 w1 (by have := hz 9 x9 rfl; omega) (hg.below hS.low) (hS.b.cell 29) (hS.b.frozen 29) hS.b.lt
      refine cr.mono ?_
      rintro e w2 ⟨rfl, wy, hby, rfl⟩
      clear cr
      cases h9 : intT x9.data.toList with
      | none =>
        have HR := Lib.hid (show parseK s.data.toList = (Pk.zero, 140) from parseK_no hsl (hread.trans (by unfold readL; simp [h0, h1, h2, h3, h4, h5, h6, h7, h8, h9])))
        have hS2 := (hS.keep hby).put (k := 29) (o' := ⟨⟨V0, V1, V2, V3, vm, V5, V6, vo, V8, 0, 0, 0, Od.Rep.zero⟩, .slice Aw nw cw, nilS⟩) (.int .i64 0) rfl rfl rfl rfl rfl
        clear hS hT hread h0 h1 h2 h3 h4 h5 h6 h7 h8 h9 hby
        simp only [Option.isSome_none, Option.getD_none]
        go_wp2_with fail
        have hlowF := (hS2).low
        have hzF := (hS2).z
        refine wp_goto ?_
        refine And.intro (show (0 : Nat) = 0 from rfl) ?_
        try dsimp only
        go_wp2_with (refine wpList_setK (o := Kh.zero) rfl rfl rfl rfl hzF rfl rfl ?_)
        intro WF hzG _ hbF _
        go_wp2_with fail
        rw [Exit.noGoto_ret]
        exact bodyPost_ret (res_BoxK_tmp Tryz.results16 rfl rfl hzG) rfl ⟨Kh.zero, by rw [HR.out], by rw [HR.out]; exact rfl, HK.zero _ _, hbF _ _ hlowF (Nat.le_refl _)⟩
      | some V9 =>
      have hS2 := (hS.keep hby).put (k := 29) (o' := ⟨⟨V0, V1, V2, V3, vm, V5, V6, vo, V8, V9, 0, 0, Od.Rep.zero⟩, .slice Aw nw cw, nilS⟩) (.int .i64 V9) rfl rfl rfl rfl rfl
      have hT2 := (hT.keep hby).put (k := 29) (.int .i64 V9)
      clear hS hT hby
      simp only [Option.isSome_some, Option.getD_some]
      generalize World.setCell wy ⟨w.heap.size + 1, 29, none⟩ (.int .i64 V9) = w1 at hS2 hT2 ⊢
      have hS := hS2
      have hT := hT2
      clear hS2 hT2
      have y10 : w1.cell? ⟨g, 10, none⟩ = some (.string x10) := hT.t 10 x10 rfl
      go_wp2_with fail
      clear y10
      have cr := readI_any (w.heap.size + 1) 30 0 x10 w1 (by have := hz 10 x10 rfl; omega) (hg.below hS.low) (hS.b.cell 30) (hS.b.frozen 30) hS.b.lt
      refine cr.mono ?_
      rintro e w2 ⟨rfl, wy, hby, rfl⟩
      clear cr
      cases h10 : intT x10.data.toList with
      | none =>
        have HR := Lib.hid (show parseK s.data.toList = (Pk.zero, 140) from parseK_no hsl (hread.trans (by unfold readL; simp [h0, h1, h2, h3, h4, h5, h6, h7, h8, h9, h10])))
        have hS2 := (hS.keep hby).put (k := 30) (o' := ⟨⟨V0, V1, V2, V3, vm, V5, V6, vo, V8, V9, 0, 0, Od.Rep.zero⟩, .slice Aw nw cw, nilS⟩) (.int .i64 0) rfl rfl rfl rfl rfl
        clear hS hT hread h0 h1 h2 h3 h4 h5 h6 h7 h8 h9 h10 hby
        simp only [Option.isSome_none, Option.getD_none]
        go_wp2_with fail
        have hlowF := (hS2).low
        have hzF := (hS2).z
        refine wp_goto ?_
        refine And.intro (show (0 : Nat) = 0 from rfl) ?_
        try dsimp only
        go_wp2_with (refine wpList_setK (o := Kh.zero) rfl rfl rfl rfl hzF rfl rfl ?_)
        intro WF hzG _ hbF _
        go_wp2_with fail
        rw [Exit.noGoto_ret]
        exact bodyPost_ret (res_BoxK_tmp Tryz.results16 rfl rfl hzG) rfl ⟨Kh.zero, by rw [HR.out], by rw [HR.out]; exact rfl, HK.zero _ _, hbF _ _ hlowF (Nat.le_refl _)⟩
      | some V10 =>
      have hS2 := (hS.keep hby).put (k := 30) (o' := ⟨⟨V0, V1, V2, V3, vm, V5, V6, vo, V8, V9, V10, 0, Od.Rep.zero⟩, .slice Aw nw cw, nilS⟩) (.int .i64 V10) rfl rfl rfl rfl rfl
      have hT2 := (hT.keep hby).put (k := 30) (.int .i64 V10)
      clear hS hT hby
      simp only [Option.isSome_some, Option.getD_some]
      generalize World.setCell wy ⟨w.heap.size + 1, 30, none⟩ (.int .i64 V10) = w1 at hS2 hT2 ⊢
      have hS := hS2
      have hT := hT2
      clear hS2 hT2
      have y11 : w1.cell? ⟨g, 11, none⟩ = some (.string x11) := hT.t 11 x11 rfl
      go_wp2_with fail
      clear y11
      have cr := readI_any (w.heap.size + 1) 31 0 x11 w1 (by have := hz 11 x11 rfl; omega) (hg.below hS.low) (hS.b.cell 31) (hS.b.frozen 31) hS.b.lt
      refine cr.mono ?_
      rintro e w2 ⟨rfl, wy, hby, rfl⟩
      clear cr
      cases h11 : intT x11.data.toList with
      | none =>
        have HR := Lib.hid (show parseK s.data.toList = (Pk.zero, 140) from parseK_no hsl (hread.trans (by unfold readL; simp [h0, h1, h2, h3, h4, h5, h6, h7, h8, h9, h10, h11])))
        have hS2 := (hS.keep hby).put (k := 31) (o' := ⟨⟨V0, V1, V2, V3, vm, V5, V6, vo, V8, V9, V10, 0, Od.Rep.zero⟩, .slice Aw nw cw, nilS⟩) (.int .i64 0) rfl rfl rfl rfl rfl
        clear hS hT hread h0 h1 h2 h3 h4 h5 h6 h7 h8 h9 h10 h11 hby
        simp only [Option.isSome_none, Option.getD_none]
        go_wp2_with fail
        have hlowF := (hS2).low
        have hzF := (hS2).z
        refine wp_goto ?_
        refine And.intro (show (0 : Nat) = 0 from rfl) ?_
        try dsimp only
        go_wp2_with (refine wpList_setK (o := Kh.zero) rfl rfl rfl rfl hzF rfl rfl ?_)
        intro WF hzG _ hbF _
        go_wp2_with fail
        rw [Exit.noGoto_ret]
        exact bodyPost_ret (res_BoxK_tmp Tryz.results16 rfl rfl hzG) rfl ⟨Kh.zero, by rw [HR.out], by rw [HR.out]; exact rfl, HK.zero _ _, hbF _ _ hlowF (Nat.le_refl _)⟩
      | some V11 =>
      have hS2 := (hS.keep hby).put (k := 31) (o' := ⟨⟨V0, V1, V2, V3, vm, V5, V6, vo, V8, V9, V10, V11, Od.Rep.zero⟩, .slice Aw nw cw, nilS⟩) (.int .i64 V11) rfl rfl rfl rfl rfl
      have hT2 := (hT.keep hby).put (k := 31) (.int .i64 V11)
      clear hS hT hby
      simp only [Option.isSome_some, Option.getD_some]
      generalize World.setCell wy ⟨w.heap.size + 1, 31, none⟩ (.int .i64 V11) = w1 at hS2 hT2 ⊢
      have hS := hS2
      have hT := hT2
      clear hS2 hT2
      have y12 : w1.cell? ⟨g, 12, none⟩ = some (.string x12) := hT.t 12 x12 rfl
      go_wp2_with fail
      clear y12
      have cw := Od.parseR_fresh x12 w1 (by have := hz 12 x12 rfl; omega) (hg.below hS.low)
      refine cw.mono ?_
      rintro e w2 ⟨sr, rfl, hsp, hb2, hop⟩
      clear cw
      have hbase : w.heap.size + 2 ≤ w1.heap.size := by have := hS.b.lt; omega
      have hS2 := hS.keep hb2
      have hT2 := hT.keep hb2
      clear hS hT
      have hS := hS2
      have hT := hT2
      clear hS2 hT2
      obtain ⟨Ar, cr, hsr⟩ := hsp.form
      subst hsr
      rcases Od.parseR_cases x12.data.toList with ⟨vr, hrA, hrP, hpa⟩ | hpa
      · have h12 : repO x12.data.toList = some vr := by unfold repO; rw [hpa]; rfl
        rw [hpa] at hop ⊢
        simp only [] at hop ⊢
        obtain ⟨nr, hnr⟩ : ∃ n, vr.ps.length = n := ⟨_, rfl⟩
        have hop2 : 0 < vr.ps.length → OwnP w2 (w.heap.size + 2) (.slice Ar nr cr) vr.ps := fun h0 => by
          have h1 := hop h0
          rw [hnr] at h1
          refine ⟨h1.1, ?_⟩
          rcases h1.2 with hn | ⟨q1, q2, q3, q4, q5, q6⟩
          · exact .inl hn
          · exact .inr ⟨q1, q2, q3, q4, Nat.le_trans hbase q5, q6⟩
        have hfs : ∃ A c, Value.slice Ar nr cr = .slice A vr.ps.length c := ⟨Ar, cr, by rw [hnr]⟩
        rw [hnr]
        have u32 : w2.cell? ⟨w.heap.size + 1, 32, none⟩ = some (.int .i64 0) := hS.b.cell 32
        have v32 : w2.frozen? ⟨w.heap.size + 1, 32, none⟩ = false := hS.b.frozen 32
        have u33 : w2.cell? ⟨w.heap.size + 1, 33, none⟩ = some (.int .i64 0) := hS.b.cell 33
        have v33 : w2.frozen? ⟨w.heap.size + 1, 33, none⟩ = false := hS.b.frozen 33
        have u34 : w2.cell? ⟨w.heap.size + 1, 34, none⟩ = some (.bool false) := hS.b.cell 34
        have v34 : w2.frozen? ⟨w.heap.size + 1, 34, none⟩ = false := hS.b.frozen 34
        have u35 : w2.cell? ⟨w.heap.size + 1, 35, none⟩ = some (.string Od.E0) := hS.b.cell 35
        have v35 : w2.frozen? ⟨w.heap.size + 1, 35, none⟩ = false := hS.b.frozen 35
        have u36 : w2.cell? ⟨w.heap.size + 1, 36, none⟩ = some (nilS) := hS.b.cell 36
        have v36 : w2.frozen? ⟨w.heap.size + 1, 36, none⟩ = false := hS.b.frozen 36
        have hS2 : SK w.heap.size w ⟨⟨V0, V1, V2, V3, vm, V5, V6, vo, V8, V9, V10, V11, vr⟩, .slice Aw nw cw, .slice Ar nr cr⟩ (World.setCell (World.setCell (World.setCell (World.setCell (World.setCell w2 ⟨w.heap.size + 1, 32, none⟩ (.int .i64 vr.code)) ⟨w.heap.size + 1, 33, none⟩ (.int .i64 vr.err)) ⟨w.heap.size + 1, 34, none⟩ (.bool vr.has)) ⟨w.heap.size + 1, 35, none⟩ (.string vr.val)) ⟨w.heap.size + 1, 36, none⟩ (.slice Ar nr cr)) := ⟨(((((hS.z.other (a := ⟨w.heap.size + 1, 32, none⟩) (by simp) (.int .i64 vr.code)).other (a := ⟨w.heap.size + 1, 33, none⟩) (by simp) (.int .i64 vr.err)).other (a := ⟨w.heap.size + 1, 34, none⟩) (by simp) (.bool vr.has)).other (a := ⟨w.heap.size + 1, 35, none⟩) (by simp) (.string vr.val)).other (a := ⟨w.heap.size + 1, 36, none⟩) (by simp) (.slice Ar nr cr)), AtL.to ((((((AtL.of hS.b).cell 32 (.int .i64 vr.code)).cell 33 (.int .i64 vr.err)).cell 34 (.bool vr.has)).cell 35 (.string vr.val)).cell 36 (.slice Ar nr cr)) rfl, (((((hS.low.setCell (p := ⟨w.heap.size + 1, 32, none⟩) (by simp) (.int .i64 vr.code)).setCell (p := ⟨w.heap.size + 1, 33, none⟩) (by simp) (.int .i64 vr.err)).setCell (p := ⟨w.heap.size + 1, 34, none⟩) (by simp) (.bool vr.has)).setCell (p := ⟨w.heap.size + 1, 35, none⟩) (by simp) (.string vr.val)).setCell (p := ⟨w.heap.size + 1, 36, none⟩) (by simp) (.slice Ar nr cr)), (Ro.own_set (Ro.own_set (Ro.own_set (Ro.own_set (Ro.own_set hS.es (a := ⟨w.heap.size + 1, 32, none⟩) (by show w.heap.size + 1 < w.heap.size + 2; omega) (.int .i64 vr.code)) (a := ⟨w.heap.size + 1, 33, none⟩) (by show w.heap.size + 1 < w.heap.size + 2; omega) (.int .i64 vr.err)) (a := ⟨w.heap.size + 1, 34, none⟩) (by show w.heap.size + 1 < w.heap.size + 2; omega) (.bool vr.has)) (a := ⟨w.heap.size + 1, 35, none⟩) (by show w.heap.size + 1 < w.heap.size + 2; omega) (.string vr.val)) (a := ⟨w.heap.size + 1, 36, none⟩) (by show w.heap.size + 1 < w.heap.size + 2; omega) (.slice Ar nr cr)), hfs, fun h0 => (ownsRow_setCell_below (ownsRow_setCell_below (ownsRow_setCell_below (ownsRow_setCell_below (ownsRow_setCell_below (hop2 h0) (a := ⟨w.heap.size + 1, 32, none⟩) (by show w.heap.size + 1 < w.heap.size + 2; omega) (.int .i64 vr.code)) (a := ⟨w.heap.size + 1, 33, none⟩) (by show w.heap.size + 1 < w.heap.size + 2; omega) (.int .i64 vr.err)) (a := ⟨w.heap.size + 1, 34, none⟩) (by show w.heap.size + 1 < w.heap.size + 2; omega) (.bool vr.has)) (a := ⟨w.heap.size + 1, 35, none⟩) (by show w.heap.size + 1 < w.heap.size + 2; omega) (.string vr.val)) (a := ⟨w.heap.size + 1, 36, none⟩) (by show w.heap.size + 1 < w.heap.size + 2; omega) (.slice Ar nr cr))⟩
        have hT2 := (((((hT.put (k := 32) (.int .i64 vr.code)).put (k := 33) (.int .i64 vr.err)).put (k := 34) (.bool vr.has)).put (k := 35) (.string vr.val)).put (k := 36) (.slice Ar nr cr))
        clear hS hT hb2 hpa hop hop2 hfs hsp hT2
        go_wp2_with (refine wpList_getK rfl rfl rfl ?_)
        have hS := hS2
        clear u32 v32 u33 v33 u34 v34 u35 v35 u36 v36 hS2
        generalize (World.setCell (World.setCell (World.setCell (World.setCell (World.setCell w2 ⟨w.heap.size + 1, 32, none⟩ (.int .i64 vr.code)) ⟨w.heap.size + 1, 33, none⟩ (.int .i64 vr.err)) ⟨w.heap.size + 1, 34, none⟩ (.bool vr.has)) ⟨w.heap.size + 1, 35, none⟩ (.string vr.val)) ⟨w.heap.size + 1, 36, none⟩ (.slice Ar nr cr)) = w1 at hS ⊢
        have hIn : -9223372036854775808 ≤ V5 ∧ V5 ≤ 9223372036854775807 := (M.intT_spec h5).1
        have hsz : SizK ⟨V0, V1, V2, V3, vm, V5, V6, vo, V8, V9, V10, V11, vr⟩ := siz_of (by rw [(readW_spec h4).1]; have := hz 4 x4 rfl; simpa using this) (by rw [hoP]; have := hz 7 x7 rfl; simpa using this) (by rw [hrP]; have := hz 12 x12 rfl; simpa using this)
        have hrK : readK s.data.toList = some ⟨V0, V1, V2, V3, vm, V5, V6, vo, V8, V9, V10, V11, vr⟩ := hread.trans (by unfold readL; simp [h0, h1, h2, h3, h4, h5, h6, h7, h8, h9, h10, h11, h12])
        have hpk := parseK_read hrK
        have cc := check_any ⟨⟨V0, V1, V2, V3, vm, V5, V6, vo, V8, V9, V10, V11, vr⟩, .slice Aw nw cw, .slice Ar nr cr⟩ w1 hS.hk hsz hIn (hg.below hS.low)
        unfold chkK at cc
        clear hrK hsz hIn hread h0 h1 h2 h3 h4 h5 h6 h7 h8 h9 h10 h11 h12 hoP hoA hrP hrA
        refine ⟨⟨⟨V0, V1, V2, V3, vm, V5, V6, vo, V8, V9, V10, V11, vr⟩, .slice Aw nw cw, .slice Ar nr cr⟩, hS.b, ?_⟩
        go_wp2_with fail
        cases hi : isK ⟨V0, V1, V2, V3, vm, V5, V6, vo, V8, V9, V10, V11, vr⟩ with
        | false =>
          rw [hi] at cc
          rw [hi] at hpk
          simp only [Bool.false_eq_true, if_false] at cc hpk
          have HR := Lib.hid hpk
          clear hi hpk
          refine cc.mono ?_
          rintro e w2 ⟨rfl, hb2⟩
          have hS2 := hS.keep hb2
          clear cc hS hb2
          go_wp2_with fail
          have hlowF := (hS2).low
          have hzF := (hS2).z
          refine wp_goto ?_
          refine And.intro (show (0 : Nat) = 0 from rfl) ?_
          try dsimp only
          go_wp2_with (refine wpList_setK (o := Kh.zero) rfl rfl rfl rfl hzF rfl rfl ?_)
          intro WF hzG _ hbF _
          go_wp2_with fail
          rw [Exit.noGoto_ret]
          exact bodyPost_ret (res_BoxK_tmp Tryz.results16 rfl rfl hzG) rfl ⟨Kh.zero, by rw [HR.out], by rw [HR.out]; exact rfl, HK.zero _ _, hbF _ _ hlowF (Nat.le_refl _)⟩
        | true =>
          rw [hi] at cc
          rw [hi] at hpk
          simp only [if_true] at cc hpk
          have HR := Lib.hid hpk
          clear hi hpk
          refine cc.mono ?_
          rintro e w2 ⟨rfl, hb2⟩
          have hS2 := hS.keep hb2
          have hB2 := hS2.b
          have hZ2 := hS2.z
          have HS := Lib.hid hS2
          clear cc hS hb2 hS2
          go_wp2_with (first | refine wpList_loadK (o := ⟨⟨V0, V1, V2, V3, vm, V5, V6, vo, V8, V9, V10, V11, vr⟩, .slice Aw nw cw, .slice Ar nr cr⟩) rfl rfl rfl hB2 ?_ | refine wpList_setK2 (o := ⟨⟨V0, V1, V2, V3, vm, V5, V6, vo, V8, V9, V10, V11, vr⟩, .slice Aw nw cw, .slice Ar nr cr⟩) rfl rfl rfl rfl hZ2 rfl rfl ?_)
          intro WF hzG hko hbF hzF
          go_wp2_with fail
          exact bodyPost_ret (res_BoxK_tmp Tryz.results16 rfl rfl hzG) rfl ⟨⟨⟨V0, V1, V2, V3, vm, V5, V6, vo, V8, V9, V10, V11, vr⟩, .slice Aw nw cw, .slice Ar nr cr⟩, by rw [HR.out], by rw [HR.out]; exact rfl, HK_far HS.out hko, hbF _ _ HS.out.low (Nat.le_refl _)⟩
      · have h12 : repO x12.data.toList = none := by unfold repO; rw [hpa]; rfl
        rw [hpa]
        have HR := Lib.hid (show parseK s.data.toList = (Pk.zero, 140) from parseK_no hsl (hread.trans (by unfold readL; simp [h0, h1, h2, h3, h4, h5, h6, h7, h8, h9, h10, h11, h12])))
        have u32 : w2.cell? ⟨w.heap.size + 1, 32, none⟩ = some (.int .i64 0) := hS.b.cell 32
        have v32 : w2.frozen? ⟨w.heap.size + 1, 32, none⟩ = false := hS.b.frozen 32
        have u33 : w2.cell? ⟨w.heap.size + 1, 33, none⟩ = some (.int .i64 0) := hS.b.cell 33
        have v33 : w2.frozen? ⟨w.heap.size + 1, 33, none⟩ = false := hS.b.frozen 33
        have u34 : w2.cell? ⟨w.heap.size + 1, 34, none⟩ = some (.bool false) := hS.b.cell 34
        have v34 : w2.frozen? ⟨w.heap.size + 1, 34, none⟩ = false := hS.b.frozen 34
        have u35 : w2.cell? ⟨w.heap.size + 1, 35, none⟩ = some (.string Od.E0) := hS.b.cell 35
        have v35 : w2.frozen? ⟨w.heap.size + 1, 35, none⟩ = false := hS.b.frozen 35
        have u36 : w2.cell? ⟨w.heap.size + 1, 36, none⟩ = some (nilS) := hS.b.cell 36
        have v36 : w2.frozen? ⟨w.heap.size + 1, 36, none⟩ = false := hS.b.frozen 36
        obtain ⟨nr, hnr⟩ : ∃ n, (parseR x12.data.toList).1.ps.length = n := ⟨_, rfl⟩
        have hn0 : nr = 0 := by rw [← hnr, hpa]; rfl
        subst hn0
        have hS2 : SK w.heap.size w ⟨⟨V0, V1, V2, V3, vm, V5, V6, vo, V8, V9, V10, V11, Od.Rep.zero⟩, .slice Aw nw cw, .slice Ar 0 cr⟩ (World.setCell (World.setCell (World.setCell (World.setCell (World.setCell w2 ⟨w.heap.size + 1, 32, none⟩ (.int .i64 0)) ⟨w.heap.size + 1, 33, none⟩ (.int .i64 0)) ⟨w.heap.size + 1, 34, none⟩ (.bool false)) ⟨w.heap.size + 1, 35, none⟩ (.string Od.E0)) ⟨w.heap.size + 1, 36, none⟩ (.slice Ar 0 cr)) := ⟨(((((hS.z.other (a := ⟨w.heap.size + 1, 32, none⟩) (by simp) (.int .i64 0)).other (a := ⟨w.heap.size + 1, 33, none⟩) (by simp) (.int .i64 0)).other (a := ⟨w.heap.size + 1, 34, none⟩) (by simp) (.bool false)).other (a := ⟨w.heap.size + 1, 35, none⟩) (by simp) (.string Od.E0)).other (a := ⟨w.heap.size + 1, 36, none⟩) (by simp) (.slice Ar 0 cr)), AtL.to ((((((AtL.of hS.b).cell 32 (.int .i64 0)).cell 33 (.int .i64 0)).cell 34 (.bool false)).cell 35 (.string Od.E0)).cell 36 (.slice Ar 0 cr)) rfl, (((((hS.low.setCell (p := ⟨w.heap.size + 1, 32, none⟩) (by simp) (.int .i64 0)).setCell (p := ⟨w.heap.size + 1, 33, none⟩) (by simp) (.int .i64 0)).setCell (p := ⟨w.heap.size + 1, 34, none⟩) (by simp) (.bool false)).setCell (p := ⟨w.heap.size + 1, 35, none⟩) (by simp) (.string Od.E0)).setCell (p := ⟨w.heap.size + 1, 36, none⟩) (by simp) (.slice Ar 0 cr)), (Ro.own_set (Ro.own_set (Ro.own_set (Ro.own_set (Ro.own_set hS.es (a := ⟨w.heap.size + 1, 32, none⟩) (by show w.heap.size + 1 < w.heap.size + 2; omega) (.int .i64 0)) (a := ⟨w.heap.size + 1, 33, none⟩) (by show w.heap.size + 1 < w.heap.size + 2; omega) (.int .i64 0)) (a := ⟨w.heap.size + 1, 34, none⟩) (by show w.heap.size + 1 < w.heap.size + 2; omega) (.bool false)) (a := ⟨w.heap.size + 1, 35, none⟩) (by show w.heap.size + 1 < w.heap.size + 2; omega) (.string Od.E0)) (a := ⟨w.heap.size + 1, 36, none⟩) (by show w.heap.size + 1 < w.heap.size + 2; omega) (.slice Ar 0 cr)), ⟨_, _, rfl⟩, fun h0 => (ownsRow_setCell_below (ownsRow_setCell_below (ownsRow_setCell_below (ownsRow_setCell_below (ownsRow_setCell_below (absurd h0 (by simp)) (a := ⟨w.heap.size + 1, 32, none⟩) (by show w.heap.size + 1 < w.heap.size + 2; omega) (.int .i64 0)) (a := ⟨w.heap.size + 1, 33, none⟩) (by show w.heap.size + 1 < w.heap.size + 2; omega) (.int .i64 0)) (a := ⟨w.heap.size + 1, 34, none⟩) (by show w.heap.size + 1 < w.heap.size + 2; omega) (.bool false)) (a := ⟨w.heap.size + 1, 35, none⟩) (by show w.heap.size + 1 < w.heap.size + 2; omega) (.string Od.E0)) (a := ⟨w.heap.size + 1, 36, none⟩) (by show w.heap.size + 1 < w.heap.size + 2; omega) (.slice Ar 0 cr))⟩
        have hT2 := (((((hT.put (k := 32) (.int .i64 0)).put (k := 33) (.int .i64 0)).put (k := 34) (.bool false)).put (k := 35) (.string Od.E0)).put (k := 36) (.slice Ar 0 cr))
        clear hS hT hread h0 h1 h2 h3 h4 h5 h6 h7 h8 h9 h10 h11 h12 hb2 hT2 hpa hop
        simp only []
        go_wp2_with fail
        have hlowF := (hS2).low
        have hzF := (hS2).z
        refine wp_goto ?_
        refine And.intro (show (0 : Nat) = 0 from rfl) ?_
        try dsimp only
        go_wp2_with (refine wpList_setK (o := Kh.zero) rfl rfl rfl rfl hzF rfl rfl ?_)
        intro WF hzG _ hbF _
        go_wp2_with fail
        rw [Exit.noGoto_ret]
        exact bodyPost_ret (res_BoxK_tmp Tryz.results16 rfl rfl hzG) rfl ⟨Kh.zero, by rw [HR.out], by rw [HR.out]; exact rfl, HK.zero _ _, hbF _ _ hlowF (Nat.le_refl _)⟩
    · have h7 : ordO x7.data.toList = none := by unfold ordO; rw [hpa]; rfl
      rw [hpa]
      have HR := Lib.hid (show parseK s.data.toList = (Pk.zero, 140) from parseK_no hsl (hread.trans (by unfold readL; simp [h0, h1, h2, h3, h4, h5, h6, h7])))
      have u17 : w2.cell? ⟨w.heap.size + 1, 17, none⟩ = some (.int .i64 0) := hS.b.cell 17
      have v17 : w2.frozen? ⟨w.heap.size + 1, 17, none⟩ = false := hS.b.frozen 17
      have u18 : w2.cell? ⟨w.heap.size + 1, 18, none⟩ = some (.int .i64 0) := hS.b.cell 18
      have v18 : w2.frozen? ⟨w.heap.size + 1, 18, none⟩ = false := hS.b.frozen 18
      have u19 : w2.cell? ⟨w.heap.size + 1, 19, none⟩ = some (.int .i64 0) := hS.b.cell 19
      have v19 : w2.frozen? ⟨w.heap.size + 1, 19, none⟩ = false := hS.b.frozen 19
      have u20 : w2.cell? ⟨w.heap.size + 1, 20, none⟩ = some (.string Od.E0) := hS.b.cell 20
      have v20 : w2.frozen? ⟨w.heap.size + 1, 20, none⟩ = false := hS.b.frozen 20
      have u21 : w2.cell? ⟨w.heap.size + 1, 21, none⟩ = some (.string Od.E0) := hS.b.cell 21
      have v21 : w2.frozen? ⟨w.heap.size + 1, 21, none⟩ = false := hS.b.frozen 21
      have u22 : w2.cell? ⟨w.heap.size + 1, 22, none⟩ = some (.string Od.E0) := hS.b.cell 22
      have v22 : w2.frozen? ⟨w.heap.size + 1, 22, none⟩ = false := hS.b.frozen 22
      have u23 : w2.cell? ⟨w.heap.size + 1, 23, none⟩ = some (.string Od.E0) := hS.b.cell 23
      have v23 : w2.frozen? ⟨w.heap.size + 1, 23, none⟩ = false := hS.b.frozen 23
      have u24 : w2.cell? ⟨w.heap.size + 1, 24, none⟩ = some (.bool false) := hS.b.cell 24
      have v24 : w2.frozen? ⟨w.heap.size + 1, 24, none⟩ = false := hS.b.frozen 24
      have u25 : w2.cell? ⟨w.heap.size + 1, 25, none⟩ = some (.int .i64 0) := hS.b.cell 25
      have v25 : w2.frozen? ⟨w.heap.size + 1, 25, none⟩ = false := hS.b.frozen 25
      have u26 : w2.cell? ⟨w.heap.size + 1, 26, none⟩ = some (.int .i64 0) := hS.b.cell 26
      have v26 : w2.frozen? ⟨w.heap.size + 1, 26, none⟩ = false := hS.b.frozen 26
      have u27 : w2.cell? ⟨w.heap.size + 1, 27, none⟩ = some (.int .i64 0) := hS.b.cell 27
      have v27 : w2.frozen? ⟨w.heap.size + 1, 27, none⟩ = false := hS.b.frozen 27
      have hS2 : SK w.heap.size w ⟨⟨V0, V1, V2, V3, vm, V5, V6, Od.Ask.zero, 0, 0, 0, 0, Od.Rep.zero⟩, .slice Aw nw cw, nilS⟩ (World.setCell (World.setCell (World.setCell (World.setCell (World.setCell (World.setCell (World.setCell (World.setCell (World.setCell (World.setCell (World.setCell w2 ⟨w.heap.size + 1, 17, none⟩ (.int .i64 0)) ⟨w.heap.size + 1, 18, none⟩ (.int .i64 0)) ⟨w.heap.size + 1, 19, none⟩ (.int .i64 0)) ⟨w.heap.size + 1, 20, none⟩ (.string Od.E0)) ⟨w.heap.size + 1, 21, none⟩ (.string Od.E0)) ⟨w.heap.size + 1, 22, none⟩ (.string Od.E0)) ⟨w.heap.size + 1, 23, none⟩ (.string Od.E0)) ⟨w.heap.size + 1, 24, none⟩ (.bool false)) ⟨w.heap.size + 1, 25, none⟩ (.int .i64 0)) ⟨w.heap.size + 1, 26, none⟩ (.int .i64 0)) ⟨w.heap.size + 1, 27, none⟩ (.int .i64 0)) := ⟨(((((((((((hS.z.other (a := ⟨w.heap.size + 1, 17, none⟩) (by simp) (.int .i64 0)).other (a := ⟨w.heap.size + 1, 18, none⟩) (by simp) (.int .i64 0)).other (a := ⟨w.heap.size + 1, 19, none⟩) (by simp) (.int .i64 0)).other (a := ⟨w.heap.size + 1, 20, none⟩) (by simp) (.string Od.E0)).other (a := ⟨w.heap.size + 1, 21, none⟩) (by simp) (.string Od.E0)).other (a := ⟨w.heap.size + 1, 22, none⟩) (by simp) (.string Od.E0)).other (a := ⟨w.heap.size + 1, 23, none⟩) (by simp) (.string Od.E0)).other (a := ⟨w.heap.size + 1, 24, none⟩) (by simp) (.bool false)).other (a := ⟨w.heap.size + 1, 25, none⟩) (by simp) (.int .i64 0)).other (a := ⟨w.heap.size + 1, 26, none⟩) (by simp) (.int .i64 0)).other (a := ⟨w.heap.size + 1, 27, none⟩) (by simp) (.int .i64 0)), AtL.to ((((((((((((AtL.of hS.b).cell 17 (.int .i64 0)).cell 18 (.int .i64 0)).cell 19 (.int .i64 0)).cell 20 (.string Od.E0)).cell 21 (.string Od.E0)).cell 22 (.string Od.E0)).cell 23 (.string Od.E0)).cell 24 (.bool false)).cell 25 (.int .i64 0)).cell 26 (.int .i64 0)).cell 27 (.int .i64 0)) rfl, (((((((((((hS.low.setCell (p := ⟨w.heap.size + 1, 17, none⟩) (by simp) (.int .i64 0)).setCell (p := ⟨w.heap.size + 1, 18, none⟩) (by simp) (.int .i64 0)).setCell (p := ⟨w.heap.size + 1, 19, none⟩) (by simp) (.int .i64 0)).setCell (p := ⟨w.heap.size + 1, 20, none⟩) (by simp) (.string Od.E0)).setCell (p := ⟨w.heap.size + 1, 21, none⟩) (by simp) (.string Od.E0)).setCell (p := ⟨w.heap.size + 1, 22, none⟩) (by simp) (.string Od.E0)).setCell (p := ⟨w.heap.size + 1, 23, none⟩) (by simp) (.string Od.E0)).setCell (p := ⟨w.heap.size + 1, 24, none⟩) (by simp) (.bool false)).setCell (p := ⟨w.heap.size + 1, 25, none⟩) (by simp) (.int .i64 0)).setCell (p := ⟨w.heap.size + 1, 26, none⟩) (by simp) (.int .i64 0)).setCell (p := ⟨w.heap.size + 1, 27, none⟩) (by simp) (.int .i64 0)), (Ro.own_set (Ro.own_set (Ro.own_set (Ro.own_set (Ro.own_set (Ro.own_set (Ro.own_set (Ro.own_set (Ro.own_set (Ro.own_set (Ro.own_set hS.es (a := ⟨w.heap.size + 1, 17, none⟩) (by show w.heap.size + 1 < w.heap.size + 2; omega) (.int .i64 0)) (a := ⟨w.heap.size + 1, 18, none⟩) (by show w.heap.size + 1 < w.heap.size + 2; omega) (.int .i64 0)) (a := ⟨w.heap.size + 1, 19, none⟩) (by show w.heap.size + 1 < w.heap.size + 2; omega) (.int .i64 0)) (a := ⟨w.heap.size + 1, 20, none⟩) (by show w.heap.size + 1 < w.heap.size + 2; omega) (.string Od.E0)) (a := ⟨w.heap.size + 1, 21, none⟩) (by show w.heap.size + 1 < w.heap.size + 2; omega) (.string Od.E0)) (a := ⟨w.heap.size + 1, 22, none⟩) (by show w.heap.size + 1 < w.heap.size + 2; omega) (.string Od.E0)) (a := ⟨w.heap.size + 1, 23, none⟩) (by show w.heap.size + 1 < w.heap.size + 2; omega) (.string Od.E0)) (a := ⟨w.heap.size + 1, 24, none⟩) (by show w.heap.size + 1 < w.heap.size + 2; omega) (.bool false)) (a := ⟨w.heap.size + 1, 25, none⟩) (by show w.heap.size + 1 < w.heap.size + 2; omega) (.int .i64 0)) (a := ⟨w.heap.size + 1, 26, none⟩) (by show w.heap.size + 1 < w.heap.size + 2; omega) (.int .i64 0)) (a := ⟨w.heap.size + 1, 27, none⟩) (by show w.heap.size + 1 < w.heap.size + 2; omega) (.int .i64 0)), hS.fs, fun h0 => (ownsRow_setCell_below (ownsRow_setCell_below (ownsRow_setCell_below (ownsRow_setCell_below (ownsRow_setCell_below (ownsRow_setCell_below (ownsRow_setCell_below (ownsRow_setCell_below (ownsRow_setCell_below (ownsRow_setCell_below (ownsRow_setCell_below (hS.ps h0) (a := ⟨w.heap.size + 1, 17, none⟩) (by show w.heap.size + 1 < w.heap.size + 2; omega) (.int .i64 0)) (a := ⟨w.heap.size + 1, 18, none⟩) (by show w.heap.size + 1 < w.heap.size + 2; omega) (.int .i64 0)) (a := ⟨w.heap.size + 1, 19, none⟩) (by show w.heap.size + 1 < w.heap.size + 2; omega) (.int .i64 0)) (a := ⟨w.heap.size + 1, 20, none⟩) (by show w.heap.size + 1 < w.heap.size + 2; omega) (.string Od.E0)) (a := ⟨w.heap.size + 1, 21, none⟩) (by show w.heap.size + 1 < w.heap.size + 2; omega) (.string Od.E0)) (a := ⟨w.heap.size + 1, 22, none⟩) (by show w.heap.size + 1 < w.heap.size + 2; omega) (.string Od.E0)) (a := ⟨w.heap.size + 1, 23, none⟩) (by show w.heap.size + 1 < w.heap.size + 2; omega) (.string Od.E0)) (a := ⟨w.heap.size + 1, 24, none⟩) (by show w.heap.size + 1 < w.heap.size + 2; omega) (.bool false)) (a := ⟨w.heap.size + 1, 25, none⟩) (by show w.heap.size + 1 < w.heap.size + 2; omega) (.int .i64 0)) (a := ⟨w.heap.size + 1, 26, none⟩) (by show w.heap.size + 1 < w.heap.size + 2; omega) (.int .i64 0)) (a := ⟨w.heap.size + 1, 27, none⟩) (by show w.heap.size + 1 < w.heap.size + 2; omega) (.int .i64 0))⟩
      have hT2 := (((((((((((hT.put (k := 17) (.int .i64 0)).put (k := 18) (.int .i64 0)).put (k := 19) (.int .i64 0)).put (k := 20) (.string Od.E0)).put (k := 21) (.string Od.E0)).put (k := 22) (.string Od.E0)).put (k := 23) (.string Od.E0)).put (k := 24) (.bool false)).put (k := 25) (.int .i64 0)).put (k := 26) (.int .i64 0)).put (k := 27) (.int .i64 0))
      clear hS hT hread h0 h1 h2 h3 h4 h5 h6 h7 hb2 hT2 hpa
      simp only []
      go_wp2_with fail
      have hlowF := (hS2).low
      have hzF := (hS2).z
      refine wp_goto ?_
      refine And.intro (show (0 : Nat) = 0 from rfl) ?_
      try dsimp only
      go_wp2_with (refine wpList_setK (o := Kh.zero) rfl rfl rfl rfl hzF rfl rfl ?_)
      intro WF hzG _ hbF _
      go_wp2_with fail
      rw [Exit.noGoto_ret]
      exact bodyPost_ret (res_BoxK_tmp Tryz.results16 rfl rfl hzG) rfl ⟨Kh.zero, by rw [HR.out], by rw [HR.out]; exact rfl, HK.zero _ _, hbF _ _ hlowF (Nat.le_refl _)⟩
theorem parse_any (s : ByteArray) (w : World) (hs : s.size ≤ 30000) (hg : Good w) : Calls Tryz.prog 16 #[.string s] w fun e w' => ParseOut w (parseK s.data.toList) e w' := by
  cases ho : openT s.data.toList with
  | none => exact walk_open s w hs hg ho
  | some y =>
    have ho2 : openT s.data.toList = some (⟨y.toArray⟩ : ByteArray).data.toList := by rw [ho]
    cases hu : allT y with
    | none => exact walk_none s w hs hg ⟨y.toArray⟩ ho2 hu
    | some l =>
      by_cases hl : l.length = 13
      · obtain ⟨a, b, c, d, e, f, g, i, r, x, t, u, v, rfl⟩ := len13 hl
        refine walk_some s w hs hg ⟨y.toArray⟩ ho2 ⟨a.toArray⟩ ⟨b.toArray⟩ ⟨c.toArray⟩ ⟨d.toArray⟩ ⟨e.toArray⟩ ⟨f.toArray⟩ ⟨g.toArray⟩ ⟨i.toArray⟩ ⟨r.toArray⟩ ⟨x.toArray⟩ ⟨t.toArray⟩ ⟨u.toArray⟩ ⟨v.toArray⟩ ?_
        show allT y = _
        rw [hu]
        simp [texts]
      · exact walk_len s w hs hg ⟨y.toArray⟩ ho2 l hu hl
end Go.Proofs.YtkpakiiijphjeaaGreatDoor.Po

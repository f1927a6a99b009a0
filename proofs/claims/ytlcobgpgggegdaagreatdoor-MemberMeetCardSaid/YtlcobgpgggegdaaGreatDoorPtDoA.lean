/-
  What comes of an order that cannot be done, and of a change of members: failed, became, do. Conditions: plots that may be.
  What comes of a change of members: do. Conditions: plots that may be.
-/
import Derived.Test.YtlcobgpgggegdaaGreatDoorPtBad
import Derived.Test.YtlcobgpgggegdaaGreatDoorPtThree
import Derived.Test.YtlcobgpgggegdaaGreatDoorDsDRA
import Derived.Test.YtlcobgpgggegdaaGreatDoorDsASA
import Derived.Test.YtlcobgpgggegdaaGreatDoorDpBGA
namespace Go.Proofs.YtlcobgpgggegdaaGreatDoor.Pt
open Go.RowKit Bnd
open Go.Proofs.YtlcobgpgggegdaaGreatDoor.Ds (De SM ArgM putT isD dv addD removeD)
open Go.Proofs.YtlcobgpgggegdaaGreatDoor.Od (Rep BoxR rv E0 av)
open Go.Proofs.YtlcobgpgggegdaaGreatDoor.Dp (Ph BoxP qv HA HP)
open Go.Proofs.YtlcobgpgggegdaaGreatDoor.Mb (changeD isCh)

def Oc.zero : Oc := ⟨Ph.zero, Od.Rep.zero, .slice none 0 0, Fh.zero⟩
set_option maxHeartbeats 16000000 in
set_option maxRecDepth 100000 in
theorem failed_any (o : Ph) (n : Int) (w : World) (h : HP w w.heap.size o) : Calls Tryz.prog 257 #[qv o, .int .i64 n] w fun e w' => e = .returned (cv ⟨o, badR n, .slice none 0 0, Fh.zero⟩) ∧ Below w.heap.size w w' := by
  obtain ⟨d, ps, zs, fr, ea, al, A, B, C, D, a, b, c, e, rfl⟩ := h.open
  clear h
  obtain ⟨nm, hnm⟩ : ∃ n, d.ms.length = n := ⟨_, rfl⟩
  obtain ⟨np, hnp⟩ : ∃ n, ps.length = n := ⟨_, rfl⟩
  obtain ⟨nz, hnz⟩ : ∃ n, zs.length = n := ⟨_, rfl⟩
  obtain ⟨ne, hne⟩ : ∃ n, ea.length = n := ⟨_, rfl⟩
  rw [hnm, hnp, hnz, hne]
  clear hnm hnp hnz hne
  obtain ⟨W0, hW0⟩ : ∃ W0, (w.alloc (.cells #[.int .i64 d.id, .string d.f, .string d.t, .int .i64 d.gen, .slice A nm a, .int .i64 d.next, .slice B np b, .slice C nz c, .bool fr, .slice D ne e, .int .i64 al] 38)).alloc (.cells #[.int .i64 0, .string ⟨#[]⟩, .string ⟨#[]⟩, .int .i64 0, .slice none 0 0, .int .i64 0, .slice none 0 0, .slice none 0 0, .bool false, .slice none 0 0, .int .i64 0, .int .i64 0, .int .i64 0, .bool false, .string ⟨#[]⟩, .slice none 0 0, .bool false, .int .i64 0, .string ⟨#[]⟩, .string ⟨#[]⟩, .int .i64 0, .slice none 0 0, .int .i64 0, .slice none 0 0, .slice none 0 0, .bool false, .slice none 0 0, .int .i64 0, .int .i64 0] 174) = W0 := ⟨_, rfl⟩
  have BP : BoxP w.heap.size ⟨d, .slice A nm a, ps, .slice B np b, zs, .slice C nz c, fr, ea, .slice D ne e, al⟩ W0 := hW0 ▸ (BoxP.new w ⟨d, .slice A nm a, ps, .slice B np b, zs, .slice C nz c, fr, ea, .slice D ne e, al⟩).alloc _
  have BC : BoxC (w.heap.size + 1) Oc.zero W0 := by rw [← hW0, ← World.size_alloc w (.cells #[.int .i64 d.id, .string d.f, .string d.t, .int .i64 d.gen, .slice A nm a, .int .i64 d.next, .slice B np b, .slice C nz c, .bool fr, .slice D ne e, .int .i64 al] 38)]; exact BoxC.new _ Oc.zero
  have hb0 : Below w.heap.size w W0 := hW0 ▸ (by (repeat' (first | with_reducible assumption | with_reducible exact Below.refl _ _ | with_reducible refine Below.alloc ?_ ?_ _ | with_reducible refine Below.setCell ?_ ?_ _ | with_reducible refine Below.drew ?_ | omega | (simp; done) | (simp; omega))))
  have hbox : ∀ wx, Below W0.heap.size W0 wx → BoxP w.heap.size ⟨d, .slice A nm a, ps, .slice B np b, zs, .slice C nz c, fr, ea, .slice D ne e, al⟩ wx := fun wx hx => BP.keep hx
  have cb := fun w => bad_any n w
  clear BP
  go_enter Tryz.func257, Tryz.ntmps257
  go_wp2_with fail
  try rw [hW0]
  refine St.wp_region_tail 4 (fun _ wx => Below W0.heap.size W0 wx) (by kernel_rfl) (by kernel_rfl) (by kernel_rfl) (by kernel_rfl) (by decide) (Below.refl _ _).drew ?_
  simp only [List.take, List.drop]
  apply St.step_give
  · rfl
  · intro L wx hS hcl hrd
    obtain ⟨_, ⟨d0, d1, d2, d3, d4, d5, d6, d7, d8, d9, d10⟩, _⟩ := hbox wx hS
    go_simp
    try with_reducible rfl
  · exact fun L wx hS => hS
  simp only [Act.put, List.setIfInBounds_toArray, List.set_cons_zero, List.set_cons_succ]
  apply St.step_give
  · rfl
  · intro L wx hS hcl hrd
    skip
    go_simp
    try with_reducible rfl
  · exact fun L wx hS => hS
  simp only [Act.put, List.setIfInBounds_toArray, List.set_cons_zero, List.set_cons_succ]
  apply St.step_into
  · rfl
  · intro wx
    go_simp
    exact ⟨rfl, rfl⟩
  · intro L wx hS hcl hrd
    refine (cb wx).mono ?_
    rintro e' w' ⟨rfl, b⟩
    exact ⟨rfl, hS.trans (b.mono hS.size)⟩
  simp only [Act.put, List.setIfInBounds_toArray, List.set_cons_zero, List.set_cons_succ]
  apply St.step_give
  · rfl
  · intro L wx hS hcl hrd
    skip
    go_simp
    try with_reducible rfl
  · exact fun L wx hS => hS
  simp only [Act.put, List.setIfInBounds_toArray, List.set_cons_zero, List.set_cons_succ]

  refine St.step_last ?_
  intro L wx hS _
  have BC1 := BC.keep hS
  have hb1 := hb0.trans (hS.mono hb0.size)
  have hlt := BC1.lt
  clear hW0 hbox cb BC hS hb0
  refine wpList_storeC (o := ⟨⟨d, .slice A nm a, ps, .slice B np b, zs, .slice C nz c, fr, ea, .slice D ne e, al⟩, badR n, .slice none 0 0, Fh.zero⟩) rfl rfl rfl rfl BC1 (oneC _ rfl rfl rfl rfl rfl rfl rfl rfl rfl) ?_
  have BC2 := BC1.put' ⟨⟨d, .slice A nm a, ps, .slice B np b, zs, .slice C nz c, fr, ea, .slice D ne e, al⟩, badR n, .slice none 0 0, Fh.zero⟩
  have hb2 := putL_below (l := (arrBoxC ⟨⟨d, .slice A nm a, ps, .slice B np b, zs, .slice C nz c, fr, ea, .slice D ne e, al⟩, badR n, .slice none 0 0, Fh.zero⟩).toList) (i := 0) hb1 (Nat.le_succ w.heap.size)
  generalize putL _ _ _ _ = WF at BC2 hb2 ⊢
  clear BC1 hb1 hlt
  go_wp2_with fail
  exact bodyPost_ret (res_BoxC Tryz.results257 rfl BC2) rfl ⟨rfl, hb2⟩

theorem boxP_d6 {n : Nat} {o : Ph} {w1 : World} (h : BoxP n o w1) (d : De) (s : Value) :
    BoxP n { o with d := d, sm := s } (World.setCell (World.setCell (World.setCell (World.setCell (World.setCell (World.setCell w1 ⟨n, 0, none⟩ (.int .i64 d.id)) ⟨n, 1, none⟩ (.string d.f)) ⟨n, 2, none⟩ (.string d.t)) ⟨n, 3, none⟩ (.int .i64 d.gen)) ⟨n, 4, none⟩ s) ⟨n, 5, none⟩ (.int .i64 d.next)) := by
  obtain ⟨h0, ⟨h1, h2, h3, h4, h5, h6, h7, h8, h9, h10, h11⟩, hf⟩ := h
  refine ⟨by simpa using h0, ⟨?_, ?_, ?_, ?_, ?_, ?_, ?_, ?_, ?_, ?_, ?_⟩, fun o => by simp [World.frozen?_setCell, hf]⟩
  all_goals simp [go_sem, h1, h2, h3, h4, h5, h6, h7, h8, h9, h10, h11]
/-- what comes of a change -/
def turnOc (o : Ph) (c : De × Int) (s : Value) : Oc := if c.2 = 0 then ⟨{ o with d := c.1, sm := s }, toldR 0 false (putT c.1), .slice none 0 0, Fh.zero⟩ else ⟨o, badR c.2, .slice none 0 0, Fh.zero⟩
theorem turnOc_out (o : Ph) (c : De × Int) (s : Value) : (turnOc o c s).out = becameP o.pl c := by
  unfold turnOc becameP
  split <;> rfl
set_option maxHeartbeats 16000000 in
set_option maxRecDepth 100000 in
theorem became_any (o : Ph) (g : De) (s : Value) (n : Int) (w : World) (h : HP w w.heap.size o) (hs : SM w w.heap.size s g.ms) (hg : n = 0 → isD g = true) :
    Calls Tryz.prog 211 #[qv o, dv g s, .int .i64 n] w fun e w' => e = .returned (cv (turnOc o (g, n) s)) ∧ Below w.heap.size w w' := by
  have cf := fun w' (hb : Below w.heap.size w w') => failed_any o n w' ((h.below hb).more hb.size)
  have cp := fun w' (hb : Below w.heap.size w w') (hn : n = 0) => put_is g s w' ((hs.below hb).more hb.size) (hg hn)
  obtain ⟨G, cg, rfl⟩ := hs.form
  obtain ⟨ng, hng⟩ : ∃ n, g.ms.length = n := ⟨_, rfl⟩
  rw [hng] at cp ⊢
  obtain ⟨d, ps, zs, fr, ea, al, A, B, C, D, a, b, c, e, rfl⟩ := h.open
  clear h hs hg hng
  obtain ⟨nm, hnm⟩ : ∃ n, d.ms.length = n := ⟨_, rfl⟩
  obtain ⟨np, hnp⟩ : ∃ n, ps.length = n := ⟨_, rfl⟩
  obtain ⟨nz, hnz⟩ : ∃ n, zs.length = n := ⟨_, rfl⟩
  obtain ⟨ne, hne⟩ : ∃ n, ea.length = n := ⟨_, rfl⟩
  rw [hnm, hnp, hnz, hne] at cf ⊢
  clear hnm hnp hnz hne
  obtain ⟨W0, hW0⟩ : ∃ W0, ((w.alloc (.cells #[.int .i64 d.id, .string d.f, .string d.t, .int .i64 d.gen, .slice A nm a, .int .i64 d.next, .slice B np b, .slice C nz c, .bool fr, .slice D ne e, .int .i64 al] 38)).alloc (.cells #[.int .i64 g.id, .string g.f, .string g.t, .int .i64 g.gen, .slice G ng cg, .int .i64 g.next] 26)).alloc (.cells #[.int .i64 0, .string ⟨#[]⟩, .string ⟨#[]⟩, .int .i64 0, .slice none 0 0, .int .i64 0, .slice none 0 0, .slice none 0 0, .bool false, .slice none 0 0, .int .i64 0, .int .i64 0, .int .i64 0, .bool false, .string ⟨#[]⟩, .slice none 0 0, .bool false, .int .i64 0, .string ⟨#[]⟩, .string ⟨#[]⟩, .int .i64 0, .slice none 0 0, .int .i64 0, .slice none 0 0, .slice none 0 0, .bool false, .slice none 0 0, .int .i64 0, .int .i64 0] 174) = W0 := ⟨_, rfl⟩
  have BP : BoxP w.heap.size ⟨d, .slice A nm a, ps, .slice B np b, zs, .slice C nz c, fr, ea, .slice D ne e, al⟩ W0 := hW0 ▸ ((BoxP.new w ⟨d, .slice A nm a, ps, .slice B np b, zs, .slice C nz c, fr, ea, .slice D ne e, al⟩).alloc _).alloc _
  have BD : Ds.BoxD (w.heap.size + 1) g (.slice G ng cg) W0 := by
    rw [← hW0, ← World.size_alloc w (.cells #[.int .i64 d.id, .string d.f, .string d.t, .int .i64 d.gen, .slice A nm a, .int .i64 d.next, .slice B np b, .slice C nz c, .bool fr, .slice D ne e, .int .i64 al] 38)]
    exact (Ds.BoxD.new _ g (.slice G ng cg)).alloc _
  have BC : BoxC (w.heap.size + 2) Oc.zero W0 := by
    have := BoxC.new ((w.alloc (.cells #[.int .i64 d.id, .string d.f, .string d.t, .int .i64 d.gen, .slice A nm a, .int .i64 d.next, .slice B np b, .slice C nz c, .bool fr, .slice D ne e, .int .i64 al] 38)).alloc (.cells #[.int .i64 g.id, .string g.f, .string g.t, .int .i64 g.gen, .slice G ng cg, .int .i64 g.next] 26)) Oc.zero
    rw [World.size_alloc, World.size_alloc] at this
    rw [← hW0]
    exact this
  have hb0 : Below w.heap.size w W0 := hW0 ▸ (by (repeat' (first | with_reducible assumption | with_reducible exact Below.refl _ _ | with_reducible refine Below.alloc ?_ ?_ _ | with_reducible refine Below.setCell ?_ ?_ _ | with_reducible refine Below.drew ?_ | omega | (simp; done) | (simp; omega))))
  have hz0 : W0.heap.size = w.heap.size + 3 := by rw [← hW0]; simp
  by_cases hn : n = 0
  · subst hn
    rw [show turnOc ⟨d, .slice A nm a, ps, .slice B np b, zs, .slice C nz c, fr, ea, .slice D ne e, al⟩ (g, 0) (.slice G ng cg) = ⟨⟨g, .slice G ng cg, ps, .slice B np b, zs, .slice C nz c, fr, ea, .slice D ne e, al⟩, toldR 0 false (putT g), .slice none 0 0, Fh.zero⟩ from rfl]
    obtain ⟨TX, hTX⟩ : ∃ T, txt (putT g) = T := ⟨_, rfl⟩
    have cq := fun w' hb => cp w' hb rfl
    rw [show toldR 0 false (putT g) = (⟨0, 0, false, txt (putT g), []⟩ : Rep) from rfl]
    rw [hTX] at cq ⊢
    obtain ⟨W1, hW1⟩ : ∃ W1, World.setCell (World.setCell (World.setCell (World.setCell (World.setCell (World.setCell W0 ⟨w.heap.size, 0, none⟩ (.int .i64 g.id)) ⟨w.heap.size, 1, none⟩ (.string g.f)) ⟨w.heap.size, 2, none⟩ (.string g.t)) ⟨w.heap.size, 3, none⟩ (.int .i64 g.gen)) ⟨w.heap.size, 4, none⟩ (.slice G ng cg)) ⟨w.heap.size, 5, none⟩ (.int .i64 g.next) = W1 := ⟨_, rfl⟩
    have BP1 : BoxP w.heap.size ⟨g, .slice G ng cg, ps, .slice B np b, zs, .slice C nz c, fr, ea, .slice D ne e, al⟩ W1 := hW1 ▸ boxP_d6 BP g (.slice G ng cg)
    have BD1 : Ds.BoxD (w.heap.size + 1) g (.slice G ng cg) W1 := by
      rw [← hW1]
      iterate 6 refine Ds.BoxD.other ?_ (by simp) _
      exact BD
    have BC1 : BoxC (w.heap.size + 2) Oc.zero W1 := by
      rw [← hW1]
      iterate 6 refine BoxC.other ?_ (by simp) _
      exact BC
    have hb1 : Below w.heap.size w W1 := by
      rw [← hW1]
      iterate 6 refine Below.setCell ?_ (by simp) _
      exact hb0
    have hbox : ∀ wx, Below W1.heap.size W1 wx → BoxP w.heap.size ⟨g, .slice G ng cg, ps, .slice B np b, zs, .slice C nz c, fr, ea, .slice D ne e, al⟩ wx ∧ Ds.BoxD (w.heap.size + 1) g (.slice G ng cg) wx := fun wx hx => ⟨BP1.keep hx, BD1.keep hx⟩
    have cr := fun wx (hx : Below W1.heap.size W1 wx) => cq wx (hb1.trans (hx.mono hb1.size))
    clear cf cp cq hTX BP1 BD1 BC hb0
    obtain ⟨p_0, ⟨p_1, p_2, p_3, p_4, p_5, p_6, p_7, p_8, p_9, p_10, p_11⟩, p_12⟩ := _root_.id BP
    obtain ⟨q_0, ⟨q_1, q_2, q_3, q_4, q_5, q_6⟩, q_7⟩ := id BD
    go_enter Tryz.func211, Tryz.ntmps211
    go_wp2_with fail
    try rw [hW0]
    try rw [hW1]
    clear p_0 p_1 p_2 p_3 p_4 p_5 p_6 p_7 p_8 p_9 p_10 p_11 p_12
    clear q_0 q_1 q_2 q_3 q_4 q_5 q_6 q_7
    refine St.wp_region_tail 5 (fun _ wx => Below W1.heap.size W1 wx) (by kernel_rfl) (by kernel_rfl) (by kernel_rfl) (by kernel_rfl) (by decide) (Below.refl _ _).drew ?_
    simp only [List.take, List.drop]
    apply St.step_give
    · rfl
    · intro L wx hS hcl hrd
      obtain ⟨⟨_, ⟨d0, d1, d2, d3, d4, d5, d6, d7, d8, d9, d10⟩, _⟩, -⟩ := hbox wx hS
      go_simp
      try with_reducible rfl
    · exact fun L wx hS => hS
    simp only [Act.put, List.setIfInBounds_toArray, List.set_cons_zero, List.set_cons_succ]
    apply St.step_give
    · rfl
    · intro L wx hS hcl hrd
      obtain ⟨-, ⟨_, ⟨d0, d1, d2, d3, d4, d5⟩, _⟩⟩ := hbox wx hS
      go_simp
      try with_reducible rfl
    · exact fun L wx hS => hS
    simp only [Act.put, List.setIfInBounds_toArray, List.set_cons_zero, List.set_cons_succ]
    apply St.step_into
    · rfl
    · intro wx
      go_simp
      exact ⟨rfl, rfl⟩
    · intro L wx hS hcl hrd
      refine (cr wx hS).mono ?_
      rintro e' w' ⟨rfl, b⟩
      exact ⟨rfl, hS.trans (b.mono hS.size)⟩
    simp only [Act.put, List.setIfInBounds_toArray, List.set_cons_zero, List.set_cons_succ]
    apply St.step_give
    · rfl
    · intro L wx hS hcl hrd
      skip
      go_simp
      try with_reducible rfl
    · exact fun L wx hS => hS
    simp only [Act.put, List.setIfInBounds_toArray, List.set_cons_zero, List.set_cons_succ]
    apply St.step_give
    · rfl
    · intro L wx hS hcl hrd
      skip
      go_simp
      try with_reducible rfl
    · exact fun L wx hS => hS
    simp only [Act.put, List.setIfInBounds_toArray, List.set_cons_zero, List.set_cons_succ]

    refine St.step_last ?_
    intro L wx hS _
    have BC2 := BC1.keep hS
    have hb2 := hb1.trans (hS.mono hb1.size)
    clear hW0 hW1 hbox cr BC1 hS hb1
    refine wpList_storeC (o := ⟨⟨g, .slice G ng cg, ps, .slice B np b, zs, .slice C nz c, fr, ea, .slice D ne e, al⟩, ⟨0, 0, false, TX, []⟩, .slice none 0 0, Fh.zero⟩) rfl rfl rfl rfl BC2 (oneC _ rfl rfl rfl rfl rfl rfl rfl rfl rfl) ?_
    have BC3 := BC2.put' ⟨⟨g, .slice G ng cg, ps, .slice B np b, zs, .slice C nz c, fr, ea, .slice D ne e, al⟩, ⟨0, 0, false, TX, []⟩, .slice none 0 0, Fh.zero⟩
    have hb3 := putL_below (l := (arrBoxC ⟨⟨g, .slice G ng cg, ps, .slice B np b, zs, .slice C nz c, fr, ea, .slice D ne e, al⟩, ⟨0, 0, false, TX, []⟩, .slice none 0 0, Fh.zero⟩).toList) (i := 0) hb2 (Nat.le_add_right w.heap.size 2)
    generalize putL _ _ _ _ = WF at BC3 hb3 ⊢
    clear BC2 hb2
    go_wp2_with fail
    exact bodyPost_ret (res_BoxC Tryz.results211 rfl BC3) rfl ⟨rfl, hb3⟩
  · rw [show turnOc ⟨d, .slice A nm a, ps, .slice B np b, zs, .slice C nz c, fr, ea, .slice D ne e, al⟩ (g, n) (.slice G ng cg) = ⟨⟨d, .slice A nm a, ps, .slice B np b, zs, .slice C nz c, fr, ea, .slice D ne e, al⟩, badR n, .slice none 0 0, Fh.zero⟩ from if_neg hn]
    have n1 : (n == 0) = false := by simpa using hn
    have n2 : (n != 0) = true := by simpa using hn
    have n3 : (n = 0) = False := eq_false hn
    have cr := fun wx (hx : Below W0.heap.size W0 wx) => cf wx (hb0.trans (hx.mono hb0.size))
    have BC1 := fun wx (hx : Below W0.heap.size W0 wx) => BC.keep hx
    have hb1 := fun wx (hx : Below W0.heap.size W0 wx) => hb0.trans (hx.mono hb0.size)
    clear cf cp hn BC hb0
    obtain ⟨p_0, ⟨p_1, p_2, p_3, p_4, p_5, p_6, p_7, p_8, p_9, p_10, p_11⟩, p_12⟩ := _root_.id BP
    obtain ⟨q_0, ⟨q_1, q_2, q_3, q_4, q_5, q_6⟩, q_7⟩ := id BD
    go_enter Tryz.func211, Tryz.ntmps211
    go_wp2_with fail
    try rw [hW0]
    refine (cr _ (Below.refl _ _)).mono ?_
    rintro e' w1 ⟨rfl, b1⟩
    have BC2 := BC1 _ b1
    have hb2 := hb1 _ b1
    clear cr BC1 hb1 b1 hW0
    clear p_0 p_1 p_2 p_3 p_4 p_5 p_6 p_7 p_8 p_9 p_10 p_11 p_12
    clear q_0 q_1 q_2 q_3 q_4 q_5 q_6 q_7
    go_wp2_with (refine wpList_storeC (o := ⟨⟨d, .slice A nm a, ps, .slice B np b, zs, .slice C nz c, fr, ea, .slice D ne e, al⟩, badR n, .slice none 0 0, Fh.zero⟩) rfl rfl rfl rfl BC2 (oneC _ rfl rfl rfl rfl rfl rfl rfl rfl rfl) ?_)
    exact bodyPost_ret (res_BoxC Tryz.results211 rfl (BC2.put' ⟨⟨d, .slice A nm a, ps, .slice B np b, zs, .slice C nz c, fr, ea, .slice D ne e, al⟩, badR n, .slice none 0 0, Fh.zero⟩)) rfl ⟨rfl, putL_below hb2 (Nat.le_add_right w.heap.size 2)⟩
end Go.Proofs.YtlcobgpgggegdaaGreatDoor.Pt

namespace Go.Proofs.YtlcobgpgggegdaaGreatDoor.Pt
open Go.RowKit Bnd
open Go.Proofs.YtlcobgpgggegdaaGreatDoor.Ds (De SM ArgM putT isD dv addD removeD)
open Go.Proofs.YtlcobgpgggegdaaGreatDoor.Od (Rep BoxR rv E0 av)
open Go.Proofs.YtlcobgpgggegdaaGreatDoor.Dp (Ph BoxP qv HA HP)

theorem but_putL {ns : List Nat} {W : World} {n : Nat} : ∀ {l : List Value} {i : Nat} {w : World}, But ns W w → n ∈ ns → But ns W (putL w n i l)
  | [], _, _, h, _ => h
  | v :: l, i, _, h, hn => but_putL (l := l) (i := i + 1) (h.set hn v) hn
theorem ok_nodes (x : De) : ∀ m ∈ (Ds.okD x).1.ms, m.1 ≠ 0 := by
  rcases Ds.okD_cases x with ⟨h, e⟩ | e
  · rw [e]
    intro m hm
    have := (Ds.nodeB_iff _).1 ((Ds.isD_parts h).1 m hm).1
    omega
  · rw [e]; intro m hm; cases hm
theorem add_nodes (d : De) (n : Int) : ∀ m ∈ (addD d n).1.ms, m.1 ≠ 0 := by
  unfold addD
  (repeat' split) <;> first | exact ok_nodes _ | (intro m hm; cases hm)
theorem remove_nodes (d : De) (n : Int) : ∀ m ∈ (removeD d n).1.ms, m.1 ≠ 0 := by
  unfold removeD
  (repeat' split) <;> first | exact ok_nodes _ | (intro m hm; cases hm)
theorem zero_ints (i : Nat) (x y : Int) (h0 : (arrBoxC Oc.zero)[i]? = some (.int .i64 x)) (h1 : (arrBoxC Oc.zero)[i + 1]? = some (.int .i64 y)) : x = 0 := by
  match i, h0, h1 with
  | 0, _, h1 => cases h1
  | 1, h0, _ => cases h0
  | 2, h0, _ => cases h0
  | 3, _, h1 => cases h1
  | 4, h0, _ => cases h0
  | 5, _, h1 => cases h1
  | 6, h0, _ => cases h0
  | 7, h0, _ => cases h0
  | 8, h0, _ => cases h0
  | 9, h0, _ => cases h0
  | 10, h0, _ => cases h0; rfl
  | 11, h0, _ => cases h0; rfl
  | 12, h0, _ => cases h0; rfl
  | 13, h0, _ => cases h0
  | 14, h0, _ => cases h0
  | 15, h0, _ => cases h0
  | 16, h0, _ => cases h0
  | 17, h0, _ => cases h0; rfl
  | 18, h0, _ => cases h0
  | 19, h0, _ => cases h0
  | 20, h0, _ => cases h0; rfl
  | 21, h0, _ => cases h0
  | 22, h0, _ => cases h0; rfl
  | 23, h0, _ => cases h0
  | 24, h0, _ => cases h0
  | 25, h0, _ => cases h0
  | 26, h0, _ => cases h0
  | 27, h0, _ => cases h0; rfl
  | 28, h0, _ => cases h0; rfl
  | i + 29, h0, _ => simp [arrBoxC] at h0

set_option maxHeartbeats 16000000 in
set_option maxRecDepth 100000 in
theorem do_add (o : Ph) (x : Od.Ask) (w : World) (h : HA w o) (hd : isD o.d = true) (hk : x.kind = 10) :
    Calls Tryz.prog 131 #[qv o, av x] w fun e w' => ∃ s, e = .returned (cv (turnOc o (addD o.d x.node) s)) ∧ ArgM w' s (addD o.d x.node).1.ms ∧ Below w.heap.size w w' := by
  have hp := h.hp
  have c1 := fun w' (hb : Below w.heap.size w w') => Ds.add_any o.d o.sm x.node w' (h.sm.keep hb) (Dp.isD_fit hd)
  have hg : ∀ n, (addD o.d x.node).2 = n → n = 0 → isD (addD o.d x.node).1 = true := fun n e h0 => (Mb.change_is (d := o.d) (x := (addD o.d x.node).1) (o := x) (by unfold Mb.changeD; rw [hk]; simp; rw [← h0, ← e])).1
  obtain ⟨⟨g, en⟩, hG⟩ : ∃ p, addD o.d x.node = p := ⟨_, rfl⟩
  have hnd := add_nodes o.d x.node
  rw [hG] at c1 hg hnd ⊢
  have HND := Lib.hid hnd
  clear hnd
  simp only at hg
  have c2 := fun s w' (hb : Below w.heap.size w w') (hs : SM w' w'.heap.size s g.ms) => became_any o g s en w' ((hp.below hb).more hb.size) hs (hg en rfl)
  clear hG hg h hd
  obtain ⟨kind, client, seq, key, til, val, old, has, lim, id, node⟩ := x
  simp only at hk c1 ⊢
  subst hk
  obtain ⟨d, ps, zs, fr, ea, al, A, B, C, D, a, b, c, e, rfl⟩ := hp.open
  simp only at c1 c2 ⊢
  obtain ⟨nm, hnm⟩ : ∃ n, d.ms.length = n := ⟨_, rfl⟩
  obtain ⟨np, hnp⟩ : ∃ n, ps.length = n := ⟨_, rfl⟩
  obtain ⟨nz, hnz⟩ : ∃ n, zs.length = n := ⟨_, rfl⟩
  obtain ⟨ne, hne⟩ : ∃ n, ea.length = n := ⟨_, rfl⟩
  rw [hnm] at c1
  rw [hnm, hnp, hnz, hne] at c2 ⊢
  clear hp hnm hnp hnz hne
  obtain ⟨W0, hW0⟩ : ∃ W0, (((w.alloc (.cells #[.int .i64 d.id, .string d.f, .string d.t, .int .i64 d.gen, .slice A nm a, .int .i64 d.next, .slice B np b, .slice C nz c, .bool fr, .slice D ne e, .int .i64 al] 38)).alloc (.cells #[.int .i64 10, .int .i64 client, .int .i64 seq, .string key, .string til, .string val, .string old, .bool has, .int .i64 lim, .int .i64 id, .int .i64 node] 40)).alloc (.cells #[.int .i64 0, .string ⟨#[]⟩, .string ⟨#[]⟩, .int .i64 0, .slice none 0 0, .int .i64 0, .slice none 0 0, .slice none 0 0, .bool false, .slice none 0 0, .int .i64 0, .int .i64 0, .int .i64 0, .bool false, .string ⟨#[]⟩, .slice none 0 0, .bool false, .int .i64 0, .string ⟨#[]⟩, .string ⟨#[]⟩, .int .i64 0, .slice none 0 0, .int .i64 0, .slice none 0 0, .slice none 0 0, .bool false, .slice none 0 0, .int .i64 0, .int .i64 0] 174)).alloc (.cells #[.int .i64 0, .int .i64 0, .bool false, .string ⟨#[]⟩, .slice none 0 0] 85) = W0 := ⟨_, rfl⟩
  have BP : BoxP w.heap.size ⟨d, .slice A nm a, ps, .slice B np b, zs, .slice C nz c, fr, ea, .slice D ne e, al⟩ W0 := hW0 ▸ (((BoxP.new w ⟨d, .slice A nm a, ps, .slice B np b, zs, .slice C nz c, fr, ea, .slice D ne e, al⟩).alloc _).alloc _).alloc _
  have BA : Od.BoxA (w.heap.size + 1) ⟨10, client, seq, key, til, val, old, has, lim, id, node⟩ W0 := by
    rw [← hW0, ← World.size_alloc w (.cells #[.int .i64 d.id, .string d.f, .string d.t, .int .i64 d.gen, .slice A nm a, .int .i64 d.next, .slice B np b, .slice C nz c, .bool fr, .slice D ne e, .int .i64 al] 38)]
    exact ((Od.BoxA.new _ ⟨10, client, seq, key, til, val, old, has, lim, id, node⟩).alloc _).alloc _
  have BC : BoxC (w.heap.size + 2) Oc.zero W0 := by
    have := BoxC.new ((w.alloc (.cells #[.int .i64 d.id, .string d.f, .string d.t, .int .i64 d.gen, .slice A nm a, .int .i64 d.next, .slice B np b, .slice C nz c, .bool fr, .slice D ne e, .int .i64 al] 38)).alloc (.cells #[.int .i64 10, .int .i64 client, .int .i64 seq, .string key, .string til, .string val, .string old, .bool has, .int .i64 lim, .int .i64 id, .int .i64 node] 40)) Oc.zero
    rw [World.size_alloc, World.size_alloc] at this
    rw [← hW0]
    exact this.keep ((Below.refl _ _).alloc (Nat.le_refl _) _)
  have hb0 : Below w.heap.size w W0 := hW0 ▸ (by (repeat' (first | with_reducible assumption | with_reducible exact Below.refl _ _ | with_reducible refine Below.alloc ?_ ?_ _ | with_reducible refine Below.setCell ?_ ?_ _ | with_reducible refine Below.drew ?_ | omega | (simp; done) | (simp; omega))))
  have e0 : (0 : Int) = 0 := rfl
  obtain ⟨p_0, ⟨p_1, p_2, p_3, p_4, p_5, p_6, p_7, p_8, p_9, p_10, p_11⟩, p_12⟩ := _root_.id BP
  obtain ⟨q_0, ⟨q_1, q_2, q_3, q_4, q_5, q_6, q_7, q_8, q_9, q_10, q_11⟩, q_12⟩ := _root_.id BA
  go_enter Tryz.func131, Tryz.ntmps131
  go_wp2_with fail
  try rw [hW0]
  refine (c1 _ hb0).mono ?_
  rintro e' w1 ⟨s, rfl, ha, b1⟩
  obtain ⟨G, cg, rfl⟩ := ha.form
  have BP1 := BP.keep b1
  have BC1 := BC.keep b1
  have hb1 := hb0.trans (b1.mono hb0.size)
  have ha2 := ha.keep ((Below.refl _ w1).alloc (Nat.le_refl _) (.cells #[.int .i64 g.id, .string g.f, .string g.t, .int .i64 g.gen, .slice G g.ms.length cg, .int .i64 g.next] 26))
  have c3 := c2 _ _ (hb1.alloc hb1.size _) ha2.sm
  have BP2 := BP1.alloc (.cells #[.int .i64 g.id, .string g.f, .string g.t, .int .i64 g.gen, .slice G g.ms.length cg, .int .i64 g.next] 26)
  have BC2 := BC1.keep ((Below.refl _ w1).alloc (Nat.le_refl _) (.cells #[.int .i64 g.id, .string g.f, .string g.t, .int .i64 g.gen, .slice G g.ms.length cg, .int .i64 g.next] 26))
  have hb2 := hb1.alloc hb1.size (.cells #[.int .i64 g.id, .string g.f, .string g.t, .int .i64 g.gen, .slice G g.ms.length cg, .int .i64 g.next] 26)
  clear p_0 p_1 p_2 p_3 p_4 p_5 p_6 p_7 p_8 p_9 p_10 p_11 p_12
  clear q_0 q_1 q_2 q_3 q_4 q_5 q_6 q_7 q_8 q_9 q_10 q_11 q_12
  have hlt := BP1.1
  have hz := hb1.size
  clear b1 c1 c2 BC BC1 hb0 hW0 ha BP BA
  obtain ⟨ng, hng⟩ : ∃ n, g.ms.length = n := ⟨_, rfl⟩
  rw [hng] at c3 BP2 BC2 hb2 ha2 ⊢
  have HNG := Lib.hid hng
  clear hng
  obtain ⟨p_0, ⟨p_1, p_2, p_3, p_4, p_5, p_6, p_7, p_8, p_9, p_10, p_11⟩, p_12⟩ := _root_.id BP1
  go_wp2_with fail
  refine c3.mono ?_
  rintro e' w2 ⟨rfl, b2⟩
  have BC3 := BC2.keep b2
  have hb3 := hb2.trans (b2.mono hb2.size)
  have ha3 := ha2.keep b2
  clear p_0 p_1 p_2 p_3 p_4 p_5 p_6 p_7 p_8 p_9 p_10 p_11 p_12
  clear b2 c3 BC2 hb2 ha2 BP2
  obtain ⟨X, hX⟩ : ∃ X, turnOc ⟨d, .slice A nm a, ps, .slice B np b, zs, .slice C nz c, fr, ea, .slice D ne e, al⟩ (g, en) (.slice G ng cg) = X := ⟨_, rfl⟩
  have hone : ∀ v ∈ (arrBoxC X).toList, v.oneCell' = true := by
    rw [← hX]
    unfold turnOc
    split <;> exact oneC _ rfl rfl rfl rfl rfl rfl rfl rfl rfl
  rw [hX]
  have HX := Lib.hid hX
  clear hX
  go_wp2_with (refine wpList_storeC (o := X) rfl rfl rfl rfl BC3 hone ?_)
  exact bodyPost_ret (res_BoxC Tryz.results131 rfl (BC3.put' X)) rfl ⟨.slice G ng cg, by rw [HX.out], argM_but ha3 (fun m hm => by simp only [List.mem_singleton] at hm; subst hm; exact argM_off ha3 BC3 zero_ints HND.out) (but_putL (l := (arrBoxC X).toList) (i := 0) (But.refl [w.heap.size + 2] w2) (by simp)), putL_below hb3 (Nat.le_add_right w.heap.size 2)⟩
set_option maxHeartbeats 16000000 in
set_option maxRecDepth 100000 in
theorem do_remove (o : Ph) (x : Od.Ask) (w : World) (h : HA w o) (hd : isD o.d = true) (hk : x.kind = 11) :
    Calls Tryz.prog 131 #[qv o, av x] w fun e w' => ∃ s, e = .returned (cv (turnOc o (removeD o.d x.id) s)) ∧ ArgM w' s (removeD o.d x.id).1.ms ∧ Below w.heap.size w w' := by
  have hp := h.hp
  have c1 := fun w' (hb : Below w.heap.size w w') => Ds.remove_any o.d o.sm x.id w' (h.sm.keep hb) (Dp.isD_fit hd)
  have hg : ∀ n, (removeD o.d x.id).2 = n → n = 0 → isD (removeD o.d x.id).1 = true := fun n e h0 => (Mb.change_is (d := o.d) (x := (removeD o.d x.id).1) (o := x) (by unfold Mb.changeD; rw [hk]; simp; rw [← h0, ← e])).1
  obtain ⟨⟨g, en⟩, hG⟩ : ∃ p, removeD o.d x.id = p := ⟨_, rfl⟩
  have hnd := remove_nodes o.d x.id
  rw [hG] at c1 hg hnd ⊢
  have HND := Lib.hid hnd
  clear hnd
  simp only at hg
  have c2 := fun s w' (hb : Below w.heap.size w w') (hs : SM w' w'.heap.size s g.ms) => became_any o g s en w' ((hp.below hb).more hb.size) hs (hg en rfl)
  clear hG hg h hd
  obtain ⟨kind, client, seq, key, til, val, old, has, lim, id, node⟩ := x
  simp only at hk c1 ⊢
  subst hk
  obtain ⟨d, ps, zs, fr, ea, al, A, B, C, D, a, b, c, e, rfl⟩ := hp.open
  simp only at c1 c2 ⊢
  obtain ⟨nm, hnm⟩ : ∃ n, d.ms.length = n := ⟨_, rfl⟩
  obtain ⟨np, hnp⟩ : ∃ n, ps.length = n := ⟨_, rfl⟩
  obtain ⟨nz, hnz⟩ : ∃ n, zs.length = n := ⟨_, rfl⟩
  obtain ⟨ne, hne⟩ : ∃ n, ea.length = n := ⟨_, rfl⟩
  rw [hnm] at c1
  rw [hnm, hnp, hnz, hne] at c2 ⊢
  clear hp hnm hnp hnz hne
  obtain ⟨W0, hW0⟩ : ∃ W0, (((w.alloc (.cells #[.int .i64 d.id, .string d.f, .string d.t, .int .i64 d.gen, .slice A nm a, .int .i64 d.next, .slice B np b, .slice C nz c, .bool fr, .slice D ne e, .int .i64 al] 38)).alloc (.cells #[.int .i64 11, .int .i64 client, .int .i64 seq, .string key, .string til, .string val, .string old, .bool has, .int .i64 lim, .int .i64 id, .int .i64 node] 40)).alloc (.cells #[.int .i64 0, .string ⟨#[]⟩, .string ⟨#[]⟩, .int .i64 0, .slice none 0 0, .int .i64 0, .slice none 0 0, .slice none 0 0, .bool false, .slice none 0 0, .int .i64 0, .int .i64 0, .int .i64 0, .bool false, .string ⟨#[]⟩, .slice none 0 0, .bool false, .int .i64 0, .string ⟨#[]⟩, .string ⟨#[]⟩, .int .i64 0, .slice none 0 0, .int .i64 0, .slice none 0 0, .slice none 0 0, .bool false, .slice none 0 0, .int .i64 0, .int .i64 0] 174)).alloc (.cells #[.int .i64 0, .int .i64 0, .bool false, .string ⟨#[]⟩, .slice none 0 0] 85) = W0 := ⟨_, rfl⟩
  have BP : BoxP w.heap.size ⟨d, .slice A nm a, ps, .slice B np b, zs, .slice C nz c, fr, ea, .slice D ne e, al⟩ W0 := hW0 ▸ (((BoxP.new w ⟨d, .slice A nm a, ps, .slice B np b, zs, .slice C nz c, fr, ea, .slice D ne e, al⟩).alloc _).alloc _).alloc _
  have BA : Od.BoxA (w.heap.size + 1) ⟨11, client, seq, key, til, val, old, has, lim, id, node⟩ W0 := by
    rw [← hW0, ← World.size_alloc w (.cells #[.int .i64 d.id, .string d.f, .string d.t, .int .i64 d.gen, .slice A nm a, .int .i64 d.next, .slice B np b, .slice C nz c, .bool fr, .slice D ne e, .int .i64 al] 38)]
    exact ((Od.BoxA.new _ ⟨11, client, seq, key, til, val, old, has, lim, id, node⟩).alloc _).alloc _
  have BC : BoxC (w.heap.size + 2) Oc.zero W0 := by
    have := BoxC.new ((w.alloc (.cells #[.int .i64 d.id, .string d.f, .string d.t, .int .i64 d.gen, .slice A nm a, .int .i64 d.next, .slice B np b, .slice C nz c, .bool fr, .slice D ne e, .int .i64 al] 38)).alloc (.cells #[.int .i64 11, .int .i64 client, .int .i64 seq, .string key, .string til, .string val, .string old, .bool has, .int .i64 lim, .int .i64 id, .int .i64 node] 40)) Oc.zero
    rw [World.size_alloc, World.size_alloc] at this
    rw [← hW0]
    exact this.keep ((Below.refl _ _).alloc (Nat.le_refl _) _)
  have hb0 : Below w.heap.size w W0 := hW0 ▸ (by (repeat' (first | with_reducible assumption | with_reducible exact Below.refl _ _ | with_reducible refine Below.alloc ?_ ?_ _ | with_reducible refine Below.setCell ?_ ?_ _ | with_reducible refine Below.drew ?_ | omega | (simp; done) | (simp; omega))))
  have e0 : (0 : Int) = 0 := rfl
  obtain ⟨p_0, ⟨p_1, p_2, p_3, p_4, p_5, p_6, p_7, p_8, p_9, p_10, p_11⟩, p_12⟩ := _root_.id BP
  obtain ⟨q_0, ⟨q_1, q_2, q_3, q_4, q_5, q_6, q_7, q_8, q_9, q_10, q_11⟩, q_12⟩ := _root_.id BA
  go_enter Tryz.func131, Tryz.ntmps131
  go_wp2_with fail
  try rw [hW0]
  refine (c1 _ hb0).mono ?_
  rintro e' w1 ⟨s, rfl, ha, b1⟩
  obtain ⟨G, cg, rfl⟩ := ha.form
  have BP1 := BP.keep b1
  have BC1 := BC.keep b1
  have hb1 := hb0.trans (b1.mono hb0.size)
  have ha2 := ha.keep ((Below.refl _ w1).alloc (Nat.le_refl _) (.cells #[.int .i64 g.id, .string g.f, .string g.t, .int .i64 g.gen, .slice G g.ms.length cg, .int .i64 g.next] 26))
  have c3 := c2 _ _ (hb1.alloc hb1.size _) ha2.sm
  have BP2 := BP1.alloc (.cells #[.int .i64 g.id, .string g.f, .string g.t, .int .i64 g.gen, .slice G g.ms.length cg, .int .i64 g.next] 26)
  have BC2 := BC1.keep ((Below.refl _ w1).alloc (Nat.le_refl _) (.cells #[.int .i64 g.id, .string g.f, .string g.t, .int .i64 g.gen, .slice G g.ms.length cg, .int .i64 g.next] 26))
  have hb2 := hb1.alloc hb1.size (.cells #[.int .i64 g.id, .string g.f, .string g.t, .int .i64 g.gen, .slice G g.ms.length cg, .int .i64 g.next] 26)
  clear p_0 p_1 p_2 p_3 p_4 p_5 p_6 p_7 p_8 p_9 p_10 p_11 p_12
  clear q_0 q_1 q_2 q_3 q_4 q_5 q_6 q_7 q_8 q_9 q_10 q_11 q_12
  have hlt := BP1.1
  have hz := hb1.size
  clear b1 c1 c2 BC BC1 hb0 hW0 ha BP BA
  obtain ⟨ng, hng⟩ : ∃ n, g.ms.length = n := ⟨_, rfl⟩
  rw [hng] at c3 BP2 BC2 hb2 ha2 ⊢
  have HNG := Lib.hid hng
  clear hng
  obtain ⟨p_0, ⟨p_1, p_2, p_3, p_4, p_5, p_6, p_7, p_8, p_9, p_10, p_11⟩, p_12⟩ := _root_.id BP1
  go_wp2_with fail
  refine c3.mono ?_
  rintro e' w2 ⟨rfl, b2⟩
  have BC3 := BC2.keep b2
  have hb3 := hb2.trans (b2.mono hb2.size)
  have ha3 := ha2.keep b2
  clear p_0 p_1 p_2 p_3 p_4 p_5 p_6 p_7 p_8 p_9 p_10 p_11 p_12
  clear b2 c3 BC2 hb2 ha2 BP2
  obtain ⟨X, hX⟩ : ∃ X, turnOc ⟨d, .slice A nm a, ps, .slice B np b, zs, .slice C nz c, fr, ea, .slice D ne e, al⟩ (g, en) (.slice G ng cg) = X := ⟨_, rfl⟩
  have hone : ∀ v ∈ (arrBoxC X).toList, v.oneCell' = true := by
    rw [← hX]
    unfold turnOc
    split <;> exact oneC _ rfl rfl rfl rfl rfl rfl rfl rfl rfl
  rw [hX]
  have HX := Lib.hid hX
  clear hX
  go_wp2_with (refine wpList_storeC (o := X) rfl rfl rfl rfl BC3 hone ?_)
  exact bodyPost_ret (res_BoxC Tryz.results131 rfl (BC3.put' X)) rfl ⟨.slice G ng cg, by rw [HX.out], argM_but ha3 (fun m hm => by simp only [List.mem_singleton] at hm; subst hm; exact argM_off ha3 BC3 zero_ints HND.out) (but_putL (l := (arrBoxC X).toList) (i := 0) (But.refl [w.heap.size + 2] w2) (by simp)), putL_below hb3 (Nat.le_add_right w.heap.size 2)⟩
end Go.Proofs.YtlcobgpgggegdaaGreatDoor.Pt

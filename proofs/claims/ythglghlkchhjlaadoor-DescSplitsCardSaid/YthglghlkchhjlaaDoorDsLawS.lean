/-
  DescSplits, walked: split and merged, descriptors are what the document says. Conditions: lengths at most 2^47; the library's variables hold what their types allow.
-/
import Derived.Test.YthglghlkchhjlaaDoorDsRSpl
import Derived.Test.YthglghlkchhjlaaDoorDsRMrg
import Derived.Test.YthglghlkchhjlaaDoorDsSmall
import Derived.Test.YthglghlkchhjlaaDoorDsHeld
import Derived.Test.YthglghlkchhjlaaDoorDsBoxE
namespace Go.Proofs.YthglghlkchhjlaaDoor.Ds
open Go.RowKit Bnd

theorem gave2_form {w w' : World} {p : De × De × Int} {e : Ending} (h : Gave2 w p e w') : ∃ A c A' c', e = .returned (.tuple #[dv p.1 (.slice A p.1.ms.length c), dv p.2.1 (.slice A' p.2.1.ms.length c'), .int .i64 p.2.2]) ∧ ArgM w' (.slice A p.1.ms.length c) p.1.ms ∧ ArgM w' (.slice A' p.2.1.ms.length c') p.2.1.ms ∧ Below w.heap.size w w' := by
  obtain ⟨s, s', h1, h2, h3, h4⟩ := h
  obtain ⟨A, c, rfl⟩ := h2.form
  obtain ⟨A', c', rfl⟩ := h3.form
  exact ⟨A, c, A', c', h1, h2, h3, h4⟩
theorem split_few (d : De) (k : ByteArray) (n : Int) (h : d.ms.length ≤ 30) : (splitD d k n).1.ms.length ≤ 1000000000 ∧ (splitD d k n).2.1.ms.length ≤ 1000000000 := by
  unfold splitD
  repeat' split
  all_goals first | (simp [De.zero]; done) | (constructor <;> (show d.ms.length ≤ _; omega))
theorem merge_few (l r : De) (h : l.ms.length ≤ 30) : (mergeD l r).1.ms.length ≤ 1000000000 := by
  have key : ∀ d : De, d.ms.length ≤ 30 → (okD d).1.ms.length ≤ 1000000000 := by
    intro d h
    rcases okD_cases d with ⟨_, e⟩ | e
    · rw [e]; show d.ms.length ≤ _; omega
    · rw [e]; simp [De.zero]
  unfold mergeD
  repeat' split
  all_goals first | (simp [De.zero]; done) | exact key _ h
def sliceV (s : Value) : Prop := ∃ A l c, s = .slice A l c
/-- region 5: both are copied, and merged, into a box that may be made ahead of it, or behind -/
structure RM (W0 : World) (d o x : De) (g : Int) (L : Nat → Bool) (u : Nat → Value) (wx : World) : Prop where
  lo : Below W0.heap.size W0 wx
  a : L 1 = true → ∃ s, u 1 = dv d s ∧ ArgM wx s d.ms
  b : L 3 = true → ∃ s, u 3 = dv o s ∧ ArgM wx s o.ms
  m : L 4 = true → ∃ s, u 4 = .tuple #[dv x s, .int .i64 g] ∧ ArgM wx s x.ms
  e : L 8 = true → ∃ n d' s', u 8 = ptr n ∧ W0.heap.size ≤ n ∧ BoxE n d' s' wx ∧ sliceV s' ∧ (L 9 = true → ∀ s, u 4 = .tuple #[dv x s, .int .i64 g] → d' = x ∧ s' = s)
theorem RM.one {W0 wx w' : World} {d o x : De} {g : Int} {L : Nat → Bool} {u : Nat → Value} (h : RM W0 d o x g L u wx) (hb : Below wx.heap.size wx w') {s : Value} (hs : ArgM w' s d.ms) : RM W0 d o x g (St.mark L 1) (St.upd u 1 (dv d s)) w' := by
  refine ⟨h.lo.trans (hb.mono h.lo.size), fun _ => ⟨s, rfl, hs⟩, fun h3 => ?_, fun h4 => ?_, fun h8 => ?_⟩
  · obtain ⟨t, e, ht⟩ := h.b h3; exact ⟨t, e, ht.keep hb⟩
  · obtain ⟨t, e, ht⟩ := h.m h4; exact ⟨t, e, ht.keep hb⟩
  · obtain ⟨n, d', s', g1, g2, g3, g4, g5⟩ := h.e h8; exact ⟨n, d', s', g1, g2, g3.keep hb, g4, g5⟩
theorem RM.three {W0 wx w' : World} {d o x : De} {g : Int} {L : Nat → Bool} {u : Nat → Value} (h : RM W0 d o x g L u wx) (hb : Below wx.heap.size wx w') {s : Value} (hs : ArgM w' s o.ms) : RM W0 d o x g (St.mark L 3) (St.upd u 3 (dv o s)) w' := by
  refine ⟨h.lo.trans (hb.mono h.lo.size), fun h1 => ?_, fun _ => ⟨s, rfl, hs⟩, fun h4 => ?_, fun h8 => ?_⟩
  · obtain ⟨t, e, ht⟩ := h.a h1; exact ⟨t, e, ht.keep hb⟩
  · obtain ⟨t, e, ht⟩ := h.m h4; exact ⟨t, e, ht.keep hb⟩
  · obtain ⟨n, d', s', g1, g2, g3, g4, g5⟩ := h.e h8; exact ⟨n, d', s', g1, g2, g3.keep hb, g4, g5⟩
theorem RM.four {W0 wx w' : World} {d o x : De} {g : Int} {L : Nat → Bool} {u : Nat → Value} (h : RM W0 d o x g L u wx) (h9 : L 9 = false) (hb : Below wx.heap.size wx w') {s : Value} (hs : ArgM w' s x.ms) : RM W0 d o x g (St.mark L 4) (St.upd u 4 (.tuple #[dv x s, .int .i64 g])) w' := by
  refine ⟨h.lo.trans (hb.mono h.lo.size), fun h1 => ?_, fun h3 => ?_, fun _ => ⟨s, rfl, hs⟩, fun h8 => ?_⟩
  · obtain ⟨t, e, ht⟩ := h.a h1; exact ⟨t, e, ht.keep hb⟩
  · obtain ⟨t, e, ht⟩ := h.b h3; exact ⟨t, e, ht.keep hb⟩
  · obtain ⟨n, d', s', g1, g2, g3, g4, g5⟩ := h.e h8
    exact ⟨n, d', s', g1, g2, g3.keep hb, g4, fun h' => by rw [show St.mark L 4 9 = L 9 from rfl, h9] at h'; cases h'⟩
theorem RM.eight {W0 wx : World} {d o x : De} {g : Int} {L : Nat → Bool} {u : Nat → Value} (h : RM W0 d o x g L u wx) (h9 : L 9 = false) : RM W0 d o x g (St.mark L 8) (St.upd u 8 (ptr wx.heap.size)) (wx.alloc (.cells #[.int .i64 0, .string ⟨#[]⟩, .string ⟨#[]⟩, .int .i64 0, .slice none 0 0, .int .i64 0] 26)) := by
  have hb : Below wx.heap.size wx (wx.alloc (.cells #[.int .i64 0, .string ⟨#[]⟩, .string ⟨#[]⟩, .int .i64 0, .slice none 0 0, .int .i64 0] 26)) := (Below.refl _ wx).alloc (Nat.le_refl _) _
  refine ⟨h.lo.alloc h.lo.size _, fun h1 => ?_, fun h3 => ?_, fun h4 => ?_, fun _ => ⟨wx.heap.size, De.zero, _, rfl, h.lo.size, BoxE.new wx De.zero (.slice none 0 0), ⟨_, _, _, rfl⟩, fun h' => ?_⟩⟩
  · obtain ⟨t, e, ht⟩ := h.a h1; exact ⟨t, e, ht.keep hb⟩
  · obtain ⟨t, e, ht⟩ := h.b h3; exact ⟨t, e, ht.keep hb⟩
  · obtain ⟨t, e, ht⟩ := h.m h4; exact ⟨t, e, ht.keep hb⟩
  · rw [show St.mark L 8 9 = L 9 from rfl, h9] at h'; cases h'
theorem tup_inj {x : De} {g : Int} {s t : Value} (h : Value.tuple #[dv x s, .int .i64 g] = .tuple #[dv x t, .int .i64 g]) : s = t := by
  injection h with h
  have h := congrArg (fun a => a[0]?) h
  simp only [List.getElem?_toArray, List.getElem?_cons_zero] at h
  exact dv_inj (Option.some.inj h)
theorem RM.nine {W0 wx : World} {d o x : De} {g : Int} {L : Nat → Bool} {u : Nat → Value} (h : RM W0 d o x g L u wx) (h8 : L 8 = true) {n : Nat} (hn : u 8 = ptr n) {s : Value} (hs : u 4 = .tuple #[dv x s, .int .i64 g]) (hv : sliceV s) : RM W0 d o x g (St.mark L 9) (St.upd u 9 undef) (putW wx n x s) := by
  obtain ⟨n', d', s', g1, g2, g3, g4, _⟩ := h.e h8
  obtain rfl := ptr_inj (hn.symm.trans g1)
  refine ⟨putW_below h.lo g2, fun h1 => ?_, fun h3 => ?_, fun h4 => ?_, fun _ => ⟨n, x, s, hn, g2, BoxE.put g3 x s, hv, fun _ t ht => ⟨rfl, tup_inj (hs.symm.trans ht)⟩⟩⟩
  · obtain ⟨t, e, ht⟩ := h.a h1; exact ⟨t, e, BoxE.put_arg g3 g4 ht⟩
  · obtain ⟨t, e, ht⟩ := h.b h3; exact ⟨t, e, BoxE.put_arg g3 g4 ht⟩
  · obtain ⟨t, e, ht⟩ := h.m h4; exact ⟨t, e, BoxE.put_arg g3 g4 ht⟩
def RMC (d o x : De) (g : Int) (k : Nat) (z : Value) : Prop :=
  (k = 1 → ∃ A c, z = dv d (.slice A d.ms.length c)) ∧ (k = 3 → ∃ A c, z = dv o (.slice A o.ms.length c)) ∧ (k = 4 → ∃ A c, z = .tuple #[dv x (.slice A x.ms.length c), .int .i64 g])

set_option maxHeartbeats 16000000 in
set_option maxRecDepth 100000 in
theorem walk_splits (d o : De) (sd so : Value) (k : ByteArray) (n : Int) (w : World) (hd : ArgM w sd d.ms) (ho : ArgM w so o.ms) (ld : Lim d) (lo : Lim o) (hk : k.size ≤ 140737488355328) (hg : Good w) :
    Calls Tryd.prog 4 #[dv d sd, .string k, .int .i64 n, dv o so] w fun e w' => e = .returned (.bool true) ∧ Below w.heap.size w w' := by
  obtain ⟨A, ka, rfl⟩ := hd.form
  obtain ⟨D, kb, rfl⟩ := ho.form
  have kd : ∀ wx, Below w.heap.size w wx → ArgM wx (.slice A d.ms.length ka) d.ms := fun wx h => hd.keep h
  have ko : ∀ wx, Below w.heap.size w wx → ArgM wx (.slice D o.ms.length kb) o.ms := fun wx h => ho.keep h
  have cs := fun w h => small_any d (.slice A d.ms.length ka) w h ld
  have ct := fun w h => small_any o (.slice D o.ms.length kb) w h lo
  obtain ⟨W0, hW0⟩ : ∃ W0, (w.alloc (.cells #[.int .i64 d.id, .string d.f, .string d.t, .int .i64 d.gen, (.slice A d.ms.length ka), .int .i64 d.next] 26)).alloc (.cells #[.int .i64 o.id, .string o.f, .string o.t, .int .i64 o.gen, (.slice D o.ms.length kb), .int .i64 o.next] 26) = W0 := ⟨_, rfl⟩
  have A0 : BoxD w.heap.size d (.slice A d.ms.length ka) W0 := hW0 ▸ (BoxD.new w d (.slice A d.ms.length ka)).alloc _
  have B0 : BoxD (w.heap.size + 1) o (.slice D o.ms.length kb) W0 := by
    have := BoxD.new (w.alloc (.cells #[.int .i64 d.id, .string d.f, .string d.t, .int .i64 d.gen, (.slice A d.ms.length ka), .int .i64 d.next] 26)) o (.slice D o.ms.length kb)
    rw [hW0, World.size_alloc] at this
    exact this
  have hb0 : Below w.heap.size w W0 := by rw [← hW0]; exact ((Below.refl _ w).alloc (Nat.le_refl _) _).alloc (by simp) _
  have hz0 := hb0.size
  clear hd ho
  cases hsa : smallD d with
  | false =>
    rw [hsa] at cs
    clear hsa ct
    obtain ⟨p_0, ⟨p_1, p_2, p_3, p_4, p_5, p_6⟩, p_7⟩ := _root_.id A0
    obtain ⟨q_0, ⟨q_1, q_2, q_3, q_4, q_5, q_6⟩, q_7⟩ := _root_.id B0
    go_enter Tryd.func4, Tryd.ntmps4
    go_wp2_with fail
    refine (cs _ (kd _ hb0)).mono ?_
    rintro e w1 ⟨rfl, b1⟩
    have hb1 := hb0.trans (b1.mono hz0)
    clear hW0 b1
    go_wp2_with fail
    refine (live_any _ (hg.below hb1)).mono ?_
    rintro e w9 ⟨rfl, b9⟩
    go_wp2_with fail
    go_ret
    exact ⟨rfl, (hb1).trans (b9.mono (hb1).size)⟩
  | true =>
    have hsm := small_iff.1 hsa
    have fd : Fit d := ld.fit hsa
    rw [hsa] at cs
    clear hsa
    cases hsb : smallD o with
    | false =>
      rw [hsb] at ct
      clear hsb
      obtain ⟨p_0, ⟨p_1, p_2, p_3, p_4, p_5, p_6⟩, p_7⟩ := _root_.id A0
      obtain ⟨q_0, ⟨q_1, q_2, q_3, q_4, q_5, q_6⟩, q_7⟩ := _root_.id B0
      go_enter Tryd.func4, Tryd.ntmps4
      go_wp2_with fail
      refine (cs _ (kd _ hb0)).mono ?_
      rintro e w1 ⟨rfl, b1⟩
      have B1 := B0.keep b1
      have hb1 := hb0.trans (b1.mono hz0)
      have hz1 := hb1.size
      clear hW0 b1
      clear p_0 p_1 p_2 p_3 p_4 p_5 p_6 p_7
      clear q_0 q_1 q_2 q_3 q_4 q_5 q_6 q_7
      obtain ⟨p_0, ⟨p_1, p_2, p_3, p_4, p_5, p_6⟩, p_7⟩ := _root_.id B1
      go_wp2_with fail
      refine (ct _ (ko _ hb1)).mono ?_
      rintro e w2 ⟨rfl, b2⟩
      have hb2 := hb1.trans (b2.mono hz1)
      clear b2
      go_wp2_with fail
      refine (live_any _ (hg.below hb2)).mono ?_
      rintro e w9 ⟨rfl, b9⟩
      go_wp2_with fail
      go_ret
      exact ⟨rfl, (hb2).trans (b9.mono (hb2).size)⟩
    | true =>
      have hsn := small_iff.1 hsb
      have fo : Fit o := lo.fit hsb
      rw [hsb] at ct
      clear hsb
      by_cases hlong : 2000 < k.size
      · have e1 : ((k.size : Int) > 2000) = True := eq_true (by omega)
        clear hlong
        obtain ⟨p_0, ⟨p_1, p_2, p_3, p_4, p_5, p_6⟩, p_7⟩ := _root_.id A0
        obtain ⟨q_0, ⟨q_1, q_2, q_3, q_4, q_5, q_6⟩, q_7⟩ := _root_.id B0
        go_enter Tryd.func4, Tryd.ntmps4
        go_wp2_with fail
        refine (cs _ (kd _ hb0)).mono ?_
        rintro e w1 ⟨rfl, b1⟩
        have A1 := A0.keep b1
        have B1 := B0.keep b1
        have hb1 := hb0.trans (b1.mono hz0)
        have hz1 := hb1.size
        clear hW0 b1
        clear p_0 p_1 p_2 p_3 p_4 p_5 p_6 p_7
        clear q_0 q_1 q_2 q_3 q_4 q_5 q_6 q_7
        obtain ⟨p_0, ⟨p_1, p_2, p_3, p_4, p_5, p_6⟩, p_7⟩ := _root_.id B1
        go_wp2_with fail
        refine (ct _ (ko _ hb1)).mono ?_
        rintro e w2 ⟨rfl, b2⟩
        have A2 := A1.keep b2
        have B2 := B1.keep b2
        have hb2 := hb1.trans (b2.mono hz1)
        have hz2 := hb2.size
        clear b2 A1 B1
        clear p_0 p_1 p_2 p_3 p_4 p_5 p_6 p_7
        clear A2 B2
        go_wp2_with fail
        refine (live_any _ (hg.below hb2)).mono ?_
        rintro e w9 ⟨rfl, b9⟩
        go_wp2_with fail
        go_ret
        exact ⟨rfl, (hb2).trans (b9.mono (hb2).size)⟩
      have e1 : ((k.size : Int) > 2000) = False := eq_false (by omega)
      clear hlong
      have hdn : d.ms.length ≤ 1000 := by omega
      have hon : o.ms.length ≤ 1000 := by omega
      obtain ⟨l1, l2⟩ := split_few d k n hsm.1
      have l3 := merge_few d o hsm.1
      obtain ⟨p1, hp1⟩ : ∃ p, splitD d k n = p := ⟨_, rfl⟩
      obtain ⟨p2, hp2⟩ : ∃ p, mergeD d o = p := ⟨_, rfl⟩
      rw [hp1] at l1 l2
      rw [hp2] at l3
      have co : ∀ w, ArgM w (.slice A d.ms.length ka) d.ms → Calls Tryd.prog 25 #[dv d (.slice A d.ms.length ka)] w fun e w' => ∃ A' c', e = .returned (dv d (.slice A' d.ms.length c')) ∧ ArgM w' (.slice A' d.ms.length c') d.ms ∧ Below w.heap.size w w' := by
        intro w h
        refine (own_any d (.slice A d.ms.length ka) w h hdn).mono ?_
        rintro e w' ⟨s', h1, h2, h3⟩
        obtain ⟨A', c', rfl⟩ := h2.form
        exact ⟨A', c', h1, h2, h3⟩
      have cq : ∀ w, ArgM w (.slice D o.ms.length kb) o.ms → Calls Tryd.prog 25 #[dv o (.slice D o.ms.length kb)] w fun e w' => ∃ A' c', e = .returned (dv o (.slice A' o.ms.length c')) ∧ ArgM w' (.slice A' o.ms.length c') o.ms ∧ Below w.heap.size w w' := by
        intro w h
        refine (own_any o (.slice D o.ms.length kb) w h hon).mono ?_
        rintro e w' ⟨s', h1, h2, h3⟩
        obtain ⟨A', c', rfl⟩ := h2.form
        exact ⟨A', c', h1, h2, h3⟩
      have c1 : ∀ s w, ArgM w s d.ms → Calls Tryd.prog 24 #[dv d s, .string k, .int .i64 n] w fun e w' => ∃ A c A' c', e = .returned (.tuple #[dv p1.1 (.slice A p1.1.ms.length c), dv p1.2.1 (.slice A' p1.2.1.ms.length c'), .int .i64 p1.2.2]) ∧ ArgM w' (.slice A p1.1.ms.length c) p1.1.ms ∧ ArgM w' (.slice A' p1.2.1.ms.length c') p1.2.1.ms ∧ Below w.heap.size w w' := by
        intro s w h
        rw [← hp1]
        exact (split_any d s k n w h fd hk).mono fun e w' hh => gave2_form hh
      have c2 : ∀ w, ArgM w (.slice A d.ms.length ka) d.ms → Calls Tryd.prog 26 #[dv d (.slice A d.ms.length ka), .string k, .int .i64 n] w fun e w' => ∃ A c A' c', e = .returned (.tuple #[dv p1.1 (.slice A p1.1.ms.length c), dv p1.2.1 (.slice A' p1.2.1.ms.length c'), .int .i64 p1.2.2]) ∧ ArgM w' (.slice A p1.1.ms.length c) p1.1.ms ∧ ArgM w' (.slice A' p1.2.1.ms.length c') p1.2.1.ms ∧ Below w.heap.size w w' := by
        intro w h
        rw [← hp1]
        exact (rsplit_any d (.slice A d.ms.length ka) k n w h fd hk).mono fun e w' hh => gave2_form hh
      have c3 : ∀ s s' w, ArgM w s d.ms → ArgM w s' o.ms → Calls Tryd.prog 27 #[dv d s, dv o s'] w fun e w' => ∃ A c, e = .returned (.tuple #[dv p2.1 (.slice A p2.1.ms.length c), .int .i64 p2.2]) ∧ ArgM w' (.slice A p2.1.ms.length c) p2.1.ms ∧ Below w.heap.size w w' := by
        intro s s' w h h'
        rw [← hp2]
        exact (merge_any d o s s' w h h' fd fo).mono fun e w' hh => gave_form hh
      have c4 : ∀ w, ArgM w (.slice A d.ms.length ka) d.ms → ArgM w (.slice D o.ms.length kb) o.ms → Calls Tryd.prog 28 #[dv d (.slice A d.ms.length ka), dv o (.slice D o.ms.length kb)] w fun e w' => ∃ A c, e = .returned (.tuple #[dv p2.1 (.slice A p2.1.ms.length c), .int .i64 p2.2]) ∧ ArgM w' (.slice A p2.1.ms.length c) p2.1.ms ∧ Below w.heap.size w w' := by
        intro w h h'
        rw [← hp2]
        exact (rmerge_any d o _ _ w h h' fd fo).mono fun e w' hh => gave_form hh
      obtain ⟨x1, x2, g1⟩ := p1
      obtain ⟨x3, g2⟩ := p2
      simp only at c1 c2 c3 c4 l1 l2 l3
      have s1 : ∀ s s' w, ArgM w s x1.ms → ArgM w s' x1.ms → Calls Tryd.prog 20 #[dv x1 s, dv x1 s'] w fun e w' => e = .returned (.bool true) ∧ Below w.heap.size w w' := by
        intro s s' w h h'
        have := rsame_any x1 x1 s s' w h.sm h'.sm l1 l1
        rw [sameD_self] at this
        exact this
      have s2 : ∀ s s' w, ArgM w s x2.ms → ArgM w s' x2.ms → Calls Tryd.prog 20 #[dv x2 s, dv x2 s'] w fun e w' => e = .returned (.bool true) ∧ Below w.heap.size w w' := by
        intro s s' w h h'
        have := rsame_any x2 x2 s s' w h.sm h'.sm l2 l2
        rw [sameD_self] at this
        exact this
      have s3 : ∀ s s' w, ArgM w s x3.ms → ArgM w s' x3.ms → Calls Tryd.prog 20 #[dv x3 s, dv x3 s'] w fun e w' => e = .returned (.bool true) ∧ Below w.heap.size w w' := by
        intro s s' w h h'
        have := rsame_any x3 x3 s s' w h.sm h'.sm l3 l3
        rw [sameD_self] at this
        exact this
      clear hp1 hp2 l1 l2 l3 fd fo hsm hsn ld lo hdn hon
      obtain ⟨p_0, ⟨p_1, p_2, p_3, p_4, p_5, p_6⟩, p_7⟩ := _root_.id A0
      obtain ⟨q_0, ⟨q_1, q_2, q_3, q_4, q_5, q_6⟩, q_7⟩ := _root_.id B0
      go_enter Tryd.func4, Tryd.ntmps4
      go_wp2_with fail
      refine (cs _ (kd _ hb0)).mono ?_
      rintro e w1 ⟨rfl, b1⟩
      have A1 := A0.keep b1
      have B1 := B0.keep b1
      have hb1 := hb0.trans (b1.mono hz0)
      have hz1 := hb1.size
      clear hW0 b1
      clear p_0 p_1 p_2 p_3 p_4 p_5 p_6 p_7
      clear q_0 q_1 q_2 q_3 q_4 q_5 q_6 q_7
      obtain ⟨p_0, ⟨p_1, p_2, p_3, p_4, p_5, p_6⟩, p_7⟩ := _root_.id B1
      go_wp2_with fail
      refine (ct _ (ko _ hb1)).mono ?_
      rintro e w2 ⟨rfl, b2⟩
      have A2 := A1.keep b2
      have B2 := B1.keep b2
      have hb2 := hb1.trans (b2.mono hz1)
      have hz2 := hb2.size
      clear b2 A1 B1
      clear p_0 p_1 p_2 p_3 p_4 p_5 p_6 p_7
      obtain ⟨p_0, ⟨p_1, p_2, p_3, p_4, p_5, p_6⟩, p_7⟩ := _root_.id A2
      go_wp2_with fail
      refine (co _ (kd _ hb2)).mono ?_
      rintro e w3 ⟨A3, q3, rfl, a3, b3⟩
      have A3' := A2.keep b3
      have B3 := B2.keep b3
      have hb3 := hb2.trans (b3.mono hz2)
      have hz3 := hb3.size
      clear p_0 p_1 p_2 p_3 p_4 p_5 p_6 p_7
      clear b3 A2 B2
      go_wp2_with fail
      refine (c1 _ _ a3).mono ?_
      rintro e w4 ⟨A4, q4, A5, q5, rfl, a4, a5, b4⟩
      obtain ⟨W4, hW4⟩ : ∃ W, ((w4.alloc (.cells #[.int .i64 x1.id, .string x1.f, .string x1.t, .int .i64 x1.gen, (.slice A4 x1.ms.length q4), .int .i64 x1.next] 26)).alloc (.cells #[.int .i64 x2.id, .string x2.f, .string x2.t, .int .i64 x2.gen, (.slice A5 x2.ms.length q5), .int .i64 x2.next] 26)) = W := ⟨_, rfl⟩
      have r4 : Below w3.heap.size w3 W4 := hW4 ▸ (b4.alloc b4.size _).alloc (by have := b4.size; simp; omega) _
      have A6 := A3'.keep r4
      have B6 := B3.keep r4
      have P6 : Held w4.heap.size x1 (.slice A4 x1.ms.length q4) W4 := hW4 ▸ (Held.new w4 x1 _ a4).keep ((Below.refl _ _).alloc (Nat.le_refl _) _)
      have Q6 : Held (w4.heap.size + 1) x2 (.slice A5 x2.ms.length q5) W4 := by
        have := Held.new (w4.alloc (.cells #[.int .i64 x1.id, .string x1.f, .string x1.t, .int .i64 x1.gen, (.slice A4 x1.ms.length q4), .int .i64 x1.next] 26)) x2 (.slice A5 x2.ms.length q5) (a5.keep ((Below.refl _ _).alloc (Nat.le_refl _) _))
        rw [hW4, World.size_alloc] at this
        exact this
      have hb4 := hb3.trans (r4.mono hz3)
      have hz4 := hb4.size
      clear b4 r4 a3 a4 a5 A3' B3
      obtain ⟨p_0, ⟨p_1, p_2, p_3, p_4, p_5, p_6⟩, p_7⟩ := _root_.id A6
      go_wp2_with fail
      try rw [hW4]
      refine (c2 _ (kd _ hb4)).mono ?_
      rintro e w7 ⟨A7, q7, A8, q8, rfl, a7, a8, b7⟩
      obtain ⟨W7, hW7⟩ : ∃ W, ((w7.alloc (.cells #[.int .i64 x1.id, .string x1.f, .string x1.t, .int .i64 x1.gen, (.slice A7 x1.ms.length q7), .int .i64 x1.next] 26)).alloc (.cells #[.int .i64 x2.id, .string x2.f, .string x2.t, .int .i64 x2.gen, (.slice A8 x2.ms.length q8), .int .i64 x2.next] 26)) = W := ⟨_, rfl⟩
      have r7 : Below W4.heap.size W4 W7 := hW7 ▸ (b7.alloc b7.size _).alloc (by have := b7.size; simp; omega) _
      have A9 := A6.keep r7
      have B9 := B6.keep r7
      have P9 := P6.keep r7
      have Q9 := Q6.keep r7
      have R9 : Held w7.heap.size x1 (.slice A7 x1.ms.length q7) W7 := hW7 ▸ (Held.new w7 x1 _ a7).keep ((Below.refl _ _).alloc (Nat.le_refl _) _)
      have T9 : Held (w7.heap.size + 1) x2 (.slice A8 x2.ms.length q8) W7 := by
        have := Held.new (w7.alloc (.cells #[.int .i64 x1.id, .string x1.f, .string x1.t, .int .i64 x1.gen, (.slice A7 x1.ms.length q7), .int .i64 x1.next] 26)) x2 (.slice A8 x2.ms.length q8) (a8.keep ((Below.refl _ _).alloc (Nat.le_refl _) _))
        rw [hW7, World.size_alloc] at this
        exact this
      have hb7 := hb4.trans (r7.mono hz4)
      have hz7 := hb7.size
      clear p_0 p_1 p_2 p_3 p_4 p_5 p_6 p_7
      clear b7 r7 a7 a8 A6 B6 P6 Q6 hW4
      have kd7 : ∀ wx, Below W7.heap.size W7 wx → ArgM wx (.slice A d.ms.length ka) d.ms := fun wx h => kd wx (hb7.trans (h.mono hz7))
      have ko7 : ∀ wx, Below W7.heap.size W7 wx → ArgM wx (.slice D o.ms.length kb) o.ms := fun wx h => ko wx (hb7.trans (h.mono hz7))
      have hA : ∀ wx, Below W7.heap.size W7 wx → BoxD w.heap.size d (.slice A d.ms.length ka) wx := fun wx h => A9.keep h
      have hB : ∀ wx, Below W7.heap.size W7 wx → BoxD (w.heap.size + 1) o (.slice D o.ms.length kb) wx := fun wx h => B9.keep h
      clear A9 B9
      go_wp2_with fail
      try rw [hW7]
      refine St.wp_region_mixed (RM W7 d o x3 g2) (RMC d o x3 g2) (by kernel_rfl) (by kernel_rfl) (by kernel_rfl) ⟨(Below.refl _ _).drew, fun h => (by cases h), fun h => (by cases h), fun h => (by cases h), fun h => (by cases h)⟩ ?_
      apply St.mix_give
      · rfl
      · intro L u' wx hS hcl hrd hag
        obtain ⟨j0, ⟨j1, j2, j3, j4, j5, j6⟩, j7⟩ := hA wx hS.lo
        go_simp
        try with_reducible rfl
      · exact fun L u' wx hS => ⟨hS.lo, hS.a, hS.b, hS.m, hS.e⟩
      simp only [Act.put, List.setIfInBounds_toArray, List.set_cons_zero, List.set_cons_succ]
      refine St.mix_call (f := 25) (args := #[dv d (.slice A d.ms.length ka)]) rfl ?_ ?_ ?_
      · intro wx
        go_simp
        try with_reducible rfl
      · intro L u' wx hS hcl hrd hag
        refine (co wx (kd7 wx hS.lo)).mono ?_
        rintro e w' ⟨A1, q1, rfl, a1, b1⟩
        exact ⟨_, rfl, ⟨fun _ => ⟨_, _, rfl⟩, fun h => (by cases h), fun h => (by cases h)⟩, hS.one b1 a1⟩
      rintro z1 ⟨hz1', _, _⟩
      obtain ⟨A1, q1, rfl⟩ := hz1' rfl
      simp only [Act.put, List.setIfInBounds_toArray, List.set_cons_zero, List.set_cons_succ]
      apply St.mix_give
      · rfl
      · intro L u' wx hS hcl hrd hag
        obtain ⟨j0, ⟨j1, j2, j3, j4, j5, j6⟩, j7⟩ := hB wx hS.lo
        go_simp
        try with_reducible rfl
      · exact fun L u' wx hS => ⟨hS.lo, hS.a, hS.b, hS.m, hS.e⟩
      simp only [Act.put, List.setIfInBounds_toArray, List.set_cons_zero, List.set_cons_succ]
      refine St.mix_call (f := 25) (args := #[dv o (.slice D o.ms.length kb)]) rfl ?_ ?_ ?_
      · intro wx
        go_simp
        try with_reducible rfl
      · intro L u' wx hS hcl hrd hag
        refine (cq wx (ko7 wx hS.lo)).mono ?_
        rintro e w' ⟨A2, q2, rfl, a2, b2⟩
        exact ⟨_, rfl, ⟨fun h => (by cases h), fun _ => ⟨_, _, rfl⟩, fun h => (by cases h)⟩, hS.three b2 a2⟩
      rintro z3 ⟨_, hz3', _⟩
      obtain ⟨A2, q2, rfl⟩ := hz3' rfl
      simp only [Act.put, List.setIfInBounds_toArray, List.set_cons_zero, List.set_cons_succ]
      refine St.mix_call (f := 27) (args := #[dv d (.slice A1 d.ms.length q1), dv o (.slice A2 o.ms.length q2)]) rfl ?_ ?_ ?_
      · intro wx
        go_simp
        try with_reducible rfl
      · intro L u' wx hS hcl hrd hag
        have h9 := St.not_yet hcl hrd 40 9 (by kernel_rfl)
        have hu1 : u' 1 = dv d (.slice A1 d.ms.length q1) := hag 40 1 (by kernel_rfl)
        have hu3 : u' 3 = dv o (.slice A2 o.ms.length q2) := hag 40 3 (by kernel_rfl)
        obtain ⟨t1, e1, a1⟩ := hS.a (St.before_ready hcl hrd 40 1 (by kernel_rfl))
        obtain rfl := dv_inj (hu1.symm.trans e1)
        obtain ⟨t3, e3, a3⟩ := hS.b (St.before_ready hcl hrd 40 3 (by kernel_rfl))
        obtain rfl := dv_inj (hu3.symm.trans e3)
        refine (c3 _ _ wx a1 a3).mono ?_
        rintro e w' ⟨A2, q2, rfl, a2, b2⟩
        exact ⟨_, rfl, ⟨fun h => (by cases h), fun h => (by cases h), fun _ => ⟨_, _, rfl⟩⟩, hS.four h9 b2 a2⟩
      rintro z4 ⟨_, _, hz4'⟩
      obtain ⟨A10, q10, rfl⟩ := hz4' rfl
      simp only [Act.put, List.setIfInBounds_toArray, List.set_cons_zero, List.set_cons_succ]
      apply St.mix_give
      · rfl
      · intro L u' wx hS hcl hrd hag
        go_simp
        try with_reducible rfl
      · exact fun L u' wx hS => ⟨hS.lo, hS.a, hS.b, hS.m, hS.e⟩
      simp only [Act.put, List.setIfInBounds_toArray, List.set_cons_zero, List.set_cons_succ]
      apply St.mix_give
      · rfl
      · intro L u' wx hS hcl hrd hag
        go_simp
        try with_reducible rfl
      · exact fun L u' wx hS => ⟨hS.lo, hS.a, hS.b, hS.m, hS.e⟩
      simp only [Act.put, List.setIfInBounds_toArray, List.set_cons_zero, List.set_cons_succ]
      apply St.mix_give
      · rfl
      · intro L u' wx hS hcl hrd hag
        go_simp
        try with_reducible rfl
      · exact fun L u' wx hS => ⟨hS.lo, hS.a, hS.b, hS.m, hS.e⟩
      simp only [Act.put, List.setIfInBounds_toArray, List.set_cons_zero, List.set_cons_succ]
      refine St.mix_free (fun x => ∃ n, x = ptr n) rfl ?_ ?_
      · intro L u' wx hS hcl hrd hag
        refine ⟨_, _, ⟨wx.heap.size, rfl⟩, ?_, hS.eight (St.not_yet hcl hrd 40 9 (by kernel_rfl))⟩
        go_simp
        try with_reducible rfl
      rintro y ⟨n10, rfl⟩
      simp only [Act.put, List.setIfInBounds_toArray, List.set_cons_zero, List.set_cons_succ]
      refine St.mix_skip rfl ?_ ?_
      · intro L u' wx hS hcl hrd hag
        have hu : u' 8 = ptr n10 := hag 40 8 (by kernel_rfl)
        have hu4 : u' 4 = .tuple #[dv x3 (.slice A10 x3.ms.length q10), .int .i64 g2] := hag 40 4 (by kernel_rfl)
        have h8 := St.before_ready hcl hrd 40 8 (by kernel_rfl)
        obtain ⟨n', d', s', e8, hN, hE, _⟩ := hS.e h8
        obtain rfl := ptr_inj (e8.symm.trans hu)
        obtain ⟨j0, ⟨j1, j2, j3, j4, j5, j6⟩, j7⟩ := hE.1
        refine ⟨_, ?_, hS.nine h8 hu hu4 ⟨_, _, _, rfl⟩⟩
        unfold putW
        go_simp
        try with_reducible rfl
      simp only [Act.put]
      apply St.mix_give
      · rfl
      · intro L u' wx hS hcl hrd hag
        go_simp
        try with_reducible rfl
      · exact fun L u' wx hS => ⟨hS.lo, hS.a, hS.b, hS.m, hS.e⟩
      simp only [Act.put, List.setIfInBounds_toArray, List.set_cons_zero, List.set_cons_succ]
      refine St.mix_last ?_
      intro L5 w10 hS hall
      obtain ⟨t4, e4, a10⟩ := hS.m (hall 4 (by decide))
      obtain rfl : .slice A10 x3.ms.length q10 = t4 := tup_inj (show Value.tuple #[dv x3 (.slice A10 x3.ms.length q10), .int .i64 g2] = .tuple #[dv x3 t4, .int .i64 g2] from e4)
      obtain ⟨n', d', s', e8, hN10, hE, _, hx⟩ := hS.e (hall 8 (by decide))
      obtain rfl : n10 = n' := ptr_inj (show ptr n10 = ptr n' from e8)
      obtain ⟨rfl, rfl⟩ := hx (hall 9 (by decide)) _ e4
      have U10 : Held n10 d' (.slice A10 d'.ms.length q10) w10 := ⟨hE.1, a10⟩
      have hlo := hS.lo
      have P10 := P9.keep hlo
      have Q10 := Q9.keep hlo
      have R10 := R9.keep hlo
      have T10 := T9.keep hlo
      have A10' := hA _ hlo
      have B10' := hB _ hlo
      have hb10 := hb7.trans (hlo.mono hz7)
      have hz10 := hb10.size
      clear hS hall e4 e8 hE hx a10 P9 Q9 R9 T9 hA hB kd7 ko7 hlo
      obtain ⟨p_0, ⟨p_1, p_2, p_3, p_4, p_5, p_6⟩, p_7⟩ := _root_.id A10'
      obtain ⟨q_0, ⟨q_1, q_2, q_3, q_4, q_5, q_6⟩, q_7⟩ := _root_.id B10'
      go_wp2_with fail
      refine (c4 _ (kd _ hb10) (ko _ hb10)).mono ?_
      rintro e w11 ⟨A11, q11, rfl, a11, b11⟩
      obtain ⟨W11, hW11⟩ : ∃ W, w11.alloc (.cells #[.int .i64 d'.id, .string d'.f, .string d'.t, .int .i64 d'.gen, (.slice A11 d'.ms.length q11), .int .i64 d'.next] 26) = W := ⟨_, rfl⟩
      have r11 : Below w10.heap.size w10 W11 := hW11 ▸ b11.alloc b11.size _
      have P11 := P10.keep r11
      have Q11 := Q10.keep r11
      have R11 := R10.keep r11
      have T11 := T10.keep r11
      have U11 := U10.keep r11
      have V11 : Held w11.heap.size d' (.slice A11 d'.ms.length q11) W11 := hW11 ▸ Held.new w11 d' _ a11
      have hb11 := hb10.trans (r11.mono hz10)
      have hz11 := hb11.size
      clear p_0 p_1 p_2 p_3 p_4 p_5 p_6 p_7
      clear q_0 q_1 q_2 q_3 q_4 q_5 q_6 q_7
      clear b11 r11 a11 P10 Q10 R10 T10 U10 A10' B10'
      obtain ⟨⟨t1, ⟨u1, u2, u3, u4, u5, u6⟩, _⟩, ta1⟩ := id P11
      obtain ⟨⟨t2, ⟨v1, v2, v3, v4, v5, v6⟩, _⟩, ta2⟩ := id R11
      go_wp2_with fail
      try rw [hW11]
      refine (s1 _ _ _ ta1 ta2).mono ?_
      rintro e w12 ⟨rfl, b12⟩
      have Q12 := Q11.keep b12
      have T12 := T11.keep b12
      have U12 := U11.keep b12
      have V12 := V11.keep b12
      have hb12 := hb11.trans (b12.mono hz11)
      have hz12 := hb12.size
      clear b12 P11 Q11 R11 T11 U11 V11 t1 u1 u2 u3 u4 u5 u6 ta1 t2 v1 v2 v3 v4 v5 v6 ta2 hW11
      obtain ⟨⟨t1, ⟨u1, u2, u3, u4, u5, u6⟩, _⟩, ta1⟩ := id Q12
      obtain ⟨⟨t2, ⟨v1, v2, v3, v4, v5, v6⟩, _⟩, ta2⟩ := id T12
      go_wp2_with fail
      refine (s2 _ _ _ ta1 ta2).mono ?_
      rintro e w13 ⟨rfl, b13⟩
      have U13 := U12.keep b13
      have V13 := V12.keep b13
      have hb13 := hb12.trans (b13.mono hz12)
      have hz13 := hb13.size
      clear b13 Q12 T12 U12 V12 t1 u1 u2 u3 u4 u5 u6 ta1 t2 v1 v2 v3 v4 v5 v6 ta2
      go_wp2_with fail
      refine (num_any _ _).mono ?_
      rintro e w' ⟨rfl, rfl⟩
      obtain ⟨⟨t1, ⟨u1, u2, u3, u4, u5, u6⟩, _⟩, ta1⟩ := id U13
      obtain ⟨⟨t2, ⟨v1, v2, v3, v4, v5, v6⟩, _⟩, ta2⟩ := id V13
      go_wp2_with fail
      refine (s3 _ _ _ ta1 ta2).mono ?_
      rintro e w14 ⟨rfl, b14⟩
      have hb14 := hb13.trans (b14.mono hz13)
      clear b14 U13 V13 t1 u1 u2 u3 u4 u5 u6 ta1 t2 v1 v2 v3 v4 v5 v6 ta2
      go_wp2_with fail
      refine (num_any _ _).mono ?_
      rintro e w' ⟨rfl, rfl⟩
      go_wp2_with fail
      refine (live_any _ (hg.below hb14)).mono ?_
      rintro e w9 ⟨rfl, b9⟩
      go_wp2_with fail
      go_ret
      exact ⟨rfl, (hb14).trans (b9.mono (hb14).size)⟩
end Go.Proofs.YthglghlkchhjlaaDoor.Ds

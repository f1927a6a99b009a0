
/-
  own, the program's: a plot with lists of its own. Conditions: sessions without pairs, at most 1,000 members, 100,000 of each other list.
  Two boxes of plots, made in either order, written in part, read, and written anew: what Cut needs, the program's and the document's. No condition.
-/
import Derived.Test.YtoomkdofoceiaaaGreatDoorDpIPA
import Derived.Test.YtoomkdofoceiaaaGreatDoorDpTPA
import Derived.Test.YtoomkdofoceiaaaGreatDoorRegA
import Derived.Test.YtoomkdofoceiaaaGreatDoorDsASA
namespace Go.Proofs.YtoomkdofoceiaaaGreatDoor.Dp
open Go.RowKit Bnd
open Go.Proofs.YtoomkdofoceiaaaGreatDoor.Ds (De SM OwnI OwnM ArgM)
open Go.Proofs.YtoomkdofoceiaaaGreatDoor.Ss (Ses Zs ses SZ PZ NoP OwnZ ArgZ BoxS zcells zcells_get zcells_length)
open Go.Proofs.YtoomkdofoceiaaaGreatDoor.Od (Pr SP OwnP ArgP)
structure OwnO (w : World) (base : Nat) (o : Ph) : Prop where
  sm : OwnM w base o.sm o.d.ms
  sp : OwnP w base o.sp o.ps
  sz : OwnZ w base o.sz o.zs
  se : OwnI w base o.se o.ea
theorem OwnO.ha {w : World} {base : Nat} {o : Ph} (h : OwnO w base o) (hp : NoP o.zs) : HA w o := ⟨.of_own h.sm, .of_own h.sp, .of_own h.sz, hp, .of_own h.se, .own h.sp, .own h.se⟩
theorem ownsRow_low {w w' : World} {base N : Nat} {e : TypeId} {size : Nat} {v : Value} {n : Nat} {xs : List Value} (h : w.ownsRow base e size v n xs) (hlt : ∀ g, v.ownBlock = some g → g < N) (hb : Below N w w') : w'.ownsRow base e size v n xs := by
  refine ⟨h.1, ?_⟩
  rcases h.2 with hn | ⟨g, cap, cur, e1, hbg, hg, rest⟩
  · exact .inl hn
  · refine .inr ⟨g, cap, cur, e1, hbg, ?_, rest⟩
    rw [hb.block g (hlt g (by rw [e1]; rfl))]
    exact hg
theorem ownsRow_base {w : World} {base base' : Nat} {e : TypeId} {size : Nat} {v : Value} {n : Nat} {xs : List Value} (h : w.ownsRow base e size v n xs) (hb : base' ≤ base) : w.ownsRow base' e size v n xs := by
  refine ⟨h.1, ?_⟩
  rcases h.2 with hn | ⟨g, cap, cur, e1, hbg, rest⟩
  · exact .inl hn
  · exact .inr ⟨g, cap, cur, e1, Nat.le_trans hb hbg, rest⟩
theorem ownsRow_below {w w' : World} {base : Nat} {e : TypeId} {size : Nat} {v : Value} {n : Nat} {xs : List Value} (h : w.ownsRow base e size v n xs) (hb : Below w.heap.size w w') : w'.ownsRow base e size v n xs :=
  ownsRow_low h (fun g hg => (h.lt g hg).2) hb
theorem ownZ_at {w : World} {base g n c k : Nat} {zs : List Zs} (h : OwnZ w base (.slice (some ⟨g, 0, none⟩) n c) zs) (hk : k < zs.length) : Ss.Cs w g (k * 7) zs[k] := by
  obtain ⟨g0, g1, g2, g3, g4, g5, g6⟩ := zcells_get zs k hk
  have e0 := h.cells (g := g) rfl (k * 7) _ g0
  have e1 := h.cells (g := g) rfl (k * 7 + 1) _ g1
  have e2 := h.cells (g := g) rfl (k * 7 + 2) _ g2
  have e3 := h.cells (g := g) rfl (k * 7 + 3) _ g3
  have e4 := h.cells (g := g) rfl (k * 7 + 4) _ g4
  have e5 := h.cells (g := g) rfl (k * 7 + 5) _ g5
  have e6 := h.cells (g := g) rfl (k * 7 + 6) _ g6
  rw [Addr.add_lit, Nat.zero_add] at e0 e1 e2 e3 e4 e5 e6
  exact ⟨e0, e1, e2, e3, e4, e5, e6⟩
theorem BoxP.set4 {n : Nat} {o : Ph} {w1 : World} (h : BoxP n o w1) (v : Value) : BoxP n { o with sm := v } (w1.setCell ⟨n, 4, none⟩ v) := by
  obtain ⟨h0, ⟨h1, h2, h3, h4, h5, h6, h7, h8, h9, h10, h11⟩, hf⟩ := h
  refine ⟨by simpa using h0, ⟨?_, ?_, ?_, ?_, ?_, ?_, ?_, ?_, ?_, ?_, ?_⟩, fun o => by simp [World.frozen?_setCell, hf]⟩
  all_goals simp [go_sem, h1, h2, h3, h4, h5, h6, h7, h8, h9, h10, h11]
theorem BoxP.set6 {n : Nat} {o : Ph} {w1 : World} (h : BoxP n o w1) (v : Value) (ps : List Pr) : BoxP n { o with ps := ps, sp := v } (w1.setCell ⟨n, 6, none⟩ v) := by
  obtain ⟨h0, ⟨h1, h2, h3, h4, h5, h6, h7, h8, h9, h10, h11⟩, hf⟩ := h
  refine ⟨by simpa using h0, ⟨?_, ?_, ?_, ?_, ?_, ?_, ?_, ?_, ?_, ?_, ?_⟩, fun o => by simp [World.frozen?_setCell, hf]⟩
  all_goals simp [go_sem, h1, h2, h3, h4, h5, h6, h7, h8, h9, h10, h11]
theorem BoxP.set7 {n : Nat} {o : Ph} {w1 : World} (h : BoxP n o w1) (v : Value) (zs : List Zs) : BoxP n { o with zs := zs, sz := v } (w1.setCell ⟨n, 7, none⟩ v) := by
  obtain ⟨h0, ⟨h1, h2, h3, h4, h5, h6, h7, h8, h9, h10, h11⟩, hf⟩ := h
  refine ⟨by simpa using h0, ⟨?_, ?_, ?_, ?_, ?_, ?_, ?_, ?_, ?_, ?_, ?_⟩, fun o => by simp [World.frozen?_setCell, hf]⟩
  all_goals simp [go_sem, h1, h2, h3, h4, h5, h6, h7, h8, h9, h10, h11]
theorem BoxP.set9 {n : Nat} {o : Ph} {w1 : World} (h : BoxP n o w1) (v : Value) (ea : List Int) : BoxP n { o with ea := ea, se := v } (w1.setCell ⟨n, 9, none⟩ v) := by
  obtain ⟨h0, ⟨h1, h2, h3, h4, h5, h6, h7, h8, h9, h10, h11⟩, hf⟩ := h
  refine ⟨by simpa using h0, ⟨?_, ?_, ?_, ?_, ?_, ?_, ?_, ?_, ?_, ?_, ?_⟩, fun o => by simp [World.frozen?_setCell, hf]⟩
  all_goals simp [go_sem, h1, h2, h3, h4, h5, h6, h7, h8, h9, h10, h11]
theorem BoxP.zero (w : World) : BoxP w.heap.size Ph.zero (w.alloc (.cells #[.int .i64 0, .string ⟨#[]⟩, .string ⟨#[]⟩, .int .i64 0, .slice none 0 0, .int .i64 0, .slice none 0 0, .slice none 0 0, .bool false, .slice none 0 0, .int .i64 0] 31)) := BoxP.new w Ph.zero
set_option maxHeartbeats 2000000 in
theorem cloneP_none (A : Option Addr) (c : Nat) (w : World) :
    Calls Tryz.prog 120 #[.slice A 0 c] w fun e w' => ∃ A' c', e = .returned (.slice A' 0 c') ∧ Below w.heap.size w w' := by
  cases A with
  | none =>
    have q : ∀ (w : World) (a : Option Addr) (n c n' c' : Nat), (binOp .eql 27 (.slice a n c) (.slice none n' c')).run Tryz.prog w = .ok (.bool a.isNone) w := fun w a n c n' c' => Lib.run_eql_slice_nil w _ _ a n c n' c' Tryz.underlying27
    go_enter Tryz.func120, Tryz.ntmps120
    go_wp2_with fail
    go_ret
    exact ⟨_, _, rfl, Below.refl _ _⟩
  | some a =>
    refine (cloneP_any _ [] w (.empty a c) (by simp)).mono ?_
    rintro e w' ⟨v, rfl, ho, hb⟩
    obtain ⟨A', c', rfl⟩ := (SP.of_own ho).form
    exact ⟨A', c', rfl, hb⟩
abbrev putW (w1 : World) (n : Nat) (o : Ph) : World := World.setCell (World.setCell (World.setCell (World.setCell (World.setCell (World.setCell (World.setCell (World.setCell (World.setCell (World.setCell (World.setCell w1 ⟨n, 0, none⟩ (.int .i64 o.d.id)) ⟨n, 1, none⟩ (.string o.d.f)) ⟨n, 2, none⟩ (.string o.d.t)) ⟨n, 3, none⟩ (.int .i64 o.d.gen)) ⟨n, 4, none⟩ (o.sm)) ⟨n, 5, none⟩ (.int .i64 o.d.next)) ⟨n, 6, none⟩ (o.sp)) ⟨n, 7, none⟩ (o.sz)) ⟨n, 8, none⟩ (.bool o.fr)) ⟨n, 9, none⟩ (o.se)) ⟨n, 10, none⟩ (.int .i64 o.al)
theorem putW_own {base n : Nat} {w1 : World} (o : Ph) (hn : n < base) {e : TypeId} {size : Nat} {v : Value} {m : Nat} {xs : List Value} (h : w1.ownsRow base e size v m xs) : (putW w1 n o).ownsRow base e size v m xs := by
  repeat (refine ownsRow_setCell_below ?_ hn _)
  exact h
theorem putW_below {N n : Nat} {w0 w1 : World} (o : Ph) (hn : N ≤ n) (h : Below N w0 w1) : Below N w0 (putW w1 n o) := by
  iterate 11 (refine Below.setCell ?_ hn _)
  exact h
theorem putW_size (w1 : World) (n : Nat) (o : Ph) : (putW w1 n o).heap.size = w1.heap.size := by simp [putW]
theorem putW_cell {n : Nat} {w1 : World} (o : Ph) {p : Addr} (h : p.block ≠ n) : (putW w1 n o).cell? p = w1.cell? p := by
  unfold putW
  iterate 11 (rw [World.cell?_setCell_far _ _ _ _ (by exact fun e => h e.symm)])
theorem BoxP.putW {n m : Nat} {o0 : Ph} {w1 : World} (h : BoxP n o0 w1) (o : Ph) (hn : m ≠ n) : BoxP n o0 (putW w1 m o) := by
  iterate 11 (refine BoxP.other ?_ hn _)
  exact h
structure R7 (W2 : World) (g i : Nat) (L : Nat → Bool) (u : Nat → Value) (wx : World) : Prop where
  a : L 10 = false → Below W2.heap.size W2 wx
  b : L 10 = true → ∃ wy, Below W2.heap.size W2 wy ∧ wx = wy.setCell ⟨g, i, none⟩ (u 6)
set_option maxHeartbeats 16000000 in
set_option maxRecDepth 100000 in
theorem own_any (o : Ph) (w : World) (h : HA w o) (l1 : o.d.ms.length ≤ 1000) (l2 : o.ps.length ≤ 100000) (l3 : o.zs.length ≤ 100000) (l4 : o.ea.length ≤ 100000) :
    Calls Tryz.prog 68 #[qv o] w fun e w' => ∃ o', e = .returned (qv o') ∧ o'.pl = o.pl ∧ OwnO w' w.heap.size o' ∧ NoP o'.zs ∧ Below w.heap.size w w' := by
  obtain ⟨d, sm, ps, sp, zs, sz, fr, ea, se, al⟩ := o
  obtain ⟨h1, h2, h3, h4, h5, _, _⟩ := h
  simp only at h1 h2 h3 h4 h5 l1 l2 l3 l4
  obtain ⟨fA, fa, rfl⟩ := h1.form
  obtain ⟨fB, fb, rfl⟩ := h2.sm.form
  obtain ⟨fC, fc, rfl⟩ := h3.form
  obtain ⟨fD, fd, rfl⟩ := h5.si.form
  obtain ⟨W1, hW1⟩ : ∃ W1, (w.alloc (.cells #[.int .i64 d.id, .string d.f, .string d.t, .int .i64 d.gen, .slice fA d.ms.length fa, .int .i64 d.next, .slice fB ps.length fb, .slice fC zs.length fc, .bool fr, .slice fD ea.length fd, .int .i64 al] 31)).alloc (.cells #[.int .i64 0, .string ⟨#[]⟩, .string ⟨#[]⟩, .int .i64 0, .slice none 0 0, .int .i64 0, .slice none 0 0, .slice none 0 0, .bool false, .slice none 0 0, .int .i64 0] 31) = W1 := ⟨_, rfl⟩
  have B0 : BoxP w.heap.size ⟨d, .slice fA d.ms.length fa, ps, .slice fB ps.length fb, zs, .slice fC zs.length fc, fr, ea, .slice fD ea.length fd, al⟩ W1 := hW1 ▸ (BoxP.new w ⟨d, .slice fA d.ms.length fa, ps, .slice fB ps.length fb, zs, .slice fC zs.length fc, fr, ea, .slice fD ea.length fd, al⟩).alloc _
  have Z0 : BoxP (w.heap.size + 1) Ph.zero W1 := by
    have := BoxP.zero (w.alloc (.cells #[.int .i64 d.id, .string d.f, .string d.t, .int .i64 d.gen, .slice fA d.ms.length fa, .int .i64 d.next, .slice fB ps.length fb, .slice fC zs.length fc, .bool fr, .slice fD ea.length fd, .int .i64 al] 31))
    rw [hW1, World.size_alloc] at this
    exact this
  have hz1 : W1.heap.size = w.heap.size + 2 := by rw [← hW1]; simp
  have hbw1 : Below w.heap.size w W1 := by rw [← hW1]; exact ((Below.refl _ w).alloc (Nat.le_refl _) _).alloc (by simp) _
  -- members
  have c1 := Ds.clone_any _ d.ms W1 (h1.keep hbw1) l1
  go_enter Tryz.func68, Tryz.ntmps68
  obtain ⟨p_0, ⟨p_1, p_2, p_3, p_4, p_5, p_6, p_7, p_8, p_9, p_10, p_11⟩, p_12⟩ := _root_.id B0
  go_wp2_with (rw [hW1])
  ((try clear p_0); (try clear p_1); (try clear p_2); (try clear p_3); (try clear p_4); (try clear p_5); (try clear p_6); (try clear p_7); (try clear p_8); (try clear p_9); (try clear p_10); (try clear p_11); (try clear p_12))
  refine c1.mono ?_
  rintro e w2 ⟨v1, rfl, O1, b1⟩
  obtain ⟨A1, a1, rfl⟩ := (SM.of_own O1).form
  have B1 := B0.keep b1
  have Z1 := Z0.keep b1
  have hb1 : Below w.heap.size w w2 := hbw1.trans (b1.mono (by omega))
  obtain ⟨W3, hW3⟩ : ∃ W3, w2.setCell ⟨w.heap.size, 4, none⟩ (.slice A1 d.ms.length a1) = W3 := ⟨_, rfl⟩
  have B3 : BoxP w.heap.size ⟨d, .slice A1 d.ms.length a1, ps, .slice fB ps.length fb, zs, .slice fC zs.length fc, fr, ea, .slice fD ea.length fd, al⟩ W3 := hW3 ▸ B1.set4 (.slice A1 d.ms.length a1)
  have Z3 : BoxP (w.heap.size + 1) Ph.zero W3 := hW3 ▸ Z1.other (by simp) (.slice A1 d.ms.length a1)
  have O1' : OwnM W3 W1.heap.size (.slice A1 d.ms.length a1) d.ms := hW3 ▸ Ds.own_set O1 (by simp; omega) (.slice A1 d.ms.length a1)
  have hbw3 : Below w.heap.size w W3 := hW3 ▸ hb1.setCell (by simp) (.slice A1 d.ms.length a1)
  have hz3 : W1.heap.size ≤ W3.heap.size := by rw [← hW3]; have := b1.size; simpa using this
  have c2 := cloneP_any _ ps W3 (h2.keep hbw3) l2
  obtain ⟨p_0, ⟨p_1, p_2, p_3, p_4, p_5, p_6, p_7, p_8, p_9, p_10, p_11⟩, p_12⟩ := _root_.id B1
  obtain ⟨q_0, ⟨q_1, q_2, q_3, q_4, q_5, q_6, q_7, q_8, q_9, q_10, q_11⟩, q_12⟩ := _root_.id B3
  clear c1 O1 Z1
  go_wp2_with (rw [hW3])
  ((try clear p_0); (try clear p_1); (try clear p_2); (try clear p_3); (try clear p_4); (try clear p_5); (try clear p_6); (try clear p_7); (try clear p_8); (try clear p_9); (try clear p_10); (try clear p_11); (try clear p_12))
  ((try clear q_0); (try clear q_1); (try clear q_2); (try clear q_3); (try clear q_4); (try clear q_5); (try clear q_6); (try clear q_7); (try clear q_8); (try clear q_9); (try clear q_10); (try clear q_11); (try clear q_12))
  clear hW1 B0 Z0 hW3 B1 b1 hb1
  -- pairs
  refine c2.mono ?_
  rintro e w4 ⟨v2, rfl, O2, b2⟩
  obtain ⟨A2, a2, rfl⟩ := (SP.of_own O2).form
  have B4 := B3.keep b2
  have Z4 := Z3.keep b2
  have hb4 : Below w.heap.size w w4 := hbw3.trans (b2.mono (by omega))
  obtain ⟨W5, hW5⟩ : ∃ W5, w4.setCell ⟨w.heap.size, 6, none⟩ (.slice A2 ps.length a2) = W5 := ⟨_, rfl⟩
  have B5 : BoxP w.heap.size ⟨d, .slice A1 d.ms.length a1, ps, .slice A2 ps.length a2, zs, .slice fC zs.length fc, fr, ea, .slice fD ea.length fd, al⟩ W5 := hW5 ▸ B4.set6 (.slice A2 ps.length a2) ps
  have Z5 : BoxP (w.heap.size + 1) Ph.zero W5 := hW5 ▸ Z4.other (by simp) (.slice A2 ps.length a2)
  have M5 : OwnM W5 W1.heap.size (.slice A1 d.ms.length a1) d.ms := hW5 ▸ Ds.own_set (ownsRow_below O1' b2) (by simp; omega) (.slice A2 ps.length a2)
  have P5 : OwnP W5 W1.heap.size (.slice A2 ps.length a2) ps := hW5 ▸ ownsRow_setCell_below (ownsRow_base O2 hz3) (by simp; omega) (.slice A2 ps.length a2)
  have hbw5 : Below w.heap.size w W5 := hW5 ▸ hb4.setCell (by simp) (.slice A2 ps.length a2)
  have hz5 : W1.heap.size ≤ W5.heap.size := by rw [← hW5]; have := b2.size; simp; omega
  have c3 := cloneZ_any _ zs W5 (h3.keep hbw5) (fun z hz => by obtain ⟨_, A, c, e⟩ := h4 z hz; rw [e]; rfl) l3
  obtain ⟨p_0, ⟨p_1, p_2, p_3, p_4, p_5, p_6, p_7, p_8, p_9, p_10, p_11⟩, p_12⟩ := _root_.id B4
  obtain ⟨q_0, ⟨q_1, q_2, q_3, q_4, q_5, q_6, q_7, q_8, q_9, q_10, q_11⟩, q_12⟩ := _root_.id B5
  clear c2 O2 O1' Z3 Z4
  go_wp2_with (rw [hW5])
  ((try clear p_0); (try clear p_1); (try clear p_2); (try clear p_3); (try clear p_4); (try clear p_5); (try clear p_6); (try clear p_7); (try clear p_8); (try clear p_9); (try clear p_10); (try clear p_11); (try clear p_12))
  ((try clear q_0); (try clear q_1); (try clear q_2); (try clear q_3); (try clear q_4); (try clear q_5); (try clear q_6); (try clear q_7); (try clear q_8); (try clear q_9); (try clear q_10); (try clear q_11); (try clear q_12))
  clear hW5 B3 B4 b2 hb4 hbw3 hz3
  -- sessions
  refine c3.mono ?_
  rintro e w6 ⟨v3, rfl, O3, b3⟩
  obtain ⟨A3, cap3, rfl⟩ := (SZ.of_own O3).form
  have B6 := B5.keep b3
  have Z6 := Z5.keep b3
  have hb6 : Below w.heap.size w w6 := hbw5.trans (b3.mono (by omega))
  obtain ⟨N, hN⟩ : ∃ N, W5.heap.size = N := ⟨_, rfl⟩
  have hz6 := b3.size
  have m1 : ∀ g, (Value.slice A1 d.ms.length a1).ownBlock = some g → g < N := fun g hg => hN ▸ (M5.lt g hg).2
  have m2 : ∀ g, (Value.slice A2 ps.length a2).ownBlock = some g → g < N := fun g hg => hN ▸ (P5.lt g hg).2
  rw [hN] at O3 b3 hz5 hz6
  obtain ⟨n, hn⟩ : ∃ n, zs.length = n := ⟨_, rfl⟩
  have HN := Lib.hid hn
  have hnl : n ≤ 100000 := by omega
  rw [hn] at O3 B6 ⊢
  clear hn
  obtain ⟨W7, hW7⟩ : ∃ W7, w6.setCell ⟨w.heap.size, 7, none⟩ (.slice A3 n cap3) = W7 := ⟨_, rfl⟩
  have B7 : BoxP w.heap.size ⟨d, .slice A1 d.ms.length a1, ps, .slice A2 ps.length a2, zs, .slice A3 n cap3, fr, ea, .slice fD ea.length fd, al⟩ W7 := hW7 ▸ B6.set7 (.slice A3 n cap3) zs
  have Z7 : BoxP (w.heap.size + 1) Ph.zero W7 := hW7 ▸ Z6.other (by simp) _
  have M7 : OwnM W7 W1.heap.size (.slice A1 d.ms.length a1) d.ms := hW7 ▸ Ds.own_set (ownsRow_low M5 m1 b3) (by simp; omega) _
  have P7 : OwnP W7 W1.heap.size (.slice A2 ps.length a2) ps := hW7 ▸ ownsRow_setCell_below (ownsRow_low P5 m2 b3) (by simp; omega) _
  have S7 : OwnZ W7 N (.slice A3 n cap3) zs := hW7 ▸ Ss.ownZ_set O3 (by simp; omega) _
  have hbw7 : Below w.heap.size w W7 := hW7 ▸ hb6.setCell (by simp) _
  have hz7 : N ≤ W7.heap.size := by rw [← hW7]; simpa using hz6
  have HS7 := Lib.hid S7
  obtain ⟨p_0, ⟨p_1, p_2, p_3, p_4, p_5, p_6, p_7, p_8, p_9, p_10, p_11⟩, p_12⟩ := _root_.id B6
  obtain ⟨q_0, ⟨q_1, q_2, q_3, q_4, q_5, q_6, q_7, q_8, q_9, q_10, q_11⟩, q_12⟩ := _root_.id B7
  clear c3 O3 Z5 Z6 M5 P5 hN h1 h2 h3
  go_wp2_with (rw [hW7])
  ((try clear p_0); (try clear p_1); (try clear p_2); (try clear p_3); (try clear p_4); (try clear p_5); (try clear p_6); (try clear p_7); (try clear p_8); (try clear p_9); (try clear p_10); (try clear p_11); (try clear p_12))
  ((try clear q_0); (try clear q_1); (try clear q_2); (try clear q_3); (try clear q_4); (try clear q_5); (try clear q_6); (try clear q_7); (try clear q_8); (try clear q_9); (try clear q_10); (try clear q_11); (try clear q_12))
  clear hW7 B5 B6 b3 hb6 hbw5 hz6 S7
  go_loopw [3, 4, 22] (fun _ _ vi wr => ∃ (k : Nat) (zs' : List Zs), k ≤ n ∧ vi = .int .i64 (k : Int) ∧ Hid (ses zs' = ses zs) ∧ NoP zs' ∧ OwnZ wr N (.slice A3 n cap3) zs' ∧ Below N W7 wr) (fun _ _ vi _ => n - (intOf vi).toNat)
  case atStart => exact ⟨0, zs, Nat.zero_le _, rfl, Lib.hid rfl, h4, HS7.out, Below.refl _ _⟩
  case round =>
    obtain ⟨k, zs', hk, rfl, HSS, hnp, hown, hbr⟩ := hrel
    have hzr := hbr.size
    have hl' : zs'.length = n := by have := congrArg List.length HSS.out; simp only [List.length_map] at this; rw [this, HN.out]
    have HL := Lib.hid hl'
    have BR : BoxP w.heap.size ⟨d, .slice A1 d.ms.length a1, ps, .slice A2 ps.length a2, zs, .slice A3 n cap3, fr, ea, .slice fD ea.length fd, al⟩ wr := B7.kept (by omega) hbr
    have ZR : BoxP (w.heap.size + 1) Ph.zero wr := Z7.kept (by omega) hbr
    by_cases hlt : k < n
    · have hkx : k < zs'.length := by omega
      obtain ⟨g, rfl, hNg, hgw, _⟩ := ownZ_block hown (by omega)
      obtain ⟨q0, q1, q2, q3, q4, q5, q6⟩ := ownZ_at hown hkx
      obtain ⟨hpp, PA, pc, hpv⟩ := hnp _ (List.getElem_mem hkx)
      obtain ⟨⟨⟨cl, sq, r⟩, pv⟩, hzk⟩ : ∃ z, zs'[k] = z := ⟨_, rfl⟩
      rw [hzk] at q0 q1 q2 q3 q4 q5 q6 hpp hpv
      simp only at q0 q1 q2 q3 q4 q5 q6 hpp hpv
      subst hpv
      obtain ⟨W2, hW2⟩ : ∃ W2, wr.alloc (.cells #[.int .i64 cl, .int .i64 sq, .int .i64 r.code, .int .i64 r.err, .bool r.has, .string r.val, .slice PA 0 pc] 70) = W2 := ⟨_, rfl⟩
      have B2 : BoxS wr.heap.size (⟨cl, sq, r⟩, .slice PA 0 pc) W2 := hW2 ▸ BoxS.new wr (⟨cl, sq, r⟩, .slice PA 0 pc)
      have hb2 : Below wr.heap.size wr W2 := by rw [← hW2]; exact (Below.refl _ wr).alloc (Nat.le_refl _) _
      have hz2 : W2.heap.size = wr.heap.size + 1 := by rw [← hW2]; simp
      have BP2 := BR.keep hb2
      have O2 : OwnZ W2 N (.slice (some ⟨g, 0, none⟩) n cap3) zs' := ownsRow_below hown hb2
      have HO := Lib.hid O2
      have H2 := Lib.hid hW2
      have HZK := Lib.hid hzk
      obtain ⟨i6, hi6⟩ : ∃ i6, k * 7 + 6 = i6 := ⟨_, rfl⟩
      have HI := Lib.hid hi6
      have k0 : (0 ≤ (k : Int)) = True := eq_true (by omega)
      have k1 : ((k : Int) < (n : Int)) = True := eq_true (by omega)
      have hk1 : (k : Int) < (n : Int) := by omega
      have hbp : ∀ wx, Below W2.heap.size W2 wx → BoxP w.heap.size ⟨d, .slice A1 d.ms.length a1, ps, .slice A2 ps.length a2, zs, .slice (some ⟨g, 0, none⟩) n cap3, fr, ea, .slice fD ea.length fd, al⟩ wx := fun wx hx => BP2.kept (by omega) hx
      have hbs : ∀ wx, Below W2.heap.size W2 wx → BoxS wr.heap.size (⟨cl, sq, r⟩, .slice PA 0 pc) wx := fun wx hx => BoxS.kept B2 (by omega) hx
      have hcx : ∀ wx, Below W2.heap.size W2 wx → wx.cell? ⟨g, i6, none⟩ = some (.slice PA 0 pc) := fun wx hx => by
        rw [← hi6]
        exact ((hb2.trans (hx.mono (by omega))).cell (p := ⟨g, k * 7 + 6, none⟩) hgw).trans q6
      have hfz : ∀ wx, Below W2.heap.size W2 wx → wx.frozen? ⟨g, i6, none⟩ = false := fun wx hx => (hx.frozen (p := ⟨g, i6, none⟩) (by show g < _; omega)).trans (ownZ_frozen (by rw [HL.out]; exact HO.out) i6)
      clear hW2 hown O2 hzk hl' BP2 BR B2 hi6
      go_wp2_with fail
      try rw [H2.out]
      refine St.wp_region_mixed (R7 W2 g i6) (fun i z => match i with | 6 => ∃ A c, z = .slice A 0 c | _ => False) (by kernel_rfl) (by kernel_rfl) (by kernel_rfl) ⟨fun _ => (Below.refl _ _).drew, fun h => (by cases h)⟩ ?_
      iterate 6
        (apply St.mix_give
         · rfl
         · intro L u' wx hS hcl hrd hag
           have hbx := hS.a (St.not_yet hcl hrd 40 10 (by kernel_rfl))
           obtain ⟨_, ⟨d0, d1, d2, d3, d4, d5, d6, d7, d8, d9, d10⟩, _⟩ := hbp wx hbx
           obtain ⟨_, ⟨e0, e1, e2, e3, e4, e5, e6⟩, _⟩ := hbs wx hbx
           go_simp
           try with_reducible rfl
         · exact fun L u' wx hS => ⟨hS.a, hS.b⟩
         simp only [Act.put, List.setIfInBounds_toArray, List.set_cons_zero, List.set_cons_succ])
      refine St.mix_call (f := 120) (args := #[.slice PA 0 pc]) rfl ?_ ?_ ?_
      · intro wx
        go_simp
        try with_reducible rfl
      · intro L u' wx hS hcl hrd hag
        have h10 := St.not_yet hcl hrd 40 10 (by kernel_rfl)
        refine (cloneP_none PA pc wx).mono ?_
        rintro e w' ⟨A', c', rfl, hb'⟩
        refine ⟨_, rfl, ⟨A', c', rfl⟩, ⟨fun _ => (hS.a h10).trans (hb'.mono (hS.a h10).size), fun h' => ?_⟩⟩
        rw [show St.mark L 6 10 = L 10 from rfl, h10] at h'; cases h'
      rintro y6 ⟨Ay, cy, rfl⟩
      simp only [Act.put, List.setIfInBounds_toArray, List.set_cons_zero, List.set_cons_succ]
      iterate 3
        (apply St.mix_give
         · rfl
         · intro L u' wx hS hcl hrd hag
           go_simp
           try with_reducible rfl
         · exact fun L u' wx hS => ⟨hS.a, hS.b⟩
         simp only [Act.put, List.setIfInBounds_toArray, List.set_cons_zero, List.set_cons_succ])
      refine St.mix_skip rfl ?_ ?_
      · intro L u' wx hS hcl hrd hag
        have h6 : u' 6 = .slice Ay 0 cy := hag 40 6 (by kernel_rfl)
        have hbx := hS.a hrd.1
        have hf := hfz wx hbx
        refine ⟨_, ?_, ⟨fun h => (by simp [St.mark] at h), fun _ => ⟨wx, hbx, by rw [show St.upd u' 10 undef 6 = u' 6 from rfl, h6]⟩⟩⟩
        go_simp
        rw [show k * 7 + 2 + 4 = i6 by have := HI.out; omega, hcx wx hbx]
        simp [hf, Result.andThen]
      simp only [Act.put]
      refine St.mix_last ?_
      intro L wx hS hall
      obtain ⟨wy, hby, hwx⟩ := hS.b (hall 10 (by decide))
      have hwx' : wx = wy.setCell ⟨g, i6, none⟩ (.slice Ay 0 cy) := hwx
      subst hwx'
      have O9 := ownZ_put (base := N) (g := g) (c := cap3) (by rw [HL.out]; exact ownsRow_below HO.out hby) hkx (.slice Ay 0 cy)
      rw [HL.out, HI.out] at O9
      have HO9 := Lib.hid O9
      have B9 : Below N W7 (wy.setCell ⟨g, i6, none⟩ (.slice Ay 0 cy)) := ((hbr.trans (hb2.mono (by omega))).trans (hby.mono (by omega))).setCell hNg _
      clear hS hall hwx O9 hcx hfz hbp hbs
      go_wp2_with fail
      go_roundw
      case rel => exact ⟨k + 1, _, by omega, by go_num, Lib.hid ((ses_set hkx _).trans HSS.out), nop_set hnp hkx, HO9.out, B9⟩
      case measure => simp [intOf]; omega
    · obtain rfl : k = n := by omega
      have c4 := cloneI_any _ ea wr (h5.keep (hbw7.trans (hbr.mono (by omega)))) l4
      have HNP := hnp
      obtain ⟨p_0, ⟨p_1, p_2, p_3, p_4, p_5, p_6, p_7, p_8, p_9, p_10, p_11⟩, p_12⟩ := _root_.id BR
      clear hlt
      go_wp2_with fail
      ((try clear p_0); (try clear p_1); (try clear p_2); (try clear p_3); (try clear p_4); (try clear p_5); (try clear p_6); (try clear p_7); (try clear p_8); (try clear p_9); (try clear p_10); (try clear p_11); (try clear p_12))
      refine c4.mono ?_
      rintro e w8 ⟨v4, rfl, O4, b4⟩
      obtain ⟨A4, a4, rfl⟩ := (SI.of_own O4).form
      have hbr8 : Below w.heap.size w w8 := (hbw7.trans (hbr.mono (by omega))).trans (b4.mono (by omega))
      have B8 := BR.keep b4
      have Z8 := ZR.keep b4
      obtain ⟨W9, hW9⟩ : ∃ W9, w8.setCell ⟨w.heap.size, 9, none⟩ (.slice A4 ea.length a4) = W9 := ⟨_, rfl⟩
      have B9 : BoxP w.heap.size ⟨d, .slice A1 d.ms.length a1, ps, .slice A2 ps.length a2, zs', .slice A3 k cap3, fr, ea, .slice A4 ea.length a4, al⟩ W9 := hW9 ▸ B8.set9 (.slice A4 ea.length a4) ea
      have Z9 : BoxP (w.heap.size + 1) Ph.zero W9 := hW9 ▸ Z8.other (by simp) _
      have M9 : OwnM W9 W1.heap.size (.slice A1 d.ms.length a1) d.ms := hW9 ▸ Ds.own_set (ownsRow_below (ownsRow_low M7 m1 hbr) b4) (by simp; omega) _
      have P9 : OwnP W9 W1.heap.size (.slice A2 ps.length a2) ps := hW9 ▸ ownsRow_setCell_below (ownsRow_below (ownsRow_low P7 m2 hbr) b4) (by simp; omega) _
      have S9 : OwnZ W9 W1.heap.size (.slice A3 k cap3) zs' := hW9 ▸ ownsRow_setCell_below (ownsRow_base (ownsRow_below hown b4) hz5) (by simp; omega) _
      have I9 : OwnI W9 W1.heap.size (.slice A4 ea.length a4) ea := hW9 ▸ ownsRow_setCell_below (ownsRow_base O4 (by omega)) (by simp; omega) _
      have hbw9 : Below w.heap.size w W9 := hW9 ▸ hbr8.setCell (by simp) _
      have HPL : Hid (Ph.pl ⟨d, .slice A1 d.ms.length a1, ps, .slice A2 ps.length a2, zs', .slice A3 k cap3, fr, ea, .slice A4 ea.length a4, al⟩ = Ph.pl ⟨d, .slice fA d.ms.length fa, ps, .slice fB ps.length fb, zs, .slice fC zs.length fc, fr, ea, .slice fD ea.length fd, al⟩) := Lib.hid (by unfold Ph.pl; simp only; rw [HSS.out])
      obtain ⟨p_0, ⟨p_1, p_2, p_3, p_4, p_5, p_6, p_7, p_8, p_9, p_10, p_11⟩, p_12⟩ := _root_.id B8
      obtain ⟨q_0, ⟨q_1, q_2, q_3, q_4, q_5, q_6, q_7, q_8, q_9, q_10, q_11⟩, q_12⟩ := _root_.id B9
      obtain ⟨r_0, ⟨r_1, r_2, r_3, r_4, r_5, r_6, r_7, r_8, r_9, r_10, r_11⟩, r_12⟩ := _root_.id Z9
      clear c4 O4 M7 P7 hown
      go_wp2_with (rw [hW9])
      have BF : BoxP (w.heap.size + 1) ⟨d, .slice A1 d.ms.length a1, ps, .slice A2 ps.length a2, zs', .slice A3 k cap3, fr, ea, .slice A4 ea.length a4, al⟩ (putW W9 (w.heap.size + 1) ⟨d, .slice A1 d.ms.length a1, ps, .slice A2 ps.length a2, zs', .slice A3 k cap3, fr, ea, .slice A4 ea.length a4, al⟩) := BoxP.put Z9 ⟨d, .slice A1 d.ms.length a1, ps, .slice A2 ps.length a2, zs', .slice A3 k cap3, fr, ea, .slice A4 ea.length a4, al⟩
      have FO : OwnO (putW W9 (w.heap.size + 1) ⟨d, .slice A1 d.ms.length a1, ps, .slice A2 ps.length a2, zs', .slice A3 k cap3, fr, ea, .slice A4 ea.length a4, al⟩) w.heap.size ⟨d, .slice A1 d.ms.length a1, ps, .slice A2 ps.length a2, zs', .slice A3 k cap3, fr, ea, .slice A4 ea.length a4, al⟩ := ⟨ownsRow_base (putW_own ⟨d, .slice A1 d.ms.length a1, ps, .slice A2 ps.length a2, zs', .slice A3 k cap3, fr, ea, .slice A4 ea.length a4, al⟩ (by omega) M9) (by omega), ownsRow_base (putW_own ⟨d, .slice A1 d.ms.length a1, ps, .slice A2 ps.length a2, zs', .slice A3 k cap3, fr, ea, .slice A4 ea.length a4, al⟩ (by omega) P9) (by omega), ownsRow_base (putW_own ⟨d, .slice A1 d.ms.length a1, ps, .slice A2 ps.length a2, zs', .slice A3 k cap3, fr, ea, .slice A4 ea.length a4, al⟩ (by omega) S9) (by omega), ownsRow_base (putW_own ⟨d, .slice A1 d.ms.length a1, ps, .slice A2 ps.length a2, zs', .slice A3 k cap3, fr, ea, .slice A4 ea.length a4, al⟩ (by omega) I9) (by omega)⟩
      have FB := putW_below ⟨d, .slice A1 d.ms.length a1, ps, .slice A2 ps.length a2, zs', .slice A3 k cap3, fr, ea, .slice A4 ea.length a4, al⟩ (n := w.heap.size + 1) (by omega) hbw9
      exact bodyPost_ret (res_BoxP Tryz.results68 rfl BF) rfl ⟨_, rfl, HPL.out, FO, HNP, FB⟩
end Go.Proofs.YtoomkdofoceiaaaGreatDoor.Dp
namespace Go.Proofs.YtoomkdofoceiaaaGreatDoor.Dp
open Go.RowKit Bnd
open Go.Proofs.YtoomkdofoceiaaaGreatDoor.Ds (De SM OwnI OwnM ArgM ptr ptr_inj)
open Go.Proofs.YtoomkdofoceiaaaGreatDoor.Ss (Ses Zs ses SZ PZ NoP OwnZ ArgZ)
open Go.Proofs.YtoomkdofoceiaaaGreatDoor.Od (Pr SP OwnP ArgP)
theorem BoxP.of_qv {n : Nat} {a b : Ph} {w : World} (h : qv a = qv b) (hb : BoxP n a w) : BoxP n b w := by
  injection h with h
  simp only [Array.mk.injEq, List.cons.injEq, Value.int.injEq, Value.string.injEq, Value.bool.injEq, true_and, and_true] at h
  obtain ⟨h1, h2, h3, h4, h5, h6, h7, h8, h9, h10, h11⟩ := h
  obtain ⟨k0, ⟨k1, k2, k3, k4, k5, k6, k7, k8, k9, k10, k11⟩, kf⟩ := hb
  exact ⟨k0, ⟨h1 ▸ k1, h2 ▸ k2, h3 ▸ k3, h4 ▸ k4, h5 ▸ k5, h6 ▸ k6, h7 ▸ k7, h8 ▸ k8, h9 ▸ k9, h10 ▸ k10, h11 ▸ k11⟩, kf⟩
structure PS (W0 : World) (o : Ph) (L : Nat → Bool) (u : Nat → Value) (wx : World) : Prop where
  b : Below W0.heap.size W0 wx
  p : L 2 = true → ∃ n, u 2 = ptr n ∧ W0.heap.size ≤ n ∧ (∃ o', BoxP n o' wx) ∧ (L 4 = true → BoxP n o wx) ∧ (L 3 = true → u 3 ≠ ptr n)
  q : L 3 = true → ∃ n, u 3 = ptr n ∧ W0.heap.size ≤ n ∧ (∃ o', BoxP n o' wx) ∧ (L 5 = true → BoxP n o wx)
theorem PS.two {W0 wx : World} {o : Ph} {L : Nat → Bool} {u : Nat → Value} (h : PS W0 o L u wx) (h4 : L 4 = false) :
    PS W0 o (St.mark L 2) (St.upd u 2 (ptr wx.heap.size)) (wx.alloc (.cells #[.int .i64 0, .string ⟨#[]⟩, .string ⟨#[]⟩, .int .i64 0, .slice none 0 0, .int .i64 0, .slice none 0 0, .slice none 0 0, .bool false, .slice none 0 0, .int .i64 0] 31)) := by
  have f3 : St.upd u 2 (ptr wx.heap.size) 3 = u 3 := by simp [St.upd]
  refine ⟨h.b.alloc h.b.size _, fun _ => ⟨wx.heap.size, by simp [St.upd], h.b.size, ⟨_, BoxP.zero wx⟩, fun h' => ?_, fun h3 => ?_⟩, fun h3 => ?_⟩
  · rw [show St.mark L 2 4 = L 4 from rfl, h4] at h'; cases h'
  · rw [f3]
    obtain ⟨n, e, _, ⟨_, hB⟩, _⟩ := h.q h3
    rw [e]
    intro e'
    have := ptr_inj e'
    have := hB.1
    omega
  · obtain ⟨n, e, e2, ⟨o', hB⟩, e5⟩ := h.q h3
    exact ⟨n, f3.trans e, e2, ⟨o', hB.alloc _⟩, fun h5 => (e5 h5).alloc _⟩
theorem PS.three {W0 wx : World} {o : Ph} {L : Nat → Bool} {u : Nat → Value} (h : PS W0 o L u wx) (h5 : L 5 = false) :
    PS W0 o (St.mark L 3) (St.upd u 3 (ptr wx.heap.size)) (wx.alloc (.cells #[.int .i64 0, .string ⟨#[]⟩, .string ⟨#[]⟩, .int .i64 0, .slice none 0 0, .int .i64 0, .slice none 0 0, .slice none 0 0, .bool false, .slice none 0 0, .int .i64 0] 31)) := by
  have f2 : St.upd u 3 (ptr wx.heap.size) 2 = u 2 := by simp [St.upd]
  refine ⟨h.b.alloc h.b.size _, fun h2 => ?_, fun _ => ⟨wx.heap.size, by simp [St.upd], h.b.size, ⟨_, BoxP.zero wx⟩, fun h' => ?_⟩⟩
  · obtain ⟨n, e, e2, ⟨o', hB⟩, e4, _⟩ := h.p h2
    refine ⟨n, f2.trans e, e2, ⟨o', hB.alloc _⟩, fun h4 => (e4 h4).alloc _, fun _ e' => ?_⟩
    have e' : ptr wx.heap.size = ptr n := by simpa [St.upd] using e'
    have := ptr_inj e'
    have := hB.1
    omega
  · rw [show St.mark L 3 5 = L 5 from rfl, h5] at h'; cases h'
theorem PS.four {W0 wx : World} {o : Ph} {L : Nat → Bool} {u : Nat → Value} (h : PS W0 o L u wx) {n : Nat} (h2 : L 2 = true) (hu : u 2 = ptr n) :
    PS W0 o (St.mark L 4) (St.upd u 4 undef) (putW wx n o) := by
  obtain ⟨n', e, e2, ⟨o', hB⟩, _, e3⟩ := h.p h2
  obtain rfl := ptr_inj (e.symm.trans hu)
  refine ⟨putW_below o e2 h.b, fun _ => ⟨n', by simp [St.upd, e], e2, ⟨_, BoxP.put hB o⟩, fun _ => BoxP.put hB o, fun h3 => by simpa [St.upd] using e3 h3⟩, fun h3 => ?_⟩
  obtain ⟨m, g1, g2, ⟨_, g3⟩, g4⟩ := h.q h3
  have hne : n' ≠ m := fun e' => e3 h3 (by rw [g1, e'])
  exact ⟨m, by simp [St.upd, g1], g2, ⟨_, BoxP.putW g3 o hne⟩, fun h5 => BoxP.putW (g4 h5) o hne⟩
theorem PS.five {W0 wx : World} {o : Ph} {L : Nat → Bool} {u : Nat → Value} (h : PS W0 o L u wx) {n : Nat} (h3 : L 3 = true) (hu : u 3 = ptr n) :
    PS W0 o (St.mark L 5) (St.upd u 5 undef) (putW wx n o) := by
  obtain ⟨n', e, e2, ⟨o', hB⟩, _⟩ := h.q h3
  obtain rfl := ptr_inj (e.symm.trans hu)
  refine ⟨putW_below o e2 h.b, fun h2 => ?_, fun _ => ⟨n', by simp [St.upd, e], e2, ⟨_, BoxP.put hB o⟩, fun _ => BoxP.put hB o⟩⟩
  obtain ⟨m, g1, g2, ⟨_, g3⟩, g4, g5⟩ := h.p h2
  have hne : n' ≠ m := fun e' => g5 h3 (by rw [e, e'])
  exact ⟨m, by simp [St.upd, g1], g2, ⟨_, BoxP.putW g3 o hne⟩, fun h5 => BoxP.putW (g4 h5) o hne, fun h3 => by simpa [St.upd] using g5 h3⟩
theorem BoxP.desc {n : Nat} {o : Ph} {w1 : World} (h : BoxP n o w1) (d : De) (s : Value) :
    BoxP n { o with d := d, sm := s } (World.setCell (World.setCell (World.setCell (World.setCell (World.setCell (World.setCell w1 ⟨n, 0, none⟩ (.int .i64 d.id)) ⟨n, 1, none⟩ (.string d.f)) ⟨n, 2, none⟩ (.string d.t)) ⟨n, 3, none⟩ (.int .i64 d.gen)) ⟨n, 4, none⟩ s) ⟨n, 5, none⟩ (.int .i64 d.next)) := by
  obtain ⟨h0, ⟨h1, h2, h3, h4, h5, h6, h7, h8, h9, h10, h11⟩, hf⟩ := h
  refine ⟨by simpa using h0, ⟨?_, ?_, ?_, ?_, ?_, ?_, ?_, ?_, ?_, ?_, ?_⟩, fun o => by simp [World.frozen?_setCell, hf]⟩
  all_goals simp [go_sem, h1, h2, h3, h4, h5, h6, h7, h8, h9, h10, h11]
abbrev putD (w1 : World) (n : Nat) (d : De) (s : Value) : World := World.setCell (World.setCell (World.setCell (World.setCell (World.setCell (World.setCell w1 ⟨n, 0, none⟩ (.int .i64 d.id)) ⟨n, 1, none⟩ (.string d.f)) ⟨n, 2, none⟩ (.string d.t)) ⟨n, 3, none⟩ (.int .i64 d.gen)) ⟨n, 4, none⟩ s) ⟨n, 5, none⟩ (.int .i64 d.next)
theorem putD_below {N n : Nat} {w0 w1 : World} {d : De} {s : Value} (h : Below N w0 w1) (hn : N ≤ n) : Below N w0 (putD w1 n d s) := by
  iterate 6 (refine Below.setCell ?_ hn _)
  exact h
theorem putD_box {n m : Nat} {o0 : Ph} {w1 : World} {d : De} {s : Value} (h : BoxP n o0 w1) (hn : m ≠ n) : BoxP n o0 (putD w1 m d s) := by
  iterate 6 (refine BoxP.other ?_ hn _)
  exact h
theorem BoxP.set10 {n : Nat} {o : Ph} {w1 : World} (h : BoxP n o w1) (x : Int) : BoxP n { o with al := x } (w1.setCell ⟨n, 10, none⟩ (.int .i64 x)) := by
  obtain ⟨h0, ⟨h1, h2, h3, h4, h5, h6, h7, h8, h9, h10, h11⟩, hf⟩ := h
  refine ⟨by simpa using h0, ⟨?_, ?_, ?_, ?_, ?_, ?_, ?_, ?_, ?_, ?_, ?_⟩, fun o => by simp [World.frozen?_setCell, hf]⟩
  all_goals simp [go_sem, h1, h2, h3, h4, h5, h6, h7, h8, h9, h10, h11]
structure PT (N : Nat) (W : World) (n8 n9 : Nat) (x y : Ph) (wx : World) : Prop where
  b : Below N W wx
  x : BoxP n8 x wx
  y : BoxP n9 y wx
def half (o : Ph) (d : De) (s : Value) (ps : List Pr) (sp : Value) (a b : Bool) : Ph := ⟨bif a then d else o.d, bif a then s else o.sm, bif b then ps else o.ps, bif b then sp else o.sp, o.zs, o.sz, o.fr, o.ea, o.se, o.al⟩
theorem res_BoxP2 {fn : Func} {a a' b : Tmp} {tmps : Array Value} {n n' : Nat} {o o' : Ph} {v : Value} {w1 : World} (hf : fn.results = #[.cell a 31, .cell a' 31, .tmp b]) (ht : tmps[a]?.getD undef = .pointer (some ⟨n, 0, none⟩)) (ht' : tmps[a']?.getD undef = .pointer (some ⟨n', 0, none⟩)) (hb : tmps[b]?.getD undef = v) (h : BoxP n o w1) (h' : BoxP n' o' w1) : (results fn tmps).run Tryz.prog w1 = .ok (.tuple #[qv o, qv o', v]) w1 := by
  have h1 := Tryz.isAgg31
  have h2 := Tryz.sizeOf31
  obtain ⟨_, ⟨c1, c2, c3, c4, c5, c6, c7, c8, c9, c10, c11⟩, _⟩ := h
  obtain ⟨_, ⟨d1, d2, d3, d4, d5, d6, d7, d8, d9, d10, d11⟩, _⟩ := h'
  simp [results, hf, go_sem, ht, ht', hb, h1, h2, c1, c2, c3, c4, c5, c6, c7, c8, c9, c10, c11, d1, d2, d3, d4, d5, d6, d7, d8, d9, d10, d11]
theorem argP_take {w : World} {A : Option Addr} {n c : Nat} {ps : List Pr} (h : ArgP w (.slice A n c) ps) {k : Nat} (hk : k ≤ ps.length) : ArgP w (.slice A k c) (ps.take k) := by
  obtain ⟨v, hv⟩ : ∃ v, Value.slice A n c = v := ⟨_, rfl⟩
  rw [hv] at h
  cases h with
  | nil =>
    cases hv
    obtain rfl : k = 0 := by simpa using hk
    exact .nil
  | some b o c ms h =>
    cases hv
    by_cases h0 : k = 0
    · subst h0; exact .empty _ _
    · have e : (ps.take k).length = k := by rw [List.length_take]; omega
      have h' : SP w w.heap.size (.slice (some ⟨b, o, none⟩) (ps.take k).length c) (ps.take k) := ⟨_, _, rfl, fun _ => ⟨b, o, rfl, (h.at_ (k := 0) (by omega)).elim fun b' h => h.elim fun o' h => by obtain ⟨e, h, _⟩ := h; cases e; exact h, fun i hi => by
        obtain ⟨b', o', e', _, q0, q1⟩ := h.at_ (k := i) (by omega)
        cases e'
        rw [List.getElem_take]
        exact ⟨q0, q1⟩⟩⟩
      have := ArgP.some b o c (ps.take k) h'
      rw [e] at this
      exact this
  | empty a c =>
    cases hv
    obtain rfl : k = 0 := by simpa using hk
    exact .empty _ _
theorem argP_drop {w : World} {b o n c : Nat} {ps : List Pr} (h : ArgP w (.slice (some ⟨b, o, none⟩) n c) ps) {k : Nat} (hk : k ≤ ps.length) (c' : Nat) : ArgP w (.slice (some ⟨b, o + k * 2, none⟩) (ps.length - k) c') (ps.drop k) := by
  by_cases h0 : k = ps.length
  · rw [List.drop_of_length_le (by omega), h0, Nat.sub_self]
    exact .empty _ _
  · have e : (ps.drop k).length = ps.length - k := by simp
    have h' : SP w w.heap.size (.slice (some ⟨b, o + k * 2, none⟩) (ps.drop k).length c') (ps.drop k) := ⟨_, _, rfl, fun _ => ⟨b, o + k * 2, rfl, (h.sm.at_ (k := 0) (by omega)).elim fun b' h => h.elim fun o' h => by obtain ⟨e, h, _⟩ := h; cases e; exact h, fun i hi => by
      obtain ⟨b', o', e', _, q0, q1⟩ := h.sm.at_ (k := k + i) (by omega)
      cases e'
      rw [List.getElem_drop, show o + k * 2 + i * 2 = o + (k + i) * 2 by omega]
      exact ⟨q0, q1⟩⟩⟩
    have := ArgP.some b (o + k * 2) c' (ps.drop k) h'
    rw [e] at this
    exact this
theorem argP_rest {w : World} {A : Option Addr} {c q : Nat} {ps : List Pr} (h : ArgP w (.slice A ps.length c) ps) (hq : q ≤ ps.length) (hc : ps.length ≤ c) :
    ArgP w (.slice (if c = q then A else A.map (·.add (q * 2))) (ps.length - q) (c - q)) (ps.drop q) := by
  obtain ⟨v, hv⟩ : ∃ v, Value.slice A ps.length c = v := ⟨_, rfl⟩
  have h0 := h
  rw [hv] at h
  cases h with
  | nil =>
    cases hv
    obtain rfl : q = 0 := by simpa using hq
    exact .nil
  | some b o c' ms h' =>
    cases hv
    by_cases e : c = q
    · rw [if_pos e, List.drop_of_length_le (by omega), show ps.length - q = 0 by omega]
      exact .empty _ _
    · rw [if_neg e, Option.map_some, Addr.add_lit]
      exact argP_drop h0 hq _
  | empty a c' =>
    cases hv
    obtain rfl : q = 0 := by simpa using hq
    have : (if c = 0 then some a else Option.map (fun x : Addr => x.add (0 * 2)) (some a)) = some a := by simp [Addr.add]
    rw [this]
    exact .empty _ _
end Go.Proofs.YtoomkdofoceiaaaGreatDoor.Dp

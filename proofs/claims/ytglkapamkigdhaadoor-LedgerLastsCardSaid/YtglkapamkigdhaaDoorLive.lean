/-
  The laws' own check that the program is alive: it answers true. Condition: the library's variables hold what their types allow.
-/
import Derived.Test.YtglkapamkigdhaaDoorGives
import Derived.OwnWalk
namespace Go.Proofs.YtglkapamkigdhaaDoor.Rl
open Go.RowKit
open Go.Proofs.YtglkapamkigdhaaDoor.M (pageT kBase kRec inR tellT tell_len)

theorem wpList_make_full' {P : Program} (w : World) {ops : Array Oper} {rest : List Oper} {o : Oper} {a : Act} {Q : Exit → Act → World → Prop}
    (hw : Region.wanted o (yielded ops a.tmps) = true) (l c : Operand) (t : TypeId) (hop : o.op = Op.makeSlice t l c)
    (base : Nat) (e : TypeId) (i : TypeInfo) (z : Value) (size : Nat) (h1 : P.underlying t = some (.slice e)) (h2 : P.info? e = some i) (h3 : i.zero = some z) (h4 : i.size = size)
    (kl kc : IntKind) (L C : Int) (n : Nat) (hl : a.eval l = .int kl L) (hc : a.eval c = .int kc C) (hL : L = (n : Int)) (hC : C = (n : Int)) (b2 : i.bytes * n ≤ 281474976710656) (b3 : n ≤ maxLen) (b4 : base ≤ w.heap.size)
    (hK : ∀ w', w'.ownsRow base e size (.slice (some ⟨w.heap.size, 0, none⟩) n n) n (madeCells z.cells (n * size)).toList → w.grownBy w' none → wpList P ops Q rest (a.put o.dst (.slice (some ⟨w.heap.size, 0, none⟩) n n)) w') :
    wpList P ops Q (o :: rest) a w := by
  refine wpList_step fun K hK' => ?_
  rw [if_pos hw]
  obtain ⟨w', hrun, r1, r2⟩ := run_make_full (P := P) w base t e i z size h1 h2 h3 h4 kl kc n b2 b3 b4
  subst hL
  subst hC
  unfold Oper.wp
  simp [execOp, hop, hl, hc, hrun, Result.andThen]
  exact hK' _ _ (hK w' r1 r2)

theorem zeros_text {w : World} {B g n : Nat} (h : w.ownsRow B 5 1 (.slice (some ⟨g, 0, none⟩) n n) n (List.replicate n (.int .u8 0))) : (convert 50 9 (.slice (some ⟨g, 0, none⟩) n n)).run Tryd.prog w = .ok (.string ⟨(List.replicate n (0 : UInt8)).toArray⟩) w := by
  have key := run_convert_bytes_back (P := Tryd.prog) w 50 9 5 ⟨g, 0, none⟩ n (List.replicate n (0 : UInt8)) Tryd.underlying50 Tryd.underlying5 Tryd.underlying9 (fun j hj => by
    have hj' : j < n := by simpa using hj
    have := h.cells (g := g) rfl j (.int .u8 0) (by simp [hj'])
    rw [this]; simp)
  rw [List.length_replicate] at key
  exact key

set_option maxHeartbeats 8000000 in
set_option maxRecDepth 100000 in
theorem live_any (w : World) (hg : Good w) : Calls Tryd.prog 8 #[] w fun e w' => e = .returned (.bool true) ∧ Below w.heap.size w w' := by
  obtain ⟨i5, hi, hz0, hz1, hz2⟩ := info_parts infoByte
  have h3 := hg.size
  have cn := new_good 10000 w (by decide)
  -- the states
  have k0 : (M.new 10000).ok := M.ok.new (by decide)
  obtain ⟨m1, e1, W1, C1, q1⟩ := fresh (room := 10000) (by decide)
  obtain ⟨k1, o1⟩ := openM_ok' k0 (by decide) e1
  have o1' : m1.ops ≤ 4 := by simpa [M.new] using o1
  obtain ⟨m2, e2, W2, C2, q2⟩ := add_calm W1 C1 [97] (W1.fine.snoc [97] (by decide) (by decide)) (by
    have := rec_short (n := 0) (x := [97]) (by decide) (by decide)
    exact W1.fits (c := 1) (k := 0) (by decide) (by simp) (by simp) (by decide) (by rw [q1]; simp at this ⊢; omega))
  obtain ⟨k2, o2⟩ := addM_ok' k1 (by omega) e2
  have k3 := k2.crash 0 0 0
  obtain ⟨m4, e4, W4, C4, q4⟩ := open_safe W2 0 0
  obtain ⟨k4, o4⟩ := openM_ok' k3 (by show m2.ops < _; omega) e4
  have o4' : m4.ops ≤ m2.ops + 4 := o4
  obtain ⟨m5, e5, W5, C5, q5⟩ := base_calm W4 C4 [120] (W4.fine.next [120] (by decide) (by decide)) (by
    have := base_short (e := (2 : Int)) (x := [120]) (by decide) (by decide) (by decide)
    have hqr : m4.room = 10000 := by rw [q4]; show m2.room = _; rw [q2, q1]
    exact W4.fits (c := 1) (k := 1) (by decide) (by intro x hx; simp at hx; subst hx; decide) (by simp) (by decide) (by rw [hqr]; simp at this ⊢; omega))
  obtain ⟨k5, o5⟩ := baseM_ok' k4 (by omega) e5
  obtain ⟨m6, e6, W6, C6, q6⟩ := open_whole W5 C5
  obtain ⟨k6, o6⟩ := openM_ok' k5 (by omega) e6
  have e7 := addM_long (l := ⟨1, 2, 0, false⟩) rfl m6 (s := List.replicate 524289 (0 : UInt8)) (by rw [List.length_replicate]; decide)
  have lk1 := W1.ok
  have lk4 := W4.ok
  have lk6 := W6.ok
  -- the calls
  have c1 := fun (b : Nat) (w : World) (hr : RP b (M.new 10000) w) (hg : Good w) => open_gives hr k0 (by decide) hg e1
  have c2 := fun (q b : Nat) (w : World) (h : LP q b ⟨0, 1, 0, false⟩ w) (hr : RP b m1 w) => add_gives ⟨#[97]⟩ h hr k1 (by omega) lk1 rfl e2
  have c3 := fun (b : Nat) (w : World) (hr : RP b m2 w) => c_crash 0 0 0 hr k2 (by decide) (by decide) (by decide) (by decide)
  have c4 := fun (b : Nat) (w : World) (hr : RP b (m2.crash 0 0 0) w) (hg : Good w) => open_gives hr k3 (by show m2.ops < _; omega) hg e4
  have c5 := fun (q b : Nat) (w : World) (h : LP q b _ w) (hr : RP b m4 w) => base_gives ⟨#[120]⟩ h hr k4 (by omega) lk4 rfl e5
  have c6 := fun (b : Nat) (w : World) (hr : RP b m5 w) (hg : Good w) => open_gives hr k5 (by omega) hg e6
  have c7 := fun (q b : Nat) (w : World) (h : LP q b ⟨1, 2, 0, false⟩ w) (hr : RP b m6 w) => add_gives ⟨(List.replicate 524289 (0 : UInt8)).toArray⟩ h hr k6 (by omega) lk6 rfl e7
  clear k0 e1 W1 C1 q1 k1 o1 o1' e2 W2 C2 q2 k2 o2 k3 e4 W4 C4 q4 k4 o4 o4' e5 W5 C5 q5 k5 o5 e6 W6 C6 q6 k6 o6 e7 lk1 lk4 lk6
  go_enter Tryd.func8, Tryd.ntmps8
  go_wp2_with fail
  refine cn.mono ?_
  rintro e w1 ⟨rfl, r1, b1, hsz1⟩
  clear cn
  go_wp2_with fail
  refine (num_any _ _).mono ?_
  rintro e w' ⟨rfl, rfl⟩
  go_wp2_with fail
  refine (c1 _ _ r1 (hg.since h3 b1)).mono ?_
  rintro e w2 ⟨q, B, v, ss, rfl, hB, hss, L2, hq, hS, r2, f2⟩
  have b2 := b1.trans f2.below
  clear c1 r1 f2 hS hB hss
  go_wp2_with fail
  refine (num_any _ _).mono ?_
  rintro e w' ⟨rfl, rfl⟩
  go_wp2_with fail
  refine (c2 _ _ _ L2 r2).mono ?_
  rintro e w3 ⟨rfl, L3, r3, f3⟩
  have b3 := b2.trans (f3.below _ (Nat.le_refl _) (by omega))
  clear c2 r2 f3 L2
  go_wp2_with fail
  refine (num_any _ _).mono ?_
  rintro e w' ⟨rfl, rfl⟩
  go_wp2_with fail
  refine (c3 _ _ r3).mono ?_
  rintro e w4 ⟨rfl, r4, f4⟩
  have b4 := b3.trans f4.below
  clear c3 r3 f4 L3
  go_wp2_with fail
  refine (c4 _ _ r4 (hg.since h3 b4)).mono ?_
  rintro e w5 ⟨q', B', v', ss', rfl, hB, hss, L5, hq', hS, r5, f5⟩
  have b5 := b4.trans f5.below
  obtain rfl : B' = ⟨#[]⟩ := ba_ext (by rw [hB])
  obtain rfl : ss' = [⟨#[97]⟩] := texts_inj (by rw [hss]; rfl)
  have hsl := hS.sl
  obtain ⟨A5, n5, rfl⟩ := hS.form
  clear c4 r4 f5 hB hss hS
  go_wp2_with fail
  refine (num_any _ _).mono ?_
  rintro e w' ⟨rfl, rfl⟩
  go_wp2_with fail
  have hsn := SL.new w5 [⟨#[97]⟩]
  have hsl' := (hsl.below ((Below.refl _ w5).alloc (Nat.le_refl _) (.cells #[.string ⟨#[97]⟩] 9))).more (Nat.le_succ _)
  refine (same_any (.slice A5 1 n5) (.slice (some ⟨w5.heap.size, 0, none⟩) 1 1) [⟨#[97]⟩] [⟨#[97]⟩] (w5.alloc (.cells #[.string ⟨#[97]⟩] 9)) (by simpa using hsl') (by simpa using hsn) (by decide) (by decide)).mono ?_
  rintro e w6 ⟨rfl, b6'⟩
  have b56 : Below w5.heap.size w5 w6 := ((Below.refl _ w5).alloc (Nat.le_refl _) _).trans (b6'.mono (by simp))
  have L6 := L5.below b56
  have r6 := r5.below b56
  have b6 := b5.trans (b56.mono b5.size)
  clear hsn hsl hsl' b6' b56 L5 r5
  rw [decide_eq_true (rfl : [(⟨#[97]⟩ : ByteArray)] = [⟨#[97]⟩])]
  go_wp2_with fail
  refine (c5 _ _ _ L6 r6).mono ?_
  rintro e w7 ⟨rfl, L7, r7, f7⟩
  have b7 := b6.trans (f7.below _ (Nat.le_refl _) (by have := b4.size; omega))
  clear c5 L6 r6 f7
  go_wp2_with fail
  refine (num_any _ _).mono ?_
  rintro e w' ⟨rfl, rfl⟩
  go_wp2_with fail
  refine (c6 _ _ r7 (hg.since h3 b7)).mono ?_
  rintro e w8 ⟨q'', B'', v'', ss'', rfl, hB, hss, L8, hq'', hS, r8, f8⟩
  have L8' := L7.fr r7 f8
  have b8 := b7.trans f8.below
  obtain rfl : B'' = ⟨#[120]⟩ := ba_ext (by rw [hB])
  obtain rfl : ss'' = [] := texts_inj (by rw [hss]; rfl)
  obtain ⟨A8, n8, rfl⟩ := hS.form
  have ce := l_epoch L8'
  clear c6 r7 f8 hB hss hS L7 L8
  go_wp2_with fail
  refine (num_any _ _).mono ?_
  rintro e w' ⟨rfl, rfl⟩
  go_wp2_with fail
  refine ce.mono ?_
  rintro e w' ⟨rfl, rfl⟩
  clear ce
  go_wp2_with (at_make; refine wpList_make_full' _ rfl _ _ 50 rfl w.heap.size 5 i5 (.int .u8 0) 1 Tryd.underlying50 hi hz0 hz1 .i64 .i64 524289 524289 524289 rfl rfl rfl rfl (by rw [hz2]; decide) (by unfold maxLen; decide) b8.size ?_)
  intro w9 hown hgrow
  rw [toList_madeCells_one] at hown
  have hconv := zeros_text hown
  have B89 : Below w8.heap.size w8 w9 := (Below.refl _ w8).grown hgrow (Nat.le_refl _) (fun k hk => by cases hk)
  have L9 := L8'.below B89
  have r9 := r8.below B89
  have b9 := b8.trans (B89.mono b8.size)
  have c8 := c7 _ _ _ L9 r9
  clear c7 hown hgrow B89 L8' r8 L9 r9
  obtain ⟨Z, hZ⟩ : ∃ Z : ByteArray, ⟨(List.replicate 524289 (0 : UInt8)).toArray⟩ = Z := ⟨_, rfl⟩
  rw [hZ] at hconv c8
  clear hZ
  go_wp2_with fail
  refine c8.mono ?_
  rintro e w10 ⟨rfl, _, _, f10⟩
  have b10 := b9.trans (f10.below _ (Nat.le_refl _) (by have := b4.size; omega))
  clear c8 f10
  go_wp2_with fail
  refine (num_any _ _).mono ?_
  rintro e w' ⟨rfl, rfl⟩
  go_wp2_with fail
  go_ret
  exact ⟨rfl, b10⟩

end Go.Proofs.YtglkapamkigdhaaDoor.Rl

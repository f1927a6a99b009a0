/-
  The law LedgerLasts, walked: it answers true, at every argument. Conditions: the form's own reach; the library's variables hold what their types allow.
-/
import Derived.Test.YtglkapamkigdhaaDoorLastsM
import Derived.Test.YtglkapamkigdhaaDoorRlMixed
import Derived.Test.YtglkapamkigdhaaDoorLive
import Derived.Maps.AppendAt
namespace Go.Proofs.YtglkapamkigdhaaDoor.Rl
open Go.RowKit
open Go.Proofs.YtglkapamkigdhaaDoor.M (pageT kBase kRec inR tellT tell_len)

/-- the box in which a round lays its act -/
def Bx (g : Nat) (a : Act) (w : World) : Prop := w.heap[g]? = some (.cells #[.int .i64 a.kind, .string a.s, .int .i64 a.n, .int .i64 a.k0, .int .i64 a.k1, .int .u8 a.u.toNat] 38 (0, 0))
theorem Bx.cells {g : Nat} {a : Act} {w : World} (h : Bx g a w) : w.cell? ⟨g, 0, none⟩ = some (.int .i64 a.kind) ∧ w.cell? ⟨g, 1, none⟩ = some (.string a.s) ∧ w.cell? ⟨g, 2, none⟩ = some (.int .i64 a.n) ∧ w.cell? ⟨g, 3, none⟩ = some (.int .i64 a.k0) ∧ w.cell? ⟨g, 4, none⟩ = some (.int .i64 a.k1) ∧ w.cell? ⟨g, 5, none⟩ = some (.int .u8 a.u.toNat) :=
  ⟨by rw [Lib.cell_of_heap h]; rfl, by rw [Lib.cell_of_heap h]; rfl, by rw [Lib.cell_of_heap h]; rfl, by rw [Lib.cell_of_heap h]; rfl, by rw [Lib.cell_of_heap h]; rfl, by rw [Lib.cell_of_heap h]; rfl⟩
theorem Bx.below {g : Nat} {a : Act} {w w' : World} (h : Bx g a w) (hb : Below w.heap.size w w') : Bx g a w' := by unfold Bx; rw [hb.block g (lt_of_block h)]; exact h
theorem Bx.fr {b g : Nat} {m : M} {a : Act} {w w' : World} (h : Bx g a w) (f : Fr b w w') (hr : RP b m w) (hb : g ≠ b) : Bx g a w' := f.other hr g _ _ _ h hb (by decide)
theorem Bx.fl {b q g : Nat} {m : M} {a : Act} {w w' : World} (h : Bx g a w) (f : FL b q w w') (hr : RP b m w) (hb : g ≠ b) (hq : g ≠ q) : Bx g a w' := f.other hr g _ _ _ h hb hq (by decide)

/-- what the law carries ahead of act k -/
structure LR (w : World) (k : Nat) (va vb vn vall vmore : Value) (wr : World) : Prop where
  ex : ∃ (q : Nat) (B0 B1 : ByteArray) (ss tt : List ByteArray) (m : M) (l : Lg), va = ptr q ∧ vb = .string B0 ∧ vn = .string B1 ∧ LP q w.heap.size l wr ∧ RP w.heap.size m wr ∧ LI k m l B0.data.toList (texts ss) B1.data.toList (texts tt) ∧
    SR w.heap.size vall ss wr ∧ SR w.heap.size vmore tt wr ∧ w.heap.size ≤ q
  below : Below w.heap.size w wr

theorem run_append2 {P : Program} {a : Go.Act} {o : Oper} {s x : Operand} {t : TypeId} {v y v' : Value} {w w' : World} (ho : o.op = .call { callee := .builtin .append, args := #[s, x], argTypes := #[t, t] }) (hs : a.eval s = v) (hx : a.eval x = y)
    (hrun : (Builtin.append_ #[t, t] o.type #[v, y]).run P w = .ok v' w') : (execOp a.eval o).run P w = .ok (.value v') w' := by
  simp [execOp, ho, resolve, invoke, builtin, hs, hx, hrun, Result.andThen]

/-- region 24, 'next, more = base, append(append([]string{}, all...), x.S)', wherever it stands -/
structure R24 (w0 : World) (ss : List ByteArray) (s : ByteArray) (L : Nat → Bool) (u : Nat → Value) (wx : World) : Prop where
  b : Below w0.heap.size w0 wx
  o1 : L 1 = true → L 3 = false → wx.ownsRow w0.heap.size 9 1 (u 1) 0 []
  o3 : L 3 = true → L 7 = false → wx.ownsRow w0.heap.size 9 1 (u 3) ss.length (ss.map Value.string)
  o6 : L 6 = true → L 7 = false → ∃ g, u 6 = .slice (some ⟨g, 0, none⟩) 1 1 ∧ wx.cell? ⟨g, 0, none⟩ = some (.string s) ∧ g < wx.heap.size ∧ (L 1 = true → L 3 = false → (u 1).ownBlock ≠ some g) ∧ (L 3 = true → (u 3).ownBlock ≠ some g)
  o7 : L 7 = true → wx.ownsRow w0.heap.size 9 1 (u 7) (ss.length + 1) ((ss ++ [s]).map Value.string)
theorem own_ne {w : World} {base e size n : Nat} {v : Value} {xs : List Value} (h : w.ownsRow base e size v n xs) : v.ownBlock ≠ some w.heap.size := fun hk => by have := (h.lt _ hk).2; omega
theorem R24.start (w0 : World) (ss : List ByteArray) (s : ByteArray) : R24 w0 ss s (fun _ => false) (fun _ => undef) w0.drew :=
  ⟨(Below.refl _ w0).drew, fun h => (by cases h), fun h => (by cases h), fun h => (by cases h), fun h => (by cases h)⟩
theorem R24.one {w0 wx : World} {ss : List ByteArray} {s : ByteArray} {L : Nat → Bool} {u : Nat → Value} (h : R24 w0 ss s L u wx) (h3 : L 3 = false) (h7 : L 7 = false) :
    R24 w0 ss s (St.mark L 1) (St.upd u 1 (.slice (some ⟨wx.heap.size, 0, none⟩) 0 0)) (wx.alloc (.cells #[] 9)) := by
  refine ⟨h.b.alloc h.b.size _, fun _ _ => World.ownsRow_made wx #[] 0 h.b.size (by unfold maxLen; omega) rfl, fun h' => ?_, fun h' h'' => ?_, fun h' => ?_⟩
  · rw [show St.mark L 1 3 = L 3 from rfl, h3] at h'; cases h'
  · obtain ⟨g, h1, h2, h4, h5, h6⟩ := h.o6 h' h''
    refine ⟨g, h1, by rw [World.cell?_alloc_lt wx _ ⟨g, 0, none⟩ h4]; exact h2, by simp; omega, fun _ _ => ?_, fun h'' => h6 h''⟩
    show some wx.heap.size ≠ some g
    intro e; injection e; omega
  · rw [show St.mark L 1 7 = L 7 from rfl, h7] at h'; cases h'
theorem R24.six {w0 wx : World} {ss : List ByteArray} {s : ByteArray} {L : Nat → Bool} {u : Nat → Value} (h : R24 w0 ss s L u wx) (h7 : L 7 = false) :
    R24 w0 ss s (St.mark L 6) (St.upd u 6 (.slice (some ⟨wx.heap.size, 0, none⟩) 1 1)) (wx.alloc (.cells #[.string s] 9)) := by
  refine ⟨h.b.alloc h.b.size _, fun h1 h3 => (h.o1 h1 h3).alloc _, fun h1 h3 => (h.o3 h1 h3).alloc _, fun _ h' => ?_, fun h' => ?_⟩
  · refine ⟨wx.heap.size, rfl, World.cell?_alloc_new wx _ _ 0, by simp, fun h1 h3 => ?_, fun h1 => ?_⟩
    · show (u 1).ownBlock ≠ _
      exact own_ne (h.o1 h1 h3)
    · show (u 3).ownBlock ≠ _
      exact own_ne (h.o3 h1 h7)
  · rw [show St.mark L 6 7 = L 7 from rfl, h7] at h'; cases h'
theorem R24.three {w0 wx : World} {ss : List ByteArray} {s : ByteArray} {L : Nat → Bool} {u : Nat → Value} (h : R24 w0 ss s L u wx) (h1 : L 1 = true) (h3 : L 3 = false) (h7 : L 7 = false) {B : Nat} {v : Value} (hv : SR B v ss wx) (hle : ss.length ≤ 100) (ty : TypeId) :
    ∃ v' w', (Builtin.append_ #[31, 31] ty #[u 1, v]).run Tryd.prog wx = .ok v' w' ∧ R24 w0 ss s (St.mark L 3) (St.upd u 3 v') w' := by
  obtain ⟨i0, hi, hz0, hz1, hz2⟩ := info_parts infoStr
  have ho := h.o1 h1 h3
  obtain ⟨base, hB, hrow⟩ := hv
  have fin : ∀ v' w', w'.ownsRow w0.heap.size 9 1 v' ss.length (ss.map Value.string) → wx.grownBy w' (u 1).ownBlock → (v'.ownBlock = (u 1).ownBlock ∨ v'.ownBlock = some wx.heap.size) → R24 w0 ss s (St.mark L 3) (St.upd u 3 v') w' := by
    intro v' w' k1 k2 k3
    refine ⟨h.b.grown k2 h.b.size (fun k hk => (ho.lt k hk).1), fun _ h' => ?_, fun _ _ => k1, fun h6 h7' => ?_, fun h' => ?_⟩
    · rw [show St.mark L 3 3 = true from rfl] at h'; cases h'
    · obtain ⟨g, g1, g2, g3, g4, g5⟩ := h.o6 h6 h7'
      have hne := g4 h1 h3
      refine ⟨g, g1, k2.cell (a := ⟨g, 0, none⟩) g2 (fun e => hne e.symm), Nat.lt_of_lt_of_le g3 k2.size, fun _ h' => ?_, fun _ => ?_⟩
      · rw [show St.mark L 3 3 = true from rfl] at h'; cases h'
      · show v'.ownBlock ≠ some g
        rcases k3 with k3 | k3
        · rw [k3]; exact hne
        · rw [k3]; intro e; injection e; omega
    · rw [show St.mark L 3 7 = L 7 from rfl, h7] at h'; cases h'
  rcases hrow.2 with ⟨rfl, h0⟩ | ⟨g, cap, cur, rfl, _⟩
  · have hrun := run_append_owned_none (P := Tryd.prog) (w := wx) w0.heap.size 31 ty 9 i0 1 Tryd.underlying31 hi (u 1) 0 [] ho
    refine ⟨u 1, wx, by simpa [h0] using hrun, fin _ _ ?_ ⟨rfl, rfl, rfl, Nat.le_refl _, fun _ _ _ => rfl⟩ (.inl rfl)⟩
    rw [List.length_eq_zero_iff.1 h0]; exact ho
  · obtain ⟨v', w', k1, k2, k3, _, k4⟩ := run_append_own_at (P := Tryd.prog) (w := wx) w0.heap.size 31 ty 9 i0 (.string ⟨#[]⟩) 1 16 Tryd.underlying31 hi hz0 hz1 hz2 rfl (by decide) (u 1) 0 [] ho ⟨g, 0, none⟩ ss.length cap (ss.map Value.string)
      (by simp) (fun j x hx => hrow.cells rfl j x hx) (fun x hx => by simp at hx; obtain ⟨z, _, rfl⟩ := hx; rfl) (by unfold maxLen; omega) (by omega) h.b.size
    exact ⟨v', w', k1, fin _ _ (by simpa using k2) k3 k4⟩
theorem R24.seven {w0 wx : World} {ss : List ByteArray} {s : ByteArray} {L : Nat → Bool} {u : Nat → Value} (h : R24 w0 ss s L u wx) (h3 : L 3 = true) (h6 : L 6 = true) (h7 : L 7 = false) (hle : ss.length ≤ 100) (ty : TypeId) :
    ∃ v' w', (Builtin.append_ #[31, 31] ty #[u 3, u 6]).run Tryd.prog wx = .ok v' w' ∧ R24 w0 ss s (St.mark L 7) (St.upd u 7 v') w' := by
  obtain ⟨i0, hi, hz0, hz1, hz2⟩ := info_parts infoStr
  have ho := h.o3 h3 h7
  obtain ⟨g, g1, g2, g3, g4, g5⟩ := h.o6 h6 h7
  obtain ⟨v', w', k1, k2, k3, _, k4⟩ := run_append_own_at (P := Tryd.prog) (w := wx) w0.heap.size 31 ty 9 i0 (.string ⟨#[]⟩) 1 16 Tryd.underlying31 hi hz0 hz1 hz2 rfl (by decide) (u 3) ss.length (ss.map Value.string) ho ⟨g, 0, none⟩ 1 1 [.string s]
    rfl (fun j x hx => by
      match j with
      | 0 => simp at hx; subst hx; exact g2
      | j + 1 => simp at hx) (fun x hx => by simp at hx; subst hx; rfl) (by unfold maxLen; omega) (by omega) h.b.size
  rw [← g1] at k1
  have no : ∀ {P : Prop}, St.mark L 7 7 = false → P := fun h' => by rw [show St.mark L 7 7 = true from rfl] at h'; cases h'
  exact ⟨v', w', k1, ⟨h.b.grown k3 h.b.size (fun k hk => (ho.lt k hk).1), fun h1 h3' => (by rw [show St.mark L 7 3 = L 3 from rfl, h3] at h3'; cases h3'), fun _ h' => no h', fun _ h' => no h', fun _ => by
    show w'.ownsRow _ 9 1 v' _ _
    simpa using k2⟩⟩

set_option maxHeartbeats 64000000 in
set_option maxRecDepth 100000 in
theorem walk_lasts (v : Value) (xs : List Act) (w : World) (hv : SA w w.heap.size v xs) (hl : xs.length ≤ 140737488355328) (ha : ∀ a ∈ xs, a.ok) (hg : Good w) :
    Calls Tryd.prog 3 #[v] w fun e w' => e = .returned (.bool true) ∧ Below w.heap.size w w' := by
  have cs := c_small v xs w hv hl (fun a h => (ha a h).s)
  obtain ⟨A, c, rfl⟩ := hv.form
  have h3 := hg.size
  have cn := new_good 4194304 w (by decide)
  have k0 : (M.new 4194304).ok := M.ok.new (by decide)
  obtain ⟨m1, e1, W1, C1, q1⟩ := fresh (room := 4194304) (by decide)
  obtain ⟨k1, o1⟩ := openM_ok' k0 (by decide) e1
  have o1' : m1.ops ≤ 4 := by simpa [M.new] using o1
  have c1 := fun (b : Nat) (w : World) (hr : RP b (M.new 4194304) w) (hg : Good w) => open_gives hr k0 (by decide) hg e1
  have I0 := LI.start W1 k1 o1' q1
  have HI := Lib.hid I0
  clear W1 C1 e1 o1 k0 o1' q1 I0 k1
  go_enter Tryd.func3, Tryd.ntmps3
  go_wp2_with fail
  refine cs.mono ?_
  rintro e w' ⟨q, rfl, rfl, hq⟩
  have HQ := Lib.hid hq
  clear hq cs
  cases q with
  | false =>
    go_wp2_with fail
    refine (live_any _ hg).mono ?_
    rintro e w1 ⟨rfl, b1⟩
    go_wp2_with fail
    go_ret
    exact ⟨rfl, b1⟩
  | true =>
    obtain ⟨hl50, hs⟩ := HQ.out rfl
    have HA := Lib.hid ha
    have HS := Lib.hid hs
    clear ha hs HQ
    go_wp2_with fail
    refine cn.mono ?_
    rintro e w1 ⟨rfl, r1, b1, hsz1⟩
    clear cn
    go_wp2_with fail
    refine (num_any _ _).mono ?_
    rintro e w' ⟨rfl, rfl⟩
    go_wp2_with fail
    refine (c1 _ _ r1 (hg.since h3 b1)).mono ?_
    rintro e w2 ⟨q, B, v, rs, rfl, hB, hss, L2, hq, hSR, r2, f2⟩
    have b2 := b1.trans f2.below
    have hqN : w.heap.size ≤ q := by omega
    obtain rfl : B = ⟨#[]⟩ := ba_ext hB
    clear c1 r1 f2 hSR hB hss b1 hq hsz1
    go_wp2_with fail
    refine (num_any _ _).mono ?_
    rintro e w' ⟨rfl, rfl⟩
    go_wp2_with fail
    have hnil := SR.nil w2
    go_loopw [5, 9, 10, 11, 12, 13] (fun va vb vn vall vmore vi wr => ∃ k : Nat, k ≤ xs.length ∧ vi = .int .i64 (k : Int) ∧ LR w k va vb vn vall vmore wr) (fun _ _ _ _ _ vi _ => xs.length - (intOf vi).toNat)
    case atStart => exact ⟨0, by omega, rfl, ⟨q, ⟨#[]⟩, ⟨#[]⟩, [], [], m1, _, rfl, rfl, rfl, L2, r2, HI.out, hnil.more b2.size, hnil.more b2.size, hqN⟩, b2⟩
    case round =>
      clear r2 L2 b2 HI hnil
      obtain ⟨k, hk, rfl, ⟨q, B0, B1, ss, tt, m, l, rfl, rfl, rfl, hL, hR, hI, hall, hmore, hqN⟩, hbw⟩ := hrel
      obtain ⟨A1, n1, rfl⟩ := hall.form
      obtain ⟨A2, n2, rfl⟩ := hmore.form
      have HI := Lib.hid hI
      have HL := Lib.hid hall
      have HM := Lib.hid hmore
      clear hI hall hmore
      by_cases hlt : k < xs.length
      · have hlti : (k : Int) < (xs.length : Int) := by omega
        obtain ⟨bl, o, rfl, hbl, hc⟩ := hv.at_ hlt
        have hao := HA.out xs[k] (List.getElem_mem hlt)
        have hsz := HS.out xs[k] (List.getElem_mem hlt)
        obtain ⟨a, hak⟩ : ∃ a, xs[k] = a := ⟨_, rfl⟩
        rw [hak] at hao hsz hc
        clear hak
        have e := fun j => hbw.cell (p := ⟨bl, o + k * 6 + j, none⟩) hbl
        have d0 := (e 0).trans (hc 0 (by omega))
        have d1 := (e 1).trans (hc 1 (by omega))
        have d2 := (e 2).trans (hc 2 (by omega))
        have d3 := (e 3).trans (hc 3 (by omega))
        have d4 := (e 4).trans (hc 4 (by omega))
        have d5 := (e 5).trans (hc 5 (by omega))
        simp only [actC, Nat.add_zero] at d0 d1 d2 d3 d4 d5
        clear e hc
        have HAO := Lib.hid hao
        have HSZ := Lib.hid hsz
        have HRR := Lib.hid hR
        have HLL := Lib.hid hL
        clear hao hsz hR hL
        obtain ⟨kd, s, nn, k0, k1, u⟩ := a
        dsimp only at d0 d1 d2 d3 d4 d5
        have hB1 : Below wr.heap.size wr (wr.alloc (.cells #[.int .i64 kd, .string s, .int .i64 nn, .int .i64 k0, .int .i64 k1, .int .u8 u.toNat] 38)) := (Below.refl _ wr).alloc (Nat.le_refl _) _
        have hBx : Bx wr.heap.size ⟨kd, s, nn, k0, k1, u⟩ (wr.alloc (.cells #[.int .i64 kd, .string s, .int .i64 nn, .int .i64 k0, .int .i64 k1, .int .u8 u.toNat] 38)) := heap_alloc_new wr _
        obtain ⟨W1, hW1⟩ : ∃ W1, W1 = wr.alloc (.cells #[.int .i64 kd, .string s, .int .i64 nn, .int .i64 k0, .int .i64 k1, .int .u8 u.toNat] 38) := ⟨_, rfl⟩
        rw [← hW1] at hB1 hBx
        have R1 := HRR.out.below hB1
        have L1 := HLL.out.below hB1
        have all1 := HL.out.below hB1
        have more1 := HM.out.below hB1
        have BW1 : Below w.heap.size w W1 := hbw.trans (hB1.mono hbw.size)
        have hgq : wr.heap.size ≠ q := by have := HLL.out.lt; omega
        have hgb : wr.heap.size ≠ w.heap.size := by have := HRR.out.lt; omega
        have hW1' := Lib.hid hW1
        have HBX := Lib.hid hBx
        have HR1 := Lib.hid R1
        have HL1 := Lib.hid L1
        have HA1 := Lib.hid all1
        have HM1 := Lib.hid more1
        clear R1 L1 all1 more1 hBx HL HM HLL HRR hB1 hbw
        by_cases hk2 : kd = 2
        · subst hk2
          have ca := c_arm w.heap.size m nn W1 HR1.out
          clear hW1
          go_wp2_with fail
          rw [← hW1'.out]
          refine ca.mono ?_
          rintro e w4 ⟨rfl, r4, f4⟩
          have FIN := Lib.hid (show LR w (k + 1) (ptr q) (.string B0) (.string B1) (.slice A1 ss.length n1) (.slice A2 tt.length n2) w4 from
            ⟨⟨q, B0, B1, ss, tt, m.arm nn, l, rfl, rfl, rfl, HL1.out.fr HR1.out f4, r4, HI.out.arm HAO.out.n0 HAO.out.n1, HA1.out.keep (f4.keep9 HR1.out), HM1.out.keep (f4.keep9 HR1.out), hqN⟩, BW1.trans f4.below⟩)
          clear ca r4 f4
          go_wp2_with fail
          go_roundw
          case rel => exact ⟨k + 1, by omega, by go_num, FIN.out⟩
          case measure => simp [intOf]; omega
        by_cases hk3 : kd = 3
        · subst hk3
          by_cases hu : u = 0
          · subst hu
            obtain ⟨l', b', xs', m', q1, I', q6⟩ := HI.out.crash (by omega) k0 k1
            have hao := HAO.out
            have cc := c_crash k0 k1 0 HR1.out HI.out.ok hao.k00 hao.k01 hao.k10 hao.k11
            have j4 := HI.out.ok.crash k0 k1 0
            have o4 := HI.out.ops
            have co := fun (wx : World) (hr : RP w.heap.size (m.crash k0 k1 0) wx) (hg : Good wx) => open_gives hr j4 (by show m.ops < _; omega) hg q1
            have h49 : ss.length ≤ 50 ∧ tt.length ≤ 50 := by
              have e1 := HI.out.hxk
              have e2 := HI.out.hyk
              rw [texts_length] at e1 e2
              omega
            have hrs : xs'.length ≤ 51 := by have := I'.hxk; omega
            have hI' := Lib.hid I'
            have h6 := Lib.hid q6
            clear q1 I' q6 hao j4 o4 hW1
            go_wp2_with fail
            rw [← (show W1 = wr.alloc (.cells #[.int .i64 3, .string s, .int .i64 nn, .int .i64 k0, .int .i64 k1, .int .u8 0] 38) from hW1'.out)]
            refine cc.mono ?_
            rintro e w4 ⟨rfl, r4, f4⟩
            have B4 := BW1.trans f4.below
            have all4 := HA1.out.keep (f4.keep9 HR1.out)
            have more4 := HM1.out.keep (f4.keep9 HR1.out)
            clear cc f4 BW1
            go_wp2_with fail
            refine (co _ r4 (hg.since h3 B4)).mono ?_
            rintro e w5 ⟨q5, B5, v5, rs5, rfl, hB5, hss5, L5, hq5, hS5, r5, f5⟩
            have B5' := B4.trans f5.below
            have hq5' : w.heap.size ≤ q5 := Nat.le_trans B4.size hq5
            have all5 := all4.keep (f5.keep9 r4)
            have more5 := more4.keep (f5.keep9 r4)
            have S5 := hS5.more B4.size
            have hrl : rs5.length ≤ 51 := by rw [← hss5, texts_length] at hrs; exact hrs
            obtain ⟨A5, n5, rfl⟩ := hS5.form
            have hs5 := hS5.sl
            have ca := same_any _ _ rs5 ss w5 hs5 all5.sl (by omega) (by omega)
            have cm := same_any _ _ rs5 tt w5 hs5 more5.sl (by omega) (by omega)
            have cm2 := Lib.hid (fun wx (hb : Below w5.heap.size w5 wx) => same_any _ _ rs5 tt wx ((hs5.below hb).more hb.size) ((more5.sl.below hb).more hb.size) (by omega) (by omega))
            rw [← hB5, ← hss5] at hI' h6
            have FIN := Lib.hid (show ∀ w6, Below w5.heap.size w5 w6 → LR w (k + 1) (ptr q5) (.string B5) (.string B5) (.slice A5 rs5.length n5) (.slice A5 rs5.length n5) w6 from
              fun w6 hb => ⟨⟨q5, B5, B5, rs5, rs5, m', l', rfl, rfl, rfl, L5.below hb, r5.below hb, hI'.out, S5.below hb, S5.below hb, hq5'⟩, B5'.trans (hb.mono B5'.size)⟩)
            have eqs : (B5 = B0 ∧ rs5 = ss) ∨ (B5 ≠ B0 ∧ B5 = B1 ∧ rs5 = tt) ∨ (B5 = B0 ∧ rs5 ≠ ss ∧ B5 = B1 ∧ rs5 = tt) := by
              rcases h6.out with ⟨h, h'⟩ | ⟨h, h'⟩
              · exact .inl ⟨ba_ext h, texts_inj h'⟩
              · by_cases e1 : B5 = B0
                · by_cases e2 : rs5 = ss
                  · exact .inl ⟨e1, e2⟩
                  · exact .inr (.inr ⟨e1, e2, ba_ext h, texts_inj h'⟩)
                · exact .inr (.inl ⟨e1, ba_ext h, texts_inj h'⟩)
            have EQS := Lib.hid eqs
            have HCA := Lib.hid ca
            have HCM := Lib.hid cm
            clear eqs co hB5 hss5 hS5 f5 r4 hs5 all4 more4 all5 more5 S5 hI' h6 r5 L5 B4 hrs ca cm hrl h49 hq5
            go_wp2_with fail
            refine (num_any _ _).mono ?_
            rintro e w' ⟨rfl, rfl⟩
            rcases EQS.out with ⟨h, h'⟩ | ⟨h, h', h''⟩ | ⟨h, h', h'', h'''⟩
            · have s1 := eq_yes h
              have ca := HCA.out
              rw [decide_eq_true h'] at ca
              clear h h'
              go_wp2_with fail
              refine ca.mono ?_
              rintro e w6 ⟨rfl, b6⟩
              have fin := Lib.hid (FIN.out w6 b6)
              clear ca b6
              go_wp2_with fail
              go_roundw
              case rel => exact ⟨k + 1, by omega, by go_num, fin.out⟩
              case measure => simp [intOf]; omega
            · have s1 := eq_no h
              have s2 := eq_yes h'
              have ca := HCM.out
              rw [decide_eq_true h''] at ca
              clear h h' h''
              go_wp2_with fail
              refine ca.mono ?_
              rintro e w6 ⟨rfl, b6⟩
              have fin := Lib.hid (FIN.out w6 b6)
              clear ca b6
              go_wp2_with fail
              go_roundw
              case rel => exact ⟨k + 1, by omega, by go_num, fin.out⟩
              case measure => simp [intOf]; omega
            · have s1 := eq_yes h
              have s2 := eq_yes h''
              have ca := HCA.out
              rw [decide_eq_false h'] at ca
              have HTT := Lib.hid h'''
              clear h h' h'' h'''
              go_wp2_with fail
              refine ca.mono ?_
              rintro e w6 ⟨rfl, b6⟩
              have cb := cm2.out w6 b6
              rw [decide_eq_true HTT.out] at cb
              clear ca
              go_wp2_with fail
              refine cb.mono ?_
              rintro e w7 ⟨rfl, b7⟩
              have fin := Lib.hid (FIN.out w7 (b6.trans (b7.mono b6.size)))
              clear cb b6 b7
              go_wp2_with fail
              go_roundw
              case rel => exact ⟨k + 1, by omega, by go_num, fin.out⟩
              case measure => simp [intOf]; omega
          · have e5 : ((u.toNat : Int) != 0) = true := by
              have : u.toNat ≠ 0 := fun h => hu (UInt8.toNat_inj.1 (by simpa using h))
              simp only [bne_iff_ne, ne_eq]
              omega
            have cl := live_any W1 (hg.since h3 BW1)
            clear hW1
            go_wp2_with fail
            rw [← hW1'.out]
            refine cl.mono ?_
            rintro e w4 ⟨rfl, b4⟩
            go_wp2_with fail
            go_ret
            exact ⟨rfl, BW1.trans (b4.mono BW1.size)⟩
        by_cases hk01 : kd = 0 ∨ kd = 1
        · have cb := l_broken HL1.out
          by_cases hbr : l.broken = true
          · rw [hbr] at cb
            have ca := add_gives s HL1.out HR1.out HI.out.ok (by have := HI.out.ops; omega) (HI.out.lok (by omega)) rfl (HI.out.dead hbr _)
            have FIN := Lib.hid (show ∀ w4, LP q w.heap.size l w4 → RP w.heap.size m w4 → FL w.heap.size q W1 w4 → LR w (k + 1) (ptr q) (.string B0) (.string B1) (.slice A1 ss.length n1) (.slice A2 tt.length n2) w4 from
              fun w4 L4 r4 f4 => ⟨⟨q, B0, B1, ss, tt, m, l, rfl, rfl, rfl, L4, r4, HI.out.next, HA1.out.keep (f4.keep9 HR1.out HL1.out), HM1.out.keep (f4.keep9 HR1.out HL1.out), hqN⟩, BW1.trans (f4.below _ (Nat.le_refl _) hqN)⟩)
            have e40 : ((40 : Int) != 40) = false := rfl
            clear hbr hW1 BW1
            rcases hk01 with rfl | rfl
            all_goals
              go_wp2_with fail
              rw [← hW1'.out]
              refine cb.mono ?_
              rintro e w' ⟨rfl, rfl⟩
              have x1 := HBX.out.cells.2.1
              go_wp2_with fail
              refine ca.mono ?_
              rintro e w4 ⟨rfl, L4, r4, f4⟩
              have fin := Lib.hid (FIN.out w4 L4 r4 f4)
              clear L4 r4 f4
              go_wp2_with fail
              refine (num_any _ _).mono ?_
              rintro e w' ⟨rfl, rfl⟩
              go_wp2_with fail
              go_roundw
              case rel => exact ⟨k + 1, by omega, by go_num, fin.out⟩
              case measure => simp [intOf]; omega
          · have hbr : l.broken = false := by simpa using hbr
            rw [hbr] at cb
            have hsl : s.data.toList.length ≤ 8000 := by have := HSZ.out; simpa using this
            rcases hk01 with rfl | rfl
            · obtain ⟨e, l', m', q1, q2⟩ := HI.out.add hbr (by omega) hsl
              have ca := fun wx (L4 : LP q w.heap.size l wx) (R4 : RP w.heap.size m wx) => add_gives s L4 R4 HI.out.ok (by have := HI.out.ops; omega) (HI.out.lok (by omega)) rfl q1
              have h49 : ss.length ≤ 100 := by
                have e1 := HI.out.hxk
                rw [texts_length] at e1
                omega
              have H2 := Lib.hid q2
              have hS0 := R24.start W1 ss s
              clear hbr hW1 q1 q2
              go_wp2_with fail
              rw [← hW1'.out]
              refine cb.mono ?_
              rintro e' w' ⟨rfl, rfl⟩
              have x0 := HBX.out.cells.1
              have x1 := HBX.out.cells.2.1
              go_wp2_with fail
              refine St.wp_region_mixed (R24 W1 ss s) (fun _ _ => False) (by kernel_rfl) (by kernel_rfl) (by kernel_rfl) hS0 ?_
              apply St.mix_give
              · rfl
              · intro L u' wx hS hcl hrd hag
                go_simp
                try with_reducible rfl
              · exact fun L u' wx hS => ⟨hS.b, hS.o1, hS.o3, hS.o6, hS.o7⟩
              simp only [Act.put, List.setIfInBounds_toArray, List.set_cons_zero, List.set_cons_succ]
              refine St.mix_free (fun x => ∃ g, x = .slice (some ⟨g, 0, none⟩) 0 0) rfl ?_ ?_
              · intro L u' wx hS hcl hrd hag
                refine ⟨_, _, ⟨wx.heap.size, rfl⟩, ?_, hS.one (St.not_yet hcl hrd 40 3 (by kernel_rfl)) (St.not_yet hcl hrd 40 7 (by kernel_rfl))⟩
                go_simp
                try with_reducible rfl
              rintro y1 ⟨g1, rfl⟩
              simp only [Act.put, List.setIfInBounds_toArray, List.set_cons_zero, List.set_cons_succ]
              apply St.mix_give
              · rfl
              · intro L u' wx hS hcl hrd hag
                go_simp
                try with_reducible rfl
              · exact fun L u' wx hS => ⟨hS.b, hS.o1, hS.o3, hS.o6, hS.o7⟩
              simp only [Act.put, List.setIfInBounds_toArray, List.set_cons_zero, List.set_cons_succ]
              refine St.mix_free (fun x => True) rfl ?_ ?_
              · intro L u' wx hS hcl hrd hag
                obtain ⟨v', w', k1, k2⟩ := hS.three (St.before_ready hcl hrd 40 1 (by kernel_rfl)) hrd.1 (St.not_yet hcl hrd 40 7 (by kernel_rfl)) (HA1.out.below hS.b) h49 31
                rw [show u' 1 = .slice (some ⟨g1, 0, none⟩) 0 0 from hag 40 1 (by kernel_rfl)] at k1
                exact ⟨v', w', trivial, run_append2 rfl rfl rfl k1, k2⟩
              rintro y3 -
              simp only [Act.put, List.setIfInBounds_toArray, List.set_cons_zero, List.set_cons_succ]
              apply St.mix_give
              · rfl
              · intro L u' wx hS hcl hrd hag
                go_simp
                try with_reducible rfl
              · exact fun L u' wx hS => ⟨hS.b, hS.o1, hS.o3, hS.o6, hS.o7⟩
              simp only [Act.put, List.setIfInBounds_toArray, List.set_cons_zero, List.set_cons_succ]
              apply St.mix_give
              · rfl
              · intro L u' wx hS hcl hrd hag
                have x1' : wx.cell? ⟨wr.heap.size, 1, none⟩ = some (.string s) := (HBX.out.below hS.b).cells.2.1
                go_simp
                try with_reducible rfl
              · exact fun L u' wx hS => ⟨hS.b, hS.o1, hS.o3, hS.o6, hS.o7⟩
              simp only [Act.put, List.setIfInBounds_toArray, List.set_cons_zero, List.set_cons_succ]
              refine St.mix_free (fun x => ∃ g, x = .slice (some ⟨g, 0, none⟩) 1 1) rfl ?_ ?_
              · intro L u' wx hS hcl hrd hag
                refine ⟨_, _, ⟨wx.heap.size, rfl⟩, ?_, hS.six (St.not_yet hcl hrd 40 7 (by kernel_rfl))⟩
                go_simp
                try with_reducible rfl
              rintro y6 ⟨g6, rfl⟩
              simp only [Act.put, List.setIfInBounds_toArray, List.set_cons_zero, List.set_cons_succ]
              refine St.mix_free (fun x => True) rfl ?_ ?_
              · intro L u' wx hS hcl hrd hag
                obtain ⟨v', w', k1, k2⟩ := hS.seven (St.before_ready hcl hrd 40 3 (by kernel_rfl)) (St.before_ready hcl hrd 40 6 (by kernel_rfl)) hrd.1 h49 31
                rw [show u' 3 = y3 from hag 40 3 (by kernel_rfl), show u' 6 = .slice (some ⟨g6, 0, none⟩) 1 1 from hag 40 6 (by kernel_rfl)] at k1
                exact ⟨v', w', trivial, run_append2 rfl rfl rfl k1, k2⟩
              rintro y7 -
              simp only [Act.put, List.setIfInBounds_toArray, List.set_cons_zero, List.set_cons_succ]
              apply St.mix_give
              · rfl
              · intro L u' wx hS hcl hrd hag
                go_simp
                try with_reducible rfl
              · exact fun L u' wx hS => ⟨hS.b, hS.o1, hS.o3, hS.o6, hS.o7⟩
              simp only [Act.put, List.setIfInBounds_toArray, List.set_cons_zero, List.set_cons_succ]
              apply St.mix_give
              · rfl
              · intro L u' wx hS hcl hrd hag
                go_simp
                try with_reducible rfl
              · exact fun L u' wx hS => ⟨hS.b, hS.o1, hS.o3, hS.o6, hS.o7⟩
              simp only [Act.put, List.setIfInBounds_toArray, List.set_cons_zero, List.set_cons_succ]
              refine St.mix_last ?_
              intro L wx hS hall
              have o7 : wx.ownsRow W1.heap.size 9 1 y7 (ss.length + 1) ((ss ++ [s]).map Value.string) := hS.o7 (hall 7 (by decide))
              have bx := hS.b
              have more5 : SR w.heap.size y7 (ss ++ [s]) wx := ⟨W1.heap.size, BW1.size, by simpa using o7⟩
              have R5 := HR1.out.below bx
              have L5 := HL1.out.below bx
              have x1' := (HBX.out.below bx).cells.2.1
              have H40 := Lib.hid (show ∀ w4, FL w.heap.size q wx w4 → SR w.heap.size (.slice A1 ss.length n1) ss w4 ∧ SR w.heap.size y7 (ss ++ [s]) w4 ∧ Below w.heap.size w w4 from
                fun w4 f4 => ⟨(HA1.out.below bx).keep (f4.keep9 R5 L5), more5.keep (f4.keep9 R5 L5), (BW1.trans (bx.mono BW1.size)).trans (f4.below _ (Nat.le_refl _) hqN)⟩)
              have ca := ca wx L5 R5
              obtain ⟨A7, n7, rfl⟩ := more5.form
              clear hS hall o7 bx more5 R5 L5 BW1 hS0 x0 x1
              go_wp2_with fail
              refine ca.mono ?_
              rintro e' w4 ⟨rfl, L4, r4, f4⟩
              obtain ⟨all4, more4, B4⟩ := H40.out w4 f4
              clear f4 ca
              rcases H2.out with ⟨rfl, I'⟩ | ⟨rfl, I'⟩
              · have fin := Lib.hid (show LR w (k + 1) (ptr q) (.string B0) (.string B0) (.slice A7 (ss ++ [s]).length n7) (.slice A7 (ss ++ [s]).length n7) w4 from
                  ⟨⟨q, B0, B0, ss ++ [s], ss ++ [s], m', l', rfl, rfl, rfl, L4, r4, by simpa [texts] using I', more4, more4, hqN⟩, B4⟩)
                clear L4 r4 all4 more4 B4 I' H2
                go_wp2_with fail
                refine (num_any _ _).mono ?_
                rintro e w' ⟨rfl, rfl⟩
                go_wp2_with fail
                go_roundw
                case rel => exact ⟨k + 1, by omega, by go_num, by simpa using fin.out⟩
                case measure => simp [intOf]; omega
              · have fin := Lib.hid (show LR w (k + 1) (ptr q) (.string B0) (.string B0) (.slice A1 ss.length n1) (.slice A7 (ss ++ [s]).length n7) w4 from
                  ⟨⟨q, B0, B0, ss, ss ++ [s], m', l', rfl, rfl, rfl, L4, r4, by simpa [texts] using I', all4, more4, hqN⟩, B4⟩)
                clear L4 r4 all4 more4 B4 I' H2
                go_wp2_with fail
                refine (num_any _ _).mono ?_
                rintro e w' ⟨rfl, rfl⟩
                go_wp2_with fail
                go_roundw
                case rel => exact ⟨k + 1, by omega, by go_num, by simpa using fin.out⟩
                case measure => simp [intOf]; omega
            · obtain ⟨e, l', m', q1, q2⟩ := HI.out.base hbr (by omega) hsl
              have ca := base_gives s HL1.out HR1.out HI.out.ok (by have := HI.out.ops; omega) (HI.out.lok (by omega)) rfl q1
              have H2 := Lib.hid q2
              have H40 := Lib.hid (show ∀ w4, FL w.heap.size q W1 w4 → SR w.heap.size (.slice A1 ss.length n1) ss w4 ∧ Below w.heap.size w w4 from
                fun w4 f4 => ⟨HA1.out.keep (f4.keep9 HR1.out HL1.out), BW1.trans (f4.below _ (Nat.le_refl _) hqN)⟩)
              clear hbr hW1 BW1 q1 q2
              go_wp2_with fail
              rw [← hW1'.out]
              refine cb.mono ?_
              rintro e' w' ⟨rfl, rfl⟩
              have x0 := HBX.out.cells.1
              have x1 := HBX.out.cells.2.1
              go_wp2_with fail
              refine ca.mono ?_
              rintro e' w4 ⟨rfl, L4, r4, f4⟩
              obtain ⟨all4, B4⟩ := H40.out w4 f4
              have n4 : SR w.heap.size (.slice none 0 0) [] w4 := (SR.nil w4).more B4.size
              clear f4 ca
              rcases H2.out with ⟨rfl, I'⟩ | ⟨rfl, I'⟩
              · have fin := Lib.hid (show LR w (k + 1) (ptr q) (.string s) (.string s) (.slice none 0 0) (.slice none 0 0) w4 from
                  ⟨⟨q, s, s, [], [], m', l', rfl, rfl, rfl, L4, r4, I', n4, n4, hqN⟩, B4⟩)
                clear L4 r4 all4 n4 B4 I' H2
                go_wp2_with fail
                refine (num_any _ _).mono ?_
                rintro e w' ⟨rfl, rfl⟩
                go_wp2_with fail
                go_roundw
                case rel => exact ⟨k + 1, by omega, by go_num, fin.out⟩
                case measure => simp [intOf]; omega
              · have fin := Lib.hid (show LR w (k + 1) (ptr q) (.string B0) (.string s) (.slice A1 ss.length n1) (.slice none 0 0) w4 from
                  ⟨⟨q, B0, s, ss, [], m', l', rfl, rfl, rfl, L4, r4, I', all4, n4, hqN⟩, B4⟩)
                clear L4 r4 all4 n4 B4 I' H2
                go_wp2_with fail
                refine (num_any _ _).mono ?_
                rintro e w' ⟨rfl, rfl⟩
                go_wp2_with fail
                go_roundw
                case rel => exact ⟨k + 1, by omega, by go_num, fin.out⟩
                case measure => simp [intOf]; omega
        · have e0 : (kd == 0) = false := by simp; omega
          have e1 : (kd == 1) = false := by simp; omega
          have e2 : (kd == 2) = false := by simp; omega
          have e3 : (kd == 3) = false := by simp; omega
          have FIN := Lib.hid (show LR w (k + 1) (ptr q) (.string B0) (.string B1) (.slice A1 ss.length n1) (.slice A2 tt.length n2) W1 from
            ⟨⟨q, B0, B1, ss, tt, m, l, rfl, rfl, rfl, HL1.out, HR1.out, HI.out.next, HA1.out, HM1.out, hqN⟩, BW1⟩)
          clear hW1 BW1
          go_wp2_with fail
          rw [← hW1'.out]
          go_roundw
          case rel => exact ⟨k + 1, by omega, by go_num, FIN.out⟩
          case measure => simp [intOf]; omega
      · obtain rfl : k = xs.length := by omega
        have hlti : ¬ ((xs.length : Int) < (xs.length : Int)) := by omega
        clear hk hlt
        go_wp2_with fail
        refine (live_any _ (hg.since h3 hbw)).mono ?_
        rintro e w3 ⟨rfl, b3⟩
        go_wp2_with fail
        go_ret
        exact ⟨rfl, hbw.trans (b3.mono hbw.size)⟩

end Go.Proofs.YtglkapamkigdhaaDoor.Rl

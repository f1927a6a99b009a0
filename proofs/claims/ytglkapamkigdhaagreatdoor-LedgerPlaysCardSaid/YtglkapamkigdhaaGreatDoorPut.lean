/-
  The program's put, Add, Base, told of the model. Conditions: what may be of a reel; texts of 2^47 bytes at most; numbers that are numbers; fewer than 2^62 operations.
-/
import Derived.Test.YtglkapamkigdhaaGreatDoorLg
import Derived.Test.YtglkapamkigdhaaGreatDoorTail
namespace Go.Proofs.YtglkapamkigdhaaGreatDoor.Rl
open Go.RowKit
open Go.Proofs.YtglkapamkigdhaaGreatDoor.M (pageT kBase kRec inR page_length)

/-- a page is written to the end of a tape, and made safe -/
noncomputable def putM (l : Lg) (m : M) (t : Int) (P : Text) : Int × Lg × M :=
  if (m.write t P).1 = 5 then (5, l, (m.write t P).2) else if (m.write t P).1 ≠ 0 then ((m.write t P).1, { l with broken := true }, (m.write t P).2) else
    if ((m.write t P).2.sync t).1 ≠ 0 then (((m.write t P).2.sync t).1, { l with broken := true }, ((m.write t P).2.sync t).2) else (0, l, ((m.write t P).2.sync t).2)
theorem lg_same (l : Lg) : ({ l with broken := l.broken } : Lg) = l := rfl

set_option maxHeartbeats 4000000 in
set_option maxRecDepth 100000 in
theorem l_put {q b : Nat} {l : Lg} {m : M} {w : World} (t : Int) (k x : ByteArray) (n : Int) (h : LP q b l w) (hr : RP b m w) (hm : m.ok) (ho : m.ops < 4611686018427387903) (hn : inR n) (hk : k.size ≤ 4) (hx : x.size ≤ 524288) :
    Calls Tryz.prog 39 #[ptr q, .int .i64 t, pgV k n x] w fun r w' => r = .returned (.int .i64 (putM l m t (pageT k.data.toList n x.data.toList)).1) ∧ LP q b (putM l m t (pageT k.data.toList n x.data.toList)).2.1 w' ∧
      RP b (putM l m t (pageT k.data.toList n x.data.toList)).2.2 w' ∧ FL b q w w' := by
  have hlen := page_length (kind := k.data.toList) (n := n) (s := x.data.toList) (by simp; omega) hn (by simp; omega)
  have cby := fun w => bytes_any k x n w hn hk hx
  obtain ⟨P, hP⟩ : ∃ P, pageT k.data.toList n x.data.toList = P := ⟨_, rfl⟩
  rw [hP] at hlen
  simp only [hP] at cby
  rw [hP]
  have cw := fun w1 (hr1 : RP b m w1) => c_write t (tx P) hr1 hm (by omega) (by rw [tx_size]; omega)
  rw [tx_toList] at cw
  have hops := m.write_ops t P
  have hok := hm.write t P (by omega)
  have csy := fun w1 (hr1 : RP b (m.write t P).2 w1) => c_sync t hr1 hok (by omega)
  have hB : Below w.heap.size w (w.alloc (.cells #[.string k, .int .i64 n, .string x] 88)) := (Below.refl _ w).alloc (Nat.le_refl _) _
  have hL0 := h.below hB
  have hR0 := hr.below hB
  have hblt := hr.lt
  have hcell : ∀ wx, Below (w.heap.size + 1) (w.alloc (.cells #[.string k, .int .i64 n, .string x] 88)) wx → wx.cell? ⟨q, 0, none⟩ = some (ptr b) ∧ wx.cell? ⟨w.heap.size, 0, none⟩ = some (.string k) ∧ wx.cell? ⟨w.heap.size, 1, none⟩ = some (.int .i64 n) ∧ wx.cell? ⟨w.heap.size, 2, none⟩ = some (.string x) := by
    intro wx hx
    refine ⟨?_, ?_, ?_, ?_⟩
    · rw [hx.cell (p := ⟨q, 0, none⟩) (Nat.lt_succ_of_lt h.lt)]; exact hL0.cells.c0
    · rw [hx.cell (p := ⟨w.heap.size, 0, none⟩) (Nat.lt_succ_self _), World.cell?_alloc_at _ _ _ _ rfl]; rfl
    · rw [hx.cell (p := ⟨w.heap.size, 1, none⟩) (Nat.lt_succ_self _), World.cell?_alloc_at _ _ _ _ rfl]; rfl
    · rw [hx.cell (p := ⟨w.heap.size, 2, none⟩) (Nat.lt_succ_self _), World.cell?_alloc_at _ _ _ _ rfl]; rfl
  have P_by : ∀ wx, Below (w.heap.size + 1) (w.alloc (.cells #[.string k, .int .i64 n, .string x] 88)) wx → Calls Tryz.prog 61 #[pgV k n x] wx fun e w' => e = .returned (.string (tx P)) ∧ Below (w.heap.size + 1) (w.alloc (.cells #[.string k, .int .i64 n, .string x] 88)) w' := by
    intro wx hx
    refine (cby wx).mono ?_
    rintro e w' ⟨rfl, b⟩
    exact ⟨rfl, hx.trans (b.mono (by have := hx.size; simpa using this))⟩
  clear cby hlen hP
  have walk : ∀ (r : Int × Lg × M), r = putM l m t P → Calls Tryz.prog 39 #[ptr q, .int .i64 t, pgV k n x] w fun e w' => e = .returned (.int .i64 r.1) ∧ LP q b r.2.1 w' ∧ RP b r.2.2 w' ∧ FL b q w w' := by
    intro r hr'
    go_enter Tryz.func39, Tryz.ntmps39
    go_wp2_with fail
    refine St.wp_region_tail 7 (fun _ wx => Below (w.heap.size + 1) (w.alloc (.cells #[.string k, .int .i64 n, .string x] 88)) wx) (by kernel_rfl) (by kernel_rfl) (by kernel_rfl) (by kernel_rfl) (by decide) (Below.refl _ _).drew ?_
    simp only [List.take, List.drop]
    repeat (first
      | (apply St.step_give
         · rfl
         · intro L wx hS hcl hrd
           obtain ⟨d0, d1, d2, d3⟩ := hcell wx hS
           go_simp
           try with_reducible rfl
         · exact fun L wx hS => hS
         simp only [Act.put, List.setIfInBounds_toArray, List.set_cons_zero, List.set_cons_succ])
      | (apply St.step_into
         · rfl
         · intro wx
           go_simp
           exact ⟨rfl, rfl⟩
         · exact fun L wx hS hcl hrd => P_by wx hS
         simp only [Act.put, List.setIfInBounds_toArray, List.set_cons_zero, List.set_cons_succ]))
    refine St.step_last ?_
    intro L wx hS _
    have B0 : Below w.heap.size w wx := hB.trans (hS.mono (Nat.le_succ _))
    have hL := h.below B0
    have hR := hr.below B0
    have F0 : FL b q w wx := FL.of_below B0 hblt
    clear P_by hcell hS hL0 hR0 B0 hB
    go_wp2_with fail
    refine (cw _ hR).mono ?_
    rintro e w1 ⟨rfl, r1, f1⟩
    have L1 := hL.fr hR f1
    have F1 := F0.tr (FL.of_fr f1)
    clear hR hL F0 f1 cw
    obtain ⟨e1, he1⟩ : ∃ e1, (m.write t P).1 = e1 := ⟨_, rfl⟩
    obtain ⟨m1, hm1⟩ : ∃ m1, (m.write t P).2 = m1 := ⟨_, rfl⟩
    have hput : putM l m t P = if e1 = 5 then (5, l, m1) else if e1 ≠ 0 then (e1, { l with broken := true }, m1) else if (m1.sync t).1 ≠ 0 then ((m1.sync t).1, { l with broken := true }, (m1.sync t).2) else (0, l, (m1.sync t).2) := by
      unfold putM; rw [he1, hm1]
    rw [hput] at hr'
    rw [hm1] at r1 csy
    rw [he1]
    clear hput he1 hm1 hops hok
    by_cases h5 : e1 = 5
    · subst h5
      rw [if_pos rfl] at hr'
      subst hr'
      go_wp2_with fail
      go_ret
      exact ⟨rfl, L1, r1, F1⟩
    · have h5b : (e1 == 5) = false := by simpa using h5
      rw [if_neg h5] at hr'
      have cm := l_must e1 L1 r1
      by_cases h0 : e1 = 0
      · subst h0
        rw [if_neg (by simp)] at hr'
        rw [if_pos rfl] at cm
        go_wp2_with fail
        refine cm.mono ?_
        rintro e w2 ⟨rfl, L2, r2, f2⟩
        have F2 := F1.tr f2
        have c0 := L2.cells.c0
        clear cm L1 r1 F1 f2
        go_wp2_with fail
        refine (csy _ r2).mono ?_
        rintro e w3 ⟨rfl, r3, f3⟩
        have L3 := L2.fr r2 f3
        have F3 := F2.tr (FL.of_fr f3)
        have cm3 := l_must (m1.sync t).1 L3 r3
        clear csy L2 r2 F2 f3 c0
        go_wp2_with fail
        refine cm3.mono ?_
        rintro e w4 ⟨rfl, L4, r4, f4⟩
        have F4 := F3.tr f4
        go_wp2_with fail
        go_ret
        by_cases hz : (m1.sync t).1 = 0
        · rw [if_pos hz] at L4
          rw [if_neg (by simpa using hz)] at hr'
          subst hr'
          exact ⟨by rw [hz]; rfl, L4, r4, F4⟩
        · rw [if_neg hz] at L4
          rw [if_pos hz] at hr'
          subst hr'
          exact ⟨rfl, L4, r4, F4⟩
      · have h0b : (e1 != 0) = true := by simpa using h0
        rw [if_pos h0] at hr'
        subst hr'
        rw [if_neg h0] at cm
        clear h0 h5 csy
        go_wp2_with fail
        refine cm.mono ?_
        rintro e w2 ⟨rfl, L2, r2, f2⟩
        have F2 := F1.tr f2
        clear cm
        go_wp2_with fail
        go_ret
        exact ⟨rfl, L2, r2, F2⟩
  exact walk _ rfl

theorem addM_broken {l : Lg} (h : l.broken = true) (m : M) (s : Text) : addM l m s = (40, l, m) := by unfold addM; rw [if_pos h]
theorem addM_long {l : Lg} (h : l.broken = false) (m : M) {s : Text} (hs : 524288 < s.length) : addM l m s = (1, l, m) := by unfold addM; rw [if_neg (by rw [h]; decide), if_pos hs]
theorem addM_put {l : Lg} (h : l.broken = false) (m : M) {s : Text} (hs : ¬ 524288 < s.length) : addM l m s =
    (if (putM l m l.t (pageT kRec ((l.n : Int) + 1) s)).1 ≠ 0 then putM l m l.t (pageT kRec ((l.n : Int) + 1) s) else (0, { l with n := l.n + 1 }, (putM l m l.t (pageT kRec ((l.n : Int) + 1) s)).2.2)) := by
  unfold addM putM
  rw [if_neg (by rw [h]; decide), if_neg hs]
  generalize m.write l.t (pageT kRec ((l.n : Int) + 1) s) = r1
  obtain ⟨e1, m1⟩ := r1
  obtain ⟨t, ep, n, br⟩ := l
  simp only at h
  subst h
  simp only
  by_cases h5 : e1 = 5
  · subst h5
    simp [Lg.did]
  · by_cases h0 : e1 = 0
    · subst h0
      simp only [ne_eq, not_true_eq_false, if_false]
      generalize m1.sync t = r2
      obtain ⟨e2, m2⟩ := r2
      by_cases h2 : e2 = 0
      · subst h2; simp
      · simp [h2, Lg.did]
    · simp [h5, h0, Lg.did]
theorem baseM_broken {l : Lg} (h : l.broken = true) (m : M) (s : Text) : baseM l m s = (40, l, m) := by unfold baseM; rw [if_pos h]
theorem baseM_long {l : Lg} (h : l.broken = false) (m : M) {s : Text} (hs : 524288 < s.length) : baseM l m s = (1, l, m) := by unfold baseM; rw [if_neg (by rw [h]; decide), if_pos hs]
theorem baseM_put {l : Lg} (h : l.broken = false) (m : M) {s : Text} (hs : ¬ 524288 < s.length) : baseM l m s =
    (if (putM l m (1 - l.t) (pageT kBase (l.epoch + 1) s)).1 ≠ 0 then putM l m (1 - l.t) (pageT kBase (l.epoch + 1) s) else
      (if ((putM l m (1 - l.t) (pageT kBase (l.epoch + 1) s)).2.2.trim l.t 0).1 ≠ 0 then (((putM l m (1 - l.t) (pageT kBase (l.epoch + 1) s)).2.2.trim l.t 0).1, { l with broken := true }, ((putM l m (1 - l.t) (pageT kBase (l.epoch + 1) s)).2.2.trim l.t 0).2)
        else (0, ⟨1 - l.t, l.epoch + 1, 0, l.broken⟩, ((putM l m (1 - l.t) (pageT kBase (l.epoch + 1) s)).2.2.trim l.t 0).2))) := by
  unfold baseM putM
  rw [if_neg (by rw [h]; decide), if_neg hs]
  generalize m.write (1 - l.t) (pageT kBase (l.epoch + 1) s) = r1
  obtain ⟨e1, m1⟩ := r1
  obtain ⟨t, ep, n, br⟩ := l
  simp only at h
  subst h
  simp only
  by_cases h5 : e1 = 5
  · subst h5
    simp [Lg.did]
  · by_cases h0 : e1 = 0
    · subst h0
      simp only [ne_eq, not_true_eq_false, if_false]
      generalize m1.sync (1 - t) = r2
      obtain ⟨e2, m2⟩ := r2
      by_cases h2 : e2 = 0
      · subst h2
        simp only [not_true_eq_false, if_false]
        rcases hr3 : m2.trim t 0 with ⟨e3, m3⟩
        by_cases h3 : e3 = 0
        · subst h3; simp [hr3]
        · have h4 : (e3 != 0) = true := by simpa using h3
          simp [hr3, h3, h4, Lg.did]
      · simp [h2, Lg.did]
    · simp [h5, h0, Lg.did]
theorem putM_keep (l : Lg) (m : M) (t : Int) (P : Text) (h : (putM l m t P).1 = 0) : (putM l m t P).2.1 = l := by
  unfold putM at *
  split
  · rfl
  · rename_i h5
    rw [if_neg h5] at h
    split
    · rename_i h0; rw [if_pos h0] at h; exact absurd h h0
    · rename_i h0
      rw [if_neg h0] at h
      split
      · rename_i h2; rw [if_pos h2] at h; exact absurd h h2
      · rfl
theorem putM_ok (l : Lg) {m : M} (hm : m.ok) (ho : m.ops < 4611686018427387903) (t : Int) (P : Text) : (putM l m t P).2.2.ok ∧ (putM l m t P).2.2.ops ≤ m.ops + 2 := by
  have h1 := hm.write t P (by omega)
  have h2 := m.write_ops t P
  have h3 := h1.sync t (by omega)
  have h4 := (m.write t P).2.sync_ops t
  unfold putM
  split
  · exact ⟨h1, by show (m.write t P).2.ops ≤ _; omega⟩
  split
  · exact ⟨h1, by show (m.write t P).2.ops ≤ _; omega⟩
  split
  · exact ⟨h3, by show ((m.write t P).2.sync t).2.ops ≤ _; omega⟩
  · exact ⟨h3, by show ((m.write t P).2.sync t).2.ops ≤ _; omega⟩
theorem addM_ok (l : Lg) {m : M} (hm : m.ok) (ho : m.ops < 4611686018427387903) (s : Text) : (addM l m s).2.2.ok ∧ (addM l m s).2.2.ops ≤ m.ops + 2 := by
  cases hb : l.broken with
  | true => rw [addM_broken hb]; exact ⟨hm, Nat.le_add_right _ _⟩
  | false =>
    by_cases hs : 524288 < s.length
    · rw [addM_long hb m hs]; exact ⟨hm, Nat.le_add_right _ _⟩
    · rw [addM_put hb m hs]
      split
      · exact putM_ok l hm ho _ _
      · exact putM_ok l hm ho _ _
theorem baseM_ok (l : Lg) {m : M} (hm : m.ok) (ho : m.ops < 4611686018427387900) (s : Text) : (baseM l m s).2.2.ok ∧ (baseM l m s).2.2.ops ≤ m.ops + 3 := by
  cases hb : l.broken with
  | true => rw [baseM_broken hb]; exact ⟨hm, Nat.le_add_right _ _⟩
  | false =>
    by_cases hs : 524288 < s.length
    · rw [baseM_long hb m hs]; exact ⟨hm, Nat.le_add_right _ _⟩
    · rw [baseM_put hb m hs]
      have h1 := putM_ok l hm (by omega) (1 - l.t) (pageT kBase (l.epoch + 1) s)
      have h2 := h1.1.trim l.t 0 (by omega)
      have h3 := (putM l m (1 - l.t) (pageT kBase (l.epoch + 1) s)).2.2.trim_ops l.t 0
      split
      · exact ⟨h1.1, by omega⟩
      split
      · exact ⟨h2, Nat.le_trans h3 (by omega)⟩
      · exact ⟨h2, Nat.le_trans h3 (by omega)⟩

/-- what may be of a ledger -/
structure Lg.ok (l : Lg) : Prop where
  t : isT l.t = true
  e1 : 0 ≤ l.epoch
  e2 : l.epoch ≤ 6917529027641081856
  n : l.n ≤ 4611686018427387904

set_option maxHeartbeats 4000000 in
set_option maxRecDepth 100000 in
theorem l_add {q b : Nat} {l : Lg} {m : M} {w : World} (s : ByteArray) (h : LP q b l w) (hr : RP b m w) (hm : m.ok) (ho : m.ops < 4611686018427387903) (hl : l.ok) :
    Calls Tryz.prog 13 #[ptr q, .string s] w fun r w' => r = .returned (.int .i64 (addM l m s.data.toList).1) ∧ LP q b (addM l m s.data.toList).2.1 w' ∧ RP b (addM l m s.data.toList).2.2 w' ∧ FL b q w w' := by
  have ct := l_takes s h
  unfold takesM at ct
  cases hb : l.broken with
  | true =>
    rw [addM_broken hb]
    rw [if_pos hb] at ct
    go_enter Tryz.func13, Tryz.ntmps13
    go_wp2_with fail
    refine ct.mono ?_
    rintro e w' ⟨rfl, rfl⟩
    go_wp2_with fail
    go_ret
    exact ⟨rfl, h, hr, FL.refl _ _ _⟩
  | false =>
    rw [if_neg (by rw [hb]; decide)] at ct
    by_cases hs : 524288 < s.size
    · rw [addM_long hb m (by simpa using hs)]
      rw [if_pos hs] at ct
      clear hs
      go_enter Tryz.func13, Tryz.ntmps13
      go_wp2_with fail
      refine ct.mono ?_
      rintro e w' ⟨rfl, rfl⟩
      go_wp2_with fail
      go_ret
      exact ⟨rfl, h, hr, FL.refl _ _ _⟩
    · rw [addM_put hb m (s := s.data.toList) (by simpa using hs)]
      rw [if_neg hs] at ct
      have hn := hl.n
      have cp := l_put l.t ⟨#[114, 101, 99]⟩ s ((l.n : Int) + 1) h hr hm ho (by unfold inR; omega) (by decide) (by omega)
      rw [show ((⟨#[114, 101, 99]⟩ : ByteArray).data.toList) = kRec from rfl] at cp
      have hkeep := putM_keep l m l.t (pageT kRec ((l.n : Int) + 1) s.data.toList)
      obtain ⟨r, hr'⟩ : ∃ r, putM l m l.t (pageT kRec ((l.n : Int) + 1) s.data.toList) = r := ⟨_, rfl⟩
      rw [hr'] at cp hkeep
      rw [hr']
      obtain ⟨e, l1, m1⟩ := r
      simp only at cp hkeep ⊢
      obtain ⟨c0, c1, c2, c3, c4, f⟩ := h.cells
      have HK := Lib.hid hkeep
      clear hr' hb hs hkeep hm ho hl
      by_cases h0 : e = 0
      · subst h0
        rw [if_neg (by simp)]
        go_enter Tryz.func13, Tryz.ntmps13
        go_wp2_with fail
        refine ct.mono ?_
        rintro e w' ⟨rfl, rfl⟩
        go_wp2_with fail
        refine cp.mono ?_
        rintro e w1 ⟨rfl, L1, r1, f1⟩
        obtain rfl : l1 = l := by first | exact HK.out trivial | exact HK.out rfl
        obtain ⟨d0, d1, d2, d3, d4, g⟩ := L1.cells
        have hne := L1.ne r1
        have L2 := L1.set3 (l1.n + 1)
        have r2 := r1.lset L1 3 (.int .i64 ((l1.n + 1 : Nat) : Int))
        have f2 := f1.tr (FL.set 3 (.int .i64 ((l1.n + 1 : Nat) : Int)) (Ne.symm hne))
        push_cast at L2 r2 f2
        clear cp ct c0 c1 c2 c3 c4 f f1
        go_wp2_with fail
        go_ret
        exact ⟨rfl, L2, r2, f2⟩
      · have h0b : (e != 0) = true := by simpa using h0
        rw [if_pos h0]
        clear h0
        go_enter Tryz.func13, Tryz.ntmps13
        go_wp2_with fail
        refine ct.mono ?_
        rintro e w' ⟨rfl, rfl⟩
        go_wp2_with fail
        refine cp.mono ?_
        rintro e w1 ⟨rfl, L1, r1, f1⟩
        clear cp ct
        go_wp2_with fail
        go_ret
        exact ⟨rfl, L1, r1, f1⟩

theorem LP.drew {q b : Nat} {l : Lg} {w : World} (h : LP q b l w) : LP q b l w.drew := h
theorem LP.all {q b : Nat} {l : Lg} {w : World} (h : LP q b l w) (t e : Int) (n : Nat) : LP q b ⟨t, e, n, l.broken⟩ (((w.setCell ⟨q, 1, none⟩ (.int .i64 t)).setCell ⟨q, 2, none⟩ (.int .i64 e)).setCell ⟨q, 3, none⟩ (.int .i64 n)) := ((h.set1 t).set2 e).set3 n

set_option maxHeartbeats 8000000 in
set_option maxRecDepth 100000 in
theorem l_base {q b : Nat} {l : Lg} {m : M} {w : World} (s : ByteArray) (h : LP q b l w) (hr : RP b m w) (hm : m.ok) (ho : m.ops < 4611686018427387900) (hl : l.ok) :
    Calls Tryz.prog 15 #[ptr q, .string s] w fun r w' => r = .returned (.int .i64 (baseM l m s.data.toList).1) ∧ LP q b (baseM l m s.data.toList).2.1 w' ∧ RP b (baseM l m s.data.toList).2.2 w' ∧ FL b q w w' := by
  have ct := l_takes s h
  unfold takesM at ct
  cases hb : l.broken with
  | true =>
    rw [baseM_broken hb]
    rw [if_pos hb] at ct
    go_enter Tryz.func15, Tryz.ntmps15
    go_wp2_with fail
    refine ct.mono ?_
    rintro e w' ⟨rfl, rfl⟩
    go_wp2_with fail
    go_ret
    exact ⟨rfl, h, hr, FL.refl _ _ _⟩
  | false =>
    rw [if_neg (by rw [hb]; decide)] at ct
    by_cases hs : 524288 < s.size
    · rw [baseM_long hb m (by simpa using hs)]
      rw [if_pos hs] at ct
      clear hs
      go_enter Tryz.func15, Tryz.ntmps15
      go_wp2_with fail
      refine ct.mono ?_
      rintro e w' ⟨rfl, rfl⟩
      go_wp2_with fail
      go_ret
      exact ⟨rfl, h, hr, FL.refl _ _ _⟩
    · rw [baseM_put hb m (s := s.data.toList) (by simpa using hs)]
      rw [if_neg hs] at ct
      have he1 := hl.e1
      have he2 := hl.e2
      have ht := hl.t
      have cp := fun w (h : LP q b l w) (hr : RP b m w) => l_put (1 - l.t) ⟨#[98, 97, 115, 101]⟩ s (l.epoch + 1) h hr hm (by omega) (by unfold inR; omega) (by decide) (by omega)
      rw [show ((⟨#[98, 97, 115, 101]⟩ : ByteArray).data.toList) = kBase from rfl] at cp
      have hkeep := putM_keep l m (1 - l.t) (pageT kBase (l.epoch + 1) s.data.toList)
      have hok := putM_ok l hm (by omega) (1 - l.t) (pageT kBase (l.epoch + 1) s.data.toList)
      obtain ⟨r, hr'⟩ : ∃ r, putM l m (1 - l.t) (pageT kBase (l.epoch + 1) s.data.toList) = r := ⟨_, rfl⟩
      rw [hr'] at cp hkeep hok
      rw [hr']
      obtain ⟨e, l1, m1⟩ := r
      simp only at cp hkeep hok ⊢
      have co := fun w => l_other l.t w ht
      obtain ⟨c0, c1, c2, c3, c4, f⟩ := h.cells
      have HK := Lib.hid hkeep
      have hops1 : m1.ops < 4611686018427387904 := by omega
      have HO := Lib.hid hok.1
      have hb2 : l.broken = false := hb
      obtain ⟨t1, ht1⟩ : ∃ t1, 1 - l.t = t1 := ⟨_, rfl⟩
      rw [ht1] at cp co ⊢
      have hw1 : -9223372036854775808 ≤ l.epoch + 1 := by omega
      have hw2 : l.epoch + 1 ≤ 9223372036854775807 := by omega
      have hwr : IntKind.i64.wrap (l.epoch + 1) = l.epoch + 1 := by rw [IntKind.wrap_i64]; omega
      clear hr' hb hs hkeep hm ho hl hok
      have walk : ∀ R : Int × Lg × M, R = (if e ≠ 0 then (e, l1, m1) else if (m1.trim l.t 0).1 ≠ 0 then ((m1.trim l.t 0).1, { l with broken := true }, (m1.trim l.t 0).2) else (0, ⟨t1, l.epoch + 1, 0, l.broken⟩, (m1.trim l.t 0).2)) →
          Calls Tryz.prog 15 #[ptr q, .string s] w fun r w' => r = .returned (.int .i64 R.1) ∧ LP q b R.2.1 w' ∧ RP b R.2.2 w' ∧ FL b q w w' := by
        intro R hR
        go_enter Tryz.func15, Tryz.ntmps15
        go_wp2_with fail
        refine ct.mono ?_
        rintro r w' ⟨rfl, rfl⟩
        go_wp2_with fail
        refine St.wp_region_stage (fun _ wx => wx = w.drew) (by kernel_rfl) (by kernel_rfl) (by kernel_rfl) rfl ?_
        repeat (first
          | (apply St.step_give
             · rfl
             · intro L wx hS hcl hrd
               subst hS
               go_simp
               try with_reducible rfl
             · exact fun L wx hS => hS
             simp only [Act.put, List.setIfInBounds_toArray, List.set_cons_zero, List.set_cons_succ])
          | (apply St.step_into
             · rfl
             · intro wx
               go_simp
               exact ⟨rfl, rfl⟩
             · exact fun L wx hS hcl hrd => ((co wx).mono (by rintro e w' ⟨rfl, rfl⟩; exact ⟨rfl, hS⟩))
             simp only [Act.put, List.setIfInBounds_toArray, List.set_cons_zero, List.set_cons_succ]))
        refine St.step_last ?_
        intro L wx hS _
        subst hS
        clear co
        go_wp2_with fail
        refine (cp _ h.drew hr.drew).mono ?_
        rintro r w1 ⟨rfl, L1, r1, f1'⟩
        have f1 : FL b q w w1 := ((FL.refl b q w).drew).tr f1'
        clear cp ct c0 c1 c2 c3 c4 f f1'
        by_cases h0 : e = 0
        · subst h0
          rw [if_neg (by simp)] at hR
          obtain rfl : l1 = l := by first | exact HK.out trivial | exact HK.out rfl
          obtain ⟨d0, d1, d2, d3, d4, g⟩ := L1.cells
          go_wp2_with fail
          obtain ⟨e2, he2'⟩ : ∃ e2, (m1.trim l1.t 0).1 = e2 := ⟨_, rfl⟩
          obtain ⟨m2, hm2⟩ : ∃ m2, (m1.trim l1.t 0).2 = m2 := ⟨_, rfl⟩
          rw [he2', hm2] at hR
          have cw := fun wx (h : RP b m1 wx) => c_wipe l1.t h HO.out hops1
          rw [he2', hm2] at cw
          have P_cells : ∀ (x : Bool) wx, LP q b (if x = true then (if e2 = 0 then l1 else { l1 with broken := true }) else l1) wx → wx.cell? ⟨q, 0, none⟩ = some (ptr b) ∧ wx.cell? ⟨q, 1, none⟩ = some (.int .i64 l1.t) := by
            intro x wx hx
            have e1 : (if x = true then (if e2 = 0 then l1 else { l1 with broken := true }) else l1).t = l1.t := by
              split
              · split <;> rfl
              · rfl
            have hc := hx.cells
            exact ⟨hc.c0, by rw [← e1]; exact hc.c1⟩
          have P_wipe : ∀ (L : Nat → Bool) wx, (LP q b (if L 10 = true then (if e2 = 0 then l1 else { l1 with broken := true }) else l1) wx ∧ RP b (if L 9 = true then m2 else m1) wx ∧ FL b q w wx) → L 9 = false → L 10 = false →
              Calls Tryz.prog 43 #[ptr b, .int .i64 l1.t] wx fun r w' => r = .returned (.int .i64 e2) ∧ (LP q b (if St.mark L 9 10 = true then (if e2 = 0 then l1 else { l1 with broken := true }) else l1) w' ∧ RP b (if St.mark L 9 9 = true then m2 else m1) w' ∧ FL b q w w') := by
            rintro L wx ⟨h1, h2, h3⟩ h9 h10
            rw [h9] at h2
            rw [h10] at h1
            refine (cw wx h2).mono ?_
            rintro r w' ⟨rfl, r', f'⟩
            refine ⟨rfl, ?_, r', h3.tr (FL.of_fr f')⟩
            have e : St.mark L 9 10 = L 10 := rfl
            rw [e, h10]
            exact LP.fr (m := m1) h1 h2 f'
          have P_must : ∀ (L : Nat → Bool) wx, (LP q b (if L 10 = true then (if e2 = 0 then l1 else { l1 with broken := true }) else l1) wx ∧ RP b (if L 9 = true then m2 else m1) wx ∧ FL b q w wx) → L 9 = true → L 10 = false →
              Calls Tryz.prog 42 #[ptr q, .int .i64 e2] wx fun r w' => r = .returned (.int .i64 e2) ∧ (LP q b (if St.mark L 10 10 = true then (if e2 = 0 then l1 else { l1 with broken := true }) else l1) w' ∧ RP b (if St.mark L 10 9 = true then m2 else m1) w' ∧ FL b q w w') := by
            rintro L wx ⟨h1, h2, h3⟩ h9 h10
            rw [h9] at h2
            rw [h10] at h1
            refine (l_must e2 (l := l1) (m := m2) h1 h2).mono ?_
            rintro r w' ⟨rfl, L', r', f'⟩
            refine ⟨rfl, L', ?_, h3.tr f'⟩
            have e : St.mark L 10 9 = L 9 := rfl
            rw [e, h9]
            exact r'
          refine St.wp_region_stage (fun (L : Nat → Bool) wx => LP q b (if L 10 = true then (if e2 = 0 then l1 else { l1 with broken := true }) else l1) wx ∧ RP b (if L 9 = true then m2 else m1) wx ∧ FL b q w wx) (by kernel_rfl) (by kernel_rfl) (by kernel_rfl) ⟨L1.drew, r1.drew, f1.drew⟩ ?_
          apply St.step_give
          · rfl
          · intro L wx hS hcl hrd
            obtain ⟨p0, p1⟩ := P_cells _ wx hS.1
            go_simp
            try with_reducible rfl
          · exact fun L wx hS => hS
          simp only [Act.put, List.setIfInBounds_toArray, List.set_cons_zero, List.set_cons_succ]
          apply St.step_give
          · rfl
          · intro L wx hS hcl hrd
            obtain ⟨p0, p1⟩ := P_cells _ wx hS.1
            go_simp
            try with_reducible rfl
          · exact fun L wx hS => hS
          simp only [Act.put, List.setIfInBounds_toArray, List.set_cons_zero, List.set_cons_succ]
          apply St.step_give
          · rfl
          · intro L wx hS hcl hrd
            obtain ⟨p0, p1⟩ := P_cells _ wx hS.1
            go_simp
            try with_reducible rfl
          · exact fun L wx hS => hS
          simp only [Act.put, List.setIfInBounds_toArray, List.set_cons_zero, List.set_cons_succ]
          apply St.step_give
          · rfl
          · intro L wx hS hcl hrd
            obtain ⟨p0, p1⟩ := P_cells _ wx hS.1
            go_simp
            try with_reducible rfl
          · exact fun L wx hS => hS
          simp only [Act.put, List.setIfInBounds_toArray, List.set_cons_zero, List.set_cons_succ]
          apply St.step_give
          · rfl
          · intro L wx hS hcl hrd
            obtain ⟨p0, p1⟩ := P_cells _ wx hS.1
            go_simp
            try with_reducible rfl
          · exact fun L wx hS => hS
          simp only [Act.put, List.setIfInBounds_toArray, List.set_cons_zero, List.set_cons_succ]
          apply St.step_give
          · rfl
          · intro L wx hS hcl hrd
            obtain ⟨p0, p1⟩ := P_cells _ wx hS.1
            go_simp
            try with_reducible rfl
          · exact fun L wx hS => hS
          simp only [Act.put, List.setIfInBounds_toArray, List.set_cons_zero, List.set_cons_succ]
          apply St.step_give
          · rfl
          · intro L wx hS hcl hrd
            obtain ⟨p0, p1⟩ := P_cells _ wx hS.1
            go_simp
            try with_reducible rfl
          · exact fun L wx hS => hS
          simp only [Act.put, List.setIfInBounds_toArray, List.set_cons_zero, List.set_cons_succ]
          apply St.step_give
          · rfl
          · intro L wx hS hcl hrd
            obtain ⟨p0, p1⟩ := P_cells _ wx hS.1
            go_simp
            try with_reducible rfl
          · exact fun L wx hS => hS
          simp only [Act.put, List.setIfInBounds_toArray, List.set_cons_zero, List.set_cons_succ]
          apply St.step_give
          · rfl
          · intro L wx hS hcl hrd
            obtain ⟨p0, p1⟩ := P_cells _ wx hS.1
            go_simp
            try with_reducible rfl
          · exact fun L wx hS => hS
          simp only [Act.put, List.setIfInBounds_toArray, List.set_cons_zero, List.set_cons_succ]
          apply St.step_into
          · rfl
          · intro wx
            go_simp
            exact ⟨rfl, rfl⟩
          · exact fun L wx hS hcl hrd => P_wipe L wx hS hrd.1 (St.not_yet hcl hrd 40 10 (by kernel_rfl))
          simp only [Act.put, List.setIfInBounds_toArray, List.set_cons_zero, List.set_cons_succ]
          apply St.step_into
          · rfl
          · intro wx
            go_simp
            exact ⟨rfl, rfl⟩
          · exact fun L wx hS hcl hrd => P_must L wx hS (St.before_ready hcl hrd 40 9 (by kernel_rfl)) hrd.1
          simp only [Act.put, List.setIfInBounds_toArray, List.set_cons_zero, List.set_cons_succ]
          apply St.step_give
          · rfl
          · intro L wx hS hcl hrd
            obtain ⟨p0, p1⟩ := P_cells _ wx hS.1
            go_simp
            try with_reducible rfl
          · exact fun L wx hS => hS
          simp only [Act.put, List.setIfInBounds_toArray, List.set_cons_zero, List.set_cons_succ]
          refine St.step_last ?_
          intro L wx hS hall
          obtain ⟨L3, r3, F3⟩ := hS
          rw [hall 10 (by decide), if_pos rfl] at L3
          rw [hall 9 (by decide), if_pos rfl] at r3
          clear P_wipe P_must P_cells cw hall d0 d1 d2 d3 d4 g f1 L1 r1 he2' hm2
          by_cases h2 : e2 = 0
          · subst h2
            rw [if_pos rfl] at L3
            rw [if_neg (by simp)] at hR
            subst hR
            have hne := L3.ne r3
            obtain ⟨d0, d1, d2, d3, d4, g⟩ := L3.cells
            have L4 := L3.all t1 (l1.epoch + 1) 0
            rw [hb2] at L4
            have r4 := ((r3.lset L3 1 (.int .i64 t1)).lset (L3.set1 t1) 2 (.int .i64 (l1.epoch + 1))).lset ((L3.set1 t1).set2 (l1.epoch + 1)) 3 (.int .i64 ((0 : Nat) : Int))
            have F4 := ((F3.tr (FL.set 1 (.int .i64 t1) (Ne.symm hne))).tr (FL.set 2 (.int .i64 (l1.epoch + 1)) (Ne.symm hne))).tr (FL.set 3 (.int .i64 ((0 : Nat) : Int)) (Ne.symm hne))
            clear L3 r3 F3
            go_wp2_with fail
            go_ret
            exact ⟨rfl, L4, r4, F4⟩
          · have h2b : (e2 != 0) = true := by simpa using h2
            rw [if_neg h2] at L3
            rw [if_pos h2] at hR
            subst hR
            clear h2
            go_wp2_with fail
            go_ret
            exact ⟨rfl, L3, r3, F3⟩
        · have h0b : (e != 0) = true := by simpa using h0
          rw [if_pos h0] at hR
          subst hR
          clear h0
          go_wp2_with fail
          go_ret
          exact ⟨rfl, L1, r1, f1⟩
      exact walk _ rfl

end Go.Proofs.YtglkapamkigdhaaGreatDoor.Rl

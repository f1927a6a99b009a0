/-
  The document's ledger, told of the model: what it is behind a pointer, did, Add, Base. Conditions: what may be of a reel; fewer than 2^62 operations; texts at most 2^46 bytes.
-/
import Derived.Test.YtglkapamkigdhaaGreatDoorRdScan
import Derived.Test.YtglkapamkigdhaaGreatDoorRlDCrash
import Derived.Test.YtglkapamkigdhaaGreatDoorOpn
import Derived.Test.YtglkapamkigdhaaGreatDoorPagesAll
namespace Go.Proofs.YtglkapamkigdhaaGreatDoor.Rl
open Go.RowKit
open Go.Proofs.YtglkapamkigdhaaGreatDoor.M (pageT kBase kRec inR tellT tell_len page_short)

/-- Block q of w is the ledger l, as the document holds it, of the reel at block p. -/
def LD (q p : Nat) (l : Lg) (w : World) : Prop := w.heap[q]? = some (.cells #[dtr p, .int .i64 l.t, .int .i64 l.epoch, .int .i64 l.n, .bool l.broken] 57 (0, 0))
structure LDC (q p : Nat) (l : Lg) (w : World) : Prop where
  c0 : w.cell? ⟨q, 0, none⟩ = some (dtr p)
  c1 : w.cell? ⟨q, 1, none⟩ = some (.int .i64 l.t)
  c2 : w.cell? ⟨q, 2, none⟩ = some (.int .i64 l.epoch)
  c3 : w.cell? ⟨q, 3, none⟩ = some (.int .i64 l.n)
  c4 : w.cell? ⟨q, 4, none⟩ = some (.bool l.broken)
  fz : ∀ i, w.frozen? ⟨q, i, none⟩ = false
theorem LD.cells {q p : Nat} {l : Lg} {w : World} (h : LD q p l w) : LDC q p l w :=
  ⟨by rw [Lib.cell_of_heap h]; rfl, by rw [Lib.cell_of_heap h]; rfl, by rw [Lib.cell_of_heap h]; rfl, by rw [Lib.cell_of_heap h]; rfl, by rw [Lib.cell_of_heap h]; rfl, fun i => Lib.frozen_of_heap h i⟩
theorem LD.lt {q p : Nat} {l : Lg} {w : World} (h : LD q p l w) : q < w.heap.size := lt_of_block h
theorem LD.below {q p : Nat} {l : Lg} {w w' : World} (h : LD q p l w) (hk : Below w.heap.size w w') : LD q p l w' := by
  unfold LD; rw [hk.block q h.lt]; exact h
theorem LD.drew {q p : Nat} {l : Lg} {w : World} (h : LD q p l w) : LD q p l w.drew := h
theorem LD.set4 {q p : Nat} {l : Lg} {w : World} (h : LD q p l w) (x : Bool) : LD q p { l with broken := x } (w.setCell ⟨q, 4, none⟩ (.bool x)) := heap_setCell_same w q 4 _ _ _ h
theorem LD.set3 {q p : Nat} {l : Lg} {w : World} (h : LD q p l w) (x : Nat) : LD q p { l with n := x } (w.setCell ⟨q, 3, none⟩ (.int .i64 x)) := heap_setCell_same w q 3 _ _ _ h
theorem LD.set2 {q p : Nat} {l : Lg} {w : World} (h : LD q p l w) (x : Int) : LD q p { l with epoch := x } (w.setCell ⟨q, 2, none⟩ (.int .i64 x)) := heap_setCell_same w q 2 _ _ _ h
theorem LD.set1 {q p : Nat} {l : Lg} {w : World} (h : LD q p l w) (x : Int) : LD q p { l with t := x } (w.setCell ⟨q, 1, none⟩ (.int .i64 x)) := heap_setCell_same w q 1 _ _ _ h
theorem LD.all {q p : Nat} {l : Lg} {w : World} (h : LD q p l w) (t e : Int) (n : Nat) : LD q p ⟨t, e, n, l.broken⟩ (((w.setCell ⟨q, 1, none⟩ (.int .i64 t)).setCell ⟨q, 2, none⟩ (.int .i64 e)).setCell ⟨q, 3, none⟩ (.int .i64 n)) := ((h.set1 t).set2 e).set3 n

/-- What a call on the document's ledger may touch. -/
structure FQ (p q : Nat) (w w' : World) : Prop where
  below : ∀ N, N ≤ p → N ≤ q → Below N w w'
  old : ∀ k, k < w.heap.size → k ≠ p → k ≠ p + 1 → k ≠ p + 2 → k ≠ q → w'.heap[k]? = w.heap[k]?
theorem FQ.refl (p q : Nat) (w : World) : FQ p q w w := ⟨fun _ _ _ => Below.refl _ _, fun _ _ _ _ _ _ => rfl⟩
theorem FQ.size {p q : Nat} {w w' : World} (h : FQ p q w w') : w.heap.size ≤ w'.heap.size := (h.below 0 (Nat.zero_le _) (Nat.zero_le _)).size
theorem FQ.trans {p q : Nat} {w1 w2 w3 : World} (h : FQ p q w1 w2) (k : FQ p q w2 w3) : FQ p q w1 w3 :=
  ⟨fun N h1 h2 => (h.below N h1 h2).trans (k.below N h1 h2), fun i hi h0 h1 h2 h3 => (k.old i (Nat.lt_of_lt_of_le hi h.size) h0 h1 h2 h3).trans (h.old i hi h0 h1 h2 h3)⟩
theorem FQ.of_fd {p q : Nat} {w w' : World} (f : FD p w w') : FQ p q w w' := ⟨fun _ h _ => f.below.mono h, fun k hk h0 h1 h2 _ => f.old k hk h0 h1 h2⟩
theorem FQ.of_below {p q : Nat} {w w' : World} (h : Below w.heap.size w w') (hp : p ≤ w.heap.size) : FQ p q w w' := FQ.of_fd (FD.of_below h hp)
theorem FQ.set {p q : Nat} (i : Nat) (w : World) (u : Value) : FQ p q w (w.setCell ⟨q, i, none⟩ u) :=
  ⟨fun N _ h => (Below.refl N w).setCell (p := ⟨q, i, none⟩) h u, fun _ _ _ _ _ hq => Below.heap_setCell _ _ _ _ hq⟩
theorem FQ.drew {p q : Nat} {w w' : World} (h : FQ p q w w') : FQ p q w w'.drew := ⟨fun N h1 h2 => (h.below N h1 h2).drew, h.old⟩
theorem LD.fd {q p : Nat} {l : Lg} {w w' : World} (h : LD q p l w) (f : FD p w w') (hpq : p + 2 < q) : LD q p l w' := by
  unfold LD; rw [f.old q h.lt (by omega) (by omega) (by omega)]; exact h
theorem RD.q {q p : Nat} {m : M} {w : World} (h : RD p m w) (hpq : p + 2 < q) (i : Nat) (u : Value) : RD p m (w.setCell ⟨q, i, none⟩ u) := h.far q i u hpq

theorem Lg.did0 (l : Lg) (mild : Bool) : l.did 0 mild = l := by
  unfold Lg.did
  simp
theorem d_did {q p : Nat} {l : Lg} {w : World} (e : Int) (mild : Bool) (h : LD q p l w) :
    Calls Tryz.prog 40 #[ptr q, .int .i64 e, .bool mild] w fun r w' => r = .returned (.int .i64 e) ∧ LD q p (l.did e mild) w' ∧ (w' = w ∨ ∃ x, w' = w.setCell ⟨q, 4, none⟩ (.bool x)) := by
  obtain ⟨c0, c1, c2, c3, c4, fz⟩ := h.cells
  have g4 := fz 4
  by_cases h0 : e = 0
  · subst h0
    rw [Lg.did0]
    go_enter Tryz.func40, Tryz.ntmps40
    go_wp2
    go_ret
    exact ⟨rfl, h, .inl rfl⟩
  · have e0 : (e != 0) = true := by simpa using h0
    have brk : ∀ b, (e != 0 && !(b && e == 5)) = true → LD q p (l.did e b) (w.setCell ⟨q, 4, none⟩ (.bool true)) := by
      intro b hb
      have := h.set4 true
      unfold Lg.did
      rw [hb, Bool.or_true]
      exact this
    cases mild with
    | false =>
      have k := brk false (by rw [e0]; rfl)
      clear h0 brk
      go_enter Tryz.func40, Tryz.ntmps40
      go_wp2
      go_ret
      exact ⟨rfl, k, .inr ⟨_, rfl⟩⟩
    | true =>
      by_cases h5 : e = 5
      · subst h5
        have k : LD q p (l.did 5 true) w := by
          have : l.did 5 true = l := by unfold Lg.did; simp
          rw [this]; exact h
        clear h0 brk
        go_enter Tryz.func40, Tryz.ntmps40
        go_wp2
        go_ret
        exact ⟨rfl, k, .inl rfl⟩
      · have e5 : (e == 5) = false := by simpa using h5
        have k := brk true (by rw [e0, e5]; rfl)
        clear h0 brk h5
        go_enter Tryz.func40, Tryz.ntmps40
        go_wp2
        go_ret
        exact ⟨rfl, k, .inr ⟨_, rfl⟩⟩

theorem str_toList (P : Text) : ((⟨P.toArray⟩ : ByteArray).toList) = P := by rw [ByteArray.toList_eq]
theorem d_writeT {p : Nat} {m : M} {w : World} (t : Int) (P : Text) (h : RD p m w) (hm : m.ok) (ho : m.ops < 4611686018427387904) (hP : P.length ≤ 600000) :
    Calls Tryz.prog 22 #[dtr p, .int .i64 t, str P] w fun e w' => e = .returned (.int .i64 (m.write t P).1) ∧ RD p (m.write t P).2 w' ∧ FD p w w' := by
  have := d_write t ⟨P.toArray⟩ h hm ho (by
    show P.toArray.size ≤ _
    simp only [List.size_toArray]
    omega)
  rw [str_toList] at this
  exact this

/-- a call of the reel's and did, one behind the other, wherever they stand: i, j -/
def SQ (w0 : World) (p q : Nat) (m m1 : M) (l l1 : Lg) (i j : Nat) (L : Nat → Bool) (wx : World) : Prop :=
  FQ p q w0 wx ∧ RD p (if L i = true then m1 else m) wx ∧ LD q p (if L j = true then l1 else l) wx
theorem SQ.start {w0 : World} {p q : Nat} {m : M} {l : Lg} (h : RD p m w0) (hl : LD q p l w0) (m1 : M) (l1 : Lg) (i j : Nat) : SQ w0 p q m m1 l l1 i j (fun _ => false) w0.drew :=
  ⟨(FQ.refl p q w0).drew, h.drew, hl.drew⟩
theorem SQ.reel {w0 : World} {p q : Nat} {m m1 : M} {l l1 : Lg} {i j : Nat} (hij : i ≠ j) (hpq : p + 2 < q) {L : Nat → Bool} {wx : World} (h : SQ w0 p q m m1 l l1 i j L wx) (hi : L i = false) {f : FuncId} {args : Array Value} {v : Value}
    (hc : ∀ w, RD p m w → Calls Tryz.prog f args w fun e w' => e = .returned v ∧ RD p m1 w' ∧ FD p w w') : Calls Tryz.prog f args wx fun e w' => e = .returned v ∧ SQ w0 p q m m1 l l1 i j (St.mark L i) w' := by
  obtain ⟨h1, h2, h3⟩ := h
  rw [if_neg (by rw [hi]; decide)] at h2
  refine (hc wx h2).mono ?_
  rintro e w' ⟨rfl, r, f⟩
  refine ⟨rfl, h1.trans (FQ.of_fd f), ?_, ?_⟩
  · rw [if_pos (by unfold St.mark; simp)]; exact r
  · rw [show St.mark L i j = L j from by unfold St.mark; rw [show (j == i) = false by simpa using Ne.symm hij]; rfl]
    exact h3.fd f hpq
theorem SQ.did {w0 : World} {p q : Nat} {m m1 : M} {l l1 : Lg} {i j : Nat} (hij : i ≠ j) (hpq : p + 2 < q) {L : Nat → Bool} {wx : World} (h : SQ w0 p q m m1 l l1 i j L wx) (hj : L j = false) {e : Int} {b : Bool} (hl : l1 = l.did e b) :
    Calls Tryz.prog 40 #[ptr q, .int .i64 e, .bool b] wx fun r w' => r = .returned (.int .i64 e) ∧ SQ w0 p q m m1 l l1 i j (St.mark L j) w' := by
  obtain ⟨h1, h2, h3⟩ := h
  rw [if_neg (by rw [hj]; decide)] at h3
  refine (d_did e b h3).mono ?_
  rintro r w' ⟨rfl, k, hw⟩
  refine ⟨rfl, ?_, ?_, ?_⟩
  · rcases hw with rfl | ⟨x, rfl⟩
    · exact h1
    · exact h1.trans (FQ.set 4 wx _)
  · rw [show St.mark L j i = L i from by unfold St.mark; rw [show (i == j) = false by simpa using hij]; rfl]
    rcases hw with rfl | ⟨x, rfl⟩
    · exact h2
    · exact h2.q hpq 4 _
  · rw [if_pos (by unfold St.mark; simp), hl]; exact k
theorem SQ.pure {w0 : World} {p q : Nat} {m m1 : M} {l l1 : Lg} {i j k : Nat} (hki : i ≠ k) (hkj : j ≠ k) {L : Nat → Bool} {wx : World} (h : SQ w0 p q m m1 l l1 i j L wx) {f : FuncId} {args : Array Value} {v : Value}
    (hc : ∀ w, Calls Tryz.prog f args w fun e w' => e = .returned v ∧ Below w.heap.size w w') : Calls Tryz.prog f args wx fun e w' => e = .returned v ∧ SQ w0 p q m m1 l l1 i j (St.mark L k) w' := by
  obtain ⟨h1, h2, h3⟩ := h
  refine (hc wx).mono ?_
  rintro e w' ⟨rfl, b⟩
  have hp : p ≤ wx.heap.size := by have := h2.lt; omega
  refine ⟨rfl, h1.trans (FQ.of_below b hp), ?_, ?_⟩
  · rw [show St.mark L k i = L i from by unfold St.mark; rw [show (i == k) = false by simpa using hki]; rfl]; exact h2.below b
  · rw [show St.mark L k j = L j from by unfold St.mark; rw [show (j == k) = false by simpa using hkj]; rfl]; exact h3.below b

set_option maxHeartbeats 16000000 in
set_option maxRecDepth 100000 in
theorem d_add {q p : Nat} {l : Lg} {m : M} {w : World} (s : ByteArray) (h : LD q p l w) (hd : RD p m w) (hpq : p + 2 < q) (hm : m.ok) (ho : m.ops < 4611686018427387903) (hl : l.ok) :
    Calls Tryz.prog 14 #[ptr q, .string s] w fun r w' => r = .returned (.int .i64 (addM l m s.data.toList).1) ∧ LD q p (addM l m s.data.toList).2.1 w' ∧ RD p (addM l m s.data.toList).2.2 w' ∧ FQ p q w w' := by
  obtain ⟨c0, c1, c2, c3, c4, fz⟩ := h.cells
  cases hb : l.broken with
  | true =>
    rw [addM_broken hb]
    rw [hb] at c4
    go_enter Tryz.func14, Tryz.ntmps14
    go_wp2
    go_ret
    exact ⟨rfl, h, hd, FQ.refl _ _ _⟩
  | false =>
    rw [hb] at c4
    by_cases hs : 524288 < s.size
    · rw [addM_long hb m (by simpa using hs)]
      have hs' : (524288 : Int) < (s.size : Int) := by omega
      clear hs
      go_enter Tryz.func14, Tryz.ntmps14
      go_wp2
      go_ret
      exact ⟨rfl, h, hd, FQ.refl _ _ _⟩
    · have hs' : ¬ (524288 : Int) < (s.size : Int) := by omega
      have hn := hl.n
      have hwr : IntKind.i64.wrap ((l.n : Int) + 1) = (l.n : Int) + 1 := by rw [IntKind.wrap_i64]; omega
      have CPG := fun w => rpage_any ⟨#[114, 101, 99]⟩ s ((l.n : Int) + 1) w (by unfold inR; omega) (by decide) (by omega)
      rw [show ((⟨#[114, 101, 99]⟩ : ByteArray).data.toList) = kRec from rfl] at CPG
      have hP : (pageT kRec ((l.n : Int) + 1) s.data.toList).length ≤ 600000 := by
        have := page_short (kind := kRec) (n := (l.n : Int) + 1) (s := s.data.toList) (by decide) (by unfold inR; omega) (by simp; omega)
        simp at this ⊢; omega
      have CWR := fun w (h : RD p m w) => d_writeT l.t (pageT kRec ((l.n : Int) + 1) s.data.toList) h hm (by omega) hP
      have hadd : addM l m s.data.toList = (let r1 := m.write l.t (pageT kRec ((l.n : Int) + 1) s.data.toList)
          if r1.1 ≠ 0 then (r1.1, l.did r1.1 true, r1.2) else
            let r2 := r1.2.sync l.t
            if r2.1 ≠ 0 then (r2.1, l.did r2.1 false, r2.2) else (0, { l with n := l.n + 1 }, r2.2)) := by
        unfold addM
        rw [if_neg (by rw [hb]; decide), if_neg (by simp; omega)]
      rw [hadd]
      have hk1 := hm.write l.t (pageT kRec ((l.n : Int) + 1) s.data.toList) (by omega)
      have ho1 := m.write_ops l.t (pageT kRec ((l.n : Int) + 1) s.data.toList)
      obtain ⟨P, hPe⟩ : ∃ P, pageT kRec ((l.n : Int) + 1) s.data.toList = P := ⟨_, rfl⟩
      rw [hPe] at CPG CWR hk1 ho1
      rw [hPe]
      obtain ⟨r1, hr1⟩ : ∃ r1, m.write l.t P = r1 := ⟨_, rfl⟩
      rw [hr1] at CWR hk1 ho1
      rw [hr1]
      obtain ⟨e1, m1⟩ := r1
      simp only at CWR hk1 ho1
      dsimp only
      clear hadd hr1 hPe hP hs hb
      have hS0 := SQ.start hd h m1 (l.did e1 true) 16 17
      by_cases h1 : e1 = 0
      · subst h1
        rw [if_neg (by simp)]
        rw [Lg.did0] at hS0
        have CSY := fun w (h : RD p m1 w) => d_sync l.t h hk1 (by omega)
        obtain ⟨r2, hr2⟩ : ∃ r2, m1.sync l.t = r2 := ⟨_, rfl⟩
        rw [hr2] at CSY
        rw [hr2]
        obtain ⟨e2, m2⟩ := r2
        simp only at CSY
        dsimp only
        clear hr2 hm ho hk1 ho1
        by_cases h2 : e2 = 0
        · subst h2
          rw [if_neg (by simp)]
          go_enter Tryz.func14, Tryz.ntmps14
          go_wp2_with fail
          refine St.wp_region_stage (SQ w p q m m1 l l 16 17) (by kernel_rfl) (by kernel_rfl) (by kernel_rfl) hS0 ?_
          apply St.step_give
          · rfl
          · intro L wx hS hcl hrd
            go_simp
            try with_reducible rfl
          · exact fun L wx hS => hS
          simp only [Act.put, List.setIfInBounds_toArray, List.set_cons_zero, List.set_cons_succ]
          apply St.step_give
          · rfl
          · intro L wx hS hcl hrd
            go_simp
            try with_reducible rfl
          · exact fun L wx hS => hS
          simp only [Act.put, List.setIfInBounds_toArray, List.set_cons_zero, List.set_cons_succ]
          apply St.step_give
          · rfl
          · intro L wx hS hcl hrd
            go_simp
            try with_reducible rfl
          · exact fun L wx hS => hS
          simp only [Act.put, List.setIfInBounds_toArray, List.set_cons_zero, List.set_cons_succ]
          apply St.step_give
          · rfl
          · intro L wx hS hcl hrd
            go_simp
            try with_reducible rfl
          · exact fun L wx hS => hS
          simp only [Act.put, List.setIfInBounds_toArray, List.set_cons_zero, List.set_cons_succ]
          apply St.step_give
          · rfl
          · intro L wx hS hcl hrd
            have hld := hS.2.2
            rw [if_neg (by rw [St.not_yet hcl hrd 40 17 (by kernel_rfl)]; decide)] at hld
            obtain ⟨c0, c1, c2, c3, c4, fz⟩ := hld.cells
            go_simp
            try with_reducible rfl
          · exact fun L wx hS => hS
          simp only [Act.put, List.setIfInBounds_toArray, List.set_cons_zero, List.set_cons_succ]
          apply St.step_give
          · rfl
          · intro L wx hS hcl hrd
            go_simp
            try with_reducible rfl
          · exact fun L wx hS => hS
          simp only [Act.put, List.setIfInBounds_toArray, List.set_cons_zero, List.set_cons_succ]
          apply St.step_give
          · rfl
          · intro L wx hS hcl hrd
            go_simp
            try with_reducible rfl
          · exact fun L wx hS => hS
          simp only [Act.put, List.setIfInBounds_toArray, List.set_cons_zero, List.set_cons_succ]
          apply St.step_give
          · rfl
          · intro L wx hS hcl hrd
            go_simp
            try with_reducible rfl
          · exact fun L wx hS => hS
          simp only [Act.put, List.setIfInBounds_toArray, List.set_cons_zero, List.set_cons_succ]
          apply St.step_give
          · rfl
          · intro L wx hS hcl hrd
            have hld := hS.2.2
            rw [if_neg (by rw [St.not_yet hcl hrd 40 17 (by kernel_rfl)]; decide)] at hld
            obtain ⟨c0, c1, c2, c3, c4, fz⟩ := hld.cells
            go_simp
            try with_reducible rfl
          · exact fun L wx hS => hS
          simp only [Act.put, List.setIfInBounds_toArray, List.set_cons_zero, List.set_cons_succ]
          apply St.step_give
          · rfl
          · intro L wx hS hcl hrd
            go_simp
            try with_reducible rfl
          · exact fun L wx hS => hS
          simp only [Act.put, List.setIfInBounds_toArray, List.set_cons_zero, List.set_cons_succ]
          apply St.step_give
          · rfl
          · intro L wx hS hcl hrd
            go_simp
            try with_reducible rfl
          · exact fun L wx hS => hS
          simp only [Act.put, List.setIfInBounds_toArray, List.set_cons_zero, List.set_cons_succ]
          apply St.step_give
          · rfl
          · intro L wx hS hcl hrd
            go_simp
            try with_reducible rfl
          · exact fun L wx hS => hS
          simp only [Act.put, List.setIfInBounds_toArray, List.set_cons_zero, List.set_cons_succ]
          apply St.step_give
          · rfl
          · intro L wx hS hcl hrd
            have hld := hS.2.2
            rw [if_neg (by rw [St.not_yet hcl hrd 40 17 (by kernel_rfl)]; decide)] at hld
            obtain ⟨c0, c1, c2, c3, c4, fz⟩ := hld.cells
            go_simp
            try with_reducible rfl
          · exact fun L wx hS => hS
          simp only [Act.put, List.setIfInBounds_toArray, List.set_cons_zero, List.set_cons_succ]
          apply St.step_give
          · rfl
          · intro L wx hS hcl hrd
            go_simp
            try with_reducible rfl
          · exact fun L wx hS => hS
          simp only [Act.put, List.setIfInBounds_toArray, List.set_cons_zero, List.set_cons_succ]
          apply St.step_give
          · rfl
          · intro L wx hS hcl hrd
            go_simp
            try with_reducible rfl
          · exact fun L wx hS => hS
          simp only [Act.put, List.setIfInBounds_toArray, List.set_cons_zero, List.set_cons_succ]
          apply St.step_into
          · rfl
          · intro wx
            go_simp
            exact ⟨rfl, rfl⟩
          · exact fun L wx hS hcl hrd => hS.pure (by decide) (by decide) CPG
          simp only [Act.put, List.setIfInBounds_toArray, List.set_cons_zero, List.set_cons_succ]
          apply St.step_into
          · rfl
          · intro wx
            go_simp
            exact ⟨rfl, rfl⟩
          · exact fun L wx hS hcl hrd => hS.reel (by decide) hpq hrd.1 CWR
          simp only [Act.put, List.setIfInBounds_toArray, List.set_cons_zero, List.set_cons_succ]
          apply St.step_into
          · rfl
          · intro wx
            go_simp
            exact ⟨rfl, rfl⟩
          · exact fun L wx hS hcl hrd => hS.did (by decide) hpq hrd.1 (Lg.did0 l true).symm
          simp only [Act.put, List.setIfInBounds_toArray, List.set_cons_zero, List.set_cons_succ]
          apply St.step_give
          · rfl
          · intro L wx hS hcl hrd
            go_simp
            try with_reducible rfl
          · exact fun L wx hS => hS
          simp only [Act.put, List.setIfInBounds_toArray, List.set_cons_zero, List.set_cons_succ]
          refine St.step_last ?_
          intro L wx hS hall
          obtain ⟨F1, R1, L1⟩ := hS
          rw [if_pos (hall 16 (by decide))] at R1
          rw [if_pos (hall 17 (by decide))] at L1
          clear hall hS0 CPG CWR h hd c0 c1 c2 c3 c4 fz hwr
          have hS0 := SQ.start R1 L1 m2 (l.did 0 false) 9 10
          go_wp2_with fail
          refine St.wp_region_stage (SQ wx p q m1 m2 l (l.did 0 false) 9 10) (by kernel_rfl) (by kernel_rfl) (by kernel_rfl) hS0 ?_
          apply St.step_give
          · rfl
          · intro L wx hS hcl hrd
            go_simp
            try with_reducible rfl
          · exact fun L wx hS => hS
          simp only [Act.put, List.setIfInBounds_toArray, List.set_cons_zero, List.set_cons_succ]
          apply St.step_give
          · rfl
          · intro L wx hS hcl hrd
            go_simp
            try with_reducible rfl
          · exact fun L wx hS => hS
          simp only [Act.put, List.setIfInBounds_toArray, List.set_cons_zero, List.set_cons_succ]
          apply St.step_give
          · rfl
          · intro L wx hS hcl hrd
            go_simp
            try with_reducible rfl
          · exact fun L wx hS => hS
          simp only [Act.put, List.setIfInBounds_toArray, List.set_cons_zero, List.set_cons_succ]
          apply St.step_give
          · rfl
          · intro L wx hS hcl hrd
            go_simp
            try with_reducible rfl
          · exact fun L wx hS => hS
          simp only [Act.put, List.setIfInBounds_toArray, List.set_cons_zero, List.set_cons_succ]
          apply St.step_give
          · rfl
          · intro L wx hS hcl hrd
            have hld := hS.2.2
            rw [if_neg (by rw [St.not_yet hcl hrd 40 10 (by kernel_rfl)]; decide)] at hld
            obtain ⟨c0, c1, c2, c3, c4, fz⟩ := hld.cells
            go_simp
            try with_reducible rfl
          · exact fun L wx hS => hS
          simp only [Act.put, List.setIfInBounds_toArray, List.set_cons_zero, List.set_cons_succ]
          apply St.step_give
          · rfl
          · intro L wx hS hcl hrd
            go_simp
            try with_reducible rfl
          · exact fun L wx hS => hS
          simp only [Act.put, List.setIfInBounds_toArray, List.set_cons_zero, List.set_cons_succ]
          apply St.step_give
          · rfl
          · intro L wx hS hcl hrd
            go_simp
            try with_reducible rfl
          · exact fun L wx hS => hS
          simp only [Act.put, List.setIfInBounds_toArray, List.set_cons_zero, List.set_cons_succ]
          apply St.step_give
          · rfl
          · intro L wx hS hcl hrd
            go_simp
            try with_reducible rfl
          · exact fun L wx hS => hS
          simp only [Act.put, List.setIfInBounds_toArray, List.set_cons_zero, List.set_cons_succ]
          apply St.step_give
          · rfl
          · intro L wx hS hcl hrd
            have hld := hS.2.2
            rw [if_neg (by rw [St.not_yet hcl hrd 40 10 (by kernel_rfl)]; decide)] at hld
            obtain ⟨c0, c1, c2, c3, c4, fz⟩ := hld.cells
            go_simp
            try with_reducible rfl
          · exact fun L wx hS => hS
          simp only [Act.put, List.setIfInBounds_toArray, List.set_cons_zero, List.set_cons_succ]
          apply St.step_into
          · rfl
          · intro wx
            go_simp
            exact ⟨rfl, rfl⟩
          · exact fun L wx hS hcl hrd => hS.reel (by decide) hpq hrd.1 CSY
          simp only [Act.put, List.setIfInBounds_toArray, List.set_cons_zero, List.set_cons_succ]
          apply St.step_into
          · rfl
          · intro wx
            go_simp
            exact ⟨rfl, rfl⟩
          · exact fun L wx hS hcl hrd => hS.did (by decide) hpq hrd.1 rfl
          simp only [Act.put, List.setIfInBounds_toArray, List.set_cons_zero, List.set_cons_succ]
          apply St.step_give
          · rfl
          · intro L wx hS hcl hrd
            go_simp
            try with_reducible rfl
          · exact fun L wx hS => hS
          simp only [Act.put, List.setIfInBounds_toArray, List.set_cons_zero, List.set_cons_succ]
          refine St.step_last ?_
          intro L wx hS hall
          obtain ⟨F2, R2, L2⟩ := hS
          rw [if_pos (hall 9 (by decide))] at R2
          rw [if_pos (hall 10 (by decide))] at L2
          have F2 := F1.trans F2
          clear hall hS0 CSY R1 L1 F1
          rw [Lg.did0] at L2
          obtain ⟨d0, d1, d2, d3, d4, g⟩ := L2.cells
          have L3 := L2.set3 (l.n + 1)
          have R3 := R2.q hpq 3 (.int .i64 ((l.n + 1 : Nat) : Int))
          have F3 := F2.trans (FQ.set 3 _ (.int .i64 ((l.n + 1 : Nat) : Int)))
          push_cast at L3 R3 F3
          clear F2 R2 L2
          go_wp2_with fail
          go_ret
          exact ⟨rfl, L3, R3, F3⟩
        · have h2b : (e2 == 0) = false := by simpa using h2
          rw [if_pos h2]
          clear h2
          go_enter Tryz.func14, Tryz.ntmps14
          go_wp2_with fail
          refine St.wp_region_stage (SQ w p q m m1 l l 16 17) (by kernel_rfl) (by kernel_rfl) (by kernel_rfl) hS0 ?_
          apply St.step_give
          · rfl
          · intro L wx hS hcl hrd
            go_simp
            try with_reducible rfl
          · exact fun L wx hS => hS
          simp only [Act.put, List.setIfInBounds_toArray, List.set_cons_zero, List.set_cons_succ]
          apply St.step_give
          · rfl
          · intro L wx hS hcl hrd
            go_simp
            try with_reducible rfl
          · exact fun L wx hS => hS
          simp only [Act.put, List.setIfInBounds_toArray, List.set_cons_zero, List.set_cons_succ]
          apply St.step_give
          · rfl
          · intro L wx hS hcl hrd
            go_simp
            try with_reducible rfl
          · exact fun L wx hS => hS
          simp only [Act.put, List.setIfInBounds_toArray, List.set_cons_zero, List.set_cons_succ]
          apply St.step_give
          · rfl
          · intro L wx hS hcl hrd
            go_simp
            try with_reducible rfl
          · exact fun L wx hS => hS
          simp only [Act.put, List.setIfInBounds_toArray, List.set_cons_zero, List.set_cons_succ]
          apply St.step_give
          · rfl
          · intro L wx hS hcl hrd
            have hld := hS.2.2
            rw [if_neg (by rw [St.not_yet hcl hrd 40 17 (by kernel_rfl)]; decide)] at hld
            obtain ⟨c0, c1, c2, c3, c4, fz⟩ := hld.cells
            go_simp
            try with_reducible rfl
          · exact fun L wx hS => hS
          simp only [Act.put, List.setIfInBounds_toArray, List.set_cons_zero, List.set_cons_succ]
          apply St.step_give
          · rfl
          · intro L wx hS hcl hrd
            go_simp
            try with_reducible rfl
          · exact fun L wx hS => hS
          simp only [Act.put, List.setIfInBounds_toArray, List.set_cons_zero, List.set_cons_succ]
          apply St.step_give
          · rfl
          · intro L wx hS hcl hrd
            go_simp
            try with_reducible rfl
          · exact fun L wx hS => hS
          simp only [Act.put, List.setIfInBounds_toArray, List.set_cons_zero, List.set_cons_succ]
          apply St.step_give
          · rfl
          · intro L wx hS hcl hrd
            go_simp
            try with_reducible rfl
          · exact fun L wx hS => hS
          simp only [Act.put, List.setIfInBounds_toArray, List.set_cons_zero, List.set_cons_succ]
          apply St.step_give
          · rfl
          · intro L wx hS hcl hrd
            have hld := hS.2.2
            rw [if_neg (by rw [St.not_yet hcl hrd 40 17 (by kernel_rfl)]; decide)] at hld
            obtain ⟨c0, c1, c2, c3, c4, fz⟩ := hld.cells
            go_simp
            try with_reducible rfl
          · exact fun L wx hS => hS
          simp only [Act.put, List.setIfInBounds_toArray, List.set_cons_zero, List.set_cons_succ]
          apply St.step_give
          · rfl
          · intro L wx hS hcl hrd
            go_simp
            try with_reducible rfl
          · exact fun L wx hS => hS
          simp only [Act.put, List.setIfInBounds_toArray, List.set_cons_zero, List.set_cons_succ]
          apply St.step_give
          · rfl
          · intro L wx hS hcl hrd
            go_simp
            try with_reducible rfl
          · exact fun L wx hS => hS
          simp only [Act.put, List.setIfInBounds_toArray, List.set_cons_zero, List.set_cons_succ]
          apply St.step_give
          · rfl
          · intro L wx hS hcl hrd
            go_simp
            try with_reducible rfl
          · exact fun L wx hS => hS
          simp only [Act.put, List.setIfInBounds_toArray, List.set_cons_zero, List.set_cons_succ]
          apply St.step_give
          · rfl
          · intro L wx hS hcl hrd
            have hld := hS.2.2
            rw [if_neg (by rw [St.not_yet hcl hrd 40 17 (by kernel_rfl)]; decide)] at hld
            obtain ⟨c0, c1, c2, c3, c4, fz⟩ := hld.cells
            go_simp
            try with_reducible rfl
          · exact fun L wx hS => hS
          simp only [Act.put, List.setIfInBounds_toArray, List.set_cons_zero, List.set_cons_succ]
          apply St.step_give
          · rfl
          · intro L wx hS hcl hrd
            go_simp
            try with_reducible rfl
          · exact fun L wx hS => hS
          simp only [Act.put, List.setIfInBounds_toArray, List.set_cons_zero, List.set_cons_succ]
          apply St.step_give
          · rfl
          · intro L wx hS hcl hrd
            go_simp
            try with_reducible rfl
          · exact fun L wx hS => hS
          simp only [Act.put, List.setIfInBounds_toArray, List.set_cons_zero, List.set_cons_succ]
          apply St.step_into
          · rfl
          · intro wx
            go_simp
            exact ⟨rfl, rfl⟩
          · exact fun L wx hS hcl hrd => hS.pure (by decide) (by decide) CPG
          simp only [Act.put, List.setIfInBounds_toArray, List.set_cons_zero, List.set_cons_succ]
          apply St.step_into
          · rfl
          · intro wx
            go_simp
            exact ⟨rfl, rfl⟩
          · exact fun L wx hS hcl hrd => hS.reel (by decide) hpq hrd.1 CWR
          simp only [Act.put, List.setIfInBounds_toArray, List.set_cons_zero, List.set_cons_succ]
          apply St.step_into
          · rfl
          · intro wx
            go_simp
            exact ⟨rfl, rfl⟩
          · exact fun L wx hS hcl hrd => hS.did (by decide) hpq hrd.1 (Lg.did0 l true).symm
          simp only [Act.put, List.setIfInBounds_toArray, List.set_cons_zero, List.set_cons_succ]
          apply St.step_give
          · rfl
          · intro L wx hS hcl hrd
            go_simp
            try with_reducible rfl
          · exact fun L wx hS => hS
          simp only [Act.put, List.setIfInBounds_toArray, List.set_cons_zero, List.set_cons_succ]
          refine St.step_last ?_
          intro L wx hS hall
          obtain ⟨F1, R1, L1⟩ := hS
          rw [if_pos (hall 16 (by decide))] at R1
          rw [if_pos (hall 17 (by decide))] at L1
          clear hall hS0 CPG CWR h hd c0 c1 c2 c3 c4 fz hwr
          have hS0 := SQ.start R1 L1 m2 (l.did e2 false) 9 10
          go_wp2_with fail
          refine St.wp_region_stage (SQ wx p q m1 m2 l (l.did e2 false) 9 10) (by kernel_rfl) (by kernel_rfl) (by kernel_rfl) hS0 ?_
          apply St.step_give
          · rfl
          · intro L wx hS hcl hrd
            go_simp
            try with_reducible rfl
          · exact fun L wx hS => hS
          simp only [Act.put, List.setIfInBounds_toArray, List.set_cons_zero, List.set_cons_succ]
          apply St.step_give
          · rfl
          · intro L wx hS hcl hrd
            go_simp
            try with_reducible rfl
          · exact fun L wx hS => hS
          simp only [Act.put, List.setIfInBounds_toArray, List.set_cons_zero, List.set_cons_succ]
          apply St.step_give
          · rfl
          · intro L wx hS hcl hrd
            go_simp
            try with_reducible rfl
          · exact fun L wx hS => hS
          simp only [Act.put, List.setIfInBounds_toArray, List.set_cons_zero, List.set_cons_succ]
          apply St.step_give
          · rfl
          · intro L wx hS hcl hrd
            go_simp
            try with_reducible rfl
          · exact fun L wx hS => hS
          simp only [Act.put, List.setIfInBounds_toArray, List.set_cons_zero, List.set_cons_succ]
          apply St.step_give
          · rfl
          · intro L wx hS hcl hrd
            have hld := hS.2.2
            rw [if_neg (by rw [St.not_yet hcl hrd 40 10 (by kernel_rfl)]; decide)] at hld
            obtain ⟨c0, c1, c2, c3, c4, fz⟩ := hld.cells
            go_simp
            try with_reducible rfl
          · exact fun L wx hS => hS
          simp only [Act.put, List.setIfInBounds_toArray, List.set_cons_zero, List.set_cons_succ]
          apply St.step_give
          · rfl
          · intro L wx hS hcl hrd
            go_simp
            try with_reducible rfl
          · exact fun L wx hS => hS
          simp only [Act.put, List.setIfInBounds_toArray, List.set_cons_zero, List.set_cons_succ]
          apply St.step_give
          · rfl
          · intro L wx hS hcl hrd
            go_simp
            try with_reducible rfl
          · exact fun L wx hS => hS
          simp only [Act.put, List.setIfInBounds_toArray, List.set_cons_zero, List.set_cons_succ]
          apply St.step_give
          · rfl
          · intro L wx hS hcl hrd
            go_simp
            try with_reducible rfl
          · exact fun L wx hS => hS
          simp only [Act.put, List.setIfInBounds_toArray, List.set_cons_zero, List.set_cons_succ]
          apply St.step_give
          · rfl
          · intro L wx hS hcl hrd
            have hld := hS.2.2
            rw [if_neg (by rw [St.not_yet hcl hrd 40 10 (by kernel_rfl)]; decide)] at hld
            obtain ⟨c0, c1, c2, c3, c4, fz⟩ := hld.cells
            go_simp
            try with_reducible rfl
          · exact fun L wx hS => hS
          simp only [Act.put, List.setIfInBounds_toArray, List.set_cons_zero, List.set_cons_succ]
          apply St.step_into
          · rfl
          · intro wx
            go_simp
            exact ⟨rfl, rfl⟩
          · exact fun L wx hS hcl hrd => hS.reel (by decide) hpq hrd.1 CSY
          simp only [Act.put, List.setIfInBounds_toArray, List.set_cons_zero, List.set_cons_succ]
          apply St.step_into
          · rfl
          · intro wx
            go_simp
            exact ⟨rfl, rfl⟩
          · exact fun L wx hS hcl hrd => hS.did (by decide) hpq hrd.1 rfl
          simp only [Act.put, List.setIfInBounds_toArray, List.set_cons_zero, List.set_cons_succ]
          apply St.step_give
          · rfl
          · intro L wx hS hcl hrd
            go_simp
            try with_reducible rfl
          · exact fun L wx hS => hS
          simp only [Act.put, List.setIfInBounds_toArray, List.set_cons_zero, List.set_cons_succ]
          refine St.step_last ?_
          intro L wx hS hall
          obtain ⟨F2, R2, L2⟩ := hS
          rw [if_pos (hall 9 (by decide))] at R2
          rw [if_pos (hall 10 (by decide))] at L2
          have F2 := F1.trans F2
          clear hall hS0 CSY R1 L1 F1
          go_wp2_with fail
          go_ret
          exact ⟨rfl, L2, R2, F2⟩
      · have h1b : (e1 == 0) = false := by simpa using h1
        rw [if_pos h1]
        clear h1 hm ho hk1 ho1
        go_enter Tryz.func14, Tryz.ntmps14
        go_wp2_with fail
        refine St.wp_region_stage (SQ w p q m m1 l (l.did e1 true) 16 17) (by kernel_rfl) (by kernel_rfl) (by kernel_rfl) hS0 ?_
        apply St.step_give
        · rfl
        · intro L wx hS hcl hrd
          go_simp
          try with_reducible rfl
        · exact fun L wx hS => hS
        simp only [Act.put, List.setIfInBounds_toArray, List.set_cons_zero, List.set_cons_succ]
        apply St.step_give
        · rfl
        · intro L wx hS hcl hrd
          go_simp
          try with_reducible rfl
        · exact fun L wx hS => hS
        simp only [Act.put, List.setIfInBounds_toArray, List.set_cons_zero, List.set_cons_succ]
        apply St.step_give
        · rfl
        · intro L wx hS hcl hrd
          go_simp
          try with_reducible rfl
        · exact fun L wx hS => hS
        simp only [Act.put, List.setIfInBounds_toArray, List.set_cons_zero, List.set_cons_succ]
        apply St.step_give
        · rfl
        · intro L wx hS hcl hrd
          go_simp
          try with_reducible rfl
        · exact fun L wx hS => hS
        simp only [Act.put, List.setIfInBounds_toArray, List.set_cons_zero, List.set_cons_succ]
        apply St.step_give
        · rfl
        · intro L wx hS hcl hrd
          have hld := hS.2.2
          rw [if_neg (by rw [St.not_yet hcl hrd 40 17 (by kernel_rfl)]; decide)] at hld
          obtain ⟨c0, c1, c2, c3, c4, fz⟩ := hld.cells
          go_simp
          try with_reducible rfl
        · exact fun L wx hS => hS
        simp only [Act.put, List.setIfInBounds_toArray, List.set_cons_zero, List.set_cons_succ]
        apply St.step_give
        · rfl
        · intro L wx hS hcl hrd
          go_simp
          try with_reducible rfl
        · exact fun L wx hS => hS
        simp only [Act.put, List.setIfInBounds_toArray, List.set_cons_zero, List.set_cons_succ]
        apply St.step_give
        · rfl
        · intro L wx hS hcl hrd
          go_simp
          try with_reducible rfl
        · exact fun L wx hS => hS
        simp only [Act.put, List.setIfInBounds_toArray, List.set_cons_zero, List.set_cons_succ]
        apply St.step_give
        · rfl
        · intro L wx hS hcl hrd
          go_simp
          try with_reducible rfl
        · exact fun L wx hS => hS
        simp only [Act.put, List.setIfInBounds_toArray, List.set_cons_zero, List.set_cons_succ]
        apply St.step_give
        · rfl
        · intro L wx hS hcl hrd
          have hld := hS.2.2
          rw [if_neg (by rw [St.not_yet hcl hrd 40 17 (by kernel_rfl)]; decide)] at hld
          obtain ⟨c0, c1, c2, c3, c4, fz⟩ := hld.cells
          go_simp
          try with_reducible rfl
        · exact fun L wx hS => hS
        simp only [Act.put, List.setIfInBounds_toArray, List.set_cons_zero, List.set_cons_succ]
        apply St.step_give
        · rfl
        · intro L wx hS hcl hrd
          go_simp
          try with_reducible rfl
        · exact fun L wx hS => hS
        simp only [Act.put, List.setIfInBounds_toArray, List.set_cons_zero, List.set_cons_succ]
        apply St.step_give
        · rfl
        · intro L wx hS hcl hrd
          go_simp
          try with_reducible rfl
        · exact fun L wx hS => hS
        simp only [Act.put, List.setIfInBounds_toArray, List.set_cons_zero, List.set_cons_succ]
        apply St.step_give
        · rfl
        · intro L wx hS hcl hrd
          go_simp
          try with_reducible rfl
        · exact fun L wx hS => hS
        simp only [Act.put, List.setIfInBounds_toArray, List.set_cons_zero, List.set_cons_succ]
        apply St.step_give
        · rfl
        · intro L wx hS hcl hrd
          have hld := hS.2.2
          rw [if_neg (by rw [St.not_yet hcl hrd 40 17 (by kernel_rfl)]; decide)] at hld
          obtain ⟨c0, c1, c2, c3, c4, fz⟩ := hld.cells
          go_simp
          try with_reducible rfl
        · exact fun L wx hS => hS
        simp only [Act.put, List.setIfInBounds_toArray, List.set_cons_zero, List.set_cons_succ]
        apply St.step_give
        · rfl
        · intro L wx hS hcl hrd
          go_simp
          try with_reducible rfl
        · exact fun L wx hS => hS
        simp only [Act.put, List.setIfInBounds_toArray, List.set_cons_zero, List.set_cons_succ]
        apply St.step_give
        · rfl
        · intro L wx hS hcl hrd
          go_simp
          try with_reducible rfl
        · exact fun L wx hS => hS
        simp only [Act.put, List.setIfInBounds_toArray, List.set_cons_zero, List.set_cons_succ]
        apply St.step_into
        · rfl
        · intro wx
          go_simp
          exact ⟨rfl, rfl⟩
        · exact fun L wx hS hcl hrd => hS.pure (by decide) (by decide) CPG
        simp only [Act.put, List.setIfInBounds_toArray, List.set_cons_zero, List.set_cons_succ]
        apply St.step_into
        · rfl
        · intro wx
          go_simp
          exact ⟨rfl, rfl⟩
        · exact fun L wx hS hcl hrd => hS.reel (by decide) hpq hrd.1 CWR
        simp only [Act.put, List.setIfInBounds_toArray, List.set_cons_zero, List.set_cons_succ]
        apply St.step_into
        · rfl
        · intro wx
          go_simp
          exact ⟨rfl, rfl⟩
        · exact fun L wx hS hcl hrd => hS.did (by decide) hpq hrd.1 rfl
        simp only [Act.put, List.setIfInBounds_toArray, List.set_cons_zero, List.set_cons_succ]
        apply St.step_give
        · rfl
        · intro L wx hS hcl hrd
          go_simp
          try with_reducible rfl
        · exact fun L wx hS => hS
        simp only [Act.put, List.setIfInBounds_toArray, List.set_cons_zero, List.set_cons_succ]
        refine St.step_last ?_
        intro L wx hS hall
        obtain ⟨F1, R1, L1⟩ := hS
        rw [if_pos (hall 16 (by decide))] at R1
        rw [if_pos (hall 17 (by decide))] at L1
        clear hall hS0 CPG CWR h hd c0 c1 c2 c3 c4 fz hwr
        go_wp2_with fail
        go_ret
        exact ⟨rfl, L1, R1, F1⟩

end Go.Proofs.YtglkapamkigdhaaGreatDoor.Rl

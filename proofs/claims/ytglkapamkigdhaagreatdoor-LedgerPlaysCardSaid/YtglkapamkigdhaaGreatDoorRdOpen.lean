/-
  The document's Open of a ledger, told of the model. Conditions: what may be of a reel; fewer than 2^62 operations.
-/
import Derived.Test.YtglkapamkigdhaaGreatDoorRdLg
namespace Go.Proofs.YtglkapamkigdhaaGreatDoor.Rl
open Go.RowKit
open Go.Proofs.YtglkapamkigdhaaGreatDoor.M (pageT kBase kRec inR tellT tell_len page_short)

/-- what the document's Open answers -/
def DOut (o : Int × Option (Lg × Text × List Text) × M) (p : Nat) (w : World) (e : Ending) (w' : World) : Prop :=
  RD p o.2.2 w' ∧ FD p w w' ∧ match o.2.1 with
  | none => e = .returned (.tuple #[.pointer none, .string ⟨#[]⟩, .slice none 0 0, .int .i64 o.1])
  | some (l, base, recs) => ∃ q B v ss, e = .returned (.tuple #[ptr q, .string B, v, .int .i64 0]) ∧ B.data.toList = base ∧ texts ss = recs ∧ LD q p l w' ∧ w.heap.size ≤ q ∧ SR w.heap.size v ss w'
theorem DOut.no {o : Int × Option (Lg × Text × List Text) × M} {p : Nat} {w w' : World} {x : Int} {m' : M} (h : o = (x, none, m')) (hR : RD p m' w') (hF : FD p w w') :
    DOut o p w (.returned (.tuple #[.pointer none, .string ⟨#[]⟩, .slice none 0 0, .int .i64 x])) w' := by
  subst h; exact ⟨hR, hF, rfl⟩
theorem DOut.yes {o : Int × Option (Lg × Text × List Text) × M} {p : Nat} {w w' : World} {l : Lg} {base : Text} {recs : List Text} {m' : M} {B : ByteArray} {v : Value} {ss : List ByteArray} (h : o = (0, some (l, base, recs), m')) (hR : RD p m' w') (hF : FD p w w') (hp : p ≤ w'.heap.size)
    (hB : B.data.toList = base) (hs : texts ss = recs) (hv : SR w.heap.size v ss w') (hb : l.broken = false) : DOut o p w (.returned (.tuple #[.pointer (some ⟨w'.heap.size, 0, none⟩), .string B, v, .int .i64 0])) (w'.alloc (.cells #[dtr p, .int .i64 l.t, .int .i64 l.epoch, .int .i64 l.n, .bool false] 57)) := by
  subst h
  have hA : Below w'.heap.size w' (w'.alloc (.cells #[dtr p, .int .i64 l.t, .int .i64 l.epoch, .int .i64 l.n, .bool false] 57)) := (Below.refl _ w').alloc (Nat.le_refl _) _
  refine ⟨hR.below hA, hF.trans (FD.of_below hA hp), w'.heap.size, B, v, ss, rfl, hB, hs, ?_, hF.below.size, hv.below hA⟩
  unfold LD
  rw [hb]
  exact heap_alloc_new w' _

theorem openM_fresh_eq {m : M} {P : Text} (hP : pageT kBase 1 [] = P) (hoff : m.off = false) (z0 : (tellT m.a.s).1 = 0) (z1 : (tellT m.b.s).1 = 0) {r1 r2 r3 r4 : Int × M} (h1 : (if m.a.s = [] then (0, m) else m.trim 0 0) = r1) (h2 : (if r1.1 = 0 ∧ m.b.s ≠ [] then r1.2.trim 1 0 else r1) = r2)
    (h3 : (if r2.1 = 0 then r2.2.write 0 P else r2) = r3) (h4 : (if r3.1 = 0 then r3.2.sync 0 else r3) = r4) : openM m = if r4.1 = 0 then (0, some (⟨0, 1, 0, false⟩, [], []), r4.2) else (r4.1, none, r4.2) := by
  subst hP
  unfold openM
  rw [if_neg (by rw [hoff]; decide), scan4_tell, scan4_tell, if_pos ⟨z0, z1⟩]
  dsimp only
  rw [h1, h2, h3, h4]
def Tid (m : M) (t : Int) : Prop := m.off = false ∧ t = (if (tellT m.a.s).1 < (tellT m.b.s).1 then 1 else 0) ∧ ¬ ((tellT m.a.s).1 = 0 ∧ (tellT m.b.s).1 = 0)
def Ng (a b : Nat) : Prop := ¬ a < b
theorem openM_tidy_eq {m : M} {t : Int} (htid : Tid m t) {pT : Int × Text × List Text × Nat} (hp : tellT (m.get t).s = pT) {r1 r2 : Int × M} (h1 : (if pT.2.2.2 < (m.get t).s.length then m.trim t pT.2.2.2 else (0, m)) = r1)
    (h2 : (if r1.1 = 0 ∧ (m.get (1 - t)).s ≠ [] then r1.2.trim (1 - t) 0 else r1) = r2) : openM m = if r2.1 = 0 then (0, some (⟨t, pT.1, pT.2.2.1.length, false⟩, pT.2.1, pT.2.2.1), r2.2) else (r2.1, none, r2.2) := by
  obtain ⟨hoff, ht, hz⟩ := htid
  have hpick : (if (tellT m.a.s).1 < (tellT m.b.s).1 then tellT m.b.s else tellT m.a.s) = pT := by
    rw [← hp, ht]
    split
    · rfl
    · rfl
  unfold openM
  rw [if_neg (by rw [hoff]; decide), scan4_tell, scan4_tell, if_neg hz]
  dsimp only
  rw [hpick, ← ht, h1, h2]

theorem dopen_off {p : Nat} {m : M} {w : World} (h : RD p m w) (ho : m.off = true) :
    Calls Tryz.prog 11 #[dtr p] w fun e w' => DOut (openM m) p w e w' := by
  have c1 := d_read 0 h
  rw [show m.read 0 = ([], 30) from by unfold M.read; rw [if_neg (by decide), if_pos ho]] at c1
  have z := DOut.no (p := p) (w := w) (openM_off ho) h (FD.refl p w)
  go_enter Tryz.func11, Tryz.ntmps11
  go_wp2_with fail
  refine c1.mono ?_
  rintro e w' ⟨rfl, rfl⟩
  go_wp2_with fail
  exact bodyPost_ret (by simp [results, Tryz.results11, go_sem]) rfl z

theorem tx_nil {A : ByteArray} (h : A.data.toList = []) : A = ⟨#[]⟩ := ba_ext h
theorem tx_some {A : ByteArray} (h : A.data.toList ≠ []) : A.toList.isEmpty = false := by
  rw [ByteArray.toList_eq]
  cases hA : A.data.toList with
  | nil => exact absurd hA h
  | cons c l => rfl
theorem FD.old_size {p : Nat} {w w' : World} (h : FD p w w') : w.heap.size ≤ w'.heap.size := h.below.size
theorem SR.keepB {B : Nat} {v : Value} {ss : List ByteArray} {w w' : World} (h : SR B v ss w) (hk : ∀ (k : Nat) (cs : Array Value) (f : Nat × Nat), B ≤ k → w.heap[k]? = some (Obj.cells cs 9 f) → w'.heap[k]? = some (Obj.cells cs 9 f)) : SR B v ss w' := by
  obtain ⟨base, h1, hs, h2⟩ := h
  refine ⟨base, h1, hs, ?_⟩
  rcases h2 with hn | ⟨g, cap, cur, rfl, hb, hg, rest⟩
  · exact .inl hn
  · exact .inr ⟨g, cap, cur, rfl, hb, hk _ _ _ (Nat.le_trans h1 hb) hg, rest⟩
/-- rows of strings stay, but for the reel's own -/
theorem FD.keep9 {p : Nat} {m : M} {w w' : World} (f : FD p w w') (h : RD p m w) : ∀ (k : Nat) (cs : Array Value) (fz : Nat × Nat), k ≠ p → w.heap[k]? = some (Obj.cells cs 9 fz) → w'.heap[k]? = some (Obj.cells cs 9 fz) := by
  intro k cs fz hp hk
  rw [f.old k (lt_of_block hk) hp ?_ ?_]
  · exact hk
  · rintro rfl; rw [h.2.1] at hk; injection hk with hk; injection hk with _ hk; exact absurd hk (by decide)
  · rintro rfl; rw [h.2.2] at hk; injection hk with hk; injection hk with _ hk; exact absurd hk (by decide)

set_option maxHeartbeats 16000000 in
set_option maxRecDepth 100000 in
theorem dopen_fresh {p : Nat} {m : M} {w : World} (h : RD p m w) (hoff : m.off = false) (hm : m.ok) (ho : m.ops < 4611686018427387890) (z0 : (tellT m.a.s).1 = 0) (z1 : (tellT m.b.s).1 = 0) :
    Calls Tryz.prog 11 #[dtr p] w fun e w' => DOut (openM m) p w e w' := by
  have c1 := d_read 0 h
  rw [show m.read 0 = (m.a.s, 0) from by unfold M.read; rw [if_neg (by decide), if_neg (by rw [hoff]; decide)]; try rfl] at c1
  have c2 := d_read 1 h
  rw [show m.read 1 = (m.b.s, 0) from by unfold M.read; rw [if_neg (by decide), if_neg (by rw [hoff]; decide)]; try rfl] at c2
  have hroom := hm.room
  have hfits := hm.fits
  have hpw : p + 2 < w.heap.size := h.lt
  obtain ⟨A, hA⟩ : ∃ A, tx m.a.s = A := ⟨_, rfl⟩
  obtain ⟨B, hB⟩ : ∃ B, tx m.b.s = B := ⟨_, rfl⟩
  have hAd : A.data.toList = m.a.s := by rw [← hA]
  have hBd : B.data.toList = m.b.s := by rw [← hB]
  have hAs : A.size = m.a.s.length := by rw [← hAd]; simp
  have hBs : B.size = m.b.s.length := by rw [← hBd]; simp
  rw [hA] at c1
  rw [hB] at c2
  have sA := fun w => dscan_any A w (by omega)
  have sB := fun w => dscan_any B w (by omega)
  rw [hAd] at sA
  rw [hBd] at sB
  have HZ := Lib.hid (And.intro hoff (And.intro z0 z1))
  have hP : (pageT kBase 1 []).length ≤ 600000 := by
    have := page_short (kind := kBase) (n := 1) (s := []) (by decide) (by decide) (by decide)
    simp at this ⊢; omega
  have CPG := fun w => rpage_any ⟨#[98, 97, 115, 101]⟩ ⟨#[]⟩ 1 w (by decide) (by decide) (by decide)
  rw [show ((⟨#[98, 97, 115, 101]⟩ : ByteArray).data.toList) = kBase from rfl, show ((⟨#[]⟩ : ByteArray).data.toList) = [] from rfl] at CPG
  obtain ⟨P, hPe⟩ : ∃ P, pageT kBase 1 [] = P := ⟨_, rfl⟩
  rw [hPe] at CPG hP
  have HPE := Lib.hid hPe
  clear hPe
  obtain ⟨⟨E0, T0, L0, G0⟩, hq0⟩ : ∃ x, tellT m.a.s = x := ⟨_, rfl⟩
  obtain ⟨⟨E1, T1, L1, G1⟩, hq1⟩ : ∃ x, tellT m.b.s = x := ⟨_, rfl⟩
  rw [hq0] at sA z0
  rw [hq1] at sB z1
  simp only at z0 z1
  subst z0 z1
  clear hq0 hq1
  clear hA hB hAs hBs hfits hroom
  go_enter Tryz.func11, Tryz.ntmps11
  go_wp2_with fail
  refine c1.mono ?_
  rintro e w' ⟨rfl, rfl⟩
  go_wp2_with fail
  refine c2.mono ?_
  rintro e w' ⟨rfl, rfl⟩
  go_wp2_with fail
  refine (sA _).mono ?_
  rintro e w1 ⟨⟨ba, va, sa, rfl, hba, hsa, hva⟩, b1⟩
  obtain ⟨Ap, An, rfl⟩ := hva.form
  go_wp2_with fail
  clear hba hsa
  refine (sB _).mono ?_
  rintro e w2 ⟨⟨bb, vb, sb, rfl, hbb, hsb, hvb⟩, b2⟩
  obtain ⟨Bp, Bn, rfl⟩ := hvb.form
  clear hbb hsb
  have b12 := b1.trans (b2.mono b1.size)
  have R2 := h.below b12
  have F2 : FD p w w2 := FD.of_below b12 (by have := h.lt; omega)
  have va2 := hva.below b2
  have vb2 := hvb.more b1.size
  clear c1 c2 sA sB b1 b2 b12 hva hvb h va2 vb2
  by_cases ha : m.a.s = []
  · obtain rfl := tx_nil (hAd.trans ha)
    have HA := Lib.hid ha
    have hm1 := hm
    have ho1 : m.ops ≤ m.ops + 1 := Nat.le_succ _
    clear ha hAd
    by_cases hb : m.b.s = []
    · obtain rfl := tx_nil (hBd.trans hb)
      have HB := Lib.hid hb
      have hm2 := hm1
      have ho2 : m.ops ≤ m.ops + 1 := Nat.le_succ _
      clear hb hBd
      have cw := fun w (h : RD p m w) => d_writeT 0 P h hm2 (by omega) hP
      have hm3 := hm2.write 0 P (by omega)
      have ho3 := m.write_ops 0 P
      obtain ⟨r3, hr3⟩ : ∃ r3, m.write 0 P = r3 := ⟨_, rfl⟩
      rw [hr3] at cw hm3 ho3
      obtain ⟨e3, m3⟩ := r3
      simp only at cw hm3 ho3
      have HR3 := Lib.hid hr3
      clear hr3
      go_wp2_with fail
      refine (CPG _).mono ?_
      rintro e w5 ⟨rfl, b5⟩
      have R5 := R2.below b5
      have F5 := F2.trans (FD.of_below b5 (by have := R2.lt; omega))
      clear R2 F2 b5
      go_wp2_with fail
      refine (cw _ R5).mono ?_
      rintro e w6 ⟨rfl, R6, f6⟩
      have F6 := F5.trans f6
      clear cw R5 F5 f6 CPG
      by_cases he3 : e3 = 0
      · subst he3
        have cs := d_sync 0 R6 hm3 (by omega)
        obtain ⟨r4, hr4⟩ : ∃ r4, m3.sync 0 = r4 := ⟨_, rfl⟩
        rw [hr4] at cs
        obtain ⟨e4, m4⟩ := r4
        simp only at cs
        have HR4 := Lib.hid hr4
        clear hr4
        go_wp2_with fail
        refine cs.mono ?_
        rintro e w7 ⟨rfl, R7, f7⟩
        have F7 := F6.trans f7
        clear cs R6 F6 f7
        by_cases he4 : e4 = 0
        · subst he4
          have z := DOut.yes (p := p) (w := w) ((openM_fresh_eq (r1 := (0, m)) (r2 := (0, m)) (r3 := (0, m3)) (r4 := (0, m4)) HPE.out HZ.out.1 HZ.out.2.1 HZ.out.2.2 (if_pos HA.out) (if_neg (fun h => h.2 HB.out)) ((if_pos rfl).trans HR3.out) ((if_pos rfl).trans HR4.out)).trans (if_pos rfl)) R7 F7 (by have := R7.lt; omega) (B := ⟨#[]⟩) (v := .slice none 0 0) (ss := []) rfl rfl ((SR.nil w7).more (by have := F7.old_size; omega)) rfl
          clear HZ HPE HA HB HR3 HR4 R7 F7
          go_wp2_with fail
          exact bodyPost_ret (by simp [results, Tryz.results11, go_sem]) rfl z
        · have e4c : (e4 != 0) = true := by simpa using he4
          have z := DOut.no (p := p) (w := w) ((openM_fresh_eq (r1 := (0, m)) (r2 := (0, m)) (r3 := (0, m3)) (r4 := (e4, m4)) HPE.out HZ.out.1 HZ.out.2.1 HZ.out.2.2 (if_pos HA.out) (if_neg (fun h => h.2 HB.out)) ((if_pos rfl).trans HR3.out) ((if_pos rfl).trans HR4.out)).trans (if_neg he4)) R7 F7
          clear HZ HPE HA HB HR3 HR4 R7 F7 he4
          go_wp2_with fail
          exact bodyPost_ret (by simp [results, Tryz.results11, go_sem]) rfl z
      · have e3b : (e3 == 0) = false := by simpa using he3
        have e3c : (e3 != 0) = true := by simpa using he3
        have z := DOut.no (p := p) (w := w) ((openM_fresh_eq (r1 := (0, m)) (r2 := (0, m)) (r3 := (e3, m3)) (r4 := (e3, m3)) HPE.out HZ.out.1 HZ.out.2.1 HZ.out.2.2 (if_pos HA.out) (if_neg (fun h => h.2 HB.out)) ((if_pos rfl).trans HR3.out) (if_neg he3)).trans (if_neg he3)) R6 F6
        clear HZ HPE HA HB HR3 R6 F6 he3
        go_wp2_with fail
        exact bodyPost_ret (by simp [results, Tryz.results11, go_sem]) rfl z
    · have eb := tx_some (A := B) (by rw [hBd]; exact hb)
      have cw := d_wipe 1 R2 hm1 (by omega)
      have hm2 := hm1.trim 1 0 (by omega)
      have ho2 := m.trim_ops 1 0
      have HB := Lib.hid hb
      obtain ⟨r2, hr2⟩ : ∃ r2, m.trim 1 0 = r2 := ⟨_, rfl⟩
      rw [hr2] at cw hm2 ho2
      obtain ⟨e2, m2⟩ := r2
      simp only at cw hm2 ho2
      have HR2 := Lib.hid hr2
      clear hr2 hb hBd
      go_wp2_with fail
      refine cw.mono ?_
      rintro e w4 ⟨rfl, R4, f4⟩
      have F4 := F2.trans f4
      clear cw R2 F2 f4
      by_cases he2 : e2 = 0
      · subst he2
        have cw := fun w (h : RD p m2 w) => d_writeT 0 P h hm2 (by omega) hP
        have hm3 := hm2.write 0 P (by omega)
        have ho3 := m2.write_ops 0 P
        obtain ⟨r3, hr3⟩ : ∃ r3, m2.write 0 P = r3 := ⟨_, rfl⟩
        rw [hr3] at cw hm3 ho3
        obtain ⟨e3, m3⟩ := r3
        simp only at cw hm3 ho3
        have HR3 := Lib.hid hr3
        clear hr3
        go_wp2_with fail
        refine (CPG _).mono ?_
        rintro e w5 ⟨rfl, b5⟩
        have R5 := R4.below b5
        have F5 := F4.trans (FD.of_below b5 (by have := R4.lt; omega))
        clear R4 F4 b5
        go_wp2_with fail
        refine (cw _ R5).mono ?_
        rintro e w6 ⟨rfl, R6, f6⟩
        have F6 := F5.trans f6
        clear cw R5 F5 f6 CPG
        by_cases he3 : e3 = 0
        · subst he3
          have cs := d_sync 0 R6 hm3 (by omega)
          obtain ⟨r4, hr4⟩ : ∃ r4, m3.sync 0 = r4 := ⟨_, rfl⟩
          rw [hr4] at cs
          obtain ⟨e4, m4⟩ := r4
          simp only at cs
          have HR4 := Lib.hid hr4
          clear hr4
          go_wp2_with fail
          refine cs.mono ?_
          rintro e w7 ⟨rfl, R7, f7⟩
          have F7 := F6.trans f7
          clear cs R6 F6 f7
          by_cases he4 : e4 = 0
          · subst he4
            have z := DOut.yes (p := p) (w := w) ((openM_fresh_eq (r1 := (0, m)) (r2 := (0, m2)) (r3 := (0, m3)) (r4 := (0, m4)) HPE.out HZ.out.1 HZ.out.2.1 HZ.out.2.2 (if_pos HA.out) ((if_pos ⟨rfl, HB.out⟩).trans HR2.out) ((if_pos rfl).trans HR3.out) ((if_pos rfl).trans HR4.out)).trans (if_pos rfl)) R7 F7 (by have := R7.lt; omega) (B := ⟨#[]⟩) (v := .slice none 0 0) (ss := []) rfl rfl ((SR.nil w7).more (by have := F7.old_size; omega)) rfl
            clear HZ HPE HA HB HR3 HR4 R7 F7
            go_wp2_with fail
            exact bodyPost_ret (by simp [results, Tryz.results11, go_sem]) rfl z
          · have e4c : (e4 != 0) = true := by simpa using he4
            have z := DOut.no (p := p) (w := w) ((openM_fresh_eq (r1 := (0, m)) (r2 := (0, m2)) (r3 := (0, m3)) (r4 := (e4, m4)) HPE.out HZ.out.1 HZ.out.2.1 HZ.out.2.2 (if_pos HA.out) ((if_pos ⟨rfl, HB.out⟩).trans HR2.out) ((if_pos rfl).trans HR3.out) ((if_pos rfl).trans HR4.out)).trans (if_neg he4)) R7 F7
            clear HZ HPE HA HB HR3 HR4 R7 F7 he4
            go_wp2_with fail
            exact bodyPost_ret (by simp [results, Tryz.results11, go_sem]) rfl z
        · have e3b : (e3 == 0) = false := by simpa using he3
          have e3c : (e3 != 0) = true := by simpa using he3
          have z := DOut.no (p := p) (w := w) ((openM_fresh_eq (r1 := (0, m)) (r2 := (0, m2)) (r3 := (e3, m3)) (r4 := (e3, m3)) HPE.out HZ.out.1 HZ.out.2.1 HZ.out.2.2 (if_pos HA.out) ((if_pos ⟨rfl, HB.out⟩).trans HR2.out) ((if_pos rfl).trans HR3.out) (if_neg he3)).trans (if_neg he3)) R6 F6
          clear HZ HPE HA HB HR3 R6 F6 he3
          go_wp2_with fail
          exact bodyPost_ret (by simp [results, Tryz.results11, go_sem]) rfl z
      · have e2b : (e2 == 0) = false := by simpa using he2
        have e2c : (e2 != 0) = true := by simpa using he2
        have z := DOut.no (p := p) (w := w) ((openM_fresh_eq (r1 := (0, m)) (r2 := (e2, m2)) (r3 := (e2, m2)) (r4 := (e2, m2)) HPE.out HZ.out.1 HZ.out.2.1 HZ.out.2.2 (if_pos HA.out) ((if_pos ⟨rfl, HB.out⟩).trans HR2.out) (if_neg he2) (if_neg he2)).trans (if_neg he2)) R4 F4
        clear HZ HPE HA HB HR2 R4 F4 he2
        go_wp2_with fail
        exact bodyPost_ret (by simp [results, Tryz.results11, go_sem]) rfl z
  · have ea := tx_some (A := A) (by rw [hAd]; exact ha)
    have cw := d_wipe 0 R2 hm (by omega)
    have hm1 := hm.trim 0 0 (by omega)
    have ho1 := m.trim_ops 0 0
    have HA := Lib.hid ha
    obtain ⟨r1, hr1⟩ : ∃ r1, m.trim 0 0 = r1 := ⟨_, rfl⟩
    rw [hr1] at cw hm1 ho1
    obtain ⟨e1, m1⟩ := r1
    simp only at cw hm1 ho1
    have HR1 := Lib.hid hr1
    clear hr1 ha hAd
    go_wp2_with fail
    refine cw.mono ?_
    rintro e w3 ⟨rfl, R3, f3⟩
    have F3 := F2.trans f3
    clear cw R2 F2 f3
    by_cases he1 : e1 = 0
    · subst he1
      by_cases hb : m.b.s = []
      · obtain rfl := tx_nil (hBd.trans hb)
        have HB := Lib.hid hb
        have hm2 := hm1
        have ho2 : m1.ops ≤ m1.ops + 1 := Nat.le_succ _
        clear hb hBd
        have cw := fun w (h : RD p m1 w) => d_writeT 0 P h hm2 (by omega) hP
        have hm3 := hm2.write 0 P (by omega)
        have ho3 := m1.write_ops 0 P
        obtain ⟨r3, hr3⟩ : ∃ r3, m1.write 0 P = r3 := ⟨_, rfl⟩
        rw [hr3] at cw hm3 ho3
        obtain ⟨e3, m3⟩ := r3
        simp only at cw hm3 ho3
        have HR3 := Lib.hid hr3
        clear hr3
        go_wp2_with fail
        refine (CPG _).mono ?_
        rintro e w5 ⟨rfl, b5⟩
        have R5 := R3.below b5
        have F5 := F3.trans (FD.of_below b5 (by have := R3.lt; omega))
        clear R3 F3 b5
        go_wp2_with fail
        refine (cw _ R5).mono ?_
        rintro e w6 ⟨rfl, R6, f6⟩
        have F6 := F5.trans f6
        clear cw R5 F5 f6 CPG
        by_cases he3 : e3 = 0
        · subst he3
          have cs := d_sync 0 R6 hm3 (by omega)
          obtain ⟨r4, hr4⟩ : ∃ r4, m3.sync 0 = r4 := ⟨_, rfl⟩
          rw [hr4] at cs
          obtain ⟨e4, m4⟩ := r4
          simp only at cs
          have HR4 := Lib.hid hr4
          clear hr4
          go_wp2_with fail
          refine cs.mono ?_
          rintro e w7 ⟨rfl, R7, f7⟩
          have F7 := F6.trans f7
          clear cs R6 F6 f7
          by_cases he4 : e4 = 0
          · subst he4
            have z := DOut.yes (p := p) (w := w) ((openM_fresh_eq (r1 := (0, m1)) (r2 := (0, m1)) (r3 := (0, m3)) (r4 := (0, m4)) HPE.out HZ.out.1 HZ.out.2.1 HZ.out.2.2 ((if_neg HA.out).trans HR1.out) (if_neg (fun h => h.2 HB.out)) ((if_pos rfl).trans HR3.out) ((if_pos rfl).trans HR4.out)).trans (if_pos rfl)) R7 F7 (by have := R7.lt; omega) (B := ⟨#[]⟩) (v := .slice none 0 0) (ss := []) rfl rfl ((SR.nil w7).more (by have := F7.old_size; omega)) rfl
            clear HZ HPE HA HB HR3 HR4 R7 F7
            go_wp2_with fail
            exact bodyPost_ret (by simp [results, Tryz.results11, go_sem]) rfl z
          · have e4c : (e4 != 0) = true := by simpa using he4
            have z := DOut.no (p := p) (w := w) ((openM_fresh_eq (r1 := (0, m1)) (r2 := (0, m1)) (r3 := (0, m3)) (r4 := (e4, m4)) HPE.out HZ.out.1 HZ.out.2.1 HZ.out.2.2 ((if_neg HA.out).trans HR1.out) (if_neg (fun h => h.2 HB.out)) ((if_pos rfl).trans HR3.out) ((if_pos rfl).trans HR4.out)).trans (if_neg he4)) R7 F7
            clear HZ HPE HA HB HR3 HR4 R7 F7 he4
            go_wp2_with fail
            exact bodyPost_ret (by simp [results, Tryz.results11, go_sem]) rfl z
        · have e3b : (e3 == 0) = false := by simpa using he3
          have e3c : (e3 != 0) = true := by simpa using he3
          have z := DOut.no (p := p) (w := w) ((openM_fresh_eq (r1 := (0, m1)) (r2 := (0, m1)) (r3 := (e3, m3)) (r4 := (e3, m3)) HPE.out HZ.out.1 HZ.out.2.1 HZ.out.2.2 ((if_neg HA.out).trans HR1.out) (if_neg (fun h => h.2 HB.out)) ((if_pos rfl).trans HR3.out) (if_neg he3)).trans (if_neg he3)) R6 F6
          clear HZ HPE HA HB HR3 R6 F6 he3
          go_wp2_with fail
          exact bodyPost_ret (by simp [results, Tryz.results11, go_sem]) rfl z
      · have eb := tx_some (A := B) (by rw [hBd]; exact hb)
        have cw := d_wipe 1 R3 hm1 (by omega)
        have hm2 := hm1.trim 1 0 (by omega)
        have ho2 := m1.trim_ops 1 0
        have HB := Lib.hid hb
        obtain ⟨r2, hr2⟩ : ∃ r2, m1.trim 1 0 = r2 := ⟨_, rfl⟩
        rw [hr2] at cw hm2 ho2
        obtain ⟨e2, m2⟩ := r2
        simp only at cw hm2 ho2
        have HR2 := Lib.hid hr2
        clear hr2 hb hBd
        go_wp2_with fail
        refine cw.mono ?_
        rintro e w4 ⟨rfl, R4, f4⟩
        have F4 := F3.trans f4
        clear cw R3 F3 f4
        by_cases he2 : e2 = 0
        · subst he2
          have cw := fun w (h : RD p m2 w) => d_writeT 0 P h hm2 (by omega) hP
          have hm3 := hm2.write 0 P (by omega)
          have ho3 := m2.write_ops 0 P
          obtain ⟨r3, hr3⟩ : ∃ r3, m2.write 0 P = r3 := ⟨_, rfl⟩
          rw [hr3] at cw hm3 ho3
          obtain ⟨e3, m3⟩ := r3
          simp only at cw hm3 ho3
          have HR3 := Lib.hid hr3
          clear hr3
          go_wp2_with fail
          refine (CPG _).mono ?_
          rintro e w5 ⟨rfl, b5⟩
          have R5 := R4.below b5
          have F5 := F4.trans (FD.of_below b5 (by have := R4.lt; omega))
          clear R4 F4 b5
          go_wp2_with fail
          refine (cw _ R5).mono ?_
          rintro e w6 ⟨rfl, R6, f6⟩
          have F6 := F5.trans f6
          clear cw R5 F5 f6 CPG
          by_cases he3 : e3 = 0
          · subst he3
            have cs := d_sync 0 R6 hm3 (by omega)
            obtain ⟨r4, hr4⟩ : ∃ r4, m3.sync 0 = r4 := ⟨_, rfl⟩
            rw [hr4] at cs
            obtain ⟨e4, m4⟩ := r4
            simp only at cs
            have HR4 := Lib.hid hr4
            clear hr4
            go_wp2_with fail
            refine cs.mono ?_
            rintro e w7 ⟨rfl, R7, f7⟩
            have F7 := F6.trans f7
            clear cs R6 F6 f7
            by_cases he4 : e4 = 0
            · subst he4
              have z := DOut.yes (p := p) (w := w) ((openM_fresh_eq (r1 := (0, m1)) (r2 := (0, m2)) (r3 := (0, m3)) (r4 := (0, m4)) HPE.out HZ.out.1 HZ.out.2.1 HZ.out.2.2 ((if_neg HA.out).trans HR1.out) ((if_pos ⟨rfl, HB.out⟩).trans HR2.out) ((if_pos rfl).trans HR3.out) ((if_pos rfl).trans HR4.out)).trans (if_pos rfl)) R7 F7 (by have := R7.lt; omega) (B := ⟨#[]⟩) (v := .slice none 0 0) (ss := []) rfl rfl ((SR.nil w7).more (by have := F7.old_size; omega)) rfl
              clear HZ HPE HA HB HR3 HR4 R7 F7
              go_wp2_with fail
              exact bodyPost_ret (by simp [results, Tryz.results11, go_sem]) rfl z
            · have e4c : (e4 != 0) = true := by simpa using he4
              have z := DOut.no (p := p) (w := w) ((openM_fresh_eq (r1 := (0, m1)) (r2 := (0, m2)) (r3 := (0, m3)) (r4 := (e4, m4)) HPE.out HZ.out.1 HZ.out.2.1 HZ.out.2.2 ((if_neg HA.out).trans HR1.out) ((if_pos ⟨rfl, HB.out⟩).trans HR2.out) ((if_pos rfl).trans HR3.out) ((if_pos rfl).trans HR4.out)).trans (if_neg he4)) R7 F7
              clear HZ HPE HA HB HR3 HR4 R7 F7 he4
              go_wp2_with fail
              exact bodyPost_ret (by simp [results, Tryz.results11, go_sem]) rfl z
          · have e3b : (e3 == 0) = false := by simpa using he3
            have e3c : (e3 != 0) = true := by simpa using he3
            have z := DOut.no (p := p) (w := w) ((openM_fresh_eq (r1 := (0, m1)) (r2 := (0, m2)) (r3 := (e3, m3)) (r4 := (e3, m3)) HPE.out HZ.out.1 HZ.out.2.1 HZ.out.2.2 ((if_neg HA.out).trans HR1.out) ((if_pos ⟨rfl, HB.out⟩).trans HR2.out) ((if_pos rfl).trans HR3.out) (if_neg he3)).trans (if_neg he3)) R6 F6
            clear HZ HPE HA HB HR3 R6 F6 he3
            go_wp2_with fail
            exact bodyPost_ret (by simp [results, Tryz.results11, go_sem]) rfl z
        · have e2b : (e2 == 0) = false := by simpa using he2
          have e2c : (e2 != 0) = true := by simpa using he2
          have z := DOut.no (p := p) (w := w) ((openM_fresh_eq (r1 := (0, m1)) (r2 := (e2, m2)) (r3 := (e2, m2)) (r4 := (e2, m2)) HPE.out HZ.out.1 HZ.out.2.1 HZ.out.2.2 ((if_neg HA.out).trans HR1.out) ((if_pos ⟨rfl, HB.out⟩).trans HR2.out) (if_neg he2) (if_neg he2)).trans (if_neg he2)) R4 F4
          clear HZ HPE HA HB HR2 R4 F4 he2
          go_wp2_with fail
          exact bodyPost_ret (by simp [results, Tryz.results11, go_sem]) rfl z
    · have e1b : (e1 == 0) = false := by simpa using he1
      have e1c : (e1 != 0) = true := by simpa using he1
      have z := DOut.no (p := p) (w := w) ((openM_fresh_eq (r1 := (e1, m1)) (r2 := (e1, m1)) (r3 := (e1, m1)) (r4 := (e1, m1)) HPE.out HZ.out.1 HZ.out.2.1 HZ.out.2.2 ((if_neg HA.out).trans HR1.out) (if_neg (fun h => he1 h.1)) (if_neg he1) (if_neg he1)).trans (if_neg he1)) R3 F3
      clear HZ HPE HA HR1 R3 F3 he1
      go_wp2_with fail
      exact bodyPost_ret (by simp [results, Tryz.results11, go_sem]) rfl z

set_option maxHeartbeats 16000000 in
set_option maxRecDepth 100000 in
theorem dopen_tidy0 {p : Nat} {m : M} {w : World} (h : RD p m w) (hoff : m.off = false) (hm : m.ok) (ho : m.ops < 4611686018427387890) (hz : ¬ ((tellT m.a.s).1 = 0 ∧ (tellT m.b.s).1 = 0)) (hl : ¬ (tellT m.a.s).1 < (tellT m.b.s).1) :
    Calls Tryz.prog 11 #[dtr p] w fun e w' => DOut (openM m) p w e w' := by
  have c1 := d_read 0 h
  rw [show m.read 0 = (m.a.s, 0) from by unfold M.read; rw [if_neg (by decide), if_neg (by rw [hoff]; decide)]; try rfl] at c1
  have c2 := d_read 1 h
  rw [show m.read 1 = (m.b.s, 0) from by unfold M.read; rw [if_neg (by decide), if_neg (by rw [hoff]; decide)]; try rfl] at c2
  have hroom := hm.room
  have hfits := hm.fits
  have hpw : p + 2 < w.heap.size := h.lt
  obtain ⟨A, hA⟩ : ∃ A, tx m.a.s = A := ⟨_, rfl⟩
  obtain ⟨B, hB⟩ : ∃ B, tx m.b.s = B := ⟨_, rfl⟩
  have hAd : A.data.toList = m.a.s := by rw [← hA]
  have hBd : B.data.toList = m.b.s := by rw [← hB]
  have hAs : A.size = m.a.s.length := by rw [← hAd]; simp
  have hBs : B.size = m.b.s.length := by rw [← hBd]; simp
  rw [hA] at c1
  rw [hB] at c2
  have sA := fun w => dscan_any A w (by omega)
  have sB := fun w => dscan_any B w (by omega)
  rw [hAd] at sA
  rw [hBd] at sB
  have nn0 := (tell_len m.a.s).2.2.1
  have nn1 := (tell_len m.b.s).2.2.1
  have nr := (tell_len m.a.s).2.1
  have HZ : Tid m 0 := ⟨hoff, by rw [if_neg hl], hz⟩
  obtain ⟨⟨E0, T0, L0, G0⟩, hq0⟩ : ∃ x, tellT m.a.s = x := ⟨_, rfl⟩
  obtain ⟨⟨E1, T1, L1, G1⟩, hq1⟩ : ∃ x, tellT m.b.s = x := ⟨_, rfl⟩
  rw [hq0] at sA hz hl nn0 nr
  rw [hq1] at sB hz hl nn1
  have HQ := Lib.hid hq0
  simp only at sA sB hz hl nn0 nn1 nr
  clear hq0 hq1 hoff hA hB hfits
  have hgt : ¬ E0 < E1 := hl
  have hand : (E0 == 0 && E1 == 0) = false := by
    cases h1 : (E0 == 0) with
    | false => rfl
    | true => cases h2 : (E1 == 0) with
      | false => rfl
      | true => exact absurd ⟨by simpa using h1, by simpa using h2⟩ hz
  by_cases hE0 : E0 = 0
  · exfalso
    subst hE0
    exact hz ⟨rfl, by omega⟩
  have hE0b : (E0 == 0) = false := by simpa using hE0
  clear hz hl hE0
  go_enter Tryz.func11, Tryz.ntmps11
  go_wp2_with fail
  refine c1.mono ?_
  rintro e w' ⟨rfl, rfl⟩
  go_wp2_with fail
  refine c2.mono ?_
  rintro e w' ⟨rfl, rfl⟩
  go_wp2_with fail
  refine (sA _).mono ?_
  rintro e w1 ⟨⟨ba, va, sa, rfl, hba, hsa, hva⟩, b1⟩
  obtain ⟨Ap, An, rfl⟩ := hva.form
  go_wp2_with fail
  refine (sB _).mono ?_
  rintro e w2 ⟨⟨bb, vb, sb, rfl, hbb, hsb, hvb⟩, b2⟩
  obtain ⟨Bp, Bn, rfl⟩ := hvb.form
  have b12 := b1.trans (b2.mono b1.size)
  have R2 := h.below b12
  have F2 : FD p w w2 := FD.of_below b12 (by have := h.lt; omega)
  have va2 := hva.below b2
  have vb2 := hvb.more b1.size
  clear c1 c2 sA sB b1 b2 b12 hva hvb h
  by_cases hg : G0 < m.a.s.length
  · have hgi : (G0 : Int) < (A.size : Int) := by omega
    have cw := d_trim 0 (G0 : Int) R2 hm (by omega)
    have hm1 := hm.trim 0 (G0 : Int) (by omega)
    have ho1 := m.trim_ops 0 (G0 : Int)
    have HG := Lib.hid hg
    obtain ⟨r1, hr1⟩ : ∃ r1, m.trim 0 (G0 : Int) = r1 := ⟨_, rfl⟩
    rw [hr1] at cw hm1 ho1
    obtain ⟨e1, m1⟩ := r1
    simp only at cw hm1 ho1
    have HR1 := Lib.hid hr1
    clear hr1 hg
    go_wp2_with fail
    refine cw.mono ?_
    rintro e w3 ⟨rfl, R3, f3⟩
    have F3 := F2.trans f3
    have v3 := va2.keepB (fun k cs fz hB hk => f3.keep9 R2 k cs fz (by have := hpw; omega) hk)
    clear cw R2 F2 f3 va2 vb2
    by_cases he1 : e1 = 0
    · subst he1
      by_cases hb : m.b.s = []
      · obtain rfl := tx_nil (hBd.trans hb)
        have HB := Lib.hid hb
        clear hb hBd ho ho1
        have z := DOut.yes (p := p) (w := w) ((openM_tidy_eq (r1 := (0, m1)) (r2 := (0, m1)) HZ HQ.out ((if_pos HG.out).trans HR1.out) (if_neg (fun h => h.2 HB.out))).trans (if_pos rfl)) R3 F3 (by have := R3.lt; omega) hba hsa v3 rfl
        rw [show L0.length = sa.length from by have hq := congrArg List.length hsa; rw [texts_length] at hq; exact hq.symm] at z
        clear HZ HQ HG HB R3 F3 v3 hba hbb hsa hsb
        go_wp2_with fail
        exact bodyPost_ret (by simp [results, Tryz.results11, go_sem]) rfl z
      · have eb := tx_some (A := B) (by rw [hBd]; exact hb)
        have cw := d_wipe 1 R3 hm1 (by omega)
        have HB := Lib.hid hb
        obtain ⟨r2, hr2⟩ : ∃ r2, m1.trim 1 0 = r2 := ⟨_, rfl⟩
        rw [hr2] at cw
        obtain ⟨e2, m2⟩ := r2
        simp only at cw
        have HR2 := Lib.hid hr2
        clear hr2 hb hBd ho ho1
        go_wp2_with fail
        refine cw.mono ?_
        rintro e w4 ⟨rfl, R4, f4⟩
        have F4 := F3.trans f4
        have v4 := v3.keepB (fun k cs fz hB hk => f4.keep9 R3 k cs fz (by have := hpw; omega) hk)
        clear cw R3 F3 f4 v3
        by_cases he2 : e2 = 0
        · subst he2
          have z := DOut.yes (p := p) (w := w) ((openM_tidy_eq (r1 := (0, m1)) (r2 := (0, m2)) HZ HQ.out ((if_pos HG.out).trans HR1.out) ((if_pos ⟨rfl, HB.out⟩).trans HR2.out)).trans (if_pos rfl)) R4 F4 (by have := R4.lt; omega) hba hsa v4 rfl
          rw [show L0.length = sa.length from by have hq := congrArg List.length hsa; rw [texts_length] at hq; exact hq.symm] at z
          clear HZ HQ HG HB R4 F4 v4 hba hbb hsa hsb
          go_wp2_with fail
          exact bodyPost_ret (by simp [results, Tryz.results11, go_sem]) rfl z
        · have e2c : (e2 != 0) = true := by simpa using he2
          have z := DOut.no (p := p) (w := w) ((openM_tidy_eq (r1 := (0, m1)) (r2 := (e2, m2)) HZ HQ.out ((if_pos HG.out).trans HR1.out) ((if_pos ⟨rfl, HB.out⟩).trans HR2.out)).trans (if_neg he2)) R4 F4
          clear HZ HQ HG HB HR2 R4 F4 he2 v4 hba hbb hsa hsb
          go_wp2_with fail
          exact bodyPost_ret (by simp [results, Tryz.results11, go_sem]) rfl z
    · have e1b : (e1 == 0) = false := by simpa using he1
      have e1c : (e1 != 0) = true := by simpa using he1
      have z := DOut.no (p := p) (w := w) ((openM_tidy_eq (r1 := (e1, m1)) (r2 := (e1, m1)) HZ HQ.out ((if_pos HG.out).trans HR1.out) (if_neg (fun h => he1 h.1))).trans (if_neg he1)) R3 F3
      clear HZ HQ HG HR1 R3 F3 he1 v3 hba hbb hsa hsb
      go_wp2_with fail
      exact bodyPost_ret (by simp [results, Tryz.results11, go_sem]) rfl z
  · have hgi : ¬ (G0 : Int) < (A.size : Int) := by omega
    have HG : Ng G0 m.a.s.length := hg
    have hm1 := hm
    have ho1 : m.ops ≤ m.ops + 1 := Nat.le_succ _
    have v2 := va2
    clear hg va2 vb2
    by_cases hb : m.b.s = []
    · obtain rfl := tx_nil (hBd.trans hb)
      have HB := Lib.hid hb
      clear hb hBd ho ho1
      have z := DOut.yes (p := p) (w := w) ((openM_tidy_eq (r1 := (0, m)) (r2 := (0, m)) HZ HQ.out (if_neg (id HG : ¬ G0 < m.a.s.length)) (if_neg (fun h => h.2 HB.out))).trans (if_pos rfl)) R2 F2 (by have := R2.lt; omega) hba hsa v2 rfl
      rw [show L0.length = sa.length from by have hq := congrArg List.length hsa; rw [texts_length] at hq; exact hq.symm] at z
      clear HZ HQ HG HB R2 F2 v2 hba hbb hsa hsb
      go_wp2_with fail
      exact bodyPost_ret (by simp [results, Tryz.results11, go_sem]) rfl z
    · have eb := tx_some (A := B) (by rw [hBd]; exact hb)
      have cw := d_wipe 1 R2 hm1 (by omega)
      have HB := Lib.hid hb
      obtain ⟨r2, hr2⟩ : ∃ r2, m.trim 1 0 = r2 := ⟨_, rfl⟩
      rw [hr2] at cw
      obtain ⟨e2, m2⟩ := r2
      simp only at cw
      have HR2 := Lib.hid hr2
      clear hr2 hb hBd ho ho1
      go_wp2_with fail
      refine cw.mono ?_
      rintro e w4 ⟨rfl, R4, f4⟩
      have F4 := F2.trans f4
      have v4 := v2.keepB (fun k cs fz hB hk => f4.keep9 R2 k cs fz (by have := hpw; omega) hk)
      clear cw R2 F2 f4 v2
      by_cases he2 : e2 = 0
      · subst he2
        have z := DOut.yes (p := p) (w := w) ((openM_tidy_eq (r1 := (0, m)) (r2 := (0, m2)) HZ HQ.out (if_neg (id HG : ¬ G0 < m.a.s.length)) ((if_pos ⟨rfl, HB.out⟩).trans HR2.out)).trans (if_pos rfl)) R4 F4 (by have := R4.lt; omega) hba hsa v4 rfl
        rw [show L0.length = sa.length from by have hq := congrArg List.length hsa; rw [texts_length] at hq; exact hq.symm] at z
        clear HZ HQ HG HB R4 F4 v4 hba hbb hsa hsb
        go_wp2_with fail
        exact bodyPost_ret (by simp [results, Tryz.results11, go_sem]) rfl z
      · have e2c : (e2 != 0) = true := by simpa using he2
        have z := DOut.no (p := p) (w := w) ((openM_tidy_eq (r1 := (0, m)) (r2 := (e2, m2)) HZ HQ.out (if_neg (id HG : ¬ G0 < m.a.s.length)) ((if_pos ⟨rfl, HB.out⟩).trans HR2.out)).trans (if_neg he2)) R4 F4
        clear HZ HQ HG HB HR2 R4 F4 he2 v4 hba hbb hsa hsb
        go_wp2_with fail
        exact bodyPost_ret (by simp [results, Tryz.results11, go_sem]) rfl z

set_option maxHeartbeats 16000000 in
set_option maxRecDepth 100000 in
theorem dopen_tidy1 {p : Nat} {m : M} {w : World} (h : RD p m w) (hoff : m.off = false) (hm : m.ok) (ho : m.ops < 4611686018427387890) (hz : ¬ ((tellT m.a.s).1 = 0 ∧ (tellT m.b.s).1 = 0)) (hl : (tellT m.a.s).1 < (tellT m.b.s).1) :
    Calls Tryz.prog 11 #[dtr p] w fun e w' => DOut (openM m) p w e w' := by
  have c1 := d_read 0 h
  rw [show m.read 0 = (m.a.s, 0) from by unfold M.read; rw [if_neg (by decide), if_neg (by rw [hoff]; decide)]; try rfl] at c1
  have c2 := d_read 1 h
  rw [show m.read 1 = (m.b.s, 0) from by unfold M.read; rw [if_neg (by decide), if_neg (by rw [hoff]; decide)]; try rfl] at c2
  have hroom := hm.room
  have hfits := hm.fits
  have hpw : p + 2 < w.heap.size := h.lt
  obtain ⟨A, hA⟩ : ∃ A, tx m.a.s = A := ⟨_, rfl⟩
  obtain ⟨B, hB⟩ : ∃ B, tx m.b.s = B := ⟨_, rfl⟩
  have hAd : A.data.toList = m.a.s := by rw [← hA]
  have hBd : B.data.toList = m.b.s := by rw [← hB]
  have hAs : A.size = m.a.s.length := by rw [← hAd]; simp
  have hBs : B.size = m.b.s.length := by rw [← hBd]; simp
  rw [hA] at c1
  rw [hB] at c2
  have sA := fun w => dscan_any A w (by omega)
  have sB := fun w => dscan_any B w (by omega)
  rw [hAd] at sA
  rw [hBd] at sB
  have nn0 := (tell_len m.a.s).2.2.1
  have nn1 := (tell_len m.b.s).2.2.1
  have nr := (tell_len m.b.s).2.1
  have HZ : Tid m 1 := ⟨hoff, by rw [if_pos hl], hz⟩
  obtain ⟨⟨E0, T0, L0, G0⟩, hq0⟩ : ∃ x, tellT m.b.s = x := ⟨_, rfl⟩
  obtain ⟨⟨E1, T1, L1, G1⟩, hq1⟩ : ∃ x, tellT m.a.s = x := ⟨_, rfl⟩
  rw [hq0] at sB hz hl nn1 nr
  rw [hq1] at sA hz hl nn0
  have HQ := Lib.hid hq0
  simp only at sA sB hz hl nn0 nn1 nr
  clear hq0 hq1 hoff hA hB hfits
  have hE0 : E0 ≠ 0 := by omega
  have hE0b : (E0 == 0) = false := by simpa using hE0
  clear hz hE0
  by_cases hE1 : E1 = 0
  · subst hE1
    go_enter Tryz.func11, Tryz.ntmps11
    go_wp2_with fail
    refine c1.mono ?_
    rintro e w' ⟨rfl, rfl⟩
    go_wp2_with fail
    refine c2.mono ?_
    rintro e w' ⟨rfl, rfl⟩
    go_wp2_with fail
    refine (sA _).mono ?_
    rintro e w1 ⟨⟨ba, va, sa, rfl, hba, hsa, hva⟩, b1⟩
    obtain ⟨Ap, An, rfl⟩ := hva.form
    go_wp2_with fail
    refine (sB _).mono ?_
    rintro e w2 ⟨⟨bb, vb, sb, rfl, hbb, hsb, hvb⟩, b2⟩
    obtain ⟨Bp, Bn, rfl⟩ := hvb.form
    have b12 := b1.trans (b2.mono b1.size)
    have R2 := h.below b12
    have F2 : FD p w w2 := FD.of_below b12 (by have := h.lt; omega)
    have va2 := hva.below b2
    have vb2 := hvb.more b1.size
    clear c1 c2 sA sB b1 b2 b12 hva hvb h
    by_cases hg : G0 < m.b.s.length
    · have hgi : (G0 : Int) < (B.size : Int) := by omega
      have cw := d_trim 1 (G0 : Int) R2 hm (by omega)
      have hm1 := hm.trim 1 (G0 : Int) (by omega)
      have ho1 := m.trim_ops 1 (G0 : Int)
      have HG := Lib.hid hg
      obtain ⟨r1, hr1⟩ : ∃ r1, m.trim 1 (G0 : Int) = r1 := ⟨_, rfl⟩
      rw [hr1] at cw hm1 ho1
      obtain ⟨e1, m1⟩ := r1
      simp only at cw hm1 ho1
      have HR1 := Lib.hid hr1
      clear hr1 hg
      go_wp2_with fail
      refine cw.mono ?_
      rintro e w3 ⟨rfl, R3, f3⟩
      have F3 := F2.trans f3
      have v3 := vb2.keepB (fun k cs fz hB hk => f3.keep9 R2 k cs fz (by have := hpw; omega) hk)
      clear cw R2 F2 f3 va2 vb2
      by_cases he1 : e1 = 0
      · subst he1
        by_cases hb : m.a.s = []
        · obtain rfl := tx_nil (hAd.trans hb)
          have HB := Lib.hid hb
          clear hb hAd ho ho1
          have z := DOut.yes (p := p) (w := w) ((openM_tidy_eq (r1 := (0, m1)) (r2 := (0, m1)) HZ HQ.out ((if_pos HG.out).trans HR1.out) (if_neg (fun h => h.2 HB.out))).trans (if_pos rfl)) R3 F3 (by have := R3.lt; omega) hbb hsb v3 rfl
          rw [show L0.length = sb.length from by have hq := congrArg List.length hsb; rw [texts_length] at hq; exact hq.symm] at z
          clear HZ HQ HG HB R3 F3 v3 hba hbb hsa hsb
          go_wp2_with fail
          exact bodyPost_ret (by simp [results, Tryz.results11, go_sem]) rfl z
        · have eb := tx_some (A := A) (by rw [hAd]; exact hb)
          have cw := d_wipe 0 R3 hm1 (by omega)
          have HB := Lib.hid hb
          obtain ⟨r2, hr2⟩ : ∃ r2, m1.trim 0 0 = r2 := ⟨_, rfl⟩
          rw [hr2] at cw
          obtain ⟨e2, m2⟩ := r2
          simp only at cw
          have HR2 := Lib.hid hr2
          clear hr2 hb hAd ho ho1
          go_wp2_with fail
          refine cw.mono ?_
          rintro e w4 ⟨rfl, R4, f4⟩
          have F4 := F3.trans f4
          have v4 := v3.keepB (fun k cs fz hB hk => f4.keep9 R3 k cs fz (by have := hpw; omega) hk)
          clear cw R3 F3 f4 v3
          by_cases he2 : e2 = 0
          · subst he2
            have z := DOut.yes (p := p) (w := w) ((openM_tidy_eq (r1 := (0, m1)) (r2 := (0, m2)) HZ HQ.out ((if_pos HG.out).trans HR1.out) ((if_pos ⟨rfl, HB.out⟩).trans HR2.out)).trans (if_pos rfl)) R4 F4 (by have := R4.lt; omega) hbb hsb v4 rfl
            rw [show L0.length = sb.length from by have hq := congrArg List.length hsb; rw [texts_length] at hq; exact hq.symm] at z
            clear HZ HQ HG HB R4 F4 v4 hba hbb hsa hsb
            go_wp2_with fail
            exact bodyPost_ret (by simp [results, Tryz.results11, go_sem]) rfl z
          · have e2c : (e2 != 0) = true := by simpa using he2
            have z := DOut.no (p := p) (w := w) ((openM_tidy_eq (r1 := (0, m1)) (r2 := (e2, m2)) HZ HQ.out ((if_pos HG.out).trans HR1.out) ((if_pos ⟨rfl, HB.out⟩).trans HR2.out)).trans (if_neg he2)) R4 F4
            clear HZ HQ HG HB HR2 R4 F4 he2 v4 hba hbb hsa hsb
            go_wp2_with fail
            exact bodyPost_ret (by simp [results, Tryz.results11, go_sem]) rfl z
      · have e1b : (e1 == 0) = false := by simpa using he1
        have e1c : (e1 != 0) = true := by simpa using he1
        have z := DOut.no (p := p) (w := w) ((openM_tidy_eq (r1 := (e1, m1)) (r2 := (e1, m1)) HZ HQ.out ((if_pos HG.out).trans HR1.out) (if_neg (fun h => he1 h.1))).trans (if_neg he1)) R3 F3
        clear HZ HQ HG HR1 R3 F3 he1 v3 hba hbb hsa hsb
        go_wp2_with fail
        exact bodyPost_ret (by simp [results, Tryz.results11, go_sem]) rfl z
    · have hgi : ¬ (G0 : Int) < (B.size : Int) := by omega
      have HG : Ng G0 m.b.s.length := hg
      have hm1 := hm
      have ho1 : m.ops ≤ m.ops + 1 := Nat.le_succ _
      have v2 := vb2
      clear hg va2 vb2
      by_cases hb : m.a.s = []
      · obtain rfl := tx_nil (hAd.trans hb)
        have HB := Lib.hid hb
        clear hb hAd ho ho1
        have z := DOut.yes (p := p) (w := w) ((openM_tidy_eq (r1 := (0, m)) (r2 := (0, m)) HZ HQ.out (if_neg (id HG : ¬ G0 < m.b.s.length)) (if_neg (fun h => h.2 HB.out))).trans (if_pos rfl)) R2 F2 (by have := R2.lt; omega) hbb hsb v2 rfl
        rw [show L0.length = sb.length from by have hq := congrArg List.length hsb; rw [texts_length] at hq; exact hq.symm] at z
        clear HZ HQ HG HB R2 F2 v2 hba hbb hsa hsb
        go_wp2_with fail
        exact bodyPost_ret (by simp [results, Tryz.results11, go_sem]) rfl z
      · have eb := tx_some (A := A) (by rw [hAd]; exact hb)
        have cw := d_wipe 0 R2 hm1 (by omega)
        have HB := Lib.hid hb
        obtain ⟨r2, hr2⟩ : ∃ r2, m.trim 0 0 = r2 := ⟨_, rfl⟩
        rw [hr2] at cw
        obtain ⟨e2, m2⟩ := r2
        simp only at cw
        have HR2 := Lib.hid hr2
        clear hr2 hb hAd ho ho1
        go_wp2_with fail
        refine cw.mono ?_
        rintro e w4 ⟨rfl, R4, f4⟩
        have F4 := F2.trans f4
        have v4 := v2.keepB (fun k cs fz hB hk => f4.keep9 R2 k cs fz (by have := hpw; omega) hk)
        clear cw R2 F2 f4 v2
        by_cases he2 : e2 = 0
        · subst he2
          have z := DOut.yes (p := p) (w := w) ((openM_tidy_eq (r1 := (0, m)) (r2 := (0, m2)) HZ HQ.out (if_neg (id HG : ¬ G0 < m.b.s.length)) ((if_pos ⟨rfl, HB.out⟩).trans HR2.out)).trans (if_pos rfl)) R4 F4 (by have := R4.lt; omega) hbb hsb v4 rfl
          rw [show L0.length = sb.length from by have hq := congrArg List.length hsb; rw [texts_length] at hq; exact hq.symm] at z
          clear HZ HQ HG HB R4 F4 v4 hba hbb hsa hsb
          go_wp2_with fail
          exact bodyPost_ret (by simp [results, Tryz.results11, go_sem]) rfl z
        · have e2c : (e2 != 0) = true := by simpa using he2
          have z := DOut.no (p := p) (w := w) ((openM_tidy_eq (r1 := (0, m)) (r2 := (e2, m2)) HZ HQ.out (if_neg (id HG : ¬ G0 < m.b.s.length)) ((if_pos ⟨rfl, HB.out⟩).trans HR2.out)).trans (if_neg he2)) R4 F4
          clear HZ HQ HG HB HR2 R4 F4 he2 v4 hba hbb hsa hsb
          go_wp2_with fail
          exact bodyPost_ret (by simp [results, Tryz.results11, go_sem]) rfl z

  · have hE1b : (E1 == 0) = false := by simpa using hE1
    clear hE1
    go_enter Tryz.func11, Tryz.ntmps11
    go_wp2_with fail
    refine c1.mono ?_
    rintro e w' ⟨rfl, rfl⟩
    go_wp2_with fail
    refine c2.mono ?_
    rintro e w' ⟨rfl, rfl⟩
    go_wp2_with fail
    refine (sA _).mono ?_
    rintro e w1 ⟨⟨ba, va, sa, rfl, hba, hsa, hva⟩, b1⟩
    obtain ⟨Ap, An, rfl⟩ := hva.form
    go_wp2_with fail
    refine (sB _).mono ?_
    rintro e w2 ⟨⟨bb, vb, sb, rfl, hbb, hsb, hvb⟩, b2⟩
    obtain ⟨Bp, Bn, rfl⟩ := hvb.form
    have b12 := b1.trans (b2.mono b1.size)
    have R2 := h.below b12
    have F2 : FD p w w2 := FD.of_below b12 (by have := h.lt; omega)
    have va2 := hva.below b2
    have vb2 := hvb.more b1.size
    clear c1 c2 sA sB b1 b2 b12 hva hvb h
    by_cases hg : G0 < m.b.s.length
    · have hgi : (G0 : Int) < (B.size : Int) := by omega
      have cw := d_trim 1 (G0 : Int) R2 hm (by omega)
      have hm1 := hm.trim 1 (G0 : Int) (by omega)
      have ho1 := m.trim_ops 1 (G0 : Int)
      have HG := Lib.hid hg
      obtain ⟨r1, hr1⟩ : ∃ r1, m.trim 1 (G0 : Int) = r1 := ⟨_, rfl⟩
      rw [hr1] at cw hm1 ho1
      obtain ⟨e1, m1⟩ := r1
      simp only at cw hm1 ho1
      have HR1 := Lib.hid hr1
      clear hr1 hg
      go_wp2_with fail
      refine cw.mono ?_
      rintro e w3 ⟨rfl, R3, f3⟩
      have F3 := F2.trans f3
      have v3 := vb2.keepB (fun k cs fz hB hk => f3.keep9 R2 k cs fz (by have := hpw; omega) hk)
      clear cw R2 F2 f3 va2 vb2
      by_cases he1 : e1 = 0
      · subst he1
        by_cases hb : m.a.s = []
        · obtain rfl := tx_nil (hAd.trans hb)
          have HB := Lib.hid hb
          clear hb hAd ho ho1
          have z := DOut.yes (p := p) (w := w) ((openM_tidy_eq (r1 := (0, m1)) (r2 := (0, m1)) HZ HQ.out ((if_pos HG.out).trans HR1.out) (if_neg (fun h => h.2 HB.out))).trans (if_pos rfl)) R3 F3 (by have := R3.lt; omega) hbb hsb v3 rfl
          rw [show L0.length = sb.length from by have hq := congrArg List.length hsb; rw [texts_length] at hq; exact hq.symm] at z
          clear HZ HQ HG HB R3 F3 v3 hba hbb hsa hsb
          go_wp2_with fail
          exact bodyPost_ret (by simp [results, Tryz.results11, go_sem]) rfl z
        · have eb := tx_some (A := A) (by rw [hAd]; exact hb)
          have cw := d_wipe 0 R3 hm1 (by omega)
          have HB := Lib.hid hb
          obtain ⟨r2, hr2⟩ : ∃ r2, m1.trim 0 0 = r2 := ⟨_, rfl⟩
          rw [hr2] at cw
          obtain ⟨e2, m2⟩ := r2
          simp only at cw
          have HR2 := Lib.hid hr2
          clear hr2 hb hAd ho ho1
          go_wp2_with fail
          refine cw.mono ?_
          rintro e w4 ⟨rfl, R4, f4⟩
          have F4 := F3.trans f4
          have v4 := v3.keepB (fun k cs fz hB hk => f4.keep9 R3 k cs fz (by have := hpw; omega) hk)
          clear cw R3 F3 f4 v3
          by_cases he2 : e2 = 0
          · subst he2
            have z := DOut.yes (p := p) (w := w) ((openM_tidy_eq (r1 := (0, m1)) (r2 := (0, m2)) HZ HQ.out ((if_pos HG.out).trans HR1.out) ((if_pos ⟨rfl, HB.out⟩).trans HR2.out)).trans (if_pos rfl)) R4 F4 (by have := R4.lt; omega) hbb hsb v4 rfl
            rw [show L0.length = sb.length from by have hq := congrArg List.length hsb; rw [texts_length] at hq; exact hq.symm] at z
            clear HZ HQ HG HB R4 F4 v4 hba hbb hsa hsb
            go_wp2_with fail
            exact bodyPost_ret (by simp [results, Tryz.results11, go_sem]) rfl z
          · have e2c : (e2 != 0) = true := by simpa using he2
            have z := DOut.no (p := p) (w := w) ((openM_tidy_eq (r1 := (0, m1)) (r2 := (e2, m2)) HZ HQ.out ((if_pos HG.out).trans HR1.out) ((if_pos ⟨rfl, HB.out⟩).trans HR2.out)).trans (if_neg he2)) R4 F4
            clear HZ HQ HG HB HR2 R4 F4 he2 v4 hba hbb hsa hsb
            go_wp2_with fail
            exact bodyPost_ret (by simp [results, Tryz.results11, go_sem]) rfl z
      · have e1b : (e1 == 0) = false := by simpa using he1
        have e1c : (e1 != 0) = true := by simpa using he1
        have z := DOut.no (p := p) (w := w) ((openM_tidy_eq (r1 := (e1, m1)) (r2 := (e1, m1)) HZ HQ.out ((if_pos HG.out).trans HR1.out) (if_neg (fun h => he1 h.1))).trans (if_neg he1)) R3 F3
        clear HZ HQ HG HR1 R3 F3 he1 v3 hba hbb hsa hsb
        go_wp2_with fail
        exact bodyPost_ret (by simp [results, Tryz.results11, go_sem]) rfl z
    · have hgi : ¬ (G0 : Int) < (B.size : Int) := by omega
      have HG : Ng G0 m.b.s.length := hg
      have hm1 := hm
      have ho1 : m.ops ≤ m.ops + 1 := Nat.le_succ _
      have v2 := vb2
      clear hg va2 vb2
      by_cases hb : m.a.s = []
      · obtain rfl := tx_nil (hAd.trans hb)
        have HB := Lib.hid hb
        clear hb hAd ho ho1
        have z := DOut.yes (p := p) (w := w) ((openM_tidy_eq (r1 := (0, m)) (r2 := (0, m)) HZ HQ.out (if_neg (id HG : ¬ G0 < m.b.s.length)) (if_neg (fun h => h.2 HB.out))).trans (if_pos rfl)) R2 F2 (by have := R2.lt; omega) hbb hsb v2 rfl
        rw [show L0.length = sb.length from by have hq := congrArg List.length hsb; rw [texts_length] at hq; exact hq.symm] at z
        clear HZ HQ HG HB R2 F2 v2 hba hbb hsa hsb
        go_wp2_with fail
        exact bodyPost_ret (by simp [results, Tryz.results11, go_sem]) rfl z
      · have eb := tx_some (A := A) (by rw [hAd]; exact hb)
        have cw := d_wipe 0 R2 hm1 (by omega)
        have HB := Lib.hid hb
        obtain ⟨r2, hr2⟩ : ∃ r2, m.trim 0 0 = r2 := ⟨_, rfl⟩
        rw [hr2] at cw
        obtain ⟨e2, m2⟩ := r2
        simp only at cw
        have HR2 := Lib.hid hr2
        clear hr2 hb hAd ho ho1
        go_wp2_with fail
        refine cw.mono ?_
        rintro e w4 ⟨rfl, R4, f4⟩
        have F4 := F2.trans f4
        have v4 := v2.keepB (fun k cs fz hB hk => f4.keep9 R2 k cs fz (by have := hpw; omega) hk)
        clear cw R2 F2 f4 v2
        by_cases he2 : e2 = 0
        · subst he2
          have z := DOut.yes (p := p) (w := w) ((openM_tidy_eq (r1 := (0, m)) (r2 := (0, m2)) HZ HQ.out (if_neg (id HG : ¬ G0 < m.b.s.length)) ((if_pos ⟨rfl, HB.out⟩).trans HR2.out)).trans (if_pos rfl)) R4 F4 (by have := R4.lt; omega) hbb hsb v4 rfl
          rw [show L0.length = sb.length from by have hq := congrArg List.length hsb; rw [texts_length] at hq; exact hq.symm] at z
          clear HZ HQ HG HB R4 F4 v4 hba hbb hsa hsb
          go_wp2_with fail
          exact bodyPost_ret (by simp [results, Tryz.results11, go_sem]) rfl z
        · have e2c : (e2 != 0) = true := by simpa using he2
          have z := DOut.no (p := p) (w := w) ((openM_tidy_eq (r1 := (0, m)) (r2 := (e2, m2)) HZ HQ.out (if_neg (id HG : ¬ G0 < m.b.s.length)) ((if_pos ⟨rfl, HB.out⟩).trans HR2.out)).trans (if_neg he2)) R4 F4
          clear HZ HQ HG HB HR2 R4 F4 he2 v4 hba hbb hsa hsb
          go_wp2_with fail
          exact bodyPost_ret (by simp [results, Tryz.results11, go_sem]) rfl z


theorem d_open {p : Nat} {m : M} {w : World} (h : RD p m w) (hm : m.ok) (ho : m.ops < 4611686018427387890) :
    Calls Tryz.prog 11 #[dtr p] w fun e w' => DOut (openM m) p w e w' := by
  cases hoff : m.off with
  | true => exact dopen_off h hoff
  | false =>
    by_cases hz : (tellT m.a.s).1 = 0 ∧ (tellT m.b.s).1 = 0
    · exact dopen_fresh h hoff hm ho hz.1 hz.2
    · by_cases hl : (tellT m.a.s).1 < (tellT m.b.s).1
      · exact dopen_tidy1 h hoff hm ho hz hl
      · exact dopen_tidy0 h hoff hm ho hz hl

end Go.Proofs.YtglkapamkigdhaaGreatDoor.Rl

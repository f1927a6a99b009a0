/-
  For LedgerPlays: what a round carries, and what its drawn regions keep. Conditions: the form's own reach; the library's variables hold what their types allow.
-/
import Derived.Test.YtglkapamkigdhaaGreatDoorPlaysM
import Derived.Test.YtglkapamkigdhaaGreatDoorLastsM
import Derived.Test.YtglkapamkigdhaaGreatDoorLiveAll
namespace Go.Proofs.YtglkapamkigdhaaGreatDoor.Rl
open Go.RowKit
open Go.Proofs.YtglkapamkigdhaaGreatDoor.M (pageT kBase kRec inR tellT tell_len)

/-- the box in which a round lays its act -/
def Bx (g : Nat) (a : Act) (w : World) : Prop := w.heap[g]? = some (.cells #[.int .i64 a.kind, .string a.s, .int .i64 a.n, .int .i64 a.k0, .int .i64 a.k1, .int .u8 a.u.toNat] 44 (0, 0))
theorem Bx.cells {g : Nat} {a : Act} {w : World} (h : Bx g a w) : w.cell? ⟨g, 0, none⟩ = some (.int .i64 a.kind) ∧ w.cell? ⟨g, 1, none⟩ = some (.string a.s) ∧ w.cell? ⟨g, 2, none⟩ = some (.int .i64 a.n) ∧ w.cell? ⟨g, 3, none⟩ = some (.int .i64 a.k0) ∧ w.cell? ⟨g, 4, none⟩ = some (.int .i64 a.k1) ∧ w.cell? ⟨g, 5, none⟩ = some (.int .u8 a.u.toNat) :=
  ⟨by rw [Lib.cell_of_heap h]; rfl, by rw [Lib.cell_of_heap h]; rfl, by rw [Lib.cell_of_heap h]; rfl, by rw [Lib.cell_of_heap h]; rfl, by rw [Lib.cell_of_heap h]; rfl, by rw [Lib.cell_of_heap h]; rfl⟩
theorem Bx.below {g : Nat} {a : Act} {w w' : World} (h : Bx g a w) (hb : Below w.heap.size w w') : Bx g a w' := by unfold Bx; rw [hb.block g (lt_of_block h)]; exact h
theorem Bx.fr {b g : Nat} {m : M} {a : Act} {w w' : World} (h : Bx g a w) (f : Fr b w w') (hr : RP b m w) (hb : g ≠ b) : Bx g a w' := f.other hr g _ _ _ h hb (by decide)
theorem Bx.fl {b q g : Nat} {m : M} {a : Act} {w w' : World} (h : Bx g a w) (f : FL b q w w') (hr : RP b m w) (hb : g ≠ b) (hq : g ≠ q) : Bx g a w' := f.other hr g _ _ _ h hb hq (by decide)
theorem Bx.fd {p g : Nat} {a : Act} {w w' : World} (h : Bx g a w) (f : FD p w w') (hg : p + 2 < g) : Bx g a w' := by
  unfold Bx; rw [f.old g (lt_of_block h) (by omega) (by omega) (by omega)]; exact h
theorem Bx.fq {p q' g : Nat} {a : Act} {w w' : World} (h : Bx g a w) (f : FQ p q' w w') (hg : p + 2 < g) (hq : g ≠ q') : Bx g a w' := by
  unfold Bx; rw [f.old g (lt_of_block h) (by omega) (by omega) (by omega) hq]; exact h

/-- what the law carries ahead of act k -/
structure LR (w : World) (p k : Nat) (va vb : Value) (wr : World) : Prop where
  ex : ∃ (m : M) (o : Option Lg), PW w.heap.size m o p va vb wr ∧ m.ok ∧ m.ops ≤ 4 + 5 * k ∧ ∀ l, o = some l → isT l.t = true ∧ 0 ≤ l.epoch ∧ l.epoch ≤ 4611686018427387904 + (k : Int) ∧ l.n ≤ 4194304 + k
  below : Below w.heap.size w wr

/-- a call upon the program's ledger and one upon the document's, in either order: i, j -/
structure Pr (w : World) (N p q q' g : Nat) (a : Act) (m m' : M) (l l' : Lg) (i j : Nat) (L : Nat → Bool) (wx : World) : Prop where
  rp : RP N (if L i = true then m' else m) wx
  lp : LP q N (if L i = true then l' else l) wx
  rd : RD p (if L j = true then m' else m) wx
  ld : LD q' p (if L j = true then l' else l) wx
  bx : Bx g a wx
  below : Below N w wx
structure Apart (N p q q' g : Nat) : Prop where
  hnp : N < p
  hq : p + 2 < q
  hq' : p + 2 < q'
  hne : q ≠ q'
  hgp : p + 2 < g
  hgq : g ≠ q
  hgq' : g ≠ q'
section
variable {w : World} {N p q q' g : Nat} {a : Act} {m m' : M} {l l' : Lg} {i j : Nat} {L : Nat → Bool} {wx : World} {f : FuncId} {args : Array Value} {v : Value}
theorem Pr.prog (hij : i ≠ j) (A : Apart N p q q' g) (h : Pr w N p q q' g a m m' l l' i j L wx) (hi : L i = false)
    (hc : ∀ wx, LP q N l wx → RP N m wx → Calls Tryz.prog f args wx fun r w' => r = .returned v ∧ LP q N l' w' ∧ RP N m' w' ∧ FL N q wx w') : Calls Tryz.prog f args wx fun r w' => r = .returned v ∧ Pr w N p q q' g a m m' l l' i j (St.mark L i) w' := by
  obtain ⟨h1, h2, h3, h4, h5, h6⟩ := h
  rw [if_neg (by rw [hi]; decide)] at h1 h2
  refine (hc wx h2 h1).mono ?_
  rintro r w' ⟨rfl, k1, k2, fl⟩
  have e1 : St.mark L i i = true := by unfold St.mark; simp
  have e2 : St.mark L i j = L j := by unfold St.mark; rw [show (j == i) = false by simpa using Ne.symm hij]; rfl
  have := A.hnp
  have := A.hq
  have := A.hq'
  have := A.hgp
  refine ⟨rfl, by rw [if_pos e1]; exact k2, by rw [if_pos e1]; exact k1, by rw [e2]; exact h3.fl h1 fl A.hnp A.hq, by rw [e2]; exact h4.fl h1 fl (by omega) (Ne.symm A.hne), h5.fl fl h1 (by omega) A.hgq, h6.trans (fl.below N (Nat.le_refl _) (by omega))⟩
theorem Pr.doc (hij : i ≠ j) (A : Apart N p q q' g) (h : Pr w N p q q' g a m m' l l' i j L wx) (hj : L j = false)
    (hc : ∀ wx, LD q' p l wx → RD p m wx → Calls Tryz.prog f args wx fun r w' => r = .returned v ∧ LD q' p l' w' ∧ RD p m' w' ∧ FQ p q' wx w') : Calls Tryz.prog f args wx fun r w' => r = .returned v ∧ Pr w N p q q' g a m m' l l' i j (St.mark L j) w' := by
  obtain ⟨h1, h2, h3, h4, h5, h6⟩ := h
  rw [if_neg (by rw [hj]; decide)] at h3 h4
  refine (hc wx h4 h3).mono ?_
  rintro r w' ⟨rfl, k1, k2, fq⟩
  have e1 : St.mark L j j = true := by unfold St.mark; simp
  have e2 : St.mark L j i = L i := by unfold St.mark; rw [show (i == j) = false by simpa using hij]; rfl
  have := A.hnp
  have := A.hq
  have := A.hq'
  have := A.hgp
  refine ⟨rfl, by rw [e2]; exact h1.fq h3 h4 fq A.hnp A.hq', by rw [e2]; exact h2.fq fq A.hq A.hne, by rw [if_pos e1]; exact k2, by rw [if_pos e1]; exact k1, h5.fq fq A.hgp A.hgq', h6.trans (fq.below N (by omega) (by omega))⟩

/-- the same of the reels alone -/
structure Ps (w : World) (N p g : Nat) (a : Act) (m m' : M) (o : Option Lg) (va vb : Value) (i j : Nat) (L : Nat → Bool) (wx : World) : Prop where
  rp : RP N (if L i = true then m' else m) wx
  rd : RD p (if L j = true then m' else m) wx
  led : Led o N p va vb wx
  bx : Bx g a wx
  below : Below N w wx
variable {o : Option Lg} {va vb : Value}
theorem Ps.prog (hij : i ≠ j) (hN : N < p) (hg : p + 2 < g) (h : Ps w N p g a m m' o va vb i j L wx) (hi : L i = false)
    (hc : ∀ wx, RP N m wx → Calls Tryz.prog f args wx fun r w' => r = .returned v ∧ RP N m' w' ∧ Fr N wx w') : Calls Tryz.prog f args wx fun r w' => r = .returned v ∧ Ps w N p g a m m' o va vb i j (St.mark L i) w' := by
  obtain ⟨h1, h2, h3, h4, h5⟩ := h
  rw [if_neg (by rw [hi]; decide)] at h1
  refine (hc wx h1).mono ?_
  rintro r w' ⟨rfl, k2, f⟩
  have e1 : St.mark L i i = true := by unfold St.mark; simp
  have e2 : St.mark L i j = L j := by unfold St.mark; rw [show (j == i) = false by simpa using Ne.symm hij]; rfl
  exact ⟨rfl, by rw [if_pos e1]; exact k2, by rw [e2]; exact h2.fr h1 f (.inl hN), h3.fr h1 f hN, h4.fr f h1 (by omega), h5.trans f.below⟩
theorem Ps.doc (hij : i ≠ j) (hN : N < p) (hg : p + 2 < g) (h : Ps w N p g a m m' o va vb i j L wx) (hj : L j = false)
    (hc : ∀ wx, RD p m wx → Calls Tryz.prog f args wx fun r w' => r = .returned v ∧ RD p m' w' ∧ FD p wx w') : Calls Tryz.prog f args wx fun r w' => r = .returned v ∧ Ps w N p g a m m' o va vb i j (St.mark L j) w' := by
  obtain ⟨h1, h2, h3, h4, h5⟩ := h
  rw [if_neg (by rw [hj]; decide)] at h2
  refine (hc wx h2).mono ?_
  rintro r w' ⟨rfl, k2, f⟩
  have e1 : St.mark L j j = true := by unfold St.mark; simp
  have e2 : St.mark L j i = L i := by unfold St.mark; rw [show (i == j) = false by simpa using hij]; rfl
  exact ⟨rfl, by rw [e2]; exact h1.fd h2 f (.inl hN), by rw [if_pos e1]; exact k2, h3.fd f, h4.fd f hg, h5.trans (f.below.mono (Nat.le_of_lt hN))⟩
end
theorem openM_zero {m : M} {t : Lg × Text × List Text} (h : (openM m).2.1 = some t) : (openM m).1 = 0 := by
  cases hoff : m.off with
  | true => rw [openM_off hoff] at h; cases h
  | false =>
    have key : ∀ (r : Int × M) (o : Lg × Text × List Text), openM m = (if r.1 = 0 then (0, some o, r.2) else (r.1, none, r.2)) → (openM m).1 = 0 := by
      intro r o he
      rw [he] at h ⊢
      split at h
      · rename_i hc; rw [if_pos hc]
      · cases h
    by_cases hz : (tellT m.a.s).1 = 0 ∧ (tellT m.b.s).1 = 0
    · exact key _ _ (openM_fresh_eq rfl hoff hz.1 hz.2 rfl rfl rfl rfl)
    · by_cases hl : (tellT m.a.s).1 < (tellT m.b.s).1
      · exact key _ _ (openM_tidy_eq (t := 1) ⟨hoff, by rw [if_pos hl], hz⟩ rfl rfl rfl)
      · exact key _ _ (openM_tidy_eq (t := 0) ⟨hoff, by rw [if_neg hl], hz⟩ rfl rfl rfl)

/-- what Open hands back points at: nothing, or a new ledger -/
def UP (oo : Option (Lg × Text × List Text)) (P : Option Addr) (lo : Nat) (K : Nat → Lg → Prop) : Prop := match oo with
  | none => P = none
  | some t => ∃ q, P = some ⟨q, 0, none⟩ ∧ K q t.1 ∧ lo ≤ q
/-- Open, whatever comes of it -/
theorem u_open {b : Nat} {m : M} {w : World} (hr : RP b m w) (hm : m.ok) (hops : m.ops < 4611686018427387890) (hg : Good w) :
    Calls Tryz.prog 10 #[ptr b] w fun e w' => ∃ P T A n c, e = .returned (.tuple #[.pointer P, .string T, .slice A n c, .int .i64 (openM m).1]) ∧ RP b (openM m).2.2 w' ∧ Fr b w w' ∧ UP (openM m).2.1 P w.heap.size (fun q l => LP q b l w') := by
  refine (c_open hr hm hops hg).mono ?_
  rintro e w' ⟨h1, h2, h3⟩
  cases ho : (openM m).2.1 with
  | none =>
    rw [ho] at h3
    exact ⟨none, ⟨#[]⟩, none, 0, 0, h3, h1, h2, rfl⟩
  | some t =>
    rw [ho] at h3
    obtain ⟨q, B, v, ss, rfl, _, _, hl, hq, hv⟩ := h3
    obtain ⟨A, c, rfl⟩ := hv.form
    have he : (openM m).1 = 0 := openM_zero ho
    exact ⟨some ⟨q, 0, none⟩, B, A, ss.length, c, by rw [he], h1, h2, ⟨q, rfl, hl, hq⟩⟩
theorem ud_open {p : Nat} {m : M} {w : World} (h : RD p m w) (hm : m.ok) (ho : m.ops < 4611686018427387890) :
    Calls Tryz.prog 11 #[dtr p] w fun e w' => ∃ P T A n c, e = .returned (.tuple #[.pointer P, .string T, .slice A n c, .int .i64 (openM m).1]) ∧ RD p (openM m).2.2 w' ∧ FD p w w' ∧ UP (openM m).2.1 P w.heap.size (fun q l => LD q p l w') := by
  refine (d_open h hm ho).mono ?_
  rintro e w' ⟨h1, h2, h3⟩
  cases ho : (openM m).2.1 with
  | none =>
    rw [ho] at h3
    exact ⟨none, ⟨#[]⟩, none, 0, 0, h3, h1, h2, rfl⟩
  | some t =>
    rw [ho] at h3
    obtain ⟨q, B, v, ss, rfl, _, _, hl, hq, hv⟩ := h3
    obtain ⟨A, c, rfl⟩ := hv.form
    have he : (openM m).1 = 0 := openM_zero ho
    exact ⟨some ⟨q, 0, none⟩, B, A, ss.length, c, by rw [he], h1, h2, ⟨q, rfl, hl, hq⟩⟩
theorem u_led {N p : Nat} {oo : Option (Lg × Text × List Text)} {P P' : Option Addr} {w1 w3 w4 : World} (h : UP oo P w1.heap.size (fun q l => LP q N l w3)) (h' : UP oo P' w3.heap.size (fun q l => LD q p l w4)) (f : FD p w3 w4) (_ : N < p) (h1 : p + 2 < w1.heap.size) (h3 : p + 2 < w3.heap.size) (_ : 0 ≤ p) :
    ∃ z : Bool, P.isNone = z ∧ P'.isNone = z ∧ Led (oo.map (·.1)) N p (.pointer P) (.pointer P') w4 := by
  unfold UP at h h'
  cases oo with
  | none =>
    simp only at h h'
    subst h h'
    exact ⟨true, rfl, rfl, rfl, rfl⟩
  | some t =>
    obtain ⟨q, rfl, hl, hq⟩ := h
    obtain ⟨q', rfl, hl', hq'⟩ := h'
    exact ⟨false, rfl, rfl, q, q', rfl, rfl, hl.fd f (by omega), hl', by omega, by omega, by have := hl.lt; omega⟩
theorem PW.drew {N p : Nat} {m : M} {o : Option Lg} {va vb : Value} {w : World} (h : PW N m o p va vb w) : PW N m o p va vb w.drew := h.below ((Below.refl _ w).drew)
theorem PW.lp {N p q q' : Nat} {m : M} {l : Lg} {w : World} (h : PW N m (some l) p (ptr q) (ptr q') w) : LP q N l w ∧ LD q' p l w := by
  obtain ⟨x, x', h1, h2, h3, h4, _⟩ := h.led
  injection h1 with h1; injection h1 with h1; injection h1 with h1
  injection h2 with h2; injection h2 with h2; injection h2 with h2
  subst h1 h2
  exact ⟨h3, h4⟩

end Go.Proofs.YtglkapamkigdhaaGreatDoor.Rl

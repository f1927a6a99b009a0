/-
  What the laws reckon with: a ledger that is whole, opened again, added to, given a base, while nothing is armed; how many bytes it has. No program's walk; no condition.
  The ledger's calls, as the laws meet them: what each answers where the model's answer is known. Conditions as of the calls.
-/
import Derived.Test.YtglkapamkigdhaaGreatDoorOpn
import Derived.Test.YtglkapamkigdhaaGreatDoorPagesAll
namespace Go.Proofs.YtglkapamkigdhaaGreatDoor.Rl
open Go.RowKit
open Go.Proofs.YtglkapamkigdhaaGreatDoor.M (pageT kBase kRec inR tellT tell_len page_short recPages recPages_short)

theorem openM_ok {m : M} (hm : m.ok) (ho : m.ops < 4611686018427387890) : (openM m).2.2.ok ∧ (openM m).2.2.ops ≤ m.ops + 4 := by
  cases hoff : m.off with
  | true => rw [openM_off hoff]; exact ⟨hm, Nat.le_add_right _ _⟩
  | false =>
    by_cases hb : (tellT m.a.s).1 = 0 ∧ (tellT m.b.s).1 = 0
    · rw [openM_begin hoff hb.1 hb.2 hm]
      have h1 := emptyM_ok hm (by omega) 0 m.a.s.length
      have h2 := emptyM_ok h1.1 (by omega) 1 m.b.s.length
      have h3 := putM_ok { (⟨0, 0, 0, false⟩ : Lg) with epoch := 1 } h2.1 (by omega) 0 (pageT kBase 1 [])
      have hB : (beginM ⟨0, 0, 0, false⟩ m m.a.s.length m.b.s.length).2.2.ok ∧ (beginM ⟨0, 0, 0, false⟩ m m.a.s.length m.b.s.length).2.2.ops ≤ m.ops + 4 := by
        unfold beginM
        split
        · exact ⟨h1.1, Nat.le_trans h1.2 (by omega)⟩
        split
        · exact ⟨h2.1, Nat.le_trans h2.2 (by omega)⟩
        · exact ⟨h3.1, Nat.le_trans h3.2 (by omega)⟩
      split
      · exact hB
      · exact hB
    · have n0 := (tell_len m.a.s).2.2.1
      have n1 := (tell_len m.b.s).2.2.1
      have key : ∀ t : Int, (tidyM m t (tellT (m.get t).s).2.2.2 (m.get t).s.length (m.get (1 - t)).s.length).2.ok ∧ (tidyM m t (tellT (m.get t).s).2.2.2 (m.get t).s.length (m.get (1 - t)).s.length).2.ops ≤ m.ops + 4 := by
        intro t
        have h1 := hm.trim t ((tellT (m.get t).s).2.2.2 : Nat) (by omega)
        have h1' := m.trim_ops t ((tellT (m.get t).s).2.2.2 : Nat)
        have h2 := emptyM_ok h1 (by omega) (1 - t) (m.get (1 - t)).s.length
        have h3 := emptyM_ok hm (by omega) (1 - t) (m.get (1 - t)).s.length
        unfold tidyM
        split
        · split
          · exact ⟨h1, Nat.le_trans h1' (by omega)⟩
          · exact ⟨h2.1, Nat.le_trans h2.2 (by omega)⟩
        · exact ⟨h3.1, Nat.le_trans h3.2 (by omega)⟩
      by_cases hl : (tellT m.a.s).1 < (tellT m.b.s).1
      · rw [openM_tidy hoff 1 (by rw [if_pos hl]) (by show (tellT m.b.s).1 ≠ 0; omega)]
        split
        · exact key 1
        · exact key 1
      · rw [openM_tidy hoff 0 (by rw [if_neg hl]) (by show (tellT m.a.s).1 ≠ 0; omega)]
        split
        · exact key 0
        · exact key 0

/-- A ledger that stands whole on a reel with the power on, nothing armed, is opened as what it was. -/
theorem open_again {m : M} (hc : Calm m) {l : Lg} {b : Text} {xs : List Text} (ht : isT l.t = true) (hf : Fine l.epoch b xs) (hn : l.n = xs.length) (hb : l.broken = false) (hg : m.get l.t = ⟨baseT l.epoch b xs, (baseT l.epoch b xs).length⟩) (ho : m.get (1 - l.t) = ⟨[], 0⟩) :
    ∃ m', openM m = (0, some (l, b, xs), m') ∧ Whole m' l b xs ∧ Calm m' ∧ m'.room = m.room := by
  obtain ⟨m', q1, q2, q3, q4, q5⟩ := open_pick hc ht (e := l.epoch) (b := b) (p := []) (l := xs) (by rw [hg, List.append_nil]) (by rw [hg, List.append_nil]) (by rw [List.append_nil]; exact scan4_whole hf) hf.e1
    (by rw [ho, scan4_nil]; have := hf.e1; simp only; omega) (by rw [ho]; rfl)
  have hl : (⟨l.t, l.epoch, xs.length, false⟩ : Lg) = l := by rw [← hn, ← hb]
  rw [hl] at q1
  exact ⟨m', q1, ⟨ht, hf, hn, hb, q2.off, q4, q5⟩, q2, q3⟩
theorem open_whole {m : M} {l : Lg} {b : Text} {xs : List Text} (h : Whole m l b xs) (hc : Calm m) : ∃ m', openM m = (0, some (l, b, xs), m') ∧ Whole m' l b xs ∧ Calm m' ∧ m'.room = m.room :=
  open_again hc h.ht h.fine h.hn h.nb h.hg h.ho
theorem open_safe {m : M} {l : Lg} {b : Text} {xs : List Text} (h : Whole m l b xs) (k0 k1 : Int) : ∃ m', openM (m.crash k0 k1 0) = (0, some (l, b, xs), m') ∧ Whole m' l b xs ∧ Calm m' ∧ m'.room = m.room :=
  open_again (m := m.crash k0 k1 0) ⟨rfl, rfl⟩ h.ht h.fine h.hn h.nb (by rw [crash_get, h.hg, crash_safe_all]) (by rw [crash_get, h.ho, show (⟨[], 0⟩ : Tape) = ⟨[], ([] : Text).length⟩ from rfl, crash_safe_all])
theorem add_calm {m : M} {l : Lg} {b : Text} {xs : List Text} (h : Whole m l b xs) (hc : Calm m) (x : Text) (hf : Fine l.epoch b (xs ++ [x])) (hr : m.used + (pageT kRec ((xs.length : Int) + 1) x).length ≤ m.room) :
    ∃ m', addM l m x = (0, { l with n := l.n + 1 }, m') ∧ Whole m' { l with n := l.n + 1 } b (xs ++ [x]) ∧ Calm m' ∧ m'.room = m.room := by
  obtain ⟨e, l', m', q1, q2, q3, q4⟩ := add_step h x hf hr
  have hx : ¬ 524288 < x.length := by have := hf.hl x (by simp); omega
  have hw := hc.write h.ht (pageT kRec ((xs.length : Int) + 1) x) hr
  have c1 := hc.put l.t ⟨(m.get l.t).s ++ pageT kRec ((xs.length : Int) + 1) x, (m.get l.t).k⟩
  have hs := c1.sync h.ht
  obtain ⟨m1, hm1⟩ : ∃ m1, (m.put l.t ⟨(m.get l.t).s ++ pageT kRec ((xs.length : Int) + 1) x, (m.get l.t).k⟩).done = m1 := ⟨_, rfl⟩
  rw [hm1] at hw c1 hs
  have c2 := c1.put l.t ⟨(m1.get l.t).s, (m1.get l.t).s.length⟩
  have hadd : addM l m x = (0, { l with n := l.n + 1 }, (m1.put l.t ⟨(m1.get l.t).s, (m1.get l.t).s.length⟩).done) := by
    unfold addM
    rw [if_neg (by rw [h.nb]; decide), if_neg hx, h.hn, hw]
    simp only [ne_eq, not_true_eq_false, if_false]
    rw [hs]
    simp
  rw [hadd] at q1
  simp only [Prod.mk.injEq] at q1
  obtain ⟨rfl, rfl, rfl⟩ := q1
  rcases q4 with ⟨_, q4, _⟩ | ⟨q4, _⟩
  · exact ⟨_, hadd, q4, c2, q2⟩
  · cases q4
theorem base_calm {m : M} {l : Lg} {b : Text} {xs : List Text} (h : Whole m l b xs) (hc : Calm m) (x : Text) (hf : Fine (l.epoch + 1) x []) (hr : m.used + (pageT kBase (l.epoch + 1) x).length ≤ m.room) :
    ∃ m', baseM l m x = (0, ⟨1 - l.t, l.epoch + 1, 0, false⟩, m') ∧ Whole m' ⟨1 - l.t, l.epoch + 1, 0, false⟩ x [] ∧ Calm m' ∧ m'.room = m.room := by
  obtain ⟨e, l', m', q1, q2, q3, q4⟩ := base_step h x hf hr
  have hx : ¬ 524288 < x.length := by have := hf.hb; omega
  have hto := isT_other h.ht
  have hw := hc.write hto (pageT kBase (l.epoch + 1) x) hr
  have c1 := hc.put (1 - l.t) ⟨(m.get (1 - l.t)).s ++ pageT kBase (l.epoch + 1) x, (m.get (1 - l.t)).k⟩
  have hs := c1.sync hto
  obtain ⟨m1, hm1⟩ : ∃ m1, (m.put (1 - l.t) ⟨(m.get (1 - l.t)).s ++ pageT kBase (l.epoch + 1) x, (m.get (1 - l.t)).k⟩).done = m1 := ⟨_, rfl⟩
  rw [hm1] at hw c1 hs
  have c2 := c1.put (1 - l.t) ⟨(m1.get (1 - l.t)).s, (m1.get (1 - l.t)).s.length⟩
  obtain ⟨m2, hm2⟩ : ∃ m2, (m1.put (1 - l.t) ⟨(m1.get (1 - l.t)).s, (m1.get (1 - l.t)).s.length⟩).done = m2 := ⟨_, rfl⟩
  rw [hm2] at hs c2
  have ht := c2.trim h.ht 0 (Nat.zero_le _)
  have c3 := c2.put l.t ⟨(m2.get l.t).s.take 0, min (m2.get l.t).k 0⟩
  have hbase : baseM l m x = (0, ⟨1 - l.t, l.epoch + 1, 0, false⟩, (m2.put l.t ⟨(m2.get l.t).s.take 0, min (m2.get l.t).k 0⟩).done) := by
    unfold baseM
    rw [if_neg (by rw [h.nb]; decide), if_neg hx, hw]
    simp only [ne_eq, not_true_eq_false, if_false]
    rw [hs]
    simp only [not_true_eq_false, if_false]
    rw [show m2.trim l.t 0 = _ from ht, h.nb]
    simp
  rw [hbase] at q1
  simp only [Prod.mk.injEq] at q1
  obtain ⟨rfl, rfl, rfl⟩ := q1
  rcases q4 with ⟨_, q4, _⟩ | ⟨q4, _⟩
  · exact ⟨_, hbase, q4, c3, q2⟩
  · cases q4

/-! ### how many bytes -/
theorem Whole.used {m : M} {l : Lg} {b : Text} {xs : List Text} (h : Whole m l b xs) : m.used = (baseT l.epoch b xs).length := by
  rw [used_get m h.ht, h.hg, h.ho]; simp
theorem baseT_short {e : Int} {b : Text} {l : List Text} {c : Nat} (he1 : 1 ≤ e) (he2 : e ≤ 2305843009213693952) (hb : b.length ≤ c) (hl : ∀ x ∈ l, x.length ≤ c) (hc : c ≤ 524288) (hn : l.length ≤ 1000) : (baseT e b l).length ≤ (l.length + 1) * (c + 120) := by
  have h1 := page_short (kind := kBase) (n := e) (s := b) (by decide) (by unfold inR; omega) (by omega)
  have h2 := recPages_short l 0 c hl hc (by omega)
  unfold baseT
  rw [List.length_append, Nat.succ_mul]
  omega
theorem rec_short {n : Nat} {x : Text} (hn : n ≤ 1000) (hx : x.length ≤ 524288) : (pageT kRec ((n : Int) + 1) x).length ≤ x.length + 120 := page_short (by decide) (by unfold inR; omega) hx
theorem base_short {e : Int} {x : Text} (he1 : 1 ≤ e) (he2 : e ≤ 2305843009213693952) (hx : x.length ≤ 524288) : (pageT kBase e x).length ≤ x.length + 120 := page_short (by decide) (by unfold inR; omega) hx
theorem Whole.ok {m : M} {l : Lg} {b : Text} {xs : List Text} (h : Whole m l b xs) : l.ok :=
  ⟨h.ht, by have := h.fine.e1; omega, by have := h.fine.e2; omega, by rw [h.hn]; have := h.fine.hc; omega⟩
/-- a whole ledger with texts of at most c bytes and at most k records, of which so many more find room -/
theorem Whole.fits {m : M} {l : Lg} {b : Text} {xs : List Text} (h : Whole m l b xs) {c k r : Nat} (hb : b.length ≤ c) (hx : ∀ x ∈ xs, x.length ≤ c) (hk : xs.length ≤ k) (hc : c ≤ 524288) (hroom : (k + 1) * (c + 120) + r ≤ m.room) : m.used + r ≤ m.room := by
  have h1 := baseT_short h.fine.e1 h.fine.e2 hb hx hc h.fine.hc
  have h2 : (xs.length + 1) * (c + 120) ≤ (k + 1) * (c + 120) := Nat.mul_le_mul_right (c + 120) (Nat.succ_le_succ hk)
  rw [h.used]
  omega
theorem Fine.snoc {e : Int} {b : Text} {xs : List Text} (h : Fine e b xs) (x : Text) (hx : x.length ≤ 524288) (hk : xs.length + 1 ≤ 1000) : Fine e b (xs ++ [x]) :=
  ⟨h.e1, h.e2, h.hb, by intro y hy; rcases List.mem_append.1 hy with hy | hy; exact h.hl y hy; simp at hy; subst hy; exact hx, by simpa using hk⟩
theorem Fine.next {e : Int} {b : Text} {xs : List Text} (h : Fine e b xs) (x : Text) (hx : x.length ≤ 524288) (he : e + 1 ≤ 2305843009213693952) : Fine (e + 1) x [] :=
  ⟨by have := h.e1; omega, he, hx, by simp, by simp⟩

end Go.Proofs.YtglkapamkigdhaaGreatDoor.Rl

namespace Go.Proofs.YtglkapamkigdhaaGreatDoor.Rl
open Go.RowKit
open Go.Proofs.YtglkapamkigdhaaGreatDoor.M (pageT kBase kRec inR tellT tell_len)

theorem open_gives {b : Nat} {m : M} {w : World} (hr : RP b m w) (hm : m.ok) (hops : m.ops < 4611686018427387890) (hg : Good w) {l : Lg} {base : Text} {recs : List Text} {m' : M} (h : openM m = (0, some (l, base, recs), m')) :
    Calls Tryz.prog 10 #[ptr b] w fun e w' => ∃ q B v ss, e = .returned (.tuple #[ptr q, .string B, v, .int .i64 0]) ∧ B.data.toList = base ∧ texts ss = recs ∧ LP q b l w' ∧ w.heap.size ≤ q ∧ SR w.heap.size v ss w' ∧ RP b m' w' ∧ Fr b w w' := by
  have := c_open hr hm hops hg
  rw [h] at this
  refine this.mono ?_
  rintro e w' ⟨h1, h2, q, B, v, ss, rfl, h4, h5, h6, h7, h8⟩
  exact ⟨q, B, v, ss, rfl, h4, h5, h6, h7, h8, h1, h2⟩
theorem add_gives {q b : Nat} {l : Lg} {m : M} {w : World} (s : ByteArray) (h : LP q b l w) (hr : RP b m w) (hm : m.ok) (ho : m.ops < 4611686018427387903) (hl : l.ok) {x : Text} (hx : s.data.toList = x) {a : Int} {l' : Lg} {m' : M} (he : addM l m x = (a, l', m')) :
    Calls Tryz.prog 13 #[ptr q, .string s] w fun r w' => r = .returned (.int .i64 a) ∧ LP q b l' w' ∧ RP b m' w' ∧ FL b q w w' := by
  have := l_add s h hr hm ho hl
  rw [hx, he] at this
  exact this
theorem base_gives {q b : Nat} {l : Lg} {m : M} {w : World} (s : ByteArray) (h : LP q b l w) (hr : RP b m w) (hm : m.ok) (ho : m.ops < 4611686018427387900) (hl : l.ok) {x : Text} (hx : s.data.toList = x) {a : Int} {l' : Lg} {m' : M} (he : baseM l m x = (a, l', m')) :
    Calls Tryz.prog 15 #[ptr q, .string s] w fun r w' => r = .returned (.int .i64 a) ∧ LP q b l' w' ∧ RP b m' w' ∧ FL b q w w' := by
  have := l_base s h hr hm ho hl
  rw [hx, he] at this
  exact this
theorem SR.sl {B : Nat} {v : Value} {ss : List ByteArray} {w : World} (h : SR B v ss w) : SL w w.heap.size v ss := by
  obtain ⟨base, _, h2⟩ := h
  exact SL.of_own h2
theorem texts_inj {a b : List ByteArray} (h : texts a = texts b) : a = b := by
  induction a generalizing b with
  | nil => cases b with
    | nil => rfl
    | cons y l => simp [texts] at h
  | cons x a ih => cases b with
    | nil => simp [texts] at h
    | cons y l =>
      simp only [texts, List.map_cons, List.cons.injEq] at h
      rw [ba_ext h.1, ih h.2]
theorem addM_ok' {l : Lg} {m : M} (hm : m.ok) (ho : m.ops < 4611686018427387903) {s : Text} {a : Int} {l' : Lg} {m' : M} (h : addM l m s = (a, l', m')) : m'.ok ∧ m'.ops ≤ m.ops + 2 := by
  have := addM_ok l hm ho s
  rw [h] at this; exact this
theorem baseM_ok' {l : Lg} {m : M} (hm : m.ok) (ho : m.ops < 4611686018427387900) {s : Text} {a : Int} {l' : Lg} {m' : M} (h : baseM l m s = (a, l', m')) : m'.ok ∧ m'.ops ≤ m.ops + 3 := by
  have := baseM_ok l hm ho s
  rw [h] at this; exact this
theorem openM_ok' {m : M} (hm : m.ok) (ho : m.ops < 4611686018427387890) {a : Int} {o : Option (Lg × Text × List Text)} {m' : M} (h : openM m = (a, o, m')) : m'.ok ∧ m'.ops ≤ m.ops + 4 := by
  have := openM_ok hm ho
  rw [h] at this; exact this
theorem new_calm (room : Nat) : Calm (M.new room) := ⟨rfl, rfl⟩
theorem fresh {room : Nat} (hr : 120 ≤ room) : ∃ m', openM (M.new room) = (0, some (⟨0, 1, 0, false⟩, [], []), m') ∧ Whole m' ⟨0, 1, 0, false⟩ [] [] ∧ Calm m' ∧ m'.room = room := by
  have h1 := base_short (e := 1) (x := []) (by decide) (by decide) (by decide)
  obtain ⟨m', q1, q2, q3, q4, _⟩ := open_fresh (new_calm room) rfl rfl (show (pageT kBase 1 []).length ≤ room by simp at h1; omega)
  exact ⟨m', q1, q2, q3, q4⟩

end Go.Proofs.YtglkapamkigdhaaGreatDoor.Rl

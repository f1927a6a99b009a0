/-
  The ledger's calls, as the laws meet them: what each answers where the model's answer is known. Conditions as of the calls.
-/
import Derived.Test.YtglkapamkigdhaaDoorWhole
namespace Go.Proofs.YtglkapamkigdhaaDoor.Rl
open Go.RowKit
open Go.Proofs.YtglkapamkigdhaaDoor.M (pageT kBase kRec inR tellT tell_len)

theorem open_gives {b : Nat} {m : M} {w : World} (hr : RP b m w) (hm : m.ok) (hops : m.ops < 4611686018427387890) (hg : Good w) {l : Lg} {base : Text} {recs : List Text} {m' : M} (h : openM m = (0, some (l, base, recs), m')) :
    Calls Tryd.prog 11 #[ptr b] w fun e w' => ∃ q B v ss, e = .returned (.tuple #[ptr q, .string B, v, .int .i64 0]) ∧ B.data.toList = base ∧ texts ss = recs ∧ LP q b l w' ∧ w.heap.size ≤ q ∧ SR w.heap.size v ss w' ∧ RP b m' w' ∧ Fr b w w' := by
  have := c_open hr hm hops hg
  rw [h] at this
  refine this.mono ?_
  rintro e w' ⟨h1, h2, q, B, v, ss, rfl, h4, h5, h6, h7, h8⟩
  exact ⟨q, B, v, ss, rfl, h4, h5, h6, h7, h8, h1, h2⟩
theorem add_gives {q b : Nat} {l : Lg} {m : M} {w : World} (s : ByteArray) (h : LP q b l w) (hr : RP b m w) (hm : m.ok) (ho : m.ops < 4611686018427387903) (hl : l.ok) {x : Text} (hx : s.data.toList = x) {a : Int} {l' : Lg} {m' : M} (he : addM l m x = (a, l', m')) :
    Calls Tryd.prog 13 #[ptr q, .string s] w fun r w' => r = .returned (.int .i64 a) ∧ LP q b l' w' ∧ RP b m' w' ∧ FL b q w w' := by
  have := l_add s h hr hm ho hl
  rw [hx, he] at this
  exact this
theorem base_gives {q b : Nat} {l : Lg} {m : M} {w : World} (s : ByteArray) (h : LP q b l w) (hr : RP b m w) (hm : m.ok) (ho : m.ops < 4611686018427387900) (hl : l.ok) {x : Text} (hx : s.data.toList = x) {a : Int} {l' : Lg} {m' : M} (he : baseM l m x = (a, l', m')) :
    Calls Tryd.prog 14 #[ptr q, .string s] w fun r w' => r = .returned (.int .i64 a) ∧ LP q b l' w' ∧ RP b m' w' ∧ FL b q w w' := by
  have := l_base s h hr hm ho hl
  rw [hx, he] at this
  exact this
theorem SR.sl {B : Nat} {v : Value} {ss : List ByteArray} {w : World} (h : SR B v ss w) : SL w w.heap.size v ss := by
  obtain ⟨base, _, h2⟩ := h
  exact SL.of_own h2
theorem texts_inj {a b : List ByteArray} (h : texts a = texts b) : a = b := by
  induction a generalizing b with
  | nil => cases b with
    | nil => rfl
    | cons y l => simp [texts] at h
  | cons x a ih => cases b with
    | nil => simp [texts] at h
    | cons y l =>
      simp only [texts, List.map_cons, List.cons.injEq] at h
      rw [ba_ext h.1, ih h.2]
theorem addM_ok' {l : Lg} {m : M} (hm : m.ok) (ho : m.ops < 4611686018427387903) {s : Text} {a : Int} {l' : Lg} {m' : M} (h : addM l m s = (a, l', m')) : m'.ok ∧ m'.ops ≤ m.ops + 2 := by
  have := addM_ok l hm ho s
  rw [h] at this; exact this
theorem baseM_ok' {l : Lg} {m : M} (hm : m.ok) (ho : m.ops < 4611686018427387900) {s : Text} {a : Int} {l' : Lg} {m' : M} (h : baseM l m s = (a, l', m')) : m'.ok ∧ m'.ops ≤ m.ops + 3 := by
  have := baseM_ok l hm ho s
  rw [h] at this; exact this
theorem openM_ok' {m : M} (hm : m.ok) (ho : m.ops < 4611686018427387890) {a : Int} {o : Option (Lg × Text × List Text)} {m' : M} (h : openM m = (a, o, m')) : m'.ok ∧ m'.ops ≤ m.ops + 4 := by
  have := openM_ok hm ho
  rw [h] at this; exact this
theorem new_calm (room : Nat) : Calm (M.new room) := ⟨rfl, rfl⟩
theorem fresh {room : Nat} (hr : 120 ≤ room) : ∃ m', openM (M.new room) = (0, some (⟨0, 1, 0, false⟩, [], []), m') ∧ Whole m' ⟨0, 1, 0, false⟩ [] [] ∧ Calm m' ∧ m'.room = room := by
  have h1 := base_short (e := 1) (x := []) (by decide) (by decide) (by decide)
  obtain ⟨m', q1, q2, q3, q4, _⟩ := open_fresh (new_calm room) rfl rfl (show (pageT kBase 1 []).length ≤ room by simp at h1; omega)
  exact ⟨m', q1, q2, q3, q4⟩

end Go.Proofs.YtglkapamkigdhaaDoor.Rl

/-
  DescRises' acts, as they come in; what one act comes to; a descriptor's box that is written again while members are held. No condition of a program.
-/
import Derived.Test.YtojphacongbnmaaDoorDsLawB
namespace Go.Proofs.YtojphacongbnmaaDoor.Ds
open Go.RowKit Bnd

theorem remove_cases {d : De} (i : Int) (hd : isD d = true) : (∃ x, removeD d i = (x, 0) ∧ isD x = true) ∨ ∃ e, removeD d i = (De.zero, e) ∧ e ≠ 0 := by
  unfold removeD
  rw [if_pos hd]
  by_cases h1 : (hasM i d.ms).isSome = true
  · rw [if_pos h1]
    by_cases h3 : d.ms.length = 1
    · rw [if_pos h3]; exact .inr ⟨2, rfl, by decide⟩
    · rw [if_neg h3]
      rcases okD_cases { d with ms := dropM i d.ms, gen := d.gen + 1 } with ⟨h, e⟩ | e
      · exact .inl ⟨_, e, h⟩
      · exact .inr ⟨60, e, by decide⟩
  · rw [if_neg h1]; exact .inr ⟨7, rfl, by decide⟩
theorem remove_same {d x : De} {i : Int} (hd : isD d = true) (h : removeD d i = (x, 0)) : x.f = d.f ∧ x.t = d.t := by
  unfold removeD at h
  rw [if_pos hd] at h
  by_cases h1 : (hasM i d.ms).isSome = true
  · rw [if_pos h1] at h
    by_cases h3 : d.ms.length = 1
    · rw [if_pos h3] at h; have := (Prod.ext_iff.1 h).2; simp at this
    · rw [if_neg h3] at h
      obtain ⟨_, rfl⟩ := okD_spec h
      exact ⟨rfl, rfl⟩
  · rw [if_neg h1] at h; have := (Prod.ext_iff.1 h).2; simp at this

/-- a descriptor that may be, its keys at most 2000 bytes -/
structure Kp (d : De) : Prop where
  is : isD d = true
  f : d.f.size ≤ 2000
  t : d.t.size ≤ 2000
theorem Kp.fit {d : De} (h : Kp d) : Fit d := fit_isD h.is (by have := h.f; omega) (by have := h.t; omega)
theorem first_cases (ns : List Int) : (∃ d, firstD ns = (d, 0) ∧ Kp d) ∨ firstD ns = (De.zero, 60) := by
  unfold firstD
  rcases okD_cases ⟨1, ⟨#[]⟩, ⟨#[]⟩, 1, numbered 1 ns, (ns.length : Int) + 1⟩ with ⟨h, e⟩ | e
  · exact .inl ⟨_, e, ⟨h, Nat.zero_le _, Nat.zero_le _⟩⟩
  · exact .inr e

theorem act_add {d : De} (n : Int) (hd : Kp d) : (∃ x, addD d n = (x, 0) ∧ Rise d x ∧ Kp x) ∨ ∃ e, addD d n = (De.zero, e) ∧ e ≠ 0 := by
  rcases add_cases n hd.is with ⟨x, h, hx⟩ | h
  · obtain ⟨h1, h2⟩ := add_same hd.is h
    exact .inl ⟨x, h, (add_rise hd.is h).1, ⟨hx, by rw [h1]; exact hd.f, by rw [h2]; exact hd.t⟩⟩
  · exact .inr h
theorem act_remove {d : De} (n : Int) (hd : Kp d) : (∃ x, removeD d n = (x, 0) ∧ Rise d x ∧ Kp x) ∨ ∃ e, removeD d n = (De.zero, e) ∧ e ≠ 0 := by
  rcases remove_cases n hd.is with ⟨x, h, hx⟩ | h
  · obtain ⟨h1, h2⟩ := remove_same hd.is h
    exact .inl ⟨x, h, remove_rise hd.is h, ⟨hx, by rw [h1]; exact hd.f, by rw [h2]; exact hd.t⟩⟩
  · exact .inr h
theorem act_split {d : De} (k : ByteArray) (n : Int) (hd : Kp d) (hk : k.size ≤ 2000) : (∃ x y, splitD d k n = (x, y, 0) ∧ (Rise d x ∧ Kp x) ∧ Rise d y ∧ Kp y) ∨ ∃ e, splitD d k n = (De.zero, De.zero, e) ∧ e ≠ 0 := by
  rcases split_cases d k n with ⟨x, y, h⟩ | h
  · obtain ⟨h1, h2⟩ := split_rise h
    obtain ⟨_, _, _, hx, hy, ex, ey⟩ := split_spec h
    exact .inl ⟨x, y, h, ⟨h1, hx, by rw [ex]; exact hd.f, by rw [ex]; exact hk⟩, h2, hy, by rw [ey]; exact hk, by rw [ey]; exact hd.t⟩
  · exact .inr h

/-- add (kind 0), remove (1), split, the left one (2), the right one (3) -/
structure Ac where
  kind : Int
  node : Int
  id : Int
  key : ByteArray
/-- In the world w the slice value v holds the acts; its cells lie below block N. -/
def SAc (w : World) (N : Nat) (v : Value) (xs : List Ac) : Prop :=
  ∃ (A : Option Addr) (c : Nat), v = .slice A xs.length c ∧ (0 < xs.length → ∃ b o : Nat, A = some ⟨b, o, none⟩ ∧ b < N ∧ ∀ i (h : i < xs.length), w.cell? ⟨b, o + i * 4, none⟩ = some (.int .i64 xs[i].kind) ∧ w.cell? ⟨b, o + i * 4 + 1, none⟩ = some (.int .i64 xs[i].node) ∧ w.cell? ⟨b, o + i * 4 + 2, none⟩ = some (.int .i64 xs[i].id) ∧ w.cell? ⟨b, o + i * 4 + 3, none⟩ = some (.string xs[i].key))
theorem SAc.nil (w : World) (N : Nat) : SAc w N (.slice none 0 0) [] := ⟨none, 0, rfl, fun h => absurd h (by simp)⟩
theorem SAc.below {w w' : World} {N : Nat} {v : Value} {xs : List Ac} (h : SAc w N v xs) (hb : Below N w w') : SAc w' N v xs := by
  obtain ⟨A, c, hv, h⟩ := h
  refine ⟨A, c, hv, fun h0 => ?_⟩
  obtain ⟨b, o, e, hbN, hc⟩ := h h0
  refine ⟨b, o, e, hbN, fun i hi => ?_⟩
  rw [hb.cell (p := ⟨b, o + i * 4, none⟩) hbN, hb.cell (p := ⟨b, o + i * 4 + 1, none⟩) hbN, hb.cell (p := ⟨b, o + i * 4 + 2, none⟩) hbN, hb.cell (p := ⟨b, o + i * 4 + 3, none⟩) hbN]
  exact hc i hi
theorem SAc.form {w : World} {N : Nat} {v : Value} {xs : List Ac} (h : SAc w N v xs) : ∃ A c, v = .slice A xs.length c := by
  obtain ⟨A, c, hv, _⟩ := h; exact ⟨A, c, hv⟩
theorem SAc.at_ {w : World} {N k : Nat} {A : Option Addr} {n c : Nat} {xs : List Ac} (h : SAc w N (.slice A n c) xs) (hk : k < xs.length) :
    ∃ b o : Nat, A = some ⟨b, o, none⟩ ∧ b < N ∧ w.cell? ⟨b, o + k * 4, none⟩ = some (.int .i64 xs[k].kind) ∧ w.cell? ⟨b, o + k * 4 + 1, none⟩ = some (.int .i64 xs[k].node) ∧ w.cell? ⟨b, o + k * 4 + 2, none⟩ = some (.int .i64 xs[k].id) ∧ w.cell? ⟨b, o + k * 4 + 3, none⟩ = some (.string xs[k].key) := by
  obtain ⟨A', c', hv, h⟩ := h
  injection hv with h1 h2 h3
  subst h1
  obtain ⟨b, o, e, hb, hc⟩ := h (by omega)
  exact ⟨b, o, e, hb, hc k hk⟩

/-- a descriptor's box, and nothing behind it -/
def BoxE (n : Nat) (d : De) (s : Value) (w : World) : Prop := BoxD n d s w ∧ ∀ o, 6 ≤ o → w.cell? ⟨n, o, none⟩ = none
theorem BoxE.keep {n : Nat} {d : De} {s : Value} {w1 w2 : World} (h : BoxE n d s w1) (hb : Below w1.heap.size w1 w2) : BoxE n d s w2 :=
  ⟨h.1.keep hb, fun o ho => by rw [hb.cell (p := ⟨n, o, none⟩) h.1.1]; exact h.2 o ho⟩
theorem BoxE.alloc {n : Nat} {d : De} {s : Value} {w1 : World} (h : BoxE n d s w1) (o : Obj) : BoxE n d s (w1.alloc o) :=
  h.keep ((Below.refl _ w1).alloc (Nat.le_refl _) o)
theorem BoxE.new (w : World) (d : De) (s : Value) : BoxE w.heap.size d s (w.alloc (.cells #[.int .i64 d.id, .string d.f, .string d.t, .int .i64 d.gen, s, .int .i64 d.next] 26)) := by
  refine ⟨BoxD.new w d s, fun o ho => ?_⟩
  rw [World.cell?_alloc_new]
  match o, ho with
  | o + 6, _ => rfl
theorem BoxE.put {n : Nat} {d0 : De} {s0 : Value} {w1 : World} (h : BoxE n d0 s0 w1) (d : De) (s : Value) : BoxE n d s (putW w1 n d s) := by
  refine ⟨h.1.put d s, fun o ho => ?_⟩
  have e : ∀ (w : World) (j : Nat) (u : Value), j < 6 → (w.setCell ⟨n, j, none⟩ u).cell? ⟨n, o, none⟩ = w.cell? ⟨n, o, none⟩ := by
    intro w j u hj
    simp [go_sem]
  unfold putW
  rw [e _ _ _ (by decide), e _ _ _ (by decide), e _ _ _ (by decide), e _ _ _ (by decide), e _ _ _ (by decide), e _ _ _ (by decide)]
  exact h.2 o ho
/-- two integers never stand in it one behind the other -/
theorem BoxE.no_pair {n : Nat} {d : De} {s : Value} {w : World} (h : BoxE n d s w) {o : Nat} {x y : Int} (h1 : w.cell? ⟨n, o, none⟩ = some (.int .i64 x)) (h2 : w.cell? ⟨n, o + 1, none⟩ = some (.int .i64 y)) (hs : ∃ A l c, s = .slice A l c) : False := by
  obtain ⟨⟨_, ⟨c1, c2, c3, c4, c5, c6⟩, _⟩, hn⟩ := h
  obtain ⟨A, l, c, rfl⟩ := hs
  match o, h1, h2 with
  | 0, h1, h2 => rw [c2] at h2; cases h2
  | 1, h1, h2 => rw [c2] at h1; cases h1
  | 2, h1, h2 => rw [c3] at h1; cases h1
  | 3, h1, h2 => rw [c5] at h2; cases h2
  | 4, h1, h2 => rw [c5] at h1; cases h1
  | 5, h1, h2 => rw [hn 6 (by omega)] at h2; cases h2
  | o + 6, h1, h2 => rw [hn (o + 6) (by omega)] at h1; cases h1
theorem putW_far {w : World} {n : Nat} {d : De} {s : Value} {p : Addr} (hp : p.block ≠ n) : (putW w n d s).cell? p = w.cell? p := by
  unfold putW
  rw [World.cell?_setCell_far _ _ _ _ (fun e => hp e.symm), World.cell?_setCell_far _ _ _ _ (fun e => hp e.symm), World.cell?_setCell_far _ _ _ _ (fun e => hp e.symm), World.cell?_setCell_far _ _ _ _ (fun e => hp e.symm), World.cell?_setCell_far _ _ _ _ (fun e => hp e.symm), World.cell?_setCell_far _ _ _ _ (fun e => hp e.symm)]
theorem putW_size (w : World) (n : Nat) (d : De) (s : Value) : (putW w n d s).heap.size = w.heap.size := by unfold putW; simp
/-- members that are held stay, while a box is written -/
theorem BoxE.put_arg {n : Nat} {d0 d : De} {s0 s v : Value} {w : World} {ms : List Mem} (h : BoxE n d0 s0 w) (hs : ∃ A l c, s0 = .slice A l c) (ha : ArgM w v ms) : ArgM (putW w n d s) v ms := by
  cases ha with
  | nil => exact .nil
  | empty a c => exact .empty a c
  | some b o c ms hm =>
    refine .some b o c ms ?_
    obtain ⟨A', c', hv, hc⟩ := hm
    refine ⟨A', c', hv, fun h0 => ?_⟩
    obtain ⟨b', o', e, hb, hcc⟩ := hc h0
    refine ⟨b', o', e, by rw [putW_size]; exact hb, fun i hi => ?_⟩
    obtain ⟨g1, g2⟩ := hcc i hi
    have hne : b' ≠ n := fun e => by subst e; exact h.no_pair g1 g2 hs
    rw [putW_far (p := ⟨b', o' + i * 2, none⟩) hne, putW_far (p := ⟨b', o' + i * 2 + 1, none⟩) hne]
    exact ⟨g1, g2⟩

end Go.Proofs.YtojphacongbnmaaDoor.Ds

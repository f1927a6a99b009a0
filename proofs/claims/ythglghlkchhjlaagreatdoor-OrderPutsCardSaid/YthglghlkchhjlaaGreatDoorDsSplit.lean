/-
  Split, the program's. Condition: at most 1000 members, lengths at most 2^47.
-/
import Derived.Test.YthglghlkchhjlaaGreatDoorDsAdd
import Derived.Test.YthglghlkchhjlaaGreatDoorRegA
namespace Go.Proofs.YthglghlkchhjlaaGreatDoor.Ds
open Go.RowKit Bnd
open Go.Proofs.YthglghlkchhjlaaGreatDoor.O (Bd isB keyB hasB nextB)

abbrev ptr (n : Nat) : Value := .pointer (some ⟨n, 0, none⟩)
theorem own_apart {w : World} {base : Nat} {v : Value} {ms : List Mem} (h : OwnM w base v ms) {n : Nat} (hn : n < base ∨ w.heap.size ≤ n) : v.ownBlock ≠ some n := fun e => by
  have := h.lt n e; omega
theorem own_other {w : World} {base : Nat} {v : Value} {ms : List Mem} (h : OwnM w base v ms) {a : Addr} (ha : v.ownBlock ≠ some a.block) (u : Value) : OwnM (w.setCell a u) base v ms := ownsRow_setCell_other h ha u

/-- Split's region 8: two descriptors are made and laid into two boxes -/
structure R8 (W0 : World) (d : De) (L : Nat → Bool) (u : Nat → Value) (wx : World) : Prop where
  b : Below W0.heap.size W0 wx
  o3 : L 3 = true → ∃ s, u 3 = dv d s ∧ OwnM wx W0.heap.size s d.ms ∧ (L 8 = true → ∀ n, u 8 = ptr n → s.ownBlock ≠ some n) ∧ (L 9 = true → ∀ n, u 9 = ptr n → s.ownBlock ≠ some n)
  o7 : L 7 = true → ∃ s, u 7 = dv d s ∧ OwnM wx W0.heap.size s d.ms ∧ (L 8 = true → ∀ n, u 8 = ptr n → s.ownBlock ≠ some n) ∧ (L 9 = true → ∀ n, u 9 = ptr n → s.ownBlock ≠ some n)
  p8 : L 8 = true → ∃ n, u 8 = ptr n ∧ W0.heap.size ≤ n ∧ (∃ d' s', BoxD n d' s' wx) ∧ (L 10 = true → ∀ s, u 3 = dv d s → BoxD n d s wx) ∧ (L 9 = true → u 9 ≠ ptr n)
  p9 : L 9 = true → ∃ n, u 9 = ptr n ∧ W0.heap.size ≤ n ∧ (∃ d' s', BoxD n d' s' wx) ∧ (L 11 = true → ∀ s, u 7 = dv d s → BoxD n d s wx)

theorem R8.start (W0 : World) (d : De) : R8 W0 d (fun _ => false) (fun _ => undef) W0.drew :=
  ⟨(Below.refl _ W0).drew, fun h => (by cases h), fun h => (by cases h), fun h => (by cases h), fun h => (by cases h)⟩
theorem dv_inj {d : De} {s s' : Value} (h : dv d s = dv d s') : s = s' := by
  injection h with h
  simpa using h
theorem ptr_inj {n n' : Nat} (h : ptr n = ptr n') : n = n' := by
  injection h with h; injection h with h; injection h
/-- the first call -/
theorem R8.three {W0 wx w' : World} {d : De} {L : Nat → Bool} {u : Nat → Value} (h : R8 W0 d L u wx) (h7 : L 7 = false) (h10 : L 10 = false) (h11 : L 11 = false) {s : Value} (ho : OwnM w' wx.heap.size s d.ms) (hb : Below wx.heap.size wx w') :
    R8 W0 d (St.mark L 3) (St.upd u 3 (dv d s)) w' := by
  refine ⟨h.b.trans (hb.mono h.b.size), fun _ => ⟨s, rfl, own_base ho h.b.size, fun h8 n hn => ?_, fun h9 n hn => ?_⟩, fun h' => ?_, fun h' => ?_, fun h' => ?_⟩
  · obtain ⟨n', e, _, ⟨_, _, hB⟩, _⟩ := h.p8 h8
    obtain rfl := ptr_inj (e.symm.trans hn)
    exact own_apart ho (.inl hB.1)
  · obtain ⟨n', e, _, ⟨_, _, hB⟩, _⟩ := h.p9 h9
    obtain rfl := ptr_inj (e.symm.trans hn)
    exact own_apart ho (.inl hB.1)
  · rw [show St.mark L 3 7 = L 7 from rfl, h7] at h'; cases h'
  · obtain ⟨n, e, h1, ⟨d', s', h2⟩, _, h4⟩ := h.p8 h'
    exact ⟨n, e, h1, ⟨d', s', h2.keep hb⟩, fun h' => (by rw [show St.mark L 3 10 = L 10 from rfl, h10] at h'; cases h'), h4⟩
  · obtain ⟨n, e, h1, ⟨d', s', h2⟩, _⟩ := h.p9 h'
    exact ⟨n, e, h1, ⟨d', s', h2.keep hb⟩, fun h' => by rw [show St.mark L 3 11 = L 11 from rfl, h11] at h'; cases h'⟩
/-- the second call -/
theorem R8.seven {W0 wx w' : World} {d : De} {L : Nat → Bool} {u : Nat → Value} (h : R8 W0 d L u wx) (h10 : L 10 = false) (h11 : L 11 = false) {s : Value} (ho : OwnM w' wx.heap.size s d.ms) (hb : Below wx.heap.size wx w') :
    R8 W0 d (St.mark L 7) (St.upd u 7 (dv d s)) w' := by
  refine ⟨h.b.trans (hb.mono h.b.size), fun h' => ?_, fun _ => ⟨s, rfl, own_base ho h.b.size, fun h8 n hn => ?_, fun h9 n hn => ?_⟩, fun h' => ?_, fun h' => ?_⟩
  · obtain ⟨s', e, h1, h2, h3⟩ := h.o3 h'
    exact ⟨s', e, own_keep h1 hb, h2, h3⟩
  · obtain ⟨n', e, _, ⟨_, _, hB⟩, _⟩ := h.p8 h8
    obtain rfl := ptr_inj (e.symm.trans hn)
    exact own_apart ho (.inl hB.1)
  · obtain ⟨n', e, _, ⟨_, _, hB⟩, _⟩ := h.p9 h9
    obtain rfl := ptr_inj (e.symm.trans hn)
    exact own_apart ho (.inl hB.1)
  · obtain ⟨n, e, h1, ⟨d', s', h2⟩, _, h4⟩ := h.p8 h'
    exact ⟨n, e, h1, ⟨d', s', h2.keep hb⟩, fun h' => (by rw [show St.mark L 7 10 = L 10 from rfl, h10] at h'; cases h'), h4⟩
  · obtain ⟨n, e, h1, ⟨d', s', h2⟩, _⟩ := h.p9 h'
    exact ⟨n, e, h1, ⟨d', s', h2.keep hb⟩, fun h' => by rw [show St.mark L 7 11 = L 11 from rfl, h11] at h'; cases h'⟩
/-- the first box -/
theorem R8.eight {W0 wx : World} {d : De} {L : Nat → Bool} {u : Nat → Value} (h : R8 W0 d L u wx) (h10 : L 10 = false) (h11 : L 11 = false) :
    R8 W0 d (St.mark L 8) (St.upd u 8 (ptr wx.heap.size)) (wx.alloc (.cells #[.int .i64 0, .string ⟨#[]⟩, .string ⟨#[]⟩, .int .i64 0, .slice none 0 0, .int .i64 0] 70)) := by
  refine ⟨h.b.alloc h.b.size _, fun h' => ?_, fun h' => ?_, fun _ => ⟨_, rfl, h.b.size, ⟨_, _, BoxD.zero wx⟩, fun h' => ?_, fun h9 e => ?_⟩, fun h' => ?_⟩
  · obtain ⟨s', e, h1, h2, h3⟩ := h.o3 h'
    exact ⟨s', e, own_alloc h1 _, fun _ n hn => by obtain rfl := ptr_inj hn; exact own_apart h1 (.inr (Nat.le_refl _)), h3⟩
  · obtain ⟨s', e, h1, h2, h3⟩ := h.o7 h'
    exact ⟨s', e, own_alloc h1 _, fun _ n hn => by obtain rfl := ptr_inj hn; exact own_apart h1 (.inr (Nat.le_refl _)), h3⟩
  · rw [show St.mark L 8 10 = L 10 from rfl, h10] at h'; cases h'
  · obtain ⟨n, e', _, ⟨_, _, hB⟩, _⟩ := h.p9 h9
    have := ptr_inj (e'.symm.trans (show u 9 = _ from e))
    have := hB.1
    omega
  · obtain ⟨n, e, h1, ⟨d', s', h2⟩, _⟩ := h.p9 h'
    exact ⟨n, e, h1, ⟨d', s', h2.alloc _⟩, fun h' => by rw [show St.mark L 8 11 = L 11 from rfl, h11] at h'; cases h'⟩
/-- the second box -/
theorem R8.nine {W0 wx : World} {d : De} {L : Nat → Bool} {u : Nat → Value} (h : R8 W0 d L u wx) (h10 : L 10 = false) (h11 : L 11 = false) :
    R8 W0 d (St.mark L 9) (St.upd u 9 (ptr wx.heap.size)) (wx.alloc (.cells #[.int .i64 0, .string ⟨#[]⟩, .string ⟨#[]⟩, .int .i64 0, .slice none 0 0, .int .i64 0] 70)) := by
  refine ⟨h.b.alloc h.b.size _, fun h' => ?_, fun h' => ?_, fun h' => ?_, fun _ => ⟨_, rfl, h.b.size, ⟨_, _, BoxD.zero wx⟩, fun h' => ?_⟩⟩
  · obtain ⟨s', e, h1, h2, h3⟩ := h.o3 h'
    exact ⟨s', e, own_alloc h1 _, h2, fun _ n hn => by obtain rfl := ptr_inj hn; exact own_apart h1 (.inr (Nat.le_refl _))⟩
  · obtain ⟨s', e, h1, h2, h3⟩ := h.o7 h'
    exact ⟨s', e, own_alloc h1 _, h2, fun _ n hn => by obtain rfl := ptr_inj hn; exact own_apart h1 (.inr (Nat.le_refl _))⟩
  · obtain ⟨n, e, h1, ⟨d', s', h2⟩, _, h4⟩ := h.p8 h'
    refine ⟨n, e, h1, ⟨d', s', h2.alloc _⟩, fun h' => ?_, fun _ e' => ?_⟩
    · rw [show St.mark L 9 10 = L 10 from rfl, h10] at h'; cases h'
    · have := ptr_inj (show ptr wx.heap.size = ptr n from e')
      have := h2.1
      omega
  · rw [show St.mark L 9 11 = L 11 from rfl, h11] at h'; cases h'
/-- the world with a descriptor written into a box -/
def putW (w : World) (n : Nat) (d : De) (s : Value) : World := (((((w.setCell ⟨n, 0, none⟩ (.int .i64 d.id)).setCell ⟨n, 1, none⟩ (.string d.f)).setCell ⟨n, 2, none⟩ (.string d.t)).setCell ⟨n, 3, none⟩ (.int .i64 d.gen)).setCell ⟨n, 4, none⟩ s).setCell ⟨n, 5, none⟩ (.int .i64 d.next)
theorem putW_own {w : World} {n base : Nat} {d : De} {s v : Value} {ms : List Mem} (h : OwnM w base v ms) (ha : v.ownBlock ≠ some n) : OwnM (putW w n d s) base v ms := by
  unfold putW
  repeat refine own_other ?_ ha _
  exact h
theorem putW_box {w : World} {n n' : Nat} {d d' : De} {s s' : Value} (h : BoxD n' d' s' w) (ha : n ≠ n') : BoxD n' d' s' (putW w n d s) := by
  unfold putW
  repeat refine BoxD.other ?_ ha _
  exact h
theorem putW_below {w w0 : World} {N n : Nat} {d : De} {s : Value} (h : Below N w0 w) (hn : N ≤ n) : Below N w0 (putW w n d s) := by
  unfold putW
  repeat refine Below.setCell ?_ hn _
  exact h
/-- the first descriptor is laid into the first box -/
theorem R8.ten {W0 wx : World} {d : De} {L : Nat → Bool} {u : Nat → Value} (h : R8 W0 d L u wx) (h11 : L 11 = false) {n : Nat} {s : Value} (h8 : L 8 = true) (hu8 : u 8 = ptr n) (_h3 : L 3 = true) (hu3 : u 3 = dv d s) : R8 W0 d (St.mark L 10) (St.upd u 10 undef) (putW wx n d s) := by
  obtain ⟨n', e8, hN, ⟨d', s', hB⟩, _, h89⟩ := h.p8 h8
  obtain rfl := ptr_inj (e8.symm.trans hu8)
  refine ⟨putW_below h.b hN, fun h' => ?_, fun h' => ?_, fun h' => ⟨n', hu8, hN, ⟨d, s, BoxD.put hB d s⟩, fun _ s2 hs2 => ?_, h89⟩, fun h' => ?_⟩
  · obtain ⟨s', e, h1, h2, h3⟩ := h.o3 h'
    exact ⟨s', e, putW_own h1 (h2 h8 _ hu8), h2, h3⟩
  · obtain ⟨s', e, h1, h2, h3⟩ := h.o7 h'
    exact ⟨s', e, putW_own h1 (h2 h8 _ hu8), h2, h3⟩
  · obtain rfl := dv_inj (hu3.symm.trans (show u 3 = _ from hs2))
    exact BoxD.put hB d s
  · obtain ⟨n, e, h1, ⟨d', s', h2⟩, _⟩ := h.p9 h'
    have hne : n' ≠ n := fun e' => h89 h' (by rw [e']; exact e)
    exact ⟨n, e, h1, ⟨d', s', putW_box h2 hne⟩, fun h' => by rw [show St.mark L 10 11 = L 11 from rfl, h11] at h'; cases h'⟩
/-- and the second one into the second -/
theorem R8.eleven {W0 wx : World} {d : De} {L : Nat → Bool} {u : Nat → Value} (h : R8 W0 d L u wx) {n : Nat} {s : Value} (h9 : L 9 = true) (hu9 : u 9 = ptr n) (_h7 : L 7 = true) (hu7 : u 7 = dv d s) : R8 W0 d (St.mark L 11) (St.upd u 11 undef) (putW wx n d s) := by
  obtain ⟨n', e9, hN, ⟨d', s', hB⟩, _⟩ := h.p9 h9
  obtain rfl := ptr_inj (e9.symm.trans hu9)
  refine ⟨putW_below h.b hN, fun h' => ?_, fun h' => ?_, fun h' => ?_, fun h' => ⟨n', hu9, hN, ⟨d, s, BoxD.put hB d s⟩, fun _ s2 hs2 => ?_⟩⟩
  · obtain ⟨s', e, h1, h2, h3⟩ := h.o3 h'
    exact ⟨s', e, putW_own h1 (h3 h9 _ hu9), h2, h3⟩
  · obtain ⟨s', e, h1, h2, h3⟩ := h.o7 h'
    exact ⟨s', e, putW_own h1 (h3 h9 _ hu9), h2, h3⟩
  · obtain ⟨n, e, h1, ⟨d', s', h2⟩, h3, h4⟩ := h.p8 h'
    have hne : n' ≠ n := fun e' => h4 h9 (by rw [← e']; exact hu9)
    exact ⟨n, e, h1, ⟨d', s', putW_box h2 hne⟩, fun h10 s2 hs2 => putW_box (h3 h10 s2 hs2) hne, h4⟩
  · obtain rfl := dv_inj (hu7.symm.trans (show u 7 = _ from hs2))
    exact BoxD.put hB d s

/-- Split's region 13: both descriptors are laid into the results -/
structure R13 (w7 : World) (r1 r2 : Nat) (l r : De) (sl sr : Value) (L : Nat → Bool) (wx : World) : Prop where
  a : L 2 = false → wx = w7.drew
  b : L 2 = true → L 3 = false → wx = putW w7.drew r1 l sl
  c : L 3 = true → wx = putW (putW w7.drew r1 l sl) r2 r sr

/-- what Split answers -/
def Gave2 (w : World) (p : De × De × Int) (e : Ending) (w' : World) : Prop := ∃ s' s'', e = .returned (.tuple #[dv p.1 s', dv p.2.1 s'', .int .i64 p.2.2]) ∧ ArgM w' s' p.1.ms ∧ ArgM w' s'' p.2.1.ms ∧ Below w.heap.size w w'
theorem Gave2.zero {w w' : World} {n : Int} (h : Below w.heap.size w w') : Gave2 w (De.zero, De.zero, n) (.returned (.tuple #[dv De.zero (.slice none 0 0), dv De.zero (.slice none 0 0), .int .i64 n])) w' := ⟨_, _, rfl, .nil, .nil, h⟩
theorem boxes4 {w w1 : World} (l : De) (sl : Value)
    (b1 : Below (((w.alloc (.cells #[.int .i64 l.id, .string l.f, .string l.t, .int .i64 l.gen, sl, .int .i64 l.next] 70)).alloc (.cells #[.int .i64 0, .string ⟨#[]⟩, .string ⟨#[]⟩, .int .i64 0, .slice none 0 0, .int .i64 0] 70)).alloc (.cells #[.int .i64 0, .string ⟨#[]⟩, .string ⟨#[]⟩, .int .i64 0, .slice none 0 0, .int .i64 0] 70)).heap.size
      (((w.alloc (.cells #[.int .i64 l.id, .string l.f, .string l.t, .int .i64 l.gen, sl, .int .i64 l.next] 70)).alloc (.cells #[.int .i64 0, .string ⟨#[]⟩, .string ⟨#[]⟩, .int .i64 0, .slice none 0 0, .int .i64 0] 70)).alloc (.cells #[.int .i64 0, .string ⟨#[]⟩, .string ⟨#[]⟩, .int .i64 0, .slice none 0 0, .int .i64 0] 70)) w1) :
    BoxD w.heap.size l sl w1 ∧ BoxD (w.heap.size + 1) De.zero (.slice none 0 0) w1 ∧ BoxD (w.heap.size + 1 + 1) De.zero (.slice none 0 0) w1 ∧ Below w.heap.size w w1 := by
  obtain ⟨h1, h2, h3, h4⟩ := boxes3 l sl De.zero (.slice none 0 0) b1
  exact ⟨h1, h2, h3, h4⟩

/-- two boxes are written, one behind the other -/
theorem put2 {w1 : World} {n n' : Nat} {d0 d0' : De} {s0 s0' : Value} (h : BoxD n d0 s0 w1) (h' : BoxD n' d0' s0' w1) (hne : n ≠ n') (d d' : De) (s s' : Value) :
    BoxD n d s ((((((((((((((w1).setCell ⟨n, 0, none⟩ (.int .i64 d.id)).setCell ⟨n, 1, none⟩ (.string d.f)).setCell ⟨n, 2, none⟩ (.string d.t)).setCell ⟨n, 3, none⟩ (.int .i64 d.gen)).setCell ⟨n, 4, none⟩ s).setCell ⟨n, 5, none⟩ (.int .i64 d.next))).setCell ⟨n', 0, none⟩ (.int .i64 d'.id)).setCell ⟨n', 1, none⟩ (.string d'.f)).setCell ⟨n', 2, none⟩ (.string d'.t)).setCell ⟨n', 3, none⟩ (.int .i64 d'.gen)).setCell ⟨n', 4, none⟩ s').setCell ⟨n', 5, none⟩ (.int .i64 d'.next)) ∧ BoxD n' d' s' ((((((((((((((w1).setCell ⟨n, 0, none⟩ (.int .i64 d.id)).setCell ⟨n, 1, none⟩ (.string d.f)).setCell ⟨n, 2, none⟩ (.string d.t)).setCell ⟨n, 3, none⟩ (.int .i64 d.gen)).setCell ⟨n, 4, none⟩ s).setCell ⟨n, 5, none⟩ (.int .i64 d.next))).setCell ⟨n', 0, none⟩ (.int .i64 d'.id)).setCell ⟨n', 1, none⟩ (.string d'.f)).setCell ⟨n', 2, none⟩ (.string d'.t)).setCell ⟨n', 3, none⟩ (.int .i64 d'.gen)).setCell ⟨n', 4, none⟩ s').setCell ⟨n', 5, none⟩ (.int .i64 d'.next)) :=
  ⟨putW_box (n := n') (d := d') (s := s') (BoxD.put h d s) (fun e => hne e.symm), BoxD.put (putW_box (n := n) (d := d) (s := s) h' hne) d' s'⟩
theorem put2_fin {w1 : World} {n n' : Nat} {d0 d0' : De} {s0 s0' : Value} (fn : Func) (tmps : Array Value) (a a' b : Tmp) (v : Value) (h : BoxD n d0 s0 w1) (h' : BoxD n' d0' s0' w1) (hne : n ≠ n') (d d' : De) (s s' : Value)
    (hf : fn.results = #[.cell a 70, .cell a' 70, .tmp b]) (ht : tmps[a]?.getD undef = .pointer (some ⟨n, 0, none⟩)) (ht' : tmps[a']?.getD undef = .pointer (some ⟨n', 0, none⟩)) (hb : tmps[b]?.getD undef = v) :
    (results fn tmps).run Tryz.prog ((((((((((((((w1).setCell ⟨n, 0, none⟩ (.int .i64 d.id)).setCell ⟨n, 1, none⟩ (.string d.f)).setCell ⟨n, 2, none⟩ (.string d.t)).setCell ⟨n, 3, none⟩ (.int .i64 d.gen)).setCell ⟨n, 4, none⟩ s).setCell ⟨n, 5, none⟩ (.int .i64 d.next))).setCell ⟨n', 0, none⟩ (.int .i64 d'.id)).setCell ⟨n', 1, none⟩ (.string d'.f)).setCell ⟨n', 2, none⟩ (.string d'.t)).setCell ⟨n', 3, none⟩ (.int .i64 d'.gen)).setCell ⟨n', 4, none⟩ s').setCell ⟨n', 5, none⟩ (.int .i64 d'.next)) = .ok (.tuple #[dv d s, dv d' s', v]) ((((((((((((((w1).setCell ⟨n, 0, none⟩ (.int .i64 d.id)).setCell ⟨n, 1, none⟩ (.string d.f)).setCell ⟨n, 2, none⟩ (.string d.t)).setCell ⟨n, 3, none⟩ (.int .i64 d.gen)).setCell ⟨n, 4, none⟩ s).setCell ⟨n, 5, none⟩ (.int .i64 d.next))).setCell ⟨n', 0, none⟩ (.int .i64 d'.id)).setCell ⟨n', 1, none⟩ (.string d'.f)).setCell ⟨n', 2, none⟩ (.string d'.t)).setCell ⟨n', 3, none⟩ (.int .i64 d'.gen)).setCell ⟨n', 4, none⟩ s').setCell ⟨n', 5, none⟩ (.int .i64 d'.next)) :=
  res_box_box hf ht ht' hb (put2 h h' hne d d' s s').1 (put2 h h' hne d d' s s').2

theorem put2_fin2 {w1 : World} {n n' : Nat} {d0 d0' : De} {s0 s0' : Value} (fn : Func) (tmps : Array Value) (a a' b : Tmp) (v : Value) (o1 o2 : Obj) (h : BoxD n d0 s0 w1) (h' : BoxD n' d0' s0' w1) (hne : n ≠ n') (d d' : De) (s s' : Value)
    (hf : fn.results = #[.cell a 70, .cell a' 70, .tmp b]) (ht : tmps[a]?.getD undef = .pointer (some ⟨n, 0, none⟩)) (ht' : tmps[a']?.getD undef = .pointer (some ⟨n', 0, none⟩)) (hb : tmps[b]?.getD undef = v) :
    (results fn tmps).run Tryz.prog ((((((((((((((((w1).setCell ⟨n, 0, none⟩ (.int .i64 d.id)).setCell ⟨n, 1, none⟩ (.string d.f)).setCell ⟨n, 2, none⟩ (.string d.t)).setCell ⟨n, 3, none⟩ (.int .i64 d.gen)).setCell ⟨n, 4, none⟩ s).setCell ⟨n, 5, none⟩ (.int .i64 d.next))).setCell ⟨n', 0, none⟩ (.int .i64 d'.id)).setCell ⟨n', 1, none⟩ (.string d'.f)).setCell ⟨n', 2, none⟩ (.string d'.t)).setCell ⟨n', 3, none⟩ (.int .i64 d'.gen)).setCell ⟨n', 4, none⟩ s').setCell ⟨n', 5, none⟩ (.int .i64 d'.next)).alloc o1).alloc o2) = .ok (.tuple #[dv d s, dv d' s', v]) ((((((((((((((((w1).setCell ⟨n, 0, none⟩ (.int .i64 d.id)).setCell ⟨n, 1, none⟩ (.string d.f)).setCell ⟨n, 2, none⟩ (.string d.t)).setCell ⟨n, 3, none⟩ (.int .i64 d.gen)).setCell ⟨n, 4, none⟩ s).setCell ⟨n, 5, none⟩ (.int .i64 d.next))).setCell ⟨n', 0, none⟩ (.int .i64 d'.id)).setCell ⟨n', 1, none⟩ (.string d'.f)).setCell ⟨n', 2, none⟩ (.string d'.t)).setCell ⟨n', 3, none⟩ (.int .i64 d'.gen)).setCell ⟨n', 4, none⟩ s').setCell ⟨n', 5, none⟩ (.int .i64 d'.next)).alloc o1).alloc o2) :=
  res_box_box hf ht ht' hb (((put2 h h' hne d d' s s').1.alloc o1).alloc o2) (((put2 h h' hne d d' s s').2.alloc o1).alloc o2)

end Go.Proofs.YthglghlkchhjlaaGreatDoor.Ds

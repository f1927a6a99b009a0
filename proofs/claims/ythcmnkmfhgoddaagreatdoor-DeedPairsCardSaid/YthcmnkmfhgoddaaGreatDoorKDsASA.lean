/-
  Add, the program's. Condition: at most 1000 members, lengths at most 2^47.
  Split, the program's. Condition: at most 1000 members, lengths at most 2^47.
-/
import Derived.Test.YthcmnkmfhgoddaaGreatDoorKDsJoin
import Derived.Test.YthcmnkmfhgoddaaGreatDoorKRegA
namespace Go.Proofs.YthcmnkmfhgoddaaGreatDoor.Ds
open Go.RowKit Bnd
open Go.Proofs.YthcmnkmfhgoddaaGreatDoor.O (Bd isB keyB hasB nextB)
end Go.Proofs.YthcmnkmfhgoddaaGreatDoor.Ds

namespace Go.Proofs.YthcmnkmfhgoddaaGreatDoor.Ds
open Go.RowKit Bnd
open Go.Proofs.YthcmnkmfhgoddaaGreatDoor.O (Bd isB keyB hasB nextB)
abbrev ptr (n : Nat) : Value := .pointer (some ⟨n, 0, none⟩)
theorem own_apart {w : World} {base : Nat} {v : Value} {ms : List Mem} (h : OwnM w base v ms) {n : Nat} (hn : n < base \/ w.heap.size <= n) : v.ownBlock ≠ some n := fun e => by
 have := h.lt n e; omega
theorem own_other {w : World} {base : Nat} {v : Value} {ms : List Mem} (h : OwnM w base v ms) {a : Addr} (ha : v.ownBlock ≠ some a.block) (u : Value) : OwnM (w.setCell a u) base v ms := ownsRow_setCell_other h ha u
structure R8 (W0 : World) (d : De) (L : Nat -> Bool) (u : Nat -> Value) (wx : World) : Prop where
 b : Below W0.heap.size W0 wx
 o3 : L 3 = true -> ∃ s, u 3 = dv d s /\ OwnM wx W0.heap.size s d.ms /\ (L 8 = true -> ∀ n, u 8 = ptr n -> s.ownBlock ≠ some n) /\ (L 9 = true -> ∀ n, u 9 = ptr n -> s.ownBlock ≠ some n)
 o7 : L 7 = true -> ∃ s, u 7 = dv d s /\ OwnM wx W0.heap.size s d.ms /\ (L 8 = true -> ∀ n, u 8 = ptr n -> s.ownBlock ≠ some n) /\ (L 9 = true -> ∀ n, u 9 = ptr n -> s.ownBlock ≠ some n)
 p8 : L 8 = true -> ∃ n, u 8 = ptr n /\ W0.heap.size <= n /\ (∃ d' s', BoxD n d' s' wx) /\ (L 10 = true -> ∀ s, u 3 = dv d s -> BoxD n d s wx) /\ (L 9 = true -> u 9 ≠ ptr n)
 p9 : L 9 = true -> ∃ n, u 9 = ptr n /\ W0.heap.size <= n /\ (∃ d' s', BoxD n d' s' wx) /\ (L 11 = true -> ∀ s, u 7 = dv d s -> BoxD n d s wx)
theorem R8.start (W0 : World) (d : De) : R8 W0 d (fun _ => false) (fun _ => undef) W0.drew :=
 ⟨(Below.refl _ W0).drew, fun h => (by cases h), fun h => (by cases h), fun h => (by cases h), fun h => (by cases h)⟩
theorem dv_inj {d : De} {s s' : Value} (h : dv d s = dv d s') : s = s' := by
 injection h with h
 simpa using h
theorem ptr_inj {n n' : Nat} (h : ptr n = ptr n') : n = n' := by
 injection h with h; injection h with h; injection h
theorem R8.three {W0 wx w' : World} {d : De} {L : Nat -> Bool} {u : Nat -> Value} (h : R8 W0 d L u wx) (h7 : L 7 = false) (h10 : L 10 = false) (h11 : L 11 = false) {s : Value} (ho : OwnM w' wx.heap.size s d.ms) (hb : Below wx.heap.size wx w') :
  R8 W0 d (St.mark L 3) (St.upd u 3 (dv d s)) w' := by
 refine ⟨h.b.trans (hb.mono h.b.size), fun _ => ⟨s, rfl, own_base ho h.b.size, fun h8 n hn => ?_, fun h9 n hn => ?_⟩, fun h' => ?_, fun h' => ?_, fun h' => ?_⟩
 ·obtain ⟨n', e, _, ⟨_, _, hB⟩, _⟩ := h.p8 h8
  obtain rfl := ptr_inj (e.symm.trans hn)
  exact own_apart ho (.inl hB.1)
 ·obtain ⟨n', e, _, ⟨_, _, hB⟩, _⟩ := h.p9 h9
  obtain rfl := ptr_inj (e.symm.trans hn)
  exact own_apart ho (.inl hB.1)
 ·rw [show St.mark L 3 7 = L 7 from rfl, h7] at h'; cases h'
 ·obtain ⟨n, e, h1, ⟨d', s', h2⟩, _, h4⟩ := h.p8 h'
  exact ⟨n, e, h1, ⟨d', s', h2.keep hb⟩, fun h' => (by rw [show St.mark L 3 10 = L 10 from rfl, h10] at h'; cases h'), h4⟩
 ·obtain ⟨n, e, h1, ⟨d', s', h2⟩, _⟩ := h.p9 h'
  exact ⟨n, e, h1, ⟨d', s', h2.keep hb⟩, fun h' => by rw [show St.mark L 3 11 = L 11 from rfl, h11] at h'; cases h'⟩
theorem R8.seven {W0 wx w' : World} {d : De} {L : Nat -> Bool} {u : Nat -> Value} (h : R8 W0 d L u wx) (h10 : L 10 = false) (h11 : L 11 = false) {s : Value} (ho : OwnM w' wx.heap.size s d.ms) (hb : Below wx.heap.size wx w') :
  R8 W0 d (St.mark L 7) (St.upd u 7 (dv d s)) w' := by
 refine ⟨h.b.trans (hb.mono h.b.size), fun h' => ?_, fun _ => ⟨s, rfl, own_base ho h.b.size, fun h8 n hn => ?_, fun h9 n hn => ?_⟩, fun h' => ?_, fun h' => ?_⟩
 ·obtain ⟨s', e, h1, h2, h3⟩ := h.o3 h'
  exact ⟨s', e, own_keep h1 hb, h2, h3⟩
 ·obtain ⟨n', e, _, ⟨_, _, hB⟩, _⟩ := h.p8 h8
  obtain rfl := ptr_inj (e.symm.trans hn)
  exact own_apart ho (.inl hB.1)
 ·obtain ⟨n', e, _, ⟨_, _, hB⟩, _⟩ := h.p9 h9
  obtain rfl := ptr_inj (e.symm.trans hn)
  exact own_apart ho (.inl hB.1)
 ·obtain ⟨n, e, h1, ⟨d', s', h2⟩, _, h4⟩ := h.p8 h'
  exact ⟨n, e, h1, ⟨d', s', h2.keep hb⟩, fun h' => (by rw [show St.mark L 7 10 = L 10 from rfl, h10] at h'; cases h'), h4⟩
 ·obtain ⟨n, e, h1, ⟨d', s', h2⟩, _⟩ := h.p9 h'
  exact ⟨n, e, h1, ⟨d', s', h2.keep hb⟩, fun h' => by rw [show St.mark L 7 11 = L 11 from rfl, h11] at h'; cases h'⟩
theorem R8.eight {W0 wx : World} {d : De} {L : Nat -> Bool} {u : Nat -> Value} (h : R8 W0 d L u wx) (h10 : L 10 = false) (h11 : L 11 = false) :
  R8 W0 d (St.mark L 8) (St.upd u 8 (ptr wx.heap.size)) (wx.alloc (.cells #[.int .i64 0, .string ⟨#[]⟩, .string ⟨#[]⟩, .int .i64 0, .slice none 0 0, .int .i64 0] 26)) := by
 refine ⟨h.b.alloc h.b.size _, fun h' => ?_, fun h' => ?_, fun _ => ⟨_, rfl, h.b.size, ⟨_, _, BoxD.zero wx⟩, fun h' => ?_, fun h9 e => ?_⟩, fun h' => ?_⟩
 ·obtain ⟨s', e, h1, h2, h3⟩ := h.o3 h'
  exact ⟨s', e, own_alloc h1 _, fun _ n hn => by obtain rfl := ptr_inj hn; exact own_apart h1 (.inr (Nat.le_refl _)), h3⟩
 ·obtain ⟨s', e, h1, h2, h3⟩ := h.o7 h'
  exact ⟨s', e, own_alloc h1 _, fun _ n hn => by obtain rfl := ptr_inj hn; exact own_apart h1 (.inr (Nat.le_refl _)), h3⟩
 ·rw [show St.mark L 8 10 = L 10 from rfl, h10] at h'; cases h'
 ·obtain ⟨n, e', _, ⟨_, _, hB⟩, _⟩ := h.p9 h9
  have := ptr_inj (e'.symm.trans (show u 9 = _ from e))
  have := hB.1
  omega
 ·obtain ⟨n, e, h1, ⟨d', s', h2⟩, _⟩ := h.p9 h'
  exact ⟨n, e, h1, ⟨d', s', h2.alloc _⟩, fun h' => by rw [show St.mark L 8 11 = L 11 from rfl, h11] at h'; cases h'⟩
theorem R8.nine {W0 wx : World} {d : De} {L : Nat -> Bool} {u : Nat -> Value} (h : R8 W0 d L u wx) (h10 : L 10 = false) (h11 : L 11 = false) :
  R8 W0 d (St.mark L 9) (St.upd u 9 (ptr wx.heap.size)) (wx.alloc (.cells #[.int .i64 0, .string ⟨#[]⟩, .string ⟨#[]⟩, .int .i64 0, .slice none 0 0, .int .i64 0] 26)) := by
 refine ⟨h.b.alloc h.b.size _, fun h' => ?_, fun h' => ?_, fun h' => ?_, fun _ => ⟨_, rfl, h.b.size, ⟨_, _, BoxD.zero wx⟩, fun h' => ?_⟩⟩
 ·obtain ⟨s', e, h1, h2, h3⟩ := h.o3 h'
  exact ⟨s', e, own_alloc h1 _, h2, fun _ n hn => by obtain rfl := ptr_inj hn; exact own_apart h1 (.inr (Nat.le_refl _))⟩
 ·obtain ⟨s', e, h1, h2, h3⟩ := h.o7 h'
  exact ⟨s', e, own_alloc h1 _, h2, fun _ n hn => by obtain rfl := ptr_inj hn; exact own_apart h1 (.inr (Nat.le_refl _))⟩
 ·obtain ⟨n, e, h1, ⟨d', s', h2⟩, _, h4⟩ := h.p8 h'
  refine ⟨n, e, h1, ⟨d', s', h2.alloc _⟩, fun h' => ?_, fun _ e' => ?_⟩
  ·rw [show St.mark L 9 10 = L 10 from rfl, h10] at h'; cases h'
  ·have := ptr_inj (show ptr wx.heap.size = ptr n from e')
   have := h2.1
   omega
 ·rw [show St.mark L 9 11 = L 11 from rfl, h11] at h'; cases h'
def putW (w : World) (n : Nat) (d : De) (s : Value) : World := (((((w.setCell ⟨n, 0, none⟩ (.int .i64 d.id)).setCell ⟨n, 1, none⟩ (.string d.f)).setCell ⟨n, 2, none⟩ (.string d.t)).setCell ⟨n, 3, none⟩ (.int .i64 d.gen)).setCell ⟨n, 4, none⟩ s).setCell ⟨n, 5, none⟩ (.int .i64 d.next)
theorem putW_own {w : World} {n base : Nat} {d : De} {s v : Value} {ms : List Mem} (h : OwnM w base v ms) (ha : v.ownBlock ≠ some n) : OwnM (putW w n d s) base v ms := by
 unfold putW
 repeat refine own_other ?_ ha _
 exact h
theorem putW_box {w : World} {n n' : Nat} {d d' : De} {s s' : Value} (h : BoxD n' d' s' w) (ha : n ≠ n') : BoxD n' d' s' (putW w n d s) := by
 unfold putW
 repeat refine BoxD.other ?_ ha _
 exact h
theorem putW_below {w w0 : World} {N n : Nat} {d : De} {s : Value} (h : Below N w0 w) (hn : N <= n) : Below N w0 (putW w n d s) := by
 unfold putW
 repeat refine Below.setCell ?_ hn _
 exact h
theorem R8.ten {W0 wx : World} {d : De} {L : Nat -> Bool} {u : Nat -> Value} (h : R8 W0 d L u wx) (h11 : L 11 = false) {n : Nat} {s : Value} (h8 : L 8 = true) (hu8 : u 8 = ptr n) (_h3 : L 3 = true) (hu3 : u 3 = dv d s) : R8 W0 d (St.mark L 10) (St.upd u 10 undef) (putW wx n d s) := by
 obtain ⟨n', e8, hN, ⟨d', s', hB⟩, _, h89⟩ := h.p8 h8
 obtain rfl := ptr_inj (e8.symm.trans hu8)
 refine ⟨putW_below h.b hN, fun h' => ?_, fun h' => ?_, fun h' => ⟨n', hu8, hN, ⟨d, s, BoxD.put hB d s⟩, fun _ s2 hs2 => ?_, h89⟩, fun h' => ?_⟩
 ·obtain ⟨s', e, h1, h2, h3⟩ := h.o3 h'
  exact ⟨s', e, putW_own h1 (h2 h8 _ hu8), h2, h3⟩
 ·obtain ⟨s', e, h1, h2, h3⟩ := h.o7 h'
  exact ⟨s', e, putW_own h1 (h2 h8 _ hu8), h2, h3⟩
 ·obtain rfl := dv_inj (hu3.symm.trans (show u 3 = _ from hs2))
  exact BoxD.put hB d s
 ·obtain ⟨n, e, h1, ⟨d', s', h2⟩, _⟩ := h.p9 h'
  have hne : n' ≠ n := fun e' => h89 h' (by rw [e']; exact e)
  exact ⟨n, e, h1, ⟨d', s', putW_box h2 hne⟩, fun h' => by rw [show St.mark L 10 11 = L 11 from rfl, h11] at h'; cases h'⟩
theorem R8.eleven {W0 wx : World} {d : De} {L : Nat -> Bool} {u : Nat -> Value} (h : R8 W0 d L u wx) {n : Nat} {s : Value} (h9 : L 9 = true) (hu9 : u 9 = ptr n) (_h7 : L 7 = true) (hu7 : u 7 = dv d s) : R8 W0 d (St.mark L 11) (St.upd u 11 undef) (putW wx n d s) := by
 obtain ⟨n', e9, hN, ⟨d', s', hB⟩, _⟩ := h.p9 h9
 obtain rfl := ptr_inj (e9.symm.trans hu9)
 refine ⟨putW_below h.b hN, fun h' => ?_, fun h' => ?_, fun h' => ?_, fun h' => ⟨n', hu9, hN, ⟨d, s, BoxD.put hB d s⟩, fun _ s2 hs2 => ?_⟩⟩
 ·obtain ⟨s', e, h1, h2, h3⟩ := h.o3 h'
  exact ⟨s', e, putW_own h1 (h3 h9 _ hu9), h2, h3⟩
 ·obtain ⟨s', e, h1, h2, h3⟩ := h.o7 h'
  exact ⟨s', e, putW_own h1 (h3 h9 _ hu9), h2, h3⟩
 ·obtain ⟨n, e, h1, ⟨d', s', h2⟩, h3, h4⟩ := h.p8 h'
  have hne : n' ≠ n := fun e' => h4 h9 (by rw [<- e']; exact hu9)
  exact ⟨n, e, h1, ⟨d', s', putW_box h2 hne⟩, fun h10 s2 hs2 => putW_box (h3 h10 s2 hs2) hne, h4⟩
 ·obtain rfl := dv_inj (hu7.symm.trans (show u 7 = _ from hs2))
  exact BoxD.put hB d s
structure R13 (w7 : World) (r1 r2 : Nat) (l r : De) (sl sr : Value) (L : Nat -> Bool) (wx : World) : Prop where
 a : L 2 = false -> wx = w7.drew
 b : L 2 = true -> L 3 = false -> wx = putW w7.drew r1 l sl
 c : L 3 = true -> wx = putW (putW w7.drew r1 l sl) r2 r sr
def Gave2 (w : World) (p : De × De × Int) (e : Ending) (w' : World) : Prop := ∃ s' s'', e = .returned (.tuple #[dv p.1 s', dv p.2.1 s'', .int .i64 p.2.2]) /\ ArgM w' s' p.1.ms /\ ArgM w' s'' p.2.1.ms /\ Below w.heap.size w w'
theorem Gave2.zero {w w' : World} {n : Int} (h : Below w.heap.size w w') : Gave2 w (De.zero, De.zero, n) (.returned (.tuple #[dv De.zero (.slice none 0 0), dv De.zero (.slice none 0 0), .int .i64 n])) w' := ⟨_, _, rfl, .nil, .nil, h⟩
theorem boxes4 {w w1 : World} (l : De) (sl : Value)
  (b1 : Below (((w.alloc (.cells #[.int .i64 l.id, .string l.f, .string l.t, .int .i64 l.gen, sl, .int .i64 l.next] 26)).alloc (.cells #[.int .i64 0, .string ⟨#[]⟩, .string ⟨#[]⟩, .int .i64 0, .slice none 0 0, .int .i64 0] 26)).alloc (.cells #[.int .i64 0, .string ⟨#[]⟩, .string ⟨#[]⟩, .int .i64 0, .slice none 0 0, .int .i64 0] 26)).heap.size
   (((w.alloc (.cells #[.int .i64 l.id, .string l.f, .string l.t, .int .i64 l.gen, sl, .int .i64 l.next] 26)).alloc (.cells #[.int .i64 0, .string ⟨#[]⟩, .string ⟨#[]⟩, .int .i64 0, .slice none 0 0, .int .i64 0] 26)).alloc (.cells #[.int .i64 0, .string ⟨#[]⟩, .string ⟨#[]⟩, .int .i64 0, .slice none 0 0, .int .i64 0] 26)) w1) :
  BoxD w.heap.size l sl w1 /\ BoxD (w.heap.size + 1) De.zero (.slice none 0 0) w1 /\ BoxD (w.heap.size + 1 + 1) De.zero (.slice none 0 0) w1 /\ Below w.heap.size w w1 := by
 obtain ⟨h1, h2, h3, h4⟩ := boxes3 l sl De.zero (.slice none 0 0) b1
 exact ⟨h1, h2, h3, h4⟩
theorem put2 {w1 : World} {n n' : Nat} {d0 d0' : De} {s0 s0' : Value} (h : BoxD n d0 s0 w1) (h' : BoxD n' d0' s0' w1) (hne : n ≠ n') (d d' : De) (s s' : Value) :
  BoxD n d s ((((((((((((((w1).setCell ⟨n, 0, none⟩ (.int .i64 d.id)).setCell ⟨n, 1, none⟩ (.string d.f)).setCell ⟨n, 2, none⟩ (.string d.t)).setCell ⟨n, 3, none⟩ (.int .i64 d.gen)).setCell ⟨n, 4, none⟩ s).setCell ⟨n, 5, none⟩ (.int .i64 d.next))).setCell ⟨n', 0, none⟩ (.int .i64 d'.id)).setCell ⟨n', 1, none⟩ (.string d'.f)).setCell ⟨n', 2, none⟩ (.string d'.t)).setCell ⟨n', 3, none⟩ (.int .i64 d'.gen)).setCell ⟨n', 4, none⟩ s').setCell ⟨n', 5, none⟩ (.int .i64 d'.next)) /\ BoxD n' d' s' ((((((((((((((w1).setCell ⟨n, 0, none⟩ (.int .i64 d.id)).setCell ⟨n, 1, none⟩ (.string d.f)).setCell ⟨n, 2, none⟩ (.string d.t)).setCell ⟨n, 3, none⟩ (.int .i64 d.gen)).setCell ⟨n, 4, none⟩ s).setCell ⟨n, 5, none⟩ (.int .i64 d.next))).setCell ⟨n', 0, none⟩ (.int .i64 d'.id)).setCell ⟨n', 1, none⟩ (.string d'.f)).setCell ⟨n', 2, none⟩ (.string d'.t)).setCell ⟨n', 3, none⟩ (.int .i64 d'.gen)).setCell ⟨n', 4, none⟩ s').setCell ⟨n', 5, none⟩ (.int .i64 d'.next)) :=
 ⟨putW_box (n := n') (d := d') (s := s') (BoxD.put h d s) (fun e => hne e.symm), BoxD.put (putW_box (n := n) (d := d) (s := s) h' hne) d' s'⟩
theorem put2_fin {w1 : World} {n n' : Nat} {d0 d0' : De} {s0 s0' : Value} (fn : Func) (tmps : Array Value) (a a' b : Tmp) (v : Value) (h : BoxD n d0 s0 w1) (h' : BoxD n' d0' s0' w1) (hne : n ≠ n') (d d' : De) (s s' : Value)
  (hf : fn.results = #[.cell a 26, .cell a' 26, .tmp b]) (ht : tmps[a]?.getD undef = .pointer (some ⟨n, 0, none⟩)) (ht' : tmps[a']?.getD undef = .pointer (some ⟨n', 0, none⟩)) (hb : tmps[b]?.getD undef = v) :
  (results fn tmps).run Tryz.prog ((((((((((((((w1).setCell ⟨n, 0, none⟩ (.int .i64 d.id)).setCell ⟨n, 1, none⟩ (.string d.f)).setCell ⟨n, 2, none⟩ (.string d.t)).setCell ⟨n, 3, none⟩ (.int .i64 d.gen)).setCell ⟨n, 4, none⟩ s).setCell ⟨n, 5, none⟩ (.int .i64 d.next))).setCell ⟨n', 0, none⟩ (.int .i64 d'.id)).setCell ⟨n', 1, none⟩ (.string d'.f)).setCell ⟨n', 2, none⟩ (.string d'.t)).setCell ⟨n', 3, none⟩ (.int .i64 d'.gen)).setCell ⟨n', 4, none⟩ s').setCell ⟨n', 5, none⟩ (.int .i64 d'.next)) = .ok (.tuple #[dv d s, dv d' s', v]) ((((((((((((((w1).setCell ⟨n, 0, none⟩ (.int .i64 d.id)).setCell ⟨n, 1, none⟩ (.string d.f)).setCell ⟨n, 2, none⟩ (.string d.t)).setCell ⟨n, 3, none⟩ (.int .i64 d.gen)).setCell ⟨n, 4, none⟩ s).setCell ⟨n, 5, none⟩ (.int .i64 d.next))).setCell ⟨n', 0, none⟩ (.int .i64 d'.id)).setCell ⟨n', 1, none⟩ (.string d'.f)).setCell ⟨n', 2, none⟩ (.string d'.t)).setCell ⟨n', 3, none⟩ (.int .i64 d'.gen)).setCell ⟨n', 4, none⟩ s').setCell ⟨n', 5, none⟩ (.int .i64 d'.next)) :=
 res_box_box hf ht ht' hb (put2 h h' hne d d' s s').1 (put2 h h' hne d d' s s').2
theorem put2_fin2 {w1 : World} {n n' : Nat} {d0 d0' : De} {s0 s0' : Value} (fn : Func) (tmps : Array Value) (a a' b : Tmp) (v : Value) (o1 o2 : Obj) (h : BoxD n d0 s0 w1) (h' : BoxD n' d0' s0' w1) (hne : n ≠ n') (d d' : De) (s s' : Value)
  (hf : fn.results = #[.cell a 26, .cell a' 26, .tmp b]) (ht : tmps[a]?.getD undef = .pointer (some ⟨n, 0, none⟩)) (ht' : tmps[a']?.getD undef = .pointer (some ⟨n', 0, none⟩)) (hb : tmps[b]?.getD undef = v) :
  (results fn tmps).run Tryz.prog ((((((((((((((((w1).setCell ⟨n, 0, none⟩ (.int .i64 d.id)).setCell ⟨n, 1, none⟩ (.string d.f)).setCell ⟨n, 2, none⟩ (.string d.t)).setCell ⟨n, 3, none⟩ (.int .i64 d.gen)).setCell ⟨n, 4, none⟩ s).setCell ⟨n, 5, none⟩ (.int .i64 d.next))).setCell ⟨n', 0, none⟩ (.int .i64 d'.id)).setCell ⟨n', 1, none⟩ (.string d'.f)).setCell ⟨n', 2, none⟩ (.string d'.t)).setCell ⟨n', 3, none⟩ (.int .i64 d'.gen)).setCell ⟨n', 4, none⟩ s').setCell ⟨n', 5, none⟩ (.int .i64 d'.next)).alloc o1).alloc o2) = .ok (.tuple #[dv d s, dv d' s', v]) ((((((((((((((((w1).setCell ⟨n, 0, none⟩ (.int .i64 d.id)).setCell ⟨n, 1, none⟩ (.string d.f)).setCell ⟨n, 2, none⟩ (.string d.t)).setCell ⟨n, 3, none⟩ (.int .i64 d.gen)).setCell ⟨n, 4, none⟩ s).setCell ⟨n, 5, none⟩ (.int .i64 d.next))).setCell ⟨n', 0, none⟩ (.int .i64 d'.id)).setCell ⟨n', 1, none⟩ (.string d'.f)).setCell ⟨n', 2, none⟩ (.string d'.t)).setCell ⟨n', 3, none⟩ (.int .i64 d'.gen)).setCell ⟨n', 4, none⟩ s').setCell ⟨n', 5, none⟩ (.int .i64 d'.next)).alloc o1).alloc o2) :=
 res_box_box hf ht ht' hb (((put2 h h' hne d d' s s').1.alloc o1).alloc o2) (((put2 h h' hne d d' s s').2.alloc o1).alloc o2)
set_option maxHeartbeats 8000000 in
theorem split_any (d : De) (s : Value) (k : ByteArray) (n : Int) (w : World) (hl : ArgM w s d.ms) (fl : Fit d) (hk : k.size <= 140737488355328) :
  Calls Tryz.prog 121 #[dv d s, .string k, .int .i64 n] w fun e w' => Gave2 w (splitD d k n) e w' := by
 obtain ⟨A, c, rfl⟩ := hl.form
 have kl : ∀ w1, Below w.heap.size w w1 -> ArgM w1 (.slice A d.ms.length c) d.ms := fun w1 hb => hl.keep hb
 have c1 := fun w hs => check_any d (.slice A d.ms.length c) w hs (by have := fl.n; omega) fl.f fl.t
 have c2 := fun w => Bnd.cut_any d.f d.t k w fl.f fl.t hk
 have hcv : cutV d.f d.t k = if cutsB d.b k.toList = true then .tuple #[bd d.f k, bd k d.t, .int .i64 0] else .tuple #[bd E0 E0, bd E0 E0, .int .i64 20] := rfl
 rw [hcv] at c2
 clear hcv
 cases h1 : isD d with
 | false =>
  have hr : splitD d k n = (De.zero, De.zero, 60) := by unfold splitD; rw [if_neg (by simp [h1])]
  rw [hr]
  rw [chkD_no h1] at c1
  clear hr h1
  go_enter Tryz.func121, Tryz.ntmps121
  go_wp2_with fail
  refine (c1 _ (kl _ (by exact Ds.bex1)).sm).mono ?_
  rintro e w1 ⟨rfl, b1⟩
  obtain ⟨B0, B1, B2, hb⟩ := boxes4 d (.slice A d.ms.length c) b1
  obtain ⟨p_0, ⟨p_1, p_2, p_3, p_4, p_5, p_6⟩, p_7⟩ := id B1
  obtain ⟨q_0, ⟨q_1, q_2, q_3, q_4, q_5, q_6⟩, q_7⟩ := id B2
  clear b1
  go_wp2_with fail
  exact bodyPost_ret (put2_fin _ _ _ _ _ _ B1 B2 (by omega) De.zero De.zero (.slice none 0 0) (.slice none 0 0) Tryz.results121 rfl rfl rfl) rfl (Gave2.zero (by exact Ds.bex1))
 | true =>
  rw [chkD_yes h1] at c1
  cases h2 : cutsB d.b k.toList with
  | false =>
   have hr : splitD d k n = (De.zero, De.zero, 20) := by unfold splitD; rw [if_pos h1, if_neg (by simp [h2])]
   rw [hr]
   rw [h2] at c2
   simp only [Bool.false_eq_true, if_false] at c2
   clear hr h1 h2
   go_enter Tryz.func121, Tryz.ntmps121
   go_wp2_with fail
   refine (c1 _ (kl _ (by exact Ds.bex1)).sm).mono ?_
   rintro e w1 ⟨rfl, b1⟩
   obtain ⟨B0, B1, B2, hb⟩ := boxes4 d (.slice A d.ms.length c) b1
   obtain ⟨o_0, ⟨o_1, o_2, o_3, o_4, o_5, o_6⟩, o_7⟩ := id B0
   clear b1
   go_wp2_with fail
   refine (c2 _).mono ?_
   rintro e w2 ⟨rfl, b2⟩
   have C1 := B1.keep b2
   have C2 := B2.keep b2
   have hb2 : Below w.heap.size w w2 := hb.trans (b2.mono hb.size)
   have hz2 := hb2.size
   have hl1 : w.heap.size < w2.heap.size := by have := C2.1; omega
   have hl2 : w.heap.size + 1 < w2.heap.size := C1.1
   clear o_0 o_1 o_2 o_3 o_4 o_5 o_6 o_7
   obtain ⟨p_0, ⟨p_1, p_2, p_3, p_4, p_5, p_6⟩, p_7⟩ := id C1
   obtain ⟨q_0, ⟨q_1, q_2, q_3, q_4, q_5, q_6⟩, q_7⟩ := id C2
   clear b2
   go_wp2_with fail
   exact bodyPost_ret (put2_fin2 _ _ _ _ _ _ _ _ C1 C2 (by omega) De.zero De.zero (.slice none 0 0) (.slice none 0 0) Tryz.results121 rfl rfl rfl) rfl (Gave2.zero (by exact Ds.bex1))
  | true =>
   rw [h2] at c2
   simp only [if_true] at c2
   by_cases h3 : n <= d.id
   ·have hr : splitD d k n = (De.zero, De.zero, 2) := by unfold splitD; rw [if_pos h1, if_pos h2, if_pos h3]
    rw [hr]
    have n1 : (n <= d.id) = True := eq_true h3
    clear hr h1 h2 h3
    go_enter Tryz.func121, Tryz.ntmps121
    go_wp2_with fail
    refine (c1 _ (kl _ (by exact Ds.bex1)).sm).mono ?_
    rintro e w1 ⟨rfl, b1⟩
    obtain ⟨B0, B1, B2, hb⟩ := boxes4 d (.slice A d.ms.length c) b1
    obtain ⟨o_0, ⟨o_1, o_2, o_3, o_4, o_5, o_6⟩, o_7⟩ := id B0
    clear b1
    go_wp2_with fail
    refine (c2 _).mono ?_
    rintro e w2 ⟨rfl, b2⟩
    have C0 := B0.keep b2
    have C1 := B1.keep b2
    have C2 := B2.keep b2
    have hb2 : Below w.heap.size w w2 := hb.trans (b2.mono hb.size)
    have hz2 := hb2.size
    have hl1 : w.heap.size < w2.heap.size := by have := C2.1; omega
    have hl2 : w.heap.size + 1 < w2.heap.size := C1.1
    clear o_0 o_1 o_2 o_3 o_4 o_5 o_6 o_7
    obtain ⟨o_0, ⟨o_1, o_2, o_3, o_4, o_5, o_6⟩, o_7⟩ := id C0
    obtain ⟨p_0, ⟨p_1, p_2, p_3, p_4, p_5, p_6⟩, p_7⟩ := id C1
    obtain ⟨q_0, ⟨q_1, q_2, q_3, q_4, q_5, q_6⟩, q_7⟩ := id C2
    clear b2
    go_wp2_with fail
    exact bodyPost_ret (put2_fin2 _ _ _ _ _ _ _ _ C1 C2 (by omega) De.zero De.zero (.slice none 0 0) (.slice none 0 0) Tryz.results121 rfl rfl rfl) rfl (Gave2.zero (by exact Ds.bex1))
   ·have n1 : (n <= d.id) = False := eq_false h3
    have hgen := isD_gen h1
    obtain ⟨dr, hdr⟩ : ∃ dr, ({ d with gen := d.gen + 1 } : De) = dr := ⟨_, rfl⟩
    obtain ⟨L, hL⟩ : ∃ L, ({ d with t := k, gen := d.gen + 1 } : De) = L := ⟨_, rfl⟩
    obtain ⟨R, hR⟩ : ∃ R, ({ d with f := k, gen := d.gen + 1, id := n } : De) = R := ⟨_, rfl⟩
    obtain ⟨ans, hans⟩ : ∃ ans, splitD d k n = ans := ⟨_, rfl⟩
    have hr : ans = if isD L = true /\ isD R = true then (L, R, 0) else (De.zero, De.zero, 60) := by rw [<- hans, <- hL, <- hR]; unfold splitD; rw [if_pos h1, if_pos h2, if_neg h3]
    rw [hans]
    have HR := Lib.hid hr
    have hdms : dr.ms = d.ms := by rw [<- hdr]
    have cr : ∀ w1 (hv : ArgM w1 (.slice A d.ms.length c) d.ms), Calls Tryz.prog 136 #[dv d (.slice A d.ms.length c), .int .i64 d.gen] w1 fun e w' => ∃ s', e = .returned (dv dr s') /\ OwnM w' w1.heap.size s' dr.ms /\ Below w1.heap.size w1 w' := fun w1 hv => by rw [<- hdr]; exact raised_any d (.slice A d.ms.length c) d.gen w1 hv fl.n (by omega) (by omega)
    have HDR := Lib.hid hdr
    have HL := Lib.hid hL
    have HRR := Lib.hid hR
    clear hr h1 h2 h3 hans hdr hL hR
    go_enter Tryz.func121, Tryz.ntmps121
    go_wp2_with fail
    refine (c1 _ (kl _ (by exact Ds.bex1)).sm).mono ?_
    rintro e w1 ⟨rfl, b1⟩
    obtain ⟨B0, B1, B2, hb⟩ := boxes4 d (.slice A d.ms.length c) b1
    obtain ⟨o_0, ⟨o_1, o_2, o_3, o_4, o_5, o_6⟩, o_7⟩ := id B0
    clear b1
    go_wp2_with fail
    refine (c2 _).mono ?_
    rintro e w2 ⟨rfl, b2⟩
    have C0 := B0.keep b2
    have C1 := B1.keep b2
    have C2 := B2.keep b2
    have hb2 : Below w.heap.size w w2 := hb.trans (b2.mono hb.size)
    have hz2 := hb2.size
    have hl1 : w.heap.size < w2.heap.size := by have := C2.1; omega
    have hl2 : w.heap.size + 1 < w2.heap.size := C1.1
    have hk2 := kl _ hb2
    clear o_0 o_1 o_2 o_3 o_4 o_5 o_6 o_7
    obtain ⟨o_0, ⟨o_1, o_2, o_3, o_4, o_5, o_6⟩, o_7⟩ := id C0
    clear b2 B0 B1 B2
    go_wp2_with fail
    obtain ⟨W0, hW0⟩ : ∃ W0, (w2.alloc (.cells #[.string d.f, .string k] 23)).alloc (.cells #[.string k, .string d.t] 23) = W0 := ⟨_, rfl⟩
    have hb0 : Below w2.heap.size w2 W0 := hW0 ▸ (by exact Ds.bex1)
    have hw0 : Below w.heap.size w W0 := hb2.trans (hb0.mono hz2)
    have D0 := C0.kept (N := w2.heap.size) C0.1 hb0
    have D1 := C1.kept (N := w2.heap.size) C1.1 hb0
    have D2 := C2.kept (N := w2.heap.size) C2.1 hb0
    have x0 : W0.cell? ⟨w2.heap.size, 0, none⟩ = some (.string d.f) := by rw [<- hW0]; simp [go_sem]
    have x1 : W0.cell? ⟨w2.heap.size, 1, none⟩ = some (.string k) := by rw [<- hW0]; simp [go_sem]
    have x2 : W0.cell? ⟨w2.heap.size + 1, 0, none⟩ = some (.string k) := by rw [<- hW0]; simp [go_sem]
    have x3 : W0.cell? ⟨w2.heap.size + 1, 1, none⟩ = some (.string d.t) := by rw [<- hW0]; simp [go_sem]
    have hz0 : W0.heap.size = w2.heap.size + 2 := by rw [<- hW0]; simp
    have hdx : ∀ wx, Below W0.heap.size W0 wx -> BoxD w.heap.size d (.slice A d.ms.length c) wx := fun wx h => D0.keep h
    have hargx : ∀ wx, Below W0.heap.size W0 wx -> ArgM wx (.slice A d.ms.length c) d.ms := fun wx h => (kl W0 hw0).keep h
    rw [hW0]
    clear o_0 o_1 o_2 o_3 o_4 o_5 o_6 o_7
    clear hW0 hk2 C0 C1 C2
    refine St.wp_region_mixed (R8 W0 dr) (fun _ x => ∃ s, x = dv dr s /\ ∃ A c, s = .slice A dr.ms.length c) (by kernel_rfl) (by kernel_rfl) (by kernel_rfl) (R8.start W0 dr) ?_
    apply St.mix_give
    ·rfl
    ·intro L u' wx hS hcl hrd hag
     obtain ⟨j0, ⟨j1, j2, j3, j4, j5, j6⟩, j7⟩ := hdx wx (hS.b)
     go_simp
     try with_reducible rfl
    ·exact fun L u' wx hS => ⟨hS.b, hS.o3, hS.o7, hS.p8, hS.p9⟩
    simp only [Act.put, St.pu]
    apply St.mix_give
    ·rfl
    ·intro L u' wx hS hcl hrd hag
     go_simp
     try with_reducible rfl
    ·exact fun L u' wx hS => ⟨hS.b, hS.o3, hS.o7, hS.p8, hS.p9⟩
    simp only [Act.put, St.pu]
    apply St.mix_give
    ·rfl
    ·intro L u' wx hS hcl hrd hag
     obtain ⟨j0, ⟨j1, j2, j3, j4, j5, j6⟩, j7⟩ := hdx wx (hS.b)
     go_simp
     try with_reducible rfl
    ·exact fun L u' wx hS => ⟨hS.b, hS.o3, hS.o7, hS.p8, hS.p9⟩
    simp only [Act.put, St.pu]
    refine St.mix_call (f := 136) (args := #[dv d (.slice A d.ms.length c), .int .i64 d.gen]) rfl ?_ ?_ ?_
    ·intro wx
     go_simp
     try with_reducible rfl
    ·intro L u' wx hS hcl hrd hag
     have h7 := St.not_yet hcl hrd 40 7 (by kernel_rfl)
     refine (cr wx (hargx wx hS.b)).mono ?_
     rintro e w' ⟨s', rfl, ho, hb'⟩
     exact ⟨_, rfl, ⟨s', rfl, (SM.of_own ho).form⟩, hS.three h7 (St.not_yet hcl hrd 40 10 (by kernel_rfl)) (St.not_yet hcl hrd 40 11 (by kernel_rfl)) ho hb'⟩
    rintro x3 ⟨s3, rfl, A3, c3, rfl⟩
    simp only [Act.put, St.pu]
    apply St.mix_give
    ·rfl
    ·intro L u' wx hS hcl hrd hag
     obtain ⟨j0, ⟨j1, j2, j3, j4, j5, j6⟩, j7⟩ := hdx wx (hS.b)
     go_simp
     try with_reducible rfl
    ·exact fun L u' wx hS => ⟨hS.b, hS.o3, hS.o7, hS.p8, hS.p9⟩
    simp only [Act.put, St.pu]
    apply St.mix_give
    ·rfl
    ·intro L u' wx hS hcl hrd hag
     go_simp
     try with_reducible rfl
    ·exact fun L u' wx hS => ⟨hS.b, hS.o3, hS.o7, hS.p8, hS.p9⟩
    simp only [Act.put, St.pu]
    apply St.mix_give
    ·rfl
    ·intro L u' wx hS hcl hrd hag
     obtain ⟨j0, ⟨j1, j2, j3, j4, j5, j6⟩, j7⟩ := hdx wx (hS.b)
     go_simp
     try with_reducible rfl
    ·exact fun L u' wx hS => ⟨hS.b, hS.o3, hS.o7, hS.p8, hS.p9⟩
    simp only [Act.put, St.pu]
    refine St.mix_call (f := 136) (args := #[dv d (.slice A d.ms.length c), .int .i64 d.gen]) rfl ?_ ?_ ?_
    ·intro wx
     go_simp
     try with_reducible rfl
    ·intro L u' wx hS hcl hrd hag
     refine (cr wx (hargx wx hS.b)).mono ?_
     rintro e w' ⟨s', rfl, ho, hb'⟩
     exact ⟨_, rfl, ⟨s', rfl, (SM.of_own ho).form⟩, hS.seven (St.not_yet hcl hrd 40 10 (by kernel_rfl)) (St.not_yet hcl hrd 40 11 (by kernel_rfl)) ho hb'⟩
    rintro x7 ⟨s7, rfl, A7, c7, rfl⟩
    simp only [Act.put, St.pu]
    refine St.mix_free (fun x => ∃ n, x = ptr n) rfl ?_ ?_
    ·intro L u' wx hS hcl hrd hag
     refine ⟨_, _, ⟨wx.heap.size, rfl⟩, ?_, hS.eight (St.not_yet hcl hrd 40 10 (by kernel_rfl)) (St.not_yet hcl hrd 40 11 (by kernel_rfl))⟩
     go_simp
     try with_reducible rfl
    rintro y8 ⟨n8, rfl⟩
    simp only [Act.put, St.pu]
    refine St.mix_free (fun x => ∃ n, x = ptr n) rfl ?_ ?_
    ·intro L u' wx hS hcl hrd hag
     refine ⟨_, _, ⟨wx.heap.size, rfl⟩, ?_, hS.nine (St.not_yet hcl hrd 40 10 (by kernel_rfl)) (St.not_yet hcl hrd 40 11 (by kernel_rfl))⟩
     go_simp
     try with_reducible rfl
    rintro y9 ⟨n9, rfl⟩
    simp only [Act.put, St.pu]
    refine St.mix_skip rfl ?_ ?_
    ·intro L u' wx hS hcl hrd hag
     have hu8 : u' 8 = ptr n8 := hag 40 8 (by kernel_rfl)
     have hu3 : u' 3 = dv dr (.slice A3 dr.ms.length c3) := hag 40 3 (by kernel_rfl)
     have h8 := St.before_ready hcl hrd 40 8 (by kernel_rfl)
     have h3 := St.before_ready hcl hrd 40 3 (by kernel_rfl)
     obtain ⟨n', e8, hN, ⟨d', s', hB⟩, _⟩ := hS.p8 h8
     obtain rfl := ptr_inj (e8.symm.trans hu8)
     obtain ⟨j0, ⟨j1, j2, j3, j4, j5, j6⟩, j7⟩ := id hB
     refine ⟨_, ?_, hS.ten (St.not_yet hcl hrd 40 11 (by kernel_rfl)) h8 hu8 h3 hu3⟩
     unfold putW
     go_simp
     try with_reducible rfl
    simp only [Act.put]
    refine St.mix_skip rfl ?_ ?_
    ·intro L u' wx hS hcl hrd hag
     have hu8 : u' 9 = ptr n9 := hag 40 9 (by kernel_rfl)
     have hu3 : u' 7 = dv dr (.slice A7 dr.ms.length c7) := hag 40 7 (by kernel_rfl)
     have h8 := St.before_ready hcl hrd 40 9 (by kernel_rfl)
     have h3 := St.before_ready hcl hrd 40 7 (by kernel_rfl)
     obtain ⟨n', e8, hN, ⟨d', s', hB⟩, _⟩ := hS.p9 h8
     obtain rfl := ptr_inj (e8.symm.trans hu8)
     obtain ⟨j0, ⟨j1, j2, j3, j4, j5, j6⟩, j7⟩ := id hB
     refine ⟨_, ?_, hS.eleven h8 hu8 h3 hu3⟩
     unfold putW
     go_simp
     try with_reducible rfl
    simp only [Act.put]
    refine St.mix_last ?_
    intro L5 wx hS hall
    obtain ⟨s3', e3, o3, a38, a39⟩ := hS.o3 (hall 3 (by decide))
    obtain rfl : .slice A3 dr.ms.length c3 = s3' := dv_inj (show dv dr (.slice A3 dr.ms.length c3) = dv dr s3' from e3)
    obtain ⟨s7', e7, o7, a78, a79⟩ := hS.o7 (hall 7 (by decide))
    obtain rfl : .slice A7 dr.ms.length c7 = s7' := dv_inj (show dv dr (.slice A7 dr.ms.length c7) = dv dr s7' from e7)
    obtain ⟨n8', e8, hN8, _, p8, h89⟩ := hS.p8 (hall 8 (by decide))
    obtain rfl : n8 = n8' := ptr_inj (show ptr n8 = ptr n8' from e8)
    obtain ⟨n9', e9, hN9, _, p9⟩ := hS.p9 (hall 9 (by decide))
    obtain rfl : n9 = n9' := ptr_inj (show ptr n9 = ptr n9' from e9)
    have E8 : BoxD n8 dr (.slice A3 dr.ms.length c3) wx := p8 (hall 10 (by decide)) _ rfl
    have E9 : BoxD n9 dr (.slice A7 dr.ms.length c7) wx := p9 (hall 11 (by decide)) _ rfl
    have hne : n8 ≠ n9 := fun e => h89 (hall 9 (by decide)) (by rw [e]; rfl)
    have a38' := a38 (hall 8 (by decide)) n8 rfl
    have a39' := a39 (hall 9 (by decide)) n9 rfl
    have a78' := a78 (hall 8 (by decide)) n8 rfl
    have a79' := a79 (hall 9 (by decide)) n9 rfl
    have bx := hS.b
    have y0 := (bx.cell (p := ⟨w2.heap.size, 0, none⟩) (show w2.heap.size < W0.heap.size by omega)).trans x0
    have y1 := (bx.cell (p := ⟨w2.heap.size, 1, none⟩) (show w2.heap.size < W0.heap.size by omega)).trans x1
    have y2 := (bx.cell (p := ⟨w2.heap.size + 1, 0, none⟩) (show w2.heap.size + 1 < W0.heap.size by omega)).trans x2
    have y3 := (bx.cell (p := ⟨w2.heap.size + 1, 1, none⟩) (show w2.heap.size + 1 < W0.heap.size by omega)).trans x3
    have F1 := D1.kept (N := W0.heap.size) D1.1 bx
    have F2 := D2.kept (N := W0.heap.size) D2.1 bx
    have hz8 := E8.1
    have hz9 := E9.1
    clear hS hall e3 e7 e8 e9 p8 p9 h89 a38 a39 a78 a79 x0 x1 x2 x3 hdx hargx cr
    have hdr := HDR.out
    subst hdr
    simp only at E8 E9 o3 o7 a38' a39' a78' a79'
    obtain ⟨W5, hW5⟩ : ∃ W5, (((((wx.setCell ⟨n8, 1, none⟩ (.string d.f)).setCell ⟨n8, 2, none⟩ (.string k)).setCell ⟨n9, 1, none⟩ (.string k)).setCell ⟨n9, 2, none⟩ (.string d.t)).setCell ⟨n9, 0, none⟩ (.int .i64 n)) = W5 := ⟨_, rfl⟩
    have G8 : BoxD n8 L (.slice A3 d.ms.length c3) W5 := by
     rw [<- hW5, <- HL.out]
     refine ((BoxD.other ?_ (fun e => hne e.symm) _).other (fun e => hne e.symm) _).other (fun e => hne e.symm) _
     exact E8.set12 d.f k
    have G9 : BoxD n9 R (.slice A7 d.ms.length c7) W5 := by
     rw [<- hW5, <- HRR.out]
     have h1 := ((E9.other (a := ⟨n8, 1, none⟩) hne (.string d.f)).other (a := ⟨n8, 2, none⟩) hne (.string k)).set12 k d.t
     obtain ⟨h0, ⟨g1, g2, g3, g4, g5, g6⟩, hf⟩ := h1
     refine ⟨by simpa using h0, ⟨?_, ?_, ?_, ?_, ?_, ?_⟩, fun o => by rw [World.frozen?_setCell]; exact hf o⟩
     all_goals simp [go_sem, g1, g2, g3, g4, g5, g6]
    have r8 : OwnM W5 W0.heap.size (.slice A3 d.ms.length c3) d.ms := by
     rw [<- hW5]
     exact own_other (own_other (own_other (own_other (own_other o3 (a := ⟨n8, 1, none⟩) a38' _) (a := ⟨n8, 2, none⟩) a38' _) (a := ⟨n9, 1, none⟩) a39' _) (a := ⟨n9, 2, none⟩) a39' _) (a := ⟨n9, 0, none⟩) a39' _
    have r9 : OwnM W5 W0.heap.size (.slice A7 d.ms.length c7) d.ms := by
     rw [<- hW5]
     exact own_other (own_other (own_other (own_other (own_other o7 (a := ⟨n8, 1, none⟩) a78' _) (a := ⟨n8, 2, none⟩) a78' _) (a := ⟨n9, 1, none⟩) a79' _) (a := ⟨n9, 2, none⟩) a79' _) (a := ⟨n9, 0, none⟩) a79' _
    have b5 : Below W0.heap.size W0 W5 := by
     rw [<- hW5]
     exact ((((bx.setCell (p := ⟨n8, 1, none⟩) hN8 _).setCell (p := ⟨n8, 2, none⟩) hN8 _).setCell (p := ⟨n9, 1, none⟩) hN9 _).setCell (p := ⟨n9, 2, none⟩) hN9 _).setCell (p := ⟨n9, 0, none⟩) hN9 _
    have K1 := D1.kept (N := W0.heap.size) D1.1 b5
    have K2 := D2.kept (N := W0.heap.size) D2.1 b5
    have hw5 : Below w.heap.size w W5 := hw0.trans (b5.mono (by omega))
    have t1 : (n8 = n9) = False := eq_false hne
    have t2 : (n9 = n8) = False := eq_false (fun e => hne e.symm)
    have t3 : (w2.heap.size + 1 = n8) = False := eq_false (by omega)
    have t4 : (n8 = w2.heap.size + 1) = False := eq_false (by omega)
    have H5 := Lib.hid hW5
    have G8' := Lib.hid G8
    have G9' := Lib.hid G9
    obtain ⟨o_0, ⟨o_1, o_2, o_3, o_4, o_5, o_6⟩, o_7⟩ := id E8
    obtain ⟨p_0, ⟨p_1, p_2, p_3, p_4, p_5, p_6⟩, p_7⟩ := id E9
    clear hW5 G8 G9 F1 F2 D0 D1 D2 o3 o7
    have cL : ∀ w1, SM w1 w1.heap.size (.slice A3 d.ms.length c3) d.ms -> Calls Tryz.prog 84 #[.agg #[.int .i64 d.id, .string d.f, .string k, .int .i64 (d.gen + 1), .slice A3 d.ms.length c3, .int .i64 d.next]] w1 fun e w' => e = .returned (.int .i64 (chkD L)) /\ Below w1.heap.size w1 w' := by
     intro w1 hs
     have h := check_any L (.slice A3 d.ms.length c3) w1 (by rw [<- HL.out]; exact hs) (by rw [<- HL.out]; have := fl.n; show d.ms.length <= _; omega) (by rw [<- HL.out]; exact fl.f) (by rw [<- HL.out]; exact hk)
     have e : dv L (.slice A3 d.ms.length c3) = .agg #[.int .i64 d.id, .string d.f, .string k, .int .i64 (d.gen + 1), .slice A3 d.ms.length c3, .int .i64 d.next] := by rw [<- HL.out]
     rw [e] at h; exact h
    have cR : ∀ w1, SM w1 w1.heap.size (.slice A7 d.ms.length c7) d.ms -> Calls Tryz.prog 84 #[.agg #[.int .i64 n, .string k, .string d.t, .int .i64 (d.gen + 1), .slice A7 d.ms.length c7, .int .i64 d.next]] w1 fun e w' => e = .returned (.int .i64 (chkD R)) /\ Below w1.heap.size w1 w' := by
     intro w1 hs
     have h := check_any R (.slice A7 d.ms.length c7) w1 (by rw [<- HRR.out]; exact hs) (by rw [<- HRR.out]; have := fl.n; show d.ms.length <= _; omega) (by rw [<- HRR.out]; exact hk) (by rw [<- HRR.out]; exact fl.t)
     have e : dv R (.slice A7 d.ms.length c7) = .agg #[.int .i64 n, .string k, .string d.t, .int .i64 (d.gen + 1), .slice A7 d.ms.length c7, .int .i64 d.next] := by rw [<- HRR.out]
     rw [e] at h; exact h
    have R8' := Lib.hid r8
    have R9' := Lib.hid r9
    clear r8 r9
    have hnn : n8 ≠ w.heap.size + 1 /\ n9 ≠ w.heap.size + 1 /\ n8 ≠ w.heap.size + 1 + 1 /\ n9 ≠ w.heap.size + 1 + 1 := ⟨by omega, by omega, by omega, by omega⟩
    cases hLd : isD L with
    | false =>
     have hA := Lib.hid (show ans = (De.zero, De.zero, 60) by rw [HR.out, if_neg (by simp [hLd])])
     rw [chkD_no hLd] at cL
     clear hLd cR
     go_wp2_with fail
     rw [H5.out]
     refine (cL _ (SM.of_own R8'.out)).mono ?_
     rintro e w6 ⟨rfl, b6⟩
     have M1 := K1.keep b6
     have M2 := K2.keep b6
     have hb6 : Below w.heap.size w w6 := hw5.trans (b6.mono hw5.size)
     clear o_0 o_1 o_2 o_3 o_4 o_5 o_6 o_7
     clear p_0 p_1 p_2 p_3 p_4 p_5 p_6 p_7
     obtain ⟨p_0, ⟨p_1, p_2, p_3, p_4, p_5, p_6⟩, p_7⟩ := id M1
     obtain ⟨q_0, ⟨q_1, q_2, q_3, q_4, q_5, q_6⟩, q_7⟩ := id M2
     clear b6 cL y0 y1 y2 y3
     go_wp2_with fail
     exact bodyPost_ret (put2_fin _ _ _ _ _ _ M1 M2 (by omega) De.zero De.zero (.slice none 0 0) (.slice none 0 0) Tryz.results121 rfl rfl rfl) rfl (by rw [hA.out]; exact Gave2.zero (by exact Ds.bex1))
    | true =>
     rw [chkD_yes hLd] at cL
     cases hRd : isD R with
     | false =>
      have hA := Lib.hid (show ans = (De.zero, De.zero, 60) by rw [HR.out, if_neg (by simp [hRd])])
      rw [chkD_no hRd] at cR
      clear hLd hRd
      go_wp2_with fail
      rw [H5.out]
      refine (cL _ (SM.of_own R8'.out)).mono ?_
      rintro e w6 ⟨rfl, b6⟩
      have M1 := K1.keep b6
      have M2 := K2.keep b6
      have M9 := G9'.out.keep b6
      have r9 := own_keep R9'.out b6
      have hb6 : Below w.heap.size w w6 := hw5.trans (b6.mono hw5.size)
      rw [<- HRR.out] at M9
      clear o_0 o_1 o_2 o_3 o_4 o_5 o_6 o_7
      clear p_0 p_1 p_2 p_3 p_4 p_5 p_6 p_7
      obtain ⟨o_0, ⟨o_1, o_2, o_3, o_4, o_5, o_6⟩, o_7⟩ := id M9
      simp only at o_1 o_2 o_3 o_4 o_5 o_6
      have R9 := Lib.hid r9
      clear b6 cL y0 y1 y2 y3 r9
      go_wp2_with fail
      refine (cR _ (SM.of_own R9.out)).mono ?_
      rintro e w7 ⟨rfl, b7⟩
      have N1 := M1.keep b7
      have N2 := M2.keep b7
      have hb7 : Below w.heap.size w w7 := hb6.trans (b7.mono hb6.size)
      clear o_0 o_1 o_2 o_3 o_4 o_5 o_6 o_7
      obtain ⟨p_0, ⟨p_1, p_2, p_3, p_4, p_5, p_6⟩, p_7⟩ := id N1
      obtain ⟨q_0, ⟨q_1, q_2, q_3, q_4, q_5, q_6⟩, q_7⟩ := id N2
      clear b7 cR
      go_wp2_with fail
      exact bodyPost_ret (put2_fin _ _ _ _ _ _ N1 N2 (by omega) De.zero De.zero (.slice none 0 0) (.slice none 0 0) Tryz.results121 rfl rfl rfl) rfl (by rw [hA.out]; exact Gave2.zero (by exact Ds.bex1))
     | true =>
      have hA := Lib.hid (show ans = (L, R, 0) by rw [HR.out, if_pos ⟨hLd, hRd⟩])
      rw [chkD_yes hRd] at cR
      clear hLd hRd
      go_wp2_with fail
      rw [H5.out]
      refine (cL _ (SM.of_own R8'.out)).mono ?_
      rintro e w6 ⟨rfl, b6⟩
      have M1 := K1.keep b6
      have M2 := K2.keep b6
      have M8 := G8'.out.keep b6
      have M9 := G9'.out.keep b6
      have r8 := own_keep R8'.out b6
      have r9 := own_keep R9'.out b6
      have hb6 : Below w.heap.size w w6 := hw5.trans (b6.mono hw5.size)
      rw [<- HRR.out] at M9
      rw [<- HL.out] at M8
      clear o_0 o_1 o_2 o_3 o_4 o_5 o_6 o_7
      clear p_0 p_1 p_2 p_3 p_4 p_5 p_6 p_7
      obtain ⟨o_0, ⟨o_1, o_2, o_3, o_4, o_5, o_6⟩, o_7⟩ := id M9
      simp only at o_1 o_2 o_3 o_4 o_5 o_6
      have R8 := Lib.hid r8
      have R9 := Lib.hid r9
      clear b6 cL y0 y1 y2 y3 r8 r9
      go_wp2_with fail
      refine (cR _ (SM.of_own R9.out)).mono ?_
      rintro e w7 ⟨rfl, b7⟩
      have N1 := M1.keep b7
      have N2 := M2.keep b7
      have N8 := M8.keep b7
      have N9 := M9.keep b7
      have r8 := own_keep R8.out b7
      have r9 := own_keep R9.out b7
      have hb7 : Below w.heap.size w w7 := hb6.trans (b7.mono hb6.size)
      clear o_0 o_1 o_2 o_3 o_4 o_5 o_6 o_7
      obtain ⟨p_0, ⟨p_1, p_2, p_3, p_4, p_5, p_6⟩, p_7⟩ := id N1
      obtain ⟨q_0, ⟨q_1, q_2, q_3, q_4, q_5, q_6⟩, q_7⟩ := id N2
      obtain ⟨o_0, ⟨o_1, o_2, o_3, o_4, o_5, o_6⟩, o_7⟩ := id N8
      obtain ⟨m_0, ⟨m_1, m_2, m_3, m_4, m_5, m_6⟩, m_7⟩ := id N9
      simp only at o_1 o_2 o_3 o_4 o_5 o_6 m_1 m_2 m_3 m_4 m_5 m_6
      have R8 := Lib.hid r8
      have R9 := Lib.hid r9
      clear b7 cR r8 r9
      go_wp2_with fail
      obtain ⟨l, hl'⟩ : ∃ l : De, l = ⟨d.id, d.f, k, d.gen + 1, d.ms, d.next⟩ := ⟨_, rfl⟩
      obtain ⟨r, hr'⟩ : ∃ r : De, r = ⟨n, k, d.t, d.gen + 1, d.ms, d.next⟩ := ⟨_, rfl⟩
      have N8' : BoxD n8 l (.slice A3 d.ms.length c3) w7 := by rw [hl']; exact N8
      have N9' : BoxD n9 r (.slice A7 d.ms.length c7) w7 := by rw [hr']; exact N9
      refine St.wp_region_mixed (fun L _ wx => R13 w7 (w.heap.size + 1) (w.heap.size + 1 + 1) l r (.slice A3 d.ms.length c3) (.slice A7 d.ms.length c7) L wx) (fun _ _ => False) (by kernel_rfl) (by kernel_rfl) (by kernel_rfl) ⟨fun _ => rfl, fun h => (by cases h), fun h => (by cases h)⟩ ?_
      apply St.mix_give
      ·rfl
      ·intro L u' wx hS hcl hrd hag
       obtain rfl := hS.a (St.not_yet hcl hrd 40 2 (by kernel_rfl))
       go_simp
       try with_reducible rfl
      ·exact fun L u' wx hS => ⟨hS.a, hS.b, hS.c⟩
      simp only [Act.put, St.pu]
      apply St.mix_give
      ·rfl
      ·intro L u' wx hS hcl hrd hag
       have h3 := St.not_yet hcl hrd 40 3 (by kernel_rfl)
       have hB : BoxD n9 r (.slice A7 d.ms.length c7) wx := by
        cases h2 : L 2 with
        | false => rw [hS.a h2]; exact N9'.drew
        | true => rw [hS.b h2 h3]; exact putW_box N9'.drew (by omega)
       rw [hr'] at hB
       obtain ⟨v0, ⟨v1, v2, v3, v4, v5, v6⟩, v7⟩ := hB
       simp only at v1 v2 v3 v4 v5 v6
       go_simp
       try with_reducible rfl
      ·exact fun L u' wx hS => ⟨hS.a, hS.b, hS.c⟩
      simp only [Act.put, St.pu]
      refine St.mix_skip rfl ?_ ?_
      ·intro L u' wx hS hcl hrd hag
       have h3 := St.not_yet hcl hrd 40 3 (by kernel_rfl)
       obtain rfl := hS.a hrd.1
       refine ⟨_, ?_, ⟨fun h => (by simp [St.mark] at h), fun _ _ => rfl, fun h => (by rw [show St.mark L 2 3 = L 3 from rfl, h3] at h; cases h)⟩⟩
       unfold putW
       rw [hl']
       go_simp
       try with_reducible rfl
      simp only [Act.put]
      refine St.mix_skip rfl ?_ ?_
      ·intro L u' wx hS hcl hrd hag
       have h2 := St.before_ready hcl hrd 40 2 (by kernel_rfl)
       have hB : BoxD (w.heap.size + 1 + 1) De.zero (.slice none 0 0) wx := by rw [hS.b h2 hrd.1]; exact putW_box N2.drew (by omega)
       obtain ⟨v0, ⟨v1, v2, v3, v4, v5, v6⟩, v7⟩ := hB
       refine ⟨putW wx (w.heap.size + 1 + 1) r (.slice A7 d.ms.length c7), ?_, ⟨fun h => (by rw [show St.mark L 3 2 = L 2 from rfl, h2] at h; cases h), fun _ h => (by simp [St.mark] at h), fun _ => by rw [hS.b h2 hrd.1]⟩⟩
       unfold putW
       rw [hr']
       go_simp
       try with_reducible rfl
      simp only [Act.put]
      apply St.mix_give
      ·rfl
      ·intro L u' wx hS hcl hrd hag
       go_simp
       try with_reducible rfl
      ·exact fun L u' wx hS => ⟨hS.a, hS.b, hS.c⟩
      simp only [Act.put, St.pu]
      refine St.mix_last ?_
      intro L8 wx hS hall
      obtain rfl := hS.c (hall 3 (by decide))
      have F1 : BoxD (w.heap.size + 1) l (.slice A3 d.ms.length c3) (putW (putW w7.drew (w.heap.size + 1) l (.slice A3 d.ms.length c3)) (w.heap.size + 1 + 1) r (.slice A7 d.ms.length c7)) := putW_box (BoxD.put N1.drew l _) (by omega)
      have F2 : BoxD (w.heap.size + 1 + 1) r (.slice A7 d.ms.length c7) (putW (putW w7.drew (w.heap.size + 1) l (.slice A3 d.ms.length c3)) (w.heap.size + 1 + 1) r (.slice A7 d.ms.length c7)) := BoxD.put (putW_box N2.drew (by omega)) r _
      have q8 : OwnM (putW (putW w7.drew (w.heap.size + 1) l (.slice A3 d.ms.length c3)) (w.heap.size + 1 + 1) r (.slice A7 d.ms.length c7)) W0.heap.size (.slice A3 d.ms.length c3) d.ms := putW_own (putW_own (own_drew R8.out) (own_apart (own_drew R8.out) (.inl (by omega)))) (own_apart (own_drew R8.out) (.inl (by omega)))
      have q9 : OwnM (putW (putW w7.drew (w.heap.size + 1) l (.slice A3 d.ms.length c3)) (w.heap.size + 1 + 1) r (.slice A7 d.ms.length c7)) W0.heap.size (.slice A7 d.ms.length c7) d.ms := putW_own (putW_own (own_drew R9.out) (own_apart (own_drew R9.out) (.inl (by omega)))) (own_apart (own_drew R9.out) (.inl (by omega)))
      have hbF : Below w.heap.size w (putW (putW w7.drew (w.heap.size + 1) l (.slice A3 d.ms.length c3)) (w.heap.size + 1 + 1) r (.slice A7 d.ms.length c7)) := putW_below (putW_below hb7.drew (by omega)) (by omega)
      have hLl : L = l := by rw [<- HL.out, hl']
      have hRr : R = r := by rw [<- HRR.out, hr']
      obtain ⟨WF, hWF⟩ : ∃ WF, putW (putW w7.drew (w.heap.size + 1) l (.slice A3 d.ms.length c3)) (w.heap.size + 1 + 1) r (.slice A7 d.ms.length c7) = WF := ⟨_, rfl⟩
      rw [hWF] at F1 F2 q8 q9 hbF ⊢
      clear hS hall hWF
      clear o_0 o_1 o_2 o_3 o_4 o_5 o_6 o_7
      clear m_0 m_1 m_2 m_3 m_4 m_5 m_6 m_7
      clear p_0 p_1 p_2 p_3 p_4 p_5 p_6 p_7
      clear q_0 q_1 q_2 q_3 q_4 q_5 q_6 q_7
      go_wp2_with fail
      refine bodyPost_ret (res_box_box Tryz.results121 rfl rfl rfl F1 F2) rfl ?_
      rw [hA.out, hLl, hRr]
      refine ⟨_, _, rfl, ?_, ?_, hbF⟩
      ·rw [hl']; exact ArgM.of_own q8
      ·rw [hr']; exact ArgM.of_own q9
end Go.Proofs.YthcmnkmfhgoddaaGreatDoor.Ds

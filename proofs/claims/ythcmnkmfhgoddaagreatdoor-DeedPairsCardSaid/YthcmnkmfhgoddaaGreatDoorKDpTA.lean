/-
  Two boxes of plots, made in either order, written in part, read, and written anew: what Cut needs, the program's and the document's. No condition.
  What the document says follows, of plots, reckoned without a program: what was cut, and joined again, has the pairs and the keys that it had; pages of a scan are the scan. No condition.
  Cut, the program's. Conditions: a plot that may be, of at most 100,000 pairs; texts of at most 2^47 bytes.
  A result's box that is still empty: what is held lies elsewhere, and stays while the box is written. No condition.
-/
import Derived.Test.YthcmnkmfhgoddaaGreatDoorKDpOA
import Derived.Test.YthcmnkmfhgoddaaGreatDoorKDsASA
import Derived.Test.YthcmnkmfhgoddaaGreatDoorKDpMA
import Derived.Test.YthcmnkmfhgoddaaGreatDoorKDpBGA
namespace Go.Proofs.YthcmnkmfhgoddaaGreatDoor.Dp
open Go.RowKit Bnd
open Go.Proofs.YthcmnkmfhgoddaaGreatDoor.Ds (De SM OwnI OwnM ArgM ptr ptr_inj)
open Go.Proofs.YthcmnkmfhgoddaaGreatDoor.Ss (Ses Zs ses SZ PZ NoP OwnZ ArgZ)
open Go.Proofs.YthcmnkmfhgoddaaGreatDoor.Od (Pr SP OwnP ArgP)
theorem BoxP.of_qv {n : Nat} {a b : Ph} {w : World} (h : qv a = qv b) (hb : BoxP n a w) : BoxP n b w := by
 injection h with h
 simp only [Array.mk.injEq, List.cons.injEq, Value.int.injEq, Value.string.injEq, Value.bool.injEq, true_and, and_true] at h
 obtain ⟨h1, h2, h3, h4, h5, h6, h7, h8, h9, h10, h11⟩ := h
 obtain ⟨k0, ⟨k1, k2, k3, k4, k5, k6, k7, k8, k9, k10, k11⟩, kf⟩ := hb
 exact ⟨k0, ⟨h1 ▸ k1, h2 ▸ k2, h3 ▸ k3, h4 ▸ k4, h5 ▸ k5, h6 ▸ k6, h7 ▸ k7, h8 ▸ k8, h9 ▸ k9, h10 ▸ k10, h11 ▸ k11⟩, kf⟩
structure PS (W0 : World) (o : Ph) (L : Nat -> Bool) (u : Nat -> Value) (wx : World) : Prop where
 b : Below W0.heap.size W0 wx
 p : L 2 = true -> ∃ n, u 2 = ptr n /\ W0.heap.size <= n /\ (∃ o', BoxP n o' wx) /\ (L 4 = true -> BoxP n o wx) /\ (L 3 = true -> u 3 ≠ ptr n)
 q : L 3 = true -> ∃ n, u 3 = ptr n /\ W0.heap.size <= n /\ (∃ o', BoxP n o' wx) /\ (L 5 = true -> BoxP n o wx)
theorem PS.two {W0 wx : World} {o : Ph} {L : Nat -> Bool} {u : Nat -> Value} (h : PS W0 o L u wx) (h4 : L 4 = false) :
  PS W0 o (St.mark L 2) (St.upd u 2 (ptr wx.heap.size)) (wx.alloc (.cells #[.int .i64 0, .string ⟨#[]⟩, .string ⟨#[]⟩, .int .i64 0, .slice none 0 0, .int .i64 0, .slice none 0 0, .slice none 0 0, .bool false, .slice none 0 0, .int .i64 0] 38)) := by
 have f3 : St.upd u 2 (ptr wx.heap.size) 3 = u 3 := by simp [St.upd]
 refine ⟨h.b.alloc h.b.size _, fun _ => ⟨wx.heap.size, by simp [St.upd], h.b.size, ⟨_, BoxP.zero wx⟩, fun h' => ?_, fun h3 => ?_⟩, fun h3 => ?_⟩
 ·rw [show St.mark L 2 4 = L 4 from rfl, h4] at h'; cases h'
 ·rw [f3]
  obtain ⟨n, e, _, ⟨_, hB⟩, _⟩ := h.q h3
  rw [e]
  intro e'
  have := ptr_inj e'
  have := hB.1
  omega
 ·obtain ⟨n, e, e2, ⟨o', hB⟩, e5⟩ := h.q h3
  exact ⟨n, f3.trans e, e2, ⟨o', hB.alloc _⟩, fun h5 => (e5 h5).alloc _⟩
theorem PS.three {W0 wx : World} {o : Ph} {L : Nat -> Bool} {u : Nat -> Value} (h : PS W0 o L u wx) (h5 : L 5 = false) :
  PS W0 o (St.mark L 3) (St.upd u 3 (ptr wx.heap.size)) (wx.alloc (.cells #[.int .i64 0, .string ⟨#[]⟩, .string ⟨#[]⟩, .int .i64 0, .slice none 0 0, .int .i64 0, .slice none 0 0, .slice none 0 0, .bool false, .slice none 0 0, .int .i64 0] 38)) := by
 have f2 : St.upd u 3 (ptr wx.heap.size) 2 = u 2 := by simp [St.upd]
 refine ⟨h.b.alloc h.b.size _, fun h2 => ?_, fun _ => ⟨wx.heap.size, by simp [St.upd], h.b.size, ⟨_, BoxP.zero wx⟩, fun h' => ?_⟩⟩
 ·obtain ⟨n, e, e2, ⟨o', hB⟩, e4, _⟩ := h.p h2
  refine ⟨n, f2.trans e, e2, ⟨o', hB.alloc _⟩, fun h4 => (e4 h4).alloc _, fun _ e' => ?_⟩
  have e' : ptr wx.heap.size = ptr n := by simpa [St.upd] using e'
  have := ptr_inj e'
  have := hB.1
  omega
 ·rw [show St.mark L 3 5 = L 5 from rfl, h5] at h'; cases h'
theorem PS.four {W0 wx : World} {o : Ph} {L : Nat -> Bool} {u : Nat -> Value} (h : PS W0 o L u wx) {n : Nat} (h2 : L 2 = true) (hu : u 2 = ptr n) :
  PS W0 o (St.mark L 4) (St.upd u 4 undef) (putW wx n o) := by
 obtain ⟨n', e, e2, ⟨o', hB⟩, _, e3⟩ := h.p h2
 obtain rfl := ptr_inj (e.symm.trans hu)
 refine ⟨putW_below o e2 h.b, fun _ => ⟨n', by simp [St.upd, e], e2, ⟨_, BoxP.put hB o⟩, fun _ => BoxP.put hB o, fun h3 => by simpa [St.upd] using e3 h3⟩, fun h3 => ?_⟩
 obtain ⟨m, g1, g2, ⟨_, g3⟩, g4⟩ := h.q h3
 have hne : n' ≠ m := fun e' => e3 h3 (by rw [g1, e'])
 exact ⟨m, by simp [St.upd, g1], g2, ⟨_, BoxP.putW g3 o hne⟩, fun h5 => BoxP.putW (g4 h5) o hne⟩
theorem PS.five {W0 wx : World} {o : Ph} {L : Nat -> Bool} {u : Nat -> Value} (h : PS W0 o L u wx) {n : Nat} (h3 : L 3 = true) (hu : u 3 = ptr n) :
  PS W0 o (St.mark L 5) (St.upd u 5 undef) (putW wx n o) := by
 obtain ⟨n', e, e2, ⟨o', hB⟩, _⟩ := h.q h3
 obtain rfl := ptr_inj (e.symm.trans hu)
 refine ⟨putW_below o e2 h.b, fun h2 => ?_, fun _ => ⟨n', by simp [St.upd, e], e2, ⟨_, BoxP.put hB o⟩, fun _ => BoxP.put hB o⟩⟩
 obtain ⟨m, g1, g2, ⟨_, g3⟩, g4, g5⟩ := h.p h2
 have hne : n' ≠ m := fun e' => g5 h3 (by rw [e, e'])
 exact ⟨m, by simp [St.upd, g1], g2, ⟨_, BoxP.putW g3 o hne⟩, fun h5 => BoxP.putW (g4 h5) o hne, fun h3 => by simpa [St.upd] using g5 h3⟩
theorem BoxP.desc {n : Nat} {o : Ph} {w1 : World} (h : BoxP n o w1) (d : De) (s : Value) :
  BoxP n { o with d := d, sm := s } (World.setCell (World.setCell (World.setCell (World.setCell (World.setCell (World.setCell w1 ⟨n, 0, none⟩ (.int .i64 d.id)) ⟨n, 1, none⟩ (.string d.f)) ⟨n, 2, none⟩ (.string d.t)) ⟨n, 3, none⟩ (.int .i64 d.gen)) ⟨n, 4, none⟩ s) ⟨n, 5, none⟩ (.int .i64 d.next)) := by
 obtain ⟨h0, ⟨h1, h2, h3, h4, h5, h6, h7, h8, h9, h10, h11⟩, hf⟩ := h
 refine ⟨by simpa using h0, ⟨?_, ?_, ?_, ?_, ?_, ?_, ?_, ?_, ?_, ?_, ?_⟩, fun o => by simp [World.frozen?_setCell, hf]⟩
 all_goals simp [go_sem, h1, h2, h3, h4, h5, h6, h7, h8, h9, h10, h11]
abbrev putD (w1 : World) (n : Nat) (d : De) (s : Value) : World := World.setCell (World.setCell (World.setCell (World.setCell (World.setCell (World.setCell w1 ⟨n, 0, none⟩ (.int .i64 d.id)) ⟨n, 1, none⟩ (.string d.f)) ⟨n, 2, none⟩ (.string d.t)) ⟨n, 3, none⟩ (.int .i64 d.gen)) ⟨n, 4, none⟩ s) ⟨n, 5, none⟩ (.int .i64 d.next)
theorem putD_below {N n : Nat} {w0 w1 : World} {d : De} {s : Value} (h : Below N w0 w1) (hn : N <= n) : Below N w0 (putD w1 n d s) := by
 iterate 6 (refine Below.setCell ?_ hn _)
 exact h
theorem putD_box {n m : Nat} {o0 : Ph} {w1 : World} {d : De} {s : Value} (h : BoxP n o0 w1) (hn : m ≠ n) : BoxP n o0 (putD w1 m d s) := by
 iterate 6 (refine BoxP.other ?_ hn _)
 exact h
theorem BoxP.set10 {n : Nat} {o : Ph} {w1 : World} (h : BoxP n o w1) (x : Int) : BoxP n { o with al := x } (w1.setCell ⟨n, 10, none⟩ (.int .i64 x)) := by
 obtain ⟨h0, ⟨h1, h2, h3, h4, h5, h6, h7, h8, h9, h10, h11⟩, hf⟩ := h
 refine ⟨by simpa using h0, ⟨?_, ?_, ?_, ?_, ?_, ?_, ?_, ?_, ?_, ?_, ?_⟩, fun o => by simp [World.frozen?_setCell, hf]⟩
 all_goals simp [go_sem, h1, h2, h3, h4, h5, h6, h7, h8, h9, h10, h11]
structure PT (N : Nat) (W : World) (n8 n9 : Nat) (x y : Ph) (wx : World) : Prop where
 b : Below N W wx
 x : BoxP n8 x wx
 y : BoxP n9 y wx
def half (o : Ph) (d : De) (s : Value) (ps : List Pr) (sp : Value) (a b : Bool) : Ph := ⟨bif a then d else o.d, bif a then s else o.sm, bif b then ps else o.ps, bif b then sp else o.sp, o.zs, o.sz, o.fr, o.ea, o.se, o.al⟩
theorem res_BoxP2 {fn : Func} {a a' b : Tmp} {tmps : Array Value} {n n' : Nat} {o o' : Ph} {v : Value} {w1 : World} (hf : fn.results = #[.cell a 38, .cell a' 38, .tmp b]) (ht : tmps[a]?.getD undef = .pointer (some ⟨n, 0, none⟩)) (ht' : tmps[a']?.getD undef = .pointer (some ⟨n', 0, none⟩)) (hb : tmps[b]?.getD undef = v) (h : BoxP n o w1) (h' : BoxP n' o' w1) : (results fn tmps).run Tryz.prog w1 = .ok (.tuple #[qv o, qv o', v]) w1 := by
 have h1 := Tryz.isAgg38
 have h2 := Tryz.sizeOf38
 obtain ⟨_, ⟨c1, c2, c3, c4, c5, c6, c7, c8, c9, c10, c11⟩, _⟩ := h
 obtain ⟨_, ⟨d1, d2, d3, d4, d5, d6, d7, d8, d9, d10, d11⟩, _⟩ := h'
 simp [results, hf, go_sem, ht, ht', hb, h1, h2, c1, c2, c3, c4, c5, c6, c7, c8, c9, c10, c11, d1, d2, d3, d4, d5, d6, d7, d8, d9, d10, d11]
theorem argP_take {w : World} {A : Option Addr} {n c : Nat} {ps : List Pr} (h : ArgP w (.slice A n c) ps) {k : Nat} (hk : k <= ps.length) : ArgP w (.slice A k c) (ps.take k) := by
 obtain ⟨v, hv⟩ : ∃ v, Value.slice A n c = v := ⟨_, rfl⟩
 rw [hv] at h
 cases h with
 | nil =>
  cases hv
  obtain rfl : k = 0 := by simpa using hk
  exact .nil
 | some b o c ms h =>
  cases hv
  by_cases h0 : k = 0
  ·subst h0; exact .empty _ _
  ·have e : (ps.take k).length = k := by rw [List.length_take]; omega
   have h' : SP w w.heap.size (.slice (some ⟨b, o, none⟩) (ps.take k).length c) (ps.take k) := ⟨_, _, rfl, fun _ => ⟨b, o, rfl, (h.at_ (k := 0) (by omega)).elim fun b' h => h.elim fun o' h => by obtain ⟨e, h, _⟩ := h; cases e; exact h, fun i hi => by
    obtain ⟨b', o', e', _, q0, q1⟩ := h.at_ (k := i) (by omega)
    cases e'
    rw [List.getElem_take]
    exact ⟨q0, q1⟩⟩⟩
   have := ArgP.some b o c (ps.take k) h'
   rw [e] at this
   exact this
 | empty a c =>
  cases hv
  obtain rfl : k = 0 := by simpa using hk
  exact .empty _ _
theorem argP_drop {w : World} {b o n c : Nat} {ps : List Pr} (h : ArgP w (.slice (some ⟨b, o, none⟩) n c) ps) {k : Nat} (hk : k <= ps.length) (c' : Nat) : ArgP w (.slice (some ⟨b, o + k * 2, none⟩) (ps.length - k) c') (ps.drop k) := by
 by_cases h0 : k = ps.length
 ·rw [List.drop_of_length_le (by omega), h0, Nat.sub_self]
  exact .empty _ _
 ·have e : (ps.drop k).length = ps.length - k := by simp
  have h' : SP w w.heap.size (.slice (some ⟨b, o + k * 2, none⟩) (ps.drop k).length c') (ps.drop k) := ⟨_, _, rfl, fun _ => ⟨b, o + k * 2, rfl, (h.sm.at_ (k := 0) (by omega)).elim fun b' h => h.elim fun o' h => by obtain ⟨e, h, _⟩ := h; cases e; exact h, fun i hi => by
   obtain ⟨b', o', e', _, q0, q1⟩ := h.sm.at_ (k := k + i) (by omega)
   cases e'
   rw [List.getElem_drop, show o + k * 2 + i * 2 = o + (k + i) * 2 by omega]
   exact ⟨q0, q1⟩⟩⟩
  have := ArgP.some b (o + k * 2) c' (ps.drop k) h'
  rw [e] at this
  exact this
theorem argP_rest {w : World} {A : Option Addr} {c q : Nat} {ps : List Pr} (h : ArgP w (.slice A ps.length c) ps) (hq : q <= ps.length) (hc : ps.length <= c) :
  ArgP w (.slice (if c = q then A else A.map (·.add (q * 2))) (ps.length - q) (c - q)) (ps.drop q) := by
 obtain ⟨v, hv⟩ : ∃ v, Value.slice A ps.length c = v := ⟨_, rfl⟩
 have h0 := h
 rw [hv] at h
 cases h with
 | nil =>
  cases hv
  obtain rfl : q = 0 := by simpa using hq
  exact .nil
 | some b o c' ms h' =>
  cases hv
  by_cases e : c = q
  ·rw [if_pos e, List.drop_of_length_le (by omega), show ps.length - q = 0 by omega]
   exact .empty _ _
  ·rw [if_neg e, Option.map_some, Addr.add_lit]
   exact argP_drop h0 hq _
 | empty a c' =>
  cases hv
  obtain rfl : q = 0 := by simpa using hq
  have : (if c = 0 then some a else Option.map (fun x : Addr => x.add (0 * 2)) (some a)) = some a := by simp [Addr.add]
  rw [this]
  exact .empty _ _
end Go.Proofs.YthcmnkmfhgoddaaGreatDoor.Dp

namespace Go.Proofs.YthcmnkmfhgoddaaGreatDoor.Dp
open Go.Proofs.YthcmnkmfhgoddaaGreatDoor.O (Bd isB keyB hasB nextB lt)
open Go.Proofs.YthcmnkmfhgoddaaGreatDoor.Ds (De isD splitD mergeD cutsB idB)
open Go.Proofs.YthcmnkmfhgoddaaGreatDoor.Ss (Ses isS mergeS)
open Go.Proofs.YthcmnkmfhgoddaaGreatDoor.Od (Pr E0)
open Go.Proofs.YthcmnkmfhgoddaaGreatDoor.Sf (kl Up getP scanP)
theorem split_zero {d x y : De} {k : ByteArray} {n : Int} (h : splitD d k n = (x, y, 0)) : isD d = true /\ cutsB d.b k.toList = true /\ d.id < n /\ isD x = true /\ isD y = true /\ x = { d with t := k, gen := d.gen + 1 } /\ y = { d with f := k, gen := d.gen + 1, id := n } := Ds.split_spec h
theorem key_ne {b : Bd} {k : ByteArray} (h : cutsB b k.toList = true) : k.toList ≠ [] := by
 unfold cutsB at h
 simp only [Bool.and_eq_true] at h
 intro e
 rw [e] at h
 simp [keyB] at h
end Go.Proofs.YthcmnkmfhgoddaaGreatDoor.Dp

namespace Go.Proofs.YthcmnkmfhgoddaaGreatDoor.Dp
open Go.RowKit Bnd
open Go.Proofs.YthcmnkmfhgoddaaGreatDoor.Ds (De SM OwnI OwnM ArgM ptr ptr_inj dv splitD BoxD isD)
open Go.Proofs.YthcmnkmfhgoddaaGreatDoor.Ss (Ses Zs ses SZ PZ NoP OwnZ ArgZ)
open Go.Proofs.YthcmnkmfhgoddaaGreatDoor.Od (Pr SP OwnP ArgP)
structure P11 (W : World) (M t6 t7 : Nat) (l r : Ph) (L : Nat -> Bool) (u : Nat -> Value) (wx : World) : Prop where
 b : Below M W wx
 pre : L 4 = false -> L 5 = false -> Below W.heap.size W wx
 r1 : L 1 = true -> ∃ o1, u 1 = qv o1 /\ o1.pl = l.pl /\ OwnO wx W.heap.size o1 /\ NoP o1.zs
 r3 : L 3 = true -> ∃ o3, u 3 = qv o3 /\ o3.pl = r.pl /\ OwnO wx W.heap.size o3 /\ NoP o3.zs
 x : ∃ o', BoxP t6 o' wx /\ (L 4 = true -> u 1 = qv o')
 y : ∃ o', BoxP t7 o' wx /\ (L 5 = true -> u 3 = qv o')
theorem OwnO.below {w w' : World} {base : Nat} {o : Ph} (h : OwnO w base o) (hb : Below w.heap.size w w') : OwnO w' base o := ⟨ownsRow_below h.sm hb, ownsRow_below h.sp hb, ownsRow_below h.sz hb, ownsRow_below h.se hb⟩
theorem OwnO.base {w : World} {base base' : Nat} {o : Ph} (h : OwnO w base o) (hb : base' <= base) : OwnO w base' o := ⟨ownsRow_base h.sm hb, ownsRow_base h.sp hb, ownsRow_base h.sz hb, ownsRow_base h.se hb⟩
theorem OwnO.putW {w : World} {base n : Nat} {o : Ph} (h : OwnO w base o) (o' : Ph) (hn : n < base) : OwnO (putW w n o') base o := ⟨putW_own o' hn h.sm, putW_own o' hn h.sp, putW_own o' hn h.sz, putW_own o' hn h.se⟩
set_option maxHeartbeats 16000000 in
set_option maxRecDepth 100000 in
theorem cut_any (o : Ph) (key : ByteArray) (id : Int) (w : World) (h : HA w o) (hp : isP o.pl = true) (hl : o.ps.length <= 100000) (hk : key.size <= 140737488355328) :
  Calls Tryz.prog 60 #[qv o, .string key, .int .i64 id] w (GaveP2 w (cutP o.pl key id)) := by
 have hup : Sf.Up o.ps := isP_up hp
 have hfd : Ds.Fit o.d := isD_fit (isP_d hp)
 have l1 : o.d.ms.length <= 1000 := by have : o.d.ms.length <= 5 := (isD_sizes (isP_d hp)).2.2; omega
 have l3 : o.zs.length <= 64 := by have := isS_len (isP_s hp); simpa [Ph.pl] using this
 have l4 : o.ea.length <= 200 := isP_ea hp
 clear hp
 obtain ⟨d, sm, ps, sp, zs, sz, fr, ea, se, al⟩ := o
 obtain ⟨h1, h2, h3, h4, h5, h6, h7⟩ := h
 simp only at h1 h2 h3 h4 h5 h6 h7 l1 l3 l4 hl hup hfd
 obtain ⟨fA, fa, rfl⟩ := h1.form
 obtain ⟨fB, fb, rfl⟩ := h2.sm.form
 obtain ⟨fC, fc, rfl⟩ := h3.form
 obtain ⟨fD, fd, rfl⟩ := h5.si.form
 obtain ⟨W1, hW1⟩ : ∃ W1, ((w.alloc (.cells #[.int .i64 d.id, .string d.f, .string d.t, .int .i64 d.gen, .slice fA d.ms.length fa, .int .i64 d.next, .slice fB ps.length fb, .slice fC zs.length fc, .bool fr, .slice fD ea.length fd, .int .i64 al] 38)).alloc (.cells #[.int .i64 0, .string ⟨#[]⟩, .string ⟨#[]⟩, .int .i64 0, .slice none 0 0, .int .i64 0, .slice none 0 0, .slice none 0 0, .bool false, .slice none 0 0, .int .i64 0] 38)).alloc (.cells #[.int .i64 0, .string ⟨#[]⟩, .string ⟨#[]⟩, .int .i64 0, .slice none 0 0, .int .i64 0, .slice none 0 0, .slice none 0 0, .bool false, .slice none 0 0, .int .i64 0] 38) = W1 := ⟨_, rfl⟩
 have B0 : BoxP w.heap.size ⟨d, .slice fA d.ms.length fa, ps, .slice fB ps.length fb, zs, .slice fC zs.length fc, fr, ea, .slice fD ea.length fd, al⟩ W1 := hW1 ▸ ((BoxP.new w ⟨d, .slice fA d.ms.length fa, ps, .slice fB ps.length fb, zs, .slice fC zs.length fc, fr, ea, .slice fD ea.length fd, al⟩).alloc _).alloc _
 have Z1 : BoxP (w.heap.size + 1) Ph.zero W1 := by
  have := BoxP.zero (w.alloc (.cells #[.int .i64 d.id, .string d.f, .string d.t, .int .i64 d.gen, .slice fA d.ms.length fa, .int .i64 d.next, .slice fB ps.length fb, .slice fC zs.length fc, .bool fr, .slice fD ea.length fd, .int .i64 al] 38))
  rw [World.size_alloc] at this
  rw [<- hW1]
  exact this.alloc _
 have Z2 : BoxP (w.heap.size + 2) Ph.zero W1 := by
  have := BoxP.zero ((w.alloc (.cells #[.int .i64 d.id, .string d.f, .string d.t, .int .i64 d.gen, .slice fA d.ms.length fa, .int .i64 d.next, .slice fB ps.length fb, .slice fC zs.length fc, .bool fr, .slice fD ea.length fd, .int .i64 al] 38)).alloc (.cells #[.int .i64 0, .string ⟨#[]⟩, .string ⟨#[]⟩, .int .i64 0, .slice none 0 0, .int .i64 0, .slice none 0 0, .slice none 0 0, .bool false, .slice none 0 0, .int .i64 0] 38))
  rw [hW1, World.size_alloc, World.size_alloc] at this
  exact this
 have hz1 : W1.heap.size = w.heap.size + 3 := by rw [<- hW1]; simp
 have hbw1 : Below w.heap.size w W1 := by rw [<- hW1]; exact (((Below.refl _ w).alloc (Nat.le_refl _) _).alloc (by simp) _).alloc (by simp; omega) _
 cases fr with
 | true =>
  have hr : cutP (Ph.pl ⟨d, .slice fA d.ms.length fa, ps, .slice fB ps.length fb, zs, .slice fC zs.length fc, true, ea, .slice fD ea.length fd, al⟩) key id = (Pl.zero, Pl.zero, 90) := if_pos rfl
  rw [hr]
  clear hr
  go_enter Tryz.func60, Tryz.ntmps60
  obtain ⟨p_0, ⟨p_1, p_2, p_3, p_4, p_5, p_6, p_7, p_8, p_9, p_10, p_11⟩, p_12⟩ := _root_.id B0
  obtain ⟨q_0, ⟨q_1, q_2, q_3, q_4, q_5, q_6, q_7, q_8, q_9, q_10, q_11⟩, q_12⟩ := _root_.id Z1
  obtain ⟨r_0, ⟨r_1, r_2, r_3, r_4, r_5, r_6, r_7, r_8, r_9, r_10, r_11⟩, r_12⟩ := _root_.id Z2
  go_wp2_with (rw [hW1])
  have F1 : BoxP (w.heap.size + 1) Ph.zero (putW (putW W1 (w.heap.size + 1) Ph.zero) (w.heap.size + 2) Ph.zero) := BoxP.putW (BoxP.put Z1 Ph.zero) Ph.zero (by omega)
  have F2 : BoxP (w.heap.size + 2) Ph.zero (putW (putW W1 (w.heap.size + 1) Ph.zero) (w.heap.size + 2) Ph.zero) := BoxP.put (BoxP.putW Z2 Ph.zero (by omega)) Ph.zero
  have FB : Below w.heap.size w (putW (putW W1 (w.heap.size + 1) Ph.zero) (w.heap.size + 2) Ph.zero) := putW_below Ph.zero (by omega) (putW_below Ph.zero (by omega) hbw1)
  exact bodyPost_ret (res_BoxP2 Tryz.results60 rfl rfl rfl F1 F2) rfl (GaveP2.zero FB)
 | false =>
  obtain ⟨x, y, er, hs⟩ : ∃ x y er, splitD d key id = (x, y, er) := ⟨_, _, _, rfl⟩
  have cs := Ds.split_any d (.slice fA d.ms.length fa) key id W1 (h1.keep hbw1) hfd hk
  rw [hs] at cs
  have hcut : cutP (Ph.pl ⟨d, .slice fA d.ms.length fa, ps, .slice fB ps.length fb, zs, .slice fC zs.length fc, false, ea, .slice fD ea.length fd, al⟩) key id = if er = 0 then (⟨x, Sf.scanP ps Od.E0 key, ses zs, false, ea, al⟩, ⟨y, Sf.scanP ps key Od.E0, ses zs, false, ea, 0⟩, 0) else (Pl.zero, Pl.zero, er) := by
   unfold cutP
   rw [if_neg (by simp [Ph.pl])]
   have hs' : splitD (Ph.pl ⟨d, .slice fA d.ms.length fa, ps, .slice fB ps.length fb, zs, .slice fC zs.length fc, false, ea, .slice fD ea.length fd, al⟩).d key id = (x, y, er) := hs
   rw [hs']
   rfl
  rw [hcut]
  by_cases he : er = 0
  rotate_left
  ·rw [if_neg he]
   have e1 : (er == 0) = false := by simpa using he
   have e2 : (er != 0) = true := by simpa using he
   have e3 : (er = 0) = False := eq_false he
   clear hcut hs he
   go_enter Tryz.func60, Tryz.ntmps60
   obtain ⟨p_0, ⟨p_1, p_2, p_3, p_4, p_5, p_6, p_7, p_8, p_9, p_10, p_11⟩, p_12⟩ := _root_.id B0
   go_wp2_with (rw [hW1])
   ((try clear p_0); (try clear p_1); (try clear p_2); (try clear p_3); (try clear p_4); (try clear p_5); (try clear p_6); (try clear p_7); (try clear p_8); (try clear p_9); (try clear p_10); (try clear p_11); (try clear p_12))
   refine cs.mono ?_
   rintro e w2 ⟨s1, s2, rfl, a1, a2, b2⟩
   obtain ⟨gA, ga, rfl⟩ := a1.form
   obtain ⟨gB, gb, rfl⟩ := a2.form
   have Z1' := Z1.keep b2
   have Z2' := Z2.keep b2
   have hb2 : Below w.heap.size w w2 := hbw1.trans (b2.mono (by omega))
   obtain ⟨W3, hW3⟩ : ∃ W3, (w2.alloc (.cells #[.int .i64 x.id, .string x.f, .string x.t, .int .i64 x.gen, .slice gA x.ms.length ga, .int .i64 x.next] 26)).alloc (.cells #[.int .i64 y.id, .string y.f, .string y.t, .int .i64 y.gen, .slice gB y.ms.length gb, .int .i64 y.next] 26) = W3 := ⟨_, rfl⟩
   have Y1 : BoxP (w.heap.size + 1) Ph.zero W3 := hW3 ▸ (Z1'.alloc _).alloc _
   have Y2 : BoxP (w.heap.size + 2) Ph.zero W3 := hW3 ▸ (Z2'.alloc _).alloc _
   have hb3 : Below w.heap.size w W3 := hW3 ▸ (hb2.alloc hb2.size _).alloc (by have := hb2.size; simp; omega) _
   obtain ⟨q_0, ⟨q_1, q_2, q_3, q_4, q_5, q_6, q_7, q_8, q_9, q_10, q_11⟩, q_12⟩ := _root_.id Y1
   obtain ⟨r_0, ⟨r_1, r_2, r_3, r_4, r_5, r_6, r_7, r_8, r_9, r_10, r_11⟩, r_12⟩ := _root_.id Y2
   go_wp2_with (rw [hW3])
   have F1 : BoxP (w.heap.size + 1) Ph.zero (putW (putW W3 (w.heap.size + 1) Ph.zero) (w.heap.size + 2) Ph.zero) := BoxP.putW (BoxP.put Y1 Ph.zero) Ph.zero (by omega)
   have F2 : BoxP (w.heap.size + 2) Ph.zero (putW (putW W3 (w.heap.size + 1) Ph.zero) (w.heap.size + 2) Ph.zero) := BoxP.put (BoxP.putW Y2 Ph.zero (by omega)) Ph.zero
   have FB : Below w.heap.size w (putW (putW W3 (w.heap.size + 1) Ph.zero) (w.heap.size + 2) Ph.zero) := putW_below Ph.zero (by omega) (putW_below Ph.zero (by omega) hb3)
   exact bodyPost_ret (res_BoxP2 Tryz.results60 rfl rfl rfl F1 F2) rfl (GaveP2.zero FB)
  ·subst he
   obtain ⟨_, hcb, _, hdx, hdy, hxe, hye⟩ := split_zero hs
   have hkn := key_ne hcb
   have hleft := scan_left hup hkn
   have hright := scan_right hup key
   have hxm : x.ms.length <= 1000 := by have := (isD_sizes hdx).2.2; omega
   have hym : y.ms.length <= 1000 := by have := (isD_sizes hdy).2.2; omega
   obtain ⟨q, hq⟩ : ∃ q, placeP ps key = q := ⟨_, rfl⟩
   have hql : q <= ps.length := hq ▸ place_le ps key
   have hroom : ps.length <= fb := h6 _ _ _ rfl
   rw [if_pos rfl, hleft, hright, hq]
   have cp := fun w' hb => place_any (.slice fB ps.length fb) ps key w' ((h2.keep hb).sm) hup (by omega)
   simp only [hq] at cp
   have hL := argP_take (w := w) h2 hql
   obtain ⟨rA, hrA⟩ : ∃ rA : Option Addr, (if fb = q then fB else fB.map (·.add (q * 2))) = rA := ⟨_, rfl⟩
   have hR : ArgP w (.slice rA (ps.length - q) (fb - q)) (ps.drop q) := hrA ▸ argP_rest h2 hql hroom
   clear hcut hs hkn hleft hright hq hcb hxe hye
   go_enter Tryz.func60, Tryz.ntmps60
   obtain ⟨p_0, ⟨p_1, p_2, p_3, p_4, p_5, p_6, p_7, p_8, p_9, p_10, p_11⟩, p_12⟩ := _root_.id B0
   go_wp2_with (rw [hW1])
   ((try clear p_0); (try clear p_1); (try clear p_2); (try clear p_3); (try clear p_4); (try clear p_5); (try clear p_6); (try clear p_7); (try clear p_8); (try clear p_9); (try clear p_10); (try clear p_11); (try clear p_12))
   refine cs.mono ?_
   rintro e w2 ⟨s1, s2, rfl, a1, a2, b2⟩
   obtain ⟨gA, ga, rfl⟩ := a1.form
   obtain ⟨gB, gb, rfl⟩ := a2.form
   have P2 := B0.keep b2
   have Z1' := Z1.keep b2
   have Z2' := Z2.keep b2
   have hb2 : Below w.heap.size w w2 := hbw1.trans (b2.mono (by omega))
   obtain ⟨W3, hW3⟩ : ∃ W3, (w2.alloc (.cells #[.int .i64 x.id, .string x.f, .string x.t, .int .i64 x.gen, .slice gA x.ms.length ga, .int .i64 x.next] 26)).alloc (.cells #[.int .i64 y.id, .string y.f, .string y.t, .int .i64 y.gen, .slice gB y.ms.length gb, .int .i64 y.next] 26) = W3 := ⟨_, rfl⟩
   have b3 : Below w2.heap.size w2 W3 := hW3 ▸ ((Below.refl _ w2).alloc (Nat.le_refl _) _).alloc (by simp) _
   have X1 : BoxD w2.heap.size x (.slice gA x.ms.length ga) W3 := hW3 ▸ (BoxD.new w2 x (.slice gA x.ms.length ga)).alloc _
   have X2 : BoxD (w2.heap.size + 1) y (.slice gB y.ms.length gb) W3 := by
    have := BoxD.new (w2.alloc (.cells #[.int .i64 x.id, .string x.f, .string x.t, .int .i64 x.gen, .slice gA x.ms.length ga, .int .i64 x.next] 26)) y (.slice gB y.ms.length gb)
    rw [hW3, World.size_alloc] at this
    exact this
   have P3 := P2.keep b3
   have Y1 := Z1'.keep b3
   have Y2 := Z2'.keep b3
   have a1' := a1.keep b3
   have a2' := a2.keep b3
   have hz2 := hb2.size
   have hb3 : Below w.heap.size w W3 := hb2.trans (b3.mono hz2)
   obtain ⟨p_0, ⟨p_1, p_2, p_3, p_4, p_5, p_6, p_7, p_8, p_9, p_10, p_11⟩, p_12⟩ := _root_.id P3
   go_wp2_with (rw [hW3])
   ((try clear p_0); (try clear p_1); (try clear p_2); (try clear p_3); (try clear p_4); (try clear p_5); (try clear p_6); (try clear p_7); (try clear p_8); (try clear p_9); (try clear p_10); (try clear p_11); (try clear p_12))
   clear P2 Z1' Z2' a1 a2 hW3 B0 Z1 Z2 hW1
   refine (cp W3 hb3).mono ?_
   rintro e w4 ⟨rfl, b4⟩
   have P4 := P3.keep b4
   have Z1 := Y1.keep b4
   have Z2 := Y2.keep b4
   have X14 := X1.keep b4
   have X24 := X2.keep b4
   have a14 := a1'.keep b4
   have a24 := a2'.keep b4
   have hz3 := b3.size
   have hz4 := b4.size
   have hb4 : Below w.heap.size w w4 := hb3.trans (b4.mono (by omega))
   clear b4 P3 Y1 Y2 X1 X2 a1' a2' b2 b3 cp cs
   go_wp2_with fail
   refine St.wp_region_mixed (PS w4 ⟨d, .slice fA d.ms.length fa, ps, .slice fB ps.length fb, zs, .slice fC zs.length fc, false, ea, .slice fD ea.length fd, al⟩) (fun _ _ => False) (by kernel_rfl) (by kernel_rfl) (by kernel_rfl) ⟨(Below.refl _ _).drew, fun h => (by cases h), fun h => (by cases h)⟩ ?_
   iterate 2
    (apply St.mix_give
     ·rfl
     ·intro L u' wx hS hcl hrd hag
      obtain ⟨j0, ⟨j1, j2, j3, j4, j5, j6, j7, j8, j9, j10, j11⟩, j12⟩ := P4.keep hS.b
      go_simp
      try with_reducible rfl
     ·exact fun L u' wx hS => ⟨hS.b, hS.p, hS.q⟩
     simp only [Act.put, St.pu])
   refine St.mix_free (fun x => ∃ n, x = ptr n) rfl ?_ ?_
   ·intro L u' wx hS hcl hrd hag
    refine ⟨_, _, ⟨wx.heap.size, rfl⟩, ?_, hS.two (St.not_yet hcl hrd 40 4 (by kernel_rfl))⟩
    go_simp
    try with_reducible rfl
   rintro y' ⟨n8, rfl⟩
   simp only [Act.put, St.pu]
   refine St.mix_free (fun x => ∃ n, x = ptr n) rfl ?_ ?_
   ·intro L u' wx hS hcl hrd hag
    refine ⟨_, _, ⟨wx.heap.size, rfl⟩, ?_, hS.three (St.not_yet hcl hrd 40 5 (by kernel_rfl))⟩
    go_simp
    try with_reducible rfl
   rintro y' ⟨n9, rfl⟩
   simp only [Act.put, St.pu]
   refine St.mix_skip rfl ?_ ?_
   ·intro L u' wx hS hcl hrd hag
    have hu : u' 2 = ptr n8 := hag 40 2 (by kernel_rfl)
    have h2 := St.before_ready hcl hrd 40 2 (by kernel_rfl)
    obtain ⟨n', e8, hN, ⟨o', hB⟩, _⟩ := hS.p h2
    obtain rfl := ptr_inj (e8.symm.trans hu)
    obtain ⟨j0, ⟨j1, j2, j3, j4, j5, j6, j7, j8, j9, j10, j11⟩, j12⟩ := _root_.id hB
    refine ⟨_, ?_, hS.four h2 hu⟩
    unfold putW
    go_simp
    try with_reducible rfl
   simp only [Act.put]
   refine St.mix_skip rfl ?_ ?_
   ·intro L u' wx hS hcl hrd hag
    have hu : u' 3 = ptr n9 := hag 40 3 (by kernel_rfl)
    have h2 := St.before_ready hcl hrd 40 3 (by kernel_rfl)
    obtain ⟨n', e8, hN, ⟨o', hB⟩, _⟩ := hS.q h2
    obtain rfl := ptr_inj (e8.symm.trans hu)
    obtain ⟨j0, ⟨j1, j2, j3, j4, j5, j6, j7, j8, j9, j10, j11⟩, j12⟩ := _root_.id hB
    refine ⟨_, ?_, hS.five h2 hu⟩
    unfold putW
    go_simp
    try with_reducible rfl
   simp only [Act.put]
   refine St.mix_last ?_
   intro L5 wx hS hall
   obtain ⟨n8', e8, hN8, _, E8, h89⟩ := hS.p (hall 2 (by decide))
   obtain rfl : n8 = n8' := ptr_inj (show ptr n8 = ptr n8' from e8)
   obtain ⟨n9', e9, hN9, _, E9⟩ := hS.q (hall 3 (by decide))
   obtain rfl : n9 = n9' := ptr_inj (show ptr n9 = ptr n9' from e9)
   have E8 := E8 (hall 4 (by decide))
   have E9 := E9 (hall 5 (by decide))
   have hne : n8 ≠ n9 := fun e => h89 (hall 3 (by decide)) (by rw [e]; rfl)
   have bx := hS.b
   clear hS hall e8 e9 h89
   obtain ⟨o, ho⟩ : ∃ o : Ph, o = ⟨d, .slice fA d.ms.length fa, ps, .slice fB ps.length fb, zs, .slice fC zs.length fc, false, ea, .slice fD ea.length fd, al⟩ := ⟨_, rfl⟩
   rw [<- ho] at E8 E9 P4
   have HO := Lib.hid ho
   have hs0 : PT w4.heap.size w4 n8 n9 (half o x (.slice gA x.ms.length ga) (ps.take q) (.slice fB q fb) false false) o wx := ⟨bx, E8, E9⟩
   have hP : ∀ wy, Below w4.heap.size w4 wy -> wy.cell? ⟨w.heap.size, 6, none⟩ = some (.slice fB ps.length fb) := fun wy hb => by
    obtain ⟨_, ⟨_, _, _, _, _, _, c6, _⟩, _⟩ := P4.keep hb
    rw [ho] at c6
    exact c6
   have hX1 := fun wy (hb : Below w4.heap.size w4 wy) => X14.keep hb
   have hX2 := fun wy (hb : Below w4.heap.size w4 wy) => X24.keep hb
   have i0 : (0 <= (q : Int)) = True := eq_true (by omega)
   have i1 : ((q : Int) <= (fb : Int)) = True := eq_true (by omega)
   have i2 : ((q : Int) <= (ps.length : Int)) = True := eq_true (by omega)
   clear ho E8 E9 bx P4
   go_wp2_with fail
   refine St.wp_region_mixed (fun L _ wy => PT w4.heap.size w4 n8 n9 (half o x (.slice gA x.ms.length ga) (ps.take q) (.slice fB q fb) (L 6) (L 8)) o wy) (fun _ _ => False) (by kernel_rfl) (by kernel_rfl) (by kernel_rfl) ⟨hs0.b.drew, hs0.x.drew, hs0.y.drew⟩ ?_
   iterate 4
    (apply St.mix_give
     ·rfl
     ·intro L u' wx hS hcl hrd hag
      obtain ⟨j0, ⟨j1, j2, j3, j4, j5, j6⟩, j7⟩ := hX1 wx hS.b
      have c6 := hP wx hS.b
      go_simp
      try with_reducible rfl
     ·exact fun L u' wx hS => ⟨hS.b, hS.x, hS.y⟩
     simp only [Act.put, St.pu])
   iterate 2
    (apply St.mix_give
     ·rfl
     ·intro L u' wx hS hcl hrd hag
      go_simp
      try with_reducible rfl
     ·exact fun L u' wx hS => ⟨hS.b, hS.x, hS.y⟩
     simp only [Act.put, St.pu])
   refine St.mix_skip rfl ?_ ?_
   ·intro L u' wx hS hcl hrd hag
    obtain ⟨j0, ⟨j1, j2, j3, j4, j5, j6, j7, j8, j9, j10, j11⟩, j12⟩ := _root_.id hS.x
    have hx := BoxP.desc hS.x x (.slice gA x.ms.length ga)
    refine ⟨putD wx n8 x (.slice gA x.ms.length ga), ?_, ⟨putD_below hS.b hN8, ?_, putD_box hS.y hne⟩⟩
    rotate_left
    ·rw [show St.mark L 6 8 = L 8 from rfl, show St.mark L 6 6 = true by simp [St.mark]]
     exact hx
    unfold putD
    go_simp
    try with_reducible rfl
   simp only [Act.put]
   apply St.mix_give
   ·rfl
   ·intro L u' wx hS hcl hrd hag
    go_simp
    try with_reducible rfl
   ·exact fun L u' wx hS => ⟨hS.b, hS.x, hS.y⟩
   simp only [Act.put, St.pu]
   refine St.mix_skip rfl ?_ ?_
   ·intro L u' wx hS hcl hrd hag
    obtain ⟨j0, ⟨j1, j2, j3, j4, j5, j6, j7, j8, j9, j10, j11⟩, j12⟩ := _root_.id hS.x
    have hx := BoxP.set6 hS.x (.slice fB q fb) (ps.take q)
    refine ⟨wx.setCell ⟨n8, 6, none⟩ (.slice fB q fb), ?_, ⟨hS.b.setCell (p := ⟨n8, 6, none⟩) hN8 _, ?_, hS.y.other hne _⟩⟩
    rotate_left
    ·rw [show St.mark L 8 6 = L 6 from rfl, show St.mark L 8 8 = true by simp [St.mark]]
     exact hx
    go_simp
    try with_reducible rfl
   simp only [Act.put]
   refine St.mix_last ?_
   intro L5 wy hS hall
   have h5 : L5 6 = true := hall 6 (by decide)
   have h7 : L5 8 = true := hall 8 (by decide)
   rw [h5, h7] at hS
   have hs1 : PT w4.heap.size w4 n8 n9 (half o x (.slice gA x.ms.length ga) (ps.take q) (.slice fB q fb) true true) (half o y (.slice gB y.ms.length gb) (ps.drop q) (.slice rA (ps.length - q) (fb - q)) false false) wy := ⟨hS.b, hS.x, hS.y⟩
   clear hS hall h5 h7 hs0 L5
   have HRA := Lib.hid hrA
   go_wp2_with fail
   refine St.wp_region_mixed (fun L _ wy => PT w4.heap.size w4 n8 n9 (half o x (.slice gA x.ms.length ga) (ps.take q) (.slice fB q fb) true true) (half o y (.slice gB y.ms.length gb) (ps.drop q) (.slice rA (ps.length - q) (fb - q)) (L 6) (L 8)) wy) (fun _ _ => False) (by kernel_rfl) (by kernel_rfl) (by kernel_rfl) ⟨hs1.b.drew, hs1.x.drew, hs1.y.drew⟩ ?_
   iterate 4
    (apply St.mix_give
     ·rfl
     ·intro L u' wx hS hcl hrd hag
      obtain ⟨j0, ⟨j1, j2, j3, j4, j5, j6⟩, j7⟩ := hX2 wx hS.b
      have c6 := hP wx hS.b
      go_simp
      try with_reducible rfl
     ·exact fun L u' wx hS => ⟨hS.b, hS.x, hS.y⟩
     simp only [Act.put, St.pu])
   refine St.mix_give (v := .slice rA (ps.length - q) (fb - q)) rfl ?_ ?_ ?_
   ·intro L u' wx hS hcl hrd hag
    go_simp
   ·exact fun L u' wx hS => ⟨hS.b, hS.x, hS.y⟩
   simp only [Act.put, St.pu]
   apply St.mix_give
   ·rfl
   ·intro L u' wx hS hcl hrd hag
    go_simp
    try with_reducible rfl
   ·exact fun L u' wx hS => ⟨hS.b, hS.x, hS.y⟩
   simp only [Act.put, St.pu]
   refine St.mix_skip rfl ?_ ?_
   ·intro L u' wx hS hcl hrd hag
    obtain ⟨j0, ⟨j1, j2, j3, j4, j5, j6, j7, j8, j9, j10, j11⟩, j12⟩ := _root_.id hS.y
    have hx := BoxP.desc hS.y y (.slice gB y.ms.length gb)
    refine ⟨putD wx n9 y (.slice gB y.ms.length gb), ?_, ⟨putD_below hS.b hN9, putD_box hS.x hne.symm, ?_⟩⟩
    rotate_left
    ·rw [show St.mark L 6 8 = L 8 from rfl, show St.mark L 6 6 = true by simp [St.mark]]
     exact hx
    unfold putD
    go_simp
    try with_reducible rfl
   simp only [Act.put]
   apply St.mix_give
   ·rfl
   ·intro L u' wx hS hcl hrd hag
    go_simp
    try with_reducible rfl
   ·exact fun L u' wx hS => ⟨hS.b, hS.x, hS.y⟩
   simp only [Act.put, St.pu]
   refine St.mix_skip rfl ?_ ?_
   ·intro L u' wx hS hcl hrd hag
    obtain ⟨j0, ⟨j1, j2, j3, j4, j5, j6, j7, j8, j9, j10, j11⟩, j12⟩ := _root_.id hS.y
    have hx := BoxP.set6 hS.y (.slice rA (ps.length - q) (fb - q)) (ps.drop q)
    refine ⟨wx.setCell ⟨n9, 6, none⟩ (.slice rA (ps.length - q) (fb - q)), ?_, ⟨hS.b.setCell (p := ⟨n9, 6, none⟩) hN9 _, hS.x.other hne.symm _, ?_⟩⟩
    rotate_left
    ·rw [show St.mark L 8 6 = L 6 from rfl, show St.mark L 8 8 = true by simp [St.mark]]
     exact hx
    go_simp
    try with_reducible rfl
   simp only [Act.put]
   refine St.mix_last ?_
   intro L5 wz hS hall
   have h5' : L5 6 = true := hall 6 (by decide)
   have h7' : L5 8 = true := hall 8 (by decide)
   rw [h5', h7', HO.out] at hS
   have G8 : BoxP n8 ⟨x, .slice gA x.ms.length ga, ps.take q, .slice fB q fb, zs, .slice fC zs.length fc, false, ea, .slice fD ea.length fd, al⟩ wz := hS.x
   have G9 : BoxP n9 ⟨y, .slice gB y.ms.length gb, ps.drop q, .slice rA (ps.length - q) (fb - q), zs, .slice fC zs.length fc, false, ea, .slice fD ea.length fd, al⟩ wz := hS.y
   have bz : Below w4.heap.size w4 wz := hS.b
   clear hS hall h5' h7' hs1 L5
   obtain ⟨W5, hW5⟩ : ∃ W5, wz.setCell ⟨n9, 10, none⟩ (.int .i64 0) = W5 := ⟨_, rfl⟩
   have H8 : BoxP n8 ⟨x, .slice gA x.ms.length ga, ps.take q, .slice fB q fb, zs, .slice fC zs.length fc, false, ea, .slice fD ea.length fd, al⟩ W5 := hW5 ▸ G8.other (by simpa using hne.symm) _
   have H9 : BoxP n9 ⟨y, .slice gB y.ms.length gb, ps.drop q, .slice rA (ps.length - q) (fb - q), zs, .slice fC zs.length fc, false, ea, .slice fD ea.length fd, 0⟩ W5 := hW5 ▸ G9.set10 0
   have b5 : Below w4.heap.size w4 W5 := hW5 ▸ bz.setCell hN9 _
   have hb5 : Below w.heap.size w W5 := hb4.trans (b5.mono (by omega))
   have hz5 := b5.size
   have K1 : BoxP (w.heap.size + 1) Ph.zero W5 := Z1.keep b5
   have K2 : BoxP (w.heap.size + 2) Ph.zero W5 := Z2.keep b5
   have hal : HA W5 ⟨x, .slice gA x.ms.length ga, ps.take q, .slice fB q fb, zs, .slice fC zs.length fc, false, ea, .slice fD ea.length fd, al⟩ := ⟨a14.keep b5, hL.keep hb5, h3.keep hb5, h4, h5.keep hb5, fun A n c e => by injection e with _ e1 e2; omega, h7⟩
   have har : HA W5 ⟨y, .slice gB y.ms.length gb, ps.drop q, .slice rA (ps.length - q) (fb - q), zs, .slice fC zs.length fc, false, ea, .slice fD ea.length fd, 0⟩ := ⟨a24.keep b5, hR.keep hb5, h3.keep hb5, h4, h5.keep hb5, fun A n c e => by injection e with _ e1 e2; omega, h7⟩
   have htk : (ps.take q).length <= 100000 := by simp; omega
   have hdr : (ps.drop q).length <= 100000 := by simp; omega
   have cl := fun wx (hb : Below W5.heap.size W5 wx) => own_any ⟨x, .slice gA x.ms.length ga, ps.take q, .slice fB q fb, zs, .slice fC zs.length fc, false, ea, .slice fD ea.length fd, al⟩ wx (hal.keep hb) hxm htk (by show zs.length <= _; omega) (by show ea.length <= _; omega)
   have cr := fun wx (hb : Below W5.heap.size W5 wx) => own_any ⟨y, .slice gB y.ms.length gb, ps.drop q, .slice rA (ps.length - q) (fb - q), zs, .slice fC zs.length fc, false, ea, .slice fD ea.length fd, 0⟩ wx (har.keep hb) hym hdr (by show zs.length <= _; omega) (by show ea.length <= _; omega)
   obtain ⟨p_0, ⟨p_1, p_2, p_3, p_4, p_5, p_6, p_7, p_8, p_9, p_10, p_11⟩, p_12⟩ := _root_.id G9
   clear hX1 hX2 hP X14 X24 a14 a24 Z1 Z2 hL hR h3 h5 hrA HRA hup hfd hdx hdy h1 h2
   go_wp2_with (rw [hW5])
   ((try clear p_0); (try clear p_1); (try clear p_2); (try clear p_3); (try clear p_4); (try clear p_5); (try clear p_6); (try clear p_7); (try clear p_8); (try clear p_9); (try clear p_10); (try clear p_11); (try clear p_12))
   refine St.wp_region_mixed (P11 W5 w.heap.size (w.heap.size + 1) (w.heap.size + 2) ⟨x, .slice gA x.ms.length ga, ps.take q, .slice fB q fb, zs, .slice fC zs.length fc, false, ea, .slice fD ea.length fd, al⟩ ⟨y, .slice gB y.ms.length gb, ps.drop q, .slice rA (ps.length - q) (fb - q), zs, .slice fC zs.length fc, false, ea, .slice fD ea.length fd, 0⟩) (fun i z => match i with | 1 => ∃ o1 : Ph, z = qv o1 /\ ∃ A a B b C c D e, o1.sm = .slice A o1.d.ms.length a /\ o1.sp = .slice B o1.ps.length b /\ o1.sz = .slice C o1.zs.length c /\ o1.se = .slice D o1.ea.length e | 3 => ∃ o1 : Ph, z = qv o1 /\ ∃ A a B b C c D e, o1.sm = .slice A o1.d.ms.length a /\ o1.sp = .slice B o1.ps.length b /\ o1.sz = .slice C o1.zs.length c /\ o1.se = .slice D o1.ea.length e | _ => False) (by kernel_rfl) (by kernel_rfl) (by kernel_rfl) ⟨(Below.refl _ _).drew, fun _ _ => (Below.refl _ _).drew, fun h => (by cases h), fun h => (by cases h), ⟨_, K1.drew, fun h => (by cases h)⟩, ⟨_, K2.drew, fun h => (by cases h)⟩⟩ ?_
   apply St.mix_give
   ·rfl
   ·intro L u' wx hS hcl hrd hag
    obtain ⟨j0, ⟨j1, j2, j3, j4, j5, j6, j7, j8, j9, j10, j11⟩, j12⟩ := H8.keep (hS.pre (St.not_yet hcl hrd 40 4 (by kernel_rfl)) (St.not_yet hcl hrd 40 5 (by kernel_rfl)))
    go_simp
    try with_reducible rfl
   ·exact fun L u' wx hS => ⟨hS.b, hS.pre, hS.r1, hS.r3, hS.x, hS.y⟩
   simp only [Act.put, St.pu]
   refine St.mix_call (f := 81) (args := #[qv ⟨x, .slice gA x.ms.length ga, ps.take q, .slice fB q fb, zs, .slice fC zs.length fc, false, ea, .slice fD ea.length fd, al⟩]) rfl ?_ ?_ ?_
   ·intro wx
    go_simp
    try with_reducible rfl
   ·intro L u' wx hS hcl hrd hag
    have n4 := St.not_yet hcl hrd 40 4 (by kernel_rfl)
    have n5 := St.not_yet hcl hrd 40 5 (by kernel_rfl)
    have pre := hS.pre n4 n5
    refine (cl wx pre).mono ?_
    rintro e w' ⟨o1, rfl, hpl, ho, hnp, hb⟩
    refine ⟨_, rfl, ⟨o1, rfl, (ho.ha hnp).hp.form⟩, ⟨hS.b.trans (hb.mono (by have h1 := pre.size; have h2 := hb5.size; omega)), fun _ _ => pre.trans (hb.mono pre.size), fun _ => ⟨o1, rfl, hpl, ho.base pre.size, hnp⟩, fun h3 => ?_, ?_, ?_⟩⟩
    ·obtain ⟨o3, e3, p3, k3, n3⟩ := hS.r3 h3
     exact ⟨o3, e3, p3, k3.below hb, n3⟩
    ·obtain ⟨o', hB, h4'⟩ := hS.x
     exact ⟨o', hB.keep hb, fun h' => by rw [show St.mark L 1 4 = L 4 from rfl, n4] at h'; cases h'⟩
    ·obtain ⟨o', hB, h4'⟩ := hS.y
     exact ⟨o', hB.keep hb, fun h' => by rw [show St.mark L 1 5 = L 5 from rfl, n5] at h'; cases h'⟩
   rintro y1 ⟨o1, rfl, q1, q2, q3, q4, q5, q6, q7, q8, f1, f2, f3, f4⟩
   simp only [Act.put, St.pu]
   apply St.mix_give
   ·rfl
   ·intro L u' wx hS hcl hrd hag
    obtain ⟨j0, ⟨j1, j2, j3, j4, j5, j6, j7, j8, j9, j10, j11⟩, j12⟩ := H9.keep (hS.pre (St.not_yet hcl hrd 40 4 (by kernel_rfl)) (St.not_yet hcl hrd 40 5 (by kernel_rfl)))
    go_simp
    try with_reducible rfl
   ·exact fun L u' wx hS => ⟨hS.b, hS.pre, hS.r1, hS.r3, hS.x, hS.y⟩
   simp only [Act.put, St.pu]
   refine St.mix_call (f := 81) (args := #[qv ⟨y, .slice gB y.ms.length gb, ps.drop q, .slice rA (ps.length - q) (fb - q), zs, .slice fC zs.length fc, false, ea, .slice fD ea.length fd, 0⟩]) rfl ?_ ?_ ?_
   ·intro wx
    go_simp
    try with_reducible rfl
   ·intro L u' wx hS hcl hrd hag
    have n4 := St.not_yet hcl hrd 40 4 (by kernel_rfl)
    have n5 := St.not_yet hcl hrd 40 5 (by kernel_rfl)
    have pre := hS.pre n4 n5
    refine (cr wx pre).mono ?_
    rintro e w' ⟨o3, rfl, hpl, ho, hnp, hb⟩
    refine ⟨_, rfl, ⟨o3, rfl, (ho.ha hnp).hp.form⟩, ⟨hS.b.trans (hb.mono (by have h1 := pre.size; have h2 := hb5.size; omega)), fun _ _ => pre.trans (hb.mono pre.size), fun h1 => ?_, fun _ => ⟨o3, rfl, hpl, ho.base pre.size, hnp⟩, ?_, ?_⟩⟩
    ·obtain ⟨o3, e3, p3, k3, n3⟩ := hS.r1 h1
     exact ⟨o3, e3, p3, k3.below hb, n3⟩
    ·obtain ⟨o', hB, h4'⟩ := hS.x
     exact ⟨o', hB.keep hb, fun h' => by rw [show St.mark L 3 4 = L 4 from rfl, n4] at h'; cases h'⟩
    ·obtain ⟨o', hB, h4'⟩ := hS.y
     exact ⟨o', hB.keep hb, fun h' => by rw [show St.mark L 3 5 = L 5 from rfl, n5] at h'; cases h'⟩
   rintro y3 ⟨o3, rfl, r1, r2, r3, r4, r5, r6, r7, r8, g1, g2, g3, g4⟩
   simp only [Act.put, St.pu]
   refine St.mix_skip rfl ?_ ?_
   ·intro L u' wx hS hcl hrd hag
    have hu : u' 1 = qv o1 := hag 40 1 (by kernel_rfl)
    obtain ⟨o', hB, _⟩ := hS.x
    obtain ⟨o'', hB2, hy2⟩ := hS.y
    obtain ⟨j0, ⟨j1, j2, j3, j4, j5, j6, j7, j8, j9, j10, j11⟩, j12⟩ := _root_.id hB
    refine ⟨putW wx (w.heap.size + 1) o1, ?_, ⟨putW_below o1 (by omega) hS.b, fun h' => (by simp [St.mark] at h'), fun h1 => ?_, fun h3 => ?_, ⟨o1, BoxP.put hB o1, fun _ => hu⟩, ⟨o'', BoxP.putW hB2 o1 (by omega), hy2⟩⟩⟩
    ·unfold putW
     go_simp
     try with_reducible rfl
    ·obtain ⟨oo, e3, p3, k3, n3⟩ := hS.r1 h1
     exact ⟨oo, e3, p3, k3.putW o1 K1.1, n3⟩
    ·obtain ⟨oo, e3, p3, k3, n3⟩ := hS.r3 h3
     exact ⟨oo, e3, p3, k3.putW o1 K1.1, n3⟩
   simp only [Act.put]
   refine St.mix_skip rfl ?_ ?_
   ·intro L u' wx hS hcl hrd hag
    have hu : u' 3 = qv o3 := hag 40 3 (by kernel_rfl)
    obtain ⟨o', hB, hy1⟩ := hS.x
    obtain ⟨o'', hB2, _⟩ := hS.y
    obtain ⟨j0, ⟨j1, j2, j3, j4, j5, j6, j7, j8, j9, j10, j11⟩, j12⟩ := _root_.id hB2
    refine ⟨putW wx (w.heap.size + 2) o3, ?_, ⟨putW_below o3 (by omega) hS.b, fun _ h' => (by simp [St.mark] at h'), fun h1 => ?_, fun h3 => ?_, ⟨o', BoxP.putW hB o3 (by omega), hy1⟩, ⟨o3, BoxP.put hB2 o3, fun _ => hu⟩⟩⟩
    ·unfold putW
     go_simp
     try with_reducible rfl
    ·obtain ⟨oo, e3, p3, k3, n3⟩ := hS.r1 h1
     exact ⟨oo, e3, p3, k3.putW o3 K2.1, n3⟩
    ·obtain ⟨oo, e3, p3, k3, n3⟩ := hS.r3 h3
     exact ⟨oo, e3, p3, k3.putW o3 K2.1, n3⟩
   simp only [Act.put]
   apply St.mix_give
   ·rfl
   ·intro L u' wx hS hcl hrd hag
    go_simp
    try with_reducible rfl
   ·exact fun L u' wx hS => ⟨hS.b, hS.pre, hS.r1, hS.r3, hS.x, hS.y⟩
   simp only [Act.put, St.pu]
   refine St.mix_last ?_
   intro L5 wf hS hall
   obtain ⟨oa, ea1, pa, ka, na⟩ := hS.r1 (hall 1 (by decide))
   obtain ⟨ob, eb1, pb, kb, nb⟩ := hS.r3 (hall 3 (by decide))
   obtain ⟨oc, Bc, ec⟩ := hS.x
   obtain ⟨od, Bd, ed⟩ := hS.y
   have ec := ec (hall 4 (by decide))
   have ed := ed (hall 5 (by decide))
   have F1 : BoxP (w.heap.size + 1) oa wf := BoxP.of_qv (ec.symm.trans ea1) Bc
   have F2 : BoxP (w.heap.size + 2) ob wf := BoxP.of_qv (ed.symm.trans eb1) Bd
   have FB := hS.b
   clear hS hall ec ed ea1 eb1 cl cr
   go_wp2_with fail
   exact bodyPost_ret (res_BoxP2 Tryz.results60 rfl rfl rfl F1 F2) rfl ⟨oa, ob, rfl, pa, pb, ka.ha na, kb.ha nb, hb5.trans FB⟩
end Go.Proofs.YthcmnkmfhgoddaaGreatDoor.Dp

namespace Go.Proofs.YthcmnkmfhgoddaaGreatDoor.Dp
open Go.RowKit Bnd
open Go.Proofs.YthcmnkmfhgoddaaGreatDoor.Ds (De SM OwnI OwnM ArgM)
open Go.Proofs.YthcmnkmfhgoddaaGreatDoor.Ss (Ses Zs ses SZ PZ NoP OwnZ ArgZ)
open Go.Proofs.YthcmnkmfhgoddaaGreatDoor.Od (Pr SP OwnP ArgP)
def zcs : Array Value := #[.int .i64 0, .string ⟨#[]⟩, .string ⟨#[]⟩, .int .i64 0, .slice none 0 0, .int .i64 0, .slice none 0 0, .slice none 0 0, .bool false, .slice none 0 0, .int .i64 0]
def ZE (n : Nat) (w : World) : Prop := w.heap[n]? = some (.cells zcs 38 (0, 0))
theorem ZE.new (w : World) : ZE w.heap.size (w.alloc (.cells zcs 38)) := heap_alloc_new w _
theorem ZE.below {n N : Nat} {w w' : World} (h : ZE n w) (hn : n < N) (hb : Below N w w') : ZE n w' := (hb.block n hn).trans h
theorem ZE.keep {n : Nat} {w w' : World} (h : ZE n w) (hb : Below w.heap.size w w') : ZE n w' := h.below (Array.getElem?_eq_some_iff.1 h).1 hb
theorem ZE.cell {n : Nat} {w : World} (h : ZE n w) (i : Nat) : w.cell? ⟨n, i, none⟩ = zcs[i]? := by
 unfold ZE at h
 simp [World.cell?, h]
theorem ZE.ints {n i : Nat} {w : World} (h : ZE n w) {x y : Int} (h0 : w.cell? ⟨n, i, none⟩ = some (.int .i64 x)) (h1 : w.cell? ⟨n, i + 1, none⟩ = some (.int .i64 y)) : False := by
 rw [h.cell] at h0 h1
 match i, h0, h1 with
 | 0, _, h1 => cases h1
 | 1, h0, _ => cases h0
 | 2, h0, _ => cases h0
 | 3, _, h1 => cases h1
 | 4, h0, _ => cases h0
 | 5, _, h1 => cases h1
 | 6, h0, _ => cases h0
 | 7, h0, _ => cases h0
 | 8, h0, _ => cases h0
 | 9, h0, _ => cases h0
 | 10, _, h1 => cases h1
 | i + 11, h0, _ => simp [zcs] at h0
theorem argM_put {w : World} {n : Nat} {s : Value} {ms : List Ds.Mem} (h : ArgM w s ms) (hz : ZE n w) (o : Ph) : ArgM (putW w n o) s ms := by
 cases h with
 | nil => exact .nil
 | some b o' c ms h =>
  refine .some b o' c ms ⟨_, _, rfl, fun h0 => ?_⟩
  obtain ⟨b', o2, e, hb, q0, q1⟩ := h.at_ (k := 0) h0
  cases e
  have hne : b ≠ n := fun e => by subst e; exact hz.ints q0 q1
  refine ⟨b, o', rfl, by rw [putW_size]; exact hb, fun i hi => ?_⟩
  obtain ⟨b', o2, e, _, q0, q1⟩ := h.at_ (k := i) hi
  cases e
  exact ⟨(putW_cell o (p := ⟨b, o' + i * 2, none⟩) hne).trans q0, (putW_cell o (p := ⟨b, o' + i * 2 + 1, none⟩) hne).trans q1⟩
 | empty a c => exact .empty a c
theorem argZ_put {w : World} {n : Nat} {s : Value} {zs : List Zs} (h : ArgZ w s zs) (hz : ZE n w) (o : Ph) : ArgZ (putW w n o) s zs := by
 cases h with
 | nil => exact .nil
 | some b o' c zs hc h =>
  refine .some b o' c zs hc ⟨_, _, rfl, fun h0 => ?_⟩
  obtain ⟨b', o2, e, hb, q0, q1, _⟩ := h.at_ (k := 0) h0
  cases e
  have hne : b ≠ n := fun e => by subst e; exact hz.ints q0 q1
  refine ⟨b, o', rfl, by rw [putW_size]; exact hb, fun i hi => ?_⟩
  obtain ⟨b', o2, e, _, q⟩ := h.at_ (k := i) hi
  cases e
  exact q.keep fun j => putW_cell o (p := ⟨b, j, none⟩) hne
 | empty a c => exact .empty a c
end Go.Proofs.YthcmnkmfhgoddaaGreatDoor.Dp

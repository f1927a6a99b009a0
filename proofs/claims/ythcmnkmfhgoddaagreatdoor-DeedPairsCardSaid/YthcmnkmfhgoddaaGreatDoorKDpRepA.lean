/-
  slices.Index and slices.Delete at members: where a member stands; a row of the call's own without one of its members. Condition: at most 1000 members.
  A row of pairs of the call's own under copy and clear, told as runs. No condition.
  What slices.Insert and slices.Replace leave of a row of pairs of the call's own, road by road, told as runs. No condition.
  slices.Insert and slices.Replace at pairs, upon a row of the call's own: one pair, or none, in the place of one, or of none. Condition: at most 100,000 pairs.
-/
import Derived.Test.YthcmnkmfhgoddaaGreatDoorKDsSMA
import Derived.Test.YthcmnkmfhgoddaaGreatDoorKDsASA
import Derived.Test.YthcmnkmfhgoddaaGreatDoorKDsPNA
import Derived.Test.YthcmnkmfhgoddaaGreatDoorKRegA
import Derived.Laws.CopyRow
import Derived.Test.YthcmnkmfhgoddaaGreatDoorKDpBGA
import Derived.Lib.Overlaps
import Derived.Lib.AppendZerosOnto
import Derived.Test.YthcmnkmfhgoddaaGreatDoorKDpTA
import Derived.BigQuiet
namespace Go.Proofs.YthcmnkmfhgoddaaGreatDoor.Ds
open Go.RowKit Bnd
section
attribute [local go_sem ↓] Go.wp_at_zero Go.wp_at_succ
end
theorem wpList_run_builtin {P : Program} {ops : Array Oper} {rest : List Oper} {o : Oper} {a : Act} {w w' : World} {Q : Exit -> Act -> World -> Prop} (hgd : o.guard = none) {s x : Operand} {t : TypeId} {v y v' : Value}
  (ho : o.op = .call { callee := .builtin .append, args := #[s, x], argTypes := #[t, t] }) (hs : a.eval s = v) (hx : a.eval x = y) (hrun : (Builtin.append_ #[t, t] o.type #[v, y]).run P w = .ok v' w')
  (h : wpList P ops Q rest (a.put o.dst v') w') : wpList P ops Q (o :: rest) a w := by
 refine wpList_plain hgd fun _ hK => ?_
 unfold Oper.wp
 rw [run_append2 ho hs hx hrun]
 exact hK _ _ h
end Go.Proofs.YthcmnkmfhgoddaaGreatDoor.Ds

namespace Go.Proofs.YthcmnkmfhgoddaaGreatDoor.Dp
open Go.RowKit Bnd
open Go.Proofs.YthcmnkmfhgoddaaGreatDoor.Od (Pr SP OwnP ArgP pv pcells pcells_length pcells_append pcells_one infoP)
def PR (w : World) (g : Nat) (cs : List Value) : Prop := w.heap[g]? = some (.cells cs.toArray 85 (0, 0))
theorem PR.of_own {w : World} {base g n cap : Nat} {ps : List Pr} (h : OwnP w base (.slice (some ⟨g, 0, none⟩) n cap) ps) :
  ∃ R, PR w g (pcells ps ++ R) /\ (pcells ps ++ R).length = cap * 2 /\ base <= g /\ ps.length <= cap /\ cap <= maxLen := by
 obtain ⟨g', cap', cur, e1, hbg, hg, hnc, hcm, hcs, htk⟩ := h.2.resolve_left (fun h => by simp at h)
 injection e1 with e1 e2 e3
 injection e1 with e1
 injection e1 with e1
 subst e1 e3
 refine ⟨cur.toList.drop (ps.length * 2), ?_, ?_, hbg, hnc, hcm⟩
 ·rw [<- htk, List.take_append_drop]
  exact hg
 ·rw [<- htk, List.take_append_drop, Array.length_toList, hcs]
theorem PR.own {w : World} {base g cap : Nat} {ps : List Pr} {R : List Value} (h : PR w g (pcells ps ++ R)) (hl : (pcells ps ++ R).length = cap * 2) (hb : base <= g) (hc : cap <= maxLen) :
  OwnP w base (.slice (some ⟨g, 0, none⟩) ps.length cap) ps := by
 have h1 := pcells_length ps
 refine ⟨h1, .inr ⟨g, cap, _, rfl, hb, h, ?_, hc, by simpa using hl, ?_⟩⟩
 ·rw [List.length_append] at hl
  omega
 ·rw [<- h1]
  exact List.take_left
theorem PR.put {w : World} {g : Nat} {cs : List Value} (h : PR w g cs) (ds : List Value) : PR (w.setRow g ds.toArray) g ds := setRow_heap w g _ _ _ _ h
theorem PR.low {w : World} {base g : Nat} (hb : base <= g) (ds : Array Value) : Below base w (w.setRow g ds) := by
 refine ⟨rfl, rfl, rfl, ?_, fun k hk => setRow_other w g k ds (by omega)⟩
 simp [World.setRow]
theorem PR.cell {w : World} {g : Nat} {cs : List Value} (h : PR w g cs) {j : Nat} {u : Value} (hj : cs[j]? = some u) : w.cell? ⟨g, j, none⟩ = some u := by
 unfold PR at h
 simp [World.cell?, h, hj]
theorem gr0 (w : World) (r : Option Nat) : w.grownBy w r := ⟨rfl, rfl, rfl, Nat.le_refl _, fun _ _ _ => rfl⟩
theorem grD {w w1 : World} {r : Option Nat} (h : w.grownBy w1 r) : w.grownBy w1.drew r := ⟨h.os, h.tape, h.output, h.size, h.block⟩
theorem grR {w w1 : World} {g : Nat} (h : w.grownBy w1 (some g)) (ds : Array Value) : w.grownBy (w1.setRow g ds) (some g) :=
 ⟨h.os, h.tape, h.output, by simpa [World.setRow] using h.size, fun k hk hne => (setRow_other w1 g k ds (fun e => hne (by rw [e]))).trans (h.block k hk hne)⟩
theorem grN {w w1 : World} {r : Option Nat} {n : Nat} (h : w.grownBy w1 r) (hn : w.heap.size <= n) (ds : Array Value) : w.grownBy (w1.setRow n ds) r :=
 ⟨h.os, h.tape, h.output, by simpa [World.setRow] using h.size, fun k hk hne => (setRow_other w1 n k ds (by omega)).trans (h.block k hk hne)⟩
theorem grA {w w1 : World} {r : Option Nat} (h : w.grownBy w1 r) (o : Obj) : w.grownBy (w1.alloc o) r :=
 ⟨h.os, h.tape, h.output, by have := h.size; simp; omega, fun k hk hne => (Below.heap_alloc w1 o k (Nat.lt_of_lt_of_le hk h.size)).trans (h.block k hk hne)⟩
theorem run_copy_prs (w : World) (g o dLen dCap : Nat) (a : Addr) (sLen sCap k : Nat) (pre mid post news : List Value) (ty : TypeId)
  (hg : PR w g (pre ++ mid ++ post)) (ho : pre.length = o * 2) (hm : mid.length = k * 2) (hn : news.length = k * 2) (hk : Nat.min sLen dLen = k)
  (hsrc : ∀ j v, news[j]? = some v -> w.cell? (a.add j) = some v) (h1 : ∀ v ∈ news, v.oneCell' = true) :
  (Builtin.copy_ #[34, 34] ty #[.slice (some ⟨g, o * 2, none⟩) dLen dCap, .slice (some a) sLen sCap]).run Tryz.prog w =
   .ok (goInt k) (w.setRow g (pre ++ news ++ post).toArray) := by
 obtain ⟨i0, hi, hz0, hz1, hz2⟩ := info_parts infoP
 have hl := run_loadCells_list (P := Tryz.prog) w a news hsrc
 have hst := run_storeCells_at Tryz.prog g (o * 2) 85 news 0 _ w hg (by simp; omega) h1
 rw [hn] at hl
 have e : (List.take (o * 2 + 0) (pre ++ mid ++ post).toArray.toList ++ news ++ List.drop (o * 2 + 0 + news.length) (pre ++ mid ++ post).toArray.toList) = pre ++ news ++ post := by
  have e1 : (pre ++ mid ++ post).take (o * 2) = pre := by rw [<- ho, List.append_assoc, List.take_left]
  have e2 : (pre ++ mid ++ post).drop (o * 2 + news.length) = post := by
   rw [hn, <- hm, <- ho, <- List.length_append, List.drop_left]
  simp only [Nat.add_zero]
  rw [e1, e2]
 rw [e] at hst
 simp [Builtin.copy_, run_underlying Tryz.underlying34, Builtin.lenOf, Builtin.firstCells, sizeOf, typeInfo, hi, hz1, hk, hl, hst]
theorem run_clear_pr {w : World} {g o c : Nat} (pre post : List Value) (x y : Value) (ty : TypeId) (hg : PR w g (pre ++ [x, y] ++ post)) (ho : pre.length = o * 2) :
  (Builtin.clear_ #[34] ty #[.slice (some ⟨g, o * 2, none⟩) 1 c]).run Tryz.prog w = .ok (.tuple #[]) (w.setRow g (pre ++ [Value.string ⟨#[]⟩, Value.string ⟨#[]⟩] ++ post).toArray) := by
 have hst := run_storeCells_at Tryz.prog g (o * 2) 85 [Value.string ⟨#[]⟩, Value.string ⟨#[]⟩] 0 _ w hg (by simp; omega) (by intro v hv; simp at hv; rcases hv with rfl | rfl <;> rfl)
 have e : (List.take (o * 2 + 0) (pre ++ [x, y] ++ post).toArray.toList ++ [Value.string ⟨#[]⟩, Value.string ⟨#[]⟩] ++ List.drop (o * 2 + 0 + 2) (pre ++ [x, y] ++ post).toArray.toList) = pre ++ [Value.string ⟨#[]⟩, Value.string ⟨#[]⟩] ++ post := by
  have e1 : (pre ++ [x, y] ++ post).take (o * 2) = pre := by rw [<- ho, List.append_assoc, List.take_left]
  have e2 : (pre ++ [x, y] ++ post).drop (o * 2 + 2) = post := by
   rw [<- ho, show pre.length + 2 = (pre ++ [x, y]).length by simp, List.drop_left]
  simp only [Nat.add_zero]
  rw [e1, e2]
 simp only [List.length_cons, List.length_nil, Nat.zero_add, Nat.reduceAdd] at hst
 rw [e] at hst
 have hz : (Builtin.zeroCells (Value.agg #[Value.string ⟨#[]⟩, Value.string ⟨#[]⟩]).cells 1).toList = [Value.string ⟨#[]⟩, Value.string ⟨#[]⟩] := by first | kernel_rfl | simp [Builtin.zeroCells, Value.cells]
 simp [Builtin.clear_, run_underlying Tryz.underlying34, Tryz.zeroValue85, hz, hst]
theorem run_clear_none {w : World} (ad : Addr) (c : Nat) (ty : TypeId) :
  (Builtin.clear_ #[34] ty #[.slice (some ad) 0 c]).run Tryz.prog w = .ok (.tuple #[]) w := by
 simp [Builtin.clear_, run_underlying Tryz.underlying34]
end Go.Proofs.YthcmnkmfhgoddaaGreatDoor.Dp

namespace Go.Proofs.YthcmnkmfhgoddaaGreatDoor.Dp
open Go.RowKit Bnd
open Go.Proofs.YthcmnkmfhgoddaaGreatDoor.Od (Pr SP OwnP ArgP pv pcells pcells_length pcells_append pcells_one infoP)
def OneP (w : World) (nb : Nat) (x : Pr) : Prop := w.heap[nb]? = some (.cells #[.string x.1, .string x.2] 85 (0, 0))
theorem OneP.keep {w w' : World} {nb N : Nat} {x : Pr} (h : OneP w nb x) (hn : nb < N) (hb : Below N w w') : OneP w' nb x := (hb.block nb hn).trans h
theorem OneP.grown {w w' : World} {nb g : Nat} {x : Pr} (h : OneP w nb x) (hg : w.grownBy w' (some g)) (hne : nb ≠ g) : OneP w' nb x :=
 (hg.block nb (Array.getElem?_eq_some_iff.1 h).1 (fun e => hne (Option.some.inj e))).trans h
theorem OneP.cells {w : World} {nb : Nat} {x : Pr} (h : OneP w nb x) : ∀ j v, (pcells [x])[j]? = some v -> w.cell? ((⟨nb, 0, none⟩ : Addr).add j) = some v := by
 intro j v hj
 unfold OneP at h
 rw [Addr.add_lit]
 match j, hj with
 | 0, hj => simp [pcells] at hj; subst hj; simp [World.cell?, h]
 | 1, hj => simp [pcells] at hj; subst hj; simp [World.cell?, h]
 | j + 2, hj => simp [pcells] at hj
theorem PR.cells {w : World} {g o : Nat} {pre mid post : List Value} (h : PR w g (pre ++ mid ++ post)) (ho : pre.length = o * 2) : ∀ j v, mid[j]? = some v -> w.cell? ((⟨g, o * 2, none⟩ : Addr).add j) = some v := by
 intro j v hj
 rw [Addr.add_lit]
 refine h.cell ?_
 have hjl : j < mid.length := (List.getElem?_eq_some_iff.1 hj).1
 rw [List.append_assoc, List.getElem?_append_right (by omega), ho, show o * 2 + j - o * 2 = j by omega, List.getElem?_append_left hjl]
 exact hj
theorem PR.re {w : World} {g : Nat} {cs ds : List Value} (h : PR w g cs) (e : cs = ds) : PR w g ds := e ▸ h
theorem two_of {l : List Value} (h : 2 <= l.length) : ∃ a b r, l = [a, b] ++ r := by
 match l, h with
 | a :: b :: r, _ => exact ⟨a, b, r, rfl⟩
theorem split_len {l : List Value} {k : Nat} (h : k <= l.length) : ∃ a b, l = a ++ b /\ a.length = k := ⟨l.take k, l.drop k, (List.take_append_drop k l).symm, by rw [List.length_take]; omega⟩
theorem parts {ps : List Pr} {n i : Nat} (hn : ps.length = n) (hi : i <= n) : pcells ps = pcells (ps.take i) ++ pcells (ps.drop i) /\ (pcells (ps.take i)).length = i * 2 /\ (pcells (ps.drop i)).length = (n - i) * 2 := by
 refine ⟨by rw [<- pcells_append, List.take_append_drop], ?_, ?_⟩
 ·rw [pcells_length, List.length_take]
  congr 1
  omega
 ·rw [pcells_length, List.length_drop, hn]
theorem drop_one {ps : List Pr} {n i : Nat} (hn : ps.length = n) (hi : i < n) : ∃ p : Pr, pcells (ps.drop i) = [Value.string p.1, Value.string p.2] ++ pcells (ps.drop (i + 1)) := by
 refine ⟨ps[i]'(by omega), ?_⟩
 rw [List.drop_eq_getElem_cons (by omega)]
 rfl
theorem joined (ps : List Pr) (i j : Nat) (x : Pr) : pcells (ps.take i ++ [x] ++ ps.drop j) = pcells (ps.take i) ++ pcells [x] ++ pcells (ps.drop j) := by rw [pcells_append, pcells_append]
theorem joined0 (ps : List Pr) (i j : Nat) : pcells (ps.take i ++ [] ++ ps.drop j) = pcells (ps.take i) ++ pcells (ps.drop j) := by rw [List.append_nil, pcells_append]
theorem shift_runs {w : World} {base g n cap i nb : Nat} {ps : List Pr} {x : Pr} (hown : OwnP w base (.slice (some ⟨g, 0, none⟩) n cap) ps) (hn : ps.length = n) (hi : i < n) (hroom : n + 1 <= cap) (hx : OneP w nb x) (hnb : nb < base) :
  ∃ W1 W2, (∀ ty c c', (Builtin.copy_ #[34, 34] ty #[.slice (some ⟨g, (i + 1) * 2, none⟩) (n - i) c, .slice (some ⟨g, i * 2, none⟩) (n + 1 - i) c']).run Tryz.prog w.drew = .ok (goInt ((n - i : Nat) : Int)) W1) /\
   (∀ ty c c', (Builtin.copy_ #[34, 34] ty #[.slice (some ⟨g, i * 2, none⟩) (n + 1 - i) c, .slice (some ⟨nb, 0, none⟩) 1 c']).run Tryz.prog W1 = .ok (goInt ((1 : Nat) : Int)) W2) /\
   OwnP W2 base (.slice (some ⟨g, 0, none⟩) (n + 1) cap) (ps.take i ++ [x] ++ ps.drop i) /\ w.grownBy W2 (some g) := by
 obtain ⟨R, h0, hl, hbg, _, hcm⟩ := PR.of_own hown
 obtain ⟨e1, e2, e3⟩ := parts hn (Nat.le_of_lt hi)
 obtain ⟨p, e4⟩ := drop_one hn hi
 have e5 : (pcells ps).length = n * 2 := by rw [pcells_length, hn]
 obtain ⟨y1, y2, R', rfl⟩ := two_of (l := R) (by rw [List.length_append, e5] at hl; omega)
 have e6 : (pcells (ps.drop (i + 1))).length = (n - (i + 1)) * 2 := by rw [pcells_length, List.length_drop, hn]
 -- the first copy
 have a1 : PR w.drew g ((pcells (ps.take i) ++ [Value.string p.1, Value.string p.2]) ++ (pcells (ps.drop (i + 1)) ++ [y1, y2]) ++ R') := h0.re (by rw [e1, e4]; simp)
 have s1 : PR w.drew g (pcells (ps.take i) ++ pcells (ps.drop i) ++ ([y1, y2] ++ R')) := h0.re (by rw [e1])
 have r1 := fun ty c c' => run_copy_prs w.drew g (i + 1) (n - i) c ⟨g, i * 2, none⟩ (n + 1 - i) c' (n - i) _ _ _ (pcells (ps.drop i)) ty a1 (by simp [e2]; omega) (by simp [e6]; omega) e3 (by simp only [Nat.min_def]; split <;> omega) (s1.cells e2) (pcells_one _)
 obtain ⟨W1, hW1⟩ : ∃ W1, w.drew.setRow g ((pcells (ps.take i) ++ [Value.string p.1, Value.string p.2]) ++ pcells (ps.drop i) ++ R').toArray = W1 := ⟨_, rfl⟩
 rw [hW1] at r1
 have b1 : w.grownBy W1 (some g) := hW1 ▸ grR (grD (gr0 w _)) _
 have a2 : PR W1 g (pcells (ps.take i) ++ [Value.string p.1, Value.string p.2] ++ (pcells (ps.drop i) ++ R')) := by
  have : PR W1 g ((pcells (ps.take i) ++ [Value.string p.1, Value.string p.2]) ++ pcells (ps.drop i) ++ R') := hW1 ▸ a1.put _
  exact this.re (by simp)
 -- the second copy
 have x2 : OneP W1 nb x := hx.grown b1 (by omega)
 have r2 := fun ty c c' => run_copy_prs W1 g i (n + 1 - i) c ⟨nb, 0, none⟩ 1 c' 1 _ _ _ (pcells [x]) ty a2 e2 rfl rfl (by simp only [Nat.min_def]; split <;> omega) x2.cells (pcells_one _)
 obtain ⟨W2, hW2⟩ : ∃ W2, W1.setRow g (pcells (ps.take i) ++ pcells [x] ++ (pcells (ps.drop i) ++ R')).toArray = W2 := ⟨_, rfl⟩
 rw [hW2] at r2
 have b2 : w.grownBy W2 (some g) := hW2 ▸ grR b1 _
 have a3 : PR W2 g (pcells (ps.take i ++ [x] ++ ps.drop i) ++ R') := by
  have : PR W2 g (pcells (ps.take i) ++ pcells [x] ++ (pcells (ps.drop i) ++ R')) := hW2 ▸ a2.put _
  exact this.re (by rw [joined]; simp)
 refine ⟨W1, W2, r1, r2, ?_, b2⟩
 have hlen : (ps.take i ++ [x] ++ ps.drop i).length = n + 1 := by simp; omega
 have key := a3.own (cap := cap) (base := base) (by
  rw [List.length_append, e5] at hl
  rw [List.length_append, pcells_length, hlen]
  simp at hl
  omega) hbg hcm
 rwa [hlen] at key
theorem grow_runs {w : World} {base g n cap i nb : Nat} {ps : List Pr} {x : Pr} (hown : OwnP w base (.slice (some ⟨g, 0, none⟩) n cap) ps) (hn : ps.length = n) (hi : i < n) (hroom : cap < n + 1) (hx : OneP w nb x) (hnb : nb < base) (hbase : base <= w.heap.size) (hl : n <= 100000) :
  ∃ h G W1 W2 W3, n + 1 <= G /\ G <= 9223372036854775807 /\
   (∀ ty, (Builtin.append_ #[34, 3] ty #[.slice (some ⟨g, 0, none⟩) i cap, .int .i64 ((n + 1 - i : Nat) : Int)]).run Tryz.prog w = .ok (.slice (some ⟨h, 0, none⟩) (n + 1) G) W1) /\
   (∀ ty c c', (Builtin.copy_ #[34, 34] ty #[.slice (some ⟨h, i * 2, none⟩) (n + 1 - i) c, .slice (some ⟨nb, 0, none⟩) 1 c']).run Tryz.prog W1 = .ok (goInt ((1 : Nat) : Int)) W2) /\
   (∀ ty c c', (Builtin.copy_ #[34, 34] ty #[.slice (some ⟨h, (i + 1) * 2, none⟩) (n - i) c, .slice (some ⟨g, i * 2, none⟩) (n - i) c']).run Tryz.prog W2.drew = .ok (goInt ((n - i : Nat) : Int)) W3) /\
   OwnP W3 base (.slice (some ⟨h, 0, none⟩) (n + 1) G) (ps.take i ++ [x] ++ ps.drop i) /\ w.grownBy W3 (some g) := by
 obtain ⟨R, h0, hlr, hbg, _, hcm⟩ := PR.of_own hown
 obtain ⟨e1, e2, e3⟩ := parts hn (Nat.le_of_lt hi)
 obtain ⟨i0, hi0, hz0, hz1, hz2⟩ := info_parts infoP
 have hgw : g < w.heap.size := (Array.getElem?_eq_some_iff.1 h0).1
 have s0 : PR w.drew g ([] ++ pcells (ps.take i) ++ (pcells (ps.drop i) ++ R)) := h0.re (by rw [e1]; simp)
 have hold : (Builtin.firstCells i0.size i (.slice (some ⟨g, 0, none⟩) i cap)).run Tryz.prog w.drew = .ok (pcells (ps.take i)).toArray w.drew := by
  rw [hz1]
  exact run_firstCells_some w.drew 2 i ⟨g, 0, none⟩ i cap (pcells (ps.take i)) (by rw [e2]) (s0.cells (o := 0) rfl)
 obtain ⟨G, hG⟩ : ∃ G, grownCap w (n + 1) cap 85 = G := ⟨_, rfl⟩
 have hik : i + (n + 1 - i) = n + 1 := by omega
 obtain ⟨Z, hZ⟩ : ∃ Z, (Builtin.zeroCells (Value.agg #[.string Od.E0, .string Od.E0]).cells (n + 1 - i)).toList = Z := ⟨_, rfl⟩
 obtain ⟨Z', hZ'⟩ : ∃ Z, (Builtin.zeroCells (Value.agg #[.string Od.E0, .string Od.E0]).cells (G - (n + 1))).toList = Z := ⟨_, rfl⟩
 have lZ : Z.length = (n + 1 - i) * 2 := by rw [<- hZ, Array.length_toList, size_zeroCells]; rfl
 have lZ' : Z'.length = (G - (n + 1)) * 2 := by rw [<- hZ', Array.length_toList, size_zeroCells]; rfl
 have hGn : n + 1 <= G := by rw [<- hG]; exact grownCap_ge w _ _ _
 have hGm : G <= maxLen := by rw [<- hG]; exact grownCap_le_maxLen w _ _ _ (by unfold maxLen; omega)
 have hG63 : G <= 9223372036854775807 := by unfold maxLen at hGm; omega
 obtain ⟨W1, hW1⟩ : ∃ W1, w.drew.alloc (.cells (pcells (ps.take i) ++ Z ++ Z').toArray 85) = W1 := ⟨_, rfl⟩
 have r0 : ∀ ty, (Builtin.append_ #[34, 3] ty #[.slice (some ⟨g, 0, none⟩) i cap, .int .i64 ((n + 1 - i : Nat) : Int)]).run Tryz.prog w = .ok (.slice (some ⟨w.heap.size, 0, none⟩) (n + 1) G) W1 := fun ty => by
  have h := Lib.run_append_grow_zeros w 34 3 ty 85 i0 (.agg #[.string Od.E0, .string Od.E0]) .i64 .i64 Tryz.underlying34 Tryz.underlying3 hi0 hz0 (some ⟨g, 0, none⟩) i cap (pcells (ps.take i)) hold (n + 1 - i) (by omega) (by rw [hz1]; omega) (by omega) (by omega) (by rw [hz2]; omega) (by rw [hz2, hik]; exact growslice_fits (by omega) (by omega))
  rw [hik, hG] at h
  have ez : ∀ (A : List Value) (B C : Array Value), A.toArray ++ B ++ C = (A ++ B.toList ++ C.toList).toArray := fun A B C => by simp
  rw [h, ez, hZ, hZ', hW1]
 have b1 : w.grownBy W1 (some g) := hW1 ▸ grA (grD (gr0 w _)) _
 have a1 : PR W1 w.heap.size (pcells (ps.take i) ++ Z ++ Z') := by
  unfold PR
  rw [<- hW1]
  exact heap_alloc_new w.drew _
 obtain ⟨z1, z2, Y, rfl⟩ := two_of (l := Z) (by omega)
 have lY : Y.length = (n - i) * 2 := by simp at lZ; omega
 have a1' : PR W1 w.heap.size (pcells (ps.take i) ++ [z1, z2] ++ (Y ++ Z')) := a1.re (by simp)
 have x1 : OneP W1 nb x := hx.grown b1 (by omega)
 have r1 := fun ty c c' => run_copy_prs W1 w.heap.size i (n + 1 - i) c ⟨nb, 0, none⟩ 1 c' 1 _ _ _ (pcells [x]) ty a1' e2 rfl rfl (by simp only [Nat.min_def]; split <;> omega) x1.cells (pcells_one _)
 obtain ⟨W2, hW2⟩ : ∃ W2, W1.setRow w.heap.size (pcells (ps.take i) ++ pcells [x] ++ (Y ++ Z')).toArray = W2 := ⟨_, rfl⟩
 rw [hW2] at r1
 have b2 : w.grownBy W2 (some g) := hW2 ▸ grN b1 (Nat.le_refl _) _
 have a2 : PR W2.drew w.heap.size ((pcells (ps.take i) ++ pcells [x]) ++ Y ++ Z') := by
  have : PR W2 w.heap.size (pcells (ps.take i) ++ pcells [x] ++ (Y ++ Z')) := hW2 ▸ a1'.put _
  exact this.re (by simp)
 have s2 : PR W2.drew g (pcells (ps.take i) ++ pcells (ps.drop i) ++ R) := by
  have k1 : W1.heap[g]? = w.heap[g]? := by rw [<- hW1]; exact Below.heap_alloc _ _ _ hgw
  have k2 : W2.heap[g]? = W1.heap[g]? := by rw [<- hW2]; exact setRow_other W1 _ g _ (by omega)
  have : PR W2 g (pcells ps ++ R) := (k2.trans k1).trans h0
  exact this.re (by rw [e1])
 have e7 : (pcells (ps.take i) ++ pcells [x]).length = (i + 1) * 2 := by rw [List.length_append, e2, pcells_length]; simp; omega
 have r2 := fun ty c c' => run_copy_prs W2.drew w.heap.size (i + 1) (n - i) c ⟨g, i * 2, none⟩ (n - i) c' (n - i) _ _ _ (pcells (ps.drop i)) ty a2 e7 lY e3 (by simp only [Nat.min_def]; split <;> omega) (s2.cells e2) (pcells_one _)
 obtain ⟨W3, hW3⟩ : ∃ W3, W2.drew.setRow w.heap.size ((pcells (ps.take i) ++ pcells [x]) ++ pcells (ps.drop i) ++ Z').toArray = W3 := ⟨_, rfl⟩
 rw [hW3] at r2
 have b3 : w.grownBy W3 (some g) := hW3 ▸ grN (grD b2) (Nat.le_refl _) _
 have a3 : PR W3 w.heap.size (pcells (ps.take i ++ [x] ++ ps.drop i) ++ Z') := by
  have : PR W3 w.heap.size ((pcells (ps.take i) ++ pcells [x]) ++ pcells (ps.drop i) ++ Z') := hW3 ▸ a2.put _
  exact this.re (by rw [joined])
 refine ⟨w.heap.size, G, W1, W2, W3, hGn, hG63, r0, r1, r2, ?_, b3⟩
 have hlen : (ps.take i ++ [x] ++ ps.drop i).length = n + 1 := by simp; omega
 have key := a3.own (cap := G) (base := base) (by rw [List.length_append, pcells_length, hlen, lZ']; omega) hbase hGm
 rwa [hlen] at key
theorem place_runs {w : World} {base g n cap i nb : Nat} {ps : List Pr} {x : Pr} (hown : OwnP w base (.slice (some ⟨g, 0, none⟩) n cap) ps) (hn : ps.length = n) (hi : i + 1 < n) (hx : OneP w nb x) :
  ∃ W1 W2, (∀ ty c c', (Builtin.copy_ #[34, 34] ty #[.slice (some ⟨g, i * 2, none⟩) (n - i) c, .slice (some ⟨nb, 0, none⟩) 1 c']).run Tryz.prog w.drew = .ok (goInt ((1 : Nat) : Int)) W1) /\
   (∀ ty c c', (Builtin.copy_ #[34, 34] ty #[.slice (some ⟨g, (i + 1) * 2, none⟩) (n - (i + 1)) c, .slice (some ⟨g, (i + 1) * 2, none⟩) (n - (i + 1)) c']).run Tryz.prog W1.drew = .ok (goInt ((n - (i + 1) : Nat) : Int)) W2) /\
   OwnP W2 base (.slice (some ⟨g, 0, none⟩) n cap) (ps.take i ++ [x] ++ ps.drop (i + 1)) /\ w.grownBy W2 (some g) := by
 obtain ⟨R, h0, hl, hbg, _, hcm⟩ := PR.of_own hown
 obtain ⟨e1, e2, e3⟩ := parts hn (show i <= n by omega)
 obtain ⟨p, e4⟩ := drop_one hn (show i < n by omega)
 have e5 : (pcells ps).length = n * 2 := by rw [pcells_length, hn]
 have e6 : (pcells (ps.drop (i + 1))).length = (n - (i + 1)) * 2 := by rw [pcells_length, List.length_drop, hn]
 have a1 : PR w.drew g (pcells (ps.take i) ++ [Value.string p.1, Value.string p.2] ++ (pcells (ps.drop (i + 1)) ++ R)) := h0.re (by rw [e1, e4]; simp)
 have x1 : OneP w.drew nb x := hx
 have r1 := fun ty c c' => run_copy_prs w.drew g i (n - i) c ⟨nb, 0, none⟩ 1 c' 1 _ _ _ (pcells [x]) ty a1 e2 rfl rfl (by simp only [Nat.min_def]; split <;> omega) x1.cells (pcells_one _)
 obtain ⟨W1, hW1⟩ : ∃ W1, w.drew.setRow g (pcells (ps.take i) ++ pcells [x] ++ (pcells (ps.drop (i + 1)) ++ R)).toArray = W1 := ⟨_, rfl⟩
 rw [hW1] at r1
 have b1 : w.grownBy W1 (some g) := hW1 ▸ grR (grD (gr0 w _)) _
 have a2 : PR W1.drew g ((pcells (ps.take i) ++ pcells [x]) ++ pcells (ps.drop (i + 1)) ++ R) := by
  have : PR W1 g (pcells (ps.take i) ++ pcells [x] ++ (pcells (ps.drop (i + 1)) ++ R)) := hW1 ▸ a1.put _
  exact this.re (by simp)
 have e7 : (pcells (ps.take i) ++ pcells [x]).length = (i + 1) * 2 := by rw [List.length_append, e2, pcells_length]; simp; omega
 have r2 := fun ty c c' => run_copy_prs W1.drew g (i + 1) (n - (i + 1)) c ⟨g, (i + 1) * 2, none⟩ (n - (i + 1)) c' (n - (i + 1)) _ _ _ (pcells (ps.drop (i + 1))) ty a2 e7 e6 e6 (by simp only [Nat.min_def]; split <;> omega) (a2.cells e7) (pcells_one _)
 obtain ⟨W2, hW2⟩ : ∃ W2, W1.drew.setRow g ((pcells (ps.take i) ++ pcells [x]) ++ pcells (ps.drop (i + 1)) ++ R).toArray = W2 := ⟨_, rfl⟩
 rw [hW2] at r2
 have b2 : w.grownBy W2 (some g) := hW2 ▸ grR (grD b1) _
 have a3 : PR W2 g (pcells (ps.take i ++ [x] ++ ps.drop (i + 1)) ++ R) := by
  have : PR W2 g ((pcells (ps.take i) ++ pcells [x]) ++ pcells (ps.drop (i + 1)) ++ R) := hW2 ▸ a2.put _
  exact this.re (by rw [joined])
 refine ⟨W1, W2, r1, r2, ?_, b2⟩
 have hlen : (ps.take i ++ [x] ++ ps.drop (i + 1)).length = n := by simp; omega
 have key := a3.own (cap := cap) (base := base) (by
  rw [List.length_append, e5] at hl
  rw [List.length_append, pcells_length, hlen]
  exact hl) hbg hcm
 rwa [hlen] at key
theorem less_runs {w : World} {base g n cap i : Nat} {ps : List Pr} (hown : OwnP w base (.slice (some ⟨g, 0, none⟩) n cap) ps) (hn : ps.length = n) (hi : i + 1 < n) :
  ∃ W1 W2, (∀ ty c c', (Builtin.copy_ #[34, 34] ty #[.slice (some ⟨g, i * 2, none⟩) (n - 1 - i) c, .slice (some ⟨g, (i + 1) * 2, none⟩) (n - (i + 1)) c']).run Tryz.prog w.drew.drew = .ok (goInt ((n - (i + 1) : Nat) : Int)) W1) /\
   (∀ ty c, (Builtin.clear_ #[34] ty #[.slice (some ⟨g, (n - 1) * 2, none⟩) 1 c]).run Tryz.prog W1 = .ok (.tuple #[]) W2) /\
   OwnP W2 base (.slice (some ⟨g, 0, none⟩) (n - 1) cap) (ps.take i ++ [] ++ ps.drop (i + 1)) /\ w.grownBy W2 (some g) := by
 obtain ⟨R, h0, hl, hbg, _, hcm⟩ := PR.of_own hown
 obtain ⟨e1, e2, e3⟩ := parts hn (show i <= n by omega)
 obtain ⟨p, e4⟩ := drop_one hn (show i < n by omega)
 have e5 : (pcells ps).length = n * 2 := by rw [pcells_length, hn]
 have e6 : (pcells (ps.drop (i + 1))).length = (n - (i + 1)) * 2 := by rw [pcells_length, List.length_drop, hn]
 obtain ⟨M, Q, hMQ, hM⟩ := split_len (l := pcells (ps.drop i)) (k := (n - (i + 1)) * 2) (by omega)
 have hQ : Q.length = 2 := by
  have := congrArg List.length hMQ
  rw [List.length_append] at this
  omega
 obtain ⟨q1, q2, Q', rfl⟩ := two_of (l := Q) (by omega)
 obtain rfl : Q' = [] := List.length_eq_zero_iff.1 (by have h := hQ; simp only [List.length_append, List.length_cons, List.length_nil] at h; omega)
 have a1 : PR w.drew.drew g (pcells (ps.take i) ++ M ++ ([q1, q2] ++ R)) := h0.re (by rw [e1, hMQ]; simp)
 have s1 : PR w.drew.drew g ((pcells (ps.take i) ++ [Value.string p.1, Value.string p.2]) ++ pcells (ps.drop (i + 1)) ++ R) := h0.re (by rw [e1, e4]; simp)
 have e7 : (pcells (ps.take i) ++ [Value.string p.1, Value.string p.2]).length = (i + 1) * 2 := by rw [List.length_append, e2]; simp; omega
 have r1 := fun ty c c' => run_copy_prs w.drew.drew g i (n - 1 - i) c ⟨g, (i + 1) * 2, none⟩ (n - (i + 1)) c' (n - (i + 1)) _ _ _ (pcells (ps.drop (i + 1))) ty a1 e2 hM e6 (by simp only [Nat.min_def]; split <;> omega) (s1.cells e7) (pcells_one _)
 obtain ⟨W1, hW1⟩ : ∃ W1, w.drew.drew.setRow g (pcells (ps.take i) ++ pcells (ps.drop (i + 1)) ++ ([q1, q2] ++ R)).toArray = W1 := ⟨_, rfl⟩
 rw [hW1] at r1
 have b1 : w.grownBy W1 (some g) := hW1 ▸ grR (grD (grD (gr0 w _))) _
 have a2 : PR W1 g ((pcells (ps.take i) ++ pcells (ps.drop (i + 1))) ++ [q1, q2] ++ R) := by
  have : PR W1 g (pcells (ps.take i) ++ pcells (ps.drop (i + 1)) ++ ([q1, q2] ++ R)) := hW1 ▸ a1.put _
  exact this.re (by simp)
 have r2 := fun ty c => run_clear_pr (c := c) (o := n - 1) _ _ q1 q2 ty a2 (by rw [List.length_append, e2, e6]; omega)
 obtain ⟨W2, hW2⟩ : ∃ W2, W1.setRow g ((pcells (ps.take i) ++ pcells (ps.drop (i + 1))) ++ [Value.string ⟨#[]⟩, Value.string ⟨#[]⟩] ++ R).toArray = W2 := ⟨_, rfl⟩
 rw [hW2] at r2
 have b2 : w.grownBy W2 (some g) := hW2 ▸ grR b1 _
 have a3 : PR W2 g (pcells (ps.take i ++ [] ++ ps.drop (i + 1)) ++ ([Value.string ⟨#[]⟩, Value.string ⟨#[]⟩] ++ R)) := by
  have : PR W2 g ((pcells (ps.take i) ++ pcells (ps.drop (i + 1))) ++ [Value.string ⟨#[]⟩, Value.string ⟨#[]⟩] ++ R) := hW2 ▸ a2.put _
  exact this.re (by rw [joined0]; simp)
 refine ⟨W1, W2, r1, r2, ?_, b2⟩
 have hlen : (ps.take i ++ [] ++ ps.drop (i + 1)).length = n - 1 := by simp; omega
 have key := a3.own (cap := cap) (base := base) (by
  rw [List.length_append, e5] at hl
  rw [List.length_append, pcells_length, hlen]
  simp
  omega) hbg hcm
 rwa [hlen] at key
end Go.Proofs.YthcmnkmfhgoddaaGreatDoor.Dp

namespace Go.Proofs.YthcmnkmfhgoddaaGreatDoor.Dp
open Go.RowKit Bnd
open Go.Proofs.YthcmnkmfhgoddaaGreatDoor.Od (Pr SP OwnP ArgP pv pcells pcells_length pcells_append pcells_one infoP news_of)
inductive NowP (w : World) (base : Nat) : Value -> List Pr -> Prop
 | none : NowP w base (.slice none 0 0) []
 | one (nb : Nat) (x : Pr) (h : OneP w nb x) (hb : nb < base) : NowP w base (.slice (some ⟨nb, 0, none⟩) 1 1) [x]
theorem NowP.keep {w w' : World} {base : Nat} {v : Value} {xs : List Pr} (h : NowP w base v xs) (hb : Below base w w') : NowP w' base v xs := by
 cases h with
 | none => exact .none
 | one nb x h hn => exact .one nb x (h.keep hn hb) hn
theorem app_runs {w : World} {base n : Nat} {v u : Value} {ps : List Pr} {x : Pr} {nb : Nat} (hown : OwnP w base v ps) (hn : ps.length = n) (hx : OneP w nb x) (hu : u = .slice (some ⟨nb, 0, none⟩) 1 1) (hl : n <= 100000) (hbase : base <= w.heap.size) :
  ∃ A c w', (∀ ty, (Builtin.append_ #[34, 34] ty #[v, u]).run Tryz.prog w = .ok (.slice A (n + 1) c) w') /\ OwnP w' base (.slice A (n + 1) c) (ps ++ [x]) /\ w.grownBy w' v.ownBlock := by
 obtain ⟨i0, hi, hz0, hz1, hz2⟩ := info_parts infoP
 subst hu
 have run := fun ty => run_append_own (P := Tryz.prog) (w := w) base 34 ty 85 i0 (.agg #[.string Od.E0, .string Od.E0]) 2 32 Tryz.underlying34 hi hz0 hz1 hz2 rfl (by decide) v ps.length (pcells ps) hown ⟨nb, 0, none⟩ 1 1 (pcells [x]) rfl hx.cells (pcells_one _) (by unfold maxLen; omega) (by omega) hbase
 obtain ⟨v', w', k1, k2, k3, _⟩ := run 0
 have k2' : OwnP w' base v' (ps ++ [x]) := by
  show w'.ownsRow _ _ _ _ _ _
  rw [List.length_append, pcells_append]
  exact k2
 obtain ⟨A, c, rfl⟩ := (SP.of_own k2').form
 rw [List.length_append, hn, List.length_singleton] at k1 k2'
 refine ⟨A, c, w', fun ty => k1, k2', k3⟩
theorem slice_tailP (A : Option Addr) (N c K : Nat) (h : K <= N) : ∃ A2, ∀ w : World, (Instr.slice 34 (.slice A N c) (some (.int .i64 (K : Int))) none none).run Tryz.prog w = .ok (.slice A2 (N - K) (c - K)) w := by
 refine ⟨if c = K then A else A.map (fun a => a.add (K * 2)), fun w => ?_⟩
 have k1 : ((K : Int) <= (N : Int)) = True := eq_true (by omega)
 have k2 : (0 <= (K : Int)) = True := eq_true (by omega)
 simp [go_sem, Tryz.underlying34, Tryz.sizeOf85, k1, k2]
set_option maxHeartbeats 8000000 in
set_option maxRecDepth 100000 in
theorem insert_any (A : Option Addr) (n cap base i : Nat) (ps : List Pr) (v : Value) (xs : List Pr) (w : World) (hown : OwnP w base (.slice A n cap) ps) (hn : ps.length = n) (hi : i <= n) (hv : NowP w base v xs) (hl : n <= 100000) (hbase : base <= w.heap.size) :
  Calls Tryz.prog 154 #[.slice A n cap, .int .i64 (i : Int), v] w fun e w' => ∃ v', e = .returned v' /\ OwnP w' base v' (ps.take i ++ xs ++ ps.drop i) /\ w.grownBy w' (Value.slice A n cap).ownBlock := by
 have hcap : (A = none /\ n = 0 /\ cap = 0) \/ ∃ g, A = some ⟨g, 0, none⟩ /\ n <= cap /\ cap <= 9223372036854775807 /\ base <= g /\ g < w.heap.size /\ ∃ R, PR w g (pcells ps ++ R) := by
  rcases hown.2 with ⟨e, _⟩ | ⟨g, c, cur, e, h1, h2, h3, h4, h5, h6⟩
  ·injection e with e1 e2 e3
   exact .inl ⟨e1, e2, e3⟩
  ·injection e with e1 e2 e3
   subst e1 e2 e3
   obtain ⟨R, k, _⟩ := PR.of_own hown
   refine .inr ⟨g, rfl, by omega, by unfold maxLen at h4; omega, h1, (Array.getElem?_eq_some_iff.1 h2).1, R, k⟩
 cases hv with
 | none =>
  have e : ps.take i ++ [] ++ ps.drop i = ps := by simp
  rw [e]
  have HO := Lib.hid hown
  obtain ⟨A2, hA2⟩ := slice_tailP A n cap i hi
  clear hown hn hi hbase hl e hcap
  go_enter Tryz.func154, Tryz.ntmps154
  go_wp2_with fail
  go_ret
  exact ⟨_, rfl, HO.out, gr0 _ _⟩
 | one nb x hx hnb =>
  by_cases hin : i = n
  ·subst hin
   have e : ps.take i ++ [x] ++ ps.drop i = ps ++ [x] := by rw [<- hn]; simp
   rw [e]
   obtain ⟨A', c', w', hrun, ho, hb⟩ := app_runs hown hn hx rfl hl hbase
   have HR := Lib.hid hrun
   have HO := Lib.hid ho
   have HB := Lib.hid hb
   have f0 : ((1 : Int) == 0) = false := rfl
   have f3 : ((i : Int) == (i : Int)) = true := by simp
   obtain ⟨A2, hA2⟩ := slice_tailP A i cap i (Nat.le_refl _)
   clear hown hn hi hbase hl hrun ho hb e hx hcap
   go_enter Tryz.func154, Tryz.ntmps154
   go_wp2_with (at_builtin; refine Ds.wpList_run_builtin rfl rfl rfl rfl (HR.out _) ?_)
   go_ret
   exact ⟨_, rfl, HO.out, HB.out⟩
  ·have hin' : i < n := by omega
   rcases hcap with ⟨rfl, rfl, rfl⟩ | ⟨g, rfl, h1, h2, hbg, hgw, R, hPR⟩
   ·omega
   have f0 : ((1 : Int) == 0) = false := rfl
   have f3 : ((i : Int) == (n : Int)) = false := by simp; omega
   have f4 : ((i : Int) = (n : Int)) = False := eq_false (by omega)
   have f1 : ((i : Int) <= (n : Int)) = True := eq_true (by omega)
   have f2 : ((0 : Int) <= (i : Int)) = True := eq_true (by omega)
   have f5 : ((i : Int) <= (cap : Int)) = True := eq_true (by omega)
   have f6 : (cap = i) = False := eq_false (by omega)
   have f8 : IntKind.i64.wrap ((i : Int) + 1) = (i : Int) + 1 := by rw [IntKind.wrap_i64]; omega
   have f9 : IntKind.i64.wrap ((n : Int) + 1) = (n : Int) + 1 := by rw [IntKind.wrap_i64]; omega
   have f10 : IntKind.i64.wrap ((n : Int) + 1 - (i : Int)) = ((n + 1 - i : Nat) : Int) := by rw [IntKind.wrap_i64]; omega
   have f11 : ((0 : Int) <= (i : Int) + 1) = True := eq_true (by omega)
   by_cases hroom : n + 1 <= cap
   ·obtain ⟨W1, W2, r1, r2, ho, hb⟩ := shift_runs hown hn hin' hroom hx hnb
    have hov : ∀ c, (Extern.SlicesOverlaps.overlaps #[34, 34] #[4] #[.slice (some ⟨nb, 0, none⟩) 1 1, .slice (some ⟨g, (i + 1) * 2, none⟩) (n - i) c]).run Tryz.prog w = .ok (.bool false) w := fun c => by
     refine Lib.run_overlaps_apart w 34 4 85 Tryz.underlying34 2 (fun _ => by obtain ⟨i0, hi0, _, hz1, _⟩ := info_parts infoP; simp [Go.sizeOf, typeInfo, hi0, hz1]) ⟨nb, 0, none⟩ ⟨g, (i + 1) * 2, none⟩ 1 1 (n - i) c (by show nb ≠ g; omega) 85 85 2 (pcells ps ++ R).length ?_ ?_ ?_ ?_ ?_
     ·unfold OneP at hx; simp [World.shape?, hx]
     ·unfold PR at hPR; simp [World.shape?, hPR]
     ·rw [List.length_append, pcells_length]; omega
     ·unfold OneP at hx; simp [World.frozen?, hx]
     ·unfold OneP at hx; simp [World.frozen?, hx]
    have R1 := Lib.hid r1
    have R2 := Lib.hid r2
    have HO := Lib.hid ho
    have HB := Lib.hid hb
    have HV := Lib.hid hov
    have f7 : ((n : Int) + 1 > (cap : Int)) = False := eq_false (by omega)
    have f12 : ((cap : Int) < (n : Int) + 1) = False := eq_false (by omega)
    have f13 : ((n : Int) + 1 <= (cap : Int)) = True := eq_true (by omega)
    have f14 : ((0 : Int) <= (n : Int) + 1) = True := eq_true (by omega)
    have f15 : ((i : Int) + 1 <= (n : Int) + 1) = True := eq_true (by omega)
    have f16 : ((i : Int) <= (n : Int) + 1) = True := eq_true (by omega)
    have f17 : (cap = i + 1) = False := eq_false (by omega)
    have f18 : n + 1 - (i + 1) = n - i := by omega
    clear hown hn hi hbase hl r1 r2 ho hb hov hx hin hin' hPR hroom hgw hbg h1
    go_enter Tryz.func154, Tryz.ntmps154
    go_wp2_with fail
    rw [run_callFunc_extern Tryz.func155 (by kernel_rfl) (by kernel_rfl) (by kernel_rfl) (e := Extern.SlicesOverlaps.overlaps #[34, 34] #[4]) (by kernel_rfl), HV.out]
    go_wp2_with fail
    refine St.wp_region_tail 8 (fun _ wx => wx = w.drew) (by kernel_rfl) (by kernel_rfl) (by kernel_rfl) (by kernel_rfl) (by decide) rfl ?_
    simp only [List.take, List.drop]
    repeat
     (apply St.step_give
      ·rfl
      ·rintro L wx rfl hcl hrd
       go_simp
       try with_reducible rfl
      ·exact fun L wx hS => hS
      simp only [Act.put, St.pu])
    refine St.step_last ?_
    rintro L wx rfl -
    go_wp2_with fail
    rw [R1.out]
    go_wp2_with fail
    rw [R2.out]
    go_wp2_with fail
    go_ret
    exact ⟨_, rfl, HO.out, HB.out⟩
   ·obtain ⟨h, G, W1, W2, W3, hG1, hG2, r0, r1, r2, ho, hb⟩ := grow_runs hown hn hin' (by omega) hx hnb hbase hl
    have R0 := Lib.hid r0
    have R1 := Lib.hid r1
    have R2 := Lib.hid r2
    have HO := Lib.hid ho
    have HB := Lib.hid hb
    have f7 : ((n : Int) + 1 > (cap : Int)) = True := eq_true (by omega)
    have f12 : ((cap : Int) < (n : Int) + 1) = True := eq_true (by omega)
    have f13 : ((i : Int) <= (G : Int)) = True := eq_true (by omega)
    have f14 : ((i : Int) + 1 <= (n : Int) + 1) = True := eq_true (by omega)
    have f15 : ((i : Int) <= (n : Int) + 1) = True := eq_true (by omega)
    have f16 : (G = i) = False := eq_false (by omega)
    have f17 : (G = i + 1) = False := eq_false (by omega)
    have f18 : n + 1 - (i + 1) = n - i := by omega
    clear hown hn hi hbase hl r0 r1 r2 ho hb hx hin hin' hPR hroom hgw hbg h1
    go_enter Tryz.func154, Tryz.ntmps154
    go_wp2_with (at_builtin; refine Lib.wpList_append_run _ rfl _ _ _ _ rfl _ _ rfl rfl _ _ (R0.out _) ?_)
    rw [R1.out]
    go_wp2_with fail
    refine St.wp_region_tail 8 (fun _ wx => wx = W2.drew) (by kernel_rfl) (by kernel_rfl) (by kernel_rfl) (by kernel_rfl) (by decide) rfl ?_
    simp only [List.take, List.drop]
    repeat
     (apply St.step_give
      ·rfl
      ·rintro L wx rfl hcl hrd
       go_simp
       try with_reducible rfl
      ·exact fun L wx hS => hS
      simp only [Act.put, St.pu])
    refine St.step_last ?_
    rintro L wx rfl -
    go_wp2_with fail
    rw [R2.out]
    go_wp2_with fail
    go_ret
    exact ⟨_, rfl, HO.out, HB.out⟩
end Go.Proofs.YthcmnkmfhgoddaaGreatDoor.Dp

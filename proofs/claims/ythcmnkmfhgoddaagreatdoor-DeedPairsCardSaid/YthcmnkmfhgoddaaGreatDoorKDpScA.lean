/-
  A scan is a run: those that stand one behind the other from a place on. Reckoned without a program. No condition.
  The program's within: a closure that goes through the pairs of a list from a place on, as long as their keys lie in a bound, for every loop's body that keeps its boxes. Conditions: pairs by rising keys, at most 100,000.
  The program's Scan: a range over within's function, that is left by a return in its body. Conditions: pairs by rising keys, at most 100,000; the list has room for what it holds.
  The document's Scan of a list of pairs. Condition: at most 100,000 pairs.
-/
import Derived.Test.YthcmnkmfhgoddaaGreatDoorKDpTA
import Derived.RangeFuncNested
import Derived.RangeFuncBox
import Derived.Test.YthcmnkmfhgoddaaGreatDoorKDpBGA
import Derived.Test.YthcmnkmfhgoddaaGreatDoorKBndA
import Derived.Test.YthcmnkmfhgoddaaGreatDoorKSsBFA
import Derived.Test.YthcmnkmfhgoddaaGreatDoorKDpHHA
import Derived.Test.YthcmnkmfhgoddaaGreatDoorKSsMA
import Derived.Test.YthcmnkmfhgoddaaGreatDoorKDpMA
namespace Go.Proofs.YthcmnkmfhgoddaaGreatDoor.Dp
open Go.Proofs.YthcmnkmfhgoddaaGreatDoor.O (Bd hasB lt)
open Go.Proofs.YthcmnkmfhgoddaaGreatDoor.Od (Pr E0)
open Go.Proofs.YthcmnkmfhgoddaaGreatDoor.Sf (kl Up scanP between)
theorem run_spec {α : Type} (p : α -> Bool) : ∀ L : List α, ∃ m, m <= L.length /\ L.takeWhile p = L.take m /\ (∀ i (h : i < L.length), i < m -> p L[i] = true) /\ (∀ h : m < L.length, p L[m] = false)
 | [] => ⟨0, Nat.le_refl _, rfl, fun i h => by simp at h, fun h => by simp at h⟩
 | a :: L => by
  cases ha : p a with
  | false =>
   refine ⟨0, Nat.zero_le _, ?_, fun i h h0 => by omega, fun _ => ha⟩
   rw [List.takeWhile_cons, ha]; rfl
  | true =>
   obtain ⟨m, h1, h2, h3, h4⟩ := run_spec p L
   refine ⟨m + 1, Nat.succ_le_succ h1, ?_, fun i h hi => ?_, fun h => ?_⟩
   ·rw [List.takeWhile_cons, ha, h2]; rfl
   ·cases i with
    | zero => exact ha
    | succ i => exact h3 i (Nat.lt_of_succ_lt_succ h) (Nat.lt_of_succ_lt_succ hi)
   ·exact h4 (Nat.lt_of_succ_lt_succ h)
theorem filter_run (p : Pr -> Bool) (hp : ∀ a b : Pr, kl a.1 b.1 = true -> p b = true -> p a = true) : ∀ {L : List Pr}, Up L -> L.filter p = L.takeWhile p
 | [], _ => rfl
 | a :: L, hu => by
  have h := List.pairwise_cons.1 hu
  rw [List.filter_cons, List.takeWhile_cons]
  cases ha : p a with
  | true => simp only [if_true]; rw [filter_run p hp h.2]
  | false =>
   simp only [Bool.false_eq_true, if_false]
   rw [List.filter_eq_nil_iff]
   intro b hb hpb
   rw [hp a b (h.1 b hb) hpb] at ha
   cases ha
theorem between_has (f t : ByteArray) (q : Pr) : between f t q = hasB (Bnd.B f t) q.1.toList := by
 have h : between f t q = true ↔ hasB (Bnd.B f t) q.1.toList = true := by
  rw [O.hasB_iff]
  unfold between
  simp only [Bool.and_eq_true, Bool.or_eq_true, Bool.not_eq_true', decide_eq_true_eq]
  exact Iff.rfl
 cases hb : between f t q with
 | true => exact (h.1 hb).symm
 | false =>
  cases hc : hasB (Bnd.B f t) q.1.toList with
  | false => rfl
  | true => rw [h.2 hc] at hb; cases hb
theorem scan_run {P : List Pr} (hu : Up P) (f t : ByteArray) : ∃ m, placeP P f + m <= P.length /\ scanP P f t = (P.drop (placeP P f)).take m /\ (∀ i (h : placeP P f + i < P.length), i < m -> hasB (Bnd.B f t) P[placeP P f + i].1.toList = true) /\ (∀ h : placeP P f + m < P.length, hasB (Bnd.B f t) P[placeP P f + m].1.toList = false) := by
 have hpl := place_le P f
 have hud : Up (P.drop (placeP P f)) := List.Pairwise.sublist (List.drop_sublist _ _) hu
 have e1 : scanP P f t = (P.drop (placeP P f)).filter (between f t) := by
  have e2 : P.filter (between f t) = ((P.take (placeP P f)) ++ P.drop (placeP P f)).filter (between f t) := by rw [List.take_append_drop]
  unfold scanP
  rw [e2, List.filter_append]
  have e3 : (P.take (placeP P f)).filter (between f t) = [] := by
   rw [List.filter_eq_nil_iff]
   intro q hq hb
   obtain ⟨i, hi, rfl⟩ := List.getElem_of_mem hq
   rw [List.length_take] at hi
   rw [List.getElem_take] at hb
   have hk := place_low hu f i (by omega) (by omega)
   unfold between at hb
   rw [hk] at hb
   simp at hb
  rw [e3, List.nil_append]
 have e4 : (P.drop (placeP P f)).filter (between f t) = (P.drop (placeP P f)).filter (fun q => decide (t.toList = []) || kl q.1 t) := by
  apply List.filter_congr
  intro q hq
  obtain ⟨i, hi, rfl⟩ := List.getElem_of_mem hq
  rw [List.length_drop] at hi
  rw [List.getElem_drop]
  have hk := place_high hu f (placeP P f + i) (by omega) (by omega)
  unfold between
  rw [hk]
  rfl
 have e5 := filter_run (fun q => decide (t.toList = []) || kl q.1 t) (fun a b hab hb => by
  simp only [Bool.or_eq_true, decide_eq_true_eq] at hb ⊢
  rcases hb with hb | hb
  ·exact .inl hb
  ·exact .inr (Sf.kl_trans hab hb)) hud
 obtain ⟨m, h1, h2, h3, h4⟩ := run_spec (fun q : Pr => decide (t.toList = []) || kl q.1 t) (P.drop (placeP P f))
 rw [List.length_drop] at h1
 have hb : ∀ i (h : placeP P f + i < P.length), hasB (Bnd.B f t) P[placeP P f + i].1.toList = (decide (t.toList = []) || kl P[placeP P f + i].1 t) := fun i h => by
  rw [<- between_has]
  have hk := place_high hu f (placeP P f + i) h (by omega)
  unfold between
  rw [hk]
  rfl
 refine ⟨m, by omega, by rw [e1, e4, e5, h2], fun i h hi => ?_, fun h => ?_⟩
 ·rw [hb i h]
  have := h3 i (by rw [List.length_drop]; omega) hi
  rw [List.getElem_drop] at this
  exact this
 ·rw [hb m h]
  have := h4 (by rw [List.length_drop]; omega)
  rw [List.getElem_drop] at this
  exact this
end Go.Proofs.YthcmnkmfhgoddaaGreatDoor.Dp

namespace Go.Proofs.YthcmnkmfhgoddaaGreatDoor.Dp
open Go.RowKit Bnd
open Go.Proofs.YthcmnkmfhgoddaaGreatDoor.Od (Pr SP ArgP)
open Go.Proofs.YthcmnkmfhgoddaaGreatDoor.O (hasB)
open Go.Proofs.YthcmnkmfhgoddaaGreatDoor.Sf (Up)
open Go.Proofs.YthcmnkmfhgoddaaGreatDoor.Ds (Ix vals_snoc vals_length)
open Go.Proofs.YthcmnkmfhgoddaaGreatDoor.Ss (mixB)
attribute [local go_sem] Oper.semAt_some
theorem slice_lowP (A : Option Addr) (N c K : Nat) (h : K <= N) (_hc : N <= c) : ∀ w : World, (Instr.slice 34 (.slice A N c) (some (.int .i64 (K : Int))) none none).run Tryz.prog w = .ok (.slice (if c = K then A else A.map (·.add (K * 2))) (N - K) (c - K)) w := by
 intro w
 have k1 : ((K : Int) <= (N : Int)) = True := eq_true (by omega)
 have k2 : (0 <= (K : Int)) = True := eq_true (by omega)
 simp [go_sem, Tryz.underlying34, Tryz.sizeOf85, k1, k2]
def nthP (ps : List Pr) (k : Nat) : Pr := ps.getD k (Od.E0, Od.E0)
theorem nthP_is {ps : List Pr} {k : Nat} (h : k < ps.length) : nthP ps k = ps[k] := by
 unfold nthP
 rw [List.getD_eq_getElem?_getD, List.getElem?_eq_getElem h]
 rfl
def KpW (N B0 B1 : Nat) (W W' : World) : Prop := (∀ a : Addr, a.block < N -> W'.cell? a = W.cell? a) /\ W'.cell? ⟨B0, 0, none⟩ = W.cell? ⟨B0, 0, none⟩ /\ (W'.cell? ⟨B1, 0, none⟩ = W.cell? ⟨B1, 0, none⟩ /\ W'.cell? ⟨B1, 1, none⟩ = W.cell? ⟨B1, 1, none⟩) /\ W.heap.size <= W'.heap.size
theorem kpW_t {N B0 B1 : Nat} {A B C : World} (h : KpW N B0 B1 A B) (k : KpW N B0 B1 B C) : KpW N B0 B1 A C := ⟨fun a hq => (k.1 a hq).trans (h.1 a hq), k.2.1.trans h.2.1, ⟨k.2.2.1.1.trans h.2.2.1.1, k.2.2.1.2.trans h.2.2.1.2⟩, Nat.le_trans h.2.2.2 k.2.2.2⟩
theorem kpW_of {N B0 B1 M : Nat} {W W' : World} (hb : Below M W W') (hN : N <= M) (h0 : B0 < M) (h1 : B1 < M) : KpW N B0 B1 W W' :=
 ⟨fun _ hq => hb.cell (Nat.lt_of_lt_of_le hq hN), hb.cell (p := ⟨B0, 0, none⟩) h0, ⟨hb.cell (p := ⟨B1, 0, none⟩) h1, hb.cell (p := ⟨B1, 1, none⟩) h1⟩, hb.size⟩
theorem kpW_b {N B0 B1 : Nat} {w : World} (hN : N <= w.heap.size) (h0 : B0 < w.heap.size) (h1 : B1 < w.heap.size) (W : World) (l : Nat) (o o' : Obj) (hl : w.heap.size <= l) (h : W.heap[l]? = some o) (_ : o.isCells = false) (_ : o.isWalk = false) : KpW N B0 B1 W (W.putObj l o') := by
 have hb : Below w.heap.size W (W.putObj l o') := (Below.refl _ W).grown (grownBy_putObj' W l o') (by have := (Array.getElem?_eq_some_iff.1 h).1; omega) (fun k e => by cases e; omega)
 exact kpW_of hb hN h0 h1
set_option maxHeartbeats 1000000 in
theorem within_in (n : Nat) (A : Option Addr) (na ca : Nat) (f t : ByteArray) (w : World) :
  CallsIn Fence.wide n Tryz.prog 79 #[.slice A na ca, .agg #[.string f, .string t]] w fun e w' => e = .returned (.func (.func 149) #[] #[.pointer (some ⟨w.heap.size, 0, none⟩), .pointer (some ⟨w.heap.size + 1, 0, none⟩)]) /\ w' = (w.alloc (.cells #[.slice A na ca] 34)).alloc (.cells #[.string f, .string t] 23) := by
 refine callsIn_of_wp Tryz.func79 rfl trivial ?_ rfl
 simp only [Tryz.ntmps79, List.size_toArray, List.length_cons, List.length_nil, Nat.reduceAdd, Nat.reduceSub, Array.replicate_succ, Array.replicate_zero, List.push_toArray, List.append_toArray, List.nil_append, List.cons_append]
 gi_wp2
 go_ret
 exact ⟨rfl, rfl⟩
set_option maxRecDepth 100000 in
set_option maxHeartbeats 16000000 in
theorem within1_in (n : Nat) (hn : 1 <= n) (l N B0 B1 m q : Nat) (ps : List Pr) (A : Option Addr) (ca : Nat) (f t : ByteArray) (hu : Up ps) (hl : ps.length <= 100000) (hc : ps.length <= ca) (hq : Hid (placeP ps f = q)) (hm : Hid (q + m <= ps.length))
  (hin : Hid (∀ i (h : q + i < ps.length), i < m -> hasB (Bnd.B f t) ps[q + i].1.toList = true)) (hout : Hid (∀ h : q + m < ps.length, hasB (Bnd.B f t) ps[q + m].1.toList = false)) (J Jx : List (Ix m) -> World -> Prop)
  (hY : ∀ pre x W, J pre W -> pre.length < m -> YieldAt Fence.wide (n - 1) Tryz.prog l #[Od.pv (nthP ps (q + x.1))] W fun e W' =>
   (e = .returned (.bool true) /\ J (pre ++ [x]) W' /\ KpW N B0 B1 W W') \/ (e = .returned (.bool false) /\ Jx (pre ++ [x]) W'))
  (W : World) (hN : N <= W.heap.size) (_hB0 : B0 < W.heap.size) (_hB1 : B1 < W.heap.size) (hv : SP W N (.slice A ps.length ca) ps)
  (hB0s : W.cell? ⟨B0, 0, none⟩ = some (.slice A ps.length ca)) (hB1f : W.cell? ⟨B1, 0, none⟩ = some (.string f)) (hB1t : W.cell? ⟨B1, 1, none⟩ = some (.string t))
  (hJd : AbidesFrom W.heap.size J) (h0 : J [] W) :
  CallsIn Fence.wide n Tryz.prog 149 #[.func (.yield l) #[] #[], .pointer (some ⟨B0, 0, none⟩), .pointer (some ⟨B1, 0, none⟩)] W fun e W' => (∃ v, e = .returned v) /\
   ((∃ ys, ys.map (·.1) = List.range m /\ J ys W') \/ (∃ pre, (∃ k, k <= m /\ pre.map (·.1) = List.range k) /\ Jx pre W')) := by
 have hqle : q <= ps.length := by have := hm.out; omega
 have hel : ∀ k, k < ps.length - q -> ∃ b o', (if ca = q then A else A.map (·.add (q * 2))) = some ⟨b, o', none⟩ /\ b < N /\ W.cell? ⟨b, o' + k * 2, none⟩ = some (.string (nthP ps (q + k)).1) /\ W.cell? ⟨b, o' + k * 2 + 1, none⟩ = some (.string (nthP ps (q + k)).2) := by
  intro k h
  obtain ⟨b, o, e, hb, q0, q1⟩ := hv.at_ (k := q + k) (by omega)
  refine ⟨b, o + q * 2, ?_, hb, ?_, ?_⟩
  ·rw [if_neg (by omega), e, Option.map_some, Addr.add_lit]
  ·rw [show o + q * 2 + k * 2 = o + (q + k) * 2 by omega, nthP_is (by omega)]; exact q0
  ·rw [show o + q * 2 + k * 2 + 1 = o + (q + k) * 2 + 1 by omega, nthP_is (by omega)]; exact q1
 have hsl := slice_lowP A ps.length ca q hqle hc
 have cP := fun w' (h : Below W.heap.size W w') => place_any (.slice A ps.length ca) ps f w' ((hv.keep fun p hp => h.cell (Nat.lt_of_lt_of_le hp hN)).more (Nat.le_trans hN h.size)) hu (by omega)
 rw [hq.out] at cP
 obtain ⟨A2, hA2⟩ : ∃ A2, (if ca = q then A else A.map (·.add (q * 2))) = A2 := ⟨_, rfl⟩
 obtain ⟨c2, hc2⟩ : ∃ c2, ca - q = c2 := ⟨_, rfl⟩
 obtain ⟨nr, hnr⟩ : ∃ nr, ps.length - q = nr := ⟨_, rfl⟩
 rw [hA2] at hel
 rw [hA2, hc2, hnr] at hsl
 rw [hnr] at hel
 have HEL := Lib.hid hel
 have HNR := Lib.hid hnr
 have hmn : m <= nr := by have := hm.out; omega
 have hnr9 : nr <= 100000 := by omega
 obtain ⟨np, hnp⟩ : ∃ n, ps.length = n := ⟨_, rfl⟩
 have HNP := Lib.hid hnp
 rw [hnp] at cP hB0s hsl
 clear hv hu hl hc hqle hel hA2 hc2 hnr hnp
 refine callsIn_of_wp Tryz.func149 rfl trivial ?_ rfl
 simp only [Tryz.ntmps149, List.size_toArray, List.length_cons, List.length_nil, Nat.reduceAdd, Nat.reduceSub, Array.replicate_succ, Array.replicate_zero, List.push_toArray, List.append_toArray, List.nil_append, List.cons_append]
 gi_wp2
 refine St.wpIn_region_calls (fun _ _ wx => Below W.heap.size W wx) (fun j x => match j with | 4 => x = .int .i64 (q : Int) | _ => True) (fun _ => trivial) (fun _ => hn) (fun _ _ _ _ h => callsIn_wide.2 h) (by kernel_rfl) mixB (by kernel_rfl) (by kernel_rfl) (Below.refl _ W).drew ?_
 iterate 4
  apply St.mix_give
  ·rfl
  ·intro L u' wx hS hcl hrd hag
   have z0 := (hS.cell (p := ⟨B0, 0, none⟩) _hB0).trans hB0s
   have z1 := (hS.cell (p := ⟨B1, 0, none⟩) _hB1).trans hB1f
   go_simp
   try with_reducible rfl
  ·exact fun L u' wx hS => hS
  simp only [Act.put, St.pu]
 refine St.mix_into (v := .int .i64 (q : Int)) (f := 77) (args := #[.slice A np ca, .string f]) rfl rfl ?_ ?_ ?_
 ·intro wv
  go_simp
  try with_reducible rfl
 ·intro L u' wx hS hcl hrd hag
  refine (cP wx hS).mono ?_
  rintro e w1 ⟨rfl, hb⟩
  exact ⟨rfl, hS.trans (hb.mono hS.size)⟩
 simp only [Act.put, St.pu]
 iterate 3
  apply St.mix_give
  ·rfl
  ·intro L u' wx hS hcl hrd hag
   go_simp
   try with_reducible rfl
  ·exact fun L u' wx hS => hS
  simp only [Act.put, St.pu]
 refine St.mix_last ?_
 intro L w1 hb1 hall
 have hz1 := hb1.size
 have hJ1 : J [] w1 := hJd _ W w1 none h0 ⟨hb1.os, hb1.tape, hb1.output, hb1.size, fun k hk _ => hb1.block k hk⟩ (fun r e => by cases e)
 have hk1 : KpW N B0 B1 W w1 := kpW_of hb1 hN _hB0 _hB1
 clear hall hb1 cP hsl h0
 gi_wp2
 gi_loopw [13] (fun vi wr => ∃ (k : Nat) (pre : List (Ix m)), k <= m /\ vi = .int .i64 (k : Int) /\ Hid (pre.map (·.1) = List.range k) /\ J pre wr /\ KpW N B0 B1 W wr) (fun vi _ => nr - (intOf vi).toNat)
 case atStart => exact ⟨0, [], Nat.zero_le _, rfl, Lib.hid rfl, hJ1, hk1⟩
 case round =>
  clear hJ1 hk1
  obtain ⟨k, pre, hk, rfl, HP, hJs, hkp⟩ := hrel
  have c0 := hkp.2.1.trans hB0s
  have c1 := hkp.2.2.1.1.trans hB1f
  have c2 := hkp.2.2.1.2.trans hB1t
  have hNw : N <= wr.heap.size := Nat.le_trans hN hkp.2.2.2
  have hB0w := World.block_lt_of_cell? _ _ c0
  have hB1w := World.block_lt_of_cell? _ _ c1
  by_cases hlt : k < nr
  ·obtain ⟨b, o', hA, hb, q0, q1⟩ := HEL.out k hlt
   have g0 := (hkp.1 ⟨b, o' + k * 2, none⟩ hb).trans q0
   have g1 := (hkp.1 ⟨b, o' + k * 2 + 1, none⟩ hb).trans q1
   have hkl : q + k < ps.length := by have := HNR.out; omega
   have hnth := nthP_is hkl
   obtain ⟨⟨x, y⟩, hxy⟩ : ∃ p, nthP ps (q + k) = p := ⟨_, rfl⟩
   have hkey : ps[q + k].1 = x := by rw [<- hnth, hxy]
   have HXY := Lib.hid hxy
   rw [hxy] at g0 g1
   simp only at g0 g1
   have k0 : (0 <= (k : Int)) = True := eq_true (by omega)
   have k1 : ((k : Int) < (nr : Int)) = True := eq_true (by omega)
   have hbw : b < wr.heap.size := by omega
   have cH := fun w' => Bnd.has_any f t x w'
   obtain ⟨HB, hHB⟩ : ∃ h, hasB (Bnd.B f t) x.toList = h := ⟨_, rfl⟩
   rw [hHB] at cH
   have HHB := Lib.hid hHB
   have HKEY := Lib.hid hkey
   have HKL := Lib.hid hkl
   clear hnth hxy hkey hHB q0 q1
   subst hA
   obtain ⟨W1, hW1⟩ : ∃ W1, wr.alloc (.cells #[.string x, .string y] 85) = W1 := ⟨_, rfl⟩
   have hb1 : Below wr.heap.size wr W1 := hW1 ▸ (Below.refl _ wr).alloc (Nat.le_refl _) _
   have d0 : W1.cell? ⟨wr.heap.size, 0, none⟩ = some (.string x) := hW1 ▸ World.cell?_alloc_new wr _ _ 0
   have d1 : W1.cell? ⟨wr.heap.size, 1, none⟩ = some (.string y) := hW1 ▸ World.cell?_alloc_new wr _ _ 1
   have hlt1 : wr.heap.size < W1.heap.size := by rw [<- hW1]; simp
   have e1 := (hb1.cell (p := ⟨B1, 0, none⟩) hB1w).trans c1
   have e2 := (hb1.cell (p := ⟨B1, 1, none⟩) hB1w).trans c2
   gi_wp2_with (first | rw [hW1] | (refine ⟨trivial, ?_⟩; gi_at_call 150; refine (callsIn_wide.2 (cH _)).mono ?_))
   rintro e w2 rfl b2
   have hb2 : Below wr.heap.size wr w2 := hb1.trans (b2.mono hb1.size)
   have d02 := (b2.cell (p := ⟨wr.heap.size, 0, none⟩) hlt1).trans d0
   have d12 := (b2.cell (p := ⟨wr.heap.size, 1, none⟩) hlt1).trans d1
   have hkp2 : KpW N B0 B1 W w2 := kpW_t hkp (kpW_of hb2 hNw hB0w hB1w)
   have hJ2 : J pre w2 := hJd _ wr w2 none hJs ⟨hb2.os, hb2.tape, hb2.output, hb2.size, fun k hk _ => hb2.block k hk⟩ (fun r e => by cases e)
   clear cH b2 d0 d1 e1 e2 hW1 hb1 hJs g0 g1
   cases HB with
   | false =>
    have hkm : k = m := by
     refine Classical.byContradiction fun hne => ?_
     have h1 := hin.out k HKL.out (by omega)
     have h2 := HKEY.out
     rw [h2] at h1
     have h3 := HHB.out
     rw [h1] at h3
     cases h3
    subst hkm
    have HP2 := HP.out
    gi_wp2
    all_goals
     refine ⟨fun _ h => (by cases h), ?_⟩
     gi_wp2
     refine bodyPost_ret (results_none rfl _ _ _) rfl ?_
     exact ⟨⟨_, rfl⟩, .inl ⟨_, HP2, hJ2⟩⟩
   | true =>
    have HK : Hid (k < m) := Lib.hid (by
     refine Classical.byContradiction fun hne => ?_
     have hkm : k = m := by omega
     subst hkm
     have h1 := hout.out HKL.out
     have h2 := HKEY.out
     rw [h2] at h1
     have h3 := HHB.out
     rw [h1] at h3
     cases h3)
    obtain ⟨fn, tmps, assign, body, hy, hR⟩ := hY pre (⟨k, HK.out⟩ : Ix m) w2 hJ2 (by rw [vals_length HP.out]; exact HK.out)
    dsimp only at hy
    rw [HXY.out] at hy
    dsimp only [Od.pv] at hy
    clear hJ2
    gi_wp2
    refine hR.mono ?_
    rintro e W3 (⟨rfl, hJ3, hk3⟩ | ⟨rfl, hJx3⟩)
    ·gi_wp2
     go_roundw
     case rel => exact ⟨k + 1, _, HK.out, by go_num, Lib.hid (vals_snoc HP.out HK.out), hJ3, kpW_t hkp2 hk3⟩
     case measure => simp [intOf]; omega
    ·gi_wp2
     refine bodyPost_ret (results_none rfl _ _ _) rfl ?_
     exact ⟨⟨_, rfl⟩, .inr ⟨_, ⟨k + 1, HK.out, vals_snoc HP.out HK.out⟩, hJx3⟩⟩
  ·obtain rfl : k = m := by omega
   have k1 : ((k : Int) < (nr : Int)) = False := eq_false (by omega)
   have HP2 := HP.out
   clear hlt
   gi_wp2
   go_end0
   exact ⟨⟨_, rfl⟩, .inl ⟨_, HP2, hJs⟩⟩
theorem within_stops (n : Nat) (hn : 1 <= n) (N B0 B1 m q : Nat) (ps : List Pr) (A : Option Addr) (ca : Nat) (f t : ByteArray) (hu : Up ps) (hl : ps.length <= 100000) (hc : ps.length <= ca) (hq : Hid (placeP ps f = q)) (hm : Hid (q + m <= ps.length))
  (hin : Hid (∀ i (h : q + i < ps.length), i < m -> hasB (Bnd.B f t) ps[q + i].1.toList = true)) (hout : Hid (∀ h : q + m < ps.length, hasB (Bnd.B f t) ps[q + m].1.toList = false))
  (w : World) (hN : N <= w.heap.size) (h0 : B0 < w.heap.size) (h1 : B1 < w.heap.size) (hv : SP w N (.slice A ps.length ca) ps)
  (hc0 : w.cell? ⟨B0, 0, none⟩ = some (.slice A ps.length ca)) (hc1 : w.cell? ⟨B1, 0, none⟩ = some (.string f)) (hc2 : w.cell? ⟨B1, 1, none⟩ = some (.string t)) :
  SeqStopsK Fence.wide n Tryz.prog 149 #[.pointer (some ⟨B0, 0, none⟩), .pointer (some ⟨B1, 0, none⟩)] (fun x : Ix m => #[Od.pv (nthP ps (q + x.1))]) (KpW N B0 B1) (fun ys => ys.map (·.1) = List.range m) (fun pre => ∃ k, k <= m /\ pre.map (·.1) = List.range k) m w := fun l J Jx W hW hJd _ hY h00 =>
 within1_in n hn l N B0 B1 m q ps A ca f t hu hl hc hq hm hin hout J Jx hY W (by have := hW.size; omega) (by have := hW.size; omega) (by have := hW.size; omega) (hv.keep fun p hp => hW.cell (by omega)) ((hW.cell (p := ⟨B0, 0, none⟩) h0).trans hc0) ((hW.cell (p := ⟨B1, 0, none⟩) h1).trans hc1) ((hW.cell (p := ⟨B1, 1, none⟩) h1).trans hc2) hJd h00
end Go.Proofs.YthcmnkmfhgoddaaGreatDoor.Dp

namespace Go.Proofs.YthcmnkmfhgoddaaGreatDoor.Dp
open Go.RowKit Bnd
open Go.Proofs.YthcmnkmfhgoddaaGreatDoor.Od (Pr SP ArgP OwnP pv pcells infoP)
open Go.Proofs.YthcmnkmfhgoddaaGreatDoor.O (hasB)
open Go.Proofs.YthcmnkmfhgoddaaGreatDoor.Sf (Up scanP)
open Go.Proofs.YthcmnkmfhgoddaaGreatDoor.Ds (Ix vals_snoc vals_length)
open Go.Proofs.YthcmnkmfhgoddaaGreatDoor.Ss (mixB)
attribute [local go_sem] Oper.semAt_some
theorem lim_all {P : List Pr} {f t : ByteArray} {lim : Int} {q m M : Nat} (hs : scanP P f t = (P.drop q).take m) (_hm : q + m <= P.length) (hM : (max lim 0).toNat = M) (h : m <= M) : limP P f t lim = (scanP P f t, Od.E0) := by
 unfold limP
 rw [hM, List.getElem?_eq_none (by rw [hs, List.length_take, List.length_drop]; omega)]
theorem lim_some {P : List Pr} {f t : ByteArray} {lim : Int} {q m M : Nat} (hs : scanP P f t = (P.drop q).take m) (hm : q + m <= P.length) (hM : (max lim 0).toNat = M) (h : M < m) : limP P f t lim = ((P.drop q).take M, (nthP P (q + M)).1) := by
 have hl : M < (scanP P f t).length := by rw [hs, List.length_take, List.length_drop]; omega
 unfold limP
 rw [hM, List.getElem?_eq_getElem hl]
 simp only
 have e1 : (scanP P f t)[M] = nthP P (q + M) := by
  rw [nthP_is (by omega)]
  simp only [hs, List.getElem_take, List.getElem_drop]
 rw [e1, hs, List.take_take, show min M m = M by omega]
theorem take_nth {P : List Pr} {q k : Nat} (h : q + k <= P.length) : (P.drop q).take k = (List.range k).map fun i => nthP P (q + i) := by
 refine List.ext_getElem (by simp; omega) fun i h1 h2 => ?_
 simp only [List.length_map, List.length_range] at h2
 simp only [List.getElem_take, List.getElem_drop, List.getElem_map, List.getElem_range]
 rw [nthP_is (by omega)]
theorem pre_nth {P : List Pr} {q m k : Nat} {pre : List (Ix m)} (h : pre.map (·.1) = List.range k) : (pre.map fun x => nthP P (q + x.1)) = (List.range k).map fun i => nthP P (q + i) := by
 rw [<- h, List.map_map]
 rfl
theorem obj_own (n : Nat) (o : Obj) (hc : o.isCells = true) : Own (fun (_ : Unit) W => W.heap[n]? = some o) := by
 rintro _ X Y row h hg hr
 exact (grownBy_keeps_cells hg hr h hc).trans h
theorem obj_not_row {W : World} {B : Nat} {cs : Array Value} {t e : TypeId} {z : Nat × Nat} (h : W.heap[B]? = some (.cells cs t z)) (hte : t ≠ e) {base size k : Nat} {v : Value} {xs : List Value} (hr : W.ownsRow base e size v k xs) : some B ≠ v.ownBlock := by
 rcases hr.2 with ⟨rfl, _⟩ | ⟨g, cap, cur, rfl, _, hgb, _⟩
 ·simp [Value.ownBlock]
 ·intro e'
  obtain rfl : B = g := by simpa [Value.ownBlock] using e'
  have := h.symm.trans hgb
  simp at this
  exact hte this.2.1
structure SC (w : World) (q : Nat) (ps : List Pr) (f t : ByteArray) (B : Option Addr) (np b : Nat) (lim : Int) (M m : Nat) (pre : List (Ix m)) (W : World) : Prop where
 row : ∃ v, Boxed W (w.heap.size + 4) 34 v /\ W.ownsRow (w.heap.size + 4) 85 2 v pre.length (pcells (pre.map fun x => nthP ps (q + x.1))) /\ True
 le : pre.length <= M
 rl : Boxed W (w.heap.size + 1) 3 (.int .i64 lim)
 r0 : Boxed W (w.heap.size + 2) 34 (.slice none 0 0)
 r1 : Boxed W (w.heap.size + 3) 9 (.string ⟨#[]⟩)
 b0 : Boxed W (w.heap.size + 5) 34 (.slice B np b)
 b1 : W.heap[w.heap.size + 6]? = some (.cells #[.string f, .string t] 23 (0, 0))
 low : Below w.heap.size w W
theorem sc_own (w : World) (q : Nat) (ps : List Pr) (f t : ByteArray) (B : Option Addr) (np b : Nat) (lim : Int) (M m K : Nat) (hK : w.heap.size <= K) : OwnFrom K (fun (pre : List (Ix m)) W => SC w q ps f t B np b lim M m pre W) := by
 intro pre X Y row h hg hr
 have hr2 : ∀ r, row = some r -> ∃ o : Obj, X.heap[r]? = some o /\ o.isCells = false := fun r e => (hr r e).2
 obtain ⟨h1, h2, h3, h4, h5, h6, h7, h8⟩ := h
 exact ⟨holdsRow_own (w.heap.size + 4) (w.heap.size + 4) 34 85 2 (fun p : List (Ix m) => p.length) (fun p => pcells (p.map fun x => nthP ps (q + x.1))) (fun _ _ => True) pre X Y row h1 hg hr2, h2,
  boxed_own _ _ (fun _ : Unit => _) () X Y row h3 hg hr2, boxed_own _ _ (fun _ : Unit => _) () X Y row h4 hg hr2, boxed_own _ _ (fun _ : Unit => _) () X Y row h5 hg hr2, boxed_own _ _ (fun _ : Unit => _) () X Y row h6 hg hr2,
  obj_own _ _ rfl () X Y row h7 hg hr2, ownFrom_below (β := Unit) (Nat.le_refl _) hK () X Y row h8 hg hr⟩
structure SX (w : World) (q : Nat) (ps : List Pr) (M m : Nat) (pre : List (Ix m)) (W : World) : Prop where
 len : pre.length = M + 1
 row : ∃ v, Boxed W (w.heap.size + 2) 34 v /\ W.ownsRow (w.heap.size + 4) 85 2 v M (pcells ((pre.take M).map fun x => nthP ps (q + x.1))) /\ True
 key : ∃ x, pre[M]? = some x /\ Boxed W (w.heap.size + 3) 9 (.string (nthP ps (q + x.1)).1)
 low : Below w.heap.size w W
theorem sx_own (w : World) (q : Nat) (ps : List Pr) (M m K : Nat) (hK : w.heap.size <= K) : OwnFrom K (fun (pre : List (Ix m)) W => SX w q ps M m pre W) := by
 intro pre X Y row h hg hr
 have hr2 : ∀ r, row = some r -> ∃ o : Obj, X.heap[r]? = some o /\ o.isCells = false := fun r e => (hr r e).2
 obtain ⟨h1, h2, ⟨x, h5, h3⟩, h4⟩ := h
 exact ⟨h1, holdsRow_own (w.heap.size + 4) (w.heap.size + 2) 34 85 2 (fun _ : List (Ix m) => M) (fun p => pcells ((p.take M).map fun x => nthP ps (q + x.1))) (fun _ _ => True) pre X Y row h2 hg hr2,
  ⟨x, h5, boxed_own _ _ (fun _ : Unit => _) () X Y row h3 hg hr2⟩, ownFrom_below (β := Unit) (Nat.le_refl _) hK () X Y row h4 hg hr⟩
structure SR (w : World) (W : World) (v : Value) (key : ByteArray) (xs : List Value) (M : Nat) (Bx : Nat) (x y : ByteArray) (L : Nat -> Bool) (wx : World) : Prop where
 l : Boxed wx (w.heap.size + 4) 34 v
 own : wx.ownsRow (w.heap.size + 4) 85 2 v M xs
 p : wx.heap[Bx]? = some (.cells #[.string x, .string y] 85 (0, 0))
 a : Boxed wx (w.heap.size + 2) 34 (if L 3 = true then v else .slice none 0 0)
 b : Boxed wx (w.heap.size + 3) 9 (.string (if L 4 = true then key else ⟨#[]⟩))
 ko : KeepsOthers W wx
 low : Below w.heap.size w wx
theorem cell_two_new (w : World) (x y : Value) (t : TypeId) : ∀ j u, [x, y][j]? = some u -> (w.alloc (.cells #[x, y] t)).cell? ((⟨w.heap.size, 0, none⟩ : Addr).add j) = some u := by
 intro j u hj
 match j, hj with
 | 0, hj => simp at hj; subst hj; exact World.cell?_alloc_new w _ _ 0
 | 1, hj => simp at hj; subst hj; exact World.cell?_alloc_new w _ _ 1
 | j + 2, hj => simp at hj
theorem box_appP {wy w1 : World} {tmp : Obj} {v : Value} {base size k B : Nat} {t e : TypeId} {u : Value} {xs : List Value} (h : Boxed wy B t u) (hrow : wy.ownsRow base e size v k xs) (k3 : (wy.alloc tmp).grownBy w1 v.ownBlock) (ht : t ≠ e) (Lb : Nat) (hne : B ≠ Lb) (x : Value) : Boxed (w1.setCell ⟨Lb, 0, none⟩ x) B t u :=
 ((Boxed.alloc h tmp).kept k3 (Boxed.not_row h ht hrow)).other hne x
theorem obj_appP {wy w1 : World} {tmp : Obj} {v : Value} {base size k B : Nat} {t e : TypeId} {cs : Array Value} {z : Nat × Nat} {xs : List Value} (h : wy.heap[B]? = some (.cells cs t z)) (hrow : wy.ownsRow base e size v k xs) (k3 : (wy.alloc tmp).grownBy w1 v.ownBlock) (ht : t ≠ e) (Lb : Nat) (hne : B ≠ Lb) (x : Value) : (w1.setCell ⟨Lb, 0, none⟩ x).heap[B]? = some (.cells cs t z) := by
 have hlt := (Array.getElem?_eq_some_iff.1 h).1
 have h1 : (wy.alloc tmp).heap[B]? = some (.cells cs t z) := (Below.heap_alloc _ _ _ hlt).trans h
 have h2 : w1.heap[B]? = some (.cells cs t z) := (k3.block B (by simp; omega) (obj_not_row h ht hrow)).trans h1
 exact (Below.heap_setCell w1 ⟨Lb, 0, none⟩ x B hne).trans h2
theorem obj_set {W : World} {n : Nat} {o : Obj} (h : W.heap[n]? = some o) {a : Addr} (ha : n ≠ a.block) (u : Value) : (W.setCell a u).heap[n]? = some o := (Below.heap_setCell W a u n ha).trans h
set_option maxRecDepth 100000 in
set_option maxHeartbeats 16000000 in
theorem inner_scan (d : Ds.De) (ps : List Pr) (zs : List Ss.Zs) (fr : Bool) (ea : List Int) (al : Int) (A B C D : Option Addr) (nm np nz ne a b c g : Nat) (f t : ByteArray) (lim : Int) (w : World) (hv : SP w w.heap.size (.slice B np b) ps) (hn : ps.length = np) (hu : Up ps) (hl : np <= 100000) (hc : np <= b) (_hlim : M.inR lim) :
  CallsIn Fence.wide 5 Tryz.prog 31 #[qv ⟨d, .slice A nm a, ps, .slice B np b, zs, .slice C nz c, fr, ea, .slice D ne g, al⟩, .string f, .string t, .int .i64 lim] w fun e w' => ∃ v, e = .returned (.tuple #[v, .string (limP ps f t lim).2]) /\ OwnP w' w.heap.size v (limP ps f t lim).1 /\ Below w.heap.size w w' := by
 obtain ⟨m, hm, hs, hin, hout⟩ := scan_run hu f t
 obtain ⟨q, hq⟩ : ∃ q, placeP ps f = q := ⟨_, rfl⟩
 rw [hq] at hm hs
 have hin : ∀ i (h : q + i < ps.length), i < m -> hasB (Bnd.B f t) ps[q + i].1.toList = true := by subst hq; exact hin
 have hout : ∀ h : q + m < ps.length, hasB (Bnd.B f t) ps[q + m].1.toList = false := by subst hq; exact hout
 obtain ⟨M, hM⟩ : ∃ M, (max lim 0).toNat = M := ⟨_, rfl⟩
 have hMl : lim <= (M : Int) /\ (lim < 0 \/ (M : Int) = lim) /\ (lim < 0 -> M = 0) := by omega
 have hall := fun h => lim_all hs hm hM h
 have hsome := fun h => lim_some hs hm hM h
 have HALL := Lib.hid hall
 have HSOME := Lib.hid hsome
 have HS := Lib.hid hs
 have HQ := Lib.hid hq
 have HM := Lib.hid hm
 have HIN := Lib.hid hin
 have HOUT := Lib.hid hout
 have HNP := Lib.hid hn
 have HU := Lib.hid hu
 have HML := Lib.hid hMl
 have hm9 : m <= 100000 := by omega
 clear hall hsome hs hin hout hq hM hMl hm hu
 refine callsIn_of_wp_marks Tryz.func31 rfl trivial ?_ rfl
 simp only [Tryz.ntmps31, List.size_toArray, List.length_cons, List.length_nil, Nat.reduceAdd, Nat.reduceSub, Array.replicate_succ, Array.replicate_zero, List.push_toArray, List.append_toArray, List.nil_append, List.cons_append]
 gi_wp2_with (refine ⟨trivial, ?_⟩; gi_at_call 79; refine (within_in 4 _ _ _ _ _ _).mono ?_; rintro e w2 ⟨rfl, rfl⟩)
 obtain ⟨W0, hW0⟩ : ∃ W0, (((((((w.alloc (.cells #[.int .i64 d.id, .string d.f, .string d.t, .int .i64 d.gen, .slice A nm a, .int .i64 d.next, .slice B np b, .slice C nz c, .bool fr, .slice D ne g, .int .i64 al] 38)).alloc (.cells #[.int .i64 lim] 3)).alloc (.cells #[.slice none 0 0] 34)).alloc (.cells #[.string ⟨#[]⟩] 9)).alloc (.cells #[.slice none 0 0] 34)).alloc (.cells #[.slice B np b] 34)).alloc (.cells #[.string f, .string t] 23)) = W0 := ⟨_, rfl⟩
 have rl : Boxed W0 (w.heap.size + 1) 3 (.int .i64 lim) := by
  have := (((((Boxed.new (w.alloc (.cells #[.int .i64 d.id, .string d.f, .string d.t, .int .i64 d.gen, .slice A nm a, .int .i64 d.next, .slice B np b, .slice C nz c, .bool fr, .slice D ne g, .int .i64 al] 38)) 3 (.int .i64 lim)).alloc (.cells #[.slice none 0 0] 34)).alloc (.cells #[.string ⟨#[]⟩] 9)).alloc (.cells #[.slice none 0 0] 34)).alloc (.cells #[.slice B np b] 34)).alloc (.cells #[.string f, .string t] 23)
  simp only [World.size_alloc] at this
  exact hW0 ▸ this
 have r0 : Boxed W0 (w.heap.size + 2) 34 (.slice none 0 0) := by
  have := ((((Boxed.new ((w.alloc (.cells #[.int .i64 d.id, .string d.f, .string d.t, .int .i64 d.gen, .slice A nm a, .int .i64 d.next, .slice B np b, .slice C nz c, .bool fr, .slice D ne g, .int .i64 al] 38)).alloc (.cells #[.int .i64 lim] 3)) 34 (.slice none 0 0)).alloc (.cells #[.string ⟨#[]⟩] 9)).alloc (.cells #[.slice none 0 0] 34)).alloc (.cells #[.slice B np b] 34)).alloc (.cells #[.string f, .string t] 23)
  simp only [World.size_alloc] at this
  exact hW0 ▸ this
 have r1 : Boxed W0 (w.heap.size + 3) 9 (.string ⟨#[]⟩) := by
  have := (((Boxed.new (((w.alloc (.cells #[.int .i64 d.id, .string d.f, .string d.t, .int .i64 d.gen, .slice A nm a, .int .i64 d.next, .slice B np b, .slice C nz c, .bool fr, .slice D ne g, .int .i64 al] 38)).alloc (.cells #[.int .i64 lim] 3)).alloc (.cells #[.slice none 0 0] 34)) 9 (.string ⟨#[]⟩)).alloc (.cells #[.slice none 0 0] 34)).alloc (.cells #[.slice B np b] 34)).alloc (.cells #[.string f, .string t] 23)
  simp only [World.size_alloc] at this
  exact hW0 ▸ this
 have rv : Boxed W0 (w.heap.size + 4) 34 (.slice none 0 0) := by
  have := ((Boxed.new ((((w.alloc (.cells #[.int .i64 d.id, .string d.f, .string d.t, .int .i64 d.gen, .slice A nm a, .int .i64 d.next, .slice B np b, .slice C nz c, .bool fr, .slice D ne g, .int .i64 al] 38)).alloc (.cells #[.int .i64 lim] 3)).alloc (.cells #[.slice none 0 0] 34)).alloc (.cells #[.string ⟨#[]⟩] 9)) 34 (.slice none 0 0)).alloc (.cells #[.slice B np b] 34)).alloc (.cells #[.string f, .string t] 23)
  simp only [World.size_alloc] at this
  exact hW0 ▸ this
 have b0 : Boxed W0 (w.heap.size + 5) 34 (.slice B np b) := by
  have := (Boxed.new (((((w.alloc (.cells #[.int .i64 d.id, .string d.f, .string d.t, .int .i64 d.gen, .slice A nm a, .int .i64 d.next, .slice B np b, .slice C nz c, .bool fr, .slice D ne g, .int .i64 al] 38)).alloc (.cells #[.int .i64 lim] 3)).alloc (.cells #[.slice none 0 0] 34)).alloc (.cells #[.string ⟨#[]⟩] 9)).alloc (.cells #[.slice none 0 0] 34)) 34 (.slice B np b)).alloc (.cells #[.string f, .string t] 23)
  simp only [World.size_alloc] at this
  exact hW0 ▸ this
 have b1 : W0.heap[w.heap.size + 6]? = some (.cells #[.string f, .string t] 23 (0, 0)) := by
  have := World.alloc_heap_new ((((((w.alloc (.cells #[.int .i64 d.id, .string d.f, .string d.t, .int .i64 d.gen, .slice A nm a, .int .i64 d.next, .slice B np b, .slice C nz c, .bool fr, .slice D ne g, .int .i64 al] 38)).alloc (.cells #[.int .i64 lim] 3)).alloc (.cells #[.slice none 0 0] 34)).alloc (.cells #[.string ⟨#[]⟩] 9)).alloc (.cells #[.slice none 0 0] 34)).alloc (.cells #[.slice B np b] 34)) (.cells #[.string f, .string t] 23)
  simp only [World.size_alloc] at this
  exact hW0 ▸ this
 have hB0 : Below w.heap.size w W0 := hW0 ▸ (by exact bex0)
 have hz0 : W0.heap.size = w.heap.size + 7 := by rw [<- hW0]; simp
 have hsp : SP W0 w.heap.size (.slice B ps.length b) ps := by rw [hn]; exact hv.keep fun p hp => hB0.cell hp
 have c0 := b0.cell
 have c1 : W0.cell? ⟨w.heap.size + 6, 0, none⟩ = some (.string f) := by simp [World.cell?, b1]
 have c2 : W0.cell? ⟨w.heap.size + 6, 1, none⟩ = some (.string t) := by simp [World.cell?, b1]
 rw [<- hn] at c0
 rw [hW0]
 clear hW0 hv
 refine wpIn_rangeFunc_ownH (w0 := W0) (N := m) rfl (by omega) (gf := 149) (lb := #[.pointer (some ⟨w.heap.size + 5, 0, none⟩), .pointer (some ⟨w.heap.size + 6, 0, none⟩)]) rfl trivial (enters_of Tryz.func149 (by kernel_rfl) rfl)
  (within_stops 4 (by omega) w.heap.size (w.heap.size + 5) (w.heap.size + 6) m q ps B b f t HU.out (by omega) (by omega) HQ HM HIN HOUT W0 (by omega) (by omega) (by omega) hsp c0 c1 c2) kpW_t (kpW_b (by omega) (by omega) (by omega)) (Below.refl _ _) (fun _ => rfl)
  (fun pre W => SC w q ps f t B np b lim M m pre W)
  (fun c pre W => c = .ret /\ SX w q ps M m pre W)
  (sc_own w q ps f t B np b lim M m _ (by omega))
  (fun c s X Y row hs hg hr => ⟨hs.1, sx_own w q ps M m _ (by omega) s X Y row hs.2 hg hr⟩)
  ⟨⟨_, rv, World.ownsRow_nil _ _ _ _, trivial⟩, Nat.zero_le _, rl, r0, r1, b0, b1, hB0⟩
  (fun x a' W => ∃ Bx, w.heap.size + 6 < Bx /\ W.heap[Bx]? = some (.cells #[.string (nthP ps (q + x.1)).1, .string (nthP ps (q + x.1)).2] 85 (0, 0)) /\ a' = { tmps := #[qv ⟨d, .slice A nm a, ps, .slice B np b, zs, .slice C nz c, fr, ea, .slice D ne g, al⟩, .string f, .string t, .int .i64 lim, .pointer (some ⟨w.heap.size, 0, none⟩), undef, undef, .pointer (some ⟨w.heap.size + 1, 0, none⟩), .pointer (some ⟨w.heap.size + 1 + 1, 0, none⟩), .pointer (some ⟨w.heap.size + 1 + 1 + 1, 0, none⟩), .pointer (some ⟨w.heap.size + 1 + 1 + 1 + 1, 0, none⟩), .pointer (some ⟨Bx, 0, none⟩), .pointer (some ⟨w.heap.size, 6, none⟩), .slice B np b, .string f, .string t, .agg #[.string f, .string t], .func (.func 149) #[] #[.pointer (some ⟨w.heap.size + 1 + 1 + 1 + 1 + 1, 0, none⟩), .pointer (some ⟨w.heap.size + 1 + 1 + 1 + 1 + 1 + 1, 0, none⟩)], pv (nthP ps (q + x.1)), undef, undef, undef, undef, undef, undef, undef, undef, undef, undef, undef, undef], defers := [] })
  (fun x a' _ X Y row hs hg hr => by obtain ⟨Bx, h1, h2, h3⟩ := hs; exact ⟨Bx, h1, obj_own Bx _ rfl () X Y row h2 hg (fun r e => (hr r e).2), h3⟩)
  ?assign ?body ?done ?stop
 case assign =>
  rintro l pre x W K hI hK
  have hzW := hI.low.size
  have hlW := (Array.getElem?_eq_some_iff.1 hI.b1).1
  obtain ⟨⟨x1, y1⟩, hxy⟩ : ∃ p, nthP ps (q + x.1) = p := ⟨_, rfl⟩
  simp only [hxy] at hK ⊢
  clear hxy
  gi_wp2
  refine hK _ _ ((KeepsOthers.alloc _ _).from _) (kpW_of ((Below.refl _ W).alloc (Nat.le_refl _) _) (by omega) (by omega) (by omega)) ((sc_own w q ps f t B np b lim M m _ (Nat.le_refl _)).alloc (s := pre) _ hI) ⟨W.heap.size, by omega, World.alloc_heap_new W _, rfl⟩
 case body =>
  rintro l pre x a' W hl ⟨r, hr⟩ ⟨⟨v, hv, hrow, _⟩, hle, hrl, hr0, hr1, hb0, hb1, hlow⟩ ⟨Bx, hBx, bX, rfl⟩ hlt
  obtain ⟨k, hk⟩ : ∃ k, pre.length = k := ⟨_, rfl⟩
  have HK := Lib.hid hk
  obtain ⟨⟨x1, y1⟩, hxy⟩ : ∃ p, nthP ps (q + x.1) = p := ⟨_, rfl⟩
  rw [hxy] at bX
  simp only [hxy]
  have HXY := Lib.hid hxy
  rw [hk] at hle hlt hrow
  obtain ⟨A7, c7, rfl⟩ : ∃ A7 c7, v = .slice A7 k c7 := by
   rcases hrow.2 with ⟨rfl, h0⟩ | ⟨g', cap', cur', rfl, _⟩
   ·exact ⟨none, 0, by rw [h0]⟩
   ·exact ⟨_, _, rfl⟩
  have hzW := hlow.size
  have hlW := (Array.getElem?_eq_some_iff.1 hb1).1
  have hBxl := (Array.getElem?_eq_some_iff.1 bX).1
  have d0 := hv.cell
  have dl := hrl.cell
  have x0 : W.cell? ⟨Bx, 0, none⟩ = some (.string x1) := by simp [World.cell?, bX]
  have x2 : W.cell? ⟨Bx, 1, none⟩ = some (.string y1) := by simp [World.cell?, bX]
  clear hk hxy
  by_cases h : lim <= (k : Int)
  ·have g1 : ((k : Int) >= lim) = True := eq_true h
   have g2 : (lim <= (k : Int)) = True := eq_true h
   have hkM : k = M := by have := HML.out; omega
   subst hkM
   clear h
   gi_wp2
   refine St.wpIn_region_calm (fun L _ wx => SR w W (.slice A7 k c7) x1 (pcells (pre.map fun x : Ix m => nthP ps (q + x.1))) k Bx x1 y1 L wx) (by kernel_rfl) mixB (by kernel_rfl) (by kernel_rfl) ⟨hv, hrow, bX, hr0, hr1, Ss.keepsOthers_of (Below.refl _ W).drew, hlow.drew⟩ ?_
   iterate 3
    apply St.mix_give
    ·rfl
    ·intro L u' wx hS hcl hrd hag
     have z0 := hS.l.cell
     have z1 : wx.cell? ⟨Bx, 0, none⟩ = some (.string x1) := by simp [World.cell?, hS.p]
     go_simp
     try with_reducible rfl
    ·exact fun L u' wx hS => ⟨hS.l, hS.own, hS.p, hS.a, hS.b, hS.ko, hS.low⟩
    simp only [Act.put, St.pu]
   refine St.mix_skip rfl ?_ ?_
   ·intro L u' wx hS hcl hrd hag
    have z0 := hS.a.cell
    have z1 := hS.a.frozen
    refine ⟨wx.setCell ⟨w.heap.size + 2, 0, none⟩ (.slice A7 k c7), ?_, hS.l.other (by omega) _, ownsRow_setCell_below hS.own (a := ⟨w.heap.size + 2, 0, none⟩) (by show w.heap.size + 2 < w.heap.size + 4; omega) _, obj_set hS.p (by simp; omega) _, ?_, hS.b.other (by omega) _, hS.ko.trans (KeepsOthers.setCell _ _ _), hS.low.setCell (p := ⟨w.heap.size + 2, 0, none⟩) (by simp) _⟩
    ·go_simp
     try with_reducible rfl
    ·have h3 : St.mark L 3 3 = true := by simp [St.mark]
     rw [h3, if_pos rfl]
     exact hS.a.set _
   simp only [Act.put]
   refine St.mix_skip rfl ?_ ?_
   ·intro L u' wx hS hcl hrd hag
    have z0 := hS.b.cell
    have z1 := hS.b.frozen
    refine ⟨wx.setCell ⟨w.heap.size + 3, 0, none⟩ (.string x1), ?_, hS.l.other (by omega) _, ownsRow_setCell_below hS.own (a := ⟨w.heap.size + 3, 0, none⟩) (by show w.heap.size + 3 < w.heap.size + 4; omega) _, obj_set hS.p (by simp; omega) _, hS.a.other (by omega) _, ?_, hS.ko.trans (KeepsOthers.setCell _ _ _), hS.low.setCell (p := ⟨w.heap.size + 3, 0, none⟩) (by simp) _⟩
    ·go_simp
     try with_reducible rfl
    ·have h4 : St.mark L 4 4 = true := by simp [St.mark]
     rw [h4, if_pos rfl]
     exact hS.b.set _
   simp only [Act.put]
   refine St.mix_last ?_
   intro L wx hS hall
   have ha := hS.a
   have hb := hS.b
   rw [hall 3 (by decide), if_pos rfl] at ha
   rw [hall 4 (by decide), if_pos rfl] at hb
   have hown := hS.own
   have hko := hS.ko
   have hlo := hS.low
   have htk : (pre ++ [x]).take k = pre := by rw [<- HK.out]; simp
   have hat : (pre ++ [x])[k]? = some x := by rw [<- HK.out]; simp
   have hkey : (nthP ps (q + x.1)).1 = x1 := by rw [HXY.out]
   have HTK := Lib.hid htk
   have HAT := Lib.hid hat
   have HKEY := Lib.hid hkey
   clear hS hall htk hat hkey
   gi_wp2
   exact ⟨hko.from _, rfl, ⟨by rw [List.length_append, HK.out]; rfl, ⟨_, ha, by rw [HTK.out]; exact hown, trivial⟩, ⟨x, HAT.out, by rw [HKEY.out]; exact hb⟩, hlo⟩⟩
  ·have g1 : ((k : Int) >= lim) = False := eq_false h
   have g2 : (lim <= (k : Int)) = False := eq_false h
   have hk1 : k + 1 <= M := by have := HML.out; omega
   clear h
   obtain ⟨i0, hi, hz0, hz1, hz2⟩ := info_parts infoP
   gi_wp2_with (gi_at_builtin; refine wpListIn_append_own _ rfl _ _ 34 rfl (w.heap.size + 4) 85 i0 (.agg #[.string Od.E0, .string Od.E0]) 2 32 Tryz.underlying34 hi hz0 hz1 hz2 rfl (by decide) _ _ _ rfl (hrow.alloc _) ⟨W.heap.size, 0, none⟩ 1 1 [.string x1, .string y1] rfl rfl (cell_two_new W _ _ _) (by simp [Value.oneCell']) (by unfold maxLen; omega) (by omega) (by simp; omega) ?_; intro v' w1 hown' hgrow _; obtain ⟨g', cap', rfl⟩ := ownsRow_succ hown'; obtain ⟨hv1, hv2, hr2, hk2, hb2⟩ := hv.appended (by decide) hrow (by omega) (Nat.le_refl _) hown' hgrow; have hc1 := hv1.cell; have hf1 := hv1.frozen)
   have z1 := box_appP hrl hrow hgrow (by decide) (w.heap.size + 4) (by omega) (.slice (some ⟨g', 0, none⟩) (k + 1) cap')
   have z2 := box_appP hr0 hrow hgrow (by decide) (w.heap.size + 4) (by omega) (.slice (some ⟨g', 0, none⟩) (k + 1) cap')
   have z3 := box_appP hr1 hrow hgrow (by decide) (w.heap.size + 4) (by omega) (.slice (some ⟨g', 0, none⟩) (k + 1) cap')
   have z5 := box_appP hb0 hrow hgrow (by decide) (w.heap.size + 4) (by omega) (.slice (some ⟨g', 0, none⟩) (k + 1) cap')
   have z6 := obj_appP hb1 hrow hgrow (by decide) (w.heap.size + 4) (by omega) (.slice (some ⟨g', 0, none⟩) (k + 1) cap')
   have q6 : ∀ i, (w1.setCell ⟨w.heap.size + 4, 0, none⟩ (.slice (some ⟨g', 0, none⟩) (k + 1) cap')).cell? ⟨w.heap.size + 6, i, none⟩ = W.cell? ⟨w.heap.size + 6, i, none⟩ := fun i => by
    simp only [World.cell?, z6, hb1]
   refine ⟨hk2.from _, ⟨fun p hp => hb2.cell (by omega), z5.cell.trans hb0.cell.symm, ⟨q6 0, q6 1⟩, hb2.size⟩, ⟨⟨_, hv2, ?_, trivial⟩, by rw [List.length_append, HK.out]; exact hk1, z1, z2, z3, z5, z6, hlow.trans (hb2.mono (by omega))⟩⟩
   rw [List.length_append, HK.out, List.map_append, Od.pcells_append]
   rw [show pcells ([x].map fun x : Ix m => nthP ps (q + x.1)) = [.string x1, .string y1] by rw [List.map_singleton, HXY.out]; rfl]
   exact hr2
 case done =>
  rintro D ys W hD hys ⟨⟨v, hv, hrow, _⟩, hle, hrl, hr0, hr1, hb0, hb1, hlow⟩ hK
  have hyl : ys.length = m := vals_length hys
  rw [hyl] at hle hrow
  have hans := HALL.out hle
  have hres : (ys.map fun x : Ix m => nthP ps (q + x.1)) = scanP ps f t := by
   rw [HS.out, take_nth HM.out]
   exact pre_nth hys
  rw [hres] at hrow
  have hsl : (scanP ps f t).length = m := by rw [<- hres, List.length_map, hyl]
  obtain ⟨A7, c7, rfl⟩ : ∃ A7 c7, v = .slice A7 m c7 := by
   rcases hrow.2 with ⟨rfl, h0⟩ | ⟨g', cap', cur', rfl, _⟩
   ·exact ⟨none, 0, by rw [h0]⟩
   ·exact ⟨_, _, rfl⟩
  have d4 := hv.cell
  have d2 := hr0.cell
  have f2 := hr0.frozen
  have d3 := hr1.cell
  have f3 := hr1.frozen
  have hzW := hlow.size
  have hlW := (Array.getElem?_eq_some_iff.1 hb1).1
  have HAN := Lib.hid hans
  have HROW := Lib.hid hrow
  have HSL := Lib.hid hsl
  clear hres hans hyl hrow hsl
  gi_wp2
  have hK' := ((KeepsOthers.setCell W ⟨w.heap.size + 2, 0, none⟩ (.slice A7 m c7)).trans (KeepsOthers.setCell _ ⟨w.heap.size + 3, 0, none⟩ (.string ⟨#[]⟩))).same D _ hK rfl
  refine ⟨by simp, .inl ⟨_, _, rfl, run_takeDeferred hK', ?_⟩⟩
  have hc5 := cell_kept (show ((W.setCell ⟨w.heap.size + 2, 0, none⟩ (.slice A7 m c7)).setCell ⟨w.heap.size + 3, 0, none⟩ (.string ⟨#[]⟩)).cell? ⟨w.heap.size + 2, 0, none⟩ = some (.slice A7 m c7) by simp [go_sem, d2]) (grownBy_putObj' _ D (.deferred none)) (fun r e => by cases e; exact ⟨_, hK', rfl⟩)
  have hc6 := cell_kept (show ((W.setCell ⟨w.heap.size + 2, 0, none⟩ (.slice A7 m c7)).setCell ⟨w.heap.size + 3, 0, none⟩ (.string ⟨#[]⟩)).cell? ⟨w.heap.size + 3, 0, none⟩ = some (.string ⟨#[]⟩) by simp [go_sem, d3]) (grownBy_putObj' _ D (.deferred none)) (fun r e => by cases e; exact ⟨_, hK', rfl⟩)
  have hrow2 := ownsRow_setCell_below (ownsRow_setCell_below HROW.out (a := ⟨w.heap.size + 2, 0, none⟩) (by show w.heap.size + 2 < w.heap.size + 4; omega) (.slice A7 m c7)) (a := ⟨w.heap.size + 3, 0, none⟩) (by show w.heap.size + 3 < w.heap.size + 4; omega) (.string ⟨#[]⟩)
  have hrow3 := ownsRow_base (ownsRow_putObj hrow2 (.deferred none) hK' rfl) (show w.heap.size <= w.heap.size + 4 by omega)
  refine ⟨.tuple #[.slice A7 m c7, .string ⟨#[]⟩], by simp [results, Tryz.results31, go_sem, hc5, hc6], ?_⟩
  rw [HAN.out]
  refine ⟨_, rfl, ?_, ((hlow.setCell (p := ⟨w.heap.size + 2, 0, none⟩) (by simp) _).setCell (p := ⟨w.heap.size + 3, 0, none⟩) (by simp) _).trans (belowK_b (w := w) (Nat.le_refl _) _ D _ _ (by omega) hK' rfl rfl)⟩
  show World.ownsRow _ _ _ _ _ _ _
  rw [HSL.out]
  exact hrow3
 case stop =>
  rintro D c pre W hD ⟨k, hk, hpk⟩ ⟨rfl, ⟨hlen, ⟨v, hv, hrow, _⟩, ⟨x, hx, hkey⟩, hlow⟩⟩ hK
  have hpl := vals_length hpk
  have hkM : k = M + 1 := by omega
  have hMm : M < m := by omega
  have hans := HSOME.out hMm
  have hx1 : x.1 = M := by
   have h1 : (pre.map (·.1))[M]? = some x.1 := by rw [List.getElem?_map, hx]; rfl
   rw [hpk, List.getElem?_range (by omega)] at h1
   exact (Option.some.inj h1).symm
  have htk : ((pre.take M).map (·.1)) = List.range M := by
   rw [List.map_take, hpk, hkM, List.take_range]
   congr 1
   omega
  have hqm := HM.out
  have hres : ((pre.take M).map fun x : Ix m => nthP ps (q + x.1)) = (ps.drop q).take M := by
   rw [take_nth (by omega)]
   exact pre_nth htk
  rw [hres] at hrow
  rw [hx1] at hkey
  have hsl : ((ps.drop q).take M).length = M := by rw [List.length_take, List.length_drop]; omega
  obtain ⟨A7, c7, rfl⟩ : ∃ A7 c7, v = .slice A7 M c7 := by
   rcases hrow.2 with ⟨rfl, h0⟩ | ⟨g', cap', cur', rfl, _⟩
   ·exact ⟨none, 0, by rw [h0]⟩
   ·exact ⟨_, _, rfl⟩
  have HAN := Lib.hid hans
  have HROW := Lib.hid hrow
  have HSL := Lib.hid hsl
  have r0 := hv.cell
  have r1 := hkey.cell
  clear hans hres hpl hkM htk hsl hrow hx1 hx hlen hpk hqm
  gi_wp2
  refine ⟨by simp, .inl ⟨_, _, rfl, run_takeDeferred hK, ?_⟩⟩
  have hc5 := cell_kept r0 (grownBy_putObj' _ D (.deferred none)) (fun r e => by cases e; exact ⟨_, hK, rfl⟩)
  have hc6 := cell_kept r1 (grownBy_putObj' _ D (.deferred none)) (fun r e => by cases e; exact ⟨_, hK, rfl⟩)
  refine ⟨.tuple #[.slice A7 M c7, .string (nthP ps (q + M)).1], by simp [results, Tryz.results31, go_sem, hc5, hc6], ?_⟩
  rw [HAN.out]
  refine ⟨_, rfl, ?_, hlow.trans (belowK_b (w := w) (Nat.le_refl _) W D _ _ (by omega) hK rfl rfl)⟩
  show World.ownsRow _ _ _ _ _ _ _
  rw [HSL.out]
  exact ownsRow_base (ownsRow_putObj HROW.out (.deferred none) hK rfl) (show w.heap.size <= w.heap.size + 4 by omega)
theorem scan_any (o : Ph) (f t : ByteArray) (lim : Int) (w : World) (h : HA w o) (hu : Up o.ps) (hl : o.ps.length <= 100000) (hlim : M.inR lim) :
  Calls Tryz.prog 31 #[qv o, .string f, .string t, .int .i64 lim] w fun e w' => ∃ v, e = .returned (.tuple #[v, .string (limP o.ps f t lim).2]) /\ OwnP w' w.heap.size v (limP o.ps f t lim).1 /\ Below w.heap.size w w' := by
 have hsp := h.sp.sm
 have hrm := h.rp
 obtain ⟨d, ps, zs, fr, ea, al, A, B, C, D, a, b, c, g, rfl⟩ := h.hp.open
 exact callsIn_wide.1 (inner_scan d ps zs fr ea al A B C D _ _ _ _ a b c g f t lim w hsp rfl hu hl (hrm _ _ _ rfl) hlim)
end Go.Proofs.YthcmnkmfhgoddaaGreatDoor.Dp

namespace Go.Proofs.YthcmnkmfhgoddaaGreatDoor.Dp
open Go.RowKit Bnd
open Go.Proofs.YthcmnkmfhgoddaaGreatDoor.O (lt)
open Go.Proofs.YthcmnkmfhgoddaaGreatDoor.Od (Pr SP OwnP ArgP)
open Go.Proofs.YthcmnkmfhgoddaaGreatDoor.Sf (kl between scanP)
theorem argP_one (w : World) (x y : ByteArray) : ArgP (w.alloc (.cells #[.string x, .string y] 85)) (.slice (some ⟨w.heap.size, 0, none⟩) 1 1) [(x, y)] :=
 .some w.heap.size 0 1 [(x, y)] ⟨_, 1, rfl, fun _ => ⟨w.heap.size, 0, rfl, by simp, fun i hi => by
  obtain rfl : i = 0 := by simp at hi; omega
  simp [go_sem]⟩⟩
theorem scan_take {ps : List Pr} {k : Nat} (h : k < ps.length) (f t : ByteArray) : scanP (ps.take (k + 1)) f t = scanP (ps.take k) f t ++ (if between f t ps[k] = true then [ps[k]] else []) := by
 unfold scanP
 rw [List.take_succ_eq_append_getElem h, List.filter_append]
 by_cases hb : between f t ps[k] = true <;> simp [hb]
theorem scan_le (ps : List Pr) (f t : ByteArray) (k : Nat) : (scanP (ps.take k) f t).length <= ps.length :=
 Nat.le_trans (List.length_filter_le _ _) (by simp; omega)
set_option maxHeartbeats 8000000 in
set_option maxRecDepth 100000 in
theorem rscan_any (v : Value) (ps : List Pr) (f t : ByteArray) (w : World) (hv : SP w w.heap.size v ps) (hl : ps.length <= 100000) :
  Calls Tryz.prog 80 #[v, .string f, .string t] w fun e w' => ∃ v', e = .returned v' /\ OwnP w' w.heap.size v' (scanP ps f t) /\ Below w.heap.size w w' := by
 obtain ⟨A, c, rfl⟩ := hv.form
 have HV := Lib.hid hv
 obtain ⟨N, hN⟩ : ∃ N, ps.length = N := ⟨_, rfl⟩
 have HN := Lib.hid hN
 rw [hN] at hl ⊢
 have htt : t.toList = [] -> t = ⟨#[]⟩ := fun h => Ds.ba_ext (by rw [h, ByteArray.toList_eq])
 have cases_t : t = ⟨#[]⟩ \/ t.toList.isEmpty = false /\ decide (t.toList = []) = false := by
  by_cases h : t.toList = []
  ·exact .inl (htt h)
  ·refine .inr ⟨?_, by simpa using h⟩
   cases hh : t.toList with
   | nil => exact absurd hh h
   | cons a l => rfl
 clear hN hv htt
 go_enter Tryz.func80, Tryz.ntmps80
 go_wp2_with fail
 go_loopw [7, 8] (fun v7 v8 wr => ∃ k : Nat, k <= N /\ v8 = .int .i64 (k : Int) /\ OwnP wr w.heap.size v7 (scanP (ps.take k) f t) /\ Below w.heap.size w wr) (fun _ v8 _ => N - (intOf v8).toNat)
 case atStart => exact ⟨0, Nat.zero_le _, rfl, ⟨rfl, .inl ⟨rfl, rfl⟩⟩, Below.refl _ _⟩
 case round =>
  obtain ⟨k, hk, rfl, hown, hbw⟩ := hrel
  have hz := hbw.size
  obtain ⟨xs, hxs⟩ : ∃ xs, scanP (ps.take k) f t = xs := ⟨_, rfl⟩
  rw [hxs] at hown
  obtain ⟨A7, c7, rfl⟩ := (SP.of_own hown).form
  have HO := Lib.hid hown
  have HXS := Lib.hid hxs
  clear hown hxs
  by_cases hlt : k < N
  rotate_left
  ·obtain rfl : k = N := by omega
   have k1 : ((k : Int) < (k : Int)) = False := eq_false (by omega)
   have hall := HXS.out
   rw [List.take_of_length_le (by have := HN.out; omega)] at hall
   have HALL := Lib.hid hall
   clear hall cases_t hlt
   go_wp2_with fail
   go_ret
   exact ⟨_, rfl, by rw [HALL.out]; exact HO.out, hbw⟩
  ·have hkx : k < ps.length := by rw [HN.out]; exact hlt
   have hv1 := HV.out.below hbw
   rw [HN.out] at hv1
   obtain ⟨b, o, rfl, hb, q0, q1⟩ := hv1.at_ hkx
   have htk := scan_take hkx f t
   rw [HXS.out] at htk
   have hxl : xs.length <= 100000 := by rw [<- HXS.out]; have := scan_le ps f t k; have := HN.out; omega
   obtain ⟨⟨x, y⟩, hx⟩ : ∃ x, ps[k] = x := ⟨_, rfl⟩
   rw [hx] at q0 q1 htk
   simp only at q0 q1
   have HTK := Lib.hid htk
   have HXL := Lib.hid hxl
   have k0 : (0 <= (k : Int)) = True := eq_true (by omega)
   have k1 : ((k : Int) < (N : Int)) = True := eq_true (by omega)
   clear hv1 hx hkx htk hxl
   have no : between f t (x, y) = false -> Hid (scanP (ps.take (k + 1)) f t = xs) := fun h => Lib.hid (by rw [HTK.out, h]; simp)
   have yes : between f t (x, y) = true -> Hid (scanP (ps.take (k + 1)) f t = xs ++ [(x, y)]) := fun h => Lib.hid (by rw [HTK.out, h]; simp)
   cases a1 : lt x.toList f.toList with
   | true =>
    have NO := no (by unfold between kl; rw [a1]; rfl)
    clear no yes cases_t
    go_wp2_with fail
    go_roundw
    case rel => exact ⟨k + 1, by omega, by go_num, by rw [NO.out]; exact HO.out, hbw⟩
    case measure => simp [intOf]; omega
   | false =>
    rcases cases_t with ht | ⟨ht, hd⟩
    ·subst ht
     have YES := yes (by unfold between kl; rw [a1]; simp [ByteArray.toList_eq])
     clear no yes
     go_wp2_with (at_builtin; refine Od.wpList_append_ps rfl _ _ rfl w.heap.size _ xs rfl (Od.own_alloc HO.out _) (by simp; omega) _ [(x, y)] rfl (argP_one wr x y) (by have := HXL.out; simp; omega) ?_)
     intro v' w3 O3 b3 _
     have B3 : Below w.heap.size w w3 := (hbw.alloc hz _).trans b3
     have HO3 := Lib.hid O3
     clear O3 b3
     go_wp2_with fail
     go_roundw
     case rel => exact ⟨k + 1, by omega, by go_num, by rw [YES.out]; exact HO3.out, B3⟩
     case measure => simp [intOf]; omega
    ·cases a3 : lt x.toList t.toList with
     | false =>
      have NO := no (by unfold between kl; simp only [a1, a3, hd]; rfl)
      clear no yes hd
      go_wp2_with fail
      go_roundw
      case rel => exact ⟨k + 1, by omega, by go_num, by rw [NO.out]; exact HO.out, hbw⟩
      case measure => simp [intOf]; omega
     | true =>
      have YES := yes (by unfold between kl; simp only [a1, a3, hd]; rfl)
      clear no yes hd
      go_wp2_with (at_builtin; refine Od.wpList_append_ps rfl _ _ rfl w.heap.size _ xs rfl (Od.own_alloc HO.out _) (by simp; omega) _ [(x, y)] rfl (argP_one wr x y) (by have := HXL.out; simp; omega) ?_)
      intro v' w3 O3 b3 _
      have B3 : Below w.heap.size w w3 := (hbw.alloc hz _).trans b3
      have HO3 := Lib.hid O3
      clear O3 b3
      go_wp2_with fail
      go_roundw
      case rel => exact ⟨k + 1, by omega, by go_num, by rw [YES.out]; exact HO3.out, B3⟩
      case measure => simp [intOf]; omega
end Go.Proofs.YthcmnkmfhgoddaaGreatDoor.Dp

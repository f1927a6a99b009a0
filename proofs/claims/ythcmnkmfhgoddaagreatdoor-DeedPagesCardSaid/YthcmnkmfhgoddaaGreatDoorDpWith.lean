/-
  The program's within: a closure that goes through the pairs of a list from a place on, as long as their keys lie in a bound, for every loop's body that keeps its boxes. Conditions: pairs by rising keys, at most 100,000.
-/
import Derived.RangeFuncNested
import Derived.RangeFuncBox
import Derived.Test.YthcmnkmfhgoddaaGreatDoorDpRun
import Derived.Test.YthcmnkmfhgoddaaGreatDoorDpBGA
import Derived.Test.YthcmnkmfhgoddaaGreatDoorDpTA
import Derived.Test.YthcmnkmfhgoddaaGreatDoorBndA
import Derived.Test.YthcmnkmfhgoddaaGreatDoorSsBFA
namespace Go.Proofs.YthcmnkmfhgoddaaGreatDoor.Dp
open Go.RowKit Bnd
open Go.Proofs.YthcmnkmfhgoddaaGreatDoor.Od (Pr SP ArgP)
open Go.Proofs.YthcmnkmfhgoddaaGreatDoor.O (hasB)
open Go.Proofs.YthcmnkmfhgoddaaGreatDoor.Sf (Up)
open Go.Proofs.YthcmnkmfhgoddaaGreatDoor.Ds (Ix vals_snoc vals_length)
open Go.Proofs.YthcmnkmfhgoddaaGreatDoor.Ss (mixB)
attribute [local go_sem] Oper.semAt_some
theorem slice_lowP (A : Option Addr) (N c K : Nat) (h : K ≤ N) (_hc : N ≤ c) : ∀ w : World, (Instr.slice 34 (.slice A N c) (some (.int .i64 (K : Int))) none none).run Tryz.prog w = .ok (.slice (if c = K then A else A.map (·.add (K * 2))) (N - K) (c - K)) w := by
  intro w
  have k1 : ((K : Int) ≤ (N : Int)) = True := eq_true (by omega)
  have k2 : (0 ≤ (K : Int)) = True := eq_true (by omega)
  simp [go_sem, Tryz.underlying34, Tryz.sizeOf85, k1, k2]
def nthP (ps : List Pr) (k : Nat) : Pr := ps.getD k (Od.E0, Od.E0)
theorem nthP_is {ps : List Pr} {k : Nat} (h : k < ps.length) : nthP ps k = ps[k] := by
  unfold nthP
  rw [List.getD_eq_getElem?_getD, List.getElem?_eq_getElem h]
  rfl
def KpW (N B0 B1 : Nat) (W W' : World) : Prop := (∀ a : Addr, a.block < N → W'.cell? a = W.cell? a) ∧ W'.cell? ⟨B0, 0, none⟩ = W.cell? ⟨B0, 0, none⟩ ∧ (W'.cell? ⟨B1, 0, none⟩ = W.cell? ⟨B1, 0, none⟩ ∧ W'.cell? ⟨B1, 1, none⟩ = W.cell? ⟨B1, 1, none⟩) ∧ W.heap.size ≤ W'.heap.size
theorem kpW_t {N B0 B1 : Nat} {A B C : World} (h : KpW N B0 B1 A B) (k : KpW N B0 B1 B C) : KpW N B0 B1 A C := ⟨fun a hq => (k.1 a hq).trans (h.1 a hq), k.2.1.trans h.2.1, ⟨k.2.2.1.1.trans h.2.2.1.1, k.2.2.1.2.trans h.2.2.1.2⟩, Nat.le_trans h.2.2.2 k.2.2.2⟩
theorem kpW_of {N B0 B1 M : Nat} {W W' : World} (hb : Below M W W') (hN : N ≤ M) (h0 : B0 < M) (h1 : B1 < M) : KpW N B0 B1 W W' :=
  ⟨fun _ hq => hb.cell (Nat.lt_of_lt_of_le hq hN), hb.cell (p := ⟨B0, 0, none⟩) h0, ⟨hb.cell (p := ⟨B1, 0, none⟩) h1, hb.cell (p := ⟨B1, 1, none⟩) h1⟩, hb.size⟩
theorem kpW_b {N B0 B1 : Nat} {w : World} (hN : N ≤ w.heap.size) (h0 : B0 < w.heap.size) (h1 : B1 < w.heap.size) (W : World) (l : Nat) (o o' : Obj) (hl : w.heap.size ≤ l) (h : W.heap[l]? = some o) (_ : o.isCells = false) (_ : o.isWalk = false) : KpW N B0 B1 W (W.putObj l o') := by
  have hb : Below w.heap.size W (W.putObj l o') := (Below.refl _ W).grown (grownBy_putObj' W l o') (by have := (Array.getElem?_eq_some_iff.1 h).1; omega) (fun k e => by cases e; omega)
  exact kpW_of hb hN h0 h1
set_option maxHeartbeats 1000000 in
theorem within_in (n : Nat) (A : Option Addr) (na ca : Nat) (f t : ByteArray) (w : World) :
    CallsIn Fence.wide n Tryz.prog 79 #[.slice A na ca, .agg #[.string f, .string t]] w fun e w' => e = .returned (.func (.func 149) #[] #[.pointer (some ⟨w.heap.size, 0, none⟩), .pointer (some ⟨w.heap.size + 1, 0, none⟩)]) ∧ w' = (w.alloc (.cells #[.slice A na ca] 34)).alloc (.cells #[.string f, .string t] 23) := by
  refine callsIn_of_wp Tryz.func79 rfl trivial ?_ rfl
  simp only [Tryz.ntmps79, List.size_toArray, List.length_cons, List.length_nil, Nat.reduceAdd, Nat.reduceSub, Array.replicate_succ, Array.replicate_zero, List.push_toArray, List.append_toArray, List.nil_append, List.cons_append]
  gi_wp2
  go_ret
  exact ⟨rfl, rfl⟩
set_option maxRecDepth 100000 in
set_option maxHeartbeats 16000000 in
theorem within1_in (n : Nat) (hn : 1 ≤ n) (l N B0 B1 m q : Nat) (ps : List Pr) (A : Option Addr) (ca : Nat) (f t : ByteArray) (hu : Up ps) (hl : ps.length ≤ 100000) (hc : ps.length ≤ ca) (hq : Hid (placeP ps f = q)) (hm : Hid (q + m ≤ ps.length))
    (hin : Hid (∀ i (h : q + i < ps.length), i < m → hasB (Bnd.B f t) ps[q + i].1.toList = true)) (hout : Hid (∀ h : q + m < ps.length, hasB (Bnd.B f t) ps[q + m].1.toList = false)) (J Jx : List (Ix m) → World → Prop)
    (hY : ∀ pre x W, J pre W → pre.length < m → YieldAt Fence.wide (n - 1) Tryz.prog l #[Od.pv (nthP ps (q + x.1))] W fun e W' =>
      (e = .returned (.bool true) ∧ J (pre ++ [x]) W' ∧ KpW N B0 B1 W W') ∨ (e = .returned (.bool false) ∧ Jx (pre ++ [x]) W'))
    (W : World) (hN : N ≤ W.heap.size) (_hB0 : B0 < W.heap.size) (_hB1 : B1 < W.heap.size) (hv : SP W N (.slice A ps.length ca) ps)
    (hB0s : W.cell? ⟨B0, 0, none⟩ = some (.slice A ps.length ca)) (hB1f : W.cell? ⟨B1, 0, none⟩ = some (.string f)) (hB1t : W.cell? ⟨B1, 1, none⟩ = some (.string t))
    (hJd : AbidesFrom W.heap.size J) (h0 : J [] W) :
    CallsIn Fence.wide n Tryz.prog 149 #[.func (.yield l) #[] #[], .pointer (some ⟨B0, 0, none⟩), .pointer (some ⟨B1, 0, none⟩)] W fun e W' => (∃ v, e = .returned v) ∧
      ((∃ ys, ys.map (·.1) = List.range m ∧ J ys W') ∨ (∃ pre, (∃ k, k ≤ m ∧ pre.map (·.1) = List.range k) ∧ Jx pre W')) := by
  have hqle : q ≤ ps.length := by have := hm.out; omega
  have hel : ∀ k, k < ps.length - q → ∃ b o', (if ca = q then A else A.map (·.add (q * 2))) = some ⟨b, o', none⟩ ∧ b < N ∧ W.cell? ⟨b, o' + k * 2, none⟩ = some (.string (nthP ps (q + k)).1) ∧ W.cell? ⟨b, o' + k * 2 + 1, none⟩ = some (.string (nthP ps (q + k)).2) := by
    intro k h
    obtain ⟨b, o, e, hb, q0, q1⟩ := hv.at_ (k := q + k) (by omega)
    refine ⟨b, o + q * 2, ?_, hb, ?_, ?_⟩
    · rw [if_neg (by omega), e, Option.map_some, Addr.add_lit]
    · rw [show o + q * 2 + k * 2 = o + (q + k) * 2 by omega, nthP_is (by omega)]; exact q0
    · rw [show o + q * 2 + k * 2 + 1 = o + (q + k) * 2 + 1 by omega, nthP_is (by omega)]; exact q1
  have hsl := slice_lowP A ps.length ca q hqle hc
  have cP := fun w' (h : Below W.heap.size W w') => place_any (.slice A ps.length ca) ps f w' ((hv.keep fun p hp => h.cell (Nat.lt_of_lt_of_le hp hN)).more (Nat.le_trans hN h.size)) hu (by omega)
  rw [hq.out] at cP
  obtain ⟨A2, hA2⟩ : ∃ A2, (if ca = q then A else A.map (·.add (q * 2))) = A2 := ⟨_, rfl⟩
  obtain ⟨c2, hc2⟩ : ∃ c2, ca - q = c2 := ⟨_, rfl⟩
  obtain ⟨nr, hnr⟩ : ∃ nr, ps.length - q = nr := ⟨_, rfl⟩
  rw [hA2] at hel
  rw [hA2, hc2, hnr] at hsl
  rw [hnr] at hel
  have HEL := Lib.hid hel
  have HNR := Lib.hid hnr
  have hmn : m ≤ nr := by have := hm.out; omega
  have hnr9 : nr ≤ 100000 := by omega
  obtain ⟨np, hnp⟩ : ∃ n, ps.length = n := ⟨_, rfl⟩
  have HNP := Lib.hid hnp
  rw [hnp] at cP hB0s hsl
  clear hv hu hl hc hqle hel hA2 hc2 hnr hnp
  refine callsIn_of_wp Tryz.func149 rfl trivial ?_ rfl
  simp only [Tryz.ntmps149, List.size_toArray, List.length_cons, List.length_nil, Nat.reduceAdd, Nat.reduceSub, Array.replicate_succ, Array.replicate_zero, List.push_toArray, List.append_toArray, List.nil_append, List.cons_append]
  gi_wp2
  refine St.wpIn_region_calls (fun _ _ wx => Below W.heap.size W wx) (fun j x => match j with | 4 => x = .int .i64 (q : Int) | _ => True) (fun _ => trivial) (fun _ => hn) (fun _ _ _ _ h => callsIn_wide.2 h) (by kernel_rfl) mixB (by kernel_rfl) (by kernel_rfl) (Below.refl _ W).drew ?_
  iterate 4
    apply St.mix_give
    · rfl
    · intro L u' wx hS hcl hrd hag
      have z0 := (hS.cell (p := ⟨B0, 0, none⟩) _hB0).trans hB0s
      have z1 := (hS.cell (p := ⟨B1, 0, none⟩) _hB1).trans hB1f
      go_simp
      try with_reducible rfl
    · exact fun L u' wx hS => hS
    simp only [Act.put, List.setIfInBounds_toArray, List.set_cons_zero, List.set_cons_succ]
  refine St.mix_into (v := .int .i64 (q : Int)) (f := 77) (args := #[.slice A np ca, .string f]) rfl rfl ?_ ?_ ?_
  · intro wv
    go_simp
    try with_reducible rfl
  · intro L u' wx hS hcl hrd hag
    refine (cP wx hS).mono ?_
    rintro e w1 ⟨rfl, hb⟩
    exact ⟨rfl, hS.trans (hb.mono hS.size)⟩
  simp only [Act.put, List.setIfInBounds_toArray, List.set_cons_zero, List.set_cons_succ]
  iterate 3
    apply St.mix_give
    · rfl
    · intro L u' wx hS hcl hrd hag
      go_simp
      try with_reducible rfl
    · exact fun L u' wx hS => hS
    simp only [Act.put, List.setIfInBounds_toArray, List.set_cons_zero, List.set_cons_succ]
  refine St.mix_last ?_
  intro L w1 hb1 hall
  have hz1 := hb1.size
  have hJ1 : J [] w1 := hJd _ W w1 none h0 ⟨hb1.os, hb1.tape, hb1.output, hb1.size, fun k hk _ => hb1.block k hk⟩ (fun r e => by cases e)
  have hk1 : KpW N B0 B1 W w1 := kpW_of hb1 hN _hB0 _hB1
  clear hall hb1 cP hsl h0
  gi_wp2
  gi_loopw [13] (fun vi wr => ∃ (k : Nat) (pre : List (Ix m)), k ≤ m ∧ vi = .int .i64 (k : Int) ∧ Hid (pre.map (·.1) = List.range k) ∧ J pre wr ∧ KpW N B0 B1 W wr) (fun vi _ => nr - (intOf vi).toNat)
  case atStart => exact ⟨0, [], Nat.zero_le _, rfl, Lib.hid rfl, hJ1, hk1⟩
  case round =>
    clear hJ1 hk1
    obtain ⟨k, pre, hk, rfl, HP, hJs, hkp⟩ := hrel
    have c0 := hkp.2.1.trans hB0s
    have c1 := hkp.2.2.1.1.trans hB1f
    have c2 := hkp.2.2.1.2.trans hB1t
    have hNw : N ≤ wr.heap.size := Nat.le_trans hN hkp.2.2.2
    have hB0w := World.block_lt_of_cell? _ _ c0
    have hB1w := World.block_lt_of_cell? _ _ c1
    by_cases hlt : k < nr
    · obtain ⟨b, o', hA, hb, q0, q1⟩ := HEL.out k hlt
      have g0 := (hkp.1 ⟨b, o' + k * 2, none⟩ hb).trans q0
      have g1 := (hkp.1 ⟨b, o' + k * 2 + 1, none⟩ hb).trans q1
      have hkl : q + k < ps.length := by have := HNR.out; omega
      have hnth := nthP_is hkl
      obtain ⟨⟨x, y⟩, hxy⟩ : ∃ p, nthP ps (q + k) = p := ⟨_, rfl⟩
      have hkey : ps[q + k].1 = x := by rw [← hnth, hxy]
      have HXY := Lib.hid hxy
      rw [hxy] at g0 g1
      simp only at g0 g1
      have k0 : (0 ≤ (k : Int)) = True := eq_true (by omega)
      have k1 : ((k : Int) < (nr : Int)) = True := eq_true (by omega)
      have hbw : b < wr.heap.size := by omega
      have cH := fun w' => Bnd.has_any f t x w'
      obtain ⟨HB, hHB⟩ : ∃ h, hasB (Bnd.B f t) x.toList = h := ⟨_, rfl⟩
      rw [hHB] at cH
      have HHB := Lib.hid hHB
      have HKEY := Lib.hid hkey
      have HKL := Lib.hid hkl
      clear hnth hxy hkey hHB q0 q1
      subst hA
      obtain ⟨W1, hW1⟩ : ∃ W1, wr.alloc (.cells #[.string x, .string y] 85) = W1 := ⟨_, rfl⟩
      have hb1 : Below wr.heap.size wr W1 := hW1 ▸ (Below.refl _ wr).alloc (Nat.le_refl _) _
      have d0 : W1.cell? ⟨wr.heap.size, 0, none⟩ = some (.string x) := hW1 ▸ World.cell?_alloc_new wr _ _ 0
      have d1 : W1.cell? ⟨wr.heap.size, 1, none⟩ = some (.string y) := hW1 ▸ World.cell?_alloc_new wr _ _ 1
      have hlt1 : wr.heap.size < W1.heap.size := by rw [← hW1]; simp
      have e1 := (hb1.cell (p := ⟨B1, 0, none⟩) hB1w).trans c1
      have e2 := (hb1.cell (p := ⟨B1, 1, none⟩) hB1w).trans c2
      gi_wp2_with (first | rw [hW1] | (refine ⟨trivial, ?_⟩; gi_at_call 150; refine (callsIn_wide.2 (cH _)).mono ?_))
      rintro e w2 rfl b2
      have hb2 : Below wr.heap.size wr w2 := hb1.trans (b2.mono hb1.size)
      have d02 := (b2.cell (p := ⟨wr.heap.size, 0, none⟩) hlt1).trans d0
      have d12 := (b2.cell (p := ⟨wr.heap.size, 1, none⟩) hlt1).trans d1
      have hkp2 : KpW N B0 B1 W w2 := kpW_t hkp (kpW_of hb2 hNw hB0w hB1w)
      have hJ2 : J pre w2 := hJd _ wr w2 none hJs ⟨hb2.os, hb2.tape, hb2.output, hb2.size, fun k hk _ => hb2.block k hk⟩ (fun r e => by cases e)
      clear cH b2 d0 d1 e1 e2 hW1 hb1 hJs g0 g1
      cases HB with
      | false =>
        have hkm : k = m := by
          refine Classical.byContradiction fun hne => ?_
          have h1 := hin.out k HKL.out (by omega)
          have h2 := HKEY.out
          rw [h2] at h1
          have h3 := HHB.out
          rw [h1] at h3
          cases h3
        subst hkm
        have HP2 := HP.out
        gi_wp2
        all_goals
          refine ⟨fun _ h => (by cases h), ?_⟩
          gi_wp2
          refine bodyPost_ret (results_none rfl _ _ _) rfl ?_
          exact ⟨⟨_, rfl⟩, .inl ⟨_, HP2, hJ2⟩⟩
      | true =>
        have HK : Hid (k < m) := Lib.hid (by
          refine Classical.byContradiction fun hne => ?_
          have hkm : k = m := by omega
          subst hkm
          have h1 := hout.out HKL.out
          have h2 := HKEY.out
          rw [h2] at h1
          have h3 := HHB.out
          rw [h1] at h3
          cases h3)
        obtain ⟨fn, tmps, assign, body, hy, hR⟩ := hY pre (⟨k, HK.out⟩ : Ix m) w2 hJ2 (by rw [vals_length HP.out]; exact HK.out)
        dsimp only at hy
        rw [HXY.out] at hy
        dsimp only [Od.pv] at hy
        clear hJ2
        gi_wp2
        refine hR.mono ?_
        rintro e W3 (⟨rfl, hJ3, hk3⟩ | ⟨rfl, hJx3⟩)
        · gi_wp2
          go_roundw
          case rel => exact ⟨k + 1, _, HK.out, by go_num, Lib.hid (vals_snoc HP.out HK.out), hJ3, kpW_t hkp2 hk3⟩
          case measure => simp [intOf]; omega
        · gi_wp2
          refine bodyPost_ret (results_none rfl _ _ _) rfl ?_
          exact ⟨⟨_, rfl⟩, .inr ⟨_, ⟨k + 1, HK.out, vals_snoc HP.out HK.out⟩, hJx3⟩⟩
    · obtain rfl : k = m := by omega
      have k1 : ((k : Int) < (nr : Int)) = False := eq_false (by omega)
      have HP2 := HP.out
      clear hlt
      gi_wp2
      go_end0
      exact ⟨⟨_, rfl⟩, .inl ⟨_, HP2, hJs⟩⟩
theorem within_stops (n : Nat) (hn : 1 ≤ n) (N B0 B1 m q : Nat) (ps : List Pr) (A : Option Addr) (ca : Nat) (f t : ByteArray) (hu : Up ps) (hl : ps.length ≤ 100000) (hc : ps.length ≤ ca) (hq : Hid (placeP ps f = q)) (hm : Hid (q + m ≤ ps.length))
    (hin : Hid (∀ i (h : q + i < ps.length), i < m → hasB (Bnd.B f t) ps[q + i].1.toList = true)) (hout : Hid (∀ h : q + m < ps.length, hasB (Bnd.B f t) ps[q + m].1.toList = false))
    (w : World) (hN : N ≤ w.heap.size) (h0 : B0 < w.heap.size) (h1 : B1 < w.heap.size) (hv : SP w N (.slice A ps.length ca) ps)
    (hc0 : w.cell? ⟨B0, 0, none⟩ = some (.slice A ps.length ca)) (hc1 : w.cell? ⟨B1, 0, none⟩ = some (.string f)) (hc2 : w.cell? ⟨B1, 1, none⟩ = some (.string t)) :
    SeqStopsK Fence.wide n Tryz.prog 149 #[.pointer (some ⟨B0, 0, none⟩), .pointer (some ⟨B1, 0, none⟩)] (fun x : Ix m => #[Od.pv (nthP ps (q + x.1))]) (KpW N B0 B1) (fun ys => ys.map (·.1) = List.range m) (fun pre => ∃ k, k ≤ m ∧ pre.map (·.1) = List.range k) m w := fun l J Jx W hW hJd _ hY h00 =>
  within1_in n hn l N B0 B1 m q ps A ca f t hu hl hc hq hm hin hout J Jx hY W (by have := hW.size; omega) (by have := hW.size; omega) (by have := hW.size; omega) (hv.keep fun p hp => hW.cell (by omega)) ((hW.cell (p := ⟨B0, 0, none⟩) h0).trans hc0) ((hW.cell (p := ⟨B1, 0, none⟩) h1).trans hc1) ((hW.cell (p := ⟨B1, 1, none⟩) h1).trans hc2) hJd h00
end Go.Proofs.YthcmnkmfhgoddaaGreatDoor.Dp

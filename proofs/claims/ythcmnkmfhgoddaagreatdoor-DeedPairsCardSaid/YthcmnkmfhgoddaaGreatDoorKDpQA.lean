/-
  readPairs, the program's: the pairs that a text has as strands, two by two. Conditions: texts of at most 2^20 bytes; the library's variables hold what their types allow.
  What Parse, the program's, needs to know of the parts of a text; how a row stays while a plot's box is written. No condition.
-/
import Derived.Test.YthcmnkmfhgoddaaGreatDoorKDpSA
import Derived.Test.YthcmnkmfhgoddaaGreatDoorKOdPaA
import Derived.Test.YthcmnkmfhgoddaaGreatDoorKDpTA
namespace Go.Proofs.YthcmnkmfhgoddaaGreatDoor.Dp
open Go.RowKit Bnd
open Go.Proofs.YthcmnkmfhgoddaaGreatDoor.Od (Pr SP OwnP pcells pcells_append twosS twosS_take infoP)
open Ds (run_append2)
structure RPa (N : Nat) (W : World) (xs : List Pr) (m : Pr) (L : Nat -> Bool) (u : Nat -> Value) (wx : World) : Prop where
 w0 : L 11 = false -> wx = W.drew
 w9 : L 11 = true -> L 12 = false -> wx = W.drew.alloc (.cells #[.string m.1, .string m.2] 85)
 wa : L 12 = true -> Below N W wx /\ OwnP wx N (u 12) (xs ++ [m])
set_option maxHeartbeats 8000000 in
set_option maxRecDepth 100000 in
theorem readPairs_any (s : ByteArray) (w : World) (hs : s.size <= 1048576) (hg : Good w) :
  Calls Tryz.prog 125 #[.string s] w fun e w' => ∃ v, e = .returned v /\ OwnP w' w.heap.size v (Od.twosT (strandsG s.data.toList)) /\ Below w.heap.size w w' := by
 have cs := strands_any s w hs hg
 obtain ⟨l, hl⟩ : ∃ l, strandsG s.data.toList = l := ⟨_, rfl⟩
 rw [hl] at cs ⊢
 have HL := Lib.hid hl
 clear hl
 go_enter Tryz.func125, Tryz.ntmps125
 go_wp2_with fail
 refine cs.mono ?_
 rintro e w1 ⟨⟨v, ss, rfl, hss, hown⟩, hb1⟩
 subst hss
 obtain ⟨A, c, rfl⟩ := own_form hown
 have HO := Lib.hid (SL.of_own hown)
 obtain ⟨hln, hsz⟩ := strands_small HL.out.symm
 obtain ⟨N, hN⟩ : ∃ N, ss.length = N := ⟨_, rfl⟩
 rw [hN] at hln ⊢
 have HN := Lib.hid hN
 have hz1 := hb1.size
 obtain ⟨m, hm⟩ : ∃ m, N / 2 = m := ⟨_, rfl⟩
 have hm2 : m * 2 <= N := by omega
 have hq : ((N : Int) / 2) = (m : Int) := by omega
 have hq2 : ((N : Int).tdiv 2) = (m : Int) := by rw [Int.tdiv_eq_ediv_of_nonneg (by omega)]; exact hq
 have HMH := Lib.hid hm
 clear cs hown hsz hN hm
 go_wp2_with fail
 go_loopw [4, 5, 6, 12] (fun v4 _ _ vi wr => ∃ k : Nat, k <= m /\ vi = .int .i64 (k : Int) /\ OwnP wr w1.heap.size v4 (twosS (ss.take (k * 2))) /\ Below w1.heap.size w1 wr) (fun _ _ _ vi _ => m - (intOf vi).toNat)
 case atStart => exact ⟨0, Nat.zero_le _, rfl, ⟨rfl, .inl ⟨rfl, rfl⟩⟩, Below.refl _ _⟩
 case round =>
  revert hrel; revert wr; intro wo hrel
  obtain ⟨k, hk, rfl, hown, hbo⟩ := hrel
  have hbw := hb1.trans (hbo.mono hz1)
  have hzo := hbo.size
  obtain ⟨ms, hms⟩ : ∃ ms, twosS (ss.take (k * 2)) = ms := ⟨_, rfl⟩
  rw [hms] at hown
  obtain ⟨A7, c7, rfl⟩ := (SP.of_own hown).form
  have HO1 := Lib.hid hown
  have HMS := Lib.hid hms
  clear hown hms
  by_cases hlt : k < m
  ·have hkx : k * 2 < ss.length := by rw [HN.out]; omega
   have hkx1 : k * 2 + 1 < ss.length := by rw [HN.out]; omega
   obtain ⟨i, hi⟩ : ∃ i, k * 2 = i := ⟨_, rfl⟩
   obtain ⟨i1, hi1⟩ : ∃ i1, i + 1 = i1 := ⟨_, rfl⟩
   have htk := twosS_take k ss hkx1
   rw [HMS.out] at htk
   obtain ⟨ad, hA0, hadb, z0⟩ := HO.out.at_ (k := i) (by omega)
   obtain ⟨ad1, hA1, _, z1⟩ := HO.out.at_ (k := i1) (by omega)
   obtain rfl : ad = ad1 := Option.some.inj (hA0.symm.trans hA1)
   obtain ⟨x, hx⟩ : ∃ x, ss[k * 2] = x := ⟨_, rfl⟩
   obtain ⟨y, hy⟩ : ∃ y, ss[k * 2 + 1] = y := ⟨_, rfl⟩
   rw [hx, hy] at htk
   subst hi hi1
   rw [hx] at z0
   rw [hy] at z1
   obtain ⟨i, hi⟩ : ∃ i, k * 2 = i := ⟨_, rfl⟩
   obtain ⟨i1, hi1⟩ : ∃ i1, k * 2 + 1 = i1 := ⟨_, rfl⟩
   rw [hi] at z0
   rw [hi1] at z1
   have cx := (hbo.cell (p := ad.add i) (by cases i <;> exact hadb)).trans z0
   have cy := (hbo.cell (p := ad.add i1) (by cases i1 <;> exact hadb)).trans z1
   subst hA0
   have hlm : ms.length <= 1048576 := by
    have h1 := (HO1.out).1
    have := Od.twosS_length (ss.take (k * 2))
    rw [HMS.out] at this
    simp at this
    omega
   have HTK := Lib.hid htk
   have k0 : (0 <= (k : Int)) = True := eq_true (by omega)
   have k1 : ((k : Int) < (m : Int)) = True := eq_true (by omega)
   have j0 : (0 <= (i : Int)) = True := eq_true (by omega)
   have j1 : (0 <= (i1 : Int)) = True := eq_true (by omega)
   have j2 : ((i : Int) < (N : Int)) = True := eq_true (by omega)
   have j3 : ((i1 : Int) < (N : Int)) = True := eq_true (by omega)
   have j4 : IntKind.i64.wrap ((i : Int) + 1) = (i1 : Int) := by rw [IntKind.wrap_i64] <;> omega
   have j5 : (k : Int) * 2 = (i : Int) := by omega
   have j6 : IntKind.i64.wrap ((k : Int) * 2) = (i : Int) := by rw [IntKind.wrap_i64] <;> omega
   have hb0r : ad.block < wo.heap.size := by omega
   have hbi : (ad.add i).block < wo.drew.heap.size := by cases i <;> exact hb0r
   have hbi1 : (ad.add i1).block < wo.drew.heap.size := by cases i1 <;> exact hb0r
   clear z0 z1 hA1 hx hy hkx hkx1 htk hi hi1
   go_wp2_with fail
   refine St.wp_region_mixed (RPa w1.heap.size wo ms (x, y)) (fun _ _ => False) (by kernel_rfl) (by kernel_rfl) (by kernel_rfl) ⟨fun _ => rfl, fun h => (by cases h), fun h => (by cases h)⟩ ?_
   have hO' := HO1.out
   obtain ⟨i0, hi, hz0', hz1', hz2'⟩ := info_parts infoP
   have cells : ∀ L u wx, RPa w1.heap.size wo ms (x, y) L u wx -> L 12 = false -> wx.cell? (ad.add i) = some (.string x) /\ wx.cell? (ad.add i1) = some (.string y) := by
    intro L u wx hS h12
    cases h11 : L 11 with
    | false => rw [hS.w0 h11]; exact ⟨cx, cy⟩
    | true =>
     rw [hS.w9 h11 h12]
     exact ⟨(World.cell?_alloc_lt wo.drew _ (ad.add i) hbi).trans cx, (World.cell?_alloc_lt wo.drew _ (ad.add i1) hbi1).trans cy⟩
   iterate 11
    (apply St.mix_give
     ·rfl
     ·intro L u' wx hS hcl hrd hag
      obtain ⟨l2, l3⟩ := cells _ _ _ hS (St.not_yet hcl hrd 40 12 (by kernel_rfl))
      go_simp
      try with_reducible rfl
     ·exact fun L u' wx hS => ⟨hS.w0, hS.w9, hS.wa⟩
     simp only [Act.put, St.pu])
   refine St.mix_free (fun z => z = .slice (some ⟨wo.heap.size, 0, none⟩) 1 1) rfl ?_ ?_
   ·intro L u' wx hS hcl hrd hag
    have h12 := St.not_yet hcl hrd 40 12 (by kernel_rfl)
    obtain rfl := hS.w0 hrd.1
    refine ⟨_, _, rfl, ?_, ⟨fun h => (by simp [St.mark] at h), fun _ _ => rfl, fun h => (by rw [show St.mark L 11 12 = L 12 from rfl, h12] at h; cases h)⟩⟩
    go_simp
    try with_reducible rfl
   rintro _ rfl
   simp only [Act.put, St.pu]
   refine St.mix_free (fun z => ∃ A c, z = .slice A (ms.length + 1) c) rfl ?_ ?_
   ·intro L u' wx hS hcl hrd hag
    have h11 := St.before_ready hcl hrd 40 11 (by kernel_rfl)
    obtain rfl := hS.w9 h11 hrd.1
    obtain ⟨v', w', k1, k2, k3, _⟩ := run_append_own (P := Tryz.prog) (w := wo.drew.alloc (.cells #[.string x, .string y] 85)) w1.heap.size 34 34 85 i0 (.agg #[.string ⟨#[]⟩, .string ⟨#[]⟩]) 2 32 Tryz.underlying34 hi hz0' hz1' hz2' rfl (by decide)
     (.slice A7 ms.length c7) ms.length (pcells ms) (Od.own_alloc (w := wo.drew) hO' _) ⟨wo.heap.size, 0, none⟩ 1 1 [.string x, .string y] rfl
     (fun j z hz => by
      match j with
      | 0 => simp at hz; subst hz; exact World.cell?_alloc_new wo.drew _ _ 0
      | 1 => simp at hz; subst hz; exact World.cell?_alloc_new wo.drew _ _ 1
      | j + 2 => simp at hz) (fun z hz => by simp at hz; rcases hz with rfl | rfl <;> rfl) (by unfold maxLen; omega) (by omega) (by simp; omega)
    have k2' : OwnP w' w1.heap.size v' (ms ++ [(x, y)]) := by
     show w'.ownsRow _ _ _ _ _ _
     rw [List.length_append, pcells_append]
     exact k2
    have hbe : Below w1.heap.size wo w' := (((Below.refl _ wo).drew).alloc hzo _).trans ((Below.refl _ _).grown k3 (by simp; omega) (fun q hq => ((Od.own_alloc (w := wo.drew) hO' (.cells #[.string x, .string y] 85)).lt q hq).1))
    refine ⟨v', w', ?_, run_append2 rfl rfl rfl k1, ⟨fun h => (by rw [show St.mark L 12 11 = L 11 from rfl, h11] at h; cases h), fun _ h => (by simp [St.mark] at h), fun _ => ⟨hbe, k2'⟩⟩⟩
    obtain ⟨A', c', hv'⟩ := (SP.of_own k2').form
    rw [List.length_append] at hv'
    exact ⟨A', c', hv'⟩
   rintro y9 ⟨A9, c9, rfl⟩
   simp only [Act.put, St.pu]
   apply St.mix_give
   ·rfl
   ·intro L u' wx hS hcl hrd hag
    go_simp
    try with_reducible rfl
   ·exact fun L u' wx hS => ⟨hS.w0, hS.w9, hS.wa⟩
   simp only [Act.put, St.pu]
   refine St.mix_last ?_
   intro L wx hS hall
   obtain ⟨kb, k2⟩ := hS.wa (hall 12 (by decide))
   have k2' : OwnP wx w1.heap.size (.slice A9 (ms.length + 1) c9) (ms ++ [(x, y)]) := k2
   have HON := Lib.hid k2'
   have hbn : Below w1.heap.size w1 wx := hbo.trans kb
   clear hS hall kb k2 k2' cells hO' cx cy
   go_wp2_with fail
   go_roundw
   case rel => exact ⟨k + 1, by omega, by go_num, by rw [HTK.out]; simpa using HON.out, hbn⟩
   case measure => simp [intOf]; omega
  ·obtain rfl : k = m := by omega
   have HOW := Lib.hid (Od.own_base HO1.out hz1)
   have hall : ms = Od.twosT (texts ss) := by
    rw [Od.twosS_texts, <- Od.twosS_all ss, HN.out, HMH.out, HMS.out]
   have HALL := Lib.hid hall
   clear hall
   go_wp2_with fail
   go_ret
   exact ⟨_, rfl, by rw [<- HALL.out]; exact HOW.out, hbw⟩
end Go.Proofs.YthcmnkmfhgoddaaGreatDoor.Dp

namespace Go.Proofs.YthcmnkmfhgoddaaGreatDoor.Dp
open Go.RowKit Bnd
open Go.Proofs.YthcmnkmfhgoddaaGreatDoor.M (tieT untieT intT intT_spec numT inR)
open Go.Proofs.YthcmnkmfhgoddaaGreatDoor.Ds (De SM OwnI OwnM ArgM isD parseD)
open Go.Proofs.YthcmnkmfhgoddaaGreatDoor.Ss (Ses Zs ses SZ PZ NoP OwnZ ArgZ parseS isS)
open Go.Proofs.YthcmnkmfhgoddaaGreatDoor.Od (Pr SP OwnP ArgP twosT num0)
theorem strandsG_three : ∀ (n : Nat) (s : Text), s.length <= n -> 3 * (strandsG s).length <= s.length
 | n, s, hn => by
  rw [strandsG]
  split
  ·split
   ·rename_i m hi h
    by_cases hc : (58 : UInt8) ∈ s
    ·obtain ⟨p, q, rfl, hp⟩ := has_colon s hc
     rw [cut58_app p q hp] at h hi ⊢
     simp only at h hi ⊢
     have hp1 : 1 <= p.length := by
      rcases Nat.eq_zero_or_pos p.length with h0 | h0
      ·rw [List.length_eq_zero_iff.1 h0] at hi
       have hs := congrArg List.length (intT_spec hi).2
       unfold numT at hs
       split at hs
       ·simp at hs
       ·have h2 := M.dig_pos m.natAbs
        simp only [List.length_nil] at hs
        omega
      ·exact h0
     have hd : (q.drop (m.toNat + 1)).length = q.length - (m.toNat + 1) := List.length_drop ..
     simp only [List.length_append, List.length_cons] at hn
     cases n with
     | zero => omega
     | succ n =>
      have := strandsG_three n (q.drop (m.toNat + 1)) (by omega)
      simp only [List.length_cons, List.length_append]
      omega
    ·rw [cut58_none s hc] at h; simp at h; omega
   ·simp
  ·simp
theorem twosT_mem : ∀ {l : List Text} {p : Pr}, p ∈ twosT l -> p.1.data.toList ∈ l /\ p.2.data.toList ∈ l
 | a :: b :: l, p, h => by
  rw [twosT] at h
  rcases List.mem_cons.1 h with rfl | h
  ·simp
  ·obtain ⟨h1, h2⟩ := twosT_mem h
   exact ⟨by simp [h1], by simp [h2]⟩
 | [], p, h => by simp [twosT] at h
 | [_], p, h => by simp [twosT] at h
theorem twosT_len : ∀ (l : List Text), 2 * (twosT l).length <= l.length
 | a :: b :: l => by
  have := twosT_len l
  rw [twosT]
  simp only [List.length_cons]; omega
 | [] => by simp [twosT]
 | [_] => by simp [twosT]
theorem parseD_is {s : Text} {d : De} (h : parseD s = (d, 0)) : isD d = true := by
 unfold parseD at h
 split at h
 ·split at h
  ·exact (Ds.okD_spec h).2 ▸ (Ds.okD_spec h).1
  ·injection h with _ h; cases h
 ·injection h with _ h; cases h
theorem parseS_is {s : Text} {l : List Ses} (h : parseS s = (l, 0)) : isS l = true := by
 rcases Ss.parseS_cases s with ⟨l', h1, h2⟩ | h2
 ·rw [h2] at h
  injection h with h _
  rw [<- h]; exact h1
 ·rw [h2] at h
  injection h with _ h; cases h
theorem readPl_six (a b c m e n : Text) : readPl [a, b, c, m, e, n] = if (parseD a).2 = 0 then if (parseS c).2 = 0 then some ⟨(parseD a).1, twosT (strandsG b), (parseS c).1, decide (m = [49]), (strandsG e).map num0, num0 n⟩ else none else none := rfl
theorem readPl_no {l : List Text} (h : l.length ≠ 6) : readPl l = none := by
 match l, h with
 | [], _ => rfl
 | [_], _ => rfl
 | [_, _], _ => rfl
 | [_, _, _], _ => rfl
 | [_, _, _, _], _ => rfl
 | [_, _, _, _, _], _ => rfl
 | [_, _, _, _, _, _], h => exact absurd rfl h
 | _ :: _ :: _ :: _ :: _ :: _ :: _ :: _, _ => rfl
theorem read_fit {b e : ByteArray} {d : De} {zs : List Zs} (hd : isD d = true) (hs : isS (ses zs) = true) (hb : b.size <= 1048576) (he : e.size <= 1048576) (sm sp sz se : Value) (fr : Bool) (al : Int) :
  FitP ⟨d, sm, twosT (strandsG b.data.toList), sp, zs, sz, fr, (strandsG e.data.toList).map num0, se, al⟩ := by
 obtain ⟨h1, h2, h3⟩ := isD_sizes hd
 have hz : zs.length <= 64 := by have := isS_len hs; simpa using this
 have k1 := strandsG_len _ b.data.toList (Nat.le_refl _)
 have k2 := strandsG_len _ e.data.toList (Nat.le_refl _)
 have k3 := twosT_len (strandsG b.data.toList)
 simp only [Array.length_toList] at k1 k2
 have e1 : b.data.size = b.size := rfl
 have e2 : e.data.size = e.size := rfl
 refine ⟨?_, ?_, ?_, ?_, fun q hq => ?_, ?_, fun z hz => ?_, ?_⟩
 ·show d.f.size <= _; omega
 ·show d.t.size <= _; omega
 ·show d.ms.length <= _; omega
 ·show (twosT _).length <= _; omega
 ·obtain ⟨m1, m2⟩ := twosT_mem hq
  have a1 := strandsG_mem _ b.data.toList (Nat.le_refl _) _ m1
  have a2 := strandsG_mem _ b.data.toList (Nat.le_refl _) _ m2
  simp only [Array.length_toList] at a1 a2
  have e3 : q.1.data.size = q.1.size := rfl
  have e4 : q.2.data.size = q.2.size := rfl
  omega
 ·show zs.length <= _; omega
 ·have hf := (Ss.rise_mem ((Ss.isS_iff _).1 hs).2 z.1 (List.mem_map.2 ⟨z, hz, rfl⟩)).2
  obtain ⟨k1, k2⟩ := kept_spec hf
  exact ⟨by omega, by rw [k2]; simp, by rw [k2]; intro p hp; cases hp⟩
 ·show ((strandsG _).map num0).length <= _
  rw [List.length_map]; omega
theorem read_pairs {b : ByteArray} (hb : b.size <= 10000) : (twosT (strandsG b.data.toList)).length <= 1700 := by
 have k1 := strandsG_three _ b.data.toList (Nat.le_refl _)
 have k3 := twosT_len (strandsG b.data.toList)
 simp only [Array.length_toList] at k1
 have e1 : b.data.size = b.size := rfl
 omega
theorem ownsRow_put {w : World} {base n : Nat} {e : TypeId} {size : Nat} {v : Value} {m : Nat} {xs : List Value} (h : w.ownsRow base e size v m xs) (hz : ZE n w) (he : e ≠ 38) (o : Ph) : (putW w n o).ownsRow base e size v m xs := by
 refine ⟨h.1, ?_⟩
 rcases h.2 with hn | ⟨g, cap, cur, e1, hb, hg, rest⟩
 ·exact .inl hn
 ·refine .inr ⟨g, cap, cur, e1, hb, ?_, rest⟩
  have hne : g ≠ n := fun e' => by
   subst e'
   unfold ZE at hz
   rw [hz] at hg
   injection hg with hg
   injection hg with _ hg _
   exact he hg.symm
  unfold putW
  iterate 11 (rw [heap_setCell_other _ _ _ _ hne])
  exact hg
theorem BoxP.of_ze {n : Nat} {w : World} (h : ZE n w) : BoxP n Ph.zero w :=
 ⟨(Array.getElem?_eq_some_iff.1 h).1, ⟨h.cell 0, h.cell 1, h.cell 2, h.cell 3, h.cell 4, h.cell 5, h.cell 6, h.cell 7, h.cell 8, h.cell 9, h.cell 10⟩, fun o => by unfold ZE at h; simp [World.frozen?, h]⟩
structure R10 (W : World) (ps : List Pr) (es : List Int) (O : Value -> Value -> Ph) (L : Nat -> Bool) (u : Nat -> Value) (wx : World) : Prop where
 a : L 20 = false -> Below W.heap.size W wx
 p : L 20 = false -> L 4 = true -> OwnP wx W.heap.size (u 4) ps
 e : L 20 = false -> L 13 = true -> OwnI wx W.heap.size (u 13) es
 x : L 20 = false -> L 19 = true -> ∃ n, u 19 = Ds.ptr n /\ W.heap.size <= n /\ ZE n wx
 z : L 20 = true -> ∃ wy n, u 19 = Ds.ptr n /\ W.heap.size <= n /\ ZE n wy /\ Below W.heap.size W wy /\ OwnP wy W.heap.size (u 4) ps /\ OwnI wy W.heap.size (u 13) es /\ wx = putW wy n (O (u 4) (u 13))
end Go.Proofs.YthcmnkmfhgoddaaGreatDoor.Dp

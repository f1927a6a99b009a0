/-
  A cell of an own row of sessions that is written. No condition.
  PutReply, the document's: a reply's text. Conditions: its texts at most 2^20 bytes; its numbers such as a program can hold; at most 2,000 pairs.
  ids, the document's: the text of numbers. Conditions: at most 2,000 numbers, such as a program can hold.
  pairs, the document's: the text of pairs. Conditions: at most 2,000 pairs, texts of at most 2^20 bytes.
  eatenText and pairsText, the program's: the texts of numbers and of pairs. Conditions: at most 2,000 of each; numbers such as a program can hold; texts of at most 2^20 bytes.
  Put, the program's: a plot's text. Conditions: numbers such as a program can hold, texts of at most 2^20 bytes, at most 2,000 pairs and numbers, 1,000 sessions.
  own, the program's: a plot with lists of its own. Conditions: sessions without pairs, at most 1,000 members, 100,000 of each other list.
-/
import Derived.Test.YthcmnkmfhgoddaaGreatDoorKDpHHA
import Derived.Laws.Rows
import Derived.Test.YthcmnkmfhgoddaaGreatDoorKOdSPA
import Derived.Test.YthcmnkmfhgoddaaGreatDoorKRegA
import Derived.Test.YthcmnkmfhgoddaaGreatDoorKDpMA
import Derived.OwnWalk
import Derived.Test.YthcmnkmfhgoddaaGreatDoorKOdPCA
import Derived.Test.YthcmnkmfhgoddaaGreatDoorKDsPNA
namespace Go.Proofs.YthcmnkmfhgoddaaGreatDoor.Dp
open Go.RowKit Bnd
open Go.Proofs.YthcmnkmfhgoddaaGreatDoor.Ss (Ses Zs ses SZ PZ NoP OwnZ ArgZ zcells zcells_length)
theorem zcells_set : ∀ (zs : List Zs) (k : Nat) (h : k < zs.length) (u : Value), (zcells zs).set (k * 7 + 6) u = zcells (zs.set k (zs[k].1, u))
 | z :: zs, 0, _, u => by simp [zcells]
 | z :: zs, k + 1, h, u => by
  have := zcells_set zs k (by simpa using h) u
  have e : (k + 1) * 7 + 6 = k * 7 + 6 + 1 + 1 + 1 + 1 + 1 + 1 + 1 := by omega
  rw [e]
  simp only [zcells, List.set_cons_succ, List.getElem_cons_succ]
  rw [this]
theorem ownZ_put {w : World} {base g c k : Nat} {zs : List Zs} (h : OwnZ w base (.slice (some ⟨g, 0, none⟩) zs.length c) zs) (hk : k < zs.length) (u : Value) :
  OwnZ (w.setCell ⟨g, k * 7 + 6, none⟩ u) base (.slice (some ⟨g, 0, none⟩) zs.length c) (zs.set k (zs[k].1, u)) := by
 obtain ⟨h1, h2⟩ := h
 rcases h2 with ⟨e, _⟩ | ⟨g', cap, cur, e, hb, hg, hn, hc, hs, ht⟩
 ·cases e
 ·cases e
  refine ⟨by rw [zcells_length, List.length_set], .inr ⟨g, c, cur.setIfInBounds (k * 7 + 6) u, by simp, hb, heap_setCell_same w g _ cur _ u hg, by simpa using hn, hc, by simpa using hs, ?_⟩⟩
  rw [<- zcells_set zs k hk u, <- ht, Array.toList_setIfInBounds, List.length_set, List.take_set]
theorem ownZ_frozen {w : World} {base g c : Nat} {zs : List Zs} (h : OwnZ w base (.slice (some ⟨g, 0, none⟩) zs.length c) zs) (i : Nat) : w.frozen? ⟨g, i, none⟩ = false := by
 rcases h.2 with ⟨e, _⟩ | ⟨g', cap, cur, e, hb, hg, _⟩
 ·cases e
 ·cases e
  simp [World.frozen?, hg]
theorem ownZ_block {w : World} {base : Nat} {A : Option Addr} {n c : Nat} {zs : List Zs} (h : OwnZ w base (.slice A n c) zs) (h0 : 0 < zs.length) : ∃ g, A = some ⟨g, 0, none⟩ /\ base <= g /\ g < w.heap.size /\ n = zs.length := by
 obtain ⟨A', c', e⟩ := (SZ.of_own h).form
 injection e with e1 e2 e3
 subst e1 e2
 rcases h.2 with ⟨e, hz⟩ | ⟨g', cap, cur, e, hb, hg, _⟩
 ·omega
 ·cases e
  exact ⟨g', rfl, hb, (Array.getElem?_eq_some_iff.1 hg).1, rfl⟩
theorem ses_set {zs : List Zs} {k : Nat} (h : k < zs.length) (u : Value) : ses (zs.set k (zs[k].1, u)) = ses zs := by
 unfold ses
 rw [List.map_set]
 apply List.ext_getElem (by simp)
 intro i h1 h2
 rw [List.getElem_set]
 split
 ·rename_i e; subst e; simp
 ·rfl
theorem nop_set {zs : List Zs} (hp : NoP zs) {k : Nat} (h : k < zs.length) {A : Option Addr} {c : Nat} : NoP (zs.set k (zs[k].1, .slice A 0 c)) := fun z hz => by
 rcases List.mem_or_eq_of_mem_set hz with hz | rfl
 ·exact hp z hz
 ·exact ⟨(hp _ (List.getElem_mem h)).1, A, c, rfl⟩
end Go.Proofs.YthcmnkmfhgoddaaGreatDoor.Dp

namespace Go.Proofs.YthcmnkmfhgoddaaGreatDoor.Od
open Go.RowKit Bnd
open Go.Proofs.YthcmnkmfhgoddaaGreatDoor.M (tieT numT inR)
open Ds (nb nb_size own_new)
end Go.Proofs.YthcmnkmfhgoddaaGreatDoor.Od

namespace Go.Proofs.YthcmnkmfhgoddaaGreatDoor.Dp
open Go.RowKit Bnd
open Go.Proofs.YthcmnkmfhgoddaaGreatDoor.M (tieT numT inR)
open Ds (nb nb_size)
theorem texts_nums (l : List Int) : texts (l.map nb) = l.map numT := by simp [texts]
theorem few_nums {l : List Int} (h : ∀ n ∈ l, inR n) (hl : l.length <= 2000) : Few (l.map nb) := by
 refine ⟨by simp; omega, fun s hs => ?_⟩
 obtain ⟨n, hn, rfl⟩ := List.mem_map.1 hs
 have := nb_size (h n hn)
 omega
end Go.Proofs.YthcmnkmfhgoddaaGreatDoor.Dp

namespace Go.Proofs.YthcmnkmfhgoddaaGreatDoor.Dp
open Go.RowKit Bnd
open Go.Proofs.YthcmnkmfhgoddaaGreatDoor.M (tieT numT inR)
open Go.Proofs.YthcmnkmfhgoddaaGreatDoor.Od (Pr SP pairsS pairsS_take pairsS_length pairsT texts_pairs)
open Go.Proofs.YthcmnkmfhgoddaaGreatDoor.Ss (PL)
open Ds (run_append2)
theorem few_pairs {l : List Pr} (h : ∀ p ∈ l, p.1.size <= 1048576 /\ p.2.size <= 1048576) (hl : l.length <= 2000) : Few (pairsS l) := by
 refine ⟨by rw [pairsS_length]; omega, fun s hs => ?_⟩
 unfold pairsS at hs
 obtain ⟨q, hq, hs⟩ := List.mem_flatten.1 hs
 obtain ⟨p, hp, rfl⟩ := List.mem_map.1 hq
 have := h p hp
 simp only [List.mem_cons, List.not_mem_nil, or_false] at hs
 rcases hs with rfl | rfl <;> omega
end Go.Proofs.YthcmnkmfhgoddaaGreatDoor.Dp

namespace Go.Proofs.YthcmnkmfhgoddaaGreatDoor.Dp
open Go.RowKit Bnd
open Go.Proofs.YthcmnkmfhgoddaaGreatDoor.M (tieT numT inR)
open Go.Proofs.YthcmnkmfhgoddaaGreatDoor.Od (Pr SP pairsS pairsS_take pairsS_length pairsT texts_pairs)
open Go.Proofs.YthcmnkmfhgoddaaGreatDoor.Ss (PL)
open Ds (nb nb_size run_append2)
set_option maxHeartbeats 4000000 in
set_option maxRecDepth 100000 in
theorem eatenText_any (v : Value) (ns : List Int) (w : World) (hv : SI w w.heap.size v ns) (hin : ∀ n ∈ ns, inR n) (hl : ns.length <= 2000) :
  Calls Tryz.prog 132 #[v] w fun e w' => e = .returned (str (eatT ns)) /\ Below w.heap.size w w' := by
 obtain ⟨i0, hi, hz0, hz1, hz2⟩ := info_parts infoStr
 obtain ⟨A, c, rfl⟩ := hv.form
 have hfew := few_nums hin hl
 have HT := Lib.hid (texts_nums ns)
 have HV := Lib.hid hv
 have HIN := Lib.hid hin
 have c1 : ∀ n w, inR n -> Calls Tryz.prog 133 #[.int .i64 n] w fun e w' => e = .returned (.string (nb n)) /\ Below w.heap.size w w' := fun n w h => num_any n w h
 obtain ⟨N, hN⟩ : ∃ N, ns.length = N := ⟨_, rfl⟩
 have HN := Lib.hid hN
 rw [hN] at hl ⊢
 clear hN hv hin
 go_enter Tryz.func132, Tryz.ntmps132
 go_wp2_with (at_make; refine wpList_make_own _ rfl _ _ 101 rfl w.heap.size 9 i0 (.string ⟨#[]⟩) 1 Tryz.underlying101 hi hz0 hz1 .i64 .i64 _ N rfl rfl rfl (by rw [hz2]; omega) (by unfold maxLen; omega) (Nat.le_refl _) ?_)
 intro w0 hown0 hgrow0
 have hb0 : Below w.heap.size w w0 := (Below.refl _ w).grown hgrow0 (Nat.le_refl _) (fun k hk => by cases hk)
 clear hgrow0
 go_wp2_with fail
 go_loopw [3, 5, 11] (fun v3 _ vi wr => ∃ k : Nat, k <= N /\ vi = .int .i64 (k : Int) /\ wr.ownsRow w.heap.size 9 1 v3 ((ns.take k).map nb).length (((ns.take k).map nb).map Value.string) /\ Below w.heap.size w wr) (fun _ _ vi _ => N - (intOf vi).toNat)
 case atStart => exact ⟨0, Nat.zero_le _, rfl, hown0, hb0⟩
 case round =>
  obtain ⟨k, hk, rfl, hown, hbw⟩ := hrel
  have hz := hbw.size
  obtain ⟨xs, hxs⟩ : ∃ xs, (ns.take k).map nb = xs := ⟨_, rfl⟩
  rw [hxs] at hown
  obtain ⟨A3, c3, rfl⟩ := own_form hown
  have HO := Lib.hid hown
  have HXS := Lib.hid hxs
  clear hown hxs hown0
  by_cases hlt : k < N
  ·have hkx : k < ns.length := by rw [HN.out]; exact hlt
   have hv1 := HV.out.below hbw
   rw [HN.out] at hv1
   obtain ⟨b, o, rfl, hb, q⟩ := hv1.at_ hkx
   have htk : (ns.take (k + 1)).map nb = xs ++ [nb ns[k]] := by
    rw [List.take_succ_eq_append_getElem hkx, List.map_append, HXS.out]; rfl
   have hi1 := HIN.out _ (List.getElem_mem hkx)
   have hxl : xs.length <= 2000 := by rw [<- HXS.out]; simp; omega
   obtain ⟨x, hx⟩ : ∃ x, ns[k] = x := ⟨_, rfl⟩
   rw [hx] at q htk hi1
   have HTK := Lib.hid htk
   have cn := c1 x wr hi1
   obtain ⟨X, hX⟩ : ∃ X, nb x = X := ⟨_, rfl⟩
   rw [hX] at cn htk
   have HX := Lib.hid hX
   have HXL := Lib.hid hxl
   have k0 : (0 <= (k : Int)) = True := eq_true (by omega)
   have k1 : ((k : Int) < (N : Int)) = True := eq_true (by omega)
   clear hv1 hx hkx htk hX hxl hi1
   go_wp2_with fail
   refine cn.mono ?_
   rintro e w1 ⟨rfl, b1⟩
   have hb1 := hbw.trans (b1.mono hz)
   have HO1 := Lib.hid (own_below HO.out b1)
   have hz1' := hb1.size
   clear cn b1
   go_wp2_with (at_builtin; refine wpList_append_own _ rfl _ _ 101 rfl w.heap.size 9 i0 (.string ⟨#[]⟩) 1 16 Tryz.underlying101 hi hz0 hz1 hz2 rfl (by decide) _ _ _ rfl (HO1.out.alloc _) ⟨w1.heap.size, 0, none⟩ 1 1 [.string X] rfl rfl ?c1 ?c2 ?c3 ?c4 ?c5 ?_)
   case c1 =>
    intro j u hj
    match j, hj with
    | 0, hj => simp at hj; subst hj; simp [Addr.add]
   case c2 => intro u hu; simp at hu; subst hu; rfl
   case c3 => have := HXL.out; unfold maxLen; omega
   case c4 => have := HXL.out; omega
   case c5 => simp; omega
   intro v' w3 O3 hgrow _
   have B3 : Below w.heap.size w w3 := (hb1.alloc hz1' _).grown hgrow (by simp; omega) (fun k hk => (HO1.out.lt k hk).1)
   have O4 : Hid (w3.ownsRow w.heap.size 9 1 v' (xs ++ [X]).length ((xs ++ [X]).map Value.string)) := Lib.hid (by simpa using O3)
   clear O3 hgrow
   go_wp2_with fail
   go_roundw
   case rel => exact ⟨k + 1, by omega, by go_num, by rw [HTK.out, HX.out]; exact O4.out, B3⟩
   case measure => simp [intOf]; omega
  ·obtain rfl : k = N := by omega
   have hxs := HXS.out
   rw [List.take_of_length_le (by have := HN.out; omega)] at hxs
   subst hxs
   have ct := tie_any _ (ns.map nb) wr (SL.of_own HO.out) hfew
   rw [HT.out] at ct
   obtain ⟨ts, hts⟩ : ∃ ts, ns.map nb = ts := ⟨_, rfl⟩
   rw [hts] at ct ⊢
   clear hts hfew
   go_wp2_with fail
   refine ct.mono ?_
   rintro e w1 ⟨rfl, b1⟩
   go_wp2_with fail
   go_ret
   exact ⟨rfl, hbw.trans (b1.mono hz)⟩
set_option maxHeartbeats 4000000 in
set_option maxRecDepth 100000 in
theorem pairsText_any (v : Value) (ps : List Pr) (w : World) (hv : SP w w.heap.size v ps) (hz : ∀ p ∈ ps, p.1.size <= 1048576 /\ p.2.size <= 1048576) (hl : ps.length <= 2000) :
  Calls Tryz.prog 130 #[v] w fun e w' => e = .returned (str (tieT (pairsT ps))) /\ Below w.heap.size w w' := by
 obtain ⟨i0, hi, hz0, hz1, hz2⟩ := info_parts infoStr
 obtain ⟨A, c, rfl⟩ := hv.form
 have hfew := few_pairs hz hl
 have HT := Lib.hid (texts_pairs ps)
 have HV := Lib.hid hv
 obtain ⟨N, hN⟩ : ∃ N, ps.length = N := ⟨_, rfl⟩
 have HN := Lib.hid hN
 rw [hN] at hl ⊢
 obtain ⟨M, hM⟩ : ∃ M, N * 2 = M := ⟨_, rfl⟩
 have hM1 : (N : Int) * 2 = (M : Int) := by omega
 have hM2 : IntKind.i64.wrap ((N : Int) * 2) = (M : Int) := by rw [IntKind.wrap_i64] <;> omega
 have hM3 : M <= 4000 := by omega
 clear hN hv hz hM
 go_enter Tryz.func130, Tryz.ntmps130
 go_wp2_with (at_make; refine wpList_make_own _ rfl _ _ 101 rfl w.heap.size 9 i0 (.string ⟨#[]⟩) 1 Tryz.underlying101 hi hz0 hz1 .i64 .i64 _ M rfl rfl rfl (by rw [hz2]; omega) (by unfold maxLen; omega) (Nat.le_refl _) ?_)
 intro w0 hown0 hgrow0
 have hb0 : Below w.heap.size w w0 := (Below.refl _ w).grown hgrow0 (Nat.le_refl _) (fun k hk => by cases hk)
 clear hgrow0 hM1 hM2
 go_wp2_with fail
 go_loopw [3, 5, 12] (fun v3 _ vi wr => ∃ k : Nat, k <= N /\ vi = .int .i64 (k : Int) /\ wr.ownsRow w.heap.size 9 1 v3 (pairsS (ps.take k)).length ((pairsS (ps.take k)).map Value.string) /\ Below w.heap.size w wr) (fun _ _ vi _ => N - (intOf vi).toNat)
 case atStart => exact ⟨0, Nat.zero_le _, rfl, hown0, hb0⟩
 case round =>
  obtain ⟨k, hk, rfl, hown, hbw⟩ := hrel
  have hz := hbw.size
  obtain ⟨xs, hxs⟩ : ∃ xs, pairsS (ps.take k) = xs := ⟨_, rfl⟩
  rw [hxs] at hown
  obtain ⟨A3, c3, rfl⟩ := own_form hown
  have HO := Lib.hid hown
  have HXS := Lib.hid hxs
  clear hown hxs hown0
  by_cases hlt : k < N
  ·have hkx : k < ps.length := by rw [HN.out]; exact hlt
   have hv1 := HV.out.below hbw
   rw [HN.out] at hv1
   obtain ⟨b, o, rfl, hb, q0, q1⟩ := hv1.at_ hkx
   have htk := pairsS_take hkx
   rw [HXS.out] at htk
   have hxl : xs.length <= 10000 := by rw [<- HXS.out, pairsS_length]; simp; omega
   obtain ⟨⟨x, y⟩, hx⟩ : ∃ x, ps[k] = x := ⟨_, rfl⟩
   rw [hx] at q0 q1 htk
   simp only at q0 q1 htk
   have HTK := Lib.hid htk
   have k0 : (0 <= (k : Int)) = True := eq_true (by omega)
   have k1 : ((k : Int) < (N : Int)) = True := eq_true (by omega)
   have hk1 : (k : Int) < (N : Int) := by omega
   have hbz : b < wr.heap.size := by omega
   obtain ⟨W2, hW2⟩ : ∃ W2, wr.alloc (.cells #[.string x, .string y] 85) = W2 := ⟨_, rfl⟩
   have hb2 : Below wr.heap.size wr W2 := by rw [<- hW2]; exact (Below.refl _ wr).alloc (Nat.le_refl _) _
   have hzl : W2.heap.size = wr.heap.size + 1 := by rw [<- hW2]; simp
   have hc2 : W2.cell? ⟨wr.heap.size, 0, none⟩ = some (.string x) /\ W2.cell? ⟨wr.heap.size, 1, none⟩ = some (.string y) := by rw [<- hW2]; simp [go_sem]
   have HO2 := Lib.hid (own_below HO.out hb2)
   have H2 := Lib.hid hW2
   have hle2 : w.heap.size <= W2.heap.size := by omega
   obtain ⟨d0, d1⟩ := hc2
   have HXL := Lib.hid hxl
   clear hv1 hx hkx htk hW2 hxl
   go_wp2_with (at_builtin; rw [H2.out]; refine wpList_append_own _ rfl _ _ 101 rfl w.heap.size 9 i0 (.string ⟨#[]⟩) 1 16 Tryz.underlying101 hi hz0 hz1 hz2 rfl (by decide) _ _ _ rfl (HO2.out.alloc _) ⟨wr.heap.size + 1, 0, none⟩ 2 2 [.string x, .string y] rfl rfl ?c1 ?c2 ?c3 ?c4 ?c5 ?_)
   case c1 =>
    intro j u hj
    match j, hj with
    | 0, hj => simp at hj; subst hj; rw [<- hzl]; simp [Addr.add]
    | 1, hj => simp at hj; subst hj; rw [<- hzl]; simp [Addr.add]
   case c2 => intro u hu; simp at hu; rcases hu with rfl | rfl <;> rfl
   case c3 => have := HXL.out; unfold maxLen; omega
   case c4 => have := HXL.out; omega
   case c5 => simp; omega
   intro v' w3 O3 hgrow _
   have B3 : Below w.heap.size w w3 := ((hbw.trans (hb2.mono hz)).alloc hle2 _).grown hgrow (by simp; omega) (fun k hk => (HO2.out.lt k hk).1)
   have O4 : Hid (w3.ownsRow w.heap.size 9 1 v' (xs.length + 2) ((xs ++ [x, y]).map Value.string)) := Lib.hid (by simpa using O3)
   clear O3 hgrow
   have hr8 : ∃ A8 c8, v' = .slice A8 (xs.length + 2) c8 := by
    obtain ⟨A8, c8, e⟩ := own_form (ss := xs ++ [x, y]) (by simpa using O4.out)
    exact ⟨A8, c8, by simpa using e⟩
   obtain ⟨A8, c8, rfl⟩ := hr8
   go_wp2_with fail
   go_roundw
   case rel =>
    refine ⟨k + 1, by omega, by go_num, ?_, B3⟩
    rw [HTK.out]
    simpa using O4.out
   case measure => simp [intOf]; omega
  ·obtain rfl : k = N := by omega
   have hxs := HXS.out
   rw [List.take_of_length_le (by have := HN.out; omega)] at hxs
   subst hxs
   have ct := tie_any _ (pairsS ps) wr (SL.of_own HO.out) hfew
   rw [HT.out] at ct
   obtain ⟨ts, hts⟩ : ∃ ts, pairsS ps = ts := ⟨_, rfl⟩
   rw [hts] at ct ⊢
   clear hts hfew
   go_wp2_with fail
   refine ct.mono ?_
   rintro e w1 ⟨rfl, b1⟩
   go_wp2_with fail
   go_ret
   exact ⟨rfl, hbw.trans (b1.mono hz)⟩
end Go.Proofs.YthcmnkmfhgoddaaGreatDoor.Dp

namespace Go.Proofs.YthcmnkmfhgoddaaGreatDoor.Dp
open Go.RowKit Bnd
open Go.Proofs.YthcmnkmfhgoddaaGreatDoor.M (tieT numT inR)
open Go.Proofs.YthcmnkmfhgoddaaGreatDoor.Ds (De putT)
open Go.Proofs.YthcmnkmfhgoddaaGreatDoor.Ss (Ses Zs ses putS)
open Go.Proofs.YthcmnkmfhgoddaaGreatDoor.Od (Pr pairsT tb tb_size)
open Ds (nb nb_size own_new)
def strP (o : Ph) : List ByteArray := [⟨(putT o.d).toArray⟩, ⟨(tieT (pairsT o.ps)).toArray⟩, ⟨(putS (ses o.zs)).toArray⟩, tb o.fr, ⟨(eatT o.ea).toArray⟩, nb o.al]
theorem texts_strP (o : Ph) : texts (strP o) = strandsP o.pl := by simp [strP, strandsP, texts, Ph.pl]
theorem few_strP {o : Ph} (h : FitT o) : Few (strP o) := by
  refine ⟨by simp [strP], fun s hs => ?_⟩
  have a1 := h.ld
  have a2 := h.lp
  have a3 := h.ls
  have a4 := h.le
  have a5 := nb_size h.al
  have a6 := tb_size o.fr
  simp only [strP, List.mem_cons, List.not_mem_nil, or_false] at hs
  rcases hs with rfl | rfl | rfl | rfl | rfl | rfl
  · simpa [ByteArray.size] using a1
  · simpa [ByteArray.size] using a2
  · simpa [ByteArray.size] using a3
  · omega
  · simpa [ByteArray.size] using a4
  · omega
theorem BoxP.kept {N n : Nat} {o : Ph} {w1 w2 : World} (h : BoxP n o w1) (hn : n < N) (hb : Below N w1 w2) : BoxP n o w2 := by
  obtain ⟨h0, ⟨h1, h2, h3, h4, h5, h6, h7, h8, h9, h10, h11⟩, hf⟩ := h
  have hc : ∀ o, w2.cell? ⟨n, o, none⟩ = w1.cell? ⟨n, o, none⟩ := fun o => hb.cell (p := ⟨n, o, none⟩) hn
  refine ⟨Nat.lt_of_lt_of_le h0 hb.size, ⟨?_, ?_, ?_, ?_, ?_, ?_, ?_, ?_, ?_, ?_, ?_⟩, fun o => (hb.frozen (p := ⟨n, o, none⟩) hn).trans (hf o)⟩
  all_goals rw [hc]; assumption
set_option maxHeartbeats 16000000 in
set_option maxRecDepth 100000 in
theorem put_any (o : Ph) (w : World) (h : HP w w.heap.size o) (f : FitT o) : Calls Tryz.prog 63 #[qv o] w fun e w' => e = .returned (str (putP o.pl)) /\ Below w.heap.size w w' := by
  have hfew := few_strP f
  have HT := Lib.hid (texts_strP o)
  obtain ⟨W1, hW1⟩ : ∃ W1, w.alloc (.cells #[.int .i64 o.d.id, .string o.d.f, .string o.d.t, .int .i64 o.d.gen, o.sm, .int .i64 o.d.next, o.sp, o.sz, .bool o.fr, o.se, .int .i64 o.al] 38) = W1 := ⟨_, rfl⟩
  have B0 : BoxP w.heap.size o W1 := hW1 ▸ BoxP.new w o
  have hz1 : W1.heap.size = w.heap.size + 1 := by rw [<- hW1]; simp
  have hbw1 : Below w.heap.size w W1 := by rw [<- hW1]; exact (Below.refl _ w).alloc (Nat.le_refl _) _
  have hP : ∀ wx, Below W1.heap.size W1 wx -> HP wx wx.heap.size o := fun wx hx => (h.below (hbw1.trans (hx.mono (by omega)))).more (by have := hx.size; omega)
  have up : ∀ {wx w' : World}, Below W1.heap.size W1 wx -> Below wx.heap.size wx w' -> Below W1.heap.size W1 w' := fun hx b => hx.trans (b.mono hx.size)
  have call1 : ∀ wx, Below W1.heap.size W1 wx -> Calls Tryz.prog 129 #[Ds.dv o.d o.sm] wx fun e w' => e = .returned (.string ⟨(putT o.d).toArray⟩) /\ Below W1.heap.size W1 w' := by
    intro wx hx
    refine (Ds.put_any o.d o.sm wx (hP wx hx).sm f.d f.f f.t).mono ?_
    rintro e w' ⟨rfl, b⟩
    exact ⟨rfl, up hx b⟩
  have call2 : ∀ wx, Below W1.heap.size W1 wx -> Calls Tryz.prog 130 #[o.sp] wx fun e w' => e = .returned (.string ⟨(tieT (pairsT o.ps)).toArray⟩) /\ Below W1.heap.size W1 w' := by
    intro wx hx
    refine (pairsText_any o.sp o.ps wx (hP wx hx).sp f.each f.ps).mono ?_
    rintro e w' ⟨rfl, b⟩
    exact ⟨rfl, up hx b⟩
  have call3 : ∀ wx, Below W1.heap.size W1 wx -> Calls Tryz.prog 131 #[o.sz] wx fun e w' => e = .returned (.string ⟨(putS (ses o.zs)).toArray⟩) /\ Below W1.heap.size W1 w' := by
    intro wx hx
    refine (Ss.put_any o.sz o.zs wx (hP wx hx).sz (hP wx hx).pz f.fit f.zs).mono ?_
    rintro e w' ⟨rfl, b⟩
    exact ⟨rfl, up hx b⟩
  have call4 : ∀ wx, Below W1.heap.size W1 wx -> Calls Tryz.prog 132 #[o.se] wx fun e w' => e = .returned (.string ⟨(eatT o.ea).toArray⟩) /\ Below W1.heap.size W1 w' := by
    intro wx hx
    refine (eatenText_any o.se o.ea wx (hP wx hx).se f.ein f.ea).mono ?_
    rintro e w' ⟨rfl, b⟩
    exact ⟨rfl, up hx b⟩
  have call5 : ∀ wx, Below W1.heap.size W1 wx -> Calls Tryz.prog 133 #[.int .i64 o.al] wx fun e w' => e = .returned (.string (nb o.al)) /\ Below W1.heap.size W1 w' := by
    intro wx hx
    refine (num_any o.al wx f.al).mono ?_
    rintro e w' ⟨rfl, b⟩
    exact ⟨rfl, up hx b⟩
  have hbox : ∀ wx, Below W1.heap.size W1 wx -> BoxP w.heap.size o wx := fun wx hx => BoxP.kept (N := W1.heap.size) B0 (by omega) hx
  obtain ⟨sA, sB, hs⟩ : ∃ sA sB, strP o = sA ++ [tb o.fr] ++ sB := ⟨[_, _, _], [_, _], rfl⟩
  clear hs sA sB
  obtain ⟨d, sm, ps, sp, zs, sz, fr, ea, se, al⟩ := o
  cases fr
  all_goals
    simp only at *
    obtain ⟨_, ⟨p0, p1, p2, p3, p4, p5, p6, p7, p8, p9, p10⟩, _⟩ := id B0
    go_enter Tryz.func63, Tryz.ntmps63
    go_wp2_with (rw [hW1])
    clear p0 p1 p2 p3 p4 p5 p6 p7 p8 p9 p10
    refine St.wp_region_tail 16 (fun _ wx => Below W1.heap.size W1 wx) (by kernel_rfl) (by kernel_rfl) (by kernel_rfl) (by kernel_rfl) (by decide) (Below.refl _ _).drew ?_
    simp only [List.take, List.drop]
    repeat (first
      | (apply St.step_give
         · rfl
         · intro L wx hS hcl hrd
           obtain ⟨_, ⟨d0, d1, d2, d3, d4, d5, d6, d7, d8, d9, d10⟩, _⟩ := hbox wx hS
           go_simp
           try with_reducible rfl
         · exact fun L wx hS => hS
         simp only [Act.put, St.pu])
      | (apply St.step_into
         · rfl
         · intro wx
           go_simp
           exact ⟨rfl, rfl⟩
         · first
           | exact fun L wx hS hcl hrd => call1 wx hS
           | exact fun L wx hS hcl hrd => call2 wx hS
           | exact fun L wx hS hcl hrd => call3 wx hS
           | exact fun L wx hS hcl hrd => call4 wx hS
           | exact fun L wx hS hcl hrd => call5 wx hS
         simp only [Act.put, St.pu]))
    refine St.step_last ?_
    intro L wx hS _
    clear call1 call2 call3 call4 call5
    have hz : W1.heap.size <= wx.heap.size := hS.size
  · have hown0 := own_new wx W1.heap.size (strP ⟨d, sm, ps, sp, zs, sz, false, ea, se, al⟩) hz (by simp [strP])
    have hsl := SL.of_own hown0
    have ct := tie_any _ (strP ⟨d, sm, ps, sp, zs, sz, false, ea, se, al⟩) _ hsl hfew
    rw [HT.out] at ct
    have hS1 := hS.alloc hz (.cells #[.string ⟨(putT d).toArray⟩, .string ⟨(tieT (pairsT ps)).toArray⟩, .string ⟨(putS (ses zs)).toArray⟩, .string ⟨#[48]⟩, .string ⟨(eatT ea).toArray⟩, .string (nb al)] 9)
    have ct2 : Calls Tryz.prog 128 #[.slice (some ⟨wx.heap.size, 0, none⟩) 6 6] (wx.alloc (.cells #[.string ⟨(putT d).toArray⟩, .string ⟨(tieT (pairsT ps)).toArray⟩, .string ⟨(putS (ses zs)).toArray⟩, .string ⟨#[48]⟩, .string ⟨(eatT ea).toArray⟩, .string (nb al)] 9)) fun e w' => e = .returned (str (putP (Ph.pl ⟨d, sm, ps, sp, zs, sz, false, ea, se, al⟩))) /\ Below W1.heap.size W1 w' := by
      refine ct.mono ?_
      rintro e w' ⟨rfl, b⟩
      exact ⟨rfl, hS1.trans (b.mono hS1.size)⟩
    clear hown0 hW1 hsl ct hS1 hS hfew hbox
    go_wp2_with fail
    refine ct2.mono ?_
    rintro e w2 ⟨rfl, b2⟩
    go_wp2_with fail
    go_ret
    exact ⟨rfl, hbw1.trans (b2.mono (by omega))⟩
  · have hown0 := own_new wx W1.heap.size (strP ⟨d, sm, ps, sp, zs, sz, true, ea, se, al⟩) hz (by simp [strP])
    have hsl := SL.of_own hown0
    have ct := tie_any _ (strP ⟨d, sm, ps, sp, zs, sz, true, ea, se, al⟩) _ hsl hfew
    rw [HT.out] at ct
    have hS1 := hS.alloc hz (.cells #[.string ⟨(putT d).toArray⟩, .string ⟨(tieT (pairsT ps)).toArray⟩, .string ⟨(putS (ses zs)).toArray⟩, .string ⟨#[49]⟩, .string ⟨(eatT ea).toArray⟩, .string (nb al)] 9)
    have ct2 : Calls Tryz.prog 128 #[.slice (some ⟨wx.heap.size, 0, none⟩) 6 6] (wx.alloc (.cells #[.string ⟨(putT d).toArray⟩, .string ⟨(tieT (pairsT ps)).toArray⟩, .string ⟨(putS (ses zs)).toArray⟩, .string ⟨#[49]⟩, .string ⟨(eatT ea).toArray⟩, .string (nb al)] 9)) fun e w' => e = .returned (str (putP (Ph.pl ⟨d, sm, ps, sp, zs, sz, true, ea, se, al⟩))) /\ Below W1.heap.size W1 w' := by
      refine ct.mono ?_
      rintro e w' ⟨rfl, b⟩
      exact ⟨rfl, hS1.trans (b.mono hS1.size)⟩
    clear hown0 hW1 hsl ct hS1 hS hfew hbox
    go_wp2_with fail
    refine ct2.mono ?_
    rintro e w2 ⟨rfl, b2⟩
    go_wp2_with fail
    go_ret
    exact ⟨rfl, hbw1.trans (b2.mono (by omega))⟩
end Go.Proofs.YthcmnkmfhgoddaaGreatDoor.Dp

namespace Go.Proofs.YthcmnkmfhgoddaaGreatDoor.Dp
open Go.RowKit Bnd
open Go.Proofs.YthcmnkmfhgoddaaGreatDoor.Ds (De SM OwnI OwnM ArgM)
open Go.Proofs.YthcmnkmfhgoddaaGreatDoor.Ss (Ses Zs ses SZ PZ NoP OwnZ ArgZ BoxS zcells zcells_get zcells_length)
open Go.Proofs.YthcmnkmfhgoddaaGreatDoor.Od (Pr SP OwnP ArgP)
structure OwnO (w : World) (base : Nat) (o : Ph) : Prop where
 sm : OwnM w base o.sm o.d.ms
 sp : OwnP w base o.sp o.ps
 sz : OwnZ w base o.sz o.zs
 se : OwnI w base o.se o.ea
theorem OwnO.ha {w : World} {base : Nat} {o : Ph} (h : OwnO w base o) (hp : NoP o.zs) : HA w o := ⟨.of_own h.sm, .of_own h.sp, .of_own h.sz, hp, .of_own h.se, .own h.sp, .own h.se⟩
theorem ownsRow_low {w w' : World} {base N : Nat} {e : TypeId} {size : Nat} {v : Value} {n : Nat} {xs : List Value} (h : w.ownsRow base e size v n xs) (hlt : ∀ g, v.ownBlock = some g -> g < N) (hb : Below N w w') : w'.ownsRow base e size v n xs := by
 refine ⟨h.1, ?_⟩
 rcases h.2 with hn | ⟨g, cap, cur, e1, hbg, hg, rest⟩
 ·exact .inl hn
 ·refine .inr ⟨g, cap, cur, e1, hbg, ?_, rest⟩
  rw [hb.block g (hlt g (by rw [e1]; rfl))]
  exact hg
theorem ownsRow_base {w : World} {base base' : Nat} {e : TypeId} {size : Nat} {v : Value} {n : Nat} {xs : List Value} (h : w.ownsRow base e size v n xs) (hb : base' <= base) : w.ownsRow base' e size v n xs := by
 refine ⟨h.1, ?_⟩
 rcases h.2 with hn | ⟨g, cap, cur, e1, hbg, rest⟩
 ·exact .inl hn
 ·exact .inr ⟨g, cap, cur, e1, Nat.le_trans hb hbg, rest⟩
theorem ownsRow_below {w w' : World} {base : Nat} {e : TypeId} {size : Nat} {v : Value} {n : Nat} {xs : List Value} (h : w.ownsRow base e size v n xs) (hb : Below w.heap.size w w') : w'.ownsRow base e size v n xs :=
 ownsRow_low h (fun g hg => (h.lt g hg).2) hb
theorem ownZ_at {w : World} {base g n c k : Nat} {zs : List Zs} (h : OwnZ w base (.slice (some ⟨g, 0, none⟩) n c) zs) (hk : k < zs.length) : Ss.Cs w g (k * 7) zs[k] := by
 obtain ⟨g0, g1, g2, g3, g4, g5, g6⟩ := zcells_get zs k hk
 have e0 := h.cells (g := g) rfl (k * 7) _ g0
 have e1 := h.cells (g := g) rfl (k * 7 + 1) _ g1
 have e2 := h.cells (g := g) rfl (k * 7 + 2) _ g2
 have e3 := h.cells (g := g) rfl (k * 7 + 3) _ g3
 have e4 := h.cells (g := g) rfl (k * 7 + 4) _ g4
 have e5 := h.cells (g := g) rfl (k * 7 + 5) _ g5
 have e6 := h.cells (g := g) rfl (k * 7 + 6) _ g6
 rw [Addr.add_lit, Nat.zero_add] at e0 e1 e2 e3 e4 e5 e6
 exact ⟨e0, e1, e2, e3, e4, e5, e6⟩
theorem BoxP.set4 {n : Nat} {o : Ph} {w1 : World} (h : BoxP n o w1) (v : Value) : BoxP n { o with sm := v } (w1.setCell ⟨n, 4, none⟩ v) := by
 obtain ⟨h0, ⟨h1, h2, h3, h4, h5, h6, h7, h8, h9, h10, h11⟩, hf⟩ := h
 refine ⟨by simpa using h0, ⟨?_, ?_, ?_, ?_, ?_, ?_, ?_, ?_, ?_, ?_, ?_⟩, fun o => by simp [World.frozen?_setCell, hf]⟩
 all_goals simp [go_sem, h1, h2, h3, h4, h5, h6, h7, h8, h9, h10, h11]
theorem BoxP.set6 {n : Nat} {o : Ph} {w1 : World} (h : BoxP n o w1) (v : Value) (ps : List Pr) : BoxP n { o with ps := ps, sp := v } (w1.setCell ⟨n, 6, none⟩ v) := by
 obtain ⟨h0, ⟨h1, h2, h3, h4, h5, h6, h7, h8, h9, h10, h11⟩, hf⟩ := h
 refine ⟨by simpa using h0, ⟨?_, ?_, ?_, ?_, ?_, ?_, ?_, ?_, ?_, ?_, ?_⟩, fun o => by simp [World.frozen?_setCell, hf]⟩
 all_goals simp [go_sem, h1, h2, h3, h4, h5, h6, h7, h8, h9, h10, h11]
theorem BoxP.set7 {n : Nat} {o : Ph} {w1 : World} (h : BoxP n o w1) (v : Value) (zs : List Zs) : BoxP n { o with zs := zs, sz := v } (w1.setCell ⟨n, 7, none⟩ v) := by
 obtain ⟨h0, ⟨h1, h2, h3, h4, h5, h6, h7, h8, h9, h10, h11⟩, hf⟩ := h
 refine ⟨by simpa using h0, ⟨?_, ?_, ?_, ?_, ?_, ?_, ?_, ?_, ?_, ?_, ?_⟩, fun o => by simp [World.frozen?_setCell, hf]⟩
 all_goals simp [go_sem, h1, h2, h3, h4, h5, h6, h7, h8, h9, h10, h11]
theorem BoxP.set9 {n : Nat} {o : Ph} {w1 : World} (h : BoxP n o w1) (v : Value) (ea : List Int) : BoxP n { o with ea := ea, se := v } (w1.setCell ⟨n, 9, none⟩ v) := by
 obtain ⟨h0, ⟨h1, h2, h3, h4, h5, h6, h7, h8, h9, h10, h11⟩, hf⟩ := h
 refine ⟨by simpa using h0, ⟨?_, ?_, ?_, ?_, ?_, ?_, ?_, ?_, ?_, ?_, ?_⟩, fun o => by simp [World.frozen?_setCell, hf]⟩
 all_goals simp [go_sem, h1, h2, h3, h4, h5, h6, h7, h8, h9, h10, h11]
theorem BoxP.zero (w : World) : BoxP w.heap.size Ph.zero (w.alloc (.cells #[.int .i64 0, .string ⟨#[]⟩, .string ⟨#[]⟩, .int .i64 0, .slice none 0 0, .int .i64 0, .slice none 0 0, .slice none 0 0, .bool false, .slice none 0 0, .int .i64 0] 38)) := BoxP.new w Ph.zero
set_option maxHeartbeats 2000000 in
theorem cloneP_none (A : Option Addr) (c : Nat) (w : World) :
  Calls Tryz.prog 151 #[.slice A 0 c] w fun e w' => ∃ A' c', e = .returned (.slice A' 0 c') /\ Below w.heap.size w w' := by
 cases A with
 | none =>
  have q : ∀ (w : World) (a : Option Addr) (n c n' c' : Nat), (binOp .eql 34 (.slice a n c) (.slice none n' c')).run Tryz.prog w = .ok (.bool a.isNone) w := fun w a n c n' c' => Lib.run_eql_slice_nil w _ _ a n c n' c' Tryz.underlying34
  go_enter Tryz.func151, Tryz.ntmps151
  go_wp2_with fail
  go_ret
  exact ⟨_, _, rfl, Below.refl _ _⟩
 | some a =>
  refine (cloneP_any _ [] w (.empty a c) (by simp)).mono ?_
  rintro e w' ⟨v, rfl, ho, hb⟩
  obtain ⟨A', c', rfl⟩ := (SP.of_own ho).form
  exact ⟨A', c', rfl, hb⟩
abbrev putW (w1 : World) (n : Nat) (o : Ph) : World := World.setCell (World.setCell (World.setCell (World.setCell (World.setCell (World.setCell (World.setCell (World.setCell (World.setCell (World.setCell (World.setCell w1 ⟨n, 0, none⟩ (.int .i64 o.d.id)) ⟨n, 1, none⟩ (.string o.d.f)) ⟨n, 2, none⟩ (.string o.d.t)) ⟨n, 3, none⟩ (.int .i64 o.d.gen)) ⟨n, 4, none⟩ (o.sm)) ⟨n, 5, none⟩ (.int .i64 o.d.next)) ⟨n, 6, none⟩ (o.sp)) ⟨n, 7, none⟩ (o.sz)) ⟨n, 8, none⟩ (.bool o.fr)) ⟨n, 9, none⟩ (o.se)) ⟨n, 10, none⟩ (.int .i64 o.al)
theorem putW_own {base n : Nat} {w1 : World} (o : Ph) (hn : n < base) {e : TypeId} {size : Nat} {v : Value} {m : Nat} {xs : List Value} (h : w1.ownsRow base e size v m xs) : (putW w1 n o).ownsRow base e size v m xs := by
 repeat (refine ownsRow_setCell_below ?_ hn _)
 exact h
theorem putW_below {N n : Nat} {w0 w1 : World} (o : Ph) (hn : N <= n) (h : Below N w0 w1) : Below N w0 (putW w1 n o) := by
 iterate 11 (refine Below.setCell ?_ hn _)
 exact h
theorem putW_size (w1 : World) (n : Nat) (o : Ph) : (putW w1 n o).heap.size = w1.heap.size := by simp [putW]
theorem putW_cell {n : Nat} {w1 : World} (o : Ph) {p : Addr} (h : p.block ≠ n) : (putW w1 n o).cell? p = w1.cell? p := by
 unfold putW
 iterate 11 (rw [World.cell?_setCell_far _ _ _ _ (by exact fun e => h e.symm)])
theorem BoxP.putW {n m : Nat} {o0 : Ph} {w1 : World} (h : BoxP n o0 w1) (o : Ph) (hn : m ≠ n) : BoxP n o0 (putW w1 m o) := by
 iterate 11 (refine BoxP.other ?_ hn _)
 exact h
structure R7 (W2 : World) (g i : Nat) (L : Nat -> Bool) (u : Nat -> Value) (wx : World) : Prop where
 a : L 10 = false -> Below W2.heap.size W2 wx
 b : L 10 = true -> ∃ wy, Below W2.heap.size W2 wy /\ wx = wy.setCell ⟨g, i, none⟩ (u 6)
set_option maxHeartbeats 16000000 in
set_option maxRecDepth 100000 in
theorem own_any (o : Ph) (w : World) (h : HA w o) (l1 : o.d.ms.length <= 1000) (l2 : o.ps.length <= 100000) (l3 : o.zs.length <= 100000) (l4 : o.ea.length <= 100000) :
  Calls Tryz.prog 81 #[qv o] w fun e w' => ∃ o', e = .returned (qv o') /\ o'.pl = o.pl /\ OwnO w' w.heap.size o' /\ NoP o'.zs /\ Below w.heap.size w w' := by
 obtain ⟨d, sm, ps, sp, zs, sz, fr, ea, se, al⟩ := o
 obtain ⟨h1, h2, h3, h4, h5, _, _⟩ := h
 simp only at h1 h2 h3 h4 h5 l1 l2 l3 l4
 obtain ⟨fA, fa, rfl⟩ := h1.form
 obtain ⟨fB, fb, rfl⟩ := h2.sm.form
 obtain ⟨fC, fc, rfl⟩ := h3.form
 obtain ⟨fD, fd, rfl⟩ := h5.si.form
 obtain ⟨W1, hW1⟩ : ∃ W1, (w.alloc (.cells #[.int .i64 d.id, .string d.f, .string d.t, .int .i64 d.gen, .slice fA d.ms.length fa, .int .i64 d.next, .slice fB ps.length fb, .slice fC zs.length fc, .bool fr, .slice fD ea.length fd, .int .i64 al] 38)).alloc (.cells #[.int .i64 0, .string ⟨#[]⟩, .string ⟨#[]⟩, .int .i64 0, .slice none 0 0, .int .i64 0, .slice none 0 0, .slice none 0 0, .bool false, .slice none 0 0, .int .i64 0] 38) = W1 := ⟨_, rfl⟩
 have B0 : BoxP w.heap.size ⟨d, .slice fA d.ms.length fa, ps, .slice fB ps.length fb, zs, .slice fC zs.length fc, fr, ea, .slice fD ea.length fd, al⟩ W1 := hW1 ▸ (BoxP.new w ⟨d, .slice fA d.ms.length fa, ps, .slice fB ps.length fb, zs, .slice fC zs.length fc, fr, ea, .slice fD ea.length fd, al⟩).alloc _
 have Z0 : BoxP (w.heap.size + 1) Ph.zero W1 := by
  have := BoxP.zero (w.alloc (.cells #[.int .i64 d.id, .string d.f, .string d.t, .int .i64 d.gen, .slice fA d.ms.length fa, .int .i64 d.next, .slice fB ps.length fb, .slice fC zs.length fc, .bool fr, .slice fD ea.length fd, .int .i64 al] 38))
  rw [hW1, World.size_alloc] at this
  exact this
 have hz1 : W1.heap.size = w.heap.size + 2 := by rw [<- hW1]; simp
 have hbw1 : Below w.heap.size w W1 := by rw [<- hW1]; exact ((Below.refl _ w).alloc (Nat.le_refl _) _).alloc (by simp) _
 -- members
 have c1 := Ds.clone_any _ d.ms W1 (h1.keep hbw1) l1
 go_enter Tryz.func81, Tryz.ntmps81
 obtain ⟨p_0, ⟨p_1, p_2, p_3, p_4, p_5, p_6, p_7, p_8, p_9, p_10, p_11⟩, p_12⟩ := _root_.id B0
 go_wp2_with (rw [hW1])
 ((try clear p_0); (try clear p_1); (try clear p_2); (try clear p_3); (try clear p_4); (try clear p_5); (try clear p_6); (try clear p_7); (try clear p_8); (try clear p_9); (try clear p_10); (try clear p_11); (try clear p_12))
 refine c1.mono ?_
 rintro e w2 ⟨v1, rfl, O1, b1⟩
 obtain ⟨A1, a1, rfl⟩ := (SM.of_own O1).form
 have B1 := B0.keep b1
 have Z1 := Z0.keep b1
 have hb1 : Below w.heap.size w w2 := hbw1.trans (b1.mono (by omega))
 obtain ⟨W3, hW3⟩ : ∃ W3, w2.setCell ⟨w.heap.size, 4, none⟩ (.slice A1 d.ms.length a1) = W3 := ⟨_, rfl⟩
 have B3 : BoxP w.heap.size ⟨d, .slice A1 d.ms.length a1, ps, .slice fB ps.length fb, zs, .slice fC zs.length fc, fr, ea, .slice fD ea.length fd, al⟩ W3 := hW3 ▸ B1.set4 (.slice A1 d.ms.length a1)
 have Z3 : BoxP (w.heap.size + 1) Ph.zero W3 := hW3 ▸ Z1.other (by simp) (.slice A1 d.ms.length a1)
 have O1' : OwnM W3 W1.heap.size (.slice A1 d.ms.length a1) d.ms := hW3 ▸ Ds.own_set O1 (by simp; omega) (.slice A1 d.ms.length a1)
 have hbw3 : Below w.heap.size w W3 := hW3 ▸ hb1.setCell (by simp) (.slice A1 d.ms.length a1)
 have hz3 : W1.heap.size <= W3.heap.size := by rw [<- hW3]; have := b1.size; simpa using this
 have c2 := cloneP_any _ ps W3 (h2.keep hbw3) l2
 obtain ⟨p_0, ⟨p_1, p_2, p_3, p_4, p_5, p_6, p_7, p_8, p_9, p_10, p_11⟩, p_12⟩ := _root_.id B1
 obtain ⟨q_0, ⟨q_1, q_2, q_3, q_4, q_5, q_6, q_7, q_8, q_9, q_10, q_11⟩, q_12⟩ := _root_.id B3
 clear c1 O1 Z1
 go_wp2_with (rw [hW3])
 ((try clear p_0); (try clear p_1); (try clear p_2); (try clear p_3); (try clear p_4); (try clear p_5); (try clear p_6); (try clear p_7); (try clear p_8); (try clear p_9); (try clear p_10); (try clear p_11); (try clear p_12))
 ((try clear q_0); (try clear q_1); (try clear q_2); (try clear q_3); (try clear q_4); (try clear q_5); (try clear q_6); (try clear q_7); (try clear q_8); (try clear q_9); (try clear q_10); (try clear q_11); (try clear q_12))
 clear hW1 B0 Z0 hW3 B1 b1 hb1
 -- pairs
 refine c2.mono ?_
 rintro e w4 ⟨v2, rfl, O2, b2⟩
 obtain ⟨A2, a2, rfl⟩ := (SP.of_own O2).form
 have B4 := B3.keep b2
 have Z4 := Z3.keep b2
 have hb4 : Below w.heap.size w w4 := hbw3.trans (b2.mono (by omega))
 obtain ⟨W5, hW5⟩ : ∃ W5, w4.setCell ⟨w.heap.size, 6, none⟩ (.slice A2 ps.length a2) = W5 := ⟨_, rfl⟩
 have B5 : BoxP w.heap.size ⟨d, .slice A1 d.ms.length a1, ps, .slice A2 ps.length a2, zs, .slice fC zs.length fc, fr, ea, .slice fD ea.length fd, al⟩ W5 := hW5 ▸ B4.set6 (.slice A2 ps.length a2) ps
 have Z5 : BoxP (w.heap.size + 1) Ph.zero W5 := hW5 ▸ Z4.other (by simp) (.slice A2 ps.length a2)
 have M5 : OwnM W5 W1.heap.size (.slice A1 d.ms.length a1) d.ms := hW5 ▸ Ds.own_set (ownsRow_below O1' b2) (by simp; omega) (.slice A2 ps.length a2)
 have P5 : OwnP W5 W1.heap.size (.slice A2 ps.length a2) ps := hW5 ▸ ownsRow_setCell_below (ownsRow_base O2 hz3) (by simp; omega) (.slice A2 ps.length a2)
 have hbw5 : Below w.heap.size w W5 := hW5 ▸ hb4.setCell (by simp) (.slice A2 ps.length a2)
 have hz5 : W1.heap.size <= W5.heap.size := by rw [<- hW5]; have := b2.size; simp; omega
 have c3 := cloneZ_any _ zs W5 (h3.keep hbw5) (fun z hz => by obtain ⟨_, A, c, e⟩ := h4 z hz; rw [e]; rfl) l3
 obtain ⟨p_0, ⟨p_1, p_2, p_3, p_4, p_5, p_6, p_7, p_8, p_9, p_10, p_11⟩, p_12⟩ := _root_.id B4
 obtain ⟨q_0, ⟨q_1, q_2, q_3, q_4, q_5, q_6, q_7, q_8, q_9, q_10, q_11⟩, q_12⟩ := _root_.id B5
 clear c2 O2 O1' Z3 Z4
 go_wp2_with (rw [hW5])
 ((try clear p_0); (try clear p_1); (try clear p_2); (try clear p_3); (try clear p_4); (try clear p_5); (try clear p_6); (try clear p_7); (try clear p_8); (try clear p_9); (try clear p_10); (try clear p_11); (try clear p_12))
 ((try clear q_0); (try clear q_1); (try clear q_2); (try clear q_3); (try clear q_4); (try clear q_5); (try clear q_6); (try clear q_7); (try clear q_8); (try clear q_9); (try clear q_10); (try clear q_11); (try clear q_12))
 clear hW5 B3 B4 b2 hb4 hbw3 hz3
 -- sessions
 refine c3.mono ?_
 rintro e w6 ⟨v3, rfl, O3, b3⟩
 obtain ⟨A3, cap3, rfl⟩ := (SZ.of_own O3).form
 have B6 := B5.keep b3
 have Z6 := Z5.keep b3
 have hb6 : Below w.heap.size w w6 := hbw5.trans (b3.mono (by omega))
 obtain ⟨N, hN⟩ : ∃ N, W5.heap.size = N := ⟨_, rfl⟩
 have hz6 := b3.size
 have m1 : ∀ g, (Value.slice A1 d.ms.length a1).ownBlock = some g -> g < N := fun g hg => hN ▸ (M5.lt g hg).2
 have m2 : ∀ g, (Value.slice A2 ps.length a2).ownBlock = some g -> g < N := fun g hg => hN ▸ (P5.lt g hg).2
 rw [hN] at O3 b3 hz5 hz6
 obtain ⟨n, hn⟩ : ∃ n, zs.length = n := ⟨_, rfl⟩
 have HN := Lib.hid hn
 have hnl : n <= 100000 := by omega
 rw [hn] at O3 B6 ⊢
 clear hn
 obtain ⟨W7, hW7⟩ : ∃ W7, w6.setCell ⟨w.heap.size, 7, none⟩ (.slice A3 n cap3) = W7 := ⟨_, rfl⟩
 have B7 : BoxP w.heap.size ⟨d, .slice A1 d.ms.length a1, ps, .slice A2 ps.length a2, zs, .slice A3 n cap3, fr, ea, .slice fD ea.length fd, al⟩ W7 := hW7 ▸ B6.set7 (.slice A3 n cap3) zs
 have Z7 : BoxP (w.heap.size + 1) Ph.zero W7 := hW7 ▸ Z6.other (by simp) _
 have M7 : OwnM W7 W1.heap.size (.slice A1 d.ms.length a1) d.ms := hW7 ▸ Ds.own_set (ownsRow_low M5 m1 b3) (by simp; omega) _
 have P7 : OwnP W7 W1.heap.size (.slice A2 ps.length a2) ps := hW7 ▸ ownsRow_setCell_below (ownsRow_low P5 m2 b3) (by simp; omega) _
 have S7 : OwnZ W7 N (.slice A3 n cap3) zs := hW7 ▸ Ss.ownZ_set O3 (by simp; omega) _
 have hbw7 : Below w.heap.size w W7 := hW7 ▸ hb6.setCell (by simp) _
 have hz7 : N <= W7.heap.size := by rw [<- hW7]; simpa using hz6
 have HS7 := Lib.hid S7
 obtain ⟨p_0, ⟨p_1, p_2, p_3, p_4, p_5, p_6, p_7, p_8, p_9, p_10, p_11⟩, p_12⟩ := _root_.id B6
 obtain ⟨q_0, ⟨q_1, q_2, q_3, q_4, q_5, q_6, q_7, q_8, q_9, q_10, q_11⟩, q_12⟩ := _root_.id B7
 clear c3 O3 Z5 Z6 M5 P5 hN h1 h2 h3
 go_wp2_with (rw [hW7])
 ((try clear p_0); (try clear p_1); (try clear p_2); (try clear p_3); (try clear p_4); (try clear p_5); (try clear p_6); (try clear p_7); (try clear p_8); (try clear p_9); (try clear p_10); (try clear p_11); (try clear p_12))
 ((try clear q_0); (try clear q_1); (try clear q_2); (try clear q_3); (try clear q_4); (try clear q_5); (try clear q_6); (try clear q_7); (try clear q_8); (try clear q_9); (try clear q_10); (try clear q_11); (try clear q_12))
 clear hW7 B5 B6 b3 hb6 hbw5 hz6 S7
 go_loopw [3, 4, 22] (fun _ _ vi wr => ∃ (k : Nat) (zs' : List Zs), k <= n /\ vi = .int .i64 (k : Int) /\ Hid (ses zs' = ses zs) /\ NoP zs' /\ OwnZ wr N (.slice A3 n cap3) zs' /\ Below N W7 wr) (fun _ _ vi _ => n - (intOf vi).toNat)
 case atStart => exact ⟨0, zs, Nat.zero_le _, rfl, Lib.hid rfl, h4, HS7.out, Below.refl _ _⟩
 case round =>
  obtain ⟨k, zs', hk, rfl, HSS, hnp, hown, hbr⟩ := hrel
  have hzr := hbr.size
  have hl' : zs'.length = n := by have := congrArg List.length HSS.out; simp only [List.length_map] at this; rw [this, HN.out]
  have HL := Lib.hid hl'
  have BR : BoxP w.heap.size ⟨d, .slice A1 d.ms.length a1, ps, .slice A2 ps.length a2, zs, .slice A3 n cap3, fr, ea, .slice fD ea.length fd, al⟩ wr := B7.kept (by omega) hbr
  have ZR : BoxP (w.heap.size + 1) Ph.zero wr := Z7.kept (by omega) hbr
  by_cases hlt : k < n
  ·have hkx : k < zs'.length := by omega
   obtain ⟨g, rfl, hNg, hgw, _⟩ := ownZ_block hown (by omega)
   obtain ⟨q0, q1, q2, q3, q4, q5, q6⟩ := ownZ_at hown hkx
   obtain ⟨hpp, PA, pc, hpv⟩ := hnp _ (List.getElem_mem hkx)
   obtain ⟨⟨⟨cl, sq, r⟩, pv⟩, hzk⟩ : ∃ z, zs'[k] = z := ⟨_, rfl⟩
   rw [hzk] at q0 q1 q2 q3 q4 q5 q6 hpp hpv
   simp only at q0 q1 q2 q3 q4 q5 q6 hpp hpv
   subst hpv
   obtain ⟨W2, hW2⟩ : ∃ W2, wr.alloc (.cells #[.int .i64 cl, .int .i64 sq, .int .i64 r.code, .int .i64 r.err, .bool r.has, .string r.val, .slice PA 0 pc] 89) = W2 := ⟨_, rfl⟩
   have B2 : BoxS wr.heap.size (⟨cl, sq, r⟩, .slice PA 0 pc) W2 := hW2 ▸ BoxS.new wr (⟨cl, sq, r⟩, .slice PA 0 pc)
   have hb2 : Below wr.heap.size wr W2 := by rw [<- hW2]; exact (Below.refl _ wr).alloc (Nat.le_refl _) _
   have hz2 : W2.heap.size = wr.heap.size + 1 := by rw [<- hW2]; simp
   have BP2 := BR.keep hb2
   have O2 : OwnZ W2 N (.slice (some ⟨g, 0, none⟩) n cap3) zs' := ownsRow_below hown hb2
   have HO := Lib.hid O2
   have H2 := Lib.hid hW2
   have HZK := Lib.hid hzk
   obtain ⟨i6, hi6⟩ : ∃ i6, k * 7 + 6 = i6 := ⟨_, rfl⟩
   have HI := Lib.hid hi6
   have k0 : (0 <= (k : Int)) = True := eq_true (by omega)
   have k1 : ((k : Int) < (n : Int)) = True := eq_true (by omega)
   have hk1 : (k : Int) < (n : Int) := by omega
   have hbp : ∀ wx, Below W2.heap.size W2 wx -> BoxP w.heap.size ⟨d, .slice A1 d.ms.length a1, ps, .slice A2 ps.length a2, zs, .slice (some ⟨g, 0, none⟩) n cap3, fr, ea, .slice fD ea.length fd, al⟩ wx := fun wx hx => BP2.kept (by omega) hx
   have hbs : ∀ wx, Below W2.heap.size W2 wx -> BoxS wr.heap.size (⟨cl, sq, r⟩, .slice PA 0 pc) wx := fun wx hx => BoxS.kept B2 (by omega) hx
   have hcx : ∀ wx, Below W2.heap.size W2 wx -> wx.cell? ⟨g, i6, none⟩ = some (.slice PA 0 pc) := fun wx hx => by
    rw [<- hi6]
    exact ((hb2.trans (hx.mono (by omega))).cell (p := ⟨g, k * 7 + 6, none⟩) hgw).trans q6
   have hfz : ∀ wx, Below W2.heap.size W2 wx -> wx.frozen? ⟨g, i6, none⟩ = false := fun wx hx => (hx.frozen (p := ⟨g, i6, none⟩) (by show g < _; omega)).trans (ownZ_frozen (by rw [HL.out]; exact HO.out) i6)
   clear hW2 hown O2 hzk hl' BP2 BR B2 hi6
   go_wp2_with fail
   try rw [H2.out]
   refine St.wp_region_mixed (R7 W2 g i6) (fun i z => match i with | 6 => ∃ A c, z = .slice A 0 c | _ => False) (by kernel_rfl) (by kernel_rfl) (by kernel_rfl) ⟨fun _ => (Below.refl _ _).drew, fun h => (by cases h)⟩ ?_
   iterate 6
    (apply St.mix_give
     ·rfl
     ·intro L u' wx hS hcl hrd hag
      have hbx := hS.a (St.not_yet hcl hrd 40 10 (by kernel_rfl))
      obtain ⟨_, ⟨d0, d1, d2, d3, d4, d5, d6, d7, d8, d9, d10⟩, _⟩ := hbp wx hbx
      obtain ⟨_, ⟨e0, e1, e2, e3, e4, e5, e6⟩, _⟩ := hbs wx hbx
      go_simp
      try with_reducible rfl
     ·exact fun L u' wx hS => ⟨hS.a, hS.b⟩
     simp only [Act.put, St.pu])
   refine St.mix_call (f := 151) (args := #[.slice PA 0 pc]) rfl ?_ ?_ ?_
   ·intro wx
    go_simp
    try with_reducible rfl
   ·intro L u' wx hS hcl hrd hag
    have h10 := St.not_yet hcl hrd 40 10 (by kernel_rfl)
    refine (cloneP_none PA pc wx).mono ?_
    rintro e w' ⟨A', c', rfl, hb'⟩
    refine ⟨_, rfl, ⟨A', c', rfl⟩, ⟨fun _ => (hS.a h10).trans (hb'.mono (hS.a h10).size), fun h' => ?_⟩⟩
    rw [show St.mark L 6 10 = L 10 from rfl, h10] at h'; cases h'
   rintro y6 ⟨Ay, cy, rfl⟩
   simp only [Act.put, St.pu]
   iterate 3
    (apply St.mix_give
     ·rfl
     ·intro L u' wx hS hcl hrd hag
      go_simp
      try with_reducible rfl
     ·exact fun L u' wx hS => ⟨hS.a, hS.b⟩
     simp only [Act.put, St.pu])
   refine St.mix_skip rfl ?_ ?_
   ·intro L u' wx hS hcl hrd hag
    have h6 : u' 6 = .slice Ay 0 cy := hag 40 6 (by kernel_rfl)
    have hbx := hS.a hrd.1
    have hf := hfz wx hbx
    refine ⟨_, ?_, ⟨fun h => (by simp [St.mark] at h), fun _ => ⟨wx, hbx, by rw [show St.upd u' 10 undef 6 = u' 6 from rfl, h6]⟩⟩⟩
    go_simp
    rw [show k * 7 + 2 + 4 = i6 by have := HI.out; omega, hcx wx hbx]
    simp [hf, Result.andThen]
   simp only [Act.put]
   refine St.mix_last ?_
   intro L wx hS hall
   obtain ⟨wy, hby, hwx⟩ := hS.b (hall 10 (by decide))
   have hwx' : wx = wy.setCell ⟨g, i6, none⟩ (.slice Ay 0 cy) := hwx
   subst hwx'
   have O9 := ownZ_put (base := N) (g := g) (c := cap3) (by rw [HL.out]; exact ownsRow_below HO.out hby) hkx (.slice Ay 0 cy)
   rw [HL.out, HI.out] at O9
   have HO9 := Lib.hid O9
   have B9 : Below N W7 (wy.setCell ⟨g, i6, none⟩ (.slice Ay 0 cy)) := ((hbr.trans (hb2.mono (by omega))).trans (hby.mono (by omega))).setCell hNg _
   clear hS hall hwx O9 hcx hfz hbp hbs
   go_wp2_with fail
   go_roundw
   case rel => exact ⟨k + 1, _, by omega, by go_num, Lib.hid ((ses_set hkx _).trans HSS.out), nop_set hnp hkx, HO9.out, B9⟩
   case measure => simp [intOf]; omega
  ·obtain rfl : k = n := by omega
   have c4 := cloneI_any _ ea wr (h5.keep (hbw7.trans (hbr.mono (by omega)))) l4
   have HNP := hnp
   obtain ⟨p_0, ⟨p_1, p_2, p_3, p_4, p_5, p_6, p_7, p_8, p_9, p_10, p_11⟩, p_12⟩ := _root_.id BR
   clear hlt
   go_wp2_with fail
   ((try clear p_0); (try clear p_1); (try clear p_2); (try clear p_3); (try clear p_4); (try clear p_5); (try clear p_6); (try clear p_7); (try clear p_8); (try clear p_9); (try clear p_10); (try clear p_11); (try clear p_12))
   refine c4.mono ?_
   rintro e w8 ⟨v4, rfl, O4, b4⟩
   obtain ⟨A4, a4, rfl⟩ := (SI.of_own O4).form
   have hbr8 : Below w.heap.size w w8 := (hbw7.trans (hbr.mono (by omega))).trans (b4.mono (by omega))
   have B8 := BR.keep b4
   have Z8 := ZR.keep b4
   obtain ⟨W9, hW9⟩ : ∃ W9, w8.setCell ⟨w.heap.size, 9, none⟩ (.slice A4 ea.length a4) = W9 := ⟨_, rfl⟩
   have B9 : BoxP w.heap.size ⟨d, .slice A1 d.ms.length a1, ps, .slice A2 ps.length a2, zs', .slice A3 k cap3, fr, ea, .slice A4 ea.length a4, al⟩ W9 := hW9 ▸ B8.set9 (.slice A4 ea.length a4) ea
   have Z9 : BoxP (w.heap.size + 1) Ph.zero W9 := hW9 ▸ Z8.other (by simp) _
   have M9 : OwnM W9 W1.heap.size (.slice A1 d.ms.length a1) d.ms := hW9 ▸ Ds.own_set (ownsRow_below (ownsRow_low M7 m1 hbr) b4) (by simp; omega) _
   have P9 : OwnP W9 W1.heap.size (.slice A2 ps.length a2) ps := hW9 ▸ ownsRow_setCell_below (ownsRow_below (ownsRow_low P7 m2 hbr) b4) (by simp; omega) _
   have S9 : OwnZ W9 W1.heap.size (.slice A3 k cap3) zs' := hW9 ▸ ownsRow_setCell_below (ownsRow_base (ownsRow_below hown b4) hz5) (by simp; omega) _
   have I9 : OwnI W9 W1.heap.size (.slice A4 ea.length a4) ea := hW9 ▸ ownsRow_setCell_below (ownsRow_base O4 (by omega)) (by simp; omega) _
   have hbw9 : Below w.heap.size w W9 := hW9 ▸ hbr8.setCell (by simp) _
   have HPL : Hid (Ph.pl ⟨d, .slice A1 d.ms.length a1, ps, .slice A2 ps.length a2, zs', .slice A3 k cap3, fr, ea, .slice A4 ea.length a4, al⟩ = Ph.pl ⟨d, .slice fA d.ms.length fa, ps, .slice fB ps.length fb, zs, .slice fC zs.length fc, fr, ea, .slice fD ea.length fd, al⟩) := Lib.hid (by unfold Ph.pl; simp only; rw [HSS.out])
   obtain ⟨p_0, ⟨p_1, p_2, p_3, p_4, p_5, p_6, p_7, p_8, p_9, p_10, p_11⟩, p_12⟩ := _root_.id B8
   obtain ⟨q_0, ⟨q_1, q_2, q_3, q_4, q_5, q_6, q_7, q_8, q_9, q_10, q_11⟩, q_12⟩ := _root_.id B9
   obtain ⟨r_0, ⟨r_1, r_2, r_3, r_4, r_5, r_6, r_7, r_8, r_9, r_10, r_11⟩, r_12⟩ := _root_.id Z9
   clear c4 O4 M7 P7 hown
   go_wp2_with (rw [hW9])
   have BF : BoxP (w.heap.size + 1) ⟨d, .slice A1 d.ms.length a1, ps, .slice A2 ps.length a2, zs', .slice A3 k cap3, fr, ea, .slice A4 ea.length a4, al⟩ (putW W9 (w.heap.size + 1) ⟨d, .slice A1 d.ms.length a1, ps, .slice A2 ps.length a2, zs', .slice A3 k cap3, fr, ea, .slice A4 ea.length a4, al⟩) := BoxP.put Z9 ⟨d, .slice A1 d.ms.length a1, ps, .slice A2 ps.length a2, zs', .slice A3 k cap3, fr, ea, .slice A4 ea.length a4, al⟩
   have FO : OwnO (putW W9 (w.heap.size + 1) ⟨d, .slice A1 d.ms.length a1, ps, .slice A2 ps.length a2, zs', .slice A3 k cap3, fr, ea, .slice A4 ea.length a4, al⟩) w.heap.size ⟨d, .slice A1 d.ms.length a1, ps, .slice A2 ps.length a2, zs', .slice A3 k cap3, fr, ea, .slice A4 ea.length a4, al⟩ := ⟨ownsRow_base (putW_own ⟨d, .slice A1 d.ms.length a1, ps, .slice A2 ps.length a2, zs', .slice A3 k cap3, fr, ea, .slice A4 ea.length a4, al⟩ (by omega) M9) (by omega), ownsRow_base (putW_own ⟨d, .slice A1 d.ms.length a1, ps, .slice A2 ps.length a2, zs', .slice A3 k cap3, fr, ea, .slice A4 ea.length a4, al⟩ (by omega) P9) (by omega), ownsRow_base (putW_own ⟨d, .slice A1 d.ms.length a1, ps, .slice A2 ps.length a2, zs', .slice A3 k cap3, fr, ea, .slice A4 ea.length a4, al⟩ (by omega) S9) (by omega), ownsRow_base (putW_own ⟨d, .slice A1 d.ms.length a1, ps, .slice A2 ps.length a2, zs', .slice A3 k cap3, fr, ea, .slice A4 ea.length a4, al⟩ (by omega) I9) (by omega)⟩
   have FB := putW_below ⟨d, .slice A1 d.ms.length a1, ps, .slice A2 ps.length a2, zs', .slice A3 k cap3, fr, ea, .slice A4 ea.length a4, al⟩ (n := w.heap.size + 1) (by omega) hbw9
   exact bodyPost_ret (res_BoxP Tryz.results81 rfl BF) rfl ⟨_, rfl, HPL.out, FO, HNP, FB⟩
end Go.Proofs.YthcmnkmfhgoddaaGreatDoor.Dp

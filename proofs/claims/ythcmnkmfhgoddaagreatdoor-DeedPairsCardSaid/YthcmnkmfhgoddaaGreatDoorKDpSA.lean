/-
  strands, the program's: the texts that a text has as strands, as far as they go; number. Conditions: texts of at most 2^20 bytes; the library's variables hold what their types allow.
  readEaten, the program's: the numbers that a text has as strands. Conditions: texts of at most 2^20 bytes; the library's variables hold what their types allow.
-/
import Derived.Test.YthcmnkmfhgoddaaGreatDoorKDpMA
import Derived.Test.YthcmnkmfhgoddaaGreatDoorKDsPaA
namespace Go.Proofs.YthcmnkmfhgoddaaGreatDoor.Dp
open Go.RowKit
open Go.Proofs.YthcmnkmfhgoddaaGreatDoor.M (tieT untieT intT numT inR intT_spec)
open Go.Proofs.YthcmnkmfhgoddaaGreatDoor.Od (num0)
theorem number_any (s : ByteArray) (w : World) (hs : s.size <= 140737488355328) (hg : Good w) : Calls Tryz.prog 127 #[.string s] w fun e w' => e = .returned (.int .i64 (num0 s.data.toList)) /\ Below w.heap.size w w' := by
 have c := int_any s w hs hg
 unfold num0
 cases h : intT s.data.toList with
 | none =>
  rw [h] at c
  unfold intR at c
  clear h
  go_enter Tryz.func127, Tryz.ntmps127
  go_wp2_with fail
  refine c.mono ?_
  rintro e w' ⟨rfl, hb⟩
  go_wp2_with fail
  go_ret
  exact ⟨rfl, hb⟩
 | some n =>
  rw [h] at c
  unfold intR at c
  clear h
  go_enter Tryz.func127, Tryz.ntmps127
  go_wp2_with fail
  refine c.mono ?_
  rintro e w' ⟨rfl, hb⟩
  go_wp2_with fail
  go_ret
  exact ⟨rfl, hb⟩
theorem cut_is (s : Text) : ∃ ok, Lib.cut s [58] = ((cut58 s).1, (cut58 s).2, ok) := by
 by_cases h : (58 : UInt8) ∈ s
 ·obtain ⟨p, q, rfl, hp⟩ := has_colon s h
  exact ⟨true, by rw [cut_colon p q hp, cut58_app p q hp]⟩
 ·exact ⟨false, by rw [cut_no_colon s h, cut58_none s h]⟩
theorem cut58_size (s : Text) : (cut58 s).1.length + (cut58 s).2.length <= s.length := by
 by_cases h : (58 : UInt8) ∈ s
 ·obtain ⟨p, q, rfl, hp⟩ := has_colon s h
  rw [cut58_app p q hp]; simp
 ·simp [cut58_none s h]
def StrOut (base : Nat) (l : List Text) (e : Ending) (w' : World) : Prop := ∃ v ss, e = .returned v /\ texts ss = l /\ w'.ownsRow base 9 1 v ss.length (ss.map Value.string)
set_option maxHeartbeats 4000000 in
set_option maxRecDepth 100000 in
theorem strands_any (s : ByteArray) (w : World) (hs : s.size <= 1048576) (hg : Good w) :
  Calls Tryz.prog 122 #[.string s] w fun e w' => StrOut w.heap.size (strandsG s.data.toList) e w' /\ Below w.heap.size w w' := by
 obtain ⟨i0, hi, hz0, hz1, hz2⟩ := info_parts infoStr
 obtain ⟨r, hR⟩ : ∃ r, strandsG s.data.toList = r := ⟨_, rfl⟩
 rw [hR]
 have HR := Lib.hid hR
 clear hR
 go_enter Tryz.func122, Tryz.ntmps122
 go_wp2_with fail
 go_loopw [0, 3, 4, 5, 6, 7, 8] (fun v0 v3 _ _ _ _ _ wr => ∃ (t : ByteArray) (ss : List ByteArray), v0 = .string t /\ Hid (texts ss ++ strandsG t.data.toList = r) /\ ss.length + t.size <= 1048576 /\ wr.ownsRow w.heap.size 9 1 v3 ss.length (ss.map Value.string) /\ Below w.heap.size w wr) (fun v0 _ _ _ _ _ _ _ => lenOf v0)
 case atStart => exact ⟨s, [], rfl, Lib.hid (by simpa [texts] using HR.out), by simpa using hs, ⟨by simp, .inl ⟨rfl, rfl⟩⟩, Below.refl _ w⟩
 case round =>
  revert hrel; revert wr; intro wo hrel
  obtain ⟨t, ss, rfl, HST, hts, hown, hbw⟩ := hrel
  obtain ⟨A, c, rfl⟩ := own_form hown
  have hzo := hbw.size
  obtain ⟨mm, hmm⟩ := (hg.below hbw).most
  have hc0 := Tryz.strings_Cut t ⟨#[58]⟩ mm wo (by omega) hmm
  rw [show (⟨#[58]⟩ : ByteArray).data.toList = [58] from rfl] at hc0
  obtain ⟨ok, hok⟩ := cut_is t.data.toList
  rw [hok] at hc0
  simp only [] at hc0
  have hst := HST.out
  rw [strandsG] at hst
  have hcs := cut58_size t.data.toList
  have hcl := cut58_len t.data.toList
  obtain ⟨P, hP⟩ : ∃ P : ByteArray, ⟨(cut58 t.data.toList).1.toArray⟩ = P := ⟨_, rfl⟩
  obtain ⟨Q, hQ⟩ : ∃ Q : ByteArray, ⟨(cut58 t.data.toList).2.toArray⟩ = Q := ⟨_, rfl⟩
  have hPd : (cut58 t.data.toList).1 = P.data.toList := by rw [<- hP]
  have hQd : (cut58 t.data.toList).2 = Q.data.toList := by rw [<- hQ]
  rw [hPd, hQd] at hst hcs
  rw [hQd] at hcl
  rw [hP, hQ] at hc0
  have hsz : P.size + Q.size <= t.size := by simpa using hcs
  have hql : Q.size = 0 \/ Q.size < t.size := by
   rcases hcl with h | h
   ·exact .inl ((toList_nil Q).2 h)
   ·exact .inr (by simpa using h)
  have hint := fun n => int_any P (wo.drewN n) (by omega) ((hg.below hbw).drewN n)
  clear hmm hok hP hQ hPd hQd hcs hcl
  cases hi2 : intT P.data.toList with
  | none =>
   rw [hi2] at hst hint
   unfold intR at hint
   have HS := Lib.hid hst
   clear hst hi2
   go_wp2_with fail
   refine hc0.mono ?_
   rintro e w1 ⟨rfl, n, rfl⟩
   go_wp2_with fail
   refine (hint n).mono ?_
   rintro e w2 ⟨rfl, hb2⟩
   have hb2' := below_of_drewN hb2
   have O2 := own_below hown hb2'
   go_wp2_with fail
   go_ret
   exact ⟨⟨_, ss, rfl, by rw [<- HS.out]; simp, O2⟩, hbw.trans (hb2'.mono hzo)⟩
  | some v =>
   rw [hi2] at hst hint
   unfold intR at hint
   simp only [] at hint hst
   have hvr := (intT_spec hi2).1
   unfold inR at hvr
   obtain ⟨hv1, hv2⟩ := hvr
   by_cases hneg : v < 0
   ·rw [dif_neg (by omega)] at hst
    have l1 : (v < 0) = True := eq_true hneg
    have HS := Lib.hid hst
    clear hst hi2 hneg
    go_wp2_with fail
    refine hc0.mono ?_
    rintro e w1 ⟨rfl, n, rfl⟩
    go_wp2_with fail
    refine (hint n).mono ?_
    rintro e w2 ⟨rfl, hb2⟩
    have hb2' := below_of_drewN hb2
    have O2 := own_below hown hb2'
    go_wp2_with fail
    go_ret
    exact ⟨⟨_, ss, rfl, by rw [<- HS.out]; simp, O2⟩, hbw.trans (hb2'.mono hzo)⟩
   ·have l1 : (v < 0) = False := eq_false hneg
    obtain ⟨k, rfl⟩ : ∃ k : Nat, v = (k : Int) := ⟨v.toNat, by omega⟩
    by_cases hfar : k < Q.size
    rotate_left
    ·rw [dif_neg (by simp; omega)] at hst
     have l2 : ((Q.size : Int) <= (k : Int)) = True := eq_true (by omega)
     have l3 : ((k : Int) >= (Q.size : Int)) = True := eq_true (by omega)
     have HS := Lib.hid hst
     clear hst hi2 hneg hfar
     go_wp2_with fail
     refine hc0.mono ?_
     rintro e w1 ⟨rfl, n, rfl⟩
     go_wp2_with fail
     refine (hint n).mono ?_
     rintro e w2 ⟨rfl, hb2⟩
     have hb2' := below_of_drewN hb2
     have O2 := own_below hown hb2'
     go_wp2_with fail
     go_ret
     exact ⟨⟨_, ss, rfl, by rw [<- HS.out]; simp, O2⟩, hbw.trans (hb2'.mono hzo)⟩
    ·rw [dif_pos ⟨by omega, by simp; omega⟩, show ((k : Int)).toNat = k by omega] at hst
     have l2 : ((Q.size : Int) <= (k : Int)) = False := eq_false (by omega)
     have l3 : ((k : Int) >= (Q.size : Int)) = False := eq_false (by omega)
     have hqt : Q.size < t.size := by omega
     obtain ⟨X, hX⟩ : ∃ X, Q.extract 0 k = X := ⟨_, rfl⟩
     obtain ⟨R, hRq⟩ : ∃ R, Q.extract (k + 1) Q.size = R := ⟨_, rfl⟩
     have hXd : Q.data.toList.take k = X.data.toList := by rw [<- hX, take_data]
     have hRd : Q.data.toList.drop (k + 1) = R.data.toList := by rw [<- hRq, drop_data]
     rw [hXd, hRd] at hst
     have hRs : R.size = Q.size - (k + 1) := by rw [<- hRq, ByteArray.size_extract]; omega
     have HS := Lib.hid hst
     have k1 : ((k : Int) < (Q.size : Int)) = True := eq_true (by omega)
     have hk1 : (k : Int) <= (Q.size : Int) := by omega
     have hk2 : (k : Int) + 1 <= (Q.size : Int) := by omega
     clear hst hi2 hneg hXd hRd hql
     go_wp2_with fail
     refine hc0.mono ?_
     rintro e w1 ⟨rfl, n, rfl⟩
     go_wp2_with fail
     refine (hint n).mono ?_
     rintro e w2 ⟨rfl, hb2⟩
     have hb2' := below_of_drewN hb2
     have O2 := own_below hown hb2'
     have B2 := hbw.trans (hb2'.mono hzo)
     go_wp2_with (at_builtin; refine wpList_append_own _ rfl _ _ 101 rfl w.heap.size 9 i0 (.string ⟨#[]⟩) 1 16 Tryz.underlying101 hi hz0 hz1 hz2 rfl (by decide) _ _ _ rfl (O2.alloc _) ⟨w2.heap.size, 0, none⟩ 1 1 [.string X] rfl rfl ?c1 ?c2 ?c3 ?c4 ?c5 ?_)
     case c1 =>
      intro j u hj
      match j, hj with
      | 0, hj => simp at hj; subst hj; simp [Addr.add]
     case c2 => intro u hu; simp at hu; subst hu; rfl
     case c3 => unfold maxLen; omega
     case c4 => omega
     case c5 => have := B2.size; simp; omega
     intro v' w3 O3 hgrow _
     have B3 : Below w.heap.size w w3 := (B2.alloc B2.size _).grown hgrow (by have := B2.size; simp; omega) (fun k hk => (O2.lt k hk).1)
     have O4 : w3.ownsRow w.heap.size 9 1 v' (ss ++ [X]).length ((ss ++ [X]).map Value.string) := by simpa using O3
     clear O3 hgrow
     go_wp2_with fail
     try rw [hRq]
     go_roundw
     case rel =>
      refine ⟨R, ss ++ [X], rfl, Lib.hid ?_, by simp; omega, O4, B3⟩
      rw [<- HS.out]
      simp [texts]
     case measure => simp only [lenOf]; omega
end Go.Proofs.YthcmnkmfhgoddaaGreatDoor.Dp

namespace Go.Proofs.YthcmnkmfhgoddaaGreatDoor.Dp
open Go.RowKit Bnd
open Go.Proofs.YthcmnkmfhgoddaaGreatDoor.Ds (OwnI)
open Go.Proofs.YthcmnkmfhgoddaaGreatDoor.Od (num0)
theorem argI_one (w : World) (n : Int) : ArgI (w.alloc (.cells #[.int .i64 n] 2)) (.slice (some ⟨w.heap.size, 0, none⟩) 1 1) [n] :=
 .some w.heap.size 0 1 [n] ⟨_, 1, rfl, fun _ => ⟨w.heap.size, 0, rfl, by simp, fun i hi => by
  obtain rfl : i = 0 := by simp at hi; omega
  simp [go_sem]⟩⟩
theorem ownI_base {w : World} {base base' : Nat} {v : Value} {ns : List Int} (h : OwnI w base v ns) (hb : base' <= base) : OwnI w base' v ns := by
 refine ⟨h.1, ?_⟩
 rcases h.2 with h | ⟨g, cap, cur, e, hbg, hr⟩
 ·exact .inl h
 ·exact .inr ⟨g, cap, cur, e, Nat.le_trans hb hbg, hr⟩
theorem strands_small {s : ByteArray} {ss : List ByteArray} (h : texts ss = strandsG s.data.toList) : ss.length <= s.size /\ ∀ x ∈ ss, x.size <= s.size := by
 refine ⟨?_, fun x hx => ?_⟩
 ·have := strandsG_len _ s.data.toList (Nat.le_refl _)
  rw [<- h, texts_length] at this
  simpa using this
 ·have := strandsG_mem _ s.data.toList (Nat.le_refl _) x.data.toList (by rw [<- h]; exact List.mem_map.2 ⟨x, hx, rfl⟩)
  simpa using this
set_option maxHeartbeats 4000000 in
set_option maxRecDepth 100000 in
theorem readEaten_any (s : ByteArray) (w : World) (hs : s.size <= 1048576) (hg : Good w) :
  Calls Tryz.prog 126 #[.string s] w fun e w' => ∃ v, e = .returned v /\ OwnI w' w.heap.size v ((strandsG s.data.toList).map num0) /\ Below w.heap.size w w' := by
 have cs := strands_any s w hs hg
 obtain ⟨l, hl⟩ : ∃ l, strandsG s.data.toList = l := ⟨_, rfl⟩
 rw [hl] at cs ⊢
 have HL := Lib.hid hl
 clear hl
 go_enter Tryz.func126, Tryz.ntmps126
 go_wp2_with fail
 refine cs.mono ?_
 rintro e w1 ⟨⟨v, ss, rfl, hss, hown⟩, hb1⟩
 subst hss
 obtain ⟨A, c, rfl⟩ := own_form hown
 have HO := Lib.hid (SL.of_own hown)
 obtain ⟨hln, hsz⟩ := strands_small HL.out.symm
 have HSZ := Lib.hid hsz
 obtain ⟨N, hN⟩ : ∃ N, ss.length = N := ⟨_, rfl⟩
 rw [hN] at hln ⊢
 have HN := Lib.hid hN
 have hz1 := hb1.size
 clear cs hown hsz hN
 go_wp2_with fail
 go_loopw [3, 5, 9] (fun v3 _ vi wr => ∃ k : Nat, k <= N /\ vi = .int .i64 (k : Int) /\ OwnI wr w1.heap.size v3 ((texts (ss.take k)).map num0) /\ Below w1.heap.size w1 wr) (fun _ _ vi _ => N - (intOf vi).toNat)
 case atStart => exact ⟨0, Nat.zero_le _, rfl, ⟨rfl, .inl ⟨rfl, rfl⟩⟩, Below.refl _ _⟩
 case round =>
  revert hrel; revert wr; intro wo hrel
  obtain ⟨k, hk, rfl, hown, hbo⟩ := hrel
  have hbw := hb1.trans (hbo.mono hz1)
  have hzo := hbo.size
  obtain ⟨ns, hns⟩ : ∃ ns, (texts (ss.take k)).map num0 = ns := ⟨_, rfl⟩
  rw [hns] at hown
  obtain ⟨A3, c3, rfl⟩ := (SI.of_own hown).form
  have HOW := Lib.hid hown
  have HNS := Lib.hid hns
  clear hown hns
  by_cases hlt : k < N
  ·have hkx : k < ss.length := by rw [HN.out]; exact hlt
   have hsl := (HO.out)
   rw [HN.out] at hsl
   obtain ⟨ad, rfl, hadb, z0⟩ := hsl.at_ hkx
   have htk : (texts (ss.take (k + 1))).map num0 = (texts (ss.take k)).map num0 ++ [num0 ss[k].data.toList] := by
    rw [List.take_succ_eq_append_getElem hkx, texts_snoc, List.map_append]
    rfl
   have hxs := HSZ.out ss[k] (List.getElem_mem hkx)
   obtain ⟨x, hx⟩ : ∃ x, ss[k] = x := ⟨_, rfl⟩
   rw [hx] at z0 htk hxs
   have cx := (hbo.cell (p := ad.add k) (by cases k <;> exact hadb)).trans z0
   have cn := number_any x wo (by omega) (hg.below hbw)
   obtain ⟨n, hn⟩ : ∃ n, num0 x.data.toList = n := ⟨_, rfl⟩
   rw [hn] at htk cn
   rw [HNS.out] at htk
   have HTK := Lib.hid htk
   have hlen : ns.length <= 1048576 := by rw [<- HNS.out]; simp [texts]; omega
   have HLE := Lib.hid hlen
   have k0 : (0 <= (k : Int)) = True := eq_true (by omega)
   have k1 : ((k : Int) < (N : Int)) = True := eq_true (by omega)
   clear hsl hx hkx z0 htk hn hlen hxs
   go_wp2_with fail
   refine cn.mono ?_
   rintro e w2 ⟨rfl, b2⟩
   have O2 := Lib.hid (Ds.ownI_keep HOW.out b2)
   have hb2 := hbo.trans (b2.mono hzo)
   have hb2w := hbw.trans (b2.mono hbw.size)
   have hz2 := hb2w.size
   clear b2 cn cx
   go_wp2_with (at_builtin; refine wpList_append_ints rfl _ _ rfl w1.heap.size _ ns rfl (Ds.ownI_keep O2.out ((Below.refl _ _).alloc (Nat.le_refl _) _)) (by have := hb2.size; simp; omega) _ [n] rfl (argI_one w2 n) (by have := HLE.out; simp only [List.length_cons, List.length_nil]; omega) ?_)
   intro v' w3 O3 hb3 _
   have HO3 := Lib.hid O3
   have hbn : Below w1.heap.size w1 w3 := (hb2.alloc hb2.size _).trans hb3
   clear O3 hb3
   go_wp2_with fail
   go_roundw
   case rel => exact ⟨k + 1, by omega, by go_num, by rw [HTK.out]; exact HO3.out, hbn⟩
   case measure => simp [intOf]; omega
  ·obtain rfl : k = N := by omega
   have hns := HNS.out
   rw [List.take_of_length_le (by have := HN.out; omega)] at hns
   subst hns
   have HOW2 := Lib.hid (ownI_base HOW.out hz1)
   go_wp2_with fail
   go_ret
   exact ⟨_, rfl, HOW2.out, hbw⟩
end Go.Proofs.YthcmnkmfhgoddaaGreatDoor.Dp

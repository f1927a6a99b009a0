/-
  eatenText and pairsText, the program's: the texts of numbers and of pairs. Conditions: at most 2,000 of each; numbers such as a program can hold; texts of at most 2^20 bytes.
  Put, the program's: a plot's text. Conditions: numbers such as a program can hold, texts of at most 2^20 bytes, at most 2,000 pairs and numbers, 1,000 sessions.
-/
import Derived.Test.YtoomkdofoceiaaaGreatDoorDpHHA
import Derived.Test.YtoomkdofoceiaaaGreatDoorDpIPA
import Derived.OwnWalk
import Derived.Test.YtoomkdofoceiaaaGreatDoorOdPCA
import Derived.Test.YtoomkdofoceiaaaGreatDoorDsPNA
import Derived.Test.YtoomkdofoceiaaaGreatDoorRegA
namespace Go.Proofs.YtoomkdofoceiaaaGreatDoor.Dp
open Go.RowKit Bnd
open Go.Proofs.YtoomkdofoceiaaaGreatDoor.M (tieT numT inR)
open Go.Proofs.YtoomkdofoceiaaaGreatDoor.Od (Pr SP pairsS pairsS_take pairsS_length pairsT texts_pairs)
open Go.Proofs.YtoomkdofoceiaaaGreatDoor.Ss (PL)
open Ds (nb nb_size run_append2)
set_option maxHeartbeats 4000000 in
set_option maxRecDepth 100000 in
theorem eatenText_any (v : Value) (ns : List Int) (w : World) (hv : SI w w.heap.size v ns) (hin : ∀ n ∈ ns, inR n) (hl : ns.length ≤ 2000) :
    Calls Tryz.prog 55 #[v] w fun e w' => e = .returned (str (eatT ns)) ∧ Below w.heap.size w w' := by
  obtain ⟨i0, hi, hz0, hz1, hz2⟩ := info_parts infoStr
  obtain ⟨A, c, rfl⟩ := hv.form
  have hfew := few_nums hin hl
  have HT := Lib.hid (texts_nums ns)
  have HV := Lib.hid hv
  have HIN := Lib.hid hin
  have c1 : ∀ n w, inR n → Calls Tryz.prog 56 #[.int .i64 n] w fun e w' => e = .returned (.string (nb n)) ∧ Below w.heap.size w w' := fun n w h => num_any n w h
  obtain ⟨N, hN⟩ : ∃ N, ns.length = N := ⟨_, rfl⟩
  have HN := Lib.hid hN
  rw [hN] at hl ⊢
  clear hN hv hin
  go_enter Tryz.func55, Tryz.ntmps55
  go_wp2_with (at_make; refine wpList_make_own _ rfl _ _ 72 rfl w.heap.size 9 i0 (.string ⟨#[]⟩) 1 Tryz.underlying72 hi hz0 hz1 .i64 .i64 _ N rfl rfl rfl (by rw [hz2]; omega) (by unfold maxLen; omega) (Nat.le_refl _) ?_)
  intro w0 hown0 hgrow0
  have hb0 : Below w.heap.size w w0 := (Below.refl _ w).grown hgrow0 (Nat.le_refl _) (fun k hk => by cases hk)
  clear hgrow0
  go_wp2_with fail
  go_loopw [3, 5, 11] (fun v3 _ vi wr => ∃ k : Nat, k ≤ N ∧ vi = .int .i64 (k : Int) ∧ wr.ownsRow w.heap.size 9 1 v3 ((ns.take k).map nb).length (((ns.take k).map nb).map Value.string) ∧ Below w.heap.size w wr) (fun _ _ vi _ => N - (intOf vi).toNat)
  case atStart => exact ⟨0, Nat.zero_le _, rfl, hown0, hb0⟩
  case round =>
    obtain ⟨k, hk, rfl, hown, hbw⟩ := hrel
    have hz := hbw.size
    obtain ⟨xs, hxs⟩ : ∃ xs, (ns.take k).map nb = xs := ⟨_, rfl⟩
    rw [hxs] at hown
    obtain ⟨A3, c3, rfl⟩ := own_form hown
    have HO := Lib.hid hown
    have HXS := Lib.hid hxs
    clear hown hxs hown0
    by_cases hlt : k < N
    · have hkx : k < ns.length := by rw [HN.out]; exact hlt
      have hv1 := HV.out.below hbw
      rw [HN.out] at hv1
      obtain ⟨b, o, rfl, hb, q⟩ := hv1.at_ hkx
      have htk : (ns.take (k + 1)).map nb = xs ++ [nb ns[k]] := by
        rw [List.take_succ_eq_append_getElem hkx, List.map_append, HXS.out]; rfl
      have hi1 := HIN.out _ (List.getElem_mem hkx)
      have hxl : xs.length ≤ 2000 := by rw [← HXS.out]; simp; omega
      obtain ⟨x, hx⟩ : ∃ x, ns[k] = x := ⟨_, rfl⟩
      rw [hx] at q htk hi1
      have HTK := Lib.hid htk
      have cn := c1 x wr hi1
      obtain ⟨X, hX⟩ : ∃ X, nb x = X := ⟨_, rfl⟩
      rw [hX] at cn htk
      have HX := Lib.hid hX
      have HXL := Lib.hid hxl
      have k0 : (0 ≤ (k : Int)) = True := eq_true (by omega)
      have k1 : ((k : Int) < (N : Int)) = True := eq_true (by omega)
      clear hv1 hx hkx htk hX hxl hi1
      go_wp2_with fail
      refine cn.mono ?_
      rintro e w1 ⟨rfl, b1⟩
      have hb1 := hbw.trans (b1.mono hz)
      have HO1 := Lib.hid (own_below HO.out b1)
      have hz1' := hb1.size
      clear cn b1
      go_wp2_with (at_builtin; refine wpList_append_own _ rfl _ _ 72 rfl w.heap.size 9 i0 (.string ⟨#[]⟩) 1 16 Tryz.underlying72 hi hz0 hz1 hz2 rfl (by decide) _ _ _ rfl (HO1.out.alloc _) ⟨w1.heap.size, 0, none⟩ 1 1 [.string X] rfl rfl ?c1 ?c2 ?c3 ?c4 ?c5 ?_)
      case c1 =>
        intro j u hj
        match j, hj with
        | 0, hj => simp at hj; subst hj; simp [Addr.add]
      case c2 => intro u hu; simp at hu; subst hu; rfl
      case c3 => have := HXL.out; unfold maxLen; omega
      case c4 => have := HXL.out; omega
      case c5 => simp; omega
      intro v' w3 O3 hgrow _
      have B3 : Below w.heap.size w w3 := (hb1.alloc hz1' _).grown hgrow (by simp; omega) (fun k hk => (HO1.out.lt k hk).1)
      have O4 : Hid (w3.ownsRow w.heap.size 9 1 v' (xs ++ [X]).length ((xs ++ [X]).map Value.string)) := Lib.hid (by simpa using O3)
      clear O3 hgrow
      go_wp2_with fail
      go_roundw
      case rel => exact ⟨k + 1, by omega, by go_num, by rw [HTK.out, HX.out]; exact O4.out, B3⟩
      case measure => simp [intOf]; omega
    · obtain rfl : k = N := by omega
      have hxs := HXS.out
      rw [List.take_of_length_le (by have := HN.out; omega)] at hxs
      subst hxs
      have ct := tie_any _ (ns.map nb) wr (SL.of_own HO.out) hfew
      rw [HT.out] at ct
      obtain ⟨ts, hts⟩ : ∃ ts, ns.map nb = ts := ⟨_, rfl⟩
      rw [hts] at ct ⊢
      clear hts hfew
      go_wp2_with fail
      refine ct.mono ?_
      rintro e w1 ⟨rfl, b1⟩
      go_wp2_with fail
      go_ret
      exact ⟨rfl, hbw.trans (b1.mono hz)⟩
set_option maxHeartbeats 4000000 in
set_option maxRecDepth 100000 in
theorem pairsText_any (v : Value) (ps : List Pr) (w : World) (hv : SP w w.heap.size v ps) (hz : ∀ p ∈ ps, p.1.size ≤ 1048576 ∧ p.2.size ≤ 1048576) (hl : ps.length ≤ 2000) :
    Calls Tryz.prog 53 #[v] w fun e w' => e = .returned (str (tieT (pairsT ps))) ∧ Below w.heap.size w w' := by
  obtain ⟨i0, hi, hz0, hz1, hz2⟩ := info_parts infoStr
  obtain ⟨A, c, rfl⟩ := hv.form
  have hfew := few_pairs hz hl
  have HT := Lib.hid (texts_pairs ps)
  have HV := Lib.hid hv
  obtain ⟨N, hN⟩ : ∃ N, ps.length = N := ⟨_, rfl⟩
  have HN := Lib.hid hN
  rw [hN] at hl ⊢
  obtain ⟨M, hM⟩ : ∃ M, N * 2 = M := ⟨_, rfl⟩
  have hM1 : (N : Int) * 2 = (M : Int) := by omega
  have hM2 : IntKind.i64.wrap ((N : Int) * 2) = (M : Int) := by rw [IntKind.wrap_i64] <;> omega
  have hM3 : M ≤ 4000 := by omega
  clear hN hv hz hM
  go_enter Tryz.func53, Tryz.ntmps53
  go_wp2_with (at_make; refine wpList_make_own _ rfl _ _ 72 rfl w.heap.size 9 i0 (.string ⟨#[]⟩) 1 Tryz.underlying72 hi hz0 hz1 .i64 .i64 _ M rfl rfl rfl (by rw [hz2]; omega) (by unfold maxLen; omega) (Nat.le_refl _) ?_)
  intro w0 hown0 hgrow0
  have hb0 : Below w.heap.size w w0 := (Below.refl _ w).grown hgrow0 (Nat.le_refl _) (fun k hk => by cases hk)
  clear hgrow0 hM1 hM2
  go_wp2_with fail
  go_loopw [3, 5, 12] (fun v3 _ vi wr => ∃ k : Nat, k ≤ N ∧ vi = .int .i64 (k : Int) ∧ wr.ownsRow w.heap.size 9 1 v3 (pairsS (ps.take k)).length ((pairsS (ps.take k)).map Value.string) ∧ Below w.heap.size w wr) (fun _ _ vi _ => N - (intOf vi).toNat)
  case atStart => exact ⟨0, Nat.zero_le _, rfl, hown0, hb0⟩
  case round =>
    obtain ⟨k, hk, rfl, hown, hbw⟩ := hrel
    have hz := hbw.size
    obtain ⟨xs, hxs⟩ : ∃ xs, pairsS (ps.take k) = xs := ⟨_, rfl⟩
    rw [hxs] at hown
    obtain ⟨A3, c3, rfl⟩ := own_form hown
    have HO := Lib.hid hown
    have HXS := Lib.hid hxs
    clear hown hxs hown0
    by_cases hlt : k < N
    · have hkx : k < ps.length := by rw [HN.out]; exact hlt
      have hv1 := HV.out.below hbw
      rw [HN.out] at hv1
      obtain ⟨b, o, rfl, hb, q0, q1⟩ := hv1.at_ hkx
      have htk := pairsS_take hkx
      rw [HXS.out] at htk
      have hxl : xs.length ≤ 10000 := by rw [← HXS.out, pairsS_length]; simp; omega
      obtain ⟨⟨x, y⟩, hx⟩ : ∃ x, ps[k] = x := ⟨_, rfl⟩
      rw [hx] at q0 q1 htk
      simp only at q0 q1 htk
      have HTK := Lib.hid htk
      have k0 : (0 ≤ (k : Int)) = True := eq_true (by omega)
      have k1 : ((k : Int) < (N : Int)) = True := eq_true (by omega)
      have hk1 : (k : Int) < (N : Int) := by omega
      have hbz : b < wr.heap.size := by omega
      obtain ⟨W2, hW2⟩ : ∃ W2, wr.alloc (.cells #[.string x, .string y] 66) = W2 := ⟨_, rfl⟩
      have hb2 : Below wr.heap.size wr W2 := by rw [← hW2]; exact (Below.refl _ wr).alloc (Nat.le_refl _) _
      have hzl : W2.heap.size = wr.heap.size + 1 := by rw [← hW2]; simp
      have hc2 : W2.cell? ⟨wr.heap.size, 0, none⟩ = some (.string x) ∧ W2.cell? ⟨wr.heap.size, 1, none⟩ = some (.string y) := by rw [← hW2]; simp [go_sem]
      have HO2 := Lib.hid (own_below HO.out hb2)
      have H2 := Lib.hid hW2
      have hle2 : w.heap.size ≤ W2.heap.size := by omega
      obtain ⟨d0, d1⟩ := hc2
      have HXL := Lib.hid hxl
      clear hv1 hx hkx htk hW2 hxl
      go_wp2_with (at_builtin; rw [H2.out]; refine wpList_append_own _ rfl _ _ 72 rfl w.heap.size 9 i0 (.string ⟨#[]⟩) 1 16 Tryz.underlying72 hi hz0 hz1 hz2 rfl (by decide) _ _ _ rfl (HO2.out.alloc _) ⟨wr.heap.size + 1, 0, none⟩ 2 2 [.string x, .string y] rfl rfl ?c1 ?c2 ?c3 ?c4 ?c5 ?_)
      case c1 =>
        intro j u hj
        match j, hj with
        | 0, hj => simp at hj; subst hj; rw [← hzl]; simp [Addr.add]
        | 1, hj => simp at hj; subst hj; rw [← hzl]; simp [Addr.add]
      case c2 => intro u hu; simp at hu; rcases hu with rfl | rfl <;> rfl
      case c3 => have := HXL.out; unfold maxLen; omega
      case c4 => have := HXL.out; omega
      case c5 => simp; omega
      intro v' w3 O3 hgrow _
      have B3 : Below w.heap.size w w3 := ((hbw.trans (hb2.mono hz)).alloc hle2 _).grown hgrow (by simp; omega) (fun k hk => (HO2.out.lt k hk).1)
      have O4 : Hid (w3.ownsRow w.heap.size 9 1 v' (xs.length + 2) ((xs ++ [x, y]).map Value.string)) := Lib.hid (by simpa using O3)
      clear O3 hgrow
      have hr8 : ∃ A8 c8, v' = .slice A8 (xs.length + 2) c8 := by
        obtain ⟨A8, c8, e⟩ := own_form (ss := xs ++ [x, y]) (by simpa using O4.out)
        exact ⟨A8, c8, by simpa using e⟩
      obtain ⟨A8, c8, rfl⟩ := hr8
      go_wp2_with fail
      go_roundw
      case rel =>
        refine ⟨k + 1, by omega, by go_num, ?_, B3⟩
        rw [HTK.out]
        simpa using O4.out
      case measure => simp [intOf]; omega
    · obtain rfl : k = N := by omega
      have hxs := HXS.out
      rw [List.take_of_length_le (by have := HN.out; omega)] at hxs
      subst hxs
      have ct := tie_any _ (pairsS ps) wr (SL.of_own HO.out) hfew
      rw [HT.out] at ct
      obtain ⟨ts, hts⟩ : ∃ ts, pairsS ps = ts := ⟨_, rfl⟩
      rw [hts] at ct ⊢
      clear hts hfew
      go_wp2_with fail
      refine ct.mono ?_
      rintro e w1 ⟨rfl, b1⟩
      go_wp2_with fail
      go_ret
      exact ⟨rfl, hbw.trans (b1.mono hz)⟩
end Go.Proofs.YtoomkdofoceiaaaGreatDoor.Dp
namespace Go.Proofs.YtoomkdofoceiaaaGreatDoor.Dp
open Go.RowKit Bnd
open Go.Proofs.YtoomkdofoceiaaaGreatDoor.M (tieT numT inR)
open Go.Proofs.YtoomkdofoceiaaaGreatDoor.Ds (De putT)
open Go.Proofs.YtoomkdofoceiaaaGreatDoor.Ss (Ses Zs ses putS)
open Go.Proofs.YtoomkdofoceiaaaGreatDoor.Od (Pr pairsT tb tb_size)
open Ds (nb nb_size own_new)
def strP (o : Ph) : List ByteArray := [⟨(putT o.d).toArray⟩, ⟨(tieT (pairsT o.ps)).toArray⟩, ⟨(putS (ses o.zs)).toArray⟩, tb o.fr, ⟨(eatT o.ea).toArray⟩, nb o.al]
theorem texts_strP (o : Ph) : texts (strP o) = strandsP o.pl := by simp [strP, strandsP, texts, Ph.pl]
theorem few_strP {o : Ph} (h : FitT o) : Few (strP o) := by
  refine ⟨by simp [strP], fun s hs => ?_⟩
  have a1 := h.ld
  have a2 := h.lp
  have a3 := h.ls
  have a4 := h.le
  have a5 := nb_size h.al
  have a6 := tb_size o.fr
  simp only [strP, List.mem_cons, List.not_mem_nil, or_false] at hs
  rcases hs with rfl | rfl | rfl | rfl | rfl | rfl
  · simpa [ByteArray.size] using a1
  · simpa [ByteArray.size] using a2
  · simpa [ByteArray.size] using a3
  · omega
  · simpa [ByteArray.size] using a4
  · omega
theorem BoxP.kept {N n : Nat} {o : Ph} {w1 w2 : World} (h : BoxP n o w1) (hn : n < N) (hb : Below N w1 w2) : BoxP n o w2 := by
  obtain ⟨h0, ⟨h1, h2, h3, h4, h5, h6, h7, h8, h9, h10, h11⟩, hf⟩ := h
  have hc : ∀ o, w2.cell? ⟨n, o, none⟩ = w1.cell? ⟨n, o, none⟩ := fun o => hb.cell (p := ⟨n, o, none⟩) hn
  refine ⟨Nat.lt_of_lt_of_le h0 hb.size, ⟨?_, ?_, ?_, ?_, ?_, ?_, ?_, ?_, ?_, ?_, ?_⟩, fun o => (hb.frozen (p := ⟨n, o, none⟩) hn).trans (hf o)⟩
  all_goals rw [hc]; assumption
set_option maxHeartbeats 16000000 in
set_option maxRecDepth 100000 in
theorem put_any (o : Ph) (w : World) (h : HP w w.heap.size o) (f : FitT o) : Calls Tryz.prog 16 #[qv o] w fun e w' => e = .returned (str (putP o.pl)) ∧ Below w.heap.size w w' := by
  have hfew := few_strP f
  have HT := Lib.hid (texts_strP o)
  obtain ⟨W1, hW1⟩ : ∃ W1, w.alloc (.cells #[.int .i64 o.d.id, .string o.d.f, .string o.d.t, .int .i64 o.d.gen, o.sm, .int .i64 o.d.next, o.sp, o.sz, .bool o.fr, o.se, .int .i64 o.al] 31) = W1 := ⟨_, rfl⟩
  have B0 : BoxP w.heap.size o W1 := hW1 ▸ BoxP.new w o
  have hz1 : W1.heap.size = w.heap.size + 1 := by rw [← hW1]; simp
  have hbw1 : Below w.heap.size w W1 := by rw [← hW1]; exact (Below.refl _ w).alloc (Nat.le_refl _) _
  have hP : ∀ wx, Below W1.heap.size W1 wx → HP wx wx.heap.size o := fun wx hx => (h.below (hbw1.trans (hx.mono (by omega)))).more (by have := hx.size; omega)
  have up : ∀ {wx w' : World}, Below W1.heap.size W1 wx → Below wx.heap.size wx w' → Below W1.heap.size W1 w' := fun hx b => hx.trans (b.mono hx.size)
  have call1 : ∀ wx, Below W1.heap.size W1 wx → Calls Tryz.prog 52 #[Ds.dv o.d o.sm] wx fun e w' => e = .returned (.string ⟨(putT o.d).toArray⟩) ∧ Below W1.heap.size W1 w' := by
    intro wx hx
    refine (Ds.put_any o.d o.sm wx (hP wx hx).sm f.d f.f f.t).mono ?_
    rintro e w' ⟨rfl, b⟩
    exact ⟨rfl, up hx b⟩
  have call2 : ∀ wx, Below W1.heap.size W1 wx → Calls Tryz.prog 53 #[o.sp] wx fun e w' => e = .returned (.string ⟨(tieT (pairsT o.ps)).toArray⟩) ∧ Below W1.heap.size W1 w' := by
    intro wx hx
    refine (pairsText_any o.sp o.ps wx (hP wx hx).sp f.each f.ps).mono ?_
    rintro e w' ⟨rfl, b⟩
    exact ⟨rfl, up hx b⟩
  have call3 : ∀ wx, Below W1.heap.size W1 wx → Calls Tryz.prog 54 #[o.sz] wx fun e w' => e = .returned (.string ⟨(putS (ses o.zs)).toArray⟩) ∧ Below W1.heap.size W1 w' := by
    intro wx hx
    refine (Ss.put_any o.sz o.zs wx (hP wx hx).sz (hP wx hx).pz f.fit f.zs).mono ?_
    rintro e w' ⟨rfl, b⟩
    exact ⟨rfl, up hx b⟩
  have call4 : ∀ wx, Below W1.heap.size W1 wx → Calls Tryz.prog 55 #[o.se] wx fun e w' => e = .returned (.string ⟨(eatT o.ea).toArray⟩) ∧ Below W1.heap.size W1 w' := by
    intro wx hx
    refine (eatenText_any o.se o.ea wx (hP wx hx).se f.ein f.ea).mono ?_
    rintro e w' ⟨rfl, b⟩
    exact ⟨rfl, up hx b⟩
  have call5 : ∀ wx, Below W1.heap.size W1 wx → Calls Tryz.prog 56 #[.int .i64 o.al] wx fun e w' => e = .returned (.string (nb o.al)) ∧ Below W1.heap.size W1 w' := by
    intro wx hx
    refine (num_any o.al wx f.al).mono ?_
    rintro e w' ⟨rfl, b⟩
    exact ⟨rfl, up hx b⟩
  have hbox : ∀ wx, Below W1.heap.size W1 wx → BoxP w.heap.size o wx := fun wx hx => BoxP.kept (N := W1.heap.size) B0 (by omega) hx
  obtain ⟨sA, sB, hs⟩ : ∃ sA sB, strP o = sA ++ [tb o.fr] ++ sB := ⟨[_, _, _], [_, _], rfl⟩
  clear hs sA sB
  obtain ⟨d, sm, ps, sp, zs, sz, fr, ea, se, al⟩ := o
  cases fr
  all_goals
    simp only at *
    obtain ⟨_, ⟨p0, p1, p2, p3, p4, p5, p6, p7, p8, p9, p10⟩, _⟩ := id B0
    go_enter Tryz.func16, Tryz.ntmps16
    go_wp2_with (rw [hW1])
    clear p0 p1 p2 p3 p4 p5 p6 p7 p8 p9 p10
    refine St.wp_region_tail 16 (fun _ wx => Below W1.heap.size W1 wx) (by kernel_rfl) (by kernel_rfl) (by kernel_rfl) (by kernel_rfl) (by decide) (Below.refl _ _).drew ?_
    simp only [List.take, List.drop]
    repeat (first
      | (apply St.step_give
         · rfl
         · intro L wx hS hcl hrd
           obtain ⟨_, ⟨d0, d1, d2, d3, d4, d5, d6, d7, d8, d9, d10⟩, _⟩ := hbox wx hS
           go_simp
           try with_reducible rfl
         · exact fun L wx hS => hS
         simp only [Act.put, List.setIfInBounds_toArray, List.set_cons_zero, List.set_cons_succ])
      | (apply St.step_into
         · rfl
         · intro wx
           go_simp
           exact ⟨rfl, rfl⟩
         · first
           | exact fun L wx hS hcl hrd => call1 wx hS
           | exact fun L wx hS hcl hrd => call2 wx hS
           | exact fun L wx hS hcl hrd => call3 wx hS
           | exact fun L wx hS hcl hrd => call4 wx hS
           | exact fun L wx hS hcl hrd => call5 wx hS
         simp only [Act.put, List.setIfInBounds_toArray, List.set_cons_zero, List.set_cons_succ]))
    refine St.step_last ?_
    intro L wx hS _
    clear call1 call2 call3 call4 call5
    have hz : W1.heap.size ≤ wx.heap.size := hS.size
  · have hown0 := own_new wx W1.heap.size (strP ⟨d, sm, ps, sp, zs, sz, false, ea, se, al⟩) hz (by simp [strP])
    have hsl := SL.of_own hown0
    have ct := tie_any _ (strP ⟨d, sm, ps, sp, zs, sz, false, ea, se, al⟩) _ hsl hfew
    rw [HT.out] at ct
    have hS1 := hS.alloc hz (.cells #[.string ⟨(putT d).toArray⟩, .string ⟨(tieT (pairsT ps)).toArray⟩, .string ⟨(putS (ses zs)).toArray⟩, .string ⟨#[48]⟩, .string ⟨(eatT ea).toArray⟩, .string (nb al)] 9)
    have ct2 : Calls Tryz.prog 51 #[.slice (some ⟨wx.heap.size, 0, none⟩) 6 6] (wx.alloc (.cells #[.string ⟨(putT d).toArray⟩, .string ⟨(tieT (pairsT ps)).toArray⟩, .string ⟨(putS (ses zs)).toArray⟩, .string ⟨#[48]⟩, .string ⟨(eatT ea).toArray⟩, .string (nb al)] 9)) fun e w' => e = .returned (str (putP (Ph.pl ⟨d, sm, ps, sp, zs, sz, false, ea, se, al⟩))) ∧ Below W1.heap.size W1 w' := by
      refine ct.mono ?_
      rintro e w' ⟨rfl, b⟩
      exact ⟨rfl, hS1.trans (b.mono hS1.size)⟩
    clear hown0 hW1 hsl ct hS1 hS hfew hbox
    go_wp2_with fail
    refine ct2.mono ?_
    rintro e w2 ⟨rfl, b2⟩
    go_wp2_with fail
    go_ret
    exact ⟨rfl, hbw1.trans (b2.mono (by omega))⟩
  · have hown0 := own_new wx W1.heap.size (strP ⟨d, sm, ps, sp, zs, sz, true, ea, se, al⟩) hz (by simp [strP])
    have hsl := SL.of_own hown0
    have ct := tie_any _ (strP ⟨d, sm, ps, sp, zs, sz, true, ea, se, al⟩) _ hsl hfew
    rw [HT.out] at ct
    have hS1 := hS.alloc hz (.cells #[.string ⟨(putT d).toArray⟩, .string ⟨(tieT (pairsT ps)).toArray⟩, .string ⟨(putS (ses zs)).toArray⟩, .string ⟨#[49]⟩, .string ⟨(eatT ea).toArray⟩, .string (nb al)] 9)
    have ct2 : Calls Tryz.prog 51 #[.slice (some ⟨wx.heap.size, 0, none⟩) 6 6] (wx.alloc (.cells #[.string ⟨(putT d).toArray⟩, .string ⟨(tieT (pairsT ps)).toArray⟩, .string ⟨(putS (ses zs)).toArray⟩, .string ⟨#[49]⟩, .string ⟨(eatT ea).toArray⟩, .string (nb al)] 9)) fun e w' => e = .returned (str (putP (Ph.pl ⟨d, sm, ps, sp, zs, sz, true, ea, se, al⟩))) ∧ Below W1.heap.size W1 w' := by
      refine ct.mono ?_
      rintro e w' ⟨rfl, b⟩
      exact ⟨rfl, hS1.trans (b.mono hS1.size)⟩
    clear hown0 hW1 hsl ct hS1 hS hfew hbox
    go_wp2_with fail
    refine ct2.mono ?_
    rintro e w2 ⟨rfl, b2⟩
    go_wp2_with fail
    go_ret
    exact ⟨rfl, hbw1.trans (b2.mono (by omega))⟩
end Go.Proofs.YtoomkdofoceiaaaGreatDoor.Dp

/-
  Put, the document's: the text of sessions. Conditions: numbers such as a program can hold; replies whose texts are at most 2^20 bytes; at most 1,000 sessions.
  Parse, the document's: sessions out of a text. Condition: lengths at most 2^47.
  SessionChecks, walked. Conditions: lengths at most 2^47; numbers such as a program can hold; the library's variables hold what their types allow.
-/
import Derived.Test.YticikmkehobblaaGreatDoorSsPSA
import Derived.Test.YticikmkehobblaaGreatDoorOdTwA
import Derived.Test.YticikmkehobblaaGreatDoorSsCPA
import Derived.Test.YticikmkehobblaaGreatDoorSsRBool
import Derived.Test.YticikmkehobblaaGreatDoorOdRParseR
import Derived.Test.YticikmkehobblaaGreatDoorSsLvA
import Derived.Test.YticikmkehobblaaGreatDoorSsLift
namespace Go.Proofs.YticikmkehobblaaGreatDoor.Ss
open Go.RowKit Bnd
open Go.Proofs.YticikmkehobblaaGreatDoor.M (tieT numT inR)
open Go.Proofs.YticikmkehobblaaGreatDoor.Od (Rep SP ArgP OwnP rv BoxR FitR putR rputR_any)
open Ds (nb nb_size own_new run_append2)

set_option maxHeartbeats 8000000 in
set_option maxRecDepth 100000 in
theorem rput_any (v : Value) (zs : List Zs) (w : World) (hv : SZ w w.heap.size v zs) (hp : PZ w w.heap.size zs) (hf : ∀ s ∈ ses zs, PutZ s) (hl : zs.length ≤ 1000) :
    Calls Tryz.prog 19 #[v] w fun e w' => e = .returned (str (putS (ses zs))) ∧ Below w.heap.size w w' := by
  obtain ⟨A, c, rfl⟩ := hv.form
  have hfew := few_strB hf (by simpa using hl)
  have HT := Lib.hid (texts_strB (ses zs))
  obtain ⟨n, hn⟩ : ∃ n, zs.length = n := ⟨_, rfl⟩
  have HN := Lib.hid hn
  have HV := Lib.hid hv
  have c1 : ∀ n w, inR n → Calls Tryz.prog 60 #[.int .i64 n] w fun e w' => e = .returned (.string (nb n)) ∧ Below w.heap.size w w' := fun n w h => ((rnum_any n w h).mono fun e w2 h => ⟨h.1, h.2 ▸ Below.refl _ _⟩)
  rw [hn] at hl ⊢
  clear hn hv
  go_enter Tryz.func19, Tryz.ntmps19
  go_wp2_with fail
  go_loopw [3, 4] (fun v3 vi wr => ∃ k, k ≤ n ∧ vi = .int .i64 (k : Int) ∧ wr.ownsRow w.heap.size 9 1 v3 (strB (ses (zs.take k))).length ((strB (ses (zs.take k))).map Value.string) ∧ Below w.heap.size w wr) (fun _ vi _ => n - (intOf vi).toNat)
  case atStart => exact ⟨0, Nat.zero_le _, rfl, World.ownsRow_nil _ _ _ _, Below.refl _ _⟩
  case round =>
    obtain ⟨k, hk, rfl, hown, hbw⟩ := hrel
    have hz := hbw.size
    by_cases hlt : k < n
    rotate_left
    · obtain rfl : k = n := by omega
      rw [List.take_of_length_le (by have := HN.out; omega)] at hown
      obtain ⟨ts, hts⟩ : ∃ ts, strB (ses zs) = ts := ⟨_, rfl⟩
      rw [hts] at hown hfew HT
      obtain ⟨A3, c3, rfl⟩ := own_form hown
      have ct := (rtie_any _ ts wr (SL.of_own hown) hfew).mono (R' := fun e w2 => e = .returned (str (M.tieT (texts ts))) ∧ Below wr.heap.size wr w2) fun e w2 h => ⟨h.1, h.2 ▸ Below.refl _ _⟩
      rw [HT.out] at ct
      clear hown hts hfew
      go_wp2_with fail
      refine ct.mono ?_
      rintro e w1 ⟨rfl, b1⟩
      go_wp2_with fail
      go_ret
      exact ⟨rfl, hbw.trans (b1.mono hz)⟩
    · have hkx : k < zs.length := by rw [HN.out]; exact hlt
      have hv1 := HV.out.below hbw
      rw [HN.out] at hv1
      obtain ⟨b, o, rfl, hb, q0, q1, q2, q3, q4, q5, q6⟩ := hv1.at_ hkx
      have hpi := (hp _ (List.getElem_mem hkx)).below hbw
      have hfi := hf zs[k].1 (List.mem_map.2 ⟨_, List.getElem_mem hkx, rfl⟩)
      have htk := congrArg strB (ses_take hkx)
      rw [strB_snoc] at htk
      obtain ⟨⟨⟨cl, sq, r⟩, pv⟩, hzk⟩ : ∃ z, zs[k] = z := ⟨_, rfl⟩
      rw [hzk] at q0 q1 q2 q3 q4 q5 q6 hpi hfi htk
      simp only at q0 q1 q2 q3 q4 q5 q6 hpi htk
      obtain ⟨pA, pc, rfl⟩ := hpi.form
      obtain ⟨f1, f2, f3, f4⟩ := hfi
      simp only at f1 f2 f3
      have hbz : b < wr.heap.size := by omega
      have cr := fun wx (hx : Below wr.heap.size wr wx) => rputR_any r (.slice pA r.ps.length pc) wx (((hpi.below (hx.mono hz)).more (Nat.le_trans hz hx.size))) f3
      obtain ⟨P, hP⟩ : ∃ P, r.ps.length = P := ⟨_, rfl⟩
      obtain ⟨xs, hxs⟩ : ∃ xs, strB (ses (zs.take k)) = xs := ⟨_, rfl⟩
      have hxl : xs.length ≤ 10000 := by rw [← hxs, strB_length]; simp; omega
      rw [hxs] at hown htk
      have HTK := Lib.hid htk
      obtain ⟨A3, c3, rfl⟩ := own_form hown
      have HO := Lib.hid hown
      have k0 : (0 ≤ (k : Int)) = True := eq_true (by omega)
      have k1 : ((k : Int) < (n : Int)) = True := eq_true (by omega)
      have hk1 : (k : Int) < (n : Int) := by omega
      have call2 : ∀ wx, Below wr.heap.size wr wx → Calls Tryz.prog 61 #[rv r (.slice pA P pc)] wx fun e w' => e = .returned (.string (rb r)) ∧ Below wx.heap.size wx w' := by
        intro wx hx
        have := cr wx hx
        rw [hP] at this
        refine this.mono ?_
        rintro e w' ⟨rfl, b⟩
        exact ⟨rfl, b⟩
      rw [hP] at q6
      have hca : ∀ wx, Below wr.heap.size wr wx → Cs wx b (o + k * 7) (⟨cl, sq, r⟩, .slice pA P pc) := fun wx hx => Cs.keep (w := wr) ⟨q0, q1, q2, q3, q4, q5, q6⟩ (fun i => hx.cell (p := ⟨b, i, none⟩) hbz)
      clear htk hown hxs hpi hzk hv1 hkx cr hP f3 f4 q0 q1 q2 q3 q4 q5 q6
      go_wp2_with fail
      refine St.wp_region_mixed (PL 19 20 w.heap.size wr xs [nb cl, nb sq, rb r]) (fun i z => match i with | 6 => z = .string (nb cl) | 12 => z = .string (nb sq) | _ => z = .string (rb r)) (by kernel_rfl) (by kernel_rfl) (by kernel_rfl) (PL.start xs [nb cl, nb sq, rb r] hz) ?_
      apply St.mix_give
      · rfl
      · intro L u' wx hS hcl hrd hag
        go_simp
        try with_reducible rfl
      · exact fun L u' wx hS => ⟨hS.le, hS.b0, hS.b, hS.p7, hS.o8⟩
      simp only [Act.put, List.setIfInBounds_toArray, List.set_cons_zero, List.set_cons_succ]
      apply St.mix_give
      · rfl
      · intro L u' wx hS hcl hrd hag
        go_simp
        try with_reducible rfl
      · exact fun L u' wx hS => ⟨hS.le, hS.b0, hS.b, hS.p7, hS.o8⟩
      simp only [Act.put, List.setIfInBounds_toArray, List.set_cons_zero, List.set_cons_succ]
      apply St.mix_give
      · rfl
      · intro L u' wx hS hcl hrd hag
        go_simp
        try with_reducible rfl
      · exact fun L u' wx hS => ⟨hS.le, hS.b0, hS.b, hS.p7, hS.o8⟩
      simp only [Act.put, List.setIfInBounds_toArray, List.set_cons_zero, List.set_cons_succ]
      apply St.mix_give
      · rfl
      · intro L u' wx hS hcl hrd hag
        go_simp
        try with_reducible rfl
      · exact fun L u' wx hS => ⟨hS.le, hS.b0, hS.b, hS.p7, hS.o8⟩
      simp only [Act.put, List.setIfInBounds_toArray, List.set_cons_zero, List.set_cons_succ]
      apply St.mix_give
      · rfl
      · intro L u' wx hS hcl hrd hag
        go_simp
        try with_reducible rfl
      · exact fun L u' wx hS => ⟨hS.le, hS.b0, hS.b, hS.p7, hS.o8⟩
      simp only [Act.put, List.setIfInBounds_toArray, List.set_cons_zero, List.set_cons_succ]
      apply St.mix_give
      · rfl
      · intro L u' wx hS hcl hrd hag
        obtain ⟨d0, d1, d2, d3, d4, d5, d6⟩ := hca wx (hS.b0 (St.not_yet hcl hrd 60 20 (by kernel_rfl)))
        simp only at d0 d1 d2 d3 d4 d5 d6
        go_simp
        try with_reducible rfl
      · exact fun L u' wx hS => ⟨hS.le, hS.b0, hS.b, hS.p7, hS.o8⟩
      simp only [Act.put, List.setIfInBounds_toArray, List.set_cons_zero, List.set_cons_succ]
      refine St.mix_into (v := .string (nb cl)) (f := 60) (args := #[.int .i64 cl]) rfl rfl ?_ ?_ ?_
      · intro wx
        go_simp
        try with_reducible rfl
      · intro L u' wx hS hcl hrd hag
        have h11 := St.not_yet hcl hrd 60 20 (by kernel_rfl)
        refine (c1 cl wx f1).mono ?_
        rintro e w' ⟨rfl, hb'⟩
        exact ⟨rfl, hS.call h11 hb' (by decide) (by decide)⟩
      simp only [Act.put, List.setIfInBounds_toArray, List.set_cons_zero, List.set_cons_succ]
      apply St.mix_give
      · rfl
      · intro L u' wx hS hcl hrd hag
        go_simp
        try with_reducible rfl
      · exact fun L u' wx hS => ⟨hS.le, hS.b0, hS.b, hS.p7, hS.o8⟩
      simp only [Act.put, List.setIfInBounds_toArray, List.set_cons_zero, List.set_cons_succ]
      apply St.mix_give
      · rfl
      · intro L u' wx hS hcl hrd hag
        go_simp
        try with_reducible rfl
      · exact fun L u' wx hS => ⟨hS.le, hS.b0, hS.b, hS.p7, hS.o8⟩
      simp only [Act.put, List.setIfInBounds_toArray, List.set_cons_zero, List.set_cons_succ]
      apply St.mix_give
      · rfl
      · intro L u' wx hS hcl hrd hag
        go_simp
        try with_reducible rfl
      · exact fun L u' wx hS => ⟨hS.le, hS.b0, hS.b, hS.p7, hS.o8⟩
      simp only [Act.put, List.setIfInBounds_toArray, List.set_cons_zero, List.set_cons_succ]
      apply St.mix_give
      · rfl
      · intro L u' wx hS hcl hrd hag
        go_simp
        try with_reducible rfl
      · exact fun L u' wx hS => ⟨hS.le, hS.b0, hS.b, hS.p7, hS.o8⟩
      simp only [Act.put, List.setIfInBounds_toArray, List.set_cons_zero, List.set_cons_succ]
      apply St.mix_give
      · rfl
      · intro L u' wx hS hcl hrd hag
        obtain ⟨d0, d1, d2, d3, d4, d5, d6⟩ := hca wx (hS.b0 (St.not_yet hcl hrd 60 20 (by kernel_rfl)))
        simp only at d0 d1 d2 d3 d4 d5 d6
        go_simp
        try with_reducible rfl
      · exact fun L u' wx hS => ⟨hS.le, hS.b0, hS.b, hS.p7, hS.o8⟩
      simp only [Act.put, List.setIfInBounds_toArray, List.set_cons_zero, List.set_cons_succ]
      refine St.mix_into (v := .string (nb sq)) (f := 60) (args := #[.int .i64 sq]) rfl rfl ?_ ?_ ?_
      · intro wx
        go_simp
        try with_reducible rfl
      · intro L u' wx hS hcl hrd hag
        have h11 := St.not_yet hcl hrd 60 20 (by kernel_rfl)
        refine (c1 sq wx f2).mono ?_
        rintro e w' ⟨rfl, hb'⟩
        exact ⟨rfl, hS.call h11 hb' (by decide) (by decide)⟩
      simp only [Act.put, List.setIfInBounds_toArray, List.set_cons_zero, List.set_cons_succ]
      apply St.mix_give
      · rfl
      · intro L u' wx hS hcl hrd hag
        go_simp
        try with_reducible rfl
      · exact fun L u' wx hS => ⟨hS.le, hS.b0, hS.b, hS.p7, hS.o8⟩
      simp only [Act.put, List.setIfInBounds_toArray, List.set_cons_zero, List.set_cons_succ]
      apply St.mix_give
      · rfl
      · intro L u' wx hS hcl hrd hag
        go_simp
        try with_reducible rfl
      · exact fun L u' wx hS => ⟨hS.le, hS.b0, hS.b, hS.p7, hS.o8⟩
      simp only [Act.put, List.setIfInBounds_toArray, List.set_cons_zero, List.set_cons_succ]
      apply St.mix_give
      · rfl
      · intro L u' wx hS hcl hrd hag
        go_simp
        try with_reducible rfl
      · exact fun L u' wx hS => ⟨hS.le, hS.b0, hS.b, hS.p7, hS.o8⟩
      simp only [Act.put, List.setIfInBounds_toArray, List.set_cons_zero, List.set_cons_succ]
      apply St.mix_give
      · rfl
      · intro L u' wx hS hcl hrd hag
        go_simp
        try with_reducible rfl
      · exact fun L u' wx hS => ⟨hS.le, hS.b0, hS.b, hS.p7, hS.o8⟩
      simp only [Act.put, List.setIfInBounds_toArray, List.set_cons_zero, List.set_cons_succ]
      apply St.mix_give
      · rfl
      · intro L u' wx hS hcl hrd hag
        obtain ⟨d0, d1, d2, d3, d4, d5, d6⟩ := hca wx (hS.b0 (St.not_yet hcl hrd 60 20 (by kernel_rfl)))
        simp only at d0 d1 d2 d3 d4 d5 d6
        go_simp
        try with_reducible rfl
      · exact fun L u' wx hS => ⟨hS.le, hS.b0, hS.b, hS.p7, hS.o8⟩
      simp only [Act.put, List.setIfInBounds_toArray, List.set_cons_zero, List.set_cons_succ]
      refine St.mix_into (v := .string (rb r)) (f := 61) (args := #[rv r (.slice pA P pc)]) rfl rfl ?_ ?_ ?_
      · intro wx
        go_simp
        try with_reducible rfl
      · intro L u' wx hS hcl hrd hag
        have h11 := St.not_yet hcl hrd 60 20 (by kernel_rfl)
        refine (call2 wx (hS.b0 h11)).mono ?_
        rintro e w' ⟨rfl, hb'⟩
        exact ⟨rfl, hS.call h11 hb' (by decide) (by decide)⟩
      simp only [Act.put, List.setIfInBounds_toArray, List.set_cons_zero, List.set_cons_succ]
      refine St.mix_free (fun z => ∃ g, z = .slice (some ⟨g, 0, none⟩) 3 3) rfl ?_ ?_
      · intro L u' wx hS hcl hrd hag
        refine ⟨_, _, ⟨wx.heap.size, rfl⟩, ?_, hS.made (St.not_yet hcl hrd 60 20 (by kernel_rfl)) (by decide)⟩
        go_simp
        try with_reducible rfl
      rintro y10 ⟨g10, rfl⟩
      simp only [Act.put, List.setIfInBounds_toArray, List.set_cons_zero, List.set_cons_succ]
      refine St.mix_free (fun z => True) rfl ?_ ?_
      · intro L u' wx hS hcl hrd hag
        obtain ⟨v', w', k1, k2⟩ := hS.app (St.before_ready hcl hrd 60 19 (by kernel_rfl)) hrd.1 HO.out (by omega) (by simp) 85
        rw [show u' 19 = .slice (some ⟨g10, 0, none⟩) 3 3 from hag 60 19 (by kernel_rfl)] at k1
        exact ⟨v', w', trivial, run_append2 rfl rfl rfl k1, k2⟩
      rintro y11 -
      simp only [Act.put, List.setIfInBounds_toArray, List.set_cons_zero, List.set_cons_succ]
      apply St.mix_give
      · rfl
      · intro L u' wx hS hcl hrd hag
        go_simp
        try with_reducible rfl
      · exact fun L u' wx hS => ⟨hS.le, hS.b0, hS.b, hS.p7, hS.o8⟩
      simp only [Act.put, List.setIfInBounds_toArray, List.set_cons_zero, List.set_cons_succ]
      refine St.mix_last ?_
      intro L wx hS hall
      have o8 : wx.ownsRow w.heap.size 9 1 y11 (xs.length + 3) ((xs ++ [nb cl, nb sq, rb r]).map Value.string) := hS.o8 (hall 20 (by decide))
      have bx : Below w.heap.size w wx := hbw.trans hS.b
      have O8 := Lib.hid o8
      have hr8 : ∃ A8 c8, y11 = .slice A8 (xs.length + 3) c8 := by
        obtain ⟨A8, c8, e⟩ := own_form (ss := xs ++ [nb cl, nb sq, rb r]) (by simpa using o8)
        exact ⟨A8, c8, by simpa using e⟩
      obtain ⟨A8, c8, rfl⟩ := hr8
      clear hS hall o8
      go_wp2_with fail
      go_roundw
      case rel =>
        refine ⟨k + 1, by omega, by go_num, ?_, bx⟩
        rw [HTK.out]
        simpa using O8.out
      case measure => simp [intOf]; omega
end Go.Proofs.YticikmkehobblaaGreatDoor.Ss

namespace Go.Proofs.YticikmkehobblaaGreatDoor.Ss
open Go.RowKit Bnd
open Go.Proofs.YticikmkehobblaaGreatDoor.M (tieT untieT intT numT inR)
open Go.Proofs.YticikmkehobblaaGreatDoor.Od (Rep SP ArgP OwnP rv BoxR Pr num0 parseR isR rparseR_fresh num0_in intR_twoR own_base)

theorem tAt_get {ts : List ByteArray} {i : Nat} (h : i < ts.length) : ts[i] = tAt ts i := by
  unfold tAt
  rw [List.getD_eq_getElem?_getD, List.getElem?_eq_getElem h]
  rfl
theorem parseS_zero {s : List UInt8} {ts : List ByteArray} {m : Nat} (hu : untieT s = some (texts ts)) (hm : ts.length = m * 3) (h : ∃ j, j < m ∧ fitsB (sAt ts j) = false) : parseS s = ([], 80) := by
  by_cases ha : ∀ j, j < m → eAt ts j = 0
  · rw [parseS_all hu hm ha, if_neg]
    intro hi
    obtain ⟨j, hj, hf⟩ := h
    have := (rise_mem ((isS_iff _).1 hi).2 (sAt ts j) (List.mem_map.2 ⟨j, List.mem_range.2 hj, rfl⟩)).2
    rw [hf] at this
    cases this
  · exact parseS_bad hu hm (Classical.byContradiction fun hn => ha fun j hj => Classical.byContradiction fun he => hn ⟨j, hj, he⟩)

set_option maxRecDepth 100000 in
set_option maxHeartbeats 8000000 in
theorem rparse_any (s : ByteArray) (w : World) (hs : s.size ≤ 140737488355328) :
    Calls Tryz.prog 13 #[.string s] w fun e w' => NoteOut w (parseS s.data.toList) e w' := by
  have cu := fun w => runtie_any s w hs
  cases hu : untieT s.data.toList with
  | none =>
    rw [show parseS s.data.toList = ([], 80) by unfold parseS; rw [hu]]
    rw [hu] at cu
    unfold UntieOut at cu
    clear hu
    go_enter Tryz.func13, Tryz.ntmps13
    go_wp2_with fail
    refine (cu _).mono ?_
    rintro e w1 ⟨rfl, b1⟩
    go_wp2_with fail
    go_ret2
    exact NoteOut.none b1
  | some l =>
    obtain ⟨q, hq⟩ : ∃ q, parseS s.data.toList = q := ⟨_, rfl⟩
    rw [hq]
    have HQ := Lib.hid hq
    rw [hu] at cu
    have hus := M.untie_spec hu
    have HU := Lib.hid hu
    clear hq
    go_enter Tryz.func13, Tryz.ntmps13
    go_wp2_with fail
    refine (cu _).mono ?_
    rintro e w1 ⟨⟨v, ss, rfl, hss, hsl⟩, b1⟩
    subst hss
    have hszs : ∀ i, (tAt ss i).size ≤ 1048576 := by
      intro i
      unfold tAt
      rcases Nat.lt_or_ge i ss.length with h | h
      · rw [List.getD_eq_getElem?_getD, List.getElem?_eq_getElem h]
        have h1 := mem_le_tie (l := texts ss) (x := ss[i].data.toList) (List.mem_map.2 ⟨_, List.getElem_mem h, rfl⟩)
        have h2 := hus.2.2
        rw [hus.1] at h2
        have h3 : ss[i].data.toList.length = ss[i].size := by simp
        show (ss[i]).size ≤ _
        omega
      · rw [List.getD_eq_getElem?_getD, List.getElem?_eq_none h]
        decide
    have hln : ss.length ≤ 4096 := by have := hus.2.1; rwa [texts_length] at this
    obtain ⟨A, cap, rfl⟩ := hsl.form
    have HSL := Lib.hid hsl
    obtain ⟨N, hN⟩ : ∃ N, ss.length = N := ⟨_, rfl⟩
    rw [hN] at hln ⊢
    have HN := Lib.hid hN
    have HSZ := Lib.hid hszs
    have hb1 : Below w.heap.size w w1 := b1
    clear cu hus hu hsl hN hszs b1
    by_cases hm : N % 3 = 0
    rotate_left
    · have HAN := Lib.hid (HQ.out.symm.trans (parseS_odd HU.out (by rw [HN.out]; exact hm)))
      have e1 : (((N : Int).tmod 3) == 0) = false := by rw [Int.tmod_eq_emod_of_nonneg (by omega)]; simp; omega
      have e2 : (((N : Int).tmod 3) != 0) = true := by simp [bne, e1]
      have e3 : (((N : Int) % 3) == 0) = false := by simp; omega
      have e4 : (((N : Int) % 3) != 0) = true := by simp [bne, e3]
      clear hm
      go_wp2_with fail
      go_ret2
      rw [HAN.out]
      exact NoteOut.none hb1
    obtain ⟨m, hm'⟩ : ∃ m, N = m * 3 := ⟨N / 3, by omega⟩
    have HM := Lib.hid hm'
    have hm1 : m ≤ 2000 := by omega
    have e1 : (((N : Int).tmod 3) == 0) = true := by rw [Int.tmod_eq_emod_of_nonneg (by omega)]; simp; omega
    have e2 : (((N : Int).tmod 3) != 0) = false := by simp [bne, e1]
    have e3 : (((N : Int) % 3) == 0) = true := by simp; omega
    have e4 : (((N : Int) % 3) != 0) = false := by simp [bne, e3]
    have hz1 := hb1.size
    clear hm hm'
    go_wp2_with fail
    clear e1 e2 e3 e4
    go_loopw [6, 7, 8, 9, 10, 11, 12, 13] (fun v6 vi _ _ _ _ _ _ wr => ∃ (k i : Nat) (zs' : List Zs), k ≤ m ∧ i = k * 3 ∧ vi = .int .i64 (i : Int) ∧ OwnZ wr w1.heap.size v6 zs' ∧ Hid (ses zs' = (List.range k).map (sAt ss)) ∧ Hid (TZ wr zs') ∧ Hid (∀ j, j < k → eAt ss j = 0) ∧ Below w1.heap.size w1 wr) (fun _ vi _ _ _ _ _ _ _ => N - (intOf vi).toNat)
    case atStart => exact ⟨0, 0, [], by omega, by omega, rfl, ownZ_nil _ _, Lib.hid rfl, Lib.hid (fun z hz => by cases hz), Lib.hid (fun j hj => by omega), Below.refl _ _⟩
    case round =>
      revert hrel; revert wr; intro wo hrel
      obtain ⟨k, i, zs', hk, hik, rfl, hown, HSE, HTZ, HE, hbr⟩ := hrel
      have hzr := hbr.size
      have hbw : Below w.heap.size w wo := hb1.trans (hbr.mono hz1)
      have hzl : zs'.length = k := by have := congrArg List.length HSE.out; simpa using this
      obtain ⟨A6, c6, rfl⟩ := (SZ.of_own hown).form
      have HO := Lib.hid hown
      have HZL := Lib.hid hzl
      clear hown
      by_cases hlt : k < m
      · have hm3 := HM.out
        have hiN : i + 2 < N := by omega
        obtain ⟨i1, hi1⟩ : ∃ i1 : Nat, i1 = i + 1 := ⟨_, rfl⟩
        obtain ⟨i2, hi2⟩ : ∃ i2 : Nat, i2 = i + 2 := ⟨_, rfl⟩
        obtain ⟨i3, hi3⟩ : ∃ i3 : Nat, i3 = i + 3 := ⟨_, rfl⟩
        obtain ⟨ad, hA0, hadb, z0⟩ := HSL.out.at_ (k := i) (by rw [HN.out]; omega)
        obtain ⟨ad1, hA1, _, z1⟩ := HSL.out.at_ (k := i1) (by rw [HN.out]; omega)
        obtain ⟨ad2, hA2, _, z2⟩ := HSL.out.at_ (k := i2) (by rw [HN.out]; omega)
        obtain rfl : ad = ad1 := Option.some.inj (hA0.symm.trans hA1)
        obtain rfl : ad = ad2 := Option.some.inj (hA0.symm.trans hA2)
        rw [tAt_get] at z0 z1 z2
        rw [show i = k * 3 from hik] at z0
        rw [show i1 = k * 3 + 1 by omega] at z1
        rw [show i2 = k * 3 + 2 by omega] at z2
        obtain ⟨x, hx⟩ : ∃ x, tAt ss (k * 3) = x := ⟨_, rfl⟩
        obtain ⟨y, hy⟩ : ∃ y, tAt ss (k * 3 + 1) = y := ⟨_, rfl⟩
        obtain ⟨u, hu⟩ : ∃ u, tAt ss (k * 3 + 2) = u := ⟨_, rfl⟩
        have hx0 : x.size ≤ 1048576 := by rw [← hx]; exact HSZ.out _
        have hy0 : y.size ≤ 1048576 := by rw [← hy]; exact HSZ.out _
        have hu0 : u.size ≤ 1048576 := by rw [← hu]; exact HSZ.out _
        rw [hx] at z0
        rw [hy] at z1
        rw [hu] at z2
        rw [show k * 3 = i from hik.symm] at z0
        rw [show k * 3 + 1 = i1 by omega] at z1
        rw [show k * 3 + 2 = i2 by omega] at z2
        have cx := (hbr.cell (p := ad.add i) (by cases i <;> exact hadb)).trans z0
        have cy := (hbr.cell (p := ad.add i1) (by cases i1 <;> exact hadb)).trans z1
        have cz := (hbr.cell (p := ad.add i2) (by cases i2 <;> exact hadb)).trans z2
        have HAD := Lib.hid hadb
        subst hA0
        obtain ⟨f0, c0, d0⟩ : ∃ f : Int, (∀ w, Calls Tryz.prog 53 #[.string x] w fun e w' => e = .returned (.tuple #[.int .i64 (num0 x.data.toList), .int .i64 f]) ∧ w = w') ∧ (f = 0 ∨ (f = 10 ∧ intT x.data.toList = none)) := by
          obtain ⟨f, h1, h2⟩ := intR_twoR x.data.toList
          exact ⟨f, fun w => by rw [← h1]; exact rint_any x w (by omega), h2⟩
        obtain ⟨f1, c1, d1⟩ : ∃ f : Int, (∀ w, Calls Tryz.prog 53 #[.string y] w fun e w' => e = .returned (.tuple #[.int .i64 (num0 y.data.toList), .int .i64 f]) ∧ w = w') ∧ (f = 0 ∨ (f = 10 ∧ intT y.data.toList = none)) := by
          obtain ⟨f, h1, h2⟩ := intR_twoR y.data.toList
          exact ⟨f, fun w => by rw [← h1]; exact rint_any y w (by omega), h2⟩
        have cp := fun w => rparseR_fresh u w (by omega)
        have hh : (parseR u.data.toList).2 = 0 ∨ (parseR u.data.toList).2 = 70 := by
          rcases Od.parseR_cases u.data.toList with ⟨o, _, _, h3⟩ | h3
          · rw [h3]; exact .inl rfl
          · rw [h3]; exact .inr rfl
        have hse : sAt ss k = ⟨num0 x.data.toList, num0 y.data.toList, (parseR u.data.toList).1⟩ := by unfold sAt; rw [hx, hy, hu]
        have hee : eAt ss k = (parseR u.data.toList).2 := by unfold eAt; rw [hu]
        have hbad : f0 = 10 ∨ f1 = 10 ∨ (parseR u.data.toList).2 = 70 → q = ([], 80) := by
          intro hx
          rw [← HQ.out]
          rcases hx with h | h | h
          · refine parseS_zero HU.out (by rw [HN.out, HM.out]) ⟨k, hlt, ?_⟩
            rcases d0 with d | ⟨_, d⟩
            · omega
            · rw [hse, num0_none d]; exact fits_zero
          · refine parseS_zero HU.out (by rw [HN.out, HM.out]) ⟨k, hlt, ?_⟩
            rcases d1 with d | ⟨_, d⟩
            · omega
            · rw [hse, num0_none d]; exact fits_zero2
          · exact parseS_bad HU.out (by rw [HN.out, HM.out]) ⟨k, hlt, by rw [hee, h]; decide⟩
        obtain ⟨n0, hn0⟩ : ∃ n, num0 x.data.toList = n := ⟨_, rfl⟩
        obtain ⟨n1, hn1⟩ : ∃ n, num0 y.data.toList = n := ⟨_, rfl⟩
        obtain ⟨pr, hpr⟩ : ∃ p, parseR u.data.toList = p := ⟨_, rfl⟩
        obtain ⟨r, h⟩ := pr
        rw [hn0] at c0
        rw [hn1] at c1
        rw [hn0, hn1, hpr] at hse
        rw [hpr] at hee hh hbad
        simp only [hpr] at cp
        unfold Od.GaveF at cp
        simp only at hse hee hh hbad cp
        have d0' : f0 = 0 ∨ f0 = 10 := d0.imp id And.left
        have d1' : f1 = 0 ∨ f1 = 10 := d1.imp id And.left
        have HD := Lib.hid (And.intro d0' (And.intro d1' hh))
        have HSI := Lib.hid hse
        have HEI := Lib.hid hee
        have HB := Lib.hid hbad
        have HI := Lib.hid hik
        have HI3 := Lib.hid hi3
        have j0 : (0 ≤ (i : Int)) = True := eq_true (by omega)
        have j1 : (0 ≤ (i1 : Int)) = True := eq_true (by omega)
        have j2 : (0 ≤ (i2 : Int)) = True := eq_true (by omega)
        have j3 : ((i : Int) < (N : Int)) = True := eq_true (by omega)
        have j4 : ((i1 : Int) < (N : Int)) = True := eq_true (by omega)
        have j5 : ((i2 : Int) < (N : Int)) = True := eq_true (by omega)
        have j6 : IntKind.i64.wrap ((i : Int) + 1) = (i1 : Int) := by rw [IntKind.wrap_i64] <;> omega
        have j7 : IntKind.i64.wrap ((i : Int) + 2) = (i2 : Int) := by rw [IntKind.wrap_i64] <;> omega
        have j8 : IntKind.i64.wrap ((i : Int) + 3) = (i3 : Int) := by rw [IntKind.wrap_i64] <;> omega
        have HLT := Lib.hid hlt
        clear z0 z1 z2 hA1 hA2 hx hy hu hx0 hy0 hu0 d0 d1 d0' d1' hh hse hee hbad hn0 hn1 hpr hadb hik hi1 hi2 hi3 hiN hm3 hlt hzl
        go_wp2_with fail
        refine (c0 _).mono ?_
        rintro e w2 ⟨rfl, rfl⟩
        go_wp2_with fail
        refine (c1 _).mono ?_
        rintro e w2 ⟨rfl, rfl⟩
        go_wp2_with fail
        refine (cp _).mono ?_
        rintro e w2 ⟨pv, rfl, hsp, b2, hop⟩
        obtain ⟨pA, pc, rfl⟩ := hsp.form
        have HOP := Lib.hid hop
        have B2 := BoxR.new w2 r (.slice pA r.ps.length pc)
        have hO2 := Lib.hid (ownZ_keep HO.out b2)
        have hT2 := Lib.hid (HTZ.out.keep b2)
        have hb2 : Below w1.heap.size w1 w2 := hbr.trans (b2.mono hzr)
        have hz2 := hb2.size
        have hb2w : Below w.heap.size w w2 := hb1.trans (hb2.mono hz1)
        obtain ⟨P, hP⟩ : ∃ P, r.ps.length = P := ⟨_, rfl⟩
        rw [hP] at B2 ⊢
        have HP := Lib.hid hP
        clear cx cy cz c0 c1 cp hsp hop b2 hP
        obtain ⟨d0, d1, d2⟩ := HD.out
        by_cases hall : f0 = 0 ∧ f1 = 0 ∧ h = 0
        rotate_left
        · have HAN := Lib.hid (HB.out (by omega))
          obtain ⟨s1, hs1⟩ : ∃ s1, s1 = f0 + f1 := ⟨_, rfl⟩
          obtain ⟨s2, hs2⟩ : ∃ s2, s2 = s1 + h := ⟨_, rfl⟩
          have l1 : IntKind.i64.wrap (f0 + f1) = s1 := by rw [IntKind.wrap_i64] <;> omega
          have l2 : IntKind.i64.wrap (s1 + h) = s2 := by rw [IntKind.wrap_i64] <;> omega
          have l3 : (s2 == 0) = false := by rw [beq_eq_false_iff_ne]; omega
          have l4 : (s2 != 0) = true := by rw [bne_iff_ne]; omega
          have l5 : (s2 = 0) = False := eq_false (by omega)
          have hbz : Below w.heap.size w (w2.alloc (.cells #[.int .i64 r.code, .int .i64 r.err, .bool r.has, .string r.val, .slice pA P pc] 76)) := hb2w.alloc (by omega) _
          clear hall hs1 hs2 d0 d1 d2
          go_wp2_with fail
          go_ret2
          rw [HAN.out]
          exact NoteOut.none hbz
        obtain ⟨rfl, rfl, rfl⟩ := hall
        have hA := argZ_one (w2.alloc (.cells #[.int .i64 r.code, .int .i64 r.err, .bool r.has, .string r.val, .slice pA P pc] 76)) (⟨n0, n1, r⟩, .slice pA P pc)
        rw [World.size_alloc] at hA
        have HA := Lib.hid hA
        clear d0 d1 d2 hA
        obtain ⟨p_0, ⟨p_1, p_2, p_3, p_4, p_5⟩, p_6⟩ := _root_.id B2
        go_wp2_with (at_builtin; refine wpList_append_zs rfl _ _ rfl w1.heap.size _ zs' rfl (ownZ_alloc (ownZ_alloc hO2.out _) _) (by simp; omega) _ [(⟨n0, n1, r⟩, .slice pA P pc)] rfl HA.out (fun z hz => by simp only [List.mem_singleton] at hz; subst hz; rfl) (by have := HZL.out; simp; omega) ?_)
        rintro v7 w3 k1 k2 k3
        have hT3 : Hid (TZ w3 (zs' ++ [(⟨n0, n1, r⟩, .slice pA P pc)])) := Lib.hid (by
          have t1 : TZ w2 [((⟨n0, n1, r⟩ : Ses), Value.slice pA P pc)] := fun z hz => by
            simp only [List.mem_singleton] at hz
            subst hz
            rcases Nat.eq_zero_or_pos P with h0 | h0
            · subst h0
              exact .inl ⟨List.length_eq_zero_iff.1 HP.out, _, _, rfl⟩
            · exact .inr (by have := HOP.out (by rw [HP.out]; exact h0); rw [HP.out] at this; exact own_base this (Nat.zero_le _))
          exact (((hT2.out.app t1).keep (((Below.refl _ w2).alloc (Nat.le_refl _) _).alloc (by simp) _)).grown k3 (row_kind (ownZ_alloc (ownZ_alloc hO2.out _) _))))
        have hb3 : Below w1.heap.size w1 w3 := ((hb2.alloc (by omega) _).alloc (by simp; omega) _).trans k2
        have HK1 := Lib.hid k1
        obtain ⟨A7, c7, hv7⟩ := (SZ.of_own k1).form
        subst hv7
        clear p_0 p_1 p_2 p_3 p_4 p_5 p_6
        clear k1 k2 k3 B2
        go_wp2_with fail
        go_roundw
        case rel =>
          refine ⟨k + 1, i3, zs' ++ [(⟨n0, n1, r⟩, .slice pA P pc)], by have := HLT.out; omega, by have := HI.out; have := HI3.out; omega, rfl, HK1.out, Lib.hid ?_, hT3, Lib.hid ?_, hb3⟩
          · rw [List.range_succ, List.map_append, ← HSE.out, List.map_singleton, HSI.out]
            simp [ses]
          · intro j hj
            rcases Nat.lt_or_ge j k with h | h
            · exact HE.out j h
            · obtain rfl : j = k := by omega
              exact HEI.out
        case measure => have := HI.out; have := HI3.out; have := HM.out; have := HLT.out; simp [intOf]; omega
      · obtain rfl : k = m := by omega
        have hiN : i = N := by have := HM.out; omega
        subst hiN
        have hans := HQ.out.symm.trans (parseS_all HU.out (by rw [HN.out, HM.out]) HE.out)
        rw [← HSE.out] at hans
        have hft : ∀ z ∈ zs', FitZ z.1 := fun z hz => by
          have : z.1 ∈ ses zs' := List.mem_map.2 ⟨z, hz, rfl⟩
          rw [HSE.out] at this
          obtain ⟨j, _, e⟩ := List.mem_map.1 this
          rw [← e]
          exact fit_parsed ss j
        have ck := ris_any (.slice A6 zs'.length c6) zs' wo (SZ.of_own HO.out) HTZ.out.pz hft (by omega)
        cases hI : isS (ses zs') with
        | false =>
          rw [hI, if_neg (by simp)] at hans
          rw [hI] at ck
          have HAN := Lib.hid hans
          clear hans hI hft hik hzl hlt
          go_wp2_with fail
          refine ck.mono ?_
          rintro e w3 ⟨rfl, b3⟩
          have hb3 := hbw.trans (b3.mono hbw.size)
          clear b3
          go_wp2_with fail
          go_ret2
          rw [HAN.out]
          exact NoteOut.none hb3
        | true =>
          rw [hI, if_pos rfl] at hans
          rw [hI] at ck
          have hnp : Hid (NoP zs') := Lib.hid (HTZ.out.pz.nop fun s hs => fits_ps (rise_mem ((isS_iff _).1 hI).2 s hs).2)
          have HAN := Lib.hid hans
          clear hans hI hft hik hzl hlt
          go_wp2_with fail
          refine ck.mono ?_
          rintro e w3 ⟨rfl, b3⟩
          have hb3 := hbw.trans (b3.mono hbw.size)
          have HO3 := Lib.hid (ownZ_keep HO.out b3)
          clear b3
          go_wp2_with fail
          go_ret2
          rw [HAN.out]
          exact ⟨_, zs', rfl, rfl, ArgZ.of_own HO3.out, hnp.out, hb3⟩
end Go.Proofs.YticikmkehobblaaGreatDoor.Ss

namespace Go.Proofs.YticikmkehobblaaGreatDoor.Ss
open Go.RowKit Bnd
open Go.Proofs.YticikmkehobblaaGreatDoor.Od (Rep SP ArgP OwnP rv BoxR FitR sumP sumP_mem putR_length)

theorem put_short {s : Ses} (h : LimZ s) (h2 : ShortZ s) : PutZ s := by
  have hs := h2.sum
  have hf : FitR s.rep := ⟨h.rep.code, h.rep.err, by omega, by have := h2.n; omega, fun p hp => by have := sumP_mem hp; omega⟩
  refine ⟨h.client, h.seq, hf, ?_⟩
  have := putR_length hf
  have := h2.n
  omega
theorem parseS_len (s : List UInt8) : (parseS s).1.length ≤ 64 := by
  rcases parseS_cases s with ⟨l, h, e⟩ | e
  · rw [e]; exact ((isS_iff _).1 h).1
  · rw [e]; simp

set_option maxHeartbeats 16000000 in
set_option maxRecDepth 100000 in
theorem checks_walk (va : Value) (za : List Zs) (s : ByteArray) (w : World) (ha : ArgZ w va za) (hp : PZ w w.heap.size za) (hm : ∀ z ∈ za, LimZ z.1) (hl : za.length ≤ 140737488355328) (hs : s.size ≤ 140737488355328) (hg : Good w) :
    Calls Tryz.prog 3 #[va, .string s] w fun e w' => e = .returned (.bool true) ∧ Below w.heap.size w w' := by
  obtain ⟨A, ca, rfl⟩ := ha.form
  have hf : ∀ z ∈ za, FitZ z.1 := fun z hz => (hm z hz).fit
  have HM := Lib.hid hm
  have HONE := Lib.hid hp.one
  obtain ⟨na, hna⟩ : ∃ n, za.length = n := ⟨_, rfl⟩
  rw [hna] at ha ⊢
  have HNA := Lib.hid hna
  have KA : ∀ w', Below w.heap.size w w' → ArgZ w' (.slice A na ca) za := fun w' h => ha.keep h
  have KP : ∀ w', Below w.heap.size w w' → PZ w' w'.heap.size za := fun w' h => (hp.below h).more h.size
  have cS1 := fun w' (h : Below w.heap.size w w') => small_any _ za w' (KA w' h).sz (KP w' h) hf hl
  have cC := fun w' (h : Below w.heap.size w w') => check_any _ za w' (KA w' h).sz (KP w' h) hf hl
  have cI := fun w' (h : Below w.heap.size w w') => ris_any _ za w' (KA w' h).sz (KP w' h) hf hl
  have cP := fun w' (h : Below w.heap.size w w') => parse_any s w' hs (hg.below h)
  have cQ := fun w' (_ : Below w.heap.size w w') => rparse_any s w' hs
  have cL := fun w' (h : Below w.heap.size w w') => live_any w' (hg.below h)
  clear ha hna hp hm
  go_enter Tryz.func3, Tryz.ntmps3
  go_wp2_with fail
  refine (cS1 _ (Below.refl _ _)).mono ?_
  rintro e w1 ⟨⟨r1, rfl, hr1⟩, b1⟩
  cases r1 with
  | false =>
    clear hr1
    go_wp2_with fail
    refine (cL _ (b1)).mono ?_
    rintro e w99 ⟨rfl, b99⟩
    have hbz := (b1).trans (b99.mono (b1).size)
    clear b99
    go_wp2_with fail
    go_ret
    exact ⟨rfl, hbz⟩
  | true =>
  have HR1 := Lib.hid (hr1 rfl)
  clear hr1
  by_cases h2 : s.size ≤ 20000
  rotate_left
  · have g1 : ((s.size : Int) > 20000) = True := eq_true (by omega)
    have g2 : ((20000 : Int) < (s.size : Int)) = True := eq_true (by omega)
    clear h2
    go_wp2_with fail
    refine (cL _ (b1)).mono ?_
    rintro e w99 ⟨rfl, b99⟩
    have hbz := (b1).trans (b99.mono (b1).size)
    clear b99
    go_wp2_with fail
    go_ret
    exact ⟨rfl, hbz⟩
  have g1 : ((s.size : Int) > 20000) = False := eq_false (by omega)
  have g2 : ((20000 : Int) < (s.size : Int)) = False := eq_false (by omega)
  have hpz : ∀ x ∈ ses za, PutZ x := fun x hx => by
    obtain ⟨z, hz, rfl⟩ := List.mem_map.1 hx
    exact put_short (HM.out z hz) (HR1.out.each z hz)
  have hn80 : za.length ≤ 80 := HR1.out.n
  have cO := fun w' (h : Below w.heap.size w w') => own_any _ za w' (KA w' h) HONE.out (by omega)
  have cT := fun v w' (h : ArgZ w' v za) (h2 : Below w.heap.size w w') => put_any v za w' h.sz (KP w' h2) hpz (by omega)
  have cU := fun w' (h : Below w.heap.size w w') => rput_any _ za w' (KA w' h).sz (KP w' h) hpz (by omega)
  have hln := parseS_len s.data.toList
  obtain ⟨ans, hans⟩ : ∃ q, parseS s.data.toList = q := ⟨_, rfl⟩
  obtain ⟨pl, pn⟩ := ans
  rw [hans] at cP cQ hln
  obtain ⟨T, hT⟩ : ∃ T : ByteArray, (⟨(putS (ses za)).toArray⟩ : ByteArray) = T := ⟨_, rfl⟩
  have cT' : ∀ v w', ArgZ w' v za → Below w.heap.size w w' → Calls Tryz.prog 17 #[v] w' fun e w2 => e = .returned (.string T) ∧ Below w'.heap.size w' w2 := fun v w' h h2 => by rw [← hT]; exact cT v w' h h2
  have cU' : ∀ w', Below w.heap.size w w' → Calls Tryz.prog 19 #[.slice A na ca] w' fun e w2 => e = .returned (.string T) ∧ Below w'.heap.size w' w2 := fun w' h => by rw [← hT]; exact cU w' h
  have HLN := Lib.hid hln
  clear hans hT cT cU h2 cS1 hpz hn80 hln
  go_wp2_with fail
  refine (cP _ b1).mono ?_
  rintro e w2 ⟨v2, z2, rfl, hs2, a2, p2, b2⟩
  have hb2 := b1.trans (b2.mono b1.size)
  obtain ⟨A2, c2, hv2⟩ := a2.form
  have HV2 := Lib.hid hv2
  have HS2 := Lib.hid hs2
  clear b2 hs2 hv2
  go_wp2_with fail
  refine (cQ _ hb2).mono ?_
  rintro e w3 ⟨v3, z3, rfl, hs3, a3, p3, b3⟩
  have hb3 := hb2.trans (b3.mono hb2.size)
  have a2' := a2.keep b3
  have HS3 := Lib.hid hs3
  have hl2 : z2.length ≤ 1000000 := by have := congrArg List.length HS2.out; have := HLN.out; simp only [List.length_map] at *; omega
  have cE := fun w' (h : Below w3.heap.size w3 w') => rsame_yes _ _ z2 z3 w' (a2'.keep h).sz (a3.keep h).sz p2 p3 (HS2.out.trans HS3.out.symm) hl2
  clear b3 a2 hs3 cP cQ hl2
  have hA : isS (ses za) = true ∨ isS (ses za) = false := by cases isS (ses za) <;> simp
  rcases hA with hA | hA
  · rw [hA] at cI
    rw [show chkS (ses za) = 0 by unfold chkS; rw [hA]; rfl] at cC
    clear hA
    go_wp2_with fail
    refine (cC _ hb3).mono ?_
    rintro e w4 ⟨rfl, b4⟩
    have hb4 := hb3.trans (b4.mono hb3.size)
    have h34 := b4
    clear b4
    go_wp2_with fail
    refine (num_any _ _).mono ?_
    rintro e w' ⟨rfl, rfl⟩
    go_wp2_with fail
    refine (cI _ hb4).mono ?_
    rintro e w5 ⟨rfl, b5⟩
    have hb5 := hb4.trans (b5.mono hb4.size)
    have h35 := h34.trans (b5.mono h34.size)
    clear b5
    go_wp2_with fail
    refine (cO _ hb5).mono ?_
    rintro e w6 ⟨v6, rfl, a6, b6⟩
    have hb6 := hb5.trans (b6.mono hb5.size)
    have h36 := h35.trans (b6.mono h35.size)
    clear b6
    go_wp2_with fail
    refine (cT' _ _ a6 hb6).mono ?_
    rintro e w7 ⟨rfl, b7⟩
    have hb7 := hb6.trans (b7.mono hb6.size)
    have h37 := h36.trans (b7.mono h36.size)
    clear b7 a6
    go_wp2_with fail
    refine (cU' _ hb7).mono ?_
    rintro e w8 ⟨rfl, b8⟩
    have hb8 := hb7.trans (b8.mono hb7.size)
    have h38 := h37.trans (b8.mono h37.size)
    clear b8
    go_wp2_with fail
    refine (cE _ h38).mono ?_
    rintro e w9 ⟨rfl, b9⟩
    have hb9 := hb8.trans (b9.mono hb8.size)
    clear b9
    go_wp2_with fail
    refine (num_any _ _).mono ?_
    rintro e w' ⟨rfl, rfl⟩
    go_wp2_with fail
    refine (cL _ (hb9)).mono ?_
    rintro e w99 ⟨rfl, b99⟩
    have hbz := (hb9).trans (b99.mono (hb9).size)
    clear b99
    go_wp2_with fail
    go_ret
    exact ⟨rfl, hbz⟩
  · rw [hA] at cI
    rw [show chkS (ses za) = 80 by unfold chkS; rw [hA]; rfl] at cC
    clear hA
    go_wp2_with fail
    refine (cC _ hb3).mono ?_
    rintro e w4 ⟨rfl, b4⟩
    have hb4 := hb3.trans (b4.mono hb3.size)
    have h34 := b4
    clear b4
    go_wp2_with fail
    refine (num_any _ _).mono ?_
    rintro e w' ⟨rfl, rfl⟩
    go_wp2_with fail
    refine (cI _ hb4).mono ?_
    rintro e w5 ⟨rfl, b5⟩
    have hb5 := hb4.trans (b5.mono hb4.size)
    have h35 := h34.trans (b5.mono h34.size)
    clear b5
    go_wp2_with fail
    refine (cO _ hb5).mono ?_
    rintro e w6 ⟨v6, rfl, a6, b6⟩
    have hb6 := hb5.trans (b6.mono hb5.size)
    have h36 := h35.trans (b6.mono h35.size)
    clear b6
    go_wp2_with fail
    refine (cT' _ _ a6 hb6).mono ?_
    rintro e w7 ⟨rfl, b7⟩
    have hb7 := hb6.trans (b7.mono hb6.size)
    have h37 := h36.trans (b7.mono h36.size)
    clear b7 a6
    go_wp2_with fail
    refine (cU' _ hb7).mono ?_
    rintro e w8 ⟨rfl, b8⟩
    have hb8 := hb7.trans (b8.mono hb7.size)
    have h38 := h37.trans (b8.mono h37.size)
    clear b8
    go_wp2_with fail
    refine (cE _ h38).mono ?_
    rintro e w9 ⟨rfl, b9⟩
    have hb9 := hb8.trans (b9.mono hb8.size)
    clear b9
    go_wp2_with fail
    refine (num_any _ _).mono ?_
    rintro e w' ⟨rfl, rfl⟩
    go_wp2_with fail
    refine (cL _ (hb9)).mono ?_
    rintro e w99 ⟨rfl, b99⟩
    have hbz := (hb9).trans (b99.mono (hb9).size)
    clear b99
    go_wp2_with fail
    go_ret
    exact ⟨rfl, hbz⟩
end Go.Proofs.YticikmkehobblaaGreatDoor.Ss

/-
  The document's Same at lists that are the same; the law's own num and own. Conditions: sessions without pairs, at most a million (own: any pairs).
-/
import Derived.Test.YticikmkehobblaaDoorSsRows
import Derived.Test.YticikmkehobblaaDoorOdSame
import Derived.Test.YticikmkehobblaaDoorRegA
namespace Go.Proofs.YticikmkehobblaaDoor.Ss
open Go.RowKit Bnd
open Go.Proofs.YticikmkehobblaaDoor.Od (Rep SP ArgP OwnP rv BoxR)

theorem num_any (n : Int) (w : World) : Calls Tryd.prog 19 #[.int .i64 n] w fun e w' => e = .returned (.int .i64 n) ∧ w = w' := by
  go_enter Tryd.func19, Tryd.ntmps19
  go_wp2_with fail
  go_ret
  exact ⟨rfl, rfl⟩
set_option maxHeartbeats 2000000 in
/-- the law's own: a list of its own, of the same sessions -/
theorem own_any (v : Value) (zs : List Zs) (w : World) (hv : ArgZ w v zs) (hone : ∀ z ∈ zs, z.2.oneCell' = true) (hl : zs.length ≤ 100000) :
    Calls Tryd.prog 11 #[v] w fun e w' => ∃ v', e = .returned v' ∧ ArgZ w' v' zs ∧ Below w.heap.size w w' := by
  go_enter Tryd.func11, Tryd.ntmps11
  go_wp2_with (at_builtin; refine wpList_append_zs rfl _ _ rfl w.heap.size _ [] rfl (ownZ_empty w) (by simp) v zs rfl (hv.keep ((Below.refl _ w).alloc (Nat.le_refl _) _)) hone (by simp; omega) ?_)
  intro v' w1 hown hb1 _
  have hb : Below w.heap.size w w1 := ((Below.refl _ w).alloc (Nat.le_refl _) _).trans hb1
  have HO := Lib.hid hown
  clear hown hb1
  go_wp2_with fail
  go_ret
  exact ⟨_, rfl, ArgZ.of_own HO.out, hb⟩
set_option maxHeartbeats 8000000 in
set_option maxRecDepth 100000 in
theorem rsame_yes (va vb : Value) (za zb : List Zs) (w : World) (hva : SZ w w.heap.size va za) (hvb : SZ w w.heap.size vb zb) (hpa : NoP za) (hpb : NoP zb) (he : ses za = ses zb) (hl : za.length ≤ 1000000) :
    Calls Tryd.prog 17 #[va, vb] w fun e w' => e = .returned (.bool true) ∧ Below w.heap.size w w' := by
  obtain ⟨A, ca, rfl⟩ := hva.form
  obtain ⟨D, cb, rfl⟩ := hvb.form
  have hlen : zb.length = za.length := by
    have := congrArg List.length he
    simpa using this.symm
  obtain ⟨n, hn⟩ : ∃ n, za.length = n := ⟨_, rfl⟩
  have HN := Lib.hid hn
  have HB := Lib.hid (hlen.trans hn)
  have HVA := Lib.hid hva
  have HVB := Lib.hid hvb
  have HE := Lib.hid he
  rw [hlen, hn]
  rw [hn] at hl
  clear hn hlen hva hvb he
  go_enter Tryd.func17, Tryd.ntmps17
  go_wp2_with fail
  go_loopw [5] (fun vi wr => ∃ k : Nat, k ≤ n ∧ vi = .int .i64 (k : Int) ∧ Below w.heap.size w wr) (fun vi _ => n - (intOf vi).toNat)
  case atStart => exact ⟨0, Nat.zero_le _, rfl, Below.refl _ _⟩
  case round =>
    obtain ⟨k, hk, rfl, hbw⟩ := hrel
    have hz := hbw.size
    by_cases hlt : k < n
    · have hka : k < za.length := by rw [HN.out]; exact hlt
      have hkb : k < zb.length := by rw [HB.out]; exact hlt
      have hv1 := HVA.out.below hbw
      have hv2 := HVB.out.below hbw
      rw [HN.out] at hv1
      rw [HB.out] at hv2
      obtain ⟨b, o, rfl, hb, q0, q1, q2, q3, q4, q5, q6⟩ := hv1.at_ hka
      obtain ⟨d, p, rfl, hd, r0, r1, r2, r3, r4, r5, r6⟩ := hv2.at_ hkb
      obtain ⟨hps, pa, pc, hpv⟩ := hpa za[k] (List.getElem_mem hka)
      obtain ⟨hqs, qa, qc, hqv⟩ := hpb zb[k] (List.getElem_mem hkb)
      have hs : za[k].1 = zb[k].1 := by
        have e1 : (ses za)[k]'(by simpa using hka) = za[k].1 := by simp
        have e2 : (ses zb)[k]'(by simpa using hkb) = zb[k].1 := by simp
        have e3 : (ses za)[k]? = (ses zb)[k]? := by rw [HE.out]
        rw [List.getElem?_eq_getElem (by simpa using hka), List.getElem?_eq_getElem (by simpa using hkb), e1, e2] at e3
        exact Option.some.inj e3
      rw [hpv] at q6
      rw [hqv] at r6
      rw [← hs] at r0 r1 r2 r3 r4 r5 hqs
      obtain ⟨⟨cl, sq, r⟩, hzk⟩ : ∃ z, za[k].1 = z := ⟨_, rfl⟩
      rw [hzk] at q0 q1 q2 q3 q4 q5 r0 r1 r2 r3 r4 r5 hps
      simp only at q0 q1 q2 q3 q4 q5 r0 r1 r2 r3 r4 r5 hps
      have k0 : (0 ≤ (k : Int)) = True := eq_true (by omega)
      have k1 : ((k : Int) < (n : Int)) = True := eq_true (by omega)
      have hk1 : (k : Int) < (n : Int) := by omega
      have hbz : b < wr.heap.size := by omega
      have hdz : d < wr.heap.size := by omega
      have cs : ∀ wx, Below wr.heap.size wr wx → Calls Tryd.prog 18 #[rv r (.slice pa 0 pc), rv r (.slice qa 0 qc)] wx fun e w' => e = .returned (.bool true) ∧ Below wr.heap.size wr w' := by
        intro wx hx
        have h1 : SP wx wx.heap.size (.slice pa 0 pc) r.ps := by rw [hps]; exact ⟨_, _, rfl, fun h => absurd h (by simp)⟩
        have h2 : SP wx wx.heap.size (.slice qa 0 qc) r.ps := by rw [hps]; exact ⟨_, _, rfl, fun h => absurd h (by simp)⟩
        have h3 : r.ps.length ≤ 1000000000 := by rw [hps]; simp
        have := Od.rsameR_any r r (.slice pa 0 pc) (.slice qa 0 qc) wx h1 h2 h3 h3
        rw [(Od.sameR_iff r r).2 rfl] at this
        refine this.mono ?_
        rintro e w' ⟨rfl, b⟩
        exact ⟨rfl, hx.trans (b.mono hx.size)⟩
      have hca : ∀ wx, Below wr.heap.size wr wx → Cs wx b (o + k * 7) (⟨cl, sq, r⟩, .slice pa 0 pc) := fun wx hx => Cs.keep (w := wr) ⟨q0, q1, q2, q3, q4, q5, q6⟩ (fun i => hx.cell (p := ⟨b, i, none⟩) hbz)
      have hcb : ∀ wx, Below wr.heap.size wr wx → Cs wx d (p + k * 7) (⟨cl, sq, r⟩, .slice qa 0 qc) := fun wx hx => Cs.keep (w := wr) ⟨r0, r1, r2, r3, r4, r5, r6⟩ (fun i => hx.cell (p := ⟨d, i, none⟩) hdz)
      clear hs hzk hps hqs hpv hqv hka hkb hv1 hv2 q0 q1 q2 q3 q4 q5 q6 r0 r1 r2 r3 r4 r5 r6
      go_wp2_with fail
      refine St.wp_region_stage (fun _ wx => Below wr.heap.size wr wx) (by kernel_rfl) (by kernel_rfl) (by kernel_rfl) (Below.refl _ _).drew ?_
      repeat (first
        | (apply St.step_give
           · rfl
           · intro L wx hS hcl hrd
             obtain ⟨q0, q1, q2, q3, q4, q5, q6⟩ := hca wx hS
             obtain ⟨r0, r1, r2, r3, r4, r5, r6⟩ := hcb wx hS
             simp only at q0 q1 q2 q3 q4 q5 q6 r0 r1 r2 r3 r4 r5 r6
             go_simp
             try with_reducible rfl
           · exact fun L wx hS => hS
           simp only [Act.put, List.setIfInBounds_toArray, List.set_cons_zero, List.set_cons_succ])
        | (apply St.step_into
           · rfl
           · intro wx
             go_simp
             exact ⟨rfl, rfl⟩
           · exact fun L wx hS hcl hrd => cs wx hS
           simp only [Act.put, List.setIfInBounds_toArray, List.set_cons_zero, List.set_cons_succ]))
      refine St.step_last ?_
      intro L wx hS _
      clear cs hca hcb
      go_wp2_with fail
      go_roundw
      case rel => exact ⟨k + 1, by omega, by go_num, hbw.trans (hS.mono hz)⟩
      case measure => simp [intOf]; omega
    · obtain rfl : k = n := by omega
      go_wp2_with fail
      go_ret
      exact ⟨rfl, hbw⟩
end Go.Proofs.YticikmkehobblaaDoor.Ss

/-
  The document's Same at lists that are the same; the law's own num and own. Conditions: sessions without pairs, at most a million (own: any pairs).
  The document's small answers on plots: Get, Has, ints, Same (of like plots). Conditions: lengths at most 2^30.
-/
import Derived.Test.YthcmnkmfhgoddaaGreatDoorKSsMRA
import Derived.Test.YthcmnkmfhgoddaaGreatDoorKOdSPA
import Derived.Test.YthcmnkmfhgoddaaGreatDoorKRegA
import Derived.Test.YthcmnkmfhgoddaaGreatDoorKDpBGA
import Derived.Test.YthcmnkmfhgoddaaGreatDoorKDsSMA
import Derived.BigQuiet
namespace Go.Proofs.YthcmnkmfhgoddaaGreatDoor.Ss
open Go.RowKit Bnd
open Go.Proofs.YthcmnkmfhgoddaaGreatDoor.Od (Rep SP ArgP OwnP rv BoxR)
set_option maxHeartbeats 8000000 in
set_option maxRecDepth 100000 in
theorem rsame_yes (va vb : Value) (za zb : List Zs) (w : World) (hva : SZ w w.heap.size va za) (hvb : SZ w w.heap.size vb zb) (hpa : NoP za) (hpb : NoP zb) (he : ses za = ses zb) (hl : za.length <= 1000000) :
    Calls Tryz.prog 75 #[va, vb] w fun e w' => e = .returned (.bool true) /\ Below w.heap.size w w' := by
  obtain ⟨A, ca, rfl⟩ := hva.form
  obtain ⟨D, cb, rfl⟩ := hvb.form
  have hlen : zb.length = za.length := by
    have := congrArg List.length he
    simpa using this.symm
  obtain ⟨n, hn⟩ : ∃ n, za.length = n := ⟨_, rfl⟩
  have HN := Lib.hid hn
  have HB := Lib.hid (hlen.trans hn)
  have HVA := Lib.hid hva
  have HVB := Lib.hid hvb
  have HE := Lib.hid he
  rw [hlen, hn]
  rw [hn] at hl
  clear hn hlen hva hvb he
  go_enter Tryz.func75, Tryz.ntmps75
  go_wp2_with fail
  go_loopw [5] (fun vi wr => ∃ k : Nat, k <= n /\ vi = .int .i64 (k : Int) /\ Below w.heap.size w wr) (fun vi _ => n - (intOf vi).toNat)
  case atStart => exact ⟨0, Nat.zero_le _, rfl, Below.refl _ _⟩
  case round =>
    obtain ⟨k, hk, rfl, hbw⟩ := hrel
    have hz := hbw.size
    by_cases hlt : k < n
    · have hka : k < za.length := by rw [HN.out]; exact hlt
      have hkb : k < zb.length := by rw [HB.out]; exact hlt
      have hv1 := HVA.out.below hbw
      have hv2 := HVB.out.below hbw
      rw [HN.out] at hv1
      rw [HB.out] at hv2
      obtain ⟨b, o, rfl, hb, q0, q1, q2, q3, q4, q5, q6⟩ := hv1.at_ hka
      obtain ⟨d, p, rfl, hd, r0, r1, r2, r3, r4, r5, r6⟩ := hv2.at_ hkb
      obtain ⟨hps, pa, pc, hpv⟩ := hpa za[k] (List.getElem_mem hka)
      obtain ⟨hqs, qa, qc, hqv⟩ := hpb zb[k] (List.getElem_mem hkb)
      have hs : za[k].1 = zb[k].1 := by
        have e1 : (ses za)[k]'(by simpa using hka) = za[k].1 := by simp
        have e2 : (ses zb)[k]'(by simpa using hkb) = zb[k].1 := by simp
        have e3 : (ses za)[k]? = (ses zb)[k]? := by rw [HE.out]
        rw [List.getElem?_eq_getElem (by simpa using hka), List.getElem?_eq_getElem (by simpa using hkb), e1, e2] at e3
        exact Option.some.inj e3
      rw [hpv] at q6
      rw [hqv] at r6
      rw [<- hs] at r0 r1 r2 r3 r4 r5 hqs
      obtain ⟨⟨cl, sq, r⟩, hzk⟩ : ∃ z, za[k].1 = z := ⟨_, rfl⟩
      rw [hzk] at q0 q1 q2 q3 q4 q5 r0 r1 r2 r3 r4 r5 hps
      simp only at q0 q1 q2 q3 q4 q5 r0 r1 r2 r3 r4 r5 hps
      have k0 : (0 <= (k : Int)) = True := eq_true (by omega)
      have k1 : ((k : Int) < (n : Int)) = True := eq_true (by omega)
      have hk1 : (k : Int) < (n : Int) := by omega
      have hbz : b < wr.heap.size := by omega
      have hdz : d < wr.heap.size := by omega
      have cs : ∀ wx, Below wr.heap.size wr wx -> Calls Tryz.prog 146 #[rv r (.slice pa 0 pc), rv r (.slice qa 0 qc)] wx fun e w' => e = .returned (.bool true) /\ Below wr.heap.size wr w' := by
        intro wx hx
        have h1 : SP wx wx.heap.size (.slice pa 0 pc) r.ps := by rw [hps]; exact ⟨_, _, rfl, fun h => absurd h (by simp)⟩
        have h2 : SP wx wx.heap.size (.slice qa 0 qc) r.ps := by rw [hps]; exact ⟨_, _, rfl, fun h => absurd h (by simp)⟩
        have h3 : r.ps.length <= 1000000000 := by rw [hps]; simp
        have := Od.rsameR_any r r (.slice pa 0 pc) (.slice qa 0 qc) wx h1 h2 h3 h3
        rw [(Od.sameR_iff r r).2 rfl] at this
        refine this.mono ?_
        rintro e w' ⟨rfl, b⟩
        exact ⟨rfl, hx.trans (b.mono hx.size)⟩
      have hca : ∀ wx, Below wr.heap.size wr wx -> Cs wx b (o + k * 7) (⟨cl, sq, r⟩, .slice pa 0 pc) := fun wx hx => Cs.keep (w := wr) ⟨q0, q1, q2, q3, q4, q5, q6⟩ (fun i => hx.cell (p := ⟨b, i, none⟩) hbz)
      have hcb : ∀ wx, Below wr.heap.size wr wx -> Cs wx d (p + k * 7) (⟨cl, sq, r⟩, .slice qa 0 qc) := fun wx hx => Cs.keep (w := wr) ⟨r0, r1, r2, r3, r4, r5, r6⟩ (fun i => hx.cell (p := ⟨d, i, none⟩) hdz)
      clear hs hzk hps hqs hpv hqv hka hkb hv1 hv2 q0 q1 q2 q3 q4 q5 q6 r0 r1 r2 r3 r4 r5 r6
      go_wp2_with fail
      refine St.wp_region_stage (fun _ wx => Below wr.heap.size wr wx) (by kernel_rfl) (by kernel_rfl) (by kernel_rfl) (Below.refl _ _).drew ?_
      repeat (first
        | (apply St.step_give
           · rfl
           · intro L wx hS hcl hrd
             obtain ⟨q0, q1, q2, q3, q4, q5, q6⟩ := hca wx hS
             obtain ⟨r0, r1, r2, r3, r4, r5, r6⟩ := hcb wx hS
             simp only at q0 q1 q2 q3 q4 q5 q6 r0 r1 r2 r3 r4 r5 r6
             go_simp
             try with_reducible rfl
           · exact fun L wx hS => hS
           simp only [Act.put, St.pu])
        | (apply St.step_into
           · rfl
           · intro wx
             go_simp
             exact ⟨rfl, rfl⟩
           · exact fun L wx hS hcl hrd => cs wx hS
           simp only [Act.put, St.pu]))
      refine St.step_last ?_
      intro L wx hS _
      clear cs hca hcb
      go_wp2_with fail
      go_roundw
      case rel => exact ⟨k + 1, by omega, by go_num, hbw.trans (hS.mono hz)⟩
      case measure => simp [intOf]; omega
    · obtain rfl : k = n := by omega
      go_wp2_with fail
      go_ret
      exact ⟨rfl, hbw⟩
end Go.Proofs.YthcmnkmfhgoddaaGreatDoor.Ss

namespace Go.Proofs.YthcmnkmfhgoddaaGreatDoor.Dp
open Go.RowKit Bnd
open Go.Proofs.YthcmnkmfhgoddaaGreatDoor.O (Bd isB keyB hasB nextB lt)
open Go.Proofs.YthcmnkmfhgoddaaGreatDoor.Ds (De SM dv sameD)
open Go.Proofs.YthcmnkmfhgoddaaGreatDoor.Ss (Ses Zs ses SZ PZ NoP)
open Go.Proofs.YthcmnkmfhgoddaaGreatDoor.Od (Pr SP)
open Go.Proofs.YthcmnkmfhgoddaaGreatDoor.Sf (kl Up getP)
set_option maxHeartbeats 4000000 in
set_option maxRecDepth 100000 in
theorem rints_yes (va vb : Value) (ns : List Int) (w : World) (hva : SI w w.heap.size va ns) (hvb : SI w w.heap.size vb ns) (hl : ns.length <= 140737488355328) :
  Calls Tryz.prog 76 #[va, vb] w fun e w' => e = .returned (.bool true) /\ Below w.heap.size w w' := by
 obtain ⟨A, c, rfl⟩ := hva.form
 obtain ⟨D, d, rfl⟩ := hvb.form
 obtain ⟨N, hN⟩ : ∃ N, ns.length = N := ⟨_, rfl⟩
 have HN := Lib.hid hN
 have HV := Lib.hid hva
 have HW := Lib.hid hvb
 rw [hN] at hl ⊢
 clear hN hva hvb
 go_enter Tryz.func76, Tryz.ntmps76
 go_wp2_with fail
 go_loopw [5] (fun vi wr => ∃ k : Nat, k <= N /\ vi = .int .i64 (k : Int) /\ Below w.heap.size w wr) (fun vi _ => N - (intOf vi).toNat)
 case atStart => exact ⟨0, Nat.zero_le _, rfl, Below.refl _ _⟩
 case round =>
  obtain ⟨k, hk, rfl, hbw⟩ := hrel
  by_cases hlt : k < N
  ·have hkx : k < ns.length := by rw [HN.out]; exact hlt
   have hv1 := HV.out.below hbw
   have hv2 := HW.out.below hbw
   rw [HN.out] at hv1 hv2
   obtain ⟨b, o, rfl, hb, q⟩ := hv1.at_ hkx
   obtain ⟨b2, o2, rfl, hb2, q2⟩ := hv2.at_ hkx
   obtain ⟨y, hy⟩ : ∃ y, ns[k] = y := ⟨_, rfl⟩
   rw [hy] at q q2
   have k0 : (0 <= (k : Int)) = True := eq_true (by omega)
   have k1 : ((k : Int) < (N : Int)) = True := eq_true (by omega)
   have hk1 : (k : Int) < (N : Int) := by omega
   have hz := hbw.size
   have hbz : b < wr.heap.size := by omega
   have hbz2 : b2 < wr.heap.size := by omega
   clear hv1 hv2 hy hkx
   go_wp2_with fail
   go_quiet (fail)
   go_wp2_with fail
   go_roundw
   case rel => exact ⟨k + 1, by omega, by go_num, below_drewN hbw _⟩
   case measure => simp [intOf]; omega
  ·obtain rfl : k = N := by omega
   go_wp2_with fail
   go_ret
   exact ⟨rfl, hbw⟩
set_option maxHeartbeats 4000000 in
set_option maxRecDepth 100000 in
theorem rget_any (o : Ph) (key : ByteArray) (w : World) (h : HP w w.heap.size o) (hf : FitP o) :
  Calls Tryz.prog 30 #[qv o, .string key] w fun e w' => e = .returned (gotV (getP o.ps key)) /\ Below w.heap.size w w' := by
 have HV := Lib.hid h.sp
 have hfp := hf.ps
 have B0 := BoxP.new w o
 have hb0 : Below w.heap.size w (w.alloc (.cells #[.int .i64 o.d.id, .string o.d.f, .string o.d.t, .int .i64 o.d.gen, o.sm, .int .i64 o.d.next, o.sp, o.sz, .bool o.fr, o.se, .int .i64 o.al] 38)) := (Below.refl _ w).alloc (Nat.le_refl _) _
 obtain ⟨W0, hW0⟩ : ∃ W0, w.alloc (.cells #[.int .i64 o.d.id, .string o.d.f, .string o.d.t, .int .i64 o.d.gen, o.sm, .int .i64 o.d.next, o.sp, o.sz, .bool o.fr, o.se, .int .i64 o.al] 38) = W0 := ⟨_, rfl⟩
 rw [hW0] at B0 hb0
 obtain ⟨d, ps, zs, fr, ea, al, A, B', C, D, a, b, c, e', rfl⟩ := h.open
 simp only at HV hfp B0 hb0 hW0 ⊢
 obtain ⟨r, hR⟩ : ∃ r, getP ps key = r := ⟨_, rfl⟩
 rw [hR]
 have HR := Lib.hid hR
 obtain ⟨n1, hn1⟩ : ∃ n, d.ms.length = n := ⟨_, rfl⟩
 obtain ⟨n2, hn2⟩ : ∃ n, ps.length = n := ⟨_, rfl⟩
 obtain ⟨n3, hn3⟩ : ∃ n, zs.length = n := ⟨_, rfl⟩
 obtain ⟨n4, hn4⟩ : ∃ n, ea.length = n := ⟨_, rfl⟩
 rw [hn1] at B0 hW0
 rw [hn2] at HV B0 hfp hW0
 rw [hn3] at B0 hW0
 rw [hn4] at B0 hW0
 simp only [qv, hn1, hn2, hn3, hn4]
 have HN := Lib.hid hn2
 clear hn1 hn2 hn3 hn4 h hf hR
 go_enter Tryz.func30, Tryz.ntmps30
 go_wp2_with fail
 try rw [hW0]
 clear hW0
 go_loopw [6] (fun vi wr => ∃ k : Nat, k <= n2 /\ vi = .int .i64 (k : Int) /\ Hid (getP (ps.drop k) key = r) /\ wr = W0) (fun vi _ => n2 - (intOf vi).toNat)
 case atStart => exact ⟨0, Nat.zero_le _, rfl, Lib.hid (by simpa using HR.out), rfl⟩
 case round =>
  obtain ⟨k, hk, rfl, HG, rfl⟩ := hrel
  obtain ⟨p_0, ⟨p_1, p_2, p_3, p_4, p_5, p_6, p_7, p_8, p_9, p_10, p_11⟩, p_12⟩ := _root_.id B0
  by_cases hlt : k < n2
  ·have hkx : k < ps.length := by rw [HN.out]; exact hlt
   have hv1 := HV.out.below hb0
   rw [<- HN.out] at hv1
   obtain ⟨bb, oo, rfl, hb, q0, q1⟩ := hv1.at_ hkx
   have hg := HG.out
   rw [List.drop_eq_getElem_cons hkx, getP] at hg
   obtain ⟨⟨x, y⟩, hx⟩ : ∃ y, ps[k] = y := ⟨_, rfl⟩
   rw [hx] at q0 q1 hg
   simp only at q0 q1 hg
   have k0 : (0 <= (k : Int)) = True := eq_true (by omega)
   have k1 : ((k : Int) < (n2 : Int)) = True := eq_true (by omega)
   clear hv1 hx hkx
   by_cases h1 : x = key
   ·rw [if_pos h1] at hg
    have l1 : (x.toList == key.toList) = true := by rw [h1]; simp
    have HG2 := Lib.hid hg
    clear hg h1
    go_wp2_with fail
    go_ret2
    exact ⟨by rw [<- HG2.out]; rfl, hb0⟩
   ·rw [if_neg h1] at hg
    have l1 : (x.toList == key.toList) = false := by rw [beq_eq_false_iff_ne]; exact fun h => h1 ((Od.ba_iff x key).1 h)
    have l2 : (x.toList = key.toList) = False := eq_false fun h => h1 ((Od.ba_iff x key).1 h)
    have HG2 := Lib.hid hg
    clear hg h1
    go_wp2_with fail
    go_roundw
    case rel => exact ⟨k + 1, by omega, by go_num, HG2, by trivial⟩
    case measure => simp [intOf]; omega
  ·obtain rfl : k = n2 := by omega
   have hg := HG.out
   rw [List.drop_of_length_le (by have := HN.out; omega)] at hg
   have HG2 := Lib.hid hg
   clear hg
   go_wp2_with fail
   go_ret2
   exact ⟨by rw [<- HG2.out]; rfl, hb0⟩
structure FewP (o : Ph) : Prop where
 ms : o.d.ms.length <= 1000000
 ps : o.ps.length <= 1000000
 zs : o.zs.length <= 1000000
 ea : o.ea.length <= 1000000
set_option maxHeartbeats 8000000 in
set_option maxRecDepth 100000 in
theorem rsame_yes (a b : Ph) (w : World) (ha : HP w w.heap.size a) (hb : HP w w.heap.size b) (he : a.pl = b.pl) (na : NoP a.zs) (nb : NoP b.zs) (fa : FewP a) :
  Calls Tryz.prog 27 #[qv a, qv b] w fun e w' => e = .returned (.bool true) /\ Below w.heap.size w w' := by
 have hd : b.d = a.d := (congrArg Pl.d he).symm
 have hps : b.ps = a.ps := (congrArg Pl.ps he).symm
 have hss : ses a.zs = ses b.zs := congrArg Pl.ss he
 have hfr : b.fr = a.fr := (congrArg Pl.fr he).symm
 have hea : b.ea = a.ea := (congrArg Pl.ea he).symm
 have hal : b.al = a.al := (congrArg Pl.al he).symm
 have hzl : b.zs.length = a.zs.length := by have := congrArg List.length hss; simpa using this.symm
 have KD := fun w' (h : Below w.heap.size w w') => Ds.rsame_any a.d b.d a.sm b.sm w' ((ha.below h).more h.size).sm ((hb.below h).more h.size).sm (by have := fa.ms; omega) (by rw [hd]; have := fa.ms; omega)
 have KP := fun w' (h : Below w.heap.size w w') => Od.pairs_any a.sp b.sp a.ps b.ps w' ((ha.below h).more h.size).sp ((hb.below h).more h.size).sp (by have := fa.ps; omega) (by rw [hps]; have := fa.ps; omega)
 have KS := fun w' (h : Below w.heap.size w w') => Ss.rsame_yes a.sz b.sz a.zs b.zs w' ((ha.below h).more h.size).sz ((hb.below h).more h.size).sz na nb hss fa.zs
 have KE := fun w' (h : Below w.heap.size w w') => rints_yes a.se b.se a.ea w' ((ha.below h).more h.size).se (by have := ((hb.below h).more h.size).se; rwa [hea] at this) (by have := fa.ea; omega)
 rw [hd, (Ds.sameD_iff a.d a.d).2 rfl] at KD
 rw [hps, decide_eq_true rfl] at KP
 obtain ⟨d1, ps1, zs1, fr1, ea1, al1, A1, B1, C1, D1, a1, b1, c1, e1, rfl⟩ := ha.open
 obtain ⟨d2, ps2, zs2, fr2, ea2, al2, A2, B2, C2, D2, a2, b2, c2, e2, rfl⟩ := hb.open
 simp only at hd hps hfr hea hal hzl KD KP KS KE ⊢
 subst hd hps hfr hea hal
 simp only [qv]
 rw [hzl] at KS ⊢
 obtain ⟨n1, hn1⟩ : ∃ n, d2.ms.length = n := ⟨_, rfl⟩
 obtain ⟨n2, hn2⟩ : ∃ n, ps2.length = n := ⟨_, rfl⟩
 obtain ⟨n3, hn3⟩ : ∃ n, zs1.length = n := ⟨_, rfl⟩
 obtain ⟨n4, hn4⟩ : ∃ n, ea2.length = n := ⟨_, rfl⟩
 rw [hn1] at KD ⊢
 rw [hn2] at KP ⊢
 rw [hn3] at KS ⊢
 rw [hn4] at KE ⊢
 obtain ⟨W0, hW0⟩ : ∃ W0, (w.alloc (.cells #[.int .i64 d2.id, .string d2.f, .string d2.t, .int .i64 d2.gen, .slice A1 n1 a1, .int .i64 d2.next, .slice B1 n2 b1, .slice C1 n3 c1, .bool fr2, .slice D1 n4 e1, .int .i64 al2] 38)).alloc (.cells #[.int .i64 d2.id, .string d2.f, .string d2.t, .int .i64 d2.gen, .slice A2 n1 a2, .int .i64 d2.next, .slice B2 n2 b2, .slice C2 n3 c2, .bool fr2, .slice D2 n4 e2, .int .i64 al2] 38) = W0 := ⟨_, rfl⟩
 have X0 : BoxP w.heap.size ⟨d2, .slice A1 n1 a1, ps2, .slice B1 n2 b1, zs1, .slice C1 n3 c1, fr2, ea2, .slice D1 n4 e1, al2⟩ W0 := hW0 ▸ (BoxP.new w ⟨d2, .slice A1 n1 a1, ps2, .slice B1 n2 b1, zs1, .slice C1 n3 c1, fr2, ea2, .slice D1 n4 e1, al2⟩).alloc _
 have Y0 : BoxP (w.heap.size + 1) ⟨d2, .slice A2 n1 a2, ps2, .slice B2 n2 b2, zs2, .slice C2 n3 c2, fr2, ea2, .slice D2 n4 e2, al2⟩ W0 := by
  have := BoxP.new (w.alloc (.cells #[.int .i64 d2.id, .string d2.f, .string d2.t, .int .i64 d2.gen, .slice A1 n1 a1, .int .i64 d2.next, .slice B1 n2 b1, .slice C1 n3 c1, .bool fr2, .slice D1 n4 e1, .int .i64 al2] 38)) ⟨d2, .slice A2 n1 a2, ps2, .slice B2 n2 b2, zs2, .slice C2 n3 c2, fr2, ea2, .slice D2 n4 e2, al2⟩
  rw [World.size_alloc] at this
  exact hW0 ▸ this
 have hb0 : Below w.heap.size w W0 := by rw [<- hW0]; exact ((Below.refl _ w).alloc (Nat.le_refl _) _).alloc (by simp) _
 have H0 := Lib.hid hW0
 clear hn1 hn2 hn3 hn4 ha hb he na nb fa hss hzl hW0
 go_enter Tryz.func27, Tryz.ntmps27
 obtain ⟨p_0, ⟨p_1, p_2, p_3, p_4, p_5, p_6, p_7, p_8, p_9, p_10, p_11⟩, p_12⟩ := _root_.id X0
 obtain ⟨q_0, ⟨q_1, q_2, q_3, q_4, q_5, q_6, q_7, q_8, q_9, q_10, q_11⟩, q_12⟩ := _root_.id Y0
 go_wp2_with fail
 try rw [H0.out]
 clear H0
 refine (KD _ hb0).mono ?_
 rintro e w1 ⟨rfl, b⟩
 have X1 := X0.keep b
 have Y1 := Y0.keep b
 have hb1 := hb0.trans (b.mono hb0.size)
 clear p_0 p_1 p_2 p_3 p_4 p_5 p_6 p_7 p_8 p_9 p_10 p_11 p_12
 clear q_0 q_1 q_2 q_3 q_4 q_5 q_6 q_7 q_8 q_9 q_10 q_11 q_12
 clear b X0 Y0 KD
 obtain ⟨p_0, ⟨p_1, p_2, p_3, p_4, p_5, p_6, p_7, p_8, p_9, p_10, p_11⟩, p_12⟩ := _root_.id X1
 obtain ⟨q_0, ⟨q_1, q_2, q_3, q_4, q_5, q_6, q_7, q_8, q_9, q_10, q_11⟩, q_12⟩ := _root_.id Y1
 go_wp2_with fail
 refine (KP _ hb1).mono ?_
 rintro e w2 ⟨rfl, b⟩
 have X2 := X1.keep b
 have Y2 := Y1.keep b
 have hb2 := hb1.trans (b.mono hb1.size)
 clear p_0 p_1 p_2 p_3 p_4 p_5 p_6 p_7 p_8 p_9 p_10 p_11 p_12
 clear q_0 q_1 q_2 q_3 q_4 q_5 q_6 q_7 q_8 q_9 q_10 q_11 q_12
 clear b X1 Y1 KP
 obtain ⟨p_0, ⟨p_1, p_2, p_3, p_4, p_5, p_6, p_7, p_8, p_9, p_10, p_11⟩, p_12⟩ := _root_.id X2
 obtain ⟨q_0, ⟨q_1, q_2, q_3, q_4, q_5, q_6, q_7, q_8, q_9, q_10, q_11⟩, q_12⟩ := _root_.id Y2
 go_wp2_with fail
 refine (KS _ hb2).mono ?_
 rintro e w3 ⟨rfl, b⟩
 have X3 := X2.keep b
 have Y3 := Y2.keep b
 have hb3 := hb2.trans (b.mono hb2.size)
 clear p_0 p_1 p_2 p_3 p_4 p_5 p_6 p_7 p_8 p_9 p_10 p_11 p_12
 clear q_0 q_1 q_2 q_3 q_4 q_5 q_6 q_7 q_8 q_9 q_10 q_11 q_12
 clear b X2 Y2 KS
 obtain ⟨p_0, ⟨p_1, p_2, p_3, p_4, p_5, p_6, p_7, p_8, p_9, p_10, p_11⟩, p_12⟩ := _root_.id X3
 obtain ⟨q_0, ⟨q_1, q_2, q_3, q_4, q_5, q_6, q_7, q_8, q_9, q_10, q_11⟩, q_12⟩ := _root_.id Y3
 go_wp2_with fail
 refine (KE _ hb3).mono ?_
 rintro e w4 ⟨rfl, b⟩
 have X4 := X3.keep b
 have Y4 := Y3.keep b
 have hb4 := hb3.trans (b.mono hb3.size)
 clear p_0 p_1 p_2 p_3 p_4 p_5 p_6 p_7 p_8 p_9 p_10 p_11 p_12
 clear q_0 q_1 q_2 q_3 q_4 q_5 q_6 q_7 q_8 q_9 q_10 q_11 q_12
 clear b X3 Y3 KE
 obtain ⟨p_0, ⟨p_1, p_2, p_3, p_4, p_5, p_6, p_7, p_8, p_9, p_10, p_11⟩, p_12⟩ := _root_.id X4
 obtain ⟨q_0, ⟨q_1, q_2, q_3, q_4, q_5, q_6, q_7, q_8, q_9, q_10, q_11⟩, q_12⟩ := _root_.id Y4
 go_wp2_with fail
 go_ret
 exact ⟨rfl, hb4⟩
end Go.Proofs.YthcmnkmfhgoddaaGreatDoor.Dp

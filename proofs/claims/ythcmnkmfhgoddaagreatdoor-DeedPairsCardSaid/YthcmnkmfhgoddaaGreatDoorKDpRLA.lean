/-
  Do and Set, the document's: one change done upon pairs. Condition: at most 90,000 pairs.
  Scan with a limit, the document's. Condition: at most 100,000 pairs.
-/
import Derived.Test.YthcmnkmfhgoddaaGreatDoorKDpScA
import Derived.Test.YthcmnkmfhgoddaaGreatDoorKDpRepA
import Derived.Test.YthcmnkmfhgoddaaGreatDoorKSfA
import Derived.Test.YthcmnkmfhgoddaaGreatDoorKDpHHA
import Derived.BigQuiet
namespace Go.Proofs.YthcmnkmfhgoddaaGreatDoor.Dp
open Go.RowKit Bnd
open Go.Proofs.YthcmnkmfhgoddaaGreatDoor.Od (Pr SP OwnP ArgP)
open Go.Proofs.YthcmnkmfhgoddaaGreatDoor.Sf (Ch doP put kl)
open Go.Proofs.YthcmnkmfhgoddaaGreatDoor.O (lt)
theorem ArgP.none_zero {w : World} {n c : Nat} {l : List Pr} (h : ArgP w (.slice none n c) l) : n = 0 /\ c = 0 := by
 cases h
 exact ⟨rfl, rfl⟩
theorem argP_front {w : World} {A : Option Addr} {n c k : Nat} {l : List Pr} (h : ArgP w (.slice A n c) l) (hk : k <= n) : ArgP w (.slice A k c) (l.take k) := by
 obtain ⟨A', c', e, hq⟩ := h.sm
 injection e with e1 e2 e3
 subst e1 e2 e3
 have hl : (l.take k).length = k := by simp; omega
 by_cases h0 : k = 0
 ·subst h0
  rw [List.take_zero]
  cases A with
  | none => obtain ⟨_, rfl⟩ := ArgP.none_zero h; exact .nil
  | some a => exact .empty a c
 ·obtain ⟨b, o, rfl, hb, hc⟩ := hq (by omega)
  have key : ArgP w (.slice (some ⟨b, o, none⟩) (l.take k).length c) (l.take k) := .some b o c _ ⟨_, _, rfl, fun _ => ⟨b, o, rfl, hb, fun i hi => by rw [List.getElem_take]; exact hc i (by omega)⟩⟩
  rwa [hl] at key
theorem slice_frontP (A : Option Addr) (N c K : Nat) (h : K <= N) (hc : N <= c) : ∀ w : World, (Instr.slice 34 (.slice A N c) none (some (.int .i64 (K : Int))) none).run Tryz.prog w = .ok (.slice A K c) w := by
 intro w
 have k2 : (0 <= (K : Int)) = True := eq_true (by omega)
 by_cases h0 : c = 0
 ·simp [go_sem, Tryz.underlying34, Tryz.sizeOf85, k2, h0]
  omega
 ·have k1 : ((K : Int) <= (c : Int)) = True := eq_true (by omega)
  have k3 : (c = 0) = False := eq_false h0
  cases A <;> simp [go_sem, Tryz.underlying34, Tryz.sizeOf85, k1, k2, k3] <;> omega
theorem slice_tailQ (A : Option Addr) (N c K : Nat) (h : K <= N) (hc : N <= c) : ∃ A2, (∀ w : World, (Instr.slice 34 (.slice A N c) (some (.int .i64 (K : Int))) none none).run Tryz.prog w = .ok (.slice A2 (N - K) (c - K)) w) /\
  (∀ (w : World) (ns : List Pr), ArgP w (.slice A N c) ns -> ArgP w (.slice A2 (N - K) (c - K)) (ns.drop K)) := by
 refine ⟨if c = K then A else A.map (fun a => a.add (K * 2)), fun w => ?_, fun w ns ha => ?_⟩
 ·have k1 : ((K : Int) <= (N : Int)) = True := eq_true (by omega)
  have k2 : (0 <= (K : Int)) = True := eq_true (by omega)
  simp [go_sem, Tryz.underlying34, Tryz.sizeOf85, k1, k2]
 ·obtain ⟨A', c', e, hq⟩ := ha.sm
  injection e with e1 e2 e3
  subst e1 e3
  by_cases hck : c = K
  ·rw [if_pos hck, List.drop_of_length_le (by omega), show N - K = 0 by omega, show c - K = 0 by omega]
   cases A with
   | none => exact .nil
   | some ad => exact .empty ad 0
  ·rw [if_neg hck]
   cases A with
   | none =>
    obtain ⟨rfl, rfl⟩ := ArgP.none_zero ha
    omega
   | some ad =>
    by_cases h0 : N - K = 0
    ·rw [h0, List.drop_of_length_le (by omega)]
     exact .empty _ _
    ·obtain ⟨b, o, e5, hb, hcc⟩ := hq (by omega)
     cases e5
     have hl : (ns.drop K).length = N - K := by rw [List.length_drop]; omega
     have key : ArgP w (.slice (some ⟨b, o + K * 2, none⟩) (ns.drop K).length (c - K)) (ns.drop K) := .some b (o + K * 2) _ _ ⟨_, _, rfl, fun _ => ⟨b, o + K * 2, rfl, hb, fun i hi => by
      have hh := hcc (K + i) (by rw [hl] at hi; omega)
      rw [List.getElem_drop, Nat.add_assoc, <- Nat.add_mul]
      exact hh⟩⟩
     rw [hl] at key
     simpa [Addr.add_lit] using key
theorem do_at {ps : List Pr} {c : Ch} {K : Nat} (hK : K <= ps.length) (h1 : ∀ i (h : i < ps.length), i < K -> kl ps[i].1 c.k = true) (h2 : ∀ h : K < ps.length, kl ps[K].1 c.k = false) {J : Nat}
  (hJ : (∃ h : K < ps.length, ps[K].1 = c.k /\ J = K + 1) \/ (∀ h : K < ps.length, ps[K].1 ≠ c.k) /\ J = K) : doP ps c = ps.take K ++ put c ++ ps.drop J := by
 rw [Sf.do_cut c ps K hK h1 h2, List.append_assoc]
 rcases hJ with ⟨h, e, rfl⟩ | ⟨h, rfl⟩
 ·rw [dif_pos h, if_pos e]
 ·by_cases hlt : J < ps.length
  ·rw [dif_pos hlt, if_neg (h hlt)]
  ·rw [dif_neg hlt, List.drop_of_length_le (by omega)]
set_option maxHeartbeats 16000000 in
set_option maxRecDepth 100000 in
theorem rdo_any (v : Value) (ps : List Pr) (key val : ByteArray) (gn : Bool) (w : World) (hv : ArgP w v ps) (hr : Room v) (hl : ps.length <= 90000) :
  Calls Tryz.prog 83 #[v, .agg #[.string key, .string val, .bool gn]] w fun e w' => ∃ v', e = .returned v' /\ OwnP w' w.heap.size v' (doP ps ⟨key, val, gn⟩) /\ Below w.heap.size w w' := by
 obtain ⟨A, c, rfl⟩ := hv.form
 have hc : ps.length <= c := hr A _ c rfl
 obtain ⟨N, hN⟩ : ∃ N, ps.length = N := ⟨_, rfl⟩
 have HN := Lib.hid hN
 rw [hN] at hv hc hl ⊢
 have HV := Lib.hid hv
 obtain ⟨W0, hW0⟩ : ∃ W0, w.alloc (.cells #[.string key, .string val, .bool gn] 57) = W0 := ⟨_, rfl⟩
 have hb0 : Below w.heap.size w W0 := hW0 ▸ (Below.refl _ w).alloc (Nat.le_refl _) _
 have hz0 : W0.heap.size = w.heap.size + 1 := by rw [<- hW0]; simp
 have c0 : W0.cell? ⟨w.heap.size, 0, none⟩ = some (.string key) := by rw [<- hW0]; simp [go_sem]
 have c1 : W0.cell? ⟨w.heap.size, 1, none⟩ = some (.string val) := by rw [<- hW0]; simp [go_sem]
 have c2 : W0.cell? ⟨w.heap.size, 2, none⟩ = some (.bool gn) := by rw [<- hW0]; simp [go_sem]
 have cc : ∀ wx, Below W0.heap.size W0 wx -> wx.cell? ⟨w.heap.size, 0, none⟩ = some (.string key) /\ wx.cell? ⟨w.heap.size, 1, none⟩ = some (.string val) /\ wx.cell? ⟨w.heap.size, 2, none⟩ = some (.bool gn) := fun wx hb =>
  ⟨(hb.cell (by show w.heap.size < _; omega)).trans c0, (hb.cell (by show w.heap.size < _; omega)).trans c1, (hb.cell (by show w.heap.size < _; omega)).trans c2⟩
 have CC := Lib.hid cc
 have hs0 := hb0.size
 clear hv hN hr c0 c1 c2 cc hz0
 go_enter Tryz.func83, Tryz.ntmps83
 go_wp2_with (rw [hW0])
 clear hW0
 go_loopw [5] (fun v5 wr => ∃ k : Nat, k <= N /\ v5 = .int .i64 (k : Int) /\ Hid (∀ i (h : i < ps.length), i < k -> kl ps[i].1 key = true) /\ Below W0.heap.size W0 wr) (fun v5 _ => N - (intOf v5).toNat)
 case atStart => exact ⟨0, Nat.zero_le _, rfl, Lib.hid (fun i _ h => by omega), Below.refl _ _⟩
 case round =>
  obtain ⟨k, hk, rfl, HK, hbw⟩ := hrel
  obtain ⟨c0, c1, c2⟩ := CC.out _ hbw
  have hz := hbw.size
  have k0 : (0 <= (k : Int)) = True := eq_true (by omega)
  by_cases hlt : k < N
  rotate_left
  ·have k1 : ((k : Int) < (N : Int)) = False := eq_false (by omega)
   have HJ : Hid ((∃ h : k < ps.length, ps[k].1 = key /\ k = k + 1) \/ (∀ h : k < ps.length, ps[k].1 ≠ key) /\ k = k) := Lib.hid (.inr ⟨fun h => by have := HN.out; omega, rfl⟩)
   have H2 : Hid (∀ h : k < ps.length, kl ps[k].1 key = false) := Lib.hid (fun h => by have := HN.out; omega)
   cases gn with
   | true =>
    have hfr := slice_frontP (A) N c k hk hc
    obtain ⟨A2, hs2, hA2⟩ := slice_tailQ (A) N c k hk hc
    have hdo : doP ps ⟨key, val, true⟩ = ps.take k ++ put ⟨key, val, true⟩ ++ ps.drop (k) := do_at (by rw [HN.out]; exact hk) HK.out H2.out HJ.out
    have HDO := Lib.hid hdo
    have KV := fun wx (h : Below W0.heap.size W0 wx) => HV.out.keep (hb0.trans (h.mono (by omega)))
    have l1 : (ps.take k).length <= 90000 := by simp; have := HN.out; omega
    have l2 : (ps.drop (k)).length <= 90000 := by simp; have := HN.out; omega
    have L1 := Lib.hid l1
    have L2 := Lib.hid l2
    have HHK := Lib.hid hk
    have hs : IntKind.i64.wrap ((k : Int) + 1) = (k : Int) + 1 := by rw [IntKind.wrap_i64]; omega
    clear hdo l1 l2 HJ H2 HK hk
    go_wp2_with fail
    go_quiet (fail)
    go_wp2_with fail
    go_quiet (fail)
    go_wp2_with (at_builtin; refine Od.wpList_append_ps rfl _ _ rfl W0.heap.size _ [] rfl (Od.own_base (Od.own_empty _) hbw.size) (by simp; exact Nat.le_succ_of_le hbw.size) _ (ps.take k) rfl (argP_front (KV _ ((below_drewN hbw _).alloc hbw.size _)) HHK.out) (by have := L1.out; simp only [List.length_nil]; omega) ?_)
    intro v3 w3 O3 b3 _
    have B3 : Below W0.heap.size W0 w3 := ((below_drewN hbw _).alloc hbw.size _).trans b3
    try rw [List.nil_append] at O3
    obtain ⟨A7, c7, hv3⟩ := (SP.of_own O3).form
    obtain ⟨n7, hn7⟩ : ∃ n, (ps.take k).length = n := ⟨_, rfl⟩
    rw [hn7] at hv3
    subst hv3
    have HO3 := Lib.hid O3
    have hz3 := B3.size
    clear O3 b3 hn7 c0 c1 c2
    obtain ⟨c0, c1, c2⟩ := CC.out _ B3
    go_wp2_with (at_builtin; refine Od.wpList_append_ps rfl _ _ rfl W0.heap.size _ (ps.take k) rfl HO3.out hz3 _ (ps.drop (k)) rfl (hA2 _ ps (KV _ B3)) (by have := L1.out; have := L2.out; (try simp only [List.length_append, List.length_singleton]); omega) ?_)
    intro v5 w5 O5 b5 _
    have B5 : Below w.heap.size w w5 := hb0.trans ((B3.trans b5).mono (by omega))
    have O6 : OwnP w5 W0.heap.size v5 (doP ps ⟨key, val, true⟩) := by
     rw [HDO.out]
     simpa [put] using O5
    have HO5 := Lib.hid O6
    clear O5 O6 b5
    go_wp2_with fail
    go_ret
    exact ⟨_, rfl, Od.own_base HO5.out (by omega), B5⟩
   | false =>
    have hfr := slice_frontP (A) N c k hk hc
    obtain ⟨A2, hs2, hA2⟩ := slice_tailQ (A) N c k hk hc
    have hdo : doP ps ⟨key, val, false⟩ = ps.take k ++ put ⟨key, val, false⟩ ++ ps.drop (k) := do_at (by rw [HN.out]; exact hk) HK.out H2.out HJ.out
    have HDO := Lib.hid hdo
    have KV := fun wx (h : Below W0.heap.size W0 wx) => HV.out.keep (hb0.trans (h.mono (by omega)))
    have l1 : (ps.take k).length <= 90000 := by simp; have := HN.out; omega
    have l2 : (ps.drop (k)).length <= 90000 := by simp; have := HN.out; omega
    have L1 := Lib.hid l1
    have L2 := Lib.hid l2
    have HHK := Lib.hid hk
    have hs : IntKind.i64.wrap ((k : Int) + 1) = (k : Int) + 1 := by rw [IntKind.wrap_i64]; omega
    clear hdo l1 l2 HJ H2 HK hk
    go_wp2_with fail
    go_quiet (fail)
    go_wp2_with fail
    go_quiet (fail)
    go_wp2_with (at_builtin; refine Od.wpList_append_ps rfl _ _ rfl W0.heap.size _ [] rfl (Od.own_base (Od.own_empty _) hbw.size) (by simp; exact Nat.le_succ_of_le hbw.size) _ (ps.take k) rfl (argP_front (KV _ ((below_drewN hbw _).alloc hbw.size _)) HHK.out) (by have := L1.out; simp only [List.length_nil]; omega) ?_)
    intro v3 w3 O3 b3 _
    have B3 : Below W0.heap.size W0 w3 := ((below_drewN hbw _).alloc hbw.size _).trans b3
    try rw [List.nil_append] at O3
    obtain ⟨A7, c7, hv3⟩ := (SP.of_own O3).form
    obtain ⟨n7, hn7⟩ : ∃ n, (ps.take k).length = n := ⟨_, rfl⟩
    rw [hn7] at hv3
    subst hv3
    have HO3 := Lib.hid O3
    have hz3 := B3.size
    clear O3 b3 hn7 c0 c1 c2
    obtain ⟨c0, c1, c2⟩ := CC.out _ B3
    go_wp2_with (at_builtin; refine Od.wpList_append_ps rfl _ _ rfl W0.heap.size _ (ps.take k) rfl (Od.own_alloc HO3.out _) (by simp; omega) _ [(key, val)] rfl (argP_one w3 key val) (by have := L1.out; simp only [List.length_singleton]; omega) ?_)
    intro v4 w4 O4 b4 _
    have B4 : Below W0.heap.size W0 w4 := (B3.alloc hz3 _).trans b4
    obtain ⟨A8, c8, hv4⟩ := (SP.of_own O4).form
    obtain ⟨n8, hn8⟩ : ∃ n, (ps.take k ++ [(key, val)]).length = n := ⟨_, rfl⟩
    rw [hn8] at hv4
    subst hv4
    have HO4 := Lib.hid O4
    have hz4 := B4.size
    clear O4 b4 hn8 c0 c1 c2
    go_wp2_with (at_builtin; refine Od.wpList_append_ps rfl _ _ rfl W0.heap.size _ (ps.take k ++ [(key, val)]) rfl HO4.out hz4 _ (ps.drop (k)) rfl (hA2 _ ps (KV _ B4)) (by have := L1.out; have := L2.out; (try simp only [List.length_append, List.length_singleton]); omega) ?_)
    intro v5 w5 O5 b5 _
    have B5 : Below w.heap.size w w5 := hb0.trans ((B4.trans b5).mono (by omega))
    have O6 : OwnP w5 W0.heap.size v5 (doP ps ⟨key, val, false⟩) := by
     rw [HDO.out]
     simpa [put] using O5
    have HO5 := Lib.hid O6
    clear O5 O6 b5
    go_wp2_with fail
    go_ret
    exact ⟨_, rfl, Od.own_base HO5.out (by omega), B5⟩
  ·have k1 : ((k : Int) < (N : Int)) = True := eq_true (by omega)
   have hkx : k < ps.length := by rw [HN.out]; exact hlt
   have hv1 := (HV.out.keep (hb0.trans (hbw.mono (by omega)))).sm
   obtain ⟨b, o, rfl, hb, q0, q1⟩ := hv1.at_ hkx
   obtain ⟨⟨x, y⟩, hx⟩ : ∃ x, ps[k] = x := ⟨_, rfl⟩
   rw [hx] at q0 q1
   simp only at q0 q1
   have HX := Lib.hid hx
   clear hv1 hx
   cases a1 : lt x.toList key.toList with
   | true =>
    have HK2 : Hid (∀ i (h : i < ps.length), i < k + 1 -> kl ps[i].1 key = true) := Lib.hid (fun i h hi => by
     by_cases e : i = k
     ·subst e
      rw [HX.out]
      exact a1
     ·exact HK.out i h (by omega))
    clear HK
    go_wp2_with fail
    go_quiet (fail)
    go_wp2_with fail
    go_roundw
    case rel => exact ⟨k + 1, by omega, by go_num, HK2, by first | exact hbw | exact below_drewN hbw _⟩
    case measure => simp [intOf]; omega
   | false =>
    have H2 : Hid (∀ h : k < ps.length, kl ps[k].1 key = false) := Lib.hid (fun h => by rw [HX.out]; exact a1)
    by_cases he : x = key
    ·have a2 : (x.toList == key.toList) = true := by rw [he]; simp
     have HJ : Hid ((∃ h : k < ps.length, ps[k].1 = key /\ k + 1 = k + 1) \/ (∀ h : k < ps.length, ps[k].1 ≠ key) /\ k + 1 = k) := Lib.hid (.inl ⟨hkx, by rw [HX.out]; exact he, rfl⟩)
     clear he
     cases gn with
     | true =>
      have hfr := slice_frontP (some ⟨b, o, none⟩) N c k hk hc
      obtain ⟨A2, hs2, hA2⟩ := slice_tailQ (some ⟨b, o, none⟩) N c k hk hc
      obtain ⟨A3, hs3, hA3⟩ := slice_tailQ (some ⟨b, o, none⟩) N c (k + 1) hlt hc
      rw [show ((k + 1 : Nat) : Int) = (k : Int) + 1 by omega] at hs3
      have hdo : doP ps ⟨key, val, true⟩ = ps.take k ++ put ⟨key, val, true⟩ ++ ps.drop (k + 1) := do_at (by rw [HN.out]; exact hk) HK.out H2.out HJ.out
      have HDO := Lib.hid hdo
      have KV := fun wx (h : Below W0.heap.size W0 wx) => HV.out.keep (hb0.trans (h.mono (by omega)))
      have l1 : (ps.take k).length <= 90000 := by simp; have := HN.out; omega
      have l2 : (ps.drop (k + 1)).length <= 90000 := by simp; have := HN.out; omega
      have L1 := Lib.hid l1
      have L2 := Lib.hid l2
      have HHK := Lib.hid hk
      have hs : IntKind.i64.wrap ((k : Int) + 1) = (k : Int) + 1 := by rw [IntKind.wrap_i64]; omega
      clear hdo l1 l2 HJ H2 HK hk
      go_wp2_with fail
      go_quiet (fail)
      go_wp2_with fail
      go_quiet (fail)
      go_wp2_with (at_builtin; refine Od.wpList_append_ps rfl _ _ rfl W0.heap.size _ [] rfl (Od.own_base (Od.own_empty _) hbw.size) (by simp; exact Nat.le_succ_of_le hbw.size) _ (ps.take k) rfl (argP_front (KV _ ((below_drewN hbw _).alloc hbw.size _)) HHK.out) (by have := L1.out; simp only [List.length_nil]; omega) ?_)
      intro v3 w3 O3 b3 _
      have B3 : Below W0.heap.size W0 w3 := ((below_drewN hbw _).alloc hbw.size _).trans b3
      try rw [List.nil_append] at O3
      obtain ⟨A7, c7, hv3⟩ := (SP.of_own O3).form
      obtain ⟨n7, hn7⟩ : ∃ n, (ps.take k).length = n := ⟨_, rfl⟩
      rw [hn7] at hv3
      subst hv3
      have HO3 := Lib.hid O3
      have hz3 := B3.size
      clear O3 b3 hn7 c0 c1 c2
      obtain ⟨c0, c1, c2⟩ := CC.out _ B3
      go_wp2_with (at_builtin; refine Od.wpList_append_ps rfl _ _ rfl W0.heap.size _ (ps.take k) rfl HO3.out hz3 _ (ps.drop (k + 1)) rfl (hA3 _ ps (KV _ B3)) (by have := L1.out; have := L2.out; (try simp only [List.length_append, List.length_singleton]); omega) ?_)
      intro v5 w5 O5 b5 _
      have B5 : Below w.heap.size w w5 := hb0.trans ((B3.trans b5).mono (by omega))
      have O6 : OwnP w5 W0.heap.size v5 (doP ps ⟨key, val, true⟩) := by
       rw [HDO.out]
       simpa [put] using O5
      have HO5 := Lib.hid O6
      clear O5 O6 b5
      go_wp2_with fail
      go_ret
      exact ⟨_, rfl, Od.own_base HO5.out (by omega), B5⟩
     | false =>
      have hfr := slice_frontP (some ⟨b, o, none⟩) N c k hk hc
      obtain ⟨A2, hs2, hA2⟩ := slice_tailQ (some ⟨b, o, none⟩) N c k hk hc
      obtain ⟨A3, hs3, hA3⟩ := slice_tailQ (some ⟨b, o, none⟩) N c (k + 1) hlt hc
      rw [show ((k + 1 : Nat) : Int) = (k : Int) + 1 by omega] at hs3
      have hdo : doP ps ⟨key, val, false⟩ = ps.take k ++ put ⟨key, val, false⟩ ++ ps.drop (k + 1) := do_at (by rw [HN.out]; exact hk) HK.out H2.out HJ.out
      have HDO := Lib.hid hdo
      have KV := fun wx (h : Below W0.heap.size W0 wx) => HV.out.keep (hb0.trans (h.mono (by omega)))
      have l1 : (ps.take k).length <= 90000 := by simp; have := HN.out; omega
      have l2 : (ps.drop (k + 1)).length <= 90000 := by simp; have := HN.out; omega
      have L1 := Lib.hid l1
      have L2 := Lib.hid l2
      have HHK := Lib.hid hk
      have hs : IntKind.i64.wrap ((k : Int) + 1) = (k : Int) + 1 := by rw [IntKind.wrap_i64]; omega
      clear hdo l1 l2 HJ H2 HK hk
      go_wp2_with fail
      go_quiet (fail)
      go_wp2_with fail
      go_quiet (fail)
      go_wp2_with (at_builtin; refine Od.wpList_append_ps rfl _ _ rfl W0.heap.size _ [] rfl (Od.own_base (Od.own_empty _) hbw.size) (by simp; exact Nat.le_succ_of_le hbw.size) _ (ps.take k) rfl (argP_front (KV _ ((below_drewN hbw _).alloc hbw.size _)) HHK.out) (by have := L1.out; simp only [List.length_nil]; omega) ?_)
      intro v3 w3 O3 b3 _
      have B3 : Below W0.heap.size W0 w3 := ((below_drewN hbw _).alloc hbw.size _).trans b3
      try rw [List.nil_append] at O3
      obtain ⟨A7, c7, hv3⟩ := (SP.of_own O3).form
      obtain ⟨n7, hn7⟩ : ∃ n, (ps.take k).length = n := ⟨_, rfl⟩
      rw [hn7] at hv3
      subst hv3
      have HO3 := Lib.hid O3
      have hz3 := B3.size
      clear O3 b3 hn7 c0 c1 c2
      obtain ⟨c0, c1, c2⟩ := CC.out _ B3
      go_wp2_with (at_builtin; refine Od.wpList_append_ps rfl _ _ rfl W0.heap.size _ (ps.take k) rfl (Od.own_alloc HO3.out _) (by simp; omega) _ [(key, val)] rfl (argP_one w3 key val) (by have := L1.out; simp only [List.length_singleton]; omega) ?_)
      intro v4 w4 O4 b4 _
      have B4 : Below W0.heap.size W0 w4 := (B3.alloc hz3 _).trans b4
      obtain ⟨A8, c8, hv4⟩ := (SP.of_own O4).form
      obtain ⟨n8, hn8⟩ : ∃ n, (ps.take k ++ [(key, val)]).length = n := ⟨_, rfl⟩
      rw [hn8] at hv4
      subst hv4
      have HO4 := Lib.hid O4
      have hz4 := B4.size
      clear O4 b4 hn8 c0 c1 c2
      go_wp2_with (at_builtin; refine Od.wpList_append_ps rfl _ _ rfl W0.heap.size _ (ps.take k ++ [(key, val)]) rfl HO4.out hz4 _ (ps.drop (k + 1)) rfl (hA3 _ ps (KV _ B4)) (by have := L1.out; have := L2.out; (try simp only [List.length_append, List.length_singleton]); omega) ?_)
      intro v5 w5 O5 b5 _
      have B5 : Below w.heap.size w w5 := hb0.trans ((B4.trans b5).mono (by omega))
      have O6 : OwnP w5 W0.heap.size v5 (doP ps ⟨key, val, false⟩) := by
       rw [HDO.out]
       simpa [put] using O5
      have HO5 := Lib.hid O6
      clear O5 O6 b5
      go_wp2_with fail
      go_ret
      exact ⟨_, rfl, Od.own_base HO5.out (by omega), B5⟩
    ·have a2 : (x.toList == key.toList) = false := by
      rw [beq_eq_false_iff_ne]
      exact fun h => he ((Od.ba_iff x key).1 h)
     have HJ : Hid ((∃ h : k < ps.length, ps[k].1 = key /\ k = k + 1) \/ (∀ h : k < ps.length, ps[k].1 ≠ key) /\ k = k) := Lib.hid (.inr ⟨fun h => by rw [HX.out]; exact he, rfl⟩)
     clear he
     cases gn with
     | true =>
      have hfr := slice_frontP (some ⟨b, o, none⟩) N c k hk hc
      obtain ⟨A2, hs2, hA2⟩ := slice_tailQ (some ⟨b, o, none⟩) N c k hk hc
      have hdo : doP ps ⟨key, val, true⟩ = ps.take k ++ put ⟨key, val, true⟩ ++ ps.drop (k) := do_at (by rw [HN.out]; exact hk) HK.out H2.out HJ.out
      have HDO := Lib.hid hdo
      have KV := fun wx (h : Below W0.heap.size W0 wx) => HV.out.keep (hb0.trans (h.mono (by omega)))
      have l1 : (ps.take k).length <= 90000 := by simp; have := HN.out; omega
      have l2 : (ps.drop (k)).length <= 90000 := by simp; have := HN.out; omega
      have L1 := Lib.hid l1
      have L2 := Lib.hid l2
      have HHK := Lib.hid hk
      have hs : IntKind.i64.wrap ((k : Int) + 1) = (k : Int) + 1 := by rw [IntKind.wrap_i64]; omega
      clear hdo l1 l2 HJ H2 HK hk
      go_wp2_with fail
      go_quiet (fail)
      go_wp2_with fail
      go_quiet (fail)
      go_wp2_with (at_builtin; refine Od.wpList_append_ps rfl _ _ rfl W0.heap.size _ [] rfl (Od.own_base (Od.own_empty _) hbw.size) (by simp; exact Nat.le_succ_of_le hbw.size) _ (ps.take k) rfl (argP_front (KV _ ((below_drewN hbw _).alloc hbw.size _)) HHK.out) (by have := L1.out; simp only [List.length_nil]; omega) ?_)
      intro v3 w3 O3 b3 _
      have B3 : Below W0.heap.size W0 w3 := ((below_drewN hbw _).alloc hbw.size _).trans b3
      try rw [List.nil_append] at O3
      obtain ⟨A7, c7, hv3⟩ := (SP.of_own O3).form
      obtain ⟨n7, hn7⟩ : ∃ n, (ps.take k).length = n := ⟨_, rfl⟩
      rw [hn7] at hv3
      subst hv3
      have HO3 := Lib.hid O3
      have hz3 := B3.size
      clear O3 b3 hn7 c0 c1 c2
      obtain ⟨c0, c1, c2⟩ := CC.out _ B3
      go_wp2_with (at_builtin; refine Od.wpList_append_ps rfl _ _ rfl W0.heap.size _ (ps.take k) rfl HO3.out hz3 _ (ps.drop (k)) rfl (hA2 _ ps (KV _ B3)) (by have := L1.out; have := L2.out; (try simp only [List.length_append, List.length_singleton]); omega) ?_)
      intro v5 w5 O5 b5 _
      have B5 : Below w.heap.size w w5 := hb0.trans ((B3.trans b5).mono (by omega))
      have O6 : OwnP w5 W0.heap.size v5 (doP ps ⟨key, val, true⟩) := by
       rw [HDO.out]
       simpa [put] using O5
      have HO5 := Lib.hid O6
      clear O5 O6 b5
      go_wp2_with fail
      go_ret
      exact ⟨_, rfl, Od.own_base HO5.out (by omega), B5⟩
     | false =>
      have hfr := slice_frontP (some ⟨b, o, none⟩) N c k hk hc
      obtain ⟨A2, hs2, hA2⟩ := slice_tailQ (some ⟨b, o, none⟩) N c k hk hc
      have hdo : doP ps ⟨key, val, false⟩ = ps.take k ++ put ⟨key, val, false⟩ ++ ps.drop (k) := do_at (by rw [HN.out]; exact hk) HK.out H2.out HJ.out
      have HDO := Lib.hid hdo
      have KV := fun wx (h : Below W0.heap.size W0 wx) => HV.out.keep (hb0.trans (h.mono (by omega)))
      have l1 : (ps.take k).length <= 90000 := by simp; have := HN.out; omega
      have l2 : (ps.drop (k)).length <= 90000 := by simp; have := HN.out; omega
      have L1 := Lib.hid l1
      have L2 := Lib.hid l2
      have HHK := Lib.hid hk
      have hs : IntKind.i64.wrap ((k : Int) + 1) = (k : Int) + 1 := by rw [IntKind.wrap_i64]; omega
      clear hdo l1 l2 HJ H2 HK hk
      go_wp2_with fail
      go_quiet (fail)
      go_wp2_with fail
      go_quiet (fail)
      go_wp2_with (at_builtin; refine Od.wpList_append_ps rfl _ _ rfl W0.heap.size _ [] rfl (Od.own_base (Od.own_empty _) hbw.size) (by simp; exact Nat.le_succ_of_le hbw.size) _ (ps.take k) rfl (argP_front (KV _ ((below_drewN hbw _).alloc hbw.size _)) HHK.out) (by have := L1.out; simp only [List.length_nil]; omega) ?_)
      intro v3 w3 O3 b3 _
      have B3 : Below W0.heap.size W0 w3 := ((below_drewN hbw _).alloc hbw.size _).trans b3
      try rw [List.nil_append] at O3
      obtain ⟨A7, c7, hv3⟩ := (SP.of_own O3).form
      obtain ⟨n7, hn7⟩ : ∃ n, (ps.take k).length = n := ⟨_, rfl⟩
      rw [hn7] at hv3
      subst hv3
      have HO3 := Lib.hid O3
      have hz3 := B3.size
      clear O3 b3 hn7 c0 c1 c2
      obtain ⟨c0, c1, c2⟩ := CC.out _ B3
      go_wp2_with (at_builtin; refine Od.wpList_append_ps rfl _ _ rfl W0.heap.size _ (ps.take k) rfl (Od.own_alloc HO3.out _) (by simp; omega) _ [(key, val)] rfl (argP_one w3 key val) (by have := L1.out; simp only [List.length_singleton]; omega) ?_)
      intro v4 w4 O4 b4 _
      have B4 : Below W0.heap.size W0 w4 := (B3.alloc hz3 _).trans b4
      obtain ⟨A8, c8, hv4⟩ := (SP.of_own O4).form
      obtain ⟨n8, hn8⟩ : ∃ n, (ps.take k ++ [(key, val)]).length = n := ⟨_, rfl⟩
      rw [hn8] at hv4
      subst hv4
      have HO4 := Lib.hid O4
      have hz4 := B4.size
      clear O4 b4 hn8 c0 c1 c2
      go_wp2_with (at_builtin; refine Od.wpList_append_ps rfl _ _ rfl W0.heap.size _ (ps.take k ++ [(key, val)]) rfl HO4.out hz4 _ (ps.drop (k)) rfl (hA2 _ ps (KV _ B4)) (by have := L1.out; have := L2.out; (try simp only [List.length_append, List.length_singleton]); omega) ?_)
      intro v5 w5 O5 b5 _
      have B5 : Below w.heap.size w w5 := hb0.trans ((B4.trans b5).mono (by omega))
      have O6 : OwnP w5 W0.heap.size v5 (doP ps ⟨key, val, false⟩) := by
       rw [HDO.out]
       simpa [put] using O5
      have HO5 := Lib.hid O6
      clear O5 O6 b5
      go_wp2_with fail
      go_ret
      exact ⟨_, rfl, Od.own_base HO5.out (by omega), B5⟩
end Go.Proofs.YthcmnkmfhgoddaaGreatDoor.Dp

namespace Go.Proofs.YthcmnkmfhgoddaaGreatDoor.Dp
open Go.RowKit Bnd
open Go.Proofs.YthcmnkmfhgoddaaGreatDoor.Od (Pr SP OwnP ArgP)
open Go.Proofs.YthcmnkmfhgoddaaGreatDoor.Sf (scanP)
theorem lim_none {P S : List Pr} {f t : ByteArray} {lim : Int} {M : Nat} (hs : scanP P f t = S) (hM : (max lim 0).toNat = M) (h : S.length <= M) : limP P f t lim = (S, Od.E0) := by
 unfold limP
 rw [hs, hM, List.getElem?_eq_none h]
theorem lim_one {P S : List Pr} {f t : ByteArray} {lim : Int} {M : Nat} (hs : scanP P f t = S) (hM : (max lim 0).toNat = M) (h : M < S.length) : limP P f t lim = (S.take M, S[M].1) := by
 unfold limP
 rw [hs, hM, List.getElem?_eq_getElem h]
set_option maxHeartbeats 8000000 in
set_option maxRecDepth 100000 in
theorem rlim_any (o : Ph) (f t : ByteArray) (lim : Int) (w : World) (h : HA w o) (hl : o.ps.length <= 100000) (hlim : M.inR lim) :
  Calls Tryz.prog 32 #[qv o, .string f, .string t, .int .i64 lim] w fun e w' => ∃ v, e = .returned (.tuple #[v, .string (limP o.ps f t lim).2]) /\ ArgP w' v (limP o.ps f t lim).1 /\ Below w.heap.size w w' := by
 obtain ⟨d, ps, zs, fr, ea, al, fA, fB, fC, fD, fa, fb, fc, fd, rfl⟩ := h.hp.open
 simp only at hl
 obtain ⟨nm, hnm⟩ : ∃ n, d.ms.length = n := ⟨_, rfl⟩
 obtain ⟨np, hnp⟩ : ∃ n, ps.length = n := ⟨_, rfl⟩
 obtain ⟨nz, hnz⟩ : ∃ n, zs.length = n := ⟨_, rfl⟩
 obtain ⟨ne, hne⟩ : ∃ n, ea.length = n := ⟨_, rfl⟩
 rw [hnm, hnp, hnz, hne] at h ⊢
 obtain ⟨W0, hW0⟩ : ∃ W0, w.alloc (.cells #[.int .i64 d.id, .string d.f, .string d.t, .int .i64 d.gen, .slice fA nm fa, .int .i64 d.next, .slice fB np fb, .slice fC nz fc, .bool fr, .slice fD ne fd, .int .i64 al] 38) = W0 := ⟨_, rfl⟩
 have hb0 : Below w.heap.size w W0 := hW0 ▸ (Below.refl _ w).alloc (Nat.le_refl _) _
 have B0 : BoxP w.heap.size ⟨d, .slice fA nm fa, ps, .slice fB np fb, zs, .slice fC nz fc, fr, ea, .slice fD ne fd, al⟩ W0 := hW0 ▸ BoxP.new w ⟨d, .slice fA nm fa, ps, .slice fB np fb, zs, .slice fC nz fc, fr, ea, .slice fD ne fd, al⟩
 have cs := rscan_any (.slice fB np fb) ps f t W0 (h.keep hb0).hp.sp hl
 obtain ⟨S, hS⟩ : ∃ S, scanP ps f t = S := ⟨_, rfl⟩
 have hSl : S.length <= 100000 := by rw [<- hS]; exact Nat.le_trans (List.length_filter_le _ _) hl
 rw [hS] at cs
 obtain ⟨MM, hM⟩ : ∃ M : Nat, (max lim 0).toNat = M := ⟨_, rfl⟩
 have hMx : max lim 0 = (MM : Int) := by omega
 have hN := fun h => lim_none (lim := lim) hS hM h
 have hO := fun h => lim_one (lim := lim) hS hM h
 have HN := Lib.hid hN
 have HO := Lib.hid hO
 have hfit : (MM : Int) <= 9223372036854775807 := by unfold M.inR at hlim; omega
 obtain ⟨R, hR⟩ : ∃ R, limP ps f t lim = R := ⟨_, rfl⟩
 have HR := Lib.hid hR
 rw [hR]
 clear h hnm hnp hnz hne hl hS hM hN hO hlim hR
 obtain ⟨p_0, ⟨p_1, p_2, p_3, p_4, p_5, p_6, p_7, p_8, p_9, p_10, p_11⟩, p_12⟩ := _root_.id B0
 go_enter Tryz.func32, Tryz.ntmps32
 go_wp2_with (rw [hW0])
 clear hW0
 ((try clear p_0); (try clear p_1); (try clear p_2); (try clear p_3); (try clear p_4); (try clear p_5); (try clear p_6); (try clear p_7); (try clear p_8); (try clear p_9); (try clear p_10); (try clear p_11); (try clear p_12))
 refine cs.mono ?_
 rintro e w1 ⟨v1, rfl, ho1, b1⟩
 obtain ⟨A1, k1, hv1⟩ := (SP.of_own ho1).form
 subst hv1
 have hb1 : Below w.heap.size w w1 := hb0.trans (b1.mono hb0.size)
 obtain ⟨N, hN⟩ : ∃ N, S.length = N := ⟨_, rfl⟩
 rw [hN] at hSl
 by_cases hle : N <= MM
 ·have e1 : ((N : Int) <= (MM : Int)) = True := eq_true (by omega)
  have hlim : R = (S, Od.E0) := by rw [<- HR.out]; exact HN.out (by omega)
  have HLM := Lib.hid hlim
  have HO1 := Lib.hid (ArgP.of_own ho1)
  rw [hN] at HO1 ⊢
  clear cs ho1 hlim hN B0
  go_wp2_with fail
  go_ret2
  exact ⟨_, by rw [HLM.out]; rfl, by rw [HLM.out]; exact HO1.out, hb1⟩
 ·have e1 : ((N : Int) <= (MM : Int)) = False := eq_false (by omega)
  have hlt : MM < S.length := by omega
  have hlim : R = (S.take MM, S[MM].1) := by rw [<- HR.out]; exact HO.out hlt
  have ha1 := ArgP.of_own ho1
  obtain ⟨b, o, hA1, hb, q0, q1⟩ := ha1.sm.at_ hlt
  subst hA1
  obtain ⟨⟨x, y⟩, hx⟩ : ∃ x, S[MM] = x := ⟨_, rfl⟩
  rw [hx] at q0 q1 hlim
  simp only at q0 q1 hlim
  have HLM := Lib.hid hlim
  have hkc : N <= k1 := by
   have := Room.own ho1
   have := this _ _ _ rfl
   omega
  rw [hN] at ha1 ⊢
  have HA1 := Lib.hid (argP_front ha1 (k := MM) (by omega))
  have f1 : ((MM : Int) <= (k1 : Int)) = True := eq_true (by omega)
  have f2 : (0 <= (MM : Int)) = True := eq_true (by omega)
  have f3 : ((MM : Int) < (N : Int)) = True := eq_true (by omega)
  clear cs ho1 hlim B0 ha1
  go_wp2_with fail
  go_quiet (fail)
  go_wp2_with fail
  go_ret2
  exact ⟨_, by rw [HLM.out]; rfl, by rw [HLM.out]; exact HA1.out.keep (below_drewN (Below.refl _ _) _), below_drewN hb1 _⟩
end Go.Proofs.YthcmnkmfhgoddaaGreatDoor.Dp

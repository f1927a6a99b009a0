/-
  Whether a plot may be, the program's: areEaten, arePairs, Check. Conditions: lengths at most 2^47.
  Where a key stands in a plot's pairs (sort.Search at place's closure), and Get, the program's. Conditions: rising keys; lengths at most 2^47.
-/
import Derived.Test.YthcmnkmfhgoddaaGreatDoorKDpMA
import Derived.Test.YthcmnkmfhgoddaaGreatDoorKSsBoA
namespace Go.Proofs.YthcmnkmfhgoddaaGreatDoor.Dp
open Go.RowKit Bnd
open Go.Proofs.YthcmnkmfhgoddaaGreatDoor.O (Bd isB keyB hasB nextB lt lt_tri lt_irrefl lt_asymm)
open Go.Proofs.YthcmnkmfhgoddaaGreatDoor.Ds (De SM isD chkD dv)
open Go.Proofs.YthcmnkmfhgoddaaGreatDoor.Ss (Ses Zs ses SZ PZ NoP isS chkS)
open Go.Proofs.YthcmnkmfhgoddaaGreatDoor.Od (Pr SP amongB)
set_option maxHeartbeats 8000000 in
set_option maxRecDepth 100000 in
theorem areEaten_any (v : Value) (ns : List Int) (w : World) (hv : SI w w.heap.size v ns) (hl : ns.length <= 140737488355328) :
  Calls Tryz.prog 87 #[v] w fun e w' => e = .returned (.bool (eatB ns)) /\ Below w.heap.size w w' := by
 obtain ⟨A, c, rfl⟩ := hv.form
 obtain ⟨N, hN⟩ : ∃ N, ns.length = N := ⟨_, rfl⟩
 have HN := Lib.hid hN
 have HV := Lib.hid hv
 rw [hN] at hl ⊢
 by_cases h200 : N <= 200
 rotate_left
 ·have hr : eatB ns = false := by unfold eatB; rw [hN]; simp [h200]
  rw [hr]
  have g1 : ((N : Int) > 200) = True := eq_true (by omega)
  clear h200 hr hN hv
  go_enter Tryz.func87, Tryz.ntmps87
  go_wp2_with fail
  go_ret
  exact ⟨rfl, Below.refl _ _⟩
 have hr : eatB ns = goE 0 ns := by unfold eatB; rw [hN]; simp [h200]
 rw [hr]
 obtain ⟨r, hR⟩ : ∃ r, goE 0 ns = r := ⟨_, rfl⟩
 rw [hR]
 have HR := Lib.hid hR
 have g1 : ((N : Int) > 200) = False := eq_false (by omega)
 clear hr hN hv hR
 go_enter Tryz.func87, Tryz.ntmps87
 go_wp2_with fail
 go_loopw [2, 3, 5, 11] (fun v2 v3 _ vi wr => ∃ (k : Nat) (last : Int), k <= N /\ v2 = .bool false /\ vi = .int .i64 (k : Int) /\ v3 = .int .i64 last /\ Hid (goE last (ns.drop k) = r) /\ wr = w) (fun _ _ _ vi _ => N - (intOf vi).toNat)
 case atStart => exact ⟨0, 0, Nat.zero_le _, rfl, rfl, rfl, Lib.hid (by simpa using HR.out), rfl⟩
 case round =>
  obtain ⟨k, last, hk, rfl, rfl, rfl, HG, rfl⟩ := hrel
  by_cases hlt : k < N
  ·have hkx : k < ns.length := by rw [HN.out]; exact hlt
   have hv1 := HV.out
   rw [HN.out] at hv1
   obtain ⟨b, o, rfl, hb, q⟩ := hv1.at_ hkx
   have hg := HG.out
   rw [List.drop_eq_getElem_cons hkx, goE] at hg
   obtain ⟨x, hx⟩ : ∃ x, ns[k] = x := ⟨_, rfl⟩
   rw [hx] at q hg
   have k0 : (0 <= (k : Int)) = True := eq_true (by omega)
   have k1 : ((k : Int) < (N : Int)) = True := eq_true (by omega)
   clear hv1 hx hkx
   by_cases h1 : last < x
   rotate_left
   ·rw [if_neg (by omega)] at hg
    have l1 : (x <= last) = True := eq_true (by omega)
    have HG2 := Lib.hid hg
    clear hg h1
    go_wp2_with fail
    go_ret
    exact ⟨by rw [<- HG2.out]; rfl, Below.refl _ _⟩
   have l1 : (x <= last) = False := eq_false (by omega)
   by_cases h2 : x <= 1099511627776
   rotate_left
   ·rw [if_neg (by omega)] at hg
    have l2 : (x > 1099511627776) = True := eq_true (by omega)
    have HG2 := Lib.hid hg
    clear hg h1 h2
    go_wp2_with fail
    go_ret
    exact ⟨by rw [<- HG2.out]; rfl, Below.refl _ _⟩
   rw [if_pos ⟨h1, h2⟩] at hg
   have l2 : (x > 1099511627776) = False := eq_false (by omega)
   have HG2 := Lib.hid hg
   clear hg h1 h2
   go_wp2_with fail
   go_roundw
   case rel => exact ⟨k + 1, x, by omega, rfl, by go_num, rfl, HG2, by trivial⟩
   case measure => simp [intOf]; omega
  ·obtain rfl : k = N := by omega
   have hg := HG.out
   rw [List.drop_of_length_le (by have := HN.out; omega)] at hg
   have HG2 := Lib.hid hg
   clear hg
   go_wp2_with fail
   go_ret
   exact ⟨by rw [<- HG2.out]; rfl, Below.refl _ _⟩
set_option maxHeartbeats 8000000 in
set_option maxRecDepth 100000 in
theorem arePairs_any (v : Value) (ps : List Pr) (f t : ByteArray) (w : World) (hv : SP w w.heap.size v ps) (hl : ps.length <= 140737488355328) (hz : ∀ p ∈ ps, p.1.size <= 140737488355328 /\ p.2.size <= 140737488355328) :
  Calls Tryz.prog 86 #[v, bd f t] w fun e w' => e = .returned (.bool (goP (B f t) [] ps)) /\ Below w.heap.size w w' := by
 obtain ⟨A, c, rfl⟩ := hv.form
 obtain ⟨N, hN⟩ : ∃ N, ps.length = N := ⟨_, rfl⟩
 have HN := Lib.hid hN
 have HV := Lib.hid hv
 rw [hN] at hl ⊢
 obtain ⟨r, hR⟩ : ∃ r, goP (B f t) [] ps = r := ⟨_, rfl⟩
 rw [hR]
 have HR := Lib.hid hR
 have cK := fun k w hk => key_any k w hk
 have cH := fun k w => has_any f t k w
 clear hN hv hR
 go_enter Tryz.func86, Tryz.ntmps86
 go_wp2_with fail
 obtain ⟨W0, hW0⟩ : ∃ W0, w.alloc (.cells #[.string f, .string t] 23) = W0 := ⟨_, rfl⟩
 have hb0 : Below w.heap.size w W0 := by rw [<- hW0]; exact (Below.refl _ w).alloc (Nat.le_refl _) _
 have hz0 : w.heap.size < W0.heap.size := by rw [<- hW0]; simp
 have e0 : W0.cell? ⟨w.heap.size, 0, none⟩ = some (.string f) := by rw [<- hW0]; simp [go_sem]
 have e1 : W0.cell? ⟨w.heap.size, 1, none⟩ = some (.string t) := by rw [<- hW0]; simp [go_sem]
 rw [hW0]
 clear hW0
 go_loopw [4, 5, 7, 10] (fun v4 v5 _ vi wr => ∃ (k : Nat) (last : ByteArray), k <= N /\ v4 = .bool false /\ vi = .int .i64 (k : Int) /\ v5 = .string last /\ Hid (goP (B f t) last.toList (ps.drop k) = r) /\ Below W0.heap.size W0 wr) (fun _ _ _ vi _ => N - (intOf vi).toNat)
 case atStart => exact ⟨0, ⟨#[]⟩, Nat.zero_le _, rfl, rfl, rfl, Lib.hid (by simpa [ByteArray.toList_eq] using HR.out), Below.refl _ _⟩
 case round =>
  revert hrel; revert wr; intro wo hrel
  obtain ⟨k, last, hk, rfl, rfl, rfl, HG, hbo⟩ := hrel
  have hzo := hbo.size
  have hbw : Below w.heap.size w wo := hb0.trans (hbo.mono (by omega))
  by_cases hlt : k < N
  ·have hkx : k < ps.length := by rw [HN.out]; exact hlt
   have hv1 := HV.out.below hbw
   rw [HN.out] at hv1
   obtain ⟨b, o, rfl, hb, q0, q1⟩ := hv1.at_ hkx
   have hg := HG.out
   rw [List.drop_eq_getElem_cons hkx, goP] at hg
   obtain ⟨⟨x, y⟩, hx⟩ : ∃ x, ps[k] = x := ⟨_, rfl⟩
   have hsz := hz _ (List.getElem_mem hkx)
   rw [hx] at q0 q1 hg hsz
   simp only at q0 q1 hg hsz
   have E0 := (hbo.cell (p := ⟨w.heap.size, 0, none⟩) hz0).trans e0
   have E1 := (hbo.cell (p := ⟨w.heap.size, 1, none⟩) hz0).trans e1
   have hwo : w.heap.size < wo.heap.size := by omega
   have k0 : (0 <= (k : Int)) = True := eq_true (by omega)
   have k1 : ((k : Int) < (N : Int)) = True := eq_true (by omega)
   have hbz : b < wo.heap.size := by omega
   have ck := cK x (wo.alloc (.cells #[.string x, .string y] 85)) hsz.1
   have ch := cH x (wo.alloc (.cells #[.string x, .string y] 85))
   have hb2 : Below W0.heap.size W0 (wo.alloc (.cells #[.string x, .string y] 85)) := hbo.alloc (by omega) _
   clear hv1 hx hkx
   rcases lt_tri last.toList x.toList with h1 | h1 | h1
   rotate_left
   ·rw [if_neg (fun h => by rw [h1, lt_irrefl] at h; exact absurd h.1 (by simp))] at hg
    have l1 : lt x.toList last.toList = false := by rw [h1]; exact lt_irrefl _
    have l2 : (x.toList == last.toList) = true := by rw [h1]; simp
    have HG2 := Lib.hid hg
    clear hg h1
    go_wp2_with fail
    go_ret
    exact ⟨by rw [<- HG2.out]; rfl, hb0.trans (hb2.mono (by omega))⟩
   ·rw [if_neg (fun h => by rw [lt_asymm h1] at h; exact absurd h.1 (by simp))] at hg
    have l1 : lt x.toList last.toList = true := h1
    have HG2 := Lib.hid hg
    clear hg h1
    go_wp2_with fail
    go_ret
    exact ⟨by rw [<- HG2.out]; rfl, hb0.trans (hb2.mono (by omega))⟩
   have l1 : lt x.toList last.toList = false := lt_asymm h1
   have l2 : (x.toList == last.toList) = false := by rw [beq_eq_false_iff_ne]; intro e; rw [e, lt_irrefl] at h1; cases h1
   by_cases h2 : y.size <= 512
   rotate_left
   ·rw [if_neg (fun h => h2 h.2.1)] at hg
    have l3 : ((y.size : Int) > 512) = True := eq_true (by omega)
    have l4 : ((512 : Int) < (y.size : Int)) = True := eq_true (by omega)
    have HG2 := Lib.hid hg
    clear hg h1 h2
    go_wp2_with fail
    go_ret
    exact ⟨by rw [<- HG2.out]; rfl, hb0.trans (hb2.mono (by omega))⟩
   have l3 : ((y.size : Int) > 512) = False := eq_false (by omega)
   have l4 : ((512 : Int) < (y.size : Int)) = False := eq_false (by omega)
   cases h3 : keyB x.toList with
   | false =>
    rw [if_neg (fun h => by rw [h3] at h; exact absurd h.2.2.1 (by simp))] at hg
    rw [show keyE x.toList = 20 by unfold keyE; rw [h3]; rfl] at ck
    have HG2 := Lib.hid hg
    clear hg h1 h2 h3
    go_wp2_with fail
    refine ck.mono ?_
    rintro e w' ⟨rfl, rfl⟩
    go_wp2_with fail
    go_ret
    exact ⟨by rw [<- HG2.out]; rfl, hb0.trans (hb2.mono (by omega))⟩
   | true =>
    rw [show keyE x.toList = 0 by unfold keyE; rw [h3]; rfl] at ck
    cases h4 : hasB (B f t) x.toList with
    | false =>
     rw [if_neg (fun h => by rw [h4] at h; exact absurd h.2.2.2 (by simp))] at hg
     rw [h4] at ch
     have HG2 := Lib.hid hg
     clear hg h1 h2 h3 h4
     go_wp2_with fail
     refine ck.mono ?_
     rintro e w' ⟨rfl, rfl⟩
     go_wp2_with fail
     refine ch.mono ?_
     rintro e w3 ⟨rfl, b3⟩
     have hb3 := hb2.trans (b3.mono hb2.size)
     clear b3
     go_wp2_with fail
     go_ret
     exact ⟨by rw [<- HG2.out]; rfl, hb0.trans (hb3.mono (by omega))⟩
    | true =>
     rw [if_pos ⟨h1, h2, h3, h4⟩] at hg
     rw [h4] at ch
     have HG2 := Lib.hid hg
     clear hg h1 h2 h3 h4
     go_wp2_with fail
     refine ck.mono ?_
     rintro e w' ⟨rfl, rfl⟩
     go_wp2_with fail
     refine ch.mono ?_
     rintro e w3 ⟨rfl, b3⟩
     have hb3 := hb2.trans (b3.mono hb2.size)
     have P0 : w3.cell? ⟨wo.heap.size, 0, none⟩ = some (.string x) := by rw [b3.cell (p := ⟨wo.heap.size, 0, none⟩) (by simp)]; simp [go_sem]
     have hz3 : wo.heap.size < w3.heap.size := by have := b3.size; simp at this; omega
     clear b3 q0 q1
     go_wp2_with fail
     go_roundw
     case rel => exact ⟨k + 1, x, by omega, rfl, by go_num, rfl, HG2, hb3⟩
     case measure => simp [intOf]; omega
  ·obtain rfl : k = N := by omega
   have hg := HG.out
   rw [List.drop_of_length_le (by have := HN.out; omega)] at hg
   have HG2 := Lib.hid hg
   clear hg
   go_wp2_with fail
   go_ret
   exact ⟨by rw [<- HG2.out]; rfl, hbw⟩
theorem HP.open {w : World} {N : Nat} {o : Ph} (h : HP w N o) : ∃ (d : De) (ps : List Pr) (zs : List Zs) (fr : Bool) (ea : List Int) (al : Int) (A B C D : Option Addr) (a b c e : Nat), o = ⟨d, .slice A d.ms.length a, ps, .slice B ps.length b, zs, .slice C zs.length c, fr, ea, .slice D ea.length e, al⟩ := by
 obtain ⟨A, a, B, b, C, c, D, e, h1, h2, h3, h4⟩ := h.form
 obtain ⟨d, sm, ps, sp, zs, sz, fr, ea, se, al⟩ := o
 simp only at h1 h2 h3 h4
 subst h1 h2 h3 h4
 exact ⟨d, ps, zs, fr, ea, al, A, B, C, D, a, b, c, e, rfl⟩
set_option maxHeartbeats 8000000 in
set_option maxRecDepth 100000 in
theorem check_any (o : Ph) (w : World) (h : HP w w.heap.size o) (hf : FitP o) :
  Calls Tryz.prog 36 #[qv o] w fun e w' => e = .returned (.int .i64 (chkP o.pl)) /\ Below w.heap.size w w' := by
 have KD := fun w' (hb : Below w.heap.size w w') => Ds.check_any o.d o.sm w' ((h.below hb).more hb.size).sm hf.ms hf.f hf.t
 have KS := fun w' (hb : Below w.heap.size w w') => Ss.check_any o.sz o.zs w' ((h.below hb).more hb.size).sz ((h.below hb).more hb.size).pz (fun z hz => ⟨(hf.fit z hz).1, (hf.fit z hz).2.1, (hf.fit z hz).2.2⟩) hf.zs
 have KP := fun w' (hb : Below w.heap.size w w') => arePairs_any o.sp o.ps o.d.f o.d.t w' ((h.below hb).more hb.size).sp hf.ps hf.each
 have KE := fun w' (hb : Below w.heap.size w w') => areEaten_any o.se o.ea w' ((h.below hb).more hb.size).se hf.ea
 obtain ⟨r, hR⟩ : ∃ r, chkP o.pl = r := ⟨_, rfl⟩
 rw [hR]
 have hR' : (if isD o.d && isS (ses o.zs) && goP (B o.d.f o.d.t) [] o.ps && eatB o.ea && amongB o.al 0 1099511627776 then (0 : Int) else 90) = r := by rw [<- hR]; rfl
 have B0 := BoxP.new w o
 have hb0 : Below w.heap.size w (w.alloc (.cells #[.int .i64 o.d.id, .string o.d.f, .string o.d.t, .int .i64 o.d.gen, o.sm, .int .i64 o.d.next, o.sp, o.sz, .bool o.fr, o.se, .int .i64 o.al] 38)) := (Below.refl _ w).alloc (Nat.le_refl _) _
 unfold chkD at KD
 unfold chkS at KS
 obtain ⟨d, ps, zs, fr, ea, al, A, B', C, D, a, b, c, e', rfl⟩ := h.open
 simp only at KD KS KP KE hR' B0 hb0 ⊢
 obtain ⟨x1, hx1⟩ : ∃ x, isD d = x := ⟨_, rfl⟩
 obtain ⟨x2, hx2⟩ : ∃ x, isS (ses zs) = x := ⟨_, rfl⟩
 obtain ⟨x3, hx3⟩ : ∃ x, goP (B d.f d.t) [] ps = x := ⟨_, rfl⟩
 obtain ⟨x4, hx4⟩ : ∃ x, eatB ea = x := ⟨_, rfl⟩
 rw [hx1] at KD hR'
 rw [hx2] at KS hR'
 rw [hx3] at KP hR'
 rw [hx4] at KE hR'
 obtain ⟨n1, hn1⟩ : ∃ n, d.ms.length = n := ⟨_, rfl⟩
 obtain ⟨n2, hn2⟩ : ∃ n, ps.length = n := ⟨_, rfl⟩
 obtain ⟨n3, hn3⟩ : ∃ n, zs.length = n := ⟨_, rfl⟩
 obtain ⟨n4, hn4⟩ : ∃ n, ea.length = n := ⟨_, rfl⟩
 rw [hn1] at KD B0 hb0
 rw [hn2] at KP B0 hb0
 rw [hn3] at KS B0 hb0
 rw [hn4] at KE B0 hb0
 simp only [qv, hn1, hn2, hn3, hn4]
 have HR := Lib.hid hR'
 clear hx1 hx2 hx3 hx4 hn1 hn2 hn3 hn4 hR hR' h hf
 go_enter Tryz.func36, Tryz.ntmps36
 obtain ⟨p_0, ⟨p_1, p_2, p_3, p_4, p_5, p_6, p_7, p_8, p_9, p_10, p_11⟩, p_12⟩ := _root_.id B0
 go_wp2_with fail
 refine (KD _ hb0).mono ?_
 rintro e w1 ⟨rfl, b1⟩
 have B1 := B0.keep b1
 have hb1 := hb0.trans (b1.mono hb0.size)
 clear p_0 p_1 p_2 p_3 p_4 p_5 p_6 p_7 p_8 p_9 p_10 p_11 p_12
 clear b1 B0 KD
 obtain ⟨p_0, ⟨p_1, p_2, p_3, p_4, p_5, p_6, p_7, p_8, p_9, p_10, p_11⟩, p_12⟩ := _root_.id B1
 cases x1 with
 | false =>
  clear KS KP KE
  go_wp2_with fail
  go_ret
  exact ⟨by rw [<- HR.out]; rfl, hb1⟩
 | true =>
 go_wp2_with fail
 refine (KS _ hb1).mono ?_
 rintro e w2 ⟨rfl, b2⟩
 have B2 := B1.keep b2
 have hb2 := hb1.trans (b2.mono hb1.size)
 clear p_0 p_1 p_2 p_3 p_4 p_5 p_6 p_7 p_8 p_9 p_10 p_11 p_12
 clear b2 B1 KS
 obtain ⟨p_0, ⟨p_1, p_2, p_3, p_4, p_5, p_6, p_7, p_8, p_9, p_10, p_11⟩, p_12⟩ := _root_.id B2
 cases x2 with
 | false =>
  clear KP KE
  go_wp2_with fail
  go_ret
  exact ⟨by rw [<- HR.out]; rfl, hb2⟩
 | true =>
 go_wp2_with fail
 refine (KP _ hb2).mono ?_
 rintro e w3 ⟨rfl, b3⟩
 have B3 := B2.keep b3
 have hb3 := hb2.trans (b3.mono hb2.size)
 clear p_0 p_1 p_2 p_3 p_4 p_5 p_6 p_7 p_8 p_9 p_10 p_11 p_12
 clear b3 B2 KP
 obtain ⟨p_0, ⟨p_1, p_2, p_3, p_4, p_5, p_6, p_7, p_8, p_9, p_10, p_11⟩, p_12⟩ := _root_.id B3
 cases x3 with
 | false =>
  clear KE
  go_wp2_with fail
  go_ret
  exact ⟨by rw [<- HR.out]; rfl, hb3⟩
 | true =>
 go_wp2_with fail
 refine (KE _ hb3).mono ?_
 rintro e w4 ⟨rfl, b4⟩
 have B4 := B3.keep b4
 have hb4 := hb3.trans (b4.mono hb3.size)
 clear p_0 p_1 p_2 p_3 p_4 p_5 p_6 p_7 p_8 p_9 p_10 p_11 p_12
 clear b4 B3 KE
 obtain ⟨p_0, ⟨p_1, p_2, p_3, p_4, p_5, p_6, p_7, p_8, p_9, p_10, p_11⟩, p_12⟩ := _root_.id B4
 cases x4 with
 | false =>
  go_wp2_with fail
  go_ret
  exact ⟨by rw [<- HR.out]; rfl, hb4⟩
 | true =>
 have hr := HR.out
 unfold amongB at hr
 by_cases h1 : al < 0
 ·have g1 : (al < 0) = True := eq_true h1
  rw [if_neg (by simp; omega)] at hr
  have HR2 := Lib.hid hr
  clear hr h1 HR
  go_wp2_with fail
  go_ret
  exact ⟨by rw [<- HR2.out]; rfl, hb4⟩
 have g1 : (al < 0) = False := eq_false h1
 by_cases h2 : al > 1099511627776
 ·have g2 : (al > 1099511627776) = True := eq_true h2
  rw [if_neg (by simp; omega)] at hr
  have HR2 := Lib.hid hr
  clear hr h1 h2 HR
  go_wp2_with fail
  go_ret
  exact ⟨by rw [<- HR2.out]; rfl, hb4⟩
 have g2 : (al > 1099511627776) = False := eq_false h2
 rw [if_pos (by simp; omega)] at hr
 have HR2 := Lib.hid hr
 clear hr h1 h2 HR
 go_wp2_with fail
 go_ret
 exact ⟨by rw [<- HR2.out]; rfl, hb4⟩
end Go.Proofs.YthcmnkmfhgoddaaGreatDoor.Dp

namespace Go.Proofs.YthcmnkmfhgoddaaGreatDoor.Dp
open Go.RowKit Bnd
open Go.Proofs.YthcmnkmfhgoddaaGreatDoor.O (Bd isB keyB hasB nextB lt lt_tri lt_irrefl lt_asymm)
open Go.Proofs.YthcmnkmfhgoddaaGreatDoor.Ds (De SM)
open Go.Proofs.YthcmnkmfhgoddaaGreatDoor.Ss (Ses Zs ses SZ PZ NoP)
open Go.Proofs.YthcmnkmfhgoddaaGreatDoor.Od (Pr SP)
open Go.Proofs.YthcmnkmfhgoddaaGreatDoor.Sf (kl Up getP)
set_option maxHeartbeats 4000000 in
set_option maxRecDepth 100000 in
theorem closure_any (ps : List Pr) (A : Option Addr) (ca : Nat) (key : ByteArray) (b0 b1 i : Nat) (W w : World) (hi : i < ps.length) (hv : SP W W.heap.size (.slice A ps.length ca) ps)
    (h0 : W.cell? ⟨b0, 0, none⟩ = some (.slice A ps.length ca)) (h1 : W.cell? ⟨b1, 0, none⟩ = some (.string key)) (hb0 : b0 < W.heap.size) (hb1 : b1 < W.heap.size) (hb : Below W.heap.size W w) :
    Calls Tryz.prog 148 #[.int .i64 (i : Int), .pointer (some ⟨b0, 0, none⟩), .pointer (some ⟨b1, 0, none⟩)] w fun e w' => e = .returned (.bool (!kl ps[i].1 key)) /\ Below W.heap.size W w' := by
  obtain ⟨b, o, rfl, hbl, q0, qq⟩ := hv.at_ hi
  obtain ⟨x, hx⟩ : ∃ x, ps[i].1 = x := ⟨_, rfl⟩
  rw [hx] at q0 ⊢
  have g0 := (hb.cell (p := ⟨b0, 0, none⟩) hb0).trans h0
  have g1 := (hb.cell (p := ⟨b1, 0, none⟩) hb1).trans h1
  have g2 := (hb.cell (p := ⟨b, o + i * 2, none⟩) hbl).trans q0
  have k0 : (0 <= (i : Int)) = True := eq_true (by omega)
  obtain ⟨n, hn⟩ : ∃ n, ps.length = n := ⟨_, rfl⟩
  have k1 : ((i : Int) < (n : Int)) = True := eq_true (by omega)
  rw [hn] at g0
  clear hv h0 h1 q0 qq hx hn hi
  unfold Sf.kl
  go_enter Tryz.func148, Tryz.ntmps148
  go_wp2_with fail
  refine St.wp_region_stage (fun _ wx => wx = w.drew) (by kernel_rfl) (by kernel_rfl) (by kernel_rfl) rfl ?_
  repeat (first
    | (apply St.step_give
       · rfl
       · rintro L wx rfl hcl hrd
         go_simp
         try with_reducible rfl
       · exact fun L wx hS => hS
       simp only [Act.put, St.pu]))
  refine St.step_last ?_
  rintro L wx rfl _
  go_wp2_with fail
  go_ret
  exact ⟨rfl, hb.drew⟩
set_option maxHeartbeats 4000000 in
set_option maxRecDepth 100000 in
theorem search_any (n : Nat) (p : Nat -> Bool) (b0 b1 : Nat) (W w : World) (hn : n <= 140737488355328) (hb : Below W.heap.size W w)
    (hf : ∀ (i : Nat) wx, i < n -> Below W.heap.size W wx -> Calls Tryz.prog 148 #[.int .i64 (i : Int), .pointer (some ⟨b0, 0, none⟩), .pointer (some ⟨b1, 0, none⟩)] wx fun e w' => e = .returned (.bool (p i)) /\ Below W.heap.size W w')
    (hm : ∀ a b, a <= b -> b < n -> p a = true -> p b = true) :
    Calls Tryz.prog 147 #[.int .i64 (n : Int), .func (.func 148) #[] #[.pointer (some ⟨b0, 0, none⟩), .pointer (some ⟨b1, 0, none⟩)]] w fun e w' => ∃ k : Nat, e = .returned (.int .i64 (k : Int)) /\ (k <= n /\ (∀ t, t < k -> p t = false) /\ ∀ t, k <= t -> t < n -> p t = true) /\ Below W.heap.size W w' := by
  have HM := Lib.hid hm
  clear hm
  go_enter Tryz.func147, Tryz.ntmps147
  go_wp2_with fail
  go_loopw [5, 6, 7] (fun v5 v6 _ wr => ∃ lo hi : Nat, v5 = .int .i64 (lo : Int) /\ v6 = .int .i64 (hi : Int) /\ lo <= hi /\ hi <= n /\ Hid ((∀ t, t < lo -> p t = false) /\ ∀ t, hi <= t -> t < n -> p t = true) /\ Below W.heap.size W wr) (fun v5 v6 _ _ => (intOf v6).toNat - (intOf v5).toNat)
  case atStart => exact ⟨0, n, rfl, rfl, Nat.zero_le _, Nat.le_refl _, Lib.hid ⟨fun t h => by omega, fun t h h' => by omega⟩, hb⟩
  case round =>
    obtain ⟨lo, hi, rfl, rfl, h1, h2, HP, hbw⟩ := hrel
    by_cases hlt : lo < hi
    · have hc := hf ((lo + hi) / 2) wr (by omega) hbw
      rw [show (((lo + hi) / 2 : Nat) : Int) = ((lo : Int) + (hi : Int)) / 2 by omega] at hc
      cases hp : p ((lo + hi) / 2) with
      | false =>
        rw [hp] at hc
        have HP2 : Hid ((∀ t, t < (lo + hi) / 2 + 1 -> p t = false) /\ ∀ t, hi <= t -> t < n -> p t = true) := Lib.hid ⟨fun t ht => by
          cases hx : p t with
          | false => rfl
          | true => have := HM.out t ((lo + hi) / 2) (by omega) (by omega) hx; rw [hp] at this; exact absurd this (by simp), HP.out.2⟩
        clear hp HP
        go_wp2_with fail
        refine hc.mono ?_
        rintro e w1 ⟨rfl, hb1⟩
        go_wp2_with fail
        go_roundw
        case rel => exact ⟨(lo + hi) / 2 + 1, hi, by rw [show ((lo : Int) + (hi : Int)) / 2 + 1 = (((lo + hi) / 2 + 1 : Nat) : Int) by omega], rfl, by omega, h2, HP2, hb1⟩
        case measure => simp [intOf]; omega
      | true =>
        rw [hp] at hc
        have HP2 : Hid ((∀ t, t < lo -> p t = false) /\ ∀ t, (lo + hi) / 2 <= t -> t < n -> p t = true) := Lib.hid ⟨HP.out.1, fun t ht htn => HM.out ((lo + hi) / 2) t ht htn hp⟩
        clear hp HP
        go_wp2_with fail
        refine hc.mono ?_
        rintro e w1 ⟨rfl, hb1⟩
        go_wp2_with fail
        go_roundw
        case rel => exact ⟨lo, (lo + hi) / 2, rfl, by rw [show ((lo : Int) + (hi : Int)) / 2 = (((lo + hi) / 2 : Nat) : Int) by omega], by omega, by omega, HP2, hb1⟩
        case measure => simp [intOf]; omega
    · obtain rfl : hi = lo := by omega
      go_wp2_with fail
      go_ret
      exact ⟨hi, rfl, ⟨h2, HP.out.1, HP.out.2⟩, hbw⟩
theorem not_below {ps : List Pr} (hu : Up ps) (k : ByteArray) {a b : Nat} (hab : a <= b) (hb : b < ps.length) (h : (!kl (ps.getD a (Od.E0, Od.E0)).1 k) = true) : (!kl (ps.getD b (Od.E0, Od.E0)).1 k) = true := by
  have e : ∀ t (h : t < ps.length), ps.getD t (Od.E0, Od.E0) = ps[t] := fun t h => by rw [List.getD_eq_getElem?_getD, List.getElem?_eq_getElem h]; rfl
  rw [e a (by omega)] at h
  rw [e b hb]
  rcases Nat.lt_or_ge a (placeP ps k) with h1 | h1
  · rw [place_low hu k a (by omega) h1] at h
    cases h
  · rw [place_high hu k b hb (by omega)]
    rfl
set_option maxHeartbeats 4000000 in
set_option maxRecDepth 100000 in
theorem place_any (v : Value) (ps : List Pr) (key : ByteArray) (w : World) (hv : SP w w.heap.size v ps) (hu : Up ps) (hl : ps.length <= 140737488355328) :
    Calls Tryz.prog 77 #[v, .string key] w fun e w' => e = .returned (.int .i64 (placeP ps key : Nat)) /\ Below w.heap.size w w' := by
  obtain ⟨A, ca, rfl⟩ := hv.form
  obtain ⟨W0, hW0⟩ : ∃ W0, (w.alloc (.cells #[.slice A ps.length ca] 34)).alloc (.cells #[.string key] 9) = W0 := ⟨_, rfl⟩
  have hb0 : Below w.heap.size w W0 := by rw [<- hW0]; exact ((Below.refl _ w).alloc (Nat.le_refl _) _).alloc (by simp) _
  have x0 : W0.cell? ⟨w.heap.size, 0, none⟩ = some (.slice A ps.length ca) := by rw [<- hW0]; simp [go_sem]
  have x1 : W0.cell? ⟨w.heap.size + 1, 0, none⟩ = some (.string key) := by rw [<- hW0]; simp [go_sem]
  have hz0 : W0.heap.size = w.heap.size + 2 := by rw [<- hW0]; simp
  have hv0 : SP W0 W0.heap.size (.slice A ps.length ca) ps := (hv.below hb0).more hb0.size
  have hat : ∀ t (h : t < ps.length), (ps.getD t (Od.E0, Od.E0)) = ps[t] := fun t h => by rw [List.getD_eq_getElem?_getD, List.getElem?_eq_getElem h]; rfl
  have cs := search_any ps.length (fun t => !kl (ps.getD t (Od.E0, Od.E0)).1 key) w.heap.size (w.heap.size + 1) W0 W0 hl (Below.refl _ _) (fun i wx hi hx => by
    show Calls _ _ _ _ fun e w' => e = .returned (.bool (!kl (ps.getD i (Od.E0, Od.E0)).1 key)) /\ Below W0.heap.size W0 w'
    rw [hat i hi]
    exact closure_any ps A ca key w.heap.size (w.heap.size + 1) i W0 wx hi hv0 x0 x1 (by omega) (by omega) hx) (fun a b hab hb h => not_below hu key hab hb h)
  have hpl : ∀ k, k <= ps.length -> (∀ t, t < k -> (!kl (ps.getD t (Od.E0, Od.E0)).1 key) = false) -> (∀ t, k <= t -> t < ps.length -> (!kl (ps.getD t (Od.E0, Od.E0)).1 key) = true) -> k = placeP ps key := fun k h1 h2 h3 => (place_of hu h1 (fun i h hik => by have := h2 i hik; rw [hat i h] at this; simpa using this) (fun i h hki => by have := h3 i hki h; rw [hat i h] at this; simpa using this)).symm
  have HPL := Lib.hid hpl
  obtain ⟨n, hn⟩ : ∃ n, ps.length = n := ⟨_, rfl⟩
  rw [hn] at hl x0 cs hW0 ⊢
  have HN := Lib.hid hn
  clear hn hv hv0 hu hat hpl
  go_enter Tryz.func77, Tryz.ntmps77
  go_wp2_with fail
  try rw [hW0]
  refine cs.mono ?_
  rintro e w1 ⟨k, rfl, ⟨h1, h2, h3⟩, hb1⟩
  have hbw : Below w.heap.size w w1 := hb0.trans (hb1.mono (by omega))
  have hk := HPL.out k (by rw [HN.out]; exact h1) h2 (by rw [HN.out]; exact h3)
  subst hk
  clear h1 h2 h3 cs hb0 hb1 x0 x1 hW0
  go_wp2_with fail
  go_ret
  exact ⟨rfl, hbw⟩
set_option maxHeartbeats 4000000 in
set_option maxRecDepth 100000 in
theorem stands_any (v : Value) (ps : List Pr) (key : ByteArray) (k : Nat) (w : World) (hv : SP w w.heap.size v ps) (_hl : ps.length <= 140737488355328) (hk : k <= ps.length) :
    Calls Tryz.prog 78 #[v, .int .i64 (k : Int), .string key] w fun e w' => e = .returned (.bool (match ps[k]? with | some p => decide (p.1 = key) | none => false)) /\ w = w' := by
  obtain ⟨A, ca, rfl⟩ := hv.form
  obtain ⟨n, hn⟩ : ∃ n, ps.length = n := ⟨_, rfl⟩
  by_cases hlt : k < n
  · have hkx : k < ps.length := by omega
    obtain ⟨b, o, rfl, hb, q0, qq⟩ := hv.at_ hkx
    rw [List.getElem?_eq_getElem hkx]
    obtain ⟨⟨x, y⟩, hx⟩ : ∃ x, ps[k] = x := ⟨_, rfl⟩
    rw [hx] at q0 ⊢
    simp only at q0 ⊢
    have k0 : (0 <= (k : Int)) = True := eq_true (by omega)
    have k1 : ((k : Int) < (n : Int)) = True := eq_true (by omega)
    have hc : (x.toList == key.toList) = decide (x = key) := by
      by_cases e : x = key
      · rw [e]; simp
      · rw [decide_eq_false e, beq_eq_false_iff_ne]
        exact fun h => e ((Od.ba_iff x key).1 h)
    have HC := Lib.hid hc
    rw [hn]
    clear hv qq hx hkx hn hc
    go_enter Tryz.func78, Tryz.ntmps78
    go_wp2_with fail
    go_ret
    exact ⟨by rw [<- HC.out]; rfl, rfl⟩
  · rw [List.getElem?_eq_none (by omega), hn]
    have k1 : ((k : Int) < (n : Int)) = False := eq_false (by omega)
    clear hv hn
    go_enter Tryz.func78, Tryz.ntmps78
    go_wp2_with fail
    go_ret
    exact ⟨rfl, rfl⟩
def gotV (o : Option ByteArray) : Value := match o with
  | some v => .tuple #[.string v, .bool true]
  | none => .tuple #[.string Od.E0, .bool false]
set_option maxHeartbeats 4000000 in
set_option maxRecDepth 100000 in
theorem get_any (o : Ph) (key : ByteArray) (w : World) (h : HP w w.heap.size o) (hf : FitP o) (hu : Up o.ps) :
    Calls Tryz.prog 29 #[qv o, .string key] w fun e w' => e = .returned (gotV (getP o.ps key)) /\ Below w.heap.size w w' := by
  have KL := fun w' (hb : Below w.heap.size w w') => place_any o.sp o.ps key w' ((h.below hb).more hb.size).sp hu hf.ps
  have KT := fun w' (hb : Below w.heap.size w w') => stands_any o.sp o.ps key (placeP o.ps key) w' ((h.below hb).more hb.size).sp hf.ps (place_le _ _)
  have KV := fun w' (hb : Below w.heap.size w w') => ((h.below hb).more hb.size).sp
  have hg := get_place hu key
  have hpl := place_le o.ps key
  have B0 := BoxP.new w o
  have hb0 : Below w.heap.size w (w.alloc (.cells #[.int .i64 o.d.id, .string o.d.f, .string o.d.t, .int .i64 o.d.gen, o.sm, .int .i64 o.d.next, o.sp, o.sz, .bool o.fr, o.se, .int .i64 o.al] 38)) := (Below.refl _ w).alloc (Nat.le_refl _) _
  obtain ⟨d, ps, zs, fr, ea, al, A, B', C, D, a, b, c, e', rfl⟩ := h.open
  simp only at KL KT KV hg hpl B0 hb0 ⊢
  obtain ⟨k, hk⟩ : ∃ k, placeP ps key = k := ⟨_, rfl⟩
  rw [hk] at KL KT hg hpl
  obtain ⟨n1, hn1⟩ : ∃ n, d.ms.length = n := ⟨_, rfl⟩
  obtain ⟨n2, hn2⟩ : ∃ n, ps.length = n := ⟨_, rfl⟩
  obtain ⟨n3, hn3⟩ : ∃ n, zs.length = n := ⟨_, rfl⟩
  obtain ⟨n4, hn4⟩ : ∃ n, ea.length = n := ⟨_, rfl⟩
  rw [hn1] at B0 hb0
  rw [hn2] at KL KT KV B0 hb0 hpl
  rw [hn3] at B0 hb0
  rw [hn4] at B0 hb0
  simp only [qv, hn1, hn2, hn3, hn4]
  have HG := Lib.hid hg
  have HN2 := Lib.hid hn2
  clear hn1 hn2 hn3 hn4 hg hk h hf hu
  go_enter Tryz.func29, Tryz.ntmps29
  obtain ⟨p_0, ⟨p_1, p_2, p_3, p_4, p_5, p_6, p_7, p_8, p_9, p_10, p_11⟩, p_12⟩ := _root_.id B0
  go_wp2_with fail
  refine (KL _ hb0).mono ?_
  rintro e w1 ⟨rfl, b1⟩
  have B1 := B0.keep b1
  have hb1 := hb0.trans (b1.mono hb0.size)
  clear p_0 p_1 p_2 p_3 p_4 p_5 p_6 p_7 p_8 p_9 p_10 p_11 p_12
  clear b1 B0 KL
  obtain ⟨p_0, ⟨p_1, p_2, p_3, p_4, p_5, p_6, p_7, p_8, p_9, p_10, p_11⟩, p_12⟩ := _root_.id B1
  have hat := HG.out
  by_cases hlt : k < n2
  · have hkx : k < ps.length := by rw [HN2.out]; exact hlt
    have hv1 := KV w1 hb1
    rw [<- HN2.out] at hv1
    obtain ⟨bb, oo, rfl, hb, q0, q1⟩ := hv1.at_ hkx
    rw [List.getElem?_eq_getElem hkx] at hat KT
    obtain ⟨⟨x, y⟩, hx⟩ : ∃ x, ps[k] = x := ⟨_, rfl⟩
    rw [hx] at q0 q1 hat KT
    simp only at q0 q1 hat KT
    have k0 : (0 <= (k : Int)) = True := eq_true (by omega)
    have k1 : ((k : Int) < (n2 : Int)) = True := eq_true (by omega)
    have hk1 : (k : Int) < (n2 : Int) := by omega
    clear hv1 hx hkx KV HG
    by_cases hc : x = key
    · rw [if_pos hc] at hat
      rw [decide_eq_true hc] at KT
      have HAT := Lib.hid hat
      clear hat hc
      go_wp2_with fail
      refine (KT _ hb1).mono ?_
      rintro e w2 ⟨rfl, rfl⟩
      go_wp2_with fail
      go_ret2
      exact ⟨by rw [HAT.out]; rfl, hb1⟩
    · rw [if_neg hc] at hat
      rw [decide_eq_false hc] at KT
      have HAT := Lib.hid hat
      clear hat hc
      go_wp2_with fail
      refine (KT _ hb1).mono ?_
      rintro e w2 ⟨rfl, rfl⟩
      go_wp2_with fail
      go_ret2
      exact ⟨by rw [HAT.out]; rfl, hb1⟩
  · rw [List.getElem?_eq_none (by rw [HN2.out]; omega)] at hat KT
    simp only at hat KT
    have HAT := Lib.hid hat
    clear hat KV HG
    go_wp2_with fail
    refine (KT _ hb1).mono ?_
    rintro e w2 ⟨rfl, rfl⟩
    go_wp2_with fail
    go_ret2
    exact ⟨by rw [HAT.out]; rfl, hb1⟩
end Go.Proofs.YthcmnkmfhgoddaaGreatDoor.Dp

/-
 DeedPairs, walked. Conditions: FitP, texts of at most 2^47 bytes; the library's variables hold what their types allow.
-/
import Derived.Test.YthcmnkmfhgoddaaGreatDoorKDpLive
import Derived.Test.YthcmnkmfhgoddaaGreatDoorKDpSmall
import Derived.Test.YthcmnkmfhgoddaaGreatDoorKDpLA
import Derived.Test.YthcmnkmfhgoddaaGreatDoorKDpRIA
import Derived.Test.YthcmnkmfhgoddaaGreatDoorKDpOwnL
import Derived.Test.YthcmnkmfhgoddaaGreatDoorKDpRfA
import Derived.Test.YthcmnkmfhgoddaaGreatDoorKDpBGA
import Derived.Test.YthcmnkmfhgoddaaGreatDoorKDpScA
import Derived.Test.YthcmnkmfhgoddaaGreatDoorKDpRLA
import Derived.Test.YthcmnkmfhgoddaaGreatDoorKDpRSet
import Derived.Test.YthcmnkmfhgoddaaGreatDoorKOdSPA
namespace Go.Proofs.YthcmnkmfhgoddaaGreatDoor.Dp
open Go.RowKit Bnd
open Go.Proofs.YthcmnkmfhgoddaaGreatDoor.Ds (De ArgM)
open Go.Proofs.YthcmnkmfhgoddaaGreatDoor.Ss (Ses Zs ses SZ PZ NoP ArgZ)
open Go.Proofs.YthcmnkmfhgoddaaGreatDoor.Od (Pr SP ArgP OwnP)
open Go.Proofs.YthcmnkmfhgoddaaGreatDoor.Sf (Up Ch doP scanP getP)
structure RV (W0 : World) (pl : Pl) (L : Nat -> Bool) (u : Nat -> Value) (wx : World) : Prop where
 low : Below W0.heap.size W0 wx
 set : L 22 = true -> ∃ o, u 22 = qv o /\ o.pl = pl /\ HA wx o
section
variable {W0 wx w' : World} {pl : Pl} {L : Nat -> Bool} {u : Nat -> Value} {j : Nat}
theorem RV.plain (h : RV W0 pl L u wx) (hj : 22 ≠ j) (v : Value) : RV W0 pl (St.mark L j) (St.upd u j v) wx := by
 have a1 : St.mark L j 22 = L 22 := by simp [St.mark, hj]
 have b1 : St.upd u j v 22 = u 22 := by simp [St.upd, hj]
 exact ⟨h.low, by rw [a1, b1]; exact h.set⟩
theorem RV.into (h : RV W0 pl L u wx) (hj : 22 ≠ j) (b : Below wx.heap.size wx w') (v : Value) : RV W0 pl (St.mark L j) (St.upd u j v) w' := by
 have a1 : St.mark L j 22 = L 22 := by simp [St.mark, hj]
 have b1 : St.upd u j v 22 = u 22 := by simp [St.upd, hj]
 refine ⟨h.low.trans (b.mono h.low.size), fun h1 => ?_⟩
 rw [a1] at h1
 obtain ⟨o, e, hp, ha⟩ := h.set h1
 exact ⟨o, by rw [b1]; exact e, hp, ha.keep b⟩
theorem RV.got (h : RV W0 pl L u wx) (b : Below wx.heap.size wx w') {o : Ph} (hp : o.pl = pl) (ha : HA w' o) : RV W0 pl (St.mark L 22) (St.upd u 22 (qv o)) w' :=
 ⟨h.low.trans (b.mono h.low.size), fun _ => ⟨o, by simp [St.upd], hp, ha⟩⟩
end
theorem set_few {p : Pl} (h : isP p = true) (hl : p.ps.length <= 100000) (c : Ch) {o : Ph} (ho : o.pl = setP p c) : FewP o := by
 have k1 : o.d = p.d := congrArg Pl.d ho
 have k2 : o.ps = doP p.ps c := congrArg Pl.ps ho
 have k3 : ses o.zs = p.ss := congrArg Pl.ss ho
 have k4 : o.ea = p.ea := congrArg Pl.ea ho
 have k5 : o.zs.length = p.ss.length := by have := congrArg List.length k3; simpa using this
 have k6 : p.d.ms.length <= 5 := (isD_sizes (isP_d h)).2.2
 have k7 := Sf.len_do c p.ps
 have k8 := isS_len (isP_s h)
 have k9 := isP_ea h
 exact ⟨by rw [k1]; omega, by rw [k2]; omega, by omega, by rw [k4]; omega⟩
theorem lim_len (P : List Pr) (f t : ByteArray) (n : Int) : (limP P f t n).1.length <= P.length := by
 have h : (scanP P f t).length <= P.length := List.length_filter_le _ _
 unfold limP
 split
 ·exact h
 ·simp only [List.length_take]
  omega
theorem got_eq (x : Option ByteArray) : ∃ v b, gotV x = .tuple #[.string v, .bool b] := by
 cases x with
 | none => exact ⟨_, _, rfl⟩
 | some v => exact ⟨_, _, rfl⟩
set_option maxHeartbeats 32000000 in
set_option maxRecDepth 100000 in
theorem pairsl_walk (o : Ph) (key ck cv : ByteArray) (gn : Bool) (f t : ByteArray) (lim : Int) (w : World) (h : HB w o) (hf : FitP o) (z1 : key.size <= 140737488355328) (z2 : ck.size <= 140737488355328) (z3 : cv.size <= 140737488355328) (z4 : f.size <= 140737488355328) (z5 : t.size <= 140737488355328) (hlim : M.inR lim) (hg : Good w) :
  Calls Tryz.prog 7 #[qv o, .string key, .agg #[.string ck, .string cv, .bool gn], .string f, .string t, .int .i64 lim] w fun e w' => e = .returned (.bool true) /\ Below w.heap.size w w' := by
 have HH := Lib.hid h
 have HF := Lib.hid hf
 have HG := Lib.hid hg
 have HL := Lib.hid hlim
 obtain ⟨d, ps, zs, fr, ea, al, A, B, C, D, ka, kb, kc, kd, rfl⟩ := h.hp.open
 obtain ⟨nm, hnm⟩ : ∃ n, d.ms.length = n := ⟨_, rfl⟩
 obtain ⟨np, hnp⟩ : ∃ n, ps.length = n := ⟨_, rfl⟩
 obtain ⟨nz, hnz⟩ : ∃ n, zs.length = n := ⟨_, rfl⟩
 obtain ⟨ne, hne⟩ : ∃ n, ea.length = n := ⟨_, rfl⟩
 rw [hnm, hnp, hnz, hne] at HH HF ⊢
 obtain ⟨W0, hW0⟩ : ∃ W0, (w.alloc (.cells #[.int .i64 d.id, .string d.f, .string d.t, .int .i64 d.gen, .slice A nm ka, .int .i64 d.next, .slice B np kb, .slice C nz kc, .bool fr, .slice D ne kd, .int .i64 al] 38)).alloc (.cells #[.string ck, .string cv, .bool gn] 57) = W0 := ⟨_, rfl⟩
 have hb0 : Below w.heap.size w W0 := by rw [<- hW0]; exact ((Below.refl _ w).alloc (Nat.le_refl _) _).alloc (by simp) _
 have hz0 : W0.heap.size = w.heap.size + 2 := by rw [<- hW0]; simp
 have BO : BoxP w.heap.size ⟨d, .slice A nm ka, ps, .slice B np kb, zs, .slice C nz kc, fr, ea, .slice D ne kd, al⟩ W0 := hW0 ▸ (BoxP.new w ⟨d, .slice A nm ka, ps, .slice B np kb, zs, .slice C nz kc, fr, ea, .slice D ne kd, al⟩).alloc _
 have c0 : W0.cell? ⟨w.heap.size + 1, 0, none⟩ = some (.string ck) := by rw [<- hW0]; simp [go_sem]
 have c1 : W0.cell? ⟨w.heap.size + 1, 1, none⟩ = some (.string cv) := by rw [<- hW0]; simp [go_sem]
 have c2 : W0.cell? ⟨w.heap.size + 1, 2, none⟩ = some (.bool gn) := by rw [<- hW0]; simp [go_sem]
 have hbox : ∀ wx, Below W0.heap.size W0 wx -> BoxP w.heap.size ⟨d, .slice A nm ka, ps, .slice B np kb, zs, .slice C nz kc, fr, ea, .slice D ne kd, al⟩ wx /\ wx.cell? ⟨w.heap.size + 1, 0, none⟩ = some (.string ck) /\ wx.cell? ⟨w.heap.size + 1, 1, none⟩ = some (.string cv) /\ wx.cell? ⟨w.heap.size + 1, 2, none⟩ = some (.bool gn) := fun wx hb =>
  ⟨BO.keep hb, (hb.cell (by show w.heap.size + 1 < _; omega)).trans c0, (hb.cell (by show w.heap.size + 1 < _; omega)).trans c1, (hb.cell (by show w.heap.size + 1 < _; omega)).trans c2⟩
 have KH := fun w' (h : Below W0.heap.size W0 w') => HH.out.keep (hb0.trans (h.mono hb0.size))
 have cS := fun w' (h : Below W0.heap.size W0 w') => small_any ⟨d, .slice A nm ka, ps, .slice B np kb, zs, .slice C nz kc, fr, ea, .slice D ne kd, al⟩ w' (KH w' h).hp HF.out
 have cI := fun w' (h : Below W0.heap.size W0 w') => ris_any ⟨d, .slice A nm ka, ps, .slice B np kb, zs, .slice C nz kc, fr, ea, .slice D ne kd, al⟩ w' (KH w' h).hp HF.out
 have cL := fun w' (h : Below W0.heap.size W0 w') => live_any w' (HG.out.below (hb0.trans (h.mono hb0.size)))
 obtain ⟨P, hP⟩ : ∃ P, Ph.pl ⟨d, .slice A nm ka, ps, .slice B np kb, zs, .slice C nz kc, fr, ea, .slice D ne kd, al⟩ = P := ⟨_, rfl⟩
 obtain ⟨IP, hIP⟩ : ∃ b, isP P = b := ⟨_, rfl⟩
 have HP1 := Lib.hid hP
 have HIP := Lib.hid hIP
 rw [hP, hIP] at cI
 have h0 := Below.refl W0.heap.size W0
 have s1 : IntKind.i64.wrap ((key.size : Int) + (ck.size : Int)) = (key.size : Int) + (ck.size : Int) := by rw [IntKind.wrap_i64]; omega
 have s2 : IntKind.i64.wrap ((key.size : Int) + (ck.size : Int) + (cv.size : Int)) = (key.size : Int) + (ck.size : Int) + (cv.size : Int) := by rw [IntKind.wrap_i64]; omega
 have s3 : IntKind.i64.wrap ((key.size : Int) + (ck.size : Int) + (cv.size : Int) + (f.size : Int)) = (key.size : Int) + (ck.size : Int) + (cv.size : Int) + (f.size : Int) := by rw [IntKind.wrap_i64]; omega
 have s4 : IntKind.i64.wrap ((key.size : Int) + (ck.size : Int) + (cv.size : Int) + (f.size : Int) + (t.size : Int)) = (key.size : Int) + (ck.size : Int) + (cv.size : Int) + (f.size : Int) + (t.size : Int) := by rw [IntKind.wrap_i64]; omega
 clear h hf hg hnm hnp hnz hne hIP hP BO c0 c1 c2 hz0 hlim
 obtain ⟨⟨_, ⟨p0, p1, p2, p3, p4, p5, p6, p7, p8, p9, p10⟩, py⟩, c0, c1, c2⟩ := hbox _ h0
 go_enter Tryz.func7, Tryz.ntmps7
 go_wp2_with (rw [hW0])
 clear hW0
 refine (cS _ h0).mono ?_
 rintro e w1 ⟨⟨r, rfl, hr⟩, b⟩
 have HR := Lib.hid hr
 have h1 := h0.trans (b.mono h0.size)
 clear p0 p1 p2 p3 p4 p5 p6 p7 p8 p9 p10 py c0 c1 c2
 clear b cS hr
 cases r with
 | false =>
  obtain ⟨⟨_, ⟨p0, p1, p2, p3, p4, p5, p6, p7, p8, p9, p10⟩, py⟩, c0, c1, c2⟩ := hbox _ h1
  go_wp2_with fail
  refine (cL _ h1).mono ?_
  rintro e' wl ⟨rfl, bl⟩
  go_wp2_with fail
  go_ret
  exact ⟨rfl, hb0.trans ((h1).trans (bl.mono (h1).size) |>.mono hb0.size)⟩
 | true =>
 have HSM := Lib.hid (HR.out rfl).ps
 clear HR
 obtain ⟨⟨_, ⟨p0, p1, p2, p3, p4, p5, p6, p7, p8, p9, p10⟩, py⟩, c0, c1, c2⟩ := hbox _ h1
 go_wp2_with fail
 refine (cI _ h1).mono ?_
 rintro e w2 ⟨rfl, b⟩
 have h2 := h1.trans (b.mono h1.size)
 clear p0 p1 p2 p3 p4 p5 p6 p7 p8 p9 p10 py c0 c1 c2
 clear b cI
 cases IP with
 | false =>
  obtain ⟨⟨_, ⟨p0, p1, p2, p3, p4, p5, p6, p7, p8, p9, p10⟩, py⟩, c0, c1, c2⟩ := hbox _ h2
  go_wp2_with fail
  refine (cL _ h2).mono ?_
  rintro e' wl ⟨rfl, bl⟩
  go_wp2_with fail
  go_ret
  exact ⟨rfl, hb0.trans ((h2).trans (bl.mono (h2).size) |>.mono hb0.size)⟩
 | true =>
 obtain ⟨⟨_, ⟨p0, p1, p2, p3, p4, p5, p6, p7, p8, p9, p10⟩, py⟩, c0, c1, c2⟩ := hbox _ h2
 by_cases g1 : 10000 < key.size + ck.size + cv.size + f.size + t.size
 ·have e1 : ((10000 : Int) < (key.size : Int) + (ck.size : Int) + (cv.size : Int) + (f.size : Int) + (t.size : Int)) = True := eq_true (by omega)
  have e2 : ((key.size : Int) + (ck.size : Int) + (cv.size : Int) + (f.size : Int) + (t.size : Int) > 10000) = True := eq_true (by omega)
  clear g1
  go_wp2_with fail
  refine (cL _ h2).mono ?_
  rintro e' wl ⟨rfl, bl⟩
  go_wp2_with fail
  go_ret
  exact ⟨rfl, hb0.trans ((h2).trans (bl.mono (h2).size) |>.mono hb0.size)⟩
 have e1 : ((10000 : Int) < (key.size : Int) + (ck.size : Int) + (cv.size : Int) + (f.size : Int) + (t.size : Int)) = False := eq_false (by omega)
 have e2 : ((key.size : Int) + (ck.size : Int) + (cv.size : Int) + (f.size : Int) + (t.size : Int) > 10000) = False := eq_false (by omega)
 clear g1
 by_cases g1 : 10000 < lim
 ·have e3 : (10000 < lim) = True := eq_true g1
  have e4 : (lim > 10000) = True := eq_true g1
  clear g1
  go_wp2_with fail
  refine (cL _ h2).mono ?_
  rintro e' wl ⟨rfl, bl⟩
  go_wp2_with fail
  go_ret
  exact ⟨rfl, hb0.trans ((h2).trans (bl.mono (h2).size) |>.mono hb0.size)⟩
 have e3 : (10000 < lim) = False := eq_false g1
 have e4 : (lim > 10000) = False := eq_false g1
 clear g1
 by_cases g1 : lim < -10000
 ·have e5 : (lim < -10000) = True := eq_true g1
  clear g1
  go_wp2_with fail
  refine (cL _ h2).mono ?_
  rintro e' wl ⟨rfl, bl⟩
  go_wp2_with fail
  go_ret
  exact ⟨rfl, hb0.trans ((h2).trans (bl.mono (h2).size) |>.mono hb0.size)⟩
 have e5 : (lim < -10000) = False := eq_false g1
 clear g1
 have hip := HIP.out
 have hl : ps.length <= 60 := HSM.out
 have ips : P.ps = ps := by rw [<- HP1.out]; rfl
 have hu : Up ps := by rw [<- ips]; exact isP_up hip
 have m1 : d.ms.length <= 1000 := by have := (isD_sizes (isP_d hip)).2.2; rw [<- HP1.out] at this; have h9 : d.ms.length <= 5 := this; omega
 have m2 : zs.length <= 100000 := by have := isS_len (isP_s hip); rw [<- HP1.out] at this; have h9 : zs.length <= 64 := (by simpa [Ph.pl] using this); omega
 have m3 : ea.length <= 100000 := by have := isP_ea hip; rw [<- HP1.out] at this; have h9 : ea.length <= 200 := this; omega
 have KA := fun wx (h : Below W0.heap.size W0 wx) => (KH wx h).ha (by rw [HP1.out]; exact hip)
 have co := fun wx (h : Below W0.heap.size W0 wx) => lown_any ⟨d, .slice A nm ka, ps, .slice B np kb, zs, .slice C nz kc, fr, ea, .slice D ne kd, al⟩ wx (KA wx h) m1 (by show ps.length <= _; omega) m2 m3
 rw [HP1.out] at co
 -- what each call answers
 have cG := fun (a : Ph) wx (ha : HA wx a) (ea : a.pl = P) => by
  have e : a.ps = ps := (congrArg Pl.ps ea).trans ips
  have h := get_any a key wx ha.hp (isP_fit (by rw [ea]; exact hip) (by rw [e]; omega)) (by rw [e]; exact hu)
  rw [e] at h
  exact h
 have cH := fun wx (h : Below W0.heap.size W0 wx) => rget_any ⟨d, .slice A nm ka, ps, .slice B np kb, zs, .slice C nz kc, fr, ea, .slice D ne kd, al⟩ key wx (KA wx h).hp (isP_fit (by rw [HP1.out]; exact hip) (by show ps.length <= _; omega))
 have cN := fun (a : Ph) wx (ha : HA wx a) (ea : a.pl = P) => by
  have e : a.ps = ps := (congrArg Pl.ps ea).trans ips
  have h := scan_any a f t lim wx ha (by rw [e]; exact hu) (by rw [e]; omega) HL.out
  rw [e] at h
  exact h
 have cM := fun wx (h : Below W0.heap.size W0 wx) => rlim_any ⟨d, .slice A nm ka, ps, .slice B np kb, zs, .slice C nz kc, fr, ea, .slice D ne kd, al⟩ f t lim wx (KA wx h) (by show ps.length <= _; omega) HL.out
 have cT := fun (a : Ph) wx (ha : HA wx a) (eap : a.pl = P) => by
  have e : a.ps = ps := (congrArg Pl.ps eap).trans ips
  have e1 : a.d = d := (congrArg Pl.d eap).trans (by rw [<- HP1.out]; rfl)
  have e2 : a.zs.length = zs.length := by have h9 := congrArg (fun p : Pl => p.ss.length) (eap.trans HP1.out.symm); simpa [Ph.pl] using h9
  have e3 : a.ea = ea := (congrArg Pl.ea eap).trans (by rw [<- HP1.out]; rfl)
  have h := set_any a ck cv gn wx ha (by rw [e]; exact hu) (by rw [e1]; exact m1) (by rw [e]; omega) (by rw [e2]; exact m2) (by rw [e3]; exact m3)
  rw [eap] at h
  exact h
 have cU := fun wx (h : Below W0.heap.size W0 wx) => by
  have h := rset_any ⟨d, .slice A nm ka, ps, .slice B np kb, zs, .slice C nz kc, fr, ea, .slice D ne kd, al⟩ ck cv gn wx (KA wx h) (by show ps.length <= _; omega)
  rw [HP1.out] at h
  exact h
 simp only at cH cM
 obtain ⟨gv, gb, hgot⟩ := got_eq (getP ps key)
 rw [hgot] at cG cH
 obtain ⟨LS, LK, hlm⟩ : ∃ LS LK, limP ps f t lim = (LS, LK) := ⟨_, _, rfl⟩
 rw [hlm] at cN cM
 simp only at cN cM
 have hLS : LS.length <= 60 := by
  have : LS = (limP ps f t lim).1 := by rw [hlm]
  rw [this]
  exact Nat.le_trans (lim_len ps f t lim) hl
 have HLS := Lib.hid hLS
 have HFS := Lib.hid (show ∀ o' : Ph, o'.pl = setP P ⟨ck, cv, gn⟩ -> FewP o' from fun o' h => set_few hip (by rw [ips]; omega) _ h)
 have HFO := Lib.hid (show ∀ o' : Ph, o'.pl = P -> FewP o' from fun o' h => isP_few (by rw [h]; exact hip) (by rw [show o'.ps = ps from (congrArg Pl.ps h).trans ips]; omega))
 clear hip hl ips hu m1 m2 m3 hgot hlm hLS
 go_wp2_with fail
 refine (co _ h2).mono ?_
 rintro e w3 ⟨o1, rfl, hp1, ha1, b⟩
 have h3 := h2.trans (b.mono h2.size)
 clear p0 p1 p2 p3 p4 p5 p6 p7 p8 p9 p10 py c0 c1 c2
 clear b
 obtain ⟨⟨_, ⟨p0, p1, p2, p3, p4, p5, p6, p7, p8, p9, p10⟩, py⟩, c0, c1, c2⟩ := hbox _ h3
 have cg := cG o1 w3 ha1 hp1
 clear hp1 ha1
 go_wp2_with fail
 refine cg.mono ?_
 rintro e w4 ⟨rfl, b⟩
 have h4 := h3.trans (b.mono h3.size)
 clear p0 p1 p2 p3 p4 p5 p6 p7 p8 p9 p10 py c0 c1 c2
 clear b cg
 obtain ⟨⟨_, ⟨p0, p1, p2, p3, p4, p5, p6, p7, p8, p9, p10⟩, py⟩, c0, c1, c2⟩ := hbox _ h4
 go_wp2_with fail
 refine (cH _ h4).mono ?_
 rintro e w5 ⟨rfl, b⟩
 have h5 := h4.trans (b.mono h4.size)
 clear p0 p1 p2 p3 p4 p5 p6 p7 p8 p9 p10 py c0 c1 c2
 clear b cH
 obtain ⟨⟨_, ⟨p0, p1, p2, p3, p4, p5, p6, p7, p8, p9, p10⟩, py⟩, c0, c1, c2⟩ := hbox _ h5
 go_wp2_with fail
 refine (co _ h5).mono ?_
 rintro e w6 ⟨o2, rfl, hp2, ha2, b⟩
 have h6 := h5.trans (b.mono h5.size)
 clear p0 p1 p2 p3 p4 p5 p6 p7 p8 p9 p10 py c0 c1 c2
 clear b
 obtain ⟨⟨_, ⟨p0, p1, p2, p3, p4, p5, p6, p7, p8, p9, p10⟩, py⟩, c0, c1, c2⟩ := hbox _ h6
 have cn := cN o2 w6 ha2 hp2
 clear hp2 ha2
 go_wp2_with fail
 refine cn.mono ?_
 rintro e w7 ⟨va, rfl, oa, b⟩
 have h7 := h6.trans (b.mono h6.size)
 have aa := ArgP.of_own oa
 obtain ⟨Aa, ca, rfl⟩ := aa.sm.form
 obtain ⟨NS, hNS⟩ : ∃ n, LS.length = n := ⟨_, rfl⟩
 rw [hNS] at aa ⊢
 clear p0 p1 p2 p3 p4 p5 p6 p7 p8 p9 p10 py c0 c1 c2
 clear b cn oa
 obtain ⟨⟨_, ⟨p0, p1, p2, p3, p4, p5, p6, p7, p8, p9, p10⟩, py⟩, c0, c1, c2⟩ := hbox _ h7
 go_wp2_with fail
 refine (cM _ h7).mono ?_
 rintro e w8 ⟨vb, rfl, ab, b⟩
 have h8 := h7.trans (b.mono h7.size)
 have aa := aa.keep b
 obtain ⟨Ab, cb, rfl⟩ := ab.sm.form
 rw [hNS] at ab ⊢
 clear p0 p1 p2 p3 p4 p5 p6 p7 p8 p9 p10 py c0 c1 c2
 clear b cM
 obtain ⟨⟨_, ⟨p0, p1, p2, p3, p4, p5, p6, p7, p8, p9, p10⟩, py⟩, c0, c1, c2⟩ := hbox _ h8
 go_wp2_with fail
 refine (co _ h8).mono ?_
 rintro e w9 ⟨o3, rfl, hp3, ha3, b⟩
 have h9 := h8.trans (b.mono h8.size)
 have aa := aa.keep b
 have ab := ab.keep b
 clear p0 p1 p2 p3 p4 p5 p6 p7 p8 p9 p10 py c0 c1 c2
 clear b
 obtain ⟨d3, ps3, zs3, fr3, ea3, al3, A3, B3, C3, D3, i1, i2, i3, i4, rfl⟩ := ha3.hp.open
 obtain ⟨W9, hW9⟩ : ∃ W9, w9.alloc (.cells #[.int .i64 d3.id, .string d3.f, .string d3.t, .int .i64 d3.gen, .slice A3 d3.ms.length i1, .int .i64 d3.next, .slice B3 ps3.length i2, .slice C3 zs3.length i3, .bool fr3, .slice D3 ea3.length i4, .int .i64 al3] 38) = W9 := ⟨_, rfl⟩
 have b9 : Below w9.heap.size w9 W9 := hW9 ▸ (Below.refl _ w9).alloc (Nat.le_refl _) _
 have h10 := h9.trans (b9.mono h9.size)
 have BG : BoxP w9.heap.size ⟨d3, .slice A3 d3.ms.length i1, ps3, .slice B3 ps3.length i2, zs3, .slice C3 zs3.length i3, fr3, ea3, .slice D3 ea3.length i4, al3⟩ W9 := hW9 ▸ BoxP.new w9 ⟨d3, .slice A3 d3.ms.length i1, ps3, .slice B3 ps3.length i2, zs3, .slice C3 zs3.length i3, fr3, ea3, .slice D3 ea3.length i4, al3⟩
 have aa := aa.keep b9
 have ab := ab.keep b9
 have ha3 := ha3.keep b9
 obtain ⟨⟨_, ⟨p0, p1, p2, p3, p4, p5, p6, p7, p8, p9, p10⟩, py⟩, c0, c1, c2⟩ := hbox _ h10
 have ct := cT _ W9 ha3 hp3
 obtain ⟨g_0, ⟨g_1, g_2, g_3, g_4, g_5, g_6, g_7, g_8, g_9, g_10, g_11⟩, g_12⟩ := _root_.id BG
 go_wp2_with (rw [hW9])
 clear hW9
 ((try clear g_0); (try clear g_1); (try clear g_2); (try clear g_3); (try clear g_4); (try clear g_5); (try clear g_6); (try clear g_7); (try clear g_8); (try clear g_9); (try clear g_10); (try clear g_11); (try clear g_12))
 refine ct.mono ?_
 rintro e w10 ⟨o4, rfl, hp4, ha4, b⟩
 have h11 := h10.trans (b.mono h10.size)
 have BG := BG.keep b
 have aa := aa.keep b
 have ab := ab.keep b
 have ha3 := ha3.keep b
 clear p0 p1 p2 p3 p4 p5 p6 p7 p8 p9 p10 py c0 c1 c2
 clear b ct
 obtain ⟨d4, ps4, zs4, fr4, ea4, al4, A4, B4, C4, D4, j1, j2, j3, j4, rfl⟩ := ha4.hp.open
 obtain ⟨W11, hW11⟩ : ∃ W11, w10.alloc (.cells #[.int .i64 d4.id, .string d4.f, .string d4.t, .int .i64 d4.gen, .slice A4 d4.ms.length j1, .int .i64 d4.next, .slice B4 ps4.length j2, .slice C4 zs4.length j3, .bool fr4, .slice D4 ea4.length j4, .int .i64 al4] 38) = W11 := ⟨_, rfl⟩
 have b11 : Below w10.heap.size w10 W11 := hW11 ▸ (Below.refl _ w10).alloc (Nat.le_refl _) _
 have h12 := h11.trans (b11.mono h11.size)
 have BQ : BoxP w10.heap.size ⟨d4, .slice A4 d4.ms.length j1, ps4, .slice B4 ps4.length j2, zs4, .slice C4 zs4.length j3, fr4, ea4, .slice D4 ea4.length j4, al4⟩ W11 := hW11 ▸ BoxP.new w10 ⟨d4, .slice A4 d4.ms.length j1, ps4, .slice B4 ps4.length j2, zs4, .slice C4 zs4.length j3, fr4, ea4, .slice D4 ea4.length j4, al4⟩
 have BG := BG.keep b11
 have aa := aa.keep b11
 have ab := ab.keep b11
 have ha3 := ha3.keep b11
 have ha4 := ha4.keep b11
 have cE := fun wx (hb : Below W11.heap.size W11 wx) => Od.pairs_any (.slice Aa NS ca) (.slice Ab NS cb) LS LS wx (aa.keep hb).sm (ab.keep hb).sm (by have := HLS.out; omega) (by have := HLS.out; omega)
 rw [decide_eq_true rfl] at cE
 have KO := fun wx (hb : Below W11.heap.size W11 wx) => KA wx (h12.trans (hb.mono h12.size))
 have cQ := fun (b : Ph) wx (hb : Below W11.heap.size W11 wx) (hB : HA wx b) (eb : b.pl = setP P ⟨ck, cv, gn⟩) => rsame_yes _ b wx (ha4.keep hb).hp hB.hp (hp4.trans eb.symm) ha4.np hB.np (HFS.out _ hp4)
 have cR := fun wx (hb : Below W11.heap.size W11 wx) => rsame_yes _ ⟨d, .slice A nm ka, ps, .slice B np kb, zs, .slice C nz kc, fr, ea, .slice D ne kd, al⟩ wx (ha3.keep hb).hp (KO wx hb).hp (hp3.trans HP1.out.symm) ha3.np (KO wx hb).np (HFO.out _ hp3)
 have cUU := fun wx (hb : Below W11.heap.size W11 wx) => cU wx (h12.trans (hb.mono h12.size))
 have cLL := fun wx (hb : Below W11.heap.size W11 wx) => cL wx (h12.trans (hb.mono h12.size))
 have bx := fun wx (hb : Below W11.heap.size W11 wx) => hbox wx (h12.trans (hb.mono h12.size))
 have bg := fun wx (hb : Below W11.heap.size W11 wx) => BG.keep hb
 have bq := fun wx (hb : Below W11.heap.size W11 wx) => BQ.keep hb
 clear cU cG cN cT co aa ab ha3 ha4 hp3 hp4 hNS BG b9 b11
 obtain ⟨⟨_, ⟨p0, p1, p2, p3, p4, p5, p6, p7, p8, p9, p10⟩, py⟩, c0, c1, c2⟩ := hbox _ h12
 obtain ⟨q_0, ⟨q_1, q_2, q_3, q_4, q_5, q_6, q_7, q_8, q_9, q_10, q_11⟩, q_12⟩ := _root_.id BQ
 go_wp2_with (rw [hW11])
 clear hW11
 ((try clear q_0); (try clear q_1); (try clear q_2); (try clear q_3); (try clear q_4); (try clear q_5); (try clear q_6); (try clear q_7); (try clear q_8); (try clear q_9); (try clear q_10); (try clear q_11); (try clear q_12))
 clear p0 p1 p2 p3 p4 p5 p6 p7 p8 p9 p10 py c0 c1 c2
 refine St.wp_region_mixed (RV W11 (setP P ⟨ck, cv, gn⟩)) (fun i z => match i with | 11 => z = .bool true | 22 => ∃ (d : De) (ps : List Pr) (zs : List Zs) (fr : Bool) (ea : List Int) (al : Int) (A B C D : Option Addr) (n1 n2 n3 n4 k1 k2 k3 k4 : Nat), z = qv ⟨d, .slice A n1 k1, ps, .slice B n2 k2, zs, .slice C n3 k3, fr, ea, .slice D n4 k4, al⟩ | 23 => z = .bool true | 28 => z = .bool true | 31 => z = .bool true | _ => False) (by kernel_rfl) (by kernel_rfl) (by kernel_rfl) ⟨(Below.refl _ _).drew, fun h => (by cases h)⟩ ?_
 iterate 11
  (apply St.mix_give
   ·rfl
   ·intro L u' wx hS hcl hrd hag
    go_simp
    try with_reducible rfl
   ·exact fun L u' wx hS => hS.plain (by decide) _
   simp only [Act.put, St.pu])
 refine St.mix_call (f := 34) (args := #[.slice Aa NS ca, .slice Ab NS cb]) rfl ?_ ?_ ?_
 ·intro wx
  go_simp
  try with_reducible rfl
 ·intro L u' wx hS hcl hrd hag
  refine (cE wx hS.low).mono ?_
  rintro e w' ⟨rfl, hb⟩
  exact ⟨_, rfl, rfl, hS.into (by decide) hb _⟩
 rintro y11 rfl
 simp only [Act.put, St.pu]
 iterate 7
  (apply St.mix_give
   ·rfl
   ·intro L u' wx hS hcl hrd hag
    go_simp
    try with_reducible rfl
   ·exact fun L u' wx hS => hS.plain (by decide) _
   simp only [Act.put, St.pu])
 (apply St.mix_give
  ·rfl
  ·intro L u' wx hS hcl hrd hag
   obtain ⟨_, ⟨q0, q1, q2, q3, q4, q5, q6, q7, q8, q9, q10⟩, qy⟩ := bq wx hS.low
   go_simp
   try with_reducible rfl
  ·exact fun L u' wx hS => hS.plain (by decide) _
  simp only [Act.put, St.pu])
 (apply St.mix_give
  ·rfl
  ·intro L u' wx hS hcl hrd hag
   obtain ⟨⟨_, ⟨p0, p1, p2, p3, p4, p5, p6, p7, p8, p9, p10⟩, py⟩, c0, c1, c2⟩ := bx wx hS.low
   go_simp
   try with_reducible rfl
  ·exact fun L u' wx hS => hS.plain (by decide) _
  simp only [Act.put, St.pu])
 (apply St.mix_give
  ·rfl
  ·intro L u' wx hS hcl hrd hag
   obtain ⟨⟨_, ⟨p0, p1, p2, p3, p4, p5, p6, p7, p8, p9, p10⟩, py⟩, c0, c1, c2⟩ := bx wx hS.low
   go_simp
   try with_reducible rfl
  ·exact fun L u' wx hS => hS.plain (by decide) _
  simp only [Act.put, St.pu])
 refine St.mix_call (f := 35) (args := #[qv ⟨d, .slice A nm ka, ps, .slice B np kb, zs, .slice C nz kc, fr, ea, .slice D ne kd, al⟩, .agg #[.string ck, .string cv, .bool gn]]) rfl ?_ ?_ ?_
 ·intro wx
  go_simp
  try with_reducible rfl
 ·intro L u' wx hS hcl hrd hag
  refine (cUU wx hS.low).mono ?_
  rintro e w' ⟨o5, rfl, hp5, ha5, hb⟩
  obtain ⟨d5, ps5, zs5, fr5, ea5, al5, A5, B5, C5, D5, k1, k2, k3, k4, rfl⟩ := ha5.hp.open
  exact ⟨_, rfl, ⟨_, _, _, _, _, _, _, _, _, _, _, _, _, _, _, _, _, _, rfl⟩, hS.got hb hp5 ha5⟩
 rintro y22 ⟨d5, ps5, zs5, fr5, ea5, al5, A5, B5, C5, D5, n1, n2, n3, n4, k1, k2, k3, k4, rfl⟩
 simp only [Act.put, St.pu]
 refine St.mix_call (f := 27) (args := #[qv ⟨d4, .slice A4 d4.ms.length j1, ps4, .slice B4 ps4.length j2, zs4, .slice C4 zs4.length j3, fr4, ea4, .slice D4 ea4.length j4, al4⟩, qv ⟨d5, .slice A5 n1 k1, ps5, .slice B5 n2 k2, zs5, .slice C5 n3 k3, fr5, ea5, .slice D5 n4 k4, al5⟩]) rfl ?_ ?_ ?_
 ·intro wx
  go_simp
  try with_reducible rfl
 ·intro L u' wx hS hcl hrd hag
  obtain ⟨o5, e5', hp5, ha5⟩ := hS.set (St.before_ready hcl hrd 60 22 (by kernel_rfl))
  have f5 : qv ⟨d5, .slice A5 n1 k1, ps5, .slice B5 n2 k2, zs5, .slice C5 n3 k3, fr5, ea5, .slice D5 n4 k4, al5⟩ = qv o5 := (hag 60 22 (by kernel_rfl)).symm.trans e5'
  rw [f5]
  refine (cQ o5 wx hS.low ha5 hp5).mono ?_
  rintro e w' ⟨rfl, hb⟩
  exact ⟨_, rfl, rfl, hS.into (by decide) hb _⟩
 rintro y23 rfl
 simp only [Act.put, St.pu]
 iterate 2
  (apply St.mix_give
   ·rfl
   ·intro L u' wx hS hcl hrd hag
    go_simp
    try with_reducible rfl
   ·exact fun L u' wx hS => hS.plain (by decide) _
   simp only [Act.put, St.pu])
 (apply St.mix_give
  ·rfl
  ·intro L u' wx hS hcl hrd hag
   obtain ⟨_, ⟨g0, g1, g2, g3, g4, g5, g6, g7, g8, g9, g10⟩, gy⟩ := bg wx hS.low
   go_simp
   try with_reducible rfl
  ·exact fun L u' wx hS => hS.plain (by decide) _
  simp only [Act.put, St.pu])
 (apply St.mix_give
  ·rfl
  ·intro L u' wx hS hcl hrd hag
   obtain ⟨⟨_, ⟨p0, p1, p2, p3, p4, p5, p6, p7, p8, p9, p10⟩, py⟩, c0, c1, c2⟩ := bx wx hS.low
   go_simp
   try with_reducible rfl
  ·exact fun L u' wx hS => hS.plain (by decide) _
  simp only [Act.put, St.pu])
 refine St.mix_call (f := 27) (args := #[qv ⟨d3, .slice A3 d3.ms.length i1, ps3, .slice B3 ps3.length i2, zs3, .slice C3 zs3.length i3, fr3, ea3, .slice D3 ea3.length i4, al3⟩, qv ⟨d, .slice A nm ka, ps, .slice B np kb, zs, .slice C nz kc, fr, ea, .slice D ne kd, al⟩]) rfl ?_ ?_ ?_
 ·intro wx
  go_simp
  try with_reducible rfl
 ·intro L u' wx hS hcl hrd hag
  refine (cR wx hS.low).mono ?_
  rintro e w' ⟨rfl, hb⟩
  exact ⟨_, rfl, rfl, hS.into (by decide) hb _⟩
 rintro y28 rfl
 simp only [Act.put, St.pu]
 iterate 2
  (apply St.mix_give
   ·rfl
   ·intro L u' wx hS hcl hrd hag
    go_simp
    try with_reducible rfl
   ·exact fun L u' wx hS => hS.plain (by decide) _
   simp only [Act.put, St.pu])
 refine St.mix_call (f := 23) (args := #[]) rfl ?_ ?_ ?_
 ·intro wx
  go_simp
  try with_reducible rfl
 ·intro L u' wx hS hcl hrd hag
  refine (cLL wx hS.low).mono ?_
  rintro e w' ⟨rfl, hb⟩
  exact ⟨_, rfl, rfl, hS.into (by decide) hb _⟩
 rintro y31 rfl
 simp only [Act.put, St.pu]
 iterate 2
  (apply St.mix_give
   ·rfl
   ·intro L u' wx hS hcl hrd hag
    go_simp
    try with_reducible rfl
   ·exact fun L u' wx hS => hS.plain (by decide) _
   simp only [Act.put, St.pu])
 refine St.mix_last ?_
 intro L w12 hS hall
 have h13 := h12.trans (hS.low.mono h12.size)
 clear hS hall bx bg bq cE cQ cR cUU cLL KO KA
 go_wp2_with fail
 go_ret
 exact ⟨rfl, hb0.trans (h13.mono hb0.size)⟩
end Go.Proofs.YthcmnkmfhgoddaaGreatDoor.Dp

/-
  MemberSame, walked. Conditions: lengths at most 2^47; numbers such as a program can hold; the library's variables hold what their types allow.
-/
import Derived.Test.YthcmnkmfhgoddaaGreatDoorSMbLRA
import Derived.Test.YthcmnkmfhgoddaaGreatDoorSDpPA
import Derived.Test.YthcmnkmfhgoddaaGreatDoorSDpRIs
import Derived.Test.YthcmnkmfhgoddaaGreatDoorSOdRC
import Derived.Test.YthcmnkmfhgoddaaGreatDoorSOdLA
import Derived.Test.YthcmnkmfhgoddaaGreatDoorSDpLA
import Derived.Test.YthcmnkmfhgoddaaGreatDoorSDsSMA
namespace Go.Proofs.YthcmnkmfhgoddaaGreatDoor.Mb
open Go.RowKit Bnd
open Go.Proofs.YthcmnkmfhgoddaaGreatDoor.Ds (De SM ArgM isD dv BoxE BoxD putW sameD)
open Go.Proofs.YthcmnkmfhgoddaaGreatDoor.Od (BoxA av putA LimA FitA InA smallA isA ownA keyedK)
open Go.Proofs.YthcmnkmfhgoddaaGreatDoor.Ro (SE En)
open Go.Proofs.YthcmnkmfhgoddaaGreatDoor.Dp (Ph HA HB HP FitP qv BoxP isP)
open Go.Proofs.YthcmnkmfhgoddaaGreatDoor.O (hasB)
theorem isA_short {o : Od.Ask} (h : isA o = true) : o.key.size <= 100 /\ o.til.size <= 100 /\ o.old.size <= 100 := by
  unfold Od.isA at h
  simp only [Bool.or_eq_true, Bool.and_eq_true] at h
  rcases h with h | ⟨⟨⟨h1, _⟩, _⟩, h4⟩
  · rw [(Od.sameA_iff _ _).1 h]
    exact ⟨Nat.zero_le _, Nat.zero_le _, Nat.zero_le _⟩
  · have ho := (Od.sameA_iff _ _).1 h1
    have ek : o.key = if keyedK o.kind = true then o.key else Od.E0 := congrArg Od.Ask.key ho
    have et : o.til = if o.kind = 5 then o.til else Od.E0 := congrArg Od.Ask.til ho
    have ed : o.old = if o.kind = 4 then o.old else Od.E0 := congrArg Od.Ask.old ho
    have hz : (Od.E0 : ByteArray).size = 0 := rfl
    have hsz : ∀ x : ByteArray, x.toList.length = x.size := fun x => by rw [ByteArray.toList_eq]; simp
    unfold Od.fitsA at h4
    by_cases k6 : o.kind = 6
    · rw [if_neg (by rw [k6]; decide)] at ek
      rw [if_neg (by omega)] at et ed
      rw [ek, et, ed, hz]
      omega
    rw [if_neg k6] at h4
    by_cases k5 : o.kind = 5
    · rw [if_pos k5] at h4
      rw [if_neg (by omega)] at ed
      simp only [Bool.and_eq_true] at h4
      obtain ⟨h6, h7, _⟩ := (O.isB_iff _).1 h4.1
      simp only at h6 h7
      have := hsz o.key
      have := hsz o.til
      rw [ed, hz]
      omega
    rw [if_neg k5] at h4 et
    by_cases k13 : o.kind = 13
    · rw [if_neg (by rw [k13]; decide)] at ek
      rw [if_neg (by omega)] at ed
      rw [ek, et, ed, hz]
      omega
    rw [if_neg k13] at h4
    simp only [Bool.and_eq_true] at h4
    have hk := h4.1
    unfold O.keyB at hk
    simp only [Bool.and_eq_true, decide_eq_true_eq] at hk
    have := hsz o.key
    rw [et, hz]
    refine ⟨by omega, by omega, ?_⟩
    by_cases k4 : o.kind = 4
    · have hf := h4.2
      unfold Od.fitsKeyA at hf
      rw [k4] at hf
      simp at hf
      omega
    · rw [if_neg k4] at ed
      rw [ed, hz]
      omega
theorem of_own_text {d : De} {x : Od.Ask} {X : ByteArray} (hx : isA x = true) (hi : InA x) (hX : X = ⟨(putA x).toArray⟩) (hl : (putA x).length <= 1048576) : ofD d [(0, X)] = turnD d x := by
  subst hX
  show ofD (stepD d (⟨(putA x).toArray⟩ : ByteArray).data.toList) [] = _
  show stepD d (⟨(putA x).toArray⟩ : ByteArray).data.toList = _
  rw [show (⟨(putA x).toArray⟩ : ByteArray).data.toList = putA x by simp]
  unfold stepD
  rw [Od.parse_put hi hl, if_pos hx]
  rfl
theorem one_ent (w : World) (x : ByteArray) : SE (w.alloc (.cells #[.int .i64 0, .string x] 47)) (w.alloc (.cells #[.int .i64 0, .string x] 47)).heap.size (.slice (some ⟨w.heap.size, 0, none⟩) 1 1) [(0, x)] := by
  refine ⟨_, _, rfl, fun _ => ⟨w.heap.size, 0, rfl, by simp, fun i hi => ?_⟩⟩
  have hi0 : i = 0 := by simpa using hi
  subst hi0
  exact ⟨by simp [go_sem], by simp [go_sem]⟩
set_option maxHeartbeats 32000000 in
set_option maxRecDepth 100000 in
theorem same_walk (o : Ph) (x : Od.Ask) (w : World) (h : HB w o) (hf : FitP o) (hx : LimA x) (hg : Good w) :
    Calls Tryz.prog 5 #[qv o, av x] w fun e w' => e = .returned (.bool true) /\ Below w.heap.size w w' := by
  have HX := Lib.hid hx
  have HG := Lib.hid hg
  have HH := Lib.hid h
  have HF := Lib.hid hf
  have hp := h.hp
  obtain ⟨d, ps, zs, fr, ea, al, A, B, C, D, ka, kb, kc, kg, rfl⟩ := hp.open
  obtain ⟨nm, hnm⟩ : ∃ n, d.ms.length = n := ⟨_, rfl⟩
  obtain ⟨np, hnp⟩ : ∃ n, ps.length = n := ⟨_, rfl⟩
  obtain ⟨nz, hnz⟩ : ∃ n, zs.length = n := ⟨_, rfl⟩
  obtain ⟨ne, hne⟩ : ∃ n, ea.length = n := ⟨_, rfl⟩
  have HNM := Lib.hid hnm
  have HNZ := Lib.hid hnz
  rw [hnm, hnp, hnz, hne] at HH HF ⊢
  obtain ⟨W0, hW0⟩ : ∃ W0, (w.alloc (.cells #[.int .i64 d.id, .string d.f, .string d.t, .int .i64 d.gen, .slice A nm ka, .int .i64 d.next, .slice B np kb, .slice C nz kc, .bool fr, .slice D ne kg, .int .i64 al] 38)).alloc (.cells #[.int .i64 x.kind, .int .i64 x.client, .int .i64 x.seq, .string x.key, .string x.til, .string x.val, .string x.old, .bool x.has, .int .i64 x.lim, .int .i64 x.id, .int .i64 x.node] 40) = W0 := ⟨_, rfl⟩
  have hb0 : Below w.heap.size w W0 := hW0 ▸ (by exact bex0)
  have BP : BoxP w.heap.size ⟨d, .slice A nm ka, ps, .slice B np kb, zs, .slice C nz kc, fr, ea, .slice D ne kg, al⟩ W0 := hW0 ▸ (BoxP.new w ⟨d, .slice A nm ka, ps, .slice B np kb, zs, .slice C nz kc, fr, ea, .slice D ne kg, al⟩).alloc _
  have BO : BoxA (w.heap.size + 1) x W0 := by
    have h := BoxA.new (w.alloc (.cells #[.int .i64 d.id, .string d.f, .string d.t, .int .i64 d.gen, .slice A nm ka, .int .i64 d.next, .slice B np kb, .slice C nz kc, .bool fr, .slice D ne kg, .int .i64 al] 38)) x
    rw [hW0] at h
    simpa using h
  have KH := fun w' (h : Below W0.heap.size W0 w') => HH.out.keep (hb0.trans (h.mono hb0.size))
  have cP := fun w' (h : Below W0.heap.size W0 w') => plot_any ⟨d, .slice A nm ka, ps, .slice B np kb, zs, .slice C nz kc, fr, ea, .slice D ne kg, al⟩ w' (KH w' h).hp HF.out
  have cI := fun w' (h : Below W0.heap.size W0 w') => Dp.ris_any ⟨d, .slice A nm ka, ps, .slice B np kb, zs, .slice C nz kc, fr, ea, .slice D ne kg, al⟩ w' (KH w' h).hp HF.out
  have cO := fun w' => Od.ris_any x w' HX.out.key HX.out.til HX.out.val
  have cB := fun w' => Bnd.rhas_any d.f d.t x.key w'
  have cL := fun w' (h : Below W0.heap.size W0 w') => live_any w' (HG.out.below (hb0.trans (h.mono hb0.size)))
  obtain ⟨IP, hIP⟩ : ∃ b, isP (Ph.pl ⟨d, .slice A nm ka, ps, .slice B np kb, zs, .slice C nz kc, fr, ea, .slice D ne kg, al⟩) = b := ⟨_, rfl⟩
  obtain ⟨IA, hIA⟩ : ∃ b, isA x = b := ⟨_, rfl⟩
  obtain ⟨IB, hIB⟩ : ∃ b, hasB (Bnd.B d.f d.t) x.key.toList = b := ⟨_, rfl⟩
  have HIP := Lib.hid hIP
  have HIA := Lib.hid hIA
  have HIB := Lib.hid hIB
  rw [hIP] at cI
  rw [hIA] at cO
  rw [hIB] at cB
  have h0 := Below.refl W0.heap.size W0
  have hbox : ∀ wx, Below W0.heap.size W0 wx -> BoxP w.heap.size ⟨d, .slice A nm ka, ps, .slice B np kb, zs, .slice C nz kc, fr, ea, .slice D ne kg, al⟩ wx /\ BoxA (w.heap.size + 1) x wx := fun wx h => ⟨BP.keep h, BO.keep h⟩
  clear h hp hf hx hg hnm hnp hnz hne hIP hIA hIB BP BO
  obtain ⟨⟨_, ⟨p0, p1, p2, p3, p4, p5, p6, p7, p8, p9, p10⟩, y0⟩, ⟨_, ⟨o0, o1, o2, o3, o4, o5, o6, o7, o8, o9, o10⟩, y1⟩⟩ := hbox _ h0
  go_enter Tryz.func5, Tryz.ntmps5
  go_wp2_with fail
  try rw [hW0]
  clear hW0
  try go_wp2_with fail
  refine (cP _ h0).mono ?_
  rintro e w1 ⟨⟨x1, rfl⟩, b⟩
  have h1 := h0.trans (b.mono h0.size)
  clear p0 p1 p2 p3 p4 p5 p6 p7 p8 p9 p10 y0 o0 o1 o2 o3 o4 o5 o6 o7 o8 o9 o10 y1
  clear b cP
  cases x1 with
  | false =>
    go_wp2_with fail
    refine (cL _ h1).mono ?_
    rintro e wz ⟨rfl, b⟩
    have hz := (h1).trans (b.mono (h1).size)
    go_wp2_with fail
    go_ret
    exact ⟨rfl, hb0.trans (hz.mono hb0.size)⟩
  | true =>
  obtain ⟨⟨_, ⟨p0, p1, p2, p3, p4, p5, p6, p7, p8, p9, p10⟩, y0⟩, ⟨_, ⟨o0, o1, o2, o3, o4, o5, o6, o7, o8, o9, o10⟩, y1⟩⟩ := hbox _ h1
  go_wp2_with fail
  refine (cI _ h1).mono ?_
  rintro e w2 ⟨rfl, b⟩
  have h2 := h1.trans (b.mono h1.size)
  clear p0 p1 p2 p3 p4 p5 p6 p7 p8 p9 p10 y0 o0 o1 o2 o3 o4 o5 o6 o7 o8 o9 o10 y1
  clear b cI
  cases IP with
  | false =>
    go_wp2_with fail
    refine (cL _ h2).mono ?_
    rintro e wz ⟨rfl, b⟩
    have hz := (h2).trans (b.mono (h2).size)
    go_wp2_with fail
    go_ret
    exact ⟨rfl, hb0.trans (hz.mono hb0.size)⟩
  | true =>
  cases fr with
  | true =>
    obtain ⟨⟨_, ⟨p0, p1, p2, p3, p4, p5, p6, p7, p8, p9, p10⟩, y0⟩, ⟨_, ⟨o0, o1, o2, o3, o4, o5, o6, o7, o8, o9, o10⟩, y1⟩⟩ := hbox _ h2
    go_wp2_with fail
    refine (cL _ h2).mono ?_
    rintro e wz ⟨rfl, b⟩
    have hz := (h2).trans (b.mono (h2).size)
    go_wp2_with fail
    go_ret
    exact ⟨rfl, hb0.trans (hz.mono hb0.size)⟩
  | false =>
  by_cases hz : 0 < nz
  · have z1 : ((0 : Int) < (nz : Int)) = True := eq_true (by omega)
    have z2 : ((nz : Int) > 0) = True := eq_true (by omega)
    have z3 : (0 < nz) = True := eq_true hz
    have z4 : (nz = 0) = False := eq_false (by omega)
    clear hz
    obtain ⟨⟨_, ⟨p0, p1, p2, p3, p4, p5, p6, p7, p8, p9, p10⟩, y0⟩, ⟨_, ⟨o0, o1, o2, o3, o4, o5, o6, o7, o8, o9, o10⟩, y1⟩⟩ := hbox _ h2
    go_wp2_with fail
    refine (cL _ h2).mono ?_
    rintro e wz ⟨rfl, b⟩
    have hz := (h2).trans (b.mono (h2).size)
    go_wp2_with fail
    go_ret
    exact ⟨rfl, hb0.trans (hz.mono hb0.size)⟩
  have hz0 : zs.length = 0 := by have := HNZ.out; omega
  obtain rfl : nz = 0 := by omega
  obtain rfl : zs = [] := List.eq_nil_of_length_eq_zero hz0
  clear hz hz0
  obtain ⟨⟨_, ⟨p0, p1, p2, p3, p4, p5, p6, p7, p8, p9, p10⟩, y0⟩, ⟨_, ⟨o0, o1, o2, o3, o4, o5, o6, o7, o8, o9, o10⟩, y1⟩⟩ := hbox _ h2
  go_wp2_with fail
  refine (cO _).mono ?_
  rintro e w3 ⟨rfl, b⟩
  have h3 := h2.trans (b.mono h2.size)
  clear p0 p1 p2 p3 p4 p5 p6 p7 p8 p9 p10 y0 o0 o1 o2 o3 o4 o5 o6 o7 o8 o9 o10 y1
  clear b cO
  cases IA with
  | false =>
    go_wp2_with fail
    refine (cL _ h3).mono ?_
    rintro e wz ⟨rfl, b⟩
    have hz := (h3).trans (b.mono (h3).size)
    go_wp2_with fail
    go_ret
    exact ⟨rfl, hb0.trans (hz.mono hb0.size)⟩
  | true =>
  obtain ⟨⟨_, ⟨p0, p1, p2, p3, p4, p5, p6, p7, p8, p9, p10⟩, y0⟩, ⟨_, ⟨o0, o1, o2, o3, o4, o5, o6, o7, o8, o9, o10⟩, y1⟩⟩ := hbox _ h3
  by_cases hv : 10000 < x.val.size
  · have v1 : ((10000 : Int) < (x.val.size : Int)) = True := eq_true (by omega)
    have v2 : ((x.val.size : Int) > 10000) = True := eq_true (by omega)
    clear hv
    go_wp2_with fail
    refine (cL _ h3).mono ?_
    rintro e wz ⟨rfl, b⟩
    have hz := (h3).trans (b.mono (h3).size)
    go_wp2_with fail
    go_ret
    exact ⟨rfl, hb0.trans (hz.mono hb0.size)⟩
  have v1 : ((10000 : Int) < (x.val.size : Int)) = False := eq_false (by omega)
  have v2 : ((x.val.size : Int) > 10000) = False := eq_false (by omega)
  have HV := Lib.hid (show x.val.size <= 10000 by omega)
  clear hv
  go_wp2_with fail
  refine (cB _).mono ?_
  rintro e w4 ⟨rfl, b⟩
  have h4 := h3.trans (b.mono h3.size)
  clear p0 p1 p2 p3 p4 p5 p6 p7 p8 p9 p10 y0 o0 o1 o2 o3 o4 o5 o6 o7 o8 o9 o10 y1
  clear b cB v1 v2
  cases IB with
  | false =>
    go_wp2_with fail
    refine (cL _ h4).mono ?_
    rintro e wz ⟨rfl, b⟩
    have hz := (h4).trans (b.mono (h4).size)
    go_wp2_with fail
    go_ret
    exact ⟨rfl, hb0.trans (hz.mono hb0.size)⟩
  | true =>
  have hip := HIP.out
  have hia := HIA.out
  have hib := HIB.out
  have hd1 : isD d = true := Dp.isP_d hip
  have hd2 : d.ms.length <= 1000 := by have := ((Ds.isD_iff d).1 hd1).2.2.2.2.1.2; omega
  obtain ⟨sk, st, so⟩ := isA_short hia
  have hsm : smallA x = true := by unfold Od.smallA; simp only [decide_eq_true_eq]; have := HV.out; omega
  have hfit := HX.out.fit hsm
  have hshort := Od.put_short hfit hsm
  obtain ⟨X, hX⟩ : ∃ X : ByteArray, X = ⟨(putA x).toArray⟩ := ⟨_, rfl⟩
  have hXs : X.size <= 200000 := by rw [hX]; simpa [ByteArray.size] using hshort
  have hE := of_own_text (d := d) hia HX.out.r hX (by omega)
  have hmay := may_same (p := Ph.pl ⟨d, .slice A nm ka, ps, .slice B np kb, [], .slice C 0 kc, false, ea, .slice D ne kg, al⟩) (o := x) rfl rfl hia hib
  have cT := fun w' => Od.rput_any x w' hfit
  obtain ⟨E, hEE⟩ : ∃ E, turnD d x = E := ⟨_, rfl⟩
  have hEi : isD E = true := hEE ▸ turn_is hd1 x
  have hEn : E.ms.length <= 1000 := by have := ((Ds.isD_iff E).1 hEi).2.2.2.2.1.2; omega
  have cF := fun s v w' (h : Below W0.heap.size W0 w') (hs : ArgM w' s d.ms) (hv : SE w' w'.heap.size v [(0, X)]) => of_any d s v [(0, X)] w' hs hd1 hv (by simp) (fun e he => by obtain rfl := List.mem_singleton.1 he; show X.size <= _; omega) (HG.out.below (hb0.trans (h.mono hb0.size)))
  rw [hE, hEE] at cF
  have cM := fun w' (h : Below W0.heap.size W0 w') => may_any ⟨d, .slice A nm ka, ps, .slice B np kb, [], .slice C 0 kc, false, ea, .slice D ne kg, al⟩ x w' ((KH w' h).ha hip) hip HX.out.key HX.out.til HX.out.val (HG.out.below (hb0.trans (h.mono hb0.size)))
  rw [hmay] at cM
  have cD := fun sa sb w' (ha : ArgM w' sa E.ms) (hb : ArgM w' sb d.ms) => Ds.rsame_any E d sa sb w' ha.sm hb.sm (by omega) (by omega)
  have hsd : sameD (turnD (Ph.pl ⟨d, .slice A nm ka, ps, .slice B np kb, [], .slice C 0 kc, false, ea, .slice D ne kg, al⟩).d x) (Ph.pl ⟨d, .slice A nm ka, ps, .slice B np kb, [], .slice C 0 kc, false, ea, .slice D ne kg, al⟩).d = sameD E d := by rw [<- hEE]; rfl
  rw [hsd] at cM
  obtain ⟨SD, hSD⟩ : ∃ b, sameD E d = b := ⟨_, rfl⟩
  rw [hSD] at cM cD
  have cP' : ∀ w', Calls Tryz.prog 21 #[av x] w' fun e w'' => e = .returned (.string X) /\ Below w'.heap.size w' w'' := fun w' => by rw [hX]; exact cT w'
  have KS := fun w' (h : Below W0.heap.size W0 w') => (KH w' h).sm
  obtain ⟨nE, hnE⟩ : ∃ n, E.ms.length = n := ⟨_, rfl⟩
  have HNE := Lib.hid hnE
  simp only at KS
  clear cT hX hE hEE hEi hEn hnE hsd hSD hmay hfit hshort hsm hip hia hib hd1 hd2 sk st so HIP HIA HIB HNZ HF
  go_wp2_with fail
  refine St.wp_region_mixed (RS W0 E [(0, X)]) (fun j x => match j with | 3 => x = .string X | 6 => ∃ A c, x = dv E (.slice A nE c) | _ => True) (by kernel_rfl) (by kernel_rfl) (by kernel_rfl) (RS.start h4) ?_
  apply St.mix_give
  · rfl
  · intro L u' wx hS hcl hrd hag
    go_simp
    try with_reducible rfl
  · exact fun L u' wx hS => hS.plain (by decide) (by decide) (by decide) (by decide) _
  simp only [Act.put, St.pu]
  iterate 2
    apply St.mix_give
    · rfl
    · intro L u' wx hS hcl hrd hag
      obtain ⟨⟨_, ⟨p0, p1, p2, p3, p4, p5, p6, p7, p8, p9, p10⟩, y0⟩, ⟨_, ⟨o0, o1, o2, o3, o4, o5, o6, o7, o8, o9, o10⟩, y1⟩⟩ := hbox _ hS.low
      go_simp
      try with_reducible rfl
    · exact fun L u' wx hS => hS.plain (by decide) (by decide) (by decide) (by decide) _
    simp only [Act.put, St.pu]
  refine St.mix_into (f := 21) (args := #[av x]) rfl rfl ?_ ?_ ?_
  · intro wx
    go_simp
    try with_reducible rfl
  · intro L u' wx hS hcl hrd hag
    refine (cP' wx).mono ?_
    rintro e w' ⟨rfl, b⟩
    exact ⟨rfl, (hS.turn (St.not_yet hcl hrd 60 8 (by kernel_rfl)) b).plain (by decide) (by decide) (by decide) (by decide) _⟩
  simp only [Act.put, St.pu]
  apply St.mix_give
  · rfl
  · intro L u' wx hS hcl hrd hag
    go_simp
    try with_reducible rfl
  · exact fun L u' wx hS => hS.plain (by decide) (by decide) (by decide) (by decide) _
  simp only [Act.put, St.pu]
  refine St.mix_free (fun z => ∃ b, z = .slice (some ⟨b, 0, none⟩) 1 1) rfl ?_ ?_
  · intro L u' wx hS hcl hrd hag
    refine ⟨.slice (some ⟨wx.heap.size, 0, none⟩) 1 1, wx.alloc (.cells #[.int .i64 0, .string X] 47), ⟨_, rfl⟩, ?_, hS.made (St.not_yet hcl hrd 60 8 (by kernel_rfl)) ((Below.refl _ wx).alloc (Nat.le_refl _) _) (one_ent wx X)⟩
    go_simp
    try with_reducible rfl
  rintro y5 ⟨b5, rfl⟩
  simp only [Act.put, St.pu]
  refine St.mix_call (f := 13) (args := #[dv d (.slice A nm ka), .slice (some ⟨b5, 0, none⟩) 1 1]) rfl ?_ ?_ ?_
  · intro wx
    go_simp
    try with_reducible rfl
  · intro L u' wx hS hcl hrd hag
    have h8 := (St.not_yet hcl hrd 60 8 (by kernel_rfl))
    have a5 := hS.arr (St.before_ready hcl hrd 6 5 (by kernel_rfl)) h8
    rw [show u' 5 = .slice (some ⟨b5, 0, none⟩) 1 1 from hag 6 5 (by kernel_rfl)] at a5
    refine (cF _ _ wx hS.low (KS wx hS.low) a5).mono ?_
    rintro e w' ⟨s6, rfl, a6, b⟩
    obtain ⟨A6, c6, rfl⟩ := a6.form
    exact ⟨_, rfl, ⟨A6, c6, by rw [HNE.out]⟩, hS.of h8 b a6⟩
  rintro y6 ⟨A6, c6, rfl⟩
  simp only [Act.put, St.pu]
  refine St.mix_free (fun z => ∃ n : Nat, z = .pointer (some ⟨n, 0, none⟩)) rfl ?_ ?_
  · intro L u' wx hS hcl hrd hag
    refine ⟨_, _, ⟨wx.heap.size, rfl⟩, ?_, hS.boxed (St.not_yet hcl hrd 60 8 (by kernel_rfl))⟩
    go_simp
    try with_reducible rfl
  rintro y7 ⟨n9, rfl⟩
  simp only [Act.put, St.pu]
  refine St.mix_skip rfl ?_ ?_
  · intro L u' wx hS hcl hrd hag
    have h7 := St.before_ready hcl hrd 8 7 (by kernel_rfl)
    have h6 := St.before_ready hcl hrd 8 6 (by kernel_rfl)
    obtain ⟨nb, q1, q2, q3⟩ := hS.box h7 hrd.1
    have e1 : u' 7 = .pointer (some ⟨n9, 0, none⟩) := hag 8 7 (by kernel_rfl)
    obtain rfl : nb = n9 := by
      have := q1.symm.trans e1
      injection this with e3
      injection e3 with e4
      injection e4
    have hst := hS.store h7 h6 hrd.1 e1 (hag 8 6 (by kernel_rfl))
    obtain ⟨⟨hlt, ⟨d0, d1, d2, d3, d4, d5⟩, dF⟩, _⟩ := q3
    refine ⟨_, ?_, hst⟩
    go_simp
    rfl
  simp only [Act.put]
  refine St.mix_last ?_
  intro L w5 hS hall
  obtain ⟨nb, s9, q1, q2, q3, q4⟩ := hS.fin (hall 8 (by decide))
  have h5 := hS.low
  obtain rfl : nb = n9 := by
    have q0' : Value.pointer (some ⟨n9, 0, none⟩) = .pointer (some ⟨nb, 0, none⟩) := q1
    injection q0' with e1
    injection e1 with e2
    injection e2 with e3
    exact e3.symm
  obtain ⟨A9, c9, rfl⟩ := q4.form
  rw [HNE.out] at q3 q4
  clear hS hall q1 q2 cF cP'
  have hlow : ∀ wx, Below w5.heap.size w5 wx -> Below W0.heap.size W0 wx := fun wx h => h5.trans (h.mono h5.size)
  have KE := fun w' (h : Below w5.heap.size w5 w') => q4.keep h
  have hbE : ∀ wx, Below w5.heap.size w5 wx -> BoxD nb E (.slice A9 nE c9) wx := fun wx h => q3.keep h
  have h50 := Below.refl w5.heap.size w5
  clear q3 q4
  go_wp2_with fail
  cases SD with
  | false =>
    refine St.wp_region_mixed (RT w5 (fun _ => none)) (fun j x => match j with | 2 => x = .bool true | 6 => x = .bool false | 10 => x = .bool true | _ => True) (by kernel_rfl) (by kernel_rfl) (by kernel_rfl) (RT.start h50) ?_
    iterate 2
      apply St.mix_give
      · rfl
      · intro L u' wx hS hcl hrd hag
        obtain ⟨⟨_, ⟨p0, p1, p2, p3, p4, p5, p6, p7, p8, p9, p10⟩, y0⟩, ⟨_, ⟨o0, o1, o2, o3, o4, o5, o6, o7, o8, o9, o10⟩, y1⟩⟩ := hbox _ (hlow _ hS.low)
        go_simp
        try with_reducible rfl
      · exact fun L u' wx hS => hS.plain rfl _
      simp only [Act.put, St.pu]
    refine St.mix_into (f := 17) (args := #[qv ⟨d, .slice A nm ka, ps, .slice B np kb, [], .slice C 0 kc, false, ea, .slice D ne kg, al⟩, av x]) rfl rfl ?_ ?_ ?_
    · intro wx
      go_simp
      try with_reducible rfl
    · intro L u' wx hS hcl hrd hag
      refine (cM wx (hlow wx hS.low)).mono ?_
      rintro e w' ⟨rfl, b⟩
      exact ⟨rfl, hS.into rfl b _⟩
    simp only [Act.put, St.pu]
    apply St.mix_give
    · rfl
    · intro L u' wx hS hcl hrd hag
      obtain ⟨_, ⟨e0, e1, e2, e3, e4, e5⟩, ye⟩ := hbE _ hS.low
      go_simp
      try with_reducible rfl
    · exact fun L u' wx hS => hS.plain rfl _
    simp only [Act.put, St.pu]
    apply St.mix_give
    · rfl
    · intro L u' wx hS hcl hrd hag
      go_simp
      try with_reducible rfl
    · exact fun L u' wx hS => hS.plain rfl _
    simp only [Act.put, St.pu]
    apply St.mix_give
    · rfl
    · intro L u' wx hS hcl hrd hag
      obtain ⟨⟨_, ⟨p0, p1, p2, p3, p4, p5, p6, p7, p8, p9, p10⟩, y0⟩, ⟨_, ⟨o0, o1, o2, o3, o4, o5, o6, o7, o8, o9, o10⟩, y1⟩⟩ := hbox _ (hlow _ hS.low)
      go_simp
      try with_reducible rfl
    · exact fun L u' wx hS => hS.plain rfl _
    simp only [Act.put, St.pu]
    refine St.mix_into (f := 12) (args := #[dv E (.slice A9 nE c9), dv d (.slice A nm ka)]) rfl rfl ?_ ?_ ?_
    · intro wx
      go_simp
      try with_reducible rfl
    · intro L u' wx hS hcl hrd hag
      refine (cD _ _ wx (KE wx hS.low) (KS wx (hlow wx hS.low))).mono ?_
      rintro e w' ⟨rfl, b⟩
      exact ⟨rfl, hS.into rfl b _⟩
    simp only [Act.put, St.pu]
    iterate 3
      apply St.mix_give
      · rfl
      · intro L u' wx hS hcl hrd hag
        go_simp
        try with_reducible rfl
      · exact fun L u' wx hS => hS.plain rfl _
      simp only [Act.put, St.pu]
    refine St.mix_into (f := 11) (args := #[]) rfl rfl ?_ ?_ ?_
    · intro wx
      go_simp
      try with_reducible rfl
    · intro L u' wx hS hcl hrd hag
      refine (cL wx (hlow wx hS.low)).mono ?_
      rintro e w' ⟨rfl, b⟩
      exact ⟨rfl, hS.into rfl b _⟩
    simp only [Act.put, St.pu]
    iterate 2
      apply St.mix_give
      · rfl
      · intro L u' wx hS hcl hrd hag
        go_simp
        try with_reducible rfl
      · exact fun L u' wx hS => hS.plain rfl _
      simp only [Act.put, St.pu]
    refine St.mix_last ?_
    intro L w6 hS hall
    have h9 := hlow _ hS.low
    clear hS hall
    go_wp2_with fail
    go_ret
    exact ⟨rfl, hb0.trans (h9.mono hb0.size)⟩
  | true =>
    refine St.wp_region_mixed (RT w5 (fun _ => none)) (fun j x => match j with | 2 => x = .bool false | 6 => x = .bool true | 10 => x = .bool true | _ => True) (by kernel_rfl) (by kernel_rfl) (by kernel_rfl) (RT.start h50) ?_
    iterate 2
      apply St.mix_give
      · rfl
      · intro L u' wx hS hcl hrd hag
        obtain ⟨⟨_, ⟨p0, p1, p2, p3, p4, p5, p6, p7, p8, p9, p10⟩, y0⟩, ⟨_, ⟨o0, o1, o2, o3, o4, o5, o6, o7, o8, o9, o10⟩, y1⟩⟩ := hbox _ (hlow _ hS.low)
        go_simp
        try with_reducible rfl
      · exact fun L u' wx hS => hS.plain rfl _
      simp only [Act.put, St.pu]
    refine St.mix_into (f := 17) (args := #[qv ⟨d, .slice A nm ka, ps, .slice B np kb, [], .slice C 0 kc, false, ea, .slice D ne kg, al⟩, av x]) rfl rfl ?_ ?_ ?_
    · intro wx
      go_simp
      try with_reducible rfl
    · intro L u' wx hS hcl hrd hag
      refine (cM wx (hlow wx hS.low)).mono ?_
      rintro e w' ⟨rfl, b⟩
      exact ⟨rfl, hS.into rfl b _⟩
    simp only [Act.put, St.pu]
    apply St.mix_give
    · rfl
    · intro L u' wx hS hcl hrd hag
      obtain ⟨_, ⟨e0, e1, e2, e3, e4, e5⟩, ye⟩ := hbE _ hS.low
      go_simp
      try with_reducible rfl
    · exact fun L u' wx hS => hS.plain rfl _
    simp only [Act.put, St.pu]
    apply St.mix_give
    · rfl
    · intro L u' wx hS hcl hrd hag
      go_simp
      try with_reducible rfl
    · exact fun L u' wx hS => hS.plain rfl _
    simp only [Act.put, St.pu]
    apply St.mix_give
    · rfl
    · intro L u' wx hS hcl hrd hag
      obtain ⟨⟨_, ⟨p0, p1, p2, p3, p4, p5, p6, p7, p8, p9, p10⟩, y0⟩, ⟨_, ⟨o0, o1, o2, o3, o4, o5, o6, o7, o8, o9, o10⟩, y1⟩⟩ := hbox _ (hlow _ hS.low)
      go_simp
      try with_reducible rfl
    · exact fun L u' wx hS => hS.plain rfl _
    simp only [Act.put, St.pu]
    refine St.mix_into (f := 12) (args := #[dv E (.slice A9 nE c9), dv d (.slice A nm ka)]) rfl rfl ?_ ?_ ?_
    · intro wx
      go_simp
      try with_reducible rfl
    · intro L u' wx hS hcl hrd hag
      refine (cD _ _ wx (KE wx hS.low) (KS wx (hlow wx hS.low))).mono ?_
      rintro e w' ⟨rfl, b⟩
      exact ⟨rfl, hS.into rfl b _⟩
    simp only [Act.put, St.pu]
    iterate 3
      apply St.mix_give
      · rfl
      · intro L u' wx hS hcl hrd hag
        go_simp
        try with_reducible rfl
      · exact fun L u' wx hS => hS.plain rfl _
      simp only [Act.put, St.pu]
    refine St.mix_into (f := 11) (args := #[]) rfl rfl ?_ ?_ ?_
    · intro wx
      go_simp
      try with_reducible rfl
    · intro L u' wx hS hcl hrd hag
      refine (cL wx (hlow wx hS.low)).mono ?_
      rintro e w' ⟨rfl, b⟩
      exact ⟨rfl, hS.into rfl b _⟩
    simp only [Act.put, St.pu]
    iterate 2
      apply St.mix_give
      · rfl
      · intro L u' wx hS hcl hrd hag
        go_simp
        try with_reducible rfl
      · exact fun L u' wx hS => hS.plain rfl _
      simp only [Act.put, St.pu]
    refine St.mix_last ?_
    intro L w6 hS hall
    have h9 := hlow _ hS.low
    clear hS hall
    go_wp2_with fail
    go_ret
    exact ⟨rfl, hb0.trans (h9.mono hb0.size)⟩
end Go.Proofs.YthcmnkmfhgoddaaGreatDoor.Mb

/-
  DeedJoins, walked. Conditions: FitP of both; the library's variables hold what their types allow.
-/
import Derived.Test.YthcmnkmfhgoddaaGreatDoorJDpLive
import Derived.Test.YthcmnkmfhgoddaaGreatDoorJDpSmall
import Derived.Test.YthcmnkmfhgoddaaGreatDoorJDpLA
import Derived.Test.YthcmnkmfhgoddaaGreatDoorJDpRIA
import Derived.Test.YthcmnkmfhgoddaaGreatDoorJSsMA
import Derived.Test.YthcmnkmfhgoddaaGreatDoorJDpRJoin
import Derived.Test.YthcmnkmfhgoddaaGreatDoorJDpOwnL
import Derived.Test.YthcmnkmfhgoddaaGreatDoorJDpRfA
namespace Go.Proofs.YthcmnkmfhgoddaaGreatDoor.Dp
open Go.RowKit Bnd
open Go.Proofs.YthcmnkmfhgoddaaGreatDoor.Ds (De ArgM)
open Go.Proofs.YthcmnkmfhgoddaaGreatDoor.Ss (Ses Zs ses SZ PZ NoP ArgZ)
open Go.Proofs.YthcmnkmfhgoddaaGreatDoor.Od (Pr SP ArgP)
theorem argP_put {w : World} {n : Nat} {s : Value} {ps : List Pr} (h : ArgP w s ps) (hz : ZE n w) (hk : ∀ q ∈ ps, q.1.size ≠ 0) (o : Ph) : ArgP (putW w n o) s ps := by
  cases h with
  | nil => exact .nil
  | some b o' c ms h =>
    refine .some b o' c ps ⟨_, _, rfl, fun h0 => ?_⟩
    obtain ⟨b', o2, e, hb, q0, _⟩ := h.at_ (k := 0) h0
    cases e
    have hne : b ≠ n := fun e => by
      subst e
      rw [hz.cell] at q0
      have hs := hk ps[0] (List.getElem_mem h0)
      simp only [Nat.zero_mul, Nat.add_zero] at q0
      match o', q0 with
      | 0, q0 => cases q0
      | 1, q0 => injection q0 with q0; injection q0 with q0; rw [<- q0] at hs; exact hs rfl
      | 2, q0 => injection q0 with q0; injection q0 with q0; rw [<- q0] at hs; exact hs rfl
      | 3, q0 => cases q0
      | 4, q0 => cases q0
      | 5, q0 => cases q0
      | 6, q0 => cases q0
      | 7, q0 => cases q0
      | 8, q0 => cases q0
      | 9, q0 => cases q0
      | 10, q0 => cases q0
      | i + 11, q0 => simp [zcs] at q0
    refine ⟨b, o', rfl, by rw [putW_size]; exact hb, fun i hi => ?_⟩
    obtain ⟨b', o2, e, _, q0, q1⟩ := h.at_ (k := i) hi
    cases e
    exact ⟨(putW_cell o (p := ⟨b, o' + i * 2, none⟩) hne).trans q0, (putW_cell o (p := ⟨b, o' + i * 2 + 1, none⟩) hne).trans q1⟩
  | empty a c => exact .empty a c
theorem argI_put {w : World} {n : Nat} {s : Value} {ns : List Int} (h : ArgI w s ns) (hz : ZE n w) (hk : ∀ q ∈ ns, q ≠ 0) (o : Ph) : ArgI (putW w n o) s ns := by
  cases h with
  | nil => exact .nil
  | some b o' c ms h =>
    refine .some b o' c ns ⟨_, _, rfl, fun h0 => ?_⟩
    obtain ⟨b', o2, e, hb, q0⟩ := h.at_ (k := 0) h0
    cases e
    have hne : b ≠ n := fun e => by
      subst e
      rw [hz.cell] at q0
      have hs := hk ns[0] (List.getElem_mem h0)
      simp only [Nat.add_zero] at q0
      match o', q0 with
      | 0, q0 => injection q0 with q0; injection q0 with _ q0; exact hs q0.symm
      | 1, q0 => cases q0
      | 2, q0 => cases q0
      | 3, q0 => injection q0 with q0; injection q0 with _ q0; exact hs q0.symm
      | 4, q0 => cases q0
      | 5, q0 => injection q0 with q0; injection q0 with _ q0; exact hs q0.symm
      | 6, q0 => cases q0
      | 7, q0 => cases q0
      | 8, q0 => cases q0
      | 9, q0 => cases q0
      | 10, q0 => injection q0 with q0; injection q0 with _ q0; exact hs q0.symm
      | i + 11, q0 => simp [zcs] at q0
    refine ⟨b, o', rfl, by rw [putW_size]; exact hb, fun i hi => ?_⟩
    obtain ⟨b', o2, e, _, q0⟩ := h.at_ (k := i) hi
    cases e
    exact (putW_cell o (p := ⟨b, o' + i, none⟩) hne).trans q0
  | empty a c => exact .empty a c
theorem ha_put {w : World} {n : Nat} {o : Ph} (h : HA w o) (hz : ZE n w) (hp : ∀ q ∈ o.ps, q.1.size ≠ 0) (he : ∀ q ∈ o.ea, q ≠ 0) (o2 : Ph) : HA (putW w n o2) o :=
  ⟨argM_put h.sm hz o2, argP_put h.sp hz hp o2, argZ_put h.sz hz o2, h.np, argI_put h.se hz he o2, h.rp, h.re⟩
theorem putW_qv {w : World} {n : Nat} {o o' : Ph} (h : qv o = qv o') : putW w n o = putW w n o' := by
  obtain ⟨d, sm, ps, sp, zs, sz, fr, ea, se, al⟩ := o
  obtain ⟨d', sm', ps', sp', zs', sz', fr', ea', se', al'⟩ := o'
  simp only [qv, Value.agg.injEq, Array.mk.injEq, List.cons.injEq, Value.int.injEq, Value.string.injEq, Value.bool.injEq, true_and, and_true] at h
  obtain ⟨h1, h2, h3, h4, h5, h6, h7, h8, h9, h10, h11⟩ := h
  simp only [putW, h1, h2, h3, h4, h5, h6, h7, h8, h9, h10, h11]
theorem ze_box {n : Nat} {w : World} (h : ZE n w) : BoxP n Ph.zero w :=
  ⟨(Array.getElem?_eq_some_iff.1 h).1, ⟨h.cell 0, h.cell 1, h.cell 2, h.cell 3, h.cell 4, h.cell 5, h.cell 6, h.cell 7, h.cell 8, h.cell 9, h.cell 10⟩, fun o => by unfold ZE at h; simp [World.frozen?, h]⟩
theorem key_size {p : Pl} (h : isP p = true) {q : Pr} (hq : q ∈ p.ps) : q.1.size ≠ 0 := by
  obtain ⟨_, _, h3, _⟩ := ((goP_iff _ _ _).1 ((isP_iff p).1 h).2.2.1).1 q hq
  unfold O.keyB at h3
  simp only [Bool.and_eq_true, decide_eq_true_eq] at h3
  have a4 : q.1.toList.length = q.1.size := by rw [ByteArray.toList_eq]; simp
  omega
theorem eaten_some {p : Pl} (h : isP p = true) {n : Int} (hn : n ∈ p.ea) : n ≠ 0 := by
  have := ((goE_iff _ _).1 ((isP_iff p).1 h).2.2.2.1.2).1 n hn
  omega
theorem id_some {d : De} (h : Ds.isD d = true) : d.id ≠ 0 := by
  have := (Ds.idB_iff _).1 ((Ds.isD_iff d).1 h).1
  omega
theorem join_cases (l r : Pl) : (joinP l r).1 = Pl.zero \/ (∃ x ss, joinP l r = (⟨x, l.ps ++ r.ps, ss, false, eatsE (eatE r.d.id l.ea) r.ea, l.al⟩, 0) /\ x.ms = l.d.ms /\ ss.length <= 64 /\ (eatsE (eatE r.d.id l.ea) r.ea).length <= 200) := by
  unfold joinP
  split
  · exact .inl rfl
  split
  · exact .inl rfl
  split
  case isFalse => exact .inl rfl
  split
  case isFalse => exact .inl rfl
  split
  case isFalse => exact .inl rfl
  rename_i hd hs he
  refine .inr ⟨_, _, rfl, ?_, ?_, he⟩
  · unfold Ds.mergeD Ds.okD at hd ⊢
    split at hd
    · rename_i h0
      rw [if_pos h0]
      split at hd
      · rename_i h1
        rw [if_pos h1]
        split at hd
        · exact absurd hd (by decide)
        · rename_i h2
          rw [if_neg h2]
          split at hd
          · rename_i h3
            rw [if_pos h3]
          · exact absurd hd (by decide)
      · exact absurd hd (by decide)
    · exact absurd hd (by decide)
  · unfold Ss.mergeS at hs ⊢
    split at hs
    · rename_i h0
      rw [if_pos h0]
      exact h0
    · exact absurd hs (by decide)
theorem join_few {l r : Pl} (hl : isP l = true) (nl : l.ps.length <= 100000) (nr : r.ps.length <= 100000) {o : Ph} (h : o.pl = (joinP l r).1) : FewP o := by
  rcases join_cases l r with e | ⟨x, ss, e, h1, h2, h3⟩
  · rw [e] at h
    have h1 : o.d = De.zero := congrArg Pl.d h
    have h2 : o.ps = [] := congrArg Pl.ps h
    have h3 : ses o.zs = [] := congrArg Pl.ss h
    have h4 : o.ea = [] := congrArg Pl.ea h
    have h5 : o.zs.length = 0 := by have := congrArg List.length h3; simpa using this
    exact ⟨by rw [h1]; simp [De.zero], by rw [h2]; simp, by omega, by rw [h4]; simp⟩
  · rw [e] at h
    have k1 : o.d = x := congrArg Pl.d h
    have k2 : o.ps = l.ps ++ r.ps := congrArg Pl.ps h
    have k3 : ses o.zs = ss := congrArg Pl.ss h
    have k4 : o.ea = eatsE (eatE r.d.id l.ea) r.ea := congrArg Pl.ea h
    have k5 : o.zs.length = ss.length := by have := congrArg List.length k3; simpa using this
    have k6 : l.d.ms.length <= 5 := (isD_sizes (isP_d hl)).2.2
    exact ⟨by rw [k1, h1]; omega, by rw [k2, List.length_append]; omega, by omega, by rw [k4]; omega⟩
theorem join_some {l r : Pl} (hl : isP l = true) (hr : isP r = true) : (∀ q ∈ (joinP l r).1.ps, q.1.size ≠ 0) /\ (∀ q ∈ (joinP l r).1.ea, q ≠ 0) := by
  rcases join_cases l r with e | ⟨x, ss, e, _, _, _⟩
  · rw [e]
    exact ⟨fun q hq => by simp [Pl.zero] at hq, fun q hq => by simp [Pl.zero] at hq⟩
  · rw [e]
    refine ⟨fun q hq => ?_, fun q hq => ?_⟩
    · rcases List.mem_append.1 hq with h | h
      · exact key_size hl h
      · exact key_size hr h
    · have hq : q ∈ eatsE (eatE r.d.id l.ea) r.ea := hq
      rw [mem_eats, mem_eat] at hq
      rcases hq with (rfl | h) | h
      · exact id_some (isP_d hr)
      · exact eaten_some hl h
      · exact eaten_some hr h
structure RJ (W0 : World) (pl pr : Pl) (M : Pl × Int) (L : Nat -> Bool) (u : Nat -> Value) (wx : World) : Prop where
  low : Below W0.heap.size W0 wx
  l : L 1 = true -> L 9 = false -> ∃ o, u 1 = qv o /\ o.pl = pl /\ HA wx o
  r : L 3 = true -> L 9 = false -> ∃ o, u 3 = qv o /\ o.pl = pr /\ HA wx o
  j : L 4 = true -> L 9 = false -> ∃ o, u 4 = .tuple #[qv o, .int .i64 M.2] /\ o.pl = M.1 /\ HA wx o
  box : L 8 = true -> L 9 = false -> ∃ n, u 8 = .pointer (some ⟨n, 0, none⟩) /\ W0.heap.size <= n /\ ZE n wx
  fin : L 9 = true -> ∃ n o, u 8 = .pointer (some ⟨n, 0, none⟩) /\ o.pl = M.1 /\ BoxP n o wx /\ HA wx o
section
variable {W0 wx w' : World} {pl pr : Pl} {M : Pl × Int} {L : Nat -> Bool} {u : Nat -> Value} {j : Nat}
theorem RJ.plain (h : RJ W0 pl pr M L u wx) (h1 : 1 ≠ j) (h3 : 3 ≠ j) (h4 : 4 ≠ j) (h8 : 8 ≠ j) (h9 : 9 ≠ j) (v : Value) : RJ W0 pl pr M (St.mark L j) (St.upd u j v) wx := by
  have a1 : St.mark L j 1 = L 1 := by simp [St.mark, h1]
  have a3 : St.mark L j 3 = L 3 := by simp [St.mark, h3]
  have a4 : St.mark L j 4 = L 4 := by simp [St.mark, h4]
  have a8 : St.mark L j 8 = L 8 := by simp [St.mark, h8]
  have a9 : St.mark L j 9 = L 9 := by simp [St.mark, h9]
  have b1 : St.upd u j v 1 = u 1 := by simp [St.upd, h1]
  have b3 : St.upd u j v 3 = u 3 := by simp [St.upd, h3]
  have b4 : St.upd u j v 4 = u 4 := by simp [St.upd, h4]
  have b8 : St.upd u j v 8 = u 8 := by simp [St.upd, h8]
  exact ⟨h.low, by rw [a1, a9, b1]; exact h.l, by rw [a3, a9, b3]; exact h.r, by rw [a4, a9, b4]; exact h.j, by rw [a8, a9, b8]; exact h.box, by rw [a9, b8]; exact h.fin⟩
theorem RJ.turn (h : RJ W0 pl pr M L u wx) (h9 : L 9 = false) (b : Below wx.heap.size wx w') : RJ W0 pl pr M L u w' := by
  refine ⟨h.low.trans (b.mono h.low.size), fun h1 h2 => ?_, fun h1 h2 => ?_, fun h1 h2 => ?_, fun h1 h2 => ?_, fun h1 => ?_⟩
  · obtain ⟨o, e, hp, ha⟩ := h.l h1 h2
    exact ⟨o, e, hp, ha.keep b⟩
  · obtain ⟨o, e, hp, ha⟩ := h.r h1 h2
    exact ⟨o, e, hp, ha.keep b⟩
  · obtain ⟨o, e, hp, ha⟩ := h.j h1 h2
    exact ⟨o, e, hp, ha.keep b⟩
  · obtain ⟨n, e, hn, ho⟩ := h.box h1 h2
    exact ⟨n, e, hn, ho.keep b⟩
  · rw [h9] at h1; cases h1
theorem RJ.one (h : RJ W0 pl pr M L u wx) (h9 : L 9 = false) (b : Below wx.heap.size wx w') {o : Ph} (hp : o.pl = pl) (ha : HA w' o) : RJ W0 pl pr M (St.mark L 1) (St.upd u 1 (qv o)) w' := by
  have h := h.turn h9 b
  exact ⟨h.low, fun _ _ => ⟨o, by simp [St.upd], hp, ha⟩, h.r, h.j, h.box, h.fin⟩
theorem RJ.two (h : RJ W0 pl pr M L u wx) (h9 : L 9 = false) (b : Below wx.heap.size wx w') {o : Ph} (hp : o.pl = pr) (ha : HA w' o) : RJ W0 pl pr M (St.mark L 3) (St.upd u 3 (qv o)) w' := by
  have h := h.turn h9 b
  exact ⟨h.low, h.l, fun _ _ => ⟨o, by simp [St.upd], hp, ha⟩, h.j, h.box, h.fin⟩
theorem RJ.join (h : RJ W0 pl pr M L u wx) (h9 : L 9 = false) (b : Below wx.heap.size wx w') {o : Ph} (hp : o.pl = M.1) (ha : HA w' o) : RJ W0 pl pr M (St.mark L 4) (St.upd u 4 (.tuple #[qv o, .int .i64 M.2])) w' := by
  have h := h.turn h9 b
  exact ⟨h.low, h.l, h.r, fun _ _ => ⟨o, by simp [St.upd], hp, ha⟩, h.box, h.fin⟩
theorem RJ.boxed (h : RJ W0 pl pr M L u wx) (h9 : L 9 = false) : RJ W0 pl pr M (St.mark L 8) (St.upd u 8 (.pointer (some ⟨wx.heap.size, 0, none⟩))) (wx.alloc (.cells zcs 38)) := by
  have hl := h.low.size
  have h := h.turn h9 ((Below.refl _ wx).alloc (Nat.le_refl _) (.cells zcs 38))
  exact ⟨h.low, h.l, h.r, h.j, fun _ _ => ⟨wx.heap.size, by simp [St.upd], hl, ZE.new wx⟩, fun h1 => by rw [show St.mark L 8 9 = L 9 from rfl, h9] at h1; cases h1⟩
theorem RJ.store (h : RJ W0 pl pr M L u wx) (hM : (∀ q ∈ M.1.ps, q.1.size ≠ 0) /\ (∀ q ∈ M.1.ea, q ≠ 0)) {n : Nat} {o : Ph} (h8 : L 8 = true) (h4 : L 4 = true) (h9 : L 9 = false) (e1 : u 8 = .pointer (some ⟨n, 0, none⟩)) (e2 : u 4 = .tuple #[qv o, .int .i64 M.2]) :
    RJ W0 pl pr M (St.mark L 9) (St.upd u 9 undef) (putW wx n o) := by
  obtain ⟨n', q1, q2, q3⟩ := h.box h8 h9
  obtain rfl : n' = n := by
    have := q1.symm.trans e1
    injection this with e3
    injection e3 with e4
    injection e4
  obtain ⟨o', p1, p2, p3⟩ := h.j h4 h9
  have hq : qv o = qv o' := by
    have := e2.symm.trans p1
    injection this with e3
    simp only [Array.mk.injEq, List.cons.injEq] at e3
    exact e3.1
  rw [putW_qv hq]
  have k1 : ∀ q ∈ o'.ps, q.1.size ≠ 0 := by rw [show o'.ps = M.1.ps from congrArg Pl.ps p2]; exact hM.1
  have k2 : ∀ q ∈ o'.ea, q ≠ 0 := by rw [show o'.ea = M.1.ea from congrArg Pl.ea p2]; exact hM.2
  exact ⟨putW_below o' q2 h.low, fun _ h' => (by simp [St.mark] at h'), fun _ h' => (by simp [St.mark] at h'), fun _ h' => (by simp [St.mark] at h'), fun _ h' => (by simp [St.mark] at h'),
    fun _ => ⟨n', o', e1, p2, BoxP.put (ze_box q3) o', ha_put p3 q3 k1 k2 o'⟩⟩
end
set_option maxHeartbeats 32000000 in
set_option maxRecDepth 100000 in
theorem joins_walk (o q : Ph) (w : World) (h : HB w o) (k : HB w q) (hf : FitP o) (kf : FitP q) (hg : Good w) :
    Calls Tryz.prog 6 #[qv o, qv q] w fun e w' => e = .returned (.bool true) /\ Below w.heap.size w w' := by
  have HH := Lib.hid h
  have HK := Lib.hid k
  have HF := Lib.hid hf
  have KF := Lib.hid kf
  have HG := Lib.hid hg
  obtain ⟨d, ps, zs, fr, ea, al, A, B, C, D, ka, kb, kc, kd, rfl⟩ := h.hp.open
  obtain ⟨d', ps', zs', fr', ea', al', A', B', C', D', ka', kb', kc', kd', rfl⟩ := k.hp.open
  obtain ⟨nm, hnm⟩ : ∃ n, d.ms.length = n := ⟨_, rfl⟩
  obtain ⟨np, hnp⟩ : ∃ n, ps.length = n := ⟨_, rfl⟩
  obtain ⟨nz, hnz⟩ : ∃ n, zs.length = n := ⟨_, rfl⟩
  obtain ⟨ne, hne⟩ : ∃ n, ea.length = n := ⟨_, rfl⟩
  obtain ⟨nm', hnm'⟩ : ∃ n, d'.ms.length = n := ⟨_, rfl⟩
  obtain ⟨np', hnp'⟩ : ∃ n, ps'.length = n := ⟨_, rfl⟩
  obtain ⟨nz', hnz'⟩ : ∃ n, zs'.length = n := ⟨_, rfl⟩
  obtain ⟨ne', hne'⟩ : ∃ n, ea'.length = n := ⟨_, rfl⟩
  rw [hnm, hnp, hnz, hne] at HH HF ⊢
  rw [hnm', hnp', hnz', hne'] at HK KF ⊢
  obtain ⟨W0, hW0⟩ : ∃ W0, (w.alloc (.cells #[.int .i64 d.id, .string d.f, .string d.t, .int .i64 d.gen, .slice A nm ka, .int .i64 d.next, .slice B np kb, .slice C nz kc, .bool fr, .slice D ne kd, .int .i64 al] 38)).alloc (.cells #[.int .i64 d'.id, .string d'.f, .string d'.t, .int .i64 d'.gen, .slice A' nm' ka', .int .i64 d'.next, .slice B' np' kb', .slice C' nz' kc', .bool fr', .slice D' ne' kd', .int .i64 al'] 38) = W0 := ⟨_, rfl⟩
  have hb0 : Below w.heap.size w W0 := by rw [<- hW0]; exact ((Below.refl _ w).alloc (Nat.le_refl _) _).alloc (by simp) _
  have BO : BoxP w.heap.size ⟨d, .slice A nm ka, ps, .slice B np kb, zs, .slice C nz kc, fr, ea, .slice D ne kd, al⟩ W0 := hW0 ▸ (BoxP.new w ⟨d, .slice A nm ka, ps, .slice B np kb, zs, .slice C nz kc, fr, ea, .slice D ne kd, al⟩).alloc _
  have BQ : BoxP (w.heap.size + 1) ⟨d', .slice A' nm' ka', ps', .slice B' np' kb', zs', .slice C' nz' kc', fr', ea', .slice D' ne' kd', al'⟩ W0 := by
    have h := BoxP.new (w.alloc (.cells #[.int .i64 d.id, .string d.f, .string d.t, .int .i64 d.gen, .slice A nm ka, .int .i64 d.next, .slice B np kb, .slice C nz kc, .bool fr, .slice D ne kd, .int .i64 al] 38)) ⟨d', .slice A' nm' ka', ps', .slice B' np' kb', zs', .slice C' nz' kc', fr', ea', .slice D' ne' kd', al'⟩
    rw [World.size_alloc] at h
    rw [<- hW0]
    exact h
  have KH := fun w' (h : Below W0.heap.size W0 w') => HH.out.keep (hb0.trans (h.mono hb0.size))
  have KK := fun w' (h : Below W0.heap.size W0 w') => HK.out.keep (hb0.trans (h.mono hb0.size))
  have cS := fun w' (h : Below W0.heap.size W0 w') => small_any ⟨d, .slice A nm ka, ps, .slice B np kb, zs, .slice C nz kc, fr, ea, .slice D ne kd, al⟩ w' (KH w' h).hp HF.out
  have cT := fun w' (h : Below W0.heap.size W0 w') => small_any ⟨d', .slice A' nm' ka', ps', .slice B' np' kb', zs', .slice C' nz' kc', fr', ea', .slice D' ne' kd', al'⟩ w' (KK w' h).hp KF.out
  have cI := fun w' (h : Below W0.heap.size W0 w') => ris_any ⟨d, .slice A nm ka, ps, .slice B np kb, zs, .slice C nz kc, fr, ea, .slice D ne kd, al⟩ w' (KH w' h).hp HF.out
  have cJ := fun w' (h : Below W0.heap.size W0 w') => ris_any ⟨d', .slice A' nm' ka', ps', .slice B' np' kb', zs', .slice C' nz' kc', fr', ea', .slice D' ne' kd', al'⟩ w' (KK w' h).hp KF.out
  have cL := fun w' (h : Below W0.heap.size W0 w') => live_any w' (HG.out.below (hb0.trans (h.mono hb0.size)))
  obtain ⟨P, hP⟩ : ∃ P, Ph.pl ⟨d, .slice A nm ka, ps, .slice B np kb, zs, .slice C nz kc, fr, ea, .slice D ne kd, al⟩ = P := ⟨_, rfl⟩
  obtain ⟨P', hP'⟩ : ∃ P, Ph.pl ⟨d', .slice A' nm' ka', ps', .slice B' np' kb', zs', .slice C' nz' kc', fr', ea', .slice D' ne' kd', al'⟩ = P := ⟨_, rfl⟩
  obtain ⟨IP, hIP⟩ : ∃ b, isP P = b := ⟨_, rfl⟩
  obtain ⟨IQ, hIQ⟩ : ∃ b, isP P' = b := ⟨_, rfl⟩
  have HP1 := Lib.hid hP
  have HP2 := Lib.hid hP'
  have HIP := Lib.hid hIP
  have HIQ := Lib.hid hIQ
  rw [hP, hIP] at cI
  rw [hP', hIQ] at cJ
  have h0 := Below.refl W0.heap.size W0
  have hbox : ∀ wx, Below W0.heap.size W0 wx -> BoxP w.heap.size ⟨d, .slice A nm ka, ps, .slice B np kb, zs, .slice C nz kc, fr, ea, .slice D ne kd, al⟩ wx /\ BoxP (w.heap.size + 1) ⟨d', .slice A' nm' ka', ps', .slice B' np' kb', zs', .slice C' nz' kc', fr', ea', .slice D' ne' kd', al'⟩ wx := fun wx h => ⟨BO.keep h, BQ.keep h⟩
  clear h k hf kf hg hnm hnp hnz hne hnm' hnp' hnz' hne' hIP hIQ hP hP' BO BQ
  obtain ⟨⟨_, ⟨p0, p1, p2, p3, p4, p5, p6, p7, p8, p9, p10⟩, py⟩, ⟨_, ⟨r0, r1, r2, r3, r4, r5, r6, r7, r8, r9, r10⟩, ry⟩⟩ := hbox _ h0
  go_enter Tryz.func6, Tryz.ntmps6
  go_wp2_with (rw [hW0])
  clear hW0
  refine (cS _ h0).mono ?_
  rintro e w1 ⟨⟨r, rfl, hr⟩, b⟩
  have HR := Lib.hid hr
  have h1 := h0.trans (b.mono h0.size)
  clear p0 p1 p2 p3 p4 p5 p6 p7 p8 p9 p10 py r0 r1 r2 r3 r4 r5 r6 r7 r8 r9 r10 ry
  clear b cS hr
  cases r with
  | false =>
    go_wp2_with fail
    refine (cL _ h1).mono ?_
    rintro e' wl ⟨rfl, bl⟩
    go_wp2_with fail
    go_ret
    exact ⟨rfl, hb0.trans ((h1).trans (bl.mono (h1).size) |>.mono hb0.size)⟩
  | true =>
  have HSM := Lib.hid (HR.out rfl).ps
  clear HR
  obtain ⟨⟨_, ⟨p0, p1, p2, p3, p4, p5, p6, p7, p8, p9, p10⟩, py⟩, ⟨_, ⟨r0, r1, r2, r3, r4, r5, r6, r7, r8, r9, r10⟩, ry⟩⟩ := hbox _ h1
  go_wp2_with fail
  refine (cT _ h1).mono ?_
  rintro e w2 ⟨⟨r, rfl, hr⟩, b⟩
  have HR := Lib.hid hr
  have h2 := h1.trans (b.mono h1.size)
  clear p0 p1 p2 p3 p4 p5 p6 p7 p8 p9 p10 py r0 r1 r2 r3 r4 r5 r6 r7 r8 r9 r10 ry
  clear b cT hr
  cases r with
  | false =>
    go_wp2_with fail
    refine (cL _ h2).mono ?_
    rintro e' wl ⟨rfl, bl⟩
    go_wp2_with fail
    go_ret
    exact ⟨rfl, hb0.trans ((h2).trans (bl.mono (h2).size) |>.mono hb0.size)⟩
  | true =>
  have HSQ := Lib.hid (HR.out rfl).ps
  clear HR
  obtain ⟨⟨_, ⟨p0, p1, p2, p3, p4, p5, p6, p7, p8, p9, p10⟩, py⟩, ⟨_, ⟨r0, r1, r2, r3, r4, r5, r6, r7, r8, r9, r10⟩, ry⟩⟩ := hbox _ h2
  go_wp2_with fail
  refine (cI _ h2).mono ?_
  rintro e w3 ⟨rfl, b⟩
  have h3 := h2.trans (b.mono h2.size)
  clear p0 p1 p2 p3 p4 p5 p6 p7 p8 p9 p10 py r0 r1 r2 r3 r4 r5 r6 r7 r8 r9 r10 ry
  clear b cI
  cases IP with
  | false =>
    go_wp2_with fail
    refine (cL _ h3).mono ?_
    rintro e' wl ⟨rfl, bl⟩
    go_wp2_with fail
    go_ret
    exact ⟨rfl, hb0.trans ((h3).trans (bl.mono (h3).size) |>.mono hb0.size)⟩
  | true =>
  obtain ⟨⟨_, ⟨p0, p1, p2, p3, p4, p5, p6, p7, p8, p9, p10⟩, py⟩, ⟨_, ⟨r0, r1, r2, r3, r4, r5, r6, r7, r8, r9, r10⟩, ry⟩⟩ := hbox _ h3
  go_wp2_with fail
  refine (cJ _ h3).mono ?_
  rintro e w4 ⟨rfl, b⟩
  have h4 := h3.trans (b.mono h3.size)
  clear p0 p1 p2 p3 p4 p5 p6 p7 p8 p9 p10 py r0 r1 r2 r3 r4 r5 r6 r7 r8 r9 r10 ry
  clear b cJ
  cases IQ with
  | false =>
    go_wp2_with fail
    refine (cL _ h4).mono ?_
    rintro e' wl ⟨rfl, bl⟩
    go_wp2_with fail
    go_ret
    exact ⟨rfl, hb0.trans ((h4).trans (bl.mono (h4).size) |>.mono hb0.size)⟩
  | true =>
  obtain ⟨M, hM⟩ : ∃ M, joinP P P' = M := ⟨_, rfl⟩
  have hl1 : ps.length <= 100000 := by have h1 : ps.length <= 60 := HSM.out; omega
  have hl2 : ps'.length <= 100000 := by have h1 : ps'.length <= 60 := HSQ.out; omega
  have ips : P.ps = ps := by rw [<- HP1.out]; rfl
  have iqs : P'.ps = ps' := by rw [<- HP2.out]; rfl
  have HMS := Lib.hid (show (∀ q ∈ M.1.ps, q.1.size ≠ 0) /\ (∀ q ∈ M.1.ea, q ≠ 0) by rw [<- hM]; exact join_some HIP.out HIQ.out)
  have HFW := Lib.hid (show ∀ o : Ph, o.pl = M.1 -> FewP o from fun o h => join_few (l := P) (r := P') HIP.out (by rw [ips]; exact hl1) (by rw [iqs]; exact hl2) (by rw [hM]; exact h))
  have len : ∀ p : Pl, isP p = true -> p.d.ms.length <= 1000 /\ p.ss.length <= 100000 /\ p.ea.length <= 100000 := fun p h => by
    have h1 := (isD_sizes (isP_d h)).2.2
    have h2 := isS_len (isP_s h)
    have h3 := isP_ea h
    omega
  have HA1 := fun wx (h : Below W0.heap.size W0 wx) => (KH wx h).ha (by rw [HP1.out]; exact HIP.out)
  have HA2 := fun wx (h : Below W0.heap.size W0 wx) => (KK wx h).ha (by rw [HP2.out]; exact HIQ.out)
  obtain ⟨m1, m2, m3⟩ := len P HIP.out
  obtain ⟨m1', m2', m3'⟩ := len P' HIQ.out
  have c1 := fun wx (h : Below W0.heap.size W0 wx) => lown_any ⟨d, .slice A nm ka, ps, .slice B np kb, zs, .slice C nz kc, fr, ea, .slice D ne kd, al⟩ wx (HA1 wx h) (by rw [<- HP1.out] at m1; exact m1) hl1 (by rw [<- HP1.out] at m2; simpa [Ph.pl] using m2) (by rw [<- HP1.out] at m3; exact m3)
  have c2 := fun wx (h : Below W0.heap.size W0 wx) => lown_any ⟨d', .slice A' nm' ka', ps', .slice B' np' kb', zs', .slice C' nz' kc', fr', ea', .slice D' ne' kd', al'⟩ wx (HA2 wx h) (by rw [<- HP2.out] at m1'; exact m1') hl2 (by rw [<- HP2.out] at m2'; simpa [Ph.pl] using m2') (by rw [<- HP2.out] at m3'; exact m3')
  rw [HP1.out] at c1
  rw [HP2.out] at c2
  have c3 := fun (a b : Ph) wx (ha : HA wx a) (hb : HA wx b) (ea : a.pl = P) (eb : b.pl = P') => by
    have h := join_any a b wx ha hb (by rw [ea]; exact HIP.out) (by rw [eb]; exact HIQ.out) (by rw [show a.ps = P.ps from congrArg Pl.ps ea, ips]; exact hl1) (by rw [show b.ps = P'.ps from congrArg Pl.ps eb, iqs]; exact hl2)
    rw [ea, eb, hM] at h
    exact h
  have c4 := fun wx (h : Below W0.heap.size W0 wx) => by
    have h := rjoin_any ⟨d, .slice A nm ka, ps, .slice B np kb, zs, .slice C nz kc, fr, ea, .slice D ne kd, al⟩ ⟨d', .slice A' nm' ka', ps', .slice B' np' kb', zs', .slice C' nz' kc', fr', ea', .slice D' ne' kd', al'⟩ wx (HA1 wx h) (HA2 wx h) (by rw [HP1.out]; exact HIP.out) (by rw [HP2.out]; exact HIQ.out) hl1 hl2
    rw [HP1.out, HP2.out, hM] at h
    exact h
  clear hM hl1 hl2 ips iqs len m1 m2 m3 m1' m2' m3'
  obtain ⟨⟨_, ⟨p0, p1, p2, p3, p4, p5, p6, p7, p8, p9, p10⟩, py⟩, ⟨_, ⟨r0, r1, r2, r3, r4, r5, r6, r7, r8, r9, r10⟩, ry⟩⟩ := hbox _ h4
  go_wp2_with fail
  clear p0 p1 p2 p3 p4 p5 p6 p7 p8 p9 p10 py r0 r1 r2 r3 r4 r5 r6 r7 r8 r9 r10 ry
  have bx := fun wx (h : Below w4.heap.size w4 wx) => hbox wx (h4.trans (h.mono h4.size))
  refine St.wp_region_mixed (RJ w4 P P' M) (fun i z => match i with | 1 => ∃ o : Ph, z = qv o | 3 => ∃ o : Ph, z = qv o | 4 => ∃ (d : De) (ps : List Pr) (zs : List Zs) (fr : Bool) (ea : List Int) (al : Int) (A B C D : Option Addr) (n1 n2 n3 n4 k1 k2 k3 k4 : Nat), z = .tuple #[qv ⟨d, .slice A n1 k1, ps, .slice B n2 k2, zs, .slice C n3 k3, fr, ea, .slice D n4 k4, al⟩, .int .i64 M.2] | _ => False) (by kernel_rfl) (by kernel_rfl) (by kernel_rfl) ⟨(Below.refl _ _).drew, fun h => (by cases h), fun h => (by cases h), fun h => (by cases h), fun h => (by cases h), fun h => (by cases h)⟩ ?_
  apply St.mix_give
  · rfl
  · intro L u' wx hS hcl hrd hag
    obtain ⟨⟨_, ⟨p0, p1, p2, p3, p4, p5, p6, p7, p8, p9, p10⟩, py⟩, ⟨_, ⟨r0, r1, r2, r3, r4, r5, r6, r7, r8, r9, r10⟩, ry⟩⟩ := bx wx hS.low
    go_simp
    try with_reducible rfl
  · exact fun L u' wx hS => hS.plain (by decide) (by decide) (by decide) (by decide) (by decide) _
  simp only [Act.put, St.pu]
  refine St.mix_call (f := 25) (args := #[qv ⟨d, .slice A nm ka, ps, .slice B np kb, zs, .slice C nz kc, fr, ea, .slice D ne kd, al⟩]) rfl ?_ ?_ ?_
  · intro wx
    go_simp
    try with_reducible rfl
  · intro L u' wx hS hcl hrd hag
    have n9 := St.not_yet hcl hrd 40 9 (by kernel_rfl)
    refine (c1 wx (h4.trans (hS.low.mono h4.size))).mono ?_
    rintro e w' ⟨o1, rfl, hp, ha, hb⟩
    exact ⟨_, rfl, ⟨o1, rfl⟩, hS.one n9 hb hp ha⟩
  rintro y1 ⟨oy1, rfl⟩
  simp only [Act.put, St.pu]
  apply St.mix_give
  · rfl
  · intro L u' wx hS hcl hrd hag
    obtain ⟨⟨_, ⟨p0, p1, p2, p3, p4, p5, p6, p7, p8, p9, p10⟩, py⟩, ⟨_, ⟨r0, r1, r2, r3, r4, r5, r6, r7, r8, r9, r10⟩, ry⟩⟩ := bx wx hS.low
    go_simp
    try with_reducible rfl
  · exact fun L u' wx hS => hS.plain (by decide) (by decide) (by decide) (by decide) (by decide) _
  simp only [Act.put, St.pu]
  refine St.mix_call (f := 25) (args := #[qv ⟨d', .slice A' nm' ka', ps', .slice B' np' kb', zs', .slice C' nz' kc', fr', ea', .slice D' ne' kd', al'⟩]) rfl ?_ ?_ ?_
  · intro wx
    go_simp
    try with_reducible rfl
  · intro L u' wx hS hcl hrd hag
    have n9 := St.not_yet hcl hrd 40 9 (by kernel_rfl)
    refine (c2 wx (h4.trans (hS.low.mono h4.size))).mono ?_
    rintro e w' ⟨o1, rfl, hp, ha, hb⟩
    exact ⟨_, rfl, ⟨o1, rfl⟩, hS.two n9 hb hp ha⟩
  rintro y3 ⟨oy3, rfl⟩
  simp only [Act.put, St.pu]
  refine St.mix_call (f := 24) (args := #[qv oy1, qv oy3]) rfl ?_ ?_ ?_
  · intro wx
    go_simp
    try with_reducible rfl
  · intro L u' wx hS hcl hrd hag
    have n9 := St.not_yet hcl hrd 40 9 (by kernel_rfl)
    obtain ⟨a, e1, ea1, ha1⟩ := hS.l (St.before_ready hcl hrd 40 1 (by kernel_rfl)) n9
    obtain ⟨b, e3, eb3, hb3⟩ := hS.r (St.before_ready hcl hrd 40 3 (by kernel_rfl)) n9
    have f1 : qv oy1 = qv a := (hag 40 1 (by kernel_rfl)).symm.trans e1
    have f3 : qv oy3 = qv b := (hag 40 3 (by kernel_rfl)).symm.trans e3
    rw [f1, f3]
    refine (c3 a b wx ha1 hb3 ea1 eb3).mono ?_
    rintro e w' ⟨o1, rfl, hp, ha, hb⟩
    obtain ⟨d1, ps1, zs1, fr1, ea1, al1, A1, B1, C1, D1, k1, k2, k3, k4, rfl⟩ := ha.hp.open
    exact ⟨_, rfl, ⟨_, _, _, _, _, _, _, _, _, _, _, _, _, _, _, _, _, _, rfl⟩, hS.join n9 hb hp ha⟩
  rintro y4 ⟨d1, ps1, zs1, fr1, ea1, al1, A1, B1, C1, D1, n1, n2, n3, n4, k1, k2, k3, k4, rfl⟩
  simp only [Act.put, St.pu]
  iterate 3
    apply St.mix_give
    · rfl
    · intro L u' wx hS hcl hrd hag
      go_simp
      try with_reducible rfl
    · exact fun L u' wx hS => hS.plain (by decide) (by decide) (by decide) (by decide) (by decide) _
    simp only [Act.put, St.pu]
  refine St.mix_free (fun z => ∃ n, z = .pointer (some ⟨n, 0, none⟩)) rfl ?_ ?_
  · intro L u' wx hS hcl hrd hag
    have n9 := St.not_yet hcl hrd 40 9 (by kernel_rfl)
    refine ⟨_, _, ⟨wx.heap.size, rfl⟩, ?_, hS.boxed n9⟩
    unfold zcs
    go_simp
    try with_reducible rfl
  rintro y8 ⟨n8, rfl⟩
  simp only [Act.put, St.pu]
  refine St.mix_skip rfl ?_ ?_
  · intro L u' wx hS hcl hrd hag
    have b4 := St.before_ready hcl hrd 40 4 (by kernel_rfl)
    have b8 := St.before_ready hcl hrd 40 8 (by kernel_rfl)
    have e4 : u' 4 = .tuple #[qv ⟨d1, .slice A1 n1 k1, ps1, .slice B1 n2 k2, zs1, .slice C1 n3 k3, fr1, ea1, .slice D1 n4 k4, al1⟩, .int .i64 M.2] := hag 40 4 (by kernel_rfl)
    have e8 : u' 8 = .pointer (some ⟨n8, 0, none⟩) := hag 40 8 (by kernel_rfl)
    obtain ⟨n', q1, q2, q3⟩ := hS.box b8 hrd.1
    obtain rfl : n' = n8 := by
      have := q1.symm.trans e8
      injection this with e3
      injection e3 with e4
      injection e4
    obtain ⟨_, ⟨z0, z1, z2, z3, z4, z5, z6, z7, z8, z9, z10⟩, zy⟩ := ze_box q3
    refine ⟨putW wx n' ⟨d1, .slice A1 n1 k1, ps1, .slice B1 n2 k2, zs1, .slice C1 n3 k3, fr1, ea1, .slice D1 n4 k4, al1⟩, ?_, hS.store HMS.out b8 b4 hrd.1 e8 e4⟩
    unfold putW
    go_simp
    try with_reducible rfl
  simp only [Act.put]
  apply St.mix_give
  · rfl
  · intro L u' wx hS hcl hrd hag
    go_simp
    try with_reducible rfl
  · exact fun L u' wx hS => hS.plain (by decide) (by decide) (by decide) (by decide) (by decide) _
  simp only [Act.put, St.pu]
  refine St.mix_last ?_
  intro L w5 hS hall
  have h5 : Below W0.heap.size W0 w5 := h4.trans (hS.low.mono h4.size)
  obtain ⟨n', oj, q1, hpj, BJ, HJ5⟩ := hS.fin (hall 9 (by decide))
  obtain rfl : n' = n8 := by
    have q1' : Value.pointer (some ⟨n8, 0, none⟩) = .pointer (some ⟨n', 0, none⟩) := q1
    injection q1' with e3
    injection e3 with e4
    injection e4 with e5
    exact e5.symm
  clear q1 hS hall bx c1 c2 c3
  obtain ⟨⟨_, ⟨p0, p1, p2, p3, p4, p5, p6, p7, p8, p9, p10⟩, py⟩, ⟨_, ⟨r0, r1, r2, r3, r4, r5, r6, r7, r8, r9, r10⟩, ry⟩⟩ := hbox _ h5
  go_wp2_with fail
  refine (c4 _ h5).mono ?_
  rintro e w6 ⟨oq, rfl, hpq, HQ6, b⟩
  have h6 := h5.trans (b.mono h5.size)
  have BJ6 := BJ.keep b
  have HJ6 := HJ5.keep b
  clear BJ HJ5
  clear p0 p1 p2 p3 p4 p5 p6 p7 p8 p9 p10 py r0 r1 r2 r3 r4 r5 r6 r7 r8 r9 r10 ry
  obtain ⟨d2, ps2, zs2, fr2, ea2, al2, A2, B2, C2, D2, j1, j2, j3, j4, rfl⟩ := HQ6.hp.open
  obtain ⟨d3, ps3, zs3, fr3, ea3, al3, A3, B3, C3, D3, i1, i2, i3, i4, rfl⟩ := HJ6.hp.open
  obtain ⟨W7, hW7⟩ : ∃ W7, w6.alloc (.cells #[.int .i64 d2.id, .string d2.f, .string d2.t, .int .i64 d2.gen, .slice A2 d2.ms.length j1, .int .i64 d2.next, .slice B2 ps2.length j2, .slice C2 zs2.length j3, .bool fr2, .slice D2 ea2.length j4, .int .i64 al2] 38) = W7 := ⟨_, rfl⟩
  have b7 : Below w6.heap.size w6 W7 := hW7 ▸ (Below.refl _ w6).alloc (Nat.le_refl _) _
  have BQ7 : BoxP w6.heap.size ⟨d2, .slice A2 d2.ms.length j1, ps2, .slice B2 ps2.length j2, zs2, .slice C2 zs2.length j3, fr2, ea2, .slice D2 ea2.length j4, al2⟩ W7 := hW7 ▸ BoxP.new w6 ⟨d2, .slice A2 d2.ms.length j1, ps2, .slice B2 ps2.length j2, zs2, .slice C2 zs2.length j3, fr2, ea2, .slice D2 ea2.length j4, al2⟩
  have h7 := h6.trans (b7.mono h6.size)
  have BJ7 := BJ6.keep b7
  have HJ7 := HJ6.keep b7
  have HQ7 := HQ6.keep b7
  have cs := rsame_yes _ _ W7 HJ7.hp HQ7.hp (hpj.trans hpq.symm) HJ7.np HQ7.np (HFW.out _ hpj)
  clear BJ6 HJ6 HQ6 b b7 c4 HJ7 HQ7 hpj hpq
  obtain ⟨p_0, ⟨p_1, p_2, p_3, p_4, p_5, p_6, p_7, p_8, p_9, p_10, p_11⟩, p_12⟩ := _root_.id BJ7
  obtain ⟨r_0, ⟨r_1, r_2, r_3, r_4, r_5, r_6, r_7, r_8, r_9, r_10, r_11⟩, r_12⟩ := _root_.id BQ7
  go_wp2_with (rw [hW7])
  clear hW7
  refine cs.mono ?_
  rintro e w8 ⟨rfl, b⟩
  have h8 := h7.trans (b.mono h7.size)
  ((try clear p_0); (try clear p_1); (try clear p_2); (try clear p_3); (try clear p_4); (try clear p_5); (try clear p_6); (try clear p_7); (try clear p_8); (try clear p_9); (try clear p_10); (try clear p_11); (try clear p_12))
  ((try clear r_0); (try clear r_1); (try clear r_2); (try clear r_3); (try clear r_4); (try clear r_5); (try clear r_6); (try clear r_7); (try clear r_8); (try clear r_9); (try clear r_10); (try clear r_11); (try clear r_12))
  clear b cs
  go_wp2_with fail
  refine (num_any _ _).mono ?_
  rintro e w9 ⟨rfl, rfl⟩
  go_wp2_with fail
  refine (cL _ h8).mono ?_
  rintro e' wl ⟨rfl, bl⟩
  go_wp2_with fail
  go_ret
  exact ⟨rfl, hb0.trans ((h8).trans (bl.mono (h8).size) |>.mono hb0.size)⟩
end Go.Proofs.YthcmnkmfhgoddaaGreatDoor.Dp

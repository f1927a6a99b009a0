/-
  The document's First. Condition: at most 1000 nodes.
-/
import Derived.Test.YtlmecfnoipnccaaDoorDsRight
import Derived.Test.YtlmecfnoipnccaaDoorDsPut
import Derived.Test.YtlmecfnoipnccaaDoorDsJoin
import Derived.Test.YtlmecfnoipnccaaDoorRegA
namespace Go.Proofs.YtlmecfnoipnccaaDoor.Ds
open Go.RowKit Bnd

/-- the first range, as the document's grows -/
def rfirstK (ns : List Int) (k : Nat) : De := ⟨1, ⟨#[]⟩, ⟨#[]⟩, 1, numbered 1 (ns.take k), (ns.length : Int) + 1⟩

/-- one member is put behind the others, whichever operation comes first -/
structure RF (N n : Nat) (W : World) (v : Value) (xs : List Mem) (m : Mem) (L : Nat → Bool) (u : Nat → Value) (wx : World) : Prop where
  w0 : L 9 = false → wx = W.drew
  w9 : L 9 = true → L 10 = false → wx = W.drew.alloc (.cells #[.int .i64 m.1, .int .i64 m.2] 30)
  wa : L 10 = true → L 12 = false → Below N W wx ∧ OwnM wx N (u 10) (xs ++ [m])
  wz : L 12 = true → ∃ w', (Below N W w' ∧ OwnM w' N (u 10) (xs ++ [m])) ∧ wx = w'.setCell ⟨n, 4, none⟩ (u 10)

set_option maxHeartbeats 8000000 in
set_option maxRecDepth 100000 in
theorem rfirst_any (v : Value) (ns : List Int) (w : World) (hv : SI w w.heap.size v ns) (hl : ns.length ≤ 1000) :
    Calls Tryd.prog 31 #[v] w (Gave w (firstD ns)) := by
  obtain ⟨A, c, rfl⟩ := hv.form
  obtain ⟨p, q, hpq⟩ : ∃ p q, firstD ns = (p, q) := ⟨_, _, rfl⟩
  rw [hpq]
  have HPQ := Lib.hid hpq
  clear hpq
  go_enter Tryd.func31, Tryd.ntmps31
  go_wp2_with fail
  go_loopw [5] (fun vi wr => ∃ (k : Nat) (s : Value), k ≤ ns.length ∧ vi = .int .i64 (k : Int) ∧ BoxD w.heap.size De.zero (.slice none 0 0) wr ∧ BoxD (w.heap.size + 1) (rfirstK ns k) s wr ∧
    OwnM wr (w.heap.size + 2) s (numbered 1 (ns.take k)) ∧ Below w.heap.size w wr) (fun vi _ => ns.length - (intOf vi).toNat)
  case atStart =>
    refine ⟨0, .slice none 0 0, by omega, rfl, (BoxD.zero w).alloc _, ?_, own_nil _ _, by (repeat' (first | with_reducible assumption | with_reducible exact Below.refl _ _ | with_reducible refine Below.alloc ?_ ?_ _ | with_reducible refine Below.setCell ?_ ?_ _ | with_reducible refine Below.drew ?_ | omega | (simp; done) | (simp; omega)))⟩
    have := BoxD.new (w.alloc (.cells #[.int .i64 0, .string ⟨#[]⟩, .string ⟨#[]⟩, .int .i64 0, .slice none 0 0, .int .i64 0] 26)) (rfirstK ns 0) (.slice none 0 0)
    rw [World.size_alloc] at this
    exact this
  case round =>
    obtain ⟨k, s, hk, rfl, B0, B1, hown, hbw⟩ := hrel
    obtain ⟨z1, ⟨e1, e2, e3, e4, e5, e6⟩, e7⟩ := id B1
    simp only [rfirstK] at e1 e2 e3 e4 e5 e6
    have hO := Lib.hid hown
    by_cases hlt : k < ns.length
    · obtain ⟨b, o, rfl, hb, hc⟩ := (hv.below hbw).at_ hlt
      obtain ⟨x, hx⟩ : ∃ x, ns[k] = x := ⟨_, rfl⟩
      rw [hx] at hc
      have hX := Lib.hid hx
      clear hx
      have hbz := hbw.size
      have hbs : b < wr.heap.size := by omega
      have hlen : (numbered 1 (ns.take k)).length ≤ 1000 := by rw [numbered_length]; simp; omega
      have hsz : w.heap.size + 2 ≤ wr.heap.size := by have := B1.1; omega
      obtain ⟨A7, c7, rfl⟩ := (SM.of_own hown).form
      have j0 : (0 ≤ (k : Int)) = True := eq_true (by omega)
      have j1 : ((k : Int) < (ns.length : Int)) = True := eq_true (by omega)
      have j2 : IntKind.i64.wrap ((k : Int) + 1) = (k : Int) + 1 := by rw [IntKind.wrap_i64]; omega
      clear hown
      go_wp2_with fail
      refine St.wp_region_mixed (RF (w.heap.size + 2) (w.heap.size + 1) wr (.slice A7 (numbered 1 (ns.take k)).length c7) (numbered 1 (ns.take k)) (x, (k : Int) + 1)) (fun _ _ => False) (by kernel_rfl) (by kernel_rfl) (by kernel_rfl) ⟨fun _ => rfl, fun h => (by cases h), fun h => (by cases h), fun h => (by cases h)⟩ ?_
      have hO' := hO.out
      obtain ⟨i0, hi, hz0', hz1', hz2⟩ := info_parts infoM
      have cells : ∀ L u wx, RF (w.heap.size + 2) (w.heap.size + 1) wr (.slice A7 (numbered 1 (ns.take k)).length c7) (numbered 1 (ns.take k)) (x, (k : Int) + 1) L u wx → L 10 = false → wx.cell? ⟨w.heap.size + 1, 4, none⟩ = some (.slice A7 (numbered 1 (ns.take k)).length c7) ∧ wx.cell? ⟨b, o + k, none⟩ = some (.int .i64 x) := by
        intro L u wx hS h10
        cases h9 : L 9 with
        | false => rw [hS.w0 h9]; exact ⟨e5, hc⟩
        | true =>
          rw [hS.w9 h9 h10]
          exact ⟨(World.cell?_alloc_lt wr.drew _ ⟨w.heap.size + 1, 4, none⟩ (by show w.heap.size + 1 < wr.heap.size; omega)).trans e5, (World.cell?_alloc_lt wr.drew _ ⟨b, o + k, none⟩ hbs).trans hc⟩
      iterate 9
        (apply St.mix_give
         · rfl
         · intro L u' wx hS hcl hrd hag
           have h10 := St.not_yet hcl hrd 40 10 (by kernel_rfl)
           obtain ⟨f1, f2⟩ := cells _ _ _ hS h10
           go_simp
           try with_reducible rfl
         · exact fun L u' wx hS => ⟨hS.w0, hS.w9, hS.wa, hS.wz⟩
         simp only [Act.put, List.setIfInBounds_toArray, List.set_cons_zero, List.set_cons_succ])
      refine St.mix_free (fun z => z = .slice (some ⟨wr.heap.size, 0, none⟩) 1 1) rfl ?_ ?_
      · intro L u' wx hS hcl hrd hag
        have h10 := St.not_yet hcl hrd 40 10 (by kernel_rfl)
        have h12 := St.not_yet hcl hrd 40 12 (by kernel_rfl)
        obtain rfl := hS.w0 hrd.1
        refine ⟨_, _, rfl, ?_, ⟨fun h => (by simp [St.mark] at h), fun _ _ => rfl, fun h => (by rw [show St.mark L 9 10 = L 10 from rfl, h10] at h; cases h), fun h => (by rw [show St.mark L 9 12 = L 12 from rfl, h12] at h; cases h)⟩⟩
        go_simp
        try with_reducible rfl
      rintro _ rfl
      simp only [Act.put, List.setIfInBounds_toArray, List.set_cons_zero, List.set_cons_succ]
      refine St.mix_free (fun z => ∃ A c, z = .slice A ((numbered 1 (ns.take k)).length + 1) c) rfl ?_ ?_
      · intro L u' wx hS hcl hrd hag
        have h9 := St.before_ready hcl hrd 40 9 (by kernel_rfl)
        have h12 := St.not_yet hcl hrd 40 12 (by kernel_rfl)
        obtain rfl := hS.w9 h9 hrd.1
        obtain ⟨v', w', k1, k2, k3, _⟩ := run_append_own (P := Tryd.prog) (w := wr.drew.alloc (.cells #[.int .i64 x, .int .i64 ((k : Int) + 1)] 30)) (w.heap.size + 2) 24 24 30 i0 (.agg #[.int .i64 0, .int .i64 0]) 2 16 Tryd.underlying24 hi hz0' hz1' hz2 rfl (by decide)
          (.slice A7 (numbered 1 (ns.take k)).length c7) (numbered 1 (ns.take k)).length (mcells (numbered 1 (ns.take k))) (hO'.alloc (w := wr.drew) _) ⟨wr.heap.size, 0, none⟩ 1 1 [.int .i64 x, .int .i64 ((k : Int) + 1)] rfl
          (fun j z hz => by
            match j with
            | 0 => simp at hz; subst hz; exact World.cell?_alloc_new wr.drew _ _ 0
            | 1 => simp at hz; subst hz; exact World.cell?_alloc_new wr.drew _ _ 1
            | j + 2 => simp at hz) (fun z hz => by simp at hz; rcases hz with rfl | rfl <;> rfl) (by unfold maxLen; omega) (by omega) (by simp; omega)
        have k2' : OwnM w' (w.heap.size + 2) v' (numbered 1 (ns.take k) ++ [(x, (k : Int) + 1)]) := by
          show w'.ownsRow _ _ _ _ _ _
          rw [List.length_append, mcells_append]
          exact k2
        have hbe : Below (w.heap.size + 2) wr w' := (((Below.refl _ wr).drew).alloc hsz _).trans ((Below.refl _ _).grown k3 (by simp; omega) (fun q hq => ((hO'.alloc (w := wr.drew) (.cells #[.int .i64 x, .int .i64 ((k : Int) + 1)] 30)).lt q hq).1))
        refine ⟨v', w', ?_, run_append2 rfl rfl rfl k1, ⟨fun h => (by rw [show St.mark L 10 9 = L 9 from rfl, h9] at h; cases h), fun _ h => (by simp [St.mark] at h), fun _ _ => ⟨hbe, k2'⟩, fun h => (by rw [show St.mark L 10 12 = L 12 from rfl, h12] at h; cases h)⟩⟩
        obtain ⟨A', c', hv'⟩ := (SM.of_own k2').form
        rw [List.length_append] at hv'
        exact ⟨A', c', hv'⟩
      rintro y9 ⟨A9, c9, rfl⟩
      simp only [Act.put, List.setIfInBounds_toArray, List.set_cons_zero, List.set_cons_succ]
      iterate 1
        (apply St.mix_give
         · rfl
         · intro L u' wx hS hcl hrd hag
           skip
           go_simp
           try with_reducible rfl
         · exact fun L u' wx hS => ⟨hS.w0, hS.w9, hS.wa, hS.wz⟩
         simp only [Act.put, List.setIfInBounds_toArray, List.set_cons_zero, List.set_cons_succ])
      refine St.mix_skip rfl ?_ ?_
      · intro L u' wx hS hcl hrd hag
        have h10 := St.before_ready hcl hrd 40 10 (by kernel_rfl)
        have h9 := St.before_ready hcl hrd 40 9 (by kernel_rfl)
        obtain ⟨kb, k2⟩ := hS.wa h10 hrd.1
        have hu : u' 10 = .slice A9 ((numbered 1 (ns.take k)).length + 1) c9 := hag 40 10 (by kernel_rfl)
        have f1 := (kb.cell (p := ⟨w.heap.size + 1, 4, none⟩) (by show w.heap.size + 1 < w.heap.size + 2; omega)).trans e5
        have f2 := (kb.frozen (p := ⟨w.heap.size + 1, 4, none⟩) (by show w.heap.size + 1 < w.heap.size + 2; omega)).trans (e7 4)
        refine ⟨wx.setCell ⟨w.heap.size + 1, 4, none⟩ (u' 10), ?_, ⟨fun h => (by rw [show St.mark L 12 9 = L 9 from rfl, h9] at h; cases h), fun _ h => (by rw [show St.mark L 12 10 = L 10 from rfl, h10] at h; cases h), fun _ h => (by simp [St.mark] at h), fun _ => ⟨wx, ⟨kb, k2⟩, rfl⟩⟩⟩
        rw [hu]
        go_simp
        try with_reducible rfl
      simp only [Act.put]
      refine St.mix_last ?_
      intro L wx hS hall
      obtain ⟨w9, ⟨kb, k2⟩, hwx⟩ := hS.wz (hall 12 (by decide))
      have k2' : OwnM w9 (w.heap.size + 2) (.slice A9 ((numbered 1 (ns.take k)).length + 1) c9) (numbered 1 (ns.take k) ++ [(x, (k : Int) + 1)]) := k2
      have hwx' : wx = w9.setCell ⟨w.heap.size + 1, 4, none⟩ (.slice A9 ((numbered 1 (ns.take k)).length + 1) c9) := hwx
      have D0 : BoxD w.heap.size De.zero (.slice none 0 0) wx := by rw [hwx']; exact (B0.kept (N := w.heap.size + 2) (by omega) kb).other (by simp) _
      have D1 : BoxD (w.heap.size + 1) (rfirstK ns (k + 1)) (.slice A9 ((numbered 1 (ns.take k)).length + 1) c9) wx := by
        rw [hwx']
        have := B1.kept (N := w.heap.size + 2) (by omega) kb
        obtain ⟨t0, ⟨t1, t2, t3, t4, t5, t6⟩, t7⟩ := id this
        simp only [rfirstK] at t1 t2 t3 t4 t5 t6
        exact ⟨by simpa using t0, ⟨by simp [go_sem, t1, rfirstK], by simp [go_sem, t2, rfirstK], by simp [go_sem, t3, rfirstK], by simp [go_sem, t4, rfirstK], by simp [go_sem, t5], by simp [go_sem, t6, rfirstK]⟩, fun o => by simp [World.frozen?_setCell, t7]⟩
      have hbn : Below w.heap.size w wx := by rw [hwx']; exact (hbw.trans (kb.mono (by omega))).setCell (p := ⟨w.heap.size + 1, 4, none⟩) (by show w.heap.size ≤ w.heap.size + 1; omega) _
      have hOn : OwnM wx (w.heap.size + 2) (.slice A9 ((numbered 1 (ns.take k)).length + 1) c9) (numbered 1 (ns.take k) ++ [(x, (k : Int) + 1)]) := by rw [hwx']; exact own_set k2' (by show w.heap.size + 1 < w.heap.size + 2; omega) _
      clear hwx hwx' hS hall kb k2 k2' cells B0 B1 z1 e1 e2 e3 e4 e5 e6 e7
      have HON := Lib.hid hOn
      clear hOn hO' hO
      go_wp2_with fail
      go_roundw
      case rel =>
        refine ⟨k + 1, _, by omega, by go_num, D0, D1, ?_, hbn⟩
        rw [numbered_snoc ns k hlt, hX.out]
        exact HON.out
      case measure => simp [intOf]; omega
    · obtain rfl : k = ns.length := by omega
      have hD : rfirstK ns ns.length = ⟨1, ⟨#[]⟩, ⟨#[]⟩, 1, numbered 1 ns, (ns.length : Int) + 1⟩ := by unfold rfirstK; rw [List.take_length]
      have hF : firstD ns = okD (rfirstK ns ns.length) := by rw [hD]; rfl
      rw [List.take_length] at hown
      have ha : ArgM wr s (rfirstK ns ns.length).ms := by rw [hD]; exact ArgM.of_own hown
      obtain ⟨s', hs', ha'⟩ := okV_spec (rfirstK ns ns.length) s
      have cc := fun w hs => right_any (rfirstK ns ns.length) s w hs (by rw [hD]; show (numbered 1 ns).length ≤ _; rw [numbered_length]; omega) (by show (⟨#[]⟩ : ByteArray).size ≤ _; decide) (by show (⟨#[]⟩ : ByteArray).size ≤ _; decide)
      rw [hs'] at cc
      have hpq := HPQ.out
      rw [hF] at hpq
      rw [hpq] at cc ha'
      obtain ⟨A2, c2, rfl⟩ := (ha' _ ha).form
      have HS := Lib.hid (ha.sm)
      have HA := Lib.hid ha'
      obtain ⟨f0, ⟨f1, f2, f3, f4, f5, f6⟩, f7⟩ := id B0
      have hms : (rfirstK ns ns.length).ms = numbered 1 ns := by rw [hD]
      rw [hms] at HA
      have HN := Lib.hid hms
      clear hs' hpq hF hD ha ha' hown
      simp only at cc
      go_wp2_with fail
      refine (cc _ HS.out).mono ?_
      rintro e w1 ⟨rfl, b1⟩
      have D0 := B0.keep b1
      obtain ⟨y1, ⟨g1, g2, g3, g4, g5, g6⟩, g7⟩ := id D0
      have hbn : Below w.heap.size w w1 := hbw.trans (b1.mono (by omega))
      have hO1 := own_keep hO.out b1
      rw [List.take_length] at hO1
      have HO1 := Lib.hid hO1
      clear b1 hO1 hO
      go_wp2_with fail
      refine bodyPost_ret (v := .tuple #[dv p (.slice A2 p.ms.length c2), .int .i64 q]) (res_box_tmp Tryd.results31 rfl rfl (BoxD.put D0 p (.slice A2 p.ms.length c2))) rfl ⟨_, rfl, ?_, ?_⟩
      · refine HA.out _ (ArgM.of_own (base := w.heap.size + 2) ?_)
        have := HO1.out
        (repeat' (first | with_reducible assumption | with_reducible refine own_set ?_ ?_ _ | with_reducible refine own_alloc ?_ _ | with_reducible refine own_drew ?_ | omega | (simp; done) | (simp; omega)))
      · (repeat' (first | with_reducible assumption | with_reducible exact Below.refl _ _ | with_reducible refine Below.alloc ?_ ?_ _ | with_reducible refine Below.setCell ?_ ?_ _ | with_reducible refine Below.drew ?_ | omega | (simp; done) | (simp; omega)))
end Go.Proofs.YtlmecfnoipnccaaDoor.Ds

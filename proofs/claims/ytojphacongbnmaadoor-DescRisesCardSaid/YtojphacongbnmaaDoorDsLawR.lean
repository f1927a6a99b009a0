/-
  The law DescRises, walked: it answers true, at every list of nodes and of acts. Conditions: the form's own reach; the library's variables hold what their types allow.
-/
import Derived.Test.YtojphacongbnmaaDoorDsRiseM
import Derived.BigQuiet
namespace Go.Proofs.YtojphacongbnmaaDoor.Ds
open Go.RowKit Bnd

/-- the second result, while the loop of members goes on: the box of the member that was found -/
structure R29 (w6 : World) (a b : Int) (L : Nat → Bool) (u : Nat → Value) (wx : World) : Prop where
  lo : Below w6.heap.size w6 wx
  n : L 11 = true → ∃ n : Nat, u 11 = ptr n ∧ w6.heap.size ≤ n ∧ n < wx.heap.size ∧ (∀ o, wx.frozen? ⟨n, o, none⟩ = false) ∧ (∃ x y, wx.cell? ⟨n, 0, none⟩ = some x ∧ wx.cell? ⟨n, 1, none⟩ = some y) ∧ (L 12 = true → wx.cell? ⟨n, 0, none⟩ = some (.int .i64 a) ∧ wx.cell? ⟨n, 1, none⟩ = some (.int .i64 b))

theorem R29.call {w6 wx w' : World} {a b : Int} {L : Nat → Bool} {u : Nat → Value} (h : R29 w6 a b L u wx) (hb : Below wx.heap.size wx w') (v : Value) : R29 w6 a b (St.mark L 7) (St.upd u 7 v) w' := by
  refine ⟨h.lo.trans (hb.mono h.lo.size), fun h11 => ?_⟩
  obtain ⟨n, g1, g2, g3, g4, ⟨x, y, g5, g6⟩, g7⟩ := h.n h11
  have hc : ∀ o, w'.cell? ⟨n, o, none⟩ = wx.cell? ⟨n, o, none⟩ := fun o => hb.cell (p := ⟨n, o, none⟩) g3
  refine ⟨n, g1, g2, Nat.lt_of_lt_of_le g3 hb.size, fun o => (hb.frozen (p := ⟨n, o, none⟩) g3).trans (g4 o), ⟨x, y, by rw [hc]; exact g5, by rw [hc]; exact g6⟩, fun h12 => ?_⟩
  obtain ⟨g8, g9⟩ := g7 h12
  exact ⟨by rw [hc]; exact g8, by rw [hc]; exact g9⟩
theorem R29.free {w6 wx : World} {a b : Int} {L : Nat → Bool} {u : Nat → Value} (h : R29 w6 a b L u wx) (h12 : L 12 = false) (o : Nat) : R29 w6 a b (St.mark L 11) (St.upd u 11 (ptr wx.heap.size)) (wx.alloc (.cells #[.int .i64 0, .int .i64 0] o)) := by
  refine ⟨h.lo.alloc h.lo.size _, fun _ => ⟨wx.heap.size, rfl, h.lo.size, by simp, fun o => by simp [go_sem], ⟨.int .i64 0, .int .i64 0, by simp [go_sem], by simp [go_sem]⟩, fun h' => ?_⟩⟩
  rw [show St.mark L 11 12 = L 12 from rfl, h12] at h'; cases h'
theorem R29.set {w6 wx : World} {a b : Int} {L : Nat → Bool} {u : Nat → Value} (h : R29 w6 a b L u wx) (h11 : L 11 = true) {n : Nat} (hu : u 11 = ptr n) : R29 w6 a b (St.mark L 12) (St.upd u 12 undef) ((wx.setCell ⟨n, 0, none⟩ (.int .i64 a)).setCell ⟨n, 1, none⟩ (.int .i64 b)) := by
  obtain ⟨n', g1, g2, g3, g4, ⟨x, y, g5, g6⟩, _⟩ := h.n h11
  obtain rfl := ptr_inj (hu.symm.trans g1)
  refine ⟨(h.lo.setCell (p := ⟨n, 0, none⟩) g2 _).setCell (p := ⟨n, 1, none⟩) g2 _, fun _ => ⟨n, hu, g2, by simpa using g3, fun o => by simp [World.frozen?_setCell, g4], ⟨.int .i64 a, .int .i64 b, by simp [go_sem, g5], by simp [go_sem, g6]⟩, fun _ => ⟨by simp [go_sem, g5], by simp [go_sem, g6]⟩⟩⟩

set_option maxHeartbeats 16000000 in
set_option maxRecDepth 100000 in
theorem walk_rises (ns : List Int) (v : Value) (xs : List Ac) (u : Value) (w : World) (hv : SI w w.heap.size v ns) (hu : SAc w w.heap.size u xs) (hnl : ns.length ≤ 140737488355328) (hxl : xs.length ≤ 140737488355328) (hg : Good w) :
    Calls Tryd.prog 6 #[v, u] w fun e w' => e = .returned (.bool true) ∧ Below w.heap.size w w' := by
  obtain ⟨A, c, rfl⟩ := hv.form
  obtain ⟨U, k, rfl⟩ := hu.form
  have hlive := fun wx (hb : Below w.heap.size w wx) => live_any wx (hg.below hb)
  by_cases hsm : ns.length ≤ 30 ∧ xs.length ≤ 30
  rotate_left
  · have g : ((ns.length : Int) > 30) = True ∨ (((ns.length : Int) > 30) = False ∧ ((xs.length : Int) > 30) = True) := by
      by_cases h1 : (ns.length : Int) > 30
      · exact .inl (eq_true h1)
      · exact .inr ⟨eq_false h1, eq_true (by omega)⟩
    clear hsm
    rcases g with g1 | ⟨g1, g2⟩
    all_goals
      go_enter Tryd.func6, Tryd.ntmps6
      go_wp2_with fail
      refine (hlive _ (by (repeat' (first | with_reducible assumption | with_reducible exact Below.refl _ _ | with_reducible refine Below.alloc ?_ ?_ _ | with_reducible refine Below.setCell ?_ ?_ _ | with_reducible refine Below.drew ?_ | omega | (simp; done) | (simp; omega))))).mono ?_
      rintro e w1 ⟨rfl, b1⟩
      go_wp2_with fail
      go_ret
      exact ⟨rfl, b1⟩
  · obtain ⟨n30, x30⟩ := hsm
    have g1 : ((ns.length : Int) > 30) = False := eq_false (by omega)
    have g2 : ((xs.length : Int) > 30) = False := eq_false (by omega)
    have c1 := first_any (.slice A ns.length c) ns w hv hnl
    rcases first_cases ns with ⟨d0, hf, hd0⟩ | hf
    rotate_left
    · obtain ⟨x, hxz⟩ : ∃ x, x = De.zero := ⟨_, rfl⟩
      have c2 := c1.mono fun e w' hh => Gave.form (show Gave w (firstD ns) e w' from hh) (show firstD ns = (x, 60) by rw [hf, hxz])
      clear c1 hf hxz
      go_enter Tryd.func6, Tryd.ntmps6
      go_wp2_with fail
      refine c2.mono ?_
      rintro e w1 ⟨A1, k1, rfl, a1, b1⟩
      go_wp2_with fail
      refine (num_any _ _).mono ?_
      rintro e w' ⟨rfl, rfl⟩
      go_wp2_with fail
      refine (num_any _ _).mono ?_
      rintro e w' ⟨rfl, rfl⟩
      have hz1 := b1.size
      go_wp2_with fail
      refine (hlive _ (by (repeat' (first | with_reducible assumption | with_reducible exact Below.refl _ _ | with_reducible refine Below.alloc ?_ ?_ _ | with_reducible refine Below.setCell ?_ ?_ _ | with_reducible refine Below.drew ?_ | omega | (simp; done) | (simp; omega))))).mono ?_
      rintro e w2 ⟨rfl, b2⟩
      go_wp2_with fail
      go_ret
      exact ⟨rfl, (b1.alloc b1.size _).trans (b2.mono (by have := b1.size; simp; omega))⟩
    · have c2 := c1.mono fun e w' hh => Gave.form (show Gave w (firstD ns) e w' from hh) hf
      clear c1 hf
      have HD0 := Lib.hid hd0
      clear hd0
      go_enter Tryd.func6, Tryd.ntmps6
      go_wp2_with fail
      refine c2.mono ?_
      rintro e w1 ⟨A1, k1, rfl, a1, b1⟩
      have B1 := BoxE.new w1 d0 (.slice A1 d0.ms.length k1)
      go_wp2_with fail
      refine (num_any _ _).mono ?_
      rintro e w' ⟨rfl, rfl⟩
      go_wp2_with fail
      clear c2
      go_loopw [7, 8, 9, 10, 11, 12, 13] (fun vi _ _ _ _ _ _ wr => ∃ (j : Nat) (d : De) (s : Value), j ≤ xs.length ∧ vi = .int .i64 (j : Int) ∧ BoxE w1.heap.size d s wr ∧ ArgM wr s d.ms ∧ Hid (Kp d) ∧ Below w.heap.size w wr ∧ Below w1.heap.size w1 wr) (fun vi _ _ _ _ _ _ _ => xs.length - (intOf vi).toNat)
      case atStart =>
        exact ⟨0, d0, _, Nat.zero_le _, rfl, B1, a1.keep ((Below.refl _ w1).alloc (Nat.le_refl _) _), HD0, b1.alloc b1.size _, (Below.refl _ w1).alloc (Nat.le_refl _) _⟩
      case round =>
        revert hrel; revert wr; intro wo hrel
        have hz1 := b1.size
        clear B1 a1 HD0 b1
        obtain ⟨j, d, s, hj, rfl, B0, a0, HD, hbw, hb1⟩ := hrel
        obtain ⟨A2, k2, rfl⟩ := a0.form
        obtain ⟨o_0, ⟨o_1, o_2, o_3, o_4, o_5, o_6⟩, o_7⟩ := id B0.1
        by_cases hlt : j < xs.length
        rotate_left
        · obtain rfl : j = xs.length := by omega
          go_wp2_with fail
          refine (hlive _ hbw).mono ?_
          rintro e w2 ⟨rfl, b2⟩
          go_wp2_with fail
          go_ret
          exact ⟨rfl, hbw.trans (b2.mono hbw.size)⟩
        · obtain ⟨b, o, rfl, hb, q1, q2, q3, q4⟩ := (hu.below hbw).at_ hlt
          obtain ⟨⟨kd, nd, i, key⟩, hm⟩ : ∃ m, xs[j] = m := ⟨_, rfl⟩
          rw [hm] at q1 q2 q3 q4
          clear hm
          simp only at q1 q2 q3 q4
          by_cases hkey : key.size ≤ 2000
          rotate_left
          · have y1 : ((key.size : Int) > 2000) = True := eq_true (by omega)
            go_wp2_with fail
            refine (hlive _ (by (repeat' (first | with_reducible assumption | with_reducible exact Below.refl _ _ | with_reducible refine Below.alloc ?_ ?_ _ | with_reducible refine Below.setCell ?_ ?_ _ | with_reducible refine Below.drew ?_ | omega | (simp; done) | (simp; omega))))).mono ?_
            rintro e w2 ⟨rfl, b2⟩
            go_wp2_with fail
            go_ret
            exact ⟨rfl, (hbw.alloc hbw.size _).trans (b2.mono (by have := hbw.size; simp; omega))⟩
          · have y1 : ((key.size : Int) > 2000) = False := eq_false (by omega)
            have fd := HD.out.fit
            have hgd := isD_gen HD.out.is
            have hml : d.ms.length ≤ 140737488355328 := by have := fd.n; omega
            have HFD := Lib.hid fd
            have HML := Lib.hid hml
            have HGD := Lib.hid hgd
            clear fd hgd hml
            by_cases z0 : kd = 0
            · subst z0
              rcases act_add nd HD.out with ⟨x, hx, hrise, hkx⟩ | ⟨q, hx, hq⟩
              rotate_left
              · as_aux_lemma =>
                  obtain ⟨x, hxz⟩ : ∃ x, x = De.zero := ⟨_, rfl⟩
                  have cc := fun w h => (add_any d (.slice A2 d.ms.length k2) nd w h HFD.out).mono fun e w' hh => Gave.form hh (show addD d nd = (x, q) by rw [hx, hxz])
                  have u1 : (q == 0) = false := by simpa using hq
                  have u2 : (q = 0) = False := eq_false hq
                  clear hx hxz hq
                  go_wp2_with fail
                  refine (cc _ (a0.keep (by (repeat' (first | with_reducible assumption | with_reducible exact Below.refl _ _ | with_reducible refine Below.alloc ?_ ?_ _ | with_reducible refine Below.setCell ?_ ?_ _ | with_reducible refine Below.drew ?_ | omega | (simp; done) | (simp; omega)))))).mono ?_
                  rintro e w3 ⟨A3, k3, rfl, a3, b3⟩
                  have BD : BoxE (wo.heap.size + 1) d (.slice A2 d.ms.length k2) w3 := by
                    have := (BoxE.new (wo.alloc (.cells #[.int .i64 0, .int .i64 nd, .int .i64 i, .string key] 62)) d (.slice A2 d.ms.length k2)).keep b3
                    rw [World.size_alloc] at this; exact this
                  obtain ⟨p_0, ⟨p_1, p_2, p_3, p_4, p_5, p_6⟩, p_7⟩ := id BD.1
                  have hb3 : Below wo.heap.size wo w3 := (((Below.refl _ wo).alloc (Nat.le_refl _) _).alloc (by simp) _).trans (b3.mono (by simp; omega))
                  clear b3
                  go_wp2_with fail
                  refine (num_any _ _).mono ?_
                  rintro e w' ⟨rfl, rfl⟩
                  go_wp2_with fail
                  go_roundw
                  case rel =>
                    have hfin : Below wo.heap.size wo (putW w3 (wo.heap.size + 1) x (.slice A3 x.ms.length k3)) := by unfold putW; (repeat' (first | with_reducible assumption | with_reducible exact Below.refl _ _ | with_reducible refine Below.alloc ?_ ?_ _ | with_reducible refine Below.setCell ?_ ?_ _ | with_reducible refine Below.drew ?_ | omega | (simp; done) | (simp; omega)))
                    exact ⟨j + 1, d, .slice A2 d.ms.length k2, by omega, by go_num, B0.keep hfin, a0.keep hfin, HD, hbw.trans (hfin.mono hbw.size), hb1.trans (hfin.mono hb1.size)⟩
                  case measure => simp [intOf]; omega
              · as_aux_lemma =>
                  have cc := fun w h => (add_any d (.slice A2 d.ms.length k2) nd w h HFD.out).mono fun e w' hh => Gave.form hh hx
                  have HR := Lib.hid hrise
                  have HKX := Lib.hid hkx
                  clear hx hrise hkx
                  go_wp2_with fail
                  refine (cc _ (a0.keep (by (repeat' (first | with_reducible assumption | with_reducible exact Below.refl _ _ | with_reducible refine Below.alloc ?_ ?_ _ | with_reducible refine Below.setCell ?_ ?_ _ | with_reducible refine Below.drew ?_ | omega | (simp; done) | (simp; omega)))))).mono ?_
                  rintro e w3 ⟨A3, k3, rfl, a3, b3⟩
                  have BD : BoxE (wo.heap.size + 1) d (.slice A2 d.ms.length k2) w3 := by
                    have := (BoxE.new (wo.alloc (.cells #[.int .i64 0, .int .i64 nd, .int .i64 i, .string key] 62)) d (.slice A2 d.ms.length k2)).keep b3
                    rw [World.size_alloc] at this; exact this
                  obtain ⟨p_0, ⟨p_1, p_2, p_3, p_4, p_5, p_6⟩, p_7⟩ := id BD.1
                  have hb3 : Below wo.heap.size wo w3 := (((Below.refl _ wo).alloc (Nat.le_refl _) _).alloc (by simp) _).trans (b3.mono (by simp; omega))
                  clear b3
                  go_wp2_with fail
                  refine (num_any _ _).mono ?_
                  rintro e w4 ⟨rfl, hw4⟩
                  have BX : BoxE (wo.heap.size + 1) x (.slice A3 x.ms.length k3) w4 := by rw [← hw4]; exact BoxE.put BD x _
                  have a4 : ArgM w4 (.slice A3 x.ms.length k3) x.ms := by rw [← hw4]; exact BoxE.put_arg (d := x) (s := .slice A3 x.ms.length k3) BD ⟨_, _, _, rfl⟩ a3
                  have hb4 : Below wo.heap.size wo w4 := by rw [← hw4]; exact (by (repeat' (first | with_reducible assumption | with_reducible exact Below.refl _ _ | with_reducible refine Below.alloc ?_ ?_ _ | with_reducible refine Below.setCell ?_ ?_ _ | with_reducible refine Below.drew ?_ | omega | (simp; done) | (simp; omega))))
                  have cx := fun w h => check_any x (.slice A3 x.ms.length k3) w h (by have := HKX.out.fit.n; omega) (by have := HKX.out.f; omega) (by have := HKX.out.t; omega)
                  rw [chkD_yes HKX.out.is] at cx
                  have B4 := B0.keep hb4
                  clear p_0 p_1 p_2 p_3 p_4 p_5 p_6 p_7
                  clear o_0 o_1 o_2 o_3 o_4 o_5 o_6 o_7
                  clear hw4 hb3 a3 BD
                  obtain ⟨p_0, ⟨p_1, p_2, p_3, p_4, p_5, p_6⟩, p_7⟩ := id BX.1
                  obtain ⟨o_0, ⟨o_1, o_2, o_3, o_4, o_5, o_6⟩, o_7⟩ := id B4.1
                  go_wp2_with fail
                  refine (cx _ a4.sm).mono ?_
                  rintro e w5 ⟨rfl, b5⟩
                  have hb5 : Below wo.heap.size wo w5 := hb4.trans (b5.mono hb4.size)
                  have BX5 := BX.keep b5
                  have B5 := B4.keep b5
                  have a5 := a4.keep b5
                  have ad5 := a0.keep hb5
                  clear p_0 p_1 p_2 p_3 p_4 p_5 p_6 p_7
                  clear o_0 o_1 o_2 o_3 o_4 o_5 o_6 o_7
                  clear BX a4 hb4 cx B4 b5
                  obtain ⟨p_0, ⟨p_1, p_2, p_3, p_4, p_5, p_6⟩, p_7⟩ := id BX5.1
                  obtain ⟨o_0, ⟨o_1, o_2, o_3, o_4, o_5, o_6⟩, o_7⟩ := id B5.1
                  rw [HR.out.gen] at p_4
                  obtain ⟨e1, e2⟩ := HGD.out
                  have e3 : (x.next < d.next) = False := eq_false (by have := HR.out.next; omega)
                  go_wp2_with fail
                  refine (num_any _ _).mono ?_
                  rintro e w' ⟨rfl, rfl⟩
                  go_wp2_with fail
                  go_loopw [11, 12, 13] (fun vm _ _ wr => ∃ m : Nat, m ≤ x.ms.length ∧ vm = .int .i64 (m : Int) ∧ Below w5.heap.size w5 wr) (fun vm _ _ _ => x.ms.length - (intOf vm).toNat)
                  case atStart => exact ⟨0, Nat.zero_le _, rfl, Below.refl _ _⟩
                  case round =>
                    clear p_0 p_1 p_2 p_3 p_4 p_5 p_6 p_7
                    clear o_0 o_1 o_2 o_3 o_4 o_5 o_6 o_7
                    obtain ⟨m, hm, rfl, hby⟩ := hrel
                    have BXy := BX5.keep hby
                    have By := B5.keep hby
                    have ay := a5.keep hby
                    have ady := ad5.keep hby
                    have hbyw : Below wo.heap.size wo wr := hb5.trans (hby.mono hb5.size)
                    obtain ⟨p_0, ⟨p_1, p_2, p_3, p_4, p_5, p_6⟩, p_7⟩ := id BXy.1
                    by_cases hlm : m < x.ms.length
                    rotate_left
                    · obtain rfl : m = x.ms.length := by omega
                      obtain ⟨o_0, ⟨o_1, o_2, o_3, o_4, o_5, o_6⟩, o_7⟩ := id By.1
                      go_wp2_with fail
                      go_roundw
                      case rel =>
                        refine ⟨j + 1, x, .slice A3 x.ms.length k3, by omega, by go_num, BoxE.put By x (.slice A3 x.ms.length k3), BoxE.put_arg (d := x) (s := .slice A3 x.ms.length k3) By ⟨_, _, _, rfl⟩ ay, HKX, ?_, ?_⟩
                        · have hbw2 := hbw.trans (hbyw.mono hbw.size)
                          (repeat' (first | with_reducible assumption | with_reducible exact Below.refl _ _ | with_reducible refine Below.alloc ?_ ?_ _ | with_reducible refine Below.setCell ?_ ?_ _ | with_reducible refine Below.drew ?_ | omega | (simp; done) | (simp; omega)))
                        · have hbw2 := hb1.trans (hbyw.mono hb1.size)
                          (repeat' (first | with_reducible assumption | with_reducible exact Below.refl _ _ | with_reducible refine Below.alloc ?_ ?_ _ | with_reducible refine Below.setCell ?_ ?_ _ | with_reducible refine Below.drew ?_ | omega | (simp; done) | (simp; omega)))
                      case measure => simp [intOf]; omega
                    · obtain ⟨b2, o2, rfl, hb2, m1, m2⟩ := ay.sm.at_ hlm
                      obtain ⟨⟨p, n⟩, hpn⟩ : ∃ m', x.ms[m] = m' := ⟨_, rfl⟩
                      have hmem : (p, n) ∈ x.ms := by rw [← hpn]; exact List.getElem_mem hlm
                      rw [hpn] at m1 m2
                      clear hpn
                      simp only at m1 m2
                      have hrise := HR.out.ms (p, n) hmem
                      have i0 : (0 ≤ (m : Int)) = True := eq_true (by omega)
                      have i1 : ((m : Int) < (x.ms.length : Int)) = True := eq_true (by omega)
                      have hx5 := HKX.out.fit.n
                      have ch := fun wx h => has_any d (.slice A2 d.ms.length k2) n wx h HML.out
                      clear hmem
                      rcases hrise with hr | ⟨hr, hnx⟩
                      · rw [hr] at ch
                        have CH : ∀ wx, ArgM wx (.slice A2 d.ms.length k2) d.ms → Calls Tryd.prog 14 #[dv d (.slice A2 d.ms.length k2), .int .i64 n] wx fun e w' => e = .returned (.tuple #[.agg #[.int .i64 p, .int .i64 n], .bool true]) ∧ Below wx.heap.size wx w' := fun wx h => ch wx h.sm
                        clear ch hr
                        go_wp2_with fail
                        refine St.wp_region_mixed (fun L u wx => R29 wr p n L u wx) (fun _ z => z = .tuple #[.agg #[.int .i64 p, .int .i64 n], .bool true]) (by kernel_rfl) (by kernel_rfl) (by kernel_rfl) ⟨(Below.refl _ wr).drew, fun h => (by cases h)⟩ ?_
                        iterate 7
                          (apply St.mix_give
                           · rfl
                           · intro L u' wx hS hcl hrd hag
                             have BXx := BXy.keep hS.lo
                             have Bx := By.keep hS.lo
                             have hbx := hS.lo
                             obtain ⟨_, ⟨x1, x2, x3, x4, x5, x6⟩, _⟩ := BXx.1
                             obtain ⟨_, ⟨z1, z2, z3, z4, z5, z6⟩, _⟩ := Bx.1
                             have y1 := (hbx.cell (p := ⟨b2, o2 + m * 2, none⟩) hb2).trans m1
                             have y2 := (hbx.cell (p := ⟨b2, o2 + m * 2 + 1, none⟩) hb2).trans m2
                             clear hbx BXx Bx
                             go_simp
                             try with_reducible rfl
                           · exact fun L u' wx hS => ⟨hS.lo, hS.n⟩
                           simp only [Act.put, List.setIfInBounds_toArray, List.set_cons_zero, List.set_cons_succ])
                        refine St.mix_into (v := .tuple #[.agg #[.int .i64 p, .int .i64 n], .bool true]) (f := 14) (args := #[dv d (.slice A2 d.ms.length k2), .int .i64 n]) rfl rfl ?_ ?_ ?_
                        · intro wx
                          go_simp
                          try with_reducible rfl
                        · intro L u' wx hS hcl hrd hag
                          refine (CH wx (ady.keep hS.lo)).mono ?_
                          rintro e w' ⟨rfl, hb'⟩
                          exact ⟨rfl, hS.call hb' _⟩
                        simp only [Act.put, List.setIfInBounds_toArray, List.set_cons_zero, List.set_cons_succ]
                        iterate 3
                          (apply St.mix_give
                           · rfl
                           · intro L u' wx hS hcl hrd hag
                             skip
                             go_simp
                             try with_reducible rfl
                           · exact fun L u' wx hS => ⟨hS.lo, hS.n⟩
                           simp only [Act.put, List.setIfInBounds_toArray, List.set_cons_zero, List.set_cons_succ])
                        refine St.mix_free (fun z => ∃ n', z = ptr n') rfl ?_ ?_
                        · intro L u' wx hS hcl hrd hag
                          refine ⟨ptr wx.heap.size, _, ⟨_, rfl⟩, ?_, hS.free (St.not_yet hcl hrd 40 12 (by kernel_rfl)) 30⟩
                          go_simp
                          try with_reducible rfl
                        rintro _ ⟨nb, rfl⟩
                        simp only [Act.put, List.setIfInBounds_toArray, List.set_cons_zero, List.set_cons_succ]
                        refine St.mix_skip rfl ?_ ?_
                        · intro L u' wx hS hcl hrd hag
                          have h11 := St.before_ready hcl hrd 40 11 (by kernel_rfl)
                          have hu11 : u' 11 = ptr nb := hag 40 11 (by kernel_rfl)
                          refine ⟨_, ?_, hS.set h11 hu11⟩
                          obtain ⟨n', g1, g2, g3, g4, ⟨x', y', g5, g6⟩, _⟩ := hS.n h11
                          obtain rfl := ptr_inj (hu11.symm.trans g1)
                          clear g1
                          go_simp
                          try with_reducible rfl
                        simp only [Act.put]
                        iterate 1
                          (apply St.mix_give
                           · rfl
                           · intro L u' wx hS hcl hrd hag
                             skip
                             go_simp
                             try with_reducible rfl
                           · exact fun L u' wx hS => ⟨hS.lo, hS.n⟩
                           simp only [Act.put, List.setIfInBounds_toArray, List.set_cons_zero, List.set_cons_succ])
                        refine St.mix_last ?_
                        intro L wx hS hall
                        obtain ⟨n', g1, g2, g3, g4, _, g5⟩ := hS.n (hall 11 (by decide))
                        obtain rfl := ptr_inj (show ptr nb = ptr n' from g1)
                        obtain ⟨g6, g7⟩ := g5 (hall 12 (by decide))
                        have hbx := hS.lo
                        clear g1 g5 hS hall CH
                        have BXx := BXy.keep hbx
                        have Bx := By.keep hbx
                        clear p_0 p_1 p_2 p_3 p_4 p_5 p_6 p_7
                        obtain ⟨_, ⟨x1, x2, x3, x4, x5, x6⟩, _⟩ := BXx.1
                        obtain ⟨_, ⟨z1, z2, z3, z4, z5, z6⟩, _⟩ := Bx.1
                        have y1 := (hbx.cell (p := ⟨b2, o2 + m * 2, none⟩) hb2).trans m1
                        have y2 := (hbx.cell (p := ⟨b2, o2 + m * 2 + 1, none⟩) hb2).trans m2
                        clear m1 m2
                        go_wp2_with fail
                        go_quiet (fail)
                        go_wp2_with fail
                        go_roundw
                        case rel => exact ⟨m + 1, by omega, by go_num, below_drewN (hby.trans (hbx.mono hby.size)) _⟩
                        case measure => simp [intOf]; omega
                      · rw [hr] at ch
                        have CH : ∀ wx, ArgM wx (.slice A2 d.ms.length k2) d.ms → Calls Tryd.prog 14 #[dv d (.slice A2 d.ms.length k2), .int .i64 n] wx fun e w' => e = .returned (.tuple #[.agg #[.int .i64 0, .int .i64 0], .bool false]) ∧ Below wx.heap.size wx w' := fun wx h => ch wx h.sm
                        clear ch hr
                        go_wp2_with fail
                        refine St.wp_region_mixed (fun L u wx => R29 wr 0 0 L u wx) (fun _ z => z = .tuple #[.agg #[.int .i64 0, .int .i64 0], .bool false]) (by kernel_rfl) (by kernel_rfl) (by kernel_rfl) ⟨(Below.refl _ wr).drew, fun h => (by cases h)⟩ ?_
                        iterate 7
                          (apply St.mix_give
                           · rfl
                           · intro L u' wx hS hcl hrd hag
                             have BXx := BXy.keep hS.lo
                             have Bx := By.keep hS.lo
                             have hbx := hS.lo
                             obtain ⟨_, ⟨x1, x2, x3, x4, x5, x6⟩, _⟩ := BXx.1
                             obtain ⟨_, ⟨z1, z2, z3, z4, z5, z6⟩, _⟩ := Bx.1
                             have y1 := (hbx.cell (p := ⟨b2, o2 + m * 2, none⟩) hb2).trans m1
                             have y2 := (hbx.cell (p := ⟨b2, o2 + m * 2 + 1, none⟩) hb2).trans m2
                             clear hbx BXx Bx
                             go_simp
                             try with_reducible rfl
                           · exact fun L u' wx hS => ⟨hS.lo, hS.n⟩
                           simp only [Act.put, List.setIfInBounds_toArray, List.set_cons_zero, List.set_cons_succ])
                        refine St.mix_into (v := .tuple #[.agg #[.int .i64 0, .int .i64 0], .bool false]) (f := 14) (args := #[dv d (.slice A2 d.ms.length k2), .int .i64 n]) rfl rfl ?_ ?_ ?_
                        · intro wx
                          go_simp
                          try with_reducible rfl
                        · intro L u' wx hS hcl hrd hag
                          refine (CH wx (ady.keep hS.lo)).mono ?_
                          rintro e w' ⟨rfl, hb'⟩
                          exact ⟨rfl, hS.call hb' _⟩
                        simp only [Act.put, List.setIfInBounds_toArray, List.set_cons_zero, List.set_cons_succ]
                        iterate 3
                          (apply St.mix_give
                           · rfl
                           · intro L u' wx hS hcl hrd hag
                             skip
                             go_simp
                             try with_reducible rfl
                           · exact fun L u' wx hS => ⟨hS.lo, hS.n⟩
                           simp only [Act.put, List.setIfInBounds_toArray, List.set_cons_zero, List.set_cons_succ])
                        refine St.mix_free (fun z => ∃ n', z = ptr n') rfl ?_ ?_
                        · intro L u' wx hS hcl hrd hag
                          refine ⟨ptr wx.heap.size, _, ⟨_, rfl⟩, ?_, hS.free (St.not_yet hcl hrd 40 12 (by kernel_rfl)) 30⟩
                          go_simp
                          try with_reducible rfl
                        rintro _ ⟨nb, rfl⟩
                        simp only [Act.put, List.setIfInBounds_toArray, List.set_cons_zero, List.set_cons_succ]
                        refine St.mix_skip rfl ?_ ?_
                        · intro L u' wx hS hcl hrd hag
                          have h11 := St.before_ready hcl hrd 40 11 (by kernel_rfl)
                          have hu11 : u' 11 = ptr nb := hag 40 11 (by kernel_rfl)
                          refine ⟨_, ?_, hS.set h11 hu11⟩
                          obtain ⟨n', g1, g2, g3, g4, ⟨x', y', g5, g6⟩, _⟩ := hS.n h11
                          obtain rfl := ptr_inj (hu11.symm.trans g1)
                          clear g1
                          go_simp
                          try with_reducible rfl
                        simp only [Act.put]
                        iterate 1
                          (apply St.mix_give
                           · rfl
                           · intro L u' wx hS hcl hrd hag
                             skip
                             go_simp
                             try with_reducible rfl
                           · exact fun L u' wx hS => ⟨hS.lo, hS.n⟩
                           simp only [Act.put, List.setIfInBounds_toArray, List.set_cons_zero, List.set_cons_succ])
                        refine St.mix_last ?_
                        intro L wx hS hall
                        obtain ⟨n', g1, g2, g3, g4, _, g5⟩ := hS.n (hall 11 (by decide))
                        obtain rfl := ptr_inj (show ptr nb = ptr n' from g1)
                        obtain ⟨g6, g7⟩ := g5 (hall 12 (by decide))
                        have hbx := hS.lo
                        clear g1 g5 hS hall CH
                        have BXx := BXy.keep hbx
                        have Bx := By.keep hbx
                        clear p_0 p_1 p_2 p_3 p_4 p_5 p_6 p_7
                        obtain ⟨_, ⟨x1, x2, x3, x4, x5, x6⟩, _⟩ := BXx.1
                        obtain ⟨_, ⟨z1, z2, z3, z4, z5, z6⟩, _⟩ := Bx.1
                        have y1 := (hbx.cell (p := ⟨b2, o2 + m * 2, none⟩) hb2).trans m1
                        have y2 := (hbx.cell (p := ⟨b2, o2 + m * 2 + 1, none⟩) hb2).trans m2
                        clear m1 m2
                        have n3 : (n < d.next) = False := eq_false (by omega)
                        go_wp2_with fail
                        go_quiet (fail)
                        go_wp2_with fail
                        go_roundw
                        case rel => exact ⟨m + 1, by omega, by go_num, below_drewN (hby.trans (hbx.mono hby.size)) _⟩
                        case measure => simp [intOf]; omega
            have f0 : (kd == 0) = false := by simpa using z0
            have v0 : (kd = 0) = False := eq_false z0
            clear z0
            by_cases z1 : kd = 1
            · subst z1
              rcases act_remove i HD.out with ⟨x, hx, hrise, hkx⟩ | ⟨q, hx, hq⟩
              rotate_left
              · as_aux_lemma =>
                  obtain ⟨x, hxz⟩ : ∃ x, x = De.zero := ⟨_, rfl⟩
                  have cc := fun w h => (remove_any d (.slice A2 d.ms.length k2) i w h HFD.out).mono fun e w' hh => Gave.form hh (show removeD d i = (x, q) by rw [hx, hxz])
                  have u1 : (q == 0) = false := by simpa using hq
                  have u2 : (q = 0) = False := eq_false hq
                  clear hx hxz hq
                  go_wp2_with fail
                  refine (cc _ (a0.keep (by (repeat' (first | with_reducible assumption | with_reducible exact Below.refl _ _ | with_reducible refine Below.alloc ?_ ?_ _ | with_reducible refine Below.setCell ?_ ?_ _ | with_reducible refine Below.drew ?_ | omega | (simp; done) | (simp; omega)))))).mono ?_
                  rintro e w3 ⟨A3, k3, rfl, a3, b3⟩
                  have BD : BoxE (wo.heap.size + 1) d (.slice A2 d.ms.length k2) w3 := by
                    have := (BoxE.new (wo.alloc (.cells #[.int .i64 1, .int .i64 nd, .int .i64 i, .string key] 62)) d (.slice A2 d.ms.length k2)).keep b3
                    rw [World.size_alloc] at this; exact this
                  obtain ⟨p_0, ⟨p_1, p_2, p_3, p_4, p_5, p_6⟩, p_7⟩ := id BD.1
                  have hb3 : Below wo.heap.size wo w3 := (((Below.refl _ wo).alloc (Nat.le_refl _) _).alloc (by simp) _).trans (b3.mono (by simp; omega))
                  clear b3
                  go_wp2_with fail
                  refine (num_any _ _).mono ?_
                  rintro e w' ⟨rfl, rfl⟩
                  go_wp2_with fail
                  go_roundw
                  case rel =>
                    have hfin : Below wo.heap.size wo (putW w3 (wo.heap.size + 1) x (.slice A3 x.ms.length k3)) := by unfold putW; (repeat' (first | with_reducible assumption | with_reducible exact Below.refl _ _ | with_reducible refine Below.alloc ?_ ?_ _ | with_reducible refine Below.setCell ?_ ?_ _ | with_reducible refine Below.drew ?_ | omega | (simp; done) | (simp; omega)))
                    exact ⟨j + 1, d, .slice A2 d.ms.length k2, by omega, by go_num, B0.keep hfin, a0.keep hfin, HD, hbw.trans (hfin.mono hbw.size), hb1.trans (hfin.mono hb1.size)⟩
                  case measure => simp [intOf]; omega
              · as_aux_lemma =>
                  have cc := fun w h => (remove_any d (.slice A2 d.ms.length k2) i w h HFD.out).mono fun e w' hh => Gave.form hh hx
                  have HR := Lib.hid hrise
                  have HKX := Lib.hid hkx
                  clear hx hrise hkx
                  go_wp2_with fail
                  refine (cc _ (a0.keep (by (repeat' (first | with_reducible assumption | with_reducible exact Below.refl _ _ | with_reducible refine Below.alloc ?_ ?_ _ | with_reducible refine Below.setCell ?_ ?_ _ | with_reducible refine Below.drew ?_ | omega | (simp; done) | (simp; omega)))))).mono ?_
                  rintro e w3 ⟨A3, k3, rfl, a3, b3⟩
                  have BD : BoxE (wo.heap.size + 1) d (.slice A2 d.ms.length k2) w3 := by
                    have := (BoxE.new (wo.alloc (.cells #[.int .i64 1, .int .i64 nd, .int .i64 i, .string key] 62)) d (.slice A2 d.ms.length k2)).keep b3
                    rw [World.size_alloc] at this; exact this
                  obtain ⟨p_0, ⟨p_1, p_2, p_3, p_4, p_5, p_6⟩, p_7⟩ := id BD.1
                  have hb3 : Below wo.heap.size wo w3 := (((Below.refl _ wo).alloc (Nat.le_refl _) _).alloc (by simp) _).trans (b3.mono (by simp; omega))
                  clear b3
                  go_wp2_with fail
                  refine (num_any _ _).mono ?_
                  rintro e w4 ⟨rfl, hw4⟩
                  have BX : BoxE (wo.heap.size + 1) x (.slice A3 x.ms.length k3) w4 := by rw [← hw4]; exact BoxE.put BD x _
                  have a4 : ArgM w4 (.slice A3 x.ms.length k3) x.ms := by rw [← hw4]; exact BoxE.put_arg (d := x) (s := .slice A3 x.ms.length k3) BD ⟨_, _, _, rfl⟩ a3
                  have hb4 : Below wo.heap.size wo w4 := by rw [← hw4]; exact (by (repeat' (first | with_reducible assumption | with_reducible exact Below.refl _ _ | with_reducible refine Below.alloc ?_ ?_ _ | with_reducible refine Below.setCell ?_ ?_ _ | with_reducible refine Below.drew ?_ | omega | (simp; done) | (simp; omega))))
                  have cx := fun w h => check_any x (.slice A3 x.ms.length k3) w h (by have := HKX.out.fit.n; omega) (by have := HKX.out.f; omega) (by have := HKX.out.t; omega)
                  rw [chkD_yes HKX.out.is] at cx
                  have B4 := B0.keep hb4
                  clear p_0 p_1 p_2 p_3 p_4 p_5 p_6 p_7
                  clear o_0 o_1 o_2 o_3 o_4 o_5 o_6 o_7
                  clear hw4 hb3 a3 BD
                  obtain ⟨p_0, ⟨p_1, p_2, p_3, p_4, p_5, p_6⟩, p_7⟩ := id BX.1
                  obtain ⟨o_0, ⟨o_1, o_2, o_3, o_4, o_5, o_6⟩, o_7⟩ := id B4.1
                  go_wp2_with fail
                  refine (cx _ a4.sm).mono ?_
                  rintro e w5 ⟨rfl, b5⟩
                  have hb5 : Below wo.heap.size wo w5 := hb4.trans (b5.mono hb4.size)
                  have BX5 := BX.keep b5
                  have B5 := B4.keep b5
                  have a5 := a4.keep b5
                  have ad5 := a0.keep hb5
                  clear p_0 p_1 p_2 p_3 p_4 p_5 p_6 p_7
                  clear o_0 o_1 o_2 o_3 o_4 o_5 o_6 o_7
                  clear BX a4 hb4 cx B4 b5
                  obtain ⟨p_0, ⟨p_1, p_2, p_3, p_4, p_5, p_6⟩, p_7⟩ := id BX5.1
                  obtain ⟨o_0, ⟨o_1, o_2, o_3, o_4, o_5, o_6⟩, o_7⟩ := id B5.1
                  rw [HR.out.gen] at p_4
                  obtain ⟨e1, e2⟩ := HGD.out
                  have e3 : (x.next < d.next) = False := eq_false (by have := HR.out.next; omega)
                  go_wp2_with fail
                  refine (num_any _ _).mono ?_
                  rintro e w' ⟨rfl, rfl⟩
                  go_wp2_with fail
                  go_loopw [11, 12, 13] (fun vm _ _ wr => ∃ m : Nat, m ≤ x.ms.length ∧ vm = .int .i64 (m : Int) ∧ Below w5.heap.size w5 wr) (fun vm _ _ _ => x.ms.length - (intOf vm).toNat)
                  case atStart => exact ⟨0, Nat.zero_le _, rfl, Below.refl _ _⟩
                  case round =>
                    clear p_0 p_1 p_2 p_3 p_4 p_5 p_6 p_7
                    clear o_0 o_1 o_2 o_3 o_4 o_5 o_6 o_7
                    obtain ⟨m, hm, rfl, hby⟩ := hrel
                    have BXy := BX5.keep hby
                    have By := B5.keep hby
                    have ay := a5.keep hby
                    have ady := ad5.keep hby
                    have hbyw : Below wo.heap.size wo wr := hb5.trans (hby.mono hb5.size)
                    obtain ⟨p_0, ⟨p_1, p_2, p_3, p_4, p_5, p_6⟩, p_7⟩ := id BXy.1
                    by_cases hlm : m < x.ms.length
                    rotate_left
                    · obtain rfl : m = x.ms.length := by omega
                      obtain ⟨o_0, ⟨o_1, o_2, o_3, o_4, o_5, o_6⟩, o_7⟩ := id By.1
                      go_wp2_with fail
                      go_roundw
                      case rel =>
                        refine ⟨j + 1, x, .slice A3 x.ms.length k3, by omega, by go_num, BoxE.put By x (.slice A3 x.ms.length k3), BoxE.put_arg (d := x) (s := .slice A3 x.ms.length k3) By ⟨_, _, _, rfl⟩ ay, HKX, ?_, ?_⟩
                        · have hbw2 := hbw.trans (hbyw.mono hbw.size)
                          (repeat' (first | with_reducible assumption | with_reducible exact Below.refl _ _ | with_reducible refine Below.alloc ?_ ?_ _ | with_reducible refine Below.setCell ?_ ?_ _ | with_reducible refine Below.drew ?_ | omega | (simp; done) | (simp; omega)))
                        · have hbw2 := hb1.trans (hbyw.mono hb1.size)
                          (repeat' (first | with_reducible assumption | with_reducible exact Below.refl _ _ | with_reducible refine Below.alloc ?_ ?_ _ | with_reducible refine Below.setCell ?_ ?_ _ | with_reducible refine Below.drew ?_ | omega | (simp; done) | (simp; omega)))
                      case measure => simp [intOf]; omega
                    · obtain ⟨b2, o2, rfl, hb2, m1, m2⟩ := ay.sm.at_ hlm
                      obtain ⟨⟨p, n⟩, hpn⟩ : ∃ m', x.ms[m] = m' := ⟨_, rfl⟩
                      have hmem : (p, n) ∈ x.ms := by rw [← hpn]; exact List.getElem_mem hlm
                      rw [hpn] at m1 m2
                      clear hpn
                      simp only at m1 m2
                      have hrise := HR.out.ms (p, n) hmem
                      have i0 : (0 ≤ (m : Int)) = True := eq_true (by omega)
                      have i1 : ((m : Int) < (x.ms.length : Int)) = True := eq_true (by omega)
                      have hx5 := HKX.out.fit.n
                      have ch := fun wx h => has_any d (.slice A2 d.ms.length k2) n wx h HML.out
                      clear hmem
                      rcases hrise with hr | ⟨hr, hnx⟩
                      · rw [hr] at ch
                        have CH : ∀ wx, ArgM wx (.slice A2 d.ms.length k2) d.ms → Calls Tryd.prog 14 #[dv d (.slice A2 d.ms.length k2), .int .i64 n] wx fun e w' => e = .returned (.tuple #[.agg #[.int .i64 p, .int .i64 n], .bool true]) ∧ Below wx.heap.size wx w' := fun wx h => ch wx h.sm
                        clear ch hr
                        go_wp2_with fail
                        refine St.wp_region_mixed (fun L u wx => R29 wr p n L u wx) (fun _ z => z = .tuple #[.agg #[.int .i64 p, .int .i64 n], .bool true]) (by kernel_rfl) (by kernel_rfl) (by kernel_rfl) ⟨(Below.refl _ wr).drew, fun h => (by cases h)⟩ ?_
                        iterate 7
                          (apply St.mix_give
                           · rfl
                           · intro L u' wx hS hcl hrd hag
                             have BXx := BXy.keep hS.lo
                             have Bx := By.keep hS.lo
                             have hbx := hS.lo
                             obtain ⟨_, ⟨x1, x2, x3, x4, x5, x6⟩, _⟩ := BXx.1
                             obtain ⟨_, ⟨z1, z2, z3, z4, z5, z6⟩, _⟩ := Bx.1
                             have y1 := (hbx.cell (p := ⟨b2, o2 + m * 2, none⟩) hb2).trans m1
                             have y2 := (hbx.cell (p := ⟨b2, o2 + m * 2 + 1, none⟩) hb2).trans m2
                             clear hbx BXx Bx
                             go_simp
                             try with_reducible rfl
                           · exact fun L u' wx hS => ⟨hS.lo, hS.n⟩
                           simp only [Act.put, List.setIfInBounds_toArray, List.set_cons_zero, List.set_cons_succ])
                        refine St.mix_into (v := .tuple #[.agg #[.int .i64 p, .int .i64 n], .bool true]) (f := 14) (args := #[dv d (.slice A2 d.ms.length k2), .int .i64 n]) rfl rfl ?_ ?_ ?_
                        · intro wx
                          go_simp
                          try with_reducible rfl
                        · intro L u' wx hS hcl hrd hag
                          refine (CH wx (ady.keep hS.lo)).mono ?_
                          rintro e w' ⟨rfl, hb'⟩
                          exact ⟨rfl, hS.call hb' _⟩
                        simp only [Act.put, List.setIfInBounds_toArray, List.set_cons_zero, List.set_cons_succ]
                        iterate 3
                          (apply St.mix_give
                           · rfl
                           · intro L u' wx hS hcl hrd hag
                             skip
                             go_simp
                             try with_reducible rfl
                           · exact fun L u' wx hS => ⟨hS.lo, hS.n⟩
                           simp only [Act.put, List.setIfInBounds_toArray, List.set_cons_zero, List.set_cons_succ])
                        refine St.mix_free (fun z => ∃ n', z = ptr n') rfl ?_ ?_
                        · intro L u' wx hS hcl hrd hag
                          refine ⟨ptr wx.heap.size, _, ⟨_, rfl⟩, ?_, hS.free (St.not_yet hcl hrd 40 12 (by kernel_rfl)) 30⟩
                          go_simp
                          try with_reducible rfl
                        rintro _ ⟨nb, rfl⟩
                        simp only [Act.put, List.setIfInBounds_toArray, List.set_cons_zero, List.set_cons_succ]
                        refine St.mix_skip rfl ?_ ?_
                        · intro L u' wx hS hcl hrd hag
                          have h11 := St.before_ready hcl hrd 40 11 (by kernel_rfl)
                          have hu11 : u' 11 = ptr nb := hag 40 11 (by kernel_rfl)
                          refine ⟨_, ?_, hS.set h11 hu11⟩
                          obtain ⟨n', g1, g2, g3, g4, ⟨x', y', g5, g6⟩, _⟩ := hS.n h11
                          obtain rfl := ptr_inj (hu11.symm.trans g1)
                          clear g1
                          go_simp
                          try with_reducible rfl
                        simp only [Act.put]
                        iterate 1
                          (apply St.mix_give
                           · rfl
                           · intro L u' wx hS hcl hrd hag
                             skip
                             go_simp
                             try with_reducible rfl
                           · exact fun L u' wx hS => ⟨hS.lo, hS.n⟩
                           simp only [Act.put, List.setIfInBounds_toArray, List.set_cons_zero, List.set_cons_succ])
                        refine St.mix_last ?_
                        intro L wx hS hall
                        obtain ⟨n', g1, g2, g3, g4, _, g5⟩ := hS.n (hall 11 (by decide))
                        obtain rfl := ptr_inj (show ptr nb = ptr n' from g1)
                        obtain ⟨g6, g7⟩ := g5 (hall 12 (by decide))
                        have hbx := hS.lo
                        clear g1 g5 hS hall CH
                        have BXx := BXy.keep hbx
                        have Bx := By.keep hbx
                        clear p_0 p_1 p_2 p_3 p_4 p_5 p_6 p_7
                        obtain ⟨_, ⟨x1, x2, x3, x4, x5, x6⟩, _⟩ := BXx.1
                        obtain ⟨_, ⟨z1, z2, z3, z4, z5, z6⟩, _⟩ := Bx.1
                        have y1 := (hbx.cell (p := ⟨b2, o2 + m * 2, none⟩) hb2).trans m1
                        have y2 := (hbx.cell (p := ⟨b2, o2 + m * 2 + 1, none⟩) hb2).trans m2
                        clear m1 m2
                        go_wp2_with fail
                        go_quiet (fail)
                        go_wp2_with fail
                        go_roundw
                        case rel => exact ⟨m + 1, by omega, by go_num, below_drewN (hby.trans (hbx.mono hby.size)) _⟩
                        case measure => simp [intOf]; omega
                      · rw [hr] at ch
                        have CH : ∀ wx, ArgM wx (.slice A2 d.ms.length k2) d.ms → Calls Tryd.prog 14 #[dv d (.slice A2 d.ms.length k2), .int .i64 n] wx fun e w' => e = .returned (.tuple #[.agg #[.int .i64 0, .int .i64 0], .bool false]) ∧ Below wx.heap.size wx w' := fun wx h => ch wx h.sm
                        clear ch hr
                        go_wp2_with fail
                        refine St.wp_region_mixed (fun L u wx => R29 wr 0 0 L u wx) (fun _ z => z = .tuple #[.agg #[.int .i64 0, .int .i64 0], .bool false]) (by kernel_rfl) (by kernel_rfl) (by kernel_rfl) ⟨(Below.refl _ wr).drew, fun h => (by cases h)⟩ ?_
                        iterate 7
                          (apply St.mix_give
                           · rfl
                           · intro L u' wx hS hcl hrd hag
                             have BXx := BXy.keep hS.lo
                             have Bx := By.keep hS.lo
                             have hbx := hS.lo
                             obtain ⟨_, ⟨x1, x2, x3, x4, x5, x6⟩, _⟩ := BXx.1
                             obtain ⟨_, ⟨z1, z2, z3, z4, z5, z6⟩, _⟩ := Bx.1
                             have y1 := (hbx.cell (p := ⟨b2, o2 + m * 2, none⟩) hb2).trans m1
                             have y2 := (hbx.cell (p := ⟨b2, o2 + m * 2 + 1, none⟩) hb2).trans m2
                             clear hbx BXx Bx
                             go_simp
                             try with_reducible rfl
                           · exact fun L u' wx hS => ⟨hS.lo, hS.n⟩
                           simp only [Act.put, List.setIfInBounds_toArray, List.set_cons_zero, List.set_cons_succ])
                        refine St.mix_into (v := .tuple #[.agg #[.int .i64 0, .int .i64 0], .bool false]) (f := 14) (args := #[dv d (.slice A2 d.ms.length k2), .int .i64 n]) rfl rfl ?_ ?_ ?_
                        · intro wx
                          go_simp
                          try with_reducible rfl
                        · intro L u' wx hS hcl hrd hag
                          refine (CH wx (ady.keep hS.lo)).mono ?_
                          rintro e w' ⟨rfl, hb'⟩
                          exact ⟨rfl, hS.call hb' _⟩
                        simp only [Act.put, List.setIfInBounds_toArray, List.set_cons_zero, List.set_cons_succ]
                        iterate 3
                          (apply St.mix_give
                           · rfl
                           · intro L u' wx hS hcl hrd hag
                             skip
                             go_simp
                             try with_reducible rfl
                           · exact fun L u' wx hS => ⟨hS.lo, hS.n⟩
                           simp only [Act.put, List.setIfInBounds_toArray, List.set_cons_zero, List.set_cons_succ])
                        refine St.mix_free (fun z => ∃ n', z = ptr n') rfl ?_ ?_
                        · intro L u' wx hS hcl hrd hag
                          refine ⟨ptr wx.heap.size, _, ⟨_, rfl⟩, ?_, hS.free (St.not_yet hcl hrd 40 12 (by kernel_rfl)) 30⟩
                          go_simp
                          try with_reducible rfl
                        rintro _ ⟨nb, rfl⟩
                        simp only [Act.put, List.setIfInBounds_toArray, List.set_cons_zero, List.set_cons_succ]
                        refine St.mix_skip rfl ?_ ?_
                        · intro L u' wx hS hcl hrd hag
                          have h11 := St.before_ready hcl hrd 40 11 (by kernel_rfl)
                          have hu11 : u' 11 = ptr nb := hag 40 11 (by kernel_rfl)
                          refine ⟨_, ?_, hS.set h11 hu11⟩
                          obtain ⟨n', g1, g2, g3, g4, ⟨x', y', g5, g6⟩, _⟩ := hS.n h11
                          obtain rfl := ptr_inj (hu11.symm.trans g1)
                          clear g1
                          go_simp
                          try with_reducible rfl
                        simp only [Act.put]
                        iterate 1
                          (apply St.mix_give
                           · rfl
                           · intro L u' wx hS hcl hrd hag
                             skip
                             go_simp
                             try with_reducible rfl
                           · exact fun L u' wx hS => ⟨hS.lo, hS.n⟩
                           simp only [Act.put, List.setIfInBounds_toArray, List.set_cons_zero, List.set_cons_succ])
                        refine St.mix_last ?_
                        intro L wx hS hall
                        obtain ⟨n', g1, g2, g3, g4, _, g5⟩ := hS.n (hall 11 (by decide))
                        obtain rfl := ptr_inj (show ptr nb = ptr n' from g1)
                        obtain ⟨g6, g7⟩ := g5 (hall 12 (by decide))
                        have hbx := hS.lo
                        clear g1 g5 hS hall CH
                        have BXx := BXy.keep hbx
                        have Bx := By.keep hbx
                        clear p_0 p_1 p_2 p_3 p_4 p_5 p_6 p_7
                        obtain ⟨_, ⟨x1, x2, x3, x4, x5, x6⟩, _⟩ := BXx.1
                        obtain ⟨_, ⟨z1, z2, z3, z4, z5, z6⟩, _⟩ := Bx.1
                        have y1 := (hbx.cell (p := ⟨b2, o2 + m * 2, none⟩) hb2).trans m1
                        have y2 := (hbx.cell (p := ⟨b2, o2 + m * 2 + 1, none⟩) hb2).trans m2
                        clear m1 m2
                        have n3 : (n < d.next) = False := eq_false (by omega)
                        go_wp2_with fail
                        go_quiet (fail)
                        go_wp2_with fail
                        go_roundw
                        case rel => exact ⟨m + 1, by omega, by go_num, below_drewN (hby.trans (hbx.mono hby.size)) _⟩
                        case measure => simp [intOf]; omega
            have f1 : (kd == 1) = false := by simpa using z1
            have v1 : (kd = 1) = False := eq_false z1
            clear z1
            by_cases z2 : kd = 2
            · subst z2
              rcases act_split key i HD.out hkey with ⟨x, y, hx, ⟨hrise, hkx⟩, _⟩ | ⟨q, hx, hq⟩
              rotate_left
              · as_aux_lemma =>
                  obtain ⟨x, hxz⟩ : ∃ x, x = De.zero := ⟨_, rfl⟩
                  obtain ⟨y, hyz⟩ : ∃ y, y = De.zero := ⟨_, rfl⟩
                  have cc := fun w h => (split_any d (.slice A2 d.ms.length k2) key i w h HFD.out (by omega)).mono fun e w' hh => Gave2.form hh (show splitD d key i = (x, y, q) by rw [hx, hxz, hyz])
                  have u1 : (q == 0) = false := by simpa using hq
                  have u2 : (q = 0) = False := eq_false hq
                  clear hx hxz hyz hq
                  go_wp2_with fail
                  refine (cc _ (a0.keep (by (repeat' (first | with_reducible assumption | with_reducible exact Below.refl _ _ | with_reducible refine Below.alloc ?_ ?_ _ | with_reducible refine Below.setCell ?_ ?_ _ | with_reducible refine Below.drew ?_ | omega | (simp; done) | (simp; omega)))))).mono ?_
                  rintro e w3 ⟨A3, k3, A9, k9, rfl, a3, a9, b3⟩
                  have BD : BoxE (wo.heap.size + 1) d (.slice A2 d.ms.length k2) w3 := by
                    have := (BoxE.new (wo.alloc (.cells #[.int .i64 2, .int .i64 nd, .int .i64 i, .string key] 62)) d (.slice A2 d.ms.length k2)).keep b3
                    rw [World.size_alloc] at this; exact this
                  obtain ⟨p_0, ⟨p_1, p_2, p_3, p_4, p_5, p_6⟩, p_7⟩ := id BD.1
                  have hb3 : Below wo.heap.size wo w3 := (((Below.refl _ wo).alloc (Nat.le_refl _) _).alloc (by simp) _).trans (b3.mono (by simp; omega))
                  clear b3
                  go_wp2_with fail
                  refine (num_any _ _).mono ?_
                  rintro e w' ⟨rfl, rfl⟩
                  go_wp2_with fail
                  go_roundw
                  case rel =>
                    have hfin : Below wo.heap.size wo (putW w3 (wo.heap.size + 1) x (.slice A3 x.ms.length k3)) := by unfold putW; (repeat' (first | with_reducible assumption | with_reducible exact Below.refl _ _ | with_reducible refine Below.alloc ?_ ?_ _ | with_reducible refine Below.setCell ?_ ?_ _ | with_reducible refine Below.drew ?_ | omega | (simp; done) | (simp; omega)))
                    exact ⟨j + 1, d, .slice A2 d.ms.length k2, by omega, by go_num, B0.keep hfin, a0.keep hfin, HD, hbw.trans (hfin.mono hbw.size), hb1.trans (hfin.mono hb1.size)⟩
                  case measure => simp [intOf]; omega
              · as_aux_lemma =>
                  have cc := fun w h => (split_any d (.slice A2 d.ms.length k2) key i w h HFD.out (by omega)).mono fun e w' hh => Gave2.form hh hx
                  have HR := Lib.hid hrise
                  have HKX := Lib.hid hkx
                  clear hx hrise hkx
                  go_wp2_with fail
                  refine (cc _ (a0.keep (by (repeat' (first | with_reducible assumption | with_reducible exact Below.refl _ _ | with_reducible refine Below.alloc ?_ ?_ _ | with_reducible refine Below.setCell ?_ ?_ _ | with_reducible refine Below.drew ?_ | omega | (simp; done) | (simp; omega)))))).mono ?_
                  rintro e w3 ⟨A3, k3, A9, k9, rfl, a3, a9, b3⟩
                  have BD : BoxE (wo.heap.size + 1) d (.slice A2 d.ms.length k2) w3 := by
                    have := (BoxE.new (wo.alloc (.cells #[.int .i64 2, .int .i64 nd, .int .i64 i, .string key] 62)) d (.slice A2 d.ms.length k2)).keep b3
                    rw [World.size_alloc] at this; exact this
                  obtain ⟨p_0, ⟨p_1, p_2, p_3, p_4, p_5, p_6⟩, p_7⟩ := id BD.1
                  have hb3 : Below wo.heap.size wo w3 := (((Below.refl _ wo).alloc (Nat.le_refl _) _).alloc (by simp) _).trans (b3.mono (by simp; omega))
                  clear b3
                  go_wp2_with fail
                  refine (num_any _ _).mono ?_
                  rintro e w4 ⟨rfl, hw4⟩
                  have BX : BoxE (wo.heap.size + 1) x (.slice A3 x.ms.length k3) w4 := by rw [← hw4]; exact BoxE.put BD x _
                  have a4 : ArgM w4 (.slice A3 x.ms.length k3) x.ms := by rw [← hw4]; exact BoxE.put_arg (d := x) (s := .slice A3 x.ms.length k3) BD ⟨_, _, _, rfl⟩ a3
                  have hb4 : Below wo.heap.size wo w4 := by rw [← hw4]; exact (by (repeat' (first | with_reducible assumption | with_reducible exact Below.refl _ _ | with_reducible refine Below.alloc ?_ ?_ _ | with_reducible refine Below.setCell ?_ ?_ _ | with_reducible refine Below.drew ?_ | omega | (simp; done) | (simp; omega))))
                  have cx := fun w h => check_any x (.slice A3 x.ms.length k3) w h (by have := HKX.out.fit.n; omega) (by have := HKX.out.f; omega) (by have := HKX.out.t; omega)
                  rw [chkD_yes HKX.out.is] at cx
                  have B4 := B0.keep hb4
                  clear p_0 p_1 p_2 p_3 p_4 p_5 p_6 p_7
                  clear o_0 o_1 o_2 o_3 o_4 o_5 o_6 o_7
                  clear hw4 hb3 a3 BD
                  obtain ⟨p_0, ⟨p_1, p_2, p_3, p_4, p_5, p_6⟩, p_7⟩ := id BX.1
                  obtain ⟨o_0, ⟨o_1, o_2, o_3, o_4, o_5, o_6⟩, o_7⟩ := id B4.1
                  go_wp2_with fail
                  refine (cx _ a4.sm).mono ?_
                  rintro e w5 ⟨rfl, b5⟩
                  have hb5 : Below wo.heap.size wo w5 := hb4.trans (b5.mono hb4.size)
                  have BX5 := BX.keep b5
                  have B5 := B4.keep b5
                  have a5 := a4.keep b5
                  have ad5 := a0.keep hb5
                  clear p_0 p_1 p_2 p_3 p_4 p_5 p_6 p_7
                  clear o_0 o_1 o_2 o_3 o_4 o_5 o_6 o_7
                  clear BX a4 hb4 cx B4 b5
                  obtain ⟨p_0, ⟨p_1, p_2, p_3, p_4, p_5, p_6⟩, p_7⟩ := id BX5.1
                  obtain ⟨o_0, ⟨o_1, o_2, o_3, o_4, o_5, o_6⟩, o_7⟩ := id B5.1
                  rw [HR.out.gen] at p_4
                  obtain ⟨e1, e2⟩ := HGD.out
                  have e3 : (x.next < d.next) = False := eq_false (by have := HR.out.next; omega)
                  go_wp2_with fail
                  refine (num_any _ _).mono ?_
                  rintro e w' ⟨rfl, rfl⟩
                  go_wp2_with fail
                  go_loopw [11, 12, 13] (fun vm _ _ wr => ∃ m : Nat, m ≤ x.ms.length ∧ vm = .int .i64 (m : Int) ∧ Below w5.heap.size w5 wr) (fun vm _ _ _ => x.ms.length - (intOf vm).toNat)
                  case atStart => exact ⟨0, Nat.zero_le _, rfl, Below.refl _ _⟩
                  case round =>
                    clear p_0 p_1 p_2 p_3 p_4 p_5 p_6 p_7
                    clear o_0 o_1 o_2 o_3 o_4 o_5 o_6 o_7
                    obtain ⟨m, hm, rfl, hby⟩ := hrel
                    have BXy := BX5.keep hby
                    have By := B5.keep hby
                    have ay := a5.keep hby
                    have ady := ad5.keep hby
                    have hbyw : Below wo.heap.size wo wr := hb5.trans (hby.mono hb5.size)
                    obtain ⟨p_0, ⟨p_1, p_2, p_3, p_4, p_5, p_6⟩, p_7⟩ := id BXy.1
                    by_cases hlm : m < x.ms.length
                    rotate_left
                    · obtain rfl : m = x.ms.length := by omega
                      obtain ⟨o_0, ⟨o_1, o_2, o_3, o_4, o_5, o_6⟩, o_7⟩ := id By.1
                      go_wp2_with fail
                      go_roundw
                      case rel =>
                        refine ⟨j + 1, x, .slice A3 x.ms.length k3, by omega, by go_num, BoxE.put By x (.slice A3 x.ms.length k3), BoxE.put_arg (d := x) (s := .slice A3 x.ms.length k3) By ⟨_, _, _, rfl⟩ ay, HKX, ?_, ?_⟩
                        · have hbw2 := hbw.trans (hbyw.mono hbw.size)
                          (repeat' (first | with_reducible assumption | with_reducible exact Below.refl _ _ | with_reducible refine Below.alloc ?_ ?_ _ | with_reducible refine Below.setCell ?_ ?_ _ | with_reducible refine Below.drew ?_ | omega | (simp; done) | (simp; omega)))
                        · have hbw2 := hb1.trans (hbyw.mono hb1.size)
                          (repeat' (first | with_reducible assumption | with_reducible exact Below.refl _ _ | with_reducible refine Below.alloc ?_ ?_ _ | with_reducible refine Below.setCell ?_ ?_ _ | with_reducible refine Below.drew ?_ | omega | (simp; done) | (simp; omega)))
                      case measure => simp [intOf]; omega
                    · obtain ⟨b2, o2, rfl, hb2, m1, m2⟩ := ay.sm.at_ hlm
                      obtain ⟨⟨p, n⟩, hpn⟩ : ∃ m', x.ms[m] = m' := ⟨_, rfl⟩
                      have hmem : (p, n) ∈ x.ms := by rw [← hpn]; exact List.getElem_mem hlm
                      rw [hpn] at m1 m2
                      clear hpn
                      simp only at m1 m2
                      have hrise := HR.out.ms (p, n) hmem
                      have i0 : (0 ≤ (m : Int)) = True := eq_true (by omega)
                      have i1 : ((m : Int) < (x.ms.length : Int)) = True := eq_true (by omega)
                      have hx5 := HKX.out.fit.n
                      have ch := fun wx h => has_any d (.slice A2 d.ms.length k2) n wx h HML.out
                      clear hmem
                      rcases hrise with hr | ⟨hr, hnx⟩
                      · rw [hr] at ch
                        have CH : ∀ wx, ArgM wx (.slice A2 d.ms.length k2) d.ms → Calls Tryd.prog 14 #[dv d (.slice A2 d.ms.length k2), .int .i64 n] wx fun e w' => e = .returned (.tuple #[.agg #[.int .i64 p, .int .i64 n], .bool true]) ∧ Below wx.heap.size wx w' := fun wx h => ch wx h.sm
                        clear ch hr
                        go_wp2_with fail
                        refine St.wp_region_mixed (fun L u wx => R29 wr p n L u wx) (fun _ z => z = .tuple #[.agg #[.int .i64 p, .int .i64 n], .bool true]) (by kernel_rfl) (by kernel_rfl) (by kernel_rfl) ⟨(Below.refl _ wr).drew, fun h => (by cases h)⟩ ?_
                        iterate 7
                          (apply St.mix_give
                           · rfl
                           · intro L u' wx hS hcl hrd hag
                             have BXx := BXy.keep hS.lo
                             have Bx := By.keep hS.lo
                             have hbx := hS.lo
                             obtain ⟨_, ⟨x1, x2, x3, x4, x5, x6⟩, _⟩ := BXx.1
                             obtain ⟨_, ⟨z1, z2, z3, z4, z5, z6⟩, _⟩ := Bx.1
                             have y1 := (hbx.cell (p := ⟨b2, o2 + m * 2, none⟩) hb2).trans m1
                             have y2 := (hbx.cell (p := ⟨b2, o2 + m * 2 + 1, none⟩) hb2).trans m2
                             clear hbx BXx Bx
                             go_simp
                             try with_reducible rfl
                           · exact fun L u' wx hS => ⟨hS.lo, hS.n⟩
                           simp only [Act.put, List.setIfInBounds_toArray, List.set_cons_zero, List.set_cons_succ])
                        refine St.mix_into (v := .tuple #[.agg #[.int .i64 p, .int .i64 n], .bool true]) (f := 14) (args := #[dv d (.slice A2 d.ms.length k2), .int .i64 n]) rfl rfl ?_ ?_ ?_
                        · intro wx
                          go_simp
                          try with_reducible rfl
                        · intro L u' wx hS hcl hrd hag
                          refine (CH wx (ady.keep hS.lo)).mono ?_
                          rintro e w' ⟨rfl, hb'⟩
                          exact ⟨rfl, hS.call hb' _⟩
                        simp only [Act.put, List.setIfInBounds_toArray, List.set_cons_zero, List.set_cons_succ]
                        iterate 3
                          (apply St.mix_give
                           · rfl
                           · intro L u' wx hS hcl hrd hag
                             skip
                             go_simp
                             try with_reducible rfl
                           · exact fun L u' wx hS => ⟨hS.lo, hS.n⟩
                           simp only [Act.put, List.setIfInBounds_toArray, List.set_cons_zero, List.set_cons_succ])
                        refine St.mix_free (fun z => ∃ n', z = ptr n') rfl ?_ ?_
                        · intro L u' wx hS hcl hrd hag
                          refine ⟨ptr wx.heap.size, _, ⟨_, rfl⟩, ?_, hS.free (St.not_yet hcl hrd 40 12 (by kernel_rfl)) 30⟩
                          go_simp
                          try with_reducible rfl
                        rintro _ ⟨nb, rfl⟩
                        simp only [Act.put, List.setIfInBounds_toArray, List.set_cons_zero, List.set_cons_succ]
                        refine St.mix_skip rfl ?_ ?_
                        · intro L u' wx hS hcl hrd hag
                          have h11 := St.before_ready hcl hrd 40 11 (by kernel_rfl)
                          have hu11 : u' 11 = ptr nb := hag 40 11 (by kernel_rfl)
                          refine ⟨_, ?_, hS.set h11 hu11⟩
                          obtain ⟨n', g1, g2, g3, g4, ⟨x', y', g5, g6⟩, _⟩ := hS.n h11
                          obtain rfl := ptr_inj (hu11.symm.trans g1)
                          clear g1
                          go_simp
                          try with_reducible rfl
                        simp only [Act.put]
                        iterate 1
                          (apply St.mix_give
                           · rfl
                           · intro L u' wx hS hcl hrd hag
                             skip
                             go_simp
                             try with_reducible rfl
                           · exact fun L u' wx hS => ⟨hS.lo, hS.n⟩
                           simp only [Act.put, List.setIfInBounds_toArray, List.set_cons_zero, List.set_cons_succ])
                        refine St.mix_last ?_
                        intro L wx hS hall
                        obtain ⟨n', g1, g2, g3, g4, _, g5⟩ := hS.n (hall 11 (by decide))
                        obtain rfl := ptr_inj (show ptr nb = ptr n' from g1)
                        obtain ⟨g6, g7⟩ := g5 (hall 12 (by decide))
                        have hbx := hS.lo
                        clear g1 g5 hS hall CH
                        have BXx := BXy.keep hbx
                        have Bx := By.keep hbx
                        clear p_0 p_1 p_2 p_3 p_4 p_5 p_6 p_7
                        obtain ⟨_, ⟨x1, x2, x3, x4, x5, x6⟩, _⟩ := BXx.1
                        obtain ⟨_, ⟨z1, z2, z3, z4, z5, z6⟩, _⟩ := Bx.1
                        have y1 := (hbx.cell (p := ⟨b2, o2 + m * 2, none⟩) hb2).trans m1
                        have y2 := (hbx.cell (p := ⟨b2, o2 + m * 2 + 1, none⟩) hb2).trans m2
                        clear m1 m2
                        go_wp2_with fail
                        go_quiet (fail)
                        go_wp2_with fail
                        go_roundw
                        case rel => exact ⟨m + 1, by omega, by go_num, below_drewN (hby.trans (hbx.mono hby.size)) _⟩
                        case measure => simp [intOf]; omega
                      · rw [hr] at ch
                        have CH : ∀ wx, ArgM wx (.slice A2 d.ms.length k2) d.ms → Calls Tryd.prog 14 #[dv d (.slice A2 d.ms.length k2), .int .i64 n] wx fun e w' => e = .returned (.tuple #[.agg #[.int .i64 0, .int .i64 0], .bool false]) ∧ Below wx.heap.size wx w' := fun wx h => ch wx h.sm
                        clear ch hr
                        go_wp2_with fail
                        refine St.wp_region_mixed (fun L u wx => R29 wr 0 0 L u wx) (fun _ z => z = .tuple #[.agg #[.int .i64 0, .int .i64 0], .bool false]) (by kernel_rfl) (by kernel_rfl) (by kernel_rfl) ⟨(Below.refl _ wr).drew, fun h => (by cases h)⟩ ?_
                        iterate 7
                          (apply St.mix_give
                           · rfl
                           · intro L u' wx hS hcl hrd hag
                             have BXx := BXy.keep hS.lo
                             have Bx := By.keep hS.lo
                             have hbx := hS.lo
                             obtain ⟨_, ⟨x1, x2, x3, x4, x5, x6⟩, _⟩ := BXx.1
                             obtain ⟨_, ⟨z1, z2, z3, z4, z5, z6⟩, _⟩ := Bx.1
                             have y1 := (hbx.cell (p := ⟨b2, o2 + m * 2, none⟩) hb2).trans m1
                             have y2 := (hbx.cell (p := ⟨b2, o2 + m * 2 + 1, none⟩) hb2).trans m2
                             clear hbx BXx Bx
                             go_simp
                             try with_reducible rfl
                           · exact fun L u' wx hS => ⟨hS.lo, hS.n⟩
                           simp only [Act.put, List.setIfInBounds_toArray, List.set_cons_zero, List.set_cons_succ])
                        refine St.mix_into (v := .tuple #[.agg #[.int .i64 0, .int .i64 0], .bool false]) (f := 14) (args := #[dv d (.slice A2 d.ms.length k2), .int .i64 n]) rfl rfl ?_ ?_ ?_
                        · intro wx
                          go_simp
                          try with_reducible rfl
                        · intro L u' wx hS hcl hrd hag
                          refine (CH wx (ady.keep hS.lo)).mono ?_
                          rintro e w' ⟨rfl, hb'⟩
                          exact ⟨rfl, hS.call hb' _⟩
                        simp only [Act.put, List.setIfInBounds_toArray, List.set_cons_zero, List.set_cons_succ]
                        iterate 3
                          (apply St.mix_give
                           · rfl
                           · intro L u' wx hS hcl hrd hag
                             skip
                             go_simp
                             try with_reducible rfl
                           · exact fun L u' wx hS => ⟨hS.lo, hS.n⟩
                           simp only [Act.put, List.setIfInBounds_toArray, List.set_cons_zero, List.set_cons_succ])
                        refine St.mix_free (fun z => ∃ n', z = ptr n') rfl ?_ ?_
                        · intro L u' wx hS hcl hrd hag
                          refine ⟨ptr wx.heap.size, _, ⟨_, rfl⟩, ?_, hS.free (St.not_yet hcl hrd 40 12 (by kernel_rfl)) 30⟩
                          go_simp
                          try with_reducible rfl
                        rintro _ ⟨nb, rfl⟩
                        simp only [Act.put, List.setIfInBounds_toArray, List.set_cons_zero, List.set_cons_succ]
                        refine St.mix_skip rfl ?_ ?_
                        · intro L u' wx hS hcl hrd hag
                          have h11 := St.before_ready hcl hrd 40 11 (by kernel_rfl)
                          have hu11 : u' 11 = ptr nb := hag 40 11 (by kernel_rfl)
                          refine ⟨_, ?_, hS.set h11 hu11⟩
                          obtain ⟨n', g1, g2, g3, g4, ⟨x', y', g5, g6⟩, _⟩ := hS.n h11
                          obtain rfl := ptr_inj (hu11.symm.trans g1)
                          clear g1
                          go_simp
                          try with_reducible rfl
                        simp only [Act.put]
                        iterate 1
                          (apply St.mix_give
                           · rfl
                           · intro L u' wx hS hcl hrd hag
                             skip
                             go_simp
                             try with_reducible rfl
                           · exact fun L u' wx hS => ⟨hS.lo, hS.n⟩
                           simp only [Act.put, List.setIfInBounds_toArray, List.set_cons_zero, List.set_cons_succ])
                        refine St.mix_last ?_
                        intro L wx hS hall
                        obtain ⟨n', g1, g2, g3, g4, _, g5⟩ := hS.n (hall 11 (by decide))
                        obtain rfl := ptr_inj (show ptr nb = ptr n' from g1)
                        obtain ⟨g6, g7⟩ := g5 (hall 12 (by decide))
                        have hbx := hS.lo
                        clear g1 g5 hS hall CH
                        have BXx := BXy.keep hbx
                        have Bx := By.keep hbx
                        clear p_0 p_1 p_2 p_3 p_4 p_5 p_6 p_7
                        obtain ⟨_, ⟨x1, x2, x3, x4, x5, x6⟩, _⟩ := BXx.1
                        obtain ⟨_, ⟨z1, z2, z3, z4, z5, z6⟩, _⟩ := Bx.1
                        have y1 := (hbx.cell (p := ⟨b2, o2 + m * 2, none⟩) hb2).trans m1
                        have y2 := (hbx.cell (p := ⟨b2, o2 + m * 2 + 1, none⟩) hb2).trans m2
                        clear m1 m2
                        have n3 : (n < d.next) = False := eq_false (by omega)
                        go_wp2_with fail
                        go_quiet (fail)
                        go_wp2_with fail
                        go_roundw
                        case rel => exact ⟨m + 1, by omega, by go_num, below_drewN (hby.trans (hbx.mono hby.size)) _⟩
                        case measure => simp [intOf]; omega
            have f2 : (kd == 2) = false := by simpa using z2
            have v2 : (kd = 2) = False := eq_false z2
            clear z2
            by_cases z3 : kd = 3
            · subst z3
              rcases act_split key i HD.out hkey with ⟨y, x, hx, _, hrise, hkx⟩ | ⟨q, hx, hq⟩
              rotate_left
              · as_aux_lemma =>
                  obtain ⟨x, hxz⟩ : ∃ x, x = De.zero := ⟨_, rfl⟩
                  obtain ⟨y, hyz⟩ : ∃ y, y = De.zero := ⟨_, rfl⟩
                  have cc := fun w h => (split_any d (.slice A2 d.ms.length k2) key i w h HFD.out (by omega)).mono fun e w' hh => Gave2.form hh (show splitD d key i = (y, x, q) by rw [hx, hxz, hyz])
                  have u1 : (q == 0) = false := by simpa using hq
                  have u2 : (q = 0) = False := eq_false hq
                  clear hx hxz hyz hq
                  go_wp2_with fail
                  refine (cc _ (a0.keep (by (repeat' (first | with_reducible assumption | with_reducible exact Below.refl _ _ | with_reducible refine Below.alloc ?_ ?_ _ | with_reducible refine Below.setCell ?_ ?_ _ | with_reducible refine Below.drew ?_ | omega | (simp; done) | (simp; omega)))))).mono ?_
                  rintro e w3 ⟨A9, k9, A3, k3, rfl, a9, a3, b3⟩
                  have BD : BoxE (wo.heap.size + 1) d (.slice A2 d.ms.length k2) w3 := by
                    have := (BoxE.new (wo.alloc (.cells #[.int .i64 3, .int .i64 nd, .int .i64 i, .string key] 62)) d (.slice A2 d.ms.length k2)).keep b3
                    rw [World.size_alloc] at this; exact this
                  obtain ⟨p_0, ⟨p_1, p_2, p_3, p_4, p_5, p_6⟩, p_7⟩ := id BD.1
                  have hb3 : Below wo.heap.size wo w3 := (((Below.refl _ wo).alloc (Nat.le_refl _) _).alloc (by simp) _).trans (b3.mono (by simp; omega))
                  clear b3
                  go_wp2_with fail
                  refine (num_any _ _).mono ?_
                  rintro e w' ⟨rfl, rfl⟩
                  go_wp2_with fail
                  go_roundw
                  case rel =>
                    have hfin : Below wo.heap.size wo (putW w3 (wo.heap.size + 1) x (.slice A3 x.ms.length k3)) := by unfold putW; (repeat' (first | with_reducible assumption | with_reducible exact Below.refl _ _ | with_reducible refine Below.alloc ?_ ?_ _ | with_reducible refine Below.setCell ?_ ?_ _ | with_reducible refine Below.drew ?_ | omega | (simp; done) | (simp; omega)))
                    exact ⟨j + 1, d, .slice A2 d.ms.length k2, by omega, by go_num, B0.keep hfin, a0.keep hfin, HD, hbw.trans (hfin.mono hbw.size), hb1.trans (hfin.mono hb1.size)⟩
                  case measure => simp [intOf]; omega
              · as_aux_lemma =>
                  have cc := fun w h => (split_any d (.slice A2 d.ms.length k2) key i w h HFD.out (by omega)).mono fun e w' hh => Gave2.form hh hx
                  have HR := Lib.hid hrise
                  have HKX := Lib.hid hkx
                  clear hx hrise hkx
                  go_wp2_with fail
                  refine (cc _ (a0.keep (by (repeat' (first | with_reducible assumption | with_reducible exact Below.refl _ _ | with_reducible refine Below.alloc ?_ ?_ _ | with_reducible refine Below.setCell ?_ ?_ _ | with_reducible refine Below.drew ?_ | omega | (simp; done) | (simp; omega)))))).mono ?_
                  rintro e w3 ⟨A9, k9, A3, k3, rfl, a9, a3, b3⟩
                  have BD : BoxE (wo.heap.size + 1) d (.slice A2 d.ms.length k2) w3 := by
                    have := (BoxE.new (wo.alloc (.cells #[.int .i64 3, .int .i64 nd, .int .i64 i, .string key] 62)) d (.slice A2 d.ms.length k2)).keep b3
                    rw [World.size_alloc] at this; exact this
                  obtain ⟨p_0, ⟨p_1, p_2, p_3, p_4, p_5, p_6⟩, p_7⟩ := id BD.1
                  have hb3 : Below wo.heap.size wo w3 := (((Below.refl _ wo).alloc (Nat.le_refl _) _).alloc (by simp) _).trans (b3.mono (by simp; omega))
                  clear b3
                  go_wp2_with fail
                  refine (num_any _ _).mono ?_
                  rintro e w4 ⟨rfl, hw4⟩
                  have BX : BoxE (wo.heap.size + 1) x (.slice A3 x.ms.length k3) w4 := by rw [← hw4]; exact BoxE.put BD x _
                  have a4 : ArgM w4 (.slice A3 x.ms.length k3) x.ms := by rw [← hw4]; exact BoxE.put_arg (d := x) (s := .slice A3 x.ms.length k3) BD ⟨_, _, _, rfl⟩ a3
                  have hb4 : Below wo.heap.size wo w4 := by rw [← hw4]; exact (by (repeat' (first | with_reducible assumption | with_reducible exact Below.refl _ _ | with_reducible refine Below.alloc ?_ ?_ _ | with_reducible refine Below.setCell ?_ ?_ _ | with_reducible refine Below.drew ?_ | omega | (simp; done) | (simp; omega))))
                  have cx := fun w h => check_any x (.slice A3 x.ms.length k3) w h (by have := HKX.out.fit.n; omega) (by have := HKX.out.f; omega) (by have := HKX.out.t; omega)
                  rw [chkD_yes HKX.out.is] at cx
                  have B4 := B0.keep hb4
                  clear p_0 p_1 p_2 p_3 p_4 p_5 p_6 p_7
                  clear o_0 o_1 o_2 o_3 o_4 o_5 o_6 o_7
                  clear hw4 hb3 a3 BD
                  obtain ⟨p_0, ⟨p_1, p_2, p_3, p_4, p_5, p_6⟩, p_7⟩ := id BX.1
                  obtain ⟨o_0, ⟨o_1, o_2, o_3, o_4, o_5, o_6⟩, o_7⟩ := id B4.1
                  go_wp2_with fail
                  refine (cx _ a4.sm).mono ?_
                  rintro e w5 ⟨rfl, b5⟩
                  have hb5 : Below wo.heap.size wo w5 := hb4.trans (b5.mono hb4.size)
                  have BX5 := BX.keep b5
                  have B5 := B4.keep b5
                  have a5 := a4.keep b5
                  have ad5 := a0.keep hb5
                  clear p_0 p_1 p_2 p_3 p_4 p_5 p_6 p_7
                  clear o_0 o_1 o_2 o_3 o_4 o_5 o_6 o_7
                  clear BX a4 hb4 cx B4 b5
                  obtain ⟨p_0, ⟨p_1, p_2, p_3, p_4, p_5, p_6⟩, p_7⟩ := id BX5.1
                  obtain ⟨o_0, ⟨o_1, o_2, o_3, o_4, o_5, o_6⟩, o_7⟩ := id B5.1
                  rw [HR.out.gen] at p_4
                  obtain ⟨e1, e2⟩ := HGD.out
                  have e3 : (x.next < d.next) = False := eq_false (by have := HR.out.next; omega)
                  go_wp2_with fail
                  refine (num_any _ _).mono ?_
                  rintro e w' ⟨rfl, rfl⟩
                  go_wp2_with fail
                  go_loopw [11, 12, 13] (fun vm _ _ wr => ∃ m : Nat, m ≤ x.ms.length ∧ vm = .int .i64 (m : Int) ∧ Below w5.heap.size w5 wr) (fun vm _ _ _ => x.ms.length - (intOf vm).toNat)
                  case atStart => exact ⟨0, Nat.zero_le _, rfl, Below.refl _ _⟩
                  case round =>
                    clear p_0 p_1 p_2 p_3 p_4 p_5 p_6 p_7
                    clear o_0 o_1 o_2 o_3 o_4 o_5 o_6 o_7
                    obtain ⟨m, hm, rfl, hby⟩ := hrel
                    have BXy := BX5.keep hby
                    have By := B5.keep hby
                    have ay := a5.keep hby
                    have ady := ad5.keep hby
                    have hbyw : Below wo.heap.size wo wr := hb5.trans (hby.mono hb5.size)
                    obtain ⟨p_0, ⟨p_1, p_2, p_3, p_4, p_5, p_6⟩, p_7⟩ := id BXy.1
                    by_cases hlm : m < x.ms.length
                    rotate_left
                    · obtain rfl : m = x.ms.length := by omega
                      obtain ⟨o_0, ⟨o_1, o_2, o_3, o_4, o_5, o_6⟩, o_7⟩ := id By.1
                      go_wp2_with fail
                      go_roundw
                      case rel =>
                        refine ⟨j + 1, x, .slice A3 x.ms.length k3, by omega, by go_num, BoxE.put By x (.slice A3 x.ms.length k3), BoxE.put_arg (d := x) (s := .slice A3 x.ms.length k3) By ⟨_, _, _, rfl⟩ ay, HKX, ?_, ?_⟩
                        · have hbw2 := hbw.trans (hbyw.mono hbw.size)
                          (repeat' (first | with_reducible assumption | with_reducible exact Below.refl _ _ | with_reducible refine Below.alloc ?_ ?_ _ | with_reducible refine Below.setCell ?_ ?_ _ | with_reducible refine Below.drew ?_ | omega | (simp; done) | (simp; omega)))
                        · have hbw2 := hb1.trans (hbyw.mono hb1.size)
                          (repeat' (first | with_reducible assumption | with_reducible exact Below.refl _ _ | with_reducible refine Below.alloc ?_ ?_ _ | with_reducible refine Below.setCell ?_ ?_ _ | with_reducible refine Below.drew ?_ | omega | (simp; done) | (simp; omega)))
                      case measure => simp [intOf]; omega
                    · obtain ⟨b2, o2, rfl, hb2, m1, m2⟩ := ay.sm.at_ hlm
                      obtain ⟨⟨p, n⟩, hpn⟩ : ∃ m', x.ms[m] = m' := ⟨_, rfl⟩
                      have hmem : (p, n) ∈ x.ms := by rw [← hpn]; exact List.getElem_mem hlm
                      rw [hpn] at m1 m2
                      clear hpn
                      simp only at m1 m2
                      have hrise := HR.out.ms (p, n) hmem
                      have i0 : (0 ≤ (m : Int)) = True := eq_true (by omega)
                      have i1 : ((m : Int) < (x.ms.length : Int)) = True := eq_true (by omega)
                      have hx5 := HKX.out.fit.n
                      have ch := fun wx h => has_any d (.slice A2 d.ms.length k2) n wx h HML.out
                      clear hmem
                      rcases hrise with hr | ⟨hr, hnx⟩
                      · rw [hr] at ch
                        have CH : ∀ wx, ArgM wx (.slice A2 d.ms.length k2) d.ms → Calls Tryd.prog 14 #[dv d (.slice A2 d.ms.length k2), .int .i64 n] wx fun e w' => e = .returned (.tuple #[.agg #[.int .i64 p, .int .i64 n], .bool true]) ∧ Below wx.heap.size wx w' := fun wx h => ch wx h.sm
                        clear ch hr
                        go_wp2_with fail
                        refine St.wp_region_mixed (fun L u wx => R29 wr p n L u wx) (fun _ z => z = .tuple #[.agg #[.int .i64 p, .int .i64 n], .bool true]) (by kernel_rfl) (by kernel_rfl) (by kernel_rfl) ⟨(Below.refl _ wr).drew, fun h => (by cases h)⟩ ?_
                        iterate 7
                          (apply St.mix_give
                           · rfl
                           · intro L u' wx hS hcl hrd hag
                             have BXx := BXy.keep hS.lo
                             have Bx := By.keep hS.lo
                             have hbx := hS.lo
                             obtain ⟨_, ⟨x1, x2, x3, x4, x5, x6⟩, _⟩ := BXx.1
                             obtain ⟨_, ⟨z1, z2, z3, z4, z5, z6⟩, _⟩ := Bx.1
                             have y1 := (hbx.cell (p := ⟨b2, o2 + m * 2, none⟩) hb2).trans m1
                             have y2 := (hbx.cell (p := ⟨b2, o2 + m * 2 + 1, none⟩) hb2).trans m2
                             clear hbx BXx Bx
                             go_simp
                             try with_reducible rfl
                           · exact fun L u' wx hS => ⟨hS.lo, hS.n⟩
                           simp only [Act.put, List.setIfInBounds_toArray, List.set_cons_zero, List.set_cons_succ])
                        refine St.mix_into (v := .tuple #[.agg #[.int .i64 p, .int .i64 n], .bool true]) (f := 14) (args := #[dv d (.slice A2 d.ms.length k2), .int .i64 n]) rfl rfl ?_ ?_ ?_
                        · intro wx
                          go_simp
                          try with_reducible rfl
                        · intro L u' wx hS hcl hrd hag
                          refine (CH wx (ady.keep hS.lo)).mono ?_
                          rintro e w' ⟨rfl, hb'⟩
                          exact ⟨rfl, hS.call hb' _⟩
                        simp only [Act.put, List.setIfInBounds_toArray, List.set_cons_zero, List.set_cons_succ]
                        iterate 3
                          (apply St.mix_give
                           · rfl
                           · intro L u' wx hS hcl hrd hag
                             skip
                             go_simp
                             try with_reducible rfl
                           · exact fun L u' wx hS => ⟨hS.lo, hS.n⟩
                           simp only [Act.put, List.setIfInBounds_toArray, List.set_cons_zero, List.set_cons_succ])
                        refine St.mix_free (fun z => ∃ n', z = ptr n') rfl ?_ ?_
                        · intro L u' wx hS hcl hrd hag
                          refine ⟨ptr wx.heap.size, _, ⟨_, rfl⟩, ?_, hS.free (St.not_yet hcl hrd 40 12 (by kernel_rfl)) 30⟩
                          go_simp
                          try with_reducible rfl
                        rintro _ ⟨nb, rfl⟩
                        simp only [Act.put, List.setIfInBounds_toArray, List.set_cons_zero, List.set_cons_succ]
                        refine St.mix_skip rfl ?_ ?_
                        · intro L u' wx hS hcl hrd hag
                          have h11 := St.before_ready hcl hrd 40 11 (by kernel_rfl)
                          have hu11 : u' 11 = ptr nb := hag 40 11 (by kernel_rfl)
                          refine ⟨_, ?_, hS.set h11 hu11⟩
                          obtain ⟨n', g1, g2, g3, g4, ⟨x', y', g5, g6⟩, _⟩ := hS.n h11
                          obtain rfl := ptr_inj (hu11.symm.trans g1)
                          clear g1
                          go_simp
                          try with_reducible rfl
                        simp only [Act.put]
                        iterate 1
                          (apply St.mix_give
                           · rfl
                           · intro L u' wx hS hcl hrd hag
                             skip
                             go_simp
                             try with_reducible rfl
                           · exact fun L u' wx hS => ⟨hS.lo, hS.n⟩
                           simp only [Act.put, List.setIfInBounds_toArray, List.set_cons_zero, List.set_cons_succ])
                        refine St.mix_last ?_
                        intro L wx hS hall
                        obtain ⟨n', g1, g2, g3, g4, _, g5⟩ := hS.n (hall 11 (by decide))
                        obtain rfl := ptr_inj (show ptr nb = ptr n' from g1)
                        obtain ⟨g6, g7⟩ := g5 (hall 12 (by decide))
                        have hbx := hS.lo
                        clear g1 g5 hS hall CH
                        have BXx := BXy.keep hbx
                        have Bx := By.keep hbx
                        clear p_0 p_1 p_2 p_3 p_4 p_5 p_6 p_7
                        obtain ⟨_, ⟨x1, x2, x3, x4, x5, x6⟩, _⟩ := BXx.1
                        obtain ⟨_, ⟨z1, z2, z3, z4, z5, z6⟩, _⟩ := Bx.1
                        have y1 := (hbx.cell (p := ⟨b2, o2 + m * 2, none⟩) hb2).trans m1
                        have y2 := (hbx.cell (p := ⟨b2, o2 + m * 2 + 1, none⟩) hb2).trans m2
                        clear m1 m2
                        go_wp2_with fail
                        go_quiet (fail)
                        go_wp2_with fail
                        go_roundw
                        case rel => exact ⟨m + 1, by omega, by go_num, below_drewN (hby.trans (hbx.mono hby.size)) _⟩
                        case measure => simp [intOf]; omega
                      · rw [hr] at ch
                        have CH : ∀ wx, ArgM wx (.slice A2 d.ms.length k2) d.ms → Calls Tryd.prog 14 #[dv d (.slice A2 d.ms.length k2), .int .i64 n] wx fun e w' => e = .returned (.tuple #[.agg #[.int .i64 0, .int .i64 0], .bool false]) ∧ Below wx.heap.size wx w' := fun wx h => ch wx h.sm
                        clear ch hr
                        go_wp2_with fail
                        refine St.wp_region_mixed (fun L u wx => R29 wr 0 0 L u wx) (fun _ z => z = .tuple #[.agg #[.int .i64 0, .int .i64 0], .bool false]) (by kernel_rfl) (by kernel_rfl) (by kernel_rfl) ⟨(Below.refl _ wr).drew, fun h => (by cases h)⟩ ?_
                        iterate 7
                          (apply St.mix_give
                           · rfl
                           · intro L u' wx hS hcl hrd hag
                             have BXx := BXy.keep hS.lo
                             have Bx := By.keep hS.lo
                             have hbx := hS.lo
                             obtain ⟨_, ⟨x1, x2, x3, x4, x5, x6⟩, _⟩ := BXx.1
                             obtain ⟨_, ⟨z1, z2, z3, z4, z5, z6⟩, _⟩ := Bx.1
                             have y1 := (hbx.cell (p := ⟨b2, o2 + m * 2, none⟩) hb2).trans m1
                             have y2 := (hbx.cell (p := ⟨b2, o2 + m * 2 + 1, none⟩) hb2).trans m2
                             clear hbx BXx Bx
                             go_simp
                             try with_reducible rfl
                           · exact fun L u' wx hS => ⟨hS.lo, hS.n⟩
                           simp only [Act.put, List.setIfInBounds_toArray, List.set_cons_zero, List.set_cons_succ])
                        refine St.mix_into (v := .tuple #[.agg #[.int .i64 0, .int .i64 0], .bool false]) (f := 14) (args := #[dv d (.slice A2 d.ms.length k2), .int .i64 n]) rfl rfl ?_ ?_ ?_
                        · intro wx
                          go_simp
                          try with_reducible rfl
                        · intro L u' wx hS hcl hrd hag
                          refine (CH wx (ady.keep hS.lo)).mono ?_
                          rintro e w' ⟨rfl, hb'⟩
                          exact ⟨rfl, hS.call hb' _⟩
                        simp only [Act.put, List.setIfInBounds_toArray, List.set_cons_zero, List.set_cons_succ]
                        iterate 3
                          (apply St.mix_give
                           · rfl
                           · intro L u' wx hS hcl hrd hag
                             skip
                             go_simp
                             try with_reducible rfl
                           · exact fun L u' wx hS => ⟨hS.lo, hS.n⟩
                           simp only [Act.put, List.setIfInBounds_toArray, List.set_cons_zero, List.set_cons_succ])
                        refine St.mix_free (fun z => ∃ n', z = ptr n') rfl ?_ ?_
                        · intro L u' wx hS hcl hrd hag
                          refine ⟨ptr wx.heap.size, _, ⟨_, rfl⟩, ?_, hS.free (St.not_yet hcl hrd 40 12 (by kernel_rfl)) 30⟩
                          go_simp
                          try with_reducible rfl
                        rintro _ ⟨nb, rfl⟩
                        simp only [Act.put, List.setIfInBounds_toArray, List.set_cons_zero, List.set_cons_succ]
                        refine St.mix_skip rfl ?_ ?_
                        · intro L u' wx hS hcl hrd hag
                          have h11 := St.before_ready hcl hrd 40 11 (by kernel_rfl)
                          have hu11 : u' 11 = ptr nb := hag 40 11 (by kernel_rfl)
                          refine ⟨_, ?_, hS.set h11 hu11⟩
                          obtain ⟨n', g1, g2, g3, g4, ⟨x', y', g5, g6⟩, _⟩ := hS.n h11
                          obtain rfl := ptr_inj (hu11.symm.trans g1)
                          clear g1
                          go_simp
                          try with_reducible rfl
                        simp only [Act.put]
                        iterate 1
                          (apply St.mix_give
                           · rfl
                           · intro L u' wx hS hcl hrd hag
                             skip
                             go_simp
                             try with_reducible rfl
                           · exact fun L u' wx hS => ⟨hS.lo, hS.n⟩
                           simp only [Act.put, List.setIfInBounds_toArray, List.set_cons_zero, List.set_cons_succ])
                        refine St.mix_last ?_
                        intro L wx hS hall
                        obtain ⟨n', g1, g2, g3, g4, _, g5⟩ := hS.n (hall 11 (by decide))
                        obtain rfl := ptr_inj (show ptr nb = ptr n' from g1)
                        obtain ⟨g6, g7⟩ := g5 (hall 12 (by decide))
                        have hbx := hS.lo
                        clear g1 g5 hS hall CH
                        have BXx := BXy.keep hbx
                        have Bx := By.keep hbx
                        clear p_0 p_1 p_2 p_3 p_4 p_5 p_6 p_7
                        obtain ⟨_, ⟨x1, x2, x3, x4, x5, x6⟩, _⟩ := BXx.1
                        obtain ⟨_, ⟨z1, z2, z3, z4, z5, z6⟩, _⟩ := Bx.1
                        have y1 := (hbx.cell (p := ⟨b2, o2 + m * 2, none⟩) hb2).trans m1
                        have y2 := (hbx.cell (p := ⟨b2, o2 + m * 2 + 1, none⟩) hb2).trans m2
                        clear m1 m2
                        have n3 : (n < d.next) = False := eq_false (by omega)
                        go_wp2_with fail
                        go_quiet (fail)
                        go_wp2_with fail
                        go_roundw
                        case rel => exact ⟨m + 1, by omega, by go_num, below_drewN (hby.trans (hbx.mono hby.size)) _⟩
                        case measure => simp [intOf]; omega
            have f3 : (kd == 3) = false := by simpa using z3
            have v3 : (kd = 3) = False := eq_false z3
            clear z3
            go_wp2_with fail
            go_roundw
            case rel =>
              have hfin : Below wo.heap.size wo ((wo.alloc (.cells #[.int .i64 kd, .int .i64 nd, .int .i64 i, .string key] 62)).alloc (.cells #[.int .i64 d.id, .string d.f, .string d.t, .int .i64 d.gen, .slice A2 d.ms.length k2, .int .i64 d.next] 26)) := (by (repeat' (first | with_reducible assumption | with_reducible exact Below.refl _ _ | with_reducible refine Below.alloc ?_ ?_ _ | with_reducible refine Below.setCell ?_ ?_ _ | with_reducible refine Below.drew ?_ | omega | (simp; done) | (simp; omega))))
              exact ⟨j + 1, d, .slice A2 d.ms.length k2, by omega, by go_num, B0.keep hfin, a0.keep hfin, HD, hbw.trans (hfin.mono hbw.size), hb1.trans (hfin.mono hb1.size)⟩
            case measure => simp [intOf]; omega
end Go.Proofs.YtojphacongbnmaaDoor.Ds

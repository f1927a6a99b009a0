/-
  Put, the document's: an order's text. Conditions: its texts at most 2^20 bytes; its numbers such as a program can hold.
  The laws' own three and live: live answers true. Condition: the library's variables hold what their types allow.
  The document's In, Count, Agreed. Conditions: at most 1,000 members, 1,000,000 numbers such as a program can hold.
  MemberMost, walked. Conditions: numbers such as a program can hold; lengths at most 2^47; the library's variables hold what their types allow.
-/
import Derived.Test.YtlcobgpgggegdaaGreatDoorOdPCA
import Derived.Test.YtlcobgpgggegdaaGreatDoorMbMA
import Derived.Test.YtlcobgpgggegdaaGreatDoorMbMay
import Derived.Test.YtlcobgpgggegdaaGreatDoorMbOfA
import Derived.Test.YtlcobgpgggegdaaGreatDoorMbCSA
import Derived.Test.YtlcobgpgggegdaaGreatDoorRegA
import Derived.Lib.MinMax
namespace Go.Proofs.YtlcobgpgggegdaaGreatDoor.Od
open Go.RowKit Bnd
open Go.Proofs.YtlcobgpgggegdaaGreatDoor.M (tieT numT inR)
open Ds (nb nb_size own_new)

set_option maxHeartbeats 8000000 in
set_option maxRecDepth 100000 in
theorem rput_any (o : Ask) (w : World) (h : FitA o) : Calls Tryz.prog 30 #[av o] w fun e w' => e = .returned (str (putA o)) ∧ Below w.heap.size w w' := by
  have hfew := few_strS h
  have HT := Lib.hid (texts_strS o)
  have c1 : ∀ n w, inR n → Calls Tryz.prog 58 #[.int .i64 n] w fun e w' => e = .returned (.string (nb n)) ∧ Below w.heap.size w w' := fun n w h => ((rnum_any n w h).mono fun e w2 h => ⟨h.1, h.2 ▸ Below.refl _ _⟩)
  have c2 : ∀ w, Calls Tryz.prog 81 #[.bool o.has] w fun e w' => e = .returned (.string (tb o.has)) ∧ w = w' := fun w => rtruth_any o.has w
  obtain ⟨W1, hW1⟩ : ∃ W1, w.alloc (.cells #[.int .i64 o.kind, .int .i64 o.client, .int .i64 o.seq, .string o.key, .string o.til, .string o.val, .string o.old, .bool o.has, .int .i64 o.lim, .int .i64 o.id, .int .i64 o.node] 40) = W1 := ⟨_, rfl⟩
  have B0 : BoxA w.heap.size o W1 := hW1 ▸ BoxA.new w o
  have hz1 : W1.heap.size = w.heap.size + 1 := by rw [← hW1]; simp
  have hbw1 : Below w.heap.size w W1 := by rw [← hW1]; exact (Below.refl _ w).alloc (Nat.le_refl _) _
  have call : ∀ n wx, inR n → Below W1.heap.size W1 wx → Calls Tryz.prog 58 #[.int .i64 n] wx fun e w' => e = .returned (.string (nb n)) ∧ Below W1.heap.size W1 w' := by
    intro n wx hn hx
    refine (c1 n wx hn).mono ?_
    rintro e w' ⟨rfl, b⟩
    exact ⟨rfl, hx.trans (b.mono hx.size)⟩
  have call2 : ∀ wx, Below W1.heap.size W1 wx → Calls Tryz.prog 81 #[.bool o.has] wx fun e w' => e = .returned (.string (tb o.has)) ∧ Below W1.heap.size W1 w' := by
    intro wx hx
    refine (c2 wx).mono ?_
    rintro e w' ⟨rfl, rfl⟩
    exact ⟨rfl, hx⟩
  have hI1 := h.r.kind
  have hI2 := h.r.client
  have hI3 := h.r.seq
  have hI4 := h.r.lim
  have hI5 := h.r.id
  have hI6 := h.r.node
  have hbox : ∀ wx, Below W1.heap.size W1 wx → BoxA w.heap.size o wx := fun wx hx => BoxA.kept (N := W1.heap.size) B0 (by omega) hx
  go_enter Tryz.func30, Tryz.ntmps30
  go_wp2
  try rw [hW1]
  refine St.wp_region_tail 29 (fun _ wx => Below W1.heap.size W1 wx) (by kernel_rfl) (by kernel_rfl) (by kernel_rfl) (by kernel_rfl) (by decide) (Below.refl _ _).drew ?_
  simp only [List.take, List.drop]
  repeat (first
    | (apply St.step_give
       · rfl
       · intro L wx hS hcl hrd
         obtain ⟨_, ⟨d0, d1, d2, d3, d4, d5, d6, d7, d8, d9, d10⟩, _⟩ := hbox wx hS
         go_simp
         try with_reducible rfl
       · exact fun L wx hS => hS
       simp only [Act.put, List.setIfInBounds_toArray, List.set_cons_zero, List.set_cons_succ])
    | (apply St.step_into
       · rfl
       · intro wx
         go_simp
         exact ⟨rfl, rfl⟩
       · first
         | exact fun L wx hS hcl hrd => call2 wx hS
         | exact fun L wx hS hcl hrd => call _ wx (by first | exact hI1 | exact hI2 | exact hI3 | exact hI4 | exact hI5 | exact hI6) hS
       simp only [Act.put, List.setIfInBounds_toArray, List.set_cons_zero, List.set_cons_succ]))
  refine St.step_last ?_
  intro L wx hS _
  clear hI1 hI2 hI3 hI4 hI5 hI6 call call2
  have hz : W1.heap.size ≤ wx.heap.size := hS.size
  have hown0 := own_new wx W1.heap.size (strS o) hz (by simp [strS])
  have hsl := SL.of_own hown0
  have ct := (rtie_any _ (strS o) _ hsl hfew).mono (R' := fun e w2 => e = .returned (str (M.tieT (texts (strS o)))) ∧ Below (wx.alloc (.cells #[.string (nb o.kind), .string (nb o.client), .string (nb o.seq), .string o.key, .string o.til, .string o.val, .string o.old, .string (tb o.has), .string (nb o.lim), .string (nb o.id), .string (nb o.node)] 9)).heap.size (wx.alloc (.cells #[.string (nb o.kind), .string (nb o.client), .string (nb o.seq), .string o.key, .string o.til, .string o.val, .string o.old, .string (tb o.has), .string (nb o.lim), .string (nb o.id), .string (nb o.node)] 9)) w2) fun e w2 h => ⟨h.1, h.2 ▸ Below.refl _ _⟩
  rw [HT.out] at ct
  have hS1 := hS.alloc hz (.cells #[.string (nb o.kind), .string (nb o.client), .string (nb o.seq), .string o.key, .string o.til, .string o.val, .string o.old, .string (tb o.has), .string (nb o.lim), .string (nb o.id), .string (nb o.node)] 9)
  have ct2 : Calls Tryz.prog 80 #[.slice (some ⟨wx.heap.size, 0, none⟩) 11 11] (wx.alloc (.cells #[.string (nb o.kind), .string (nb o.client), .string (nb o.seq), .string o.key, .string o.til, .string o.val, .string o.old, .string (tb o.has), .string (nb o.lim), .string (nb o.id), .string (nb o.node)] 9)) fun e w' => e = .returned (str (putA o)) ∧ Below W1.heap.size W1 w' := by
    refine ct.mono ?_
    rintro e w' ⟨rfl, b⟩
    exact ⟨rfl, hS1.trans (b.mono hS1.size)⟩
  clear hown0 hW1 hsl ct hS1 hS hfew hbox
  go_wp2_with fail
  refine ct2.mono ?_
  rintro e w2 ⟨rfl, b2⟩
  go_wp2_with fail
  go_ret
  exact ⟨rfl, hbw1.trans (b2.mono (by omega))⟩
end Go.Proofs.YtlcobgpgggegdaaGreatDoor.Od

namespace Go.Proofs.YtlcobgpgggegdaaGreatDoor.Mb
open Go.RowKit Bnd
open Go.Proofs.YtlcobgpgggegdaaGreatDoor.Ds (De SM ArgM dv BoxD)
open Go.Proofs.YtlcobgpgggegdaaGreatDoor.Dp (SI Ph HA qv isP)
open Go.Proofs.YtlcobgpgggegdaaGreatDoor.Od (av putA)
open Go.Proofs.YtlcobgpgggegdaaGreatDoor.Ro (SE)

theorem three_any (w : World) : Calls Tryz.prog 64 #[] w (GaveX w dT) := by
  go_enter Tryz.func64, Tryz.ntmps64
  go_wp2_with fail
  refine bodyPost_ret (Ds.res_box Tryz.results64 rfl ((BoxD.new w dT (.slice (some ⟨w.heap.size + 1, 0, none⟩) 3 3)).alloc _)) rfl ⟨_, rfl, .some (w.heap.size + 1) 0 3 dT.ms ⟨_, _, rfl, fun _ => ⟨w.heap.size + 1, 0, rfl, by simp, fun i hi => ?_⟩⟩, (by (repeat' (first | with_reducible assumption | with_reducible exact Below.refl _ _ | with_reducible refine Below.alloc ?_ ?_ _ | with_reducible refine Below.setCell ?_ ?_ _ | with_reducible refine Below.drew ?_ | omega | (simp; done) | (simp; omega))))⟩
  have hi3 : i < 3 := hi
  match i, hi3 with
  | 0, _ => exact ⟨by simp [go_sem, dT], by simp [go_sem, dT]⟩
  | 1, _ => exact ⟨by simp [go_sem, dT], by simp [go_sem, dT]⟩
  | 2, _ => exact ⟨by simp [go_sem, dT], by simp [go_sem, dT]⟩
def phT (s : Value) : Ph := ⟨dT, s, [], .slice none 0 0, [], .slice none 0 0, false, [], .slice none 0 0, 0⟩
theorem phT_ha {w : World} {s : Value} (h : ArgM w s dT.ms) : HA w (phT s) := ⟨h, .nil, .nil, (fun z hz => by cases hz), .nil, Dp.Room.nil, Dp.Room.nil⟩
theorem pT_is : isP pT = true := by kernel_rfl
theorem fit_oA : Od.FitA oA := ⟨in_oA, by decide, by decide, by decide, by decide⟩
theorem se_two {W : World} {n : Nat} {T : ByteArray} (hn : n < W.heap.size) (h0 : W.cell? ⟨n, 0, none⟩ = some (.int .i64 0)) (h1 : W.cell? ⟨n, 1, none⟩ = some (.string ⟨#[120]⟩)) (h2 : W.cell? ⟨n, 2, none⟩ = some (.int .i64 0)) (h3 : W.cell? ⟨n, 3, none⟩ = some (.string T)) :
    SE W W.heap.size (.slice (some ⟨n, 0, none⟩) 2 2) [(0, ⟨#[120]⟩), (0, T)] := by
  refine ⟨_, _, rfl, fun _ => ⟨n, 0, rfl, hn, fun i hi => ?_⟩⟩
  have hi2 : i < 2 := hi
  match i, hi2 with
  | 0, _ => exact ⟨h0, h1⟩
  | 1, _ => exact ⟨h2, h3⟩
theorem si_three {W : World} {n : Nat} {a b c : Int} (hn : n < W.heap.size) (h0 : W.cell? ⟨n, 0, none⟩ = some (.int .i64 a)) (h1 : W.cell? ⟨n, 1, none⟩ = some (.int .i64 b)) (h2 : W.cell? ⟨n, 2, none⟩ = some (.int .i64 c)) :
    SI W W.heap.size (.slice (some ⟨n, 0, none⟩) 3 3) [a, b, c] := by
  refine ⟨_, _, rfl, fun _ => ⟨n, 0, rfl, hn, fun i hi => ?_⟩⟩
  have hi3 : i < 3 := hi
  match i, hi3 with
  | 0, _ => exact h0
  | 1, _ => exact h1
  | 2, _ => exact h2
set_option maxHeartbeats 16000000 in
set_option maxRecDepth 100000 in
theorem live_any (w : World) (hg : Good w) : Calls Tryz.prog 17 #[] w fun e w' => e = .returned (.bool true) ∧ Below w.heap.size w w' := by
  obtain ⟨T, hT⟩ : ∃ T : ByteArray, T = ⟨(putA oA).toArray⟩ := ⟨_, rfl⟩
  have hlen : (putA oA).length ≤ 500 := by
    have := Od.putA_length fit_oA
    have e : (oA.key.size, oA.til.size, oA.val.size, oA.old.size) = (1, 0, 0, 0) := rfl
    injection e with e1 e2
    injection e2 with e2 e3
    injection e3 with e3 e4
    omega
  have hTs : T.size ≤ 500 := by rw [hT]; simp [ByteArray.size]; exact hlen
  have cT := three_any
  have cP : ∀ w, Calls Tryz.prog 30 #[.agg #[.int .i64 10, .int .i64 1, .int .i64 1, .string ⟨#[107]⟩, .string ⟨#[]⟩, .string ⟨#[]⟩, .string ⟨#[]⟩, .bool false, .int .i64 0, .int .i64 0, .int .i64 4]] w fun e w' => e = .returned (.string T) ∧ Below w.heap.size w w' := fun w => by
    rw [hT]
    exact Od.rput_any oA w fit_oA
  have cO : ∀ s v w', ArgM w' s dT.ms → SE w' w'.heap.size v [(0, ⟨#[120]⟩), (0, T)] → Good w' → Calls Tryz.prog 19 #[dv dT s, v] w' (GaveX w' dF) := fun s v w' h1 h2 h3 => by
    have := of_any dT s v [(0, ⟨#[120]⟩), (0, T)] w' h1 dT_is h2 (by simp) (fun e he => by
      simp only [List.mem_cons, List.not_mem_nil, or_false] at he
      rcases he with rfl | rfl
      · show (1 : Nat) ≤ _; omega
      · show T.size ≤ _; omega) h3
    rw [hT, live_of rfl (by omega)] at this
    exact this
  have cG : ∀ v w', SI w' w'.heap.size v [5, 9, 7] → Calls Tryz.prog 25 #[v] w' fun e w'' => e = .returned (.int .i64 7) ∧ Below w'.heap.size w' w'' := fun v w' h => by
    have := agreed_any v [5, 9, 7] w' h (by simp) (by decide)
    rw [live_ag] at this
    exact this
  have cC : ∀ s v w', ArgM w' s dF.ms → SI w' w'.heap.size v [2, 4, 9] → Calls Tryz.prog 27 #[dv dF s, v] w' fun e w'' => e = .returned (.int .i64 2) ∧ Below w'.heap.size w' w'' := fun s v w' h1 h2 => by
    have := count_any dF s v [2, 4, 9] w' h1.sm (by decide) h2 (by simp)
    rw [live_count] at this
    exact this
  have cM : ∀ s w', ArgM w' s dT.ms → Good w' → Calls Tryz.prog 23 #[qv (phT s), .agg #[.int .i64 11, .int .i64 1, .int .i64 1, .string ⟨#[107]⟩, .string ⟨#[]⟩, .string ⟨#[]⟩, .string ⟨#[]⟩, .bool false, .int .i64 0, .int .i64 2, .int .i64 0]] w' fun e w'' => e = .returned (.bool true) ∧ Below w'.heap.size w' w'' := fun s w' h h2 => by
    have := may_any (phT s) oR w' (phT_ha h) pT_is (by decide) (by decide) (by decide) h2
    rw [show Pt.mayP (phT s).pl oR = true from live_may] at this
    exact this
  clear hT hTs hlen
  go_enter Tryz.func17, Tryz.ntmps17
  go_wp2_with fail
  refine (cT _).mono ?_
  rintro e w1 ⟨s1, rfl, ha1, b1⟩
  obtain ⟨A1, c1, rfl⟩ := ha1.form
  go_wp2_with fail
  refine (cP _).mono ?_
  rintro e w2 ⟨rfl, b2⟩
  have hb2 := b1.trans (b2.mono b1.size)
  have ha2 := ha1.keep b2
  clear ha1 b1 b2 cP
  go_wp2_with fail
  have hx : Below w2.heap.size w2 (w2.alloc (.cells #[.int .i64 0, .string ⟨#[120]⟩, .int .i64 0, .string T] 51)) := (Below.refl _ w2).alloc (Nat.le_refl _) _
  refine (cO _ _ _ (ha2.keep hx) (se_two (by simp) (by simp [go_sem]) (by simp [go_sem]) (by simp [go_sem]) (by simp [go_sem])) (hg.below (hb2.trans (hx.mono hb2.size)))).mono ?_
  rintro e w3 ⟨s3, rfl, ha3, b3⟩
  obtain ⟨A3, c3, hs3⟩ := ha3.form
  rw [show dF.ms.length = 4 from rfl] at hs3
  subst hs3
  have hb3 : Below w.heap.size w w3 := hb2.trans ((hx.trans (b3.mono (by simp))).mono hb2.size)
  have B1 := BoxD.new w3 dF (.slice A3 4 c3)
  have h34 : Below w3.heap.size w3 (w3.alloc (.cells #[.int .i64 dF.id, .string dF.f, .string dF.t, .int .i64 dF.gen, .slice A3 4 c3, .int .i64 dF.next] 26)) := (Below.refl _ w3).alloc (Nat.le_refl _) _
  obtain ⟨W4, hW4⟩ : ∃ W4, w3.alloc (.cells #[.int .i64 dF.id, .string dF.f, .string dF.t, .int .i64 dF.gen, .slice A3 4 c3, .int .i64 dF.next] 26) = W4 := ⟨_, rfl⟩
  rw [hW4] at B1 h34
  have hb4 := hb3.trans (h34.mono hb3.size)
  have ha4 := ha3.keep h34
  clear ha2 ha3 hx b3 hb2 hb3 h34 cO
  go_wp2_with fail
  try rw [hW4]
  clear hW4
  go_wp2_with fail
  have hx1 : Below W4.heap.size W4 (W4.alloc (.cells #[.int .i64 5, .int .i64 9, .int .i64 7] 2)) := (Below.refl _ W4).alloc (Nat.le_refl _) _
  refine (cG _ _ (si_three (by simp) (by simp [go_sem]) (by simp [go_sem]) (by simp [go_sem]))).mono ?_
  rintro e w5 ⟨rfl, b5⟩
  have h45 := hx1.trans (b5.mono hx1.size)
  have B5 := B1.keep h45
  have hb5 := hb4.trans (h45.mono hb4.size)
  have ha5 := ha4.keep h45
  clear b5 hx1 B1 hb4 ha4 h45 cG
  obtain ⟨q_0, ⟨q_1, q_2, q_3, q_4, q_5, q_6⟩, q_7⟩ := _root_.id B5
  simp only [dF] at q_1 q_2 q_3 q_4 q_6
  go_wp2_with fail
  have hx2 : Below w5.heap.size w5 (w5.alloc (.cells #[.int .i64 2, .int .i64 4, .int .i64 9] 2)) := (Below.refl _ w5).alloc (Nat.le_refl _) _
  refine (cC _ _ _ (ha5.keep hx2) (si_three (by simp) (by simp [go_sem]) (by simp [go_sem]) (by simp [go_sem]))).mono ?_
  rintro e w6 ⟨rfl, b6⟩
  have h56 := hx2.trans (b6.mono hx2.size)
  have hb6 := hb5.trans (h56.mono hb5.size)
  clear b6 hx2 B5 hb5 ha5 h56 cC q_0 q_1 q_2 q_3 q_4 q_5 q_6 q_7
  go_wp2_with fail
  refine (cT _).mono ?_
  rintro e w7 ⟨s7, rfl, ha7, b7⟩
  obtain ⟨A7, c7, rfl⟩ := ha7.form
  have hb7 := hb6.trans (b7.mono hb6.size)
  have cM7 := cM _ _ ha7 (hg.below hb7)
  clear b7 hb6 cT cM hg
  go_wp2_with fail
  refine cM7.mono ?_
  rintro e w8 ⟨rfl, b8⟩
  have hb8 := hb7.trans (b8.mono hb7.size)
  clear b8 hb7 cM7
  go_wp2_with fail
  go_ret
  exact ⟨rfl, hb8⟩
end Go.Proofs.YtlcobgpgggegdaaGreatDoor.Mb

namespace Go.Proofs.YtlcobgpgggegdaaGreatDoor.Mb
open Go.RowKit Bnd
open Go.Proofs.YtlcobgpgggegdaaGreatDoor.Ds (De SM ArgM dv BoxD)
open Go.Proofs.YtlcobgpgggegdaaGreatDoor.Dp (SI)

set_option maxHeartbeats 4000000 in
set_option maxRecDepth 100000 in
theorem rin_any (v : Value) (ns : List Int) (x : Int) (w : World) (hv : SI w w.heap.size v ns) (hl : ns.length ≤ 140737488355328) :
    Calls Tryz.prog 29 #[v, .int .i64 x] w fun e w' => e = .returned (.bool (decide (x ∈ ns))) ∧ w = w' := by
  obtain ⟨A, c, rfl⟩ := hv.form
  obtain ⟨N, hN⟩ : ∃ N, ns.length = N := ⟨_, rfl⟩
  have HN := Lib.hid hN
  have HV := Lib.hid hv
  rw [hN] at hl ⊢
  obtain ⟨r, hR⟩ : ∃ r, decide (x ∈ ns) = r := ⟨_, rfl⟩
  rw [hR]
  have HR := Lib.hid hR
  clear hN hv hR
  go_enter Tryz.func29, Tryz.ntmps29
  go_wp2_with fail
  go_loopw [5] (fun vi wr => ∃ k : Nat, k ≤ N ∧ vi = .int .i64 (k : Int) ∧ Hid (decide (x ∈ ns.drop k) = r) ∧ wr = w) (fun vi _ => N - (intOf vi).toNat)
  case atStart => exact ⟨0, Nat.zero_le _, rfl, Lib.hid (by simpa using HR.out), rfl⟩
  case round =>
    obtain ⟨k, hk, rfl, HG, rfl⟩ := hrel
    by_cases hlt : k < N
    · have hkx : k < ns.length := by rw [HN.out]; exact hlt
      have hv1 := HV.out
      rw [HN.out] at hv1
      obtain ⟨b, o, rfl, hb, q⟩ := hv1.at_ hkx
      have hg := HG.out
      rw [List.drop_eq_getElem_cons hkx] at hg
      obtain ⟨y, hy⟩ : ∃ y, ns[k] = y := ⟨_, rfl⟩
      rw [hy] at q hg
      have k0 : (0 ≤ (k : Int)) = True := eq_true (by omega)
      have k1 : ((k : Int) < (N : Int)) = True := eq_true (by omega)
      clear hv1 hy hkx
      by_cases h1 : y = x
      · have l1 : (y == x) = true := by simpa using h1
        have l2 : (y = x) = True := eq_true h1
        have HG2 : Hid (r = true) := Lib.hid (by rw [← hg]; simp [h1])
        clear hg h1
        go_wp2_with fail
        go_ret
        exact ⟨by rw [HG2.out]; rfl, rfl⟩
      · have l1 : (y == x) = false := by simpa using h1
        have l2 : (y = x) = False := eq_false h1
        have HG2 : Hid (decide (x ∈ ns.drop (k + 1)) = r) := Lib.hid (by rw [← hg]; simp [Ne.symm h1])
        clear hg h1
        go_wp2_with fail
        go_roundw
        case rel => exact ⟨k + 1, by omega, by go_num, HG2, by trivial⟩
        case measure => simp [intOf]; omega
    · obtain rfl : k = N := by omega
      have hg := HG.out
      rw [List.drop_of_length_le (by have := HN.out; omega)] at hg
      have HG2 : Hid (r = false) := Lib.hid (by rw [← hg]; simp)
      clear hg
      go_wp2_with fail
      go_ret
      exact ⟨by rw [HG2.out]; rfl, rfl⟩


theorem reach_take {l : List Int} {y : Int} {k : Nat} (h : k < l.length) : reach (l.take (k + 1)) y = reach (l.take k) y + (if y ≤ l[k] then 1 else 0) := by
  unfold reach
  rw [List.take_succ_eq_append_getElem h, List.countP_append, List.countP_singleton]
  by_cases hm : y ≤ l[k] <;> simp [hm]
theorem reach_take_le (l : List Int) (y : Int) (k : Nat) : reach (l.take k) y ≤ k := by
  have := List.countP_le_length (p := fun x => decide (y ≤ x)) (l := l.take k)
  rw [List.length_take] at this
  unfold reach
  omega
end Go.Proofs.YtlcobgpgggegdaaGreatDoor.Mb

namespace Go.Proofs.YtlcobgpgggegdaaGreatDoor.Mb
open Go.RowKit Bnd
open Go.Proofs.YtlcobgpgggegdaaGreatDoor.Dp (SI ArgI wpList_append_ints)
open Go.Proofs.YtlcobgpgggegdaaGreatDoor.Ds (OwnI)
open Go.Proofs.YtlcobgpgggegdaaGreatDoor.M (inR)

/-- what has been turned when k rounds are over -/
def turnedL (l : List Int) (q k : Nat) : List Int := (List.range k).map fun i => (l[(i + q) % l.length]?).getD 0
theorem turnedL_succ (l : List Int) (q k : Nat) : turnedL l q (k + 1) = turnedL l q k ++ [(l[(k + q) % l.length]?).getD 0] := by simp [turnedL, List.range_succ]
theorem turnedL_length (l : List Int) (q k : Nat) : (turnedL l q k).length = k := by simp [turnedL]
theorem turnedL_perm (l : List Int) (q : Nat) (hq : q < l.length) : (turnedL l q l.length).Perm l := by
  have e : turnedL l q l.length = l.drop q ++ l.take q := by
    apply List.ext_getElem
    · simp [turnedL]; omega
    · intro i h1 h2
      have hi : i < l.length := by simpa [turnedL] using h1
      simp only [turnedL, List.getElem_map, List.getElem_range]
      by_cases hlt : i + q < l.length
      · rw [Nat.mod_eq_of_lt hlt, List.getElem_append_left (by rw [List.length_drop]; omega), List.getElem_drop, List.getElem?_eq_getElem hlt]
        simp [Nat.add_comm]
      · rw [List.getElem_append_right (by rw [List.length_drop]; omega)]
        have hm : (i + q) % l.length = i + q - l.length := by rw [Nat.mod_eq_sub_mod (by omega), Nat.mod_eq_of_lt (by omega)]
        simp only [hm, List.length_drop, List.getElem_take]
        rw [List.getElem?_eq_getElem (by omega)]
        simp only [Option.getD_some]
        congr 1
        omega
  rw [e]
  exact List.perm_append_comm.trans (by rw [List.take_append_drop])
def moreL (l : List Int) (n : Int) : Nat := l.countP fun x => decide (n < x)
theorem moreL_take {l : List Int} {y : Int} {k : Nat} (h : k < l.length) : moreL (l.take (k + 1)) y = moreL (l.take k) y + (if y < l[k] then 1 else 0) := by
  unfold moreL
  rw [List.take_succ_eq_append_getElem h, List.countP_append, List.countP_singleton]
  by_cases hm : y < l[k] <;> simp [hm]
theorem moreL_take_le (l : List Int) (y : Int) (k : Nat) : moreL (l.take k) y ≤ k := by
  have := List.countP_le_length (p := fun x => decide (y < x)) (l := l.take k)
  rw [List.length_take] at this
  unfold moreL
  omega
theorem one_int (w : World) (n : Int) : ArgI (w.alloc (.cells #[.int .i64 n] 2)) (.slice (some ⟨w.heap.size, 0, none⟩) 1 1) [n] :=
  .some w.heap.size 0 1 [n] ⟨_, _, rfl, fun _ => ⟨w.heap.size, 0, rfl, by simp, fun i hi => by
    have : i = 0 := by simpa using hi
    subst this
    simp [go_sem]⟩⟩
set_option maxHeartbeats 16000000 in
set_option maxRecDepth 100000 in
theorem most_walk (v : Value) (ns : List Int) (by_ : Int) (w : World) (hv : SI w w.heap.size v ns) (hl : ns.length ≤ 140737488355328) (hin : ∀ n ∈ ns, inR n) (hby : inR by_) (hg : Good w) :
    Calls Tryz.prog 6 #[v, .int .i64 by_] w fun e w' => e = .returned (.bool true) ∧ Below w.heap.size w w' := by
  obtain ⟨A, c, rfl⟩ := hv.form
  obtain ⟨N, hN⟩ : ∃ n, ns.length = n := ⟨_, rfl⟩
  have cL := fun w' (hb : Below w.heap.size w w') => live_any w' (hg.below hb)
  by_cases h40 : 40 < N
  · rw [hN]
    have g1 : ((40 : Int) < (N : Int)) = True := eq_true (by omega)
    have g2 : ((N : Int) > 40) = True := eq_true (by omega)
    clear hv hl hin hby hg hN
    go_enter Tryz.func6, Tryz.ntmps6
    go_wp2_with fail
    refine (cL _ (by (repeat' (first | with_reducible assumption | with_reducible exact Below.refl _ _ | with_reducible refine Below.alloc ?_ ?_ _ | with_reducible refine Below.setCell ?_ ?_ _ | with_reducible refine Below.drew ?_ | omega | (simp; done) | (simp; omega))))).mono ?_
    rintro e w1 ⟨rfl, b1⟩
    go_wp2_with fail
    go_ret
    exact ⟨rfl, b1⟩
  have g1 : ((40 : Int) < (N : Int)) = False := eq_false (by omega)
  have g2 : ((N : Int) > 40) = False := eq_false (by omega)
  by_cases h0 : N = 0
  · rw [hN]
    subst h0
    clear hv hl hin hby hg hN h40
    go_enter Tryz.func6, Tryz.ntmps6
    go_wp2_with fail
    refine (cL _ (by (repeat' (first | with_reducible assumption | with_reducible exact Below.refl _ _ | with_reducible refine Below.alloc ?_ ?_ _ | with_reducible refine Below.setCell ?_ ?_ _ | with_reducible refine Below.drew ?_ | omega | (simp; done) | (simp; omega))))).mono ?_
    rintro e w1 ⟨rfl, b1⟩
    go_wp2_with fail
    go_ret
    exact ⟨rfl, b1⟩
  have n1 : ((N : Int) == 0) = false := by rw [beq_eq_false_iff_ne]; omega
  have n2 : ((N : Int) = 0) = False := eq_false (by omega)
  by_cases hneg : by_ < 0
  · rw [hN]
    have b1 : (by_ < 0) = True := eq_true hneg
    clear hv hl hin hby hg hN h40 h0 hneg
    go_enter Tryz.func6, Tryz.ntmps6
    go_wp2_with fail
    refine (cL _ (by (repeat' (first | with_reducible assumption | with_reducible exact Below.refl _ _ | with_reducible refine Below.alloc ?_ ?_ _ | with_reducible refine Below.setCell ?_ ?_ _ | with_reducible refine Below.drew ?_ | omega | (simp; done) | (simp; omega))))).mono ?_
    rintro e w1 ⟨rfl, b1⟩
    go_wp2_with fail
    go_ret
    exact ⟨rfl, b1⟩
  obtain ⟨B, rfl⟩ := Int.eq_ofNat_of_zero_le (show 0 ≤ by_ by omega)
  have b1 : ((B : Int) < 0) = False := eq_false (by omega)
  obtain ⟨q, hq⟩ : ∃ q, B % N = q := ⟨_, rfl⟩
  have hqN : q < N := by rw [← hq]; exact Nat.mod_lt _ (by omega)
  have hq1 : Int.tmod (B : Int) (N : Int) = (q : Int) := by rw [← hq]; exact (Int.ofNat_tmod B N)
  have hpos : 0 < ns.length := by omega
  have hb : ∀ n ∈ ns, -9223372036854775808 ≤ n := fun n hn => (hin n hn).1
  have hperm := turnedL_perm ns q (by omega)
  rw [hN] at hperm
  have hag := (ag_any (l := ns) (s := Dp.sorted ns) (List.mergeSort_perm ns _) (Dp.sorted_le ns) hpos hb).1
  have hag2 := (ag_any (l := turnedL ns q N) (s := Dp.sorted (turnedL ns q N)) (List.mergeSort_perm _ _) (Dp.sorted_le _) (by rw [turnedL_length]; omega) (fun n hn => hb n (hperm.mem_iff.1 hn))).1
  have hsame : agL (turnedL ns q N) = agL ns := agL_perm hag2 hag hperm
  have hmost := hag.most
  have hmore := ag_more hag
  have hmem := hag.mem
  have cA := fun w' (hb' : Below w.heap.size w w') => agreed_any (.slice A ns.length c) ns w' ((hv.below hb').more hb'.size) (by omega) hb
  have cA2 := fun v2 w' (h2 : SI w' w'.heap.size v2 (turnedL ns q N)) => agreed_any v2 (turnedL ns q N) w' h2 (by rw [turnedL_length]; omega) (fun n hn => hb n (hperm.mem_iff.1 hn))
  rw [hsame] at cA2
  obtain ⟨AG, hAG⟩ : ∃ a, agL ns = a := ⟨_, rfl⟩
  rw [hAG] at cA cA2 hmost hmore hmem
  have cI := fun w' (hb' : Below w.heap.size w w') => rin_any (.slice A ns.length c) ns AG w' ((hv.below hb').more hb'.size) (by omega)
  rw [decide_eq_true hmem] at cI
  have HN := Lib.hid hN
  have HV := Lib.hid hv
  have HMS := Lib.hid hmost
  have HMR := Lib.hid hmore
  rw [hN] at cA cI HV ⊢
  have hN40 : N ≤ 40 := by omega
  clear hv hl hin hby hg h40 hneg hq hpos hb hperm hag hag2 hsame hmost hmore hmem hAG hN h0
  go_enter Tryz.func6, Tryz.ntmps6
  go_wp2_with fail
  refine (cA _ (Below.refl _ _)).mono ?_
  rintro e w1 ⟨rfl, b1'⟩
  clear cA
  go_wp2_with fail
  go_loopw [6, 7, 8, 9] (fun vt vl vm vi wr => ∃ (k : Nat) (T : Option Addr) (nt ct : Nat), k ≤ N ∧ vi = .int .i64 (k : Int) ∧ vt = .slice T nt ct ∧ Hid (OwnI wr w1.heap.size (.slice T nt ct) (turnedL ns q k)) ∧ vl = .int .i64 (reach (ns.take k) AG : Nat) ∧ vm = .int .i64 (moreL (ns.take k) AG : Nat) ∧ Below w1.heap.size w1 wr) (fun _ _ _ vi _ => N - (intOf vi).toNat)
  case atStart => exact ⟨0, none, 0, 0, Nat.zero_le _, rfl, rfl, Lib.hid ⟨rfl, .inl ⟨rfl, rfl⟩⟩, rfl, rfl, Below.refl _ _⟩
  case round =>
    obtain ⟨k, T, nt, ct, hk, rfl, rfl, HO, rfl, rfl, hbw⟩ := hrel
    have hbw2 := b1'.trans (hbw.mono b1'.size)
    by_cases hlt : k < N
    · have hkl : k < ns.length := by rw [HN.out]; exact hlt
      obtain ⟨r, hr⟩ : ∃ r, (k + q) % N = r := ⟨_, rfl⟩
      have hrN : r < N := by rw [← hr]; exact Nat.mod_lt _ (by omega)
      have hrl : r < ns.length := by rw [HN.out]; exact hrN
      have hr1 : Int.tmod ((k : Int) + (q : Int)) (N : Int) = (r : Int) := by
        rw [← hr, show ((k : Int) + (q : Int)) = ((k + q : Nat) : Int) by simp]
        exact (Int.ofNat_tmod (k + q) N)
      have hts : turnedL ns q (k + 1) = turnedL ns q k ++ [ns[r]] := by
        rw [turnedL_succ, HN.out, hr, List.getElem?_eq_getElem hrl]; rfl
      obtain ⟨b, o, hA, hb, q0⟩ := HV.out.at_ hkl
      obtain ⟨b', o', hA', _, q1⟩ := HV.out.at_ hrl
      rw [hA] at hA'
      cases hA'
      have hrt := reach_take (y := AG) hkl
      have hmt := moreL_take (y := AG) hkl
      have hle := reach_take_le ns AG k
      have hle2 := moreL_take_le ns AG k
      obtain ⟨x, hx⟩ : ∃ x, ns[k] = x := ⟨_, rfl⟩
      obtain ⟨y, hy⟩ : ∃ y, ns[r] = y := ⟨_, rfl⟩
      rw [hx] at q0 hrt hmt
      rw [hy] at q1 hts
      have p0 := (hbw2.cell (p := ⟨b, o + k, none⟩) hb).trans q0
      have p1 := (hbw2.cell (p := ⟨b, o + r, none⟩) hb).trans q1
      obtain ⟨cl, hcl⟩ : ∃ n, reach (ns.take k) AG = n := ⟨_, rfl⟩
      obtain ⟨cm, hcm⟩ : ∃ n, moreL (ns.take k) AG = n := ⟨_, rfl⟩
      rw [hcl] at hrt hle ⊢
      rw [hcm] at hmt hle2 ⊢
      have HTS := Lib.hid hts
      have hwz := hbw2.size
      have hbz : b < wr.heap.size := by omega
      have k0 : (0 ≤ (k : Int)) = True := eq_true (by omega)
      have k1 : ((k : Int) < (N : Int)) = True := eq_true (by omega)
      have r0 : (0 ≤ (r : Int)) = True := eq_true (by omega)
      have r1 : ((r : Int) < (N : Int)) = True := eq_true (by omega)
      have w1' : IntKind.i64.wrap ((cl : Int) + 1) = (cl : Int) + 1 := by rw [IntKind.wrap_i64]; omega
      have w2' : IntKind.i64.wrap ((cm : Int) + 1) = (cm : Int) + 1 := by rw [IntKind.wrap_i64]; omega
      have w3' : IntKind.i64.wrap ((k : Int) + (q : Int)) = (k : Int) + (q : Int) := by rw [IntKind.wrap_i64]; omega
      obtain ⟨D1, hD1⟩ : ∃ D, decide (AG ≤ x) = D := ⟨_, rfl⟩
      obtain ⟨D2, hD2⟩ : ∃ D, decide (AG < x) = D := ⟨_, rfl⟩
      have hrt2 : reach (ns.take (k + 1)) AG = cl + (if D1 = true then 1 else 0) := by rw [hrt, ← hD1]; by_cases h : AG ≤ x <;> simp [h]
      have hmt2 : moreL (ns.take (k + 1)) AG = cm + (if D2 = true then 1 else 0) := by rw [hmt, ← hD2]; by_cases h : AG < x <;> simp [h]
      have HRT := Lib.hid hrt2
      have HMT := Lib.hid hmt2
      have hown := HO.out
      have hlenT : (turnedL ns q k).length = k := turnedL_length _ _ _
      have HLT := Lib.hid hlenT
      have HSZ : Hid (w1.heap.size ≤ wr.heap.size) := Lib.hid hbw.size
      clear hrt hmt hrt2 hmt2 hcl hcm hx hy hr hts q0 q1 hkl hrl hlenT hle hle2
      subst hA
      go_wp2_with (at_builtin; refine wpList_append_ints rfl _ _ rfl w1.heap.size _ (turnedL ns q k) rfl (Ds.ownI_keep hown ((Below.refl _ wr).alloc (Nat.le_refl _) (.cells #[.int .i64 y] 2))) (by have := HSZ.out; simp; omega) _ [y] rfl (one_int wr y) (by have := HLT.out; simp; omega) ?_)
      intro v' w5 hown5 hb5 _
      obtain ⟨T5, c5, hv5⟩ := (SI.of_own hown5).form
      rw [← HTS.out] at hown5 hv5
      rw [turnedL_length] at hv5
      subst hv5
      have hx5 : Below w1.heap.size wr w5 := ((Below.refl _ wr).alloc HSZ.out (.cells #[.int .i64 y] 2)).trans hb5
      have hbw5 : Below w1.heap.size w1 w5 := hbw.trans hx5
      have e0 : w5.cell? ⟨b, o + k, none⟩ = some (.int .i64 x) := (hx5.cell (p := ⟨b, o + k, none⟩) (by show b < w1.heap.size; have := b1'.size; omega)).trans p0
      have hbz5 : b < w5.heap.size := by have := hx5.size; omega
      have HO5 := Lib.hid hown5
      clear hown hown5 hb5 p0 p1 hx5 HTS HSZ HLT HO
      cases D1 with
      | true =>
        cases D2 with
        | true =>
          go_wp2_with fail
          clear hD1 hD2
          go_roundw
          case rel => exact ⟨k + 1, T5, _, c5, by omega, by go_num, rfl, HO5, by rw [HRT.out]; go_num, by rw [HMT.out]; go_num, hbw5⟩
          case measure => simp [intOf]; omega
        | false =>
          go_wp2_with fail
          clear hD1 hD2
          go_roundw
          case rel => exact ⟨k + 1, T5, _, c5, by omega, by go_num, rfl, HO5, by rw [HRT.out]; go_num, by rw [HMT.out]; simp, hbw5⟩
          case measure => simp [intOf]; omega
      | false =>
        cases D2 with
        | true =>
          go_wp2_with fail
          clear hD1 hD2
          go_roundw
          case rel => exact ⟨k + 1, T5, _, c5, by omega, by go_num, rfl, HO5, by rw [HRT.out]; simp, by rw [HMT.out]; go_num, hbw5⟩
          case measure => simp [intOf]; omega
        | false =>
          go_wp2_with fail
          clear hD1 hD2
          go_roundw
          case rel => exact ⟨k + 1, T5, _, c5, by omega, by go_num, rfl, HO5, by rw [HRT.out]; simp, by rw [HMT.out]; simp, hbw5⟩
          case measure => simp [intOf]; omega
    · obtain rfl : k = N := by omega
      have htk : ns.take k = ns := by rw [← HN.out]; exact List.take_length
      rw [htk]
      have hms := HMS.out
      have hmr := HMR.out
      have hmm : moreL ns AG = ns.countP (fun x => decide (AG < x)) := rfl
      rw [← hmm] at hmr
      rw [HN.out] at hms hmr
      have hle : reach ns AG ≤ k := by have := reach_take_le ns AG k; rw [htk] at this; exact this
      obtain ⟨cl, hcl⟩ : ∃ n, reach ns AG = n := ⟨_, rfl⟩
      obtain ⟨cm, hcm⟩ : ∃ n, moreL ns AG = n := ⟨_, rfl⟩
      rw [hcl] at hms hle ⊢
      rw [hcm] at hmr ⊢
      have w1' : IntKind.i64.wrap (2 * (cl : Int)) = 2 * (cl : Int) := by rw [IntKind.wrap_i64]; omega
      have w2' : IntKind.i64.wrap (2 * (cm : Int)) = 2 * (cm : Int) := by rw [IntKind.wrap_i64]; omega
      have m1 : ((k : Int) < 2 * (cl : Int)) = True := eq_true (by omega)
      have m2 : (2 * (cl : Int) > (k : Int)) = True := eq_true (by omega)
      have m3 : (2 * (cm : Int) ≤ (k : Int)) = True := eq_true (by omega)
      have cI1 := cI wr hbw2
      have HO2 := HO
      clear hlt htk hmm hcl hcm hle hms hmr HMS HMR cI
      go_wp2_with fail
      refine cI1.mono ?_
      rintro e' w2 ⟨rfl, rfl⟩
      go_wp2_with fail
      refine (cA2 _ _ (SI.of_own HO2.out)).mono ?_
      rintro e' w3 ⟨rfl, b3⟩
      have hb3 := hbw2.trans (b3.mono hbw2.size)
      have a1 : (AG == AG) = true := by simp
      clear b3 cA2
      go_wp2_with fail
      refine (cL _ hb3).mono ?_
      rintro e' w4 ⟨rfl, b4⟩
      have hb4 := hb3.trans (b4.mono hb3.size)
      go_wp2_with fail
      go_ret
      exact ⟨rfl, hb4⟩
end Go.Proofs.YtlcobgpgggegdaaGreatDoor.Mb

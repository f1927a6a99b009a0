/-
  Put, the document's: an order's text. Conditions: its texts at most 2^20 bytes; its numbers such as a program can hold.
  The laws' own three and live: live answers true. Condition: the library's variables hold what their types allow.
  The document's In, Count, Agreed. Conditions: at most 1,000 members, 1,000,000 numbers such as a program can hold.
  The document's own word on whether a descriptor may be. Conditions: texts at most 2^47 bytes.
  OrderBack, walked: there and back; unlike orders have unlike texts; cut off, a text is none. Conditions: lengths at most 2^47; numbers such as a program can hold; the library's variables hold what their types allow.
  A drawn region that makes a list of one entry, has a descriptor made of it and writes it into a box. No condition.
  More of the mathematics of descriptors and of members: what the meeting of two majorities needs. No condition.
  MemberMeet, walked. Conditions: lengths at most 2^47; numbers such as a program can hold; the library's variables hold what their types allow.
-/
import Derived.Test.YtlcobgpgggegdaaGreatDoorOdPCA
import Derived.Test.YtlcobgpgggegdaaGreatDoorMbMA
import Derived.Test.YtlcobgpgggegdaaGreatDoorMbMay
import Derived.Test.YtlcobgpgggegdaaGreatDoorMbOfA
import Derived.Test.YtlcobgpgggegdaaGreatDoorMbCSA
import Derived.Test.YtlcobgpgggegdaaGreatDoorRegA
import Derived.Lib.MinMax
import Derived.Test.YtlcobgpgggegdaaGreatDoorDsSMA
import Derived.BigQuiet
import Derived.Test.YtlcobgpgggegdaaGreatDoorOdLive
namespace Go.Proofs.YtlcobgpgggegdaaGreatDoor.Od
open Go.RowKit Bnd
open Go.Proofs.YtlcobgpgggegdaaGreatDoor.M (tieT numT inR)
open Ds (nb nb_size own_new)

set_option maxHeartbeats 8000000 in
set_option maxRecDepth 100000 in
theorem rput_any (o : Ask) (w : World) (h : FitA o) : Calls Tryz.prog 30 #[av o] w fun e w' => e = .returned (str (putA o)) ∧ Below w.heap.size w w' := by
  have hfew := few_strS h
  have HT := Lib.hid (texts_strS o)
  have c1 : ∀ n w, inR n → Calls Tryz.prog 58 #[.int .i64 n] w fun e w' => e = .returned (.string (nb n)) ∧ Below w.heap.size w w' := fun n w h => ((rnum_any n w h).mono fun e w2 h => ⟨h.1, h.2 ▸ Below.refl _ _⟩)
  have c2 : ∀ w, Calls Tryz.prog 81 #[.bool o.has] w fun e w' => e = .returned (.string (tb o.has)) ∧ w = w' := fun w => rtruth_any o.has w
  obtain ⟨W1, hW1⟩ : ∃ W1, w.alloc (.cells #[.int .i64 o.kind, .int .i64 o.client, .int .i64 o.seq, .string o.key, .string o.til, .string o.val, .string o.old, .bool o.has, .int .i64 o.lim, .int .i64 o.id, .int .i64 o.node] 40) = W1 := ⟨_, rfl⟩
  have B0 : BoxA w.heap.size o W1 := hW1 ▸ BoxA.new w o
  have hz1 : W1.heap.size = w.heap.size + 1 := by rw [← hW1]; simp
  have hbw1 : Below w.heap.size w W1 := by rw [← hW1]; exact (Below.refl _ w).alloc (Nat.le_refl _) _
  have call : ∀ n wx, inR n → Below W1.heap.size W1 wx → Calls Tryz.prog 58 #[.int .i64 n] wx fun e w' => e = .returned (.string (nb n)) ∧ Below W1.heap.size W1 w' := by
    intro n wx hn hx
    refine (c1 n wx hn).mono ?_
    rintro e w' ⟨rfl, b⟩
    exact ⟨rfl, hx.trans (b.mono hx.size)⟩
  have call2 : ∀ wx, Below W1.heap.size W1 wx → Calls Tryz.prog 81 #[.bool o.has] wx fun e w' => e = .returned (.string (tb o.has)) ∧ Below W1.heap.size W1 w' := by
    intro wx hx
    refine (c2 wx).mono ?_
    rintro e w' ⟨rfl, rfl⟩
    exact ⟨rfl, hx⟩
  have hI1 := h.r.kind
  have hI2 := h.r.client
  have hI3 := h.r.seq
  have hI4 := h.r.lim
  have hI5 := h.r.id
  have hI6 := h.r.node
  have hbox : ∀ wx, Below W1.heap.size W1 wx → BoxA w.heap.size o wx := fun wx hx => BoxA.kept (N := W1.heap.size) B0 (by omega) hx
  go_enter Tryz.func30, Tryz.ntmps30
  go_wp2
  try rw [hW1]
  refine St.wp_region_tail 29 (fun _ wx => Below W1.heap.size W1 wx) (by kernel_rfl) (by kernel_rfl) (by kernel_rfl) (by kernel_rfl) (by decide) (Below.refl _ _).drew ?_
  simp only [List.take, List.drop]
  repeat (first
    | (apply St.step_give
       · rfl
       · intro L wx hS hcl hrd
         obtain ⟨_, ⟨d0, d1, d2, d3, d4, d5, d6, d7, d8, d9, d10⟩, _⟩ := hbox wx hS
         go_simp
         try with_reducible rfl
       · exact fun L wx hS => hS
       simp only [Act.put, List.setIfInBounds_toArray, List.set_cons_zero, List.set_cons_succ])
    | (apply St.step_into
       · rfl
       · intro wx
         go_simp
         exact ⟨rfl, rfl⟩
       · first
         | exact fun L wx hS hcl hrd => call2 wx hS
         | exact fun L wx hS hcl hrd => call _ wx (by first | exact hI1 | exact hI2 | exact hI3 | exact hI4 | exact hI5 | exact hI6) hS
       simp only [Act.put, List.setIfInBounds_toArray, List.set_cons_zero, List.set_cons_succ]))
  refine St.step_last ?_
  intro L wx hS _
  clear hI1 hI2 hI3 hI4 hI5 hI6 call call2
  have hz : W1.heap.size ≤ wx.heap.size := hS.size
  have hown0 := own_new wx W1.heap.size (strS o) hz (by simp [strS])
  have hsl := SL.of_own hown0
  have ct := (rtie_any _ (strS o) _ hsl hfew).mono (R' := fun e w2 => e = .returned (str (M.tieT (texts (strS o)))) ∧ Below (wx.alloc (.cells #[.string (nb o.kind), .string (nb o.client), .string (nb o.seq), .string o.key, .string o.til, .string o.val, .string o.old, .string (tb o.has), .string (nb o.lim), .string (nb o.id), .string (nb o.node)] 9)).heap.size (wx.alloc (.cells #[.string (nb o.kind), .string (nb o.client), .string (nb o.seq), .string o.key, .string o.til, .string o.val, .string o.old, .string (tb o.has), .string (nb o.lim), .string (nb o.id), .string (nb o.node)] 9)) w2) fun e w2 h => ⟨h.1, h.2 ▸ Below.refl _ _⟩
  rw [HT.out] at ct
  have hS1 := hS.alloc hz (.cells #[.string (nb o.kind), .string (nb o.client), .string (nb o.seq), .string o.key, .string o.til, .string o.val, .string o.old, .string (tb o.has), .string (nb o.lim), .string (nb o.id), .string (nb o.node)] 9)
  have ct2 : Calls Tryz.prog 80 #[.slice (some ⟨wx.heap.size, 0, none⟩) 11 11] (wx.alloc (.cells #[.string (nb o.kind), .string (nb o.client), .string (nb o.seq), .string o.key, .string o.til, .string o.val, .string o.old, .string (tb o.has), .string (nb o.lim), .string (nb o.id), .string (nb o.node)] 9)) fun e w' => e = .returned (str (putA o)) ∧ Below W1.heap.size W1 w' := by
    refine ct.mono ?_
    rintro e w' ⟨rfl, b⟩
    exact ⟨rfl, hS1.trans (b.mono hS1.size)⟩
  clear hown0 hW1 hsl ct hS1 hS hfew hbox
  go_wp2_with fail
  refine ct2.mono ?_
  rintro e w2 ⟨rfl, b2⟩
  go_wp2_with fail
  go_ret
  exact ⟨rfl, hbw1.trans (b2.mono (by omega))⟩
end Go.Proofs.YtlcobgpgggegdaaGreatDoor.Od

namespace Go.Proofs.YtlcobgpgggegdaaGreatDoor.Mb
open Go.RowKit Bnd
open Go.Proofs.YtlcobgpgggegdaaGreatDoor.Ds (De SM ArgM dv BoxD)
open Go.Proofs.YtlcobgpgggegdaaGreatDoor.Dp (SI Ph HA qv isP)
open Go.Proofs.YtlcobgpgggegdaaGreatDoor.Od (av putA)
open Go.Proofs.YtlcobgpgggegdaaGreatDoor.Ro (SE)

theorem three_any (w : World) : Calls Tryz.prog 64 #[] w (GaveX w dT) := by
  go_enter Tryz.func64, Tryz.ntmps64
  go_wp2_with fail
  refine bodyPost_ret (Ds.res_box Tryz.results64 rfl ((BoxD.new w dT (.slice (some ⟨w.heap.size + 1, 0, none⟩) 3 3)).alloc _)) rfl ⟨_, rfl, .some (w.heap.size + 1) 0 3 dT.ms ⟨_, _, rfl, fun _ => ⟨w.heap.size + 1, 0, rfl, by simp, fun i hi => ?_⟩⟩, (by (repeat' (first | with_reducible assumption | with_reducible exact Below.refl _ _ | with_reducible refine Below.alloc ?_ ?_ _ | with_reducible refine Below.setCell ?_ ?_ _ | with_reducible refine Below.drew ?_ | omega | (simp; done) | (simp; omega))))⟩
  have hi3 : i < 3 := hi
  match i, hi3 with
  | 0, _ => exact ⟨by simp [go_sem, dT], by simp [go_sem, dT]⟩
  | 1, _ => exact ⟨by simp [go_sem, dT], by simp [go_sem, dT]⟩
  | 2, _ => exact ⟨by simp [go_sem, dT], by simp [go_sem, dT]⟩
def phT (s : Value) : Ph := ⟨dT, s, [], .slice none 0 0, [], .slice none 0 0, false, [], .slice none 0 0, 0⟩
theorem phT_ha {w : World} {s : Value} (h : ArgM w s dT.ms) : HA w (phT s) := ⟨h, .nil, .nil, (fun z hz => by cases hz), .nil, Dp.Room.nil, Dp.Room.nil⟩
theorem pT_is : isP pT = true := by kernel_rfl
theorem fit_oA : Od.FitA oA := ⟨in_oA, by decide, by decide, by decide, by decide⟩
theorem se_two {W : World} {n : Nat} {T : ByteArray} (hn : n < W.heap.size) (h0 : W.cell? ⟨n, 0, none⟩ = some (.int .i64 0)) (h1 : W.cell? ⟨n, 1, none⟩ = some (.string ⟨#[120]⟩)) (h2 : W.cell? ⟨n, 2, none⟩ = some (.int .i64 0)) (h3 : W.cell? ⟨n, 3, none⟩ = some (.string T)) :
    SE W W.heap.size (.slice (some ⟨n, 0, none⟩) 2 2) [(0, ⟨#[120]⟩), (0, T)] := by
  refine ⟨_, _, rfl, fun _ => ⟨n, 0, rfl, hn, fun i hi => ?_⟩⟩
  have hi2 : i < 2 := hi
  match i, hi2 with
  | 0, _ => exact ⟨h0, h1⟩
  | 1, _ => exact ⟨h2, h3⟩
theorem si_three {W : World} {n : Nat} {a b c : Int} (hn : n < W.heap.size) (h0 : W.cell? ⟨n, 0, none⟩ = some (.int .i64 a)) (h1 : W.cell? ⟨n, 1, none⟩ = some (.int .i64 b)) (h2 : W.cell? ⟨n, 2, none⟩ = some (.int .i64 c)) :
    SI W W.heap.size (.slice (some ⟨n, 0, none⟩) 3 3) [a, b, c] := by
  refine ⟨_, _, rfl, fun _ => ⟨n, 0, rfl, hn, fun i hi => ?_⟩⟩
  have hi3 : i < 3 := hi
  match i, hi3 with
  | 0, _ => exact h0
  | 1, _ => exact h1
  | 2, _ => exact h2
set_option maxHeartbeats 16000000 in
set_option maxRecDepth 100000 in
theorem live_any (w : World) (hg : Good w) : Calls Tryz.prog 17 #[] w fun e w' => e = .returned (.bool true) ∧ Below w.heap.size w w' := by
  obtain ⟨T, hT⟩ : ∃ T : ByteArray, T = ⟨(putA oA).toArray⟩ := ⟨_, rfl⟩
  have hlen : (putA oA).length ≤ 500 := by
    have := Od.putA_length fit_oA
    have e : (oA.key.size, oA.til.size, oA.val.size, oA.old.size) = (1, 0, 0, 0) := rfl
    injection e with e1 e2
    injection e2 with e2 e3
    injection e3 with e3 e4
    omega
  have hTs : T.size ≤ 500 := by rw [hT]; simp [ByteArray.size]; exact hlen
  have cT := three_any
  have cP : ∀ w, Calls Tryz.prog 30 #[.agg #[.int .i64 10, .int .i64 1, .int .i64 1, .string ⟨#[107]⟩, .string ⟨#[]⟩, .string ⟨#[]⟩, .string ⟨#[]⟩, .bool false, .int .i64 0, .int .i64 0, .int .i64 4]] w fun e w' => e = .returned (.string T) ∧ Below w.heap.size w w' := fun w => by
    rw [hT]
    exact Od.rput_any oA w fit_oA
  have cO : ∀ s v w', ArgM w' s dT.ms → SE w' w'.heap.size v [(0, ⟨#[120]⟩), (0, T)] → Good w' → Calls Tryz.prog 19 #[dv dT s, v] w' (GaveX w' dF) := fun s v w' h1 h2 h3 => by
    have := of_any dT s v [(0, ⟨#[120]⟩), (0, T)] w' h1 dT_is h2 (by simp) (fun e he => by
      simp only [List.mem_cons, List.not_mem_nil, or_false] at he
      rcases he with rfl | rfl
      · show (1 : Nat) ≤ _; omega
      · show T.size ≤ _; omega) h3
    rw [hT, live_of rfl (by omega)] at this
    exact this
  have cG : ∀ v w', SI w' w'.heap.size v [5, 9, 7] → Calls Tryz.prog 25 #[v] w' fun e w'' => e = .returned (.int .i64 7) ∧ Below w'.heap.size w' w'' := fun v w' h => by
    have := agreed_any v [5, 9, 7] w' h (by simp) (by decide)
    rw [live_ag] at this
    exact this
  have cC : ∀ s v w', ArgM w' s dF.ms → SI w' w'.heap.size v [2, 4, 9] → Calls Tryz.prog 27 #[dv dF s, v] w' fun e w'' => e = .returned (.int .i64 2) ∧ Below w'.heap.size w' w'' := fun s v w' h1 h2 => by
    have := count_any dF s v [2, 4, 9] w' h1.sm (by decide) h2 (by simp)
    rw [live_count] at this
    exact this
  have cM : ∀ s w', ArgM w' s dT.ms → Good w' → Calls Tryz.prog 23 #[qv (phT s), .agg #[.int .i64 11, .int .i64 1, .int .i64 1, .string ⟨#[107]⟩, .string ⟨#[]⟩, .string ⟨#[]⟩, .string ⟨#[]⟩, .bool false, .int .i64 0, .int .i64 2, .int .i64 0]] w' fun e w'' => e = .returned (.bool true) ∧ Below w'.heap.size w' w'' := fun s w' h h2 => by
    have := may_any (phT s) oR w' (phT_ha h) pT_is (by decide) (by decide) (by decide) h2
    rw [show Pt.mayP (phT s).pl oR = true from live_may] at this
    exact this
  clear hT hTs hlen
  go_enter Tryz.func17, Tryz.ntmps17
  go_wp2_with fail
  refine (cT _).mono ?_
  rintro e w1 ⟨s1, rfl, ha1, b1⟩
  obtain ⟨A1, c1, rfl⟩ := ha1.form
  go_wp2_with fail
  refine (cP _).mono ?_
  rintro e w2 ⟨rfl, b2⟩
  have hb2 := b1.trans (b2.mono b1.size)
  have ha2 := ha1.keep b2
  clear ha1 b1 b2 cP
  go_wp2_with fail
  have hx : Below w2.heap.size w2 (w2.alloc (.cells #[.int .i64 0, .string ⟨#[120]⟩, .int .i64 0, .string T] 51)) := (Below.refl _ w2).alloc (Nat.le_refl _) _
  refine (cO _ _ _ (ha2.keep hx) (se_two (by simp) (by simp [go_sem]) (by simp [go_sem]) (by simp [go_sem]) (by simp [go_sem])) (hg.below (hb2.trans (hx.mono hb2.size)))).mono ?_
  rintro e w3 ⟨s3, rfl, ha3, b3⟩
  obtain ⟨A3, c3, hs3⟩ := ha3.form
  rw [show dF.ms.length = 4 from rfl] at hs3
  subst hs3
  have hb3 : Below w.heap.size w w3 := hb2.trans ((hx.trans (b3.mono (by simp))).mono hb2.size)
  have B1 := BoxD.new w3 dF (.slice A3 4 c3)
  have h34 : Below w3.heap.size w3 (w3.alloc (.cells #[.int .i64 dF.id, .string dF.f, .string dF.t, .int .i64 dF.gen, .slice A3 4 c3, .int .i64 dF.next] 26)) := (Below.refl _ w3).alloc (Nat.le_refl _) _
  obtain ⟨W4, hW4⟩ : ∃ W4, w3.alloc (.cells #[.int .i64 dF.id, .string dF.f, .string dF.t, .int .i64 dF.gen, .slice A3 4 c3, .int .i64 dF.next] 26) = W4 := ⟨_, rfl⟩
  rw [hW4] at B1 h34
  have hb4 := hb3.trans (h34.mono hb3.size)
  have ha4 := ha3.keep h34
  clear ha2 ha3 hx b3 hb2 hb3 h34 cO
  go_wp2_with fail
  try rw [hW4]
  clear hW4
  go_wp2_with fail
  have hx1 : Below W4.heap.size W4 (W4.alloc (.cells #[.int .i64 5, .int .i64 9, .int .i64 7] 2)) := (Below.refl _ W4).alloc (Nat.le_refl _) _
  refine (cG _ _ (si_three (by simp) (by simp [go_sem]) (by simp [go_sem]) (by simp [go_sem]))).mono ?_
  rintro e w5 ⟨rfl, b5⟩
  have h45 := hx1.trans (b5.mono hx1.size)
  have B5 := B1.keep h45
  have hb5 := hb4.trans (h45.mono hb4.size)
  have ha5 := ha4.keep h45
  clear b5 hx1 B1 hb4 ha4 h45 cG
  obtain ⟨q_0, ⟨q_1, q_2, q_3, q_4, q_5, q_6⟩, q_7⟩ := _root_.id B5
  simp only [dF] at q_1 q_2 q_3 q_4 q_6
  go_wp2_with fail
  have hx2 : Below w5.heap.size w5 (w5.alloc (.cells #[.int .i64 2, .int .i64 4, .int .i64 9] 2)) := (Below.refl _ w5).alloc (Nat.le_refl _) _
  refine (cC _ _ _ (ha5.keep hx2) (si_three (by simp) (by simp [go_sem]) (by simp [go_sem]) (by simp [go_sem]))).mono ?_
  rintro e w6 ⟨rfl, b6⟩
  have h56 := hx2.trans (b6.mono hx2.size)
  have hb6 := hb5.trans (h56.mono hb5.size)
  clear b6 hx2 B5 hb5 ha5 h56 cC q_0 q_1 q_2 q_3 q_4 q_5 q_6 q_7
  go_wp2_with fail
  refine (cT _).mono ?_
  rintro e w7 ⟨s7, rfl, ha7, b7⟩
  obtain ⟨A7, c7, rfl⟩ := ha7.form
  have hb7 := hb6.trans (b7.mono hb6.size)
  have cM7 := cM _ _ ha7 (hg.below hb7)
  clear b7 hb6 cT cM hg
  go_wp2_with fail
  refine cM7.mono ?_
  rintro e w8 ⟨rfl, b8⟩
  have hb8 := hb7.trans (b8.mono hb7.size)
  clear b8 hb7 cM7
  go_wp2_with fail
  go_ret
  exact ⟨rfl, hb8⟩
end Go.Proofs.YtlcobgpgggegdaaGreatDoor.Mb

namespace Go.Proofs.YtlcobgpgggegdaaGreatDoor.Mb
open Go.RowKit Bnd
open Go.Proofs.YtlcobgpgggegdaaGreatDoor.Ds (De SM ArgM dv BoxD)
open Go.Proofs.YtlcobgpgggegdaaGreatDoor.Dp (SI)

set_option maxHeartbeats 4000000 in
set_option maxRecDepth 100000 in
theorem rin_any (v : Value) (ns : List Int) (x : Int) (w : World) (hv : SI w w.heap.size v ns) (hl : ns.length ≤ 140737488355328) :
    Calls Tryz.prog 29 #[v, .int .i64 x] w fun e w' => e = .returned (.bool (decide (x ∈ ns))) ∧ w = w' := by
  obtain ⟨A, c, rfl⟩ := hv.form
  obtain ⟨N, hN⟩ : ∃ N, ns.length = N := ⟨_, rfl⟩
  have HN := Lib.hid hN
  have HV := Lib.hid hv
  rw [hN] at hl ⊢
  obtain ⟨r, hR⟩ : ∃ r, decide (x ∈ ns) = r := ⟨_, rfl⟩
  rw [hR]
  have HR := Lib.hid hR
  clear hN hv hR
  go_enter Tryz.func29, Tryz.ntmps29
  go_wp2_with fail
  go_loopw [5] (fun vi wr => ∃ k : Nat, k ≤ N ∧ vi = .int .i64 (k : Int) ∧ Hid (decide (x ∈ ns.drop k) = r) ∧ wr = w) (fun vi _ => N - (intOf vi).toNat)
  case atStart => exact ⟨0, Nat.zero_le _, rfl, Lib.hid (by simpa using HR.out), rfl⟩
  case round =>
    obtain ⟨k, hk, rfl, HG, rfl⟩ := hrel
    by_cases hlt : k < N
    · have hkx : k < ns.length := by rw [HN.out]; exact hlt
      have hv1 := HV.out
      rw [HN.out] at hv1
      obtain ⟨b, o, rfl, hb, q⟩ := hv1.at_ hkx
      have hg := HG.out
      rw [List.drop_eq_getElem_cons hkx] at hg
      obtain ⟨y, hy⟩ : ∃ y, ns[k] = y := ⟨_, rfl⟩
      rw [hy] at q hg
      have k0 : (0 ≤ (k : Int)) = True := eq_true (by omega)
      have k1 : ((k : Int) < (N : Int)) = True := eq_true (by omega)
      clear hv1 hy hkx
      by_cases h1 : y = x
      · have l1 : (y == x) = true := by simpa using h1
        have l2 : (y = x) = True := eq_true h1
        have HG2 : Hid (r = true) := Lib.hid (by rw [← hg]; simp [h1])
        clear hg h1
        go_wp2_with fail
        go_ret
        exact ⟨by rw [HG2.out]; rfl, rfl⟩
      · have l1 : (y == x) = false := by simpa using h1
        have l2 : (y = x) = False := eq_false h1
        have HG2 : Hid (decide (x ∈ ns.drop (k + 1)) = r) := Lib.hid (by rw [← hg]; simp [Ne.symm h1])
        clear hg h1
        go_wp2_with fail
        go_roundw
        case rel => exact ⟨k + 1, by omega, by go_num, HG2, by trivial⟩
        case measure => simp [intOf]; omega
    · obtain rfl : k = N := by omega
      have hg := HG.out
      rw [List.drop_of_length_le (by have := HN.out; omega)] at hg
      have HG2 : Hid (r = false) := Lib.hid (by rw [← hg]; simp)
      clear hg
      go_wp2_with fail
      go_ret
      exact ⟨by rw [HG2.out]; rfl, rfl⟩


set_option maxHeartbeats 16000000 in
set_option maxRecDepth 100000 in
theorem rcount_any (d : De) (s v : Value) (ns : List Int) (w : World) (hs : SM w w.heap.size s d.ms) (hn : d.ms.length ≤ 1000) (hv : SI w w.heap.size v ns) (hl : ns.length ≤ 140737488355328) :
    Calls Tryz.prog 28 #[dv d s, v] w fun e w' => e = .returned (.int .i64 (countM d.ms ns : Nat)) ∧ Below w.heap.size w w' := by
  obtain ⟨A, c, rfl⟩ := hs.form
  obtain ⟨V, cv, rfl⟩ := hv.form
  obtain ⟨W0, hW0⟩ : ∃ W0, w.alloc (.cells #[.int .i64 d.id, .string d.f, .string d.t, .int .i64 d.gen, .slice A d.ms.length c, .int .i64 d.next] 26) = W0 := ⟨_, rfl⟩
  have hb0 : Below w.heap.size w W0 := hW0 ▸ (by (repeat' (first | with_reducible assumption | with_reducible exact Below.refl _ _ | with_reducible refine Below.alloc ?_ ?_ _ | with_reducible refine Below.setCell ?_ ?_ _ | with_reducible refine Below.drew ?_ | omega | (simp; done) | (simp; omega))))
  have BD : BoxD w.heap.size d (.slice A d.ms.length c) W0 := hW0 ▸ BoxD.new w d (.slice A d.ms.length c)
  have cA := fun x => rin_any (.slice V ns.length cv) ns x W0 ((hv.below hb0).more hb0.size) hl
  obtain ⟨nm, hnm⟩ : ∃ n, d.ms.length = n := ⟨_, rfl⟩
  obtain ⟨nn, hnn⟩ : ∃ n, ns.length = n := ⟨_, rfl⟩
  have HNM := Lib.hid hnm
  have HS := Lib.hid hs
  rw [hnm] at hn BD HS hW0 ⊢
  rw [hnn] at cA ⊢
  clear hs hv hl hnm hnn
  obtain ⟨p_0, ⟨p_1, p_2, p_3, p_4, p_5, p_6⟩, p_7⟩ := id BD
  go_enter Tryz.func28, Tryz.ntmps28
  go_wp2_with fail
  try rw [hW0]
  clear hW0
  go_loopw [5, 6] (fun vn vi wr => ∃ k : Nat, k ≤ nm ∧ vi = .int .i64 (k : Int) ∧ vn = .int .i64 (countM (d.ms.take k) ns : Nat) ∧ wr = W0) (fun _ vi _ => nm - (intOf vi).toNat)
  case atStart => exact ⟨0, Nat.zero_le _, rfl, rfl, rfl⟩
  case round =>
    obtain ⟨k, hk, rfl, rfl, rfl⟩ := hrel
    by_cases hlt : k < nm
    · have hkl : k < d.ms.length := by rw [HNM.out]; exact hlt
      have hct := countM_take (ids := ns) hkl
      obtain ⟨b, o, hA, hb, q0, q1⟩ := HS.out.at_ hkl
      have g0 := (hb0.cell (p := ⟨b, o + k * 2, none⟩) hb).trans q0
      have g1 := (hb0.cell (p := ⟨b, o + k * 2 + 1, none⟩) hb).trans q1
      obtain ⟨⟨m1, m2⟩, hm⟩ : ∃ m, d.ms[k] = m := ⟨_, rfl⟩
      rw [hm] at g0 g1 hct
      simp only at g0 g1 hct
      have hle := countM_take_le d.ms ns k
      obtain ⟨cnt, hcnt⟩ : ∃ n, countM (d.ms.take k) ns = n := ⟨_, rfl⟩
      rw [hcnt] at hct hle ⊢
      have HCT := Lib.hid hct
      have k0 : (0 ≤ (k : Int)) = True := eq_true (by omega)
      have k1 : ((k : Int) < (nm : Int)) = True := eq_true (by omega)
      have hwrap : IntKind.i64.wrap ((cnt : Int) + 1) = (cnt : Int) + 1 := by rw [IntKind.wrap_i64]; omega
      have cA1 := cA m2
      obtain ⟨R, hR⟩ : ∃ r, decide (m2 ∈ ns) = r := ⟨_, rfl⟩
      rw [hR] at cA1 HCT
      clear hct hcnt hm q0 q1 hkl hR
      subst hA
      go_wp2_with fail
      refine cA1.mono ?_
      rintro e' w2 ⟨rfl, hw2⟩
      subst hw2
      clear cA1 g0 g1
      cases R with
      | true =>
        go_wp2_with fail
        go_roundw
        case rel => exact ⟨k + 1, by omega, by go_num, by rw [HCT.out]; go_num, by trivial⟩
        case measure => simp [intOf]; omega
      | false =>
        go_wp2_with fail
        go_roundw
        case rel => exact ⟨k + 1, by omega, by go_num, by rw [HCT.out]; simp, by trivial⟩
        case measure => simp [intOf]; omega
    · obtain rfl : k = nm := by omega
      have htk : d.ms.take k = d.ms := by rw [← HNM.out]; exact List.take_length
      rw [htk]
      clear hlt
      go_wp2_with fail
      go_ret
      exact ⟨rfl, hb0⟩

theorem reach_take {l : List Int} {y : Int} {k : Nat} (h : k < l.length) : reach (l.take (k + 1)) y = reach (l.take k) y + (if y ≤ l[k] then 1 else 0) := by
  unfold reach
  rw [List.take_succ_eq_append_getElem h, List.countP_append, List.countP_singleton]
  by_cases hm : y ≤ l[k] <;> simp [hm]
theorem reach_take_le (l : List Int) (y : Int) (k : Nat) : reach (l.take k) y ≤ k := by
  have := List.countP_le_length (p := fun x => decide (y ≤ x)) (l := l.take k)
  rw [List.length_take] at this
  unfold reach
  omega
set_option maxHeartbeats 16000000 in
set_option maxRecDepth 100000 in
theorem ragreed_any (v : Value) (ns : List Int) (w : World) (hv : SI w w.heap.size v ns) (hl : ns.length ≤ 1000000) :
    Calls Tryz.prog 26 #[v] w fun e w' => e = .returned (.int .i64 (agL ns)) ∧ Below w.heap.size w w' := by
  obtain ⟨A, c, rfl⟩ := hv.form
  by_cases h0 : ns.length = 0
  · have : ns = [] := List.eq_nil_of_length_eq_zero h0
    subst this
    simp only [List.length_nil]
    rw [show agL [] = 0 from rfl]
    clear hv hl h0
    go_enter Tryz.func26, Tryz.ntmps26
    go_wp2_with fail
    go_ret
    exact ⟨rfl, (by (repeat' (first | with_reducible assumption | with_reducible exact Below.refl _ _ | with_reducible refine Below.alloc ?_ ?_ _ | with_reducible refine Below.setCell ?_ ?_ _ | with_reducible refine Below.drew ?_ | omega | (simp; done) | (simp; omega))))⟩
  · have hag : agL ns = best ns (-9223372036854775808) (ns.drop 0) := by
      unfold agL
      rw [if_neg (by rintro rfl; exact h0 rfl), List.drop_zero]
    obtain ⟨R, hR⟩ : ∃ r, agL ns = r := ⟨_, rfl⟩
    rw [hR] at hag ⊢
    have HAG := Lib.hid hag.symm
    obtain ⟨N, hN⟩ : ∃ n, ns.length = n := ⟨_, rfl⟩
    have HN := Lib.hid hN
    have HV := Lib.hid hv
    rw [hN] at hl h0 HV ⊢
    have n1 : ((N : Int) == 0) = false := by rw [beq_eq_false_iff_ne]; omega
    have n2 : ((N : Int) = 0) = False := eq_false (by omega)
    clear hv hag hR hN h0
    go_enter Tryz.func26, Tryz.ntmps26
    go_wp2_with fail
    go_loopw [3, 4, 5, 6] (fun vb vi _ _ wr => ∃ (i : Nat) (bst : Int), i ≤ N ∧ vi = .int .i64 (i : Int) ∧ vb = .int .i64 bst ∧ Hid (best ns bst (ns.drop i) = R) ∧ Below w.heap.size w wr) (fun _ vi _ _ _ => N - (intOf vi).toNat)
    case atStart => exact ⟨0, -9223372036854775808, Nat.zero_le _, rfl, rfl, HAG, Below.refl _ _⟩
    case round =>
      obtain ⟨i, bst, hi, rfl, rfl, HB, hbw⟩ := hrel
      by_cases hlt : i < N
      · have hil : i < ns.length := by rw [HN.out]; exact hlt
        obtain ⟨b, o, hA, hb, q⟩ := HV.out.at_ hil
        have hbest : best ns (if ns.length < 2 * reach ns ns[i] then max bst ns[i] else bst) (ns.drop (i + 1)) = R := by
          rw [← HB.out, List.drop_eq_getElem_cons hil]; rfl
        obtain ⟨y, hy⟩ : ∃ y, ns[i] = y := ⟨_, rfl⟩
        rw [hy] at q hbest
        rw [HN.out] at hbest
        have HBE := Lib.hid hbest
        have i0 : (0 ≤ (i : Int)) = True := eq_true (by omega)
        have i1 : ((i : Int) < (N : Int)) = True := eq_true (by omega)
        clear hbest hy hil HB
        subst hA
        go_wp2_with fail
        revert wr
        intro wo hbw
        have hbo : b < wo.heap.size := by have := hbw.size; omega
        go_loopw [5, 6] (fun vk vj wr => ∃ j : Nat, j ≤ N ∧ vj = .int .i64 (j : Int) ∧ vk = .int .i64 (reach (ns.take j) y : Nat) ∧ Below wo.heap.size wo wr) (fun _ vj _ => N - (intOf vj).toNat)
        case atStart => exact ⟨0, Nat.zero_le _, rfl, rfl, Below.refl _ _⟩
        case round =>
          obtain ⟨j, hj, rfl, rfl, hbj⟩ := hrel
          have hbw2 := hbw.trans (hbj.mono hbw.size)
          by_cases hlj : j < N
          · have hjl : j < ns.length := by rw [HN.out]; exact hlj
            obtain ⟨b2, o2, hA2, hb2, q2⟩ := HV.out.at_ hjl
            have hrt := reach_take (y := y) hjl
            have hle := reach_take_le ns y j
            obtain ⟨x, hx⟩ : ∃ x, ns[j] = x := ⟨_, rfl⟩
            rw [hx] at q2 hrt
            have g1 := (hbw2.cell (p := ⟨b2, o2 + j, none⟩) hb2).trans q2
            have g2 := (hbw2.cell (p := ⟨b, o + i, none⟩) hb).trans q
            cases hA2
            obtain ⟨cnt, hcnt⟩ : ∃ n, reach (ns.take j) y = n := ⟨_, rfl⟩
            rw [hcnt] at hrt hle ⊢
            obtain ⟨D, hD⟩ : ∃ D, decide (y ≤ x) = D := ⟨_, rfl⟩
            have hrt2 : reach (ns.take (j + 1)) y = cnt + (if D = true then 1 else 0) := by rw [hrt, ← hD]; by_cases h : y ≤ x <;> simp [h]
            have HRT := Lib.hid hrt2
            have j0 : (0 ≤ (j : Int)) = True := eq_true (by omega)
            have j1 : ((j : Int) < (N : Int)) = True := eq_true (by omega)
            have hwrap : IntKind.i64.wrap ((cnt : Int) + 1) = (cnt : Int) + 1 := by rw [IntKind.wrap_i64]; omega
            clear hrt hrt2 hcnt hx hjl q2
            go_wp2_with fail
            refine St.wp_region_stage (fun _ wx => wx = wr.drew) (by kernel_rfl) (by kernel_rfl) (by kernel_rfl) rfl ?_
            repeat (first
              | (apply St.step_give
                 · rfl
                 · rintro L wx rfl hcl hrd
                   go_simp
                   try with_reducible rfl
                 · exact fun L wx hS => hS
                 simp only [Act.put, List.setIfInBounds_toArray, List.set_cons_zero, List.set_cons_succ]))
            refine St.step_last ?_
            rintro L wx rfl _
            have hbd : Below wo.heap.size wo wr.drew := hbj.drew
            clear hD
            cases D with
            | true =>
              go_wp2_with fail
              go_roundw
              case rel => exact ⟨j + 1, by omega, by go_num, by rw [HRT.out]; go_num, hbd⟩
              case measure => simp [intOf]; omega
            | false =>
              go_wp2_with fail
              go_roundw
              case rel => exact ⟨j + 1, by omega, by go_num, by rw [HRT.out]; simp, hbd⟩
              case measure => simp [intOf]; omega
          · obtain rfl : j = N := by omega
            have htk : ns.take j = ns := by rw [← HN.out]; exact List.take_length
            have hle := reach_take_le ns y j
            rw [htk] at hle ⊢
            obtain ⟨cnt, hcnt⟩ : ∃ n, reach ns y = n := ⟨_, rfl⟩
            have hbe := HBE.out
            rw [hcnt] at hbe hle ⊢
            have hw2 : IntKind.i64.wrap (2 * (cnt : Int)) = 2 * (cnt : Int) := by rw [IntKind.wrap_i64]; omega
            have g2 := (hbw2.cell (p := ⟨b, o + i, none⟩) hb).trans q
            have hbo2 : b < wr.heap.size := by have := hbj.size; omega
            clear hcnt htk hlj HBE
            by_cases hm : j < 2 * cnt
            · rw [if_pos hm] at hbe
              have m1 : ((j : Int) < 2 * (cnt : Int)) = True := eq_true (by omega)
              have m2 : (2 * (cnt : Int) > (j : Int)) = True := eq_true (by omega)
              by_cases hmx : bst ≤ y
              · rw [show max bst y = y by omega] at hbe
                have HBX := Lib.hid hbe
                clear hbe hm
                go_wp2_with fail
                all_goals
                  first
                  | (exfalso; omega)
                  | (go_roundw
                     case rel => exact ⟨i + 1, y, by omega, by go_num, (by first | rfl | (congr 1; omega)), HBX, hbw2⟩
                     case measure => simp [intOf]; omega)
              · rw [show max bst y = bst by omega] at hbe
                have HBX := Lib.hid hbe
                clear hbe hm
                go_wp2_with fail
                all_goals
                  first
                  | (exfalso; omega)
                  | (go_roundw
                     case rel => exact ⟨i + 1, bst, by omega, by go_num, (by first | rfl | (congr 1; omega)), HBX, hbw2⟩
                     case measure => simp [intOf]; omega)
            · rw [if_neg hm] at hbe
              have m1 : ((j : Int) < 2 * (cnt : Int)) = False := eq_false (by omega)
              have m2 : (2 * (cnt : Int) > (j : Int)) = False := eq_false (by omega)
              have HBX := Lib.hid hbe
              clear hbe hm
              go_wp2_with fail
              go_roundw
              case rel => exact ⟨i + 1, bst, by omega, by go_num, rfl, HBX, hbw2⟩
              case measure => simp [intOf]; omega
      · obtain rfl : i = N := by omega
        have hfin : bst = R := by
          rw [← HB.out, List.drop_of_length_le (by have := HN.out; omega)]; rfl
        subst hfin
        clear hlt HB
        go_wp2_with fail
        go_ret
        exact ⟨rfl, hbw⟩
end Go.Proofs.YtlcobgpgggegdaaGreatDoor.Mb

namespace Go.Proofs.YtlcobgpgggegdaaGreatDoor.Ds
open Go.RowKit Bnd
open Go.Proofs.YtlcobgpgggegdaaGreatDoor.O (Bd isB keyB hasB nextB)

theorem rid_any (n : Int) (w : World) : Calls Tryz.prog 62 #[.int .i64 n] w fun e w' => e = .returned (.bool (idB n)) ∧ w = w' := by
  by_cases h1 : 1 ≤ n
  · by_cases h2 : n ≤ 1099511627776
    · have hv : idB n = true := (idB_iff n).2 ⟨h1, h2⟩
      have e1 : (n ≥ 1) = True := eq_true (by omega)
      have e2 : (n ≤ 1099511627776) = True := eq_true h2
      rw [hv]
      clear hv h1 h2
      go_enter Tryz.func62, Tryz.ntmps62
      go_wp2
      go_ret
      exact ⟨rfl, rfl⟩
    · have hv : idB n = false := by simp only [idB, decide_eq_false_iff_not]; omega
      have e1 : (n ≥ 1) = True := eq_true (by omega)
      have e2 : (n ≤ 1099511627776) = False := eq_false h2
      rw [hv]
      clear hv h1 h2
      go_enter Tryz.func62, Tryz.ntmps62
      go_wp2
      go_ret
      exact ⟨rfl, rfl⟩
  · have hv : idB n = false := by simp only [idB, decide_eq_false_iff_not]; omega
    have e1 : (n ≥ 1) = False := eq_false (by omega)
    rw [hv]
    clear hv h1
    go_enter Tryz.func62, Tryz.ntmps62
    go_wp2
    go_ret
    exact ⟨rfl, rfl⟩

/-- what the document asks of the member at place j -/
structure OkAt (next : Int) (ms : List Mem) (j : Nat) (h : j < ms.length) : Prop where
  n1 : 1 ≤ ms[j].1
  n7 : ms[j].1 ≤ 7
  i1 : 1 ≤ ms[j].2
  ix : ms[j].2 < next
  up : ∀ i (hi : i < j), i + 1 = j → (ms[i]'(by omega)).2 < ms[j].2
  ne : ∀ i (hi : i < j), (ms[i]'(by omega)).1 ≠ ms[j].1
/-- the number ahead of place k is below y -/
def PrevOk (ms : List Mem) (k : Nat) (y : Int) : Prop := ∀ i (h : i < ms.length), i + 1 = k → ms[i].2 < y
theorem ups {next : Int} {ms : List Mem} (h : ∀ j (hj : j < ms.length), OkAt next ms j hj) : ∀ j (hj : j < ms.length) i (hi : i < j), (ms[i]'(by omega)).2 < ms[j].2
  | j + 1, hj, i, hi => by
    rcases Nat.lt_succ_iff_lt_or_eq.1 hi with h1 | rfl
    · have := ups h j (by omega) i h1
      have := (h (j + 1) hj).up j (by omega) rfl
      omega
    · exact (h (i + 1) hj).up i (by omega) rfl
theorem mayGo_at (next : Int) (ms : List Mem) : mayGo next 0 [] ms = true ↔ ∀ j (hj : j < ms.length), OkAt next ms j hj := by
  rw [mayGo_iff]
  constructor
  · rintro ⟨h1, h2, h3⟩ j hj
    obtain ⟨a1, _, a3, a4⟩ := h1 _ (List.getElem_mem hj)
    obtain ⟨b1, b2⟩ := (nodeB_iff _).1 a1
    refine ⟨b1, b2, by omega, a4, fun i hi _ => List.pairwise_iff_getElem.1 h2 i j (by omega) hj hi, fun i hi e => ?_⟩
    have := List.pairwise_iff_getElem.1 h3 i j (by simp; omega) (by simp; omega) hi
    simp at this
    exact this e
  · intro h
    refine ⟨fun m hm => ?_, List.pairwise_iff_getElem.2 fun i j hi hj hij => ups h j hj i hij, List.pairwise_iff_getElem.2 fun i j hi hj hij => ?_⟩
    · obtain ⟨j, hj, rfl⟩ := List.getElem_of_mem hm
      have := h j hj
      exact ⟨(nodeB_iff _).2 ⟨this.n1, this.n7⟩, by simp, by have := this.i1; omega, this.ix⟩
    · simp only [List.getElem_map]
      exact (h j (by simpa using hj)).ne i hij

set_option maxHeartbeats 8000000 in
set_option maxRecDepth 100000 in
theorem ris_any (d : De) (s : Value) (w : World) (hs : SM w w.heap.size s d.ms) (hf : d.f.size ≤ 140737488355328) (ht : d.t.size ≤ 140737488355328) (hl : d.ms.length ≤ 140737488355328) :
    Calls Tryz.prog 16 #[dv d s] w fun e w' => e = .returned (.bool (isD d)) ∧ Below w.heap.size w w' := by
  obtain ⟨A, c, rfl⟩ := hs.form
  have c1 := fun w => rid_any d.id w
  have c2 := fun w => rid_any d.gen w
  have c3 := fun w => rid_any d.next w
  have c4 := fun w => Bnd.ris_any d.f d.t w hf ht
  have e4 : isB (B d.f d.t) = isB d.b := rfl
  rw [e4] at c4
  have hck : isD d = (idB d.id && idB d.gen && idB d.next && isB d.b && mayB d.next d.ms) := rfl
  obtain ⟨R, hR⟩ : ∃ R, isD d = R := ⟨_, rfl⟩
  rw [hR]
  rw [hR] at hck
  clear hR e4
  cases h1 : idB d.id with
  | false =>
    rw [h1] at c1 hck
    have HF := Lib.hid hck
    clear h1 hck
    go_enter Tryz.func16, Tryz.ntmps16
    go_wp2_with fail
    refine (c1 _).mono ?_
    rintro e w1 ⟨rfl, rfl⟩
    go_wp2_with fail
    go_ret
    exact ⟨ret_bool (by rw [HF.out]; rfl), (Below.refl _ _).alloc (Nat.le_refl _) _⟩
  | true =>
    rw [h1] at c1 hck
    clear h1
    cases h2 : idB d.gen with
    | false =>
      rw [h2] at c2 hck
      have HF := Lib.hid hck
      clear h2 hck
      go_enter Tryz.func16, Tryz.ntmps16
      go_wp2_with fail
      refine (c1 _).mono ?_
      rintro e w1 ⟨rfl, rfl⟩
      go_wp2_with fail
      refine (c2 _).mono ?_
      rintro e w1 ⟨rfl, rfl⟩
      go_wp2_with fail
      go_ret
      exact ⟨ret_bool (by rw [HF.out]; rfl), (Below.refl _ _).alloc (Nat.le_refl _) _⟩
    | true =>
      rw [h2] at c2 hck
      clear h2
      cases h3 : idB d.next with
      | false =>
        rw [h3] at c3 hck
        have HF := Lib.hid hck
        clear h3 hck
        go_enter Tryz.func16, Tryz.ntmps16
        go_wp2_with fail
        refine (c1 _).mono ?_
        rintro e w1 ⟨rfl, rfl⟩
        go_wp2_with fail
        refine (c2 _).mono ?_
        rintro e w1 ⟨rfl, rfl⟩
        go_wp2_with fail
        refine (c3 _).mono ?_
        rintro e w1 ⟨rfl, rfl⟩
        go_wp2_with fail
        go_ret
        exact ⟨ret_bool (by rw [HF.out]; rfl), (Below.refl _ _).alloc (Nat.le_refl _) _⟩
      | true =>
        rw [h3] at c3 hck
        clear h3
        cases h4 : isB d.b with
        | false =>
          rw [h4] at c4 hck
          have HF := Lib.hid hck
          clear h4 hck
          go_enter Tryz.func16, Tryz.ntmps16
          go_wp2_with fail
          refine (c1 _).mono ?_
          rintro e w1 ⟨rfl, rfl⟩
          go_wp2_with fail
          refine (c2 _).mono ?_
          rintro e w1 ⟨rfl, rfl⟩
          go_wp2_with fail
          refine (c3 _).mono ?_
          rintro e w1 ⟨rfl, rfl⟩
          go_wp2_with fail
          refine (c4 _).mono ?_
          rintro e w1 ⟨rfl, b1⟩
          go_wp2_with fail
          go_ret
          exact ⟨ret_bool (by rw [HF.out]; rfl), ((Below.refl _ w).alloc (Nat.le_refl _) _).trans (b1.mono (by simp))⟩
        | true =>
          rw [h4] at c4 hck
          clear h4
          by_cases h5 : 1 ≤ d.ms.length ∧ d.ms.length ≤ 5
          rotate_left
          · have hr : mayB d.next d.ms = false := by unfold mayB; simp [h5]
            rw [hr] at hck
            have HF := Lib.hid hck
            have g : ((d.ms.length : Int) < 1) = True ∨ (((d.ms.length : Int) < 1) = False ∧ ((d.ms.length : Int) > 5) = True) := by
              by_cases h1 : (d.ms.length : Int) < 1
              · exact .inl (eq_true h1)
              · exact .inr ⟨eq_false h1, eq_true (by omega)⟩
            clear hr hck h5
            rcases g with g1 | ⟨g1, g2⟩
            all_goals
              go_enter Tryz.func16, Tryz.ntmps16
              go_wp2_with fail
              refine (c1 _).mono ?_
              rintro e w1 ⟨rfl, rfl⟩
              go_wp2_with fail
              refine (c2 _).mono ?_
              rintro e w1 ⟨rfl, rfl⟩
              go_wp2_with fail
              refine (c3 _).mono ?_
              rintro e w1 ⟨rfl, rfl⟩
              go_wp2_with fail
              refine (c4 _).mono ?_
              rintro e w1 ⟨rfl, b1⟩
              have B1 := (BoxD.new w d (.slice A d.ms.length c)).keep b1
              obtain ⟨p_0, ⟨p_1, p_2, p_3, p_4, p_5, p_6⟩, p_7⟩ := id B1
              go_wp2_with fail
              go_ret
              exact ⟨ret_bool (by rw [HF.out]; rfl), ((Below.refl _ w).alloc (Nat.le_refl _) _).trans (b1.mono (by simp))⟩
          · have hr : mayB d.next d.ms = mayGo d.next 0 [] d.ms := by unfold mayB; simp [h5]
            rw [hr] at hck
            have hck' : (mayGo d.next 0 [] d.ms = R) := by simpa using hck.symm
            have HF := Lib.hid hck'
            obtain ⟨h51, h52⟩ := h5
            have g1 : ((d.ms.length : Int) < 1) = False := eq_false (by omega)
            have g2 : ((d.ms.length : Int) > 5) = False := eq_false (by omega)
            clear hr hck hck'
            go_enter Tryz.func16, Tryz.ntmps16
            go_wp2_with fail
            refine (c1 _).mono ?_
            rintro e w1 ⟨rfl, rfl⟩
            go_wp2_with fail
            refine (c2 _).mono ?_
            rintro e w1 ⟨rfl, rfl⟩
            go_wp2_with fail
            refine (c3 _).mono ?_
            rintro e w1 ⟨rfl, rfl⟩
            go_wp2_with fail
            refine (c4 _).mono ?_
            rintro e w1 ⟨rfl, b1⟩
            have B1 := (BoxD.new w d (.slice A d.ms.length c)).keep b1
            have hb1 : Below w.heap.size w w1 := ((Below.refl _ w).alloc (Nat.le_refl _) _).trans (b1.mono (by simp))
            obtain ⟨p_0, ⟨p_1, p_2, p_3, p_4, p_5, p_6⟩, p_7⟩ := id B1
            clear b1 c1 c2 c3 c4
            go_wp2_with fail
            clear p_0 p_1 p_2 p_3 p_4 p_5 p_6 p_7
            have hs1 : SM w1 w1.heap.size (.slice A d.ms.length c) d.ms := (hs.below hb1).more hb1.size
            go_loopw [2, 3, 4, 5] (fun v2 vi _ _ wr => ∃ k : Nat, k ≤ d.ms.length ∧ vi = .int .i64 (k : Int) ∧ v2 = .bool false ∧ Hid (∀ j (_ : j < k) (hj : j < d.ms.length), OkAt d.next d.ms j hj) ∧ Below w1.heap.size w1 wr) (fun _ vi _ _ _ => d.ms.length - (intOf vi).toNat)
            case atStart => exact ⟨0, Nat.zero_le _, rfl, rfl, Lib.hid (fun j hj => by omega), Below.refl _ _⟩
            case round =>
              revert hrel; revert wr; intro wo hrel
              obtain ⟨k, hk, rfl, rfl, HK, hbo⟩ := hrel
              have Bo := B1.keep hbo
              obtain ⟨p_0, ⟨p_1, p_2, p_3, p_4, p_5, p_6⟩, p_7⟩ := id Bo
              by_cases hlt : k < d.ms.length
              rotate_left
              · obtain rfl : k = d.ms.length := by omega
                have HT : Hid (R = true) := Lib.hid (HF.out ▸ (mayGo_at _ _).2 fun j hj => HK.out j hj hj)
                go_wp2_with fail
                go_ret
                exact ⟨ret_bool HT.out.symm, hb1.trans (hbo.mono hb1.size)⟩
              · obtain ⟨b, o, rfl, hb, m1, m2⟩ := (hs1.below hbo).at_ hlt
                obtain ⟨⟨x, y⟩, hm⟩ : ∃ m, d.ms[k] = m := ⟨_, rfl⟩
                rw [hm] at m1 m2
                have HM := Lib.hid hm
                clear hm
                simp only at m1 m2
                have hbad : ¬ OkAt d.next d.ms k hlt → Hid (false = R) := fun h => Lib.hid (by
                  rw [← HF.out]
                  cases hx : mayGo d.next 0 [] d.ms with
                  | false => rfl
                  | true => exact absurd ((mayGo_at _ _).1 hx k hlt) h)
                have HB := Lib.hid hbad
                clear hbad
                have hbw : Below w.heap.size w wo := hb1.trans (hbo.mono hb1.size)
                have k0 : (0 ≤ (k : Int)) = True := eq_true (by omega)
                have k1 : ((k : Int) < (d.ms.length : Int)) = True := eq_true (by omega)
                have four : ((x < 1) = True ∨ ((x < 1) = False ∧ (x > 7) = True) ∨ ((x < 1) = False ∧ (x > 7) = False ∧ (y < 1) = True) ∨ ((x < 1) = False ∧ (x > 7) = False ∧ (y < 1) = False ∧ (y ≥ d.next) = True)) ∨ ((x < 1) = False ∧ (x > 7) = False ∧ (y < 1) = False ∧ (y ≥ d.next) = False) := by
                  by_cases q1 : x < 1
                  · exact .inl (.inl (eq_true q1))
                  · by_cases q2 : x > 7
                    · exact .inl (.inr (.inl ⟨eq_false q1, eq_true q2⟩))
                    · by_cases q3 : y < 1
                      · exact .inl (.inr (.inr (.inl ⟨eq_false q1, eq_false q2, eq_true q3⟩)))
                      · by_cases q4 : y ≥ d.next
                        · exact .inl (.inr (.inr (.inr ⟨eq_false q1, eq_false q2, eq_false q3, eq_true q4⟩)))
                        · exact .inr ⟨eq_false q1, eq_false q2, eq_false q3, eq_false q4⟩
                rcases four with hbd | ⟨e1, e2, e3, e4⟩
                · have HR : Hid (false = R) := HB.out (by
                    intro ho
                    have hm := HM.out
                    have a1 := ho.n1
                    have a2 := ho.n7
                    have a3 := ho.i1
                    have a4 := ho.ix
                    rw [hm] at a1 a2 a3 a4
                    simp only at a1 a2 a3 a4
                    rcases hbd with q | ⟨_, q⟩ | ⟨_, _, q⟩ | ⟨_, _, _, q⟩ <;> (have q := of_eq_true q; omega))
                  clear HB HM HF HK
                  rcases hbd with e1 | ⟨e1, e2⟩ | ⟨e1, e2, e3⟩ | ⟨e1, e2, e3, e4⟩
                  all_goals
                    go_wp2_with fail
                    go_quiet (fail)
                    go_wp2_with fail
                    go_ret
                    exact ⟨ret_bool HR.out, below_drewN (hbw.alloc hbw.size _) _⟩
                · have five : (((k : Int) > 0) = False ∧ (0 < k) = False ∧ k = 0) ∨ (((k : Int) > 0) = True ∧ (0 < k) = True ∧ ∃ k', k = k' + 1) := by
                    cases k with
                    | zero => exact .inl ⟨eq_false (by omega), eq_false (by omega), rfl⟩
                    | succ k' => exact .inr ⟨eq_true (by omega), eq_true (by omega), k', rfl⟩
                  rcases five with ⟨e5, e5n, h0⟩ | ⟨e5, e5n, k', hk'⟩
                  · have HG : Hid (x ≤ 7 ∧ 1 ≤ x ∧ 1 ≤ y ∧ y < d.next ∧ PrevOk d.ms k y) := Lib.hid ⟨by have := of_eq_false e2; omega, by have := of_eq_false e1; omega, by have := of_eq_false e3; omega, by have := of_eq_false e4; omega, fun i hi he => by omega⟩
                    have HZ := Lib.hid h0
                    clear h0
                    go_wp2_with fail
                    go_quiet (fail)
                    go_wp2_with fail
                    clear e1 e2 e3 e4 e5 e5n
                    go_loopw [2, 5] (fun v2 vq wr => ∃ i : Nat, i ≤ k ∧ vq = .int .i64 (i : Int) ∧ v2 = .bool false ∧ Hid (∀ a (_ : a < i) (ha : a < d.ms.length), d.ms[a].1 ≠ x) ∧ wr.cell? ⟨wo.heap.size, 0, none⟩ = some (.int .i64 x) ∧ wo.heap.size < wr.heap.size ∧ Below wo.heap.size wo wr) (fun _ vq _ => k - (intOf vq).toNat)
                    case atStart => exact ⟨0, Nat.zero_le _, rfl, rfl, Lib.hid (fun a h => by omega), by simp [go_sem], by simp, below_drewN ((Below.refl _ wo).alloc (Nat.le_refl _) _) _⟩
                    case round =>
                      clear p_0 p_1 p_2 p_3 p_4 p_5 p_6 p_7
                      obtain ⟨i, hi, rfl, rfl, HI, n1, n2, hby⟩ := hrel
                      have By := Bo.keep hby
                      obtain ⟨p_0, ⟨p_1, p_2, p_3, p_4, p_5, p_6⟩, p_7⟩ := id By
                      have hbz : Below w.heap.size w wr := hbw.trans (hby.mono hbw.size)
                      by_cases hik : i < k
                      rotate_left
                      · have hie : i = k := by omega
                        have i5 : ((i : Int) < (k : Int)) = False := eq_false (by omega)
                        go_wp2_with fail
                        go_roundw
                        case rel =>
                          refine ⟨k + 1, by omega, by go_num, rfl, Lib.hid (fun j hj hjl => ?_), hbo.trans (hby.mono hbo.size)⟩
                          by_cases hjk : j < k
                          · exact HK.out j hjk hjl
                          · obtain rfl : j = k := by omega
                            have hm := HM.out
                            obtain ⟨r1, r2, r3, r4, r5⟩ := HG.out
                            exact ⟨by rw [hm]; exact r2, by rw [hm]; exact r1, by rw [hm]; exact r3, by rw [hm]; exact r4, fun a ha he => by rw [hm]; exact r5 a (by omega) he, fun a ha => by rw [hm]; exact HI.out a (by omega) (by omega)⟩
                        case measure => simp [intOf]; omega
                      · have hil : i < d.ms.length := by omega
                        obtain ⟨b2, o2, hA2, hb2, s1, s2⟩ := ((hs1.below hbo).below (hby.mono (by have := hbo.size; omega))).at_ hil
                        injection hA2 with hA2
                        injection hA2 with hA3 hA4 _
                        subst hA3 hA4
                        obtain ⟨⟨ax, ay⟩, ham⟩ : ∃ m, d.ms[i] = m := ⟨_, rfl⟩
                        rw [ham] at s1 s2
                        simp only at s1 s2
                        have HA := Lib.hid ham
                        have j0 : (0 ≤ (i : Int)) = True := eq_true (by omega)
                        have j1 : ((i : Int) < (d.ms.length : Int)) = True := eq_true (by omega)
                        clear ham
                        by_cases hax : ax = x
                        · have HR : Hid (false = R) := HB.out (by
                            intro ho
                            have hm := HM.out
                            have a1 := ho.ne i hik
                            rw [hm, HA.out] at a1
                            exact a1 hax)
                          have ax1 : (ax == x) = true := by simpa using hax
                          have ax2 : (ax = x) = True := eq_true hax
                          clear HB HM HF HK HG HI HA hax
                          go_wp2_with fail
                          go_quiet (fail)
                          go_wp2_with fail
                          go_ret
                          exact ⟨ret_bool HR.out, below_drewN hbz _⟩
                        · have ax1 : (ax == x) = false := by simpa using hax
                          have ax2 : (ax = x) = False := eq_false hax
                          have HI2 : Hid (∀ a (_ : a < i + 1) (ha : a < d.ms.length), d.ms[a].1 ≠ x) := Lib.hid (fun a h ha => by
                            by_cases h2 : a < i
                            · exact HI.out a h2 ha
                            · obtain rfl : a = i := by omega
                              rw [HA.out]; exact hax)
                          clear hax
                          go_wp2_with fail
                          go_quiet (fail)
                          go_wp2_with fail
                          go_roundw
                          case rel => exact ⟨i + 1, by omega, by go_num, rfl, HI2, n1, by simpa using n2, below_drewN hby _⟩
                          case measure => simp [intOf]; omega
                  · have hkl : k' < d.ms.length := by omega
                    obtain ⟨b', o', hA', hb', m3, m4⟩ := (hs1.below hbo).at_ hkl
                    injection hA' with hA'
                    injection hA' with hA1 hA2 _
                    subst hA1 hA2
                    obtain ⟨⟨px, py⟩, hpm⟩ : ∃ m, d.ms[k'] = m := ⟨_, rfl⟩
                    rw [hpm] at m3 m4
                    simp only at m3 m4
                    have HP := Lib.hid hpm
                    have HKK := Lib.hid hk'
                    have w4' : IntKind.i64.wrap ((k : Int) - 1) = (k' : Int) := by rw [IntKind.wrap_i64]; omega
                    have hbs : b < wo.heap.size := by have := hbo.size; omega
                    have w2' : (0 ≤ (k' : Int)) = True := eq_true (by omega)
                    have w3' : ((k' : Int) < (d.ms.length : Int)) = True := eq_true (by omega)
                    clear hpm hk'
                    by_cases h6 : y ≤ py
                    · have e6 : (y ≤ py) = True := eq_true h6
                      have HR : Hid (false = R) := HB.out (by
                        intro ho
                        have hm := HM.out
                        have a1 := ho.up k' (by have := HKK.out; omega) HKK.out.symm
                        rw [hm, HP.out] at a1
                        simp only at a1
                        omega)
                      clear HB HM HF HK HP HKK h6
                      go_wp2_with fail
                      go_quiet (fail)
                      go_wp2_with fail
                      go_ret
                      exact ⟨ret_bool HR.out, below_drewN (hbw.alloc hbw.size _) _⟩
                    · have e6 : (y ≤ py) = False := eq_false h6
                      have HG : Hid (x ≤ 7 ∧ 1 ≤ x ∧ 1 ≤ y ∧ y < d.next ∧ PrevOk d.ms k y) := Lib.hid ⟨by have := of_eq_false e2; omega, by have := of_eq_false e1; omega, by have := of_eq_false e3; omega, by have := of_eq_false e4; omega, fun i hi he => by
                        obtain rfl : i = k' := by have := HKK.out; omega
                        rw [HP.out]; simp only; omega⟩
                      clear h6
                      go_wp2_with fail
                      go_quiet (fail)
                      go_wp2_with fail
                      clear e1 e2 e3 e4 e5 e5n
                      go_loopw [2, 5] (fun v2 vq wr => ∃ i : Nat, i ≤ k ∧ vq = .int .i64 (i : Int) ∧ v2 = .bool false ∧ Hid (∀ a (_ : a < i) (ha : a < d.ms.length), d.ms[a].1 ≠ x) ∧ wr.cell? ⟨wo.heap.size, 0, none⟩ = some (.int .i64 x) ∧ wo.heap.size < wr.heap.size ∧ Below wo.heap.size wo wr) (fun _ vq _ => k - (intOf vq).toNat)
                      case atStart => exact ⟨0, Nat.zero_le _, rfl, rfl, Lib.hid (fun a h => by omega), by simp [go_sem], by simp, below_drewN ((Below.refl _ wo).alloc (Nat.le_refl _) _) _⟩
                      case round =>
                        clear p_0 p_1 p_2 p_3 p_4 p_5 p_6 p_7
                        obtain ⟨i, hi, rfl, rfl, HI, n1, n2, hby⟩ := hrel
                        have By := Bo.keep hby
                        obtain ⟨p_0, ⟨p_1, p_2, p_3, p_4, p_5, p_6⟩, p_7⟩ := id By
                        have hbz : Below w.heap.size w wr := hbw.trans (hby.mono hbw.size)
                        by_cases hik : i < k
                        rotate_left
                        · have hie : i = k := by omega
                          have i5 : ((i : Int) < (k : Int)) = False := eq_false (by omega)
                          go_wp2_with fail
                          go_roundw
                          case rel =>
                            refine ⟨k + 1, by omega, by go_num, rfl, Lib.hid (fun j hj hjl => ?_), hbo.trans (hby.mono hbo.size)⟩
                            by_cases hjk : j < k
                            · exact HK.out j hjk hjl
                            · obtain rfl : j = k := by omega
                              have hm := HM.out
                              obtain ⟨r1, r2, r3, r4, r5⟩ := HG.out
                              exact ⟨by rw [hm]; exact r2, by rw [hm]; exact r1, by rw [hm]; exact r3, by rw [hm]; exact r4, fun a ha he => by rw [hm]; exact r5 a (by omega) he, fun a ha => by rw [hm]; exact HI.out a (by omega) (by omega)⟩
                          case measure => simp [intOf]; omega
                        · have hil : i < d.ms.length := by omega
                          obtain ⟨b2, o2, hA2, hb2, s1, s2⟩ := ((hs1.below hbo).below (hby.mono (by have := hbo.size; omega))).at_ hil
                          injection hA2 with hA2
                          injection hA2 with hA3 hA4 _
                          subst hA3 hA4
                          obtain ⟨⟨ax, ay⟩, ham⟩ : ∃ m, d.ms[i] = m := ⟨_, rfl⟩
                          rw [ham] at s1 s2
                          simp only at s1 s2
                          have HA := Lib.hid ham
                          have j0 : (0 ≤ (i : Int)) = True := eq_true (by omega)
                          have j1 : ((i : Int) < (d.ms.length : Int)) = True := eq_true (by omega)
                          clear ham
                          by_cases hax : ax = x
                          · have HR : Hid (false = R) := HB.out (by
                              intro ho
                              have hm := HM.out
                              have a1 := ho.ne i hik
                              rw [hm, HA.out] at a1
                              exact a1 hax)
                            have ax1 : (ax == x) = true := by simpa using hax
                            have ax2 : (ax = x) = True := eq_true hax
                            clear HB HM HF HK HG HI HA hax
                            go_wp2_with fail
                            go_quiet (fail)
                            go_wp2_with fail
                            go_ret
                            exact ⟨ret_bool HR.out, below_drewN hbz _⟩
                          · have ax1 : (ax == x) = false := by simpa using hax
                            have ax2 : (ax = x) = False := eq_false hax
                            have HI2 : Hid (∀ a (_ : a < i + 1) (ha : a < d.ms.length), d.ms[a].1 ≠ x) := Lib.hid (fun a h ha => by
                              by_cases h2 : a < i
                              · exact HI.out a h2 ha
                              · obtain rfl : a = i := by omega
                                rw [HA.out]; exact hax)
                            clear hax
                            go_wp2_with fail
                            go_quiet (fail)
                            go_wp2_with fail
                            go_roundw
                            case rel => exact ⟨i + 1, by omega, by go_num, rfl, HI2, n1, by simpa using n2, below_drewN hby _⟩
                            case measure => simp [intOf]; omega
end Go.Proofs.YtlcobgpgggegdaaGreatDoor.Ds

namespace Go.Proofs.YtlcobgpgggegdaaGreatDoor.Od
open Go.RowKit Bnd

/-- an order that comes in -/
structure LimA (o : Ask) : Prop where
  r : InA o
  key : o.key.size ≤ 140737488355328
  til : o.til.size ≤ 140737488355328
  val : o.val.size ≤ 140737488355328
  old : o.old.size ≤ 140737488355328
theorem LimA.fit {o : Ask} (h : LimA o) (hs : smallA o = true) : FitA o := by
  unfold smallA at hs
  simp only [decide_eq_true_eq] at hs
  exact ⟨h.r, by omega, by omega, by omega, by omega⟩
theorem put_short {o : Ask} (h : FitA o) (hs : smallA o = true) : (putA o).length ≤ 200000 := by
  have := putA_length h
  unfold smallA at hs
  simp only [decide_eq_true_eq] at hs
  omega
end Go.Proofs.YtlcobgpgggegdaaGreatDoor.Od

namespace Go.Proofs.YtlcobgpgggegdaaGreatDoor.Mb
open Go.RowKit Bnd
open Go.Proofs.YtlcobgpgggegdaaGreatDoor.Ds (De SM ArgM isD dv BoxE BoxD putW)
open Go.Proofs.YtlcobgpgggegdaaGreatDoor.Ro (SE En)

structure RM (W0 : World) (D : De) (l : List En) (L : Nat → Bool) (u : Nat → Value) (wx : World) : Prop where
  low : Below W0.heap.size W0 wx
  arr : L 4 = true → L 7 = false → SE wx wx.heap.size (u 4) l
  got : L 5 = true → L 7 = false → ∃ s, u 5 = dv D s ∧ ArgM wx s D.ms
  box : L 6 = true → L 7 = false → ∃ n, u 6 = .pointer (some ⟨n, 0, none⟩) ∧ W0.heap.size ≤ n ∧ BoxE n De.zero (.slice none 0 0) wx
  fin : L 7 = true → ∃ n s, u 6 = .pointer (some ⟨n, 0, none⟩) ∧ W0.heap.size ≤ n ∧ BoxD n D s wx ∧ ArgM wx s D.ms
section
variable {W0 wx w' : World} {D : De} {l : List En} {L : Nat → Bool} {u : Nat → Value} {j : Nat}
theorem RM.start {w : World} (h : Below W0.heap.size W0 w) : RM W0 D l (fun _ => false) u w.drew :=
  ⟨h.drew, fun h => (by cases h), fun h => (by cases h), fun h => (by cases h), fun h => (by cases h)⟩
theorem RM.plain (h : RM W0 D l L u wx) (h4 : 4 ≠ j) (h5 : 5 ≠ j) (h6 : 6 ≠ j) (h7 : 7 ≠ j) (v : Value) : RM W0 D l (St.mark L j) (St.upd u j v) wx := by
  have a1 : St.mark L j 4 = L 4 := by simp [St.mark, h4]
  have a2 : St.mark L j 5 = L 5 := by simp [St.mark, h5]
  have a3 : St.mark L j 6 = L 6 := by simp [St.mark, h6]
  have a4 : St.mark L j 7 = L 7 := by simp [St.mark, h7]
  have b1 : St.upd u j v 4 = u 4 := by simp [St.upd, h4]
  have b2 : St.upd u j v 5 = u 5 := by simp [St.upd, h5]
  have b3 : St.upd u j v 6 = u 6 := by simp [St.upd, h6]
  exact ⟨h.low, by rw [a1, a4, b1]; exact h.arr, by rw [a2, a4, b2]; exact h.got, by rw [a3, a4, b3]; exact h.box, by rw [a4, b3]; exact h.fin⟩
theorem RM.turn (h : RM W0 D l L u wx) (h7 : L 7 = false) (b : Below wx.heap.size wx w') : RM W0 D l L u w' := by
  refine ⟨h.low.trans (b.mono h.low.size), fun h1 h2 => ((h.arr h1 h2).below b).more b.size, fun h1 h2 => ?_, fun h1 h2 => ?_, fun h1 => ?_⟩
  · obtain ⟨s, e, ha⟩ := h.got h1 h2
    exact ⟨s, e, ha.keep b⟩
  · obtain ⟨n, e, hn, ho⟩ := h.box h1 h2
    exact ⟨n, e, hn, ho.keep b⟩
  · rw [h7] at h1; cases h1
theorem RM.made (h : RM W0 D l L u wx) (h7 : L 7 = false) (b : Below wx.heap.size wx w') {v : Value} (hv : SE w' w'.heap.size v l) : RM W0 D l (St.mark L 4) (St.upd u 4 v) w' := by
  have h := h.turn h7 b
  exact ⟨h.low, fun _ _ => by rw [show St.upd u 4 v 4 = v by simp [St.upd]]; exact hv, h.got, h.box, h.fin⟩
theorem RM.of (h : RM W0 D l L u wx) (h7 : L 7 = false) (b : Below wx.heap.size wx w') {s : Value} (hv : ArgM w' s D.ms) : RM W0 D l (St.mark L 5) (St.upd u 5 (dv D s)) w' := by
  have h := h.turn h7 b
  exact ⟨h.low, h.arr, fun _ _ => ⟨s, by simp [St.upd], hv⟩, h.box, h.fin⟩
theorem RM.boxed (h : RM W0 D l L u wx) (h7 : L 7 = false) : RM W0 D l (St.mark L 6) (St.upd u 6 (.pointer (some ⟨wx.heap.size, 0, none⟩))) (wx.alloc (.cells #[.int .i64 0, .string ⟨#[]⟩, .string ⟨#[]⟩, .int .i64 0, .slice none 0 0, .int .i64 0] 26)) := by
  have hl := h.low.size
  have h := h.turn h7 ((Below.refl _ wx).alloc (Nat.le_refl _) (.cells #[.int .i64 0, .string ⟨#[]⟩, .string ⟨#[]⟩, .int .i64 0, .slice none 0 0, .int .i64 0] 26))
  exact ⟨h.low, h.arr, h.got, fun _ _ => ⟨wx.heap.size, by simp [St.upd], hl, BoxE.new wx De.zero (.slice none 0 0)⟩, fun h1 => by rw [show St.mark L 6 7 = L 7 from rfl, h7] at h1; cases h1⟩
theorem RM.store (h : RM W0 D l L u wx) {n : Nat} {s : Value} (h6 : L 6 = true) (h5 : L 5 = true) (h7 : L 7 = false) (e1 : u 6 = .pointer (some ⟨n, 0, none⟩)) (e2 : u 5 = dv D s) :
    RM W0 D l (St.mark L 7) (St.upd u 7 undef) (putW wx n D s) := by
  obtain ⟨n', q1, q2, q3⟩ := h.box h6 h7
  obtain rfl : n' = n := by
    have := q1.symm.trans e1
    injection this with e3
    injection e3 with e4
    injection e4
  obtain ⟨s', p1, p2⟩ := h.got h5 h7
  obtain rfl : s' = s := by
    have := p1.symm.trans e2
    injection this with e3
    simpa using e3
  exact ⟨putW_low h.low q2, fun _ h' => (by simp [St.mark] at h'), fun _ h' => (by simp [St.mark] at h'), fun _ h' => (by simp [St.mark] at h'),
    fun _ => ⟨n', s', e1, q2, (q3.put D s').1, q3.put_arg ⟨_, _, _, rfl⟩ p2⟩⟩
end
end Go.Proofs.YtlcobgpgggegdaaGreatDoor.Mb

namespace Go.Proofs.YtlcobgpgggegdaaGreatDoor.Ds
open Go.Proofs.YtlcobgpgggegdaaGreatDoor.O (Bd isB keyB hasB nextB)
open Go.Proofs.YtlcobgpgggegdaaGreatDoor.M (tieT untieT untie_some untie_spec numT intT inR tieT_inj tie_prefix)
theorem hasM_none {i : Int} : ∀ {l : List Mem}, hasM i l = none ↔ ∀ m ∈ l, m.2 ≠ i
  | [] => by simp [hasM]
  | x :: l => by
    rw [hasM]
    by_cases e : x.2 = i
    · rw [if_pos e]; simp [e]
    · rw [if_neg e, hasM_none (l := l)]; simp [e]
end Go.Proofs.YtlcobgpgggegdaaGreatDoor.Ds
namespace Go.Proofs.YtlcobgpgggegdaaGreatDoor.Ds
open Go.Proofs.YtlcobgpgggegdaaGreatDoor.O (Bd isB keyB hasB nextB)
theorem add_rise {d x : De} {n : Int} (hd : isD d = true) (h : addD d n = (x, 0)) : Rise d x ∧ nodeB n = true ∧ onM n d.ms = none ∧ x = { d with ms := d.ms ++ [(n, d.next)], next := d.next + 1, gen := d.gen + 1 } := by
  unfold addD at h
  rw [if_pos hd] at h
  by_cases h1 : nodeB n = true
  · rw [if_pos h1] at h
    by_cases h2 : (onM n d.ms).isSome = true
    · rw [if_pos h2] at h; have := (Prod.ext_iff.1 h).2; simp at this
    · rw [if_neg h2] at h
      by_cases h3 : d.ms.length = 5
      · rw [if_pos h3] at h; have := (Prod.ext_iff.1 h).2; simp at this
      · rw [if_neg h3] at h
        obtain ⟨g1, rfl⟩ := okD_spec h
        refine ⟨⟨g1, rfl, by simp only; omega, ?_⟩, h1, by simpa using h2, rfl⟩
        intro m hm
        rcases List.mem_append.1 hm with hm | hm
        · exact .inl (kept hd hm)
        · rw [List.mem_singleton] at hm
          subst hm
          refine .inr ⟨?_, by simp only; omega⟩
          rw [hasM_none]
          intro m hm
          have := ((isD_parts hd).1 m hm).2.2
          simp only
          omega
  · rw [if_neg h1] at h; have := (Prod.ext_iff.1 h).2; simp at this
end Go.Proofs.YtlcobgpgggegdaaGreatDoor.Ds
namespace Go.Proofs.YtlcobgpgggegdaaGreatDoor.Mb
open Go.Proofs.YtlcobgpgggegdaaGreatDoor.Ds (De Mem addD removeD sameD isD hasM onM dropM okD)
open Go.Proofs.YtlcobgpgggegdaaGreatDoor.Od (parseA isA putA)
theorem dropM_sub (i : Int) (l : List Mem) : (dropM i l).Sublist l := List.filter_sublist
theorem dropM_len {i : Int} : ∀ {l : List Mem}, l.Pairwise (fun a b => a.2 < b.2) → l.length ≤ (dropM i l).length + 1
  | [], _ => by simp
  | m :: l, hp => by
    rw [List.pairwise_cons] at hp
    unfold dropM
    rw [List.filter_cons]
    by_cases h : m.2 = i
    · have : l.filter (fun m => decide (m.2 ≠ i)) = l := by
        rw [List.filter_eq_self]
        intro x hx
        have := hp.1 x hx
        simp; omega
      rw [this]
      simp [h]
    · have := dropM_len (i := i) hp.2
      unfold dropM at this
      simp only [h, ne_eq, not_false_eq_true, decide_true, if_true, List.length_cons]
      simp only [ne_eq] at this
      omega
theorem meet_two {α : Type} (l : List α) (p q : α → Bool) (h : l.length < l.countP p + l.countP q) : ∃ x ∈ l, p x = true ∧ q x = true := by
  induction l with
  | nil => simp at h
  | cons a l ih =>
    by_cases hb : p a = true ∧ q a = true
    · exact ⟨a, by simp, hb⟩
    · have h2 : l.length < l.countP p + l.countP q := by
        rw [List.countP_cons, List.countP_cons, List.length_cons] at h
        cases h3 : p a <;> cases h4 : q a <;> simp [h3, h4] at h hb <;> omega
      obtain ⟨x, hx, h3⟩ := ih h2
      exact ⟨x, by simp [hx], h3⟩
theorem rising_mem {ms : List Mem} (hp : ms.Pairwise (fun a b => a.2 < b.2)) {m : Mem} (hm : m ∈ ms) : hasM m.2 ms = some m := Ds.hasM_mem hp hm
/-- those of d that are in e, and among b, are nearly as many as e's among b -/
theorem meet_change {d e : De} {a b : List Int} (hd : isD d = true) (he : e = d ∨ ∃ o, isCh o = true ∧ changeD d o = (e, 0)) (ha : d.ms.length / 2 + 1 ≤ countM d.ms a) (hb : e.ms.length / 2 + 1 ≤ countM e.ms b) :
    ∃ m ∈ d.ms, (hasM m.2 e.ms).isSome = true ∧ a.contains m.2 = true ∧ b.contains m.2 = true := by
  have key : ∀ k, d.ms.length + k < d.ms.length / 2 + 1 + (e.ms.length / 2 + 1) → countM e.ms b ≤ d.ms.countP (fun m => (hasM m.2 e.ms).isSome && b.contains m.2) + k → ∃ m ∈ d.ms, (hasM m.2 e.ms).isSome = true ∧ a.contains m.2 = true ∧ b.contains m.2 = true := by
    intro k h1 h2
    obtain ⟨m, hm, h3, h4⟩ := meet_two d.ms (fun m => a.contains m.2) (fun m => (hasM m.2 e.ms).isSome && b.contains m.2) (by unfold countM at ha; omega)
    simp only [Bool.and_eq_true] at h4
    exact ⟨m, hm, h4.1, h3, h4.2⟩
  have hp := (Ds.isD_parts hd).2.1
  have hself : ∀ {l : List Mem}, l.Pairwise (fun a b => a.2 < b.2) → ∀ m ∈ l, (hasM m.2 l).isSome = true := fun hl m hm => by rw [rising_mem hl hm]; rfl
  rcases he with rfl | ⟨o, ho, h⟩
  · refine key 0 (by omega) ?_
    unfold countM
    refine List.countP_mono_left fun m hm h => ?_
    simp only [Bool.and_eq_true]
    exact ⟨hself hp m hm, h⟩
  · have hE := (change_is h).1
    have hpe := (Ds.isD_parts hE).2.1
    unfold changeD at h
    split at h
    · obtain ⟨_, _, _, rfl⟩ := Ds.add_rise hd h
      have hlen : (d.ms ++ [(o.node, d.next)]).length = d.ms.length + 1 := by simp
      refine key 1 (by simp only [hlen]; omega) ?_
      unfold countM
      simp only
      rw [List.countP_append]
      have h2 : d.ms.countP (fun m => b.contains m.2) ≤ d.ms.countP (fun m => (hasM m.2 (d.ms ++ [(o.node, d.next)])).isSome && b.contains m.2) := by
        refine List.countP_mono_left fun m hm h => ?_
        simp only [Bool.and_eq_true]
        exact ⟨hself hpe m (by simp [hm]), h⟩
      exact Nat.add_le_add h2 (Nat.le_trans List.countP_le_length (by simp))
    · have hx : e = { d with ms := dropM o.id d.ms, gen := d.gen + 1 } := by
        unfold removeD at h
        (repeat' split at h) <;> first | (exact absurd (Prod.mk.inj h).2 (by decide)) | (exact (Ds.okD_spec h).2)
      have hlen : d.ms.length ≤ e.ms.length + 1 := by
        rw [hx]
        exact dropM_len hp
      have hcount : countM e.ms b ≤ d.ms.countP (fun m => (hasM m.2 e.ms).isSome && b.contains m.2) := by
        have hsl : e.ms.Sublist d.ms := by rw [hx]; exact dropM_sub o.id d.ms
        unfold countM
        have h1 : e.ms.countP (fun m => b.contains m.2) ≤ e.ms.countP (fun m => (hasM m.2 e.ms).isSome && b.contains m.2) := by
          refine List.countP_mono_left fun m hm h => ?_
          simp only [Bool.and_eq_true]
          exact ⟨hself hpe m hm, h⟩
        exact Nat.le_trans h1 (List.Sublist.countP_le hsl)
      exact key 0 (by omega) hcount
end Go.Proofs.YtlcobgpgggegdaaGreatDoor.Mb

namespace Go.Proofs.YtlcobgpgggegdaaGreatDoor.Mb
open Go.RowKit Bnd
open Go.Proofs.YtlcobgpgggegdaaGreatDoor.Dp (SI ArgI)
open Go.Proofs.YtlcobgpgggegdaaGreatDoor.Ds (De SM ArgM isD dv BoxE BoxD putW hasM optV mv)
open Go.Proofs.YtlcobgpgggegdaaGreatDoor.Od (BoxA av putA LimA FitA smallA)
open Go.Proofs.YtlcobgpgggegdaaGreatDoor.Ro (SE En)
open Go.Proofs.YtlcobgpgggegdaaGreatDoor.M (inR)

theorem step_form (d : De) (t : List UInt8) : stepD d t = d ∨ ∃ o, isCh o = true ∧ changeD d o = (stepD d t, 0) := by
  unfold stepD turnD
  split
  · split
    · rename_i h1
      split
      · rename_i h2
        exact .inr ⟨_, h1, by rw [← h2]⟩
      · exact .inl rfl
    · exact .inl rfl
  · exact .inl rfl
/-- among the first k members none is in both and in the other lists -/
def NoneYet (l es : List Ds.Mem) (ns ms : List Int) (k : Nat) : Prop := ∀ j, j < k → ∀ m, l[j]? = some m → ¬((hasM m.2 es).isSome = true ∧ m.2 ∈ ns ∧ m.2 ∈ ms)
theorem NoneYet.zero (l es : List Ds.Mem) (ns ms : List Int) : NoneYet l es ns ms 0 := fun j h => by omega
theorem NoneYet.next {l es : List Ds.Mem} {ns ms : List Int} {k : Nat} {m : Ds.Mem} (h : NoneYet l es ns ms k) (hk : l[k]? = some m) (hn : ¬((hasM m.2 es).isSome = true ∧ m.2 ∈ ns ∧ m.2 ∈ ms)) : NoneYet l es ns ms (k + 1) := by
  intro j hj m' hm'
  by_cases e : j = k
  · subst e
    rw [hk] at hm'
    obtain rfl := Option.some.inj hm'
    exact hn
  · exact h j (by omega) m' hm'
theorem NoneYet.end {d E : De} {ns ms : List Int} (h : NoneYet d.ms E.ms ns ms d.ms.length) (hd : isD d = true) (he : E = d ∨ ∃ o, isCh o = true ∧ changeD d o = (E, 0)) (ha : d.ms.length / 2 + 1 ≤ countM d.ms ns) (hb : E.ms.length / 2 + 1 ≤ countM E.ms ms) : False := by
  obtain ⟨m, hm, h1, h2, h3⟩ := meet_change hd he ha hb
  obtain ⟨j, hj, e⟩ := List.getElem_of_mem hm
  exact h j hj m (by rw [List.getElem?_eq_getElem hj, e]) ⟨h1, by simpa using h2, by simpa using h3⟩
/-- a list of one entry that was just built -/
theorem one_new (w : World) (x : ByteArray) : SE (w.alloc (.cells #[.int .i64 0, .string x] 51)) (w.alloc (.cells #[.int .i64 0, .string x] 51)).heap.size (.slice (some ⟨w.heap.size, 0, none⟩) 1 1) [(0, x)] := by
  refine ⟨_, _, rfl, fun _ => ⟨w.heap.size, 0, rfl, by simp, fun i hi => ?_⟩⟩
  have hi0 : i = 0 := by simpa using hi
  subst hi0
  exact ⟨by simp [go_sem], by simp [go_sem]⟩

set_option maxHeartbeats 16000000 in
set_option maxRecDepth 100000 in
theorem meet_walk (d : De) (s v y : Value) (o : Od.Ask) (ns ms : List Int) (w : World) (hs : ArgM w s d.ms) (hf : d.f.size ≤ 140737488355328) (ht : d.t.size ≤ 140737488355328) (hd : d.ms.length ≤ 140737488355328) (ho : LimA o) (hv : SI w w.heap.size v ns) (hy : SI w w.heap.size y ms) (hg : Good w) :
    Calls Tryz.prog 7 #[dv d s, av o, v, y] w fun e w' => e = .returned (.bool true) ∧ Below w.heap.size w w' := by
  obtain ⟨A, c, rfl⟩ := hs.form
  obtain ⟨B, bc, rfl⟩ := hv.form
  obtain ⟨C, cc, rfl⟩ := hy.form
  have HB5 := Lib.hid (show isD d = true → d.ms.length ≤ 1000 from fun h => by have := ((Ds.isD_iff d).1 h).2.2.2.2.1.2; omega)
  have HO := Lib.hid ho
  have HG := Lib.hid hg
  obtain ⟨W0, hW0⟩ : ∃ W0, (w.alloc (.cells #[.int .i64 d.id, .string d.f, .string d.t, .int .i64 d.gen, .slice A d.ms.length c, .int .i64 d.next] 26)).alloc (.cells #[.int .i64 o.kind, .int .i64 o.client, .int .i64 o.seq, .string o.key, .string o.til, .string o.val, .string o.old, .bool o.has, .int .i64 o.lim, .int .i64 o.id, .int .i64 o.node] 40) = W0 := ⟨_, rfl⟩
  have hb0 : Below w.heap.size w W0 := hW0 ▸ (by (repeat' (first | with_reducible assumption | with_reducible exact Below.refl _ _ | with_reducible refine Below.alloc ?_ ?_ _ | with_reducible refine Below.setCell ?_ ?_ _ | with_reducible refine Below.drew ?_ | omega | (simp; done) | (simp; omega))))
  have BD : BoxD w.heap.size d (.slice A d.ms.length c) W0 := hW0 ▸ (BoxD.new w d (.slice A d.ms.length c)).alloc _
  have BO : BoxA (w.heap.size + 1) o W0 := by
    have h := BoxA.new (w.alloc (.cells #[.int .i64 d.id, .string d.f, .string d.t, .int .i64 d.gen, .slice A d.ms.length c, .int .i64 d.next] 26)) o
    rw [hW0] at h
    simpa using h
  have KD := fun w' (h : Below W0.heap.size W0 w') => hs.keep (hb0.trans (h.mono hb0.size))
  have KN := fun w' (h : Below W0.heap.size W0 w') => (hv.below (hb0.trans (h.mono hb0.size))).more (Nat.le_trans hb0.size h.size)
  have KM := fun w' (h : Below W0.heap.size W0 w') => (hy.below (hb0.trans (h.mono hb0.size))).more (Nat.le_trans hb0.size h.size)
  have cI := fun w' (h : Below W0.heap.size W0 w') => Ds.ris_any d (.slice A d.ms.length c) w' (KD w' h).sm hf ht hd
  have cL := fun w' (h : Below W0.heap.size W0 w') => live_any w' (hg.below (hb0.trans (h.mono hb0.size)))
  obtain ⟨nd, hnd⟩ : ∃ n, d.ms.length = n := ⟨_, rfl⟩
  obtain ⟨n1, hn1⟩ : ∃ n, ns.length = n := ⟨_, rfl⟩
  obtain ⟨n2, hn2⟩ : ∃ n, ms.length = n := ⟨_, rfl⟩
  have HND := Lib.hid hnd
  have H1 := Lib.hid hn1
  have H2 := Lib.hid hn2
  have HS := Lib.hid hs
  rw [hnd] at cI KD BD hW0 ⊢
  rw [hn1] at KN ⊢
  rw [hn2] at KM ⊢
  obtain ⟨D, hD⟩ : ∃ b, isD d = b := ⟨_, rfl⟩
  have HD := Lib.hid hD
  rw [hD] at cI
  have h0 := Below.refl W0.heap.size W0
  have hbox : ∀ wx, Below W0.heap.size W0 wx → BoxD w.heap.size d (.slice A nd c) wx ∧ BoxA (w.heap.size + 1) o wx := fun wx h => ⟨BD.keep h, BO.keep h⟩
  have s1 : IntKind.i64.wrap ((o.val.size : Int) + (o.key.size : Int)) = (o.val.size : Int) + (o.key.size : Int) := by have := ho.val; have := ho.key; rw [IntKind.wrap_i64]; omega
  have s2 : IntKind.i64.wrap ((o.val.size : Int) + (o.key.size : Int) + (o.til.size : Int)) = (o.val.size : Int) + (o.key.size : Int) + (o.til.size : Int) := by have := ho.val; have := ho.key; have := ho.til; rw [IntKind.wrap_i64]; omega
  have s3 : IntKind.i64.wrap ((o.val.size : Int) + (o.key.size : Int) + (o.til.size : Int) + (o.old.size : Int)) = (o.val.size : Int) + (o.key.size : Int) + (o.til.size : Int) + (o.old.size : Int) := by have := ho.val; have := ho.key; have := ho.til; have := ho.old; rw [IntKind.wrap_i64]; omega
  clear hs hv hy hnd hn1 hn2 hf ht hd hg hD BD BO ho
  obtain ⟨⟨_, ⟨z0, z1, z2, z3, z4, z5⟩, y0⟩, ⟨_, ⟨o0, o1, o2, o3, o4, o5, o6, o7, o8, o9, o10⟩, y1⟩⟩ := hbox _ h0
  go_enter Tryz.func7, Tryz.ntmps7
  go_wp2_with fail
  try rw [hW0]
  clear hW0
  try go_wp2_with fail
  refine (cI _ h0).mono ?_
  rintro e w1 ⟨rfl, b⟩
  have h1 := h0.trans (b.mono h0.size)
  clear b z0 z1 z2 z3 z4 z5 y0 o0 o1 o2 o3 o4 o5 o6 o7 o8 o9 o10 y1 cI
  obtain ⟨⟨_, ⟨z0, z1, z2, z3, z4, z5⟩, y0⟩, ⟨_, ⟨o0, o1, o2, o3, o4, o5, o6, o7, o8, o9, o10⟩, y1⟩⟩ := hbox _ h1
  by_cases g1 : 40 < n1
  · have g1a : ((40 : Int) < (n1 : Int)) = True := eq_true (by omega)
    clear g1
    cases D with
    | false =>
      go_wp2_with fail
      refine (cL _ h1).mono ?_
      rintro e wz ⟨rfl, b⟩
      have hz := h1.trans (b.mono h1.size)
      go_wp2_with fail
      go_ret
      exact ⟨rfl, hb0.trans (hz.mono hb0.size)⟩
    | true =>
      go_wp2_with fail
      refine (cL _ h1).mono ?_
      rintro e wz ⟨rfl, b⟩
      have hz := h1.trans (b.mono h1.size)
      go_wp2_with fail
      go_ret
      exact ⟨rfl, hb0.trans (hz.mono hb0.size)⟩
  by_cases g2 : 40 < n2
  · have g1a : ((40 : Int) < (n1 : Int)) = False := eq_false (by omega)
    have g2a : ((40 : Int) < (n2 : Int)) = True := eq_true (by omega)
    clear g1 g2
    cases D with
    | false =>
      go_wp2_with fail
      refine (cL _ h1).mono ?_
      rintro e wz ⟨rfl, b⟩
      have hz := h1.trans (b.mono h1.size)
      go_wp2_with fail
      go_ret
      exact ⟨rfl, hb0.trans (hz.mono hb0.size)⟩
    | true =>
      go_wp2_with fail
      refine (cL _ h1).mono ?_
      rintro e wz ⟨rfl, b⟩
      have hz := h1.trans (b.mono h1.size)
      go_wp2_with fail
      go_ret
      exact ⟨rfl, hb0.trans (hz.mono hb0.size)⟩
  have g1a : ((40 : Int) < (n1 : Int)) = False := eq_false (by omega)
  have g2a : ((40 : Int) < (n2 : Int)) = False := eq_false (by omega)
  have l1 : ns.length ≤ 40 := by have := H1.out; omega
  have l2 : ms.length ≤ 40 := by have := H2.out; omega
  clear g1 g2
  by_cases g3 : 10000 < o.val.size + o.key.size + o.til.size + o.old.size
  · have g3a : ((10000 : Int) < (o.val.size : Int) + (o.key.size : Int) + (o.til.size : Int) + (o.old.size : Int)) = True := eq_true (by omega)
    clear g3
    cases D with
    | false =>
      go_wp2_with fail
      refine (cL _ h1).mono ?_
      rintro e wz ⟨rfl, b⟩
      have hz := h1.trans (b.mono h1.size)
      go_wp2_with fail
      go_ret
      exact ⟨rfl, hb0.trans (hz.mono hb0.size)⟩
    | true =>
      go_wp2_with fail
      refine (cL _ h1).mono ?_
      rintro e wz ⟨rfl, b⟩
      have hz := h1.trans (b.mono h1.size)
      go_wp2_with fail
      go_ret
      exact ⟨rfl, hb0.trans (hz.mono hb0.size)⟩
  have g3a : ((10000 : Int) < (o.val.size : Int) + (o.key.size : Int) + (o.til.size : Int) + (o.old.size : Int)) = False := eq_false (by omega)
  have hsm : smallA o = true := by unfold smallA; simp only [decide_eq_true_eq]; omega
  clear g3
  cases D with
  | false =>
    go_wp2_with fail
    refine (cL _ h1).mono ?_
    rintro e wz ⟨rfl, b⟩
    have hz := h1.trans (b.mono h1.size)
    go_wp2_with fail
    go_ret
    exact ⟨rfl, hb0.trans (hz.mono hb0.size)⟩
  | true =>
  have hd1 := HD.out
  have hd2 := HB5.out hd1
  have hnd3 : nd ≤ 1000 := by have := HND.out; omega
  have hfit := HO.out.fit hsm
  have hshort := Od.put_short hfit hsm
  obtain ⟨X, hX⟩ : ∃ X : ByteArray, X = ⟨(putA o).toArray⟩ := ⟨_, rfl⟩
  have hXs : X.size ≤ 200000 := by rw [hX]; simpa [ByteArray.size] using hshort
  have cP := fun w' => Od.rput_any o w' hfit
  obtain ⟨E, hE⟩ : ∃ E, ofD d [(0, X)] = E := ⟨_, rfl⟩
  have hEi : isD E = true := hE ▸ of_is hd1
  have hEf : E = d ∨ ∃ o, isCh o = true ∧ changeD d o = (E, 0) := hE ▸ step_form d X.data.toList
  have hEn : E.ms.length ≤ 1000 := by have := ((Ds.isD_iff E).1 hEi).2.2.2.2.1.2; omega
  have cO := fun v w' (h : Below W0.heap.size W0 w') (hv : SE w' w'.heap.size v [(0, X)]) => of_any d _ v [(0, X)] w' (KD w' h) hd1 hv (by simp) (fun e he => by obtain rfl := List.mem_singleton.1 he; show X.size ≤ _; omega) (HG.out.below (hb0.trans (h.mono hb0.size)))
  rw [hE] at cO
  have cP' : ∀ w', Calls Tryz.prog 30 #[av o] w' fun e w'' => e = .returned (.string X) ∧ Below w'.heap.size w' w'' := fun w' => by rw [hX]; exact cP w'
  obtain ⟨ne, hne⟩ : ∃ n, E.ms.length = n := ⟨_, rfl⟩
  have HNE := Lib.hid hne
  have HE1 := Lib.hid hEi
  have HE2 := Lib.hid hEf
  have HE3 := Lib.hid hEn
  have HD1 := Lib.hid hd1
  have HD2 := Lib.hid hd2
  clear cP hX hE hEi hEf hEn hne hfit hshort hd1 hd2 hsm
  go_wp2_with fail
  clear z0 z1 z2 z3 z4 z5 y0 o0 o1 o2 o3 o4 o5 o6 o7 o8 o9 o10 y1 s1 s2 s3 g1a g2a g3a
  refine St.wp_region_mixed (RM W0 E [(0, X)]) (fun j x => match j with | 2 => x = .string X | 5 => ∃ A c, x = dv E (.slice A ne c) | _ => True) (by kernel_rfl) (by kernel_rfl) (by kernel_rfl) (RM.start h1) ?_
  apply St.mix_give
  · rfl
  · intro L u' wx hS hcl hrd hag
    obtain ⟨⟨_, ⟨z0, z1, z2, z3, z4, z5⟩, y0⟩, ⟨_, ⟨o0, o1, o2, o3, o4, o5, o6, o7, o8, o9, o10⟩, y1⟩⟩ := hbox _ hS.low
    go_simp
    try with_reducible rfl
  · exact fun L u' wx hS => hS.plain (by decide) (by decide) (by decide) (by decide) _
  simp only [Act.put, List.setIfInBounds_toArray, List.set_cons_zero, List.set_cons_succ]
  apply St.mix_give
  · rfl
  · intro L u' wx hS hcl hrd hag
    obtain ⟨⟨_, ⟨z0, z1, z2, z3, z4, z5⟩, y0⟩, ⟨_, ⟨o0, o1, o2, o3, o4, o5, o6, o7, o8, o9, o10⟩, y1⟩⟩ := hbox _ hS.low
    go_simp
    try with_reducible rfl
  · exact fun L u' wx hS => hS.plain (by decide) (by decide) (by decide) (by decide) _
  simp only [Act.put, List.setIfInBounds_toArray, List.set_cons_zero, List.set_cons_succ]
  refine St.mix_into (f := 30) (args := #[av o]) rfl rfl ?_ ?_ ?_
  · intro wx
    go_simp
    try with_reducible rfl
  · intro L u' wx hS hcl hrd hag
    refine (cP' wx).mono ?_
    rintro e w' ⟨rfl, b⟩
    exact ⟨rfl, (hS.turn (St.not_yet hcl hrd 60 7 (by kernel_rfl)) b).plain (by decide) (by decide) (by decide) (by decide) _⟩
  simp only [Act.put, List.setIfInBounds_toArray, List.set_cons_zero, List.set_cons_succ]
  apply St.mix_give
  · rfl
  · intro L u' wx hS hcl hrd hag
    go_simp
    try with_reducible rfl
  · exact fun L u' wx hS => hS.plain (by decide) (by decide) (by decide) (by decide) _
  simp only [Act.put, List.setIfInBounds_toArray, List.set_cons_zero, List.set_cons_succ]
  refine St.mix_free (fun z => ∃ b, z = .slice (some ⟨b, 0, none⟩) 1 1) rfl ?_ ?_
  · intro L u' wx hS hcl hrd hag
    refine ⟨.slice (some ⟨wx.heap.size, 0, none⟩) 1 1, wx.alloc (.cells #[.int .i64 0, .string X] 51), ⟨_, rfl⟩, ?_, hS.made (St.not_yet hcl hrd 60 7 (by kernel_rfl)) ((Below.refl _ wx).alloc (Nat.le_refl _) _) (one_new wx X)⟩
    go_simp
    try with_reducible rfl
  rintro y4 ⟨b4, rfl⟩
  simp only [Act.put, List.setIfInBounds_toArray, List.set_cons_zero, List.set_cons_succ]
  refine St.mix_call (f := 19) (args := #[dv d (.slice A nd c), .slice (some ⟨b4, 0, none⟩) 1 1]) rfl ?_ ?_ ?_
  · intro wx
    go_simp
    try with_reducible rfl
  · intro L u' wx hS hcl hrd hag
    have h7 := (St.not_yet hcl hrd 60 7 (by kernel_rfl))
    have a4 := hS.arr (St.before_ready hcl hrd 5 4 (by kernel_rfl)) h7
    rw [show u' 4 = .slice (some ⟨b4, 0, none⟩) 1 1 from hag 5 4 (by kernel_rfl)] at a4
    refine (cO _ wx hS.low a4).mono ?_
    rintro e w' ⟨s6, rfl, a6, b⟩
    obtain ⟨A6, c6, rfl⟩ := a6.form
    exact ⟨_, rfl, ⟨A6, c6, by rw [HNE.out]⟩, hS.of h7 b a6⟩
  rintro y5 ⟨A5, c5, rfl⟩
  simp only [Act.put, List.setIfInBounds_toArray, List.set_cons_zero, List.set_cons_succ]
  refine St.mix_free (fun z => ∃ n : Nat, z = .pointer (some ⟨n, 0, none⟩)) rfl ?_ ?_
  · intro L u' wx hS hcl hrd hag
    refine ⟨_, _, ⟨wx.heap.size, rfl⟩, ?_, hS.boxed (St.not_yet hcl hrd 60 7 (by kernel_rfl))⟩
    go_simp
    try with_reducible rfl
  rintro y6 ⟨n9, rfl⟩
  simp only [Act.put, List.setIfInBounds_toArray, List.set_cons_zero, List.set_cons_succ]
  refine St.mix_skip rfl ?_ ?_
  · intro L u' wx hS hcl hrd hag
    have h6 := St.before_ready hcl hrd 7 6 (by kernel_rfl)
    have h5 := St.before_ready hcl hrd 7 5 (by kernel_rfl)
    obtain ⟨nb, q1, q2, q3⟩ := hS.box h6 hrd.1
    have e1 : u' 6 = .pointer (some ⟨n9, 0, none⟩) := hag 7 6 (by kernel_rfl)
    obtain rfl : nb = n9 := by
      have := q1.symm.trans e1
      injection this with e3
      injection e3 with e4
      injection e4
    have hst := hS.store h6 h5 hrd.1 e1 (hag 7 5 (by kernel_rfl))
    obtain ⟨⟨hlt, ⟨d0, d1, d2, d3, d4, d5⟩, dF⟩, _⟩ := q3
    refine ⟨_, ?_, hst⟩
    go_simp
    rfl
  simp only [Act.put]
  refine St.mix_last ?_
  intro L w4 hS hall
  obtain ⟨nb, s9, q1, q2, q3, q4⟩ := hS.fin (hall 7 (by decide))
  have h4 := hS.low
  obtain rfl : nb = n9 := by
    have q0' : Value.pointer (some ⟨n9, 0, none⟩) = .pointer (some ⟨nb, 0, none⟩) := q1
    injection q0' with e1
    injection e1 with e2
    injection e2 with e3
    exact e3.symm
  obtain ⟨A9, c9, rfl⟩ := q4.form
  rw [HNE.out] at q3 q4
  clear hS hall q1 q2 cO cP'
  have hlow : ∀ wx, Below w4.heap.size w4 wx → Below W0.heap.size W0 wx := fun wx h => h4.trans (h.mono h4.size)
  have hboxs : ∀ wx, Below w4.heap.size w4 wx → BoxD w.heap.size d (.slice A nd c) wx ∧ BoxD nb E (.slice A9 ne c9) wx := fun wx h => ⟨(hbox wx (hlow wx h)).1, q3.keep h⟩
  have K4 := fun w' (h : Below w4.heap.size w4 w') => q4.keep h
  have K5 := fun w' (h : Below w4.heap.size w4 w') => KD w' (hlow w' h)
  have cC1 := fun w' (h : Below w4.heap.size w4 w') => count_any d (.slice A nd c) _ ns w' (K5 w' h).sm HD2.out (KN w' (hlow w' h)) (by omega)
  have cC2 := fun w' (h : Below w4.heap.size w4 w') => count_any E (.slice A9 ne c9) _ ms w' (K4 w' h).sm HE3.out (KM w' (hlow w' h)) (by omega)
  have cH := fun i w' (h : Below w4.heap.size w4 w') => Ds.has_any E (.slice A9 ne c9) i w' (K4 w' h).sm (by have := HE3.out; omega)
  have cN1 := fun i w' (h : Below w4.heap.size w4 w') => rin_any _ ns i w' (KN w' (hlow w' h)) (by omega)
  have cN2 := fun i w' (h : Below w4.heap.size w4 w') => rin_any _ ms i w' (KM w' (hlow w' h)) (by omega)
  have hne3 : ne ≤ 1000 := by have := HNE.out; have := HE3.out; omega
  have cQ1 : ∀ w', Calls Tryz.prog 31 #[.int .i64 (nd : Int)] w' fun e w'' => e = .returned (.int .i64 ((nd : Int) / 2 + 1)) ∧ Below w'.heap.size w' w'' := fun w' => (Ds.quorum_any nd w' (by omega) (by omega)).mono fun e w2 h => ⟨h.1, h.2 ▸ Below.refl _ _⟩
  have cQ2 : ∀ w', Calls Tryz.prog 31 #[.int .i64 (ne : Int)] w' fun e w'' => e = .returned (.int .i64 ((ne : Int) / 2 + 1)) ∧ Below w'.heap.size w' w'' := fun w' => (Ds.quorum_any ne w' (by omega) (by omega)).mono fun e w2 h => ⟨h.1, h.2 ▸ Below.refl _ _⟩
  obtain ⟨ca, hca⟩ : ∃ n : Int, ((countM d.ms ns : Nat) : Int) = n := ⟨_, rfl⟩
  obtain ⟨ce, hce⟩ : ∃ n : Int, ((countM E.ms ms : Nat) : Int) = n := ⟨_, rfl⟩
  obtain ⟨qd, hqd⟩ : ∃ n : Int, (nd : Int) / 2 + 1 = n := ⟨_, rfl⟩
  obtain ⟨qe, hqe⟩ : ∃ n : Int, (ne : Int) / 2 + 1 = n := ⟨_, rfl⟩
  rw [hca] at cC1
  rw [hce] at cC2
  rw [hqd] at cQ1
  rw [hqe] at cQ2
  have HCA := Lib.hid hca
  have HCE := Lib.hid hce
  have HQD := Lib.hid hqd
  have HQE := Lib.hid hqe
  have h40 := Below.refl w4.heap.size w4
  clear hca hce hqd hqe q3 q4 hne3 l1 l2 hbox
  go_wp2_with fail
  by_cases gc : ca < qd
  · have gc1 : (ca < qd) = True := eq_true gc
    clear gc
    refine St.wp_region_stage (fun _ wx => Below w4.heap.size w4 wx) (by kernel_rfl) (by kernel_rfl) (by kernel_rfl) h40.drew ?_
    apply St.step_give
    · rfl
    · intro L wx hS hcl hrd
      obtain ⟨⟨_, ⟨z0, z1, z2, z3, z4, z5⟩, y0⟩, ⟨_, ⟨e0, e1, e2, e3, e4, e5⟩, y1⟩⟩ := hboxs wx hS
      go_simp
      try with_reducible rfl
    · exact fun L wx hS => hS
    simp only [Act.put, List.setIfInBounds_toArray, List.set_cons_zero, List.set_cons_succ]
    apply St.step_give
    · rfl
    · intro L wx hS hcl hrd
      go_simp
      try with_reducible rfl
    · exact fun L wx hS => hS
    simp only [Act.put, List.setIfInBounds_toArray, List.set_cons_zero, List.set_cons_succ]
    apply St.step_into
    · rfl
    · intro wx
      go_simp
      exact ⟨rfl, rfl⟩
    · intro L wx hS hcl hrd
      refine (cC1 wx hS).mono ?_
      rintro e w' ⟨rfl, b⟩
      exact ⟨rfl, hS.trans (b.mono hS.size)⟩
    simp only [Act.put, List.setIfInBounds_toArray, List.set_cons_zero, List.set_cons_succ]
    apply St.step_give
    · rfl
    · intro L wx hS hcl hrd
      go_simp
      try with_reducible rfl
    · exact fun L wx hS => hS
    simp only [Act.put, List.setIfInBounds_toArray, List.set_cons_zero, List.set_cons_succ]
    apply St.step_give
    · rfl
    · intro L wx hS hcl hrd
      obtain ⟨⟨_, ⟨z0, z1, z2, z3, z4, z5⟩, y0⟩, ⟨_, ⟨e0, e1, e2, e3, e4, e5⟩, y1⟩⟩ := hboxs wx hS
      go_simp
      try with_reducible rfl
    · exact fun L wx hS => hS
    simp only [Act.put, List.setIfInBounds_toArray, List.set_cons_zero, List.set_cons_succ]
    apply St.step_give
    · rfl
    · intro L wx hS hcl hrd
      go_simp
      try with_reducible rfl
    · exact fun L wx hS => hS
    simp only [Act.put, List.setIfInBounds_toArray, List.set_cons_zero, List.set_cons_succ]
    apply St.step_into
    · rfl
    · intro wx
      go_simp
      exact ⟨rfl, rfl⟩
    · intro L wx hS hcl hrd
      refine (cQ1 wx).mono ?_
      rintro e w' ⟨rfl, b⟩
      exact ⟨rfl, hS.trans (b.mono hS.size)⟩
    simp only [Act.put, List.setIfInBounds_toArray, List.set_cons_zero, List.set_cons_succ]
    apply St.step_give
    · rfl
    · intro L wx hS hcl hrd
      go_simp
      try with_reducible rfl
    · exact fun L wx hS => hS
    simp only [Act.put, List.setIfInBounds_toArray, List.set_cons_zero, List.set_cons_succ]
    apply St.step_give
    · rfl
    · intro L wx hS hcl hrd
      go_simp
      try with_reducible rfl
    · exact fun L wx hS => hS
    simp only [Act.put, List.setIfInBounds_toArray, List.set_cons_zero, List.set_cons_succ]
    apply St.step_past
    · rfl
    · exact fun L wx hS => hS
    simp only [Act.put, List.setIfInBounds_toArray, List.set_cons_zero, List.set_cons_succ]
    apply St.step_past
    · rfl
    · exact fun L wx hS => hS
    simp only [Act.put, List.setIfInBounds_toArray, List.set_cons_zero, List.set_cons_succ]
    apply St.step_past
    · rfl
    · exact fun L wx hS => hS
    simp only [Act.put, List.setIfInBounds_toArray, List.set_cons_zero, List.set_cons_succ]
    apply St.step_past
    · rfl
    · exact fun L wx hS => hS
    simp only [Act.put, List.setIfInBounds_toArray, List.set_cons_zero, List.set_cons_succ]
    apply St.step_past
    · rfl
    · exact fun L wx hS => hS
    simp only [Act.put, List.setIfInBounds_toArray, List.set_cons_zero, List.set_cons_succ]
    apply St.step_past
    · rfl
    · exact fun L wx hS => hS
    simp only [Act.put, List.setIfInBounds_toArray, List.set_cons_zero, List.set_cons_succ]
    apply St.step_past
    · rfl
    · exact fun L wx hS => hS
    simp only [Act.put, List.setIfInBounds_toArray, List.set_cons_zero, List.set_cons_succ]
    apply St.step_past
    · rfl
    · exact fun L wx hS => hS
    simp only [Act.put, List.setIfInBounds_toArray, List.set_cons_zero, List.set_cons_succ]
    apply St.step_give
    · rfl
    · intro L wx hS hcl hrd
      go_simp
      try with_reducible rfl
    · exact fun L wx hS => hS
    simp only [Act.put, List.setIfInBounds_toArray, List.set_cons_zero, List.set_cons_succ]
    refine St.step_last ?_
    intro _ w5 h5 _
    go_wp2_with fail
    refine (cL _ (hlow _ h5)).mono ?_
    rintro e wz ⟨rfl, b⟩
    have hz := (hlow _ h5).trans (b.mono (hlow _ h5).size)
    go_wp2_with fail
    go_ret
    exact ⟨rfl, hb0.trans (hz.mono hb0.size)⟩
  by_cases ge : ce < qe
  · have gc1 : (ca < qd) = False := eq_false gc
    have ge1 : (ce < qe) = True := eq_true ge
    clear gc ge
    refine St.wp_region_stage (fun _ wx => Below w4.heap.size w4 wx) (by kernel_rfl) (by kernel_rfl) (by kernel_rfl) h40.drew ?_
    apply St.step_give
    · rfl
    · intro L wx hS hcl hrd
      obtain ⟨⟨_, ⟨z0, z1, z2, z3, z4, z5⟩, y0⟩, ⟨_, ⟨e0, e1, e2, e3, e4, e5⟩, y1⟩⟩ := hboxs wx hS
      go_simp
      try with_reducible rfl
    · exact fun L wx hS => hS
    simp only [Act.put, List.setIfInBounds_toArray, List.set_cons_zero, List.set_cons_succ]
    apply St.step_give
    · rfl
    · intro L wx hS hcl hrd
      go_simp
      try with_reducible rfl
    · exact fun L wx hS => hS
    simp only [Act.put, List.setIfInBounds_toArray, List.set_cons_zero, List.set_cons_succ]
    apply St.step_into
    · rfl
    · intro wx
      go_simp
      exact ⟨rfl, rfl⟩
    · intro L wx hS hcl hrd
      refine (cC1 wx hS).mono ?_
      rintro e w' ⟨rfl, b⟩
      exact ⟨rfl, hS.trans (b.mono hS.size)⟩
    simp only [Act.put, List.setIfInBounds_toArray, List.set_cons_zero, List.set_cons_succ]
    apply St.step_give
    · rfl
    · intro L wx hS hcl hrd
      go_simp
      try with_reducible rfl
    · exact fun L wx hS => hS
    simp only [Act.put, List.setIfInBounds_toArray, List.set_cons_zero, List.set_cons_succ]
    apply St.step_give
    · rfl
    · intro L wx hS hcl hrd
      obtain ⟨⟨_, ⟨z0, z1, z2, z3, z4, z5⟩, y0⟩, ⟨_, ⟨e0, e1, e2, e3, e4, e5⟩, y1⟩⟩ := hboxs wx hS
      go_simp
      try with_reducible rfl
    · exact fun L wx hS => hS
    simp only [Act.put, List.setIfInBounds_toArray, List.set_cons_zero, List.set_cons_succ]
    apply St.step_give
    · rfl
    · intro L wx hS hcl hrd
      go_simp
      try with_reducible rfl
    · exact fun L wx hS => hS
    simp only [Act.put, List.setIfInBounds_toArray, List.set_cons_zero, List.set_cons_succ]
    apply St.step_into
    · rfl
    · intro wx
      go_simp
      exact ⟨rfl, rfl⟩
    · intro L wx hS hcl hrd
      refine (cQ1 wx).mono ?_
      rintro e w' ⟨rfl, b⟩
      exact ⟨rfl, hS.trans (b.mono hS.size)⟩
    simp only [Act.put, List.setIfInBounds_toArray, List.set_cons_zero, List.set_cons_succ]
    apply St.step_give
    · rfl
    · intro L wx hS hcl hrd
      go_simp
      try with_reducible rfl
    · exact fun L wx hS => hS
    simp only [Act.put, List.setIfInBounds_toArray, List.set_cons_zero, List.set_cons_succ]
    apply St.step_give
    · rfl
    · intro L wx hS hcl hrd
      go_simp
      try with_reducible rfl
    · exact fun L wx hS => hS
    simp only [Act.put, List.setIfInBounds_toArray, List.set_cons_zero, List.set_cons_succ]
    apply St.step_give
    · rfl
    · intro L wx hS hcl hrd
      obtain ⟨⟨_, ⟨z0, z1, z2, z3, z4, z5⟩, y0⟩, ⟨_, ⟨e0, e1, e2, e3, e4, e5⟩, y1⟩⟩ := hboxs wx hS
      go_simp
      try with_reducible rfl
    · exact fun L wx hS => hS
    simp only [Act.put, List.setIfInBounds_toArray, List.set_cons_zero, List.set_cons_succ]
    apply St.step_give
    · rfl
    · intro L wx hS hcl hrd
      go_simp
      try with_reducible rfl
    · exact fun L wx hS => hS
    simp only [Act.put, List.setIfInBounds_toArray, List.set_cons_zero, List.set_cons_succ]
    apply St.step_into
    · rfl
    · intro wx
      go_simp
      exact ⟨rfl, rfl⟩
    · intro L wx hS hcl hrd
      refine (cC2 wx hS).mono ?_
      rintro e w' ⟨rfl, b⟩
      exact ⟨rfl, hS.trans (b.mono hS.size)⟩
    simp only [Act.put, List.setIfInBounds_toArray, List.set_cons_zero, List.set_cons_succ]
    apply St.step_give
    · rfl
    · intro L wx hS hcl hrd
      go_simp
      try with_reducible rfl
    · exact fun L wx hS => hS
    simp only [Act.put, List.setIfInBounds_toArray, List.set_cons_zero, List.set_cons_succ]
    apply St.step_give
    · rfl
    · intro L wx hS hcl hrd
      obtain ⟨⟨_, ⟨z0, z1, z2, z3, z4, z5⟩, y0⟩, ⟨_, ⟨e0, e1, e2, e3, e4, e5⟩, y1⟩⟩ := hboxs wx hS
      go_simp
      try with_reducible rfl
    · exact fun L wx hS => hS
    simp only [Act.put, List.setIfInBounds_toArray, List.set_cons_zero, List.set_cons_succ]
    apply St.step_give
    · rfl
    · intro L wx hS hcl hrd
      go_simp
      try with_reducible rfl
    · exact fun L wx hS => hS
    simp only [Act.put, List.setIfInBounds_toArray, List.set_cons_zero, List.set_cons_succ]
    apply St.step_into
    · rfl
    · intro wx
      go_simp
      exact ⟨rfl, rfl⟩
    · intro L wx hS hcl hrd
      refine (cQ2 wx).mono ?_
      rintro e w' ⟨rfl, b⟩
      exact ⟨rfl, hS.trans (b.mono hS.size)⟩
    simp only [Act.put, List.setIfInBounds_toArray, List.set_cons_zero, List.set_cons_succ]
    apply St.step_give
    · rfl
    · intro L wx hS hcl hrd
      go_simp
      try with_reducible rfl
    · exact fun L wx hS => hS
    simp only [Act.put, List.setIfInBounds_toArray, List.set_cons_zero, List.set_cons_succ]
    apply St.step_give
    · rfl
    · intro L wx hS hcl hrd
      go_simp
      try with_reducible rfl
    · exact fun L wx hS => hS
    simp only [Act.put, List.setIfInBounds_toArray, List.set_cons_zero, List.set_cons_succ]
    refine St.step_last ?_
    intro _ w5 h5 _
    go_wp2_with fail
    refine (cL _ (hlow _ h5)).mono ?_
    rintro e wz ⟨rfl, b⟩
    have hz := (hlow _ h5).trans (b.mono (hlow _ h5).size)
    go_wp2_with fail
    go_ret
    exact ⟨rfl, hb0.trans (hz.mono hb0.size)⟩
  have gc1 : (ca < qd) = False := eq_false gc
  have ge1 : (ce < qe) = False := eq_false ge
  have HGC := Lib.hid gc
  have HGE := Lib.hid ge
  clear gc ge
  refine St.wp_region_stage (fun _ wx => Below w4.heap.size w4 wx) (by kernel_rfl) (by kernel_rfl) (by kernel_rfl) h40.drew ?_
  apply St.step_give
  · rfl
  · intro L wx hS hcl hrd
    obtain ⟨⟨_, ⟨z0, z1, z2, z3, z4, z5⟩, y0⟩, ⟨_, ⟨e0, e1, e2, e3, e4, e5⟩, y1⟩⟩ := hboxs wx hS
    go_simp
    try with_reducible rfl
  · exact fun L wx hS => hS
  simp only [Act.put, List.setIfInBounds_toArray, List.set_cons_zero, List.set_cons_succ]
  apply St.step_give
  · rfl
  · intro L wx hS hcl hrd
    go_simp
    try with_reducible rfl
  · exact fun L wx hS => hS
  simp only [Act.put, List.setIfInBounds_toArray, List.set_cons_zero, List.set_cons_succ]
  apply St.step_into
  · rfl
  · intro wx
    go_simp
    exact ⟨rfl, rfl⟩
  · intro L wx hS hcl hrd
    refine (cC1 wx hS).mono ?_
    rintro e w' ⟨rfl, b⟩
    exact ⟨rfl, hS.trans (b.mono hS.size)⟩
  simp only [Act.put, List.setIfInBounds_toArray, List.set_cons_zero, List.set_cons_succ]
  apply St.step_give
  · rfl
  · intro L wx hS hcl hrd
    go_simp
    try with_reducible rfl
  · exact fun L wx hS => hS
  simp only [Act.put, List.setIfInBounds_toArray, List.set_cons_zero, List.set_cons_succ]
  apply St.step_give
  · rfl
  · intro L wx hS hcl hrd
    obtain ⟨⟨_, ⟨z0, z1, z2, z3, z4, z5⟩, y0⟩, ⟨_, ⟨e0, e1, e2, e3, e4, e5⟩, y1⟩⟩ := hboxs wx hS
    go_simp
    try with_reducible rfl
  · exact fun L wx hS => hS
  simp only [Act.put, List.setIfInBounds_toArray, List.set_cons_zero, List.set_cons_succ]
  apply St.step_give
  · rfl
  · intro L wx hS hcl hrd
    go_simp
    try with_reducible rfl
  · exact fun L wx hS => hS
  simp only [Act.put, List.setIfInBounds_toArray, List.set_cons_zero, List.set_cons_succ]
  apply St.step_into
  · rfl
  · intro wx
    go_simp
    exact ⟨rfl, rfl⟩
  · intro L wx hS hcl hrd
    refine (cQ1 wx).mono ?_
    rintro e w' ⟨rfl, b⟩
    exact ⟨rfl, hS.trans (b.mono hS.size)⟩
  simp only [Act.put, List.setIfInBounds_toArray, List.set_cons_zero, List.set_cons_succ]
  apply St.step_give
  · rfl
  · intro L wx hS hcl hrd
    go_simp
    try with_reducible rfl
  · exact fun L wx hS => hS
  simp only [Act.put, List.setIfInBounds_toArray, List.set_cons_zero, List.set_cons_succ]
  apply St.step_give
  · rfl
  · intro L wx hS hcl hrd
    go_simp
    try with_reducible rfl
  · exact fun L wx hS => hS
  simp only [Act.put, List.setIfInBounds_toArray, List.set_cons_zero, List.set_cons_succ]
  apply St.step_give
  · rfl
  · intro L wx hS hcl hrd
    obtain ⟨⟨_, ⟨z0, z1, z2, z3, z4, z5⟩, y0⟩, ⟨_, ⟨e0, e1, e2, e3, e4, e5⟩, y1⟩⟩ := hboxs wx hS
    go_simp
    try with_reducible rfl
  · exact fun L wx hS => hS
  simp only [Act.put, List.setIfInBounds_toArray, List.set_cons_zero, List.set_cons_succ]
  apply St.step_give
  · rfl
  · intro L wx hS hcl hrd
    go_simp
    try with_reducible rfl
  · exact fun L wx hS => hS
  simp only [Act.put, List.setIfInBounds_toArray, List.set_cons_zero, List.set_cons_succ]
  apply St.step_into
  · rfl
  · intro wx
    go_simp
    exact ⟨rfl, rfl⟩
  · intro L wx hS hcl hrd
    refine (cC2 wx hS).mono ?_
    rintro e w' ⟨rfl, b⟩
    exact ⟨rfl, hS.trans (b.mono hS.size)⟩
  simp only [Act.put, List.setIfInBounds_toArray, List.set_cons_zero, List.set_cons_succ]
  apply St.step_give
  · rfl
  · intro L wx hS hcl hrd
    go_simp
    try with_reducible rfl
  · exact fun L wx hS => hS
  simp only [Act.put, List.setIfInBounds_toArray, List.set_cons_zero, List.set_cons_succ]
  apply St.step_give
  · rfl
  · intro L wx hS hcl hrd
    obtain ⟨⟨_, ⟨z0, z1, z2, z3, z4, z5⟩, y0⟩, ⟨_, ⟨e0, e1, e2, e3, e4, e5⟩, y1⟩⟩ := hboxs wx hS
    go_simp
    try with_reducible rfl
  · exact fun L wx hS => hS
  simp only [Act.put, List.setIfInBounds_toArray, List.set_cons_zero, List.set_cons_succ]
  apply St.step_give
  · rfl
  · intro L wx hS hcl hrd
    go_simp
    try with_reducible rfl
  · exact fun L wx hS => hS
  simp only [Act.put, List.setIfInBounds_toArray, List.set_cons_zero, List.set_cons_succ]
  apply St.step_into
  · rfl
  · intro wx
    go_simp
    exact ⟨rfl, rfl⟩
  · intro L wx hS hcl hrd
    refine (cQ2 wx).mono ?_
    rintro e w' ⟨rfl, b⟩
    exact ⟨rfl, hS.trans (b.mono hS.size)⟩
  simp only [Act.put, List.setIfInBounds_toArray, List.set_cons_zero, List.set_cons_succ]
  apply St.step_give
  · rfl
  · intro L wx hS hcl hrd
    go_simp
    try with_reducible rfl
  · exact fun L wx hS => hS
  simp only [Act.put, List.setIfInBounds_toArray, List.set_cons_zero, List.set_cons_succ]
  apply St.step_give
  · rfl
  · intro L wx hS hcl hrd
    go_simp
    try with_reducible rfl
  · exact fun L wx hS => hS
  simp only [Act.put, List.setIfInBounds_toArray, List.set_cons_zero, List.set_cons_succ]
  refine St.step_last ?_
  intro _ w5 h5 _
  clear gc1 ge1 cC1 cC2 cQ1 cQ2 h40
  go_wp2_with fail
  go_loopw [10] (fun vi wr => ∃ k : Nat, k ≤ nd ∧ vi = .int .i64 (k : Int) ∧ NoneYet d.ms E.ms ns ms k ∧ Below w4.heap.size w4 wr) (fun vi _ => nd - (intOf vi).toNat)
  case atStart => exact ⟨0, Nat.zero_le _, rfl, NoneYet.zero _ _ _ _, h5⟩
  case round =>
    obtain ⟨k, hk, rfl, hno, hbw⟩ := hrel
    have HNO := Lib.hid hno
    clear hno
    by_cases hlt : k < nd
    · have hkl : k < d.ms.length := by rw [HND.out]; exact hlt
      obtain ⟨b, o', hA, hb, q0, q1⟩ := (K5 wr hbw).sm.at_ hkl
      obtain ⟨⟨m1, m2⟩, hm⟩ : ∃ m, d.ms[k] = m := ⟨_, rfl⟩
      rw [hm] at q0 q1
      simp only at q0 q1
      have HM := Lib.hid (show d.ms[k]? = some (m1, m2) by rw [List.getElem?_eq_getElem hkl, hm])
      have k0 : (0 ≤ (k : Int)) = True := eq_true (by omega)
      have k1 : ((k : Int) < (nd : Int)) = True := eq_true (by omega)
      clear hm hkl
      subst hA
      obtain ⟨⟨_, ⟨z0, z1, z2, z3, z4, z5⟩, y0⟩, ⟨_, ⟨e0, e1, e2, e3, e4, e5⟩, y1⟩⟩ := hboxs wr hbw
      go_wp2_with fail
      refine (cH _ _ hbw).mono ?_
      rintro e' w6 ⟨rfl, b6⟩
      have h6 := hbw.trans (b6.mono hbw.size)
      have hs6 := h6.size
      clear b6 z0 z1 z2 z3 z4 z5 y0 e0 e1 e2 e3 e4 e5 y1
      obtain ⟨R, hR⟩ : ∃ R, hasM m2 E.ms = R := ⟨_, rfl⟩
      have HR := Lib.hid hR
      rw [hR]
      clear hR
      cases R with
      | none =>
        have HNXT := HNO.out.next HM.out (fun h => by have := h.1; simp [HR.out] at this)
        simp only [optV]
        go_wp2_with fail
        go_roundw
        case rel => exact ⟨k + 1, by omega, by go_num, HNXT, (by (repeat' (first | with_reducible assumption | with_reducible exact Below.refl _ _ | with_reducible refine Below.alloc ?_ ?_ _ | with_reducible refine Below.setCell ?_ ?_ _ | with_reducible refine Below.drew ?_ | omega | (simp; done) | (simp; omega))))⟩
        case measure => simp [intOf]; omega
      | some x =>
        simp only [optV]
        obtain ⟨R1, hR1⟩ : ∃ r, decide (m2 ∈ ns) = r := ⟨_, rfl⟩
        obtain ⟨R2, hR2⟩ : ∃ r, decide (m2 ∈ ms) = r := ⟨_, rfl⟩
        have cN1' := cN1 m2
        have cN2' := cN2 m2
        rw [hR1] at cN1'
        rw [hR2] at cN2'
        have HR1 := Lib.hid hR1
        have HR2 := Lib.hid hR2
        clear hR1 hR2
        go_wp2_with fail
        refine (cN1' _ (by (repeat' (first | with_reducible assumption | with_reducible exact Below.refl _ _ | with_reducible refine Below.alloc ?_ ?_ _ | with_reducible refine Below.setCell ?_ ?_ _ | with_reducible refine Below.drew ?_ | omega | (simp; done) | (simp; omega))))).mono ?_
        rintro e' w7 ⟨rfl, hw7⟩
        subst hw7
        cases R1 with
        | false =>
          have HNXT := HNO.out.next HM.out (fun h => by have := h.2.1; have h2 := HR1.out; simp [this] at h2)
          go_wp2_with fail
          go_roundw
          case rel => exact ⟨k + 1, by omega, by go_num, HNXT, (by (repeat' (first | with_reducible assumption | with_reducible exact Below.refl _ _ | with_reducible refine Below.alloc ?_ ?_ _ | with_reducible refine Below.setCell ?_ ?_ _ | with_reducible refine Below.drew ?_ | omega | (simp; done) | (simp; omega))))⟩
          case measure => simp [intOf]; omega
        | true =>
          go_wp2_with fail
          refine (cN2' _ (by (repeat' (first | with_reducible assumption | with_reducible exact Below.refl _ _ | with_reducible refine Below.alloc ?_ ?_ _ | with_reducible refine Below.setCell ?_ ?_ _ | with_reducible refine Below.drew ?_ | omega | (simp; done) | (simp; omega))))).mono ?_
          rintro e' w8 ⟨rfl, hw8⟩
          subst hw8
          cases R2 with
          | false =>
            have HNXT := HNO.out.next HM.out (fun h => by have := h.2.2; have h2 := HR2.out; simp [this] at h2)
            go_wp2_with fail
            go_roundw
            case rel => exact ⟨k + 1, by omega, by go_num, HNXT, (by (repeat' (first | with_reducible assumption | with_reducible exact Below.refl _ _ | with_reducible refine Below.alloc ?_ ?_ _ | with_reducible refine Below.setCell ?_ ?_ _ | with_reducible refine Below.drew ?_ | omega | (simp; done) | (simp; omega))))⟩
            case measure => simp [intOf]; omega
          | true =>
            go_wp2_with fail
            have h7 : Below w4.heap.size w4 (w6.alloc (.cells #[.int .i64 x.1, .int .i64 x.2] 54)) := h6.alloc hs6 _
            refine (cL _ (hlow _ h7)).mono ?_
            rintro e wz ⟨rfl, b⟩
            have hz := h7.trans (b.mono h7.size)
            go_wp2_with fail
            go_ret
            exact ⟨rfl, hb0.trans ((hlow _ hz).mono hb0.size)⟩
    · obtain rfl : k = nd := by omega
      exfalso
      have e1 := HND.out
      have e2 := HNE.out
      refine (show NoneYet d.ms E.ms ns ms d.ms.length by rw [e1]; exact HNO.out).end HD1.out HE2.out ?_ ?_
      · have h1 := HGC.out
        have h2 := HCA.out
        have h3 := HQD.out
        omega
      · have h1 := HGE.out
        have h2 := HCE.out
        have h3 := HQE.out
        omega
end Go.Proofs.YtlcobgpgggegdaaGreatDoor.Mb

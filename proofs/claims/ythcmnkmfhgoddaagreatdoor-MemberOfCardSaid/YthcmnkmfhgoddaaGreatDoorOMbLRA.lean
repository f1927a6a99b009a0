/-
  Put, the document's: an order's text. Conditions: its texts at most 2^20 bytes; its numbers such as a program can hold.
  The laws' own three and live: live answers true. Condition: the library's variables hold what their types allow.
  Drawn regions whose operations hand on lists of entries and descriptors; an append of entries onto a list of no length and no room. Condition: at most 1,000,000 entries.
  The document's own word on whether a descriptor may be. Conditions: texts at most 2^47 bytes.
-/
import Derived.Test.YthcmnkmfhgoddaaGreatDoorOOdPCA
import Derived.Test.YthcmnkmfhgoddaaGreatDoorOMbMA
import Derived.Test.YthcmnkmfhgoddaaGreatDoorOMbOfA
import Derived.Test.YthcmnkmfhgoddaaGreatDoorOMbCSA
import Derived.Test.YthcmnkmfhgoddaaGreatDoorORegA
import Derived.Test.YthcmnkmfhgoddaaGreatDoorODsSMA
import Derived.BigQuiet
namespace Go.Proofs.YthcmnkmfhgoddaaGreatDoor.Od
open Go.RowKit Bnd
open Go.Proofs.YthcmnkmfhgoddaaGreatDoor.M (tieT numT inR)
open Ds (nb nb_size own_new)
set_option maxHeartbeats 8000000 in
set_option maxRecDepth 100000 in
theorem rput_any (o : Ask) (w : World) (h : FitA o) : Calls Tryz.prog 21 #[av o] w fun e w' => e = .returned (str (putA o)) ∧ Below w.heap.size w w' := by
  have hfew := few_strS h
  have HT := Lib.hid (texts_strS o)
  have c1 : ∀ n w, inR n → Calls Tryz.prog 58 #[.int .i64 n] w fun e w' => e = .returned (.string (nb n)) ∧ Below w.heap.size w w' := fun n w h => ((rnum_any n w h).mono fun e w2 h => ⟨h.1, h.2 ▸ Below.refl _ _⟩)
  have c2 : ∀ w, Calls Tryz.prog 59 #[.bool o.has] w fun e w' => e = .returned (.string (tb o.has)) ∧ w = w' := fun w => rtruth_any o.has w
  obtain ⟨W1, hW1⟩ : ∃ W1, w.alloc (.cells #[.int .i64 o.kind, .int .i64 o.client, .int .i64 o.seq, .string o.key, .string o.til, .string o.val, .string o.old, .bool o.has, .int .i64 o.lim, .int .i64 o.id, .int .i64 o.node] 40) = W1 := ⟨_, rfl⟩
  have B0 : BoxA w.heap.size o W1 := hW1 ▸ BoxA.new w o
  have hz1 : W1.heap.size = w.heap.size + 1 := by rw [← hW1]; simp
  have hbw1 : Below w.heap.size w W1 := by rw [← hW1]; exact (Below.refl _ w).alloc (Nat.le_refl _) _
  have call : ∀ n wx, inR n → Below W1.heap.size W1 wx → Calls Tryz.prog 58 #[.int .i64 n] wx fun e w' => e = .returned (.string (nb n)) ∧ Below W1.heap.size W1 w' := by
    intro n wx hn hx
    refine (c1 n wx hn).mono ?_
    rintro e w' ⟨rfl, b⟩
    exact ⟨rfl, hx.trans (b.mono hx.size)⟩
  have call2 : ∀ wx, Below W1.heap.size W1 wx → Calls Tryz.prog 59 #[.bool o.has] wx fun e w' => e = .returned (.string (tb o.has)) ∧ Below W1.heap.size W1 w' := by
    intro wx hx
    refine (c2 wx).mono ?_
    rintro e w' ⟨rfl, rfl⟩
    exact ⟨rfl, hx⟩
  have hI1 := h.r.kind
  have hI2 := h.r.client
  have hI3 := h.r.seq
  have hI4 := h.r.lim
  have hI5 := h.r.id
  have hI6 := h.r.node
  have hbox : ∀ wx, Below W1.heap.size W1 wx → BoxA w.heap.size o wx := fun wx hx => BoxA.kept (N := W1.heap.size) B0 (by omega) hx
  go_enter Tryz.func21, Tryz.ntmps21
  go_wp2
  try rw [hW1]
  refine St.wp_region_tail 29 (fun _ wx => Below W1.heap.size W1 wx) (by kernel_rfl) (by kernel_rfl) (by kernel_rfl) (by kernel_rfl) (by decide) (Below.refl _ _).drew ?_
  simp only [List.take, List.drop]
  repeat (first
    | (apply St.step_give
       · rfl
       · intro L wx hS hcl hrd
         obtain ⟨_, ⟨d0, d1, d2, d3, d4, d5, d6, d7, d8, d9, d10⟩, _⟩ := hbox wx hS
         go_simp
         try with_reducible rfl
       · exact fun L wx hS => hS
       simp only [Act.put, List.setIfInBounds_toArray, List.set_cons_zero, List.set_cons_succ])
    | (apply St.step_into
       · rfl
       · intro wx
         go_simp
         exact ⟨rfl, rfl⟩
       · first
         | exact fun L wx hS hcl hrd => call2 wx hS
         | exact fun L wx hS hcl hrd => call _ wx (by first | exact hI1 | exact hI2 | exact hI3 | exact hI4 | exact hI5 | exact hI6) hS
       simp only [Act.put, List.setIfInBounds_toArray, List.set_cons_zero, List.set_cons_succ]))
  refine St.step_last ?_
  intro L wx hS _
  clear hI1 hI2 hI3 hI4 hI5 hI6 call call2
  have hz : W1.heap.size ≤ wx.heap.size := hS.size
  have hown0 := own_new wx W1.heap.size (strS o) hz (by simp [strS])
  have hsl := SL.of_own hown0
  have ct := (rtie_any _ (strS o) _ hsl hfew).mono (R' := fun e w2 => e = .returned (str (M.tieT (texts (strS o)))) ∧ Below (wx.alloc (.cells #[.string (nb o.kind), .string (nb o.client), .string (nb o.seq), .string o.key, .string o.til, .string o.val, .string o.old, .string (tb o.has), .string (nb o.lim), .string (nb o.id), .string (nb o.node)] 9)).heap.size (wx.alloc (.cells #[.string (nb o.kind), .string (nb o.client), .string (nb o.seq), .string o.key, .string o.til, .string o.val, .string o.old, .string (tb o.has), .string (nb o.lim), .string (nb o.id), .string (nb o.node)] 9)) w2) fun e w2 h => ⟨h.1, h.2 ▸ Below.refl _ _⟩
  rw [HT.out] at ct
  have hS1 := hS.alloc hz (.cells #[.string (nb o.kind), .string (nb o.client), .string (nb o.seq), .string o.key, .string o.til, .string o.val, .string o.old, .string (tb o.has), .string (nb o.lim), .string (nb o.id), .string (nb o.node)] 9)
  have ct2 : Calls Tryz.prog 57 #[.slice (some ⟨wx.heap.size, 0, none⟩) 11 11] (wx.alloc (.cells #[.string (nb o.kind), .string (nb o.client), .string (nb o.seq), .string o.key, .string o.til, .string o.val, .string o.old, .string (tb o.has), .string (nb o.lim), .string (nb o.id), .string (nb o.node)] 9)) fun e w' => e = .returned (str (putA o)) ∧ Below W1.heap.size W1 w' := by
    refine ct.mono ?_
    rintro e w' ⟨rfl, b⟩
    exact ⟨rfl, hS1.trans (b.mono hS1.size)⟩
  clear hown0 hW1 hsl ct hS1 hS hfew hbox
  go_wp2_with fail
  refine ct2.mono ?_
  rintro e w2 ⟨rfl, b2⟩
  go_wp2_with fail
  go_ret
  exact ⟨rfl, hbw1.trans (b2.mono (by omega))⟩
end Go.Proofs.YthcmnkmfhgoddaaGreatDoor.Od

namespace Go.Proofs.YthcmnkmfhgoddaaGreatDoor.Mb
open Go.RowKit Bnd
open Go.Proofs.YthcmnkmfhgoddaaGreatDoor.Ds (De SM ArgM dv BoxD)
open Go.Proofs.YthcmnkmfhgoddaaGreatDoor.Dp (SI Ph HA qv isP)
open Go.Proofs.YthcmnkmfhgoddaaGreatDoor.Od (av putA)
open Go.Proofs.YthcmnkmfhgoddaaGreatDoor.Ro (SE)
theorem three_any (w : World) : Calls Tryz.prog 39 #[] w (GaveX w dT) := by
  go_enter Tryz.func39, Tryz.ntmps39
  go_wp2_with fail
  refine bodyPost_ret (Ds.res_box Tryz.results39 rfl ((BoxD.new w dT (.slice (some ⟨w.heap.size + 1, 0, none⟩) 3 3)).alloc _)) rfl ⟨_, rfl, .some (w.heap.size + 1) 0 3 dT.ms ⟨_, _, rfl, fun _ => ⟨w.heap.size + 1, 0, rfl, by simp, fun i hi => ?_⟩⟩, (by (repeat' (first | with_reducible assumption | with_reducible exact Below.refl _ _ | with_reducible refine Below.alloc ?_ ?_ _ | with_reducible refine Below.setCell ?_ ?_ _ | with_reducible refine Below.drew ?_ | omega | (simp; done) | (simp; omega))))⟩
  have hi3 : i < 3 := hi
  match i, hi3 with
  | 0, _ => exact ⟨by simp [go_sem, dT], by simp [go_sem, dT]⟩
  | 1, _ => exact ⟨by simp [go_sem, dT], by simp [go_sem, dT]⟩
  | 2, _ => exact ⟨by simp [go_sem, dT], by simp [go_sem, dT]⟩
def phT (s : Value) : Ph := ⟨dT, s, [], .slice none 0 0, [], .slice none 0 0, false, [], .slice none 0 0, 0⟩
theorem phT_ha {w : World} {s : Value} (h : ArgM w s dT.ms) : HA w (phT s) := ⟨h, .nil, .nil, (fun z hz => by cases hz), .nil, Dp.Room.nil, Dp.Room.nil⟩
theorem pT_is : isP pT = true := by kernel_rfl
theorem fit_oA : Od.FitA oA := ⟨in_oA, by decide, by decide, by decide, by decide⟩
theorem se_two {W : World} {n : Nat} {T : ByteArray} (hn : n < W.heap.size) (h0 : W.cell? ⟨n, 0, none⟩ = some (.int .i64 0)) (h1 : W.cell? ⟨n, 1, none⟩ = some (.string ⟨#[120]⟩)) (h2 : W.cell? ⟨n, 2, none⟩ = some (.int .i64 0)) (h3 : W.cell? ⟨n, 3, none⟩ = some (.string T)) :
    SE W W.heap.size (.slice (some ⟨n, 0, none⟩) 2 2) [(0, ⟨#[120]⟩), (0, T)] := by
  refine ⟨_, _, rfl, fun _ => ⟨n, 0, rfl, hn, fun i hi => ?_⟩⟩
  have hi2 : i < 2 := hi
  match i, hi2 with
  | 0, _ => exact ⟨h0, h1⟩
  | 1, _ => exact ⟨h2, h3⟩
theorem si_three {W : World} {n : Nat} {a b c : Int} (hn : n < W.heap.size) (h0 : W.cell? ⟨n, 0, none⟩ = some (.int .i64 a)) (h1 : W.cell? ⟨n, 1, none⟩ = some (.int .i64 b)) (h2 : W.cell? ⟨n, 2, none⟩ = some (.int .i64 c)) :
    SI W W.heap.size (.slice (some ⟨n, 0, none⟩) 3 3) [a, b, c] := by
  refine ⟨_, _, rfl, fun _ => ⟨n, 0, rfl, hn, fun i hi => ?_⟩⟩
  have hi3 : i < 3 := hi
  match i, hi3 with
  | 0, _ => exact h0
  | 1, _ => exact h1
  | 2, _ => exact h2
set_option maxHeartbeats 16000000 in
set_option maxRecDepth 100000 in
theorem live_any (w : World) (hg : Good w) : Calls Tryz.prog 11 #[] w fun e w' => e = .returned (.bool true) ∧ Below w.heap.size w w' := by
  obtain ⟨T, hT⟩ : ∃ T : ByteArray, T = ⟨(putA oA).toArray⟩ := ⟨_, rfl⟩
  have hlen : (putA oA).length ≤ 500 := by
    have := Od.putA_length fit_oA
    have e : (oA.key.size, oA.til.size, oA.val.size, oA.old.size) = (1, 0, 0, 0) := rfl
    injection e with e1 e2
    injection e2 with e2 e3
    injection e3 with e3 e4
    omega
  have hTs : T.size ≤ 500 := by rw [hT]; simp [ByteArray.size]; exact hlen
  have cT := three_any
  have cP : ∀ w, Calls Tryz.prog 21 #[.agg #[.int .i64 10, .int .i64 1, .int .i64 1, .string ⟨#[107]⟩, .string ⟨#[]⟩, .string ⟨#[]⟩, .string ⟨#[]⟩, .bool false, .int .i64 0, .int .i64 0, .int .i64 4]] w fun e w' => e = .returned (.string T) ∧ Below w.heap.size w w' := fun w => by
    rw [hT]
    exact Od.rput_any oA w fit_oA
  have cO : ∀ s v w', ArgM w' s dT.ms → SE w' w'.heap.size v [(0, ⟨#[120]⟩), (0, T)] → Good w' → Calls Tryz.prog 13 #[dv dT s, v] w' (GaveX w' dF) := fun s v w' h1 h2 h3 => by
    have := of_any dT s v [(0, ⟨#[120]⟩), (0, T)] w' h1 dT_is h2 (by simp) (fun e he => by
      simp only [List.mem_cons, List.not_mem_nil, or_false] at he
      rcases he with rfl | rfl
      · show (1 : Nat) ≤ _; omega
      · show T.size ≤ _; omega) h3
    rw [hT, live_of rfl (by omega)] at this
    exact this
  have cG : ∀ v w', SI w' w'.heap.size v [5, 9, 7] → Calls Tryz.prog 40 #[v] w' fun e w'' => e = .returned (.int .i64 7) ∧ Below w'.heap.size w' w'' := fun v w' h => by
    have := agreed_any v [5, 9, 7] w' h (by simp) (by decide)
    rw [live_ag] at this
    exact this
  have cC : ∀ s v w', ArgM w' s dF.ms → SI w' w'.heap.size v [2, 4, 9] → Calls Tryz.prog 41 #[dv dF s, v] w' fun e w'' => e = .returned (.int .i64 2) ∧ Below w'.heap.size w' w'' := fun s v w' h1 h2 => by
    have := count_any dF s v [2, 4, 9] w' h1.sm (by decide) h2 (by simp)
    rw [live_count] at this
    exact this
  have cM : ∀ s w', ArgM w' s dT.ms → Good w' → Calls Tryz.prog 17 #[qv (phT s), .agg #[.int .i64 11, .int .i64 1, .int .i64 1, .string ⟨#[107]⟩, .string ⟨#[]⟩, .string ⟨#[]⟩, .string ⟨#[]⟩, .bool false, .int .i64 0, .int .i64 2, .int .i64 0]] w' fun e w'' => e = .returned (.bool true) ∧ Below w'.heap.size w' w'' := fun s w' h h2 => by
    have := may_any (phT s) oR w' (phT_ha h) pT_is (by decide) (by decide) (by decide) h2
    rw [show Pt.mayP (phT s).pl oR = true from live_may] at this
    exact this
  clear hT hTs hlen
  go_enter Tryz.func11, Tryz.ntmps11
  go_wp2_with fail
  refine (cT _).mono ?_
  rintro e w1 ⟨s1, rfl, ha1, b1⟩
  obtain ⟨A1, c1, rfl⟩ := ha1.form
  go_wp2_with fail
  refine (cP _).mono ?_
  rintro e w2 ⟨rfl, b2⟩
  have hb2 := b1.trans (b2.mono b1.size)
  have ha2 := ha1.keep b2
  clear ha1 b1 b2 cP
  go_wp2_with fail
  have hx : Below w2.heap.size w2 (w2.alloc (.cells #[.int .i64 0, .string ⟨#[120]⟩, .int .i64 0, .string T] 47)) := (Below.refl _ w2).alloc (Nat.le_refl _) _
  refine (cO _ _ _ (ha2.keep hx) (se_two (by simp) (by simp [go_sem]) (by simp [go_sem]) (by simp [go_sem]) (by simp [go_sem])) (hg.below (hb2.trans (hx.mono hb2.size)))).mono ?_
  rintro e w3 ⟨s3, rfl, ha3, b3⟩
  obtain ⟨A3, c3, hs3⟩ := ha3.form
  rw [show dF.ms.length = 4 from rfl] at hs3
  subst hs3
  have hb3 : Below w.heap.size w w3 := hb2.trans ((hx.trans (b3.mono (by simp))).mono hb2.size)
  have B1 := BoxD.new w3 dF (.slice A3 4 c3)
  have h34 : Below w3.heap.size w3 (w3.alloc (.cells #[.int .i64 dF.id, .string dF.f, .string dF.t, .int .i64 dF.gen, .slice A3 4 c3, .int .i64 dF.next] 26)) := (Below.refl _ w3).alloc (Nat.le_refl _) _
  obtain ⟨W4, hW4⟩ : ∃ W4, w3.alloc (.cells #[.int .i64 dF.id, .string dF.f, .string dF.t, .int .i64 dF.gen, .slice A3 4 c3, .int .i64 dF.next] 26) = W4 := ⟨_, rfl⟩
  rw [hW4] at B1 h34
  have hb4 := hb3.trans (h34.mono hb3.size)
  have ha4 := ha3.keep h34
  clear ha2 ha3 hx b3 hb2 hb3 h34 cO
  go_wp2_with fail
  try rw [hW4]
  clear hW4
  go_wp2_with fail
  have hx1 : Below W4.heap.size W4 (W4.alloc (.cells #[.int .i64 5, .int .i64 9, .int .i64 7] 2)) := (Below.refl _ W4).alloc (Nat.le_refl _) _
  refine (cG _ _ (si_three (by simp) (by simp [go_sem]) (by simp [go_sem]) (by simp [go_sem]))).mono ?_
  rintro e w5 ⟨rfl, b5⟩
  have h45 := hx1.trans (b5.mono hx1.size)
  have B5 := B1.keep h45
  have hb5 := hb4.trans (h45.mono hb4.size)
  have ha5 := ha4.keep h45
  clear b5 hx1 B1 hb4 ha4 h45 cG
  obtain ⟨q_0, ⟨q_1, q_2, q_3, q_4, q_5, q_6⟩, q_7⟩ := _root_.id B5
  simp only [dF] at q_1 q_2 q_3 q_4 q_6
  go_wp2_with fail
  have hx2 : Below w5.heap.size w5 (w5.alloc (.cells #[.int .i64 2, .int .i64 4, .int .i64 9] 2)) := (Below.refl _ w5).alloc (Nat.le_refl _) _
  refine (cC _ _ _ (ha5.keep hx2) (si_three (by simp) (by simp [go_sem]) (by simp [go_sem]) (by simp [go_sem]))).mono ?_
  rintro e w6 ⟨rfl, b6⟩
  have h56 := hx2.trans (b6.mono hx2.size)
  have hb6 := hb5.trans (h56.mono hb5.size)
  clear b6 hx2 B5 hb5 ha5 h56 cC q_0 q_1 q_2 q_3 q_4 q_5 q_6 q_7
  go_wp2_with fail
  refine (cT _).mono ?_
  rintro e w7 ⟨s7, rfl, ha7, b7⟩
  obtain ⟨A7, c7, rfl⟩ := ha7.form
  have hb7 := hb6.trans (b7.mono hb6.size)
  have cM7 := cM _ _ ha7 (hg.below hb7)
  clear b7 hb6 cT cM hg
  go_wp2_with fail
  refine cM7.mono ?_
  rintro e w8 ⟨rfl, b8⟩
  have hb8 := hb7.trans (b8.mono hb7.size)
  clear b8 hb7 cM7
  go_wp2_with fail
  go_ret
  exact ⟨rfl, hb8⟩
end Go.Proofs.YthcmnkmfhgoddaaGreatDoor.Mb

namespace Go.Proofs.YthcmnkmfhgoddaaGreatDoor.Mb
open Go.RowKit Bnd
open Go.Proofs.YthcmnkmfhgoddaaGreatDoor.Ds (De SM ArgM dv)
open Go.Proofs.YthcmnkmfhgoddaaGreatDoor.Ro (SE ArgE OwnE infoE ecells ecells_length news_of)
set_option maxRecDepth 100000 in
theorem run_append_ents {w : World} (ad : Addr) {y : Value} {ys : List En} (hy : ArgE w y ys) (hlen : ys.length ≤ 1000000) (ty : TypeId) :
    ∃ v' w', (Builtin.append_ #[27, 27] ty #[.slice (some ad) 0 0, y]).run Tryz.prog w = .ok v' w' ∧ ArgE w' v' ys ∧ Below w.heap.size w w' := by
  obtain ⟨i0, hi, hz0, hz1, hz2⟩ := info_parts infoE
  cases hy with
  | nil =>
    have hrun := run_append_nothing (P := Tryz.prog) w 27 27 ty 47 i0 Tryz.underlying27 hi (some ad) 0 0 (Nat.le_refl _) (.slice none 0 0) (Src.ofNil w Tryz.underlying27 0)
    exact ⟨_, w, hrun, .empty ad 0, Below.refl _ w⟩
  | empty a c =>
    have hrun := run_append_nothing (P := Tryz.prog) w 27 27 ty 47 i0 Tryz.underlying27 hi (some ad) 0 0 (Nat.le_refl _) (.slice (some a) 0 c) (Src.ofSlice w Tryz.underlying27 a 0 c [] (by simp) (fun j u h => by simp at h) (fun u h => by simp at h))
    exact ⟨_, w, hrun, .empty ad 0, Below.refl _ w⟩
  | some b o c ys hc hn =>
    by_cases h0 : ys.length = 0
    · obtain rfl := List.length_eq_zero_iff.1 h0
      have hrun := run_append_nothing (P := Tryz.prog) w 27 27 ty 47 i0 Tryz.underlying27 hi (some ad) 0 0 (Nat.le_refl _) (.slice (some ⟨b, o, none⟩) 0 c) (Src.ofSlice w Tryz.underlying27 ⟨b, o, none⟩ 0 c [] (by simp) (fun j u h => by simp at h) (fun u h => by simp at h))
      exact ⟨_, w, hrun, .empty ad 0, Below.refl _ w⟩
    · obtain ⟨v', w', hrun, r1, r2⟩ := run_append_arg_grows (P := Tryz.prog) w 27 ty 47 i0 (.agg #[.int .i64 0, .string Ro.E0]) 2 24 Tryz.underlying27 hi hz0 hz1 hz2 rfl (by decide) ad 0 0 [] rfl (fun j u h => by simp at h) ⟨b, o, none⟩ ys.length c (ecells ys) (ecells_length ys) (news_of hn) (by omega) (by unfold maxLen; omega) (by omega)
      have r3 : OwnE w' w.heap.size v' ys := by simpa using r1
      exact ⟨v', w', hrun, ArgE.of_own r3, (Below.refl _ w).grown r2 (Nat.le_refl _) (fun k e => by cases e)⟩
inductive Th
  | en (l : List En)
  | de (d : De)
def Th.holds : Th → Value → World → Prop
  | .en l, v, w => ArgE w v l
  | .de d, v, w => ∃ s, v = dv d s ∧ ArgM w s d.ms
theorem Th.keep : ∀ {p : Th} {v : Value} {w w' : World}, p.holds v w → Below w.heap.size w w' → p.holds v w'
  | .en _, _, _, _, h, hb => ArgE.keep h hb
  | .de _, _, _, _, ⟨s, h1, h2⟩, hb => ⟨s, h1, h2.keep hb⟩
structure RT (W0 : World) (K : Nat → Option Th) (L : Nat → Bool) (u : Nat → Value) (wx : World) : Prop where
  low : Below W0.heap.size W0 wx
  at_ : ∀ k p, L k = true → K k = some p → p.holds (u k) wx
section
variable {W0 wx w' : World} {K : Nat → Option Th} {j : Nat} {L : Nat → Bool} {u : Nat → Value}
theorem RT.call (h : RT W0 K L u wx) (b : Below wx.heap.size wx w') (v : Value) (hv : ∀ p, K j = some p → p.holds v w') : RT W0 K (St.mark L j) (St.upd u j v) w' :=
  ⟨h.low.trans (b.mono h.low.size), fun k p h1 h2 => by
    by_cases hk : k = j
    · subst hk
      rw [show St.upd u k v k = v by simp [St.upd]]
      exact hv p h2
    · rw [show St.mark L j k = L k by simp [St.mark, hk]] at h1
      rw [show St.upd u j v k = u k by simp [St.upd, hk]]
      exact Th.keep (h.at_ k p h1 h2) b⟩
theorem RT.into (h : RT W0 K L u wx) (hj : K j = none) (b : Below wx.heap.size wx w') (v : Value) : RT W0 K (St.mark L j) (St.upd u j v) w' :=
  h.call b v fun p e => by rw [hj] at e; cases e
theorem RT.plain (h : RT W0 K L u wx) (hj : K j = none) (v : Value) : RT W0 K (St.mark L j) (St.upd u j v) wx := h.into hj (Below.refl _ _) v
theorem RT.got {q : Th} {v : Value} (h : RT W0 K L u wx) (hj : K j = some q) (b : Below wx.heap.size wx w') (hv : q.holds v w') : RT W0 K (St.mark L j) (St.upd u j v) w' :=
  h.call b v fun p e => by rw [hj] at e; cases e; exact hv
theorem RT.start {w : World} (h : Below W0.heap.size W0 w) : RT W0 K (fun _ => false) u w.drew := ⟨h.drew, fun _ _ h => by cases h⟩
theorem RT.en {k : Nat} {l : List En} {v : Value} (h : RT W0 K L u wx) (hk : L k = true) (e : K k = some (.en l)) (hu : u k = v) : ArgE wx v l := hu ▸ h.at_ k _ hk e
theorem RT.de {k : Nat} {d : De} {s : Value} (h : RT W0 K L u wx) (hk : L k = true) (e : K k = some (.de d)) (hu : u k = dv d s) : ArgM wx s d.ms := by
  obtain ⟨s', h1, h2⟩ := h.at_ k _ hk e
  have e2 : dv d s' = dv d s := h1.symm.trans hu
  have e3 : s' = s := by
    injection e2 with e3
    simpa using e3
  exact e3 ▸ h2
end
theorem argE_form {w : World} {v : Value} {l : List En} (h : ArgE w v l) {n : Nat} (hn : l.length = n) : ∃ A c, v = .slice A n c := by
  subst hn
  exact h.sm.form
end Go.Proofs.YthcmnkmfhgoddaaGreatDoor.Mb

namespace Go.Proofs.YthcmnkmfhgoddaaGreatDoor.Ds
open Go.RowKit Bnd
open Go.Proofs.YthcmnkmfhgoddaaGreatDoor.O (Bd isB keyB hasB)
theorem rid_any (n : Int) (w : World) : Calls Tryz.prog 37 #[.int .i64 n] w fun e w' => e = .returned (.bool (idB n)) ∧ w = w' := by
  by_cases h1 : 1 ≤ n
  · by_cases h2 : n ≤ 1099511627776
    · have hv : idB n = true := (idB_iff n).2 ⟨h1, h2⟩
      have e1 : (n ≥ 1) = True := eq_true (by omega)
      have e2 : (n ≤ 1099511627776) = True := eq_true h2
      rw [hv]
      clear hv h1 h2
      go_enter Tryz.func37, Tryz.ntmps37
      go_wp2
      go_ret
      exact ⟨rfl, rfl⟩
    · have hv : idB n = false := by simp only [idB, decide_eq_false_iff_not]; omega
      have e1 : (n ≥ 1) = True := eq_true (by omega)
      have e2 : (n ≤ 1099511627776) = False := eq_false h2
      rw [hv]
      clear hv h1 h2
      go_enter Tryz.func37, Tryz.ntmps37
      go_wp2
      go_ret
      exact ⟨rfl, rfl⟩
  · have hv : idB n = false := by simp only [idB, decide_eq_false_iff_not]; omega
    have e1 : (n ≥ 1) = False := eq_false (by omega)
    rw [hv]
    clear hv h1
    go_enter Tryz.func37, Tryz.ntmps37
    go_wp2
    go_ret
    exact ⟨rfl, rfl⟩
structure OkAt (next : Int) (ms : List Mem) (j : Nat) (h : j < ms.length) : Prop where
  n1 : 1 ≤ ms[j].1
  n7 : ms[j].1 ≤ 7
  i1 : 1 ≤ ms[j].2
  ix : ms[j].2 < next
  up : ∀ i (hi : i < j), i + 1 = j → (ms[i]'(by omega)).2 < ms[j].2
  ne : ∀ i (hi : i < j), (ms[i]'(by omega)).1 ≠ ms[j].1
def PrevOk (ms : List Mem) (k : Nat) (y : Int) : Prop := ∀ i (h : i < ms.length), i + 1 = k → ms[i].2 < y
theorem ups {next : Int} {ms : List Mem} (h : ∀ j (hj : j < ms.length), OkAt next ms j hj) : ∀ j (hj : j < ms.length) i (hi : i < j), (ms[i]'(by omega)).2 < ms[j].2
  | j + 1, hj, i, hi => by
    rcases Nat.lt_succ_iff_lt_or_eq.1 hi with h1 | rfl
    · have := ups h j (by omega) i h1
      have := (h (j + 1) hj).up j (by omega) rfl
      omega
    · exact (h (i + 1) hj).up i (by omega) rfl
theorem mayGo_at (next : Int) (ms : List Mem) : mayGo next 0 [] ms = true ↔ ∀ j (hj : j < ms.length), OkAt next ms j hj := by
  rw [mayGo_iff]
  constructor
  · rintro ⟨h1, h2, h3⟩ j hj
    obtain ⟨a1, _, a3, a4⟩ := h1 _ (List.getElem_mem hj)
    obtain ⟨b1, b2⟩ := (nodeB_iff _).1 a1
    refine ⟨b1, b2, by omega, a4, fun i hi _ => List.pairwise_iff_getElem.1 h2 i j (by omega) hj hi, fun i hi e => ?_⟩
    have := List.pairwise_iff_getElem.1 h3 i j (by simp; omega) (by simp; omega) hi
    simp at this
    exact this e
  · intro h
    refine ⟨fun m hm => ?_, List.pairwise_iff_getElem.2 fun i j hi hj hij => ups h j hj i hij, List.pairwise_iff_getElem.2 fun i j hi hj hij => ?_⟩
    · obtain ⟨j, hj, rfl⟩ := List.getElem_of_mem hm
      have := h j hj
      exact ⟨(nodeB_iff _).2 ⟨this.n1, this.n7⟩, by simp, by have := this.i1; omega, this.ix⟩
    · simp only [List.getElem_map]
      exact (h j (by simpa using hj)).ne i hij
set_option maxHeartbeats 8000000 in
set_option maxRecDepth 100000 in
theorem ris_any (d : De) (s : Value) (w : World) (hs : SM w w.heap.size s d.ms) (hf : d.f.size ≤ 140737488355328) (ht : d.t.size ≤ 140737488355328) (hl : d.ms.length ≤ 140737488355328) :
    Calls Tryz.prog 10 #[dv d s] w fun e w' => e = .returned (.bool (isD d)) ∧ Below w.heap.size w w' := by
  obtain ⟨A, c, rfl⟩ := hs.form
  have c1 := fun w => rid_any d.id w
  have c2 := fun w => rid_any d.gen w
  have c3 := fun w => rid_any d.next w
  have c4 := fun w => Bnd.ris_any d.f d.t w hf ht
  have e4 : isB (B d.f d.t) = isB d.b := rfl
  rw [e4] at c4
  have hck : isD d = (idB d.id && idB d.gen && idB d.next && isB d.b && mayB d.next d.ms) := rfl
  obtain ⟨R, hR⟩ : ∃ R, isD d = R := ⟨_, rfl⟩
  rw [hR]
  rw [hR] at hck
  clear hR e4
  cases h1 : idB d.id with
  | false =>
    rw [h1] at c1 hck
    have HF := Lib.hid hck
    clear h1 hck
    go_enter Tryz.func10, Tryz.ntmps10
    go_wp2_with fail
    refine (c1 _).mono ?_
    rintro e w1 ⟨rfl, rfl⟩
    go_wp2_with fail
    go_ret
    exact ⟨ret_bool (by rw [HF.out]; rfl), (Below.refl _ _).alloc (Nat.le_refl _) _⟩
  | true =>
    rw [h1] at c1 hck
    clear h1
    cases h2 : idB d.gen with
    | false =>
      rw [h2] at c2 hck
      have HF := Lib.hid hck
      clear h2 hck
      go_enter Tryz.func10, Tryz.ntmps10
      go_wp2_with fail
      refine (c1 _).mono ?_
      rintro e w1 ⟨rfl, rfl⟩
      go_wp2_with fail
      refine (c2 _).mono ?_
      rintro e w1 ⟨rfl, rfl⟩
      go_wp2_with fail
      go_ret
      exact ⟨ret_bool (by rw [HF.out]; rfl), (Below.refl _ _).alloc (Nat.le_refl _) _⟩
    | true =>
      rw [h2] at c2 hck
      clear h2
      cases h3 : idB d.next with
      | false =>
        rw [h3] at c3 hck
        have HF := Lib.hid hck
        clear h3 hck
        go_enter Tryz.func10, Tryz.ntmps10
        go_wp2_with fail
        refine (c1 _).mono ?_
        rintro e w1 ⟨rfl, rfl⟩
        go_wp2_with fail
        refine (c2 _).mono ?_
        rintro e w1 ⟨rfl, rfl⟩
        go_wp2_with fail
        refine (c3 _).mono ?_
        rintro e w1 ⟨rfl, rfl⟩
        go_wp2_with fail
        go_ret
        exact ⟨ret_bool (by rw [HF.out]; rfl), (Below.refl _ _).alloc (Nat.le_refl _) _⟩
      | true =>
        rw [h3] at c3 hck
        clear h3
        cases h4 : isB d.b with
        | false =>
          rw [h4] at c4 hck
          have HF := Lib.hid hck
          clear h4 hck
          go_enter Tryz.func10, Tryz.ntmps10
          go_wp2_with fail
          refine (c1 _).mono ?_
          rintro e w1 ⟨rfl, rfl⟩
          go_wp2_with fail
          refine (c2 _).mono ?_
          rintro e w1 ⟨rfl, rfl⟩
          go_wp2_with fail
          refine (c3 _).mono ?_
          rintro e w1 ⟨rfl, rfl⟩
          go_wp2_with fail
          refine (c4 _).mono ?_
          rintro e w1 ⟨rfl, b1⟩
          go_wp2_with fail
          go_ret
          exact ⟨ret_bool (by rw [HF.out]; rfl), ((Below.refl _ w).alloc (Nat.le_refl _) _).trans (b1.mono (by simp))⟩
        | true =>
          rw [h4] at c4 hck
          clear h4
          by_cases h5 : 1 ≤ d.ms.length ∧ d.ms.length ≤ 5
          rotate_left
          · have hr : mayB d.next d.ms = false := by unfold mayB; simp [h5]
            rw [hr] at hck
            have HF := Lib.hid hck
            have g : ((d.ms.length : Int) < 1) = True ∨ (((d.ms.length : Int) < 1) = False ∧ ((d.ms.length : Int) > 5) = True) := by
              by_cases h1 : (d.ms.length : Int) < 1
              · exact .inl (eq_true h1)
              · exact .inr ⟨eq_false h1, eq_true (by omega)⟩
            clear hr hck h5
            rcases g with g1 | ⟨g1, g2⟩
            all_goals
              go_enter Tryz.func10, Tryz.ntmps10
              go_wp2_with fail
              refine (c1 _).mono ?_
              rintro e w1 ⟨rfl, rfl⟩
              go_wp2_with fail
              refine (c2 _).mono ?_
              rintro e w1 ⟨rfl, rfl⟩
              go_wp2_with fail
              refine (c3 _).mono ?_
              rintro e w1 ⟨rfl, rfl⟩
              go_wp2_with fail
              refine (c4 _).mono ?_
              rintro e w1 ⟨rfl, b1⟩
              have B1 := (BoxD.new w d (.slice A d.ms.length c)).keep b1
              obtain ⟨p_0, ⟨p_1, p_2, p_3, p_4, p_5, p_6⟩, p_7⟩ := id B1
              go_wp2_with fail
              go_ret
              exact ⟨ret_bool (by rw [HF.out]; rfl), ((Below.refl _ w).alloc (Nat.le_refl _) _).trans (b1.mono (by simp))⟩
          · have hr : mayB d.next d.ms = mayGo d.next 0 [] d.ms := by unfold mayB; simp [h5]
            rw [hr] at hck
            have hck' : (mayGo d.next 0 [] d.ms = R) := by simpa using hck.symm
            have HF := Lib.hid hck'
            obtain ⟨h51, h52⟩ := h5
            have g1 : ((d.ms.length : Int) < 1) = False := eq_false (by omega)
            have g2 : ((d.ms.length : Int) > 5) = False := eq_false (by omega)
            clear hr hck hck'
            go_enter Tryz.func10, Tryz.ntmps10
            go_wp2_with fail
            refine (c1 _).mono ?_
            rintro e w1 ⟨rfl, rfl⟩
            go_wp2_with fail
            refine (c2 _).mono ?_
            rintro e w1 ⟨rfl, rfl⟩
            go_wp2_with fail
            refine (c3 _).mono ?_
            rintro e w1 ⟨rfl, rfl⟩
            go_wp2_with fail
            refine (c4 _).mono ?_
            rintro e w1 ⟨rfl, b1⟩
            have B1 := (BoxD.new w d (.slice A d.ms.length c)).keep b1
            have hb1 : Below w.heap.size w w1 := ((Below.refl _ w).alloc (Nat.le_refl _) _).trans (b1.mono (by simp))
            obtain ⟨p_0, ⟨p_1, p_2, p_3, p_4, p_5, p_6⟩, p_7⟩ := id B1
            clear b1 c1 c2 c3 c4
            go_wp2_with fail
            clear p_0 p_1 p_2 p_3 p_4 p_5 p_6 p_7
            have hs1 : SM w1 w1.heap.size (.slice A d.ms.length c) d.ms := (hs.below hb1).more hb1.size
            go_loopw [2, 3, 4, 5] (fun v2 vi _ _ wr => ∃ k : Nat, k ≤ d.ms.length ∧ vi = .int .i64 (k : Int) ∧ v2 = .bool false ∧ Hid (∀ j (_ : j < k) (hj : j < d.ms.length), OkAt d.next d.ms j hj) ∧ Below w1.heap.size w1 wr) (fun _ vi _ _ _ => d.ms.length - (intOf vi).toNat)
            case atStart => exact ⟨0, Nat.zero_le _, rfl, rfl, Lib.hid (fun j hj => by omega), Below.refl _ _⟩
            case round =>
              revert hrel; revert wr; intro wo hrel
              obtain ⟨k, hk, rfl, rfl, HK, hbo⟩ := hrel
              have Bo := B1.keep hbo
              obtain ⟨p_0, ⟨p_1, p_2, p_3, p_4, p_5, p_6⟩, p_7⟩ := id Bo
              by_cases hlt : k < d.ms.length
              rotate_left
              · obtain rfl : k = d.ms.length := by omega
                have HT : Hid (R = true) := Lib.hid (HF.out ▸ (mayGo_at _ _).2 fun j hj => HK.out j hj hj)
                go_wp2_with fail
                go_ret
                exact ⟨ret_bool HT.out.symm, hb1.trans (hbo.mono hb1.size)⟩
              · obtain ⟨b, o, rfl, hb, m1, m2⟩ := (hs1.below hbo).at_ hlt
                obtain ⟨⟨x, y⟩, hm⟩ : ∃ m, d.ms[k] = m := ⟨_, rfl⟩
                rw [hm] at m1 m2
                have HM := Lib.hid hm
                clear hm
                simp only at m1 m2
                have hbad : ¬ OkAt d.next d.ms k hlt → Hid (false = R) := fun h => Lib.hid (by
                  rw [← HF.out]
                  cases hx : mayGo d.next 0 [] d.ms with
                  | false => rfl
                  | true => exact absurd ((mayGo_at _ _).1 hx k hlt) h)
                have HB := Lib.hid hbad
                clear hbad
                have hbw : Below w.heap.size w wo := hb1.trans (hbo.mono hb1.size)
                have k0 : (0 ≤ (k : Int)) = True := eq_true (by omega)
                have k1 : ((k : Int) < (d.ms.length : Int)) = True := eq_true (by omega)
                have four : ((x < 1) = True ∨ ((x < 1) = False ∧ (x > 7) = True) ∨ ((x < 1) = False ∧ (x > 7) = False ∧ (y < 1) = True) ∨ ((x < 1) = False ∧ (x > 7) = False ∧ (y < 1) = False ∧ (y ≥ d.next) = True)) ∨ ((x < 1) = False ∧ (x > 7) = False ∧ (y < 1) = False ∧ (y ≥ d.next) = False) := by
                  by_cases q1 : x < 1
                  · exact .inl (.inl (eq_true q1))
                  · by_cases q2 : x > 7
                    · exact .inl (.inr (.inl ⟨eq_false q1, eq_true q2⟩))
                    · by_cases q3 : y < 1
                      · exact .inl (.inr (.inr (.inl ⟨eq_false q1, eq_false q2, eq_true q3⟩)))
                      · by_cases q4 : y ≥ d.next
                        · exact .inl (.inr (.inr (.inr ⟨eq_false q1, eq_false q2, eq_false q3, eq_true q4⟩)))
                        · exact .inr ⟨eq_false q1, eq_false q2, eq_false q3, eq_false q4⟩
                rcases four with hbd | ⟨e1, e2, e3, e4⟩
                · have HR : Hid (false = R) := HB.out (by
                    intro ho
                    have hm := HM.out
                    have a1 := ho.n1
                    have a2 := ho.n7
                    have a3 := ho.i1
                    have a4 := ho.ix
                    rw [hm] at a1 a2 a3 a4
                    simp only at a1 a2 a3 a4
                    rcases hbd with q | ⟨_, q⟩ | ⟨_, _, q⟩ | ⟨_, _, _, q⟩ <;> (have q := of_eq_true q; omega))
                  clear HB HM HF HK
                  rcases hbd with e1 | ⟨e1, e2⟩ | ⟨e1, e2, e3⟩ | ⟨e1, e2, e3, e4⟩
                  all_goals
                    go_wp2_with fail
                    go_quiet (fail)
                    go_wp2_with fail
                    go_ret
                    exact ⟨ret_bool HR.out, below_drewN (hbw.alloc hbw.size _) _⟩
                · have five : (((k : Int) > 0) = False ∧ (0 < k) = False ∧ k = 0) ∨ (((k : Int) > 0) = True ∧ (0 < k) = True ∧ ∃ k', k = k' + 1) := by
                    cases k with
                    | zero => exact .inl ⟨eq_false (by omega), eq_false (by omega), rfl⟩
                    | succ k' => exact .inr ⟨eq_true (by omega), eq_true (by omega), k', rfl⟩
                  rcases five with ⟨e5, e5n, h0⟩ | ⟨e5, e5n, k', hk'⟩
                  · have HG : Hid (x ≤ 7 ∧ 1 ≤ x ∧ 1 ≤ y ∧ y < d.next ∧ PrevOk d.ms k y) := Lib.hid ⟨by have := of_eq_false e2; omega, by have := of_eq_false e1; omega, by have := of_eq_false e3; omega, by have := of_eq_false e4; omega, fun i hi he => by omega⟩
                    have HZ := Lib.hid h0
                    clear h0
                    go_wp2_with fail
                    go_quiet (fail)
                    go_wp2_with fail
                    clear e1 e2 e3 e4 e5 e5n
                    go_loopw [2, 5] (fun v2 vq wr => ∃ i : Nat, i ≤ k ∧ vq = .int .i64 (i : Int) ∧ v2 = .bool false ∧ Hid (∀ a (_ : a < i) (ha : a < d.ms.length), d.ms[a].1 ≠ x) ∧ wr.cell? ⟨wo.heap.size, 0, none⟩ = some (.int .i64 x) ∧ wo.heap.size < wr.heap.size ∧ Below wo.heap.size wo wr) (fun _ vq _ => k - (intOf vq).toNat)
                    case atStart => exact ⟨0, Nat.zero_le _, rfl, rfl, Lib.hid (fun a h => by omega), by simp [go_sem], by simp, below_drewN ((Below.refl _ wo).alloc (Nat.le_refl _) _) _⟩
                    case round =>
                      clear p_0 p_1 p_2 p_3 p_4 p_5 p_6 p_7
                      obtain ⟨i, hi, rfl, rfl, HI, n1, n2, hby⟩ := hrel
                      have By := Bo.keep hby
                      obtain ⟨p_0, ⟨p_1, p_2, p_3, p_4, p_5, p_6⟩, p_7⟩ := id By
                      have hbz : Below w.heap.size w wr := hbw.trans (hby.mono hbw.size)
                      by_cases hik : i < k
                      rotate_left
                      · have hie : i = k := by omega
                        have i5 : ((i : Int) < (k : Int)) = False := eq_false (by omega)
                        go_wp2_with fail
                        go_roundw
                        case rel =>
                          refine ⟨k + 1, by omega, by go_num, rfl, Lib.hid (fun j hj hjl => ?_), hbo.trans (hby.mono hbo.size)⟩
                          by_cases hjk : j < k
                          · exact HK.out j hjk hjl
                          · obtain rfl : j = k := by omega
                            have hm := HM.out
                            obtain ⟨r1, r2, r3, r4, r5⟩ := HG.out
                            exact ⟨by rw [hm]; exact r2, by rw [hm]; exact r1, by rw [hm]; exact r3, by rw [hm]; exact r4, fun a ha he => by rw [hm]; exact r5 a (by omega) he, fun a ha => by rw [hm]; exact HI.out a (by omega) (by omega)⟩
                        case measure => simp [intOf]; omega
                      · have hil : i < d.ms.length := by omega
                        obtain ⟨b2, o2, hA2, hb2, s1, s2⟩ := ((hs1.below hbo).below (hby.mono (by have := hbo.size; omega))).at_ hil
                        injection hA2 with hA2
                        injection hA2 with hA3 hA4 _
                        subst hA3 hA4
                        obtain ⟨⟨ax, ay⟩, ham⟩ : ∃ m, d.ms[i] = m := ⟨_, rfl⟩
                        rw [ham] at s1 s2
                        simp only at s1 s2
                        have HA := Lib.hid ham
                        have j0 : (0 ≤ (i : Int)) = True := eq_true (by omega)
                        have j1 : ((i : Int) < (d.ms.length : Int)) = True := eq_true (by omega)
                        clear ham
                        by_cases hax : ax = x
                        · have HR : Hid (false = R) := HB.out (by
                            intro ho
                            have hm := HM.out
                            have a1 := ho.ne i hik
                            rw [hm, HA.out] at a1
                            exact a1 hax)
                          have ax1 : (ax == x) = true := by simpa using hax
                          have ax2 : (ax = x) = True := eq_true hax
                          clear HB HM HF HK HG HI HA hax
                          go_wp2_with fail
                          go_quiet (fail)
                          go_wp2_with fail
                          go_ret
                          exact ⟨ret_bool HR.out, below_drewN hbz _⟩
                        · have ax1 : (ax == x) = false := by simpa using hax
                          have ax2 : (ax = x) = False := eq_false hax
                          have HI2 : Hid (∀ a (_ : a < i + 1) (ha : a < d.ms.length), d.ms[a].1 ≠ x) := Lib.hid (fun a h ha => by
                            by_cases h2 : a < i
                            · exact HI.out a h2 ha
                            · obtain rfl : a = i := by omega
                              rw [HA.out]; exact hax)
                          clear hax
                          go_wp2_with fail
                          go_quiet (fail)
                          go_wp2_with fail
                          go_roundw
                          case rel => exact ⟨i + 1, by omega, by go_num, rfl, HI2, n1, by simpa using n2, below_drewN hby _⟩
                          case measure => simp [intOf]; omega
                  · have hkl : k' < d.ms.length := by omega
                    obtain ⟨b', o', hA', hb', m3, m4⟩ := (hs1.below hbo).at_ hkl
                    injection hA' with hA'
                    injection hA' with hA1 hA2 _
                    subst hA1 hA2
                    obtain ⟨⟨px, py⟩, hpm⟩ : ∃ m, d.ms[k'] = m := ⟨_, rfl⟩
                    rw [hpm] at m3 m4
                    simp only at m3 m4
                    have HP := Lib.hid hpm
                    have HKK := Lib.hid hk'
                    have w4' : IntKind.i64.wrap ((k : Int) - 1) = (k' : Int) := by rw [IntKind.wrap_i64]; omega
                    have hbs : b < wo.heap.size := by have := hbo.size; omega
                    have w2' : (0 ≤ (k' : Int)) = True := eq_true (by omega)
                    have w3' : ((k' : Int) < (d.ms.length : Int)) = True := eq_true (by omega)
                    clear hpm hk'
                    by_cases h6 : y ≤ py
                    · have e6 : (y ≤ py) = True := eq_true h6
                      have HR : Hid (false = R) := HB.out (by
                        intro ho
                        have hm := HM.out
                        have a1 := ho.up k' (by have := HKK.out; omega) HKK.out.symm
                        rw [hm, HP.out] at a1
                        simp only at a1
                        omega)
                      clear HB HM HF HK HP HKK h6
                      go_wp2_with fail
                      go_quiet (fail)
                      go_wp2_with fail
                      go_ret
                      exact ⟨ret_bool HR.out, below_drewN (hbw.alloc hbw.size _) _⟩
                    · have e6 : (y ≤ py) = False := eq_false h6
                      have HG : Hid (x ≤ 7 ∧ 1 ≤ x ∧ 1 ≤ y ∧ y < d.next ∧ PrevOk d.ms k y) := Lib.hid ⟨by have := of_eq_false e2; omega, by have := of_eq_false e1; omega, by have := of_eq_false e3; omega, by have := of_eq_false e4; omega, fun i hi he => by
                        obtain rfl : i = k' := by have := HKK.out; omega
                        rw [HP.out]; simp only; omega⟩
                      clear h6
                      go_wp2_with fail
                      go_quiet (fail)
                      go_wp2_with fail
                      clear e1 e2 e3 e4 e5 e5n
                      go_loopw [2, 5] (fun v2 vq wr => ∃ i : Nat, i ≤ k ∧ vq = .int .i64 (i : Int) ∧ v2 = .bool false ∧ Hid (∀ a (_ : a < i) (ha : a < d.ms.length), d.ms[a].1 ≠ x) ∧ wr.cell? ⟨wo.heap.size, 0, none⟩ = some (.int .i64 x) ∧ wo.heap.size < wr.heap.size ∧ Below wo.heap.size wo wr) (fun _ vq _ => k - (intOf vq).toNat)
                      case atStart => exact ⟨0, Nat.zero_le _, rfl, rfl, Lib.hid (fun a h => by omega), by simp [go_sem], by simp, below_drewN ((Below.refl _ wo).alloc (Nat.le_refl _) _) _⟩
                      case round =>
                        clear p_0 p_1 p_2 p_3 p_4 p_5 p_6 p_7
                        obtain ⟨i, hi, rfl, rfl, HI, n1, n2, hby⟩ := hrel
                        have By := Bo.keep hby
                        obtain ⟨p_0, ⟨p_1, p_2, p_3, p_4, p_5, p_6⟩, p_7⟩ := id By
                        have hbz : Below w.heap.size w wr := hbw.trans (hby.mono hbw.size)
                        by_cases hik : i < k
                        rotate_left
                        · have hie : i = k := by omega
                          have i5 : ((i : Int) < (k : Int)) = False := eq_false (by omega)
                          go_wp2_with fail
                          go_roundw
                          case rel =>
                            refine ⟨k + 1, by omega, by go_num, rfl, Lib.hid (fun j hj hjl => ?_), hbo.trans (hby.mono hbo.size)⟩
                            by_cases hjk : j < k
                            · exact HK.out j hjk hjl
                            · obtain rfl : j = k := by omega
                              have hm := HM.out
                              obtain ⟨r1, r2, r3, r4, r5⟩ := HG.out
                              exact ⟨by rw [hm]; exact r2, by rw [hm]; exact r1, by rw [hm]; exact r3, by rw [hm]; exact r4, fun a ha he => by rw [hm]; exact r5 a (by omega) he, fun a ha => by rw [hm]; exact HI.out a (by omega) (by omega)⟩
                          case measure => simp [intOf]; omega
                        · have hil : i < d.ms.length := by omega
                          obtain ⟨b2, o2, hA2, hb2, s1, s2⟩ := ((hs1.below hbo).below (hby.mono (by have := hbo.size; omega))).at_ hil
                          injection hA2 with hA2
                          injection hA2 with hA3 hA4 _
                          subst hA3 hA4
                          obtain ⟨⟨ax, ay⟩, ham⟩ : ∃ m, d.ms[i] = m := ⟨_, rfl⟩
                          rw [ham] at s1 s2
                          simp only at s1 s2
                          have HA := Lib.hid ham
                          have j0 : (0 ≤ (i : Int)) = True := eq_true (by omega)
                          have j1 : ((i : Int) < (d.ms.length : Int)) = True := eq_true (by omega)
                          clear ham
                          by_cases hax : ax = x
                          · have HR : Hid (false = R) := HB.out (by
                              intro ho
                              have hm := HM.out
                              have a1 := ho.ne i hik
                              rw [hm, HA.out] at a1
                              exact a1 hax)
                            have ax1 : (ax == x) = true := by simpa using hax
                            have ax2 : (ax = x) = True := eq_true hax
                            clear HB HM HF HK HG HI HA hax
                            go_wp2_with fail
                            go_quiet (fail)
                            go_wp2_with fail
                            go_ret
                            exact ⟨ret_bool HR.out, below_drewN hbz _⟩
                          · have ax1 : (ax == x) = false := by simpa using hax
                            have ax2 : (ax = x) = False := eq_false hax
                            have HI2 : Hid (∀ a (_ : a < i + 1) (ha : a < d.ms.length), d.ms[a].1 ≠ x) := Lib.hid (fun a h ha => by
                              by_cases h2 : a < i
                              · exact HI.out a h2 ha
                              · obtain rfl : a = i := by omega
                                rw [HA.out]; exact hax)
                            clear hax
                            go_wp2_with fail
                            go_quiet (fail)
                            go_wp2_with fail
                            go_roundw
                            case rel => exact ⟨i + 1, by omega, by go_num, rfl, HI2, n1, by simpa using n2, below_drewN hby _⟩
                            case measure => simp [intOf]; omega
end Go.Proofs.YthcmnkmfhgoddaaGreatDoor.Ds

/-
  Same: slices.Equal at members, Same; the document's Members and Same. Condition: at most 2^40 members.
  Descriptors that are made: slices.Clone at members, raised, checked, First. Condition: at most 1000 members, lengths at most 2^47.
-/
import Derived.Test.YtkpakiiijphjeaaGreatDoorPDsRA
import Derived.Test.YtkpakiiijphjeaaGreatDoorPTieA
import Derived.Lib.SliceRun
import Derived.RegionTactic
import Derived.Deep.RegionLaw
namespace Go.Proofs.YtkpakiiijphjeaaGreatDoor.Ds
open Go.RowKit Bnd
attribute [local go_sem ↓] Go.wp_at_zero Go.wp_at_succ
theorem int_yes {x y : Int} (h : x = y) : (x == y) = true ∧ (x != y) = false ∧ (x = y) = True := by subst h; simp
theorem int_no {x y : Int} (h : ¬ x = y) : (x == y) = false ∧ (x != y) = true ∧ (x = y) = False := ⟨by simpa using h, by simpa using h, eq_false h⟩
end Go.Proofs.YtkpakiiijphjeaaGreatDoor.Ds

namespace Go.Proofs.YtkpakiiijphjeaaGreatDoor.Ds
open Go.RowKit Bnd
def okV (d : De) (s : Value) : Value := if isD d = true then .tuple #[dv d s, .int .i64 0] else .tuple #[dv De.zero (.slice none 0 0), .int .i64 60]
theorem okV_spec (d : De) (s : Value) : ∃ s', okV d s = .tuple #[dv (okD d).1 s', .int .i64 (okD d).2] ∧ ∀ w, ArgM w s d.ms → ArgM w s' (okD d).1.ms := by
  unfold okV okD
  by_cases hd : isD d = true
  · rw [if_pos hd, if_pos hd]; exact ⟨s, rfl, fun _ h => h⟩
  · rw [if_neg hd, if_neg hd]; exact ⟨_, rfl, fun _ _ => .nil⟩
set_option maxHeartbeats 2000000 in
theorem checked_any (d : De) (s : Value) (w : World) (hs : SM w w.heap.size s d.ms) (hl : d.ms.length ≤ 140737488355328) (hf : d.f.size ≤ 140737488355328) (ht : d.t.size ≤ 140737488355328) :
    Calls Tryz.prog 123 #[dv d s] w fun e w' => e = .returned (okV d s) ∧ Below w.heap.size w w' := by
  obtain ⟨A, c, rfl⟩ := hs.form
  have cc := fun w hs => check_any d (.slice A d.ms.length c) w hs hl hf ht
  have hst : ∀ w1, Below w.heap.size w w1 → SM w1 w1.heap.size (.slice A d.ms.length c) d.ms := fun w1 hb => (hs.below hb).more hb.size
  cases hd : isD d with
  | false =>
    have hr : okV d (.slice A d.ms.length c) = .tuple #[dv De.zero (.slice none 0 0), .int .i64 60] := by unfold okV; rw [if_neg (by simp [hd])]
    rw [hr]
    have e1 : chkD d = 60 := by unfold chkD; rw [if_neg (by simp [hd])]
    rw [e1] at cc
    clear e1 hr hd
    go_enter Tryz.func123, Tryz.ntmps123
    go_wp2_with fail
    refine (cc _ (hst _ (by (repeat' (first | with_reducible assumption | with_reducible exact Below.refl _ _ | with_reducible refine Below.alloc ?_ ?_ _ | with_reducible refine Below.setCell ?_ ?_ _ | with_reducible refine Below.drew ?_ | omega | (simp; done) | (simp; omega)))))).mono ?_
    rintro e w1 ⟨rfl, b1⟩
    have B2 := (BoxD.zero (w.alloc (.cells #[.int .i64 d.id, .string d.f, .string d.t, .int .i64 d.gen, .slice A d.ms.length c, .int .i64 d.next] 109))).keep b1
    rw [World.size_alloc] at B2
    obtain ⟨z2, ⟨f1, f2, f3, f4, f5, f6⟩, f7⟩ := id B2
    have hb : Below w.heap.size w w1 := (((Below.refl _ w).alloc (Nat.le_refl _) _).alloc (by simp) _).trans (b1.mono (by simp; omega))
    clear b1
    go_wp2_with fail
    refine bodyPost_ret (v := .tuple #[dv De.zero (.slice none 0 0), .int .i64 60]) (res_box_tmp Tryz.results123 rfl rfl (BoxD.put B2 De.zero (.slice none 0 0))) rfl ⟨rfl, ?_⟩
    (repeat' (first | with_reducible assumption | with_reducible exact Below.refl _ _ | with_reducible refine Below.alloc ?_ ?_ _ | with_reducible refine Below.setCell ?_ ?_ _ | with_reducible refine Below.drew ?_ | omega | (simp; done) | (simp; omega)))
  | true =>
    have hr : okV d (.slice A d.ms.length c) = .tuple #[dv d (.slice A d.ms.length c), .int .i64 0] := by unfold okV; rw [if_pos hd]
    rw [hr]
    have e1 : chkD d = 0 := by unfold chkD; rw [if_pos hd]
    rw [e1] at cc
    clear e1 hr hd
    go_enter Tryz.func123, Tryz.ntmps123
    go_wp2_with fail
    refine (cc _ (hst _ (by (repeat' (first | with_reducible assumption | with_reducible exact Below.refl _ _ | with_reducible refine Below.alloc ?_ ?_ _ | with_reducible refine Below.setCell ?_ ?_ _ | with_reducible refine Below.drew ?_ | omega | (simp; done) | (simp; omega)))))).mono ?_
    rintro e w1 ⟨rfl, b1⟩
    have B1 := ((BoxD.new w d (.slice A d.ms.length c)).alloc (.cells #[.int .i64 0, .string ⟨#[]⟩, .string ⟨#[]⟩, .int .i64 0, .slice none 0 0, .int .i64 0] 109)).keep b1
    have B2 := (BoxD.zero (w.alloc (.cells #[.int .i64 d.id, .string d.f, .string d.t, .int .i64 d.gen, .slice A d.ms.length c, .int .i64 d.next] 109))).keep b1
    rw [World.size_alloc] at B2
    obtain ⟨z1, ⟨e1, e2, e3, e4, e5, e6⟩, e7⟩ := id B1
    obtain ⟨z2, ⟨f1, f2, f3, f4, f5, f6⟩, f7⟩ := id B2
    have hb : Below w.heap.size w w1 := (((Below.refl _ w).alloc (Nat.le_refl _) _).alloc (by simp) _).trans (b1.mono (by simp; omega))
    clear b1
    go_wp2_with fail
    refine bodyPost_ret (v := .tuple #[dv d (.slice A d.ms.length c), .int .i64 0]) (res_box_tmp Tryz.results123 rfl rfl (BoxD.put B2 d (.slice A d.ms.length c))) rfl ⟨rfl, ?_⟩
    (repeat' (first | with_reducible assumption | with_reducible exact Below.refl _ _ | with_reducible refine Below.alloc ?_ ?_ _ | with_reducible refine Below.setCell ?_ ?_ _ | with_reducible refine Below.drew ?_ | omega | (simp; done) | (simp; omega)))
def SI (w : World) (N : Nat) (v : Value) (ns : List Int) : Prop :=
  ∃ (A : Option Addr) (c : Nat), v = .slice A ns.length c ∧ (0 < ns.length → ∃ b o : Nat, A = some ⟨b, o, none⟩ ∧ b < N ∧ ∀ i (h : i < ns.length), w.cell? ⟨b, o + i, none⟩ = some (.int .i64 ns[i]))
theorem SI.form {w : World} {N : Nat} {v : Value} {ns : List Int} (h : SI w N v ns) : ∃ A c, v = .slice A ns.length c := by
  obtain ⟨A, c, hv, _⟩ := h; exact ⟨A, c, hv⟩
theorem SI.below {w w' : World} {N : Nat} {v : Value} {ns : List Int} (h : SI w N v ns) (hb : Below N w w') : SI w' N v ns := by
  obtain ⟨A, c, hv, h⟩ := h
  refine ⟨A, c, hv, fun h0 => ?_⟩
  obtain ⟨b, o, e, hlt, hc⟩ := h h0
  exact ⟨b, o, e, hlt, fun i hi => by rw [hb.cell (p := ⟨b, o + i, none⟩) hlt]; exact hc i hi⟩
theorem SI.more {w : World} {N N' : Nat} {v : Value} {ns : List Int} (h : SI w N v ns) (hB : N ≤ N') : SI w N' v ns := by
  obtain ⟨A, c, hv, h⟩ := h
  refine ⟨A, c, hv, fun h0 => ?_⟩
  obtain ⟨b, o, e, hb, hc⟩ := h h0
  exact ⟨b, o, e, by omega, hc⟩
theorem SI.at_ {w : World} {N k : Nat} {A : Option Addr} {n c : Nat} {ns : List Int} (h : SI w N (.slice A n c) ns) (hk : k < ns.length) :
    ∃ b o : Nat, A = some ⟨b, o, none⟩ ∧ b < N ∧ w.cell? ⟨b, o + k, none⟩ = some (.int .i64 ns[k]) := by
  obtain ⟨A', c', hv, h⟩ := h
  injection hv with h1 h2 h3
  subst h1
  obtain ⟨b, o, e, hb, hc⟩ := h (by omega)
  exact ⟨b, o, e, hb, hc k hk⟩
theorem BoxD.kept {n N : Nat} {d : De} {s : Value} {w1 w2 : World} (h : BoxD n d s w1) (hn : n < N) (hb : Below N w1 w2) : BoxD n d s w2 := by
  obtain ⟨h0, ⟨h1, h2, h3, h4, h5, h6⟩, hf⟩ := h
  have hc : ∀ o, w2.cell? ⟨n, o, none⟩ = w1.cell? ⟨n, o, none⟩ := fun o => hb.cell (p := ⟨n, o, none⟩) hn
  refine ⟨Nat.lt_of_lt_of_le h0 hb.size, ⟨?_, ?_, ?_, ?_, ?_, ?_⟩, fun o => (hb.frozen (p := ⟨n, o, none⟩) hn).trans (hf o)⟩
  all_goals rw [hc]; assumption
theorem BoxD.of {n : Nat} {d d' : De} {s : Value} {w1 : World} (h : BoxD n d s w1) (h1 : d.id = d'.id) (h2 : d.f = d'.f) (h3 : d.t = d'.t) (h4 : d.gen = d'.gen) (h5 : d.next = d'.next) : BoxD n d' s w1 := by
  unfold BoxD at *
  rw [← h1, ← h2, ← h3, ← h4, ← h5]
  exact h
end Go.Proofs.YtkpakiiijphjeaaGreatDoor.Ds

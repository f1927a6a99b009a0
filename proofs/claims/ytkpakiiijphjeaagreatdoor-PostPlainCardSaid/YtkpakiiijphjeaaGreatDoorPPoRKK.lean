/-
  Same of messages, the document's. Condition: at most 10^9 entries.
  Same of packets, the document's. Condition: at most 10^9 pairs, and entries.
-/
import Derived.Test.YtkpakiiijphjeaaGreatDoorPPoRwA
import Derived.Test.YtkpakiiijphjeaaGreatDoorPPoRwC
import Derived.Test.YtkpakiiijphjeaaGreatDoorPPoRKA
import Derived.Test.YtkpakiiijphjeaaGreatDoorPPoRKC
import Derived.Test.YtkpakiiijphjeaaGreatDoorPPoRSamee
import Derived.Test.YtkpakiiijphjeaaGreatDoorPPoRSamef
namespace Go.Proofs.YtkpakiiijphjeaaGreatDoor.Po
open Go.RowKit Bnd
open Ds (int_yes int_no)
open Od (bool_no bool_yes)
open Ro (En SE)
attribute [local go_sem ↓] Go.wp_at_zero Go.wp_at_succ
theorem rWire_any (a b : Wr) (sa sb : Value) (w : World) (ha : SE w w.heap.size sa a.es) (hb : SE w w.heap.size sb b.es) (hx : a.es.length ≤ 1000000000) (hy : b.es.length ≤ 1000000000) :
    Calls Tryz.prog 30 #[wv a sa, wv b sb] w fun e w' => e = .returned (.bool (sameW a b)) ∧ Below w.heap.size w w' := by
  obtain ⟨A, c, rfl⟩ := ha.form
  obtain ⟨D, d, rfl⟩ := hb.form
  have cc := fun w1 (h : Below w.heap.size w w1) => Ro.entries_any (.slice A a.es.length c) (.slice D b.es.length d) a.es b.es w1 ((ha.below h).more h.size) ((hb.below h).more h.size) hx hy
  by_cases h0 : a.kind = b.kind
  rotate_left
  · rw [sameW_no (fun e => h0 (by rw [e]))]; exact rWire_any_n0 a b _ _ _ _ _ _ w h0
  by_cases h1 : a.frm = b.frm
  rotate_left
  · rw [sameW_no (fun e => h1 (by rw [e]))]; exact rWire_any_n1 a b _ _ _ _ _ _ w h0 h1
  by_cases h2 : a.til = b.til
  rotate_left
  · rw [sameW_no (fun e => h2 (by rw [e]))]; exact rWire_any_n2 a b _ _ _ _ _ _ w h0 h1 h2
  by_cases h3 : a.term = b.term
  rotate_left
  · rw [sameW_no (fun e => h3 (by rw [e]))]; exact rWire_any_n3 a b _ _ _ _ _ _ w h0 h1 h2 h3
  by_cases h4 : a.index = b.index
  rotate_left
  · rw [sameW_no (fun e => h4 (by rw [e]))]; exact rWire_any_n4 a b _ _ _ _ _ _ w h0 h1 h2 h3 h4
  by_cases h5 : a.lterm = b.lterm
  rotate_left
  · rw [sameW_no (fun e => h5 (by rw [e]))]; exact rWire_any_n5 a b _ _ _ _ _ _ w h0 h1 h2 h3 h4 h5
  by_cases h6 : a.commit = b.commit
  rotate_left
  · rw [sameW_no (fun e => h6 (by rw [e]))]; exact rWire_any_n6 a b _ _ _ _ _ _ w h0 h1 h2 h3 h4 h5 h6
  by_cases h7 : a.hint = b.hint
  rotate_left
  · rw [sameW_no (fun e => h7 (by rw [e]))]; exact rWire_any_n7 a b _ _ _ _ _ _ w h0 h1 h2 h3 h4 h5 h6 h7
  by_cases h8 : a.reject = b.reject
  rotate_left
  · rw [sameW_no (fun e => h8 (by rw [e]))]; exact rWire_any_n8 a b _ _ _ _ _ _ w h0 h1 h2 h3 h4 h5 h6 h7 h8
  by_cases he : a.es = b.es
  · rw [sameW_text h0 h1 h2 h3 h4 h5 h6 h7 h8 he]; exact rWire_any_y a b _ _ _ _ _ _ w h0 h1 h2 h3 h4 h5 h6 h7 h8 (fun w1 h1 => (cc w1 h1).mono fun e w' ⟨h3, h4⟩ => ⟨by rw [h3, decide_eq_true he], h4⟩)
  · rw [sameW_no (fun e => he (by rw [e]))]; exact rWire_any_e a b _ _ _ _ _ _ w h0 h1 h2 h3 h4 h5 h6 h7 h8 (fun w1 h1 => (cc w1 h1).mono fun e w' ⟨h3, h4⟩ => ⟨by rw [h3, decide_eq_false he], h4⟩)
end Go.Proofs.YtkpakiiijphjeaaGreatDoor.Po

namespace Go.Proofs.YtkpakiiijphjeaaGreatDoor.Po
open Go.RowKit Bnd
open Ds (int_yes int_no)
open Od (sameA sameA_iff sameR SP)
open Ro (En SE)
attribute [local go_sem ↓] Go.wp_at_zero Go.wp_at_succ
theorem rsame_any (a b : Kh) (w : World) (ha : HK w w.heap.size a) (hb : HK w w.heap.size b) (la : LenK a.k) (lb : LenK b.k) :
    Calls Tryz.prog 13 #[kv a, kv b] w fun e w' => e = .returned (.bool (sameK a.k b.k)) ∧ Below w.heap.size w w' := by
  have ka : ∀ w1, Below w.heap.size w w1 → HK w1 w1.heap.size a := fun w1 h => (ha.below h).more h.size
  have kb : ∀ w1, Below w.heap.size w w1 → HK w1 w1.heap.size b := fun w1 h => (hb.below h).more h.size
  have cw := fun w1 (h : Below w.heap.size w w1) => rWire_any a.k.wire b.k.wire a.ws b.ws w1 (ka w1 h).es (kb w1 h).es la.es lb.es
  have cr := fun w1 (h : Below w.heap.size w w1) => Od.rsameR_any a.k.rep b.k.rep a.rs b.rs w1 (ka w1 h).ps (kb w1 h).ps la.ps lb.ps
  have hE := fun w1 => Od.run_same_ask a.k.ord b.k.ord w1
  by_cases h0 : a.k.kind = b.k.kind
  rotate_left
  · rw [sameK_no (fun e => h0 (by rw [e]))]; exact rsame_any_n0 a b w h0
  by_cases h1 : a.k.frm = b.k.frm
  rotate_left
  · rw [sameK_no (fun e => h1 (by rw [e]))]; exact rsame_any_n1 a b w h0 h1
  by_cases h2 : a.k.til = b.k.til
  rotate_left
  · rw [sameK_no (fun e => h2 (by rw [e]))]; exact rsame_any_n2 a b w h0 h1 h2
  by_cases h3 : a.k.range = b.k.range
  rotate_left
  · rw [sameK_no (fun e => h3 (by rw [e]))]; exact rsame_any_n3 a b w h0 h1 h2 h3
  by_cases hw : sameW a.k.wire b.k.wire = true
  rotate_left
  · rw [sameK_no (fun e => hw ((sameW_iff _ _).2 (by rw [e])))]
    exact rsame_any_w a b w h0 h1 h2 h3 (fun w1 h => (cw w1 h).mono fun e w' ⟨h3, h4⟩ => ⟨by rw [h3, Bool.eq_false_iff.2 hw], h4⟩)
  have cw2 := fun w1 (h : Below w.heap.size w w1) => (cw w1 h).mono fun e w' (⟨h3, h4⟩ : e = Ending.returned (.bool (sameW a.k.wire b.k.wire)) ∧ Below w1.heap.size w1 w') => (⟨by rw [h3, hw], h4⟩ : e = Ending.returned (.bool true) ∧ Below w1.heap.size w1 w')
  by_cases h4 : a.k.id = b.k.id
  rotate_left
  · rw [sameK_no (fun e => h4 (by rw [e]))]; exact rsame_any_n4 a b w h0 h1 h2 h3 cw2 h4
  by_cases h5 : a.k.next = b.k.next
  rotate_left
  · rw [sameK_no (fun e => h5 (by rw [e]))]; exact rsame_any_n5 a b w h0 h1 h2 h3 cw2 h4 h5
  by_cases h6 : sameA a.k.ord b.k.ord = true
  rotate_left
  · rw [sameK_no (fun e => h6 ((sameA_iff _ _).2 (by rw [e])))]
    exact rsame_any_n6 a b w h0 h1 h2 h3 cw2 h4 h5 (fun w1 => by rw [hE w1, Bool.eq_false_iff.2 h6])
  by_cases h7 : a.k.client = b.k.client
  rotate_left
  · rw [sameK_no (fun e => h7 (by rw [e]))]; exact rsame_any_n7 a b w h0 h1 h2 h3 cw2 h4 h5 (fun w1 => by rw [hE w1, h6]) h7
  by_cases h8 : a.k.seq = b.k.seq
  rotate_left
  · rw [sameK_no (fun e => h8 (by rw [e]))]; exact rsame_any_n8 a b w h0 h1 h2 h3 cw2 h4 h5 (fun w1 => by rw [hE w1, h6]) h7 h8
  by_cases h9 : a.k.status = b.k.status
  rotate_left
  · rw [sameK_no (fun e => h9 (by rw [e]))]; exact rsame_any_n9 a b w h0 h1 h2 h3 cw2 h4 h5 (fun w1 => by rw [hE w1, h6]) h7 h8 h9
  by_cases h10 : a.k.hint = b.k.hint
  rotate_left
  · rw [sameK_no (fun e => h10 (by rw [e]))]; exact rsame_any_n10 a b w h0 h1 h2 h3 cw2 h4 h5 (fun w1 => by rw [hE w1, h6]) h7 h8 h9 h10
  rw [sameK_rep h0 h1 h2 h3 hw h4 h5 h6 h7 h8 h9 h10]
  exact rsame_any_y a b w h0 h1 h2 h3 cw2 h4 h5 (fun w1 => by rw [hE w1, h6]) h7 h8 h9 h10 cr
end Go.Proofs.YtkpakiiijphjeaaGreatDoor.Po

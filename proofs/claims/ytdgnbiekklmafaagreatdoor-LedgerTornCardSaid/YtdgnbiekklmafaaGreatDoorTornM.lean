/-
  For LedgerTorn: a reel whose second tape ends within a record, or is spoilt there, as Open finds it; the rows that the law keeps. No condition.
-/
import Derived.Test.YtdgnbiekklmafaaGreatDoorLists
import Derived.Test.YtdgnbiekklmafaaGreatDoorTorn
import Derived.Test.YtdgnbiekklmafaaGreatDoorRPage
import Derived.Test.YtdgnbiekklmafaaGreatDoorRlRow
namespace Go.Proofs.YtdgnbiekklmafaaGreatDoor.Rl
open Go.RowKit
open Go.Proofs.YtdgnbiekklmafaaGreatDoor.M (pageT kBase kRec inR tellT tell_len tapeT tapeT_take tapeT_short torn_take torn_set)

theorem torn_open {room : Nat} {V p : Text} {L : List Text} (hV : V = tapeT [98] L ++ p) (hsc : Go.Proofs.YtdgnbiekklmafaaGreatDoor.M.scanT (tapeT [98] L ++ p) = some (1, [98], L, (tapeT [98] L).length)) (hlen : V.length ≤ room) (hF : Fine 1 [98] L) :
    ∃ m1 m2 m', (M.new room).write 1 V = (0, m1) ∧ m1.sync 1 = (0, m2) ∧ openM m2 = (0, some (⟨1, 1, L.length, false⟩, [98], L), m') ∧ Whole m' ⟨1, 1, L.length, false⟩ [98] L ∧ Calm m' ∧ m'.room = room := by
  have c0 := new_calm room
  have h1 := c0.write (t := 1) rfl V (by show 0 + 0 + V.length ≤ room; omega)
  have c1 := c0.put 1 ⟨((M.new room).get 1).s ++ V, ((M.new room).get 1).k⟩
  have h2 := c1.sync (t := 1) rfl
  have c2 := c1.put 1 ⟨((((M.new room).put 1 ⟨((M.new room).get 1).s ++ V, ((M.new room).get 1).k⟩).done).get 1).s, ((((M.new room).put 1 ⟨((M.new room).get 1).s ++ V, ((M.new room).get 1).k⟩).done).get 1).s.length⟩
  obtain ⟨m', q1, q2, q3, q4, q5⟩ := open_pick c2 (t := 1) rfl (e := 1) (b := [98]) (p := p) (l := L)
    (by rw [done_get, put_get]; show [] ++ V = _; rw [List.nil_append, hV]; rfl)
    (by rw [done_get, put_get]; show ([] ++ V).length = _; rw [List.nil_append, hV]; rfl)
    (by unfold scan4; show (Go.Proofs.YtdgnbiekklmafaaGreatDoor.M.scanT (tapeT [98] L ++ p)).getD _ = _; rw [hsc]; rfl) (by decide)
    (by show (scan4 []).1 < 1; rw [scan4_nil]; decide) rfl
  exact ⟨_, _, m', h1, h2, q1, ⟨rfl, hF, rfl, rfl, q2.off, q4, q5⟩, q2, q3⟩

theorem infoInt : (Tryz.prog.info? 3).map (fun i => (i.zero, i.size, i.bytes)) = some (some (.int .i64 0), 1, 8) := by kernel_rfl

/-- where the records end -/
noncomputable def endsT (ss : List ByteArray) (k : Nat) : List Nat := (List.range k).map fun j => (tapeT [98] (texts (ss.take (j + 1)))).length
theorem endsT_len (ss : List ByteArray) (k : Nat) : (endsT ss k).length = k := by simp [endsT]
theorem endsT_succ (ss : List ByteArray) (k : Nat) : endsT ss (k + 1) = endsT ss k ++ [(tapeT [98] (texts (ss.take (k + 1)))).length] := by simp [endsT, List.range_succ]
/-- a row of numbers of the call's own -/
def NR (N : Nat) (v : Value) (zs : List Nat) (w : World) : Prop := w.ownsRow N 3 1 v zs.length (zs.map fun (z : Nat) => Value.int .i64 (z : Int))
theorem NR.nil (N : Nat) (w : World) : NR N (.slice none 0 0) [] w := World.ownsRow_nil _ _ _ _
theorem NR.below {N : Nat} {v : Value} {zs : List Nat} {w w' : World} (h : NR N v zs w) (hb : Below w.heap.size w w') : NR N v zs w' :=
  (show w.ownsRow N 3 1 v zs.length _ from h).kept (row := none) ⟨hb.os, hb.tape, hb.output, hb.size, fun k hk _ => hb.block k hk⟩ (Classical.em _)
theorem NR.form {N : Nat} {v : Value} {zs : List Nat} {w : World} (h : NR N v zs w) : ∃ A c, v = .slice A zs.length c := by
  rcases h.2 with ⟨rfl, h0⟩ | ⟨g, cap, cur, rfl, _, hh, _⟩
  · exact ⟨none, 0, by rw [h0]⟩
  · exact ⟨_, _, rfl⟩
theorem NR.cells {N : Nat} {v : Value} {zs : List Nat} {w : World} (h : NR N v zs w) (h0 : 0 < zs.length) : ∃ g c, v = .slice (some ⟨g, 0, none⟩) zs.length c ∧ g < w.heap.size ∧ ∀ i (hi : i < zs.length), w.cell? ⟨g, i, none⟩ = some (.int .i64 (zs[i] : Int)) := by
  rcases h.2 with ⟨rfl, h1⟩ | ⟨g, cap, cur, rfl, _, hh, _⟩
  · omega
  · refine ⟨g, cap, rfl, (Array.getElem?_eq_some_iff.1 hh).1, fun i hi => ?_⟩
    have := (show w.ownsRow N 3 1 _ zs.length (zs.map fun (z : Nat) => Value.int .i64 (z : Int)) from h).cells (g := g) rfl i (.int .i64 (zs[i] : Int)) (by rw [List.getElem?_map, List.getElem?_eq_getElem hi]; rfl)
    rw [Addr.add_lit, Nat.zero_add] at this
    exact this
theorem SL.front {w : World} {B bb o c n K : Nat} {ss : List ByteArray} (h : SL w B (.slice (some ⟨bb, o, none⟩) n c) ss) (hK : K ≤ ss.length) : SL w B (.slice (some ⟨bb, o, none⟩) K c) (ss.take K) := by
  obtain ⟨A, c', hv, h2⟩ := h
  injection hv with h3 h4 h5
  have hl : (ss.take K).length = K := by rw [List.length_take]; omega
  refine ⟨A, c, by rw [hl, h3], fun h0 => ?_⟩
  obtain ⟨ad, e, hb, hc⟩ := h2 (by rw [hl] at h0; omega)
  exact ⟨ad, e, hb, fun i hi => by rw [hc i (by rw [hl] at hi; omega)]; simp⟩

/-- the tapes of the law: as long as few texts are long -/
theorem tape_le {ss : List ByteArray} (h50 : ss.length ≤ 50) (hs : ∀ s ∈ ss, s.size ≤ 8000) (k : Nat) : (tapeT [98] (texts (ss.take k))).length ≤ 414120 := by
  have hl : (texts (ss.take k)).length ≤ 50 := by rw [texts_length, List.length_take]; omega
  have := tapeT_short (b := [98]) (l := texts (ss.take k)) (c := 8000) (by decide) (by
    intro x hx
    obtain ⟨s, h1, rfl⟩ := List.mem_map.1 hx
    have := hs s (List.mem_of_mem_take h1)
    simpa using this) (by decide) (by omega)
  have h2 : ((texts (ss.take k)).length + 1) * 8120 ≤ 51 * 8120 := Nat.mul_le_mul_right _ (by omega)
  omega
theorem tape_succ (ss : List ByteArray) (k : Nat) (hk : k < ss.length) : tapeT [98] (texts (ss.take (k + 1))) = tapeT [98] (texts (ss.take k)) ++ pageT kRec ((k : Int) + 1) ss[k].data.toList := by
  have := tapeT_take [98] (texts ss) k (by rw [texts_length]; exact hk)
  have e : ∀ j, (texts ss).take j = texts (ss.take j) := fun j => by simp [texts, List.map_take]
  rw [e, e] at this
  rw [this]
  congr 2
  simp [texts]
theorem fine_torn {ss : List ByteArray} (h50 : ss.length ≤ 50) (hs : ∀ s ∈ ss, s.size ≤ 8000) (k : Nat) : Fine 1 [98] (texts (ss.take k)) :=
  ⟨by decide, by decide, by decide, by
    intro x hx
    obtain ⟨s, h1, rfl⟩ := List.mem_map.1 hx
    have := hs s (List.mem_of_mem_take h1)
    simp; omega, by rw [texts_length, List.length_take]; omega⟩


/-- what the law's calls on the torn tape answer -/
structure TornC (V : ByteArray) (L : List Text) (K : Nat) (m1 m2 m3 m4 : M) : Prop where
  cw : ∀ (b : Nat) (wx : World), RP b (M.new 4194304) wx → Calls Tryz.prog 21 #[ptr b, .int .i64 1, .string V] wx fun e w' => e = .returned (.int .i64 0) ∧ RP b m1 w' ∧ Fr b wx w'
  cs : ∀ (b : Nat) (wx : World), RP b m1 wx → Calls Tryz.prog 27 #[ptr b, .int .i64 1] wx fun e w' => e = .returned (.int .i64 0) ∧ RP b m2 w' ∧ Fr b wx w'
  co : ∀ (b : Nat) (wx : World), RP b m2 wx → Good wx → Calls Tryz.prog 10 #[ptr b] wx fun e w' => ∃ q B v ss, e = .returned (.tuple #[ptr q, .string B, v, .int .i64 0]) ∧ B.data.toList = [98] ∧ texts ss = L ∧ LP q b ⟨1, 1, K, false⟩ w' ∧ wx.heap.size ≤ q ∧ SR wx.heap.size v ss w' ∧ RP b m3 w' ∧ Fr b wx w'
  cr : ∀ (q b : Nat) (wx : World), LP q b ⟨1, 1, K, false⟩ wx → Calls Tryz.prog 24 #[ptr q] wx fun r w' => r = .returned (.int .i64 (K : Int)) ∧ wx = w'
  ca : ∀ (q b : Nat) (wx : World), LP q b ⟨1, 1, K, false⟩ wx → RP b m3 wx → Calls Tryz.prog 13 #[ptr q, .string ⟨#[122]⟩] wx fun r w' => r = .returned (.int .i64 0) ∧ LP q b ⟨1, 1, K + 1, false⟩ w' ∧ RP b m4 w' ∧ FL b q wx w'
theorem torn_calls {V : ByteArray} {p : Text} {L : List Text} {K : Nat} (hV : V.data.toList = tapeT [98] L ++ p) (hsc : Go.Proofs.YtdgnbiekklmafaaGreatDoor.M.scanT (tapeT [98] L ++ p) = some (1, [98], L, (tapeT [98] L).length)) (hlen : V.size ≤ 414120) (hF : Fine 1 [98] L) (hK : L.length = K) (hK50 : K ≤ 50) (hall : ∀ x ∈ L, x.length ≤ 8000) :
    ∃ m1 m2 m3 m4, TornC V L K m1 m2 m3 m4 := by
  subst hK
  obtain ⟨m1, m2, m', q1, q2, q3, W3, C3, q5⟩ := torn_open (room := 4194304) hV hsc (by simp; omega) hF
  have k0 : (M.new 4194304).ok := M.ok.new (by decide)
  have k1 := k0.write 1 V.data.toList (by decide)
  have o1 := (M.new 4194304).write_ops 1 V.data.toList
  rw [q1] at k1 o1
  have o0 : (M.new 4194304).ops = 0 := rfl
  rw [o0] at o1
  simp only at k1 o1
  have k2 := k1.sync 1 (by omega)
  have o2 := m1.sync_ops 1
  rw [q2] at k2 o2
  simp only at k2 o2
  obtain ⟨k3, o3⟩ := openM_ok' k2 (by omega) q3
  have hr := rec_short (n := L.length) (x := [122]) (by omega) (by decide)
  obtain ⟨m4, q4, W4, C4, q6⟩ := add_calm W3 C3 [122] (W3.fine.snoc [122] (by decide) (by omega)) (W3.fits (c := 8000) (k := 50) (by decide) hall hK50 (by decide) (by rw [q5]; simp at hr ⊢; omega))
  refine ⟨m1, m2, m', m4, ?_, ?_, ?_, ?_, ?_⟩
  · intro b wx hr
    have := c_write 1 V hr k0 (by decide) (by omega)
    rw [ByteArray.toList_eq, q1] at this
    exact this
  · intro b wx hr
    have := c_sync 1 hr k1 (by omega)
    rw [q2] at this
    exact this
  · intro b wx hr hg
    exact open_gives hr k2 (by omega) hg q3
  · intro q b wx h
    exact l_records h
  · intro q b wx h hr
    exact add_gives ⟨#[122]⟩ h hr k3 (by omega) W3.ok rfl q4

end Go.Proofs.YtdgnbiekklmafaaGreatDoor.Rl

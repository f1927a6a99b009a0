/-
  slices.Chunk at texts, by threes. Condition: at most 10,000 chunks.
  Parse, the program's: sessions out of a text. Conditions: lengths at most 2^47; the library's variables hold what their types allow.
-/
import Derived.Test.YticikmkehobblaaDoorDsChunk
import Derived.Test.YticikmkehobblaaDoorSsMNA
import Derived.Test.YticikmkehobblaaDoorSsBool
import Derived.OneCell
namespace Go.Proofs.YticikmkehobblaaDoor.Ss
open Go.RowKit Bnd
open Ds (Ix vals_snoc vals_length KpC kpC_t kpC_b)
attribute [local go_sem] Oper.semAt_some

def chunk3 (b off : Nat) (j : Nat) : Value := .slice (some ⟨b, off + j * 3, none⟩) 3 3
set_option maxRecDepth 100000 in
set_option maxHeartbeats 2000000 in
/-- slices.Chunk's closure: for every loop body that keeps its two boxes. -/
theorem chunks1_in (F : Fence) (n : Nat) (hf : F.fn 48) (hro : F.round = none) (hn : 1 ≤ n) (l B0 B1 b off m N cap : Nat) (A : Option Addr) (hA : 0 < m → A = some ⟨b, off, none⟩) (hreach : m ≤ 10000) (hN : Hid (N = m * 3)) (hcap : N ≤ cap) (_hcap2 : cap ≤ maxLen) (J Jx : List (Ix m) → World → Prop)
    (hY : ∀ pre x W, J pre W → pre.length < m → YieldAt F (n - 1) Tryd.prog l #[chunk3 b off x.1] W fun e W' =>
      (e = .returned (.bool true) ∧ J (pre ++ [x]) W' ∧ KpC B0 B1 W W') ∨ (e = .returned (.bool false) ∧ Jx (pre ++ [x]) W'))
    (W : World) (hB0s : W.cell? ⟨B0, 0, none⟩ = some (.slice A N cap)) (hB1s : W.cell? ⟨B1, 0, none⟩ = some (.int .i64 3))
    (hJd : AbidesFrom W.heap.size J) (h0 : J [] W) :
    CallsIn F n Tryd.prog 48 #[.func (.yield l) #[] #[], .pointer (some ⟨B0, 0, none⟩), .pointer (some ⟨B1, 0, none⟩)] W fun e W' => (∃ v, e = .returned v) ∧
      ((∃ ys, ys.map (·.1) = List.range m ∧ J ys W') ∨ (∃ pre, (∃ k, k ≤ m ∧ pre.map (·.1) = List.range k) ∧ Jx pre W')) := by
  refine callsIn_of_wp Tryd.func48 rfl hf ?_ hro
  simp only [Tryd.ntmps48, List.size_toArray, List.length_cons, List.length_nil, Nat.reduceAdd, Nat.reduceSub, Array.replicate_succ, Array.replicate_zero, List.push_toArray, List.append_toArray, List.nil_append, List.cons_append]
  gi_wp2
  gi_loopw [4, 5] (fun i _ wr => ∃ (k K : Nat) (pre : List (Ix m)), k ≤ m ∧ i = .int .i64 (K : Int) ∧ Hid (K = k * 3) ∧ pre.map (·.1) = List.range k ∧ J pre wr ∧ KpC B0 B1 W wr)
    (fun i _ _ => N - (intOf i).toNat)
  case atStart => exact ⟨0, 0, [], Nat.zero_le _, rfl, Lib.hid rfl, rfl, h0, rfl, rfl⟩
  case round =>
    obtain ⟨k, K, pre, hk, rfl, hK, hp, hJs, hnx⟩ := hrel
    have c0 := hnx.1.trans hB0s
    have c1 := hnx.2.trans hB1s
    by_cases hlt : k < m
    · rw [hA (by omega)] at c0
      have q1 := hN.out
      have q2 := hK.out
      have hKN : K + 3 ≤ N := by omega
      have hoff : off + k * 3 = off + K := by omega
      have hN2 : N ≤ 30000 := by omega
      clear q1 q2
      have HO := Lib.hid hoff
      clear hoff
      have hKi : (K : Int) < (N : Int) := by omega
      have e1 : ((K : Int) ≤ (N : Int)) = True := eq_true (by omega)
      have e2 : (cap = K) = False := eq_false (by omega)
      have e3 : min (3 : Int) ((N - K : Nat) : Int) = 3 := by omega
      have e4 : min (3 : Int) ((N : Int) - (K : Int)) = 3 := by omega
      have e5 : IntKind.i64.wrap ((K : Int) + 3) = (K : Int) + 3 := by rw [IntKind.wrap_i64]; omega
      gi_wp2
      refine St.wpIn_region_calm (fun _ _ wx => wx = wr.drew) (by kernel_rfl) (by kernel_rfl) (by kernel_rfl) (by kernel_rfl) rfl ?_
      apply St.mix_give
      · rfl
      · rintro L u' wx rfl hcl hrd hag
        go_simp
        try with_reducible rfl
      · exact fun L u' wx hS => hS
      simp only [Act.put, List.setIfInBounds_toArray, List.set_cons_zero, List.set_cons_succ]
      apply St.mix_give
      · rfl
      · rintro L u' wx rfl hcl hrd hag
        go_simp
        try with_reducible rfl
      · exact fun L u' wx hS => hS
      simp only [Act.put, List.setIfInBounds_toArray, List.set_cons_zero, List.set_cons_succ]
      apply St.mix_give
      · rfl
      · rintro L u' wx rfl hcl hrd hag
        go_simp
        try with_reducible rfl
      · exact fun L u' wx hS => hS
      simp only [Act.put, List.setIfInBounds_toArray, List.set_cons_zero, List.set_cons_succ]
      apply St.mix_give
      · rfl
      · rintro L u' wx rfl hcl hrd hag
        go_simp
        try with_reducible rfl
      · exact fun L u' wx hS => hS
      simp only [Act.put, List.setIfInBounds_toArray, List.set_cons_zero, List.set_cons_succ]
      apply St.mix_give
      · rfl
      · rintro L u' wx rfl hcl hrd hag
        go_simp
        try with_reducible rfl
      · exact fun L u' wx hS => hS
      simp only [Act.put, List.setIfInBounds_toArray, List.set_cons_zero, List.set_cons_succ]
      apply St.mix_give
      · rfl
      · rintro L u' wx rfl hcl hrd hag
        go_simp
        try with_reducible rfl
      · exact fun L u' wx hS => hS
      simp only [Act.put, List.setIfInBounds_toArray, List.set_cons_zero, List.set_cons_succ]
      apply St.mix_give
      · rfl
      · rintro L u' wx rfl hcl hrd hag
        go_simp
        try with_reducible rfl
      · exact fun L u' wx hS => hS
      simp only [Act.put, List.setIfInBounds_toArray, List.set_cons_zero, List.set_cons_succ]
      refine St.mix_last ?_
      rintro L wx rfl hall
      have hJd' : J pre wr.drew := hJd _ wr wr.drew none hJs ⟨rfl, rfl, rfl, Nat.le_refl _, fun _ _ _ => rfl⟩ (fun r e => by cases e)
      obtain ⟨fn, tmps, assign, body, hy, hR⟩ := hY _ (⟨k, hlt⟩ : Ix m) wr.drew hJd' (by rw [vals_length hp]; exact hlt)
      dsimp only at hy
      unfold chunk3 at hy
      rw [HO.out] at hy
      have HP := Lib.hid hp
      clear hp
      gi_wp2
      refine hR.mono ?_
      rintro e W3 (⟨rfl, hJ3, hk3⟩ | ⟨rfl, hJx3⟩)
      · have B3 : KpC B0 B1 W W3 := kpC_t (B := wr.drew) hnx hk3
        have c1' := B3.2.trans hB1s
        gi_wp2
        go_roundw
        case rel => exact ⟨k + 1, K + 3, _, by omega, by go_num, Lib.hid (by have := hK.out; omega), vals_snoc HP.out hlt, hJ3, B3⟩
        case measure => simp [intOf]; omega
      · gi_wp2
        refine bodyPost_ret (results_none rfl _ _ _) rfl ?_
        exact ⟨⟨_, rfl⟩, .inr ⟨_, ⟨k + 1, by omega, vals_snoc HP.out hlt⟩, hJx3⟩⟩
    · obtain rfl : k = m := by omega
      have hKN : N = K := by have := hN.out; have := hK.out; omega
      subst hKN
      gi_wp2
      go_end0
      exact ⟨⟨_, rfl⟩, .inl ⟨_, hp, hJs⟩⟩

set_option maxHeartbeats 1000000 in
/-- slices.Chunk by twos: the slice and the number are boxed; the function value captures the boxes. -/
theorem chunks_in (F : Fence) (n : Nat) (hf : F.fn 35) (hro : F.round = none) (a : Option Addr) (len cap : Nat) (w : World) :
    CallsIn F n Tryd.prog 35 #[.slice a len cap, .int .i64 3] w fun e w' => e = .returned (.func (.func 48) #[] #[.pointer (some ⟨w.heap.size, 0, none⟩), .pointer (some ⟨w.heap.size + 1, 0, none⟩)]) ∧ w' = (w.alloc (.cells #[.slice a len cap] 62)).alloc (.cells #[.int .i64 3] 3) := by
  refine callsIn_of_wp Tryd.func35 rfl hf ?_ hro
  simp only [Tryd.ntmps35, List.size_toArray, List.length_cons, List.length_nil, Nat.reduceAdd, Nat.reduceSub, Array.replicate_succ, Array.replicate_zero, List.push_toArray, List.append_toArray, List.nil_append, List.cons_append]
  gi_wp2
  go_ret
  exact ⟨rfl, rfl⟩

theorem chunks_stops (F : Fence) (n : Nat) (hf : F.fn 48) (hro : F.round = none) (hn : 1 ≤ n) (B0 B1 b off m N cap : Nat) (A : Option Addr) (hA : 0 < m → A = some ⟨b, off, none⟩) (hreach : m ≤ 10000) (hN : Hid (N = m * 3)) (hcap : N ≤ cap) (hcap2 : cap ≤ maxLen) (w : World) (h0 : B0 < w.heap.size) (h1 : B1 < w.heap.size)
    (hc0 : w.cell? ⟨B0, 0, none⟩ = some (.slice A N cap)) (hc1 : w.cell? ⟨B1, 0, none⟩ = some (.int .i64 3)) :
    SeqStopsK F n Tryd.prog 48 #[.pointer (some ⟨B0, 0, none⟩), .pointer (some ⟨B1, 0, none⟩)] (fun x : Ix m => #[chunk3 b off x.1]) (KpC B0 B1) (fun ys => ys.map (·.1) = List.range m) (fun pre => ∃ k, k ≤ m ∧ pre.map (·.1) = List.range k) m w := fun l J Jx W hW hJd _ hY h00 =>
  chunks1_in F n hf hro hn l B0 B1 b off m N cap A hA hreach hN hcap hcap2 J Jx hY W ((hW.cell (p := ⟨B0, 0, none⟩) h0).trans hc0) ((hW.cell (p := ⟨B1, 0, none⟩) h1).trans hc1) hJd h00

end Go.Proofs.YticikmkehobblaaDoor.Ss

namespace Go.Proofs.YticikmkehobblaaDoor.Ss
open Go.RowKit Bnd
open Go.Proofs.YticikmkehobblaaDoor.M (tieT untieT intT numT inR)
open Go.Proofs.YticikmkehobblaaDoor.Od (Rep SP ArgP OwnP rv BoxR Pr num0 parseR isR parseR_fresh num0_in)
open Ds (Ix vals_snoc vals_length run_append2 KpC kpC_t kpC_b)
attribute [local go_sem] Oper.semAt_some

theorem number_any (s : ByteArray) (w : World) (hs : s.size ≤ 140737488355328) (hg : Good w) : Calls Tryd.prog 37 #[.string s] w fun e w' => e = .returned (.int .i64 (num0 s.data.toList)) ∧ Below w.heap.size w w' := by
  have c := int_any s w hs hg
  unfold num0
  cases h : intT s.data.toList with
  | none =>
    rw [h] at c
    unfold intR at c
    clear h
    go_enter Tryd.func37, Tryd.ntmps37
    go_wp2_with fail
    refine c.mono ?_
    rintro e w' ⟨rfl, hb⟩
    go_wp2_with fail
    go_ret
    exact ⟨rfl, hb⟩
  | some n =>
    rw [h] at c
    unfold intR at c
    clear h
    go_enter Tryd.func37, Tryd.ntmps37
    go_wp2_with fail
    refine c.mono ?_
    rintro e w' ⟨rfl, hb⟩
    go_wp2_with fail
    go_ret
    exact ⟨rfl, hb⟩

/-! ### three by three -/
def tAt (ts : List ByteArray) (i : Nat) : ByteArray := ts.getD i ⟨#[]⟩
noncomputable def sAt (ts : List ByteArray) (j : Nat) : Ses := ⟨num0 (tAt ts (j * 3)).data.toList, num0 (tAt ts (j * 3 + 1)).data.toList, (parseR (tAt ts (j * 3 + 2)).data.toList).1⟩
noncomputable def eAt (ts : List ByteArray) (j : Nat) : Int := (parseR (tAt ts (j * 3 + 2)).data.toList).2
theorem tAt_succ (a b c : ByteArray) (l : List ByteArray) (i : Nat) : tAt (a :: b :: c :: l) (i + 3) = tAt l i := rfl
theorem sAt_succ (a b c : ByteArray) (l : List ByteArray) (j : Nat) : sAt (a :: b :: c :: l) (j + 1) = sAt l j := by
  unfold sAt
  rw [show (j + 1) * 3 = j * 3 + 3 by omega, show j * 3 + 3 + 1 = j * 3 + 1 + 3 by omega, show j * 3 + 3 + 2 = j * 3 + 2 + 3 by omega, tAt_succ, tAt_succ, tAt_succ]
theorem eAt_succ (a b c : ByteArray) (l : List ByteArray) (j : Nat) : eAt (a :: b :: c :: l) (j + 1) = eAt l j := by
  unfold eAt
  rw [show (j + 1) * 3 + 2 = j * 3 + 2 + 3 by omega, tAt_succ]
theorem readS_all : ∀ (m : Nat) (ts : List ByteArray), ts.length = m * 3 → (∀ j, j < m → eAt ts j = 0) → readS (texts ts) = some ((List.range m).map (sAt ts))
  | 0, ts, h, _ => by
    obtain rfl := List.length_eq_zero_iff.1 (by omega : ts.length = 0)
    rfl
  | m + 1, [], h, _ => by simp at h
  | m + 1, [_], h, _ => by simp at h; omega
  | m + 1, [_, _], h, _ => by simp at h; omega
  | m + 1, a :: b :: c :: l, h, ha => by
    have hl : l.length = m * 3 := by simp at h; omega
    have ih := readS_all m l hl (fun j hj => by have := ha (j + 1) (by omega); rwa [eAt_succ] at this)
    have h0 : (parseR c.data.toList).2 = 0 := ha 0 (by omega)
    show readS (a.data.toList :: b.data.toList :: c.data.toList :: texts l) = _
    rw [readS, if_pos h0, ih, List.range_succ_eq_map, List.map_cons, List.map_map]
    rw [show (sAt (a :: b :: c :: l)) ∘ Nat.succ = sAt l from funext fun j => sAt_succ a b c l j]
    rfl
theorem readS_bad : ∀ (m : Nat) (ts : List ByteArray), ts.length = m * 3 → (∃ j, j < m ∧ eAt ts j ≠ 0) → readS (texts ts) = none
  | 0, ts, h, hx => by obtain ⟨j, hj, _⟩ := hx; omega
  | m + 1, [], h, _ => by simp at h
  | m + 1, [_], h, _ => by simp at h; omega
  | m + 1, [_, _], h, _ => by simp at h; omega
  | m + 1, a :: b :: c :: l, h, hx => by
    have hl : l.length = m * 3 := by simp at h; omega
    show readS (a.data.toList :: b.data.toList :: c.data.toList :: texts l) = _
    rw [readS]
    by_cases h0 : (parseR c.data.toList).2 = 0
    · rw [if_pos h0]
      obtain ⟨j, hj, hn⟩ := hx
      cases j with
      | zero => exact absurd h0 hn
      | succ j => rw [eAt_succ] at hn; rw [readS_bad m l hl ⟨j, by omega, hn⟩]; rfl
    · rw [if_neg h0]
theorem readS_len : ∀ {t : List (List UInt8)} {l : List Ses}, readS t = some l → t.length = l.length * 3
  | [], l, h => by
    obtain rfl := Option.some.inj h
    rfl
  | [_], l, h => by simp [readS] at h
  | [_, _], l, h => by simp [readS] at h
  | a :: b :: c :: t, l, h => by
    rw [readS] at h
    split at h
    · cases ht : readS t with
      | none => rw [ht] at h; cases h
      | some l' =>
        rw [ht] at h
        obtain rfl := Option.some.inj h
        have := readS_len ht
        simp only [List.length_cons]; omega
    · cases h
theorem parseS_odd {s : List UInt8} {ts : List ByteArray} (hu : untieT s = some (texts ts)) (h : ts.length % 3 ≠ 0) : parseS s = ([], 80) := by
  unfold parseS
  rw [hu]
  simp only
  cases hr : readS (texts ts) with
  | none => rfl
  | some l =>
    have := readS_len hr
    rw [texts_length] at this
    omega
theorem parseS_bad {s : List UInt8} {ts : List ByteArray} {m : Nat} (hu : untieT s = some (texts ts)) (hm : ts.length = m * 3) (h : ∃ j, j < m ∧ eAt ts j ≠ 0) : parseS s = ([], 80) := by
  unfold parseS
  rw [hu]
  simp only [readS_bad m ts hm h]
theorem parseS_all {s : List UInt8} {ts : List ByteArray} {m : Nat} (hu : untieT s = some (texts ts)) (hm : ts.length = m * 3) (h : ∀ j, j < m → eAt ts j = 0) : parseS s = if isS ((List.range m).map (sAt ts)) = true then ((List.range m).map (sAt ts), 0) else ([], 80) := by
  unfold parseS
  rw [hu]
  simp only [readS_all m ts hm h]
/-- what a text says of a reply is short -/
theorem fit_parsed (ts : List ByteArray) (j : Nat) : FitZ (sAt ts j) := by
  have key : ∀ r : Rep, isR r = true → r.val.size ≤ 140737488355328 ∧ r.ps.length ≤ 140737488355328 ∧ ∀ p ∈ r.ps, p.1.size ≤ 140737488355328 ∧ p.2.size ≤ 140737488355328 := by
    intro r h
    unfold Od.isR at h
    simp only [Bool.and_eq_true, decide_eq_true_eq, List.all_eq_true] at h
    obtain ⟨⟨_, h1, h2⟩, h3⟩ := h
    refine ⟨by omega, by omega, fun p hp => ?_⟩
    have := h3 p hp
    unfold Od.pairB O.keyB at this
    simp only [Bool.and_eq_true, decide_eq_true_eq] at this
    obtain ⟨⟨_, h4⟩, h5⟩ := this
    rw [ByteArray.toList_eq] at h4
    have h6 : p.1.data.toList.length = p.1.size := by simp
    omega
  unfold sAt
  rcases Od.parseR_cases (tAt ts (j * 3 + 2)).data.toList with ⟨o, h1, _, h3⟩ | h3
  · rw [h3]
    obtain ⟨a, b, c⟩ := key o h1
    exact ⟨a, b, c⟩
  · rw [h3]
    exact ⟨by show (Od.E0 : ByteArray).size ≤ _; decide, Nat.zero_le _, fun p hp => by cases hp⟩

/-! ### pairs that are a row of somebody's own -/
def TZ (W : World) (zs : List Zs) : Prop := ∀ z ∈ zs, (z.1.rep.ps = [] ∧ ∃ A c, z.2 = .slice A 0 c) ∨ OwnP W 0 z.2 z.1.rep.ps
theorem TZ.keep {W W' : World} {zs : List Zs} (h : TZ W zs) (hb : Below W.heap.size W W') : TZ W' zs := fun z hz => (h z hz).imp id fun h => Od.own_keep h hb
theorem TZ.pz {W : World} {zs : List Zs} (h : TZ W zs) : PZ W W.heap.size zs := fun z hz => by
  rcases h z hz with ⟨h1, A, c, h2⟩ | h
  · rw [h1]
    exact ⟨A, c, h2, fun h => absurd h (by simp)⟩
  · exact SP.of_own h
theorem TZ.app {W : World} {a b : List Zs} (h : TZ W a) (h' : TZ W b) : TZ W (a ++ b) := fun z hz => by
  rcases List.mem_append.1 hz with hz | hz
  · exact h z hz
  · exact h' z hz
/-- a step that turns one block, of another kind -/
theorem TZ.grown {W W' : World} {row : Option Nat} {zs : List Zs} (h : TZ W zs) (hg : W.grownBy W' row) (hr : ∀ r, row = some r → ∃ o, W.heap[r]? = some o ∧ ∀ cur, o ≠ .cells cur 49 (0, 0)) : TZ W' zs := fun z hz => by
  rcases h z hz with h | h
  · exact .inl h
  · refine .inr (h.kept hg ?_)
    rcases h.2 with ⟨e, _⟩ | ⟨g, cap, cur, e, _, hh, _⟩
    · exact .inl (by rw [e]; rfl)
    · refine .inr fun e' => ?_
      rw [e] at e'
      obtain ⟨o, ho, hn⟩ := hr g e'.symm
      rw [hh] at ho
      exact hn cur (Option.some.inj ho).symm
theorem row_kind {W : World} {base : Nat} {v : Value} {xs : List Zs} (h : OwnZ W base v xs) : ∀ r, v.ownBlock = some r → ∃ o, W.heap[r]? = some o ∧ ∀ cur, o ≠ .cells cur 49 (0, 0) := by
  intro r e
  rcases h.2 with ⟨rfl, _⟩ | ⟨g, cap, cur, rfl, _, hh, _⟩
  · cases e
  · obtain rfl : g = r := by simpa [Value.ownBlock] using e
    exact ⟨_, hh, fun cur' e' => by injection e' with _ e' _; exact absurd e' (by decide)⟩
theorem box_kind {W : World} {B : Nat} {t : TypeId} {u : Value} (h : Boxed W B t u) (ht : t ≠ 49) : ∀ r, some B = some r → ∃ o, W.heap[r]? = some o ∧ ∀ cur, o ≠ .cells cur 49 (0, 0) := by
  rintro r e
  obtain rfl := Option.some.inj e
  exact ⟨_, h, fun cur' e' => by injection e' with _ e' _; exact ht e'⟩

/-- one session is put behind the others, in a box, behind the calls that read it -/
structure RK (N Lb : Nat) (W : World) (v : Value) (xs : List Zs) (z : Zs) (L : Nat → Bool) (u : Nat → Value) (wx : World) : Prop where
  a : L 11 = false → Below W.heap.size W wx
  b : L 11 = true → L 12 = false → ∃ wy : World, Below W.heap.size W wy ∧ u 11 = .slice (some ⟨wy.heap.size, 0, none⟩) 1 1 ∧ wx = wy.alloc (.cells #[.int .i64 z.1.client, .int .i64 z.1.seq, .int .i64 z.1.rep.code, .int .i64 z.1.rep.err, .bool z.1.rep.has, .string z.1.rep.val, z.2] 28)
  c : L 12 = true → L 13 = false → ∃ (wy : World) (tmp : Obj), OwnZ wx N (u 12) (xs ++ [z]) ∧ Below W.heap.size W wy ∧ (wy.alloc tmp).grownBy wx v.ownBlock
  d : L 13 = true → ∃ (w9 wy : World) (tmp : Obj), OwnZ w9 N (u 12) (xs ++ [z]) ∧ Below W.heap.size W wy ∧ (wy.alloc tmp).grownBy w9 v.ownBlock ∧ wx = w9.setCell ⟨Lb, 0, none⟩ (u 12)
theorem RK.call {N Lb : Nat} {W wx w' : World} {v : Value} {xs : List Zs} {z : Zs} {L : Nat → Bool} {u : Nat → Value} {i : Nat} {x : Value} (h : RK N Lb W v xs z L u wx) (h11 : L 11 = false) (h12 : L 12 = false) (h13 : L 13 = false) (hb : Below wx.heap.size wx w') (n1 : 11 ≠ i) (n2 : 12 ≠ i) (n3 : 13 ≠ i) : RK N Lb W v xs z (St.mark L i) (St.upd u i x) w' := by
  have e1 : St.mark L i 11 = L 11 := by simp [St.mark, n1]
  have e2 : St.mark L i 12 = L 12 := by simp [St.mark, n2]
  have e3 : St.mark L i 13 = L 13 := by simp [St.mark, n3]
  exact ⟨fun _ => (h.a h11).trans (hb.mono (h.a h11).size), fun h' => (by rw [e1, h11] at h'; cases h'), fun h' => (by rw [e2, h12] at h'; cases h'), fun h' => (by rw [e3, h13] at h'; cases h')⟩

/-- how far Parse has come -/
structure QI (w1 : World) (ts : List ByteArray) (m : Nat) (pre : List (Ix m)) (W : World) : Prop where
  row : ∃ zs', (∃ v, Boxed W w1.heap.size 22 v ∧ W.ownsRow w1.heap.size 28 7 v zs'.length (zcells zs') ∧ True) ∧ ses zs' = pre.map (fun x => sAt ts x.1) ∧ TZ W zs'
  ok : ∀ x ∈ pre, eAt ts x.1 = 0
  low : Below w1.heap.size w1 W
theorem TZ.turn {X Y : World} {row : Option Nat} {zs : List Zs} (h : TZ X zs) (hg : X.grownBy Y row) (hr : ∀ r, row = some r → ∃ o : Obj, X.heap[r]? = some o ∧ o.isCells = false) : TZ Y zs :=
  h.grown hg fun r e => by
    obtain ⟨o, ho, hc⟩ := hr r e
    exact ⟨o, ho, fun cur e' => by rw [e'] at hc; cases hc⟩
theorem qi_own (w1 : World) (ts : List ByteArray) (m : Nat) (B : Nat) (hB : w1.heap.size ≤ B) : OwnFrom B (fun (pre : List (Ix m)) W => QI w1 ts m pre W) := by
  intro pre X Y row h hg hr
  have hr2 : ∀ r, row = some r → ∃ o : Obj, X.heap[r]? = some o ∧ o.isCells = false := fun r e => (hr r e).2
  obtain ⟨⟨zs', h1, h2, h3⟩, h4, h5⟩ := h
  exact ⟨⟨zs', holdsRow_own w1.heap.size w1.heap.size 22 28 7 (fun q : List Zs => q.length) (fun q => zcells q) (fun _ _ => True) zs' X Y row h1 hg hr2, h2, h3.turn hg hr2⟩,
    h4, ownFrom_below (β := Unit) (Nat.le_refl _) hB () X Y row h5 hg hr⟩
end Go.Proofs.YticikmkehobblaaDoor.Ss

/-
  slices.Chunk at texts, by threes. Condition: at most 10,000 chunks.
  Parse, the program's: sessions out of a text. Conditions: lengths at most 2^47; the library's variables hold what their types allow.
  Parse, the program's, walked. Conditions: lengths at most 2^47; the library's variables hold what their types allow.
-/
import Derived.Test.YthcmnkmfhgoddaaGreatDoorKDsChA
import Derived.Test.YthcmnkmfhgoddaaGreatDoorKSsMA
import Derived.Test.YthcmnkmfhgoddaaGreatDoorKSsBoA
import Derived.OneCell
namespace Go.Proofs.YthcmnkmfhgoddaaGreatDoor.Ss
open Go.RowKit Bnd
open Ds (Ix vals_snoc vals_length KpC kpC_t kpC_b)
attribute [local go_sem] Oper.semAt_some
def chunk3 (b off : Nat) (j : Nat) : Value := .slice (some ⟨b, off + j * 3, none⟩) 3 3
set_option maxRecDepth 100000 in
set_option maxHeartbeats 2000000 in
theorem chunks1_in (F : Fence) (n : Nat) (hf : F.fn 243) (hro : F.round = none) (hn : 1 <= n) (l B0 B1 b off m N cap : Nat) (A : Option Addr) (hA : 0 < m -> A = some ⟨b, off, none⟩) (hreach : m <= 10000) (hN : Hid (N = m * 3)) (hcap : N <= cap) (_hcap2 : cap <= maxLen) (J Jx : List (Ix m) -> World -> Prop)
  (hY : ∀ pre x W, J pre W -> pre.length < m -> YieldAt F (n - 1) Tryz.prog l #[chunk3 b off x.1] W fun e W' =>
   (e = .returned (.bool true) /\ J (pre ++ [x]) W' /\ KpC B0 B1 W W') \/ (e = .returned (.bool false) /\ Jx (pre ++ [x]) W'))
  (W : World) (hB0s : W.cell? ⟨B0, 0, none⟩ = some (.slice A N cap)) (hB1s : W.cell? ⟨B1, 0, none⟩ = some (.int .i64 3))
  (hJd : AbidesFrom W.heap.size J) (h0 : J [] W) :
  CallsIn F n Tryz.prog 243 #[.func (.yield l) #[] #[], .pointer (some ⟨B0, 0, none⟩), .pointer (some ⟨B1, 0, none⟩)] W fun e W' => (∃ v, e = .returned v) /\
   ((∃ ys, ys.map (·.1) = List.range m /\ J ys W') \/ (∃ pre, (∃ k, k <= m /\ pre.map (·.1) = List.range k) /\ Jx pre W')) := by
 refine callsIn_of_wp Tryz.func243 rfl hf ?_ hro
 simp only [Tryz.ntmps243, List.size_toArray, List.length_cons, List.length_nil, Nat.reduceAdd, Nat.reduceSub, Array.replicate_succ, Array.replicate_zero, List.push_toArray, List.append_toArray, List.nil_append, List.cons_append]
 gi_wp2
 gi_loopw [4, 5] (fun i _ wr => ∃ (k K : Nat) (pre : List (Ix m)), k <= m /\ i = .int .i64 (K : Int) /\ Hid (K = k * 3) /\ pre.map (·.1) = List.range k /\ J pre wr /\ KpC B0 B1 W wr)
  (fun i _ _ => N - (intOf i).toNat)
 case atStart => exact ⟨0, 0, [], Nat.zero_le _, rfl, Lib.hid rfl, rfl, h0, rfl, rfl⟩
 case round =>
  obtain ⟨k, K, pre, hk, rfl, hK, hp, hJs, hnx⟩ := hrel
  have c0 := hnx.1.trans hB0s
  have c1 := hnx.2.trans hB1s
  by_cases hlt : k < m
  ·rw [hA (by omega)] at c0
   have q1 := hN.out
   have q2 := hK.out
   have hKN : K + 3 <= N := by omega
   have hoff : off + k * 3 = off + K := by omega
   have hN2 : N <= 30000 := by omega
   clear q1 q2
   have HO := Lib.hid hoff
   clear hoff
   have hKi : (K : Int) < (N : Int) := by omega
   have e1 : ((K : Int) <= (N : Int)) = True := eq_true (by omega)
   have e2 : (cap = K) = False := eq_false (by omega)
   have e3 : min (3 : Int) ((N - K : Nat) : Int) = 3 := by omega
   have e4 : min (3 : Int) ((N : Int) - (K : Int)) = 3 := by omega
   have e5 : IntKind.i64.wrap ((K : Int) + 3) = (K : Int) + 3 := by rw [IntKind.wrap_i64]; omega
   gi_wp2
   refine St.wpIn_region_calm (fun _ _ wx => wx = wr.drew) (by kernel_rfl) (by kernel_rfl) (by kernel_rfl) (by kernel_rfl) rfl ?_
   iterate 7
    apply St.mix_give
    ·rfl
    ·rintro L u' wx rfl hcl hrd hag
     go_simp
     try with_reducible rfl
    ·exact fun L u' wx hS => hS
    simp only [Act.put, St.pu]
   refine St.mix_last ?_
   rintro L wx rfl hall
   have hJd' : J pre wr.drew := hJd _ wr wr.drew none hJs ⟨rfl, rfl, rfl, Nat.le_refl _, fun _ _ _ => rfl⟩ (fun r e => by cases e)
   obtain ⟨fn, tmps, assign, body, hy, hR⟩ := hY _ (⟨k, hlt⟩ : Ix m) wr.drew hJd' (by rw [vals_length hp]; exact hlt)
   dsimp only at hy
   unfold chunk3 at hy
   rw [HO.out] at hy
   have HP := Lib.hid hp
   clear hp
   gi_wp2
   refine hR.mono ?_
   rintro e W3 (⟨rfl, hJ3, hk3⟩ | ⟨rfl, hJx3⟩)
   ·have B3 : KpC B0 B1 W W3 := kpC_t (B := wr.drew) hnx hk3
    have c1' := B3.2.trans hB1s
    gi_wp2
    go_roundw
    case rel => exact ⟨k + 1, K + 3, _, by omega, by go_num, Lib.hid (by have := hK.out; omega), vals_snoc HP.out hlt, hJ3, B3⟩
    case measure => simp [intOf]; omega
   ·gi_wp2
    refine bodyPost_ret (results_none rfl _ _ _) rfl ?_
    exact ⟨⟨_, rfl⟩, .inr ⟨_, ⟨k + 1, by omega, vals_snoc HP.out hlt⟩, hJx3⟩⟩
  ·obtain rfl : k = m := by omega
   have hKN : N = K := by have := hN.out; have := hK.out; omega
   subst hKN
   gi_wp2
   go_end0
   exact ⟨⟨_, rfl⟩, .inl ⟨_, hp, hJs⟩⟩
set_option maxHeartbeats 1000000 in
theorem chunks_in (F : Fence) (n : Nat) (hf : F.fn 203) (hro : F.round = none) (a : Option Addr) (len cap : Nat) (w : World) :
  CallsIn F n Tryz.prog 203 #[.slice a len cap, .int .i64 3] w fun e w' => e = .returned (.func (.func 243) #[] #[.pointer (some ⟨w.heap.size, 0, none⟩), .pointer (some ⟨w.heap.size + 1, 0, none⟩)]) /\ w' = (w.alloc (.cells #[.slice a len cap] 101)).alloc (.cells #[.int .i64 3] 3) := by
 refine callsIn_of_wp Tryz.func203 rfl hf ?_ hro
 simp only [Tryz.ntmps203, List.size_toArray, List.length_cons, List.length_nil, Nat.reduceAdd, Nat.reduceSub, Array.replicate_succ, Array.replicate_zero, List.push_toArray, List.append_toArray, List.nil_append, List.cons_append]
 gi_wp2
 go_ret
 exact ⟨rfl, rfl⟩
theorem chunks_stops (F : Fence) (n : Nat) (hf : F.fn 243) (hro : F.round = none) (hn : 1 <= n) (B0 B1 b off m N cap : Nat) (A : Option Addr) (hA : 0 < m -> A = some ⟨b, off, none⟩) (hreach : m <= 10000) (hN : Hid (N = m * 3)) (hcap : N <= cap) (hcap2 : cap <= maxLen) (w : World) (h0 : B0 < w.heap.size) (h1 : B1 < w.heap.size)
  (hc0 : w.cell? ⟨B0, 0, none⟩ = some (.slice A N cap)) (hc1 : w.cell? ⟨B1, 0, none⟩ = some (.int .i64 3)) :
  SeqStopsK F n Tryz.prog 243 #[.pointer (some ⟨B0, 0, none⟩), .pointer (some ⟨B1, 0, none⟩)] (fun x : Ix m => #[chunk3 b off x.1]) (KpC B0 B1) (fun ys => ys.map (·.1) = List.range m) (fun pre => ∃ k, k <= m /\ pre.map (·.1) = List.range k) m w := fun l J Jx W hW hJd _ hY h00 =>
 chunks1_in F n hf hro hn l B0 B1 b off m N cap A hA hreach hN hcap hcap2 J Jx hY W ((hW.cell (p := ⟨B0, 0, none⟩) h0).trans hc0) ((hW.cell (p := ⟨B1, 0, none⟩) h1).trans hc1) hJd h00
end Go.Proofs.YthcmnkmfhgoddaaGreatDoor.Ss

namespace Go.Proofs.YthcmnkmfhgoddaaGreatDoor.Ss
open Go.RowKit Bnd
open Go.Proofs.YthcmnkmfhgoddaaGreatDoor.M (tieT untieT intT numT inR)
open Go.Proofs.YthcmnkmfhgoddaaGreatDoor.Od (Rep SP ArgP OwnP rv BoxR Pr num0 parseR isR parseR_fresh num0_in)
open Ds (Ix vals_snoc vals_length run_append2 KpC kpC_t kpC_b)
attribute [local go_sem] Oper.semAt_some
theorem number_any (s : ByteArray) (w : World) (hs : s.size <= 140737488355328) (hg : Good w) : Calls Tryz.prog 205 #[.string s] w fun e w' => e = .returned (.int .i64 (num0 s.data.toList)) /\ Below w.heap.size w w' := by
 have c := int_any s w hs hg
 unfold num0
 cases h : intT s.data.toList with
 | none =>
  rw [h] at c
  unfold intR at c
  clear h
  go_enter Tryz.func205, Tryz.ntmps205
  go_wp2_with fail
  refine c.mono ?_
  rintro e w' ⟨rfl, hb⟩
  go_wp2_with fail
  go_ret
  exact ⟨rfl, hb⟩
 | some n =>
  rw [h] at c
  unfold intR at c
  clear h
  go_enter Tryz.func205, Tryz.ntmps205
  go_wp2_with fail
  refine c.mono ?_
  rintro e w' ⟨rfl, hb⟩
  go_wp2_with fail
  go_ret
  exact ⟨rfl, hb⟩
def tAt (ts : List ByteArray) (i : Nat) : ByteArray := ts.getD i ⟨#[]⟩
noncomputable def sAt (ts : List ByteArray) (j : Nat) : Ses := ⟨num0 (tAt ts (j * 3)).data.toList, num0 (tAt ts (j * 3 + 1)).data.toList, (parseR (tAt ts (j * 3 + 2)).data.toList).1⟩
noncomputable def eAt (ts : List ByteArray) (j : Nat) : Int := (parseR (tAt ts (j * 3 + 2)).data.toList).2
theorem tAt_succ (a b c : ByteArray) (l : List ByteArray) (i : Nat) : tAt (a :: b :: c :: l) (i + 3) = tAt l i := rfl
theorem sAt_succ (a b c : ByteArray) (l : List ByteArray) (j : Nat) : sAt (a :: b :: c :: l) (j + 1) = sAt l j := by
 unfold sAt
 rw [show (j + 1) * 3 = j * 3 + 3 by omega, show j * 3 + 3 + 1 = j * 3 + 1 + 3 by omega, show j * 3 + 3 + 2 = j * 3 + 2 + 3 by omega, tAt_succ, tAt_succ, tAt_succ]
theorem eAt_succ (a b c : ByteArray) (l : List ByteArray) (j : Nat) : eAt (a :: b :: c :: l) (j + 1) = eAt l j := by
 unfold eAt
 rw [show (j + 1) * 3 + 2 = j * 3 + 2 + 3 by omega, tAt_succ]
theorem readS_all : ∀ (m : Nat) (ts : List ByteArray), ts.length = m * 3 -> (∀ j, j < m -> eAt ts j = 0) -> readS (texts ts) = some ((List.range m).map (sAt ts))
 | 0, ts, h, _ => by
  obtain rfl := List.length_eq_zero_iff.1 (by omega : ts.length = 0)
  rfl
 | m + 1, [], h, _ => by simp at h
 | m + 1, [_], h, _ => by simp at h; omega
 | m + 1, [_, _], h, _ => by simp at h; omega
 | m + 1, a :: b :: c :: l, h, ha => by
  have hl : l.length = m * 3 := by simp at h; omega
  have ih := readS_all m l hl (fun j hj => by have := ha (j + 1) (by omega); rwa [eAt_succ] at this)
  have h0 : (parseR c.data.toList).2 = 0 := ha 0 (by omega)
  show readS (a.data.toList :: b.data.toList :: c.data.toList :: texts l) = _
  rw [readS, if_pos h0, ih, List.range_succ_eq_map, List.map_cons, List.map_map]
  rw [show (sAt (a :: b :: c :: l)) ∘ Nat.succ = sAt l from funext fun j => sAt_succ a b c l j]
  rfl
theorem readS_bad : ∀ (m : Nat) (ts : List ByteArray), ts.length = m * 3 -> (∃ j, j < m /\ eAt ts j ≠ 0) -> readS (texts ts) = none
 | 0, ts, h, hx => by obtain ⟨j, hj, _⟩ := hx; omega
 | m + 1, [], h, _ => by simp at h
 | m + 1, [_], h, _ => by simp at h; omega
 | m + 1, [_, _], h, _ => by simp at h; omega
 | m + 1, a :: b :: c :: l, h, hx => by
  have hl : l.length = m * 3 := by simp at h; omega
  show readS (a.data.toList :: b.data.toList :: c.data.toList :: texts l) = _
  rw [readS]
  by_cases h0 : (parseR c.data.toList).2 = 0
  ·rw [if_pos h0]
   obtain ⟨j, hj, hn⟩ := hx
   cases j with
   | zero => exact absurd h0 hn
   | succ j => rw [eAt_succ] at hn; rw [readS_bad m l hl ⟨j, by omega, hn⟩]; rfl
  ·rw [if_neg h0]
theorem readS_len : ∀ {t : List (List UInt8)} {l : List Ses}, readS t = some l -> t.length = l.length * 3
 | [], l, h => by
  obtain rfl := Option.some.inj h
  rfl
 | [_], l, h => by simp [readS] at h
 | [_, _], l, h => by simp [readS] at h
 | a :: b :: c :: t, l, h => by
  rw [readS] at h
  split at h
  ·cases ht : readS t with
   | none => rw [ht] at h; cases h
   | some l' =>
    rw [ht] at h
    obtain rfl := Option.some.inj h
    have := readS_len ht
    simp only [List.length_cons]; omega
  ·cases h
theorem parseS_odd {s : List UInt8} {ts : List ByteArray} (hu : untieT s = some (texts ts)) (h : ts.length % 3 ≠ 0) : parseS s = ([], 80) := by
 unfold parseS
 rw [hu]
 simp only
 cases hr : readS (texts ts) with
 | none => rfl
 | some l =>
  have := readS_len hr
  rw [texts_length] at this
  omega
theorem parseS_bad {s : List UInt8} {ts : List ByteArray} {m : Nat} (hu : untieT s = some (texts ts)) (hm : ts.length = m * 3) (h : ∃ j, j < m /\ eAt ts j ≠ 0) : parseS s = ([], 80) := by
 unfold parseS
 rw [hu]
 simp only [readS_bad m ts hm h]
theorem parseS_all {s : List UInt8} {ts : List ByteArray} {m : Nat} (hu : untieT s = some (texts ts)) (hm : ts.length = m * 3) (h : ∀ j, j < m -> eAt ts j = 0) : parseS s = if isS ((List.range m).map (sAt ts)) = true then ((List.range m).map (sAt ts), 0) else ([], 80) := by
 unfold parseS
 rw [hu]
 simp only [readS_all m ts hm h]
theorem fit_parsed (ts : List ByteArray) (j : Nat) : FitZ (sAt ts j) := by
 have key : ∀ r : Rep, isR r = true -> r.val.size <= 140737488355328 /\ r.ps.length <= 140737488355328 /\ ∀ p ∈ r.ps, p.1.size <= 140737488355328 /\ p.2.size <= 140737488355328 := by
  intro r h
  unfold Od.isR at h
  simp only [Bool.and_eq_true, decide_eq_true_eq, List.all_eq_true] at h
  obtain ⟨⟨_, h1, h2⟩, h3⟩ := h
  refine ⟨by omega, by omega, fun p hp => ?_⟩
  have := h3 p hp
  unfold Od.pairB O.keyB at this
  simp only [Bool.and_eq_true, decide_eq_true_eq] at this
  obtain ⟨⟨_, h4⟩, h5⟩ := this
  rw [ByteArray.toList_eq] at h4
  have h6 : p.1.data.toList.length = p.1.size := by simp
  omega
 unfold sAt
 rcases Od.parseR_cases (tAt ts (j * 3 + 2)).data.toList with ⟨o, h1, _, h3⟩ | h3
 ·rw [h3]
  obtain ⟨a, b, c⟩ := key o h1
  exact ⟨a, b, c⟩
 ·rw [h3]
  exact ⟨by show (Od.E0 : ByteArray).size <= _; decide, Nat.zero_le _, fun p hp => by cases hp⟩
def TZ (W : World) (zs : List Zs) : Prop := ∀ z ∈ zs, (z.1.rep.ps = [] /\ ∃ A c, z.2 = .slice A 0 c) \/ OwnP W 0 z.2 z.1.rep.ps
theorem TZ.keep {W W' : World} {zs : List Zs} (h : TZ W zs) (hb : Below W.heap.size W W') : TZ W' zs := fun z hz => (h z hz).imp id fun h => Od.own_keep h hb
theorem TZ.pz {W : World} {zs : List Zs} (h : TZ W zs) : PZ W W.heap.size zs := fun z hz => by
 rcases h z hz with ⟨h1, A, c, h2⟩ | h
 ·rw [h1]
  exact ⟨A, c, h2, fun h => absurd h (by simp)⟩
 ·exact SP.of_own h
theorem TZ.app {W : World} {a b : List Zs} (h : TZ W a) (h' : TZ W b) : TZ W (a ++ b) := fun z hz => by
 rcases List.mem_append.1 hz with hz | hz
 ·exact h z hz
 ·exact h' z hz
theorem TZ.grown {W W' : World} {row : Option Nat} {zs : List Zs} (h : TZ W zs) (hg : W.grownBy W' row) (hr : ∀ r, row = some r -> ∃ o, W.heap[r]? = some o /\ ∀ cur, o ≠ .cells cur 85 (0, 0)) : TZ W' zs := fun z hz => by
 rcases h z hz with h | h
 ·exact .inl h
 ·refine .inr (h.kept hg ?_)
  rcases h.2 with ⟨e, _⟩ | ⟨g, cap, cur, e, _, hh, _⟩
  ·exact .inl (by rw [e]; rfl)
  ·refine .inr fun e' => ?_
   rw [e] at e'
   obtain ⟨o, ho, hn⟩ := hr g e'.symm
   rw [hh] at ho
   exact hn cur (Option.some.inj ho).symm
theorem row_kind {W : World} {base : Nat} {v : Value} {xs : List Zs} (h : OwnZ W base v xs) : ∀ r, v.ownBlock = some r -> ∃ o, W.heap[r]? = some o /\ ∀ cur, o ≠ .cells cur 85 (0, 0) := by
 intro r e
 rcases h.2 with ⟨rfl, _⟩ | ⟨g, cap, cur, rfl, _, hh, _⟩
 ·cases e
 ·obtain rfl : g = r := by simpa [Value.ownBlock] using e
  exact ⟨_, hh, fun cur' e' => by injection e' with _ e' _; exact absurd e' (by decide)⟩
theorem box_kind {W : World} {B : Nat} {t : TypeId} {u : Value} (h : Boxed W B t u) (ht : t ≠ 85) : ∀ r, some B = some r -> ∃ o, W.heap[r]? = some o /\ ∀ cur, o ≠ .cells cur 85 (0, 0) := by
 rintro r e
 obtain rfl := Option.some.inj e
 exact ⟨_, h, fun cur' e' => by injection e' with _ e' _; exact ht e'⟩
structure RK (N Lb : Nat) (W : World) (v : Value) (xs : List Zs) (z : Zs) (L : Nat -> Bool) (u : Nat -> Value) (wx : World) : Prop where
 a : L 11 = false -> Below W.heap.size W wx
 b : L 11 = true -> L 12 = false -> ∃ wy : World, Below W.heap.size W wy /\ u 11 = .slice (some ⟨wy.heap.size, 0, none⟩) 1 1 /\ wx = wy.alloc (.cells #[.int .i64 z.1.client, .int .i64 z.1.seq, .int .i64 z.1.rep.code, .int .i64 z.1.rep.err, .bool z.1.rep.has, .string z.1.rep.val, z.2] 89)
 c : L 12 = true -> L 13 = false -> ∃ (wy : World) (tmp : Obj), OwnZ wx N (u 12) (xs ++ [z]) /\ Below W.heap.size W wy /\ (wy.alloc tmp).grownBy wx v.ownBlock
 d : L 13 = true -> ∃ (w9 wy : World) (tmp : Obj), OwnZ w9 N (u 12) (xs ++ [z]) /\ Below W.heap.size W wy /\ (wy.alloc tmp).grownBy w9 v.ownBlock /\ wx = w9.setCell ⟨Lb, 0, none⟩ (u 12)
theorem RK.call {N Lb : Nat} {W wx w' : World} {v : Value} {xs : List Zs} {z : Zs} {L : Nat -> Bool} {u : Nat -> Value} {i : Nat} {x : Value} (h : RK N Lb W v xs z L u wx) (h11 : L 11 = false) (h12 : L 12 = false) (h13 : L 13 = false) (hb : Below wx.heap.size wx w') (n1 : 11 ≠ i) (n2 : 12 ≠ i) (n3 : 13 ≠ i) : RK N Lb W v xs z (St.mark L i) (St.upd u i x) w' := by
 have e1 : St.mark L i 11 = L 11 := by simp [St.mark, n1]
 have e2 : St.mark L i 12 = L 12 := by simp [St.mark, n2]
 have e3 : St.mark L i 13 = L 13 := by simp [St.mark, n3]
 exact ⟨fun _ => (h.a h11).trans (hb.mono (h.a h11).size), fun h' => (by rw [e1, h11] at h'; cases h'), fun h' => (by rw [e2, h12] at h'; cases h'), fun h' => (by rw [e3, h13] at h'; cases h')⟩
structure QI (w1 : World) (ts : List ByteArray) (m : Nat) (pre : List (Ix m)) (W : World) : Prop where
 row : ∃ zs', (∃ v, Boxed W w1.heap.size 35 v /\ W.ownsRow w1.heap.size 89 7 v zs'.length (zcells zs') /\ True) /\ ses zs' = pre.map (fun x => sAt ts x.1) /\ TZ W zs'
 ok : ∀ x ∈ pre, eAt ts x.1 = 0
 low : Below w1.heap.size w1 W
theorem TZ.turn {X Y : World} {row : Option Nat} {zs : List Zs} (h : TZ X zs) (hg : X.grownBy Y row) (hr : ∀ r, row = some r -> ∃ o : Obj, X.heap[r]? = some o /\ o.isCells = false) : TZ Y zs :=
 h.grown hg fun r e => by
  obtain ⟨o, ho, hc⟩ := hr r e
  exact ⟨o, ho, fun cur e' => by rw [e'] at hc; cases hc⟩
theorem qi_own (w1 : World) (ts : List ByteArray) (m : Nat) (B : Nat) (hB : w1.heap.size <= B) : OwnFrom B (fun (pre : List (Ix m)) W => QI w1 ts m pre W) := by
 intro pre X Y row h hg hr
 have hr2 : ∀ r, row = some r -> ∃ o : Obj, X.heap[r]? = some o /\ o.isCells = false := fun r e => (hr r e).2
 obtain ⟨⟨zs', h1, h2, h3⟩, h4, h5⟩ := h
 exact ⟨⟨zs', holdsRow_own w1.heap.size w1.heap.size 35 89 7 (fun q : List Zs => q.length) (fun q => zcells q) (fun _ _ => True) zs' X Y row h1 hg hr2, h2, h3.turn hg hr2⟩,
  h4, ownFrom_below (β := Unit) (Nat.le_refl _) hB () X Y row h5 hg hr⟩
end Go.Proofs.YthcmnkmfhgoddaaGreatDoor.Ss

namespace Go.Proofs.YthcmnkmfhgoddaaGreatDoor.Ss
open Go.RowKit Bnd
open Go.Proofs.YthcmnkmfhgoddaaGreatDoor.M (tieT untieT intT numT inR)
open Go.Proofs.YthcmnkmfhgoddaaGreatDoor.Od (Rep SP ArgP OwnP rv BoxR Pr num0 parseR isR parseR_fresh num0_in)
open Ds (Ix vals_snoc vals_length run_append2 KpC kpC_t kpC_b)
attribute [local go_sem] Oper.semAt_some
theorem row_cells {w : World} {base : Nat} {v : Value} {ss : List ByteArray} (h : w.ownsRow base 9 1 v ss.length (ss.map Value.string)) :
  ∃ (g : Nat) (A : Option Addr) (cap : Nat), v = .slice A ss.length cap /\ (0 < ss.length -> A = some ⟨g, 0, none⟩ /\ g < w.heap.size) /\ ss.length <= cap /\ cap <= maxLen /\ ∀ i (_ : i < ss.length), w.cell? ⟨g, i, none⟩ = some (.string (tAt ss i)) := by
 rcases h.2 with ⟨e, h0⟩ | ⟨g, cap, cur, e, hbg, hgb, hnc, hcm, hcs, htk⟩
 ·exact ⟨0, none, 0, by rw [e, h0], fun h => by omega, by omega, by unfold maxLen; omega, fun i hi => by omega⟩
 ·refine ⟨g, _, cap, e, fun _ => ⟨rfl, (Array.getElem?_eq_some_iff.1 hgb).1⟩, hnc, hcm, fun i hi => ?_⟩
  have := h.cells (g := g) (by rw [e]; rfl) i _ (by rw [List.getElem?_map, List.getElem?_eq_getElem hi]; rfl)
  rw [Addr.add_lit, Nat.zero_add] at this
  rw [this]
  unfold tAt
  rw [List.getD_eq_getElem?_getD, List.getElem?_eq_getElem hi]
  rfl
set_option maxRecDepth 100000 in
set_option maxHeartbeats 8000000 in
theorem parse_in (s : ByteArray) (l : List (List UInt8)) (m : Nat) (w : World) (hs : s.size <= 140737488355328) (hg : Good w) (hu : untieT s.data.toList = some l) (hm : l.length = m * 3) :
  CallsIn Fence.wide 5 Tryz.prog 124 #[.string s] w fun e w' => NoteOut w (parseS s.data.toList) e w' := by
 have cu := fun w hg => untie_own s w hs hg
 rw [hu] at cu
 have hus := M.untie_spec hu
 have HU := Lib.hid hu
 clear hu
 refine callsIn_of_wp_marks Tryz.func124 rfl trivial ?_ rfl
 simp only [Tryz.ntmps124, List.size_toArray, List.length_cons, List.length_nil, Nat.reduceAdd, Nat.reduceSub, Array.replicate_succ, Array.replicate_zero, List.push_toArray, List.append_toArray, List.nil_append, List.cons_append]
 gi_wp2_with (refine ⟨trivial, ?_⟩; gi_at_call 92; refine (callsIn_wide.2 (cu _ (hg.below (by exact bex0)))).mono ?_)
 rintro e w1 ⟨⟨v, ss, rfl, hss, hown⟩, b1⟩
 subst hss
 rw [texts_length] at hm
 have hszs : ∀ i, (tAt ss i).size <= 1048576 := by
  intro i
  unfold tAt
  rcases Nat.lt_or_ge i ss.length with h | h
  ·rw [List.getD_eq_getElem?_getD, List.getElem?_eq_getElem h]
   have h1 := mem_le_tie (l := texts ss) (x := ss[i].data.toList) (List.mem_map.2 ⟨_, List.getElem_mem h, rfl⟩)
   have h2 := hus.2.2
   rw [hus.1] at h2
   have h3 : ss[i].data.toList.length = ss[i].size := by simp
   show (ss[i]).size <= _
   omega
  ·rw [List.getD_eq_getElem?_getD, List.getElem?_eq_none h]
   decide
 have hln : ss.length <= 4096 := by have := hus.2.1; rwa [texts_length] at this
 obtain ⟨g, A, cap, rfl, hA, hnc, hcm, hcl⟩ := row_cells hown
 obtain ⟨N, hN⟩ : ∃ N, ss.length = N := ⟨_, rfl⟩
 rw [hN] at hm hln hA hnc hcl ⊢
 have HN := Lib.hid hN
 have HM := Lib.hid hm
 have hm1 : m <= 2000 := by omega
 have e1 : (((N : Int).tmod 3) == 0) = true := by have := HM.out; rw [Int.tmod_eq_emod_of_nonneg (by omega)]; simp; omega
 have e2 : (((N : Int).tmod 3) != 0) = false := by simp [bne, e1]
 have e3 : (((N : Int) % 3) == 0) = true := by have := HM.out; simp; omega
 have e4 : (((N : Int) % 3) != 0) = false := by simp [bne, e3]
 have hb1 : Below w.heap.size w w1 := (show Below w.heap.size w _ from (by exact bex0)).trans (b1.mono (by simp; omega))
 have R0 : w1.cell? ⟨w.heap.size, 0, none⟩ = some (.slice none 0 0) := by rw [b1.cell (p := ⟨w.heap.size, 0, none⟩) (by simp; omega)]; simp [go_sem]
 have R0f : w1.frozen? ⟨w.heap.size, 0, none⟩ = false := by rw [b1.frozen (p := ⟨w.heap.size, 0, none⟩) (by simp; omega)]; simp [go_sem]
 have R1 : w1.cell? ⟨w.heap.size + 1, 0, none⟩ = some (.int .i64 0) := by rw [b1.cell (p := ⟨w.heap.size + 1, 0, none⟩) (by simp)]; simp [go_sem]
 have R1f : w1.frozen? ⟨w.heap.size + 1, 0, none⟩ = false := by rw [b1.frozen (p := ⟨w.heap.size + 1, 0, none⟩) (by simp)]; simp [go_sem]
 have hz1 : w.heap.size + 1 < w1.heap.size := by have := b1.size; simp at this; omega
 have hg1 : Good w1 := hg.below hb1
 clear b1 hown hN hm cu hus
 gi_wp2_with (refine ⟨trivial, ?_⟩; gi_at_call 203; refine (chunks_in Fence.wide 4 trivial rfl _ _ _ _).mono ?_; rintro e w2 ⟨rfl, rfl⟩)
 obtain ⟨W0, hW0⟩ : ∃ W0, ((w1.alloc (.cells #[.slice none 0 0] 35)).alloc (.cells #[.slice A N cap] 101)).alloc (.cells #[.int .i64 3] 3) = W0 := ⟨_, rfl⟩
 have bL : Boxed W0 w1.heap.size 35 (.slice none 0 0) := hW0 ▸ ((Boxed.new w1 35 (.slice none 0 0)).alloc _).alloc _
 have bS : Boxed W0 (w1.heap.size + 1) 101 (.slice A N cap) := by
  have := (Boxed.new (w1.alloc (.cells #[.slice none 0 0] 35)) 101 (.slice A N cap)).alloc (.cells #[.int .i64 3] 3)
  rw [World.size_alloc] at this; exact hW0 ▸ this
 have bI : Boxed W0 (w1.heap.size + 1 + 1) 3 (.int .i64 3) := by
  have := Boxed.new ((w1.alloc (.cells #[.slice none 0 0] 35)).alloc (.cells #[.slice A N cap] 101)) 3 (.int .i64 3)
  rw [World.size_alloc, World.size_alloc] at this; exact hW0 ▸ this
 have hB0 : Below w1.heap.size w1 W0 := hW0 ▸ (by exact bex0)
 have hz0 : W0.heap.size = w1.heap.size + 3 := by rw [<- hW0]; simp
 rw [hW0]
 clear hW0
 refine wpIn_rangeFunc_ownG (w0 := W0) (N := m) rfl (by omega) (gf := 243) (lb := #[.pointer (some ⟨w1.heap.size + 1, 0, none⟩), .pointer (some ⟨w1.heap.size + 1 + 1, 0, none⟩)]) rfl trivial (enters_of Tryz.func243 (by kernel_rfl) rfl)
  (chunks_stops Fence.wide 4 trivial rfl (by omega) (w1.heap.size + 1) (w1.heap.size + 1 + 1) g 0 m N cap A (fun h => (hA (by have := HM.out; omega)).1) (by omega) HM hnc hcm W0 (by omega) (by omega) bS.cell bI.cell) kpC_t (kpC_b (by omega) (by omega)) (Below.refl _ _) (fun _ => rfl)
  (fun pre W => QI w1 ss m pre W /\ (Boxed W (w1.heap.size + 1) 101 (.slice A N cap) /\ Boxed W (w1.heap.size + 1 + 1) 3 (.int .i64 3)))
  (fun c pre W => c = .ret /\ (∃ x ∈ pre, eAt ss x.1 ≠ 0) /\ (W.cell? ⟨w.heap.size, 0, none⟩ = some (.slice none 0 0) /\ W.cell? ⟨w.heap.size + 1, 0, none⟩ = some (.int .i64 80)) /\ Below w.heap.size w W)
  (OwnFrom.and (qi_own w1 ss m _ (by omega)) (OwnFrom.and (Own.from (boxed_own _ _ (fun _ => _)) _) (Own.from (boxed_own _ _ (fun _ => _)) _)))
  (fun c s X Y row hs hg hr => ⟨hs.1, hs.2.1, ⟨cell_kept hs.2.2.1.1 hg (fun r e => (hr r e).2), cell_kept hs.2.2.1.2 hg (fun r e => (hr r e).2)⟩, (ownFrom_below (β := Unit) (n₀ := w.heap.size) (B := W0.heap.size) (w₀ := w) (Nat.le_refl _) (by omega)) () X Y row hs.2.2.2 hg hr⟩)
  ⟨⟨⟨[], ⟨_, bL, World.ownsRow_nil _ _ _ _, trivial⟩, rfl, fun z hz => by cases hz⟩, (fun x hx => by cases hx), hB0⟩, bS, bI⟩
  (fun x => { tmps := #[.string s, undef, .pointer (some ⟨w.heap.size, 0, none⟩), .pointer (some ⟨w.heap.size + 1, 0, none⟩), .slice A N cap, .int .i64 0, .pointer (some ⟨w1.heap.size, 0, none⟩), chunk3 g 0 x.1, undef, undef,
   .tuple #[.slice A N cap, .int .i64 0], .string s, .tuple #[.slice A N cap, .int .i64 0], .slice A N cap, .int .i64 0, .int .i64 0, .bool false, .bool false, .slice A N cap, .int .i64 (N : Int),
   .int .i64 ((N : Int) % 3), .bool false, .bool false, .slice A N cap, .func (.func 243) #[] #[.pointer (some ⟨w1.heap.size + 1, 0, none⟩), .pointer (some ⟨w1.heap.size + 1 + 1, 0, none⟩)], chunk3 g 0 x.1,
   undef, undef, undef, undef, undef, undef, undef, undef, undef, undef, undef, undef, undef, undef, undef, undef, undef, undef, undef, undef, undef, undef, undef, undef, undef, undef], defers := [] }) ?assign ?body ?done ?stop
 case assign =>
  intro l x W K hK
  gi_wp2
  exact hK
 case body =>
  rintro l pre x W ⟨⟨⟨zs', ⟨v, hv, hrow, _⟩, hses, htz⟩, hok, hlow⟩, hs0, hi0⟩ hlt
  have hxN : x.1 * 3 + 2 < N := by have := x.2; have := HM.out; omega
  have hgl1 : g < w1.heap.size := (hA (by omega)).2
  have hzW := hlow.size
  have hvl := hv.lt
  have hgl : g < W.heap.size := by omega
  have y0 := (hlow.cell (p := ⟨g, x.1 * 3, none⟩) hgl1).trans (hcl _ (by omega))
  have y1 := (hlow.cell (p := ⟨g, x.1 * 3 + 1, none⟩) hgl1).trans (hcl _ (by omega))
  have y2 := (hlow.cell (p := ⟨g, x.1 * 3 + 2, none⟩) hgl1).trans (hcl _ hxN)
  have r0 := (hlow.cell (p := ⟨w.heap.size, 0, none⟩) (show w.heap.size < w1.heap.size by omega)).trans R0
  have r1 := (hlow.cell (p := ⟨w.heap.size + 1, 0, none⟩) (show w.heap.size + 1 < w1.heap.size by omega)).trans R1
  have r0f := (hlow.frozen (p := ⟨w.heap.size, 0, none⟩) (show w.heap.size < w1.heap.size by omega)).trans R0f
  have r1f := (hlow.frozen (p := ⟨w.heap.size + 1, 0, none⟩) (show w.heap.size + 1 < w1.heap.size by omega)).trans R1f
  have hgW : Good W := hg1.below hlow
  have hsi : sAt ss x.1 = ⟨num0 (tAt ss (x.1 * 3)).data.toList, num0 (tAt ss (x.1 * 3 + 1)).data.toList, (parseR (tAt ss (x.1 * 3 + 2)).data.toList).1⟩ := rfl
  have hei : eAt ss x.1 = (parseR (tAt ss (x.1 * 3 + 2)).data.toList).2 := rfl
  have s0 := hszs (x.1 * 3)
  have s1 := hszs (x.1 * 3 + 1)
  have s2 := hszs (x.1 * 3 + 2)
  obtain ⟨t0, ht0⟩ : ∃ t, tAt ss (x.1 * 3) = t := ⟨_, rfl⟩
  obtain ⟨t1, ht1⟩ : ∃ t, tAt ss (x.1 * 3 + 1) = t := ⟨_, rfl⟩
  obtain ⟨t2, ht2⟩ : ∃ t, tAt ss (x.1 * 3 + 2) = t := ⟨_, rfl⟩
  rw [ht0] at y0 s0 hsi
  rw [ht1] at y1 s1 hsi
  rw [ht2] at y2 s2 hsi hei
  have cp := parseR_fresh t2 W (by omega) hgW
  have c0 := fun w hg => number_any t0 w (by omega) hg
  have c1 := fun w hg => number_any t1 w (by omega) hg
  have hcases : (parseR t2.data.toList).2 = 0 \/ (parseR t2.data.toList).2 = 70 := by
   rcases Od.parseR_cases t2.data.toList with ⟨o, _, _, h⟩ | h
   ·rw [h]; exact .inl rfl
   ·rw [h]; exact .inr rfl
  obtain ⟨q, hq⟩ : ∃ q, parseR t2.data.toList = q := ⟨_, rfl⟩
  rw [hq] at cp hsi hei hcases
  obtain ⟨r, e⟩ := q
  simp only at hsi hei hcases
  obtain ⟨n0, hn0⟩ : ∃ n, num0 t0.data.toList = n := ⟨_, rfl⟩
  obtain ⟨n1, hn1⟩ : ∃ n, num0 t1.data.toList = n := ⟨_, rfl⟩
  rw [hn0] at c0 hsi
  rw [hn1] at c1 hsi
  obtain ⟨k, hk⟩ : ∃ k, pre.length = k := ⟨_, rfl⟩
  have hkz : zs'.length = k := by
   have h1 := congrArg List.length hses
   simp only [List.length_map] at h1
   omega
  have hkm : k <= 2000 := by omega
  have HKZ := Lib.hid hkz
  have HSES := Lib.hid hses
  have HSI := Lib.hid hsi
  have HEI := Lib.hid hei
  obtain ⟨A7, c7, rfl⟩ : ∃ A7 c7, v = .slice A7 k c7 := by
   rcases hrow.2 with ⟨rfl, h0⟩ | ⟨g', cap', cur', rfl, _⟩
   ·exact ⟨none, 0, by rw [<- hkz, h0]⟩
   ·exact ⟨_, _, by rw [hkz]⟩
  have hrow' : OwnZ W w1.heap.size (.slice A7 k c7) zs' := hrow
  unfold chunk3
  simp only [Nat.zero_add]
  clear hkz hk hses hsi hei hrow hq ht0 ht1 ht2 hn0 hn1 s0 s1 s2 hcl hA hszs hxN
  rcases hcases with rfl | rfl
  rotate_left
  ·gi_wp2_with (refine ⟨trivial, ?_⟩; gi_at_call 204; refine (CallsIn.inRound l (callsIn_wide.2 cp)).mono ?_)
   rintro e W3 ⟨sP, rfl, hsp, hb3, _⟩
   obtain ⟨pA, pc, rfl⟩ := hsp.form
   have z0 := (hb3.cell (p := ⟨w.heap.size, 0, none⟩) (show w.heap.size < W.heap.size by omega)).trans r0
   have z1 := (hb3.cell (p := ⟨w.heap.size + 1, 0, none⟩) (show w.heap.size + 1 < W.heap.size by omega)).trans r1
   have z0f := (hb3.frozen (p := ⟨w.heap.size, 0, none⟩) (show w.heap.size < W.heap.size by omega)).trans r0f
   have z1f := (hb3.frozen (p := ⟨w.heap.size + 1, 0, none⟩) (show w.heap.size + 1 < W.heap.size by omega)).trans r1f
   have hz3 := hb3.size
   have q0 : w.heap.size < W3.heap.size := by omega
   have q1 : w.heap.size + 1 < W3.heap.size := by omega
   have hbw3 : Below w.heap.size w W3 := (hb1.trans (hlow.mono (by omega))).trans (hb3.mono (by omega))
   clear r0 r1 r0f r1f y0 y1 y2 R0 R1 R0f R1f cp
   gi_wp2
   exact ⟨((((keepsOthers_of hb3).trans (KeepsOthers.setCell _ _ _)).trans (KeepsOthers.setCell _ _ _)).trans (KeepsOthers.alloc _ _)).from _, rfl, ⟨x, by simp, by rw [HEI.out]; decide⟩, ⟨by simp [go_sem, z0, q0], by simp [go_sem, z1, q1]⟩,
    ((hbw3.setCell (p := ⟨w.heap.size, 0, none⟩) (Nat.le_refl _) _).setCell (p := ⟨w.heap.size + 1, 0, none⟩) (show w.heap.size <= w.heap.size + 1 by omega) _).alloc (by simp; omega) _⟩
  ·gi_wp2_with (refine ⟨trivial, ?_⟩; gi_at_call 204; refine (CallsIn.inRound l (callsIn_wide.2 cp)).mono ?_)
   rintro e W3 ⟨sP, rfl, hsp, hb3, hop⟩
   obtain ⟨pA, pc, rfl⟩ := hsp.form
   obtain ⟨P, hP⟩ : ∃ P, r.ps.length = P := ⟨_, rfl⟩
   have HP := Lib.hid hP
   have HOP := Lib.hid hop
   have HSP := Lib.hid hsp
   simp only at hop hsp
   rw [hP]
   have hz3 := hb3.size
   obtain ⟨W4, hW4⟩ : ∃ W4, W3.alloc (.cells #[.int .i64 r.code, .int .i64 r.err, .bool r.has, .string r.val, .slice pA P pc] 87) = W4 := ⟨_, rfl⟩
   have bR : BoxR W3.heap.size r (.slice pA P pc) W4 := hW4 ▸ BoxR.new W3 r (.slice pA P pc)
   have hb34 : Below W3.heap.size W3 W4 := by rw [<- hW4]; exact (Below.refl _ W3).alloc (Nat.le_refl _) _
   have hb4 : Below W.heap.size W W4 := hb3.trans (hb34.mono hz3)
   have hg4 : Good W4 := hgW.below hb4
   have hz4 := hb4.size
   have b4 := Below.boxed hb4 hvl hv
   have bs4 := Below.boxed hb4 hs0.lt hs0
   have bi4 := Below.boxed hb4 hi0.lt hi0
   have d2 := b4.cell
   have f2 := b4.frozen
   have hvl4 := b4.lt
   have y0 := (hb4.cell (p := ⟨g, x.1 * 3, none⟩) hgl).trans y0
   have y1 := (hb4.cell (p := ⟨g, x.1 * 3 + 1, none⟩) hgl).trans y1
   have hrow4 : OwnZ W4 w1.heap.size (.slice A7 k c7) zs' := ownZ_keep hrow' hb4
   have htz4 := htz.keep hb4
   have htz5 : Hid (TZ W4 [(⟨n0, n1, r⟩, .slice pA P pc)]) := Lib.hid (fun z hz => by
    simp only [List.mem_singleton] at hz
    subst hz
    rcases Nat.eq_zero_or_pos r.ps.length with h0 | h0
    ·exact .inl ⟨List.length_eq_zero_iff.1 h0, pA, pc, by rw [<- HP.out, h0]⟩
    ·have := HOP.out h0
     simp only at this
     rw [HP.out] at this
     exact .inr (Od.own_base (Od.own_keep this hb34) (Nat.zero_le _)))
   have hgl : g < W4.heap.size := by omega
   clear hop hsp hP cp
   gi_wp2
   try rw [hW4]
   clear hW4
   refine St.wpIn_region_calls (RK w1.heap.size w1.heap.size W4 (.slice A7 k c7) zs' (⟨n0, n1, r⟩, .slice pA P pc)) (fun j y => match j with | 4 => y = .int .i64 n0 | _ => y = .int .i64 n1) (fun _ => trivial) (fun h => by cases h) (fun _ _ _ _ h => CallsIn.inRound l (callsIn_wide.2 h)) (by kernel_rfl) (by kernel_rfl) (by kernel_rfl) (by kernel_rfl)
    ⟨fun _ => (Below.refl _ W4).drew, fun h => (by cases h), fun h => (by cases h), fun h => (by cases h)⟩ ?_
   apply St.mix_give
   ·rfl
   ·intro L u' wx hS hcl hrd hag
    have h12 := St.not_yet hcl hrd 40 12 (by kernel_rfl)
    have x2 : wx.cell? ⟨w1.heap.size, 0, none⟩ = some (.slice A7 k c7) := by
     cases h11 : L 11 with
     | false => exact ((hS.a h11).cell (p := ⟨w1.heap.size, 0, none⟩) hvl4).trans d2
     | true =>
      obtain ⟨wy, hby, _, rfl⟩ := hS.b h11 h12
      exact (World.cell?_alloc_lt wy _ ⟨w1.heap.size, 0, none⟩ (Nat.lt_of_lt_of_le hvl4 hby.size)).trans ((hby.cell (p := ⟨w1.heap.size, 0, none⟩) hvl4).trans d2)
    go_simp
    try with_reducible rfl
   ·exact fun L u' wx hS => ⟨hS.a, hS.b, hS.c, hS.d⟩
   simp only [Act.put, St.pu]
   iterate 2
    apply St.mix_give
    ·rfl
    ·intro L u' wx hS hcl hrd hag
     go_simp
     try with_reducible rfl
    ·exact fun L u' wx hS => ⟨hS.a, hS.b, hS.c, hS.d⟩
    simp only [Act.put, St.pu]
   apply St.mix_give
   ·rfl
   ·intro L u' wx hS hcl hrd hag
    have h11 := St.not_yet hcl hrd 40 11 (by kernel_rfl)
    have hb := hS.a h11
    have x0 := (hb.cell (p := ⟨g, x.1 * 3, none⟩) hgl).trans y0
    have x1 := (hb.cell (p := ⟨g, x.1 * 3 + 1, none⟩) hgl).trans y1
    go_simp
    try with_reducible rfl
   ·exact fun L u' wx hS => ⟨hS.a, hS.b, hS.c, hS.d⟩
   simp only [Act.put, St.pu]
   refine St.mix_into (v := .int .i64 n0) (f := 205) (args := #[.string t0]) rfl rfl ?_ ?_ ?_
   ·intro wx
    go_simp
    try with_reducible rfl
   ·intro L u' wx hS hcl hrd hag
    have h11 := St.not_yet hcl hrd 40 11 (by kernel_rfl)
    have h12 := St.not_yet hcl hrd 40 12 (by kernel_rfl)
    have h13 := St.not_yet hcl hrd 40 13 (by kernel_rfl)
    refine (c0 wx (hg4.below (hS.a h11))).mono ?_
    rintro e w' ⟨rfl, hb'⟩
    exact ⟨rfl, hS.call h11 h12 h13 hb' (by decide) (by decide) (by decide)⟩
   simp only [Act.put, St.pu]
   iterate 2
    apply St.mix_give
    ·rfl
    ·intro L u' wx hS hcl hrd hag
     go_simp
     try with_reducible rfl
    ·exact fun L u' wx hS => ⟨hS.a, hS.b, hS.c, hS.d⟩
    simp only [Act.put, St.pu]
   apply St.mix_give
   ·rfl
   ·intro L u' wx hS hcl hrd hag
    have h11 := St.not_yet hcl hrd 40 11 (by kernel_rfl)
    have hb := hS.a h11
    have x0 := (hb.cell (p := ⟨g, x.1 * 3, none⟩) hgl).trans y0
    have x1 := (hb.cell (p := ⟨g, x.1 * 3 + 1, none⟩) hgl).trans y1
    go_simp
    try with_reducible rfl
   ·exact fun L u' wx hS => ⟨hS.a, hS.b, hS.c, hS.d⟩
   simp only [Act.put, St.pu]
   refine St.mix_into (v := .int .i64 n1) (f := 205) (args := #[.string t1]) rfl rfl ?_ ?_ ?_
   ·intro wx
    go_simp
    try with_reducible rfl
   ·intro L u' wx hS hcl hrd hag
    have h11 := St.not_yet hcl hrd 40 11 (by kernel_rfl)
    have h12 := St.not_yet hcl hrd 40 12 (by kernel_rfl)
    have h13 := St.not_yet hcl hrd 40 13 (by kernel_rfl)
    refine (c1 wx (hg4.below (hS.a h11))).mono ?_
    rintro e w' ⟨rfl, hb'⟩
    exact ⟨rfl, hS.call h11 h12 h13 hb' (by decide) (by decide) (by decide)⟩
   simp only [Act.put, St.pu]
   apply St.mix_give
   ·rfl
   ·intro L u' wx hS hcl hrd hag
    have h11 := St.not_yet hcl hrd 40 11 (by kernel_rfl)
    obtain ⟨_, ⟨x_1, x_2, x_3, x_4, x_5⟩, _⟩ := bR.keep (hS.a h11)
    go_simp
    try with_reducible rfl
   ·exact fun L u' wx hS => ⟨hS.a, hS.b, hS.c, hS.d⟩
   simp only [Act.put, St.pu]
   apply St.mix_give
   ·rfl
   ·intro L u' wx hS hcl hrd hag
    go_simp
    try with_reducible rfl
   ·exact fun L u' wx hS => ⟨hS.a, hS.b, hS.c, hS.d⟩
   simp only [Act.put, St.pu]
   refine St.mix_free (fun z => ∃ n : Nat, z = .slice (some ⟨n, 0, none⟩) 1 1) rfl ?_ ?_
   ·intro L u' wx hS hcl hrd hag
    have h12 := St.not_yet hcl hrd 40 12 (by kernel_rfl)
    have h13 := St.not_yet hcl hrd 40 13 (by kernel_rfl)
    have hb := hS.a hrd.1
    refine ⟨_, _, ⟨wx.heap.size, rfl⟩, ?_, ⟨fun h => (by simp [St.mark] at h), fun _ _ => ⟨wx, hb, rfl, rfl⟩, fun h => (by rw [show St.mark L 11 12 = L 12 from rfl, h12] at h; cases h), fun h => (by rw [show St.mark L 11 13 = L 13 from rfl, h13] at h; cases h)⟩⟩
    go_simp
    try with_reducible rfl
   rintro _ ⟨n3, rfl⟩
   simp only [Act.put, St.pu]
   refine St.mix_free (fun z => ∃ A c, z = .slice A (k + 1) c) rfl ?_ ?_
   ·intro L u' wx hS hcl hrd hag
    have h11 := St.before_ready hcl hrd 40 11 (by kernel_rfl)
    have h13 := St.not_yet hcl hrd 40 13 (by kernel_rfl)
    obtain ⟨wy, hby, hu3, rfl⟩ := hS.b h11 hrd.1
    have hu : u' 11 = .slice (some ⟨n3, 0, none⟩) 1 1 := hag 40 11 (by kernel_rfl)
    obtain rfl : n3 = wy.heap.size := by
     rw [hu] at hu3
     injection hu3 with hu3 _ _
     injection hu3 with hu3
     injection hu3 with hu3 _ _
    have hOy : OwnZ wy w1.heap.size (.slice A7 k c7) zs' := ownZ_keep hrow4 hby
    have hOa := ownZ_alloc hOy (.cells #[.int .i64 n0, .int .i64 n1, .int .i64 r.code, .int .i64 r.err, .bool r.has, .string r.val, .slice pA P pc] 89)
    have hSZ := (argZ_one wy (⟨n0, n1, r⟩, .slice pA P pc)).sz
    have hyz := hby.size
    obtain ⟨v', w', k1, k2, k3, k4⟩ := run_append_zs hOa (by simp; omega) (b := wy.heap.size) (o' := 0) (c := 1) (ys := [(⟨n0, n1, r⟩, .slice pA P pc)]) hSZ (fun z hz => by simp at hz; subst hz; rfl) (by have := HKZ.out; simp; omega)
    refine ⟨v', w', ?_, run_append2 rfl rfl rfl k1, ⟨fun h => (by rw [show St.mark L 12 11 = L 11 from rfl, h11] at h; cases h), fun _ h => (by simp [St.mark] at h), fun _ _ => ⟨wy, _, k2, hby, k4⟩, fun h => (by rw [show St.mark L 12 13 = L 13 from rfl, h13] at h; cases h)⟩⟩
    obtain ⟨A', c', hv'⟩ := (SZ.of_own k2).form
    have := HKZ.out
    rw [List.length_append, this] at hv'
    exact ⟨A', c', hv'⟩
   rintro y12 ⟨A9, c9, rfl⟩
   simp only [Act.put, St.pu]
   refine St.mix_skip rfl ?_ ?_
   ·intro L u' wx hS hcl hrd hag
    have h12 := St.before_ready hcl hrd 40 12 (by kernel_rfl)
    have h11 := St.before_ready hcl hrd 40 11 (by kernel_rfl)
    obtain ⟨wy, tmp, k2, hby, k4⟩ := hS.c h12 hrd.1
    have hu : u' 12 = .slice A9 (k + 1) c9 := hag 40 12 (by kernel_rfl)
    have hvy := Below.boxed hby hvl4 b4
    have hv1 := (Boxed.alloc hvy tmp).kept k4 (Boxed.not_row hvy (by decide) (ownZ_keep hrow4 hby))
    have c1 := hv1.cell
    have f1 := hv1.frozen
    refine ⟨wx.setCell ⟨w1.heap.size, 0, none⟩ (u' 12), ?_, ⟨fun h => (by rw [show St.mark L 13 11 = L 11 from rfl, h11] at h; cases h), fun _ h => (by rw [show St.mark L 13 12 = L 12 from rfl, h12] at h; cases h), fun _ h => (by simp [St.mark] at h), fun _ => ⟨wx, wy, tmp, k2, hby, k4, rfl⟩⟩⟩
    rw [hu]
    go_simp
    try with_reducible rfl
   simp only [Act.put]
   refine St.mix_last ?_
   intro L wx hS hall
   obtain ⟨w9, wy, tmp, k2, hby, k4, hwx⟩ := hS.d (hall 13 (by decide))
   have k2' : OwnZ w9 w1.heap.size (.slice A9 (k + 1) c9) (zs' ++ [(⟨n0, n1, r⟩, .slice pA P pc)]) := k2
   have hwx' : wx = w9.setCell ⟨w1.heap.size, 0, none⟩ (.slice A9 (k + 1) c9) := hwx
   subst hwx'
   have hvy := Below.boxed hby hvl4 b4
   have hry : OwnZ wy w1.heap.size (.slice A7 k c7) zs' := ownZ_keep hrow4 hby
   have hyz := hby.size
   obtain ⟨hv1, hv2, hr2, hk2, hb2⟩ := Boxed.appended hvy (by decide) hry (by omega) (Nat.le_refl _) k2' k4
   have q3 := box_app (Below.boxed hby bs4.lt bs4) hry k4 (by decide) w1.heap.size (by omega) (.slice A9 (k + 1) c9)
   have q4 := box_app (Below.boxed hby bi4.lt bi4) hry k4 (by decide) w1.heap.size (by omega) (.slice A9 (k + 1) c9)
   have tzy : TZ wy (zs' ++ [(⟨n0, n1, r⟩, .slice pA P pc)]) := (htz4.app htz5.out).keep hby
   have tzf : Hid (TZ (w9.setCell ⟨w1.heap.size, 0, none⟩ (.slice A9 (k + 1) c9)) (zs' ++ [(⟨n0, n1, r⟩, .slice pA P pc)])) := Lib.hid
    (((tzy.keep ((Below.refl _ wy).alloc (Nat.le_refl _) tmp)).grown k4 (row_kind (ownZ_alloc hry tmp))).grown (grownBy_setCell' w9 w1.heap.size _) (box_kind hv1 (by decide)))
   clear hS hall k2 k4 hwx hvy hry tzy hv1
   gi_wp2
   have hbW : Below w1.heap.size W (w9.setCell ⟨w1.heap.size, 0, none⟩ (.slice A9 (k + 1) c9)) := ((hb4.mono (by omega)).trans (hby.mono (by omega))).trans hb2
   refine ⟨(((keepsOthers_of hb4).trans (keepsOthers_of hby)).trans hk2).from _, ⟨q3.cell.trans hs0.cell.symm, q4.cell.trans hi0.cell.symm⟩, ⟨⟨zs' ++ [(⟨n0, n1, r⟩, .slice pA P pc)], ⟨_, hv2, ?_, trivial⟩, ?_, tzf.out⟩, ?_, hlow.trans hbW⟩, q3, q4⟩
   ·have h2 := HKZ.out
    rw [show (zs' ++ [((⟨n0, n1, r⟩ : Ses), Value.slice pA P pc)]).length = k + 1 by simp [h2]]
    rw [show (zs' ++ [((⟨n0, n1, r⟩ : Ses), Value.slice pA P pc)]).length = k + 1 by simp [h2]] at hr2
    exact hr2
   ·rw [List.map_append, <- HSES.out, List.map_singleton, HSI.out]
    simp [ses]
   ·intro x' hx'
    rcases List.mem_append.1 hx' with h | h
    ·exact hok x' h
    ·simp only [List.mem_singleton] at h
     subst h
     exact HEI.out
 case done =>
  rintro D ys W hD hys ⟨⟨⟨zs', ⟨v, hv, hrow, _⟩, hses, htz⟩, hok, hlow⟩, hs0, hi0⟩ hK
  have hyl : ys.length = m := vals_length hys
  have hzl : zs'.length = m := by
   have h1 := congrArg List.length hses
   simp only [List.length_map] at h1
   omega
  have hrow' : OwnZ W w1.heap.size v zs' := hrow
  have hres : ses zs' = (List.range m).map (sAt ss) := by
   rw [hses, show ys.map (fun x => sAt ss x.1) = (ys.map (·.1)).map (sAt ss) by rw [List.map_map]; rfl, hys]
  have hall : ∀ j, j < m -> eAt ss j = 0 := fun j hj => by
   have : j ∈ ys.map (·.1) := by rw [hys]; simpa using hj
   obtain ⟨x, hx, rfl⟩ := List.mem_map.1 this
   exact hok x hx
  have hans := parseS_all HU.out (by rw [HN.out, HM.out]) hall
  rw [<- hres] at hans
  have hft : ∀ z ∈ zs', FitZ z.1 := fun z hz => by
   have : z.1 ∈ ses zs' := List.mem_map.2 ⟨z, hz, rfl⟩
   rw [hres] at this
   obtain ⟨j, _, e⟩ := List.mem_map.1 this
   rw [<- e]
   exact fit_parsed ss j
  have ck := fun w (hb : Below W.heap.size W w) => check_any v zs' w (((SZ.of_own hrow').below hb).more hb.size) ((htz.keep hb).pz) hft (by omega)
  obtain ⟨A7, c7, rfl⟩ : ∃ A7 c7, v = .slice A7 zs'.length c7 := by
   rcases hrow.2 with ⟨rfl, h0⟩ | ⟨g', cap', cur', rfl, _⟩
   ·exact ⟨none, 0, by rw [h0]⟩
   ·exact ⟨_, _, rfl⟩
  have hzW := hlow.size
  have hvl := hv.lt
  have d2 := hv.cell
  have r0 := (hlow.cell (p := ⟨w.heap.size, 0, none⟩) (show w.heap.size < w1.heap.size by omega)).trans R0
  have r1 := (hlow.cell (p := ⟨w.heap.size + 1, 0, none⟩) (show w.heap.size + 1 < w1.heap.size by omega)).trans R1
  have r0f := (hlow.frozen (p := ⟨w.heap.size, 0, none⟩) (show w.heap.size < w1.heap.size by omega)).trans R0f
  have r1f := (hlow.frozen (p := ⟨w.heap.size + 1, 0, none⟩) (show w.heap.size + 1 < w1.heap.size by omega)).trans R1f
  have hbw : Below w.heap.size w W := hb1.trans (hlow.mono (by omega))
  have HRES := Lib.hid hres
  have HROW := Lib.hid hrow'
  have HTZ := Lib.hid htz
  have HV := Lib.hid hv
  have HK := Lib.hid hK
  clear hres hzl hyl hses hrow hrow' hall hok hft
  cases hI : isS (ses zs') with
  | false =>
   rw [hI, if_neg (by simp)] at hans
   have ck2 := ck W (Below.refl _ W)
   rw [show chkS (ses zs') = 80 by unfold chkS; rw [hI]; rfl] at ck2
   have HAN := Lib.hid hans
   clear hans ck hI
   gi_wp2_with (refine ⟨trivial, ?_⟩; gi_at_call 85; refine (callsIn_wide.2 ck2).mono ?_)
   rintro e W3 ⟨rfl, hb3⟩
   have z0 := (hb3.cell (p := ⟨w.heap.size, 0, none⟩) (show w.heap.size < W.heap.size by omega)).trans r0
   have z1 := (hb3.cell (p := ⟨w.heap.size + 1, 0, none⟩) (show w.heap.size + 1 < W.heap.size by omega)).trans r1
   have z0f := (hb3.frozen (p := ⟨w.heap.size, 0, none⟩) (show w.heap.size < W.heap.size by omega)).trans r0f
   have z1f := (hb3.frozen (p := ⟨w.heap.size + 1, 0, none⟩) (show w.heap.size + 1 < W.heap.size by omega)).trans r1f
   have hK3 := (keepsOthers_of hb3).same D _ HK.out rfl
   have hz3 := hb3.size
   have hbw3 := hbw.trans (hb3.mono (by omega))
   clear r0 r1 r0f r1f d2 ck2
   gi_wp2
   have hK' := ((KeepsOthers.setCell W3 ⟨w.heap.size, 0, none⟩ (.slice none 0 0)).trans (KeepsOthers.setCell _ ⟨w.heap.size + 1, 0, none⟩ (.int .i64 80))).same D _ hK3 rfl
   refine ⟨by simp, .inl ⟨_, _, rfl, run_takeDeferred hK', ?_⟩⟩
   have hc5 := cell_kept (show ((W3.setCell ⟨w.heap.size, 0, none⟩ (.slice none 0 0)).setCell ⟨w.heap.size + 1, 0, none⟩ (.int .i64 80)).cell? ⟨w.heap.size, 0, none⟩ = some (.slice none 0 0) by simp [go_sem, z0]) (grownBy_putObj' _ D (.deferred none)) (fun r e => by cases e; exact ⟨_, hK', rfl⟩)
   have hc6 := cell_kept (show ((W3.setCell ⟨w.heap.size, 0, none⟩ (.slice none 0 0)).setCell ⟨w.heap.size + 1, 0, none⟩ (.int .i64 80)).cell? ⟨w.heap.size + 1, 0, none⟩ = some (.int .i64 80) by simp [go_sem, z1]) (grownBy_putObj' _ D (.deferred none)) (fun r e => by cases e; exact ⟨_, hK', rfl⟩)
   refine ⟨.tuple #[.slice none 0 0, .int .i64 80], by simp [results, Tryz.results124, go_sem, hc5, hc6], ?_⟩
   rw [HAN.out]
   exact NoteOut.none (((hbw3.setCell (p := ⟨w.heap.size, 0, none⟩) (Nat.le_refl _) _).setCell (p := ⟨w.heap.size + 1, 0, none⟩) (show w.heap.size <= w.heap.size + 1 by omega) _).trans (belowK_b (w := w) (Nat.le_refl _) _ D _ _ (by omega) hK' rfl rfl))
  | true =>
   rw [hI, if_pos rfl] at hans
   have ck2 := ck W (Below.refl _ W)
   rw [show chkS (ses zs') = 0 by unfold chkS; rw [hI]; rfl] at ck2
   have HAN := Lib.hid hans
   have hnp : Hid (NoP zs') := Lib.hid (htz.pz.nop fun s hs => fits_ps (rise_mem ((isS_iff _).1 hI).2 s hs).2)
   clear hans ck hI
   gi_wp2_with (refine ⟨trivial, ?_⟩; gi_at_call 85; refine (callsIn_wide.2 ck2).mono ?_)
   rintro e W3 ⟨rfl, hb3⟩
   have z0 := (hb3.cell (p := ⟨w.heap.size, 0, none⟩) (show w.heap.size < W.heap.size by omega)).trans r0
   have z1 := (hb3.cell (p := ⟨w.heap.size + 1, 0, none⟩) (show w.heap.size + 1 < W.heap.size by omega)).trans r1
   have z0f := (hb3.frozen (p := ⟨w.heap.size, 0, none⟩) (show w.heap.size < W.heap.size by omega)).trans r0f
   have z1f := (hb3.frozen (p := ⟨w.heap.size + 1, 0, none⟩) (show w.heap.size + 1 < W.heap.size by omega)).trans r1f
   have d3 := (hb3.cell (p := ⟨w1.heap.size, 0, none⟩) hvl).trans d2
   have hK3 := (keepsOthers_of hb3).same D _ HK.out rfl
   have hz3 := hb3.size
   have hbw3 := hbw.trans (hb3.mono (by omega))
   have hrow3 := Lib.hid (ownZ_keep HROW.out hb3)
   clear r0 r1 r0f r1f d2 ck2
   gi_wp2
   have hK' := ((KeepsOthers.setCell W3 ⟨w.heap.size, 0, none⟩ (.slice A7 zs'.length c7)).trans (KeepsOthers.setCell _ ⟨w.heap.size + 1, 0, none⟩ (.int .i64 0))).same D _ hK3 rfl
   refine ⟨by simp, .inl ⟨_, _, rfl, run_takeDeferred hK', ?_⟩⟩
   have hc5 := cell_kept (show ((W3.setCell ⟨w.heap.size, 0, none⟩ (.slice A7 zs'.length c7)).setCell ⟨w.heap.size + 1, 0, none⟩ (.int .i64 0)).cell? ⟨w.heap.size, 0, none⟩ = some (.slice A7 zs'.length c7) by simp [go_sem, z0]) (grownBy_putObj' _ D (.deferred none)) (fun r e => by cases e; exact ⟨_, hK', rfl⟩)
   have hc6 := cell_kept (show ((W3.setCell ⟨w.heap.size, 0, none⟩ (.slice A7 zs'.length c7)).setCell ⟨w.heap.size + 1, 0, none⟩ (.int .i64 0)).cell? ⟨w.heap.size + 1, 0, none⟩ = some (.int .i64 0) by simp [go_sem, z1]) (grownBy_putObj' _ D (.deferred none)) (fun r e => by cases e; exact ⟨_, hK', rfl⟩)
   have hrow4 : OwnZ ((W3.setCell ⟨w.heap.size, 0, none⟩ (.slice A7 zs'.length c7)).setCell ⟨w.heap.size + 1, 0, none⟩ (.int .i64 0)) w1.heap.size (.slice A7 zs'.length c7) zs' :=
    ownZ_set (ownZ_set hrow3.out (show w.heap.size < w1.heap.size by omega) _) (show w.heap.size + 1 < w1.heap.size by omega) _
   refine ⟨.tuple #[.slice A7 zs'.length c7, .int .i64 0], by simp [results, Tryz.results124, go_sem, hc5, hc6], ?_⟩
   rw [HAN.out]
   exact ⟨_, zs', rfl, rfl, ArgZ.of_own (ownsRow_putObj hrow4 _ hK' rfl), hnp.out, ((hbw3.setCell (p := ⟨w.heap.size, 0, none⟩) (Nat.le_refl _) _).setCell (p := ⟨w.heap.size + 1, 0, none⟩) (show w.heap.size <= w.heap.size + 1 by omega) _).trans (belowK_b (w := w) (Nat.le_refl _) _ D _ _ (by omega) hK' rfl rfl)⟩
 case stop =>
  rintro D c pre W hD hpre ⟨rfl, ⟨x, hx, hn⟩, ⟨r0, r1⟩, hB⟩ hK
  have HAN := Lib.hid (parseS_bad HU.out (by rw [HN.out, HM.out]) ⟨x.1, x.2, hn⟩)
  clear hn
  gi_wp2
  refine ⟨by simp, .inl ⟨_, _, rfl, run_takeDeferred hK, ?_⟩⟩
  have hc5 := cell_kept r0 (grownBy_putObj' _ D (.deferred none)) (fun r e => by cases e; exact ⟨_, hK, rfl⟩)
  have hc6 := cell_kept r1 (grownBy_putObj' _ D (.deferred none)) (fun r e => by cases e; exact ⟨_, hK, rfl⟩)
  refine ⟨.tuple #[.slice none 0 0, .int .i64 80], by simp [results, Tryz.results124, go_sem, hc5, hc6], ?_⟩
  rw [HAN.out]
  exact NoteOut.none (hB.trans (belowK_b (w := w) (Nat.le_refl _) W D _ _ (by omega) hK rfl rfl))
set_option maxRecDepth 100000 in
set_option maxHeartbeats 8000000 in
theorem parse_any (s : ByteArray) (w : World) (hs : s.size <= 140737488355328) (hg : Good w) :
  Calls Tryz.prog 124 #[.string s] w fun e w' => NoteOut w (parseS s.data.toList) e w' := by
 have cu := fun w hg => untie_own s w hs hg
 cases hu : untieT s.data.toList with
 | none =>
  rw [show parseS s.data.toList = ([], 80) by unfold parseS; rw [hu]]
  rw [hu] at cu
  unfold UntieOwn at cu
  clear hu
  go_enter Tryz.func124, Tryz.ntmps124
  go_wp2_with fail
  refine (cu _ (hg.below (by exact bex0))).mono ?_
  rintro e w1 ⟨rfl, b1⟩
  have hb1 : Below w.heap.size w w1 := (show Below w.heap.size w _ from (by exact bex0)).trans (b1.mono (by simp; omega))
  have R0 : w1.cell? ⟨w.heap.size, 0, none⟩ = some (.slice none 0 0) := by rw [b1.cell (p := ⟨w.heap.size, 0, none⟩) (by simp; omega)]; simp [go_sem]
  have R0f : w1.frozen? ⟨w.heap.size, 0, none⟩ = false := by rw [b1.frozen (p := ⟨w.heap.size, 0, none⟩) (by simp; omega)]; simp [go_sem]
  have R1 : w1.cell? ⟨w.heap.size + 1, 0, none⟩ = some (.int .i64 0) := by rw [b1.cell (p := ⟨w.heap.size + 1, 0, none⟩) (by simp)]; simp [go_sem]
  have R1f : w1.frozen? ⟨w.heap.size + 1, 0, none⟩ = false := by rw [b1.frozen (p := ⟨w.heap.size + 1, 0, none⟩) (by simp)]; simp [go_sem]
  clear b1 cu
  go_wp2_with fail
  refine bodyPost_ret (v := .tuple #[.slice none 0 0, .int .i64 80]) (by simp [results, Tryz.results124, go_sem, R0, R1]) rfl (NoteOut.none (by exact bex0))
 | some l =>
  by_cases hm : l.length % 3 = 0
  ·exact callsIn_wide.1 (parse_in s l (l.length / 3) w hs hg hu (by omega))
  ·rw [hu] at cu
   obtain ⟨q, hq⟩ : ∃ q, parseS s.data.toList = q := ⟨_, rfl⟩
   rw [hq]
   have HQ := Lib.hid hq
   have HU := Lib.hid hu
   clear hu hq
   go_enter Tryz.func124, Tryz.ntmps124
   go_wp2_with fail
   refine (cu _ (hg.below (by exact bex0))).mono ?_
   rintro e w1 ⟨⟨v, ss, rfl, hss, hown⟩, b1⟩
   subst hss
   rw [texts_length] at hm
   have HAN := Lib.hid (HQ.out.symm.trans (parseS_odd HU.out hm))
   obtain ⟨g, A, cap, rfl, _, _, _, _⟩ := row_cells hown
   obtain ⟨N, hN⟩ : ∃ N, ss.length = N := ⟨_, rfl⟩
   rw [hN] at hm ⊢
   have e1 : (((N : Int).tmod 3) == 0) = false := by rw [Int.tmod_eq_emod_of_nonneg (by omega)]; simp; omega
   have e2 : (((N : Int).tmod 3) != 0) = true := by simp [bne, e1]
   have e3 : (((N : Int) % 3) == 0) = false := by simp; omega
   have e4 : (((N : Int) % 3) != 0) = true := by simp [bne, e3]
   have hb1 : Below w.heap.size w w1 := (show Below w.heap.size w _ from (by exact bex0)).trans (b1.mono (by simp; omega))
   have R0 : w1.cell? ⟨w.heap.size, 0, none⟩ = some (.slice none 0 0) := by rw [b1.cell (p := ⟨w.heap.size, 0, none⟩) (by simp; omega)]; simp [go_sem]
   have R0f : w1.frozen? ⟨w.heap.size, 0, none⟩ = false := by rw [b1.frozen (p := ⟨w.heap.size, 0, none⟩) (by simp; omega)]; simp [go_sem]
   have R1 : w1.cell? ⟨w.heap.size + 1, 0, none⟩ = some (.int .i64 0) := by rw [b1.cell (p := ⟨w.heap.size + 1, 0, none⟩) (by simp)]; simp [go_sem]
   have R1f : w1.frozen? ⟨w.heap.size + 1, 0, none⟩ = false := by rw [b1.frozen (p := ⟨w.heap.size + 1, 0, none⟩) (by simp)]; simp [go_sem]
   clear b1 cu hown hN hm
   go_wp2_with fail
   refine bodyPost_ret (v := .tuple #[.slice none 0 0, .int .i64 80]) (by simp [results, Tryz.results124, go_sem, R0, R1]) rfl ?_
   rw [HAN.out]
   exact NoteOut.none (by exact bex0)
end Go.Proofs.YthcmnkmfhgoddaaGreatDoor.Ss

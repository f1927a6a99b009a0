/-
  The laws' own check that the program is alive: it answers true. Condition: the library's variables hold what their types allow.
  Lists of texts as the laws take them: how many bytes they have together; what stands on the tapes of a whole ledger. No condition.
  LedgerLasts' acts: values and lists; whether a list is small. Conditions: texts at most 2^47 bytes.
-/
import Derived.Test.YtglkapamkigdhaaGreatDoorGivesAll
import Derived.OwnWalk
namespace Go.Proofs.YtglkapamkigdhaaGreatDoor.Rl
open Go.RowKit
open Go.Proofs.YtglkapamkigdhaaGreatDoor.M (pageT kBase kRec inR tellT tell_len)

theorem wpList_make_full' {P : Program} (w : World) {ops : Array Oper} {rest : List Oper} {o : Oper} {a : Act} {Q : Exit → Act → World → Prop}
    (hw : Region.wanted o (yielded ops a.tmps) = true) (l c : Operand) (t : TypeId) (hop : o.op = Op.makeSlice t l c)
    (base : Nat) (e : TypeId) (i : TypeInfo) (z : Value) (size : Nat) (h1 : P.underlying t = some (.slice e)) (h2 : P.info? e = some i) (h3 : i.zero = some z) (h4 : i.size = size)
    (kl kc : IntKind) (L C : Int) (n : Nat) (hl : a.eval l = .int kl L) (hc : a.eval c = .int kc C) (hL : L = (n : Int)) (hC : C = (n : Int)) (b2 : i.bytes * n ≤ 281474976710656) (b3 : n ≤ maxLen) (b4 : base ≤ w.heap.size)
    (hK : ∀ w', w'.ownsRow base e size (.slice (some ⟨w.heap.size, 0, none⟩) n n) n (madeCells z.cells (n * size)).toList → w.grownBy w' none → wpList P ops Q rest (a.put o.dst (.slice (some ⟨w.heap.size, 0, none⟩) n n)) w') :
    wpList P ops Q (o :: rest) a w := by
  refine wpList_step fun K hK' => ?_
  rw [if_pos hw]
  obtain ⟨w', hrun, r1, r2⟩ := run_make_full (P := P) w base t e i z size h1 h2 h3 h4 kl kc n b2 b3 b4
  subst hL
  subst hC
  unfold Oper.wp
  simp [execOp, hop, hl, hc, hrun, Result.andThen]
  exact hK' _ _ (hK w' r1 r2)

theorem zeros_text {w : World} {B g n : Nat} (h : w.ownsRow B 5 1 (.slice (some ⟨g, 0, none⟩) n n) n (List.replicate n (.int .u8 0))) : (convert 61 9 (.slice (some ⟨g, 0, none⟩) n n)).run Tryz.prog w = .ok (.string ⟨(List.replicate n (0 : UInt8)).toArray⟩) w := by
  have key := run_convert_bytes_back (P := Tryz.prog) w 61 9 5 ⟨g, 0, none⟩ n (List.replicate n (0 : UInt8)) Tryz.underlying61 Tryz.underlying5 Tryz.underlying9 (fun j hj => by
    have hj' : j < n := by simpa using hj
    have := h.cells (g := g) rfl j (.int .u8 0) (by simp [hj'])
    rw [this]; simp)
  rw [List.length_replicate] at key
  exact key

set_option maxHeartbeats 8000000 in
set_option maxRecDepth 100000 in
theorem live_any (w : World) (hg : Good w) : Calls Tryz.prog 6 #[] w fun e w' => e = .returned (.bool true) ∧ Below w.heap.size w w' := by
  obtain ⟨i5, hi, hz0, hz1, hz2⟩ := info_parts infoByte
  have h3 := hg.size
  have cn := new_good 10000 w (by decide)
  -- the states
  have k0 : (M.new 10000).ok := M.ok.new (by decide)
  obtain ⟨m1, e1, W1, C1, q1⟩ := fresh (room := 10000) (by decide)
  obtain ⟨k1, o1⟩ := openM_ok' k0 (by decide) e1
  have o1' : m1.ops ≤ 4 := by simpa [M.new] using o1
  obtain ⟨m2, e2, W2, C2, q2⟩ := add_calm W1 C1 [97] (W1.fine.snoc [97] (by decide) (by decide)) (by
    have := rec_short (n := 0) (x := [97]) (by decide) (by decide)
    exact W1.fits (c := 1) (k := 0) (by decide) (by simp) (by simp) (by decide) (by rw [q1]; simp at this ⊢; omega))
  obtain ⟨k2, o2⟩ := addM_ok' k1 (by omega) e2
  have k3 := k2.crash 0 0 0
  obtain ⟨m4, e4, W4, C4, q4⟩ := open_safe W2 0 0
  obtain ⟨k4, o4⟩ := openM_ok' k3 (by show m2.ops < _; omega) e4
  have o4' : m4.ops ≤ m2.ops + 4 := o4
  obtain ⟨m5, e5, W5, C5, q5⟩ := base_calm W4 C4 [120] (W4.fine.next [120] (by decide) (by decide)) (by
    have := base_short (e := (2 : Int)) (x := [120]) (by decide) (by decide) (by decide)
    have hqr : m4.room = 10000 := by rw [q4]; show m2.room = _; rw [q2, q1]
    exact W4.fits (c := 1) (k := 1) (by decide) (by intro x hx; simp at hx; subst hx; decide) (by simp) (by decide) (by rw [hqr]; simp at this ⊢; omega))
  obtain ⟨k5, o5⟩ := baseM_ok' k4 (by omega) e5
  obtain ⟨m6, e6, W6, C6, q6⟩ := open_whole W5 C5
  obtain ⟨k6, o6⟩ := openM_ok' k5 (by omega) e6
  have e7 := addM_long (l := ⟨1, 2, 0, false⟩) rfl m6 (s := List.replicate 524289 (0 : UInt8)) (by rw [List.length_replicate]; decide)
  have lk1 := W1.ok
  have lk4 := W4.ok
  have lk6 := W6.ok
  -- the calls
  have c1 := fun (b : Nat) (w : World) (hr : RP b (M.new 10000) w) (hg : Good w) => open_gives hr k0 (by decide) hg e1
  have c2 := fun (q b : Nat) (w : World) (h : LP q b ⟨0, 1, 0, false⟩ w) (hr : RP b m1 w) => add_gives ⟨#[97]⟩ h hr k1 (by omega) lk1 rfl e2
  have c3 := fun (b : Nat) (w : World) (hr : RP b m2 w) => c_crash 0 0 0 hr k2 (by decide) (by decide) (by decide) (by decide)
  have c4 := fun (b : Nat) (w : World) (hr : RP b (m2.crash 0 0 0) w) (hg : Good w) => open_gives hr k3 (by show m2.ops < _; omega) hg e4
  have c5 := fun (q b : Nat) (w : World) (h : LP q b _ w) (hr : RP b m4 w) => base_gives ⟨#[120]⟩ h hr k4 (by omega) lk4 rfl e5
  have c6 := fun (b : Nat) (w : World) (hr : RP b m5 w) (hg : Good w) => open_gives hr k5 (by omega) hg e6
  have c7 := fun (q b : Nat) (w : World) (h : LP q b ⟨1, 2, 0, false⟩ w) (hr : RP b m6 w) => add_gives ⟨(List.replicate 524289 (0 : UInt8)).toArray⟩ h hr k6 (by omega) lk6 rfl e7
  clear k0 e1 W1 C1 q1 k1 o1 o1' e2 W2 C2 q2 k2 o2 k3 e4 W4 C4 q4 k4 o4 o4' e5 W5 C5 q5 k5 o5 e6 W6 C6 q6 k6 o6 e7 lk1 lk4 lk6
  go_enter Tryz.func6, Tryz.ntmps6
  go_wp2_with fail
  refine cn.mono ?_
  rintro e w1 ⟨rfl, r1, b1, hsz1⟩
  clear cn
  go_wp2_with fail
  refine (num_any _ _).mono ?_
  rintro e w' ⟨rfl, rfl⟩
  go_wp2_with fail
  refine (c1 _ _ r1 (hg.since h3 b1)).mono ?_
  rintro e w2 ⟨q, B, v, ss, rfl, hB, hss, L2, hq, hS, r2, f2⟩
  have b2 := b1.trans f2.below
  clear c1 r1 f2 hS hB hss
  go_wp2_with fail
  refine (num_any _ _).mono ?_
  rintro e w' ⟨rfl, rfl⟩
  go_wp2_with fail
  refine (c2 _ _ _ L2 r2).mono ?_
  rintro e w3 ⟨rfl, L3, r3, f3⟩
  have b3 := b2.trans (f3.below _ (Nat.le_refl _) (by omega))
  clear c2 r2 f3 L2
  go_wp2_with fail
  refine (num_any _ _).mono ?_
  rintro e w' ⟨rfl, rfl⟩
  go_wp2_with fail
  refine (c3 _ _ r3).mono ?_
  rintro e w4 ⟨rfl, r4, f4⟩
  have b4 := b3.trans f4.below
  clear c3 r3 f4 L3
  go_wp2_with fail
  refine (c4 _ _ r4 (hg.since h3 b4)).mono ?_
  rintro e w5 ⟨q', B', v', ss', rfl, hB, hss, L5, hq', hS, r5, f5⟩
  have b5 := b4.trans f5.below
  obtain rfl : B' = ⟨#[]⟩ := ba_ext (by rw [hB])
  obtain rfl : ss' = [⟨#[97]⟩] := texts_inj (by rw [hss]; rfl)
  have hsl := hS.sl
  obtain ⟨A5, n5, rfl⟩ := hS.form
  clear c4 r4 f5 hB hss hS
  go_wp2_with fail
  refine (num_any _ _).mono ?_
  rintro e w' ⟨rfl, rfl⟩
  go_wp2_with fail
  have hsn := SL.new w5 [⟨#[97]⟩]
  have hsl' := (hsl.below ((Below.refl _ w5).alloc (Nat.le_refl _) (.cells #[.string ⟨#[97]⟩] 9))).more (Nat.le_succ _)
  refine (same_any (.slice A5 1 n5) (.slice (some ⟨w5.heap.size, 0, none⟩) 1 1) [⟨#[97]⟩] [⟨#[97]⟩] (w5.alloc (.cells #[.string ⟨#[97]⟩] 9)) (by simpa using hsl') (by simpa using hsn) (by decide) (by decide)).mono ?_
  rintro e w6 ⟨rfl, b6'⟩
  have b56 : Below w5.heap.size w5 w6 := ((Below.refl _ w5).alloc (Nat.le_refl _) _).trans (b6'.mono (by simp))
  have L6 := L5.below b56
  have r6 := r5.below b56
  have b6 := b5.trans (b56.mono b5.size)
  clear hsn hsl hsl' b6' b56 L5 r5
  rw [decide_eq_true (rfl : [(⟨#[97]⟩ : ByteArray)] = [⟨#[97]⟩])]
  go_wp2_with fail
  refine (c5 _ _ _ L6 r6).mono ?_
  rintro e w7 ⟨rfl, L7, r7, f7⟩
  have b7 := b6.trans (f7.below _ (Nat.le_refl _) (by have := b4.size; omega))
  clear c5 L6 r6 f7
  go_wp2_with fail
  refine (num_any _ _).mono ?_
  rintro e w' ⟨rfl, rfl⟩
  go_wp2_with fail
  refine (c6 _ _ r7 (hg.since h3 b7)).mono ?_
  rintro e w8 ⟨q'', B'', v'', ss'', rfl, hB, hss, L8, hq'', hS, r8, f8⟩
  have L8' := L7.fr r7 f8
  have b8 := b7.trans f8.below
  obtain rfl : B'' = ⟨#[120]⟩ := ba_ext (by rw [hB])
  obtain rfl : ss'' = [] := texts_inj (by rw [hss]; rfl)
  obtain ⟨A8, n8, rfl⟩ := hS.form
  have ce := l_epoch L8'
  clear c6 r7 f8 hB hss hS L7 L8
  go_wp2_with fail
  refine (num_any _ _).mono ?_
  rintro e w' ⟨rfl, rfl⟩
  go_wp2_with fail
  refine ce.mono ?_
  rintro e w' ⟨rfl, rfl⟩
  clear ce
  go_wp2_with (at_make; refine wpList_make_full' _ rfl _ _ 61 rfl w.heap.size 5 i5 (.int .u8 0) 1 Tryz.underlying61 hi hz0 hz1 .i64 .i64 524289 524289 524289 rfl rfl rfl rfl (by rw [hz2]; decide) (by unfold maxLen; decide) b8.size ?_)
  intro w9 hown hgrow
  rw [toList_madeCells_one] at hown
  have hconv := zeros_text hown
  have B89 : Below w8.heap.size w8 w9 := (Below.refl _ w8).grown hgrow (Nat.le_refl _) (fun k hk => by cases hk)
  have L9 := L8'.below B89
  have r9 := r8.below B89
  have b9 := b8.trans (B89.mono b8.size)
  have c8 := c7 _ _ _ L9 r9
  clear c7 hown hgrow B89 L8' r8 L9 r9
  obtain ⟨Z, hZ⟩ : ∃ Z : ByteArray, ⟨(List.replicate 524289 (0 : UInt8)).toArray⟩ = Z := ⟨_, rfl⟩
  rw [hZ] at hconv c8
  clear hZ
  go_wp2_with fail
  refine c8.mono ?_
  rintro e w10 ⟨rfl, _, _, f10⟩
  have b10 := b9.trans (f10.below _ (Nat.le_refl _) (by have := b4.size; omega))
  clear c8 f10
  go_wp2_with fail
  refine (num_any _ _).mono ?_
  rintro e w' ⟨rfl, rfl⟩
  go_wp2_with fail
  go_ret
  exact ⟨rfl, b10⟩

end Go.Proofs.YtglkapamkigdhaaGreatDoor.Rl

namespace Go.Proofs.YtglkapamkigdhaaGreatDoor.Rl
open Go.RowKit
open Go.Proofs.YtglkapamkigdhaaGreatDoor.M (pageT kBase kRec inR tellT tell_len)

/-- the bytes of the first k texts -/
def tot (ss : List ByteArray) (k : Nat) : Nat := ((ss.take k).map ByteArray.size).sum
theorem tot_zero (ss : List ByteArray) : tot ss 0 = 0 := rfl
theorem tot_succ (ss : List ByteArray) (k : Nat) (h : k < ss.length) : tot ss (k + 1) = tot ss k + ss[k].size := by
  unfold tot
  rw [List.take_add_one, List.map_append, List.sum_append]
  simp [h]
theorem tot_mono (ss : List ByteArray) {k n : Nat} (h : k ≤ n) : tot ss k ≤ tot ss n := by
  unfold tot
  have : ss.take n = ss.take k ++ (ss.take n).drop k := by
    conv => lhs; rw [← List.take_append_drop k (ss.take n)]
    rw [List.take_take, Nat.min_eq_left h]
  rw [this, List.map_append, List.sum_append]
  omega
theorem tot_mem (ss : List ByteArray) {s : ByteArray} (h : s ∈ ss) : s.size ≤ tot ss ss.length := by
  unfold tot
  rw [List.take_length]
  induction ss with
  | nil => cases h
  | cons x l ih =>
    simp only [List.map_cons, List.sum_cons]
    rcases List.mem_cons.1 h with rfl | h
    · omega
    · have := ih h; omega
theorem SL.at' {w : World} {B k : Nat} {v : Value} {ss : List ByteArray} (h : SL w B v ss) (hk : k < ss.length) :
    ∃ b o c : Nat, v = .slice (some ⟨b, o, none⟩) ss.length c ∧ b < B ∧ ∀ i (h : i < ss.length), w.cell? ⟨b, o + i, none⟩ = some (.string ss[i]) := by
  obtain ⟨A, c, hv, h2⟩ := h.plain
  obtain ⟨b, o, rfl, hb, hc⟩ := h2 (by omega)
  exact ⟨b, o, c, hv, hb, hc⟩

/-- the tapes of a ledger that is whole: its own has something, the other one nothing -/
theorem Whole.reads {m : M} {l : Lg} {b : Text} {xs : List Text} (h : Whole m l b xs) :
    (l.t = 0 ∧ m.read 0 = (baseT l.epoch b xs, 0) ∧ m.read 1 = ([], 0)) ∨ (l.t = 1 ∧ m.read 0 = ([], 0) ∧ m.read 1 = (baseT l.epoch b xs, 0)) := by
  have ho := h.off
  have hg := h.hg
  have hoth := h.ho
  rcases isT_cases h.ht with ht | ht
  · left
    rw [ht] at hg hoth
    refine ⟨ht, ?_, ?_⟩
    · unfold M.read; rw [if_neg (by decide), if_neg (by rw [ho]; decide), hg]
    · unfold M.read; rw [if_neg (by decide), if_neg (by rw [ho]; decide), show m.get 1 = ⟨[], 0⟩ from hoth]
  · right
    rw [ht] at hg hoth
    refine ⟨ht, ?_, ?_⟩
    · unfold M.read; rw [if_neg (by decide), if_neg (by rw [ho]; decide), show m.get 0 = ⟨[], 0⟩ from hoth]
    · unfold M.read; rw [if_neg (by decide), if_neg (by rw [ho]; decide), hg]

end Go.Proofs.YtglkapamkigdhaaGreatDoor.Rl

namespace Go.Proofs.YtglkapamkigdhaaGreatDoor.Rl
open Go.RowKit

/-- add (kind 0), base (1), arm (2), crash (3) -/
structure Act where
  kind : Int
  s : ByteArray
  n : Int
  k0 : Int
  k1 : Int
  u : UInt8
structure Act.ok (a : Act) : Prop where
  n0 : -9223372036854775808 ≤ a.n
  n1 : a.n ≤ 9223372036854775807
  k00 : -9223372036854775808 ≤ a.k0
  k01 : a.k0 ≤ 9223372036854775807
  k10 : -9223372036854775808 ≤ a.k1
  k11 : a.k1 ≤ 9223372036854775807
  s : a.s.size ≤ 140737488355328
def actC (a : Act) (j : Nat) : Value := match j with
  | 0 => .int .i64 a.kind
  | 1 => .string a.s
  | 2 => .int .i64 a.n
  | 3 => .int .i64 a.k0
  | 4 => .int .i64 a.k1
  | _ => .int .u8 a.u.toNat
abbrev actV (a : Act) : Value := .agg #[.int .i64 a.kind, .string a.s, .int .i64 a.n, .int .i64 a.k0, .int .i64 a.k1, .int .u8 a.u.toNat]

/-- In the world w the slice value v holds the acts; its cells lie below block N. -/
def SA (w : World) (N : Nat) (v : Value) (xs : List Act) : Prop :=
  ∃ (A : Option Addr) (c : Nat), v = .slice A xs.length c ∧ (0 < xs.length → ∃ b o : Nat, A = some ⟨b, o, none⟩ ∧ b < N ∧ ∀ i (h : i < xs.length) j, j < 6 → w.cell? ⟨b, o + i * 6 + j, none⟩ = some (actC xs[i] j))
theorem SA.nil (w : World) (N : Nat) : SA w N (.slice none 0 0) [] := ⟨none, 0, rfl, fun h => absurd h (by simp)⟩
theorem SA.below {w w' : World} {N : Nat} {v : Value} {xs : List Act} (h : SA w N v xs) (hb : Below N w w') : SA w' N v xs := by
  obtain ⟨A, c, hv, h⟩ := h
  refine ⟨A, c, hv, fun h0 => ?_⟩
  obtain ⟨b, o, e, hbN, hc⟩ := h h0
  exact ⟨b, o, e, hbN, fun i hi j hj => by rw [hb.cell (p := ⟨b, o + i * 6 + j, none⟩) hbN]; exact hc i hi j hj⟩
theorem SA.form {w : World} {N : Nat} {v : Value} {xs : List Act} (h : SA w N v xs) : ∃ A c, v = .slice A xs.length c := by
  obtain ⟨A, c, hv, _⟩ := h; exact ⟨A, c, hv⟩
theorem SA.at_ {w : World} {N k : Nat} {A : Option Addr} {n c : Nat} {xs : List Act} (h : SA w N (.slice A n c) xs) (hk : k < xs.length) :
    ∃ b o : Nat, A = some ⟨b, o, none⟩ ∧ b < N ∧ ∀ j, j < 6 → w.cell? ⟨b, o + k * 6 + j, none⟩ = some (actC xs[k] j) := by
  obtain ⟨A', c', hv, h⟩ := h
  injection hv with h1 h2 h3
  subst h1
  obtain ⟨b, o, e, hb, hc⟩ := h (by omega)
  exact ⟨b, o, e, hb, hc k hk⟩

/-- the bytes of the first i texts -/
def total (xs : List Act) (i : Nat) : Nat := ((xs.take i).map fun a => a.s.size).sum
theorem total_succ (xs : List Act) (i : Nat) (h : i < xs.length) : total xs (i + 1) = total xs i + xs[i].s.size := by
  unfold total
  rw [List.take_add_one, List.map_append, List.sum_append]
  simp [h]
theorem total_mem (xs : List Act) {a : Act} (h : a ∈ xs) : a.s.size ≤ total xs xs.length := by
  unfold total
  rw [List.take_length]
  induction xs with
  | nil => cases h
  | cons x l ih =>
    simp only [List.map_cons, List.sum_cons]
    rcases List.mem_cons.1 h with rfl | h
    · omega
    · have := ih h; omega

def Sm (xs : List Act) (e : Ending) (w w' : World) : Prop := ∃ r, e = .returned (.bool r) ∧ w = w' ∧ (r = true → xs.length ≤ 50 ∧ ∀ a ∈ xs, a.s.size ≤ 8000)
set_option maxHeartbeats 800000 in
theorem c_small (v : Value) (xs : List Act) (w : World) (hv : SA w w.heap.size v xs) (hl : xs.length ≤ 140737488355328) (ha : ∀ a ∈ xs, a.s.size ≤ 140737488355328) :
    Calls Tryz.prog 5 #[v] w fun e w' => Sm xs e w w' := by
  obtain ⟨A, c, rfl⟩ := hv.form
  have HA := Lib.hid ha
  clear ha
  go_enter Tryz.func5, Tryz.ntmps5
  go_wp2
  go_loopw [3, 4] (fun vn vi wr => ∃ k : Nat, k ≤ xs.length ∧ k ≤ 51 ∧ vi = .int .i64 (k : Int) ∧ vn = .int .i64 (total xs k : Int) ∧ total xs k ≤ 140737488363328 ∧ w = wr) (fun _ vi _ => xs.length - (intOf vi).toNat)
  case atStart => exact ⟨0, by omega, by omega, rfl, rfl, by unfold total; simp, rfl⟩
  case round =>
    obtain ⟨k, hk, hk61, rfl, rfl, ht, rfl⟩ := hrel
    by_cases hlt : k < xs.length
    · by_cases h60 : k ≤ 50
      · by_cases hn : total xs k ≤ 8000
        · obtain ⟨b, o, rfl, hb, hc⟩ := hv.at_ hlt
          have c2a := hc 1 (by omega)
          have hsz := HA.out xs[k] (List.getElem_mem hlt)
          have hs := total_succ xs k hlt
          obtain ⟨x, hx⟩ : ∃ x, xs[k].s = x := ⟨_, rfl⟩
          have c2 : w.cell? ⟨b, o + k * 6 + 1, none⟩ = some (.string x) := by rw [c2a, ← hx]; rfl
          rw [hx] at hsz hs
          obtain ⟨T, hT⟩ : ∃ T, total xs k = T := ⟨_, rfl⟩
          obtain ⟨T', hT'⟩ : ∃ T', total xs (k + 1) = T' := ⟨_, rfl⟩
          rw [hT] at hs hn ht
          rw [hT'] at hs
          have HT := Lib.hid hT'
          rw [hT]
          have HS := Lib.hid hs
          clear hs hT hT' hx hc c2a
          go_wp2
          go_roundw
          case rel => exact ⟨k + 1, by omega, by omega, by go_num, by rw [HT.out, HS.out]; go_num, by rw [HT.out, HS.out]; omega, by trivial⟩
          case measure => simp [intOf]; omega
        · obtain ⟨T, hT⟩ : ∃ T, total xs k = T := ⟨_, rfl⟩
          rw [hT] at hn ht
          rw [hT]
          have hn : 8000 < T := by omega
          clear hT
          go_wp2
          all_goals go_ret
          all_goals
            refine ⟨_, rfl, rfl, fun h => ?_⟩
            first | (cases h; done) | (simp at h; done) | (simp at h; omega)
      · have h60' : 50 < k := by omega
        obtain ⟨T, hT⟩ : ∃ T, total xs k = T := ⟨_, rfl⟩
        rw [hT] at ht
        rw [hT]
        clear hT
        have h61 : 50 < xs.length := by omega
        go_wp2
        all_goals go_ret
        all_goals
          refine ⟨_, rfl, rfl, fun h => ?_⟩
          first | cases h | (simp at h; done) | (simp at h; omega)
    · obtain rfl : k = xs.length := by omega
      obtain ⟨T, hT⟩ : ∃ T, total xs xs.length = T := ⟨_, rfl⟩
      rw [hT] at ht
      rw [hT]
      have HT := Lib.hid hT
      clear hT
      go_wp2
      all_goals go_ret
      all_goals
        refine ⟨_, rfl, rfl, fun h => ?_⟩
        first
          | (cases h; done)
          | (refine ⟨?_, fun a ha => ?_⟩
             · simp at h; omega
             · have h1 := total_mem xs ha
               have h2 := HT.out
               simp at h; omega)

end Go.Proofs.YtglkapamkigdhaaGreatDoor.Rl

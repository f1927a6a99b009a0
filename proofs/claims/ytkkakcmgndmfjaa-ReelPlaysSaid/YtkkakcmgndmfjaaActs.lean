/-
  Acts: values and lists; what the program's 'does' answers; whether a list is small. Conditions: what may be of a reel; texts at most 2^46 bytes.
-/
import Derived.Test.YtkkakcmgndmfjaaLawNil
namespace Go.Proofs.Ytkkakcmgndmfjaa
open Go.RowKit

/-- write (kind 0), sync (1), wipe (2), trim (3), arm (4), crash (5) -/
structure Act where
  kind : Int
  t : Int
  s : ByteArray
  n : Int
  k0 : Int
  k1 : Int
  u : UInt8
structure Act.ok (a : Act) : Prop where
  n0 : -9223372036854775808 ≤ a.n
  n1 : a.n ≤ 9223372036854775807
  k00 : -9223372036854775808 ≤ a.k0
  k01 : a.k0 ≤ 9223372036854775807
  k10 : -9223372036854775808 ≤ a.k1
  k11 : a.k1 ≤ 9223372036854775807
  s : a.s.size ≤ 140737488355328
def actC (a : Act) (j : Nat) : Value := match j with
  | 0 => .int .i64 a.kind
  | 1 => .int .i64 a.t
  | 2 => .string a.s
  | 3 => .int .i64 a.n
  | 4 => .int .i64 a.k0
  | 5 => .int .i64 a.k1
  | _ => .int .u8 a.u.toNat
abbrev actV (a : Act) : Value := .agg #[.int .i64 a.kind, .int .i64 a.t, .string a.s, .int .i64 a.n, .int .i64 a.k0, .int .i64 a.k1, .int .u8 a.u.toNat]

theorem add_block (a : Addr) (n : Nat) : (a.add n).block = a.block := by unfold Addr.add; split <;> rfl

/-- In the world w the slice value v holds the acts; its cells lie below block N. -/
def SA (w : World) (N : Nat) (v : Value) (xs : List Act) : Prop :=
  ∃ (A : Option Addr) (c : Nat), v = .slice A xs.length c ∧ (0 < xs.length → ∃ b o : Nat, A = some ⟨b, o, none⟩ ∧ b < N ∧ ∀ i (h : i < xs.length) j, j < 7 → w.cell? ⟨b, o + i * 7 + j, none⟩ = some (actC xs[i] j))
theorem SA.nil (w : World) (N : Nat) : SA w N (.slice none 0 0) [] := ⟨none, 0, rfl, fun h => absurd h (by simp)⟩
theorem SA.below {w w' : World} {N : Nat} {v : Value} {xs : List Act} (h : SA w N v xs) (hb : Below N w w') : SA w' N v xs := by
  obtain ⟨A, c, hv, h⟩ := h
  refine ⟨A, c, hv, fun h0 => ?_⟩
  obtain ⟨b, o, e, hbN, hc⟩ := h h0
  exact ⟨b, o, e, hbN, fun i hi j hj => by rw [hb.cell (p := ⟨b, o + i * 7 + j, none⟩) hbN]; exact hc i hi j hj⟩
theorem SA.form {w : World} {N : Nat} {v : Value} {xs : List Act} (h : SA w N v xs) : ∃ A c, v = .slice A xs.length c := by
  obtain ⟨A, c, hv, _⟩ := h; exact ⟨A, c, hv⟩
theorem SA.at_ {w : World} {N k : Nat} {A : Option Addr} {n c : Nat} {xs : List Act} (h : SA w N (.slice A n c) xs) (hk : k < xs.length) :
    ∃ b o : Nat, A = some ⟨b, o, none⟩ ∧ b < N ∧ ∀ j, j < 7 → w.cell? ⟨b, o + k * 7 + j, none⟩ = some (actC xs[k] j) := by
  obtain ⟨A', c', hv, h⟩ := h
  injection hv with h1 h2 h3
  subst h1
  obtain ⟨b, o, e, hb, hc⟩ := h (by omega)
  exact ⟨b, o, e, hb, hc k hk⟩

def M.does (m : M) (a : Act) : Int × M :=
  if a.kind = 0 then m.write a.t a.s.toList else if a.kind = 1 then m.sync a.t else if a.kind = 2 then m.trim a.t 0 else if a.kind = 3 then m.trim a.t a.n else
    if a.kind = 4 then (0, m.arm a.n) else if a.kind = 5 then (0, m.crash a.k0 a.k1 a.u) else (0, m)
theorem M.ok.does {m : M} (h : m.ok) {a : Act} (ha : a.ok) (ho : m.ops < 4611686018427387904) : (m.does a).2.ok := by
  unfold M.does
  split; · exact h.write _ _ ho
  split; · exact h.sync _ ho
  split; · exact h.trim _ _ ho
  split; · exact h.trim _ _ ho
  split; · exact h.arm ha.n0 ha.n1
  split; · exact h.crash _ _ _
  · exact h
theorem M.does_ops (m : M) (a : Act) : (m.does a).2.ops ≤ m.ops + 1 := by
  unfold M.does
  split; · exact m.write_ops _ _
  split; · exact m.sync_ops _
  split; · exact m.trim_ops _ _
  split; · exact m.trim_ops _ _
  split; · exact Nat.le_succ _
  split; · exact Nat.le_succ _
  · exact Nat.le_succ _

set_option maxRecDepth 100000 in
set_option maxHeartbeats 4000000 in
theorem c_does {b : Nat} {m : M} {w : World} (a : Act) (h : RP b m w) (hm : m.ok) (ha : a.ok) (ho : m.ops < 4611686018427387904) (hs : a.s.size ≤ 70368744177664) :
    Calls Try.prog 14 #[ptr b, actV a] w fun e w' => e = .returned (.int .i64 (m.does a).1) ∧ RP b (m.does a).2 w' ∧ Fr b w w' := by
  have hlt := h.lt
  have hz := h.below ((Below.refl _ w).alloc (Nat.le_refl _) (.cells #[.int .i64 a.kind, .int .i64 a.t, .string a.s, .int .i64 a.n, .int .i64 a.k0, .int .i64 a.k1, .int .u8 a.u.toNat] 37))
  have hfz := Fr.alloc b w (.cells #[.int .i64 a.kind, .int .i64 a.t, .string a.s, .int .i64 a.n, .int .i64 a.k0, .int .i64 a.k1, .int .u8 a.u.toNat] 37) hlt
  obtain ⟨kind, t, s, n, k0, k1, u⟩ := a
  obtain ⟨n0, n1, k00, k01, k10, k11, _⟩ := ha
  simp only at n0 n1 k00 k01 k10 k11 hs hz hfz ⊢
  clear h
  by_cases q0 : kind = 0
  · subst q0
    have hd : m.does ⟨0, t, s, n, k0, k1, u⟩ = m.write t s.toList := rfl
    rw [hd]
    go_enter Try.func14, Try.ntmps14
    go_wp2_with fail
    refine (c_write t s hz hm ho hs).mono ?_
    rintro e w1 ⟨rfl, r1, f1⟩
    go_wp2_with fail
    refine (num_any _ _).mono ?_
    rintro e w' ⟨rfl, rfl⟩
    go_wp2_with fail
    go_ret
    exact ⟨rfl, r1, hfz.trans f1⟩
  by_cases q1 : kind = 1
  · subst q1
    have hd : m.does ⟨1, t, s, n, k0, k1, u⟩ = m.sync t := rfl
    rw [hd]
    go_enter Try.func14, Try.ntmps14
    go_wp2_with fail
    refine (c_sync t hz hm ho).mono ?_
    rintro e w1 ⟨rfl, r1, f1⟩
    go_wp2_with fail
    refine (num_any _ _).mono ?_
    rintro e w' ⟨rfl, rfl⟩
    go_wp2_with fail
    go_ret
    exact ⟨rfl, r1, hfz.trans f1⟩
  by_cases q2 : kind = 2
  · subst q2
    have hd : m.does ⟨2, t, s, n, k0, k1, u⟩ = m.trim t 0 := rfl
    rw [hd]
    go_enter Try.func14, Try.ntmps14
    go_wp2_with fail
    refine (c_wipe t hz hm ho).mono ?_
    rintro e w1 ⟨rfl, r1, f1⟩
    go_wp2_with fail
    refine (num_any _ _).mono ?_
    rintro e w' ⟨rfl, rfl⟩
    go_wp2_with fail
    go_ret
    exact ⟨rfl, r1, hfz.trans f1⟩
  by_cases q3 : kind = 3
  · subst q3
    have hd : m.does ⟨3, t, s, n, k0, k1, u⟩ = m.trim t n := rfl
    rw [hd]
    go_enter Try.func14, Try.ntmps14
    go_wp2_with fail
    refine (c_trim t n hz hm ho).mono ?_
    rintro e w1 ⟨rfl, r1, f1⟩
    go_wp2_with fail
    refine (num_any _ _).mono ?_
    rintro e w' ⟨rfl, rfl⟩
    go_wp2_with fail
    go_ret
    exact ⟨rfl, r1, hfz.trans f1⟩
  by_cases q4 : kind = 4
  · subst q4
    have hd : m.does ⟨4, t, s, n, k0, k1, u⟩ = (0, m.arm n) := rfl
    rw [hd]
    go_enter Try.func14, Try.ntmps14
    go_wp2_with fail
    refine (c_arm b m n _ hz).mono ?_
    rintro e w1 ⟨rfl, r1, f1⟩
    go_wp2_with fail
    go_ret
    exact ⟨rfl, r1, hfz.trans f1⟩
  by_cases q5 : kind = 5
  · subst q5
    have hd : m.does ⟨5, t, s, n, k0, k1, u⟩ = (0, m.crash k0 k1 u) := rfl
    rw [hd]
    go_enter Try.func14, Try.ntmps14
    go_wp2_with fail
    refine (c_crash k0 k1 u hz hm k00 k01 k10 k11).mono ?_
    rintro e w1 ⟨rfl, r1, f1⟩
    go_wp2_with fail
    go_ret
    exact ⟨rfl, r1, hfz.trans f1⟩
  · have hd : m.does ⟨kind, t, s, n, k0, k1, u⟩ = (0, m) := by
      unfold M.does
      simp only [q0, q1, q2, q3, q4, q5, if_false]
    rw [hd]
    have p0 : (kind == 0) = false := by simpa using q0
    have p1 : (kind == 1) = false := by simpa using q1
    have p2 : (kind == 2) = false := by simpa using q2
    have p3 : (kind == 3) = false := by simpa using q3
    have p4 : (kind == 4) = false := by simpa using q4
    have p5 : (kind == 5) = false := by simpa using q5
    clear hd
    go_enter Try.func14, Try.ntmps14
    go_wp2_with fail
    go_ret
    exact ⟨rfl, hz, hfz⟩

/-- the bytes of the first i texts -/
def total (xs : List Act) (i : Nat) : Nat := ((xs.take i).map fun a => a.s.size).sum
theorem total_succ (xs : List Act) (i : Nat) (h : i < xs.length) : total xs (i + 1) = total xs i + xs[i].s.size := by
  unfold total
  rw [List.take_add_one, List.map_append, List.sum_append]
  simp [h]
theorem total_mem (xs : List Act) {a : Act} (h : a ∈ xs) : a.s.size ≤ total xs xs.length := by
  unfold total
  rw [List.take_length]
  induction xs with
  | nil => cases h
  | cons x l ih =>
    simp only [List.map_cons, List.sum_cons]
    rcases List.mem_cons.1 h with rfl | h
    · omega
    · have := ih h; omega

def Sm (xs : List Act) (e : Ending) (w w' : World) : Prop := ∃ r, e = .returned (.bool r) ∧ w = w' ∧ (r = true → xs.length ≤ 60 ∧ ∀ a ∈ xs, a.s.size ≤ 20000)
set_option maxHeartbeats 2000000 in
theorem c_small (v : Value) (xs : List Act) (w : World) (hv : SA w w.heap.size v xs) (hl : xs.length ≤ 140737488355328) (ha : ∀ a ∈ xs, a.s.size ≤ 140737488355328) :
    Calls Try.prog 9 #[v] w fun e w' => Sm xs e w w' := by
  obtain ⟨A, c, rfl⟩ := hv.form
  have HA := Lib.hid ha
  clear ha
  go_enter Try.func9, Try.ntmps9
  go_wp2
  go_loopw [3, 4] (fun vn vi wr => ∃ k : Nat, k ≤ xs.length ∧ k ≤ 61 ∧ vi = .int .i64 (k : Int) ∧ vn = .int .i64 (total xs k : Int) ∧ total xs k ≤ 140737488375328 ∧ w = wr) (fun _ vi _ => xs.length - (intOf vi).toNat)
  case atStart => exact ⟨0, by omega, by omega, rfl, rfl, by unfold total; simp, rfl⟩
  case round =>
    obtain ⟨k, hk, hk61, rfl, rfl, ht, rfl⟩ := hrel
    by_cases hlt : k < xs.length
    · by_cases h60 : k ≤ 60
      · by_cases hn : total xs k ≤ 20000
        · obtain ⟨b, o, rfl, hb, hc⟩ := hv.at_ hlt
          have c2a := hc 2 (by omega)
          have hsz := HA.out xs[k] (List.getElem_mem hlt)
          have hs := total_succ xs k hlt
          obtain ⟨x, hx⟩ : ∃ x, xs[k].s = x := ⟨_, rfl⟩
          have c2 : w.cell? ⟨b, o + k * 7 + 2, none⟩ = some (.string x) := by rw [c2a, ← hx]; rfl
          rw [hx] at hsz hs
          obtain ⟨T, hT⟩ : ∃ T, total xs k = T := ⟨_, rfl⟩
          obtain ⟨T', hT'⟩ : ∃ T', total xs (k + 1) = T' := ⟨_, rfl⟩
          rw [hT] at hs hn ht
          rw [hT'] at hs
          have HT := Lib.hid hT'
          rw [hT]
          have HS := Lib.hid hs
          clear hs hT hT' hx hc c2a
          go_wp2
          go_roundw
          case rel => exact ⟨k + 1, by omega, by omega, by go_num, by rw [HT.out, HS.out]; go_num, by rw [HT.out, HS.out]; omega, by trivial⟩
          case measure => simp [intOf]; omega
        · obtain ⟨T, hT⟩ : ∃ T, total xs k = T := ⟨_, rfl⟩
          rw [hT] at hn ht
          rw [hT]
          have hn : 20000 < T := by omega
          clear hT
          go_wp2
          all_goals go_ret
          all_goals
            refine ⟨_, rfl, rfl, fun h => ?_⟩
            first | (cases h; done) | (simp at h; done) | (simp at h; omega)
      · have h60' : 60 < k := by omega
        obtain ⟨T, hT⟩ : ∃ T, total xs k = T := ⟨_, rfl⟩
        rw [hT] at ht
        rw [hT]
        clear hT
        have h61 : 60 < xs.length := by omega
        go_wp2
        all_goals go_ret
        all_goals
          refine ⟨_, rfl, rfl, fun h => ?_⟩
          first | cases h | (simp at h; done) | (simp at h; omega)
    · obtain rfl : k = xs.length := by omega
      obtain ⟨T, hT⟩ : ∃ T, total xs xs.length = T := ⟨_, rfl⟩
      rw [hT] at ht
      rw [hT]
      have HT := Lib.hid hT
      clear hT
      go_wp2
      all_goals go_ret
      all_goals
        refine ⟨_, rfl, rfl, fun h => ?_⟩
        first
          | (cases h; done)
          | (refine ⟨?_, fun a ha => ?_⟩
             · simp at h; omega
             · have h1 := total_mem xs ha
               have h2 := HT.out
               simp at h; omega)

end Go.Proofs.Ytkkakcmgndmfjaa

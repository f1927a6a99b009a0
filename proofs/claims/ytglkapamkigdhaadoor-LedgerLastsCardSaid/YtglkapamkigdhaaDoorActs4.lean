/-
  LedgerLasts' acts: values and lists; whether a list is small. Conditions: texts at most 2^47 bytes.
-/
import Derived.Test.YtglkapamkigdhaaDoorLists
namespace Go.Proofs.YtglkapamkigdhaaDoor.Rl
open Go.RowKit

/-- add (kind 0), base (1), arm (2), crash (3) -/
structure Act where
  kind : Int
  s : ByteArray
  n : Int
  k0 : Int
  k1 : Int
  u : UInt8
structure Act.ok (a : Act) : Prop where
  n0 : -9223372036854775808 ≤ a.n
  n1 : a.n ≤ 9223372036854775807
  k00 : -9223372036854775808 ≤ a.k0
  k01 : a.k0 ≤ 9223372036854775807
  k10 : -9223372036854775808 ≤ a.k1
  k11 : a.k1 ≤ 9223372036854775807
  s : a.s.size ≤ 140737488355328
def actC (a : Act) (j : Nat) : Value := match j with
  | 0 => .int .i64 a.kind
  | 1 => .string a.s
  | 2 => .int .i64 a.n
  | 3 => .int .i64 a.k0
  | 4 => .int .i64 a.k1
  | _ => .int .u8 a.u.toNat
abbrev actV (a : Act) : Value := .agg #[.int .i64 a.kind, .string a.s, .int .i64 a.n, .int .i64 a.k0, .int .i64 a.k1, .int .u8 a.u.toNat]

/-- In the world w the slice value v holds the acts; its cells lie below block N. -/
def SA (w : World) (N : Nat) (v : Value) (xs : List Act) : Prop :=
  ∃ (A : Option Addr) (c : Nat), v = .slice A xs.length c ∧ (0 < xs.length → ∃ b o : Nat, A = some ⟨b, o, none⟩ ∧ b < N ∧ ∀ i (h : i < xs.length) j, j < 6 → w.cell? ⟨b, o + i * 6 + j, none⟩ = some (actC xs[i] j))
theorem SA.nil (w : World) (N : Nat) : SA w N (.slice none 0 0) [] := ⟨none, 0, rfl, fun h => absurd h (by simp)⟩
theorem SA.below {w w' : World} {N : Nat} {v : Value} {xs : List Act} (h : SA w N v xs) (hb : Below N w w') : SA w' N v xs := by
  obtain ⟨A, c, hv, h⟩ := h
  refine ⟨A, c, hv, fun h0 => ?_⟩
  obtain ⟨b, o, e, hbN, hc⟩ := h h0
  exact ⟨b, o, e, hbN, fun i hi j hj => by rw [hb.cell (p := ⟨b, o + i * 6 + j, none⟩) hbN]; exact hc i hi j hj⟩
theorem SA.form {w : World} {N : Nat} {v : Value} {xs : List Act} (h : SA w N v xs) : ∃ A c, v = .slice A xs.length c := by
  obtain ⟨A, c, hv, _⟩ := h; exact ⟨A, c, hv⟩
theorem SA.at_ {w : World} {N k : Nat} {A : Option Addr} {n c : Nat} {xs : List Act} (h : SA w N (.slice A n c) xs) (hk : k < xs.length) :
    ∃ b o : Nat, A = some ⟨b, o, none⟩ ∧ b < N ∧ ∀ j, j < 6 → w.cell? ⟨b, o + k * 6 + j, none⟩ = some (actC xs[k] j) := by
  obtain ⟨A', c', hv, h⟩ := h
  injection hv with h1 h2 h3
  subst h1
  obtain ⟨b, o, e, hb, hc⟩ := h (by omega)
  exact ⟨b, o, e, hb, hc k hk⟩

/-- the bytes of the first i texts -/
def total (xs : List Act) (i : Nat) : Nat := ((xs.take i).map fun a => a.s.size).sum
theorem total_succ (xs : List Act) (i : Nat) (h : i < xs.length) : total xs (i + 1) = total xs i + xs[i].s.size := by
  unfold total
  rw [List.take_add_one, List.map_append, List.sum_append]
  simp [h]
theorem total_mem (xs : List Act) {a : Act} (h : a ∈ xs) : a.s.size ≤ total xs xs.length := by
  unfold total
  rw [List.take_length]
  induction xs with
  | nil => cases h
  | cons x l ih =>
    simp only [List.map_cons, List.sum_cons]
    rcases List.mem_cons.1 h with rfl | h
    · omega
    · have := ih h; omega

def Sm (xs : List Act) (e : Ending) (w w' : World) : Prop := ∃ r, e = .returned (.bool r) ∧ w = w' ∧ (r = true → xs.length ≤ 50 ∧ ∀ a ∈ xs, a.s.size ≤ 8000)
set_option maxHeartbeats 800000 in
theorem c_small (v : Value) (xs : List Act) (w : World) (hv : SA w w.heap.size v xs) (hl : xs.length ≤ 140737488355328) (ha : ∀ a ∈ xs, a.s.size ≤ 140737488355328) :
    Calls Tryd.prog 7 #[v] w fun e w' => Sm xs e w w' := by
  obtain ⟨A, c, rfl⟩ := hv.form
  have HA := Lib.hid ha
  clear ha
  go_enter Tryd.func7, Tryd.ntmps7
  go_wp2
  go_loopw [3, 4] (fun vn vi wr => ∃ k : Nat, k ≤ xs.length ∧ k ≤ 51 ∧ vi = .int .i64 (k : Int) ∧ vn = .int .i64 (total xs k : Int) ∧ total xs k ≤ 140737488363328 ∧ w = wr) (fun _ vi _ => xs.length - (intOf vi).toNat)
  case atStart => exact ⟨0, by omega, by omega, rfl, rfl, by unfold total; simp, rfl⟩
  case round =>
    obtain ⟨k, hk, hk61, rfl, rfl, ht, rfl⟩ := hrel
    by_cases hlt : k < xs.length
    · by_cases h60 : k ≤ 50
      · by_cases hn : total xs k ≤ 8000
        · obtain ⟨b, o, rfl, hb, hc⟩ := hv.at_ hlt
          have c2a := hc 1 (by omega)
          have hsz := HA.out xs[k] (List.getElem_mem hlt)
          have hs := total_succ xs k hlt
          obtain ⟨x, hx⟩ : ∃ x, xs[k].s = x := ⟨_, rfl⟩
          have c2 : w.cell? ⟨b, o + k * 6 + 1, none⟩ = some (.string x) := by rw [c2a, ← hx]; rfl
          rw [hx] at hsz hs
          obtain ⟨T, hT⟩ : ∃ T, total xs k = T := ⟨_, rfl⟩
          obtain ⟨T', hT'⟩ : ∃ T', total xs (k + 1) = T' := ⟨_, rfl⟩
          rw [hT] at hs hn ht
          rw [hT'] at hs
          have HT := Lib.hid hT'
          rw [hT]
          have HS := Lib.hid hs
          clear hs hT hT' hx hc c2a
          go_wp2
          go_roundw
          case rel => exact ⟨k + 1, by omega, by omega, by go_num, by rw [HT.out, HS.out]; go_num, by rw [HT.out, HS.out]; omega, by trivial⟩
          case measure => simp [intOf]; omega
        · obtain ⟨T, hT⟩ : ∃ T, total xs k = T := ⟨_, rfl⟩
          rw [hT] at hn ht
          rw [hT]
          have hn : 8000 < T := by omega
          clear hT
          go_wp2
          all_goals go_ret
          all_goals
            refine ⟨_, rfl, rfl, fun h => ?_⟩
            first | (cases h; done) | (simp at h; done) | (simp at h; omega)
      · have h60' : 50 < k := by omega
        obtain ⟨T, hT⟩ : ∃ T, total xs k = T := ⟨_, rfl⟩
        rw [hT] at ht
        rw [hT]
        clear hT
        have h61 : 50 < xs.length := by omega
        go_wp2
        all_goals go_ret
        all_goals
          refine ⟨_, rfl, rfl, fun h => ?_⟩
          first | cases h | (simp at h; done) | (simp at h; omega)
    · obtain rfl : k = xs.length := by omega
      obtain ⟨T, hT⟩ : ∃ T, total xs xs.length = T := ⟨_, rfl⟩
      rw [hT] at ht
      rw [hT]
      have HT := Lib.hid hT
      clear hT
      go_wp2
      all_goals go_ret
      all_goals
        refine ⟨_, rfl, rfl, fun h => ?_⟩
        first
          | (cases h; done)
          | (refine ⟨?_, fun a ha => ?_⟩
             · simp at h; omega
             · have h1 := total_mem xs ha
               have h2 := HT.out
               simp at h; omega)

end Go.Proofs.YtglkapamkigdhaaDoor.Rl

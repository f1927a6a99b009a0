/-
  The document's Num and Int, and knot.Int, at every number and every text. Condition: lengths below 2^47; the library's variables hold what their types allow.
  knot.First at every text. Condition: lengths below 2^47; the library's variables hold what their types allow.
  THE PLAIN MATHEMATICS OF PACKAGE knot, its fourth part, of no program: a strand at the front, read digit by digit. No condition.
  The document's First at every text. Condition: lengths below 2^47.
-/
import Derived.Test.YtkpakiiijphjeaaGreatDoorPBaseA
import Derived.Lib.ParseIntBTie
import Derived.Test.YtkpakiiijphjeaaGreatDoorPOrdA
import Derived.Lib.IndexMore
namespace Go.Proofs.YtkpakiiijphjeaaGreatDoor
open Go.RowKit M
attribute [local go_sem ↓] Go.wp_at_zero Go.wp_at_succ
def intR : Option Int → Value
  | some n => .tuple #[.int .i64 n, .int .i64 0]
  | none => .tuple #[.int .i64 0, .int .i64 10]
theorem intT_long (s : ByteArray) (h : 20 < s.size) : intT s.data.toList = none :=
  intT_none fun n hn e => by
    have := numT_length hn
    rw [e] at this
    simp at this
    omega
theorem intT_of_parse {s : ByteArray} {v : Int} (hp : Lib.parseIntB 64 s.data.toList = .ok v) (hne : numT v ≠ s.data.toList) : intT s.data.toList = none :=
  intT_none fun n hn e => by
    rw [← e, parse_numT hn] at hp
    injection hp with hp
    exact hne (by rw [← hp, e])
theorem intT_of_fail {s : ByteArray} (hp : ∀ v, Lib.parseIntB 64 s.data.toList ≠ .ok v) : intT s.data.toList = none :=
  intT_none fun n hn e => hp n (by rw [← e, parse_numT hn])
set_option maxHeartbeats 1000000 in
set_option maxRecDepth 100000 in
theorem int_any (s : ByteArray) (w : World) (hs : s.size ≤ 140737488355328) (hg : Good w) :
    Calls Tryz.prog 86 #[.string s] w fun e w' => e = .returned (intR (intT s.data.toList)) ∧ Below w.heap.size w w' := by
  by_cases h20 : 20 < s.size
  · rw [intT_long s h20]
    have hi : (20 : Int) < (s.size : Int) := by omega
    go_enter Tryz.func86, Tryz.ntmps86
    go_wp2_with fail
    go_ret2
    exact ⟨rfl, Below.refl _ w⟩
  · have hi : ¬ (20 : Int) < (s.size : Int) := by omega
    have hi' : (s.size : Int) ≤ 20 := by omega
    cases hp : Lib.parseIntB 64 s.data.toList with
    | ok v =>
      have hb := Lib.parseIntB_bounds hp
      have hin : inR v := by unfold inR; omega
      have hc : Calls Tryz.prog 101 #[.string s, .int .i64 10, .int .i64 64] w fun e w' => e = .returned (.tuple #[.int .i64 v, .nilIface]) ∧ Below w.heap.size w w' :=
        (Tryz.strconv_ParseInt_10_at64_ok s (by omega) v hp w).mono fun e w' ⟨h1, h2⟩ => ⟨h1, by
          rcases h2 with rfl | ⟨t, rfl⟩
          · exact Below.refl _ _
          · exact Lib.bytesWorld_below w 5 t⟩
      have hnum := fun w => num_any v w hin
      by_cases he : numT v = s.data.toList
      · rw [intT_some hin he]
        have hq := beq_yes he
        clear he hb hp hin
        go_enter Tryz.func86, Tryz.ntmps86
        go_wp2_with fail
        refine hc.mono ?_
        rintro e w1 ⟨rfl, hb1⟩
        go_wp2_with fail
        refine (hnum _).mono ?_
        rintro e w2 ⟨rfl, hb2⟩
        go_wp2_with fail
        go_ret2
        exact ⟨rfl, hb1.trans (hb2.mono hb1.size)⟩
      · rw [intT_of_parse hp he]
        have hq := beq_no he
        clear he hb hp hin
        go_enter Tryz.func86, Tryz.ntmps86
        go_wp2_with fail
        refine hc.mono ?_
        rintro e w1 ⟨rfl, hb1⟩
        go_wp2_with fail
        refine (hnum _).mono ?_
        rintro e w2 ⟨rfl, hb2⟩
        go_wp2_with fail
        go_ret2
        exact ⟨rfl, hb1.trans (hb2.mono hb1.size)⟩
    | range =>
      rw [intT_of_fail (by rw [hp]; intro v h; cases h)]
      obtain ⟨_, _, ⟨ev, hv, hev⟩, _⟩ := hg
      have hc := Tryz.strconv_ParseInt_10_at64_range s (by omega) hp ev w hv hev
      clear hp hv hev
      go_enter Tryz.func86, Tryz.ntmps86
      go_wp2_with fail
      refine hc.mono ?_
      rintro e w' ⟨N, rfl, hN, hw', hbel⟩
      clear hw'
      go_wp2_with fail
      go_ret2
      exact ⟨rfl, hbel⟩
    | _ =>
      rw [intT_of_fail (by rw [hp]; intro v h; cases h)]
      obtain ⟨_, ⟨ev, hv, hev⟩, _, _⟩ := hg
      have hc := Tryz.strconv_ParseInt_10_at64_fails s (by omega) (by rw [hp]; intro v h; cases h) (by rw [hp]; intro h; cases h) ev w hv hev
      clear hp hv hev
      go_enter Tryz.func86, Tryz.ntmps86
      go_wp2_with fail
      refine hc.mono ?_
      rintro e w' ⟨N, rfl, hN, hw', hbel⟩
      clear hw'
      go_wp2_with fail
      go_ret2
      exact ⟨rfl, hbel⟩
end Go.Proofs.YtkpakiiijphjeaaGreatDoor

namespace Go.Proofs.YtkpakiiijphjeaaGreatDoor
open Go.RowKit M
attribute [local go_sem ↓] Go.wp_at_zero Go.wp_at_succ
theorem index_colon : ∀ (p q : Text), (58 : UInt8) ∉ p → Lib.index (p ++ 58 :: q) [58] = (p.length : Int)
  | [], q, _ => by simp [Lib.index, List.isPrefixOf]
  | c :: p, q, h => by
    have hc : c ≠ 58 := fun e => h (by simp [e])
    have ih := index_colon p q (fun m => h (by simp [m]))
    simp only [List.cons_append, Lib.index]
    rw [if_neg (by simp [List.isPrefixOf]; exact fun e => hc e.symm), ih, if_neg (by simp)]
    rfl
theorem index_no_colon : ∀ (l : Text), (58 : UInt8) ∉ l → Lib.index l [58] = -1
  | [], _ => rfl
  | c :: l, h => by
    have hc : c ≠ 58 := fun e => h (by simp [e])
    have ih := index_no_colon l (fun m => h (by simp [m]))
    simp only [Lib.index]
    rw [if_neg (by simp [List.isPrefixOf]; exact fun e => hc e.symm), ih]
    rfl
theorem cut_colon (p q : Text) (h : (58 : UInt8) ∉ p) : Lib.cut (p ++ 58 :: q) [58] = (p, q, true) := by
  unfold Lib.cut
  rw [index_colon p q h, if_pos (by omega)]
  simp
theorem cut_no_colon (l : Text) (h : (58 : UInt8) ∉ l) : Lib.cut l [58] = (l, [], false) := by
  unfold Lib.cut
  rw [index_no_colon l h, if_neg (by omega)]
theorem has_colon : ∀ (l : Text), (58 : UInt8) ∈ l → ∃ p q, l = p ++ 58 :: q ∧ (58 : UInt8) ∉ p
  | [], h => by cases h
  | c :: l, h => by
    by_cases hc : c = 58
    · exact ⟨[], l, by rw [hc]; rfl, by simp⟩
    · obtain ⟨p, q, e, hp⟩ := has_colon l (by simpa [Ne.symm hc] using h)
      exact ⟨c :: p, q, by rw [e]; rfl, by simp [hp, Ne.symm hc]⟩
theorem str_of {x : ByteArray} {l : Text} (h : x.data.toList = l) : str l = .string x := by
  rw [← h]
theorem below_of_drewN {B n : Nat} {w w1 : World} (h : Below B (w.drewN n) w1) : Below B w w1 := ⟨h.os, h.tape, h.output, h.size, h.block⟩
def firstR (s : ByteArray) : Option (Text × Text) → Value
  | some (x, r) => .tuple #[str x, str r, .int .i64 0]
  | none => .tuple #[str [], .string s, .int .i64 10]
set_option maxHeartbeats 2000000 in
set_option maxRecDepth 100000 in
theorem first_any (s : ByteArray) (w : World) (hs : s.size ≤ 140737488355328) (hg : Good w) :
    Calls Tryz.prog 103 #[.string s] w fun e w' => e = .returned (firstR s (firstT s.data.toList)) ∧ Below w.heap.size w w' := by
  obtain ⟨m, hmin⟩ : ∃ m : Nat, min (s.size : Int) 1048576 = (m : Int) := ⟨(min (s.size : Int) 1048576).toNat, by omega⟩
  have hm1 : m ≤ s.size := by omega
  obtain ⟨t, ht⟩ : ∃ t, s.extract 0 m = t := ⟨_, rfl⟩
  have htd : t.data.toList = s.data.toList.take 1048576 := by
    rw [← ht, take_data]
    rcases Nat.le_total s.size 1048576 with h | h
    · rw [List.take_of_length_le (by simp; omega), List.take_of_length_le (by simp; omega)]
    · rw [show m = 1048576 by omega]
  have hts : t.size ≤ 1048576 := by rw [← ht, ByteArray.size_extract]; omega
  obtain ⟨mm, hmm⟩ := hg.most
  have hc0 := Tryz.strings_Cut t ⟨#[58]⟩ mm w (by omega) hmm
  rw [show (⟨#[58]⟩ : ByteArray).data.toList = [58] from rfl] at hc0
  clear hmm
  by_cases hcol : (58 : UInt8) ∈ t.data.toList
  · obtain ⟨p, q, hpq, hp⟩ := has_colon _ hcol
    rw [hpq, cut_colon p q hp] at hc0
    simp only [] at hc0
    rw [hpq] at htd
    obtain ⟨P, hP⟩ : ∃ P : ByteArray, ⟨p.toArray⟩ = P := ⟨_, rfl⟩
    obtain ⟨Q, hQ⟩ : ∃ Q : ByteArray, ⟨q.toArray⟩ = Q := ⟨_, rfl⟩
    obtain rfl : P.data.toList = p := by rw [← hP]
    obtain rfl : Q.data.toList = q := by rw [← hQ]
    have hsz : P.size + Q.size ≤ 1048576 := by
      have := congrArg List.length hpq
      simp at this
      omega
    have hint := fun n => int_any P (w.drewN n) (by omega) (hg.drewN n)
    rw [hP, hQ] at hc0
    clear hcol hpq hP hQ
    cases hi : intT P.data.toList with
    | none =>
      rw [hi] at hint
      rw [first_cut_none htd.symm hp hi]
      clear hi htd hp
      go_enter Tryz.func103, Tryz.ntmps103
      go_wp2_with fail
      refine hc0.mono ?_
      rintro e w1 ⟨rfl, n, rfl⟩
      go_wp2_with fail
      refine (hint n).mono ?_
      rintro e w2 ⟨rfl, hb2⟩
      unfold intR
      go_wp2_with fail
      go_ret3
      exact ⟨rfl, below_of_drewN hb2⟩
    | some v =>
      rw [hi] at hint
      unfold intR at hint
      simp only [] at hint
      have hvr := (intT_spec hi).1
      unfold inR at hvr
      obtain ⟨hv1, hv2⟩ := hvr
      by_cases hneg : v < 0
      · rw [first_cut_far htd.symm hp hi (.inl hneg)]
        clear hi htd hp
        go_enter Tryz.func103, Tryz.ntmps103
        go_wp2_with fail
        refine hc0.mono ?_
        rintro e w1 ⟨rfl, n, rfl⟩
        go_wp2_with fail
        refine (hint n).mono ?_
        rintro e w2 ⟨rfl, hb2⟩
        go_wp2_with fail
        go_ret3
        exact ⟨rfl, below_of_drewN hb2⟩
      · by_cases hfar : (Q.size : Int) ≤ v
        · rw [first_cut_far htd.symm hp hi (.inr (by simpa using hfar))]
          clear hi htd hp
          go_enter Tryz.func103, Tryz.ntmps103
          go_wp2_with fail
          refine hc0.mono ?_
          rintro e w1 ⟨rfl, n, rfl⟩
          go_wp2_with fail
          refine (hint n).mono ?_
          rintro e w2 ⟨rfl, hb2⟩
          go_wp2_with fail
          go_ret3
          exact ⟨rfl, below_of_drewN hb2⟩
        · obtain ⟨k, rfl⟩ : ∃ k : Nat, v = (k : Int) := ⟨v.toNat, by omega⟩
          have hkq : k < Q.size := by omega
          have hkl : k < Q.data.toList.length := by simpa using hkq
          by_cases h44 : (Q[k]'hkq).toNat = 44
          · have hget : Q.data.toList[k]? = some 44 := by
              rw [List.getElem?_eq_getElem hkl]
              exact congrArg some (UInt8.toNat_inj.1 h44)
            obtain ⟨hf, hle⟩ := first_cut_some htd.symm hi hkl hget
            have hb1 : (((Q[k]'hkq).toNat : Int) != 44) = false := by rw [h44]; rfl
            obtain ⟨E, hE⟩ : ∃ E : Nat, E = P.size + 1 + k + 1 := ⟨_, rfl⟩
            rw [show P.data.toList.length = P.size by simp, ← hE] at hf hle
            rw [show s.data.toList.length = s.size by simp] at hle
            have hfr : firstR s (firstT s.data.toList) = .tuple #[.string (Q.extract 0 k), .string (s.extract E s.size), .int .i64 0] := by
              rw [hf]
              show Value.tuple #[str (Q.data.toList.take k), str (s.data.toList.drop E), .int .i64 0] = _
              rw [str_of (take_data Q k), str_of (drop_data s E)]
            rw [hfr]
            have hEi : (P.size : Int) + 1 + (k : Int) + 1 = (E : Int) := by omega
            have hE0 : (0 : Int) ≤ (E : Int) := by omega
            have hE1 : (E : Int) ≤ (s.size : Int) := by omega
            have hk0 : (0 : Int) ≤ (k : Int) := by omega
            have hk1 : (k : Int) ≤ (Q.size : Int) := by omega
            clear hi htd hp hget hf h44 hE hfr
            go_enter Tryz.func103, Tryz.ntmps103
            go_wp2_with fail
            refine hc0.mono ?_
            rintro e w1 ⟨rfl, n, rfl⟩
            go_wp2_with fail
            refine (hint n).mono ?_
            rintro e w2 ⟨rfl, hb2⟩
            go_wp2_with fail
            go_quiet (fail)
            go_wp2_with fail
            go_ret3
            exact ⟨rfl, below_drewN (below_of_drewN hb2) _⟩
          · have hget : Q.data.toList[k]? ≠ some 44 := by
              rw [List.getElem?_eq_getElem hkl]
              intro e
              exact h44 (congrArg UInt8.toNat (Option.some.inj e))
            have hb1 : (((Q[k]'hkq).toNat : Int) != 44) = true := by
              have : ((Q[k]'hkq).toNat : Int) ≠ 44 := by omega
              simpa using this
            rw [first_cut_comma htd.symm hp hi hget]
            clear hi htd hp hget h44
            go_enter Tryz.func103, Tryz.ntmps103
            go_wp2_with fail
            refine hc0.mono ?_
            rintro e w1 ⟨rfl, n, rfl⟩
            go_wp2_with fail
            refine (hint n).mono ?_
            rintro e w2 ⟨rfl, hb2⟩
            go_wp2_with fail
            go_ret3
            exact ⟨rfl, below_of_drewN hb2⟩
  · rw [cut_no_colon _ hcol] at hc0
    simp only [] at hc0
    rw [htd] at hcol
    rw [first_no_colon hcol]
    rw [show (⟨t.data.toList.toArray⟩ : ByteArray) = t from str_self t] at hc0
    clear hcol htd
    go_enter Tryz.func103, Tryz.ntmps103
    go_wp2_with fail
    refine hc0.mono ?_
    rintro e w1 ⟨rfl, n, rfl⟩
    go_wp2_with fail
    go_ret3
    exact ⟨rfl, below_drewN (Below.refl _ w) n⟩
end Go.Proofs.YtkpakiiijphjeaaGreatDoor

namespace Go.Proofs.YtkpakiiijphjeaaGreatDoor.M
structure Front (s : Text) (k n : Nat) : Prop where
  le8 : k ≤ 8
  le : k ≤ s.length
  dig : ∀ c ∈ s.take k, isDig c
  val : n = valN (s.take k)
theorem valN_lt : ∀ (l : Text), (∀ c ∈ l, isDig c) → valN l < 10 ^ l.length := by
  intro l
  induction h : l.length generalizing l with
  | zero => intro _; rw [List.length_eq_zero_iff.1 h]; decide
  | succ n ih =>
    intro hd
    have h0 : l ≠ [] := by intro e; subst e; simp at h
    obtain ⟨r, c, rfl⟩ : ∃ r c, l = r ++ [c] := ⟨l.dropLast, l.getLast h0, (List.dropLast_concat_getLast h0).symm⟩
    have hr : r.length = n := by simpa using h
    have := ih r hr (fun c hc => hd c (by simp [hc]))
    have hc := hd c (by simp)
    unfold isDig at hc
    rw [valN_snoc, Nat.pow_succ]
    omega
theorem Front.lt {s : Text} {k n : Nat} (h : Front s k n) : n < 100000000 := by
  have h1 := valN_lt _ h.dig
  rw [← h.val, List.length_take, Nat.min_eq_left h.le] at h1
  have h2 : 10 ^ k ≤ 10 ^ 8 := Nat.pow_le_pow_right (by omega) h.le8
  omega
theorem Front.start (s : Text) : Front s 0 0 := ⟨by omega, by omega, by simp, by simp [valN]⟩
theorem Front.step {s : Text} {k n : Nat} (h : Front s k n) (h8 : k < 8) (hk : k < s.length) (hd : isDig s[k]) : Front s (k + 1) (10 * n + (s[k].toNat - 48)) := by
  have e : s.take (k + 1) = s.take k ++ [s[k]] := List.take_succ_eq_append_getElem hk
  refine ⟨by omega, by omega, ?_, ?_⟩
  · intro c hc
    rw [e, List.mem_append] at hc
    rcases hc with hc | hc
    · exact h.dig c hc
    · simp at hc; subst hc; exact hd
  · rw [e, valN_snoc, ← h.val]
end Go.Proofs.YtkpakiiijphjeaaGreatDoor.M

namespace Go.Proofs.YtkpakiiijphjeaaGreatDoor
open Go.RowKit M
attribute [local go_sem ↓] Go.wp_at_zero Go.wp_at_succ
end Go.Proofs.YtkpakiiijphjeaaGreatDoor

/-
  pairs, the program's: texts, two by two. Condition: at most 5,000 texts.
-/
import Derived.Test.YtlmecfnoipnccaaDoorOdPutR
namespace Go.Proofs.YtlmecfnoipnccaaDoor.Od
open Go.RowKit Bnd
open Ds (run_append2)

def twosS : List ByteArray → List Pr
  | a :: b :: l => (a, b) :: twosS l
  | _ => []
theorem twosS_texts : ∀ l : List ByteArray, twosT (texts l) = twosS l
  | [] => rfl
  | [_] => rfl
  | a :: b :: l => by
    show (_, _) :: twosT (texts l) = _
    rw [twosS_texts l, ba_data, ba_data]; rfl
theorem twosS_take : ∀ (k : Nat) (l : List ByteArray) (h : k * 2 + 1 < l.length), twosS (l.take ((k + 1) * 2)) = twosS (l.take (k * 2)) ++ [(l[k * 2], l[k * 2 + 1])]
  | 0, a :: b :: l, _ => by simp [twosS]
  | k + 1, a :: b :: l, h => by
    have e1 : (k + 1 + 1) * 2 = (k + 1) * 2 + 1 + 1 := by omega
    have e2 : (k + 1) * 2 = k * 2 + 1 + 1 := by omega
    have := twosS_take k l (by simp at h; omega)
    rw [e1, List.take_succ_cons, List.take_succ_cons, twosS, this]
    simp only [e2, List.take_succ_cons, twosS, List.cons_append, List.getElem_cons_succ]
  | _, [], h => by simp at h
  | 0, [_], h => by simp at h
  | k + 1, [_], h => by simp at h
theorem twosS_all : ∀ (l : List ByteArray), twosS (l.take (l.length / 2 * 2)) = twosS l
  | [] => rfl
  | [_] => by simp [twosS]
  | a :: b :: l => by
    have e : (a :: b :: l).length / 2 * 2 = l.length / 2 * 2 + 1 + 1 := by simp only [List.length_cons]; omega
    rw [e, List.take_succ_cons, List.take_succ_cons, twosS, twosS, twosS_all l]
theorem twosS_length : ∀ (l : List ByteArray), (twosS l).length = l.length / 2
  | [] => rfl
  | [_] => by simp [twosS]
  | a :: b :: l => by
    rw [twosS, List.length_cons, twosS_length l]; simp only [List.length_cons]; omega

/-- one pair is put behind the others, whichever operation comes first -/
structure RT (N : Nat) (W : World) (xs : List Pr) (m : Pr) (L : Nat → Bool) (u : Nat → Value) (wx : World) : Prop where
  w0 : L 11 = false → wx = W.drew
  w11 : L 11 = true → L 12 = false → wx = W.drew.alloc (.cells #[.string m.1, .string m.2] 114)
  wa : L 12 = true → Below N W wx ∧ OwnP wx N (u 12) (xs ++ [m])

set_option maxHeartbeats 8000000 in
set_option maxRecDepth 100000 in
theorem pairs_own (v : Value) (ss : List ByteArray) (w : World) (hv : SL w w.heap.size v ss) (hl : ss.length ≤ 5000) :
    Calls Tryd.prog 85 #[v] w fun e w' => ∃ s, e = .returned s ∧ OwnP w' w.heap.size s (twosS ss) ∧ Below w.heap.size w w' := by
  obtain ⟨A, c, rfl⟩ := hv.form
  obtain ⟨n, hn⟩ : ∃ n, n = ss.length := ⟨_, rfl⟩
  have HX := Lib.hid hn
  rw [← hn] at hv hl ⊢
  clear hn
  obtain ⟨q, hq⟩ : ∃ q : Nat, q = n / 2 := ⟨_, rfl⟩
  have e2 : ((n : Int) / 2) = (q : Int) := by omega
  have HQ := Lib.hid hq
  have hqn : q ≤ 5000 := by omega
  clear hq
  go_enter Tryd.func85, Tryd.ntmps85
  go_wp2_with fail
  clear e2
  go_loopw [3, 4, 5, 9] (fun v3 _ _ vi wr => ∃ k : Nat, k ≤ q ∧ vi = .int .i64 (k : Int) ∧ OwnP wr w.heap.size v3 (twosS (ss.take (k * 2))) ∧ Below w.heap.size w wr) (fun _ _ _ vi _ => q - (intOf vi).toNat)
  case atStart => exact ⟨0, Nat.zero_le _, rfl, by rw [show twosS (ss.take (0 * 2)) = [] from rfl]; exact own_nil _ _, Below.refl _ w⟩
  case round =>
    obtain ⟨k, hk, rfl, hown, hbw⟩ := hrel
    have hz := hbw.size
    by_cases hlt : k < q
    · have hk2 : k * 2 + 1 < ss.length := by have := HQ.out; have := HX.out; omega
      have htk := twosS_take k ss hk2
      obtain ⟨m, hm⟩ : ∃ m : Nat, m = k * 2 := ⟨_, rfl⟩
      obtain ⟨m1, hm1⟩ : ∃ m1 : Nat, m1 = m + 1 := ⟨_, rfl⟩
      have hmx : m < ss.length := by omega
      have hmy : m1 < ss.length := by omega
      obtain ⟨ad, rfl, hadb, hc1⟩ := (hv.below hbw).at_ hmx
      obtain ⟨ad', had', _, hc2⟩ := (hv.below hbw).at_ hmy
      obtain rfl : ad = ad' := Option.some.inj had'
      obtain ⟨x, hx⟩ : ∃ x, ss[m] = x := ⟨_, rfl⟩
      obtain ⟨y, hy⟩ : ∃ y, ss[m1] = y := ⟨_, rfl⟩
      rw [hx] at hc1
      rw [hy] at hc2
      have htk2 : twosS (ss.take ((k + 1) * 2)) = twosS (ss.take (k * 2)) ++ [(x, y)] := by
        rw [htk, ← hx, ← hy]
        subst hm hm1
        rfl
      obtain ⟨xs, hxs⟩ : ∃ xs, twosS (ss.take (k * 2)) = xs := ⟨_, rfl⟩
      have hlen : xs.length ≤ 5000 := by rw [← hxs, twosS_length, List.length_take]; have := HX.out; omega
      rw [hxs] at hown htk2
      have HN := Lib.hid htk2
      have HO := Lib.hid hown
      obtain ⟨A7, c7, rfl⟩ := (SP.of_own hown).form
      have hmn : m < n := by have := HX.out; omega
      have hmn1 : m1 < n := by have := HX.out; omega
      have hab : ad.block < wr.heap.size := by omega
      have hkq : (k : Int) < (q : Int) := by omega
      have j0 : IntKind.i64.wrap ((k : Int) * 2) = (m : Int) := by rw [IntKind.wrap_i64] <;> omega
      have j1 : IntKind.i64.wrap ((m : Int) + 1) = (m1 : Int) := by rw [IntKind.wrap_i64] <;> omega
      have j2 : ((m : Int) < (n : Int)) = True := eq_true (by omega)
      have j3 : ((m1 : Int) < (n : Int)) = True := eq_true (by omega)
      have j4 : (0 ≤ (m : Int)) = True := eq_true (by omega)
      have j5 : (0 ≤ (m1 : Int)) = True := eq_true (by omega)
      have HM := Lib.hid hm
      have HM1 := Lib.hid hm1
      clear htk htk2 hxs hx hy had' hown hm hm1 hk2 hmx hmy
      go_wp2_with fail
      refine St.wp_region_mixed (RT w.heap.size wr xs (x, y)) (fun _ _ => False) (by kernel_rfl) (by kernel_rfl) (by kernel_rfl) ⟨fun _ => rfl, fun h => (by cases h), fun h => (by cases h)⟩ ?_
      have hO' := HO.out
      obtain ⟨i0, hi, hz0', hz1', hz2⟩ := info_parts infoP
      have cells : ∀ L u wx, RT w.heap.size wr xs (x, y) L u wx → L 12 = false → wx.cell? (ad.add m) = some (.string x) ∧ wx.cell? (ad.add m1) = some (.string y) := by
        intro L u wx hS h12
        cases h11 : L 11 with
        | false => rw [hS.w0 h11]; exact ⟨hc1, hc2⟩
        | true =>
          rw [hS.w11 h11 h12]
          exact ⟨(World.cell?_alloc_lt wr.drew _ (ad.add m) (show _ < wr.heap.size by unfold Addr.add; split <;> exact hab)).trans hc1, (World.cell?_alloc_lt wr.drew _ (ad.add m1) (show _ < wr.heap.size by unfold Addr.add; split <;> exact hab)).trans hc2⟩
      iterate 11
        (apply St.mix_give
         · rfl
         · intro L u' wx hS hcl hrd hag
           have h12 := St.not_yet hcl hrd 40 12 (by kernel_rfl)
           obtain ⟨f1, f2⟩ := cells _ _ _ hS h12
           go_simp
           try with_reducible rfl
         · exact fun L u' wx hS => ⟨hS.w0, hS.w11, hS.wa⟩
         simp only [Act.put, List.setIfInBounds_toArray, List.set_cons_zero, List.set_cons_succ])
      refine St.mix_free (fun z => z = .slice (some ⟨wr.heap.size, 0, none⟩) 1 1) rfl ?_ ?_
      · intro L u' wx hS hcl hrd hag
        have h12 := St.not_yet hcl hrd 40 12 (by kernel_rfl)
        obtain rfl := hS.w0 hrd.1
        refine ⟨_, _, rfl, ?_, ⟨fun h => (by simp [St.mark] at h), fun _ _ => rfl, fun h => (by rw [show St.mark L 11 12 = L 12 from rfl, h12] at h; cases h)⟩⟩
        go_simp
        try with_reducible rfl
      rintro _ rfl
      simp only [Act.put, List.setIfInBounds_toArray, List.set_cons_zero, List.set_cons_succ]
      refine St.mix_free (fun z => ∃ A c, z = .slice A (xs.length + 1) c) rfl ?_ ?_
      · intro L u' wx hS hcl hrd hag
        have h11 := St.before_ready hcl hrd 40 11 (by kernel_rfl)
        obtain rfl := hS.w11 h11 hrd.1
        obtain ⟨v', w', k1, k2, k3, _⟩ := run_append_own (P := Tryd.prog) (w := wr.drew.alloc (.cells #[.string x, .string y] 114)) w.heap.size 69 69 114 i0 (.agg #[.string E0, .string E0]) 2 32 Tryd.underlying69 hi hz0' hz1' hz2 rfl (by decide)
          (.slice A7 xs.length c7) xs.length (pcells xs) (hO'.alloc (w := wr.drew) _) ⟨wr.heap.size, 0, none⟩ 1 1 [.string x, .string y] rfl
          (fun j z hz => by
            match j with
            | 0 => simp at hz; subst hz; exact World.cell?_alloc_new wr.drew _ _ 0
            | 1 => simp at hz; subst hz; exact World.cell?_alloc_new wr.drew _ _ 1
            | j + 2 => simp at hz) (fun z hz => by simp at hz; rcases hz with rfl | rfl <;> rfl) (by unfold maxLen; omega) (by omega) (by simp; omega)
        have k2' : OwnP w' w.heap.size v' (xs ++ [(x, y)]) := by
          show w'.ownsRow _ _ _ _ _ _
          rw [List.length_append, pcells_append]
          exact k2
        have hbe : Below w.heap.size wr w' := (((Below.refl _ wr).drew).alloc hz _).trans ((Below.refl _ _).grown k3 (by simp; omega) (fun q hq => ((hO'.alloc (w := wr.drew) (.cells #[.string x, .string y] 114)).lt q hq).1))
        refine ⟨v', w', ?_, run_append2 rfl rfl rfl k1, ⟨fun h => (by rw [show St.mark L 12 11 = L 11 from rfl, h11] at h; cases h), fun _ h => (by simp [St.mark] at h), fun _ => ⟨hbe, k2'⟩⟩⟩
        obtain ⟨A', c', hv'⟩ := (SP.of_own k2').form
        rw [List.length_append] at hv'
        exact ⟨A', c', hv'⟩
      rintro y9 ⟨A9, c9, rfl⟩
      simp only [Act.put, List.setIfInBounds_toArray, List.set_cons_zero, List.set_cons_succ]
      iterate 1
        (apply St.mix_give
         · rfl
         · intro L u' wx hS hcl hrd hag
           go_simp
           try with_reducible rfl
         · exact fun L u' wx hS => ⟨hS.w0, hS.w11, hS.wa⟩
         simp only [Act.put, List.setIfInBounds_toArray, List.set_cons_zero, List.set_cons_succ])
      refine St.mix_last ?_
      intro L wx hS hall
      obtain ⟨hb8, k8⟩ := hS.wa (hall 12 (by decide))
      have O8 : OwnP wx w.heap.size (.slice A9 (xs.length + 1) c9) (xs ++ [(x, y)]) := k8
      have HO8 := Lib.hid O8
      clear hS hall k8 O8 cells hO'
      go_wp2_with fail
      go_roundw
      case rel => exact ⟨k + 1, by omega, by go_num, by rw [HN.out]; exact HO8.out, hbw.trans hb8⟩
      case measure => simp [intOf]; omega
    · obtain rfl : k = q := by omega
      have hall : twosS (ss.take (k * 2)) = twosS ss := by rw [HQ.out, HX.out]; exact twosS_all ss
      rw [hall] at hown
      have HO := Lib.hid hown
      obtain ⟨A7, c7, rfl⟩ := (SP.of_own hown).form
      clear hall hown
      go_wp2_with fail
      go_ret
      exact ⟨_, rfl, HO.out, hbw⟩
end Go.Proofs.YtlmecfnoipnccaaDoor.Od

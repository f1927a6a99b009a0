/-
  The law LedgerBases, walked: it answers true, at every argument. Conditions: the form's own reach; the library's variables hold what their types allow.
-/
import Derived.Test.YtdgnbiekklmafaaDoorLists
namespace Go.Proofs.YtdgnbiekklmafaaDoor.Rl
open Go.RowKit
open Go.Proofs.YtdgnbiekklmafaaDoor.M (pageT kBase kRec inR tellT tell_len)

/-- the base behind the first k texts -/
def lastB (ss : List ByteArray) : Nat → Text
  | 0 => []
  | k + 1 => ss[k]!.data.toList

set_option maxHeartbeats 8000000 in
set_option maxRecDepth 100000 in
theorem bases_big (v : Value) (ss : List ByteArray) (w : World) (hv : SL w w.heap.size v ss) (hl : ss.length ≤ 140737488355328) (hs : ∀ s ∈ ss, s.size ≤ 140737488355328) (hg : Good w)
    (hbig : ss.length = 0 ∨ 50 < ss.length ∨ 8000 < tot ss ss.length) : Calls Tryd.prog 6 #[v] w fun e w' => e = .returned (.bool true) ∧ Below w.heap.size w w' := by
  have cl := live_any w hg
  obtain ⟨A, c, rfl⟩ := hv.form
  have HB := Lib.hid hbig
  clear hbig
  go_enter Tryd.func6, Tryd.ntmps6
  go_wp2_with fail
  go_loop [3, 4] (fun vn vi => ∃ k : Nat, k ≤ ss.length ∧ k ≤ 51 ∧ vi = .int .i64 (k : Int) ∧ vn = .int .i64 (tot ss k : Int) ∧ tot ss k ≤ 140737488363328) (fun _ vi => ss.length - (intOf vi).toNat)
  case atStart => exact ⟨0, by omega, by omega, rfl, rfl, by rw [tot_zero]; omega⟩
  case round =>
    obtain ⟨k, hk, hk51, rfl, rfl, htk⟩ := hrel
    obtain ⟨T, hT⟩ : ∃ T, tot ss k = T := ⟨_, rfl⟩
    rw [hT] at htk ⊢
    by_cases h1 : k < ss.length
    · have h1i : (k : Int) < (ss.length : Int) := by omega
      have hnz : ((ss.length : Int) == 0) = false := beq_eq_false_iff_ne.2 (by omega)
      by_cases h2 : k ≤ 50
      · have h2i : (k : Int) ≤ 50 := by omega
        by_cases h3 : T ≤ 8000
        · have h3i : (T : Int) ≤ 8000 := by omega
          obtain ⟨b, o, c', hv', hb, hc⟩ := SL.at' hv h1
          injection hv' with hA
          subst hA
          have hck := hc k h1
          have hsz := hs ss[k] (List.getElem_mem h1)
          have hsucc := tot_succ ss k h1
          rw [hT] at hsucc
          obtain ⟨x, hx⟩ : ∃ x, ss[k] = x := ⟨_, rfl⟩
          rw [hx] at hck hsz hsucc
          have HS := Lib.hid hsucc
          clear hc hx hsucc hT
          go_wp2_with fail
          go_round
          case rel => exact ⟨k + 1, by omega, by omega, by go_num, by rw [HS.out]; go_num, by rw [HS.out]; omega⟩
          case measure => simp [intOf]; omega
        · have h3i : ¬ (T : Int) ≤ 8000 := by omega
          have h3j : (8000 : Int) < (T : Int) := by omega
          clear hT
          by_cases h50 : 50 < ss.length
          · have h5 : (50 : Int) < (ss.length : Int) := by omega
            go_wp2_with fail
            refine cl.mono ?_
            rintro e w1 ⟨rfl, b1⟩
            go_wp2_with fail
            go_ret
            exact ⟨rfl, b1⟩
          · have h5 : ¬ (50 : Int) < (ss.length : Int) := by omega
            go_wp2_with fail
            refine cl.mono ?_
            rintro e w1 ⟨rfl, b1⟩
            go_wp2_with fail
            go_ret
            exact ⟨rfl, b1⟩
      · have h2i : ¬ (k : Int) ≤ 50 := by omega
        have h5 : (50 : Int) < (ss.length : Int) := by omega
        clear hT
        go_wp2_with fail
        refine cl.mono ?_
        rintro e w1 ⟨rfl, b1⟩
        go_wp2_with fail
        go_ret
        exact ⟨rfl, b1⟩
    · obtain rfl : k = ss.length := by omega
      by_cases h0 : ss.length = 0
      · have h0b : ((ss.length : Int) == 0) = true := beq_iff_eq.2 (by omega)
        clear hT
        go_wp2_with fail
        refine cl.mono ?_
        rintro e w1 ⟨rfl, b1⟩
        go_wp2_with fail
        go_ret
        exact ⟨rfl, b1⟩
      · have h0b : ((ss.length : Int) == 0) = false := beq_eq_false_iff_ne.2 (by omega)
        by_cases h50 : 50 < ss.length
        · have h5 : (50 : Int) < (ss.length : Int) := by omega
          clear hT
          go_wp2_with fail
          refine cl.mono ?_
          rintro e w1 ⟨rfl, b1⟩
          go_wp2_with fail
          go_ret
          exact ⟨rfl, b1⟩
        · have h5 : ¬ (50 : Int) < (ss.length : Int) := by omega
          have h8 : (8000 : Int) < (T : Int) := by
            rcases HB.out with h | h | h
            · exact absurd h h0
            · exact absurd h h50
            · rw [hT] at h; omega
          clear hT
          go_wp2_with fail
          refine cl.mono ?_
          rintro e w1 ⟨rfl, b1⟩
          go_wp2_with fail
          go_ret
          exact ⟨rfl, b1⟩

/-- the round's state: the ledger with its last base -/
structure BInv (N b : Nat) (ss : List ByteArray) (w : World) (q k : Nat) (wr : World) : Prop where
  ex : ∃ (m : M) (l : Lg), LP q b l wr ∧ RP b m wr ∧ Whole m l (lastB ss k) [] ∧ Calm m ∧ m.ok ∧ m.ops ≤ 4 + 5 * k ∧ m.room = 4194304 ∧ l.epoch = (k : Int) + 1
  below : Below N w wr
theorem lastB_len (ss : List ByteArray) (hs : ∀ s ∈ ss, s.size ≤ 8000) (k : Nat) (hk : k ≤ ss.length) : (lastB ss k).length ≤ 8000 := by
  cases k with
  | zero => simp [lastB]
  | succ k =>
    have : ss[k]! = ss[k] := getElem!_pos ss k (by omega)
    show (ss[k]!.data.toList).length ≤ 8000
    rw [this]
    have := hs ss[k] (List.getElem_mem _)
    simpa using this
theorem ne_empty {l : Text} (h : l ≠ []) : ((tx l).toList == []) = false := by rw [tx_toList]; simpa using h

set_option maxHeartbeats 16000000 in
set_option maxRecDepth 100000 in
theorem bases_small (v : Value) (ss : List ByteArray) (w : World) (hv : SL w w.heap.size v ss) (hg : Good w)
    (h0 : 0 < ss.length) (h50 : ss.length ≤ 50) (ht : tot ss ss.length ≤ 8000) : Calls Tryd.prog 6 #[v] w fun e w' => e = .returned (.bool true) ∧ Below w.heap.size w w' := by
  have h3 := hg.size
  have hs : ∀ s ∈ ss, s.size ≤ 8000 := fun s h => Nat.le_trans (tot_mem ss h) ht
  obtain ⟨bb, o, c, rfl, hb, hc0⟩ := SL.at' hv h0
  have hc := Lib.hid hc0
  clear hc0
  have hnz : ((ss.length : Int) == 0) = false := beq_eq_false_iff_ne.2 (by omega)
  have h5 : ¬ (50 : Int) < (ss.length : Int) := by omega
  have cn := new_good 4194304 w (by decide)
  have k0 : (M.new 4194304).ok := M.ok.new (by decide)
  obtain ⟨m1, e1, W1, C1, q1⟩ := fresh (room := 4194304) (by decide)
  obtain ⟨k1, o1⟩ := openM_ok' k0 (by decide) e1
  have o1' : m1.ops ≤ 4 := by simpa [M.new] using o1
  have c1 := fun (b : Nat) (w : World) (hr : RP b (M.new 4194304) w) (hg : Good w) => open_gives hr k0 (by decide) hg e1
  have HS := Lib.hid hs
  have HT := Lib.hid ht
  have HW1 := Lib.hid W1
  have HC1 := Lib.hid C1
  clear hs ht W1 C1 e1 o1 k0
  go_enter Tryd.func6, Tryd.ntmps6
  go_wp2_with fail
  go_loop [3, 4] (fun vn vi => ∃ k : Nat, k ≤ ss.length ∧ vi = .int .i64 (k : Int) ∧ vn = .int .i64 (tot ss k : Int)) (fun _ vi => ss.length - (intOf vi).toNat)
  case atStart => exact ⟨0, by omega, rfl, rfl⟩
  case round =>
    obtain ⟨k, hk, rfl, rfl⟩ := hrel
    have hmono := tot_mono ss hk
    have htot := HT.out
    obtain ⟨T, hT⟩ : ∃ T, tot ss k = T := ⟨_, rfl⟩
    rw [hT] at hmono ⊢
    have hT8 : T ≤ 8000 := by omega
    have h3i : (T : Int) ≤ 8000 := by omega
    have h3j : ¬ (8000 : Int) < (T : Int) := by omega
    have h2i : (k : Int) ≤ 50 := by omega
    clear htot hmono
    by_cases h1 : k < ss.length
    · have h1i : (k : Int) < (ss.length : Int) := by omega
      have hck := hc.out k h1
      have hsz := HS.out ss[k] (List.getElem_mem h1)
      have hsucc := tot_succ ss k h1
      rw [hT] at hsucc
      obtain ⟨x, hx⟩ : ∃ x, ss[k] = x := ⟨_, rfl⟩
      rw [hx] at hck hsz hsucc
      have HSU := Lib.hid hsucc
      clear hx hsucc hT
      go_wp2_with fail
      go_round
      case rel => exact ⟨k + 1, by omega, by go_num, by rw [HSU.out]; go_num⟩
      case measure => simp [intOf]; omega
    · obtain rfl : k = ss.length := by omega
      clear hT h1 hk
      go_wp2_with fail
      refine cn.mono ?_
      rintro e w1 ⟨rfl, r1, b1, hsz1⟩
      clear cn
      go_wp2_with fail
      refine (num_any _ _).mono ?_
      rintro e w' ⟨rfl, rfl⟩
      go_wp2_with fail
      refine (c1 _ _ r1 (hg.since h3 b1)).mono ?_
      rintro e w2 ⟨q, B, v, rs, rfl, hB, hss, L2, hq, hSR, r2, f2⟩
      have b2 := b1.trans f2.below
      have hqN : w.heap.size < q := by omega
      clear c1 r1 f2 hSR hB hss b1 hq hsz1
      go_wp2_with fail
      refine (num_any _ _).mono ?_
      rintro e w' ⟨rfl, rfl⟩
      go_wp2_with fail
      go_loopw [11] (fun vi wr => ∃ k : Nat, k ≤ ss.length ∧ vi = .int .i64 (k : Int) ∧ BInv w.heap.size w.heap.size ss w q k wr) (fun vi _ => ss.length - (intOf vi).toNat)
      case atStart => exact ⟨0, by omega, rfl, ⟨m1, _, L2, r2, HW1.out, HC1.out, k1, by omega, q1, rfl⟩, b2⟩
      case round =>
        clear r2 L2 b2
        obtain ⟨k, hk, rfl, ⟨m, l, hL, hR, hW, hC, hok, hops, hroom, hep⟩, hbw⟩ := hrel
        have lok := hW.ok
        have hlb := lastB_len ss HS.out k hk
        by_cases h1 : k < ss.length
        · have h1i : (k : Int) < (ss.length : Int) := by omega
          have hcW : ∀ wx, Below w.heap.size w wx → wx.cell? ⟨bb, o + k, none⟩ = some (.string ss[k]) := by
            intro wx hx
            rw [hx.cell (p := ⟨bb, o + k, none⟩) hb]
            exact hc.out k h1
          have hsz := HS.out ss[k] (List.getElem_mem h1)
          have hlast : lastB ss (k + 1) = ss[k].data.toList := by
            show ss[k]!.data.toList = _
            rw [getElem!_pos ss k h1]
          obtain ⟨x, hx⟩ : ∃ x, ss[k] = x := ⟨_, rfl⟩
          rw [hx] at hcW hsz hlast
          have hxl : x.data.toList.length ≤ 8000 := by simpa using hsz
          -- Add
          obtain ⟨m2, e2, W2, C2, q2⟩ := add_calm hW hC [120] (hW.fine.snoc [120] (by decide) (by simp)) (by
            have := rec_short (n := 0) (x := [120]) (by decide) (by decide)
            exact hW.fits (c := 8000) (k := 0) hlb (by simp) (by simp) (by decide) (by rw [hroom]; simp at this ⊢; omega))
          obtain ⟨k2, o2⟩ := addM_ok' hok (by omega) e2
          -- Base
          have hep2 : l.epoch + 1 ≤ 2305843009213693952 := by rw [hep]; omega
          obtain ⟨m3, e3, W3, C3, q3⟩ := base_calm W2 C2 x.data.toList (W2.fine.next x.data.toList (by omega) hep2) (by
            have := base_short (e := l.epoch + 1) (x := x.data.toList) (by have := hW.fine.e1; omega) hep2 (by omega)
            exact W2.fits (c := 8000) (k := 1) hlb (by intro y hy; simp at hy; subst hy; decide) (by simp) (by decide) (by rw [q2, hroom]; simp only; omega))
          obtain ⟨k3, o3⟩ := baseM_ok' k2 (by omega) e3
          have ca := add_gives ⟨#[120]⟩ hL hR hok (by omega) lok rfl e2
          have lok2 := W2.ok
          have cb := fun (wx : World) (h : LP q w.heap.size { l with n := l.n + 1 } wx) (hr : RP w.heap.size m2 wx) => base_gives x h hr k2 (by omega) lok2 rfl e3
          have cr := fun (wx : World) (h : LP q w.heap.size ⟨1 - l.t, l.epoch + 1, 0, false⟩ wx) => l_records h
          have ce : ∀ (wx : World), LP q w.heap.size ⟨1 - l.t, l.epoch + 1, 0, false⟩ wx → Calls Tryd.prog 18 #[ptr q] wx fun r w' => r = .returned (.int .i64 ((k : Int) + 1 + 1)) ∧ wx = w' := fun wx h => by
            have := l_epoch h
            simp only at this
            rw [hep] at this
            exact this
          simp only at cr
          have HW3 := Lib.hid W3
          have HC3 := Lib.hid C3
          have HL := Lib.hid hlast
          have HR3 := Lib.hid (show m3.room = 4194304 by rw [q3, q2, hroom])
          have HO3 := Lib.hid (show m3.ops ≤ 4 + 5 * (k + 1) by omega)
          have HK3 := Lib.hid k3
          have HEP := Lib.hid (show (⟨1 - l.t, l.epoch + 1, 0, false⟩ : Lg).epoch = ((k + 1 : Nat) : Int) + 1 by show l.epoch + 1 = _; rw [hep]; push_cast; rfl)
          have hreads := W3.reads
          have crd := fun (t : Int) (wx : World) (hr : RP w.heap.size m3 wx) => c_read t hr
          have hbne := baseT_ne (⟨1 - l.t, l.epoch + 1, 0, false⟩ : Lg).epoch x.data.toList []
          have hend : ((k : Int) + 1 + 1) = (k : Int) + 2 := by omega
          have hend2 : ((k : Int) + 1 + 1 == (k : Int) + 2) = true := beq_iff_eq.2 (by omega)
          have hend3 : ((k : Int) + 1 + 1 != (k : Int) + 2) = false := by simp [hend]
          clear hW hC hok hops hroom hep lok hlb e2 W2 C2 q2 k2 o2 e3 W3 C3 q3 k3 o3 hx hlast hxl hep2 lok2 hend
          go_wp2_with fail
          refine ca.mono ?_
          rintro e w3 ⟨rfl, L3, r3, f3⟩
          have B3 := hbw.trans (f3.below _ (Nat.le_refl _) (Nat.le_of_lt hqN))
          have c3 := hcW w3 B3
          clear ca f3 hL hR
          go_wp2_with fail
          refine (num_any _ _).mono ?_
          rintro e w' ⟨rfl, rfl⟩
          go_wp2_with fail
          refine (cb _ L3 r3).mono ?_
          rintro e w4 ⟨rfl, L4, r4, f4⟩
          have B4 := B3.trans (f4.below _ (Nat.le_refl _) (Nat.le_of_lt hqN))
          clear cb f4 L3 r3 c3 hcW
          go_wp2_with fail
          refine (num_any _ _).mono ?_
          rintro e w' ⟨rfl, rfl⟩
          go_wp2_with fail
          refine (cr _ L4).mono ?_
          rintro e w' ⟨rfl, rfl⟩
          go_wp2_with fail
          refine (ce _ L4).mono ?_
          rintro e w' ⟨rfl, rfl⟩
          clear cr ce
          have fin : ∃ k' : Nat, k' ≤ ss.length ∧ Value.int .i64 ((k : Int) + 1) = .int .i64 (k' : Int) ∧ BInv w.heap.size w.heap.size ss w q k' w4 :=
            ⟨k + 1, by omega, by go_num, ⟨m3, _, L4, r4, by rw [HL.out]; exact HW3.out, HC3.out, HK3.out, HO3.out, HR3.out, HEP.out⟩, B4⟩
          have FIN := Lib.hid fin
          rcases hreads with ⟨ht, hr0, hr1⟩ | ⟨ht, hr0, hr1⟩
          · have d0 := crd 0 w4 r4
            have d1 := crd 1 w4 r4
            rw [hr0] at d0
            rw [hr1] at d1
            obtain ⟨X, hX⟩ : ∃ X, tx (baseT (⟨1 - l.t, l.epoch + 1, 0, false⟩ : Lg).epoch x.data.toList []) = X := ⟨_, rfl⟩
            have hX1 := ne_empty hbne
            simp only at hX d0
            rw [hX] at hX1 d0
            have hX2 : X.toList.isEmpty = false := by
              cases hq : X.toList with
              | nil => rw [hq] at hX1; cases hX1
              | cons a b => rfl
            clear hr0 hr1 hX hbne crd fin L4 r4 ht
            go_wp2_with fail
            refine d0.mono ?_
            rintro e w' ⟨rfl, rfl⟩
            go_wp2_with fail
            refine d1.mono ?_
            rintro e w' ⟨rfl, rfl⟩
            go_wp2_with fail
            go_roundw
            case rel => exact FIN.out
            case measure => simp [intOf]; omega
          · have d0 := crd 0 w4 r4
            have d1 := crd 1 w4 r4
            rw [hr0] at d0
            rw [hr1] at d1
            obtain ⟨X, hX⟩ : ∃ X, tx (baseT (⟨1 - l.t, l.epoch + 1, 0, false⟩ : Lg).epoch x.data.toList []) = X := ⟨_, rfl⟩
            have hX1 := ne_empty hbne
            simp only at hX d1
            rw [hX] at hX1 d1
            have hX2 : X.toList.isEmpty = false := by
              cases hq : X.toList with
              | nil => rw [hq] at hX1; cases hX1
              | cons a b => rfl
            clear hr0 hr1 hX hbne crd fin L4 r4 ht
            go_wp2_with fail
            refine d0.mono ?_
            rintro e w' ⟨rfl, rfl⟩
            go_wp2_with fail
            refine d1.mono ?_
            rintro e w' ⟨rfl, rfl⟩
            go_wp2_with fail
            go_roundw
            case rel => exact FIN.out
            case measure => simp [intOf]; omega
        · obtain rfl : k = ss.length := by omega
          obtain ⟨n, hn⟩ : ∃ n, ss.length = n + 1 := ⟨ss.length - 1, by omega⟩
          have hcn := (hbw.cell (p := ⟨bb, o + n, none⟩) hb).trans (hc.out n (by omega))
          have hlast0 : lastB ss ss.length = lastB ss (n + 1) := congrArg (lastB ss) hn
          have hlast : lastB ss ss.length = ss[n].data.toList := hlast0.trans (by
            show ss[n]!.data.toList = _
            rw [getElem!_pos ss n (by omega)])
          obtain ⟨x, hx⟩ : ∃ x, ss[n] = x := ⟨_, rfl⟩
          rw [hx] at hcn hlast
          have k4 := hok.crash 0 0 0
          obtain ⟨m5, e5, W5, C5, q5⟩ := open_safe hW 0 0
          rw [hlast] at e5
          have cc := fun (wx : World) (hr : RP w.heap.size m wx) => c_crash 0 0 0 hr hok (by decide) (by decide) (by decide) (by decide)
          have co := fun (wx : World) (hr : RP w.heap.size (m.crash 0 0 0) wx) (hg : Good wx) => open_gives hr k4 (by show m.ops < _; omega) hg e5
          have hsub : ((ss.length : Int) - 1) = (n : Int) := by omega
          have hn0 : (0 : Int) ≤ (n : Int) := by omega
          have hn1 : (n : Int) < (ss.length : Int) := by omega
          clear hW hC hok hops hroom hep lok hlb k4 e5 W5 C5 q5 hx hlast hlast0 hn h1
          go_wp2_with fail
          refine (cc _ hR).mono ?_
          rintro e w3 ⟨rfl, r3, f3⟩
          have B3 := hbw.trans f3.below
          have c3 := (f3.below.cell (p := ⟨bb, o + n, none⟩) hb).trans hcn
          clear cc hR hL f3
          go_wp2_with fail
          refine (co _ r3 (hg.since h3 B3)).mono ?_
          rintro e w4 ⟨q4, B4', v4, rs4, rfl, hB4, hss4, L4, hq4, hS4, r4, f4⟩
          have B4 := B3.trans f4.below
          have c4 := (f4.below.cell (p := ⟨bb, o + n, none⟩) hb).trans c3
          obtain rfl : B4' = x := ba_ext hB4
          obtain rfl : rs4 = [] := texts_inj (by rw [hss4]; rfl)
          obtain ⟨A4, n4, rfl⟩ := hS4.form
          have cl := live_any w4 (hg.since h3 B4)
          have hself := eq_yes (rfl : B4' = B4')
          clear co hB4 hss4 hS4 L4 r4 f4 r3 c3 hcn
          go_wp2_with fail
          refine (num_any _ _).mono ?_
          rintro e w' ⟨rfl, rfl⟩
          go_wp2_with fail
          refine cl.mono ?_
          rintro e w5 ⟨rfl, b5⟩
          go_wp2_with fail
          go_ret
          exact ⟨rfl, B4.trans (b5.mono B4.size)⟩

theorem walk_bases (v : Value) (ss : List ByteArray) (w : World) (hv : SL w w.heap.size v ss) (hl : ss.length ≤ 140737488355328) (hs : ∀ s ∈ ss, s.size ≤ 140737488355328) (hg : Good w) :
    Calls Tryd.prog 6 #[v] w fun e w' => e = .returned (.bool true) ∧ Below w.heap.size w w' := by
  by_cases h : ss.length = 0 ∨ 50 < ss.length ∨ 8000 < tot ss ss.length
  · exact bases_big v ss w hv hl hs hg h
  · exact bases_small v ss w hv hg (by omega) (by omega) (by omega)

end Go.Proofs.YtdgnbiekklmafaaDoor.Rl

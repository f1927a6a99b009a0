/-
  The law LedgerAll, walked: it answers true, at every argument. Conditions: the form's own reach; the library's variables hold what their types allow.
-/
import Derived.Test.YtdgnbiekklmafaaDoorLists
namespace Go.Proofs.YtdgnbiekklmafaaDoor.Rl
open Go.RowKit
open Go.Proofs.YtdgnbiekklmafaaDoor.M (pageT kBase kRec inR tellT tell_len)

/-- the round's state: the ledger with its base and the first k records -/
structure AInv (N b : Nat) (ss : List ByteArray) (bs : ByteArray) (w : World) (q k : Nat) (wr : World) : Prop where
  ex : ∃ (m : M) (l : Lg), LP q b l wr ∧ RP b m wr ∧ Whole m l bs.data.toList (texts (ss.take k)) ∧ Calm m ∧ m.ok ∧ m.ops ≤ 7 + 2 * k ∧ m.room = 4194304 ∧ l.epoch = 2 ∧ l.n = k
  below : Below N w wr

set_option maxHeartbeats 8000000 in
set_option maxRecDepth 100000 in
theorem all_big (v : Value) (ss : List ByteArray) (bs : ByteArray) (w : World) (hv : SL w w.heap.size v ss) (hl : ss.length ≤ 140737488355328) (hs : ∀ s ∈ ss, s.size ≤ 140737488355328) (hg : Good w)
    (hbs : bs.size ≤ 140737488355328) (hbig : 50 < ss.length ∨ 8000 < bs.size + tot ss ss.length) : Calls Tryd.prog 5 #[v, .string bs] w fun e w' => e = .returned (.bool true) ∧ Below w.heap.size w w' := by
  have cl := live_any w hg
  obtain ⟨A, c, rfl⟩ := hv.form
  have HB := Lib.hid hbig
  clear hbig
  go_enter Tryd.func5, Tryd.ntmps5
  go_wp2_with fail
  go_loop [5, 6] (fun vn vi => ∃ k : Nat, k ≤ ss.length ∧ k ≤ 51 ∧ vi = .int .i64 (k : Int) ∧ vn = .int .i64 ((bs.size + tot ss k : Nat) : Int) ∧ bs.size + tot ss k ≤ 281474976718700) (fun _ vi => ss.length - (intOf vi).toNat)
  case atStart => exact ⟨0, by omega, by omega, rfl, by rw [tot_zero]; rfl, by rw [tot_zero]; omega⟩
  case round =>
    obtain ⟨k, hk, hk51, rfl, rfl, htk⟩ := hrel
    obtain ⟨T, hT⟩ : ∃ T, bs.size + tot ss k = T := ⟨_, rfl⟩
    rw [hT] at htk ⊢
    by_cases h1 : k < ss.length
    · have h1i : (k : Int) < (ss.length : Int) := by omega
      by_cases h2 : k ≤ 50
      · have h2i : (k : Int) ≤ 50 := by omega
        by_cases h3 : T ≤ 8000
        · have h3i : (T : Int) ≤ 8000 := by omega
          obtain ⟨b, o, c', hv', hb, hc⟩ := SL.at' hv h1
          injection hv' with hA
          subst hA
          have hck := hc k h1
          have hsz := hs ss[k] (List.getElem_mem h1)
          have hsucc : bs.size + tot ss (k + 1) = T + ss[k].size := by rw [tot_succ ss k h1]; omega
          obtain ⟨x, hx⟩ : ∃ x, ss[k] = x := ⟨_, rfl⟩
          rw [hx] at hck hsz hsucc
          have HS := Lib.hid hsucc
          clear hc hx hsucc hT
          go_wp2_with fail
          go_round
          case rel => exact ⟨k + 1, by omega, by omega, by go_num, by rw [HS.out]; go_num, by rw [HS.out]; omega⟩
          case measure => simp [intOf]; omega
        · have h3i : ¬ (T : Int) ≤ 8000 := by omega
          have h3j : (8000 : Int) < (T : Int) := by omega
          clear hT
          by_cases h50 : 50 < ss.length
          · have h5 : (50 : Int) < (ss.length : Int) := by omega
            go_wp2_with fail
            refine cl.mono ?_
            rintro e w1 ⟨rfl, b1⟩
            go_wp2_with fail
            go_ret
            exact ⟨rfl, b1⟩
          · have h5 : ¬ (50 : Int) < (ss.length : Int) := by omega
            go_wp2_with fail
            refine cl.mono ?_
            rintro e w1 ⟨rfl, b1⟩
            go_wp2_with fail
            go_ret
            exact ⟨rfl, b1⟩
      · have h2i : ¬ (k : Int) ≤ 50 := by omega
        have h5 : (50 : Int) < (ss.length : Int) := by omega
        clear hT
        go_wp2_with fail
        refine cl.mono ?_
        rintro e w1 ⟨rfl, b1⟩
        go_wp2_with fail
        go_ret
        exact ⟨rfl, b1⟩
    · obtain rfl : k = ss.length := by omega
      by_cases h50 : 50 < ss.length
      · have h5 : (50 : Int) < (ss.length : Int) := by omega
        clear hT
        go_wp2_with fail
        refine cl.mono ?_
        rintro e w1 ⟨rfl, b1⟩
        go_wp2_with fail
        go_ret
        exact ⟨rfl, b1⟩
      · have h5 : ¬ (50 : Int) < (ss.length : Int) := by omega
        have h8 : (8000 : Int) < (T : Int) := by
          rcases HB.out with h | h
          · exact absurd h h50
          · rw [hT] at h; omega
        clear hT
        go_wp2_with fail
        refine cl.mono ?_
        rintro e w1 ⟨rfl, b1⟩
        go_wp2_with fail
        go_ret
        exact ⟨rfl, b1⟩


set_option maxHeartbeats 16000000 in
set_option maxRecDepth 100000 in
theorem all_small (v : Value) (ss : List ByteArray) (bs : ByteArray) (w : World) (hv : SL w w.heap.size v ss) (hg : Good w) (h0 : 0 < ss.length)
    (h50 : ss.length ≤ 50) (ht : bs.size + tot ss ss.length ≤ 8000) : Calls Tryd.prog 5 #[v, .string bs] w fun e w' => e = .returned (.bool true) ∧ Below w.heap.size w w' := by
  have h3 := hg.size
  have hs : ∀ s ∈ ss, s.size ≤ 8000 := fun s h => by have := tot_mem ss h; omega
  have hbs : bs.data.toList.length ≤ 8000 := by simp; omega
  have hv2 := hv
  obtain ⟨bb, o, c, rfl, hb, hc0⟩ := SL.at' hv h0
  have hc := Lib.hid hc0
  clear hc0
  have h5 : ¬ (50 : Int) < (ss.length : Int) := by omega
  have cn := new_good 4194304 w (by decide)
  have k0 : (M.new 4194304).ok := M.ok.new (by decide)
  obtain ⟨m1, e1, W1, C1, q1⟩ := fresh (room := 4194304) (by decide)
  obtain ⟨k1, o1⟩ := openM_ok' k0 (by decide) e1
  have o1' : m1.ops ≤ 4 := by simpa [M.new] using o1
  have c1 := fun (b : Nat) (w : World) (hr : RP b (M.new 4194304) w) (hg : Good w) => open_gives hr k0 (by decide) hg e1
  obtain ⟨m2, e2, W2, C2, q2⟩ := base_calm W1 C1 bs.data.toList (W1.fine.next bs.data.toList (by omega) (by decide)) (by
    have := base_short (e := (2 : Int)) (x := bs.data.toList) (by decide) (by decide) (by omega)
    exact W1.fits (c := 8000) (k := 0) (by decide) (by simp) (by simp) (by decide) (by rw [q1]; simp at this hbs ⊢; omega))
  obtain ⟨k2, o2⟩ := baseM_ok' k1 (by omega) e2
  have lk1 := W1.ok
  have c2 := fun (q b : Nat) (w : World) (h : LP q b ⟨0, 1, 0, false⟩ w) (hr : RP b m1 w) => base_gives bs h hr k1 (by omega) lk1 rfl e2
  have hroom2 : m2.room = 4194304 := by rw [q2, q1]
  have HS := Lib.hid hs
  have HT := Lib.hid ht
  have HW := Lib.hid W2
  have HC := Lib.hid C2
  clear hs ht W1 C1 e1 o1 k0 W2 C2 e2 q1 q2 lk1
  go_enter Tryd.func5, Tryd.ntmps5
  go_wp2_with fail
  go_loop [5, 6] (fun vn vi => ∃ k : Nat, k ≤ ss.length ∧ vi = .int .i64 (k : Int) ∧ vn = .int .i64 ((bs.size + tot ss k : Nat) : Int)) (fun _ vi => ss.length - (intOf vi).toNat)
  case atStart => exact ⟨0, by omega, rfl, by rw [tot_zero]; rfl⟩
  case round =>
    obtain ⟨k, hk, rfl, rfl⟩ := hrel
    have hmono := tot_mono ss hk
    have htot := HT.out
    obtain ⟨T, hT⟩ : ∃ T, bs.size + tot ss k = T := ⟨_, rfl⟩
    rw [hT]
    have hT8 : T ≤ 8000 := by omega
    have h3i : (T : Int) ≤ 8000 := by omega
    have h3j : ¬ (8000 : Int) < (T : Int) := by omega
    have h2i : (k : Int) ≤ 50 := by omega
    clear htot hmono
    by_cases h1 : k < ss.length
    · have h1i : (k : Int) < (ss.length : Int) := by omega
      have hck := hc.out k h1
      have hsz := HS.out ss[k] (List.getElem_mem h1)
      have hsucc : bs.size + tot ss (k + 1) = T + ss[k].size := by rw [tot_succ ss k h1]; omega
      obtain ⟨x, hx⟩ : ∃ x, ss[k] = x := ⟨_, rfl⟩
      rw [hx] at hck hsz hsucc
      have HSU := Lib.hid hsucc
      clear hx hsucc hT
      go_wp2_with fail
      go_round
      case rel => exact ⟨k + 1, by omega, by go_num, by rw [HSU.out]; go_num⟩
      case measure => simp [intOf]; omega
    · obtain rfl : k = ss.length := by omega
      clear hT h1 hk
      go_wp2_with fail
      refine cn.mono ?_
      rintro e w1 ⟨rfl, r1, b1, hsz1⟩
      clear cn
      go_wp2_with fail
      refine (num_any _ _).mono ?_
      rintro e w' ⟨rfl, rfl⟩
      go_wp2_with fail
      refine (c1 _ _ r1 (hg.since h3 b1)).mono ?_
      rintro e w2 ⟨q, B, v, rs, rfl, hB, hss, L2, hq, hSR, r2, f2⟩
      have b2 := b1.trans f2.below
      have hqN : w.heap.size < q := by omega
      clear c1 r1 f2 hSR hB hss b1 hq hsz1
      go_wp2_with fail
      refine (num_any _ _).mono ?_
      rintro e w' ⟨rfl, rfl⟩
      go_wp2_with fail
      refine (c2 _ _ _ L2 r2).mono ?_
      rintro e w3 ⟨rfl, L3, r3, f3⟩
      have b3 := b2.trans (f3.below _ (Nat.le_refl _) (Nat.le_of_lt hqN))
      clear c2 L2 r2 f3 b2
      go_wp2_with fail
      refine (num_any _ _).mono ?_
      rintro e w' ⟨rfl, rfl⟩
      go_wp2_with fail
      go_loopw [13] (fun vi wr => ∃ k : Nat, k ≤ ss.length ∧ vi = .int .i64 (k : Int) ∧ AInv w.heap.size w.heap.size ss bs w q k wr) (fun vi _ => ss.length - (intOf vi).toNat)
      case atStart => exact ⟨0, by omega, rfl, ⟨m2, _, L3, r3, HW.out, HC.out, k2, by omega, hroom2, rfl, rfl⟩, b3⟩
      case round =>
        clear r3 L3 b3
        obtain ⟨k, hk, rfl, ⟨m, l, hL, hR, hW, hC, hok, hops, hroom, hep, hn⟩, hbw⟩ := hrel
        have lok := hW.ok
        by_cases h1 : k < ss.length
        · have h1i : (k : Int) < (ss.length : Int) := by omega
          have hcW := (hbw.cell (p := ⟨bb, o + k, none⟩) hb).trans (hc.out k h1)
          have hsz := HS.out ss[k] (List.getElem_mem h1)
          have htk : texts (ss.take (k + 1)) = texts (ss.take k) ++ [ss[k].data.toList] := texts_take_succ ss k h1
          have htl : (texts (ss.take k)).length = k := by rw [texts_length, List.length_take]; omega
          have hall : ∀ x ∈ texts (ss.take k), x.length ≤ 8000 := by
            intro x hx
            obtain ⟨s, hs, rfl⟩ := List.mem_map.1 hx
            have := HS.out s (List.mem_of_mem_take hs)
            simpa using this
          obtain ⟨x, hx⟩ : ∃ x, ss[k] = x := ⟨_, rfl⟩
          rw [hx] at hcW hsz htk
          have hxl : x.data.toList.length ≤ 8000 := by simpa using hsz
          obtain ⟨m3, e3, W3, C3, q3⟩ := add_calm hW hC x.data.toList (hW.fine.snoc x.data.toList (by omega) (by rw [htl]; omega)) (by
            rw [htl]
            have := rec_short (n := k) (x := x.data.toList) (by omega) (by omega)
            exact hW.fits (c := 8000) (k := 50) hbs hall (by rw [htl]; omega) (by decide) (by rw [hroom]; omega))
          obtain ⟨k3, o3⟩ := addM_ok' hok (by omega) e3
          have ca := add_gives x hL hR hok (by omega) lok rfl e3
          have cr : ∀ (wx : World), LP q w.heap.size { l with n := l.n + 1 } wx → Calls Tryd.prog 19 #[ptr q] wx fun r w' => r = .returned (.int .i64 ((k : Int) + 1)) ∧ wx = w' := fun wx h => by
            have := l_records h
            simp only at this
            rw [hn] at this
            push_cast at this
            exact this
          rw [← htk] at W3
          have FIN := Lib.hid (show ∀ w4, LP q w.heap.size { l with n := l.n + 1 } w4 → RP w.heap.size m3 w4 → Below w.heap.size w w4 → (∃ k' : Nat, k' ≤ ss.length ∧ Value.int .i64 ((k : Int) + 1) = .int .i64 (k' : Int) ∧ AInv w.heap.size w.heap.size ss bs w q k' w4) from
            fun w4 h1' h2' h3' => ⟨k + 1, by omega, by go_num, ⟨m3, _, h1', h2', W3, C3, k3, by omega, by rw [q3, hroom], hep, by simp only; rw [hn]⟩, h3'⟩)
          clear hW hC hok hops hroom hep lok e3 W3 C3 q3 k3 o3 hx hxl htk htl hall hn
          go_wp2_with fail
          refine ca.mono ?_
          rintro e w4 ⟨rfl, L4, r4, f4⟩
          have B4 := hbw.trans (f4.below _ (Nat.le_refl _) (Nat.le_of_lt hqN))
          clear ca f4 hL hR
          go_wp2_with fail
          refine (num_any _ _).mono ?_
          rintro e w' ⟨rfl, rfl⟩
          go_wp2_with fail
          refine (cr _ L4).mono ?_
          rintro e w' ⟨rfl, rfl⟩
          clear cr
          have fin := Lib.hid (FIN.out w4 L4 r4 B4)
          clear L4 r4 FIN
          go_wp2_with fail
          go_roundw
          case rel => exact fin.out
          case measure => simp [intOf]; omega
        · obtain rfl : k = ss.length := by omega
          have htake : texts (ss.take ss.length) = texts ss := by rw [List.take_length]
          rw [htake] at hW
          have k4 := hok.crash 0 0 0
          obtain ⟨m5, e5, W5, C5, q5⟩ := open_safe hW 0 0
          have cc := fun (wx : World) (hr : RP w.heap.size m wx) => c_crash 0 0 0 hr hok (by decide) (by decide) (by decide) (by decide)
          have co := fun (wx : World) (hr : RP w.heap.size (m.crash 0 0 0) wx) (hg : Good wx) => open_gives hr k4 (by show m.ops < _; omega) hg e5
          have HEP := Lib.hid hep
          have HN := Lib.hid hn
          clear hW hC hok hops hroom hep hn lok k4 e5 W5 C5 q5 h1 htake
          go_wp2_with fail
          refine (cc _ hR).mono ?_
          rintro e w4 ⟨rfl, r4, f4⟩
          have B4 := hbw.trans f4.below
          clear cc hR hL f4
          go_wp2_with fail
          refine (co _ r4 (hg.since h3 B4)).mono ?_
          rintro e w5 ⟨q5, B5', v5, rs5, rfl, hB5, hss5, L5, hq5, hS5, r5, f5⟩
          have B5 := B4.trans f5.below
          obtain rfl : B5' = bs := ba_ext hB5
          obtain rfl : rs5 = ss := texts_inj hss5
          have hsl5 := hS5.sl
          obtain ⟨A5, n5, rfl⟩ := hS5.form
          have hvW := (hv2.below B5).more B5.size
          have hself := eq_yes (rfl : B5' = B5')
          have csm := same_any _ _ rs5 rs5 w5 hsl5 hvW (by omega) (by omega)
          rw [decide_eq_true (rfl : rs5 = rs5)] at csm
          clear co hB5 hss5 hS5 f5 r4 hsl5 hvW
          go_wp2_with fail
          refine (num_any _ _).mono ?_
          rintro e w' ⟨rfl, rfl⟩
          go_wp2_with fail
          refine csm.mono ?_
          rintro e w6 ⟨rfl, b6⟩
          have L6 := L5.below b6
          have B6 := B5.trans (b6.mono B5.size)
          have ce := l_epoch L6
          rw [HEP.out] at ce
          have crr := l_records L6
          rw [HN.out] at crr
          have cl := live_any w6 (hg.since h3 B6)
          clear csm L5 r5 b6 L6
          go_wp2_with fail
          refine ce.mono ?_
          rintro e w' ⟨rfl, rfl⟩
          go_wp2_with fail
          refine crr.mono ?_
          rintro e w' ⟨rfl, rfl⟩
          go_wp2_with fail
          refine cl.mono ?_
          rintro e w7 ⟨rfl, b7⟩
          go_wp2_with fail
          go_ret
          exact ⟨rfl, B6.trans (b7.mono B6.size)⟩

set_option maxHeartbeats 16000000 in
set_option maxRecDepth 100000 in
theorem all_small0 (A : Option Addr) (c : Nat) (bs : ByteArray) (w : World) (hg : Good w) (ht : bs.size ≤ 8000) : Calls Tryd.prog 5 #[.slice A 0 c, .string bs] w fun e w' => e = .returned (.bool true) ∧ Below w.heap.size w w' := by
  have h3 := hg.size
  have hbs : bs.data.toList.length ≤ 8000 := by simp; omega
  have hv2 : SL w w.heap.size (.slice A 0 c) [] := ⟨A, c, rfl, fun h => absurd h (by simp)⟩
  have cn := new_good 4194304 w (by decide)
  have k0 : (M.new 4194304).ok := M.ok.new (by decide)
  obtain ⟨m1, e1, W1, C1, q1⟩ := fresh (room := 4194304) (by decide)
  obtain ⟨k1, o1⟩ := openM_ok' k0 (by decide) e1
  have o1' : m1.ops ≤ 4 := by simpa [M.new] using o1
  have c1 := fun (b : Nat) (w : World) (hr : RP b (M.new 4194304) w) (hg : Good w) => open_gives hr k0 (by decide) hg e1
  obtain ⟨m2, e2, W2, C2, q2⟩ := base_calm W1 C1 bs.data.toList (W1.fine.next bs.data.toList (by omega) (by decide)) (by
    have := base_short (e := (2 : Int)) (x := bs.data.toList) (by decide) (by decide) (by omega)
    exact W1.fits (c := 8000) (k := 0) (by decide) (by simp) (by simp) (by decide) (by rw [q1]; simp at this hbs ⊢; omega))
  obtain ⟨k2, o2⟩ := baseM_ok' k1 (by omega) e2
  have lk1 := W1.ok
  have c2 := fun (q b : Nat) (w : World) (h : LP q b ⟨0, 1, 0, false⟩ w) (hr : RP b m1 w) => base_gives bs h hr k1 (by omega) lk1 rfl e2
  have hroom2 : m2.room = 4194304 := by rw [q2, q1]
  have HW := Lib.hid W2
  have HC := Lib.hid C2
  clear W1 C1 e1 o1 k0 W2 C2 e2 q1 q2 lk1
  go_enter Tryd.func5, Tryd.ntmps5
  go_wp2_with fail
  go_loop [5, 6] (fun vn vi => vi = .int .i64 0 ∧ vn = .int .i64 (bs.size : Int)) (fun _ _ => 0)
  case atStart => exact ⟨rfl, rfl⟩
  case round =>
    obtain ⟨rfl, rfl⟩ := hrel
    have h3i : (bs.size : Int) ≤ 8000 := by omega
    have h3j : ¬ (8000 : Int) < (bs.size : Int) := by omega
    · clear ht
      go_wp2_with fail
      refine cn.mono ?_
      rintro e w1 ⟨rfl, r1, b1, hsz1⟩
      clear cn
      go_wp2_with fail
      refine (num_any _ _).mono ?_
      rintro e w' ⟨rfl, rfl⟩
      go_wp2_with fail
      refine (c1 _ _ r1 (hg.since h3 b1)).mono ?_
      rintro e w2 ⟨q, B, v, rs, rfl, hB, hss, L2, hq, hSR, r2, f2⟩
      have b2 := b1.trans f2.below
      have hqN : w.heap.size < q := by omega
      clear c1 r1 f2 hSR hB hss b1 hq hsz1
      go_wp2_with fail
      refine (num_any _ _).mono ?_
      rintro e w' ⟨rfl, rfl⟩
      go_wp2_with fail
      refine (c2 _ _ _ L2 r2).mono ?_
      rintro e w3 ⟨rfl, L3, r3, f3⟩
      have b3 := b2.trans (f3.below _ (Nat.le_refl _) (Nat.le_of_lt hqN))
      clear c2 L2 r2 f3 b2
      go_wp2_with fail
      refine (num_any _ _).mono ?_
      rintro e w' ⟨rfl, rfl⟩
      go_wp2_with fail
      go_loopw [13] (fun vi wr => vi = .int .i64 0 ∧ AInv w.heap.size w.heap.size [] bs w q 0 wr) (fun _ _ => 0)
      case atStart => exact ⟨rfl, ⟨m2, _, L3, r3, HW.out, HC.out, k2, by omega, hroom2, rfl, rfl⟩, b3⟩
      case round =>
        clear r3 L3 b3
        obtain ⟨rfl, ⟨m, l, hL, hR, hW, hC, hok, hops, hroom, hep, hn⟩, hbw⟩ := hrel
        have lok := hW.ok
        · skip
          have k4 := hok.crash 0 0 0
          obtain ⟨m5, e5, W5, C5, q5⟩ := open_safe hW 0 0
          have cc := fun (wx : World) (hr : RP w.heap.size m wx) => c_crash 0 0 0 hr hok (by decide) (by decide) (by decide) (by decide)
          have co := fun (wx : World) (hr : RP w.heap.size (m.crash 0 0 0) wx) (hg : Good wx) => open_gives hr k4 (by show m.ops < _; omega) hg e5
          have HEP := Lib.hid hep
          have HN := Lib.hid hn
          clear hW hC hok hops hroom hep hn lok k4 e5 W5 C5 q5
          go_wp2_with fail
          refine (cc _ hR).mono ?_
          rintro e w4 ⟨rfl, r4, f4⟩
          have B4 := hbw.trans f4.below
          clear cc hR hL f4
          go_wp2_with fail
          refine (co _ r4 (hg.since h3 B4)).mono ?_
          rintro e w5 ⟨q5, B5', v5, rs5, rfl, hB5, hss5, L5, hq5, hS5, r5, f5⟩
          have B5 := B4.trans f5.below
          obtain rfl : B5' = bs := ba_ext hB5
          obtain rfl : rs5 = [] := texts_inj (by rw [hss5]; rfl)
          have hsl5 := hS5.sl
          obtain ⟨A5, n5, rfl⟩ := hS5.form
          have hvW := (hv2.below B5).more B5.size
          have hself := eq_yes (rfl : B5' = B5')
          have csm := same_any _ _ [] [] w5 hsl5 hvW (by decide) (by decide)
          rw [decide_eq_true (rfl : ([] : List ByteArray) = [])] at csm
          clear co hB5 hss5 hS5 f5 r4 hsl5 hvW
          go_wp2_with fail
          refine (num_any _ _).mono ?_
          rintro e w' ⟨rfl, rfl⟩
          go_wp2_with fail
          refine csm.mono ?_
          rintro e w6 ⟨rfl, b6⟩
          have L6 := L5.below b6
          have B6 := B5.trans (b6.mono B5.size)
          have ce := l_epoch L6
          rw [HEP.out] at ce
          have crr := l_records L6
          rw [HN.out] at crr
          have cl := live_any w6 (hg.since h3 B6)
          clear csm L5 r5 b6 L6
          go_wp2_with fail
          refine ce.mono ?_
          rintro e w' ⟨rfl, rfl⟩
          go_wp2_with fail
          refine crr.mono ?_
          rintro e w' ⟨rfl, rfl⟩
          go_wp2_with fail
          refine cl.mono ?_
          rintro e w7 ⟨rfl, b7⟩
          go_wp2_with fail
          go_ret
          exact ⟨rfl, B6.trans (b7.mono B6.size)⟩

theorem walk_all (v : Value) (ss : List ByteArray) (bs : ByteArray) (w : World) (hv : SL w w.heap.size v ss) (hl : ss.length ≤ 140737488355328) (hs : ∀ s ∈ ss, s.size ≤ 140737488355328) (hbs : bs.size ≤ 140737488355328) (hg : Good w) :
    Calls Tryd.prog 5 #[v, .string bs] w fun e w' => e = .returned (.bool true) ∧ Below w.heap.size w w' := by
  by_cases h : 50 < ss.length ∨ 8000 < bs.size + tot ss ss.length
  · exact all_big v ss bs w hv hl hs hg hbs h
  · by_cases h0 : ss.length = 0
    · obtain rfl : ss = [] := List.length_eq_zero_iff.1 h0
      obtain ⟨A, c, rfl⟩ := hv.form
      exact all_small0 A c bs w hg (by simp [tot] at h; omega)
    · exact all_small v ss bs w hv hg (by omega) (by omega) (by omega)

end Go.Proofs.YtdgnbiekklmafaaDoor.Rl

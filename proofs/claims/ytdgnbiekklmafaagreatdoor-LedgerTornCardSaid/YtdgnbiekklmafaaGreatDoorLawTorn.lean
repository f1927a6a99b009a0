/-
  The law LedgerTorn, walked: it answers true, at every argument. Conditions: the form's own reach; a slice's length is no more than its room; the library's variables hold what their types allow.
-/
import Derived.Test.YtdgnbiekklmafaaGreatDoorTornM
namespace Go.Proofs.YtdgnbiekklmafaaGreatDoor.Rl
open Go.RowKit
open Go.Proofs.YtdgnbiekklmafaaGreatDoor.M (pageT kBase kRec inR tellT tell_len tapeT tapeT_nil torn_take torn_set)

set_option maxHeartbeats 8000000 in
set_option maxRecDepth 100000 in
theorem torn_big (v : Value) (ss : List ByteArray) (p : Int) (C : UInt8) (w : World) (hv : SL w w.heap.size v ss) (hl : ss.length ≤ 140737488355328) (hs : ∀ s ∈ ss, s.size ≤ 140737488355328) (hg : Good w)
    (hbig : 50 < ss.length ∨ 8000 < tot ss ss.length ∨ p < 0) : Calls Tryz.prog 4 #[v, .int .i64 p, .int .u8 (C.toNat : Int)] w fun e w' => e = .returned (.bool true) ∧ Below w.heap.size w w' := by
  have cl := live_any w hg
  obtain ⟨A, c, rfl⟩ := hv.form
  have HB := Lib.hid hbig
  clear hbig
  go_enter Tryz.func4, Tryz.ntmps4
  go_wp2_with fail
  go_loop [7, 8] (fun vn vi => ∃ k : Nat, k ≤ ss.length ∧ k ≤ 51 ∧ vi = .int .i64 (k : Int) ∧ vn = .int .i64 (tot ss k : Int) ∧ tot ss k ≤ 140737488363328) (fun _ vi => ss.length - (intOf vi).toNat)
  case atStart => exact ⟨0, by omega, by omega, rfl, rfl, by rw [tot_zero]; omega⟩
  case round =>
    obtain ⟨k, hk, hk51, rfl, rfl, htk⟩ := hrel
    obtain ⟨T, hT⟩ : ∃ T, tot ss k = T := ⟨_, rfl⟩
    rw [hT] at htk ⊢
    by_cases h1 : k < ss.length
    · have h1i : (k : Int) < (ss.length : Int) := by omega
      by_cases h2 : k ≤ 50
      · have h2i : (k : Int) ≤ 50 := by omega
        by_cases h3 : T ≤ 8000
        · have h3i : (T : Int) ≤ 8000 := by omega
          obtain ⟨b, o, c', hv', hb, hc⟩ := SL.at' hv h1
          injection hv' with hA
          subst hA
          have hck := hc k h1
          have hsz := hs ss[k] (List.getElem_mem h1)
          have hsucc := tot_succ ss k h1
          rw [hT] at hsucc
          obtain ⟨x, hx⟩ : ∃ x, ss[k] = x := ⟨_, rfl⟩
          rw [hx] at hck hsz hsucc
          have HS := Lib.hid hsucc
          clear hc hx hsucc hT
          go_wp2_with fail
          go_round
          case rel => exact ⟨k + 1, by omega, by omega, by go_num, by rw [HS.out]; go_num, by rw [HS.out]; omega⟩
          case measure => simp [intOf]; omega
        · have h3i : ¬ (T : Int) ≤ 8000 := by omega
          have h3j : (8000 : Int) < (T : Int) := by omega
          clear hT
          by_cases h50 : 50 < ss.length
          · have h5 : (50 : Int) < (ss.length : Int) := by omega
            go_wp2_with fail
            refine cl.mono ?_
            rintro e w1 ⟨rfl, b1⟩
            go_wp2_with fail
            go_ret
            exact ⟨rfl, b1⟩
          · have h5 : ¬ (50 : Int) < (ss.length : Int) := by omega
            go_wp2_with fail
            refine cl.mono ?_
            rintro e w1 ⟨rfl, b1⟩
            go_wp2_with fail
            go_ret
            exact ⟨rfl, b1⟩
      · have h2i : ¬ (k : Int) ≤ 50 := by omega
        have h5 : (50 : Int) < (ss.length : Int) := by omega
        clear hT
        go_wp2_with fail
        refine cl.mono ?_
        rintro e w1 ⟨rfl, b1⟩
        go_wp2_with fail
        go_ret
        exact ⟨rfl, b1⟩
    · obtain rfl : k = ss.length := by omega
      by_cases h50 : 50 < ss.length
      · have h5 : (50 : Int) < (ss.length : Int) := by omega
        clear hT
        go_wp2_with fail
        refine cl.mono ?_
        rintro e w1 ⟨rfl, b1⟩
        go_wp2_with fail
        go_ret
        exact ⟨rfl, b1⟩
      · have h5 : ¬ (50 : Int) < (ss.length : Int) := by omega
        by_cases h8 : 8000 < T
        · have h8i : (8000 : Int) < (T : Int) := by omega
          clear hT
          go_wp2_with fail
          refine cl.mono ?_
          rintro e w1 ⟨rfl, b1⟩
          go_wp2_with fail
          go_ret
          exact ⟨rfl, b1⟩
        · have h8i : ¬ (8000 : Int) < (T : Int) := by omega
          have hp : p < 0 := by
            rcases HB.out with h | h | h
            · exact absurd h h50
            · rw [hT] at h; exact absurd h h8
            · exact h
          clear hT
          go_wp2_with fail
          refine cl.mono ?_
          rintro e w1 ⟨rfl, b1⟩
          go_wp2_with fail
          go_ret
          exact ⟨rfl, b1⟩

/-- the first page -/
theorem first_page : ∃ S0 : ByteArray, S0.data.toList = tapeT [98] [] ∧ S0.size ≤ 400 ∧ 0 < S0.size ∧ ∀ w, Calls Tryz.prog 26 #[.string ⟨#[98, 97, 115, 101]⟩, .int .i64 1, .string ⟨#[98]⟩] w fun e w' => e = .returned (.string S0) ∧ Below w.heap.size w w' := by
  refine ⟨⟨(tapeT [98] []).toArray⟩, rfl, ?_, ?_, fun w => ?_⟩
  · have := base_short (e := 1) (x := [98]) (by decide) (by decide) (by decide)
    show (tapeT [98] []).length ≤ 400
    rw [tapeT_nil]
    simp at this; omega
  · show 0 < (tapeT [98] []).length
    have := baseT_ne 1 [98] []
    exact List.length_pos_iff.2 this
  · rw [tapeT_nil]
    exact rpage_any ⟨#[98, 97, 115, 101]⟩ ⟨#[98]⟩ 1 w (by unfold inR; omega) (by decide) (by decide)
/-- a record's page -/
theorem next_page (ss : List ByteArray) (k : Nat) (hk : k < ss.length) (h50 : ss.length ≤ 50) (hs : ∀ s ∈ ss, s.size ≤ 8000) : ∃ P : ByteArray, P.size ≤ 8120 ∧ tapeT [98] (texts (ss.take (k + 1))) = tapeT [98] (texts (ss.take k)) ++ P.data.toList ∧
    ∀ w, Calls Tryz.prog 26 #[.string ⟨#[114, 101, 99]⟩, .int .i64 ((k : Int) + 1), .string ss[k]] w fun e w' => e = .returned (.string P) ∧ Below w.heap.size w w' := by
  have hx := hs ss[k] (List.getElem_mem hk)
  refine ⟨⟨(pageT kRec ((k : Int) + 1) ss[k].data.toList).toArray⟩, ?_, tape_succ ss k hk, fun w => ?_⟩
  · have := rec_short (n := k) (x := ss[k].data.toList) (by omega) (by simp; omega)
    show (pageT kRec ((k : Int) + 1) ss[k].data.toList).length ≤ 8120
    simp at this; omega
  · exact rpage_any ⟨#[114, 101, 99]⟩ ss[k] ((k : Int) + 1) w (by unfold inR; omega) (by decide) (by omega)

set_option maxHeartbeats 8000000 in
set_option maxRecDepth 100000 in
theorem torn_small0 (A : Option Addr) (c : Nat) (p : Nat) (C : UInt8) (w : World) (hg : Good w) : Calls Tryz.prog 4 #[.slice A 0 c, .int .i64 (p : Int), .int .u8 (C.toNat : Int)] w fun e w' => e = .returned (.bool true) ∧ Below w.heap.size w w' := by
  have h3 := hg.size
  obtain ⟨S0, hS0, hS1, hS2, c0⟩ := first_page
  have hp : ¬ (p : Int) < 0 := by omega
  clear hS0
  go_enter Tryz.func4, Tryz.ntmps4
  go_wp2_with fail
  go_loop [7, 8] (fun vn vi => vi = .int .i64 0 ∧ vn = .int .i64 0) (fun _ _ => 0)
  case atStart => exact ⟨rfl, rfl⟩
  case round =>
    obtain ⟨rfl, rfl⟩ := hrel
    go_wp2_with fail
    refine (c0 _).mono ?_
    rintro e w1 ⟨rfl, b1⟩
    clear c0
    go_wp2_with fail
    go_loop [9, 11, 12] (fun vs ve vi => vi = .int .i64 0 ∧ vs = .string S0 ∧ ve = .slice none 0 0) (fun _ _ _ => 0)
    case atStart => exact ⟨rfl, rfl, rfl⟩
    case round =>
      obtain ⟨rfl, rfl, rfl⟩ := hrel
      have cl := live_any w1 (hg.since h3 b1)
      by_cases hlow : p < S0.size
      · have h1 : (p : Int) < (S0.size : Int) := by omega
        go_wp2_with fail
        refine cl.mono ?_
        rintro e w2 ⟨rfl, b2⟩
        go_wp2_with fail
        go_ret
        exact ⟨rfl, b1.trans (b2.mono b1.size)⟩
      · have h1 : ¬ (p : Int) < (S0.size : Int) := by omega
        have h2 : (S0.size : Int) ≤ (p : Int) := by omega
        go_wp2_with fail
        refine cl.mono ?_
        rintro e w2 ⟨rfl, b2⟩
        go_wp2_with fail
        go_ret
        exact ⟨rfl, b1.trans (b2.mono b1.size)⟩

set_option maxHeartbeats 16000000 in
set_option maxRecDepth 100000 in
theorem torn_small (v : Value) (ss : List ByteArray) (p : Nat) (C : UInt8) (w : World) (hv : SL w w.heap.size v ss) (hcap : ∀ A n c, v = .slice A n c → n ≤ c) (hg : Good w) (h0 : 0 < ss.length) (h50 : ss.length ≤ 50) (ht : tot ss ss.length ≤ 8000) :
    Calls Tryz.prog 4 #[v, .int .i64 (p : Int), .int .u8 (C.toNat : Int)] w fun e w' => e = .returned (.bool true) ∧ Below w.heap.size w w' := by
  have h3 := hg.size
  have hs : ∀ s ∈ ss, s.size ≤ 8000 := fun s h => Nat.le_trans (tot_mem ss h) ht
  have hv2 := hv
  obtain ⟨bb, o, c, rfl, hb, hc0⟩ := SL.at' hv h0
  have hc := Lib.hid hc0
  clear hc0
  have hcap' : ss.length ≤ c := hcap _ _ _ rfl
  clear hcap
  obtain ⟨i0, hi, hz0, hz1, hz2⟩ := info_parts infoInt
  obtain ⟨S0, hS0, hS1, hS2, c0⟩ := first_page
  have hp : ¬ (p : Int) < 0 := by omega
  have h5 : ¬ (50 : Int) < (ss.length : Int) := by omega
  have HS := Lib.hid hs
  have HT := Lib.hid ht
  have HS0 := Lib.hid hS0
  clear hs ht hS0
  go_enter Tryz.func4, Tryz.ntmps4
  go_wp2_with fail
  go_loop [7, 8] (fun vn vi => ∃ k : Nat, k ≤ ss.length ∧ vi = .int .i64 (k : Int) ∧ vn = .int .i64 (tot ss k : Int)) (fun _ vi => ss.length - (intOf vi).toNat)
  case atStart => exact ⟨0, by omega, rfl, rfl⟩
  case round =>
    obtain ⟨k, hk, rfl, rfl⟩ := hrel
    have hmono := tot_mono ss hk
    have htot := HT.out
    obtain ⟨T, hT⟩ : ∃ T, tot ss k = T := ⟨_, rfl⟩
    rw [hT] at hmono ⊢
    have hT8 : T ≤ 8000 := by omega
    have h3i : (T : Int) ≤ 8000 := by omega
    have h3j : ¬ (8000 : Int) < (T : Int) := by omega
    have h2i : (k : Int) ≤ 50 := by omega
    clear htot hmono
    by_cases h1 : k < ss.length
    · have h1i : (k : Int) < (ss.length : Int) := by omega
      have hck := hc.out k h1
      have hsz := HS.out ss[k] (List.getElem_mem h1)
      have hsucc := tot_succ ss k h1
      rw [hT] at hsucc
      obtain ⟨x, hx⟩ : ∃ x, ss[k] = x := ⟨_, rfl⟩
      rw [hx] at hck hsz hsucc
      have HSU := Lib.hid hsucc
      clear hx hsucc hT
      go_wp2_with fail
      go_round
      case rel => exact ⟨k + 1, by omega, by go_num, by rw [HSU.out]; go_num⟩
      case measure => simp [intOf]; omega
    · obtain rfl : k = ss.length := by omega
      clear hT h1 hk
      go_wp2_with fail
      refine (c0 _).mono ?_
      rintro e w1 ⟨rfl, b1⟩
      clear c0
      go_wp2_with fail
      go_loopw [9, 11, 12] (fun vs ve vi wr => ∃ (k : Nat) (S : ByteArray), k ≤ ss.length ∧ vi = .int .i64 (k : Int) ∧ vs = .string S ∧ Hid (S.data.toList = tapeT [98] (texts (ss.take k))) ∧ S.size ≤ 414120 ∧ NR w.heap.size ve (endsT ss k) wr ∧ Below w.heap.size w wr) (fun _ _ vi _ => ss.length - (intOf vi).toNat)
      case atStart => exact ⟨0, S0, by omega, rfl, rfl, by rw [HS0.out]; rfl, by omega, NR.nil _ _, b1⟩
      case round =>
        clear b1
        obtain ⟨k, S, hk, rfl, rfl, hS, hSz, hN, hbw⟩ := hrel
        obtain ⟨A, cz, rfl⟩ := hN.form
        have hzl := endsT_len ss k
        by_cases h1 : k < ss.length
        · have h1i : (k : Int) < (ss.length : Int) := by omega
          have hck := (hbw.cell (p := ⟨bb, o + k, none⟩) hb).trans (hc.out k h1)
          obtain ⟨P, hP1, hP2, cP⟩ := next_page ss k h1 h50 HS.out
          have hSP : (S ++ P).data.toList = tapeT [98] (texts (ss.take (k + 1))) := by rw [hP2, ← hS.out]; simp [ByteArray.data_append]
          have hSPz : (S ++ P).size ≤ 414120 := by
            have := tape_le h50 HS.out (k + 1)
            rw [← hSP] at this
            simpa using this
          have hzs : endsT ss (k + 1) = endsT ss k ++ [(S ++ P).size] := by rw [endsT_succ, ← hSP]; simp
          obtain ⟨zs, hzz⟩ : ∃ zs, endsT ss k = zs := ⟨_, rfl⟩
          rw [hzz] at hN hzs hzl
          rw [hzz]
          obtain ⟨x, hx⟩ : ∃ x, ss[k] = x := ⟨_, rfl⟩
          rw [hx] at hck cP
          have HZ := Lib.hid hzs
          have HSP := Lib.hid hSP
          have HZL := Lib.hid hzl
          clear hx hzz hzs hSP hP2 hS hzl
          go_wp2_with fail
          refine (cP _).mono ?_
          rintro e w2 ⟨rfl, b2⟩
          have B2 := hbw.trans (b2.mono hbw.size)
          have O2 : w2.ownsRow w.heap.size 3 1 (.slice A zs.length cz) zs.length (zs.map fun (z : Nat) => Value.int .i64 (z : Int)) := hN.below b2
          clear cP hck hN b2
          go_wp2_with (at_builtin; refine wpList_append_own _ rfl _ _ 48 rfl w.heap.size 3 i0 (.int .i64 0) 1 8 Tryz.underlying48 hi hz0 hz1 hz2 rfl (by decide) _ _ _ rfl (O2.alloc _) ⟨w2.heap.size, 0, none⟩ 1 1 [.int .i64 (((S ++ P).size : Nat) : Int)] rfl rfl ?c1 ?c2 ?c3 ?c4 ?c5 ?_)
          case c1 =>
            intro j u hj
            match j, hj with
            | 0, hj => simp at hj; subst hj; simp [Addr.add]
          case c2 => intro u hu; simp at hu; subst hu; rfl
          case c3 => have := HZL.out; unfold maxLen; omega
          case c4 => have := HZL.out; omega
          case c5 => have := B2.size; simp; omega
          intro v' w3 O3 hgrow _
          have B3 : Below w.heap.size w w3 := (B2.alloc B2.size _).grown hgrow (by have := B2.size; simp; omega) (fun k hk => (O2.lt k hk).1)
          have N3 : NR w.heap.size v' (endsT ss (k + 1)) w3 := by rw [HZ.out]; unfold NR; simpa using O3
          clear O3 hgrow O2 B2
          go_wp2_with fail
          go_roundw
          case rel => exact ⟨k + 1, S ++ P, by omega, by go_num, rfl, HSP.out, hSPz, N3, B3⟩
          case measure => simp [intOf]; omega
        · obtain rfl : k = ss.length := by omega
          rename World => wr
          have cl := live_any wr (hg.since h3 hbw)
          by_cases hlow : p < S0.size
          · have l1 : (p : Int) < (S0.size : Int) := by omega
            go_wp2_with fail
            refine cl.mono ?_
            rintro e w2 ⟨rfl, b2⟩
            go_wp2_with fail
            go_ret
            exact ⟨rfl, hbw.trans (b2.mono hbw.size)⟩
          · have l1 : ¬ (p : Int) < (S0.size : Int) := by omega
            by_cases hhigh : S.size ≤ p
            · have l2 : (S.size : Int) ≤ (p : Int) := by omega
              go_wp2_with fail
              refine cl.mono ?_
              rintro e w2 ⟨rfl, b2⟩
              go_wp2_with fail
              go_ret
              exact ⟨rfl, hbw.trans (b2.mono hbw.size)⟩
            · have l2 : ¬ (S.size : Int) ≤ (p : Int) := by omega
              clear cl
              obtain ⟨g, cz', hvz, hgb, hcz⟩ := hN.cells (by omega)
              injection hvz with hA
              subst hA
              have HCZ := Lib.hid hcz
              have hS' : S.data.toList = tapeT [98] (texts ss) := by have := hS.out; rw [List.take_length] at this; exact this
              have HSS := Lib.hid hS'
              have HN := Lib.hid hN
              clear hcz hN hS hS'
              go_wp2_with fail
              go_loop [13] (fun vi => ∃ k : Nat, k ≤ ss.length ∧ vi = .int .i64 (k : Int) ∧ (tapeT [98] (texts (ss.take k))).length ≤ p) (fun vi => ss.length - (intOf vi).toNat)
              case atStart => exact ⟨0, by omega, rfl, by show (tapeT [98] []).length ≤ p; rw [← HS0.out]; simp; omega⟩
              case round =>
                obtain ⟨K, hK, rfl, hle⟩ := hrel
                have hK1 : K < ss.length := by
                  rcases Nat.lt_or_ge K ss.length with h | h
                  · exact h
                  · exfalso
                    obtain rfl : K = ss.length := by omega
                    rw [List.take_length, ← HSS.out] at hle
                    simp at hle; omega
                have hzl1 : (K : Int) < ((endsT ss ss.length).length : Int) := by omega
                have hcell := HCZ.out K (by omega)
                have hzK : (endsT ss ss.length)[K]'(by omega) = (tapeT [98] (texts (ss.take (K + 1)))).length := by simp [endsT]
                rw [hzK] at hcell
                obtain ⟨z, hz⟩ : ∃ z, (tapeT [98] (texts (ss.take (K + 1)))).length = z := ⟨_, rfl⟩
                rw [hz] at hcell
                clear hzK
                have hK1i : (K : Int) < (ss.length : Int) := by omega
                by_cases hzp : z ≤ p
                · have hzi : (z : Int) ≤ (p : Int) := by omega
                  have HZZ := Lib.hid hz
                  clear hz
                  go_wp2_with fail
                  go_round
                  case rel => exact ⟨K + 1, by omega, by go_num, by rw [HZZ.out]; exact hzp⟩
                  case measure => simp [intOf]; omega
                · have hzi : ¬ (z : Int) ≤ (p : Int) := by omega
                  have hpS : p < S.size := by omega
                  have hSl : S.data.toList.length = S.size := by simp
                  have hfine := fine_torn h50 HS.out K
                  have htl : (texts (ss.take K)).length = K := by rw [texts_length, List.length_take]; omega
                  have etk : ∀ j, (texts ss).take j = texts (ss.take j) := fun j => by simp [texts, List.map_take]
                  have hall : ∀ x ∈ texts ss, x.length ≤ 524288 := by
                    intro x hx
                    obtain ⟨s, h1, rfl⟩ := List.mem_map.1 hx
                    have := HS.out s h1
                    simp; omega
                  have hKt : K < (texts ss).length := by rw [texts_length]; exact hK1
                  have k0 : (M.new 4194304).ok := M.ok.new (by decide)
                  obtain ⟨cap, w6, hcv, hNew, hsize⟩ := new_row' wr S
                  have b6 := hbw.trans (hNew.below.mono hbw.size)
                  have hcap6 := hNew.le
                  by_cases hC : C = 0
                  · subst hC
                    have htake := torn_take (b := [98]) (l := texts ss) (by decide) hall (by rw [texts_length]; omega) (k := K) (cut := p) hKt (by rw [etk]; exact hle) (by rw [etk, hz]; omega)
                    obtain ⟨pp, hpp, hsc⟩ := htake
                    rw [etk] at hpp hsc
                    rw [← HSS.out] at hpp
                    obtain ⟨V, hVd⟩ : ∃ V : ByteArray, V.data.toList = S.data.toList.take p := ⟨⟨(S.data.toList.take p).toArray⟩, rfl⟩
                    have hVp := hVd.trans hpp
                    have hVl : V.data.toList.length = p := by rw [hVd, List.length_take]; omega
                    have back : ∀ w8, Below w6.heap.size w6 w8 → (convert 61 9 (.slice (some ⟨wr.heap.size, 0, none⟩) p cap)).run Tryz.prog w8 = .ok (.string V) w8 := by
                      intro w8 f8
                      have := row_text (w := w8) (g := wr.heap.size) (cap := cap) V.data.toList (fun j hj => by
                        rw [f8.cell (p := ⟨wr.heap.size, j, none⟩) (by show wr.heap.size < _; omega), hNew.cell j (by omega), getD_list _ _ (by omega)]
                        congr 3
                        simp [hVd])
                      rw [hVl] at this
                      exact this
                    have hpc : (p : Int) ≤ (cap : Int) := by omega
                    clear hpp hNew
                    have hVs : V.size ≤ 414120 := by have : V.data.toList.length = V.size := by simp
                                                     rw [hVd] at this; simp at this; omega
                    have hL8 : ∀ x ∈ texts (ss.take K), x.length ≤ 8000 := by
                      intro x hx
                      obtain ⟨s, h1, rfl⟩ := List.mem_map.1 hx
                      have := HS.out s (List.mem_of_mem_take h1)
                      simpa using this
                    obtain ⟨m1, m2, m', m4, CT⟩ := torn_calls hVp hsc hVs hfine htl (by omega) hL8
                    have cw := CT.cw
                    have cs := CT.cs
                    have co := CT.co
                    have cr := CT.cr
                    have ca := CT.ca
                    have cn := new_good 4194304 w6 (by decide)
                    have hself := eq_yes (rfl : (⟨#[98]⟩ : ByteArray) = ⟨#[98]⟩)
                    have hKc : (K : Int) ≤ (c : Int) := by omega
                    have BK := Lib.hid back
                    have CW := Lib.hid cw
                    have CS := Lib.hid cs
                    have CO := Lib.hid co
                    have CR := Lib.hid cr
                    have CA := Lib.hid ca
                    clear hVp hsc hL8 CT hVd hall hfine etk hKt hz hle back cw cs co cr ca hv hSl hVl htl h0 h50 HSS HS HT HN HCZ HS0 hi hz0 hz1 hz2 hhigh hlow hk hp h5 h3i h3j h2i hT8 hSz hzl1 hzl hzp hpS hVs hsize l1 l2
                    go_wp2_with fail
                    refine cn.mono ?_
                    rintro e w8 ⟨rfl, r8, b8', hs8⟩
                    have b8 := b6.trans (b8'.mono b6.size)
                    have hbk := BK.out w8 b8'
                    clear cn BK b8'
                    go_wp2_with fail
                    refine (num_any _ _).mono ?_
                    rintro e w' ⟨rfl, rfl⟩
                    go_wp2_with fail
                    refine (CW.out _ _ r8).mono ?_
                    rintro e w9 ⟨rfl, r9, f9⟩
                    have b9 := b8.trans (f9.below.mono (by have := b6.size; omega))
                    clear CW r8 f9 hbk b8
                    go_wp2_with fail
                    refine (num_any _ _).mono ?_
                    rintro e w' ⟨rfl, rfl⟩
                    go_wp2_with fail
                    refine (CS.out _ _ r9).mono ?_
                    rintro e wa ⟨rfl, ra, fa⟩
                    have ba := b9.trans (fa.below.mono (by have := b6.size; omega))
                    clear CS r9 fa b9
                    go_wp2_with fail
                    refine (num_any _ _).mono ?_
                    rintro e w' ⟨rfl, rfl⟩
                    go_wp2_with fail
                    refine (CO.out _ _ ra (hg.since h3 ba)).mono ?_
                    rintro e wb ⟨q, B, vb, rs, rfl, hB, hss, Lb, hq, hSR, rb, fb⟩
                    have bb' := ba.trans (fb.below.mono (by have := b6.size; omega))
                    obtain rfl : B = ⟨#[98]⟩ := ba_ext hB
                    obtain rfl : rs = ss.take K := texts_inj hss
                    have hslb := hSR.sl
                    obtain ⟨Ab, nb, rfl⟩ := hSR.form
                    have hvb := ((SL.front hv2 (Nat.le_of_lt hK1)).below bb').more bb'.size
                    have hlk : (ss.take K).length = K := by rw [List.length_take]; omega
                    have csm := same_any _ _ (ss.take K) (ss.take K) wb hslb hvb (by omega) (by omega)
                    rw [decide_eq_true (rfl : ss.take K = ss.take K), hlk] at csm
                    have hqw : w.heap.size ≤ q := by have := ba.size; omega
                    clear CO hB hss hSR fb ra ba hslb hvb
                    go_wp2_with fail
                    refine (num_any _ _).mono ?_
                    rintro e w' ⟨rfl, rfl⟩
                    go_wp2_with fail
                    refine csm.mono ?_
                    rintro e wc ⟨rfl, bc⟩
                    have Lc := Lb.below bc
                    have rc := rb.below bc
                    have Bc := bb'.trans (bc.mono bb'.size)
                    clear csm Lb rb bc bb'
                    go_wp2_with fail
                    refine (CR.out _ _ _ Lc).mono ?_
                    rintro e w' ⟨rfl, rfl⟩
                    go_wp2_with fail
                    refine (CA.out _ _ _ Lc rc).mono ?_
                    rintro e wd ⟨rfl, Ld, rd, fd⟩
                    have Bd := Bc.trans (fd.below _ (by have := b6.size; omega) hqw)
                    have cl := live_any wd (hg.since h3 Bd)
                    clear CA CR Lc rc fd Ld rd
                    go_wp2_with fail
                    refine (num_any _ _).mono ?_
                    rintro e w' ⟨rfl, rfl⟩
                    go_wp2_with fail
                    refine cl.mono ?_
                    rintro e we ⟨rfl, be⟩
                    go_wp2_with fail
                    go_ret
                    exact ⟨rfl, Bd.trans (be.mono Bd.size)⟩
                  · have hCb : ((C.toNat : Int) == 0) = false := by
                      have : C.toNat ≠ 0 := fun h => hC (UInt8.toNat_inj.1 h)
                      simp; omega
                    obtain ⟨y, hy⟩ : ∃ y, y = S.data.toList.getD p 0 := ⟨_, rfl⟩
                    have hyg : S.data.toList[p]'(by omega) = y := by rw [hy, getD_list _ _ (by omega)]
                    have hset := torn_set (b := [98]) (l := texts ss) (by decide) hall (by rw [texts_length]; omega) (k := K) (cut := p) hKt (by rw [etk]; exact hle) (by rw [etk, hz]; omega) (y ^^^ C) (by
                      intro h e
                      have e2 : (tapeT [98] (texts ss))[p] = y := by rw [← hyg]; congr 1; exact HSS.out.symm
                      rw [e2] at e
                      apply hC
                      have : y ^^^ (y ^^^ C) = y ^^^ y := by rw [← e]
                      simpa [← UInt8.xor_assoc] using this)
                    obtain ⟨pp, hpp, hsc⟩ := hset
                    rw [etk] at hpp hsc
                    rw [← HSS.out] at hpp
                    obtain ⟨V, hVd⟩ : ∃ V : ByteArray, V.data.toList = S.data.toList.set p (y ^^^ C) := ⟨⟨(S.data.toList.set p (y ^^^ C)).toArray⟩, rfl⟩
                    have hVp := hVd.trans hpp
                    have hVl : V.data.toList.length = S.size := by rw [hVd, List.length_set]; omega
                    have hx6 := hNew.cell p hpS
                    have hf6 := hNew.frozen p hpS
                    rw [← hy] at hx6
                    have b7 := b6.setCell (p := ⟨wr.heap.size, p, none⟩) hbw.size (.int .u8 (bits .xor .u8 (y.toNat : Int) (C.toNat : Int)))
                    have back : ∀ w8, Below w6.heap.size (w6.setCell ⟨wr.heap.size, p, none⟩ (.int .u8 (bits .xor .u8 (y.toNat : Int) (C.toNat : Int)))) w8 → (convert 61 9 (.slice (some ⟨wr.heap.size, 0, none⟩) S.size cap)).run Tryz.prog w8 = .ok (.string V) w8 := by
                      intro w8 f8
                      have := row_text (w := w8) (g := wr.heap.size) (cap := cap) V.data.toList (fun j hj => by
                        rw [f8.cell (p := ⟨wr.heap.size, j, none⟩) (by show wr.heap.size < _; omega)]
                        by_cases hjk : j = p
                        · subst hjk
                          rw [World.cell?_setCell_same _ _ _ hx6, xor_byte]
                          congr 3
                          simp [hVd]
                        · rw [World.cell?_setCell_other _ _ _ _ (by first | (simp; done) | (simp; omega)), hNew.cell j (by omega), getD_list _ _ (by omega)]
                          congr 3
                          simp only [hVd]
                          rw [List.getElem_set_ne (by omega)])
                      rw [hVl] at this
                      exact this
                    have hpl : (p : Int) < (S.size : Int) := by omega
                    have b6' := b6
                    clear hpp hNew hy hyg b6'
                    have hVs : V.size ≤ 414120 := by have : V.data.toList.length = V.size := by simp
                                                     rw [hVd] at this; simp at this; omega
                    have hL8 : ∀ x ∈ texts (ss.take K), x.length ≤ 8000 := by
                      intro x hx
                      obtain ⟨s, h1, rfl⟩ := List.mem_map.1 hx
                      have := HS.out s (List.mem_of_mem_take h1)
                      simpa using this
                    obtain ⟨m1, m2, m', m4, CT⟩ := torn_calls hVp hsc hVs hfine htl (by omega) hL8
                    have cw := CT.cw
                    have cs := CT.cs
                    have co := CT.co
                    have cr := CT.cr
                    have ca := CT.ca
                    have cn := new_good 4194304 (w6.setCell ⟨wr.heap.size, p, none⟩ (.int .u8 (bits .xor .u8 (y.toNat : Int) (C.toNat : Int)))) (by decide)
                    rw [show (w6.setCell ⟨wr.heap.size, p, none⟩ (.int .u8 (bits .xor .u8 (y.toNat : Int) (C.toNat : Int)))).heap.size = w6.heap.size by simp] at cn
                    have hself := eq_yes (rfl : (⟨#[98]⟩ : ByteArray) = ⟨#[98]⟩)
                    have hKc : (K : Int) ≤ (c : Int) := by omega
                    have BK := Lib.hid back
                    have CW := Lib.hid cw
                    have CS := Lib.hid cs
                    have CO := Lib.hid co
                    have CR := Lib.hid cr
                    have CA := Lib.hid ca
                    clear hVp hsc hL8 CT hVd hall hfine etk hKt hz hle back cw cs co cr ca hv hSl hVl htl h0 h50 HSS HS HT HN HCZ HS0 hi hz0 hz1 hz2 hhigh hlow hk hp h5 h3i h3j h2i hT8 hSz hzl1 hzl hzp hpS hVs hsize l1 l2
                    go_wp2_with fail
                    refine cn.mono ?_
                    rintro e w8 ⟨rfl, r8, b8', hs8⟩
                    have b8 := b7.trans (b8'.mono b6.size)
                    have hbk := BK.out w8 b8'
                    clear cn BK b8'
                    go_wp2_with fail
                    refine (num_any _ _).mono ?_
                    rintro e w' ⟨rfl, rfl⟩
                    go_wp2_with fail
                    refine (CW.out _ _ r8).mono ?_
                    rintro e w9 ⟨rfl, r9, f9⟩
                    have b9 := b8.trans (f9.below.mono (by have := b6.size; omega))
                    clear CW r8 f9 hbk b8
                    go_wp2_with fail
                    refine (num_any _ _).mono ?_
                    rintro e w' ⟨rfl, rfl⟩
                    go_wp2_with fail
                    refine (CS.out _ _ r9).mono ?_
                    rintro e wa ⟨rfl, ra, fa⟩
                    have ba := b9.trans (fa.below.mono (by have := b6.size; omega))
                    clear CS r9 fa b9
                    go_wp2_with fail
                    refine (num_any _ _).mono ?_
                    rintro e w' ⟨rfl, rfl⟩
                    go_wp2_with fail
                    refine (CO.out _ _ ra (hg.since h3 ba)).mono ?_
                    rintro e wb ⟨q, B, vb, rs, rfl, hB, hss, Lb, hq, hSR, rb, fb⟩
                    have bb' := ba.trans (fb.below.mono (by have := b6.size; omega))
                    obtain rfl : B = ⟨#[98]⟩ := ba_ext hB
                    obtain rfl : rs = ss.take K := texts_inj hss
                    have hslb := hSR.sl
                    obtain ⟨Ab, nb, rfl⟩ := hSR.form
                    have hvb := ((SL.front hv2 (Nat.le_of_lt hK1)).below bb').more bb'.size
                    have hlk : (ss.take K).length = K := by rw [List.length_take]; omega
                    have csm := same_any _ _ (ss.take K) (ss.take K) wb hslb hvb (by omega) (by omega)
                    rw [decide_eq_true (rfl : ss.take K = ss.take K), hlk] at csm
                    have hqw : w.heap.size ≤ q := by have := ba.size; omega
                    clear CO hB hss hSR fb ra ba hslb hvb
                    go_wp2_with fail
                    refine (num_any _ _).mono ?_
                    rintro e w' ⟨rfl, rfl⟩
                    go_wp2_with fail
                    refine csm.mono ?_
                    rintro e wc ⟨rfl, bc⟩
                    have Lc := Lb.below bc
                    have rc := rb.below bc
                    have Bc := bb'.trans (bc.mono bb'.size)
                    clear csm Lb rb bc bb'
                    go_wp2_with fail
                    refine (CR.out _ _ _ Lc).mono ?_
                    rintro e w' ⟨rfl, rfl⟩
                    go_wp2_with fail
                    refine (CA.out _ _ _ Lc rc).mono ?_
                    rintro e wd ⟨rfl, Ld, rd, fd⟩
                    have Bd := Bc.trans (fd.below _ (by have := b6.size; omega) hqw)
                    have cl := live_any wd (hg.since h3 Bd)
                    clear CA CR Lc rc fd Ld rd
                    go_wp2_with fail
                    refine (num_any _ _).mono ?_
                    rintro e w' ⟨rfl, rfl⟩
                    go_wp2_with fail
                    refine cl.mono ?_
                    rintro e we ⟨rfl, be⟩
                    go_wp2_with fail
                    go_ret
                    exact ⟨rfl, Bd.trans (be.mono Bd.size)⟩

theorem walk_torn (v : Value) (ss : List ByteArray) (p : Int) (C : UInt8) (w : World) (hv : SL w w.heap.size v ss) (hcap : ∀ A n c, v = .slice A n c → n ≤ c) (hl : ss.length ≤ 140737488355328) (hs : ∀ s ∈ ss, s.size ≤ 140737488355328) (hg : Good w) :
    Calls Tryz.prog 4 #[v, .int .i64 p, .int .u8 (C.toNat : Int)] w fun e w' => e = .returned (.bool true) ∧ Below w.heap.size w w' := by
  by_cases h : 50 < ss.length ∨ 8000 < tot ss ss.length ∨ p < 0
  · exact torn_big v ss p C w hv hl hs hg h
  · obtain ⟨n, rfl⟩ : ∃ n : Nat, p = (n : Int) := ⟨p.toNat, by omega⟩
    by_cases h0 : ss.length = 0
    · obtain ⟨A, c, rfl⟩ := hv.form
      rw [h0]
      exact torn_small0 A c n C w hg
    · exact torn_small v ss n C w hv hcap hg (by omega) (by omega) (by omega)

end Go.Proofs.YtdgnbiekklmafaaGreatDoor.Rl

/-
  The law BoundOnce, walked: it answers true, at every argument. Condition: lengths at most 2^47.
-/
import Derived.Test.YtbjgpcfimpmjiaaRows1
namespace Go.Proofs.Ytbjgpcfimpmjiaa
open Go.RowKit O

def piecesP (k : ByteArray) (p : Pair) : List Pair := if cutsB (B p.1 p.2) k.toList = true then [(p.1, k), (k, p.2)] else [p]
def recutL (k : ByteArray) : List Pair → List Pair
  | [] => []
  | p :: l => piecesP k p ++ recutL k l
theorem bds_append (a b : List Pair) : bds (a ++ b) = bds a ++ bds b := by simp [bds]
theorem bds_pieces (k : ByteArray) (p : Pair) : bds (piecesP k p) = pieces k.toList (B p.1 p.2) := by
  have hc : cutB (B p.1 p.2) k.toList = if cutsB (B p.1 p.2) k.toList = true then some (⟨p.1.toList, k.toList⟩, ⟨k.toList, p.2.toList⟩) else none := rfl
  unfold piecesP pieces
  rw [hc]
  by_cases h : cutsB (B p.1 p.2) k.toList = true
  · rw [if_pos h, if_pos h]; rfl
  · rw [if_neg h, if_neg h]; rfl
theorem bds_recut (k : ByteArray) : ∀ l : List Pair, bds (recutL k l) = recut k.toList (bds l)
  | [] => rfl
  | p :: l => by
    rw [recutL, bds_append, bds_pieces, bds_recut k l]; rfl
theorem recutL_append (k : ByteArray) : ∀ a b : List Pair, recutL k (a ++ b) = recutL k a ++ recutL k b
  | [], _ => rfl
  | p :: a, b => by rw [List.cons_append, recutL, recutL, recutL_append k a b, List.append_assoc]
theorem recutL_snoc (k : ByteArray) (l : List Pair) (i : Nat) (h : i < l.length) : recutL k (l.take (i + 1)) = recutL k (l.take i) ++ piecesP k l[i] := by
  rw [List.take_succ_eq_append_getElem h, recutL_append]
  simp [recutL]
theorem recutL_le (k : ByteArray) : ∀ l : List Pair, (recutL k l).length ≤ 2 * l.length
  | [] => by simp [recutL]
  | p :: l => by
    have := recutL_le k l
    have h2 : (piecesP k p).length ≤ 2 := by unfold piecesP; split <;> simp
    rw [recutL, List.length_append, List.length_cons]; omega
theorem recutL_small {k : ByteArray} {N : Nat} (hk : k.size ≤ N) : ∀ l : List Pair, (∀ p ∈ l, p.1.size ≤ N ∧ p.2.size ≤ N) → ∀ p ∈ recutL k l, p.1.size ≤ N ∧ p.2.size ≤ N
  | [], _, p, h => by cases h
  | q :: l, hl, p, h => by
    have hq := hl q (by simp)
    rcases List.mem_append.1 h with h | h
    · unfold piecesP at h
      split at h
      · simp only [List.mem_cons, List.not_mem_nil, or_false] at h
        rcases h with rfl | rfl
        · exact ⟨hq.1, hk⟩
        · exact ⟨hk, hq.2⟩
      · simp only [List.mem_cons, List.not_mem_nil, or_false] at h
        subst h; exact hq
    · exact recutL_small hk l (fun x hx => hl x (by simp [hx])) p h
/-- how many hold the text -/
def cnt (s : Text) (l : List Pair) : Nat := ((bds l).filter fun b => hasB b s).length
theorem cnt_snoc (s : Text) (l : List Pair) (i : Nat) (h : i < l.length) : cnt s (l.take (i + 1)) = cnt s (l.take i) + if hasB (B l[i].1 l[i].2) s = true then 1 else 0 := by
  unfold cnt
  rw [List.take_succ_eq_append_getElem h, bds_append, List.filter_append, List.length_append]
  congr 1
  show (List.filter (fun b => hasB b s) [B l[i].1 l[i].2]).length = _
  by_cases h : hasB (B l[i].1 l[i].2) s = true
  · simp [h]
  · simp [h]
theorem cnt_le (s : Text) (l : List Pair) : cnt s l ≤ l.length := by
  unfold cnt
  refine Nat.le_trans (List.length_filter_le _ _) (by simp [bds])

theorem own_below {w w' : World} {base n : Nat} {v : Value} {xs : List Value} (h : w.ownsRow base 23 2 v n xs) (hb : Below w.heap.size w w') : w'.ownsRow base 23 2 v n xs :=
  h.kept (row := none) ⟨hb.os, hb.tape, hb.output, hb.size, fun k hk _ => hb.block k hk⟩ (Classical.em _)

set_option maxHeartbeats 8000000 in
theorem once_main (v : Value) (bs : List Pair) (s k : ByteArray) (w : World) (hv : ArgSB w v bs) (h30 : ¬ 30 < bs.length) (hs : ∀ p ∈ bs, p.1.size ≤ 140737488355328 ∧ p.2.size ≤ 140737488355328)
    (h1 : ¬ 2000 < s.size) (h2 : ¬ 2000 < k.size) :
    Calls Try.prog 8 #[v, .string s, .string k] w fun e w' => e = .returned (.bool true) ∧ Below w.heap.size w w' := by
  obtain ⟨A, c, rfl⟩ := hv.sb.form
  have hlen : (bs.length : Int) ≤ 30 := by omega
  have HS := Lib.hid hs
  have cw := fun w hv => whole_any (.slice A bs.length c) bs w hv (by omega) hs
  have cw2 := fun v w hv => whole_any v (recutL k bs) w hv (by have := recutL_le k bs; omega) (recutL_small (by omega) bs hs)
  have hsb := hv.sb
  have W1 := fun h => whole_once (l := bds bs) h s.toList
  have W2 := fun h => whole_recut (l := bds bs) h k.toList
  rw [← bds_recut] at W2
  cases hR : wholeB (bds bs) with
  | false =>
    rw [hR] at cw
    clear hs hv hR W1 W2 cw2
    go_enter Try.func8, Try.ntmps8
    go_wp2_with fail
    go_loopw [7] (fun vi wr => ∃ i : Nat, i ≤ bs.length ∧ vi = .int .i64 (i : Int) ∧ Below w.heap.size w wr) (fun vi _ => bs.length - (intOf vi).toNat)
    case atStart => exact ⟨0, by omega, rfl, Below.refl _ _⟩
    case round =>
      obtain ⟨i, hi0, rfl, hbw⟩ := hrel
      have hbz := hbw.size
      by_cases hlt : i < bs.length
      · obtain ⟨b, o, rfl, hb, hc1, hc2⟩ := (hsb.below hbw).at_ hlt
        obtain ⟨hp1, hp2⟩ := HS.out bs[i] (List.getElem_mem hlt)
        obtain ⟨x, hx⟩ : ∃ x, bs[i].1 = x := ⟨_, rfl⟩
        obtain ⟨y, hy⟩ : ∃ y, bs[i].2 = y := ⟨_, rfl⟩
        rw [hx] at hc1 hp1
        rw [hy] at hc2 hp2
        clear hx hy
        have cc := fun w => small_any x y w hp1 hp2
        cases hi : smallB x y with
        | false =>
          rw [hi] at cc
          clear hi
          go_wp2_with fail
          refine (cc _).mono ?_
          rintro e w1 ⟨rfl, b1⟩
          have B1 := hbw.trans (b1.mono hbz)
          go_wp2_with fail
          refine (live_any _).mono ?_
          rintro e w2 ⟨rfl, b2⟩
          have B2 := B1.trans (b2.mono B1.size)
          go_wp2_with fail
          go_ret
          exact ⟨rfl, B2⟩
        | true =>
          rw [hi] at cc
          clear hi
          go_wp2_with fail
          refine (cc _).mono ?_
          rintro e w1 ⟨rfl, b1⟩
          have B1 := hbw.trans (b1.mono hbz)
          go_wp2_with fail
          go_roundw
          case rel => exact ⟨i + 1, by omega, by go_num, B1⟩
          case measure => simp [intOf]; omega
      · obtain rfl : i = bs.length := by omega
        go_wp2_with fail
        refine (cw _ ((hsb.below hbw).more hbw.size)).mono ?_
        rintro e w1 ⟨rfl, b1⟩
        have B1 := hbw.trans (b1.mono hbz)
        go_wp2_with fail
        refine (live_any _).mono ?_
        rintro e w2 ⟨rfl, b2⟩
        have B2 := B1.trans (b2.mono B1.size)
        go_wp2_with fail
        go_ret
        exact ⟨rfl, B2⟩
  | true =>
    rw [hR] at cw
    rw [W2 hR] at cw2
    have HC : Hid (cnt s.toList (bs.take bs.length) = 1) := Lib.hid (by rw [List.take_length]; exact W1 hR)
    clear hs hv hR W1 W2
    go_enter Try.func8, Try.ntmps8
    go_wp2_with fail
    go_loopw [7] (fun vi wr => ∃ i : Nat, i ≤ bs.length ∧ vi = .int .i64 (i : Int) ∧ Below w.heap.size w wr) (fun vi _ => bs.length - (intOf vi).toNat)
    case atStart => exact ⟨0, by omega, rfl, Below.refl _ _⟩
    case round =>
      obtain ⟨i, hi0, rfl, hbw⟩ := hrel
      have hbz := hbw.size
      by_cases hlt : i < bs.length
      · obtain ⟨b, o, rfl, hb, hc1, hc2⟩ := (hsb.below hbw).at_ hlt
        obtain ⟨hp1, hp2⟩ := HS.out bs[i] (List.getElem_mem hlt)
        obtain ⟨x, hx⟩ : ∃ x, bs[i].1 = x := ⟨_, rfl⟩
        obtain ⟨y, hy⟩ : ∃ y, bs[i].2 = y := ⟨_, rfl⟩
        rw [hx] at hc1 hp1
        rw [hy] at hc2 hp2
        clear hx hy
        have cc := fun w => small_any x y w hp1 hp2
        cases hi : smallB x y with
        | false =>
          rw [hi] at cc
          clear hi
          go_wp2_with fail
          refine (cc _).mono ?_
          rintro e w1 ⟨rfl, b1⟩
          have B1 := hbw.trans (b1.mono hbz)
          go_wp2_with fail
          refine (live_any _).mono ?_
          rintro e w2 ⟨rfl, b2⟩
          have B2 := B1.trans (b2.mono B1.size)
          go_wp2_with fail
          go_ret
          exact ⟨rfl, B2⟩
        | true =>
          rw [hi] at cc
          clear hi
          go_wp2_with fail
          refine (cc _).mono ?_
          rintro e w1 ⟨rfl, b1⟩
          have B1 := hbw.trans (b1.mono hbz)
          go_wp2_with fail
          go_roundw
          case rel => exact ⟨i + 1, by omega, by go_num, B1⟩
          case measure => simp [intOf]; omega
      · obtain rfl : i = bs.length := by omega
        go_wp2_with fail
        refine (cw _ ((hsb.below hbw).more hbw.size)).mono ?_
        rintro e w1 ⟨rfl, b1⟩
        have B1 := hbw.trans (b1.mono hbz)
        clear hbw b1 hbz
        go_wp2_with fail
        obtain ⟨wo, rfl⟩ : ∃ wo : World, wo = wr := ⟨_, rfl⟩
        go_loopw [8, 9, 10] (fun vn vm vi wr => ∃ i : Nat, i ≤ bs.length ∧ vi = .int .i64 (i : Int) ∧ vn = .int .i64 (cnt s.toList (bs.take i) : Int) ∧ wr.ownsRow w.heap.size 23 2 vm (recutL k (bs.take i)).length (cellsL (recutL k (bs.take i))) ∧ Below w.heap.size w wr) (fun _ _ vi _ => bs.length - (intOf vi).toNat)
        case atStart => exact ⟨0, by omega, rfl, rfl, ⟨rfl, .inl ⟨rfl, rfl⟩⟩, B1⟩
        case round =>
          obtain ⟨i, hi0, rfl, rfl, hown, hbw⟩ := hrel
          have hbz := hbw.size
          by_cases hlt : i < bs.length
          · obtain ⟨b, o, rfl, hb, hc1, hc2⟩ := (hsb.below hbw).at_ hlt
            obtain ⟨hp1, hp2⟩ := HS.out bs[i] (List.getElem_mem hlt)
            have hcn := cnt_snoc s.toList bs i hlt
            have hrc := recutL_snoc k bs i hlt
            have hrl := recutL_le k (bs.take i)
            have hcl := cnt_le s.toList (bs.take i)
            rw [List.length_take] at hrl hcl
            obtain ⟨x, hx⟩ : ∃ x, bs[i].1 = x := ⟨_, rfl⟩
            obtain ⟨y, hy⟩ : ∃ y, bs[i].2 = y := ⟨_, rfl⟩
            rw [show bs[i] = (x, y) by rw [← hx, ← hy]] at hrc hcn hc1 hc2 hp1 hp2
            clear hx hy
            have cH := fun w => has_any x y s w
            have cC := fun w => cut_any x y k w hp1 hp2 (by omega)
            have hbr : b < wr.heap.size := Nat.lt_of_lt_of_le hb hbz
            have hcb : (cnt s.toList (bs.take i) : Int) ≤ 30 := by omega
            cases hH : hasB (B x y) s.toList with
            | true =>
              rw [if_pos hH] at hcn
              rw [hH] at cH
              have HN := Lib.hid hcn
              cases hC : cutsB (B x y) k.toList with
              | true =>
                rw [show cutV x y k = .tuple #[bd x k, bd k y, .int .i64 0] by unfold cutV; rw [hC]; rfl] at cC
                rw [show piecesP k (x, y) = [(x, k), (k, y)] by unfold piecesP; rw [if_pos hC]] at hrc
                have HR2 := Lib.hid hrc
                clear hcn hrc hH hC
                go_wp2_with fail
                refine (cH _).mono ?_
                rintro e w1 ⟨rfl, b1⟩
                have B1 := hbw.trans (b1.mono hbz)
                have O1 := own_below hown b1
                have f1 := (b1.cell (p := ⟨b, o + i * 2, none⟩) hbr).trans hc1
                have f2 := (b1.cell (p := ⟨b, o + i * 2 + 1, none⟩) hbr).trans hc2
                have hbr1 : b < w1.heap.size := Nat.lt_of_lt_of_le hbr b1.size
                clear hown hc1 hc2 b1
                go_wp2_with fail
                refine (cC _).mono ?_
                rintro e w2 ⟨rfl, b2⟩
                have B2 := B1.trans (b2.mono B1.size)
                have O2 := own_below O1 b2
                have g1 := (b2.cell (p := ⟨b, o + i * 2, none⟩) hbr1).trans f1
                have g2 := (b2.cell (p := ⟨b, o + i * 2 + 1, none⟩) hbr1).trans f2
                have hbr2 : b < w2.heap.size := Nat.lt_of_lt_of_le hbr1 b2.size
                clear O1 f1 f2 b2
                have bAB : Below w2.heap.size w2 ((w2.alloc (.cells #[.string x, .string k] 23)).alloc (.cells #[.string k, .string y] 23)) := ((Below.refl _ w2).alloc (Nat.le_refl _) _).alloc (by simp) _
                have hy : ArgSB (((w2.alloc (.cells #[.string x, .string k] 23)).alloc (.cells #[.string k, .string y] 23)).alloc (.cells #[.string x, .string k, .string k, .string y] 23)) (.slice (some ⟨w2.heap.size + 1 + 1, 0, none⟩) 2 2) [(x, k), (k, y)] := by
                  have := SB.two ((w2.alloc (.cells #[.string x, .string k] 23)).alloc (.cells #[.string k, .string y] 23)) (x, k) (k, y)
                  simpa using this
                have bABC : Below w2.heap.size w2 (((w2.alloc (.cells #[.string x, .string k] 23)).alloc (.cells #[.string k, .string y] 23)).alloc (.cells #[.string x, .string k, .string k, .string y] 23)) := bAB.alloc (by simp; omega) _
                have O3 := own_below O2 bABC
                have B3 := B2.trans (bABC.mono B2.size)
                go_wp2_with fail
                refine (num_any _ _).mono ?_
                rintro e w' ⟨rfl, rfl⟩
                go_wp2_with (at_builtin; refine wpList_append_bds rfl (.tmp 72) (.tmp 75) rfl w.heap.size _ (recutL k (bs.take i)) rfl O3 B3.size _ [(x, k), (k, y)] rfl hy (by simp; omega) ?_; intro v4 w4 O4 b4 _)
                have B4 := B3.trans b4
                clear O2 O3 B3 bAB bABC hy b4 g1 g2
                go_wp2_with fail
                go_roundw
                case rel => exact ⟨i + 1, by omega, by go_num, by rw [HN.out]; go_num, by rw [HR2.out]; exact O4, B4⟩
                case measure => simp [intOf]; omega
              | false =>
                rw [show cutV x y k = .tuple #[bd E0 E0, bd E0 E0, .int .i64 20] by unfold cutV; rw [hC]; rfl] at cC
                rw [show piecesP k (x, y) = [(x, y)] by unfold piecesP; rw [if_neg (by rw [hC]; decide)]] at hrc
                have HR2 := Lib.hid hrc
                clear hcn hrc hH hC
                go_wp2_with fail
                refine (cH _).mono ?_
                rintro e w1 ⟨rfl, b1⟩
                have B1 := hbw.trans (b1.mono hbz)
                have O1 := own_below hown b1
                have f1 := (b1.cell (p := ⟨b, o + i * 2, none⟩) hbr).trans hc1
                have f2 := (b1.cell (p := ⟨b, o + i * 2 + 1, none⟩) hbr).trans hc2
                have hbr1 : b < w1.heap.size := Nat.lt_of_lt_of_le hbr b1.size
                clear hown hc1 hc2 b1
                go_wp2_with fail
                refine (cC _).mono ?_
                rintro e w2 ⟨rfl, b2⟩
                have B2 := B1.trans (b2.mono B1.size)
                have O2 := own_below O1 b2
                have g1 := (b2.cell (p := ⟨b, o + i * 2, none⟩) hbr1).trans f1
                have g2 := (b2.cell (p := ⟨b, o + i * 2 + 1, none⟩) hbr1).trans f2
                have hbr2 : b < w2.heap.size := Nat.lt_of_lt_of_le hbr1 b2.size
                clear O1 f1 f2 b2
                have bAB : Below w2.heap.size w2 ((w2.alloc (.cells #[.string E0, .string E0] 23)).alloc (.cells #[.string E0, .string E0] 23)) := ((Below.refl _ w2).alloc (Nat.le_refl _) _).alloc (by simp) _
                have hy : ArgSB (((w2.alloc (.cells #[.string E0, .string E0] 23)).alloc (.cells #[.string E0, .string E0] 23)).alloc (.cells #[.string x, .string y] 23)) (.slice (some ⟨w2.heap.size + 1 + 1, 0, none⟩) 1 1) [(x, y)] := by
                  have := SB.one ((w2.alloc (.cells #[.string E0, .string E0] 23)).alloc (.cells #[.string E0, .string E0] 23)) (x, y)
                  simpa using this
                have bABC : Below w2.heap.size w2 (((w2.alloc (.cells #[.string E0, .string E0] 23)).alloc (.cells #[.string E0, .string E0] 23)).alloc (.cells #[.string x, .string y] 23)) := bAB.alloc (by simp; omega) _
                have O3 := own_below O2 bABC
                have B3 := B2.trans (bABC.mono B2.size)
                go_wp2_with fail
                refine (num_any _ _).mono ?_
                rintro e w' ⟨rfl, rfl⟩
                go_wp2_with (at_builtin; refine wpList_append_bds rfl (.tmp 77) (.tmp 82) rfl w.heap.size _ (recutL k (bs.take i)) rfl O3 B3.size _ [(x, y)] rfl hy (by simp; omega) ?_; intro v4 w4 O4 b4 _)
                have B4 := B3.trans b4
                clear O2 O3 B3 bAB bABC hy b4 g1 g2
                go_wp2_with fail
                go_roundw
                case rel => exact ⟨i + 1, by omega, by go_num, by rw [HN.out]; go_num, by rw [HR2.out]; exact O4, B4⟩
                case measure => simp [intOf]; omega
            | false =>
              rw [if_neg (by rw [hH]; decide)] at hcn
              rw [hH] at cH
              have HN := Lib.hid hcn
              cases hC : cutsB (B x y) k.toList with
              | true =>
                rw [show cutV x y k = .tuple #[bd x k, bd k y, .int .i64 0] by unfold cutV; rw [hC]; rfl] at cC
                rw [show piecesP k (x, y) = [(x, k), (k, y)] by unfold piecesP; rw [if_pos hC]] at hrc
                have HR2 := Lib.hid hrc
                clear hcn hrc hH hC
                go_wp2_with fail
                refine (cH _).mono ?_
                rintro e w1 ⟨rfl, b1⟩
                have B1 := hbw.trans (b1.mono hbz)
                have O1 := own_below hown b1
                have f1 := (b1.cell (p := ⟨b, o + i * 2, none⟩) hbr).trans hc1
                have f2 := (b1.cell (p := ⟨b, o + i * 2 + 1, none⟩) hbr).trans hc2
                have hbr1 : b < w1.heap.size := Nat.lt_of_lt_of_le hbr b1.size
                clear hown hc1 hc2 b1
                go_wp2_with fail
                refine (cC _).mono ?_
                rintro e w2 ⟨rfl, b2⟩
                have B2 := B1.trans (b2.mono B1.size)
                have O2 := own_below O1 b2
                have g1 := (b2.cell (p := ⟨b, o + i * 2, none⟩) hbr1).trans f1
                have g2 := (b2.cell (p := ⟨b, o + i * 2 + 1, none⟩) hbr1).trans f2
                have hbr2 : b < w2.heap.size := Nat.lt_of_lt_of_le hbr1 b2.size
                clear O1 f1 f2 b2
                have bAB : Below w2.heap.size w2 ((w2.alloc (.cells #[.string x, .string k] 23)).alloc (.cells #[.string k, .string y] 23)) := ((Below.refl _ w2).alloc (Nat.le_refl _) _).alloc (by simp) _
                have hy : ArgSB (((w2.alloc (.cells #[.string x, .string k] 23)).alloc (.cells #[.string k, .string y] 23)).alloc (.cells #[.string x, .string k, .string k, .string y] 23)) (.slice (some ⟨w2.heap.size + 1 + 1, 0, none⟩) 2 2) [(x, k), (k, y)] := by
                  have := SB.two ((w2.alloc (.cells #[.string x, .string k] 23)).alloc (.cells #[.string k, .string y] 23)) (x, k) (k, y)
                  simpa using this
                have bABC : Below w2.heap.size w2 (((w2.alloc (.cells #[.string x, .string k] 23)).alloc (.cells #[.string k, .string y] 23)).alloc (.cells #[.string x, .string k, .string k, .string y] 23)) := bAB.alloc (by simp; omega) _
                have O3 := own_below O2 bABC
                have B3 := B2.trans (bABC.mono B2.size)
                go_wp2_with fail
                refine (num_any _ _).mono ?_
                rintro e w' ⟨rfl, rfl⟩
                go_wp2_with (at_builtin; refine wpList_append_bds rfl (.tmp 72) (.tmp 75) rfl w.heap.size _ (recutL k (bs.take i)) rfl O3 B3.size _ [(x, k), (k, y)] rfl hy (by simp; omega) ?_; intro v4 w4 O4 b4 _)
                have B4 := B3.trans b4
                clear O2 O3 B3 bAB bABC hy b4 g1 g2
                go_wp2_with fail
                go_roundw
                case rel => exact ⟨i + 1, by omega, by go_num, by rw [HN.out]; go_num, by rw [HR2.out]; exact O4, B4⟩
                case measure => simp [intOf]; omega
              | false =>
                rw [show cutV x y k = .tuple #[bd E0 E0, bd E0 E0, .int .i64 20] by unfold cutV; rw [hC]; rfl] at cC
                rw [show piecesP k (x, y) = [(x, y)] by unfold piecesP; rw [if_neg (by rw [hC]; decide)]] at hrc
                have HR2 := Lib.hid hrc
                clear hcn hrc hH hC
                go_wp2_with fail
                refine (cH _).mono ?_
                rintro e w1 ⟨rfl, b1⟩
                have B1 := hbw.trans (b1.mono hbz)
                have O1 := own_below hown b1
                have f1 := (b1.cell (p := ⟨b, o + i * 2, none⟩) hbr).trans hc1
                have f2 := (b1.cell (p := ⟨b, o + i * 2 + 1, none⟩) hbr).trans hc2
                have hbr1 : b < w1.heap.size := Nat.lt_of_lt_of_le hbr b1.size
                clear hown hc1 hc2 b1
                go_wp2_with fail
                refine (cC _).mono ?_
                rintro e w2 ⟨rfl, b2⟩
                have B2 := B1.trans (b2.mono B1.size)
                have O2 := own_below O1 b2
                have g1 := (b2.cell (p := ⟨b, o + i * 2, none⟩) hbr1).trans f1
                have g2 := (b2.cell (p := ⟨b, o + i * 2 + 1, none⟩) hbr1).trans f2
                have hbr2 : b < w2.heap.size := Nat.lt_of_lt_of_le hbr1 b2.size
                clear O1 f1 f2 b2
                have bAB : Below w2.heap.size w2 ((w2.alloc (.cells #[.string E0, .string E0] 23)).alloc (.cells #[.string E0, .string E0] 23)) := ((Below.refl _ w2).alloc (Nat.le_refl _) _).alloc (by simp) _
                have hy : ArgSB (((w2.alloc (.cells #[.string E0, .string E0] 23)).alloc (.cells #[.string E0, .string E0] 23)).alloc (.cells #[.string x, .string y] 23)) (.slice (some ⟨w2.heap.size + 1 + 1, 0, none⟩) 1 1) [(x, y)] := by
                  have := SB.one ((w2.alloc (.cells #[.string E0, .string E0] 23)).alloc (.cells #[.string E0, .string E0] 23)) (x, y)
                  simpa using this
                have bABC : Below w2.heap.size w2 (((w2.alloc (.cells #[.string E0, .string E0] 23)).alloc (.cells #[.string E0, .string E0] 23)).alloc (.cells #[.string x, .string y] 23)) := bAB.alloc (by simp; omega) _
                have O3 := own_below O2 bABC
                have B3 := B2.trans (bABC.mono B2.size)
                go_wp2_with fail
                refine (num_any _ _).mono ?_
                rintro e w' ⟨rfl, rfl⟩
                go_wp2_with (at_builtin; refine wpList_append_bds rfl (.tmp 77) (.tmp 82) rfl w.heap.size _ (recutL k (bs.take i)) rfl O3 B3.size _ [(x, y)] rfl hy (by simp; omega) ?_; intro v4 w4 O4 b4 _)
                have B4 := B3.trans b4
                clear O2 O3 B3 bAB bABC hy b4 g1 g2
                go_wp2_with fail
                go_roundw
                case rel => exact ⟨i + 1, by omega, by go_num, by rw [HN.out]; go_num, by rw [HR2.out]; exact O4, B4⟩
                case measure => simp [intOf]; omega
          · obtain rfl : i = bs.length := by omega
            have HC1 : Hid ((cnt s.toList (bs.take bs.length) : Int) = 1) := Lib.hid (by rw [HC.out]; rfl)
            rw [HC1.out, List.take_length] at *
            have hSB := SB.of_own hown
            go_wp2_with fail
            refine (cw2 _ _ hSB).mono ?_
            rintro e w2 ⟨rfl, b2⟩
            have B2 := hbw.trans (b2.mono hbz)
            go_wp2_with fail
            refine (live_any _).mono ?_
            rintro e w3 ⟨rfl, b3⟩
            have B3 := B2.trans (b3.mono B2.size)
            go_wp2_with fail
            go_ret
            exact ⟨rfl, B3⟩

set_option maxHeartbeats 4000000 in
theorem walk_once (v : Value) (bs : List Pair) (s k : ByteArray) (w : World) (hv : ArgSB w v bs) (hl : bs.length ≤ 140737488355328) (hs : ∀ p ∈ bs, p.1.size ≤ 140737488355328 ∧ p.2.size ≤ 140737488355328)
    (hs1 : s.size ≤ 140737488355328) (hk1 : k.size ≤ 140737488355328) :
    Calls Try.prog 8 #[v, .string s, .string k] w fun e w' => e = .returned (.bool true) ∧ Below w.heap.size w w' := by
  by_cases h30 : 30 < bs.length
  · obtain ⟨A, c, rfl⟩ := hv.sb.form
    clear hv hs
    go_enter Try.func8, Try.ntmps8
    go_wp2_with fail
    refine (live_any _).mono ?_
    rintro e w1 ⟨rfl, b1⟩
    go_wp2_with fail
    go_ret
    exact ⟨rfl, b1⟩
  · by_cases h1 : 2000 < s.size
    · obtain ⟨A, c, rfl⟩ := hv.sb.form
      clear hv hs
      go_enter Try.func8, Try.ntmps8
      go_wp2_with fail
      refine (live_any _).mono ?_
      rintro e w1 ⟨rfl, b1⟩
      go_wp2_with fail
      go_ret
      exact ⟨rfl, b1⟩
    · by_cases h2 : 2000 < k.size
      · obtain ⟨A, c, rfl⟩ := hv.sb.form
        clear hv hs
        go_enter Try.func8, Try.ntmps8
        go_wp2_with fail
        refine (live_any _).mono ?_
        rintro e w1 ⟨rfl, b1⟩
        go_wp2_with fail
        go_ret
        exact ⟨rfl, b1⟩
      · exact once_main v bs s k w hv h30 hs h1 h2

end Go.Proofs.Ytbjgpcfimpmjiaa

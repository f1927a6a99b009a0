/-
  The program's pages: first, begins, follows. Conditions: lengths at most 2^47 bytes; the library's variables hold what their types allow.
-/
import Derived.Test.YtglkapamkigdhaaGreatDoorKnotAll
import Derived.Test.YtglkapamkigdhaaGreatDoorPagesAll
import Derived.RegionTactic
import Derived.BigRegion
import Derived.Deep.RegionWith
namespace Go.Proofs.YtglkapamkigdhaaGreatDoor
open Go.RowKit M

/-- a page's value -/
abbrev pgV (k : ByteArray) (n : Int) (t : ByteArray) : Value := .agg #[.string k, .int .i64 n, .string t]
/-- what the page at the front is answered as -/
def pageV : Option (Text × Int × Text × Text) → Value
  | some (k, n, t, r) => .tuple #[.agg #[str k, .int .i64 n, str t], str r, .bool true]
  | none => .tuple #[.agg #[.string ⟨#[]⟩, .int .i64 0, .string ⟨#[]⟩], .string ⟨#[]⟩, .bool false]
theorem pcell {W w1 : World} (hb : Below W.heap.size W w1) : (∀ b o, b < W.heap.size → w1.cell? ⟨b, o, none⟩ = W.cell? ⟨b, o, none⟩) ∧ (∀ b o, b < W.heap.size → w1.frozen? ⟨b, o, none⟩ = W.frozen? ⟨b, o, none⟩) :=
  ⟨fun b o h => hb.cell (p := ⟨b, o, none⟩) h, fun b o h => hb.frozen (p := ⟨b, o, none⟩) h⟩
theorem one_box {w w1 : World} {o : Obj} (b : Below (w.alloc o).heap.size (w.alloc o) w1) : Below w.heap.size w w1 := ((Below.refl _ w).alloc (Nat.le_refl _) o).trans (b.mono (by simp))
theorem Good.since {B : Nat} {w w' : World} (h : Good w) (hB : 3 ≤ B) (hb : Below B w w') : Good w' := by
  obtain ⟨h0, h1, h2, h3⟩ := h
  refine ⟨Nat.le_trans h0 hb.size, ?_, ?_, ?_⟩
  · rw [hb.cell (p := ⟨1, 0, none⟩) (Nat.lt_of_lt_of_le (by decide) hB)]; exact h1
  · rw [hb.cell (p := ⟨2, 0, none⟩) (Nat.lt_of_lt_of_le (by decide) hB)]; exact h2
  · rw [hb.cell (p := ⟨0, 0, none⟩) (Nat.lt_of_lt_of_le (by decide) hB)]; exact h3
theorem ba_ext {a b : ByteArray} (h : a.data.toList = b.data.toList) : a = b := by
  obtain ⟨⟨x⟩⟩ := a
  obtain ⟨⟨y⟩⟩ := b
  have h : x = y := h
  rw [h]
theorem str_ba (b : ByteArray) : str b.data.toList = .string b := by
  show Value.string ⟨b.data.toList.toArray⟩ = _
  rw [ba_ext (a := ⟨b.data.toList.toArray⟩) (b := b) (by simp)]
theorem tie_mem_length {Y : Text} {k : Text} {m t : ByteArray} (h : Y = tieT [k, m.data.toList, t.data.toList] ∧ [k, m.data.toList, t.data.toList].length ≤ 4096 ∧ Y.length ≤ 1048576) : m.size ≤ 1048576 ∧ t.size ≤ 1048576 := by
  obtain ⟨h1, _, h3⟩ := h
  rw [h1, tieT_cons, tieT_cons, tieT_cons, List.length_append, List.length_append] at h3
  have e1 := strand_length m.data.toList
  have e2 := strand_length t.data.toList
  simp only [List.length_append] at h3
  simp at e1 e2
  omega
theorem three_parts (ss : List ByteArray) (h : ss.length = 3) : ∃ K m t, ss = [K, m, t] := by
  match ss, h with
  | [K, m, t], _ => exact ⟨K, m, t, rfl⟩

theorem SL.plain {w : World} {B : Nat} {v : Value} {ss : List ByteArray} (h : SL w B v ss) : ∃ (A : Option Addr) (c : Nat), v = .slice A ss.length c ∧ (0 < ss.length → ∃ b o : Nat, A = some ⟨b, o, none⟩ ∧ b < B ∧ ∀ i (h : i < ss.length), w.cell? ⟨b, o + i, none⟩ = some (.string ss[i])) := by
  obtain ⟨A, c, rfl, h⟩ := h
  refine ⟨A, c, rfl, fun h0 => ?_⟩
  obtain ⟨ad, rfl, hb, hc⟩ := h h0
  have hsp : ad.spot = none := by
    have g0 := hc 0 h0
    rw [Addr.add_zero'] at g0
    cases hs : ad.spot with
    | none => rfl
    | some q =>
      unfold World.cell? at g0
      rw [hs] at g0
      split at g0 <;> simp at g0
  obtain ⟨b, o, q⟩ := ad
  have hq : q = none := hsp
  subst hq
  exact ⟨b, o, rfl, hb, fun i hi => by have := hc i hi; rw [Addr.add_lit] at this; exact this⟩
theorem SL.three {w : World} {B : Nat} {v : Value} {K m t : ByteArray} (h : SL w B v [K, m, t]) :
    ∃ b o c : Nat, v = .slice (some ⟨b, o, none⟩) 3 c ∧ b < B ∧ w.cell? ⟨b, o, none⟩ = some (.string K) ∧ w.cell? ⟨b, o + 1, none⟩ = some (.string m) ∧ w.cell? ⟨b, o + 2, none⟩ = some (.string t) := by
  obtain ⟨A, c, hv, h2⟩ := h.plain
  subst hv
  obtain ⟨b, o, rfl, hb, hc⟩ := h2 (by simp)
  exact ⟨b, o, c, rfl, hb, hc 0 (by simp), hc 1 (by simp), hc 2 (by simp)⟩

set_option maxHeartbeats 4000000 in
set_option maxRecDepth 100000 in
theorem page_any (s : ByteArray) (w : World) (hs : s.size ≤ 140737488355328) (hg : Good w) :
    Calls Tryz.prog 74 #[.string s] w fun e w' => e = .returned (pageV (anyT s.data.toList)) ∧ Below w.heap.size w w' := by
  have hg1 := hg.alloc (.cells #[.string ⟨#[]⟩, .int .i64 0, .string ⟨#[]⟩] 88)
  have c1 := first_any s _ hs hg1
  have fin : ∀ {w1 : World}, Below (w.alloc (.cells #[.string ⟨#[]⟩, .int .i64 0, .string ⟨#[]⟩] 88)).heap.size (w.alloc (.cells #[.string ⟨#[]⟩, .int .i64 0, .string ⟨#[]⟩] 88)) w1 → Below w.heap.size w w1 := fun b => one_box b
  cases hf : firstT s.data.toList with
  | none =>
    rw [any_first hf]
    rw [hf] at c1
    unfold firstR at c1
    clear hf
    go_enter Tryz.func74, Tryz.ntmps74
    go_wp2_with fail
    refine c1.mono ?_
    rintro e w1 ⟨rfl, b1⟩
    obtain ⟨hc, hfz⟩ := pcell b1
    have hz : w.heap.size < w1.heap.size := by have := b1.size; simp at this; omega
    go_wp2_with fail
    exact bodyPost_ret (v := .tuple #[.agg #[.string ⟨#[]⟩, .int .i64 0, .string ⟨#[]⟩], .string ⟨#[]⟩, .bool false]) (by simp [results, Tryz.results74, go_sem, hc]) rfl ⟨rfl, (((fin b1).setCell (by simp) _).setCell (by simp) _).setCell (by simp) _⟩
  | some p =>
    obtain ⟨x, r⟩ := p
    obtain ⟨X, R, hfr, hX, hR⟩ := first_is s hf
    have hxl := (first_spec hf).2
    have hsn := strand_length x
    have hXs : X.size ≤ 1048576 := by have : X.data.toList.length = X.size := by simp
                                      rw [hX] at this; omega
    rw [hfr] at c1
    have c2 := fun w => open_any X w (by omega)
    rw [hX] at c2
    cases ho : openT x with
    | none =>
      rw [any_open hf ho]
      rw [ho] at c2
      unfold openR at c2
      clear hf ho hfr hxl hsn hX hR
      go_enter Tryz.func74, Tryz.ntmps74
      go_wp2_with fail
      refine c1.mono ?_
      rintro e w1 ⟨rfl, b1⟩
      go_wp2_with fail
      refine (c2 _).mono ?_
      rintro e w2 ⟨rfl, b2'⟩
      have b2 := b1.trans (b2'.mono b1.size)
      obtain ⟨hc, hfz⟩ := pcell b2
      have hz : w.heap.size < w2.heap.size := by have := b2.size; simp at this; omega
      clear b1 b2'
      go_wp2_with fail
      exact bodyPost_ret (v := .tuple #[.agg #[.string ⟨#[]⟩, .int .i64 0, .string ⟨#[]⟩], .string ⟨#[]⟩, .bool false]) (by simp [results, Tryz.results74, go_sem, hc]) rfl ⟨rfl, (((fin b2).setCell (by simp) _).setCell (by simp) _).setCell (by simp) _⟩
    | some y =>
      obtain ⟨Y, hY⟩ : ∃ Y : ByteArray, ⟨y.toArray⟩ = Y := ⟨_, rfl⟩
      obtain rfl : Y.data.toList = y := by rw [← hY]
      have hys : (sealT Y.data.toList).length = Y.data.toList.length + 8 := sealT_length _
      rw [open_spec ho] at hys
      have hYs : Y.size ≤ 1048576 := by have : Y.data.toList.length = Y.size := by simp
                                        omega
      rw [ho] at c2
      unfold openR at c2
      simp only [str_ba] at c2
      have c3 := fun w (h : Good w) => untie_any Y w (by omega) h
      cases hu : untieT Y.data.toList with
      | none =>
        rw [any_untie hf ho hu]
        rw [hu] at c3
        unfold UntieOut at c3
        clear hf ho hu hfr hxl hsn hX hR hys hY
        go_enter Tryz.func74, Tryz.ntmps74
        go_wp2_with fail
        refine c1.mono ?_
        rintro e w1 ⟨rfl, b1⟩
        go_wp2_with fail
        refine (c2 _).mono ?_
        rintro e w2 ⟨rfl, b2'⟩
        have b2 := b1.trans (b2'.mono b1.size)
        clear b2'
        go_wp2_with fail
        refine (c3 _ (hg1.below b2)).mono ?_
        rintro e w3 ⟨hout, b3'⟩
        have b3 := b2.trans (b3'.mono b2.size)
        clear b3'
        obtain rfl := hout
        obtain ⟨hc, hfz⟩ := pcell b3
        have hz : w.heap.size < w3.heap.size := by have := b3.size; simp at this; omega
        clear b1 b2
        go_wp2_with fail
        exact bodyPost_ret (v := .tuple #[.agg #[.string ⟨#[]⟩, .int .i64 0, .string ⟨#[]⟩], .string ⟨#[]⟩, .bool false]) (by simp [results, Tryz.results74, go_sem, hc]) rfl ⟨rfl, (((fin b3).setCell (by simp) _).setCell (by simp) _).setCell (by simp) _⟩
      | some l =>
        rw [hu] at c3
        unfold UntieOut at c3
        simp only at c3
        by_cases hl : l.length = 3
        · match l, hl with
          | [k, m, t], _ =>
            obtain ⟨Mm, hMm⟩ : ∃ Mm : ByteArray, ⟨m.toArray⟩ = Mm := ⟨_, rfl⟩
            obtain rfl : Mm.data.toList = m := by rw [← hMm]
            obtain ⟨T, hT⟩ : ∃ T : ByteArray, ⟨t.toArray⟩ = T := ⟨_, rfl⟩
            obtain rfl : T.data.toList = t := by rw [← hT]
            obtain ⟨K, hK⟩ : ∃ K : ByteArray, ⟨k.toArray⟩ = K := ⟨_, rfl⟩
            obtain rfl : K.data.toList = k := by rw [← hK]
            clear hMm hT hK
            have hlens := tie_mem_length (untie_spec hu)
            have hMs : Mm.size ≤ 1048576 := hlens.1
            have hTs : T.size ≤ 1048576 := hlens.2
            have c4 := fun w (h : Good w) => int_any Mm w (by omega) h
            have c3' : ∀ w, Good w → Calls Tryz.prog 84 #[.string Y] w fun e w' => (∃ (g o c : Nat), e = .returned (.tuple #[.slice (some ⟨g, o, none⟩) 3 c, .int .i64 0]) ∧ g < w'.heap.size ∧ w'.cell? ⟨g, o, none⟩ = some (.string K) ∧ w'.cell? ⟨g, o + 1, none⟩ = some (.string Mm) ∧ w'.cell? ⟨g, o + 2, none⟩ = some (.string T)) ∧ Below w.heap.size w w' := by
              intro w hgw
              refine (c3 w hgw).mono ?_
              rintro e w' ⟨⟨v, ss, rfl, hts, hsl⟩, hb⟩
              obtain ⟨K', M', T', rfl⟩ := three_parts ss (by rw [← texts_length, hts]; rfl)
              simp only [texts, List.map_cons, List.map_nil, List.cons.injEq, and_true] at hts
              obtain ⟨h1, h2, h3⟩ := hts
              obtain rfl := ba_ext h1
              obtain rfl := ba_ext h2
              obtain rfl := ba_ext h3
              obtain ⟨g, o, c, rfl, q⟩ := hsl.three
              exact ⟨⟨g, o, c, rfl, q⟩, hb⟩
            clear c3 hlens
            cases hi : intT Mm.data.toList with
            | none =>
              rw [any_int hf ho hu hi]
              rw [hi] at c4
              unfold intR at c4
              simp only at c4
              clear hf ho hu hfr hxl hsn hX hR hys hY hi
              go_enter Tryz.func74, Tryz.ntmps74
              go_wp2_with fail
              refine c1.mono ?_
              rintro e w1 ⟨rfl, b1⟩
              go_wp2_with fail
              refine (c2 _).mono ?_
              rintro e w2 ⟨rfl, b2'⟩
              have b2 := b1.trans (b2'.mono b1.size)
              clear b2'
              go_wp2_with fail
              refine (c3' _ (hg1.below b2)).mono ?_
              rintro e w3 ⟨⟨g, o, c, rfl, hadb, d0, d1, d2⟩, b3'⟩
              have b3 := b2.trans (b3'.mono b2.size)
              clear b3'
              go_wp2_with fail
              refine (c4 _ (hg1.below b3)).mono ?_
              rintro e w4 ⟨rfl, b4'⟩
              have b4 := b3.trans (b4'.mono b3.size)
              obtain ⟨hc, hfz⟩ := pcell b4
              have hz : w.heap.size < w4.heap.size := by have := b4.size; simp at this; omega
              clear b1 b2 b3
              go_wp2_with fail
              exact bodyPost_ret (v := .tuple #[.agg #[.string ⟨#[]⟩, .int .i64 0, .string ⟨#[]⟩], .string ⟨#[]⟩, .bool false]) (by simp [results, Tryz.results74, go_sem, hc]) rfl ⟨rfl, (((fin b4).setCell (by simp) _).setCell (by simp) _).setCell (by simp) _⟩
            | some n =>
              rw [hi] at c4
              unfold intR at c4
              simp only at c4
              by_cases ht : T.data.toList.length ≤ 524288
              · rw [any_good hf ho hu hi ht]
                have ht' : (T.size : Int) ≤ 524288 := by simp at ht; omega
                have hres : pageV (some (K.data.toList, n, T.data.toList, r)) = .tuple #[.agg #[.string K, .int .i64 n, .string T], .string R, .bool true] := by
                  unfold pageV; simp only; rw [str_ba, str_ba, ← hR, str_ba]
                rw [hres]
                clear hf ho hu hfr hxl hsn hX hR hys hY hi hres ht
                go_enter Tryz.func74, Tryz.ntmps74
                go_wp2_with fail
                refine c1.mono ?_
                rintro e w1 ⟨rfl, b1⟩
                go_wp2_with fail
                refine (c2 _).mono ?_
                rintro e w2 ⟨rfl, b2'⟩
                have b2 := b1.trans (b2'.mono b1.size)
                clear b2'
                go_wp2_with fail
                refine (c3' _ (hg1.below b2)).mono ?_
                rintro e w3 ⟨⟨g, o, c, rfl, hadb, d0, d1, d2⟩, b3'⟩
                have b3 := b2.trans (b3'.mono b2.size)
                clear b3'
                go_wp2_with fail
                refine (c4 _ (hg1.below b3)).mono ?_
                rintro e w4 ⟨rfl, b4'⟩
                have b4 := b3.trans (b4'.mono b3.size)
                obtain ⟨hc, hfz⟩ := pcell b4
                have hz : w.heap.size < w4.heap.size := by have := b4.size; simp at this; omega
                have e0 := (b4'.cell (p := ⟨g, o, none⟩) hadb).trans d0
                have e1 := (b4'.cell (p := ⟨g, o + 1, none⟩) hadb).trans d1
                have e2 := (b4'.cell (p := ⟨g, o + 2, none⟩) hadb).trans d2
                clear b1 b2 b3
                go_wp2_with fail
                go_region
                go_wp2_with fail
                exact bodyPost_ret (v := .tuple #[.agg #[.string K, .int .i64 n, .string T], .string R, .bool true]) (by simp [results, Tryz.results74, go_sem, hc]) rfl ⟨rfl, ((((fin b4).setCell (by simp) _).setCell (by simp) _).setCell (by simp) _).drew⟩
              · rw [any_long hf ho hu ht]
                have ht' : ¬ (T.size : Int) ≤ 524288 := by simp at ht; omega
                have ht'' : (524288 : Int) < (T.size : Int) := by omega
                clear hf ho hu hfr hxl hsn hX hR hys hY hi ht
                go_enter Tryz.func74, Tryz.ntmps74
                go_wp2_with fail
                refine c1.mono ?_
                rintro e w1 ⟨rfl, b1⟩
                go_wp2_with fail
                refine (c2 _).mono ?_
                rintro e w2 ⟨rfl, b2'⟩
                have b2 := b1.trans (b2'.mono b1.size)
                clear b2'
                go_wp2_with fail
                refine (c3' _ (hg1.below b2)).mono ?_
                rintro e w3 ⟨⟨g, o, c, rfl, hadb, d0, d1, d2⟩, b3'⟩
                have b3 := b2.trans (b3'.mono b2.size)
                clear b3'
                go_wp2_with fail
                refine (c4 _ (hg1.below b3)).mono ?_
                rintro e w4 ⟨rfl, b4'⟩
                have b4 := b3.trans (b4'.mono b3.size)
                obtain ⟨hc, hfz⟩ := pcell b4
                have hz : w.heap.size < w4.heap.size := by have := b4.size; simp at this; omega
                have e0 := (b4'.cell (p := ⟨g, o, none⟩) hadb).trans d0
                have e1 := (b4'.cell (p := ⟨g, o + 1, none⟩) hadb).trans d1
                have e2 := (b4'.cell (p := ⟨g, o + 2, none⟩) hadb).trans d2
                clear b1 b2 b3
                go_wp2_with fail
                exact bodyPost_ret (v := .tuple #[.agg #[.string ⟨#[]⟩, .int .i64 0, .string ⟨#[]⟩], .string ⟨#[]⟩, .bool false]) (by simp [results, Tryz.results74, go_sem, hc]) rfl ⟨rfl, (((fin b4).setCell (by simp) _).setCell (by simp) _).setCell (by simp) _⟩
        · rw [any_len hf ho hu hl]
          clear hf ho hu hfr hxl hsn hX hR hys hY
          go_enter Tryz.func74, Tryz.ntmps74
          go_wp2_with fail
          refine c1.mono ?_
          rintro e w1 ⟨rfl, b1⟩
          go_wp2_with fail
          refine (c2 _).mono ?_
          rintro e w2 ⟨rfl, b2'⟩
          have b2 := b1.trans (b2'.mono b1.size)
          clear b2'
          go_wp2_with fail
          refine (c3 _ (hg1.below b2)).mono ?_
          rintro e w3 ⟨hout, b3'⟩
          have b3 := b2.trans (b3'.mono b2.size)
          clear b3'
          obtain ⟨v, ss, rfl, hts, hsl⟩ := hout
          obtain ⟨hc, hfz⟩ := pcell b3
          have hz : w.heap.size < w3.heap.size := by have := b3.size; simp at this; omega
          clear b1 b2
          obtain ⟨A, c, rfl⟩ := hsl.form
          have hne : ((ss.length : Int) != 3) = true := by
            have : ss.length ≠ 3 := by rw [← hts, texts_length] at hl; exact hl
            simp; omega
          clear hl hts hsl
          go_wp2_with fail
          exact bodyPost_ret (v := .tuple #[.agg #[.string ⟨#[]⟩, .int .i64 0, .string ⟨#[]⟩], .string ⟨#[]⟩, .bool false]) (by simp [results, Tryz.results74, go_sem, hc]) rfl ⟨rfl, (((fin b3).setCell (by simp) _).setCell (by simp) _).setCell (by simp) _⟩

theorem eq_yes {x y : ByteArray} (h : x = y) : (x.toList == y.toList) = true := by rw [h]; simp
theorem eq_no {x y : ByteArray} (h : x ≠ y) : (x.toList == y.toList) = false := by
  simp only [beq_eq_false_iff_ne, ne_eq]
  intro e
  rw [ByteArray.toList_eq, ByteArray.toList_eq] at e
  exact h (ba_ext e)

set_option maxHeartbeats 1000000 in
theorem begins_any (k t : ByteArray) (n : Int) (w : World) :
    Calls Tryz.prog 75 #[pgV k n t] w fun e w' => e = .returned (.bool (k.toList == [98, 97, 115, 101] && decide (1 ≤ n) && decide (n ≤ 4611686018427387904))) ∧ Below w.heap.size w w' := by
  have fin := (Below.refl w.heap.size w).alloc (Nat.le_refl _) (.cells #[.string k, .int .i64 n, .string t] 88)
  cases h1 : (k.toList == [98, 97, 115, 101]) with
  | false =>
    go_enter Tryz.func75, Tryz.ntmps75
    go_wp2
    go_ret
    exact ⟨rfl, fin⟩
  | true =>
    by_cases h2 : 1 ≤ n
    · by_cases h3 : n ≤ 4611686018427387904
      · rw [decide_eq_true h2, decide_eq_true h3]
        go_enter Tryz.func75, Tryz.ntmps75
        go_wp2
        go_ret
        exact ⟨rfl, fin⟩
      · rw [decide_eq_true h2, decide_eq_false h3]
        go_enter Tryz.func75, Tryz.ntmps75
        go_wp2
        go_ret
        exact ⟨rfl, fin⟩
    · rw [decide_eq_false h2]
      go_enter Tryz.func75, Tryz.ntmps75
      go_wp2
      go_ret
      exact ⟨rfl, fin⟩
set_option maxHeartbeats 1000000 in
theorem follows_any (k t : ByteArray) (n m : Int) (w : World) (h1 : 0 ≤ m) (h2 : m ≤ 4611686018427387904) :
    Calls Tryz.prog 76 #[pgV k n t, .int .i64 m] w fun e w' => e = .returned (.bool (k.toList == [114, 101, 99] && decide (n = m + 1))) ∧ Below w.heap.size w w' := by
  have fin := (Below.refl w.heap.size w).alloc (Nat.le_refl _) (.cells #[.string k, .int .i64 n, .string t] 88)
  cases h1 : (k.toList == [114, 101, 99]) with
  | false =>
    go_enter Tryz.func76, Tryz.ntmps76
    go_wp2
    go_ret
    exact ⟨rfl, (Below.refl w.heap.size w).alloc (Nat.le_refl _) _⟩
  | true =>
    by_cases h2 : n = m + 1
    · rw [decide_eq_true h2]
      have h3 : (n == m + 1) = true := by simpa using h2
      go_enter Tryz.func76, Tryz.ntmps76
      go_wp2
      go_ret
      exact ⟨rfl, (Below.refl w.heap.size w).alloc (Nat.le_refl _) _⟩
    · rw [decide_eq_false h2]
      have h3 : (n == m + 1) = false := by simpa using h2
      go_enter Tryz.func76, Tryz.ntmps76
      go_wp2
      go_ret
      exact ⟨rfl, (Below.refl w.heap.size w).alloc (Nat.le_refl _) _⟩

end Go.Proofs.YtglkapamkigdhaaGreatDoor

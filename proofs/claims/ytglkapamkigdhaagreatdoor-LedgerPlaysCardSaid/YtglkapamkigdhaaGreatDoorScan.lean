/-
  The program's reading of a tape: the closure that takes pages, the loop over them, read. Conditions: lengths at most 2^46 bytes; the library's variables hold what their types allow.
-/
import Derived.Test.YtglkapamkigdhaaGreatDoorPage
import Derived.OneCell
namespace Go.Proofs.YtglkapamkigdhaaGreatDoor
open Go.RowKit M

/-- Block T of w is what a tape tells so far: its epoch, its base, its records in a row of its own behind T. -/
def TS (T : Nat) (e : Int) (b : ByteArray) (ss : List ByteArray) (z : Int) (w : World) : Prop :=
  ∃ rv, w.heap[T]? = some (.cells #[.int .i64 e, .string b, rv, .int .i64 0, .int .i64 z] 70 (0, 0)) ∧ w.ownsRow (T + 1) 9 1 rv ss.length (ss.map Value.string)
theorem TS.lt {T : Nat} {e : Int} {b : ByteArray} {ss : List ByteArray} {z : Int} {w : World} (h : TS T e b ss z w) : T < w.heap.size := by
  obtain ⟨rv, hb, _⟩ := h; exact lt_of_block hb
theorem TS.below {T : Nat} {e : Int} {b : ByteArray} {ss : List ByteArray} {z : Int} {w w' : World} (h : TS T e b ss z w) (hk : Below w.heap.size w w') : TS T e b ss z w' := by
  obtain ⟨rv, hb, hr⟩ := h
  exact ⟨rv, by rw [hk.block T (lt_of_block hb)]; exact hb, hr.kept (row := none) ⟨hk.os, hk.tape, hk.output, hk.size, fun k hk' _ => hk.block k hk'⟩ (Classical.em _)⟩

set_option maxHeartbeats 2000000 in
set_option maxRecDepth 100000 in
theorem take_base (T : Nat) (e : Int) (b : ByteArray) (z : Int) (k t : ByteArray) (n : Int) (w : World) (h : TS T e b [] z w) (hk : (k.toList == [98, 97, 115, 101]) = true) :
    Calls Tryz.prog 65 #[pgV k n t, .pointer (some ⟨T, 0, none⟩)] w fun e w' => e = .returned (.tuple #[]) ∧ TS T n t [] z w' ∧ Below T w w' := by
  have hlt := h.lt
  have hne : T ≠ w.heap.size := by omega
  obtain ⟨rv, hb, hr⟩ := h
  have c0 : w.cell? ⟨T, 0, none⟩ = some (.int .i64 e) := by rw [Lib.cell_of_heap hb]; rfl
  have c1 : w.cell? ⟨T, 1, none⟩ = some (.string b) := by rw [Lib.cell_of_heap hb]; rfl
  have f0 : ∀ i, w.frozen? ⟨T, i, none⟩ = false := fun i => Lib.frozen_of_heap hb i
  go_enter Tryz.func65, Tryz.ntmps65
  go_wp2
  go_region
  all_goals go_wp2
  refine bodyPost_ret (results_none rfl _ _ _) rfl ⟨rfl, ⟨rv, ?_, ?_⟩, ?_⟩
  · show (World.alloc _ _).heap[T]? = _
    rw [Below.heap_alloc _ _ _ (by simp; omega)]
    exact heap_setCell_same _ T 1 _ _ _ (heap_setCell_same w T 0 _ _ _ hb)
  · exact ((ownsRow_setCell_below (ownsRow_setCell_below hr (a := ⟨T, 0, none⟩) (Nat.lt_succ_self T) _) (a := ⟨T, 1, none⟩) (Nat.lt_succ_self T) _).alloc _ : World.ownsRow _ _ _ _ _ _ _)
  · exact ((((Below.refl T w).setCell (p := ⟨T, 0, none⟩) (Nat.le_refl _) _).setCell (p := ⟨T, 1, none⟩) (Nat.le_refl _) _).alloc (by simp; omega) _).drew

set_option maxHeartbeats 2000000 in
set_option maxRecDepth 100000 in
theorem take_rec (T : Nat) (e : Int) (b : ByteArray) (ss : List ByteArray) (z : Int) (k t : ByteArray) (n : Int) (w : World) (h : TS T e b ss z w) (hk : (k.toList == [98, 97, 115, 101]) = false) (hl : ss.length ≤ 1000000000000) :
    Calls Tryz.prog 65 #[pgV k n t, .pointer (some ⟨T, 0, none⟩)] w fun e' w' => e' = .returned (.tuple #[]) ∧ TS T e b (ss ++ [t]) z w' ∧ Below T w w' := by
  obtain ⟨i0, hi, hz0, hz1, hz2⟩ := info_parts infoStr
  have hlt := h.lt
  have hne : T ≠ w.heap.size := by omega
  obtain ⟨rv, hb, hr⟩ := h
  obtain ⟨A, c, rfl⟩ := own_form hr
  have c2 : w.cell? ⟨T, 2, none⟩ = some (.slice A ss.length c) := by rw [Lib.cell_of_heap hb]; rfl
  have f0 : ∀ i, w.frozen? ⟨T, i, none⟩ = false := fun i => Lib.frozen_of_heap hb i
  have hb1 := (Below.heap_alloc w (.cells #[.string k, .int .i64 n, .string t] 88) T hlt).trans hb
  have hr1 := hr.alloc (.cells #[.string k, .int .i64 n, .string t] 88)
  go_enter Tryz.func65, Tryz.ntmps65
  go_wp2_with (at_builtin; refine wpList_append_own _ rfl _ _ 33 rfl (T + 1) 9 i0 (.string ⟨#[]⟩) 1 16 Tryz.underlying33 hi hz0 hz1 hz2 rfl (by decide) _ _ _ rfl (hr1.alloc _) ⟨w.heap.size + 1, 0, none⟩ 1 1 [.string t] rfl rfl ?c1 ?c2 ?c3 ?c4 ?c5 ?_)
  case c1 =>
    intro j u hj
    match j, hj with
    | 0, hj => simp at hj; subst hj; simp [Addr.add]
  case c2 => intro u hu; simp at hu; subst hu; rfl
  case c3 => unfold maxLen; omega
  case c4 => omega
  case c5 => simp; omega
  intro v' w2 O2 hgrow _
  have hb2 : w2.heap[T]? = some (.cells #[.int .i64 e, .string b, .slice A ss.length c, .int .i64 0, .int .i64 z] 70 (0, 0)) := by
    rw [hgrow.block T (by simp; omega) (fun e => by have := (hr.lt _ e.symm).1; omega), Below.heap_alloc _ _ _ (by simp; omega)]
    exact hb1
  have O3 : w2.ownsRow (T + 1) 9 1 v' (ss ++ [t]).length ((ss ++ [t]).map Value.string) := by simpa using O2
  have B2 : Below T w w2 := (((Below.refl T w).alloc (Nat.le_of_lt hlt) _).alloc (by simp; omega) _).grown hgrow (by simp; omega) (fun k hk => by have := (hr.lt k hk).1; omega)
  have d2 : w2.cell? ⟨T, 2, none⟩ = some (.slice A ss.length c) := by rw [Lib.cell_of_heap hb2]; rfl
  have g2 : ∀ i, w2.frozen? ⟨T, i, none⟩ = false := fun i => Lib.frozen_of_heap hb2 i
  obtain ⟨A', c', rfl⟩ := own_form O3
  clear hgrow O2
  go_wp2
  go_end0
  have O4 := ownsRow_setCell_below O3 (a := ⟨T, 2, none⟩) (Nat.lt_succ_self T) (.slice A' (ss.length + 1) c')
  refine ⟨rfl, ⟨.slice A' (ss.length + 1) c', ?_, ?_⟩, ?_⟩
  · exact heap_setCell_same w2 T 2 _ _ _ hb2
  · simpa using O4
  · exact B2.setCell (p := ⟨T, 2, none⟩) (Nat.le_refl _) _

/-- a page's parts as texts of bytes -/
theorem page_parts {o : Option (Text × Int × Text × Text)} {k : Text} {n : Int} {t r : Text} (h : o = some (k, n, t, r)) :
    ∃ K X R : ByteArray, pageV o = .tuple #[pgV K n X, .string R, .bool true] ∧ K.data.toList = k ∧ X.data.toList = t ∧ R.data.toList = r :=
  ⟨⟨k.toArray⟩, ⟨t.toArray⟩, ⟨r.toArray⟩, by rw [h]; rfl, rfl, rfl, rfl⟩
theorem isk_yes {K : ByteArray} {l : Text} (h : K.data.toList = l) : (K.toList == l) = true := by rw [ByteArray.toList_eq, h]; simp
theorem isk_no {K : ByteArray} {l : Text} (h : K.data.toList ≠ l) : (K.toList == l) = false := by rw [ByteArray.toList_eq]; simpa using h

/-- what the loop over pages knows -/
inductive Know (T : Nat) (s : ByteArray) (z : Int) : Int → Int → World → Prop
  | none {w : World} (h : TS T 0 ⟨#[]⟩ [] z w) : Know T s z 0 0 w
  | some {w : World} {n : Int} {b : ByteArray} {ss : List ByteArray} {r : Text} (h : At s.data.toList n b.data.toList (texts ss) r) (ht : TS T n b ss z w) : Know T s z ((s.size - r.length : Nat) : Int) (ss.length : Int) w

/-- what is told of a tape -/
def Told (T : Nat) (s : ByteArray) (z : Int) (w : World) : Prop :=
  ∃ b ss, TS T (tellT s.data.toList).1 b ss z w ∧ b.data.toList = (tellT s.data.toList).2.1 ∧ texts ss = (tellT s.data.toList).2.2.1

set_option maxHeartbeats 8000000 in
set_option maxRecDepth 100000 in
theorem pages_any (T : Nat) (s : ByteArray) (z : Int) (w : World) (hs : s.size ≤ 1000000000000) (hg : Good w) (hT3 : 3 ≤ T) (ht : TS T 0 ⟨#[]⟩ [] z w) :
    Calls Tryz.prog 64 #[.string s, .func (.func 65) #[] #[.pointer (some ⟨T, 0, none⟩)]] w fun e w' => e = .returned (.int .i64 (tellT s.data.toList).2.2.2) ∧ Told T s z w' ∧ Below T w w' := by
  go_enter Tryz.func64, Tryz.ntmps64
  go_wp2
  go_step3
  go_wp2
  go_step3
  go_wp2
  go_loopw [5, 6] (fun v5 v6 wr => ∃ r c : Int, v5 = .int .i64 r ∧ v6 = .int .i64 c ∧ Know T s z r c wr ∧ Below T w wr) (fun v5 _ _ => s.size - (intOf v5).toNat)
  case atStart => exact ⟨0, 0, rfl, rfl, .none ht, Below.refl _ _⟩
  case round =>
    obtain ⟨r, c, rfl, rfl, hk, hbw⟩ := hrel
    have hgw := hg.since hT3 hbw
    cases hk with
    | none h =>
      have c1 := fun w' (hg : Good w') => page_any (s.extract 0 s.size) w' (by rw [ByteArray.size_extract]; omega) hg
      have hex : s.extract 0 s.size = s := by rw [ByteArray.extract_zero_size]
      rw [hex] at c1
      have stop : tellT s.data.toList = (0, [], [], 0) → ∀ {w'}, Below wr.heap.size wr w' → ∀ {e : Ending}, e = .returned (.int .i64 0) → e = .returned (.int .i64 (tellT s.data.toList).2.2.2) ∧ Told T s z w' ∧ Below T w w' := by
        rintro ht w' hb e rfl
        unfold Told
        rw [ht]
        exact ⟨rfl, ⟨⟨#[]⟩, [], h.below hb, rfl, rfl⟩, hbw.trans (hb.mono (Nat.le_of_lt h.lt))⟩
      cases ha : anyT s.data.toList with
      | none =>
        have hte := Lib.hid (tell_empty ha)
        have STOP := Lib.hid @stop
        rw [ha] at c1
        unfold pageV at c1
        clear ha stop
        go_wp2_with fail
        refine (c1 _ hgw).mono ?_
        rintro e w1 ⟨rfl, b1⟩
        go_wp2_with fail
        rw [Exit.noGoto_ret]
        go_ret
        exact STOP.out hte.out (b1.alloc b1.size _) rfl
      | some q =>
        obtain ⟨k, n, t, r'⟩ := q
        obtain ⟨K, X, R, hpv, hK, hX, hR⟩ := page_parts ha
        rw [hpv] at c1
        have cb := fun w => begins_any K X n w
        by_cases hgood : k = kBase ∧ 1 ≤ n ∧ n ≤ 4611686018427387904
        · obtain ⟨rfl, hn1, hn2⟩ := hgood
          have hkb := isk_yes hK
          rw [show (K.toList == [98, 97, 115, 101]) = true from hkb, decide_eq_true hn1, decide_eq_true hn2] at cb
          have hAt := At.start ha hn1 hn2
          have hless := hAt.less
          have hRs : R.size < s.size := by
            have : R.data.toList.length = R.size := by simp
            rw [hR] at this
            simp at hless; omega
          have hnew : At s.data.toList n X.data.toList (texts []) R.data.toList := by rw [hX, hR]; exact hAt
          have NEW := Lib.hid hnew
          have TK := Lib.hid (fun w' (hh : TS T 0 ⟨#[]⟩ [] z w') => take_base T 0 ⟨#[]⟩ z K X n w' hh hkb)
          clear stop ha hpv hK hX hR hkb hAt hless hnew hn1 hn2
          go_wp2_with fail
          refine (c1 _ hgw).mono ?_
          rintro e w1 ⟨rfl, b1⟩
          have h1 := h.below b1
          go_wp2_with fail
          refine (cb _).mono ?_
          rintro e w2 ⟨rfl, b2⟩
          have h2 := (h1.below ((Below.refl _ w1).alloc (Nat.le_refl _) _)).below b2
          have b3 := b1.trans ((one_box b2).mono b1.size)
          have d0 := b2.cell (p := ⟨w1.heap.size, 0, none⟩) (by simp)
          have d1 := b2.cell (p := ⟨w1.heap.size, 1, none⟩) (by simp)
          have d2 := b2.cell (p := ⟨w1.heap.size, 2, none⟩) (by simp)
          simp only [go_sem] at d0 d1 d2
          go_wp2_with fail
          refine (TK.out _ h2).mono ?_
          rintro e w3 ⟨rfl, h3, b4⟩
          go_wp2_with fail
          go_roundw
          case rel =>
            refine ⟨_, _, rfl, rfl, ?_, hbw.trans ((b3.mono (Nat.le_of_lt h.lt)).trans b4)⟩
            rw [show (s.size : Int) - (R.size : Int) = ((s.size - R.data.toList.length : Nat) : Int) by simp; omega]
            exact Know.some NEW.out h3
          case measure => simp [intOf]; omega
        · have hte := Lib.hid (tell_base ha (by
            by_cases hk : k = kBase
            · by_cases hn : 1 ≤ n
              · exact .inr (.inr (by
                  by_cases h' : n ≤ 4611686018427387904
                  · exact absurd ⟨hk, hn, h'⟩ hgood
                  · omega))
              · exact .inr (.inl (by omega))
            · exact .inl hk))
          have hbf : (K.toList == [98, 97, 115, 101] && decide (1 ≤ n) && decide (n ≤ 4611686018427387904)) = false := by
            cases hb : (K.toList == [98, 97, 115, 101] && decide (1 ≤ n) && decide (n ≤ 4611686018427387904)) with
            | false => rfl
            | true =>
              exfalso
              simp only [Bool.and_eq_true, decide_eq_true_eq, beq_iff_eq] at hb
              refine hgood ⟨?_, hb.1.2, hb.2⟩
              have := hb.1.1
              rw [ByteArray.toList_eq, hK] at this
              exact this
          rw [hbf] at cb
          have STOP := Lib.hid @stop
          clear stop ha hpv hK hX hR hbf hgood
          go_wp2_with fail
          refine (c1 _ hgw).mono ?_
          rintro e w1 ⟨rfl, b1⟩
          go_wp2_with fail
          refine (cb _).mono ?_
          rintro e w2 ⟨rfl, b2⟩
          have b3 := b1.trans ((one_box b2).mono b1.size)
          go_wp2_with fail
          rw [Exit.noGoto_ret]
          go_ret
          exact STOP.out hte.out b3 rfl
    | some h ht =>
      rename_i n b ss r
      have hless := h.less
      have hcount := h.count
      have hdrop := drop_back h.back
      have hle : r.length < s.size := by simp at hless; exact hless
      obtain ⟨rr, hrr⟩ : ∃ rr, s.size - r.length = rr := ⟨_, rfl⟩
      obtain ⟨S, hS⟩ : ∃ S, s.extract rr s.size = S := ⟨_, rfl⟩
      have hSr : S.data.toList = r := by
        rw [← hS, drop_data, ← hrr]
        simpa using hdrop
      have hpos : 0 < rr := by omega
      have hrs : rr ≤ s.size := by omega
      have hSs : S.size ≤ s.size := by rw [← hS, ByteArray.size_extract]; omega
      have hz0 : ((rr : Int) == 0) = false := by simp; omega
      have hssl : ss.length ≤ s.size := by rw [texts_length] at hcount; simp at hcount; omega
      have c1 := fun w' (hg : Good w') => page_any S w' (by omega) hg
      rw [hSr] at c1
      have stop : tellT s.data.toList = (n, b.data.toList, texts ss, rr) → ∀ {w'}, Below wr.heap.size wr w' → ∀ {e : Ending}, e = .returned (.int .i64 (rr : Int)) → e = .returned (.int .i64 (tellT s.data.toList).2.2.2) ∧ Told T s z w' ∧ Below T w w' := by
        rintro hte w' hb e rfl
        unfold Told
        rw [hte]
        exact ⟨rfl, ⟨b, ss, ht.below hb, rfl, rfl⟩, hbw.trans (hb.mono (Nat.le_of_lt ht.lt))⟩
      have hstop : (∀ x r', anyT r ≠ some (kRec, ((texts ss).length : Int) + 1, x, r')) → tellT s.data.toList = (n, b.data.toList, texts ss, rr) := fun hh => by
        rw [h.stop hh, ← hrr]; simp
      rw [hrr]
      cases ha : anyT r with
      | none =>
        have hte := Lib.hid (hstop (by rw [ha]; intro x r' e; cases e))
        have STOP := Lib.hid @stop
        rw [ha] at c1
        unfold pageV at c1
        clear ha stop hstop hSr hdrop hcount hless hrr h
        go_wp2_with fail
        refine (c1 _ hgw).mono ?_
        rintro e w1 ⟨rfl, b1⟩
        go_wp2_with fail
        rw [Exit.noGoto_ret]
        go_ret
        exact STOP.out hte.out (b1.alloc b1.size _) rfl
      | some q =>
        obtain ⟨k, m, t, r'⟩ := q
        obtain ⟨K, X, R, hpv, hK, hX, hR⟩ := page_parts ha
        rw [hpv] at c1
        have cb := fun w => follows_any K X m (ss.length : Int) w (by omega) (by omega)
        by_cases hgood : k = kRec ∧ m = (ss.length : Int) + 1
        · obtain ⟨rfl, rfl⟩ := hgood
          have hkb := isk_yes hK
          have hkb2 : (K.toList == [98, 97, 115, 101]) = false := by
            have := isk_no (K := K) (l := [98, 97, 115, 101]) (by rw [hK]; decide)
            exact this
          rw [show (K.toList == [114, 101, 99]) = true from hkb, decide_eq_true (rfl : (ss.length : Int) + 1 = (ss.length : Int) + 1)] at cb
          have hAt := At.step h (x := t) (r' := r') (by rw [ha, texts_length])
          have hl2 := (any_less ha).1
          have hRs : R.size < r.length := by
            have : R.data.toList.length = R.size := by simp
            rw [hR] at this; omega
          have hnew : At s.data.toList n b.data.toList (texts (ss ++ [X])) R.data.toList := by rw [texts_snoc, hX, hR]; exact hAt
          have NEW := Lib.hid hnew
          have TK := Lib.hid (fun w' (hh : TS T n b ss z w') => take_rec T n b ss z K X ((ss.length : Int) + 1) w' hh hkb2 (by omega))
          clear stop hstop ha hpv hK hX hR hkb hkb2 hAt hless hnew hSr hdrop hcount hl2 h
          go_wp2_with fail
          refine (c1 _ hgw).mono ?_
          rintro e w1 ⟨rfl, b1⟩
          have h1 := ht.below b1
          go_wp2_with fail
          refine (cb _).mono ?_
          rintro e w2 ⟨rfl, b2⟩
          have h2 := (h1.below ((Below.refl _ w1).alloc (Nat.le_refl _) _)).below b2
          have b3 := b1.trans ((one_box b2).mono b1.size)
          have d0 := b2.cell (p := ⟨w1.heap.size, 0, none⟩) (by simp)
          have d1 := b2.cell (p := ⟨w1.heap.size, 1, none⟩) (by simp)
          have d2 := b2.cell (p := ⟨w1.heap.size, 2, none⟩) (by simp)
          simp only [go_sem] at d0 d1 d2
          go_wp2_with fail
          refine (TK.out _ h2).mono ?_
          rintro e w3 ⟨rfl, h3, b4⟩
          go_wp2_with fail
          go_roundw
          case rel =>
            refine ⟨_, _, rfl, rfl, ?_, hbw.trans ((b3.mono (Nat.le_of_lt ht.lt)).trans b4)⟩
            rw [show (s.size : Int) - (R.size : Int) = ((s.size - R.data.toList.length : Nat) : Int) by simp; omega, show (ss.length : Int) + 1 = ((ss ++ [X]).length : Int) by simp]
            exact Know.some NEW.out h3
          case measure => simp [intOf]; omega
        · have hte := Lib.hid (hstop (by
            rw [ha]
            intro x r'' e
            simp only [Option.some.injEq, Prod.mk.injEq] at e
            exact hgood ⟨e.1, by rw [e.2.1, texts_length]⟩))
          have hbf : (K.toList == [114, 101, 99] && decide (m = (ss.length : Int) + 1)) = false := by
            cases hb : (K.toList == [114, 101, 99] && decide (m = (ss.length : Int) + 1)) with
            | false => rfl
            | true =>
              exfalso
              simp only [Bool.and_eq_true, decide_eq_true_eq, beq_iff_eq] at hb
              refine hgood ⟨?_, hb.2⟩
              have := hb.1
              rw [ByteArray.toList_eq, hK] at this
              exact this
          rw [hbf] at cb
          have STOP := Lib.hid @stop
          clear stop hstop ha hpv hK hX hR hbf hgood hSr hdrop hcount hless hrr h
          go_wp2_with fail
          refine (c1 _ hgw).mono ?_
          rintro e w1 ⟨rfl, b1⟩
          go_wp2_with fail
          refine (cb _).mono ?_
          rintro e w2 ⟨rfl, b2⟩
          have b3 := b1.trans ((one_box b2).mono b1.size)
          go_wp2_with fail
          rw [Exit.noGoto_ret]
          go_ret
          exact STOP.out hte.out b3 rfl

/-- what a tape is told as: its records in a row of its own behind block T -/
def tapeV (e : Int) (b : ByteArray) (rv : Value) (r z : Int) : Value := .agg #[.int .i64 e, .string b, rv, .int .i64 r, .int .i64 z]
set_option maxHeartbeats 2000000 in
set_option maxRecDepth 100000 in
theorem read_any (s : ByteArray) (w : World) (hs : s.size ≤ 1000000000000) (hg : Good w) :
    Calls Tryz.prog 57 #[.string s] w fun e w' => ∃ b rv ss, e = .returned (tapeV (tellT s.data.toList).1 b rv (tellT s.data.toList).2.2.2 s.size) ∧ b.data.toList = (tellT s.data.toList).2.1 ∧ texts ss = (tellT s.data.toList).2.2.1 ∧
      w'.ownsRow (w.heap.size + 1 + 1) 9 1 rv ss.length (ss.map Value.string) ∧ Below w.heap.size w w' := by
  have hT3 := hg.size
  go_enter Tryz.func57, Tryz.ntmps57
  go_wp2_with fail
  obtain ⟨W, hW⟩ : ∃ W, W = ((w.alloc (.cells #[.int .i64 0, .string ⟨#[]⟩, .slice none 0 0, .int .i64 0, .int .i64 0] 70)).alloc (.cells #[.int .i64 0, .string ⟨#[]⟩, .slice none 0 0, .int .i64 0, .int .i64 (s.size : Int)] 70)) := ⟨_, rfl⟩
  rw [← hW]
  have hWs : W.heap.size = w.heap.size + 2 := by rw [hW]; simp
  have bW : Below w.heap.size w W := by rw [hW]; exact ((Below.refl _ w).alloc (Nat.le_refl _) _).alloc (by simp) _
  have ht : TS (w.heap.size + 1) 0 ⟨#[]⟩ [] (s.size : Int) W := by
    refine ⟨.slice none 0 0, ?_, World.ownsRow_nil _ _ _ _⟩
    rw [hW]
    have := heap_alloc_new (w.alloc (.cells #[.int .i64 0, .string ⟨#[]⟩, .slice none 0 0, .int .i64 0, .int .i64 0] 70)) (.cells #[.int .i64 0, .string ⟨#[]⟩, .slice none 0 0, .int .i64 0, .int .i64 (s.size : Int)] 70)
    simpa using this
  have hb0 : W.heap[w.heap.size]? = some (.cells #[.int .i64 0, .string ⟨#[]⟩, .slice none 0 0, .int .i64 0, .int .i64 0] 70) := by
    rw [hW, Below.heap_alloc _ _ _ (by simp)]
    exact heap_alloc_new w _
  refine (pages_any (w.heap.size + 1) s (s.size : Int) W hs (hg.below bW) (by omega) ht).mono ?_
  rintro e w1 ⟨rfl, ⟨b, ss, ⟨rv, hb, hr⟩, hbt, hss⟩, b1⟩
  obtain ⟨A, c, rfl⟩ := own_form hr
  obtain ⟨E, hE⟩ : ∃ E, (tellT s.data.toList).1 = E := ⟨_, rfl⟩
  obtain ⟨R, hR⟩ : ∃ R, (tellT s.data.toList).2.2.2 = R := ⟨_, rfl⟩
  rw [hE] at hb
  have b2 : Below w.heap.size w w1 := bW.trans (b1.mono (by omega))
  have hb1 : w1.heap[w.heap.size]? = some (.cells #[.int .i64 0, .string ⟨#[]⟩, .slice none 0 0, .int .i64 0, .int .i64 0] 70) := by
    rw [b1.block w.heap.size (by omega)]; exact hb0
  have c0 : ∀ i, w1.cell? ⟨w.heap.size + 1, i, none⟩ = (#[.int .i64 E, .string b, .slice A ss.length c, .int .i64 0, .int .i64 (s.size : Int)] : Array Value)[i]? := fun i => by rw [Lib.cell_of_heap hb]
  have d0 : ∀ i, w1.cell? ⟨w.heap.size, i, none⟩ = (#[.int .i64 0, .string ⟨#[]⟩, .slice none 0 0, .int .i64 0, .int .i64 0] : Array Value)[i]? := fun i => by rw [Lib.cell_of_heap hb1]
  have f0 : ∀ i, w1.frozen? ⟨w.heap.size + 1, i, none⟩ = false := fun i => Lib.frozen_of_heap hb i
  have f1 : ∀ i, w1.frozen? ⟨w.heap.size, i, none⟩ = false := fun i => Lib.frozen_of_heap hb1 i
  rw [hR]
  clear hW hb hb1 hb0 b1 bW ht hWs
  go_wp2_with fail
  have row : ∀ {w' : World} (d i : Nat) (u : Value), d ≤ w.heap.size + 1 → w'.ownsRow (w.heap.size + 1 + 1) 9 1 (.slice A ss.length c) ss.length (ss.map Value.string) → (w'.setCell ⟨d, i, none⟩ u).ownsRow (w.heap.size + 1 + 1) 9 1 (.slice A ss.length c) ss.length (ss.map Value.string) :=
    fun d i u hd h => ownsRow_setCell_below h (a := ⟨d, i, none⟩) (Nat.lt_succ_of_le hd) u
  exact bodyPost_ret (v := tapeV E b (.slice A ss.length c) R s.size) (by simp [results, Tryz.results57, go_sem, d0, tapeV]) rfl ⟨b, _, ss, by rw [hE, hR], hbt, hss,
    row _ _ _ (by omega) (row _ _ _ (by omega) (row _ _ _ (by omega) (row _ _ _ (by omega) (row _ _ _ (by omega) (row _ _ _ (by omega) hr))))),
    (((((b2.setCell (p := ⟨w.heap.size + 1, 3, none⟩) (Nat.le_succ _) _).setCell (Nat.le_refl _) _).setCell (Nat.le_refl _) _).setCell (Nat.le_refl _) _).setCell (Nat.le_refl _) _).setCell (Nat.le_refl _) _⟩

end Go.Proofs.YtglkapamkigdhaaGreatDoor

/-
  A client's session, and what is answered at once: the program's own, Find (sort.Search with a closure), Ask; the document's Find, Ask. Conditions: sessions by rising clients, without pairs, at most a million.
  What is answered at once: the program's Ask; the document's Find, Ask. Conditions: sessions by rising clients, without pairs, at most a million.
-/
import Derived.Test.YticikmkehobblaaDoorSsBool
import Derived.Test.YticikmkehobblaaDoorSsMA
namespace Go.Proofs.YticikmkehobblaaDoor.Ss
open Go.RowKit Bnd
open Go.Proofs.YticikmkehobblaaDoor.Od (Rep SP ArgP OwnP rv BoxR)

set_option maxHeartbeats 2000000 in
/-- the library's Clone of no pairs -/
theorem clone0 (A : Option Addr) (c : Nat) (w : World) :
    Calls Tryd.prog 41 #[.slice A 0 c] w fun e w' => (∃ A' c', e = .returned (.slice A' 0 c')) ∧ Below w.heap.size w w' := by
  have q : ∀ (w : World) (a : Option Addr) (n c n' c' : Nat), (binOp .eql 24 (.slice a n c) (.slice none n' c')).run Tryd.prog w = .ok (.bool a.isNone) w := fun w a n c n' c' => Lib.run_eql_slice_nil w _ _ a n c n' c' Tryd.underlying24
  cases A with
  | none =>
    go_enter Tryd.func41, Tryd.ntmps41
    go_wp2_with fail
    go_ret
    exact ⟨⟨_, _, rfl⟩, Below.refl _ _⟩
  | some a =>
    go_enter Tryd.func41, Tryd.ntmps41
    go_wp2_with (at_builtin; refine Od.wpList_append_ps rfl _ _ rfl w.heap.size _ [] rfl (Od.own_empty w) (by simp) _ [] rfl (.empty a c) (by simp) ?_)
    intro v' w1 hown hb1 _
    obtain ⟨A', c', rfl⟩ := (SP.of_own hown).form
    go_wp2_with fail
    go_ret
    exact ⟨⟨_, _, rfl⟩, ((Below.refl _ w).alloc (Nat.le_refl _) _).trans hb1⟩

set_option maxHeartbeats 4000000 in
set_option maxRecDepth 100000 in
theorem own0 (s : Ses) (A : Option Addr) (c : Nat) (w : World) :
    Calls Tryd.prog 28 #[sv (s, .slice A 0 c)] w fun e w' => (∃ A' c', e = .returned (sv (s, .slice A' 0 c'))) ∧ Below w.heap.size w w' := by
  have cc := fun w => clone0 A c w
  obtain ⟨W0, hW0⟩ : ∃ W0, (w.alloc (.cells #[.int .i64 s.client, .int .i64 s.seq, .int .i64 s.rep.code, .int .i64 s.rep.err, .bool s.rep.has, .string s.rep.val, .slice A 0 c] 28)).alloc (.cells #[.int .i64 0, .int .i64 0, .int .i64 0, .int .i64 0, .bool false, .string ⟨#[]⟩, .slice none 0 0] 28) = W0 := ⟨_, rfl⟩
  have B0 : BoxS w.heap.size (s, .slice A 0 c) W0 := hW0 ▸ (BoxS.new w (s, .slice A 0 c)).alloc _
  have Z0 : BoxS (w.heap.size + 1) zeroZ W0 := by
    have := BoxS.zero (w.alloc (.cells #[.int .i64 s.client, .int .i64 s.seq, .int .i64 s.rep.code, .int .i64 s.rep.err, .bool s.rep.has, .string s.rep.val, .slice A 0 c] 28))
    rw [World.size_alloc] at this
    rw [hW0] at this
    exact this
  have hb0 : Below w.heap.size w W0 := by rw [← hW0]; exact ((Below.refl _ w).alloc (Nat.le_refl _) _).alloc (by simp) _
  have hz0 := hb0.size
  obtain ⟨p_0, ⟨p_1, p_2, p_3, p_4, p_5, p_6, p_7⟩, p_8⟩ := _root_.id B0
  go_enter Tryd.func28, Tryd.ntmps28
  go_wp2_with fail
  try rw [hW0]
  refine (cc _).mono ?_
  rintro e w1 ⟨⟨A', c', rfl⟩, b1⟩
  have B1 := B0.keep b1
  have Z1 := Z0.keep b1
  have hb1 := hb0.trans (b1.mono hz0)
  have hz1 := hb1.size
  have hlt := B1.1
  clear p_0 p_1 p_2 p_3 p_4 p_5 p_6 p_7 p_8
  obtain ⟨p_0, ⟨p_1, p_2, p_3, p_4, p_5, p_6, p_7⟩, p_8⟩ := _root_.id B1
  obtain ⟨q_0, ⟨q_1, q_2, q_3, q_4, q_5, q_6, q_7⟩, q_8⟩ := _root_.id Z1
  clear b1 B0 Z0 hW0
  go_wp2_with fail
  exact bodyPost_ret (res_BoxS Tryd.results28 rfl (BoxS.put (Z1.other (by simp) _) (s, .slice A' 0 c'))) rfl ⟨⟨A', c', rfl⟩, (by (repeat' (first | with_reducible assumption | with_reducible exact Below.refl _ _ | with_reducible refine Below.alloc ?_ ?_ _ | with_reducible refine Below.setCell ?_ ?_ _ | with_reducible refine Below.drew ?_ | omega | (simp; done) | (simp; omega))))⟩

set_option maxHeartbeats 4000000 in
set_option maxRecDepth 100000 in
/-- Find's closure: is the i-th client not below the one that is looked for? -/
theorem closure_any (zs : List Zs) (A : Option Addr) (ca : Nat) (cl : Int) (b0 b1 i : Nat) (W w : World) (hi : i < zs.length) (hv : SZ W W.heap.size (.slice A zs.length ca) zs)
    (h0 : W.cell? ⟨b0, 0, none⟩ = some (.slice A zs.length ca)) (h1 : W.cell? ⟨b1, 0, none⟩ = some (.int .i64 cl)) (hb0 : b0 < W.heap.size) (hb1 : b1 < W.heap.size) (hb : Below W.heap.size W w) :
    Calls Tryd.prog 27 #[.int .i64 (i : Int), .pointer (some ⟨b0, 0, none⟩), .pointer (some ⟨b1, 0, none⟩)] w fun e w' => e = .returned (.bool (decide (zs[i].1.client ≥ cl))) ∧ Below W.heap.size W w' := by
  obtain ⟨b, o, rfl, hbl, q0, qq⟩ := hv.at_ hi
  obtain ⟨x, hx⟩ : ∃ x, zs[i].1.client = x := ⟨_, rfl⟩
  rw [hx] at q0 ⊢
  have g0 := (hb.cell (p := ⟨b0, 0, none⟩) hb0).trans h0
  have g1 := (hb.cell (p := ⟨b1, 0, none⟩) hb1).trans h1
  have g2 := (hb.cell (p := ⟨b, o + i * 7, none⟩) hbl).trans q0
  have k0 : (0 ≤ (i : Int)) = True := eq_true (by omega)
  obtain ⟨n, hn⟩ : ∃ n, zs.length = n := ⟨_, rfl⟩
  have k1 : ((i : Int) < (n : Int)) = True := eq_true (by omega)
  rw [hn] at g0
  clear hv h0 h1 q0 qq hx hn hi
  go_enter Tryd.func27, Tryd.ntmps27
  go_wp2_with fail
  refine St.wp_region_stage (fun _ wx => wx = w.drew) (by kernel_rfl) (by kernel_rfl) (by kernel_rfl) rfl ?_
  repeat (first
    | (apply St.step_give
       · rfl
       · rintro L wx rfl hcl hrd
         go_simp
         try with_reducible rfl
       · exact fun L wx hS => hS
       simp only [Act.put, List.setIfInBounds_toArray, List.set_cons_zero, List.set_cons_succ]))
  refine St.step_last ?_
  rintro L wx rfl _
  go_wp2_with fail
  go_ret
  exact ⟨rfl, hb.drew⟩

/-- what sort.Search hands back: the first place at which the closure says true -/
def Place (n : Nat) (p : Nat → Bool) (k : Nat) : Prop := k ≤ n ∧ (∀ t, t < k → p t = false) ∧ ∀ t, k ≤ t → t < n → p t = true
set_option maxHeartbeats 4000000 in
set_option maxRecDepth 100000 in
theorem search_any (n : Nat) (p : Nat → Bool) (b0 b1 : Nat) (W w : World) (hn : n ≤ 140737488355328) (hb : Below W.heap.size W w)
    (hf : ∀ (i : Nat) wx, i < n → Below W.heap.size W wx → Calls Tryd.prog 27 #[.int .i64 (i : Int), .pointer (some ⟨b0, 0, none⟩), .pointer (some ⟨b1, 0, none⟩)] wx fun e w' => e = .returned (.bool (p i)) ∧ Below W.heap.size W w')
    (hm : ∀ a b, a ≤ b → b < n → p a = true → p b = true) :
    Calls Tryd.prog 26 #[.int .i64 (n : Int), .func (.func 27) #[] #[.pointer (some ⟨b0, 0, none⟩), .pointer (some ⟨b1, 0, none⟩)]] w fun e w' => ∃ k : Nat, e = .returned (.int .i64 (k : Int)) ∧ Place n p k ∧ Below W.heap.size W w' := by
  have HM := Lib.hid hm
  clear hm
  go_enter Tryd.func26, Tryd.ntmps26
  go_wp2_with fail
  go_loopw [5, 6, 7] (fun v5 v6 _ wr => ∃ lo hi : Nat, v5 = .int .i64 (lo : Int) ∧ v6 = .int .i64 (hi : Int) ∧ lo ≤ hi ∧ hi ≤ n ∧ Hid ((∀ t, t < lo → p t = false) ∧ ∀ t, hi ≤ t → t < n → p t = true) ∧ Below W.heap.size W wr) (fun v5 v6 _ _ => (intOf v6).toNat - (intOf v5).toNat)
  case atStart => exact ⟨0, n, rfl, rfl, Nat.zero_le _, Nat.le_refl _, Lib.hid ⟨fun t h => by omega, fun t h h' => by omega⟩, hb⟩
  case round =>
    obtain ⟨lo, hi, rfl, rfl, h1, h2, HP, hbw⟩ := hrel
    by_cases hlt : lo < hi
    · have hc := hf ((lo + hi) / 2) wr (by omega) hbw
      rw [show (((lo + hi) / 2 : Nat) : Int) = ((lo : Int) + (hi : Int)) / 2 by omega] at hc
      cases hp : p ((lo + hi) / 2) with
      | false =>
        rw [hp] at hc
        have HP2 : Hid ((∀ t, t < (lo + hi) / 2 + 1 → p t = false) ∧ ∀ t, hi ≤ t → t < n → p t = true) := Lib.hid ⟨fun t ht => by
          cases hx : p t with
          | false => rfl
          | true => have := HM.out t ((lo + hi) / 2) (by omega) (by omega) hx; rw [hp] at this; exact absurd this (by simp), HP.out.2⟩
        clear hp HP
        go_wp2_with fail
        refine hc.mono ?_
        rintro e w1 ⟨rfl, hb1⟩
        go_wp2_with fail
        go_roundw
        case rel => exact ⟨(lo + hi) / 2 + 1, hi, by rw [show ((lo : Int) + (hi : Int)) / 2 + 1 = (((lo + hi) / 2 + 1 : Nat) : Int) by omega], rfl, by omega, h2, HP2, hb1⟩
        case measure => simp [intOf]; omega
      | true =>
        rw [hp] at hc
        have HP2 : Hid ((∀ t, t < lo → p t = false) ∧ ∀ t, (lo + hi) / 2 ≤ t → t < n → p t = true) := Lib.hid ⟨HP.out.1, fun t ht htn => HM.out ((lo + hi) / 2) t ht htn hp⟩
        clear hp HP
        go_wp2_with fail
        refine hc.mono ?_
        rintro e w1 ⟨rfl, hb1⟩
        go_wp2_with fail
        go_roundw
        case rel => exact ⟨lo, (lo + hi) / 2, rfl, by rw [show ((lo : Int) + (hi : Int)) / 2 = (((lo + hi) / 2 : Nat) : Int) by omega], by omega, by omega, HP2, hb1⟩
        case measure => simp [intOf]; omega
    · obtain rfl : hi = lo := by omega
      go_wp2_with fail
      go_ret
      exact ⟨hi, rfl, ⟨h2, HP.out.1, HP.out.2⟩, hbw⟩

/-- a session that may be none -/
def optS (o : Option Ses) : Ses × Bool := match o with
  | some s => (s, true)
  | none => (Ses.zero, false)
/-- by the place that the search finds -/
theorem find_place {zs : List Zs} {c : Int} {k : Nat} (hr : riseB 0 (ses zs) = true) (hp : Place zs.length (fun t => decide ((zs.getD t zeroZ).1.client ≥ c)) k) :
    findS c (ses zs) = if h : k < zs.length then (if zs[k].1.client = c then some zs[k].1 else none) else none := by
  obtain ⟨h1, h2, h3⟩ := hp
  have hat : ∀ t (h : t < zs.length), (zs.getD t zeroZ) = zs[t] := fun t h => by rw [List.getD_eq_getElem?_getD, List.getElem?_eq_getElem h]; rfl
  have hrise : ∀ (l : List Ses) (n : Int), riseB n l = true → ∀ i j (hj : j < l.length) (hi : i < j), (l[i]'(by omega)).client < l[j].client := by
    intro l
    induction l with
    | nil => intro n _ i j hj; simp at hj
    | cons x l ih =>
      intro n hn i j hj hi
      rw [rise_cons] at hn
      cases j with
      | zero => omega
      | succ j =>
        cases i with
        | zero => exact (rise_mem hn.2.2 _ (List.getElem_mem _)).1
        | succ i => exact ih _ hn.2.2 i j (by simpa using hj) (by omega)
  by_cases hk : k < zs.length
  · rw [dif_pos hk]
    by_cases hc : zs[k].1.client = c
    · rw [if_pos hc, ← hc]
      exact findS_mem hr (List.mem_map.2 ⟨zs[k], List.getElem_mem hk, rfl⟩)
    · rw [if_neg hc, findS_none]
      intro s hs
      obtain ⟨i, hi, rfl⟩ := List.getElem_of_mem hs
      have hi' : i < zs.length := by simpa using hi
      have e : (ses zs)[i] = zs[i].1 := by simp
      rw [e]
      have hk3 := h3 k (Nat.le_refl _) hk
      rw [decide_eq_true_eq, hat k hk] at hk3
      rcases Nat.lt_trichotomy i k with hlt | rfl | hgt
      · have := h2 i hlt
        rw [decide_eq_false_iff_not, hat i hi'] at this
        omega
      · exact hc
      · have := hrise (ses zs) 0 hr k i hi hgt
        have e2 : (ses zs)[k]'(by omega) = zs[k].1 := by simp
        rw [e, e2] at this
        omega
  · rw [dif_neg hk, findS_none]
    intro s hs
    obtain ⟨i, hi, rfl⟩ := List.getElem_of_mem hs
    have hi' : i < zs.length := by simpa using hi
    have e : (ses zs)[i] = zs[i].1 := by simp
    rw [e]
    have := h2 i (by omega)
    rw [decide_eq_false_iff_not, hat i hi'] at this
    omega
theorem mono_place {zs : List Zs} {c : Int} (hr : riseB 0 (ses zs) = true) : ∀ a b, a ≤ b → b < zs.length → decide ((zs.getD a zeroZ).1.client ≥ c) = true → decide ((zs.getD b zeroZ).1.client ≥ c) = true := by
  intro a b hab hb ha
  rw [decide_eq_true_eq] at ha ⊢
  have hat : ∀ t (h : t < zs.length), (zs.getD t zeroZ) = zs[t] := fun t h => by rw [List.getD_eq_getElem?_getD, List.getElem?_eq_getElem h]; rfl
  rw [hat a (by omega)] at ha
  rw [hat b hb]
  rcases Nat.eq_or_lt_of_le hab with rfl | hlt
  · exact ha
  · have hrise : ∀ (l : List Ses) (n : Int), riseB n l = true → ∀ i j (hj : j < l.length) (hi : i < j), (l[i]'(by omega)).client < l[j].client := by
      intro l
      induction l with
      | nil => intro n _ i j hj; simp at hj
      | cons x l ih =>
        intro n hn i j hj hi
        rw [rise_cons] at hn
        cases j with
        | zero => omega
        | succ j =>
          cases i with
          | zero => exact (rise_mem hn.2.2 _ (List.getElem_mem _)).1
          | succ i => exact ih _ hn.2.2 i j (by simpa using hj) (by omega)
    have h := hrise (ses zs) 0 hr a b (by simpa using hb) hlt
    have e1 : (ses zs)[a]'(by simp; omega) = zs[a].1 := by simp
    have e2 : (ses zs)[b]'(by simpa using hb) = zs[b].1 := by simp
    rw [e1, e2] at h
    omega

/-- what Find answers -/
def FoundZ (o : Option Ses) (e : Ending) : Prop := ∃ A c, e = .returned (.tuple #[sv ((optS o).1, .slice A 0 c), .bool (optS o).2])
set_option maxHeartbeats 8000000 in
set_option maxRecDepth 100000 in
theorem find_any (v : Value) (zs : List Zs) (c : Int) (w : World) (hv : SZ w w.heap.size v zs) (hr : riseB 0 (ses zs) = true) (hp : NoP zs) (hl : zs.length ≤ 1000000) :
    Calls Tryd.prog 10 #[v, .int .i64 c] w fun e w' => FoundZ (findS c (ses zs)) e ∧ Below w.heap.size w w' := by
  obtain ⟨A, ca, rfl⟩ := hv.form
  obtain ⟨W0, hW0⟩ : ∃ W0, ((w.alloc (.cells #[.slice A zs.length ca] 22)).alloc (.cells #[.int .i64 c] 2)).alloc (.cells #[.int .i64 0, .int .i64 0, .int .i64 0, .int .i64 0, .bool false, .string ⟨#[]⟩, .slice none 0 0] 28) = W0 := ⟨_, rfl⟩
  have Z0 : BoxS (w.heap.size + 1 + 1) zeroZ W0 := by
    have := BoxS.zero ((w.alloc (.cells #[.slice A zs.length ca] 22)).alloc (.cells #[.int .i64 c] 2))
    rw [World.size_alloc, World.size_alloc] at this
    rw [← hW0]
    exact this
  have hb0 : Below w.heap.size w W0 := by rw [← hW0]; exact (((Below.refl _ w).alloc (Nat.le_refl _) _).alloc (by simp) _).alloc (by simp; omega) _
  have x0 : W0.cell? ⟨w.heap.size, 0, none⟩ = some (.slice A zs.length ca) := by rw [← hW0]; simp [go_sem]
  have x1 : W0.cell? ⟨w.heap.size + 1, 0, none⟩ = some (.int .i64 c) := by rw [← hW0]; simp [go_sem]
  have hz0 : W0.heap.size = w.heap.size + 3 := by rw [← hW0]; simp
  have hv0 : SZ W0 W0.heap.size (.slice A zs.length ca) zs := (hv.below hb0).more hb0.size
  have hat : ∀ t (h : t < zs.length), (zs.getD t zeroZ) = zs[t] := fun t h => by rw [List.getD_eq_getElem?_getD, List.getElem?_eq_getElem h]; rfl
  have cs := search_any zs.length (fun t => decide ((zs.getD t zeroZ).1.client ≥ c)) w.heap.size (w.heap.size + 1) W0 W0 (by omega) (Below.refl _ _) (fun i wx hi hx => by
    show Calls _ _ _ _ fun e w' => e = .returned (.bool (decide ((zs.getD i zeroZ).1.client ≥ c))) ∧ Below W0.heap.size W0 w'
    rw [hat i hi]
    exact closure_any zs A ca c w.heap.size (w.heap.size + 1) i W0 wx hi hv0 x0 x1 (by omega) (by omega) hx) (mono_place hr)
  obtain ⟨n, hn⟩ : ∃ n, zs.length = n := ⟨_, rfl⟩
  have HN := Lib.hid hn
  have hvh := Lib.hid hv
  have hv0h := Lib.hid hv0
  have hrh := Lib.hid hr
  rw [hn] at hl x0 cs hW0 ⊢
  clear hn hv hv0 hr hat
  go_enter Tryd.func10, Tryd.ntmps10
  go_wp2_with fail
  try rw [hW0]
  refine cs.mono ?_
  rintro e w1 ⟨k, rfl, hpl, hb1⟩
  have y0 := (hb1.cell (p := ⟨w.heap.size, 0, none⟩) (show w.heap.size < W0.heap.size by omega)).trans x0
  have y1 := (hb1.cell (p := ⟨w.heap.size + 1, 0, none⟩) (show w.heap.size + 1 < W0.heap.size by omega)).trans x1
  have Z1 := Z0.keep hb1
  have hbw : Below w.heap.size w w1 := hb0.trans (hb1.mono (by omega))
  have hz1 := hbw.size
  have hkn := hpl.1
  have hl2 : w.heap.size + 1 < w1.heap.size := by have := hb1.size; omega
  have hans := find_place hrh.out (by rw [HN.out]; exact hpl)
  clear hpl cs hb0 hb1 Z0 x0 x1 hW0 hrh
  by_cases hlt : k < n
  · have hkx : k < zs.length := by rw [HN.out]; exact hlt
    rw [dif_pos hkx] at hans
    have hv1 := (hvh.out.below hbw)
    rw [HN.out] at hv1
    obtain ⟨b, o, rfl, hb, q0, q1, q2, q3, q4, q5, q6⟩ := hv1.at_ hkx
    obtain ⟨hps, pa, pc, hpv⟩ := hp zs[k] (List.getElem_mem hkx)
    obtain ⟨⟨⟨cl, sq, r⟩, pv⟩, hzk⟩ : ∃ z, zs[k] = z := ⟨_, rfl⟩
    rw [hzk] at q0 q1 q2 q3 q4 q5 q6 hps hpv hans
    simp only at q0 q1 q2 q3 q4 q5 q6 hps hpv hans
    subst hpv
    have co := fun w => own0 ⟨cl, sq, r⟩ pa pc w
    have k0 : (0 ≤ (k : Int)) = True := eq_true (by omega)
    have k1 : ((k : Int) < (n : Int)) = True := eq_true (by omega)
    have k2 : ((k : Int) == (n : Int)) = false := by rw [beq_eq_false_iff_ne]; omega
    have k3 : ((k : Int) = (n : Int)) = False := eq_false (by omega)
    have k4 : (k = n) = False := eq_false (by omega)
    have k5 : (k == n) = false := by rw [beq_eq_false_iff_ne]; omega
    have hbz : b < w1.heap.size := by omega
    by_cases hc : cl = c
    · rw [if_pos hc] at hans
      have HANS := Lib.hid hans
      have j1 : (cl == c) = true := by simpa using hc
      have j2 : (cl != c) = false := by simp [hc]
      clear hans hv1 hzk hkx hps hc
      go_wp2_with fail
      refine St.wp_region_stage (fun _ wx => wx = w1.drew) (by kernel_rfl) (by kernel_rfl) (by kernel_rfl) rfl ?_
      repeat (first
        | (apply St.step_past
           · rfl
           · exact fun L wx hS => hS
           simp only [Act.put, List.setIfInBounds_toArray, List.set_cons_zero, List.set_cons_succ])
        | (apply St.step_give
           · rfl
           · rintro L wx rfl hcl hrd
             go_simp
             try with_reducible rfl
           · exact fun L wx hS => hS
           simp only [Act.put, List.setIfInBounds_toArray, List.set_cons_zero, List.set_cons_succ]))
      refine St.step_last ?_
      rintro L wx rfl _
      go_wp2_with fail
      refine (co _).mono ?_
      rintro e w2 ⟨⟨A', c', rfl⟩, b2⟩
      have Z2 := Z1.drew.keep b2
      have hb2 : Below w.heap.size w w2 := hbw.drew.trans (b2.mono hz1)
      have hz2 := hb2.size
      clear b2 co Z1
      obtain ⟨q_0, ⟨q_1, q_2, q_3, q_4, q_5, q_6, q_7⟩, q_8⟩ := _root_.id Z2
      go_wp2_with fail
      exact bodyPost_ret (res_BoxS_tmp Tryd.results10 rfl rfl (BoxS.put Z2 (⟨cl, sq, r⟩, .slice A' 0 c'))) rfl ⟨⟨A', c', by rw [HANS.out]; rfl⟩, (by (repeat' (first | with_reducible assumption | with_reducible exact Below.refl _ _ | with_reducible refine Below.alloc ?_ ?_ _ | with_reducible refine Below.setCell ?_ ?_ _ | with_reducible refine Below.drew ?_ | omega | (simp; done) | (simp; omega))))⟩
    · rw [if_neg hc] at hans
      have HANS := Lib.hid hans
      have j1 : (cl == c) = false := by simpa using hc
      have j2 : (cl != c) = true := by simpa using hc
      clear hans hv1 hzk hkx hps hc co
      go_wp2_with fail
      refine St.wp_region_stage (fun _ wx => wx = w1.drew) (by kernel_rfl) (by kernel_rfl) (by kernel_rfl) rfl ?_
      repeat (first
        | (apply St.step_past
           · rfl
           · exact fun L wx hS => hS
           simp only [Act.put, List.setIfInBounds_toArray, List.set_cons_zero, List.set_cons_succ])
        | (apply St.step_give
           · rfl
           · rintro L wx rfl hcl hrd
             go_simp
             try with_reducible rfl
           · exact fun L wx hS => hS
           simp only [Act.put, List.setIfInBounds_toArray, List.set_cons_zero, List.set_cons_succ]))
      refine St.step_last ?_
      rintro L wx rfl _
      obtain ⟨wd, hwd⟩ : ∃ wd, w1.drew = wd := ⟨_, rfl⟩
      have Zd : BoxS (w.heap.size + 1 + 1) zeroZ wd := hwd ▸ Z1.drew
      have hbd : Below w.heap.size w wd := hwd ▸ hbw.drew
      have hzd := hbd.size
      rw [hwd]
      clear hwd Z1
      obtain ⟨q_0, ⟨q_1, q_2, q_3, q_4, q_5, q_6, q_7⟩, q_8⟩ := _root_.id Zd
      go_wp2_with fail
      exact bodyPost_ret (res_BoxS_tmp Tryd.results10 rfl rfl (BoxS.put Zd zeroZ)) rfl ⟨⟨none, 0, by rw [HANS.out]; rfl⟩, (by (repeat' (first | with_reducible assumption | with_reducible exact Below.refl _ _ | with_reducible refine Below.alloc ?_ ?_ _ | with_reducible refine Below.setCell ?_ ?_ _ | with_reducible refine Below.drew ?_ | omega | (simp; done) | (simp; omega))))⟩
  · obtain rfl : k = n := by omega
    rw [dif_neg (by rw [HN.out]; omega)] at hans
    have HANS := Lib.hid hans
    clear hans
    go_wp2_with fail
    refine St.wp_region_stage (fun _ wx => wx = w1.drew) (by kernel_rfl) (by kernel_rfl) (by kernel_rfl) rfl ?_
    repeat (first
      | (apply St.step_past
         · rfl
         · exact fun L wx hS => hS
         simp only [Act.put, List.setIfInBounds_toArray, List.set_cons_zero, List.set_cons_succ])
      | (apply St.step_give
         · rfl
         · rintro L wx rfl hcl hrd
           go_simp
           try with_reducible rfl
         · exact fun L wx hS => hS
         simp only [Act.put, List.setIfInBounds_toArray, List.set_cons_zero, List.set_cons_succ]))
    refine St.step_last ?_
    rintro L wx rfl _
    obtain ⟨wd, hwd⟩ : ∃ wd, w1.drew = wd := ⟨_, rfl⟩
    have Zd : BoxS (w.heap.size + 1 + 1) zeroZ wd := hwd ▸ Z1.drew
    have hbd : Below w.heap.size w wd := hwd ▸ hbw.drew
    have hzd := hbd.size
    rw [hwd]
    clear hwd Z1
    obtain ⟨q_0, ⟨q_1, q_2, q_3, q_4, q_5, q_6, q_7⟩, q_8⟩ := _root_.id Zd
    go_wp2_with fail
    exact bodyPost_ret (res_BoxS_tmp Tryd.results10 rfl rfl (BoxS.put Zd zeroZ)) rfl ⟨⟨none, 0, by rw [HANS.out]; rfl⟩, (by (repeat' (first | with_reducible assumption | with_reducible exact Below.refl _ _ | with_reducible refine Below.alloc ?_ ?_ _ | with_reducible refine Below.setCell ?_ ?_ _ | with_reducible refine Below.drew ?_ | omega | (simp; done) | (simp; omega))))⟩
end Go.Proofs.YticikmkehobblaaDoor.Ss

namespace Go.Proofs.YticikmkehobblaaDoor.Ss
open Go.RowKit Bnd
open Go.Proofs.YticikmkehobblaaDoor.Od (Rep SP ArgP OwnP rv BoxR)

theorem putR_below {w w0 : World} {N n : Nat} {a b c d e : Value} (h : Below N w0 w) (hn : N ≤ n) : Below N w0 (World.setCell (World.setCell (World.setCell (World.setCell (World.setCell w ⟨n, 0, none⟩ a) ⟨n, 1, none⟩ b) ⟨n, 2, none⟩ c) ⟨n, 3, none⟩ d) ⟨n, 4, none⟩ e) :=
  ((((h.setCell (p := ⟨n, 0, none⟩) hn _).setCell (p := ⟨n, 1, none⟩) hn _).setCell (p := ⟨n, 2, none⟩) hn _).setCell (p := ⟨n, 3, none⟩) hn _).setCell (p := ⟨n, 4, none⟩) hn _
/-- what Ask answers -/
def AskedZ (o : Rep × Bool) (e : Ending) : Prop := ∃ A c, e = .returned (.tuple #[rv o.1 (.slice A 0 c), .bool o.2])
set_option maxHeartbeats 4000000 in
theorem rfind_any (v : Value) (zs : List Zs) (c : Int) (w : World) (hv : SZ w w.heap.size v zs) (hp : NoP zs) (hl : zs.length ≤ 1000000) :
    Calls Tryd.prog 12 #[v, .int .i64 c] w fun e w' => FoundZ (findS c (ses zs)) e ∧ Below w.heap.size w w' := by
  obtain ⟨A, ca, rfl⟩ := hv.form
  have Z0 := BoxS.zero w
  obtain ⟨n, hn⟩ : ∃ n, zs.length = n := ⟨_, rfl⟩
  have HN := Lib.hid hn
  obtain ⟨R, hR⟩ : ∃ R, findS c ((ses zs).drop 0) = R := ⟨_, rfl⟩
  have HR0 := Lib.hid hR
  have hR' : findS c (ses zs) = R := hR
  rw [hR']
  rw [hn] at hl ⊢
  have hvh := Lib.hid hv
  clear hn hR hR' hv
  go_enter Tryd.func12, Tryd.ntmps12
  go_wp2_with fail
  obtain ⟨W0, hW0⟩ : ∃ W0, w.alloc (.cells #[.int .i64 0, .int .i64 0, .int .i64 0, .int .i64 0, .bool false, .string ⟨#[]⟩, .slice none 0 0] 28) = W0 := ⟨_, rfl⟩
  have hb0 : Below w.heap.size w W0 := hW0 ▸ (Below.refl _ w).alloc (Nat.le_refl _) _
  have hz0 := hb0.size
  have Z1 : BoxS w.heap.size zeroZ W0 := hW0 ▸ Z0
  try rw [hW0]
  clear hW0 Z0
  go_loop [6] (fun vi => ∃ k : Nat, k ≤ n ∧ vi = .int .i64 (k : Int) ∧ Hid (findS c ((ses zs).drop k) = R)) (fun vi => n - (intOf vi).toNat)
  case atStart => exact ⟨0, Nat.zero_le _, rfl, HR0⟩
  case round =>
    obtain ⟨k, hk, rfl, HR⟩ := hrel
    by_cases hlt : k < n
    · have hkx : k < zs.length := by rw [HN.out]; exact hlt
      have hv1 := hvh.out.below hb0
      rw [HN.out] at hv1
      obtain ⟨b, o, rfl, hb, q0, q1, q2, q3, q4, q5, q6⟩ := hv1.at_ hkx
      obtain ⟨hps, pa, pc, hpv⟩ := hp zs[k] (List.getElem_mem hkx)
      have hd := ses_drop zs k hkx
      obtain ⟨⟨⟨cl, sq, r⟩, pv⟩, hzk⟩ : ∃ z, zs[k] = z := ⟨_, rfl⟩
      rw [hzk] at q0 q1 q2 q3 q4 q5 q6 hps hpv hd
      simp only at q0 q1 q2 q3 q4 q5 q6 hps hpv hd
      subst hpv
      have HD := Lib.hid (show (if cl = c then some ⟨cl, sq, r⟩ else findS c ((ses zs).drop (k + 1))) = R by rw [← HR.out, hd, findS_cons])
      have hk1 : (k : Int) < (n : Int) := by omega
      have hbz : b < W0.heap.size := by omega
      clear hd hzk hv1 hkx hps HR
      by_cases hc : cl = c
      · have j1 : (cl == c) = true := by simpa using hc
        have HA : Hid (R = some ⟨cl, sq, r⟩) := Lib.hid (by rw [← HD.out, if_pos hc])
        clear HD hc
        obtain ⟨q_0, ⟨q_1, q_2, q_3, q_4, q_5, q_6, q_7⟩, q_8⟩ := _root_.id Z1
        go_wp2_with fail
        exact bodyPost_ret (res_BoxS_tmp Tryd.results12 rfl rfl (BoxS.put Z1 (⟨cl, sq, r⟩, .slice pa 0 pc))) rfl ⟨⟨pa, pc, by rw [HA.out]; rfl⟩, (by (repeat' (first | with_reducible assumption | with_reducible exact Below.refl _ _ | with_reducible refine Below.alloc ?_ ?_ _ | with_reducible refine Below.setCell ?_ ?_ _ | with_reducible refine Below.drew ?_ | omega | (simp; done) | (simp; omega))))⟩
      · have j1 : (cl == c) = false := by simpa using hc
        have HN2 : Hid (findS c ((ses zs).drop (k + 1)) = R) := Lib.hid (by rw [← HD.out, if_neg hc])
        clear HD hc
        go_wp2_with fail
        go_round
        case rel => exact ⟨k + 1, by omega, by go_num, HN2⟩
        case measure => simp [intOf]; omega
    · obtain rfl : k = n := by omega
      have HA : Hid (R = none) := Lib.hid (by
        rw [← HR.out, ← HN.out]
        have : (ses zs).drop zs.length = [] := by simp
        rw [this]; rfl)
      clear HR
      obtain ⟨q_0, ⟨q_1, q_2, q_3, q_4, q_5, q_6, q_7⟩, q_8⟩ := _root_.id Z1
      go_wp2_with fail
      exact bodyPost_ret (res_BoxS_tmp Tryd.results12 rfl rfl (BoxS.put Z1 zeroZ)) rfl ⟨⟨none, 0, by rw [HA.out]; rfl⟩, (by (repeat' (first | with_reducible assumption | with_reducible exact Below.refl _ _ | with_reducible refine Below.alloc ?_ ?_ _ | with_reducible refine Below.setCell ?_ ?_ _ | with_reducible refine Below.drew ?_ | omega | (simp; done) | (simp; omega))))⟩

set_option maxHeartbeats 8000000 in
set_option maxRecDepth 100000 in
theorem ask_any (v : Value) (zs : List Zs) (c q : Int) (w : World) (hv : SZ w w.heap.size v zs) (hr : riseB 0 (ses zs) = true) (hp : NoP zs) (hl : zs.length ≤ 1000000) :
    Calls Tryd.prog 13 #[v, .int .i64 c, .int .i64 q] w fun e w' => AskedZ (askS (ses zs) c q) e ∧ Below w.heap.size w w' := by
  have cf := fun w h => find_any v zs c w h hr hp hl
  have R0 := BoxR.new w Od.Rep.zero (.slice none 0 0)
  have hvh := Lib.hid hv
  clear hv
  cases hs : findS c (ses zs) with
  | none =>
    rw [hs] at cf
    rw [ask_none hs]
    clear hs
    go_enter Tryd.func13, Tryd.ntmps13
    go_wp2_with fail
    refine (cf _ ((hvh.out.below (by (repeat' (first | with_reducible assumption | with_reducible exact Below.refl _ _ | with_reducible refine Below.alloc ?_ ?_ _ | with_reducible refine Below.setCell ?_ ?_ _ | with_reducible refine Below.drew ?_ | omega | (simp; done) | (simp; omega))))).more (by simp))).mono ?_
    rintro e w1 ⟨⟨A', c', he⟩, b1⟩
    simp only [optS] at he
    subst he
    have R1 := R0.keep b1
    have hb1 : Below w.heap.size w w1 := (show Below w.heap.size w _ from (by (repeat' (first | with_reducible assumption | with_reducible exact Below.refl _ _ | with_reducible refine Below.alloc ?_ ?_ _ | with_reducible refine Below.setCell ?_ ?_ _ | with_reducible refine Below.drew ?_ | omega | (simp; done) | (simp; omega))))).trans (b1.mono (by simp))
    have hz1 := hb1.size
    have hlt := R1.1
    clear b1 R0 cf
    obtain ⟨q_0, ⟨q_1, q_2, q_3, q_4, q_5⟩, q_6⟩ := _root_.id R1
    go_wp2_with fail
    exact bodyPost_ret (Od.res_BoxR_tmp Tryd.results13 rfl rfl ((BoxR.put R1 Od.Rep.zero (.slice none 0 0)).alloc _)) rfl ⟨⟨_, _, rfl⟩, (putR_below hb1 (Nat.le_refl _)).alloc (by simp; omega) _⟩
  | some s =>
    rw [hs] at cf
    rw [ask_some hs]
    obtain ⟨cl, sq, r⟩ := s
    clear hs
    by_cases h1 : sq < q
    · have g1 : (sq < q) = True := eq_true h1
      have g2 : (sq == q) = false := by rw [beq_eq_false_iff_ne]; omega
      have g3 : (sq > q) = False := eq_false (by omega)
      rw [if_pos h1]
      clear h1
      go_enter Tryd.func13, Tryd.ntmps13
      go_wp2_with fail
      refine (cf _ ((hvh.out.below (by (repeat' (first | with_reducible assumption | with_reducible exact Below.refl _ _ | with_reducible refine Below.alloc ?_ ?_ _ | with_reducible refine Below.setCell ?_ ?_ _ | with_reducible refine Below.drew ?_ | omega | (simp; done) | (simp; omega))))).more (by simp))).mono ?_
      rintro e w1 ⟨⟨A', c', he⟩, b1⟩
      simp only [optS] at he
      subst he
      have R1 := R0.keep b1
      have hb1 : Below w.heap.size w w1 := (show Below w.heap.size w _ from (by (repeat' (first | with_reducible assumption | with_reducible exact Below.refl _ _ | with_reducible refine Below.alloc ?_ ?_ _ | with_reducible refine Below.setCell ?_ ?_ _ | with_reducible refine Below.drew ?_ | omega | (simp; done) | (simp; omega))))).trans (b1.mono (by simp))
      have hz1 := hb1.size
      have hlt := R1.1
      clear b1 R0 cf
      obtain ⟨q_0, ⟨q_1, q_2, q_3, q_4, q_5⟩, q_6⟩ := _root_.id R1
      go_wp2_with fail
      exact bodyPost_ret (Od.res_BoxR_tmp Tryd.results13 rfl rfl ((BoxR.put R1 Od.Rep.zero (.slice none 0 0)).alloc _)) rfl ⟨⟨_, _, rfl⟩, (putR_below hb1 (Nat.le_refl _)).alloc (by simp; omega) _⟩
    · rw [if_neg h1]
      have g1 : (sq < q) = False := eq_false h1
      by_cases h2 : sq = q
      · have g2 : (sq == q) = true := by simpa using h2
        rw [if_pos h2]
        clear h1 h2
        go_enter Tryd.func13, Tryd.ntmps13
        go_wp2_with fail
        refine (cf _ ((hvh.out.below (by (repeat' (first | with_reducible assumption | with_reducible exact Below.refl _ _ | with_reducible refine Below.alloc ?_ ?_ _ | with_reducible refine Below.setCell ?_ ?_ _ | with_reducible refine Below.drew ?_ | omega | (simp; done) | (simp; omega))))).more (by simp))).mono ?_
        rintro e w1 ⟨⟨A', c', he⟩, b1⟩
        simp only [optS] at he
        subst he
        have R1 := R0.keep b1
        have hb1 : Below w.heap.size w w1 := (show Below w.heap.size w _ from (by (repeat' (first | with_reducible assumption | with_reducible exact Below.refl _ _ | with_reducible refine Below.alloc ?_ ?_ _ | with_reducible refine Below.setCell ?_ ?_ _ | with_reducible refine Below.drew ?_ | omega | (simp; done) | (simp; omega))))).trans (b1.mono (by simp))
        have hz1 := hb1.size
        have hlt := R1.1
        clear b1 R0 cf
        obtain ⟨q_0, ⟨q_1, q_2, q_3, q_4, q_5⟩, q_6⟩ := _root_.id R1
        go_wp2_with fail
        exact bodyPost_ret (Od.res_BoxR_tmp Tryd.results13 rfl rfl ((BoxR.put R1 r (.slice A' 0 c')).alloc _)) rfl ⟨⟨_, _, rfl⟩, (putR_below hb1 (Nat.le_refl _)).alloc (by simp; omega) _⟩
      · have g2 : (sq == q) = false := by simpa using h2
        have g3 : (sq > q) = True := eq_true (by omega)
        rw [if_neg h2]
        clear h1 h2
        go_enter Tryd.func13, Tryd.ntmps13
        go_wp2_with fail
        refine (cf _ ((hvh.out.below (by (repeat' (first | with_reducible assumption | with_reducible exact Below.refl _ _ | with_reducible refine Below.alloc ?_ ?_ _ | with_reducible refine Below.setCell ?_ ?_ _ | with_reducible refine Below.drew ?_ | omega | (simp; done) | (simp; omega))))).more (by simp))).mono ?_
        rintro e w1 ⟨⟨A', c', he⟩, b1⟩
        simp only [optS] at he
        subst he
        have R1 := R0.keep b1
        have hb1 : Below w.heap.size w w1 := (show Below w.heap.size w _ from (by (repeat' (first | with_reducible assumption | with_reducible exact Below.refl _ _ | with_reducible refine Below.alloc ?_ ?_ _ | with_reducible refine Below.setCell ?_ ?_ _ | with_reducible refine Below.drew ?_ | omega | (simp; done) | (simp; omega))))).trans (b1.mono (by simp))
        have hz1 := hb1.size
        have hlt := R1.1
        clear b1 R0 cf
        obtain ⟨q_0, ⟨q_1, q_2, q_3, q_4, q_5⟩, q_6⟩ := _root_.id R1
        go_wp2_with fail
        exact bodyPost_ret (Od.res_BoxR_tmp Tryd.results13 rfl rfl ((BoxR.put R1 ⟨3, 0, false, Od.E0, []⟩ (.slice none 0 0)).alloc _)) rfl ⟨⟨_, _, rfl⟩, (putR_below hb1 (Nat.le_refl _)).alloc (by simp; omega) _⟩

set_option maxHeartbeats 8000000 in
set_option maxRecDepth 100000 in
theorem rask_any (v : Value) (zs : List Zs) (c q : Int) (w : World) (hv : SZ w w.heap.size v zs) (hp : NoP zs) (hl : zs.length ≤ 1000000) :
    Calls Tryd.prog 14 #[v, .int .i64 c, .int .i64 q] w fun e w' => AskedZ (askS (ses zs) c q) e ∧ Below w.heap.size w w' := by
  have cf := fun w h => rfind_any v zs c w h hp hl
  have R0 := BoxR.new w Od.Rep.zero (.slice none 0 0)
  have hvh := Lib.hid hv
  clear hv
  cases hs : findS c (ses zs) with
  | none =>
    rw [hs] at cf
    rw [ask_none hs]
    clear hs
    go_enter Tryd.func14, Tryd.ntmps14
    go_wp2_with fail
    refine (cf _ ((hvh.out.below (by (repeat' (first | with_reducible assumption | with_reducible exact Below.refl _ _ | with_reducible refine Below.alloc ?_ ?_ _ | with_reducible refine Below.setCell ?_ ?_ _ | with_reducible refine Below.drew ?_ | omega | (simp; done) | (simp; omega))))).more (by simp))).mono ?_
    rintro e w1 ⟨⟨A', c', he⟩, b1⟩
    simp only [optS] at he
    subst he
    have R1 := R0.keep b1
    have hb1 : Below w.heap.size w w1 := (show Below w.heap.size w _ from (by (repeat' (first | with_reducible assumption | with_reducible exact Below.refl _ _ | with_reducible refine Below.alloc ?_ ?_ _ | with_reducible refine Below.setCell ?_ ?_ _ | with_reducible refine Below.drew ?_ | omega | (simp; done) | (simp; omega))))).trans (b1.mono (by simp))
    have hz1 := hb1.size
    have hlt := R1.1
    clear b1 R0 cf
    obtain ⟨q_0, ⟨q_1, q_2, q_3, q_4, q_5⟩, q_6⟩ := _root_.id R1
    go_wp2_with fail
    exact bodyPost_ret (Od.res_BoxR_tmp Tryd.results14 rfl rfl ((BoxR.put R1 Od.Rep.zero (.slice none 0 0)).alloc _)) rfl ⟨⟨_, _, rfl⟩, (putR_below hb1 (Nat.le_refl _)).alloc (by simp; omega) _⟩
  | some s =>
    rw [hs] at cf
    rw [ask_some hs]
    obtain ⟨cl, sq, r⟩ := s
    clear hs
    by_cases h1 : sq < q
    · have g1 : (sq < q) = True := eq_true h1
      have g2 : (sq == q) = false := by rw [beq_eq_false_iff_ne]; omega
      have g3 : (sq > q) = False := eq_false (by omega)
      rw [if_pos h1]
      clear h1
      go_enter Tryd.func14, Tryd.ntmps14
      go_wp2_with fail
      refine (cf _ ((hvh.out.below (by (repeat' (first | with_reducible assumption | with_reducible exact Below.refl _ _ | with_reducible refine Below.alloc ?_ ?_ _ | with_reducible refine Below.setCell ?_ ?_ _ | with_reducible refine Below.drew ?_ | omega | (simp; done) | (simp; omega))))).more (by simp))).mono ?_
      rintro e w1 ⟨⟨A', c', he⟩, b1⟩
      simp only [optS] at he
      subst he
      have R1 := R0.keep b1
      have hb1 : Below w.heap.size w w1 := (show Below w.heap.size w _ from (by (repeat' (first | with_reducible assumption | with_reducible exact Below.refl _ _ | with_reducible refine Below.alloc ?_ ?_ _ | with_reducible refine Below.setCell ?_ ?_ _ | with_reducible refine Below.drew ?_ | omega | (simp; done) | (simp; omega))))).trans (b1.mono (by simp))
      have hz1 := hb1.size
      have hlt := R1.1
      clear b1 R0 cf
      obtain ⟨q_0, ⟨q_1, q_2, q_3, q_4, q_5⟩, q_6⟩ := _root_.id R1
      go_wp2_with fail
      exact bodyPost_ret (Od.res_BoxR_tmp Tryd.results14 rfl rfl ((BoxR.put R1 Od.Rep.zero (.slice none 0 0)).alloc _)) rfl ⟨⟨_, _, rfl⟩, (putR_below hb1 (Nat.le_refl _)).alloc (by simp; omega) _⟩
    · rw [if_neg h1]
      have g1 : (sq < q) = False := eq_false h1
      by_cases h2 : sq = q
      · have g2 : (sq == q) = true := by simpa using h2
        rw [if_pos h2]
        clear h1 h2
        go_enter Tryd.func14, Tryd.ntmps14
        go_wp2_with fail
        refine (cf _ ((hvh.out.below (by (repeat' (first | with_reducible assumption | with_reducible exact Below.refl _ _ | with_reducible refine Below.alloc ?_ ?_ _ | with_reducible refine Below.setCell ?_ ?_ _ | with_reducible refine Below.drew ?_ | omega | (simp; done) | (simp; omega))))).more (by simp))).mono ?_
        rintro e w1 ⟨⟨A', c', he⟩, b1⟩
        simp only [optS] at he
        subst he
        have R1 := R0.keep b1
        have hb1 : Below w.heap.size w w1 := (show Below w.heap.size w _ from (by (repeat' (first | with_reducible assumption | with_reducible exact Below.refl _ _ | with_reducible refine Below.alloc ?_ ?_ _ | with_reducible refine Below.setCell ?_ ?_ _ | with_reducible refine Below.drew ?_ | omega | (simp; done) | (simp; omega))))).trans (b1.mono (by simp))
        have hz1 := hb1.size
        have hlt := R1.1
        clear b1 R0 cf
        obtain ⟨q_0, ⟨q_1, q_2, q_3, q_4, q_5⟩, q_6⟩ := _root_.id R1
        go_wp2_with fail
        exact bodyPost_ret (Od.res_BoxR_tmp Tryd.results14 rfl rfl ((BoxR.put R1 r (.slice A' 0 c')).alloc _)) rfl ⟨⟨_, _, rfl⟩, (putR_below hb1 (Nat.le_refl _)).alloc (by simp; omega) _⟩
      · have g2 : (sq == q) = false := by simpa using h2
        have g3 : (sq > q) = True := eq_true (by omega)
        rw [if_neg h2]
        clear h1 h2
        go_enter Tryd.func14, Tryd.ntmps14
        go_wp2_with fail
        refine (cf _ ((hvh.out.below (by (repeat' (first | with_reducible assumption | with_reducible exact Below.refl _ _ | with_reducible refine Below.alloc ?_ ?_ _ | with_reducible refine Below.setCell ?_ ?_ _ | with_reducible refine Below.drew ?_ | omega | (simp; done) | (simp; omega))))).more (by simp))).mono ?_
        rintro e w1 ⟨⟨A', c', he⟩, b1⟩
        simp only [optS] at he
        subst he
        have R1 := R0.keep b1
        have hb1 : Below w.heap.size w w1 := (show Below w.heap.size w _ from (by (repeat' (first | with_reducible assumption | with_reducible exact Below.refl _ _ | with_reducible refine Below.alloc ?_ ?_ _ | with_reducible refine Below.setCell ?_ ?_ _ | with_reducible refine Below.drew ?_ | omega | (simp; done) | (simp; omega))))).trans (b1.mono (by simp))
        have hz1 := hb1.size
        have hlt := R1.1
        clear b1 R0 cf
        obtain ⟨q_0, ⟨q_1, q_2, q_3, q_4, q_5⟩, q_6⟩ := _root_.id R1
        go_wp2_with fail
        exact bodyPost_ret (Od.res_BoxR_tmp Tryd.results14 rfl rfl ((BoxR.put R1 ⟨3, 0, false, Od.E0, []⟩ (.slice none 0 0)).alloc _)) rfl ⟨⟨_, _, rfl⟩, (putR_below hb1 (Nat.le_refl _)).alloc (by simp; omega) _⟩
end Go.Proofs.YticikmkehobblaaDoor.Ss

/-
  The laws' own roll and live: live answers true. Condition: the library's variables hold what their types allow.
-/
import Derived.Test.YtimodohcihnoiaaDoorRoMrg
import Derived.Test.YtimodohcihnoiaaDoorRoComp
import Derived.Test.YtimodohcihnoiaaDoorRoTerm
import Derived.Test.YtimodohcihnoiaaDoorRoPut
import Derived.Test.YtimodohcihnoiaaDoorRoParse
namespace Go.Proofs.YtimodohcihnoiaaDoor.Ro
open Go.RowKit
open Go.Proofs.YtimodohcihnoiaaDoor.M (tieT untieT intT numT inR)

/-- entries that lie in a block, from its first cell on -/
theorem argE_cells {W : World} {n : Nat} {es : List En} (hn : n < W.heap.size) (h : ∀ j u, (ecells es)[j]? = some u → W.cell? ⟨n, j, none⟩ = some u) : ArgE W (.slice (some ⟨n, 0, none⟩) es.length es.length) es := by
  refine .some n 0 _ es (Nat.le_refl _) ⟨_, _, rfl, fun _ => ⟨n, 0, rfl, hn, fun i hi => ?_⟩⟩
  obtain ⟨g1, g2⟩ := ecells_get es i hi
  rw [Nat.zero_add]
  exact ⟨h _ _ g1, h _ _ g2⟩
theorem ArgE.form_n {W : World} {v : Value} {es : List En} {n : Nat} (h : ArgE W v es) (hn : es.length = n) : ∃ A c, v = .slice A n c := by subst hn; exact h.form
def rS : Lg := ⟨4, 1, [(1, ⟨#[97]⟩), (1, ⟨#[98]⟩), (2, ⟨#[99]⟩)]⟩
set_option maxHeartbeats 4000000 in
set_option maxRecDepth 100000 in
theorem some_any (w : World) : Calls Tryd.prog 34 #[] w fun e w' => GaveL w rS e w' := by
  go_enter Tryd.func34, Tryd.ntmps34
  go_wp2_with fail
  refine bodyPost_ret (res_box Tryd.results34 rfl ((BoxL.new w rS (.slice (some ⟨w.heap.size + 1, 0, none⟩) 3 3)).alloc _)) rfl ⟨_, rfl, ?_, (by (repeat' (first | with_reducible assumption | with_reducible exact Below.refl _ _ | with_reducible refine Below.alloc ?_ ?_ _ | with_reducible refine Below.setCell ?_ ?_ _ | with_reducible refine Below.drew ?_ | omega | (simp; done) | (simp; omega))))⟩
  refine argE_cells (es := rS.es) (by simp) ?_
  rintro (_ | _ | _ | _ | _ | _ | j) u h
  all_goals
    simp only [rS, ecells, List.getElem?_cons_zero, List.getElem?_cons_succ, Option.some.injEq, List.getElem?_nil, reduceCtorEq] at h
  all_goals
    subst h
    simp [go_sem]
def rM : Lg := ⟨4, 1, [(1, ⟨#[97]⟩), (1, ⟨#[98]⟩), (3, ⟨#[100]⟩)]⟩
def rC : Lg := ⟨6, 1, [(3, ⟨#[100]⟩)]⟩
def rZ : Lg := ⟨-1, 0, []⟩
theorem rM_put : PutL rM := ⟨by decide, by decide, fun e he => by
  simp only [rM, List.mem_cons, List.not_mem_nil, or_false] at he
  rcases he with rfl | rfl | rfl <;> exact ⟨by decide, by decide⟩, by decide⟩
theorem rM_short : (putL rM).length ≤ 500 := by
  have a1 := M.numT_length (show inR 4 by decide)
  have a2 := M.numT_length (show inR 1 by decide)
  have a3 := M.numT_length (show inR 3 by decide)
  unfold putL
  have h1 := M.tie_length (strandsL rM) (by
    intro x hx
    simp only [strandsL, rM, entsT, entT, List.map_cons, List.map_nil, List.flatten_cons, List.flatten_nil, List.append_nil, List.cons_append, List.nil_append, List.mem_cons, List.not_mem_nil, or_false] at hx
    rcases hx with rfl | rfl | rfl | rfl | rfl | rfl | rfl | rfl <;> (first | omega | (simp; done)))
  have h2 : (strandsL rM).length = 8 := rfl
  have h3 : ((strandsL rM).map List.length).sum ≤ 120 := by
    simp only [strandsL, rM, entsT, entT, List.map_cons, List.map_nil, List.flatten_cons, List.flatten_nil, List.append_nil, List.cons_append, List.nil_append, List.sum_cons, List.sum_nil, List.length_cons, List.length_nil]
    omega
  omega
theorem live_parse : parseL (putL rM) = (rM, 0) := parse_put (by kernel_rfl) (by decide) (by have := rM_short; omega)

set_option maxHeartbeats 16000000 in
set_option maxRecDepth 100000 in
theorem live_any (w : World) (hg : Good w) : Calls Tryd.prog 9 #[] w fun e w' => e = .returned (.bool true) ∧ Below w.heap.size w w' := by
  obtain ⟨T, hT⟩ : ∃ T : ByteArray, T = ⟨(putL rM).toArray⟩ := ⟨_, rfl⟩
  have hTd : T.data.toList = putL rM := by rw [hT]
  have hTs : T.size ≤ 12000 := by
    have h1 := rM_short
    have h2 : T.size = (putL rM).length := by rw [hT]; simp [ByteArray.size]
    omega
  have f1 : FitL rS := FitL.of (by kernel_rfl) (by decide)
  have f2 : FitL rM := FitL.of (by kernel_rfl) (by decide)
  have cM1 : ∀ s v w, ArgE w s rS.es → ArgE w v [(1, ⟨#[98]⟩), (3, ⟨#[100]⟩)] → Calls Tryd.prog 32 #[lv rS s, .int .i64 5, .int .i64 1, v] w fun e w' => GaveM w (rM, true) e w' := by
    intro s v w h h'
    have := merge_any rS s 5 1 v _ w h h' f1 (by decide) (by decide) ⟨by decide, by decide⟩
    rw [show mergeL rS 5 1 [(1, ⟨#[98]⟩), (3, ⟨#[100]⟩)] = (rM, true) from rfl] at this
    exact this
  have cM2 : ∀ s w, ArgE w s rS.es → Calls Tryd.prog 32 #[lv rS s, .int .i64 7, .int .i64 1, .slice none 0 0] w fun e w' => GaveM w (rS, false) e w' := by
    intro s w h
    have := merge_any rS s 7 1 (.slice none 0 0) [] w h .nil f1 (by decide) (by decide) ⟨by decide, by decide⟩
    rw [show mergeL rS 7 1 [] = (rS, false) from rfl] at this
    exact this
  have cL : ∀ s w, ArgE w s rM.es → Calls Tryd.prog 19 #[lv rM s] w fun e w' => e = .returned (.tuple #[.int .i64 7, .int .i64 3]) ∧ Below w.heap.size w w' := by
    intro s w h
    exact last_any rM s w h.sm f2
  have cP : ∀ s w, ArgE w s rM.es → Calls Tryd.prog 15 #[lv rM s] w fun e w' => e = .returned (.string T) ∧ Below w.heap.size w w' := by
    intro s w h
    have := put_any rM s w h.sm rM_put
    rw [hT]
    exact this
  have cR : ∀ w, Good w → Calls Tryd.prog 10 #[.string T] w fun e w' => GaveR w (rM, 0) e w' := by
    intro w hg
    have := parse_any T w hTs hg
    rw [hTd, live_parse] at this
    exact this
  have cC : ∀ s w, ArgE w s rM.es → Calls Tryd.prog 28 #[lv rM s, .int .i64 6] w fun e w' => GaveL w rC e w' := by
    intro s w h
    have := compact_any rM s 6 w h f2 (by decide) ⟨by decide, by decide⟩
    rw [show compL rM 6 = rC from rfl] at this
    exact this
  have cS : ∀ s s' w, ArgE w s rM.es → ArgE w s' rM.es → Calls Tryd.prog 18 #[lv rM s, lv rM s'] w fun e w' => e = .returned (.bool true) ∧ Below w.heap.size w w' := by
    intro s s' w h h'
    have := rsame_any rM rM s s' w h.sm h'.sm (by decide) (by decide)
    rw [show decide (rM = rM) = true from decide_eq_true rfl] at this
    exact this
  have cN1 : ∀ s w, ArgE w s rM.es → Calls Tryd.prog 30 #[.int .i64 3, .int .i64 7, lv rM s] w fun e w' => e = .returned (.bool true) ∧ Below w.heap.size w w' := by
    intro s w h
    have := newer_any 3 7 rM s w h.sm f2
    rw [show newerL 3 7 rM = true from rfl] at this
    exact this
  have cN2 : ∀ s w, ArgE w s rM.es → Calls Tryd.prog 30 #[.int .i64 2, .int .i64 9, lv rM s] w fun e w' => e = .returned (.bool false) ∧ Below w.heap.size w w' := by
    intro s w h
    have := newer_any 2 9 rM s w h.sm f2
    rw [show newerL 2 9 rM = false from rfl] at this
    exact this
  have cK : ∀ w, Calls Tryd.prog 13 #[.agg #[.int .i64 (-1), .int .i64 0, .slice none 0 0]] w fun e w' => e = .returned (.int .i64 110) ∧ Below w.heap.size w w' := by
    intro w
    have := check_any rZ (.slice none 0 0) w (SE.nil _ _) (by decide)
    rw [show chkL rZ = 110 from rfl] at this
    exact this
  clear hTd hTs hT f1 f2
  go_enter Tryd.func9, Tryd.ntmps9
  go_wp2_with fail
  refine (some_any _).mono ?_
  rintro e w1 ⟨s1, rfl, ha1, b1⟩
  obtain ⟨A1, c1, rfl, _⟩ := ha1.room
  go_wp2_with fail
  have hx : Below w1.heap.size w1 (w1.alloc (.cells #[.int .i64 1, .string ⟨#[98]⟩, .int .i64 3, .string ⟨#[100]⟩] 54)) := (Below.refl _ w1).alloc (Nat.le_refl _) _
  refine (cM1 _ _ _ (ha1.keep hx) (argE_cells (es := [(1, ⟨#[98]⟩), (3, ⟨#[100]⟩)]) (by simp) (by
    rintro (_ | _ | _ | _ | j) u h
    all_goals
      simp only [ecells, List.getElem?_cons_zero, List.getElem?_cons_succ, Option.some.injEq, List.getElem?_nil, reduceCtorEq] at h
    all_goals
      subst h
      simp [go_sem]))).mono ?_
  rintro e w2 ⟨s2, rfl, ha2, b2⟩
  have hb2 : Below w.heap.size w w2 := b1.trans ((hx.trans (b2.mono (by simp))).mono b1.size)
  obtain ⟨A2, c2, hv2, _⟩ := ha2.room
  rw [show rM.es.length = 3 from rfl] at hv2
  subst hv2
  have B1 := BoxL.new w2 rM (.slice A2 3 c2)
  have HA2 : ∀ w', Below w2.heap.size w2 w' → ArgE w' (.slice A2 3 c2) rM.es := fun w' hb => ha2.keep hb
  clear ha1 ha2 b1 b2 hx
  have hb2' : Below w2.heap.size w2 (w2.alloc (.cells #[.int .i64 rM.base, .int .i64 rM.bt, .slice A2 3 c2] 24)) := (Below.refl _ w2).alloc (Nat.le_refl _) _
  obtain ⟨p_0, ⟨p_1, p_2, p_3⟩, p_4⟩ := _root_.id B1
  go_wp2_with fail
  refine (cL _ _ (HA2 _ hb2')).mono ?_
  rintro e w3 ⟨rfl, b3⟩
  have hb3 : Below w2.heap.size w2 w3 := hb2'.trans (b3.mono hb2'.size)
  have C1 := B1.keep b3
  clear p_0 p_1 p_2 p_3 p_4
  clear b3 B1 hb2' cL cM1
  go_wp2_with fail
  refine (some_any _).mono ?_
  rintro e w4 ⟨s4, rfl, ha4, b4⟩
  obtain ⟨A4, c4, rfl, _⟩ := ha4.room
  have hb4 := hb3.trans (b4.mono hb3.size)
  have D1 := C1.keep b4
  clear b4 C1
  go_wp2_with fail
  refine (cM2 _ _ ha4).mono ?_
  rintro e w5 ⟨s5, rfl, ha5, b5⟩
  obtain ⟨A5, c5, rfl⟩ := ha5.form_n (n := 3) rfl
  have hb5 := hb4.trans (b5.mono hb4.size)
  have E1 := (D1.keep b5).alloc (.cells #[.int .i64 rS.base, .int .i64 rS.bt, .slice A5 3 c5] 24)
  have hb5' := hb5.alloc hb5.size (.cells #[.int .i64 rS.base, .int .i64 rS.bt, .slice A5 3 c5] 24)
  clear b5 D1 ha4 ha5 cM2
  obtain ⟨p_0, ⟨p_1, p_2, p_3⟩, p_4⟩ := _root_.id E1
  go_wp2_with fail
  refine (cP _ _ (HA2 _ hb5')).mono ?_
  rintro e w6 ⟨rfl, b6⟩
  have hb6 := hb5'.trans (b6.mono hb5'.size)
  have F1 := E1.keep b6
  clear p_0 p_1 p_2 p_3 p_4
  clear b6 E1 hb5' cP
  have hbw6 : Below w.heap.size w w6 := hb2.trans (hb6.mono hb2.size)
  go_wp2_with fail
  refine (cR _ (hg.below hbw6)).mono ?_
  rintro e w7 ⟨s7, rfl, ha7, b7⟩
  obtain ⟨A7, c7, rfl⟩ := ha7.form_n (n := 3) rfl
  have hb7 := hb6.trans (b7.mono hb6.size)
  have G1 := (F1.keep b7).alloc (.cells #[.int .i64 rM.base, .int .i64 rM.bt, .slice A7 3 c7] 24)
  have K1 := BoxL.new w7 rM (.slice A7 3 c7)
  have hb7' := hb7.alloc hb7.size (.cells #[.int .i64 rM.base, .int .i64 rM.bt, .slice A7 3 c7] 24)
  have hbx := (Below.refl _ w7).alloc (Nat.le_refl _) (.cells #[.int .i64 rM.base, .int .i64 rM.bt, .slice A7 3 c7] 24)
  have HA7 : ∀ w', Below w7.heap.size w7 w' → ArgE w' (.slice A7 3 c7) rM.es := fun w' hb => ha7.keep hb
  clear b7 F1 ha7 cR
  obtain ⟨p_0, ⟨p_1, p_2, p_3⟩, p_4⟩ := _root_.id G1
  go_wp2_with fail
  refine (cC _ _ (HA2 _ hb7')).mono ?_
  rintro e w8 ⟨s8, rfl, ha8, b8⟩
  obtain ⟨A8, c8, rfl⟩ := ha8.form_n (n := 1) rfl
  have hb8 := hb7'.trans (b8.mono hb7'.size)
  have hbx8 := hbx.trans (b8.mono hbx.size)
  have H1 := (G1.keep b8).alloc (.cells #[.int .i64 rC.base, .int .i64 rC.bt, .slice A8 1 c8] 24)
  have K2 := (K1.keep b8).alloc (.cells #[.int .i64 rC.base, .int .i64 rC.bt, .slice A8 1 c8] 24)
  have M1 := BoxL.new w8 rC (.slice A8 1 c8)
  have hb8' := hb8.alloc hb8.size (.cells #[.int .i64 rC.base, .int .i64 rC.bt, .slice A8 1 c8] 24)
  have hbx8' := hbx8.alloc hbx8.size (.cells #[.int .i64 rC.base, .int .i64 rC.bt, .slice A8 1 c8] 24)
  clear p_0 p_1 p_2 p_3 p_4
  clear b8 G1 K1 ha8 cC hb7' hbx
  obtain ⟨p_0, ⟨p_1, p_2, p_3⟩, p_4⟩ := _root_.id H1
  obtain ⟨q_0, ⟨q_1, q_2, q_3⟩, q_4⟩ := _root_.id K2
  obtain ⟨r_0, ⟨r_1, r_2, r_3⟩, r_4⟩ := _root_.id M1
  go_wp2_with fail
  refine (num_any _ _).mono ?_
  rintro e w' ⟨rfl, rfl⟩
  go_wp2_with fail
  refine (cS _ _ _ (HA7 _ hbx8') (HA2 _ hb8')).mono ?_
  rintro e w9 ⟨rfl, b9⟩
  have hb9 := hb8'.trans (b9.mono hb8'.size)
  have H2 := H1.keep b9
  have M2 := M1.keep b9
  clear p_0 p_1 p_2 p_3 p_4
  clear q_0 q_1 q_2 q_3 q_4
  clear r_0 r_1 r_2 r_3 r_4
  clear b9 H1 K2 M1 cS hb8' hbx8'
  obtain ⟨p_0, ⟨p_1, p_2, p_3⟩, p_4⟩ := _root_.id H2
  obtain ⟨r_0, ⟨r_1, r_2, r_3⟩, r_4⟩ := _root_.id M2
  go_wp2_with fail
  refine (cN1 _ _ (HA2 _ hb9)).mono ?_
  rintro e w10 ⟨rfl, b10⟩
  have hb10 := hb9.trans (b10.mono hb9.size)
  have H3 := H2.keep b10
  clear p_0 p_1 p_2 p_3 p_4
  clear r_0 r_1 r_2 r_3 r_4
  clear b10 H2 M2 cN1
  obtain ⟨p_0, ⟨p_1, p_2, p_3⟩, p_4⟩ := _root_.id H3
  go_wp2_with fail
  refine (cN2 _ _ (HA2 _ hb10)).mono ?_
  rintro e w11 ⟨rfl, b11⟩
  have hb11 := hb10.trans (b11.mono hb10.size)
  clear p_0 p_1 p_2 p_3 p_4
  clear b11 H3 cN2
  go_wp2_with fail
  refine (cK _).mono ?_
  rintro e w12 ⟨rfl, b12⟩
  have hb12 := hb11.trans (b12.mono hb11.size)
  clear b12 cK
  go_wp2_with fail
  refine (num_any _ _).mono ?_
  rintro e w' ⟨rfl, rfl⟩
  go_wp2_with fail
  go_ret
  exact ⟨rfl, hb2.trans (hb12.mono hb2.size)⟩
end Go.Proofs.YtimodohcihnoiaaDoor.Ro

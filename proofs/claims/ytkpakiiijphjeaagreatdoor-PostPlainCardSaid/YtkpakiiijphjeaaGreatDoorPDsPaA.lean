/-
  knot.Untie, and where its texts lie: in a row of the call's own. Conditions as in Untie.
  Parse, the program's, at every text. Condition: lengths below 2^47; the library's variables hold what their types allow.
  Add, the program's. Condition: at most 1000 members, lengths at most 2^47.
  Split, the program's. Condition: at most 1000 members, lengths at most 2^47.
-/
import Derived.Test.YtkpakiiijphjeaaGreatDoorPDsPNA
import Derived.Test.YtkpakiiijphjeaaGreatDoorPDsChA
import Derived.Test.YtkpakiiijphjeaaGreatDoorPDsJoin
import Derived.Test.YtkpakiiijphjeaaGreatDoorPRegA
namespace Go.Proofs.YtkpakiiijphjeaaGreatDoor
open Go.RowKit M
def UntieOwn (base : Nat) (o : Option (List Text)) (e : Ending) (w' : World) : Prop :=
  match o with
  | some l => ∃ v ss, e = .returned (.tuple #[v, .int .i64 0]) ∧ texts ss = l ∧ w'.ownsRow base 9 1 v ss.length (ss.map Value.string)
  | none => e = .returned (.tuple #[.slice none 0 0, .int .i64 10])
set_option maxHeartbeats 4000000 in
set_option maxRecDepth 100000 in
theorem untie_own (s : ByteArray) (w : World) (hs : s.size ≤ 140737488355328) (hg : Good w) :
    Calls Tryz.prog 88 #[.string s] w fun e w' => UntieOwn w.heap.size (untieT s.data.toList) e w' ∧ Below w.heap.size w w' := by
  obtain ⟨i0, hi, hz0, hz1, hz2⟩ := info_parts infoStr
  by_cases hlong : 1048576 < s.size
  · rw [untie_long (by simpa using hlong)]
    have hi' : (1048576 : Int) < (s.size : Int) := by omega
    go_enter Tryz.func88, Tryz.ntmps88
    go_wp2_with fail
    go_ret2
    exact ⟨rfl, Below.refl _ w⟩
  · have hi' : ¬ (1048576 : Int) < (s.size : Int) := by omega
    have hi'' : (s.size : Int) ≤ 1048576 := by omega
    have hsl : s.data.toList.length ≤ 1048576 := by simp; omega
    go_enter Tryz.func88, Tryz.ntmps88
    go_wp2_with fail
    go_loopw [0, 4] (fun v0 v4 wr => ∃ (t : ByteArray) (ss : List ByteArray), v0 = .string t ∧ Hid (s.data.toList = tieT (texts ss) ++ t.data.toList) ∧ ss.length ≤ 4096 ∧ t.size ≤ 1048576 ∧ wr.ownsRow w.heap.size 9 1 v4 ss.length (ss.map Value.string) ∧ Below w.heap.size w wr) (fun v0 _ _ => lenOf v0)
    case atStart => exact ⟨s, [], rfl, rfl, by simp, by omega, ⟨by simp, .inl ⟨rfl, rfl⟩⟩, Below.refl _ w⟩
    case round =>
      obtain ⟨t, ss, rfl, hst, hss, hts, hown, hbw⟩ := hrel
      by_cases h0 : t.size = 0
      · have hE := empty_no t h0
        have hres : untieT s.data.toList = some (texts ss) := by
          have h := hst.out
          rw [(toList_nil t).1 h0, List.append_nil] at h
          exact untie_some h (by rw [texts_length]; exact hss) hsl
        have HR := Lib.hid hres
        clear hres hst h0
        go_wp2_with fail
        go_ret2
        exact ⟨by rw [HR.out]; exact ⟨_, ss, rfl, rfl, hown⟩, hbw⟩
      · have hE := empty_yes t h0
        have hne : t.data.toList ≠ [] := fun e => h0 ((toList_nil t).2 e)
        obtain ⟨A, c, rfl⟩ := own_form hown
        have hcon := first_any t wr (by omega) (hg.below hbw)
        cases hf : firstT t.data.toList with
        | none =>
          have hres := untie_stuck hst.out hne hf
          rw [hf] at hcon
          have HR := Lib.hid hres
          clear hres hst h0 hne hf
          go_wp2_with fail
          refine hcon.mono ?_
          rintro e w1 ⟨rfl, b1⟩
          unfold firstR
          go_wp2_with fail
          go_ret2
          exact ⟨by rw [HR.out]; rfl, hbw.trans (b1.mono hbw.size)⟩
        | some p =>
          obtain ⟨x, r⟩ := p
          obtain ⟨X, R, hfr, rfl, rfl⟩ := first_is t hf
          rw [hfr] at hcon
          have hstep := untie_step hst.out hf
          have hrl : t.data.toList.length = (strand X.data.toList).length + R.data.toList.length := by
            rw [(first_spec hf).1, List.length_append]
          have hsn := List.length_pos_iff.2 (strand_ne X.data.toList)
          have hR1 : R.size < t.size := by simp at hrl; omega
          by_cases hm : ss.length = 4096
          · have hres := untie_many hst.out hne (by rw [texts_length]; exact hm)
            have HR := Lib.hid hres
            have hmb : ((ss.length : Int) == 4096) = true := by rw [hm]; rfl
            clear hres hst h0 hne hf hfr hstep hrl hsn hm
            go_wp2_with fail
            refine hcon.mono ?_
            rintro e w1 ⟨rfl, b1⟩
            go_wp2_with fail
            go_ret2
            exact ⟨by rw [HR.out]; rfl, hbw.trans (b1.mono hbw.size)⟩
          · have hmb : ((ss.length : Int) == 4096) = false := by
              have : (ss.length : Int) ≠ 4096 := by omega
              simpa using this
            have HS := Lib.hid hstep
            have hl2 : ss.length + 1 ≤ 4096 := by omega
            clear hst h0 hne hf hfr hstep hrl hsn hm
            go_wp2_with fail
            refine hcon.mono ?_
            rintro e w1 ⟨rfl, b1⟩
            have B1 := hbw.trans (b1.mono hbw.size)
            have O1 := own_below hown b1
            go_wp2_with (at_builtin; refine wpList_append_own _ rfl _ _ 70 rfl w.heap.size 9 i0 (.string ⟨#[]⟩) 1 16 Tryz.underlying70 hi hz0 hz1 hz2 rfl (by decide) _ _ _ rfl (O1.alloc _) ⟨w1.heap.size, 0, none⟩ 1 1 [.string X] rfl rfl ?c1 ?c2 ?c3 ?c4 ?c5 ?_)
            case c1 =>
              intro j u hj
              match j, hj with
              | 0, hj => simp at hj; subst hj; simp [Addr.add]
            case c2 => intro u hu; simp at hu; subst hu; rfl
            case c3 => unfold maxLen; omega
            case c4 => omega
            case c5 => have := B1.size; simp; omega
            intro v' w2 O2 hgrow _
            have B2 : Below w.heap.size w w2 := (B1.alloc B1.size _).grown hgrow (by have := B1.size; simp; omega) (fun k hk => (O1.lt k hk).1)
            have O3 : w2.ownsRow w.heap.size 9 1 v' (ss ++ [X]).length ((ss ++ [X]).map Value.string) := by simpa using O2
            clear O2 hgrow
            go_wp2_with fail
            go_roundw
            case rel =>
              refine ⟨R, ss ++ [X], rfl, ?_, by simp; omega, by omega, O3, B2⟩
              show s.data.toList = _
              rw [texts_snoc]; exact HS.out
            case measure => simp only [lenOf]; omega
theorem mem_le_tie : ∀ {l : List Text} {x : Text}, x ∈ l → x.length ≤ (tieT l).length
  | y :: l, x, h => by
    have e : tieT (y :: l) = strand y ++ tieT l := rfl
    rw [e, List.length_append]
    rcases List.mem_cons.1 h with rfl | h
    · have : x.length ≤ (strand x).length := by unfold strand; simp; omega
      omega
    · have := mem_le_tie h
      omega
end Go.Proofs.YtkpakiiijphjeaaGreatDoor

namespace Go.Proofs.YtkpakiiijphjeaaGreatDoor.Ds
open Go.RowKit Bnd
open Go.Proofs.YtkpakiiijphjeaaGreatDoor.M (numT inR tieT intT untieT)
theorem parseL_short {l : List M.Text} (h : l.length < 5) : parseL l = none := by
  rcases l with _ | ⟨a, _ | ⟨f, _ | ⟨t, _ | ⟨g, _ | ⟨n, tl⟩⟩⟩⟩⟩
  all_goals first | rfl | (simp at h; omega)
theorem parseL_cons (a f t g n : M.Text) (tl : List M.Text) : parseL (a :: f :: t :: g :: n :: tl) =
    (match intsOf [a, g, n], (intsOf tl).bind pairsI with | some [a, g, n], some ms => some ⟨a, ⟨f.toArray⟩, ⟨t.toArray⟩, g, ms, n⟩ | _, _ => none) := by
  rw [parseL]
  cases h1 : intT a <;> cases h2 : intT g <;> cases h3 : intT n <;> cases h4 : intsOf tl <;> simp [intsOf, h1, h2, h3]
  rename_i q
  cases pairsI q <;> rfl
theorem ints3 {a g n : M.Text} {r : List Int} (h : intsOf [a, g, n] = some r) : ∃ x y z, r = [x, y, z] := by
  have := intsOf_length h
  rcases r with _ | ⟨x, _ | ⟨y, _ | ⟨z, _ | ⟨u, r⟩⟩⟩⟩
  all_goals first | exact ⟨_, _, _, rfl⟩ | (simp at this)
theorem intsOf_some_length {l : List M.Text} {ms : List Mem} (h : (intsOf l).bind pairsI = some ms) : ms.length ≤ l.length := by
  cases h1 : intsOf l with
  | none => rw [h1] at h; cases h
  | some q =>
    rw [h1] at h
    have e1 := intsOf_length h1
    have e2 := pairsI_length (show pairsI q = some ms from h)
    omega
theorem ba_data (b : ByteArray) : (⟨b.data.toList.toArray⟩ : ByteArray) = b := by simp
theorem own_cells {w : World} {base g n cap : Nat} {ss : List ByteArray} (h : w.ownsRow base 9 1 (.slice (some ⟨g, 0, none⟩) n cap) ss.length (ss.map Value.string)) (i : Nat) (hi : i < ss.length) : w.cell? ⟨g, i, none⟩ = some (.string ss[i]) := by
  have := h.cells (g := g) rfl i _ (by rw [List.getElem?_map, List.getElem?_eq_getElem hi]; rfl)
  rw [Addr.add_lit, Nat.zero_add] at this
  exact this
theorem ownI_cells {w : World} {base g n cap : Nat} {ss : List Int} (h : OwnI w base (.slice (some ⟨g, 0, none⟩) n cap) ss) (i : Nat) (hi : i < ss.length) : w.cell? ⟨g, i, none⟩ = some (.int .i64 ss[i]) := by
  have := h.cells (g := g) rfl i _ (by rw [List.getElem?_map, List.getElem?_eq_getElem hi]; rfl)
  rw [Addr.add_lit, Nat.zero_add] at this
  exact this
structure R4 (w1 W9 : World) (r : Option (List Int)) (L : Nat → Bool) (u : Nat → Value) (wx : World) : Prop where
  w0 : L 9 = false → wx = w1.drew
  w9 : L 9 = true → L 10 = false → wx = W9
  w10 : L 10 = true → NumsOut W9.heap.size r (.returned (u 10)) wx ∧ Below W9.heap.size W9 wx
structure R10 (w3 : World) (n : Nat) (p : De) (s : Value) (L : Nat → Bool) (wx : World) : Prop where
  b : L 21 = false → Below w3.heap.size w3 wx
  e : L 21 = true → ∃ w5, Below w3.heap.size w3 w5 ∧ wx = ((((((w5.setCell ⟨n, 0, none⟩ (.int .i64 p.id)).setCell ⟨n, 1, none⟩ (.string p.f)).setCell ⟨n, 2, none⟩ (.string p.t)).setCell ⟨n, 3, none⟩ (.int .i64 p.gen)).setCell ⟨n, 4, none⟩ s).setCell ⟨n, 5, none⟩ (.int .i64 p.next))
theorem parseD_none {s : M.Text} (h : untieT s = none) : parseD s = (De.zero, 60) := by unfold parseD; rw [h]
theorem parseD_short {s : M.Text} {l : List M.Text} (h : untieT s = some l) (hl : l.length < 5) : parseD s = (De.zero, 60) := by unfold parseD; rw [h]; simp only; rw [parseL_short hl]
theorem parseD_cons {s : M.Text} {a f t g n : ByteArray} {tl : List ByteArray} (h : untieT s = some (texts (a :: f :: t :: g :: n :: tl))) : parseD s =
    (match intsOf (texts [a, g, n]), (intsOf (texts tl)).bind pairsI with | some [x, y, z], some ms => okD ⟨x, f, t, y, ms, z⟩ | _, _ => (De.zero, 60)) := by
  unfold parseD
  rw [h]
  simp only
  rw [show texts (a :: f :: t :: g :: n :: tl) = a.data.toList :: f.data.toList :: t.data.toList :: g.data.toList :: n.data.toList :: texts tl from rfl, parseL_cons]
  rw [show texts [a, g, n] = [a.data.toList, g.data.toList, n.data.toList] from rfl]
  cases h1 : intsOf [a.data.toList, g.data.toList, n.data.toList] with
  | none => rfl
  | some r =>
    obtain ⟨x, y, z, rfl⟩ := ints3 h1
    cases h2 : (intsOf (texts tl)).bind pairsI with
    | none => rfl
    | some ms => simp only [ba_data]
set_option maxHeartbeats 8000000 in
set_option maxRecDepth 100000 in
theorem parse_any (s : ByteArray) (w : World) (hs : s.size ≤ 140737488355328) (hg : Good w) :
    Calls Tryz.prog 110 #[.string s] w fun e w' => Gave w (parseD s.data.toList) e w' := by
  have cu := fun w hg => untie_own s w hs hg
  have B0 := BoxD.zero w
  cases hu : untieT s.data.toList with
  | none =>
    have hr := parseD_none hu
    rw [hr]
    rw [hu] at cu
    unfold UntieOwn at cu
    clear hr hu
    go_enter Tryz.func110, Tryz.ntmps110
    go_wp2_with fail
    refine (cu _ (hg.below (by (repeat' (first | with_reducible assumption | with_reducible exact Below.refl _ _ | with_reducible refine Below.alloc ?_ ?_ _ | with_reducible refine Below.setCell ?_ ?_ _ | with_reducible refine Below.drew ?_ | omega | (simp; done) | (simp; omega)))))).mono ?_
    rintro e w1 ⟨rfl, b1⟩
    have B1 := B0.keep b1
    have hb1 : Below w.heap.size w w1 := (show Below w.heap.size w _ from (by (repeat' (first | with_reducible assumption | with_reducible exact Below.refl _ _ | with_reducible refine Below.alloc ?_ ?_ _ | with_reducible refine Below.setCell ?_ ?_ _ | with_reducible refine Below.drew ?_ | omega | (simp; done) | (simp; omega))))).trans (b1.mono (by simp))
    obtain ⟨p_0, ⟨p_1, p_2, p_3, p_4, p_5, p_6⟩, p_7⟩ := id B1
    clear b1 cu
    go_wp2_with fail
    exact bodyPost_ret (res_box_tmp Tryz.results110 rfl rfl (BoxD.put B1 De.zero (.slice none 0 0))) rfl (Gave.zero (by (repeat' (first | with_reducible assumption | with_reducible exact Below.refl _ _ | with_reducible refine Below.alloc ?_ ?_ _ | with_reducible refine Below.setCell ?_ ?_ _ | with_reducible refine Below.drew ?_ | omega | (simp; done) | (simp; omega)))))
  | some l =>
    obtain ⟨q, hq⟩ : ∃ q, parseD s.data.toList = q := ⟨_, rfl⟩
    rw [hq]
    have HQ := Lib.hid hq
    clear hq
    rw [hu] at cu
    have hus := M.untie_spec hu
    go_enter Tryz.func110, Tryz.ntmps110
    go_wp2_with fail
    refine (cu _ (hg.below (by (repeat' (first | with_reducible assumption | with_reducible exact Below.refl _ _ | with_reducible refine Below.alloc ?_ ?_ _ | with_reducible refine Below.setCell ?_ ?_ _ | with_reducible refine Below.drew ?_ | omega | (simp; done) | (simp; omega)))))).mono ?_
    rintro e w1 ⟨⟨v, ss, rfl, hss, hown⟩, b1⟩
    subst hss
    have hszs : ∀ x ∈ ss, x.size ≤ 140737488355328 := by
      intro x hx
      have h1 := mem_le_tie (l := texts ss) (x := x.data.toList) (List.mem_map.2 ⟨x, hx, rfl⟩)
      have h2 := hus.2.2
      rw [hus.1] at h2
      have h3 : x.data.toList.length = x.size := by simp
      omega
    have hln : ss.length ≤ 4096 := by have := hus.2.1; rwa [texts_length] at this
    have B1 := B0.keep b1
    have hb1 : Below w.heap.size w w1 := (show Below w.heap.size w _ from (by (repeat' (first | with_reducible assumption | with_reducible exact Below.refl _ _ | with_reducible refine Below.alloc ?_ ?_ _ | with_reducible refine Below.setCell ?_ ?_ _ | with_reducible refine Below.drew ?_ | omega | (simp; done) | (simp; omega))))).trans (b1.mono (by simp))
    have hz1 := hb1.size
    obtain ⟨p_0, ⟨p_1, p_2, p_3, p_4, p_5, p_6⟩, p_7⟩ := id B1
    have hg1 : Good w1 := hg.below hb1
    have HU := Lib.hid hu
    clear b1 cu hus hu
    by_cases h5 : ss.length < 5
    · have hr := parseD_short HU.out (by rw [texts_length]; exact h5)
      have HR := Lib.hid (HQ.out.symm.trans hr)
      obtain ⟨A, c, rfl⟩ := own_form hown
      have g1 : ((ss.length : Int) < 5) = True := eq_true (by omega)
      clear hr h5 hown HU
      go_wp2_with fail
      exact bodyPost_ret (res_box_tmp Tryz.results110 rfl rfl (BoxD.put B1 De.zero (.slice none 0 0))) rfl (by rw [HR.out]; exact Gave.zero (by (repeat' (first | with_reducible assumption | with_reducible exact Below.refl _ _ | with_reducible refine Below.alloc ?_ ?_ _ | with_reducible refine Below.setCell ?_ ?_ _ | with_reducible refine Below.drew ?_ | omega | (simp; done) | (simp; omega)))))
    · obtain ⟨x0, x1, x2, x3, x4, tl, rfl⟩ : ∃ x0 x1 x2 x3 x4 tl, ss = x0 :: x1 :: x2 :: x3 :: x4 :: tl := by
        rcases ss with _ | ⟨a, _ | ⟨f, _ | ⟨t, _ | ⟨g, _ | ⟨n, tl⟩⟩⟩⟩⟩
        all_goals first | exact ⟨_, _, _, _, _, _, rfl⟩ | (exfalso; simp at h5)
      have hpd := HQ.out.symm.trans (parseD_cons HU.out)
      obtain ⟨g, cap, cur, rfl, hbg, hgb, hnc, hcm, hcs, htk⟩ := hown.2.resolve_left (fun h => by simp at h)
      have z0 := own_cells hown 0 (by simp)
      have z1 := own_cells hown 1 (by simp)
      have z2 := own_cells hown 2 (by simp)
      have z3 := own_cells hown 3 (by simp)
      have z4 := own_cells hown 4 (by simp)
      have zt : ∀ i (h : i < tl.length), w1.cell? ⟨g, i + 5, none⟩ = some (.string tl[i]) := fun i h => own_cells hown (i + 5) (by simp; omega)
      simp only [List.getElem_cons_zero, List.getElem_cons_succ] at z0 z1 z2 z3 z4
      have hgl : g < w1.heap.size := Lib.lt_of_cell z0
      obtain ⟨t, ht⟩ : ∃ t, t = tl.length := ⟨_, rfl⟩
      have hlen : (x0 :: x1 :: x2 :: x3 :: x4 :: tl).length = t + 5 := by simp [ht]
      rw [hlen] at hnc
      rw [hlen]
      have ht2 : t + 5 ≤ 4096 := by omega
      have hz0 := hszs x0 (by simp)
      have hz3 := hszs x3 (by simp)
      have hz4 := hszs x4 (by simp)
      have hx1 := hszs x1 (by simp)
      have hx2 := hszs x2 (by simp)
      have hztl : ∀ x ∈ tl, x.size ≤ 140737488355328 := fun x hx => hszs x (by simp [hx])
      have HT := Lib.hid ht
      have g1 : ((t : Int) + 5 < 5) = False := eq_false (by omega)
      have i0 : ((0 : Int) < (t : Int) + 5) = True := eq_true (by omega)
      have i1 : ((1 : Int) < (t : Int) + 5) = True := eq_true (by omega)
      have i2 : ((2 : Int) < (t : Int) + 5) = True := eq_true (by omega)
      have i3 : ((3 : Int) < (t : Int) + 5) = True := eq_true (by omega)
      have i4 : ((4 : Int) < (t : Int) + 5) = True := eq_true (by omega)
      have HP := Lib.hid hpd
      clear hpd hown HQ hbg hgb hcs htk hlen hszs h5 hln HU ht
      go_wp2_with fail
      obtain ⟨W9, hW9⟩ : ∃ W9, w1.drew.alloc (.cells #[.string x0, .string x3, .string x4] 9) = W9 := ⟨_, rfl⟩
      have hb9 : Below w1.heap.size w1 W9 := hW9 ▸ (Below.refl _ w1).drew.alloc (Nat.le_refl _) _
      have hz9 : W9.heap.size = w1.heap.size + 1 := by rw [← hW9]; simp
      have sl9 : SL W9 W9.heap.size (.slice (some ⟨w1.heap.size, 0, none⟩) 3 3) [x0, x3, x4] := hW9 ▸ SL.of_own (own_new w1.drew 0 [x0, x3, x4] (Nat.zero_le _) (by simp))
      have cn := numbers_any (.slice (some ⟨w1.heap.size, 0, none⟩) 3 3) [x0, x3, x4] W9 sl9 (by simp) (by intro x hx; simp at hx; rcases hx with rfl | rfl | rfl <;> assumption) (hg1.below hb9)
      obtain ⟨r, hI⟩ : ∃ r, intsOf (texts [x0, x3, x4]) = r := ⟨_, rfl⟩
      rw [hI] at cn
      have HI := Lib.hid hI
      have H9 := Lib.hid hW9
      clear hI hW9
      refine St.wp_region_mixed (R4 w1 W9 r) (fun _ x => ∃ wz, NumsOut W9.heap.size r (.returned x) wz) (by kernel_rfl) (by kernel_rfl) (by kernel_rfl) ⟨fun _ => rfl, fun h => (by cases h), fun h => (by cases h)⟩ ?_
      repeat
        (apply St.mix_give
         · rfl
         · intro L u' wx hS hcl hrd hag
           obtain rfl := hS.w0 (St.not_yet hcl hrd 40 9 (by kernel_rfl))
           go_simp
           try with_reducible rfl
         · exact fun L u' wx hS => ⟨hS.w0, hS.w9, hS.w10⟩
         simp only [Act.put, List.setIfInBounds_toArray, List.set_cons_zero, List.set_cons_succ])
      refine St.mix_free (fun z => z = .slice (some ⟨w1.heap.size, 0, none⟩) 3 3) rfl ?_ ?_
      · intro L u' wx hS hcl hrd hag
        have h10 := St.not_yet hcl hrd 40 10 (by kernel_rfl)
        obtain rfl := hS.w0 hrd.1
        refine ⟨_, W9, rfl, ?_, ⟨fun h => (by simp [St.mark] at h), fun _ _ => rfl, fun h => (by rw [show St.mark L 9 10 = L 10 from rfl, h10] at h; cases h)⟩⟩
        rw [← H9.out]
        go_simp
        try with_reducible rfl
      rintro _ rfl
      simp only [Act.put, List.setIfInBounds_toArray, List.set_cons_zero, List.set_cons_succ]
      refine St.mix_call (f := 121) (args := #[.slice (some ⟨w1.heap.size, 0, none⟩) 3 3]) rfl ?_ ?_ ?_
      · intro wx
        go_simp
        try with_reducible rfl
      · intro L u' wx hS hcl hrd hag
        have h9 := St.before_ready hcl hrd 40 9 (by kernel_rfl)
        obtain rfl := hS.w9 h9 hrd.1
        refine cn.mono ?_
        rintro e w' ⟨hout, hb'⟩
        have hx : ∃ x, e = .returned x := by
          cases r with
          | none => exact ⟨_, hout⟩
          | some r => obtain ⟨v, e1, _⟩ := hout; exact ⟨_, e1⟩
        obtain ⟨x, rfl⟩ := hx
        exact ⟨x, rfl, ⟨w', hout⟩, ⟨fun h => (by rw [show St.mark L 10 9 = L 9 from rfl, h9] at h; cases h), fun _ h => (by simp [St.mark] at h), fun _ => ⟨hout, hb'⟩⟩⟩
      rintro x10 ⟨wz, hwz⟩
      simp only [Act.put, List.setIfInBounds_toArray, List.set_cons_zero, List.set_cons_succ]
      have hbz := hb9.size
      cases r with
      | none =>
        have HR := Lib.hid (show q = (De.zero, 60) by rw [HP.out, HI.out])
        obtain rfl : x10 = .tuple #[.slice none 0 0, .bool false] := by
          unfold NumsOut at hwz
          injection hwz
        clear HP HI cn
        repeat
          (apply St.mix_give
           · rfl
           · intro L u' wx hS hcl hrd hag
             go_simp
             try with_reducible rfl
           · exact fun L u' wx hS => ⟨hS.w0, hS.w9, hS.w10⟩
           simp only [Act.put, List.setIfInBounds_toArray, List.set_cons_zero, List.set_cons_succ])
        refine St.mix_last ?_
        intro L w2 hS hall
        have b2 := (hS.w10 (hall 10 (by decide))).2
        have hb12 : Below w1.heap.size w1 w2 := hb9.trans (b2.mono hbz)
        have B2 := B1.keep hb12
        have hb2 : Below w.heap.size w w2 := hb1.trans (hb12.mono hz1)
        clear hS hall hb12 hwz
        clear p_0 p_1 p_2 p_3 p_4 p_5 p_6 p_7
        obtain ⟨p_0, ⟨p_1, p_2, p_3, p_4, p_5, p_6⟩, p_7⟩ := id B2
        clear b2
        go_wp2_with fail
        exact bodyPost_ret (res_box_tmp Tryz.results110 rfl rfl (BoxD.put B2 De.zero (.slice none 0 0))) rfl (by rw [HR.out]; exact Gave.zero (by (repeat' (first | with_reducible assumption | with_reducible exact Below.refl _ _ | with_reducible refine Below.alloc ?_ ?_ _ | with_reducible refine Below.setCell ?_ ?_ _ | with_reducible refine Below.drew ?_ | omega | (simp; done) | (simp; omega)))))
      | some r =>
        obtain ⟨a, b, c, rfl⟩ := ints3 HI.out
        have HP2 := Lib.hid (show q = (match (intsOf (texts tl)).bind pairsI with | some ms => okD ⟨a, x1, x2, b, ms, c⟩ | none => (De.zero, 60)) by rw [HP.out, HI.out]; cases (intsOf (texts tl)).bind pairsI <;> rfl)
        obtain ⟨vr, hvr, _, _⟩ := hwz
        obtain rfl : x10 = .tuple #[vr, .bool true] := by injection hvr
        clear HP HI cn hvr
        repeat
          (apply St.mix_give
           · rfl
           · intro L u' wx hS hcl hrd hag
             go_simp
             try with_reducible rfl
           · exact fun L u' wx hS => ⟨hS.w0, hS.w9, hS.w10⟩
           simp only [Act.put, List.setIfInBounds_toArray, List.set_cons_zero, List.set_cons_succ])
        refine St.mix_last ?_
        intro L w2 hS hall
        obtain ⟨⟨vr', hv', hor, hne⟩, b2⟩ := hS.w10 (hall 10 (by decide))
        have hvv : vr' = vr := by
          have h : Ending.returned (.tuple #[vr, .bool true]) = .returned (.tuple #[vr', .bool true]) := hv'
          injection h with h; injection h with h
          simpa using h.symm
        subst hvv
        have hb12 : Below w1.heap.size w1 w2 := hb9.trans (b2.mono hbz)
        have B2 := B1.keep hb12
        have hb2 : Below w.heap.size w w2 := hb1.trans (hb12.mono hz1)
        clear hS hall b2 hv'
        obtain ⟨g2, cap2, cur2, rfl, hbg2, hgb2, hnc2, hcm2, hcs2, htk2⟩ := hor.2.resolve_left (fun h => hne h.1)
        have y0 := ownI_cells hor 0 (by simp)
        have y1 := ownI_cells hor 1 (by simp)
        have y2 := ownI_cells hor 2 (by simp)
        simp only [List.getElem_cons_zero, List.getElem_cons_succ] at y0 y1 y2
        have hg2l : g2 < w2.heap.size := Lib.lt_of_cell y0
        have k1 := (hb12.cell (p := ⟨g, 1, none⟩) hgl).trans z1
        have k2 := (hb12.cell (p := ⟨g, 2, none⟩) hgl).trans z2
        have kt : ∀ i (h : i < tl.length), w2.cell? ⟨g, i + 5, none⟩ = some (.string tl[i]) := fun i h => (hb12.cell (p := ⟨g, i + 5, none⟩) hgl).trans (zt i h)
        have hg2 : Good w2 := hg1.below hb12
        clear p_0 p_1 p_2 p_3 p_4 p_5 p_6 p_7
        obtain ⟨p_0, ⟨p_1, p_2, p_3, p_4, p_5, p_6⟩, p_7⟩ := id B2
        have hlt2 : g < w2.heap.size := by have := hb12.size; omega
        have hSLt : ∀ (A : Option Addr) (cc : Nat), (0 < t → A = some ⟨g, 5, none⟩) → SL w2 w2.heap.size (.slice A t cc) tl := by
          intro A cc hA
          refine ⟨A, cc, by rw [HT.out], fun h0 => ⟨⟨g, 5, none⟩, hA (by rw [HT.out]; exact h0), hlt2, fun i hi => ?_⟩⟩
          rw [Addr.add_lit, show 5 + i = i + 5 by omega]
          exact kt i hi
        have cm := fun A cc hA => membs_any (.slice A t cc) tl w2 (hSLt A cc hA) (by have := HT.out; omega) hztl hg2
        have L2 := Lib.hid hb2
        have L12 := Lib.hid hb12
        clear hne hbg2 hgb2 hnc2 hcm2 hcs2 htk2 z0 z1 z2 z3 z4 zt hSLt hor kt hb1 hb12 hb2
        have hc5 : (cap = 5 ∧ t = 0) ∨ ¬ cap = 5 := by
          by_cases h : cap = 5
          · exact .inl ⟨h, by omega⟩
          · exact .inr h
        obtain ⟨ob, hob⟩ : ∃ ob, (intsOf (texts tl)).bind pairsI = ob := ⟨_, rfl⟩
        rw [hob] at cm
        have HO := Lib.hid hob
        have e1 : ((5 : Int) ≤ (t : Int) + 5) = True := eq_true (by omega)
        clear hob
        rcases hc5 with ⟨rfl, rfl⟩ | hc5
        all_goals
          go_wp2_with fail
          refine (cm _ _ (by intro h; first | rfl | (exfalso; omega))).mono ?_
          rintro e w3 ⟨hout, b3⟩
          have hb23 := b3
          have B3 := B2.keep b3
          have hb3 : Below w.heap.size w w3 := L2.out.trans (b3.mono L2.out.size)
          clear p_0 p_1 p_2 p_3 p_4 p_5 p_6 p_7
          obtain ⟨p_0, ⟨p_1, p_2, p_3, p_4, p_5, p_6⟩, p_7⟩ := id B3
          have hgl3 : g < w2.heap.size := hlt2
          have k1' := (b3.cell (p := ⟨g, 1, none⟩) hgl3).trans k1
          have k2' := (b3.cell (p := ⟨g, 2, none⟩) hgl3).trans k2
          have y0' := (b3.cell (p := ⟨g2, 0, none⟩) hg2l).trans y0
          have y1' := (b3.cell (p := ⟨g2, 1, none⟩) hg2l).trans y1
          have y2' := (b3.cell (p := ⟨g2, 2, none⟩) hg2l).trans y2
          have hgw : g < w3.heap.size := by have := b3.size; omega
          have hg2w : g2 < w3.heap.size := by have := b3.size; omega
          clear b3 k1 k2 y0 y1 y2 cm
          cases ob with
          | none =>
            have HR := Lib.hid (show q = (De.zero, 60) by rw [HP2.out, HO.out])
            have hout : e = .returned (.tuple #[.slice none 0 0, .bool false]) := hout
            subst hout
            clear HP2 HO
            go_wp2_with fail
            exact bodyPost_ret (res_box_tmp Tryz.results110 rfl rfl (BoxD.put B3 De.zero (.slice none 0 0))) rfl (by rw [HR.out]; exact Gave.zero (by (repeat' (first | with_reducible assumption | with_reducible exact Below.refl _ _ | with_reducible refine Below.alloc ?_ ?_ _ | with_reducible refine Below.setCell ?_ ?_ _ | with_reducible refine Below.drew ?_ | omega | (simp; done) | (simp; omega)))))
          | some ms =>
            have hq : q = okD ⟨a, x1, x2, b, ms, c⟩ := by rw [HP2.out, HO.out]
            obtain ⟨vm, rfl, hom⟩ := hout
            have hqi := intsOf_some_length HO.out
            obtain ⟨D, hD⟩ : ∃ D, (⟨a, x1, x2, b, ms, c⟩ : De) = D := ⟨_, rfl⟩
            obtain ⟨p, qn, hpq⟩ : ∃ p qn, okD D = (p, qn) := ⟨_, _, rfl⟩
            rw [hD, hpq] at hq
            subst hq
            have hmsl : ms.length ≤ 10000 := by rw [texts_length] at hqi; have := HT.out; omega
            have hDm : D.ms = ms := by rw [← hD]
            obtain ⟨sv, hsv, hav⟩ := okV_spec D vm
            rw [hpq] at hsv hav
            have hag : ArgM w3 vm D.ms := by rw [hDm]; exact ArgM.of_own hom
            obtain ⟨A4, c4, rfl⟩ := (hav _ hag).form
            have cc := fun wx (hb : Below w3.heap.size w3 wx) => checked_any D vm wx ((hag.sm.below hb).more hb.size) (by rw [hDm]; omega) (by rw [← hD]; exact hx1) (by rw [← hD]; exact hx2)
            rw [hsv] at cc
            have HAV := Lib.hid hav
            have HAG := Lib.hid hag
            have HDD := Lib.hid hD
            obtain ⟨Am, cm', rfl⟩ := hag.form
            rw [hDm] at cc
            have hdv : dv D (.slice Am ms.length cm') = .agg #[.int .i64 a, .string x1, .string x2, .int .i64 b, .slice Am ms.length cm', .int .i64 c] := by rw [← hD]
            rw [hdv] at cc
            rw [hDm]
            rw [hDm] at hom
            have HOM := Lib.hid hom
            clear hsv hav hag hD hpq hqi HP2 HO hom hdv
            have i30 : ((0 : Int) < 3) = True := eq_true (by omega)
            go_wp2_with fail
            refine St.wp_region_mixed (fun L _ wx => R10 w3 w.heap.size p (.slice A4 p.ms.length c4) L wx) (fun _ z => z = .tuple #[dv p (.slice A4 p.ms.length c4), .int .i64 qn]) (by kernel_rfl) (by kernel_rfl) (by kernel_rfl) ⟨fun _ => (Below.refl _ w3).drew, fun h => (by cases h)⟩ ?_
            repeat
              (apply St.mix_give
               · rfl
               · intro L u' wx hS hcl hrd hag
                 have hbx := hS.b (St.not_yet hcl hrd 40 21 (by kernel_rfl))
                 have q1 := (hbx.cell (p := ⟨g, 1, none⟩) hgw).trans k1'
                 have q2 := (hbx.cell (p := ⟨g, 2, none⟩) hgw).trans k2'
                 have q3 := (hbx.cell (p := ⟨g2, 0, none⟩) hg2w).trans y0'
                 have q4 := (hbx.cell (p := ⟨g2, 1, none⟩) hg2w).trans y1'
                 have q5 := (hbx.cell (p := ⟨g2, 2, none⟩) hg2w).trans y2'
                 clear hbx
                 go_simp
                 try with_reducible rfl
               · exact fun L u' wx hS => ⟨hS.b, hS.e⟩
               simp only [Act.put, List.setIfInBounds_toArray, List.set_cons_zero, List.set_cons_succ])
            refine St.mix_into (v := .tuple #[dv p (.slice A4 p.ms.length c4), .int .i64 qn]) (f := 123) (args := #[.agg #[.int .i64 a, .string x1, .string x2, .int .i64 b, .slice Am ms.length cm', .int .i64 c]]) rfl rfl ?_ ?_ ?_
            · intro wx
              go_simp
              try with_reducible rfl
            · intro L u' wx hS hcl hrd hag
              have h21 := St.not_yet hcl hrd 40 21 (by kernel_rfl)
              have hbx := hS.b h21
              refine (cc wx hbx).mono ?_
              rintro e w' ⟨rfl, hb'⟩
              exact ⟨rfl, ⟨fun _ => hbx.trans (hb'.mono hbx.size), fun h => (by rw [show St.mark L 18 21 = L 21 from rfl, h21] at h; cases h)⟩⟩
            simp only [Act.put, List.setIfInBounds_toArray, List.set_cons_zero, List.set_cons_succ]
            repeat
              (apply St.mix_give
               · rfl
               · intro L u' wx hS hcl hrd hag
                 go_simp
                 try with_reducible rfl
               · exact fun L u' wx hS => ⟨hS.b, hS.e⟩
               simp only [Act.put, List.setIfInBounds_toArray, List.set_cons_zero, List.set_cons_succ])
            refine St.mix_skip rfl ?_ ?_
            · intro L u' wx hS hcl hrd hag
              have hbx := hS.b hrd.1
              have F3 := B3.keep hbx
              obtain ⟨f0, ⟨f1, f2, f3, f4, f5, f6⟩, f7⟩ := id F3
              refine ⟨_, ?_, ⟨fun h => (by simp [St.mark] at h), fun _ => ⟨wx, hbx, rfl⟩⟩⟩
              go_simp
              try with_reducible rfl
            simp only [Act.put]
            repeat
              (apply St.mix_give
               · rfl
               · intro L u' wx hS hcl hrd hag
                 go_simp
                 try with_reducible rfl
               · exact fun L u' wx hS => ⟨hS.b, hS.e⟩
               simp only [Act.put, List.setIfInBounds_toArray, List.set_cons_zero, List.set_cons_succ])
            refine St.mix_last ?_
            intro L wx hS hall
            obtain ⟨w5, hb5, rfl⟩ := hS.e (hall 21 (by decide))
            have F3 := B3.keep hb5
            have hbf : Below w.heap.size w w5 := hb3.trans (hb5.mono hb3.size)
            have hrow : OwnM w5 w2.heap.size (.slice Am ms.length cm') ms := own_keep HOM.out hb5
            have hlw : w.heap.size < w2.heap.size := by have := B2.1; exact this
            clear hS hall hb5
            go_wp2_with fail
            refine bodyPost_ret (res_box_tmp Tryz.results110 rfl rfl (BoxD.put F3 p (.slice A4 p.ms.length c4))) rfl ⟨_, rfl, HAV.out _ ?_, (by (repeat' (first | with_reducible assumption | with_reducible exact Below.refl _ _ | with_reducible refine Below.alloc ?_ ?_ _ | with_reducible refine Below.setCell ?_ ?_ _ | with_reducible refine Below.drew ?_ | omega | (simp; done) | (simp; omega))))⟩
            rw [← HDD.out]
            refine ArgM.of_own (base := w2.heap.size) ?_
            show OwnM _ _ _ ms
            (repeat' (first | with_reducible assumption | with_reducible refine own_set ?_ ?_ _ | with_reducible refine own_alloc ?_ _ | with_reducible refine own_drew ?_ | omega | (simp; done) | (simp; omega)))
end Go.Proofs.YtkpakiiijphjeaaGreatDoor.Ds

namespace Go.Proofs.YtkpakiiijphjeaaGreatDoor.Ds
open Go.RowKit Bnd
open Go.Proofs.YtkpakiiijphjeaaGreatDoor.O (Bd isB keyB)
end Go.Proofs.YtkpakiiijphjeaaGreatDoor.Ds

namespace Go.Proofs.YtkpakiiijphjeaaGreatDoor.Ds
open Go.RowKit Bnd
open Go.Proofs.YtkpakiiijphjeaaGreatDoor.O (Bd isB keyB)
abbrev ptr (n : Nat) : Value := .pointer (some ⟨n, 0, none⟩)
structure R8 (W0 : World) (d : De) (L : Nat → Bool) (u : Nat → Value) (wx : World) : Prop where
  b : Below W0.heap.size W0 wx
  o3 : L 3 = true → ∃ s, u 3 = dv d s ∧ OwnM wx W0.heap.size s d.ms ∧ (L 8 = true → ∀ n, u 8 = ptr n → s.ownBlock ≠ some n) ∧ (L 9 = true → ∀ n, u 9 = ptr n → s.ownBlock ≠ some n)
  o7 : L 7 = true → ∃ s, u 7 = dv d s ∧ OwnM wx W0.heap.size s d.ms ∧ (L 8 = true → ∀ n, u 8 = ptr n → s.ownBlock ≠ some n) ∧ (L 9 = true → ∀ n, u 9 = ptr n → s.ownBlock ≠ some n)
  p8 : L 8 = true → ∃ n, u 8 = ptr n ∧ W0.heap.size ≤ n ∧ (∃ d' s', BoxD n d' s' wx) ∧ (L 10 = true → ∀ s, u 3 = dv d s → BoxD n d s wx) ∧ (L 9 = true → u 9 ≠ ptr n)
  p9 : L 9 = true → ∃ n, u 9 = ptr n ∧ W0.heap.size ≤ n ∧ (∃ d' s', BoxD n d' s' wx) ∧ (L 11 = true → ∀ s, u 7 = dv d s → BoxD n d s wx)
theorem R8.start (W0 : World) (d : De) : R8 W0 d (fun _ => false) (fun _ => undef) W0.drew :=
  ⟨(Below.refl _ W0).drew, fun h => (by cases h), fun h => (by cases h), fun h => (by cases h), fun h => (by cases h)⟩
def Gave2 (w : World) (p : De × De × Int) (e : Ending) (w' : World) : Prop := ∃ s' s'', e = .returned (.tuple #[dv p.1 s', dv p.2.1 s'', .int .i64 p.2.2]) ∧ ArgM w' s' p.1.ms ∧ ArgM w' s'' p.2.1.ms ∧ Below w.heap.size w w'
theorem Gave2.zero {w w' : World} {n : Int} (h : Below w.heap.size w w') : Gave2 w (De.zero, De.zero, n) (.returned (.tuple #[dv De.zero (.slice none 0 0), dv De.zero (.slice none 0 0), .int .i64 n])) w' := ⟨_, _, rfl, .nil, .nil, h⟩
end Go.Proofs.YtkpakiiijphjeaaGreatDoor.Ds

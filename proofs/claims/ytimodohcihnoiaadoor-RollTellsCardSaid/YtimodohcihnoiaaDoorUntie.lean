/-
  knot.Untie and the document's Untie, at every text. Condition: lengths below 2^47; the library's variables hold what their types allow.
-/
import Derived.Test.YtimodohcihnoiaaDoorSame
namespace Go.Proofs.YtimodohcihnoiaaDoor
open Go.RowKit M

/-- what both hand back: the texts in a slice that lies in what the call made, or none -/
def UntieOut (o : Option (List Text)) (e : Ending) (w' : World) : Prop :=
  match o with
  | some l => ∃ v ss, e = .returned (.tuple #[v, .int .i64 0]) ∧ texts ss = l ∧ SL w' w'.heap.size v ss
  | none => e = .returned (.tuple #[.slice none 0 0, .int .i64 10])

theorem texts_length (ss : List ByteArray) : (texts ss).length = ss.length := by simp [texts]
theorem texts_snoc (ss : List ByteArray) (x : ByteArray) : texts (ss ++ [x]) = texts ss ++ [x.data.toList] := by simp [texts]
theorem own_below {w w' : World} {base : Nat} {v : Value} {n : Nat} {xs : List Value} (h : w.ownsRow base 9 1 v n xs) (hb : Below w.heap.size w w') : w'.ownsRow base 9 1 v n xs :=
  h.kept (row := none) ⟨hb.os, hb.tape, hb.output, hb.size, fun k hk _ => hb.block k hk⟩ (Classical.em _)
theorem own_form {w : World} {base : Nat} {v : Value} {ss : List ByteArray} (h : w.ownsRow base 9 1 v ss.length (ss.map Value.string)) : ∃ A c, v = .slice A ss.length c := (SL.of_own h).form
theorem first_is (t : ByteArray) {x r : Text} (h : firstT t.data.toList = some (x, r)) : ∃ X R : ByteArray, firstR t (firstT t.data.toList) = .tuple #[.string X, .string R, .int .i64 0] ∧ X.data.toList = x ∧ R.data.toList = r :=
  ⟨⟨x.toArray⟩, ⟨r.toArray⟩, by rw [h]; rfl, rfl, rfl⟩

set_option maxHeartbeats 4000000 in
set_option maxRecDepth 100000 in
theorem runtie_any (s : ByteArray) (w : World) (hs : s.size ≤ 140737488355328) :
    Calls Tryd.prog 38 #[.string s] w fun e w' => UntieOut (untieT s.data.toList) e w' ∧ Below w.heap.size w w' := by
  obtain ⟨i0, hi, hz0, hz1, hz2⟩ := info_parts infoStr
  by_cases hlong : 1048576 < s.size
  · rw [untie_long (by simpa using hlong)]
    have hi' : (1048576 : Int) < (s.size : Int) := by omega
    go_enter Tryd.func38, Tryd.ntmps38
    go_wp2_with fail
    go_ret2
    exact ⟨rfl, Below.refl _ w⟩
  · have hi' : ¬ (1048576 : Int) < (s.size : Int) := by omega
    have hi'' : (s.size : Int) ≤ 1048576 := by omega
    have hsl : s.data.toList.length ≤ 1048576 := by simp; omega
    go_enter Tryd.func38, Tryd.ntmps38
    go_wp2_with fail
    go_loopw [0, 4] (fun v0 v4 wr => ∃ (t : ByteArray) (ss : List ByteArray), v0 = .string t ∧ Hid (s.data.toList = tieT (texts ss) ++ t.data.toList) ∧ ss.length ≤ 4096 ∧ t.size ≤ 1048576 ∧ wr.ownsRow w.heap.size 9 1 v4 ss.length (ss.map Value.string) ∧ Below w.heap.size w wr) (fun v0 _ _ => lenOf v0)
    case atStart => exact ⟨s, [], rfl, rfl, by simp, by omega, ⟨by simp, .inl ⟨rfl, rfl⟩⟩, Below.refl _ w⟩
    case round =>
      obtain ⟨t, ss, rfl, hst, hss, hts, hown, hbw⟩ := hrel
      by_cases h0 : t.size = 0
      · have hE := empty_no t h0
        have hres : untieT s.data.toList = some (texts ss) := by
          have h := hst.out
          rw [(toList_nil t).1 h0, List.append_nil] at h
          exact untie_some h (by rw [texts_length]; exact hss) hsl
        have HR := Lib.hid hres
        clear hres hst h0
        go_wp2_with fail
        go_ret2
        exact ⟨by rw [HR.out]; exact ⟨_, ss, rfl, rfl, SL.of_own hown⟩, hbw⟩
      · have hE := empty_yes t h0
        have hne : t.data.toList ≠ [] := fun e => h0 ((toList_nil t).2 e)
        obtain ⟨A, c, rfl⟩ := own_form hown
        have hcon := rfirst_any t wr (by omega)
        cases hf : firstT t.data.toList with
        | none =>
          have hres := untie_stuck hst.out hne hf
          rw [hf] at hcon
          have HR := Lib.hid hres
          clear hres hst h0 hne hf
          go_wp2_with fail
          refine hcon.mono ?_
          rintro e w1 ⟨rfl, b1⟩
          unfold firstR
          go_wp2_with fail
          go_ret2
          exact ⟨by rw [HR.out]; rfl, hbw.trans (b1.mono hbw.size)⟩
        | some p =>
          obtain ⟨x, r⟩ := p
          obtain ⟨X, R, hfr, rfl, rfl⟩ := first_is t hf
          rw [hfr] at hcon
          have hstep := untie_step hst.out hf
          have hrl : t.data.toList.length = (strand X.data.toList).length + R.data.toList.length := by
            rw [(first_spec hf).1, List.length_append]
          have hsn := List.length_pos_iff.2 (strand_ne X.data.toList)
          have hR1 : R.size < t.size := by simp at hrl; omega
          by_cases hm : ss.length = 4096
          · have hres := untie_many hst.out hne (by rw [texts_length]; exact hm)
            have HR := Lib.hid hres
            have hmb : ((ss.length : Int) == 4096) = true := by rw [hm]; rfl
            clear hres hst h0 hne hf hfr hstep hrl hsn hm
            go_wp2_with fail
            refine hcon.mono ?_
            rintro e w1 ⟨rfl, b1⟩
            go_wp2_with fail
            go_ret2
            exact ⟨by rw [HR.out]; rfl, hbw.trans (b1.mono hbw.size)⟩
          · have hmb : ((ss.length : Int) == 4096) = false := by
              have : (ss.length : Int) ≠ 4096 := by omega
              simpa using this
            have HS := Lib.hid hstep
            have hl2 : ss.length + 1 ≤ 4096 := by omega
            clear hst h0 hne hf hfr hstep hrl hsn hm
            go_wp2_with fail
            refine hcon.mono ?_
            rintro e w1 ⟨rfl, b1⟩
            have B1 := hbw.trans (b1.mono hbw.size)
            have O1 := own_below hown b1
            go_wp2_with (at_builtin; refine wpList_append_own _ rfl _ _ 56 rfl w.heap.size 9 i0 (.string ⟨#[]⟩) 1 16 Tryd.underlying56 hi hz0 hz1 hz2 rfl (by decide) _ _ _ rfl (O1.alloc _) ⟨w1.heap.size, 0, none⟩ 1 1 [.string X] rfl rfl ?c1 ?c2 ?c3 ?c4 ?c5 ?_)
            case c1 =>
              intro j u hj
              match j, hj with
              | 0, hj => simp at hj; subst hj; simp [Addr.add]
            case c2 => intro u hu; simp at hu; subst hu; rfl
            case c3 => unfold maxLen; omega
            case c4 => omega
            case c5 => have := B1.size; simp; omega
            intro v' w2 O2 hgrow _
            have B2 : Below w.heap.size w w2 := (B1.alloc B1.size _).grown hgrow (by have := B1.size; simp; omega) (fun k hk => (O1.lt k hk).1)
            have O3 : w2.ownsRow w.heap.size 9 1 v' (ss ++ [X]).length ((ss ++ [X]).map Value.string) := by simpa using O2
            clear O2 hgrow
            go_wp2_with fail
            go_roundw
            case rel =>
              refine ⟨R, ss ++ [X], rfl, ?_, by simp; omega, by omega, O3, B2⟩
              show s.data.toList = _
              rw [texts_snoc]; exact HS.out
            case measure => simp only [lenOf]; omega

end Go.Proofs.YtimodohcihnoiaaDoor

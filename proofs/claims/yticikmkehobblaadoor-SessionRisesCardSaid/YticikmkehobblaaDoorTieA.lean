/-
  Slices of strings, as lists of texts; and a builder carried over whatever leaves every old block as it stood. No condition.
  knot.Tie and the document's Tie, at every list of strings. Condition: at most 5,000 strings of at most 1,000,000 bytes each.
  The document's Same, at every two lists of strings, and the law's num and small. Condition: at most 2^40 strings.
  knot.Untie and the document's Untie, at every text. Condition: lengths below 2^47; the library's variables hold what their types allow.
  knot.Untie, and where its texts lie: in a row of the call's own. Conditions as in Untie.
-/
import Derived.Test.YticikmkehobblaaDoorFirstA
import Derived.Laws.OwnMore
import Derived.Maps.AppendAt
namespace Go.Proofs.YticikmkehobblaaDoor
open Go.RowKit M

theorem add_block (a : Addr) (n : Nat) : (a.add n).block = a.block := by unfold Addr.add; split <;> rfl

/-- In the world w the slice value v holds the strings ss; its cells lie below block B. -/
def SL (w : World) (B : Nat) (v : Value) (ss : List ByteArray) : Prop :=
  ∃ (A : Option Addr) (c : Nat), v = .slice A ss.length c ∧ (0 < ss.length → ∃ ad : Addr, A = some ad ∧ ad.block < B ∧ ∀ i (h : i < ss.length), w.cell? (ad.add i) = some (.string ss[i]))

theorem SL.nil (w : World) (B : Nat) : SL w B (.slice none 0 0) [] := ⟨none, 0, rfl, fun h => absurd h (by simp)⟩
theorem SL.keep {w w' : World} {B : Nat} {v : Value} {ss : List ByteArray} (h : SL w B v ss) (hk : ∀ p : Addr, p.block < B → w'.cell? p = w.cell? p) : SL w' B v ss := by
  obtain ⟨A, c, hv, h⟩ := h
  refine ⟨A, c, hv, fun h0 => ?_⟩
  obtain ⟨ad, e, hb, hc⟩ := h h0
  exact ⟨ad, e, hb, fun i hi => by rw [hk _ (by rw [add_block]; exact hb)]; exact hc i hi⟩
theorem SL.below {w w' : World} {B : Nat} {v : Value} {ss : List ByteArray} (h : SL w B v ss) (hb : Below B w w') : SL w' B v ss := h.keep fun _ hp => hb.cell hp
theorem SL.more {w : World} {B B' : Nat} {v : Value} {ss : List ByteArray} (h : SL w B v ss) (hB : B ≤ B') : SL w B' v ss := by
  obtain ⟨A, c, hv, h⟩ := h
  refine ⟨A, c, hv, fun h0 => ?_⟩
  obtain ⟨ad, e, hb, hc⟩ := h h0
  exact ⟨ad, e, by omega, hc⟩
theorem SL.at_ {w : World} {B k : Nat} {A : Option Addr} {n c : Nat} {ss : List ByteArray} (h : SL w B (.slice A n c) ss) (hk : k < ss.length) :
    ∃ ad : Addr, A = some ad ∧ ad.block < B ∧ w.cell? (ad.add k) = some (.string ss[k]) := by
  obtain ⟨A', c', hv, h⟩ := h
  injection hv with h1 h2 h3
  subst h1
  obtain ⟨ad, e, hb, hc⟩ := h (by omega)
  exact ⟨ad, e, hb, hc k hk⟩
theorem SL.form {w : World} {B : Nat} {v : Value} {ss : List ByteArray} (h : SL w B v ss) : ∃ A c, v = .slice A ss.length c := by
  obtain ⟨A, c, hv, _⟩ := h; exact ⟨A, c, hv⟩
/-- a row of the call's own -/
theorem SL.of_own {w : World} {base : Nat} {v : Value} {ss : List ByteArray} (h : w.ownsRow base 9 1 v ss.length (ss.map Value.string)) : SL w w.heap.size v ss := by
  rcases h.2 with ⟨rfl, h0⟩ | ⟨g, cap, cur, rfl, _, hh, _⟩
  · have : ss = [] := List.length_eq_zero_iff.1 h0
    subst this
    exact SL.nil w _
  · refine ⟨_, _, rfl, fun h0 => ⟨⟨g, 0, none⟩, rfl, ?_, fun i hi => ?_⟩⟩
    · exact (Array.getElem?_eq_some_iff.1 hh).1
    · exact h.cells (g := g) rfl i _ (by simp [hi])

theorem builder_below {B b : Nat} {l : List UInt8} {w w' : World} (h : IsB B b l w) (hb : Below w.heap.size w w') : IsB B b l w' := by
  have go : ∀ {p : Value}, Lib.BuilderAtF 92 5 B b p (Lib.byteCells l) w → Lib.BuilderAtF 92 5 B b p (Lib.byteCells l) w' := by
    rintro p ⟨hB, v, hbk, hown, hne⟩
    have hlt : b < w.heap.size := (Array.getElem?_eq_some_iff.1 hbk).1
    exact ⟨hB, v, (hb.block b hlt).trans hbk, hown.kept (row := none) ⟨hb.os, hb.tape, hb.output, hb.size, fun k hk _ => hb.block k hk⟩ (Classical.em _), hne⟩
  rcases h with h | h
  · exact .inl (go h)
  · exact .inr (go h)

end Go.Proofs.YticikmkehobblaaDoor

namespace Go.Proofs.YticikmkehobblaaDoor
open Go.RowKit M
attribute [local go_sem ↓] Go.wp_at_zero Go.wp_at_succ

theorem wByte (B b : Nat) (l : Text) (c : UInt8) (w : World) (h : IsB B b l w) (hlen : l.length + 1 ≤ 140737488355328) (hBw : B ≤ w.heap.size) :
    Calls Tryd.prog 55 #[.pointer (some ⟨b, 0, none⟩), .int .u8 (c.toNat : Int)] w fun e w' => e = .returned .nilIface ∧ (IsB B b (l ++ [c]) w' ∧ Below B w w') := by
  refine (writeByte_any B b (Lib.byteCells l) (c.toNat : Int) w h (by rw [Lib.byteCells_length]; exact hlen) hBw).mono ?_
  rintro e w' ⟨h1, h2, h3⟩
  refine ⟨h1, ?_, h3⟩
  show Lib.IsBuilderF 92 5 B b (Lib.byteCells (l ++ [c])) w'
  rw [Lib.byteCells_append]
  exact h2
theorem wString (B b : Nat) (l : Text) (s : ByteArray) (w : World) (h : IsB B b l w) (hlen : l.length + s.size ≤ 140737488355328) (hBw : B ≤ w.heap.size) :
    Calls Tryd.prog 54 #[.pointer (some ⟨b, 0, none⟩), .string s] w fun e w' => e = .returned (.tuple #[.int .i64 s.size, .nilIface]) ∧ (IsB B b (l ++ s.data.toList) w' ∧ Below B w w') := by
  refine (writeString_any B b (Lib.byteCells l) s w h (by rw [Lib.byteCells_length]; exact hlen) hBw).mono ?_
  rintro e w' ⟨h1, h2, h3⟩
  refine ⟨h1, ?_, h3⟩
  show Lib.IsBuilderF 92 5 B b (Lib.byteCells (l ++ s.data.toList)) w'
  rw [Lib.byteCells_append]
  exact h2

def texts (ss : List ByteArray) : List Text := ss.map (fun s => s.data.toList)

theorem sum_le_mul (l : List Nat) (m : Nat) (h : ∀ x ∈ l, x ≤ m) : l.sum ≤ m * l.length := by
  induction l with
  | nil => simp
  | cons x l ih =>
    have h1 := h x (by simp)
    have h2 := ih fun y hy => h y (by simp [hy])
    simp only [List.sum_cons, List.length_cons, Nat.mul_add]
    omega

/-- few and short: what each of the walks below asks -/
structure Few (ss : List ByteArray) : Prop where
  few : ss.length ≤ 5000
  short : ∀ s ∈ ss, s.size ≤ 1048576

theorem Few.tie {ss : List ByteArray} (h : Few ss) (k : Nat) : (tieT (texts (ss.take k))).length ≤ 6000000000 := by
  have h1 := tie_length (texts (ss.take k)) (by
    intro x hx
    obtain ⟨s, hs, rfl⟩ := List.mem_map.1 hx
    have := h.short s (List.mem_of_mem_take hs)
    simp; omega)
  have h2 := sum_le_mul ((texts (ss.take k)).map List.length) 1048576 (by
    intro x hx
    obtain ⟨y, hy, rfl⟩ := List.mem_map.1 hx
    obtain ⟨s, hs, rfl⟩ := List.mem_map.1 hy
    have := h.short s (List.mem_of_mem_take hs)
    simp; omega)
  have h3 : (texts (ss.take k)).length ≤ 5000 := by
    have := h.few
    simp [texts]; omega
  rw [List.length_map] at h2
  omega

theorem texts_take_succ (ss : List ByteArray) (k : Nat) (hk : k < ss.length) : texts (ss.take (k + 1)) = texts (ss.take k) ++ [ss[k].data.toList] := by
  unfold texts; rw [List.take_succ_eq_append_getElem hk, List.map_append]; rfl

set_option maxHeartbeats 2000000 in
set_option maxRecDepth 100000 in
theorem tie_any (v : Value) (ss : List ByteArray) (w : World) (hv : SL w w.heap.size v ss) (hf : Few ss) :
    Calls Tryd.prog 40 #[v] w fun e w' => e = .returned (str (tieT (texts ss))) ∧ Below w.heap.size w w' := by
  obtain ⟨A, c, rfl⟩ := hv.form
  have hlen : (ss.length : Int) ≤ 5000 := by have := hf.few; omega
  go_enter Tryd.func40, Tryd.ntmps40
  go_wp2_with fail
  go_loopw [8] (fun vi wr => ∃ (k : Nat), k ≤ ss.length ∧ vi = .int .i64 (k : Int) ∧ IsB w.heap.size w.heap.size (tieT (texts (ss.take k))) wr ∧ Below w.heap.size w wr) (fun vi _ => ss.length - (intOf vi).toNat)
  case atStart => exact ⟨0, by omega, rfl, Lib.IsBuilderF.of (Lib.fresh_isBuilder 92 5 w), (Below.refl _ w).alloc (Nat.le_refl _) _⟩
  case round =>
    obtain ⟨k, hk, rfl, hI, hbw⟩ := hrel
    by_cases hlt : k < ss.length
    · obtain ⟨ad, rfl, hadb, hcell⟩ := (hv.below hbw).at_ hlt
      obtain ⟨x, hx⟩ : ∃ x, ss[k] = x := ⟨_, rfl⟩
      rw [hx] at hcell
      have hxs : x.size ≤ 1048576 := by rw [← hx]; exact hf.short _ (List.getElem_mem hlt)
      have hin := inR_small (n := x.size) (by omega)
      have hnl := numT_length hin
      have hnum := fun w => num_any (x.size : Int) w hin
      have htl := hf.tie k
      obtain ⟨T, hT⟩ : ∃ T, T = tieT (texts (ss.take k)) := ⟨_, rfl⟩
      rw [← hT] at hI htl
      have hnew : T ++ numT (x.size : Int) ++ [58] ++ x.data.toList ++ [44] = tieT (texts (ss.take (k + 1))) := by
        rw [texts_take_succ ss k hlt, tieT_snoc, hx, ← hT]
        simp [strand]
      have HN := Lib.hid hnew
      clear hnew hT hx
      go_wp2_with fail
      refine (hnum _).mono ?_
      rintro e w1 ⟨rfl, b1⟩
      have I1 := builder_below hI b1
      have B1 := hbw.trans (b1.mono hbw.size)
      go_wp2_with fail
      refine (wString _ _ _ (⟨(numT (x.size : Int)).toArray⟩ : ByteArray) _ I1 (show T.length + (numT (x.size : Int)).length ≤ 140737488355328 by omega) B1.size).mono ?_
      rintro e w2 ⟨rfl, I2, b2⟩
      have B2 := B1.trans b2
      go_wp2_with fail
      refine (wByte _ _ _ 58 _ I2 (by simp; omega) B2.size).mono ?_
      rintro e w3 ⟨rfl, I3, b3⟩
      have B3 := B2.trans b3
      go_wp2_with fail
      refine (wString _ _ _ x _ I3 (by simp; omega) B3.size).mono ?_
      rintro e w4 ⟨rfl, I4, b4⟩
      have B4 := B3.trans b4
      go_wp2_with fail
      refine (wByte _ _ _ 44 _ I4 (by simp; omega) B4.size).mono ?_
      rintro e w5 ⟨rfl, I5, b5⟩
      have B5 := B4.trans b5
      go_wp2_with fail
      go_roundw
      case rel =>
        refine ⟨k + 1, by omega, by go_num, ?_, B5⟩
        rw [← HN.out]; exact I5
      case measure => simp [intOf]; omega
    · obtain rfl : k = ss.length := by omega
      have hst := Tryd.Builder_String_any_k w.heap.size w.heap.size _ wr hI hbw.size
      rw [List.take_length] at hst
      clear hI
      go_wp2_with fail
      refine hst.mono ?_
      rintro e w1 ⟨rfl, _, b1, _⟩
      go_wp2_with fail
      go_ret
      exact ⟨rfl, hbw.trans b1⟩

end Go.Proofs.YticikmkehobblaaDoor

namespace Go.Proofs.YticikmkehobblaaDoor
open Go.RowKit M
attribute [local go_sem ↓] Go.wp_at_zero Go.wp_at_succ

theorem bytes_beq_yes {x y : ByteArray} (h : x = y) : (x.toList == y.toList) = true := by rw [h]; simp
theorem bytes_beq_no {x y : ByteArray} (h : x ≠ y) : (x.toList == y.toList) = false := by
  rw [ByteArray.toList_eq, ByteArray.toList_eq]
  have : x.data.toList ≠ y.data.toList := fun e => h (bytes_ext e)
  simpa using this

theorem ret_bool {a b : Bool} (h : a = b) : Ending.returned (.bool a) = .returned (.bool b) := by rw [h]
def total (ss : List ByteArray) : Nat := (ss.map ByteArray.size).sum
def smallB (ss : List ByteArray) : Bool := decide (ss.length ≤ 100 ∧ total ss ≤ 20000)
theorem total_succ (ss : List ByteArray) (k : Nat) (hk : k < ss.length) : total (ss.take (k + 1)) = total (ss.take k) + ss[k].size := by
  unfold total; rw [List.take_succ_eq_append_getElem hk, List.map_append, List.sum_append]; simp
theorem total_take (ss : List ByteArray) (k : Nat) : total (ss.take k) ≤ total ss := by
  have h : total ss = total (ss.take k) + total (ss.drop k) := by
    unfold total; rw [← List.sum_append, ← List.map_append, List.take_append_drop]
  omega

end Go.Proofs.YticikmkehobblaaDoor

namespace Go.Proofs.YticikmkehobblaaDoor
open Go.RowKit M

/-- what both hand back: the texts in a slice that lies in what the call made, or none -/
def UntieOut (o : Option (List Text)) (e : Ending) (w' : World) : Prop :=
  match o with
  | some l => ∃ v ss, e = .returned (.tuple #[v, .int .i64 0]) ∧ texts ss = l ∧ SL w' w'.heap.size v ss
  | none => e = .returned (.tuple #[.slice none 0 0, .int .i64 10])

theorem texts_length (ss : List ByteArray) : (texts ss).length = ss.length := by simp [texts]
theorem texts_snoc (ss : List ByteArray) (x : ByteArray) : texts (ss ++ [x]) = texts ss ++ [x.data.toList] := by simp [texts]
theorem own_below {w w' : World} {base : Nat} {v : Value} {n : Nat} {xs : List Value} (h : w.ownsRow base 9 1 v n xs) (hb : Below w.heap.size w w') : w'.ownsRow base 9 1 v n xs :=
  h.kept (row := none) ⟨hb.os, hb.tape, hb.output, hb.size, fun k hk _ => hb.block k hk⟩ (Classical.em _)
theorem own_form {w : World} {base : Nat} {v : Value} {ss : List ByteArray} (h : w.ownsRow base 9 1 v ss.length (ss.map Value.string)) : ∃ A c, v = .slice A ss.length c := (SL.of_own h).form
theorem first_is (t : ByteArray) {x r : Text} (h : firstT t.data.toList = some (x, r)) : ∃ X R : ByteArray, firstR t (firstT t.data.toList) = .tuple #[.string X, .string R, .int .i64 0] ∧ X.data.toList = x ∧ R.data.toList = r :=
  ⟨⟨x.toArray⟩, ⟨r.toArray⟩, by rw [h]; rfl, rfl, rfl⟩

set_option maxHeartbeats 4000000 in
set_option maxRecDepth 100000 in
theorem untie_any (s : ByteArray) (w : World) (hs : s.size ≤ 140737488355328) (hg : Good w) :
    Calls Tryd.prog 34 #[.string s] w fun e w' => UntieOut (untieT s.data.toList) e w' ∧ Below w.heap.size w w' := by
  obtain ⟨i0, hi, hz0, hz1, hz2⟩ := info_parts infoStr
  by_cases hlong : 1048576 < s.size
  · rw [untie_long (by simpa using hlong)]
    have hi' : (1048576 : Int) < (s.size : Int) := by omega
    go_enter Tryd.func34, Tryd.ntmps34
    go_wp2_with fail
    go_ret2
    exact ⟨rfl, Below.refl _ w⟩
  · have hi' : ¬ (1048576 : Int) < (s.size : Int) := by omega
    have hi'' : (s.size : Int) ≤ 1048576 := by omega
    have hsl : s.data.toList.length ≤ 1048576 := by simp; omega
    go_enter Tryd.func34, Tryd.ntmps34
    go_wp2_with fail
    go_loopw [0, 4] (fun v0 v4 wr => ∃ (t : ByteArray) (ss : List ByteArray), v0 = .string t ∧ Hid (s.data.toList = tieT (texts ss) ++ t.data.toList) ∧ ss.length ≤ 4096 ∧ t.size ≤ 1048576 ∧ wr.ownsRow w.heap.size 9 1 v4 ss.length (ss.map Value.string) ∧ Below w.heap.size w wr) (fun v0 _ _ => lenOf v0)
    case atStart => exact ⟨s, [], rfl, rfl, by simp, by omega, ⟨by simp, .inl ⟨rfl, rfl⟩⟩, Below.refl _ w⟩
    case round =>
      obtain ⟨t, ss, rfl, hst, hss, hts, hown, hbw⟩ := hrel
      by_cases h0 : t.size = 0
      · have hE := empty_no t h0
        have hres : untieT s.data.toList = some (texts ss) := by
          have h := hst.out
          rw [(toList_nil t).1 h0, List.append_nil] at h
          exact untie_some h (by rw [texts_length]; exact hss) hsl
        have HR := Lib.hid hres
        clear hres hst h0
        go_wp2_with fail
        go_ret2
        exact ⟨by rw [HR.out]; exact ⟨_, ss, rfl, rfl, SL.of_own hown⟩, hbw⟩
      · have hE := empty_yes t h0
        have hne : t.data.toList ≠ [] := fun e => h0 ((toList_nil t).2 e)
        obtain ⟨A, c, rfl⟩ := own_form hown
        have hcon := first_any t wr (by omega) (hg.below hbw)
        cases hf : firstT t.data.toList with
        | none =>
          have hres := untie_stuck hst.out hne hf
          rw [hf] at hcon
          have HR := Lib.hid hres
          clear hres hst h0 hne hf
          go_wp2_with fail
          refine hcon.mono ?_
          rintro e w1 ⟨rfl, b1⟩
          unfold firstR
          go_wp2_with fail
          go_ret2
          exact ⟨by rw [HR.out]; rfl, hbw.trans (b1.mono hbw.size)⟩
        | some p =>
          obtain ⟨x, r⟩ := p
          obtain ⟨X, R, hfr, rfl, rfl⟩ := first_is t hf
          rw [hfr] at hcon
          have hstep := untie_step hst.out hf
          have hrl : t.data.toList.length = (strand X.data.toList).length + R.data.toList.length := by
            rw [(first_spec hf).1, List.length_append]
          have hsn := List.length_pos_iff.2 (strand_ne X.data.toList)
          have hR1 : R.size < t.size := by simp at hrl; omega
          by_cases hm : ss.length = 4096
          · have hres := untie_many hst.out hne (by rw [texts_length]; exact hm)
            have HR := Lib.hid hres
            have hmb : ((ss.length : Int) == 4096) = true := by rw [hm]; rfl
            clear hres hst h0 hne hf hfr hstep hrl hsn hm
            go_wp2_with fail
            refine hcon.mono ?_
            rintro e w1 ⟨rfl, b1⟩
            go_wp2_with fail
            go_ret2
            exact ⟨by rw [HR.out]; rfl, hbw.trans (b1.mono hbw.size)⟩
          · have hmb : ((ss.length : Int) == 4096) = false := by
              have : (ss.length : Int) ≠ 4096 := by omega
              simpa using this
            have HS := Lib.hid hstep
            have hl2 : ss.length + 1 ≤ 4096 := by omega
            clear hst h0 hne hf hfr hstep hrl hsn hm
            go_wp2_with fail
            refine hcon.mono ?_
            rintro e w1 ⟨rfl, b1⟩
            have B1 := hbw.trans (b1.mono hbw.size)
            have O1 := own_below hown b1
            go_wp2_with (at_builtin; refine wpList_append_own _ rfl _ _ 62 rfl w.heap.size 9 i0 (.string ⟨#[]⟩) 1 16 Tryd.underlying62 hi hz0 hz1 hz2 rfl (by decide) _ _ _ rfl (O1.alloc _) ⟨w1.heap.size, 0, none⟩ 1 1 [.string X] rfl rfl ?c1 ?c2 ?c3 ?c4 ?c5 ?_)
            case c1 =>
              intro j u hj
              match j, hj with
              | 0, hj => simp at hj; subst hj; simp [Addr.add]
            case c2 => intro u hu; simp at hu; subst hu; rfl
            case c3 => unfold maxLen; omega
            case c4 => omega
            case c5 => have := B1.size; simp; omega
            intro v' w2 O2 hgrow _
            have B2 : Below w.heap.size w w2 := (B1.alloc B1.size _).grown hgrow (by have := B1.size; simp; omega) (fun k hk => (O1.lt k hk).1)
            have O3 : w2.ownsRow w.heap.size 9 1 v' (ss ++ [X]).length ((ss ++ [X]).map Value.string) := by simpa using O2
            clear O2 hgrow
            go_wp2_with fail
            go_roundw
            case rel =>
              refine ⟨R, ss ++ [X], rfl, ?_, by simp; omega, by omega, O3, B2⟩
              show s.data.toList = _
              rw [texts_snoc]; exact HS.out
            case measure => simp only [lenOf]; omega

end Go.Proofs.YticikmkehobblaaDoor

namespace Go.Proofs.YticikmkehobblaaDoor
open Go.RowKit M

def UntieOwn (base : Nat) (o : Option (List Text)) (e : Ending) (w' : World) : Prop :=
  match o with
  | some l => ∃ v ss, e = .returned (.tuple #[v, .int .i64 0]) ∧ texts ss = l ∧ w'.ownsRow base 9 1 v ss.length (ss.map Value.string)
  | none => e = .returned (.tuple #[.slice none 0 0, .int .i64 10])

set_option maxHeartbeats 4000000 in
set_option maxRecDepth 100000 in
theorem untie_own (s : ByteArray) (w : World) (hs : s.size ≤ 140737488355328) (hg : Good w) :
    Calls Tryd.prog 34 #[.string s] w fun e w' => UntieOwn w.heap.size (untieT s.data.toList) e w' ∧ Below w.heap.size w w' := by
  obtain ⟨i0, hi, hz0, hz1, hz2⟩ := info_parts infoStr
  by_cases hlong : 1048576 < s.size
  · rw [untie_long (by simpa using hlong)]
    have hi' : (1048576 : Int) < (s.size : Int) := by omega
    go_enter Tryd.func34, Tryd.ntmps34
    go_wp2_with fail
    go_ret2
    exact ⟨rfl, Below.refl _ w⟩
  · have hi' : ¬ (1048576 : Int) < (s.size : Int) := by omega
    have hi'' : (s.size : Int) ≤ 1048576 := by omega
    have hsl : s.data.toList.length ≤ 1048576 := by simp; omega
    go_enter Tryd.func34, Tryd.ntmps34
    go_wp2_with fail
    go_loopw [0, 4] (fun v0 v4 wr => ∃ (t : ByteArray) (ss : List ByteArray), v0 = .string t ∧ Hid (s.data.toList = tieT (texts ss) ++ t.data.toList) ∧ ss.length ≤ 4096 ∧ t.size ≤ 1048576 ∧ wr.ownsRow w.heap.size 9 1 v4 ss.length (ss.map Value.string) ∧ Below w.heap.size w wr) (fun v0 _ _ => lenOf v0)
    case atStart => exact ⟨s, [], rfl, rfl, by simp, by omega, ⟨by simp, .inl ⟨rfl, rfl⟩⟩, Below.refl _ w⟩
    case round =>
      obtain ⟨t, ss, rfl, hst, hss, hts, hown, hbw⟩ := hrel
      by_cases h0 : t.size = 0
      · have hE := empty_no t h0
        have hres : untieT s.data.toList = some (texts ss) := by
          have h := hst.out
          rw [(toList_nil t).1 h0, List.append_nil] at h
          exact untie_some h (by rw [texts_length]; exact hss) hsl
        have HR := Lib.hid hres
        clear hres hst h0
        go_wp2_with fail
        go_ret2
        exact ⟨by rw [HR.out]; exact ⟨_, ss, rfl, rfl, hown⟩, hbw⟩
      · have hE := empty_yes t h0
        have hne : t.data.toList ≠ [] := fun e => h0 ((toList_nil t).2 e)
        obtain ⟨A, c, rfl⟩ := own_form hown
        have hcon := first_any t wr (by omega) (hg.below hbw)
        cases hf : firstT t.data.toList with
        | none =>
          have hres := untie_stuck hst.out hne hf
          rw [hf] at hcon
          have HR := Lib.hid hres
          clear hres hst h0 hne hf
          go_wp2_with fail
          refine hcon.mono ?_
          rintro e w1 ⟨rfl, b1⟩
          unfold firstR
          go_wp2_with fail
          go_ret2
          exact ⟨by rw [HR.out]; rfl, hbw.trans (b1.mono hbw.size)⟩
        | some p =>
          obtain ⟨x, r⟩ := p
          obtain ⟨X, R, hfr, rfl, rfl⟩ := first_is t hf
          rw [hfr] at hcon
          have hstep := untie_step hst.out hf
          have hrl : t.data.toList.length = (strand X.data.toList).length + R.data.toList.length := by
            rw [(first_spec hf).1, List.length_append]
          have hsn := List.length_pos_iff.2 (strand_ne X.data.toList)
          have hR1 : R.size < t.size := by simp at hrl; omega
          by_cases hm : ss.length = 4096
          · have hres := untie_many hst.out hne (by rw [texts_length]; exact hm)
            have HR := Lib.hid hres
            have hmb : ((ss.length : Int) == 4096) = true := by rw [hm]; rfl
            clear hres hst h0 hne hf hfr hstep hrl hsn hm
            go_wp2_with fail
            refine hcon.mono ?_
            rintro e w1 ⟨rfl, b1⟩
            go_wp2_with fail
            go_ret2
            exact ⟨by rw [HR.out]; rfl, hbw.trans (b1.mono hbw.size)⟩
          · have hmb : ((ss.length : Int) == 4096) = false := by
              have : (ss.length : Int) ≠ 4096 := by omega
              simpa using this
            have HS := Lib.hid hstep
            have hl2 : ss.length + 1 ≤ 4096 := by omega
            clear hst h0 hne hf hfr hstep hrl hsn hm
            go_wp2_with fail
            refine hcon.mono ?_
            rintro e w1 ⟨rfl, b1⟩
            have B1 := hbw.trans (b1.mono hbw.size)
            have O1 := own_below hown b1
            go_wp2_with (at_builtin; refine wpList_append_own _ rfl _ _ 62 rfl w.heap.size 9 i0 (.string ⟨#[]⟩) 1 16 Tryd.underlying62 hi hz0 hz1 hz2 rfl (by decide) _ _ _ rfl (O1.alloc _) ⟨w1.heap.size, 0, none⟩ 1 1 [.string X] rfl rfl ?c1 ?c2 ?c3 ?c4 ?c5 ?_)
            case c1 =>
              intro j u hj
              match j, hj with
              | 0, hj => simp at hj; subst hj; simp [Addr.add]
            case c2 => intro u hu; simp at hu; subst hu; rfl
            case c3 => unfold maxLen; omega
            case c4 => omega
            case c5 => have := B1.size; simp; omega
            intro v' w2 O2 hgrow _
            have B2 : Below w.heap.size w w2 := (B1.alloc B1.size _).grown hgrow (by have := B1.size; simp; omega) (fun k hk => (O1.lt k hk).1)
            have O3 : w2.ownsRow w.heap.size 9 1 v' (ss ++ [X]).length ((ss ++ [X]).map Value.string) := by simpa using O2
            clear O2 hgrow
            go_wp2_with fail
            go_roundw
            case rel =>
              refine ⟨R, ss ++ [X], rfl, ?_, by simp; omega, by omega, O3, B2⟩
              show s.data.toList = _
              rw [texts_snoc]; exact HS.out
            case measure => simp only [lenOf]; omega


theorem mem_le_tie : ∀ {l : List Text} {x : Text}, x ∈ l → x.length ≤ (tieT l).length
  | y :: l, x, h => by
    have e : tieT (y :: l) = strand y ++ tieT l := rfl
    rw [e, List.length_append]
    rcases List.mem_cons.1 h with rfl | h
    · have : x.length ≤ (strand x).length := by unfold strand; simp; omega
      omega
    · have := mem_le_tie h
      omega
end Go.Proofs.YticikmkehobblaaDoor

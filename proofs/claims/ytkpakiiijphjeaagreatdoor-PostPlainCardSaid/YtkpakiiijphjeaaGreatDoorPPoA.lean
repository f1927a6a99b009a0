/-
  THE PLAIN MATHEMATICS OF PACKAGE post, of no program: packets, whether they may be, their texts and back. No condition.
  strand.All: the texts whose knot a text is, however many. Conditions: texts of at most 2^20 bytes; the library's variables hold what their types allow.
  A packet out of a text, read strand by strand, of no program. No condition.
-/
import Derived.Test.YtkpakiiijphjeaaGreatDoorPOdA
import Derived.Test.YtkpakiiijphjeaaGreatDoorPRoM
import Derived.Test.YtkpakiiijphjeaaGreatDoorPBaseA
import Derived.Test.YtkpakiiijphjeaaGreatDoorPFirstA
import Derived.Test.YtkpakiiijphjeaaGreatDoorPDsPNA
import Derived.OwnWalk
import Derived.Test.YtkpakiiijphjeaaGreatDoorPOrdA
namespace Go.Proofs.YtkpakiiijphjeaaGreatDoor.Po
open Go.Proofs.YtkpakiiijphjeaaGreatDoor.M (tieT tieT_cons tieT_nil untieT untie_some untie_none untie_spec numT numT_inj intT inR intT_some intT_spec tieT_inj tie_prefix firstT first_some first_spec sealT openT open_seal open_spec strand strand_ne strand_length)
open Go.Proofs.YtkpakiiijphjeaaGreatDoor.Od (Rep Text E0 ba_same ba_data amongB sameA sameA_iff sameR sameR_iff isA isR chkA chkR putA putR putA_inj putR_inj parseA parseR truthT truthT_inj)
open Go.Proofs.YtkpakiiijphjeaaGreatDoor.Ro (En Lg isL entsT entsT_cons entsT_length)
open Classical in
noncomputable def allT (s : Text) : Option (List Text) :=
  if h : ∃ l, s = tieT l then some h.choose else none
theorem all_some {s : Text} {l : List Text} (h : s = tieT l) : allT s = some l := by
  unfold allT
  have hx : ∃ l, s = tieT l := ⟨l, h⟩
  rw [dif_pos hx]
  exact congrArg some (tieT_inj (h.symm.trans hx.choose_spec)).symm
theorem all_none {s : Text} (h : ∀ l, s = tieT l → False) : allT s = none := by
  unfold allT
  rw [dif_neg]
  rintro ⟨l, h1⟩
  exact h l h1
theorem all_spec {s : Text} {l : List Text} (h : allT s = some l) : s = tieT l := by
  unfold allT at h
  split at h
  · rename_i hx
    have := hx.choose_spec
    injection h with h
    rw [h] at this
    exact this
  · cases h
theorem all_stuck {s0 s : Text} {acc : List Text} (h3 : s0.length ≤ 1048576) (h : s0 = tieT acc ++ s) (hne : s ≠ []) (hf : firstT s = none) : allT s0 = none :=
  all_none fun l e => by
    obtain ⟨m, rfl, hm⟩ := tie_prefix acc l s (by rw [← e, h])
    rcases m with _ | ⟨x, m⟩
    · exact hne (by rw [hm, tieT_nil])
    · rw [tieT_cons] at hm
      have hl : (strand x).length ≤ 1048576 := by
        have := congrArg List.length h
        rw [hm] at this
        simp at this; omega
      rw [first_some hm hl] at hf
      cases hf
structure Wr where
  kind : Int
  frm : Int
  til : Int
  term : Int
  index : Int
  lterm : Int
  commit : Int
  hint : Int
  reject : Bool
  es : List En
  text : ByteArray
abbrev Wr.zero : Wr := ⟨0, 0, 0, 0, 0, 0, 0, 0, false, [], E0⟩
structure Pk where
  kind : Int
  frm : Int
  til : Int
  range : Int
  wire : Wr
  id : Int
  next : Int
  ord : Od.Ask
  client : Int
  seq : Int
  status : Int
  hint : Int
  rep : Rep
abbrev Pk.zero : Pk := ⟨0, 0, 0, 0, Wr.zero, 0, 0, Od.Ask.zero, 0, 0, 0, 0, Rep.zero⟩
def sameW (a b : Wr) : Bool := decide (a.kind = b.kind ∧ a.frm = b.frm ∧ a.til = b.til ∧ a.term = b.term ∧ a.index = b.index ∧ a.lterm = b.lterm ∧ a.commit = b.commit ∧ a.hint = b.hint ∧ a.reject = b.reject ∧ a.es = b.es ∧ a.text = b.text)
theorem Wr.ext' {a b : Wr} (h1 : a.kind = b.kind) (h2 : a.frm = b.frm) (h3 : a.til = b.til) (h4 : a.term = b.term) (h5 : a.index = b.index) (h6 : a.lterm = b.lterm) (h7 : a.commit = b.commit) (h8 : a.hint = b.hint) (h9 : a.reject = b.reject) (h10 : a.es = b.es) (h11 : a.text = b.text) : a = b := by
  cases a; cases b; simp only at h1 h2 h3 h4 h5 h6 h7 h8 h9 h10 h11
  subst h1 h2 h3 h4 h5 h6 h7 h8 h9 h10 h11
  rfl
theorem sameW_iff (a b : Wr) : sameW a b = true ↔ a = b := by
  unfold sameW
  rw [decide_eq_true_eq]
  constructor
  · rintro ⟨h1, h2, h3, h4, h5, h6, h7, h8, h9, h10, h11⟩
    exact Wr.ext' h1 h2 h3 h4 h5 h6 h7 h8 h9 h10 h11
  · rintro rfl
    exact ⟨rfl, rfl, rfl, rfl, rfl, rfl, rfl, rfl, rfl, rfl, rfl⟩
def sameK (a b : Pk) : Bool := decide (a.kind = b.kind) && decide (a.frm = b.frm) && decide (a.til = b.til) && decide (a.range = b.range) && sameW a.wire b.wire && decide (a.id = b.id) && decide (a.next = b.next) && sameA a.ord b.ord && decide (a.client = b.client) && decide (a.seq = b.seq) && decide (a.status = b.status) && decide (a.hint = b.hint) && sameR a.rep b.rep
theorem Pk.ext' {a b : Pk} (h1 : a.kind = b.kind) (h2 : a.frm = b.frm) (h3 : a.til = b.til) (h4 : a.range = b.range) (h5 : a.wire = b.wire) (h6 : a.id = b.id) (h7 : a.next = b.next) (h8 : a.ord = b.ord) (h9 : a.client = b.client) (h10 : a.seq = b.seq) (h11 : a.status = b.status) (h12 : a.hint = b.hint) (h13 : a.rep = b.rep) : a = b := by
  cases a; cases b; simp only at h1 h2 h3 h4 h5 h6 h7 h8 h9 h10 h11 h12 h13
  subst h1 h2 h3 h4 h5 h6 h7 h8 h9 h10 h11 h12 h13
  rfl
theorem sameK_iff (a b : Pk) : sameK a b = true ↔ a = b := by
  unfold sameK
  simp only [Bool.and_eq_true, decide_eq_true_eq, sameW_iff, sameA_iff, sameR_iff]
  constructor
  · rintro ⟨⟨⟨⟨⟨⟨⟨⟨⟨⟨⟨⟨h1, h2⟩, h3⟩, h4⟩, h5⟩, h6⟩, h7⟩, h8⟩, h9⟩, h10⟩, h11⟩, h12⟩, h13⟩
    exact Pk.ext' h1 h2 h3 h4 h5 h6 h7 h8 h9 h10 h11 h12 h13
  · rintro rfl
    simp
theorem sameK_self (a : Pk) : sameK a a = true := (sameK_iff a a).2 rfl
def nodeB (n : Int) : Bool := amongB n 1 7
def idB (n : Int) : Bool := amongB n 1 1099511627776
def ownW (m : Wr) : Wr := ⟨m.kind, m.frm, m.til, m.term, m.index, m.lterm, m.commit, m.hint, m.reject, if m.kind = 5 then m.es else [], if m.kind = 7 then m.text else E0⟩
def ownK (p : Pk) : Pk :=
  if p.kind = 1 then ⟨p.kind, p.frm, p.til, p.range, ownW p.wire, 0, 0, Od.Ask.zero, 0, 0, 0, 0, Rep.zero⟩
  else if p.kind = 2 then ⟨p.kind, p.frm, p.til, p.range, Wr.zero, p.id, p.next, Od.Ask.zero, 0, 0, 0, 0, Rep.zero⟩
  else if p.kind = 3 then ⟨p.kind, 0, p.til, p.range, Wr.zero, 0, 0, p.ord, 0, 0, 0, 0, Rep.zero⟩
  else if p.kind = 4 then ⟨p.kind, p.frm, 0, p.range, Wr.zero, 0, 0, Od.Ask.zero, p.client, p.seq, p.status, if p.status = 1 then 0 else if p.status = 2 then p.hint else 0, if p.status = 1 then p.rep else Rep.zero⟩
  else ⟨p.kind, 0, 0, p.range, Wr.zero, 0, 0, Od.Ask.zero, 0, 0, 0, 0, Rep.zero⟩
def fitsE (m : Wr) : Bool := decide (m.es.length ≤ 64) && m.es.all (fun e => decide (e.2.size ≤ 131072)) && isL ⟨m.index, m.lterm, m.es⟩
def fitsW (m : Wr) : Bool := amongB m.kind 1 7 && idB m.frm && idB m.til && !decide (m.frm = m.til) && amongB m.term 1 1099511627776 && amongB m.commit 0 1099511627776 && amongB m.hint (-1) 1099511627776 && fitsE m && decide (m.text.size ≤ 262144)
def fitsS (p : Pk) : Bool := if p.status = 1 then isR p.rep else if p.status = 2 then amongB p.hint 0 7 else decide (p.status = 3)
noncomputable def fitsK (p : Pk) : Bool :=
  if p.kind = 1 then nodeB p.frm && nodeB p.til && fitsW p.wire
  else if p.kind = 2 then nodeB p.frm && nodeB p.til && idB p.id && amongB p.next (p.id + 1) 1099511627777
  else if p.kind = 3 then nodeB p.til && !decide (p.ord.kind = 0) && isA p.ord
  else if p.kind = 4 then nodeB p.frm && idB p.client && idB p.seq && fitsS p
  else false
noncomputable def isK (p : Pk) : Bool := idB p.range && sameK p (ownK p) && fitsK p
noncomputable def chkK (p : Pk) : Int := if isK p = true then 0 else 140
theorem isK_iff (p : Pk) : isK p = true ↔ idB p.range = true ∧ p = ownK p ∧ fitsK p = true := by
  unfold isK; simp only [Bool.and_eq_true, sameK_iff, and_assoc]
def strandsW (m : Wr) : List Text := [numT m.kind, numT m.frm, numT m.til, numT m.term, numT m.index, numT m.lterm, numT m.commit, numT m.hint, truthT m.reject, tieT (entsT m.es), m.text.data.toList]
def putW (m : Wr) : Text := tieT (strandsW m)
noncomputable def strandsK (p : Pk) : List Text := [numT p.kind, numT p.frm, numT p.til, numT p.range, putW p.wire, numT p.id, numT p.next, putA p.ord, numT p.client, numT p.seq, numT p.status, numT p.hint, putR p.rep]
noncomputable def putK (p : Pk) : Text := sealT (tieT (strandsK p))
theorem ents_inj : ∀ {a b : List En}, entsT a = entsT b → a = b
  | [], [], _ => rfl
  | [], m :: b, h => by rw [entsT_cons] at h; simp [entsT] at h
  | m :: a, [], h => by rw [entsT_cons] at h; simp [entsT] at h
  | m :: a, n :: b, h => by
    rw [entsT_cons, entsT_cons] at h
    injection h with h1 h2
    injection h2 with h2 h3
    obtain ⟨m1, m2⟩ := m
    obtain ⟨n1, n2⟩ := n
    rw [show m1 = n1 from numT_inj h1, show m2 = n2 from ba_same h2, ents_inj h3]
theorem putW_inj {a b : Wr} (h : putW a = putW b) : a = b := by
  have h := tieT_inj h
  unfold strandsW at h
  injection h with h1 h
  injection h with h2 h
  injection h with h3 h
  injection h with h4 h
  injection h with h5 h
  injection h with h6 h
  injection h with h7 h
  injection h with h8 h
  injection h with h9 h
  injection h with h10 h
  injection h with h11 h
  exact Wr.ext' (numT_inj h1) (numT_inj h2) (numT_inj h3) (numT_inj h4) (numT_inj h5) (numT_inj h6) (numT_inj h7) (numT_inj h8) (truthT_inj h9) (ents_inj (tieT_inj h10)) (ba_same h11)
theorem sealT_inj {a b : Text} (h : sealT a = sealT b) : a = b := by
  have := open_seal a
  rw [h, open_seal] at this
  exact (Option.some.inj this).symm
theorem putK_inj {a b : Pk} (h : putK a = putK b) : a = b := by
  have h := tieT_inj (sealT_inj h)
  unfold strandsK at h
  injection h with h1 h
  injection h with h2 h
  injection h with h3 h
  injection h with h4 h
  injection h with h5 h
  injection h with h6 h
  injection h with h7 h
  injection h with h8 h
  injection h with h9 h
  injection h with h10 h
  injection h with h11 h
  injection h with h12 h
  injection h with h13 h
  exact Pk.ext' (numT_inj h1) (numT_inj h2) (numT_inj h3) (numT_inj h4) (putW_inj h5) (numT_inj h6) (numT_inj h7) (putA_inj h8) (numT_inj h9) (numT_inj h10) (numT_inj h11) (numT_inj h12) (putR_inj h13)
open Classical in
noncomputable def parseK (s : Text) : Pk × Int :=
  if h : ∃ p, isK p = true ∧ putK p = s then (h.choose, 0) else (Pk.zero, 140)
theorem parseK_some {p : Pk} {s : Text} (h : isK p = true) (h2 : putK p = s) : parseK s = (p, 0) := by
  unfold parseK
  have hx : ∃ p, isK p = true ∧ putK p = s := ⟨p, h, h2⟩
  rw [dif_pos hx]
  exact congrArg (·, 0) (putK_inj (hx.choose_spec.2.trans h2.symm))
theorem parseK_none {s : Text} (h : ∀ p, isK p = true → putK p = s → False) : parseK s = (Pk.zero, 140) := by
  unfold parseK
  rw [dif_neg]
  rintro ⟨p, h1, h2⟩
  exact h p h1 h2
theorem parse_putK (p : Pk) : parseK (putK p) = if isK p = true then (p, 0) else (Pk.zero, 140) := by
  by_cases h : isK p = true
  · rw [if_pos h]; exact parseK_some h rfl
  · rw [if_neg h]; exact parseK_none fun q h1 h2 => h (by rw [← putK_inj h2]; exact h1)
end Go.Proofs.YtkpakiiijphjeaaGreatDoor.Po

namespace Go.Proofs.YtkpakiiijphjeaaGreatDoor.Po
open Go.RowKit
open Go.Proofs.YtkpakiiijphjeaaGreatDoor.M (tieT intT numT inR intT_spec firstT untie_step first_cut_some first_cut_none first_cut_far first_cut_comma first_no_colon tieT_nil tieT_cons)
def StrOut (base : Nat) (o : Option (List (List UInt8))) (e : Ending) (w' : World) : Prop :=
  match o with
  | some l => ∃ v ss, e = .returned (.tuple #[v, .bool true]) ∧ texts ss = l ∧ w'.ownsRow base 9 1 v ss.length (ss.map Value.string)
  | none => e = .returned (.tuple #[.slice none 0 0, .bool false])
theorem StrOut.no {base : Nat} {o : Option (List (List UInt8))} {w' : World} (h : o = none) : StrOut base o (.returned (.tuple #[.slice none 0 0, .bool false])) w' := by subst h; exact rfl
theorem empty_ba {t : ByteArray} (h : t.size = 0) : t = ⟨#[]⟩ := by
  obtain ⟨⟨l⟩⟩ := t
  have : l.length = 0 := h
  rw [List.length_eq_zero_iff.1 this]
theorem tie_count : ∀ (l : List (List UInt8)), 3 * l.length ≤ (tieT l).length
  | [] => by simp
  | y :: l => by
    rw [tieT_cons, List.length_append, M.strand_length]
    have hp : 1 ≤ (numT (y.length : Int)).length := by rw [M.numT_nat]; exact M.dig_pos _
    have := tie_count l
    simp only [List.length_cons]; omega
theorem drop_cut {p q : List UInt8} {k : Nat} : (p ++ 58 :: q).drop (p.length + 1 + k + 1) = q.drop (k + 1) := by
  rw [show p.length + 1 + k + 1 = p.length + (k + 2) by omega, List.drop_append]
  rw [List.drop_of_length_le (by omega), List.nil_append, show p.length + (k + 2) - p.length = k + 1 + 1 by omega]
  rfl
set_option maxHeartbeats 8000000 in
set_option maxRecDepth 100000 in
theorem all_any (s : ByteArray) (w : World) (hs : s.size ≤ 1048576) (hg : Good w) :
    Calls Tryz.prog 44 #[.string s] w fun e w' => StrOut w.heap.size (allT s.data.toList) e w' ∧ Below w.heap.size w w' := by
  obtain ⟨i0, hi, hz0, hz1, hz2⟩ := info_parts infoStr
  obtain ⟨s0, hs0⟩ : ∃ s0, s.data.toList = s0 := ⟨_, rfl⟩
  have hsl : s0.length ≤ 1048576 := by rw [← hs0]; simpa using hs
  rw [hs0]
  have HS0 := Lib.hid hs0
  have HSL := Lib.hid hsl
  clear hs0 hsl
  go_enter Tryz.func44, Tryz.ntmps44
  go_wp2_with fail
  go_loopw [0, 4, 5, 6, 7, 8, 9] (fun v0 v4 _ _ _ _ _ wr => ∃ (t : ByteArray) (ss : List ByteArray), v0 = .string t ∧ Hid (s0 = tieT (texts ss) ++ t.data.toList) ∧ ss.length + t.size ≤ 1048576 ∧ wr.ownsRow w.heap.size 9 1 v4 ss.length (ss.map Value.string) ∧ Below w.heap.size w wr) (fun v0 _ _ _ _ _ _ _ => lenOf v0)
  case atStart => exact ⟨s, [], rfl, Lib.hid (by simp [texts, tieT_nil, HS0.out]), by simpa using hs, ⟨by simp, .inl ⟨rfl, rfl⟩⟩, Below.refl _ w⟩
  case round =>
    revert hrel; revert wr; intro wo hrel
    obtain ⟨t, ss, rfl, HST, hts, hown, hbw⟩ := hrel
    obtain ⟨A, c, rfl⟩ := own_form hown
    have hzo := hbw.size
    by_cases ht0 : t.size = 0
    · obtain rfl := empty_ba ht0
      have hst := HST.out
      have hun : allT s0 = some (texts ss) := all_some (by simpa using hst)
      have HUN := Lib.hid hun
      have HO := Lib.hid hown
      clear hun hst hown ht0
      go_wp2_with fail
      go_ret2
      exact ⟨by rw [HUN.out]; exact ⟨_, ss, rfl, rfl, HO.out⟩, hbw⟩
    have hte : t.toList.isEmpty = false := by
      rw [ByteArray.toList_eq]
      cases h : t.data.toList with
      | nil => exact absurd ((toList_nil t).2 h) ht0
      | cons a b => rfl
    have hne : t.data.toList ≠ [] := fun h => ht0 ((toList_nil t).2 h)
    have hstuck : firstT t.data.toList = none → allT s0 = none := fun h => all_stuck HSL.out HST.out hne h
    have htk : t.data.toList.take 1048576 = t.data.toList := List.take_of_length_le (by simp; omega)
    obtain ⟨mm, hmm⟩ := (hg.below hbw).most
    have hc0 := Tryz.strings_Cut t ⟨#[58]⟩ mm wo (by omega) hmm
    rw [show (⟨#[58]⟩ : ByteArray).data.toList = [58] from rfl] at hc0
    clear hmm ht0
    have hneq : (t.toList == []) = false := by rw [beq_eq_false_iff_ne]; intro h; rw [h] at hte; cases hte
    by_cases hcol : (58 : UInt8) ∈ t.data.toList
    rotate_left
    · rw [cut_no_colon _ hcol] at hc0
      simp only [] at hc0
      have hun := hstuck (first_no_colon (by rw [htk]; exact hcol))
      rw [show (⟨t.data.toList.toArray⟩ : ByteArray) = t from str_self t] at hc0
      have hint := fun n => int_any t (wo.drewN n) (by omega) ((hg.below hbw).drewN n)
      have HUN := Lib.hid hun
      clear hcol htk hstuck hun hne
      cases hi2 : intT t.data.toList with
      | none =>
        rw [hi2] at hint
        unfold intR at hint
        clear hi2
        go_wp2_with fail
        refine hc0.mono ?_
        rintro e w1 ⟨rfl, n, rfl⟩
        go_wp2_with fail
        refine (hint n).mono ?_
        rintro e w2 ⟨rfl, hb2⟩
        have hb2' := below_of_drewN hb2
        go_wp2_with fail
        go_ret2
        exact ⟨StrOut.no HUN.out, hbw.trans (hb2'.mono hzo)⟩
      | some v =>
        rw [hi2] at hint
        unfold intR at hint
        simp only [] at hint
        clear hi2
        by_cases hneg : v < 0
        · have l1 : (v < 0) = True := eq_true hneg
          clear hneg
          go_wp2_with fail
          refine hc0.mono ?_
          rintro e w1 ⟨rfl, n, rfl⟩
          go_wp2_with fail
          refine (hint n).mono ?_
          rintro e w2 ⟨rfl, hb2⟩
          have hb2' := below_of_drewN hb2
          go_wp2_with fail
          go_ret2
          exact ⟨StrOut.no HUN.out, hbw.trans (hb2'.mono hzo)⟩
        · have l1 : (v < 0) = False := eq_false hneg
          have l2 : (0 ≤ v) = True := eq_true (by omega)
          clear hneg
          go_wp2_with fail
          refine hc0.mono ?_
          rintro e w1 ⟨rfl, n, rfl⟩
          go_wp2_with fail
          refine (hint n).mono ?_
          rintro e w2 ⟨rfl, hb2⟩
          have hb2' := below_of_drewN hb2
          go_wp2_with fail
          go_ret2
          exact ⟨StrOut.no HUN.out, hbw.trans (hb2'.mono hzo)⟩
    obtain ⟨p, q, hpq, hp⟩ := has_colon _ hcol
    rw [hpq, cut_colon p q hp] at hc0
    simp only [] at hc0
    obtain ⟨P, hP⟩ : ∃ P : ByteArray, ⟨p.toArray⟩ = P := ⟨_, rfl⟩
    obtain ⟨Q, hQ⟩ : ∃ Q : ByteArray, ⟨q.toArray⟩ = Q := ⟨_, rfl⟩
    obtain rfl : P.data.toList = p := by rw [← hP]
    obtain rfl : Q.data.toList = q := by rw [← hQ]
    have hsz : P.size + Q.size + 1 = t.size := by
      have := congrArg List.length hpq
      simp at this
      omega
    have hint := fun n => int_any P (wo.drewN n) (by omega) ((hg.below hbw).drewN n)
    rw [hP, hQ] at hc0
    rw [hpq] at htk hstuck
    have HPQ := Lib.hid hpq
    clear hcol hpq hP hQ hne
    cases hi2 : intT P.data.toList with
    | none =>
      rw [hi2] at hint
      have HUN := Lib.hid (hstuck (first_cut_none htk hp hi2))
      unfold intR at hint
      clear hi2 htk hp hstuck
      go_wp2_with fail
      refine hc0.mono ?_
      rintro e w1 ⟨rfl, n, rfl⟩
      go_wp2_with fail
      refine (hint n).mono ?_
      rintro e w2 ⟨rfl, hb2⟩
      have hb2' := below_of_drewN hb2
      go_wp2_with fail
      go_ret2
      exact ⟨StrOut.no HUN.out, hbw.trans (hb2'.mono hzo)⟩
    | some v =>
      rw [hi2] at hint
      unfold intR at hint
      simp only [] at hint
      have hvr := (intT_spec hi2).1
      unfold inR at hvr
      obtain ⟨hv1, hv2⟩ := hvr
      by_cases hneg : v < 0
      · have HUN := Lib.hid (hstuck (first_cut_far htk hp hi2 (.inl hneg)))
        have l1 : (v < 0) = True := eq_true hneg
        clear hi2 htk hp hstuck hneg
        go_wp2_with fail
        refine hc0.mono ?_
        rintro e w1 ⟨rfl, n, rfl⟩
        go_wp2_with fail
        refine (hint n).mono ?_
        rintro e w2 ⟨rfl, hb2⟩
        have hb2' := below_of_drewN hb2
        go_wp2_with fail
        go_ret2
        exact ⟨StrOut.no HUN.out, hbw.trans (hb2'.mono hzo)⟩
      have l1 : (v < 0) = False := eq_false hneg
      obtain ⟨k, rfl⟩ : ∃ k : Nat, v = (k : Int) := ⟨v.toNat, by omega⟩
      by_cases hfar : (Q.size : Int) ≤ (k : Int)
      · have HUN := Lib.hid (hstuck (first_cut_far htk hp hi2 (.inr (by simpa using hfar))))
        have l2 : ((Q.size : Int) ≤ (k : Int)) = True := eq_true hfar
        clear hi2 htk hp hstuck hneg hfar
        go_wp2_with fail
        refine hc0.mono ?_
        rintro e w1 ⟨rfl, n, rfl⟩
        go_wp2_with fail
        refine (hint n).mono ?_
        rintro e w2 ⟨rfl, hb2⟩
        have hb2' := below_of_drewN hb2
        go_wp2_with fail
        go_ret2
        exact ⟨StrOut.no HUN.out, hbw.trans (hb2'.mono hzo)⟩
      have l2 : ((Q.size : Int) ≤ (k : Int)) = False := eq_false hfar
      have hkq : k < Q.size := by omega
      have hkl : k < Q.data.toList.length := by simpa using hkq
      by_cases h44 : (Q[k]'hkq).toNat = 44
      rotate_left
      · have hget : Q.data.toList[k]? ≠ some 44 := by
          rw [List.getElem?_eq_getElem hkl]
          intro e
          exact h44 (congrArg UInt8.toNat (Option.some.inj e))
        have hb1 : (((Q[k]'hkq).toNat : Int) != 44) = true := by
          have : ((Q[k]'hkq).toNat : Int) ≠ 44 := by omega
          simpa using this
        have HUN := Lib.hid (hstuck (first_cut_comma htk hp hi2 hget))
        clear hi2 htk hp hstuck hneg hfar hget h44 hkl
        go_wp2_with fail
        refine hc0.mono ?_
        rintro e w1 ⟨rfl, n, rfl⟩
        go_wp2_with fail
        refine (hint n).mono ?_
        rintro e w2 ⟨rfl, hb2⟩
        have hb2' := below_of_drewN hb2
        go_wp2_with fail
        go_ret2
        exact ⟨StrOut.no HUN.out, hbw.trans (hb2'.mono hzo)⟩
      have hget : Q.data.toList[k]? = some 44 := by
        rw [List.getElem?_eq_getElem hkl]
        exact congrArg some (UInt8.toNat_inj.1 h44)
      obtain ⟨hf, hle⟩ := first_cut_some htk hi2 hkl hget
      rw [drop_cut] at hf
      have hb1 : (((Q[k]'hkq).toNat : Int) != 44) = false := by rw [h44]; rfl
      obtain ⟨X, hX⟩ : ∃ X, Q.extract 0 k = X := ⟨_, rfl⟩
      obtain ⟨R, hRq⟩ : ∃ R, Q.extract (k + 1) Q.size = R := ⟨_, rfl⟩
      have hXd : Q.data.toList.take k = X.data.toList := by rw [← hX, take_data]
      have hRd : Q.data.toList.drop (k + 1) = R.data.toList := by rw [← hRq, drop_data]
      rw [hXd, hRd] at hf
      have hstp := untie_step (s0 := s0) (acc := texts ss) (by rw [← HPQ.out]; exact HST.out) hf
      have HSTP := Lib.hid hstp
      have hRs : R.size = Q.size - (k + 1) := by rw [← hRq, ByteArray.size_extract]; omega
      have k1 : ((k : Int) < (Q.size : Int)) = True := eq_true (by omega)
      have hk0 : (0 : Int) ≤ (k : Int) := by omega
      have hk1 : (k : Int) ≤ (Q.size : Int) := by omega
      have hk2 : (k : Int) + 1 ≤ (Q.size : Int) := by omega
      have j1 : IntKind.i64.wrap ((k : Int) + 1) = (k : Int) + 1 := by rw [IntKind.wrap_i64] <;> omega
      clear hi2 htk hp hstuck hneg hfar hget h44 hkl hf hle hstp hXd hRd
      go_wp2_with fail
      refine hc0.mono ?_
      rintro e w1 ⟨rfl, n, rfl⟩
      go_wp2_with fail
      refine (hint n).mono ?_
      rintro e w2 ⟨rfl, hb2⟩
      have hb2' := below_of_drewN hb2
      have O2 := own_below hown hb2'
      have B2 := hbw.trans (hb2'.mono hzo)
      go_wp2_with (at_builtin; refine wpList_append_own _ rfl _ _ 70 rfl w.heap.size 9 i0 (.string ⟨#[]⟩) 1 16 Tryz.underlying70 hi hz0 hz1 hz2 rfl (by decide) _ _ _ rfl (O2.alloc _) ⟨w2.heap.size, 0, none⟩ 1 1 [.string X] rfl rfl ?c1 ?c2 ?c3 ?c4 ?c5 ?_)
      case c1 =>
        intro j u hj
        match j, hj with
        | 0, hj => simp at hj; subst hj; simp [Addr.add]
      case c2 => intro u hu; simp at hu; subst hu; rfl
      case c3 => unfold maxLen; omega
      case c4 => omega
      case c5 => have := B2.size; simp; omega
      intro v' w3 O3 hgrow _
      have B3 : Below w.heap.size w w3 := (B2.alloc B2.size _).grown hgrow (by have := B2.size; simp; omega) (fun k hk => (O2.lt k hk).1)
      have O4 : w3.ownsRow w.heap.size 9 1 v' (ss ++ [X]).length ((ss ++ [X]).map Value.string) := by simpa using O3
      clear O3 hgrow
      go_wp2_with fail
      try rw [hRq]
      go_roundw
      case rel =>
        refine ⟨R, ss ++ [X], rfl, Lib.hid ?_, by simp only [List.length_append, List.length_cons, List.length_nil]; omega, O4, B3⟩
        rw [texts_snoc]; exact HSTP.out
      case measure => simp only [lenOf]; omega
end Go.Proofs.YtkpakiiijphjeaaGreatDoor.Po

namespace Go.Proofs.YtkpakiiijphjeaaGreatDoor.Po
open Go.Proofs.YtkpakiiijphjeaaGreatDoor.M (tieT tieT_cons tieT_nil untieT numT numT_inj intT inR intT_some intT_spec tieT_inj sealT openT open_seal open_spec strand strand_length sealT_length)
open Go.Proofs.YtkpakiiijphjeaaGreatDoor.Od (Rep Text E0 ba_same ba_data amongB sameA sameA_iff sameR sameR_iff isA isR chkA chkR putA putR putA_inj putR_inj parseA parseR parseA_cases parseR_cases truthT truthT_inj truthT_is InA)
open Go.Proofs.YtkpakiiijphjeaaGreatDoor.Ro (En Lg isL entsT entsT_cons entsT_length)
def entsO : List Text → Option (List En)
  | [] => some []
  | [_] => none
  | a :: b :: l => match intT a with
    | some n => (entsO l).map ((n, ⟨b.toArray⟩) :: ·)
    | none => none
theorem entsO_ents : ∀ {l : List En}, (∀ e ∈ l, inR e.1) → entsO (entsT l) = some l
  | [], _ => rfl
  | e :: l, h => by
    rw [entsT_cons, entsO, intT_some (h e (by simp)) rfl, entsO_ents fun x hx => h x (by simp [hx])]
    simp
theorem entsO_spec : ∀ {l : List Text} {es : List En}, entsO l = some es → entsT es = l ∧ ∀ e ∈ es, inR e.1
  | [], es, h => by rw [entsO] at h; obtain rfl := Option.some.inj h; exact ⟨rfl, by simp⟩
  | [_], es, h => by rw [entsO] at h; cases h
  | a :: b :: l, es, h => by
    rw [entsO] at h
    cases hi : intT a with
    | none => rw [hi] at h; cases h
    | some n =>
      rw [hi] at h
      simp only [] at h
      obtain ⟨x, hx, rfl⟩ := Option.map_eq_some_iff.1 h
      obtain ⟨h1, h2⟩ := entsO_spec hx
      refine ⟨by rw [entsT_cons, h1, (intT_spec hi).2], fun e he => ?_⟩
      rcases List.mem_cons.1 he with rfl | he
      · exact (intT_spec hi).1
      · exact h2 e he
noncomputable def readE (s : Text) : Option (List En) := (allT s).bind entsO
theorem readE_tie {l : List En} (h : ∀ e ∈ l, inR e.1) : readE (tieT (entsT l)) = some l := by
  unfold readE; rw [all_some rfl]; exact entsO_ents h
theorem readE_spec {s : Text} {es : List En} (h : readE s = some es) : tieT (entsT es) = s ∧ ∀ e ∈ es, inR e.1 := by
  unfold readE at h
  cases ha : allT s with
  | none => rw [ha] at h; cases h
  | some l =>
    rw [ha] at h
    obtain ⟨h1, h2⟩ := entsO_spec (show entsO l = some es from h)
    exact ⟨by rw [h1, ← all_spec ha], h2⟩
structure InW (m : Wr) : Prop where
  kind : inR m.kind
  frm : inR m.frm
  til : inR m.til
  term : inR m.term
  index : inR m.index
  lterm : inR m.lterm
  commit : inR m.commit
  hint : inR m.hint
  es : ∀ e ∈ m.es, inR e.1
noncomputable def readWL : List Text → Option Wr
  | [a, b, c, d, e, f, g, h, r, x, t] =>
    (intT a).bind fun a => (intT b).bind fun b => (intT c).bind fun c => (intT d).bind fun d => (intT e).bind fun e => (intT f).bind fun f => (intT g).bind fun g => (intT h).bind fun h =>
    if r = [49] ∨ r = [48] then (readE x).bind fun x => some ⟨a, b, c, d, e, f, g, h, decide (r = [49]), x, ⟨t.toArray⟩⟩ else none
  | _ => none
noncomputable def readW (s : Text) : Option Wr := (allT s).bind readWL
theorem truth_or (b : Bool) : truthT b = [49] ∨ truthT b = [48] := by cases b <;> simp [truthT]
theorem readW_put {m : Wr} (h : InW m) : readW (putW m) = some m := by
  unfold readW putW
  rw [all_some rfl]
  unfold strandsW
  simp only [Option.bind_some, readWL, intT_some h.kind rfl, intT_some h.frm rfl, intT_some h.til rfl, intT_some h.term rfl, intT_some h.index rfl, intT_some h.lterm rfl, intT_some h.commit rfl, intT_some h.hint rfl, if_pos (truth_or m.reject), readE_tie h.es, truthT_is, ba_data]
theorem len11 {l : List Text} (h : l.length = 11) : ∃ a b c d e f g i r x t, l = [a, b, c, d, e, f, g, i, r, x, t] := by
  rcases l with _ | ⟨a, _ | ⟨b, _ | ⟨c, _ | ⟨d, _ | ⟨e, _ | ⟨f, _ | ⟨g, _ | ⟨i, _ | ⟨r, _ | ⟨x, _ | ⟨t, _ | ⟨u, l⟩⟩⟩⟩⟩⟩⟩⟩⟩⟩⟩⟩
  all_goals first | exact ⟨_, _, _, _, _, _, _, _, _, _, _, rfl⟩ | (exfalso; simp at h)
theorem readWL_len {l : List Text} (h : l.length ≠ 11) : readWL l = none := by
  unfold readWL
  split
  · simp at h
  · rfl
theorem truthT_of {r : Text} (h : r = [49] ∨ r = [48]) : truthT (decide (r = [49])) = r := by rcases h with rfl | rfl <;> rfl
theorem readW_spec {s : Text} {m : Wr} (h : readW s = some m) : putW m = s ∧ InW m := by
  unfold readW at h
  cases ha : allT s with
  | none => rw [ha] at h; cases h
  | some l =>
    rw [ha] at h
    simp only [Option.bind_some] at h
    by_cases hl : l.length = 11
    · obtain ⟨a, b, c, d, e, f, g, i, r, x, t, rfl⟩ := len11 hl
      unfold readWL at h
      simp only [Option.bind_eq_some_iff] at h
      obtain ⟨a', h1, b', h2, c', h3, d', h4, e', h5, f', h6, g', h7, i', h8, h⟩ := h
      split at h
      · rename_i hr
        obtain ⟨x', h9, h⟩ := Option.bind_eq_some_iff.1 h
        obtain rfl := Option.some.inj h
        have h9' := readE_spec h9
        refine ⟨?_, ⟨(intT_spec h1).1, (intT_spec h2).1, (intT_spec h3).1, (intT_spec h4).1, (intT_spec h5).1, (intT_spec h6).1, (intT_spec h7).1, (intT_spec h8).1, h9'.2⟩⟩
        rw [all_spec ha]
        unfold putW strandsW
        simp only [(intT_spec h1).2, (intT_spec h2).2, (intT_spec h3).2, (intT_spec h4).2, (intT_spec h5).2, (intT_spec h6).2, (intT_spec h7).2, (intT_spec h8).2, h9'.1, truthT_of hr]
      · cases h
    · rw [readWL_len hl] at h; cases h
structure InK (p : Pk) : Prop where
  kind : inR p.kind
  frm : inR p.frm
  til : inR p.til
  range : inR p.range
  wire : InW p.wire
  id : inR p.id
  next : inR p.next
  ord : InA p.ord
  client : inR p.client
  seq : inR p.seq
  status : inR p.status
  hint : inR p.hint
  code : inR p.rep.code
  err : inR p.rep.err
noncomputable def ordO (s : Text) : Option Od.Ask := if (parseA s).2 = 0 then some (parseA s).1 else none
noncomputable def repO (s : Text) : Option Rep := if (parseR s).2 = 0 then some (parseR s).1 else none
theorem ordO_spec {s : Text} {o : Od.Ask} (h : ordO s = some o) : putA o = s ∧ isA o = true ∧ parseA s = (o, 0) := by
  unfold ordO at h
  rcases parseA_cases s with ⟨x, h1, h2, h3⟩ | h3
  · rw [h3] at h
    obtain rfl := Option.some.inj h
    exact ⟨h2, h1, h3⟩
  · rw [h3] at h; simp at h
theorem repO_spec {s : Text} {o : Rep} (h : repO s = some o) : putR o = s ∧ isR o = true ∧ parseR s = (o, 0) := by
  unfold repO at h
  rcases parseR_cases s with ⟨x, h1, h2, h3⟩ | h3
  · rw [h3] at h
    obtain rfl := Option.some.inj h
    exact ⟨h2, h1, h3⟩
  · rw [h3] at h; simp at h
noncomputable def readL : List Text → Option Pk
  | [k, f, t, r, m, i, n, o, c, q, st, h, rp] =>
    (intT k).bind fun k => (intT f).bind fun f => (intT t).bind fun t => (intT r).bind fun r => (readW m).bind fun m => (intT i).bind fun i => (intT n).bind fun n => (ordO o).bind fun o =>
    (intT c).bind fun c => (intT q).bind fun q => (intT st).bind fun st => (intT h).bind fun h => (repO rp).bind fun rp => some ⟨k, f, t, r, m, i, n, o, c, q, st, h, rp⟩
  | _ => none
noncomputable def readK (s : Text) : Option Pk := ((openT s).bind allT).bind readL
theorem len13 {l : List Text} (h : l.length = 13) : ∃ a b c d e f g i r x t u v, l = [a, b, c, d, e, f, g, i, r, x, t, u, v] := by
  rcases l with _ | ⟨a, _ | ⟨b, _ | ⟨c, _ | ⟨d, _ | ⟨e, _ | ⟨f, _ | ⟨g, _ | ⟨i, _ | ⟨r, _ | ⟨x, _ | ⟨t, _ | ⟨u, _ | ⟨v, _ | ⟨z, l⟩⟩⟩⟩⟩⟩⟩⟩⟩⟩⟩⟩⟩⟩
  all_goals first | exact ⟨_, _, _, _, _, _, _, _, _, _, _, _, _, rfl⟩ | (exfalso; simp at h)
theorem readL_len {l : List Text} (h : l.length ≠ 13) : readL l = none := by
  unfold readL
  split
  · simp at h
  · rfl
theorem readK_put {s : Text} {p : Pk} (h : readK s = some p) : putK p = s := by
  unfold readK at h
  cases ho : openT s with
  | none => rw [ho] at h; cases h
  | some y =>
    rw [ho] at h
    simp only [Option.bind_some] at h
    cases ha : allT y with
    | none => rw [ha] at h; cases h
    | some l =>
      rw [ha] at h
      simp only [Option.bind_some] at h
      by_cases hl : l.length = 13
      · obtain ⟨a, b, c, d, e, f, g, i, r, x, t, u, v, rfl⟩ := len13 hl
        unfold readL at h
        simp only [Option.bind_eq_some_iff] at h
        obtain ⟨a', h1, b', h2, c', h3, d', h4, e', h5, f', h6, g', h7, i', h8, r', h9, x', h10, t', h11, u', h12, v', h13, h⟩ := h
        obtain rfl := Option.some.inj h
        rw [← open_spec ho, all_spec ha]
        unfold putK strandsK
        simp only [(intT_spec h1).2, (intT_spec h2).2, (intT_spec h3).2, (intT_spec h4).2, (readW_spec h5).1, (intT_spec h6).2, (intT_spec h7).2, (ordO_spec h8).1, (intT_spec h9).2, (intT_spec h10).2, (intT_spec h11).2, (intT_spec h12).2, (repO_spec h13).1]
      · rw [readL_len hl] at h; cases h
theorem among_iff (n a b : Int) : amongB n a b = true ↔ a ≤ n ∧ n ≤ b := by unfold amongB; simp
theorem among_in {n a b : Int} (h : amongB n a b = true) (ha : -9223372036854775808 ≤ a) (hb : b ≤ 9223372036854775807) : inR n := by
  rw [among_iff] at h; unfold inR; omega
theorem inR0 : inR 0 := by decide
theorem InW.zero : InW Wr.zero := ⟨inR0, inR0, inR0, inR0, inR0, inR0, inR0, inR0, by simp⟩
theorem InA.zero : InA Od.Ask.zero := ⟨inR0, inR0, inR0, inR0, inR0, inR0⟩
theorem isA_zero : isA Od.Ask.zero = true := by unfold isA; rw [(sameA_iff _ _).2 rfl]; rfl
theorem isR_zero : isR Rep.zero = true := by decide +kernel
theorem fitsW_in {m : Wr} (h : fitsW m = true) : InW m := by
  unfold fitsW fitsE idB at h
  simp only [Bool.and_eq_true] at h
  obtain ⟨⟨⟨⟨⟨⟨⟨⟨h1, h2⟩, h3⟩, h4⟩, h5⟩, h6⟩, h7⟩, ⟨⟨h8, h9⟩, h10⟩⟩, h11⟩ := h
  have hl := Ro.isL_in h10
  exact ⟨among_in h1 (by omega) (by omega), among_in h2 (by omega) (by omega), among_in h3 (by omega) (by omega), among_in h5 (by omega) (by omega), hl.1, hl.2.1, among_in h6 (by omega) (by omega), among_in h7 (by omega) (by omega), hl.2.2⟩
theorem isA_in {o : Od.Ask} (h : isA o = true) : InA o := by
  unfold isA at h
  rcases Bool.or_eq_true_iff.1 h with h | h
  · rw [(sameA_iff _ _).1 h]; exact InA.zero
  · simp only [Bool.and_eq_true] at h
    obtain ⟨⟨⟨h1, h2⟩, h3⟩, h4⟩ := h
    have ho := (sameA_iff _ _).1 h1
    have el : o.lim = if o.kind = 5 ∨ o.kind = 13 then o.lim else 0 := congrArg Od.Ask.lim ho
    have ei : o.id = if o.kind = 7 ∨ o.kind = 11 then o.id else 0 := congrArg Od.Ask.id ho
    have en : o.node = if o.kind = 10 then o.node else 0 := congrArg Od.Ask.node ho
    unfold Od.seqB at h2 h3
    unfold Od.fitsA Od.fitsKeyA at h4
    refine ⟨?_, among_in h2 (by omega) (by omega), among_in h3 (by omega) (by omega), ?_, ?_, ?_⟩
    · by_cases hk : inR o.kind
      · exact hk
      · exfalso
        have hk' : ∀ n : Int, 0 ≤ n → n ≤ 20 → o.kind ≠ n := fun n a b e => hk (by rw [e]; unfold inR; omega)
        simp [hk' 1 (by omega) (by omega), hk' 2 (by omega) (by omega), hk' 3 (by omega) (by omega), hk' 4 (by omega) (by omega), hk' 5 (by omega) (by omega), hk' 6 (by omega) (by omega), hk' 7 (by omega) (by omega), hk' 8 (by omega) (by omega), hk' 9 (by omega) (by omega), hk' 10 (by omega) (by omega), hk' 11 (by omega) (by omega), hk' 12 (by omega) (by omega), hk' 13 (by omega) (by omega)] at h4
    · by_cases h5 : o.kind = 5
      · simp [h5] at h4; exact among_in h4.2 (by omega) (by omega)
      · by_cases h6 : o.kind = 13
        · simp [h6] at h4; exact among_in h4.2 (by omega) (by omega)
        · rw [if_neg (by simp [h5, h6])] at el; rw [el]; exact inR0
    · by_cases h5 : o.kind = 7
      · simp [h5] at h4; exact among_in h4.2.2 (by omega) (by omega)
      · by_cases h6 : o.kind = 11
        · simp [h6] at h4; exact among_in h4.2 (by omega) (by omega)
        · rw [if_neg (by simp [h5, h6])] at ei; rw [ei]; exact inR0
    · by_cases h5 : o.kind = 10
      · simp [h5] at h4; exact among_in h4.2 (by omega) (by omega)
      · rw [if_neg h5] at en; rw [en]; exact inR0
theorem isR_in {o : Rep} (h : isR o = true) : inR o.code ∧ inR o.err ∧ o.ps.length ≤ 100 := by
  unfold isR at h
  simp only [Bool.and_eq_true, decide_eq_true_eq] at h
  obtain ⟨⟨⟨h1, h2⟩, h3, h4⟩, _⟩ := h
  refine ⟨among_in h1 (by omega) (by omega), ?_, h4⟩
  unfold Od.tellsB at h2
  split at h2
  · exact among_in h2 (by omega) (by omega)
  · rw [of_decide_eq_true h2]; exact inR0
structure PartsK (p : Pk) : Prop where
  inn : InK p
  ord : isA p.ord = true
  rep : isR p.rep = true
theorem isK_parts {p : Pk} (h : isK p = true) : PartsK p := by
  obtain ⟨h1, h2, h3⟩ := (isK_iff p).1 h
  have hr : inR p.range := among_in h1 (by omega) (by omega)
  unfold fitsK at h3
  by_cases k1 : p.kind = 1
  · rw [if_pos k1] at h3
    unfold ownK at h2
    rw [if_pos k1] at h2
    simp only [Bool.and_eq_true] at h3
    obtain ⟨⟨a1, a2⟩, a3⟩ := h3
    have b1 := among_in a1 (by omega) (by omega)
    have b2 := among_in a2 (by omega) (by omega)
    have b3 := fitsW_in a3
    have e1 := congrArg Pk.id h2
    have e2 := congrArg Pk.next h2
    have e3 := congrArg Pk.ord h2
    have e4 := congrArg Pk.client h2
    have e5 := congrArg Pk.seq h2
    have e6 := congrArg Pk.status h2
    have e7 := congrArg Pk.hint h2
    have e8 := congrArg Pk.rep h2
    simp only at e1 e2 e3 e4 e5 e6 e7 e8
    refine ⟨⟨by rw [k1]; decide, b1, b2, hr, b3, ?_, ?_, ?_, ?_, ?_, ?_, ?_, ?_, ?_⟩, ?_, ?_⟩
    all_goals first
      | (rw [e1]; exact inR0) | (rw [e2]; exact inR0) | (rw [e3]; exact InA.zero) | (rw [e4]; exact inR0) | (rw [e5]; exact inR0) | (rw [e6]; exact inR0) | (rw [e7]; exact inR0) | (rw [e8]; exact inR0) | (rw [e3]; exact isA_zero) | (rw [e8]; exact isR_zero)
  rw [if_neg k1] at h3
  unfold ownK at h2
  rw [if_neg k1] at h2
  by_cases k2 : p.kind = 2
  · rw [if_pos k2] at h3 h2
    simp only [Bool.and_eq_true] at h3
    obtain ⟨⟨⟨a1, a2⟩, a3⟩, a4⟩ := h3
    have b1 := among_in a1 (by omega) (by omega)
    have b2 := among_in a2 (by omega) (by omega)
    have b3 := among_in a3 (by omega) (by omega)
    have b4 : inR p.next := by
      unfold idB at a3
      rw [among_iff] at a3 a4; unfold inR; omega
    have e0 := congrArg Pk.wire h2
    have e3 := congrArg Pk.ord h2
    have e4 := congrArg Pk.client h2
    have e5 := congrArg Pk.seq h2
    have e6 := congrArg Pk.status h2
    have e7 := congrArg Pk.hint h2
    have e8 := congrArg Pk.rep h2
    simp only at e0 e3 e4 e5 e6 e7 e8
    refine ⟨⟨by rw [k2]; decide, b1, b2, hr, ?_, b3, b4, ?_, ?_, ?_, ?_, ?_, ?_, ?_⟩, ?_, ?_⟩
    all_goals first
      | (rw [e0]; exact InW.zero) | (rw [e3]; exact InA.zero) | (rw [e4]; exact inR0) | (rw [e5]; exact inR0) | (rw [e6]; exact inR0) | (rw [e7]; exact inR0) | (rw [e8]; exact inR0) | (rw [e3]; exact isA_zero) | (rw [e8]; exact isR_zero)
  rw [if_neg k2] at h3 h2
  by_cases k3 : p.kind = 3
  · rw [if_pos k3] at h3 h2
    simp only [Bool.and_eq_true] at h3
    obtain ⟨⟨a1, _⟩, a3⟩ := h3
    have b1 := among_in a1 (by omega) (by omega)
    have b3 := isA_in a3
    have e0 := congrArg Pk.wire h2
    have e1 := congrArg Pk.id h2
    have e2 := congrArg Pk.next h2
    have e3 := congrArg Pk.frm h2
    have e4 := congrArg Pk.client h2
    have e5 := congrArg Pk.seq h2
    have e6 := congrArg Pk.status h2
    have e7 := congrArg Pk.hint h2
    have e8 := congrArg Pk.rep h2
    simp only at e0 e1 e2 e3 e4 e5 e6 e7 e8
    refine ⟨⟨by rw [k3]; decide, ?_, b1, hr, ?_, ?_, ?_, b3, ?_, ?_, ?_, ?_, ?_, ?_⟩, a3, ?_⟩
    all_goals first
      | (rw [e3]; exact inR0) | (rw [e0]; exact InW.zero) | (rw [e1]; exact inR0) | (rw [e2]; exact inR0) | (rw [e4]; exact inR0) | (rw [e5]; exact inR0) | (rw [e6]; exact inR0) | (rw [e7]; exact inR0) | (rw [e8]; exact inR0) | (rw [e8]; exact isR_zero)
  rw [if_neg k3] at h3 h2
  by_cases k4 : p.kind = 4
  · rw [if_pos k4] at h3 h2
    simp only [Bool.and_eq_true] at h3
    obtain ⟨⟨⟨a1, a2⟩, a3⟩, a4⟩ := h3
    have b1 := among_in a1 (by omega) (by omega)
    have b2 := among_in a2 (by omega) (by omega)
    have b3 := among_in a3 (by omega) (by omega)
    have e0 := congrArg Pk.wire h2
    have e1 := congrArg Pk.id h2
    have e2 := congrArg Pk.next h2
    have e3 := congrArg Pk.til h2
    have e4 := congrArg Pk.ord h2
    have e7 := congrArg Pk.hint h2
    have e8 := congrArg Pk.rep h2
    simp only at e0 e1 e2 e3 e4 e7 e8
    unfold fitsS at a4
    have s3 : inR p.status ∧ inR p.hint ∧ isR p.rep = true := by
      by_cases s1 : p.status = 1
      · rw [if_pos s1] at a4 e7
        exact ⟨by rw [s1]; decide, by rw [e7]; exact inR0, a4⟩
      · rw [if_neg s1] at a4 e7 e8
        by_cases s2 : p.status = 2
        · rw [if_pos s2] at a4
          exact ⟨by rw [s2]; decide, among_in a4 (by omega) (by omega), by rw [e8]; exact isR_zero⟩
        · rw [if_neg s2] at a4 e7
          exact ⟨by rw [of_decide_eq_true a4]; decide, by rw [e7]; exact inR0, by rw [e8]; exact isR_zero⟩
    have r3 := isR_in s3.2.2
    refine ⟨⟨by rw [k4]; decide, b1, ?_, hr, ?_, ?_, ?_, ?_, b2, b3, s3.1, s3.2.1, r3.1, r3.2.1⟩, ?_, s3.2.2⟩
    all_goals first
      | (rw [e3]; exact inR0) | (rw [e0]; exact InW.zero) | (rw [e1]; exact inR0) | (rw [e2]; exact inR0) | (rw [e4]; exact InA.zero) | (rw [e4]; exact isA_zero)
  rw [if_neg k4] at h3
  cases h3
theorem mem_tie : ∀ {l : List Text} {x : Text}, x ∈ l → x.length ≤ (tieT l).length
  | y :: l, x, h => by
    rw [tieT_cons, List.length_append, strand_length]
    rcases List.mem_cons.1 h with rfl | h
    · omega
    · have := mem_tie h; omega
theorem ordO_put {o : Od.Ask} (h : isA o = true) (hs : (putA o).length ≤ 1048576) : ordO (putA o) = some o := by
  unfold ordO
  rw [Od.parse_put (isA_in h) hs, if_pos h]
  rfl
theorem repO_put {o : Rep} (h : isR o = true) (hs : (putR o).length ≤ 1048576) : repO (putR o) = some o := by
  have hi := isR_in h
  unfold repO
  rw [Od.parse_putR hi.1 hi.2.1 (by omega) hs, if_pos h]
  rfl
theorem readK_of {p : Pk} (h : isK p = true) (hs : (putK p).length ≤ 1048576) : readK (putK p) = some p := by
  obtain ⟨hi, ho, hr⟩ := isK_parts h
  unfold putK at hs
  rw [sealT_length] at hs
  have m1 : (putA p.ord).length ≤ 1048576 := by have := mem_tie (l := strandsK p) (x := putA p.ord) (by unfold strandsK; simp); omega
  have m2 : (putR p.rep).length ≤ 1048576 := by have := mem_tie (l := strandsK p) (x := putR p.rep) (by unfold strandsK; simp); omega
  unfold readK putK
  rw [open_seal]
  simp only [Option.bind_some]
  rw [all_some rfl]
  unfold strandsK
  simp only [Option.bind_some, readL, intT_some hi.kind rfl, intT_some hi.frm rfl, intT_some hi.til rfl, intT_some hi.range rfl, readW_put hi.wire, intT_some hi.id rfl, intT_some hi.next rfl, ordO_put ho m1, intT_some hi.client rfl, intT_some hi.seq rfl, intT_some hi.status rfl, intT_some hi.hint rfl, repO_put hr m2]
theorem parseK_read {s : Text} {p : Pk} (h : readK s = some p) : parseK s = if isK p = true then (p, 0) else (Pk.zero, 140) := by
  have e := readK_put h
  rw [← e]; exact parse_putK p
theorem parseK_no {s : Text} (hs : s.length ≤ 1048576) (h : readK s = none) : parseK s = (Pk.zero, 140) := by
  refine parseK_none fun p h1 h2 => ?_
  subst h2
  rw [readK_of h1 hs] at h
  cases h
end Go.Proofs.YtkpakiiijphjeaaGreatDoor.Po

/-
  THE PLAIN MATHEMATICS OF PACKAGE order, of no program: orders and replies, whether they may be, their texts and back. No condition.
  Slices of pairs of texts, as a walk finds them; orders and replies as values; append onto a row of pairs that the call owns. No condition.
  Boxes that hold an order, or a reply. No condition.
  The program's small answers of orders: among, isSeq, Reads, Keyed, truth, number, mayCut; the document's Reads, Keyed, seq, truth. Conditions: lengths at most 2^47; the library's variables hold what their types allow.
-/
import Derived.Test.YtkpakiiijphjeaaGreatDoorPDsA
import Derived.Test.YtkpakiiijphjeaaGreatDoorPBndLevel
import Derived.Test.YtkpakiiijphjeaaGreatDoorPDsRA
import Derived.Test.YtkpakiiijphjeaaGreatDoorPBndA
import Derived.Laws.OwnMore
import Derived.Maps.AppendAt
import Derived.Deep.RegionHeld
import Derived.Test.YtkpakiiijphjeaaGreatDoorPFirstA
namespace Go.Proofs.YtkpakiiijphjeaaGreatDoor.Od
open Go.Proofs.YtkpakiiijphjeaaGreatDoor.O (Bd isB keyB)
open Go.Proofs.YtkpakiiijphjeaaGreatDoor.Bnd (levelT)
open Go.Proofs.YtkpakiiijphjeaaGreatDoor.M (tieT untieT untie_some untie_spec numT intT inR tieT_inj tie_prefix)
abbrev Text := List UInt8
theorem ba_same {a b : ByteArray} (h : a.data.toList = b.data.toList) : a = b := by
  obtain ⟨⟨x⟩⟩ := a
  obtain ⟨⟨y⟩⟩ := b
  have h : x = y := h
  rw [h]
abbrev E0 : ByteArray := ⟨#[]⟩
structure Ask where
  kind : Int
  client : Int
  seq : Int
  key : ByteArray
  til : ByteArray
  val : ByteArray
  old : ByteArray
  has : Bool
  lim : Int
  id : Int
  node : Int
abbrev Ask.zero : Ask := ⟨0, 0, 0, E0, E0, E0, E0, false, 0, 0, 0⟩
theorem Ask.ext' {a b : Ask} (h1 : a.kind = b.kind) (h2 : a.client = b.client) (h3 : a.seq = b.seq) (h4 : a.key = b.key) (h5 : a.til = b.til) (h6 : a.val = b.val) (h7 : a.old = b.old) (h8 : a.has = b.has) (h9 : a.lim = b.lim) (h10 : a.id = b.id) (h11 : a.node = b.node) : a = b := by
  cases a; cases b; simp only at h1 h2 h3 h4 h5 h6 h7 h8 h9 h10 h11
  subst h1 h2 h3 h4 h5 h6 h7 h8 h9 h10 h11
  rfl
def sameA (a b : Ask) : Bool := decide (a.kind = b.kind ∧ a.client = b.client ∧ a.seq = b.seq ∧ a.key = b.key ∧ a.til = b.til ∧ a.val = b.val ∧ a.old = b.old ∧ a.has = b.has ∧ a.lim = b.lim ∧ a.id = b.id ∧ a.node = b.node)
theorem sameA_iff (a b : Ask) : sameA a b = true ↔ a = b := by
  unfold sameA
  rw [decide_eq_true_eq]
  constructor
  · rintro ⟨h1, h2, h3, h4, h5, h6, h7, h8, h9, h10, h11⟩
    exact Ask.ext' h1 h2 h3 h4 h5 h6 h7 h8 h9 h10 h11
  · rintro rfl
    exact ⟨rfl, rfl, rfl, rfl, rfl, rfl, rfl, rfl, rfl, rfl, rfl⟩
def keyedK (k : Int) : Bool := decide (0 < k ∧ k < 13 ∧ k ≠ 6)
def amongB (n a b : Int) : Bool := decide (a ≤ n ∧ n ≤ b)
def seqB (n : Int) : Bool := amongB n 1 1099511627776
def ownA (o : Ask) : Ask :=
  ⟨o.kind, o.client, o.seq, if keyedK o.kind = true then o.key else E0, if o.kind = 5 then o.til else E0,
    if o.kind = 2 ∨ o.kind = 9 ∨ o.kind = 4 ∨ o.kind = 13 then o.val else E0, if o.kind = 4 then o.old else E0, if o.kind = 4 then o.has else false,
    if o.kind = 5 ∨ o.kind = 13 then o.lim else 0, if o.kind = 7 ∨ o.kind = 11 then o.id else 0, if o.kind = 10 then o.node else 0⟩
def cutLv (k : ByteArray) : Bool := decide (levelT k.toList = 0 ∨ levelT k.toList = 2)
def fitsKeyA (o : Ask) : Bool :=
  if o.kind = 1 ∨ o.kind = 3 ∨ o.kind = 8 ∨ o.kind = 12 then true
  else if o.kind = 2 then decide (o.val.size ≤ 64)
  else if o.kind = 4 then decide (o.val.size ≤ 64) && decide (o.old.size ≤ 64) && (o.has || decide (o.old = E0))
  else if o.kind = 7 then cutLv o.key && amongB o.id 2 1099511627776
  else if o.kind = 9 then amongB o.val.size 1 65536
  else if o.kind = 10 then amongB o.node 1 7
  else if o.kind = 11 then amongB o.id 1 1099511627776
  else false
noncomputable def fitsA (o : Ask) : Bool :=
  if o.kind = 6 then true
  else if o.kind = 5 then isB ⟨o.key.toList, o.til.toList⟩ && amongB o.lim 1 100
  else if o.kind = 13 then decide ((Ds.parseD o.val.data.toList).2 = 0) && amongB o.lim 1 2
  else keyB o.key.toList && fitsKeyA o
noncomputable def isA (o : Ask) : Bool := sameA o Ask.zero || (sameA o (ownA o) && seqB o.client && seqB o.seq && fitsA o)
noncomputable def chkA (o : Ask) : Int := if isA o = true then 0 else 70
def truthT (b : Bool) : Text := if b = true then [49] else [48]
theorem truthT_inj {a b : Bool} (h : truthT a = truthT b) : a = b := by cases a <;> cases b <;> first | rfl | (exact absurd h (by decide))
theorem truthT_is (b : Bool) : decide (truthT b = [49]) = b := by cases b <;> rfl
def strandsA (o : Ask) : List Text := [numT o.kind, numT o.client, numT o.seq, o.key.data.toList, o.til.data.toList, o.val.data.toList, o.old.data.toList, truthT o.has, numT o.lim, numT o.id, numT o.node]
def putA (o : Ask) : Text := tieT (strandsA o)
theorem putA_inj {a b : Ask} (h : putA a = putA b) : a = b := by
  have h := tieT_inj h
  unfold strandsA at h
  injection h with h1 h
  injection h with h2 h
  injection h with h3 h
  injection h with h4 h
  injection h with h5 h
  injection h with h6 h
  injection h with h7 h
  injection h with h8 h
  injection h with h9 h
  injection h with h10 h
  injection h with h11 h
  exact Ask.ext' (M.numT_inj h1) (M.numT_inj h2) (M.numT_inj h3) (ba_same h4) (ba_same h5) (ba_same h6) (ba_same h7) (truthT_inj h8) (M.numT_inj h9) (M.numT_inj h10) (M.numT_inj h11)
def num0 (t : Text) : Int := (intT t).getD 0
theorem num0_numT {n : Int} (h : inR n) : num0 (numT n) = n := by unfold num0; rw [M.intT_some h rfl]; rfl
def readA : List Text → Option Ask
  | [a, b, c, k, t, v, d, h, l, i, n] => some ⟨num0 a, num0 b, num0 c, ⟨k.toArray⟩, ⟨t.toArray⟩, ⟨v.toArray⟩, ⟨d.toArray⟩, decide (h = [49]), num0 l, num0 i, num0 n⟩
  | _ => none
noncomputable def okA (o : Ask) (s : Text) : Ask × Int := if isA o = true ∧ putA o = s then (o, 0) else (Ask.zero, 70)
noncomputable def parseA (s : Text) : Ask × Int := match untieT s with
  | some l => (match readA l with | some o => okA o s | none => (Ask.zero, 70))
  | none => (Ask.zero, 70)
theorem okA_cases (o : Ask) (s : Text) : (isA o = true ∧ putA o = s ∧ okA o s = (o, 0)) ∨ okA o s = (Ask.zero, 70) := by
  unfold okA
  by_cases h : isA o = true ∧ putA o = s
  · exact .inl ⟨h.1, h.2, if_pos h⟩
  · exact .inr (if_neg h)
theorem parseA_cases (s : Text) : (∃ o, isA o = true ∧ putA o = s ∧ parseA s = (o, 0)) ∨ parseA s = (Ask.zero, 70) := by
  unfold parseA
  cases untieT s with
  | none => exact .inr rfl
  | some l =>
    cases h : readA l with
    | none => right; simp only [h]
    | some o =>
      rcases okA_cases o s with ⟨h1, h2, h3⟩ | h3
      · left; exact ⟨o, h1, h2, by simp only [h]; exact h3⟩
      · right; simp only [h]; exact h3
structure InA (o : Ask) : Prop where
  kind : inR o.kind
  client : inR o.client
  seq : inR o.seq
  lim : inR o.lim
  id : inR o.id
  node : inR o.node
theorem ba_data (b : ByteArray) : (⟨b.data.toList.toArray⟩ : ByteArray) = b := by simp
theorem readA_strands {o : Ask} (h : InA o) : readA (strandsA o) = some o := by
  unfold strandsA readA
  simp only [num0_numT h.kind, num0_numT h.client, num0_numT h.seq, num0_numT h.lim, num0_numT h.id, num0_numT h.node, truthT_is, ba_data]
theorem parse_put {o : Ask} (h : InA o) (hs : (putA o).length ≤ 1048576) : parseA (putA o) = if isA o = true then (o, 0) else (Ask.zero, 70) := by
  have hu : untieT (putA o) = some (strandsA o) := untie_some rfl (by unfold strandsA; simp) hs
  unfold parseA
  rw [hu]
  simp only [readA_strands h]
  unfold okA
  by_cases g : isA o = true
  · rw [if_pos ⟨g, rfl⟩, if_pos g]
  · rw [if_neg (fun hh => g hh.1), if_neg g]
abbrev Pr := ByteArray × ByteArray
structure Rep where
  code : Int
  err : Int
  has : Bool
  val : ByteArray
  ps : List Pr
abbrev Rep.zero : Rep := ⟨0, 0, false, E0, []⟩
def sameR (a b : Rep) : Bool := decide (a.code = b.code ∧ a.err = b.err ∧ a.has = b.has ∧ a.val = b.val ∧ a.ps = b.ps)
theorem sameR_iff (a b : Rep) : sameR a b = true ↔ a = b := by
  unfold sameR
  obtain ⟨a1, a2, a3, a4, a5⟩ := a
  obtain ⟨b1, b2, b3, b4, b5⟩ := b
  rw [decide_eq_true_eq]
  constructor
  · rintro ⟨h1, h2, h3, h4, h5⟩
    simp only at h1 h2 h3 h4 h5
    subst h1 h2 h3 h4 h5
    rfl
  · intro h
    injection h with h1 h2 h3 h4 h5
    exact ⟨h1, h2, h3, h4, h5⟩
def pairB (p : Pr) : Bool := keyB p.1.toList && decide (p.2.size ≤ 512)
def tellsB (c e : Int) : Bool := if c = 4 then amongB e 1 999 else decide (e = 0)
def isR (r : Rep) : Bool := amongB r.code 0 4 && tellsB r.code r.err && (decide (r.val.size ≤ 65536) && decide (r.ps.length ≤ 100)) && r.ps.all pairB
def chkR (r : Rep) : Int := if isR r = true then 0 else 70
def pairsS (l : List Pr) : List ByteArray := (l.map fun p => [p.1, p.2]).flatten
def pairsT (l : List Pr) : List Text := (l.map fun p => [p.1.data.toList, p.2.data.toList]).flatten
theorem pairsT_cons (p : Pr) (l : List Pr) : pairsT (p :: l) = p.1.data.toList :: p.2.data.toList :: pairsT l := rfl
theorem pairsS_snoc (l : List Pr) (p : Pr) : pairsS (l ++ [p]) = pairsS l ++ [p.1, p.2] := by simp [pairsS]
theorem pairsS_length : ∀ l : List Pr, (pairsS l).length = l.length * 2
  | [] => rfl
  | m :: l => by show (m.1 :: m.2 :: pairsS l).length = _; simp [pairsS_length l]; omega
theorem pairsT_length : ∀ l : List Pr, (pairsT l).length = l.length * 2
  | [] => rfl
  | m :: l => by rw [pairsT_cons]; simp [pairsT_length l]; omega
theorem pairsT_inj : ∀ {a b : List Pr}, pairsT a = pairsT b → a = b
  | [], [], _ => rfl
  | [], m :: b, h => by rw [pairsT_cons] at h; simp [pairsT] at h
  | m :: a, [], h => by rw [pairsT_cons] at h; simp [pairsT] at h
  | m :: a, n :: b, h => by
    rw [pairsT_cons, pairsT_cons] at h
    injection h with h1 h2
    injection h2 with h2 h3
    obtain ⟨m1, m2⟩ := m
    obtain ⟨n1, n2⟩ := n
    rw [show m1 = n1 from ba_same h1, show m2 = n2 from ba_same h2, pairsT_inj h3]
def strandsR (r : Rep) : List Text := numT r.code :: numT r.err :: truthT r.has :: r.val.data.toList :: pairsT r.ps
def putR (r : Rep) : Text := tieT (strandsR r)
theorem putR_inj {a b : Rep} (h : putR a = putR b) : a = b := by
  have h := tieT_inj h
  unfold strandsR at h
  injection h with h1 h
  injection h with h2 h
  injection h with h3 h
  injection h with h4 h
  rw [← sameR_iff]
  unfold sameR
  rw [decide_eq_true_eq]
  exact ⟨M.numT_inj h1, M.numT_inj h2, truthT_inj h3, ba_same h4, pairsT_inj h⟩
def twosT : List Text → List Pr
  | a :: b :: l => (⟨a.toArray⟩, ⟨b.toArray⟩) :: twosT l
  | _ => []
theorem twosT_pairs : ∀ l : List Pr, twosT (pairsT l) = l
  | [] => rfl
  | p :: l => by rw [pairsT_cons, twosT, twosT_pairs l, ba_data, ba_data]
def readR : List Text → Option Rep
  | a :: b :: h :: v :: l => some ⟨num0 a, num0 b, decide (h = [49]), ⟨v.toArray⟩, twosT l⟩
  | _ => none
noncomputable def okR (o : Rep) (s : Text) : Rep × Int := if isR o = true ∧ putR o = s then (o, 0) else (Rep.zero, 70)
noncomputable def parseR (s : Text) : Rep × Int := match untieT s with
  | some l => (match readR l with | some o => okR o s | none => (Rep.zero, 70))
  | none => (Rep.zero, 70)
theorem okR_cases (o : Rep) (s : Text) : (isR o = true ∧ putR o = s ∧ okR o s = (o, 0)) ∨ okR o s = (Rep.zero, 70) := by
  unfold okR
  by_cases h : isR o = true ∧ putR o = s
  · exact .inl ⟨h.1, h.2, if_pos h⟩
  · exact .inr (if_neg h)
theorem parseR_cases (s : Text) : (∃ o, isR o = true ∧ putR o = s ∧ parseR s = (o, 0)) ∨ parseR s = (Rep.zero, 70) := by
  unfold parseR
  cases untieT s with
  | none => exact .inr rfl
  | some l =>
    cases h : readR l with
    | none => right; simp only [h]
    | some o =>
      rcases okR_cases o s with ⟨h1, h2, h3⟩ | h3
      · left; exact ⟨o, h1, h2, by simp only [h]; exact h3⟩
      · right; simp only [h]; exact h3
theorem readR_strands {o : Rep} (h : inR o.code) (h2 : inR o.err) : readR (strandsR o) = some o := by
  unfold strandsR readR
  simp only [num0_numT h, num0_numT h2, truthT_is, ba_data, twosT_pairs]
theorem parse_putR {o : Rep} (h : inR o.code) (h2 : inR o.err) (hn : o.ps.length ≤ 2000) (hs : (putR o).length ≤ 1048576) : parseR (putR o) = if isR o = true then (o, 0) else (Rep.zero, 70) := by
  have hu : untieT (putR o) = some (strandsR o) := untie_some rfl (by unfold strandsR; simp [pairsT_length]; omega) hs
  unfold parseR
  rw [hu]
  simp only [readR_strands h h2]
  unfold okR
  by_cases g : isR o = true
  · rw [if_pos ⟨g, rfl⟩, if_pos g]
  · rw [if_neg (fun hh => g hh.1), if_neg g]
end Go.Proofs.YtkpakiiijphjeaaGreatDoor.Od

namespace Go.Proofs.YtkpakiiijphjeaaGreatDoor.Od
open Go.RowKit
open Go.Proofs.YtkpakiiijphjeaaGreatDoor.O (Bd isB keyB)
abbrev av (o : Ask) : Value := .agg #[.int .i64 o.kind, .int .i64 o.client, .int .i64 o.seq, .string o.key, .string o.til, .string o.val, .string o.old, .bool o.has, .int .i64 o.lim, .int .i64 o.id, .int .i64 o.node]
abbrev rv (r : Rep) (s : Value) : Value := .agg #[.int .i64 r.code, .int .i64 r.err, .bool r.has, .string r.val, s]
def SP (w : World) (N : Nat) (v : Value) (ms : List Pr) : Prop :=
  ∃ (A : Option Addr) (c : Nat), v = .slice A ms.length c ∧ (0 < ms.length → ∃ b o : Nat, A = some ⟨b, o, none⟩ ∧ b < N ∧ ∀ i (h : i < ms.length), w.cell? ⟨b, o + i * 2, none⟩ = some (.string ms[i].1) ∧ w.cell? ⟨b, o + i * 2 + 1, none⟩ = some (.string ms[i].2))
theorem SP.nil (w : World) (N : Nat) : SP w N (.slice none 0 0) [] := ⟨none, 0, rfl, fun h => absurd h (by simp)⟩
theorem SP.keep {w w' : World} {N : Nat} {v : Value} {ms : List Pr} (h : SP w N v ms) (hk : ∀ p : Addr, p.block < N → w'.cell? p = w.cell? p) : SP w' N v ms := by
  obtain ⟨A, c, hv, h⟩ := h
  refine ⟨A, c, hv, fun h0 => ?_⟩
  obtain ⟨b, o, e, hb, hc⟩ := h h0
  exact ⟨b, o, e, hb, fun i hi => by rw [hk ⟨b, o + i * 2, none⟩ hb, hk ⟨b, o + i * 2 + 1, none⟩ hb]; exact hc i hi⟩
theorem SP.below {w w' : World} {N : Nat} {v : Value} {ms : List Pr} (h : SP w N v ms) (hb : Below N w w') : SP w' N v ms := h.keep fun _ hp => hb.cell hp
theorem SP.more {w : World} {N N' : Nat} {v : Value} {ms : List Pr} (h : SP w N v ms) (hB : N ≤ N') : SP w N' v ms := by
  obtain ⟨A, c, hv, h⟩ := h
  refine ⟨A, c, hv, fun h0 => ?_⟩
  obtain ⟨b, o, e, hb, hc⟩ := h h0
  exact ⟨b, o, e, by omega, hc⟩
theorem SP.at_ {w : World} {N k : Nat} {A : Option Addr} {n c : Nat} {ms : List Pr} (h : SP w N (.slice A n c) ms) (hk : k < ms.length) :
    ∃ b o : Nat, A = some ⟨b, o, none⟩ ∧ b < N ∧ w.cell? ⟨b, o + k * 2, none⟩ = some (.string ms[k].1) ∧ w.cell? ⟨b, o + k * 2 + 1, none⟩ = some (.string ms[k].2) := by
  obtain ⟨A', c', hv, h⟩ := h
  injection hv with h1 h2 h3
  subst h1
  obtain ⟨b, o, e, hb, hc⟩ := h (by omega)
  exact ⟨b, o, e, hb, hc k hk⟩
theorem SP.form {w : World} {N : Nat} {v : Value} {ms : List Pr} (h : SP w N v ms) : ∃ A c, v = .slice A ms.length c := by
  obtain ⟨A, c, hv, _⟩ := h; exact ⟨A, c, hv⟩
def pcells : List Pr → List Value
  | [] => []
  | p :: l => .string p.1 :: .string p.2 :: pcells l
theorem pcells_append : ∀ a b : List Pr, pcells (a ++ b) = pcells a ++ pcells b
  | [], _ => rfl
  | p :: a, b => by simp [pcells, pcells_append a b]
theorem pcells_get : ∀ (l : List Pr) (i : Nat) (h : i < l.length), (pcells l)[i * 2]? = some (.string l[i].1) ∧ (pcells l)[i * 2 + 1]? = some (.string l[i].2)
  | p :: l, 0, _ => ⟨rfl, rfl⟩
  | p :: l, i + 1, h => by
    have := pcells_get l i (by simpa using h)
    have e : (i + 1) * 2 = i * 2 + 1 + 1 := by omega
    rw [e]
    exact this
abbrev OwnP (w : World) (base : Nat) (v : Value) (ms : List Pr) : Prop := w.ownsRow base 53 2 v ms.length (pcells ms)
theorem SP.of_own {w : World} {base : Nat} {v : Value} {ms : List Pr} (h : OwnP w base v ms) : SP w w.heap.size v ms := by
  rcases h.2 with ⟨rfl, h0⟩ | ⟨g, cap, cur, rfl, _, hh, _⟩
  · have : ms = [] := List.length_eq_zero_iff.1 h0
    subst this
    exact SP.nil w _
  · refine ⟨_, _, rfl, fun h0 => ⟨g, 0, rfl, ?_, fun i hi => ?_⟩⟩
    · exact (Array.getElem?_eq_some_iff.1 hh).1
    · obtain ⟨g1, g2⟩ := pcells_get ms i hi
      have e1 := h.cells (g := g) rfl (i * 2) _ g1
      have e2 := h.cells (g := g) rfl (i * 2 + 1) _ g2
      rw [Addr.add_lit] at e1 e2
      exact ⟨e1, e2⟩
inductive ArgP (w : World) : Value → List Pr → Prop
  | nil : ArgP w (.slice none 0 0) []
  | some (b o : Nat) (c : Nat) (ms : List Pr) (h : SP w w.heap.size (.slice (some ⟨b, o, none⟩) ms.length c) ms) : ArgP w (.slice (some ⟨b, o, none⟩) ms.length c) ms
  | empty (a : Addr) (c : Nat) : ArgP w (.slice (some a) 0 c) []
theorem ArgP.sm {w : World} {v : Value} {ms : List Pr} (h : ArgP w v ms) : SP w w.heap.size v ms := by
  cases h with
  | nil => exact SP.nil _ _
  | some b o c ms h => exact h
  | empty a c => exact ⟨_, _, rfl, fun h => absurd h (by simp)⟩
theorem ArgP.keep {w w' : World} {v : Value} {ms : List Pr} (h : ArgP w v ms) (hb : Below w.heap.size w w') : ArgP w' v ms := by
  cases h with
  | nil => exact .nil
  | some b o c ms h => exact .some b o c ms ((h.below hb).more hb.size)
  | empty a c => exact .empty a c
theorem ArgP.form {w : World} {v : Value} {ms : List Pr} (h : ArgP w v ms) : ∃ A c, v = .slice A ms.length c := h.sm.form
theorem ArgP.of_own {w : World} {base : Nat} {v : Value} {ms : List Pr} (h : OwnP w base v ms) : ArgP w v ms := by
  have hs := SP.of_own h
  rcases h.2 with ⟨rfl, h0⟩ | ⟨g, cap, cur, rfl, _⟩
  · have : ms = [] := List.length_eq_zero_iff.1 h0
    subst this
    exact .nil
  · exact .some _ _ _ _ hs
theorem own_keep {w w' : World} {base : Nat} {v : Value} {ms : List Pr} (h : OwnP w base v ms) (hb : Below w.heap.size w w') : OwnP w' base v ms :=
  h.kept (row := none) ⟨hb.os, hb.tape, hb.output, hb.size, fun k hk _ => hb.block k hk⟩ (Classical.em _)
theorem own_base {w : World} {base base' : Nat} {v : Value} {ms : List Pr} (h : OwnP w base v ms) (hb : base' ≤ base) : OwnP w base' v ms := by
  refine ⟨h.1, ?_⟩
  rcases h.2 with hn | ⟨g, cap, cur, e, h1, rest⟩
  · exact .inl hn
  · exact .inr ⟨g, cap, cur, e, Nat.le_trans hb h1, rest⟩
theorem own_set {w : World} {base : Nat} {v : Value} {ms : List Pr} (h : OwnP w base v ms) {a : Addr} (ha : a.block < base) (u : Value) : OwnP (w.setCell a u) base v ms := ownsRow_setCell_below h ha u
theorem own_alloc {w : World} {base : Nat} {v : Value} {ms : List Pr} (h : OwnP w base v ms) (o : Obj) : OwnP (w.alloc o) base v ms := own_keep h ((Below.refl _ w).alloc (Nat.le_refl _) o)
theorem infoP : (Tryz.prog.info? 53).map (fun i => (i.zero, i.size, i.bytes)) = some (some (.agg #[.string E0, .string E0]), 2, 32) := by kernel_rfl
theorem own_nil (w : World) (base : Nat) : OwnP w base (.slice none 0 0) [] := ⟨rfl, .inl ⟨rfl, rfl⟩⟩
end Go.Proofs.YtkpakiiijphjeaaGreatDoor.Od

namespace Go.Proofs.YtkpakiiijphjeaaGreatDoor.Od
open Go.RowKit
def BoxA (n : Nat) (o : Ask) (w' : World) : Prop := n < w'.heap.size ∧ (w'.cell? ⟨n, 0, none⟩ = some (.int .i64 o.kind) ∧ w'.cell? ⟨n, 1, none⟩ = some (.int .i64 o.client) ∧ w'.cell? ⟨n, 2, none⟩ = some (.int .i64 o.seq) ∧ w'.cell? ⟨n, 3, none⟩ = some (.string o.key) ∧ w'.cell? ⟨n, 4, none⟩ = some (.string o.til) ∧ w'.cell? ⟨n, 5, none⟩ = some (.string o.val) ∧ w'.cell? ⟨n, 6, none⟩ = some (.string o.old) ∧ w'.cell? ⟨n, 7, none⟩ = some (.bool o.has) ∧ w'.cell? ⟨n, 8, none⟩ = some (.int .i64 o.lim) ∧ w'.cell? ⟨n, 9, none⟩ = some (.int .i64 o.id) ∧ w'.cell? ⟨n, 10, none⟩ = some (.int .i64 o.node)) ∧ ∀ o, w'.frozen? ⟨n, o, none⟩ = false
theorem BoxA.keep {n : Nat} {o : Ask} {w1 w2 : World} (h : BoxA n o w1) (hb : Below w1.heap.size w1 w2) : BoxA n o w2 := by
  obtain ⟨h0, ⟨h1, h2, h3, h4, h5, h6, h7, h8, h9, h10, h11⟩, hf⟩ := h
  have hc : ∀ o, w2.cell? ⟨n, o, none⟩ = w1.cell? ⟨n, o, none⟩ := fun o => hb.cell (p := ⟨n, o, none⟩) h0
  refine ⟨Nat.lt_of_lt_of_le h0 hb.size, ⟨?_, ?_, ?_, ?_, ?_, ?_, ?_, ?_, ?_, ?_, ?_⟩, fun o => (hb.frozen (p := ⟨n, o, none⟩) h0).trans (hf o)⟩
  all_goals rw [hc]; assumption
theorem BoxA.new (w : World) (o : Ask) : BoxA w.heap.size o (w.alloc (.cells #[.int .i64 o.kind, .int .i64 o.client, .int .i64 o.seq, .string o.key, .string o.til, .string o.val, .string o.old, .bool o.has, .int .i64 o.lim, .int .i64 o.id, .int .i64 o.node] 26)) :=
  ⟨by simp, by simp [go_sem], fun o => by simp [go_sem]⟩
theorem BoxA.alloc {n : Nat} {o : Ask} {w1 : World} (h : BoxA n o w1) (x : Obj) : BoxA n o (w1.alloc x) :=
  h.keep ((Below.refl _ w1).alloc (Nat.le_refl _) x)
theorem BoxA.drew {n : Nat} {o : Ask} {w1 : World} (h : BoxA n o w1) : BoxA n o w1.drew := h
theorem BoxA.other {n : Nat} {o : Ask} {w1 : World} (h : BoxA n o w1) {a : Addr} (ha : a.block ≠ n) (u : Value) : BoxA n o (w1.setCell a u) := by
  obtain ⟨h0, ⟨h1, h2, h3, h4, h5, h6, h7, h8, h9, h10, h11⟩, hf⟩ := h
  have hc : ∀ o, (w1.setCell a u).cell? ⟨n, o, none⟩ = w1.cell? ⟨n, o, none⟩ := fun o => World.cell?_setCell_far w1 a _ u ha
  refine ⟨by simpa using h0, ⟨?_, ?_, ?_, ?_, ?_, ?_, ?_, ?_, ?_, ?_, ?_⟩, fun o => by rw [World.frozen?_setCell]; exact hf o⟩
  all_goals rw [hc]; assumption
theorem BoxA.put {n : Nat} {o0 : Ask} {w1 : World} (h : BoxA n o0 w1) (o : Ask) :
    BoxA n o (World.setCell (World.setCell (World.setCell (World.setCell (World.setCell (World.setCell (World.setCell (World.setCell (World.setCell (World.setCell (World.setCell w1 ⟨n, 0, none⟩ (.int .i64 o.kind)) ⟨n, 1, none⟩ (.int .i64 o.client)) ⟨n, 2, none⟩ (.int .i64 o.seq)) ⟨n, 3, none⟩ (.string o.key)) ⟨n, 4, none⟩ (.string o.til)) ⟨n, 5, none⟩ (.string o.val)) ⟨n, 6, none⟩ (.string o.old)) ⟨n, 7, none⟩ (.bool o.has)) ⟨n, 8, none⟩ (.int .i64 o.lim)) ⟨n, 9, none⟩ (.int .i64 o.id)) ⟨n, 10, none⟩ (.int .i64 o.node)) := by
  obtain ⟨h0, ⟨h1, h2, h3, h4, h5, h6, h7, h8, h9, h10, h11⟩, hf⟩ := h
  refine ⟨by simpa using h0, ⟨?_, ?_, ?_, ?_, ?_, ?_, ?_, ?_, ?_, ?_, ?_⟩, fun o => by simp [World.frozen?_setCell, hf]⟩
  all_goals simp [go_sem, h1, h2, h3, h4, h5, h6, h7, h8, h9, h10, h11]
theorem res_BoxA_tmp {fn : Func} {a b : Tmp} {tmps : Array Value} {n : Nat} {o : Ask} {v : Value} {w1 : World} (hf : fn.results = #[.cell a 26, .tmp b]) (ht : tmps[a]?.getD undef = .pointer (some ⟨n, 0, none⟩)) (hb : tmps[b]?.getD undef = v) (h : BoxA n o w1) : (results fn tmps).run Tryz.prog w1 = .ok (.tuple #[av o, v]) w1 := by
  have h1 := Tryz.isAgg26
  have h2 := Tryz.sizeOf26
  obtain ⟨_, ⟨c1, c2, c3, c4, c5, c6, c7, c8, c9, c10, c11⟩, _⟩ := h
  simp [results, hf, go_sem, ht, hb, h1, h2, c1, c2, c3, c4, c5, c6, c7, c8, c9, c10, c11]
theorem res_BoxA {fn : Func} {a : Tmp} {tmps : Array Value} {n : Nat} {o : Ask} {w1 : World} (hf : fn.results = #[.cell a 26]) (ht : tmps[a]?.getD undef = .pointer (some ⟨n, 0, none⟩)) (h : BoxA n o w1) : (results fn tmps).run Tryz.prog w1 = .ok (av o) w1 := by
  have h1 := Tryz.isAgg26
  have h2 := Tryz.sizeOf26
  obtain ⟨_, ⟨c1, c2, c3, c4, c5, c6, c7, c8, c9, c10, c11⟩, _⟩ := h
  simp [results, hf, go_sem, ht, h1, h2, c1, c2, c3, c4, c5, c6, c7, c8, c9, c10, c11]
def BoxR (n : Nat) (o : Rep) (s : Value) (w' : World) : Prop := n < w'.heap.size ∧ (w'.cell? ⟨n, 0, none⟩ = some (.int .i64 o.code) ∧ w'.cell? ⟨n, 1, none⟩ = some (.int .i64 o.err) ∧ w'.cell? ⟨n, 2, none⟩ = some (.bool o.has) ∧ w'.cell? ⟨n, 3, none⟩ = some (.string o.val) ∧ w'.cell? ⟨n, 4, none⟩ = some (s)) ∧ ∀ o, w'.frozen? ⟨n, o, none⟩ = false
theorem BoxR.keep {n : Nat} {o : Rep} {s : Value} {w1 w2 : World} (h : BoxR n o s w1) (hb : Below w1.heap.size w1 w2) : BoxR n o s w2 := by
  obtain ⟨h0, ⟨h1, h2, h3, h4, h5⟩, hf⟩ := h
  have hc : ∀ o, w2.cell? ⟨n, o, none⟩ = w1.cell? ⟨n, o, none⟩ := fun o => hb.cell (p := ⟨n, o, none⟩) h0
  refine ⟨Nat.lt_of_lt_of_le h0 hb.size, ⟨?_, ?_, ?_, ?_, ?_⟩, fun o => (hb.frozen (p := ⟨n, o, none⟩) h0).trans (hf o)⟩
  all_goals rw [hc]; assumption
theorem BoxR.new (w : World) (o : Rep) (s : Value) : BoxR w.heap.size o s (w.alloc (.cells #[.int .i64 o.code, .int .i64 o.err, .bool o.has, .string o.val, s] 30)) :=
  ⟨by simp, by simp [go_sem], fun o => by simp [go_sem]⟩
theorem BoxR.alloc {n : Nat} {o : Rep} {s : Value} {w1 : World} (h : BoxR n o s w1) (x : Obj) : BoxR n o s (w1.alloc x) :=
  h.keep ((Below.refl _ w1).alloc (Nat.le_refl _) x)
theorem BoxR.drew {n : Nat} {o : Rep} {s : Value} {w1 : World} (h : BoxR n o s w1) : BoxR n o s w1.drew := h
theorem BoxR.other {n : Nat} {o : Rep} {s : Value} {w1 : World} (h : BoxR n o s w1) {a : Addr} (ha : a.block ≠ n) (u : Value) : BoxR n o s (w1.setCell a u) := by
  obtain ⟨h0, ⟨h1, h2, h3, h4, h5⟩, hf⟩ := h
  have hc : ∀ o, (w1.setCell a u).cell? ⟨n, o, none⟩ = w1.cell? ⟨n, o, none⟩ := fun o => World.cell?_setCell_far w1 a _ u ha
  refine ⟨by simpa using h0, ⟨?_, ?_, ?_, ?_, ?_⟩, fun o => by rw [World.frozen?_setCell]; exact hf o⟩
  all_goals rw [hc]; assumption
theorem BoxR.put {n : Nat} {o0 : Rep} {s0 : Value} {w1 : World} (h : BoxR n o0 s0 w1) (o : Rep) (s : Value) :
    BoxR n o s (World.setCell (World.setCell (World.setCell (World.setCell (World.setCell w1 ⟨n, 0, none⟩ (.int .i64 o.code)) ⟨n, 1, none⟩ (.int .i64 o.err)) ⟨n, 2, none⟩ (.bool o.has)) ⟨n, 3, none⟩ (.string o.val)) ⟨n, 4, none⟩ (s)) := by
  obtain ⟨h0, ⟨h1, h2, h3, h4, h5⟩, hf⟩ := h
  refine ⟨by simpa using h0, ⟨?_, ?_, ?_, ?_, ?_⟩, fun o => by simp [World.frozen?_setCell, hf]⟩
  all_goals simp [go_sem, h1, h2, h3, h4, h5]
theorem res_BoxR_tmp {fn : Func} {a b : Tmp} {tmps : Array Value} {n : Nat} {o : Rep} {s : Value} {v : Value} {w1 : World} (hf : fn.results = #[.cell a 30, .tmp b]) (ht : tmps[a]?.getD undef = .pointer (some ⟨n, 0, none⟩)) (hb : tmps[b]?.getD undef = v) (h : BoxR n o s w1) : (results fn tmps).run Tryz.prog w1 = .ok (.tuple #[rv o s, v]) w1 := by
  have h1 := Tryz.isAgg30
  have h2 := Tryz.sizeOf30
  obtain ⟨_, ⟨c1, c2, c3, c4, c5⟩, _⟩ := h
  simp [results, hf, go_sem, ht, hb, h1, h2, c1, c2, c3, c4, c5]
end Go.Proofs.YtkpakiiijphjeaaGreatDoor.Od

namespace Go.Proofs.YtkpakiiijphjeaaGreatDoor.Od
open Go.RowKit Bnd
open Go.Proofs.YtkpakiiijphjeaaGreatDoor.O (Bd isB keyB)
open Go.Proofs.YtkpakiiijphjeaaGreatDoor.Bnd (levelT)
open Go.Proofs.YtkpakiiijphjeaaGreatDoor.M (tieT untieT numT intT inR)
theorem among_any (n a b : Int) (w : World) : Calls Tryz.prog 104 #[.int .i64 n, .int .i64 a, .int .i64 b] w fun e w' => e = .returned (.bool (amongB n a b)) ∧ w = w' := by
  by_cases h1 : a ≤ n
  · by_cases h2 : n ≤ b
    all_goals
      have e : amongB n a b = decide (n ≤ b) := by simp [amongB, h1]
      rw [e]
      clear e
      go_enter Tryz.func104, Tryz.ntmps104
      go_wp2_with fail
      go_ret
      exact ⟨ret_bool (by simp [h2]), rfl⟩
  · have e : amongB n a b = false := by simp [amongB, h1]
    rw [e]
    clear e
    go_enter Tryz.func104, Tryz.ntmps104
    go_wp2_with fail
    go_ret
    exact ⟨rfl, rfl⟩
theorem isSeq_any (n : Int) (w : World) : Calls Tryz.prog 96 #[.int .i64 n] w fun e w' => e = .returned (.bool (seqB n)) ∧ w = w' := by
  have c := among_any n 1 1099511627776 w
  go_enter Tryz.func96, Tryz.ntmps96
  go_wp2_with fail
  refine c.mono ?_
  rintro e w' ⟨rfl, rfl⟩
  go_wp2_with fail
  go_ret
  exact ⟨rfl, rfl⟩
theorem truth_any (b : Bool) (w : World) : Calls Tryz.prog 79 #[.bool b] w fun e w' => e = .returned (.string ⟨(truthT b).toArray⟩) ∧ w = w' := by
  cases b
  all_goals
    go_enter Tryz.func79, Tryz.ntmps79
    go_wp2_with fail
    go_ret
    exact ⟨rfl, rfl⟩
theorem number_any (s : ByteArray) (w : World) (hs : s.size ≤ 140737488355328) (hg : Good w) : Calls Tryz.prog 89 #[.string s] w fun e w' => e = .returned (.int .i64 (num0 s.data.toList)) ∧ Below w.heap.size w w' := by
  have c := int_any s w hs hg
  unfold num0
  cases h : intT s.data.toList with
  | none =>
    rw [h] at c
    unfold intR at c
    clear h
    go_enter Tryz.func89, Tryz.ntmps89
    go_wp2_with fail
    refine c.mono ?_
    rintro e w' ⟨rfl, hb⟩
    go_wp2_with fail
    go_ret
    exact ⟨rfl, hb⟩
  | some n =>
    rw [h] at c
    unfold intR at c
    clear h
    go_enter Tryz.func89, Tryz.ntmps89
    go_wp2_with fail
    refine c.mono ?_
    rintro e w' ⟨rfl, hb⟩
    go_wp2_with fail
    go_ret
    exact ⟨rfl, hb⟩
theorem mayCut_any (k : ByteArray) (w : World) (hk : k.size ≤ 140737488355328) : Calls Tryz.prog 124 #[.string k] w fun e w' => e = .returned (.bool (cutLv k)) ∧ w = w' := by
  have c := level_any k w hk
  obtain ⟨l, hl⟩ : ∃ l, levelT k.toList = l := ⟨_, rfl⟩
  unfold cutLv
  rw [hl] at c ⊢
  clear hl
  by_cases h0 : l = 0
  · subst h0
    go_enter Tryz.func124, Tryz.ntmps124
    go_wp2_with fail
    refine c.mono ?_
    rintro e w' ⟨rfl, rfl⟩
    go_wp2_with fail
    go_ret
    exact ⟨rfl, rfl⟩
  · by_cases h2 : l = 2
    all_goals
      have e : decide (l = 0 ∨ l = 2) = decide (l = 2) := by simp [h0]
      rw [e]
      clear e
      have g0 : (l == 0) = false := by simp [h0]
      go_enter Tryz.func124, Tryz.ntmps124
      go_wp2_with fail
      refine c.mono ?_
      rintro e w' ⟨rfl, rfl⟩
      go_wp2_with fail
      go_ret
      exact ⟨ret_bool (by simp [h2]), rfl⟩
theorem keyed_any (k : Int) (w : World) : Calls Tryz.prog 108 #[.int .i64 k] w fun e w' => e = .returned (.bool (keyedK k)) ∧ w = w' := by
  by_cases h1 : 0 < k
  · by_cases h2 : k < 13
    · by_cases h3 : k = 6
      · subst h3
        go_enter Tryz.func108, Tryz.ntmps108
        go_wp2_with fail
        go_ret
        exact ⟨rfl, rfl⟩
      · have e : keyedK k = true := by unfold keyedK; simp; omega
        rw [e]
        have g : (k != 6) = true := by simpa using h3
        clear e h3
        go_enter Tryz.func108, Tryz.ntmps108
        go_wp2_with fail
        go_ret
        exact ⟨rfl, rfl⟩
    · have e : keyedK k = false := by unfold keyedK; simp; omega
      rw [e]
      clear e
      go_enter Tryz.func108, Tryz.ntmps108
      go_wp2_with fail
      go_ret
      exact ⟨rfl, rfl⟩
  · have e : keyedK k = false := by unfold keyedK; simp; omega
    rw [e]
    clear e
    go_enter Tryz.func108, Tryz.ntmps108
    go_wp2_with fail
    go_ret
    exact ⟨rfl, rfl⟩
end Go.Proofs.YtkpakiiijphjeaaGreatDoor.Od

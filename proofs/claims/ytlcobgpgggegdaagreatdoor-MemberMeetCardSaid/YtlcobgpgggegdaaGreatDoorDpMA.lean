/-
  THE PLAIN MATHEMATICS OF PACKAGE deed, of no program: plots, whether they may be, how they are cut and joined, what stands in them, their texts. No condition.
  Texts read back as plots, reckoned without a program: as the program reads them, and as the document does; both come to the plot whose text it is. Conditions: texts of at most 2^20 bytes.
  How a program holds a plot: slices of numbers, the plot's value, boxes that hold one. No condition.
  The library's Clone at pairs, sessions and numbers; appending a list of numbers. Condition: at most 1,000,000 of each.
-/
import Derived.Test.YtlcobgpgggegdaaGreatDoorSsL
import Derived.Test.YtlcobgpgggegdaaGreatDoorSfA
import Derived.Test.YtlcobgpgggegdaaGreatDoorSsMRA
import Derived.Test.YtlcobgpgggegdaaGreatDoorDsPNA
import Derived.Test.YtlcobgpgggegdaaGreatDoorDsSMA
import Derived.Lib.SliceRun
namespace Go.Proofs.YtlcobgpgggegdaaGreatDoor.Dp
open Go.Proofs.YtlcobgpgggegdaaGreatDoor.O (Bd isB keyB hasB nextB lt lt_irrefl lt_trans lt_tri lt_asymm)
open Go.Proofs.YtlcobgpgggegdaaGreatDoor.M (tieT untieT untie_some untie_spec numT intT inR tieT_inj numT_inj)
open Go.Proofs.YtlcobgpgggegdaaGreatDoor.Ds (De isD putT parseD splitD mergeD okD)
open Go.Proofs.YtlcobgpgggegdaaGreatDoor.Ss (Ses isS putS parseS mergeS)
open Go.Proofs.YtlcobgpgggegdaaGreatDoor.Od (Pr pairsT truthT amongB E0)
open Go.Proofs.YtlcobgpgggegdaaGreatDoor.Sf (kl Up getP doP scanP put between)

abbrev Text := List UInt8
/-- a plot -/
structure Pl where
  d : De
  ps : List Pr
  ss : List Ses
  fr : Bool
  ea : List Int
  al : Int
def Pl.zero : Pl := ⟨De.zero, [], [], false, [], 0⟩
def samePl (a b : Pl) : Bool := Ds.sameD a.d b.d && decide (a.ps = b.ps) && Ss.sameL a.ss b.ss && decide (a.fr = b.fr) && decide (a.ea = b.ea) && decide (a.al = b.al)
/-! ### whether it may be -/
def goP (b : Bd) : Text → List Pr → Bool
  | _, [] => true
  | last, p :: l => if lt last p.1.toList = true ∧ p.2.size ≤ 512 ∧ keyB p.1.toList = true ∧ hasB b p.1.toList = true then goP b p.1.toList l else false
def goE : Int → List Int → Bool
  | _, [] => true
  | last, n :: l => if last < n ∧ n ≤ 1099511627776 then goE n l else false
def eatB (l : List Int) : Bool := decide (l.length ≤ 200) && goE 0 l
def isP (p : Pl) : Bool := isD p.d && isS p.ss && goP p.d.b [] p.ps && eatB p.ea && amongB p.al 0 1099511627776
def chkP (p : Pl) : Int := if isP p = true then 0 else 90
theorem isP_iff (p : Pl) : isP p = true ↔ isD p.d = true ∧ isS p.ss = true ∧ goP p.d.b [] p.ps = true ∧ (p.ea.length ≤ 200 ∧ goE 0 p.ea = true) ∧ 0 ≤ p.al ∧ p.al ≤ 1099511627776 := by
  unfold isP eatB amongB
  simp [and_assoc]
/-! ### places -/
def placeP (P : List Pr) (k : ByteArray) : Nat := P.countP fun p => kl p.1 k
theorem place_le (P : List Pr) (k : ByteArray) : placeP P k ≤ P.length := List.countP_le_length
theorem place_cons (p : Pr) (P : List Pr) (k : ByteArray) : placeP (p :: P) k = placeP P k + if kl p.1 k = true then 1 else 0 := by
  unfold placeP
  rw [List.countP_cons]
theorem place_zero {P : List Pr} {k : ByteArray} (h : ∀ p ∈ P, kl p.1 k = false) : placeP P k = 0 := by
  unfold placeP
  rw [List.countP_eq_zero]
  intro p hp
  rw [h p hp]; decide
theorem up_above {p : Pr} {P : List Pr} (h : Up (p :: P)) {k : ByteArray} (hk : kl p.1 k = false) : ∀ q ∈ p :: P, kl q.1 k = false := by
  have h' := List.pairwise_cons.1 h
  intro q hq
  rcases List.mem_cons.1 hq with rfl | hq
  · exact hk
  · cases hc : kl q.1 k with
    | false => rfl
    | true => rw [Sf.kl_trans (h'.1 q hq) hc] at hk; cases hk
theorem place_low : ∀ {P : List Pr} (_ : Up P) (k : ByteArray) (i : Nat) (h : i < P.length), i < placeP P k → kl P[i].1 k = true
  | p :: P, hu, k, i, h, hi => by
    have h' := List.pairwise_cons.1 hu
    cases hk : kl p.1 k with
    | false => rw [place_zero (up_above hu hk)] at hi; omega
    | true =>
      rw [place_cons, hk, if_pos rfl] at hi
      cases i with
      | zero => exact hk
      | succ i => exact place_low h'.2 k i (by simpa using h) (by omega)
theorem place_high : ∀ {P : List Pr} (_ : Up P) (k : ByteArray) (i : Nat) (h : i < P.length), placeP P k ≤ i → kl P[i].1 k = false
  | p :: P, hu, k, i, h, hi => by
    have h' := List.pairwise_cons.1 hu
    cases hk : kl p.1 k with
    | false => exact up_above hu hk _ (List.getElem_mem h)
    | true =>
      rw [place_cons, hk, if_pos rfl] at hi
      cases i with
      | zero => omega
      | succ i => exact place_high h'.2 k i (by simpa using h) (by omega)
theorem place_of {P : List Pr} (hu : Up P) {k : ByteArray} {n : Nat} (hn : n ≤ P.length) (h1 : ∀ i (h : i < P.length), i < n → kl P[i].1 k = true) (h2 : ∀ i (h : i < P.length), n ≤ i → kl P[i].1 k = false) : placeP P k = n := by
  have hp := place_le P k
  rcases Nat.lt_trichotomy (placeP P k) n with h | h | h
  · have a := h1 (placeP P k) (by omega) h
    rw [place_high hu k (placeP P k) (by omega) (Nat.le_refl _)] at a; cases a
  · exact h
  · have a := h2 n (by omega) (Nat.le_refl _)
    rw [place_low hu k n (by omega) h] at a; cases a
/-- a scan with a limit -/
def limP (P : List Pr) (f t : ByteArray) (n : Int) : List Pr × ByteArray :=
  match (scanP P f t)[(max n 0).toNat]? with
  | none => (scanP P f t, E0)
  | some p => ((scanP P f t).take (max n 0).toNat, p.1)

/-! ### numbers of ranges that it has eaten -/
def eatE (n : Int) : List Int → List Int
  | [] => [n]
  | x :: l => if x < n then x :: eatE n l else if x = n then x :: l else n :: x :: l
def eatsE (l m : List Int) : List Int := m.foldl (fun a n => eatE n a) l
/-- what stands twice, one behind the other, once -/
def onceE : List Int → List Int
  | [] => []
  | [x] => [x]
  | x :: y :: l => if x = y then onceE (y :: l) else x :: onceE (y :: l)
/-! ### cut, joined -/
def cutP (p : Pl) (k : ByteArray) (n : Int) : Pl × Pl × Int :=
  if p.fr = true then (Pl.zero, Pl.zero, 90)
  else if (splitD p.d k n).2.2 = 0 then ({ p with d := (splitD p.d k n).1, ps := scanP p.ps E0 k }, { p with d := (splitD p.d k n).2.1, ps := scanP p.ps k E0, al := 0 }, 0)
  else (Pl.zero, Pl.zero, (splitD p.d k n).2.2)
def joinP (l r : Pl) : Pl × Int :=
  if l.fr = true ∨ r.fr = false then (Pl.zero, 90)
  else if r.d.id ∈ l.ea then (Pl.zero, 8)
  else if (mergeD l.d r.d).2 = 0 then
    if (mergeS l.ss r.ss).2 = 0 then
      if (eatsE (eatE r.d.id l.ea) r.ea).length ≤ 200 then (⟨(mergeD l.d r.d).1, l.ps ++ r.ps, (mergeS l.ss r.ss).1, false, eatsE (eatE r.d.id l.ea) r.ea, l.al⟩, 0)
      else (Pl.zero, 6)
    else (Pl.zero, (mergeS l.ss r.ss).2)
  else (Pl.zero, (mergeD l.d r.d).2)
def setP (p : Pl) (c : Sf.Ch) : Pl := { p with ps := doP p.ps c }

/-! ### texts -/
def eatT (l : List Int) : Text := tieT (l.map numT)
def strandsP (p : Pl) : List Text := [putT p.d, tieT (pairsT p.ps), putS p.ss, truthT p.fr, eatT p.ea, numT p.al]
def putP (p : Pl) : Text := tieT (strandsP p)
/-- the plot that may be, and whose text s is -/
noncomputable def parseP (s : Text) : Pl × Int := open Classical in if h : ∃ p, isP p = true ∧ putP p = s then (h.choose, 0) else (Pl.zero, 90)
end Go.Proofs.YtlcobgpgggegdaaGreatDoor.Dp

namespace Go.Proofs.YtlcobgpgggegdaaGreatDoor.Dp
open Go.Proofs.YtlcobgpgggegdaaGreatDoor.M (tieT tieT_cons tieT_nil strand untieT untie_some untie_spec numT intT inR tieT_inj numT_inj)
open Go.Proofs.YtlcobgpgggegdaaGreatDoor.Ds (De isD putT parseD okD)
open Go.Proofs.YtlcobgpgggegdaaGreatDoor.Ss (Ses isS putS parseS)
open Go.Proofs.YtlcobgpgggegdaaGreatDoor.Od (Pr pairsT truthT amongB E0 num0 twosT)

/-! ### strands, as far as they go -/
def cut58 : Text → Text × Text
  | [] => ([], [])
  | c :: s => if c = 58 then ([], s) else (c :: (cut58 s).1, (cut58 s).2)
theorem cut58_len : ∀ (s : Text), (cut58 s).2 = [] ∨ (cut58 s).2.length < s.length
  | [] => .inl rfl
  | c :: s => by
    rw [cut58]
    split
    · right; simp
    · rcases cut58_len s with h | h
      · exact .inl h
      · right; simp only [List.length_cons]; omega
noncomputable def strandsG (s : Text) : List Text := match intT (cut58 s).1 with
  | some n => if h : 0 ≤ n ∧ n < ((cut58 s).2.length : Int) then (cut58 s).2.take n.toNat :: strandsG ((cut58 s).2.drop (n.toNat + 1)) else []
  | none => []
termination_by s.length
decreasing_by
  rcases cut58_len s with e | e
  · rw [e] at h; simp at h; omega
  · simp only [List.length_drop]; omega
/-! ### pieces -/
theorem isD_in {d : De} (h : isD d = true) : Ds.InR d := by
  obtain ⟨h1, h2, h3, h4, h5, h6⟩ := (Ds.isD_iff d).1 h
  rw [Ds.idB_iff] at h1 h2 h3
  refine ⟨by unfold inR; omega, by unfold inR; omega, by unfold inR; omega, fun m hm => ?_⟩
  obtain ⟨g1, _, g3, g4⟩ := ((Ds.mayGo_iff _ _ _ _).1 h6).1 m hm
  rw [Ds.nodeB_iff] at g1
  exact ⟨by unfold inR; omega, by unfold inR; omega⟩
/-! ### the program's reading -/
noncomputable def readPl : List Text → Option Pl
  | [a, b, c, m, e, n] => if (parseD a).2 = 0 then if (parseS c).2 = 0 then some ⟨(parseD a).1, twosT (strandsG b), (parseS c).1, decide (m = [49]), (strandsG e).map num0, num0 n⟩ else none else none
  | _ => none
noncomputable def readsP (s : Text) : Pl × Int := match readPl (strandsG s) with
  | some p => open Classical in if isP p = true ∧ putP p = s then (p, 0) else (Pl.zero, 90)
  | none => (Pl.zero, 90)
/-! ### the document's reading -/
def intsD : List Text → Option (List Int)
  | [] => some []
  | a :: l => match intT a, intsD l with
    | some n, some r => some (n :: r)
    | _, _ => none
/-- a descriptor, pairs' texts, sessions, a mark, numbers' texts, a number -/
noncomputable def readDl : List Text → Option Pl
  | [a, b, c, m, e, n] =>
    match untieT b, untieT e, intT n with
    | some x, some y, some al =>
      if (parseD a).2 = 0 ∧ (parseS c).2 = 0 ∧ x.length % 2 = 0 then
        match intsD y with
        | some q => some ⟨(parseD a).1, twosT x, (parseS c).1, decide (m = [49]), q, al⟩
        | none => none
      else none
    | _, _, _ => none
  | _ => none
noncomputable def docP (s : Text) : Pl × Int := match untieT s with
  | none => (Pl.zero, 90)
  | some l => match readDl l with
    | some p => open Classical in if isP p = true ∧ putP p = s then (p, 0) else (Pl.zero, 90)
    | none => (Pl.zero, 90)
end Go.Proofs.YtlcobgpgggegdaaGreatDoor.Dp

namespace Go.Proofs.YtlcobgpgggegdaaGreatDoor.Dp
open Go.RowKit
open Go.Proofs.YtlcobgpgggegdaaGreatDoor.Ds (De SM OwnI)
open Go.Proofs.YtlcobgpgggegdaaGreatDoor.Ss (Ses Zs ses SZ PZ NoP)
open Go.Proofs.YtlcobgpgggegdaaGreatDoor.Od (Pr SP)

/-- In the world w the slice value v holds the numbers; its cells lie below block N. -/
def SI (w : World) (N : Nat) (v : Value) (ns : List Int) : Prop :=
  ∃ (A : Option Addr) (c : Nat), v = .slice A ns.length c ∧ (0 < ns.length → ∃ b o : Nat, A = some ⟨b, o, none⟩ ∧ b < N ∧ ∀ i (h : i < ns.length), w.cell? ⟨b, o + i, none⟩ = some (.int .i64 ns[i]))
theorem SI.nil (w : World) (N : Nat) : SI w N (.slice none 0 0) [] := ⟨none, 0, rfl, fun h => absurd h (by simp)⟩
theorem SI.keep {w w' : World} {N : Nat} {v : Value} {ns : List Int} (h : SI w N v ns) (hk : ∀ p : Addr, p.block < N → w'.cell? p = w.cell? p) : SI w' N v ns := by
  obtain ⟨A, c, hv, h⟩ := h
  refine ⟨A, c, hv, fun h0 => ?_⟩
  obtain ⟨b, o, e, hb, hc⟩ := h h0
  exact ⟨b, o, e, hb, fun i hi => by rw [hk ⟨b, o + i, none⟩ hb]; exact hc i hi⟩
theorem SI.below {w w' : World} {N : Nat} {v : Value} {ns : List Int} (h : SI w N v ns) (hb : Below N w w') : SI w' N v ns := h.keep fun _ hp => hb.cell hp
theorem SI.more {w : World} {N N' : Nat} {v : Value} {ns : List Int} (h : SI w N v ns) (hB : N ≤ N') : SI w N' v ns := by
  obtain ⟨A, c, hv, h⟩ := h
  refine ⟨A, c, hv, fun h0 => ?_⟩
  obtain ⟨b, o, e, hb, hc⟩ := h h0
  exact ⟨b, o, e, by omega, hc⟩
theorem SI.at_ {w : World} {N k : Nat} {A : Option Addr} {n c : Nat} {ns : List Int} (h : SI w N (.slice A n c) ns) (hk : k < ns.length) :
    ∃ b o : Nat, A = some ⟨b, o, none⟩ ∧ b < N ∧ w.cell? ⟨b, o + k, none⟩ = some (.int .i64 ns[k]) := by
  obtain ⟨A', c', hv, h⟩ := h
  injection hv with h1 h2 h3
  subst h1
  obtain ⟨b, o, e, hb, hc⟩ := h (by omega)
  exact ⟨b, o, e, hb, hc k hk⟩
theorem SI.form {w : World} {N : Nat} {v : Value} {ns : List Int} (h : SI w N v ns) : ∃ A c, v = .slice A ns.length c := by
  obtain ⟨A, c, hv, _⟩ := h; exact ⟨A, c, hv⟩
theorem SI.of_own {w : World} {base : Nat} {v : Value} {ns : List Int} (h : OwnI w base v ns) : SI w w.heap.size v ns := by
  rcases h.2 with ⟨e, h0⟩ | ⟨g, cap, cur, e, hbg, hgb, _⟩
  · exact ⟨none, 0, by rw [e, h0], fun h' => by omega⟩
  · refine ⟨_, cap, e, fun _ => ⟨g, 0, rfl, (Array.getElem?_eq_some_iff.1 hgb).1, fun i hi => ?_⟩⟩
    have := h.cells (g := g) (by rw [e]; rfl) i _ (by rw [List.getElem?_map, List.getElem?_eq_getElem hi]; rfl)
    rw [Addr.add_lit] at this
    exact this

/-- a plot, and the values of its lists -/
structure Ph where
  d : De
  sm : Value
  ps : List Pr
  sp : Value
  zs : List Zs
  sz : Value
  fr : Bool
  ea : List Int
  se : Value
  al : Int
def Ph.pl (h : Ph) : Pl := ⟨h.d, h.ps, ses h.zs, h.fr, h.ea, h.al⟩
abbrev qv (o : Ph) : Value := .agg #[.int .i64 o.d.id, .string o.d.f, .string o.d.t, .int .i64 o.d.gen, o.sm, .int .i64 o.d.next, o.sp, o.sz, .bool o.fr, o.se, .int .i64 o.al]
/-- its lists are laid so, below block N -/
structure HP (w : World) (N : Nat) (o : Ph) : Prop where
  sm : SM w N o.sm o.d.ms
  sp : SP w N o.sp o.ps
  sz : SZ w N o.sz o.zs
  pz : PZ w N o.zs
  se : SI w N o.se o.ea
theorem HP.below {w w' : World} {N : Nat} {o : Ph} (h : HP w N o) (hb : Below N w w') : HP w' N o := ⟨h.sm.below hb, h.sp.below hb, h.sz.below hb, h.pz.below hb, h.se.below hb⟩
theorem HP.more {w : World} {N N' : Nat} {o : Ph} (h : HP w N o) (hB : N ≤ N') : HP w N' o := ⟨h.sm.more hB, h.sp.more hB, h.sz.more hB, h.pz.more hB, h.se.more hB⟩
/-- the values' forms -/
theorem HP.form {w : World} {N : Nat} {o : Ph} (h : HP w N o) : ∃ A a B b C c D d, o.sm = .slice A o.d.ms.length a ∧ o.sp = .slice B o.ps.length b ∧ o.sz = .slice C o.zs.length c ∧ o.se = .slice D o.ea.length d := by
  obtain ⟨A, a, h1⟩ := h.sm.form
  obtain ⟨B, b, h2⟩ := h.sp.form
  obtain ⟨C, c, h3⟩ := h.sz.form
  obtain ⟨D, d, h4⟩ := h.se.form
  exact ⟨A, a, B, b, C, c, D, d, h1, h2, h3, h4⟩
/-- block n of w' is a box with o -/
def BoxP (n : Nat) (o : Ph) (w' : World) : Prop := n < w'.heap.size ∧ (w'.cell? ⟨n, 0, none⟩ = some (.int .i64 o.d.id) ∧ w'.cell? ⟨n, 1, none⟩ = some (.string o.d.f) ∧ w'.cell? ⟨n, 2, none⟩ = some (.string o.d.t) ∧ w'.cell? ⟨n, 3, none⟩ = some (.int .i64 o.d.gen) ∧ w'.cell? ⟨n, 4, none⟩ = some (o.sm) ∧ w'.cell? ⟨n, 5, none⟩ = some (.int .i64 o.d.next) ∧ w'.cell? ⟨n, 6, none⟩ = some (o.sp) ∧ w'.cell? ⟨n, 7, none⟩ = some (o.sz) ∧ w'.cell? ⟨n, 8, none⟩ = some (.bool o.fr) ∧ w'.cell? ⟨n, 9, none⟩ = some (o.se) ∧ w'.cell? ⟨n, 10, none⟩ = some (.int .i64 o.al)) ∧ ∀ o, w'.frozen? ⟨n, o, none⟩ = false
theorem BoxP.keep {n : Nat} {o : Ph} {w1 w2 : World} (h : BoxP n o w1) (hb : Below w1.heap.size w1 w2) : BoxP n o w2 := by
  obtain ⟨h0, ⟨h1, h2, h3, h4, h5, h6, h7, h8, h9, h10, h11⟩, hf⟩ := h
  have hc : ∀ o, w2.cell? ⟨n, o, none⟩ = w1.cell? ⟨n, o, none⟩ := fun o => hb.cell (p := ⟨n, o, none⟩) h0
  refine ⟨Nat.lt_of_lt_of_le h0 hb.size, ⟨?_, ?_, ?_, ?_, ?_, ?_, ?_, ?_, ?_, ?_, ?_⟩, fun o => (hb.frozen (p := ⟨n, o, none⟩) h0).trans (hf o)⟩
  all_goals rw [hc]; assumption
theorem BoxP.new (w : World) (o : Ph) : BoxP w.heap.size o (w.alloc (.cells #[.int .i64 o.d.id, .string o.d.f, .string o.d.t, .int .i64 o.d.gen, o.sm, .int .i64 o.d.next, o.sp, o.sz, .bool o.fr, o.se, .int .i64 o.al] 38)) :=
  ⟨by simp, by simp [go_sem], fun o => by simp [go_sem]⟩
theorem BoxP.alloc {n : Nat} {o : Ph} {w1 : World} (h : BoxP n o w1) (x : Obj) : BoxP n o (w1.alloc x) :=
  h.keep ((Below.refl _ w1).alloc (Nat.le_refl _) x)
theorem BoxP.drew {n : Nat} {o : Ph} {w1 : World} (h : BoxP n o w1) : BoxP n o w1.drew := h
theorem BoxP.other {n : Nat} {o : Ph} {w1 : World} (h : BoxP n o w1) {a : Addr} (ha : a.block ≠ n) (u : Value) : BoxP n o (w1.setCell a u) := by
  obtain ⟨h0, ⟨h1, h2, h3, h4, h5, h6, h7, h8, h9, h10, h11⟩, hf⟩ := h
  have hc : ∀ o, (w1.setCell a u).cell? ⟨n, o, none⟩ = w1.cell? ⟨n, o, none⟩ := fun o => World.cell?_setCell_far w1 a _ u ha
  refine ⟨by simpa using h0, ⟨?_, ?_, ?_, ?_, ?_, ?_, ?_, ?_, ?_, ?_, ?_⟩, fun o => by rw [World.frozen?_setCell]; exact hf o⟩
  all_goals rw [hc]; assumption
/-- all cells are written -/
theorem BoxP.put {n : Nat} {o0 : Ph} {w1 : World} (h : BoxP n o0 w1) (o : Ph) :
    BoxP n o (World.setCell (World.setCell (World.setCell (World.setCell (World.setCell (World.setCell (World.setCell (World.setCell (World.setCell (World.setCell (World.setCell w1 ⟨n, 0, none⟩ (.int .i64 o.d.id)) ⟨n, 1, none⟩ (.string o.d.f)) ⟨n, 2, none⟩ (.string o.d.t)) ⟨n, 3, none⟩ (.int .i64 o.d.gen)) ⟨n, 4, none⟩ (o.sm)) ⟨n, 5, none⟩ (.int .i64 o.d.next)) ⟨n, 6, none⟩ (o.sp)) ⟨n, 7, none⟩ (o.sz)) ⟨n, 8, none⟩ (.bool o.fr)) ⟨n, 9, none⟩ (o.se)) ⟨n, 10, none⟩ (.int .i64 o.al)) := by
  obtain ⟨h0, ⟨h1, h2, h3, h4, h5, h6, h7, h8, h9, h10, h11⟩, hf⟩ := h
  refine ⟨by simpa using h0, ⟨?_, ?_, ?_, ?_, ?_, ?_, ?_, ?_, ?_, ?_, ?_⟩, fun o => by simp [World.frozen?_setCell, hf]⟩
  all_goals simp [go_sem, h1, h2, h3, h4, h5, h6, h7, h8, h9, h10, h11]
/-- lengths that a program can hold -/
structure FitP (o : Ph) : Prop where
  f : o.d.f.size ≤ 140737488355328
  t : o.d.t.size ≤ 140737488355328
  ms : o.d.ms.length ≤ 140737488355328
  ps : o.ps.length ≤ 140737488355328
  each : ∀ p ∈ o.ps, p.1.size ≤ 140737488355328 ∧ p.2.size ≤ 140737488355328
  zs : o.zs.length ≤ 140737488355328
  fit : ∀ z ∈ o.zs, z.1.rep.val.size ≤ 140737488355328 ∧ z.1.rep.ps.length ≤ 140737488355328 ∧ ∀ p ∈ z.1.rep.ps, p.1.size ≤ 140737488355328 ∧ p.2.size ≤ 140737488355328
  ea : o.ea.length ≤ 140737488355328
end Go.Proofs.YtlcobgpgggegdaaGreatDoor.Dp

namespace Go.Proofs.YtlcobgpgggegdaaGreatDoor.Dp
open Go.RowKit Bnd
open Go.Proofs.YtlcobgpgggegdaaGreatDoor.Ds (De SM OwnI infoI)
open Go.Proofs.YtlcobgpgggegdaaGreatDoor.Ss (Ses Zs ses SZ PZ NoP OwnZ ArgZ)
open Go.Proofs.YtlcobgpgggegdaaGreatDoor.Od (Pr SP OwnP ArgP)

/-- a slice of numbers that comes in, or is handed on -/
inductive ArgI (w : World) : Value → List Int → Prop
  | nil : ArgI w (.slice none 0 0) []
  | some (b o : Nat) (c : Nat) (ns : List Int) (h : SI w w.heap.size (.slice (some ⟨b, o, none⟩) ns.length c) ns) : ArgI w (.slice (some ⟨b, o, none⟩) ns.length c) ns
  | empty (a : Addr) (c : Nat) : ArgI w (.slice (some a) 0 c) []
theorem ArgI.si {w : World} {v : Value} {ns : List Int} (h : ArgI w v ns) : SI w w.heap.size v ns := by
  cases h with
  | nil => exact SI.nil _ _
  | some b o c ns h => exact h
  | empty a c => exact ⟨_, c, rfl, fun h => absurd h (by simp)⟩
theorem ArgI.keep {w w' : World} {v : Value} {ns : List Int} (h : ArgI w v ns) (hb : Below w.heap.size w w') : ArgI w' v ns := by
  cases h with
  | nil => exact .nil
  | some b o c ns h => exact .some b o c ns ((h.below hb).more hb.size)
  | empty a c => exact .empty a c
theorem ArgI.of_own {w : World} {base : Nat} {v : Value} {ns : List Int} (h : OwnI w base v ns) : ArgI w v ns := by
  have hs := SI.of_own h
  rcases h.2 with ⟨rfl, h0⟩ | ⟨g, cap, cur, rfl, _⟩
  · obtain rfl : ns = [] := List.length_eq_zero_iff.1 h0
    exact .nil
  · exact .some g 0 cap ns hs
theorem wpList_append_ints {w : World} {ops : Array Oper} {rest : List Oper} {o : Oper} {a : Act} {Q : Exit → Act → World → Prop} (hw : Region.wanted o (yielded ops a.tmps) = true) (s x : Operand)
    (ho : o.op = .call { callee := .builtin .append, args := #[s, x], argTypes := #[36, 36] }) (base : Nat) (v : Value) (xs : List Int) (hs : a.eval s = v)
    (hown : OwnI w base v xs) (hbase : base ≤ w.heap.size) (y : Value) (ys : List Int) (hx : a.eval x = y) (hy : ArgI w y ys) (hlen : xs.length + ys.length ≤ 10000000)
    (h : ∀ v' w', OwnI w' base v' (xs ++ ys) → Below base w w' → w.grownBy w' v.ownBlock → wpList Tryz.prog ops Q rest (a.put o.dst v') w') : wpList Tryz.prog ops Q (o :: rest) a w := by
  obtain ⟨i0, hi, hz0, hz1, hz2⟩ := info_parts infoI
  refine wpList_step fun K hK => ?_
  rw [if_pos hw]
  cases hy with
  | nil =>
    have hrun := run_append_owned_none (P := Tryz.prog) (w := w) base 36 o.type 2 i0 1 Tryz.underlying36 hi v xs.length (xs.map (Value.int .i64)) hown
    unfold Oper.wp
    simp [execOp, ho, resolve, invoke, builtin, hs, hx, hrun, Result.andThen]
    exact hK _ _ (h v w (by simpa using hown) (Below.refl _ w) ⟨rfl, rfl, rfl, Nat.le_refl _, fun _ _ _ => rfl⟩)
  | some b o' c ys hn =>
    refine wp_append_own w s x 36 ho base 2 i0 (.int .i64 0) 1 8 Tryz.underlying36 hi hz0 hz1 hz2 rfl (by decide) v xs.length (xs.map (Value.int .i64)) hs hown ⟨b, o', none⟩ ys.length c (ys.map (Value.int .i64)) hx (by simp) ?_ (fun u h => by simp at h; obtain ⟨n, _, rfl⟩ := h; rfl) (by unfold maxLen; omega) (by omega) hbase ?_
    · intro j u hj
      rw [List.getElem?_map] at hj
      have hjl : j < ys.length := by
        rcases Nat.lt_or_ge j ys.length with h | h
        · exact h
        · rw [List.getElem?_eq_none h] at hj; cases hj
      rw [List.getElem?_eq_getElem hjl] at hj
      obtain rfl := Option.some.inj hj
      obtain ⟨b', o2, e, _, q⟩ := hn.at_ hjl
      cases e
      rw [Addr.add_lit]
      exact q
    · intro v' w' h2 h3 _
      exact hK _ _ (h v' w' (by show w'.ownsRow _ _ _ _ _ _; rw [List.length_append, List.map_append]; exact h2) ((Below.refl _ w).grown h3 hbase (fun k hk => (hown.lt k hk).1)) h3)
  | empty ad c =>
    refine wp_append_own w s x 36 ho base 2 i0 (.int .i64 0) 1 8 Tryz.underlying36 hi hz0 hz1 hz2 rfl (by decide) v xs.length (xs.map (Value.int .i64)) hs hown ad 0 c [] hx rfl (fun j u h => by simp at h) (fun u h => by simp at h) (by unfold maxLen; simp at hlen; omega) (by simp at hlen; omega) hbase ?_
    intro v' w' h2 h3 _
    exact hK _ _ (h v' w' (by show w'.ownsRow _ _ _ _ _ _; simpa using h2) ((Below.refl _ w).grown h3 hbase (fun k hk => (hown.lt k hk).1)) h3)
end Go.Proofs.YtlcobgpgggegdaaGreatDoor.Dp

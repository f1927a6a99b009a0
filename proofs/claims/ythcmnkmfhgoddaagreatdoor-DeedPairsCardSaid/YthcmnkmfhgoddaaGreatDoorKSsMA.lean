/-
  The program's both, Merge (a range over a function) and Note. Conditions: sessions without pairs, at most 5,000 of each.
  Join, the program's. Conditions: plots that may be, of at most 100,000 pairs each.
-/
import Derived.RangeFuncNested
import Derived.RangeFuncBox
import Derived.Test.YthcmnkmfhgoddaaGreatDoorKSsBFA
import Derived.Test.YthcmnkmfhgoddaaGreatDoorKSsSRA
import Derived.Test.YthcmnkmfhgoddaaGreatDoorKDpTA
import Derived.Test.YthcmnkmfhgoddaaGreatDoorKSCatA
import Derived.Test.YthcmnkmfhgoddaaGreatDoorKDpSA
import Derived.Test.YthcmnkmfhgoddaaGreatDoorKDsJoin
namespace Go.Proofs.YthcmnkmfhgoddaaGreatDoor.Ss
open Go.RowKit Bnd
open Go.Proofs.YthcmnkmfhgoddaaGreatDoor.Od (Rep SP ArgP OwnP rv BoxR)
open Ds (Ix vals_snoc vals_length run_append2)
attribute [local go_sem] Oper.semAt_some
set_option maxHeartbeats 1000000 in
theorem both_in (n : Nat) (A D : Option Addr) (na nb ca cb : Nat) (w : World) :
  CallsIn Fence.wide n Tryz.prog 138 #[.slice A na ca, .slice D nb cb] w fun e w' => e = .returned (.func (.func 211) #[] #[.pointer (some ⟨w.heap.size, 0, none⟩), .pointer (some ⟨w.heap.size + 1, 0, none⟩)]) /\ w' = (w.alloc (.cells #[.slice A na ca] 35)).alloc (.cells #[.slice D nb cb] 35) := by
 refine callsIn_of_wp Tryz.func138 rfl trivial ?_ rfl
 simp only [Tryz.ntmps138, List.size_toArray, List.length_cons, List.length_nil, Nat.reduceAdd, Nat.reduceSub, Array.replicate_succ, Array.replicate_zero, List.push_toArray, List.append_toArray, List.nil_append, List.cons_append]
 gi_wp2
 go_ret
 exact ⟨rfl, rfl⟩
theorem both_stops (n : Nat) (hn : 1 <= n) (N B0 B1 m : Nat) (za zb : List Zs) (A D : Option Addr) (ca cb : Nat) (hm : Hid (m = (bothG fS za zb).length)) (hla : za.length <= 10000) (hlb : zb.length <= 10000) (hpa : NoP za) (hpb : NoP zb) (w : World) (hN : N <= w.heap.size) (h0 : B0 < w.heap.size) (h1 : B1 < w.heap.size)
  (hva : SZ w N (.slice A za.length ca) za) (hvb : SZ w N (.slice D zb.length cb) zb) (hc0 : w.cell? ⟨B0, 0, none⟩ = some (.slice A za.length ca)) (hc1 : w.cell? ⟨B1, 0, none⟩ = some (.slice D zb.length cb)) :
  SeqStopsK Fence.wide n Tryz.prog 211 #[.pointer (some ⟨B0, 0, none⟩), .pointer (some ⟨B1, 0, none⟩)] (fun x : Ix m => #[sv (nthZ za zb x.1)]) (KpB N B0 B1) (fun ys => ys.map (·.1) = List.range m) (fun pre => ∃ k, k <= m /\ pre.map (·.1) = List.range k) m w := fun l J Jx W hW hJd _ hY h00 =>
 both1_in n hn l N B0 B1 m za zb A D ca cb hm hla hlb hpa hpb J Jx hY W (by have := hW.size; omega) (by have := hW.size; omega) (by have := hW.size; omega) (hva.keep fun p hp => hW.cell (by omega)) (hvb.keep fun p hp => hW.cell (by omega)) ((hW.cell (p := ⟨B0, 0, none⟩) h0).trans hc0) ((hW.cell (p := ⟨B1, 0, none⟩) h1).trans hc1) hJd h00
theorem Below.boxed {N B : Nat} {W W' : World} {t : TypeId} {v : Value} (hb : Below N W W') (hB : B < N) (h : Boxed W B t v) : Boxed W' B t v := (hb.block B hB).trans h
theorem keepsOthers_of {W W' : World} (hb : Below W.heap.size W W') : KeepsOthers W W' := ⟨hb.size, fun k _ hk _ => (hb.block k (Array.getElem?_eq_some_iff.1 hk).1).trans hk⟩
theorem box_app {wy w1 : World} {tmp : Obj} {v : Value} {xs : List Zs} {B N : Nat} {t : TypeId} {u : Value} (h : Boxed wy B t u) (hrow : OwnZ wy N v xs) (k3 : (wy.alloc tmp).grownBy w1 v.ownBlock) (ht : t ≠ 89) (Lb : Nat) (hne : B ≠ Lb) (x : Value) : Boxed (w1.setCell ⟨Lb, 0, none⟩ x) B t u :=
 ((Boxed.alloc h tmp).kept k3 (Boxed.not_row h ht hrow)).other hne x
structure RM (N Lb : Nat) (W : World) (v : Value) (xs : List Zs) (s : Ses) (L : Nat -> Bool) (u : Nat -> Value) (wx : World) : Prop where
 a : L 3 = false -> Below W.heap.size W wx
 b : L 3 = true -> L 4 = false -> ∃ (wy : World) (A' : Option Addr) (c' : Nat), Below W.heap.size W wy /\ u 3 = .slice (some ⟨wy.heap.size, 0, none⟩) 1 1 /\ wx = wy.alloc (.cells #[.int .i64 s.client, .int .i64 s.seq, .int .i64 s.rep.code, .int .i64 s.rep.err, .bool s.rep.has, .string s.rep.val, .slice A' 0 c'] 89)
 c : L 4 = true -> L 5 = false -> ∃ (zs2 : List Zs) (wy : World) (tmp : Obj), OwnZ wx N (u 4) zs2 /\ ses zs2 = ses xs ++ [s] /\ NoP zs2 /\ Below W.heap.size W wy /\ (wy.alloc tmp).grownBy wx v.ownBlock
 d : L 5 = true -> ∃ (w9 : World) (zs2 : List Zs) (wy : World) (tmp : Obj), OwnZ w9 N (u 4) zs2 /\ ses zs2 = ses xs ++ [s] /\ NoP zs2 /\ Below W.heap.size W wy /\ (wy.alloc tmp).grownBy w9 v.ownBlock /\ wx = w9.setCell ⟨Lb, 0, none⟩ (u 4)
structure MI (w : World) (m : Nat) (za zb : List Zs) (pre : List (Ix m)) (W : World) : Prop where
 row : ∃ zs', (∃ v, Boxed W (w.heap.size + 1 + 1) 35 v /\ W.ownsRow (w.heap.size + 1 + 1) 89 7 v zs'.length (zcells zs') /\ True) /\ ses zs' = pre.map (fun x => (nthZ za zb x.1).1) /\ NoP zs' /\ pre.length <= 64
 r0 : Boxed W w.heap.size 35 (.slice none 0 0)
 r1 : Boxed W (w.heap.size + 1) 48 (.int .i64 0)
 low : Below w.heap.size w W
theorem mi_own (w : World) (m : Nat) (za zb : List Zs) (B : Nat) (hB : w.heap.size <= B) : OwnFrom B (fun (pre : List (Ix m)) W => MI w m za zb pre W) := by
 intro pre X Y row h hg hr
 have hr2 : ∀ r, row = some r -> ∃ o : Obj, X.heap[r]? = some o /\ o.isCells = false := fun r e => (hr r e).2
 obtain ⟨⟨zs', h1, h2⟩, h3, h4, h5⟩ := h
 exact ⟨⟨zs', holdsRow_own (w.heap.size + 1 + 1) (w.heap.size + 1 + 1) 35 89 7 (fun q : List Zs => q.length) (fun q => zcells q) (fun _ _ => True) zs' X Y row h1 hg hr2, h2⟩,
  boxed_own w.heap.size _ (fun _ : Unit => .slice none 0 0) () X Y row h3 hg hr2, boxed_own (w.heap.size + 1) _ (fun _ : Unit => .int .i64 0) () X Y row h4 hg hr2, ownFrom_below (β := Unit) (Nat.le_refl _) hB () X Y row h5 hg hr⟩
theorem boxS_own (n : Nat) (z : Zs) : Own (fun (_ : Unit) W => BoxS n z W) := by
 rintro _ X Y row ⟨h0, ⟨c1, c2, c3, c4, c5, c6, c7⟩, hf⟩ hg hr
 exact ⟨Nat.lt_of_lt_of_le h0 hg.size, ⟨cell_kept c1 hg hr, cell_kept c2 hg hr, cell_kept c3 hg hr, cell_kept c4 hg hr, cell_kept c5 hg hr, cell_kept c6 hg hr, cell_kept c7 hg hr⟩, fun o => by
  obtain ⟨ob, ho, hc⟩ := cells_of_cell c1
  have e : Y.frozen? ⟨n, o, none⟩ = X.frozen? ⟨n, o, none⟩ := World.frozen?_of_block (grownBy_keeps_cells hg hr ho hc)
  rw [e]
  exact hf o⟩
theorem nthZ_form {za zb : List Zs} (hpa : NoP za) (hpb : NoP zb) (k : Nat) : ∃ s S g, nthZ za zb k = (s, .slice S 0 g) := by
 unfold nthZ
 rw [List.getD_eq_getElem?_getD]
 rcases Nat.lt_or_ge k (bothG fS za zb).length with h | h
 ·rw [List.getElem?_eq_getElem h]
  have hz := List.getElem_mem h
  rcases bothG_mem fS _ za zb (Nat.le_refl _) _ hz with h' | h'
  ·obtain ⟨_, A, c, e⟩ := hpa _ h'
   exact ⟨_, A, c, Prod.ext rfl e⟩
  ·obtain ⟨_, A, c, e⟩ := hpb _ h'
   exact ⟨_, A, c, Prod.ext rfl e⟩
 ·rw [List.getElem?_eq_none h]
  exact ⟨_, _, _, rfl⟩
theorem fits_nop {za zb : List Zs} {m k : Nat} {s : Ses} {S : Value} (hp : NoP (bothG fS za zb)) (hs : nthZ za zb k = (s, S)) (hm : m = (bothG fS za zb).length) (hk : k < m) : s.rep.ps = [] := by
 unfold nthZ at hs
 rw [List.getD_eq_getElem?_getD, List.getElem?_eq_getElem (by omega)] at hs
 have := (hp _ (List.getElem_mem (by omega : k < (bothG fS za zb).length))).1
 have e : (bothG fS za zb)[k] = (s, S) := hs
 rw [e] at this
 exact this
theorem mergeS_of {za zb : List Zs} {m : Nat} (hm : m = (bothG fS za zb).length) : mergeS (ses za) (ses zb) = if m <= 64 then (ses (bothG fS za zb), 0) else ([], 6) := by
 have e : bothS (ses za) (ses zb) = ses (bothG fS za zb) := (bothG_map fS (fun s => s) (fun z : Zs => z.1) (fun _ => rfl) _ za zb (Nat.le_refl _)).symm
 unfold mergeS
 rw [e, hm]
 simp
set_option maxRecDepth 100000 in
set_option maxHeartbeats 8000000 in
theorem merge_in (A D : Option Addr) (ca cb : Nat) (za zb : List Zs) (w : World) (hva : SZ w w.heap.size (.slice A za.length ca) za) (hvb : SZ w w.heap.size (.slice D zb.length cb) zb) (hpa : NoP za) (hpb : NoP zb) (hla : za.length <= 5000) (hlb : zb.length <= 5000) :
  CallsIn Fence.wide 5 Tryz.prog 66 #[.slice A za.length ca, .slice D zb.length cb] w fun e w' => NoteOut w (mergeS (ses za) (ses zb)) e w' := by
 obtain ⟨m, hm⟩ : ∃ m, m = (bothG fS za zb).length := ⟨_, rfl⟩
 have HANS := Lib.hid (mergeS_of hm)
 have hmr : m <= 10000 := by rw [hm]; have := bothG_length fS _ za zb (Nat.le_refl _); omega
 have HM := Lib.hid hm
 have HPA : NoP (bothG fS za zb) := fun z hz => by
  rcases bothG_mem fS _ za zb (Nat.le_refl _) z hz with h | h
  ·exact hpa z h
  ·exact hpb z h
 clear hm
 obtain ⟨na, hna⟩ : ∃ n, za.length = n := ⟨_, rfl⟩
 obtain ⟨nb, hnb⟩ : ∃ n, zb.length = n := ⟨_, rfl⟩
 have HNA := Lib.hid hna
 have HNB := Lib.hid hnb
 have HVA := Lib.hid hva
 have HVB := Lib.hid hvb
 rw [hna] at hla ⊢
 rw [hnb] at hlb ⊢
 clear hna hnb hva hvb
 refine callsIn_of_wp_marks Tryz.func66 rfl trivial ?_ rfl
 simp only [Tryz.ntmps66, List.size_toArray, List.length_cons, List.length_nil, Nat.reduceAdd, Nat.reduceSub, Array.replicate_succ, Array.replicate_zero, List.push_toArray, List.append_toArray, List.nil_append, List.cons_append]
 gi_wp2_with (refine ⟨trivial, ?_⟩; gi_at_call 138; refine (both_in 4 _ _ _ _ _ _ _).mono ?_; rintro e w2 ⟨rfl, rfl⟩)
 obtain ⟨W0, hW0⟩ : ∃ W0, ((((w.alloc (.cells #[.slice none 0 0] 35)).alloc (.cells #[.int .i64 0] 48)).alloc (.cells #[.slice none 0 0] 35)).alloc (.cells #[.slice A na ca] 35)).alloc (.cells #[.slice D nb cb] 35) = W0 := ⟨_, rfl⟩
 have b0 : Boxed W0 w.heap.size 35 (.slice none 0 0) := hW0 ▸ ((((Boxed.new w 35 (.slice none 0 0)).alloc _).alloc _).alloc _).alloc _
 have b1 : Boxed W0 (w.heap.size + 1) 48 (.int .i64 0) := by
  have := (((Boxed.new (w.alloc (.cells #[.slice none 0 0] 35)) 48 (.int .i64 0)).alloc (.cells #[.slice none 0 0] 35)).alloc (.cells #[.slice A na ca] 35)).alloc (.cells #[.slice D nb cb] 35)
  rw [World.size_alloc] at this; exact hW0 ▸ this
 have b2 : Boxed W0 (w.heap.size + 1 + 1) 35 (.slice none 0 0) := by
  have := ((Boxed.new ((w.alloc (.cells #[.slice none 0 0] 35)).alloc (.cells #[.int .i64 0] 48)) 35 (.slice none 0 0)).alloc (.cells #[.slice A na ca] 35)).alloc (.cells #[.slice D nb cb] 35)
  rw [World.size_alloc, World.size_alloc] at this; exact hW0 ▸ this
 have b3 : Boxed W0 (w.heap.size + 1 + 1 + 1) 35 (.slice A na ca) := by
  have := (Boxed.new (((w.alloc (.cells #[.slice none 0 0] 35)).alloc (.cells #[.int .i64 0] 48)).alloc (.cells #[.slice none 0 0] 35)) 35 (.slice A na ca)).alloc (.cells #[.slice D nb cb] 35)
  rw [World.size_alloc, World.size_alloc, World.size_alloc] at this; exact hW0 ▸ this
 have b4 : Boxed W0 (w.heap.size + 1 + 1 + 1 + 1) 35 (.slice D nb cb) := by
  have := Boxed.new ((((w.alloc (.cells #[.slice none 0 0] 35)).alloc (.cells #[.int .i64 0] 48)).alloc (.cells #[.slice none 0 0] 35)).alloc (.cells #[.slice A na ca] 35)) 35 (.slice D nb cb)
  rw [World.size_alloc, World.size_alloc, World.size_alloc, World.size_alloc] at this; exact hW0 ▸ this
 have hB0 : Below w.heap.size w W0 := hW0 ▸ (by exact bex0)
 have hz0 : W0.heap.size = w.heap.size + 5 := by rw [<- hW0]; simp
 have hsa : SZ W0 w.heap.size (.slice A za.length ca) za := HVA.out.keep fun p hp => hB0.cell hp
 have hsb : SZ W0 w.heap.size (.slice D zb.length cb) zb := HVB.out.keep fun p hp => hB0.cell hp
 have c3 := b3.cell
 have c4 := b4.cell
 rw [<- HNA.out] at c3
 rw [<- HNB.out] at c4
 rw [hW0]
 clear hW0
 refine wpIn_rangeFunc_ownH (w0 := W0) (N := m) rfl (by omega) (gf := 211) (lb := #[.pointer (some ⟨w.heap.size + 1 + 1 + 1, 0, none⟩), .pointer (some ⟨w.heap.size + 1 + 1 + 1 + 1, 0, none⟩)]) rfl trivial (enters_of Tryz.func211 (by kernel_rfl) rfl)
  (both_stops 4 (by omega) w.heap.size (w.heap.size + 1 + 1 + 1) (w.heap.size + 1 + 1 + 1 + 1) m za zb A D ca cb HM (by have := HNA.out; omega) (by have := HNB.out; omega) hpa hpb W0 (by omega) (by omega) (by omega) hsa hsb c3 c4) kpB_t (kpB_b (by omega) (by omega) (by omega)) (Below.refl _ _) (fun _ => rfl)
  (fun pre W => MI w m za zb pre W /\ (Boxed W (w.heap.size + 1 + 1 + 1) 35 (.slice A na ca) /\ Boxed W (w.heap.size + 1 + 1 + 1 + 1) 35 (.slice D nb cb)))
  (fun c pre W => c = .ret /\ pre.length = 65 /\ (W.cell? ⟨w.heap.size, 0, none⟩ = some (.slice none 0 0) /\ W.cell? ⟨w.heap.size + 1, 0, none⟩ = some (.int .i64 6)) /\ Below w.heap.size w W)
  (OwnFrom.and (mi_own w m za zb _ (by omega)) (OwnFrom.and (Own.from (boxed_own _ _ (fun _ => _)) _) (Own.from (boxed_own _ _ (fun _ => _)) _)))
  (fun c s X Y row hs hg hr => ⟨hs.1, hs.2.1, ⟨cell_kept hs.2.2.1.1 hg (fun r e => (hr r e).2), cell_kept hs.2.2.1.2 hg (fun r e => (hr r e).2)⟩, (ownFrom_below (β := Unit) (n₀ := w.heap.size) (B := W0.heap.size) (w₀ := w) (Nat.le_refl _) (by omega)) () X Y row hs.2.2.2 hg hr⟩)
  ⟨⟨⟨[], ⟨_, b2, World.ownsRow_nil _ _ _ _, trivial⟩, by simp, (fun z hz => by cases hz), by simp⟩, b0, b1, hB0⟩, b3, b4⟩
  (fun x a' W => ∃ Bx, w.heap.size + 1 + 1 + 1 + 1 < Bx /\ BoxS Bx (nthZ za zb x.1) W /\ a' = { tmps := #[.slice A na ca, .slice D nb cb, undef, undef, .pointer (some ⟨w.heap.size, 0, none⟩), .pointer (some ⟨w.heap.size + 1, 0, none⟩), .pointer (some ⟨w.heap.size + 1 + 1, 0, none⟩), .pointer (some ⟨Bx, 0, none⟩), .slice A na ca, .slice D nb cb, .func (.func 211) #[] #[.pointer (some ⟨w.heap.size + 1 + 1 + 1, 0, none⟩), .pointer (some ⟨w.heap.size + 1 + 1 + 1 + 1, 0, none⟩)], sv (nthZ za zb x.1), undef, undef, undef, undef, undef, undef, undef, undef, undef], defers := [] })
  (fun x a' _ X Y row hs hg hr => by obtain ⟨Bx, h1, h2, h3⟩ := hs; exact ⟨Bx, h1, boxS_own Bx _ () X Y row h2 hg (fun r e => (hr r e).2), h3⟩)
  ?assign ?body ?done ?stop
 case assign =>
  rintro l pre x W K ⟨hI, hx3, hx4⟩ hK
  have hzW := hI.low.size
  have hlW := hx4.lt
  obtain ⟨s, S, g, hs⟩ := nthZ_form hpa hpb x.1
  simp only [hs] at hK ⊢
  unfold sv
  have HS := Lib.hid hs
  clear hs
  gi_wp2
  refine hK _ _ ((KeepsOthers.alloc _ _).from _) (kpB_of ((Below.refl _ W).alloc (Nat.le_refl _) _) (by omega) (by omega) (by omega)) ⟨(mi_own w m za zb _ (Nat.le_refl _)).alloc (s := pre) _ hI, hx3.alloc _, hx4.alloc _⟩ ⟨W.heap.size, by omega, BoxS.new W (s, .slice S 0 g), rfl⟩
 case body =>
  rintro l pre x a' W hl ⟨r, hr⟩ ⟨⟨⟨zs', ⟨v, hv, hrow, _⟩, hses, hnp, h64⟩, hr0, hr1, hlow⟩, hx3, hx4⟩ ⟨Bx, hBx, bX, rfl⟩ hlt
  obtain ⟨s, S, g, hs⟩ := nthZ_form hpa hpb x.1
  obtain ⟨k, hk⟩ : ∃ k, pre.length = k := ⟨_, rfl⟩
  rw [hk] at h64 hlt
  have hkz : zs'.length = k := by
   have h1 := congrArg List.length hses
   simp only [List.length_map] at h1
   omega
  have HK := Lib.hid hk
  have HKZ := Lib.hid hkz
  have HS := Lib.hid hs
  have HSES := Lib.hid hses
  rw [hs] at bX
  simp only [hs]
  unfold sv
  obtain ⟨A7, c7, rfl⟩ : ∃ A7 c7, v = .slice A7 k c7 := by
   rcases hrow.2 with ⟨rfl, h0⟩ | ⟨g', cap', cur', rfl, _⟩
   ·exact ⟨none, 0, by rw [<- hkz, h0]⟩
   ·exact ⟨_, _, by rw [hkz]⟩
  have hzW := hlow.size
  have hlW := hx4.lt
  have hvl := hv.lt
  have d2 := hv.cell
  have f2 := hv.frozen
  have d0 := hr0.cell
  have f0 := hr0.frozen
  have d1 := hr1.cell
  have f1 := hr1.frozen
  have hrow' : OwnZ W (w.heap.size + 1 + 1) (.slice A7 k c7) zs' := hrow
  clear hkz hk hs hses hrow
  by_cases h : k = 64
  ·have e1 : ((k : Int) == 64) = true := by subst h; rfl
   have e2 : ((k : Int) = 64) = True := eq_true (by omega)
   have HH := Lib.hid h
   clear h bX
   gi_wp2
   exact ⟨((KeepsOthers.setCell _ _ _).trans (KeepsOthers.setCell _ _ _)).from _, rfl, by rw [List.length_append, HK.out, HH.out]; rfl, ⟨by simp [go_sem, d0], by simp [go_sem, d1]⟩,
    (hlow.setCell (p := ⟨w.heap.size, 0, none⟩) (Nat.le_refl _) _).setCell (p := ⟨w.heap.size + 1, 0, none⟩) (show w.heap.size <= w.heap.size + 1 by omega) _⟩
  ·have e1 : ((k : Int) == 64) = false := beq_false_of_ne (by omega)
   have e2 : ((k : Int) = 64) = False := eq_false (by omega)
   have hk63 : k <= 63 := by omega
   clear h
   gi_wp2
   have hOW : OwnZ W.drew (w.heap.size + 1 + 1) (.slice A7 k c7) zs' := hrow'
   refine St.wpIn_region_calls (RM (w.heap.size + 1 + 1) (w.heap.size + 1 + 1) W (.slice A7 k c7) zs' s) (fun _ x => ∃ A' c', x = sv (s, .slice A' 0 c')) (fun _ => trivial) (fun h => by cases h) (fun _ _ _ _ h => CallsIn.inRound l (callsIn_wide.2 h)) (by kernel_rfl) (by kernel_rfl) (by kernel_rfl) (by kernel_rfl)
    ⟨fun _ => (Below.refl _ W).drew, fun h => (by cases h), fun h => (by cases h), fun h => (by cases h)⟩ ?_
   apply St.mix_give
   ·rfl
   ·intro L u' wx hS hcl hrd hag
    have h4 := St.not_yet hcl hrd 40 4 (by kernel_rfl)
    have y2 : wx.cell? ⟨w.heap.size + 1 + 1, 0, none⟩ = some (.slice A7 k c7) := by
     cases h3 : L 3 with
     | false => exact ((hS.a h3).cell (p := ⟨w.heap.size + 1 + 1, 0, none⟩) hvl).trans d2
     | true =>
      obtain ⟨wy, A', c', hby, _, rfl⟩ := hS.b h3 h4
      exact (World.cell?_alloc_lt wy _ ⟨w.heap.size + 1 + 1, 0, none⟩ (Nat.lt_of_lt_of_le hvl hby.size)).trans ((hby.cell (p := ⟨w.heap.size + 1 + 1, 0, none⟩) hvl).trans d2)
    go_simp
    try with_reducible rfl
   ·exact fun L u' wx hS => ⟨hS.a, hS.b, hS.c, hS.d⟩
   simp only [Act.put, St.pu]
   apply St.mix_give
   ·rfl
   ·intro L u' wx hS hcl hrd hag
    have h3 := St.not_yet hcl hrd 40 3 (by kernel_rfl)
    obtain ⟨x_0, ⟨x_1, x_2, x_3, x_4, x_5, x_6, x_7⟩, x_8⟩ := bX.keep (hS.a h3)
    go_simp
    try with_reducible rfl
   ·exact fun L u' wx hS => ⟨hS.a, hS.b, hS.c, hS.d⟩
   simp only [Act.put, St.pu]
   refine St.mix_call (f := 139) (args := #[sv (s, .slice S 0 g)]) rfl ?_ ?_ ?_
   ·intro wx
    go_simp
    try with_reducible rfl
   ·intro L u' wx hS hcl hrd hag
    have h3 := St.not_yet hcl hrd 40 3 (by kernel_rfl)
    have h4 := St.not_yet hcl hrd 40 4 (by kernel_rfl)
    have h5 := St.not_yet hcl hrd 40 5 (by kernel_rfl)
    refine (own0 s S g wx).mono ?_
    rintro e w' ⟨⟨A', c', rfl⟩, hb'⟩
    exact ⟨_, rfl, ⟨A', c', rfl⟩, ⟨fun _ => (hS.a h3).trans (hb'.mono (hS.a h3).size), fun h => (by rw [show St.mark L 2 3 = L 3 from rfl, h3] at h; cases h), fun h => (by rw [show St.mark L 2 4 = L 4 from rfl, h4] at h; cases h), fun h => (by rw [show St.mark L 2 5 = L 5 from rfl, h5] at h; cases h)⟩⟩
   rintro _ ⟨A', c', rfl⟩
   simp only [Act.put, St.pu]
   refine St.mix_free (fun z => ∃ n : Nat, z = .slice (some ⟨n, 0, none⟩) 1 1) rfl ?_ ?_
   ·intro L u' wx hS hcl hrd hag
    have h4 := St.not_yet hcl hrd 40 4 (by kernel_rfl)
    have h5 := St.not_yet hcl hrd 40 5 (by kernel_rfl)
    have hb := hS.a hrd.1
    refine ⟨_, _, ⟨wx.heap.size, rfl⟩, ?_, ⟨fun h => (by simp [St.mark] at h), fun _ _ => ⟨wx, A', c', hb, rfl, rfl⟩, fun h => (by rw [show St.mark L 3 4 = L 4 from rfl, h4] at h; cases h), fun h => (by rw [show St.mark L 3 5 = L 5 from rfl, h5] at h; cases h)⟩⟩
    unfold sv
    go_simp
    try with_reducible rfl
   rintro _ ⟨n3, rfl⟩
   simp only [Act.put, St.pu]
   refine St.mix_free (fun z => ∃ A c, z = .slice A (k + 1) c) rfl ?_ ?_
   ·intro L u' wx hS hcl hrd hag
    have h3 := St.before_ready hcl hrd 40 3 (by kernel_rfl)
    have h5 := St.not_yet hcl hrd 40 5 (by kernel_rfl)
    obtain ⟨wy, A2, c2, hby, hu3, rfl⟩ := hS.b h3 hrd.1
    have hu : u' 3 = .slice (some ⟨n3, 0, none⟩) 1 1 := hag 40 3 (by kernel_rfl)
    obtain rfl : n3 = wy.heap.size := by
     rw [hu] at hu3
     injection hu3 with hu3 _ _
     injection hu3 with hu3
     injection hu3 with hu3 _ _
    have hOy : OwnZ wy (w.heap.size + 1 + 1) (.slice A7 k c7) zs' := ownZ_keep hrow' hby
    have hOa := ownZ_alloc hOy (.cells #[.int .i64 s.client, .int .i64 s.seq, .int .i64 s.rep.code, .int .i64 s.rep.err, .bool s.rep.has, .string s.rep.val, .slice A2 0 c2] 89)
    have hSZ := (argZ_one wy (s, .slice A2 0 c2)).sz
    have hyz := hby.size
    obtain ⟨v', w', k1, k2, k3, k4⟩ := run_append_zs hOa (by simp; omega) (b := wy.heap.size) (o' := 0) (c := 1) (ys := [(s, .slice A2 0 c2)]) hSZ (fun z hz => by simp at hz; subst hz; rfl) (by have := HKZ.out; simp; omega)
    refine ⟨v', w', ?_, run_append2 rfl rfl rfl k1, ⟨fun h => (by rw [show St.mark L 4 3 = L 3 from rfl, h3] at h; cases h), fun _ h => (by simp [St.mark] at h), fun _ _ => ⟨zs' ++ [(s, Value.slice A2 0 c2)], wy, _, k2, by simp [ses], ?_, hby, k4⟩, fun h => (by rw [show St.mark L 4 5 = L 5 from rfl, h5] at h; cases h)⟩⟩
    ·obtain ⟨A', c', hv'⟩ := (SZ.of_own k2).form
     have := HKZ.out
     rw [List.length_append, this] at hv'
     exact ⟨A', c', hv'⟩
    ·intro z hz
     rcases List.mem_append.1 hz with hz | hz
     ·exact hnp z hz
     ·simp at hz
      subst hz
      exact ⟨fits_nop HPA HS.out HM.out x.2, A2, c2, rfl⟩
   rintro y9 ⟨A9, c9, rfl⟩
   simp only [Act.put, St.pu]
   refine St.mix_skip rfl ?_ ?_
   ·intro L u' wx hS hcl hrd hag
    have h4 := St.before_ready hcl hrd 40 4 (by kernel_rfl)
    have h3 := St.before_ready hcl hrd 40 3 (by kernel_rfl)
    obtain ⟨zs2, wy, tmp, k2, k5, k6, hby, k4⟩ := hS.c h4 hrd.1
    have hu : u' 4 = .slice A9 (k + 1) c9 := hag 40 4 (by kernel_rfl)
    have hvy := Below.boxed hby hvl hv
    have hv1 := (Boxed.alloc hvy tmp).kept k4 (Boxed.not_row hvy (by decide) (ownZ_keep hrow' hby))
    have c1 := hv1.cell
    have f1 := hv1.frozen
    refine ⟨wx.setCell ⟨w.heap.size + 1 + 1, 0, none⟩ (u' 4), ?_, ⟨fun h => (by rw [show St.mark L 5 3 = L 3 from rfl, h3] at h; cases h), fun _ h => (by rw [show St.mark L 5 4 = L 4 from rfl, h4] at h; cases h), fun _ h => (by simp [St.mark] at h), fun _ => ⟨wx, zs2, wy, tmp, k2, k5, k6, hby, k4, rfl⟩⟩⟩
    rw [hu]
    go_simp
    try with_reducible rfl
   simp only [Act.put]
   refine St.mix_last ?_
   intro L wx hS hall
   obtain ⟨w9, zs2, wy, tmp, k2, k5, k6, hby, k4, hwx⟩ := hS.d (hall 5 (by decide))
   have k2' : OwnZ w9 (w.heap.size + 1 + 1) (.slice A9 (k + 1) c9) zs2 := k2
   have hwx' : wx = w9.setCell ⟨w.heap.size + 1 + 1, 0, none⟩ (.slice A9 (k + 1) c9) := hwx
   subst hwx'
   have hvy := Below.boxed hby hvl hv
   have hry : OwnZ wy (w.heap.size + 1 + 1) (.slice A7 k c7) zs' := ownZ_keep hrow' hby
   have hyz := hby.size
   obtain ⟨hv1, hv2, hr2, hk2, hb2⟩ := Boxed.appended hvy (by decide) hry (by omega) (Nat.le_refl _) k2' k4
   have q0 := box_app (Below.boxed hby (by omega) hr0) hry k4 (by decide) (w.heap.size + 1 + 1) (by omega) (.slice A9 (k + 1) c9)
   have q1 := box_app (Below.boxed hby (by omega) hr1) hry k4 (by decide) (w.heap.size + 1 + 1) (by omega) (.slice A9 (k + 1) c9)
   have q3 := box_app (Below.boxed hby (by omega) hx3) hry k4 (by decide) (w.heap.size + 1 + 1) (by omega) (.slice A9 (k + 1) c9)
   have q4 := box_app (Below.boxed hby (by omega) hx4) hry k4 (by decide) (w.heap.size + 1 + 1) (by omega) (.slice A9 (k + 1) c9)
   clear hS hall k2 k4 hwx hv1 hvy hry
   gi_wp2
   have hbW : Below (w.heap.size + 1 + 1) W (w9.setCell ⟨w.heap.size + 1 + 1, 0, none⟩ (.slice A9 (k + 1) c9)) := (hby.mono (by omega)).trans hb2
   refine ⟨((keepsOthers_of hby).trans hk2).from _, ⟨fun q hq => hbW.cell (Nat.lt_of_lt_of_le hq (by omega)), q3.cell.trans hx3.cell.symm, q4.cell.trans hx4.cell.symm, hbW.size⟩, ⟨⟨zs2, ⟨_, hv2, ?_, trivial⟩, ?_, k6, ?_⟩, q0, q1, hlow.trans (hbW.mono (by omega))⟩, q3, q4⟩
   ·have h1 := congrArg List.length k5
    have h2 := HKZ.out
    simp only [List.length_map, List.length_append, List.length_singleton] at h1
    rw [show zs2.length = k + 1 by omega]
    rw [show zs2.length = k + 1 by omega] at hr2
    exact hr2
   ·rw [k5, HSES.out, List.map_append, List.map_singleton, HS.out]
   ·rw [List.length_append, HK.out]; simp; omega
 case done =>
  rintro D ys W hD hys ⟨⟨⟨zs', ⟨v, hv, hrow, _⟩, hses, hnp, h64⟩, hr0, hr1, hlow⟩, hx3, hx4⟩ hK
  have hyl : ys.length = m := vals_length hys
  have hzl : zs'.length = m := by
   have h1 := congrArg List.length hses
   simp only [List.length_map] at h1
   omega
  have hrow' : OwnZ W (w.heap.size + 1 + 1) v zs' := hrow
  have hres : ses zs' = ses (bothG fS za zb) := by
   rw [hses, show ys.map (fun x => (nthZ za zb x.1).1) = (ys.map (·.1)).map (fun k => (nthZ za zb k).1) by rw [List.map_map]; rfl, hys]
   refine List.ext_getElem (by have := HM.out; simp; omega) fun i h1 h2 => ?_
   simp only [List.length_map, List.length_range] at h1 h2
   simp only [List.getElem_map, List.getElem_range]
   unfold nthZ
   rw [List.getD_eq_getElem?_getD, List.getElem?_eq_getElem h2]
   rfl
  have hle : m <= 64 := by omega
  have hans : mergeS (ses za) (ses zb) = (ses (bothG fS za zb), 0) := by rw [HANS.out, if_pos hle]
  obtain ⟨A7, c7, rfl⟩ : ∃ A7 c7, v = .slice A7 zs'.length c7 := by
   rcases hrow.2 with ⟨rfl, h0⟩ | ⟨g', cap', cur', rfl, _⟩
   ·exact ⟨none, 0, by rw [h0]⟩
   ·exact ⟨_, _, rfl⟩
  have d2 := hv.cell
  have d0 := hr0.cell
  have f0 := hr0.frozen
  have d1 := hr1.cell
  have f1 := hr1.frozen
  have hzW := hlow.size
  have hlW := hx4.lt
  have HRES := Lib.hid hres
  have HAN := Lib.hid hans
  have HROW := Lib.hid hrow'
  clear hres hans hzl hyl hses hrow hrow'
  gi_wp2
  have hK' := ((KeepsOthers.setCell W ⟨w.heap.size, 0, none⟩ (.slice A7 zs'.length c7)).trans (KeepsOthers.setCell _ ⟨w.heap.size + 1, 0, none⟩ (.int .i64 0))).same D _ hK rfl
  refine ⟨by simp, .inl ⟨_, _, rfl, run_takeDeferred hK', ?_⟩⟩
  have hc5 := cell_kept (show ((W.setCell ⟨w.heap.size, 0, none⟩ (.slice A7 zs'.length c7)).setCell ⟨w.heap.size + 1, 0, none⟩ (.int .i64 0)).cell? ⟨w.heap.size, 0, none⟩ = some (.slice A7 zs'.length c7) by simp [go_sem, d0]) (grownBy_putObj' _ D (.deferred none)) (fun r e => by cases e; exact ⟨_, hK', rfl⟩)
  have hc6 := cell_kept (show ((W.setCell ⟨w.heap.size, 0, none⟩ (.slice A7 zs'.length c7)).setCell ⟨w.heap.size + 1, 0, none⟩ (.int .i64 0)).cell? ⟨w.heap.size + 1, 0, none⟩ = some (.int .i64 0) by simp [go_sem, d1]) (grownBy_putObj' _ D (.deferred none)) (fun r e => by cases e; exact ⟨_, hK', rfl⟩)
  have hrow2 : OwnZ ((W.setCell ⟨w.heap.size, 0, none⟩ (.slice A7 zs'.length c7)).setCell ⟨w.heap.size + 1, 0, none⟩ (.int .i64 0)) (w.heap.size + 1 + 1) (.slice A7 zs'.length c7) zs' :=
   ownZ_set (ownZ_set HROW.out (show w.heap.size < w.heap.size + 1 + 1 by omega) _) (show w.heap.size + 1 < w.heap.size + 1 + 1 by omega) _
  refine ⟨.tuple #[.slice A7 zs'.length c7, .int .i64 0], by simp [results, Tryz.results66, go_sem, hc5, hc6], ?_⟩
  rw [HAN.out]
  exact ⟨_, zs', rfl, HRES.out, ArgZ.of_own (ownsRow_putObj hrow2 _ hK' rfl), hnp, ((hlow.setCell (p := ⟨w.heap.size, 0, none⟩) (Nat.le_refl _) _).setCell (p := ⟨w.heap.size + 1, 0, none⟩) (show w.heap.size <= w.heap.size + 1 by omega) _).trans (belowK_b (w := w) (Nat.le_refl _) _ D _ _ (by omega) hK' rfl rfl)⟩
 case stop =>
  rintro D c pre W hD ⟨k, hk, hpk⟩ ⟨rfl, h65, ⟨r0, r1⟩, hB⟩ hK
  have hle : ¬ m <= 64 := by
   have := vals_length hpk
   omega
  have hans : mergeS (ses za) (ses zb) = ([], 6) := by rw [HANS.out, if_neg hle]
  have HAN := Lib.hid hans
  clear hans hpk
  gi_wp2
  refine ⟨by simp, .inl ⟨_, _, rfl, run_takeDeferred hK, ?_⟩⟩
  have hc5 := cell_kept r0 (grownBy_putObj' _ D (.deferred none)) (fun r e => by cases e; exact ⟨_, hK, rfl⟩)
  have hc6 := cell_kept r1 (grownBy_putObj' _ D (.deferred none)) (fun r e => by cases e; exact ⟨_, hK, rfl⟩)
  refine ⟨.tuple #[.slice none 0 0, .int .i64 6], by simp [results, Tryz.results66, go_sem, hc5, hc6], ?_⟩
  rw [HAN.out]
  exact NoteOut.none (hB.trans (belowK_b (w := w) (Nat.le_refl _) W D _ _ (by omega) hK rfl rfl))
theorem merge_any (va vb : Value) (za zb : List Zs) (w : World) (hva : SZ w w.heap.size va za) (hvb : SZ w w.heap.size vb zb) (hpa : NoP za) (hpb : NoP zb) (hla : za.length <= 5000) (hlb : zb.length <= 5000) :
  Calls Tryz.prog 66 #[va, vb] w fun e w' => NoteOut w (mergeS (ses za) (ses zb)) e w' := by
 obtain ⟨A, ca, rfl⟩ := hva.form
 obtain ⟨D, cb, rfl⟩ := hvb.form
 exact callsIn_wide.1 (merge_in A D ca cb za zb w hva hvb hpa hpb hla hlb)
end Go.Proofs.YthcmnkmfhgoddaaGreatDoor.Ss

namespace Go.Proofs.YthcmnkmfhgoddaaGreatDoor.Dp
open Go.RowKit Bnd
open Go.Proofs.YthcmnkmfhgoddaaGreatDoor.Ds (De SM OwnI OwnM ArgM ptr ptr_inj dv mergeD BoxD isD)
open Go.Proofs.YthcmnkmfhgoddaaGreatDoor.Ss (Ses Zs ses SZ PZ NoP OwnZ ArgZ mergeS)
open Go.Proofs.YthcmnkmfhgoddaaGreatDoor.Od (Pr SP OwnP ArgP)
structure R16 (W : World) (t : Nat) (va vb : Value) (ps : List Pr) (O : Value -> Ph) (L : Nat -> Bool) (u : Nat -> Value) (wx : World) : Prop where
 a : L 12 = false -> Below W.heap.size W wx
 g : L 5 = true -> L 6 = false -> ∃ g : Nat, u 5 = .slice (some ⟨g, 0, none⟩) 2 2 /\ g < wx.heap.size /\ wx.cell? ⟨g, 0, none⟩ = some va /\ wx.cell? ⟨g, 1, none⟩ = some vb
 p : L 6 = true -> L 12 = false -> OwnP wx W.heap.size (u 6) ps
 z : L 12 = true -> ∃ wy, Below W.heap.size W wy /\ OwnP wy W.heap.size (u 6) ps /\ wx = putW wy t (O (u 6))
theorem joined_eat {l m : List Int} {n : Int} (hl : l.Pairwise (· < ·)) : onceE (sorted (l ++ m ++ [n])) = eatsE (eatE n l) m :=
 once_eats hl (sorted_le _) fun _ => mem_sorted
theorem isP_rise {p : Pl} (h : isP p = true) : p.ea.Pairwise (· < ·) := ((goE_iff _ _).1 ((isP_iff p).1 h).2.2.2.1.2).2
set_option maxHeartbeats 16000000 in
set_option maxRecDepth 100000 in
theorem join_any (l r : Ph) (w : World) (hl : HA w l) (hr : HA w r) (il : isP l.pl = true) (ir : isP r.pl = true) (nl : l.ps.length <= 100000) (nr : r.ps.length <= 100000) :
  Calls Tryz.prog 24 #[qv l, qv r] w (GaveP w (joinP l.pl r.pl)) := by
 have fl : Ds.Fit l.d := isD_fit (isP_d il)
 have fr : Ds.Fit r.d := isD_fit (isP_d ir)
 have zl : l.zs.length <= 64 := by have := isS_len (isP_s il); simpa [Ph.pl] using this
 have zr : r.zs.length <= 64 := by have := isS_len (isP_s ir); simpa [Ph.pl] using this
 have el : l.ea.length <= 200 := isP_ea il
 have er : r.ea.length <= 200 := isP_ea ir
 have hup : l.ea.Pairwise (· < ·) := isP_rise il
 clear il ir
 obtain ⟨d, sm, ps, sp, zs, sz, fz, ea, se, al⟩ := l
 obtain ⟨d', sm', ps', sp', zs', sz', fz', ea', se', al'⟩ := r
 obtain ⟨h1, h2, h3, h4, h5, h6, h7⟩ := hl
 obtain ⟨k1, k2, k3, k4, k5, k6, k7⟩ := hr
 simp only at h1 h2 h3 h4 h5 h6 h7 k1 k2 k3 k4 k5 k6 k7 fl fr zl zr el er hup nl nr
 obtain ⟨fA, fa, rfl⟩ := h1.form
 obtain ⟨fB, fb, rfl⟩ := h2.sm.form
 obtain ⟨fC, fc, rfl⟩ := h3.form
 obtain ⟨fD, fd, rfl⟩ := h5.si.form
 obtain ⟨gA, ga, rfl⟩ := k1.form
 obtain ⟨gB, gb, rfl⟩ := k2.sm.form
 obtain ⟨gC, gc, rfl⟩ := k3.form
 obtain ⟨gD, gd, rfl⟩ := k5.si.form
 obtain ⟨o, ho⟩ : ∃ o : Ph, o = ⟨d, .slice fA d.ms.length fa, ps, .slice fB ps.length fb, zs, .slice fC zs.length fc, fz, ea, .slice fD ea.length fd, al⟩ := ⟨_, rfl⟩
 obtain ⟨p, hp⟩ : ∃ p : Ph, p = ⟨d', .slice gA d'.ms.length ga, ps', .slice gB ps'.length gb, zs', .slice gC zs'.length gc, fz', ea', .slice gD ea'.length gd, al'⟩ := ⟨_, rfl⟩
 obtain ⟨W1, hW1⟩ : ∃ W1, ((w.alloc (.cells #[.int .i64 d.id, .string d.f, .string d.t, .int .i64 d.gen, .slice fA d.ms.length fa, .int .i64 d.next, .slice fB ps.length fb, .slice fC zs.length fc, .bool fz, .slice fD ea.length fd, .int .i64 al] 38)).alloc (.cells #[.int .i64 d'.id, .string d'.f, .string d'.t, .int .i64 d'.gen, .slice gA d'.ms.length ga, .int .i64 d'.next, .slice gB ps'.length gb, .slice gC zs'.length gc, .bool fz', .slice gD ea'.length gd, .int .i64 al'] 38)).alloc (.cells #[.int .i64 0, .string ⟨#[]⟩, .string ⟨#[]⟩, .int .i64 0, .slice none 0 0, .int .i64 0, .slice none 0 0, .slice none 0 0, .bool false, .slice none 0 0, .int .i64 0] 38) = W1 := ⟨_, rfl⟩
 have B0 : BoxP w.heap.size ⟨d, .slice fA d.ms.length fa, ps, .slice fB ps.length fb, zs, .slice fC zs.length fc, fz, ea, .slice fD ea.length fd, al⟩ W1 := hW1 ▸ ((BoxP.new w ⟨d, .slice fA d.ms.length fa, ps, .slice fB ps.length fb, zs, .slice fC zs.length fc, fz, ea, .slice fD ea.length fd, al⟩).alloc _).alloc _
 have B1 : BoxP (w.heap.size + 1) ⟨d', .slice gA d'.ms.length ga, ps', .slice gB ps'.length gb, zs', .slice gC zs'.length gc, fz', ea', .slice gD ea'.length gd, al'⟩ W1 := by
  have := BoxP.new (w.alloc (.cells #[.int .i64 d.id, .string d.f, .string d.t, .int .i64 d.gen, .slice fA d.ms.length fa, .int .i64 d.next, .slice fB ps.length fb, .slice fC zs.length fc, .bool fz, .slice fD ea.length fd, .int .i64 al] 38)) ⟨d', .slice gA d'.ms.length ga, ps', .slice gB ps'.length gb, zs', .slice gC zs'.length gc, fz', ea', .slice gD ea'.length gd, al'⟩
  rw [World.size_alloc] at this
  rw [<- hW1]
  exact this.alloc _
 have Z2 : BoxP (w.heap.size + 2) Ph.zero W1 := by
  have := BoxP.zero ((w.alloc (.cells #[.int .i64 d.id, .string d.f, .string d.t, .int .i64 d.gen, .slice fA d.ms.length fa, .int .i64 d.next, .slice fB ps.length fb, .slice fC zs.length fc, .bool fz, .slice fD ea.length fd, .int .i64 al] 38)).alloc (.cells #[.int .i64 d'.id, .string d'.f, .string d'.t, .int .i64 d'.gen, .slice gA d'.ms.length ga, .int .i64 d'.next, .slice gB ps'.length gb, .slice gC zs'.length gc, .bool fz', .slice gD ea'.length gd, .int .i64 al'] 38))
  rw [hW1, World.size_alloc, World.size_alloc] at this
  exact this
 have ZE1 : ZE (w.heap.size + 2) W1 := by
  have := ZE.new ((w.alloc (.cells #[.int .i64 d.id, .string d.f, .string d.t, .int .i64 d.gen, .slice fA d.ms.length fa, .int .i64 d.next, .slice fB ps.length fb, .slice fC zs.length fc, .bool fz, .slice fD ea.length fd, .int .i64 al] 38)).alloc (.cells #[.int .i64 d'.id, .string d'.f, .string d'.t, .int .i64 d'.gen, .slice gA d'.ms.length ga, .int .i64 d'.next, .slice gB ps'.length gb, .slice gC zs'.length gc, .bool fz', .slice gD ea'.length gd, .int .i64 al'] 38))
  rw [World.size_alloc, World.size_alloc] at this
  rw [<- hW1]
  exact this
 have hz1 : W1.heap.size = w.heap.size + 3 := by rw [<- hW1]; simp
 have hbw1 : Below w.heap.size w W1 := by rw [<- hW1]; exact (((Below.refl _ w).alloc (Nat.le_refl _) _).alloc (by simp) _).alloc (by simp; omega) _
 have bad : ∀ Wx, BoxP (w.heap.size + 2) Ph.zero Wx -> Below w.heap.size w Wx -> BoxP (w.heap.size + 2) Ph.zero (putW Wx (w.heap.size + 2) Ph.zero) /\ Below w.heap.size w (putW Wx (w.heap.size + 2) Ph.zero) := fun Wx h hb => ⟨BoxP.put h Ph.zero, putW_below Ph.zero (by omega) hb⟩
 rw [<- ho, <- hp]
 have HO := Lib.hid ho
 have HP := Lib.hid hp
 have one : ∀ q : Int, (fz = true \/ fz = false /\ fz' = false) -> joinP o.pl p.pl = (Pl.zero, 90) := by
  intro q h
  unfold joinP
  rw [if_pos]
  rw [ho, hp]
  rcases h with h | h
  ·exact .inl h
  ·exact .inr h.2
 cases fz with
 | true =>
  rw [one 0 (.inl rfl)]
  obtain ⟨F, FB⟩ := bad W1 Z2 hbw1
  rw [ho, hp]
  clear one bad hup
  go_enter Tryz.func24, Tryz.ntmps24
  obtain ⟨p_0, ⟨p_1, p_2, p_3, p_4, p_5, p_6, p_7, p_8, p_9, p_10, p_11⟩, p_12⟩ := _root_.id B0
  obtain ⟨q_0, ⟨q_1, q_2, q_3, q_4, q_5, q_6, q_7, q_8, q_9, q_10, q_11⟩, q_12⟩ := _root_.id Z2
  go_wp2_with (rw [hW1])
  exact bodyPost_ret (res_BoxP_tmp Tryz.results24 rfl rfl F) rfl (GaveP.zero FB)
 | false =>
  cases fz' with
  | false =>
   rw [one 0 (.inr ⟨rfl, rfl⟩)]
   obtain ⟨F, FB⟩ := bad W1 Z2 hbw1
   rw [ho, hp]
   clear one bad hup
   go_enter Tryz.func24, Tryz.ntmps24
   obtain ⟨p_0, ⟨p_1, p_2, p_3, p_4, p_5, p_6, p_7, p_8, p_9, p_10, p_11⟩, p_12⟩ := _root_.id B0
   obtain ⟨r_0, ⟨r_1, r_2, r_3, r_4, r_5, r_6, r_7, r_8, r_9, r_10, r_11⟩, r_12⟩ := _root_.id B1
   obtain ⟨q_0, ⟨q_1, q_2, q_3, q_4, q_5, q_6, q_7, q_8, q_9, q_10, q_11⟩, q_12⟩ := _root_.id Z2
   go_wp2_with (rw [hW1])
   exact bodyPost_ret (res_BoxP_tmp Tryz.results24 rfl rfl F) rfl (GaveP.zero FB)
  | true =>
   clear one
   obtain ⟨x, ed, hD⟩ : ∃ x ed, mergeD d d' = (x, ed) := ⟨_, _, rfl⟩
   obtain ⟨ss, es, hS⟩ : ∃ ss es, mergeS (ses zs) (ses zs') = (ss, es) := ⟨_, _, rfl⟩
   obtain ⟨E, hE⟩ : ∃ E, eatsE (eatE d'.id ea) ea' = E := ⟨_, rfl⟩
   have hj := joined_eat (m := ea') (n := d'.id) hup
   rw [hE] at hj
   obtain ⟨ans, hans⟩ : ∃ ans, joinP o.pl p.pl = ans := ⟨_, rfl⟩
   have hr : ans = if d'.id ∈ ea then (Pl.zero, 8) else if ed = 0 then if es = 0 then if E.length <= 200 then (⟨x, ps ++ ps', ss, false, E, al⟩, 0) else (Pl.zero, 6) else (Pl.zero, es) else (Pl.zero, ed) := by
    rw [<- hans, ho, hp, <- hE]
    unfold joinP
    rw [if_neg (by simp [Ph.pl])]
    simp only [Ph.pl, hD, hS]
   rw [hans]
   have HR := Lib.hid hr
   have HJ := Lib.hid hj
   have cc := contains_any (.slice fD ea.length fd) ea d'.id W1 (h5.keep hbw1).si (by omega)
   rw [ho, hp]
   clear hr hj hans hE hup
   go_enter Tryz.func24, Tryz.ntmps24
   obtain ⟨p_0, ⟨p_1, p_2, p_3, p_4, p_5, p_6, p_7, p_8, p_9, p_10, p_11⟩, p_12⟩ := _root_.id B0
   obtain ⟨r_0, ⟨r_1, r_2, r_3, r_4, r_5, r_6, r_7, r_8, r_9, r_10, r_11⟩, r_12⟩ := _root_.id B1
   go_wp2_with (rw [hW1])
   refine cc.mono ?_
   rintro e w2 ⟨rfl, rfl⟩
   by_cases hin : d'.id ∈ ea
   ·have hr := HR.out
    rw [if_pos hin] at hr
    have HR := Lib.hid hr
    obtain ⟨F, FB⟩ := bad w2 Z2 hbw1
    have hd : decide (d'.id ∈ ea) = true := by simpa using hin
    rw [hd]
    obtain ⟨q_0, ⟨q_1, q_2, q_3, q_4, q_5, q_6, q_7, q_8, q_9, q_10, q_11⟩, q_12⟩ := _root_.id Z2
    clear hr hin hd
    go_wp2_with fail
    exact bodyPost_ret (res_BoxP_tmp Tryz.results24 rfl rfl F) rfl (by rw [HR.out]; exact GaveP.zero FB)
   ·have hr := HR.out
    rw [if_neg hin] at hr
    have HR := Lib.hid hr
    have hd : decide (d'.id ∈ ea) = false := by simpa using hin
    rw [hd]
    have cm := Ds.merge_any d d' (.slice fA d.ms.length fa) (.slice gA d'.ms.length ga) w2 (h1.keep hbw1) (k1.keep hbw1) fl fr
    rw [hD] at cm
    clear hr hin hd cc
    go_wp2_with fail
    ((try clear p_0); (try clear p_1); (try clear p_2); (try clear p_3); (try clear p_4); (try clear p_5); (try clear p_6); (try clear p_7); (try clear p_8); (try clear p_9); (try clear p_10); (try clear p_11); (try clear p_12))
    ((try clear r_0); (try clear r_1); (try clear r_2); (try clear r_3); (try clear r_4); (try clear r_5); (try clear r_6); (try clear r_7); (try clear r_8); (try clear r_9); (try clear r_10); (try clear r_11); (try clear r_12))
    refine cm.mono ?_
    rintro e w3 ⟨s3, rfl, a3, b3⟩
    obtain ⟨hA, ha, rfl⟩ := a3.form
    obtain ⟨W4, hW4⟩ : ∃ W4, w3.alloc (.cells #[.int .i64 x.id, .string x.f, .string x.t, .int .i64 x.gen, .slice hA x.ms.length ha, .int .i64 x.next] 26) = W4 := ⟨_, rfl⟩
    have b4 : Below w3.heap.size w3 W4 := hW4 ▸ (Below.refl _ w3).alloc (Nat.le_refl _) _
    have X4 : BoxD w3.heap.size x (.slice hA x.ms.length ha) W4 := hW4 ▸ BoxD.new w3 x (.slice hA x.ms.length ha)
    have L4 := (B0.keep b3).keep b4
    have R4 := (B1.keep b3).keep b4
    have Z4 := (Z2.keep b3).keep b4
    have ZE4 := (ZE1.keep b3).keep b4
    have a4 := a3.keep b4
    have hz3 := b3.size
    have hz4 := b4.size
    have hb4 : Below w.heap.size w W4 := (hbw1.trans (b3.mono (by omega))).trans (b4.mono (by omega))
    by_cases hed : ed = 0
    rotate_left
    ·have hr := HR.out
     rw [if_neg hed] at hr
     have HR := Lib.hid hr
     obtain ⟨F, FB⟩ := bad W4 Z4 hb4
     have e1 : (ed == 0) = false := by simpa using hed
     have e2 : (ed != 0) = true := by simpa using hed
     have e3 : (ed = 0) = False := eq_false hed
     obtain ⟨q_0, ⟨q_1, q_2, q_3, q_4, q_5, q_6, q_7, q_8, q_9, q_10, q_11⟩, q_12⟩ := _root_.id Z4
     clear hr hed
     go_wp2_with (rw [hW4])
     exact bodyPost_ret (res_BoxP_tmp Tryz.results24 rfl rfl F) rfl (by rw [HR.out]; exact GaveP.zero FB)
    ·subst hed
     have hr := HR.out
     rw [if_pos rfl] at hr
     have HR := Lib.hid hr
     have cs := Ss.merge_any (.slice fC zs.length fc) (.slice gC zs'.length gc) zs zs' W4 (h3.keep hb4).sz (k3.keep hb4).sz h4 k4 (by omega) (by omega)
     rw [hS] at cs
     obtain ⟨p_0, ⟨p_1, p_2, p_3, p_4, p_5, p_6, p_7, p_8, p_9, p_10, p_11⟩, p_12⟩ := _root_.id L4
     obtain ⟨r_0, ⟨r_1, r_2, r_3, r_4, r_5, r_6, r_7, r_8, r_9, r_10, r_11⟩, r_12⟩ := _root_.id R4
     clear hr
     go_wp2_with (rw [hW4])
     ((try clear p_0); (try clear p_1); (try clear p_2); (try clear p_3); (try clear p_4); (try clear p_5); (try clear p_6); (try clear p_7); (try clear p_8); (try clear p_9); (try clear p_10); (try clear p_11); (try clear p_12))
     ((try clear r_0); (try clear r_1); (try clear r_2); (try clear r_3); (try clear r_4); (try clear r_5); (try clear r_6); (try clear r_7); (try clear r_8); (try clear r_9); (try clear r_10); (try clear r_11); (try clear r_12))
     refine cs.mono ?_
     rintro e w5 ⟨s5, zs2, rfl, hss, a5, n5, b5⟩
     obtain ⟨jC, jc, rfl⟩ := a5.form
     have L5 := L4.keep b5
     have R5 := R4.keep b5
     have Z5 := Z4.keep b5
     have ZE5 := ZE4.keep b5
     have X5 := X4.keep b5
     have a4' := a4.keep b5
     have hz5 := b5.size
     have hb5 : Below w.heap.size w w5 := hb4.trans (b5.mono (by omega))
     have HSS := Lib.hid hss
     clear cs cm hW4 hss
     by_cases hes : es = 0
     rotate_left
     ·have hr := HR.out
      rw [if_neg hes] at hr
      have HR := Lib.hid hr
      obtain ⟨F, FB⟩ := bad w5 Z5 hb5
      have e1 : (es == 0) = false := by simpa using hes
      have e2 : (es != 0) = true := by simpa using hes
      have e3 : (es = 0) = False := eq_false hes
      obtain ⟨q_0, ⟨q_1, q_2, q_3, q_4, q_5, q_6, q_7, q_8, q_9, q_10, q_11⟩, q_12⟩ := _root_.id Z5
      clear hr hes
      go_wp2_with fail
      exact bodyPost_ret (res_BoxP_tmp Tryz.results24 rfl rfl F) rfl (by rw [HR.out]; exact GaveP.zero FB)
     ·subst hes
      have hr := HR.out
      rw [if_pos rfl] at hr
      have HR := Lib.hid hr
      obtain ⟨W6, hW6⟩ : ∃ W6, (w5.alloc (.cells #[.int .i64 d'.id] 2)).alloc (.cells #[.slice fD ea.length fd, .slice gD ea'.length gd, .slice (some ⟨w5.heap.size, 0, none⟩) 1 1] 36) = W6 := ⟨_, rfl⟩
      have b6 : Below w5.heap.size w5 W6 := hW6 ▸ ((Below.refl _ w5).alloc (Nat.le_refl _) _).alloc (by simp) _
      have hb6 : Below w.heap.size w W6 := hb5.trans (b6.mono (by omega))
      have hz6 : W6.heap.size = w5.heap.size + 2 := by rw [<- hW6]; simp
      have g0 : W6.cell? ⟨w5.heap.size + 1, 0, none⟩ = some (.slice fD ea.length fd) := by rw [<- hW6]; simp [go_sem]
      have g1 : W6.cell? ⟨w5.heap.size + 1, 1, none⟩ = some (.slice gD ea'.length gd) := by rw [<- hW6]; simp [go_sem]
      have g2 : W6.cell? ⟨w5.heap.size + 1, 2, none⟩ = some (.slice (some ⟨w5.heap.size, 0, none⟩) 1 1) := by rw [<- hW6]; simp [go_sem]
      have q1 : ArgI W6 (.slice (some ⟨w5.heap.size, 0, none⟩) 1 1) [d'.id] := hW6 ▸ (argI_one w5 d'.id).keep ((Below.refl _ _).alloc (Nat.le_refl _) _)
      have ce := concatI_any (w5.heap.size + 1) _ _ _ ea ea' [d'.id] W6 g0 g1 g2 (by omega) (h5.keep hb6) (k5.keep hb6) q1 (by omega) (by omega) (by simp)
      obtain ⟨X7, hX7⟩ : ∃ X, ea ++ ea' ++ [d'.id] = X := ⟨_, rfl⟩
      have hlen : X7.length <= 1000000 := by rw [<- hX7, List.length_append, List.length_append, List.length_singleton]; omega
      have hpos : 0 < X7.length := by rw [<- hX7, List.length_append, List.length_singleton]; omega
      have hj := HJ.out
      rw [hX7] at ce hj
      obtain ⟨S8, hS8⟩ : ∃ S, sorted X7 = S := ⟨_, rfl⟩
      have hl8 : S8.length = X7.length := by rw [<- hS8]; exact List.length_mergeSort _
      rw [hS8] at hj
      have HJ := Lib.hid hj
      have HL8 := Lib.hid hl8
      have HS8 := Lib.hid hS8
      clear hX7 hj hl8 hS8
      obtain ⟨p_0, ⟨p_1, p_2, p_3, p_4, p_5, p_6, p_7, p_8, p_9, p_10, p_11⟩, p_12⟩ := _root_.id L5
      obtain ⟨r_0, ⟨r_1, r_2, r_3, r_4, r_5, r_6, r_7, r_8, r_9, r_10, r_11⟩, r_12⟩ := _root_.id R5
      clear hr
      go_wp2_with (rw [hW6])
      ((try clear p_0); (try clear p_1); (try clear p_2); (try clear p_3); (try clear p_4); (try clear p_5); (try clear p_6); (try clear p_7); (try clear p_8); (try clear p_9); (try clear p_10); (try clear p_11); (try clear p_12))
      ((try clear r_0); (try clear r_1); (try clear r_2); (try clear r_3); (try clear r_4); (try clear r_5); (try clear r_6); (try clear r_7); (try clear r_8); (try clear r_9); (try clear r_10); (try clear r_11); (try clear r_12))
      refine ce.mono ?_
      rintro e w7 ⟨v7, rfl, O7, b7⟩
      have hz7 := b7.size
      obtain ⟨yA, ya, rfl⟩ := (SI.of_own O7).form
      have ct := sort_any _ _ w7 W6.heap.size O7 hpos hz7 hlen
      rw [HS8.out] at ct
      have HLN := Lib.hid hlen
      have HPS := Lib.hid hpos
      have b57 : Below w5.heap.size w5 w7 := b6.trans (b7.mono (by omega))
      clear ce hW6 g0 g1 g2 q1 hlen hpos
      go_wp2_with fail
      refine ct.mono ?_
      rintro e w8 ⟨rfl, O8, b8⟩
      have hz8 := b8.size
      have b58 : Below w5.heap.size w5 w8 := b57.trans (b8.mono (by omega))
      have cp := compact_any _ S8 w8 W6.heap.size O8 (by rw [HL8.out]; exact HPS.out) (by omega) (by rw [HL8.out]; exact HLN.out)
      rw [HJ.out] at cp
      clear ct O7 O8
      go_wp2_with fail
      refine cp.mono ?_
      rintro e w9 ⟨v9, rfl, O9, b9⟩
      obtain ⟨qD, qd, rfl⟩ := (SI.of_own O9).form
      have hz9 := b9.size
      have b59 : Below w5.heap.size w5 w9 := b58.trans (b9.mono (by omega))
      have L9 := L5.keep b59
      have R9 := R5.keep b59
      have Z9 := Z5.keep b59
      have ZE9 := ZE5.keep b59
      have X9 := X5.keep b59
      have hb9 : Below w.heap.size w w9 := hb5.trans (b59.mono (by omega))
      clear cp b57 b58 b7 b8 b9
      by_cases hel : E.length <= 200
      rotate_left
      ·have hr := HR.out
       rw [if_neg hel] at hr
       have HR := Lib.hid hr
       obtain ⟨F, FB⟩ := bad w9 Z9 hb9
       have e1 : ((E.length : Int) > 200) = True := eq_true (by omega)
       have e2 : (200 < (E.length : Int)) = True := eq_true (by omega)
       obtain ⟨q_0, ⟨q_1, q_2, q_3, q_4, q_5, q_6, q_7, q_8, q_9, q_10, q_11⟩, q_12⟩ := _root_.id Z9
       clear hr hel
       go_wp2_with fail
       exact bodyPost_ret (res_BoxP_tmp Tryz.results24 rfl rfl F) rfl (by rw [HR.out]; exact GaveP.zero FB)
      ·have hr := HR.out
       rw [if_pos hel] at hr
       have HR := Lib.hid hr
       have e1 : ((E.length : Int) > 200) = False := eq_false (by omega)
       have e2 : (200 < (E.length : Int)) = False := eq_false (by omega)
       have a49 := a4'.keep b59
       have a59 := a5.keep b59
       have cq := fun (g : Nat) wx (hb : Below w9.heap.size w9 wx) (g0 : wx.cell? ⟨g, 0, none⟩ = some (.slice fB ps.length fb)) (g1 : wx.cell? ⟨g, 1, none⟩ = some (.slice gB ps'.length gb)) (hg : g < wx.heap.size) => concatP_any g _ _ ps ps' wx g0 g1 hg (h2.keep (hb9.trans (hb.mono (by omega)))) (k2.keep (hb9.trans (hb.mono (by omega)))) nl nr
       have hbl := fun wx (hb : Below w9.heap.size w9 wx) => L9.keep hb
       have hbr := fun wx (hb : Below w9.heap.size w9 wx) => R9.keep hb
       have hbx := fun wx (hb : Below w9.heap.size w9 wx) => X9.keep hb
       clear hr hel L4 R4 Z4 L5 R5 Z5 X4 X5 a3 a4 B0 B1 Z2 ZE1 ZE4 ZE5 b3 b4 b5 b6 hb4 hb6 hbw1 h1 h2 h3 k1 k2 k3 h5 k5 bad hW1 HJ HLN HPS HL8 HS8 nl nr fl fr zl zr el er h4 k4 h6 h7 k6 k7
       go_wp2_with fail
       refine St.wp_region_mixed (R16 w9 (w.heap.size + 2) (.slice fB ps.length fb) (.slice gB ps'.length gb) (ps ++ ps') (fun v => ⟨x, .slice hA x.ms.length ha, ps ++ ps', v, zs2, .slice jC zs2.length jc, false, E, .slice qD E.length qd, al⟩)) (fun i z => match i with | 6 => ∃ A n c, z = .slice A n c | _ => False) (by kernel_rfl) (by kernel_rfl) (by kernel_rfl) ⟨fun _ => (Below.refl _ _).drew, fun h => (by cases h), fun h => (by cases h), fun h => (by cases h)⟩ ?_
       iterate 5
        (apply St.mix_give
         ·rfl
         ·intro L u' wx hS hcl hrd hag
          have hb := hS.a (St.not_yet hcl hrd 40 12 (by kernel_rfl))
          obtain ⟨j0, ⟨j1, j2, j3, j4, j5, j6, j7, j8, j9, j10, j11⟩, j12⟩ := hbl wx hb
          obtain ⟨m0, ⟨m1, m2, m3, m4, m5, m6, m7, m8, m9, m10, m11⟩, m12⟩ := hbr wx hb
          obtain ⟨x0, ⟨x1, x2, x3, x4, x5, x6⟩, x7⟩ := hbx wx hb
          go_simp
          try with_reducible rfl
         ·exact fun L u' wx hS => ⟨hS.a, hS.g, hS.p, hS.z⟩
         simp only [Act.put, St.pu])
       refine St.mix_free (fun z => ∃ g, z = .slice (some ⟨g, 0, none⟩) 2 2) rfl ?_ ?_
       ·intro L u' wx hS hcl hrd hag
        have n12 := St.not_yet hcl hrd 40 12 (by kernel_rfl)
        have n6 := St.not_yet hcl hrd 40 6 (by kernel_rfl)
        have hb := hS.a n12
        refine ⟨_, _, ⟨wx.heap.size, rfl⟩, ?_, ⟨fun _ => hb.alloc hb.size (.cells #[.slice fB ps.length fb, .slice gB ps'.length gb] 34), fun _ _ => ⟨wx.heap.size, rfl, by simp, by simp [go_sem], by simp [go_sem]⟩, fun h' => ?_, fun h' => ?_⟩⟩
        rotate_left
        ·rw [show St.mark L 5 6 = L 6 from rfl, n6] at h'; cases h'
        ·rw [show St.mark L 5 12 = L 12 from rfl, n12] at h'; cases h'
        go_simp
        try with_reducible rfl
       rintro y5 ⟨g5, rfl⟩
       simp only [Act.put, St.pu]
       refine St.mix_call (f := 70) (args := #[.slice (some ⟨g5, 0, none⟩) 2 2]) rfl ?_ ?_ ?_
       ·intro wx
        go_simp
        try with_reducible rfl
       ·intro L u' wx hS hcl hrd hag
        have n12 := St.not_yet hcl hrd 40 12 (by kernel_rfl)
        have b5 := St.before_ready hcl hrd 40 5 (by kernel_rfl)
        have hb := hS.a n12
        obtain ⟨g, eg, hg, q0, q1⟩ := hS.g b5 hrd.1
        have eg' : u' 5 = .slice (some ⟨g5, 0, none⟩) 2 2 := hag 40 5 (by kernel_rfl)
        have : g = g5 := by
         rw [eg] at eg'
         injection eg' with e1
         injection e1 with e1
         injection e1
        subst this
        refine (cq g wx hb q0 q1 hg).mono ?_
        rintro e w' ⟨v, rfl, ho, hb'⟩
        obtain ⟨vA, vc, hv⟩ := (SP.of_own ho).form
        refine ⟨v, rfl, ⟨_, _, _, hv⟩, ⟨fun _ => hb.trans (hb'.mono hb.size), fun _ h' => (by simp [St.mark] at h'), fun _ _ => ownsRow_base ho hb.size, fun h' => ?_⟩⟩
        rw [show St.mark L 6 12 = L 12 from rfl, n12] at h'; cases h'
       rintro y6 ⟨vA, vn, vc, rfl⟩
       simp only [Act.put, St.pu]
       iterate 5
        (apply St.mix_give
         ·rfl
         ·intro L u' wx hS hcl hrd hag
          have hb := hS.a (St.not_yet hcl hrd 40 12 (by kernel_rfl))
          obtain ⟨j0, ⟨j1, j2, j3, j4, j5, j6, j7, j8, j9, j10, j11⟩, j12⟩ := hbl wx hb
          go_simp
          try with_reducible rfl
         ·exact fun L u' wx hS => ⟨hS.a, hS.g, hS.p, hS.z⟩
         simp only [Act.put, St.pu])
       refine St.mix_skip rfl ?_ ?_
       ·intro L u' wx hS hcl hrd hag
        have b6 := St.before_ready hcl hrd 40 6 (by kernel_rfl)
        have e6 : u' 6 = .slice vA vn vc := hag 40 6 (by kernel_rfl)
        have hb := hS.a hrd.1
        have hB := Z9.keep hb
        obtain ⟨j0, ⟨j1, j2, j3, j4, j5, j6, j7, j8, j9, j10, j11⟩, j12⟩ := _root_.id hB
        refine ⟨putW wx (w.heap.size + 2) ((fun v => ⟨x, .slice hA x.ms.length ha, ps ++ ps', v, zs2, .slice jC zs2.length jc, false, E, .slice qD E.length qd, al⟩) (.slice vA vn vc)), ?_, ⟨fun h' => (by simp [St.mark] at h'), fun _ h' => ?_, fun _ h' => (by simp [St.mark] at h'), fun _ => ⟨wx, hb, hS.p b6 hrd.1, ?_⟩⟩⟩
        ·unfold putW
         go_simp
         try with_reducible rfl
        ·rw [show St.mark L 12 6 = L 6 from rfl, b6] at h'; cases h'
        ·rw [show St.upd u' 12 undef 6 = u' 6 from rfl, e6]
       simp only [Act.put]
       apply St.mix_give
       ·rfl
       ·intro L u' wx hS hcl hrd hag
        go_simp
        try with_reducible rfl
       ·exact fun L u' wx hS => ⟨hS.a, hS.g, hS.p, hS.z⟩
       simp only [Act.put, St.pu]
       refine St.mix_last ?_
       intro L5 wx hS hall
       obtain ⟨wy, hby, hoy, hwx⟩ := hS.z (hall 12 (by decide))
       have hoy' : OwnP wy w9.heap.size (.slice vA vn vc) (ps ++ ps') := hoy
       have hwx' : wx = putW wy (w.heap.size + 2) ((fun v => ⟨x, .slice hA x.ms.length ha, ps ++ ps', v, zs2, .slice jC zs2.length jc, false, E, .slice qD E.length qd, al⟩) (.slice vA vn vc)) := hwx
       clear hS hall hoy hwx cq hbl hbr hbx
       have Zy := Z9.keep hby
       have ZEy := ZE9.keep hby
       have F := BoxP.put Zy ((fun v => ⟨x, .slice hA x.ms.length ha, ps ++ ps', v, zs2, .slice jC zs2.length jc, false, E, .slice qD E.length qd, al⟩) (.slice vA vn vc))
       have hw2 : w.heap.size + 2 < w9.heap.size := Z9.1
       have FA : HA wx ((fun v => ⟨x, .slice hA x.ms.length ha, ps ++ ps', v, zs2, .slice jC zs2.length jc, false, E, .slice qD E.length qd, al⟩) (.slice vA vn vc)) := by
        rw [hwx']
        exact ⟨argM_put (a49.keep hby) ZEy _, .of_own (putW_own _ hw2 hoy'), argZ_put (a59.keep hby) ZEy _, n5, .of_own (putW_own _ (by omega) (ownsRow_below O9 hby)), .own hoy', .own O9⟩
       have FB : Below w.heap.size w wx := by
        rw [hwx']
        exact putW_below _ (by omega) (hb9.trans (hby.mono (by omega)))
       have FC : BoxP (w.heap.size + 2) ((fun v => ⟨x, .slice hA x.ms.length ha, ps ++ ps', v, zs2, .slice jC zs2.length jc, false, E, .slice qD E.length qd, al⟩) (.slice vA vn vc)) wx := by rw [hwx']; exact F
       clear hwx' F Zy ZEy hoy' hby Z9 ZE9 O9 a49 a59
       go_wp2_with fail
       exact bodyPost_ret (res_BoxP_tmp Tryz.results24 rfl rfl FC) rfl (by
        rw [HR.out]
        exact ⟨_, rfl, by unfold Ph.pl; simp [HSS.out], FA, FB⟩)
end Go.Proofs.YthcmnkmfhgoddaaGreatDoor.Dp

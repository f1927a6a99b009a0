/-
  The program's later, and both: a closure that goes through two lists of sessions, for every loop's body that keeps its boxes. Conditions: sessions without pairs, at most 10,000 of each.
-/
import Derived.Test.YticikmkehobblaaDoorSsRows
import Derived.Test.YticikmkehobblaaDoorDsChunk
import Derived.Test.YticikmkehobblaaDoorRegA
namespace Go.Proofs.YticikmkehobblaaDoor.Ss
open Go.RowKit Bnd
open Go.Proofs.YticikmkehobblaaDoor.Od (Rep SP ArgP OwnP rv BoxR)
open Ds (Ix vals_snoc vals_length)
attribute [local go_sem] Oper.semAt_some

set_option maxHeartbeats 4000000 in
set_option maxRecDepth 100000 in
theorem later_any (s t : Ses) (sA tA : Option Addr) (sc tc : Nat) (w : World) :
    Calls Tryd.prog 43 #[sv (s, .slice sA 0 sc), sv (t, .slice tA 0 tc)] w fun e w' => e = .returned (sv (laterG (fun z : Zs => z.1) (s, .slice sA 0 sc) (t, .slice tA 0 tc))) ∧ Below w.heap.size w w' := by
  obtain ⟨W0, hW0⟩ : ∃ W0, ((w.alloc (.cells #[.int .i64 s.client, .int .i64 s.seq, .int .i64 s.rep.code, .int .i64 s.rep.err, .bool s.rep.has, .string s.rep.val, .slice sA 0 sc] 28)).alloc (.cells #[.int .i64 t.client, .int .i64 t.seq, .int .i64 t.rep.code, .int .i64 t.rep.err, .bool t.rep.has, .string t.rep.val, .slice tA 0 tc] 28)).alloc (.cells #[.int .i64 0, .int .i64 0, .int .i64 0, .int .i64 0, .bool false, .string ⟨#[]⟩, .slice none 0 0] 28) = W0 := ⟨_, rfl⟩
  have A0 : BoxS w.heap.size (s, .slice sA 0 sc) W0 := hW0 ▸ ((BoxS.new w (s, .slice sA 0 sc)).alloc _).alloc _
  have B0 : BoxS (w.heap.size + 1) (t, .slice tA 0 tc) W0 := by
    have := (BoxS.new (w.alloc (.cells #[.int .i64 s.client, .int .i64 s.seq, .int .i64 s.rep.code, .int .i64 s.rep.err, .bool s.rep.has, .string s.rep.val, .slice sA 0 sc] 28)) (t, .slice tA 0 tc)).alloc (.cells #[.int .i64 0, .int .i64 0, .int .i64 0, .int .i64 0, .bool false, .string ⟨#[]⟩, .slice none 0 0] 28)
    rw [World.size_alloc] at this
    rw [← hW0]
    exact this
  have Z0 : BoxS (w.heap.size + 1 + 1) zeroZ W0 := by
    have := BoxS.zero ((w.alloc (.cells #[.int .i64 s.client, .int .i64 s.seq, .int .i64 s.rep.code, .int .i64 s.rep.err, .bool s.rep.has, .string s.rep.val, .slice sA 0 sc] 28)).alloc (.cells #[.int .i64 t.client, .int .i64 t.seq, .int .i64 t.rep.code, .int .i64 t.rep.err, .bool t.rep.has, .string t.rep.val, .slice tA 0 tc] 28))
    rw [World.size_alloc, World.size_alloc] at this
    rw [← hW0]
    exact this
  have hb0 : Below w.heap.size w W0 := by rw [← hW0]; exact (((Below.refl _ w).alloc (Nat.le_refl _) _).alloc (by simp) _).alloc (by simp; omega) _
  have hz0 := hb0.size
  have hlt := Z0.1
  obtain ⟨p_0, ⟨p_1, p_2, p_3, p_4, p_5, p_6, p_7⟩, p_8⟩ := _root_.id A0
  obtain ⟨q_0, ⟨q_1, q_2, q_3, q_4, q_5, q_6, q_7⟩, q_8⟩ := _root_.id B0
  obtain ⟨r_0, ⟨r_1, r_2, r_3, r_4, r_5, r_6, r_7⟩, r_8⟩ := _root_.id Z0
  by_cases h : s.seq < t.seq
  · have g1 : (s.seq < t.seq) = True := eq_true h
    rw [show laterG (fun z : Zs => z.1) (s, .slice sA 0 sc) (t, .slice tA 0 tc) = (t, .slice tA 0 tc) by unfold laterG; exact if_pos h]
    clear h
    go_enter Tryd.func43, Tryd.ntmps43
    go_wp2_with fail
    exact bodyPost_ret (res_BoxS Tryd.results43 rfl (BoxS.put Z0 (t, .slice tA 0 tc))) rfl ⟨rfl, (by (repeat' (first | with_reducible assumption | with_reducible exact Below.refl _ _ | with_reducible refine Below.alloc ?_ ?_ _ | with_reducible refine Below.setCell ?_ ?_ _ | with_reducible refine Below.drew ?_ | omega | (simp; done) | (simp; omega))))⟩
  · have g1 : (s.seq < t.seq) = False := eq_false h
    rw [show laterG (fun z : Zs => z.1) (s, .slice sA 0 sc) (t, .slice tA 0 tc) = (s, .slice sA 0 sc) by unfold laterG; exact if_neg h]
    clear h
    go_enter Tryd.func43, Tryd.ntmps43
    go_wp2_with fail
    exact bodyPost_ret (res_BoxS Tryd.results43 rfl (BoxS.put Z0 (s, .slice sA 0 sc))) rfl ⟨rfl, (by (repeat' (first | with_reducible assumption | with_reducible exact Below.refl _ _ | with_reducible refine Below.alloc ?_ ?_ _ | with_reducible refine Below.setCell ?_ ?_ _ | with_reducible refine Below.drew ?_ | omega | (simp; done) | (simp; omega))))⟩

theorem Cs.alloc {w : World} {b o : Nat} {z : Zs} (h : Cs w b o z) (x : Obj) : Cs (w.alloc x) b o z := by
  have hl := World.block_lt_of_cell? _ _ h.1
  exact h.keep fun i => World.cell?_alloc_lt _ _ _ hl

theorem Cs.later {w w' : World} {b o : Nat} {z : Zs} (h : Cs w b o z) (hb : Below w.heap.size w w') : Cs w' b o z := by
  have hl := World.block_lt_of_cell? _ _ h.1
  exact h.keep fun i => hb.cell (p := ⟨b, i, none⟩) hl
/-- the region of two alike clients: nothing that lay there turns, till the box is written -/
def SB (w0 : World) (n : Nat) (z : Zs) (L : Nat → Bool) (_ : Nat → Value) (wx : World) : Prop := ∃ wy, Below w0.heap.size w0 wy ∧ (L 9 = false → wx = wy) ∧ (L 9 = true → wx = putS7 wy n z)
theorem mixB : Tryd.prog.follows .mixedOrders = true := by kernel_rfl
/-- what a round keeps: the iterator's two boxes, and what lay below block N -/
def KpB (N B0 B1 : Nat) (W W' : World) : Prop := (∀ q : Addr, q.block < N → W'.cell? q = W.cell? q) ∧ W'.cell? ⟨B0, 0, none⟩ = W.cell? ⟨B0, 0, none⟩ ∧ W'.cell? ⟨B1, 0, none⟩ = W.cell? ⟨B1, 0, none⟩ ∧ W.heap.size ≤ W'.heap.size
theorem kpB_t {N B0 B1 : Nat} {A B C : World} (h : KpB N B0 B1 A B) (k : KpB N B0 B1 B C) : KpB N B0 B1 A C := ⟨fun q hq => (k.1 q hq).trans (h.1 q hq), k.2.1.trans h.2.1, k.2.2.1.trans h.2.2.1, Nat.le_trans h.2.2.2 k.2.2.2⟩
theorem kpB_of {N B0 B1 M : Nat} {W W' : World} (hb : Below M W W') (hN : N ≤ M) (h0 : B0 < M) (h1 : B1 < M) : KpB N B0 B1 W W' :=
  ⟨fun _ hq => hb.cell (Nat.lt_of_lt_of_le hq hN), hb.cell (p := ⟨B0, 0, none⟩) h0, hb.cell (p := ⟨B1, 0, none⟩) h1, hb.size⟩
theorem kpB_b {N B0 B1 : Nat} {w : World} (hN : N ≤ w.heap.size) (h0 : B0 < w.heap.size) (h1 : B1 < w.heap.size) (W : World) (l : Nat) (o o' : Obj) (hl : w.heap.size ≤ l) (h : W.heap[l]? = some o) (_ : o.isCells = false) (_ : o.isWalk = false) : KpB N B0 B1 W (W.putObj l o') := by
  have hb : Below w.heap.size W (W.putObj l o') := (Below.refl _ W).grown (grownBy_putObj' W l o') (by have := (Array.getElem?_eq_some_iff.1 h).1; omega) (fun k e => by cases e; omega)
  exact kpB_of hb hN h0 h1
abbrev fS : Zs → Ses := fun z => z.1
/-- the k-th of both -/
def nthZ (za zb : List Zs) (k : Nat) : Zs := (bothG fS za zb).getD k zeroZ
theorem nth_head {za zb X Y : List Zs} {k : Nat} {z : Zs} {T : List Zs} (h : bothG fS X Y = (bothG fS za zb).drop k) (e : bothG fS X Y = z :: T) : nthZ za zb k = z ∧ T = (bothG fS za zb).drop (k + 1) ∧ k < (bothG fS za zb).length := by
  rw [e] at h
  have hk : k < (bothG fS za zb).length := by
    rcases Nat.lt_or_ge k (bothG fS za zb).length with h' | h'
    · exact h'
    · rw [List.drop_eq_nil_of_le h'] at h; cases h
  rw [List.drop_eq_getElem_cons hk] at h
  injection h with h1 h2
  refine ⟨?_, h2, hk⟩
  unfold nthZ
  rw [List.getD_eq_getElem?_getD, List.getElem?_eq_getElem hk, h1]
  rfl
theorem nopz {zs : List Zs} (h : NoP zs) {k : Nat} (hk : k < zs.length) : ∃ s A c, zs[k] = (s, .slice A 0 c) := by
  obtain ⟨_, A, c, e⟩ := h zs[k] (List.getElem_mem hk)
  exact ⟨zs[k].1, A, c, Prod.ext rfl e⟩

set_option maxRecDepth 100000 in
set_option maxHeartbeats 16000000 in
/-- both's closure: for every loop body that keeps its two boxes and the lists. -/
theorem both1_in (n : Nat) (hn : 1 ≤ n) (l N B0 B1 m : Nat) (za zb : List Zs) (A D : Option Addr) (ca cb : Nat) (hm : Hid (m = (bothG fS za zb).length)) (hla : za.length ≤ 10000) (hlb : zb.length ≤ 10000) (hpa : NoP za) (hpb : NoP zb) (J Jx : List (Ix m) → World → Prop)
    (hY : ∀ pre x W, J pre W → pre.length < m → YieldAt Fence.wide (n - 1) Tryd.prog l #[sv (nthZ za zb x.1)] W fun e W' =>
      (e = .returned (.bool true) ∧ J (pre ++ [x]) W' ∧ KpB N B0 B1 W W') ∨ (e = .returned (.bool false) ∧ Jx (pre ++ [x]) W'))
    (W : World) (hN : N ≤ W.heap.size) (_hB0 : B0 < W.heap.size) (_hB1 : B1 < W.heap.size) (hva : SZ W N (.slice A za.length ca) za) (hvb : SZ W N (.slice D zb.length cb) zb)
    (hB0s : W.cell? ⟨B0, 0, none⟩ = some (.slice A za.length ca)) (hB1s : W.cell? ⟨B1, 0, none⟩ = some (.slice D zb.length cb))
    (hJd : AbidesFrom W.heap.size J) (h0 : J [] W) :
    CallsIn Fence.wide n Tryd.prog 42 #[.func (.yield l) #[] #[], .pointer (some ⟨B0, 0, none⟩), .pointer (some ⟨B1, 0, none⟩)] W fun e W' => (∃ v, e = .returned v) ∧
      ((∃ ys, ys.map (·.1) = List.range m ∧ J ys W') ∨ (∃ pre, (∃ k, k ≤ m ∧ pre.map (·.1) = List.range k) ∧ Jx pre W')) := by
  obtain ⟨na, hna⟩ : ∃ x, za.length = x := ⟨_, rfl⟩
  obtain ⟨nb, hnb⟩ : ∃ x, zb.length = x := ⟨_, rfl⟩
  have HNA := Lib.hid hna
  have HNB := Lib.hid hnb
  have HVA := Lib.hid hva
  have HVB := Lib.hid hvb
  rw [hna] at hla hB0s
  rw [hnb] at hlb hB1s
  clear hna hnb hva hvb
  refine callsIn_of_wp Tryd.func42 rfl trivial ?_ rfl
  simp only [Tryd.ntmps42, List.size_toArray, List.length_cons, List.length_nil, Nat.reduceAdd, Nat.reduceSub, Array.replicate_succ, Array.replicate_zero, List.push_toArray, List.append_toArray, List.nil_append, List.cons_append]
  gi_wp2
  gi_loopw [4, 5, 6] (fun vi vj _ wr => ∃ (i j k : Nat) (pre : List (Ix m)), i ≤ na ∧ j ≤ nb ∧ vi = .int .i64 (i : Int) ∧ vj = .int .i64 (j : Int) ∧ Hid (bothG fS (za.drop i) (zb.drop j) = (bothG fS za zb).drop k) ∧ Hid (k ≤ m ∧ pre.map (·.1) = List.range k) ∧ J pre wr ∧ KpB N B0 B1 W wr ∧ Below W.heap.size W W)
    (fun vi vj _ _ => (na - (intOf vi).toNat) + (nb - (intOf vj).toNat))
  case atStart => exact ⟨0, 0, 0, [], Nat.zero_le _, Nat.zero_le _, rfl, rfl, Lib.hid rfl, Lib.hid ⟨Nat.zero_le _, rfl⟩, h0, ⟨fun _ _ => rfl, rfl, rfl, Nat.le_refl _⟩, Below.refl _ _⟩
  case round =>
    obtain ⟨i, j, k, pre, hi, hj, rfl, rfl, HB, HP, hJs, hkp, _⟩ := hrel
    have c0 := hkp.2.1.trans hB0s
    have c1 := hkp.2.2.1.trans hB1s
    have hNw : N ≤ wr.heap.size := Nat.le_trans hN hkp.2.2.2
    have hB0w := World.block_lt_of_cell? _ _ c0
    have hB1w := World.block_lt_of_cell? _ _ c1
    by_cases ha : i < na
    · by_cases hb : j < nb
      · obtain ⟨W1, hW1⟩ : ∃ W1, wr.alloc (.cells #[.int .i64 0, .int .i64 0, .int .i64 0, .int .i64 0, .bool false, .string ⟨#[]⟩, .slice none 0 0] 28) = W1 := ⟨_, rfl⟩
        obtain ⟨wd, hwd⟩ : ∃ wd, W1.drew = wd := ⟨_, rfl⟩
        have Z0 : BoxS wr.heap.size zeroZ wd := hwd ▸ (hW1 ▸ BoxS.zero wr : BoxS wr.heap.size zeroZ W1).drew
        have d0 : wd.cell? ⟨B0, 0, none⟩ = some (.slice A na ca) := by rw [← hwd, World.cell?_drew, ← hW1, World.cell?_alloc_lt _ _ _ (World.block_lt_of_cell? _ _ c0)]; exact c0
        have d1 : wd.cell? ⟨B1, 0, none⟩ = some (.slice D nb cb) := by rw [← hwd, World.cell?_drew, ← hW1, World.cell?_alloc_lt _ _ _ (World.block_lt_of_cell? _ _ c1)]; exact c1
        have hb1 : Below wr.heap.size wr wd := by rw [← hwd, ← hW1]; exact ((Below.refl _ wr).alloc (Nat.le_refl _) _).drew
        obtain ⟨r_0, ⟨r_1, r_2, r_3, r_4, r_5, r_6, r_7⟩, r_8⟩ := _root_.id Z0
        have hal : i < za.length := by have := HNA.out; omega
        obtain ⟨sa, Sa, ga, esa⟩ := nopz hpa hal
        obtain ⟨ba, oa, rfl, hbla, hcsa⟩ := (HVA.out.keep hkp.1).at_ hal
        rw [esa] at hcsa
        have hda : za.drop i = (sa, .slice Sa 0 ga) :: za.drop (i + 1) := by rw [List.drop_eq_getElem_cons hal, esa]
        have qa : Cs wd ba (oa + i * 7) (sa, .slice Sa 0 ga) := hwd ▸ (hW1 ▸ hcsa.alloc (.cells #[.int .i64 0, .int .i64 0, .int .i64 0, .int .i64 0, .bool false, .string ⟨#[]⟩, .slice none 0 0] 28) : Cs W1 ba (oa + i * 7) (sa, .slice Sa 0 ga)).keep fun _ => rfl
        obtain ⟨a_1, a_2, a_3, a_4, a_5, a_6, a_7⟩ := _root_.id qa
        have la : (i : Int) < (na : Int) := by have := HNA.out; omega
        have la0 : (0 ≤ (i : Int)) = True := eq_true (by omega)
        have la1 : ((i : Int) < (na : Int)) = True := eq_true (by omega)
        have la2 : ((i : Int) = (na : Int)) = False := eq_false (by omega)
        have la5 : ((i : Int) == (na : Int)) = false := beq_false_of_ne (by omega)
        have la3 : IntKind.i64.wrap ((i : Int) + 1) = (i : Int) + 1 := by rw [IntKind.wrap_i64]; omega
        clear hal esa hcsa
        have hbl : j < zb.length := by have := HNB.out; omega
        obtain ⟨sb, Sb, gb, esb⟩ := nopz hpb hbl
        obtain ⟨bb, ob, rfl, hblb, hcsb⟩ := (HVB.out.keep hkp.1).at_ hbl
        rw [esb] at hcsb
        have hdb : zb.drop j = (sb, .slice Sb 0 gb) :: zb.drop (j + 1) := by rw [List.drop_eq_getElem_cons hbl, esb]
        have qb : Cs wd bb (ob + j * 7) (sb, .slice Sb 0 gb) := hwd ▸ (hW1 ▸ hcsb.alloc (.cells #[.int .i64 0, .int .i64 0, .int .i64 0, .int .i64 0, .bool false, .string ⟨#[]⟩, .slice none 0 0] 28) : Cs W1 bb (ob + j * 7) (sb, .slice Sb 0 gb)).keep fun _ => rfl
        obtain ⟨b_1, b_2, b_3, b_4, b_5, b_6, b_7⟩ := _root_.id qb
        have lb : (j : Int) < (nb : Int) := by have := HNB.out; omega
        have lb0 : (0 ≤ (j : Int)) = True := eq_true (by omega)
        have lb1 : ((j : Int) < (nb : Int)) = True := eq_true (by omega)
        have lb2 : ((j : Int) = (nb : Int)) = False := eq_false (by omega)
        have lb5 : ((j : Int) == (nb : Int)) = false := beq_false_of_ne (by omega)
        have lb3 : IntKind.i64.wrap ((j : Int) + 1) = (j : Int) + 1 := by rw [IntKind.wrap_i64]; omega
        clear hbl esb hcsb
        clear ha hb
        by_cases hlt : sa.client < sb.client
        · have HE : Hid (bothG fS (za.drop i) (zb.drop j) = (sa, .slice Sa 0 ga) :: bothG fS (za.drop (i + 1)) (zb.drop j)) := Lib.hid (by
            rw [hda, hdb, bothG_cons, if_pos (show (fS (sa, .slice Sa 0 ga)).client < (fS (sb, .slice Sb 0 gb)).client from hlt)])
          have hlt1 : (sa.client < sb.client) = True := eq_true hlt
          clear hda hdb hlt
          gi_wp2
          refine St.wpIn_region_calm (fun _ _ wx => wx = wd) (by kernel_rfl) mixB (by kernel_rfl) (by kernel_rfl) hwd ?_
          apply St.mix_give
          · rfl
          · rintro L u' wx rfl hcl hrd hag
            go_simp
            try with_reducible rfl
          · exact fun L u' wx hS => hS
          simp only [Act.put, List.setIfInBounds_toArray, List.set_cons_zero, List.set_cons_succ]
          apply St.mix_give
          · rfl
          · rintro L u' wx rfl hcl hrd hag
            go_simp
            try with_reducible rfl
          · exact fun L u' wx hS => hS
          simp only [Act.put, List.setIfInBounds_toArray, List.set_cons_zero, List.set_cons_succ]
          apply St.mix_give
          · rfl
          · rintro L u' wx rfl hcl hrd hag
            go_simp
            try with_reducible rfl
          · exact fun L u' wx hS => hS
          simp only [Act.put, List.setIfInBounds_toArray, List.set_cons_zero, List.set_cons_succ]
          apply St.mix_give
          · rfl
          · rintro L u' wx rfl hcl hrd hag
            go_simp
            try with_reducible rfl
          · exact fun L u' wx hS => hS
          simp only [Act.put, List.setIfInBounds_toArray, List.set_cons_zero, List.set_cons_succ]
          apply St.mix_give
          · rfl
          · rintro L u' wx rfl hcl hrd hag
            go_simp
            try with_reducible rfl
          · exact fun L u' wx hS => hS
          simp only [Act.put, List.setIfInBounds_toArray, List.set_cons_zero, List.set_cons_succ]
          apply St.mix_give
          · rfl
          · rintro L u' wx rfl hcl hrd hag
            go_simp
            try with_reducible rfl
          · exact fun L u' wx hS => hS
          simp only [Act.put, List.setIfInBounds_toArray, List.set_cons_zero, List.set_cons_succ]
          apply St.mix_give
          · rfl
          · rintro L u' wx rfl hcl hrd hag
            go_simp
            try with_reducible rfl
          · exact fun L u' wx hS => hS
          simp only [Act.put, List.setIfInBounds_toArray, List.set_cons_zero, List.set_cons_succ]
          apply St.mix_give
          · rfl
          · rintro L u' wx rfl hcl hrd hag
            go_simp
            try with_reducible rfl
          · exact fun L u' wx hS => hS
          simp only [Act.put, List.setIfInBounds_toArray, List.set_cons_zero, List.set_cons_succ]
          apply St.mix_give
          · rfl
          · rintro L u' wx rfl hcl hrd hag
            go_simp
            try with_reducible rfl
          · exact fun L u' wx hS => hS
          simp only [Act.put, List.setIfInBounds_toArray, List.set_cons_zero, List.set_cons_succ]
          apply St.mix_give
          · rfl
          · rintro L u' wx rfl hcl hrd hag
            go_simp
            try with_reducible rfl
          · exact fun L u' wx hS => hS
          simp only [Act.put, List.setIfInBounds_toArray, List.set_cons_zero, List.set_cons_succ]
          apply St.mix_give
          · rfl
          · rintro L u' wx rfl hcl hrd hag
            go_simp
            try with_reducible rfl
          · exact fun L u' wx hS => hS
          simp only [Act.put, List.setIfInBounds_toArray, List.set_cons_zero, List.set_cons_succ]
          apply St.mix_give
          · rfl
          · rintro L u' wx rfl hcl hrd hag
            go_simp
            try with_reducible rfl
          · exact fun L u' wx hS => hS
          simp only [Act.put, List.setIfInBounds_toArray, List.set_cons_zero, List.set_cons_succ]
          apply St.mix_give
          · rfl
          · rintro L u' wx rfl hcl hrd hag
            go_simp
            try with_reducible rfl
          · exact fun L u' wx hS => hS
          simp only [Act.put, List.setIfInBounds_toArray, List.set_cons_zero, List.set_cons_succ]
          apply St.mix_give
          · rfl
          · rintro L u' wx rfl hcl hrd hag
            go_simp
            try with_reducible rfl
          · exact fun L u' wx hS => hS
          simp only [Act.put, List.setIfInBounds_toArray, List.set_cons_zero, List.set_cons_succ]
          apply St.mix_give
          · rfl
          · rintro L u' wx rfl hcl hrd hag
            go_simp
            try with_reducible rfl
          · exact fun L u' wx hS => hS
          simp only [Act.put, List.setIfInBounds_toArray, List.set_cons_zero, List.set_cons_succ]
          apply St.mix_give
          · rfl
          · rintro L u' wx rfl hcl hrd hag
            go_simp
            try with_reducible rfl
          · exact fun L u' wx hS => hS
          simp only [Act.put, List.setIfInBounds_toArray, List.set_cons_zero, List.set_cons_succ]
          apply St.mix_give
          · rfl
          · rintro L u' wx rfl hcl hrd hag
            go_simp
            try with_reducible rfl
          · exact fun L u' wx hS => hS
          simp only [Act.put, List.setIfInBounds_toArray, List.set_cons_zero, List.set_cons_succ]
          apply St.mix_give
          · rfl
          · rintro L u' wx rfl hcl hrd hag
            go_simp
            try with_reducible rfl
          · exact fun L u' wx hS => hS
          simp only [Act.put, List.setIfInBounds_toArray, List.set_cons_zero, List.set_cons_succ]
          apply St.mix_give
          · rfl
          · rintro L u' wx rfl hcl hrd hag
            go_simp
            try with_reducible rfl
          · exact fun L u' wx hS => hS
          simp only [Act.put, List.setIfInBounds_toArray, List.set_cons_zero, List.set_cons_succ]
          apply St.mix_give
          · rfl
          · rintro L u' wx rfl hcl hrd hag
            go_simp
            try with_reducible rfl
          · exact fun L u' wx hS => hS
          simp only [Act.put, List.setIfInBounds_toArray, List.set_cons_zero, List.set_cons_succ]
          apply St.mix_give
          · rfl
          · rintro L u' wx rfl hcl hrd hag
            go_simp
            try with_reducible rfl
          · exact fun L u' wx hS => hS
          simp only [Act.put, List.setIfInBounds_toArray, List.set_cons_zero, List.set_cons_succ]
          apply St.mix_give
          · rfl
          · rintro L u' wx rfl hcl hrd hag
            go_simp
            try with_reducible rfl
          · exact fun L u' wx hS => hS
          simp only [Act.put, List.setIfInBounds_toArray, List.set_cons_zero, List.set_cons_succ]
          apply St.mix_give
          · rfl
          · rintro L u' wx rfl hcl hrd hag
            go_simp
            try with_reducible rfl
          · exact fun L u' wx hS => hS
          simp only [Act.put, List.setIfInBounds_toArray, List.set_cons_zero, List.set_cons_succ]
          apply St.mix_give
          · rfl
          · rintro L u' wx rfl hcl hrd hag
            go_simp
            try with_reducible rfl
          · exact fun L u' wx hS => hS
          simp only [Act.put, List.setIfInBounds_toArray, List.set_cons_zero, List.set_cons_succ]
          refine St.mix_last ?_
          rintro L wx rfl hall
          iterate 45 try (first | go_values | gi_guarded | gi_step | gi_upon | go_simp)
          obtain ⟨W2, hW2⟩ : ∃ W2, putS7 wx wr.heap.size (sa, .slice Sa 0 ga) = W2 := ⟨_, rfl⟩
          have hb2 : Below wr.heap.size wr W2 := hW2 ▸ (putS7_below hb1 (Nat.le_refl _) : Below wr.heap.size wr (putS7 wx wr.heap.size (sa, .slice Sa 0 ga)))
          change Oper.wpIn _ _ _ _ _ (putS7 wx wr.heap.size (sa, .slice Sa 0 ga)) _ _
          rw [hW2]
          clear hW2
          have hkp2 : KpB N B0 B1 W W2 := kpB_t hkp (kpB_of hb2 hNw hB0w hB1w)
          have hJ2 : J pre W2 := hJd _ wr W2 none hJs ⟨hb2.os, hb2.tape, hb2.output, hb2.size, fun k hk _ => hb2.block k hk⟩ (fun r e => by cases e)
          obtain ⟨hz, hT, hkm⟩ := nth_head HB.out HE.out
          have HK : Hid (k < m) := Lib.hid (by have := hm.out; omega)
          obtain ⟨fn, tmps, assign, body, hy, hR⟩ := hY _ (⟨k, HK.out⟩ : Ix m) W2 hJ2 (by rw [vals_length HP.out.2]; exact HK.out)
          dsimp only at hy
          rw [hz] at hy
          dsimp only [sv] at hy
          have HB2 : Hid (bothG fS (za.drop (i + 1)) (zb.drop (j)) = (bothG fS za zb).drop (k + 1)) := Lib.hid (hT)
          clear hz hT hkm HB HE
          gi_wp2
          refine hR.mono ?_
          rintro e W3 (⟨rfl, hJ3, hk3⟩ | ⟨rfl, hJx3⟩)
          · gi_wp2
            go_roundw
            case rel => exact ⟨i + 1, j, k + 1, _, by omega, by omega, by go_num, rfl, HB2, Lib.hid ⟨HK.out, vals_snoc HP.out.2 HK.out⟩, hJ3, kpB_t hkp2 hk3, Below.refl _ _⟩
            case measure => simp [intOf]; omega
          · gi_wp2
            refine bodyPost_ret (results_none rfl _ _ _) rfl ?_
            exact ⟨⟨_, rfl⟩, .inr ⟨_, ⟨k + 1, HK.out, vals_snoc HP.out.2 HK.out⟩, hJx3⟩⟩
        · by_cases hgt : sb.client < sa.client
          · have HE : Hid (bothG fS (za.drop i) (zb.drop j) = (sb, .slice Sb 0 gb) :: bothG fS (za.drop i) (zb.drop (j + 1))) := Lib.hid (by
              rw [hda, hdb, bothG_cons, if_neg (show ¬ (fS (sa, .slice Sa 0 ga)).client < (fS (sb, .slice Sb 0 gb)).client from hlt), if_pos (show (fS (sb, .slice Sb 0 gb)).client < (fS (sa, .slice Sa 0 ga)).client from hgt)])
            have hlt1 : (sa.client < sb.client) = False := eq_false hlt
            have hgt1 : (sb.client < sa.client) = True := eq_true hgt
            clear hda hdb hlt hgt
            gi_wp2
            refine St.wpIn_region_calm (fun _ _ wx => wx = wd) (by kernel_rfl) mixB (by kernel_rfl) (by kernel_rfl) hwd ?_
            apply St.mix_give
            · rfl
            · rintro L u' wx rfl hcl hrd hag
              go_simp
              try with_reducible rfl
            · exact fun L u' wx hS => hS
            simp only [Act.put, List.setIfInBounds_toArray, List.set_cons_zero, List.set_cons_succ]
            apply St.mix_give
            · rfl
            · rintro L u' wx rfl hcl hrd hag
              go_simp
              try with_reducible rfl
            · exact fun L u' wx hS => hS
            simp only [Act.put, List.setIfInBounds_toArray, List.set_cons_zero, List.set_cons_succ]
            apply St.mix_give
            · rfl
            · rintro L u' wx rfl hcl hrd hag
              go_simp
              try with_reducible rfl
            · exact fun L u' wx hS => hS
            simp only [Act.put, List.setIfInBounds_toArray, List.set_cons_zero, List.set_cons_succ]
            apply St.mix_give
            · rfl
            · rintro L u' wx rfl hcl hrd hag
              go_simp
              try with_reducible rfl
            · exact fun L u' wx hS => hS
            simp only [Act.put, List.setIfInBounds_toArray, List.set_cons_zero, List.set_cons_succ]
            apply St.mix_give
            · rfl
            · rintro L u' wx rfl hcl hrd hag
              go_simp
              try with_reducible rfl
            · exact fun L u' wx hS => hS
            simp only [Act.put, List.setIfInBounds_toArray, List.set_cons_zero, List.set_cons_succ]
            apply St.mix_give
            · rfl
            · rintro L u' wx rfl hcl hrd hag
              go_simp
              try with_reducible rfl
            · exact fun L u' wx hS => hS
            simp only [Act.put, List.setIfInBounds_toArray, List.set_cons_zero, List.set_cons_succ]
            apply St.mix_give
            · rfl
            · rintro L u' wx rfl hcl hrd hag
              go_simp
              try with_reducible rfl
            · exact fun L u' wx hS => hS
            simp only [Act.put, List.setIfInBounds_toArray, List.set_cons_zero, List.set_cons_succ]
            apply St.mix_give
            · rfl
            · rintro L u' wx rfl hcl hrd hag
              go_simp
              try with_reducible rfl
            · exact fun L u' wx hS => hS
            simp only [Act.put, List.setIfInBounds_toArray, List.set_cons_zero, List.set_cons_succ]
            apply St.mix_give
            · rfl
            · rintro L u' wx rfl hcl hrd hag
              go_simp
              try with_reducible rfl
            · exact fun L u' wx hS => hS
            simp only [Act.put, List.setIfInBounds_toArray, List.set_cons_zero, List.set_cons_succ]
            apply St.mix_give
            · rfl
            · rintro L u' wx rfl hcl hrd hag
              go_simp
              try with_reducible rfl
            · exact fun L u' wx hS => hS
            simp only [Act.put, List.setIfInBounds_toArray, List.set_cons_zero, List.set_cons_succ]
            apply St.mix_give
            · rfl
            · rintro L u' wx rfl hcl hrd hag
              go_simp
              try with_reducible rfl
            · exact fun L u' wx hS => hS
            simp only [Act.put, List.setIfInBounds_toArray, List.set_cons_zero, List.set_cons_succ]
            apply St.mix_give
            · rfl
            · rintro L u' wx rfl hcl hrd hag
              go_simp
              try with_reducible rfl
            · exact fun L u' wx hS => hS
            simp only [Act.put, List.setIfInBounds_toArray, List.set_cons_zero, List.set_cons_succ]
            apply St.mix_give
            · rfl
            · rintro L u' wx rfl hcl hrd hag
              go_simp
              try with_reducible rfl
            · exact fun L u' wx hS => hS
            simp only [Act.put, List.setIfInBounds_toArray, List.set_cons_zero, List.set_cons_succ]
            apply St.mix_give
            · rfl
            · rintro L u' wx rfl hcl hrd hag
              go_simp
              try with_reducible rfl
            · exact fun L u' wx hS => hS
            simp only [Act.put, List.setIfInBounds_toArray, List.set_cons_zero, List.set_cons_succ]
            apply St.mix_give
            · rfl
            · rintro L u' wx rfl hcl hrd hag
              go_simp
              try with_reducible rfl
            · exact fun L u' wx hS => hS
            simp only [Act.put, List.setIfInBounds_toArray, List.set_cons_zero, List.set_cons_succ]
            apply St.mix_give
            · rfl
            · rintro L u' wx rfl hcl hrd hag
              go_simp
              try with_reducible rfl
            · exact fun L u' wx hS => hS
            simp only [Act.put, List.setIfInBounds_toArray, List.set_cons_zero, List.set_cons_succ]
            apply St.mix_give
            · rfl
            · rintro L u' wx rfl hcl hrd hag
              go_simp
              try with_reducible rfl
            · exact fun L u' wx hS => hS
            simp only [Act.put, List.setIfInBounds_toArray, List.set_cons_zero, List.set_cons_succ]
            apply St.mix_give
            · rfl
            · rintro L u' wx rfl hcl hrd hag
              go_simp
              try with_reducible rfl
            · exact fun L u' wx hS => hS
            simp only [Act.put, List.setIfInBounds_toArray, List.set_cons_zero, List.set_cons_succ]
            apply St.mix_give
            · rfl
            · rintro L u' wx rfl hcl hrd hag
              go_simp
              try with_reducible rfl
            · exact fun L u' wx hS => hS
            simp only [Act.put, List.setIfInBounds_toArray, List.set_cons_zero, List.set_cons_succ]
            apply St.mix_give
            · rfl
            · rintro L u' wx rfl hcl hrd hag
              go_simp
              try with_reducible rfl
            · exact fun L u' wx hS => hS
            simp only [Act.put, List.setIfInBounds_toArray, List.set_cons_zero, List.set_cons_succ]
            apply St.mix_give
            · rfl
            · rintro L u' wx rfl hcl hrd hag
              go_simp
              try with_reducible rfl
            · exact fun L u' wx hS => hS
            simp only [Act.put, List.setIfInBounds_toArray, List.set_cons_zero, List.set_cons_succ]
            apply St.mix_give
            · rfl
            · rintro L u' wx rfl hcl hrd hag
              go_simp
              try with_reducible rfl
            · exact fun L u' wx hS => hS
            simp only [Act.put, List.setIfInBounds_toArray, List.set_cons_zero, List.set_cons_succ]
            apply St.mix_give
            · rfl
            · rintro L u' wx rfl hcl hrd hag
              go_simp
              try with_reducible rfl
            · exact fun L u' wx hS => hS
            simp only [Act.put, List.setIfInBounds_toArray, List.set_cons_zero, List.set_cons_succ]
            apply St.mix_give
            · rfl
            · rintro L u' wx rfl hcl hrd hag
              go_simp
              try with_reducible rfl
            · exact fun L u' wx hS => hS
            simp only [Act.put, List.setIfInBounds_toArray, List.set_cons_zero, List.set_cons_succ]
            refine St.mix_last ?_
            rintro L wx rfl hall
            obtain ⟨we, hwe⟩ : ∃ we, World.drew wx = we := ⟨_, rfl⟩
            have Z1 : BoxS wr.heap.size zeroZ we := hwe ▸ Z0.drew
            have d0we : we.cell? ⟨B0, 0, none⟩ = some (.slice (some ⟨ba, oa, none⟩) na ca) := by rw [← hwe]; exact d0
            have d1we : we.cell? ⟨B1, 0, none⟩ = some (.slice (some ⟨bb, ob, none⟩) nb cb) := by rw [← hwe]; exact d1
            clear d0 d1
            have d0 := d0we
            have d1 := d1we
            clear d0we d1we
            have hb1we : Below wr.heap.size wr we := by rw [← hwe]; exact hb1.drew
            clear hb1
            have hb1 := hb1we
            clear hb1we
            clear r_0 r_1 r_2 r_3 r_4 r_5 r_6 r_7 r_8
            obtain ⟨r_0, ⟨r_1, r_2, r_3, r_4, r_5, r_6, r_7⟩, r_8⟩ := _root_.id Z1
            have qa1 : Cs we ba (oa + i * 7) (sa, .slice Sa 0 ga) := hwe ▸ qa.keep fun _ => rfl
            clear a_1 a_2 a_3 a_4 a_5 a_6 a_7
            obtain ⟨a_1, a_2, a_3, a_4, a_5, a_6, a_7⟩ := _root_.id qa1
            have qb1 : Cs we bb (ob + j * 7) (sb, .slice Sb 0 gb) := hwe ▸ qb.keep fun _ => rfl
            clear b_1 b_2 b_3 b_4 b_5 b_6 b_7
            obtain ⟨b_1, b_2, b_3, b_4, b_5, b_6, b_7⟩ := _root_.id qb1
            iterate 6 try (first | go_values | gi_guarded | gi_step | gi_upon)
            refine St.wpIn_region_calm (fun _ _ wx => wx = we) (by kernel_rfl) mixB (by kernel_rfl) (by kernel_rfl) hwe ?_
            apply St.mix_give
            · rfl
            · rintro L u' wx rfl hcl hrd hag
              go_simp
              try with_reducible rfl
            · exact fun L u' wx hS => hS
            simp only [Act.put, List.setIfInBounds_toArray, List.set_cons_zero, List.set_cons_succ]
            apply St.mix_give
            · rfl
            · rintro L u' wx rfl hcl hrd hag
              go_simp
              try with_reducible rfl
            · exact fun L u' wx hS => hS
            simp only [Act.put, List.setIfInBounds_toArray, List.set_cons_zero, List.set_cons_succ]
            apply St.mix_give
            · rfl
            · rintro L u' wx rfl hcl hrd hag
              go_simp
              try with_reducible rfl
            · exact fun L u' wx hS => hS
            simp only [Act.put, List.setIfInBounds_toArray, List.set_cons_zero, List.set_cons_succ]
            apply St.mix_give
            · rfl
            · rintro L u' wx rfl hcl hrd hag
              go_simp
              try with_reducible rfl
            · exact fun L u' wx hS => hS
            simp only [Act.put, List.setIfInBounds_toArray, List.set_cons_zero, List.set_cons_succ]
            apply St.mix_give
            · rfl
            · rintro L u' wx rfl hcl hrd hag
              go_simp
              try with_reducible rfl
            · exact fun L u' wx hS => hS
            simp only [Act.put, List.setIfInBounds_toArray, List.set_cons_zero, List.set_cons_succ]
            apply St.mix_give
            · rfl
            · rintro L u' wx rfl hcl hrd hag
              go_simp
              try with_reducible rfl
            · exact fun L u' wx hS => hS
            simp only [Act.put, List.setIfInBounds_toArray, List.set_cons_zero, List.set_cons_succ]
            apply St.mix_give
            · rfl
            · rintro L u' wx rfl hcl hrd hag
              go_simp
              try with_reducible rfl
            · exact fun L u' wx hS => hS
            simp only [Act.put, List.setIfInBounds_toArray, List.set_cons_zero, List.set_cons_succ]
            apply St.mix_give
            · rfl
            · rintro L u' wx rfl hcl hrd hag
              go_simp
              try with_reducible rfl
            · exact fun L u' wx hS => hS
            simp only [Act.put, List.setIfInBounds_toArray, List.set_cons_zero, List.set_cons_succ]
            apply St.mix_give
            · rfl
            · rintro L u' wx rfl hcl hrd hag
              go_simp
              try with_reducible rfl
            · exact fun L u' wx hS => hS
            simp only [Act.put, List.setIfInBounds_toArray, List.set_cons_zero, List.set_cons_succ]
            apply St.mix_give
            · rfl
            · rintro L u' wx rfl hcl hrd hag
              go_simp
              try with_reducible rfl
            · exact fun L u' wx hS => hS
            simp only [Act.put, List.setIfInBounds_toArray, List.set_cons_zero, List.set_cons_succ]
            apply St.mix_give
            · rfl
            · rintro L u' wx rfl hcl hrd hag
              go_simp
              try with_reducible rfl
            · exact fun L u' wx hS => hS
            simp only [Act.put, List.setIfInBounds_toArray, List.set_cons_zero, List.set_cons_succ]
            apply St.mix_give
            · rfl
            · rintro L u' wx rfl hcl hrd hag
              go_simp
              try with_reducible rfl
            · exact fun L u' wx hS => hS
            simp only [Act.put, List.setIfInBounds_toArray, List.set_cons_zero, List.set_cons_succ]
            apply St.mix_give
            · rfl
            · rintro L u' wx rfl hcl hrd hag
              go_simp
              try with_reducible rfl
            · exact fun L u' wx hS => hS
            simp only [Act.put, List.setIfInBounds_toArray, List.set_cons_zero, List.set_cons_succ]
            apply St.mix_give
            · rfl
            · rintro L u' wx rfl hcl hrd hag
              go_simp
              try with_reducible rfl
            · exact fun L u' wx hS => hS
            simp only [Act.put, List.setIfInBounds_toArray, List.set_cons_zero, List.set_cons_succ]
            apply St.mix_give
            · rfl
            · rintro L u' wx rfl hcl hrd hag
              go_simp
              try with_reducible rfl
            · exact fun L u' wx hS => hS
            simp only [Act.put, List.setIfInBounds_toArray, List.set_cons_zero, List.set_cons_succ]
            apply St.mix_give
            · rfl
            · rintro L u' wx rfl hcl hrd hag
              go_simp
              try with_reducible rfl
            · exact fun L u' wx hS => hS
            simp only [Act.put, List.setIfInBounds_toArray, List.set_cons_zero, List.set_cons_succ]
            apply St.mix_give
            · rfl
            · rintro L u' wx rfl hcl hrd hag
              go_simp
              try with_reducible rfl
            · exact fun L u' wx hS => hS
            simp only [Act.put, List.setIfInBounds_toArray, List.set_cons_zero, List.set_cons_succ]
            apply St.mix_give
            · rfl
            · rintro L u' wx rfl hcl hrd hag
              go_simp
              try with_reducible rfl
            · exact fun L u' wx hS => hS
            simp only [Act.put, List.setIfInBounds_toArray, List.set_cons_zero, List.set_cons_succ]
            refine St.mix_last ?_
            rintro L wy rfl hall
            iterate 45 try (first | go_values | gi_guarded | gi_step | gi_upon | go_simp)
            obtain ⟨W2, hW2⟩ : ∃ W2, putS7 wy wr.heap.size (sb, .slice Sb 0 gb) = W2 := ⟨_, rfl⟩
            have hb2 : Below wr.heap.size wr W2 := hW2 ▸ (putS7_below hb1 (Nat.le_refl _) : Below wr.heap.size wr (putS7 wy wr.heap.size (sb, .slice Sb 0 gb)))
            change Oper.wpIn _ _ _ _ _ (putS7 wy wr.heap.size (sb, .slice Sb 0 gb)) _ _
            rw [hW2]
            clear hW2
            have hkp2 : KpB N B0 B1 W W2 := kpB_t hkp (kpB_of hb2 hNw hB0w hB1w)
            have hJ2 : J pre W2 := hJd _ wr W2 none hJs ⟨hb2.os, hb2.tape, hb2.output, hb2.size, fun k hk _ => hb2.block k hk⟩ (fun r e => by cases e)
            obtain ⟨hz, hT, hkm⟩ := nth_head HB.out HE.out
            have HK : Hid (k < m) := Lib.hid (by have := hm.out; omega)
            obtain ⟨fn, tmps, assign, body, hy, hR⟩ := hY _ (⟨k, HK.out⟩ : Ix m) W2 hJ2 (by rw [vals_length HP.out.2]; exact HK.out)
            dsimp only at hy
            rw [hz] at hy
            dsimp only [sv] at hy
            have HB2 : Hid (bothG fS (za.drop (i)) (zb.drop (j + 1)) = (bothG fS za zb).drop (k + 1)) := Lib.hid (hT)
            clear hz hT hkm HB HE
            gi_wp2
            refine hR.mono ?_
            rintro e W3 (⟨rfl, hJ3, hk3⟩ | ⟨rfl, hJx3⟩)
            · gi_wp2
              go_roundw
              case rel => exact ⟨i, j + 1, k + 1, _, by omega, by omega, rfl, by go_num, HB2, Lib.hid ⟨HK.out, vals_snoc HP.out.2 HK.out⟩, hJ3, kpB_t hkp2 hk3, Below.refl _ _⟩
              case measure => simp [intOf]; omega
            · gi_wp2
              refine bodyPost_ret (results_none rfl _ _ _) rfl ?_
              exact ⟨⟨_, rfl⟩, .inr ⟨_, ⟨k + 1, HK.out, vals_snoc HP.out.2 HK.out⟩, hJx3⟩⟩
          · obtain ⟨s, S, g, hL⟩ : ∃ s S g, laterG (fun z : Zs => z.1) (sa, .slice Sa 0 ga) (sb, .slice Sb 0 gb) = (s, .slice S 0 g) := by
              unfold laterG
              split
              · exact ⟨_, _, _, rfl⟩
              · exact ⟨_, _, _, rfl⟩
            have HE : Hid (bothG fS (za.drop i) (zb.drop j) = (s, .slice S 0 g) :: bothG fS (za.drop (i + 1)) (zb.drop (j + 1))) := Lib.hid (by
              rw [hda, hdb, bothG_cons, if_neg (show ¬ (fS (sa, .slice Sa 0 ga)).client < (fS (sb, .slice Sb 0 gb)).client from hlt), if_neg (show ¬ (fS (sb, .slice Sb 0 gb)).client < (fS (sa, .slice Sa 0 ga)).client from hgt)]
              exact congrArg (· :: _) hL)
            have hlt1 : (sa.client < sb.client) = False := eq_false hlt
            have hgt1 : (sb.client < sa.client) = False := eq_false hgt
            clear hda hdb hlt hgt
            gi_wp2
            refine St.wpIn_region_calm (fun _ _ wx => wx = wd) (by kernel_rfl) mixB (by kernel_rfl) (by kernel_rfl) hwd ?_
            apply St.mix_give
            · rfl
            · rintro L u' wx rfl hcl hrd hag
              go_simp
              try with_reducible rfl
            · exact fun L u' wx hS => hS
            simp only [Act.put, List.setIfInBounds_toArray, List.set_cons_zero, List.set_cons_succ]
            apply St.mix_give
            · rfl
            · rintro L u' wx rfl hcl hrd hag
              go_simp
              try with_reducible rfl
            · exact fun L u' wx hS => hS
            simp only [Act.put, List.setIfInBounds_toArray, List.set_cons_zero, List.set_cons_succ]
            apply St.mix_give
            · rfl
            · rintro L u' wx rfl hcl hrd hag
              go_simp
              try with_reducible rfl
            · exact fun L u' wx hS => hS
            simp only [Act.put, List.setIfInBounds_toArray, List.set_cons_zero, List.set_cons_succ]
            apply St.mix_give
            · rfl
            · rintro L u' wx rfl hcl hrd hag
              go_simp
              try with_reducible rfl
            · exact fun L u' wx hS => hS
            simp only [Act.put, List.setIfInBounds_toArray, List.set_cons_zero, List.set_cons_succ]
            apply St.mix_give
            · rfl
            · rintro L u' wx rfl hcl hrd hag
              go_simp
              try with_reducible rfl
            · exact fun L u' wx hS => hS
            simp only [Act.put, List.setIfInBounds_toArray, List.set_cons_zero, List.set_cons_succ]
            apply St.mix_give
            · rfl
            · rintro L u' wx rfl hcl hrd hag
              go_simp
              try with_reducible rfl
            · exact fun L u' wx hS => hS
            simp only [Act.put, List.setIfInBounds_toArray, List.set_cons_zero, List.set_cons_succ]
            apply St.mix_give
            · rfl
            · rintro L u' wx rfl hcl hrd hag
              go_simp
              try with_reducible rfl
            · exact fun L u' wx hS => hS
            simp only [Act.put, List.setIfInBounds_toArray, List.set_cons_zero, List.set_cons_succ]
            apply St.mix_give
            · rfl
            · rintro L u' wx rfl hcl hrd hag
              go_simp
              try with_reducible rfl
            · exact fun L u' wx hS => hS
            simp only [Act.put, List.setIfInBounds_toArray, List.set_cons_zero, List.set_cons_succ]
            apply St.mix_give
            · rfl
            · rintro L u' wx rfl hcl hrd hag
              go_simp
              try with_reducible rfl
            · exact fun L u' wx hS => hS
            simp only [Act.put, List.setIfInBounds_toArray, List.set_cons_zero, List.set_cons_succ]
            apply St.mix_give
            · rfl
            · rintro L u' wx rfl hcl hrd hag
              go_simp
              try with_reducible rfl
            · exact fun L u' wx hS => hS
            simp only [Act.put, List.setIfInBounds_toArray, List.set_cons_zero, List.set_cons_succ]
            apply St.mix_give
            · rfl
            · rintro L u' wx rfl hcl hrd hag
              go_simp
              try with_reducible rfl
            · exact fun L u' wx hS => hS
            simp only [Act.put, List.setIfInBounds_toArray, List.set_cons_zero, List.set_cons_succ]
            apply St.mix_give
            · rfl
            · rintro L u' wx rfl hcl hrd hag
              go_simp
              try with_reducible rfl
            · exact fun L u' wx hS => hS
            simp only [Act.put, List.setIfInBounds_toArray, List.set_cons_zero, List.set_cons_succ]
            apply St.mix_give
            · rfl
            · rintro L u' wx rfl hcl hrd hag
              go_simp
              try with_reducible rfl
            · exact fun L u' wx hS => hS
            simp only [Act.put, List.setIfInBounds_toArray, List.set_cons_zero, List.set_cons_succ]
            apply St.mix_give
            · rfl
            · rintro L u' wx rfl hcl hrd hag
              go_simp
              try with_reducible rfl
            · exact fun L u' wx hS => hS
            simp only [Act.put, List.setIfInBounds_toArray, List.set_cons_zero, List.set_cons_succ]
            apply St.mix_give
            · rfl
            · rintro L u' wx rfl hcl hrd hag
              go_simp
              try with_reducible rfl
            · exact fun L u' wx hS => hS
            simp only [Act.put, List.setIfInBounds_toArray, List.set_cons_zero, List.set_cons_succ]
            apply St.mix_give
            · rfl
            · rintro L u' wx rfl hcl hrd hag
              go_simp
              try with_reducible rfl
            · exact fun L u' wx hS => hS
            simp only [Act.put, List.setIfInBounds_toArray, List.set_cons_zero, List.set_cons_succ]
            apply St.mix_give
            · rfl
            · rintro L u' wx rfl hcl hrd hag
              go_simp
              try with_reducible rfl
            · exact fun L u' wx hS => hS
            simp only [Act.put, List.setIfInBounds_toArray, List.set_cons_zero, List.set_cons_succ]
            apply St.mix_give
            · rfl
            · rintro L u' wx rfl hcl hrd hag
              go_simp
              try with_reducible rfl
            · exact fun L u' wx hS => hS
            simp only [Act.put, List.setIfInBounds_toArray, List.set_cons_zero, List.set_cons_succ]
            apply St.mix_give
            · rfl
            · rintro L u' wx rfl hcl hrd hag
              go_simp
              try with_reducible rfl
            · exact fun L u' wx hS => hS
            simp only [Act.put, List.setIfInBounds_toArray, List.set_cons_zero, List.set_cons_succ]
            apply St.mix_give
            · rfl
            · rintro L u' wx rfl hcl hrd hag
              go_simp
              try with_reducible rfl
            · exact fun L u' wx hS => hS
            simp only [Act.put, List.setIfInBounds_toArray, List.set_cons_zero, List.set_cons_succ]
            apply St.mix_give
            · rfl
            · rintro L u' wx rfl hcl hrd hag
              go_simp
              try with_reducible rfl
            · exact fun L u' wx hS => hS
            simp only [Act.put, List.setIfInBounds_toArray, List.set_cons_zero, List.set_cons_succ]
            apply St.mix_give
            · rfl
            · rintro L u' wx rfl hcl hrd hag
              go_simp
              try with_reducible rfl
            · exact fun L u' wx hS => hS
            simp only [Act.put, List.setIfInBounds_toArray, List.set_cons_zero, List.set_cons_succ]
            apply St.mix_give
            · rfl
            · rintro L u' wx rfl hcl hrd hag
              go_simp
              try with_reducible rfl
            · exact fun L u' wx hS => hS
            simp only [Act.put, List.setIfInBounds_toArray, List.set_cons_zero, List.set_cons_succ]
            apply St.mix_give
            · rfl
            · rintro L u' wx rfl hcl hrd hag
              go_simp
              try with_reducible rfl
            · exact fun L u' wx hS => hS
            simp only [Act.put, List.setIfInBounds_toArray, List.set_cons_zero, List.set_cons_succ]
            refine St.mix_last ?_
            rintro L wx rfl hall
            obtain ⟨we, hwe⟩ : ∃ we, World.drew wx = we := ⟨_, rfl⟩
            have Z1 : BoxS wr.heap.size zeroZ we := hwe ▸ Z0.drew
            have d0we : we.cell? ⟨B0, 0, none⟩ = some (.slice (some ⟨ba, oa, none⟩) na ca) := by rw [← hwe]; exact d0
            have d1we : we.cell? ⟨B1, 0, none⟩ = some (.slice (some ⟨bb, ob, none⟩) nb cb) := by rw [← hwe]; exact d1
            clear d0 d1
            have d0 := d0we
            have d1 := d1we
            clear d0we d1we
            have hb1we : Below wr.heap.size wr we := by rw [← hwe]; exact hb1.drew
            clear hb1
            have hb1 := hb1we
            clear hb1we
            clear r_0 r_1 r_2 r_3 r_4 r_5 r_6 r_7 r_8
            obtain ⟨r_0, ⟨r_1, r_2, r_3, r_4, r_5, r_6, r_7⟩, r_8⟩ := _root_.id Z1
            have qa1 : Cs we ba (oa + i * 7) (sa, .slice Sa 0 ga) := hwe ▸ qa.keep fun _ => rfl
            clear a_1 a_2 a_3 a_4 a_5 a_6 a_7
            obtain ⟨a_1, a_2, a_3, a_4, a_5, a_6, a_7⟩ := _root_.id qa1
            have qb1 : Cs we bb (ob + j * 7) (sb, .slice Sb 0 gb) := hwe ▸ qb.keep fun _ => rfl
            clear b_1 b_2 b_3 b_4 b_5 b_6 b_7
            obtain ⟨b_1, b_2, b_3, b_4, b_5, b_6, b_7⟩ := _root_.id qb1
            iterate 6 try (first | go_values | gi_guarded | gi_step | gi_upon)
            refine St.wpIn_region_calm (fun _ _ wx => wx = we) (by kernel_rfl) mixB (by kernel_rfl) (by kernel_rfl) hwe ?_
            apply St.mix_give
            · rfl
            · rintro L u' wx rfl hcl hrd hag
              go_simp
              try with_reducible rfl
            · exact fun L u' wx hS => hS
            simp only [Act.put, List.setIfInBounds_toArray, List.set_cons_zero, List.set_cons_succ]
            apply St.mix_give
            · rfl
            · rintro L u' wx rfl hcl hrd hag
              go_simp
              try with_reducible rfl
            · exact fun L u' wx hS => hS
            simp only [Act.put, List.setIfInBounds_toArray, List.set_cons_zero, List.set_cons_succ]
            apply St.mix_give
            · rfl
            · rintro L u' wx rfl hcl hrd hag
              go_simp
              try with_reducible rfl
            · exact fun L u' wx hS => hS
            simp only [Act.put, List.setIfInBounds_toArray, List.set_cons_zero, List.set_cons_succ]
            apply St.mix_give
            · rfl
            · rintro L u' wx rfl hcl hrd hag
              go_simp
              try with_reducible rfl
            · exact fun L u' wx hS => hS
            simp only [Act.put, List.setIfInBounds_toArray, List.set_cons_zero, List.set_cons_succ]
            apply St.mix_give
            · rfl
            · rintro L u' wx rfl hcl hrd hag
              go_simp
              try with_reducible rfl
            · exact fun L u' wx hS => hS
            simp only [Act.put, List.setIfInBounds_toArray, List.set_cons_zero, List.set_cons_succ]
            apply St.mix_give
            · rfl
            · rintro L u' wx rfl hcl hrd hag
              go_simp
              try with_reducible rfl
            · exact fun L u' wx hS => hS
            simp only [Act.put, List.setIfInBounds_toArray, List.set_cons_zero, List.set_cons_succ]
            apply St.mix_give
            · rfl
            · rintro L u' wx rfl hcl hrd hag
              go_simp
              try with_reducible rfl
            · exact fun L u' wx hS => hS
            simp only [Act.put, List.setIfInBounds_toArray, List.set_cons_zero, List.set_cons_succ]
            apply St.mix_give
            · rfl
            · rintro L u' wx rfl hcl hrd hag
              go_simp
              try with_reducible rfl
            · exact fun L u' wx hS => hS
            simp only [Act.put, List.setIfInBounds_toArray, List.set_cons_zero, List.set_cons_succ]
            apply St.mix_give
            · rfl
            · rintro L u' wx rfl hcl hrd hag
              go_simp
              try with_reducible rfl
            · exact fun L u' wx hS => hS
            simp only [Act.put, List.setIfInBounds_toArray, List.set_cons_zero, List.set_cons_succ]
            apply St.mix_give
            · rfl
            · rintro L u' wx rfl hcl hrd hag
              go_simp
              try with_reducible rfl
            · exact fun L u' wx hS => hS
            simp only [Act.put, List.setIfInBounds_toArray, List.set_cons_zero, List.set_cons_succ]
            apply St.mix_give
            · rfl
            · rintro L u' wx rfl hcl hrd hag
              go_simp
              try with_reducible rfl
            · exact fun L u' wx hS => hS
            simp only [Act.put, List.setIfInBounds_toArray, List.set_cons_zero, List.set_cons_succ]
            apply St.mix_give
            · rfl
            · rintro L u' wx rfl hcl hrd hag
              go_simp
              try with_reducible rfl
            · exact fun L u' wx hS => hS
            simp only [Act.put, List.setIfInBounds_toArray, List.set_cons_zero, List.set_cons_succ]
            apply St.mix_give
            · rfl
            · rintro L u' wx rfl hcl hrd hag
              go_simp
              try with_reducible rfl
            · exact fun L u' wx hS => hS
            simp only [Act.put, List.setIfInBounds_toArray, List.set_cons_zero, List.set_cons_succ]
            apply St.mix_give
            · rfl
            · rintro L u' wx rfl hcl hrd hag
              go_simp
              try with_reducible rfl
            · exact fun L u' wx hS => hS
            simp only [Act.put, List.setIfInBounds_toArray, List.set_cons_zero, List.set_cons_succ]
            apply St.mix_give
            · rfl
            · rintro L u' wx rfl hcl hrd hag
              go_simp
              try with_reducible rfl
            · exact fun L u' wx hS => hS
            simp only [Act.put, List.setIfInBounds_toArray, List.set_cons_zero, List.set_cons_succ]
            apply St.mix_give
            · rfl
            · rintro L u' wx rfl hcl hrd hag
              go_simp
              try with_reducible rfl
            · exact fun L u' wx hS => hS
            simp only [Act.put, List.setIfInBounds_toArray, List.set_cons_zero, List.set_cons_succ]
            apply St.mix_give
            · rfl
            · rintro L u' wx rfl hcl hrd hag
              go_simp
              try with_reducible rfl
            · exact fun L u' wx hS => hS
            simp only [Act.put, List.setIfInBounds_toArray, List.set_cons_zero, List.set_cons_succ]
            apply St.mix_give
            · rfl
            · rintro L u' wx rfl hcl hrd hag
              go_simp
              try with_reducible rfl
            · exact fun L u' wx hS => hS
            simp only [Act.put, List.setIfInBounds_toArray, List.set_cons_zero, List.set_cons_succ]
            refine St.mix_last ?_
            rintro L wy rfl hall
            obtain ⟨wf, hwf⟩ : ∃ wf, World.drew wy = wf := ⟨_, rfl⟩
            have Z2 : BoxS wr.heap.size zeroZ wf := hwf ▸ Z1.drew
            have d0wf : wf.cell? ⟨B0, 0, none⟩ = some (.slice (some ⟨ba, oa, none⟩) na ca) := by rw [← hwf]; exact d0
            have d1wf : wf.cell? ⟨B1, 0, none⟩ = some (.slice (some ⟨bb, ob, none⟩) nb cb) := by rw [← hwf]; exact d1
            clear d0 d1
            have d0 := d0wf
            have d1 := d1wf
            clear d0wf d1wf
            have hb1wf : Below wr.heap.size wr wf := by rw [← hwf]; exact hb1.drew
            clear hb1
            have hb1 := hb1wf
            clear hb1wf
            clear r_0 r_1 r_2 r_3 r_4 r_5 r_6 r_7 r_8
            obtain ⟨r_0, ⟨r_1, r_2, r_3, r_4, r_5, r_6, r_7⟩, r_8⟩ := _root_.id Z2
            have qa2 : Cs wf ba (oa + i * 7) (sa, .slice Sa 0 ga) := hwf ▸ qa1.keep fun _ => rfl
            clear a_1 a_2 a_3 a_4 a_5 a_6 a_7
            obtain ⟨a_1, a_2, a_3, a_4, a_5, a_6, a_7⟩ := _root_.id qa2
            have qb2 : Cs wf bb (ob + j * 7) (sb, .slice Sb 0 gb) := hwf ▸ qb1.keep fun _ => rfl
            clear b_1 b_2 b_3 b_4 b_5 b_6 b_7
            obtain ⟨b_1, b_2, b_3, b_4, b_5, b_6, b_7⟩ := _root_.id qb2
            clear a_1 a_2 a_3 a_4 a_5 a_6 a_7 b_1 b_2 b_3 b_4 b_5 b_6 b_7
            clear r_0 r_1 r_2 r_3 r_4 r_5 r_6 r_7 r_8
            have hB0f := World.block_lt_of_cell? _ _ d0
            have hB1f := World.block_lt_of_cell? _ _ d1
            iterate 6 try (first | go_values | gi_guarded | gi_step | gi_upon)
            refine St.wpIn_region_calls (SB wf wr.heap.size (s, .slice S 0 g)) (fun _ x => x = .agg #[.int .i64 s.client, .int .i64 s.seq, .int .i64 s.rep.code, .int .i64 s.rep.err, .bool s.rep.has, .string s.rep.val, .slice S 0 g]) (fun _ => trivial) (fun _ => hn) (fun _ _ _ _ h => callsIn_wide.2 h) (by kernel_rfl) mixB (by kernel_rfl) (by kernel_rfl) ⟨wf, Below.refl _ _, fun _ => hwf, fun h => by cases h⟩ ?_
            iterate 8
              apply St.mix_give
              · rfl
              · rintro L u' wv ⟨wg, hby, h0, h1⟩ hcl hrd hag
                have e0 := h0 (St.not_yet hcl hrd 10 9 (by kernel_rfl))
                clear h0 h1
                subst e0
                have y0 := (hby.cell (p := ⟨B0, 0, none⟩) hB0f).trans d0
                have y1 := (hby.cell (p := ⟨B1, 0, none⟩) hB1f).trans d1
                obtain ⟨x_1, x_2, x_3, x_4, x_5, x_6, x_7⟩ := qa2.later hby
                obtain ⟨t_1, t_2, t_3, t_4, t_5, t_6, t_7⟩ := qb2.later hby
                obtain ⟨z_0, ⟨z_1, z_2, z_3, z_4, z_5, z_6, z_7⟩, z_8⟩ := Z2.keep hby
                go_simp
                try with_reducible rfl
              · exact fun L u' wx hS => hS
              simp only [Act.put, List.setIfInBounds_toArray, List.set_cons_zero, List.set_cons_succ]
            refine St.mix_into (v := .agg #[.int .i64 s.client, .int .i64 s.seq, .int .i64 s.rep.code, .int .i64 s.rep.err, .bool s.rep.has, .string s.rep.val, .slice S 0 g]) (f := 43) (args := #[sv (sa, .slice Sa 0 ga), sv (sb, .slice Sb 0 gb)]) rfl rfl ?_ ?_ ?_
            · intro wv
              go_simp
              try with_reducible rfl
            · rintro L u' wv ⟨wg, hby, h0, h1⟩ hcl hrd hag
              have h9 := St.not_yet hcl hrd 10 9 (by kernel_rfl)
              have e0 := h0 h9
              clear h0 h1
              subst e0
              refine (later_any sa sb Sa Sb ga gb _).mono ?_
              rintro e w1 ⟨rfl, hb⟩
              exact ⟨by rw [hL], w1, hby.trans (hb.mono hby.size), fun _ => rfl, fun h => absurd ((show L 9 = true from h).symm.trans h9) (by simp)⟩
            simp only [Act.put, List.setIfInBounds_toArray, List.set_cons_zero, List.set_cons_succ]
            refine St.mix_skip rfl ?_ ?_
            · rintro L u' wv ⟨wg, hby, h0, h1⟩ hcl hrd hag
              have e0 := h0 (hrd.1)
              clear h0 h1
              subst e0
              have y0 := (hby.cell (p := ⟨B0, 0, none⟩) hB0f).trans d0
              have y1 := (hby.cell (p := ⟨B1, 0, none⟩) hB1f).trans d1
              obtain ⟨x_1, x_2, x_3, x_4, x_5, x_6, x_7⟩ := qa2.later hby
              obtain ⟨t_1, t_2, t_3, t_4, t_5, t_6, t_7⟩ := qb2.later hby
              obtain ⟨z_0, ⟨z_1, z_2, z_3, z_4, z_5, z_6, z_7⟩, z_8⟩ := Z2.keep hby
              refine ⟨putS7 wv wr.heap.size (s, .slice S 0 g), ?_, wv, hby, fun h => absurd h (by simp [St.mark]), fun _ => rfl⟩
              simp only [putS7]
              go_simp
              try with_reducible rfl
            simp only [Act.put]
            refine St.mix_last ?_
            rintro L wv ⟨wg, hby, h0, h1⟩ hall
            have e1 := h1 (hall 9 (by decide))
            clear hall h1 h0
            subst e1
            have hb2' : Below wr.heap.size wr wg := hb1.trans (hby.mono hb1.size)
            clear hb1
            have hb1 := hb2'
            clear hb2'
            obtain ⟨z_0, ⟨z_1, z_2, z_3, z_4, z_5, z_6, z_7⟩, z_8⟩ := Z2.keep hby
            simp only [putS7]
            iterate 38 try (first | go_values | gi_guarded | gi_step | gi_upon | go_simp)
            obtain ⟨W2, hW2⟩ : ∃ W2, putS7 wg wr.heap.size (s, .slice S 0 g) = W2 := ⟨_, rfl⟩
            have hb2 : Below wr.heap.size wr W2 := hW2 ▸ (putS7_below hb1 (Nat.le_refl _) : Below wr.heap.size wr (putS7 wg wr.heap.size (s, .slice S 0 g)))
            change Oper.wpIn _ _ _ _ _ (putS7 wg wr.heap.size (s, .slice S 0 g)) _ _
            rw [hW2]
            clear hW2
            have hkp2 : KpB N B0 B1 W W2 := kpB_t hkp (kpB_of hb2 hNw hB0w hB1w)
            have hJ2 : J pre W2 := hJd _ wr W2 none hJs ⟨hb2.os, hb2.tape, hb2.output, hb2.size, fun k hk _ => hb2.block k hk⟩ (fun r e => by cases e)
            obtain ⟨hz, hT, hkm⟩ := nth_head HB.out HE.out
            have HK : Hid (k < m) := Lib.hid (by have := hm.out; omega)
            obtain ⟨fn, tmps, assign, body, hy, hR⟩ := hY _ (⟨k, HK.out⟩ : Ix m) W2 hJ2 (by rw [vals_length HP.out.2]; exact HK.out)
            dsimp only at hy
            rw [hz] at hy
            dsimp only [sv] at hy
            have HB2 : Hid (bothG fS (za.drop (i + 1)) (zb.drop (j + 1)) = (bothG fS za zb).drop (k + 1)) := Lib.hid (hT)
            clear hz hT hkm HB HE
            gi_wp2
            refine hR.mono ?_
            rintro e W3 (⟨rfl, hJ3, hk3⟩ | ⟨rfl, hJx3⟩)
            · gi_wp2
              go_roundw
              case rel => exact ⟨i + 1, j + 1, k + 1, _, by omega, by omega, by go_num, by go_num, HB2, Lib.hid ⟨HK.out, vals_snoc HP.out.2 HK.out⟩, hJ3, kpB_t hkp2 hk3, Below.refl _ _⟩
              case measure => simp [intOf]; omega
            · gi_wp2
              refine bodyPost_ret (results_none rfl _ _ _) rfl ?_
              exact ⟨⟨_, rfl⟩, .inr ⟨_, ⟨k + 1, HK.out, vals_snoc HP.out.2 HK.out⟩, hJx3⟩⟩
      · obtain rfl : nb = j := by omega
        obtain ⟨W1, hW1⟩ : ∃ W1, wr.alloc (.cells #[.int .i64 0, .int .i64 0, .int .i64 0, .int .i64 0, .bool false, .string ⟨#[]⟩, .slice none 0 0] 28) = W1 := ⟨_, rfl⟩
        obtain ⟨wd, hwd⟩ : ∃ wd, W1.drew = wd := ⟨_, rfl⟩
        have Z0 : BoxS wr.heap.size zeroZ wd := hwd ▸ (hW1 ▸ BoxS.zero wr : BoxS wr.heap.size zeroZ W1).drew
        have d0 : wd.cell? ⟨B0, 0, none⟩ = some (.slice A na ca) := by rw [← hwd, World.cell?_drew, ← hW1, World.cell?_alloc_lt _ _ _ (World.block_lt_of_cell? _ _ c0)]; exact c0
        have d1 : wd.cell? ⟨B1, 0, none⟩ = some (.slice D nb cb) := by rw [← hwd, World.cell?_drew, ← hW1, World.cell?_alloc_lt _ _ _ (World.block_lt_of_cell? _ _ c1)]; exact c1
        have hb1 : Below wr.heap.size wr wd := by rw [← hwd, ← hW1]; exact ((Below.refl _ wr).alloc (Nat.le_refl _) _).drew
        obtain ⟨r_0, ⟨r_1, r_2, r_3, r_4, r_5, r_6, r_7⟩, r_8⟩ := _root_.id Z0
        have hal : i < za.length := by have := HNA.out; omega
        obtain ⟨sa, Sa, ga, esa⟩ := nopz hpa hal
        obtain ⟨ba, oa, rfl, hbla, hcsa⟩ := (HVA.out.keep hkp.1).at_ hal
        rw [esa] at hcsa
        have hda : za.drop i = (sa, .slice Sa 0 ga) :: za.drop (i + 1) := by rw [List.drop_eq_getElem_cons hal, esa]
        have qa : Cs wd ba (oa + i * 7) (sa, .slice Sa 0 ga) := hwd ▸ (hW1 ▸ hcsa.alloc (.cells #[.int .i64 0, .int .i64 0, .int .i64 0, .int .i64 0, .bool false, .string ⟨#[]⟩, .slice none 0 0] 28) : Cs W1 ba (oa + i * 7) (sa, .slice Sa 0 ga)).keep fun _ => rfl
        obtain ⟨a_1, a_2, a_3, a_4, a_5, a_6, a_7⟩ := _root_.id qa
        have la : (i : Int) < (na : Int) := by have := HNA.out; omega
        have la0 : (0 ≤ (i : Int)) = True := eq_true (by omega)
        have la1 : ((i : Int) < (na : Int)) = True := eq_true (by omega)
        have la2 : ((i : Int) = (na : Int)) = False := eq_false (by omega)
        have la5 : ((i : Int) == (na : Int)) = false := beq_false_of_ne (by omega)
        have la3 : IntKind.i64.wrap ((i : Int) + 1) = (i : Int) + 1 := by rw [IntKind.wrap_i64]; omega
        clear hal esa hcsa
        have HE : Hid (bothG fS (za.drop i) (zb.drop nb) = (sa, .slice Sa 0 ga) :: za.drop (i + 1)) := Lib.hid (by
          rw [List.drop_eq_nil_of_le (by have := HNB.out; omega : zb.length ≤ nb), bothG_end, hda])
        clear hda hb ha
        gi_wp2
        refine St.wpIn_region_calm (fun _ _ wx => wx = wd) (by kernel_rfl) mixB (by kernel_rfl) (by kernel_rfl) hwd ?_
        apply St.mix_give
        · rfl
        · rintro L u' wx rfl hcl hrd hag
          go_simp
          try with_reducible rfl
        · exact fun L u' wx hS => hS
        simp only [Act.put, List.setIfInBounds_toArray, List.set_cons_zero, List.set_cons_succ]
        apply St.mix_give
        · rfl
        · rintro L u' wx rfl hcl hrd hag
          go_simp
          try with_reducible rfl
        · exact fun L u' wx hS => hS
        simp only [Act.put, List.setIfInBounds_toArray, List.set_cons_zero, List.set_cons_succ]
        apply St.mix_give
        · rfl
        · rintro L u' wx rfl hcl hrd hag
          go_simp
          try with_reducible rfl
        · exact fun L u' wx hS => hS
        simp only [Act.put, List.setIfInBounds_toArray, List.set_cons_zero, List.set_cons_succ]
        apply St.mix_give
        · rfl
        · rintro L u' wx rfl hcl hrd hag
          go_simp
          try with_reducible rfl
        · exact fun L u' wx hS => hS
        simp only [Act.put, List.setIfInBounds_toArray, List.set_cons_zero, List.set_cons_succ]
        apply St.mix_give
        · rfl
        · rintro L u' wx rfl hcl hrd hag
          go_simp
          try with_reducible rfl
        · exact fun L u' wx hS => hS
        simp only [Act.put, List.setIfInBounds_toArray, List.set_cons_zero, List.set_cons_succ]
        apply St.mix_past
        · rfl
        · exact fun L u' wx hS => hS
        simp only [Act.put, List.setIfInBounds_toArray, List.set_cons_zero, List.set_cons_succ]
        apply St.mix_past
        · rfl
        · exact fun L u' wx hS => hS
        simp only [Act.put, List.setIfInBounds_toArray, List.set_cons_zero, List.set_cons_succ]
        apply St.mix_past
        · rfl
        · exact fun L u' wx hS => hS
        simp only [Act.put, List.setIfInBounds_toArray, List.set_cons_zero, List.set_cons_succ]
        apply St.mix_past
        · rfl
        · exact fun L u' wx hS => hS
        simp only [Act.put, List.setIfInBounds_toArray, List.set_cons_zero, List.set_cons_succ]
        apply St.mix_past
        · rfl
        · exact fun L u' wx hS => hS
        simp only [Act.put, List.setIfInBounds_toArray, List.set_cons_zero, List.set_cons_succ]
        apply St.mix_past
        · rfl
        · exact fun L u' wx hS => hS
        simp only [Act.put, List.setIfInBounds_toArray, List.set_cons_zero, List.set_cons_succ]
        apply St.mix_past
        · rfl
        · exact fun L u' wx hS => hS
        simp only [Act.put, List.setIfInBounds_toArray, List.set_cons_zero, List.set_cons_succ]
        apply St.mix_past
        · rfl
        · exact fun L u' wx hS => hS
        simp only [Act.put, List.setIfInBounds_toArray, List.set_cons_zero, List.set_cons_succ]
        apply St.mix_past
        · rfl
        · exact fun L u' wx hS => hS
        simp only [Act.put, List.setIfInBounds_toArray, List.set_cons_zero, List.set_cons_succ]
        apply St.mix_past
        · rfl
        · exact fun L u' wx hS => hS
        simp only [Act.put, List.setIfInBounds_toArray, List.set_cons_zero, List.set_cons_succ]
        apply St.mix_past
        · rfl
        · exact fun L u' wx hS => hS
        simp only [Act.put, List.setIfInBounds_toArray, List.set_cons_zero, List.set_cons_succ]
        apply St.mix_past
        · rfl
        · exact fun L u' wx hS => hS
        simp only [Act.put, List.setIfInBounds_toArray, List.set_cons_zero, List.set_cons_succ]
        apply St.mix_past
        · rfl
        · exact fun L u' wx hS => hS
        simp only [Act.put, List.setIfInBounds_toArray, List.set_cons_zero, List.set_cons_succ]
        apply St.mix_past
        · rfl
        · exact fun L u' wx hS => hS
        simp only [Act.put, List.setIfInBounds_toArray, List.set_cons_zero, List.set_cons_succ]
        apply St.mix_past
        · rfl
        · exact fun L u' wx hS => hS
        simp only [Act.put, List.setIfInBounds_toArray, List.set_cons_zero, List.set_cons_succ]
        apply St.mix_past
        · rfl
        · exact fun L u' wx hS => hS
        simp only [Act.put, List.setIfInBounds_toArray, List.set_cons_zero, List.set_cons_succ]
        apply St.mix_past
        · rfl
        · exact fun L u' wx hS => hS
        simp only [Act.put, List.setIfInBounds_toArray, List.set_cons_zero, List.set_cons_succ]
        apply St.mix_give
        · rfl
        · rintro L u' wx rfl hcl hrd hag
          go_simp
          try with_reducible rfl
        · exact fun L u' wx hS => hS
        simp only [Act.put, List.setIfInBounds_toArray, List.set_cons_zero, List.set_cons_succ]
        apply St.mix_give
        · rfl
        · rintro L u' wx rfl hcl hrd hag
          go_simp
          try with_reducible rfl
        · exact fun L u' wx hS => hS
        simp only [Act.put, List.setIfInBounds_toArray, List.set_cons_zero, List.set_cons_succ]
        refine St.mix_last ?_
        rintro L wx rfl hall
        iterate 45 try (first | go_values | gi_guarded | gi_step | gi_upon | go_simp)
        obtain ⟨W2, hW2⟩ : ∃ W2, putS7 wx wr.heap.size (sa, .slice Sa 0 ga) = W2 := ⟨_, rfl⟩
        have hb2 : Below wr.heap.size wr W2 := hW2 ▸ (putS7_below hb1 (Nat.le_refl _) : Below wr.heap.size wr (putS7 wx wr.heap.size (sa, .slice Sa 0 ga)))
        change Oper.wpIn _ _ _ _ _ (putS7 wx wr.heap.size (sa, .slice Sa 0 ga)) _ _
        rw [hW2]
        clear hW2
        have hkp2 : KpB N B0 B1 W W2 := kpB_t hkp (kpB_of hb2 hNw hB0w hB1w)
        have hJ2 : J pre W2 := hJd _ wr W2 none hJs ⟨hb2.os, hb2.tape, hb2.output, hb2.size, fun k hk _ => hb2.block k hk⟩ (fun r e => by cases e)
        obtain ⟨hz, hT, hkm⟩ := nth_head HB.out HE.out
        have HK : Hid (k < m) := Lib.hid (by have := hm.out; omega)
        obtain ⟨fn, tmps, assign, body, hy, hR⟩ := hY _ (⟨k, HK.out⟩ : Ix m) W2 hJ2 (by rw [vals_length HP.out.2]; exact HK.out)
        dsimp only at hy
        rw [hz] at hy
        dsimp only [sv] at hy
        have HB2 : Hid (bothG fS (za.drop (i + 1)) (zb.drop (nb)) = (bothG fS za zb).drop (k + 1)) := Lib.hid (by rw [List.drop_eq_nil_of_le (by have := HNB.out; omega : zb.length ≤ nb), bothG_end]; exact hT)
        clear hz hT hkm HB HE
        gi_wp2
        refine hR.mono ?_
        rintro e W3 (⟨rfl, hJ3, hk3⟩ | ⟨rfl, hJx3⟩)
        · gi_wp2
          go_roundw
          case rel => exact ⟨i + 1, nb, k + 1, _, by omega, by omega, by go_num, rfl, HB2, Lib.hid ⟨HK.out, vals_snoc HP.out.2 HK.out⟩, hJ3, kpB_t hkp2 hk3, Below.refl _ _⟩
          case measure => simp [intOf]; omega
        · gi_wp2
          refine bodyPost_ret (results_none rfl _ _ _) rfl ?_
          exact ⟨⟨_, rfl⟩, .inr ⟨_, ⟨k + 1, HK.out, vals_snoc HP.out.2 HK.out⟩, hJx3⟩⟩
    · by_cases hb : j < nb
      · obtain rfl : na = i := by omega
        obtain ⟨W1, hW1⟩ : ∃ W1, wr.alloc (.cells #[.int .i64 0, .int .i64 0, .int .i64 0, .int .i64 0, .bool false, .string ⟨#[]⟩, .slice none 0 0] 28) = W1 := ⟨_, rfl⟩
        obtain ⟨wd, hwd⟩ : ∃ wd, W1.drew = wd := ⟨_, rfl⟩
        have Z0 : BoxS wr.heap.size zeroZ wd := hwd ▸ (hW1 ▸ BoxS.zero wr : BoxS wr.heap.size zeroZ W1).drew
        have d0 : wd.cell? ⟨B0, 0, none⟩ = some (.slice A na ca) := by rw [← hwd, World.cell?_drew, ← hW1, World.cell?_alloc_lt _ _ _ (World.block_lt_of_cell? _ _ c0)]; exact c0
        have d1 : wd.cell? ⟨B1, 0, none⟩ = some (.slice D nb cb) := by rw [← hwd, World.cell?_drew, ← hW1, World.cell?_alloc_lt _ _ _ (World.block_lt_of_cell? _ _ c1)]; exact c1
        have hb1 : Below wr.heap.size wr wd := by rw [← hwd, ← hW1]; exact ((Below.refl _ wr).alloc (Nat.le_refl _) _).drew
        obtain ⟨r_0, ⟨r_1, r_2, r_3, r_4, r_5, r_6, r_7⟩, r_8⟩ := _root_.id Z0
        have hbl : j < zb.length := by have := HNB.out; omega
        obtain ⟨sb, Sb, gb, esb⟩ := nopz hpb hbl
        obtain ⟨bb, ob, rfl, hblb, hcsb⟩ := (HVB.out.keep hkp.1).at_ hbl
        rw [esb] at hcsb
        have hdb : zb.drop j = (sb, .slice Sb 0 gb) :: zb.drop (j + 1) := by rw [List.drop_eq_getElem_cons hbl, esb]
        have qb : Cs wd bb (ob + j * 7) (sb, .slice Sb 0 gb) := hwd ▸ (hW1 ▸ hcsb.alloc (.cells #[.int .i64 0, .int .i64 0, .int .i64 0, .int .i64 0, .bool false, .string ⟨#[]⟩, .slice none 0 0] 28) : Cs W1 bb (ob + j * 7) (sb, .slice Sb 0 gb)).keep fun _ => rfl
        obtain ⟨b_1, b_2, b_3, b_4, b_5, b_6, b_7⟩ := _root_.id qb
        have lb : (j : Int) < (nb : Int) := by have := HNB.out; omega
        have lb0 : (0 ≤ (j : Int)) = True := eq_true (by omega)
        have lb1 : ((j : Int) < (nb : Int)) = True := eq_true (by omega)
        have lb2 : ((j : Int) = (nb : Int)) = False := eq_false (by omega)
        have lb5 : ((j : Int) == (nb : Int)) = false := beq_false_of_ne (by omega)
        have lb3 : IntKind.i64.wrap ((j : Int) + 1) = (j : Int) + 1 := by rw [IntKind.wrap_i64]; omega
        clear hbl esb hcsb
        have HE : Hid (bothG fS (za.drop na) (zb.drop j) = (sb, .slice Sb 0 gb) :: zb.drop (j + 1)) := Lib.hid (by
          rw [List.drop_eq_nil_of_le (by have := HNA.out; omega : za.length ≤ na), bothG_nil, hdb])
        clear hdb hb ha
        gi_wp2
        refine St.wpIn_region_calm (fun _ _ wx => wx = wd) (by kernel_rfl) mixB (by kernel_rfl) (by kernel_rfl) hwd ?_
        apply St.mix_give
        · rfl
        · rintro L u' wx rfl hcl hrd hag
          go_simp
          try with_reducible rfl
        · exact fun L u' wx hS => hS
        simp only [Act.put, List.setIfInBounds_toArray, List.set_cons_zero, List.set_cons_succ]
        apply St.mix_give
        · rfl
        · rintro L u' wx rfl hcl hrd hag
          go_simp
          try with_reducible rfl
        · exact fun L u' wx hS => hS
        simp only [Act.put, List.setIfInBounds_toArray, List.set_cons_zero, List.set_cons_succ]
        apply St.mix_give
        · rfl
        · rintro L u' wx rfl hcl hrd hag
          go_simp
          try with_reducible rfl
        · exact fun L u' wx hS => hS
        simp only [Act.put, List.setIfInBounds_toArray, List.set_cons_zero, List.set_cons_succ]
        apply St.mix_give
        · rfl
        · rintro L u' wx rfl hcl hrd hag
          go_simp
          try with_reducible rfl
        · exact fun L u' wx hS => hS
        simp only [Act.put, List.setIfInBounds_toArray, List.set_cons_zero, List.set_cons_succ]
        apply St.mix_give
        · rfl
        · rintro L u' wx rfl hcl hrd hag
          go_simp
          try with_reducible rfl
        · exact fun L u' wx hS => hS
        simp only [Act.put, List.setIfInBounds_toArray, List.set_cons_zero, List.set_cons_succ]
        apply St.mix_give
        · rfl
        · rintro L u' wx rfl hcl hrd hag
          go_simp
          try with_reducible rfl
        · exact fun L u' wx hS => hS
        simp only [Act.put, List.setIfInBounds_toArray, List.set_cons_zero, List.set_cons_succ]
        apply St.mix_give
        · rfl
        · rintro L u' wx rfl hcl hrd hag
          go_simp
          try with_reducible rfl
        · exact fun L u' wx hS => hS
        simp only [Act.put, List.setIfInBounds_toArray, List.set_cons_zero, List.set_cons_succ]
        apply St.mix_give
        · rfl
        · rintro L u' wx rfl hcl hrd hag
          go_simp
          try with_reducible rfl
        · exact fun L u' wx hS => hS
        simp only [Act.put, List.setIfInBounds_toArray, List.set_cons_zero, List.set_cons_succ]
        apply St.mix_give
        · rfl
        · rintro L u' wx rfl hcl hrd hag
          go_simp
          try with_reducible rfl
        · exact fun L u' wx hS => hS
        simp only [Act.put, List.setIfInBounds_toArray, List.set_cons_zero, List.set_cons_succ]
        apply St.mix_give
        · rfl
        · rintro L u' wx rfl hcl hrd hag
          go_simp
          try with_reducible rfl
        · exact fun L u' wx hS => hS
        simp only [Act.put, List.setIfInBounds_toArray, List.set_cons_zero, List.set_cons_succ]
        apply St.mix_past
        · rfl
        · exact fun L u' wx hS => hS
        simp only [Act.put, List.setIfInBounds_toArray, List.set_cons_zero, List.set_cons_succ]
        apply St.mix_past
        · rfl
        · exact fun L u' wx hS => hS
        simp only [Act.put, List.setIfInBounds_toArray, List.set_cons_zero, List.set_cons_succ]
        apply St.mix_past
        · rfl
        · exact fun L u' wx hS => hS
        simp only [Act.put, List.setIfInBounds_toArray, List.set_cons_zero, List.set_cons_succ]
        apply St.mix_past
        · rfl
        · exact fun L u' wx hS => hS
        simp only [Act.put, List.setIfInBounds_toArray, List.set_cons_zero, List.set_cons_succ]
        apply St.mix_past
        · rfl
        · exact fun L u' wx hS => hS
        simp only [Act.put, List.setIfInBounds_toArray, List.set_cons_zero, List.set_cons_succ]
        apply St.mix_past
        · rfl
        · exact fun L u' wx hS => hS
        simp only [Act.put, List.setIfInBounds_toArray, List.set_cons_zero, List.set_cons_succ]
        apply St.mix_past
        · rfl
        · exact fun L u' wx hS => hS
        simp only [Act.put, List.setIfInBounds_toArray, List.set_cons_zero, List.set_cons_succ]
        apply St.mix_past
        · rfl
        · exact fun L u' wx hS => hS
        simp only [Act.put, List.setIfInBounds_toArray, List.set_cons_zero, List.set_cons_succ]
        apply St.mix_past
        · rfl
        · exact fun L u' wx hS => hS
        simp only [Act.put, List.setIfInBounds_toArray, List.set_cons_zero, List.set_cons_succ]
        apply St.mix_past
        · rfl
        · exact fun L u' wx hS => hS
        simp only [Act.put, List.setIfInBounds_toArray, List.set_cons_zero, List.set_cons_succ]
        apply St.mix_past
        · rfl
        · exact fun L u' wx hS => hS
        simp only [Act.put, List.setIfInBounds_toArray, List.set_cons_zero, List.set_cons_succ]
        apply St.mix_give
        · rfl
        · rintro L u' wx rfl hcl hrd hag
          go_simp
          try with_reducible rfl
        · exact fun L u' wx hS => hS
        simp only [Act.put, List.setIfInBounds_toArray, List.set_cons_zero, List.set_cons_succ]
        apply St.mix_give
        · rfl
        · rintro L u' wx rfl hcl hrd hag
          go_simp
          try with_reducible rfl
        · exact fun L u' wx hS => hS
        simp only [Act.put, List.setIfInBounds_toArray, List.set_cons_zero, List.set_cons_succ]
        apply St.mix_give
        · rfl
        · rintro L u' wx rfl hcl hrd hag
          go_simp
          try with_reducible rfl
        · exact fun L u' wx hS => hS
        simp only [Act.put, List.setIfInBounds_toArray, List.set_cons_zero, List.set_cons_succ]
        refine St.mix_last ?_
        rintro L wx rfl hall
        obtain ⟨we, hwe⟩ : ∃ we, World.drew wx = we := ⟨_, rfl⟩
        have Z1 : BoxS wr.heap.size zeroZ we := hwe ▸ Z0.drew
        have d0we : we.cell? ⟨B0, 0, none⟩ = some (.slice A na ca) := by rw [← hwe]; exact d0
        have d1we : we.cell? ⟨B1, 0, none⟩ = some (.slice (some ⟨bb, ob, none⟩) nb cb) := by rw [← hwe]; exact d1
        clear d0 d1
        have d0 := d0we
        have d1 := d1we
        clear d0we d1we
        have hb1we : Below wr.heap.size wr we := by rw [← hwe]; exact hb1.drew
        clear hb1
        have hb1 := hb1we
        clear hb1we
        clear r_0 r_1 r_2 r_3 r_4 r_5 r_6 r_7 r_8
        obtain ⟨r_0, ⟨r_1, r_2, r_3, r_4, r_5, r_6, r_7⟩, r_8⟩ := _root_.id Z1
        have qb1 : Cs we bb (ob + j * 7) (sb, .slice Sb 0 gb) := hwe ▸ qb.keep fun _ => rfl
        clear b_1 b_2 b_3 b_4 b_5 b_6 b_7
        obtain ⟨b_1, b_2, b_3, b_4, b_5, b_6, b_7⟩ := _root_.id qb1
        iterate 6 try (first | go_values | gi_guarded | gi_step | gi_upon)
        refine St.wpIn_region_calm (fun _ _ wx => wx = we) (by kernel_rfl) mixB (by kernel_rfl) (by kernel_rfl) hwe ?_
        apply St.mix_give
        · rfl
        · rintro L u' wx rfl hcl hrd hag
          go_simp
          try with_reducible rfl
        · exact fun L u' wx hS => hS
        simp only [Act.put, List.setIfInBounds_toArray, List.set_cons_zero, List.set_cons_succ]
        apply St.mix_give
        · rfl
        · rintro L u' wx rfl hcl hrd hag
          go_simp
          try with_reducible rfl
        · exact fun L u' wx hS => hS
        simp only [Act.put, List.setIfInBounds_toArray, List.set_cons_zero, List.set_cons_succ]
        apply St.mix_give
        · rfl
        · rintro L u' wx rfl hcl hrd hag
          go_simp
          try with_reducible rfl
        · exact fun L u' wx hS => hS
        simp only [Act.put, List.setIfInBounds_toArray, List.set_cons_zero, List.set_cons_succ]
        apply St.mix_give
        · rfl
        · rintro L u' wx rfl hcl hrd hag
          go_simp
          try with_reducible rfl
        · exact fun L u' wx hS => hS
        simp only [Act.put, List.setIfInBounds_toArray, List.set_cons_zero, List.set_cons_succ]
        apply St.mix_give
        · rfl
        · rintro L u' wx rfl hcl hrd hag
          go_simp
          try with_reducible rfl
        · exact fun L u' wx hS => hS
        simp only [Act.put, List.setIfInBounds_toArray, List.set_cons_zero, List.set_cons_succ]
        apply St.mix_past
        · rfl
        · exact fun L u' wx hS => hS
        simp only [Act.put, List.setIfInBounds_toArray, List.set_cons_zero, List.set_cons_succ]
        apply St.mix_past
        · rfl
        · exact fun L u' wx hS => hS
        simp only [Act.put, List.setIfInBounds_toArray, List.set_cons_zero, List.set_cons_succ]
        apply St.mix_past
        · rfl
        · exact fun L u' wx hS => hS
        simp only [Act.put, List.setIfInBounds_toArray, List.set_cons_zero, List.set_cons_succ]
        apply St.mix_past
        · rfl
        · exact fun L u' wx hS => hS
        simp only [Act.put, List.setIfInBounds_toArray, List.set_cons_zero, List.set_cons_succ]
        apply St.mix_past
        · rfl
        · exact fun L u' wx hS => hS
        simp only [Act.put, List.setIfInBounds_toArray, List.set_cons_zero, List.set_cons_succ]
        apply St.mix_past
        · rfl
        · exact fun L u' wx hS => hS
        simp only [Act.put, List.setIfInBounds_toArray, List.set_cons_zero, List.set_cons_succ]
        apply St.mix_past
        · rfl
        · exact fun L u' wx hS => hS
        simp only [Act.put, List.setIfInBounds_toArray, List.set_cons_zero, List.set_cons_succ]
        apply St.mix_past
        · rfl
        · exact fun L u' wx hS => hS
        simp only [Act.put, List.setIfInBounds_toArray, List.set_cons_zero, List.set_cons_succ]
        apply St.mix_past
        · rfl
        · exact fun L u' wx hS => hS
        simp only [Act.put, List.setIfInBounds_toArray, List.set_cons_zero, List.set_cons_succ]
        apply St.mix_past
        · rfl
        · exact fun L u' wx hS => hS
        simp only [Act.put, List.setIfInBounds_toArray, List.set_cons_zero, List.set_cons_succ]
        apply St.mix_past
        · rfl
        · exact fun L u' wx hS => hS
        simp only [Act.put, List.setIfInBounds_toArray, List.set_cons_zero, List.set_cons_succ]
        apply St.mix_give
        · rfl
        · rintro L u' wx rfl hcl hrd hag
          go_simp
          try with_reducible rfl
        · exact fun L u' wx hS => hS
        simp only [Act.put, List.setIfInBounds_toArray, List.set_cons_zero, List.set_cons_succ]
        apply St.mix_give
        · rfl
        · rintro L u' wx rfl hcl hrd hag
          go_simp
          try with_reducible rfl
        · exact fun L u' wx hS => hS
        simp only [Act.put, List.setIfInBounds_toArray, List.set_cons_zero, List.set_cons_succ]
        refine St.mix_last ?_
        rintro L wy rfl hall
        iterate 45 try (first | go_values | gi_guarded | gi_step | gi_upon | go_simp)
        obtain ⟨W2, hW2⟩ : ∃ W2, putS7 wy wr.heap.size (sb, .slice Sb 0 gb) = W2 := ⟨_, rfl⟩
        have hb2 : Below wr.heap.size wr W2 := hW2 ▸ (putS7_below hb1 (Nat.le_refl _) : Below wr.heap.size wr (putS7 wy wr.heap.size (sb, .slice Sb 0 gb)))
        change Oper.wpIn _ _ _ _ _ (putS7 wy wr.heap.size (sb, .slice Sb 0 gb)) _ _
        rw [hW2]
        clear hW2
        have hkp2 : KpB N B0 B1 W W2 := kpB_t hkp (kpB_of hb2 hNw hB0w hB1w)
        have hJ2 : J pre W2 := hJd _ wr W2 none hJs ⟨hb2.os, hb2.tape, hb2.output, hb2.size, fun k hk _ => hb2.block k hk⟩ (fun r e => by cases e)
        obtain ⟨hz, hT, hkm⟩ := nth_head HB.out HE.out
        have HK : Hid (k < m) := Lib.hid (by have := hm.out; omega)
        obtain ⟨fn, tmps, assign, body, hy, hR⟩ := hY _ (⟨k, HK.out⟩ : Ix m) W2 hJ2 (by rw [vals_length HP.out.2]; exact HK.out)
        dsimp only at hy
        rw [hz] at hy
        dsimp only [sv] at hy
        have HB2 : Hid (bothG fS (za.drop (na)) (zb.drop (j + 1)) = (bothG fS za zb).drop (k + 1)) := Lib.hid (by rw [List.drop_eq_nil_of_le (by have := HNA.out; omega : za.length ≤ na), bothG_nil]; exact hT)
        clear hz hT hkm HB HE
        gi_wp2
        refine hR.mono ?_
        rintro e W3 (⟨rfl, hJ3, hk3⟩ | ⟨rfl, hJx3⟩)
        · gi_wp2
          go_roundw
          case rel => exact ⟨na, j + 1, k + 1, _, by omega, by omega, rfl, by go_num, HB2, Lib.hid ⟨HK.out, vals_snoc HP.out.2 HK.out⟩, hJ3, kpB_t hkp2 hk3, Below.refl _ _⟩
          case measure => simp [intOf]; omega
        · gi_wp2
          refine bodyPost_ret (results_none rfl _ _ _) rfl ?_
          exact ⟨⟨_, rfl⟩, .inr ⟨_, ⟨k + 1, HK.out, vals_snoc HP.out.2 HK.out⟩, hJx3⟩⟩
      · obtain rfl : j = nb := by omega
        obtain rfl : i = na := by omega
        have hkm : k = m := by
          have h1 := HB.out
          rw [List.drop_eq_nil_of_le (by have := HNA.out; omega : za.length ≤ i), List.drop_eq_nil_of_le (by have := HNB.out; omega : zb.length ≤ j), bothG_nil] at h1
          have h2 := hm.out
          have h3 := HP.out.1
          have h4 := List.drop_eq_nil_iff.1 h1.symm
          omega
        subst hkm
        have HP2 := HP.out.2
        clear ha hb
        gi_wp2
        go_end0
        exact ⟨⟨_, rfl⟩, .inl ⟨_, HP2, hJs⟩⟩
end Go.Proofs.YticikmkehobblaaDoor.Ss

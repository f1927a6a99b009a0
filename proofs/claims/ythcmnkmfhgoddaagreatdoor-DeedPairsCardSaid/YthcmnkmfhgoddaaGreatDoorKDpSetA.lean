/-
  slices.Replace at pairs, upon a row of the call's own: one pair, or none, in the place of one, or of none. Condition: at most 100,000 pairs.
  Set, the program's: one change done upon a plot's pairs. Conditions: pairs by rising keys, at most 90,000; at most 1000 members, 100,000 sessions and eaten.
-/
import Derived.Test.YthcmnkmfhgoddaaGreatDoorKDpRepA
import Derived.Test.YthcmnkmfhgoddaaGreatDoorKDpTA
import Derived.Test.YthcmnkmfhgoddaaGreatDoorKSfA
namespace Go.Proofs.YthcmnkmfhgoddaaGreatDoor.Dp
open Go.RowKit Bnd
open Go.Proofs.YthcmnkmfhgoddaaGreatDoor.Od (Pr SP OwnP ArgP pv pcells pcells_length pcells_append pcells_one infoP)
theorem own_front {w : World} {base g n cap i : Nat} {ps : List Pr} (h : OwnP w base (.slice (some ⟨g, 0, none⟩) n cap) ps) (hn : ps.length = n) (hi : i <= n) : OwnP w base (.slice (some ⟨g, 0, none⟩) i cap) (ps.take i) := by
 obtain ⟨R, h0, hl, hbg, hc, hcm⟩ := PR.of_own h
 obtain ⟨e1, e2, e3⟩ := parts hn hi
 have hlen : (ps.take i).length = i := by simp; omega
 have key := PR.own (cap := cap) (base := base) (ps := ps.take i) (R := pcells (ps.drop i) ++ R) (h0.re (by rw [e1]; simp)) (by rw [<- hl, e1]; simp) hbg hcm
 rwa [hlen] at key
theorem last_runs {w : World} {base g n cap i : Nat} {ps : List Pr} (hown : OwnP w base (.slice (some ⟨g, 0, none⟩) n cap) ps) (hn : ps.length = n) (hi : i + 1 = n) :
  ∃ W1, (∀ ty, (Builtin.append_ #[34, 34] ty #[.slice (some ⟨g, 0, none⟩) i cap, .slice none 0 0]).run Tryz.prog w = .ok (.slice (some ⟨g, 0, none⟩) i cap) w) /\
   (∀ ty c, (Builtin.clear_ #[34] ty #[.slice (some ⟨g, i * 2, none⟩) 1 c]).run Tryz.prog w = .ok (.tuple #[]) W1) /\
   OwnP W1 base (.slice (some ⟨g, 0, none⟩) i cap) (ps.take i ++ [] ++ ps.drop (i + 1)) /\ w.grownBy W1 (some g) := by
 obtain ⟨i0, hi0, hz0, hz1, hz2⟩ := info_parts infoP
 obtain ⟨R, h0, hl, hbg, hc, hcm⟩ := PR.of_own hown
 obtain ⟨e1, e2, e3⟩ := parts hn (show i <= n by omega)
 obtain ⟨p, e4⟩ := drop_one hn (show i < n by omega)
 have e5 : ps.drop (i + 1) = [] := List.drop_of_length_le (by omega)
 have hlen : (ps.take i).length = i := by simp; omega
 have hf := own_front hown hn (show i <= n by omega)
 have r0 := fun ty => run_append_owned_none (P := Tryz.prog) (w := w) base 34 ty 85 i0 2 Tryz.underlying34 hi0 (.slice (some ⟨g, 0, none⟩) i cap) (ps.take i).length (pcells (ps.take i)) hf
 have a1 : PR w g (pcells (ps.take i) ++ [.string p.1, .string p.2] ++ R) := h0.re (by rw [e1, e4, e5]; simp [pcells])
 have r1 := fun ty c => run_clear_pr (c := c) (o := i) _ _ _ _ ty a1 e2
 obtain ⟨W1, hW1⟩ : ∃ W1, w.setRow g (pcells (ps.take i) ++ [Value.string ⟨#[]⟩, Value.string ⟨#[]⟩] ++ R).toArray = W1 := ⟨_, rfl⟩
 rw [hW1] at r1
 have a2 : PR W1 g (pcells (ps.take i) ++ ([Value.string ⟨#[]⟩, Value.string ⟨#[]⟩] ++ R)) := by
  have : PR W1 g (pcells (ps.take i) ++ [Value.string ⟨#[]⟩, Value.string ⟨#[]⟩] ++ R) := hW1 ▸ a1.put _
  exact this.re (by simp)
 refine ⟨W1, r0, r1, ?_, hW1 ▸ grR (gr0 w _) _⟩
 have key := a2.own (cap := cap) (base := base) (by
  rw [<- hl, e1, e4, e5]
  simp [pcells]) hbg hcm
 rw [hlen] at key
 rw [e5]
 simpa using key
theorem slice_midP (A : Option Addr) (N c K J : Nat) (h : K <= J) (hj : J <= c) : ∃ A2, ∀ w : World, (Instr.slice 34 (.slice A N c) (some (.int .i64 (K : Int))) (some (.int .i64 (J : Int))) none).run Tryz.prog w = .ok (.slice A2 (J - K) (c - K)) w := by
 refine ⟨if c = K then A else A.map (fun a => a.add (K * 2)), fun w => ?_⟩
 have k1 : ((K : Int) <= (J : Int)) = True := eq_true (by omega)
 have k2 : (0 <= (K : Int)) = True := eq_true (by omega)
 have k3 : ((J : Int) <= (c : Int)) = True := eq_true (by omega)
 simp [go_sem, Tryz.underlying34, Tryz.sizeOf85, k1, k2, k3]
theorem slice_endP (g N c : Nat) : ∃ ad, ∀ w : World, (Instr.slice 34 (.slice (some ⟨g, 0, none⟩) N c) (some (.int .i64 (N : Int))) none none).run Tryz.prog w = .ok (.slice (some ad) 0 (c - N)) w := by
 refine ⟨if c = N then ⟨g, 0, none⟩ else ⟨g, N * 2, none⟩, fun w => ?_⟩
 have k2 : (0 <= (N : Int)) = True := eq_true (by omega)
 by_cases h : c = N
 ·simp [go_sem, Tryz.underlying34, Tryz.sizeOf85, k2, h]
 ·simp [go_sem, Tryz.underlying34, Tryz.sizeOf85, k2, h]
set_option maxHeartbeats 8000000 in
set_option maxRecDepth 100000 in
theorem replace_same (A : Option Addr) (n cap base i : Nat) (ps : List Pr) (v : Value) (xs : List Pr) (w : World) (hown : OwnP w base (.slice A n cap) ps) (hn : ps.length = n) (hi : i <= n) (hv : NowP w base v xs) (hl : n <= 100000) (hbase : base <= w.heap.size) :
  Calls Tryz.prog 82 #[.slice A n cap, .int .i64 (i : Int), .int .i64 (i : Int), v] w fun e w' => ∃ v', e = .returned v' /\ OwnP w' base v' (ps.take i ++ xs ++ ps.drop i) /\ w.grownBy w' (Value.slice A n cap).ownBlock := by
 have hnc : n <= cap := by
  rcases hown.2 with ⟨e, _⟩ | ⟨g, c, cur, e, h1, h2, h3, h4, h5, h6⟩
  ·injection e with _ e2 e3; omega
  ·injection e with _ e2 e3; omega
 obtain ⟨A2, hA2⟩ := slice_midP A n cap i i (Nat.le_refl _) (by omega)
 have ci := insert_any A n cap base i ps v xs w hown hn hi hv hl hbase
 have f1 : ((i : Int) == (i : Int)) = true := by simp
 clear hown hn hi hl hbase hnc
 cases hv with
 | none =>
  go_enter Tryz.func82, Tryz.ntmps82
  go_wp2_with fail
  refine ci.mono ?_
  rintro e w' ⟨v', rfl, ho, hb⟩
  have HO := Lib.hid ho
  clear ho ci
  go_wp2_with fail
  go_ret
  exact ⟨_, rfl, HO.out, hb⟩
 | one nb x hx hnb =>
  clear hx
  go_enter Tryz.func82, Tryz.ntmps82
  go_wp2_with fail
  refine ci.mono ?_
  rintro e w' ⟨v', rfl, ho, hb⟩
  have HO := Lib.hid ho
  clear ho ci
  go_wp2_with fail
  go_ret
  exact ⟨_, rfl, HO.out, hb⟩
set_option maxHeartbeats 8000000 in
set_option maxRecDepth 100000 in
theorem replace_one (A : Option Addr) (n cap base i : Nat) (ps : List Pr) (v : Value) (xs : List Pr) (w : World) (hown : OwnP w base (.slice A n cap) ps) (hn : ps.length = n) (hi : i < n) (hv : NowP w base v xs) (hl : n <= 100000) (hbase : base <= w.heap.size) :
  Calls Tryz.prog 82 #[.slice A n cap, .int .i64 (i : Int), .int .i64 ((i : Int) + 1), v] w fun e w' => ∃ v', e = .returned v' /\ OwnP w' base v' (ps.take i ++ xs ++ ps.drop (i + 1)) /\ w.grownBy w' (Value.slice A n cap).ownBlock := by
 obtain ⟨g, rfl, hnc⟩ : ∃ g, A = some ⟨g, 0, none⟩ /\ n <= cap := by
  rcases hown.2 with ⟨e, _⟩ | ⟨g, c, cur, e, h1, h2, h3, h4, h5, h6⟩
  ·injection e with _ e2 e3; omega
  ·injection e with e1 e2 e3
   exact ⟨g, e1, by omega⟩
 obtain ⟨A2, hA2⟩ := slice_midP (some ⟨g, 0, none⟩) n cap i (i + 1) (by omega) (by omega)
 rw [show (((i + 1 : Nat)) : Int) = (i : Int) + 1 by omega] at hA2
 have f1 : ((i : Int) == (i : Int) + 1) = false := by simp; omega
 have f2 : ((i : Int) = (i : Int) + 1) = False := eq_false (by omega)
 have f3 : ((i : Int) <= (cap : Int)) = True := eq_true (by omega)
 have f4 : (0 <= (i : Int)) = True := eq_true (by omega)
 have f5 : (cap = i) = False := eq_false (by omega)
 have f6 : ((i : Int) <= (n : Int)) = True := eq_true (by omega)
 by_cases hlast : i + 1 = n
 ·have f7 : ((i : Int) + 1 == (n : Int)) = true := by simp; omega
  have f8 : ((i : Int) + 1 = (n : Int)) = True := eq_true (by omega)
  cases hv with
  | none =>
   obtain ⟨W1, r0, r1, ho, hb⟩ := last_runs hown hn hlast
   have R0 := Lib.hid r0
   have R1 := Lib.hid r1
   have HO := Lib.hid ho
   have HB := Lib.hid hb
   have f9 : ((i : Int) < (n : Int)) = True := eq_true (by omega)
   have f10 : n - i = 1 := by omega
   clear hown hn hi hl hbase hnc hlast r0 r1 ho hb
   go_enter Tryz.func82, Tryz.ntmps82
   go_wp2_with (at_builtin; refine Ds.wpList_run_builtin rfl rfl rfl rfl (R0.out _) ?_)
   rw [R1.out]
   go_wp2_with fail
   go_ret
   exact ⟨_, rfl, HO.out, HB.out⟩
  | one nb x hx hnb =>
   obtain ⟨A', c', w', r0, ho, hb⟩ := app_runs (own_front hown hn (Nat.le_of_lt hi)) (show (ps.take i).length = i by simp; omega) hx rfl (by omega) hbase
   have e : ps.take i ++ [x] ++ ps.drop (i + 1) = ps.take i ++ [x] := by rw [List.drop_of_length_le (by omega), List.append_nil]
   rw [e]
   have R0 := Lib.hid r0
   have HO := Lib.hid ho
   have HB := Lib.hid hb
   have f9 : ((i : Int) + 1 < (n : Int)) = False := eq_false (by omega)
   clear hown hn hi hl hbase hnc hlast r0 ho hb e hx
   go_enter Tryz.func82, Tryz.ntmps82
   go_wp2_with (at_builtin; refine Ds.wpList_run_builtin rfl rfl rfl rfl (R0.out _) ?_)
   go_ret
   exact ⟨_, rfl, HO.out, HB.out⟩
 ·have hin : i + 1 < n := by omega
  have f7 : ((i : Int) + 1 == (n : Int)) = false := by simp; omega
  have f8 : ((i : Int) + 1 = (n : Int)) = False := eq_false (by omega)
  have f9 : ((i : Int) + 1 <= (n : Int)) = True := eq_true (by omega)
  have f10 : (0 <= (i : Int) + 1) = True := eq_true (by omega)
  have f11 : (cap = i + 1) = False := eq_false (by omega)
  have f12 : ((i : Int) + 1 <= (cap : Int)) = True := eq_true (by omega)
  cases hv with
  | none =>
   obtain ⟨W1, W2, r0, r1, ho, hb⟩ := less_runs hown hn hin
   have R0 := Lib.hid r0
   have R1 := Lib.hid r1
   have HO := Lib.hid ho
   have HB := Lib.hid hb
   have s1 : IntKind.i64.wrap (i : Int) = (i : Int) := by rw [IntKind.wrap_i64]; omega
   have s2 : IntKind.i64.wrap ((i : Int) + ((n - (i + 1) : Nat) : Int)) = ((n - 1 : Nat) : Int) := by rw [IntKind.wrap_i64]; omega
   have s3 : (((n - 1 : Nat) : Int) > (cap : Int)) = False := eq_false (by omega)
   have s4 : ((cap : Int) < ((n - 1 : Nat) : Int)) = False := eq_false (by omega)
   have s5 : (((n - 1 : Nat) : Int) <= (cap : Int)) = True := eq_true (by omega)
   have s6 : ((i : Int) <= ((n - 1 : Nat) : Int)) = True := eq_true (by omega)
   have s7 : ((i : Int) <= (i : Int) + 1) = True := eq_true (by omega)
   have s8 : (((n - 1 : Nat) : Int) <= (n : Int)) = True := eq_true (by omega)
   have s9 : (cap = n - 1) = False := eq_false (by omega)
   have s10 : n - (n - 1) = 1 := by omega
   have s11 : (0 <= ((n - 1 : Nat) : Int)) = True := eq_true (by omega)
   clear hown hn hi hl hbase hlast hin hnc r0 r1 ho hb
   go_enter Tryz.func82, Tryz.ntmps82
   go_wp2_with fail
   refine St.wp_region_tail 12 (fun _ wx => wx = w.drew) (by kernel_rfl) (by kernel_rfl) (by kernel_rfl) (by kernel_rfl) (by decide) rfl ?_
   simp only [List.take, List.drop]
   repeat
    (apply St.step_give
     ·rfl
     ·rintro L wx rfl hcl hrd
      go_simp
      try with_reducible rfl
     ·exact fun L wx hS => hS
     simp only [Act.put, St.pu])
   refine St.step_last ?_
   rintro L wx rfl -
   go_wp2_with fail
   rw [run_copy_nil Tryz.prog w.drew 34 34 _ 85 ⟨g, i * 2, none⟩ _ _ Tryz.underlying34 (by obtain ⟨i0, hi0, _, _, _⟩ := info_parts infoP; rw [hi0]; rfl)]
   go_wp2_with fail
   refine St.wp_region_tail 9 (fun _ wx => wx = w.drew.drew) (by kernel_rfl) (by kernel_rfl) (by kernel_rfl) (by kernel_rfl) (by decide) rfl ?_
   simp only [List.take, List.drop]
   repeat
    (apply St.step_give
     ·rfl
     ·rintro L wx rfl hcl hrd
      go_simp
      try with_reducible rfl
     ·exact fun L wx hS => hS
     simp only [Act.put, St.pu])
   refine St.step_last ?_
   rintro L wx rfl -
   go_wp2_with fail
   rw [R0.out]
   go_wp2_with fail
   rw [R1.out]
   go_wp2_with fail
   go_ret
   exact ⟨_, rfl, HO.out, HB.out⟩
  | one nb x hx hnb =>
   obtain ⟨W1, W2, r0, r1, ho, hb⟩ := place_runs hown hn hin hx
   obtain ⟨ad, had⟩ := slice_endP g n cap
   have R0 := Lib.hid r0
   have R1 := Lib.hid r1
   have HO := Lib.hid ho
   have HB := Lib.hid hb
   have s1 : IntKind.i64.wrap ((i : Int) + 1) = (i : Int) + 1 := by rw [IntKind.wrap_i64]; omega
   have s2 : IntKind.i64.wrap ((i : Int) + 1 + ((n - (i + 1) : Nat) : Int)) = (n : Int) := by rw [IntKind.wrap_i64]; omega
   have s3 : ((n : Int) > (cap : Int)) = False := eq_false (by omega)
   have s4 : ((cap : Int) < (n : Int)) = False := eq_false (by omega)
   have s5 : ((n : Int) <= (cap : Int)) = True := eq_true (by omega)
   have s7 : ((i : Int) + 1 <= (i : Int) + 1) = True := eq_true (by omega)
   have s8 : (0 <= (n : Int)) = True := eq_true (by omega)
   clear hown hn hi hl hbase hlast hin hnc r0 r1 ho hb hx
   go_enter Tryz.func82, Tryz.ntmps82
   go_wp2_with fail
   refine St.wp_region_tail 12 (fun _ wx => wx = w.drew) (by kernel_rfl) (by kernel_rfl) (by kernel_rfl) (by kernel_rfl) (by decide) rfl ?_
   simp only [List.take, List.drop]
   repeat
    (apply St.step_give
     ·rfl
     ·rintro L wx rfl hcl hrd
      go_simp
      try with_reducible rfl
     ·exact fun L wx hS => hS
     simp only [Act.put, St.pu])
   refine St.step_last ?_
   rintro L wx rfl -
   go_wp2_with fail
   rw [R0.out]
   go_wp2_with fail
   refine St.wp_region_tail 9 (fun _ wx => wx = W1.drew) (by kernel_rfl) (by kernel_rfl) (by kernel_rfl) (by kernel_rfl) (by decide) rfl ?_
   simp only [List.take, List.drop]
   repeat
    (apply St.step_give
     ·rfl
     ·rintro L wx rfl hcl hrd
      go_simp
      try with_reducible rfl
     ·exact fun L wx hS => hS
     simp only [Act.put, St.pu])
   refine St.step_last ?_
   rintro L wx rfl -
   go_wp2_with fail
   rw [R1.out]
   go_wp2_with fail
   rw [run_clear_none]
   go_wp2_with fail
   go_ret
   exact ⟨_, rfl, HO.out, HB.out⟩
end Go.Proofs.YthcmnkmfhgoddaaGreatDoor.Dp

namespace Go.Proofs.YthcmnkmfhgoddaaGreatDoor.Dp
open Go.RowKit Bnd
open Go.Proofs.YthcmnkmfhgoddaaGreatDoor.Ds (De SM OwnI OwnM ArgM)
open Go.Proofs.YthcmnkmfhgoddaaGreatDoor.Ss (Ses Zs ses SZ PZ NoP OwnZ ArgZ)
open Go.Proofs.YthcmnkmfhgoddaaGreatDoor.Od (Pr SP OwnP ArgP)
open Go.Proofs.YthcmnkmfhgoddaaGreatDoor.Sf (Up Ch doP put kl)
theorem set_cut {ps : List Pr} (hu : Up ps) (c : Ch) {q : Nat} (hq : placeP ps c.k = q) {st : Bool} (hs : (match ps[q]? with | some p => decide (p.1 = c.k) | none => false) = st) :
  doP ps c = ps.take q ++ put c ++ ps.drop (if st = true then q + 1 else q) /\ (st = true -> q < ps.length) /\ q <= ps.length := by
 subst hq
 have hle := place_le ps c.k
 rw [Sf.do_cut c ps (placeP ps c.k) hle (fun i h hi => place_low hu c.k i h hi) (fun h => place_high hu c.k _ h (Nat.le_refl _)), List.append_assoc]
 by_cases hlt : placeP ps c.k < ps.length
 ·rw [List.getElem?_eq_getElem hlt] at hs
  simp only at hs
  rw [dif_pos hlt]
  by_cases he : ps[placeP ps c.k].1 = c.k
  ·rw [decide_eq_true he] at hs
   subst hs
   rw [if_pos he, if_pos rfl]
   exact ⟨rfl, fun _ => hlt, hle⟩
  ·rw [decide_eq_false he] at hs
   subst hs
   rw [if_neg he, if_neg (by decide)]
   exact ⟨rfl, (fun h => by cases h), hle⟩
 ·rw [List.getElem?_eq_none (by omega)] at hs
  simp only at hs
  subst hs
  rw [dif_neg hlt, if_neg (by decide), List.drop_of_length_le (by omega)]
  exact ⟨rfl, (fun h => by cases h), hle⟩
theorem rows_apart {w : World} {base base' : Nat} {e e' : TypeId} {size size' : Nat} {v v' : Value} {n n' : Nat} {xs xs' : List Value} (h : w.ownsRow base e size v n xs) (h' : w.ownsRow base' e' size' v' n' xs') (hne : e ≠ e') : v.ownBlock = none \/ v.ownBlock ≠ v'.ownBlock := by
 rcases h.2 with ⟨rfl, _⟩ | ⟨g, c, cur, rfl, _, hg, _⟩
 ·exact .inl rfl
 ·refine .inr ?_
  rcases h'.2 with ⟨rfl, _⟩ | ⟨g', c', cur', rfl, _, hg', _⟩
  ·simp [Value.ownBlock]
  ·intro e2
   obtain rfl : g = g' := by simpa [Value.ownBlock] using e2
   have := hg.symm.trans hg'
   simp at this
   exact hne this.2
theorem OwnO.replaced {w w' : World} {base : Nat} {o : Ph} {v : Value} {ps : List Pr} (h : OwnO w base o) (hp : OwnP w' base v ps) (hg : w.grownBy w' o.sp.ownBlock) : OwnO w' base { o with ps := ps, sp := v } :=
 ⟨h.sm.kept hg (rows_apart h.sm h.sp (by decide)), hp, h.sz.kept hg (rows_apart h.sz h.sp (by decide)), h.se.kept hg (rows_apart h.se h.sp (by decide))⟩
theorem BoxP.below {n N : Nat} {o : Ph} {w1 w2 : World} (h : BoxP n o w1) (hn : n < N) (hb : Below N w1 w2) : BoxP n o w2 := by
 obtain ⟨h0, ⟨h1, h2, h3, h4, h5, h6, h7, h8, h9, h10, h11⟩, hf⟩ := h
 have hc : ∀ o, w2.cell? ⟨n, o, none⟩ = w1.cell? ⟨n, o, none⟩ := fun o => hb.cell (p := ⟨n, o, none⟩) hn
 exact ⟨Nat.lt_of_lt_of_le h0 hb.size, ⟨(hc 0).trans h1, (hc 1).trans h2, (hc 2).trans h3, (hc 3).trans h4, (hc 4).trans h5, (hc 5).trans h6, (hc 6).trans h7, (hc 7).trans h8, (hc 8).trans h9, (hc 9).trans h10, (hc 10).trans h11⟩, fun o => (hb.frozen (p := ⟨n, o, none⟩) hn).trans (hf o)⟩
theorem OwnO.set {w : World} {base : Nat} {o : Ph} (h : OwnO w base o) {a : Addr} (ha : a.block < base) (u : Value) : OwnO (w.setCell a u) base o :=
 ⟨ownsRow_setCell_below h.sm ha u, ownsRow_setCell_below h.sp ha u, ownsRow_setCell_below h.sz ha u, ownsRow_setCell_below h.se ha u⟩
set_option maxHeartbeats 16000000 in
set_option maxRecDepth 100000 in
theorem set_any (o : Ph) (k v : ByteArray) (gn : Bool) (w : World) (h : HA w o) (hu : Up o.ps) (l1 : o.d.ms.length <= 1000) (l2 : o.ps.length <= 90000) (l3 : o.zs.length <= 100000) (l4 : o.ea.length <= 100000) :
  Calls Tryz.prog 33 #[qv o, .agg #[.string k, .string v, .bool gn]] w fun e w' => ∃ o', e = .returned (qv o') /\ o'.pl = setP o.pl ⟨k, v, gn⟩ /\ HA w' o' /\ Below w.heap.size w w' := by
 obtain ⟨d, ps, zs, fr, ea, al, fA, fB, fC, fD, fa, fb, fc, fd, rfl⟩ := h.hp.open
 simp only at hu l1 l2 l3 l4
 obtain ⟨nm, hnm⟩ : ∃ n, d.ms.length = n := ⟨_, rfl⟩
 obtain ⟨np, hnp⟩ : ∃ n, ps.length = n := ⟨_, rfl⟩
 obtain ⟨nz, hnz⟩ : ∃ n, zs.length = n := ⟨_, rfl⟩
 obtain ⟨ne, hne⟩ : ∃ n, ea.length = n := ⟨_, rfl⟩
 obtain ⟨q, hq⟩ : ∃ q, placeP ps k = q := ⟨_, rfl⟩
 obtain ⟨st, hst⟩ : ∃ st, (match ps[q]? with | some p => decide (p.1 = k) | none => false) = st := ⟨_, rfl⟩
 obtain ⟨hdo, hqs, hql⟩ := set_cut hu ⟨k, v, gn⟩ hq hst
 have HDO := Lib.hid hdo
 rw [hnm, hnp, hnz, hne] at h ⊢
 obtain ⟨W0, hW0⟩ : ∃ W0, ((w.alloc (.cells #[.int .i64 d.id, .string d.f, .string d.t, .int .i64 d.gen, .slice fA nm fa, .int .i64 d.next, .slice fB np fb, .slice fC nz fc, .bool fr, .slice fD ne fd, .int .i64 al] 38)).alloc (.cells #[.string k, .string v, .bool gn] 57)).alloc (.cells #[.int .i64 0, .string ⟨#[]⟩, .string ⟨#[]⟩, .int .i64 0, .slice none 0 0, .int .i64 0, .slice none 0 0, .slice none 0 0, .bool false, .slice none 0 0, .int .i64 0] 38) = W0 := ⟨_, rfl⟩
 have hb0 : Below w.heap.size w W0 := by rw [<- hW0]; exact (((Below.refl _ w).alloc (Nat.le_refl _) _).alloc (by simp) _).alloc (by simp; omega) _
 have hz0 : W0.heap.size = w.heap.size + 3 := by rw [<- hW0]; simp
 have B0 : BoxP w.heap.size ⟨d, .slice fA nm fa, ps, .slice fB np fb, zs, .slice fC nz fc, fr, ea, .slice fD ne fd, al⟩ W0 := hW0 ▸ ((BoxP.new w ⟨d, .slice fA nm fa, ps, .slice fB np fb, zs, .slice fC nz fc, fr, ea, .slice fD ne fd, al⟩).alloc _).alloc _
 have Z0 : BoxP (w.heap.size + 2) Ph.zero W0 := by
  have := BoxP.zero ((w.alloc (.cells #[.int .i64 d.id, .string d.f, .string d.t, .int .i64 d.gen, .slice fA nm fa, .int .i64 d.next, .slice fB np fb, .slice fC nz fc, .bool fr, .slice fD ne fd, .int .i64 al] 38)).alloc (.cells #[.string k, .string v, .bool gn] 57))
  rw [World.size_alloc, World.size_alloc] at this
  exact hW0 ▸ this
 have c0 : W0.cell? ⟨w.heap.size + 1, 0, none⟩ = some (.string k) := by rw [<- hW0]; simp [go_sem]
 have c1 : W0.cell? ⟨w.heap.size + 1, 1, none⟩ = some (.string v) := by rw [<- hW0]; simp [go_sem]
 have c2 : W0.cell? ⟨w.heap.size + 1, 2, none⟩ = some (.bool gn) := by rw [<- hW0]; simp [go_sem]
 have cc : ∀ wx, Below W0.heap.size W0 wx -> wx.cell? ⟨w.heap.size + 1, 0, none⟩ = some (.string k) /\ wx.cell? ⟨w.heap.size + 1, 1, none⟩ = some (.string v) /\ wx.cell? ⟨w.heap.size + 1, 2, none⟩ = some (.bool gn) := fun wx hb =>
  ⟨(hb.cell (by show w.heap.size + 1 < _; omega)).trans c0, (hb.cell (by show w.heap.size + 1 < _; omega)).trans c1, (hb.cell (by show w.heap.size + 1 < _; omega)).trans c2⟩
 have KH := fun wx (hb : Below W0.heap.size W0 wx) => h.keep (hb0.trans (hb.mono hb0.size))
 have cp := place_any (.slice fB np fb) ps k W0 (KH _ (Below.refl _ _)).hp.sp hu (by omega)
 have cs := fun wx (hb : Below W0.heap.size W0 wx) => (stands_any (.slice fB np fb) ps k q wx (KH wx hb).hp.sp (by omega) hql).mono (fun e w' h => (⟨h.1.trans (by rw [<- hst]; rfl), h.2⟩ : e = .returned (.bool st) /\ wx = w'))
 rw [hq] at cp
 have co := fun wx (hb : Below W0.heap.size W0 wx) => own_any ⟨d, .slice fA nm fa, ps, .slice fB np fb, zs, .slice fC nz fc, fr, ea, .slice fD ne fd, al⟩ wx (KH wx hb) l1 (by show ps.length <= _; omega) l3 l4
 have hbox := fun wx (hb : Below W0.heap.size W0 wx) => B0.keep hb
 have hzer := fun wx (hb : Below W0.heap.size W0 wx) => Z0.keep hb
 have crep : ∀ (j : Nat), (j = q \/ j = q + 1 /\ st = true) -> ∀ (A : Option Addr) (n c base : Nat) (u : Value) (xs : List Pr) (wx : World), OwnP wx base (.slice A n c) ps -> NowP wx base u xs -> base <= wx.heap.size ->
   Calls Tryz.prog 82 #[.slice A n c, .int .i64 (q : Int), .int .i64 (if j = q then (q : Int) else (q : Int) + 1), u] wx fun e w' => ∃ v', e = .returned v' /\ OwnP w' base v' (ps.take q ++ xs ++ ps.drop j) /\ wx.grownBy w' (Value.slice A n c).ownBlock := by
  intro j hj A n c base u xs wx ho hv hb
  have hn : ps.length = n := by
   obtain ⟨A', c', e⟩ := (SP.of_own ho).form
   injection e with _ e2 _
   omega
  rcases hj with rfl | ⟨rfl, hs⟩
  ·rw [if_pos rfl]
   exact replace_same A n c base j ps u xs wx ho hn (by omega) hv (by omega) hb
  ·rw [if_neg (by omega)]
   exact replace_one A n c base q ps u xs wx ho hn (by have := hqs hs; omega) hv (by omega) hb
 have sq : IntKind.i64.wrap ((q : Int) + 1) = (q : Int) + 1 := by rw [IntKind.wrap_i64]; omega
 have hpl : ∀ o' : Ph, o'.pl = Ph.pl ⟨d, .slice fA nm fa, ps, .slice fB np fb, zs, .slice fC nz fc, fr, ea, .slice fD ne fd, al⟩ -> ∀ (vv : Value) (pp : List Pr), pp = doP ps ⟨k, v, gn⟩ -> Ph.pl { o' with ps := pp, sp := vv } = setP (Ph.pl ⟨d, .slice fA nm fa, ps, .slice fB np fb, zs, .slice fC nz fc, fr, ea, .slice fD ne fd, al⟩) ⟨k, v, gn⟩ := fun o' e vv pp hp => by
  unfold setP
  rw [<- e, hp]
  have : o'.ps = ps := congrArg Pl.ps e
  unfold Ph.pl
  simp [this]
 have HPL := Lib.hid hpl
 have HPS := Lib.hid (show ∀ o' : Ph, o'.pl = Ph.pl ⟨d, .slice fA nm fa, ps, .slice fB np fb, zs, .slice fC nz fc, fr, ea, .slice fD ne fd, al⟩ -> o'.ps = ps from fun o' e => congrArg Pl.ps e)
 clear h hu hnm hnp hnz hne hq hst hdo hql B0 Z0 l1 l2 l3 l4 hqs c0 c1 c2 hpl
 obtain ⟨c0, c1, c2⟩ := cc _ (Below.refl _ _)
 have B := hbox _ (Below.refl _ _)
 obtain ⟨p_0, ⟨p_1, p_2, p_3, p_4, p_5, p_6, p_7, p_8, p_9, p_10, p_11⟩, p_12⟩ := _root_.id B
 go_enter Tryz.func33, Tryz.ntmps33
 go_wp2_with (rw [hW0])
 clear hW0
 ((try clear p_0); (try clear p_1); (try clear p_2); (try clear p_3); (try clear p_4); (try clear p_5); (try clear p_6); (try clear p_7); (try clear p_8); (try clear p_9); (try clear p_10); (try clear p_11); (try clear p_12))
 clear c0 c1 c2 B
 refine cp.mono ?_
 rintro e w1 ⟨rfl, b1⟩
 obtain ⟨c0, c1, c2⟩ := cc _ b1
 have B := hbox _ b1
 obtain ⟨p_0, ⟨p_1, p_2, p_3, p_4, p_5, p_6, p_7, p_8, p_9, p_10, p_11⟩, p_12⟩ := _root_.id B
 clear cp
 go_wp2_with fail
 refine (cs _ b1).mono ?_
 rintro e w2 ⟨rfl, rfl⟩
 have crep1 := fun (hs : st = true) => crep (q + 1) (.inr ⟨rfl, hs⟩)
 have crep0 := crep q (.inl rfl)
 rw [if_neg (by omega)] at crep1
 rw [if_pos rfl] at crep0
 clear cs crep
 cases st with
 | true =>
  have hs : true = true := rfl
  cases gn with
  | true =>
   have b3 := b1
   go_wp2_with fail
   refine (co _ b3).mono ?_
   rintro e w4 ⟨o1, rfl, hp1, hO, hN, b4⟩
   have hps := HPS.out _ hp1
   have b04 := b3.trans (b4.mono b3.size)
   have B4 := hbox _ b04
   have Z4 := hzer _ b04
   have hs3 := b3.size
   have hs4 := b4.size
   obtain ⟨d1, ps1, zs1, fr1, ea1, al1, A1, A2, A3, A4, k1, k2, k3, k4, rfl⟩ := (hO.ha hN).hp.open
   simp only at hps
   subst hps
   have HP1 := Lib.hid (HPL.out _ hp1)
   obtain ⟨o1, ho1⟩ : ∃ o1 : Ph, o1 = ⟨d1, .slice A1 d1.ms.length k1, ps1, .slice A2 ps1.length k2, zs1, .slice A3 zs1.length k3, fr1, ea1, .slice A4 ea1.length k4, al1⟩ := ⟨_, rfl⟩
   rw [<- ho1] at hO
   obtain ⟨W5, hW5⟩ : ∃ W5, putW w4 w.heap.size ⟨d1, .slice A1 d1.ms.length k1, ps1, .slice A2 ps1.length k2, zs1, .slice A3 zs1.length k3, fr1, ea1, .slice A4 ea1.length k4, al1⟩ = W5 := ⟨_, rfl⟩
   have B5 : BoxP w.heap.size ⟨d1, .slice A1 d1.ms.length k1, ps1, .slice A2 ps1.length k2, zs1, .slice A3 zs1.length k3, fr1, ea1, .slice A4 ea1.length k4, al1⟩ W5 := hW5 ▸ BoxP.put B4 _
   have Z5 : BoxP (w.heap.size + 2) Ph.zero W5 := hW5 ▸ Z4.putW _ (by omega)
   have O5 : OwnO W5 w1.heap.size o1 := hW5 ▸ hO.putW _ (by omega)
   have hs5 : W5.heap.size = w4.heap.size := by rw [<- hW5, putW_size]
   have L5 : Below w.heap.size w W5 := hW5 ▸ putW_below _ (Nat.le_refl _) (hb0.trans (b04.mono hb0.size))
   have hN5 : NowP W5 w1.heap.size (.slice none 0 0) [] := .none
   have cr := crep1 hs A2 ps1.length k2 w1.heap.size _ _ W5 (by have := O5.sp; rw [ho1] at this; exact this) hN5 (by omega)
   obtain ⟨PP, hPP⟩ : ∃ PP, ps1.take q ++ [] ++ ps1.drop (q + 1) = PP := ⟨_, rfl⟩
   rw [hPP] at cr
   have HPP := Lib.hid (HP1.out)
   have hdone : PP = doP ps1 ⟨k, v, true⟩ := by rw [HDO.out, <- hPP]; rfl
   have HDN := Lib.hid hdone
   clear hPP hdone
   obtain ⟨p_0, ⟨p_1, p_2, p_3, p_4, p_5, p_6, p_7, p_8, p_9, p_10, p_11⟩, p_12⟩ := _root_.id B4
   obtain ⟨r_0, ⟨r_1, r_2, r_3, r_4, r_5, r_6, r_7, r_8, r_9, r_10, r_11⟩, r_12⟩ := _root_.id B5
   go_wp2_with (rw [hW5])
   clear hW5
   ((try clear p_0); (try clear p_1); (try clear p_2); (try clear p_3); (try clear p_4); (try clear p_5); (try clear p_6); (try clear p_7); (try clear p_8); (try clear p_9); (try clear p_10); (try clear p_11); (try clear p_12))
   ((try clear r_0); (try clear r_1); (try clear r_2); (try clear r_3); (try clear r_4); (try clear r_5); (try clear r_6); (try clear r_7); (try clear r_8); (try clear r_9); (try clear r_10); (try clear r_11); (try clear r_12))
   refine cr.mono ?_
   rintro e w6 ⟨v6, rfl, hop, hgr⟩
   obtain ⟨A6, k6, hv6⟩ := (SP.of_own hop).form
   subst hv6
   have hgr' : W5.grownBy w6 o1.sp.ownBlock := by rw [ho1]; exact hgr
   have O6 := O5.replaced hop hgr'
   have hlow : Below w1.heap.size W5 w6 := (Below.refl _ W5).grown hgr' (by omega) (fun g hg => (O5.sp.lt g hg).1)
   have B6 : BoxP w.heap.size ⟨d1, .slice A1 d1.ms.length k1, ps1, .slice A2 ps1.length k2, zs1, .slice A3 zs1.length k3, fr1, ea1, .slice A4 ea1.length k4, al1⟩ w6 := B5.below (by omega) hlow
   have Z6 : BoxP (w.heap.size + 2) Ph.zero w6 := Z5.below (by omega) hlow
   have L6 : Below w.heap.size w w6 := L5.trans (hlow.mono (by omega))
   rw [ho1] at O6
   obtain ⟨W7, hW7⟩ : ∃ W7, w6.setCell ⟨w.heap.size, 6, none⟩ (.slice A6 PP.length k6) = W7 := ⟨_, rfl⟩
   have B7 : BoxP w.heap.size ⟨d1, .slice A1 d1.ms.length k1, PP, .slice A6 PP.length k6, zs1, .slice A3 zs1.length k3, fr1, ea1, .slice A4 ea1.length k4, al1⟩ W7 := hW7 ▸ B6.set6 (.slice A6 PP.length k6) PP
   have Z7 : BoxP (w.heap.size + 2) Ph.zero W7 := hW7 ▸ Z6.other (by show w.heap.size ≠ w.heap.size + 2; omega) _
   have O7 : OwnO W7 w1.heap.size ⟨d1, .slice A1 d1.ms.length k1, PP, .slice A6 PP.length k6, zs1, .slice A3 zs1.length k3, fr1, ea1, .slice A4 ea1.length k4, al1⟩ := hW7 ▸ O6.set (by show w.heap.size < _; omega) _
   have L7 : Below w.heap.size w W7 := hW7 ▸ L6.setCell (p := ⟨w.heap.size, 6, none⟩) (Nat.le_refl _) _
   have FB := BoxP.put Z7 ⟨d1, .slice A1 d1.ms.length k1, PP, .slice A6 PP.length k6, zs1, .slice A3 zs1.length k3, fr1, ea1, .slice A4 ea1.length k4, al1⟩
   have FA := (O7.putW (n := w.heap.size + 2) ⟨d1, .slice A1 d1.ms.length k1, PP, .slice A6 PP.length k6, zs1, .slice A3 zs1.length k3, fr1, ea1, .slice A4 ea1.length k4, al1⟩ (by omega)).ha hN
   have FL := putW_below ⟨d1, .slice A1 d1.ms.length k1, PP, .slice A6 PP.length k6, zs1, .slice A3 zs1.length k3, fr1, ea1, .slice A4 ea1.length k4, al1⟩ (n := w.heap.size + 2) (by omega) L7
   have HFA := Lib.hid FA
   have HFB := Lib.hid FB
   have HFL := Lib.hid FL
   obtain ⟨p_0, ⟨p_1, p_2, p_3, p_4, p_5, p_6, p_7, p_8, p_9, p_10, p_11⟩, p_12⟩ := _root_.id B6
   obtain ⟨r_0, ⟨r_1, r_2, r_3, r_4, r_5, r_6, r_7, r_8, r_9, r_10, r_11⟩, r_12⟩ := _root_.id B7
   obtain ⟨z_0, ⟨z_1, z_2, z_3, z_4, z_5, z_6, z_7, z_8, z_9, z_10, z_11⟩, z_12⟩ := _root_.id Z7
   clear FA FB FL O7 L7 L6 O6 O5 hgr' hgr hop hlow HP1 hN5 cr hp1 hO B4 Z4 B5 Z5
   go_wp2_with (rw [hW7])
   exact bodyPost_ret (res_BoxP Tryz.results33 rfl HFB.out) rfl ⟨_, rfl, HPP.out _ PP HDN.out, HFA.out, HFL.out⟩
  | false =>
   obtain ⟨W3, hW3⟩ : ∃ W3, w1.alloc (.cells #[.string k, .string v] 85) = W3 := ⟨_, rfl⟩
   have hw3s : W3.heap.size = w1.heap.size + 1 := by rw [<- hW3]; simp
   have hw3h : W3.heap[w1.heap.size]? = some (.cells #[.string k, .string v] 85 (0, 0)) := hW3 ▸ heap_alloc_new w1 _
   have b3 : Below W0.heap.size W0 W3 := hW3 ▸ b1.alloc b1.size _
   have B3 := hbox _ b3
   obtain ⟨s_0, ⟨s_1, s_2, s_3, s_4, s_5, s_6, s_7, s_8, s_9, s_10, s_11⟩, s_12⟩ := _root_.id B3
   go_wp2_with (rw [hW3])
   clear hW3 B3
   ((try clear s_0); (try clear s_1); (try clear s_2); (try clear s_3); (try clear s_4); (try clear s_5); (try clear s_6); (try clear s_7); (try clear s_8); (try clear s_9); (try clear s_10); (try clear s_11); (try clear s_12))
   refine (co _ b3).mono ?_
   rintro e w4 ⟨o1, rfl, hp1, hO, hN, b4⟩
   have hps := HPS.out _ hp1
   have b04 := b3.trans (b4.mono b3.size)
   have B4 := hbox _ b04
   have Z4 := hzer _ b04
   have hs3 := b3.size
   have hs4 := b4.size
   obtain ⟨d1, ps1, zs1, fr1, ea1, al1, A1, A2, A3, A4, k1, k2, k3, k4, rfl⟩ := (hO.ha hN).hp.open
   simp only at hps
   subst hps
   have HP1 := Lib.hid (HPL.out _ hp1)
   obtain ⟨o1, ho1⟩ : ∃ o1 : Ph, o1 = ⟨d1, .slice A1 d1.ms.length k1, ps1, .slice A2 ps1.length k2, zs1, .slice A3 zs1.length k3, fr1, ea1, .slice A4 ea1.length k4, al1⟩ := ⟨_, rfl⟩
   rw [<- ho1] at hO
   obtain ⟨W5, hW5⟩ : ∃ W5, putW w4 w.heap.size ⟨d1, .slice A1 d1.ms.length k1, ps1, .slice A2 ps1.length k2, zs1, .slice A3 zs1.length k3, fr1, ea1, .slice A4 ea1.length k4, al1⟩ = W5 := ⟨_, rfl⟩
   have B5 : BoxP w.heap.size ⟨d1, .slice A1 d1.ms.length k1, ps1, .slice A2 ps1.length k2, zs1, .slice A3 zs1.length k3, fr1, ea1, .slice A4 ea1.length k4, al1⟩ W5 := hW5 ▸ BoxP.put B4 _
   have Z5 : BoxP (w.heap.size + 2) Ph.zero W5 := hW5 ▸ Z4.putW _ (by omega)
   have O5 : OwnO W5 W3.heap.size o1 := hW5 ▸ hO.putW _ (by omega)
   have hs5 : W5.heap.size = w4.heap.size := by rw [<- hW5, putW_size]
   have L5 : Below w.heap.size w W5 := hW5 ▸ putW_below _ (Nat.le_refl _) (hb0.trans (b04.mono hb0.size))
   have hN5 : NowP W5 W3.heap.size (.slice (some ⟨w1.heap.size, 0, none⟩) 1 1) [(k, v)] := by
    refine .one _ _ ?_ (by rw [hw3s]; omega)
    unfold OneP
    have e1 : W5.heap[w1.heap.size]? = w4.heap[w1.heap.size]? := by
     rw [<- hW5]
     iterate 11 (rw [Below.heap_setCell _ _ _ _ (by show w1.heap.size ≠ w.heap.size; omega)])
    rw [e1, b4.block _ (by rw [hw3s]; omega)]
    exact hw3h
   have cr := crep1 hs A2 ps1.length k2 W3.heap.size _ _ W5 (by have := O5.sp; rw [ho1] at this; exact this) hN5 (by omega)
   obtain ⟨PP, hPP⟩ : ∃ PP, ps1.take q ++ [(k, v)] ++ ps1.drop (q + 1) = PP := ⟨_, rfl⟩
   rw [hPP] at cr
   have HPP := Lib.hid (HP1.out)
   have hdone : PP = doP ps1 ⟨k, v, false⟩ := by rw [HDO.out, <- hPP]; rfl
   have HDN := Lib.hid hdone
   clear hPP hdone
   obtain ⟨p_0, ⟨p_1, p_2, p_3, p_4, p_5, p_6, p_7, p_8, p_9, p_10, p_11⟩, p_12⟩ := _root_.id B4
   obtain ⟨r_0, ⟨r_1, r_2, r_3, r_4, r_5, r_6, r_7, r_8, r_9, r_10, r_11⟩, r_12⟩ := _root_.id B5
   go_wp2_with (rw [hW5])
   clear hW5
   ((try clear p_0); (try clear p_1); (try clear p_2); (try clear p_3); (try clear p_4); (try clear p_5); (try clear p_6); (try clear p_7); (try clear p_8); (try clear p_9); (try clear p_10); (try clear p_11); (try clear p_12))
   ((try clear r_0); (try clear r_1); (try clear r_2); (try clear r_3); (try clear r_4); (try clear r_5); (try clear r_6); (try clear r_7); (try clear r_8); (try clear r_9); (try clear r_10); (try clear r_11); (try clear r_12))
   refine cr.mono ?_
   rintro e w6 ⟨v6, rfl, hop, hgr⟩
   obtain ⟨A6, k6, hv6⟩ := (SP.of_own hop).form
   subst hv6
   have hgr' : W5.grownBy w6 o1.sp.ownBlock := by rw [ho1]; exact hgr
   have O6 := O5.replaced hop hgr'
   have hlow : Below W3.heap.size W5 w6 := (Below.refl _ W5).grown hgr' (by omega) (fun g hg => (O5.sp.lt g hg).1)
   have B6 : BoxP w.heap.size ⟨d1, .slice A1 d1.ms.length k1, ps1, .slice A2 ps1.length k2, zs1, .slice A3 zs1.length k3, fr1, ea1, .slice A4 ea1.length k4, al1⟩ w6 := B5.below (by omega) hlow
   have Z6 : BoxP (w.heap.size + 2) Ph.zero w6 := Z5.below (by omega) hlow
   have L6 : Below w.heap.size w w6 := L5.trans (hlow.mono (by omega))
   rw [ho1] at O6
   obtain ⟨W7, hW7⟩ : ∃ W7, w6.setCell ⟨w.heap.size, 6, none⟩ (.slice A6 PP.length k6) = W7 := ⟨_, rfl⟩
   have B7 : BoxP w.heap.size ⟨d1, .slice A1 d1.ms.length k1, PP, .slice A6 PP.length k6, zs1, .slice A3 zs1.length k3, fr1, ea1, .slice A4 ea1.length k4, al1⟩ W7 := hW7 ▸ B6.set6 (.slice A6 PP.length k6) PP
   have Z7 : BoxP (w.heap.size + 2) Ph.zero W7 := hW7 ▸ Z6.other (by show w.heap.size ≠ w.heap.size + 2; omega) _
   have O7 : OwnO W7 W3.heap.size ⟨d1, .slice A1 d1.ms.length k1, PP, .slice A6 PP.length k6, zs1, .slice A3 zs1.length k3, fr1, ea1, .slice A4 ea1.length k4, al1⟩ := hW7 ▸ O6.set (by show w.heap.size < _; omega) _
   have L7 : Below w.heap.size w W7 := hW7 ▸ L6.setCell (p := ⟨w.heap.size, 6, none⟩) (Nat.le_refl _) _
   have FB := BoxP.put Z7 ⟨d1, .slice A1 d1.ms.length k1, PP, .slice A6 PP.length k6, zs1, .slice A3 zs1.length k3, fr1, ea1, .slice A4 ea1.length k4, al1⟩
   have FA := (O7.putW (n := w.heap.size + 2) ⟨d1, .slice A1 d1.ms.length k1, PP, .slice A6 PP.length k6, zs1, .slice A3 zs1.length k3, fr1, ea1, .slice A4 ea1.length k4, al1⟩ (by omega)).ha hN
   have FL := putW_below ⟨d1, .slice A1 d1.ms.length k1, PP, .slice A6 PP.length k6, zs1, .slice A3 zs1.length k3, fr1, ea1, .slice A4 ea1.length k4, al1⟩ (n := w.heap.size + 2) (by omega) L7
   have HFA := Lib.hid FA
   have HFB := Lib.hid FB
   have HFL := Lib.hid FL
   obtain ⟨p_0, ⟨p_1, p_2, p_3, p_4, p_5, p_6, p_7, p_8, p_9, p_10, p_11⟩, p_12⟩ := _root_.id B6
   obtain ⟨r_0, ⟨r_1, r_2, r_3, r_4, r_5, r_6, r_7, r_8, r_9, r_10, r_11⟩, r_12⟩ := _root_.id B7
   obtain ⟨z_0, ⟨z_1, z_2, z_3, z_4, z_5, z_6, z_7, z_8, z_9, z_10, z_11⟩, z_12⟩ := _root_.id Z7
   clear FA FB FL O7 L7 L6 O6 O5 hgr' hgr hop hlow HP1 hN5 cr hp1 hO B4 Z4 B5 Z5
   go_wp2_with (rw [hW7])
   exact bodyPost_ret (res_BoxP Tryz.results33 rfl HFB.out) rfl ⟨_, rfl, HPP.out _ PP HDN.out, HFA.out, HFL.out⟩
 | false =>
  clear crep1
  cases gn with
  | true =>
   have b3 := b1
   go_wp2_with fail
   refine (co _ b3).mono ?_
   rintro e w4 ⟨o1, rfl, hp1, hO, hN, b4⟩
   have hps := HPS.out _ hp1
   have b04 := b3.trans (b4.mono b3.size)
   have B4 := hbox _ b04
   have Z4 := hzer _ b04
   have hs3 := b3.size
   have hs4 := b4.size
   obtain ⟨d1, ps1, zs1, fr1, ea1, al1, A1, A2, A3, A4, k1, k2, k3, k4, rfl⟩ := (hO.ha hN).hp.open
   simp only at hps
   subst hps
   have HP1 := Lib.hid (HPL.out _ hp1)
   obtain ⟨o1, ho1⟩ : ∃ o1 : Ph, o1 = ⟨d1, .slice A1 d1.ms.length k1, ps1, .slice A2 ps1.length k2, zs1, .slice A3 zs1.length k3, fr1, ea1, .slice A4 ea1.length k4, al1⟩ := ⟨_, rfl⟩
   rw [<- ho1] at hO
   obtain ⟨W5, hW5⟩ : ∃ W5, putW w4 w.heap.size ⟨d1, .slice A1 d1.ms.length k1, ps1, .slice A2 ps1.length k2, zs1, .slice A3 zs1.length k3, fr1, ea1, .slice A4 ea1.length k4, al1⟩ = W5 := ⟨_, rfl⟩
   have B5 : BoxP w.heap.size ⟨d1, .slice A1 d1.ms.length k1, ps1, .slice A2 ps1.length k2, zs1, .slice A3 zs1.length k3, fr1, ea1, .slice A4 ea1.length k4, al1⟩ W5 := hW5 ▸ BoxP.put B4 _
   have Z5 : BoxP (w.heap.size + 2) Ph.zero W5 := hW5 ▸ Z4.putW _ (by omega)
   have O5 : OwnO W5 w1.heap.size o1 := hW5 ▸ hO.putW _ (by omega)
   have hs5 : W5.heap.size = w4.heap.size := by rw [<- hW5, putW_size]
   have L5 : Below w.heap.size w W5 := hW5 ▸ putW_below _ (Nat.le_refl _) (hb0.trans (b04.mono hb0.size))
   have hN5 : NowP W5 w1.heap.size (.slice none 0 0) [] := .none
   have cr := crep0 A2 ps1.length k2 w1.heap.size _ _ W5 (by have := O5.sp; rw [ho1] at this; exact this) hN5 (by omega)
   obtain ⟨PP, hPP⟩ : ∃ PP, ps1.take q ++ [] ++ ps1.drop (q) = PP := ⟨_, rfl⟩
   rw [hPP] at cr
   have HPP := Lib.hid (HP1.out)
   have hdone : PP = doP ps1 ⟨k, v, true⟩ := by rw [HDO.out, <- hPP]; rfl
   have HDN := Lib.hid hdone
   clear hPP hdone
   obtain ⟨p_0, ⟨p_1, p_2, p_3, p_4, p_5, p_6, p_7, p_8, p_9, p_10, p_11⟩, p_12⟩ := _root_.id B4
   obtain ⟨r_0, ⟨r_1, r_2, r_3, r_4, r_5, r_6, r_7, r_8, r_9, r_10, r_11⟩, r_12⟩ := _root_.id B5
   go_wp2_with (rw [hW5])
   clear hW5
   ((try clear p_0); (try clear p_1); (try clear p_2); (try clear p_3); (try clear p_4); (try clear p_5); (try clear p_6); (try clear p_7); (try clear p_8); (try clear p_9); (try clear p_10); (try clear p_11); (try clear p_12))
   ((try clear r_0); (try clear r_1); (try clear r_2); (try clear r_3); (try clear r_4); (try clear r_5); (try clear r_6); (try clear r_7); (try clear r_8); (try clear r_9); (try clear r_10); (try clear r_11); (try clear r_12))
   refine cr.mono ?_
   rintro e w6 ⟨v6, rfl, hop, hgr⟩
   obtain ⟨A6, k6, hv6⟩ := (SP.of_own hop).form
   subst hv6
   have hgr' : W5.grownBy w6 o1.sp.ownBlock := by rw [ho1]; exact hgr
   have O6 := O5.replaced hop hgr'
   have hlow : Below w1.heap.size W5 w6 := (Below.refl _ W5).grown hgr' (by omega) (fun g hg => (O5.sp.lt g hg).1)
   have B6 : BoxP w.heap.size ⟨d1, .slice A1 d1.ms.length k1, ps1, .slice A2 ps1.length k2, zs1, .slice A3 zs1.length k3, fr1, ea1, .slice A4 ea1.length k4, al1⟩ w6 := B5.below (by omega) hlow
   have Z6 : BoxP (w.heap.size + 2) Ph.zero w6 := Z5.below (by omega) hlow
   have L6 : Below w.heap.size w w6 := L5.trans (hlow.mono (by omega))
   rw [ho1] at O6
   obtain ⟨W7, hW7⟩ : ∃ W7, w6.setCell ⟨w.heap.size, 6, none⟩ (.slice A6 PP.length k6) = W7 := ⟨_, rfl⟩
   have B7 : BoxP w.heap.size ⟨d1, .slice A1 d1.ms.length k1, PP, .slice A6 PP.length k6, zs1, .slice A3 zs1.length k3, fr1, ea1, .slice A4 ea1.length k4, al1⟩ W7 := hW7 ▸ B6.set6 (.slice A6 PP.length k6) PP
   have Z7 : BoxP (w.heap.size + 2) Ph.zero W7 := hW7 ▸ Z6.other (by show w.heap.size ≠ w.heap.size + 2; omega) _
   have O7 : OwnO W7 w1.heap.size ⟨d1, .slice A1 d1.ms.length k1, PP, .slice A6 PP.length k6, zs1, .slice A3 zs1.length k3, fr1, ea1, .slice A4 ea1.length k4, al1⟩ := hW7 ▸ O6.set (by show w.heap.size < _; omega) _
   have L7 : Below w.heap.size w W7 := hW7 ▸ L6.setCell (p := ⟨w.heap.size, 6, none⟩) (Nat.le_refl _) _
   have FB := BoxP.put Z7 ⟨d1, .slice A1 d1.ms.length k1, PP, .slice A6 PP.length k6, zs1, .slice A3 zs1.length k3, fr1, ea1, .slice A4 ea1.length k4, al1⟩
   have FA := (O7.putW (n := w.heap.size + 2) ⟨d1, .slice A1 d1.ms.length k1, PP, .slice A6 PP.length k6, zs1, .slice A3 zs1.length k3, fr1, ea1, .slice A4 ea1.length k4, al1⟩ (by omega)).ha hN
   have FL := putW_below ⟨d1, .slice A1 d1.ms.length k1, PP, .slice A6 PP.length k6, zs1, .slice A3 zs1.length k3, fr1, ea1, .slice A4 ea1.length k4, al1⟩ (n := w.heap.size + 2) (by omega) L7
   have HFA := Lib.hid FA
   have HFB := Lib.hid FB
   have HFL := Lib.hid FL
   obtain ⟨p_0, ⟨p_1, p_2, p_3, p_4, p_5, p_6, p_7, p_8, p_9, p_10, p_11⟩, p_12⟩ := _root_.id B6
   obtain ⟨r_0, ⟨r_1, r_2, r_3, r_4, r_5, r_6, r_7, r_8, r_9, r_10, r_11⟩, r_12⟩ := _root_.id B7
   obtain ⟨z_0, ⟨z_1, z_2, z_3, z_4, z_5, z_6, z_7, z_8, z_9, z_10, z_11⟩, z_12⟩ := _root_.id Z7
   clear FA FB FL O7 L7 L6 O6 O5 hgr' hgr hop hlow HP1 hN5 cr hp1 hO B4 Z4 B5 Z5
   go_wp2_with (rw [hW7])
   exact bodyPost_ret (res_BoxP Tryz.results33 rfl HFB.out) rfl ⟨_, rfl, HPP.out _ PP HDN.out, HFA.out, HFL.out⟩
  | false =>
   obtain ⟨W3, hW3⟩ : ∃ W3, w1.alloc (.cells #[.string k, .string v] 85) = W3 := ⟨_, rfl⟩
   have hw3s : W3.heap.size = w1.heap.size + 1 := by rw [<- hW3]; simp
   have hw3h : W3.heap[w1.heap.size]? = some (.cells #[.string k, .string v] 85 (0, 0)) := hW3 ▸ heap_alloc_new w1 _
   have b3 : Below W0.heap.size W0 W3 := hW3 ▸ b1.alloc b1.size _
   have B3 := hbox _ b3
   obtain ⟨s_0, ⟨s_1, s_2, s_3, s_4, s_5, s_6, s_7, s_8, s_9, s_10, s_11⟩, s_12⟩ := _root_.id B3
   go_wp2_with (rw [hW3])
   clear hW3 B3
   ((try clear s_0); (try clear s_1); (try clear s_2); (try clear s_3); (try clear s_4); (try clear s_5); (try clear s_6); (try clear s_7); (try clear s_8); (try clear s_9); (try clear s_10); (try clear s_11); (try clear s_12))
   refine (co _ b3).mono ?_
   rintro e w4 ⟨o1, rfl, hp1, hO, hN, b4⟩
   have hps := HPS.out _ hp1
   have b04 := b3.trans (b4.mono b3.size)
   have B4 := hbox _ b04
   have Z4 := hzer _ b04
   have hs3 := b3.size
   have hs4 := b4.size
   obtain ⟨d1, ps1, zs1, fr1, ea1, al1, A1, A2, A3, A4, k1, k2, k3, k4, rfl⟩ := (hO.ha hN).hp.open
   simp only at hps
   subst hps
   have HP1 := Lib.hid (HPL.out _ hp1)
   obtain ⟨o1, ho1⟩ : ∃ o1 : Ph, o1 = ⟨d1, .slice A1 d1.ms.length k1, ps1, .slice A2 ps1.length k2, zs1, .slice A3 zs1.length k3, fr1, ea1, .slice A4 ea1.length k4, al1⟩ := ⟨_, rfl⟩
   rw [<- ho1] at hO
   obtain ⟨W5, hW5⟩ : ∃ W5, putW w4 w.heap.size ⟨d1, .slice A1 d1.ms.length k1, ps1, .slice A2 ps1.length k2, zs1, .slice A3 zs1.length k3, fr1, ea1, .slice A4 ea1.length k4, al1⟩ = W5 := ⟨_, rfl⟩
   have B5 : BoxP w.heap.size ⟨d1, .slice A1 d1.ms.length k1, ps1, .slice A2 ps1.length k2, zs1, .slice A3 zs1.length k3, fr1, ea1, .slice A4 ea1.length k4, al1⟩ W5 := hW5 ▸ BoxP.put B4 _
   have Z5 : BoxP (w.heap.size + 2) Ph.zero W5 := hW5 ▸ Z4.putW _ (by omega)
   have O5 : OwnO W5 W3.heap.size o1 := hW5 ▸ hO.putW _ (by omega)
   have hs5 : W5.heap.size = w4.heap.size := by rw [<- hW5, putW_size]
   have L5 : Below w.heap.size w W5 := hW5 ▸ putW_below _ (Nat.le_refl _) (hb0.trans (b04.mono hb0.size))
   have hN5 : NowP W5 W3.heap.size (.slice (some ⟨w1.heap.size, 0, none⟩) 1 1) [(k, v)] := by
    refine .one _ _ ?_ (by rw [hw3s]; omega)
    unfold OneP
    have e1 : W5.heap[w1.heap.size]? = w4.heap[w1.heap.size]? := by
     rw [<- hW5]
     iterate 11 (rw [Below.heap_setCell _ _ _ _ (by show w1.heap.size ≠ w.heap.size; omega)])
    rw [e1, b4.block _ (by rw [hw3s]; omega)]
    exact hw3h
   have cr := crep0 A2 ps1.length k2 W3.heap.size _ _ W5 (by have := O5.sp; rw [ho1] at this; exact this) hN5 (by omega)
   obtain ⟨PP, hPP⟩ : ∃ PP, ps1.take q ++ [(k, v)] ++ ps1.drop (q) = PP := ⟨_, rfl⟩
   rw [hPP] at cr
   have HPP := Lib.hid (HP1.out)
   have hdone : PP = doP ps1 ⟨k, v, false⟩ := by rw [HDO.out, <- hPP]; rfl
   have HDN := Lib.hid hdone
   clear hPP hdone
   obtain ⟨p_0, ⟨p_1, p_2, p_3, p_4, p_5, p_6, p_7, p_8, p_9, p_10, p_11⟩, p_12⟩ := _root_.id B4
   obtain ⟨r_0, ⟨r_1, r_2, r_3, r_4, r_5, r_6, r_7, r_8, r_9, r_10, r_11⟩, r_12⟩ := _root_.id B5
   go_wp2_with (rw [hW5])
   clear hW5
   ((try clear p_0); (try clear p_1); (try clear p_2); (try clear p_3); (try clear p_4); (try clear p_5); (try clear p_6); (try clear p_7); (try clear p_8); (try clear p_9); (try clear p_10); (try clear p_11); (try clear p_12))
   ((try clear r_0); (try clear r_1); (try clear r_2); (try clear r_3); (try clear r_4); (try clear r_5); (try clear r_6); (try clear r_7); (try clear r_8); (try clear r_9); (try clear r_10); (try clear r_11); (try clear r_12))
   refine cr.mono ?_
   rintro e w6 ⟨v6, rfl, hop, hgr⟩
   obtain ⟨A6, k6, hv6⟩ := (SP.of_own hop).form
   subst hv6
   have hgr' : W5.grownBy w6 o1.sp.ownBlock := by rw [ho1]; exact hgr
   have O6 := O5.replaced hop hgr'
   have hlow : Below W3.heap.size W5 w6 := (Below.refl _ W5).grown hgr' (by omega) (fun g hg => (O5.sp.lt g hg).1)
   have B6 : BoxP w.heap.size ⟨d1, .slice A1 d1.ms.length k1, ps1, .slice A2 ps1.length k2, zs1, .slice A3 zs1.length k3, fr1, ea1, .slice A4 ea1.length k4, al1⟩ w6 := B5.below (by omega) hlow
   have Z6 : BoxP (w.heap.size + 2) Ph.zero w6 := Z5.below (by omega) hlow
   have L6 : Below w.heap.size w w6 := L5.trans (hlow.mono (by omega))
   rw [ho1] at O6
   obtain ⟨W7, hW7⟩ : ∃ W7, w6.setCell ⟨w.heap.size, 6, none⟩ (.slice A6 PP.length k6) = W7 := ⟨_, rfl⟩
   have B7 : BoxP w.heap.size ⟨d1, .slice A1 d1.ms.length k1, PP, .slice A6 PP.length k6, zs1, .slice A3 zs1.length k3, fr1, ea1, .slice A4 ea1.length k4, al1⟩ W7 := hW7 ▸ B6.set6 (.slice A6 PP.length k6) PP
   have Z7 : BoxP (w.heap.size + 2) Ph.zero W7 := hW7 ▸ Z6.other (by show w.heap.size ≠ w.heap.size + 2; omega) _
   have O7 : OwnO W7 W3.heap.size ⟨d1, .slice A1 d1.ms.length k1, PP, .slice A6 PP.length k6, zs1, .slice A3 zs1.length k3, fr1, ea1, .slice A4 ea1.length k4, al1⟩ := hW7 ▸ O6.set (by show w.heap.size < _; omega) _
   have L7 : Below w.heap.size w W7 := hW7 ▸ L6.setCell (p := ⟨w.heap.size, 6, none⟩) (Nat.le_refl _) _
   have FB := BoxP.put Z7 ⟨d1, .slice A1 d1.ms.length k1, PP, .slice A6 PP.length k6, zs1, .slice A3 zs1.length k3, fr1, ea1, .slice A4 ea1.length k4, al1⟩
   have FA := (O7.putW (n := w.heap.size + 2) ⟨d1, .slice A1 d1.ms.length k1, PP, .slice A6 PP.length k6, zs1, .slice A3 zs1.length k3, fr1, ea1, .slice A4 ea1.length k4, al1⟩ (by omega)).ha hN
   have FL := putW_below ⟨d1, .slice A1 d1.ms.length k1, PP, .slice A6 PP.length k6, zs1, .slice A3 zs1.length k3, fr1, ea1, .slice A4 ea1.length k4, al1⟩ (n := w.heap.size + 2) (by omega) L7
   have HFA := Lib.hid FA
   have HFB := Lib.hid FB
   have HFL := Lib.hid FL
   obtain ⟨p_0, ⟨p_1, p_2, p_3, p_4, p_5, p_6, p_7, p_8, p_9, p_10, p_11⟩, p_12⟩ := _root_.id B6
   obtain ⟨r_0, ⟨r_1, r_2, r_3, r_4, r_5, r_6, r_7, r_8, r_9, r_10, r_11⟩, r_12⟩ := _root_.id B7
   obtain ⟨z_0, ⟨z_1, z_2, z_3, z_4, z_5, z_6, z_7, z_8, z_9, z_10, z_11⟩, z_12⟩ := _root_.id Z7
   clear FA FB FL O7 L7 L6 O6 O5 hgr' hgr hop hlow HP1 hN5 cr hp1 hO B4 Z4 B5 Z5
   go_wp2_with (rw [hW7])
   exact bodyPost_ret (res_BoxP Tryz.results33 rfl HFB.out) rfl ⟨_, rfl, HPP.out _ PP HDN.out, HFA.out, HFL.out⟩
end Go.Proofs.YthcmnkmfhgoddaaGreatDoor.Dp

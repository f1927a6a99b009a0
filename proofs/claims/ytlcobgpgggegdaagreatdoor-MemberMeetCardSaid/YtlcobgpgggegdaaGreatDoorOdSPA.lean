/-
  Same: the library's Equal at pairs, Same of replies, the program's and the document's. Condition: at most 10^9 pairs.
  PutReply, the program's: a reply's text. Conditions: its texts at most 2^20 bytes; its numbers such as a program can hold; at most 2,000 pairs.
  pairs, the program's: texts, two by two. Condition: at most 5,000 texts.
-/
import Derived.Test.YtlcobgpgggegdaaGreatDoorOdPCA
import Derived.Test.YtlcobgpgggegdaaGreatDoorDsSMA
namespace Go.Proofs.YtlcobgpgggegdaaGreatDoor.Od
open Go.RowKit Bnd
open Ds (int_yes int_no)
attribute [local go_sem ↓] Go.wp_at_zero Go.wp_at_succ

end Go.Proofs.YtlcobgpgggegdaaGreatDoor.Od

namespace Go.Proofs.YtlcobgpgggegdaaGreatDoor.Od
open Go.RowKit Bnd
open Go.Proofs.YtlcobgpgggegdaaGreatDoor.M (tieT numT inR)
open Ds (nb nb_size own_new)

def headR (r : Rep) : List ByteArray := [nb r.code, nb r.err, tb r.has, r.val]
def strR (r : Rep) : List ByteArray := headR r ++ pairsS r.ps
theorem texts_pairs : ∀ l : List Pr, texts (pairsS l) = pairsT l
  | [] => rfl
  | p :: l => by
    show p.1.data.toList :: p.2.data.toList :: texts (pairsS l) = _
    rw [texts_pairs l]; rfl
theorem texts_strR (r : Rep) : texts (strR r) = strandsR r := by
  unfold strR strandsR
  rw [show texts (headR r ++ pairsS r.ps) = texts (headR r) ++ texts (pairsS r.ps) from List.map_append .., texts_pairs]
  simp [headR, texts]
/-- what is asked of a reply that comes in -/
structure FitR (r : Rep) : Prop where
  code : inR r.code
  err : inR r.err
  val : r.val.size ≤ 1048576
  n : r.ps.length ≤ 2000
  ps : ∀ p ∈ r.ps, p.1.size ≤ 1048576 ∧ p.2.size ≤ 1048576
theorem few_strR {r : Rep} (h : FitR r) : Few (strR r) := by
  refine ⟨by unfold strR; rw [List.length_append, pairsS_length]; have := h.n; simp [headR]; omega, fun s hs => ?_⟩
  have a1 := nb_size h.code
  have a2 := nb_size h.err
  have a3 := tb_size r.has
  have a4 := h.val
  unfold strR at hs
  rcases List.mem_append.1 hs with hs | hs
  · simp only [headR, List.mem_cons, List.not_mem_nil, or_false] at hs
    rcases hs with rfl | rfl | rfl | rfl <;> omega
  · unfold pairsS at hs
    obtain ⟨l, hl, hs⟩ := List.mem_flatten.1 hs
    obtain ⟨p, hp, rfl⟩ := List.mem_map.1 hl
    have := h.ps p hp
    simp only [List.mem_cons, List.not_mem_nil, or_false] at hs
    rcases hs with rfl | rfl <;> omega
theorem pairsS_take {P : List Pr} {k : Nat} (h : k < P.length) : pairsS (P.take (k + 1)) = pairsS (P.take k) ++ [P[k].1, P[k].2] := by
  rw [List.take_succ_eq_append_getElem h, pairsS_snoc]

theorem wpList_append_two {w : World} {ops : Array Oper} {rest : List Oper} {o : Oper} {a : Act} {Q : Exit → Act → World → Prop} (hgd : o.guard = none) (s x : Operand)
    (ho : o.op = .call { callee := .builtin .append, args := #[s, x], argTypes := #[122, 122] }) (base : Nat) (v : Value) (xs : List ByteArray) (hs : a.eval s = v)
    (hown : w.ownsRow base 9 1 v xs.length (xs.map Value.string)) (hbase : base ≤ w.heap.size) (p q : ByteArray) (b : Nat) (hx : a.eval x = .slice (some ⟨b, 0, none⟩) 2 2) (c0 : w.cell? ⟨b, 0, none⟩ = some (.string p)) (c1 : w.cell? ⟨b, 1, none⟩ = some (.string q)) (hlen : xs.length ≤ 1000000)
    (h : ∀ v' w', w'.ownsRow base 9 1 v' (xs ++ [p, q]).length ((xs ++ [p, q]).map Value.string) → Below base w w' → wpList Tryz.prog ops Q rest (a.put o.dst v') w') : wpList Tryz.prog ops Q (o :: rest) a w := by
  obtain ⟨i0, hi, hz0, hz1, hz2⟩ := info_parts infoStr
  refine wpList_append_own w hgd s x 122 ho base 9 i0 (.string ⟨#[]⟩) 1 16 Tryz.underlying122 hi hz0 hz1 hz2 rfl (by decide) v xs.length (xs.map Value.string) hs hown ⟨b, 0, none⟩ 2 2 [.string p, .string q] hx rfl ?_ ?_ (by unfold maxLen; omega) (by omega) hbase ?_
  · intro j u hj
    match j, hj with
    | 0, hj => simp at hj; subst hj; exact c0
    | 1, hj => simp at hj; subst hj; exact c1
    | j + 2, hj => simp at hj
  · intro u hu; simp at hu; rcases hu with rfl | rfl <;> rfl
  · intro v' w' h2 h3 _
    exact h v' w' (by simpa using h2) ((Below.refl _ w).grown h3 hbase (fun k hk => (hown.lt k hk).1))

set_option maxHeartbeats 8000000 in
set_option maxRecDepth 100000 in
theorem putR_any (r : Rep) (s : Value) (w : World) (hs : SP w w.heap.size s r.ps) (h : FitR r) : Calls Tryz.prog 198 #[rv r s] w fun e w' => e = .returned (str (putR r)) ∧ Below w.heap.size w w' := by
  obtain ⟨A, c, rfl⟩ := hs.form
  have hfew := few_strR h
  have HT := Lib.hid (texts_strR r)
  have c1 : ∀ n w, inR n → Calls Tryz.prog 124 #[.int .i64 n] w fun e w' => e = .returned (.string (nb n)) ∧ Below w.heap.size w w' := fun n w h => (num_any n w h)
  obtain ⟨ps, hps⟩ : ∃ ps, r.ps = ps := ⟨_, rfl⟩
  obtain ⟨W1, hW1⟩ : ∃ W1, w.alloc (.cells #[.int .i64 r.code, .int .i64 r.err, .bool r.has, .string r.val, .slice A ps.length c] 85) = W1 := ⟨_, rfl⟩
  rw [hps] at hs ⊢
  have B0 : BoxR w.heap.size r (.slice A ps.length c) W1 := hW1 ▸ BoxR.new w r (.slice A ps.length c)
  have hz1 : W1.heap.size = w.heap.size + 1 := by rw [← hW1]; simp
  have hbw1 : Below w.heap.size w W1 := by rw [← hW1]; exact (Below.refl _ w).alloc (Nat.le_refl _) _
  have hs1 : SP W1 w.heap.size (.slice A ps.length c) ps := hs.below hbw1
  have call : ∀ n wx, inR n → Below W1.heap.size W1 wx → Calls Tryz.prog 124 #[.int .i64 n] wx fun e w' => e = .returned (.string (nb n)) ∧ Below W1.heap.size W1 w' := by
    intro n wx hn hx
    refine (c1 n wx hn).mono ?_
    rintro e w' ⟨rfl, b⟩
    exact ⟨rfl, hx.trans (b.mono hx.size)⟩
  have call2 : ∀ wx, Below W1.heap.size W1 wx → Calls Tryz.prog 218 #[.bool r.has] wx fun e w' => e = .returned (.string (tb r.has)) ∧ Below W1.heap.size W1 w' := by
    intro wx hx
    refine (truth_any r.has wx).mono ?_
    rintro e w' ⟨rfl, rfl⟩
    exact ⟨rfl, hx⟩
  have hI1 := h.code
  have hI2 := h.err
  have hln : ps.length ≤ 2000 := hps ▸ h.n
  have hbox : ∀ wx, Below W1.heap.size W1 wx → BoxR w.heap.size r (.slice A ps.length c) wx := fun wx hx => BoxR.kept (N := W1.heap.size) B0 (by omega) hx
  have HPS := Lib.hid hps
  have hz1' := hbw1.size
  clear hps hz1
  go_enter Tryz.func198, Tryz.ntmps198
  go_wp2
  try rw [hW1]
  refine St.wp_region_tail 11 (fun _ wx => Below W1.heap.size W1 wx) (by kernel_rfl) (by kernel_rfl) (by kernel_rfl) (by kernel_rfl) (by decide) (Below.refl _ _).drew ?_
  simp only [List.take, List.drop]
  repeat (first
    | (apply St.step_give
       · rfl
       · intro L wx hS hcl hrd
         obtain ⟨_, ⟨d0, d1, d2, d3, d4⟩, _⟩ := hbox wx hS
         go_simp
         try with_reducible rfl
       · exact fun L wx hS => hS
       simp only [Act.put, List.setIfInBounds_toArray, List.set_cons_zero, List.set_cons_succ])
    | (apply St.step_into
       · rfl
       · intro wx
         go_simp
         exact ⟨rfl, rfl⟩
       · first
         | exact fun L wx hS hcl hrd => call2 wx hS
         | exact fun L wx hS hcl hrd => call _ wx (by first | exact hI1 | exact hI2) hS
       simp only [Act.put, List.setIfInBounds_toArray, List.set_cons_zero, List.set_cons_succ]))
  refine St.step_last ?_
  intro L wx hS _
  clear hI1 hI2 call call2
  have B1 := hbox wx hS
  have hz : W1.heap.size ≤ wx.heap.size := hS.size
  have hown0 := own_new wx W1.heap.size (headR r) hz (by simp [headR])
  have HO := Lib.hid hown0
  have hS1 := hS.alloc hz (.cells #[.string (nb r.code), .string (nb r.err), .string (tb r.has), .string r.val] 9)
  clear hown0 hW1
  obtain ⟨p_0, ⟨p_1, p_2, p_3, p_4, p_5⟩, p_6⟩ := _root_.id B1
  go_wp2_with fail
  clear p_0 p_1 p_2 p_3 p_4 p_5 p_6
  go_loopw [3, 5, 21] (fun v3 _ vi wr => ∃ k, k ≤ ps.length ∧ vi = .int .i64 (k : Int) ∧ wr.ownsRow W1.heap.size 9 1 v3 (headR r ++ pairsS (ps.take k)).length ((headR r ++ pairsS (ps.take k)).map Value.string) ∧ Below W1.heap.size W1 wr) (fun _ _ vi _ => ps.length - (intOf vi).toNat)
  case atStart => exact ⟨0, by omega, rfl, by rw [show headR r ++ pairsS (ps.take 0) = headR r by simp [pairsS]]; exact HO.out, hS1⟩
  case round =>
    clear HO hS hS1 B1 hz
    obtain ⟨k, hk, rfl, hown, hbw⟩ := hrel
    have hz := hbw.size
    by_cases hlt : k < ps.length
    · obtain ⟨b, o, rfl, hb, hc1, hc2⟩ := (hs1.below (hbw.mono (by omega))).at_ hlt
      have hbz : b < wr.heap.size := by omega
      have htk := pairsS_take hlt
      obtain ⟨⟨x, y⟩, hm⟩ : ∃ m, ps[k] = m := ⟨_, rfl⟩
      rw [hm] at hc1 hc2 htk
      clear hm
      obtain ⟨xs, hxs⟩ : ∃ xs, headR r ++ pairsS (ps.take k) = xs := ⟨_, rfl⟩
      have hxl : xs.length ≤ 10000 := by rw [← hxs, List.length_append, pairsS_length, List.length_take]; simp [headR]; omega
      rw [hxs] at hown
      have HN := Lib.hid (show headR r ++ pairsS (ps.take (k + 1)) = xs ++ [x, y] by rw [htk, ← List.append_assoc, hxs])
      obtain ⟨A3, c3, rfl⟩ := own_form hown
      have HO := Lib.hid hown
      have hk0 : (0 : Int) ≤ (k : Int) := by omega
      have hk1 : (k : Int) < (ps.length : Int) := by omega
      clear htk hxs hown
      obtain ⟨W2, hW2⟩ : ∃ W2, (wr.alloc (.cells #[.string x, .string y] 110)).alloc (.cells #[.string x, .string y] 9) = W2 := ⟨_, rfl⟩
      have hz2 : W2.heap.size = wr.heap.size + 2 := by rw [← hW2]; simp
      have hb2 : Below wr.heap.size wr W2 := by rw [← hW2]; exact ((Below.refl _ wr).alloc (Nat.le_refl _) _).alloc (by simp) _
      have x0 : W2.cell? ⟨wr.heap.size + 1, 0, none⟩ = some (.string x) := by rw [← hW2]; simp
      have x1 : W2.cell? ⟨wr.heap.size + 1, 1, none⟩ = some (.string y) := by rw [← hW2]; simp
      have O2 := Lib.hid (own_below HO.out hb2)
      have H2 := Lib.hid hW2
      clear hW2 HO
      go_wp2_with (at_builtin; rw [H2.out]; refine wpList_append_two rfl _ _ rfl W1.heap.size _ xs rfl O2.out (by omega) x y (wr.heap.size + 1) rfl x0 x1 (by omega) ?_)
      intro v' w2 O3 b3
      have b4 := (hbw.trans (hb2.mono hz)).trans b3
      have H3 := Lib.hid O3
      clear O3 b3 O2 x0 x1
      go_wp2_with fail
      go_roundw
      case rel => exact ⟨k + 1, by omega, by go_num, by rw [HN.out]; simpa using H3.out, b4⟩
      case measure => simp [intOf]; omega
    · obtain rfl : k = ps.length := by omega
      rw [List.take_length] at hown
      obtain ⟨ts, hts⟩ : ∃ ts, headR r ++ pairsS ps = ts := ⟨_, rfl⟩
      have hstr : strR r = ts := by rw [← hts]; unfold strR; rw [HPS.out]
      rw [hts] at hown
      rw [hstr] at hfew HT
      obtain ⟨A3, c3, rfl⟩ := own_form hown
      have ct := tie_any _ ts wr (SL.of_own hown) hfew
      rw [HT.out] at ct
      clear hown hts hfew hstr
      go_wp2_with fail
      refine ct.mono ?_
      rintro e w1 ⟨rfl, b1⟩
      go_wp2_with fail
      go_ret
      exact ⟨rfl, hbw1.trans ((hbw.trans (b1.mono hz)).mono (by omega))⟩
end Go.Proofs.YtlcobgpgggegdaaGreatDoor.Od

namespace Go.Proofs.YtlcobgpgggegdaaGreatDoor.Od
open Go.RowKit Bnd
open Ds (run_append2)

def twosS : List ByteArray → List Pr
  | a :: b :: l => (a, b) :: twosS l
  | _ => []
/-- one pair is put behind the others, whichever operation comes first -/
structure RT (N : Nat) (W : World) (xs : List Pr) (m : Pr) (L : Nat → Bool) (u : Nat → Value) (wx : World) : Prop where
  w0 : L 11 = false → wx = W.drew
  w11 : L 11 = true → L 12 = false → wx = W.drew.alloc (.cells #[.string m.1, .string m.2] 110)
  wa : L 12 = true → Below N W wx ∧ OwnP wx N (u 12) (xs ++ [m])

end Go.Proofs.YtlcobgpgggegdaaGreatDoor.Od

/-
  Put, the program's: the text of sessions. Conditions: numbers such as a program can hold; replies whose texts are at most 2^20 bytes; at most 1,000 sessions.
  How a plot comes into a call, and is handed back; what a plot that may be says of lengths and numbers. No condition.
-/
import Derived.Test.YthcmnkmfhgoddaaGreatDoorKSsBoA
import Derived.Test.YthcmnkmfhgoddaaGreatDoorKOdLA
import Derived.Test.YthcmnkmfhgoddaaGreatDoorKDpMA
import Derived.Test.YthcmnkmfhgoddaaGreatDoorKDpRfA
import Derived.Test.YthcmnkmfhgoddaaGreatDoorKDsLiftA
namespace Go.Proofs.YthcmnkmfhgoddaaGreatDoor.Ss
open Go.RowKit Bnd
open Go.Proofs.YthcmnkmfhgoddaaGreatDoor.M (tieT numT inR)
open Go.Proofs.YthcmnkmfhgoddaaGreatDoor.Od (Rep SP ArgP OwnP rv BoxR FitR putR putR_any)
open Ds (nb nb_size own_new run_append2)
def rb (r : Rep) : ByteArray := ⟨(putR r).toArray⟩
def sesB (s : Ses) : List ByteArray := [nb s.client, nb s.seq, rb s.rep]
def strB (l : List Ses) : List ByteArray := (l.map sesB).flatten
theorem strB_snoc (l : List Ses) (s : Ses) : strB (l ++ [s]) = strB l ++ [nb s.client, nb s.seq, rb s.rep] := by simp [strB, sesB]
theorem strB_length : ∀ l : List Ses, (strB l).length = l.length * 3
 | [] => rfl
 | s :: l => by
  have : strB (s :: l) = sesB s ++ strB l := rfl
  rw [this, List.length_append, strB_length l]; simp [sesB]; omega
theorem texts_strB : ∀ l : List Ses, texts (strB l) = strandsS l
 | [] => rfl
 | s :: l => by
  have : strB (s :: l) = sesB s ++ strB l := rfl
  rw [this, strandsS_cons]
  show texts (sesB s ++ strB l) = _
  rw [show texts (sesB s ++ strB l) = texts (sesB s) ++ texts (strB l) from List.map_append .., texts_strB l]
  simp [sesB, texts, nb, rb]
structure PutZ (s : Ses) : Prop where
 client : inR s.client
 seq : inR s.seq
 rep : FitR s.rep
 len : (putR s.rep).length <= 1048576
theorem few_strB {l : List Ses} (h : ∀ s ∈ l, PutZ s) (hl : l.length <= 1000) : Few (strB l) := by
 refine ⟨by rw [strB_length]; omega, fun x hx => ?_⟩
 unfold strB at hx
 obtain ⟨q, hq, hx⟩ := List.mem_flatten.1 hx
 obtain ⟨s, hs, rfl⟩ := List.mem_map.1 hq
 obtain ⟨h1, h2, h3, h4⟩ := h s hs
 have a1 := nb_size h1
 have a2 := nb_size h2
 have a3 : (rb s.rep).size = (putR s.rep).length := by simp [rb, ByteArray.size]
 simp only [sesB, List.mem_cons, List.not_mem_nil, or_false] at hx
 rcases hx with rfl | rfl | rfl <;> omega
theorem ses_take {zs : List Zs} {k : Nat} (h : k < zs.length) : ses (zs.take (k + 1)) = ses (zs.take k) ++ [zs[k].1] := by
 unfold ses
 rw [List.take_succ_eq_append_getElem h, List.map_append]
 rfl
structure PL (k7 k8 base : Nat) (W0 : World) (xs ns : List ByteArray) (L : Nat -> Bool) (u : Nat -> Value) (wx : World) : Prop where
 le : base <= W0.heap.size
 b0 : L k8 = false -> Below W0.heap.size W0 wx
 b : Below base W0 wx
 p7 : L k7 = true -> L k8 = false -> ∃ g : Nat, u k7 = .slice (some ⟨g, 0, none⟩) ns.length ns.length /\ (∀ i (h : i < ns.length), wx.cell? ⟨g, i, none⟩ = some (.string ns[i])) /\ g < wx.heap.size
 o8 : L k8 = true -> wx.ownsRow base 9 1 (u k8) (xs.length + ns.length) ((xs ++ ns).map Value.string)
theorem PL.start {k7 k8 base : Nat} {W0 : World} (xs ns : List ByteArray) (h : base <= W0.heap.size) : PL k7 k8 base W0 xs ns (fun _ => false) (fun _ => undef) W0.drew :=
 ⟨h, fun _ => (Below.refl _ W0).drew, (Below.refl _ W0).drew, fun h => (by cases h), fun h => (by cases h)⟩
theorem PL.call {k7 k8 base i : Nat} {W0 wx w' : World} {xs ns : List ByteArray} {L : Nat -> Bool} {u : Nat -> Value} {v : Value} (h : PL k7 k8 base W0 xs ns L u wx) (h8 : L k8 = false) (hb : Below wx.heap.size wx w') (n7 : k7 ≠ i) (n8 : k8 ≠ i) :
  PL k7 k8 base W0 xs ns (St.mark L i) (St.upd u i v) w' := by
 have h0 := h.b0 h8
 have e7 : St.mark L i k7 = L k7 := by simp [St.mark, n7]
 have e8 : St.mark L i k8 = L k8 := by simp [St.mark, n8]
 have q7 : St.upd u i v k7 = u k7 := by simp [St.upd, n7]
 refine ⟨h.le, fun _ => h0.trans (hb.mono h0.size), h.b.trans (hb.mono (Nat.le_trans h.le h0.size)), fun h7 _ => ?_, fun h' => ?_⟩
 ·rw [e7] at h7
  obtain ⟨g, g1, g2, g4⟩ := h.p7 h7 h8
  exact ⟨g, by rw [q7]; exact g1, fun i hi => (hb.cell (p := ⟨g, i, none⟩) g4).trans (g2 i hi), Nat.lt_of_lt_of_le g4 hb.size⟩
 ·rw [e8, h8] at h'; cases h'
theorem PL.made {k7 k8 base : Nat} {W0 wx : World} {xs ns : List ByteArray} {L : Nat -> Bool} {u : Nat -> Value} (h : PL k7 k8 base W0 xs ns L u wx) (h8 : L k8 = false) (hne : k7 ≠ k8) :
  PL k7 k8 base W0 xs ns (St.mark L k7) (St.upd u k7 (.slice (some ⟨wx.heap.size, 0, none⟩) ns.length ns.length)) (wx.alloc (.cells (ns.map Value.string).toArray 9)) := by
 have h0 := h.b0 h8
 refine ⟨h.le, fun _ => h0.alloc h0.size _, h.b.alloc (Nat.le_trans h.le h0.size) _, fun _ _ => ?_, fun h' => ?_⟩
 ·refine ⟨wx.heap.size, by simp [St.upd], fun i hi => ?_, by simp⟩
  rw [World.cell?_alloc_new wx _ _ i]
  simp [hi]
 ·have : St.mark L k7 k8 = L k8 := by simp [St.mark, hne.symm]
  rw [this, h8] at h'; cases h'
theorem PL.app {k7 k8 base : Nat} {W0 wx : World} {xs ns : List ByteArray} {L : Nat -> Bool} {u : Nat -> Value} (h : PL k7 k8 base W0 xs ns L u wx) (h7 : L k7 = true) (h8 : L k8 = false) {v : Value}
  (hown : W0.ownsRow base 9 1 v xs.length (xs.map Value.string)) (hle : xs.length <= 100000) (hln : ns.length <= 100) (ty : TypeId) :
  ∃ v' w', (Builtin.append_ #[101, 101] ty #[v, u k7]).run Tryz.prog wx = .ok v' w' /\ PL k7 k8 base W0 xs ns (St.mark L k8) (St.upd u k8 v') w' := by
 obtain ⟨i0, hi, hz0, hz1, hz2⟩ := info_parts infoStr
 have h0 := h.b0 h8
 have ho := own_below hown h0
 obtain ⟨g, g1, g2, g4⟩ := h.p7 h7 h8
 obtain ⟨v', w', k1, k2, k3, _⟩ := run_append_own (P := Tryz.prog) (w := wx) base 101 ty 9 i0 (.string ⟨#[]⟩) 1 16 Tryz.underlying101 hi hz0 hz1 hz2 rfl (by decide) v xs.length (xs.map Value.string) ho ⟨g, 0, none⟩ ns.length ns.length (ns.map Value.string)
  (by simp) (fun j z hz => by
   have hj : j < ns.length := by
    have := (List.getElem?_eq_some_iff.1 hz).1
    simpa using this
   rw [List.getElem?_map, List.getElem?_eq_getElem hj] at hz
   obtain rfl := Option.some.inj hz
   rw [Addr.add_lit, Nat.zero_add]
   exact g2 j hj) (fun z hz => by obtain ⟨x, _, rfl⟩ := List.mem_map.1 hz; rfl) (by unfold maxLen; omega) (by omega) (Nat.le_trans h.le h0.size)
 rw [<- g1] at k1
 have e8 : St.mark L k8 k8 = true := by simp [St.mark]
 refine ⟨v', w', k1, h.le, fun h' => (by rw [e8] at h'; cases h'), h.b.grown k3 (Nat.le_trans h.le h0.size) (fun k hk => (ho.lt k hk).1), fun _ h' => (by rw [e8] at h'; cases h'), fun _ => ?_⟩
 have : St.upd u k8 v' k8 = v' := by simp [St.upd]
 rw [this]
 simpa using k2
set_option maxHeartbeats 8000000 in
set_option maxRecDepth 100000 in
theorem put_any (v : Value) (zs : List Zs) (w : World) (hv : SZ w w.heap.size v zs) (hp : PZ w w.heap.size zs) (hf : ∀ s ∈ ses zs, PutZ s) (hl : zs.length <= 1000) :
  Calls Tryz.prog 131 #[v] w fun e w' => e = .returned (str (putS (ses zs))) /\ Below w.heap.size w w' := by
 obtain ⟨A, c, rfl⟩ := hv.form
 have hfew := few_strB hf (by simpa using hl)
 have HT := Lib.hid (texts_strB (ses zs))
 obtain ⟨n, hn⟩ : ∃ n, zs.length = n := ⟨_, rfl⟩
 have HN := Lib.hid hn
 have HV := Lib.hid hv
 have c1 : ∀ n w, inR n -> Calls Tryz.prog 133 #[.int .i64 n] w fun e w' => e = .returned (.string (nb n)) /\ Below w.heap.size w w' := fun n w h => (num_any n w h)
 rw [hn] at hl ⊢
 clear hn hv
 go_enter Tryz.func131, Tryz.ntmps131
 go_wp2_with fail
 go_loopw [3, 5, 8] (fun v3 _ vi wr => ∃ k, k <= n /\ vi = .int .i64 (k : Int) /\ wr.ownsRow w.heap.size 9 1 v3 (strB (ses (zs.take k))).length ((strB (ses (zs.take k))).map Value.string) /\ Below w.heap.size w wr) (fun _ _ vi _ => n - (intOf vi).toNat)
 case atStart => exact ⟨0, Nat.zero_le _, rfl, World.ownsRow_nil _ _ _ _, Below.refl _ _⟩
 case round =>
  obtain ⟨k, hk, rfl, hown, hbw⟩ := hrel
  have hz := hbw.size
  by_cases hlt : k < n
  rotate_left
  ·obtain rfl : k = n := by omega
   rw [List.take_of_length_le (by have := HN.out; omega)] at hown
   obtain ⟨ts, hts⟩ : ∃ ts, strB (ses zs) = ts := ⟨_, rfl⟩
   rw [hts] at hown hfew HT
   obtain ⟨A3, c3, rfl⟩ := own_form hown
   have ct := tie_any _ ts wr (SL.of_own hown) hfew
   rw [HT.out] at ct
   clear hown hts hfew
   go_wp2_with fail
   refine ct.mono ?_
   rintro e w1 ⟨rfl, b1⟩
   go_wp2_with fail
   go_ret
   exact ⟨rfl, hbw.trans (b1.mono hz)⟩
  ·have hkx : k < zs.length := by rw [HN.out]; exact hlt
   have hv1 := HV.out.below hbw
   rw [HN.out] at hv1
   obtain ⟨b, o, rfl, hb, q0, q1, q2, q3, q4, q5, q6⟩ := hv1.at_ hkx
   have hpi := (hp _ (List.getElem_mem hkx)).below hbw
   have hfi := hf zs[k].1 (List.mem_map.2 ⟨_, List.getElem_mem hkx, rfl⟩)
   have htk := congrArg strB (ses_take hkx)
   rw [strB_snoc] at htk
   obtain ⟨⟨⟨cl, sq, r⟩, pv⟩, hzk⟩ : ∃ z, zs[k] = z := ⟨_, rfl⟩
   rw [hzk] at q0 q1 q2 q3 q4 q5 q6 hpi hfi htk
   simp only at q0 q1 q2 q3 q4 q5 q6 hpi htk
   obtain ⟨pA, pc, rfl⟩ := hpi.form
   obtain ⟨f1, f2, f3, f4⟩ := hfi
   simp only at f1 f2 f3
   obtain ⟨W2, hW2⟩ : ∃ W2, wr.alloc (.cells #[.int .i64 cl, .int .i64 sq, .int .i64 r.code, .int .i64 r.err, .bool r.has, .string r.val, .slice pA r.ps.length pc] 89) = W2 := ⟨_, rfl⟩
   have B2 : BoxS wr.heap.size (⟨cl, sq, r⟩, .slice pA r.ps.length pc) W2 := hW2 ▸ BoxS.new wr (⟨cl, sq, r⟩, .slice pA r.ps.length pc)
   have hb2 : Below wr.heap.size wr W2 := by rw [<- hW2]; exact (Below.refl _ wr).alloc (Nat.le_refl _) _
   have hz2 := hb2.size
   have hzl : wr.heap.size < W2.heap.size := B2.1
   have hps2 : SP W2 W2.heap.size (.slice pA r.ps.length pc) r.ps := (hpi.below (hb2.mono hz)).more (by omega)
   have cr := fun wx (hx : Below W2.heap.size W2 wx) => putR_any r (.slice pA r.ps.length pc) wx ((hps2.below hx).more hx.size) f3
   obtain ⟨P, hP⟩ : ∃ P, r.ps.length = P := ⟨_, rfl⟩
   obtain ⟨xs, hxs⟩ : ∃ xs, strB (ses (zs.take k)) = xs := ⟨_, rfl⟩
   have hxl : xs.length <= 10000 := by rw [<- hxs, strB_length]; simp; omega
   rw [hxs] at hown htk
   have HTK := Lib.hid htk
   have hown2 := own_below hown hb2
   obtain ⟨A3, c3, rfl⟩ := own_form hown
   have HO := Lib.hid hown2
   have H2 := Lib.hid hW2
   have hbz : b < wr.heap.size := by omega
   have k0 : (0 <= (k : Int)) = True := eq_true (by omega)
   have k1 : ((k : Int) < (n : Int)) = True := eq_true (by omega)
   have hk1 : (k : Int) < (n : Int) := by omega
   have call2 : ∀ wx, Below W2.heap.size W2 wx -> Calls Tryz.prog 209 #[rv r (.slice pA P pc)] wx fun e w' => e = .returned (.string (rb r)) /\ Below wx.heap.size wx w' := by
    intro wx hx
    have := cr wx hx
    rw [hP] at this
    refine this.mono ?_
    rintro e w' ⟨rfl, b⟩
    exact ⟨rfl, b⟩
   rw [hP] at q6 B2
   rw [hP] at H2
   clear htk hown hown2 hxs hpi hzk hv1 hkx hW2 cr hps2 hP f3 f4
   go_wp2_with fail
   try rw [H2.out]
   have hle2 : w.heap.size <= W2.heap.size := by omega
   refine St.wp_region_mixed (PL 10 11 w.heap.size W2 xs [nb cl, nb sq, rb r]) (fun i z => match i with | 3 => z = .string (nb cl) | 6 => z = .string (nb sq) | _ => z = .string (rb r)) (by kernel_rfl) (by kernel_rfl) (by kernel_rfl) (PL.start xs [nb cl, nb sq, rb r] hle2) ?_
   iterate 2
    apply St.mix_give
    ·rfl
    ·intro L u' wx hS hcl hrd hag
     go_simp
     try with_reducible rfl
    ·exact fun L u' wx hS => ⟨hS.le, hS.b0, hS.b, hS.p7, hS.o8⟩
    simp only [Act.put, St.pu]
   apply St.mix_give
   ·rfl
   ·intro L u' wx hS hcl hrd hag
    obtain ⟨_, ⟨d0, d1, d2, d3, d4, d5, d6⟩, _⟩ := B2.keep (hS.b0 (St.not_yet hcl hrd 40 11 (by kernel_rfl)))
    go_simp
    try with_reducible rfl
   ·exact fun L u' wx hS => ⟨hS.le, hS.b0, hS.b, hS.p7, hS.o8⟩
   simp only [Act.put, St.pu]
   refine St.mix_into (v := .string (nb cl)) (f := 133) (args := #[.int .i64 cl]) rfl rfl ?_ ?_ ?_
   ·intro wx
    go_simp
    try with_reducible rfl
   ·intro L u' wx hS hcl hrd hag
    have h11 := St.not_yet hcl hrd 40 11 (by kernel_rfl)
    refine (c1 cl wx f1).mono ?_
    rintro e w' ⟨rfl, hb'⟩
    exact ⟨rfl, hS.call h11 hb' (by decide) (by decide)⟩
   simp only [Act.put, St.pu]
   apply St.mix_give
   ·rfl
   ·intro L u' wx hS hcl hrd hag
    go_simp
    try with_reducible rfl
   ·exact fun L u' wx hS => ⟨hS.le, hS.b0, hS.b, hS.p7, hS.o8⟩
   simp only [Act.put, St.pu]
   apply St.mix_give
   ·rfl
   ·intro L u' wx hS hcl hrd hag
    obtain ⟨_, ⟨d0, d1, d2, d3, d4, d5, d6⟩, _⟩ := B2.keep (hS.b0 (St.not_yet hcl hrd 40 11 (by kernel_rfl)))
    go_simp
    try with_reducible rfl
   ·exact fun L u' wx hS => ⟨hS.le, hS.b0, hS.b, hS.p7, hS.o8⟩
   simp only [Act.put, St.pu]
   refine St.mix_into (v := .string (nb sq)) (f := 133) (args := #[.int .i64 sq]) rfl rfl ?_ ?_ ?_
   ·intro wx
    go_simp
    try with_reducible rfl
   ·intro L u' wx hS hcl hrd hag
    have h11 := St.not_yet hcl hrd 40 11 (by kernel_rfl)
    refine (c1 sq wx f2).mono ?_
    rintro e w' ⟨rfl, hb'⟩
    exact ⟨rfl, hS.call h11 hb' (by decide) (by decide)⟩
   simp only [Act.put, St.pu]
   apply St.mix_give
   ·rfl
   ·intro L u' wx hS hcl hrd hag
    go_simp
    try with_reducible rfl
   ·exact fun L u' wx hS => ⟨hS.le, hS.b0, hS.b, hS.p7, hS.o8⟩
   simp only [Act.put, St.pu]
   apply St.mix_give
   ·rfl
   ·intro L u' wx hS hcl hrd hag
    obtain ⟨_, ⟨d0, d1, d2, d3, d4, d5, d6⟩, _⟩ := B2.keep (hS.b0 (St.not_yet hcl hrd 40 11 (by kernel_rfl)))
    go_simp
    try with_reducible rfl
   ·exact fun L u' wx hS => ⟨hS.le, hS.b0, hS.b, hS.p7, hS.o8⟩
   simp only [Act.put, St.pu]
   refine St.mix_into (v := .string (rb r)) (f := 209) (args := #[rv r (.slice pA P pc)]) rfl rfl ?_ ?_ ?_
   ·intro wx
    go_simp
    try with_reducible rfl
   ·intro L u' wx hS hcl hrd hag
    have h11 := St.not_yet hcl hrd 40 11 (by kernel_rfl)
    refine (call2 wx (hS.b0 h11)).mono ?_
    rintro e w' ⟨rfl, hb'⟩
    exact ⟨rfl, hS.call h11 hb' (by decide) (by decide)⟩
   simp only [Act.put, St.pu]
   refine St.mix_free (fun z => ∃ g, z = .slice (some ⟨g, 0, none⟩) 3 3) rfl ?_ ?_
   ·intro L u' wx hS hcl hrd hag
    refine ⟨_, _, ⟨wx.heap.size, rfl⟩, ?_, hS.made (St.not_yet hcl hrd 40 11 (by kernel_rfl)) (by decide)⟩
    go_simp
    try with_reducible rfl
   rintro y10 ⟨g10, rfl⟩
   simp only [Act.put, St.pu]
   refine St.mix_free (fun z => True) rfl ?_ ?_
   ·intro L u' wx hS hcl hrd hag
    obtain ⟨v', w', k1, k2⟩ := hS.app (St.before_ready hcl hrd 40 10 (by kernel_rfl)) hrd.1 HO.out (by omega) (by simp) 101
    rw [show u' 10 = .slice (some ⟨g10, 0, none⟩) 3 3 from hag 40 10 (by kernel_rfl)] at k1
    exact ⟨v', w', trivial, run_append2 rfl rfl rfl k1, k2⟩
   rintro y11 -
   simp only [Act.put, St.pu]
   apply St.mix_give
   ·rfl
   ·intro L u' wx hS hcl hrd hag
    go_simp
    try with_reducible rfl
   ·exact fun L u' wx hS => ⟨hS.le, hS.b0, hS.b, hS.p7, hS.o8⟩
   simp only [Act.put, St.pu]
   refine St.mix_last ?_
   intro L wx hS hall
   have o8 : wx.ownsRow w.heap.size 9 1 y11 (xs.length + 3) ((xs ++ [nb cl, nb sq, rb r]).map Value.string) := hS.o8 (hall 11 (by decide))
   have bx : Below w.heap.size w wx := (hbw.trans (hb2.mono hz)).trans hS.b
   have O8 := Lib.hid o8
   have hr8 : ∃ A8 c8, y11 = .slice A8 (xs.length + 3) c8 := by
    obtain ⟨A8, c8, e⟩ := own_form (ss := xs ++ [nb cl, nb sq, rb r]) (by simpa using o8)
    exact ⟨A8, c8, by simpa using e⟩
   obtain ⟨A8, c8, rfl⟩ := hr8
   clear hS hall o8
   go_wp2_with fail
   go_roundw
   case rel =>
    refine ⟨k + 1, by omega, by go_num, ?_, bx⟩
    rw [HTK.out]
    simpa using O8.out
   case measure => simp [intOf]; omega
end Go.Proofs.YthcmnkmfhgoddaaGreatDoor.Ss

namespace Go.Proofs.YthcmnkmfhgoddaaGreatDoor.Dp
open Go.RowKit Bnd
open Go.Proofs.YthcmnkmfhgoddaaGreatDoor.M (tieT numT inR)
open Go.Proofs.YthcmnkmfhgoddaaGreatDoor.Ds (De SM OwnI OwnM ArgM isD putT Fit)
open Go.Proofs.YthcmnkmfhgoddaaGreatDoor.Ss (Ses Zs ses SZ PZ NoP OwnZ ArgZ isS fitsB putS PutZ FitZ)
open Go.Proofs.YthcmnkmfhgoddaaGreatDoor.Od (Pr SP OwnP ArgP pairsT sumP FitR)
def Room (v : Value) : Prop := ∀ A n c, v = .slice A n c -> n <= c
theorem Room.nil : Room (.slice none 0 0) := fun A n c e => by injection e with _ e1 e2; omega
theorem Room.own {w : World} {base : Nat} {e : TypeId} {size : Nat} {v : Value} {n : Nat} {xs : List Value} (h : w.ownsRow base e size v n xs) : Room v := fun A m c e => by
 rcases h.2 with ⟨e1, _⟩ | ⟨g, cap, cur, e1, _, _, hn, _⟩
 ·rw [e1] at e; injection e with _ e2 e3; omega
 ·rw [e1] at e; injection e with _ e2 e3; omega
structure HA (w : World) (o : Ph) : Prop where
 sm : ArgM w o.sm o.d.ms
 sp : ArgP w o.sp o.ps
 sz : ArgZ w o.sz o.zs
 np : NoP o.zs
 se : ArgI w o.se o.ea
 rp : Room o.sp
 re : Room o.se
theorem HA.hp {w : World} {o : Ph} (h : HA w o) : HP w w.heap.size o := ⟨h.sm.sm, h.sp.sm, h.sz.sz, h.np.pz w _, h.se.si⟩
theorem HA.keep {w w' : World} {o : Ph} (h : HA w o) (hb : Below w.heap.size w w') : HA w' o := ⟨h.sm.keep hb, h.sp.keep hb, h.sz.keep hb, h.np, h.se.keep hb, h.rp, h.re⟩
def Ph.zero : Ph := ⟨De.zero, .slice none 0 0, [], .slice none 0 0, [], .slice none 0 0, false, [], .slice none 0 0, 0⟩
theorem HA.zero (w : World) : HA w Ph.zero := ⟨.nil, .nil, .nil, (fun z hz => by cases hz), .nil, .nil, .nil⟩
def GaveP (w : World) (p : Pl × Int) (e : Ending) (w' : World) : Prop := ∃ o', e = .returned (.tuple #[qv o', .int .i64 p.2]) /\ o'.pl = p.1 /\ HA w' o' /\ Below w.heap.size w w'
theorem GaveP.zero {w w' : World} {n : Int} (h : Below w.heap.size w w') : GaveP w (Pl.zero, n) (.returned (.tuple #[qv Ph.zero, .int .i64 n])) w' := ⟨Ph.zero, rfl, rfl, HA.zero _, h⟩
def GaveP2 (w : World) (p : Pl × Pl × Int) (e : Ending) (w' : World) : Prop := ∃ o' o'', e = .returned (.tuple #[qv o', qv o'', .int .i64 p.2.2]) /\ o'.pl = p.1 /\ o''.pl = p.2.1 /\ HA w' o' /\ HA w' o'' /\ Below w.heap.size w w'
theorem GaveP2.zero {w w' : World} {n : Int} (h : Below w.heap.size w w') : GaveP2 w (Pl.zero, Pl.zero, n) (.returned (.tuple #[qv Ph.zero, qv Ph.zero, .int .i64 n])) w' := ⟨Ph.zero, Ph.zero, rfl, rfl, rfl, HA.zero _, HA.zero _, h⟩
theorem isD_sizes {d : De} (h : isD d = true) : d.f.size <= 33 /\ d.t.size <= 33 /\ d.ms.length <= 5 := by
 obtain ⟨_, _, _, h4, h5, _⟩ := (Ds.isD_iff d).1 h
 obtain ⟨h6, h7, _⟩ := (O.isB_iff _).1 h4
 have a4 : d.f.toList.length = d.f.size := by rw [ByteArray.toList_eq]; simp
 have a5 : d.t.toList.length = d.t.size := by rw [ByteArray.toList_eq]; simp
 simp only [De.b] at h6 h7
 omega
theorem isD_fit {d : De} (h : isD d = true) : Fit d := by
 obtain ⟨h1, h2, h3⟩ := isD_sizes h
 exact ⟨by omega, by omega, by omega, isD_in h⟩
theorem isD_put {d : De} (h : isD d = true) : (putT d).length <= 10000 := by
 obtain ⟨h1, h2, h3⟩ := isD_sizes h
 exact Ds.put_length (isD_fit h) (by omega) (by omega) (by omega)
theorem kept_spec {s : Ses} (h : fitsB s = true) : s.rep.val.size <= 512 /\ s.rep.ps = [] := by
 unfold fitsB Ss.keptB at h
 simp only [Bool.and_eq_true, decide_eq_true_eq] at h
 exact ⟨h.2.1.2, List.length_eq_zero_iff.1 h.2.2⟩
theorem fits_rep {s : Ses} (h : fitsB s = true) : FitR s.rep /\ (Od.putR s.rep).length <= 800 := by
 obtain ⟨h1, h2⟩ := kept_spec h
 obtain ⟨h3, h4⟩ := isR_in (fits_isR h)
 have f : FitR s.rep := ⟨h3, h4, by omega, by rw [h2]; simp, by rw [h2]; intro p hp; cases hp⟩
 refine ⟨f, ?_⟩
 have := Od.putR_length f
 rw [h2] at this
 have e : sumP [] = 0 := rfl
 simp only [List.length_nil] at this
 omega
theorem isS_put {l : List Ses} (h : isS l = true) : ∀ s ∈ l, PutZ s := fun s hs => by
 have hf := (Ss.rise_mem ((Ss.isS_iff l).1 h).2 s hs).2
 have h3 := (isS_in h).n s hs
 obtain ⟨f, hl⟩ := fits_rep hf
 exact ⟨h3.1, h3.2, f, by omega⟩
theorem isS_len {l : List Ses} (h : isS l = true) : l.length <= 64 := ((Ss.isS_iff l).1 h).1
theorem isS_nop {zs : List Zs} {w : World} {N : Nat} (h : isS (ses zs) = true) (hp : PZ w N zs) : NoP zs :=
 hp.nop fun s hs => (kept_spec (Ss.rise_mem ((Ss.isS_iff _).1 h).2 s hs).2).2
theorem strandsS_sum : ∀ {l : List Ses}, (∀ s ∈ l, inR s.client /\ inR s.seq /\ (Od.putR s.rep).length <= 800) -> ((Ss.strandsS l).map List.length).sum <= 840 * l.length
 | [], _ => by simp [Ss.strandsS]
 | s :: l, h => by
  obtain ⟨h1, h2, h3⟩ := h s (by simp)
  have a1 := M.numT_length h1
  have a2 := M.numT_length h2
  have := strandsS_sum (l := l) fun x hx => h x (by simp [hx])
  rw [Ss.strandsS_cons]
  simp only [List.map_cons, List.sum_cons, List.length_cons]
  omega
theorem isS_putS {l : List Ses} (h : isS l = true) : (putS l).length <= 60000 := by
 have hn := isS_len h
 have hz := isS_put h
 have hr : ∀ s ∈ l, inR s.client /\ inR s.seq /\ (Od.putR s.rep).length <= 800 := fun s hs => ⟨(hz s hs).client, (hz s hs).seq, (fits_rep (Ss.rise_mem ((Ss.isS_iff l).1 h).2 s hs).2).2⟩
 unfold putS
 have h1 := M.tie_length (Ss.strandsS l) (by
  rw [<- Ss.texts_strB]
  intro x hx
  obtain ⟨s, hs, rfl⟩ := List.mem_map.1 hx
  have := (Ss.few_strB hz (by omega)).short s hs
  simp; omega)
 have h2 := strandsS_sum hr
 have h3 := Ss.strandsS_length l
 omega
theorem isP_ps {p : Pl} (h : isP p = true) : ∀ q ∈ p.ps, q.1.size <= 32 /\ q.2.size <= 512 := fun q hq => by
 obtain ⟨_, h2, h3, _⟩ := ((goP_iff _ _ _).1 ((isP_iff p).1 h).2.2.1).1 q hq
 unfold O.keyB at h3
 simp only [Bool.and_eq_true, decide_eq_true_eq] at h3
 have a4 : q.1.toList.length = q.1.size := by rw [ByteArray.toList_eq]; simp
 exact ⟨by omega, h2⟩
theorem isP_d {p : Pl} (h : isP p = true) : isD p.d = true := ((isP_iff p).1 h).1
theorem isP_s {p : Pl} (h : isP p = true) : isS p.ss = true := ((isP_iff p).1 h).2.1
theorem isP_ea {p : Pl} (h : isP p = true) : p.ea.length <= 200 := ((isP_iff p).1 h).2.2.2.1.1
theorem pairs_len {l : List Pr} (h : ∀ q ∈ l, q.1.size <= 1048576 /\ q.2.size <= 1048576) : (tieT (pairsT l)).length <= 44 * l.length + sumP l := by
 have h1 := M.tie_length (pairsT l) (by
  rw [<- Od.texts_pairs]
  intro x hx
  obtain ⟨s, hs, rfl⟩ := List.mem_map.1 hx
  unfold Od.pairsS at hs
  obtain ⟨q, hq, hs⟩ := List.mem_flatten.1 hs
  obtain ⟨p, hp, rfl⟩ := List.mem_map.1 hq
  have := h p hp
  simp only [List.mem_cons, List.not_mem_nil, or_false] at hs
  rcases hs with rfl | rfl <;> simp <;> omega)
 have h2 := Od.sumP_texts l
 have h3 : (pairsT l).length = l.length * 2 := Od.pairsT_length l
 omega
theorem sum_le {n : Nat} : ∀ {l : List Pr}, (∀ q ∈ l, q.1.size + q.2.size <= n) -> sumP l <= n * l.length
 | [], _ => by simp [sumP]
 | q :: l, h => by
  have h1 := h q (by simp)
  have h2 := sum_le (l := l) fun x hx => h x (by simp [hx])
  have e : sumP (q :: l) = q.1.size + q.2.size + sumP l := by simp [sumP]
  have e2 : n * (l.length + 1) = n * l.length + n := Nat.mul_succ ..
  rw [e, List.length_cons, e2]
  omega
theorem eat_len {l : List Int} (h : ∀ n ∈ l, inR n) : (eatT l).length <= 42 * l.length := by
 have hs : ∀ x ∈ l.map numT, x.length <= 20 := fun x hx => by
  obtain ⟨n, hn, rfl⟩ := List.mem_map.1 hx
  exact M.numT_length (h n hn)
 have h1 := M.tie_length (l.map numT) fun x hx => by have := hs x hx; omega
 have h2 : ∀ {m : List (List UInt8)}, (∀ x ∈ m, x.length <= 20) -> (m.map List.length).sum <= 20 * m.length := by
  intro m
  induction m with
  | nil => intro _; simp
  | cons x m ih =>
   intro h
   have h1 := h x (by simp)
   have h2 := ih fun y hy => h y (by simp [hy])
   simp only [List.map_cons, List.sum_cons, List.length_cons]
   omega
 have h3 := h2 hs
 unfold eatT
 simp only [List.length_map] at h1 h3
 omega
structure FitT (o : Ph) : Prop where
 d : Fit o.d
 f : o.d.f.size <= 1000000
 t : o.d.t.size <= 1000000
 ps : o.ps.length <= 2000
 each : ∀ p ∈ o.ps, p.1.size <= 1048576 /\ p.2.size <= 1048576
 zs : o.zs.length <= 1000
 fit : ∀ s ∈ ses o.zs, PutZ s
 ea : o.ea.length <= 2000
 ein : ∀ n ∈ o.ea, inR n
 al : inR o.al
 ld : (putT o.d).length <= 1048576
 lp : (tieT (pairsT o.ps)).length <= 1048576
 ls : (putS (ses o.zs)).length <= 1048576
 le : (eatT o.ea).length <= 1048576
theorem isP_fitT {o : Ph} (h : isP o.pl = true) (hl : o.ps.length <= 1700) : FitT o := by
 have hd : isD o.d = true := isP_d h
 have hs : isS (ses o.zs) = true := isP_s h
 have he : o.ea.length <= 200 := isP_ea h
 have hi : ∀ n ∈ o.ea, inR n := isP_eat h
 have hp : ∀ q ∈ o.ps, q.1.size <= 32 /\ q.2.size <= 512 := isP_ps h
 obtain ⟨h1, h2, h3⟩ := isD_sizes hd
 have hp' : ∀ q ∈ o.ps, q.1.size <= 1048576 /\ q.2.size <= 1048576 := fun q hq => by have := hp q hq; omega
 have hz : o.zs.length <= 64 := by have := isS_len hs; simpa using this
 have a1 := isD_put hd
 have a2 := pairs_len hp'
 have a3 := sum_le (n := 544) (l := o.ps) fun q hq => by have := hp q hq; omega
 have a4 := isS_putS hs
 have a5 := eat_len hi
 exact ⟨isD_fit hd, by omega, by omega, by omega, hp', by omega, isS_put hs, by omega, hi, isP_al h, by omega, by omega, by omega, by omega⟩
theorem isP_fit {o : Ph} (h : isP o.pl = true) (hl : o.ps.length <= 100000) : FitP o := by
 have hd : isD o.d = true := isP_d h
 have hs : isS (ses o.zs) = true := isP_s h
 have he : o.ea.length <= 200 := isP_ea h
 have hp : ∀ q ∈ o.ps, q.1.size <= 32 /\ q.2.size <= 512 := isP_ps h
 obtain ⟨h1, h2, h3⟩ := isD_sizes hd
 have hz : o.zs.length <= 64 := by have := isS_len hs; simpa using this
 refine ⟨by omega, by omega, by omega, by omega, fun q hq => by have := hp q hq; omega, by omega, fun z hz => ?_, by omega⟩
 have hf := (Ss.rise_mem ((Ss.isS_iff _).1 hs).2 z.1 (List.mem_map.2 ⟨z, hz, rfl⟩)).2
 obtain ⟨k1, k2⟩ := kept_spec hf
 exact ⟨by omega, by rw [k2]; simp, by rw [k2]; intro p hp; cases hp⟩
theorem isP_few {o : Ph} (h : isP o.pl = true) (hl : o.ps.length <= 100000) : FewP o := by
 have f := isP_fit h hl
 have hz : o.zs.length <= 64 := by have := isS_len (isP_s h); simpa [Ph.pl] using this
 have he : o.ea.length <= 200 := isP_ea h
 obtain ⟨h1, h2, h3⟩ := isD_sizes (isP_d h)
 exact ⟨by show o.d.ms.length <= _; have : o.d.ms.length <= 5 := h3; omega, by omega, by omega, by omega⟩
theorem isP_hp {o : Ph} {w : World} (h : isP o.pl = true) (h1 : ArgM w o.sm o.d.ms) (h2 : ArgP w o.sp o.ps) (h3 : ArgZ w o.sz o.zs) (hp : PZ w w.heap.size o.zs) (h4 : ArgI w o.se o.ea) (r1 : Room o.sp) (r2 : Room o.se) : HA w o :=
 ⟨h1, h2, h3, isS_nop (isP_s h) hp, h4, r1, r2⟩
end Go.Proofs.YthcmnkmfhgoddaaGreatDoor.Dp

/-
  THE PLAIN MATHEMATICS OF A TAPE THAT ENDS WITHIN A RECORD, OR IS SPOILT AT ONE BYTE OF IT; how many bytes pages have. Of no program; no condition.
-/
import Derived.Test.YtglkapamkigdhaaDoorPages
namespace Go.Proofs.YtglkapamkigdhaaDoor.M

theorem page_short {kind : Text} {n : Int} {s : Text} (hk : kind.length ≤ 4) (hn : inR n) (hs : s.length ≤ 524288) : (pageT kind n s).length ≤ s.length + 120 := by
  have h1 := numT_length hn
  have h := tie_length [kind, numT n, s] (by intro x hx; simp at hx; rcases hx with rfl | rfl | rfl <;> omega)
  simp at h
  have hb : (bodyT kind n s).length ≤ s.length + 90 := by unfold bodyT; omega
  have h2 := strand_length (sealT (bodyT kind n s))
  have h3 := numT_length (n := ((sealT (bodyT kind n s)).length : Int)) (by rw [sealT_length]; unfold inR; omega)
  rw [sealT_length] at h2 h3
  unfold pageT
  omega
theorem recPages_short : ∀ (l : List Text) (n : Nat) (c : Nat), (∀ x ∈ l, x.length ≤ c) → c ≤ 524288 → n + l.length ≤ 1000000 → (recPages n l).length ≤ l.length * (c + 120)
  | [], _, _, _, _, _ => by simp [recPages]
  | x :: l, n, c, hx, hc, hn => by
    have h1 := hx x (by simp)
    simp only [List.length_cons] at hn
    have h2 := page_short (kind := kRec) (n := (n : Int) + 1) (s := x) (by decide) (by unfold inR; omega) (by omega)
    have h3 := recPages_short l (n + 1) c (fun y hy => hx y (by simp [hy])) hc (by omega)
    rw [recPages, List.length_append, List.length_cons, Nat.succ_mul]
    omega

/-- the tape of a base and the records l -/
def tapeT (b : Text) (l : List Text) : Text := pageT kBase 1 b ++ recPages 0 l
theorem tapeT_nil (b : Text) : tapeT b [] = pageT kBase 1 b := by simp [tapeT, recPages]
theorem tapeT_snoc (b : Text) (l : List Text) (x : Text) : tapeT b (l ++ [x]) = tapeT b l ++ pageT kRec ((l.length : Int) + 1) x := by
  unfold tapeT
  rw [recPages_snoc, List.append_assoc]
  simp
theorem tapeT_take (b : Text) (l : List Text) (k : Nat) (h : k < l.length) : tapeT b (l.take (k + 1)) = tapeT b (l.take k) ++ pageT kRec ((k : Int) + 1) l[k] := by
  have hl : (l.take k).length = k := by rw [List.length_take]; omega
  rw [List.take_add_one, List.getElem?_eq_getElem h]
  have := tapeT_snoc b (l.take k) l[k]
  rw [hl] at this
  exact this
theorem tapeT_split (b : Text) (l : List Text) (k : Nat) (h : k < l.length) : tapeT b l = tapeT b (l.take k) ++ (pageT kRec ((k : Int) + 1) l[k] ++ recPages (k + 1) (l.drop (k + 1))) := by
  unfold tapeT
  rw [recPages_split 0 l k h, List.append_assoc]
  simp
theorem torn_take {b : Text} {l : List Text} (hb : b.length ≤ 524288) (hl : ∀ x ∈ l, x.length ≤ 524288) (hc : l.length ≤ 1000) {k cut : Nat} (hk : k < l.length) (h1 : (tapeT b (l.take k)).length ≤ cut) (h2 : cut < (tapeT b (l.take (k + 1))).length) :
    ∃ p, (tapeT b l).take cut = tapeT b (l.take k) ++ p ∧ scanT (tapeT b (l.take k) ++ p) = some (1, b, l.take k, (tapeT b (l.take k)).length) := by
  have hlen : (l.take k).length = k := by rw [List.length_take]; omega
  rw [tapeT_take b l k hk, List.length_append] at h2
  refine ⟨(pageT kRec ((k : Int) + 1) l[k]).take (cut - (tapeT b (l.take k)).length), ?_, ?_⟩
  · rw [tapeT_split b l k hk, List.take_append, List.take_of_length_le h1, List.take_append]
    rw [show cut - (tapeT b (l.take k)).length - (pageT kRec ((k : Int) + 1) l[k]).length = 0 by omega]
    simp
  · have hq : (pageT kRec ((k : Int) + 1) l[k]).drop (cut - (tapeT b (l.take k)).length) ≠ [] := fun h => by
      have := congrArg List.length h
      simp at this; omega
    generalize cut - (tapeT b (l.take k)).length = j at hq ⊢
    have := scan_torn (n := 1) (b := b) (l := l.take k) (k := kRec) (m := (k : Int) + 1) (t := l[k]) (p := (pageT kRec ((k : Int) + 1) l[k]).take j) (by decide) (by decide) hb (fun x hx => hl x (List.mem_of_mem_take hx)) (by omega) (List.take_append_drop _ _).symm hq
    rw [tapeT, List.append_assoc, this, List.length_append]
theorem torn_set {b : Text} {l : List Text} (hb : b.length ≤ 524288) (hl : ∀ x ∈ l, x.length ≤ 524288) (hc : l.length ≤ 1000) {k cut : Nat} (hk : k < l.length) (h1 : (tapeT b (l.take k)).length ≤ cut) (h2 : cut < (tapeT b (l.take (k + 1))).length)
    (c : UInt8) (hne : ∀ h : cut < (tapeT b l).length, (tapeT b l)[cut] ≠ c) :
    ∃ p, (tapeT b l).set cut c = tapeT b (l.take k) ++ p ∧ scanT (tapeT b (l.take k) ++ p) = some (1, b, l.take k, (tapeT b (l.take k)).length) := by
  have hlen : (l.take k).length = k := by rw [List.length_take]; omega
  rw [tapeT_take b l k hk, List.length_append] at h2
  obtain ⟨i, rfl⟩ : ∃ i, cut = (tapeT b (l.take k)).length + i := ⟨cut - (tapeT b (l.take k)).length, by omega⟩
  have hi : i < (pageT kRec ((k : Int) + 1) l[k]).length := by omega
  refine ⟨(pageT kRec ((k : Int) + 1) l[k]).set i c ++ recPages (k + 1) (l.drop (k + 1)), ?_, ?_⟩
  · rw [tapeT_split b l k hk, List.set_append_right _ _ (by omega), Nat.add_sub_cancel_left, List.set_append_left _ _ hi]
  · have hc' : (pageT kRec ((k : Int) + 1) l[k])[i] ≠ c := by
      intro h
      apply hne (by rw [tapeT_split b l k hk]; simp only [List.length_append]; omega)
      have e := tapeT_split b l k hk
      have : (tapeT b l)[(tapeT b (l.take k)).length + i]? = some c := by
        rw [e, List.getElem?_append_right (by omega), Nat.add_sub_cancel_left, List.getElem?_append_left hi, List.getElem?_eq_getElem hi, h]
      rw [List.getElem?_eq_getElem (by rw [e]; simp only [List.length_append]; omega)] at this
      exact Option.some.inj this
    have := scan_spoilt (n := 1) (b := b) (l := l.take k) (k := kRec) (m := (k : Int) + 1) (t := l[k]) (rest := recPages (k + 1) (l.drop (k + 1))) (by decide) (by decide) hb (fun x hx => hl x (List.mem_of_mem_take hx)) (by omega) (.inr rfl) i c hi hc'
    rw [tapeT, List.append_assoc, this, List.length_append]
theorem tapeT_short {b : Text} {l : List Text} {c : Nat} (hb : b.length ≤ c) (hl : ∀ x ∈ l, x.length ≤ c) (hc : c ≤ 524288) (hn : l.length ≤ 1000) : (tapeT b l).length ≤ (l.length + 1) * (c + 120) := by
  have h1 := page_short (kind := kBase) (n := 1) (s := b) (by decide) (by unfold inR; omega) (by omega)
  have h2 := recPages_short l 0 c hl hc (by omega)
  unfold tapeT
  rw [List.length_append, Nat.succ_mul]
  omega

end Go.Proofs.YtglkapamkigdhaaDoor.M

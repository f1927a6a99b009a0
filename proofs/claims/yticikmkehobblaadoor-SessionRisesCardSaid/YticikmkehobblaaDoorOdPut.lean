/-
  Put, the program's: an order's text. Conditions: its texts at most 2^20 bytes; its numbers such as a program can hold.
-/
import Derived.Test.YticikmkehobblaaDoorOdA
import Derived.Test.YticikmkehobblaaDoorDsPNA
import Derived.Test.YticikmkehobblaaDoorRegA
namespace Go.Proofs.YticikmkehobblaaDoor.Od
open Go.RowKit Bnd
open Go.Proofs.YticikmkehobblaaDoor.M (tieT numT inR)
open Ds (nb nb_size own_new)

theorem BoxA.kept {N n : Nat} {o : Ask} {w1 w2 : World} (h : BoxA n o w1) (hn : n < N) (hb : Below N w1 w2) : BoxA n o w2 := by
  obtain ⟨h0, ⟨h1, h2, h3, h4, h5, h6, h7, h8, h9, h10, h11⟩, hf⟩ := h
  have hc : ∀ o, w2.cell? ⟨n, o, none⟩ = w1.cell? ⟨n, o, none⟩ := fun o => hb.cell (p := ⟨n, o, none⟩) hn
  refine ⟨Nat.lt_of_lt_of_le h0 hb.size, ⟨?_, ?_, ?_, ?_, ?_, ?_, ?_, ?_, ?_, ?_, ?_⟩, fun o => (hb.frozen (p := ⟨n, o, none⟩) hn).trans (hf o)⟩
  all_goals rw [hc]; assumption
theorem BoxR.kept {N n : Nat} {o : Rep} {s : Value} {w1 w2 : World} (h : BoxR n o s w1) (hn : n < N) (hb : Below N w1 w2) : BoxR n o s w2 := by
  obtain ⟨h0, ⟨h1, h2, h3, h4, h5⟩, hf⟩ := h
  have hc : ∀ o, w2.cell? ⟨n, o, none⟩ = w1.cell? ⟨n, o, none⟩ := fun o => hb.cell (p := ⟨n, o, none⟩) hn
  refine ⟨Nat.lt_of_lt_of_le h0 hb.size, ⟨?_, ?_, ?_, ?_, ?_⟩, fun o => (hb.frozen (p := ⟨n, o, none⟩) hn).trans (hf o)⟩
  all_goals rw [hc]; assumption

abbrev tb (b : Bool) : ByteArray := ⟨(truthT b).toArray⟩
def strS (o : Ask) : List ByteArray := [nb o.kind, nb o.client, nb o.seq, o.key, o.til, o.val, o.old, tb o.has, nb o.lim, nb o.id, nb o.node]
theorem texts_strS (o : Ask) : texts (strS o) = strandsA o := by simp [strS, strandsA, texts]
theorem tb_size (b : Bool) : (tb b).size = 1 := by cases b <;> rfl
/-- what is asked of an order that comes in -/
structure FitA (o : Ask) : Prop where
  r : InA o
  key : o.key.size ≤ 1048576
  til : o.til.size ≤ 1048576
  val : o.val.size ≤ 1048576
  old : o.old.size ≤ 1048576
theorem few_strS {o : Ask} (h : FitA o) : Few (strS o) := by
  refine ⟨by simp [strS], fun s hs => ?_⟩
  have a1 := nb_size h.r.kind
  have a2 := nb_size h.r.client
  have a3 := nb_size h.r.seq
  have a4 := nb_size h.r.lim
  have a5 := nb_size h.r.id
  have a6 := nb_size h.r.node
  have a7 := tb_size o.has
  have b1 := h.key
  have b2 := h.til
  have b3 := h.val
  have b4 := h.old
  simp only [strS, List.mem_cons, List.not_mem_nil, or_false] at hs
  rcases hs with rfl | rfl | rfl | rfl | rfl | rfl | rfl | rfl | rfl | rfl | rfl <;> omega

end Go.Proofs.YticikmkehobblaaDoor.Od

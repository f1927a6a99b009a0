
/-
  A cell of an own row of sessions that is written. No condition.
  PutReply, the document's: a reply's text. Conditions: its texts at most 2^20 bytes; its numbers such as a program can hold; at most 2,000 pairs.
  ids, the document's: the text of numbers. Conditions: at most 2,000 numbers, such as a program can hold.
  pairs, the document's: the text of pairs. Conditions: at most 2,000 pairs, texts of at most 2^20 bytes.
-/
import Derived.Test.YtoomkdofoceiaaaGreatDoorDpHHA
import Derived.Laws.Rows
import Derived.Test.YtoomkdofoceiaaaGreatDoorOdSPA
import Derived.Test.YtoomkdofoceiaaaGreatDoorRegA
import Derived.Test.YtoomkdofoceiaaaGreatDoorDpMA
namespace Go.Proofs.YtoomkdofoceiaaaGreatDoor.Dp
open Go.RowKit Bnd
open Go.Proofs.YtoomkdofoceiaaaGreatDoor.Ss (Ses Zs ses SZ PZ NoP OwnZ ArgZ zcells zcells_length)
theorem zcells_set : ∀ (zs : List Zs) (k : Nat) (h : k < zs.length) (u : Value), (zcells zs).set (k * 7 + 6) u = zcells (zs.set k (zs[k].1, u))
  | z :: zs, 0, _, u => by simp [zcells]
  | z :: zs, k + 1, h, u => by
    have := zcells_set zs k (by simpa using h) u
    have e : (k + 1) * 7 + 6 = k * 7 + 6 + 1 + 1 + 1 + 1 + 1 + 1 + 1 := by omega
    rw [e]
    simp only [zcells, List.set_cons_succ, List.getElem_cons_succ]
    rw [this]
theorem ownZ_put {w : World} {base g c k : Nat} {zs : List Zs} (h : OwnZ w base (.slice (some ⟨g, 0, none⟩) zs.length c) zs) (hk : k < zs.length) (u : Value) :
    OwnZ (w.setCell ⟨g, k * 7 + 6, none⟩ u) base (.slice (some ⟨g, 0, none⟩) zs.length c) (zs.set k (zs[k].1, u)) := by
  obtain ⟨h1, h2⟩ := h
  rcases h2 with ⟨e, _⟩ | ⟨g', cap, cur, e, hb, hg, hn, hc, hs, ht⟩
  · cases e
  · cases e
    refine ⟨by rw [zcells_length, List.length_set], .inr ⟨g, c, cur.setIfInBounds (k * 7 + 6) u, by simp, hb, heap_setCell_same w g _ cur _ u hg, by simpa using hn, hc, by simpa using hs, ?_⟩⟩
    rw [← zcells_set zs k hk u, ← ht, Array.toList_setIfInBounds, List.length_set, List.take_set]
theorem ownZ_frozen {w : World} {base g c : Nat} {zs : List Zs} (h : OwnZ w base (.slice (some ⟨g, 0, none⟩) zs.length c) zs) (i : Nat) : w.frozen? ⟨g, i, none⟩ = false := by
  rcases h.2 with ⟨e, _⟩ | ⟨g', cap, cur, e, hb, hg, _⟩
  · cases e
  · cases e
    simp [World.frozen?, hg]
theorem ownZ_block {w : World} {base : Nat} {A : Option Addr} {n c : Nat} {zs : List Zs} (h : OwnZ w base (.slice A n c) zs) (h0 : 0 < zs.length) : ∃ g, A = some ⟨g, 0, none⟩ ∧ base ≤ g ∧ g < w.heap.size ∧ n = zs.length := by
  obtain ⟨A', c', e⟩ := (SZ.of_own h).form
  injection e with e1 e2 e3
  subst e1 e2
  rcases h.2 with ⟨e, hz⟩ | ⟨g', cap, cur, e, hb, hg, _⟩
  · omega
  · cases e
    exact ⟨g', rfl, hb, (Array.getElem?_eq_some_iff.1 hg).1, rfl⟩
theorem ses_set {zs : List Zs} {k : Nat} (h : k < zs.length) (u : Value) : ses (zs.set k (zs[k].1, u)) = ses zs := by
  unfold ses
  rw [List.map_set]
  apply List.ext_getElem (by simp)
  intro i h1 h2
  rw [List.getElem_set]
  split
  · rename_i e; subst e; simp
  · rfl
theorem nop_set {zs : List Zs} (hp : NoP zs) {k : Nat} (h : k < zs.length) {A : Option Addr} {c : Nat} : NoP (zs.set k (zs[k].1, .slice A 0 c)) := fun z hz => by
  rcases List.mem_or_eq_of_mem_set hz with hz | rfl
  · exact hp z hz
  · exact ⟨(hp _ (List.getElem_mem h)).1, A, c, rfl⟩
end Go.Proofs.YtoomkdofoceiaaaGreatDoor.Dp
namespace Go.Proofs.YtoomkdofoceiaaaGreatDoor.Od
open Go.RowKit Bnd
open Go.Proofs.YtoomkdofoceiaaaGreatDoor.M (tieT numT inR)
open Ds (nb nb_size own_new)
structure RS (N : Nat) (W : World) (xs : List ByteArray) (x y : ByteArray) (L : Nat → Bool) (u : Nat → Value) (wx : World) : Prop where
  w0 : L 13 = false → wx = W.drew
  w1 : L 13 = true → L 14 = false → wx = W.drew.alloc (.cells #[.string x, .string y] 9)
  wa : L 14 = true → Below N W wx ∧ wx.ownsRow N 9 1 (u 14) (xs ++ [x, y]).length ((xs ++ [x, y]).map Value.string)
end Go.Proofs.YtoomkdofoceiaaaGreatDoor.Od
namespace Go.Proofs.YtoomkdofoceiaaaGreatDoor.Dp
open Go.RowKit Bnd
open Go.Proofs.YtoomkdofoceiaaaGreatDoor.M (tieT numT inR)
open Ds (nb nb_size)
theorem texts_nums (l : List Int) : texts (l.map nb) = l.map numT := by simp [texts]
theorem few_nums {l : List Int} (h : ∀ n ∈ l, inR n) (hl : l.length ≤ 2000) : Few (l.map nb) := by
  refine ⟨by simp; omega, fun s hs => ?_⟩
  obtain ⟨n, hn, rfl⟩ := List.mem_map.1 hs
  have := nb_size (h n hn)
  omega
end Go.Proofs.YtoomkdofoceiaaaGreatDoor.Dp
namespace Go.Proofs.YtoomkdofoceiaaaGreatDoor.Dp
open Go.RowKit Bnd
open Go.Proofs.YtoomkdofoceiaaaGreatDoor.M (tieT numT inR)
open Go.Proofs.YtoomkdofoceiaaaGreatDoor.Od (Pr SP pairsS pairsS_take pairsS_length pairsT texts_pairs)
open Go.Proofs.YtoomkdofoceiaaaGreatDoor.Ss (PL)
open Ds (run_append2)
theorem few_pairs {l : List Pr} (h : ∀ p ∈ l, p.1.size ≤ 1048576 ∧ p.2.size ≤ 1048576) (hl : l.length ≤ 2000) : Few (pairsS l) := by
  refine ⟨by rw [pairsS_length]; omega, fun s hs => ?_⟩
  unfold pairsS at hs
  obtain ⟨q, hq, hs⟩ := List.mem_flatten.1 hs
  obtain ⟨p, hp, rfl⟩ := List.mem_map.1 hq
  have := h p hp
  simp only [List.mem_cons, List.not_mem_nil, or_false] at hs
  rcases hs with rfl | rfl <;> omega
end Go.Proofs.YtoomkdofoceiaaaGreatDoor.Dp

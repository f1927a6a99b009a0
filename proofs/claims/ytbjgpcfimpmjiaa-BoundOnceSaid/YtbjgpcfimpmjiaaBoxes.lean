/-
  The world of a law: its boxes stand, and what was there. No condition.
-/
import Derived.Test.YtbjgpcfimpmjiaaLive
namespace Go.Proofs.Ytbjgpcfimpmjiaa
open Go.RowKit O

/-- block n of w' is a box with the bound f, t -/
def Box (n : Nat) (f t : ByteArray) (w' : World) : Prop := n < w'.heap.size ∧ w'.cell? ⟨n, 0, none⟩ = some (.string f) ∧ w'.cell? ⟨n, 1, none⟩ = some (.string t)
theorem Box.keep {n : Nat} {f t : ByteArray} {w1 w2 : World} (h : Box n f t w1) (hb : Below w1.heap.size w1 w2) : Box n f t w2 :=
  ⟨Nat.lt_of_lt_of_le h.1 hb.size, (hb.cell (p := ⟨n, 0, none⟩) h.1).trans h.2.1, (hb.cell (p := ⟨n, 1, none⟩) h.1).trans h.2.2⟩
theorem Box.new (w : World) (f t : ByteArray) : Box w.heap.size f t (w.alloc (.cells #[.string f, .string t] 23)) :=
  ⟨by simp, by simp [go_sem], by simp [go_sem]⟩
theorem Box.alloc {n : Nat} {f t : ByteArray} {w1 : World} (h : Box n f t w1) (o : Obj) : Box n f t (w1.alloc o) :=
  h.keep ((Below.refl _ w1).alloc (Nat.le_refl _) o)
theorem Box.drew {n : Nat} {f t : ByteArray} {w1 : World} (h : Box n f t w1) : Box n f t w1.drew := ⟨h.1, h.2.1, h.2.2⟩

/-- what was there in w stands in w' -/
def Old (w w' : World) : Prop := Below w.heap.size w w'
theorem Old.refl (w : World) : Old w w := Below.refl _ w
theorem Old.keep {w w1 w2 : World} (h : Old w w1) (hb : Below w1.heap.size w1 w2) : Old w w2 := h.trans (hb.mono h.size)
theorem Old.alloc {w w1 : World} (h : Old w w1) (o : Obj) : Old w (w1.alloc o) := h.keep ((Below.refl _ w1).alloc (Nat.le_refl _) o)

def S1 (w : World) (f t : ByteArray) (w' : World) : Prop := Old w w' ∧ Box w.heap.size f t w'
theorem S1.start (w : World) (f t : ByteArray) : S1 w f t (w.alloc (.cells #[.string f, .string t] 23)) := ⟨(Old.refl w).alloc _, Box.new w f t⟩
theorem S1.keep {w w1 w2 : World} {f t : ByteArray} (h : S1 w f t w1) (hb : Below w1.heap.size w1 w2) : S1 w f t w2 := ⟨h.1.keep hb, h.2.keep hb⟩
def S2 (w : World) (f t g u : ByteArray) (w' : World) : Prop := Old w w' ∧ Box w.heap.size f t w' ∧ Box (w.heap.size + 1) g u w'
theorem S2.start (w : World) (f t g u : ByteArray) : S2 w f t g u ((w.alloc (.cells #[.string f, .string t] 23)).alloc (.cells #[.string g, .string u] 23)) :=
  ⟨((Old.refl w).alloc _).alloc _, (Box.new w f t).alloc _, by have := Box.new (w.alloc (.cells #[.string f, .string t] 23)) g u; simpa using this⟩
theorem S2.keep {w w1 w2 : World} {f t g u : ByteArray} (h : S2 w f t g u w1) (hb : Below w1.heap.size w1 w2) : S2 w f t g u w2 := ⟨h.1.keep hb, h.2.1.keep hb, h.2.2.keep hb⟩
theorem S2.drew {w w1 : World} {f t g u : ByteArray} (h : S2 w f t g u w1) : S2 w f t g u w1.drew := ⟨Below.drew h.1, h.2.1.drew, h.2.2.drew⟩

theorem S2.alloc {w w1 : World} {f t g u : ByteArray} (h : S2 w f t g u w1) (o : Obj) : S2 w f t g u (w1.alloc o) := h.keep ((Below.refl _ w1).alloc (Nat.le_refl _) o)
theorem S1.alloc {w w1 : World} {f t : ByteArray} (h : S1 w f t w1) (o : Obj) : S1 w f t (w1.alloc o) := h.keep ((Below.refl _ w1).alloc (Nat.le_refl _) o)
theorem S1.drew {w w1 : World} {f t : ByteArray} (h : S1 w f t w1) : S1 w f t w1.drew := ⟨Below.drew h.1, h.2.drew⟩
/-- two boxes more -/
theorem Box.new2 (w : World) (f t g u : ByteArray) : Box w.heap.size f t ((w.alloc (.cells #[.string f, .string t] 23)).alloc (.cells #[.string g, .string u] 23)) ∧ Box (w.heap.size + 1) g u ((w.alloc (.cells #[.string f, .string t] 23)).alloc (.cells #[.string g, .string u] 23)) :=
  ⟨(Box.new w f t).alloc _, by have := Box.new (w.alloc (.cells #[.string f, .string t] 23)) g u; simpa using this⟩

/-- what Cut and Join answer: two bounds, one, and a number -/
theorem cutV_form (f t k : ByteArray) : ∃ x1 x2 y1 y2 n, cutV f t k = .tuple #[bd x1 x2, bd y1 y2, .int .i64 n] := by
  unfold cutV; split
  · exact ⟨_, _, _, _, _, rfl⟩
  · exact ⟨_, _, _, _, _, rfl⟩
theorem joinV_form (f t g u : ByteArray) : ∃ x1 x2 n, joinV f t g u = .tuple #[bd x1 x2, .int .i64 n] := by
  unfold joinV; split
  · exact ⟨_, _, _, rfl⟩
  · exact ⟨_, _, _, rfl⟩

/-- a contract that leaves the world as it is -/
theorem quiet {f : FuncId} {args : Array Value} {v : Value} (h : ∀ w, Calls Try.prog f args w fun e w' => e = .returned v ∧ w = w') (w : World) : Calls Try.prog f args w fun e w' => e = .returned v ∧ Below w.heap.size w w' :=
  (h w).mono fun _ _ ⟨h1, h2⟩ => ⟨h1, by subst h2; exact Below.refl _ _⟩

theorem small_le {f t : ByteArray} (h : smallB f t = true) : f.size ≤ 2000 ∧ t.size ≤ 2000 := by simpa [smallB] using h
/-- an error's number, tested -/
theorem chk_num (b : Bd) : ∃ n, chk b = n ∧ (n == 0) = isB b := ⟨_, rfl, by unfold chk; cases isB b <;> rfl⟩
theorem key_num (k : Text) : ∃ n, keyE k = n ∧ (n == 0) = keyB k := ⟨_, rfl, by unfold keyE; cases keyB k <;> rfl⟩

end Go.Proofs.Ytbjgpcfimpmjiaa

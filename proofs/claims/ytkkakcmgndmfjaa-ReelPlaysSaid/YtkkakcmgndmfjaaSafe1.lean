/-
  The law ReelSafe, walked: it answers true, at every argument. No condition but the form's own reach.
-/
import Derived.Test.YtkkakcmgndmfjaaLawTrims
import Derived.Lib.AtoiErrMem
namespace Go.Proofs.Ytkkakcmgndmfjaa
open Go.RowKit

structure NewRow (w w' : World) (t : ByteArray) (cap : Nat) : Prop where
  below : Below w.heap.size w w'
  cell : ∀ j, j < t.size → w'.cell? ⟨w.heap.size, j, none⟩ = some (.int .u8 ((t.data.toList.getD j 0).toNat : Int))
  frozen : ∀ j, j < t.size → w'.frozen? ⟨w.heap.size, j, none⟩ = false
  le : t.size ≤ cap
theorem new_row (w : World) (t : ByteArray) : ∃ (cap : Nat) (w' : World), (convert 9 52 (.string t)).run Try.prog w = .ok (.slice (some ⟨w.heap.size, 0, none⟩) t.size cap) w' ∧ NewRow w w' t cap := by
  refine ⟨grownCap w t.size 0 5, Lib.bytesWorld w 5 t, Lib.run_convert_string_bytes w 9 52 5 t Try.underlying9 Try.underlying52 Try.underlying5, Lib.bytesWorld_below w 5 t, fun j hj => Lib.bytesWorld_cell w 5 t j hj, fun j hj => ?_, grownCap_ge _ _ _ _⟩
  have h1 : t.size ≤ (Lib.bytesCells w 5 t).size := by simp [Lib.bytesCells]
  simp [World.frozen?, Lib.bytesWorld_at_new]
  omega

/-- what stands on the tape behind the crash: of a and b's front, the last byte of b that is kept turned -/
def safeV (A B : Text) (N : Nat) (u : UInt8) : Text := if N = 0 then A else (A ++ B.take N).modify (A.length + N - 1) (· ^^^ u)
theorem safeV_length (A B : Text) (N : Nat) (u : UInt8) (h : N ≤ B.length) : (safeV A B N u).length = A.length + N := by
  unfold safeV; split
  · omega
  · simp; omega
theorem crash_safe (A B : Text) (N : Nat) (keep : Int) (u : UInt8) (h : N = (min (max keep 0) (B.length : Int)).toNat) : Tape.crash ⟨A ++ B, A.length⟩ keep u = ⟨safeV A B N u, A.length + N⟩ := by
  have hk : Tape.kept ⟨A ++ B, A.length⟩ keep = N := by unfold Tape.kept; simp only [List.length_append]; omega
  unfold Tape.crash safeV
  rw [hk]
  simp only
  split
  · simp
  · simp [List.take_append, List.take_of_length_le]
theorem crash_again (T : Text) : Tape.crash ⟨T, T.length⟩ 0 255 = ⟨T, T.length⟩ := by rw [Tape.crash0 _ _ _ (Int.le_refl 0)]; simp

def safeState0 (A B : Text) (N : Nat) (u : UInt8) : Nat → M
  | 0 => M.new 40000
  | 1 => ⟨40000, ⟨A, 0⟩, ⟨[], 0⟩, -1, false, 1⟩
  | 2 => ⟨40000, ⟨A, A.length⟩, ⟨[], 0⟩, -1, false, 2⟩
  | 3 => ⟨40000, ⟨A ++ B, A.length⟩, ⟨[], 0⟩, -1, false, 3⟩
  | _ => ⟨40000, ⟨safeV A B N u, A.length + N⟩, ⟨[], 0⟩, -1, false, 3⟩
/-- the calls of the law, one by one -/
structure SafeCalls0 (a b : ByteArray) (keep : Int) (N : Nat) (u : UInt8) (V : ByteArray) (S : Nat → M) : Prop where
  c1 : ∀ c w, RP c (S 0) w → Calls Try.prog 22 #[ptr c, .int .i64 0, .string a] w fun e w' => e = .returned (.int .i64 0) ∧ RP c (S 1) w' ∧ Fr c w w'
  c2 : ∀ c w, RP c (S 1) w → Calls Try.prog 23 #[ptr c, .int .i64 0] w fun e w' => e = .returned (.int .i64 0) ∧ RP c (S 2) w' ∧ Fr c w w'
  c3 : ∀ c w, RP c (S 2) w → Calls Try.prog 22 #[ptr c, .int .i64 0, .string b] w fun e w' => e = .returned (.int .i64 0) ∧ RP c (S 3) w' ∧ Fr c w w'
  c4 : ∀ c w, RP c (S 3) w → Calls Try.prog 24 #[ptr c, .agg #[.int .i64 keep, .int .i64 0, .int .u8 u.toNat]] w fun e w' => e = .returned (.tuple #[]) ∧ RP c (S 4) w' ∧ Fr c w w'
  d4 : ∀ c w, RP c (S 4) w → Calls Try.prog 20 #[ptr c, .int .i64 0] w fun e w' => e = .returned (.tuple #[.string V, .int .i64 0]) ∧ w = w'
  c5 : ∀ c w, RP c (S 4) w → Calls Try.prog 24 #[ptr c, .agg #[.int .i64 0, .int .i64 0, .int .u8 255]] w fun e w' => e = .returned (.tuple #[]) ∧ RP c (S 4) w' ∧ Fr c w w'
  d6 : ∀ c w, RP c (S 4) w → Calls Try.prog 20 #[ptr c, .int .i64 1] w fun e w' => e = .returned (.tuple #[.string ⟨#[]⟩, .int .i64 0]) ∧ w = w'

theorem safe_calls0 (a b : ByteArray) (keep : Int) (N : Nat) (u : UInt8) (hl : a.size + b.size ≤ 20000) (hN : N = (min (max keep 0) (b.size : Int)).toNat) (h0 : -9223372036854775808 ≤ keep) (h1 : keep ≤ 9223372036854775807) :
    ∃ S, S 0 = M.new 40000 ∧ SafeCalls0 a b keep N u (tx (safeV a.toList b.toList N u)) S := by
  have la := size_toList a
  have lb := size_toList b
  have hN' : N = (min (max keep 0) (b.toList.length : Int)).toNat := by rw [lb]; exact hN
  have hNl : N ≤ b.toList.length := by omega
  have lV := safeV_length a.toList b.toList N u hNl
  obtain ⟨S, hS⟩ : ∃ S, S = safeState0 a.toList b.toList N u := ⟨_, rfl⟩
  have e1 : (S 0).write 0 a.toList = (0, S 1) := by
    rw [hS]; exact write_eq0 40000 ⟨[], 0⟩ ⟨[], 0⟩ 0 a.toList (by simp; omega)
  have e2 : (S 1).sync 0 = (0, S 2) := by rw [hS]; rfl
  have e3 : (S 2).write 0 b.toList = (0, S 3) := by
    rw [hS]; exact write_eq0 40000 ⟨a.toList, a.toList.length⟩ ⟨[], 0⟩ 2 b.toList (by simp only [List.length_nil]; omega)
  have e4 : (S 3).crash keep 0 u = S 4 := by
    rw [hS]
    show M.mk 40000 (Tape.crash ⟨a.toList ++ b.toList, a.toList.length⟩ keep u) (Tape.crash ⟨[], 0⟩ 0 u) (-1) false 3 = _
    rw [crash_safe _ _ N keep u hN', Tape.crash0 _ _ _ (Int.le_refl 0)]
    rfl
  have e5 : (S 4).crash 0 0 255 = S 4 := by
    rw [hS]
    show M.mk 40000 (Tape.crash ⟨safeV a.toList b.toList N u, a.toList.length + N⟩ 0 255) (Tape.crash ⟨[], 0⟩ 0 255) (-1) false 3 = ⟨40000, ⟨safeV a.toList b.toList N u, a.toList.length + N⟩, ⟨[], 0⟩, -1, false, 3⟩
    rw [← lV, crash_again, Tape.crash0 _ _ _ (Int.le_refl 0)]
    rfl
  have o0 : (S 0).ok := by rw [hS]; exact M.ok.new (by decide)
  have ops : ∀ i, (S i).ops ≤ 6 := by
    intro i; rw [hS]
    match i with
    | 0 | 1 | 2 | 3 => all_goals exact Nat.le_of_ble_eq_true rfl
    | i + 4 => exact Nat.le_of_ble_eq_true rfl
  have hop : ∀ i, (S i).ops < 4611686018427387904 := fun i => by have := ops i; omega
  have o1 : (S 1).ok := by have := o0.write 0 a.toList (hop 0); rw [e1] at this; exact this
  have o2 : (S 2).ok := by have := o1.sync 0 (hop 1); rw [e2] at this; exact this
  have o3 : (S 3).ok := by have := o2.write 0 b.toList (hop 2); rw [e3] at this; exact this
  have o4 : (S 4).ok := by have := o3.crash keep 0 u; rw [e4] at this; exact this
  refine ⟨S, by rw [hS]; rfl, ?_, ?_, ?_, ?_, ?_, ?_, ?_⟩
  · intro c w h; have := c_write 0 a h o0 (hop 0) (by omega); rw [e1] at this; exact this
  · intro c w h; have := c_sync 0 h o1 (hop 1); rw [e2] at this; exact this
  · intro c w h; have := c_write 0 b h o2 (hop 2) (by omega); rw [e3] at this; exact this
  · intro c w h; have := c_crash keep 0 u h o3 h0 h1 (by decide) (by decide); rw [e4] at this; exact this
  · intro c w h
    have := c_read 0 h
    rw [show (S 4).read 0 = (safeV a.toList b.toList N u, 0) by rw [hS]; rfl] at this
    exact this
  · intro c w h; have := c_crash 0 0 255 h o4 (by decide) (by decide) (by decide) (by decide); rw [e5] at this; exact this
  · intro c w h
    have := c_read 1 h
    rw [show (S 4).read 1 = ([], 0) by rw [hS]; rfl] at this
    exact this

def safeState1 (A B : Text) (N : Nat) (u : UInt8) : Nat → M
  | 0 => M.new 40000
  | 1 => ⟨40000, ⟨[], 0⟩, ⟨A, 0⟩, -1, false, 1⟩
  | 2 => ⟨40000, ⟨[], 0⟩, ⟨A, A.length⟩, -1, false, 2⟩
  | 3 => ⟨40000, ⟨[], 0⟩, ⟨A ++ B, A.length⟩, -1, false, 3⟩
  | _ => ⟨40000, ⟨[], 0⟩, ⟨safeV A B N u, A.length + N⟩, -1, false, 3⟩
/-- the calls of the law, one by one -/
structure SafeCalls1 (a b : ByteArray) (keep : Int) (N : Nat) (u : UInt8) (V : ByteArray) (S : Nat → M) : Prop where
  c1 : ∀ c w, RP c (S 0) w → Calls Try.prog 22 #[ptr c, .int .i64 1, .string a] w fun e w' => e = .returned (.int .i64 0) ∧ RP c (S 1) w' ∧ Fr c w w'
  c2 : ∀ c w, RP c (S 1) w → Calls Try.prog 23 #[ptr c, .int .i64 1] w fun e w' => e = .returned (.int .i64 0) ∧ RP c (S 2) w' ∧ Fr c w w'
  c3 : ∀ c w, RP c (S 2) w → Calls Try.prog 22 #[ptr c, .int .i64 1, .string b] w fun e w' => e = .returned (.int .i64 0) ∧ RP c (S 3) w' ∧ Fr c w w'
  c4 : ∀ c w, RP c (S 3) w → Calls Try.prog 24 #[ptr c, .agg #[.int .i64 0, .int .i64 keep, .int .u8 u.toNat]] w fun e w' => e = .returned (.tuple #[]) ∧ RP c (S 4) w' ∧ Fr c w w'
  d4 : ∀ c w, RP c (S 4) w → Calls Try.prog 20 #[ptr c, .int .i64 1] w fun e w' => e = .returned (.tuple #[.string V, .int .i64 0]) ∧ w = w'
  c5 : ∀ c w, RP c (S 4) w → Calls Try.prog 24 #[ptr c, .agg #[.int .i64 0, .int .i64 0, .int .u8 255]] w fun e w' => e = .returned (.tuple #[]) ∧ RP c (S 4) w' ∧ Fr c w w'
  d6 : ∀ c w, RP c (S 4) w → Calls Try.prog 20 #[ptr c, .int .i64 0] w fun e w' => e = .returned (.tuple #[.string ⟨#[]⟩, .int .i64 0]) ∧ w = w'

theorem safe_calls1 (a b : ByteArray) (keep : Int) (N : Nat) (u : UInt8) (hl : a.size + b.size ≤ 20000) (hN : N = (min (max keep 0) (b.size : Int)).toNat) (h0 : -9223372036854775808 ≤ keep) (h1 : keep ≤ 9223372036854775807) :
    ∃ S, S 0 = M.new 40000 ∧ SafeCalls1 a b keep N u (tx (safeV a.toList b.toList N u)) S := by
  have la := size_toList a
  have lb := size_toList b
  have hN' : N = (min (max keep 0) (b.toList.length : Int)).toNat := by rw [lb]; exact hN
  have hNl : N ≤ b.toList.length := by omega
  have lV := safeV_length a.toList b.toList N u hNl
  obtain ⟨S, hS⟩ : ∃ S, S = safeState1 a.toList b.toList N u := ⟨_, rfl⟩
  have e1 : (S 0).write 1 a.toList = (0, S 1) := by
    rw [hS]; exact write_eq1 40000 ⟨[], 0⟩ ⟨[], 0⟩ 0 a.toList (by simp; omega)
  have e2 : (S 1).sync 1 = (0, S 2) := by rw [hS]; rfl
  have e3 : (S 2).write 1 b.toList = (0, S 3) := by
    rw [hS]; exact write_eq1 40000 ⟨[], 0⟩ ⟨a.toList, a.toList.length⟩ 2 b.toList (by simp only [List.length_nil]; omega)
  have e4 : (S 3).crash 0 keep u = S 4 := by
    rw [hS]
    show M.mk 40000 (Tape.crash ⟨[], 0⟩ 0 u) (Tape.crash ⟨a.toList ++ b.toList, a.toList.length⟩ keep u) (-1) false 3 = _
    rw [crash_safe _ _ N keep u hN', Tape.crash0 _ _ _ (Int.le_refl 0)]
    rfl
  have e5 : (S 4).crash 0 0 255 = S 4 := by
    rw [hS]
    show M.mk 40000 (Tape.crash ⟨[], 0⟩ 0 255) (Tape.crash ⟨safeV a.toList b.toList N u, a.toList.length + N⟩ 0 255) (-1) false 3 = ⟨40000, ⟨[], 0⟩, ⟨safeV a.toList b.toList N u, a.toList.length + N⟩, -1, false, 3⟩
    rw [← lV, crash_again, Tape.crash0 _ _ _ (Int.le_refl 0)]
    rfl
  have o0 : (S 0).ok := by rw [hS]; exact M.ok.new (by decide)
  have ops : ∀ i, (S i).ops ≤ 6 := by
    intro i; rw [hS]
    match i with
    | 0 | 1 | 2 | 3 => all_goals exact Nat.le_of_ble_eq_true rfl
    | i + 4 => exact Nat.le_of_ble_eq_true rfl
  have hop : ∀ i, (S i).ops < 4611686018427387904 := fun i => by have := ops i; omega
  have o1 : (S 1).ok := by have := o0.write 1 a.toList (hop 0); rw [e1] at this; exact this
  have o2 : (S 2).ok := by have := o1.sync 1 (hop 1); rw [e2] at this; exact this
  have o3 : (S 3).ok := by have := o2.write 1 b.toList (hop 2); rw [e3] at this; exact this
  have o4 : (S 4).ok := by have := o3.crash 0 keep u; rw [e4] at this; exact this
  refine ⟨S, by rw [hS]; rfl, ?_, ?_, ?_, ?_, ?_, ?_, ?_⟩
  · intro c w h; have := c_write 1 a h o0 (hop 0) (by omega); rw [e1] at this; exact this
  · intro c w h; have := c_sync 1 h o1 (hop 1); rw [e2] at this; exact this
  · intro c w h; have := c_write 1 b h o2 (hop 2) (by omega); rw [e3] at this; exact this
  · intro c w h; have := c_crash 0 keep u h o3 (by decide) (by decide) h0 h1; rw [e4] at this; exact this
  · intro c w h
    have := c_read 1 h
    rw [show (S 4).read 1 = (safeV a.toList b.toList N u, 0) by rw [hS]; rfl] at this
    exact this
  · intro c w h; have := c_crash 0 0 255 h o4 (by decide) (by decide) (by decide) (by decide); rw [e5] at this; exact this
  · intro c w h
    have := c_read 0 h
    rw [show (S 4).read 0 = ([], 0) by rw [hS]; rfl] at this
    exact this

end Go.Proofs.Ytkkakcmgndmfjaa

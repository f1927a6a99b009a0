/-
  The document's Scan of a tape. Condition: a text of at most 10^12 bytes.
-/
import Derived.Test.YtglkapamkigdhaaGreatDoorRdPage
import Derived.Test.YtglkapamkigdhaaGreatDoorBoth
namespace Go.Proofs.YtglkapamkigdhaaGreatDoor.Rl
open Go.RowKit
open Go.Proofs.YtglkapamkigdhaaGreatDoor.M (kBase kRec tellT anyT At tell_none)

theorem no_pages {s : Text} (h : ∀ n t r, anyT s ≠ some (kBase, n, t, r)) : tellT s = (0, [], [], 0) :=
  tell_none fun n b r e => by
    rw [Go.Proofs.YtglkapamkigdhaaGreatDoor.M.read_any _ _ (by decide)] at e
    split at e
    · rename_i k m t q hq
      split at e
      · rename_i hk
        exact absurd (by rw [hq, hk]) (h m t q)
      · cases e
    · cases e
theorem bad_epoch {s : Text} {n : Int} {t r : Text} (h : anyT s = some (kBase, n, t, r)) (hn : n < 1 ∨ 4611686018427387904 < n) : tellT s = (0, [], [], 0) := Go.Proofs.YtglkapamkigdhaaGreatDoor.M.tell_base h (.inr hn)

/-- what Scan answers -/
def Sc (B : Nat) (t : Int × Text × List Text × Nat) (e : Ending) (w' : World) : Prop :=
  ∃ b rv ss, e = .returned (.tuple #[.int .i64 t.1, .string b, rv, .int .i64 t.2.2.2]) ∧ b.data.toList = t.2.1 ∧ texts ss = t.2.2.1 ∧ SR B rv ss w'

set_option maxHeartbeats 16000000 in
set_option maxRecDepth 100000 in
theorem dscan_any (s : ByteArray) (w : World) (hs : s.size ≤ 1000000000000) :
    Calls Tryz.prog 33 #[.string s] w fun e w' => Sc w.heap.size (tellT s.data.toList) e w' ∧ Below w.heap.size w w' := by
  obtain ⟨i0, hi, hz0, hz1, hz2⟩ := info_parts infoStr
  have c1 := fun w => rdpage_any ⟨#[98, 97, 115, 101]⟩ s w (by omega)
  have zero : ∀ w1, Below w.heap.size w w1 → tellT s.data.toList = (0, [], [], 0) → Sc w.heap.size (tellT s.data.toList) (.returned (.tuple #[.int .i64 0, .string ⟨#[]⟩, .slice none 0 0, .int .i64 0])) w1 := by
    intro w1 hb he
    rw [he]
    exact ⟨⟨#[]⟩, .slice none 0 0, [], rfl, rfl, rfl, (SR.nil w1).more hb.size⟩
  go_enter Tryz.func33, Tryz.ntmps33
  go_wp2_with fail
  refine (c1 _).mono ?_
  rintro e w1 ⟨hd, b1⟩
  clear c1
  rcases hd with ⟨n, t, r, ha, rfl⟩ | ⟨hno, n, a, b, rfl⟩
  · obtain ⟨T, hT⟩ : ∃ T : ByteArray, ⟨t.toArray⟩ = T := ⟨_, rfl⟩
    obtain rfl : T.data.toList = t := by rw [← hT]
    obtain ⟨R, hR⟩ : ∃ R : ByteArray, ⟨r.toArray⟩ = R := ⟨_, rfl⟩
    obtain rfl : R.data.toList = r := by rw [← hR]
    simp only [str_ba]
    by_cases h1 : n < 1
    · have z := zero w1 b1 (bad_epoch ha (.inl h1))
      clear ha zero hT hR
      go_wp2_with fail
      exact bodyPost_ret (by simp [results, Tryz.results33, go_sem]) rfl ⟨z, b1⟩
    · by_cases h2 : 4611686018427387904 < n
      · have z := zero w1 b1 (bad_epoch ha (.inr h2))
        clear ha zero hT hR
        go_wp2_with fail
        exact bodyPost_ret (by simp [results, Tryz.results33, go_sem]) rfl ⟨z, b1⟩
      · have A0 := Lib.hid (At.start ha (by omega) (by omega))
        have h2' : n ≤ 4611686018427387904 := by omega
        clear ha zero hT hR
        go_wp2_with fail
        go_loopw [8, 10] (fun vr vo wr => ∃ (R' : ByteArray) (ss : List ByteArray), vr = .string R' ∧ wr.ownsRow w.heap.size 9 1 vo ss.length (ss.map Value.string) ∧ At s.data.toList n T.data.toList (texts ss) R'.data.toList ∧ Below w.heap.size w wr) (fun vr _ _ => lenOf vr)
        case atStart => exact ⟨R, [], rfl, World.ownsRow_nil _ _ _ _, A0.out, b1⟩
        case round =>
          clear b1 A0
          obtain ⟨R', ss, rfl, hown, hat, hbw⟩ := hrel
          have hless := hat.less
          have hcount := hat.count
          have hRl : R'.data.toList.length = R'.size := by simp
          have hSl : s.data.toList.length = s.size := by simp
          rw [texts_length] at hcount
          have c2 := fun w => rdpage_any ⟨#[114, 101, 99]⟩ R' w (by omega)
          have hk : ss.length ≤ 1000000000000 := by omega
          have HAT := Lib.hid hat
          have HO := Lib.hid hown
          obtain ⟨A, c, rfl⟩ := own_form hown
          have stop : (∀ x r', anyT R'.data.toList ≠ some (kRec, (ss.length : Int) + 1, x, r')) → ∀ w2, Below wr.heap.size wr w2 →
              Sc w.heap.size (tellT s.data.toList) (.returned (.tuple #[.int .i64 n, .string T, .slice A ss.length c, .int .i64 ((s.size : Int) - (R'.size : Int))])) w2 := by
            intro hno w2 hb2
            rw [hat.stop (by rw [texts_length]; exact hno)]
            refine ⟨T, .slice A ss.length c, ss, ?_, rfl, rfl, ⟨w.heap.size, Nat.le_refl _, own_below hown hb2⟩⟩
            simp only
            rw [show ((s.data.toList.length - R'.data.toList.length : Nat) : Int) = (s.size : Int) - (R'.size : Int) by omega]
          have hlt : (R'.size : Int) ≤ (s.size : Int) := by omega
          have STOP := Lib.hid stop
          have h3 : R'.size < s.size := by omega
          clear hat hown stop hless hcount hRl hSl
          go_wp2_with fail
          refine (c2 _).mono ?_
          rintro e w2 ⟨hd, b2⟩
          have B2 := hbw.trans (b2.mono hbw.size)
          rcases hd with ⟨m, t, r, ha, rfl⟩ | ⟨hno, m, a, b, rfl⟩
          · obtain ⟨X, hX⟩ : ∃ X : ByteArray, ⟨t.toArray⟩ = X := ⟨_, rfl⟩
            obtain rfl : X.data.toList = t := by rw [← hX]
            obtain ⟨Y, hY⟩ : ∃ Y : ByteArray, ⟨r.toArray⟩ = Y := ⟨_, rfl⟩
            obtain rfl : Y.data.toList = r := by rw [← hY]
            simp only [str_ba]
            by_cases hm : m = (ss.length : Int) + 1
            · subst hm
              have AT2 := Lib.hid (HAT.out.step (by rw [texts_length]; exact ha))
              have hle : Y.size < R'.size := by
                obtain ⟨q1, _⟩ := Go.Proofs.YtglkapamkigdhaaGreatDoor.M.any_less ha
                have e1 : Y.data.toList.length = Y.size := by simp
                have e2 : R'.data.toList.length = R'.size := by simp
                omega
              have O1 := own_below HO.out b2
              have hself : (((ss.length : Int) + 1) != ((ss.length : Int) + 1)) = false := by simp
              clear ha hX hY c2 STOP HO HAT b2
              go_wp2_with (at_builtin; refine wpList_append_own _ rfl _ _ 33 rfl w.heap.size 9 i0 (.string ⟨#[]⟩) 1 16 Tryz.underlying33 hi hz0 hz1 hz2 rfl (by decide) _ _ _ rfl (O1.alloc _) ⟨w2.heap.size, 0, none⟩ 1 1 [.string X] rfl rfl ?c1 ?c2 ?c3 ?c4 ?c5 ?_)
              case c1 =>
                intro j u hj
                match j, hj with
                | 0, hj => simp at hj; subst hj; simp [Addr.add]
              case c2 => intro u hu; simp at hu; subst hu; rfl
              case c3 => unfold maxLen; omega
              case c4 => omega
              case c5 => have := B2.size; simp; omega
              intro v' w3 O2 hgrow _
              have B3 : Below w.heap.size w w3 := (B2.alloc B2.size _).grown hgrow (by have := B2.size; simp; omega) (fun k hk => (O1.lt k hk).1)
              have O3 : w3.ownsRow w.heap.size 9 1 v' (ss ++ [X]).length ((ss ++ [X]).map Value.string) := by simpa using O2
              clear O2 hgrow O1
              go_wp2_with fail
              go_roundw
              case rel =>
                refine ⟨Y, ss ++ [X], rfl, O3, ?_, B3⟩
                rw [texts_snoc]; exact AT2.out
              case measure => simp only [lenOf]; omega
            · have hne : (m != (ss.length : Int) + 1) = true := by simpa using hm
              have z := STOP.out (by intro x r' e; rw [ha] at e; injection e with e; injection e with _ e; injection e with e; exact hm e) w2 b2
              clear ha hX hY c2 STOP HO HAT b2
              go_wp2_with fail
              exact bodyPost_ret (by simp [results, Tryz.results33, go_sem]) rfl ⟨z, B2⟩
          · have z := STOP.out (fun x r' e => hno _ _ _ e) w2 b2
            clear hno c2 STOP HO HAT b2
            go_wp2_with fail
            exact bodyPost_ret (by simp [results, Tryz.results33, go_sem]) rfl ⟨z, B2⟩
  · have z := zero w1 b1 (no_pages hno)
    clear hno zero
    go_wp2_with fail
    exact bodyPost_ret (by simp [results, Tryz.results33, go_sem]) rfl ⟨z, b1⟩

end Go.Proofs.YtglkapamkigdhaaGreatDoor.Rl

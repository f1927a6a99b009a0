/-
  The laws KnotSpoilt and KnotTies, walked: each answers true, at every argument. Condition: lengths below 2^47; the library's variables hold what their types allow.
-/
import Derived.Test.YtcodknfffmadfaaDoorLive
import Derived.Laws.AppendOwnNone
import Derived.Lib.ConvBytes
namespace Go.Proofs.YtcodknfffmadfaaDoor
open Go.RowKit M

/-- a new row of bytes, and what it is good for. -/
structure NewRow (w w' : World) (t : ByteArray) (cap : Nat) : Prop where
  below : Below w.heap.size w w'
  cell : ∀ j (_ : j < t.size), w'.cell? ⟨w.heap.size, j, none⟩ = some (.int .u8 ((t.data.toList.getD j 0).toNat : Int))
  frozen : ∀ j, j < t.size → w'.frozen? ⟨w.heap.size, j, none⟩ = false
  le : t.size ≤ cap
theorem new_row (w : World) (t : ByteArray) : ∃ (cap : Nat) (w' : World), (convert 9 53 (.string t)).run Tryd.prog w = .ok (.slice (some ⟨w.heap.size, 0, none⟩) t.size cap) w' ∧ NewRow w w' t cap := by
  refine ⟨grownCap w t.size 0 5, Lib.bytesWorld w 5 t, Lib.run_convert_string_bytes w 9 53 5 t Tryd.underlying9 Tryd.underlying53 Tryd.underlying5, Lib.bytesWorld_below w 5 t, fun j hj => Lib.bytesWorld_cell w 5 t j hj, fun j hj => ?_, grownCap_ge _ _ _ _⟩
  have h1 : t.size ≤ (Lib.bytesCells w 5 t).size := by simp [Lib.bytesCells]
  simp [World.frozen?, Lib.bytesWorld_at_new]
  omega

set_option maxHeartbeats 4000000 in
set_option maxRecDepth 100000 in
theorem walk_spoilt (s : ByteArray) (p : Int) (C : UInt8) (w : World) (hs : s.size ≤ 140737488355328) (hp : inR p) (hg : Good w) :
    Calls Tryd.prog 8 #[.string s, .int .i64 p, .int .u8 (C.toNat : Int)] w fun e w' => e = .returned (.bool true) ∧ Below w.heap.size w w' := by
  by_cases hbig : 20000 < s.size
  · have hi : (20000 : Int) < (s.size : Int) := by omega
    have hl := live_any w hg
    go_enter Tryd.func8, Tryd.ntmps8
    go_wp2_with fail
    refine hl.mono ?_
    rintro e w1 ⟨rfl, b1⟩
    go_wp2_with fail
    go_ret
    exact ⟨rfl, b1⟩
  · have hi : ¬ (20000 : Int) < (s.size : Int) := by omega
    obtain ⟨t, ht⟩ : ∃ t : ByteArray, ⟨(sealT s.data.toList).toArray⟩ = t := ⟨_, rfl⟩
    have htd : t.data.toList = sealT s.data.toList := by rw [← ht]
    have hts : t.size = s.size + 8 := by
      have := sealT_length s.data.toList
      rw [← htd] at this
      simpa using this
    have cS : ∀ w, Calls Tryd.prog 29 #[.string s] w fun e w' => e = .returned (.string t) ∧ Below w.heap.size w w' := fun w => by rw [← ht]; exact seal_any s w hs
    clear ht
    unfold inR at hp
    obtain ⟨hp1, hp2⟩ := hp
    by_cases hneg : p < 0
    · go_enter Tryd.func8, Tryd.ntmps8
      go_wp2_with fail
      refine (cS _).mono ?_
      rintro e w1 ⟨rfl, b1⟩
      have g1 := hg.below b1
      obtain ⟨cap, w2, hcv, hN⟩ := new_row w1 t
      have b2 := b1.trans (hN.below.mono b1.size)
      have g2 := g1.below hN.below
      go_wp2_with fail
      refine (live_any _ g2).mono ?_
      rintro e w3 ⟨rfl, b3'⟩
      have b3 := b2.trans (b3'.mono b2.size)
      go_wp2_with fail
      go_ret
      exact ⟨rfl, b3⟩
    · by_cases hfar : (s.size : Int) + 8 ≤ p
      · go_enter Tryd.func8, Tryd.ntmps8
        go_wp2_with fail
        refine (cS _).mono ?_
        rintro e w1 ⟨rfl, b1⟩
        have g1 := hg.below b1
        obtain ⟨cap, w2, hcv, hN⟩ := new_row w1 t
        have b2 := b1.trans (hN.below.mono b1.size)
        have g2 := g1.below hN.below
        go_wp2_with fail
        refine (live_any _ g2).mono ?_
        rintro e w3 ⟨rfl, b3'⟩
        have b3 := b2.trans (b3'.mono b2.size)
        go_wp2_with fail
        go_ret
        exact ⟨rfl, b3⟩
      · obtain ⟨k, rfl⟩ : ∃ k : Nat, p = (k : Int) := ⟨p.toNat, by omega⟩
        have hk : k < t.size := by omega
        have hk8 : (k : Int) < (s.size : Int) + 8 := by omega
        have hkl : k < (sealT s.data.toList).length := by rw [← htd]; simpa using hk
        obtain ⟨c, hc⟩ : ∃ c : Int, (C.toNat : Int) = c := ⟨_, rfl⟩
        obtain ⟨x, hx⟩ : ∃ x : Int, ((t.data.toList.getD k 0).toNat : Int) = x := ⟨_, rfl⟩
        by_cases hxc : x = c
        · have hxb : (x == c) = true := by rw [hxc]; simp
          clear hxc
          go_enter Tryd.func8, Tryd.ntmps8
          go_wp2_with fail
          refine (cS _).mono ?_
          rintro e w1 ⟨rfl, b1⟩
          have g1 := hg.below b1
          obtain ⟨cap, w2, hcv, hN⟩ := new_row w1 t
          have hcell := hN.cell k hk
          rw [hx] at hcell
          have b2 := b1.trans (hN.below.mono b1.size)
          have g2 := g1.below hN.below
          go_wp2_with fail
          refine (live_any _ g2).mono ?_
          rintro e w3 ⟨rfl, b3'⟩
          have b3 := b2.trans (b3'.mono b2.size)
          go_wp2_with fail
          go_ret
          exact ⟨rfl, b3⟩
        · have hxb : (x == c) = false := by simpa using hxc
          have hne : (sealT s.data.toList)[k] ≠ C := by
            intro e
            apply hxc
            rw [← hx, ← hc, ← e]
            simp [htd, List.getElem?_eq_getElem hkl]
          have hop := open_spoilt s.data.toList k C hkl hne
          obtain ⟨L, hL⟩ : ∃ L, L = (sealT s.data.toList).set k C := ⟨_, rfl⟩
          rw [← hL] at hop
          have hLl : L.length = t.size := by rw [hL, List.length_set, ← htd]; simp
          have cO := fun w => open_any ⟨L.toArray⟩ w (show L.length ≤ _ by omega)
          rw [show (⟨L.toArray⟩ : ByteArray).data.toList = L from rfl, hop] at cO
          unfold openR at cO
          simp only [] at cO
          have HL := Lib.hid hL
          have HT := Lib.hid htd
          have HLl := Lib.hid hLl
          clear hxc hne hop hL hLl
          go_enter Tryd.func8, Tryd.ntmps8
          go_wp2_with fail
          refine (cS _).mono ?_
          rintro e w1 ⟨rfl, b1⟩
          have g1 := hg.below b1
          obtain ⟨cap, w2, hcv, hN⟩ := new_row w1 t
          have hcell := hN.cell k hk
          rw [hx] at hcell
          have hfz := hN.frozen k hk
          have b2 := b1.trans (hN.below.mono b1.size)
          have b3 := b2.setCell (p := ⟨w1.heap.size, k, none⟩) b1.size (.int .u8 c)
          have g3 := hg.below b3
          have hback : (convert 53 9 (.slice (some ⟨w1.heap.size, 0, none⟩) t.size cap)).run Tryd.prog (w2.setCell ⟨w1.heap.size, k, none⟩ (.int .u8 c)) = .ok (.string ⟨L.toArray⟩) (w2.setCell ⟨w1.heap.size, k, none⟩ (.int .u8 c)) := by
            have h := run_convert_bytes_back (P := Tryd.prog) (w2.setCell ⟨w1.heap.size, k, none⟩ (.int .u8 c)) 53 9 5 ⟨w1.heap.size, 0, none⟩ cap L Tryd.underlying53 Tryd.underlying5 Tryd.underlying9 (fun j hj => by
              rw [add_plain, Nat.zero_add]
              by_cases hjk : j = k
              · subst hjk
                rw [World.cell?_setCell_same _ _ _ hcell, ← hc]
                congr 3
                have := HL.out
                subst this
                simp
              · rw [World.cell?_setCell_other _ _ _ _ (by simp), hN.cell j (by rw [← HLl.out]; exact hj)]
                congr 3
                have hj2 : j < (sealT s.data.toList).length := by rw [HL.out, List.length_set] at hj; exact hj
                have e1 := HL.out
                subst e1
                rw [List.getElem_set_ne (Ne.symm hjk)]
                simp [HT.out, List.getElem?_eq_getElem hj2])
            rw [HLl.out] at h
            exact h
          rw [hts] at hback hcv
          have HN := Lib.hid hN
          have HG := Lib.hid hx
          clear hN hx
          go_wp2_with fail
          refine (cO _).mono ?_
          rintro e w4 ⟨rfl, b4'⟩
          have b4 := b3.trans (b4'.mono b3.size)
          have g4 := g3.below b4'
          go_wp2_with fail
          refine (num_of _ _).mono ?_
          rintro e w' ⟨rfl, rfl⟩
          go_wp2_with fail
          refine (live_any _ g4).mono ?_
          rintro e w5 ⟨rfl, b5'⟩
          have b5 := b4.trans (b5'.mono b4.size)
          go_wp2_with fail
          go_ret
          exact ⟨rfl, b5⟩

end Go.Proofs.YtcodknfffmadfaaDoor

/-
  SessionRises, walked. Conditions: lengths at most 2^47; the library's variables hold what their types allow.
-/
import Derived.Test.YticikmkehobblaaDoorSsLMA
import Derived.BigQuiet
namespace Go.Proofs.YticikmkehobblaaDoor.Ss
open Go.RowKit Bnd
open Go.Proofs.YticikmkehobblaaDoor.Od (Rep SP ArgP OwnP rv BoxR rsameR_any)

/-- what the law asks of a list with a session noted -/
structure Noted (l : List Ses) (s : Ses) (x : Ses) : Prop where
  find : findS s.client (bothS [s] l) = some x
  max : x.seq = max s.seq (optS (findS s.client l)).1.seq
  had : (optS (findS s.client l)).2 = true → (bothS [s] l).length = l.length
  new : (optS (findS s.client l)).2 = false → (bothS [s] l).length = l.length + 1
  same : x.seq = s.seq → x = s
  up : s.seq ≤ x.seq
theorem noted {l : List Ses} {s : Ses} (hs : fitsB s = true) (h : isS l = true) : ∃ x, Noted l s x := by
  obtain ⟨x, hf, hx⟩ := note_own hs h
  refine ⟨x, hf, ?_, ?_, ?_, ?_, ?_⟩
  · rw [hx]
    cases hy : findS s.client l with
    | none => have := fits_seq hs; simp only [optS]; show s.seq = max s.seq 0; omega
    | some y => simp only [optS]; split <;> omega
  · intro h2
    rw [both_one_length h]
    cases hy : findS s.client l with
    | none => rw [hy] at h2; cases h2
    | some y => rfl
  · intro h2
    rw [both_one_length h]
    cases hy : findS s.client l with
    | none => rfl
    | some y => rw [hy] at h2; cases h2
  · intro he
    rw [hx] at he ⊢
    cases hy : findS s.client l with
    | none => rfl
    | some y =>
      rw [hy] at he
      simp only at he ⊢
      split
      · rename_i h3; rw [if_pos h3] at he; omega
      · rfl
  · rw [hx]
    cases hy : findS s.client l with
    | none => exact Int.le_refl _
    | some y => simp only; split <;> omega

set_option maxHeartbeats 64000000 in
set_option maxRecDepth 100000 in
theorem rises_walk (va : Value) (za : List Zs) (w : World) (ha : InZ w va za) (hg : Good w) :
    Calls Tryd.prog 5 #[va] w fun e w' => e = .returned (.bool true) ∧ Below w.heap.size w w' := by
  obtain ⟨A, ca, rfl⟩ := ha.arg.form
  obtain ⟨na, hna⟩ : ∃ n, za.length = n := ⟨_, rfl⟩
  rw [hna] at ha ⊢
  have HNA := Lib.hid hna
  clear hna
  have KA : ∀ w', Below w.heap.size w w' → InZ w' (.slice A na ca) za := fun w' h => ha.keep h
  have hnaN : na ≤ 140737488355328 := by have := ha.len; have := HNA.out; omega
  have cS1 := fun w' (h : Below w.heap.size w w') => small_any _ za w' (KA w' h).arg.sz (KA w' h).pz (KA w' h).fit (KA w' h).len
  have cL := fun w' (h : Below w.heap.size w w') => live_any w' (hg.below h)
  have hfit := ha.fit
  clear ha
  go_enter Tryd.func5, Tryd.ntmps5
  go_wp2_with fail
  refine (cS1 _ (Below.refl _ _)).mono ?_
  rintro e w1 ⟨⟨r1, rfl, _⟩, b1⟩
  cases r1 with
  | false =>
    go_wp2_with fail
    refine (cL _ (b1)).mono ?_
    rintro e w99 ⟨rfl, b99⟩
    have hbz := (b1).trans (b99.mono (b1).size)
    clear b99
    go_wp2_with fail
    go_ret
    exact ⟨rfl, hbz⟩
  | true =>
  go_wp2_with fail
  clear cS1
  go_loopw [2, 3, 4, 5, 6, 7, 8, 9, 10, 11, 12, 13, 14, 15, 16] (fun v2 v3 v4 _ _ _ _ _ _ _ _ _ _ _ _ wr => ∃ (i : Nat) (zn : List Zs) (N : Option Addr) (kn cn : Nat), i ≤ na ∧ v4 = .int .i64 (i : Int) ∧ v2 = .bool false ∧ v3 = .slice N kn cn ∧ Hid (zn.length = kn) ∧ Hid (isS (ses zn) = true) ∧ NoP zn ∧ ArgZ wr (.slice N kn cn) zn ∧ Below w.heap.size w wr) (fun _ _ v4 _ _ _ _ _ _ _ _ _ _ _ _ _ => na - (intOf v4).toNat)
  case atStart => exact ⟨0, [], none, 0, 0, Nat.zero_le _, rfl, rfl, rfl, Lib.hid rfl, Lib.hid rfl, (fun z hz => by cases hz), .nil, b1⟩
  case round =>
    clear b1
    revert hrel; revert wr; intro wo hrel
    obtain ⟨i, zn, N, kn, cn, hi, rfl, rfl, rfl, HKN, HIN, hpn, han, hbw⟩ := hrel
    have hzo := hbw.size
    by_cases hlt : i < na
    rotate_left
    · obtain rfl : i = na := by omega
      go_wp2_with fail
      refine (cL _ (hbw)).mono ?_
      rintro e w99 ⟨rfl, b99⟩
      have hbz := (hbw).trans (b99.mono (hbw).size)
      clear b99
      go_wp2_with fail
      go_ret
      exact ⟨rfl, hbz⟩
    · have hix : i < za.length := by rw [HNA.out]; exact hlt
      have hv1 := (KA wo hbw).arg.sz
      rw [← HNA.out] at hv1
      obtain ⟨b, o, hA0, hb, q0, q1, q2, q3, q4, q5, q6⟩ := hv1.at_ hix
      have hpi := (KA wo hbw).pz _ (List.getElem_mem hix)
      have hfi := hfit _ (List.getElem_mem hix)
      obtain ⟨⟨s, pv⟩, hzk⟩ : ∃ z, za[i] = z := ⟨_, rfl⟩
      rw [hzk] at q0 q1 q2 q3 q4 q5 q6 hpi hfi
      simp only at q0 q1 q2 q3 q4 q5 q6 hpi hfi
      subst hA0
      obtain ⟨pA, pc, rfl⟩ := hpi.form
      obtain ⟨P, hP⟩ : ∃ P, s.rep.ps.length = P := ⟨_, rfl⟩
      rw [hP] at q6 hpi
      have HP := Lib.hid hP
      have k0 : (0 ≤ (i : Int)) = True := eq_true (by omega)
      have k1 : ((i : Int) < (na : Int)) = True := eq_true (by omega)
      have hk1 : (i : Int) < (na : Int) := by omega
      have hl64 := is_len HIN.out
      have hrn := ((isS_iff _).1 HIN.out).2
      have KN : ∀ w', Below wo.heap.size wo w' → ArgZ w' (.slice N kn cn) zn := fun w' h => han.keep h
      have KP : ∀ w', Below wo.heap.size wo w' → SP w' w'.heap.size (.slice pA P pc) s.rep.ps := fun w' h => (hpi.below h).more h.size
      have cF := fun w' (h : Below wo.heap.size wo w') => find_any _ zn s.client w' (KN w' h).sz hrn hpn (by omega)
      have cN := fun w' (h : Below wo.heap.size wo w') => note_any _ zn s (.slice pA P pc) w' (KN w' h).sz hpn (by omega) (KP w' h) hfi
      have hkn64 : kn ≤ 64 := by have := HKN.out; omega
      unfold FoundZ at cF
      obtain ⟨ff, hff⟩ : ∃ x, optS (findS s.client (ses zn)) = x := ⟨_, rfl⟩
      obtain ⟨fs, fb⟩ := ff
      simp only [hff] at cF
      have HFF := Lib.hid hff
      have B1 := BoxS.new wo (s, .slice pA P pc)
      have hb1 : Below wo.heap.size wo (wo.alloc (.cells #[.int .i64 s.client, .int .i64 s.seq, .int .i64 s.rep.code, .int .i64 s.rep.err, .bool s.rep.has, .string s.rep.val, .slice pA P pc] 28)) := (Below.refl _ wo).alloc (Nat.le_refl _) _
      clear hv1 hzk hP hff hpi han hrn
      obtain ⟨p_0, ⟨p_1, p_2, p_3, p_4, p_5, p_6, p_7⟩, p_8⟩ := _root_.id B1
      go_wp2_with fail
      refine (cF _ hb1).mono ?_
      rintro e w2 ⟨⟨A2, c2, rfl⟩, b2⟩
      have B2 := (B1.keep b2).alloc (.cells #[.int .i64 fs.client, .int .i64 fs.seq, .int .i64 fs.rep.code, .int .i64 fs.rep.err, .bool fs.rep.has, .string fs.rep.val, .slice A2 0 c2] 28)
      have C2 := BoxS.new w2 (fs, .slice A2 0 c2)
      have hb2 : Below wo.heap.size wo w2 := hb1.trans (b2.mono hb1.size)
      have hb2' : Below wo.heap.size wo (w2.alloc (.cells #[.int .i64 fs.client, .int .i64 fs.seq, .int .i64 fs.rep.code, .int .i64 fs.rep.err, .bool fs.rep.has, .string fs.rep.val, .slice A2 0 c2] 28)) := hb2.alloc hb2.size _
      clear p_0 p_1 p_2 p_3 p_4 p_5 p_6 p_7 p_8
      clear b2 B1 q0 q1 q2 q3 q4 q5 q6 cF
      obtain ⟨p_0, ⟨p_1, p_2, p_3, p_4, p_5, p_6, p_7⟩, p_8⟩ := _root_.id B2
      rcases note_cases (ses zn) s with ⟨hfs, hnl, hnc⟩ | ⟨_, h64, hnc⟩ | ⟨_, hnc⟩
      rotate_left
      · rw [hnc] at cN
        have hl2 : 64 ≤ kn := by have := HKN.out; simp only [List.length_map] at h64; omega
        have g1 : ((kn : Int) < 64) = False := eq_false (by omega)
        clear hnc h64 C2
        go_wp2_with fail
        refine (cN _ hb2').mono ?_
        rintro e w3 ⟨v3, z3, rfl, hs3, a3, _, b3⟩
        have hz30 : z3 = [] := by simpa [ses] using hs3
        subst hz30
        obtain ⟨A3, c3, rfl⟩ := a3.form
        have hb3 := hb2'.trans (b3.mono hb2'.size)
        clear p_0 p_1 p_2 p_3 p_4 p_5 p_6 p_7 p_8
        clear b3 B2 hs3 a3 cN
        go_wp2_with fail
        refine (num_any _ _).mono ?_
        rintro e w' ⟨rfl, rfl⟩
        go_wp2_with fail
        refine (num_any _ _).mono ?_
        rintro e w' ⟨rfl, rfl⟩
        go_wp2_with fail
        go_roundw
        case rel => exact ⟨i + 1, zn, N, kn, cn, by omega, by go_num, rfl, rfl, HKN, HIN, hpn, KN _ hb3, hbw.trans (hb3.mono hzo)⟩
        case measure => simp [intOf]; omega
      · rw [hnc] at cN
        clear hnc C2
        go_wp2_with fail
        refine (cN _ hb2').mono ?_
        rintro e w3 ⟨v3, z3, rfl, hs3, a3, _, b3⟩
        have hz30 : z3 = [] := by simpa [ses] using hs3
        subst hz30
        obtain ⟨A3, c3, rfl⟩ := a3.form
        have hb3 := hb2'.trans (b3.mono hb2'.size)
        clear p_0 p_1 p_2 p_3 p_4 p_5 p_6 p_7 p_8
        clear b3 B2 hs3 a3 cN
        go_wp2_with fail
        refine (num_any _ _).mono ?_
        rintro e w' ⟨rfl, rfl⟩
        go_wp2_with fail
        refine (num_any _ _).mono ?_
        rintro e w' ⟨rfl, rfl⟩
        go_wp2_with fail
        go_roundw
        case rel => exact ⟨i + 1, zn, N, kn, cn, by omega, by go_num, rfl, rfl, HKN, HIN, hpn, KN _ hb3, hbw.trans (hb3.mono hzo)⟩
        case measure => simp [intOf]; omega
      · obtain ⟨x, hx⟩ := noted hfs HIN.out
        have hni := note_is hfs HIN.out hnl
        have hps := fits_ps hfs
        have hso : ∀ y ∈ ses zn, ∃ y', findS y.client (bothS [s] (ses zn)) = some y' ∧ y.seq ≤ y'.seq ∧ (y.client ≠ s.client → y'.seq = y.seq) := fun y hy => note_other hfs HIN.out hy
        have hfx := hx.find
        have hmx := hx.max
        have hhad := hx.had
        have hnew := hx.new
        rw [HFF.out] at hmx hhad hnew
        simp only [List.length_map] at hhad hnew
        rw [HKN.out] at hhad hnew
        rw [hnc] at cN
        obtain ⟨ln, hln⟩ : ∃ l, bothS [s] (ses zn) = l := ⟨_, rfl⟩
        rw [hln] at cN hni hnl hfx hso hhad hnew
        have HSO := Lib.hid hso
        have HX := Lib.hid hx
        have HMX := Lib.hid hmx
        have HNI := Lib.hid hni
        have HHAD := Lib.hid hhad
        have HNEW := Lib.hid hnew
        have HPS := Lib.hid hps
        have HFX := Lib.hid hfx
        clear hso hx hmx hni hhad hnew hps hln hfx hnc
        go_wp2_with fail
        refine (cN _ hb2').mono ?_
        rintro e w3 ⟨v3, z3, rfl, hs3, a3, p3, b3⟩
        obtain ⟨A3, c3, rfl⟩ := a3.form
        have hs3' : ses z3 = ln := hs3
        have hl3 : z3.length = ln.length := by rw [← hs3']; simp
        obtain ⟨m3, hm3⟩ : ∃ m, z3.length = m := ⟨_, rfl⟩
        rw [hm3] at a3 hl3 ⊢
        have HM3 := Lib.hid hm3
        have HS3 := Lib.hid hs3'
        have hb3 := hb2'.trans (b3.mono hb2'.size)
        have K3 : ∀ w', Below w3.heap.size w3 w' → ArgZ w' (.slice A3 m3 c3) z3 := fun w' h => a3.keep h
        have hm64 : m3 ≤ 64 := by omega
        have hr3 := ((isS_iff _).1 HNI.out).2
        have cF3 := fun c w' (h : Below w3.heap.size w3 w') => find_any _ z3 c w' (K3 w' h).sz (by rw [HS3.out]; exact hr3) p3 (by have := HM3.out; omega)
        have cA3 := fun w' (h : Below w3.heap.size w3 w') => ask_any _ z3 s.client s.seq w' (K3 w' h).sz (by rw [HS3.out]; exact hr3) p3 (by have := HM3.out; omega)
        have cK3 := fun w' (h : Below w3.heap.size w3 w') => check_any _ z3 w' (K3 w' h).sz (p3.pz _ _) (fun z hz => by
          have h1 := (p3 z hz).1
          have h2 : z.1 ∈ ln := by rw [← HS3.out]; exact List.mem_map.2 ⟨z, hz, rfl⟩
          have h3 := (rise_mem hr3 _ h2).2
          refine ⟨?_, by rw [h1]; simp, by rw [h1]; intro p hp; cases hp⟩
          unfold fitsB keptB at h3
          simp only [Bool.and_eq_true, decide_eq_true_eq] at h3
          omega) (by have := HM3.out; omega)
        rw [show chkS (ses z3) = 0 by unfold chkS; rw [HS3.out, HNI.out]; rfl] at cK3
        unfold FoundZ at cF3
        unfold AskedZ at cA3
        have hz3 := hb3.size
        clear p_0 p_1 p_2 p_3 p_4 p_5 p_6 p_7 p_8
        have B3 := B2.keep b3
        have C3 := C2.keep b3
        have hfb : (fb = true ∧ m3 = kn) ∨ (fb = false ∧ m3 = kn + 1) := by
          cases fb with
          | true => exact .inl ⟨rfl, by have := HHAD.out rfl; omega⟩
          | false => exact .inr ⟨rfl, by have := HNEW.out rfl; omega⟩
        have HFB := Lib.hid hfb
        have hsx : (x.seq = s.seq ∧ askS ln s.client s.seq = (s.rep, true)) ∨ (s.seq < x.seq ∧ askS ln s.client s.seq = (⟨3, 0, false, Od.E0, []⟩, true)) := by
          have hup := HX.out.up
          unfold askS
          rw [HFX.out]
          simp only
          by_cases he : x.seq = s.seq
          · exact .inl ⟨he, by rw [if_neg (by omega), if_pos he, HX.out.same he]⟩
          · exact .inr ⟨by omega, by rw [if_neg (by omega), if_neg he]⟩
        have HSX := Lib.hid hsx
        have cF3x := cF3 s.client
        rw [HS3.out, HFX.out] at cF3x
        rw [HS3.out] at cA3
        simp only [optS] at cF3x
        clear b3 B2 C2 hs3 hs3' hl3 hm3 cN hr3 hfb hsx hnl
        obtain ⟨p_0, ⟨p_1, p_2, p_3, p_4, p_5, p_6, p_7⟩, p_8⟩ := _root_.id B3
        go_wp2_with fail
        refine (num_any _ _).mono ?_
        rintro e w' ⟨rfl, rfl⟩
        go_wp2_with fail
        refine (cF3x _ (Below.refl _ _)).mono ?_
        rintro e w4 ⟨⟨A4, c4, rfl⟩, b4⟩
        clear p_0 p_1 p_2 p_3 p_4 p_5 p_6 p_7 p_8
        have B4 := (B3.keep b4).alloc (.cells #[.int .i64 x.client, .int .i64 x.seq, .int .i64 x.rep.code, .int .i64 x.rep.err, .bool x.rep.has, .string x.rep.val, .slice A4 0 c4] 28)
        have C4 := (C3.keep b4).alloc (.cells #[.int .i64 x.client, .int .i64 x.seq, .int .i64 x.rep.code, .int .i64 x.rep.err, .bool x.rep.has, .string x.rep.val, .slice A4 0 c4] 28)
        have D4 := BoxS.new w4 (x, .slice A4 0 c4)
        have hb4 : Below w3.heap.size w3 (w4.alloc (.cells #[.int .i64 x.client, .int .i64 x.seq, .int .i64 x.rep.code, .int .i64 x.rep.err, .bool x.rep.has, .string x.rep.val, .slice A4 0 c4] 28)) := b4.alloc b4.size _
        have hz4 := b4.size
        clear b4 B3 C3 cF3x
        go_wp2_with fail
        refine (cK3 _ hb4).mono ?_
        rintro e w5 ⟨rfl, b5⟩
        have B5 := B4.keep b5
        have C5 := C4.keep b5
        have D5 := D4.keep b5
        have hb5 := hb4.trans (b5.mono hb4.size)
        clear b5 B4 C4 D4 cK3
        have g1 : (x.seq = max s.seq fs.seq) = True := eq_true HMX.out
        have g2 : (x.seq == max s.seq fs.seq) = true := by simpa using HMX.out
        have hz5 := hb5.size
        obtain ⟨p_0, ⟨p_1, p_2, p_3, p_4, p_5, p_6, p_7⟩, p_8⟩ := _root_.id B5
        obtain ⟨q_0, ⟨q_1, q_2, q_3, q_4, q_5, q_6, q_7⟩, q_8⟩ := _root_.id C5
        obtain ⟨r_0, ⟨r_1, r_2, r_3, r_4, r_5, r_6, r_7⟩, r_8⟩ := _root_.id D5
        go_wp2_with fail
        refine (num_any _ _).mono ?_
        rintro e w' ⟨rfl, rfl⟩
        rcases HFB.out with ⟨rfl, hm⟩ | ⟨rfl, hm⟩
        · obtain rfl : kn = m3 := hm.symm
          rcases HSX.out with ⟨he, ha⟩ | ⟨he, ha⟩
          · as_aux_lemma =>
              rw [ha] at cA3
              simp only at cA3
              have g5 : (x.seq = s.seq) = True := eq_true he
              have g6 : (x.seq == s.seq) = true := by simpa using he
              have g7 : (s.seq < x.seq) = False := eq_false (by omega)
              have g8 : (x.seq > s.seq) = False := eq_false (by omega)
              clear he ha
              go_wp2_with fail
              refine (cA3 _ hb5).mono ?_
              rintro e w6 ⟨⟨A6, c6, rfl⟩, b6⟩
              clear p_0 p_1 p_2 p_3 p_4 p_5 p_6 p_7 p_8
              clear q_0 q_1 q_2 q_3 q_4 q_5 q_6 q_7 q_8
              clear r_0 r_1 r_2 r_3 r_4 r_5 r_6 r_7 r_8
              have B6 := (B5.keep b6).alloc (.cells #[.int .i64 s.rep.code, .int .i64 s.rep.err, .bool s.rep.has, .string s.rep.val, .slice A6 0 c6] 26)
              have D6 := (D5.keep b6).alloc (.cells #[.int .i64 s.rep.code, .int .i64 s.rep.err, .bool s.rep.has, .string s.rep.val, .slice A6 0 c6] 26)
              have E6 := BoxR.new w6 s.rep (.slice A6 0 c6)
              have hb6 := hb5.trans (b6.mono hb5.size)
              have hb6' : Below w3.heap.size w3 (w6.alloc (.cells #[.int .i64 s.rep.code, .int .i64 s.rep.err, .bool s.rep.has, .string s.rep.val, .slice A6 0 c6] 26)) := hb6.alloc hb6.size _
              have hbo6 := hb3.trans (hb6'.mono hb3.size)
              have cO : ∀ w', Below wo.heap.size wo w' → Calls Tryd.prog 18 #[rv s.rep (.slice A6 0 c6), rv s.rep (.slice pA P pc)] w' fun e w2 => e = .returned (.bool true) ∧ Below w'.heap.size w' w2 := fun w' hw' => by
                have h := HPS.out
                have := rsameR_any s.rep s.rep (.slice A6 0 c6) (.slice pA P pc) w' (by rw [h]; exact ⟨_, _, rfl, fun h => absurd h (by simp)⟩) (KP w' hw') (by rw [h]; simp) (by rw [h]; simp)
                rw [(Od.sameR_iff s.rep s.rep).2 rfl] at this
                exact this
              clear b6 B5 C5 D5 cA3
              obtain ⟨p_0, ⟨p_1, p_2, p_3, p_4, p_5, p_6, p_7⟩, p_8⟩ := _root_.id B6
              obtain ⟨r_0, ⟨r_1, r_2, r_3, r_4, r_5, r_6, r_7⟩, r_8⟩ := _root_.id D6
              obtain ⟨q_0, ⟨q_1, q_2, q_3, q_4, q_5⟩, q_6⟩ := _root_.id E6
              go_wp2_with fail
              refine (cO _ hbo6).mono ?_
              rintro e w7 ⟨rfl, b7⟩
              have B7 := B6.keep b7
              have D7 := D6.keep b7
              have hb7 := hb6'.trans (b7.mono hb6'.size)
              clear p_0 p_1 p_2 p_3 p_4 p_5 p_6 p_7 p_8
              clear r_0 r_1 r_2 r_3 r_4 r_5 r_6 r_7 r_8
              clear q_0 q_1 q_2 q_3 q_4 q_5 q_6
              clear b7 B6 D6 E6 cO hbo6
              have hbo7 := hb3.trans (hb7.mono hb3.size)
              obtain ⟨p_0, ⟨p_1, p_2, p_3, p_4, p_5, p_6, p_7⟩, p_8⟩ := _root_.id B7
              obtain ⟨r_0, ⟨r_1, r_2, r_3, r_4, r_5, r_6, r_7⟩, r_8⟩ := _root_.id D7
              go_wp2_with fail
              clear p_0 p_1 p_2 p_3 p_4 p_5 p_6 p_7 p_8
              clear r_0 r_1 r_2 r_3 r_4 r_5 r_6 r_7 r_8
              have BB := B7
              clear B7 D7
              go_loopw [2, 14, 15, 16] (fun v2 vj _ _ wr => ∃ j : Nat, j ≤ kn ∧ vj = .int .i64 (j : Int) ∧ v2 = .bool false ∧ Below w7.heap.size w7 wr) (fun _ vj _ _ _ => kn - (intOf vj).toNat)
              case atStart => exact ⟨0, Nat.zero_le _, rfl, rfl, Below.refl _ _⟩
              case round =>
                obtain ⟨j, hj, rfl, rfl, hbr⟩ := hrel
                have hb3r : Below w3.heap.size w3 wr := hb7.trans (hbr.mono hb7.size)
                have hbor := hbo7.trans (hbr.mono hbo7.size)
                have hzr := hbr.size
                by_cases hlt2 : j < kn
                · have hjx : j < zn.length := by rw [HKN.out]; exact hlt2
                  have hv2 := (KN wr hbor).sz
                  rw [← HKN.out] at hv2
                  obtain ⟨b2, o2, hA2, hb2x, y0, y1, yy⟩ := hv2.at_ hjx
                  clear yy
                  have hmo := HSO.out zn[j].1 (List.mem_map.2 ⟨_, List.getElem_mem hjx, rfl⟩)
                  obtain ⟨⟨⟨cl, sq, rr⟩, pv2⟩, hzk2⟩ : ∃ z, zn[j] = z := ⟨_, rfl⟩
                  rw [hzk2] at y0 y1 hmo
                  simp only at y0 y1 hmo
                  subst hA2
                  obtain ⟨y, hy, hle, hot⟩ := hmo
                  have cf := cF3 cl wr hb3r
                  rw [HS3.out, hy] at cf
                  simp only [optS] at cf
                  have k2 : (0 ≤ (j : Int)) = True := eq_true (by omega)
                  have k3 : ((j : Int) < (kn : Int)) = True := eq_true (by omega)
                  have hk3 : (j : Int) < (kn : Int) := by omega
                  have e1 : (y.seq < sq) = False := eq_false (by omega)
                  have B8 := BB.keep hbr
                  clear hv2 hzk2 hy hle
                  by_cases hc : cl = s.client
                  · have e2 : (cl = s.client) = True := eq_true hc
                    have e3 : (cl == s.client) = true := by simpa using hc
                    clear hc hot
                    go_wp2_with fail
                    refine cf.mono ?_
                    rintro e w8 ⟨⟨A8, c8, rfl⟩, b8⟩
                    have u0 := (b8.cell (p := ⟨b2, o2 + j * 7, none⟩) hb2x).trans y0
                    have u1 := (b8.cell (p := ⟨b2, o2 + j * 7 + 1, none⟩) hb2x).trans y1
                    have hb8 : Below w7.heap.size w7 w8 := hbr.trans (b8.mono hbr.size)
                    have hb2z : b2 < w8.heap.size := Nat.lt_of_lt_of_le hb2x b8.size
                    have hz8 := hb8.size
                    have B9 := B8.keep b8
                    clear y0 y1 b8 cf B8
                    obtain ⟨v_0, ⟨v_1, v_2, v_3, v_4, v_5, v_6, v_7⟩, v_8⟩ := _root_.id B9
                    go_wp2_with fail
                    go_quiet (fail)
                    go_wp2_with fail
                    go_roundw
                    case rel => exact ⟨j + 1, by omega, by go_num, rfl, below_drewN (hb8.alloc hz8 _) _⟩
                    case measure => simp [intOf]; omega
                  · have e2 : (cl = s.client) = False := eq_false hc
                    have e3 : (cl == s.client) = false := by simpa using hc
                    have e7 : (cl != s.client) = true := by rw [bne, e3]; rfl
                    have e4 : (y.seq = sq) = True := eq_true (hot hc)
                    have e5 : (y.seq == sq) = true := by simpa using hot hc
                    have e6 : (y.seq != sq) = false := by rw [bne, e5]; rfl
                    clear hc hot
                    go_wp2_with fail
                    refine cf.mono ?_
                    rintro e w8 ⟨⟨A8, c8, rfl⟩, b8⟩
                    have u0 := (b8.cell (p := ⟨b2, o2 + j * 7, none⟩) hb2x).trans y0
                    have u1 := (b8.cell (p := ⟨b2, o2 + j * 7 + 1, none⟩) hb2x).trans y1
                    have hb8 : Below w7.heap.size w7 w8 := hbr.trans (b8.mono hbr.size)
                    have hb2z : b2 < w8.heap.size := Nat.lt_of_lt_of_le hb2x b8.size
                    have hz8 := hb8.size
                    have B9 := B8.keep b8
                    clear y0 y1 b8 cf B8
                    obtain ⟨v_0, ⟨v_1, v_2, v_3, v_4, v_5, v_6, v_7⟩, v_8⟩ := _root_.id B9
                    go_wp2_with fail
                    go_quiet (fail)
                    go_wp2_with fail
                    go_roundw
                    case rel => exact ⟨j + 1, by omega, by go_num, rfl, below_drewN (hb8.alloc hz8 _) _⟩
                    case measure => simp [intOf]; omega
                · obtain rfl : j = kn := by omega
                  go_wp2_with fail
                  go_roundw
                  case rel => exact ⟨i + 1, z3, A3, _, c3, by omega, by go_num, rfl, rfl, HM3, Lib.hid (by rw [HS3.out]; exact HNI.out), p3, K3 _ hb3r, hbw.trans (hbor.mono hzo)⟩
                  case measure => simp [intOf]; omega
          · as_aux_lemma =>
              rw [ha] at cA3
              simp only at cA3
              have g5 : (x.seq = s.seq) = False := eq_false (by omega)
              have g6 : (x.seq == s.seq) = false := by simp; omega
              have g7 : (s.seq < x.seq) = True := eq_true he
              have g8 : (x.seq > s.seq) = True := eq_true he
              clear he ha
              go_wp2_with fail
              refine (cA3 _ hb5).mono ?_
              rintro e w7 ⟨⟨A6, c6, rfl⟩, b6⟩
              clear p_0 p_1 p_2 p_3 p_4 p_5 p_6 p_7 p_8
              clear q_0 q_1 q_2 q_3 q_4 q_5 q_6 q_7 q_8
              clear r_0 r_1 r_2 r_3 r_4 r_5 r_6 r_7 r_8
              have B6 := (B5.keep b6).alloc (.cells #[.int .i64 3, .int .i64 0, .bool false, .string Od.E0, .slice A6 0 c6] 26)
              have D6 := (D5.keep b6).alloc (.cells #[.int .i64 3, .int .i64 0, .bool false, .string Od.E0, .slice A6 0 c6] 26)
              have hb6 := hb5.trans (b6.mono hb5.size)
              have hb7 : Below w3.heap.size w3 (w7.alloc (.cells #[.int .i64 3, .int .i64 0, .bool false, .string Od.E0, .slice A6 0 c6] 26)) := hb6.alloc hb6.size _
              have hbo7 := hb3.trans (hb7.mono hb3.size)
              have hz7 := hb6.size
              clear b6 B5 C5 D5 cA3
              obtain ⟨p_0, ⟨p_1, p_2, p_3, p_4, p_5, p_6, p_7⟩, p_8⟩ := _root_.id B6
              obtain ⟨r_0, ⟨r_1, r_2, r_3, r_4, r_5, r_6, r_7⟩, r_8⟩ := _root_.id D6
              go_wp2_with fail
              obtain ⟨W7, hW7⟩ : ∃ W7, w7.alloc (.cells #[.int .i64 3, .int .i64 0, .bool false, .string Od.E0, .slice A6 0 c6] 26) = W7 := ⟨_, rfl⟩
              clear p_0 p_1 p_2 p_3 p_4 p_5 p_6 p_7 p_8
              clear r_0 r_1 r_2 r_3 r_4 r_5 r_6 r_7 r_8
              have BB := B6
              rw [hW7] at hb7 hbo7 BB ⊢
              clear B6 D6 hW7 hz7
              go_loopw [2, 14, 15, 16] (fun v2 vj _ _ wr => ∃ j : Nat, j ≤ kn ∧ vj = .int .i64 (j : Int) ∧ v2 = .bool false ∧ Below W7.heap.size W7 wr) (fun _ vj _ _ _ => kn - (intOf vj).toNat)
              case atStart => exact ⟨0, Nat.zero_le _, rfl, rfl, Below.refl _ _⟩
              case round =>
                obtain ⟨j, hj, rfl, rfl, hbr⟩ := hrel
                have hb3r : Below w3.heap.size w3 wr := hb7.trans (hbr.mono hb7.size)
                have hbor := hbo7.trans (hbr.mono hbo7.size)
                have hzr := hbr.size
                by_cases hlt2 : j < kn
                · have hjx : j < zn.length := by rw [HKN.out]; exact hlt2
                  have hv2 := (KN wr hbor).sz
                  rw [← HKN.out] at hv2
                  obtain ⟨b2, o2, hA2, hb2x, y0, y1, yy⟩ := hv2.at_ hjx
                  clear yy
                  have hmo := HSO.out zn[j].1 (List.mem_map.2 ⟨_, List.getElem_mem hjx, rfl⟩)
                  obtain ⟨⟨⟨cl, sq, rr⟩, pv2⟩, hzk2⟩ : ∃ z, zn[j] = z := ⟨_, rfl⟩
                  rw [hzk2] at y0 y1 hmo
                  simp only at y0 y1 hmo
                  subst hA2
                  obtain ⟨y, hy, hle, hot⟩ := hmo
                  have cf := cF3 cl wr hb3r
                  rw [HS3.out, hy] at cf
                  simp only [optS] at cf
                  have k2 : (0 ≤ (j : Int)) = True := eq_true (by omega)
                  have k3 : ((j : Int) < (kn : Int)) = True := eq_true (by omega)
                  have hk3 : (j : Int) < (kn : Int) := by omega
                  have e1 : (y.seq < sq) = False := eq_false (by omega)
                  have B8 := BB.keep hbr
                  clear hv2 hzk2 hy hle
                  by_cases hc : cl = s.client
                  · have e2 : (cl = s.client) = True := eq_true hc
                    have e3 : (cl == s.client) = true := by simpa using hc
                    clear hc hot
                    go_wp2_with fail
                    refine cf.mono ?_
                    rintro e w8 ⟨⟨A8, c8, rfl⟩, b8⟩
                    have u0 := (b8.cell (p := ⟨b2, o2 + j * 7, none⟩) hb2x).trans y0
                    have u1 := (b8.cell (p := ⟨b2, o2 + j * 7 + 1, none⟩) hb2x).trans y1
                    have hb8 : Below W7.heap.size W7 w8 := hbr.trans (b8.mono hbr.size)
                    have hb2z : b2 < w8.heap.size := Nat.lt_of_lt_of_le hb2x b8.size
                    have hz8 := hb8.size
                    have B9 := B8.keep b8
                    clear y0 y1 b8 cf B8
                    obtain ⟨v_0, ⟨v_1, v_2, v_3, v_4, v_5, v_6, v_7⟩, v_8⟩ := _root_.id B9
                    go_wp2_with fail
                    go_quiet (fail)
                    go_wp2_with fail
                    go_roundw
                    case rel => exact ⟨j + 1, by omega, by go_num, rfl, below_drewN (hb8.alloc hz8 _) _⟩
                    case measure => simp [intOf]; omega
                  · have e2 : (cl = s.client) = False := eq_false hc
                    have e3 : (cl == s.client) = false := by simpa using hc
                    have e7 : (cl != s.client) = true := by rw [bne, e3]; rfl
                    have e4 : (y.seq = sq) = True := eq_true (hot hc)
                    have e5 : (y.seq == sq) = true := by simpa using hot hc
                    have e6 : (y.seq != sq) = false := by rw [bne, e5]; rfl
                    clear hc hot
                    go_wp2_with fail
                    refine cf.mono ?_
                    rintro e w8 ⟨⟨A8, c8, rfl⟩, b8⟩
                    have u0 := (b8.cell (p := ⟨b2, o2 + j * 7, none⟩) hb2x).trans y0
                    have u1 := (b8.cell (p := ⟨b2, o2 + j * 7 + 1, none⟩) hb2x).trans y1
                    have hb8 : Below W7.heap.size W7 w8 := hbr.trans (b8.mono hbr.size)
                    have hb2z : b2 < w8.heap.size := Nat.lt_of_lt_of_le hb2x b8.size
                    have hz8 := hb8.size
                    have B9 := B8.keep b8
                    clear y0 y1 b8 cf B8
                    obtain ⟨v_0, ⟨v_1, v_2, v_3, v_4, v_5, v_6, v_7⟩, v_8⟩ := _root_.id B9
                    go_wp2_with fail
                    go_quiet (fail)
                    go_wp2_with fail
                    go_roundw
                    case rel => exact ⟨j + 1, by omega, by go_num, rfl, below_drewN (hb8.alloc hz8 _) _⟩
                    case measure => simp [intOf]; omega
                · obtain rfl : j = kn := by omega
                  go_wp2_with fail
                  go_roundw
                  case rel => exact ⟨i + 1, z3, A3, _, c3, by omega, by go_num, rfl, rfl, HM3, Lib.hid (by rw [HS3.out]; exact HNI.out), p3, K3 _ hb3r, hbw.trans (hbor.mono hzo)⟩
                  case measure => simp [intOf]; omega
        · obtain rfl : m3 = kn + 1 := hm
          have g3 : ((kn + 1 : Nat) : Int) = (kn : Int) + 1 := by omega
          rcases HSX.out with ⟨he, ha⟩ | ⟨he, ha⟩
          · as_aux_lemma =>
              rw [ha] at cA3
              simp only at cA3
              have g5 : (x.seq = s.seq) = True := eq_true he
              have g6 : (x.seq == s.seq) = true := by simpa using he
              have g7 : (s.seq < x.seq) = False := eq_false (by omega)
              have g8 : (x.seq > s.seq) = False := eq_false (by omega)
              clear he ha
              go_wp2_with fail
              refine (cA3 _ hb5).mono ?_
              rintro e w6 ⟨⟨A6, c6, rfl⟩, b6⟩
              clear p_0 p_1 p_2 p_3 p_4 p_5 p_6 p_7 p_8
              clear q_0 q_1 q_2 q_3 q_4 q_5 q_6 q_7 q_8
              clear r_0 r_1 r_2 r_3 r_4 r_5 r_6 r_7 r_8
              have B6 := (B5.keep b6).alloc (.cells #[.int .i64 s.rep.code, .int .i64 s.rep.err, .bool s.rep.has, .string s.rep.val, .slice A6 0 c6] 26)
              have D6 := (D5.keep b6).alloc (.cells #[.int .i64 s.rep.code, .int .i64 s.rep.err, .bool s.rep.has, .string s.rep.val, .slice A6 0 c6] 26)
              have E6 := BoxR.new w6 s.rep (.slice A6 0 c6)
              have hb6 := hb5.trans (b6.mono hb5.size)
              have hb6' : Below w3.heap.size w3 (w6.alloc (.cells #[.int .i64 s.rep.code, .int .i64 s.rep.err, .bool s.rep.has, .string s.rep.val, .slice A6 0 c6] 26)) := hb6.alloc hb6.size _
              have hbo6 := hb3.trans (hb6'.mono hb3.size)
              have cO : ∀ w', Below wo.heap.size wo w' → Calls Tryd.prog 18 #[rv s.rep (.slice A6 0 c6), rv s.rep (.slice pA P pc)] w' fun e w2 => e = .returned (.bool true) ∧ Below w'.heap.size w' w2 := fun w' hw' => by
                have h := HPS.out
                have := rsameR_any s.rep s.rep (.slice A6 0 c6) (.slice pA P pc) w' (by rw [h]; exact ⟨_, _, rfl, fun h => absurd h (by simp)⟩) (KP w' hw') (by rw [h]; simp) (by rw [h]; simp)
                rw [(Od.sameR_iff s.rep s.rep).2 rfl] at this
                exact this
              clear b6 B5 C5 D5 cA3
              obtain ⟨p_0, ⟨p_1, p_2, p_3, p_4, p_5, p_6, p_7⟩, p_8⟩ := _root_.id B6
              obtain ⟨r_0, ⟨r_1, r_2, r_3, r_4, r_5, r_6, r_7⟩, r_8⟩ := _root_.id D6
              obtain ⟨q_0, ⟨q_1, q_2, q_3, q_4, q_5⟩, q_6⟩ := _root_.id E6
              go_wp2_with fail
              refine (cO _ hbo6).mono ?_
              rintro e w7 ⟨rfl, b7⟩
              have B7 := B6.keep b7
              have D7 := D6.keep b7
              have hb7 := hb6'.trans (b7.mono hb6'.size)
              clear p_0 p_1 p_2 p_3 p_4 p_5 p_6 p_7 p_8
              clear r_0 r_1 r_2 r_3 r_4 r_5 r_6 r_7 r_8
              clear q_0 q_1 q_2 q_3 q_4 q_5 q_6
              clear b7 B6 D6 E6 cO hbo6
              have hbo7 := hb3.trans (hb7.mono hb3.size)
              obtain ⟨p_0, ⟨p_1, p_2, p_3, p_4, p_5, p_6, p_7⟩, p_8⟩ := _root_.id B7
              obtain ⟨r_0, ⟨r_1, r_2, r_3, r_4, r_5, r_6, r_7⟩, r_8⟩ := _root_.id D7
              go_wp2_with fail
              clear p_0 p_1 p_2 p_3 p_4 p_5 p_6 p_7 p_8
              clear r_0 r_1 r_2 r_3 r_4 r_5 r_6 r_7 r_8
              have BB := B7
              clear B7 D7
              go_loopw [2, 14, 15, 16] (fun v2 vj _ _ wr => ∃ j : Nat, j ≤ kn ∧ vj = .int .i64 (j : Int) ∧ v2 = .bool false ∧ Below w7.heap.size w7 wr) (fun _ vj _ _ _ => kn - (intOf vj).toNat)
              case atStart => exact ⟨0, Nat.zero_le _, rfl, rfl, Below.refl _ _⟩
              case round =>
                obtain ⟨j, hj, rfl, rfl, hbr⟩ := hrel
                have hb3r : Below w3.heap.size w3 wr := hb7.trans (hbr.mono hb7.size)
                have hbor := hbo7.trans (hbr.mono hbo7.size)
                have hzr := hbr.size
                by_cases hlt2 : j < kn
                · have hjx : j < zn.length := by rw [HKN.out]; exact hlt2
                  have hv2 := (KN wr hbor).sz
                  rw [← HKN.out] at hv2
                  obtain ⟨b2, o2, hA2, hb2x, y0, y1, yy⟩ := hv2.at_ hjx
                  clear yy
                  have hmo := HSO.out zn[j].1 (List.mem_map.2 ⟨_, List.getElem_mem hjx, rfl⟩)
                  obtain ⟨⟨⟨cl, sq, rr⟩, pv2⟩, hzk2⟩ : ∃ z, zn[j] = z := ⟨_, rfl⟩
                  rw [hzk2] at y0 y1 hmo
                  simp only at y0 y1 hmo
                  subst hA2
                  obtain ⟨y, hy, hle, hot⟩ := hmo
                  have cf := cF3 cl wr hb3r
                  rw [HS3.out, hy] at cf
                  simp only [optS] at cf
                  have k2 : (0 ≤ (j : Int)) = True := eq_true (by omega)
                  have k3 : ((j : Int) < (kn : Int)) = True := eq_true (by omega)
                  have hk3 : (j : Int) < (kn : Int) := by omega
                  have e1 : (y.seq < sq) = False := eq_false (by omega)
                  have B8 := BB.keep hbr
                  clear hv2 hzk2 hy hle
                  by_cases hc : cl = s.client
                  · have e2 : (cl = s.client) = True := eq_true hc
                    have e3 : (cl == s.client) = true := by simpa using hc
                    clear hc hot
                    go_wp2_with fail
                    refine cf.mono ?_
                    rintro e w8 ⟨⟨A8, c8, rfl⟩, b8⟩
                    have u0 := (b8.cell (p := ⟨b2, o2 + j * 7, none⟩) hb2x).trans y0
                    have u1 := (b8.cell (p := ⟨b2, o2 + j * 7 + 1, none⟩) hb2x).trans y1
                    have hb8 : Below w7.heap.size w7 w8 := hbr.trans (b8.mono hbr.size)
                    have hb2z : b2 < w8.heap.size := Nat.lt_of_lt_of_le hb2x b8.size
                    have hz8 := hb8.size
                    have B9 := B8.keep b8
                    clear y0 y1 b8 cf B8
                    obtain ⟨v_0, ⟨v_1, v_2, v_3, v_4, v_5, v_6, v_7⟩, v_8⟩ := _root_.id B9
                    go_wp2_with fail
                    go_quiet (fail)
                    go_wp2_with fail
                    go_roundw
                    case rel => exact ⟨j + 1, by omega, by go_num, rfl, below_drewN (hb8.alloc hz8 _) _⟩
                    case measure => simp [intOf]; omega
                  · have e2 : (cl = s.client) = False := eq_false hc
                    have e3 : (cl == s.client) = false := by simpa using hc
                    have e7 : (cl != s.client) = true := by rw [bne, e3]; rfl
                    have e4 : (y.seq = sq) = True := eq_true (hot hc)
                    have e5 : (y.seq == sq) = true := by simpa using hot hc
                    have e6 : (y.seq != sq) = false := by rw [bne, e5]; rfl
                    clear hc hot
                    go_wp2_with fail
                    refine cf.mono ?_
                    rintro e w8 ⟨⟨A8, c8, rfl⟩, b8⟩
                    have u0 := (b8.cell (p := ⟨b2, o2 + j * 7, none⟩) hb2x).trans y0
                    have u1 := (b8.cell (p := ⟨b2, o2 + j * 7 + 1, none⟩) hb2x).trans y1
                    have hb8 : Below w7.heap.size w7 w8 := hbr.trans (b8.mono hbr.size)
                    have hb2z : b2 < w8.heap.size := Nat.lt_of_lt_of_le hb2x b8.size
                    have hz8 := hb8.size
                    have B9 := B8.keep b8
                    clear y0 y1 b8 cf B8
                    obtain ⟨v_0, ⟨v_1, v_2, v_3, v_4, v_5, v_6, v_7⟩, v_8⟩ := _root_.id B9
                    go_wp2_with fail
                    go_quiet (fail)
                    go_wp2_with fail
                    go_roundw
                    case rel => exact ⟨j + 1, by omega, by go_num, rfl, below_drewN (hb8.alloc hz8 _) _⟩
                    case measure => simp [intOf]; omega
                · obtain rfl : j = kn := by omega
                  go_wp2_with fail
                  go_roundw
                  case rel => exact ⟨i + 1, z3, A3, _, c3, by omega, by go_num, rfl, rfl, HM3, Lib.hid (by rw [HS3.out]; exact HNI.out), p3, K3 _ hb3r, hbw.trans (hbor.mono hzo)⟩
                  case measure => simp [intOf]; omega
          · as_aux_lemma =>
              rw [ha] at cA3
              simp only at cA3
              have g5 : (x.seq = s.seq) = False := eq_false (by omega)
              have g6 : (x.seq == s.seq) = false := by simp; omega
              have g7 : (s.seq < x.seq) = True := eq_true he
              have g8 : (x.seq > s.seq) = True := eq_true he
              clear he ha
              go_wp2_with fail
              refine (cA3 _ hb5).mono ?_
              rintro e w7 ⟨⟨A6, c6, rfl⟩, b6⟩
              clear p_0 p_1 p_2 p_3 p_4 p_5 p_6 p_7 p_8
              clear q_0 q_1 q_2 q_3 q_4 q_5 q_6 q_7 q_8
              clear r_0 r_1 r_2 r_3 r_4 r_5 r_6 r_7 r_8
              have B6 := (B5.keep b6).alloc (.cells #[.int .i64 3, .int .i64 0, .bool false, .string Od.E0, .slice A6 0 c6] 26)
              have D6 := (D5.keep b6).alloc (.cells #[.int .i64 3, .int .i64 0, .bool false, .string Od.E0, .slice A6 0 c6] 26)
              have hb6 := hb5.trans (b6.mono hb5.size)
              have hb7 : Below w3.heap.size w3 (w7.alloc (.cells #[.int .i64 3, .int .i64 0, .bool false, .string Od.E0, .slice A6 0 c6] 26)) := hb6.alloc hb6.size _
              have hbo7 := hb3.trans (hb7.mono hb3.size)
              have hz7 := hb6.size
              clear b6 B5 C5 D5 cA3
              obtain ⟨p_0, ⟨p_1, p_2, p_3, p_4, p_5, p_6, p_7⟩, p_8⟩ := _root_.id B6
              obtain ⟨r_0, ⟨r_1, r_2, r_3, r_4, r_5, r_6, r_7⟩, r_8⟩ := _root_.id D6
              go_wp2_with fail
              obtain ⟨W7, hW7⟩ : ∃ W7, w7.alloc (.cells #[.int .i64 3, .int .i64 0, .bool false, .string Od.E0, .slice A6 0 c6] 26) = W7 := ⟨_, rfl⟩
              clear p_0 p_1 p_2 p_3 p_4 p_5 p_6 p_7 p_8
              clear r_0 r_1 r_2 r_3 r_4 r_5 r_6 r_7 r_8
              have BB := B6
              rw [hW7] at hb7 hbo7 BB ⊢
              clear B6 D6 hW7 hz7
              go_loopw [2, 14, 15, 16] (fun v2 vj _ _ wr => ∃ j : Nat, j ≤ kn ∧ vj = .int .i64 (j : Int) ∧ v2 = .bool false ∧ Below W7.heap.size W7 wr) (fun _ vj _ _ _ => kn - (intOf vj).toNat)
              case atStart => exact ⟨0, Nat.zero_le _, rfl, rfl, Below.refl _ _⟩
              case round =>
                obtain ⟨j, hj, rfl, rfl, hbr⟩ := hrel
                have hb3r : Below w3.heap.size w3 wr := hb7.trans (hbr.mono hb7.size)
                have hbor := hbo7.trans (hbr.mono hbo7.size)
                have hzr := hbr.size
                by_cases hlt2 : j < kn
                · have hjx : j < zn.length := by rw [HKN.out]; exact hlt2
                  have hv2 := (KN wr hbor).sz
                  rw [← HKN.out] at hv2
                  obtain ⟨b2, o2, hA2, hb2x, y0, y1, yy⟩ := hv2.at_ hjx
                  clear yy
                  have hmo := HSO.out zn[j].1 (List.mem_map.2 ⟨_, List.getElem_mem hjx, rfl⟩)
                  obtain ⟨⟨⟨cl, sq, rr⟩, pv2⟩, hzk2⟩ : ∃ z, zn[j] = z := ⟨_, rfl⟩
                  rw [hzk2] at y0 y1 hmo
                  simp only at y0 y1 hmo
                  subst hA2
                  obtain ⟨y, hy, hle, hot⟩ := hmo
                  have cf := cF3 cl wr hb3r
                  rw [HS3.out, hy] at cf
                  simp only [optS] at cf
                  have k2 : (0 ≤ (j : Int)) = True := eq_true (by omega)
                  have k3 : ((j : Int) < (kn : Int)) = True := eq_true (by omega)
                  have hk3 : (j : Int) < (kn : Int) := by omega
                  have e1 : (y.seq < sq) = False := eq_false (by omega)
                  have B8 := BB.keep hbr
                  clear hv2 hzk2 hy hle
                  by_cases hc : cl = s.client
                  · have e2 : (cl = s.client) = True := eq_true hc
                    have e3 : (cl == s.client) = true := by simpa using hc
                    clear hc hot
                    go_wp2_with fail
                    refine cf.mono ?_
                    rintro e w8 ⟨⟨A8, c8, rfl⟩, b8⟩
                    have u0 := (b8.cell (p := ⟨b2, o2 + j * 7, none⟩) hb2x).trans y0
                    have u1 := (b8.cell (p := ⟨b2, o2 + j * 7 + 1, none⟩) hb2x).trans y1
                    have hb8 : Below W7.heap.size W7 w8 := hbr.trans (b8.mono hbr.size)
                    have hb2z : b2 < w8.heap.size := Nat.lt_of_lt_of_le hb2x b8.size
                    have hz8 := hb8.size
                    have B9 := B8.keep b8
                    clear y0 y1 b8 cf B8
                    obtain ⟨v_0, ⟨v_1, v_2, v_3, v_4, v_5, v_6, v_7⟩, v_8⟩ := _root_.id B9
                    go_wp2_with fail
                    go_quiet (fail)
                    go_wp2_with fail
                    go_roundw
                    case rel => exact ⟨j + 1, by omega, by go_num, rfl, below_drewN (hb8.alloc hz8 _) _⟩
                    case measure => simp [intOf]; omega
                  · have e2 : (cl = s.client) = False := eq_false hc
                    have e3 : (cl == s.client) = false := by simpa using hc
                    have e7 : (cl != s.client) = true := by rw [bne, e3]; rfl
                    have e4 : (y.seq = sq) = True := eq_true (hot hc)
                    have e5 : (y.seq == sq) = true := by simpa using hot hc
                    have e6 : (y.seq != sq) = false := by rw [bne, e5]; rfl
                    clear hc hot
                    go_wp2_with fail
                    refine cf.mono ?_
                    rintro e w8 ⟨⟨A8, c8, rfl⟩, b8⟩
                    have u0 := (b8.cell (p := ⟨b2, o2 + j * 7, none⟩) hb2x).trans y0
                    have u1 := (b8.cell (p := ⟨b2, o2 + j * 7 + 1, none⟩) hb2x).trans y1
                    have hb8 : Below W7.heap.size W7 w8 := hbr.trans (b8.mono hbr.size)
                    have hb2z : b2 < w8.heap.size := Nat.lt_of_lt_of_le hb2x b8.size
                    have hz8 := hb8.size
                    have B9 := B8.keep b8
                    clear y0 y1 b8 cf B8
                    obtain ⟨v_0, ⟨v_1, v_2, v_3, v_4, v_5, v_6, v_7⟩, v_8⟩ := _root_.id B9
                    go_wp2_with fail
                    go_quiet (fail)
                    go_wp2_with fail
                    go_roundw
                    case rel => exact ⟨j + 1, by omega, by go_num, rfl, below_drewN (hb8.alloc hz8 _) _⟩
                    case measure => simp [intOf]; omega
                · obtain rfl : j = kn := by omega
                  go_wp2_with fail
                  go_roundw
                  case rel => exact ⟨i + 1, z3, A3, _, c3, by omega, by go_num, rfl, rfl, HM3, Lib.hid (by rw [HS3.out]; exact HNI.out), p3, K3 _ hb3r, hbw.trans (hbor.mono hzo)⟩
                  case measure => simp [intOf]; omega
end Go.Proofs.YticikmkehobblaaDoor.Ss

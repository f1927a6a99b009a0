/-
  The document's set: a session in the place of an earlier one. Conditions: sessions without pairs,at most 100,000.
  The document's word on whether sessions may be: one,Is. Conditions: lengths at most 2^47.
  The document's Note and Merge. Conditions: sessions without pairs,at most 5,000.
-/
import Derived.Test.YthcmnkmfhgoddaaGreatDoorVSsBFA
import Derived.Test.YthcmnkmfhgoddaaGreatDoorVRegA
import Derived.Test.YthcmnkmfhgoddaaGreatDoorVDsPNA
import Derived.Test.YthcmnkmfhgoddaaGreatDoorVSsBoA
import Derived.Test.YthcmnkmfhgoddaaGreatDoorVSfA
namespace Go.Proofs.YthcmnkmfhgoddaaGreatDoor.Ss
open Go.RowKit Bnd
open Go.Proofs.YthcmnkmfhgoddaaGreatDoor.Od (Rep SP ArgP OwnP rv BoxR)
open Ds (run_append2)
theorem set_at {s : Ses} {over : Bool} : ∀ (zs : List Zs) (k : Nat),k <= zs.length -> (∀ t (_ : t < k) (h : t < zs.length),zs[t].1.client < s.client) -> setS s over (ses zs) = ses (zs.take k) ++ setS s over (ses (zs.drop k))
  | zs,0,_,_ => by simp
  | [],k + 1,h,_ => by simp at h
  | z :: zs,k + 1,h,g => by
    have g0 : z.1.client < s.client:=g 0 (by omega) (by simp)
    have ih:=set_at (s:=s) (over:=over) zs k (by simpa using h) (fun t ht hl => g (t + 1) (by omega) (by simpa using hl))
    simp only [ses,List.map_cons,List.take_succ_cons,List.drop_succ_cons,List.cons_append] at ih g0 ⊢
    rw [setS,if_pos g0,ih]
structure RW (W : World) (xs : List Zs) (z : Zs) (ys : List Zs) (L : Nat -> Bool) (u : Nat -> Value) (wx : World) : Prop where
  b : Below W.heap.size W wx
  o0 : L 0 = true -> L 4 = false -> ∃ h : Nat,u 0 = .slice (some ⟨h,0,none⟩) 0 0 /\ OwnZ wx W.heap.size (u 0) [] /\ h < wx.heap.size /\ (L 6 = true -> u 6 ≠ .slice (some ⟨h,0,none⟩) 1 1)
  o4 : L 4 = true -> L 7 = false -> OwnZ wx W.heap.size (u 4) xs
  o6 : L 6 = true -> L 7 = false -> ∃ g : Nat,u 6 = .slice (some ⟨g,0,none⟩) 1 1 /\ g < wx.heap.size /\ Cs wx g (0 + 0 * 7) z
  o7 : L 7 = true -> L 9 = false -> OwnZ wx W.heap.size (u 7) (xs ++ [z])
  o9 : L 9 = true -> OwnZ wx W.heap.size (u 9) (xs ++ [z] ++ ys)
theorem RW.made {W wx : World} {xs ys : List Zs} {z : Zs} {L : Nat -> Bool} {u : Nat -> Value} (h : RW W xs z ys L u wx) (h4 : L 4 = false) (h7 : L 7 = false) (h9 : L 9 = false) :
    RW W xs z ys (St.mark L 0) (St.upd u 0 (.slice (some ⟨wx.heap.size,0,none⟩) 0 0)) (wx.alloc (.cells #[] 89)):=by
  have hz:=h.b.size
  refine ⟨h.b.alloc hz _,fun _ _ => ⟨wx.heap.size,rfl,ownZ_base (ownZ_empty wx) hz,by simp,fun h6 e => ?_⟩,fun h' => ?_,fun h6 _ => ?_,fun h' => ?_,fun h' => ?_⟩
  · have h6 : L 6 = true:=h6
    obtain ⟨g,g1,g2,_⟩:=h.o6 h6 h7
    have e : u 6 = .slice (some ⟨wx.heap.size,0,none⟩) 1 1:=e
    rw [g1] at e
    injection e with e _ _
    injection e with e
    injection e with e _ _
    omega
  · rw [show St.mark L 0 4 = L 4 from rfl,h4] at h'; cases h'
  · have h6 : L 6 = true:=h6
    obtain ⟨g,g1,g2,g3⟩:=h.o6 h6 h7
    exact ⟨g,g1,by simp; omega,g3.keep fun i => World.cell?_alloc_lt wx _ ⟨g,i,none⟩ g2⟩
  · rw [show St.mark L 0 7 = L 7 from rfl,h7] at h'; cases h'
  · rw [show St.mark L 0 9 = L 9 from rfl,h9] at h'; cases h'
theorem RW.one {W wx : World} {xs ys : List Zs} {z : Zs} {L : Nat -> Bool} {u : Nat -> Value} (h : RW W xs z ys L u wx) (h7 : L 7 = false) (h9 : L 9 = false) :
    RW W xs z ys (St.mark L 6) (St.upd u 6 (.slice (some ⟨wx.heap.size,0,none⟩) 1 1)) (wx.alloc (.cells #[.int .i64 z.1.client,.int .i64 z.1.seq,.int .i64 z.1.rep.code,.int .i64 z.1.rep.err,.bool z.1.rep.has,.string z.1.rep.val,z.2] 89)):=by
  have hz:=h.b.size
  refine ⟨h.b.alloc hz _,fun h0 h4 => ?_,fun h4 _ => ownZ_alloc (h.o4 h4 h7) _,fun _ _ => ⟨wx.heap.size,rfl,by simp,?_⟩,fun h' => ?_,fun h' => ?_⟩
  · obtain ⟨g,g1,g2,g3,_⟩:=h.o0 h0 h4
    refine ⟨g,g1,ownZ_alloc g2 _,by simp; omega,fun _ e => ?_⟩
    have e : (Value.slice (some ⟨wx.heap.size,0,none⟩) 1 1) = .slice (some ⟨g,0,none⟩) 1 1:=e
    injection e with e _ _
    injection e with e
    injection e with e _ _
    omega
  · exact ⟨by simp,by simp,by simp,by simp,by simp,by simp,by simp⟩
  · rw [show St.mark L 6 7 = L 7 from rfl,h7] at h'; cases h'
  · rw [show St.mark L 6 9 = L 9 from rfl,h9] at h'; cases h'
theorem RW.app {W wx : World} {xs ys : List Zs} {z : Zs} {L : Nat -> Bool} {u : Nat -> Value} (h : RW W xs z ys L u wx) (h0 : L 0 = true) (h4 : L 4 = false) (h7 : L 7 = false) (h9 : L 9 = false)
    {v : Value} (hv : ArgZ W v xs) (hone : ∀ z ∈ xs,z.2.oneCell' = true) (hl : xs.length <= 100000) (ty : TypeId) :
    ∃ v' w',(∃ A c,v' = .slice A xs.length c) /\ (Builtin.append_ #[35,35] ty #[u 0,v]).run Tryz.prog wx = .ok v' w' /\ RW W xs z ys (St.mark L 4) (St.upd u 4 v') w':=by
  have hz:=h.b.size
  obtain ⟨q,q1,q2,q3,q4⟩:=h.o0 h0 h4
  obtain ⟨v',w',k1,k2,k3,k4⟩:=run_append_arg q2 hz (hv.keep h.b) hone (by simp; omega) ty
  rw [List.nil_append] at k2
  refine ⟨v',w',(SZ.of_own k2).form,k1,h.b.trans k3,fun _ h' => (by simp [St.mark] at h'),fun _ _ => k2,fun h6 _ => ?_,fun h' => ?_,fun h' => ?_⟩
  · have h6 : L 6 = true:=h6
    obtain ⟨g,g1,g2,g3⟩:=h.o6 h6 h7
    have hne : (u 0).ownBlock ≠ some g:=by
      intro e
      rw [q1] at e
      have e' : q = g:=by simpa [Value.ownBlock] using e
      exact q4 h6 (by rw [g1,e'])
    exact ⟨g,g1,Nat.lt_of_lt_of_le g2 k4.size,g3.keep fun i => World.cell?_of_block (a:=⟨g,i,none⟩) (k4.block g g2 (fun e => hne e.symm))⟩
  · rw [show St.mark L 4 7 = L 7 from rfl,h7] at h'; cases h'
  · rw [show St.mark L 4 9 = L 9 from rfl,h9] at h'; cases h'
theorem RW.app2 {W wx : World} {xs ys : List Zs} {z : Zs} {L : Nat -> Bool} {u : Nat -> Value} (h : RW W xs z ys L u wx) (h4 : L 4 = true) (h6 : L 6 = true) (h7 : L 7 = false) (h9 : L 9 = false) (hone : z.2.oneCell' = true) (hl : xs.length <= 100000) (ty : TypeId) :
    ∃ v' w',(∃ A c,v' = .slice A (xs.length + 1) c) /\ (Builtin.append_ #[35,35] ty #[u 4,u 6]).run Tryz.prog wx = .ok v' w' /\ RW W xs z ys (St.mark L 7) (St.upd u 7 v') w':=by
  have hz:=h.b.size
  have q3:=h.o4 h4 h7
  obtain ⟨g,g1,g2,g3⟩:=h.o6 h6 h7
  have ha : ArgZ wx (u 6) [z]:=by
    rw [g1]
    refine .some g 0 1 [z] (Nat.le_refl _) ⟨_,_,rfl,fun _ => ⟨g,0,rfl,g2,fun i hi => ?_⟩⟩
    match i,hi with
    | 0,_ => exact g3
  obtain ⟨v',w',k1,k2,k3,k4⟩:=run_append_arg q3 hz ha (fun y hy => by rw [List.mem_singleton] at hy; subst hy; exact hone) (by simp; omega) ty
  have hf:=(SZ.of_own k2).form
  rw [List.length_append] at hf
  refine ⟨v',w',hf,k1,h.b.trans k3,fun _ h' => ?_,fun _ h' => (by simp [St.mark] at h'),fun _ h' => (by simp [St.mark] at h'),fun _ _ => k2,fun h' => ?_⟩
  · rw [show St.mark L 7 4 = L 4 from rfl,h4] at h'; cases h'
  · rw [show St.mark L 7 9 = L 9 from rfl,h9] at h'; cases h'
theorem RW.app3 {W wx : World} {xs ys : List Zs} {z : Zs} {L : Nat -> Bool} {u : Nat -> Value} (h : RW W xs z ys L u wx) (h4 : L 4 = true) (h7 : L 7 = true) (h9 : L 9 = false)
    {v : Value} (hv : ArgZ W v ys) (hone : ∀ z ∈ ys,z.2.oneCell' = true) (hl : xs.length + ys.length <= 100000) (ty : TypeId) :
    ∃ v' w',(∃ A c,v' = .slice A (xs.length + 1 + ys.length) c) /\ (Builtin.append_ #[35,35] ty #[u 7,v]).run Tryz.prog wx = .ok v' w' /\ RW W xs z ys (St.mark L 9) (St.upd u 9 v') w':=by
  have hz:=h.b.size
  have q3:=h.o7 h7 h9
  obtain ⟨v',w',k1,k2,k3,k4⟩:=run_append_arg q3 hz (hv.keep h.b) hone (by simp; omega) ty
  have hf:=(SZ.of_own k2).form
  rw [List.length_append,List.length_append] at hf
  refine ⟨v',w',hf,k1,h.b.trans k3,fun _ h' => ?_,fun _ h' => ?_,fun _ h' => ?_,fun _ h' => (by simp [St.mark] at h'),fun _ => k2⟩
  · rw [show St.mark L 9 4 = L 4 from rfl,h4] at h'; cases h'
  · rw [show St.mark L 9 7 = L 7 from rfl,h7] at h'; cases h'
  · rw [show St.mark L 9 7 = L 7 from rfl,h7] at h'; cases h'
theorem ArgZ.room {w : World} {A : Option Addr} {n c : Nat} {zs : List Zs} (h : ArgZ w (.slice A n c) zs) : n <= c:=by
  cases h with
  | nil => exact Nat.le_refl _
  | some b o c zs hc h => exact hc
  | empty a c => exact Nat.zero_le _
theorem ArgZ.nothing {w : World} {v : Value} {n c : Nat} {zs : List Zs} (h : ArgZ w v zs) (e : v = .slice none n c) : n = 0 /\ c = 0:=by
  cases h with
  | nil => injection e with _ e1 e2; exact ⟨e1.symm,e2.symm⟩
  | some b o c zs hc h => injection e with e _ _; cases e
  | empty a c => injection e with e _ _; cases e
theorem ArgZ.front {w : World} {A : Option Addr} {n c k : Nat} {zs : List Zs} (h : ArgZ w (.slice A n c) zs) (hk : k <= zs.length) : ArgZ w (.slice A k c) (zs.take k):=by
  cases h with
  | nil =>
    obtain rfl : k = 0:=by simpa using hk
    exact .nil
  | some b o c zs hc h =>
    have hl : (zs.take k).length = k:=by simp; omega
    have:=ArgZ.some (w:=w) b o c (zs.take k) (by omega) (by
      refine ⟨_,_,rfl,fun h0 => ⟨b,o,rfl,?_,fun i hi => ?_⟩⟩
      · obtain ⟨b',o',e,hb,_⟩:=h.at_ (k:=0) (by omega)
        cases e; exact hb
      · have hi2 : i < zs.length:=by omega
        obtain ⟨b',o',e,hb,hc⟩:=h.at_ hi2
        cases e
        rw [List.getElem_take]; exact hc)
    rw [hl] at this
    exact this
  | empty a c =>
    obtain rfl : k = 0:=by simpa using hk
    exact .empty a c
theorem ArgZ.back {w : World} {b o n c k c' : Nat} {zs : List Zs} (h : SZ w w.heap.size (.slice (Option.some ⟨b,o,none⟩) n c) zs) (hk : k <= zs.length) (hc : zs.length - k <= c') : ArgZ w (.slice (Option.some ⟨b,o + k * 7,none⟩) (zs.length - k) c') (zs.drop k):=by
  have hl : (zs.drop k).length = zs.length - k:=by simp
  have:=ArgZ.some (w:=w) b (o + k * 7) c' (zs.drop k) (by omega) (by
    refine ⟨_,_,rfl,fun h0 => ⟨b,o + k * 7,rfl,?_,fun i hi => ?_⟩⟩
    · obtain ⟨b',o',e,hb,_⟩:=h.at_ (k:=0) (by omega)
      cases e; exact hb
    · have hi2 : k + i < zs.length:=by omega
      obtain ⟨b',o',e,hb,hc⟩:=h.at_ hi2
      cases e
      rw [List.getElem_drop]
      rw [show o + k * 7 + i * 7 = o + (k + i) * 7 by omega]
      exact hc)
  rw [hl] at this
  exact this
def SetOut (W : World) (l : List Ses) (e : Ending) (w' : World) : Prop:=∃ v' zs',e = .returned v' /\ ses zs' = l /\ ArgZ w' v' zs' /\ NoP zs' /\ Below W.heap.size W w'
theorem NoP.take {k : Nat} {zs : List Zs} (h : NoP zs) : NoP (zs.take k):=fun z hz => h z (List.mem_of_mem_take hz)
theorem NoP.drop {k : Nat} {zs : List Zs} (h : NoP zs) : NoP (zs.drop k):=fun z hz => h z (List.mem_of_mem_drop hz)
theorem NoP.app {a b : List Zs} (h : NoP a) (h' : NoP b) : NoP (a ++ b):=fun z hz => by
  rcases List.mem_append.1 hz with hz | hz
  · exact h z hz
  · exact h' z hz
theorem NoP.single {s : Ses} {A : Option Addr} {c : Nat} (h : s.rep.ps = []) : NoP [(s,.slice A 0 c)]:=fun z hz => by
  rw [List.mem_singleton] at hz
  subst hz
  exact ⟨h,A,c,rfl⟩
theorem NoP.one {zs : List Zs} (h : NoP zs) : ∀ z ∈ zs,z.2.oneCell' = true:=fun z hz => by
  obtain ⟨_,A,c,e⟩:=h z hz
  rw [e]; rfl
set_option maxHeartbeats 16000000 in
set_option maxRecDepth 100000 in
theorem rset_any (v : Value) (zs : List Zs) (s : Ses) (sA : Option Addr) (sc : Nat) (over : Bool) (w : World) (hv : ArgZ w v zs) (hp : NoP zs) (hps : s.rep.ps = []) (hl : zs.length <= 10000) :
    Calls Tryz.prog 145 #[v,sv (s,.slice sA 0 sc),.bool over] w fun e w' => SetOut w (setS s over (ses zs)) e w':=by
  obtain ⟨A,c,rfl⟩:=hv.form
  obtain ⟨n,hn⟩ : ∃ n,zs.length = n:=⟨_,rfl⟩
  have HN:=Lib.hid hn
  have hvh:=Lib.hid hv
  rw [hn] at hl ⊢
  obtain ⟨ans,hans⟩ : ∃ l,setS s over (ses zs) = l:=⟨_,rfl⟩
  have HANS:=Lib.hid hans
  rw [hans]
  clear hn hv hans
  obtain ⟨W0,hW0⟩ : ∃ W0,w.alloc (.cells #[.int .i64 s.client,.int .i64 s.seq,.int .i64 s.rep.code,.int .i64 s.rep.err,.bool s.rep.has,.string s.rep.val,.slice sA 0 sc] 89) = W0:=⟨_,rfl⟩
  have B0 : BoxS w.heap.size (s,.slice sA 0 sc) W0:=hW0 ▸ BoxS.new w (s,.slice sA 0 sc)
  have hb0 : Below w.heap.size w W0:=hW0 ▸ (Below.refl _ w).alloc (Nat.le_refl _) _
  have hz0:=hb0.size
  go_enter Tryz.func145,Tryz.ntmps145
  go_wp2_with fail
  try rw [hW0]
  clear hW0
  go_loopw [7] (fun vi wr => ∃ k : Nat,k <= n /\ vi = .int .i64 (k : Int) /\ Hid (∀ t (_ : t < k) (h : t < zs.length),zs[t].1.client < s.client) /\ Below W0.heap.size W0 wr) (fun vi _ => n - (intOf vi).toNat)
  case atStart => exact ⟨0,Nat.zero_le _,rfl,Lib.hid (fun t ht => by omega),Below.refl _ _⟩
  case round =>
    obtain ⟨k,hk,rfl,HK,hbw⟩:=hrel
    have Br:=B0.keep hbw
    have hbr : Below w.heap.size w wr:=hb0.trans (hbw.mono hz0)
    have hzr:=hbr.size
    have k0 : (0 <= (k : Int)) = True:=eq_true (by omega)
    by_cases hlt : k < n
    · have hkx : k < zs.length:=by rw [HN.out]; exact hlt
      have hvr:=hvh.out.sz.below hbr
      rw [HN.out] at hvr
      obtain ⟨b,o,rfl,hb,q0,q1,q2,q3,q4,q5,q6⟩:=hvr.at_ hkx
      obtain ⟨hpk,pa,pc,hpv⟩:=hp zs[k] (List.getElem_mem hkx)
      obtain ⟨⟨⟨cl,sq,r⟩,pv⟩,hzk⟩ : ∃ z,zs[k] = z:=⟨_,rfl⟩
      rw [hzk] at q0 q1 q2 q3 q4 q5 q6 hpv
      simp only at q0 q1 q2 q3 q4 q5 q6 hpv
      subst hpv
      have HZK:=Lib.hid hzk
      have k1 : ((k : Int) < (n : Int)) = True:=eq_true (by omega)
      have hbz : b < wr.heap.size:=by omega
      clear hzk hvr hpk
      by_cases hc : cl < s.client
      · have j1 : (cl < s.client) = True:=eq_true hc
        have HK2 : Hid (∀ t (_ : t < k + 1) (h : t < zs.length),zs[t].1.client < s.client):=Lib.hid (fun t ht hh => by
          rcases Nat.lt_succ_iff_lt_or_eq.1 ht with h | rfl
          · exact HK.out t h hh
          · rw [HZK.out]; exact hc)
        clear HK HZK hc hkx
        obtain ⟨p_0,⟨p_1,p_2,p_3,p_4,p_5,p_6,p_7⟩,p_8⟩:=_root_.id Br
        go_wp2_with fail
        refine St.wp_region_stage (fun _ wx => wx = wr.drew) (by kernel_rfl) (by kernel_rfl) (by kernel_rfl) rfl ?_
        repeat (first
          | (apply St.step_past
             · rfl
             · exact fun L wx hS => hS
             simp only [Act.put,St.pu])
          | (apply St.step_give
             · rfl
             · rintro L wx rfl hcl hrd
               go_simp
               try with_reducible rfl
             · exact fun L wx hS => hS
             simp only [Act.put,St.pu]))
        refine St.step_last ?_
        rintro L wx rfl _
        go_wp2_with fail
        go_roundw
        case rel => exact ⟨k + 1,by omega,by go_num,HK2,hbw.drew⟩
        case measure => simp [intOf]; omega
      · have j1 : (cl < s.client) = False:=eq_false hc
        have hroom : n <= c:=by have:=hvh.out.room; rw [HN.out] at this; exact this
        have hck : (c = k) = False:=eq_false (by omega)
        have hkc : ((k : Int) <= (c : Int)) = True:=eq_true (by omega)
        have hka : (k <= c) = True:=eq_true (by omega)
        have hkn : ((k : Int) <= (n : Int)) = True:=eq_true (by omega)
        have hlst:=set_at (s:=s) (over:=over) zs k (by omega) HK.out
        rw [HANS.out,List.drop_eq_getElem_cons hkx,HZK.out] at hlst
        have hsz : SZ w w.heap.size (.slice (some ⟨b,o,none⟩) n c) zs:=by have:=hvh.out.sz; rw [HN.out] at this; exact this
        have hyy0 : ArgZ w (.slice (some ⟨b,o + k * 7,none⟩) (n - k) (c - k)) (zs.drop k):=by
          have:=ArgZ.back (c':=c - k) hsz (k:=k) (by omega) (by have:=HN.out; omega)
          rw [HN.out] at this
          exact this
        have hfr0 : ArgZ w (.slice (some ⟨b,o,none⟩) k c) (zs.take k):=hvh.out.front (by omega)
        by_cases hce : cl = s.client
        · have j2 : (cl == s.client) = true:=by simpa using hce
          by_cases hkeep : sq > s.seq \/ (sq = s.seq /\ over = false)
          · have HL : Hid (ans = ses zs):=Lib.hid (by
              rw [hlst]
              simp only [ses,List.map_cons]
              rw [setS,if_neg hc,if_pos hce,if_pos hkeep]
              have e : zs = zs.take k ++ (⟨⟨cl,sq,r⟩,.slice pa 0 pc⟩ :: zs.drop (k + 1)):=by
                have:=List.drop_eq_getElem_cons hkx
                rw [HZK.out] at this
                rw [<- this,List.take_append_drop]
              conv => rhs; rw [e]
              simp)
            have hx : ((sq > s.seq) = True) \/ ((sq > s.seq) = False /\ (sq == s.seq) = true /\ over = false):=by
              rcases hkeep with h | ⟨h,ho⟩
              · exact .inl (eq_true h)
              · exact .inr ⟨eq_false (by omega),by simpa using h,ho⟩
            clear hlst hkeep HK HZK hsz hyy0 hfr0 hce hc hkx
            rcases hx with j3 | ⟨j3,j4,rfl⟩
            all_goals
              obtain ⟨p_0,⟨p_1,p_2,p_3,p_4,p_5,p_6,p_7⟩,p_8⟩:=_root_.id Br
              go_wp2_with fail
              refine St.wp_region_stage (fun _ wx => wx = wr.drew) (by kernel_rfl) (by kernel_rfl) (by kernel_rfl) rfl ?_
              repeat (first
                | (apply St.step_past
                   · rfl
                   · exact fun L wx hS => hS
                   simp only [Act.put,St.pu])
                | (apply St.step_give
                   · rfl
                   · rintro L wx rfl hcl hrd
                     go_simp
                     try with_reducible rfl
                   · exact fun L wx hS => hS
                   simp only [Act.put,St.pu]))
              refine St.step_last ?_
              rintro L wx rfl _
              go_wp2_with fail
              refine St.wp_region_stage (fun _ wx => wx = wr.drew.drew) (by kernel_rfl) (by kernel_rfl) (by kernel_rfl) rfl ?_
              repeat (first
                | (apply St.step_past
                   · rfl
                   · exact fun L wx hS => hS
                   simp only [Act.put,St.pu])
                | (apply St.step_give
                   · rfl
                   · rintro L wx rfl hcl hrd
                     go_simp
                     try with_reducible rfl
                   · exact fun L wx hS => hS
                   simp only [Act.put,St.pu]))
              refine St.step_last ?_
              rintro L wx rfl _
              go_wp2_with fail
              refine St.wp_region_stage (fun _ wx => wx = wr.drew.drew.drew) (by kernel_rfl) (by kernel_rfl) (by kernel_rfl) rfl ?_
              repeat (first
                | (apply St.step_past
                   · rfl
                   · exact fun L wx hS => hS
                   simp only [Act.put,St.pu])
                | (apply St.step_give
                   · rfl
                   · rintro L wx rfl hcl hrd
                     go_simp
                     try with_reducible rfl
                   · exact fun L wx hS => hS
                   simp only [Act.put,St.pu]))
              refine St.step_last ?_
              rintro L wx rfl _
              go_wp2_with fail
              go_ret
              refine ⟨_,zs,rfl,HL.out.symm,?_,hp,hbr.drew.drew.drew⟩
              have:=hvh.out.keep hbr.drew.drew.drew
              rw [HN.out] at this
              exact this
          · have hlst2 : ses (zs.take k ++ [(s,.slice sA 0 sc)] ++ zs.drop (k + 1)) = ans:=by
              rw [hlst]
              simp only [ses,List.map_cons]
              rw [setS,if_neg hc,if_pos hce,if_neg hkeep]
              simp
            have HL:=Lib.hid hlst2
            have j3 : (sq > s.seq) = False:=eq_false (fun h => hkeep (.inl h))
            have hx : ((sq == s.seq) = false) \/ ((sq == s.seq) = true /\ over = true):=by
              by_cases h : sq = s.seq
              · refine .inr ⟨by simpa using h,?_⟩
                cases over with
                | true => rfl
                | false => exact absurd (.inr ⟨h,rfl⟩) hkeep
              · exact .inl (by simpa using h)
            have hpy : NoP (zs.drop (k + 1)):=NoP.drop hp
            have k2 : (0 <= (k : Int) + 1) = True:=eq_true (by omega)
            have k3 : ((k : Int) + 1 <= (n : Int)) = True:=eq_true (by omega)
            have hyy1 : (c = k + 1 /\ n = k + 1) \/ ((c = k + 1) = False /\ ArgZ w (.slice (some ⟨b,o + (k + 1) * 7,none⟩) (n - (k + 1)) (c - (k + 1))) (zs.drop (k + 1))):=by
              by_cases h : c = k + 1
              · exact .inl ⟨h,by omega⟩
              · refine .inr ⟨eq_false h,?_⟩
                have:=ArgZ.back (c':=c - (k + 1)) hsz (k:=k + 1) (by omega) (by have:=HN.out; omega)
                rw [HN.out] at this
                exact this
            clear hlst hkeep HK HZK hyy0 hce hc hlst2
            rcases hyy1 with ⟨hcc,hnk⟩ | ⟨hc2,hyy0⟩
            · have hyy0 : ArgZ w (.slice (some ⟨b,o,none⟩) (n - (k + 1)) (c - (k + 1))) (zs.drop (k + 1)):=by
                rw [List.drop_eq_nil_of_le (by have:=HN.out; omega),show n - (k + 1) = 0 by omega]
                exact .empty _ _
              have hc2 : (c = k + 1) = True:=eq_true hcc
              clear hcc hnk
              rcases hx with j4 | ⟨j4,rfl⟩
              all_goals
                obtain ⟨p_0,⟨p_1,p_2,p_3,p_4,p_5,p_6,p_7⟩,p_8⟩:=_root_.id Br
                go_wp2_with fail
                refine St.wp_region_stage (fun _ wx => wx = wr.drew) (by kernel_rfl) (by kernel_rfl) (by kernel_rfl) rfl ?_
                repeat (first
                  | (apply St.step_past
                     · rfl
                     · exact fun L wx hS => hS
                     simp only [Act.put,St.pu])
                  | (apply St.step_give
                     · rfl
                     · rintro L wx rfl hcl hrd
                       go_simp
                       try with_reducible rfl
                     · exact fun L wx hS => hS
                     simp only [Act.put,St.pu]))
                refine St.step_last ?_
                rintro L wx rfl _
                go_wp2_with fail
                refine St.wp_region_stage (fun _ wx => wx = wr.drew.drew) (by kernel_rfl) (by kernel_rfl) (by kernel_rfl) rfl ?_
                repeat (first
                  | (apply St.step_past
                     · rfl
                     · exact fun L wx hS => hS
                     simp only [Act.put,St.pu])
                  | (apply St.step_give
                     · rfl
                     · rintro L wx rfl hcl hrd
                       go_simp
                       try with_reducible rfl
                     · exact fun L wx hS => hS
                     simp only [Act.put,St.pu]))
                refine St.step_last ?_
                rintro L wx rfl _
                go_wp2_with fail
                refine St.wp_region_stage (fun _ wx => wx = wr.drew.drew.drew) (by kernel_rfl) (by kernel_rfl) (by kernel_rfl) rfl ?_
                repeat (first
                  | (apply St.step_past
                     · rfl
                     · exact fun L wx hS => hS
                     simp only [Act.put,St.pu])
                  | (apply St.step_give
                     · rfl
                     · rintro L wx rfl hcl hrd
                       go_simp
                       try with_reducible rfl
                     · exact fun L wx hS => hS
                     simp only [Act.put,St.pu]))
                refine St.step_last ?_
                rintro L wx rfl _
                clear p_0 p_1 p_2 p_3 p_4 p_5 p_6 p_7 p_8
                go_wp2_with fail
                obtain ⟨W1,hW1⟩ : ∃ W1,wr.drew.drew.drew = W1:=⟨_,rfl⟩
                have B1 : BoxS w.heap.size (s,.slice sA 0 sc) W1:=hW1 ▸ Br.drew.drew.drew
                have hb1 : Below w.heap.size w W1:=hW1 ▸ hbr.drew.drew.drew
                have hz1:=hb1.size
                have hfr:=hfr0.keep hb1
                have hyy:=hyy0.keep hb1
                obtain ⟨m,hm⟩ : ∃ m,(zs.take k).length + 1 + ((zs.drop (k + 1))).length = m:=⟨_,rfl⟩
                have HM:=Lib.hid hm
                clear hm
                rw [hW1]
                clear hW1 hfr0 hyy0 Br hbr
                refine St.wp_region_mixed (RW W1 (zs.take k) (s,.slice sA 0 sc) (zs.drop (k + 1))) (fun _ _ => False) (by kernel_rfl) (by kernel_rfl) (by kernel_rfl) ⟨(Below.refl _ W1).drew,fun h => (by cases h),fun h => (by cases h),fun h => (by cases h),fun h => (by cases h),fun h => (by cases h)⟩ ?_
                refine St.mix_free (fun z => ∃ h : Nat,z = .slice (some ⟨h,0,none⟩) 0 0) rfl ?_ ?_
                · intro L u' wx hS hcl hrd hag
                  refine ⟨_,_,⟨wx.heap.size,rfl⟩,?_,hS.made (St.not_yet hcl hrd 40 4 (by kernel_rfl)) (St.not_yet hcl hrd 40 7 (by kernel_rfl)) (St.not_yet hcl hrd 40 9 (by kernel_rfl))⟩
                  go_simp
                  try with_reducible rfl
                rintro _ ⟨h0,rfl⟩
                simp only [Act.put,St.pu]
                iterate 3
                  apply St.mix_give
                  · rfl
                  · intro L u' wx hS hcl hrd hag
                    obtain ⟨_,⟨d0,d1,d2,d3,d4,d5,d6⟩,_⟩:=B1.keep hS.b
                    go_simp
                    try with_reducible rfl
                  · exact fun L u' wx hS => ⟨hS.b,hS.o0,hS.o4,hS.o6,hS.o7,hS.o9⟩
                  simp only [Act.put,St.pu]
                refine St.mix_free (fun z => ∃ A c,z = .slice A (zs.take k).length c) rfl ?_ ?_
                · intro L u' wx hS hcl hrd hag
                  obtain ⟨v',w',hv',k1,k2⟩:=hS.app (St.before_ready hcl hrd 40 0 (by kernel_rfl)) hrd.1 (St.not_yet hcl hrd 40 7 (by kernel_rfl)) (St.not_yet hcl hrd 40 9 (by kernel_rfl)) hfr (NoP.take hp).one (by first | (simp; done) | (simp; omega)) 35
                  rw [show u' 0 = .slice (some ⟨h0,0,none⟩) 0 0 from hag 40 0 (by kernel_rfl)] at k1
                  exact ⟨v',w',hv',run_append2 rfl rfl rfl k1,k2⟩
                rintro _ ⟨A4,c4,rfl⟩
                simp only [Act.put,St.pu]
                apply St.mix_give
                · rfl
                · intro L u' wx hS hcl hrd hag
                  obtain ⟨_,⟨d0,d1,d2,d3,d4,d5,d6⟩,_⟩:=B1.keep hS.b
                  go_simp
                  try with_reducible rfl
                · exact fun L u' wx hS => ⟨hS.b,hS.o0,hS.o4,hS.o6,hS.o7,hS.o9⟩
                simp only [Act.put,St.pu]
                refine St.mix_free (fun z => ∃ g : Nat,z = .slice (some ⟨g,0,none⟩) 1 1) rfl ?_ ?_
                · intro L u' wx hS hcl hrd hag
                  refine ⟨_,_,⟨wx.heap.size,rfl⟩,?_,hS.one (St.not_yet hcl hrd 40 7 (by kernel_rfl)) (St.not_yet hcl hrd 40 9 (by kernel_rfl))⟩
                  go_simp
                  try with_reducible rfl
                rintro _ ⟨g6,rfl⟩
                simp only [Act.put,St.pu]
                refine St.mix_free (fun z => ∃ A c,z = .slice A ((zs.take k).length + 1) c) rfl ?_ ?_
                · intro L u' wx hS hcl hrd hag
                  obtain ⟨v',w',hv',k1,k2⟩:=hS.app2 (St.before_ready hcl hrd 40 4 (by kernel_rfl)) (St.before_ready hcl hrd 40 6 (by kernel_rfl)) hrd.1 (St.not_yet hcl hrd 40 9 (by kernel_rfl)) rfl (by first | (simp; done) | (simp; omega)) 35
                  rw [show u' 4 = .slice A4 (zs.take k).length c4 from hag 40 4 (by kernel_rfl),show u' 6 = .slice (some ⟨g6,0,none⟩) 1 1 from hag 40 6 (by kernel_rfl)] at k1
                  exact ⟨v',w',hv',run_append2 rfl rfl rfl k1,k2⟩
                rintro _ ⟨A7,c7,rfl⟩
                simp only [Act.put,St.pu]
                apply St.mix_give
                · rfl
                · intro L u' wx hS hcl hrd hag
                  go_simp
                  try with_reducible rfl
                · exact fun L u' wx hS => ⟨hS.b,hS.o0,hS.o4,hS.o6,hS.o7,hS.o9⟩
                simp only [Act.put,St.pu]
                refine St.mix_free (fun z => ∃ A c,z = .slice A m c) rfl ?_ ?_
                · intro L u' wx hS hcl hrd hag
                  obtain ⟨v',w',hv',k1,k2⟩:=hS.app3 (St.before_ready hcl hrd 40 4 (by kernel_rfl)) (St.before_ready hcl hrd 40 7 (by kernel_rfl)) hrd.1 hyy (hpy).one (by have:=HN.out; first | (simp; done) | (simp; omega)) 35
                  rw [HM.out] at hv'
                  rw [show u' 7 = .slice A7 ((zs.take k).length + 1) c7 from hag 40 7 (by kernel_rfl)] at k1
                  exact ⟨v',w',hv',run_append2 rfl rfl rfl k1,k2⟩
                rintro _ ⟨A9,c9,rfl⟩
                simp only [Act.put,St.pu]
                apply St.mix_give
                · rfl
                · intro L u' wx hS hcl hrd hag
                  go_simp
                  try with_reducible rfl
                · exact fun L u' wx hS => ⟨hS.b,hS.o0,hS.o4,hS.o6,hS.o7,hS.o9⟩
                simp only [Act.put,St.pu]
                refine St.mix_last ?_
                intro L5 wx hS hall
                have o9 : OwnZ wx W1.heap.size (.slice A9 m c9) (zs.take k ++ [(s,.slice sA 0 sc)] ++ (zs.drop (k + 1))):=hS.o9 (hall 9 (by decide))
                have hbx:=hS.b
                clear hS hall B1 hfr hyy
                go_wp2_with fail
                go_ret
                exact ⟨_,zs.take k ++ [(s,.slice sA 0 sc)] ++ (zs.drop (k + 1)),rfl,HL.out,ArgZ.of_own o9,(NoP.app (NoP.app (NoP.take hp) (NoP.single hps)) hpy),hb1.trans (hbx.mono hz1)⟩
            · rcases hx with j4 | ⟨j4,rfl⟩
              all_goals
                obtain ⟨p_0,⟨p_1,p_2,p_3,p_4,p_5,p_6,p_7⟩,p_8⟩:=_root_.id Br
                go_wp2_with fail
                refine St.wp_region_stage (fun _ wx => wx = wr.drew) (by kernel_rfl) (by kernel_rfl) (by kernel_rfl) rfl ?_
                repeat (first
                  | (apply St.step_past
                     · rfl
                     · exact fun L wx hS => hS
                     simp only [Act.put,St.pu])
                  | (apply St.step_give
                     · rfl
                     · rintro L wx rfl hcl hrd
                       go_simp
                       try with_reducible rfl
                     · exact fun L wx hS => hS
                     simp only [Act.put,St.pu]))
                refine St.step_last ?_
                rintro L wx rfl _
                go_wp2_with fail
                refine St.wp_region_stage (fun _ wx => wx = wr.drew.drew) (by kernel_rfl) (by kernel_rfl) (by kernel_rfl) rfl ?_
                repeat (first
                  | (apply St.step_past
                     · rfl
                     · exact fun L wx hS => hS
                     simp only [Act.put,St.pu])
                  | (apply St.step_give
                     · rfl
                     · rintro L wx rfl hcl hrd
                       go_simp
                       try with_reducible rfl
                     · exact fun L wx hS => hS
                     simp only [Act.put,St.pu]))
                refine St.step_last ?_
                rintro L wx rfl _
                go_wp2_with fail
                refine St.wp_region_stage (fun _ wx => wx = wr.drew.drew.drew) (by kernel_rfl) (by kernel_rfl) (by kernel_rfl) rfl ?_
                repeat (first
                  | (apply St.step_past
                     · rfl
                     · exact fun L wx hS => hS
                     simp only [Act.put,St.pu])
                  | (apply St.step_give
                     · rfl
                     · rintro L wx rfl hcl hrd
                       go_simp
                       try with_reducible rfl
                     · exact fun L wx hS => hS
                     simp only [Act.put,St.pu]))
                refine St.step_last ?_
                rintro L wx rfl _
                clear p_0 p_1 p_2 p_3 p_4 p_5 p_6 p_7 p_8
                go_wp2_with fail
                obtain ⟨W1,hW1⟩ : ∃ W1,wr.drew.drew.drew = W1:=⟨_,rfl⟩
                have B1 : BoxS w.heap.size (s,.slice sA 0 sc) W1:=hW1 ▸ Br.drew.drew.drew
                have hb1 : Below w.heap.size w W1:=hW1 ▸ hbr.drew.drew.drew
                have hz1:=hb1.size
                have hfr:=hfr0.keep hb1
                have hyy:=hyy0.keep hb1
                obtain ⟨m,hm⟩ : ∃ m,(zs.take k).length + 1 + ((zs.drop (k + 1))).length = m:=⟨_,rfl⟩
                have HM:=Lib.hid hm
                clear hm
                rw [hW1]
                clear hW1 hfr0 hyy0 Br hbr
                refine St.wp_region_mixed (RW W1 (zs.take k) (s,.slice sA 0 sc) (zs.drop (k + 1))) (fun _ _ => False) (by kernel_rfl) (by kernel_rfl) (by kernel_rfl) ⟨(Below.refl _ W1).drew,fun h => (by cases h),fun h => (by cases h),fun h => (by cases h),fun h => (by cases h),fun h => (by cases h)⟩ ?_
                refine St.mix_free (fun z => ∃ h : Nat,z = .slice (some ⟨h,0,none⟩) 0 0) rfl ?_ ?_
                · intro L u' wx hS hcl hrd hag
                  refine ⟨_,_,⟨wx.heap.size,rfl⟩,?_,hS.made (St.not_yet hcl hrd 40 4 (by kernel_rfl)) (St.not_yet hcl hrd 40 7 (by kernel_rfl)) (St.not_yet hcl hrd 40 9 (by kernel_rfl))⟩
                  go_simp
                  try with_reducible rfl
                rintro _ ⟨h0,rfl⟩
                simp only [Act.put,St.pu]
                iterate 3
                  apply St.mix_give
                  · rfl
                  · intro L u' wx hS hcl hrd hag
                    obtain ⟨_,⟨d0,d1,d2,d3,d4,d5,d6⟩,_⟩:=B1.keep hS.b
                    go_simp
                    try with_reducible rfl
                  · exact fun L u' wx hS => ⟨hS.b,hS.o0,hS.o4,hS.o6,hS.o7,hS.o9⟩
                  simp only [Act.put,St.pu]
                refine St.mix_free (fun z => ∃ A c,z = .slice A (zs.take k).length c) rfl ?_ ?_
                · intro L u' wx hS hcl hrd hag
                  obtain ⟨v',w',hv',k1,k2⟩:=hS.app (St.before_ready hcl hrd 40 0 (by kernel_rfl)) hrd.1 (St.not_yet hcl hrd 40 7 (by kernel_rfl)) (St.not_yet hcl hrd 40 9 (by kernel_rfl)) hfr (NoP.take hp).one (by first | (simp; done) | (simp; omega)) 35
                  rw [show u' 0 = .slice (some ⟨h0,0,none⟩) 0 0 from hag 40 0 (by kernel_rfl)] at k1
                  exact ⟨v',w',hv',run_append2 rfl rfl rfl k1,k2⟩
                rintro _ ⟨A4,c4,rfl⟩
                simp only [Act.put,St.pu]
                apply St.mix_give
                · rfl
                · intro L u' wx hS hcl hrd hag
                  obtain ⟨_,⟨d0,d1,d2,d3,d4,d5,d6⟩,_⟩:=B1.keep hS.b
                  go_simp
                  try with_reducible rfl
                · exact fun L u' wx hS => ⟨hS.b,hS.o0,hS.o4,hS.o6,hS.o7,hS.o9⟩
                simp only [Act.put,St.pu]
                refine St.mix_free (fun z => ∃ g : Nat,z = .slice (some ⟨g,0,none⟩) 1 1) rfl ?_ ?_
                · intro L u' wx hS hcl hrd hag
                  refine ⟨_,_,⟨wx.heap.size,rfl⟩,?_,hS.one (St.not_yet hcl hrd 40 7 (by kernel_rfl)) (St.not_yet hcl hrd 40 9 (by kernel_rfl))⟩
                  go_simp
                  try with_reducible rfl
                rintro _ ⟨g6,rfl⟩
                simp only [Act.put,St.pu]
                refine St.mix_free (fun z => ∃ A c,z = .slice A ((zs.take k).length + 1) c) rfl ?_ ?_
                · intro L u' wx hS hcl hrd hag
                  obtain ⟨v',w',hv',k1,k2⟩:=hS.app2 (St.before_ready hcl hrd 40 4 (by kernel_rfl)) (St.before_ready hcl hrd 40 6 (by kernel_rfl)) hrd.1 (St.not_yet hcl hrd 40 9 (by kernel_rfl)) rfl (by first | (simp; done) | (simp; omega)) 35
                  rw [show u' 4 = .slice A4 (zs.take k).length c4 from hag 40 4 (by kernel_rfl),show u' 6 = .slice (some ⟨g6,0,none⟩) 1 1 from hag 40 6 (by kernel_rfl)] at k1
                  exact ⟨v',w',hv',run_append2 rfl rfl rfl k1,k2⟩
                rintro _ ⟨A7,c7,rfl⟩
                simp only [Act.put,St.pu]
                apply St.mix_give
                · rfl
                · intro L u' wx hS hcl hrd hag
                  go_simp
                  try with_reducible rfl
                · exact fun L u' wx hS => ⟨hS.b,hS.o0,hS.o4,hS.o6,hS.o7,hS.o9⟩
                simp only [Act.put,St.pu]
                refine St.mix_free (fun z => ∃ A c,z = .slice A m c) rfl ?_ ?_
                · intro L u' wx hS hcl hrd hag
                  obtain ⟨v',w',hv',k1,k2⟩:=hS.app3 (St.before_ready hcl hrd 40 4 (by kernel_rfl)) (St.before_ready hcl hrd 40 7 (by kernel_rfl)) hrd.1 hyy (hpy).one (by have:=HN.out; first | (simp; done) | (simp; omega)) 35
                  rw [HM.out] at hv'
                  rw [show u' 7 = .slice A7 ((zs.take k).length + 1) c7 from hag 40 7 (by kernel_rfl)] at k1
                  exact ⟨v',w',hv',run_append2 rfl rfl rfl k1,k2⟩
                rintro _ ⟨A9,c9,rfl⟩
                simp only [Act.put,St.pu]
                apply St.mix_give
                · rfl
                · intro L u' wx hS hcl hrd hag
                  go_simp
                  try with_reducible rfl
                · exact fun L u' wx hS => ⟨hS.b,hS.o0,hS.o4,hS.o6,hS.o7,hS.o9⟩
                simp only [Act.put,St.pu]
                refine St.mix_last ?_
                intro L5 wx hS hall
                have o9 : OwnZ wx W1.heap.size (.slice A9 m c9) (zs.take k ++ [(s,.slice sA 0 sc)] ++ (zs.drop (k + 1))):=hS.o9 (hall 9 (by decide))
                have hbx:=hS.b
                clear hS hall B1 hfr hyy
                go_wp2_with fail
                go_ret
                exact ⟨_,zs.take k ++ [(s,.slice sA 0 sc)] ++ (zs.drop (k + 1)),rfl,HL.out,ArgZ.of_own o9,(NoP.app (NoP.app (NoP.take hp) (NoP.single hps)) hpy),hb1.trans (hbx.mono hz1)⟩
        · have j2 : (cl == s.client) = false:=by simpa using hce
          have hlst2 : ses (zs.take k ++ [(s,.slice sA 0 sc)] ++ zs.drop k) = ans:=by
            rw [hlst]
            simp only [ses,List.map_cons]
            rw [setS,if_neg hc,if_neg hce]
            have e : zs.drop k = (⟨⟨cl,sq,r⟩,.slice pa 0 pc⟩ :: zs.drop (k + 1)):=by
              have:=List.drop_eq_getElem_cons hkx
              rw [HZK.out] at this
              exact this
            rw [e]
            simp
          have HL:=Lib.hid hlst2
          have hpy : NoP (zs.drop k):=NoP.drop hp
          clear hlst HK HZK hce hc hlst2
          obtain ⟨p_0,⟨p_1,p_2,p_3,p_4,p_5,p_6,p_7⟩,p_8⟩:=_root_.id Br
          go_wp2_with fail
          refine St.wp_region_stage (fun _ wx => wx = wr.drew) (by kernel_rfl) (by kernel_rfl) (by kernel_rfl) rfl ?_
          repeat (first
            | (apply St.step_past
               · rfl
               · exact fun L wx hS => hS
               simp only [Act.put,St.pu])
            | (apply St.step_give
               · rfl
               · rintro L wx rfl hcl hrd
                 go_simp
                 try with_reducible rfl
               · exact fun L wx hS => hS
               simp only [Act.put,St.pu]))
          refine St.step_last ?_
          rintro L wx rfl _
          go_wp2_with fail
          refine St.wp_region_stage (fun _ wx => wx = wr.drew.drew) (by kernel_rfl) (by kernel_rfl) (by kernel_rfl) rfl ?_
          repeat (first
            | (apply St.step_past
               · rfl
               · exact fun L wx hS => hS
               simp only [Act.put,St.pu])
            | (apply St.step_give
               · rfl
               · rintro L wx rfl hcl hrd
                 go_simp
                 try with_reducible rfl
               · exact fun L wx hS => hS
               simp only [Act.put,St.pu]))
          refine St.step_last ?_
          rintro L wx rfl _
          clear p_0 p_1 p_2 p_3 p_4 p_5 p_6 p_7 p_8
          go_wp2_with fail
          obtain ⟨W1,hW1⟩ : ∃ W1,wr.drew.drew = W1:=⟨_,rfl⟩
          have B1 : BoxS w.heap.size (s,.slice sA 0 sc) W1:=hW1 ▸ Br.drew.drew
          have hb1 : Below w.heap.size w W1:=hW1 ▸ hbr.drew.drew
          have hz1:=hb1.size
          have hfr:=hfr0.keep hb1
          have hyy:=hyy0.keep hb1
          obtain ⟨m,hm⟩ : ∃ m,(zs.take k).length + 1 + ((zs.drop k)).length = m:=⟨_,rfl⟩
          have HM:=Lib.hid hm
          clear hm
          rw [hW1]
          clear hW1 hfr0 hyy0 Br hbr
          refine St.wp_region_mixed (RW W1 (zs.take k) (s,.slice sA 0 sc) (zs.drop k)) (fun _ _ => False) (by kernel_rfl) (by kernel_rfl) (by kernel_rfl) ⟨(Below.refl _ W1).drew,fun h => (by cases h),fun h => (by cases h),fun h => (by cases h),fun h => (by cases h),fun h => (by cases h)⟩ ?_
          refine St.mix_free (fun z => ∃ h : Nat,z = .slice (some ⟨h,0,none⟩) 0 0) rfl ?_ ?_
          · intro L u' wx hS hcl hrd hag
            refine ⟨_,_,⟨wx.heap.size,rfl⟩,?_,hS.made (St.not_yet hcl hrd 40 4 (by kernel_rfl)) (St.not_yet hcl hrd 40 7 (by kernel_rfl)) (St.not_yet hcl hrd 40 9 (by kernel_rfl))⟩
            go_simp
            try with_reducible rfl
          rintro _ ⟨h0,rfl⟩
          simp only [Act.put,St.pu]
          iterate 3
            apply St.mix_give
            · rfl
            · intro L u' wx hS hcl hrd hag
              obtain ⟨_,⟨d0,d1,d2,d3,d4,d5,d6⟩,_⟩:=B1.keep hS.b
              go_simp
              try with_reducible rfl
            · exact fun L u' wx hS => ⟨hS.b,hS.o0,hS.o4,hS.o6,hS.o7,hS.o9⟩
            simp only [Act.put,St.pu]
          refine St.mix_free (fun z => ∃ A c,z = .slice A (zs.take k).length c) rfl ?_ ?_
          · intro L u' wx hS hcl hrd hag
            obtain ⟨v',w',hv',k1,k2⟩:=hS.app (St.before_ready hcl hrd 40 0 (by kernel_rfl)) hrd.1 (St.not_yet hcl hrd 40 7 (by kernel_rfl)) (St.not_yet hcl hrd 40 9 (by kernel_rfl)) hfr (NoP.take hp).one (by first | (simp; done) | (simp; omega)) 35
            rw [show u' 0 = .slice (some ⟨h0,0,none⟩) 0 0 from hag 40 0 (by kernel_rfl)] at k1
            exact ⟨v',w',hv',run_append2 rfl rfl rfl k1,k2⟩
          rintro _ ⟨A4,c4,rfl⟩
          simp only [Act.put,St.pu]
          apply St.mix_give
          · rfl
          · intro L u' wx hS hcl hrd hag
            obtain ⟨_,⟨d0,d1,d2,d3,d4,d5,d6⟩,_⟩:=B1.keep hS.b
            go_simp
            try with_reducible rfl
          · exact fun L u' wx hS => ⟨hS.b,hS.o0,hS.o4,hS.o6,hS.o7,hS.o9⟩
          simp only [Act.put,St.pu]
          refine St.mix_free (fun z => ∃ g : Nat,z = .slice (some ⟨g,0,none⟩) 1 1) rfl ?_ ?_
          · intro L u' wx hS hcl hrd hag
            refine ⟨_,_,⟨wx.heap.size,rfl⟩,?_,hS.one (St.not_yet hcl hrd 40 7 (by kernel_rfl)) (St.not_yet hcl hrd 40 9 (by kernel_rfl))⟩
            go_simp
            try with_reducible rfl
          rintro _ ⟨g6,rfl⟩
          simp only [Act.put,St.pu]
          refine St.mix_free (fun z => ∃ A c,z = .slice A ((zs.take k).length + 1) c) rfl ?_ ?_
          · intro L u' wx hS hcl hrd hag
            obtain ⟨v',w',hv',k1,k2⟩:=hS.app2 (St.before_ready hcl hrd 40 4 (by kernel_rfl)) (St.before_ready hcl hrd 40 6 (by kernel_rfl)) hrd.1 (St.not_yet hcl hrd 40 9 (by kernel_rfl)) rfl (by first | (simp; done) | (simp; omega)) 35
            rw [show u' 4 = .slice A4 (zs.take k).length c4 from hag 40 4 (by kernel_rfl),show u' 6 = .slice (some ⟨g6,0,none⟩) 1 1 from hag 40 6 (by kernel_rfl)] at k1
            exact ⟨v',w',hv',run_append2 rfl rfl rfl k1,k2⟩
          rintro _ ⟨A7,c7,rfl⟩
          simp only [Act.put,St.pu]
          apply St.mix_give
          · rfl
          · intro L u' wx hS hcl hrd hag
            go_simp
            try with_reducible rfl
          · exact fun L u' wx hS => ⟨hS.b,hS.o0,hS.o4,hS.o6,hS.o7,hS.o9⟩
          simp only [Act.put,St.pu]
          refine St.mix_free (fun z => ∃ A c,z = .slice A m c) rfl ?_ ?_
          · intro L u' wx hS hcl hrd hag
            obtain ⟨v',w',hv',k1,k2⟩:=hS.app3 (St.before_ready hcl hrd 40 4 (by kernel_rfl)) (St.before_ready hcl hrd 40 7 (by kernel_rfl)) hrd.1 hyy (hpy).one (by have:=HN.out; first | (simp; done) | (simp; omega)) 35
            rw [HM.out] at hv'
            rw [show u' 7 = .slice A7 ((zs.take k).length + 1) c7 from hag 40 7 (by kernel_rfl)] at k1
            exact ⟨v',w',hv',run_append2 rfl rfl rfl k1,k2⟩
          rintro _ ⟨A9,c9,rfl⟩
          simp only [Act.put,St.pu]
          apply St.mix_give
          · rfl
          · intro L u' wx hS hcl hrd hag
            go_simp
            try with_reducible rfl
          · exact fun L u' wx hS => ⟨hS.b,hS.o0,hS.o4,hS.o6,hS.o7,hS.o9⟩
          simp only [Act.put,St.pu]
          refine St.mix_last ?_
          intro L5 wx hS hall
          have o9 : OwnZ wx W1.heap.size (.slice A9 m c9) (zs.take k ++ [(s,.slice sA 0 sc)] ++ (zs.drop k)):=hS.o9 (hall 9 (by decide))
          have hbx:=hS.b
          clear hS hall B1 hfr hyy
          go_wp2_with fail
          go_ret
          exact ⟨_,zs.take k ++ [(s,.slice sA 0 sc)] ++ (zs.drop k),rfl,HL.out,ArgZ.of_own o9,(NoP.app (NoP.app (NoP.take hp) (NoP.single hps)) hpy),hb1.trans (hbx.mono hz1)⟩
    · obtain rfl : k = n:=by omega
      have k1 : ((k : Int) < (k : Int)) = False:=eq_false (by omega)
      have hlst:=set_at (s:=s) (over:=over) zs k (by have:=HN.out; omega) HK.out
      rw [HANS.out,List.drop_eq_nil_of_le (by have:=HN.out; omega)] at hlst
      have HL : Hid (ses (zs.take k ++ [(s,.slice sA 0 sc)] ++ ([] : List Zs)) = ans):=Lib.hid (by
        rw [hlst]
        simp [ses,setS])
      have hpy : NoP ([] : List Zs):=fun z hz => by cases hz
      have hroom : k <= c:=by have:=hvh.out.room; rw [HN.out] at this; exact this
      have hkc : ((k : Int) <= (c : Int)) = True:=eq_true (by omega)
      have hka : (k <= c) = True:=eq_true (by omega)
      have hfr0 : ArgZ w (.slice A k c) (zs.take k):=hvh.out.front (by have:=HN.out; omega)
      have hkk : k - k = 0:=by omega
      have hA : A = none -> k = 0 /\ c = 0:=fun h => by
        have:=hvh.out.nothing (n:=zs.length) (c:=c) (by rw [h])
        exact ⟨by have:=HN.out; omega,this.2⟩
      have hsz:=hvh.out.sz
      rw [HN.out] at hsz
      clear hlst HK
      cases A with
      | none =>
        obtain ⟨rfl,rfl⟩:=hA rfl
        have hyy0 : ArgZ w (.slice none 0 0) ([] : List Zs):=.nil
        have hkz : ((0 : Nat) : Int) = 0:=rfl
        obtain ⟨p_0,⟨p_1,p_2,p_3,p_4,p_5,p_6,p_7⟩,p_8⟩:=_root_.id Br
        go_wp2_with fail
        refine St.wp_region_stage (fun _ wx => wx = wr.drew) (by kernel_rfl) (by kernel_rfl) (by kernel_rfl) rfl ?_
        repeat (first
          | (apply St.step_past
             · rfl
             · exact fun L wx hS => hS
             simp only [Act.put,St.pu])
          | (apply St.step_give
             · rfl
             · rintro L wx rfl hcl hrd
               go_simp
               try with_reducible rfl
             · exact fun L wx hS => hS
             simp only [Act.put,St.pu]))
        refine St.step_last ?_
        rintro L wx rfl _
        go_wp2_with fail
        refine St.wp_region_stage (fun _ wx => wx = wr.drew.drew) (by kernel_rfl) (by kernel_rfl) (by kernel_rfl) rfl ?_
        repeat (first
          | (apply St.step_past
             · rfl
             · exact fun L wx hS => hS
             simp only [Act.put,St.pu])
          | (apply St.step_give
             · rfl
             · rintro L wx rfl hcl hrd
               go_simp
               try with_reducible rfl
             · exact fun L wx hS => hS
             simp only [Act.put,St.pu]))
        refine St.step_last ?_
        rintro L wx rfl _
        clear p_0 p_1 p_2 p_3 p_4 p_5 p_6 p_7 p_8
        go_wp2_with fail
        obtain ⟨W1,hW1⟩ : ∃ W1,wr.drew.drew = W1:=⟨_,rfl⟩
        have B1 : BoxS w.heap.size (s,.slice sA 0 sc) W1:=hW1 ▸ Br.drew.drew
        have hb1 : Below w.heap.size w W1:=hW1 ▸ hbr.drew.drew
        have hz1:=hb1.size
        have hfr:=hfr0.keep hb1
        have hyy:=hyy0.keep hb1
        obtain ⟨m,hm⟩ : ∃ m,(zs.take 0).length + 1 + (([] : List Zs)).length = m:=⟨_,rfl⟩
        have HM:=Lib.hid hm
        clear hm
        rw [hW1]
        clear hW1 hfr0 hyy0 Br hbr
        refine St.wp_region_mixed (RW W1 (zs.take 0) (s,.slice sA 0 sc) ([] : List Zs)) (fun _ _ => False) (by kernel_rfl) (by kernel_rfl) (by kernel_rfl) ⟨(Below.refl _ W1).drew,fun h => (by cases h),fun h => (by cases h),fun h => (by cases h),fun h => (by cases h),fun h => (by cases h)⟩ ?_
        refine St.mix_free (fun z => ∃ h : Nat,z = .slice (some ⟨h,0,none⟩) 0 0) rfl ?_ ?_
        · intro L u' wx hS hcl hrd hag
          refine ⟨_,_,⟨wx.heap.size,rfl⟩,?_,hS.made (St.not_yet hcl hrd 40 4 (by kernel_rfl)) (St.not_yet hcl hrd 40 7 (by kernel_rfl)) (St.not_yet hcl hrd 40 9 (by kernel_rfl))⟩
          go_simp
          try with_reducible rfl
        rintro _ ⟨h0,rfl⟩
        simp only [Act.put,St.pu]
        iterate 3
          apply St.mix_give
          · rfl
          · intro L u' wx hS hcl hrd hag
            obtain ⟨_,⟨d0,d1,d2,d3,d4,d5,d6⟩,_⟩:=B1.keep hS.b
            go_simp
            try with_reducible rfl
          · exact fun L u' wx hS => ⟨hS.b,hS.o0,hS.o4,hS.o6,hS.o7,hS.o9⟩
          simp only [Act.put,St.pu]
        refine St.mix_free (fun z => ∃ A c,z = .slice A (zs.take 0).length c) rfl ?_ ?_
        · intro L u' wx hS hcl hrd hag
          obtain ⟨v',w',hv',k1,k2⟩:=hS.app (St.before_ready hcl hrd 40 0 (by kernel_rfl)) hrd.1 (St.not_yet hcl hrd 40 7 (by kernel_rfl)) (St.not_yet hcl hrd 40 9 (by kernel_rfl)) hfr (NoP.take hp).one (by first | (simp; done) | (simp; omega)) 35
          rw [show u' 0 = .slice (some ⟨h0,0,none⟩) 0 0 from hag 40 0 (by kernel_rfl)] at k1
          exact ⟨v',w',hv',run_append2 rfl rfl rfl k1,k2⟩
        rintro _ ⟨A4,c4,rfl⟩
        simp only [Act.put,St.pu]
        apply St.mix_give
        · rfl
        · intro L u' wx hS hcl hrd hag
          obtain ⟨_,⟨d0,d1,d2,d3,d4,d5,d6⟩,_⟩:=B1.keep hS.b
          go_simp
          try with_reducible rfl
        · exact fun L u' wx hS => ⟨hS.b,hS.o0,hS.o4,hS.o6,hS.o7,hS.o9⟩
        simp only [Act.put,St.pu]
        refine St.mix_free (fun z => ∃ g : Nat,z = .slice (some ⟨g,0,none⟩) 1 1) rfl ?_ ?_
        · intro L u' wx hS hcl hrd hag
          refine ⟨_,_,⟨wx.heap.size,rfl⟩,?_,hS.one (St.not_yet hcl hrd 40 7 (by kernel_rfl)) (St.not_yet hcl hrd 40 9 (by kernel_rfl))⟩
          go_simp
          try with_reducible rfl
        rintro _ ⟨g6,rfl⟩
        simp only [Act.put,St.pu]
        refine St.mix_free (fun z => ∃ A c,z = .slice A ((zs.take 0).length + 1) c) rfl ?_ ?_
        · intro L u' wx hS hcl hrd hag
          obtain ⟨v',w',hv',k1,k2⟩:=hS.app2 (St.before_ready hcl hrd 40 4 (by kernel_rfl)) (St.before_ready hcl hrd 40 6 (by kernel_rfl)) hrd.1 (St.not_yet hcl hrd 40 9 (by kernel_rfl)) rfl (by first | (simp; done) | (simp; omega)) 35
          rw [show u' 4 = .slice A4 (zs.take 0).length c4 from hag 40 4 (by kernel_rfl),show u' 6 = .slice (some ⟨g6,0,none⟩) 1 1 from hag 40 6 (by kernel_rfl)] at k1
          exact ⟨v',w',hv',run_append2 rfl rfl rfl k1,k2⟩
        rintro _ ⟨A7,c7,rfl⟩
        simp only [Act.put,St.pu]
        apply St.mix_give
        · rfl
        · intro L u' wx hS hcl hrd hag
          go_simp
          try with_reducible rfl
        · exact fun L u' wx hS => ⟨hS.b,hS.o0,hS.o4,hS.o6,hS.o7,hS.o9⟩
        simp only [Act.put,St.pu]
        refine St.mix_free (fun z => ∃ A c,z = .slice A m c) rfl ?_ ?_
        · intro L u' wx hS hcl hrd hag
          obtain ⟨v',w',hv',k1,k2⟩:=hS.app3 (St.before_ready hcl hrd 40 4 (by kernel_rfl)) (St.before_ready hcl hrd 40 7 (by kernel_rfl)) hrd.1 hyy (hpy).one (by have:=HN.out; first | (simp; done) | (simp; omega)) 35
          rw [HM.out] at hv'
          rw [show u' 7 = .slice A7 ((zs.take 0).length + 1) c7 from hag 40 7 (by kernel_rfl)] at k1
          exact ⟨v',w',hv',run_append2 rfl rfl rfl k1,k2⟩
        rintro _ ⟨A9,c9,rfl⟩
        simp only [Act.put,St.pu]
        apply St.mix_give
        · rfl
        · intro L u' wx hS hcl hrd hag
          go_simp
          try with_reducible rfl
        · exact fun L u' wx hS => ⟨hS.b,hS.o0,hS.o4,hS.o6,hS.o7,hS.o9⟩
        simp only [Act.put,St.pu]
        refine St.mix_last ?_
        intro L5 wx hS hall
        have o9 : OwnZ wx W1.heap.size (.slice A9 m c9) (zs.take 0 ++ [(s,.slice sA 0 sc)] ++ ([] : List Zs)):=hS.o9 (hall 9 (by decide))
        have hbx:=hS.b
        clear hS hall B1 hfr hyy
        go_wp2_with fail
        go_ret
        exact ⟨_,zs.take 0 ++ [(s,.slice sA 0 sc)] ++ ([] : List Zs),rfl,HL.out,ArgZ.of_own o9,(NoP.app (NoP.app (NoP.take hp) (NoP.single hps)) hpy),hb1.trans (hbx.mono hz1)⟩
      | some a =>
        have hyy0 : ∀ (x : Addr) (q : Nat),ArgZ w (.slice (some x) 0 q) ([] : List Zs):=fun x q => .empty _ _
        have hyy2 : (c = k) = True \/ (c = k) = False:=by
          by_cases h : c = k
          · exact .inl (eq_true h)
          · exact .inr (eq_false h)
        rcases hyy2 with hc3 | hc3
        all_goals
          obtain ⟨p_0,⟨p_1,p_2,p_3,p_4,p_5,p_6,p_7⟩,p_8⟩:=_root_.id Br
          go_wp2_with fail
          refine St.wp_region_stage (fun _ wx => wx = wr.drew) (by kernel_rfl) (by kernel_rfl) (by kernel_rfl) rfl ?_
          repeat (first
            | (apply St.step_past
               · rfl
               · exact fun L wx hS => hS
               simp only [Act.put,St.pu])
            | (apply St.step_give
               · rfl
               · rintro L wx rfl hcl hrd
                 go_simp
                 try with_reducible rfl
               · exact fun L wx hS => hS
               simp only [Act.put,St.pu]))
          refine St.step_last ?_
          rintro L wx rfl _
          go_wp2_with fail
          refine St.wp_region_stage (fun _ wx => wx = wr.drew.drew) (by kernel_rfl) (by kernel_rfl) (by kernel_rfl) rfl ?_
          repeat (first
            | (apply St.step_past
               · rfl
               · exact fun L wx hS => hS
               simp only [Act.put,St.pu])
            | (apply St.step_give
               · rfl
               · rintro L wx rfl hcl hrd
                 go_simp
                 try with_reducible rfl
               · exact fun L wx hS => hS
               simp only [Act.put,St.pu]))
          refine St.step_last ?_
          rintro L wx rfl _
          clear p_0 p_1 p_2 p_3 p_4 p_5 p_6 p_7 p_8
          go_wp2_with fail
          obtain ⟨W1,hW1⟩ : ∃ W1,wr.drew.drew = W1:=⟨_,rfl⟩
          have B1 : BoxS w.heap.size (s,.slice sA 0 sc) W1:=hW1 ▸ Br.drew.drew
          have hb1 : Below w.heap.size w W1:=hW1 ▸ hbr.drew.drew
          have hz1:=hb1.size
          have hfr:=hfr0.keep hb1
          have hyy:=fun x q => (hyy0 x q).keep hb1
          obtain ⟨m,hm⟩ : ∃ m,(zs.take k).length + 1 + (([] : List Zs)).length = m:=⟨_,rfl⟩
          have HM:=Lib.hid hm
          clear hm
          rw [hW1]
          clear hW1 hfr0 hyy0 Br hbr
          refine St.wp_region_mixed (RW W1 (zs.take k) (s,.slice sA 0 sc) ([] : List Zs)) (fun _ _ => False) (by kernel_rfl) (by kernel_rfl) (by kernel_rfl) ⟨(Below.refl _ W1).drew,fun h => (by cases h),fun h => (by cases h),fun h => (by cases h),fun h => (by cases h),fun h => (by cases h)⟩ ?_
          refine St.mix_free (fun z => ∃ h : Nat,z = .slice (some ⟨h,0,none⟩) 0 0) rfl ?_ ?_
          · intro L u' wx hS hcl hrd hag
            refine ⟨_,_,⟨wx.heap.size,rfl⟩,?_,hS.made (St.not_yet hcl hrd 40 4 (by kernel_rfl)) (St.not_yet hcl hrd 40 7 (by kernel_rfl)) (St.not_yet hcl hrd 40 9 (by kernel_rfl))⟩
            go_simp
            try with_reducible rfl
          rintro _ ⟨h0,rfl⟩
          simp only [Act.put,St.pu]
          iterate 3
            apply St.mix_give
            · rfl
            · intro L u' wx hS hcl hrd hag
              obtain ⟨_,⟨d0,d1,d2,d3,d4,d5,d6⟩,_⟩:=B1.keep hS.b
              go_simp
              try with_reducible rfl
            · exact fun L u' wx hS => ⟨hS.b,hS.o0,hS.o4,hS.o6,hS.o7,hS.o9⟩
            simp only [Act.put,St.pu]
          refine St.mix_free (fun z => ∃ A c,z = .slice A (zs.take k).length c) rfl ?_ ?_
          · intro L u' wx hS hcl hrd hag
            obtain ⟨v',w',hv',k1,k2⟩:=hS.app (St.before_ready hcl hrd 40 0 (by kernel_rfl)) hrd.1 (St.not_yet hcl hrd 40 7 (by kernel_rfl)) (St.not_yet hcl hrd 40 9 (by kernel_rfl)) hfr (NoP.take hp).one (by first | (simp; done) | (simp; omega)) 35
            rw [show u' 0 = .slice (some ⟨h0,0,none⟩) 0 0 from hag 40 0 (by kernel_rfl)] at k1
            exact ⟨v',w',hv',run_append2 rfl rfl rfl k1,k2⟩
          rintro _ ⟨A4,c4,rfl⟩
          simp only [Act.put,St.pu]
          apply St.mix_give
          · rfl
          · intro L u' wx hS hcl hrd hag
            obtain ⟨_,⟨d0,d1,d2,d3,d4,d5,d6⟩,_⟩:=B1.keep hS.b
            go_simp
            try with_reducible rfl
          · exact fun L u' wx hS => ⟨hS.b,hS.o0,hS.o4,hS.o6,hS.o7,hS.o9⟩
          simp only [Act.put,St.pu]
          refine St.mix_free (fun z => ∃ g : Nat,z = .slice (some ⟨g,0,none⟩) 1 1) rfl ?_ ?_
          · intro L u' wx hS hcl hrd hag
            refine ⟨_,_,⟨wx.heap.size,rfl⟩,?_,hS.one (St.not_yet hcl hrd 40 7 (by kernel_rfl)) (St.not_yet hcl hrd 40 9 (by kernel_rfl))⟩
            go_simp
            try with_reducible rfl
          rintro _ ⟨g6,rfl⟩
          simp only [Act.put,St.pu]
          refine St.mix_free (fun z => ∃ A c,z = .slice A ((zs.take k).length + 1) c) rfl ?_ ?_
          · intro L u' wx hS hcl hrd hag
            obtain ⟨v',w',hv',k1,k2⟩:=hS.app2 (St.before_ready hcl hrd 40 4 (by kernel_rfl)) (St.before_ready hcl hrd 40 6 (by kernel_rfl)) hrd.1 (St.not_yet hcl hrd 40 9 (by kernel_rfl)) rfl (by first | (simp; done) | (simp; omega)) 35
            rw [show u' 4 = .slice A4 (zs.take k).length c4 from hag 40 4 (by kernel_rfl),show u' 6 = .slice (some ⟨g6,0,none⟩) 1 1 from hag 40 6 (by kernel_rfl)] at k1
            exact ⟨v',w',hv',run_append2 rfl rfl rfl k1,k2⟩
          rintro _ ⟨A7,c7,rfl⟩
          simp only [Act.put,St.pu]
          apply St.mix_give
          · rfl
          · intro L u' wx hS hcl hrd hag
            go_simp
            try with_reducible rfl
          · exact fun L u' wx hS => ⟨hS.b,hS.o0,hS.o4,hS.o6,hS.o7,hS.o9⟩
          simp only [Act.put,St.pu]
          refine St.mix_free (fun z => ∃ A c,z = .slice A m c) rfl ?_ ?_
          · intro L u' wx hS hcl hrd hag
            obtain ⟨v',w',hv',k1,k2⟩:=hS.app3 (St.before_ready hcl hrd 40 4 (by kernel_rfl)) (St.before_ready hcl hrd 40 7 (by kernel_rfl)) hrd.1 (hyy _ _) (hpy).one (by have:=HN.out; first | (simp; done) | (simp; omega)) 35
            rw [HM.out] at hv'
            rw [show u' 7 = .slice A7 ((zs.take k).length + 1) c7 from hag 40 7 (by kernel_rfl)] at k1
            exact ⟨v',w',hv',run_append2 rfl rfl rfl k1,k2⟩
          rintro _ ⟨A9,c9,rfl⟩
          simp only [Act.put,St.pu]
          apply St.mix_give
          · rfl
          · intro L u' wx hS hcl hrd hag
            go_simp
            try with_reducible rfl
          · exact fun L u' wx hS => ⟨hS.b,hS.o0,hS.o4,hS.o6,hS.o7,hS.o9⟩
          simp only [Act.put,St.pu]
          refine St.mix_last ?_
          intro L5 wx hS hall
          have o9 : OwnZ wx W1.heap.size (.slice A9 m c9) (zs.take k ++ [(s,.slice sA 0 sc)] ++ ([] : List Zs)):=hS.o9 (hall 9 (by decide))
          have hbx:=hS.b
          clear hS hall B1 hfr hyy
          go_wp2_with fail
          go_ret
          exact ⟨_,zs.take k ++ [(s,.slice sA 0 sc)] ++ ([] : List Zs),rfl,HL.out,ArgZ.of_own o9,(NoP.app (NoP.app (NoP.take hp) (NoP.single hps)) hpy),hb1.trans (hbx.mono hz1)⟩
end Go.Proofs.YthcmnkmfhgoddaaGreatDoor.Ss

namespace Go.Proofs.YthcmnkmfhgoddaaGreatDoor.Ss
open Go.RowKit Bnd
open Go.Proofs.YthcmnkmfhgoddaaGreatDoor.Od (Rep SP isR seqB amongB rv BoxR)
theorem fits_iff (s : Ses) : fitsB s = true ↔ ((1 <= s.client /\ s.client <= 1099511627776) /\ (1 <= s.seq /\ s.seq <= 1099511627776)) /\ (isR s.rep = true /\ s.rep.val.size <= 512) /\ s.rep.ps.length = 0:=by
  unfold fitsB keptB seqB amongB
  simp only [Bool.and_eq_true,decide_eq_true_eq]
set_option maxHeartbeats 8000000 in
set_option maxRecDepth 100000 in
theorem rone_any (z : Zs) (w : World) (hp : SP w w.heap.size z.2 z.1.rep.ps) (f : FitZ z.1) :
    Calls Tryz.prog 103 #[sv z] w fun e w' => e = .returned (.bool (fitsB z.1)) /\ Below w.heap.size w w':=by
  obtain ⟨f1,f2,f3⟩:=f
  obtain ⟨⟨cl,sq,r⟩,pv⟩:=z
  simp only at hp f1 f2 f3 ⊢
  obtain ⟨pa,pc,rfl⟩ : ∃ A c,pv = .slice A r.ps.length c:=hp.form
  have cc:=fun w h => Od.risR_any r (.slice pa r.ps.length pc) w h f1 f2 f3
  have kp : ∀ wx,Below w.heap.size w wx -> SP wx wx.heap.size (.slice pa r.ps.length pc) r.ps:=fun wx h => (hp.below h).more h.size
  obtain ⟨R,hR⟩ : ∃ R,fitsB ⟨cl,sq,r⟩ = R:=⟨_,rfl⟩
  have hno : ¬ (((1 <= cl /\ cl <= 1099511627776) /\ (1 <= sq /\ sq <= 1099511627776)) /\ (isR r = true /\ r.val.size <= 512) /\ r.ps.length = 0) -> R = false:=fun h => by
    rw [<- hR]
    cases hx : fitsB ⟨cl,sq,r⟩ with
    | false => rfl
    | true => exact absurd ((fits_iff _).1 hx) h
  have hye : (((1 <= cl /\ cl <= 1099511627776) /\ (1 <= sq /\ sq <= 1099511627776)) /\ (isR r = true /\ r.val.size <= 512) /\ r.ps.length = 0) -> R = true:=fun h => by rw [<- hR]; exact (fits_iff _).2 h
  rw [hR]
  clear hR
  by_cases a1 : 1 <= cl
  rotate_left
  · have e : R = false:=hno (fun h => a1 h.1.1.1)
    subst e
    have g0 : (cl >= 1) = False:=eq_false (by omega)
    clear hno hye a1
    go_enter Tryz.func103,Tryz.ntmps103
    go_wp2_with fail
    go_ret
    exact ⟨rfl,(by exact bex0)⟩
  by_cases a2 : cl <= 1099511627776
  rotate_left
  · have e : R = false:=hno (fun h => a2 h.1.1.2)
    subst e
    have g0 : (cl >= 1) = True:=eq_true (by omega)
    have g1 : (cl <= 1099511627776) = False:=eq_false (by omega)
    clear hno hye a1 a2
    go_enter Tryz.func103,Tryz.ntmps103
    go_wp2_with fail
    go_ret
    exact ⟨rfl,(by exact bex0)⟩
  by_cases a3 : 1 <= sq
  rotate_left
  · have e : R = false:=hno (fun h => a3 h.1.2.1)
    subst e
    have g0 : (cl >= 1) = True:=eq_true (by omega)
    have g1 : (cl <= 1099511627776) = True:=eq_true (by omega)
    have g2 : (sq >= 1) = False:=eq_false (by omega)
    clear hno hye a1 a2 a3
    go_enter Tryz.func103,Tryz.ntmps103
    go_wp2_with fail
    go_ret
    exact ⟨rfl,(by exact bex0)⟩
  by_cases a4 : sq <= 1099511627776
  rotate_left
  · have e : R = false:=hno (fun h => a4 h.1.2.2)
    subst e
    have g0 : (cl >= 1) = True:=eq_true (by omega)
    have g1 : (cl <= 1099511627776) = True:=eq_true (by omega)
    have g2 : (sq >= 1) = True:=eq_true (by omega)
    have g3 : (sq <= 1099511627776) = False:=eq_false (by omega)
    clear hno hye a1 a2 a3 a4
    go_enter Tryz.func103,Tryz.ntmps103
    go_wp2_with fail
    go_ret
    exact ⟨rfl,(by exact bex0)⟩
  have g0 : (cl >= 1) = True:=eq_true (by omega)
  have g1 : (cl <= 1099511627776) = True:=eq_true (by omega)
  have g2 : (sq >= 1) = True:=eq_true (by omega)
  have g3 : (sq <= 1099511627776) = True:=eq_true (by omega)
  cases hb : isR r with
  | false =>
    have e : R = false:=hno (fun h => by have:=h.2.1.1; rw [hb] at this; cases this)
    subst e
    rw [hb] at cc
    clear hno hye hb a1 a2 a3 a4
    go_enter Tryz.func103,Tryz.ntmps103
    go_wp2_with fail
    refine (cc _ (kp _ (by exact bex0))).mono ?_
    rintro e w1 ⟨rfl,b1⟩
    obtain ⟨_,⟨q0,q1,q2,q3,q4,q5,q6⟩,_⟩:=(BoxS.new w (⟨cl,sq,r⟩,.slice pa r.ps.length pc)).keep b1
    have hb : Below w.heap.size w w1:=(show Below w.heap.size w _ from (by exact bex0)).trans (b1.mono (by simp))
    have hz : w.heap.size < w1.heap.size:=by have:=b1.size; simp at this; omega
    clear b1
    go_wp2_with fail
    go_ret
    exact ⟨rfl,hb⟩
  | true =>
    rw [hb] at cc
    by_cases h5 : r.val.size <= 512
    · have g5 : ((r.val.size : Int) <= 512) = True:=eq_true (by omega)
      have hRd : R = decide (r.ps.length = 0):=by
        by_cases h6 : r.ps.length = 0
        · rw [hye ⟨⟨⟨a1,a2⟩,a3,a4⟩,⟨hb,h5⟩,h6⟩,decide_eq_true h6]
        · rw [hno (fun h => h6 h.2.2),decide_eq_false h6]
      subst hRd
      clear hno hye hb a1 a2 a3 a4 h5
      go_enter Tryz.func103,Tryz.ntmps103
      go_wp2_with fail
      refine (cc _ (kp _ (by exact bex0))).mono ?_
      rintro e w1 ⟨rfl,b1⟩
      obtain ⟨_,⟨q0,q1,q2,q3,q4,q5,q6⟩,_⟩:=(BoxS.new w (⟨cl,sq,r⟩,.slice pa r.ps.length pc)).keep b1
      have hb : Below w.heap.size w w1:=(show Below w.heap.size w _ from (by exact bex0)).trans (b1.mono (by simp))
      have hz : w.heap.size < w1.heap.size:=by have:=b1.size; simp at this; omega
      clear b1
      go_wp2_with fail
      go_ret
      exact ⟨ret_bool (by rw [Bool.eq_iff_iff]; simp),hb⟩
    · have g5 : ((r.val.size : Int) <= 512) = False:=eq_false (by omega)
      have e : R = false:=hno (fun h => h5 h.2.1.2)
      subst e
      clear hno hye hb a1 a2 a3 a4 h5
      go_enter Tryz.func103,Tryz.ntmps103
      go_wp2_with fail
      refine (cc _ (kp _ (by exact bex0))).mono ?_
      rintro e w1 ⟨rfl,b1⟩
      obtain ⟨_,⟨q0,q1,q2,q3,q4,q5,q6⟩,_⟩:=(BoxS.new w (⟨cl,sq,r⟩,.slice pa r.ps.length pc)).keep b1
      have hb : Below w.heap.size w w1:=(show Below w.heap.size w _ from (by exact bex0)).trans (b1.mono (by simp))
      have hz : w.heap.size < w1.heap.size:=by have:=b1.size; simp at this; omega
      clear b1
      go_wp2_with fail
      go_ret
      exact ⟨rfl,hb⟩
def prevC (zs : List Zs) (k : Nat) : Int:=if k = 0 then 0 else (zs.getD (k - 1) (Ses.zero,undef)).1.client
set_option maxHeartbeats 8000000 in
set_option maxRecDepth 100000 in
theorem ris_any (v : Value) (zs : List Zs) (w : World) (hv : SZ w w.heap.size v zs) (hp : PZ w w.heap.size zs) (hf : ∀ z ∈ zs,FitZ z.1) (hl : zs.length <= 140737488355328) :
    Calls Tryz.prog 49 #[v] w fun e w' => e = .returned (.bool (isS (ses zs))) /\ Below w.heap.size w w':=by
  obtain ⟨A,c,rfl⟩:=hv.form
  by_cases h64 : zs.length <= 64
  rotate_left
  · rw [show isS (ses zs) = false by unfold isS; simp [h64]]
    have g1 : ((zs.length : Int) > 64) = True:=eq_true (by omega)
    go_enter Tryz.func49,Tryz.ntmps49
    go_wp2_with fail
    go_ret
    exact ⟨rfl,(by exact bex0)⟩
  have g1 : ((zs.length : Int) > 64) = False:=eq_false (by omega)
  obtain ⟨R,hR⟩ : ∃ R,riseB 0 ((ses zs).drop 0) = R:=⟨_,rfl⟩
  have he : isS (ses zs) = R:=by
    rw [<- hR]
    unfold isS
    simp [h64]
  rw [he]
  have HR0:=Lib.hid (show riseB (prevC zs 0) ((ses zs).drop 0) = R from hR)
  obtain ⟨n,hn⟩ : ∃ n,n = zs.length:=⟨_,rfl⟩
  have HN:=Lib.hid hn
  rw [<- hn] at g1 hl h64 ⊢
  have hv2:=Lib.hid hv
  clear he hR hn hv
  go_enter Tryz.func49,Tryz.ntmps49
  go_wp2_with fail
  go_loopw [3] (fun vi wr => ∃ (k : Nat),k <= n /\ vi = .int .i64 (k : Int) /\ Hid (riseB (prevC zs k) ((ses zs).drop k) = R) /\ Hid (∀ z ∈ zs.take k,fitsB z.1 = true) /\ Below w.heap.size w wr) (fun vi _ => n - (intOf vi).toNat)
  case atStart => exact ⟨0,Nat.zero_le _,rfl,HR0,Lib.hid (fun z hz => by cases hz),(by exact bex0)⟩
  case round =>
    obtain ⟨k,hk,rfl,HR,HF,hbw⟩:=hrel
    have hz:=hbw.size
    by_cases hlt : k < n
    · have hkx : k < zs.length:=by rw [<- HN.out]; exact hlt
      have hv3:=hv2.out
      rw [<- HN.out] at hv3
      obtain ⟨b,o,rfl,hb,q0,q1,q2,q3,q4,q5,q6⟩:=(hv3.below hbw).at_ hkx
      have hprev : ∀ k',k' + 1 = k -> wr.cell? ⟨b,o + k' * 7,none⟩ = some (.int .i64 (prevC zs k)):=by
        intro k' hk'
        have hkl : k' < zs.length:=by omega
        obtain ⟨b',o',hA',hb',m0,_⟩:=(hv3.below hbw).at_ hkl
        injection hA' with hA'
        injection hA' with hA1 hA2 _
        subst hA1 hA2
        rw [m0]
        unfold prevC
        rw [if_neg (by omega)]
        rw [show k - 1 = k' by omega,List.getD_eq_getElem?_getD,List.getElem?_eq_getElem hkl]
        rfl
      have hpk:=hp zs[k] (List.getElem_mem hkx)
      have hfk:=hf zs[k] (List.getElem_mem hkx)
      have hd:=ses_drop zs k hkx
      have hnx : prevC zs (k + 1) = zs[k].1.client:=by
        unfold prevC
        rw [if_neg (by omega),List.getD_eq_getElem?_getD,List.getElem?_eq_getElem (show k + 1 - 1 < zs.length by omega)]
        rfl
      have htk : zs.take (k + 1) = zs.take k ++ [zs[k]]:=List.take_succ_eq_append_getElem hkx
      obtain ⟨z,hzk⟩ : ∃ z,zs[k] = z:=⟨_,rfl⟩
      rw [hzk] at q0 q1 q2 q3 q4 q5 q6 hpk hfk hd hnx htk
      have kp : ∀ wx,Below wr.heap.size wr wx -> SP wx wx.heap.size z.2 z.1.rep.ps:=fun wx h => (hpk.below (hbw.trans (h.mono hbw.size))).more (by have:=h.size; omega)
      have cf : ∀ wx,Below wr.heap.size wr wx -> Calls Tryz.prog 103 #[sv z] wx fun e w' => e = .returned (.bool (fitsB z.1)) /\ Below wr.heap.size wr w':=by
        intro wx hx
        refine (rone_any z wx (kp wx hx) hfk).mono ?_
        rintro e w' ⟨rfl,b⟩
        exact ⟨rfl,hx.trans (b.mono hx.size)⟩
      have HD:=Lib.hid (show riseB (prevC zs k) (z.1 :: (ses zs).drop (k + 1)) = R by rw [<- hd]; exact HR.out)
      have HNX:=Lib.hid hnx
      have HTK:=Lib.hid htk
      obtain ⟨pc0,hpc0⟩ : ∃ x,prevC zs k = x:=⟨_,rfl⟩
      rw [hpc0] at HD hprev
      have HP0:=Lib.hid hpc0
      obtain ⟨⟨cl,sq,r⟩,pv⟩:=z
      simp only at q0 q1 q2 q3 q4 q5 q6 cf kp
      obtain ⟨pa,pc,rfl⟩ : ∃ A c,pv = .slice A r.ps.length c:=hpk.form
      have hbz : b < wr.heap.size:=by omega
      have k0 : (0 <= (k : Int)) = True:=eq_true (by omega)
      have k1 : ((k : Int) < (n : Int)) = True:=eq_true (by omega)
      have hcell : ∀ wx,Below wr.heap.size wr wx -> Cs wx b (o + k * 7) (⟨cl,sq,r⟩,.slice pa r.ps.length pc):=fun wx hx => Cs.keep (w:=wr) ⟨q0,q1,q2,q3,q4,q5,q6⟩ (fun i => hx.cell (p:=⟨b,i,none⟩) hbz)
      clear hd hzk hpk hfk hv3 hkx HR hpc0 hnx htk q0 q1 q2 q3 q4 q5 q6
      cases hfb : fitsB ⟨cl,sq,r⟩ with
      | false =>
        have hRf : R = false:=by rw [<- HD.out,riseB,if_neg (by rw [hfb]; simp)]
        subst hRf
        rw [hfb] at cf
        clear HD hfb hprev HNX HTK HP0 HF
        go_wp2_with fail
        refine St.wp_region_stage (fun _ wx => Below wr.heap.size wr wx) (by kernel_rfl) (by kernel_rfl) (by kernel_rfl) (Below.refl _ _).drew ?_
        repeat (first
          | (apply St.step_past
             · rfl
             · exact fun L wx hS => hS
             simp only [Act.put,St.pu])
          | (apply St.step_give
             · rfl
             · intro L wx hS hcl hrd
               obtain ⟨q0,q1,q2,q3,q4,q5,q6⟩:=hcell wx hS
               simp only at q0 q1 q2 q3 q4 q5 q6
               go_simp
               try with_reducible rfl
             · exact fun L wx hS => hS
             simp only [Act.put,St.pu])
          | (apply St.step_into
             · rfl
             · intro wx
               go_simp
               exact ⟨rfl,rfl⟩
             · exact fun L wx hS hcl hrd => cf wx hS
             simp only [Act.put,St.pu]))
        refine St.step_last ?_
        intro L wx hS _
        clear cf hcell
        go_wp2_with fail
        go_ret
        exact ⟨rfl,hbw.trans (hS.mono hz)⟩
      | true =>
        rw [hfb] at cf
        have HF2 : Hid (∀ z ∈ zs.take (k + 1),fitsB z.1 = true):=Lib.hid (by
          rw [HTK.out]
          intro z hz
          rcases List.mem_append.1 hz with hz | hz
          · exact HF.out z hz
          · rw [List.mem_singleton] at hz; subst hz; exact hfb)
        by_cases hk0 : k = 0
        · have HS : Hid (riseB (prevC zs (k + 1)) ((ses zs).drop (k + 1)) = R):=Lib.hid (by
            have h0 : prevC zs k = 0:=by rw [hk0]; rfl
            rw [HNX.out,<- HD.out,riseB,if_pos ⟨by have:=fits_client hfb; have h1:=HP0.out; simp only at this ⊢; omega,hfb⟩])
          have e1 : ((k : Int) > 0) = False:=eq_false (by omega)
          have e4 : ((0 : Int) < (k : Int)) = False:=eq_false (by omega)
          have e5 : (0 < k) = False:=eq_false (by omega)
          clear hk0
          clear HD hfb hprev HNX HTK HP0 HF
          go_wp2_with fail
          refine St.wp_region_stage (fun _ wx => Below wr.heap.size wr wx) (by kernel_rfl) (by kernel_rfl) (by kernel_rfl) (Below.refl _ _).drew ?_
          repeat (first
            | (apply St.step_past
               · rfl
               · exact fun L wx hS => hS
               simp only [Act.put,St.pu])
            | (apply St.step_give
               · rfl
               · intro L wx hS hcl hrd
                 obtain ⟨q0,q1,q2,q3,q4,q5,q6⟩:=hcell wx hS
                 simp only at q0 q1 q2 q3 q4 q5 q6
                 go_simp
                 try with_reducible rfl
               · exact fun L wx hS => hS
               simp only [Act.put,St.pu])
            | (apply St.step_into
               · rfl
               · intro wx
                 go_simp
                 exact ⟨rfl,rfl⟩
               · exact fun L wx hS hcl hrd => cf wx hS
               simp only [Act.put,St.pu]))
          refine St.step_last ?_
          intro L wx hS _
          clear cf hcell
          go_wp2_with fail
          go_roundw
          case rel => exact ⟨k + 1,by omega,by go_num,HS,HF2,hbw.trans (hS.mono hz)⟩
          case measure => simp [intOf]; omega
        · obtain ⟨k',hk'⟩ : ∃ k',k' + 1 = k:=⟨k - 1,by omega⟩
          have hpr:=hprev k' hk'
          have e1 : ((k : Int) > 0) = True:=eq_true (by omega)
          have e4 : ((0 : Int) < (k : Int)) = True:=eq_true (by omega)
          have e5 : (0 < k) = True:=eq_true (by omega)
          have w4 : IntKind.i64.wrap ((k : Int) - 1) = (k' : Int):=by rw [IntKind.wrap_i64]; omega
          have w2 : (0 <= (k' : Int)) = True:=eq_true (by omega)
          have w3 : ((k' : Int) < (n : Int)) = True:=eq_true (by omega)
          have hpw : ∀ wx,Below wr.heap.size wr wx -> wx.cell? ⟨b,o + k' * 7,none⟩ = some (.int .i64 pc0):=fun wx hx => (hx.cell (p:=⟨b,o + k' * 7,none⟩) hbz).trans hpr
          clear hprev hpr
          by_cases hc : cl <= pc0
          · have hRf : R = false:=by rw [<- HD.out,riseB,if_neg (by simp only; omega)]
            subst hRf
            have e3 : (cl <= pc0) = True:=eq_true hc
            clear HD hfb HNX HTK HP0 HF HF2 hc hk' hk0
            go_wp2_with fail
            refine St.wp_region_stage (fun _ wx => Below wr.heap.size wr wx) (by kernel_rfl) (by kernel_rfl) (by kernel_rfl) (Below.refl _ _).drew ?_
            repeat (first
              | (apply St.step_past
                 · rfl
                 · exact fun L wx hS => hS
                 simp only [Act.put,St.pu])
              | (apply St.step_give
                 · rfl
                 · intro L wx hS hcl hrd
                   obtain ⟨q0,q1,q2,q3,q4,q5,q6⟩:=hcell wx hS
                   simp only at q0 q1 q2 q3 q4 q5 q6
                   have hpv:=hpw wx hS
                   go_simp
                   try with_reducible rfl
                 · exact fun L wx hS => hS
                 simp only [Act.put,St.pu])
              | (apply St.step_into
                 · rfl
                 · intro wx
                   go_simp
                   exact ⟨rfl,rfl⟩
                 · exact fun L wx hS hcl hrd => cf wx hS
                 simp only [Act.put,St.pu]))
            refine St.step_last ?_
            intro L wx hS _
            clear hpw
            clear cf hcell
            go_wp2_with fail
            go_ret
            exact ⟨rfl,hbw.trans (hS.mono hz)⟩
          · have e3 : (cl <= pc0) = False:=eq_false hc
            have HS : Hid (riseB (prevC zs (k + 1)) ((ses zs).drop (k + 1)) = R):=Lib.hid (by
              rw [HNX.out,<- HD.out,riseB,if_pos ⟨by simp only; omega,hfb⟩])
            clear HD hfb HNX HTK HP0 HF hc hk' hk0
            go_wp2_with fail
            refine St.wp_region_stage (fun _ wx => Below wr.heap.size wr wx) (by kernel_rfl) (by kernel_rfl) (by kernel_rfl) (Below.refl _ _).drew ?_
            repeat (first
              | (apply St.step_past
                 · rfl
                 · exact fun L wx hS => hS
                 simp only [Act.put,St.pu])
              | (apply St.step_give
                 · rfl
                 · intro L wx hS hcl hrd
                   obtain ⟨q0,q1,q2,q3,q4,q5,q6⟩:=hcell wx hS
                   simp only at q0 q1 q2 q3 q4 q5 q6
                   have hpv:=hpw wx hS
                   go_simp
                   try with_reducible rfl
                 · exact fun L wx hS => hS
                 simp only [Act.put,St.pu])
              | (apply St.step_into
                 · rfl
                 · intro wx
                   go_simp
                   exact ⟨rfl,rfl⟩
                 · exact fun L wx hS hcl hrd => cf wx hS
                 simp only [Act.put,St.pu]))
            refine St.step_last ?_
            intro L wx hS _
            clear hpw
            clear cf hcell
            go_wp2_with fail
            go_roundw
            case rel => exact ⟨k + 1,by omega,by go_num,HS,HF2,hbw.trans (hS.mono hz)⟩
            case measure => simp [intOf]; omega
    · obtain rfl : k = n:=by omega
      have hRt : R = true:=by
        rw [<- HR.out,HN.out]
        have : (ses zs).drop zs.length = []:=by simp
        rw [this]; rfl
      subst hRt
      clear HR
      go_wp2_with fail
      go_ret
      exact ⟨rfl,(by exact bex0)⟩
end Go.Proofs.YthcmnkmfhgoddaaGreatDoor.Ss

namespace Go.Proofs.YthcmnkmfhgoddaaGreatDoor.Ss
open Go.RowKit Bnd
open Go.Proofs.YthcmnkmfhgoddaaGreatDoor.Od (Rep SP ArgP OwnP rv BoxR)
def NoteOut (W : World) (o : List Ses × Int) (e : Ending) (w' : World) : Prop:=∃ v' zs',e = .returned (.tuple #[v',.int .i64 o.2]) /\ ses zs' = o.1 /\ ArgZ w' v' zs' /\ NoP zs' /\ Below W.heap.size W w'
theorem NoteOut.none {W w' : World} {n : Int} (h : Below W.heap.size W w') : NoteOut W ([],n) (.returned (.tuple #[.slice none 0 0,.int .i64 n])) w':=⟨_,[],rfl,rfl,.nil,(fun z hz => by cases hz),h⟩
set_option maxHeartbeats 8000000 in
set_option maxRecDepth 100000 in
theorem rnote_any (v : Value) (zs : List Zs) (s : Ses) (p : Value) (w : World) (hv : ArgZ w v zs) (hp : NoP zs) (hl : zs.length <= 5000) (hsp : SP w w.heap.size p s.rep.ps) (f : FitZ s) :
  Calls Tryz.prog 118 #[v,sv (s,p)] w fun e w' => NoteOut w (noteS (ses zs) s) e w':=by
 obtain ⟨pA,pc,rfl⟩:=hsp.form
 have c1:=fun w h => rone_any (s,.slice pA s.rep.ps.length pc) w h f
 have kp : ∀ wx,Below w.heap.size w wx -> SP wx wx.heap.size (.slice pA s.rep.ps.length pc) s.rep.ps:=fun wx h => (hsp.below h).more h.size
 have kv : ∀ wx,Below w.heap.size w wx -> ArgZ wx v zs:=fun wx h => hv.keep h
 have B0:=BoxS.new w (s,.slice pA s.rep.ps.length pc)
 cases hf : fitsB s with
 | false =>
  rw [show noteS (ses zs) s = ([],80) by unfold noteS; rw [one_is,hf]; rfl]
  simp only [hf] at c1
  clear hf
  go_enter Tryz.func118,Tryz.ntmps118
  go_wp2_with fail
  refine (c1 _ (kp _ (by exact bex0))).mono ?_
  rintro e w1 ⟨rfl,b1⟩
  have hb1 : Below w.heap.size w w1:=(show Below w.heap.size w _ from (by exact bex0)).trans (b1.mono (by simp))
  clear b1
  go_wp2_with fail
  go_ret2
  exact NoteOut.none hb1
 | true =>
  have hps:=fits_ps hf
  simp only [hf] at c1
  have c2:=fun w h => rset_any v zs s pA pc true w h hp hps (by omega)
  have hlen : s.rep.ps.length = 0:=by rw [hps]; rfl
  rw [hlen] at c1 kp B0 ⊢
  have hn : noteS (ses zs) s = if (setS s true (ses zs)).length <= 64 then (setS s true (ses zs),0) else ([],6):=by
   unfold noteS
   rw [one_is,hf,if_pos rfl,set_true]
   rfl
  obtain ⟨l,hl0⟩ : ∃ l,setS s true (ses zs) = l:=⟨_,rfl⟩
  rw [hl0] at c2 hn
  rw [hn]
  clear hn hl0 hf hlen hps
  by_cases h64 : l.length <= 64
  ·rw [if_pos h64]
   go_enter Tryz.func118,Tryz.ntmps118
   go_wp2_with fail
   refine (c1 _ (kp _ (by exact bex0))).mono ?_
   rintro e w1 ⟨rfl,b1⟩
   have B1:=B0.keep b1
   have hb1 : Below w.heap.size w w1:=(show Below w.heap.size w _ from (by exact bex0)).trans (b1.mono (by simp))
   have hz1:=hb1.size
   clear b1 B0
   obtain ⟨p_0,⟨p_1,p_2,p_3,p_4,p_5,p_6,p_7⟩,p_8⟩:=_root_.id B1
   go_wp2_with fail
   refine (c2 _ (kv _ hb1)).mono ?_
   rintro e w2 ⟨v',zs',rfl,hs,ha,hq,b2⟩
   obtain ⟨A',c',rfl⟩:=ha.form
   have hb2 : Below w.heap.size w w2:=hb1.trans (b2.mono hz1)
   have hlz : zs'.length = l.length:=by rw [<- hs]; simp
   have g1 : ((zs'.length : Int) > 64) = False:=eq_false (by omega)
   have HA:=Lib.hid ha
   have HS:=Lib.hid hs
   clear p_0 p_1 p_2 p_3 p_4 p_5 p_6 p_7 p_8
   clear b2 ha hs hlz
   go_wp2_with fail
   go_ret2
   exact ⟨_,zs',rfl,HS.out,HA.out,hq,hb2⟩
  ·rw [if_neg h64]
   go_enter Tryz.func118,Tryz.ntmps118
   go_wp2_with fail
   refine (c1 _ (kp _ (by exact bex0))).mono ?_
   rintro e w1 ⟨rfl,b1⟩
   have B1:=B0.keep b1
   have hb1 : Below w.heap.size w w1:=(show Below w.heap.size w _ from (by exact bex0)).trans (b1.mono (by simp))
   have hz1:=hb1.size
   clear b1 B0
   obtain ⟨p_0,⟨p_1,p_2,p_3,p_4,p_5,p_6,p_7⟩,p_8⟩:=_root_.id B1
   go_wp2_with fail
   refine (c2 _ (kv _ hb1)).mono ?_
   rintro e w2 ⟨v',zs',rfl,hs,ha,hq,b2⟩
   obtain ⟨A',c',rfl⟩:=ha.form
   have hb2 : Below w.heap.size w w2:=hb1.trans (b2.mono hz1)
   have hlz : zs'.length = l.length:=by rw [<- hs]; simp
   have g1 : ((zs'.length : Int) > 64) = True:=eq_true (by omega)
   clear p_0 p_1 p_2 p_3 p_4 p_5 p_6 p_7 p_8
   clear b2 ha hs hlz
   go_wp2_with fail
   go_ret2
   exact NoteOut.none hb2
end Go.Proofs.YthcmnkmfhgoddaaGreatDoor.Ss

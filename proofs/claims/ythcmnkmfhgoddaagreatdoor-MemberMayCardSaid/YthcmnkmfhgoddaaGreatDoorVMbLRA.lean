/-
  Put,the document's: an order's text. Conditions: its texts at most 2^20 bytes; its numbers such as a program can hold.
  The laws' own three and live: live answers true. Condition: the library's variables hold what their types allow.
  Drawn regions whose operations hand on lists of entries and descriptors; an append of entries onto a list of no length and no room. Condition: at most 1,000,000 entries.
-/
import Derived.Test.YthcmnkmfhgoddaaGreatDoorVOdPCA
import Derived.Test.YthcmnkmfhgoddaaGreatDoorVMbMA
import Derived.Test.YthcmnkmfhgoddaaGreatDoorVMbOfA
import Derived.Test.YthcmnkmfhgoddaaGreatDoorVMbCSA
import Derived.Test.YthcmnkmfhgoddaaGreatDoorVRegA
namespace Go.Proofs.YthcmnkmfhgoddaaGreatDoor.Od
open Go.RowKit Bnd
open Go.Proofs.YthcmnkmfhgoddaaGreatDoor.M (tieT numT inR)
open Ds (nb nb_size own_new)
set_option maxHeartbeats 8000000 in
set_option maxRecDepth 100000 in
theorem rput_any (o : Ask) (w : World) (h : FitA o) : Calls Tryz.prog 21 #[av o] w fun e w' => e = .returned (str (putA o)) /\ Below w.heap.size w w':=by
  have hfew:=few_strS h
  have HT:=Lib.hid (texts_strS o)
  have c1 : ∀ n w,inR n -> Calls Tryz.prog 58 #[.int .i64 n] w fun e w' => e = .returned (.string (nb n)) /\ Below w.heap.size w w':=fun n w h => ((rnum_any n w h).mono fun e w2 h => ⟨h.1,h.2 ▸ Below.refl _ _⟩)
  have c2 : ∀ w,Calls Tryz.prog 59 #[.bool o.has] w fun e w' => e = .returned (.string (tb o.has)) /\ w = w':=fun w => rtruth_any o.has w
  obtain ⟨W1,hW1⟩ : ∃ W1,w.alloc (.cells #[.int .i64 o.kind,.int .i64 o.client,.int .i64 o.seq,.string o.key,.string o.til,.string o.val,.string o.old,.bool o.has,.int .i64 o.lim,.int .i64 o.id,.int .i64 o.node] 40) = W1:=⟨_,rfl⟩
  have B0 : BoxA w.heap.size o W1:=hW1 ▸ BoxA.new w o
  have hz1 : W1.heap.size = w.heap.size + 1:=by rw [<- hW1]; simp
  have hbw1 : Below w.heap.size w W1:=by rw [<- hW1]; exact (Below.refl _ w).alloc (Nat.le_refl _) _
  have call : ∀ n wx,inR n -> Below W1.heap.size W1 wx -> Calls Tryz.prog 58 #[.int .i64 n] wx fun e w' => e = .returned (.string (nb n)) /\ Below W1.heap.size W1 w':=by
    intro n wx hn hx
    refine (c1 n wx hn).mono ?_
    rintro e w' ⟨rfl,b⟩
    exact ⟨rfl,hx.trans (b.mono hx.size)⟩
  have call2 : ∀ wx,Below W1.heap.size W1 wx -> Calls Tryz.prog 59 #[.bool o.has] wx fun e w' => e = .returned (.string (tb o.has)) /\ Below W1.heap.size W1 w':=by
    intro wx hx
    refine (c2 wx).mono ?_
    rintro e w' ⟨rfl,rfl⟩
    exact ⟨rfl,hx⟩
  have hI1:=h.r.kind
  have hI2:=h.r.client
  have hI3:=h.r.seq
  have hI4:=h.r.lim
  have hI5:=h.r.id
  have hI6:=h.r.node
  have hbox : ∀ wx,Below W1.heap.size W1 wx -> BoxA w.heap.size o wx:=fun wx hx => BoxA.kept (N:=W1.heap.size) B0 (by omega) hx
  go_enter Tryz.func21,Tryz.ntmps21
  go_wp2
  try rw [hW1]
  refine St.wp_region_tail 29 (fun _ wx => Below W1.heap.size W1 wx) (by kernel_rfl) (by kernel_rfl) (by kernel_rfl) (by kernel_rfl) (by decide) (Below.refl _ _).drew ?_
  simp only [List.take,List.drop]
  repeat (first
    | (apply St.step_give
       · rfl
       · intro L wx hS hcl hrd
         obtain ⟨_,⟨d0,d1,d2,d3,d4,d5,d6,d7,d8,d9,d10⟩,_⟩:=hbox wx hS
         go_simp
         try with_reducible rfl
       · exact fun L wx hS => hS
       simp only [Act.put,St.pu])
    | (apply St.step_into
       · rfl
       · intro wx
         go_simp
         exact ⟨rfl,rfl⟩
       · first
         | exact fun L wx hS hcl hrd => call2 wx hS
         | exact fun L wx hS hcl hrd => call _ wx (by first | exact hI1 | exact hI2 | exact hI3 | exact hI4 | exact hI5 | exact hI6) hS
       simp only [Act.put,St.pu]))
  refine St.step_last ?_
  intro L wx hS _
  clear hI1 hI2 hI3 hI4 hI5 hI6 call call2
  have hz : W1.heap.size <= wx.heap.size:=hS.size
  have hown0:=own_new wx W1.heap.size (strS o) hz (by simp [strS])
  have hsl:=SL.of_own hown0
  have ct:=(rtie_any _ (strS o) _ hsl hfew).mono (R':=fun e w2 => e = .returned (str (M.tieT (texts (strS o)))) /\ Below (wx.alloc (.cells #[.string (nb o.kind),.string (nb o.client),.string (nb o.seq),.string o.key,.string o.til,.string o.val,.string o.old,.string (tb o.has),.string (nb o.lim),.string (nb o.id),.string (nb o.node)] 9)).heap.size (wx.alloc (.cells #[.string (nb o.kind),.string (nb o.client),.string (nb o.seq),.string o.key,.string o.til,.string o.val,.string o.old,.string (tb o.has),.string (nb o.lim),.string (nb o.id),.string (nb o.node)] 9)) w2) fun e w2 h => ⟨h.1,h.2 ▸ Below.refl _ _⟩
  rw [HT.out] at ct
  have hS1:=hS.alloc hz (.cells #[.string (nb o.kind),.string (nb o.client),.string (nb o.seq),.string o.key,.string o.til,.string o.val,.string o.old,.string (tb o.has),.string (nb o.lim),.string (nb o.id),.string (nb o.node)] 9)
  have ct2 : Calls Tryz.prog 57 #[.slice (some ⟨wx.heap.size,0,none⟩) 11 11] (wx.alloc (.cells #[.string (nb o.kind),.string (nb o.client),.string (nb o.seq),.string o.key,.string o.til,.string o.val,.string o.old,.string (tb o.has),.string (nb o.lim),.string (nb o.id),.string (nb o.node)] 9)) fun e w' => e = .returned (str (putA o)) /\ Below W1.heap.size W1 w':=by
    refine ct.mono ?_
    rintro e w' ⟨rfl,b⟩
    exact ⟨rfl,hS1.trans (b.mono hS1.size)⟩
  clear hown0 hW1 hsl ct hS1 hS hfew hbox
  go_wp2_with fail
  refine ct2.mono ?_
  rintro e w2 ⟨rfl,b2⟩
  go_wp2_with fail
  go_ret
  exact ⟨rfl,hbw1.trans (b2.mono (by omega))⟩
end Go.Proofs.YthcmnkmfhgoddaaGreatDoor.Od

namespace Go.Proofs.YthcmnkmfhgoddaaGreatDoor.Mb
open Go.RowKit Bnd
open Go.Proofs.YthcmnkmfhgoddaaGreatDoor.Ds (De SM ArgM dv BoxD)
open Go.Proofs.YthcmnkmfhgoddaaGreatDoor.Dp (SI Ph HA qv isP)
open Go.Proofs.YthcmnkmfhgoddaaGreatDoor.Od (av putA)
open Go.Proofs.YthcmnkmfhgoddaaGreatDoor.Ro (SE)
theorem three_any (w : World) : Calls Tryz.prog 39 #[] w (GaveX w dT):=by
 go_enter Tryz.func39,Tryz.ntmps39
 go_wp2_with fail
 refine bodyPost_ret (Ds.res_box Tryz.results39 rfl ((BoxD.new w dT (.slice (some ⟨w.heap.size + 1,0,none⟩) 3 3)).alloc _)) rfl ⟨_,rfl,.some (w.heap.size + 1) 0 3 dT.ms ⟨_,_,rfl,fun _ => ⟨w.heap.size + 1,0,rfl,by simp,fun i hi => ?_⟩⟩,(by exact bex0)⟩
 have hi3 : i < 3:=hi
 match i,hi3 with
 | 0,_ => exact ⟨by simp [go_sem,dT],by simp [go_sem,dT]⟩
 | 1,_ => exact ⟨by simp [go_sem,dT],by simp [go_sem,dT]⟩
 | 2,_ => exact ⟨by simp [go_sem,dT],by simp [go_sem,dT]⟩
def phT (s : Value) : Ph:=⟨dT,s,[],.slice none 0 0,[],.slice none 0 0,false,[],.slice none 0 0,0⟩
theorem phT_ha {w : World} {s : Value} (h : ArgM w s dT.ms) : HA w (phT s):=⟨h,.nil,.nil,(fun z hz => by cases hz),.nil,Dp.Room.nil,Dp.Room.nil⟩
theorem pT_is : isP pT = true:=by kernel_rfl
theorem fit_oA : Od.FitA oA:=⟨in_oA,by decide,by decide,by decide,by decide⟩
theorem se_two {W : World} {n : Nat} {T : ByteArray} (hn : n < W.heap.size) (h0 : W.cell? ⟨n,0,none⟩ = some (.int .i64 0)) (h1 : W.cell? ⟨n,1,none⟩ = some (.string ⟨#[120]⟩)) (h2 : W.cell? ⟨n,2,none⟩ = some (.int .i64 0)) (h3 : W.cell? ⟨n,3,none⟩ = some (.string T)) :
  SE W W.heap.size (.slice (some ⟨n,0,none⟩) 2 2) [(0,⟨#[120]⟩),(0,T)]:=by
 refine ⟨_,_,rfl,fun _ => ⟨n,0,rfl,hn,fun i hi => ?_⟩⟩
 have hi2 : i < 2:=hi
 match i,hi2 with
 | 0,_ => exact ⟨h0,h1⟩
 | 1,_ => exact ⟨h2,h3⟩
theorem si_three {W : World} {n : Nat} {a b c : Int} (hn : n < W.heap.size) (h0 : W.cell? ⟨n,0,none⟩ = some (.int .i64 a)) (h1 : W.cell? ⟨n,1,none⟩ = some (.int .i64 b)) (h2 : W.cell? ⟨n,2,none⟩ = some (.int .i64 c)) :
  SI W W.heap.size (.slice (some ⟨n,0,none⟩) 3 3) [a,b,c]:=by
 refine ⟨_,_,rfl,fun _ => ⟨n,0,rfl,hn,fun i hi => ?_⟩⟩
 have hi3 : i < 3:=hi
 match i,hi3 with
 | 0,_ => exact h0
 | 1,_ => exact h1
 | 2,_ => exact h2
set_option maxHeartbeats 16000000 in
set_option maxRecDepth 100000 in
theorem live_any (w : World) (hg : Good w) : Calls Tryz.prog 11 #[] w fun e w' => e = .returned (.bool true) /\ Below w.heap.size w w':=by
 obtain ⟨T,hT⟩ : ∃ T : ByteArray,T = ⟨(putA oA).toArray⟩:=⟨_,rfl⟩
 have hlen : (putA oA).length <= 500:=by
  have:=Od.putA_length fit_oA
  have e : (oA.key.size,oA.til.size,oA.val.size,oA.old.size) = (1,0,0,0):=rfl
  injection e with e1 e2
  injection e2 with e2 e3
  injection e3 with e3 e4
  omega
 have hTs : T.size <= 500:=by rw [hT]; simp [ByteArray.size]; exact hlen
 have cT:=three_any
 have cP : ∀ w,Calls Tryz.prog 21 #[.agg #[.int .i64 10,.int .i64 1,.int .i64 1,.string ⟨#[107]⟩,.string ⟨#[]⟩,.string ⟨#[]⟩,.string ⟨#[]⟩,.bool false,.int .i64 0,.int .i64 0,.int .i64 4]] w fun e w' => e = .returned (.string T) /\ Below w.heap.size w w':=fun w => by
  rw [hT]
  exact Od.rput_any oA w fit_oA
 have cO : ∀ s v w',ArgM w' s dT.ms -> SE w' w'.heap.size v [(0,⟨#[120]⟩),(0,T)] -> Good w' -> Calls Tryz.prog 13 #[dv dT s,v] w' (GaveX w' dF):=fun s v w' h1 h2 h3 => by
  have:=of_any dT s v [(0,⟨#[120]⟩),(0,T)] w' h1 dT_is h2 (by simp) (fun e he => by
   simp only [List.mem_cons,List.not_mem_nil,or_false] at he
   rcases he with rfl | rfl
   ·show (1 : Nat) <= _; omega
   ·show T.size <= _; omega) h3
  rw [hT,live_of rfl (by omega)] at this
  exact this
 have cG : ∀ v w',SI w' w'.heap.size v [5,9,7] -> Calls Tryz.prog 40 #[v] w' fun e w'' => e = .returned (.int .i64 7) /\ Below w'.heap.size w' w'':=fun v w' h => by
  have:=agreed_any v [5,9,7] w' h (by simp) (by decide)
  rw [live_ag] at this
  exact this
 have cC : ∀ s v w',ArgM w' s dF.ms -> SI w' w'.heap.size v [2,4,9] -> Calls Tryz.prog 41 #[dv dF s,v] w' fun e w'' => e = .returned (.int .i64 2) /\ Below w'.heap.size w' w'':=fun s v w' h1 h2 => by
  have:=count_any dF s v [2,4,9] w' h1.sm (by decide) h2 (by simp)
  rw [live_count] at this
  exact this
 have cM : ∀ s w',ArgM w' s dT.ms -> Good w' -> Calls Tryz.prog 17 #[qv (phT s),.agg #[.int .i64 11,.int .i64 1,.int .i64 1,.string ⟨#[107]⟩,.string ⟨#[]⟩,.string ⟨#[]⟩,.string ⟨#[]⟩,.bool false,.int .i64 0,.int .i64 2,.int .i64 0]] w' fun e w'' => e = .returned (.bool true) /\ Below w'.heap.size w' w'':=fun s w' h h2 => by
  have:=may_any (phT s) oR w' (phT_ha h) pT_is (by decide) (by decide) (by decide) h2
  rw [show Pt.mayP (phT s).pl oR = true from live_may] at this
  exact this
 clear hT hTs hlen
 go_enter Tryz.func11,Tryz.ntmps11
 go_wp2_with fail
 refine (cT _).mono ?_
 rintro e w1 ⟨s1,rfl,ha1,b1⟩
 obtain ⟨A1,c1,rfl⟩:=ha1.form
 go_wp2_with fail
 refine (cP _).mono ?_
 rintro e w2 ⟨rfl,b2⟩
 have hb2:=b1.trans (b2.mono b1.size)
 have ha2:=ha1.keep b2
 clear ha1 b1 b2 cP
 go_wp2_with fail
 have hx : Below w2.heap.size w2 (w2.alloc (.cells #[.int .i64 0,.string ⟨#[120]⟩,.int .i64 0,.string T] 47)):=(Below.refl _ w2).alloc (Nat.le_refl _) _
 refine (cO _ _ _ (ha2.keep hx) (se_two (by simp) (by simp [go_sem]) (by simp [go_sem]) (by simp [go_sem]) (by simp [go_sem])) (hg.below (hb2.trans (hx.mono hb2.size)))).mono ?_
 rintro e w3 ⟨s3,rfl,ha3,b3⟩
 obtain ⟨A3,c3,hs3⟩:=ha3.form
 rw [show dF.ms.length = 4 from rfl] at hs3
 subst hs3
 have hb3 : Below w.heap.size w w3:=hb2.trans ((hx.trans (b3.mono (by simp))).mono hb2.size)
 have B1:=BoxD.new w3 dF (.slice A3 4 c3)
 have h34 : Below w3.heap.size w3 (w3.alloc (.cells #[.int .i64 dF.id,.string dF.f,.string dF.t,.int .i64 dF.gen,.slice A3 4 c3,.int .i64 dF.next] 26)):=(Below.refl _ w3).alloc (Nat.le_refl _) _
 obtain ⟨W4,hW4⟩ : ∃ W4,w3.alloc (.cells #[.int .i64 dF.id,.string dF.f,.string dF.t,.int .i64 dF.gen,.slice A3 4 c3,.int .i64 dF.next] 26) = W4:=⟨_,rfl⟩
 rw [hW4] at B1 h34
 have hb4:=hb3.trans (h34.mono hb3.size)
 have ha4:=ha3.keep h34
 clear ha2 ha3 hx b3 hb2 hb3 h34 cO
 go_wp2_with fail
 try rw [hW4]
 clear hW4
 go_wp2_with fail
 have hx1 : Below W4.heap.size W4 (W4.alloc (.cells #[.int .i64 5,.int .i64 9,.int .i64 7] 2)):=(Below.refl _ W4).alloc (Nat.le_refl _) _
 refine (cG _ _ (si_three (by simp) (by simp [go_sem]) (by simp [go_sem]) (by simp [go_sem]))).mono ?_
 rintro e w5 ⟨rfl,b5⟩
 have h45:=hx1.trans (b5.mono hx1.size)
 have B5:=B1.keep h45
 have hb5:=hb4.trans (h45.mono hb4.size)
 have ha5:=ha4.keep h45
 clear b5 hx1 B1 hb4 ha4 h45 cG
 obtain ⟨q_0,⟨q_1,q_2,q_3,q_4,q_5,q_6⟩,q_7⟩:=_root_.id B5
 simp only [dF] at q_1 q_2 q_3 q_4 q_6
 go_wp2_with fail
 have hx2 : Below w5.heap.size w5 (w5.alloc (.cells #[.int .i64 2,.int .i64 4,.int .i64 9] 2)):=(Below.refl _ w5).alloc (Nat.le_refl _) _
 refine (cC _ _ _ (ha5.keep hx2) (si_three (by simp) (by simp [go_sem]) (by simp [go_sem]) (by simp [go_sem]))).mono ?_
 rintro e w6 ⟨rfl,b6⟩
 have h56:=hx2.trans (b6.mono hx2.size)
 have hb6:=hb5.trans (h56.mono hb5.size)
 clear b6 hx2 B5 hb5 ha5 h56 cC q_0 q_1 q_2 q_3 q_4 q_5 q_6 q_7
 go_wp2_with fail
 refine (cT _).mono ?_
 rintro e w7 ⟨s7,rfl,ha7,b7⟩
 obtain ⟨A7,c7,rfl⟩:=ha7.form
 have hb7:=hb6.trans (b7.mono hb6.size)
 have cM7:=cM _ _ ha7 (hg.below hb7)
 clear b7 hb6 cT cM hg
 go_wp2_with fail
 refine cM7.mono ?_
 rintro e w8 ⟨rfl,b8⟩
 have hb8:=hb7.trans (b8.mono hb7.size)
 clear b8 hb7 cM7
 go_wp2_with fail
 go_ret
 exact ⟨rfl,hb8⟩
end Go.Proofs.YthcmnkmfhgoddaaGreatDoor.Mb

namespace Go.Proofs.YthcmnkmfhgoddaaGreatDoor.Mb
open Go.RowKit Bnd
open Go.Proofs.YthcmnkmfhgoddaaGreatDoor.Ds (De SM ArgM dv)
open Go.Proofs.YthcmnkmfhgoddaaGreatDoor.Ro (SE ArgE OwnE ecells)
inductive Th
 | en (l : List En)
 | de (d : De)
def Th.holds : Th -> Value -> World -> Prop
 | .en l,v,w => ArgE w v l
 | .de d,v,w => ∃ s,v = dv d s /\ ArgM w s d.ms
theorem Th.keep : ∀ {p : Th} {v : Value} {w w' : World},p.holds v w -> Below w.heap.size w w' -> p.holds v w'
 | .en _,_,_,_,h,hb => ArgE.keep h hb
 | .de _,_,_,_,⟨s,h1,h2⟩,hb => ⟨s,h1,h2.keep hb⟩
structure RT (W0 : World) (K : Nat -> Option Th) (L : Nat -> Bool) (u : Nat -> Value) (wx : World) : Prop where
 low : Below W0.heap.size W0 wx
 at_ : ∀ k p,L k = true -> K k = some p -> p.holds (u k) wx
section
variable {W0 wx w' : World} {K : Nat -> Option Th} {j : Nat} {L : Nat -> Bool} {u : Nat -> Value}
theorem RT.call (h : RT W0 K L u wx) (b : Below wx.heap.size wx w') (v : Value) (hv : ∀ p,K j = some p -> p.holds v w') : RT W0 K (St.mark L j) (St.upd u j v) w' :=
 ⟨h.low.trans (b.mono h.low.size),fun k p h1 h2 => by
  by_cases hk : k = j
  ·subst hk
   rw [show St.upd u k v k = v by simp [St.upd]]
   exact hv p h2
  ·rw [show St.mark L j k = L k by simp [St.mark,hk]] at h1
   rw [show St.upd u j v k = u k by simp [St.upd,hk]]
   exact Th.keep (h.at_ k p h1 h2) b⟩
theorem RT.into (h : RT W0 K L u wx) (hj : K j = none) (b : Below wx.heap.size wx w') (v : Value) : RT W0 K (St.mark L j) (St.upd u j v) w' :=
 h.call b v fun p e => by rw [hj] at e; cases e
theorem RT.plain (h : RT W0 K L u wx) (hj : K j = none) (v : Value) : RT W0 K (St.mark L j) (St.upd u j v) wx:=h.into hj (Below.refl _ _) v
theorem RT.got {q : Th} {v : Value} (h : RT W0 K L u wx) (hj : K j = some q) (b : Below wx.heap.size wx w') (hv : q.holds v w') : RT W0 K (St.mark L j) (St.upd u j v) w' :=
 h.call b v fun p e => by rw [hj] at e; cases e; exact hv
theorem RT.start {w : World} (h : Below W0.heap.size W0 w) : RT W0 K (fun _ => false) u w.drew:=⟨h.drew,fun _ _ h => by cases h⟩
theorem RT.en {k : Nat} {l : List En} {v : Value} (h : RT W0 K L u wx) (hk : L k = true) (e : K k = some (.en l)) (hu : u k = v) : ArgE wx v l:=hu ▸ h.at_ k _ hk e
theorem RT.de {k : Nat} {d : De} {s : Value} (h : RT W0 K L u wx) (hk : L k = true) (e : K k = some (.de d)) (hu : u k = dv d s) : ArgM wx s d.ms:=by
 obtain ⟨s',h1,h2⟩:=h.at_ k _ hk e
 have e2 : dv d s' = dv d s:=h1.symm.trans hu
 have e3 : s' = s:=by
  injection e2 with e3
  simpa using e3
 exact e3 ▸ h2
end
end Go.Proofs.YthcmnkmfhgoddaaGreatDoor.Mb

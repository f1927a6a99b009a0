/-
  What is noted of what comes of an order that splits nothing: the program's note. Conditions: sessions by rising clients,without pairs,at most 4,000.
  What an order of a change of members is answered at once: the program's frozen,atOnce. Conditions: plots that may be; lengths at most 2^47; the library's variables hold what their types allow.
  THE PROGRAM's Apply AT CHANGES OF MEMBERS. Conditions: plots that may be,at most 4,000 sessions; lengths at most 2^47; the library's variables hold what their types allow.
-/
import Derived.Test.YthcmnkmfhgoddaaGreatDoorVDsDRA
import Derived.Test.YthcmnkmfhgoddaaGreatDoorVSsMNA
import Derived.Test.YthcmnkmfhgoddaaGreatDoorVPtBA
import Derived.Test.YthcmnkmfhgoddaaGreatDoorVOdPCA
import Derived.Test.YthcmnkmfhgoddaaGreatDoorVSsBFA
namespace Go.Proofs.YthcmnkmfhgoddaaGreatDoor.Pt
open Go.RowKit Bnd
open Go.Proofs.YthcmnkmfhgoddaaGreatDoor.Ds (De SM ArgM putT isD dv)
open Go.Proofs.YthcmnkmfhgoddaaGreatDoor.Od (Rep BoxR rv E0 av SP)
open Go.Proofs.YthcmnkmfhgoddaaGreatDoor.Dp (Ph BoxP qv HA HP)
open Go.Proofs.YthcmnkmfhgoddaaGreatDoor.Ss (Ses Zs ses SZ PZ NoP ArgZ noteS FitZ NoteOut BoxS sv)
structure RN (W0 : World) (n : Nat) (l : List Ses) (E : Int) (L : Nat -> Bool) (u : Nat -> Value) (wx : World) : Prop where
 low : L 14 = false -> Below W0.heap.size W0 wx
 got : L 7 = true -> L 14 = false -> ∃ v zs',u 7 = .tuple #[v,.int .i64 E] /\ ses zs' = l /\ ArgZ wx v zs' /\ NoP zs'
 fin : L 14 = true -> ∃ wy v zs',Below W0.heap.size W0 wy /\ wx = wy.setCell ⟨n,7,none⟩ v /\ u 7 = .tuple #[v,.int .i64 E] /\ ses zs' = l /\ ArgZ wy v zs' /\ NoP zs'
theorem RN.give {W0 wx : World} {n j : Nat} {l : List Ses} {E : Int} {L : Nat -> Bool} {u : Nat -> Value} (h : RN W0 n l E L u wx) (h7 : j ≠ 7) (h14 : j ≠ 14) (x : Value) : RN W0 n l E (St.mark L j) (St.upd u j x) wx:=by
 have e1 : St.mark L j 14 = L 14:=mark_ne h14
 have e2 : St.mark L j 7 = L 7:=mark_ne h7
 have e3 : St.upd u j x 7 = u 7:=by simp [St.upd,Ne.symm h7]
 exact ⟨by rw [e1]; exact h.low,by rw [e1,e2,e3]; exact h.got,by rw [e1,e3]; exact h.fin⟩
theorem oc_off {w : World} {n : Nat} {o : Oc} (h : BoxC n o w) (h1 : ∃ A k c,o.p.sm = .slice A k c) (h2 : ∃ A k c,o.p.sp = .slice A k c) (h3 : ∃ A k c,o.p.sz = .slice A k c) (h4 : ∃ A k c,o.p.se = .slice A k c) (h5 : ∃ A k c,o.rs = .slice A k c) (h6 : ∃ A k c,o.f.ri.sm = .slice A k c) (h7 : ∃ A k c,o.f.ri.sp = .slice A k c) (h8 : ∃ A k c,o.f.ri.sz = .slice A k c) (h9 : ∃ A k c,o.f.ri.se = .slice A k c) :
  ∀ i x0 x1 x2 x3,w.cell? ⟨n,i,none⟩ = some (.int .i64 x0) -> w.cell? ⟨n,i + 1,none⟩ = some (.int .i64 x1) -> w.cell? ⟨n,i + 2,none⟩ = some (.int .i64 x2) -> w.cell? ⟨n,i + 3,none⟩ = some (.int .i64 x3) -> False:=by
 obtain ⟨⟨d,sm,ps,sp,zs,sz,fr,ea,se,al⟩,r,rs,⟨sl,⟨d',sm',ps',sp',zs',sz',fr',ea',se',al'⟩,eaten⟩⟩:=o
 obtain ⟨A1,k1,c1,rfl⟩:=h1
 obtain ⟨A2,k2,c2,rfl⟩:=h2
 obtain ⟨A3,k3,c3,rfl⟩:=h3
 obtain ⟨A4,k4,c4,rfl⟩:=h4
 obtain ⟨A5,k5,c5,rfl⟩:=h5
 obtain ⟨A6,k6,c6,rfl⟩:=h6
 obtain ⟨A7,k7,c7,rfl⟩:=h7
 obtain ⟨A8,k8,c8,rfl⟩:=h8
 obtain ⟨A9,k9,c9,rfl⟩:=h9
 intro i x0 x1 x2 x3 g0 g1 g2 g3
 rw [h.cell] at g0 g1 g2 g3
 match i,g0,g1,g2,g3 with
 | 0,_,g,_,_ => cases g
 | 1,g,_,_,_ => cases g
 | 2,g,_,_,_ => cases g
 | 3,_,g,_,_ => cases g
 | 4,g,_,_,_ => cases g
 | 5,_,g,_,_ => cases g
 | 6,g,_,_,_ => cases g
 | 7,g,_,_,_ => cases g
 | 8,g,_,_,_ => cases g
 | 9,g,_,_,_ => cases g
 | 10,_,_,_,g => cases g
 | 11,_,_,g,_ => cases g
 | 12,_,g,_,_ => cases g
 | 13,g,_,_,_ => cases g
 | 14,g,_,_,_ => cases g
 | 15,g,_,_,_ => cases g
 | 16,g,_,_,_ => cases g
 | 17,_,g,_,_ => cases g
 | 18,g,_,_,_ => cases g
 | 19,g,_,_,_ => cases g
 | 20,_,g,_,_ => cases g
 | 21,g,_,_,_ => cases g
 | 22,_,g,_,_ => cases g
 | 23,g,_,_,_ => cases g
 | 24,g,_,_,_ => cases g
 | 25,g,_,_,_ => cases g
 | 26,g,_,_,_ => cases g
 | 27,_,_,g,_ => simp [arrBoxC] at g
 | 28,_,g,_,_ => simp [arrBoxC] at g
 | i + 29,g,_,_,_ => simp [arrBoxC] at g
theorem boxC_set7 {w : World} {n : Nat} {o : Oc} (h : BoxC n o w) (v : Value) (zs : List Zs) : BoxC n { o with p:={ o.p with sz:=v,zs:=zs } } (w.setCell ⟨n,7,none⟩ v):=by
 have:=heap_set (n:=n) (i:=7) (T:=158) (l:=(arrBoxC o).toList) (w:=w) (by rw [Array.toArray_toList]; exact h) v
 exact this
def NoteC (n : Nat) (o : Oc) (x : List Ses × Int) (w : World) (e : Ending) (w' : World) : Prop:=∃ v zs',e = .returned (.int .i64 x.2) /\ ses zs' = x.1 /\ ArgZ w' v zs' /\ NoP zs' /\ BoxC n { o with p:={ o.p with sz:=v,zs:=zs' } } w' /\ But [n] w w'
set_option maxHeartbeats 16000000 in
set_option maxRecDepth 100000 in
theorem note_any (n : Nat) (o : Oc) (cl sq : Int) (w : World) (hB : BoxC n o w) (hf : o.f.split = false) (hz : ArgZ w o.p.sz o.p.zs) (hp : NoP o.p.zs) (hl : o.p.zs.length <= 4000) (hsp : SP w w.heap.size o.rs o.r.ps) (fr : FitZ ⟨cl,sq,o.r⟩)
  (h1 : ∃ A k c,o.p.sm = .slice A k c) (h2 : ∃ A k c,o.p.sp = .slice A k c) (h4 : ∃ A k c,o.p.se = .slice A k c) (h6 : ∃ A k c,o.f.ri.sm = .slice A k c) (h7 : ∃ A k c,o.f.ri.sp = .slice A k c) (h8 : ∃ A k c,o.f.ri.sz = .slice A k c) (h9 : ∃ A k c,o.f.ri.se = .slice A k c) :
  Calls Tryz.prog 107 #[.pointer (some ⟨n,0,none⟩),.int .i64 cl,.int .i64 sq] w (NoteC n o (noteS (ses o.p.zs) ⟨cl,sq,o.r⟩) w):=by
 have h3 : ∃ A k c,o.p.sz = .slice A k c:=by obtain ⟨A,c,e⟩:=hz.form; exact ⟨A,_,c,e⟩
 have h5 : ∃ A k c,o.rs = .slice A k c:=by obtain ⟨A,c,e⟩:=hsp.form; exact ⟨A,_,c,e⟩
 have hoff:=fun wy v zs' (hB' : BoxC n o wy) (hv : ArgZ wy v zs') => argZ_off hv (n:=n) (oc_off hB' h1 h2 h3 h4 h5 h6 h7 h8 h9)
 have cN:=fun w' (hb : Below w.heap.size w w') => Ss.note_any o.p.sz o.p.zs ⟨cl,sq,o.r⟩ o.rs w' (hz.keep hb).sz hp hl ((hsp.below hb).more hb.size) fr
 obtain ⟨⟨l,E⟩,hlE⟩ : ∃ p,noteS (ses o.p.zs) ⟨cl,sq,o.r⟩ = p:=⟨_,rfl⟩
 rw [hlE] at cN ⊢
 have hn:=hB.lt
 obtain ⟨⟨d,sm,ps,sp,zs,sz,fr0,ea,se,al⟩,⟨rcode,rerr,rhas,rval,rps⟩,rs,⟨sl,ri,eaten⟩⟩:=o
 simp only at *
 subst hf
 obtain ⟨A1,k1,c1,rfl⟩:=h1
 obtain ⟨A2,k2,c2,rfl⟩:=h2
 obtain ⟨A3,k3,c3,rfl⟩:=h3
 obtain ⟨A4,k4,c4,rfl⟩:=h4
 obtain ⟨A5,k5,c5,rfl⟩:=h5
 obtain ⟨W0,hW0⟩ : ∃ W0,w.alloc (.cells #[.int .i64 cl,.int .i64 sq,.int .i64 rcode,.int .i64 rerr,.bool rhas,.string rval,.slice A5 k5 c5] 89) = W0:=⟨_,rfl⟩
 have hb0 : Below w.heap.size w W0:=hW0 ▸ (by exact bex0)
 have hz0:=hb0.size
 have BS : BoxS w.heap.size (⟨cl,sq,⟨rcode,rerr,rhas,rval,rps⟩⟩,.slice A5 k5 c5) W0:=hW0 ▸ BoxS.new w (⟨cl,sq,⟨rcode,rerr,rhas,rval,rps⟩⟩,.slice A5 k5 c5)
 have hbs : ∀ wx,Below W0.heap.size W0 wx -> BoxC n ⟨⟨d,.slice A1 k1 c1,ps,.slice A2 k2 c2,zs,.slice A3 k3 c3,fr0,ea,.slice A4 k4 c4,al⟩,⟨rcode,rerr,rhas,rval,rps⟩,.slice A5 k5 c5,⟨false,ri,eaten⟩⟩ wx /\ BoxS w.heap.size (⟨cl,sq,⟨rcode,rerr,rhas,rval,rps⟩⟩,.slice A5 k5 c5) wx:=fun wx hx => ⟨hB.keep (hb0.trans (hx.mono hb0.size)),BS.keep hx⟩
 have cM:=fun wx (hx : Below W0.heap.size W0 wx) => cN wx (hb0.trans (hx.mono hb0.size))
 obtain ⟨q0,q1,q2,q3,q4,q5,q6,q7,q8,q9,q10,q11,q12,q13,q14,q15,q16,q17,q18,q19,q20,q21,q22,q23,q24,q25,q26,q27,q28⟩:=hB.cells
 have qf:=hB.frozen
 clear BS cN hz hsp hlE
 go_enter Tryz.func107,Tryz.ntmps107
 go_wp2_with fail
 try rw [hW0]
 clear q0 q1 q2 q3 q4 q5 q6 q7 q8 q9 q10 q11 q12 q13 q14 q15 q16 q17 q18 q19 q20 q21 q22 q23 q24 q25 q26 q27 q28 qf
 refine St.wp_region_mixed (RN W0 n l E) (fun i x => i = 7 /\ ∃ A k c,x = .tuple #[.slice A k c,.int .i64 E]) (by kernel_rfl) (by kernel_rfl) (by kernel_rfl) ⟨fun _ => (Below.refl _ _).drew,fun h => (by cases h),fun h => (by cases h)⟩ ?_
 iterate 5
  apply St.mix_give
  ·rfl
  ·intro L u' wx hS hcl hrd hag
   skip
   go_simp
   try with_reducible rfl
  ·exact fun L u' wx hS => hS.give (by decide) (by decide) _
  simp only [Act.put,St.pu]
 apply St.mix_give
 ·rfl
 ·intro L u' wx hS hcl hrd hag
  have hn14:=St.not_yet hcl hrd 40 14 (by kernel_rfl)
  have hlow:=hS.low hn14
  obtain ⟨hc,-⟩:=hbs wx hlow
  have hc7:=hc.cell 7
  simp only [arrBoxC] at hc7
  go_simp
  try with_reducible rfl
 ·exact fun L u' wx hS => hS.give (by decide) (by decide) _
 simp only [Act.put,St.pu]
 apply St.mix_give
 ·rfl
 ·intro L u' wx hS hcl hrd hag
  have hn14:=St.not_yet hcl hrd 40 14 (by kernel_rfl)
  have hlow:=hS.low hn14
  obtain ⟨-,⟨_,⟨s0,s1,s2,s3,s4,s5,s6⟩,_⟩⟩:=hbs wx hlow
  go_simp
  try with_reducible rfl
 ·exact fun L u' wx hS => hS.give (by decide) (by decide) _
 simp only [Act.put,St.pu]
 refine St.mix_call (f:=191) (args:=#[.slice A3 k3 c3,sv (⟨cl,sq,⟨rcode,rerr,rhas,rval,rps⟩⟩,.slice A5 k5 c5)]) rfl ?_ ?_ ?_
 ·intro wx
  go_simp
  try with_reducible rfl
 ·intro L u' wx hS hcl hrd hag
  have hn14:=St.not_yet hcl hrd 40 14 (by kernel_rfl)
  have hlow:=hS.low hn14
  refine (cM wx hlow).mono ?_
  rintro e' w' ⟨v,zs',rfl,hs,ha,hq,b⟩
  obtain ⟨A',c',rfl⟩:=ha.form
  have e1 : St.mark L 7 14 = false:=by rw [mark_ne (by decide)]; exact hn14
  exact ⟨_,rfl,⟨rfl,_,_,_,rfl⟩,⟨fun _ => hlow.trans (b.mono hlow.size),fun _ _ => ⟨_,zs',by simp [St.upd],hs,ha,hq⟩,fun h => by rw [e1] at h; cases h⟩⟩
 rintro y ⟨-,A',k',c',rfl⟩
 simp only [Act.put,St.pu]
 iterate 6
  apply St.mix_give
  ·rfl
  ·intro L u' wx hS hcl hrd hag
   skip
   go_simp
   try with_reducible rfl
  ·exact fun L u' wx hS => hS.give (by decide) (by decide) _
  simp only [Act.put,St.pu]
 refine St.mix_skip rfl ?_ ?_
 ·intro L u' wx hS hcl hrd hag
  have h7:=St.before_ready hcl hrd 40 7 (by kernel_rfl)
  have h14:=hrd.1
  obtain ⟨v,zs',hu,hs,ha,hq⟩:=hS.got h7 h14
  have hlow:=hS.low h14
  have hu0:=hag 40 7 (by kernel_rfl)
  have hv : v = .slice A' k' c':=by
   rw [hu0] at hu
   simp [St.upd] at hu
   exact hu.symm
  subst hv
  obtain ⟨hc,-⟩:=hbs wx hlow
  have hc7:=hc.cell 7
  simp only [arrBoxC] at hc7
  have hff:=hc.frozen 7
  refine ⟨wx.setCell ⟨n,7,none⟩ (.slice A' k' c'),?_,⟨fun h => (by rw [show St.mark L 14 14 = true from mark_eq] at h; cases h),fun _ h => (by rw [show St.mark L 14 14 = true from mark_eq] at h; cases h),fun _ => ⟨wx,_,zs',hlow,rfl,by rw [show St.upd u' 14 undef 7 = u' 7 from rfl]; exact hu,hs,ha,hq⟩⟩⟩
  go_simp
  try with_reducible rfl
 simp only [Act.put]
 apply St.mix_give
 ·rfl
 ·intro L u' wx hS hcl hrd hag
  skip
  go_simp
  try with_reducible rfl
 ·exact fun L u' wx hS => hS.give (by decide) (by decide) _
 simp only [Act.put,St.pu]
 refine St.mix_last ?_
 intro L wx hS hall
 obtain ⟨wy,v,zs',hlow,rfl,hu,hs,ha,hq⟩:=hS.fin (hall 14 (by decide))
 have hv : v = .slice A' k' c':=by
  simp [St.upd] at hu
  exact hu.symm
 subst hv
 obtain ⟨hc,-⟩:=hbs wy hlow
 have hC2:=boxC_set7 hc (.slice A' k' c') zs'
 have hbut : But [n] w (wy.setCell ⟨n,7,none⟩ (.slice A' k' c')):=((But.refl [n] w).call (hb0.trans (hlow.mono hb0.size))).set (by simp) _
 have ha2:=argZ_but ha (fun m hm => by simp only [List.mem_singleton] at hm; subst hm; exact hoff wy _ _ hc ha) ((But.refl [n] wy).set (by simp) (n:=n) (i:=7) (.slice A' k' c'))
 generalize wy.setCell ⟨n,7,none⟩ (.slice A' k' c') = WF at hC2 hbut ha2 ⊢
 have q16:=hC2.cell 16
 simp only [arrBoxC] at q16
 have hlt:=hC2.lt
 clear hoff hbs cM hB hW0 hb0 hS hall hu hc ha hlow
 by_cases hE : E = 0
 ·subst hE
  go_wp2_with fail
  go_ret
  exact ⟨_,zs',rfl,hs,ha2,hq,hC2,hbut⟩
 ·have n1 : (E == 0) = false:=by simpa using hE
  have n2 : (E = 0) = False:=eq_false hE
  clear hE
  go_wp2_with fail
  go_ret
  exact ⟨_,zs',rfl,hs,ha2,hq,hC2,hbut⟩
end Go.Proofs.YthcmnkmfhgoddaaGreatDoor.Pt

namespace Go.Proofs.YthcmnkmfhgoddaaGreatDoor.Pt
open Go.RowKit Bnd
open Go.Proofs.YthcmnkmfhgoddaaGreatDoor.O (hasB)
open Go.Proofs.YthcmnkmfhgoddaaGreatDoor.Ds (De SM ArgM putT isD dv)
open Go.Proofs.YthcmnkmfhgoddaaGreatDoor.Od (Rep BoxR BoxA rv E0 av SP chkA keyedK)
open Go.Proofs.YthcmnkmfhgoddaaGreatDoor.Dp (Ph Pl BoxP qv HA HP isP)
open Go.Proofs.YthcmnkmfhgoddaaGreatDoor.Ss (Ses Zs ses SZ NoP askS riseB)
open Go.Proofs.YthcmnkmfhgoddaaGreatDoor.Mb (isCh)
set_option maxHeartbeats 8000000 in
set_option maxRecDepth 100000 in
theorem frozen_any (o : Ph) (k : Int) (w : World) (hp : HP w w.heap.size o) (hd : isD o.d = true) (h8 : k ≠ 8) (h12 : k ≠ 12) : Calls Tryz.prog 181 #[qv o,.int .i64 k] w fun e w' => e = .returned (rv (toldR 2 false (putT o.d)) (.slice none 0 0)) /\ Below w.heap.size w w':=by
 have cp:=fun w' (hb : Below w.heap.size w w') => put_is o.d o.sm w' ((hp.sm.below hb).more hb.size) hd
 obtain ⟨d,ps,zs,fr,ea,al,A,B,C,D,a,b,c,e,rfl⟩:=hp.open
 obtain ⟨nm,hnm⟩ : ∃ n,d.ms.length = n:=⟨_,rfl⟩
 obtain ⟨np,hnp⟩ : ∃ n,ps.length = n:=⟨_,rfl⟩
 obtain ⟨nz,hnz⟩ : ∃ n,zs.length = n:=⟨_,rfl⟩
 obtain ⟨ne,hne⟩ : ∃ n,ea.length = n:=⟨_,rfl⟩
 simp only at cp hd ⊢
 obtain ⟨TX,hTX⟩ : ∃ T,txt (putT d) = T:=⟨_,rfl⟩
 rw [show toldR 2 false (putT d) = (⟨2,0,false,txt (putT d),[]⟩ : Rep) from rfl]
 rw [hTX,hnm] at cp
 rw [hTX,hnm,hnp,hnz,hne]
 have k8 : (k == 8) = false:=by simpa using h8
 have k12 : (k == 12) = false:=by simpa using h12
 have R0:=BoxR.new (w.alloc (.cells #[.int .i64 d.id,.string d.f,.string d.t,.int .i64 d.gen,.slice A nm a,.int .i64 d.next,.slice B np b,.slice C nz c,.bool fr,.slice D ne e,.int .i64 al] 38)) Od.Rep.zero (.slice none 0 0)
 rw [World.size_alloc] at R0
 clear hp hd hTX h8 h12 hnm hnp hnz hne
 go_enter Tryz.func181,Tryz.ntmps181
 go_wp2_with fail
 refine (cp _ (by exact bex0)).mono ?_
 rintro e1 w1 ⟨rfl,b1⟩
 have R1:=R0.keep b1
 have hb1 : Below w.heap.size w w1:=(show Below w.heap.size w _ from (by exact bex0)).trans (b1.mono (by simp; omega))
 have hlt:=R1.1
 clear b1 R0 cp
 obtain ⟨q_0,⟨q_1,q_2,q_3,q_4,q_5⟩,q_6⟩:=_root_.id R1
 go_wp2_with fail
 exact bodyPost_ret (Od.res_BoxR Tryz.results181 rfl (BoxR.put R1 ⟨2,0,false,TX,[]⟩ (.slice none 0 0))) rfl ⟨rfl,(by exact bex0)⟩
def AtOut (w : World) (x : Option Rep) (e : Ending) (w' : World) : Prop:=(∃ A c,e = .returned (.tuple #[rv (x.getD Od.Rep.zero) (.slice A 0 c),.bool x.isSome])) /\ Below w.heap.size w w'
set_option maxHeartbeats 16000000 in
set_option maxRecDepth 100000 in
theorem atOnce_any (o : Ph) (x : Od.Ask) (w : World) (h : HA w o) (hd : isD o.d = true) (hr : riseB 0 (ses o.zs) = true) (hl : o.zs.length <= 4000) (hc : isCh x = true)
  (hk : x.key.size <= 140737488355328) (ht : x.til.size <= 140737488355328) (hv : x.val.size <= 140737488355328) (hg : Good w) :
  Calls Tryz.prog 104 #[qv o,av x] w (AtOut w (atOnceP o.pl x)):=by
 have hp:=h.hp
 have c1:=fun w' (hb : Below w.heap.size w w') => Od.check_any x w' hk ht hv (hg.below hb)
 have c2:=fun w' (hb : Below w.heap.size w w') => Ss.ask_any o.sz o.zs x.client x.seq w' ((hp.sz.below hb).more hb.size) hr h.np (by omega)
 have c3:=fun w' => Od.keyed_any x.kind w'
 have c4:=fun w' => Bnd.has_any o.d.f o.d.t x.key w'
 have c5:=fun w' (hb : Below w.heap.size w w') => moved_any o w' ((hp.below hb).more hb.size) hd
 have hcc : x.kind = 10 \/ x.kind = 11:=by unfold Mb.isCh at hc; simpa using hc
 have c6:=fun w' (hb : Below w.heap.size w w') => frozen_any o x.kind w' ((hp.below hb).more hb.size) hd (by omega) (by omega)
 have c7:=fun w' => bad_any 70 w'
 have k0 : (x.kind == 0) = false:=by rcases hcc with h | h <;> rw [h] <;> rfl
 have hky : keyedK x.kind = true:=by rcases hcc with h | h <;> rw [h] <;> rfl
 have hz0 : ¬ x.kind = 0:=by omega
 rw [hky] at c3
 have hfz : frozenP o.pl x.kind = toldR 2 false (putT o.d):=by unfold frozenP; rw [if_neg (by omega),if_neg (by omega)]; rfl
 have hat : atOnceP o.pl x = if chkA x = 0 then (if (askS (ses o.zs) x.client x.seq).2 = true then some (askS (ses o.zs) x.client x.seq).1 else if hasB (B o.d.f o.d.t) x.key.toList = false then some (toldR 1 false (putT o.d)) else if o.fr = true then some (toldR 2 false (putT o.d)) else none) else some (badR 70):=by
  unfold atOnceP
  rw [if_neg hz0,hky,hfz]
  simp only [true_and]
  rfl
 rw [hat]
 obtain ⟨E,hE⟩ : ∃ E,chkA x = E:=⟨_,rfl⟩
 obtain ⟨⟨rp,kn⟩,hrk⟩ : ∃ p,askS (ses o.zs) x.client x.seq = p:=⟨_,rfl⟩
 obtain ⟨H,hH⟩ : ∃ H,hasB (B o.d.f o.d.t) x.key.toList = H:=⟨_,rfl⟩
 obtain ⟨M1,hM1⟩ : ∃ r : Rep,toldR 1 false (putT o.d) = r:=⟨_,rfl⟩
 obtain ⟨M2,hM2⟩ : ∃ r : Rep,toldR 2 false (putT o.d) = r:=⟨_,rfl⟩
 rw [hE] at c1
 rw [hrk] at c2
 rw [hH] at c4
 rw [hM1] at c5
 rw [hM2] at c6
 rw [hE,hrk,hH,hM1,hM2]
 obtain ⟨XX,hXX⟩ : ∃ XX,(if E = 0 then (if (rp,kn).2 = true then some (rp,kn).1 else if H = false then some M1 else if o.fr = true then some M2 else none) else some (badR 70)) = XX:=⟨_,rfl⟩
 rw [hXX]
 have HX:=Lib.hid hXX
 clear hXX
 clear hat hfz hE hrk hH hM1 hM2 hr hg hk ht hv hcc hc hky hz0
 obtain ⟨k,client,seq,key,til,val,old,has,lim,id,node⟩:=x
 obtain ⟨d,ps,zs,fr,ea,al,A,B,C,D,a,b,c,e,rfl⟩:=hp.open
 obtain ⟨nm,hnm⟩ : ∃ n,d.ms.length = n:=⟨_,rfl⟩
 obtain ⟨np,hnp⟩ : ∃ n,ps.length = n:=⟨_,rfl⟩
 obtain ⟨nz,hnz⟩ : ∃ n,zs.length = n:=⟨_,rfl⟩
 obtain ⟨ne,hne⟩ : ∃ n,ea.length = n:=⟨_,rfl⟩
 simp only at *
 rw [hnz] at c2
 rw [hnm,hnp,hnz,hne] at c5 c6
 rw [hnm,hnp,hnz,hne]
 clear h hp hd hl hnm hnp hnz hne
 obtain ⟨W0,hW0⟩ : ∃ W0,((w.alloc (.cells #[.int .i64 d.id,.string d.f,.string d.t,.int .i64 d.gen,.slice A nm a,.int .i64 d.next,.slice B np b,.slice C nz c,.bool fr,.slice D ne e,.int .i64 al] 38)).alloc (.cells #[.int .i64 k,.int .i64 client,.int .i64 seq,.string key,.string til,.string val,.string old,.bool has,.int .i64 lim,.int .i64 id,.int .i64 node] 40)).alloc (.cells #[.int .i64 0,.int .i64 0,.bool false,.string ⟨#[]⟩,.slice none 0 0] 87) = W0:=⟨_,rfl⟩
 have BP : BoxP w.heap.size ⟨d,.slice A nm a,ps,.slice B np b,zs,.slice C nz c,fr,ea,.slice D ne e,al⟩ W0:=hW0 ▸ ((BoxP.new w ⟨d,.slice A nm a,ps,.slice B np b,zs,.slice C nz c,fr,ea,.slice D ne e,al⟩).alloc _).alloc _
 have BA : BoxA (w.heap.size + 1) ⟨k,client,seq,key,til,val,old,has,lim,id,node⟩ W0:=by
  rw [<- hW0,<- World.size_alloc w (.cells #[.int .i64 d.id,.string d.f,.string d.t,.int .i64 d.gen,.slice A nm a,.int .i64 d.next,.slice B np b,.slice C nz c,.bool fr,.slice D ne e,.int .i64 al] 38)]
  exact (BoxA.new _ ⟨k,client,seq,key,til,val,old,has,lim,id,node⟩).alloc _
 have BR : BoxR (w.heap.size + 2) Od.Rep.zero (.slice none 0 0) W0:=by
  have:=BoxR.new ((w.alloc (.cells #[.int .i64 d.id,.string d.f,.string d.t,.int .i64 d.gen,.slice A nm a,.int .i64 d.next,.slice B np b,.slice C nz c,.bool fr,.slice D ne e,.int .i64 al] 38)).alloc (.cells #[.int .i64 k,.int .i64 client,.int .i64 seq,.string key,.string til,.string val,.string old,.bool has,.int .i64 lim,.int .i64 id,.int .i64 node] 40)) Od.Rep.zero (.slice none 0 0)
  rw [World.size_alloc,World.size_alloc] at this
  rw [<- hW0]
  exact this
 have hb0 : Below w.heap.size w W0:=hW0 ▸ (by exact bex0)
 by_cases hE : E = 0
 ·subst hE
  have hE : True:=trivial
  clear hE
  obtain ⟨q_0,⟨q_1,q_2,q_3,q_4,q_5,q_6,q_7,q_8,q_9,q_10,q_11⟩,q_12⟩:=_root_.id BA
  go_enter Tryz.func104,Tryz.ntmps104
  go_wp2_with fail
  try rw [hW0]
  refine (c1 _ hb0).mono ?_
  rintro e' w1 ⟨rfl,b1⟩
  have BP1:=BP.keep b1
  have BA1:=BA.keep b1
  have BR1:=BR.keep b1
  have hb1:=hb0.trans (b1.mono hb0.size)
  have hlt:=BR1.1
  clear q_0 q_1 q_2 q_3 q_4 q_5 q_6 q_7 q_8 q_9 q_10 q_11 q_12
  clear b1 c1 BP BA BR hb0 hW0
  clear c7
  obtain ⟨q_0,⟨q_1,q_2,q_3,q_4,q_5,q_6,q_7,q_8,q_9,q_10,q_11⟩,q_12⟩:=_root_.id BA1
  obtain ⟨p_0,⟨p_1,p_2,p_3,p_4,p_5,p_6,p_7,p_8,p_9,p_10,p_11⟩,p_12⟩:=_root_.id BP1
  go_wp2_with fail
  refine (c2 _ hb1).mono ?_
  rintro e' w2 ⟨⟨A',c',rfl⟩,b2⟩
  have BP2:=BP1.keep b2
  have BA2:=BA1.keep b2
  have BR2:=BR1.keep b2
  have hb2:=hb1.trans (b2.mono hb1.size)
  have hlt2:=BR2.1
  have hz2:=hb2.size
  clear q_0 q_1 q_2 q_3 q_4 q_5 q_6 q_7 q_8 q_9 q_10 q_11 q_12
  clear p_0 p_1 p_2 p_3 p_4 p_5 p_6 p_7 p_8 p_9 p_10 p_11 p_12
  clear b2 c2 BP1 BA1 BR1 hb1 hlt
  obtain ⟨W3,hW3⟩ : ∃ W3,w2.alloc (.cells #[.int .i64 rp.code,.int .i64 rp.err,.bool rp.has,.string rp.val,.slice A' 0 c'] 87) = W3:=⟨_,rfl⟩
  have h23 : Below w2.heap.size w2 W3:=hW3 ▸ (Below.refl _ w2).alloc (Nat.le_refl _) _
  cases kn with
  | true =>
   clear c3 c4 c5 c6 BP2 BA2 hW3 h23
   obtain ⟨q_0,⟨q_1,q_2,q_3,q_4,q_5⟩,q_6⟩:=_root_.id BR2
   go_wp2_with fail
   exact bodyPost_ret (Od.res_BoxR_tmp Tryz.results104 rfl rfl ((BoxR.put BR2 rp (.slice A' 0 c')).alloc _)) rfl (by rw [show XX = _ from HX.out.symm]; exact ⟨⟨_,_,rfl⟩,(by exact bex0)⟩)
  | false =>
   have BP3:=BP2.keep h23
   have BA3:=BA2.keep h23
   have BR3:=BR2.keep h23
   have hb3:=hb2.trans (h23.mono hb2.size)
   obtain ⟨q_0,⟨q_1,q_2,q_3,q_4,q_5,q_6,q_7,q_8,q_9,q_10,q_11⟩,q_12⟩:=_root_.id BA3
   obtain ⟨p_0,⟨p_1,p_2,p_3,p_4,p_5,p_6,p_7,p_8,p_9,p_10,p_11⟩,p_12⟩:=_root_.id BP3
   go_wp2_with fail
   refine (c3 _).mono ?_
   rintro e' w4 ⟨rfl,rfl⟩
   go_wp2_with fail
   try rw [hW3]
   refine (c4 _).mono ?_
   rintro e' w5 ⟨rfl,b5⟩
   have BP5:=BP3.keep b5
   have BR5:=BR3.keep b5
   have BA5:=BA3.keep b5
   have hb5:=hb3.trans (b5.mono hb3.size)
   clear q_0 q_1 q_2 q_3 q_4 q_5 q_6 q_7 q_8 q_9 q_10 q_11 q_12
   clear p_0 p_1 p_2 p_3 p_4 p_5 p_6 p_7 p_8 p_9 p_10 p_11 p_12
   clear b5 BP3 BA3 BR3 hb3 c3 c4
   cases H with
   | false =>
    obtain ⟨p_0,⟨p_1,p_2,p_3,p_4,p_5,p_6,p_7,p_8,p_9,p_10,p_11⟩,p_12⟩:=_root_.id BP5
    go_wp2_with fail
    refine (c5 _ hb5).mono ?_
    rintro e' w6 ⟨rfl,b6⟩
    have BR6:=BR5.keep b6
    have hb6:=hb5.trans (b6.mono hb5.size)
    have hlt6:=BR6.1
    clear p_0 p_1 p_2 p_3 p_4 p_5 p_6 p_7 p_8 p_9 p_10 p_11 p_12
    clear b6 c5 c6 BP5 BA5 BR5 hb5 hlt2
    obtain ⟨q_0,⟨q_1,q_2,q_3,q_4,q_5⟩,q_6⟩:=_root_.id BR6
    go_wp2_with fail
    exact bodyPost_ret (Od.res_BoxR_tmp Tryz.results104 rfl rfl (BoxR.put BR6 M1 (.slice none 0 0))) rfl (by rw [show XX = _ from HX.out.symm]; exact ⟨⟨_,_,rfl⟩,(by exact bex0)⟩)
   | true =>
    cases fr with
    | true =>
     obtain ⟨p_0,⟨p_1,p_2,p_3,p_4,p_5,p_6,p_7,p_8,p_9,p_10,p_11⟩,p_12⟩:=_root_.id BP5
     obtain ⟨q_0,⟨q_1,q_2,q_3,q_4,q_5,q_6,q_7,q_8,q_9,q_10,q_11⟩,q_12⟩:=_root_.id BA5
     go_wp2_with fail
     refine (c6 _ hb5).mono ?_
     rintro e' w6 ⟨rfl,b6⟩
     have BR6:=BR5.keep b6
     have hb6:=hb5.trans (b6.mono hb5.size)
     have hlt6:=BR6.1
     clear p_0 p_1 p_2 p_3 p_4 p_5 p_6 p_7 p_8 p_9 p_10 p_11 p_12
     clear q_0 q_1 q_2 q_3 q_4 q_5 q_6 q_7 q_8 q_9 q_10 q_11 q_12
     clear b6 c5 c6 BP5 BA5 BR5 hb5 hlt2
     obtain ⟨q_0,⟨q_1,q_2,q_3,q_4,q_5⟩,q_6⟩:=_root_.id BR6
     go_wp2_with fail
     exact bodyPost_ret (Od.res_BoxR_tmp Tryz.results104 rfl rfl (BoxR.put BR6 M2 (.slice none 0 0))) rfl (by rw [show XX = _ from HX.out.symm]; exact ⟨⟨_,_,rfl⟩,(by exact bex0)⟩)
    | false =>
     obtain ⟨p_0,⟨p_1,p_2,p_3,p_4,p_5,p_6,p_7,p_8,p_9,p_10,p_11⟩,p_12⟩:=_root_.id BP5
     obtain ⟨q_0,⟨q_1,q_2,q_3,q_4,q_5⟩,q_6⟩:=_root_.id BR5
     clear c5 c6 BA5
     go_wp2_with fail
     exact bodyPost_ret (Od.res_BoxR_tmp Tryz.results104 rfl rfl (BoxR.put BR5 Od.Rep.zero (.slice none 0 0))) rfl (by rw [show XX = _ from HX.out.symm]; exact ⟨⟨_,_,rfl⟩,(by exact bex0)⟩)
 ·have HX2 : Hid (XX = some (badR 70)):=Lib.hid (by rw [<- HX.out,if_neg hE])
  clear HX
  have n1 : (E == 0) = false:=by simpa using hE
  have n2 : (E != 0) = true:=by simpa using hE
  have n3 : (E = 0) = False:=eq_false hE
  clear hE
  obtain ⟨q_0,⟨q_1,q_2,q_3,q_4,q_5,q_6,q_7,q_8,q_9,q_10,q_11⟩,q_12⟩:=_root_.id BA
  go_enter Tryz.func104,Tryz.ntmps104
  go_wp2_with fail
  try rw [hW0]
  refine (c1 _ hb0).mono ?_
  rintro e' w1 ⟨rfl,b1⟩
  have BP1:=BP.keep b1
  have BA1:=BA.keep b1
  have BR1:=BR.keep b1
  have hb1:=hb0.trans (b1.mono hb0.size)
  have hlt:=BR1.1
  clear q_0 q_1 q_2 q_3 q_4 q_5 q_6 q_7 q_8 q_9 q_10 q_11 q_12
  clear b1 c1 BP BA BR hb0 hW0
  go_wp2_with fail
  refine (c7 _).mono ?_
  rintro e' w2 ⟨rfl,b2⟩
  have BR2:=BR1.keep b2
  have hb2:=hb1.trans (b2.mono hb1.size)
  clear b2 BR1 BP1 BA1 hb1 c2 c3 c4 c5 c6 c7
  obtain ⟨r_0,⟨r_1,r_2,r_3,r_4,r_5⟩,r_6⟩:=_root_.id BR2
  go_wp2_with fail
  exact bodyPost_ret (Od.res_BoxR_tmp Tryz.results104 rfl rfl (BoxR.put BR2 (badR 70) (.slice none 0 0))) rfl (by rw [show XX = _ from HX2.out]; exact ⟨⟨_,_,rfl⟩,(by exact bex0)⟩)
end Go.Proofs.YthcmnkmfhgoddaaGreatDoor.Pt

namespace Go.Proofs.YthcmnkmfhgoddaaGreatDoor.Pt
open Go.RowKit Bnd
open Go.Proofs.YthcmnkmfhgoddaaGreatDoor.O (hasB)
open Go.Proofs.YthcmnkmfhgoddaaGreatDoor.Ds (De SM ArgM putT isD dv addD removeD)
open Go.Proofs.YthcmnkmfhgoddaaGreatDoor.Od (Rep BoxR BoxA rv E0 av SP chkA keyedK)
open Go.Proofs.YthcmnkmfhgoddaaGreatDoor.Dp (Ph Pl BoxP qv HA HP isP Room)
open Go.Proofs.YthcmnkmfhgoddaaGreatDoor.Ss (Ses Zs ses SZ NoP askS riseB noteS isS ArgZ)
open Go.Proofs.YthcmnkmfhgoddaaGreatDoor.Mb (isCh changeD)
def zP : Array Value:=#[.int .i64 0,.string ⟨#[]⟩,.string ⟨#[]⟩,.int .i64 0,.slice none 0 0,.int .i64 0,.slice none 0 0,.slice none 0 0,.bool false,.slice none 0 0,.int .i64 0]
theorem zP_ints (i : Nat) (x y : Int) (h0 : zP[i]? = some (.int .i64 x)) (h1 : zP[i + 1]? = some (.int .i64 y)) : x = 0:=by
 match i,h0,h1 with
 | 0,h0,_ => cases h0; rfl
 | 1,h0,_ => cases h0
 | 2,h0,_ => cases h0
 | 3,h0,_ => cases h0; rfl
 | 4,h0,_ => cases h0
 | 5,h0,_ => cases h0; rfl
 | 6,h0,_ => cases h0
 | 7,h0,_ => cases h0
 | 8,h0,_ => cases h0
 | 9,h0,_ => cases h0
 | 10,h0,_ => cases h0; rfl
 | i + 11,h0,_ => simp [zP] at h0
theorem zP_four {W : World} {n : Nat} {T : TypeId} (h : W.heap[n]? = some (.cells zP T (0,0))) : ∀ i x0 x1 x2 x3,W.cell? ⟨n,i,none⟩ = some (.int .i64 x0) -> W.cell? ⟨n,i + 1,none⟩ = some (.int .i64 x1) -> W.cell? ⟨n,i + 2,none⟩ = some (.int .i64 x2) -> W.cell? ⟨n,i + 3,none⟩ = some (.int .i64 x3) -> False:=by
 have e : ∀ i,W.cell? ⟨n,i,none⟩ = zP[i]?:=fun i => by simp [World.cell?,h]
 intro i x0 x1 x2 x3 g0 g1 g2 g3
 rw [e] at g0 g1 g2 g3
 match i,g0,g1,g2,g3 with
 | 0,_,g,_,_ => cases g
 | 1,g,_,_,_ => cases g
 | 2,g,_,_,_ => cases g
 | 3,_,g,_,_ => cases g
 | 4,g,_,_,_ => cases g
 | 5,_,g,_,_ => cases g
 | 6,g,_,_,_ => cases g
 | 7,g,_,_,_ => cases g
 | 8,g,_,_,_ => cases g
 | 9,g,_,_,_ => cases g
 | 10,_,g,_,_ => simp [zP] at g
 | i + 11,g,_,_,_ => simp [zP] at g
def zR : Array Value:=#[.int .i64 0,.int .i64 0,.bool false,.string ⟨#[]⟩,.slice none 0 0]
theorem zR_ints (i : Nat) (x y : Int) (h0 : zR[i]? = some (.int .i64 x)) (h1 : zR[i + 1]? = some (.int .i64 y)) : x = 0:=by
 match i,h0,h1 with
 | 0,h0,_ => cases h0; rfl
 | 1,h0,_ => cases h0; rfl
 | 2,h0,_ => cases h0
 | 3,h0,_ => cases h0
 | 4,h0,_ => cases h0
 | i + 5,h0,_ => simp [zR] at h0
theorem zR_four {W : World} {n : Nat} {T : TypeId} (h : W.heap[n]? = some (.cells zR T (0,0))) : ∀ i x0 x1 x2 x3,W.cell? ⟨n,i,none⟩ = some (.int .i64 x0) -> W.cell? ⟨n,i + 1,none⟩ = some (.int .i64 x1) -> W.cell? ⟨n,i + 2,none⟩ = some (.int .i64 x2) -> W.cell? ⟨n,i + 3,none⟩ = some (.int .i64 x3) -> False:=by
 have e : ∀ i,W.cell? ⟨n,i,none⟩ = zR[i]?:=fun i => by simp [World.cell?,h]
 intro i x0 x1 x2 x3 g0 g1 g2 g3
 rw [e] at g0 g1 g2 g3
 match i,g0,g1,g2,g3 with
 | 0,_,_,g,_ => cases g
 | 1,_,g,_,_ => cases g
 | 2,g,_,_,_ => cases g
 | 3,g,_,_,_ => cases g
 | 4,g,_,_,_ => cases g
 | i + 5,g,_,_,_ => simp [zR] at g
def zF : Array Value:=#[.bool false,.int .i64 0,.string ⟨#[]⟩,.string ⟨#[]⟩,.int .i64 0,.slice none 0 0,.int .i64 0,.slice none 0 0,.slice none 0 0,.bool false,.slice none 0 0,.int .i64 0,.int .i64 0]
theorem zF_ints (i : Nat) (x y : Int) (h0 : zF[i]? = some (.int .i64 x)) (h1 : zF[i + 1]? = some (.int .i64 y)) : x = 0:=by
 match i,h0,h1 with
 | 0,h0,_ => cases h0
 | 1,h0,_ => cases h0; rfl
 | 2,h0,_ => cases h0
 | 3,h0,_ => cases h0
 | 4,h0,_ => cases h0; rfl
 | 5,h0,_ => cases h0
 | 6,h0,_ => cases h0; rfl
 | 7,h0,_ => cases h0
 | 8,h0,_ => cases h0
 | 9,h0,_ => cases h0
 | 10,h0,_ => cases h0
 | 11,h0,_ => cases h0; rfl
 | 12,h0,_ => cases h0; rfl
 | i + 13,h0,_ => simp [zF] at h0
theorem zF_four {W : World} {n : Nat} {T : TypeId} (h : W.heap[n]? = some (.cells zF T (0,0))) : ∀ i x0 x1 x2 x3,W.cell? ⟨n,i,none⟩ = some (.int .i64 x0) -> W.cell? ⟨n,i + 1,none⟩ = some (.int .i64 x1) -> W.cell? ⟨n,i + 2,none⟩ = some (.int .i64 x2) -> W.cell? ⟨n,i + 3,none⟩ = some (.int .i64 x3) -> False:=by
 have e : ∀ i,W.cell? ⟨n,i,none⟩ = zF[i]?:=fun i => by simp [World.cell?,h]
 intro i x0 x1 x2 x3 g0 g1 g2 g3
 rw [e] at g0 g1 g2 g3
 match i,g0,g1,g2,g3 with
 | 0,g,_,_,_ => cases g
 | 1,_,g,_,_ => cases g
 | 2,g,_,_,_ => cases g
 | 3,g,_,_,_ => cases g
 | 4,_,g,_,_ => cases g
 | 5,g,_,_,_ => cases g
 | 6,_,g,_,_ => cases g
 | 7,g,_,_,_ => cases g
 | 8,g,_,_,_ => cases g
 | 9,g,_,_,_ => cases g
 | 10,g,_,_,_ => cases g
 | 11,_,_,g,_ => simp [zF] at g
 | 12,_,g,_,_ => simp [zF] at g
 | i + 13,g,_,_,_ => simp [zF] at g
theorem ask_ps {l : List Ses} (h : ∀ s ∈ l,s.rep.ps = []) (c q : Int) : (askS l c q).1.ps = []:=by
 unfold Ss.askS
 split
 ·rfl
 ·rename_i s hs
  (repeat' split) <;> first | rfl | exact h s (Ss.findS_some hs).1
theorem once_ps {p : Pl} {x : Od.Ask} {r : Rep} (h : ∀ s ∈ p.ss,s.rep.ps = []) (hr : atOnceP p x = some r) : r.ps = []:=by
 unfold atOnceP frozenP at hr
 (repeat' split at hr) <;> first | (cases hr; done) | (obtain rfl:=Option.some.inj hr; first | rfl | exact ask_ps h _ _)
theorem nop_ps {zs : List Zs} (h : NoP zs) : ∀ s ∈ ses zs,s.rep.ps = []:=fun s hs => by
 obtain ⟨z,hz,rfl⟩:=List.mem_map.1 hs
 exact (h z hz).1
theorem change_nodes (d : De) (x : Od.Ask) : ∀ m ∈ (changeD d x).1.ms,m.1 ≠ 0:=by
 unfold Mb.changeD
 split
 ·exact add_nodes d x.node
 ·exact remove_nodes d x.id
theorem noted_ch {x : Od.Ask} (h : isCh x = true) {c : Int} (hc : c ≠ 1) : notedB x.kind c = true:=by
 unfold notedB
 unfold Mb.isCh at h
 have h:=of_decide_eq_true h
 rcases h with h | h <;> rw [h] <;> simp [Od.readsK,hc]
theorem do_any (o : Ph) (x : Od.Ask) (w : World) (h : HA w o) (hd : isD o.d = true) (hc : isCh x = true) :
  Calls Tryz.prog 105 #[qv o,av x] w fun e w' => ∃ s,e = .returned (cv (turnOc o (changeD o.d x) s)) /\ ArgM w' s (changeD o.d x).1.ms /\ Below w.heap.size w w':=by
 unfold Mb.isCh at hc
 have hc:=of_decide_eq_true hc
 unfold Mb.changeD
 by_cases h10 : x.kind = 10
 ·rw [if_pos h10]
  exact do_add o x w h hd h10
 ·rw [if_neg h10]
  exact do_remove o x w h hd (by omega)
structure Held3 (w : World) (o : Ph) (W : World) : Prop where
 bp : BoxP w.heap.size o W
 z4 : W.heap[w.heap.size + 2]? = some (.cells zP 38 (0,0))
 z5 : W.heap[w.heap.size + 3]? = some (.cells zR 87 (0,0))
 z6 : W.heap[w.heap.size + 4]? = some (.cells zF 93 (0,0))
theorem Held3.keep {w W W' : World} {o : Ph} (h : Held3 w o W) (hb : Below W.heap.size W W') : Held3 w o W' :=
 ⟨h.bp.keep hb,(hb.block _ (Array.getElem?_eq_some_iff.1 h.z4).1).trans h.z4,(hb.block _ (Array.getElem?_eq_some_iff.1 h.z5).1).trans h.z5,(hb.block _ (Array.getElem?_eq_some_iff.1 h.z6).1).trans h.z6⟩
theorem Held3.but {w W W' : World} {o : Ph} {n : Nat} (h : Held3 w o W) (hb : But [n] W W') (hn : w.heap.size + 4 < n) : Held3 w o W' :=
 ⟨hb.boxP h.bp (by simp; omega),(hb.block _ (Array.getElem?_eq_some_iff.1 h.z4).1 (by simp; omega)).trans h.z4,(hb.block _ (Array.getElem?_eq_some_iff.1 h.z5).1 (by simp; omega)).trans h.z5,(hb.block _ (Array.getElem?_eq_some_iff.1 h.z6).1 (by simp; omega)).trans h.z6⟩
theorem zP_box {W : World} {n : Nat} (h : W.heap[n]? = some (.cells zP 38 (0,0))) : BoxP n Ph.zero W:=by
 have e : ∀ i,W.cell? ⟨n,i,none⟩ = zP[i]?:=fun i => by simp [World.cell?,h]
 have f : ∀ i,W.frozen? ⟨n,i,none⟩ = false:=fun i => by simp [World.frozen?,h]
 exact ⟨(Array.getElem?_eq_some_iff.1 h).1,⟨e 0,e 1,e 2,e 3,e 4,e 5,e 6,e 7,e 8,e 9,e 10⟩,f⟩
theorem zR_box {W : World} {n : Nat} (h : W.heap[n]? = some (.cells zR 87 (0,0))) : BoxR n Od.Rep.zero (.slice none 0 0) W:=by
 have e : ∀ i,W.cell? ⟨n,i,none⟩ = zR[i]?:=fun i => by simp [World.cell?,h]
 have f : ∀ i,W.frozen? ⟨n,i,none⟩ = false:=fun i => by simp [World.frozen?,h]
 exact ⟨(Array.getElem?_eq_some_iff.1 h).1,⟨e 0,e 1,e 2,e 3,e 4⟩,f⟩
theorem zF_box {W : World} {n : Nat} (h : W.heap[n]? = some (.cells zF 93 (0,0))) : BoxF n Fh.zero W:=by
 have e : ∀ i,W.cell? ⟨n,i,none⟩ = zF[i]?:=fun i => by simp [World.cell?,h]
 have f : ∀ i,W.frozen? ⟨n,i,none⟩ = false:=fun i => by simp [World.frozen?,h]
 exact ⟨(Array.getElem?_eq_some_iff.1 h).1,⟨e 0,e 1,e 2,e 3,e 4,e 5,e 6,e 7,e 8,e 9,e 10,e 11,e 12⟩,f⟩
theorem Held3.offM {w W : World} {o : Ph} (h : Held3 w o W) {s : Value} {ms : List Ds.Mem} (ha : ArgM W s ms) (hm : ∀ m ∈ ms,m.1 ≠ 0) : ∀ n ∈ [w.heap.size + 2,w.heap.size + 3,w.heap.size + 4],OffV n s:=by
 intro n hn
 simp only [List.mem_cons,List.not_mem_nil,or_false] at hn
 rcases hn with rfl | rfl | rfl
 ·exact argM_off ha h.z4 zP_ints hm
 ·exact argM_off ha h.z5 zR_ints hm
 ·exact argM_off ha h.z6 zF_ints hm
theorem Held3.offZ {w W : World} {o : Ph} (h : Held3 w o W) {s : Value} {zs : List Zs} (ha : ArgZ W s zs) : ∀ n ∈ [w.heap.size + 2,w.heap.size + 3,w.heap.size + 4],OffV n s:=by
 intro n hn
 simp only [List.mem_cons,List.not_mem_nil,or_false] at hn
 rcases hn with rfl | rfl | rfl
 ·exact argZ_off ha (zP_four h.z4)
 ·exact argZ_off ha (zR_four h.z5)
 ·exact argZ_off ha (zF_four h.z6)
theorem turn_form (O : Ph) (CH : De × Int) (s : Value) (w w3 : World) (ns : List Nat) (h : ArgM w O.sm O.d.ms) (hlow : ∀ n ∈ ns,w.heap.size <= n) (hb : Below w.heap.size w w3) (ha : ArgM w3 s CH.1.ms) (hoff : ∀ n ∈ ns,OffV n s) (hD : CH.2 = 0 -> isD CH.1 = true) :
  ∃ gd sm r,turnOc O CH s = ⟨⟨gd,sm,O.ps,O.sp,O.zs,O.sz,O.fr,O.ea,O.se,O.al⟩,r,.slice none 0 0,Fh.zero⟩ /\ ArgM w3 sm gd.ms /\ (∀ n ∈ ns,OffV n sm) /\ r.ps = [] /\ r.code ≠ 1 /\ r.val.size <= 600:=by
 unfold turnOc
 by_cases h0 : CH.2 = 0
 ·rw [if_pos h0]
  have:=putT_short (hD h0)
  exact ⟨CH.1,s,toldR 0 false (putT CH.1),rfl,ha,hoff,rfl,by show (0 : Int) ≠ 1; decide,by show (txt (putT CH.1)).size <= 600; simp [ByteArray.size]; omega⟩
 ·rw [if_neg h0]
  exact ⟨O.d,O.sm,badR CH.2,rfl,h.keep hb,fun n hn => argM_low h (hlow n hn),rfl,by show (4 : Int) ≠ 1; decide,by show (Od.E0 : ByteArray).size <= 600; decide⟩
theorem end_is {p q : Pl} {x : Od.Ask} {r : Rep} {l : List Ses} {E : Int} (hn : notedB x.kind r.code = true) (hN : noteS q.ss ⟨x.client,x.seq,r⟩ = (l,E)) : endP p x (q,r,Eff.zero) = if E = 0 then ({ q with ss:=l },r,Eff.zero) else (p,badR E,Eff.zero):=by
 unfold endP
 rw [if_pos hn]
 unfold noteP
 simp only [hN]
 split <;> rfl
set_option maxHeartbeats 32000000 in
set_option maxRecDepth 100000 in
theorem apply_any (o : Ph) (x : Od.Ask) (w : World) (h : HA w o) (hP : isP o.pl = true) (hc : isCh x = true)
  (hk : x.key.size <= 140737488355328) (ht : x.til.size <= 140737488355328) (hv : x.val.size <= 140737488355328) (hg : Good w) :
  Calls Tryz.prog 51 #[qv o,av x] w (ApplyOut w (applyC o.pl x)):=by
 have hp:=h.hp
 have hd : isD o.d = true:=Dp.isP_d hP
 have hiS : isS (ses o.zs) = true:=Dp.isP_s hP
 have hl : o.zs.length <= 64:=by have:=Dp.isS_len hiS; simpa using this
 have hrise : riseB 0 (ses o.zs) = true:=((Ss.isS_iff _).1 hiS).2
 have c1:=fun w' (hb : Below w.heap.size w w') => atOnce_any o x w' (h.keep hb) hd hrise (by omega) hc hk ht hv (hg.below hb)
 have c2:=fun w' (hb : Below w.heap.size w w') => do_any o x w' (h.keep hb) hd hc
 have c3:=fun c w' => isNoted_any x.kind c w'
 have c4:=fun n w' => bad_any n w'
 have hps:=fun r => once_ps (p:=o.pl) (x:=x) (r:=r) (nop_ps h.np)
 have hnt:=fun c => noted_ch (x:=x) hc (c:=c)
 have hnd:=change_nodes o.d x
 obtain ⟨CH,hCH⟩ : ∃ p,changeD o.d x = p:=⟨_,rfl⟩
 have hap : applyC o.pl x = match atOnceP o.pl x with | some r => (o.pl,r,Eff.zero) | none => endP o.pl x (becameP o.pl CH):=by unfold applyC; rw [show changeD o.pl.d x = CH from hCH]; cases atOnceP o.pl x <;> rfl
 rw [hap]
 rw [hCH] at c2 hnd
 obtain ⟨AT,hAT⟩ : ∃ a,atOnceP o.pl x = a:=⟨_,rfl⟩
 rw [hAT] at c1 ⊢
 have HD : Hid (CH.2 = 0 -> isD CH.1 = true):=Lib.hid (fun e0 => (Mb.change_is (d:=o.d) (x:=CH.1) (o:=x) (by rw [hCH,<- e0])).1)
 have HPS : Hid (∀ r,AT = some r -> r.ps = []):=Lib.hid (fun r e => hps r (by rw [hAT]; exact e))
 have HND:=Lib.hid hnd
 have HHA:=Lib.hid h
 have HNT:=Lib.hid hnt
 clear hap hCH hAT hps hnd hP hiS hrise hc hk ht hv hg hnt
 obtain ⟨W0,hW0⟩ : ∃ W0,((((w.alloc (.cells #[.int .i64 o.d.id,.string o.d.f,.string o.d.t,.int .i64 o.d.gen,o.sm,.int .i64 o.d.next,o.sp,o.sz,.bool o.fr,o.se,.int .i64 o.al] 38)).alloc (.cells #[.int .i64 x.kind,.int .i64 x.client,.int .i64 x.seq,.string x.key,.string x.til,.string x.val,.string x.old,.bool x.has,.int .i64 x.lim,.int .i64 x.id,.int .i64 x.node] 40)).alloc (.cells zP 38)).alloc (.cells zR 87)).alloc (.cells zF 93) = W0:=⟨_,rfl⟩
 have hz0 : W0.heap.size = w.heap.size + 5:=by rw [<- hW0]; simp
 have HB : Held3 w o W0:=by
  refine ⟨hW0 ▸ (((((BoxP.new w o).alloc _).alloc _).alloc _).alloc _),?_,?_,?_⟩
  ·rw [<- hW0,Below.heap_alloc _ _ _ (by simp),Below.heap_alloc _ _ _ (by simp)]
   have:=heap_alloc_new ((w.alloc (.cells #[.int .i64 o.d.id,.string o.d.f,.string o.d.t,.int .i64 o.d.gen,o.sm,.int .i64 o.d.next,o.sp,o.sz,.bool o.fr,o.se,.int .i64 o.al] 38)).alloc (.cells #[.int .i64 x.kind,.int .i64 x.client,.int .i64 x.seq,.string x.key,.string x.til,.string x.val,.string x.old,.bool x.has,.int .i64 x.lim,.int .i64 x.id,.int .i64 x.node] 40)) (.cells zP 38)
   simpa using this
  ·rw [<- hW0,Below.heap_alloc _ _ _ (by simp)]
   have:=heap_alloc_new (((w.alloc (.cells #[.int .i64 o.d.id,.string o.d.f,.string o.d.t,.int .i64 o.d.gen,o.sm,.int .i64 o.d.next,o.sp,o.sz,.bool o.fr,o.se,.int .i64 o.al] 38)).alloc (.cells #[.int .i64 x.kind,.int .i64 x.client,.int .i64 x.seq,.string x.key,.string x.til,.string x.val,.string x.old,.bool x.has,.int .i64 x.lim,.int .i64 x.id,.int .i64 x.node] 40)).alloc (.cells zP 38)) (.cells zR 87)
   simpa using this
  ·rw [<- hW0]
   have:=heap_alloc_new ((((w.alloc (.cells #[.int .i64 o.d.id,.string o.d.f,.string o.d.t,.int .i64 o.d.gen,o.sm,.int .i64 o.d.next,o.sp,o.sz,.bool o.fr,o.se,.int .i64 o.al] 38)).alloc (.cells #[.int .i64 x.kind,.int .i64 x.client,.int .i64 x.seq,.string x.key,.string x.til,.string x.val,.string x.old,.bool x.has,.int .i64 x.lim,.int .i64 x.id,.int .i64 x.node] 40)).alloc (.cells zP 38)).alloc (.cells zR 87)) (.cells zF 93)
   simpa using this
 have BA : BoxA (w.heap.size + 1) x W0:=by
  have:=(((BoxA.new (w.alloc (.cells #[.int .i64 o.d.id,.string o.d.f,.string o.d.t,.int .i64 o.d.gen,o.sm,.int .i64 o.d.next,o.sp,o.sz,.bool o.fr,o.se,.int .i64 o.al] 38)) x).alloc (.cells zP 38)).alloc (.cells zR 87)).alloc (.cells zF 93)
  rw [World.size_alloc] at this
  rw [<- hW0]
  exact this
 have hb0 : Below w.heap.size w W0:=hW0 ▸ (by exact bex0)
 obtain ⟨d,ps,zs,fr,ea,al,A,B,C,D,a,b,c,e,rfl⟩:=hp.open
 obtain ⟨k,client,seq,key,til,val,old,has,lim,id,node⟩:=x
 obtain ⟨nm,hnm⟩ : ∃ n,d.ms.length = n:=⟨_,rfl⟩
 obtain ⟨np,hnp⟩ : ∃ n,ps.length = n:=⟨_,rfl⟩
 obtain ⟨nz,hnz⟩ : ∃ n,zs.length = n:=⟨_,rfl⟩
 obtain ⟨ne,hne⟩ : ∃ n,ea.length = n:=⟨_,rfl⟩
 rw [hnm,hnp,hnz,hne] at c1 c2 HB HHA hW0 ⊢
 simp only [zP,zR,zF] at hW0
 clear h hp hnm hnp hnz hne
 have BP:=HB.bp
 obtain ⟨p_0,⟨p_1,p_2,p_3,p_4,p_5,p_6,p_7,p_8,p_9,p_10,p_11⟩,p_12⟩:=_root_.id BP
 obtain ⟨q_0,⟨q_1,q_2,q_3,q_4,q_5,q_6,q_7,q_8,q_9,q_10,q_11⟩,q_12⟩:=_root_.id BA
 go_enter Tryz.func51,Tryz.ntmps51
 go_wp2_with fail
 try rw [hW0]
 refine (c1 _ hb0).mono ?_
 rintro e' w1 ⟨⟨A',c',rfl⟩,b1⟩
 have HB1:=HB.keep b1
 have BA1:=BA.keep b1
 have hb1:=hb0.trans (b1.mono hb0.size)
 have hs1 : w.heap.size + 5 <= w1.heap.size:=by have:=b1.size; omega
 clear p_0 p_1 p_2 p_3 p_4 p_5 p_6 p_7 p_8 p_9 p_10 p_11 p_12
 clear q_0 q_1 q_2 q_3 q_4 q_5 q_6 q_7 q_8 q_9 q_10 q_11 q_12
 clear b1 c1 HB BA hb0 hW0 BP
 cases AT with
 | some rp =>
  simp only [Option.getD_some,Option.isSome_some]
  obtain ⟨W2,hW2⟩ : ∃ W2,w1.alloc (.cells #[.int .i64 rp.code,.int .i64 rp.err,.bool rp.has,.string rp.val,.slice A' 0 c'] 87) = W2:=⟨_,rfl⟩
  have BR7 : BoxR w1.heap.size rp (.slice A' 0 c') W2:=hW2 ▸ BoxR.new w1 rp (.slice A' 0 c')
  have h12 : Below w1.heap.size w1 W2:=hW2 ▸ (Below.refl _ w1).alloc (Nat.le_refl _) _
  have HB2:=HB1.keep h12
  have hb2:=hb1.trans (h12.mono hb1.size)
  have BP:=HB2.bp
  have hB4:=zP_box HB2.z4
  have hB5:=zR_box HB2.z5
  have hB6:=zF_box HB2.z6
  clear c2 c3 c4 BA1 HB1 hb1 HNT HND
  go_wp2_with fail
  try rw [hW2]
  clear hW2 h12
  go_wp2_with fail
  refine St.wp_region_mixed (R3 W2 (w.heap.size + 2) (w.heap.size + 3) (w.heap.size + 4) 3 4 5 ⟨d,.slice A nm a,ps,.slice B np b,zs,.slice C nz c,fr,ea,.slice D ne e,al⟩ rp (.slice A' 0 c') Fh.zero) (fun _ _ => False) (by kernel_rfl) (by kernel_rfl) (by kernel_rfl) (R3.start W2 hB4 hB5 hB6) ?_
  apply St.mix_give
  ·rfl
  ·intro L u' wx hS hcl hrd hag
   obtain ⟨_,⟨d0,d1,d2,d3,d4,d5,d6,d7,d8,d9,d10⟩,_⟩:=hS.but.boxP BP (by simp)
   go_simp
   try with_reducible rfl
  ·exact fun L u' wx hS => hS.give (by decide) (by decide) (by decide) _
  simp only [Act.put,St.pu]
  apply St.mix_give
  ·rfl
  ·intro L u' wx hS hcl hrd hag
   obtain ⟨_,⟨d0,d1,d2,d3,d4⟩,_⟩:=hS.but.boxR BR7 (by simp; omega)
   go_simp
   try with_reducible rfl
  ·exact fun L u' wx hS => hS.give (by decide) (by decide) (by decide) _
  simp only [Act.put,St.pu]
  apply St.mix_give
  ·rfl
  ·intro L u' wx hS hcl hrd hag
   skip
   go_simp
   try with_reducible rfl
  ·exact fun L u' wx hS => hS.give (by decide) (by decide) (by decide) _
  simp only [Act.put,St.pu]
  refine St.mix_skip rfl ?_ ?_
  ·intro L u' wx hS hcl hrd hag
   have hbx:=hS.b4
   rw [hrd.1] at hbx
   obtain ⟨z0,⟨z1,z2,z3,z4,z5,z6,z7,z8,z9,z10,z11⟩,zf⟩:=hbx
   refine ⟨putP wx (w.heap.size + 2) ⟨d,.slice A nm a,ps,.slice B np b,zs,.slice C nz c,fr,ea,.slice D ne e,al⟩,?_,hS.put4 (by decide) (by decide) (by omega) (by omega) _⟩
   go_simp
   first | with_reducible rfl | rfl | skip
  simp only [Act.put]
  refine St.mix_skip rfl ?_ ?_
  ·intro L u' wx hS hcl hrd hag
   have hbx:=hS.b5
   rw [hrd.1] at hbx
   obtain ⟨z0,⟨z1,z2,z3,z4,z5⟩,zf⟩:=hbx
   refine ⟨putR wx (w.heap.size + 3) rp (.slice A' 0 c'),?_,hS.put5 (by decide) (by decide) (by omega) (by omega) _⟩
   go_simp
   first | with_reducible rfl | rfl | skip
  simp only [Act.put]
  refine St.mix_skip rfl ?_ ?_
  ·intro L u' wx hS hcl hrd hag
   have hbx:=hS.b6
   rw [hrd.1] at hbx
   obtain ⟨z0,⟨z1,z2,z3,z4,z5,z6,z7,z8,z9,z10,z11,z12,z13⟩,zf⟩:=hbx
   refine ⟨putF wx (w.heap.size + 4) Fh.zero,?_,hS.put6 (by decide) (by decide) (by omega) (by omega) _⟩
   go_simp
   first | with_reducible rfl | rfl | skip
  simp only [Act.put]
  refine St.mix_last ?_
  intro L wx hS hall
  obtain ⟨hbut,hX4,hX5,hX6⟩:=hS.fin (hall 3 (by decide)) (hall 4 (by decide)) (hall 5 (by decide))
  have hbw:=hbut.below hb2.size (by simp)
  go_wp2_with fail
  refine bodyPost_ret (res_three Tryz.results51 rfl rfl rfl hX4 hX5 hX6) rfl ⟨⟨⟨d,.slice A nm a,ps,.slice B np b,zs,.slice C nz c,fr,ea,.slice D ne e,al⟩,rp,.slice A' 0 c',Fh.zero⟩,rfl,rfl,HHA.out.keep (hb2.trans hbw),HA.zero _,⟨A',c',by rw [HPS.out rp rfl]; rfl⟩,hb2.trans hbw⟩
 | none =>
  simp only [Option.getD_none,Option.isSome_none]
  obtain ⟨W2,hW2⟩ : ∃ W2,w1.alloc (.cells #[.int .i64 0,.int .i64 0,.bool false,.string ⟨#[]⟩,.slice A' 0 c'] 87) = W2:=⟨_,rfl⟩
  have h12 : Below w1.heap.size w1 W2:=hW2 ▸ (Below.refl _ w1).alloc (Nat.le_refl _) _
  have HB2:=HB1.keep h12
  have BA2:=BA1.keep h12
  have hb2:=hb1.trans (h12.mono hb1.size)
  have hs2 : w.heap.size + 5 <= W2.heap.size:=by have:=h12.size; omega
  have BP2:=HB2.bp
  obtain ⟨p_0,⟨p_1,p_2,p_3,p_4,p_5,p_6,p_7,p_8,p_9,p_10,p_11⟩,p_12⟩:=_root_.id BP2
  obtain ⟨q_0,⟨q_1,q_2,q_3,q_4,q_5,q_6,q_7,q_8,q_9,q_10,q_11⟩,q_12⟩:=_root_.id BA2
  clear HB1 BA1 hb1
  go_wp2_with fail
  try rw [hW2]
  clear hW2 h12 hs1
  go_wp2_with fail
  refine (c2 _ hb2).mono ?_
  rintro e' w3 ⟨s,rfl,ha,b3⟩
  have HB3:=HB2.keep b3
  have BA3:=BA2.keep b3
  have hb3:=hb2.trans (b3.mono hb2.size)
  have hs3 : w.heap.size + 5 <= w3.heap.size:=by have:=b3.size; omega
  clear p_0 p_1 p_2 p_3 p_4 p_5 p_6 p_7 p_8 p_9 p_10 p_11 p_12
  clear q_0 q_1 q_2 q_3 q_4 q_5 q_6 q_7 q_8 q_9 q_10 q_11 q_12
  clear c2 HB2 BA2 hb2 b3 BP2 hs2
  obtain ⟨gd,sm',r',hT,hsm,hoffM,hrps,hcode,hval⟩:=turn_form ⟨d,.slice A nm a,ps,.slice B np b,zs,.slice C nz c,fr,ea,.slice D ne e,al⟩ CH s w w3 [w.heap.size + 2,w.heap.size + 3,w.heap.size + 4] HHA.out.sm (fun n hn => by simp only [List.mem_cons,List.not_mem_nil,or_false] at hn; omega) hb3 ha (HB3.offM ha HND.out) HD.out
  obtain ⟨rcode,rerr,rhas,rval,rps⟩:=r'
  simp only at hrps hcode hval
  subst hrps
  obtain ⟨G,cg,rfl⟩:=hsm.form
  obtain ⟨ng,hng⟩ : ∃ n,gd.ms.length = n:=⟨_,rfl⟩
  rw [hng] at hT hsm hoffM
  have HT:=Lib.hid hT
  rw [show turnOc ⟨d,.slice A nm a,ps,.slice B np b,zs,.slice C nz c,fr,ea,.slice D ne e,al⟩ CH s = (⟨⟨gd,.slice G ng cg,ps,.slice B np b,zs,.slice C nz c,fr,ea,.slice D ne e,al⟩,⟨rcode,rerr,rhas,rval,[]⟩,.slice none 0 0,⟨false,⟨⟨0,⟨#[]⟩,⟨#[]⟩,0,[],0⟩,.slice none 0 0,[],.slice none 0 0,[],.slice none 0 0,false,[],.slice none 0 0,0⟩,0⟩⟩ : Oc) from hT]
  have cn : ∀ w',Calls Tryz.prog 106 #[.int .i64 k,.int .i64 rcode] w' fun e w'' => e = .returned (.bool true) /\ w' = w'':=fun w' => by
   have:=c3 rcode w'
   rw [HNT.out rcode hcode] at this
   exact this
  have BC0 : BoxC w3.heap.size Oc.zero (w3.alloc (.cells #[.int .i64 0,.string ⟨#[]⟩,.string ⟨#[]⟩,.int .i64 0,.slice none 0 0,.int .i64 0,.slice none 0 0,.slice none 0 0,.bool false,.slice none 0 0,.int .i64 0,.int .i64 0,.int .i64 0,.bool false,.string ⟨#[]⟩,.slice none 0 0,.bool false,.int .i64 0,.string ⟨#[]⟩,.string ⟨#[]⟩,.int .i64 0,.slice none 0 0,.int .i64 0,.slice none 0 0,.slice none 0 0,.bool false,.slice none 0 0,.int .i64 0,.int .i64 0] 158)):=BoxC.new w3 Oc.zero
  obtain ⟨W4,hW4⟩ : ∃ W4,putL (w3.alloc (.cells #[.int .i64 0,.string ⟨#[]⟩,.string ⟨#[]⟩,.int .i64 0,.slice none 0 0,.int .i64 0,.slice none 0 0,.slice none 0 0,.bool false,.slice none 0 0,.int .i64 0,.int .i64 0,.int .i64 0,.bool false,.string ⟨#[]⟩,.slice none 0 0,.bool false,.int .i64 0,.string ⟨#[]⟩,.string ⟨#[]⟩,.int .i64 0,.slice none 0 0,.int .i64 0,.slice none 0 0,.slice none 0 0,.bool false,.slice none 0 0,.int .i64 0,.int .i64 0] 158)) w3.heap.size 0 (arrBoxC (⟨⟨gd,.slice G ng cg,ps,.slice B np b,zs,.slice C nz c,fr,ea,.slice D ne e,al⟩,⟨rcode,rerr,rhas,rval,[]⟩,.slice none 0 0,⟨false,⟨⟨0,⟨#[]⟩,⟨#[]⟩,0,[],0⟩,.slice none 0 0,[],.slice none 0 0,[],.slice none 0 0,false,[],.slice none 0 0,0⟩,0⟩⟩ : Oc)).toList = W4:=⟨_,rfl⟩
  have BC4 : BoxC w3.heap.size (⟨⟨gd,.slice G ng cg,ps,.slice B np b,zs,.slice C nz c,fr,ea,.slice D ne e,al⟩,⟨rcode,rerr,rhas,rval,[]⟩,.slice none 0 0,⟨false,⟨⟨0,⟨#[]⟩,⟨#[]⟩,0,[],0⟩,.slice none 0 0,[],.slice none 0 0,[],.slice none 0 0,false,[],.slice none 0 0,0⟩,0⟩⟩ : Oc) W4:=hW4 ▸ BC0.put' (⟨⟨gd,.slice G ng cg,ps,.slice B np b,zs,.slice C nz c,fr,ea,.slice D ne e,al⟩,⟨rcode,rerr,rhas,rval,[]⟩,.slice none 0 0,⟨false,⟨⟨0,⟨#[]⟩,⟨#[]⟩,0,[],0⟩,.slice none 0 0,[],.slice none 0 0,[],.slice none 0 0,false,[],.slice none 0 0,0⟩,0⟩⟩ : Oc)
  have h34 : Below w3.heap.size w3 W4:=hW4 ▸ putL_below ((Below.refl _ w3).alloc (Nat.le_refl _) _) (Nat.le_refl _)
  have HB4:=HB3.keep h34
  have BA4:=BA3.keep h34
  have hb4:=hb3.trans (h34.mono hb3.size)
  have hs4 : w3.heap.size < W4.heap.size:=BC4.lt
  have HSM:=Lib.hid (hsm.keep h34)
  have HSM2:=Lib.hid hsm
  have cN:=note_any w3.heap.size (⟨⟨gd,.slice G ng cg,ps,.slice B np b,zs,.slice C nz c,fr,ea,.slice D ne e,al⟩,⟨rcode,rerr,rhas,rval,[]⟩,.slice none 0 0,⟨false,⟨⟨0,⟨#[]⟩,⟨#[]⟩,0,[],0⟩,.slice none 0 0,[],.slice none 0 0,[],.slice none 0 0,false,[],.slice none 0 0,0⟩,0⟩⟩ : Oc) client seq W4 BC4 rfl (HHA.out.sz.keep hb4) HHA.out.np (Nat.le_trans hl (by decide)) (SP.nil _ _) ⟨by show rval.size <= _; omega,by show (0 : Nat) <= _; omega,fun p hp => by cases hp⟩ ⟨_,_,_,rfl⟩ ⟨_,_,_,rfl⟩ ⟨_,_,_,rfl⟩ ⟨_,_,_,rfl⟩ ⟨_,_,_,rfl⟩ ⟨_,_,_,rfl⟩ ⟨_,_,_,rfl⟩
  obtain ⟨⟨l2,E2⟩,hN⟩ : ∃ p,noteS (ses zs) ⟨client,seq,⟨rcode,rerr,rhas,rval,[]⟩⟩ = p:=⟨_,rfl⟩
  have hend:=end_is (p:=Ph.pl ⟨d,.slice A nm a,ps,.slice B np b,zs,.slice C nz c,fr,ea,.slice D ne e,al⟩) (q:={ Ph.pl ⟨d,.slice A nm a,ps,.slice B np b,zs,.slice C nz c,fr,ea,.slice D ne e,al⟩ with d:=gd }) (x:=⟨k,client,seq,key,til,val,old,has,lim,id,node⟩) (r:=(⟨rcode,rerr,rhas,rval,[]⟩ : Rep)) (HNT.out rcode hcode) hN
  have hbec : becameP (Ph.pl ⟨d,.slice A nm a,ps,.slice B np b,zs,.slice C nz c,fr,ea,.slice D ne e,al⟩) CH = ({ Ph.pl ⟨d,.slice A nm a,ps,.slice B np b,zs,.slice C nz c,fr,ea,.slice D ne e,al⟩ with d:=gd },(⟨rcode,rerr,rhas,rval,[]⟩ : Rep),Eff.zero):=by
   rw [<- turnOc_out _ CH s,HT.out]; rfl
  rw [<- hbec] at hend
  have HEND:=Lib.hid hend
  have HOFF:=Lib.hid hoffM
  simp only at cN
  rw [hN] at cN
  clear hT hend hbec hN hng hsm ha hcode hval c3 HB3 BA3 hb3 hoffM HND HD HPS
  obtain ⟨q_0,⟨q_1,q_2,q_3,q_4,q_5,q_6,q_7,q_8,q_9,q_10,q_11⟩,q_12⟩:=_root_.id BA4
  have dc:=BC4.cells
  obtain ⟨y0,y1,y2,y3,y4,y5,y6,y7,y8,y9,y10,y11,y12,y13,y14,y15,y16,y17,y18,y19,y20,y21,y22,y23,y24,y25,y26,y27,y28⟩:=dc
  go_wp2_with (refine wpList_storeC (o:=(⟨⟨gd,.slice G ng cg,ps,.slice B np b,zs,.slice C nz c,fr,ea,.slice D ne e,al⟩,⟨rcode,rerr,rhas,rval,[]⟩,.slice none 0 0,⟨false,⟨⟨0,⟨#[]⟩,⟨#[]⟩,0,[],0⟩,.slice none 0 0,[],.slice none 0 0,[],.slice none 0 0,false,[],.slice none 0 0,0⟩,0⟩⟩ : Oc)) rfl rfl rfl rfl BC0 (oneC _ rfl rfl rfl rfl rfl rfl rfl rfl rfl) ?_; rw [hW4]; clear hW4 BC0)
  refine (cn _).mono ?_
  rintro e' w4 ⟨rfl,rfl⟩
  go_wp2_with fail
  refine cN.mono ?_
  rintro e' w5 ⟨v,zs2,rfl,hs5,hz5,hq5,BC5,hbut5⟩
  clear q_0 q_1 q_2 q_3 q_4 q_5 q_6 q_7 q_8 q_9 q_10 q_11 q_12
  clear y0 y1 y2 y3 y4 y5 y6 y7 y8 y9 y10 y11 y12 y13 y14 y15 y16 y17 y18 y19 y20 y21 y22 y23 y24 y25 y26 y27 y28 h34 BA4 cn cN BC4 HT
  have HB5:=HB4.but hbut5 (by omega)
  have hb5 : Below w.heap.size w w5:=hb4.trans (hbut5.below (by have:=hb4.size; omega) (fun n hn => by simp only [List.mem_singleton] at hn; omega))
  have hs5' : w3.heap.size < w5.heap.size:=Nat.lt_of_lt_of_le hs4 hbut5.size
  have hsm5:=argM_but HSM.out (fun n hn => by simp only [List.mem_singleton] at hn; subst hn; exact argM_low HSM2.out (Nat.le_refl _)) hbut5
  have BP:=HB5.bp
  have hB4:=zP_box HB5.z4
  have hB5:=zR_box HB5.z5
  have hB6:=zF_box HB5.z6
  obtain ⟨V,cv2,rfl⟩:=hz5.form
  obtain ⟨nv,hnv⟩ : ∃ n,zs2.length = n:=⟨_,rfl⟩
  rw [hnv] at hz5 BC5
  clear HB4 hb4 hbut5 hnv
  by_cases hE : E2 = 0
  ·subst hE
   have HX : endP (Ph.pl ⟨d,.slice A nm a,ps,.slice B np b,zs,.slice C nz c,fr,ea,.slice D ne e,al⟩) ⟨k,client,seq,key,til,val,old,has,lim,id,node⟩ (becameP (Ph.pl ⟨d,.slice A nm a,ps,.slice B np b,zs,.slice C nz c,fr,ea,.slice D ne e,al⟩) CH) = ({ Ph.pl ⟨d,.slice A nm a,ps,.slice B np b,zs,.slice C nz c,fr,ea,.slice D ne e,al⟩ with d:=gd,ss:=l2 },(⟨rcode,rerr,rhas,rval,[]⟩ : Rep),Eff.zero):=by rw [HEND.out]; rfl
   have HX2:=Lib.hid HX
   have HOFZ:=Lib.hid (HB5.offZ hz5)
   have HZ5:=Lib.hid hz5
   have HS5:=Lib.hid hs5
   have HM5:=Lib.hid hsm5
   clear HX HEND HB5 BP c4 hz5 hs5 hsm5
   go_wp2_with fail
   refine St.wp_region_mixed (R3 w5 (w.heap.size + 2) (w.heap.size + 3) (w.heap.size + 4) 6 7 8 ⟨gd,.slice G ng cg,ps,.slice B np b,zs2,.slice V nv cv2,fr,ea,.slice D ne e,al⟩ (⟨rcode,rerr,rhas,rval,[]⟩ : Rep) (.slice none 0 0) ⟨false,⟨⟨0,⟨#[]⟩,⟨#[]⟩,0,[],0⟩,.slice none 0 0,[],.slice none 0 0,[],.slice none 0 0,false,[],.slice none 0 0,0⟩,0⟩) (fun _ _ => False) (by kernel_rfl) (by kernel_rfl) (by kernel_rfl) (R3.start w5 hB4 hB5 hB6) ?_
   apply St.mix_give
   ·rfl
   ·intro L u' wx hS hcl hrd hag
    skip
    go_simp
    try with_reducible rfl
   ·exact fun L u' wx hS => hS.give (by decide) (by decide) (by decide) _
   simp only [Act.put,St.pu]
   apply St.mix_give
   ·rfl
   ·intro L u' wx hS hcl hrd hag
    obtain ⟨d0,d1,d2,d3,d4,d5,d6,d7,d8,d9,d10,d11,d12,d13,d14,d15,d16,d17,d18,d19,d20,d21,d22,d23,d24,d25,d26,d27,d28⟩:=(hS.but.boxC BC5 (by simp; omega)).cells
    go_simp
    try with_reducible rfl
   ·exact fun L u' wx hS => hS.give (by decide) (by decide) (by decide) _
   simp only [Act.put,St.pu]
   apply St.mix_give
   ·rfl
   ·intro L u' wx hS hcl hrd hag
    skip
    go_simp
    try with_reducible rfl
   ·exact fun L u' wx hS => hS.give (by decide) (by decide) (by decide) _
   simp only [Act.put,St.pu]
   apply St.mix_give
   ·rfl
   ·intro L u' wx hS hcl hrd hag
    obtain ⟨d0,d1,d2,d3,d4,d5,d6,d7,d8,d9,d10,d11,d12,d13,d14,d15,d16,d17,d18,d19,d20,d21,d22,d23,d24,d25,d26,d27,d28⟩:=(hS.but.boxC BC5 (by simp; omega)).cells
    go_simp
    try with_reducible rfl
   ·exact fun L u' wx hS => hS.give (by decide) (by decide) (by decide) _
   simp only [Act.put,St.pu]
   apply St.mix_give
   ·rfl
   ·intro L u' wx hS hcl hrd hag
    skip
    go_simp
    try with_reducible rfl
   ·exact fun L u' wx hS => hS.give (by decide) (by decide) (by decide) _
   simp only [Act.put,St.pu]
   apply St.mix_give
   ·rfl
   ·intro L u' wx hS hcl hrd hag
    obtain ⟨d0,d1,d2,d3,d4,d5,d6,d7,d8,d9,d10,d11,d12,d13,d14,d15,d16,d17,d18,d19,d20,d21,d22,d23,d24,d25,d26,d27,d28⟩:=(hS.but.boxC BC5 (by simp; omega)).cells
    go_simp
    try with_reducible rfl
   ·exact fun L u' wx hS => hS.give (by decide) (by decide) (by decide) _
   simp only [Act.put,St.pu]
   refine St.mix_skip rfl ?_ ?_
   ·intro L u' wx hS hcl hrd hag
    have hbx:=hS.b4
    rw [hrd.1] at hbx
    obtain ⟨z0,⟨z1,z2,z3,z4,z5,z6,z7,z8,z9,z10,z11⟩,zf⟩:=hbx
    refine ⟨putP wx (w.heap.size + 2) ⟨gd,.slice G ng cg,ps,.slice B np b,zs2,.slice V nv cv2,fr,ea,.slice D ne e,al⟩,?_,hS.put4 (by decide) (by decide) (by omega) (by omega) _⟩
    go_simp
    first | with_reducible rfl | rfl | skip
   simp only [Act.put]
   refine St.mix_skip rfl ?_ ?_
   ·intro L u' wx hS hcl hrd hag
    have hbx:=hS.b5
    rw [hrd.1] at hbx
    obtain ⟨z0,⟨z1,z2,z3,z4,z5⟩,zf⟩:=hbx
    refine ⟨putR wx (w.heap.size + 3) (⟨rcode,rerr,rhas,rval,[]⟩ : Rep) (.slice none 0 0),?_,hS.put5 (by decide) (by decide) (by omega) (by omega) _⟩
    go_simp
    first | with_reducible rfl | rfl | skip
   simp only [Act.put]
   refine St.mix_skip rfl ?_ ?_
   ·intro L u' wx hS hcl hrd hag
    have hbx:=hS.b6
    rw [hrd.1] at hbx
    obtain ⟨z0,⟨z1,z2,z3,z4,z5,z6,z7,z8,z9,z10,z11,z12,z13⟩,zf⟩:=hbx
    refine ⟨putF wx (w.heap.size + 4) ⟨false,⟨⟨0,⟨#[]⟩,⟨#[]⟩,0,[],0⟩,.slice none 0 0,[],.slice none 0 0,[],.slice none 0 0,false,[],.slice none 0 0,0⟩,0⟩,?_,hS.put6 (by decide) (by decide) (by omega) (by omega) _⟩
    go_simp
    first | with_reducible rfl | rfl | skip
   simp only [Act.put]
   refine St.mix_last ?_
   intro L wx hS hall
   obtain ⟨hbut,hX4,hX5,hX6⟩:=hS.fin (hall 6 (by decide)) (hall 7 (by decide)) (hall 8 (by decide))
   have hbw:=hbut.below (N:=w.heap.size) hb5.size (by simp)
   have hfin : HA wx ⟨gd,.slice G ng cg,ps,.slice B np b,zs2,.slice V nv cv2,fr,ea,.slice D ne e,al⟩:=⟨argM_but HM5.out HOFF.out hbut,(HHA.out.keep (hb5.trans hbw)).sp,argZ_but HZ5.out HOFZ.out hbut,hq5,(HHA.out.keep (hb5.trans hbw)).se,HHA.out.rp,HHA.out.re⟩
   go_wp2_with fail
   refine bodyPost_ret (res_three Tryz.results51 rfl rfl rfl hX4 hX5 hX6) rfl (by rw [HX2.out]; exact ⟨⟨⟨gd,.slice G ng cg,ps,.slice B np b,zs2,.slice V nv cv2,fr,ea,.slice D ne e,al⟩,(⟨rcode,rerr,rhas,rval,[]⟩ : Rep),.slice none 0 0,Fh.zero⟩,rfl,by rw [<- HS5.out]; rfl,hfin,HA.zero _,⟨none,0,rfl⟩,hb5.trans hbw⟩)
  ·have HX : endP (Ph.pl ⟨d,.slice A nm a,ps,.slice B np b,zs,.slice C nz c,fr,ea,.slice D ne e,al⟩) ⟨k,client,seq,key,til,val,old,has,lim,id,node⟩ (becameP (Ph.pl ⟨d,.slice A nm a,ps,.slice B np b,zs,.slice C nz c,fr,ea,.slice D ne e,al⟩) CH) = (Ph.pl ⟨d,.slice A nm a,ps,.slice B np b,zs,.slice C nz c,fr,ea,.slice D ne e,al⟩,badR E2,Eff.zero):=by rw [HEND.out,if_neg hE]
   have HX2:=Lib.hid HX
   have n1 : (E2 == 0) = false:=by simpa using hE
   have n2 : (E2 != 0) = true:=by simpa using hE
   have n3 : (E2 = 0) = False:=eq_false hE
   clear HX HEND HB5 hE hz5 hs5 hsm5
   go_wp2_with fail
   refine St.wp_region_mixed (R3 w5 (w.heap.size + 2) (w.heap.size + 3) (w.heap.size + 4) 4 5 6 ⟨d,.slice A nm a,ps,.slice B np b,zs,.slice C nz c,fr,ea,.slice D ne e,al⟩ (badR E2) (.slice none 0 0) Fh.zero) (fun _ x => x = rv (badR E2) (.slice none 0 0)) (by kernel_rfl) (by kernel_rfl) (by kernel_rfl) (R3.start w5 hB4 hB5 hB6) ?_
   apply St.mix_give
   ·rfl
   ·intro L u' wx hS hcl hrd hag
    obtain ⟨_,⟨d0,d1,d2,d3,d4,d5,d6,d7,d8,d9,d10⟩,_⟩:=hS.but.boxP BP (by simp)
    go_simp
    try with_reducible rfl
   ·exact fun L u' wx hS => hS.give (by decide) (by decide) (by decide) _
   simp only [Act.put,St.pu]
   apply St.mix_give
   ·rfl
   ·intro L u' wx hS hcl hrd hag
    skip
    go_simp
    try with_reducible rfl
   ·exact fun L u' wx hS => hS.give (by decide) (by decide) (by decide) _
   simp only [Act.put,St.pu]
   refine St.mix_into (v:=rv (badR E2) (.slice none 0 0)) (f:=108) (args:=#[.int .i64 E2]) rfl rfl ?_ ?_ ?_
   ·intro wx
    go_simp
    try with_reducible rfl
   ·intro L u' wx hS hcl hrd hag
    refine (c4 E2 wx).mono ?_
    rintro e' w' ⟨rfl,b⟩
    exact ⟨rfl,hS.call (by decide) (by decide) (by decide) b _⟩
   simp only [Act.put,St.pu]
   apply St.mix_give
   ·rfl
   ·intro L u' wx hS hcl hrd hag
    skip
    go_simp
    try with_reducible rfl
   ·exact fun L u' wx hS => hS.give (by decide) (by decide) (by decide) _
   simp only [Act.put,St.pu]
   refine St.mix_skip rfl ?_ ?_
   ·intro L u' wx hS hcl hrd hag
    have hbx:=hS.b4
    rw [hrd.1] at hbx
    obtain ⟨z0,⟨z1,z2,z3,z4,z5,z6,z7,z8,z9,z10,z11⟩,zf⟩:=hbx
    refine ⟨putP wx (w.heap.size + 2) ⟨d,.slice A nm a,ps,.slice B np b,zs,.slice C nz c,fr,ea,.slice D ne e,al⟩,?_,hS.put4 (by decide) (by decide) (by omega) (by omega) _⟩
    go_simp
    first | with_reducible rfl | rfl | skip
   simp only [Act.put]
   refine St.mix_skip rfl ?_ ?_
   ·intro L u' wx hS hcl hrd hag
    have hbx:=hS.b5
    rw [hrd.1] at hbx
    obtain ⟨z0,⟨z1,z2,z3,z4,z5⟩,zf⟩:=hbx
    refine ⟨putR wx (w.heap.size + 3) (badR E2) (.slice none 0 0),?_,hS.put5 (by decide) (by decide) (by omega) (by omega) _⟩
    go_simp
    first | with_reducible rfl | rfl | skip
   simp only [Act.put]
   refine St.mix_skip rfl ?_ ?_
   ·intro L u' wx hS hcl hrd hag
    have hbx:=hS.b6
    rw [hrd.1] at hbx
    obtain ⟨z0,⟨z1,z2,z3,z4,z5,z6,z7,z8,z9,z10,z11,z12,z13⟩,zf⟩:=hbx
    refine ⟨putF wx (w.heap.size + 4) Fh.zero,?_,hS.put6 (by decide) (by decide) (by omega) (by omega) _⟩
    go_simp
    first | with_reducible rfl | rfl | skip
   simp only [Act.put]
   refine St.mix_last ?_
   intro L wx hS hall
   obtain ⟨hbut,hX4,hX5,hX6⟩:=hS.fin (hall 4 (by decide)) (hall 5 (by decide)) (hall 6 (by decide))
   have hbw:=hbut.below (N:=w.heap.size) hb5.size (by simp)
   go_wp2_with fail
   refine bodyPost_ret (res_three Tryz.results51 rfl rfl rfl hX4 hX5 hX6) rfl (by rw [HX2.out]; exact ⟨⟨⟨d,.slice A nm a,ps,.slice B np b,zs,.slice C nz c,fr,ea,.slice D ne e,al⟩,badR E2,.slice none 0 0,Fh.zero⟩,rfl,rfl,HHA.out.keep (hb5.trans hbw),HA.zero _,⟨none,0,rfl⟩,hb5.trans hbw⟩)
end Go.Proofs.YthcmnkmfhgoddaaGreatDoor.Pt

/-
  PutReply,the document's: a reply's text. Conditions: its texts at most 2^20 bytes; its numbers such as a program can hold; at most 2,000 pairs.
  ids,the document's: the text of numbers. Conditions: at most 2,000 numbers,such as a program can hold.
  pairs,the document's: the text of pairs. Conditions: at most 2,000 pairs,texts of at most 2^20 bytes.
  eatenText and pairsText,the program's: the texts of numbers and of pairs. Conditions: at most 2,000 of each; numbers such as a program can hold; texts of at most 2^20 bytes.
  Put,the program's: a plot's text. Conditions: numbers such as a program can hold,texts of at most 2^20 bytes,at most 2,000 pairs and numbers,1,000 sessions.
  The laws' own plot: that it answers. Conditions: lengths at most 2^47.
-/
import Derived.Test.YthcmnkmfhgoddaaGreatDoorVOdSPA
import Derived.Test.YthcmnkmfhgoddaaGreatDoorVRegA
import Derived.Test.YthcmnkmfhgoddaaGreatDoorVDpMA
import Derived.Test.YthcmnkmfhgoddaaGreatDoorVDpHHA
import Derived.OwnWalk
import Derived.Test.YthcmnkmfhgoddaaGreatDoorVOdPCA
import Derived.Test.YthcmnkmfhgoddaaGreatDoorVDsPNA
namespace Go.Proofs.YthcmnkmfhgoddaaGreatDoor.Od
open Go.RowKit Bnd
open Go.Proofs.YthcmnkmfhgoddaaGreatDoor.M (tieT numT inR)
open Ds (nb nb_size own_new)
end Go.Proofs.YthcmnkmfhgoddaaGreatDoor.Od

namespace Go.Proofs.YthcmnkmfhgoddaaGreatDoor.Dp
open Go.RowKit Bnd
open Go.Proofs.YthcmnkmfhgoddaaGreatDoor.M (tieT numT inR)
open Ds (nb nb_size)
end Go.Proofs.YthcmnkmfhgoddaaGreatDoor.Dp

namespace Go.Proofs.YthcmnkmfhgoddaaGreatDoor.Dp
open Go.RowKit Bnd
open Go.Proofs.YthcmnkmfhgoddaaGreatDoor.M (tieT numT inR)
open Go.Proofs.YthcmnkmfhgoddaaGreatDoor.Od (Pr SP pairsT)
open Go.Proofs.YthcmnkmfhgoddaaGreatDoor.Ss (PL)
open Ds (run_append2)
end Go.Proofs.YthcmnkmfhgoddaaGreatDoor.Dp

namespace Go.Proofs.YthcmnkmfhgoddaaGreatDoor.Dp
open Go.RowKit Bnd
open Go.Proofs.YthcmnkmfhgoddaaGreatDoor.M (tieT numT inR)
open Go.Proofs.YthcmnkmfhgoddaaGreatDoor.Od (Pr SP pairsT)
open Go.Proofs.YthcmnkmfhgoddaaGreatDoor.Ss (PL)
open Ds (nb nb_size run_append2)
end Go.Proofs.YthcmnkmfhgoddaaGreatDoor.Dp

namespace Go.Proofs.YthcmnkmfhgoddaaGreatDoor.Dp
open Go.RowKit Bnd
open Go.Proofs.YthcmnkmfhgoddaaGreatDoor.M (tieT numT inR)
open Go.Proofs.YthcmnkmfhgoddaaGreatDoor.Ds (De putT)
open Go.Proofs.YthcmnkmfhgoddaaGreatDoor.Ss (Ses Zs ses putS)
open Go.Proofs.YthcmnkmfhgoddaaGreatDoor.Od (Pr pairsT tb tb_size)
open Ds (nb nb_size own_new)
theorem BoxP.kept {N n : Nat} {o : Ph} {w1 w2 : World} (h : BoxP n o w1) (hn : n < N) (hb : Below N w1 w2) : BoxP n o w2:=by
 obtain ⟨h0,⟨h1,h2,h3,h4,h5,h6,h7,h8,h9,h10,h11⟩,hf⟩:=h
 have hc : ∀ o,w2.cell? ⟨n,o,none⟩ = w1.cell? ⟨n,o,none⟩:=fun o => hb.cell (p:=⟨n,o,none⟩) hn
 refine ⟨Nat.lt_of_lt_of_le h0 hb.size,⟨?_,?_,?_,?_,?_,?_,?_,?_,?_,?_,?_⟩,fun o => (hb.frozen (p:=⟨n,o,none⟩) hn).trans (hf o)⟩
 all_goals rw [hc]; assumption
end Go.Proofs.YthcmnkmfhgoddaaGreatDoor.Dp

namespace Go.Proofs.YthcmnkmfhgoddaaGreatDoor.Mb
open Go.RowKit Bnd
open Go.Proofs.YthcmnkmfhgoddaaGreatDoor.Ss (Ses Zs ses SZ PZ)
open Go.Proofs.YthcmnkmfhgoddaaGreatDoor.Od (Pr SP)
open Go.Proofs.YthcmnkmfhgoddaaGreatDoor.Dp (Ph HP FitP qv BoxP)
def BoolOut (e : Ending) : Prop:=∃ r,e = .returned (.bool r)
set_option maxHeartbeats 16000000 in
set_option maxRecDepth 100000 in
theorem plot_any (o : Ph) (w : World) (h : HP w w.heap.size o) (hf : FitP o) :
  Calls Tryz.prog 15 #[qv o] w fun e w' => BoolOut e /\ Below w.heap.size w w':=by
 obtain ⟨d,sm,ps,sp,zs,sz,fr,ea,se,al⟩:=o
 obtain ⟨hM,hP,hZ,hpz,hE⟩:=h
 obtain ⟨ff,ft,fm,fps,each,fzs,hfit,fea⟩:=hf
 simp only at hM hP hZ hpz hE ff ft fm fps each fzs hfit fea
 obtain ⟨fA,fa,rfl⟩:=hM.form
 obtain ⟨fB,fb,rfl⟩:=hP.form
 obtain ⟨fC,fc,rfl⟩:=hZ.form
 obtain ⟨fD,fd,rfl⟩:=hE.form
 have HVP:=Lib.hid hP
 have HVZ:=Lib.hid hZ
 obtain ⟨W1,hW1⟩ : ∃ W1,w.alloc (.cells #[.int .i64 d.id,.string d.f,.string d.t,.int .i64 d.gen,.slice fA d.ms.length fa,.int .i64 d.next,.slice fB ps.length fb,.slice fC zs.length fc,.bool fr,.slice fD ea.length fd,.int .i64 al] 38) = W1:=⟨_,rfl⟩
 have B1 : BoxP w.heap.size ⟨d,.slice fA d.ms.length fa,ps,.slice fB ps.length fb,zs,.slice fC zs.length fc,fr,ea,.slice fD ea.length fd,al⟩ W1:=hW1 ▸ BoxP.new w ⟨d,.slice fA d.ms.length fa,ps,.slice fB ps.length fb,zs,.slice fC zs.length fc,fr,ea,.slice fD ea.length fd,al⟩
 have hz1 : W1.heap.size = w.heap.size + 1:=by rw [<- hW1]; simp
 have hbw1 : Below w.heap.size w W1:=by rw [<- hW1]; exact (Below.refl _ w).alloc (Nat.le_refl _) _
 obtain ⟨P,hPl⟩ : ∃ P,ps.length = P:=⟨_,rfl⟩
 obtain ⟨Z,hZl⟩ : ∃ Z,zs.length = Z:=⟨_,rfl⟩
 obtain ⟨E,hEl⟩ : ∃ E,ea.length = E:=⟨_,rfl⟩
 obtain ⟨M,hMl⟩ : ∃ M,d.ms.length = M:=⟨_,rfl⟩
 have HP:=Lib.hid hPl
 have HZ:=Lib.hid hZl
 rw [hPl,hZl,hEl,hMl] at hW1 B1 ⊢
 rw [hPl] at fps
 rw [hZl] at fzs
 rw [hEl] at fea
 rw [hMl] at fm
 have hbox:=fun wx (hb : Below W1.heap.size W1 wx) => B1.keep hb
 have HS0 : Hid ((0 : Nat) <= 900000000000000):=Lib.hid (by omega)
 clear hPl hZl hEl hMl hM hP hZ hE hpz
 go_enter Tryz.func15,Tryz.ntmps15
 obtain ⟨p_0,⟨p_1,p_2,p_3,p_4,p_5,p_6,p_7,p_8,p_9,p_10,p_11⟩,p_12⟩:=_root_.id B1
 go_wp2_with (rw [hW1])
 ((try clear p_0); (try clear p_1); (try clear p_2); (try clear p_3); (try clear p_4); (try clear p_5); (try clear p_6); (try clear p_7); (try clear p_8); (try clear p_9); (try clear p_10); (try clear p_11); (try clear p_12))
 clear hW1
 go_loopw [3,4] (fun v3 v4 wr => ∃ (i S : Nat),i <= P /\ i <= 41 /\ v4 = .int .i64 (i : Int) /\ v3 = .int .i64 (S : Int) /\ Hid (S <= 900000000000000) /\ Below W1.heap.size W1 wr) (fun _ v4 _ => P - (intOf v4).toNat)
 case atStart => exact ⟨0,0,Nat.zero_le _,by omega,rfl,rfl,HS0,Below.refl _ _⟩
 case round =>
  obtain ⟨i,S,hi,hi2,rfl,rfl,HSS,hbr⟩:=hrel
  have hS0:=HSS.out
  have hbz:=hbw1.trans (hbr.mono (by omega))
  obtain ⟨_,⟨p0,p1,p2,p3,p4,p5,p6,p7,p8,p9,p10⟩,_⟩:=hbox wr hbr
  by_cases a0 : i < P
  rotate_left
  ·have b0 : ((i : Int) < (P : Int)) = False:=eq_false (by omega)
   go_wp2_with fail
   go_loopw [3,5] (fun v3 v5 wr => ∃ (i S : Nat),i <= Z /\ i <= 41 /\ v5 = .int .i64 (i : Int) /\ v3 = .int .i64 (S : Int) /\ Hid (S <= 900000000000000) /\ Below W1.heap.size W1 wr) (fun _ v5 _ => Z - (intOf v5).toNat)
   case atStart => exact ⟨0,_,Nat.zero_le _,by omega,rfl,rfl,HSS,hbr⟩
   case round =>
    obtain ⟨i,S,hi,hi2,rfl,rfl,HSS,hbr⟩:=hrel
    have hS0:=HSS.out
    have hbz:=hbw1.trans (hbr.mono (by omega))
    obtain ⟨_,⟨p0,p1,p2,p3,p4,p5,p6,p7,p8,p9,p10⟩,_⟩:=hbox wr hbr
    by_cases a0 : i < Z
    rotate_left
    ·have b0 : ((i : Int) < (Z : Int)) = False:=eq_false (by omega)
     by_cases f0 : P <= 40
     rotate_left
     ·have e0 : ((P : Int) <= 40) = False:=eq_false (by omega)
      go_wp2_with fail
      go_ret
      exact ⟨⟨false,rfl⟩,hbz⟩
     have e0 : ((P : Int) <= 40) = True:=eq_true (by omega)
     by_cases f1 : Z <= 40
     rotate_left
     ·have e1 : ((Z : Int) <= 40) = False:=eq_false (by omega)
      go_wp2_with fail
      go_ret
      exact ⟨⟨false,rfl⟩,hbz⟩
     have e1 : ((Z : Int) <= 40) = True:=eq_true (by omega)
     by_cases f2 : S <= 10000
     rotate_left
     ·have e2 : ((S : Int) <= 10000) = False:=eq_false (by omega)
      go_wp2_with fail
      go_ret
      exact ⟨⟨false,rfl⟩,hbz⟩
     have e2 : ((S : Int) <= 10000) = True:=eq_true (by omega)
     go_wp2_with fail
     go_ret
     exact ⟨⟨true,rfl⟩,hbz⟩
    have b0 : ((i : Int) < (Z : Int)) = True:=eq_true (by omega)
    by_cases a1 : i <= 40
    rotate_left
    ·have b1 : ((i : Int) <= 40) = False:=eq_false (by omega)
     by_cases f0 : P <= 40
     rotate_left
     ·have e0 : ((P : Int) <= 40) = False:=eq_false (by omega)
      go_wp2_with fail
      go_ret
      exact ⟨⟨false,rfl⟩,hbz⟩
     have e0 : ((P : Int) <= 40) = True:=eq_true (by omega)
     have e1 : ((Z : Int) <= 40) = False:=eq_false (by omega)
     go_wp2_with fail
     go_ret
     exact ⟨⟨false,rfl⟩,hbz⟩
    have b1 : ((i : Int) <= 40) = True:=eq_true (by omega)
    by_cases a2 : S <= 10000
    rotate_left
    ·have b2 : ((S : Int) <= 10000) = False:=eq_false (by omega)
     by_cases f0 : P <= 40
     rotate_left
     ·have e0 : ((P : Int) <= 40) = False:=eq_false (by omega)
      go_wp2_with fail
      go_ret
      exact ⟨⟨false,rfl⟩,hbz⟩
     have e0 : ((P : Int) <= 40) = True:=eq_true (by omega)
     by_cases f1 : Z <= 40
     rotate_left
     ·have e1 : ((Z : Int) <= 40) = False:=eq_false (by omega)
      go_wp2_with fail
      go_ret
      exact ⟨⟨false,rfl⟩,hbz⟩
     have e1 : ((Z : Int) <= 40) = True:=eq_true (by omega)
     have e2 : ((S : Int) <= 10000) = False:=eq_false (by omega)
     go_wp2_with fail
     go_ret
     exact ⟨⟨false,rfl⟩,hbz⟩
    have b2 : ((S : Int) <= 10000) = True:=eq_true (by omega)
    have hix : i < zs.length:=by rw [HZ.out]; exact a0
    have hv1:=HVZ.out.below hbz
    rw [HZ.out] at hv1
    obtain ⟨b,o2,rfl,hb,q0,q1,q2,q3,q4,q5,q6⟩:=hv1.at_ hix
    have hfi:=hfit _ (List.getElem_mem hix)
    obtain ⟨⟨⟨cl,sq,r⟩,pv⟩,hzk⟩ : ∃ z,zs[i] = z:=⟨_,rfl⟩
    rw [hzk] at q5 hfi
    obtain ⟨fv,fn,fp⟩:=hfi
    simp only at q5 fv
    obtain ⟨S1,hS1⟩ : ∃ S1 : Nat,S1 = S + 1:=⟨_,rfl⟩
    obtain ⟨S2,hS2⟩ : ∃ S2 : Nat,S2 = S1 + r.val.size:=⟨_,rfl⟩
    have j1 : IntKind.i64.wrap ((S : Int) + 1) = (S1 : Int):=by rw [IntKind.wrap_i64] <;> omega
    have j2 : IntKind.i64.wrap ((S1 : Int) + (r.val.size : Int)) = (S2 : Int):=by rw [IntKind.wrap_i64] <;> omega
    have HS3 : Hid (S2 <= 900000000000000):=Lib.hid (by omega)
    have g0 : (0 <= (i : Int)) = True:=eq_true (by omega)
    have q5' : wr.cell? ⟨b,o2 + i * 7 + 2 + 3,none⟩ = some (.string r.val):=q5
    clear hv1 hzk q0 q1 q2 q3 q4 q6 hS1 hS2 HSS hS0 fn fp
    go_wp2_with fail
    clear p0 p1 p2 p3 p4 p5 p6 p7 p8 p9 p10 j1 j2
    try go_wp2_with fail
    go_roundw
    case rel => exact ⟨i + 1,S2,by omega,by omega,by go_num,rfl,HS3,hbr⟩
    case measure => simp [intOf]; omega
  have b0 : ((i : Int) < (P : Int)) = True:=eq_true (by omega)
  by_cases a1 : i <= 40
  rotate_left
  ·have b1 : ((i : Int) <= 40) = False:=eq_false (by omega)
   have hP6 : ¬ P <= 40:=by omega
   go_wp2_with fail
   go_loopw [3,5] (fun v3 v5 wr => ∃ (i S : Nat),i <= Z /\ i <= 41 /\ v5 = .int .i64 (i : Int) /\ v3 = .int .i64 (S : Int) /\ Hid (S <= 900000000000000) /\ Below W1.heap.size W1 wr) (fun _ v5 _ => Z - (intOf v5).toNat)
   case atStart => exact ⟨0,_,Nat.zero_le _,by omega,rfl,rfl,HSS,hbr⟩
   case round =>
    obtain ⟨i,S,hi,hi2,rfl,rfl,HSS,hbr⟩:=hrel
    have hS0:=HSS.out
    have hbz:=hbw1.trans (hbr.mono (by omega))
    obtain ⟨_,⟨p0,p1,p2,p3,p4,p5,p6,p7,p8,p9,p10⟩,_⟩:=hbox wr hbr
    by_cases a0 : i < Z
    rotate_left
    ·have b0 : ((i : Int) < (Z : Int)) = False:=eq_false (by omega)
     have e0 : ((P : Int) <= 40) = False:=eq_false (by omega)
     go_wp2_with fail
     go_ret
     exact ⟨⟨false,rfl⟩,hbz⟩
    have b0 : ((i : Int) < (Z : Int)) = True:=eq_true (by omega)
    by_cases a1 : i <= 40
    rotate_left
    ·have b1 : ((i : Int) <= 40) = False:=eq_false (by omega)
     have e0 : ((P : Int) <= 40) = False:=eq_false (by omega)
     go_wp2_with fail
     go_ret
     exact ⟨⟨false,rfl⟩,hbz⟩
    have b1 : ((i : Int) <= 40) = True:=eq_true (by omega)
    by_cases a2 : S <= 10000
    rotate_left
    ·have b2 : ((S : Int) <= 10000) = False:=eq_false (by omega)
     have e0 : ((P : Int) <= 40) = False:=eq_false (by omega)
     go_wp2_with fail
     go_ret
     exact ⟨⟨false,rfl⟩,hbz⟩
    have b2 : ((S : Int) <= 10000) = True:=eq_true (by omega)
    have hix : i < zs.length:=by rw [HZ.out]; exact a0
    have hv1:=HVZ.out.below hbz
    rw [HZ.out] at hv1
    obtain ⟨b,o2,rfl,hb,q0,q1,q2,q3,q4,q5,q6⟩:=hv1.at_ hix
    have hfi:=hfit _ (List.getElem_mem hix)
    obtain ⟨⟨⟨cl,sq,r⟩,pv⟩,hzk⟩ : ∃ z,zs[i] = z:=⟨_,rfl⟩
    rw [hzk] at q5 hfi
    obtain ⟨fv,fn,fp⟩:=hfi
    simp only at q5 fv
    obtain ⟨S1,hS1⟩ : ∃ S1 : Nat,S1 = S + 1:=⟨_,rfl⟩
    obtain ⟨S2,hS2⟩ : ∃ S2 : Nat,S2 = S1 + r.val.size:=⟨_,rfl⟩
    have j1 : IntKind.i64.wrap ((S : Int) + 1) = (S1 : Int):=by rw [IntKind.wrap_i64] <;> omega
    have j2 : IntKind.i64.wrap ((S1 : Int) + (r.val.size : Int)) = (S2 : Int):=by rw [IntKind.wrap_i64] <;> omega
    have HS3 : Hid (S2 <= 900000000000000):=Lib.hid (by omega)
    have g0 : (0 <= (i : Int)) = True:=eq_true (by omega)
    have q5' : wr.cell? ⟨b,o2 + i * 7 + 2 + 3,none⟩ = some (.string r.val):=q5
    clear hv1 hzk q0 q1 q2 q3 q4 q6 hS1 hS2 HSS hS0 fn fp
    go_wp2_with fail
    clear p0 p1 p2 p3 p4 p5 p6 p7 p8 p9 p10 j1 j2
    try go_wp2_with fail
    go_roundw
    case rel => exact ⟨i + 1,S2,by omega,by omega,by go_num,rfl,HS3,hbr⟩
    case measure => simp [intOf]; omega
  have b1 : ((i : Int) <= 40) = True:=eq_true (by omega)
  by_cases a2 : S <= 10000
  rotate_left
  ·have b2 : ((S : Int) <= 10000) = False:=eq_false (by omega)
   go_wp2_with fail
   go_loopw [3,5] (fun v3 v5 wr => ∃ (i S : Nat),i <= Z /\ i <= 41 /\ v5 = .int .i64 (i : Int) /\ v3 = .int .i64 (S : Int) /\ Hid (S <= 900000000000000) /\ Below W1.heap.size W1 wr) (fun _ v5 _ => Z - (intOf v5).toNat)
   case atStart => exact ⟨0,_,Nat.zero_le _,by omega,rfl,rfl,HSS,hbr⟩
   case round =>
    obtain ⟨i,S,hi,hi2,rfl,rfl,HSS,hbr⟩:=hrel
    have hS0:=HSS.out
    have hbz:=hbw1.trans (hbr.mono (by omega))
    obtain ⟨_,⟨p0,p1,p2,p3,p4,p5,p6,p7,p8,p9,p10⟩,_⟩:=hbox wr hbr
    by_cases a0 : i < Z
    rotate_left
    ·have b0 : ((i : Int) < (Z : Int)) = False:=eq_false (by omega)
     by_cases f0 : P <= 40
     rotate_left
     ·have e0 : ((P : Int) <= 40) = False:=eq_false (by omega)
      go_wp2_with fail
      go_ret
      exact ⟨⟨false,rfl⟩,hbz⟩
     have e0 : ((P : Int) <= 40) = True:=eq_true (by omega)
     by_cases f1 : Z <= 40
     rotate_left
     ·have e1 : ((Z : Int) <= 40) = False:=eq_false (by omega)
      go_wp2_with fail
      go_ret
      exact ⟨⟨false,rfl⟩,hbz⟩
     have e1 : ((Z : Int) <= 40) = True:=eq_true (by omega)
     by_cases f2 : S <= 10000
     rotate_left
     ·have e2 : ((S : Int) <= 10000) = False:=eq_false (by omega)
      go_wp2_with fail
      go_ret
      exact ⟨⟨false,rfl⟩,hbz⟩
     have e2 : ((S : Int) <= 10000) = True:=eq_true (by omega)
     go_wp2_with fail
     go_ret
     exact ⟨⟨true,rfl⟩,hbz⟩
    have b0 : ((i : Int) < (Z : Int)) = True:=eq_true (by omega)
    by_cases a1 : i <= 40
    rotate_left
    ·have b1 : ((i : Int) <= 40) = False:=eq_false (by omega)
     by_cases f0 : P <= 40
     rotate_left
     ·have e0 : ((P : Int) <= 40) = False:=eq_false (by omega)
      go_wp2_with fail
      go_ret
      exact ⟨⟨false,rfl⟩,hbz⟩
     have e0 : ((P : Int) <= 40) = True:=eq_true (by omega)
     have e1 : ((Z : Int) <= 40) = False:=eq_false (by omega)
     go_wp2_with fail
     go_ret
     exact ⟨⟨false,rfl⟩,hbz⟩
    have b1 : ((i : Int) <= 40) = True:=eq_true (by omega)
    by_cases a2 : S <= 10000
    rotate_left
    ·have b2 : ((S : Int) <= 10000) = False:=eq_false (by omega)
     by_cases f0 : P <= 40
     rotate_left
     ·have e0 : ((P : Int) <= 40) = False:=eq_false (by omega)
      go_wp2_with fail
      go_ret
      exact ⟨⟨false,rfl⟩,hbz⟩
     have e0 : ((P : Int) <= 40) = True:=eq_true (by omega)
     by_cases f1 : Z <= 40
     rotate_left
     ·have e1 : ((Z : Int) <= 40) = False:=eq_false (by omega)
      go_wp2_with fail
      go_ret
      exact ⟨⟨false,rfl⟩,hbz⟩
     have e1 : ((Z : Int) <= 40) = True:=eq_true (by omega)
     have e2 : ((S : Int) <= 10000) = False:=eq_false (by omega)
     go_wp2_with fail
     go_ret
     exact ⟨⟨false,rfl⟩,hbz⟩
    have b2 : ((S : Int) <= 10000) = True:=eq_true (by omega)
    have hix : i < zs.length:=by rw [HZ.out]; exact a0
    have hv1:=HVZ.out.below hbz
    rw [HZ.out] at hv1
    obtain ⟨b,o2,rfl,hb,q0,q1,q2,q3,q4,q5,q6⟩:=hv1.at_ hix
    have hfi:=hfit _ (List.getElem_mem hix)
    obtain ⟨⟨⟨cl,sq,r⟩,pv⟩,hzk⟩ : ∃ z,zs[i] = z:=⟨_,rfl⟩
    rw [hzk] at q5 hfi
    obtain ⟨fv,fn,fp⟩:=hfi
    simp only at q5 fv
    obtain ⟨S1,hS1⟩ : ∃ S1 : Nat,S1 = S + 1:=⟨_,rfl⟩
    obtain ⟨S2,hS2⟩ : ∃ S2 : Nat,S2 = S1 + r.val.size:=⟨_,rfl⟩
    have j1 : IntKind.i64.wrap ((S : Int) + 1) = (S1 : Int):=by rw [IntKind.wrap_i64] <;> omega
    have j2 : IntKind.i64.wrap ((S1 : Int) + (r.val.size : Int)) = (S2 : Int):=by rw [IntKind.wrap_i64] <;> omega
    have HS3 : Hid (S2 <= 900000000000000):=Lib.hid (by omega)
    have g0 : (0 <= (i : Int)) = True:=eq_true (by omega)
    have q5' : wr.cell? ⟨b,o2 + i * 7 + 2 + 3,none⟩ = some (.string r.val):=q5
    clear hv1 hzk q0 q1 q2 q3 q4 q6 hS1 hS2 HSS hS0 fn fp
    go_wp2_with fail
    clear p0 p1 p2 p3 p4 p5 p6 p7 p8 p9 p10 j1 j2
    try go_wp2_with fail
    go_roundw
    case rel => exact ⟨i + 1,S2,by omega,by omega,by go_num,rfl,HS3,hbr⟩
    case measure => simp [intOf]; omega
  have b2 : ((S : Int) <= 10000) = True:=eq_true (by omega)
  have hix : i < ps.length:=by rw [HP.out]; exact a0
  have hv1:=HVP.out.below hbz
  rw [HP.out] at hv1
  obtain ⟨b,o2,rfl,hb,q0,q1⟩:=hv1.at_ hix
  have hfi:=each _ (List.getElem_mem hix)
  obtain ⟨⟨x,y⟩,hx⟩ : ∃ x,ps[i] = x:=⟨_,rfl⟩
  rw [hx] at q0 q1 hfi
  simp only at q0 q1 hfi
  obtain ⟨S1,hS1⟩ : ∃ S1 : Nat,S1 = S + 1:=⟨_,rfl⟩
  obtain ⟨S2,hS2⟩ : ∃ S2 : Nat,S2 = S1 + x.size:=⟨_,rfl⟩
  obtain ⟨S3,hS3⟩ : ∃ S3 : Nat,S3 = S2 + y.size:=⟨_,rfl⟩
  have j1 : IntKind.i64.wrap ((S : Int) + 1) = (S1 : Int):=by rw [IntKind.wrap_i64] <;> omega
  have j2 : IntKind.i64.wrap ((S1 : Int) + (x.size : Int)) = (S2 : Int):=by rw [IntKind.wrap_i64] <;> omega
  have j3 : IntKind.i64.wrap ((S2 : Int) + (y.size : Int)) = (S3 : Int):=by rw [IntKind.wrap_i64] <;> omega
  have HS3 : Hid (S3 <= 900000000000000):=Lib.hid (by omega)
  have g0 : (0 <= (i : Int)) = True:=eq_true (by omega)
  clear hv1 hx hS1 hS2 hS3 HSS hS0
  go_wp2_with fail
  refine St.wp_region_mixed (fun _ _ wx => wx = wr.drew) (fun _ _ => False) (by kernel_rfl) (by kernel_rfl) (by kernel_rfl) rfl ?_
  iterate 19
   (apply St.mix_give
    ·rfl
    ·intro L u' wx hS hcl hrd hag
     subst hS
     go_simp
     try with_reducible rfl
    ·exact fun L u' wx hS => hS
    simp only [Act.put,St.pu])
  refine St.mix_last ?_
  intro L wx hS _
  subst hS
  clear j1 j2 j3
  go_wp2_with fail
  go_roundw
  case rel => exact ⟨i + 1,S3,by omega,by omega,by go_num,rfl,HS3,hbr.drew⟩
  case measure => simp [intOf]; omega
end Go.Proofs.YthcmnkmfhgoddaaGreatDoor.Mb

/-
  The document's Same at lists that are the same; the law's own num and own. Conditions: sessions without pairs,at most a million (own: any pairs).
  The document's small answers on plots: Get,Has,ints,Same (of like plots). Conditions: lengths at most 2^30.
-/
import Derived.Test.YthcmnkmfhgoddaaGreatDoorVSsMRA
import Derived.Test.YthcmnkmfhgoddaaGreatDoorVOdSPA
import Derived.Test.YthcmnkmfhgoddaaGreatDoorVRegA
import Derived.Test.YthcmnkmfhgoddaaGreatDoorVDpBGA
import Derived.Test.YthcmnkmfhgoddaaGreatDoorVDsSMA
import Derived.BigQuiet
namespace Go.Proofs.YthcmnkmfhgoddaaGreatDoor.Ss
open Go.RowKit Bnd
open Go.Proofs.YthcmnkmfhgoddaaGreatDoor.Od (Rep SP ArgP OwnP rv BoxR)
end Go.Proofs.YthcmnkmfhgoddaaGreatDoor.Ss

namespace Go.Proofs.YthcmnkmfhgoddaaGreatDoor.Dp
open Go.RowKit Bnd
open Go.Proofs.YthcmnkmfhgoddaaGreatDoor.O (Bd isB keyB hasB lt)
open Go.Proofs.YthcmnkmfhgoddaaGreatDoor.Ds (De SM dv sameD)
open Go.Proofs.YthcmnkmfhgoddaaGreatDoor.Ss (Ses Zs ses SZ PZ NoP)
open Go.Proofs.YthcmnkmfhgoddaaGreatDoor.Od (Pr SP)
open Go.Proofs.YthcmnkmfhgoddaaGreatDoor.Sf (kl Up getP)
set_option maxHeartbeats 4000000 in
set_option maxRecDepth 100000 in
theorem rhas_any (v : Value) (ns : List Int) (x : Int) (w : World) (hv : SI w w.heap.size v ns) (hl : ns.length <= 140737488355328) :
  Calls Tryz.prog 71 #[v,.int .i64 x] w fun e w' => e = .returned (.bool (decide (x ∈ ns))) /\ w = w':=by
 obtain ⟨A,c,rfl⟩:=hv.form
 obtain ⟨N,hN⟩ : ∃ N,ns.length = N:=⟨_,rfl⟩
 have HN:=Lib.hid hN
 have HV:=Lib.hid hv
 rw [hN] at hl ⊢
 obtain ⟨r,hR⟩ : ∃ r,decide (x ∈ ns) = r:=⟨_,rfl⟩
 rw [hR]
 have HR:=Lib.hid hR
 clear hN hv hR
 go_enter Tryz.func71,Tryz.ntmps71
 go_wp2_with fail
 go_loopw [5] (fun vi wr => ∃ k : Nat,k <= N /\ vi = .int .i64 (k : Int) /\ Hid (decide (x ∈ ns.drop k) = r) /\ wr = w) (fun vi _ => N - (intOf vi).toNat)
 case atStart => exact ⟨0,Nat.zero_le _,rfl,Lib.hid (by simpa using HR.out),rfl⟩
 case round =>
  obtain ⟨k,hk,rfl,HG,rfl⟩:=hrel
  by_cases hlt : k < N
  ·have hkx : k < ns.length:=by rw [HN.out]; exact hlt
   have hv1:=HV.out
   rw [HN.out] at hv1
   obtain ⟨b,o,rfl,hb,q⟩:=hv1.at_ hkx
   have hg:=HG.out
   rw [List.drop_eq_getElem_cons hkx] at hg
   obtain ⟨y,hy⟩ : ∃ y,ns[k] = y:=⟨_,rfl⟩
   rw [hy] at q hg
   have k0 : (0 <= (k : Int)) = True:=eq_true (by omega)
   have k1 : ((k : Int) < (N : Int)) = True:=eq_true (by omega)
   clear hv1 hy hkx
   by_cases h1 : y = x
   ·have l1 : (y == x) = true:=by simpa using h1
    have l2 : (y = x) = True:=eq_true h1
    have HG2 : Hid (r = true):=Lib.hid (by rw [<- hg]; simp [h1])
    clear hg h1
    go_wp2_with fail
    go_ret
    exact ⟨by rw [HG2.out]; rfl,rfl⟩
   ·have l1 : (y == x) = false:=by simpa using h1
    have l2 : (y = x) = False:=eq_false h1
    have HG2 : Hid (decide (x ∈ ns.drop (k + 1)) = r):=Lib.hid (by rw [<- hg]; simp [Ne.symm h1])
    clear hg h1
    go_wp2_with fail
    go_roundw
    case rel => exact ⟨k + 1,by omega,by go_num,HG2,by trivial⟩
    case measure => simp [intOf]; omega
  ·obtain rfl : k = N:=by omega
   have hg:=HG.out
   rw [List.drop_of_length_le (by have:=HN.out; omega)] at hg
   have HG2 : Hid (r = false):=Lib.hid (by rw [<- hg]; simp)
   clear hg
   go_wp2_with fail
   go_ret
   exact ⟨by rw [HG2.out]; rfl,rfl⟩
set_option maxHeartbeats 4000000 in
set_option maxRecDepth 100000 in
theorem rget_any (o : Ph) (key : ByteArray) (w : World) (h : HP w w.heap.size o) (hf : FitP o) :
  Calls Tryz.prog 30 #[qv o,.string key] w fun e w' => e = .returned (gotV (getP o.ps key)) /\ Below w.heap.size w w':=by
 have HV:=Lib.hid h.sp
 have hfp:=hf.ps
 have B0:=BoxP.new w o
 have hb0 : Below w.heap.size w (w.alloc (.cells #[.int .i64 o.d.id,.string o.d.f,.string o.d.t,.int .i64 o.d.gen,o.sm,.int .i64 o.d.next,o.sp,o.sz,.bool o.fr,o.se,.int .i64 o.al] 38)):=(Below.refl _ w).alloc (Nat.le_refl _) _
 obtain ⟨W0,hW0⟩ : ∃ W0,w.alloc (.cells #[.int .i64 o.d.id,.string o.d.f,.string o.d.t,.int .i64 o.d.gen,o.sm,.int .i64 o.d.next,o.sp,o.sz,.bool o.fr,o.se,.int .i64 o.al] 38) = W0:=⟨_,rfl⟩
 rw [hW0] at B0 hb0
 obtain ⟨d,ps,zs,fr,ea,al,A,B',C,D,a,b,c,e',rfl⟩:=h.open
 simp only at HV hfp B0 hb0 hW0 ⊢
 obtain ⟨r,hR⟩ : ∃ r,getP ps key = r:=⟨_,rfl⟩
 rw [hR]
 have HR:=Lib.hid hR
 obtain ⟨n1,hn1⟩ : ∃ n,d.ms.length = n:=⟨_,rfl⟩
 obtain ⟨n2,hn2⟩ : ∃ n,ps.length = n:=⟨_,rfl⟩
 obtain ⟨n3,hn3⟩ : ∃ n,zs.length = n:=⟨_,rfl⟩
 obtain ⟨n4,hn4⟩ : ∃ n,ea.length = n:=⟨_,rfl⟩
 rw [hn1] at B0 hW0
 rw [hn2] at HV B0 hfp hW0
 rw [hn3] at B0 hW0
 rw [hn4] at B0 hW0
 simp only [qv,hn1,hn2,hn3,hn4]
 have HN:=Lib.hid hn2
 clear hn1 hn2 hn3 hn4 h hf hR
 go_enter Tryz.func30,Tryz.ntmps30
 go_wp2_with fail
 try rw [hW0]
 clear hW0
 go_loopw [6] (fun vi wr => ∃ k : Nat,k <= n2 /\ vi = .int .i64 (k : Int) /\ Hid (getP (ps.drop k) key = r) /\ wr = W0) (fun vi _ => n2 - (intOf vi).toNat)
 case atStart => exact ⟨0,Nat.zero_le _,rfl,Lib.hid (by simpa using HR.out),rfl⟩
 case round =>
  obtain ⟨k,hk,rfl,HG,rfl⟩:=hrel
  obtain ⟨p_0,⟨p_1,p_2,p_3,p_4,p_5,p_6,p_7,p_8,p_9,p_10,p_11⟩,p_12⟩:=_root_.id B0
  by_cases hlt : k < n2
  ·have hkx : k < ps.length:=by rw [HN.out]; exact hlt
   have hv1:=HV.out.below hb0
   rw [<- HN.out] at hv1
   obtain ⟨bb,oo,rfl,hb,q0,q1⟩:=hv1.at_ hkx
   have hg:=HG.out
   rw [List.drop_eq_getElem_cons hkx,getP] at hg
   obtain ⟨⟨x,y⟩,hx⟩ : ∃ y,ps[k] = y:=⟨_,rfl⟩
   rw [hx] at q0 q1 hg
   simp only at q0 q1 hg
   have k0 : (0 <= (k : Int)) = True:=eq_true (by omega)
   have k1 : ((k : Int) < (n2 : Int)) = True:=eq_true (by omega)
   clear hv1 hx hkx
   by_cases h1 : x = key
   ·rw [if_pos h1] at hg
    have l1 : (x.toList == key.toList) = true:=by rw [h1]; simp
    have HG2:=Lib.hid hg
    clear hg h1
    go_wp2_with fail
    go_ret2
    exact ⟨by rw [<- HG2.out]; rfl,hb0⟩
   ·rw [if_neg h1] at hg
    have l1 : (x.toList == key.toList) = false:=by rw [beq_eq_false_iff_ne]; exact fun h => h1 ((Od.ba_iff x key).1 h)
    have l2 : (x.toList = key.toList) = False:=eq_false fun h => h1 ((Od.ba_iff x key).1 h)
    have HG2:=Lib.hid hg
    clear hg h1
    go_wp2_with fail
    go_roundw
    case rel => exact ⟨k + 1,by omega,by go_num,HG2,by trivial⟩
    case measure => simp [intOf]; omega
  ·obtain rfl : k = n2:=by omega
   have hg:=HG.out
   rw [List.drop_of_length_le (by have:=HN.out; omega)] at hg
   have HG2:=Lib.hid hg
   clear hg
   go_wp2_with fail
   go_ret2
   exact ⟨by rw [<- HG2.out]; rfl,hb0⟩
end Go.Proofs.YthcmnkmfhgoddaaGreatDoor.Dp

/- The module of gcd. -/
import Derived.Test.YthffafaoobpedaaGreatDoorM45
import Derived.Test.YthffafaoobpedaaGreatDoorM44
import Derived.Test.YthffafaoobpedaaGreatDoorM43
set_option maxRecDepth 100000
set_option maxHeartbeats 1000000
namespace Go.Proofs.YthffafaoobpedaaGreatDoor
namespace Xe
def QZ:ByteArray:=⟨#[103,99,100]⟩
def dG:Vf.Md:=⟨[⟨1,20⟩],[⟨2,2,[1,1],1,0,[⟨3,1,0⟩,⟨1,0,0⟩,⟨13,0,0⟩,⟨22,7,0⟩,⟨3,0,0⟩,⟨24,0,0⟩,⟨21,7,0⟩,⟨3,1,0⟩,⟨3,0,0⟩,⟨3,1,0⟩,⟨12,0,0⟩,⟨23,0,0⟩,⟨24,0,0⟩,⟨1,0,0⟩,⟨24,0,0⟩]⟩,⟨4,0,[],0,0,[⟨2,1,0⟩,⟨22,7,0⟩,⟨27,0,0⟩,⟨27,0,0⟩,⟨23,0,0⟩,⟨28,0,0⟩,⟨21,0,0⟩,⟨25,0,0⟩]⟩]⟩
set_option maxRecDepth 1000000 in
theorem ade:ans (QY 16 [.string QZ] s0)=some dG:=by kernel_rfl
end Xe
end Go.Proofs.YthffafaoobpedaaGreatDoor
namespace Go.Proofs.YthffafaoobpedaaGreatDoor.Vw
open Go.RowKit Vf Vm
def u6:Nat→Nat→Nat→Bool
 | 0,_,_=>false
 | f+1,x,y=>if y=0 then true else u6 f y (x % y)
theorem Q0:∀ (j x y:Nat),y < 2 ^ j→u6 (2 * j+1) x y=true
 | 0,x,y,h=>by
  have:y=0:=by simp at h;exact h
  subst this
  rfl
 | j+1,x,y,h=>by
  rw [show 2 * (j+1)+1=(2 * j+1)+1+1 by omega]
  unfold u6
  split
  ·rfl
  ·rename_i hy
   unfold u6
   split
   ·rfl
   ·rename_i hr
    refine Q0 j _ _ ?_
    have h1:x % y < y:=Nat.mod_lt x (by omega)
    have h2:y % (x % y) < x % y:=Nat.mod_lt y (by omega)
    have h3:y % (x % y)≤y - x % y:=by
     have:=Nat.mod_eq_sub_mod (a:=y) (b:=x % y) (by omega)
     rw [this]
     exact Nat.mod_le _ _
    rw [Nat.pow_succ] at h
    omega
theorem Q3 (o:List Int)(X:List aR):∀ (f x y:Nat) (p:List Int) (F:List Wk),u6 f x y=true→x < 1000000→y < 1000000→F.length+f < 40→p.length+4 * f < 390 →
  Goes Xe.dG (10 * f+6) (sc (p ++ [(x:Int),(y:Int)]) (⟨0,0,p.length⟩ :: F) o X) (sc (p ++ [((Nat.gcd x y:Nat):Int)]) F o X)
 | 0,_,_,_,_,h,_,_,_,_=>by cases h
 | f+1,x,y,p,F,h,hx,hy,hF,hp=>by
  have e2:∀ v:Int,p ++ [(x:Int),(y:Int)] ++ [v]=p ++ [(x:Int),(y:Int)] ++ [v]:=fun _=>rfl
  have h1:Goes Xe.dG 1 (sc (p ++ [(x:Int),(y:Int)]) (⟨0,0,p.length⟩ :: F) o X) (sc (p ++ [(x:Int),(y:Int)] ++ [(y:Int)]) (⟨0,1,p.length⟩ :: F) o X):=Af (a:=1) (n:=0) rfl (by simp) (by simp;omega)
  have h2:Goes Xe.dG 1 (sc (p ++ [(x:Int),(y:Int)] ++ [(y:Int)]) (⟨0,1,p.length⟩ :: F) o X) (sc (p ++ [(x:Int),(y:Int)] ++ [(y:Int)] ++ [0]) (⟨0,2,p.length⟩ :: F) o X):=acL (a:=0) rfl (by simp;omega)
  have h3:Goes Xe.dG 1 (sc (p ++ [(x:Int),(y:Int)] ++ [(y:Int)] ++ [0]) (⟨0,2,p.length⟩ :: F) o X) (sc (p ++ [(x:Int),(y:Int)] ++ [Vm.two 13 (y:Int) 0]) (⟨0,3,p.length⟩ :: F) o X):=QE (op:=13) (a:=0) (n:=0) rfl (by decide) (by decide) (fun _ _=>rfl) (.inr ⟨by decide,by decide⟩) (by simp;omega)
  have e3:Vm.two 13 (y:Int) 0=yes ((y:Int) == 0):=rfl
  rw [e3] at h3
  have h4:Goes Xe.dG 1 (sc (p ++ [(x:Int),(y:Int)] ++ [yes ((y:Int) == 0)]) (⟨0,3,p.length⟩ :: F) o X) (sc (p ++ [(x:Int),(y:Int)]) (⟨0,if yes ((y:Int) == 0)=0 then 7 else 4,p.length⟩ :: F) o X):=acM (a:=7) (n:=0) rfl
  have hA:=((h1.trans h2).trans h3).trans h4
  by_cases hy0:y=0
  ·subst hy0
   have h5:Goes Xe.dG 1 (sc (p ++ [(x:Int),((0:Nat):Int)]) (⟨0,4,p.length⟩ :: F) o X) (sc (p ++ [(x:Int),((0:Nat):Int)] ++ [(x:Int)]) (⟨0,5,p.length⟩ :: F) o X):=Af (a:=0) (n:=0) rfl (by simp) (by simp;omega)
   have h6:Goes Xe.dG 1 (sc (p ++ [(x:Int),((0:Nat):Int)] ++ [(x:Int)]) (⟨0,5,p.length⟩ :: F) o X) (sc (p ++ [(x:Int)]) F o X):=QF (a:=0) (n:=0) rfl (by omega)
   rw [Nat.gcd_zero_right]
   exact ((hA.trans h5).trans h6).mono (by omega)
  ·have hyb:((y:Int) == 0)=false:=by
    have:¬ (y:Int)=0:=by omega
    simpa using this
   rw [hyb] at hA
   have h5:Goes Xe.dG 1 (sc (p ++ [(x:Int),(y:Int)]) (⟨0,7,p.length⟩ :: F) o X) (sc (p ++ [(x:Int),(y:Int)] ++ [(y:Int)]) (⟨0,8,p.length⟩ :: F) o X):=Af (a:=1) (n:=0) rfl (by simp) (by simp;omega)
   have h6:Goes Xe.dG 1 (sc (p ++ [(x:Int),(y:Int)] ++ [(y:Int)]) (⟨0,8,p.length⟩ :: F) o X) (sc (p ++ [(x:Int),(y:Int)] ++ [(y:Int)] ++ [(x:Int)]) (⟨0,9,p.length⟩ :: F) o X):=Af (a:=0) (n:=0) rfl (by simp) (by simp;omega)
   have h7:Goes Xe.dG 1 (sc (p ++ [(x:Int),(y:Int)] ++ [(y:Int)] ++ [(x:Int)]) (⟨0,9,p.length⟩ :: F) o X) (sc (p ++ [(x:Int),(y:Int)] ++ [(y:Int)] ++ [(x:Int)] ++ [(y:Int)]) (⟨0,10,p.length⟩ :: F) o X):=Af (a:=1) (n:=0) rfl (by simp) (by simp;omega)
   have h8:Goes Xe.dG 1 (sc (p ++ [(x:Int),(y:Int)] ++ [(y:Int)] ++ [(x:Int)] ++ [(y:Int)]) (⟨0,10,p.length⟩ :: F) o X) (sc (p ++ [(x:Int),(y:Int)] ++ [(y:Int)] ++ [Vm.two 12 (x:Int) (y:Int)]) (⟨0,11,p.length⟩ :: F) o X):=QE (op:=12) (a:=0) (n:=0) rfl (by decide) (by decide) (fun _ _=>rfl) (.inl (by omega)) (by simp;omega)
   have e8:Vm.two 12 (x:Int) (y:Int)=((x % y:Nat):Int):=by
    show (x:Int).tmod (y:Int)=_
    rw [Int.tmod_eq_emod_of_nonneg (by omega),Int.natCast_emod]
   rw [e8] at h8
   have hr:x % y < y:=Nat.mod_lt x (by omega)
   have h9:Goes Xe.dG 1 (sc ((p ++ [(x:Int),(y:Int)]) ++ [(y:Int),((x % y:Nat):Int)]) (⟨0,11,p.length⟩ :: F) o X) (sc ((p ++ [(x:Int),(y:Int)]) ++ [(y:Int),((x % y:Nat):Int)]) (⟨0,0,(p ++ [(x:Int),(y:Int)]).length⟩ :: ⟨0,12,p.length⟩ :: F) o X):=acN (f:=0) (n:=0) rfl rfl rfl (by omega) (by simp;omega)
   have hE:u6 f y (x % y)=true:=by
    unfold u6 at h
    rwa [if_neg hy0] at h
   have h10:=Q3 o X f y (x % y) (p ++ [(x:Int),(y:Int)]) (⟨0,12,p.length⟩ :: F) hE hy (by omega) (by simp;omega) (by simp;omega)
   have h11:Goes Xe.dG 1 (sc (p ++ [(x:Int),(y:Int)] ++ [((Nat.gcd y (x % y):Nat):Int)]) (⟨0,12,p.length⟩ :: F) o X) (sc (p ++ [((Nat.gcd y (x % y):Nat):Int)]) F o X):=QF (a:=0) (n:=0) rfl (by omega)
   have e9:p ++ [(x:Int),(y:Int)] ++ [(y:Int)] ++ [((x % y:Nat):Int)]=(p ++ [(x:Int),(y:Int)]) ++ [(y:Int),((x % y:Nat):Int)]:=by simp
   rw [e9] at h8
   have eg:Nat.gcd x y=Nat.gcd y (x % y):=by rw [Nat.gcd_comm x y,Nat.gcd_rec y x,Nat.gcd_comm]
   rw [eg]
   exact (((((((hA.trans h5).trans h6).trans h7).trans h8).trans h9).trans h10).trans h11).mono (by omega)
def ib:List Int→List Int
 | a :: b :: l=>((Nat.gcd a.toNat b.toNat:Nat):Int) :: ib l
 | _=>[]
def qK:List Int→Prop
 | a :: b :: l=>(0≤a∧0≤b)∧qK l
 | _=>True
open Xe in
theorem Q4 (l:List Int):∀ (r:List Int) (k:Nat) (o:List Int),l.drop k=r→k≤l.length→qK r→(∀ v ∈ r,v≤1000) →
  ∃ ws pc,(pc=2∨pc=3)∧Goes dG (115 * r.length+4) (cf 1 [] 0 o [⟨l,k,[]⟩]) (cf 1 ws pc (o ++ ib r) [⟨l,l.length,[]⟩])
 | [],k,o,hr,hk,_,_=>by
  obtain rfl:=QG hr hk
  have h1:Goes dG 2 (cf 1 [] 0 o [⟨l,l.length,[]⟩]) (cf 1 [] 2 o [⟨l,l.length,[]⟩]):=.run 2 fun _ _=>by kernel_rfl
  exact ⟨[],2,.inl rfl,(h1.mono (by omega)).cast rfl (by simp [ib])⟩
 | [v],k,o,hr,hk,_,_=>by
  obtain ⟨hv,hlt,hd⟩:=IW hr
  have he:=QG hd hlt
  have h1:Goes dG 2 (cf 1 [] 0 o [⟨l,k,[]⟩]) (cf 1 [] 2 o [⟨l,k,[]⟩]):=.run 2 fun _ _=>by kernel_rfl
  have h2:Goes dG 1 (cf 1 [] 2 o [⟨l,k,[]⟩]) (cf 1 [v] 3 o [⟨l,k+1,[]⟩]):=.recv (fun v=>cf 1 [v] 3 o [⟨l,k+1,[]⟩]) hv (fun _=>IV rfl rfl rfl hlt) (q:=0) (fun _=>by kernel_rfl)
  rw [he] at h2
  exact ⟨[v],3,.inr rfl,((h1.trans h2).mono (by simp)).cast rfl (by simp [ib])⟩
 | v :: u :: r,k,o,hr,hk,hp,hs=>by
  obtain ⟨hv,hlt,hd⟩:=IW hr
  obtain ⟨hu,hlt2,hd2⟩:=IW hd
  obtain ⟨⟨hp1,hp2⟩,hp3⟩:=hp
  have hs1:=hs v (by simp)
  have hs2:=hs u (by simp)
  have h1:Goes dG 2 (cf 1 [] 0 o [⟨l,k,[]⟩]) (cf 1 [] 2 o [⟨l,k,[]⟩]):=.run 2 fun _ _=>by kernel_rfl
  have h2:Goes dG 1 (cf 1 [] 2 o [⟨l,k,[]⟩]) (cf 1 [v] 3 o [⟨l,k+1,[]⟩]):=.recv (fun v=>cf 1 [v] 3 o [⟨l,k+1,[]⟩]) hv (fun _=>IV rfl rfl rfl hlt) (q:=0) (fun _=>by kernel_rfl)
  have h3:Goes dG 1 (cf 1 [v] 3 o [⟨l,k+1,[]⟩]) (cf 1 [v,u] 4 o [⟨l,k+1+1,[]⟩]):=.recv (fun u=>cf 1 [v,u] 4 o [⟨l,k+1+1,[]⟩]) hu (fun _=>IV rfl rfl rfl hlt2) (q:=0) (fun _=>by kernel_rfl)
  have h4:Goes dG 1 (cf 1 [v,u] 4 o [⟨l,k+1+1,[]⟩]) (sc ([] ++ [v,u]) [⟨0,0,0⟩,⟨1,5,0⟩] o [⟨l,k+1+1,[]⟩]):=.run 1 fun _ _=>by kernel_rfl
  obtain ⟨x,rfl⟩:∃ x:Nat,v=x:=⟨v.toNat,by omega⟩
  obtain ⟨y,rfl⟩:∃ y:Nat,u=y:=⟨u.toNat,by omega⟩
  have h5:=Q3 o [⟨l,k+1+1,[]⟩] 21 x y [] [⟨1,5,0⟩] (Q0 10 x y (by omega)) (by omega) (by omega) (by decide) (by decide)
  have h6:Goes dG 2 (sc ([] ++ [((Nat.gcd x y:Nat):Int)]) [⟨1,5,0⟩] o [⟨l,k+1+1,[]⟩]) (cf 1 [] 0 (o ++ [((Nat.gcd x y:Nat):Int)]) [⟨l,k+1+1,[]⟩]):=.run' 2 [⟨1,0,((Nat.gcd x y:Nat):Int)⟩] fun _ _=>by kernel_rfl
  obtain ⟨ws,pc,hpc,h7⟩:=Q4 l r (k+1+1) (o ++ [((Nat.gcd x y:Nat):Int)]) hd2 hlt2 hp3 (fun w hw=>hs w (by simp [hw]))
  refine ⟨ws,pc,hpc,(((((((h1.trans h2).trans h3).trans h4).trans h5).trans h6).trans h7).mono ?_).cast rfl ?_⟩
  ·simp only [List.length_cons];omega
  ·simp [ib]
set_option maxRecDepth 1000000 in
theorem adf (l:List Int):ql Xe.dG 0 5000 [l]=0:=by kernel_rfl
theorem adg:Db Xe.QZ Xe.dG:=⟨⟨_,Xe.adb,Xe.ade⟩,by decide⟩
theorem adh (l:List Int):eT Xe.dG 0 5000 [l]=go aC Xe.dG 5000 ((cf 1 [] 0 [] [⟨l,0,[]⟩]).tk []) [⟨l,0,[]⟩]:=by kernel_rfl
theorem Q5 (l:List Int)(h:l.length≤12)(hg:qK l)(hs:∀ v ∈ l,v≤1000):(eT Xe.dG 0 5000 [l]).2.1.out=ib l∧(stat aC Xe.dG (eT Xe.dG 0 5000 [l]).2.1 (eT Xe.dG 0 5000 [l]).2.2).1=3:=by
 obtain ⟨ws,pc,hpc,hgo⟩:=Q4 l l 0 [] rfl (Nat.zero_le _) hg hs
 exact hgo.says (fun _=>by rcases hpc with rfl | rfl <;> exact acH rfl rfl rfl) (by omega) (adh l) (by simp)
def kX (M:Int)(l:List Int):Bool:=decide (l.length≤12) && l.all (fun v=>decide (-M≤v) && decide (v≤M))
theorem Q6 {M:Int}{l:List Int}(h:kX M l=true):l.length≤12:=by
 unfold kX at h
 rw [Bool.and_eq_true] at h
 exact of_decide_eq_true h.1
theorem Q7 {M:Int}{l:List Int}(h:kX M l=true):∀ v ∈ l,-M≤v∧v≤M:=by
 unfold kX at h
 rw [Bool.and_eq_true] at h
 intro v hv
 have:=List.all_eq_true.1 h.2 v hv
 rw [Bool.and_eq_true] at this
 exact ⟨of_decide_eq_true this.1,of_decide_eq_true this.2⟩
theorem adi {M:Int}{l:List Int}(hl:l.length≤12)(h:∀ v ∈ l,-M≤v∧v≤M):true=kX M l:=by
 unfold kX
 rw [decide_eq_true hl,Bool.true_and]
 exact (List.all_eq_true.2 fun v hv=>by rw [decide_eq_true (h v hv).1,decide_eq_true (h v hv).2];rfl).symm
theorem I8 {M:Int}{l:List Int}(h:12 < l.length∨∃ v ∈ l,v < -M∨M < v):false=kX M l:=by
 cases hb:kX M l with
 | false=>rfl
 | true =>
  exfalso
  have h1:=Q6 hb
  rcases h with h | ⟨v,hv,h⟩
  ·omega
  ·have:=Q7 hb v hv
   omega
theorem adj (l:List Int)(a:Option Addr)(c:Nat)(w:World)(M:Int)(hM:0≤M∧M≤1000000000)(hw:Hid (In64 w w.heap.size a l))(hn:l.length≤9223372036854775807) :
  Calls Tryz.prog 9 #[.slice a l.length c,.int .i64 M] w fun e w'=>e=.returned (.bool (kX M l))∧∃ d,w'=w.drewN d:=by
 have hneg:IntKind.i64.wrap (-M)=-M:=IntWalk.i64_in _ ⟨by omega,by omega⟩
 go_enter Tryz.func9,Tryz.ntmps9
 by_cases hl:l.length≤12
 ·have n1:¬ (12:Int) < (l.length:Int):=by omega
  go_wp2
  go_loopw [12] (fun i wr=>∃ k d:Nat,k≤l.length∧i=.int .i64 k∧wr=w.drewN d∧∀ v ∈ l.take k,-M≤v∧v≤M) (fun i _=>l.length - (intOf i).toNat)
  case atStart=>exact ⟨0,0,Nat.zero_le _,rfl,rfl,fun v hv=>by cases hv⟩
  case round =>
   obtain ⟨k,d,hk,rfl,rfl,hall⟩:=hrel
   have Q8:=Sb.hide hall
   clear hall
   by_cases hlt:k < l.length
   ·obtain ⟨x,hx⟩:∃ x,l[k]?=some x:=⟨_,List.getElem?_eq_getElem hlt⟩
    obtain ⟨b,off,ha,hbw,hc⟩:=hw.out k x hx
    have HX:Hid (l.take (k+1)=l.take k ++ [x]):=by unfold Hid;rw [List.take_add_one,hx];rfl
    have Q9:Hid (x ∈ l):=List.mem_of_getElem? hx
    obtain ⟨ml,di⟩:∃ m,m=l.length:=⟨_,rfl⟩
    rw [ha,← di]
    rw [← di] at hlt hl hn hk
    have kJ:=Sb.hide di
    have n0:(0:Int)≤(k:Int):=by omega
    have n2:(k:Int) < (ml:Int):=by omega
    have hc1:(w.drewN d).cell? ⟨b,off+k,none⟩=some (.int .i64 x):=hc
    clear di ha hx n1 hc
    by_cases h1:x < -M
    ·have Ah:Hid (false=kX M l):=I8 (.inr ⟨x,Q9.out,.inl h1⟩)
     go_wp2
     (try go_quiet (fail))
     (try go_wp2)
     go_ret
     exact ⟨by rw [← Ah.out];rfl,_,rfl⟩
    ·by_cases h2:M < x
     ·have Ah:Hid (false=kX M l):=I8 (.inr ⟨x,Q9.out,.inr h2⟩)
      go_wp2
      (try go_quiet (fail))
      (try go_wp2)
      go_ret
      exact ⟨by rw [← Ah.out];rfl,_,rfl⟩
     ·have dV:Hid (∀ v ∈ l.take (k+1),-M≤v∧v≤M):=fun v hv=>by
       rw [HX.out,List.mem_append,List.mem_singleton] at hv
       rcases hv with hv | rfl
       ·exact Q8.out v hv
       ·exact ⟨by omega,by omega⟩
      go_wp2
      (try go_quiet (fail))
      (try go_wp2)
      go_roundw
      case rel=>exact ⟨k+1,_,by have:=kJ.out;omega,by go_num,rfl,dV.out⟩
      case measure=>simp [intOf];omega
   ·have ek:k=l.length:=by omega
    subst ek
    have n3:¬ (l.length:Int) < (l.length:Int):=by omega
    have adk:Hid (true=kX M l):=by
     refine adi hl fun v hv=>Q8.out v ?_
     rw [List.take_length];exact hv
    go_wp2
    go_ret
    exact ⟨by rw [← adk.out];rfl,_,rfl⟩
 ·have n1:(12:Int) < (l.length:Int):=by omega
  have Ah:Hid (false=kX M l):=I8 (.inl (by omega))
  go_wp2
  go_ret
  exact ⟨by rw [← Ah.out];rfl,0,rfl⟩
end Go.Proofs.YthffafaoobpedaaGreatDoor.Vw

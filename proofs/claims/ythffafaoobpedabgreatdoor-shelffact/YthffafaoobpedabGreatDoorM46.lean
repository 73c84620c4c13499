/- The module of fact. -/
import Derived.Test.YthffafaoobpedabGreatDoorM45
import Derived.Test.YthffafaoobpedabGreatDoorM44
import Derived.Test.YthffafaoobpedabGreatDoorM43
set_option maxRecDepth 100000
set_option maxHeartbeats 1000000
namespace Go.Proofs.YthffafaoobpedabGreatDoor
namespace Xe
def nFact:ByteArray:=⟨#[102,97,99,116]⟩
def mFact:Vf.Md:=⟨[⟨1,20⟩],[⟨2,1,[1],1,0,[⟨3,0,0⟩,⟨1,0,2⟩,⟨15,0,0⟩,⟨22,7,0⟩,⟨1,0,1⟩,⟨24,0,0⟩,⟨21,7,0⟩,⟨3,0,0⟩,⟨3,0,0⟩,⟨1,0,1⟩,⟨9,0,0⟩,⟨23,0,0⟩,⟨10,0,0⟩,⟨24,0,0⟩,⟨1,0,0⟩,⟨24,0,0⟩]⟩,⟨4,0,[],0,0,[⟨2,1,0⟩,⟨22,6,0⟩,⟨27,0,0⟩,⟨23,0,0⟩,⟨28,0,0⟩,⟨21,0,0⟩,⟨25,0,0⟩]⟩]⟩
set_option maxRecDepth 1000000 in
theorem ans_fact:ans (fn2 12 [.string nFact] s0)=some mFact:=by kernel_rfl
end Xe
end Go.Proofs.YthffafaoobpedabGreatDoor
namespace Go.Proofs.YthffafaoobpedabGreatDoor.Vw
open Go.RowKit Vf Vm
def fcW:Nat→Int
 | 0=>1
 | 1=>1
 | k+2=>wrap (fcW (k+1) * ((k+2:Nat):Int))
theorem fact_go (o:List Int)(X:List Lst):∀ (N:Nat) (p:List Int) (F:List Wk),F.length+N+1 < 40→p.length+4 * N < 380→N < 1000 →
  Goes Xe.mFact (11 * N+17) (sc (p ++ [(N:Int)]) (⟨0,0,p.length⟩ :: F) o X) (sc (p ++ [fcW N]) F o X):=by
 intro N
 induction N with
 | zero =>
  intro p F hF hp _
  have h1:Goes Xe.mFact 1 (sc (p ++ [0]) (⟨0,0,p.length⟩ :: F) o X) (sc (p ++ [0] ++ [0]) (⟨0,1,p.length⟩ :: F) o X):=sc_get (a:=0) (n:=0) rfl (by simp) (by simp;omega)
  have h2:Goes Xe.mFact 1 (sc (p ++ [0] ++ [0]) (⟨0,1,p.length⟩ :: F) o X) (sc (p ++ [0] ++ [0] ++ [2]) (⟨0,2,p.length⟩ :: F) o X):=sc_push (a:=0) rfl (by simp;omega)
  have h3:Goes Xe.mFact 1 (sc (p ++ [0] ++ [0] ++ [2]) (⟨0,2,p.length⟩ :: F) o X) (sc (p ++ [0] ++ [1]) (⟨0,3,p.length⟩ :: F) o X):=sc_bin (op:=15) (a:=0) (n:=0) rfl (by decide) (by decide) (fun _ _=>rfl) (.inr ⟨by decide,by decide⟩) (by simp;omega)
  have h4:Goes Xe.mFact 1 (sc (p ++ [0] ++ [1]) (⟨0,3,p.length⟩ :: F) o X) (sc (p ++ [0]) (⟨0,4,p.length⟩ :: F) o X):=sc_else (a:=7) (n:=0) rfl
  have h5:Goes Xe.mFact 1 (sc (p ++ [0]) (⟨0,4,p.length⟩ :: F) o X) (sc (p ++ [0] ++ [1]) (⟨0,5,p.length⟩ :: F) o X):=sc_push (a:=0) rfl (by simp;omega)
  have h6:Goes Xe.mFact 1 (sc (p ++ [0] ++ [1]) (⟨0,5,p.length⟩ :: F) o X) (sc (p ++ [1]) F o X):=sc_ret (a:=0) (n:=0) rfl (by omega)
  exact (((((h1.trans h2).trans h3).trans h4).trans h5).trans h6).mono (by omega)
 | succ N ih =>
  intro p F hF hp hN
  obtain ⟨n,hn⟩:∃ n:Int,n=((N+1:Nat):Int):=⟨_,rfl⟩
  rw [← hn]
  have h1:Goes Xe.mFact 1 (sc (p ++ [n]) (⟨0,0,p.length⟩ :: F) o X) (sc (p ++ [n] ++ [n]) (⟨0,1,p.length⟩ :: F) o X):=sc_get (a:=0) (n:=0) rfl (by simp) (by simp;omega)
  have h2:Goes Xe.mFact 1 (sc (p ++ [n] ++ [n]) (⟨0,1,p.length⟩ :: F) o X) (sc (p ++ [n] ++ [n] ++ [2]) (⟨0,2,p.length⟩ :: F) o X):=sc_push (a:=0) rfl (by simp;omega)
  have h3:Goes Xe.mFact 1 (sc (p ++ [n] ++ [n] ++ [2]) (⟨0,2,p.length⟩ :: F) o X) (sc (p ++ [n] ++ [yes (decide (n < 2))]) (⟨0,3,p.length⟩ :: F) o X):=sc_bin (op:=15) (a:=0) (n:=0) rfl (by decide) (by decide) (fun _ _=>rfl) (.inr ⟨by decide,by decide⟩) (by simp;omega)
  have h4:Goes Xe.mFact 1 (sc (p ++ [n] ++ [yes (decide (n < 2))]) (⟨0,3,p.length⟩ :: F) o X) (sc (p ++ [n]) (⟨0,if yes (decide (n < 2))=0 then 7 else 4,p.length⟩ :: F) o X):=sc_else (a:=7) (n:=0) rfl
  have hA:=((h1.trans h2).trans h3).trans h4
  cases N with
  | zero =>
   have e:decide (n < 2)=true:=by rw [hn];rfl
   rw [e] at hA
   have h5:Goes Xe.mFact 1 (sc (p ++ [n]) (⟨0,4,p.length⟩ :: F) o X) (sc (p ++ [n] ++ [1]) (⟨0,5,p.length⟩ :: F) o X):=sc_push (a:=0) rfl (by simp;omega)
   have h6:Goes Xe.mFact 1 (sc (p ++ [n] ++ [1]) (⟨0,5,p.length⟩ :: F) o X) (sc (p ++ [1]) F o X):=sc_ret (a:=0) (n:=0) rfl (by omega)
   exact ((hA.trans h5).trans h6).mono (by omega)
  | succ N =>
   have e:decide (n < 2)=false:=decide_eq_false (by rw [hn];omega)
   rw [e] at hA
   have h5:Goes Xe.mFact 1 (sc (p ++ [n]) (⟨0,7,p.length⟩ :: F) o X) (sc (p ++ [n] ++ [n]) (⟨0,8,p.length⟩ :: F) o X):=sc_get (a:=0) (n:=0) rfl (by simp) (by simp;omega)
   have h6:Goes Xe.mFact 1 (sc (p ++ [n] ++ [n]) (⟨0,8,p.length⟩ :: F) o X) (sc (p ++ [n] ++ [n] ++ [n]) (⟨0,9,p.length⟩ :: F) o X):=sc_get (a:=0) (n:=0) rfl (by simp) (by simp;omega)
   have h7:Goes Xe.mFact 1 (sc (p ++ [n] ++ [n] ++ [n]) (⟨0,9,p.length⟩ :: F) o X) (sc (p ++ [n] ++ [n] ++ [n] ++ [1]) (⟨0,10,p.length⟩ :: F) o X):=sc_push (a:=0) rfl (by simp;omega)
   have h8:Goes Xe.mFact 1 (sc (p ++ [n] ++ [n] ++ [n] ++ [1]) (⟨0,10,p.length⟩ :: F) o X) (sc (p ++ [n] ++ [n] ++ [wrap (n - 1)]) (⟨0,11,p.length⟩ :: F) o X):=sc_bin (op:=9) (a:=0) (n:=0) rfl (by decide) (by decide) (fun _ _=>rfl) (.inr ⟨by decide,by decide⟩) (by simp;omega)
   have e8:wrap (n - 1)=((N+1:Nat):Int):=by rw [hn];exact (wrap_in (by omega) (by omega)).trans (by omega)
   rw [e8] at h8
   have h9:Goes Xe.mFact 1 (sc ((p ++ [n] ++ [n]) ++ [((N+1:Nat):Int)]) (⟨0,11,p.length⟩ :: F) o X) (sc ((p ++ [n] ++ [n]) ++ [((N+1:Nat):Int)]) (⟨0,0,(p ++ [n] ++ [n]).length⟩ :: ⟨0,12,p.length⟩ :: F) o X):=sc_call (f:=0) (n:=0) rfl rfl rfl (by omega) (by simp;omega)
   have h10:=ih (p ++ [n] ++ [n]) (⟨0,12,p.length⟩ :: F) (by simp;omega) (by simp;omega) (by omega)
   have h11:Goes Xe.mFact 1 (sc ((p ++ [n] ++ [n]) ++ [fcW (N+1)]) (⟨0,12,p.length⟩ :: F) o X) (sc (p ++ [n] ++ [wrap (n * fcW (N+1))]) (⟨0,13,p.length⟩ :: F) o X):=sc_bin (op:=10) (a:=0) (n:=0) rfl (by decide) (by decide) (fun _ _=>rfl) (.inr ⟨by decide,by decide⟩) (by simp;omega)
   have h12:Goes Xe.mFact 1 (sc (p ++ [n] ++ [wrap (n * fcW (N+1))]) (⟨0,13,p.length⟩ :: F) o X) (sc (p ++ [wrap (n * fcW (N+1))]) F o X):=sc_ret (a:=0) (n:=0) rfl (by omega)
   have e9:fcW (N+1+1)=wrap (n * fcW (N+1)):=by rw [Int.mul_comm,hn];rfl
   rw [e9]
   exact ((((((((hA.trans h5).trans h6).trans h7).trans h8).trans h9).trans h10).trans h11).trans h12).mono (by omega)
def factOf (v:Int):Int:=fcW v.toNat
open Xe in
theorem fact_low (v:Int)(hv:v < 2)(o:List Int)(X:List Lst):Goes mFact 6 (sc ([] ++ [v]) [⟨0,0,0⟩,⟨1,4,0⟩] o X) (sc ([] ++ [1]) [⟨1,4,0⟩] o X):=by
 have h1:Goes mFact 3 (sc [v] [⟨0,0,0⟩,⟨1,4,0⟩] o X) (sc [v,yes (decide (v < 2))] [⟨0,3,0⟩,⟨1,4,0⟩] o X):=.run 3 fun _ _=>by kernel_rfl
 rw [decide_eq_true hv] at h1
 have h2:Goes mFact 3 (sc [v,yes true] [⟨0,3,0⟩,⟨1,4,0⟩] o X) (sc [1] [⟨1,4,0⟩] o X):=.run 3 fun _ _=>by kernel_rfl
 exact h1.trans h2
open Xe in
theorem fact_all (l:List Int)(hl:∀ v ∈ l,v≤20):∀ (j k:Nat) (o:List Int),l.length=k+j →
  Goes mFact (250 * j+2) (cf 1 [] 0 o [⟨l,k,[]⟩]) (cf 1 [] 2 (o ++ (l.drop k).map factOf) [⟨l,l.length,[]⟩])
 | 0,k,o,hk=>by
  have hk:k=l.length:=by omega
  subst hk
  have h1:Goes mFact 2 (cf 1 [] 0 o [⟨l,l.length,[]⟩]) (cf 1 [] 2 o [⟨l,l.length,[]⟩]):=.run 2 fun _ _=>by kernel_rfl
  simpa using h1
 | j+1,k,o,hk=>by
  have hlt:k < l.length:=by omega
  obtain ⟨v,hv⟩:∃ v,l[k]?=some v:=⟨_,List.getElem?_eq_getElem hlt⟩
  have hvl:=hl v (List.mem_of_getElem? hv)
  have h1:Goes mFact 2 (cf 1 [] 0 o [⟨l,k,[]⟩]) (cf 1 [] 2 o [⟨l,k,[]⟩]):=.run 2 fun _ _=>by kernel_rfl
  have h2:Goes mFact 1 (cf 1 [] 2 o [⟨l,k,[]⟩]) (cf 1 [v] 3 o [⟨l,k+1,[]⟩]):=.recv (fun v=>cf 1 [v] 3 o [⟨l,k+1,[]⟩]) hv (fun _=>stat_more rfl rfl rfl hlt) (q:=0) (fun _=>by kernel_rfl)
  have h3:Goes mFact 1 (cf 1 [v] 3 o [⟨l,k+1,[]⟩]) (sc ([] ++ [v]) [⟨0,0,0⟩,⟨1,4,0⟩] o [⟨l,k+1,[]⟩]):=.run 1 fun _ _=>by kernel_rfl
  have h4:Goes mFact 240 (sc ([] ++ [v]) [⟨0,0,0⟩,⟨1,4,0⟩] o [⟨l,k+1,[]⟩]) (sc ([] ++ [factOf v]) [⟨1,4,0⟩] o [⟨l,k+1,[]⟩]):=by
   by_cases h0:v < 2
   ·have e:factOf v=1:=by
     have:v.toNat=0∨v.toNat=1:=by omega
     unfold factOf
     rcases this with h | h <;> rw [h] <;> rfl
    rw [e]
    exact (fact_low v h0 o _).mono (by decide)
   ·obtain ⟨N,rfl⟩:∃ N:Nat,v=N:=⟨v.toNat,by omega⟩
    exact (fact_go o [⟨l,k+1,[]⟩] N [] [⟨1,4,0⟩] (by simp;omega) (by simp;omega) (by omega)).mono (by omega)
  have h5:Goes mFact 2 (sc ([] ++ [factOf v]) [⟨1,4,0⟩] o [⟨l,k+1,[]⟩]) (cf 1 [] 0 (o ++ [factOf v]) [⟨l,k+1,[]⟩]):=.run' 2 [⟨1,0,factOf v⟩] fun _ _=>by kernel_rfl
  have h6:=fact_all l hl j (k+1) (o ++ [factOf v]) (by omega)
  refine ((((((h1.trans h2).trans h3).trans h4).trans h5).trans h6).mono (by omega)).cast rfl ?_
  rw [drop_one hv]
  simp
set_option maxRecDepth 1000000 in
theorem fact_fits (l:List Int):soloE Xe.mFact 0 5000 [l]=0:=by kernel_rfl
theorem fact_asked:Asked Xe.nFact Xe.mFact:=⟨⟨_,Xe.fn2_ok,Xe.ans_fact⟩,by decide⟩
theorem fact_first (l:List Int):soloR Xe.mFact 0 5000 [l]=go lsX Xe.mFact 5000 ((cf 1 [] 0 [] [⟨l,0,[]⟩]).tk []) [⟨l,0,[]⟩]:=by kernel_rfl
theorem fact_says (l:List Int)(h:l.length≤12)(hs:∀ v ∈ l,v≤20):(soloR Xe.mFact 0 5000 [l]).2.1.out=l.map factOf∧(stat lsX Xe.mFact (soloR Xe.mFact 0 5000 [l]).2.1 (soloR Xe.mFact 0 5000 [l]).2.2).1=3 :=
 (fact_all l hs l.length 0 [] (by omega)).says (fun _=>stat_none rfl rfl rfl) (by omega) (fact_first l) (by simp)
def smallB (M:Int)(l:List Int):Bool:=decide (l.length≤12) && l.all (fun v=>decide (-M≤v) && decide (v≤M))
theorem smallB_len {M:Int}{l:List Int}(h:smallB M l=true):l.length≤12:=by
 unfold smallB at h
 rw [Bool.and_eq_true] at h
 exact of_decide_eq_true h.1
theorem smallB_all {M:Int}{l:List Int}(h:smallB M l=true):∀ v ∈ l,-M≤v∧v≤M:=by
 unfold smallB at h
 rw [Bool.and_eq_true] at h
 intro v hv
 have:=List.all_eq_true.1 h.2 v hv
 rw [Bool.and_eq_true] at this
 exact ⟨of_decide_eq_true this.1,of_decide_eq_true this.2⟩
theorem smallB_yes {M:Int}{l:List Int}(hl:l.length≤12)(h:∀ v ∈ l,-M≤v∧v≤M):true=smallB M l:=by
 unfold smallB
 rw [decide_eq_true hl,Bool.true_and]
 exact (List.all_eq_true.2 fun v hv=>by rw [decide_eq_true (h v hv).1,decide_eq_true (h v hv).2];rfl).symm
theorem smallB_no {M:Int}{l:List Int}(h:12 < l.length∨∃ v ∈ l,v < -M∨M < v):false=smallB M l:=by
 cases hb:smallB M l with
 | false=>rfl
 | true =>
  exfalso
  have h1:=smallB_len hb
  rcases h with h | ⟨v,hv,h⟩
  ·omega
  ·have:=smallB_all hb v hv
   omega
theorem small_any (l:List Int)(a:Option Addr)(c:Nat)(w:World)(M:Int)(hM:0≤M∧M≤1000000000)(hw:Hid (In64 w w.heap.size a l))(hn:l.length≤9223372036854775807) :
  Calls Tryz.prog 5 #[.slice a l.length c,.int .i64 M] w fun e w'=>e=.returned (.bool (smallB M l))∧∃ d,w'=w.drewN d:=by
 have hneg:IntKind.i64.wrap (-M)=-M:=IntWalk.i64_in _ ⟨by omega,by omega⟩
 go_enter Tryz.func5,Tryz.ntmps5
 by_cases hl:l.length≤12
 ·have n1:¬ (12:Int) < (l.length:Int):=by omega
  go_wp2
  go_loopw [12] (fun i wr=>∃ k d:Nat,k≤l.length∧i=.int .i64 k∧wr=w.drewN d∧∀ v ∈ l.take k,-M≤v∧v≤M) (fun i _=>l.length - (intOf i).toNat)
  case atStart=>exact ⟨0,0,Nat.zero_le _,rfl,rfl,fun v hv=>by cases hv⟩
  case round =>
   obtain ⟨k,d,hk,rfl,rfl,hall⟩:=hrel
   have HALL:=Sb.hide hall
   clear hall
   by_cases hlt:k < l.length
   ·obtain ⟨x,hx⟩:∃ x,l[k]?=some x:=⟨_,List.getElem?_eq_getElem hlt⟩
    obtain ⟨b,off,ha,hbw,hc⟩:=hw.out k x hx
    have HX:Hid (l.take (k+1)=l.take k ++ [x]):=by unfold Hid;rw [List.take_add_one,hx];rfl
    have HMEM:Hid (x ∈ l):=List.mem_of_getElem? hx
    obtain ⟨ml,hml⟩:∃ m,m=l.length:=⟨_,rfl⟩
    rw [ha,← hml]
    rw [← hml] at hlt hl hn hk
    have HML:=Sb.hide hml
    have n0:(0:Int)≤(k:Int):=by omega
    have n2:(k:Int) < (ml:Int):=by omega
    have hc1:(w.drewN d).cell? ⟨b,off+k,none⟩=some (.int .i64 x):=hc
    clear hml ha hx n1 hc
    by_cases h1:x < -M
    ·have HNO:Hid (false=smallB M l):=smallB_no (.inr ⟨x,HMEM.out,.inl h1⟩)
     go_wp2
     (try go_quiet (fail))
     (try go_wp2)
     go_ret
     exact ⟨by rw [← HNO.out];rfl,_,rfl⟩
    ·by_cases h2:M < x
     ·have HNO:Hid (false=smallB M l):=smallB_no (.inr ⟨x,HMEM.out,.inr h2⟩)
      go_wp2
      (try go_quiet (fail))
      (try go_wp2)
      go_ret
      exact ⟨by rw [← HNO.out];rfl,_,rfl⟩
     ·have HREL:Hid (∀ v ∈ l.take (k+1),-M≤v∧v≤M):=fun v hv=>by
       rw [HX.out,List.mem_append,List.mem_singleton] at hv
       rcases hv with hv | rfl
       ·exact HALL.out v hv
       ·exact ⟨by omega,by omega⟩
      go_wp2
      (try go_quiet (fail))
      (try go_wp2)
      go_roundw
      case rel=>exact ⟨k+1,_,by have:=HML.out;omega,by go_num,rfl,HREL.out⟩
      case measure=>simp [intOf];omega
   ·have ek:k=l.length:=by omega
    subst ek
    have n3:¬ (l.length:Int) < (l.length:Int):=by omega
    have HYES:Hid (true=smallB M l):=by
     refine smallB_yes hl fun v hv=>HALL.out v ?_
     rw [List.take_length];exact hv
    go_wp2
    go_ret
    exact ⟨by rw [← HYES.out];rfl,_,rfl⟩
 ·have n1:(12:Int) < (l.length:Int):=by omega
  have HNO:Hid (false=smallB M l):=smallB_no (.inl (by omega))
  go_wp2
  go_ret
  exact ⟨by rw [← HNO.out];rfl,0,rfl⟩
end Go.Proofs.YthffafaoobpedabGreatDoor.Vw

/- What average does,plainly. -/
import Derived.Test.YthffafaoobpedaaGreatDoorM43
import Derived.Test.YthffafaoobpedaaGreatDoorM44
import Derived.Test.YthffafaoobpedaaGreatDoorM45
set_option maxRecDepth 100000
set_option maxHeartbeats 1000000
namespace Go.Proofs.YthffafaoobpedaaGreatDoor.Vw
open Go.RowKit Vf Vm
def sm (l:List Int)(k:Nat):Int:=(l.take k).foldl (fun s x=>wrap (s+x)) 0
theorem IV {l:List Int}{k:Nat}{x:Int}(h:l[k]?=some x):sm l (k+1)=wrap (sm l k+x):=by
 unfold sm
 rw [List.take_add_one,h,List.foldl_append]
 rfl
def av (l:List Int)(n:Nat):List Int:=(List.range n).map fun i=>wrap ((sm l (i+1)).tdiv ((i+1:Nat):Int))
theorem IW (l:List Int)(n:Nat):av l (n+1)=av l n ++ [wrap ((sm l (n+1)).tdiv ((n+1:Nat):Int))]:=by
 unfold av
 rw [List.range_succ,List.map_append]
 rfl
theorem C8 (l:List Int)(n:Nat):(av l n).length=n:=by simp [av]
abbrev oU (s n x:Int) (pc:Nat) (o:List Int) (X:List aV):Cf:=⟨[⟨[1],[⟨1,6,0⟩],2,none⟩,⟨[s,n,x],[⟨0,pc,0⟩],1,some 0⟩],0,o,X⟩
open Xe in
theorem acW (l:List Int)(k:Nat)(s n x v:Int)(o:List Int)(hv:l[k]?=some v)(hlt:k < l.length)(hz:wrap (n+1)≠0):Goes dU 22 (oU s n x 6 o [⟨l,k,[]⟩]) (oU (wrap (s+v)) (wrap (n+1)) v 21 (o ++ [wrap ((wrap (s+v)).tdiv (wrap (n+1)))]) [⟨l,k+1,[]⟩]):=by
 have h1:Goes dU 3 ⟨[⟨[1],[⟨1,6,0⟩],2,none⟩,⟨[s,n,x],[⟨0,6,0⟩],1,some 0⟩],0,o,[⟨l,k,[]⟩]⟩ ⟨[⟨[1,1],[⟨1,9,0⟩],2,none⟩,⟨[s,n,x],[⟨0,6,0⟩],1,some 0⟩],0,o,[⟨l,k,[]⟩]⟩:=.run 3 fun _ _=>by kernel_rfl
 have h2:Goes dU 1 ⟨[⟨[1,1],[⟨1,9,0⟩],2,none⟩,⟨[s,n,x],[⟨0,6,0⟩],1,some 0⟩],0,o,[⟨l,k,[]⟩]⟩ ⟨[⟨[1,1,v],[⟨1,10,0⟩],2,none⟩,⟨[s,n,x],[⟨0,6,0⟩],1,some 0⟩],0,o,[⟨l,k+1,[]⟩]⟩:=.recv (fun v=>⟨[⟨[1,1,v],[⟨1,10,0⟩],2,none⟩,⟨[s,n,x],[⟨0,6,0⟩],1,some 0⟩],0,o,[⟨l,k+1,[]⟩]⟩) hv (fun _=>Qx rfl rfl rfl hlt) (q:=0) (fun _=>by kernel_rfl)
 have h3:=h1.trans h2
 have h4:Goes dU 6 ⟨[⟨[1,1,v],[⟨1,10,0⟩],2,none⟩,⟨[s,n,x],[⟨0,6,0⟩],1,some 0⟩],0,o,[⟨l,k+1,[]⟩]⟩ ⟨[⟨[1],[⟨1,11,0⟩],2,none⟩,⟨[s,n,v,s,v],[⟨0,11,0⟩],2,some 0⟩],1,o,[⟨l,k+1,[]⟩]⟩:=.run 6 fun _ _=>by kernel_rfl
 have h5:=h3.trans h4
 have h6:Goes dU 1 ⟨[⟨[1],[⟨1,11,0⟩],2,none⟩,⟨[s,n,v,s,v],[⟨0,11,0⟩],2,some 0⟩],1,o,[⟨l,k+1,[]⟩]⟩ ⟨[⟨[1],[⟨1,11,0⟩],2,none⟩,⟨[s,n,v,wrap (s+v)],[⟨0,12,0⟩],2,some 0⟩],1,o,[⟨l,k+1,[]⟩]⟩:=.eB 8 ⟨[⟨[1],[⟨1,11,0⟩],2,none⟩,⟨[s,n,v,s,v],[⟨0,12,0⟩],2,some 0⟩],1,o,[⟨l,k+1,[]⟩]⟩ (by decide) (by decide) (fun _=>by kernel_rfl) (fun _=>by kernel_rfl) (fun _=>by kernel_rfl)
 have h7:=h5.trans h6
 have h8:Goes dU 7 ⟨[⟨[1],[⟨1,11,0⟩],2,none⟩,⟨[s,n,v,wrap (s+v)],[⟨0,12,0⟩],2,some 0⟩],1,o,[⟨l,k+1,[]⟩]⟩ ⟨[⟨[1],[⟨1,11,0⟩],2,none⟩,⟨[wrap (s+v),wrap (n+1),v,wrap (s+v),wrap (n+1)],[⟨0,19,0⟩],2,some 0⟩],1,o,[⟨l,k+1,[]⟩]⟩:=.run 7 fun _ _=>by kernel_rfl
 have h9:=h7.trans h8
 have h10:Goes dU 1 ⟨[⟨[1],[⟨1,11,0⟩],2,none⟩,⟨[wrap (s+v),wrap (n+1),v,wrap (s+v),wrap (n+1)],[⟨0,19,0⟩],2,some 0⟩],1,o,[⟨l,k+1,[]⟩]⟩ ⟨[⟨[1],[⟨1,11,0⟩],2,none⟩,⟨[wrap (s+v),wrap (n+1),v,wrap ((wrap (s+v)).tdiv (wrap (n+1)))],[⟨0,20,0⟩],2,some 0⟩],1,o,[⟨l,k+1,[]⟩]⟩:=.QA 11 ⟨[⟨[1],[⟨1,11,0⟩],2,none⟩,⟨[wrap (s+v),wrap (n+1),v,wrap (s+v),wrap (n+1)],[⟨0,20,0⟩],2,some 0⟩],1,o,[⟨l,k+1,[]⟩]⟩ (fun _=>hz) (fun _=>by kernel_rfl) (fun _=>by kernel_rfl) (fun _=>by kernel_rfl)
 have h11:=h9.trans h10
 have h12:Goes dU 3 ⟨[⟨[1],[⟨1,11,0⟩],2,none⟩,⟨[wrap (s+v),wrap (n+1),v,wrap ((wrap (s+v)).tdiv (wrap (n+1)))],[⟨0,20,0⟩],2,some 0⟩],1,o,[⟨l,k+1,[]⟩]⟩ ⟨[⟨[1],[⟨1,6,0⟩],2,none⟩,⟨[wrap (s+v),wrap (n+1),v],[⟨0,21,0⟩],1,some 0⟩],0,o ++ [wrap ((wrap (s+v)).tdiv (wrap (n+1)))],[⟨l,k+1,[]⟩]⟩:=.run' 3 [⟨1,0,wrap ((wrap (s+v)).tdiv (wrap (n+1)))⟩] fun _ _=>by kernel_rfl
 have nY:=h11.trans h12
 exact nY
open Xe in
theorem acX (l:List Int)(k:Nat)(s n x v:Int)(o:List Int)(hv:l[k]?=some v)(hlt:k < l.length)(hz:wrap (n+1)≠0):Goes dU 23 (oU s n x 21 o [⟨l,k,[]⟩]) (oU (wrap (s+v)) (wrap (n+1)) v 21 (o ++ [wrap ((wrap (s+v)).tdiv (wrap (n+1)))]) [⟨l,k+1,[]⟩]):=by
 have h1:Goes dU 3 ⟨[⟨[1],[⟨1,6,0⟩],2,none⟩,⟨[s,n,x],[⟨0,21,0⟩],1,some 0⟩],0,o,[⟨l,k,[]⟩]⟩ ⟨[⟨[1,1],[⟨1,9,0⟩],2,none⟩,⟨[s,n,x],[⟨0,21,0⟩],1,some 0⟩],0,o,[⟨l,k,[]⟩]⟩:=.run 3 fun _ _=>by kernel_rfl
 have h2:Goes dU 1 ⟨[⟨[1,1],[⟨1,9,0⟩],2,none⟩,⟨[s,n,x],[⟨0,21,0⟩],1,some 0⟩],0,o,[⟨l,k,[]⟩]⟩ ⟨[⟨[1,1,v],[⟨1,10,0⟩],2,none⟩,⟨[s,n,x],[⟨0,21,0⟩],1,some 0⟩],0,o,[⟨l,k+1,[]⟩]⟩:=.recv (fun v=>⟨[⟨[1,1,v],[⟨1,10,0⟩],2,none⟩,⟨[s,n,x],[⟨0,21,0⟩],1,some 0⟩],0,o,[⟨l,k+1,[]⟩]⟩) hv (fun _=>Qx rfl rfl rfl hlt) (q:=0) (fun _=>by kernel_rfl)
 have h3:=h1.trans h2
 have h4:Goes dU 7 ⟨[⟨[1,1,v],[⟨1,10,0⟩],2,none⟩,⟨[s,n,x],[⟨0,21,0⟩],1,some 0⟩],0,o,[⟨l,k+1,[]⟩]⟩ ⟨[⟨[1],[⟨1,11,0⟩],2,none⟩,⟨[s,n,v,s,v],[⟨0,11,0⟩],2,some 0⟩],1,o,[⟨l,k+1,[]⟩]⟩:=.run 7 fun _ _=>by kernel_rfl
 have h5:=h3.trans h4
 have h6:Goes dU 1 ⟨[⟨[1],[⟨1,11,0⟩],2,none⟩,⟨[s,n,v,s,v],[⟨0,11,0⟩],2,some 0⟩],1,o,[⟨l,k+1,[]⟩]⟩ ⟨[⟨[1],[⟨1,11,0⟩],2,none⟩,⟨[s,n,v,wrap (s+v)],[⟨0,12,0⟩],2,some 0⟩],1,o,[⟨l,k+1,[]⟩]⟩:=.eB 8 ⟨[⟨[1],[⟨1,11,0⟩],2,none⟩,⟨[s,n,v,s,v],[⟨0,12,0⟩],2,some 0⟩],1,o,[⟨l,k+1,[]⟩]⟩ (by decide) (by decide) (fun _=>by kernel_rfl) (fun _=>by kernel_rfl) (fun _=>by kernel_rfl)
 have h7:=h5.trans h6
 have h8:Goes dU 7 ⟨[⟨[1],[⟨1,11,0⟩],2,none⟩,⟨[s,n,v,wrap (s+v)],[⟨0,12,0⟩],2,some 0⟩],1,o,[⟨l,k+1,[]⟩]⟩ ⟨[⟨[1],[⟨1,11,0⟩],2,none⟩,⟨[wrap (s+v),wrap (n+1),v,wrap (s+v),wrap (n+1)],[⟨0,19,0⟩],2,some 0⟩],1,o,[⟨l,k+1,[]⟩]⟩:=.run 7 fun _ _=>by kernel_rfl
 have h9:=h7.trans h8
 have h10:Goes dU 1 ⟨[⟨[1],[⟨1,11,0⟩],2,none⟩,⟨[wrap (s+v),wrap (n+1),v,wrap (s+v),wrap (n+1)],[⟨0,19,0⟩],2,some 0⟩],1,o,[⟨l,k+1,[]⟩]⟩ ⟨[⟨[1],[⟨1,11,0⟩],2,none⟩,⟨[wrap (s+v),wrap (n+1),v,wrap ((wrap (s+v)).tdiv (wrap (n+1)))],[⟨0,20,0⟩],2,some 0⟩],1,o,[⟨l,k+1,[]⟩]⟩:=.QA 11 ⟨[⟨[1],[⟨1,11,0⟩],2,none⟩,⟨[wrap (s+v),wrap (n+1),v,wrap (s+v),wrap (n+1)],[⟨0,20,0⟩],2,some 0⟩],1,o,[⟨l,k+1,[]⟩]⟩ (fun _=>hz) (fun _=>by kernel_rfl) (fun _=>by kernel_rfl) (fun _=>by kernel_rfl)
 have h11:=h9.trans h10
 have h12:Goes dU 3 ⟨[⟨[1],[⟨1,11,0⟩],2,none⟩,⟨[wrap (s+v),wrap (n+1),v,wrap ((wrap (s+v)).tdiv (wrap (n+1)))],[⟨0,20,0⟩],2,some 0⟩],1,o,[⟨l,k+1,[]⟩]⟩ ⟨[⟨[1],[⟨1,6,0⟩],2,none⟩,⟨[wrap (s+v),wrap (n+1),v],[⟨0,21,0⟩],1,some 0⟩],0,o ++ [wrap ((wrap (s+v)).tdiv (wrap (n+1)))],[⟨l,k+1,[]⟩]⟩:=.run' 3 [⟨1,0,wrap ((wrap (s+v)).tdiv (wrap (n+1)))⟩] fun _ _=>by kernel_rfl
 have nY:=h11.trans h12
 exact nY
theorem QU (l:List Int)(hl:l.length≤60):∀ (j k:Nat) (x:Int) (pc:Nat),l.length=k+j→(pc=6∨pc=21) →
  ∃ x' pc',Goes Xe.dU (30 * j) (oU (sm l k) (k:Int) x pc (av l k) [⟨l,k,[]⟩]) (oU (sm l l.length) ((l.length:Nat):Int) x' pc' (av l l.length) [⟨l,l.length,[]⟩])
 | 0,k,x,pc,hk,_=>by
  have hk:k=l.length:=by omega
  subst hk
  exact ⟨x,pc,Goes.refl _ _⟩
 | j+1,k,x,pc,hk,hp=>by
  have hlt:k < l.length:=by omega
  obtain ⟨v,hv⟩:∃ v,l[k]?=some v:=⟨_,List.getElem?_eq_getElem hlt⟩
  have e1:wrap ((k:Int)+1)=((k+1:Nat):Int):=(acw (by omega) (by omega)).trans (by simp)
  have h1:Goes Xe.dU 30 (oU (sm l k) (k:Int) x pc (av l k) [⟨l,k,[]⟩]) (oU (sm l (k+1)) ((k+1:Nat):Int) v 21 (av l (k+1)) [⟨l,k+1,[]⟩]):=by
   rw [IW,IV hv,← e1]
   rcases hp with rfl | rfl
   ·exact (acW l k (sm l k) (k:Int) x v (av l k) hv hlt (by rw [e1];omega)).mono (by decide)
   ·exact (acX l k (sm l k) (k:Int) x v (av l k) hv hlt (by rw [e1];omega)).mono (by decide)
  obtain ⟨x',pc',h2⟩:=QU l hl j (k+1) v 21 (by omega) (.inr rfl)
  exact ⟨x',pc',(h1.trans h2).mono (by omega)⟩
set_option maxRecDepth 1000000 in
theorem QV (l:List Int):qi Xe.dU 0 5000 [l]=0:=by kernel_rfl
theorem QW:CW Xe.QT Xe.dU:=⟨⟨_,Xe.acU,Xe.acV⟩,by decide⟩
theorem acY (l:List Int):eX Xe.dU 0 5000 [l]=go aD Xe.dU 5000 ((cf 1 [0] 0 [] [⟨l,0,[]⟩]).tk []) [⟨l,0,[]⟩]:=by kernel_rfl
theorem C9 (l:List Int)(h:l.length≤60):(eX Xe.dU 0 5000 [l]).2.1.out=av l l.length∧(stat aD Xe.dU (eX Xe.dU 0 5000 [l]).2.1 (eX Xe.dU 0 5000 [l]).2.2).1=3:=by
 have h1:Goes Xe.dU 12 (cf 1 [0] 0 [] [⟨l,0,[]⟩]) (oU (sm l 0) ((0:Nat):Int) 0 6 (av l 0) [⟨l,0,[]⟩]):=.run' 12 [⟨6,0,0⟩] fun _ _=>by kernel_rfl
 obtain ⟨x',pc',h2⟩:=QU l h l.length 0 0 6 (by omega) (.inl rfl)
 have h3:Goes Xe.dU 3 (oU (sm l l.length) ((l.length:Nat):Int) x' pc' (av l l.length) [⟨l,l.length,[]⟩]) ⟨[⟨[1,1],[⟨1,9,0⟩],2,none⟩,⟨[sm l l.length,((l.length:Nat):Int),x'],[⟨0,pc',0⟩],1,some 0⟩],0,av l l.length,[⟨l,l.length,[]⟩]⟩:=.run 3 fun _ _=>by kernel_rfl
 exact ((h1.trans h2).trans h3).says (fun _=>acr rfl rfl rfl) (by omega) (acY l) rfl
def j3 (M:Int)(l:List Int):Bool:=decide (l.length≤12) && l.all (fun v=>decide (-M≤v) && decide (v≤M))
theorem acZ {M:Int}{l:List Int}(h:j3 M l=true):l.length≤12:=by
 unfold j3 at h
 rw [Bool.and_eq_true] at h
 exact of_decide_eq_true h.1
theorem ac0 {M:Int}{l:List Int}(h:j3 M l=true):∀ v ∈ l,-M≤v∧v≤M:=by
 unfold j3 at h
 rw [Bool.and_eq_true] at h
 intro v hv
 have:=List.all_eq_true.1 h.2 v hv
 rw [Bool.and_eq_true] at this
 exact ⟨of_decide_eq_true this.1,of_decide_eq_true this.2⟩
theorem ac1 {M:Int}{l:List Int}(hl:l.length≤12)(h:∀ v ∈ l,-M≤v∧v≤M):true=j3 M l:=by
 unfold j3
 rw [decide_eq_true hl,Bool.true_and]
 exact (List.all_eq_true.2 fun v hv=>by rw [decide_eq_true (h v hv).1,decide_eq_true (h v hv).2];rfl).symm
theorem IX {M:Int}{l:List Int}(h:12 < l.length∨∃ v ∈ l,v < -M∨M < v):false=j3 M l:=by
 cases hb:j3 M l with
 | false=>rfl
 | true =>
  exfalso
  have h1:=acZ hb
  rcases h with h | ⟨v,hv,h⟩
  ·omega
  ·have:=ac0 hb v hv
   omega
theorem IY (l:List Int)(a:Option Addr)(c:Nat)(w:World)(M:Int)(hM:0≤M∧M≤1000000000)(hw:Hid (In64 w w.heap.size a l))(hn:l.length≤9223372036854775807) :
  Calls Tryz.prog 9 #[.slice a l.length c,.int .i64 M] w fun e w'=>e=.returned (.bool (j3 M l))∧∃ d,w'=w.drewN d:=by
 have hneg:IntKind.i64.wrap (-M)=-M:=IntWalk.i64_in _ ⟨by omega,by omega⟩
 go_enter Tryz.func9,Tryz.ntmps9
 by_cases hl:l.length≤12
 ·have n1:¬ (12:Int) < (l.length:Int):=by omega
  go_wp2
  go_loopw [12] (fun i wr=>∃ k d:Nat,k≤l.length∧i=.int .i64 k∧wr=w.drewN d∧∀ v ∈ l.take k,-M≤v∧v≤M) (fun i _=>l.length - (intOf i).toNat)
  case atStart=>exact ⟨0,0,Nat.zero_le _,rfl,rfl,fun v hv=>by cases hv⟩
  case round =>
   obtain ⟨k,d,hk,rfl,rfl,hall⟩:=hrel
   have QX:=Sb.hide hall
   clear hall
   by_cases hlt:k < l.length
   ·obtain ⟨x,hx⟩:∃ x,l[k]?=some x:=⟨_,List.getElem?_eq_getElem hlt⟩
    obtain ⟨b,off,ha,hbw,hc⟩:=hw.out k x hx
    have HX:Hid (l.take (k+1)=l.take k ++ [x]):=by unfold Hid;rw [List.take_add_one,hx];rfl
    have QY:Hid (x ∈ l):=List.mem_of_getElem? hx
    obtain ⟨ml,bU⟩:∃ m,m=l.length:=⟨_,rfl⟩
    rw [ha,← bU]
    rw [← bU] at hlt hl hn hk
    have jN:=Sb.hide bU
    have n0:(0:Int)≤(k:Int):=by omega
    have n2:(k:Int) < (ml:Int):=by omega
    have hc1:(w.drewN d).cell? ⟨b,off+k,none⟩=some (.int .i64 x):=hc
    clear bU ha hx n1 hc
    by_cases h1:x < -M
    ·have zX:Hid (false=j3 M l):=IX (.inr ⟨x,QY.out,.inl h1⟩)
     go_wp2
     (try go_quiet (fail))
     (try go_wp2)
     go_ret
     exact ⟨by rw [← zX.out];rfl,_,rfl⟩
    ·by_cases h2:M < x
     ·have zX:Hid (false=j3 M l):=IX (.inr ⟨x,QY.out,.inr h2⟩)
      go_wp2
      (try go_quiet (fail))
      (try go_wp2)
      go_ret
      exact ⟨by rw [← zX.out];rfl,_,rfl⟩
     ·have dI:Hid (∀ v ∈ l.take (k+1),-M≤v∧v≤M):=fun v hv=>by
       rw [HX.out,List.mem_append,List.mem_singleton] at hv
       rcases hv with hv | rfl
       ·exact QX.out v hv
       ·exact ⟨by omega,by omega⟩
      go_wp2
      (try go_quiet (fail))
      (try go_wp2)
      go_roundw
      case rel=>exact ⟨k+1,_,by have:=jN.out;omega,by go_num,rfl,dI.out⟩
      case measure=>simp [intOf];omega
   ·have ek:k=l.length:=by omega
    subst ek
    have n3:¬ (l.length:Int) < (l.length:Int):=by omega
    have ac2:Hid (true=j3 M l):=by
     refine ac1 hl fun v hv=>QX.out v ?_
     rw [List.take_length];exact hv
    go_wp2
    go_ret
    exact ⟨by rw [← ac2.out];rfl,_,rfl⟩
 ·have n1:(12:Int) < (l.length:Int):=by omega
  have zX:Hid (false=j3 M l):=IX (.inl (by omega))
  go_wp2
  go_ret
  exact ⟨by rw [← zX.out];rfl,0,rfl⟩
def Da (l:List Int)(w:World)(k:Nat)(vl:Value)(s:Int)(wr:World):Prop:=s=sm l k∧Below w.heap.size w wr∧wr.ownsRow w.heap.size 2 1 vl k (ints (av l k))
theorem In64.take {w:World}{B:Nat}{a:Option Addr}{l:List Int}(h:In64 w B a l)(n:Nat):In64 w B a (l.take n):=fun i x hx=>h i x (by
 rw [List.getElem?_take] at hx
 split at hx
 ·exact hx
 ·cases hx)
theorem In64.drop {w:World}{B:Nat}{a:Option Addr}{l:List Int}(h:In64 w B a l)(n:Nat):In64 w B (Option.map (fun x=>x.add n) a) (l.drop n):=fun i x hx=>by
 rw [List.getElem?_drop] at hx
 obtain ⟨b,off,e,hlt,hc⟩:=h _ x hx
 subst e
 have e:(⟨b,off,none⟩:Addr).add n=⟨b,off+n,none⟩:=by cases n <;> rfl
 refine ⟨b,off+n,?_,hlt,by rw [Nat.add_assoc];exact hc⟩
 rw [← e]
 rfl
theorem In64.up {w:World}{B B':Nat}{a:Option Addr}{l:List Int}(h:In64 w B a l)(hB:B≤B'):In64 w B' a l:=fun i x hx=>by
 obtain ⟨b,off,e,hlt,hc⟩:=h i x hx
 exact ⟨b,off,e,Nat.lt_of_lt_of_le hlt hB,hc⟩
theorem In64.nil {w:World}{B:Nat}{a:Option Addr}:In64 w B a []:=fun i x hx=>by simp at hx
theorem ac3 (l:List Int)(a:Option Addr)(c:Nat)(w:World)(hw:Hid (In64 w w.heap.size a l))(hn:l.length≤9223372036854775807)(hlc:l.length≤c)(hT:Hid (Xe.oP w)) :
  Calls Tryz.prog 7 #[.slice a l.length c] w fun e w'=>e=.returned (.bool true)∧Below w.heap.size w w':=by
 obtain ⟨i0,hi,hz0,hz1,hz2⟩:=info_parts acu
 go_enter Tryz.func7,Tryz.ntmps7
 by_cases hl:l.length≤60
 ·have n1:¬ (60:Int) < (l.length:Int):=by omega
  obtain ⟨m,hm⟩:∃ m,m=min l.length 12:=⟨_,rfl⟩
  have bU:m≤l.length:=by omega
  have hmin:min (l.length:Int) 12=(m:Int):=by omega
  have htl:(l.take m).length=m:=by rw [List.length_take];omega
  have n2:(m:Int)≤(c:Int):=by omega
  have n3:(m:Int)≤(l.length:Int):=by omega
  have n4:(0:Int)≤(m:Int):=by omega
  have HM:=Sb.hide hm
  clear hm
  go_wp2_with fail
  have hs1:=IY (l.take m) a c w 1000000 ⟨by decide,by decide⟩ (hw.out.take m) (by omega)
  rw [htl] at hs1
  refine hs1.mono ?_
  rintro e w0 ⟨rfl,d0,hw0⟩
  have HB0:Hid (Below w.heap.size w w0):=by unfold Hid;rw [hw0];exact below_drewN (Below.refl _ w) d0
  have HW0:=Sb.hide hw0
  clear hw0 hs1
  cases hsm:j3 1000000 (l.take m) with
  | true =>
   clear hsm
   by_cases hcm:m < c
   ·have hcz:¬ c - m=0:=by omega
    go_wp2_with fail
    have zY:(l.drop m).length=l.length - m:=by rw [List.length_drop]
    have hs2:=IY (l.drop m) _ (c - m) w0 1000000 ⟨by decide,by decide⟩ (((hw.out.below HB0.out).drop m).up HB0.out.size) (by omega)
    rw [zY] at hs2
    generalize Option.map (fun x=>Addr.add x m) a=a2 at hs2 ⊢
    refine hs2.mono ?_
    rintro e w1 ⟨rfl,d1,hw1⟩
    have HB1:Hid (Below w.heap.size w w1):=by unfold Hid;rw [hw1];exact below_drewN HB0.out d1
    clear hw1 hs2 htl zY HW0 HB0 hmin n3 n4 n2
    cases hsm:j3 1000000 (l.drop m) with
    | true =>
     clear hsm
     go_wp2
     go_loopw [3,4,30] (fun vl vs v wr=>∃ (k:Nat) (s:Int),k≤l.length∧vs=.int .i64 s∧v=.int .i64 k∧Da l w k vl s wr) (fun _ _ v _=>l.length - (intOf v).toNat)
     case atStart=>exact ⟨0,0,Nat.zero_le _,rfl,rfl,rfl,HB1.out,⟨rfl,.inl ⟨rfl,rfl⟩⟩⟩
     case round =>
      obtain ⟨k,s,hk,rfl,rfl,hs,hb,hown⟩:=hrel
      have HB:=Sb.hide hb
      have HO:=Sb.hide hown
      have HS:=Sb.hide hs
      have hbz:=hb.size
      clear hb hown hs
      by_cases hlt:k < l.length
      ·obtain ⟨x,hx⟩:∃ x,l[k]?=some x:=⟨_,List.getElem?_eq_getElem hlt⟩
       obtain ⟨b,off,ha,hbw,hc⟩:=(hw.out.below HB.out) k x hx
       obtain ⟨s2,hs2⟩:∃ s2,s2=wrap64 (s+x):=⟨_,rfl⟩
       have HS2:Hid (s2=sm l (k+1)):=by unfold Hid;rw [IV hx,hs2,HS.out];rfl
       obtain ⟨q,hq⟩:∃ q,q=wrap64 (s2.tdiv ((k:Int)+1)):=⟨_,rfl⟩
       have HQ:Hid (av l (k+1)=av l k ++ [q]):=by unfold Hid;rw [IW,hq,HS2.out];rfl
       obtain ⟨ml,bU⟩:∃ m,m=l.length:=⟨_,rfl⟩
       rw [ha,← bU]
       rw [← bU] at hlt hl hn hk hlc
       have jN:=Sb.hide bU
       have n0:(0:Int)≤(k:Int):=by omega
       have n2:(k:Int) < (ml:Int):=by omega
       have n5:¬ (k:Int)+1=0:=by omega
       have hwr:IntKind.i64.wrap ((k:Int)+1)=(k:Int)+1:=IntWalk.i64_in _ ⟨by omega,by omega⟩
       obtain ⟨os,hos⟩:∃ os,os=ints (av l k):=⟨_,rfl⟩
       have IZ:=Sb.hide hos
       have HRW:Hid ((wr.alloc (.cells #[.int .i64 q] 2)).ownsRow w.heap.size 2 1 u3 k os):=by unfold Hid;rw [hos];exact HO.out.alloc _
       have hs3:wrap64 (s+x)=s2:=hs2.symm
       have hq3:wrap64 (s2.tdiv ((k:Int)+1))=q:=hq.symm
       clear bU ha hx hos hs2 hq n1 HM
       go_wp2_with (at_builtin;refine rW rfl (.tmp 38) (.tmp 43) 22 rfl w.heap.size 2 i0 (.int .i64 0) 1 8 Tryz.underlying22 hi hz0 hz1 hz2 rfl (by decide) u3 k os rfl HRW.out ⟨wr.heap.size,0,none⟩ 1 1 [.int .i64 q] rfl rfl (jL wr _ _) (jM rfl) (by decide) (by unfold maxLen;omega) (by omega) (by simp;omega) ?_)
       intro R4 cap4 w4 bG hg4 bH
       have dI:Hid (Da l w (k+1) (.slice (some ⟨R4,0,none⟩) (k+1) cap4) s2 w4):=by
        refine ⟨HS2.out,(HB.out.alloc hbz _).grown hg4 (by simp;omega) (fun b hb=>(HO.out.lt b hb).1),?_⟩
        rw [HQ.out,show ints (av l k ++ [q])=ints (av l k) ++ [.int .i64 q] by simp,← IZ.out]
        exact bG
       clear bG hg4 bH
       go_wp2
       go_roundw
       case rel=>exact ⟨k+1,_,by have:=jN.out;omega,rfl,by go_num,dI.out⟩
       case measure=>simp [intOf];omega
      ·have n3:¬ (k:Int) < (l.length:Int):=by omega
       have ek:k=l.length:=by omega
       subst ek
       have hO:wr.ownsRow w.heap.size 2 1 u3 (av l l.length).length (ints (av l l.length)):=by rw [C8];exact HO.out
       have HV:=Sb.hide (wC hO)
       have HA:Hid (Below wr.heap.size wr (wr.alloc (.cells #[.slice a l.length c] 22))):=(Below.refl _ wr).alloc (Nat.le_refl _) _
       have HB2:Hid (Below w.heap.size w (wr.alloc (.cells #[.slice a l.length c] 22))):=HB.out.alloc hbz _
       have HF:=Sb.hide (Qy (c:=c) hw.out (by omega) HB.out)
       have HT2:=Sb.hide (hT.out.below HB2.out)
       have I1:=Sb.hide (HV.out.below HA.out)
       clear hO HA n3 n1
       go_wp2_with fail
       refine (Qn QW [l] (some ⟨wr.heap.size,0,none⟩) 1 (fun _=>a) (fun _=>c) (av l l.length) u3 _ HT2 HF (QV l) I1 (C9 l hl).1 (C9 l hl).2 (by rw [C8];omega)).mono ?_
       rintro e w5 ⟨rfl,hb5⟩
       have tC:=Sb.hide (HB2.out.trans (hb5.mono HB2.out.size))
       clear hb5
       go_wp2
       go_ret
       exact ⟨rfl,tC.out⟩
    | false =>
     clear hsm
     go_wp2
     go_ret
     exact ⟨rfl,HB1.out⟩
   ·have hcz:c - m=0:=by omega
    go_wp2_with fail
    have zY:(l.drop m).length=l.length - m:=by rw [List.length_drop]
    have hdn:l.drop m=[]:=List.drop_eq_nil_of_le (by omega)
    have hs2:=IY (l.drop m) a 0 w0 1000000 ⟨by decide,by decide⟩ (by rw [hdn];exact In64.nil) (by omega)
    rw [zY] at hs2
    refine hs2.mono ?_
    rintro e w1 ⟨rfl,d1,hw1⟩
    have HB1:Hid (Below w.heap.size w w1):=by unfold Hid;rw [hw1];exact below_drewN HB0.out d1
    clear hw1 hs2 htl zY HW0 HB0 hmin n3 n4 n2
    cases hsm:j3 1000000 (l.drop m) with
    | true =>
     clear hsm
     go_wp2
     go_loopw [3,4,30] (fun vl vs v wr=>∃ (k:Nat) (s:Int),k≤l.length∧vs=.int .i64 s∧v=.int .i64 k∧Da l w k vl s wr) (fun _ _ v _=>l.length - (intOf v).toNat)
     case atStart=>exact ⟨0,0,Nat.zero_le _,rfl,rfl,rfl,HB1.out,⟨rfl,.inl ⟨rfl,rfl⟩⟩⟩
     case round =>
      obtain ⟨k,s,hk,rfl,rfl,hs,hb,hown⟩:=hrel
      have HB:=Sb.hide hb
      have HO:=Sb.hide hown
      have HS:=Sb.hide hs
      have hbz:=hb.size
      clear hb hown hs
      by_cases hlt:k < l.length
      ·obtain ⟨x,hx⟩:∃ x,l[k]?=some x:=⟨_,List.getElem?_eq_getElem hlt⟩
       obtain ⟨b,off,ha,hbw,hc⟩:=(hw.out.below HB.out) k x hx
       obtain ⟨s2,hs2⟩:∃ s2,s2=wrap64 (s+x):=⟨_,rfl⟩
       have HS2:Hid (s2=sm l (k+1)):=by unfold Hid;rw [IV hx,hs2,HS.out];rfl
       obtain ⟨q,hq⟩:∃ q,q=wrap64 (s2.tdiv ((k:Int)+1)):=⟨_,rfl⟩
       have HQ:Hid (av l (k+1)=av l k ++ [q]):=by unfold Hid;rw [IW,hq,HS2.out];rfl
       obtain ⟨ml,bU⟩:∃ m,m=l.length:=⟨_,rfl⟩
       rw [ha,← bU]
       rw [← bU] at hlt hl hn hk hlc
       have jN:=Sb.hide bU
       have n0:(0:Int)≤(k:Int):=by omega
       have n2:(k:Int) < (ml:Int):=by omega
       have n5:¬ (k:Int)+1=0:=by omega
       have hwr:IntKind.i64.wrap ((k:Int)+1)=(k:Int)+1:=IntWalk.i64_in _ ⟨by omega,by omega⟩
       obtain ⟨os,hos⟩:∃ os,os=ints (av l k):=⟨_,rfl⟩
       have IZ:=Sb.hide hos
       have HRW:Hid ((wr.alloc (.cells #[.int .i64 q] 2)).ownsRow w.heap.size 2 1 u3 k os):=by unfold Hid;rw [hos];exact HO.out.alloc _
       have hs3:wrap64 (s+x)=s2:=hs2.symm
       have hq3:wrap64 (s2.tdiv ((k:Int)+1))=q:=hq.symm
       clear bU ha hx hos hs2 hq n1 HM
       go_wp2_with (at_builtin;refine rW rfl (.tmp 38) (.tmp 43) 22 rfl w.heap.size 2 i0 (.int .i64 0) 1 8 Tryz.underlying22 hi hz0 hz1 hz2 rfl (by decide) u3 k os rfl HRW.out ⟨wr.heap.size,0,none⟩ 1 1 [.int .i64 q] rfl rfl (jL wr _ _) (jM rfl) (by decide) (by unfold maxLen;omega) (by omega) (by simp;omega) ?_)
       intro R4 cap4 w4 bG hg4 bH
       have dI:Hid (Da l w (k+1) (.slice (some ⟨R4,0,none⟩) (k+1) cap4) s2 w4):=by
        refine ⟨HS2.out,(HB.out.alloc hbz _).grown hg4 (by simp;omega) (fun b hb=>(HO.out.lt b hb).1),?_⟩
        rw [HQ.out,show ints (av l k ++ [q])=ints (av l k) ++ [.int .i64 q] by simp,← IZ.out]
        exact bG
       clear bG hg4 bH
       go_wp2
       go_roundw
       case rel=>exact ⟨k+1,_,by have:=jN.out;omega,rfl,by go_num,dI.out⟩
       case measure=>simp [intOf];omega
      ·have n3:¬ (k:Int) < (l.length:Int):=by omega
       have ek:k=l.length:=by omega
       subst ek
       have hO:wr.ownsRow w.heap.size 2 1 u3 (av l l.length).length (ints (av l l.length)):=by rw [C8];exact HO.out
       have HV:=Sb.hide (wC hO)
       have HA:Hid (Below wr.heap.size wr (wr.alloc (.cells #[.slice a l.length c] 22))):=(Below.refl _ wr).alloc (Nat.le_refl _) _
       have HB2:Hid (Below w.heap.size w (wr.alloc (.cells #[.slice a l.length c] 22))):=HB.out.alloc hbz _
       have HF:=Sb.hide (Qy (c:=c) hw.out (by omega) HB.out)
       have HT2:=Sb.hide (hT.out.below HB2.out)
       have I1:=Sb.hide (HV.out.below HA.out)
       clear hO HA n3 n1
       go_wp2_with fail
       refine (Qn QW [l] (some ⟨wr.heap.size,0,none⟩) 1 (fun _=>a) (fun _=>c) (av l l.length) u3 _ HT2 HF (QV l) I1 (C9 l hl).1 (C9 l hl).2 (by rw [C8];omega)).mono ?_
       rintro e w5 ⟨rfl,hb5⟩
       have tC:=Sb.hide (HB2.out.trans (hb5.mono HB2.out.size))
       clear hb5
       go_wp2
       go_ret
       exact ⟨rfl,tC.out⟩
    | false =>
     clear hsm
     go_wp2
     go_ret
     exact ⟨rfl,HB1.out⟩
  | false =>
   clear hsm
   go_wp2
   go_ret
   exact ⟨rfl,HB0.out⟩
 ·have n1:(60:Int) < (l.length:Int):=by omega
  go_wp2
  go_ret
  exact ⟨rfl,Below.refl _ w⟩
end Go.Proofs.YthffafaoobpedaaGreatDoor.Vw

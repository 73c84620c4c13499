/- The walk of Run: WHAT RUNNING A TASK LEAVES. -/
import Derived.Test.YthffafaoobpedaaGreatDoorM16
set_option maxRecDepth 100000
set_option maxHeartbeats 2000000
namespace Go.Proofs.YthffafaoobpedaaGreatDoor.Vw
open Go.RowKit Vf Vm
structure K4 {β:Type} (X:fQ β) (c:Cx) (I:Nat→Tk→β→Prop):Prop where
 at':∀ n t x,I n t x→t.over=0→∃ f rs u i,lF c t f rs u i
 step:∀ n t x,n≤1000000→(∀ (j:Nat) h,t.ae[j]?=some h→h.ws.length≤400)→I n t x→(stat X c.m t x).1=1→∃ f rs u i,jo X c t x f rs u i∧I (n+1) (one X c.m t x).1 (one X c.m t x).2
theorem UF {β:Type}{X:fQ β}{c:Cx}{t:Tk}{x:β}{f:Wk}{rs:List Wk}{u:Un}{i:Ins}(h:jo X c t x f rs u i):t.frame=f∧t.ins c.m=i:=by
 have e:t.frame=f:=by simp [Tk.frame,h.fs]
 exact ⟨e,by simp [Tk.ins,e,lX h.un,h.code]⟩
section
variable {β:Type} (E:Env β) (X:fQ β) (c:Cx) (vB:Value) (N:Nat) (ah:Array Value) (hN:Hid (ji E c N ah)) (hX:Hid (lv E X c vB)) (I:Nat→Tk→β→Prop) (hI:Hid (K4 X c I)) (o T:Nat)
include hN hX hI
def Er (L:az)(w:World)(n0 most:Nat)(t:Tk)(x:β)(k:Nat)(wr:World):Prop :=
 k≤most∧∃ t' x',aU E c vB (.func (.func N) #[] ah) o T L w wr t' x'∧I (n0+k) t' x'∧go X c.m most t x=((go X c.m (most - k) t' x').1+k,(go X c.m (most - k) t' x').2)
theorem UG (L:az)(P:Nat→Nat)(w:World)(t:Tk)(x:β)(vR vO:Value)(H:Hid (St E c vB (.func (.func N) #[] ah) o T L P w t x vR vO))(n0 most:Nat)(hm:n0+most≤1000000)(h0:Hid (I n0 t x)) :
  Calls Tryz.prog 22 #[.pointer (some ⟨T,0,none⟩),.int .i64 most] w fun e w'=>e=.returned (.int .i64 (go X c.m most t x).1)∧aU E c vB (.func (.func N) #[] ah) o T L w w' (go X c.m most t x).2.1 (go X c.m most t x).2.2∧I (n0+(go X c.m most t x).1) (go X c.m most t x).2.1 (go X c.m most t x).2.2:=by
 obtain ⟨R,hR⟩:∃ R,R=go X c.m most t x:=⟨_,rfl⟩
 have UH:=Sb.hide hm
 have hm2:most≤1000000:=by omega
 clear hm
 rw [← hR]
 have HR:=Sb.hide hR
 have HST:Hid (Er E X c vB N ah I o T L w n0 most t x 0 w):=⟨Nat.zero_le _,t,x,aU.refl H.out,h0.out,by simp⟩
 clear hR
 go_enter Tryz.func22,Tryz.ntmps22
 go_wp2
 go_loopw [5] (fun s wr=>∃ k:Nat,s=.int .i64 k∧Er E X c vB N ah I o T L w n0 most t x k wr) (fun s _=>most - (intOf s).toNat)
 case atStart=>exact ⟨0,rfl,HST.out⟩
 case round =>
  obtain ⟨k,rfl,hk,t',x',hW,K5,hgo⟩:=hrel
  have Es:=Sb.hide hgo
  have AV:=Sb.hide K5
  have HW0:=Sb.hide hW
  clear hgo K5 hW HST
  by_cases hlt:k < most
  ·obtain ⟨L1,P1,Et,Eu,s1,q1,k1⟩:=HW0.out
   have S1:=Sb.hide s1
   have E1:=Sb.hide q1
   have C1:=Sb.hide k1
   have UI:(k:Int) < (most:Int):=by omega
   have HAT:Hid (t'.over=0→∃ f rs u i,lF c t' f rs u i):=hI.out.at' _ _ _ AV.out
   clear s1 q1 k1
   by_cases hst:(stat X c.m t' x').1=1
   ·have HS:=Sb.hide hst
    clear hst
    go_wp2_with fail
    refine (K3 E X c vB _ o T L1 P1 _ t' x' Et Eu S1 hX HAT true (Sb.hide (by rw [HS.out];rfl))).mono ?_
    rintro e w2 ⟨rfl,hb2⟩
    have HB2:=Sb.hide hb2
    obtain ⟨f,rs,u,i,yf,hI2⟩:=hI.out.step _ _ _ (by have:=UH.out;omega) (fun j h hh=>by
     obtain ⟨S,g,r,vU,hT⟩:=S1.out.tk.ae j h hh
     exact Nat.le_trans hT.stack.2.2.1 hT.stack.2.2.2.1) AV.out HS.out
    have sK:=Sb.hide yf
    obtain ⟨ef,ei⟩:=UF yf
    have K6:=Sb.hide ei
    have K7:=Sb.hide ef
    have HI2:=Sb.hide hI2
    clear hb2 yf ef ei hI2
    go_wp2_with fail
    refine (AU E X c vB N ah hN o T L1 P1 _ t' x' Et Eu (Sb.hide (S1.out.below HB2.out)) hX f rs u i sK).mono ?_
    rintro e w3 ⟨rfl,hW3⟩
    have dI:Hid (Er E X c vB N ah I o T L w n0 most t x (k+1) w3):=by
     refine ⟨hlt,(one X c.m t' x').1,(one X c.m t' x').2,?_,HI2.out,?_⟩
     ·have e1:(one X c.m t' x').1=(t'.goto (f.pc+1)).act c.m i (X.head x' i.a.toNat):=by unfold one Tk.step;rw [K7.out,K6.out]
      have e2:(one X c.m t' x').2=mY X i (t'.goto (f.pc+1)).last x':=by unfold one;rw [K7.out,K6.out]
      rw [e1,e2]
      exact (hW3.under HB2.out).trans E1.out C1.out
     ·rw [Es.out]
      have e3:most - k=(most - (k+1))+1:=by omega
      rw [e3]
      show ((if (stat X c.m t' x').1=1 then _ else _:Nat × Tk × β).1+k,(if (stat X c.m t' x').1=1 then _ else _:Nat × Tk × β).2)=_
      rw [if_pos HS.out]
      simp only [Prod.mk.injEq,and_true]
      omega
    clear hW3
    go_wp2
    go_roundw
    case rel=>exact ⟨k+1,by go_num,dI.out⟩
    case measure=>simp [intOf];omega
   ·have HS:=Sb.hide hst
    clear hst
    have pz:Hid (R=(k,t',x')):=by
     unfold Hid
     rw [HR.out,Es.out]
     have e3:most - k=(most - (k+1))+1:=by omega
     rw [e3]
     show ((if (stat X c.m t' x').1=1 then _ else _:Nat × Tk × β).1+k,(if (stat X c.m t' x').1=1 then _ else _:Nat × Tk × β).2)=_
     rw [if_neg HS.out]
     simp
    go_wp2_with fail
    refine (K3 E X c vB _ o T L1 P1 _ t' x' Et Eu S1 hX HAT false (Sb.hide (by have:=HS.out;simpa using this))).mono ?_
    rintro e w2 ⟨rfl,hb2⟩
    have HB2:=Sb.hide hb2
    clear hb2
    go_wp2
    go_ret
    rw [pz.out]
    exact ⟨rfl,((aU.refl (S1.out.below HB2.out)).under HB2.out).trans E1.out C1.out,AV.out⟩
  ·have pz:Hid (R=(k,t',x')):=by
    unfold Hid
    rw [HR.out,Es.out,show most - k=0 by omega]
    simp [go]
   have UI:¬ (k:Int) < (most:Int):=by omega
   go_wp2
   go_ret
   rw [pz.out]
   exact ⟨rfl,HW0.out,AV.out⟩
end
structure aV where
 feed:List Int
 took:Nat
 sent:List Int
def aD:fQ (List aV) where
 full:=fun _ _=>false
 may:=fun x n=>∀ q,x[n]?=some q→q.sent.length≤1000000
 empty:=fun x n=>match x[n]? with | some q=>decide (q.took=q.feed.length) | none=>true
 put:=fun x n v=>match x[n]? with | some q=>x.set n { q with sent:=q.sent ++ [v] } | none=>x
 head:=fun x n=>match x[n]? with | some q=>(q.feed[q.took]?).getD 0 | none=>0
 take:=fun x n=>match x[n]? with | some q=>x.set n { q with took:=q.took+1 } | none=>x
abbrev jq (af:Option Addr) (m cf took:Nat) (vS:Value):Obj:=.cells #[.slice af m cf,.int .i64 took,vS] 76 (0,0)
structure jP (L:az) (w:World) (S n:Nat) (q:aV) (af:Option Addr) (cf:Nat) (vS:Value):Prop where
 blk:w.heap[S]?=some (jq af q.feed.length cf q.took vS)
 feed:∀ (i:Nat) v,q.feed[i]?=some v→∃ b off,af=some ⟨b,off,none⟩∧b < w.heap.size∧(L b).cls=0∧w.cell? ⟨b,off+i,none⟩=some (.int .i64 v)
 few:q.feed.length≤9223372036854775806
 took:q.took≤q.feed.length
 sent:w.ownsRow 0 2 1 vS q.sent.length (ints q.sent)
 lS:L S=⟨2,n,0,0⟩
 lV:∀ b,vS.ownBlock=some b→L b=⟨2,n,0,1⟩
theorem jP.keep {L L':az}{w w':World}{S n:Nat}{q:aV}{af:Option Addr}{cf:Nat}{vS:Value}(h:jP L w S n q af cf vS)(hE:Ext L L' w)(hz:w.heap.size≤w'.heap.size)(hb:∀ b,b < w.heap.size→(L b).cls=0∨(L b).cls=2∧(L b).idx=n→w'.heap[b]?=w.heap[b]?):jP L' w' S n q af cf vS:=by
 refine ⟨(hb _ (lt_of_block h.blk) (.inr (by rw [h.lS];exact ⟨rfl,rfl⟩))).trans h.blk,fun i v hv=>?_,h.few,h.took,bW h.sent (fun b hx=>hb b (h.sent.lt b hx).2 (.inr (by rw [h.lV b hx];exact ⟨rfl,rfl⟩))),(hE _ (lt_of_block h.blk)).trans h.lS,fun b hx=>(hE _ (h.sent.lt b hx).2).trans (h.lV b hx)⟩
 obtain ⟨b,off,e,hs,h0,hc⟩:=h.feed i v hv
 exact ⟨b,off,e,by omega,by rw [hE b hs];exact h0,(aS (hb b hs (.inl h0)) _).trans hc⟩
structure jQ (Q:Nat→Nat) (nb rb off:Nat) (L:az) (w:World) (x:List aV):Prop where
 len:x.length=nb
 row:∀ n,n < nb→rb < w.heap.size∧(L rb).cls=0∧w.cell? ⟨rb,off+n,none⟩=some (.iface 74 (.pointer (some ⟨Q n,0,none⟩)))
 lists:∀ (n:Nat) q,x[n]?=some q→∃ af cf vS,jP L w (Q n) n q af cf vS
def ni (Q:Nat→Nat)(nb rb off:Nat):Env (List aV) where
 En:=fun L w _ x=>jQ Q nb rb off L w x
 keep:=fun {L L' w w' _ x} h hE hz hb=>⟨h.len,fun n hn=>by
  obtain ⟨h1,h2,h3⟩:=h.row n hn
  exact ⟨by omega,by rw [hE rb h1];exact h2,(aS (hb rb h1 (by omega)) _).trans h3⟩,fun n q hq=>by
  obtain ⟨af,cf,vS,hA⟩:=h.lists n q hq
  exact ⟨af,cf,vS,hA.keep hE hz (fun b hs hx=>hb b hs (by omega))⟩⟩
theorem yg {w:World}{S:Nat}{af:Option Addr}{m cf took:Nat}{vS:Value}(h:w.heap[S]?=some (jq af m cf took vS)):w.cell? ⟨S,0,none⟩=some (.slice af m cf)∧w.cell? ⟨S,1,none⟩=some (.int .i64 took)∧w.cell? ⟨S,2,none⟩=some vS∧∀ j,w.frozen? ⟨S,j,none⟩=false:=by
 simp [World.cell?,World.frozen?,h]
theorem UJ (S:Nat)(w:World) :
  Calls Tryz.prog 264 #[.pointer (some ⟨S,0,none⟩)] w fun e w'=>e=.returned (.bool false)∧∃ d,w'=w.drewN d:=by
 go_enter Tryz.func264,Tryz.ntmps264
 go_wp2
 go_ret
 exact ⟨rfl,0,rfl⟩
theorem UK (L:az)(S n:Nat)(q:aV)(af:Option Addr)(cf:Nat)(vS:Value)(w:World)(h:Hid (jP L w S n q af cf vS))(b:Bool)(hb:Hid (b=decide (q.took=q.feed.length))) :
  Calls Tryz.prog 263 #[.pointer (some ⟨S,0,none⟩)] w fun e w'=>e=.returned (.bool b)∧∃ d,w'=w.drewN d:=by
 obtain ⟨c0,c1,c2,_⟩:=yg h.out.blk
 have e1:((q.took:Int) == (q.feed.length:Int))=b:=by rw [hb.out,Bool.eq_iff_iff];simp;omega
 go_enter Tryz.func263,Tryz.ntmps263
 go_wp2
 go_quiet (fail)
 go_wp2
 go_ret
 exact ⟨rfl,_,rfl⟩
theorem UL {w:World}{S:Nat}{af:Option Addr}{m cf took K8:Nat}{vS u:Value}(h:w.heap[S]?=some (jq af m cf took vS))(hu:u=.int .i64 K8):(w.setCell ⟨S,1,none⟩ u).heap[S]?=some (jq af m cf K8 vS):=by
 subst hu
 simp only [World.setCell,Array.getElem?_modify,if_true,h,Option.map_some]
 rfl
theorem UM {w:World}{S:Nat}{af:Option Addr}{m cf took:Nat}{vS u:Value}(h:w.heap[S]?=some (jq af m cf took vS)):(w.setCell ⟨S,2,none⟩ u).heap[S]?=some (jq af m cf took u):=by
 simp only [World.setCell,Array.getElem?_modify,if_true,h,Option.map_some]
 rfl
theorem UN (L:az)(S n:Nat)(q:aV)(af:Option Addr)(cf:Nat)(vS:Value)(w:World)(h:Hid (jP L w S n q af cf vS))(x:Int)(hx:Hid (q.feed[q.took]?=some x)) :
  Calls Tryz.prog 266 #[.pointer (some ⟨S,0,none⟩)] w fun e w'=>e=.returned (.int .i64 x)∧jP L w' S n { q with took:=q.took+1 } af cf vS∧aQ (fun b=>b=S) w w':=by
 obtain ⟨c0,c1,c2,c3⟩:=yg h.out.blk
 obtain ⟨b,off,rfl,hs,h0,hc⟩:=h.out.feed _ _ hx.out
 have hbS:¬ b=S:=fun e=>by rw [e,h.out.lS] at h0;cases h0
 have hlt:q.took < q.feed.length:=(List.getElem?_eq_some_iff.1 hx.out).1
 have dx:=h.out.few
 obtain ⟨tk,htk⟩:∃ k,k=q.took:=⟨_,rfl⟩
 obtain ⟨m,hm⟩:∃ k,k=q.feed.length:=⟨_,rfl⟩
 rw [← htk] at c1 hc hlt
 rw [← hm] at c0 hlt dx
 have pE:=Sb.hide htk
 have HM:=Sb.hide hm
 clear htk hm
 have n0:(0:Int)≤(tk:Int):=by omega
 have n1:(tk:Int) < (m:Int):=by omega
 have n2:((tk:Int)+1 - 1)=tk:=by omega
 go_enter Tryz.func266,Tryz.ntmps266
 go_wp2
 go_quiet (fail)
 go_wp2
 go_ret
 have H:=h.out
 refine ⟨rfl,⟨UL (took:=q.took) H.blk (by have:=pE.out;subst this;go_num),fun i v hv=>?_,H.few,?_,?_,H.lS,H.lV⟩,((aQ.refl (fun b=>b=S) w).set (p:=⟨S,1,none⟩) (.inl rfl) _).drewN _⟩
 ·obtain ⟨b2,sM,e,h1,h2,h3⟩:=H.feed i v hv
  have hb2:b2≠S:=fun e=>by rw [e,H.lS] at h2;cases h2
  exact ⟨b2,sM,e,by simpa [World.setCell] using h1,h2,(aS (Below.heap_setCell _ _ _ _ hb2) _).trans h3⟩
 ·have:=pE.out;have:=HM.out;show q.took+1≤q.feed.length;omega
 ·refine bW H.sent (fun b hb=>Below.heap_setCell _ _ _ _ (fun e=>?_))
  have a:=H.lV b hb
  rw [e,H.lS] at a
  cases a
theorem UO (L:az)(S n:Nat)(q:aV)(af:Option Addr)(cf:Nat)(vS:Value)(w:World)(h:Hid (jP L w S n q af cf vS))(v:Int)(hl:q.sent.length≤1000000) :
  Calls Tryz.prog 265 #[.pointer (some ⟨S,0,none⟩),.int .i64 v] w fun e w'=>e=.returned (.tuple #[])∧∃ R cap w4,w'=w4.setCell ⟨S,2,none⟩ (.slice (some ⟨R,0,none⟩) (q.sent.length+1) cap)∧w4.ownsRow 0 2 1 (.slice (some ⟨R,0,none⟩) (q.sent.length+1) cap) (q.sent.length+1) (ints q.sent ++ [.int .i64 v])∧(w.alloc (.cells #[.int .i64 v] 2)).grownBy w4 vS.ownBlock∧(vS.ownBlock=some R∨R=w.heap.size+1):=by
 obtain ⟨i0,hi,hz0,hz1,hz2⟩:=info_parts Sb.Tryz.rT
 obtain ⟨c0,c1,c2,c3⟩:=yg h.out.blk
 have hSz:=lt_of_block h.out.blk
 have HRW:Hid ((w.alloc (.cells #[.int .i64 v] 2)).ownsRow 0 2 1 vS q.sent.length (ints q.sent)):=h.out.sent.alloc _
 go_enter Tryz.func265,Tryz.ntmps265
 go_wp2_with (at_builtin;refine rW rfl (.tmp 8) (.tmp 10) 22 rfl 0 2 i0 (.int .i64 0) 1 8 Tryz.underlying22 hi hz0 hz1 hz2 rfl (by decide) vS q.sent.length (ints q.sent) rfl HRW.out ⟨w.heap.size,0,none⟩ 1 1 [.int .i64 v] rfl rfl (jL w _ _) (jM rfl) (by decide) (by unfold maxLen;omega) (by omega) (Nat.zero_le _) ?_)
 intro R4 cap4 w4 bG hg4 bH
 have hSb:w4.heap[S]?=some (jq af q.feed.length cf q.took vS):=(hg4.block S (by simp;omega) (fun e=>by
  have a:=h.out.lV S e.symm
  rw [h.out.lS] at a
  cases a)).trans ((Below.heap_alloc _ _ _ hSz).trans h.out.blk)
 have AL:w4.frozen? ⟨S,2,none⟩=false:=by simp [World.frozen?,hSb]
 have q4:w4.cell? ⟨S,2,none⟩=some vS:=by simp [World.cell?,hSb]
 have HO:=Sb.hide bG
 have HG:=Sb.hide hg4
 have HRR:=Sb.hide bH
 clear bG hg4 bH hSb
 go_wp2
 go_end0
 exact ⟨rfl,R4,cap4,w4,rfl,HO.out,HG.out,HRR.out.imp id (fun e=>by simpa using e)⟩
theorem jQ.put {B:Nat}{Q:Nat→Nat}{nb rb off:Nat}{L:az}{w w4:World}{x:List aV}{n:Nat}{q:aV}{af:Option Addr}{cf:Nat}{vS:Value}{v:Int}{R cap:Nat}{ob:Obj}
  (H:jQ Q nb rb off L w x) (hk:bA B L w) (hq:x[n]?=some q) (hA:jP L w (Q n) n q af cf vS)
  (hown:w4.ownsRow 0 2 1 (.slice (some ⟨R,0,none⟩) (q.sent.length+1) cap) (q.sent.length+1) (ints q.sent ++ [.int .i64 v])) (hg:(w.alloc ob).grownBy w4 vS.ownBlock) (hR:vS.ownBlock=some R∨R=w.heap.size+1) :
  ∃ L',jQ Q nb rb off L' (w4.setCell ⟨Q n,2,none⟩ (.slice (some ⟨R,0,none⟩) (q.sent.length+1) cap)) (x.set n { q with sent:=q.sent ++ [v] })∧rY L L' w∧bA B L' (w4.setCell ⟨Q n,2,none⟩ (.slice (some ⟨R,0,none⟩) (q.sent.length+1) cap))∧aQ (EB L) w (w4.setCell ⟨Q n,2,none⟩ (.slice (some ⟨R,0,none⟩) (q.sent.length+1) cap)):=by
 have lh:=hg.size
 simp at lh
 have hSz:=lt_of_block hA.blk
 have bH:R < w4.heap.size:=(hown.lt R rfl).2
 have hnl:n < x.length:=(List.getElem?_eq_some_iff.1 hq).1
 have UQ:R≠Q n:=fun e=>by
  rcases hR with hx | hx
  ·have a:=hA.lV R hx;rw [e,hA.lS] at a;cases a
  ·omega
 have blk:∀ b,b < w.heap.size→vS.ownBlock≠some b→b≠Q n→(w4.setCell ⟨Q n,2,none⟩ (.slice (some ⟨R,0,none⟩) (q.sent.length+1) cap)).heap[b]?=w.heap[b]?:=fun b hb hn hT=>(Below.heap_setCell _ _ _ _ hT).trans ((hg.block b (by simp;omega) (fun e=>hn e.symm)).trans (Below.heap_alloc _ _ _ hb))
 have lab:∀ b,b < w.heap.size→(fun b=>if b=R then (⟨2,n,0,1⟩:Lb) else L b) b=L b:=fun b hb=>by
  by_cases e:b=R
  ·rcases hR with hx | hx
   ·simp only [e,if_true]
    rw [hA.lV R hx]
   ·omega
  ·simp only [e,if_false]
 have nV:∀ {b:Nat},¬ ((L b).cls=2∧(L b).idx=n)→vS.ownBlock≠some b:=fun hn hx=>hn (by rw [hA.lV _ hx];exact ⟨rfl,rfl⟩)
 have nS:∀ {b:Nat},¬ ((L b).cls=2∧(L b).idx=n)→b≠Q n:=fun hn hx=>hn (by rw [hx,hA.lS];exact ⟨rfl,rfl⟩)
 have hsz:w.heap.size≤(w4.setCell ⟨Q n,2,none⟩ (.slice (some ⟨R,0,none⟩) (q.sent.length+1) cap)).heap.size:=by simp [World.setCell];omega
 refine ⟨fun b=>if b=R then ⟨2,n,0,1⟩ else L b,⟨by rw [List.length_set];exact H.len,fun k hkn=>?_,fun k qk hqk=>?_⟩,⟨lab,fun b=>?_⟩,⟨fun b hb=>?_,fun b hb=>?_,by have:=hk.size;omega⟩,⟨hg.os,hg.tape,hg.output,hsz,fun b hb hn=>blk b hb (nV (fun hx=>hn (.inl hx.1))) (nS (fun hx=>hn (.inl hx.1)))⟩⟩
 ·obtain ⟨h1,h2,h3⟩:=H.row k hkn
  exact ⟨by omega,(congrArg Lb.cls (lab rb h1)).trans h2,(aS (blk rb h1 (nV (by omega)) (nS (by omega))) _).trans h3⟩
 ·by_cases e:k=n
  ·subst e
   rw [List.getElem?_set_self hnl] at hqk
   cases hqk
   refine ⟨af,cf,.slice (some ⟨R,0,none⟩) (q.sent.length+1) cap,⟨UM (vS:=vS) ?_,fun i u hu=>?_,hA.few,hA.took,?_,(lab _ hSz).trans hA.lS,fun b hb=>by cases hb;simp⟩⟩
   ·exact (hg.block _ (by simp;omega) (fun e=>by have a:=hA.lV _ e.symm;rw [hA.lS] at a;cases a)).trans ((Below.heap_alloc _ _ _ hSz).trans hA.blk)
   ·obtain ⟨b2,sM,e2,h1,h2,h3⟩:=hA.feed i u hu
    exact ⟨b2,sM,e2,by omega,(congrArg Lb.cls (lab b2 h1)).trans h2,(aS (blk b2 h1 (nV (by omega)) (nS (by omega))) _).trans h3⟩
   ·have e:ints (q.sent ++ [v])=ints q.sent ++ [.int .i64 v]:=by simp [ints]
    show World.ownsRow _ _ _ _ _ (q.sent ++ [v]).length (ints (q.sent ++ [v]))
    rw [e,List.length_append]
    exact bW hown (fun k hk=>by cases hk;exact Below.heap_setCell _ _ _ _ UQ)
  ·rw [List.getElem?_set_ne (fun e2=>e e2.symm)] at hqk
   obtain ⟨Ew,Ey,Ez,hA2⟩:=H.lists k qk hqk
   exact ⟨Ew,Ey,Ez,hA2.keep lab hsz (fun b hs hx=>blk b hs (nV (by omega)) (nS (by omega)))⟩
 ·by_cases e:b=R
  ·right;left;simp [e]
  ·left;simp only [e,if_false]
 ·have hb2:=hk.low b hb
  have Ec:=hk.size
  exact (congrArg Lb.cls (lab b (by omega))).trans hb2
 ·have hb':w4.heap.size≤b:=by simpa [World.setCell] using hb
  have e:b≠R:=by omega
  simp only [e,if_false]
  exact hk.new b (by omega)
theorem jQ.take {B:Nat}{Q:Nat→Nat}{nb rb off:Nat}{L:az}{w w':World}{x:List aV}{n:Nat}{q q':aV}{af:Option Addr}{cf:Nat}{vS:Value}
  (H:jQ Q nb rb off L w x) (hk:bA B L w) (hq:x[n]?=some q) (hA:jP L w (Q n) n q af cf vS) (hA':jP L w' (Q n) n q' af cf vS) (hC:aQ (fun b=>b=Q n) w w') :
  ∃ L',jQ Q nb rb off L' w' (x.set n q')∧rY L L' w∧bA B L' w'∧aQ (EB L) w w':=by
 have hnl:n < x.length:=(List.getElem?_eq_some_iff.1 hq).1
 have nS:∀ {b:Nat},¬ ((L b).cls=2∧(L b).idx=n)→b≠Q n:=fun hn hx=>hn (by rw [hx,hA.lS];exact ⟨rfl,rfl⟩)
 refine ⟨L,⟨by rw [List.length_set];exact H.len,fun k hkn=>?_,fun k qk hqk=>?_⟩,⟨.refl _ _,fun b=>.inl rfl⟩,hk.on hC.size,hC.mono (fun b _ hx=>by subst hx;left;rw [hA.lS])⟩
 ·obtain ⟨h1,h2,h3⟩:=H.row k hkn
  have:=hC.size
  exact ⟨by omega,h2,(aS (hC.block rb h1 (nS (by omega))) _).trans h3⟩
 ·by_cases e:k=n
  ·subst e
   rw [List.getElem?_set_self hnl] at hqk
   cases hqk
   exact ⟨af,cf,vS,hA'⟩
  ·rw [List.getElem?_set_ne (fun e2=>e e2.symm)] at hqk
   obtain ⟨Ew,Ey,Ez,hA2⟩:=H.lists k qk hqk
   exact ⟨Ew,Ey,Ez,hA2.keep (.refl _ _) hC.size (fun b hs hx=>hC.block b hs (nS (by omega)))⟩
end Go.Proofs.YthffafaoobpedaaGreatDoor.Vw

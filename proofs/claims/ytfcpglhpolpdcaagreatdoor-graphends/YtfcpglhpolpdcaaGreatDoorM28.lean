/- WHAT verify.Verify ANSWERS. -/
import Derived.Test.YtfcpglhpolpdcaaGreatDoorM27
import Derived.Test.YtfcpglhpolpdcaaGreatDoorM11
set_option maxRecDepth 100000
set_option maxHeartbeats 4000000
namespace Go.Proofs.YtfcpglhpolpdcaaGreatDoor
open Go.RowKit
namespace Vf
def looks (m:Md):Nat→Int × Int × Int
 | 0=>(qO m,0,0)
 | 1=>((xY m).1,0,((xY m).2:Int))
 | 2=>jS (iD m) m.units 0
 | 3=>(AV m,0,0)
 | 4=>jS (gY m) m.units 0
 | _=>((xM m).1,0,((xM m).2:Int))
def from' (m:Md):Nat→Nat→Int × Int × Int
 | 0,_=>(0,0,0)
 | n+1,k=>if (looks m k).1=0 then from' m n (k+1) else looks m k
def verify (m:Md):Int × Int × Int:=from' m 6 0
theorem I5 (f:Un→Int × Nat):∀ (l:List Un) (k:Nat),(jS f l k).1=0→∀ u ∈ l,(f u).1=0
 | [],_,_,u,hu=>by cases hu
 | v :: l,k,h,u,hu=>by
  unfold jS at h;split at h
  ·rename_i h0
   rcases List.mem_cons.1 hu with rfl | hu
   ·exact h0
   ·exact I5 f l (k+1) h u hu
  ·rename_i h0
   exact absurd h h0
theorem D7 {α:Type}(f:α→Int):∀ (l:List α) (k:Nat),(cK f l k).1=0→∀ x ∈ l,f x=0
 | [],_,_,u,hu=>by cases hu
 | v :: l,k,h,u,hu=>by
  unfold cK at h;split at h
  ·rename_i h0
   rcases List.mem_cons.1 hu with rfl | hu
   ·exact h0
   ·exact D7 f l (k+1) h u hu
  ·rename_i h0
   exact absurd h h0
theorem aby {m:Md}{u:Un}(h:(iD m u).1=0):gm m u=0∧Forms m u:=by
 unfold iD at h;split at h
 ·rename_i h0
  exact⟨h0,fun c hc=>D7 _ _ _ h c hc⟩
 ·rename_i h0
  exact absurd h h0
end Vf
theorem D8 {m:Vf.Md}(h0:(Vf.looks m 0).1=0)(h1:(Vf.looks m 1).1=0)(h2:(Vf.looks m 2).1=0):Rt m∧m.boxes.length≤30:=by
 have h0':Vf.qO m=0:=h0;unfold Vf.qO at h0';split at h0'
 ·cases h0'
 ·rename_i hs
  refine⟨⟨by omega,fun k b hb=>?_,fun k u hu=>Vf.aby (Vf.I5 _ _ _ h2 u (List.mem_of_getElem? hu))⟩,by omega⟩;have:=Vf.D7 _ _ _ (show (Vf.cK Vf.jw m.boxes 0).1=0 from h1) b (List.mem_of_getElem? hb);unfold Vf.jw at this;split at this
  ·cases this
  ·rename_i hp
   simpa using hp
abbrev lks (m:Vf.Md) (ab au:Option Addr) (cb cu:Nat):Array Value:=#[.func (.func 52) #[eU m ab au cb cu] #[],.func (.func 53) #[eU m ab au cb cu] #[],.func (.func 54) #[eU m ab au cb cu] #[],.func (.func 55) #[eU m ab au cb cu] #[],.func (.func 56) #[eU m ab au cb cu] #[],.func (.func 57) #[eU m ab au cb cu] #[]]
abbrev D9 (m:Vf.Md) (ab au:Option Addr) (cb cu:Nat):Obj:=.cells (lks m ab au cb cu) 151 (0,0)
structure abA (m:Vf.Md) (W0:World) (r:Int × Int × Int) (k:Nat) (W:World):Prop where
 le:k≤6
 grown:W0.grownBy W none
 ok:∀ j,j<k→(Vf.looks m j).1=0
 rest:r=Vf.from' m (6 - k) k
theorem abB (m:Vf.Md)(ab au:Option Addr)(cb cu B N:Nat)(w:World)(hmd:Hid (aW B w m ab au))(hB:B≤w.heap.size)(hN:Hid (w.heap[N]?=some (D9 m ab au cb cu)))(r:Int × Int × Int)(hr:Hid (r=Vf.verify m)) :
  Calls Tryz.prog 51 #[.slice (some ⟨N,0,none⟩) 6 6] w fun e w'=>e=.returned (dw r.1 r.2.1 r.2.2)∧w.grownBy w' none:=by
 obtain⟨W0,hW0⟩:∃ W0:World,w.alloc dh=W0:=⟨_,rfl⟩;have HT:Hid (w.grownBy W0 none):=by rw[← hW0];exact aR (World.grownBy.refl _ _) _
 have su:Hid (W0.heap[w.heap.size]?=some dh):=by rw[← hW0];exact heap_alloc_new _ _
 have HW0:=hide hW0;clear hW0;go_enter Tryz.func51,Tryz.ntmps51
 go_wp2
 go_loopw [8] (fun v wr=>∃ k:Nat,v=.int .i64 k∧abA m W0 r k wr) (fun v _=>6 - (intOf v).toNat)
 case atStart=>exact⟨0,rfl,by omega,by rw[← HW0.out];exact World.grownBy.refl _ _,fun j hj=>by omega,hr.out⟩
 case round =>
  obtain⟨k,rfl,hA⟩:=hrel;have HA:=hide hA;have hk:=hA.le;have HG:Hid (w.grownBy wr none):=bZ HT.out HA.out.grown;have hwz:wr.heap[w.heap.size]?=some dh:=(bY HA.out.grown (lt_of_block su.out)).trans su.out;obtain⟨⟨z0,z1,z2⟩,y0,y1,y2⟩:=eG hwz;have hzl:=lt_of_block hwz;have jT:=hide hwz;have hLk:wr.heap[N]?=some (D9 m ab au cb cu):=(bY HG.out (lt_of_block hN.out)).trans hN.out;have HM:Hid (aW B wr m ab au):=hmd.out.low (gD HG.out hB);have hBr:B≤wr.heap.size:=by omega
  obtain⟨e1,u1,n1,hl⟩:∃ e1 u1 n1,(e1,u1,n1)=Vf.looks m k:=⟨_,_,_,rfl⟩;have HL:=hide hl;clear hA hwz hl;rcases (by omega:k=0∨k=1∨k=2∨k=3∨k=4∨k=5∨k=6) with rfl | rfl | rfl | rfl | rfl | rfl | rfl
  ·skip
   have bC:Hid (e1=Vf.qO m):=congrArg (fun x:Int × Int × Int=>x.1) HL.out;obtain rfl:u1=0:=congrArg (fun x:Int × Int × Int=>x.2.1) HL.out;obtain rfl:n1=0:=congrArg (fun x:Int × Int × Int=>x.2.2) HL.out;have ck:wr.cell? ⟨N,0,none⟩=some (.func (.func 52) #[eU m ab au cb cu] #[]):=by simp[World.cell?,hLk]
   clear hLk;go_wp2_with fail
   refine (abu m ab au cb cu _ e1 (hide bC.out)).mono ?_;rintro e w2 ⟨rfl,hg2⟩;have HG2:Hid (W0.grownBy w2 none):=bZ HA.out.grown hg2;have eH:w2.heap[w.heap.size]?=some dh:=(bY hg2 hzl).trans jT.out;obtain⟨⟨p0,p1,p2⟩,q0,q1,q2⟩:=eG eH;have HW2:=hide eH;have AY:=lt_of_block eH;clear hg2 eH ck z0 z1 z2 y0 y1 y2;by_cases h0:e1=0
   ·have e0:(e1 != 0)=false:=by simpa using h0
    have HN:Hid (r=Vf.from' m (6 - (0+1)) (0+1)):=by
     have:=HA.out.rest;rw[show 6 - 0=(6 - (0+1))+1 from rfl,Vf.from',← HL.out,if_pos h0] at this;exact this
    have HO:Hid (∀ j,j<0+1→(Vf.looks m j).1=0):=fun j hj=>by
     by_cases hj':j<0
     ·exact HA.out.ok j hj'
     ·obtain rfl:j=0:=by omega
      rw[← HL.out];exact h0
    clear h0;go_wp2
    go_roundw
    case rel=>exact⟨0+1,rfl,by omega,aR HG2.out _,HO.out,HN.out⟩
    case measure=>simp[intOf]
   ·have e0:(e1 != 0)=true:=by simpa using h0
    have HN:Hid (r=(e1,0,0)):=by
     have:=HA.out.rest;rw[show 6 - 0=(6 - (0+1))+1 from rfl,Vf.from',← HL.out,if_neg h0] at this;exact this
    clear h0;go_wp2
    have hX:=nH HW2.out (.int .i64 e1) (.int .i64 0) (.int .i64 0);obtain⟨⟨g0,g1,g2⟩,_⟩:=eG ((Below.heap_alloc _ (.cells #[.int .i64 e1,.int .i64 0,.int .i64 0] 95) _ (lt_of_block hX)).trans hX);refine bodyPost_ret (v:=dw e1 0 0) (by simp[results,Tryz.results51,go_sem,g0,g1,g2]) rfl ?_;rw[HN.out];exact⟨rfl,aR (aP (aP (aP (bZ HT.out HG2.out) (by omega) _ _) (by omega) _ _) (by omega) _ _) _⟩
  ·skip
   have bC:Hid ((e1,n1)=((Vf.xY m).1,((Vf.xY m).2:Int))):=congrArg (fun x:Int × Int × Int=>(x.1,x.2.2)) HL.out;obtain rfl:u1=0:=congrArg (fun x:Int × Int × Int=>x.2.1) HL.out;have ck:wr.cell? ⟨N,1,none⟩=some (.func (.func 53) #[eU m ab au cb cu] #[]):=by simp[World.cell?,hLk]
   clear hLk;go_wp2_with fail
   refine (abw m ab au cb cu B _ HM hBr e1 n1 (hide bC.out)).mono ?_;rintro e w2 ⟨rfl,hg2⟩;have HG2:Hid (W0.grownBy w2 none):=bZ HA.out.grown hg2;have eH:w2.heap[w.heap.size]?=some dh:=(bY hg2 hzl).trans jT.out;obtain⟨⟨p0,p1,p2⟩,q0,q1,q2⟩:=eG eH;have HW2:=hide eH;have AY:=lt_of_block eH;clear hg2 eH ck z0 z1 z2 y0 y1 y2;by_cases h0:e1=0
   ·have e0:(e1 != 0)=false:=by simpa using h0
    have HN:Hid (r=Vf.from' m (6 - (1+1)) (1+1)):=by
     have:=HA.out.rest;rw[show 6 - 1=(6 - (1+1))+1 from rfl,Vf.from',← HL.out,if_pos h0] at this;exact this
    have HO:Hid (∀ j,j<1+1→(Vf.looks m j).1=0):=fun j hj=>by
     by_cases hj':j<1
     ·exact HA.out.ok j hj'
     ·obtain rfl:j=1:=by omega
      rw[← HL.out];exact h0
    clear h0;go_wp2
    go_roundw
    case rel=>exact⟨1+1,rfl,by omega,aR HG2.out _,HO.out,HN.out⟩
    case measure=>simp[intOf]
   ·have e0:(e1 != 0)=true:=by simpa using h0
    have HN:Hid (r=(e1,0,n1)):=by
     have:=HA.out.rest;rw[show 6 - 1=(6 - (1+1))+1 from rfl,Vf.from',← HL.out,if_neg h0] at this;exact this
    clear h0;go_wp2
    have hX:=nH HW2.out (.int .i64 e1) (.int .i64 0) (.int .i64 n1);obtain⟨⟨g0,g1,g2⟩,_⟩:=eG ((Below.heap_alloc _ (.cells #[.int .i64 e1,.int .i64 0,.int .i64 n1] 95) _ (lt_of_block hX)).trans hX);refine bodyPost_ret (v:=dw e1 0 n1) (by simp[results,Tryz.results51,go_sem,g0,g1,g2]) rfl ?_;rw[HN.out];exact⟨rfl,aR (aP (aP (aP (bZ HT.out HG2.out) (by omega) _ _) (by omega) _ _) (by omega) _ _) _⟩
  ·skip
   have hmu:m.units.length≤30:=by
    have h0:Vf.qO m=0:=HA.out.ok 0 (by omega);unfold Vf.qO at h0;split at h0
    ·cases h0
    ·omega
   have ck:wr.cell? ⟨N,2,none⟩=some (.func (.func 54) #[eU m ab au cb cu] #[]):=by simp[World.cell?,hLk]
   clear hLk;go_wp2_with fail
   refine (aa9 m ab au cb cu B _ HM hBr hmu e1 u1 n1 HL).mono ?_;rintro e w2 ⟨rfl,hg2⟩;have HG2:Hid (W0.grownBy w2 none):=bZ HA.out.grown hg2;have eH:w2.heap[w.heap.size]?=some dh:=(bY hg2 hzl).trans jT.out;obtain⟨⟨p0,p1,p2⟩,q0,q1,q2⟩:=eG eH;have HW2:=hide eH;have AY:=lt_of_block eH;clear hg2 eH ck z0 z1 z2 y0 y1 y2;by_cases h0:e1=0
   ·have e0:(e1 != 0)=false:=by simpa using h0
    have HN:Hid (r=Vf.from' m (6 - (2+1)) (2+1)):=by
     have:=HA.out.rest;rw[show 6 - 2=(6 - (2+1))+1 from rfl,Vf.from',← HL.out,if_pos h0] at this;exact this
    have HO:Hid (∀ j,j<2+1→(Vf.looks m j).1=0):=fun j hj=>by
     by_cases hj':j<2
     ·exact HA.out.ok j hj'
     ·obtain rfl:j=2:=by omega
      rw[← HL.out];exact h0
    clear h0;go_wp2
    go_roundw
    case rel=>exact⟨2+1,rfl,by omega,aR HG2.out _,HO.out,HN.out⟩
    case measure=>simp[intOf]
   ·have e0:(e1 != 0)=true:=by simpa using h0
    have HN:Hid (r=(e1,u1,n1)):=by
     have:=HA.out.rest;rw[show 6 - 2=(6 - (2+1))+1 from rfl,Vf.from',← HL.out,if_neg h0] at this;exact this
    clear h0;go_wp2
    have hX:=nH HW2.out (.int .i64 e1) (.int .i64 u1) (.int .i64 n1);obtain⟨⟨g0,g1,g2⟩,_⟩:=eG ((Below.heap_alloc _ (.cells #[.int .i64 e1,.int .i64 u1,.int .i64 n1] 95) _ (lt_of_block hX)).trans hX);refine bodyPost_ret (v:=dw e1 u1 n1) (by simp[results,Tryz.results51,go_sem,g0,g1,g2]) rfl ?_;rw[HN.out];exact⟨rfl,aR (aP (aP (aP (bZ HT.out HG2.out) (by omega) _ _) (by omega) _ _) (by omega) _ _) _⟩
  ·skip
   have bC:Hid (e1=Vf.AV m):=congrArg (fun x:Int × Int × Int=>x.1) HL.out;obtain rfl:u1=0:=congrArg (fun x:Int × Int × Int=>x.2.1) HL.out;obtain rfl:n1=0:=congrArg (fun x:Int × Int × Int=>x.2.2) HL.out;have ck:wr.cell? ⟨N,3,none⟩=some (.func (.func 55) #[eU m ab au cb cu] #[]):=by simp[World.cell?,hLk]
   clear hLk;go_wp2_with fail
   refine (AX m ab au cb cu B _ HM hBr e1 (hide bC.out)).mono ?_;rintro e w2 ⟨rfl,hg2⟩;have HG2:Hid (W0.grownBy w2 none):=bZ HA.out.grown hg2;have eH:w2.heap[w.heap.size]?=some dh:=(bY hg2 hzl).trans jT.out;obtain⟨⟨p0,p1,p2⟩,q0,q1,q2⟩:=eG eH;have HW2:=hide eH;have AY:=lt_of_block eH;clear hg2 eH ck z0 z1 z2 y0 y1 y2;by_cases h0:e1=0
   ·have e0:(e1 != 0)=false:=by simpa using h0
    have HN:Hid (r=Vf.from' m (6 - (3+1)) (3+1)):=by
     have:=HA.out.rest;rw[show 6 - 3=(6 - (3+1))+1 from rfl,Vf.from',← HL.out,if_pos h0] at this;exact this
    have HO:Hid (∀ j,j<3+1→(Vf.looks m j).1=0):=fun j hj=>by
     by_cases hj':j<3
     ·exact HA.out.ok j hj'
     ·obtain rfl:j=3:=by omega
      rw[← HL.out];exact h0
    clear h0;go_wp2
    go_roundw
    case rel=>exact⟨3+1,rfl,by omega,aR HG2.out _,HO.out,HN.out⟩
    case measure=>simp[intOf]
   ·have e0:(e1 != 0)=true:=by simpa using h0
    have HN:Hid (r=(e1,0,0)):=by
     have:=HA.out.rest;rw[show 6 - 3=(6 - (3+1))+1 from rfl,Vf.from',← HL.out,if_neg h0] at this;exact this
    clear h0;go_wp2
    have hX:=nH HW2.out (.int .i64 e1) (.int .i64 0) (.int .i64 0);obtain⟨⟨g0,g1,g2⟩,_⟩:=eG ((Below.heap_alloc _ (.cells #[.int .i64 e1,.int .i64 0,.int .i64 0] 95) _ (lt_of_block hX)).trans hX);refine bodyPost_ret (v:=dw e1 0 0) (by simp[results,Tryz.results51,go_sem,g0,g1,g2]) rfl ?_;rw[HN.out];exact⟨rfl,aR (aP (aP (aP (bZ HT.out HG2.out) (by omega) _ _) (by omega) _ _) (by omega) _ _) _⟩
  ·skip
   have HR:Hid (Rt m):=(D8 (HA.out.ok 0 (by omega)) (HA.out.ok 1 (by omega)) (HA.out.ok 2 (by omega))).1;have ck:wr.cell? ⟨N,4,none⟩=some (.func (.func 56) #[eU m ab au cb cu] #[]):=by simp[World.cell?,hLk]
   clear hLk;go_wp2_with fail
   refine (aba m ab au cb cu B _ HM hBr HR e1 u1 n1 HL).mono ?_;rintro e w2 ⟨rfl,hg2⟩;have HG2:Hid (W0.grownBy w2 none):=bZ HA.out.grown hg2;have eH:w2.heap[w.heap.size]?=some dh:=(bY hg2 hzl).trans jT.out;obtain⟨⟨p0,p1,p2⟩,q0,q1,q2⟩:=eG eH;have HW2:=hide eH;have AY:=lt_of_block eH;clear hg2 eH ck z0 z1 z2 y0 y1 y2;by_cases h0:e1=0
   ·have e0:(e1 != 0)=false:=by simpa using h0
    have HN:Hid (r=Vf.from' m (6 - (4+1)) (4+1)):=by
     have:=HA.out.rest;rw[show 6 - 4=(6 - (4+1))+1 from rfl,Vf.from',← HL.out,if_pos h0] at this;exact this
    have HO:Hid (∀ j,j<4+1→(Vf.looks m j).1=0):=fun j hj=>by
     by_cases hj':j<4
     ·exact HA.out.ok j hj'
     ·obtain rfl:j=4:=by omega
      rw[← HL.out];exact h0
    clear h0;go_wp2
    go_roundw
    case rel=>exact⟨4+1,rfl,by omega,aR HG2.out _,HO.out,HN.out⟩
    case measure=>simp[intOf]
   ·have e0:(e1 != 0)=true:=by simpa using h0
    have HN:Hid (r=(e1,u1,n1)):=by
     have:=HA.out.rest;rw[show 6 - 4=(6 - (4+1))+1 from rfl,Vf.from',← HL.out,if_neg h0] at this;exact this
    clear h0;go_wp2
    have hX:=nH HW2.out (.int .i64 e1) (.int .i64 u1) (.int .i64 n1);obtain⟨⟨g0,g1,g2⟩,_⟩:=eG ((Below.heap_alloc _ (.cells #[.int .i64 e1,.int .i64 u1,.int .i64 n1] 95) _ (lt_of_block hX)).trans hX);refine bodyPost_ret (v:=dw e1 u1 n1) (by simp[results,Tryz.results51,go_sem,g0,g1,g2]) rfl ?_;rw[HN.out];exact⟨rfl,aR (aP (aP (aP (bZ HT.out HG2.out) (by omega) _ _) (by omega) _ _) (by omega) _ _) _⟩
  ·skip
   have HR:Hid (Rt m):=(D8 (HA.out.ok 0 (by omega)) (HA.out.ok 1 (by omega)) (HA.out.ok 2 (by omega))).1;have hnb:m.boxes.length≤30:=(D8 (HA.out.ok 0 (by omega)) (HA.out.ok 1 (by omega)) (HA.out.ok 2 (by omega))).2;have bC:Hid ((e1,n1)=((Vf.xM m).1,((Vf.xM m).2:Int))):=congrArg (fun x:Int × Int × Int=>(x.1,x.2.2)) HL.out;obtain rfl:u1=0:=congrArg (fun x:Int × Int × Int=>x.2.1) HL.out;have ck:wr.cell? ⟨N,5,none⟩=some (.func (.func 57) #[eU m ab au cb cu] #[]):=by simp[World.cell?,hLk]
   clear hLk;go_wp2_with fail
   refine (abk m ab au cb cu B _ HM hBr HR hnb e1 n1 (hide bC.out)).mono ?_;rintro e w2 ⟨rfl,hg2⟩;have HG2:Hid (W0.grownBy w2 none):=bZ HA.out.grown hg2;have eH:w2.heap[w.heap.size]?=some dh:=(bY hg2 hzl).trans jT.out;obtain⟨⟨p0,p1,p2⟩,q0,q1,q2⟩:=eG eH;have HW2:=hide eH;have AY:=lt_of_block eH;clear hg2 eH ck z0 z1 z2 y0 y1 y2;by_cases h0:e1=0
   ·have e0:(e1 != 0)=false:=by simpa using h0
    have HN:Hid (r=Vf.from' m (6 - (5+1)) (5+1)):=by
     have:=HA.out.rest;rw[show 6 - 5=(6 - (5+1))+1 from rfl,Vf.from',← HL.out,if_pos h0] at this;exact this
    have HO:Hid (∀ j,j<5+1→(Vf.looks m j).1=0):=fun j hj=>by
     by_cases hj':j<5
     ·exact HA.out.ok j hj'
     ·obtain rfl:j=5:=by omega
      rw[← HL.out];exact h0
    clear h0;go_wp2
    go_roundw
    case rel=>exact⟨5+1,rfl,by omega,aR HG2.out _,HO.out,HN.out⟩
    case measure=>simp[intOf]
   ·have e0:(e1 != 0)=true:=by simpa using h0
    have HN:Hid (r=(e1,0,n1)):=by
     have:=HA.out.rest;rw[show 6 - 5=(6 - (5+1))+1 from rfl,Vf.from',← HL.out,if_neg h0] at this;exact this
    clear h0;go_wp2
    have hX:=nH HW2.out (.int .i64 e1) (.int .i64 0) (.int .i64 n1);obtain⟨⟨g0,g1,g2⟩,_⟩:=eG ((Below.heap_alloc _ (.cells #[.int .i64 e1,.int .i64 0,.int .i64 n1] 95) _ (lt_of_block hX)).trans hX);refine bodyPost_ret (v:=dw e1 0 n1) (by simp[results,Tryz.results51,go_sem,g0,g1,g2]) rfl ?_;rw[HN.out];exact⟨rfl,aR (aP (aP (aP (bZ HT.out HG2.out) (by omega) _ _) (by omega) _ _) (by omega) _ _) _⟩
  ·have HN:Hid (r=(0,0,0)):=HA.out.rest
   clear hLk;go_wp2
   refine bodyPost_ret (v:=dw 0 0 0) (by simp[results,Tryz.results51,go_sem,z0,z1,z2]) rfl ?_;rw[HN.out];exact⟨rfl,aP (aP (aP HG.out (by omega) _ _) (by omega) _ _) (by omega) _ _⟩
theorem abC (m:Vf.Md)(ab au:Option Addr)(cb cu B:Nat)(w:World)(hmd:Hid (aW B w m ab au))(hB:B≤w.heap.size)(r:Int × Int × Int)(hr:Hid (r=Vf.verify m)) :
  Calls Tryz.prog 32 #[eU m ab au cb cu] w fun e w'=>e=.returned (dw r.1 r.2.1 r.2.2)∧w.grownBy w' none:=by
 have rQ:∀ (fn:Fn) (first cap:Array Value) (w:World),(Instr.makeFunc fn first cap).run Tryz.prog w=.ok (.func fn first cap) w:=fun _ _ _ _=>rfl;obtain⟨W4,gF⟩:∃ W4:World,(((w.alloc (.cells #[.slice ab m.boxes.length cb,.slice au m.units.length cu] 25)).alloc dh).alloc (ig m ab au cb cu)).alloc (D9 m ab au cb cu)=W4:=⟨_,rfl⟩;have HT:Hid (w.grownBy W4 none):=by rw[← gF];exact aR (aR (fI _ _ _) _) _
 have HN:Hid (W4.heap[w.heap.size+1+1+1]?=some (D9 m ab au cb cu)):=by
  have e:(((w.alloc (.cells #[.slice ab m.boxes.length cb,.slice au m.units.length cu] 25)).alloc dh).alloc (ig m ab au cb cu)).heap.size=w.heap.size+1+1+1:=by simp
  rw[← gF,← e];exact heap_alloc_new _ _
 have HZ:Hid (W4.heap[w.heap.size+1]?=some dh):=by
  rw[← gF];exact (Below.heap_alloc _ _ _ (by simp)).trans ((Below.heap_alloc _ _ _ (by simp)).trans (xU _ _ _))
 have HM:Hid (aW B W4 m ab au):=hmd.out.low (gD HT.out hB);have jO:=hide gF;have o9:=HT.out.size;clear gF;go_enter Tryz.func32,Tryz.ntmps32
 go_wp2_with fail
 rw[jO.out];refine (abB m ab au cb cu B (w.heap.size+1+1+1) _ HM (by omega) HN r hr).mono ?_;rintro e w2 ⟨rfl,hg2⟩;have HG2:Hid (w.grownBy w2 none):=bZ HT.out hg2;have hwz:w2.heap[w.heap.size+1]?=some dh:=(bY hg2 (lt_of_block HZ.out)).trans HZ.out;obtain⟨⟨z0,z1,z2⟩,y0,y1,y2⟩:=eG hwz;clear hg2 hwz;go_wp2
 refine bodyPost_ret (v:=dw r.1 r.2.1 r.2.2) (by simp[results,Tryz.results32,go_sem,z0,z1,z2]) rfl ?_;exact⟨rfl,aP (aP (aP HG2.out (by omega) _ _) (by omega) _ _) (by omega) _ _⟩
end Go.Proofs.YtfcpglhpolpdcaaGreatDoor
namespace Go.Proofs.YtfcpglhpolpdcaaGreatDoor
namespace Vf
def I6:Un:=⟨4,0,[],0,0,[⟨1,0,1⟩,⟨28,0,0⟩,⟨25,0,0⟩]⟩
theorem I7 {m:Md}:verify m=(0,0,0) ↔ ∀ k,k<6→(looks m k).1=0:=by
 have key:∀ n k,(from' m n k=(0,0,0)→∀ j,k≤j→j<k+n→(looks m j).1=0)∧((∀ j,k≤j→j<k+n→(looks m j).1=0)→from' m n k=(0,0,0)):=by
  intro n;induction n with
  | zero=>intro k;exact⟨fun _ j h1 h2=>by omega,fun _=>rfl⟩
  | succ n ih =>
   intro k;have ih':=ih (k+1);refine⟨fun h j h1 h2=>?_,fun h=>?_⟩
   ·unfold from' at h
    split at h
    ·rename_i h0
     by_cases hj:j=k
     ·rw[hj];exact h0
     ·exact ih'.1 h j (by omega) (by omega)
    ·rename_i h0
     exact absurd (by rw[h]) h0
   ·unfold from'
    rw[if_pos (h k (Nat.le_refl _) (by omega))];exact ih'.2 (fun j h1 h2=>h j (by omega) (by omega))
 exact⟨fun h k hk=>(key 6 0).1 h k (Nat.zero_le _) (by omega),fun h=>(key 6 0).2 (fun j _ hj=>h j (by omega))⟩
structure iN (m n:Md):Prop where
 boxes:n.boxes=m.boxes
 len:n.units.length=m.units.length
 same:∀ (k:Nat) (u v:Un),m.units[k]?=some u→n.units[k]?=some v→v=u∨(u.kind=4∧v=I6)
theorem iN.at {m n:Md}(h:iN m n){k:Nat}{v:Un}(hv:n.units[k]?=some v):∃ u,m.units[k]?=some u∧(v=u∨(u.kind=4∧v=I6)):=by
 have hk:k<m.units.length:=by rw[← h.len];exact (List.getElem?_eq_some_iff.1 hv).1
 exact⟨_,List.getElem?_eq_getElem hk,h.same k _ v (List.getElem?_eq_getElem hk) hv⟩
theorem iN.is {m n:Md}(h:iN m n)(kd a:Int):Vf.is n kd a=Vf.is m kd a:=by
 unfold Vf.is;cases hn:n.units[a.toNat]? with
 | none =>
  have:m.units[a.toNat]?=none:=by
   rw[List.getElem?_eq_none_iff] at hn ⊢;rw[← h.len];exact hn
  rw[this]
 | some v =>
  obtain⟨u,hu,h1 | ⟨h1,h2⟩⟩:=h.at hn
  ·rw[hu,h1]
  ·rw[hu,h2]
   simp[I6,h1]
theorem iN.unit {m n:Md}(h:iN m n){kd a:Int}(hk:kd≠4)(hi:Vf.is m kd a=true):Vf.unit n a=Vf.unit m a:=by
 obtain⟨u,hu,hkd,h0⟩:=kN hi;have hi':Vf.is n kd a=true:=by rw[h.is];exact hi
 obtain⟨v,hv,hkv,_⟩:=kN hi';unfold Vf.unit;rw[hu,hv];rcases h.same _ u v hu hv with h1 | ⟨h1,_⟩
 ·rw[h1]
 ·exact absurd (hkd.symm.trans h1) hk
theorem iN.gm {m n:Md}(h:iN m n)(u:Un):Vf.gm n u=Vf.gm m u:=by
 unfold Vf.gm Vf.typed;have:(fun t=>plain t || Vf.is n 3 (t - 10))=fun t=>plain t || Vf.is m 3 (t - 10):=by funext t;rw[h.is]
 rw[this]
theorem iN.ranged {m n:Md}(h:iN m n)(u:Un)(c:Ins):Vf.ranged n u c=Vf.ranged m u c:=by
 unfold Vf.ranged;rw[h.is,h.is,h.boxes]
theorem iN.bE {m n:Md}(h:iN m n)(u:Un)(c:Ins):Vf.bE n u c=Vf.bE m u c:=by
 unfold Vf.bE;rw[h.ranged]
theorem iN.eO {m n:Md}(h:iN m n){u:Un}{c:Ins}(hf:Vf.bE m u c=0){k:Kn}(hk:kM m k.st):Vf.eO n u c k=Vf.eO m u c k:=by
 obtain⟨_,_,hrg⟩:=qi hf;have hsp:Vf.speak n u c k.st=Vf.speak m u c k.st:=by
  unfold Vf.speak;by_cases h23:c.op=23
  ·have h2:Vf.is m 2 c.a=true:=by
    rw[← hrg];unfold Vf.ranged;rw[if_neg (by omega),if_neg (by omega),if_neg (by omega),if_pos h23]
   rw[if_pos h23,if_pos h23];unfold Vf.params;rw[h.unit (by decide) h2]
  ·rw[if_neg h23,if_neg h23]
   by_cases gU:c.op=29
   ·have h2:Vf.is m 3 c.a=true:=by
     rw[← hrg];unfold Vf.ranged;rw[if_neg (by omega),if_neg (by omega),if_neg (by omega),if_neg (by omega),if_pos gU]
    rw[if_pos gU,if_pos gU];unfold Vf.params;rw[h.unit (by decide) h2]
   ·rw[if_neg gU,if_neg gU]
    have hb:Vf.jI n c.a=Vf.jI m c.a:=by unfold Vf.jI;rw[h.boxes]
    rw[hb];have hres:Vf.resume n k.st=Vf.resume m k.st:=by
     unfold Vf.resume;cases hst:k.st with
     | nil=>rfl
     | cons p st1 =>
      show Vf.andThen (kL st1) _=Vf.andThen (kL st1) _
      cases st1 with
      | nil=>rfl
      | cons g st2 =>
       unfold kL pop;show Vf.andThen (if 10≤g then Except.ok (g,st2) else Except.error 9) _=Vf.andThen (if 10≤g then Except.ok (g,st2) else Except.error 9) _
       by_cases hg:10≤g
       ·rw[if_pos hg]
        have hgm:g ∈ k.st:=by rw[hst];simp
        rcases hk g hgm with h1 | ⟨_,h1⟩
        ·unfold plain at h1;simp at h1;omega
        ·show Vf.andThen (Vf.must (p==(Vf.unit n (g - 10)).takes) 9 st2) (Vf.put (Vf.unit n (g - 10)).result)=Vf.andThen (Vf.must (p==(Vf.unit m (g - 10)).takes) 9 st2) (Vf.put (Vf.unit m (g - 10)).result)
         rw[h.unit (by decide) h1]
       ·rw[if_neg hg]
        rfl
    rw[hres]
 unfold Vf.eO;rw[hsp]
theorem iN.look {m n:Md}(h:iN m n){u:Un}(hf:Forms m u){i:Nat}{s:S}(hI:Inv m u s∨∀ k,s.come i=some k→kM m k.st):Vf.look n u i s=Vf.look m u i s:=by
 unfold Vf.look;cases hc:s.come i with
 | none=>rfl
 | some k =>
  cases hx:u.code[i]? with
  | none=>rfl
  | some c =>
   have hg:kM m k.st:=by
    rcases hI with hI | hI
    ·exact (hI.come i k hc).2.1
    ·exact hI k hc
   show Vf.andThen (Vf.gp n u c k) _=Vf.andThen (Vf.gp m u c k) _
   unfold Vf.gp;rw[h.eO (hf c (List.mem_of_getElem? hx)) hg]
theorem abD {m:Md}{u:Un}(hR:Rt m)(hu:Vf.gm m u=0)(hf:Forms m u){i:Nat}{row:List Nat}{come:Nat→Option Kn}{s':S}(hI:Inv m u ⟨come,i :: row⟩)(h:Vf.look m u i ⟨come,row⟩=.ok s'):Inv m u s':=by
 have hI2:Inv m u ⟨come,row⟩:=⟨hI.come,fun j hj=>hI.row j (List.mem_cons_of_mem _ hj)⟩;unfold Vf.look at h;split at h
 ·rename_i k c hk hc
  unfold Vf.andThen at h;split at h
  ·cases h
  ·rename_i k' hk'
   have hok:=hI.come i k hk;have hfm:=hf c (List.mem_of_getElem? hc);exact Gp (Wm hR hu hfm hok.2 hk') hI2 (CV hfm i) h
 ·cases h
  exact hI2
theorem iN.gH {m n:Md}(h:iN m n){u:Un}(hR:Rt m)(hu:Vf.gm m u=0)(hf:Forms m u):∀ (f:Nat) (s:S),Inv m u s→Vf.gH n u f s=Vf.gH m u f s
 | 0,_,_=>rfl
 | f+1,⟨come,[]⟩,_=>rfl
 | f+1,⟨come,i :: row⟩,hI=>by
  have hl:=h.look hf (i:=i) (s:=⟨come,row⟩) (.inr (fun k hk=>(hI.come i k hk).2.1));unfold Vf.gH;simp only;rw[hl];cases hr:Vf.look m u i ⟨come,row⟩ with
  | error e=>rfl
  | ok s'=>exact h.gH hR hu hf f s' (abD hR hu hf hI hr)
theorem abE {m:Md}{u:Un}(hu:Vf.gm m u=0):Inv m u (start u):=by
 obtain⟨_,_,_,_,h5,_⟩:=ko (iF hu).2.1;exact Da ⟨fun i k hk=>(by cases hk),fun i hi=>(by cases hi)⟩ h5 ⟨fun t ht=>(by cases ht),by simp⟩
theorem iN.gY {m n:Md}(h:iN m n){u:Un}(hR:Rt m)(hu:Vf.gm m u=0)(hf:Forms m u):Vf.gY n u=Vf.gY m u:=h.gH hR hu hf _ _ (abE hu)
end Vf
namespace Vm
open Vf
theorem kD (t:Tk)(v:Int):(t.put v).out=t.out∧((t.put v).over=t.over∨(t.put v).over=5):=by
 unfold Tk.put;split
 ·exact⟨rfl,.inr rfl⟩
 ·exact⟨rfl,.inl rfl⟩
theorem abF (m:Md)(t:Tk)(n:Nat):(t.call m n).out=t.out∧((t.call m n).over=t.over∨(t.call m n).over=5):=by
 unfold Tk.call;split
 ·exact⟨rfl,.inr rfl⟩
 ·split
  ·exact⟨rfl,.inl rfl⟩
  ·exact⟨rfl,.inr rfl⟩
theorem abG (m:Md)(t:Tk)(n:Nat):(t.start m n).out=t.out∧((t.start m n).over=t.over∨(t.start m n).over=5):=by
 unfold Tk.start;split
 ·exact⟨rfl,.inr rfl⟩
 ·exact⟨(kD _ _).1,(kD _ _).2⟩
theorem I8 (t:Tk)(s:Nat)(v:Int):(t.give s v).out=t.out∧((t.give s v).over=t.over∨(t.give s v).over=5):=by
 unfold Tk.give;exact⟨(kD _ _).1,(kD _ _).2⟩
theorem abH (t:Tk):t.fin.out=t.out∧(t.fin.over=t.over∨t.fin.over=4∨t.fin.over=5):=by
 unfold Tk.fin;split
 ·exact⟨rfl,.inr (.inl rfl)⟩
 ·exact⟨(I8 _ _ _).1,(I8 _ _ _).2.imp id .inr⟩
theorem abI (t:Tk):t.resume.out=t.out∧(t.resume.over=t.over∨t.resume.over=5):=by
 unfold Tk.resume;dsimp only;split
 ·exact⟨rfl,.inr rfl⟩
 ·split
  ·exact⟨rfl,.inr rfl⟩
  ·split
   ·exact⟨(kD _ _).1,(kD _ _).2⟩
   ·exact⟨rfl,.inl rfl⟩
theorem abJ (t:Tk)(op:Int):(t.reckon op).out=t.out∧((t.reckon op).over=t.over∨(t.reckon op).over=5):=by
 unfold Tk.reckon;split
 ·exact⟨rfl,.inr rfl⟩
 ·exact⟨(kD _ _).1,(kD _ _).2⟩
theorem abK (m:Md)(c:Ins)(t:Tk)(rv:Int):(t.act m c rv).out=(if c.op=28 then t.out++[t.last] else t.out)∧((t.act m c rv).over=t.over∨(t.act m c rv).over=4∨(t.act m c rv).over=5):=by
 have p:∀ {a b:Tk},b.out=a.out∧(b.over=a.over∨b.over=5)→a.out=t.out→a.over=t.over→c.op≠28→b.out=(if c.op=28 then t.out++[t.last] else t.out)∧(b.over=t.over∨b.over=4∨b.over=5):=fun h e1 e2 e3=>by
  rw[if_neg e3,← e1,← e2];exact⟨h.1,h.2.imp id .inr⟩
 unfold Tk.act;by_cases h1:c.op=1
 ·rw[if_pos h1];exact p (kD _ _) rfl rfl (by omega)
 rw[if_neg h1];by_cases h2:c.op=2
 ·rw[if_pos h2];exact p (kD _ _) rfl rfl (by omega)
 rw[if_neg h2];by_cases h3:c.op=3
 ·rw[if_pos h3];exact p (kD _ _) rfl rfl (by omega)
 rw[if_neg h3];by_cases h4:c.op=4
 ·rw[if_pos h4];exact p (a:=t) ⟨rfl,.inl rfl⟩ rfl rfl (by omega)
 rw[if_neg h4];by_cases h5:c.op=5
 ·rw[if_pos h5];exact p (a:=t) ⟨rfl,.inl rfl⟩ rfl rfl (by omega)
 rw[if_neg h5];by_cases h6:c.op=6
 ·rw[if_pos h6];exact p (kD _ _) rfl rfl (by omega)
 rw[if_neg h6];by_cases h7:c.op=7
 ·rw[if_pos h7];exact p (kD _ _) rfl rfl (by omega)
 rw[if_neg h7];by_cases h21:c.op=21
 ·rw[if_pos h21];exact p (a:=t) ⟨rfl,.inl rfl⟩ rfl rfl (by omega)
 rw[if_neg h21];by_cases h22:c.op=22
 ·rw[if_pos h22]
  split
  ·exact p (a:=t) ⟨rfl,.inl rfl⟩ rfl rfl (by omega)
  ·exact p (a:=t) ⟨rfl,.inl rfl⟩ rfl rfl (by omega)
 rw[if_neg h22];by_cases bR:c.op=26
 ·rw[if_pos bR];exact p (a:=t) ⟨rfl,.inl rfl⟩ rfl rfl (by omega)
 rw[if_neg bR];by_cases h27:c.op=27
 ·rw[if_pos h27];exact p (kD _ _) rfl rfl (by omega)
 rw[if_neg h27];by_cases oz:c.op=28
 ·rw[if_pos oz,if_pos oz];exact⟨rfl,.inl rfl⟩
 rw[if_neg oz];by_cases h23:c.op=23
 ·rw[if_pos h23];exact p (abF _ _ _) rfl rfl (by omega)
 rw[if_neg h23];by_cases iV:c.op=24
 ·rw[if_pos iV];exact p (kD _ _) rfl rfl (by omega)
 rw[if_neg iV];by_cases gU:c.op=29
 ·rw[if_pos gU];exact p (abG _ _ _) rfl rfl (by omega)
 rw[if_neg gU];by_cases mY:c.op=30
 ·rw[if_pos mY];exact p (abI _) rfl rfl (by omega)
 rw[if_neg mY];by_cases h31:c.op=31
 ·rw[if_pos h31];exact p (I8 _ _ _) rfl rfl (by omega)
 rw[if_neg h31];by_cases mZ:c.op=25
 ·rw[if_pos mZ,if_neg (by omega)];exact abH t
 rw[if_neg mZ];by_cases h32:c.op=32
 ·rw[if_pos h32];exact p (kD _ _) rfl rfl (by omega)
 rw[if_neg h32];exact p (abJ _ _) rfl rfl (by omega)
theorem abL {m:Md}(h:verify m=(0,0,0)):(∃ K,ib m K)∧m.boxes.length≤30:=by
 have hl:=I7.1 h;obtain⟨hR,hb⟩:=D8 (hl 0 (by omega)) (hl 1 (by omega)) (hl 2 (by omega));refine⟨?_,hb⟩;have key:∀ n:Nat,∃ K:Nat→Option Kn,∀ u,m.units[n]?=some u→Fix m u K:=fun n=>by
  cases hu:m.units[n]? with
  | none=>exact⟨fun _=>none,fun u e=>by cases e⟩
  | some u =>
   obtain⟨hh,hf⟩:=hR.heads n u hu;have hz:=ko (iF hh).2.1;obtain⟨K,hK⟩:=Wp hf (by omega) (I5 _ _ _ (show (jS (gY m) m.units 0).1=0 from hl 4 (by omega)) u (List.mem_of_getElem? hu));exact⟨K,fun u' e=>by cases e;exact hK⟩
 exact⟨fun n=>(key n).choose,hR,fun n u hu=>(key n).choose_spec u hu⟩
theorem abM {m:Md}{K:KM}{G:List Nat}{t:Tk}{st:List Int}(hK:ib m K)(hM:Mid m K G t st st)(ho:(t.ins m).op=26):WT G (jI m (t.ins m).a) (t.goto (t.frame.pc+1)).last:=by
 obtain⟨h,f,r,u,c,k,k',H⟩:=hM.here hK;rw[H.ins] at ho ⊢;rw[H.frame];have hN:=H.next hM (by omega) (by omega) (by omega) (by omega);have hr:=H.gp;unfold eO speak at hr;simp only[ho] at hr;simp at hr;have e:=uq hr;rw[H.bD] at e;rw[e] at hN;exact hN.cut.2
end Vm
end Go.Proofs.YtfcpglhpolpdcaaGreatDoor
namespace Go.Proofs.YtfcpglhpolpdcaaGreatDoor.Vw
def Ea (v:Int):Bool:=v==0 || v==1
theorem Qu {v:Int}:Ea v=true ↔ v=0∨v=1:=by simp[Ea]
end Go.Proofs.YtfcpglhpolpdcaaGreatDoor.Vw

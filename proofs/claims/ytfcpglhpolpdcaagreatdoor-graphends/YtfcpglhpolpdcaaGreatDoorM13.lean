/- The walks of resume,and of putting out. -/
import Derived.Test.YtfcpglhpolpdcaaGreatDoorM12
import Derived.Test.YtfcpglhpolpdcaaGreatDoorM4
set_option maxRecDepth 100000
set_option maxHeartbeats 2000000
namespace Go.Proofs.YtfcpglhpolpdcaaGreatDoor.Vw
open Go.RowKit Vf Vm
theorem zY {β:Type}(E:Env β)(c:Cx)(vB ev:Value)(o T:Nat)(L:av)(P:Nat→Nat)(w:World)(t:Tk)(x:β)(vR vO:Value)(H:Hid (St E c vB ev o T L P w t x vR vO))(v:Int)(hv:Hid (t.last=v)) :
  Calls Tryz.prog 148 #[.pointer (some ⟨P t.hand,0,none⟩)] w fun e w'=>e=.returned (.int .i64 v)∧o8 E c vB ev o T L P w w' t.cut x vR vO:=by
 rw[← hv.out];exact taken E c vB ev o T L P w t x vR vO H
theorem fw (t:Tk):t.cut.ae.length=t.ae.length:=by simp[Tk.cut,Tk.words,Tk.set]
theorem xA {β:Type}{E:Env β}{c:Cx}{vB ev:Value}{o T:Nat}{L:av}{P:Nat→Nat}{w:World}{t:Tk}{x:β}{vR vO:Value}{R nn cap:Nat}(H:St E c vB ev o T L P w t x vR vO)(hv:vR=.slice (some ⟨R,0,none⟩) nn cap)(j:Nat)(hj:j<t.ae.length):w.cell? ⟨R,j,none⟩=some (.pointer (some ⟨P j,0,none⟩)):=by
 obtain⟨R',cap',hv',_,hr'⟩:=H.row;rw[hv] at hv';simp at hv';rw[hv'.1];exact hr' j hj
theorem zZ {β:Type}{E:Env β}{c:Cx}{vB ev:Value}{o T:Nat}{L:av}{P:Nat→Nat}{w:World}{t:Tk}{x:β}{vR vO:Value}(H:St E c vB ev o T L P w t x vR vO)(j:Nat)(hj:j<t.ae.length):∃ h S g r vU,t.ae[j]?=some h∧aD c L o j P w h S g r vU∧h.stands=(t.th j).stands:=by
 obtain⟨h,hh⟩:∃ h,t.ae[j]?=some h:=⟨_,List.getElem?_eq_getElem hj⟩;obtain⟨S,g,r,vU,hT⟩:=H.tk.ae _ _ hh;exact⟨h,S,g,r,vU,hh,hT,by simp[Tk.th,hh]⟩
section
variable {β:Type} (E:Env β) (c:Cx) (vB:Value) (N:Nat) (af:Array Value) (hN:Hid (jl E c N af)) (o T:Nat) (L:av) (P:Nat→Nat) (w:World) (t:Tk) (x:β) (vR vO:Value) (H:Hid (St E c vB (.func (.func N) #[] af) o T L P w t x vR vO)) (bI:Hid (t.log.length≤2000001))
include hN H bI
theorem Gi (hj0:Hid (0≤t.cut.last∧t.cut.last.toNat<t.ae.length)) :
  Calls Tryz.prog 188 #[.pointer (some ⟨T,0,none⟩)] w fun e w'=>e=.returned (.tuple #[])∧aS E c vB (.func (.func N) #[] af) o T L w w' t.resume x:=by
 obtain⟨j,hj⟩:∃ j:Nat,j=t.cut.last.toNat:=⟨_,rfl⟩;have HJ:Hid (t.cut.last=(j:Int)):=by unfold Hid;have:=hj0.out;omega
 have He:=Sb.hide hj;obtain⟨R,cap,hv,hcap,_⟩:=H.out.row;obtain⟨nn,hnn⟩:∃ n,n=t.ae.length:=⟨_,rfl⟩;have hjl:j<nn:=by have:=hj0.out;omega
 have hnf:nn≤31:=by have:=H.out.tk.few;omega
 have n0:(0:Int)≤(j:Int):=by omega
 have n1:(j:Int)<(nn:Int):=by omega
 rw[← hnn] at hv;have HV:=Sb.hide hv;have bG:=Sb.hide hnn;obtain⟨c0,c1,c2,c3,c4,c5,c6,c7,fr⟩:=bS H.out.tk.blk;obtain⟨st,hst⟩:∃ st,st=(t.cut.cut.th j).stands:=⟨_,rfl⟩;have HST:=Sb.hide hst;clear hv hnn hj hcap hst;have xB:Hid (t.resume=if st=3 then t.cut.cut.fall 2 else if st=2 then t.cut.cut.fall 3 else if st=1 then ({ t.cut.cut.set j { t.cut.cut.th j with stands:=2,up:=some t.cut.cut.hand } with hand:=j }:Tk).put t.last else ({ t.cut.cut.set j { t.cut.cut.th j with stands:=2,up:=some t.cut.cut.hand } with hand:=j }:Tk)):=by
  unfold Hid Tk.resume;rw[HST.out,He.out]
 by_cases h3:st=3
 ·have H3:=Sb.hide h3
  go_enter Tryz.func188,Tryz.ntmps188
  go_wp2_with fail
  refine (taken E c vB (.func (.func N) #[] af) o T L P _ t x vR vO H).mono ?_;rintro e w1 ⟨rfl,L1,s1,q1,k1⟩;have b3:=(bS s1.tk.blk).2.2.2.1;rw[HV.out] at b3;have b4:w1.cell? ⟨T,4,none⟩=some (.pointer (some ⟨P t.hand,0,none⟩)):=by have hc:=cO s1;exact hc
  have br:w1.cell? ⟨R,j,none⟩=some (.pointer (some ⟨P j,0,none⟩)):=by
   obtain⟨R',cap',hv',_,hr'⟩:=s1.row;rw[HV.out] at hv';simp at hv';rw[hv'.1];exact hr' j (by rw[fw,← bG.out];exact hjl)
  have S1:=Sb.hide s1;have E1:=Sb.hide q1;have C1:=Sb.hide k1;clear s1 q1 k1 c0 c1 c2 c3 c4 c5 c6 c7 fr;go_wp2
  go_region_held3 (fun w'=>w'.cell? ⟨T,3,none⟩=some (.slice (some ⟨R,0,none⟩) nn cap)∧w'.cell? ⟨T,4,none⟩=some (.pointer (some ⟨P t.hand,0,none⟩))∧w'.cell? ⟨R,j,none⟩=some (.pointer (some ⟨P j,0,none⟩))) (go_keep) ((go_at_call 148;refine (zY E c vB (.func (.func N) #[] af) o T L1 P _ t.cut x vR vO (Sb.hide S1.out.drew) j HJ).mono ?_;rintro e w2 ⟨rfl,L2,s2,q2,k2⟩;have S2:=Sb.hide s2;have E2:=Sb.hide q2;have C2:=Sb.hide k2;have b3:=(bS s2.tk.blk).2.2.2.1;rw[HV.out] at b3;have b4:w2.cell? ⟨T,4,none⟩=some (.pointer (some ⟨P t.hand,0,none⟩)):=(by have hc:=cO s2;exact hc);have br:w2.cell? ⟨R,j,none⟩=some (.pointer (some ⟨P j,0,none⟩)):=xA s2 HV.out j (by rw[fw,fw,← bG.out];exact hjl);clear s2 q2 k2))
  obtain⟨hx,Sx,gx,rx,Du,hhx,hTx,hxs⟩:=zZ S2.out j (by rw[fw,fw,← bG.out];exact hjl);obtain⟨p0,p1,p2,p3⟩:=hTx.cells;rw[hxs] at p2;have Hf:=Sb.hide hhx;have Hg:=Sb.hide hTx;have qG:=Sb.hide hxs;rw[← HST.out,H3.out] at p2;clear hhx hTx hxs h3;go_wp2_with fail
  refine (uj E c vB N af hN o T L2 P _ t.cut.cut x vR vO S2 (Sb.hide (by exact bI.out)) 2).mono ?_;rintro e w3 ⟨rfl,hW⟩;have HW:=Sb.hide ((hW.trans E2.out C2.out).drew.trans E1.out C1.out);clear hW;go_wp2
  refine bodyPost_ret (v:=.tuple #[]) (by simp[results,Tryz.results188,go_sem]) rfl ⟨rfl,?_⟩;rw[xB.out,if_pos H3.out];exact HW.out
 ·by_cases h2:st=2
  ·have H3:=Sb.hide h3
   have H2:=Sb.hide h2;clear h3;go_enter Tryz.func188,Tryz.ntmps188
   go_wp2_with fail
   refine (taken E c vB (.func (.func N) #[] af) o T L P _ t x vR vO H).mono ?_;rintro e w1 ⟨rfl,L1,s1,q1,k1⟩;have b3:=(bS s1.tk.blk).2.2.2.1;rw[HV.out] at b3;have b4:w1.cell? ⟨T,4,none⟩=some (.pointer (some ⟨P t.hand,0,none⟩)):=by have hc:=cO s1;exact hc
   have br:w1.cell? ⟨R,j,none⟩=some (.pointer (some ⟨P j,0,none⟩)):=by
    obtain⟨R',cap',hv',_,hr'⟩:=s1.row;rw[HV.out] at hv';simp at hv';rw[hv'.1];exact hr' j (by rw[fw,← bG.out];exact hjl)
   have S1:=Sb.hide s1;have E1:=Sb.hide q1;have C1:=Sb.hide k1;clear s1 q1 k1 c0 c1 c2 c3 c4 c5 c6 c7 fr;go_wp2
   go_region_held3 (fun w'=>w'.cell? ⟨T,3,none⟩=some (.slice (some ⟨R,0,none⟩) nn cap)∧w'.cell? ⟨T,4,none⟩=some (.pointer (some ⟨P t.hand,0,none⟩))∧w'.cell? ⟨R,j,none⟩=some (.pointer (some ⟨P j,0,none⟩))) (go_keep) ((go_at_call 148;refine (zY E c vB (.func (.func N) #[] af) o T L1 P _ t.cut x vR vO (Sb.hide S1.out.drew) j HJ).mono ?_;rintro e w2 ⟨rfl,L2,s2,q2,k2⟩;have S2:=Sb.hide s2;have E2:=Sb.hide q2;have C2:=Sb.hide k2;have b3:=(bS s2.tk.blk).2.2.2.1;rw[HV.out] at b3;have b4:w2.cell? ⟨T,4,none⟩=some (.pointer (some ⟨P t.hand,0,none⟩)):=(by have hc:=cO s2;exact hc);have br:w2.cell? ⟨R,j,none⟩=some (.pointer (some ⟨P j,0,none⟩)):=xA s2 HV.out j (by rw[fw,fw,← bG.out];exact hjl);clear s2 q2 k2))
   obtain⟨hx,Sx,gx,rx,Du,hhx,hTx,hxs⟩:=zZ S2.out j (by rw[fw,fw,← bG.out];exact hjl);obtain⟨p0,p1,p2,p3⟩:=hTx.cells;rw[hxs] at p2;have Hf:=Sb.hide hhx;have Hg:=Sb.hide hTx;have qG:=Sb.hide hxs;rw[← HST.out,H2.out] at p2;clear hhx hTx hxs h2;go_wp2_with fail
   refine (uj E c vB N af hN o T L2 P _ t.cut.cut x vR vO S2 (Sb.hide (by exact bI.out)) 3).mono ?_;rintro e w3 ⟨rfl,hW⟩;have HW:=Sb.hide ((hW.trans E2.out C2.out).drew.trans E1.out C1.out);clear hW;go_wp2
   refine bodyPost_ret (v:=.tuple #[]) (by simp[results,Tryz.results188,go_sem]) rfl ⟨rfl,?_⟩;rw[xB.out,if_neg H3.out,if_pos H2.out];exact HW.out
  ·have e3:((st:Int)==3)=false:=by simp;omega
   have e2:((st:Int)==2)=false:=by simp;omega
   have H3:=Sb.hide h3;have H2:=Sb.hide h2;clear h3 h2;by_cases h1:st=1
   ·have e1:((st:Int)==1)=true:=by simp;omega
    have H1:=Sb.hide h1;clear h1;go_enter Tryz.func188,Tryz.ntmps188
    go_wp2_with fail
    refine (taken E c vB (.func (.func N) #[] af) o T L P _ t x vR vO H).mono ?_;rintro e w1 ⟨rfl,L1,s1,q1,k1⟩;have b3:=(bS s1.tk.blk).2.2.2.1;rw[HV.out] at b3;have b4:w1.cell? ⟨T,4,none⟩=some (.pointer (some ⟨P t.hand,0,none⟩)):=by have hc:=cO s1;exact hc
    have br:w1.cell? ⟨R,j,none⟩=some (.pointer (some ⟨P j,0,none⟩)):=by
     obtain⟨R',cap',hv',_,hr'⟩:=s1.row;rw[HV.out] at hv';simp at hv';rw[hv'.1];exact hr' j (by rw[fw,← bG.out];exact hjl)
    have S1:=Sb.hide s1;have E1:=Sb.hide q1;have C1:=Sb.hide k1;clear s1 q1 k1 c0 c1 c2 c3 c4 c5 c6 c7 fr;go_wp2
    go_region_held3 (fun w'=>w'.cell? ⟨T,3,none⟩=some (.slice (some ⟨R,0,none⟩) nn cap)∧w'.cell? ⟨T,4,none⟩=some (.pointer (some ⟨P t.hand,0,none⟩))∧w'.cell? ⟨R,j,none⟩=some (.pointer (some ⟨P j,0,none⟩))) (go_keep) ((go_at_call 148;refine (zY E c vB (.func (.func N) #[] af) o T L1 P _ t.cut x vR vO (Sb.hide S1.out.drew) j HJ).mono ?_;rintro e w2 ⟨rfl,L2,s2,q2,k2⟩;have S2:=Sb.hide s2;have E2:=Sb.hide q2;have C2:=Sb.hide k2;have b3:=(bS s2.tk.blk).2.2.2.1;rw[HV.out] at b3;have b4:w2.cell? ⟨T,4,none⟩=some (.pointer (some ⟨P t.hand,0,none⟩)):=(by have hc:=cO s2;exact hc);have br:w2.cell? ⟨R,j,none⟩=some (.pointer (some ⟨P j,0,none⟩)):=xA s2 HV.out j (by rw[fw,fw,← bG.out];exact hjl);clear s2 q2 k2))
    obtain⟨hx,Sx,gx,rx,Du,hhx,hTx,hxs⟩:=zZ S2.out j (by rw[fw,fw,← bG.out];exact hjl);obtain⟨p0,p1,p2,p3⟩:=hTx.cells;rw[hxs] at p2;have Hf:=Sb.hide hhx;have Hg:=Sb.hide hTx;have qG:=Sb.hide hxs;rw[← HST.out] at p2;have uy:Hid (t.cut.cut.th j=hx):=by unfold Hid;simp[Tk.th,hhx]
    obtain⟨L3,s3,q3,k3⟩:=S2.out.thread hhx (hTx.NH S2.out.ok 2 t.hand);have rM:j<(t.cut.cut.set j { hx with stands:=2,up:=some t.hand }).ae.length:=by simp[Tk.set];rw[fw,fw,← bG.out];exact hjl
    obtain⟨s4,k4⟩:=s3.handed rM;have X5:=hTx.free;have NK:=(bS S2.out.tk.blk).2.2.2.2.2.2.2.2;have zQ:¬ T=P j:=fun e=>by have a:=S2.out.tk.lT;have b:=hTx.l0;rw[e,b] at a;cases a
    have NJ:¬ P j=T:=fun e=>zQ e.symm;have S4:=Sb.hide s4;have E3:=Sb.hide q3;have C3:=Sb.hide k3;have C4:=Sb.hide k4;clear s3 q3 k3 s4 k4 hhx hTx hxs rM p0 p1;go_wp2_with fail
    refine (gJ E c vB N af hN o T L3 P _ _ x vR vO S4 (Sb.hide (by exact bI.out)) t.last).mono ?_;rintro e w5 ⟨rfl,hW⟩;have HW:=Sb.hide (((((hW.trans (.refl _ _ _) C4.out).trans E3.out C3.out).trans E2.out C2.out).drew).trans E1.out C1.out);clear hW;go_wp2
    go_end0
    refine⟨rfl,?_⟩;rw[xB.out,if_neg H3.out,if_neg H2.out,if_pos H1.out,uy.out];exact HW.out
   ·have e1:((st:Int)==1)=false:=by simp;omega
    have H1:=Sb.hide h1;clear h1;go_enter Tryz.func188,Tryz.ntmps188
    go_wp2_with fail
    refine (taken E c vB (.func (.func N) #[] af) o T L P _ t x vR vO H).mono ?_;rintro e w1 ⟨rfl,L1,s1,q1,k1⟩;have b3:=(bS s1.tk.blk).2.2.2.1;rw[HV.out] at b3;have b4:w1.cell? ⟨T,4,none⟩=some (.pointer (some ⟨P t.hand,0,none⟩)):=by have hc:=cO s1;exact hc
    have br:w1.cell? ⟨R,j,none⟩=some (.pointer (some ⟨P j,0,none⟩)):=by
     obtain⟨R',cap',hv',_,hr'⟩:=s1.row;rw[HV.out] at hv';simp at hv';rw[hv'.1];exact hr' j (by rw[fw,← bG.out];exact hjl)
    have S1:=Sb.hide s1;have E1:=Sb.hide q1;have C1:=Sb.hide k1;clear s1 q1 k1 c0 c1 c2 c3 c4 c5 c6 c7 fr;go_wp2
    go_region_held3 (fun w'=>w'.cell? ⟨T,3,none⟩=some (.slice (some ⟨R,0,none⟩) nn cap)∧w'.cell? ⟨T,4,none⟩=some (.pointer (some ⟨P t.hand,0,none⟩))∧w'.cell? ⟨R,j,none⟩=some (.pointer (some ⟨P j,0,none⟩))) (go_keep) ((go_at_call 148;refine (zY E c vB (.func (.func N) #[] af) o T L1 P _ t.cut x vR vO (Sb.hide S1.out.drew) j HJ).mono ?_;rintro e w2 ⟨rfl,L2,s2,q2,k2⟩;have S2:=Sb.hide s2;have E2:=Sb.hide q2;have C2:=Sb.hide k2;have b3:=(bS s2.tk.blk).2.2.2.1;rw[HV.out] at b3;have b4:w2.cell? ⟨T,4,none⟩=some (.pointer (some ⟨P t.hand,0,none⟩)):=(by have hc:=cO s2;exact hc);have br:w2.cell? ⟨R,j,none⟩=some (.pointer (some ⟨P j,0,none⟩)):=xA s2 HV.out j (by rw[fw,fw,← bG.out];exact hjl);clear s2 q2 k2))
    obtain⟨hx,Sx,gx,rx,Du,hhx,hTx,hxs⟩:=zZ S2.out j (by rw[fw,fw,← bG.out];exact hjl);obtain⟨p0,p1,p2,p3⟩:=hTx.cells;rw[hxs] at p2;have Hf:=Sb.hide hhx;have Hg:=Sb.hide hTx;have qG:=Sb.hide hxs;rw[← HST.out] at p2;have uy:Hid (t.cut.cut.th j=hx):=by unfold Hid;simp[Tk.th,hhx]
    obtain⟨L3,s3,q3,k3⟩:=S2.out.thread hhx (hTx.NH S2.out.ok 2 t.hand);have rM:j<(t.cut.cut.set j { hx with stands:=2,up:=some t.hand }).ae.length:=by simp[Tk.set];rw[fw,fw,← bG.out];exact hjl
    obtain⟨s4,k4⟩:=s3.handed rM;have X5:=hTx.free;have NK:=(bS S2.out.tk.blk).2.2.2.2.2.2.2.2;have zQ:¬ T=P j:=fun e=>by have a:=S2.out.tk.lT;have b:=hTx.l0;rw[e,b] at a;cases a
    have NJ:¬ P j=T:=fun e=>zQ e.symm;have S4:=Sb.hide s4;have E3:=Sb.hide q3;have C3:=Sb.hide k3;have C4:=Sb.hide k4;clear s3 q3 k3 s4 k4 hhx hTx hxs rM p0 p1;go_wp2
    go_end0
    refine⟨rfl,?_⟩;rw[xB.out,if_neg H3.out,if_neg H2.out,if_neg H1.out,uy.out];exact (((((aS.refl S4.out).trans (.refl _ _ _) C4.out).trans E3.out C3.out).trans E2.out C2.out).drew).trans E1.out C1.out
end
theorem X6 {c:Cx}{vB ev vR vO xC:Value}{w:World}{T hp ov tr:Nat}(h:w.heap[T]?=some (fG c vB ev vR hp vO ov tr)):(w.setCell ⟨T,5,none⟩ xC).heap[T]?=some (fG c vB ev vR hp xC ov tr):=by
 simp only[World.setCell,Array.getElem?_modify,if_true,h,Option.map_some];rfl
section
variable {β:Type} {E:Env β} {c:Cx} {vB ev:Value} {o T:Nat} {L:av} {P:Nat→Nat} {w w4:World} {t:Tk} {x:β} {vR vO:Value}
theorem St.X7 (H:St E c vB ev o T L P w t x vR vO){v:Int}{R cap:Nat}{ob:Obj}
  (hown:w4.ownsRow 0 2 1 (.slice (some ⟨R,0,none⟩) (t.out.length+1) cap) (t.out.length+1) (ints t.out++[.int .i64 v])) (hg:(w.alloc ob).grownBy w4 vO.ownBlock) (hR:vO.ownBlock=some R∨R=(w.alloc ob).heap.size) :
  aS E c vB ev o T L w (w4.setCell ⟨T,5,none⟩ (.slice (some ⟨R,0,none⟩) (t.out.length+1) cap)) { t with out:=t.out++[v] } x:=by
 have o9:=hg.size;simp at o9;have jM:=lt_of_block H.tk.blk;have xu:w.heap.size≤R∨vO.ownBlock=some R:=by
  rcases hR with hR | hR
  ·exact .inr hR
  ·left;simp at hR;omega
 have bJ:R<w4.heap.size:=(hown.lt R rfl).2;have GZ:R≠T:=fun e=>by
  rcases xu with hx | hx
  ·omega
  ·have a:=H.tk.lO R hx;have b:=H.tk.lT;rw[e,b] at a;cases a
 have blk:∀ b,b<w.heap.size→vO.ownBlock≠some b→b≠T→(w4.setCell ⟨T,5,none⟩ (.slice (some ⟨R,0,none⟩) (t.out.length+1) cap)).heap[b]?=w.heap[b]?:=fun b hb hn hT=>(Below.heap_setCell _ _ _ _ hT).trans ((hg.block b (by simp;omega) (fun e=>hn e.symm)).trans (Below.heap_alloc _ _ _ hb));have lab:∀ b,b<w.heap.size→(fun b=>if b=R then (⟨1,o,0,6⟩:Lb) else L b) b=L b:=fun b hb=>by
  by_cases e:b=R
  ·rcases xu with hx | hx
   ·omega
   ·simp only[e,if_true]
    rw[H.tk.lO R hx]
  ·simp only[e,if_false]
 have nR:∀ {b i p:Nat},L b=⟨1,o,i,p⟩→¬ (i=0∧p=6)→vO.ownBlock≠some b:=fun e hn hx=>hn (by
  have a:=H.tk.lO _ hx;rw[e] at a;simp at a;exact a)
 have nT:∀ {b i p:Nat},L b=⟨1,o,i,p⟩→¬ (i=0∧p=4)→b≠T:=fun e hn hx=>hn (by
  have a:=H.tk.lT;rw[← hx,e] at a;simp at a;exact a)
 have G5:∀ {b:Nat},(L b).cls≠1→b≠T:=fun hn hx=>hn (by rw[hx,H.tk.lT]);have G6:∀ {b:Nat},(L b).cls≠1→vO.ownBlock≠some b:=fun hn hx=>hn (by rw[H.tk.lO _ hx]);have hC:aQ (WB L o) w (w4.setCell ⟨T,5,none⟩ (.slice (some ⟨R,0,none⟩) (t.out.length+1) cap)):=by
  refine⟨hg.os,hg.tape,hg.output,by simp[World.setCell];omega,fun b hb hn=>blk b hb (fun hx=>hn (.inl ?_)) (fun hx=>hn (.inl ?_))⟩
  ·rw[H.tk.lO b hx];exact⟨rfl,rfl⟩
  ·rw[hx,H.tk.lT];exact⟨rfl,rfl⟩
 refine⟨fun b=>if b=R then ⟨1,o,0,6⟩ else L b,P,vR,.slice (some ⟨R,0,none⟩) (t.out.length+1) cap,⟨⟨?_,?_,?_,fun i h' hh=>?_,H.tk.few,H.tk.hand,(lab T jM).trans H.tk.lT,fun b hb=>?_,fun b hb=>by cases hb;simp,fun b h1 h2=>?_⟩,?_,⟨fun b hb=>?_,fun b hb=>?_,by have:=H.ok.size;simp[World.setCell];omega⟩,H.cx.ui H.ok hC⟩,⟨fun b hb=>lab b hb,fun b=>?_⟩,hC⟩
 ·refine X6 (vO:=vO) ?_
  exact (hg.block T (by simp;omega) (fun e=>(nR H.tk.lT (by omega)) e.symm)).trans ((Below.heap_alloc _ _ _ jM).trans H.tk.blk)
 ·refine bA H.tk.rows (fun b hb=>?_)
  have l1:=H.tk.lR b hb;exact blk b (H.tk.rows.lt b hb).2 (nR l1 (by omega)) (nT l1 (by omega))
 ·have e:ints (t.out++[v])=ints t.out++[.int .i64 v]:=by simp[ints]
  show World.ownsRow _ _ _ _ _ (t.out++[v]).length (ints (t.out++[v]))
  rw[e,List.length_append];exact bA hown (fun k hk=>by cases hk;exact Below.heap_setCell _ _ _ _ GZ)
 ·obtain⟨S,g,r,vU,hT⟩:=H.tk.ae i h' hh
  refine⟨S,g,r,vU,hT.keep lab rfl rfl (fun b hb hx=>blk b hb (fun hy=>?_) (fun hy=>?_))⟩
  ·rw[H.tk.lO b hy] at hx;cases hx.2.2
  ·rw[hy,H.tk.lT] at hx;cases hx.2.2
 ·exact (lab b (H.tk.rows.lt b hb).2).trans (H.tk.lR b hb)
 ·by_cases e:b=R
  ·simp only[e,if_true];omega
  ·simp only[e,if_false] at h1 h2 ⊢
   exact H.tk.kv b h1 h2
 ·refine E.keep H.en lab (by simp[World.setCell];omega) (fun b hb hx=>?_)
  have hx2:(L b).cls≠1:=by omega
  exact blk b hb (G6 hx2) (G5 hx2)
 ·have hb2:=H.ok.low b hb
  have NQ:=H.ok.size;exact (congrArg Lb.cls (lab b (by omega))).trans hb2
 ·have hb':w4.heap.size≤b:=by simpa[World.setCell] using hb
  have e:b≠R:=by omega
  simp only[e,if_false];exact H.ok.new b (by omega)
 ·by_cases e:b=R
  ·right;left;simp[e]
  ·left;simp only[e,if_false]
end
section
variable {β:Type} (E:Env β) (c:Cx) (vB:Value) (N:Nat) (af:Array Value) (hN:Hid (jl E c N af)) (o T:Nat) (L:av) (P:Nat→Nat) (w:World) (t:Tk) (x:β) (vR vO:Value) (H:Hid (St E c vB (.func (.func N) #[] af) o T L P w t x vR vO)) (bI:Hid (t.log.length≤2000000))
include hN H bI
theorem X8 (ho:t.out.length≤1000000) :
  Calls Tryz.prog 151 #[.pointer (some ⟨T,0,none⟩)] w fun e w'=>e=.returned (.tuple #[])∧aS E c vB (.func (.func N) #[] af) o T L w w' (({ t.cut with out:=t.out++[t.last] }:Tk).note ⟨1,0,t.last⟩) x:=by
 obtain⟨i0,hi,hz0,hz1,hz2⟩:=info_parts Sb.Tryz.qp;have d0:=cO H.out;go_enter Tryz.func151,Tryz.ntmps151
 go_wp2_with fail
 refine (taken E c vB (.func (.func N) #[] af) o T L P _ t x vR vO H).mono ?_;rintro e w1 ⟨rfl,L1,s1,q1,k1⟩;have b5:=(bS s1.tk.blk).2.2.2.2.2.1;have S1:=Sb.hide s1;have E1:=Sb.hide q1;have C1:=Sb.hide k1;have X9:=lt_of_block s1.tk.blk;have HRW:Hid ((w1.alloc (.cells #[.int .i64 t.last] 2)).ownsRow 0 2 1 vO t.out.length (ints t.out)):=s1.tk.out.alloc _;clear s1 q1 k1;go_wp2_with (at_builtin;refine wZ rfl (.tmp 12) (.tmp 14) 38 rfl 0 2 i0 (.int .i64 0) 1 8 Tryz.underlying38 hi hz0 hz1 hz2 rfl (by decide) vO t.out.length (ints t.out) rfl HRW.out ⟨w1.heap.size,0,none⟩ 1 1 [.int .i64 t.last] rfl rfl (oo w1 _ _) (oq rfl) (by decide) (by unfold maxLen;omega) (by omega) (Nat.zero_le _) ?_)
 intro R4 cap4 w4 bO hg4 bJ;have dH:aS E c vB (.func (.func N) #[] af) o T L1 w1 (w4.setCell ⟨T,5,none⟩ (.slice (some ⟨R4,0,none⟩) (t.out.length+1) cap4)) ({ t.cut with out:=t.out++[t.last] }:Tk) x:=S1.out.X7 (v:=t.last) bO hg4 (bJ.imp id (fun e=>by simpa using e));have kX:w4.heap[T]?=some (fG c vB (.func (.func N) #[] af) vR (P t.cut.hand) vO t.cut.over t.cut.trap):=(hg4.block T (by simp;omega) (fun e=>by
  have a:=S1.out.tk.lO T e.symm;have b:=S1.out.tk.lT;rw[b] at a;cases a)).trans ((Below.heap_alloc _ _ _ X9).trans S1.out.tk.blk)
 have G8:w4.frozen? ⟨T,5,none⟩=false:=by simp[World.frozen?,kX]
 have q4:w4.cell? ⟨T,5,none⟩=some vO:=by simp[World.cell?,kX]
 obtain⟨L5,P5,G9,Ha,s5,q5,k5⟩:=dH;have f2:=(bS s5.tk.blk).2.2.1;have S5:=Sb.hide s5;have E5:=Sb.hide q5;have C5:=Sb.hide k5;have hent:=hN.out.enter;clear s5 q5 k5 bO hg4 bJ kX;go_wp2_with fail
 refine (hN.out.call ⟨1,0,t.last⟩ L5 _ _ _ (Sb.hide S5.out.en) (Sb.hide S5.out.ok) (by have:=bI.out;exact Nat.le_succ_of_le this)).mono ?_;rintro e w6 ⟨rfl,L6,h1,h2,h3,h4⟩;have HW:=Sb.hide (((S5.out.heard h1 h2 h3 h4).trans E5.out C5.out).trans E1.out C1.out);clear h1 h2 h3 h4;go_wp2
 go_end0
 exact⟨rfl,HW.out⟩
end
end Go.Proofs.YtfcpglhpolpdcaaGreatDoor.Vw
namespace Go.Proofs.YtfcpglhpolpdcaaGreatDoor.Vw
open Vf Vm
structure gN (β:Type) where
 full:β→Nat→Bool
 may:β→Nat→Prop
 empty:β→Nat→Bool
 put:β→Nat→Int→β
 head:β→Nat→Int
 take:β→Nat→β
def ou {β:Type}(X:gN β)(i:Ins)(v:Int)(x:β):β:=if i.op=26 then X.put x i.a.toNat v else if i.op=27 then X.take x i.a.toNat else x
def stat {β:Type}(X:gN β)(m:Md)(t:Tk)(x:β):Nat × Nat :=
 if t.over≠0 then (t.over,0)
 else if (t.ins m).op=26∧X.full x (t.ins m).a.toNat=true then (2,(t.ins m).a.toNat)
 else if (t.ins m).op=27∧X.empty x (t.ins m).a.toNat=true then (3,(t.ins m).a.toNat)
 else (1,0)
def one {β:Type}(X:gN β)(m:Md)(t:Tk)(x:β):Tk × β:=(t.step m (X.head x (t.ins m).a.toNat),ou X (t.ins m) (t.goto (t.frame.pc+1)).last x)
def go {β:Type}(X:gN β)(m:Md):Nat→Tk→β→Nat × Tk × β
 | 0,t,x=>(0,t,x)
 | n+1,t,x=>if (stat X m t x).1=1 then ((go X m n (one X m t x).1 (one X m t x).2).1+1,(go X m n (one X m t x).1 (one X m t x).2).2) else (0,t,x)
end Go.Proofs.YtfcpglhpolpdcaaGreatDoor.Vw

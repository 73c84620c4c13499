/- The walks of end and call. -/
import Derived.Test.YtfcpglhpolpdcaaGreatDoorM11
import Derived.LaidEqlPtr
set_option maxRecDepth 100000
set_option maxHeartbeats 4000000
namespace Go.Proofs.YtfcpglhpolpdcaaGreatDoor.Vw
open Go.RowKit Vf Vm
theorem Tryz.NL:(Tryz.prog.info? 210).map (fun i=>(i.zero,i.size,i.bytes))=some (some (.agg #[.pointer none,.slice none 0 0,.int .i64 0,.pointer none]),4,48):=by kernel_rfl
section
variable {β:Type} {E:Env β} {c:Cx} {vB ev:Value} {o T:Nat} {L:av} {P:Nat→Nat} {w:World} {t:Tk} {x:β} {vR vO:Value}
theorem St.drew (H:St E c vB ev o T L P w t x vR vO):St E c vB ev o T L P w.drew t x vR vO:=H.below ⟨rfl,rfl,rfl,Nat.le_refl _,fun _ _=>rfl⟩
theorem aS.drew {w1:World}(H:aS E c vB ev o T L w.drew w1 t x):aS E c vB ev o T L w w1 t x:=by
 obtain⟨L2,P2,mU,mV,h1,h2,h3⟩:=H;exact⟨L2,P2,mU,mV,h1,h2,h3.os,h3.tape,h3.output,h3.size,h3.block⟩
theorem St.row (H:St E c vB ev o T L P w t x vR vO):∃ R cap,vR=.slice (some ⟨R,0,none⟩) t.ae.length cap∧t.ae.length≤cap∧∀ j,j<t.ae.length→w.cell? ⟨R,j,none⟩=some (.pointer (some ⟨P j,0,none⟩)):=by
 rcases H.tk.rows.2 with⟨_,hv⟩ | ⟨R,cap,cur,hv,_,hh,h1,h2,h3,h4⟩
 ·have:=H.tk.hand;omega
 ·refine⟨R,cap,hv,h1,fun j hj=>?_⟩
  have e:cur[j]?=some (.pointer (some ⟨P j,0,none⟩)):=by
   have e2:(cur.toList.take (t.ae.length * 1))[j]?=cur[j]?:=by rw[List.getElem?_take,if_pos (by omega)];simp
   rw[← e2,h4];exact xh P hj
  simp[World.cell?,hh,e]
theorem St.inj (H:St E c vB ev o T L P w t x vR vO){i j:Nat}(hi:i<t.ae.length)(hj:j<t.ae.length)(h:P i=P j):i=j:=by
 obtain⟨_,_,_,_,h1⟩:=H.tk.ae i _ (List.getElem?_eq_getElem hi);obtain⟨_,_,_,_,h2⟩:=H.tk.ae j _ (List.getElem?_eq_getElem hj);have a:=h1.l0;have b:=h2.l0;rw[h,b] at a;simp at a;exact a.symm
end
section
variable {β:Type} (E:Env β) (c:Cx) (vB:Value) (N:Nat) (af:Array Value) (hN:Hid (jl E c N af)) (o T:Nat) (L:av) (P:Nat→Nat) (w:World) (t:Tk) (x:β) (vR vO:Value) (H:Hid (St E c vB (.func (.func N) #[] af) o T L P w t x vR vO)) (bI:Hid (t.log.length≤2000001))
include hN H bI
theorem XR (hj:Hid (t.hand≠0→∃ j,t.top.up=some j∧j<t.ae.length)) :
  Calls Tryz.prog 190 #[.pointer (some ⟨T,0,none⟩)] w fun e w'=>e=.returned (.tuple #[])∧aS E c vB (.func (.func N) #[] af) o T L w w' t.fin x:=by
 obtain⟨c0,c1,c2,c3,c4,c5,c6,c7,fr⟩:=bS H.out.tk.blk;obtain⟨R,cap,hv,hcap,hrow⟩:=H.out.row;have hlen:=H.out.tk.hand;have dx:=H.out.tk.few;have r0:=hrow 0 (by omega);obtain⟨nn,hnn⟩:∃ n,n=t.ae.length:=⟨_,rfl⟩;have n0:0<nn:=by omega
 have n1:nn≤31:=by omega
 rw[hv,← hnn] at c3;clear hnn;by_cases hz:t.hand=0
 ·have hP:P t.hand=P 0:=by rw[hz]
  rw[hP] at c4;obtain⟨s1,k1⟩:=H.out.own (t':={ t with over:=4 }) (w1:=w.setCell ⟨T,6,none⟩ (.int .i64 4)) (fun b hb=>Below.heap_setCell _ _ _ _ hb) (by simp[World.setCell]) ⟨rfl,rfl,rfl⟩ (XP H.out.tk.blk) rfl rfl rfl H.out.tk.hand;have S1:=Sb.hide s1;have C1:=Sb.hide k1;have HZ:=Sb.hide hz;have hent:=hN.out.enter;obtain⟨j0,hj0,_⟩:=info_parts Tryz.NL;have heq:∀ w':World,Sem.run Tryz.prog (binOp BinOp.eql 161 (.pointer (some ⟨P 0,0,none⟩)) (.pointer (some ⟨P 0,0,none⟩))) w'=.ok (.bool true) w':=fun w'=>run_eql_ptr_same w' _ Tryz.underlying161 hj0;clear s1 k1 hz hP hrow hv hj0;go_enter Tryz.func190,Tryz.ntmps190
  go_wp2
  go_region_held3 (fun w'=>w'.cell? ⟨T,4,none⟩=some (.pointer (some ⟨P 0,0,none⟩))∧w'.cell? ⟨T,3,none⟩=some (.slice (some ⟨R,0,none⟩) nn cap)∧w'.cell? ⟨R,0,none⟩=some (.pointer (some ⟨P 0,0,none⟩))) (go_keep) (fail)
  go_wp2_with fail
  refine (hN.out.call ⟨4,0,0⟩ L _ _ _ (Sb.hide S1.out.drew.en) (Sb.hide S1.out.drew.ok) (by exact bI.out)).mono ?_;rintro e w1 ⟨rfl,L',h1,h2,h3,h4⟩;have HF:=Sb.hide ((S1.out.drew.heard h1 h2 h3 h4).drew.trans (.refl _ _ _) C1.out);clear h1 h2 h3 h4;go_wp2
  exact bodyPost_ret (v:=.tuple #[]) (by simp[results,Tryz.results190,go_sem]) rfl ⟨rfl,by unfold Tk.fin;rw[if_pos HZ.out];exact HF.out⟩
 ·have hP:¬ P t.hand=P 0:=fun e=>hz (H.out.inj hlen (by omega) e)
  obtain⟨j,rM⟩:=hj.out hz;have HJ:=Sb.hide rM;clear rM;have HZ:=Sb.hide hz;obtain⟨j0,hj0,_,hj2,_⟩:=info_parts Tryz.NL;have hj1:j0.size≠0:=by rw[hj2];decide
  obtain⟨ca,NM⟩:∃ ca,w.drew.heap[P t.hand]?=some (.cells ca 210 (0,0)):=by
   obtain⟨_,_,_,_,h1⟩:=H.out.tk.ae t.hand _ (List.getElem?_eq_getElem hlen);exact⟨_,h1.blk⟩
  obtain⟨cb,hcb⟩:∃ ca,w.drew.heap[P 0]?=some (.cells ca 210 (0,0)):=by
   obtain⟨_,_,_,_,h1⟩:=H.out.tk.ae 0 _ (List.getElem?_eq_getElem (by omega));exact⟨_,h1.blk⟩
  have heq:Sem.run Tryz.prog (binOp BinOp.eql 161 (.pointer (some ⟨P t.hand,0,none⟩)) (.pointer (some ⟨P 0,0,none⟩))) w.drew=.ok (.bool false) w.drew:=run_eql_ptr_other (P:=Tryz.prog) w.drew (tp:=161) (te:=210) (a:=⟨P t.hand,0,none⟩) (b:=⟨P 0,0,none⟩) Tryz.underlying161 hj0 hj1 (by intro e;simp at e<;>exact hP e) NM hcb;clear hz hrow hv NM hcb hj0 hj1 hj2;go_enter Tryz.func190,Tryz.ntmps190
  go_wp2
  go_region_held3 (fun w'=>w'.cell? ⟨T,4,none⟩=some (.pointer (some ⟨P t.hand,0,none⟩))∧w'.cell? ⟨T,3,none⟩=some (.slice (some ⟨R,0,none⟩) nn cap)∧w'.cell? ⟨R,0,none⟩=some (.pointer (some ⟨P 0,0,none⟩))∧Sem.run Tryz.prog (binOp BinOp.eql 161 (.pointer (some ⟨P t.hand,0,none⟩)) (.pointer (some ⟨P 0,0,none⟩))) w'=.ok (.bool false) w') (go_keep) (fail)
  go_wp2_with fail
  refine (NI E c vB N af hN o T L P _ t x vR vO (Sb.hide H.out.drew) bI 3 0 j HJ).mono ?_;rintro e w3 ⟨rfl,hW⟩;have HW:=Sb.hide hW.drew;clear hW;go_wp2
  go_end0
  exact⟨rfl,by unfold Tk.fin;rw[if_neg HZ.out];exact HW.out⟩
theorem XT (n:Nat)(u:Un)(hu:Hid (c.m.units[n]?=some u))(al:Option Addr)(cl:Nat)(hp0:0≤u.params)(hpw:u.params≤t.top.ws.length)(hpl:u.params≤u.locals.length)(hl2:u.locals.length≤200) :
  Calls Tryz.prog 185 #[.pointer (some ⟨T,0,none⟩),qh c n u al cl] w fun e w'=>e=.returned (.tuple #[])∧aS E c vB (.func (.func N) #[] af) o T L w w' (t.call c.m n) x:=by
 obtain⟨h,S,g,r,vU,hh,hT,htop⟩:=H.out.at
 have hun:unit c.m (n:Int)=u:=by simp[unit,hu.out]
 rw[htop] at hpw;have dx:=hT.few;have HT:=Sb.hide hT;have HH:=Sb.hide hh;have kV:=Sb.hide htop;have bT:=Sb.hide hun;have H0:=Sb.hide (H.out.below ((Below.refl _ w).alloc (Nat.le_refl _) (aX c n u al cl)));have HT0:Hid (aD c L o t.hand P (w.alloc (aX c n u al cl)) h S g r vU):=hT.keep (.refl _ _) rfl rfl (fun b hb _=>Below.heap_alloc _ _ _ hb);obtain⟨c0,c1,c2,c3,c4,c5,c6,c7,fr⟩:=bS H.out.tk.blk;obtain⟨d0,d1,d2,d3⟩:=hT.cells;have XU:∃ a cap,vU=.slice a h.fs.length cap:=by
  rcases hT.row.2 with⟨hv,hv2⟩ | ⟨U,cap,cur,hv,_⟩
  ·exact⟨none,0,by rw[hv,hv2]⟩
  ·exact⟨_,cap,hv⟩
 obtain⟨ua,ahl,huv⟩:=XU;have jM:=lt_of_block H.out.tk.blk;have zC:=lt_of_block hT.blk;have NN:¬ w.heap.size=T:=by omega
 have ahm:¬ w.heap.size=P t.hand:=by omega
 have HUV:=Sb.hide huv;by_cases Dq:h.fs.length=40
 ·have e40:((h.fs.length:Int)==40)=true:=by simp;omega
  have HF:=Sb.hide Dq;rw[huv] at d1;clear hh hT htop hun huv Dq;go_enter Tryz.func185,Tryz.ntmps185
  go_wp2
  go_quiet (fail)
  go_wp2_with fail
  refine (uj E c vB N af hN o T L P _ t x vR vO (Sb.hide (H0.out.below (below_drewN (Below.refl _ _) _))) bI 4).mono ?_;rintro e w3 ⟨rfl,hW⟩;have HW:=Sb.hide hW.drewN.alloc;clear hW;go_wp2
  go_end0
  refine⟨rfl,?_⟩;unfold Tk.call;rw[kV.out,if_pos HF.out];exact HW.out
 ·have e40:((h.fs.length:Int)==40)=false:=by simp;omega
  have Na:h.fs.length<40:=by omega
  have HF:=Sb.hide Dq;rw[huv] at d1;obtain⟨bb,hbb⟩:∃ b,b=decide (h.ws.length+(u.locals.length - u.params.toNat)≤400):=⟨_,rfl⟩;have GY:=Sb.hide hbb;have e1:(w.alloc (aX c n u al cl)).drew.cell? ⟨T,4,none⟩=some (.pointer (some ⟨P t.hand,0,none⟩)):=(World.cell?_of_block (w:=w) (Below.heap_alloc _ _ _ jM)).trans c4;have e2:(w.alloc (aX c n u al cl)).drew.heap[w.heap.size]?=some (aX c n u al cl):=heap_alloc_new w _;clear hh hT htop hun huv Dq hbb;go_enter Tryz.func185,Tryz.ntmps185
  go_upto_region 1 with fail
  refine wp_region_held_drew (S:=fun w'=>w'.cell? ⟨T,4,none⟩=some (.pointer (some ⟨P t.hand,0,none⟩))∧w'.heap[w.heap.size]?=some (aX c n u al cl)) (by kernel_rfl) ⟨e1,e2⟩ (fun hHeld=>?_);refine wpAnyH_take (i:=0) (oi:=_) (v:=?_) rfl (by kernel_rfl) (by kernel_rfl) (by kernel_rfl) (fun _ _ _ h=>h) (Or.inl ⟨by rfl,?_⟩) (by assumption) ?_;rotate_left
  ·intro w hSw
   (try dsimp only at hSw)
   go_simp
   (try with_reducible rfl)
  (try simp only[Act.put])
  refine wpAnyH_take (i:=1) (oi:=_) (v:=?_) rfl (by kernel_rfl) (by kernel_rfl) (by kernel_rfl) (fun _ _ _ h=>h) (Or.inl ⟨by rfl,?_⟩) (by assumption) ?_;rotate_left
  ·intro w hSw
   (try dsimp only at hSw)
   go_simp
   (try with_reducible rfl)
  (try simp only[Act.put])
  refine wpAnyH_take (i:=2) (oi:=_) (v:=?_) rfl (by kernel_rfl) (by kernel_rfl) (by kernel_rfl) (fun _ _ _ h=>h) (Or.inl ⟨by rfl,?_⟩) (by assumption) ?_;rotate_left
  ·intro w hSw
   (try dsimp only at hSw)
   go_simp
   (try with_reducible rfl)
  (try simp only[Act.put])
  refine wpAnyH_take (i:=3) (oi:=_) (v:=?_) rfl (by kernel_rfl) (by kernel_rfl) (by kernel_rfl) (fun _ _ _ h=>h) (Or.inl ⟨by rfl,?_⟩) (by assumption) ?_;rotate_left
  ·intro w hSw
   (try dsimp only at hSw)
   go_simp
   (try with_reducible rfl)
  (try simp only[Act.put])
  refine wpAnyH_take (i:=4) (oi:=_) (v:=?_) rfl (by kernel_rfl) (by kernel_rfl) (by kernel_rfl) (fun _ _ _ h=>h) (Or.inl ⟨by rfl,?_⟩) (by assumption) ?_;rotate_left
  ·intro w hSw
   (try dsimp only at hSw)
   go_simp
   (try with_reducible rfl)
  (try simp only[Act.put])
  refine wpAnyH_take (i:=5) (oi:=_) (v:=?_) rfl (by kernel_rfl) (by kernel_rfl) (by kernel_rfl) (fun _ _ _ h=>h) (Or.inl ⟨by rfl,?_⟩) (by assumption) ?_;rotate_left
  ·intro w hSw
   (try dsimp only at hSw)
   go_simp
   (try with_reducible rfl)
  (try simp only[Act.put])
  refine wpAnyH_ready (rs:=[6]) (by kernel_rfl) (by simp) ?_;refine AllReadyH.cons (o:=_) rfl (fun K hK=>?_) AllReadyH.nil;go_simp
  refine hK.out _ _ hHeld (fun hHeld=>?_);clear hK K;refine wpAnyH_take (i:=7) (oi:=_) (v:=?_) rfl (by kernel_rfl) (by kernel_rfl) (by kernel_rfl) (fun _ _ _ h=>h) (Or.inl ⟨by rfl,?_⟩) (by assumption) ?_;rotate_left
  ·intro w hSw
   (try dsimp only at hSw)
   go_simp
   (try with_reducible rfl)
  (try simp only[Act.put])
  refine wpAnyH_take (i:=8) (oi:=_) (v:=?_) rfl (by kernel_rfl) (by kernel_rfl) (by kernel_rfl) (fun _ _ _ h=>h) (Or.inl ⟨by rfl,?_⟩) (by assumption) ?_;rotate_left
  ·intro w hSw
   (try dsimp only at hSw)
   go_simp
   (try with_reducible rfl)
  (try simp only[Act.put])
  refine wpAnyH_take (i:=9) (oi:=_) (v:=?_) rfl (by kernel_rfl) (by kernel_rfl) (by kernel_rfl) (fun _ _ _ h=>h) (Or.inl ⟨by rfl,?_⟩) (by assumption) ?_;rotate_left
  ·intro w hSw
   (try dsimp only at hSw)
   go_simp
   (try with_reducible rfl)
  (try simp only[Act.put])
  refine wpAnyH_take (i:=10) (oi:=_) (v:=?_) rfl (by kernel_rfl) (by kernel_rfl) (by kernel_rfl) (fun _ _ _ h=>h) (Or.inl ⟨by rfl,?_⟩) (by assumption) ?_;rotate_left
  ·intro w hSw
   (try dsimp only at hSw)
   go_simp
   (try with_reducible rfl)
  (try simp only[Act.put])
  refine wpAnyH_take (i:=11) (oi:=_) (v:=?_) rfl (by kernel_rfl) (by kernel_rfl) (by kernel_rfl) (fun _ _ _ h=>h) (Or.inl ⟨by rfl,?_⟩) (by assumption) ?_;rotate_left
  ·intro w hSw
   (try dsimp only at hSw)
   go_simp
   (try with_reducible rfl)
  (try simp only[Act.put])
  refine wpAnyH_take (i:=12) (oi:=_) (v:=?_) rfl (by kernel_rfl) (by kernel_rfl) (by kernel_rfl) (fun _ _ _ h=>h) (Or.inl ⟨by rfl,?_⟩) (by assumption) ?_;rotate_left
  ·intro w hSw
   (try dsimp only at hSw)
   go_simp
   (try with_reducible rfl)
  (try simp only[Act.put])
  refine wpAnyH_take (i:=13) (oi:=_) (v:=?_) rfl (by kernel_rfl) (by kernel_rfl) (by kernel_rfl) (fun _ _ _ h=>h) (Or.inl ⟨by rfl,?_⟩) (by assumption) ?_;rotate_left
  ·intro w hSw
   (try dsimp only at hSw)
   go_simp
   (try with_reducible rfl)
  (try simp only[Act.put])
  refine wpAnyH_take (i:=14) (oi:=_) (v:=qh c n u al cl) rfl (by kernel_rfl) (by kernel_rfl) (by kernel_rfl) (fun _ _ _ h=>h) (Or.inl ⟨by rfl,?_⟩) (by assumption) ?_
  ·intro w' hSw
   have hx:=hSw.2;have y0:w'.cell? ⟨w.heap.size,0,none⟩=some (.int .i64 u.kind):=by simp[World.cell?,hx]
   have y1:w'.cell? ⟨w.heap.size,1,none⟩=some (.int .i64 u.params):=by simp[World.cell?,hx]
   have y2:w'.cell? ⟨w.heap.size,2,none⟩=some (.slice al u.locals.length cl):=by simp[World.cell?,hx]
   have y3:w'.cell? ⟨w.heap.size,3,none⟩=some (.int .i64 u.result):=by simp[World.cell?,hx]
   have y4:w'.cell? ⟨w.heap.size,4,none⟩=some (.int .i64 u.takes):=by simp[World.cell?,hx]
   have y5:w'.cell? ⟨w.heap.size,5,none⟩=some (.slice (c.cv n) u.code.length (c.cc n)):=by simp[World.cell?,hx]
   go_simp
  refine wpAnyH_ready (rs:=[15]) (by kernel_rfl) (by simp) ?_;refine AllReadyH.cons (o:=_) rfl (fun K hK=>?_) AllReadyH.nil;go_simp
  refine (M9 c L o t.hand P _ h S g r vU (Sb.hide (HT0.out.drewN 1)) (Sb.hide (H0.out.ok.on (Nat.le_refl _))) n u hu al cl hp0 hpw hpl hl2 Na bb GY _ (Sb.hide rfl)).mono ?_;rintro e w2 ⟨rfl,hp2⟩;obtain⟨L2,s2,q2,k2⟩:=(H0.out.below (below_drewN (Below.refl _ _) 1)).thread HH.out hp2;have hX2:w2.heap[w.heap.size]?=some (aX c n u al cl):=by
   refine (k2.block _ (by simp) (fun hx=>?_)).trans (heap_alloc_new w _);have:=H.out.ok.new w.heap.size (Nat.le_refl _);unfold WB EB at hx;omega
  have hc2:=cO s2;have S2:=Sb.hide s2;have E2:=Sb.hide q2;have C2:=Sb.hide k2;clear hp2 s2 q2 k2;refine hK.out _ _ ⟨hc2,hX2⟩ (fun hHeld=>?_);clear hK K;cases bb with
  | true =>
   refine wpAnyH_take (i:=16) (oi:=_) (v:=?_) rfl (by kernel_rfl) (by kernel_rfl) (by kernel_rfl) (fun _ _ _ h=>h) (Or.inl ⟨by rfl,?_⟩) (by assumption) ?_;rotate_left
   ·intro w hSw
    (try dsimp only at hSw)
    go_simp
    (try with_reducible rfl)
   (try simp only[Act.put])
   refine wpAnyH_take (i:=17) (oi:=_) (v:=?_) rfl (by kernel_rfl) (by kernel_rfl) (by kernel_rfl) (fun _ _ _ h=>h) (Or.inl ⟨by rfl,?_⟩) (by assumption) ?_;rotate_left
   ·intro w hSw
    (try dsimp only at hSw)
    go_simp
    (try with_reducible rfl)
   (try simp only[Act.put])
   refine wpAnyH_done (by kernel_rfl) ?_ _;go_wp2
   go_end0
   refine⟨rfl,?_⟩;have e9:t.call c.m n=t.set t.hand { h with ws:=h.ws++List.replicate (u.locals.length - u.params.toNat) 0,fs:=⟨n,0,h.ws.length - u.params.toNat⟩ :: h.fs }:=by
    unfold Tk.call;rw[kV.out,bT.out,if_neg HF.out,if_pos (by have:=GY.out;simpa using this)]
   rw[e9];have s3:=S2.out;rw[if_pos trivial] at s3;exact (aS.drewN (d:=1) ⟨L2,P,vR,vO,s3,E2.out,C2.out⟩).alloc
  | false =>
   refine wpAnyH_take (i:=16) (oi:=_) (v:=?_) rfl (by kernel_rfl) (by kernel_rfl) (by kernel_rfl) (fun _ _ _ h=>h) (Or.inl ⟨by rfl,?_⟩) (by assumption) ?_;rotate_left
   ·intro w hSw
    (try dsimp only at hSw)
    go_simp
    (try with_reducible rfl)
   (try simp only[Act.put])
   refine wpAnyH_take (i:=17) (oi:=_) (v:=?_) rfl (by kernel_rfl) (by kernel_rfl) (by kernel_rfl) (fun _ _ _ h=>h) (Or.inl ⟨by rfl,?_⟩) (by assumption) ?_;rotate_left
   ·intro w hSw
    (try dsimp only at hSw)
    go_simp
    (try with_reducible rfl)
   (try simp only[Act.put])
   refine wpAnyH_done (by kernel_rfl) ?_ _;have s3:=S2.out;rw[if_neg (by simp)] at s3;have S3:=Sb.hide s3;clear s3;go_wp2_with fail
   refine (uj E c vB N af hN o T L2 P _ _ x vR vO S3 (Sb.hide (by exact bI.out)) 4).mono ?_;rintro e w3 ⟨rfl,hW⟩;have HW:=Sb.hide (aS.drewN (d:=1) (hW.trans E2.out C2.out)).alloc;clear hW;go_wp2
   go_end0
   refine⟨rfl,?_⟩;have e9:t.call c.m n=(t.set t.hand { h with ws:=h.ws++List.replicate (400 - h.ws.length) 0 }).fall 4:=by
    unfold Tk.call Tk.words;rw[kV.out,bT.out,if_neg HF.out,if_neg (by have:=GY.out;simp at this;omega)]
   rw[e9];exact HW.out
end
theorem XV {c:Cx}{vB ev vR xq vO:Value}{w:World}{T hp ov tr:Nat}(h:w.heap[T]?=some (fG c vB ev vR hp vO ov tr)):(w.setCell ⟨T,3,none⟩ xq).heap[T]?=some (fG c vB ev xq hp vO ov tr):=by
 simp only[World.setCell,Array.getElem?_modify,if_true,h,Option.map_some];rfl
theorem XW (P:Nat→Nat)(n H:Nat):ptrs (fun j=>if j=n then H else P j) (n+1)=ptrs P n++[.pointer (some ⟨H,0,none⟩)]:=by
 unfold ptrs;rw[List.range_succ,List.map_append];congr 1
 ·refine List.map_congr_left (fun j hj=>?_)
  have:j≠n:=by have:=List.mem_range.1 hj;omega
  simp[this]
 ·simp
section
variable {β:Type} {E:Env β} {c:Cx} {vB ev:Value} {o T:Nat} {L L':av} {P:Nat→Nat} {w w2 w4:World} {t:Tk} {x:β} {vR vO:Value}
theorem St.started (H:St E c vB ev o T L P w t x vR vO){h:Th}{Hn R cap:Nat}{ob:Obj}(dx:t.ae.length≤30)(hup:∀ (i:Nat) h k,t.ae[i]?=some h→h.up=some k→k<t.ae.length)(qC:∀ P':Nat→Nat,P' t.ae.length=Hn→∃ S g r vU,aD c L' o t.ae.length P' w2 h S g r vU)(hE:Ex o t.ae.length L L' w)(hL:bF c.B L' w2)(hB:Below w.heap.size w w2)
  (hown:w4.ownsRow 0 161 1 (.slice (some ⟨R,0,none⟩) (t.ae.length+1) cap) (t.ae.length+1) (ptrs P t.ae.length++[.pointer (some ⟨Hn,0,none⟩)])) (hg:(w2.alloc ob).grownBy w4 vR.ownBlock) (hR:vR.ownBlock=some R∨R=(w2.alloc ob).heap.size) :
  aS E c vB ev o T L w (w4.setCell ⟨T,3,none⟩ (.slice (some ⟨R,0,none⟩) (t.ae.length+1) cap)) { t with ae:=t.ae++[h] } x:=by
 have hz2:=hB.size;have o9:=hg.size;simp at o9;have jM:=lt_of_block H.tk.blk;have xu:w2.heap.size≤R∨vR.ownBlock=some R:=by
  rcases hR with hR | hR
  ·exact .inr hR
  ·left;simp at hR;omega
 have bJ:R<w4.heap.size:=(hown.lt R rfl).2;have one:∀ {b p:Nat},L b=⟨1,o,0,p⟩→b<w.heap.size→L' b=⟨1,o,0,p⟩:=fun e hb=>(hE.1 _ hb).trans e;have GZ:R≠T:=fun e=>by
  rcases xu with hx | hx
  ·omega
  ·have a:=H.tk.lR R hx;have b:=H.tk.lT;rw[e,b] at a;cases a
 have blk:∀ b,b<w2.heap.size→vR.ownBlock≠some b→b≠T→(w4.setCell ⟨T,3,none⟩ (.slice (some ⟨R,0,none⟩) (t.ae.length+1) cap)).heap[b]?=w2.heap[b]?:=fun b hb hn hT=>(Below.heap_setCell _ _ _ _ hT).trans ((hg.block b (by simp;omega) (fun e=>hn e.symm)).trans (Below.heap_alloc _ _ _ hb));have lab:∀ b,b<w2.heap.size→(fun b=>if b=R then (⟨1,o,0,5⟩:Lb) else L' b) b=L' b:=fun b hb=>by
  by_cases e:b=R
  ·rcases xu with hx | hx
   ·omega
   ·simp only[e,if_true]
    have hlt:=(H.tk.rows.lt R hx).2;rw[one (H.tk.lR R hx) hlt]
  ·simp only[e,if_false]
 have nR:∀ {b i p:Nat},L' b=⟨1,o,i,p⟩→¬ (i=0∧p=5)→vR.ownBlock≠some b:=fun e hn hx=>hn (by
  have a:=one (H.tk.lR _ hx) (H.tk.rows.lt _ hx).2;rw[e] at a;simp at a;exact a)
 have nT:∀ {b i p:Nat},L' b=⟨1,o,i,p⟩→¬ (i=0∧p=4)→b≠T:=fun e hn hx=>hn (by
  have a:=one H.tk.lT jM;rw[← hx,e] at a;simp at a;exact a)
 have G5:∀ {b:Nat},(L' b).cls≠1→b≠T:=fun hn hx=>hn (by rw[hx,one H.tk.lT jM]);have G6:∀ {b:Nat},(L' b).cls≠1→vR.ownBlock≠some b:=fun hn hx=>hn (by rw[one (H.tk.lR _ hx) (H.tk.rows.lt _ hx).2]);have hC:aQ (WB L o) w (w4.setCell ⟨T,3,none⟩ (.slice (some ⟨R,0,none⟩) (t.ae.length+1) cap)):=by
  refine⟨hg.os.trans hB.os,hg.tape.trans hB.tape,hg.output.trans hB.output,by simp[World.setCell];omega,fun b hb hn=>(blk b (by omega) (fun hx=>hn (.inl ?_)) (fun hx=>hn (.inl ?_))).trans (hB.block b hb)⟩
  ·rw[H.tk.lR b hx];exact⟨rfl,rfl⟩
  ·rw[hx,H.tk.lT];exact⟨rfl,rfl⟩
 refine⟨fun b=>if b=R then ⟨1,o,0,5⟩ else L' b,fun j=>if j=t.ae.length then Hn else P j,.slice (some ⟨R,0,none⟩) (t.ae.length+1) cap,vO,⟨⟨?_,?_,?_,fun i h' hh=>?_,by simp;omega,by have:=H.tk.hand;simp;omega,(lab T (by omega)).trans (one H.tk.lT jM),fun b hb=>by cases hb;simp,fun b hb=>?_,fun b h1 h2=>?_⟩,?_,⟨fun b hb=>?_,fun b hb=>?_,by have:=hL.size;simp[World.setCell];omega⟩,H.cx.ui H.ok hC⟩,⟨fun b hb=>(lab b (by omega)).trans (hE.1 b hb),fun b=>?_⟩,hC⟩
 ·have e:(if t.hand=t.ae.length then Hn else P t.hand)=P t.hand:=by have:=H.tk.hand;rw[if_neg (by omega)]
  show _=some (fG c vB ev _ (if t.hand=t.ae.length then Hn else P t.hand) vO t.over t.trap)
  rw[e];refine XV (vR:=vR) ?_;exact (hg.block T (by simp;omega) (fun e=>(nR (one H.tk.lT jM) (by omega)) e.symm)).trans ((Below.heap_alloc _ _ _ (by omega)).trans ((hB.block T jM).trans H.tk.blk))
 ·have e:({ t with ae:=t.ae++[h] }:Tk).ae.length=t.ae.length+1:=by simp
  rw[e,XW];exact bA hown (fun k hk=>by cases hk;exact Below.heap_setCell _ _ _ _ GZ)
 ·refine bA H.tk.out (fun b hb=>?_)
  have hlt:=(H.tk.out.lt b hb).2;have l1:=one (H.tk.lO b hb) hlt;exact (blk b (by omega) (nR l1 (by omega)) (nT l1 (by omega))).trans (hB.block b hlt)
 ·have NP:∀ (i:Nat) b,b<w2.heap.size→(L' b).cls=1∧(L' b).idx=o∧(L' b).th=i+1→(w4.setCell ⟨T,3,none⟩ (.slice (some ⟨R,0,none⟩) (t.ae.length+1) cap)).heap[b]?=w2.heap[b]?:=fun i b hb hx=>by
   refine blk b hb (fun hy=>?_) (fun hy=>?_)
   ·rw[one (H.tk.lR _ hy) (H.tk.rows.lt _ hy).2] at hx;cases hx.2.2
   ·rw[hy,one H.tk.lT jM] at hx;cases hx.2.2
  by_cases e:i<t.ae.length
  ·have hh':t.ae[i]?=some h':=by
    have:(t.ae++[h])[i]?=some h':=hh;rw[List.getElem?_append_left e] at this;exact this
   obtain⟨S,g,r,vU,hT⟩:=H.tk.ae i h' hh';have hP:(fun j=>if j=t.ae.length then Hn else P j) i=P i:=by show (if i=t.ae.length then Hn else P i)=P i;rw[if_neg (by omega)]
   have hU:nZ (fun j=>if j=t.ae.length then Hn else P j) h'.up=nZ P h'.up:=by
    cases hu:h'.up with
    | none=>rfl
    | some k=>have:=hup i h' k hh' hu;unfold nZ;simp only;rw[if_neg (by omega)]
   have jk:aD c L' o i (fun j=>if j=t.ae.length then Hn else P j) w2 h' S g r vU:=hT.keep hE.1 hP hU (fun b hb _=>hB.block b hb);exact⟨S,g,r,vU,jk.keep lab rfl rfl (NP i)⟩
  ·have hl:=(List.getElem?_eq_some_iff.1 hh).1
   simp at hl;have e2:i=t.ae.length:=by omega
   subst e2;have:h'=h:=by
    have:(t.ae++[h])[t.ae.length]?=some h':=hh;simp at this;exact this.symm
   subst this;obtain⟨S,g,r,vU,hT⟩:=qC (fun j=>if j=t.ae.length then Hn else P j) (by simp);exact⟨S,g,r,vU,hT.keep lab rfl rfl (NP _)⟩
 ·have hlt:=(H.tk.out.lt b hb).2
  exact (lab b (by omega)).trans (one (H.tk.lO b hb) hlt)
 ·show _≤(t.ae++[h]).length
  simp only[List.length_append,List.length_singleton];by_cases e:b=R
  ·simp only[e,if_true];omega
  ·simp only[e,if_false] at h1 h2 ⊢
   rcases hE.2 b with e2 | e2
   ·rw[e2] at h1 h2 ⊢;have:=H.tk.kv b h1 h2;omega
   ·omega
 ·refine E.keep H.en (fun b hb=>(lab b (by omega)).trans (hE.1 b hb)) (by simp[World.setCell];omega) (fun b hb hx=>?_)
  have hx2:(L' b).cls≠1:=by rw[hE.1 b hb];omega
  exact (blk b (by omega) (G6 hx2) (G5 hx2)).trans (hB.block b hb)
 ·have hb2:=hL.low b hb
  have NQ:=H.ok.size;exact (congrArg Lb.cls (lab b (by omega))).trans hb2
 ·have hb':w4.heap.size≤b:=by simpa[World.setCell] using hb
  have e:b≠R:=by omega
  simp only[e,if_false];exact hL.new b (by omega)
 ·by_cases e:b=R
  ·right;left;simp[e]
  ·rcases hE.2 b with e2 | e2
   ·left;simp only[e,if_false];exact e2
   ·right;left;simp only[e,if_false];exact⟨e2.1,e2.2.1⟩
end
theorem Tryz.XX:(Tryz.prog.info? 161).map (fun i=>(i.zero,i.size,i.bytes))=some (some (.pointer none),1,8):=by kernel_rfl
theorem XY (c:Cx)(L:av)(o i:Nat)(P:Nat→Nat)(w:World)(h:Th)(S g r:Nat)(vU:Value)(H:Hid (aD c L o i P w h S g r vU))(hL:Hid (bF c.B L w))(q:Int)(n:Nat)(hq:Hid (q=n))(hn:n≤h.ws.length) :
  Calls Tryz.prog 207 #[.pointer (some ⟨P i,0,none⟩),.int .i64 q] w fun e w'=>∃ G,e=.returned (.slice (some ⟨G,0,none⟩) n n)∧Sb.CK w' G (h.ws.drop (h.ws.length - n)) n∧w.heap.size≤G∧fq c L o i P w w' { h with ws:=h.ws.take (h.ws.length - n) }:=by
 rw[hq.out];exact WZ c L o i P w h S g r vU H hL n hn
theorem NR {c:Cx}{n:Nat}{u:Un}{al:Option Addr}{cl:Nat}{w:World}{X:Nat}(hx:w.heap[X]?=some (aX c n u al cl)):w.cell? ⟨X,0,none⟩=some (.int .i64 u.kind)∧w.cell? ⟨X,1,none⟩=some (.int .i64 u.params)∧w.cell? ⟨X,2,none⟩=some (.slice al u.locals.length cl)∧w.cell? ⟨X,3,none⟩=some (.int .i64 u.result)∧w.cell? ⟨X,4,none⟩=some (.int .i64 u.takes)∧w.cell? ⟨X,5,none⟩=some (.slice (c.cv n) u.code.length (c.cc n)):=by
 simp[World.cell?,hx]
theorem oo (W:World)(a:Value)(t:TypeId):∀ j u,[a][j]?=some u→(W.alloc (.cells #[a] t)).cell? ((⟨W.heap.size,0,none⟩:Addr).add j)=some u:=by
 intro j u hu;rw[o6,World.cell?_alloc_mark];match j,hu with
 | 0,hu=>simpa using hu
 | n+1,hu=>simp at hu
theorem oq {a:Value}(ha:a.oneCell'=true):∀ u ∈ [a],u.oneCell'=true:=by
 intro u hu;simp only[List.mem_cons,List.not_mem_nil,or_false] at hu;rw[hu];exact ha
theorem NS (c:Cx)(L:av)(o i:Nat)(w:World)(hL:Hid (bF c.B L w))(hfr:Hid (∀ b,¬ dn L o i b))(n:Nat)(u:Un)(hu:Hid (c.m.units[n]?=some u))(al:Option Addr)(cl:Nat)(hp0:0≤u.params)(hpl:u.params≤u.locals.length)(hl2:u.locals.length≤200)(ps:List Int)(pl:Nat)(XZ:Hid (pl=ps.length))(hps:ps.length=u.params.toNat)(a:Option Addr)(cp:Nat)(hin:Hid (∀ (j:Nat) x,ps[j]?=some x→∃ b off,a=some ⟨b,off,none⟩∧b<w.heap.size∧w.cell? ⟨b,off+j,none⟩=some (.int .i64 x))) :
  Calls Tryz.prog 99 #[qh c n u al cl,.slice a pl cp] w fun e w'=>∃ H L',e=.returned (.pointer (some ⟨H,0,none⟩))∧w.heap.size≤H∧(∀ P:Nat→Nat,P i=H→∃ S g r vU,aD c L' o i P w' (gQ u n ps) S g r vU)∧Ex o i L L' w∧bF c.B L' w'∧Below w.heap.size w w':=by
 rw[XZ.out];exact Nk c L o i w hL hfr n u hu al cl hp0 hpl hl2 ps hps a cp hin
section
variable {β:Type} (E:Env β) (c:Cx) (vB:Value) (N:Nat) (af:Array Value) (hN:Hid (jl E c N af)) (o T:Nat) (L:av) (P:Nat→Nat) (w:World) (t:Tk) (x:β) (vR vO:Value) (H:Hid (St E c vB (.func (.func N) #[] af) o T L P w t x vR vO)) (bI:Hid (t.log.length≤2000000))
include hN H bI
theorem X0 (n:Nat)(u:Un)(hu:Hid (c.m.units[n]?=some u))(hp0:0≤u.params)(hpw:u.params≤t.top.ws.length)(hpl:u.params≤u.locals.length)(hl2:u.locals.length≤200)(hup:Hid (∀ (i:Nat) h k,t.ae[i]?=some h→h.up=some k→k<t.ae.length)) :
  Calls Tryz.prog 187 #[.pointer (some ⟨T,0,none⟩),.int .i64 n] w fun e w'=>e=.returned (.tuple #[])∧aS E c vB (.func (.func N) #[] af) o T L w w' (t.start c.m n) x:=by
 obtain⟨i1,hi1,hy0,hy1,hy2⟩:=info_parts Tryz.XX;obtain⟨h,S,g,r,vU,hh,hT,htop⟩:=H.out.at
 rw[htop] at hpw;obtain⟨ub,kW,al,cl,ng,hub,_,u0,u1,u2,u3,u4,u5⟩:=H.out.cx.units n u hu.out;have hnl:n<c.m.units.length:=(List.getElem?_eq_some_iff.1 hu.out).1;have dx:=H.out.cx.few;have aho:=H.out.tk.few;obtain⟨c0,c1,c2,c3,c4,c5,c6,c7,fr⟩:=bS H.out.tk.blk;rw[ng] at c0;obtain⟨ml,kz⟩:∃ m,m=c.m.units.length:=⟨_,rfl⟩;rw[← kz] at c0 hnl dx;have n0:(0:Int)≤(n:Int):=by omega
 have n1:(n:Int)<(ml:Int):=by omega
 have jM:=lt_of_block H.out.tk.blk;have NN:¬ w.heap.size=T:=by omega
 have H0:=Sb.hide (H.out.below ((Below.refl _ w).alloc (Nat.le_refl _) (aX c n u al cl)));have HT0:Hid (aD c L o t.hand P (w.alloc (aX c n u al cl)) h S g r vU):=hT.keep (.refl _ _) rfl rfl (fun b hb _=>Below.heap_alloc _ _ _ hb);have HH:=Sb.hide hh;have kV:=Sb.hide htop;have bT:Hid (unit c.m (n:Int)=u):=by unfold Hid;simp[unit,hu.out]
 have HX0:Hid ((w.alloc (aX c n u al cl)).heap[w.heap.size]?=some (aX c n u al cl)):=heap_alloc_new w _;obtain⟨p,hp⟩:∃ p:Nat,p=u.params.toNat:=⟨_,rfl⟩;have X3:Hid (u.params=(p:Int)):=by unfold Hid;omega
 have xw:=Sb.hide hp;have hpn:p≤h.ws.length:=by omega
 clear kz hh hT htop hp;go_enter Tryz.func187,Tryz.ntmps187
 go_wp2
 go_region_held3 (fun w'=>w'.cell? ⟨T,4,none⟩=some (.pointer (some ⟨P t.hand,0,none⟩))∧w'.cell? ⟨w.heap.size,1,none⟩=some (.int .i64 u.params)) (go_keep) ((go_at_call 207;refine (XY c L o t.hand P _ h S g r vU (Sb.hide (HT0.out.drewN 1)) (Sb.hide (H0.out.ok.on (Nat.le_refl _))) _ p X3 hpn).mono ?_;rintro e w1 ⟨G,rfl,hG,hGz,hp1⟩;obtain⟨L1,s1,q1,k1⟩:=(H0.out.drew).thread HH.out hp1;have HG:=Sb.hide hG;have S1:=Sb.hide s1;have E1:=Sb.hide q1;have C1:=Sb.hide k1;have jo:Hid (w1.heap[w.heap.size]?=some (aX c n u al cl)):=(k1.block _ (by simp) (fun hx=>by have:=H.out.ok.new w.heap.size (Nat.le_refl _);unfold WB EB at hx;omega)).trans (heap_alloc_new w _);have c4:w1.cell? ⟨T,4,none⟩=some (.pointer (some ⟨P t.hand,0,none⟩)):=(by have hc:=cO s1;exact hc);obtain⟨x0,x1,x2,x3,x4,x5⟩:=NR jo.out;clear hG hp1 s1 q1 k1))
 have bW:Hid (t.set t.hand { h with ws:=h.ws.take (h.ws.length - p) }=t.less p):=by unfold Hid Tk.less Tk.words;rw[kV.out]
 obtain⟨t1,ht1⟩:∃ t1,t1=t.less p:=⟨_,rfl⟩;have fO:Hid (St E c vB (.func (.func N) #[] af) o T L1 P w1 t1 x vR vO):=by have:=S1.out;rw[bW.out,← ht1] at this;exact this
 have HT1:=Sb.hide ht1;have uw:Hid (t1.log.length≤2000000):=by unfold Hid;rw[ht1];exact bI.out
 have hlen1:t1.ae.length=t.ae.length:=by rw[ht1];simp[Tk.less,Tk.words,Tk.set]
 have iJ:=Sb.hide hlen1;obtain⟨d0,d1,d2,d3,d4,d5,d6,d7,G7⟩:=bS fO.out.tk.blk;obtain⟨R,cap,hv,hcap,_⟩:=fO.out.row;have hv2:vR=.slice (some ⟨R,0,none⟩) t.ae.length cap:=by rw[hv,hlen1]
 obtain⟨tl,htl⟩:∃ n,n=t.ae.length:=⟨_,rfl⟩;have eQ:=Sb.hide htl;have ahq:tl≤31:=by omega
 have ahr:0<tl:=by have:=H.out.tk.hand;omega
 rw[hv2,← htl] at d3;have HV:=Sb.hide hv2;clear S1 ht1 hlen1 hv hv2 htl c0 c1 c2 c3 c5 c6 c7 fr;by_cases h31:tl=31
 ·have e31:(((tl:Int) - 1)==30)=true:=by simp;omega
  have X4:=Sb.hide h31;clear h31;go_wp2_with fail
  refine (uj E c vB N af hN o T L1 P _ t1 x vR vO fO (Sb.hide (Nat.le_succ_of_le uw.out)) 5).mono ?_;rintro e w3 ⟨rfl,hW⟩;have HW:=Sb.hide (hW.trans E1.out C1.out).drew.alloc;clear hW;go_wp2
  refine bodyPost_ret (v:=.tuple #[]) (by simp[results,Tryz.results187,go_sem]) rfl ⟨rfl,?_⟩;unfold Tk.start;simp only[bT.out,← xw.out];rw[if_pos (by have:=eQ.out;have:=X4.out;omega),← HT1.out];exact HW.out
 ·have e31:(((tl:Int) - 1)==30)=false:=by simp;omega
  have Dr:Hid (∀ b,¬ dn L1 o t.ae.length b):=fun b hx=>by
   have:=fO.out.tk.kv b hx.1 hx.2.1;rw[iJ.out] at this;unfold dn at hx;omega
  have xy:Hid ((h.ws.drop (h.ws.length - p)).length=p):=by unfold Hid;simp;omega
  have xz:Hid (∀ (j:Nat) y,(h.ws.drop (h.ws.length - p))[j]?=some y→∃ b off,(some ⟨G,0,none⟩:Option Addr)=some ⟨b,off,none⟩∧b<w1.drew.heap.size∧w1.drew.cell? ⟨b,off+j,none⟩=some (.int .i64 y)):=fun j y hy=>by
   refine⟨G,0,rfl,lt_of_block HG.out.choose_spec.1,?_⟩;have:=HG.out.cellAt j (.int .i64 y) (by rw[Sb.ints,List.getElem?_map,hy];rfl);rw[o6] at this;exact this
  have dP:=lt_of_block jo.out;have zR:=lt_of_block fO.out.tk.blk;have NU:Hid (p=(h.ws.drop (h.ws.length - p)).length):=xy.out.symm;have NV:w1.drew.heap[w.heap.size]?=some (aX c n u al cl):=jo.out;go_upto_region 4 with fail
  refine wp_region_held_drew (S:=fun w'=>w'.heap[w.heap.size]?=some (aX c n u al cl)) (by kernel_rfl) NV (fun hHeld=>?_);refine wpAnyH_take (i:=0) (oi:=_) (v:=?_) rfl (by kernel_rfl) (by kernel_rfl) (by kernel_rfl) (fun _ _ _ h=>h) (Or.inl ⟨by rfl,?_⟩) (by assumption) ?_;rotate_left
  ·intro w hSw
   (try dsimp only at hSw)
   go_simp
   (try with_reducible rfl)
  (try simp only[Act.put])
  refine wpAnyH_take (i:=1) (oi:=_) (v:=?_) rfl (by kernel_rfl) (by kernel_rfl) (by kernel_rfl) (fun _ _ _ h=>h) (Or.inl ⟨by rfl,?_⟩) (by assumption) ?_;rotate_left
  ·intro w hSw
   (try dsimp only at hSw)
   go_simp
   (try with_reducible rfl)
  (try simp only[Act.put])
  refine wpAnyH_take (i:=2) (oi:=_) (v:=?_) rfl (by kernel_rfl) (by kernel_rfl) (by kernel_rfl) (fun _ _ _ h=>h) (Or.inl ⟨by rfl,?_⟩) (by assumption) ?_;rotate_left
  ·intro w hSw
   (try dsimp only at hSw)
   go_simp
   (try with_reducible rfl)
  (try simp only[Act.put])
  refine wpAnyH_take (i:=3) (oi:=_) (v:=?_) rfl (by kernel_rfl) (by kernel_rfl) (by kernel_rfl) (fun _ _ _ h=>h) (Or.inl ⟨by rfl,?_⟩) (by assumption) ?_;rotate_left
  ·intro w hSw
   (try dsimp only at hSw)
   go_simp
   (try with_reducible rfl)
  (try simp only[Act.put])
  refine wpAnyH_take (i:=5) (oi:=_) (v:=qh c n u al cl) rfl (by kernel_rfl) (by kernel_rfl) (by kernel_rfl) (fun _ _ _ h=>h) (Or.inl ⟨by rfl,?_⟩) (by assumption) ?_
  ·intro w' hSw
   obtain⟨y0,y1,y2,y3,y4,y5⟩:=NR hSw;clear hSw;go_simp
  (try simp only[Act.put])
  refine wpAnyH_take (i:=6) (oi:=_) (v:=?_) rfl (by kernel_rfl) (by kernel_rfl) (by kernel_rfl) (fun _ _ _ h=>h) (Or.inl ⟨by rfl,?_⟩) (by assumption) ?_;rotate_left
  ·intro w hSw
   (try dsimp only at hSw)
   go_simp
   (try with_reducible rfl)
  (try simp only[Act.put])
  refine wpAnyH_ready (rs:=[4,7]) (by kernel_rfl) (by simp) ?_;refine AllReadyH.cons (o:=_) rfl (fun K hK=>?_) ?_
  ·go_simp
   refine hK.out _ _ NV (fun hHeld=>?_);clear hK K;refine wpAnyH_ready (rs:=[7]) (by kernel_rfl) (by simp) ?_;refine AllReadyH.cons (o:=_) rfl (fun K hK=>?_) AllReadyH.nil;go_simp
   refine (NS c L1 o t.ae.length w1.drew (Sb.hide fO.out.drew.ok) Dr n u hu al cl hp0 hpl hl2 (h.ws.drop (h.ws.length - p)) p NU (by rw[xy.out];exact xw.out) (some ⟨G,0,none⟩) p xz).mono ?_;rintro e w2 ⟨Hn,L2,rfl,qE,qC,hE2,hL2,hB2⟩;have hB2':Below w1.heap.size w1 w2:=⟨hB2.os,hB2.tape,hB2.output,hB2.size,hB2.block⟩;have dz:Hid (w2.heap[w.heap.size]?=some (aX c n u al cl)):=(hB2'.block _ dP).trans jo.out;have zS:=lt_of_block dz.out;have zT:T<w2.heap.size:=by have:=hB2'.size;omega
   have t3:w2.cell? ⟨T,3,none⟩=some (.slice (some ⟨R,0,none⟩) tl cap):=(hB2'.cell (p:=⟨T,3,none⟩) zR).trans d3;have Dt:=Sb.hide qC;have HE2:=Sb.hide hE2;have HL2:=Sb.hide hL2;have HB2:=Sb.hide hB2';clear qE qC hE2 hL2 hB2 hB2';refine hK.out _ _ dz.out (fun hHeld=>?_);clear hK K;refine wpAnyH_ready (rs:=[8]) (by kernel_rfl) (by simp) ?_;refine AllReadyH.cons (o:=_) rfl (fun K hK=>?_) AllReadyH.nil;go_simp
   refine hK.out _ _ ((Below.heap_alloc _ _ _ zS).trans dz.out) (fun hHeld=>?_);clear hK K;refine wpAnyH_ready (rs:=[9]) (by kernel_rfl) (by simp) ?_;refine AllReadyH.cons (o:=_) rfl (fun K hK=>?_) AllReadyH.nil;have HRW:Hid (w2.ownsRow 0 161 1 (.slice (some ⟨R,0,none⟩) tl cap) tl (ptrs P tl)):=by
    have:=bA (w':=w2) fO.out.tk.rows (fun b hb=>HB2.out.block b (fO.out.tk.rows.lt b hb).2);rw[iJ.out,HV.out,← eQ.out] at this;exact this
   refine oh rfl (.tmp 33) (.tmp 37) 160 rfl 0 161 i1 (.pointer none) 1 8 Tryz.underlying160 hi1 hy0 hy1 hy2 rfl (by decide) (.slice (some ⟨R,0,none⟩) tl cap) tl (ptrs P tl) rfl (HRW.out.alloc _) ⟨_,0,none⟩ 1 1 [.pointer (some ⟨Hn,0,none⟩)] rfl rfl (oo w2 _ _) (oq rfl) (by decide) (by unfold maxLen;omega) (by omega) (Nat.zero_le _) ?_;intro R4 cap4 w4 bO hg4 bJ;have dH:aS E c vB (.func (.func N) #[] af) o T L1 w1 (w4.setCell ⟨T,3,none⟩ (.slice (some ⟨R4,0,none⟩) (tl+1) cap4)) { t1 with ae:=t1.ae++[gQ u n (h.ws.drop (h.ws.length - p))] } x:=by
    have e0:t1.ae.length=tl:=by rw[iJ.out,eQ.out]
    have:=fO.out.started (L':=L2) (w2:=w2) (w4:=w4) (h:=gQ u n (h.ws.drop (h.ws.length - p))) (Hn:=Hn) (R:=R4) (cap:=cap4) (ob:=.cells #[.pointer (some ⟨Hn,0,none⟩)] 161) (by omega) (by
     intro i h' k hh hk;rw[iJ.out];have ht:=HT1.out;unfold Tk.less Tk.words at ht;rw[kV.out] at ht;rw[ht] at hh;simp only[Tk.set,List.getElem?_set] at hh;split at hh
     ·split at hh
      ·cases hh;exact hup.out _ _ _ HH.out hk
      ·cases hh
     ·exact hup.out _ _ _ hh hk) (by rw[iJ.out];exact Dt.out) (by rw[iJ.out];exact HE2.out) HL2.out HB2.out (by rw[e0];exact bO) (by rw[HV.out,← eQ.out];exact hg4) (by rw[HV.out,← eQ.out];exact bJ)
    rw[e0] at this;exact this
   have iH:(w4.setCell ⟨T,3,none⟩ (.slice (some ⟨R4,0,none⟩) (tl+1) cap4)).heap[w.heap.size]?=some (aX c n u al cl):=by
    obtain⟨_,_,_,_,_,_,k5⟩:=dH;exact (k5.block _ dP (fun hx=>by
     have e:=E1.out.1 w.heap.size (by simp);have:=H.out.ok.new w.heap.size (Nat.le_refl _);unfold WB EB at hx;rw[e] at hx;omega)).trans jo.out
   have zU:w4.heap[w.heap.size]?=some (aX c n u al cl):=(Below.heap_setCell w4 ⟨T,3,none⟩ _ _ (by show w.heap.size≠T;omega)).symm.trans iH;have kX:w4.heap[T]?=some (fG c vB (.func (.func N) #[] af) (.slice (some ⟨R,0,none⟩) tl cap) (P t1.hand) vO t1.over t1.trap):=by
    have hne:R≠T:=fun e=>by
     have a:=fO.out.tk.lR R (by rw[HV.out];rfl);have b:=fO.out.tk.lT;rw[e,b] at a;cases a
    have:=fO.out.tk.blk;rw[HV.out,← eQ.out] at this;exact (hg4.block T (by simp;omega) (fun e=>hne (by simpa[Value.ownBlock] using e.symm))).trans ((Below.heap_alloc _ _ _ zT).trans ((HB2.out.block T zR).trans this))
   have G8:w4.frozen? ⟨T,3,none⟩=false:=by simp[World.frozen?,kX]
   have q4:w4.cell? ⟨T,3,none⟩=some (.slice (some ⟨R,0,none⟩) tl cap):=by simp[World.cell?,kX]
   have iK:=Sb.hide dH;have qF:=Sb.hide iH;clear bO hg4 bJ dH iH kX t3;refine hK.out _ _ zU (fun hHeld=>?_);clear hK K;simp only[Act.put];refine wpAnyH_take (i:=10) (oi:=_) (v:=?_) rfl (by kernel_rfl) (by kernel_rfl) (by kernel_rfl) (fun _ _ _ h=>h) (Or.inl ⟨by rfl,?_⟩) (by assumption) ?_;rotate_left
   ·intro w hSw
    (try dsimp only at hSw)
    go_simp
    (try with_reducible rfl)
   (try simp only[Act.put])
   refine wpAnyH_take (i:=11) (oi:=_) (v:=?_) rfl (by kernel_rfl) (by kernel_rfl) (by kernel_rfl) (fun _ _ _ h=>h) (Or.inl ⟨by rfl,?_⟩) (by assumption) ?_;rotate_left
   ·intro w hSw
    (try dsimp only at hSw)
    go_simp
    (try with_reducible rfl)
   (try simp only[Act.put])
   refine wpAnyH_ready (rs:=[12]) (by kernel_rfl) (by simp) ?_;refine AllReadyH.cons (o:=_) rfl (fun K hK=>?_) AllReadyH.nil;go_simp
   refine hK.out _ _ qF.out (fun hHeld=>?_);clear hK K;refine wpAnyH_done (by kernel_rfl) ?_ _;obtain⟨L5,P5,G9,Ha,s5,q5,k5⟩:=iK.out;obtain⟨_,_,f2,_,_,_,_,_,_⟩:=bS s5.tk.blk;have S5:=Sb.hide s5;have E5:=Sb.hide q5;have C5:=Sb.hide k5;have hent:=hN.out.enter;clear s5 q5 k5 d0 d1 d2 d3 d4 d5 d6 d7 G7;go_wp2_with fail
   refine (hN.out.call ⟨6,0,n⟩ L5 _ _ _ (Sb.hide S5.out.en) (Sb.hide S5.out.ok) (Nat.le_succ_of_le uw.out)).mono ?_;rintro e w6 ⟨rfl,L6,h1,h2,h3,h4⟩;obtain⟨L7,P7,zV,zW,s7,q7,k7⟩:=S5.out.heard h1 h2 h3 h4;obtain⟨_,_,_,g3,_,_,_,_,_⟩:=bS s7.tk.blk;obtain⟨R7,NW,hv7,zX,_⟩:=s7.row;have e7:(({ t1 with ae:=t1.ae++[gQ u n (h.ws.drop (h.ws.length - p))] }:Tk).note ⟨6,0,n⟩).ae.length=tl+1:=by
    show (t1.ae++[gQ u n (h.ws.drop (h.ws.length - p))]).length=tl+1
    rw[List.length_append,iJ.out,← eQ.out];rfl
   rw[hv7,e7] at g3;have S7:=Sb.hide s7;have E7:=Sb.hide q7;have C7:=Sb.hide k7;clear h1 h2 h3 h4 s7 q7 k7 hv7 zX e7 f2;go_wp2_with fail
   refine (gJ E c vB N af hN o T L7 P7 _ _ x zV zW S7 (Sb.hide (by have h1:=uw.out;show (t1.log++[_]).length≤2000001;rw[List.length_append];simp;omega)) tl).mono ?_;rintro e w8 ⟨rfl,hW⟩;have HW:=Sb.hide (((hW.trans E7.out C7.out).trans E5.out C5.out).trans E1.out C1.out).drew.alloc;clear hW;go_wp2
   go_end0
   refine⟨rfl,?_⟩;unfold Tk.start;simp only[bT.out,← xw.out,kV.out];rw[if_neg (by have:=eQ.out;omega),← HT1.out,← eQ.out];exact HW.out
  refine AllReadyH.cons (o:=_) rfl (fun K hK=>?_) AllReadyH.nil;go_simp
  refine (NS c L1 o t.ae.length w1.drew (Sb.hide fO.out.drew.ok) Dr n u hu al cl hp0 hpl hl2 (h.ws.drop (h.ws.length - p)) p NU (by rw[xy.out];exact xw.out) (some ⟨G,0,none⟩) p xz).mono ?_;rintro e w2 ⟨Hn,L2,rfl,qE,qC,hE2,hL2,hB2⟩;have hB2':Below w1.heap.size w1 w2:=⟨hB2.os,hB2.tape,hB2.output,hB2.size,hB2.block⟩;have dz:Hid (w2.heap[w.heap.size]?=some (aX c n u al cl)):=(hB2'.block _ dP).trans jo.out;have zS:=lt_of_block dz.out;have zT:T<w2.heap.size:=by have:=hB2'.size;omega
  have t3:w2.cell? ⟨T,3,none⟩=some (.slice (some ⟨R,0,none⟩) tl cap):=(hB2'.cell (p:=⟨T,3,none⟩) zR).trans d3;have Dt:=Sb.hide qC;have HE2:=Sb.hide hE2;have HL2:=Sb.hide hL2;have HB2:=Sb.hide hB2';clear qE qC hE2 hL2 hB2 hB2';refine hK.out _ _ dz.out (fun hHeld=>?_);clear hK K;refine wpAnyH_ready (rs:=[4,8]) (by kernel_rfl) (by simp) ?_;refine AllReadyH.cons (o:=_) rfl (fun K hK=>?_) ?_
  ·go_simp
   refine hK.out _ _ dz.out (fun hHeld=>?_);clear hK K;refine wpAnyH_ready (rs:=[8]) (by kernel_rfl) (by simp) ?_;refine AllReadyH.cons (o:=_) rfl (fun K hK=>?_) AllReadyH.nil;go_simp
   refine hK.out _ _ ((Below.heap_alloc _ _ _ zS).trans dz.out) (fun hHeld=>?_);clear hK K;refine wpAnyH_ready (rs:=[9]) (by kernel_rfl) (by simp) ?_;refine AllReadyH.cons (o:=_) rfl (fun K hK=>?_) AllReadyH.nil;have HRW:Hid (w2.ownsRow 0 161 1 (.slice (some ⟨R,0,none⟩) tl cap) tl (ptrs P tl)):=by
    have:=bA (w':=w2) fO.out.tk.rows (fun b hb=>HB2.out.block b (fO.out.tk.rows.lt b hb).2);rw[iJ.out,HV.out,← eQ.out] at this;exact this
   refine oh rfl (.tmp 33) (.tmp 37) 160 rfl 0 161 i1 (.pointer none) 1 8 Tryz.underlying160 hi1 hy0 hy1 hy2 rfl (by decide) (.slice (some ⟨R,0,none⟩) tl cap) tl (ptrs P tl) rfl (HRW.out.alloc _) ⟨_,0,none⟩ 1 1 [.pointer (some ⟨Hn,0,none⟩)] rfl rfl (oo w2 _ _) (oq rfl) (by decide) (by unfold maxLen;omega) (by omega) (Nat.zero_le _) ?_;intro R4 cap4 w4 bO hg4 bJ;have dH:aS E c vB (.func (.func N) #[] af) o T L1 w1 (w4.setCell ⟨T,3,none⟩ (.slice (some ⟨R4,0,none⟩) (tl+1) cap4)) { t1 with ae:=t1.ae++[gQ u n (h.ws.drop (h.ws.length - p))] } x:=by
    have e0:t1.ae.length=tl:=by rw[iJ.out,eQ.out]
    have:=fO.out.started (L':=L2) (w2:=w2) (w4:=w4) (h:=gQ u n (h.ws.drop (h.ws.length - p))) (Hn:=Hn) (R:=R4) (cap:=cap4) (ob:=.cells #[.pointer (some ⟨Hn,0,none⟩)] 161) (by omega) (by
     intro i h' k hh hk;rw[iJ.out];have ht:=HT1.out;unfold Tk.less Tk.words at ht;rw[kV.out] at ht;rw[ht] at hh;simp only[Tk.set,List.getElem?_set] at hh;split at hh
     ·split at hh
      ·cases hh;exact hup.out _ _ _ HH.out hk
      ·cases hh
     ·exact hup.out _ _ _ hh hk) (by rw[iJ.out];exact Dt.out) (by rw[iJ.out];exact HE2.out) HL2.out HB2.out (by rw[e0];exact bO) (by rw[HV.out,← eQ.out];exact hg4) (by rw[HV.out,← eQ.out];exact bJ)
    rw[e0] at this;exact this
   have iH:(w4.setCell ⟨T,3,none⟩ (.slice (some ⟨R4,0,none⟩) (tl+1) cap4)).heap[w.heap.size]?=some (aX c n u al cl):=by
    obtain⟨_,_,_,_,_,_,k5⟩:=dH;exact (k5.block _ dP (fun hx=>by
     have e:=E1.out.1 w.heap.size (by simp);have:=H.out.ok.new w.heap.size (Nat.le_refl _);unfold WB EB at hx;rw[e] at hx;omega)).trans jo.out
   have zU:w4.heap[w.heap.size]?=some (aX c n u al cl):=(Below.heap_setCell w4 ⟨T,3,none⟩ _ _ (by show w.heap.size≠T;omega)).symm.trans iH;have kX:w4.heap[T]?=some (fG c vB (.func (.func N) #[] af) (.slice (some ⟨R,0,none⟩) tl cap) (P t1.hand) vO t1.over t1.trap):=by
    have hne:R≠T:=fun e=>by
     have a:=fO.out.tk.lR R (by rw[HV.out];rfl);have b:=fO.out.tk.lT;rw[e,b] at a;cases a
    have:=fO.out.tk.blk;rw[HV.out,← eQ.out] at this;exact (hg4.block T (by simp;omega) (fun e=>hne (by simpa[Value.ownBlock] using e.symm))).trans ((Below.heap_alloc _ _ _ zT).trans ((HB2.out.block T zR).trans this))
   have G8:w4.frozen? ⟨T,3,none⟩=false:=by simp[World.frozen?,kX]
   have q4:w4.cell? ⟨T,3,none⟩=some (.slice (some ⟨R,0,none⟩) tl cap):=by simp[World.cell?,kX]
   have iK:=Sb.hide dH;have qF:=Sb.hide iH;clear bO hg4 bJ dH iH kX t3;refine hK.out _ _ zU (fun hHeld=>?_);clear hK K;simp only[Act.put];refine wpAnyH_take (i:=10) (oi:=_) (v:=?_) rfl (by kernel_rfl) (by kernel_rfl) (by kernel_rfl) (fun _ _ _ h=>h) (Or.inl ⟨by rfl,?_⟩) (by assumption) ?_;rotate_left
   ·intro w hSw
    (try dsimp only at hSw)
    go_simp
    (try with_reducible rfl)
   (try simp only[Act.put])
   refine wpAnyH_take (i:=11) (oi:=_) (v:=?_) rfl (by kernel_rfl) (by kernel_rfl) (by kernel_rfl) (fun _ _ _ h=>h) (Or.inl ⟨by rfl,?_⟩) (by assumption) ?_;rotate_left
   ·intro w hSw
    (try dsimp only at hSw)
    go_simp
    (try with_reducible rfl)
   (try simp only[Act.put])
   refine wpAnyH_ready (rs:=[12]) (by kernel_rfl) (by simp) ?_;refine AllReadyH.cons (o:=_) rfl (fun K hK=>?_) AllReadyH.nil;go_simp
   refine hK.out _ _ qF.out (fun hHeld=>?_);clear hK K;refine wpAnyH_done (by kernel_rfl) ?_ _;obtain⟨L5,P5,G9,Ha,s5,q5,k5⟩:=iK.out;obtain⟨_,_,f2,_,_,_,_,_,_⟩:=bS s5.tk.blk;have S5:=Sb.hide s5;have E5:=Sb.hide q5;have C5:=Sb.hide k5;have hent:=hN.out.enter;clear s5 q5 k5 d0 d1 d2 d3 d4 d5 d6 d7 G7;go_wp2_with fail
   refine (hN.out.call ⟨6,0,n⟩ L5 _ _ _ (Sb.hide S5.out.en) (Sb.hide S5.out.ok) (Nat.le_succ_of_le uw.out)).mono ?_;rintro e w6 ⟨rfl,L6,h1,h2,h3,h4⟩;obtain⟨L7,P7,zV,zW,s7,q7,k7⟩:=S5.out.heard h1 h2 h3 h4;obtain⟨_,_,_,g3,_,_,_,_,_⟩:=bS s7.tk.blk;obtain⟨R7,NW,hv7,zX,_⟩:=s7.row;have e7:(({ t1 with ae:=t1.ae++[gQ u n (h.ws.drop (h.ws.length - p))] }:Tk).note ⟨6,0,n⟩).ae.length=tl+1:=by
    show (t1.ae++[gQ u n (h.ws.drop (h.ws.length - p))]).length=tl+1
    rw[List.length_append,iJ.out,← eQ.out];rfl
   rw[hv7,e7] at g3;have S7:=Sb.hide s7;have E7:=Sb.hide q7;have C7:=Sb.hide k7;clear h1 h2 h3 h4 s7 q7 k7 hv7 zX e7 f2;go_wp2_with fail
   refine (gJ E c vB N af hN o T L7 P7 _ _ x zV zW S7 (Sb.hide (by have h1:=uw.out;show (t1.log++[_]).length≤2000001;rw[List.length_append];simp;omega)) tl).mono ?_;rintro e w8 ⟨rfl,hW⟩;have HW:=Sb.hide (((hW.trans E7.out C7.out).trans E5.out C5.out).trans E1.out C1.out).drew.alloc;clear hW;go_wp2
   go_end0
   refine⟨rfl,?_⟩;unfold Tk.start;simp only[bT.out,← xw.out,kV.out];rw[if_neg (by have:=eQ.out;omega),← HT1.out,← eQ.out];exact HW.out
  refine AllReadyH.cons (o:=_) rfl (fun K hK=>?_) AllReadyH.nil;go_simp
  refine hK.out _ _ ((Below.heap_alloc _ _ _ zS).trans dz.out) (fun hHeld=>?_);clear hK K;have ta:(w2.alloc (.cells #[.pointer (some ⟨Hn,0,none⟩)] 161)).cell? ⟨T,3,none⟩=some (.slice (some ⟨R,0,none⟩) tl cap):=(World.cell?_of_block (Below.heap_alloc _ _ _ zT)).trans t3;refine wpAnyH_ready (rs:=[4]) (by kernel_rfl) (by simp) ?_;refine AllReadyH.cons (o:=_) rfl (fun K hK=>?_) AllReadyH.nil;go_simp
  refine hK.out _ _ ((Below.heap_alloc _ _ _ zS).trans dz.out) (fun hHeld=>?_);clear hK K;refine wpAnyH_ready (rs:=[9]) (by kernel_rfl) (by simp) ?_;refine AllReadyH.cons (o:=_) rfl (fun K hK=>?_) AllReadyH.nil;have HRW:Hid (w2.ownsRow 0 161 1 (.slice (some ⟨R,0,none⟩) tl cap) tl (ptrs P tl)):=by
   have:=bA (w':=w2) fO.out.tk.rows (fun b hb=>HB2.out.block b (fO.out.tk.rows.lt b hb).2);rw[iJ.out,HV.out,← eQ.out] at this;exact this
  refine oh rfl (.tmp 33) (.tmp 37) 160 rfl 0 161 i1 (.pointer none) 1 8 Tryz.underlying160 hi1 hy0 hy1 hy2 rfl (by decide) (.slice (some ⟨R,0,none⟩) tl cap) tl (ptrs P tl) rfl (HRW.out.alloc _) ⟨_,0,none⟩ 1 1 [.pointer (some ⟨Hn,0,none⟩)] rfl rfl (oo w2 _ _) (oq rfl) (by decide) (by unfold maxLen;omega) (by omega) (Nat.zero_le _) ?_;intro R4 cap4 w4 bO hg4 bJ;have dH:aS E c vB (.func (.func N) #[] af) o T L1 w1 (w4.setCell ⟨T,3,none⟩ (.slice (some ⟨R4,0,none⟩) (tl+1) cap4)) { t1 with ae:=t1.ae++[gQ u n (h.ws.drop (h.ws.length - p))] } x:=by
   have e0:t1.ae.length=tl:=by rw[iJ.out,eQ.out]
   have:=fO.out.started (L':=L2) (w2:=w2) (w4:=w4) (h:=gQ u n (h.ws.drop (h.ws.length - p))) (Hn:=Hn) (R:=R4) (cap:=cap4) (ob:=.cells #[.pointer (some ⟨Hn,0,none⟩)] 161) (by omega) (by
    intro i h' k hh hk;rw[iJ.out];have ht:=HT1.out;unfold Tk.less Tk.words at ht;rw[kV.out] at ht;rw[ht] at hh;simp only[Tk.set,List.getElem?_set] at hh;split at hh
    ·split at hh
     ·cases hh;exact hup.out _ _ _ HH.out hk
     ·cases hh
    ·exact hup.out _ _ _ hh hk) (by rw[iJ.out];exact Dt.out) (by rw[iJ.out];exact HE2.out) HL2.out HB2.out (by rw[e0];exact bO) (by rw[HV.out,← eQ.out];exact hg4) (by rw[HV.out,← eQ.out];exact bJ)
   rw[e0] at this;exact this
  have iH:(w4.setCell ⟨T,3,none⟩ (.slice (some ⟨R4,0,none⟩) (tl+1) cap4)).heap[w.heap.size]?=some (aX c n u al cl):=by
   obtain⟨_,_,_,_,_,_,k5⟩:=dH;exact (k5.block _ dP (fun hx=>by
    have e:=E1.out.1 w.heap.size (by simp);have:=H.out.ok.new w.heap.size (Nat.le_refl _);unfold WB EB at hx;rw[e] at hx;omega)).trans jo.out
  have zU:w4.heap[w.heap.size]?=some (aX c n u al cl):=(Below.heap_setCell w4 ⟨T,3,none⟩ _ _ (by show w.heap.size≠T;omega)).symm.trans iH;have kX:w4.heap[T]?=some (fG c vB (.func (.func N) #[] af) (.slice (some ⟨R,0,none⟩) tl cap) (P t1.hand) vO t1.over t1.trap):=by
   have hne:R≠T:=fun e=>by
    have a:=fO.out.tk.lR R (by rw[HV.out];rfl);have b:=fO.out.tk.lT;rw[e,b] at a;cases a
   have:=fO.out.tk.blk;rw[HV.out,← eQ.out] at this;exact (hg4.block T (by simp;omega) (fun e=>hne (by simpa[Value.ownBlock] using e.symm))).trans ((Below.heap_alloc _ _ _ zT).trans ((HB2.out.block T zR).trans this))
  have G8:w4.frozen? ⟨T,3,none⟩=false:=by simp[World.frozen?,kX]
  have q4:w4.cell? ⟨T,3,none⟩=some (.slice (some ⟨R,0,none⟩) tl cap):=by simp[World.cell?,kX]
  have iK:=Sb.hide dH;have qF:=Sb.hide iH;clear bO hg4 bJ dH iH kX t3;refine hK.out _ _ zU (fun hHeld=>?_);clear hK K;simp only[Act.put];refine wpAnyH_take (i:=10) (oi:=_) (v:=?_) rfl (by kernel_rfl) (by kernel_rfl) (by kernel_rfl) (fun _ _ _ h=>h) (Or.inl ⟨by rfl,?_⟩) (by assumption) ?_;rotate_left
  ·intro w hSw
   (try dsimp only at hSw)
   go_simp
   (try with_reducible rfl)
  (try simp only[Act.put])
  refine wpAnyH_take (i:=11) (oi:=_) (v:=?_) rfl (by kernel_rfl) (by kernel_rfl) (by kernel_rfl) (fun _ _ _ h=>h) (Or.inl ⟨by rfl,?_⟩) (by assumption) ?_;rotate_left
  ·intro w hSw
   (try dsimp only at hSw)
   go_simp
   (try with_reducible rfl)
  (try simp only[Act.put])
  refine wpAnyH_ready (rs:=[12]) (by kernel_rfl) (by simp) ?_;refine AllReadyH.cons (o:=_) rfl (fun K hK=>?_) AllReadyH.nil;go_simp
  refine hK.out _ _ qF.out (fun hHeld=>?_);clear hK K;refine wpAnyH_done (by kernel_rfl) ?_ _;obtain⟨L5,P5,G9,Ha,s5,q5,k5⟩:=iK.out;obtain⟨_,_,f2,_,_,_,_,_,_⟩:=bS s5.tk.blk;have S5:=Sb.hide s5;have E5:=Sb.hide q5;have C5:=Sb.hide k5;have hent:=hN.out.enter;clear s5 q5 k5 d0 d1 d2 d3 d4 d5 d6 d7 G7;go_wp2_with fail
  refine (hN.out.call ⟨6,0,n⟩ L5 _ _ _ (Sb.hide S5.out.en) (Sb.hide S5.out.ok) (Nat.le_succ_of_le uw.out)).mono ?_;rintro e w6 ⟨rfl,L6,h1,h2,h3,h4⟩;obtain⟨L7,P7,zV,zW,s7,q7,k7⟩:=S5.out.heard h1 h2 h3 h4;obtain⟨_,_,_,g3,_,_,_,_,_⟩:=bS s7.tk.blk;obtain⟨R7,NW,hv7,zX,_⟩:=s7.row;have e7:(({ t1 with ae:=t1.ae++[gQ u n (h.ws.drop (h.ws.length - p))] }:Tk).note ⟨6,0,n⟩).ae.length=tl+1:=by
   show (t1.ae++[gQ u n (h.ws.drop (h.ws.length - p))]).length=tl+1
   rw[List.length_append,iJ.out,← eQ.out];rfl
  rw[hv7,e7] at g3;have S7:=Sb.hide s7;have E7:=Sb.hide q7;have C7:=Sb.hide k7;clear h1 h2 h3 h4 s7 q7 k7 hv7 zX e7 f2;go_wp2_with fail
  refine (gJ E c vB N af hN o T L7 P7 _ _ x zV zW S7 (Sb.hide (by have h1:=uw.out;show (t1.log++[_]).length≤2000001;rw[List.length_append];simp;omega)) tl).mono ?_;rintro e w8 ⟨rfl,hW⟩;have HW:=Sb.hide (((hW.trans E7.out C7.out).trans E5.out C5.out).trans E1.out C1.out).drew.alloc;clear hW;go_wp2
  go_end0
  refine⟨rfl,?_⟩;unfold Tk.start;simp only[bT.out,← xw.out,kV.out];rw[if_neg (by have:=eQ.out;omega),← HT1.out,← eQ.out];exact HW.out
end
end Go.Proofs.YtfcpglhpolpdcaaGreatDoor.Vw

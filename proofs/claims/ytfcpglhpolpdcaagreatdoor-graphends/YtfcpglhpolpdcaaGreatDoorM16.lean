/- The walk of step: a local comes on top;WHAT A STEP LEAVES. -/
import Derived.Test.YtfcpglhpolpdcaaGreatDoorM15
set_option maxRecDepth 100000
set_option maxHeartbeats 4000000
namespace Go.Proofs.YtfcpglhpolpdcaaGreatDoor.Vw
open Go.RowKit Vf Vm
section
variable {β:Type} (E:Env β) (X:gN β) (c:Cx) (vB:Value) (N:Nat) (af:Array Value) (hN:Hid (jl E c N af)) (o T:Nat) (L:av) (P:Nat→Nat) (w:World) (t:Tk) (x:β) (vR vO:Value) (H:Hid (St E c vB (.func (.func N) #[] af) o T L P w t x vR vO))
include hN H
theorem YB (f:Wk)(rs:List Wk)(u:Un)(i:Ins)(hs:Hid (jN X c t x f rs u i))(ho:i.op=3) :
  Calls Tryz.prog 101 #[.pointer (some ⟨T,0,none⟩)] w fun e w'=>e=.returned (.tuple #[])∧aS E c vB (.func (.func N) #[] af) o T L w w' ((t.goto (f.pc+1)).put (((t.goto (f.pc+1)).top.ws[(t.goto (f.pc+1)).frame.base+i.a.toNat]?).getD 0)) x:=by
 have e1:(i.op==1)=false:=by simp;omega
 have e2:(i.op==2)=false:=by simp;omega
 have e3:(i.op==3)=true:=by simpa using ho
 have Yz:=hs.out.base;obtain⟨ha0,ha2⟩:=hs.out.loc (.inl ho);obtain⟨n,hn⟩:∃ n:Nat,i.a=n:=⟨i.a.toNat,by omega⟩;have bG:=Sb.hide hn;have rJ:Hid (IntKind.i64.wrap ((f.base:Int)+i.a)=((f.base+n:Nat):Int)):=by unfold Hid;rw[IntWalk.i64_in _ ⟨by omega,by omega⟩];omega
 clear ho hn;obtain⟨h,S,g,r,vU,hh,hT,htop⟩:=H.out.at
 have hf:h.fs=f :: rs:=by rw[← htop];exact hs.out.fs
 obtain⟨U,cap,cur,hU,cB,_⟩:=hT.work hf;have hUz:=lt_of_block cB;have d0:=cO H.out;have hpc:=hs.out.pc;have HF:=Sb.hide hf;have HU:=Sb.hide hU;have HH:=Sb.hide hh;have HT:=Sb.hide hT;have bT:=Sb.hide hs.out.un;have dQ:=Sb.hide hs.out.code;clear hf hU hh hT cB htop;go_enter Tryz.func101,Tryz.ntmps101
 go_wp2_with fail
 refine (iT c L o t.hand P _ h S g r vU HT (Sb.hide H.out.cx) (Sb.hide H.out.ok) f rs HF u bT i dQ).mono ?_;rintro e w1 ⟨rfl,hb1⟩;have hz1:=hb1.size;have HT2:Hid (aD c L o t.hand P (w1.alloc (az i)) h S g r vU):=HT.out.keep (.refl _ _) rfl rfl (fun b hb _=>(Below.heap_alloc _ _ _ (by omega)).trans (hb1.block b hb));have HS2:Hid (St E c vB (.func (.func N) #[] af) o T L P (w1.alloc (az i)) t x vR vO):=H.out.below (hb1.alloc hb1.size _);have HB2:Hid (Below w.heap.size w (w1.alloc (az i))):=hb1.alloc hb1.size _;have dP:¬ w1.heap.size=U:=by omega
 have ni:¬ U=w1.heap.size:=by omega
 clear hb1 d0;go_wp2_with fail
 refine (kT c L o t.hand P _ h S g r vU HT2 f rs HF U cap HU).mono ?_;rintro e w' ⟨rfl,d,rfl⟩;obtain⟨k0,k1,k2,k3⟩:=(HT2.out.drewN d).inner HF.out HU.out;obtain⟨L3,s3,t3,q3,c3⟩:=(HS2.out.below (below_drewN (Below.refl _ _) d)).goto HH.out (HT2.out.drewN d) HF.out HU.out (f.pc+1);have ecast:((f.pc+1:Nat):Int)=(f.pc:Int)+1:=by omega
 rw[ecast] at s3 t3 c3;have y0:(((w1.alloc (az i)).drewN d).setCell ⟨U,rs.length * 3+1,none⟩ (.int .i64 ((f.pc:Int)+1))).heap[w1.heap.size]?=some (az i):=(Below.heap_setCell _ ⟨U,rs.length * 3+1,none⟩ _ _ (by show w1.heap.size≠U;exact dP)).trans (heap_alloc_new w1 _);have S3:=Sb.hide s3;have T3:=Sb.hide t3;have E3:=Sb.hide q3;have C3:=Sb.hide c3;have HX0:=Sb.hide y0;have cZ:Hid (Below w.heap.size w ((w1.alloc (az i)).drewN d)):=below_drewN HB2.out d;clear s3 t3 q3 c3 y0 ecast;obtain⟨t1,ht1⟩:∃ t1,t1=t.goto (f.pc+1):=⟨_,rfl⟩;rw[← ht1] at S3;have bW:Hid (t1.log.length≤2000000):=by unfold Hid;rw[ht1];exact hs.out.log
 have HT1:=Sb.hide ht1;clear ht1;have hhd:t1.hand=t.hand:=by rw[HT1.out];rfl
 have jL:t1.ae[t1.hand]?=some { h with fs:={ f with pc:=f.pc+1 } :: rs }:=by rw[HT1.out,qD HH.out HF.out];simp[Tk.set,gB HH.out]
 have mD:=Sb.hide jL;have pg:Hid (aD c L3 o t1.hand P (((w1.alloc (az i)).drewN d).setCell ⟨U,rs.length * 3+1,none⟩ (.int .i64 ((f.pc:Int)+1))) { h with fs:={ f with pc:=f.pc+1 } :: rs } S g r vU):=by unfold Hid;rw[hhd];exact T3.out
 obtain⟨m0,m1,m2,m3⟩:=pg.out.cells;obtain⟨Aa,k1',k2',Dv⟩:=pg.out.inner (f:={ f with pc:=f.pc+1 }) (rs:=rs) rfl HU.out;have x0:(((w1.alloc (az i)).drewN d).setCell ⟨U,rs.length * 3+1,none⟩ (.int .i64 ((f.pc:Int)+1))).cell? ⟨w1.heap.size,0,none⟩=some (.int .i64 i.op):=by have hx:=HX0.out;simp only[World.cell?,hx];rfl
 have x1:(((w1.alloc (az i)).drewN d).setCell ⟨U,rs.length * 3+1,none⟩ (.int .i64 ((f.pc:Int)+1))).cell? ⟨w1.heap.size,1,none⟩=some (.int .i64 i.a):=by have hx:=HX0.out;simp only[World.cell?,hx];rfl
 rw[hhd] at m0;clear jL m1 m2 m3 Aa k1';have Dw:=Sb.hide hhd;have Ab:Hid (¬ WB L3 o w1.heap.size):=fun hx=>by
  have h1:=E3.out.1 w1.heap.size (by simp);have h2:=H.out.ok.new w1.heap.size hz1;unfold WB EB at hx;rw[h1] at hx;omega
 have hxs:w1.heap.size<(((w1.alloc (az i)).drewN d).setCell ⟨U,rs.length * 3+1,none⟩ (.int .i64 ((f.pc:Int)+1))).heap.size:=lt_of_block HX0.out;obtain⟨vv,hvv⟩:∃ v,v=(h.ws[f.base+n]?).getD 0:=⟨_,rfl⟩;have Oc:Hid (vv=o7 h.ws ((f.base+n:Nat):Int)):=by unfold Hid o7;rw[if_neg (by omega),Int.toNat_natCast];exact hvv
 have Od:Hid ((t1.top.ws[t1.frame.base+i.a.toNat]?).getD 0=vv):=by
  unfold Hid;rw[um (f:={ f with pc:=f.pc+1 }) (r:=rs) mD.out rfl,eD mD.out,bG.out,Int.toNat_natCast,hvv]
 clear hvv;go_wp2
 generalize ((w1.alloc (az i)).drewN d).setCell ⟨U,rs.length * 3+1,none⟩ (.int .i64 ((f.pc:Int)+1))=W3 at *;have qG:=Sb.hide hxs;have hb2:W3.cell? ⟨U,rs.length * 3+2,none⟩=some (.int .i64 f.base):=k2';have hx3:W3.drew.heap[w1.heap.size]?=some (az i):=HX0.out;clear k0 k1 k2 k3 k2' Dv hxs hhd x0 x1;go_upto_region 11 with fail
 refine wp_region_held_drew (S:=fun w'=>w'.heap[w1.heap.size]?=some (az i)) (by kernel_rfl) hx3 (fun hHeld=>?_);refine wpAnyH_take (i:=0) (oi:=_) (v:=?_) rfl (by kernel_rfl) (by kernel_rfl) (by kernel_rfl) (fun _ _ _ h=>h) (Or.inl ⟨by rfl,?_⟩) (by assumption) ?_;rotate_left
 ·intro w hSw
  (try dsimp only at hSw)
  go_simp
  (try with_reducible rfl)
 (try simp only[Act.put])
 refine wpAnyH_take (i:=1) (oi:=_) (v:=?_) rfl (by kernel_rfl) (by kernel_rfl) (by kernel_rfl) (fun _ _ _ h=>h) (Or.inl ⟨by rfl,?_⟩) (by assumption) ?_;rotate_left
 ·intro w hSw
  (try dsimp only at hSw)
  go_simp
  (try with_reducible rfl)
 (try simp only[Act.put])
 refine wpAnyH_take (i:=2) (oi:=_) (v:=?_) rfl (by kernel_rfl) (by kernel_rfl) (by kernel_rfl) (fun _ _ _ h=>h) (Or.inl ⟨by rfl,?_⟩) (by assumption) ?_;rotate_left
 ·intro w hSw
  (try dsimp only at hSw)
  go_simp
  (try with_reducible rfl)
 (try simp only[Act.put])
 refine wpAnyH_take (i:=3) (oi:=_) (v:=?_) rfl (by kernel_rfl) (by kernel_rfl) (by kernel_rfl) (fun _ _ _ h=>h) (Or.inl ⟨by rfl,?_⟩) (by assumption) ?_;rotate_left
 ·intro w hSw
  (try dsimp only at hSw)
  go_simp
  (try with_reducible rfl)
 (try simp only[Act.put])
 refine wpAnyH_take (i:=5) (oi:=_) (v:=?_) rfl (by kernel_rfl) (by kernel_rfl) (by kernel_rfl) (fun _ _ _ h=>h) (Or.inl ⟨by rfl,?_⟩) (by assumption) ?_;rotate_left
 ·intro w hSw
  (try dsimp only at hSw)
  go_simp
  (try with_reducible rfl)
 (try simp only[Act.put])
 refine wpAnyH_take (i:=6) (oi:=_) (v:=?_) rfl (by kernel_rfl) (by kernel_rfl) (by kernel_rfl) (fun _ _ _ h=>h) (Or.inl ⟨by rfl,?_⟩) (by assumption) ?_;rotate_left
 ·intro w hSw
  (try dsimp only at hSw)
  go_simp
  (try with_reducible rfl)
 (try simp only[Act.put])
 refine wpAnyH_take (i:=7) (oi:=_) (v:=?_) rfl (by kernel_rfl) (by kernel_rfl) (by kernel_rfl) (fun _ _ _ h=>h) (Or.inl ⟨by rfl,?_⟩) (by assumption) ?_;rotate_left
 ·intro w hSw
  (try dsimp only at hSw)
  go_simp
  (try with_reducible rfl)
 (try simp only[Act.put])
 refine wpAnyH_take (i:=9) (oi:=_) (v:=?_) rfl (by kernel_rfl) (by kernel_rfl) (by kernel_rfl) (fun _ _ _ h=>h) (Or.inl ⟨by rfl,?_⟩) (by assumption) ?_;rotate_left
 ·intro w hSw
  (try dsimp only at hSw)
  go_simp
  (try with_reducible rfl)
 (try simp only[Act.put])
 refine wpAnyH_take (i:=10) (oi:=_) (v:=.int .i64 i.a) rfl (by kernel_rfl) (by kernel_rfl) (by kernel_rfl) (fun _ _ _ h=>h) (Or.inl ⟨by rfl,?_⟩) (by assumption) ?_
 ·intro w' hSw
  have x1:w'.cell? ⟨w1.heap.size,1,none⟩=some (.int .i64 i.a):=by simp[World.cell?,hSw]
  clear hSw;go_simp
 (try simp only[Act.put])
 refine wpAnyH_ready (rs:=[4,8]) (by kernel_rfl) (by simp) ?_;refine AllReadyH.cons (o:=_) rfl (fun K hK=>?_) ?_
 ·go_simp
  refine hK.out _ _ hx3 (fun hHeld=>?_);clear hK K;refine wpAnyH_ready (rs:=[8]) (by kernel_rfl) (by simp) ?_;refine AllReadyH.cons (o:=_) rfl (fun K hK=>?_) AllReadyH.nil;go_simp
  refine hK.out _ _ hx3 (fun hHeld=>?_);clear hK K;refine wpAnyH_take (i:=11) (oi:=_) (v:=?_) rfl (by kernel_rfl) (by kernel_rfl) (by kernel_rfl) (fun _ _ _ h=>h) (Or.inl ⟨by rfl,?_⟩) (by assumption) ?_;rotate_left
  ·intro w hSw
   (try dsimp only at hSw)
   go_simp
   (try with_reducible rfl)
  (try simp only[Act.put])
  refine wpAnyH_ready (rs:=[12]) (by kernel_rfl) (by simp) ?_;refine AllReadyH.cons (o:=_) rfl (fun K hK=>?_) AllReadyH.nil;go_simp
  (try rw[rJ.out])
  refine (Dh S g h.ws r 8 400 _ vv _ (by exact pg.out.stack) Oc).mono ?_;rintro e w' ⟨rfl,d2,rfl⟩;refine hK.out _ _ HX0.out (fun hHeld=>?_);clear hK K;refine wpAnyH_ready (rs:=[13]) (by kernel_rfl) (by simp) ?_;refine AllReadyH.cons (o:=_) rfl (fun K hK=>?_) AllReadyH.nil;go_simp
  refine (gJ E c vB N af hN o T L3 P (W3.drewN (1+d2)) t1 x vR vO (Sb.hide (S3.out.below (below_drewN (Below.refl _ _) (1+d2)))) (Sb.hide (Nat.le_succ_of_le bW.out)) vv).mono ?_;rintro e w5 ⟨rfl,hW⟩;have rP:w5.heap[w1.heap.size]?=some (az i):=by
   obtain⟨_,_,_,_,_,_,k5⟩:=hW;exact (k5.block _ qG.out Ab.out).trans HX0.out
  have iK:=Sb.hide ((hW.drewN.trans E3.out C3.out).under cZ.out);clear hW;refine hK.out _ _ rP (fun hHeld=>?_);clear hK K;refine wpAnyH_done (by kernel_rfl) ?_ _;clear rP hHeld;go_wp2
  go_end0
  refine⟨rfl,?_⟩;rw[← HT1.out,Od.out];exact iK.out
 refine AllReadyH.cons (o:=_) rfl (fun K hK=>?_) AllReadyH.nil;go_simp
 refine hK.out _ _ hx3 (fun hHeld=>?_);clear hK K;refine wpAnyH_take (i:=11) (oi:=_) (v:=?_) rfl (by kernel_rfl) (by kernel_rfl) (by kernel_rfl) (fun _ _ _ h=>h) (Or.inl ⟨by rfl,?_⟩) (by assumption) ?_;rotate_left
 ·intro w hSw
  (try dsimp only at hSw)
  go_simp
  (try with_reducible rfl)
 (try simp only[Act.put])
 refine wpAnyH_ready (rs:=[4]) (by kernel_rfl) (by simp) ?_;refine AllReadyH.cons (o:=_) rfl (fun K hK=>?_) AllReadyH.nil;go_simp
 refine hK.out _ _ hx3 (fun hHeld=>?_);clear hK K;refine wpAnyH_ready (rs:=[12]) (by kernel_rfl) (by simp) ?_;refine AllReadyH.cons (o:=_) rfl (fun K hK=>?_) AllReadyH.nil;go_simp
 (try rw[rJ.out])
 refine (Dh S g h.ws r 8 400 _ vv _ (by exact pg.out.stack) Oc).mono ?_;rintro e w' ⟨rfl,d2,rfl⟩;refine hK.out _ _ HX0.out (fun hHeld=>?_);clear hK K;refine wpAnyH_ready (rs:=[13]) (by kernel_rfl) (by simp) ?_;refine AllReadyH.cons (o:=_) rfl (fun K hK=>?_) AllReadyH.nil;go_simp
 refine (gJ E c vB N af hN o T L3 P (W3.drewN (1+d2)) t1 x vR vO (Sb.hide (S3.out.below (below_drewN (Below.refl _ _) (1+d2)))) (Sb.hide (Nat.le_succ_of_le bW.out)) vv).mono ?_;rintro e w5 ⟨rfl,hW⟩;have rP:w5.heap[w1.heap.size]?=some (az i):=by
  obtain⟨_,_,_,_,_,_,k5⟩:=hW;exact (k5.block _ qG.out Ab.out).trans HX0.out
 have iK:=Sb.hide ((hW.drewN.trans E3.out C3.out).under cZ.out);clear hW;refine hK.out _ _ rP (fun hHeld=>?_);clear hK K;refine wpAnyH_done (by kernel_rfl) ?_ _;clear rP hHeld;go_wp2
 go_end0
 refine⟨rfl,?_⟩;rw[← HT1.out,Od.out];exact iK.out
theorem Dx (hX:Hid (mq E X c vB))(f:Wk)(rs:List Wk)(u:Un)(i:Ins)(hs:Hid (jN X c t x f rs u i)) :
  Calls Tryz.prog 101 #[.pointer (some ⟨T,0,none⟩)] w fun e w'=>e=.returned (.tuple #[])∧aS E c vB (.func (.func N) #[] af) o T L w w' ((t.goto (f.pc+1)).act c.m i (X.head x i.a.toNat)) (ou X i (t.goto (f.pc+1)).last x):=by
 have hop:=hs.out.op;by_cases bR:i.op=26
 ·refine (Yo E X c vB N af hN o T L P w t x vR vO H hX f rs u i hs bR).mono ?_
  rintro e w' ⟨rfl,hW⟩;refine⟨rfl,?_⟩;unfold ou Tk.act;rw[if_pos bR,if_neg (by omega),if_neg (by omega),if_neg (by omega),if_neg (by omega),if_neg (by omega),if_neg (by omega),if_neg (by omega),if_neg (by omega),if_neg (by omega),if_pos bR];exact hW
 by_cases h27:i.op=27
 ·refine (Yp E X c vB N af hN o T L P w t x vR vO H hX f rs u i hs h27).mono ?_
  rintro e w' ⟨rfl,hW⟩;refine⟨rfl,?_⟩;unfold ou Tk.act;rw[if_neg bR,if_pos h27,if_neg (by omega),if_neg (by omega),if_neg (by omega),if_neg (by omega),if_neg (by omega),if_neg (by omega),if_neg (by omega),if_neg (by omega),if_neg (by omega),if_neg (by omega),if_pos h27];exact hW
 have hx:ou X i (t.goto (f.pc+1)).last x=x:=by unfold ou;rw[if_neg bR,if_neg h27]
 rw[hx];by_cases ho:8≤i.op∧i.op≤20∨i.op=23∨i.op=24∨i.op=25∨i.op=29∨i.op=30∨i.op=31∨i.op=32
 ·rw[Yi ho]
  exact Yu E X c vB N af hN o T L P w t x vR vO H f rs u i hs ho
 unfold Tk.act;by_cases h1:i.op=1
 ·rw[if_pos h1]
  exact Yj E X c vB N af hN o T L P w t x vR vO H f rs u i hs h1
 by_cases h2:i.op=2
 ·rw[if_neg h1,if_pos h2]
  exact Yk E X c vB N af hN o T L P w t x vR vO H f rs u i hs h2
 by_cases h3:i.op=3
 ·rw[if_neg h1,if_neg h2,if_pos h3]
  exact YB E X c vB N af hN o T L P w t x vR vO H f rs u i hs h3
 by_cases h4:i.op=4
 ·rw[if_neg h1,if_neg h2,if_neg h3,if_pos h4]
  exact Yy E X c vB N af hN o T L P w t x vR vO H f rs u i hs h4
 by_cases h5:i.op=5
 ·rw[if_neg h1,if_neg h2,if_neg h3,if_neg h4,if_pos h5]
  exact step_drop E X c vB N af hN o T L P w t x vR vO H f rs u i hs h5
 by_cases h6:i.op=6
 ·rw[if_neg h1,if_neg h2,if_neg h3,if_neg h4,if_neg h5,if_pos h6]
  exact Yl E X c vB N af hN o T L P w t x vR vO H f rs u i hs h6
 by_cases h7:i.op=7
 ·rw[if_neg h1,if_neg h2,if_neg h3,if_neg h4,if_neg h5,if_neg h6,if_pos h7]
  exact Ym E X c vB N af hN o T L P w t x vR vO H f rs u i hs h7
 by_cases h21:i.op=21
 ·rw[if_neg h1,if_neg h2,if_neg h3,if_neg h4,if_neg h5,if_neg h6,if_neg h7,if_pos h21]
  exact Yn E X c vB N af hN o T L P w t x vR vO H f rs u i hs h21
 by_cases h22:i.op=22
 ·rw[if_neg h1,if_neg h2,if_neg h3,if_neg h4,if_neg h5,if_neg h6,if_neg h7,if_neg h21,if_pos h22]
  exact Yx E X c vB N af hN o T L P w t x vR vO H f rs u i hs h22 _ (Sb.hide rfl)
 have oz:i.op=28:=by omega
 rw[if_neg h1,if_neg h2,if_neg h3,if_neg h4,if_neg h5,if_neg h6,if_neg h7,if_neg h21,if_neg h22,if_neg bR,if_neg h27,if_pos oz];exact Yq E X c vB N af hN o T L P w t x vR vO H f rs u i hs oz
end
structure nu (c:Cx) (t:Tk) (f:Wk) (rs:List Wk) (u:Un) (i:Ins):Prop where
 fs:t.top.fs=f :: rs
 un:c.m.units[f.u]?=some u
 code:u.code[f.pc]?=some i
 box:i.op=26∨i.op=27→∃ n:Nat,i.a=n∧n<c.m.boxes.length
theorem nu.ins {c:Cx}{t:Tk}{f:Wk}{rs:List Wk}{u:Un}{i:Ins}(h:nu c t f rs u i):t.ins c.m=i:=by
 have e:t.frame=f:=by simp[Tk.frame,h.fs]
 simp[Tk.ins,e,mf h.un,h.code]
theorem Og {i:Ins}{w:World}{Z:Nat}(hx:w.heap[Z]?=some (az i)):w.cell? ⟨Z,0,none⟩=some (.int .i64 i.op)∧w.cell? ⟨Z,1,none⟩=some (.int .i64 i.a)∧w.cell? ⟨Z,2,none⟩=some (.int .i64 i.n):=by
 simp[World.cell?,hx]
section
variable {β:Type} (E:Env β) (X:gN β) (c:Cx) (vB ev:Value) (o T:Nat) (L:av) (P:Nat→Nat) (w:World) (t:Tk) (x:β) (vR vO:Value) (H:Hid (St E c vB ev o T L P w t x vR vO))
include H
theorem YC (ho:t.over≠0) :
  Calls Tryz.prog 63 #[.pointer (some ⟨T,0,none⟩)] w fun e w'=>e=.returned (.tuple #[.int .i64 t.over,.int .i64 0])∧Below w.heap.size w w':=by
 have d6:=(bS H.out.tk.blk).2.2.2.2.2.2.1;have e1:((t.over:Int) != 0)=true:=by simp;omega
 clear ho;go_enter Tryz.func63,Tryz.ntmps63
 go_wp2
 go_ret2
 exact⟨rfl,Below.refl _ _⟩
theorem YD (f:Wk)(rs:List Wk)(u:Un)(i:Ins)(hs:Hid (nu c t f rs u i))(ho:t.over=0)(bR:i.op≠26)(h27:i.op≠27) :
  Calls Tryz.prog 63 #[.pointer (some ⟨T,0,none⟩)] w fun e w'=>e=.returned (.tuple #[.int .i64 1,.int .i64 0])∧Below w.heap.size w w':=by
 have Ac:=Sb.hide ho;have e26:(i.op==26)=false:=by simpa using bR
 have e27:(i.op==27)=false:=by simpa using h27
 clear ho bR h27;obtain⟨h,S,g,r,vU,hh,hT,htop⟩:=H.out.at
 have hf:h.fs=f :: rs:=by rw[← htop];exact hs.out.fs
 have d0:=cO H.out;have d6:=(bS H.out.tk.blk).2.2.2.2.2.2.1;rw[Ac.out] at d6;have HF:=Sb.hide hf;have HT:=Sb.hide hT;have bT:=Sb.hide hs.out.un;have dQ:=Sb.hide hs.out.code;have jM:=lt_of_block H.out.tk.blk;clear hf hh hT htop;go_enter Tryz.func63,Tryz.ntmps63
 go_wp2_with fail
 refine (iT c L o t.hand P _ h S g r vU HT (Sb.hide H.out.cx) (Sb.hide H.out.ok) f rs HF u bT i dQ).mono ?_;rintro e w1 ⟨rfl,hb1⟩;have hz1:=hb1.size;have HB2:Hid (Below w.heap.size w (w1.alloc (az i))):=hb1.alloc hb1.size _;have HS2:=Sb.hide (H.out.below HB2.out);have hxb:(w1.alloc (az i)).heap[w1.heap.size]?=some (az i):=heap_alloc_new w1 _;have HXB:=Sb.hide hxb;clear hb1 d0 d6 hxb;go_wp2
 go_quiet (fail)
 go_wp2
 go_quiet (fail)
 go_wp2
 go_ret2
 exact⟨rfl,below_drewN (below_drewN HB2.out _) _⟩
theorem YE (hX:Hid (mq E X c vB))(f:Wk)(rs:List Wk)(u:Un)(i:Ins)(hs:Hid (nu c t f rs u i))(ho:t.over=0)(bR:i.op=26)(bb:Bool)(hbb:Hid (X.full x i.a.toNat=bb))(s q:Nat)(xG:Hid ((s,q)=if bb=true then (2,i.a.toNat) else (1,0))) :
  Calls Tryz.prog 63 #[.pointer (some ⟨T,0,none⟩)] w fun e w'=>e=.returned (.tuple #[.int .i64 s,.int .i64 q])∧Below w.heap.size w w':=by
 have Ac:=Sb.hide ho;obtain⟨n,hn,hnb⟩:=hs.out.box (.inl bR);obtain⟨b,off,cap,ty,p,fF,fE,fP,fT,hv,hcell,hB⟩:=hX.out.at' n hnb;obtain⟨nb,ow⟩:∃ m,m=c.m.boxes.length:=⟨_,rfl⟩;rw[← ow] at hv hnb;have HV:=Sb.hide hv;have HC:=Sb.hide hcell;have HB:=Sb.hide hB;have bG:=Sb.hide hn;have n0:(0:Int)≤(n:Int):=by omega
 have n1:(n:Int)<(nb:Int):=by omega
 clear hv hcell ow hn;have nk:Hid (X.full x n=bb):=by unfold Hid;have:=hbb.out;rw[bG.out,Int.toNat_natCast] at this;exact this
 have e26:(i.op==26)=true:=by simpa using bR
 have e27:(i.op==27)=false:=by simp;omega
 have hrun:=hB.Ya;clear ho bR hB;obtain⟨h,S,g,r,vU,hh,hT,htop⟩:=H.out.at
 have hf:h.fs=f :: rs:=by rw[← htop];exact hs.out.fs
 have d0:=cO H.out;have d6:=(bS H.out.tk.blk).2.2.2.2.2.2.1;rw[Ac.out] at d6;have HF:=Sb.hide hf;have HT:=Sb.hide hT;have bT:=Sb.hide hs.out.un;have dQ:=Sb.hide hs.out.code;have jM:=lt_of_block H.out.tk.blk;clear hf hh hT htop;go_enter Tryz.func63,Tryz.ntmps63
 go_wp2_with fail
 refine (iT c L o t.hand P _ h S g r vU HT (Sb.hide H.out.cx) (Sb.hide H.out.ok) f rs HF u bT i dQ).mono ?_;rintro e w1 ⟨rfl,hb1⟩;have hz1:=hb1.size;have HB2:Hid (Below w.heap.size w (w1.alloc (az i))):=hb1.alloc hb1.size _;have HS2:=Sb.hide (H.out.below HB2.out);have hxb:(w1.alloc (az i)).heap[w1.heap.size]?=some (az i):=heap_alloc_new w1 _;have HXB:=Sb.hide hxb;clear hb1 d0 d6 hxb;have b1:=(bS HS2.out.tk.blk).2.1;rw[HV.out] at b1;have bc:=HC.out _ _ _ _ HS2.out.en;obtain⟨q0,q1,q2⟩:=Og HXB.out;rw[bG.out] at q1;go_upto_region 4 with fail
 generalize w1.alloc (az i)=W2 at *;have s0:(W2.drew.cell? ⟨w1.heap.size,0,none⟩=some (.int .i64 i.op)∧W2.drew.cell? ⟨w1.heap.size,1,none⟩=some (.int .i64 n))∧W2.drew.cell? ⟨T,1,none⟩=some (.slice (some ⟨b,off,none⟩) nb cap)∧W2.drew.cell? ⟨b,off+n,none⟩=some (.iface ty p):=⟨⟨q0,q1⟩,b1,bc⟩;refine wp_region_held_drew (S:=fun w'=>(w'.cell? ⟨w1.heap.size,0,none⟩=some (.int .i64 i.op)∧w'.cell? ⟨w1.heap.size,1,none⟩=some (.int .i64 n))∧w'.cell? ⟨T,1,none⟩=some (.slice (some ⟨b,off,none⟩) nb cap)∧w'.cell? ⟨b,off+n,none⟩=some (.iface ty p)) (by kernel_rfl) s0 (fun hHeld=>?_);refine wpAnyH_take (i:=0) (oi:=_) (v:=?_) rfl (by kernel_rfl) (by kernel_rfl) (by kernel_rfl) (fun _ _ _ h=>h) (Or.inl ⟨by rfl,?_⟩) (by assumption) ?_;rotate_left
 ·intro w hSw
  (try dsimp only at hSw)
  go_simp
  (try with_reducible rfl)
 (try simp only[Act.put])
 refine wpAnyH_take (i:=1) (oi:=_) (v:=?_) rfl (by kernel_rfl) (by kernel_rfl) (by kernel_rfl) (fun _ _ _ h=>h) (Or.inl ⟨by rfl,?_⟩) (by assumption) ?_;rotate_left
 ·intro w hSw
  (try dsimp only at hSw)
  go_simp
  (try with_reducible rfl)
 (try simp only[Act.put])
 refine wpAnyH_take (i:=2) (oi:=_) (v:=?_) rfl (by kernel_rfl) (by kernel_rfl) (by kernel_rfl) (fun _ _ _ h=>h) (Or.inl ⟨by rfl,?_⟩) (by assumption) ?_;rotate_left
 ·intro w hSw
  (try dsimp only at hSw)
  go_simp
  (try with_reducible rfl)
 (try simp only[Act.put])
 refine wpAnyH_take (i:=3) (oi:=_) (v:=?_) rfl (by kernel_rfl) (by kernel_rfl) (by kernel_rfl) (fun _ _ _ h=>h) (Or.inl ⟨by rfl,?_⟩) (by assumption) ?_;rotate_left
 ·intro w hSw
  (try dsimp only at hSw)
  go_simp
  (try with_reducible rfl)
 (try simp only[Act.put])
 refine wpAnyH_take (i:=8) (oi:=_) (v:=?_) rfl (by kernel_rfl) (by kernel_rfl) (by kernel_rfl) (fun _ _ _ h=>h) (Or.inl ⟨by rfl,?_⟩) (by assumption) ?_;rotate_left
 ·intro w hSw
  (try dsimp only at hSw)
  go_simp
  (try with_reducible rfl)
 (try simp only[Act.put])
 refine wpAnyH_take (i:=9) (oi:=_) (v:=?_) rfl (by kernel_rfl) (by kernel_rfl) (by kernel_rfl) (fun _ _ _ h=>h) (Or.inl ⟨by rfl,?_⟩) (by assumption) ?_;rotate_left
 ·intro w hSw
  (try dsimp only at hSw)
  go_simp
  (try with_reducible rfl)
 (try simp only[Act.put])
 refine wpAnyH_ready (rs:=[4]) (by kernel_rfl) (by simp) ?_;refine AllReadyH.cons (o:=_) rfl (fun K hK=>?_) AllReadyH.nil;go_simp
 refine hK.out _ _ s0 (fun hHeld=>?_);clear hK K;refine wpAnyH_take (i:=5) (oi:=_) (v:=?_) rfl (by kernel_rfl) (by kernel_rfl) (by kernel_rfl) (fun _ _ _ h=>h) (Or.inl ⟨by rfl,?_⟩) (by assumption) ?_;rotate_left
 ·intro w hSw
  (try dsimp only at hSw)
  go_simp
  (try with_reducible rfl)
 (try simp only[Act.put])
 refine wpAnyH_take (i:=6) (oi:=_) (v:=?_) rfl (by kernel_rfl) (by kernel_rfl) (by kernel_rfl) (fun _ _ _ h=>h) (Or.inl ⟨by rfl,?_⟩) (by assumption) ?_;rotate_left
 ·intro w hSw
  (try dsimp only at hSw)
  go_simp
  (try with_reducible rfl)
 (try simp only[Act.put])
 refine wpAnyH_take (i:=7) (oi:=_) (v:=?_) rfl (by kernel_rfl) (by kernel_rfl) (by kernel_rfl) (fun _ _ _ h=>h) (Or.inl ⟨by rfl,?_⟩) (by assumption) ?_;rotate_left
 ·intro w hSw
  (try dsimp only at hSw)
  go_simp
  (try with_reducible rfl)
 (try simp only[Act.put])
 refine wpAnyH_ready (rs:=[10]) (by kernel_rfl) (by simp) ?_;refine AllReadyH.cons (o:=_) rfl (fun K hK=>?_) AllReadyH.nil;go_simp
 refine hK.out _ _ s0 (fun hHeld=>?_);clear hK K;refine wpAnyH_take (i:=11) (oi:=_) (v:=?_) rfl (by kernel_rfl) (by kernel_rfl) (by kernel_rfl) (fun _ _ _ h=>h) (Or.inl ⟨by rfl,?_⟩) (by assumption) ?_;rotate_left
 ·intro w hSw
  (try dsimp only at hSw)
  go_simp
  (try with_reducible rfl)
 (try simp only[Act.put])
 refine wpAnyH_ready (rs:=[12]) (by kernel_rfl) (by simp) ?_;refine AllReadyH.cons (o:=_) rfl (fun K hK=>?_) AllReadyH.nil;go_simp
 refine (HB.out.full L _ _ x (Sb.hide HS2.out.drew.en)).mono ?_;rintro e w' ⟨rfl,d2,rfl⟩;rw[nk.out];refine hK.out _ _ s0 (fun hHeld=>?_);clear hK K;have uz:=Sb.hide xG.out;cases bb with
 | true =>
  refine wpAnyH_ready (rs:=[13]) (by kernel_rfl) (by simp) ?_;refine AllReadyH.cons (o:=_) rfl (fun K hK=>?_) AllReadyH.nil;go_simp
  refine hK.out _ _ s0 (fun hHeld=>?_);clear hK K;refine wpAnyH_ready (rs:=[14]) (by kernel_rfl) (by simp) ?_;refine AllReadyH.cons (o:=_) rfl (fun K hK=>?_) AllReadyH.nil;go_simp
  refine hK.out _ _ s0 (fun hHeld=>?_);clear hK K;refine wpAnyH_done (by kernel_rfl) ?_ _;clear s0 hHeld hrun;go_wp2
  go_quiet (fail)
  go_wp2
  go_ret2
  refine⟨?_,below_drewN (below_drewN HB2.out _) _⟩;have h1:=uz.out;rw[if_pos trivial] at h1;simp only[Prod.mk.injEq] at h1;rw[h1.1,h1.2,bG.out,Int.toNat_natCast];rfl
 | false =>
  refine wpAnyH_ready (rs:=[13]) (by kernel_rfl) (by simp) ?_;refine AllReadyH.cons (o:=_) rfl (fun K hK=>?_) AllReadyH.nil;go_simp
  refine hK.out _ _ s0 (fun hHeld=>?_);clear hK K;refine wpAnyH_ready (rs:=[14]) (by kernel_rfl) (by simp) ?_;refine AllReadyH.cons (o:=_) rfl (fun K hK=>?_) AllReadyH.nil;go_simp
  refine hK.out _ _ s0 (fun hHeld=>?_);clear hK K;refine wpAnyH_done (by kernel_rfl) ?_ _;clear s0 hHeld hrun bc b1 hnb n0 n1;go_wp2
  go_quiet (fail)
  go_wp2
  go_ret2
  refine⟨?_,below_drewN (below_drewN HB2.out _) _⟩;have h1:=uz.out;rw[if_neg (by simp)] at h1;simp only[Prod.mk.injEq] at h1;rw[h1.1,h1.2];rfl
end
section
variable {β:Type} (E:Env β) (X:gN β) (c:Cx) (vB ev:Value) (o T:Nat) (L:av) (P:Nat→Nat) (w:World) (t:Tk) (x:β) (vR vO:Value) (H:Hid (St E c vB ev o T L P w t x vR vO))
include H
theorem YF (hX:Hid (mq E X c vB))(f:Wk)(rs:List Wk)(u:Un)(i:Ins)(hs:Hid (nu c t f rs u i))(ho:t.over=0)(h27:i.op=27)(bb:Bool)(hbb:Hid (X.empty x i.a.toNat=bb))(s q:Nat)(xG:Hid ((s,q)=if bb=true then (3,i.a.toNat) else (1,0))) :
  Calls Tryz.prog 63 #[.pointer (some ⟨T,0,none⟩)] w fun e w'=>e=.returned (.tuple #[.int .i64 s,.int .i64 q])∧Below w.heap.size w w':=by
 have Ac:=Sb.hide ho;obtain⟨n,hn,hnb⟩:=hs.out.box (.inr h27);obtain⟨b,off,cap,ty,p,fF,fE,fP,fT,hv,hcell,hB⟩:=hX.out.at' n hnb;obtain⟨nb,ow⟩:∃ m,m=c.m.boxes.length:=⟨_,rfl⟩;rw[← ow] at hv hnb;have HV:=Sb.hide hv;have HC:=Sb.hide hcell;have HB:=Sb.hide hB;have bG:=Sb.hide hn;have n0:(0:Int)≤(n:Int):=by omega
 have n1:(n:Int)<(nb:Int):=by omega
 clear hv hcell ow hn;have nk:Hid (X.empty x n=bb):=by unfold Hid;have:=hbb.out;rw[bG.out,Int.toNat_natCast] at this;exact this
 have e26:(i.op==26)=false:=by simp;omega
 have e27:(i.op==27)=true:=by simpa using h27
 have hrun:=hB.Yb;clear ho h27 hB;obtain⟨h,S,g,r,vU,hh,hT,htop⟩:=H.out.at
 have hf:h.fs=f :: rs:=by rw[← htop];exact hs.out.fs
 have d0:=cO H.out;have d6:=(bS H.out.tk.blk).2.2.2.2.2.2.1;rw[Ac.out] at d6;have HF:=Sb.hide hf;have HT:=Sb.hide hT;have bT:=Sb.hide hs.out.un;have dQ:=Sb.hide hs.out.code;have jM:=lt_of_block H.out.tk.blk;clear hf hh hT htop;go_enter Tryz.func63,Tryz.ntmps63
 go_wp2_with fail
 refine (iT c L o t.hand P _ h S g r vU HT (Sb.hide H.out.cx) (Sb.hide H.out.ok) f rs HF u bT i dQ).mono ?_;rintro e w1 ⟨rfl,hb1⟩;have hz1:=hb1.size;have HB2:Hid (Below w.heap.size w (w1.alloc (az i))):=hb1.alloc hb1.size _;have HS2:=Sb.hide (H.out.below HB2.out);have hxb:(w1.alloc (az i)).heap[w1.heap.size]?=some (az i):=heap_alloc_new w1 _;have HXB:=Sb.hide hxb;clear hb1 d0 d6 hxb;have b1:=(bS HS2.out.tk.blk).2.1;rw[HV.out] at b1;have bc:=HC.out _ _ _ _ HS2.out.en;obtain⟨q0,q1,q2⟩:=Og HXB.out;rw[bG.out] at q1;go_wp2
 go_quiet (fail)
 rename_i nq;go_upto_region 6 with fail
 generalize w1.alloc (az i)=W2 at *;have s0:(W2.drew.cell? ⟨w1.heap.size,0,none⟩=some (.int .i64 i.op)∧W2.drew.cell? ⟨w1.heap.size,1,none⟩=some (.int .i64 n))∧W2.drew.cell? ⟨T,1,none⟩=some (.slice (some ⟨b,off,none⟩) nb cap)∧W2.drew.cell? ⟨b,off+n,none⟩=some (.iface ty p):=⟨⟨q0,q1⟩,b1,bc⟩;refine wp_region_held_drew (S:=fun w'=>(w'.cell? ⟨w1.heap.size,0,none⟩=some (.int .i64 i.op)∧w'.cell? ⟨w1.heap.size,1,none⟩=some (.int .i64 n))∧w'.cell? ⟨T,1,none⟩=some (.slice (some ⟨b,off,none⟩) nb cap)∧w'.cell? ⟨b,off+n,none⟩=some (.iface ty p)) (by kernel_rfl) s0 (fun hHeld=>?_);refine wpAnyH_take (i:=0) (oi:=_) (v:=?_) rfl (by kernel_rfl) (by kernel_rfl) (by kernel_rfl) (fun _ _ _ h=>h) (Or.inl ⟨by rfl,?_⟩) (by assumption) ?_;rotate_left
 ·intro w hSw
  (try dsimp only at hSw)
  go_simp
  (try with_reducible rfl)
 (try simp only[Act.put])
 refine wpAnyH_take (i:=1) (oi:=_) (v:=?_) rfl (by kernel_rfl) (by kernel_rfl) (by kernel_rfl) (fun _ _ _ h=>h) (Or.inl ⟨by rfl,?_⟩) (by assumption) ?_;rotate_left
 ·intro w hSw
  (try dsimp only at hSw)
  go_simp
  (try with_reducible rfl)
 (try simp only[Act.put])
 refine wpAnyH_take (i:=2) (oi:=_) (v:=?_) rfl (by kernel_rfl) (by kernel_rfl) (by kernel_rfl) (fun _ _ _ h=>h) (Or.inl ⟨by rfl,?_⟩) (by assumption) ?_;rotate_left
 ·intro w hSw
  (try dsimp only at hSw)
  go_simp
  (try with_reducible rfl)
 (try simp only[Act.put])
 refine wpAnyH_take (i:=3) (oi:=_) (v:=?_) rfl (by kernel_rfl) (by kernel_rfl) (by kernel_rfl) (fun _ _ _ h=>h) (Or.inl ⟨by rfl,?_⟩) (by assumption) ?_;rotate_left
 ·intro w hSw
  (try dsimp only at hSw)
  go_simp
  (try with_reducible rfl)
 (try simp only[Act.put])
 refine wpAnyH_take (i:=8) (oi:=_) (v:=?_) rfl (by kernel_rfl) (by kernel_rfl) (by kernel_rfl) (fun _ _ _ h=>h) (Or.inl ⟨by rfl,?_⟩) (by assumption) ?_;rotate_left
 ·intro w hSw
  (try dsimp only at hSw)
  go_simp
  (try with_reducible rfl)
 (try simp only[Act.put])
 refine wpAnyH_take (i:=9) (oi:=_) (v:=?_) rfl (by kernel_rfl) (by kernel_rfl) (by kernel_rfl) (fun _ _ _ h=>h) (Or.inl ⟨by rfl,?_⟩) (by assumption) ?_;rotate_left
 ·intro w hSw
  (try dsimp only at hSw)
  go_simp
  (try with_reducible rfl)
 (try simp only[Act.put])
 refine wpAnyH_ready (rs:=[4]) (by kernel_rfl) (by simp) ?_;refine AllReadyH.cons (o:=_) rfl (fun K hK=>?_) AllReadyH.nil;go_simp
 refine hK.out _ _ s0 (fun hHeld=>?_);clear hK K;refine wpAnyH_take (i:=5) (oi:=_) (v:=?_) rfl (by kernel_rfl) (by kernel_rfl) (by kernel_rfl) (fun _ _ _ h=>h) (Or.inl ⟨by rfl,?_⟩) (by assumption) ?_;rotate_left
 ·intro w hSw
  (try dsimp only at hSw)
  go_simp
  (try with_reducible rfl)
 (try simp only[Act.put])
 refine wpAnyH_take (i:=6) (oi:=_) (v:=?_) rfl (by kernel_rfl) (by kernel_rfl) (by kernel_rfl) (fun _ _ _ h=>h) (Or.inl ⟨by rfl,?_⟩) (by assumption) ?_;rotate_left
 ·intro w hSw
  (try dsimp only at hSw)
  go_simp
  (try with_reducible rfl)
 (try simp only[Act.put])
 refine wpAnyH_take (i:=7) (oi:=_) (v:=?_) rfl (by kernel_rfl) (by kernel_rfl) (by kernel_rfl) (fun _ _ _ h=>h) (Or.inl ⟨by rfl,?_⟩) (by assumption) ?_;rotate_left
 ·intro w hSw
  (try dsimp only at hSw)
  go_simp
  (try with_reducible rfl)
 (try simp only[Act.put])
 refine wpAnyH_ready (rs:=[10]) (by kernel_rfl) (by simp) ?_;refine AllReadyH.cons (o:=_) rfl (fun K hK=>?_) AllReadyH.nil;go_simp
 refine hK.out _ _ s0 (fun hHeld=>?_);clear hK K;refine wpAnyH_take (i:=11) (oi:=_) (v:=?_) rfl (by kernel_rfl) (by kernel_rfl) (by kernel_rfl) (fun _ _ _ h=>h) (Or.inl ⟨by rfl,?_⟩) (by assumption) ?_;rotate_left
 ·intro w hSw
  (try dsimp only at hSw)
  go_simp
  (try with_reducible rfl)
 (try simp only[Act.put])
 refine wpAnyH_ready (rs:=[12]) (by kernel_rfl) (by simp) ?_;refine AllReadyH.cons (o:=_) rfl (fun K hK=>?_) AllReadyH.nil;go_simp
 refine (HB.out.empty L _ _ x (Sb.hide (HS2.out.below (below_drewN (Below.refl _ _) nq)).drew.en)).mono ?_;rintro e w' ⟨rfl,d2,rfl⟩;rw[nk.out];refine hK.out _ _ s0 (fun hHeld=>?_);clear hK K;have uz:=Sb.hide xG.out;cases bb with
 | true =>
  refine wpAnyH_ready (rs:=[13]) (by kernel_rfl) (by simp) ?_;refine AllReadyH.cons (o:=_) rfl (fun K hK=>?_) AllReadyH.nil;go_simp
  refine hK.out _ _ s0 (fun hHeld=>?_);clear hK K;refine wpAnyH_ready (rs:=[14]) (by kernel_rfl) (by simp) ?_;refine AllReadyH.cons (o:=_) rfl (fun K hK=>?_) AllReadyH.nil;go_simp
  refine hK.out _ _ s0 (fun hHeld=>?_);clear hK K;refine wpAnyH_done (by kernel_rfl) ?_ _;clear s0 hHeld hrun;go_wp2
  go_quiet (fail)
  go_wp2
  go_ret2
  refine⟨?_,⟨HB2.out.os,HB2.out.tape,HB2.out.output,HB2.out.size,HB2.out.block⟩⟩;have h1:=uz.out;rw[if_pos trivial] at h1;simp only[Prod.mk.injEq] at h1;rw[h1.1,h1.2,bG.out,Int.toNat_natCast];rfl
 | false =>
  refine wpAnyH_ready (rs:=[13]) (by kernel_rfl) (by simp) ?_;refine AllReadyH.cons (o:=_) rfl (fun K hK=>?_) AllReadyH.nil;go_simp
  refine hK.out _ _ s0 (fun hHeld=>?_);clear hK K;refine wpAnyH_ready (rs:=[14]) (by kernel_rfl) (by simp) ?_;refine AllReadyH.cons (o:=_) rfl (fun K hK=>?_) AllReadyH.nil;go_simp
  refine hK.out _ _ s0 (fun hHeld=>?_);clear hK K;refine wpAnyH_done (by kernel_rfl) ?_ _;clear s0 hHeld hrun bc b1 hnb n0 n1;go_wp2
  go_ret2
  refine⟨?_,⟨HB2.out.os,HB2.out.tape,HB2.out.output,HB2.out.size,HB2.out.block⟩⟩;have h1:=uz.out;rw[if_neg (by simp)] at h1;simp only[Prod.mk.injEq] at h1;rw[h1.1,h1.2];rfl
theorem Oh (hX:Hid (mq E X c vB))(hs:Hid (t.over=0→∃ f rs u i,nu c t f rs u i)) :
  Calls Tryz.prog 63 #[.pointer (some ⟨T,0,none⟩)] w fun e w'=>e=.returned (.tuple #[.int .i64 (stat X c.m t x).1,.int .i64 (stat X c.m t x).2])∧Below w.heap.size w w':=by
 by_cases ho:t.over=0
 ·obtain⟨f,rs,u,i,h⟩:=hs.out ho
  have hi:=h.ins;unfold stat;rw[if_neg (by omega),hi];by_cases bR:i.op=26
  ·refine (YE E X c vB ev o T L P w t x vR vO H hX f rs u i h ho bR (X.full x i.a.toNat) (Sb.hide rfl) _ _ (Sb.hide rfl)).mono ?_
   rintro e w' ⟨rfl,hb⟩;refine⟨?_,hb⟩;cases hf:X.full x i.a.toNat with
   | true=>rw[if_pos ⟨bR,rfl⟩];rfl
   | false=>rw[if_neg (by simp),if_neg (by omega)];rfl
  ·rw[if_neg (fun hx=>bR hx.1)]
   by_cases h27:i.op=27
   ·refine (YF E X c vB ev o T L P w t x vR vO H hX f rs u i h ho h27 (X.empty x i.a.toNat) (Sb.hide rfl) _ _ (Sb.hide rfl)).mono ?_
    rintro e w' ⟨rfl,hb⟩;refine⟨?_,hb⟩;cases hf:X.empty x i.a.toNat with
    | true=>rw[if_pos ⟨h27,rfl⟩];rfl
    | false=>rw[if_neg (by simp)];rfl
   ·rw[if_neg (fun hx=>h27 hx.1)]
    exact YD E c vB ev o T L P w t x vR vO H f rs u i h ho bR h27
 ·unfold stat
  rw[if_pos ho];exact YC E c vB ev o T L P w t x vR vO H ho
theorem Dy (hX:Hid (mq E X c vB))(hs:Hid (t.over=0→∃ f rs u i,nu c t f rs u i))(b:Bool)(hb:Hid (b=((stat X c.m t x).1==1))) :
  Calls Tryz.prog 60 #[.pointer (some ⟨T,0,none⟩)] w fun e w'=>e=.returned (.bool b)∧Below w.heap.size w w':=by
 obtain⟨s,hs1⟩:∃ s,s=(stat X c.m t x).1:=⟨_,rfl⟩;obtain⟨q,hq1⟩:∃ q,q=(stat X c.m t x).2:=⟨_,rfl⟩;have HS:=Sb.hide hs1;have HQ:=Sb.hide hq1;have e1:((s:Int)==1)=b:=by rw[hb.out,← hs1,Bool.eq_iff_iff];simp;omega
 clear hs1 hq1;go_enter Tryz.func60,Tryz.ntmps60
 go_wp2_with fail
 refine (Oh E X c vB ev o T L P _ t x vR vO H hX hs).mono ?_;rintro e w1 ⟨rfl,hb1⟩;rw[← HS.out,← HQ.out];have HB1:=Sb.hide hb1;clear hb1;go_wp2
 go_ret
 exact⟨rfl,HB1.out⟩
end
end Go.Proofs.YtfcpglhpolpdcaaGreatDoor.Vw

/- The walk of step: jumps,boxes,what is put out,what speaks. -/
import Derived.Test.YtfcpglhpolpdcaaGreatDoorM14
set_option maxRecDepth 100000
set_option maxHeartbeats 4000000
namespace Go.Proofs.YtfcpglhpolpdcaaGreatDoor.Vw
open Go.RowKit Vf Vm
section
variable {β:Type} (E:Env β) (X:gN β) (c:Cx) (vB:Value) (N:Nat) (af:Array Value) (hN:Hid (jl E c N af)) (o T:Nat) (L:av) (P:Nat→Nat) (w:World) (t:Tk) (x:β) (vR vO:Value) (H:Hid (St E c vB (.func (.func N) #[] af) o T L P w t x vR vO))
include hN H
theorem Yn (f:Wk)(rs:List Wk)(u:Un)(i:Ins)(hs:Hid (jN X c t x f rs u i))(ho:i.op=21) :
  Calls Tryz.prog 101 #[.pointer (some ⟨T,0,none⟩)] w fun e w'=>e=.returned (.tuple #[])∧aS E c vB (.func (.func N) #[] af) o T L w w' ((t.goto (f.pc+1)).goto i.a.toNat) x:=by
 have _:=hN;have e1:(i.op==1)=false:=by simp;omega
 have e2:(i.op==2)=false:=by simp;omega
 have e3:(i.op==3)=false:=by simp;omega
 have e4:(i.op==4)=false:=by simp;omega
 have e5:(i.op==5)=false:=by simp;omega
 have e6:(i.op==6)=false:=by simp;omega
 have e7:(i.op==7)=false:=by simp;omega
 have e21:(i.op==21)=true:=by simpa using ho
 have ha:=hs.out.jump (.inl ho);obtain⟨n,hn⟩:∃ n:Nat,i.a=n:=⟨i.a.toNat,by omega⟩;have bG:=Sb.hide hn;clear ho ha hn;obtain⟨h,S,g,r,vU,hh,hT,htop⟩:=H.out.at
 have hf:h.fs=f :: rs:=by rw[← htop];exact hs.out.fs
 obtain⟨U,cap,cur,hU,cB,_⟩:=hT.work hf;have hUz:=lt_of_block cB;have d0:=cO H.out;have hpc:=hs.out.pc;have HF:=Sb.hide hf;have HU:=Sb.hide hU;have HH:=Sb.hide hh;have HT:=Sb.hide hT;have bT:=Sb.hide hs.out.un;have dQ:=Sb.hide hs.out.code;clear hf hU hh hT cB htop;go_enter Tryz.func101,Tryz.ntmps101
 go_wp2_with fail
 refine (iT c L o t.hand P _ h S g r vU HT (Sb.hide H.out.cx) (Sb.hide H.out.ok) f rs HF u bT i dQ).mono ?_;rintro e w1 ⟨rfl,hb1⟩;have hz1:=hb1.size;have HT2:Hid (aD c L o t.hand P (w1.alloc (az i)) h S g r vU):=HT.out.keep (.refl _ _) rfl rfl (fun b hb _=>(Below.heap_alloc _ _ _ (by omega)).trans (hb1.block b hb));have HS2:Hid (St E c vB (.func (.func N) #[] af) o T L P (w1.alloc (az i)) t x vR vO):=H.out.below (hb1.alloc hb1.size _);have HB2:Hid (Below w.heap.size w (w1.alloc (az i))):=hb1.alloc hb1.size _;have dP:¬ w1.heap.size=U:=by omega
 have ni:¬ U=w1.heap.size:=by omega
 clear hb1 d0;go_wp2_with fail
 refine (kT c L o t.hand P _ h S g r vU HT2 f rs HF U cap HU).mono ?_;rintro e w' ⟨rfl,d,rfl⟩;obtain⟨k0,k1,k2,k3⟩:=(HT2.out.drewN d).inner HF.out HU.out;obtain⟨L3,s3,t3,q3,c3⟩:=(HS2.out.below (below_drewN (Below.refl _ _) d)).goto HH.out (HT2.out.drewN d) HF.out HU.out (f.pc+1);have ecast:((f.pc+1:Nat):Int)=(f.pc:Int)+1:=by omega
 rw[ecast] at s3 t3 c3;have y0:(((w1.alloc (az i)).drewN d).setCell ⟨U,rs.length * 3+1,none⟩ (.int .i64 ((f.pc:Int)+1))).heap[w1.heap.size]?=some (az i):=(Below.heap_setCell _ ⟨U,rs.length * 3+1,none⟩ _ _ (by show w1.heap.size≠U;exact dP)).trans (heap_alloc_new w1 _);have S3:=Sb.hide s3;have T3:=Sb.hide t3;have E3:=Sb.hide q3;have C3:=Sb.hide c3;have HX0:=Sb.hide y0;have cZ:Hid (Below w.heap.size w ((w1.alloc (az i)).drewN d)):=below_drewN HB2.out d;clear s3 t3 q3 c3 y0 ecast;obtain⟨t1,ht1⟩:∃ t1,t1=t.goto (f.pc+1):=⟨_,rfl⟩;rw[← ht1] at S3;have bW:Hid (t1.log.length≤2000000):=by unfold Hid;rw[ht1];exact hs.out.log
 have HT1:=Sb.hide ht1;clear ht1;have hf1:({ h with fs:={ f with pc:=f.pc+1 } :: rs }:Th).fs={ f with pc:=f.pc+1 } :: rs:=rfl;have jL:t1.ae[t1.hand]?=some { h with fs:={ f with pc:=f.pc+1 } :: rs }:=by rw[HT1.out,qD HH.out HF.out];simp[Tk.set,gB HH.out]
 have hhd:t1.hand=t.hand:=by rw[HT1.out];rfl
 obtain⟨L5,s5,_,q5,c5⟩:=S3.out.goto jL (by rw[hhd];exact T3.out) hf1 HU.out n;rw[← bG.out] at s5 c5;have HW:=Sb.hide (((o8.toW ⟨L5,s5,q5,c5⟩).trans E3.out C3.out).under cZ.out);have frU:=(T3.out.inner rfl HU.out).2.2.2;have k1':=(T3.out.inner rfl HU.out).2.1;clear s5 q5 c5 hf1 jL;go_wp2
 go_end0
 refine⟨rfl,?_⟩;have hn:i.a.toNat=n:=by rw[bG.out];rfl
 rw[← HT1.out,hn];exact HW.out
theorem Yo (hX:Hid (mq E X c vB))(f:Wk)(rs:List Wk)(u:Un)(i:Ins)(hs:Hid (jN X c t x f rs u i))(ho:i.op=26) :
  Calls Tryz.prog 101 #[.pointer (some ⟨T,0,none⟩)] w fun e w'=>e=.returned (.tuple #[])∧aS E c vB (.func (.func N) #[] af) o T L w w' ((t.goto (f.pc+1)).cut.note ⟨2,i.a,(t.goto (f.pc+1)).last⟩) (X.put x i.a.toNat (t.goto (f.pc+1)).last):=by
 have e1:(i.op==1)=false:=by simp;omega
 have e2:(i.op==2)=false:=by simp;omega
 have e3:(i.op==3)=false:=by simp;omega
 have e4:(i.op==4)=false:=by simp;omega
 have e5:(i.op==5)=false:=by simp;omega
 have e6:(i.op==6)=false:=by simp;omega
 have e7:(i.op==7)=false:=by simp;omega
 have e21:(i.op==21)=false:=by simp;omega
 have e22:(i.op==22)=false:=by simp;omega
 have e26:(i.op==26)=true:=by simpa using ho
 obtain⟨n,hn,hnb,hfl⟩:=hs.out.send ho;have bG:=Sb.hide hn;have nk:=Sb.hide hfl;clear ho hn hfl;obtain⟨h,S,g,r,vU,hh,hT,htop⟩:=H.out.at
 have hf:h.fs=f :: rs:=by rw[← htop];exact hs.out.fs
 obtain⟨U,cap,cur,hU,cB,_⟩:=hT.work hf;have hUz:=lt_of_block cB;have d0:=cO H.out;have hpc:=hs.out.pc;have HF:=Sb.hide hf;have HU:=Sb.hide hU;have HH:=Sb.hide hh;have HT:=Sb.hide hT;have bT:=Sb.hide hs.out.un;have dQ:=Sb.hide hs.out.code;clear hf hU hh hT cB htop;go_enter Tryz.func101,Tryz.ntmps101
 go_wp2_with fail
 refine (iT c L o t.hand P _ h S g r vU HT (Sb.hide H.out.cx) (Sb.hide H.out.ok) f rs HF u bT i dQ).mono ?_;rintro e w1 ⟨rfl,hb1⟩;have hz1:=hb1.size;have HT2:Hid (aD c L o t.hand P (w1.alloc (az i)) h S g r vU):=HT.out.keep (.refl _ _) rfl rfl (fun b hb _=>(Below.heap_alloc _ _ _ (by omega)).trans (hb1.block b hb));have HS2:Hid (St E c vB (.func (.func N) #[] af) o T L P (w1.alloc (az i)) t x vR vO):=H.out.below (hb1.alloc hb1.size _);have HB2:Hid (Below w.heap.size w (w1.alloc (az i))):=hb1.alloc hb1.size _;have dP:¬ w1.heap.size=U:=by omega
 have ni:¬ U=w1.heap.size:=by omega
 clear hb1 d0;go_wp2_with fail
 refine (kT c L o t.hand P _ h S g r vU HT2 f rs HF U cap HU).mono ?_;rintro e w' ⟨rfl,d,rfl⟩;obtain⟨k0,k1,k2,k3⟩:=(HT2.out.drewN d).inner HF.out HU.out;obtain⟨L3,s3,t3,q3,c3⟩:=(HS2.out.below (below_drewN (Below.refl _ _) d)).goto HH.out (HT2.out.drewN d) HF.out HU.out (f.pc+1);have ecast:((f.pc+1:Nat):Int)=(f.pc:Int)+1:=by omega
 rw[ecast] at s3 t3 c3;have y0:(((w1.alloc (az i)).drewN d).setCell ⟨U,rs.length * 3+1,none⟩ (.int .i64 ((f.pc:Int)+1))).heap[w1.heap.size]?=some (az i):=(Below.heap_setCell _ ⟨U,rs.length * 3+1,none⟩ _ _ (by show w1.heap.size≠U;exact dP)).trans (heap_alloc_new w1 _);have S3:=Sb.hide s3;have T3:=Sb.hide t3;have E3:=Sb.hide q3;have C3:=Sb.hide c3;have HX0:=Sb.hide y0;have cZ:Hid (Below w.heap.size w ((w1.alloc (az i)).drewN d)):=below_drewN HB2.out d;clear s3 t3 q3 c3 y0 ecast;obtain⟨t1,ht1⟩:∃ t1,t1=t.goto (f.pc+1):=⟨_,rfl⟩;rw[← ht1] at S3;have bW:Hid (t1.log.length≤2000000):=by unfold Hid;rw[ht1];exact hs.out.log
 have HT1:=Sb.hide ht1;clear ht1;go_wp2_with fail
 rw[bG.out];refine (Yd E X c vB hX N af hN o T L3 P _ t1 x vR vO S3 bW n hnb nk).mono ?_;rintro e w3 ⟨rfl,hW⟩;have HW:=Sb.hide ((hW.trans E3.out C3.out).under cZ.out);clear hW;go_wp2
 go_end0
 refine⟨rfl,?_⟩;rw[← HT1.out,bG.out,Int.toNat_natCast];exact HW.out
theorem Yp (hX:Hid (mq E X c vB))(f:Wk)(rs:List Wk)(u:Un)(i:Ins)(hs:Hid (jN X c t x f rs u i))(ho:i.op=27) :
  Calls Tryz.prog 101 #[.pointer (some ⟨T,0,none⟩)] w fun e w'=>e=.returned (.tuple #[])∧aS E c vB (.func (.func N) #[] af) o T L w w' (((t.goto (f.pc+1)).note ⟨3,i.a,X.head x i.a.toNat⟩).put (X.head x i.a.toNat)) (X.take x i.a.toNat):=by
 have e1:(i.op==1)=false:=by simp;omega
 have e2:(i.op==2)=false:=by simp;omega
 have e3:(i.op==3)=false:=by simp;omega
 have e4:(i.op==4)=false:=by simp;omega
 have e5:(i.op==5)=false:=by simp;omega
 have e6:(i.op==6)=false:=by simp;omega
 have e7:(i.op==7)=false:=by simp;omega
 have e21:(i.op==21)=false:=by simp;omega
 have e22:(i.op==22)=false:=by simp;omega
 have e26:(i.op==26)=false:=by simp;omega
 have e27:(i.op==27)=true:=by simpa using ho
 obtain⟨n,hn,hnb,hfl⟩:=hs.out.recv ho;have bG:=Sb.hide hn;have nk:=Sb.hide hfl;clear ho hn hfl;obtain⟨h,S,g,r,vU,hh,hT,htop⟩:=H.out.at
 have hf:h.fs=f :: rs:=by rw[← htop];exact hs.out.fs
 obtain⟨U,cap,cur,hU,cB,_⟩:=hT.work hf;have hUz:=lt_of_block cB;have d0:=cO H.out;have hpc:=hs.out.pc;have HF:=Sb.hide hf;have HU:=Sb.hide hU;have HH:=Sb.hide hh;have HT:=Sb.hide hT;have bT:=Sb.hide hs.out.un;have dQ:=Sb.hide hs.out.code;clear hf hU hh hT cB htop;go_enter Tryz.func101,Tryz.ntmps101
 go_wp2_with fail
 refine (iT c L o t.hand P _ h S g r vU HT (Sb.hide H.out.cx) (Sb.hide H.out.ok) f rs HF u bT i dQ).mono ?_;rintro e w1 ⟨rfl,hb1⟩;have hz1:=hb1.size;have HT2:Hid (aD c L o t.hand P (w1.alloc (az i)) h S g r vU):=HT.out.keep (.refl _ _) rfl rfl (fun b hb _=>(Below.heap_alloc _ _ _ (by omega)).trans (hb1.block b hb));have HS2:Hid (St E c vB (.func (.func N) #[] af) o T L P (w1.alloc (az i)) t x vR vO):=H.out.below (hb1.alloc hb1.size _);have HB2:Hid (Below w.heap.size w (w1.alloc (az i))):=hb1.alloc hb1.size _;have dP:¬ w1.heap.size=U:=by omega
 have ni:¬ U=w1.heap.size:=by omega
 clear hb1 d0;go_wp2_with fail
 refine (kT c L o t.hand P _ h S g r vU HT2 f rs HF U cap HU).mono ?_;rintro e w' ⟨rfl,d,rfl⟩;obtain⟨k0,k1,k2,k3⟩:=(HT2.out.drewN d).inner HF.out HU.out;obtain⟨L3,s3,t3,q3,c3⟩:=(HS2.out.below (below_drewN (Below.refl _ _) d)).goto HH.out (HT2.out.drewN d) HF.out HU.out (f.pc+1);have ecast:((f.pc+1:Nat):Int)=(f.pc:Int)+1:=by omega
 rw[ecast] at s3 t3 c3;have y0:(((w1.alloc (az i)).drewN d).setCell ⟨U,rs.length * 3+1,none⟩ (.int .i64 ((f.pc:Int)+1))).heap[w1.heap.size]?=some (az i):=(Below.heap_setCell _ ⟨U,rs.length * 3+1,none⟩ _ _ (by show w1.heap.size≠U;exact dP)).trans (heap_alloc_new w1 _);have S3:=Sb.hide s3;have T3:=Sb.hide t3;have E3:=Sb.hide q3;have C3:=Sb.hide c3;have HX0:=Sb.hide y0;have cZ:Hid (Below w.heap.size w ((w1.alloc (az i)).drewN d)):=below_drewN HB2.out d;clear s3 t3 q3 c3 y0 ecast;obtain⟨t1,ht1⟩:∃ t1,t1=t.goto (f.pc+1):=⟨_,rfl⟩;rw[← ht1] at S3;have bW:Hid (t1.log.length≤2000000):=by unfold Hid;rw[ht1];exact hs.out.log
 have HT1:=Sb.hide ht1;clear ht1;go_wp2_with fail
 rw[bG.out];refine (Yf E X c vB hX N af hN o T L3 P _ t1 x vR vO S3 bW n hnb nk).mono ?_;rintro e w3 ⟨rfl,hW⟩;have HW:=Sb.hide ((hW.trans E3.out C3.out).under cZ.out);clear hW;go_wp2
 go_end0
 refine⟨rfl,?_⟩;rw[← HT1.out,bG.out,Int.toNat_natCast];exact HW.out
theorem Yq (f:Wk)(rs:List Wk)(u:Un)(i:Ins)(hs:Hid (jN X c t x f rs u i))(ho:i.op=28) :
  Calls Tryz.prog 101 #[.pointer (some ⟨T,0,none⟩)] w fun e w'=>e=.returned (.tuple #[])∧aS E c vB (.func (.func N) #[] af) o T L w w' (({ (t.goto (f.pc+1)).cut with out:=(t.goto (f.pc+1)).out++[(t.goto (f.pc+1)).last] }:Tk).note ⟨1,0,(t.goto (f.pc+1)).last⟩) x:=by
 have e1:(i.op==1)=false:=by simp;omega
 have e2:(i.op==2)=false:=by simp;omega
 have e3:(i.op==3)=false:=by simp;omega
 have e4:(i.op==4)=false:=by simp;omega
 have e5:(i.op==5)=false:=by simp;omega
 have e6:(i.op==6)=false:=by simp;omega
 have e7:(i.op==7)=false:=by simp;omega
 have e21:(i.op==21)=false:=by simp;omega
 have e22:(i.op==22)=false:=by simp;omega
 have e26:(i.op==26)=false:=by simp;omega
 have e27:(i.op==27)=false:=by simp;omega
 have e28:(i.op==28)=true:=by simpa using ho
 have Yr:=Sb.hide hs.out.out;clear ho;obtain⟨h,S,g,r,vU,hh,hT,htop⟩:=H.out.at
 have hf:h.fs=f :: rs:=by rw[← htop];exact hs.out.fs
 obtain⟨U,cap,cur,hU,cB,_⟩:=hT.work hf;have hUz:=lt_of_block cB;have d0:=cO H.out;have hpc:=hs.out.pc;have HF:=Sb.hide hf;have HU:=Sb.hide hU;have HH:=Sb.hide hh;have HT:=Sb.hide hT;have bT:=Sb.hide hs.out.un;have dQ:=Sb.hide hs.out.code;clear hf hU hh hT cB htop;go_enter Tryz.func101,Tryz.ntmps101
 go_wp2_with fail
 refine (iT c L o t.hand P _ h S g r vU HT (Sb.hide H.out.cx) (Sb.hide H.out.ok) f rs HF u bT i dQ).mono ?_;rintro e w1 ⟨rfl,hb1⟩;have hz1:=hb1.size;have HT2:Hid (aD c L o t.hand P (w1.alloc (az i)) h S g r vU):=HT.out.keep (.refl _ _) rfl rfl (fun b hb _=>(Below.heap_alloc _ _ _ (by omega)).trans (hb1.block b hb));have HS2:Hid (St E c vB (.func (.func N) #[] af) o T L P (w1.alloc (az i)) t x vR vO):=H.out.below (hb1.alloc hb1.size _);have HB2:Hid (Below w.heap.size w (w1.alloc (az i))):=hb1.alloc hb1.size _;have dP:¬ w1.heap.size=U:=by omega
 have ni:¬ U=w1.heap.size:=by omega
 clear hb1 d0;go_wp2_with fail
 refine (kT c L o t.hand P _ h S g r vU HT2 f rs HF U cap HU).mono ?_;rintro e w' ⟨rfl,d,rfl⟩;obtain⟨k0,k1,k2,k3⟩:=(HT2.out.drewN d).inner HF.out HU.out;obtain⟨L3,s3,t3,q3,c3⟩:=(HS2.out.below (below_drewN (Below.refl _ _) d)).goto HH.out (HT2.out.drewN d) HF.out HU.out (f.pc+1);have ecast:((f.pc+1:Nat):Int)=(f.pc:Int)+1:=by omega
 rw[ecast] at s3 t3 c3;have y0:(((w1.alloc (az i)).drewN d).setCell ⟨U,rs.length * 3+1,none⟩ (.int .i64 ((f.pc:Int)+1))).heap[w1.heap.size]?=some (az i):=(Below.heap_setCell _ ⟨U,rs.length * 3+1,none⟩ _ _ (by show w1.heap.size≠U;exact dP)).trans (heap_alloc_new w1 _);have S3:=Sb.hide s3;have T3:=Sb.hide t3;have E3:=Sb.hide q3;have C3:=Sb.hide c3;have HX0:=Sb.hide y0;have cZ:Hid (Below w.heap.size w ((w1.alloc (az i)).drewN d)):=below_drewN HB2.out d;clear s3 t3 q3 c3 y0 ecast;obtain⟨t1,ht1⟩:∃ t1,t1=t.goto (f.pc+1):=⟨_,rfl⟩;rw[← ht1] at S3;have bW:Hid (t1.log.length≤2000000):=by unfold Hid;rw[ht1];exact hs.out.log
 have HT1:=Sb.hide ht1;clear ht1;have Yt:Hid (t1.out.length≤1000000):=by unfold Hid;rw[HT1.out];exact Yr.out
 go_wp2_with fail
 refine (X8 E c vB N af hN o T L3 P _ t1 x vR vO S3 bW Yt.out).mono ?_;rintro e w3 ⟨rfl,hW⟩;have HW:=Sb.hide ((hW.trans E3.out C3.out).under cZ.out);clear hW;go_wp2
 go_end0
 refine⟨rfl,?_⟩;rw[← HT1.out];exact HW.out
theorem Yu (f:Wk)(rs:List Wk)(u:Un)(i:Ins)(hs:Hid (jN X c t x f rs u i))(ho:8≤i.op∧i.op≤20∨i.op=23∨i.op=24∨i.op=25∨i.op=29∨i.op=30∨i.op=31∨i.op=32) :
  Calls Tryz.prog 101 #[.pointer (some ⟨T,0,none⟩)] w fun e w'=>e=.returned (.tuple #[])∧aS E c vB (.func (.func N) #[] af) o T L w w' (qH c.m i (t.goto (f.pc+1))) x:=by
 have e1:(i.op==1)=false:=by simp;omega
 have e2:(i.op==2)=false:=by simp;omega
 have e3:(i.op==3)=false:=by simp;omega
 have e4:(i.op==4)=false:=by simp;omega
 have e5:(i.op==5)=false:=by simp;omega
 have e6:(i.op==6)=false:=by simp;omega
 have e7:(i.op==7)=false:=by simp;omega
 have e21:(i.op==21)=false:=by simp;omega
 have e22:(i.op==22)=false:=by simp;omega
 have e26:(i.op==26)=false:=by simp;omega
 have e27:(i.op==27)=false:=by simp;omega
 have e28:(i.op==28)=false:=by simp;omega
 have HO:=Sb.hide ho;have nX:=Sb.hide hs.out.qH;clear ho;obtain⟨h,S,g,r,vU,hh,hT,htop⟩:=H.out.at
 have hf:h.fs=f :: rs:=by rw[← htop];exact hs.out.fs
 obtain⟨U,cap,cur,hU,cB,_⟩:=hT.work hf;have hUz:=lt_of_block cB;have d0:=cO H.out;have hpc:=hs.out.pc;have HF:=Sb.hide hf;have HU:=Sb.hide hU;have HH:=Sb.hide hh;have HT:=Sb.hide hT;have bT:=Sb.hide hs.out.un;have dQ:=Sb.hide hs.out.code;clear hf hU hh hT cB htop;go_enter Tryz.func101,Tryz.ntmps101
 go_wp2_with fail
 refine (iT c L o t.hand P _ h S g r vU HT (Sb.hide H.out.cx) (Sb.hide H.out.ok) f rs HF u bT i dQ).mono ?_;rintro e w1 ⟨rfl,hb1⟩;have hz1:=hb1.size;have HT2:Hid (aD c L o t.hand P (w1.alloc (az i)) h S g r vU):=HT.out.keep (.refl _ _) rfl rfl (fun b hb _=>(Below.heap_alloc _ _ _ (by omega)).trans (hb1.block b hb));have HS2:Hid (St E c vB (.func (.func N) #[] af) o T L P (w1.alloc (az i)) t x vR vO):=H.out.below (hb1.alloc hb1.size _);have HB2:Hid (Below w.heap.size w (w1.alloc (az i))):=hb1.alloc hb1.size _;have dP:¬ w1.heap.size=U:=by omega
 have ni:¬ U=w1.heap.size:=by omega
 clear hb1 d0;go_wp2_with fail
 refine (kT c L o t.hand P _ h S g r vU HT2 f rs HF U cap HU).mono ?_;rintro e w' ⟨rfl,d,rfl⟩;obtain⟨k0,k1,k2,k3⟩:=(HT2.out.drewN d).inner HF.out HU.out;obtain⟨L3,s3,t3,q3,c3⟩:=(HS2.out.below (below_drewN (Below.refl _ _) d)).goto HH.out (HT2.out.drewN d) HF.out HU.out (f.pc+1);have ecast:((f.pc+1:Nat):Int)=(f.pc:Int)+1:=by omega
 rw[ecast] at s3 t3 c3;have y0:(((w1.alloc (az i)).drewN d).setCell ⟨U,rs.length * 3+1,none⟩ (.int .i64 ((f.pc:Int)+1))).heap[w1.heap.size]?=some (az i):=(Below.heap_setCell _ ⟨U,rs.length * 3+1,none⟩ _ _ (by show w1.heap.size≠U;exact dP)).trans (heap_alloc_new w1 _);have S3:=Sb.hide s3;have T3:=Sb.hide t3;have E3:=Sb.hide q3;have C3:=Sb.hide c3;have HX0:=Sb.hide y0;have cZ:Hid (Below w.heap.size w ((w1.alloc (az i)).drewN d)):=below_drewN HB2.out d;clear s3 t3 q3 c3 y0 ecast;obtain⟨t1,ht1⟩:∃ t1,t1=t.goto (f.pc+1):=⟨_,rfl⟩;rw[← ht1] at S3;have bW:Hid (t1.log.length≤2000000):=by unfold Hid;rw[ht1];exact hs.out.log
 have HT1:=Sb.hide ht1;clear ht1;have Yv:Hid (Hl c t1 i):=by unfold Hid;rw[HT1.out];exact nX.out
 go_wp2_with fail
 refine (Hm E c vB N af hN o T L3 P _ t1 x vR vO S3 bW i Yv HO.out).mono ?_;rintro e w3 ⟨rfl,hW⟩;have HW:=Sb.hide ((hW.trans E3.out C3.out).under cZ.out);clear hW;go_wp2
 go_end0
 refine⟨rfl,?_⟩;rw[← HT1.out];exact HW.out
end
theorem Yw (c:Cx)(L:av)(o i:Nat)(P:Nat→Nat)(w:World)(h:Th)(S g r:Nat)(vU:Value)(H:Hid (aD c L o i P w h S g r vU))(hL:Hid (bF c.B L w))(k:Nat)(v:Int) :
  Calls Tryz.prog 147 #[.pointer (some ⟨S,0,none⟩),.int .i64 k,.int .i64 v] w fun e w'=>(∃ x,e=.returned (.int .i64 x))∧iG c L o i P w w' { h with ws:=h.ws.set k v } S vU:=by
 by_cases hk:k<h.ws.length
 ·refine (Sb.WE S g h.ws r 8 400 k v w H.out.stack hk).mono ?_
  rintro e w' ⟨rfl,hS',hM⟩;exact⟨⟨_,rfl⟩,H.out.zy hL.out hS' hM (.inl rfl)⟩
 ·refine (WN S g h.ws r 8 400 k v w H.out.stack (.inr (by omega))).mono ?_
  rintro e w' ⟨rfl,rfl⟩;have e1:h.ws.set k v=h.ws:=List.set_eq_of_length_le (by omega);rw[e1];exact⟨⟨_,rfl⟩,iG.of_same H.out hL.out 0⟩
section
variable {β:Type} {E:Env β} {c:Cx} {vB ev:Value} {o T:Nat} {L L1:av} {P:Nat→Nat} {w w1 w2:World} {t:Tk} {x:β} {vR vO:Value}
theorem St.N9 (H:St E c vB ev o T L P w t x vR vO){i:Nat}{h h':Th}(hh:t.ae[i]?=some h){L':av}{S g r:Nat}{vU:Value}(hT:aD c L' o i P w1 h' S g r vU)(hE:Ex o i L L' w)(hL:bF c.B L' w1)(hC:aQ (dn L o i) w w1):St E c vB ev o T L' P w1 (t.set i h') x vR vO∧iI o L L' w∧aQ (WB L o) w w1:=by
 have hil:=(List.getElem?_eq_some_iff.1 hh).1;have hW:aQ (WB L o) w w1:=hC.mono (fun b _ hx=>.inl ⟨hx.1,hx.2.1⟩);have blk:∀ b,b<w.heap.size→¬ dn L o i b→w1.heap[b]?=w.heap[b]?:=hC.block;have k0:∀ {b p:Nat},L b=⟨1,o,0,p⟩→¬ dn L o i b:=fun e hx=>by unfold dn at hx;rw[e] at hx;cases hx.2.2
 refine⟨⟨⟨?_,?_,?_,fun j hj qB=>?_,by simpa[Tk.set] using H.tk.few,by simpa[Tk.set] using H.tk.hand,(hE.1 _ (lt_of_block H.tk.blk)).trans H.tk.lT,fun b hb=>(hE.1 _ (H.tk.rows.lt b hb).2).trans (H.tk.lR b hb),fun b hb=>(hE.1 _ (H.tk.out.lt b hb).2).trans (H.tk.lO b hb),fun b h1 h2=>?_⟩,?_,hL,H.cx.ui H.ok hW⟩,⟨hE.1,fun b=>?_⟩,hW⟩
 ·exact (blk _ (lt_of_block H.tk.blk) (k0 H.tk.lT)).trans H.tk.blk
 ·have:(t.set i h').ae.length=t.ae.length:=by simp[Tk.set]
  rw[this];exact bA H.tk.rows (fun b hb=>blk b (H.tk.rows.lt b hb).2 (k0 (H.tk.lR b hb)))
 ·exact bA H.tk.out (fun b hb=>blk b (H.tk.out.lt b hb).2 (k0 (H.tk.lO b hb)))
 ·by_cases e:j=i
  ·subst e
   simp only[Tk.set,List.getElem?_set_self hil,Option.some.injEq] at qB;subst qB;exact⟨S,g,r,vU,hT⟩
  ·simp only[Tk.set,List.getElem?_set_ne (fun e2=>e e2.symm)] at qB
   obtain⟨S2,g2,r2,qA,jk⟩:=H.tk.ae j hj qB;exact⟨S2,g2,r2,qA,jk.keep hE.1 rfl rfl (fun b hb hx=>blk b hb (fun hy=>e (by unfold dn at hy;omega)))⟩
 ·have hl:(t.set i h').ae.length=t.ae.length:=by simp[Tk.set]
  rw[hl];rcases hE.2 b with e | e
  ·rw[e] at h1 h2 ⊢;exact H.tk.kv b h1 h2
  ·omega
 ·exact E.keep H.en hE.1 hC.size (fun b hb hx=>blk b hb (fun hy=>by unfold dn at hy;omega))
 ·rcases hE.2 b with e | e
  ·exact .inl e
  ·exact .inr (.inl ⟨e.1,e.2.1⟩)
end
theorem Oa {β:Type}(E:Env β)(c:Cx)(vB ev:Value)(o T:Nat)(L:av)(P:Nat→Nat)(w:World)(t:Tk)(x:β)(vR vO:Value)(H:Hid (St E c vB ev o T L P w t x vR vO))(h:Th)(S g r:Nat)(vU:Value)(hh:Hid (t.ae[t.hand]?=some h))(hT:Hid (aD c L o t.hand P w h S g r vU)) :
  Calls Tryz.prog 148 #[.pointer (some ⟨P t.hand,0,none⟩)] w fun e w'=>e=.returned (.int .i64 t.last)∧∃ L' g' r',St E c vB ev o T L' P w' t.cut x vR vO∧aD c L' o t.hand P w' { h with ws:=h.ws.dropLast } S g' r' vU∧iI o L L' w∧aQ (WB L o) w w':=by
 have htop:t.top=h:=eD hh.out;refine (MV c L o t.hand P w h S g r vU hT (Sb.hide H.out.ok) t.last (Sb.hide (by unfold Tk.last;rw[htop]))).mono ?_;rintro e w1 ⟨rfl,L1,g1,r1,h1,h2,h3,h4⟩;obtain⟨s1,q1,k1⟩:=H.out.N9 hh.out h1 h2 h3 h4;refine⟨rfl,L1,g1,r1,?_,h1,q1,k1⟩;rw[mW hh.out];exact s1
section
variable {β:Type} (E:Env β) (X:gN β) (c:Cx) (vB:Value) (N:Nat) (af:Array Value) (hN:Hid (jl E c N af)) (o T:Nat) (L:av) (P:Nat→Nat) (w:World) (t:Tk) (x:β) (vR vO:Value) (H:Hid (St E c vB (.func (.func N) #[] af) o T L P w t x vR vO))
include hN H
theorem Yx (f:Wk)(rs:List Wk)(u:Un)(i:Ins)(hs:Hid (jN X c t x f rs u i))(ho:i.op=22)(tr:Tk)(htr:Hid (tr=if (t.goto (f.pc+1)).last=0 then (t.goto (f.pc+1)).cut.goto i.a.toNat else (t.goto (f.pc+1)).cut)) :
  Calls Tryz.prog 101 #[.pointer (some ⟨T,0,none⟩)] w fun e w'=>e=.returned (.tuple #[])∧aS E c vB (.func (.func N) #[] af) o T L w w' (tr) x:=by
 have _:=hN;have e1:(i.op==1)=false:=by simp;omega
 have e2:(i.op==2)=false:=by simp;omega
 have e3:(i.op==3)=false:=by simp;omega
 have e4:(i.op==4)=false:=by simp;omega
 have e5:(i.op==5)=false:=by simp;omega
 have e6:(i.op==6)=false:=by simp;omega
 have e7:(i.op==7)=false:=by simp;omega
 have e21:(i.op==21)=false:=by simp;omega
 have e22:(i.op==22)=true:=by simpa using ho
 have ha:=hs.out.jump (.inr ho);obtain⟨n,hn⟩:∃ n:Nat,i.a=n:=⟨i.a.toNat,by omega⟩;have bG:=Sb.hide hn;clear ho ha hn;obtain⟨h,S,g,r,vU,hh,hT,htop⟩:=H.out.at
 have hf:h.fs=f :: rs:=by rw[← htop];exact hs.out.fs
 obtain⟨U,cap,cur,hU,cB,_⟩:=hT.work hf;have hUz:=lt_of_block cB;have d0:=cO H.out;have hpc:=hs.out.pc;have HF:=Sb.hide hf;have HU:=Sb.hide hU;have HH:=Sb.hide hh;have HT:=Sb.hide hT;have bT:=Sb.hide hs.out.un;have dQ:=Sb.hide hs.out.code;clear hf hU hh hT cB htop;go_enter Tryz.func101,Tryz.ntmps101
 go_wp2_with fail
 refine (iT c L o t.hand P _ h S g r vU HT (Sb.hide H.out.cx) (Sb.hide H.out.ok) f rs HF u bT i dQ).mono ?_;rintro e w1 ⟨rfl,hb1⟩;have hz1:=hb1.size;have HT2:Hid (aD c L o t.hand P (w1.alloc (az i)) h S g r vU):=HT.out.keep (.refl _ _) rfl rfl (fun b hb _=>(Below.heap_alloc _ _ _ (by omega)).trans (hb1.block b hb));have HS2:Hid (St E c vB (.func (.func N) #[] af) o T L P (w1.alloc (az i)) t x vR vO):=H.out.below (hb1.alloc hb1.size _);have HB2:Hid (Below w.heap.size w (w1.alloc (az i))):=hb1.alloc hb1.size _;have dP:¬ w1.heap.size=U:=by omega
 have ni:¬ U=w1.heap.size:=by omega
 clear hb1 d0;go_wp2_with fail
 refine (kT c L o t.hand P _ h S g r vU HT2 f rs HF U cap HU).mono ?_;rintro e w' ⟨rfl,d,rfl⟩;obtain⟨k0,k1,k2,k3⟩:=(HT2.out.drewN d).inner HF.out HU.out;obtain⟨L3,s3,t3,q3,c3⟩:=(HS2.out.below (below_drewN (Below.refl _ _) d)).goto HH.out (HT2.out.drewN d) HF.out HU.out (f.pc+1);have ecast:((f.pc+1:Nat):Int)=(f.pc:Int)+1:=by omega
 rw[ecast] at s3 t3 c3;have y0:(((w1.alloc (az i)).drewN d).setCell ⟨U,rs.length * 3+1,none⟩ (.int .i64 ((f.pc:Int)+1))).heap[w1.heap.size]?=some (az i):=(Below.heap_setCell _ ⟨U,rs.length * 3+1,none⟩ _ _ (by show w1.heap.size≠U;exact dP)).trans (heap_alloc_new w1 _);have S3:=Sb.hide s3;have T3:=Sb.hide t3;have E3:=Sb.hide q3;have C3:=Sb.hide c3;have HX0:=Sb.hide y0;have cZ:Hid (Below w.heap.size w ((w1.alloc (az i)).drewN d)):=below_drewN HB2.out d;clear s3 t3 q3 c3 y0 ecast;obtain⟨t1,ht1⟩:∃ t1,t1=t.goto (f.pc+1):=⟨_,rfl⟩;rw[← ht1] at S3;have HT1:=Sb.hide ht1;clear ht1;have hhd:t1.hand=t.hand:=by rw[HT1.out];rfl
 have hxb:=HX0.out;go_wp2_with fail
 rw[← hhd];have jL:t1.ae[t1.hand]?=some { h with fs:={ f with pc:=f.pc+1 } :: rs }:=by rw[HT1.out,qD HH.out HF.out];simp[Tk.set,gB HH.out]
 have mD:=Sb.hide jL;have pg:Hid (aD c L3 o t1.hand P (((w1.alloc (az i)).drewN d).setCell ⟨U,rs.length * 3+1,none⟩ (.int .i64 ((f.pc:Int)+1))) { h with fs:={ f with pc:=f.pc+1 } :: rs } S g r vU):=by unfold Hid;rw[hhd];exact T3.out
 clear jL;refine (Oa E c vB (.func (.func N) #[] af) o T L3 P _ t1 x vR vO S3 _ S g r vU mD pg).mono ?_;rintro e w4 ⟨rfl,L4,g4,r4,s4,t4,q4,k4⟩;have iH:w4.heap[w1.heap.size]?=some (az i):=by
  refine (k4.block _ (lt_of_block hxb) (fun hx=>?_)).trans hxb;have h1:=E3.out.1 w1.heap.size (by simp);have h2:=H.out.ok.new w1.heap.size hz1;unfold WB EB at hx;rw[h1] at hx;omega
 have x1:w4.cell? ⟨w1.heap.size,1,none⟩=some (.int .i64 i.a):=by simp[World.cell?,iH]
 obtain⟨Aa,k1',k2',Dv⟩:=t4.inner (f:={ f with pc:=f.pc+1 }) (rs:=rs) rfl HU.out;have Ob:t1.cut.ae[t1.cut.hand]?=some { h with fs:={ f with pc:=f.pc+1 } :: rs,ws:=h.ws.dropLast }:=by rw[mW mD.out];simp[Tk.set,gB mD.out]
 obtain⟨L5,s5,_,q5,c5⟩:=s4.goto Ob t4 (f:={ f with pc:=f.pc+1 }) (rs:=rs) rfl HU.out n;rw[← bG.out] at s5 c5;have iK:=Sb.hide ((((o8.toW ⟨L5,s5,q5,c5⟩).trans q4 k4).trans E3.out C3.out).under cZ.out);have jO:=Sb.hide (((o8.toW ⟨L4,s4,q4,k4⟩).trans E3.out C3.out).under cZ.out);have hn:i.a.toNat=n:=by rw[bG.out];rfl
 have bK:=Sb.hide hn;clear s4 t4 q4 k4 s5 q5 c5 Ob iH hxb Aa k2' hn k0 k1 k2 k3;by_cases h0:t1.last=0
 ·have f0:(t1.last==0)=true:=by simpa using h0
  have Hq:=Sb.hide h0;clear h0;go_wp2
  go_end0
  refine⟨rfl,?_⟩;rw[htr.out,← HT1.out,if_pos Hq.out,bK.out];exact iK.out
 ·have f0:(t1.last==0)=false:=by simpa using h0
  have Hq:=Sb.hide h0;clear h0;go_wp2
  go_end0
  refine⟨rfl,?_⟩;rw[htr.out,← HT1.out,if_neg Hq.out];exact jO.out
end
section
variable {β:Type} (E:Env β) (X:gN β) (c:Cx) (vB:Value) (N:Nat) (af:Array Value) (hN:Hid (jl E c N af)) (o T:Nat) (L:av) (P:Nat→Nat) (w:World) (t:Tk) (x:β) (vR vO:Value) (H:Hid (St E c vB (.func (.func N) #[] af) o T L P w t x vR vO))
include hN H
theorem Yy (f:Wk)(rs:List Wk)(u:Un)(i:Ins)(hs:Hid (jN X c t x f rs u i))(ho:i.op=4) :
  Calls Tryz.prog 101 #[.pointer (some ⟨T,0,none⟩)] w fun e w'=>e=.returned (.tuple #[])∧aS E c vB (.func (.func N) #[] af) o T L w w' ((t.goto (f.pc+1)).words ((t.goto (f.pc+1)).top.ws.dropLast.set ((t.goto (f.pc+1)).frame.base+i.a.toNat) (t.goto (f.pc+1)).last)) x:=by
 have _:=hN;have e1:(i.op==1)=false:=by simp;omega
 have e2:(i.op==2)=false:=by simp;omega
 have e3:(i.op==3)=false:=by simp;omega
 have e4:(i.op==4)=true:=by simpa using ho
 have Yz:=hs.out.base;obtain⟨ha0,ha2⟩:=hs.out.loc (.inr ho);obtain⟨n,hn⟩:∃ n:Nat,i.a=n:=⟨i.a.toNat,by omega⟩;have bG:=Sb.hide hn;have rJ:Hid (IntKind.i64.wrap ((f.base:Int)+i.a)=((f.base+n:Nat):Int)):=by unfold Hid;rw[IntWalk.i64_in _ ⟨by omega,by omega⟩];omega
 clear ho hn;obtain⟨h,S,g,r,vU,hh,hT,htop⟩:=H.out.at
 have hf:h.fs=f :: rs:=by rw[← htop];exact hs.out.fs
 obtain⟨U,cap,cur,hU,cB,_⟩:=hT.work hf;have hUz:=lt_of_block cB;have d0:=cO H.out;have hpc:=hs.out.pc;have HF:=Sb.hide hf;have HU:=Sb.hide hU;have HH:=Sb.hide hh;have HT:=Sb.hide hT;have bT:=Sb.hide hs.out.un;have dQ:=Sb.hide hs.out.code;clear hf hU hh hT cB htop;go_enter Tryz.func101,Tryz.ntmps101
 go_wp2_with fail
 refine (iT c L o t.hand P _ h S g r vU HT (Sb.hide H.out.cx) (Sb.hide H.out.ok) f rs HF u bT i dQ).mono ?_;rintro e w1 ⟨rfl,hb1⟩;have hz1:=hb1.size;have HT2:Hid (aD c L o t.hand P (w1.alloc (az i)) h S g r vU):=HT.out.keep (.refl _ _) rfl rfl (fun b hb _=>(Below.heap_alloc _ _ _ (by omega)).trans (hb1.block b hb));have HS2:Hid (St E c vB (.func (.func N) #[] af) o T L P (w1.alloc (az i)) t x vR vO):=H.out.below (hb1.alloc hb1.size _);have HB2:Hid (Below w.heap.size w (w1.alloc (az i))):=hb1.alloc hb1.size _;have dP:¬ w1.heap.size=U:=by omega
 have ni:¬ U=w1.heap.size:=by omega
 clear hb1 d0;go_wp2_with fail
 refine (kT c L o t.hand P _ h S g r vU HT2 f rs HF U cap HU).mono ?_;rintro e w' ⟨rfl,d,rfl⟩;obtain⟨k0,k1,k2,k3⟩:=(HT2.out.drewN d).inner HF.out HU.out;obtain⟨L3,s3,t3,q3,c3⟩:=(HS2.out.below (below_drewN (Below.refl _ _) d)).goto HH.out (HT2.out.drewN d) HF.out HU.out (f.pc+1);have ecast:((f.pc+1:Nat):Int)=(f.pc:Int)+1:=by omega
 rw[ecast] at s3 t3 c3;have y0:(((w1.alloc (az i)).drewN d).setCell ⟨U,rs.length * 3+1,none⟩ (.int .i64 ((f.pc:Int)+1))).heap[w1.heap.size]?=some (az i):=(Below.heap_setCell _ ⟨U,rs.length * 3+1,none⟩ _ _ (by show w1.heap.size≠U;exact dP)).trans (heap_alloc_new w1 _);have S3:=Sb.hide s3;have T3:=Sb.hide t3;have E3:=Sb.hide q3;have C3:=Sb.hide c3;have HX0:=Sb.hide y0;have cZ:Hid (Below w.heap.size w ((w1.alloc (az i)).drewN d)):=below_drewN HB2.out d;clear s3 t3 q3 c3 y0 ecast;obtain⟨t1,ht1⟩:∃ t1,t1=t.goto (f.pc+1):=⟨_,rfl⟩;rw[← ht1] at S3;have HT1:=Sb.hide ht1;clear ht1;have hhd:t1.hand=t.hand:=by rw[HT1.out];rfl
 have jL:t1.ae[t1.hand]?=some { h with fs:={ f with pc:=f.pc+1 } :: rs }:=by rw[HT1.out,qD HH.out HF.out];simp[Tk.set,gB HH.out]
 have mD:=Sb.hide jL;have pg:Hid (aD c L3 o t1.hand P (((w1.alloc (az i)).drewN d).setCell ⟨U,rs.length * 3+1,none⟩ (.int .i64 ((f.pc:Int)+1))) { h with fs:={ f with pc:=f.pc+1 } :: rs } S g r vU):=by unfold Hid;rw[hhd];exact T3.out
 obtain⟨m0,m1,m2,m3⟩:=pg.out.cells;obtain⟨Aa,k1',k2',Dv⟩:=pg.out.inner (f:={ f with pc:=f.pc+1 }) (rs:=rs) rfl HU.out;have x0:(((w1.alloc (az i)).drewN d).setCell ⟨U,rs.length * 3+1,none⟩ (.int .i64 ((f.pc:Int)+1))).cell? ⟨w1.heap.size,0,none⟩=some (.int .i64 i.op):=by have hx:=HX0.out;simp only[World.cell?,hx];rfl
 have x1:(((w1.alloc (az i)).drewN d).setCell ⟨U,rs.length * 3+1,none⟩ (.int .i64 ((f.pc:Int)+1))).cell? ⟨w1.heap.size,1,none⟩=some (.int .i64 i.a):=by have hx:=HX0.out;simp only[World.cell?,hx];rfl
 rw[hhd] at m0;clear jL m1 m2 m3 Aa k1';have Dw:=Sb.hide hhd;have Ab:Hid (¬ WB L3 o w1.heap.size):=fun hx=>by
  have h1:=E3.out.1 w1.heap.size (by simp);have h2:=H.out.ok.new w1.heap.size hz1;unfold WB EB at hx;rw[h1] at hx;omega
 have hxs:w1.heap.size<(((w1.alloc (az i)).drewN d).setCell ⟨U,rs.length * 3+1,none⟩ (.int .i64 ((f.pc:Int)+1))).heap.size:=lt_of_block HX0.out;go_wp2
 generalize ((w1.alloc (az i)).drewN d).setCell ⟨U,rs.length * 3+1,none⟩ (.int .i64 ((f.pc:Int)+1))=W3 at *;have qG:=Sb.hide hxs;have hb2:W3.cell? ⟨U,rs.length * 3+2,none⟩=some (.int .i64 f.base):=k2';clear k0 k1 k2 k3 k2' Dv hxs hhd;go_region_held3 (fun w'=>w'.cell? ⟨P t.hand,0,none⟩=some (.pointer (some ⟨S,0,none⟩))∧w'.cell? ⟨U,rs.length * 3+2,none⟩=some (.int .i64 f.base)∧w'.cell? ⟨w1.heap.size,1,none⟩=some (.int .i64 i.a)) (go_keep) (first | (go_at_call 147;have T4':=T4.out;(try rw[rJ.out]);refine (Yw c L4 o t1.hand P _ _ S g4 r4 vU T4 (Sb.hide S4.out.ok) (f.base+n) t1.last).mono ?_;rintro e w5 ⟨⟨xx,rfl⟩,L5,g5,r5,t5,e5,l5,k5⟩;obtain⟨s5,q5,j5⟩:=S4.out.N9 YA.out t5 e5 l5 k5;have dH:=o8.toW ⟨L5,s5,q5,j5⟩;have iK:=Sb.hide (((dH.trans E4.out C4.out).trans E3.out C3.out).under cZ.out);have m0:=t5.cells.1;rw[Dw.out] at m0;have hb2:=(t5.inner (f:={ f with pc:=f.pc+1 }) (rs:=rs) rfl HU.out).2.2.1;have rP:w5.heap[w1.heap.size]?=some (az i):=(j5.block _ (lt_of_block qF.out) (fun hx=>Ab.out (by unfold WB EB at hx ⊢;rw[E4.out.1 _ qG.out] at hx;exact hx))).trans qF.out;have x1:w5.cell? ⟨w1.heap.size,1,none⟩=some (.int .i64 i.a):=(by simp[World.cell?,rP]);clear t5 e5 l5 k5 s5 q5 j5 rP dH T4') | (go_at_call 148;rw[← Dw.out];refine (Oa E c vB (.func (.func N) #[] af) o T L3 P _ t1 x vR vO (Sb.hide S3.out.drew) _ S g r vU mD (Sb.hide (pg.out.drewN 1))).mono ?_;rintro e w4 ⟨rfl,L4,g4,r4,s4,t4,q4,k4⟩;have S4:=Sb.hide s4;have T4:=Sb.hide t4;have E4:Hid (iI o L3 L4 W3):=q4;have C4:Hid (aQ (WB L3 o) W3 w4):=⟨k4.os,k4.tape,k4.output,k4.size,k4.block⟩;have qF:Hid (w4.heap[w1.heap.size]?=some (az i)):=(k4.block _ (by exact qG.out) Ab.out).trans (by exact HX0.out);have YA:Hid (t1.cut.ae[t1.hand]?=some { h with fs:={ f with pc:=f.pc+1 } :: rs,ws:=h.ws.dropLast }):=(by unfold Hid;rw[mW mD.out];simp[Tk.set,gB mD.out]);have m0:=t4.cells.1;rw[Dw.out] at m0;have hb2:=(t4.inner (f:={ f with pc:=f.pc+1 }) (rs:=rs) rfl HU.out).2.2.1;have x1:w4.cell? ⟨w1.heap.size,1,none⟩=some (.int .i64 i.a):=(by have hx:=qF.out;simp[World.cell?,hx]);clear s4 t4 q4 k4))
 go_wp2
 go_end0
 refine⟨rfl,?_⟩;have e9:t1.words (t1.top.ws.dropLast.set (t1.frame.base+i.a.toNat) t1.last)=t1.cut.set t1.hand { h with fs:={ f with pc:=f.pc+1 } :: rs,ws:=h.ws.dropLast.set (f.base+n) t1.last }:=by
  unfold Tk.words;rw[mW mD.out,um (f:={ f with pc:=f.pc+1 }) (r:=rs) mD.out rfl,eD mD.out,bG.out,Int.toNat_natCast];exact (set_set t1 t1.hand _ _).symm
 rw[← HT1.out,e9];exact iK.out
end
end Go.Proofs.YtfcpglhpolpdcaaGreatDoor.Vw

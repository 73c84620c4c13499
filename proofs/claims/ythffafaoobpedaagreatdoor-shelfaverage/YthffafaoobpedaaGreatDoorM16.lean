/- The walk of step: a local comes on top;WHAT A STEP LEAVES. -/
import Derived.Test.YthffafaoobpedaaGreatDoorM15
set_option maxRecDepth 100000
set_option maxHeartbeats 4000000
namespace Go.Proofs.YthffafaoobpedaaGreatDoor.Vw
open Go.RowKit Vf Vm
section
variable {β:Type} (E:Env β) (X:fQ β) (c:Cx) (vB:Value) (N:Nat) (ah:Array Value) (hN:Hid (ji E c N ah)) (o T:Nat) (L:az) (P:Nat→Nat) (w:World) (t:Tk) (x:β) (vR vO:Value) (H:Hid (St E c vB (.func (.func N) #[] ah) o T L P w t x vR vO))
include hN H
theorem Uz (f:Wk)(rs:List Wk)(u:Un)(i:Ins)(hs:Hid (jo X c t x f rs u i))(ho:i.op=3) :
  Calls Tryz.prog 38 #[.pointer (some ⟨T,0,none⟩)] w fun e w'=>e=.returned (.tuple #[])∧aU E c vB (.func (.func N) #[] ah) o T L w w' ((t.goto (f.pc+1)).put (((t.goto (f.pc+1)).top.ws[(t.goto (f.pc+1)).frame.base+i.a.toNat]?).getD 0)) x:=by
 have e1:(i.op == 1)=false:=by simp;omega
 have e2:(i.op == 2)=false:=by simp;omega
 have e3:(i.op == 3)=true:=by simpa using ho
 have Ux:=hs.out.base
 obtain ⟨ha0,ha2⟩:=hs.out.loc (.inl ho)
 obtain ⟨n,hn⟩:∃ n:Nat,i.a=n:=⟨i.a.toNat,by omega⟩
 have bR:=Sb.hide hn
 have qH:Hid (IntKind.i64.wrap ((f.base:Int)+i.a)=((f.base+n:Nat):Int)):=by unfold Hid;rw [IntWalk.i64_in _ ⟨by omega,by omega⟩];omega
 clear ho hn
 obtain ⟨h,S,g,r,vU,hh,hT,htop⟩:=H.out.at
 have hf:h.fs=f :: rs:=by rw [← htop];exact hs.out.fs
 obtain ⟨U,cap,cur,hU,cz,_⟩:=hT.work hf
 have hUz:=lt_of_block cz
 have d0:=cK H.out
 have hpc:=hs.out.pc
 have HF:=Sb.hide hf
 have HU:=Sb.hide hU
 have HH:=Sb.hide hh
 have HT:=Sb.hide hT
 have bQ:=Sb.hide hs.out.un
 have dD:=Sb.hide hs.out.code
 clear hf hU hh hT cz htop
 go_enter Tryz.func38,Tryz.ntmps38
 go_wp2_with fail
 refine (jK c L o t.hand P _ h S g r vU HT (Sb.hide H.out.cx) (Sb.hide H.out.ok) f rs HF u bQ i dD).mono ?_
 rintro e w1 ⟨rfl,hb1⟩
 have hz1:=hb1.size
 have HT2:Hid (aG c L o t.hand P (w1.alloc (aC i)) h S g r vU):=HT.out.keep (.refl _ _) rfl rfl (fun b hb _=>(Below.heap_alloc _ _ _ (by omega)).trans (hb1.block b hb))
 have HS2:Hid (St E c vB (.func (.func N) #[] ah) o T L P (w1.alloc (aC i)) t x vR vO):=H.out.below (hb1.alloc hb1.size _)
 have HB2:Hid (Below w.heap.size w (w1.alloc (aC i))):=hb1.alloc hb1.size _
 have dC:¬ w1.heap.size=U:=by omega
 have mg:¬ U=w1.heap.size:=by omega
 clear hb1 d0
 go_wp2_with fail
 refine (ko c L o t.hand P _ h S g r vU HT2 f rs HF U cap HU).mono ?_
 rintro e w' ⟨rfl,d,rfl⟩
 obtain ⟨k0,k1,k2,k3⟩:=(HT2.out.drewN d).inner HF.out HU.out
 obtain ⟨L3,s3,t3,q3,c3⟩:=(HS2.out.below (below_drewN (Below.refl _ _) d)).goto HH.out (HT2.out.drewN d) HF.out HU.out (f.pc+1)
 have ecast:((f.pc+1:Nat):Int)=(f.pc:Int)+1:=by omega
 rw [ecast] at s3 t3 c3
 have y0:(((w1.alloc (aC i)).drewN d).setCell ⟨U,rs.length * 3+1,none⟩ (.int .i64 ((f.pc:Int)+1))).heap[w1.heap.size]?=some (aC i):=(Below.heap_setCell _ ⟨U,rs.length * 3+1,none⟩ _ _ (by show w1.heap.size≠U;exact dC)).trans (heap_alloc_new w1 _)
 have S3:=Sb.hide s3
 have T3:=Sb.hide t3
 have E3:=Sb.hide q3
 have C3:=Sb.hide c3
 have HX0:=Sb.hide y0
 have eP:Hid (Below w.heap.size w ((w1.alloc (aC i)).drewN d)):=below_drewN HB2.out d
 clear s3 t3 q3 c3 y0 ecast
 obtain ⟨t1,ht1⟩:∃ t1,t1=t.goto (f.pc+1):=⟨_,rfl⟩
 rw [← ht1] at S3
 have bT:Hid (t1.log.length≤2000000):=by unfold Hid;rw [ht1];exact hs.out.log
 have HT1:=Sb.hide ht1
 clear ht1
 have hhd:t1.hand=t.hand:=by rw [HT1.out];rfl
 have jk:t1.ae[t1.hand]?=some { h with fs:={ f with pc:=f.pc+1 } :: rs }:=by rw [HT1.out,pQ HH.out HF.out];simp [Tk.set,fO HH.out]
 have lD:=Sb.hide jk
 have om:Hid (aG c L3 o t1.hand P (((w1.alloc (aC i)).drewN d).setCell ⟨U,rs.length * 3+1,none⟩ (.int .i64 ((f.pc:Int)+1))) { h with fs:={ f with pc:=f.pc+1 } :: rs } S g r vU):=by unfold Hid;rw [hhd];exact T3.out
 obtain ⟨m0,m1,m2,m3⟩:=om.out.cells
 obtain ⟨xZ,k1',k2',AP⟩:=om.out.inner (f:={ f with pc:=f.pc+1 }) (rs:=rs) rfl HU.out
 have x0:(((w1.alloc (aC i)).drewN d).setCell ⟨U,rs.length * 3+1,none⟩ (.int .i64 ((f.pc:Int)+1))).cell? ⟨w1.heap.size,0,none⟩=some (.int .i64 i.op):=by have hx:=HX0.out;simp only [World.cell?,hx];rfl
 have x1:(((w1.alloc (aC i)).drewN d).setCell ⟨U,rs.length * 3+1,none⟩ (.int .i64 ((f.pc:Int)+1))).cell? ⟨w1.heap.size,1,none⟩=some (.int .i64 i.a):=by have hx:=HX0.out;simp only [World.cell?,hx];rfl
 rw [hhd] at m0
 clear jk m1 m2 m3 xZ k1'
 have AQ:=Sb.hide hhd
 have x8:Hid (¬ WB L3 o w1.heap.size):=fun hx=>by
  have h1:=E3.out.1 w1.heap.size (by simp)
  have h2:=H.out.ok.new w1.heap.size hz1
  unfold WB EB at hx
  rw [h1] at hx
  omega
 have hxs:w1.heap.size < (((w1.alloc (aC i)).drewN d).setCell ⟨U,rs.length * 3+1,none⟩ (.int .i64 ((f.pc:Int)+1))).heap.size:=lt_of_block HX0.out
 obtain ⟨vv,hvv⟩:∃ v,v=(h.ws[f.base+n]?).getD 0:=⟨_,rfl⟩
 have KW:Hid (vv=nX h.ws ((f.base+n:Nat):Int)):=by unfold Hid nX;rw [if_neg (by omega),Int.toNat_natCast];exact hvv
 have KX:Hid ((t1.top.ws[t1.frame.base+i.a.toNat]?).getD 0=vv):=by
  unfold Hid
  rw [si (f:={ f with pc:=f.pc+1 }) (r:=rs) lD.out rfl,dN lD.out,bR.out,Int.toNat_natCast,hvv]
 clear hvv
 go_wp2
 generalize ((w1.alloc (aC i)).drewN d).setCell ⟨U,rs.length * 3+1,none⟩ (.int .i64 ((f.pc:Int)+1))=W3 at *
 have pV:=Sb.hide hxs
 have hb2:W3.cell? ⟨U,rs.length * 3+2,none⟩=some (.int .i64 f.base):=k2'
 have hx3:W3.drew.heap[w1.heap.size]?=some (aC i):=HX0.out
 clear k0 k1 k2 k3 k2' AP hxs hhd x0 x1
 go_upto_region 11 with fail
 refine wp_region_held_drew (S:=fun w'=>w'.heap[w1.heap.size]?=some (aC i)) (by kernel_rfl) hx3 (fun hHeld=>?_)
 refine wpAnyH_take (i:=0) (oi:=_) (v:=?_) rfl (by kernel_rfl) (by kernel_rfl) (by kernel_rfl) (fun _ _ _ h=>h) (Or.inl ⟨by rfl,?_⟩) (by assumption) ?_
 rotate_left
 ·intro w hSw
  (try dsimp only at hSw)
  go_simp
  (try with_reducible rfl)
 (try simp only [Act.put])
 refine wpAnyH_take (i:=1) (oi:=_) (v:=?_) rfl (by kernel_rfl) (by kernel_rfl) (by kernel_rfl) (fun _ _ _ h=>h) (Or.inl ⟨by rfl,?_⟩) (by assumption) ?_
 rotate_left
 ·intro w hSw
  (try dsimp only at hSw)
  go_simp
  (try with_reducible rfl)
 (try simp only [Act.put])
 refine wpAnyH_take (i:=2) (oi:=_) (v:=?_) rfl (by kernel_rfl) (by kernel_rfl) (by kernel_rfl) (fun _ _ _ h=>h) (Or.inl ⟨by rfl,?_⟩) (by assumption) ?_
 rotate_left
 ·intro w hSw
  (try dsimp only at hSw)
  go_simp
  (try with_reducible rfl)
 (try simp only [Act.put])
 refine wpAnyH_take (i:=3) (oi:=_) (v:=?_) rfl (by kernel_rfl) (by kernel_rfl) (by kernel_rfl) (fun _ _ _ h=>h) (Or.inl ⟨by rfl,?_⟩) (by assumption) ?_
 rotate_left
 ·intro w hSw
  (try dsimp only at hSw)
  go_simp
  (try with_reducible rfl)
 (try simp only [Act.put])
 refine wpAnyH_take (i:=5) (oi:=_) (v:=?_) rfl (by kernel_rfl) (by kernel_rfl) (by kernel_rfl) (fun _ _ _ h=>h) (Or.inl ⟨by rfl,?_⟩) (by assumption) ?_
 rotate_left
 ·intro w hSw
  (try dsimp only at hSw)
  go_simp
  (try with_reducible rfl)
 (try simp only [Act.put])
 refine wpAnyH_take (i:=6) (oi:=_) (v:=?_) rfl (by kernel_rfl) (by kernel_rfl) (by kernel_rfl) (fun _ _ _ h=>h) (Or.inl ⟨by rfl,?_⟩) (by assumption) ?_
 rotate_left
 ·intro w hSw
  (try dsimp only at hSw)
  go_simp
  (try with_reducible rfl)
 (try simp only [Act.put])
 refine wpAnyH_take (i:=7) (oi:=_) (v:=?_) rfl (by kernel_rfl) (by kernel_rfl) (by kernel_rfl) (fun _ _ _ h=>h) (Or.inl ⟨by rfl,?_⟩) (by assumption) ?_
 rotate_left
 ·intro w hSw
  (try dsimp only at hSw)
  go_simp
  (try with_reducible rfl)
 (try simp only [Act.put])
 refine wpAnyH_take (i:=9) (oi:=_) (v:=?_) rfl (by kernel_rfl) (by kernel_rfl) (by kernel_rfl) (fun _ _ _ h=>h) (Or.inl ⟨by rfl,?_⟩) (by assumption) ?_
 rotate_left
 ·intro w hSw
  (try dsimp only at hSw)
  go_simp
  (try with_reducible rfl)
 (try simp only [Act.put])
 refine wpAnyH_take (i:=10) (oi:=_) (v:=.int .i64 i.a) rfl (by kernel_rfl) (by kernel_rfl) (by kernel_rfl) (fun _ _ _ h=>h) (Or.inl ⟨by rfl,?_⟩) (by assumption) ?_
 ·intro w' hSw
  have x1:w'.cell? ⟨w1.heap.size,1,none⟩=some (.int .i64 i.a):=by simp [World.cell?,hSw]
  clear hSw
  go_simp
 (try simp only [Act.put])
 refine wpAnyH_ready (rs:=[4,8]) (by kernel_rfl) (by simp) ?_
 refine AllReadyH.cons (o:=_) rfl (fun K hK=>?_) ?_
 ·go_simp
  refine hK.out _ _ hx3 (fun hHeld=>?_)
  clear hK K
  refine wpAnyH_ready (rs:=[8]) (by kernel_rfl) (by simp) ?_
  refine AllReadyH.cons (o:=_) rfl (fun K hK=>?_) AllReadyH.nil
  go_simp
  refine hK.out _ _ hx3 (fun hHeld=>?_)
  clear hK K
  refine wpAnyH_take (i:=11) (oi:=_) (v:=?_) rfl (by kernel_rfl) (by kernel_rfl) (by kernel_rfl) (fun _ _ _ h=>h) (Or.inl ⟨by rfl,?_⟩) (by assumption) ?_
  rotate_left
  ·intro w hSw
   (try dsimp only at hSw)
   go_simp
   (try with_reducible rfl)
  (try simp only [Act.put])
  refine wpAnyH_ready (rs:=[12]) (by kernel_rfl) (by simp) ?_
  refine AllReadyH.cons (o:=_) rfl (fun K hK=>?_) AllReadyH.nil
  go_simp
  (try rw [qH.out])
  refine (Ao S g h.ws r 8 400 _ vv _ (by exact om.out.stack) KW).mono ?_
  rintro e w' ⟨rfl,d2,rfl⟩
  refine hK.out _ _ HX0.out (fun hHeld=>?_)
  clear hK K
  refine wpAnyH_ready (rs:=[13]) (by kernel_rfl) (by simp) ?_
  refine AllReadyH.cons (o:=_) rfl (fun K hK=>?_) AllReadyH.nil
  go_simp
  refine (fZ E c vB N ah hN o T L3 P (W3.drewN (1+d2)) t1 x vR vO (Sb.hide (S3.out.below (below_drewN (Below.refl _ _) (1+d2)))) (Sb.hide (Nat.le_succ_of_le bT.out)) vv).mono ?_
  rintro e w5 ⟨rfl,hW⟩
  have qL:w5.heap[w1.heap.size]?=some (aC i):=by
   obtain ⟨_,_,_,_,_,_,k5⟩:=hW
   exact (k5.block _ pV.out x8.out).trans HX0.out
  have jm:=Sb.hide ((hW.drewN.trans E3.out C3.out).under eP.out)
  clear hW
  refine hK.out _ _ qL (fun hHeld=>?_)
  clear hK K
  refine wpAnyH_done (by kernel_rfl) ?_ _
  clear qL hHeld
  go_wp2
  go_end0
  refine ⟨rfl,?_⟩
  rw [← HT1.out,KX.out]
  exact jm.out
 refine AllReadyH.cons (o:=_) rfl (fun K hK=>?_) AllReadyH.nil
 go_simp
 refine hK.out _ _ hx3 (fun hHeld=>?_)
 clear hK K
 refine wpAnyH_take (i:=11) (oi:=_) (v:=?_) rfl (by kernel_rfl) (by kernel_rfl) (by kernel_rfl) (fun _ _ _ h=>h) (Or.inl ⟨by rfl,?_⟩) (by assumption) ?_
 rotate_left
 ·intro w hSw
  (try dsimp only at hSw)
  go_simp
  (try with_reducible rfl)
 (try simp only [Act.put])
 refine wpAnyH_ready (rs:=[4]) (by kernel_rfl) (by simp) ?_
 refine AllReadyH.cons (o:=_) rfl (fun K hK=>?_) AllReadyH.nil
 go_simp
 refine hK.out _ _ hx3 (fun hHeld=>?_)
 clear hK K
 refine wpAnyH_ready (rs:=[12]) (by kernel_rfl) (by simp) ?_
 refine AllReadyH.cons (o:=_) rfl (fun K hK=>?_) AllReadyH.nil
 go_simp
 (try rw [qH.out])
 refine (Ao S g h.ws r 8 400 _ vv _ (by exact om.out.stack) KW).mono ?_
 rintro e w' ⟨rfl,d2,rfl⟩
 refine hK.out _ _ HX0.out (fun hHeld=>?_)
 clear hK K
 refine wpAnyH_ready (rs:=[13]) (by kernel_rfl) (by simp) ?_
 refine AllReadyH.cons (o:=_) rfl (fun K hK=>?_) AllReadyH.nil
 go_simp
 refine (fZ E c vB N ah hN o T L3 P (W3.drewN (1+d2)) t1 x vR vO (Sb.hide (S3.out.below (below_drewN (Below.refl _ _) (1+d2)))) (Sb.hide (Nat.le_succ_of_le bT.out)) vv).mono ?_
 rintro e w5 ⟨rfl,hW⟩
 have qL:w5.heap[w1.heap.size]?=some (aC i):=by
  obtain ⟨_,_,_,_,_,_,k5⟩:=hW
  exact (k5.block _ pV.out x8.out).trans HX0.out
 have jm:=Sb.hide ((hW.drewN.trans E3.out C3.out).under eP.out)
 clear hW
 refine hK.out _ _ qL (fun hHeld=>?_)
 clear hK K
 refine wpAnyH_done (by kernel_rfl) ?_ _
 clear qL hHeld
 go_wp2
 go_end0
 refine ⟨rfl,?_⟩
 rw [← HT1.out,KX.out]
 exact jm.out
theorem AU (hX:Hid (lv E X c vB))(f:Wk)(rs:List Wk)(u:Un)(i:Ins)(hs:Hid (jo X c t x f rs u i)) :
  Calls Tryz.prog 38 #[.pointer (some ⟨T,0,none⟩)] w fun e w'=>e=.returned (.tuple #[])∧aU E c vB (.func (.func N) #[] ah) o T L w w' ((t.goto (f.pc+1)).act c.m i (X.head x i.a.toNat)) (mY X i (t.goto (f.pc+1)).last x):=by
 have hop:=hs.out.op
 by_cases bE:i.op=26
 ·refine (Ul E X c vB N ah hN o T L P w t x vR vO H hX f rs u i hs bE).mono ?_
  rintro e w' ⟨rfl,hW⟩
  refine ⟨rfl,?_⟩
  unfold mY Tk.act
  rw [if_pos bE,if_neg (by omega),if_neg (by omega),if_neg (by omega),if_neg (by omega),if_neg (by omega),if_neg (by omega),if_neg (by omega),if_neg (by omega),if_neg (by omega),if_pos bE]
  exact hW
 by_cases h27:i.op=27
 ·refine (Um E X c vB N ah hN o T L P w t x vR vO H hX f rs u i hs h27).mono ?_
  rintro e w' ⟨rfl,hW⟩
  refine ⟨rfl,?_⟩
  unfold mY Tk.act
  rw [if_neg bE,if_pos h27,if_neg (by omega),if_neg (by omega),if_neg (by omega),if_neg (by omega),if_neg (by omega),if_neg (by omega),if_neg (by omega),if_neg (by omega),if_neg (by omega),if_neg (by omega),if_pos h27]
  exact hW
 have hx:mY X i (t.goto (f.pc+1)).last x=x:=by unfold mY;rw [if_neg bE,if_neg h27]
 rw [hx]
 by_cases ho:8≤i.op∧i.op≤20∨i.op=23∨i.op=24∨i.op=25∨i.op=29∨i.op=30∨i.op=31∨i.op=32
 ·rw [Uf ho]
  exact Us E X c vB N ah hN o T L P w t x vR vO H f rs u i hs ho
 unfold Tk.act
 by_cases h1:i.op=1
 ·rw [if_pos h1]
  exact Ug E X c vB N ah hN o T L P w t x vR vO H f rs u i hs h1
 by_cases h2:i.op=2
 ·rw [if_neg h1,if_pos h2]
  exact Uh E X c vB N ah hN o T L P w t x vR vO H f rs u i hs h2
 by_cases h3:i.op=3
 ·rw [if_neg h1,if_neg h2,if_pos h3]
  exact Uz E X c vB N ah hN o T L P w t x vR vO H f rs u i hs h3
 by_cases h4:i.op=4
 ·rw [if_neg h1,if_neg h2,if_neg h3,if_pos h4]
  exact Uw E X c vB N ah hN o T L P w t x vR vO H f rs u i hs h4
 by_cases h5:i.op=5
 ·rw [if_neg h1,if_neg h2,if_neg h3,if_neg h4,if_pos h5]
  exact step_drop E X c vB N ah hN o T L P w t x vR vO H f rs u i hs h5
 by_cases h6:i.op=6
 ·rw [if_neg h1,if_neg h2,if_neg h3,if_neg h4,if_neg h5,if_pos h6]
  exact Ui E X c vB N ah hN o T L P w t x vR vO H f rs u i hs h6
 by_cases h7:i.op=7
 ·rw [if_neg h1,if_neg h2,if_neg h3,if_neg h4,if_neg h5,if_neg h6,if_pos h7]
  exact Uj E X c vB N ah hN o T L P w t x vR vO H f rs u i hs h7
 by_cases h21:i.op=21
 ·rw [if_neg h1,if_neg h2,if_neg h3,if_neg h4,if_neg h5,if_neg h6,if_neg h7,if_pos h21]
  exact Uk E X c vB N ah hN o T L P w t x vR vO H f rs u i hs h21
 by_cases h22:i.op=22
 ·rw [if_neg h1,if_neg h2,if_neg h3,if_neg h4,if_neg h5,if_neg h6,if_neg h7,if_neg h21,if_pos h22]
  exact Uv E X c vB N ah hN o T L P w t x vR vO H f rs u i hs h22 _ (Sb.hide rfl)
 have ng:i.op=28:=by omega
 rw [if_neg h1,if_neg h2,if_neg h3,if_neg h4,if_neg h5,if_neg h6,if_neg h7,if_neg h21,if_neg h22,if_neg bE,if_neg h27,if_pos ng]
 exact Uo E X c vB N ah hN o T L P w t x vR vO H f rs u i hs ng
end
structure lF (c:Cx) (t:Tk) (f:Wk) (rs:List Wk) (u:Un) (i:Ins):Prop where
 fs:t.top.fs=f :: rs
 un:c.m.units[f.u]?=some u
 code:u.code[f.pc]?=some i
 box:i.op=26∨i.op=27→∃ n:Nat,i.a=n∧n < c.m.boxes.length
theorem lF.ins {c:Cx}{t:Tk}{f:Wk}{rs:List Wk}{u:Un}{i:Ins}(h:lF c t f rs u i):t.ins c.m=i:=by
 have e:t.frame=f:=by simp [Tk.frame,h.fs]
 simp [Tk.ins,e,lX h.un,h.code]
theorem KY {i:Ins}{w:World}{Z:Nat}(hx:w.heap[Z]?=some (aC i)):w.cell? ⟨Z,0,none⟩=some (.int .i64 i.op)∧w.cell? ⟨Z,1,none⟩=some (.int .i64 i.a)∧w.cell? ⟨Z,2,none⟩=some (.int .i64 i.n):=by
 simp [World.cell?,hx]
section
variable {β:Type} (E:Env β) (X:fQ β) (c:Cx) (vB ev:Value) (o T:Nat) (L:az) (P:Nat→Nat) (w:World) (t:Tk) (x:β) (vR vO:Value) (H:Hid (St E c vB ev o T L P w t x vR vO))
include H
theorem UA (ho:t.over≠0) :
  Calls Tryz.prog 65 #[.pointer (some ⟨T,0,none⟩)] w fun e w'=>e=.returned (.tuple #[.int .i64 t.over,.int .i64 0])∧Below w.heap.size w w':=by
 have d6:=(bP H.out.tk.blk).2.2.2.2.2.2.1
 have e1:((t.over:Int) != 0)=true:=by simp;omega
 clear ho
 go_enter Tryz.func65,Tryz.ntmps65
 go_wp2
 go_ret2
 exact ⟨rfl,Below.refl _ _⟩
theorem UC (f:Wk)(rs:List Wk)(u:Un)(i:Ins)(hs:Hid (lF c t f rs u i))(ho:t.over=0)(bE:i.op≠26)(h27:i.op≠27) :
  Calls Tryz.prog 65 #[.pointer (some ⟨T,0,none⟩)] w fun e w'=>e=.returned (.tuple #[.int .i64 1,.int .i64 0])∧Below w.heap.size w w':=by
 have x9:=Sb.hide ho
 have e26:(i.op == 26)=false:=by simpa using bE
 have e27:(i.op == 27)=false:=by simpa using h27
 clear ho bE h27
 obtain ⟨h,S,g,r,vU,hh,hT,htop⟩:=H.out.at
 have hf:h.fs=f :: rs:=by rw [← htop];exact hs.out.fs
 have d0:=cK H.out
 have d6:=(bP H.out.tk.blk).2.2.2.2.2.2.1
 rw [x9.out] at d6
 have HF:=Sb.hide hf
 have HT:=Sb.hide hT
 have bQ:=Sb.hide hs.out.un
 have dD:=Sb.hide hs.out.code
 have jl:=lt_of_block H.out.tk.blk
 clear hf hh hT htop
 go_enter Tryz.func65,Tryz.ntmps65
 go_wp2_with fail
 refine (jK c L o t.hand P _ h S g r vU HT (Sb.hide H.out.cx) (Sb.hide H.out.ok) f rs HF u bQ i dD).mono ?_
 rintro e w1 ⟨rfl,hb1⟩
 have hz1:=hb1.size
 have HB2:Hid (Below w.heap.size w (w1.alloc (aC i))):=hb1.alloc hb1.size _
 have HS2:=Sb.hide (H.out.below HB2.out)
 have hxb:(w1.alloc (aC i)).heap[w1.heap.size]?=some (aC i):=heap_alloc_new w1 _
 have HXB:=Sb.hide hxb
 clear hb1 d0 d6 hxb
 go_wp2
 go_quiet (fail)
 go_wp2
 go_quiet (fail)
 go_wp2
 go_ret2
 exact ⟨rfl,below_drewN (below_drewN HB2.out _) _⟩
theorem UD (hX:Hid (lv E X c vB))(f:Wk)(rs:List Wk)(u:Un)(i:Ins)(hs:Hid (lF c t f rs u i))(ho:t.over=0)(bE:i.op=26)(bb:Bool)(hbb:Hid (X.full x i.a.toNat=bb))(s q:Nat)(vI:Hid ((s,q)=if bb=true then (2,i.a.toNat) else (1,0))) :
  Calls Tryz.prog 65 #[.pointer (some ⟨T,0,none⟩)] w fun e w'=>e=.returned (.tuple #[.int .i64 s,.int .i64 q])∧Below w.heap.size w w':=by
 have x9:=Sb.hide ho
 obtain ⟨n,hn,hnb⟩:=hs.out.box (.inl bE)
 obtain ⟨b,off,cap,ty,p,fF,fE,fP,fT,hv,hcell,hB⟩:=hX.out.at' n hnb
 obtain ⟨nb,mZ⟩:∃ m,m=c.m.boxes.length:=⟨_,rfl⟩
 rw [← mZ] at hv hnb
 have HV:=Sb.hide hv
 have HC:=Sb.hide hcell
 have HB:=Sb.hide hB
 have bR:=Sb.hide hn
 have n0:(0:Int)≤(n:Int):=by omega
 have n1:(n:Int) < (nb:Int):=by omega
 clear hv hcell mZ hn
 have jO:Hid (X.full x n=bb):=by unfold Hid;have:=hbb.out;rw [bR.out,Int.toNat_natCast] at this;exact this
 have e26:(i.op == 26)=true:=by simpa using bE
 have e27:(i.op == 27)=false:=by simp;omega
 have hrun:=hB.TY
 clear ho bE hB
 obtain ⟨h,S,g,r,vU,hh,hT,htop⟩:=H.out.at
 have hf:h.fs=f :: rs:=by rw [← htop];exact hs.out.fs
 have d0:=cK H.out
 have d6:=(bP H.out.tk.blk).2.2.2.2.2.2.1
 rw [x9.out] at d6
 have HF:=Sb.hide hf
 have HT:=Sb.hide hT
 have bQ:=Sb.hide hs.out.un
 have dD:=Sb.hide hs.out.code
 have jl:=lt_of_block H.out.tk.blk
 clear hf hh hT htop
 go_enter Tryz.func65,Tryz.ntmps65
 go_wp2_with fail
 refine (jK c L o t.hand P _ h S g r vU HT (Sb.hide H.out.cx) (Sb.hide H.out.ok) f rs HF u bQ i dD).mono ?_
 rintro e w1 ⟨rfl,hb1⟩
 have hz1:=hb1.size
 have HB2:Hid (Below w.heap.size w (w1.alloc (aC i))):=hb1.alloc hb1.size _
 have HS2:=Sb.hide (H.out.below HB2.out)
 have hxb:(w1.alloc (aC i)).heap[w1.heap.size]?=some (aC i):=heap_alloc_new w1 _
 have HXB:=Sb.hide hxb
 clear hb1 d0 d6 hxb
 have b1:=(bP HS2.out.tk.blk).2.1
 rw [HV.out] at b1
 have bc:=HC.out _ _ _ _ HS2.out.en
 obtain ⟨q0,q1,q2⟩:=KY HXB.out
 rw [bR.out] at q1
 go_upto_region 4 with fail
 generalize w1.alloc (aC i)=W2 at *
 have s0:(W2.drew.cell? ⟨w1.heap.size,0,none⟩=some (.int .i64 i.op)∧W2.drew.cell? ⟨w1.heap.size,1,none⟩=some (.int .i64 n))∧W2.drew.cell? ⟨T,1,none⟩=some (.slice (some ⟨b,off,none⟩) nb cap)∧W2.drew.cell? ⟨b,off+n,none⟩=some (.iface ty p):=⟨⟨q0,q1⟩,b1,bc⟩
 refine wp_region_held_drew (S:=fun w'=>(w'.cell? ⟨w1.heap.size,0,none⟩=some (.int .i64 i.op)∧w'.cell? ⟨w1.heap.size,1,none⟩=some (.int .i64 n))∧w'.cell? ⟨T,1,none⟩=some (.slice (some ⟨b,off,none⟩) nb cap)∧w'.cell? ⟨b,off+n,none⟩=some (.iface ty p)) (by kernel_rfl) s0 (fun hHeld=>?_)
 refine wpAnyH_take (i:=0) (oi:=_) (v:=?_) rfl (by kernel_rfl) (by kernel_rfl) (by kernel_rfl) (fun _ _ _ h=>h) (Or.inl ⟨by rfl,?_⟩) (by assumption) ?_
 rotate_left
 ·intro w hSw
  (try dsimp only at hSw)
  go_simp
  (try with_reducible rfl)
 (try simp only [Act.put])
 refine wpAnyH_take (i:=1) (oi:=_) (v:=?_) rfl (by kernel_rfl) (by kernel_rfl) (by kernel_rfl) (fun _ _ _ h=>h) (Or.inl ⟨by rfl,?_⟩) (by assumption) ?_
 rotate_left
 ·intro w hSw
  (try dsimp only at hSw)
  go_simp
  (try with_reducible rfl)
 (try simp only [Act.put])
 refine wpAnyH_take (i:=2) (oi:=_) (v:=?_) rfl (by kernel_rfl) (by kernel_rfl) (by kernel_rfl) (fun _ _ _ h=>h) (Or.inl ⟨by rfl,?_⟩) (by assumption) ?_
 rotate_left
 ·intro w hSw
  (try dsimp only at hSw)
  go_simp
  (try with_reducible rfl)
 (try simp only [Act.put])
 refine wpAnyH_take (i:=3) (oi:=_) (v:=?_) rfl (by kernel_rfl) (by kernel_rfl) (by kernel_rfl) (fun _ _ _ h=>h) (Or.inl ⟨by rfl,?_⟩) (by assumption) ?_
 rotate_left
 ·intro w hSw
  (try dsimp only at hSw)
  go_simp
  (try with_reducible rfl)
 (try simp only [Act.put])
 refine wpAnyH_take (i:=8) (oi:=_) (v:=?_) rfl (by kernel_rfl) (by kernel_rfl) (by kernel_rfl) (fun _ _ _ h=>h) (Or.inl ⟨by rfl,?_⟩) (by assumption) ?_
 rotate_left
 ·intro w hSw
  (try dsimp only at hSw)
  go_simp
  (try with_reducible rfl)
 (try simp only [Act.put])
 refine wpAnyH_take (i:=9) (oi:=_) (v:=?_) rfl (by kernel_rfl) (by kernel_rfl) (by kernel_rfl) (fun _ _ _ h=>h) (Or.inl ⟨by rfl,?_⟩) (by assumption) ?_
 rotate_left
 ·intro w hSw
  (try dsimp only at hSw)
  go_simp
  (try with_reducible rfl)
 (try simp only [Act.put])
 refine wpAnyH_ready (rs:=[4]) (by kernel_rfl) (by simp) ?_
 refine AllReadyH.cons (o:=_) rfl (fun K hK=>?_) AllReadyH.nil
 go_simp
 refine hK.out _ _ s0 (fun hHeld=>?_)
 clear hK K
 refine wpAnyH_take (i:=5) (oi:=_) (v:=?_) rfl (by kernel_rfl) (by kernel_rfl) (by kernel_rfl) (fun _ _ _ h=>h) (Or.inl ⟨by rfl,?_⟩) (by assumption) ?_
 rotate_left
 ·intro w hSw
  (try dsimp only at hSw)
  go_simp
  (try with_reducible rfl)
 (try simp only [Act.put])
 refine wpAnyH_take (i:=6) (oi:=_) (v:=?_) rfl (by kernel_rfl) (by kernel_rfl) (by kernel_rfl) (fun _ _ _ h=>h) (Or.inl ⟨by rfl,?_⟩) (by assumption) ?_
 rotate_left
 ·intro w hSw
  (try dsimp only at hSw)
  go_simp
  (try with_reducible rfl)
 (try simp only [Act.put])
 refine wpAnyH_take (i:=7) (oi:=_) (v:=?_) rfl (by kernel_rfl) (by kernel_rfl) (by kernel_rfl) (fun _ _ _ h=>h) (Or.inl ⟨by rfl,?_⟩) (by assumption) ?_
 rotate_left
 ·intro w hSw
  (try dsimp only at hSw)
  go_simp
  (try with_reducible rfl)
 (try simp only [Act.put])
 refine wpAnyH_ready (rs:=[10]) (by kernel_rfl) (by simp) ?_
 refine AllReadyH.cons (o:=_) rfl (fun K hK=>?_) AllReadyH.nil
 go_simp
 refine hK.out _ _ s0 (fun hHeld=>?_)
 clear hK K
 refine wpAnyH_take (i:=11) (oi:=_) (v:=?_) rfl (by kernel_rfl) (by kernel_rfl) (by kernel_rfl) (fun _ _ _ h=>h) (Or.inl ⟨by rfl,?_⟩) (by assumption) ?_
 rotate_left
 ·intro w hSw
  (try dsimp only at hSw)
  go_simp
  (try with_reducible rfl)
 (try simp only [Act.put])
 refine wpAnyH_ready (rs:=[12]) (by kernel_rfl) (by simp) ?_
 refine AllReadyH.cons (o:=_) rfl (fun K hK=>?_) AllReadyH.nil
 go_simp
 refine (HB.out.full L _ _ x (Sb.hide HS2.out.drew.en)).mono ?_
 rintro e w' ⟨rfl,d2,rfl⟩
 rw [jO.out]
 refine hK.out _ _ s0 (fun hHeld=>?_)
 clear hK K
 have sJ:=Sb.hide vI.out
 cases bb with
 | true =>
  refine wpAnyH_ready (rs:=[13]) (by kernel_rfl) (by simp) ?_
  refine AllReadyH.cons (o:=_) rfl (fun K hK=>?_) AllReadyH.nil
  go_simp
  refine hK.out _ _ s0 (fun hHeld=>?_)
  clear hK K
  refine wpAnyH_ready (rs:=[14]) (by kernel_rfl) (by simp) ?_
  refine AllReadyH.cons (o:=_) rfl (fun K hK=>?_) AllReadyH.nil
  go_simp
  refine hK.out _ _ s0 (fun hHeld=>?_)
  clear hK K
  refine wpAnyH_done (by kernel_rfl) ?_ _
  clear s0 hHeld hrun
  go_wp2
  go_quiet (fail)
  go_wp2
  go_ret2
  refine ⟨?_,below_drewN (below_drewN HB2.out _) _⟩
  have h1:=sJ.out
  rw [if_pos trivial] at h1
  simp only [Prod.mk.injEq] at h1
  rw [h1.1,h1.2,bR.out,Int.toNat_natCast]
  rfl
 | false =>
  refine wpAnyH_ready (rs:=[13]) (by kernel_rfl) (by simp) ?_
  refine AllReadyH.cons (o:=_) rfl (fun K hK=>?_) AllReadyH.nil
  go_simp
  refine hK.out _ _ s0 (fun hHeld=>?_)
  clear hK K
  refine wpAnyH_ready (rs:=[14]) (by kernel_rfl) (by simp) ?_
  refine AllReadyH.cons (o:=_) rfl (fun K hK=>?_) AllReadyH.nil
  go_simp
  refine hK.out _ _ s0 (fun hHeld=>?_)
  clear hK K
  refine wpAnyH_done (by kernel_rfl) ?_ _
  clear s0 hHeld hrun bc b1 hnb n0 n1
  go_wp2
  go_quiet (fail)
  go_wp2
  go_ret2
  refine ⟨?_,below_drewN (below_drewN HB2.out _) _⟩
  have h1:=sJ.out
  rw [if_neg (by simp)] at h1
  simp only [Prod.mk.injEq] at h1
  rw [h1.1,h1.2]
  rfl
end
section
variable {β:Type} (E:Env β) (X:fQ β) (c:Cx) (vB ev:Value) (o T:Nat) (L:az) (P:Nat→Nat) (w:World) (t:Tk) (x:β) (vR vO:Value) (H:Hid (St E c vB ev o T L P w t x vR vO))
include H
theorem UE (hX:Hid (lv E X c vB))(f:Wk)(rs:List Wk)(u:Un)(i:Ins)(hs:Hid (lF c t f rs u i))(ho:t.over=0)(h27:i.op=27)(bb:Bool)(hbb:Hid (X.empty x i.a.toNat=bb))(s q:Nat)(vI:Hid ((s,q)=if bb=true then (3,i.a.toNat) else (1,0))) :
  Calls Tryz.prog 65 #[.pointer (some ⟨T,0,none⟩)] w fun e w'=>e=.returned (.tuple #[.int .i64 s,.int .i64 q])∧Below w.heap.size w w':=by
 have x9:=Sb.hide ho
 obtain ⟨n,hn,hnb⟩:=hs.out.box (.inr h27)
 obtain ⟨b,off,cap,ty,p,fF,fE,fP,fT,hv,hcell,hB⟩:=hX.out.at' n hnb
 obtain ⟨nb,mZ⟩:∃ m,m=c.m.boxes.length:=⟨_,rfl⟩
 rw [← mZ] at hv hnb
 have HV:=Sb.hide hv
 have HC:=Sb.hide hcell
 have HB:=Sb.hide hB
 have bR:=Sb.hide hn
 have n0:(0:Int)≤(n:Int):=by omega
 have n1:(n:Int) < (nb:Int):=by omega
 clear hv hcell mZ hn
 have jO:Hid (X.empty x n=bb):=by unfold Hid;have:=hbb.out;rw [bR.out,Int.toNat_natCast] at this;exact this
 have e26:(i.op == 26)=false:=by simp;omega
 have e27:(i.op == 27)=true:=by simpa using h27
 have hrun:=hB.TZ
 clear ho h27 hB
 obtain ⟨h,S,g,r,vU,hh,hT,htop⟩:=H.out.at
 have hf:h.fs=f :: rs:=by rw [← htop];exact hs.out.fs
 have d0:=cK H.out
 have d6:=(bP H.out.tk.blk).2.2.2.2.2.2.1
 rw [x9.out] at d6
 have HF:=Sb.hide hf
 have HT:=Sb.hide hT
 have bQ:=Sb.hide hs.out.un
 have dD:=Sb.hide hs.out.code
 have jl:=lt_of_block H.out.tk.blk
 clear hf hh hT htop
 go_enter Tryz.func65,Tryz.ntmps65
 go_wp2_with fail
 refine (jK c L o t.hand P _ h S g r vU HT (Sb.hide H.out.cx) (Sb.hide H.out.ok) f rs HF u bQ i dD).mono ?_
 rintro e w1 ⟨rfl,hb1⟩
 have hz1:=hb1.size
 have HB2:Hid (Below w.heap.size w (w1.alloc (aC i))):=hb1.alloc hb1.size _
 have HS2:=Sb.hide (H.out.below HB2.out)
 have hxb:(w1.alloc (aC i)).heap[w1.heap.size]?=some (aC i):=heap_alloc_new w1 _
 have HXB:=Sb.hide hxb
 clear hb1 d0 d6 hxb
 have b1:=(bP HS2.out.tk.blk).2.1
 rw [HV.out] at b1
 have bc:=HC.out _ _ _ _ HS2.out.en
 obtain ⟨q0,q1,q2⟩:=KY HXB.out
 rw [bR.out] at q1
 go_wp2
 go_quiet (fail)
 rename_i nq
 go_upto_region 6 with fail
 generalize w1.alloc (aC i)=W2 at *
 have s0:(W2.drew.cell? ⟨w1.heap.size,0,none⟩=some (.int .i64 i.op)∧W2.drew.cell? ⟨w1.heap.size,1,none⟩=some (.int .i64 n))∧W2.drew.cell? ⟨T,1,none⟩=some (.slice (some ⟨b,off,none⟩) nb cap)∧W2.drew.cell? ⟨b,off+n,none⟩=some (.iface ty p):=⟨⟨q0,q1⟩,b1,bc⟩
 refine wp_region_held_drew (S:=fun w'=>(w'.cell? ⟨w1.heap.size,0,none⟩=some (.int .i64 i.op)∧w'.cell? ⟨w1.heap.size,1,none⟩=some (.int .i64 n))∧w'.cell? ⟨T,1,none⟩=some (.slice (some ⟨b,off,none⟩) nb cap)∧w'.cell? ⟨b,off+n,none⟩=some (.iface ty p)) (by kernel_rfl) s0 (fun hHeld=>?_)
 refine wpAnyH_take (i:=0) (oi:=_) (v:=?_) rfl (by kernel_rfl) (by kernel_rfl) (by kernel_rfl) (fun _ _ _ h=>h) (Or.inl ⟨by rfl,?_⟩) (by assumption) ?_
 rotate_left
 ·intro w hSw
  (try dsimp only at hSw)
  go_simp
  (try with_reducible rfl)
 (try simp only [Act.put])
 refine wpAnyH_take (i:=1) (oi:=_) (v:=?_) rfl (by kernel_rfl) (by kernel_rfl) (by kernel_rfl) (fun _ _ _ h=>h) (Or.inl ⟨by rfl,?_⟩) (by assumption) ?_
 rotate_left
 ·intro w hSw
  (try dsimp only at hSw)
  go_simp
  (try with_reducible rfl)
 (try simp only [Act.put])
 refine wpAnyH_take (i:=2) (oi:=_) (v:=?_) rfl (by kernel_rfl) (by kernel_rfl) (by kernel_rfl) (fun _ _ _ h=>h) (Or.inl ⟨by rfl,?_⟩) (by assumption) ?_
 rotate_left
 ·intro w hSw
  (try dsimp only at hSw)
  go_simp
  (try with_reducible rfl)
 (try simp only [Act.put])
 refine wpAnyH_take (i:=3) (oi:=_) (v:=?_) rfl (by kernel_rfl) (by kernel_rfl) (by kernel_rfl) (fun _ _ _ h=>h) (Or.inl ⟨by rfl,?_⟩) (by assumption) ?_
 rotate_left
 ·intro w hSw
  (try dsimp only at hSw)
  go_simp
  (try with_reducible rfl)
 (try simp only [Act.put])
 refine wpAnyH_take (i:=8) (oi:=_) (v:=?_) rfl (by kernel_rfl) (by kernel_rfl) (by kernel_rfl) (fun _ _ _ h=>h) (Or.inl ⟨by rfl,?_⟩) (by assumption) ?_
 rotate_left
 ·intro w hSw
  (try dsimp only at hSw)
  go_simp
  (try with_reducible rfl)
 (try simp only [Act.put])
 refine wpAnyH_take (i:=9) (oi:=_) (v:=?_) rfl (by kernel_rfl) (by kernel_rfl) (by kernel_rfl) (fun _ _ _ h=>h) (Or.inl ⟨by rfl,?_⟩) (by assumption) ?_
 rotate_left
 ·intro w hSw
  (try dsimp only at hSw)
  go_simp
  (try with_reducible rfl)
 (try simp only [Act.put])
 refine wpAnyH_ready (rs:=[4]) (by kernel_rfl) (by simp) ?_
 refine AllReadyH.cons (o:=_) rfl (fun K hK=>?_) AllReadyH.nil
 go_simp
 refine hK.out _ _ s0 (fun hHeld=>?_)
 clear hK K
 refine wpAnyH_take (i:=5) (oi:=_) (v:=?_) rfl (by kernel_rfl) (by kernel_rfl) (by kernel_rfl) (fun _ _ _ h=>h) (Or.inl ⟨by rfl,?_⟩) (by assumption) ?_
 rotate_left
 ·intro w hSw
  (try dsimp only at hSw)
  go_simp
  (try with_reducible rfl)
 (try simp only [Act.put])
 refine wpAnyH_take (i:=6) (oi:=_) (v:=?_) rfl (by kernel_rfl) (by kernel_rfl) (by kernel_rfl) (fun _ _ _ h=>h) (Or.inl ⟨by rfl,?_⟩) (by assumption) ?_
 rotate_left
 ·intro w hSw
  (try dsimp only at hSw)
  go_simp
  (try with_reducible rfl)
 (try simp only [Act.put])
 refine wpAnyH_take (i:=7) (oi:=_) (v:=?_) rfl (by kernel_rfl) (by kernel_rfl) (by kernel_rfl) (fun _ _ _ h=>h) (Or.inl ⟨by rfl,?_⟩) (by assumption) ?_
 rotate_left
 ·intro w hSw
  (try dsimp only at hSw)
  go_simp
  (try with_reducible rfl)
 (try simp only [Act.put])
 refine wpAnyH_ready (rs:=[10]) (by kernel_rfl) (by simp) ?_
 refine AllReadyH.cons (o:=_) rfl (fun K hK=>?_) AllReadyH.nil
 go_simp
 refine hK.out _ _ s0 (fun hHeld=>?_)
 clear hK K
 refine wpAnyH_take (i:=11) (oi:=_) (v:=?_) rfl (by kernel_rfl) (by kernel_rfl) (by kernel_rfl) (fun _ _ _ h=>h) (Or.inl ⟨by rfl,?_⟩) (by assumption) ?_
 rotate_left
 ·intro w hSw
  (try dsimp only at hSw)
  go_simp
  (try with_reducible rfl)
 (try simp only [Act.put])
 refine wpAnyH_ready (rs:=[12]) (by kernel_rfl) (by simp) ?_
 refine AllReadyH.cons (o:=_) rfl (fun K hK=>?_) AllReadyH.nil
 go_simp
 refine (HB.out.empty L _ _ x (Sb.hide (HS2.out.below (below_drewN (Below.refl _ _) nq)).drew.en)).mono ?_
 rintro e w' ⟨rfl,d2,rfl⟩
 rw [jO.out]
 refine hK.out _ _ s0 (fun hHeld=>?_)
 clear hK K
 have sJ:=Sb.hide vI.out
 cases bb with
 | true =>
  refine wpAnyH_ready (rs:=[13]) (by kernel_rfl) (by simp) ?_
  refine AllReadyH.cons (o:=_) rfl (fun K hK=>?_) AllReadyH.nil
  go_simp
  refine hK.out _ _ s0 (fun hHeld=>?_)
  clear hK K
  refine wpAnyH_ready (rs:=[14]) (by kernel_rfl) (by simp) ?_
  refine AllReadyH.cons (o:=_) rfl (fun K hK=>?_) AllReadyH.nil
  go_simp
  refine hK.out _ _ s0 (fun hHeld=>?_)
  clear hK K
  refine wpAnyH_done (by kernel_rfl) ?_ _
  clear s0 hHeld hrun
  go_wp2
  go_quiet (fail)
  go_wp2
  go_ret2
  refine ⟨?_,⟨HB2.out.os,HB2.out.tape,HB2.out.output,HB2.out.size,HB2.out.block⟩⟩
  have h1:=sJ.out
  rw [if_pos trivial] at h1
  simp only [Prod.mk.injEq] at h1
  rw [h1.1,h1.2,bR.out,Int.toNat_natCast]
  rfl
 | false =>
  refine wpAnyH_ready (rs:=[13]) (by kernel_rfl) (by simp) ?_
  refine AllReadyH.cons (o:=_) rfl (fun K hK=>?_) AllReadyH.nil
  go_simp
  refine hK.out _ _ s0 (fun hHeld=>?_)
  clear hK K
  refine wpAnyH_ready (rs:=[14]) (by kernel_rfl) (by simp) ?_
  refine AllReadyH.cons (o:=_) rfl (fun K hK=>?_) AllReadyH.nil
  go_simp
  refine hK.out _ _ s0 (fun hHeld=>?_)
  clear hK K
  refine wpAnyH_done (by kernel_rfl) ?_ _
  clear s0 hHeld hrun bc b1 hnb n0 n1
  go_wp2
  go_ret2
  refine ⟨?_,⟨HB2.out.os,HB2.out.tape,HB2.out.output,HB2.out.size,HB2.out.block⟩⟩
  have h1:=sJ.out
  rw [if_neg (by simp)] at h1
  simp only [Prod.mk.injEq] at h1
  rw [h1.1,h1.2]
  rfl
theorem KZ (hX:Hid (lv E X c vB))(hs:Hid (t.over=0→∃ f rs u i,lF c t f rs u i)) :
  Calls Tryz.prog 65 #[.pointer (some ⟨T,0,none⟩)] w fun e w'=>e=.returned (.tuple #[.int .i64 (stat X c.m t x).1,.int .i64 (stat X c.m t x).2])∧Below w.heap.size w w':=by
 by_cases ho:t.over=0
 ·obtain ⟨f,rs,u,i,h⟩:=hs.out ho
  have hi:=h.ins
  unfold stat
  rw [if_neg (by omega),hi]
  by_cases bE:i.op=26
  ·refine (UD E X c vB ev o T L P w t x vR vO H hX f rs u i h ho bE (X.full x i.a.toNat) (Sb.hide rfl) _ _ (Sb.hide rfl)).mono ?_
   rintro e w' ⟨rfl,hb⟩
   refine ⟨?_,hb⟩
   cases hf:X.full x i.a.toNat with
   | true=>rw [if_pos ⟨bE,rfl⟩];rfl
   | false=>rw [if_neg (by simp),if_neg (by omega)];rfl
  ·rw [if_neg (fun hx=>bE hx.1)]
   by_cases h27:i.op=27
   ·refine (UE E X c vB ev o T L P w t x vR vO H hX f rs u i h ho h27 (X.empty x i.a.toNat) (Sb.hide rfl) _ _ (Sb.hide rfl)).mono ?_
    rintro e w' ⟨rfl,hb⟩
    refine ⟨?_,hb⟩
    cases hf:X.empty x i.a.toNat with
    | true=>rw [if_pos ⟨h27,rfl⟩];rfl
    | false=>rw [if_neg (by simp)];rfl
   ·rw [if_neg (fun hx=>h27 hx.1)]
    exact UC E c vB ev o T L P w t x vR vO H f rs u i h ho bE h27
 ·unfold stat
  rw [if_pos ho]
  exact UA E c vB ev o T L P w t x vR vO H ho
theorem K3 (hX:Hid (lv E X c vB))(hs:Hid (t.over=0→∃ f rs u i,lF c t f rs u i))(b:Bool)(hb:Hid (b=((stat X c.m t x).1 == 1))) :
  Calls Tryz.prog 37 #[.pointer (some ⟨T,0,none⟩)] w fun e w'=>e=.returned (.bool b)∧Below w.heap.size w w':=by
 obtain ⟨s,hs1⟩:∃ s,s=(stat X c.m t x).1:=⟨_,rfl⟩
 obtain ⟨q,hq1⟩:∃ q,q=(stat X c.m t x).2:=⟨_,rfl⟩
 have HS:=Sb.hide hs1
 have HQ:=Sb.hide hq1
 have e1:((s:Int) == 1)=b:=by rw [hb.out,← hs1,Bool.eq_iff_iff];simp;omega
 clear hs1 hq1
 go_enter Tryz.func37,Tryz.ntmps37
 go_wp2_with fail
 refine (KZ E X c vB ev o T L P _ t x vR vO H hX hs).mono ?_
 rintro e w1 ⟨rfl,hb1⟩
 rw [← HS.out,← HQ.out]
 have HB1:=Sb.hide hb1
 clear hb1
 go_wp2
 go_ret
 exact ⟨rfl,HB1.out⟩
end
end Go.Proofs.YthffafaoobpedaaGreatDoor.Vw

/- The walk of leave. -/
import Derived.Test.YtfcpglhpolpdcaaGreatDoorM7
set_option maxHeartbeats 4000000
namespace Go.Proofs.YtfcpglhpolpdcaaGreatDoor.Vw
open Go.RowKit Vf Vm
theorem M5 {c:Cx}{L:av}{o i:Nat}{P:Nat→Nat}{w w1:World}{h h2:Th}{S:Nat}{vU:Value}{U cap d:Nat}{f:Wk}{rs:List Wk}(hp:iG c L o i P w w1 { h with ws:=h.ws.take f.base } S vU)(hf:h.fs=f :: rs)(hU:vU=.slice (some ⟨U,0,none⟩) (rs.length+1) cap)(qx:h2={ h with ws:=h.ws.take f.base,fs:=rs }) :
  fq c L o i P w ((w1.drewN d).setCell ⟨P i,1,none⟩ (.slice (some ⟨U,0,none⟩) rs.length cap)) h2:=by
 obtain⟨L1,g1,r1,hp1,e1,e2,e3⟩:=hp;subst qx;have hl:=(hp1.drewN d).left (f:=f) (rs:=rs) hf hU;have hz:=e3.size;refine⟨L1,S,g1,r1,_,hl,e1,e2.on (by simp[World.setCell]),(e3.drewN d).set ?_ _⟩;by_cases hx:P i<w.heap.size
 ·left
  have:=hp1.l0;rw[e1.1 _ hx] at this;unfold dn;rw[this];exact⟨rfl,rfl,rfl⟩
 ·right;show w.heap.size≤P i;omega
theorem WV (c:Cx)(L:av)(o i:Nat)(P:Nat→Nat)(w:World)(h:Th)(S g r:Nat)(vU:Value)(H:Hid (aD c L o i P w h S g r vU))(hL:Hid (bF c.B L w))(f:Wk)(rs:List Wk)(hf:Hid (h.fs=f :: rs))(hb:f.base≤h.ws.length)(h2:Th)(qx:Hid (h2={ h with ws:=h.ws.take f.base,fs:=rs })) :
  Calls Tryz.prog 206 #[.pointer (some ⟨P i,0,none⟩)] w fun e w'=>e=.returned (.tuple #[])∧fq c L o i P w w' h2:=by
 obtain⟨U,cap,cur,hU,hh,_⟩:=H.out.work hf.out;obtain⟨k0,k1,k2,k3⟩:=H.out.inner hf.out hU;obtain⟨c0,c1,c2,c3⟩:=H.out.cells;have HU:=Sb.hide hU;have hfit:=H.out.stack.2.2;unfold Sk.Fits at hfit;have dx:h.ws.length≤400:=by omega
 obtain⟨n,hn⟩:∃ n,n=h.ws.length:=⟨_,rfl⟩;have HN:Hid (n=h.ws.length):=hn;have MW:n≤400:=by omega
 have hbn:f.base≤n:=by omega
 have rJ:Hid (IntKind.i64.wrap ((n:Int) - (f.base:Int))=(n:Int) - (f.base:Int)):=IntWalk.i64_in _ ⟨by omega,by omega⟩;have WW:Hid (h.ws.take f.base=if (n:Int) - (f.base:Int)<0∨(h.ws.length:Int)<(n:Int) - (f.base:Int) then h.ws else h.ws.take (h.ws.length - ((n:Int) - (f.base:Int)).toNat)):=by
  unfold Hid;rw[if_neg (by omega)];congr 1
  omega
 clear hfit hn dx hU hh hb;go_enter Tryz.func206,Tryz.ntmps206
 go_wp2
 go_region_held3 (fun w'=>w'.cell? ⟨P i,0,none⟩=some (.pointer (some ⟨S,0,none⟩))∧w'.cell? ⟨U,rs.length * 3+2,none⟩=some (.int .i64 f.base)) (go_keep) (first | (go_at_call 184;rw[rJ.out];refine (Gv c L o i P _ h S g r vU (Sb.hide (H.out.drewN _)) (Sb.hide (hL.out.on (Nat.le_refl _))) _ _ WW).mono ?_;rintro e w1 ⟨⟨x,rfl⟩,hp⟩;have HP:=Sb.hide hp.drewN;obtain⟨L1,g1,r1,hp1,_⟩:=hp;obtain⟨c0,c1,c2,c3⟩:=hp1.cells;obtain⟨k0,k1,k2,k3⟩:=hp1.inner hf.out HU.out;clear hp1) | (go_at_call 182;refine (Df S g h.ws r 8 400 _ (by exact H.out.stack)).mono ?_;rintro e w' ⟨rfl,rfl⟩;rw[← HN.out]) | (go_at_call 144;refine (kT c L o i P _ h S g r vU (Sb.hide (H.out.drewN _)) f rs hf U cap HU).mono ?_;rintro e w' ⟨rfl,d,rfl⟩))
 have hPs:P i<w1.heap.size:=by
  have:=HP.out;obtain⟨L1,g1,r1,hp1,_⟩:=this;exact lt_of_block hp1.blk
 rw[HU.out] at c1;have n0:(0:Int)≤(rs.length:Int):=by omega
 have n1:rs.length+1≤40:=by have:=H.out.few;rw[hf.out] at this;simpa using this
 have n2:rs.length+1≤cap:=by obtain⟨U',cap',cur',e1,_,e2,_⟩:=H.out.work hf.out;rw[HU.out] at e1;simp at e1;omega
 have fr:w1.frozen? ⟨P i,1,none⟩=false:=by
  have:=HP.out;obtain⟨L1,g1,r1,hp1,_⟩:=this;exact hp1.free 1
 have hw1:IntKind.i64.wrap (rs.length:Int)=(rs.length:Int):=IntWalk.i64_in _ ⟨by omega,by omega⟩;have n3:(rs.length:Int)≤(cap:Int):=by omega
 clear k0 k1 k2 k3 c0 c2 c3;go_upto_region 1 with fail
 refine wp_region_held_drew (S:=fun _=>True) (by kernel_rfl) trivial (fun hHeld=>?_);refine wpAnyH_take (i:=0) (oi:=_) (v:=?_) rfl (by kernel_rfl) (by kernel_rfl) (by kernel_rfl) (fun _ _ _ h=>h) (Or.inl ⟨by rfl,?_⟩) (by assumption) ?_;rotate_left
 ·intro w hSw
  (try dsimp only at hSw)
  go_simp
  (try with_reducible rfl)
 refine wpAnyH_take (i:=1) (oi:=_) (v:=?_) rfl (by kernel_rfl) (by kernel_rfl) (by kernel_rfl) (fun _ _ _ h=>h) (Or.inl ⟨by rfl,?_⟩) (by assumption) ?_;rotate_left
 ·intro w hSw
  (try dsimp only at hSw)
  go_simp
  (try with_reducible rfl)
 refine wpAnyH_take (i:=2) (oi:=_) (v:=?_) rfl (by kernel_rfl) (by kernel_rfl) (by kernel_rfl) (fun _ _ _ h=>h) (Or.inl ⟨by rfl,?_⟩) (by assumption) ?_;rotate_left
 ·intro w hSw
  (try dsimp only at hSw)
  go_simp
  (try with_reducible rfl)
 refine wpAnyH_take (i:=3) (oi:=_) (v:=?_) rfl (by kernel_rfl) (by kernel_rfl) (by kernel_rfl) (fun _ _ _ h=>h) (Or.inl ⟨by rfl,?_⟩) (by assumption) ?_;rotate_left
 ·intro w hSw
  (try dsimp only at hSw)
  go_simp
  (try with_reducible rfl)
 refine wpAnyH_take (i:=5) (oi:=_) (v:=?_) rfl (by kernel_rfl) (by kernel_rfl) (by kernel_rfl) (fun _ _ _ h=>h) (Or.inl ⟨by rfl,?_⟩) (by assumption) ?_;rotate_left
 ·intro w hSw
  (try dsimp only at hSw)
  go_simp
  (try with_reducible rfl)
 refine wpAnyH_take (i:=6) (oi:=_) (v:=?_) rfl (by kernel_rfl) (by kernel_rfl) (by kernel_rfl) (fun _ _ _ h=>h) (Or.inl ⟨by rfl,?_⟩) (by assumption) ?_;rotate_left
 ·intro w hSw
  (try dsimp only at hSw)
  go_simp
  (try with_reducible rfl)
 refine wpAnyH_take (i:=7) (oi:=_) (v:=?_) rfl (by kernel_rfl) (by kernel_rfl) (by kernel_rfl) (fun _ _ _ h=>h) (Or.inl ⟨by rfl,?_⟩) (by assumption) ?_;rotate_left
 ·intro w hSw
  (try dsimp only at hSw)
  go_simp
  (try with_reducible rfl)
 refine wpAnyH_ready (rs:=[4,8]) (by kernel_rfl) (by simp) ?_;refine AllReadyH.cons (o:=_) rfl (fun K hK=>?_) ?_
 ·go_simp
  refine hK.out _ _ trivial (fun hHeld=>?_);clear hK K;refine wpAnyH_ready (rs:=[8]) (by kernel_rfl) (by simp) ?_;refine AllReadyH.cons (o:=_) rfl (fun K hK=>?_) AllReadyH.nil;go_simp
  refine hK.out _ _ trivial (fun hHeld=>?_);clear hK K;refine wpAnyH_take (i:=9) (oi:=_) (v:=?_) rfl (by kernel_rfl) (by kernel_rfl) (by kernel_rfl) (fun _ _ _ h=>h) (Or.inl ⟨by rfl,?_⟩) (by assumption) ?_;rotate_left
  ·intro w hSw
   (try dsimp only at hSw)
   go_simp
   (try with_reducible rfl)
  refine wpAnyH_take (i:=10) (oi:=_) (v:=?_) rfl (by kernel_rfl) (by kernel_rfl) (by kernel_rfl) (fun _ _ _ h=>h) (Or.inl ⟨by rfl,?_⟩) (by assumption) ?_;rotate_left
  ·intro w hSw
   (try dsimp only at hSw)
   go_simp
   (try with_reducible rfl)
  refine wpAnyH_take (i:=11) (oi:=_) (v:=.slice (some ⟨U,0,none⟩) rs.length cap) rfl (by kernel_rfl) (by kernel_rfl) (by kernel_rfl) (fun _ _ _ h=>h) (Or.inl ⟨by rfl,?_⟩) (by assumption) ?_
  ·intro w hSw
   go_simp
  refine wpAnyH_take (i:=12) (oi:=_) (v:=?_) rfl (by kernel_rfl) (by kernel_rfl) (by kernel_rfl) (fun _ _ _ h=>h) (Or.inl ⟨by rfl,?_⟩) (by assumption) ?_;rotate_left
  ·intro w hSw
   (try dsimp only at hSw)
   go_simp
   (try with_reducible rfl)
  refine wpAnyH_take (i:=13) (oi:=_) (v:=?_) rfl (by kernel_rfl) (by kernel_rfl) (by kernel_rfl) (fun _ _ _ h=>h) (Or.inl ⟨by rfl,?_⟩) (by assumption) ?_;rotate_left
  ·intro w hSw
   (try dsimp only at hSw)
   go_simp
   (try with_reducible rfl)
  refine wpAnyH_ready (rs:=[14]) (by kernel_rfl) (by simp) ?_;refine AllReadyH.cons (o:=_) rfl (fun K hK=>?_) AllReadyH.nil;go_simp
  refine hK.out _ _ trivial (fun hHeld=>?_);clear hK K;refine wpAnyH_done (by kernel_rfl) ?_ _;go_wp2
  go_end0
  refine⟨rfl,?_⟩;exact M5 HP.out hf.out HU.out qx.out
 refine AllReadyH.cons (o:=_) rfl (fun K hK=>?_) AllReadyH.nil;go_simp
 refine hK.out _ _ trivial (fun hHeld=>?_);clear hK K;refine wpAnyH_take (i:=9) (oi:=_) (v:=?_) rfl (by kernel_rfl) (by kernel_rfl) (by kernel_rfl) (fun _ _ _ h=>h) (Or.inl ⟨by rfl,?_⟩) (by assumption) ?_;rotate_left
 ·intro w hSw
  (try dsimp only at hSw)
  go_simp
  (try with_reducible rfl)
 refine wpAnyH_take (i:=10) (oi:=_) (v:=?_) rfl (by kernel_rfl) (by kernel_rfl) (by kernel_rfl) (fun _ _ _ h=>h) (Or.inl ⟨by rfl,?_⟩) (by assumption) ?_;rotate_left
 ·intro w hSw
  (try dsimp only at hSw)
  go_simp
  (try with_reducible rfl)
 refine wpAnyH_ready (rs:=[4]) (by kernel_rfl) (by simp) ?_;refine AllReadyH.cons (o:=_) rfl (fun K hK=>?_) AllReadyH.nil;go_simp
 refine hK.out _ _ trivial (fun hHeld=>?_);clear hK K;refine wpAnyH_take (i:=11) (oi:=_) (v:=.slice (some ⟨U,0,none⟩) rs.length cap) rfl (by kernel_rfl) (by kernel_rfl) (by kernel_rfl) (fun _ _ _ h=>h) (Or.inl ⟨by rfl,?_⟩) (by assumption) ?_
 ·intro w hSw
  go_simp
 refine wpAnyH_take (i:=12) (oi:=_) (v:=?_) rfl (by kernel_rfl) (by kernel_rfl) (by kernel_rfl) (fun _ _ _ h=>h) (Or.inl ⟨by rfl,?_⟩) (by assumption) ?_;rotate_left
 ·intro w hSw
  (try dsimp only at hSw)
  go_simp
  (try with_reducible rfl)
 refine wpAnyH_take (i:=13) (oi:=_) (v:=?_) rfl (by kernel_rfl) (by kernel_rfl) (by kernel_rfl) (fun _ _ _ h=>h) (Or.inl ⟨by rfl,?_⟩) (by assumption) ?_;rotate_left
 ·intro w hSw
  (try dsimp only at hSw)
  go_simp
  (try with_reducible rfl)
 refine wpAnyH_ready (rs:=[14]) (by kernel_rfl) (by simp) ?_;refine AllReadyH.cons (o:=_) rfl (fun K hK=>?_) AllReadyH.nil;go_simp
 refine hK.out _ _ trivial (fun hHeld=>?_);clear hK K;refine wpAnyH_done (by kernel_rfl) ?_ _;go_wp2
 go_end0
 refine⟨rfl,?_⟩;exact M5 HP.out hf.out HU.out qx.out
abbrev qh (c:Cx) (n:Nat) (u:Un) (al:Option Addr) (cl:Nat):Value:=.agg #[.int .i64 u.kind,.int .i64 u.params,.slice al u.locals.length cl,.int .i64 u.result,.int .i64 u.takes,.slice (c.cv n) u.code.length (c.cc n)]
abbrev aX (c:Cx) (n:Nat) (u:Un) (al:Option Addr) (cl:Nat):Obj:=.cells #[.int .i64 u.kind,.int .i64 u.params,.slice al u.locals.length cl,.int .i64 u.result,.int .i64 u.takes,.slice (c.cv n) u.code.length (c.cc n)] 87
theorem Di {c:Cx}{n:Nat}{u:Un}{al:Option Addr}{cl:Nat}{w:World}{X:Nat}(h:w.heap[X]?=some (aX c n u al cl)):w.cell? ⟨X,1,none⟩=some (.int .i64 u.params)∧w.cell? ⟨X,2,none⟩=some (.slice al u.locals.length cl)∧w.cell? ⟨X,5,none⟩=some (.slice (c.cv n) u.code.length (c.cc n)):=by
 simp[World.cell?,h]
theorem Tryz.WX:(Tryz.prog.info? 257).map (fun i=>(i.zero,i.size,i.bytes))=some (some (.agg #[.slice none 0 0,.int .i64 0,.int .i64 0]),3,40):=by kernel_rfl
structure zB (c:Cx) (L:av) (o i:Nat) (P:Nat→Nat) (w0:World) (h:Th) (X:Nat) (ob:Obj) (k:Nat) (wr:World):Prop where
 post:fq c L o i P w0 wr { h with ws:=h.ws++List.replicate k 0 }
 box:wr.heap[X]?=some ob
theorem zB.next {c:Cx}{L L1:av}{o i:Nat}{P:Nat→Nat}{w0 wr w2:World}{h:Th}{X:Nat}{ob:Obj}{k:Nat}{S:Nat}{vU:Value}(hX:¬ dn L o i X)(hX0:X<w0.heap.size)(hb:wr.heap[X]?=some ob)(hE:Ex o i L L1 w0)(hC:aQ (dn L o i) w0 wr)(hp:iG c L1 o i P wr w2 { h with ws:=h.ws++List.replicate k 0++[0] } S vU):zB c L o i P w0 h X ob (k+1) w2:=by
 have e:h.ws++List.replicate k 0++[0]=h.ws++List.replicate (k+1) 0:=by rw[List.append_assoc,← List.replicate_succ']
 rw[e] at hp;refine⟨hp.qw.trans hE hC,?_⟩;obtain⟨L2,g,r,_,_,_,h4⟩:=hp;refine (h4.block X (lt_of_block hb) (fun hx=>hX ?_)).trans hb;unfold dn at hx ⊢;rw[hE.1 X hX0] at hx;exact hx
theorem M6 (W:World)(a b d:Value)(t:TypeId):∀ j u,[a,b,d][j]?=some u→(W.alloc (.cells #[a,b,d] t)).cell? ((⟨W.heap.size,0,none⟩:Addr).add j)=some u:=by
 intro j u hu;rw[o6,World.cell?_alloc_mark];match j,hu with
 | 0,hu=>simpa using hu
 | 1,hu=>simpa using hu
 | 2,hu=>simpa using hu
 | n+3,hu=>simp at hu
theorem M7 {a b d:Value}(ha:a.oneCell'=true)(hb:b.oneCell'=true)(hd:d.oneCell'=true):∀ u ∈ [a,b,d],u.oneCell'=true:=by
 intro u hu;simp only[List.mem_cons,List.not_mem_nil,or_false] at hu;rcases hu with rfl | rfl | rfl
 ·exact ha
 ·exact hb
 ·exact hd
theorem M8 {w:World}{H S:Nat}{vU:Value}{stands:Nat}{up:Value}(h:w.heap[H]?=some (kr S vU stands up)):w.cell? ⟨H,1,none⟩=some vU∧w.frozen? ⟨H,1,none⟩=false:=by
 simp[World.cell?,World.frozen?,h]
theorem M9 (c:Cx)(L:av)(o i:Nat)(P:Nat→Nat)(w:World)(h:Th)(S g r:Nat)(vU:Value)(H:Hid (aD c L o i P w h S g r vU))(hL:Hid (bF c.B L w))(n:Nat)(u:Un)(hu:Hid (c.m.units[n]?=some u))(al:Option Addr)(cl:Nat)(hp0:0≤u.params)(hpw:u.params≤h.ws.length)(hpl:u.params≤u.locals.length)(hl2:u.locals.length≤200)(dx:h.fs.length<40)(b:Bool)(hb:Hid (b=decide (h.ws.length+(u.locals.length - u.params.toNat)≤400)))(h2:Th)(qx:Hid (h2=if b=true then { h with ws:=h.ws++List.replicate (u.locals.length - u.params.toNat) 0,fs:=⟨n,0,h.ws.length - u.params.toNat⟩ :: h.fs } else { h with ws:=h.ws++List.replicate (400 - h.ws.length) 0 })) :
  Calls Tryz.prog 143 #[.pointer (some ⟨P i,0,none⟩),qh c n u al cl] w fun e w'=>e=.returned (.bool b)∧fq c L o i P w w' h2:=by
 obtain⟨i0,hi,hz0,hz1,hz2⟩:=info_parts Tryz.WX;obtain⟨c0,c1,c2,c3⟩:=H.out.cells;have hfit:=H.out.stack.2.2;unfold Sk.Fits at hfit;have hw4:h.ws.length≤400:=by omega
 have zC:=lt_of_block H.out.blk;have H0:Hid (aD c L o i P (w.alloc (aX c n u al cl)) h S g r vU):=H.out.keep (.refl _ _) rfl rfl (fun b hb _=>Below.heap_alloc _ _ _ hb);have WY:Hid (bF c.B L (w.alloc (aX c n u al cl))):=hL.out.on (by simp);have hX:Hid (¬ dn L o i w.heap.size):=fun hx=>by have:=hL.out.new w.heap.size (Nat.le_refl _);unfold dn at hx;omega
 have HST:Hid (zB c L o i P (w.alloc (aX c n u al cl)) h w.heap.size (aX c n u al cl) 0 (w.alloc (aX c n u al cl)).drew):=by
  refine⟨?_,heap_alloc_new w _⟩;have e:({ h with ws:=h.ws++List.replicate 0 0 }:Th)=h:=by simp
  rw[e];exact (iG.of_same H0.out WY.out 1).qw
 have hwr:IntKind.i64.wrap ((h.ws.length:Int) - u.params)=(h.ws.length:Int) - u.params:=IntWalk.i64_in _ ⟨by omega,by omega⟩;have hne:¬ w.heap.size=P i:=by omega
 have hne2:¬ P i=w.heap.size:=by omega
 clear hfit;go_enter Tryz.func143,Tryz.ntmps143
 go_wp2
 go_region_held3 (fun w'=>w'.cell? ⟨P i,0,none⟩=some (.pointer (some ⟨S,0,none⟩))∧w'.cell? ⟨w.heap.size,1,none⟩=some (.int .i64 u.params)) (go_keep) ((go_at_call 182;refine (Df S g h.ws r 8 400 _ (by exact H0.out.stack)).mono ?_;rintro e w' ⟨rfl,rfl⟩))
 go_wp2
 go_loopw [20] (fun i' wr=>∃ k:Nat,i'=.int .i64 k∧k≤u.locals.length - u.params.toNat∧zB c L o i P (w.alloc (aX c n u al cl)) h w.heap.size (aX c n u al cl) k wr) (fun i' _=>u.locals.length - (intOf i').toNat)
 case atStart=>exact⟨0,rfl,Nat.zero_le _,HST.out⟩
 case round =>
  obtain⟨k,rfl,hk,hA⟩:=hrel;obtain⟨⟨L1,S1,g1,r1,qy,hT1,hE1,hL1,gT⟩,hbx⟩:=hA;have HT1:=Sb.hide hT1;have bC:=Sb.hide hE1;have bW:=Sb.hide hL1;have nW:=Sb.hide gT;have kU:=Sb.hide hbx;have GA:=hT1.stack.2.2;unfold Sk.Fits at GA;obtain⟨d0,d1,d2,d3⟩:=hT1.cells;obtain⟨x1,x2,x5⟩:=Di hbx;have hk4:h.ws.length+k≤400:=by simp at GA;omega
  clear hT1 hE1 hL1 gT hbx GA HST c0 c1 c2 c3;by_cases hlt:k<u.locals.length - u.params.toNat
  ·have n0:(k:Int)<(u.locals.length:Int) - u.params:=by omega
   by_cases Na:h.ws.length+k=400
   ·have HB:Hid (b=false):=by unfold Hid;rw[hb.out];simp;omega
    go_wp2_with fail
    refine (zA c L1 o i P _ _ S1 g1 r1 qy HT1 bW 0 4 (Sb.hide (by rw[if_pos (by simp;omega)])) _ (Sb.hide rfl)).mono ?_;rintro e w2 ⟨rfl,hp2⟩;have xe:Hid (fq c L o i P w w2 h2):=by
     have:=hp2.qw.trans bC.out nW.out;rw[if_pos (by simp;omega)] at this;have e2:h2={ h with ws:=h.ws++List.replicate k 0 }:=by
      rw[qx.out,HB.out,if_neg (by simp),show 400 - h.ws.length=k by omega]
     rw[e2];exact this.alloc
    clear hp2;go_wp2
    go_ret
    exact⟨by rw[HB.out];rfl,xe.out⟩
   ·go_wp2_with fail
    refine (zA c L1 o i P _ _ S1 g1 r1 qy HT1 bW 0 0 (Sb.hide (by rw[if_neg (by simp;omega)])) _ (Sb.hide rfl)).mono ?_;rintro e w2 ⟨rfl,hp2⟩;rw[if_neg (by simp;omega)] at hp2;have jK:=Sb.hide (zB.next hX.out (by simp) kU.out bC.out nW.out hp2);clear hp2;go_wp2
    go_roundw
    case rel=>exact⟨k+1,by go_num,by omega,jK.out⟩
    case measure=>simp[intOf];omega
  ·have n0:¬ (k:Int)<(u.locals.length:Int) - u.params:=by omega
   have ek:k=u.locals.length - u.params.toNat:=by omega
   have HB:Hid (b=true):=by unfold Hid;rw[hb.out];simp;omega
   have Nb:=Sb.hide ek;clear ek;have Nc:=lt_of_block HT1.out.blk;have Dj:=lt_of_block kU.out;have Nf:Hid (∀ U,qy.ownBlock=some U→U≠w.heap.size):=fun U hU e=>by
    have h1:=HT1.out.l3 U hU;have h2:=bC.out.1 w.heap.size (by simp);have h3:=hL.out.new w.heap.size (Nat.le_refl _);rw[e,h2] at h1;rw[h1] at h3;cases h3
   have Ng:¬ P i=w.heap.size:=hne2;have Nh:Hid (nY c ⟨n,0,h.ws.length - u.params.toNat⟩=[.slice (c.cv n) u.code.length (c.cc n),.int .i64 0,.int .i64 ((h.ws.length:Int) - u.params)]):=by
    unfold Hid nY De;have e1:unit c.m ((n:Nat):Int)=u:=by simp[unit,hu.out]
    have e2:((h.ws.length - u.params.toNat:Nat):Int)=(h.ws.length:Int) - u.params:=by omega
    simp only[e1,e2];rfl
   have GD:wr.drew.cell? ⟨w.heap.size,5,none⟩=some (.slice (c.cv n) u.code.length (c.cc n)):=x5;have ahj:¬ wr.heap.size=w.heap.size:=by omega
   clear d0 d2 d3 x1 x2;go_upto_region 7 with fail
   refine wp_region_held_drew (S:=fun w'=>w'.cell? ⟨w.heap.size,5,none⟩=some (.slice (c.cv n) u.code.length (c.cc n))) (by kernel_rfl) GD (fun hHeld=>?_);refine wpAnyH_take (i:=0) (oi:=_) (v:=?_) rfl (by kernel_rfl) (by kernel_rfl) (by kernel_rfl) (fun _ _ _ h=>h) (Or.inl ⟨by rfl,?_⟩) (by assumption) ?_;rotate_left
   ·intro w hSw
    (try dsimp only at hSw)
    go_simp
    (try with_reducible rfl)
   refine wpAnyH_take (i:=1) (oi:=_) (v:=?_) rfl (by kernel_rfl) (by kernel_rfl) (by kernel_rfl) (fun _ _ _ h=>h) (Or.inl ⟨by rfl,?_⟩) (by assumption) ?_;rotate_left
   ·intro w hSw
    (try dsimp only at hSw)
    go_simp
    (try with_reducible rfl)
   refine wpAnyH_take (i:=2) (oi:=_) (v:=?_) rfl (by kernel_rfl) (by kernel_rfl) (by kernel_rfl) (fun _ _ _ h=>h) (Or.inl ⟨by rfl,?_⟩) (by assumption) ?_;rotate_left
   ·intro w hSw
    (try dsimp only at hSw)
    go_simp
    (try with_reducible rfl)
   refine wpAnyH_take (i:=3) (oi:=_) (v:=?_) rfl (by kernel_rfl) (by kernel_rfl) (by kernel_rfl) (fun _ _ _ h=>h) (Or.inl ⟨by rfl,?_⟩) (by assumption) ?_;rotate_left
   ·intro w hSw
    (try dsimp only at hSw)
    go_simp
    (try with_reducible rfl)
   refine wpAnyH_take (i:=5) (oi:=_) (v:=?_) rfl (by kernel_rfl) (by kernel_rfl) (by kernel_rfl) (fun _ _ _ h=>h) (Or.inl ⟨by rfl,?_⟩) (by assumption) ?_;rotate_left
   ·intro w hSw
    (try dsimp only at hSw)
    go_simp
    (try with_reducible rfl)
   refine wpAnyH_take (i:=6) (oi:=_) (v:=?_) rfl (by kernel_rfl) (by kernel_rfl) (by kernel_rfl) (fun _ _ _ h=>h) (Or.inl ⟨by rfl,?_⟩) (by assumption) ?_;rotate_left
   ·intro w hSw
    (try dsimp only at hSw)
    go_simp
    (try with_reducible rfl)
   refine wpAnyH_take (i:=7) (oi:=_) (v:=?_) rfl (by kernel_rfl) (by kernel_rfl) (by kernel_rfl) (fun _ _ _ h=>h) (Or.inl ⟨by rfl,?_⟩) (by assumption) ?_;rotate_left
   ·intro w hSw
    (try dsimp only at hSw)
    go_simp
    (try with_reducible rfl)
   refine wpAnyH_take (i:=8) (oi:=_) (v:=?_) rfl (by kernel_rfl) (by kernel_rfl) (by kernel_rfl) (fun _ _ _ h=>h) (Or.inl ⟨by rfl,?_⟩) (by assumption) ?_;rotate_left
   ·intro w hSw
    (try dsimp only at hSw)
    go_simp
    (try with_reducible rfl)
   refine wpAnyH_ready (rs:=[4,9]) (by kernel_rfl) (by simp) ?_;refine AllReadyH.cons (o:=_) rfl (fun K hK=>?_) ?_
   ·go_simp
    refine hK.out _ _ hHeld (fun hHeld=>?_);clear hK K;refine wpAnyH_ready (rs:=[9]) (by kernel_rfl) (by simp) ?_;refine AllReadyH.cons (o:=_) rfl (fun K hK=>?_) AllReadyH.nil;go_simp
    refine hK.out _ _ ((World.cell?_of_block (w:=wr.drew) (Below.heap_alloc _ _ _ Dj)).trans GD) (fun hHeld=>?_);clear hK K;refine wpAnyH_ready (rs:=[10]) (by kernel_rfl) (by simp) ?_;refine AllReadyH.cons (o:=_) rfl (fun K hK=>?_) AllReadyH.nil;refine oh rfl (.tmp 33) (.tmp 38) 208 rfl 0 257 i0 (.agg #[.slice none 0 0,.int .i64 0,.int .i64 0]) 3 40 Tryz.underlying208 hi hz0 hz1 hz2 rfl (by decide) qy h.fs.length (iR c h.fs.reverse) rfl ((show wr.drew.ownsRow 0 257 3 qy h.fs.length (iR c h.fs.reverse) from HT1.out.row).alloc _) ⟨_,0,none⟩ 1 1 [.slice (c.cv n) u.code.length (c.cc n),.int .i64 0,.int .i64 ((h.ws.length:Int) - u.params)] rfl rfl (M6 wr.drew _ _ _ _) (M7 rfl rfl rfl) (by decide) (by unfold maxLen;omega) (by omega) (Nat.zero_le _) ?_;intro U2 cap2 w4 bO hg4 zD;have iH:w4.heap[w.heap.size]?=some (aX c n u al cl):=(hg4.block _ (by simp;omega) (fun e=>Nf.out _ e.symm rfl)).trans ((Below.heap_alloc _ _ _ Dj).trans kU.out);have zF:w4.heap[P i]?=some (kr S1 qy h.stands (nZ P h.up)):=(hg4.block _ (by simp;omega) (fun e=>HT1.out.uh e.symm rfl)).trans ((Below.heap_alloc _ _ _ Nc).trans HT1.out.blk);obtain⟨q1,q2⟩:=M8 zF;obtain⟨y1,y2,y5⟩:=Di iH;have qz:Hid (fq c L o i P w (w4.setCell ⟨P i,1,none⟩ (.slice (some ⟨U2,0,none⟩) (h.fs.length+1) cap2)) h2):=by
     have hE:=(HT1.out.drewN 1).entered (bW.out.on (Nat.le_refl _)) ⟨n,0,h.ws.length - u.params.toNat⟩ dx (by rw[Nh.out];exact bO) hg4 zD;have:=(hE.drewN.trans bC.out nW.out).alloc;have e2:h2={ h with ws:=h.ws++List.replicate k 0,fs:=⟨n,0,h.ws.length - u.params.toNat⟩ :: h.fs }:=by
      rw[qx.out,HB.out,if_pos rfl,← Nb.out]
     rw[e2];exact this
    clear bO hg4 zD iH zF;refine hK.out _ _ y5 (fun hHeld=>?_);clear hK K;simp only[Act.put];refine wpAnyH_take (i:=11) (oi:=_) (v:=?_) rfl (by kernel_rfl) (by kernel_rfl) (by kernel_rfl) (fun _ _ _ h=>h) (Or.inl ⟨by rfl,?_⟩) (by assumption) ?_;rotate_left
    ·intro w hSw
     (try dsimp only at hSw)
     go_simp
     (try with_reducible rfl)
    refine wpAnyH_take (i:=12) (oi:=_) (v:=?_) rfl (by kernel_rfl) (by kernel_rfl) (by kernel_rfl) (fun _ _ _ h=>h) (Or.inl ⟨by rfl,?_⟩) (by assumption) ?_;rotate_left
    ·intro w hSw
     (try dsimp only at hSw)
     go_simp
     (try with_reducible rfl)
    refine wpAnyH_ready (rs:=[13]) (by kernel_rfl) (by simp) ?_;refine AllReadyH.cons (o:=_) rfl (fun K hK=>?_) AllReadyH.nil;go_simp
    refine hK.out _ _ (by simp[y5,Ng,World.cell?_setCell_far]) (fun hHeld=>?_);clear hK K;refine wpAnyH_done (by kernel_rfl) ?_ _;go_wp2
    go_ret
    exact⟨by rw[HB.out];rfl,qz.out⟩
   refine AllReadyH.cons (o:=_) rfl (fun K hK=>?_) AllReadyH.nil;go_simp
   refine hK.out _ _ ((World.cell?_of_block (w:=wr.drew) (Below.heap_alloc _ _ _ Dj)).trans GD) (fun hHeld=>?_);clear hK K;refine wpAnyH_ready (rs:=[4]) (by kernel_rfl) (by simp) ?_;refine AllReadyH.cons (o:=_) rfl (fun K hK=>?_) AllReadyH.nil;go_simp
   refine hK.out _ _ hHeld (fun hHeld=>?_);clear hK K;refine wpAnyH_ready (rs:=[10]) (by kernel_rfl) (by simp) ?_;refine AllReadyH.cons (o:=_) rfl (fun K hK=>?_) AllReadyH.nil;refine oh rfl (.tmp 33) (.tmp 38) 208 rfl 0 257 i0 (.agg #[.slice none 0 0,.int .i64 0,.int .i64 0]) 3 40 Tryz.underlying208 hi hz0 hz1 hz2 rfl (by decide) qy h.fs.length (iR c h.fs.reverse) rfl ((show wr.drew.ownsRow 0 257 3 qy h.fs.length (iR c h.fs.reverse) from HT1.out.row).alloc _) ⟨_,0,none⟩ 1 1 [.slice (c.cv n) u.code.length (c.cc n),.int .i64 0,.int .i64 ((h.ws.length:Int) - u.params)] rfl rfl (M6 wr.drew _ _ _ _) (M7 rfl rfl rfl) (by decide) (by unfold maxLen;omega) (by omega) (Nat.zero_le _) ?_;intro U2 cap2 w4 bO hg4 zD;have iH:w4.heap[w.heap.size]?=some (aX c n u al cl):=(hg4.block _ (by simp;omega) (fun e=>Nf.out _ e.symm rfl)).trans ((Below.heap_alloc _ _ _ Dj).trans kU.out);have zF:w4.heap[P i]?=some (kr S1 qy h.stands (nZ P h.up)):=(hg4.block _ (by simp;omega) (fun e=>HT1.out.uh e.symm rfl)).trans ((Below.heap_alloc _ _ _ Nc).trans HT1.out.blk);obtain⟨q1,q2⟩:=M8 zF;obtain⟨y1,y2,y5⟩:=Di iH;have qz:Hid (fq c L o i P w (w4.setCell ⟨P i,1,none⟩ (.slice (some ⟨U2,0,none⟩) (h.fs.length+1) cap2)) h2):=by
    have hE:=(HT1.out.drewN 1).entered (bW.out.on (Nat.le_refl _)) ⟨n,0,h.ws.length - u.params.toNat⟩ dx (by rw[Nh.out];exact bO) hg4 zD;have:=(hE.drewN.trans bC.out nW.out).alloc;have e2:h2={ h with ws:=h.ws++List.replicate k 0,fs:=⟨n,0,h.ws.length - u.params.toNat⟩ :: h.fs }:=by
     rw[qx.out,HB.out,if_pos rfl,← Nb.out]
    rw[e2];exact this
   clear bO hg4 zD iH zF;refine hK.out _ _ y5 (fun hHeld=>?_);clear hK K;simp only[Act.put];refine wpAnyH_take (i:=11) (oi:=_) (v:=?_) rfl (by kernel_rfl) (by kernel_rfl) (by kernel_rfl) (fun _ _ _ h=>h) (Or.inl ⟨by rfl,?_⟩) (by assumption) ?_;rotate_left
   ·intro w hSw
    (try dsimp only at hSw)
    go_simp
    (try with_reducible rfl)
   refine wpAnyH_take (i:=12) (oi:=_) (v:=?_) rfl (by kernel_rfl) (by kernel_rfl) (by kernel_rfl) (fun _ _ _ h=>h) (Or.inl ⟨by rfl,?_⟩) (by assumption) ?_;rotate_left
   ·intro w hSw
    (try dsimp only at hSw)
    go_simp
    (try with_reducible rfl)
   refine wpAnyH_ready (rs:=[13]) (by kernel_rfl) (by simp) ?_;refine AllReadyH.cons (o:=_) rfl (fun K hK=>?_) AllReadyH.nil;go_simp
   refine hK.out _ _ (by simp[y5,Ng,World.cell?_setCell_far]) (fun hHeld=>?_);clear hK K;refine wpAnyH_done (by kernel_rfl) ?_ _;go_wp2
   go_ret
   exact⟨by rw[HB.out];rfl,qz.out⟩
theorem CK.below {w w':World}{g:Nat}{ws:List Int}{r:Nat}(h:Sb.CK w g ws r)(e:w'.heap[g]?=w.heap[g]?):Sb.CK w' g ws r:=by
 obtain⟨cs,hc,hr⟩:=h;exact⟨cs,e.trans hc,hr⟩
structure Ni (w:World) (l:List Int) (n:Nat) (k:Nat) (wr:World):Prop where
 row:Sb.CK wr w.heap.size (l.take k) n
 below:Below w.heap.size w wr
theorem WZ (c:Cx)(L:av)(o i:Nat)(P:Nat→Nat)(w:World)(h:Th)(S g r:Nat)(vU:Value)(H:Hid (aD c L o i P w h S g r vU))(hL:Hid (bF c.B L w))(n:Nat)(hn:n≤h.ws.length) :
  Calls Tryz.prog 207 #[.pointer (some ⟨P i,0,none⟩),.int .i64 n] w fun e w'=>∃ G,e=.returned (.slice (some ⟨G,0,none⟩) n n)∧Sb.CK w' G (h.ws.drop (h.ws.length - n)) n∧w.heap.size≤G∧fq c L o i P w w' { h with ws:=h.ws.take (h.ws.length - n) }:=by
 obtain⟨i0,hi,hz0,hz1,hz2⟩:=info_parts Sb.Tryz.qp;have hfit:=H.out.stack.2.2;unfold Sk.Fits at hfit;have hw4:h.ws.length≤400:=by omega
 have zC:=lt_of_block H.out.blk;have hwr:IntKind.i64.wrap ((h.ws.length:Int) - (n:Int))=(h.ws.length:Int) - (n:Int):=IntWalk.i64_in _ ⟨by omega,by omega⟩;have GG:Hid ((h.ws.drop (h.ws.length - n)).length=n):=by unfold Hid;simp;omega
 clear hfit;go_enter Tryz.func207,Tryz.ntmps207
 go_wp2_with (at_make;refine wpList_make_full _ rfl _ _ 38 rfl w.heap.size 2 i0 (.int .i64 0) 1 Tryz.underlying38 hi hz0 hz1 _ _ _ _ n rfl rfl rfl rfl (by rw[hz2];omega) (by unfold maxLen;omega) (Nat.le_refl _) ?_;intro w1 hown hgrow)
 have mh:Hid (Ni w (h.ws.drop (h.ws.length - n)) n 0 w1):=⟨Sb.Gu hown,(Below.refl _ w).grown hgrow (Nat.le_refl _) (fun k hk=>by simp at hk)⟩;clear hown hgrow;go_wp2
 go_loopw [11] (fun i' wr=>∃ k:Nat,i'=.int .i64 k∧k≤n∧Ni w (h.ws.drop (h.ws.length - n)) n k wr) (fun i' _=>n - (intOf i').toNat)
 case atStart=>exact⟨0,rfl,Nat.zero_le _,mh.out⟩
 case round =>
  obtain⟨k,rfl,hk,hA⟩:=hrel;have HR:=Sb.hide hA.row;have HB:=Sb.hide hA.below;have hG:=lt_of_block hA.row.choose_spec.1;have HT:Hid (aD c L o i P wr h S g r vU):=H.out.keep (.refl _ _) rfl rfl (fun b hb _=>HB.out.block b hb);obtain⟨c0,c1,c2,c3⟩:=HT.out.cells;clear hA mh;by_cases hlt:k<n
  ·obtain⟨x,hx⟩:∃ x,(h.ws.drop (h.ws.length - n))[k]?=some x:=⟨_,List.getElem?_eq_getElem (by rw[GG.out];exact hlt)⟩
   have HX:Hid (x=o7 h.ws ((h.ws.length:Int) - (n:Int)+(k:Int))):=by
    unfold Hid o7;rw[if_neg (by omega),show ((h.ws.length:Int) - (n:Int)+(k:Int)).toNat=h.ws.length - n+k by omega,← List.getElem?_drop,hx];rfl
   have gM:Hid ((h.ws.drop (h.ws.length - n)).take (k+1)=(h.ws.drop (h.ws.length - n)).take k++[x]):=by unfold Hid;rw[List.take_add_one,hx];rfl
   have eQ:Hid (((h.ws.drop (h.ws.length - n)).take k).length=k):=by unfold Hid;rw[List.length_take,GG.out];omega
   have hwr2:IntKind.i64.wrap ((h.ws.length:Int) - (n:Int)+(k:Int))=(h.ws.length:Int) - (n:Int)+(k:Int):=IntWalk.i64_in _ ⟨by omega,by omega⟩;obtain⟨uv,cu,fu⟩:=HR.out.at k hlt;have n0:(0:Int)≤(k:Int):=by omega
   have n1:(k:Int)<(n:Int):=by omega
   have hne:¬ w.heap.size=P i:=by omega
   have hne2:¬ P i=w.heap.size:=by omega
   clear hx;go_wp2
   go_region_held3 (fun w'=>w'.cell? ⟨P i,0,none⟩=some (.pointer (some ⟨S,0,none⟩))) (go_keep) (first | (go_at_call 146;(try rw[hwr]);(try rw[hwr2]);refine (Dh S g h.ws r 8 400 _ x _ (by exact HT.out.stack) HX).mono ?_;rintro e w' ⟨rfl,d,rfl⟩) | (go_at_call 182;refine (Df S g h.ws r 8 400 _ (by exact HT.out.stack)).mono ?_;rintro e w' ⟨rfl,rfl⟩))
   go_wp2
   go_roundw
   case rel =>
    refine⟨k+1,by go_num,hlt,?_,?_⟩
    ·rw[gM.out]
     have:=HR.out.push (by rw[eQ.out];exact hlt) x;rw[eQ.out] at this;exact this
    ·exact (below_drewN HB.out _).setCell (p:=⟨w.heap.size,k,none⟩) (Nat.le_refl _) _
   case measure=>simp[intOf];omega
  ·obtain rfl:k=n:=by omega
   have HR2:Hid (Sb.CK wr w.heap.size (h.ws.drop (h.ws.length - k)) k):=by
    have:=HR.out;rw[List.take_of_length_le (by rw[GG.out];exact Nat.le_refl _)] at this;exact this
   go_wp2_with fail
   refine (Gv c L o i P _ h S g r vU HT (Sb.hide (hL.out.on HB.out.size)) k _ (Sb.hide rfl)).mono ?_;rintro e w2 ⟨⟨x,rfl⟩,hp2⟩;rw[if_neg (by omega),Int.toNat_natCast] at hp2;have zG:Hid (Sb.CK w2 w.heap.size (h.ws.drop (h.ws.length - k)) k):=by
    obtain⟨L2,g2,r2,_,_,_,h4⟩:=hp2;refine CK.below HR2.out (h4.block _ hG (fun hx=>?_));have:=hL.out.new w.heap.size (Nat.le_refl _);unfold dn at hx;omega
   have xe:Hid (fq c L o i P w w2 { h with ws:=h.ws.take (h.ws.length - k) }):=hp2.qw.trans (.refl _ _ _ _) (aQ.of_below HB.out);clear hp2;go_wp2
   go_ret
   exact⟨_,rfl,zG.out,Nat.le_refl _,xe.out⟩
end Go.Proofs.YtfcpglhpolpdcaaGreatDoor.Vw

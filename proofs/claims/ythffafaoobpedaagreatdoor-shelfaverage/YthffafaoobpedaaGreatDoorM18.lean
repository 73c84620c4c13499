/- Nobody hears;the walk of newTask. -/
import Derived.Test.YthffafaoobpedaaGreatDoorM17
import Derived.Test.YthffafaoobpedaaGreatDoorM3
import Derived.Maps.RangeWalk
set_option maxRecDepth 100000
set_option maxHeartbeats 2000000
namespace Go.Proofs.YthffafaoobpedaaGreatDoor.Vw
open Go.RowKit Vf Vm
theorem nobody (e:Ev)(w:World):Calls Tryz.prog 36 (#[Kh e] ++ #[]) w fun r w'=>r=.returned (.tuple #[])∧Below w.heap.size w w':=by
 go_enter Tryz.func36,Tryz.ntmps36
 go_wp2
 go_end0
 exact ⟨rfl,(Below.refl _ w).alloc (Nat.le_refl _) _⟩
theorem made {c:Cx}{L1:az}{o:Nat}{w1:World}{Hn:Nat}{h:Th}{S g r:Nat}{vU:Value}(H:aG c L1 o 0 (fun _=>Hn) w1 h S g r vU)(hL:bA c.B L1 w1)(hth:∀ b,(L1 b).cls=1→(L1 b).idx=o→(L1 b).th≤1)(vB ev:Value) :
  ∃ L',eH c vB ev L' o (w1.heap.size+1) (fun _=>Hn) (((w1.setCell ⟨Hn,2,none⟩ (.int .i64 2)).alloc (.cells #[.pointer (some ⟨Hn,0,none⟩)] 77)).alloc (fe c vB ev (.slice (some ⟨w1.heap.size,0,none⟩) 1 1) Hn (.slice none 0 0) 0 0)) ⟨[{ h with stands:=2 }],0,[],0,0,[]⟩ (.slice (some ⟨w1.heap.size,0,none⟩) 1 1) (.slice none 0 0) ∧
   bA c.B L' (((w1.setCell ⟨Hn,2,none⟩ (.int .i64 2)).alloc (.cells #[.pointer (some ⟨Hn,0,none⟩)] 77)).alloc (fe c vB ev (.slice (some ⟨w1.heap.size,0,none⟩) 1 1) Hn (.slice none 0 0) 0 0))∧iq o L1 L' w1:=by
 obtain ⟨L2,S2,g2,r2,pF,kr,hE2,hL2,hC2⟩:=H.stood hL 2
 obtain ⟨w2,hw2⟩:∃ w2,w2=w1.setCell ⟨Hn,2,none⟩ (.int .i64 2):=⟨_,rfl⟩
 have hz2:w2.heap.size=w1.heap.size:=by rw [hw2];simp [World.setCell]
 change aG c L2 o 0 (fun _=>Hn) (w1.setCell ⟨Hn,2,none⟩ (.int .i64 2)) _ _ _ _ _ at kr
 change bA c.B L2 (w1.setCell ⟨Hn,2,none⟩ (.int .i64 2)) at hL2
 clear hC2
 rw [← hw2] at kr hL2 ⊢
 rw [← hz2]
 have old:∀ b,b < w2.heap.size→((w2.alloc (.cells #[.pointer (some ⟨Hn,0,none⟩)] 77)).alloc (fe c vB ev (.slice (some ⟨w2.heap.size,0,none⟩) 1 1) Hn (.slice none 0 0) 0 0)).heap[b]?=w2.heap[b]?:=fun b hb=>(Below.heap_alloc _ _ _ (by simp;omega)).trans (Below.heap_alloc _ _ _ hb)
 have lab:∀ b,b < w2.heap.size→(fun b=>if b=w2.heap.size+1 then (⟨1,o,0,4⟩:Lb) else if b=w2.heap.size then ⟨1,o,0,5⟩ else L2 b) b=L2 b:=fun b hb=>by
  have e1:¬ b=w2.heap.size+1:=by omega
  have e2:¬ b=w2.heap.size:=by omega
  simp only [e1,e2,if_false]
 have hR:((w2.alloc (.cells #[.pointer (some ⟨Hn,0,none⟩)] 77)).alloc (fe c vB ev (.slice (some ⟨w2.heap.size,0,none⟩) 1 1) Hn (.slice none 0 0) 0 0)).heap[w2.heap.size]?=some (.cells #[.pointer (some ⟨Hn,0,none⟩)] 77):=(Below.heap_alloc _ _ _ (by simp)).trans (heap_alloc_new w2 _)
 have hT:((w2.alloc (.cells #[.pointer (some ⟨Hn,0,none⟩)] 77)).alloc (fe c vB ev (.slice (some ⟨w2.heap.size,0,none⟩) 1 1) Hn (.slice none 0 0) 0 0)).heap[w2.heap.size+1]?=some (fe c vB ev (.slice (some ⟨w2.heap.size,0,none⟩) 1 1) Hn (.slice none 0 0) 0 0):=by
  have:=heap_alloc_new (w2.alloc (.cells #[.pointer (some ⟨Hn,0,none⟩)] 77)) (fe c vB ev (.slice (some ⟨w2.heap.size,0,none⟩) 1 1) Hn (.slice none 0 0) 0 0)
  simpa using this
 refine ⟨fun b=>if b=w2.heap.size+1 then ⟨1,o,0,4⟩ else if b=w2.heap.size then ⟨1,o,0,5⟩ else L2 b,⟨hT,⟨rfl,.inr ⟨w2.heap.size,1,#[.pointer (some ⟨Hn,0,none⟩)],rfl,Nat.zero_le _,hR,Nat.le_refl _,by unfold maxLen;omega,rfl,rfl⟩⟩,⟨rfl,.inl ⟨rfl,rfl⟩⟩,fun i h' hh=>?_,(by show 1≤31;omega),(by show 0 < 1;omega),by simp,fun b hb=>(by cases hb;simp),fun b hb=>(by cases hb),fun b h1 h2=>?_⟩,⟨fun b hb=>?_,fun b hb=>?_,by have:=hL2.size;simp;omega⟩,⟨fun b hb=>(lab b (by omega)).trans (hE2.1 b hb),fun b=>?_⟩⟩
 ·cases i with
  | zero =>
   cases hh
   exact ⟨S2,g2,r2,pF,kr.keep lab rfl rfl (fun b hb _=>old b hb)⟩
  | succ i=>cases hh
 ·show _≤1
  by_cases e1:b=w2.heap.size+1
  ·simp only [e1,if_true];omega
  ·by_cases e2:b=w2.heap.size
   ·simp only [e2,if_true];simp
   ·simp only [e1,e2,if_false] at h1 h2 ⊢
    rcases hE2.2 b with e | e
    ·rw [e] at h1 h2 ⊢;exact hth b h1 h2
    ·omega
 ·exact (congrArg Lb.cls (lab b (by have:=hL2.size;omega))).trans (hL2.low b hb)
 ·have hb':w2.heap.size+2≤b:=by simpa using hb
  have e1:¬ b=w2.heap.size+1:=by omega
  have e2:¬ b=w2.heap.size:=by omega
  simp only [e1,e2,if_false]
  exact hL2.new b (by omega)
 ·by_cases e1:b=w2.heap.size+1
  ·right;left;simp [e1]
  ·by_cases e2:b=w2.heap.size
   ·right;left;simp [e2]
   ·unfold WB EB
    simp only [e1,e2,if_false]
    rcases hE2.2 b with e | e
    ·exact .inl e
    ·exact .inr (.inl ⟨e.1,e.2.1⟩)
theorem UR (c:Cx)(L:az)(o:Nat)(w:World)(hL:Hid (bA c.B L w))(hcx:Hid (lY c w))(hfr:Hid (∀ b,¬ ((L b).cls=1∧(L b).idx=o)))(ab:Option Addr)(cb:Nat)(sa:Option Addr)(sn sc n:Nat)(u:Un)(hu:Hid (c.m.units[n]?=some u))(hp:u.params=0)(hl2:u.locals.length≤200) :
  Calls Tryz.prog 21 #[.agg #[.slice ab c.m.boxes.length cb,.slice c.au c.m.units.length c.cu],.int .i64 n,.slice sa sn sc] w fun e w'=>∃ T L' P vR vO,e=.returned (.pointer (some ⟨T,0,none⟩))∧eH c (.slice sa sn sc) (.func (.func 36) #[] #[]) L' o T P w' (rR u n) vR vO∧bA c.B L' w'∧iq o L L' w∧Below w.heap.size w w':=by
 have vJ:∀ (fn:Fn) (first cap:Array Value) (w:World),(Instr.makeFunc fn first cap).run Tryz.prog w=.ok (.func fn first cap) w:=fun _ _ _ _=>rfl
 obtain ⟨ub,ky,al,cl,mf,hub,_,u0,u1,u2,u3,u4,u5⟩:=hcx.out.units n u hu.out
 have hnl:n < c.m.units.length:=(List.getElem?_eq_some_iff.1 hu.out).1
 have dx:=hcx.out.few
 obtain ⟨ml,bU⟩:∃ m,m=c.m.units.length:=⟨_,rfl⟩
 have lC:=Sb.hide mf
 rw [mf,← bU]
 rw [← bU] at hnl dx
 have n0:(0:Int)≤(n:Int):=by omega
 have n1:(n:Int) < (ml:Int):=by omega
 have jN:=Sb.hide bU
 have Eo:ub < w.heap.size:=by have:=hL.out.size;omega
 have hne:¬ w.heap.size=ub:=by omega
 have hne2:¬ ub=w.heap.size:=by omega
 have HP:=Sb.hide hp
 have HX0:Hid ((w.alloc (.cells #[.slice ab c.m.boxes.length cb,.slice (some ⟨ub,ky,none⟩) ml c.cu] 38)).heap[w.heap.size]?=some (.cells #[.slice ab c.m.boxes.length cb,.slice (some ⟨ub,ky,none⟩) ml c.cu] 38)):=heap_alloc_new w _
 clear bU mf hp
 go_enter Tryz.func21,Tryz.ntmps21
 go_wp2_with fail
 refine (J8 c L o 0 _ (Sb.hide (hL.out.on (by simp))) (Sb.hide (fun b hx=>hfr.out b ⟨hx.1,hx.2.1⟩)) n u hu al cl (by rw [HP.out];decide) (by rw [HP.out];omega) hl2 [] (by rw [HP.out];rfl) none 0 (Sb.hide (fun j x h=>by cases h))).mono ?_
 rintro e w1 ⟨Hn,L1,rfl,pR,hth,hE1,hL1,hB1⟩
 obtain ⟨S,g,r,vU,hT⟩:=hth (fun _=>Hn) rfl
 obtain ⟨t0,t1,t2,t3⟩:=hT.cells
 have fr:=hT.free 2
 have oh:Hid (w1.heap[w.heap.size]?=some (.cells #[.slice ab c.m.boxes.length cb,.slice (some ⟨ub,ky,none⟩) ml c.cu] 38)):=(hB1.block _ (by simp)).trans HX0.out
 have m1:w1.cell? ⟨w.heap.size,1,none⟩=some (.slice (some ⟨ub,ky,none⟩) ml c.cu):=by simp [World.cell?,oh.out]
 have hHn:¬ w.heap.size=Hn:=by simp at pR;omega
 have HT:=Sb.hide hT
 have aZ:=Sb.hide hE1
 have bT:=Sb.hide hL1
 have HB1:=Sb.hide hB1
 have UT:=Sb.hide pR
 have hHw:Hn < w1.heap.size:=lt_of_block hT.blk
 clear hth hT hE1 hL1 hB1 pR
 go_wp2
 go_ret
 obtain ⟨L',k1,k2,k3⟩:=made HT.out bT.out (fun b h1 h2=>by
  rcases aZ.out.2 b with e | e
  ·rw [e] at h1 h2;exact absurd ⟨h1,h2⟩ (hfr.out b)
  ·omega) (.slice sa sn sc) (.func (.func 36) #[] #[])
 have pR:=UT.out
 have UU:=HB1.out.size
 simp at pR UU
 have hB0:Below w.heap.size w w1:=((Below.refl _ w).alloc (Nat.le_refl _) _).trans (HB1.out.mono (by simp))
 unfold fe at k1 k2
 rw [lC.out,← jN.out] at k1 k2
 refine ⟨w1.heap.size+1,L',fun _=>Hn,_,_,rfl,k1,k2,?_,?_⟩
 ·have UW:iq o L L1 w:=⟨fun b hb=>aZ.out.1 b (by simp;omega),fun b=>(aZ.out.2 b).imp id (fun e=>.inl ⟨e.1,e.2.1⟩)⟩
  exact UW.trans k3 hB0.size
 ·exact ((hB0.setCell (p:=⟨Hn,2,none⟩) (by show w.heap.size≤Hn;omega) _).alloc (by simp [World.setCell];omega) _).alloc (by simp [World.setCell];omega) _
theorem UX {x:List aV}{n:Nat}{q:aV}(h:x[n]?=some q):aD.take x n=x.set n { q with took:=q.took+1 }:=by simp [aD,h]
theorem UY {x:List aV}{n:Nat}{q:aV}(v:Int)(h:x[n]?=some q):aD.put x n v=x.set n { q with sent:=q.sent ++ [v] }:=by simp [aD,h]
theorem K9 {x:List aV}{n:Nat}{q:aV}(h:x[n]?=some q):aD.empty x n=decide (q.took=q.feed.length):=by simp [aD,h]
theorem UZ {x:List aV}{n:Nat}{q:aV}(h:x[n]?=some q):aD.head x n=(q.feed[q.took]?).getD 0:=by simp [aD,h]
theorem U0 (p:Value)(w:World):Sem.run Tryz.prog (do let q ← program;let y ← method (q.types.size+100) 74 p "Full";callFunc y.fst #[y.snd]) w=.ok (.enter 264 #[p]) w:=by kernel_rfl
theorem U1 (p:Value)(w:World):Sem.run Tryz.prog (do let q ← program;let y ← method (q.types.size+100) 74 p "Empty";callFunc y.fst #[y.snd]) w=.ok (.enter 263 #[p]) w:=by kernel_rfl
theorem U3 (p v:Value)(w:World):Sem.run Tryz.prog (do let q ← program;let y ← method (q.types.size+100) 74 p "Put";callFunc y.fst #[y.snd,v]) w=.ok (.enter 265 #[p,v]) w:=by kernel_rfl
theorem U4 (p:Value)(w:World):Sem.run Tryz.prog (do let q ← program;let y ← method (q.types.size+100) 74 p "Take";callFunc y.fst #[y.snd]) w=.ok (.enter 266 #[p]) w:=by kernel_rfl
theorem U5 (Q:Nat→Nat)(nb rb off:Nat)(c:Cx)(n:Nat)(hn:n < nb):KQ (ni Q nb rb off) aD c n 74 (.pointer (some ⟨Q n,0,none⟩)) 264 263 265 266:=by
 have at':∀ (L:az) (w:World) (x:List aV),jQ Q nb rb off L w x→∃ q af cf vS,x[n]?=some q∧jP L w (Q n) n q af cf vS:=fun L w x h=>by
  obtain ⟨q,hq⟩:∃ q,x[n]?=some q:=⟨_,List.getElem?_eq_getElem (by have:=h.len;omega)⟩
  obtain ⟨af,cf,vS,hA⟩:=h.lists n q hq
  exact ⟨q,af,cf,vS,hq,hA⟩
 refine ⟨U0 _,U1 _,U3 _,U4 _,fun L w l x h=>?_,fun L w l x h=>?_,fun L w l x v h hk hm=>?_,fun L w l x h hk hm=>?_⟩
 ·exact UJ (Q n) w
 ·obtain ⟨q,af,cf,vS,hq,hA⟩:=at' L w x h.out
  rw [K9 hq]
  exact UK L (Q n) n q af cf vS w (Sb.hide hA) _ (Sb.hide rfl)
 ·obtain ⟨q,af,cf,vS,hq,hA⟩:=at' L w x h.out
  rw [UY v hq]
  refine (UO L (Q n) n q af cf vS w (Sb.hide hA) v (hm.out q hq)).mono ?_
  rintro e w' ⟨rfl,R,cap,w4,rfl,h1,h2,h3⟩
  exact ⟨rfl,h.out.put hk.out hq hA h1 h2 h3⟩
 ·obtain ⟨q,af,cf,vS,hq,hA⟩:=at' L w x h.out
  have hne:=hm.out
  rw [K9 hq] at hne
  have ht:=hA.took
  have hlt:q.took < q.feed.length:=by simp at hne;omega
  rw [UX hq,UZ hq]
  obtain ⟨u,hu⟩:∃ u,q.feed[q.took]?=some u:=⟨_,List.getElem?_eq_getElem hlt⟩
  rw [hu]
  refine (UN L (Q n) n q af cf vS w (Sb.hide hA) u (Sb.hide hu)).mono ?_
  rintro e w' ⟨rfl,h1,h2⟩
  exact ⟨rfl,h.out.take hk.out hq hA h1 h2⟩
theorem U6 (Q:Nat→Nat)(rb off cap:Nat)(c:Cx):lv (ni Q c.m.boxes.length rb off) aD c (.slice (some ⟨rb,off,none⟩) c.m.boxes.length cap) :=
 ⟨fun n hn=>⟨rb,off,cap,_,_,_,_,_,_,rfl,fun _ _ _ _ h=>(jQ.row h n hn).2.2,U5 Q _ rb off c n hn⟩⟩
theorem jQ.below {Q:Nat→Nat}{nb rb off:Nat}{L:az}{w w':World}{x:List aV}(h:jQ Q nb rb off L w x)(hb:Below w.heap.size w w'):jQ Q nb rb off L w' x:=(ni Q nb rb off).keep (l:=[]) h (.refl _ _) hb.size (fun b hs _=>hb.block b hs)
theorem U7 (Q:Nat→Nat)(nb rb off:Nat)(c:Cx):ji (ni Q nb rb off) c 36 #[]:=by
 refine ⟨fun args w=>by kernel_rfl,fun e L w l x h hk _=>(nobody e w).mono ?_⟩
 rintro r w' ⟨rfl,hb⟩
 exact ⟨rfl,L,jQ.below h.out hb,⟨.refl _ _,fun b=>.inl rfl⟩,hk.out.on hb.size,aQ.of_below hb⟩
end Go.Proofs.YthffafaoobpedaaGreatDoor.Vw
namespace Go.Proofs.YthffafaoobpedaaGreatDoor
open Go.RowKit
theorem U8 (c:FC)(F B:Nat)(top:Option Addr)(st:List Int)(f:Vf.Fl)(n:Int)(row:Value)(nn:Int)(k:Nat)(u:Vf.Un)(hu:Hid (c.m.units[k]?=some u))(hp:Hid (0≤u.params∧u.params≤u.locals.length∧u.locals.length≤200))(pl:List Int)(hpl:Hid (pl=u.locals.take u.params.toNat))(w:World)(h:Hid (aA c w F top st f n row))(hE:Hid (Env c B F w))(hl:st.length≤300)(r:Except Int (List Int))(hr:Hid (r=Vf.turn u.result pl st)) :
  Calls Tryz.prog 148 #[.pointer (some ⟨F,0,none⟩),.agg #[.int .i64 23,.int .i64 (k:Int),.int .i64 nn]] w fun e w'=>ay c F f n row r w e w':=by
 have hlt:=hE.out.lt
 have jg:=hE.out.base
 obtain ⟨b,off,al,cl,ac,cc,ha,hb,gG,u0,u1,u2,u3,u4,u5⟩:=hE.out.md.units k u hu.out
 have nW:k < c.m.units.length:=(List.getElem?_eq_some_iff.1 hu.out).1
 have hk1:(k:Int) < (c.m.units.length:Int):=by omega
 have jr:=hide (h.out.alloc (ak 23 (k:Int) nn))
 have d1:(w.alloc (ak 23 (k:Int) nn)).cell? ⟨F,1,none⟩=some (.slice (some ⟨b,off,none⟩) c.m.units.length c.cu):=by have:=(dH jr.out.blk).2.1;rw [ha] at this;exact this
 have d2:(w.alloc (ak 23 (k:Int) nn)).cell? ⟨w.heap.size,1,none⟩=some (.int .i64 (k:Int)):=(rJ (alloc_at w _)).2.1
 have d3:(w.alloc (ak 23 (k:Int) nn)).cell? ⟨b,off+k * 6+3,none⟩=some (.int .i64 u.result):=(uY _ _ (by omega)).trans u3
 have HA:=hide ha
 clear gG u0 u1 u2 u3 u4 u5 ha
 have EA:pl.length < 1000:=by rw [hpl.out];have:=hp.out.2.2;simp;omega
 go_enter Tryz.func148,Tryz.ntmps148
 go_wp2_with fail
 refine wp_region_held_drew (S:=fun w'=>w'.cell? ⟨F,1,none⟩=some (.slice (some ⟨b,off,none⟩) c.m.units.length c.cu)∧w'.cell? ⟨w.heap.size,1,none⟩=some (.int .i64 (k:Int))∧w'.cell? ⟨b,off+k * 6+3,none⟩=some (.int .i64 u.result)) (by kernel_rfl) ⟨d1,d2,d3⟩ (fun hHeld=>?_)
 refine wpAnyH_take (i:=0) (oi:=_) (v:=?_) rfl (by kernel_rfl) (by kernel_rfl) (by kernel_rfl) (fun _ _ _ h=>h) (Or.inl ⟨by rfl,?_⟩) (by assumption) ?_
 rotate_left
 ·intro w hSw
  (try dsimp only at hSw)
  go_simp
  (try with_reducible rfl)
 (try go_frame)
 refine wpAnyH_take (i:=1) (oi:=_) (v:=?_) rfl (by kernel_rfl) (by kernel_rfl) (by kernel_rfl) (fun _ _ _ h=>h) (Or.inl ⟨by rfl,?_⟩) (by assumption) ?_
 rotate_left
 ·intro w hSw
  (try dsimp only at hSw)
  go_simp
  (try with_reducible rfl)
 (try go_frame)
 refine wpAnyH_take (i:=2) (oi:=_) (v:=?_) rfl (by kernel_rfl) (by kernel_rfl) (by kernel_rfl) (fun _ _ _ h=>h) (Or.inl ⟨by rfl,?_⟩) (by assumption) ?_
 rotate_left
 ·intro w hSw
  (try dsimp only at hSw)
  go_simp
  (try with_reducible rfl)
 (try go_frame)
 refine wpAnyH_take (i:=3) (oi:=_) (v:=?_) rfl (by kernel_rfl) (by kernel_rfl) (by kernel_rfl) (fun _ _ _ h=>h) (Or.inl ⟨by rfl,?_⟩) (by assumption) ?_
 rotate_left
 ·intro w hSw
  (try dsimp only at hSw)
  go_simp
  (try with_reducible rfl)
 (try go_frame)
 refine wpAnyH_take (i:=4) (oi:=_) (v:=?_) rfl (by kernel_rfl) (by kernel_rfl) (by kernel_rfl) (fun _ _ _ h=>h) (Or.inl ⟨by rfl,?_⟩) (by assumption) ?_
 rotate_left
 ·intro w hSw
  (try dsimp only at hSw)
  go_simp
  (try with_reducible rfl)
 (try go_frame)
 refine wpAnyH_take (i:=5) (oi:=_) (v:=?_) rfl (by kernel_rfl) (by kernel_rfl) (by kernel_rfl) (fun _ _ _ h=>h) (Or.inl ⟨by rfl,?_⟩) (by assumption) ?_
 rotate_left
 ·intro w hSw
  (try dsimp only at hSw)
  go_simp
  (try with_reducible rfl)
 (try go_frame)
 refine wpAnyH_take (i:=6) (oi:=_) (v:=?_) rfl (by kernel_rfl) (by kernel_rfl) (by kernel_rfl) (fun _ _ _ h=>h) (Or.inl ⟨by rfl,?_⟩) (by assumption) ?_
 rotate_left
 ·intro w hSw
  (try dsimp only at hSw)
  go_simp
  (try with_reducible rfl)
 (try go_frame)
 refine wpAnyH_take (i:=7) (oi:=_) (v:=?_) rfl (by kernel_rfl) (by kernel_rfl) (by kernel_rfl) (fun _ _ _ h=>h) (Or.inl ⟨by rfl,?_⟩) (by assumption) ?_
 rotate_left
 ·intro w hSw
  (try dsimp only at hSw)
  go_simp
  (try with_reducible rfl)
 (try go_frame)
 refine wpAnyH_take (i:=8) (oi:=_) (v:=?_) rfl (by kernel_rfl) (by kernel_rfl) (by kernel_rfl) (fun _ _ _ h=>h) (Or.inl ⟨by rfl,?_⟩) (by assumption) ?_
 rotate_left
 ·intro w hSw
  (try dsimp only at hSw)
  go_simp
  (try with_reducible rfl)
 (try go_frame)
 refine wpAnyH_take (i:=9) (oi:=_) (v:=?_) rfl (by kernel_rfl) (by kernel_rfl) (by kernel_rfl) (fun _ _ _ h=>h) (Or.inl ⟨by rfl,?_⟩) (by assumption) ?_
 rotate_left
 ·intro w hSw
  (try dsimp only at hSw)
  go_simp
  (try with_reducible rfl)
 (try go_frame)
 refine wpAnyH_take (i:=10) (oi:=_) (v:=?_) rfl (by kernel_rfl) (by kernel_rfl) (by kernel_rfl) (fun _ _ _ h=>h) (Or.inl ⟨by rfl,?_⟩) (by assumption) ?_
 rotate_left
 ·intro w hSw
  (try dsimp only at hSw)
  go_simp
  (try with_reducible rfl)
 (try go_frame)
 refine wpAnyH_take (i:=11) (oi:=_) (v:=?_) rfl (by kernel_rfl) (by kernel_rfl) (by kernel_rfl) (fun _ _ _ h=>h) (Or.inl ⟨by rfl,?_⟩) (by assumption) ?_
 rotate_left
 ·intro w hSw
  (try dsimp only at hSw)
  go_simp
  (try with_reducible rfl)
 (try go_frame)
 refine wpAnyH_take (i:=12) (oi:=_) (v:=?_) rfl (by kernel_rfl) (by kernel_rfl) (by kernel_rfl) (fun _ _ _ h=>h) (Or.inl ⟨by rfl,?_⟩) (by assumption) ?_
 rotate_left
 ·intro w hSw
  (try dsimp only at hSw)
  go_simp
  (try with_reducible rfl)
 (try go_frame)
 refine wpAnyH_take (i:=13) (oi:=_) (v:=?_) rfl (by kernel_rfl) (by kernel_rfl) (by kernel_rfl) (fun _ _ _ h=>h) (Or.inl ⟨by rfl,?_⟩) (by assumption) ?_
 rotate_left
 ·intro w hSw
  (try dsimp only at hSw)
  go_simp
  (try with_reducible rfl)
 (try go_frame)
 refine wpAnyH_take (i:=14) (oi:=_) (v:=?_) rfl (by kernel_rfl) (by kernel_rfl) (by kernel_rfl) (fun _ _ _ h=>h) (Or.inl ⟨by rfl,?_⟩) (by assumption) ?_
 rotate_left
 ·intro w hSw
  (try dsimp only at hSw)
  go_simp
  (try with_reducible rfl)
 (try go_frame)
 refine wpAnyH_take (i:=15) (oi:=_) (v:=?_) rfl (by kernel_rfl) (by kernel_rfl) (by kernel_rfl) (fun _ _ _ h=>h) (Or.inl ⟨by rfl,?_⟩) (by assumption) ?_
 rotate_left
 ·intro w hSw
  (try dsimp only at hSw)
  go_simp
  (try with_reducible rfl)
 (try go_frame)
 refine wpAnyH_ready (rs:=[16]) (by kernel_rfl) (by simp) ?_
 refine AllReadyH.cons (o:=_) rfl (fun K hK=>?_) AllReadyH.nil
 go_simp
 refine (Ji c F B top st f n row k u _ (hide jr.out.drew) (hide (hE.out.grown (aY _)).drew) hu hp pl hpl).mono ?_
 rintro e w2 ⟨⟨a2,cp,rfl,hI⟩,hg2,hF2⟩
 have HG2:Hid (w.grownBy w2 (some F)):=bg (aY _) (iH hg2)
 have HS2:Hid (∀ w3,w2.grownBy w3 (some F)→w3.cell? ⟨F,1,none⟩=some (.slice c.au c.m.units.length c.cu)→(w3.cell? ⟨F,1,none⟩=some (.slice (some ⟨b,off,none⟩) c.m.units.length c.cu)∧w3.cell? ⟨w.heap.size,1,none⟩=some (.int .i64 (k:Int))∧w3.cell? ⟨b,off+k * 6+3,none⟩=some (.int .i64 u.result))):=fun w3 hg3 h1=>⟨by rw [h1,HA.out],(aS (kept (bg (iH hg2) hg3) (by simp) (by omega)) _).trans d2,(aS (kept (bg (iH hg2) hg3) (by simp;omega) (by omega)) _).trans d3⟩
 have bO:=hide hF2
 have HI:=hide hI
 refine hK.out _ _ (HS2.out w2 (fC _ _) (dH hF2.blk).2.1) (fun hHeld=>?_)
 clear hK hI hF2 hg2
 refine wpAnyH_ready (rs:=[17]) (by kernel_rfl) (by simp) ?_
 refine AllReadyH.cons (o:=_) rfl (fun K hK=>?_) AllReadyH.nil
 go_simp
 refine (Di c F B top st f n row u.result pl a2 cp _ bO (by omega) EA HI (by have:=HG2.out.size;omega) (hide (fun b off _ hb=>by omega)) r hr).mono ?_
 rintro e w9 hS
 have aJ:Hid (w.grownBy w9 (some F)):=bg HG2.out hS.grown
 cases r with
 | error er =>
  obtain rfl:=hS.no er rfl
  clear hS hK
  go_wp2
  exact ⟨rfl,ay.bad aJ.out rfl⟩
 | ok aX =>
  obtain ⟨rfl,fq,aK⟩:=hS.yes aX rfl
  have aW:=hide aK
  refine hK.out _ _ (HS2.out w9 hS.grown (dH aW.out.blk).2.1) (fun hHeld=>?_)
  clear hK hS aK
  refine wpAnyH_done (by kernel_rfl) ?_ _
  go_wp2
  go_end0
  exact ay.good aJ.out rfl aW.out
theorem U9 (c:FC)(F B:Nat)(top:Option Addr)(st:List Int)(f:Vf.Fl)(n:Int)(row:Value)(nn:Int)(k:Nat)(u:Vf.Un)(hu:Hid (c.m.units[k]?=some u))(hp:Hid (0≤u.params∧u.params≤u.locals.length∧u.locals.length≤200))(hun:c.m.units.length≤30)(pl:List Int)(hpl:Hid (pl=u.locals.take u.params.toNat))(w:World)(h:Hid (aA c w F top st f n row))(hE:Hid (Env c B F w))(hl:st.length≤300)(r:Except Int (List Int))(hr:Hid (r=Vf.turn (10+(k:Int)) pl st)) :
  Calls Tryz.prog 148 #[.pointer (some ⟨F,0,none⟩),.agg #[.int .i64 29,.int .i64 (k:Int),.int .i64 nn]] w fun e w'=>ay c F f n row r w e w':=by
 have hlt:=hE.out.lt
 have jg:=hE.out.base
 obtain ⟨b,off,al,cl,ac,cc,ha,hb,gG,u0,u1,u2,u3,u4,u5⟩:=hE.out.md.units k u hu.out
 have nW:k < c.m.units.length:=(List.getElem?_eq_some_iff.1 hu.out).1
 have hk1:(k:Int) < (c.m.units.length:Int):=by omega
 have jr:=hide (h.out.alloc (ak 29 (k:Int) nn))
 have d1:(w.alloc (ak 29 (k:Int) nn)).cell? ⟨F,1,none⟩=some (.slice (some ⟨b,off,none⟩) c.m.units.length c.cu):=by have:=(dH jr.out.blk).2.1;rw [ha] at this;exact this
 have d2:(w.alloc (ak 29 (k:Int) nn)).cell? ⟨w.heap.size,1,none⟩=some (.int .i64 (k:Int)):=(rJ (alloc_at w _)).2.1
 have d3:(w.alloc (ak 29 (k:Int) nn)).cell? ⟨b,off+k * 6+3,none⟩=some (.int .i64 u.result):=(uY _ _ (by omega)).trans u3
 have HA:=hide ha
 clear gG u0 u1 u2 u3 u4 u5 ha
 have EA:pl.length < 1000:=by rw [hpl.out];have:=hp.out.2.2;simp;omega
 have e10:IntKind.i64.wrap (10+(k:Int))=10+(k:Int):=by simp [IntKind.wrap,IntKind.bits,IntKind.signed];omega
 go_enter Tryz.func148,Tryz.ntmps148
 go_wp2_with fail
 refine wp_region_held_drew (S:=fun w'=>w'.cell? ⟨F,1,none⟩=some (.slice (some ⟨b,off,none⟩) c.m.units.length c.cu)∧w'.cell? ⟨w.heap.size,1,none⟩=some (.int .i64 (k:Int))∧w'.cell? ⟨b,off+k * 6+3,none⟩=some (.int .i64 u.result)) (by kernel_rfl) ⟨d1,d2,d3⟩ (fun hHeld=>?_)
 refine wpAnyH_take (i:=0) (oi:=_) (v:=?_) rfl (by kernel_rfl) (by kernel_rfl) (by kernel_rfl) (fun _ _ _ h=>h) (Or.inl ⟨by rfl,?_⟩) (by assumption) ?_
 rotate_left
 ·intro w hSw
  (try dsimp only at hSw)
  go_simp
  (try with_reducible rfl)
 (try go_frame)
 refine wpAnyH_take (i:=1) (oi:=_) (v:=?_) rfl (by kernel_rfl) (by kernel_rfl) (by kernel_rfl) (fun _ _ _ h=>h) (Or.inl ⟨by rfl,?_⟩) (by assumption) ?_
 rotate_left
 ·intro w hSw
  (try dsimp only at hSw)
  go_simp
  (try with_reducible rfl)
 (try go_frame)
 refine wpAnyH_take (i:=2) (oi:=_) (v:=?_) rfl (by kernel_rfl) (by kernel_rfl) (by kernel_rfl) (fun _ _ _ h=>h) (Or.inl ⟨by rfl,?_⟩) (by assumption) ?_
 rotate_left
 ·intro w hSw
  (try dsimp only at hSw)
  go_simp
  (try with_reducible rfl)
 (try go_frame)
 refine wpAnyH_take (i:=3) (oi:=_) (v:=?_) rfl (by kernel_rfl) (by kernel_rfl) (by kernel_rfl) (fun _ _ _ h=>h) (Or.inl ⟨by rfl,?_⟩) (by assumption) ?_
 rotate_left
 ·intro w hSw
  (try dsimp only at hSw)
  go_simp
  (try with_reducible rfl)
 (try go_frame)
 refine wpAnyH_take (i:=4) (oi:=_) (v:=?_) rfl (by kernel_rfl) (by kernel_rfl) (by kernel_rfl) (fun _ _ _ h=>h) (Or.inl ⟨by rfl,?_⟩) (by assumption) ?_
 rotate_left
 ·intro w hSw
  (try dsimp only at hSw)
  go_simp
  (try with_reducible rfl)
 (try go_frame)
 refine wpAnyH_take (i:=5) (oi:=_) (v:=?_) rfl (by kernel_rfl) (by kernel_rfl) (by kernel_rfl) (fun _ _ _ h=>h) (Or.inl ⟨by rfl,?_⟩) (by assumption) ?_
 rotate_left
 ·intro w hSw
  (try dsimp only at hSw)
  go_simp
  (try with_reducible rfl)
 (try go_frame)
 refine wpAnyH_take (i:=6) (oi:=_) (v:=?_) rfl (by kernel_rfl) (by kernel_rfl) (by kernel_rfl) (fun _ _ _ h=>h) (Or.inl ⟨by rfl,?_⟩) (by assumption) ?_
 rotate_left
 ·intro w hSw
  (try dsimp only at hSw)
  go_simp
  (try with_reducible rfl)
 (try go_frame)
 refine wpAnyH_ready (rs:=[7]) (by kernel_rfl) (by simp) ?_
 refine AllReadyH.cons (o:=_) rfl (fun K hK=>?_) AllReadyH.nil
 go_simp
 refine (Ji c F B top st f n row k u _ (hide jr.out.drew) (hide (hE.out.grown (aY _)).drew) hu hp pl hpl).mono ?_
 rintro e w2 ⟨⟨a2,cp,rfl,hI⟩,hg2,hF2⟩
 have HG2:Hid (w.grownBy w2 (some F)):=bg (aY _) (iH hg2)
 have HS2:Hid (∀ w3,w2.grownBy w3 (some F)→w3.cell? ⟨F,1,none⟩=some (.slice c.au c.m.units.length c.cu)→(w3.cell? ⟨F,1,none⟩=some (.slice (some ⟨b,off,none⟩) c.m.units.length c.cu)∧w3.cell? ⟨w.heap.size,1,none⟩=some (.int .i64 (k:Int))∧w3.cell? ⟨b,off+k * 6+3,none⟩=some (.int .i64 u.result))):=fun w3 hg3 h1=>⟨by rw [h1,HA.out],(aS (kept (bg (iH hg2) hg3) (by simp) (by omega)) _).trans d2,(aS (kept (bg (iH hg2) hg3) (by simp;omega) (by omega)) _).trans d3⟩
 have bO:=hide hF2
 have HI:=hide hI
 refine hK.out _ _ (HS2.out w2 (fC _ _) (dH hF2.blk).2.1) (fun hHeld=>?_)
 clear hK hI hF2 hg2
 refine wpAnyH_ready (rs:=[8]) (by kernel_rfl) (by simp) ?_
 refine AllReadyH.cons (o:=_) rfl (fun K hK=>?_) AllReadyH.nil
 go_simp
 refine (Di c F B top st f n row (10+(k:Int)) pl a2 cp _ bO (by omega) EA HI (by have:=HG2.out.size;omega) (hide (fun b off _ hb=>by omega)) r hr).mono ?_
 rintro e w9 hS
 have aJ:Hid (w.grownBy w9 (some F)):=bg HG2.out hS.grown
 cases r with
 | error er =>
  obtain rfl:=hS.no er rfl
  clear hS hK
  go_wp2
  exact ⟨rfl,ay.bad aJ.out rfl⟩
 | ok aX =>
  obtain ⟨rfl,fq,aK⟩:=hS.yes aX rfl
  have aW:=hide aK
  refine hK.out _ _ (HS2.out w9 hS.grown (dH aW.out.blk).2.1) (fun hHeld=>?_)
  clear hK hS aK
  refine wpAnyH_done (by kernel_rfl) ?_ _
  go_wp2
  go_end0
  exact ay.good aJ.out rfl aW.out
end Go.Proofs.YthffafaoobpedaaGreatDoor

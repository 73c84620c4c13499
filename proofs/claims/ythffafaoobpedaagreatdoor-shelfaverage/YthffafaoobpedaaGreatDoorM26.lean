/- The walk of each,for both looks;of shapes and flows. -/
import Derived.Test.YthffafaoobpedaaGreatDoorM25
import Derived.Test.YthffafaoobpedaaGreatDoorM23
import Derived.Deep.QuietTactic
import Derived.BigQuiet
set_option maxRecDepth 100000
set_option maxHeartbeats 4000000
namespace Go.Proofs.YthffafaoobpedaaGreatDoor
open Go.RowKit
namespace Vf
def jA (f:Un→Int × Nat):List Un→Nat→Int × Int × Int
 | [],_=>(0,0,0)
 | u :: l,k=>if (f u).1=0 then jA f l (k+1) else ((f u).1,(k:Int),((f u).2:Int))
theorem M3 {α:Type}(f:α→Int):∀ (l:List α) (k:Nat),(cO f l k).1=0→(cO f l k).2=0
 | [],_,_=>rfl
 | x :: l,k,h=>by
  unfold cO at h ⊢
  split at h
  ·rename_i hx
   rw [if_pos hx]
   exact M3 f l (k+1) h
  ·rename_i hx
   exact absurd h hx
theorem XA {m:Md}{u:Un}(h:(ib m u).1=0):(ib m u).2=0:=by
 unfold ib at h ⊢
 split
 ·rename_i hh
  rw [if_pos hh] at h
  exact M3 _ _ _ h
 ·rfl
theorem M4 {m:Md}{u:Un}:∀ (f:Nat) (s:S),(fV m u f s).1=0→(fV m u f s).2=0
 | 0,_,_=>rfl
 | f+1,s,h=>by
  unfold fV at h ⊢
  split
  ·rfl
  ·rename_i n row hrow
   rw [hrow] at h
   simp only at h
   split
   ·rename_i e he
    rw [he] at h
    exact absurd h (Dm _ _ _ _ e he)
   ·rename_i s' hs
    rw [hs] at h
    exact M4 f s' h
end Vf
theorem M5 (f:Vf.Un→Int × Nat){l:List Vf.Un}{k:Nat}{x:Vf.Un}(h:l[k]?=some x):Vf.jA f (l.drop k) k=if (f x).1=0 then Vf.jA f (l.drop (k+1)) (k+1) else ((f x).1,(k:Int),((f x).2:Int)):=by
 obtain ⟨hk,rfl⟩:=List.getElem?_eq_some_iff.1 h
 rw [List.drop_eq_getElem_cons hk]
 rfl
abbrev tF (g:FuncId):Obj:=.cells #[.func (.func g) #[] #[]] 128 (0,0)
abbrev dm (er un num:Int):Value:=.agg #[.int .i64 er,.int .i64 un,.int .i64 num]
abbrev cZ:Obj:=.cells #[.int .i64 0,.int .i64 0,.int .i64 0] 44 (0,0)
theorem mq {w:World}{N:Nat}{m:Vf.Md}{ab au:Option Addr}{cb cu:Nat}(h:w.heap[N]?=some (gT m ab au cb cu)) :
  w.cell? ⟨N,0,none⟩=some (.slice ab m.boxes.length cb)∧w.cell? ⟨N,1,none⟩=some (.slice au m.units.length cu):=by
 simp [World.cell?,h]
theorem dP {w:World}{N:Nat}{a b c:Value}(h:w.heap[N]?=some (.cells #[a,b,c] 44 (0,0))) :
  (w.cell? ⟨N,0,none⟩=some a∧w.cell? ⟨N,1,none⟩=some b∧w.cell? ⟨N,2,none⟩=some c)∧w.frozen? ⟨N,0,none⟩=false∧w.frozen? ⟨N,1,none⟩=false∧w.frozen? ⟨N,2,none⟩=false:=by
 simp [World.cell?,World.frozen?,h]
structure E1 (g:FuncId) (c:FC) (LB MB UB:Nat) (w:World):Prop where
 lk:w.heap[LB]?=some (tF g)
 md:w.heap[MB]?=some (gT c.m c.ab c.au c.cb c.cu)
 un:w.heap[UB]?=some (bf c.u c.al c.ac c.cl c.cc)
theorem XB (c:FC)(B LB MB UB:Nat)(w:World)(h:Hid (E1 55 c LB MB UB w))(hmd:Hid (bn B w c.m c.ab c.au))(hun:Hid (gP B w c.u c.al c.ac c.cl c.cc))(hB:B≤w.heap.size)(hmu:c.m.units.length≤30)(er num:Int)(hr:Hid ((er,num)=((Vf.ib c.m c.u).1,((Vf.ib c.m c.u).2:Int)))) :
  Calls Tryz.prog 91 #[.pointer (some ⟨LB,0,none⟩),.pointer (some ⟨MB,0,none⟩),.pointer (some ⟨UB,0,none⟩)] w fun e w'=>w.grownBy w' none∧fJ er num e:=by
 have l0:w.cell? ⟨LB,0,none⟩=some (.func (.func 55) #[] #[]):=by simp [World.cell?,h.out.lk]
 obtain ⟨m0,m1⟩:=mq h.out.md
 obtain ⟨u0,u1,u2,u3,u4,u5⟩:=Dk h.out.un
 go_enter Tryz.func91,Tryz.ntmps91
 go_wp2_with fail
 refine (Xx c B _ hmd hun hB hmu er num hr).mono ?_
 rintro e w1 ⟨hg1,he⟩
 have aH:=hide hg1
 clear hg1 l0 m0 m1 u0 u1 u2 u3 u4 u5
 by_cases h1:er=0
 ·obtain rfl:e=.returned (.tuple #[]):=by unfold fJ at he;rw [if_pos h1] at he;exact he
  have HX:Hid (fJ er num (.returned (.tuple #[]))):=he
  clear he h1
  go_wp2
  go_end0
  exact ⟨aH.out,HX.out⟩
 ·obtain rfl:e=.panicked [bZ er num]:=by unfold fJ at he;rw [if_neg h1] at he;exact he
  have HX:Hid (fJ er num (.panicked [bZ er num])):=he
  clear he h1
  go_wp2
  exact ⟨rfl,aH.out,HX.out⟩
theorem XC (c:FC)(B LB MB UB:Nat)(w:World)(h:Hid (E1 58 c LB MB UB w))(hmd:Hid (bn B w c.m c.ab c.au))(hun:Hid (gP B w c.u c.al c.ac c.cl c.cc))(hB:B≤w.heap.size)(hR:Hid (Rt c.m))(hu:Hid (Vf.fM c.m c.u=0))(hfo:Hid (Vf.Forms c.m c.u))(er num:Int)(hr:Hid ((er,num)=((Vf.gN c.m c.u).1,((Vf.gN c.m c.u).2:Int)))) :
  Calls Tryz.prog 91 #[.pointer (some ⟨LB,0,none⟩),.pointer (some ⟨MB,0,none⟩),.pointer (some ⟨UB,0,none⟩)] w fun e w'=>w.grownBy w' none∧fJ er num e:=by
 have l0:w.cell? ⟨LB,0,none⟩=some (.func (.func 58) #[] #[]):=by simp [World.cell?,h.out.lk]
 obtain ⟨m0,m1⟩:=mq h.out.md
 obtain ⟨u0,u1,u2,u3,u4,u5⟩:=Dk h.out.un
 go_enter Tryz.func91,Tryz.ntmps91
 go_wp2_with fail
 refine (Xz c B _ hmd hun hB hR hu hfo er num hr).mono ?_
 rintro e w1 ⟨hg1,he⟩
 have aH:=hide hg1
 clear hg1 l0 m0 m1 u0 u1 u2 u3 u4 u5
 by_cases h1:er=0
 ·obtain rfl:e=.returned (.tuple #[]):=by unfold fJ at he;rw [if_pos h1] at he;exact he
  have HX:Hid (fJ er num (.returned (.tuple #[]))):=he
  clear he h1
  go_wp2
  go_end0
  exact ⟨aH.out,HX.out⟩
 ·obtain rfl:e=.panicked [bZ er num]:=by unfold fJ at he;rw [if_neg h1] at he;exact he
  have HX:Hid (fJ er num (.panicked [bZ er num])):=he
  clear he h1
  go_wp2
  exact ⟨rfl,aH.out,HX.out⟩
structure M6 (f:Vf.Un→Int × Nat) (l:List Vf.Un) (w0:World) (er un num:Int) (k:Nat) (W:World):Prop where
 le:k≤l.length
 grown:w0.grownBy W none
 rest:(er,un,num)=Vf.jA f (l.drop k) k
theorem vY (w:World)(a b:Obj):((w.alloc a).alloc b).heap[w.heap.size+1]?=some b:=by
 have e:(w.alloc a).heap.size=w.heap.size+1:=by simp
 rw [← e]
 exact heap_alloc_new _ _
theorem XD (w:World)(a b c:Obj):(((w.alloc a).alloc b).alloc c).heap[w.heap.size+1+1]?=some c:=by
 have e:((w.alloc a).alloc b).heap.size=w.heap.size+1+1:=by simp
 rw [← e]
 exact heap_alloc_new _ _
theorem yA (w:World)(a b c:Obj):w.grownBy (((w.alloc a).alloc b).alloc c) none∧(((w.alloc a).alloc b).alloc c).heap[w.heap.size]?=some a∧(((w.alloc a).alloc b).alloc c).heap[w.heap.size+1]?=some b∧(((w.alloc a).alloc b).alloc c).heap[w.heap.size+1+1]?=some c :=
 ⟨aT (fA _ _ _) _,(Below.heap_alloc _ _ _ (by simp;omega)).trans ((Below.heap_alloc _ _ _ (by simp)).trans (heap_alloc_new _ _)),(Below.heap_alloc _ _ _ (by simp)).trans (vY _ _ _),XD _ _ _ _⟩
theorem mr {w:World}{N:Nat}{a b c:Value}(h:w.heap[N]?=some (.cells #[a,b,c] 44 (0,0)))(x y z:Value):(((w.setCell ⟨N,0,none⟩ x).setCell ⟨N,1,none⟩ y).setCell ⟨N,2,none⟩ z).heap[N]?=some (.cells #[x,y,z] 44 (0,0)):=by
 simp only [World.setCell,Array.getElem?_modify,if_true,h,Option.map_some]
 rfl
theorem aR {w w':World}{N:Nat}(h:w.grownBy w' none)(hN:w.heap.size≤N)(o:Nat)(v:Value):w.grownBy (w'.setCell ⟨N,o,none⟩ v) none :=
 ⟨h.os,h.tape,h.output,by have:=h.size;simp [World.setCell];omega,fun k hk hne=>by
  rw [Below.heap_setCell _ ⟨N,o,none⟩ _ _ (by show k≠N;omega)]
  exact h.block k hk hne⟩
theorem XE (m:Vf.Md)(ab au:Option Addr)(cb cu B:Nat)(w:World)(hmd:Hid (bn B w m ab au))(hB:B≤w.heap.size)(hmu:m.units.length≤30)  (er un num:Int)(hr:Hid ((er,un,num)=Vf.jA (Vf.ib m) m.units 0)) :
  Calls Tryz.prog 54 #[fw m ab au cb cu,.func (.func 55) #[] #[]] w fun e w'=>e=.returned (dm er un num)∧w.grownBy w' none:=by
 have vJ:∀ (fn:Fn) (first cap:Array Value) (w:World),(Instr.makeFunc fn first cap).run Tryz.prog w=.ok (.func fn first cap) w:=fun _ _ _ _=>rfl
 obtain ⟨W0,hW0⟩:∃ W0:World,((w.alloc (gT m ab au cb cu)).alloc (tF 55)).alloc cZ=W0:=⟨_,rfl⟩
 obtain ⟨t0,t1,t2,t3⟩:=yA w (gT m ab au cb cu) (tF 55) cZ
 rw [hW0] at t0 t1 t2 t3
 have HT0:=hide t0
 have HT1:=hide t1
 have HT2:=hide t2
 have HT3:=hide t3
 have HW0:=hide hW0
 clear t0 t1 t2 t3 hW0
 go_enter Tryz.func54,Tryz.ntmps54
 go_wp2
 go_loopw [12] (fun v wr=>∃ k:Nat,v=.int .i64 k∧M6 (Vf.ib m) m.units W0 er un num k wr) (fun v _=>m.units.length - (intOf v).toNat)
 case atStart=>exact ⟨0,rfl,Nat.zero_le _,by rw [← HW0.out];exact World.grownBy.refl _ _,hr.out⟩
 case round =>
  obtain ⟨k,rfl,hA⟩:=hrel
  have HA:=hide hA
  have hk:=hA.le
  have HG:Hid (w.grownBy wr none):=bY HT0.out HA.out.grown
  have hz:=HG.out.size
  have kC:wr.heap[w.heap.size+1+1]?=some cZ:=(bX HA.out.grown (lt_of_block HT3.out)).trans HT3.out
  have yB:=hide kC
  have hlk:wr.heap[w.heap.size+1]?=some (tF 55):=(bX HA.out.grown (lt_of_block HT2.out)).trans HT2.out
  have hmb:wr.heap[w.heap.size]?=some (gT m ab au cb cu):=(bX HA.out.grown (lt_of_block HT1.out)).trans HT1.out
  have Fx:=hide hlk
  have yC:=hide hmb
  have hsz2:w.heap.size+1+1 < wr.heap.size:=lt_of_block kC
  obtain ⟨⟨z0,z1,z2⟩,y0,y1,y2⟩:=dP kC
  clear hA kC hlk hmb
  by_cases hlt:k < m.units.length
  ·obtain ⟨u,hu⟩:∃ u,m.units[k]?=some u:=⟨_,List.getElem?_eq_getElem hlt⟩
   have tH:bn B wr m ab au:=hmd.out.low (fU HG.out hB)
   obtain ⟨b,off,al,cl,ac,cc,ha,hb,gG,u0,u1,u2,u3,u4,u5⟩:=tH.units k u hu
   have HU:=hide hu
   have Fy:=hide tH
   have yD:=hide gG
   have hk1:(k:Int) < (m.units.length:Int):=by omega
   obtain ⟨e1,n1,hen⟩:∃ (e1:Int) (n1:Nat),e1=(Vf.ib m u).1∧n1=(Vf.ib m u).2:=⟨_,_,rfl,rfl⟩
   have tJ:=hide hen
   have HZ:Hid (e1=0→(n1:Int)=0):=fun h0=>by
    have:=Vf.XA (show (Vf.ib m u).1=0 by rw [← hen.1];exact h0)
    have h2:(Vf.ib m u).2=0:=this
    rw [hen.2,h2]
    rfl
   have HN:Hid ((er,un,num)=if e1=0 then Vf.jA (Vf.ib m) (m.units.drop (k+1)) (k+1) else (e1,(k:Int),(n1:Int))):=by
    unfold Hid
    rw [HA.out.rest,M5 _ hu,hen.1,hen.2]
   have lC:=hide ha
   clear hu tH gG hen ha
   rw [lC.out]
   go_wp2_with fail
   obtain ⟨W1,hW1⟩:∃ W1:World,W1=wr.alloc (bf u al ac cl cc):=⟨_,rfl⟩
   have aH:Hid (wr.grownBy W1 none):=by rw [hW1];exact aT (World.grownBy.refl _ _) _
   have aZ:Hid (E1 55 ⟨m,u,ab,au,al,ac,cb,cu,cl,cc,0⟩ (w.heap.size+1) w.heap.size wr.heap.size (W1.alloc oC)) :=
    ⟨(Below.heap_alloc _ _ _ (by have:=aH.out.size;omega)).trans ((bX aH.out (by omega)).trans Fx.out),(Below.heap_alloc _ _ _ (by have:=aH.out.size;omega)).trans ((bX aH.out (by omega)).trans yC.out),by
     have h1:W1.heap[wr.heap.size]?=some (bf u al ac cl cc):=by rw [hW1];exact heap_alloc_new _ _
     exact (Below.heap_alloc _ _ _ (lt_of_block h1)).trans h1⟩
   have HG2:Hid (wr.grownBy (W1.alloc oC) none):=aT aH.out _
   have HW1:=hide hW1.symm
   rw [HW1.out]
   clear hW1
   refine (M0 91 #[.pointer (some ⟨w.heap.size+1,0,none⟩),.pointer (some ⟨w.heap.size,0,none⟩),.pointer (some ⟨wr.heap.size,0,none⟩)] e1 (n1:Int) (fun wx=>(W1.alloc oC).grownBy wx none) _ HZ.out ?_ ?_).mono ?_
   ·intro w'
    first | rfl | kernel_rfl | simp [go_sem]
   ·refine (XB ⟨m,u,ab,au,al,ac,cb,cu,cl,cc,0⟩ B (w.heap.size+1) w.heap.size wr.heap.size _ aZ (hide (Fy.out.low (fU HG2.out (by omega)))) (hide (yD.out.low (fU HG2.out (by omega)))) (by have:=HG2.out.size;omega) hmu e1 (n1:Int) (hide (by rw [tJ.out.1,tJ.out.2]))).mono ?_
    rintro e wx ⟨hgx,hex⟩
    exact ⟨hgx,(bX hgx (by simp)).trans (heap_alloc_new _ _),hex⟩
   rintro e w2 ⟨rfl,wx,hgx,hzx,rfl⟩
   have fD:Hid (wr.grownBy ((wx.setCell ⟨W1.heap.size,0,none⟩ (.int .i64 e1)).setCell ⟨W1.heap.size,1,none⟩ (.int .i64 (n1:Int))) none):=aR (aR (bY HG2.out hgx) (by have:=aH.out.size;omega) _ _) (by have:=aH.out.size;omega) _ _
   obtain ⟨W3,hW3⟩:∃ W3:World,(wx.setCell ⟨W1.heap.size,0,none⟩ (.int .i64 e1)).setCell ⟨W1.heap.size,1,none⟩ (.int .i64 (n1:Int))=W3:=⟨_,rfl⟩
   rw [hW3] at fD
   have HW3:=hide hW3
   rw [HW3.out]
   have tK:W3.heap[w.heap.size+1+1]?=some cZ:=(bX fD.out (by omega)).trans yB.out
   have Fz:=hide tK
   obtain ⟨⟨p0,p1,p2⟩,q0,q1,q2⟩:=dP tK
   have hz3:=fD.out.size
   have XF:w.heap.size+1+1 < W3.heap.size:=by omega
   clear hgx hzx tK hW3 z0 z1 z2 y0 y1 y2 u0 u1 u2 u3 u4 u5
   by_cases h0:e1=0
   ·have e0:(e1 != 0)=false:=by simpa using h0
    have bM:Hid ((er,un,num)=Vf.jA (Vf.ib m) (m.units.drop (k+1)) (k+1)):=by have:=HN.out;rw [if_pos h0] at this;exact this
    clear h0
    go_wp2
    go_roundw
    case rel=>exact ⟨k+1,by go_num,hlt,aT (bY HA.out.grown fD.out) _,bM.out⟩
    case measure=>simp [intOf];omega
   ·have e0:(e1 != 0)=true:=by simpa using h0
    have bM:Hid (er=e1∧un=(k:Int)∧num=(n1:Int)):=by have:=HN.out;rw [if_neg h0] at this;cases this;exact ⟨rfl,rfl,rfl⟩
    clear h0
    go_wp2
    have hX:=mr Fz.out (.int .i64 e1) (.int .i64 (k:Int)) (.int .i64 (n1:Int))
    obtain ⟨⟨g0,g1,g2⟩,_⟩:=dP ((Below.heap_alloc _ (.cells #[.int .i64 e1,.int .i64 (n1:Int)] 60) _ (lt_of_block hX)).trans hX)
    refine bodyPost_ret (v:=dm e1 (k:Int) (n1:Int)) (by simp [results,Tryz.results54,go_sem,g0,g1,g2]) rfl ?_
    rw [bM.out.1,bM.out.2.1,bM.out.2.2]
    exact ⟨rfl,aT (aR (aR (aR (bY HG.out fD.out) (by omega) _ _) (by omega) _ _) (by omega) _ _) _⟩
  ·have bM:Hid (er=0∧un=0∧num=0):=by
    have:=HA.out.rest
    rw [List.drop_eq_nil_of_le (by omega)] at this
    cases this
    exact ⟨rfl,rfl,rfl⟩
   go_wp2
   refine bodyPost_ret (v:=dm 0 0 0) (by simp [results,Tryz.results54,go_sem,z0,z1,z2]) rfl ?_
   rw [bM.out.1,bM.out.2.1,bM.out.2.2]
   exact ⟨rfl,aR (aR (aR HG.out (by omega) _ _) (by omega) _ _) (by omega) _ _⟩
theorem XG (m:Vf.Md)(ab au:Option Addr)(cb cu B:Nat)(w:World)(hmd:Hid (bn B w m ab au))(hB:B≤w.heap.size)(hmu:m.units.length≤30)(hR:Hid (Rt m))(er un num:Int)(hr:Hid ((er,un,num)=Vf.jA (Vf.gN m) m.units 0)) :
  Calls Tryz.prog 54 #[fw m ab au cb cu,.func (.func 58) #[] #[]] w fun e w'=>e=.returned (dm er un num)∧w.grownBy w' none:=by
 have vJ:∀ (fn:Fn) (first cap:Array Value) (w:World),(Instr.makeFunc fn first cap).run Tryz.prog w=.ok (.func fn first cap) w:=fun _ _ _ _=>rfl
 obtain ⟨W0,hW0⟩:∃ W0:World,((w.alloc (gT m ab au cb cu)).alloc (tF 58)).alloc cZ=W0:=⟨_,rfl⟩
 obtain ⟨t0,t1,t2,t3⟩:=yA w (gT m ab au cb cu) (tF 58) cZ
 rw [hW0] at t0 t1 t2 t3
 have HT0:=hide t0
 have HT1:=hide t1
 have HT2:=hide t2
 have HT3:=hide t3
 have HW0:=hide hW0
 clear t0 t1 t2 t3 hW0
 go_enter Tryz.func54,Tryz.ntmps54
 go_wp2
 go_loopw [12] (fun v wr=>∃ k:Nat,v=.int .i64 k∧M6 (Vf.gN m) m.units W0 er un num k wr) (fun v _=>m.units.length - (intOf v).toNat)
 case atStart=>exact ⟨0,rfl,Nat.zero_le _,by rw [← HW0.out];exact World.grownBy.refl _ _,hr.out⟩
 case round =>
  obtain ⟨k,rfl,hA⟩:=hrel
  have HA:=hide hA
  have hk:=hA.le
  have HG:Hid (w.grownBy wr none):=bY HT0.out HA.out.grown
  have hz:=HG.out.size
  have kC:wr.heap[w.heap.size+1+1]?=some cZ:=(bX HA.out.grown (lt_of_block HT3.out)).trans HT3.out
  have yB:=hide kC
  have hlk:wr.heap[w.heap.size+1]?=some (tF 58):=(bX HA.out.grown (lt_of_block HT2.out)).trans HT2.out
  have hmb:wr.heap[w.heap.size]?=some (gT m ab au cb cu):=(bX HA.out.grown (lt_of_block HT1.out)).trans HT1.out
  have Fx:=hide hlk
  have yC:=hide hmb
  have hsz2:w.heap.size+1+1 < wr.heap.size:=lt_of_block kC
  obtain ⟨⟨z0,z1,z2⟩,y0,y1,y2⟩:=dP kC
  clear hA kC hlk hmb
  by_cases hlt:k < m.units.length
  ·obtain ⟨u,hu⟩:∃ u,m.units[k]?=some u:=⟨_,List.getElem?_eq_getElem hlt⟩
   have tH:bn B wr m ab au:=hmd.out.low (fU HG.out hB)
   obtain ⟨b,off,al,cl,ac,cc,ha,hb,gG,u0,u1,u2,u3,u4,u5⟩:=tH.units k u hu
   have HU:=hide hu
   have Fy:=hide tH
   have yD:=hide gG
   have hk1:(k:Int) < (m.units.length:Int):=by omega
   obtain ⟨e1,n1,hen⟩:∃ (e1:Int) (n1:Nat),e1=(Vf.gN m u).1∧n1=(Vf.gN m u).2:=⟨_,_,rfl,rfl⟩
   have tJ:=hide hen
   have HZ:Hid (e1=0→(n1:Int)=0):=fun h0=>by
    have:=Vf.M4 (Vf.mu u.code.length (Vf.start u)+1) (Vf.start u) (show (Vf.gN m u).1=0 by rw [← hen.1];exact h0)
    have h2:(Vf.gN m u).2=0:=this
    rw [hen.2,h2]
    rfl
   have HN:Hid ((er,un,num)=if e1=0 then Vf.jA (Vf.gN m) (m.units.drop (k+1)) (k+1) else (e1,(k:Int),(n1:Int))):=by
    unfold Hid
    rw [HA.out.rest,M5 _ hu,hen.1,hen.2]
   have lC:=hide ha
   clear hu tH gG hen ha
   rw [lC.out]
   go_wp2_with fail
   obtain ⟨W1,hW1⟩:∃ W1:World,W1=wr.alloc (bf u al ac cl cc):=⟨_,rfl⟩
   have aH:Hid (wr.grownBy W1 none):=by rw [hW1];exact aT (World.grownBy.refl _ _) _
   have aZ:Hid (E1 58 ⟨m,u,ab,au,al,ac,cb,cu,cl,cc,0⟩ (w.heap.size+1) w.heap.size wr.heap.size (W1.alloc oC)) :=
    ⟨(Below.heap_alloc _ _ _ (by have:=aH.out.size;omega)).trans ((bX aH.out (by omega)).trans Fx.out),(Below.heap_alloc _ _ _ (by have:=aH.out.size;omega)).trans ((bX aH.out (by omega)).trans yC.out),by
     have h1:W1.heap[wr.heap.size]?=some (bf u al ac cl cc):=by rw [hW1];exact heap_alloc_new _ _
     exact (Below.heap_alloc _ _ _ (lt_of_block h1)).trans h1⟩
   have HG2:Hid (wr.grownBy (W1.alloc oC) none):=aT aH.out _
   have HW1:=hide hW1.symm
   rw [HW1.out]
   clear hW1
   refine (M0 91 #[.pointer (some ⟨w.heap.size+1,0,none⟩),.pointer (some ⟨w.heap.size,0,none⟩),.pointer (some ⟨wr.heap.size,0,none⟩)] e1 (n1:Int) (fun wx=>(W1.alloc oC).grownBy wx none) _ HZ.out ?_ ?_).mono ?_
   ·intro w'
    first | rfl | kernel_rfl | simp [go_sem]
   ·refine (XC ⟨m,u,ab,au,al,ac,cb,cu,cl,cc,0⟩ B (w.heap.size+1) w.heap.size wr.heap.size _ aZ (hide (Fy.out.low (fU HG2.out (by omega)))) (hide (yD.out.low (fU HG2.out (by omega)))) (by have:=HG2.out.size;omega) hR (hide (hR.out.heads k u HU.out).1) (hide (hR.out.heads k u HU.out).2) e1 (n1:Int) (hide (by rw [tJ.out.1,tJ.out.2]))).mono ?_
    rintro e wx ⟨hgx,hex⟩
    exact ⟨hgx,(bX hgx (by simp)).trans (heap_alloc_new _ _),hex⟩
   rintro e w2 ⟨rfl,wx,hgx,hzx,rfl⟩
   have fD:Hid (wr.grownBy ((wx.setCell ⟨W1.heap.size,0,none⟩ (.int .i64 e1)).setCell ⟨W1.heap.size,1,none⟩ (.int .i64 (n1:Int))) none):=aR (aR (bY HG2.out hgx) (by have:=aH.out.size;omega) _ _) (by have:=aH.out.size;omega) _ _
   obtain ⟨W3,hW3⟩:∃ W3:World,(wx.setCell ⟨W1.heap.size,0,none⟩ (.int .i64 e1)).setCell ⟨W1.heap.size,1,none⟩ (.int .i64 (n1:Int))=W3:=⟨_,rfl⟩
   rw [hW3] at fD
   have HW3:=hide hW3
   rw [HW3.out]
   have tK:W3.heap[w.heap.size+1+1]?=some cZ:=(bX fD.out (by omega)).trans yB.out
   have Fz:=hide tK
   obtain ⟨⟨p0,p1,p2⟩,q0,q1,q2⟩:=dP tK
   have hz3:=fD.out.size
   have XF:w.heap.size+1+1 < W3.heap.size:=by omega
   clear hgx hzx tK hW3 z0 z1 z2 y0 y1 y2 u0 u1 u2 u3 u4 u5
   by_cases h0:e1=0
   ·have e0:(e1 != 0)=false:=by simpa using h0
    have bM:Hid ((er,un,num)=Vf.jA (Vf.gN m) (m.units.drop (k+1)) (k+1)):=by have:=HN.out;rw [if_pos h0] at this;exact this
    clear h0
    go_wp2
    go_roundw
    case rel=>exact ⟨k+1,by go_num,hlt,aT (bY HA.out.grown fD.out) _,bM.out⟩
    case measure=>simp [intOf];omega
   ·have e0:(e1 != 0)=true:=by simpa using h0
    have bM:Hid (er=e1∧un=(k:Int)∧num=(n1:Int)):=by have:=HN.out;rw [if_neg h0] at this;cases this;exact ⟨rfl,rfl,rfl⟩
    clear h0
    go_wp2
    have hX:=mr Fz.out (.int .i64 e1) (.int .i64 (k:Int)) (.int .i64 (n1:Int))
    obtain ⟨⟨g0,g1,g2⟩,_⟩:=dP ((Below.heap_alloc _ (.cells #[.int .i64 e1,.int .i64 (n1:Int)] 60) _ (lt_of_block hX)).trans hX)
    refine bodyPost_ret (v:=dm e1 (k:Int) (n1:Int)) (by simp [results,Tryz.results54,go_sem,g0,g1,g2]) rfl ?_
    rw [bM.out.1,bM.out.2.1,bM.out.2.2]
    exact ⟨rfl,aT (aR (aR (aR (bY HG.out fD.out) (by omega) _ _) (by omega) _ _) (by omega) _ _) _⟩
  ·have bM:Hid (er=0∧un=0∧num=0):=by
    have:=HA.out.rest
    rw [List.drop_eq_nil_of_le (by omega)] at this
    cases this
    exact ⟨rfl,rfl,rfl⟩
   go_wp2
   refine bodyPost_ret (v:=dm 0 0 0) (by simp [results,Tryz.results54,go_sem,z0,z1,z2]) rfl ?_
   rw [bM.out.1,bM.out.2.1,bM.out.2.2]
   exact ⟨rfl,aR (aR (aR HG.out (by omega) _ _) (by omega) _ _) (by omega) _ _⟩
theorem XH (m:Vf.Md)(ab au:Option Addr)(cb cu B:Nat)(w:World)(hmd:Hid (bn B w m ab au))(hB:B≤w.heap.size)(hmu:m.units.length≤30)(er un num:Int)(hr:Hid ((er,un,num)=Vf.jA (Vf.ib m) m.units 0)) :
  Calls Tryz.prog 30 #[fw m ab au cb cu] w fun e w'=>e=.returned (dm er un num)∧w.grownBy w' none:=by
 have HT:=hide (fA w (gT m ab au cb cu) cZ)
 have HM:Hid (bn B ((w.alloc (gT m ab au cb cu)).alloc cZ) m ab au):=hmd.out.low (fU HT.out hB)
 go_enter Tryz.func30,Tryz.ntmps30
 go_wp2_with fail
 refine (XE m ab au cb cu B _ HM (by simp;omega) hmu er un num hr).mono ?_
 rintro e w2 ⟨rfl,hg2⟩
 have HG2:Hid (w.grownBy w2 none):=bY HT.out hg2
 have kC:w2.heap[w.heap.size+1]?=some cZ:=(bX hg2 (by simp)).trans (vY _ _ _)
 obtain ⟨⟨z0,z1,z2⟩,y0,y1,y2⟩:=dP kC
 clear hg2 kC
 go_wp2
 refine bodyPost_ret (v:=dm er un num) (by simp [results,Tryz.results30,go_sem,z0,z1,z2]) rfl ?_
 exact ⟨rfl,aR (aR (aR HG2.out (by omega) _ _) (by omega) _ _) (by omega) _ _⟩
theorem XI (m:Vf.Md)(ab au:Option Addr)(cb cu B:Nat)(w:World)(hmd:Hid (bn B w m ab au))(hB:B≤w.heap.size)(hR:Hid (Rt m))(er un num:Int)(hr:Hid ((er,un,num)=Vf.jA (Vf.gN m) m.units 0)) :
  Calls Tryz.prog 32 #[fw m ab au cb cu] w fun e w'=>e=.returned (dm er un num)∧w.grownBy w' none:=by
 have HT:=hide (fA w (gT m ab au cb cu) cZ)
 have HM:Hid (bn B ((w.alloc (gT m ab au cb cu)).alloc cZ) m ab au):=hmd.out.low (fU HT.out hB)
 go_enter Tryz.func32,Tryz.ntmps32
 go_wp2_with fail
 refine (XG m ab au cb cu B _ HM (by simp;omega) hR.out.units hR er un num hr).mono ?_
 rintro e w2 ⟨rfl,hg2⟩
 have HG2:Hid (w.grownBy w2 none):=bY HT.out hg2
 have kC:w2.heap[w.heap.size+1]?=some cZ:=(bX hg2 (by simp)).trans (vY _ _ _)
 obtain ⟨⟨z0,z1,z2⟩,y0,y1,y2⟩:=dP kC
 clear hg2 kC
 go_wp2
 refine bodyPost_ret (v:=dm er un num) (by simp [results,Tryz.results32,go_sem,z0,z1,z2]) rfl ?_
 exact ⟨rfl,aR (aR (aR HG2.out (by omega) _ _) (by omega) _ _) (by omega) _ _⟩
theorem XJ (m:Vf.Md)(ab au:Option Addr)(cb cu B n M:Nat)(g:FuncId)(ah:Array Value)(I:List Lk→World→Prop)(w:World)(hmd:Hid (bn B w m ab au))(hB:B≤w.heap.size)(hR:Hid (Rt m))(hn:n < m.units.length)(FB:B≤M)(hM:M < w.heap.size)
  (hcf:∀ (vs:Array Value) (w:World),(callFunc g vs).run Tryz.prog w=.ok (.enter g vs) w) (hT:Hid (Ff g ah w.heap.size M I)) (hI:Hid (I [] w)) :
  Calls Tryz.prog 60 #[fw m ab au cb cu,.int .i64 (n:Int),.func (.func g) #[] ah] w fun e w'=>e=.returned (.tuple #[])∧w.grownBy w' (some M)∧∃ ts,I ts w'∧∀ q,q ∈ ts ↔ (q.1=26∨q.1=27)∧Vf.comes m n q=true:=by
 have hmm:∀ w:World,(Instr.makeMap 190 Option.none).run Tryz.prog w=.ok (.map (some w.heap.size)) (w.alloc (.map #[] 0)):=fun _=>rfl
 have hmu:m.units.length≤30:=hR.out.units
 obtain ⟨t0,t1,t2,_⟩:=yA w (vN m ab au cb cu) (.cells #[.int .i64 (n:Int)] 3 (0,0)) (.map #[] 0)
 have hM0:=iV.new ((w.alloc (vN m ab au cb cu)).alloc (.cells #[.int .i64 (n:Int)] 3 (0,0)))
 rw [World.size_alloc,World.size_alloc] at hM0
 obtain ⟨w1,hup,hM1,hg1⟩:=Mx hM0 n 1
 have k1:∀ q,q < w.heap.size+1+1→w1.heap[q]?=(((w.alloc (vN m ab au cb cu)).alloc (.cells #[.int .i64 (n:Int)] 3 (0,0))).alloc (.map #[] 0)).heap[q]?:=fun q hq=>hg1.block q (by simp;omega) (by simp;omega)
 have HST:Hid (jy m ab au cb cu n M w I 0 0 (.slice (some ⟨w.heap.size+1,0,none⟩) 1 1) [n] [] (fun a=>if a=(n:Int) then 1 else 0) w1) :=
  ⟨Vf.fI.start hn,.inr ⟨w.heap.size+1,0,1,[.int .i64 (n:Int)],rfl,by omega,(k1 _ (by omega)).trans t2,by simp,by simp,fun i x hx=>by
   cases i with
   | zero=>simp at hx;subst hx;rfl
   | succ i=>simp at hx⟩,hM1,hT.out.keep _ _ _ hI.out (fun q hq=>(k1 q (by omega)).trans (t0.block q hq (by simp))),(k1 _ (by omega)).trans t1,sV (sW (fC _ _) t0) hg1 (.inl (by omega))⟩
 clear t0 t1 t2 hM0 hM1 hg1 k1
 go_enter Tryz.func60,Tryz.ntmps60
 go_wp2
 go_loopw [6,8] (fun v i wr=>∃ (k:Nat) (R:List Nat) (ts:List Lk) (f:Int→Int),i=.int .i64 k∧jy m ab au cb cu n M w I k 0 v R ts f wr) (fun _ i _=>31 - (intOf i).toNat)
 case atStart=>exact ⟨0,[n],[],_,rfl,HST.out⟩
 case round =>
  obtain ⟨k,R,ts,f,rfl,hA⟩:=hrel
  clear HST hup
  have HA:=hide hA
  obtain ⟨a,c,rfl⟩:=hA.row.form
  have hrl:=hA.wk.len
  have adD:R.length≤30:=by omega
  clear hA
  by_cases hlt:k < R.length
  ·obtain ⟨x,hx⟩:∃ x,R[k]?=some x:=⟨_,List.getElem?_eq_getElem hlt⟩
   have hxu:x < m.units.length:=HA.out.wk.lt x (List.mem_of_getElem? hx)
   obtain ⟨u,hu⟩:∃ u,m.units[x]?=some u:=⟨_,List.getElem?_eq_getElem hxu⟩
   have M7:bn B wr m ab au:=hmd.out.low (Fb HA.out.grown FB hB)
   obtain ⟨b,off,al,cl,ac,cc,ha,hb,gG,u0,u1,u2,u3,u4,u5⟩:=M7.units x u hu
   have yD:Hid (gP B w u al ac cl cc):=gG.low (fun q hq=>(Fb HA.out.grown FB hB q hq).symm)
   obtain ⟨g',sM,cap',hv,hgl,hc⟩:=HA.out.row.at hx
   cases hv
   obtain ⟨x0,x1⟩:=Wq HA.out.md
   have bQ:Hid (Vf.unit m (x:Int)=u):=lX hu
   have hc4:u.code.length≤4000:=(jI (ig (hR.out.heads x u hu).1).2.1).2.2.2.2.2
   have yj:Hid (Vf.Forms m u):=(hR.out.heads x u hu).2
   have HX:=hide hx
   have k1:(k:Int) < (R.length:Int):=by omega
   have x2:(x:Int) < (m.units.length:Int):=by omega
   subst ha
   clear hx hu M7 gG
   have hbw:b < wr.heap.size:=by have:=HA.out.grown.size;omega
   go_wp2_with fail
   go_quiet (fail)
   clear u0 u1 u2 u3 u4 u5 x0 x1 hc
   go_wp2
   go_loopw [6,32] (fun v i wi=>∃ (j:Nat) (R2:List Nat) (iA:List Lk) (f2:Int→Int),i=.int .i64 j∧j≤u.code.length∧R2[k]?=some x∧jy m ab (some ⟨b,off,none⟩) cb cu n M w I k j v R2 iA f2 wi) (fun _ i _=>u.code.length - (intOf i).toNat)
   case atStart=>exact ⟨0,R,ts,f,rfl,Nat.zero_le _,HX.out,⟨HA.out.wk,HA.out.row,HA.out.met,hT.out.keep _ _ _ HA.out.tell (fun _ _=>rfl),HA.out.md,⟨HA.out.grown.os,HA.out.grown.tape,HA.out.grown.output,HA.out.grown.size,HA.out.grown.block⟩⟩⟩
   case round =>
    clear HA HX
    obtain ⟨j,R2,iA,f2,rfl,hj,hx2,hA2⟩:=hrel
    have HA2:=hide hA2
    have dZ:=hide hx2
    obtain ⟨a2,c2,rfl⟩:=hA2.row.form
    have hrl2:R2.length≤30:=by have:=hA2.wk.len;omega
    have hgz:=hA2.grown.size
    have LQ:k < 30:=by have:=(List.getElem?_eq_some_iff.1 hx2).1;omega
    have hts:iA.length≤130000:=by have:=hA2.wk.few;omega
    clear hA2 hx2
    by_cases hjl:j < u.code.length
    ·obtain ⟨y,hy⟩:∃ y,u.code[j]?=some y:=⟨_,List.getElem?_eq_getElem hjl⟩
     have HY:Hid ((Vf.unit m (x:Int)).code[j]?=some y):=by rw [bQ.out];exact hy
     obtain ⟨_,_,_,bc,oc,hac,hbc,i0,i1,i2⟩:=(yD.out.low (Fb HA2.out.grown FB hB)).code j y hy
     have vW:Hid (Vf.bD m u y=0):=yj.out y (List.mem_of_getElem? hy)
     have H2:Hid (wr.grownBy (wr.alloc (ak y.op y.a y.n)) none):=aT (World.grownBy.refl _ _) _
     have HI2:Hid (I iA (wr.alloc (ak y.op y.a y.n))):=hT.out.keep _ _ _ HA2.out.tell (fun q hq=>Below.heap_alloc _ _ _ (by omega))
     have lJ:Hid (iV (wr.alloc (ak y.op y.a y.n)) (w.heap.size+1+1) f2):=HA2.out.met.keep (Below.heap_alloc _ _ _ HA2.out.met.lt)
     have hj1:(j:Int) < (u.code.length:Int):=by omega
     subst hac
     clear hy
     by_cases bE:Vf.pY y
     ·have HO:=hide bE
      rcases bE with h | h
      ·have e26:(y.op == 26)=true:=by simpa using h
       clear h
       go_wp2_with fail
       refine (hT.out.call iA y.op y.a _ HI2.out hts).mono ?_
       rintro e w3 ⟨rfl,yE,hg3⟩
       have HN:Hid (jy m ab (some ⟨b,off,none⟩) cb cu n M w I k (j+1) (.slice a2 R2.length c2) R2 (iA ++ [(y.op,y.a)]) f2 w3) :=
        HA2.out.step (H2.out) hg3 (.inl rfl) hM (HA2.out.wk.Mc dZ.out HY.out HO.out) (lJ.out.keep (hg3.block _ (lJ.out.lt) (by simp;omega))) yE
       clear yE hg3
       go_wp2
       go_roundw
       case rel=>exact ⟨j+1,R2,_,f2,by go_num,hjl,dZ.out,HN.out⟩
       case measure=>simp [intOf];omega
      ·have e26:(y.op == 26)=false:=by simp;omega
       have e27:(y.op == 27)=true:=by simpa using h
       clear h
       go_wp2_with fail
       refine (hT.out.call iA y.op y.a _ HI2.out hts).mono ?_
       rintro e w3 ⟨rfl,yE,hg3⟩
       have HN:Hid (jy m ab (some ⟨b,off,none⟩) cb cu n M w I k (j+1) (.slice a2 R2.length c2) R2 (iA ++ [(y.op,y.a)]) f2 w3) :=
        HA2.out.step (H2.out) hg3 (.inl rfl) hM (HA2.out.wk.Mc dZ.out HY.out HO.out) (lJ.out.keep (hg3.block _ (lJ.out.lt) (by simp;omega))) yE
       clear yE hg3
       go_wp2
       go_roundw
       case rel=>exact ⟨j+1,R2,_,f2,by go_num,hjl,dZ.out,HN.out⟩
       case measure=>simp [intOf];omega
     ·have e26:(y.op == 26)=false:=by unfold Vf.pY at bE;simp;omega
      have e27:(y.op == 27)=false:=by unfold Vf.pY at bE;simp;omega
      by_cases h23:Vf.ow y
      ·have HO:=hide h23
       obtain ⟨ka,hka,nW⟩:∃ ka:Nat,y.a=ka∧ka < m.units.length:=by
        obtain ⟨kd,_,hi⟩:=Vf.LY vW.out h23
        obtain ⟨z,h3,_,h4⟩:=kg hi
        exact ⟨y.a.toNat,by omega,(List.getElem?_eq_some_iff.1 h3).1⟩
       have vZ:=hide hka
       have hl2:=Mw lJ.out ka
       obtain ⟨w3,hup,l7,hg3⟩:=Mx lJ.out ka (f2 ka+1)
       have hl3:=Mw l7 ka
       simp only [if_true] at hl3
       have hf0:=HA2.out.wk.met ka
       obtain ⟨n0,hn0⟩:∃ n0,n0=f2 ka:=⟨_,rfl⟩
       have qZ:=hide hn0
       rw [← hn0] at hl2 hup l7 hl3 hf0
       have f0:0≤n0:=hf0.1
       have f1:n0≤200000:=by have:=hf0.2.1;omega
       have hi3:w3.heap[wr.heap.size]?=some (ak y.op y.a y.n):=(hg3.block _ (by simp) (by have:=HA2.out.met.lt;simp;omega)).trans (heap_alloc_new _ _)
       obtain ⟨s0,s1,s2⟩:=rJ hi3
       rw [← vZ.out] at hl2 hup
       rw [vZ.out] at s1
       have adE:wr.heap.size < w3.heap.size:=lt_of_block hi3
       clear hka hf0 bE hi3 hn0
       rcases h23 with h | h
       ·have e23:(y.op == 23)=true:=by simpa using h
        clear h
        by_cases hin:ka ∈ R2
        ·have tL:Hid (jy m ab (some ⟨b,off,none⟩) cb cu n M w I k (j+1) (.slice a2 R2.length c2) R2 iA (fun q=>if q=(ka:Int) then n0+1 else f2 q) w3) :=
          HA2.out.step H2.out hg3 (.inr rfl) hM (by rw [qZ.out];exact HA2.out.wk.old dZ.out HY.out HO.out vZ.out hin) l7 (hT.out.keep _ _ _ HI2.out (fun q hq=>hg3.block q (by have:=HA2.out.grown.size;simp;omega) (by simp;omega)))
         have e1:(n0+1 == 1)=false:=by have:=((HA2.out.wk.met ka).2.2).2 hin;have h0:=qZ.out;simp;omega
         clear l7 hg3 hin
         go_wp2
         go_roundw
         case rel=>exact ⟨j+1,R2,iA,_,by go_num,hjl,dZ.out,tL.out⟩
         case measure=>simp [intOf];omega
        ·have e1:(n0+1 == 1)=true:=by have:=HA2.out.wk.met ka;have h0:¬ 1≤f2 ka:=fun h=>hin (this.2.2.1 h);have h1:=qZ.out;simp;omega
         have vD:=hide hin
         have qX:=hide l7
         have fD:=hide hg3
         have yF:Hid (QR w3 w.heap.size (.slice a2 R2.length c2) R2):=(HA2.out.row.alloc _).keep fun q hq=>hg3.block q ((HA2.out.row.alloc _).lt q hq).2 (by simp only [ne_eq,Option.some.injEq];intro e;obtain ⟨o,ho,hno⟩:=(lJ.out).obj;exact (HA2.out.row.alloc _).ty ho hno (e ▸ hq))
         have hz3:=hg3.size
         clear l7 hg3 hin
         go_wp2_with (at_builtin;refine ES rfl _ _ rfl w.heap.size _ R2 ka rfl (yF.out.alloc _) ⟨w3.heap.size,0,none⟩ rfl (EZ _ _ _) (by omega) (by have:=HA2.out.grown.size;simp at hz3 ⊢;omega) ?_;intro v' w4 hq4 hg4;have FD:=hide hq4;have kY:=hide hg4;clear hq4 hg4)
         have tL:Hid (jy m ab (some ⟨b,off,none⟩) cb cu n M w I k (j+1) v' (R2 ++ [ka]) iA (fun q=>if q=(ka:Int) then n0+1 else f2 q) w4) :=
          HA2.out.more hT.out (sW (bg (Fa H2.out) fD.out) (aT (World.grownBy.refl _ _) _)) kY.out (yF.out.alloc _) (by rw [qZ.out];exact HA2.out.wk.new dZ.out HY.out HO.out vZ.out nW vD.out) (qX.out.keep (Below.heap_alloc _ _ _ qX.out.lt)) FD.out
         have sI:Hid ((R2 ++ [ka])[k]?=some x):=by unfold Hid;rw [List.getElem?_append_left (List.getElem?_eq_some_iff.1 dZ.out).1];exact dZ.out
         go_roundw
         case rel=>exact ⟨j+1,R2 ++ [ka],iA,_,by go_num,hjl,sI.out,tL.out⟩
         case measure=>simp [intOf];omega
       ·have e23:(y.op == 23)=false:=by simp;omega
        have e29:(y.op == 29)=true:=by simpa using h
        clear h
        by_cases hin:ka ∈ R2
        ·have tL:Hid (jy m ab (some ⟨b,off,none⟩) cb cu n M w I k (j+1) (.slice a2 R2.length c2) R2 iA (fun q=>if q=(ka:Int) then n0+1 else f2 q) w3) :=
          HA2.out.step H2.out hg3 (.inr rfl) hM (by rw [qZ.out];exact HA2.out.wk.old dZ.out HY.out HO.out vZ.out hin) l7 (hT.out.keep _ _ _ HI2.out (fun q hq=>hg3.block q (by have:=HA2.out.grown.size;simp;omega) (by simp;omega)))
         have e1:(n0+1 == 1)=false:=by have:=((HA2.out.wk.met ka).2.2).2 hin;have h0:=qZ.out;simp;omega
         clear l7 hg3 hin
         go_wp2
         go_roundw
         case rel=>exact ⟨j+1,R2,iA,_,by go_num,hjl,dZ.out,tL.out⟩
         case measure=>simp [intOf];omega
        ·have e1:(n0+1 == 1)=true:=by have:=HA2.out.wk.met ka;have h0:¬ 1≤f2 ka:=fun h=>hin (this.2.2.1 h);have h1:=qZ.out;simp;omega
         have vD:=hide hin
         have qX:=hide l7
         have fD:=hide hg3
         have yF:Hid (QR w3 w.heap.size (.slice a2 R2.length c2) R2):=(HA2.out.row.alloc _).keep fun q hq=>hg3.block q ((HA2.out.row.alloc _).lt q hq).2 (by simp only [ne_eq,Option.some.injEq];intro e;obtain ⟨o,ho,hno⟩:=(lJ.out).obj;exact (HA2.out.row.alloc _).ty ho hno (e ▸ hq))
         have hz3:=hg3.size
         clear l7 hg3 hin
         go_wp2_with (at_builtin;refine ES rfl _ _ rfl w.heap.size _ R2 ka rfl (yF.out.alloc _) ⟨w3.heap.size,0,none⟩ rfl (EZ _ _ _) (by omega) (by have:=HA2.out.grown.size;simp at hz3 ⊢;omega) ?_;intro v' w4 hq4 hg4;have FD:=hide hq4;have kY:=hide hg4;clear hq4 hg4)
         have tL:Hid (jy m ab (some ⟨b,off,none⟩) cb cu n M w I k (j+1) v' (R2 ++ [ka]) iA (fun q=>if q=(ka:Int) then n0+1 else f2 q) w4) :=
          HA2.out.more hT.out (sW (bg (Fa H2.out) fD.out) (aT (World.grownBy.refl _ _) _)) kY.out (yF.out.alloc _) (by rw [qZ.out];exact HA2.out.wk.new dZ.out HY.out HO.out vZ.out nW vD.out) (qX.out.keep (Below.heap_alloc _ _ _ qX.out.lt)) FD.out
         have sI:Hid ((R2 ++ [ka])[k]?=some x):=by unfold Hid;rw [List.getElem?_append_left (List.getElem?_eq_some_iff.1 dZ.out).1];exact dZ.out
         go_roundw
         case rel=>exact ⟨j+1,R2 ++ [ka],iA,_,by go_num,hjl,sI.out,tL.out⟩
         case measure=>simp [intOf];omega
      ·have HN:Hid (jy m ab (some ⟨b,off,none⟩) cb cu n M w I k (j+1) (.slice a2 R2.length c2) R2 iA f2 (wr.alloc (ak y.op y.a y.n))) :=
        HA2.out.step H2.out (World.grownBy.refl _ (some M)) (.inl rfl) hM (HA2.out.wk.quiet dZ.out HY.out bE h23) lJ.out HI2.out
       have e23:(y.op == 23)=false:=by unfold Vf.ow at h23;simp;omega
       have e29:(y.op == 29)=false:=by unfold Vf.ow at h23;simp;omega
       clear bE h23
       go_wp2
       go_roundw
       case rel=>exact ⟨j+1,R2,iA,f2,by go_num,hjl,dZ.out,HN.out⟩
       case measure=>simp [intOf];omega
    ·have HN:Hid (jy m ab (some ⟨b,off,none⟩) cb cu n M w I (k+1) 0 (.slice a2 R2.length c2) R2 iA f2 wr) :=
      HA2.out.step (World.grownBy.refl _ none) (World.grownBy.refl _ (some M)) (.inl rfl) hM (HA2.out.wk.next dZ.out (by rw [bQ.out];omega) (by omega)) HA2.out.met HA2.out.tell
     have hj1:¬ (j:Int) < (u.code.length:Int):=by omega
     go_wp2
     go_roundw
     case rel=>exact ⟨k+1,R2,iA,f2,by go_num,HN.out⟩
     case measure=>simp [intOf];omega
  ·have HE:Hid (∀ q,q ∈ ts ↔ (q.1=26∨q.1=27)∧Vf.comes m n q=true):=fun q=>HA.out.wk.all hR.out (by omega) q
   go_wp2
   go_end0
   exact ⟨rfl,HA.out.grown,ts,HA.out.tell,HE.out⟩
end Go.Proofs.YthffafaoobpedaaGreatDoor

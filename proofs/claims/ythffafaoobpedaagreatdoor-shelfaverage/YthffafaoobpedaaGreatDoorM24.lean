/- The walk of goOn: what it wants besides. -/
import Derived.Test.YthffafaoobpedaaGreatDoorM23
import Derived.Deep.DeepCutAuto
import Derived.Test.YthffafaoobpedaaGreatDoorM3
import Derived.Test.YthffafaoobpedaaGreatDoorM20
set_option maxRecDepth 100000
set_option maxHeartbeats 2000000
namespace Go.Proofs.YthffafaoobpedaaGreatDoor
open Go.RowKit
theorem Tryz.Ws:(Tryz.prog.info? 133).map (fun i=>i.size)=some 1:=by kernel_rfl
theorem Wt (d:Nat)(x y:BitVec 64)(w:World):(Op.equalIn (d+1) 133 (aj x) (aj y)).run Tryz.prog w=.ok (x == y) w:=by
 have e:((x.toNat:Int) == (y.toNat:Int))=(x == y):=by
  by_cases h:x=y
  ·subst h;simp
  ·have h0:x.toNat≠y.toNat:=fun e=>h (BitVec.eq_of_toNat_eq e)
   have h1:(x == y)=false:=by simpa using h
   have h2:((x.toNat:Int) == (y.toNat:Int))=false:=by rw [beq_eq_false_iff_ne];omega
   rw [h1,h2]
 simp [Op.equalIn,run_underlying Tryz.underlying133,e]
theorem Wu (f g:Vf.Fl)(w:World):(Op.equalIn 10000 135 (qU f) (qU g)).run Tryz.prog w=.ok (Vf.Fl.eq f g) w:=by
 have hu:=run_underlying (P:=Tryz.prog) (w:=w) Tryz.underlying135
 have h:∀ d:Nat,(Op.equalIn (d+2) 135 (qU f) (qU g)).run Tryz.prog w=.ok (Vf.Fl.eq f g) w:=fun d=>by
  obtain ⟨j,hj,hj2⟩:=Option.map_eq_some_iff.1 Tryz.Ws
  have e4:List.range' 0 4=[0,1,2,3]:=rfl
  have p0:∀ (a b c e:BitVec 64) (w:World),(part 133 #[aj a,aj b,aj c,aj e] 0).run Tryz.prog w=.ok (aj a) w:=fun _ _ _ _ _=>by simp [part,sizeOf,typeInfo,hj,hj2]
  have p1:∀ (a b c e:BitVec 64) (w:World),(part 133 #[aj a,aj b,aj c,aj e] 1).run Tryz.prog w=.ok (aj b) w:=fun _ _ _ _ _=>by simp [part,sizeOf,typeInfo,hj,hj2]
  have p2:∀ (a b c e:BitVec 64) (w:World),(part 133 #[aj a,aj b,aj c,aj e] 2).run Tryz.prog w=.ok (aj c) w:=fun _ _ _ _ _=>by simp [part,sizeOf,typeInfo,hj,hj2]
  have p3:∀ (a b c e:BitVec 64) (w:World),(part 133 #[aj a,aj b,aj c,aj e] 3).run Tryz.prog w=.ok (aj e) w:=fun _ _ _ _ _=>by simp [part,sizeOf,typeInfo,hj,hj2]
  rw [Op.equalIn]
  simp [hu,sizeOf,typeInfo,hj,hj2,e4,p0,p1,p2,p3,Wt]
  unfold Vf.Fl.eq
  by_cases ha:f.a=g.a
  ·by_cases hb:f.b=g.b
   ·by_cases hc:f.c=g.c
    ·by_cases hd:f.d=g.d
     ·simp [ha,hb,hc,hd]
     ·simp [ha,hb,hc,hd]
    ·simp [ha,hb,hc]
   ·simp [ha,hb]
  ·simp [ha]
 exact h 9998
theorem MC {B:Nat}{w w':World}(h:w.grownBy w' none)(hB:B≤w.heap.size):Low B w w':=fun k hk=>h.block k (by omega) (by simp)
theorem ME {w w':World}(h:w.grownBy w' none):KC w w':=EW h (fun _ _ _ e=>by cases e)
theorem WF.quiet {c:FC}{B F:Nat}{w w':World}{k:Vf.Kn}{n:Int}{s:Vf.S}(h:WF c B F w k n s)(hg:w.grownBy w' none):WF c B F w' k n s:=by
 obtain ⟨top,rv,hF,hq⟩:=h.fl
 have hB:B≤w.heap.size:=by have:=h.env.base;have:=h.env.lt;omega
 exact ⟨⟨h.env.md.low (MC hg hB),h.env.un.low (MC hg hB),h.env.base,by have:=hg.size;have:=h.env.lt;omega⟩,h.mB,⟨top,rv,⟨(hg.block F h.env.lt (by simp)).trans hF.blk,hF.sk.keep (ME hg)⟩,hq.keep fun j hj=>hg.block j (hq.lt j hj).2 (by simp)⟩,h.come.keep (hg.block _ h.come.lt (by simp)) (ME hg)⟩
theorem WF.set {c:FC}{B F N:Nat}{w:World}{k:Vf.Kn}{n:Int}{s:Vf.S}{cs:Array Value}{t:TypeId}{fr:Nat × Nat}(h:WF c B F w k n s)(hN:w.heap[N]?=some (.cells cs t fr))(h1:t≠286)(h2:t≠3)(h3:t≠139)(hB:B≤N)(o:Nat)(v:Value):WF c B F (w.setCell ⟨N,o,none⟩ v) k n s:=by
 obtain ⟨top,rv,hF,hq⟩:=h.fl
 have far:∀ j,j≠N→(w.setCell ⟨N,o,none⟩ v).heap[j]?=w.heap[j]?:=fun j hj=>Below.heap_setCell _ ⟨N,o,none⟩ _ _ hj
 have kc:KC w (w.setCell ⟨N,o,none⟩ v):=fun b cs' hb=>(far b (fun e=>by subst e;rw [hN] at hb;cases hb;exact h1 rfl)).trans hb
 have Wv:F≠N:=fun e=>by subst e;rw [hF.blk] at hN;cases hN;exact h3 rfl
 have hNM:c.M≠N:=fun e=>by
  obtain ⟨es,cl,hm,_⟩:=h.come
  subst e
  rw [hm] at hN
  cases hN
 have low:Low B w (w.setCell ⟨N,o,none⟩ v):=fun j hj=>far j (by omega)
 refine ⟨⟨h.env.md.low low,h.env.un.low low,h.env.base,by have:=h.env.lt;simp [World.setCell];omega⟩,h.mB,⟨top,rv,⟨(far F Wv).trans hF.blk,hF.sk.keep kc⟩,hq.keep fun j hj=>far j (fun e=>?_)⟩,h.come.keep (far _ hNM) kc⟩
 subst e
 exact hq.ty hN (fun cs fr e=>by cases e;exact h2 rfl) hj
structure gp (c:FC) (B F:Nat) (k:Vf.Kn) (n:Int) (r:Except Int Vf.S) (w:World) (e:Ending) (w':World):Prop where
 below:Below B w w'
 no:∀ er,r=.error er→e=.panicked [bZ er n]
 yes:∀ s,r=.ok s→e=.returned (.tuple #[])∧WF c B F w' k n s
theorem gp.bad {c:FC}{B F:Nat}{k:Vf.Kn}{n:Int}{r:Except Int Vf.S}{w w':World}{er:Int}(hb:Below B w w')(hr:r=.error er):gp c B F k n r w (.panicked [bZ er n]) w' :=
 ⟨hb,fun ic e=>(by rw [hr] at e;cases e;rfl),fun s e=>(by rw [hr] at e;cases e)⟩
theorem gp.good {c:FC}{B F:Nat}{k:Vf.Kn}{n:Int}{r:Except Int Vf.S}{w w':World}{s:Vf.S}(hb:Below B w w')(hr:r=.ok s)(hF:WF c B F w' k n s):gp c B F k n r w (.returned (.tuple #[])) w' :=
 ⟨hb,fun ic e=>(by rw [hr] at e;cases e),fun s e=>(by rw [hr] at e;cases e;exact ⟨rfl,hF⟩)⟩
theorem Fg {B:Nat}{w w':World}(h:w.grownBy w' none)(hB:B≤w.heap.size):Below B w w':=below_grown h hB (fun _ e=>by cases e)
theorem vP {w:World}{N:Nat}{k:Vf.Kn}{top:Option Addr}(h:w.heap[N]?=some (iy k top)):w.cell? ⟨N,0,none⟩=some (.pointer top)∧w.cell? ⟨N,1,none⟩=some (.int .i64 (k.st.length:Int))∧w.cell? ⟨N,2,none⟩=some (aj k.fl.a)∧w.cell? ⟨N,3,none⟩=some (aj k.fl.b)∧w.cell? ⟨N,4,none⟩=some (aj k.fl.c)∧w.cell? ⟨N,5,none⟩=some (aj k.fl.d):=by
 simp [World.cell?,h]
theorem Ww {w:World}{N:Nat}{k:Vf.Kn}{top:Option Addr}(h:w.heap[N]?=some (iy k top)):w.frozen? ⟨N,2,none⟩=false∧w.frozen? ⟨N,3,none⟩=false∧w.frozen? ⟨N,4,none⟩=false∧w.frozen? ⟨N,5,none⟩=false:=by
 simp [World.frozen?,h]
theorem Wx {w:World}{N:Nat}{k:Vf.Kn}{top:Option Addr}(h:w.heap[N]?=some (iy k top))(f:Vf.Fl):((((w.setCell ⟨N,2,none⟩ (aj f.a)).setCell ⟨N,3,none⟩ (aj f.b)).setCell ⟨N,4,none⟩ (aj f.c)).setCell ⟨N,5,none⟩ (aj f.d)).heap[N]?=some (iy ⟨k.st,f⟩ top):=by
 simp only [World.setCell,Array.getElem?_modify,if_true,h,Option.map_some]
 rfl
theorem Wy {c:FC}{B F N:Nat}{w:World}{k t:Vf.Kn}{n:Int}{s:Vf.S}{top:Option Addr}(h:WF c B F w k n s)(hN:w.heap[N]?=some (iy t top))(hB:B≤N)(f:Vf.Fl):WF c B F ((((w.setCell ⟨N,2,none⟩ (aj f.a)).setCell ⟨N,3,none⟩ (aj f.b)).setCell ⟨N,4,none⟩ (aj f.c)).setCell ⟨N,5,none⟩ (aj f.d)) k n s∧Below B w ((((w.setCell ⟨N,2,none⟩ (aj f.a)).setCell ⟨N,3,none⟩ (aj f.b)).setCell ⟨N,4,none⟩ (aj f.c)).setCell ⟨N,5,none⟩ (aj f.d))∧KC w ((((w.setCell ⟨N,2,none⟩ (aj f.a)).setCell ⟨N,3,none⟩ (aj f.b)).setCell ⟨N,4,none⟩ (aj f.c)).setCell ⟨N,5,none⟩ (aj f.d)):=by
 have step:∀ {w:World} {cs:Array Value},w.heap[N]?=some (.cells cs 137 (0,0))→∀ (o:Nat) (v:Value),(w.setCell ⟨N,o,none⟩ v).heap[N]?=some (.cells (cs.setIfInBounds o v) 137 (0,0)):=fun hw o v=>by
  simp only [World.setCell,Array.getElem?_modify,if_true,hw,Option.map_some]
  rfl
 have kc:∀ {w:World} {cs:Array Value},w.heap[N]?=some (.cells cs 137 (0,0))→∀ (o:Nat) (v:Value),KC w (w.setCell ⟨N,o,none⟩ v):=fun {w cs} hw o v b cs' hb=>(Below.heap_setCell w ⟨N,o,none⟩ v b (fun e=>by
  have e1:b=N:=e
  subst e1
  rw [hw] at hb
  cases hb)).trans hb
 have h1:=step hN 2 (aj f.a)
 have h2:=step h1 3 (aj f.b)
 have h3:=step h2 4 (aj f.c)
 refine ⟨(((h.set hN (by decide) (by decide) (by decide) hB _ _).set h1 (by decide) (by decide) (by decide) hB _ _).set h2 (by decide) (by decide) (by decide) hB _ _).set h3 (by decide) (by decide) (by decide) hB _ _,((((Below.refl B w).setCell (p:=⟨N,2,none⟩) hB _).setCell (p:=⟨N,3,none⟩) hB _).setCell (p:=⟨N,4,none⟩) hB _).setCell (p:=⟨N,5,none⟩) hB _,((kc hN _ _).trans (kc h1 _ _)).trans ((kc h2 _ _).trans (kc h3 _ _))⟩
def Wz (f:Vf.Fl)(w w2:World)(pv:Value)(wx:World):Prop:=∃ L,pv=.pointer (some ⟨L,0,none⟩)∧w.heap.size < L∧wx.heap[L]?=some (nD f)∧w2.grownBy wx none
theorem WA {w:World}{N:Nat}{g:Vf.Fl}(h:w.heap[N]?=some (nD g))(f:Vf.Fl):((((w.setCell ⟨N,0,none⟩ (aj f.a)).setCell ⟨N,1,none⟩ (aj f.b)).setCell ⟨N,2,none⟩ (aj f.c)).setCell ⟨N,3,none⟩ (aj f.d)).heap[N]?=some (nD f):=by
 simp only [World.setCell,Array.getElem?_modify,if_true,h,Option.map_some]
 rfl
theorem WC {a b c:World}(h:a.grownBy b none)(k:b.grownBy c none):a.grownBy c none:=⟨k.os.trans h.os,k.tape.trans h.tape,k.output.trans h.output,Nat.le_trans h.size k.size,fun x hx hne=>(k.block x (by have:=h.size;omega) hne).trans (h.block x hx hne)⟩
theorem MF {w w':World}(h:w.drew.grownBy w' none):w.grownBy w' none:=⟨h.os,h.tape,h.output,h.size,h.block⟩
theorem vQ {w w':World}{b:Nat}(hg:w.grownBy w' none)(hb:b < w.heap.size):w'.heap[b]?=w.heap[b]?:=hg.block b hb (by simp)
theorem Fh (c:FC)(B F:Nat)(k:Vf.Kn)(n:Int)(s:Vf.S)(tg:Nat)(w:World)(h:Hid (WF c B F w k n s))(hn:s.row.length≤100000000)(r:Except Int Vf.S)(hr:Hid (r=Vf.eD c.u.code.length k (tg:Int) s)) :
  Calls Tryz.prog 149 #[.pointer (some ⟨F,0,none⟩),.int .i64 (tg:Int)] w fun e w'=>gp c B F k n r w e w':=by
 obtain ⟨top,rv,hF,hq⟩:=h.out.fl
 have hlt:=h.out.env.lt
 have jg:=h.out.env.base
 have c14:=(eZ hF.blk).1
 have c16:=(eZ hF.blk).2.2.1
 have c7:=(dH hF.blk).2.2.2.2.2.2.2
 have HF:=hide hF
 clear hF hq
 by_cases hto:tg < c.u.code.length
 ·have hd:decide (tg < c.u.code.length)=true:=by simpa using hto
  cases hcm:s.come tg with
  | none =>
   have HR:Hid (r=.ok (s.note tg k)):=by
    unfold Hid
    rw [hr.out,Vf.eD,if_pos (by omega)]
    simp [hcm]
   have hlk:=V4 h.out.come hcm
   have HW1:Hid (WF c B F (w.alloc (iy ⟨[],Vf.Fl.none⟩ none)) k n s):=h.out.quiet (lH (World.grownBy.refl _ _) _)
   have hF1:=HF.out.alloc (iy ⟨[],Vf.Fl.none⟩ none)
   have iI:=hide hF1.sk
   obtain ⟨d8,d9,_⟩:=lU HF.out.blk
   obtain ⟨d10,d11,d12,d13,_⟩:=qF HF.out.blk
   clear hr hcm hF1
   go_enter Tryz.func149,Tryz.ntmps149
   go_wp2_with fail
   refine (eF F true 3 n _ c14).mono ?_
   rintro e w0 ⟨he,hw0⟩
   subst hw0
   obtain rfl:e=.returned (.tuple #[]):=he
   go_wp2_with fail
   refine (E8 c B F k k n s tg top _ HW1 iI hn).mono ?_
   rintro e w2 ⟨rfl,hW,hb⟩
   have HE:Hid (gp c B F k n r w0 (.returned (.tuple #[])) w2):=gp.good (((Below.refl B w0).alloc (by omega) _).trans hb) HR.out hW
   clear hW hb d8 d9 d10 d11 d12 d13 c14 c16 c7 hlk
   go_wp2
   go_end0
   exact HE.out
  | some t =>
   have HR:Hid (r=if t.st=k.st then (if Vf.Fl.eq (t.fl.both k.fl) t.fl=true then .ok s else .ok (s.note tg ⟨t.st,t.fl.both k.fl⟩)) else .error 8):=by
    unfold Hid
    rw [hr.out,Vf.eD,if_pos (by omega)]
    simp [hcm]
   obtain ⟨bV,hs1,_,hlk⟩:=Me h.out.come hcm
   have HT1:Hid (w.grownBy (w.alloc (iy t bV)) none):=lH (World.grownBy.refl _ _) _
   have HW1:Hid (WF c B F (w.alloc (iy t bV)) k n s):=h.out.quiet HT1.out
   have aO:=hide (HF.out.alloc (iy t bV))
   have sN:Hid ((w.alloc (iy t bV)).heap[w.heap.size]?=some (iy t bV)):=heap_alloc_new w _
   have iI:Hid (dW (w.alloc (iy t bV)) bV t.st):=hs1.ET HT1.out
   obtain ⟨d8,d9,_⟩:=lU aO.out.blk
   obtain ⟨n0,n1,_⟩:=vP sN.out
   clear hr hcm hs1
   go_enter Tryz.func149,Tryz.ntmps149
   go_wp2_with fail
   refine (eF F true 3 n _ c14).mono ?_
   rintro e w0 ⟨he,hw0⟩
   subst hw0
   obtain rfl:e=.returned (.tuple #[]):=he
   go_wp2_with fail
   obtain ⟨W1,hW1⟩:∃ W1,W1=w0.alloc (iy t bV):=⟨_,rfl⟩
   rw [← hW1] at HT1 HW1 aO sN iI d8 d9 n0 n1
   have WE:=hide hW1.symm
   clear hW1 hlk c14 c16 c7
   rw [WE.out]
   refine wp_region_held_drew (S:=fun w'=>w'.cell? ⟨F,8,none⟩=some (.pointer top)∧w'.cell? ⟨F,9,none⟩=some (.int .i64 (k.st.length:Int))∧w'.cell? ⟨w0.heap.size,0,none⟩=some (.pointer bV)∧w'.cell? ⟨w0.heap.size,1,none⟩=some (.int .i64 (t.st.length:Int))) (by kernel_rfl) ⟨d8,d9,n0,n1⟩ (fun hHeld=>?_)
   refine wpAnyH_take (i:=0) (oi:=_) (v:=?_) rfl (by kernel_rfl) (by kernel_rfl) (by kernel_rfl) (fun _ _ _ h=>h) (Or.inl ⟨by rfl,?_⟩) (by assumption) ?_
   rotate_left
   ·intro w hSw
    (try dsimp only at hSw)
    go_simp
    (try with_reducible rfl)
   (try go_frame)
   refine wpAnyH_take (i:=1) (oi:=_) (v:=?_) rfl (by kernel_rfl) (by kernel_rfl) (by kernel_rfl) (fun _ _ _ h=>h) (Or.inl ⟨by rfl,?_⟩) (by assumption) ?_
   rotate_left
   ·intro w hSw
    (try dsimp only at hSw)
    go_simp
    (try with_reducible rfl)
   (try go_frame)
   refine wpAnyH_take (i:=2) (oi:=_) (v:=?_) rfl (by kernel_rfl) (by kernel_rfl) (by kernel_rfl) (fun _ _ _ h=>h) (Or.inl ⟨by rfl,?_⟩) (by assumption) ?_
   rotate_left
   ·intro w hSw
    (try dsimp only at hSw)
    go_simp
    (try with_reducible rfl)
   (try go_frame)
   refine wpAnyH_take (i:=3) (oi:=_) (v:=?_) rfl (by kernel_rfl) (by kernel_rfl) (by kernel_rfl) (fun _ _ _ h=>h) (Or.inl ⟨by rfl,?_⟩) (by assumption) ?_
   rotate_left
   ·intro w hSw
    (try dsimp only at hSw)
    go_simp
    (try with_reducible rfl)
   (try go_frame)
   refine wpAnyH_take (i:=4) (oi:=_) (v:=?_) rfl (by kernel_rfl) (by kernel_rfl) (by kernel_rfl) (fun _ _ _ h=>h) (Or.inl ⟨by rfl,?_⟩) (by assumption) ?_
   rotate_left
   ·intro w hSw
    (try dsimp only at hSw)
    go_simp
    (try with_reducible rfl)
   (try go_frame)
   refine wpAnyH_take (i:=5) (oi:=_) (v:=?_) rfl (by kernel_rfl) (by kernel_rfl) (by kernel_rfl) (fun _ _ _ h=>h) (Or.inl ⟨by rfl,?_⟩) (by assumption) ?_
   rotate_left
   ·intro w hSw
    (try dsimp only at hSw)
    go_simp
    (try with_reducible rfl)
   (try go_frame)
   refine wpAnyH_take (i:=6) (oi:=_) (v:=?_) rfl (by kernel_rfl) (by kernel_rfl) (by kernel_rfl) (fun _ _ _ h=>h) (Or.inl ⟨by rfl,?_⟩) (by assumption) ?_
   rotate_left
   ·intro w hSw
    (try dsimp only at hSw)
    go_simp
    (try with_reducible rfl)
   (try go_frame)
   refine wpAnyH_take (i:=7) (oi:=_) (v:=?_) rfl (by kernel_rfl) (by kernel_rfl) (by kernel_rfl) (fun _ _ _ h=>h) (Or.inl ⟨by rfl,?_⟩) (by assumption) ?_
   rotate_left
   ·intro w hSw
    (try dsimp only at hSw)
    go_simp
    (try with_reducible rfl)
   (try go_frame)
   refine wpAnyH_ready (rs:=[8]) (by kernel_rfl) (by simp) ?_
   refine AllReadyH.cons (o:=_) rfl (fun K hK=>?_) AllReadyH.nil
   go_simp
   refine (EU t.st k.st bV top _ (hide iI.out.drew) (hide aO.out.sk.drew) (decide (t.st=k.st)) (hide rfl)).mono ?_
   rintro e w2 ⟨rfl,MG⟩
   have hg2:W1.grownBy w2 none:=MF MG
   have WG:w0.heap.size < W1.heap.size:=lt_of_block sN.out
   have HG2:=hide hg2
   have HW2:Hid (WF c B F w2 k n s):=HW1.out.quiet hg2
   have hF2:w2.heap[F]?=some (gQ c top k.st k.fl n rv):=(vQ hg2 (lt_of_block aO.out.blk)).trans aO.out.blk
   have Be:w2.heap[w0.heap.size]?=some (iy t bV):=(vQ hg2 WG).trans sN.out
   have bO:=hide hF2
   have bM:=hide Be
   have c14:=(eZ hF2).1
   have q2:w2.cell? ⟨F,8,none⟩=some (.pointer top)∧w2.cell? ⟨F,9,none⟩=some (.int .i64 (k.st.length:Int))∧w2.cell? ⟨w0.heap.size,0,none⟩=some (.pointer bV)∧w2.cell? ⟨w0.heap.size,1,none⟩=some (.int .i64 (t.st.length:Int)):=⟨(lU hF2).1,(lU hF2).2.1,(vP Be).1,(vP Be).2.1⟩
   have HB2:Hid (Below B w0 w2):=(Fg HT1.out (by omega)).trans (Fg hg2 (by omega))
   have hz2:=hg2.size
   refine hK.out _ _ q2 (fun hHeld=>?_)
   clear hK hg2 MG hF2 Be d8 d9 n0 n1
   refine wpAnyH_ready (rs:=[9]) (by kernel_rfl) (by simp) ?_
   refine AllReadyH.cons (o:=_) rfl (fun K hK=>?_) AllReadyH.nil
   go_simp
   by_cases hst:t.st=k.st
   ·have e1:decide (t.st=k.st)=true:=by simpa using hst
    have HR2:Hid (r=if Vf.Fl.eq (t.fl.both k.fl) t.fl=true then .ok s else .ok (s.note tg ⟨t.st,t.fl.both k.fl⟩)):=by rw [HR.out,if_pos hst];rfl
    have HST:=hide hst
    clear hst
    rw [e1]
    refine (eF F true 8 n _ c14).mono ?_
    rintro e w3 ⟨he,hw3⟩
    subst hw3
    obtain rfl:e=.returned (.tuple #[]):=he
    refine hK.out _ _ q2 (fun hHeld=>?_)
    clear hK hHeld q2 e1
    refine wpAnyH_done (by kernel_rfl) ?_ _
    obtain ⟨_,_,n2,n3,n4,n5⟩:=vP bM.out
    obtain ⟨d10,d11,d12,d13,_⟩:=qF bO.out
    clear c14
    go_upto_region 5 with fail
    go_cut [6] (fun pv wx=>Wz (t.fl.both k.fl) w0 w3 pv wx)
    case first =>
     have qc:Hid (∀ w',w3.grownBy w' none→(w'.cell? ⟨F,10,none⟩=some (aj k.fl.a)∧w'.cell? ⟨F,11,none⟩=some (aj k.fl.b)∧w'.cell? ⟨F,12,none⟩=some (aj k.fl.c)∧w'.cell? ⟨F,13,none⟩=some (aj k.fl.d)∧w'.cell? ⟨w0.heap.size,2,none⟩=some (aj t.fl.a)∧w'.cell? ⟨w0.heap.size,3,none⟩=some (aj t.fl.b)∧w'.cell? ⟨w0.heap.size,4,none⟩=some (aj t.fl.c)∧w'.cell? ⟨w0.heap.size,5,none⟩=some (aj t.fl.d))):=fun w' hg=>by
      have hF':w'.heap[F]?=some (gQ c top k.st k.fl n rv):=(vQ hg (lt_of_block bO.out)).trans bO.out
      have hN':w'.heap[w0.heap.size]?=some (iy t bV):=(vQ hg (lt_of_block bM.out)).trans bM.out
      obtain ⟨g10,g11,g12,g13,_⟩:=qF hF'
      obtain ⟨_,_,g2,g3,g4,g5⟩:=vP hN'
      exact ⟨g10,g11,g12,g13,g2,g3,g4,g5⟩
     have q5:=qc.out w3 (World.grownBy.refl _ _)
     clear n2 n3 n4 n5 d10 d11 d12 d13
     refine wp_region_held_drew (S:=fun w'=>w'.cell? ⟨F,10,none⟩=some (aj k.fl.a)∧w'.cell? ⟨F,11,none⟩=some (aj k.fl.b)∧w'.cell? ⟨F,12,none⟩=some (aj k.fl.c)∧w'.cell? ⟨F,13,none⟩=some (aj k.fl.d)∧w'.cell? ⟨w0.heap.size,2,none⟩=some (aj t.fl.a)∧w'.cell? ⟨w0.heap.size,3,none⟩=some (aj t.fl.b)∧w'.cell? ⟨w0.heap.size,4,none⟩=some (aj t.fl.c)∧w'.cell? ⟨w0.heap.size,5,none⟩=some (aj t.fl.d)) (by kernel_rfl) q5 (fun hHeld=>?_)
     refine wpAnyH_take (i:=0) (oi:=_) (v:=?_) rfl (by kernel_rfl) (by kernel_rfl) (by kernel_rfl) (fun _ _ _ h=>h) (Or.inl ⟨by rfl,?_⟩) (by assumption) ?_
     rotate_left
     ·intro w hSw
      (try dsimp only at hSw)
      go_simp
      (try with_reducible rfl)
     (try go_frame)
     refine wpAnyH_take (i:=1) (oi:=_) (v:=?_) rfl (by kernel_rfl) (by kernel_rfl) (by kernel_rfl) (fun _ _ _ h=>h) (Or.inl ⟨by rfl,?_⟩) (by assumption) ?_
     rotate_left
     ·intro w hSw
      (try dsimp only at hSw)
      go_simp
      (try with_reducible rfl)
     (try go_frame)
     refine wpAnyH_take (i:=2) (oi:=_) (v:=?_) rfl (by kernel_rfl) (by kernel_rfl) (by kernel_rfl) (fun _ _ _ h=>h) (Or.inl ⟨by rfl,?_⟩) (by assumption) ?_
     rotate_left
     ·intro w hSw
      (try dsimp only at hSw)
      go_simp
      (try with_reducible rfl)
     (try go_frame)
     refine wpAnyH_take (i:=3) (oi:=_) (v:=?_) rfl (by kernel_rfl) (by kernel_rfl) (by kernel_rfl) (fun _ _ _ h=>h) (Or.inl ⟨by rfl,?_⟩) (by assumption) ?_
     rotate_left
     ·intro w hSw
      (try dsimp only at hSw)
      go_simp
      (try with_reducible rfl)
     (try go_frame)
     refine wpAnyH_take (i:=4) (oi:=_) (v:=?_) rfl (by kernel_rfl) (by kernel_rfl) (by kernel_rfl) (fun _ _ _ h=>h) (Or.inl ⟨by rfl,?_⟩) (by assumption) ?_
     rotate_left
     ·intro w hSw
      (try dsimp only at hSw)
      go_simp
      (try with_reducible rfl)
     (try go_frame)
     refine wpAnyH_take (i:=5) (oi:=_) (v:=?_) rfl (by kernel_rfl) (by kernel_rfl) (by kernel_rfl) (fun _ _ _ h=>h) (Or.inl ⟨by rfl,?_⟩) (by assumption) ?_
     rotate_left
     ·intro w hSw
      (try dsimp only at hSw)
      go_simp
      (try with_reducible rfl)
     (try go_frame)
     refine wpAnyH_take (i:=6) (oi:=_) (v:=?_) rfl (by kernel_rfl) (by kernel_rfl) (by kernel_rfl) (fun _ _ _ h=>h) (Or.inl ⟨by rfl,?_⟩) (by assumption) ?_
     rotate_left
     ·intro w hSw
      (try dsimp only at hSw)
      go_simp
      (try with_reducible rfl)
     (try go_frame)
     refine wpAnyH_ready (rs:=[7,8]) (by kernel_rfl) (by simp) ?_
     refine AllReadyH.cons (o:=_) rfl (fun K hK=>?_) (AllReadyH.cons (o:=_) rfl (fun K hK=>?_) AllReadyH.nil)
     ·go_simp
      refine (Mo t.fl k.fl _).mono ?_
      rintro e w4 ⟨rfl,hg4⟩
      have sZ:w3.grownBy w4 none:=MF hg4
      have kY:=hide sZ
      refine hK.out _ _ (qc.out w4 sZ) (fun hHeld=>?_)
      clear hK hg4 sZ
      refine wpAnyH_ready (rs:=[8]) (by kernel_rfl) (by simp) ?_
      refine AllReadyH.cons (o:=_) rfl (fun K hK=>?_) AllReadyH.nil
      go_simp
      refine hK.out _ _ (qc.out _ (lH kY.out _)) (fun hHeld=>?_)
      clear hK
      refine wpAnyH_ready (rs:=[9]) (by kernel_rfl) (by simp) ?_
      refine AllReadyH.cons (o:=_) rfl (fun K hK=>?_) AllReadyH.nil
      go_simp
      refine hK.out _ _ (qc.out _ (lH kY.out _)) (fun hHeld=>?_)
      clear hK
      refine wpAnyH_done (by kernel_rfl) ?_ _
      go_wp2_with fail
      go_meet
      exact ⟨w4.heap.size,rfl,by have:=kY.out.size;omega,heap_alloc_new w4 _,lH kY.out _⟩
     ·go_simp
      refine hK.out _ _ (qc.out _ (lH (sU (World.grownBy.refl _ _)) _)) (fun hHeld=>?_)
      clear hK
      refine wpAnyH_ready (rs:=[7]) (by kernel_rfl) (by simp) ?_
      refine AllReadyH.cons (o:=_) rfl (fun K hK=>?_) AllReadyH.nil
      go_simp
      refine (Mo t.fl k.fl _).mono ?_
      rintro e w4 ⟨rfl,hg4⟩
      have sZ:w3.grownBy w4 none:=WC (lH (sU (World.grownBy.refl _ _)) _) hg4
      have kY:=hide sZ
      have hL4:w4.heap[w3.heap.size]?=some (nD Vf.Fl.none):=(vQ hg4 (by simp)).trans (by have:=heap_alloc_new w3.drew (nD Vf.Fl.none);exact this)
      have WH:=hide hL4
      obtain ⟨l0,l1,l2,l3,m0,m1,m2,m3⟩:=jR hL4
      refine hK.out _ _ (qc.out w4 sZ) (fun hHeld=>?_)
      clear hK hg4 sZ hL4
      refine wpAnyH_ready (rs:=[9]) (by kernel_rfl) (by simp) ?_
      refine AllReadyH.cons (o:=_) rfl (fun K hK=>?_) AllReadyH.nil
      go_simp
      have MH:Hid (w3.grownBy ((((w4.setCell ⟨w3.heap.size,0,none⟩ (aj (t.fl.both k.fl).a)).setCell ⟨w3.heap.size,1,none⟩ (aj (t.fl.both k.fl).b)).setCell ⟨w3.heap.size,2,none⟩ (aj (t.fl.both k.fl).c)).setCell ⟨w3.heap.size,3,none⟩ (aj (t.fl.both k.fl).d)) none):=mo (mo (mo (mo kY.out (Nat.le_refl _) _ _) (Nat.le_refl _) _ _) (Nat.le_refl _) _ _) (Nat.le_refl _) _ _
      refine hK.out _ _ (qc.out _ MH.out) (fun hHeld=>?_)
      clear hK
      refine wpAnyH_done (by kernel_rfl) ?_ _
      go_wp2_with fail
      go_meet
      exact ⟨w3.heap.size,rfl,by omega,WA WH.out _,MH.out⟩
    case rest =>
     obtain ⟨L,rfl,hL,tq,hgx⟩:=hcut
     have MI:Hid (WF c B F wc k n s):=HW2.out.quiet hgx
     have yt:Hid (wc.heap[w0.heap.size]?=some (iy t bV)):=(vQ hgx (lt_of_block bM.out)).trans bM.out
     have WI:Hid (dW wc bV t.st):=(iI.out.ET HG2.out).ET hgx
     have MJ:Hid (Below B w0 wc):=HB2.out.trans (Fg hgx (by omega))
     obtain ⟨x0,x1,x2,x3,x4,x5⟩:=vP yt.out
     obtain ⟨z2,z3,z4,z5⟩:=Ww yt.out
     obtain ⟨l0,l1,l2,l3,_⟩:=jR tq
     have hnq:=Wu (t.fl.both k.fl) t.fl wc
     have hne:L≠w0.heap.size:=by omega
     have hzx:w0.heap.size < wc.heap.size:=lt_of_block yt.out
     clear hgx tq n2 n3 n4 n5 d10 d11 d12 d13
     obtain ⟨g,hg⟩:∃ g,g=t.fl.both k.fl:=⟨_,rfl⟩
     rw [← hg] at l0 l1 l2 l3 hnq HR2
     clear hg
     cases hq:Vf.Fl.eq g t.fl with
     | true =>
      have HR3:Hid (r=.ok s):=by rw [HR2.out,hq];rfl
      rw [hq] at hnq
      clear hq
      go_wp2
      go_end0
      exact gp.good MJ.out HR3.out MI.out
     | false =>
      have HR3:Hid (r=.ok (s.note tg ⟨t.st,g⟩)):=by rw [HR2.out,hq];rfl
      rw [hq] at hnq
      obtain ⟨kw,kb,kk⟩:=Wy MI.out yt.out (by omega) g
      have MK:=hide (Wx yt.out g)
      have WJ:=hide kw
      have WK:=hide (MJ.out.trans kb)
      have WL:Hid (dW ((((wc.setCell ⟨w0.heap.size,2,none⟩ (aj g.a)).setCell ⟨w0.heap.size,3,none⟩ (aj g.b)).setCell ⟨w0.heap.size,4,none⟩ (aj g.c)).setCell ⟨w0.heap.size,5,none⟩ (aj g.d)) bV t.st):=WI.out.keep kk
      clear hq kw kb kk
      go_wp2_with fail
      refine (E8 c B F k ⟨t.st,g⟩ n s tg bV _ WJ WL hn).mono ?_
      rintro e w9 ⟨rfl,hW,hb⟩
      have HE:Hid (gp c B F k n r w0 (.returned (.tuple #[])) w9):=gp.good (WK.out.trans hb) HR3.out hW
      clear hW hb x0 x1 x2 x3 x4 x5 z2 z3 z4 z5 l0 l1 l2 l3 hnq
      go_wp2
      go_end0
      exact HE.out
   ·have e1:decide (t.st=k.st)=false:=by simpa using hst
    have HE:Hid (r=.error 8):=by rw [HR.out,if_neg hst];rfl
    clear hst
    rw [e1]
    refine (eF F false 8 n _ c14).mono ?_
    rintro e w3 ⟨he,hw3⟩
    subst hw3
    obtain rfl:e=.panicked [bZ 8 n]:=he
    clear hK q2 e1 c14
    go_wp2
    exact ⟨rfl,gp.bad HB2.out HE.out⟩
 ·have hd:decide (tg < c.u.code.length)=false:=by simpa using hto
  have HE:Hid (r=.error 3):=by
   unfold Hid
   rw [hr.out,Vf.eD,if_neg (by omega)]
  go_enter Tryz.func149,Tryz.ntmps149
  go_wp2_with fail
  refine (eF F false 3 n _ c14).mono ?_
  rintro e w0 ⟨he,hw0⟩
  subst hw0
  obtain rfl:e=.panicked [bZ 3 n]:=he
  clear c14 c16 c7
  go_wp2
  exact ⟨rfl,gp.bad (Below.refl _ _) HE.out⟩
theorem ML (c:FC)(B F:Nat)(k:Vf.Kn)(n:Nat)(s:Vf.S)(w:World)(h:Hid (WF c B F w k (n:Int) s))(hn:s.row.length≤100000000)(r:Except Int Vf.S)(hr:Hid (r=Vf.eD c.u.code.length k ((n:Int)+1) s)) :
  Calls Tryz.prog 149 #[.pointer (some ⟨F,0,none⟩),.int .i64 ((n:Int)+1)] w fun e w'=>gp c B F k (n:Int) r w e w' :=
 Fh c B F k (n:Int) s (n+1) w h hn r hr
theorem WM (c:FC)(B F:Nat)(k:Vf.Kn)(n:Nat)(s:Vf.S)(op a nn:Int)(w:World)(h:Hid (WF c B F w k (n:Int) s))(hn:s.row.length≤99999999)(JL:n≤4000)(hfm:Hid (Vf.bD c.m c.u ⟨op,a,nn⟩=0))(hI:Hid (Inv c.m c.u s))(hk:Hid (bz c.m k.st))(r:Except Int Vf.S)(hr:Hid (r=Vf.kJ c.u.code.length k (Vf.goes ⟨op,a,nn⟩ n) s)) :
  Calls Tryz.prog 100 #[.pointer (some ⟨F,0,none⟩),.agg #[.int .i64 op,.int .i64 a,.int .i64 nn]] w fun e w'=>gp c B F k (n:Int) r w e w':=by
 have hB:B≤w.heap.size:=by have:=h.out.env.base;have:=h.out.env.lt;omega
 have hlt:=h.out.env.lt
 have HB1:Hid (Below B w (w.alloc (ak op a nn))):=(Below.refl B w).alloc hB _
 have HW1:Hid (WF c B F (w.alloc (ak op a nn)) k (n:Int) s):=h.out.quiet (lH (World.grownBy.refl _ _) _)
 obtain ⟨top,rv,hF,_⟩:=h.out.fl
 have c14:=(eZ hF.blk).1
 have e1:IntKind.i64.wrap ((n:Int)+1)=(n:Int)+1:=by simp [IntKind.wrap,IntKind.bits,IntKind.signed];omega
 clear hF
 by_cases iL:op=24∨op=25
 ·have HR:Hid (r=.ok s):=by unfold Hid;rw [hr.out,Vf.goes,if_pos iL];rfl
  rcases iL with rfl | rfl
  ·go_enter Tryz.func100,Tryz.ntmps100
   go_wp2
   go_end0
   exact gp.good HB1.out HR.out HW1.out
  ·go_enter Tryz.func100,Tryz.ntmps100
   go_wp2
   go_end0
   exact gp.good HB1.out HR.out HW1.out
 ·by_cases h21:op=21
  ·subst h21
   obtain ⟨tg,rfl,_⟩:=vK (L:=c.u.code.length) hfm.out rfl
   have HR:Hid (r=Vf.eD c.u.code.length k (tg:Int) s):=by
    unfold Hid
    rw [hr.out]
    show Vf.andThen (Vf.eD c.u.code.length k (tg:Int) s) _=_
    cases Vf.eD c.u.code.length k (tg:Int) s <;> rfl
   clear hr iL
   go_enter Tryz.func100,Tryz.ntmps100
   go_wp2_with fail
   refine (Fh c B F k (n:Int) s tg _ HW1 (by omega) r HR).mono ?_
   rintro e w9 hS
   have qV:Hid (Below B w w9):=HB1.out.trans hS.below
   cases r with
   | error er =>
    obtain rfl:=hS.no er rfl
    clear hS
    go_wp2
    exact ⟨rfl,gp.bad qV.out rfl⟩
   | ok s9 =>
    obtain ⟨rfl,qW⟩:=hS.yes s9 rfl
    have yu:=hide qW
    clear hS qW
    go_wp2
    go_end0
    exact gp.good qV.out rfl yu.out
  ·by_cases h22:op=22
   ·subst h22
    obtain ⟨tg,rfl,_⟩:=vK (L:=c.u.code.length) hfm.out rfl
    obtain ⟨r1,hr1⟩:∃ r1,r1=Vf.eD c.u.code.length k (tg:Int) s:=⟨_,rfl⟩
    have HR1:=hide hr1
    have HR:Hid (r=Vf.andThen r1 fun s1=>Vf.eD c.u.code.length k ((n:Int)+1) s1):=by
     unfold Hid
     rw [hr.out]
     show Vf.andThen (Vf.eD c.u.code.length k (tg:Int) s) (Vf.kJ c.u.code.length k [((n:Int)+1)])=_
     rw [← hr1]
     cases r1 with
     | error e=>rfl
     | ok s1 =>
      show Vf.andThen (Vf.eD c.u.code.length k ((n:Int)+1) s1) _=Vf.eD c.u.code.length k ((n:Int)+1) s1
      cases Vf.eD c.u.code.length k ((n:Int)+1) s1 <;> rfl
    have HL:Hid (∀ s1,r1=.ok s1→s1.row.length≤100000000):=fun s1 e=>by
     have:=(Jy hI.out (by omega) hk.out (hr1.symm.trans e)).2
     omega
    clear hr hr1 iL h21
    go_enter Tryz.func100,Tryz.ntmps100
    go_wp2_with fail
    refine (Fh c B F k (n:Int) s tg _ HW1 (by omega) r1 HR1).mono ?_
    rintro e w2 hS
    have HB2:Hid (Below B w w2):=HB1.out.trans hS.below
    cases r1 with
    | error er =>
     obtain rfl:=hS.no er rfl
     have HE:Hid (r=.error er):=HR.out
     clear hS
     go_wp2
     exact ⟨rfl,gp.bad HB2.out HE.out⟩
    | ok s1 =>
     obtain ⟨rfl,hW2⟩:=hS.yes s1 rfl
     have HW2:=hide hW2
     have hl1:=HL.out s1 rfl
     have HR2:Hid (r=Vf.eD c.u.code.length k ((n:Int)+1) s1):=HR.out
     obtain ⟨rH,MM,hF2,_⟩:=hW2.fl
     have d14:=(eZ hF2.blk).1
     clear hS hW2 hF2 HR HL HR1 c14
     go_wp2_with fail
     refine (ML c B F k n s1 _ HW2 hl1 r HR2).mono ?_
     rintro e w9 hS
     have qV:Hid (Below B w w9):=HB2.out.trans hS.below
     cases r with
     | error er =>
      obtain rfl:=hS.no er rfl
      clear hS
      go_wp2
      exact ⟨rfl,gp.bad qV.out rfl⟩
     | ok s9 =>
      obtain ⟨rfl,qW⟩:=hS.yes s9 rfl
      have yu:=hide qW
      clear hS qW
      go_wp2
      go_end0
      exact gp.good qV.out rfl yu.out
   ·have HR:Hid (r=Vf.eD c.u.code.length k ((n:Int)+1) s):=by
     unfold Hid
     rw [hr.out,Vf.goes,if_neg iL,if_neg h21,if_neg h22]
     show Vf.andThen (Vf.eD c.u.code.length k ((n:Int)+1) s) _=_
     cases Vf.eD c.u.code.length k ((n:Int)+1) s <;> rfl
    have g24:(op == 24)=false:=by simp;omega
    have g25:(op == 25)=false:=by simp;omega
    have g21:(op == 21)=false:=by simpa using h21
    have g22:(op == 22)=false:=by simpa using h22
    clear hr iL h21 h22
    go_enter Tryz.func100,Tryz.ntmps100
    go_wp2_with fail
    refine (ML c B F k n s _ HW1 (by omega) r HR).mono ?_
    rintro e w9 hS
    have qV:Hid (Below B w w9):=HB1.out.trans hS.below
    cases r with
    | error er =>
     obtain rfl:=hS.no er rfl
     clear hS
     go_wp2
     exact ⟨rfl,gp.bad qV.out rfl⟩
    | ok s9 =>
     obtain ⟨rfl,qW⟩:=hS.yes s9 rfl
     have yu:=hide qW
     clear hS qW
     go_wp2
     go_end0
     exact gp.good qV.out rfl yu.out
end Go.Proofs.YthffafaoobpedaaGreatDoor

/- The walk of stat,kind by kind. -/
import Derived.Test.YtolfleeidpeomaaGreatDoorM33
set_option maxRecDepth 100000
set_option maxHeartbeats 4000000
namespace Go.Proofs.YtolfleeidpeomaaGreatDoor
open Go.RowKit
namespace Sm
theorem dQ {w:World}{b:Nat}{v0 v1 v2 v3 v4 v5 v6 v7:Value}{t:TypeId}(h:w.heap[b]?=some (.cells #[v0,v1,v2,v3,v4,v5,v6,v7] t (0,0))) :
  w.cell? ⟨b,0,none⟩=some v0∧w.cell? ⟨b,1,none⟩=some v1∧w.cell? ⟨b,2,none⟩=some v2∧w.cell? ⟨b,3,none⟩=some v3∧w.cell? ⟨b,4,none⟩=some v4∧w.cell? ⟨b,5,none⟩=some v5∧w.cell? ⟨b,6,none⟩=some v6∧w.cell? ⟨b,7,none⟩=some v7:=by simp [World.cell?,h]
theorem sU {B:Nat}{w:World}{s:Sy.St}{xa ba ea:Option Addr}(h:∃ h,cu B w h s xa ba ea):∃ h,aJ B w h s.x xa:=by
 obtain ⟨hh,hs⟩:=h
 cases hh with
 | zero=>exact hs.elim
 | succ hh=>exact hs.2.1
theorem abO (K:BK)(me:Sy.Df)(d:Nat)(i:Nat)(hi:Hid (K.num=(i:Int)))(dE:Hid (K.l[i]?=some me))(_hB:Hid (rF K me d))(s:Sy.St)(xa ba ea:Option Addr)(xc bc ec:Nat)(v:Vars)(t:Tk)(n m m1:Nat)(w:World)(r:Except Int (Value × Vars × Tk))(h:Hid (BW K w v t))(hs:Hid (∃ h,cu K.B w h s xa ba ea))(hx1:Hid (Sy.aF d s.x (n+1)=.ok m1))(_htl:Hid (Sy.dN (Sy.aO d) s m1=.ok m))(ht:Hid (aT t n))(hv:Hid (v.length≤n+10))(h2:n+1≤2000)
  (hr:Hid (r=andThen (stat K.l me (d+1) s v t) fun p=>.ok (.tuple #[],p.1,p.2)))
  (hk:s.kind=1) :
  Calls Tryz.prog 109 #[.pointer (some ⟨K.F,0,none⟩),l7 s xa xc ba bc ea ec] w fun e w'=>Bf K w v r e w':=by
 have hF:=h.out.lt
 obtain ⟨W0,hW0⟩:∃ W0,W0=w.alloc (bS s xa xc ba bc ea ec):=⟨_,rfl⟩
 have aM:Hid (af K w W0):=by rw [hW0];exact af.alloc K w _ hF
 have HB0:Hid (BW K W0 v t):=by rw [hW0];exact h.out.grown (bn _)
 have gM:Hid (W0.heap[w.heap.size]?=some (bS s xa xc ba bc ea ec)∧bA K W0 w.heap.size):=by rw [hW0];exact h.out.new _
 have aR:Hid (∃ h,aJ K.B W0 h s.x xa):=by
  obtain ⟨hh,hE⟩:=sU hs.out
  exact ⟨hh,hE.same (h.out.same aM.out)⟩
 have HW0:Hid (W0=_):=hW0
 have hC:=hid (jV K v me i hi dE d)
 have HT1:Hid (aT t (n+1)):=ht.out.mono (by omega)
 clear hW0
 obtain ⟨er,her⟩:∃ er,er=expr K.l me v d s.x t:=⟨_,rfl⟩
 have dL:Hid (er=expr K.l me v d s.x t):=her
 have ae:Hid (r=andThen er fun p=>if (Sm.look v s.name).isSome=true then .error 7 else .ok (.tuple #[],v++[(s.name,p.1)],p.2)):=by
  unfold Hid
  rw [hr.out,stat,if_pos hk,her]
  cases expr K.l me v d s.x t with
  | error e=>rfl
  | ok p=>rw [andThen_ok,andThen_ok];split <;> rfl
 have HS:Hid (∀ w',af K W0 w'→w'.cell? ⟨w.heap.size,1,none⟩=some (.string s.name)∧w'.cell? ⟨w.heap.size,2,none⟩=some (.int .i64 s.x.kind)∧w'.cell? ⟨w.heap.size,3,none⟩=some (.int .i64 s.x.n)∧w'.cell? ⟨w.heap.size,4,none⟩=some (.string s.x.name)∧w'.cell? ⟨w.heap.size,5,none⟩=some (.slice xa s.x.kids.length xc)):=fun w' hk=>by
  obtain ⟨_,g1,g2,g3,g4,g5,_,_⟩:=dQ (hk.at gM.out).1
  exact ⟨g1,g2,g3,g4,g5⟩
 have e1:(s.kind==1)=true:=by rw [hk];rfl
 clear hr her hk
 go_enter Tryz.func109,Tryz.ntmps109
 go_wp2_with fail
 rw [← HW0.out]
 refine wp_region_held_drew (S:=fun w'=>w'.cell? ⟨w.heap.size,1,none⟩=some (.string s.name)∧w'.cell? ⟨w.heap.size,2,none⟩=some (.int .i64 s.x.kind)∧w'.cell? ⟨w.heap.size,3,none⟩=some (.int .i64 s.x.n)∧w'.cell? ⟨w.heap.size,4,none⟩=some (.string s.x.name)∧w'.cell? ⟨w.heap.size,5,none⟩=some (.slice xa s.x.kids.length xc)) (by kernel_rfl) (HS.out W0 (af.refl _ _)) (fun hHeld=>?_)
 refine tk 0 (v:=?_) rfl ?_ (by assumption) ?_
 rotate_left
 ·intro w hSw
  (try dsimp only at hSw)
  go_simp
  (try with_reducible rfl)
 (try go_frame)
 refine tk 1 (v:=?_) rfl ?_ (by assumption) ?_
 rotate_left
 ·intro w hSw
  (try dsimp only at hSw)
  go_simp
  (try with_reducible rfl)
 (try go_frame)
 refine tk 2 (v:=?_) rfl ?_ (by assumption) ?_
 rotate_left
 ·intro w hSw
  (try dsimp only at hSw)
  go_simp
  (try with_reducible rfl)
 (try go_frame)
 refine tk 3 (v:=?_) rfl ?_ (by assumption) ?_
 rotate_left
 ·intro w hSw
  (try dsimp only at hSw)
  go_simp
  (try with_reducible rfl)
 (try go_frame)
 refine tk 4 (v:=?_) rfl ?_ (by assumption) ?_
 rotate_left
 ·intro w hSw
  (try dsimp only at hSw)
  go_simp
  (try with_reducible rfl)
 (try go_frame)
 refine tk 5 (v:=?_) rfl ?_ (by assumption) ?_
 rotate_left
 ·intro w hSw
  (try dsimp only at hSw)
  go_simp
  (try with_reducible rfl)
 (try go_frame)
 refine wpAnyH_ready (rs:=[6]) (by kernel_rfl) (by simp) ?_
 refine AllReadyH.cons (o:=_) rfl (fun K' hK=>?_) AllReadyH.nil
 go_simp
 refine (hC.out s.x xa xc t (n+1) m1 W0.drew _ (by exact HB0.out.drew) (by obtain ⟨hh,hE⟩:=aR.out;exact ⟨hh,aJ.same (w:=W0) (w':=W0.drew) (fun _ _ _=>rfl) _ _ _ hE⟩) hx1 HT1 h2 (by rw [← dL.out];exact rfl)).mono ?_
 rintro e w1 ⟨qz,he1⟩
 have bP:Hid (af K W0 w1):=qz.yL
 clear qz
 cases er with
 | error y =>
  obtain ⟨rfl,v2,t2,hb2,hp2⟩:=he1
  have HE:Hid (Bf K w v r (.panicked [aH y K.num]) w1):=by
   rw [ae.out]
   exact ⟨(aM.out.trans bP.out),rfl,v2,t2,hb2,hp2⟩
  clear hK hb2 hp2
  go_wp2
  exact ⟨rfl,HE.out⟩
 | ok p =>
  obtain ⟨ty,t1⟩:=p
  obtain ⟨rfl,hb1⟩:=he1
  have HB1:Hid (BW K w1 v t1):=hb1
  have iM:Hid (r=if (Sm.look v s.name).isSome=true then .error 7 else .ok (.tuple #[],v++[(s.name,ty)],t1)):=ae.out
  refine hK.out _ _ (HS.out w1 bP.out) (fun hHeld=>?_)
  clear hK hb1
  refine wpAnyH_ready (rs:=[7]) (by kernel_rfl) (by simp) ?_
  refine AllReadyH.cons (o:=_) rfl (fun K' hK=>?_) AllReadyH.nil
  go_simp
  refine (aaV K v t1 s.name ty w1 r HB1 (by have:=hv.out;omega) iM).mono ?_
  rintro e w2 ⟨hk2,he2⟩
  have bD:Hid (af K w w2):=(aM.out.trans bP.out).trans hk2
  cases r with
  | error y =>
   obtain ⟨rfl,v2,t2,hb2,hp2⟩:=he2
   have HE:Hid (Bf K w v (.error y) (.panicked [aH y K.num]) w2):=⟨bD.out,rfl,v2,t2,hb2,hp2⟩
   clear hK hk2 hb2 hp2
   go_wp2
   exact ⟨rfl,HE.out⟩
  | ok q =>
   obtain ⟨qv,qn,qt⟩:=q
   obtain ⟨rfl,hb2⟩:=he2
   have hqv:qv=.tuple #[]:=by
    have:=iM.out
    split at this
    ·cases this
    ·cases this;rfl
   subst hqv
   have HE:Hid (Bf K w v (.ok (.tuple #[],qn,qt)) (.returned (.tuple #[])) w2):=⟨bD.out,rfl,hb2⟩
   refine hK.out _ _ (HS.out w2 (bP.out.trans hk2)) (fun hHeld=>?_)
   clear hK hk2 hb2
   refine wpAnyH_done (by kernel_rfl) ?_ _
   go_wp2
   go_end0
   exact HE.out
theorem abQ (K:BK)(me:Sy.Df)(d:Nat)(i:Nat)(hi:Hid (K.num=(i:Int)))(dE:Hid (K.l[i]?=some me))(_hB:Hid (rF K me d))(s:Sy.St)(xa ba ea:Option Addr)(xc bc ec:Nat)(v:Vars)(t:Tk)(n:Nat)(w:World)(r:Except Int (Value × Vars × Tk))(h:Hid (BW K w v t))(hs:Hid (∃ h,cu K.B w h s xa ba ea))(ht:Hid (aT t n))(_hv:Hid (v.length≤n+10))(_h2:n+1≤2000)
  (hr:Hid (r=andThen (stat K.l me (d+1) s v t) fun p=>.ok (.tuple #[],p.1,p.2)))
  (hk:s.kind=6) :
  Calls Tryz.prog 109 #[.pointer (some ⟨K.F,0,none⟩),l7 s xa xc ba bc ea ec] w fun e w'=>Bf K w v r e w':=by
 have hF:=h.out.lt
 obtain ⟨W0,hW0⟩:∃ W0,W0=w.alloc (bS s xa xc ba bc ea ec):=⟨_,rfl⟩
 have aM:Hid (af K w W0):=by rw [hW0];exact af.alloc K w _ hF
 have HB0:Hid (BW K W0 v t):=by rw [hW0];exact h.out.grown (bn _)
 have gM:Hid (W0.heap[w.heap.size]?=some (bS s xa xc ba bc ea ec)∧bA K W0 w.heap.size):=by rw [hW0];exact h.out.new _
 have aR:Hid (∃ h,aJ K.B W0 h s.x xa):=by
  obtain ⟨hh,hE⟩:=sU hs.out
  exact ⟨hh,hE.same (h.out.same aM.out)⟩
 have HW0:Hid (W0=_):=hW0
 have hC:=hid (jV K v me i hi dE d)
 have HT1:Hid (aT t (n+1)):=ht.out.mono (by omega)
 clear hW0
 have ae:Hid (r=andThen (fits (me.kind != 2)) fun _=>.ok (.tuple #[],v,t)):=by
  unfold Hid
  rw [hr.out,stat,if_neg (by omega),if_neg (by omega),if_neg (by omega),if_neg (by omega),if_neg (by omega),if_pos hk]
  cases fits (me.kind != 2) <;> rfl
 obtain ⟨o,sn,rr,cc,h4⟩:=h.out.rows
 obtain ⟨c0,c1,c2,_⟩:=fE h4.blk
 rw [hi.out] at c2
 have hB0:K.B≤W0.heap.size:=by have:=HB0.out.base;have:=HB0.out.lt;omega
 have HD0:Hid (dS K.B W0 K.l K.a):=HB0.out.fH
 have e1:(s.kind==1)=false:=by rw [hk];rfl
 have e2:(s.kind==2)=false:=by rw [hk];rfl
 have e3:(s.kind==3)=false:=by rw [hk];rfl
 have e4:(s.kind==4)=false:=by rw [hk];rfl
 have e5:(s.kind==5)=false:=by rw [hk];rfl
 have e6:(s.kind==6)=true:=by rw [hk];rfl
 clear hr h4 hk
 go_enter Tryz.func109,Tryz.ntmps109
 go_wp2_with fail
 rw [← HW0.out]
 refine (nN K.B K.l K.a K.c K.M i me W0 HD0 hB0 dE).mono ?_
 rintro e w1 ⟨hg1,val,rfl,pa,pc,ba',bc',rfl,hdf⟩
 have ax:Hid (W0.grownBy w1 none):=hg1
 have HB1:Hid (BW K w1 v t):=HB0.out.grown hg1
 have Eg:=JF me pa pc ba' bc' w1
 obtain ⟨o',uP,rr',cc',h4⟩:=HB1.out.rows
 have H4:Hid (w1.heap[K.F]?=some (K.obj o' uP rr' cc')):=h4.blk
 obtain ⟨bk,hbk⟩:∃ bk,bk=(me.kind != 2):=⟨_,rfl⟩
 have uQ:Hid (bk=(me.kind != 2)):=hbk
 have hbk':=hbk.symm
 obtain ⟨rf,hrf⟩:∃ rf:Except Int Value,rf=match Sm.fits bk with | .ok _=>.ok (.tuple #[]) | .error e=>.error e:=⟨_,rfl⟩
 have mG:Hid (rf=match Sm.fits bk with | .ok _=>.ok (.tuple #[]) | .error e=>.error e):=hrf
 clear hg1 hdf h4 hbk hrf
 go_wp2_with fail
 refine (Jh K.F K.l.length K.a K.c K.M K.num K.T o' uP rr' cc' bk w1 rf H4 mG).mono ?_
 rintro e w2 ⟨hg2,he2⟩
 have HG2:Hid (w1.grownBy w2 none):=hg2
 have qA:Hid (af K W0 w2):=(af.grown ax.out HB0.out.lt).trans (af.grown hg2 HB1.out.lt)
 have bD:Hid (af K w w2):=aM.out.trans qA.out
 have HB2:Hid (BW K w2 v t):=HB1.out.grown hg2
 cases bk with
 | false =>
  have hrf:rf=.error 8:=mG.out
  subst hrf
  obtain rfl:=he2
  have HE:Hid (Bf K w v r (.panicked [aH 8 K.num]) w2):=by
   rw [ae.out,← uQ.out]
   exact ⟨bD.out,rfl,v,t,HB2.out,List.prefix_refl _⟩
  clear hg2
  go_wp2
  exact ⟨rfl,HE.out⟩
 | true =>
  have hrf:rf=.ok (.tuple #[]):=mG.out
  subst hrf
  obtain rfl:=he2
  have HE:Hid (Bf K w v r (.returned (.tuple #[])) w2):=by
   rw [ae.out,← uQ.out]
   exact ⟨bD.out,rfl,HB2.out⟩
  clear hg2
  go_wp2
  go_end0
  exact HE.out
theorem abR (K:BK)(me:Sy.Df)(d:Nat)(i:Nat)(hi:Hid (K.num=(i:Int)))(dE:Hid (K.l[i]?=some me))(_hB:Hid (rF K me d))(s:Sy.St)(xa ba ea:Option Addr)(xc bc ec:Nat)(v:Vars)(t:Tk)(n m m1:Nat)(w:World)(r:Except Int (Value × Vars × Tk))(h:Hid (BW K w v t))(hs:Hid (∃ h,cu K.B w h s xa ba ea))(hx1:Hid (Sy.aF d s.x (n+1)=.ok m1))(_htl:Hid (Sy.dN (Sy.aO d) s m1=.ok m))(ht:Hid (aT t n))(_hv:Hid (v.length≤n+10))(h2:n+1≤2000)
  (hr:Hid (r=andThen (stat K.l me (d+1) s v t) fun p=>.ok (.tuple #[],p.1,p.2)))
  (hk:s.kind=9) :
  Calls Tryz.prog 109 #[.pointer (some ⟨K.F,0,none⟩),l7 s xa xc ba bc ea ec] w fun e w'=>Bf K w v r e w':=by
 have hF:=h.out.lt
 obtain ⟨W0,hW0⟩:∃ W0,W0=w.alloc (bS s xa xc ba bc ea ec):=⟨_,rfl⟩
 have aM:Hid (af K w W0):=by rw [hW0];exact af.alloc K w _ hF
 have HB0:Hid (BW K W0 v t):=by rw [hW0];exact h.out.grown (bn _)
 have gM:Hid (W0.heap[w.heap.size]?=some (bS s xa xc ba bc ea ec)∧bA K W0 w.heap.size):=by rw [hW0];exact h.out.new _
 have aR:Hid (∃ h,aJ K.B W0 h s.x xa):=by
  obtain ⟨hh,hE⟩:=sU hs.out
  exact ⟨hh,hE.same (h.out.same aM.out)⟩
 have HW0:Hid (W0=_):=hW0
 have hC:=hid (jV K v me i hi dE d)
 have HT1:Hid (aT t (n+1)):=ht.out.mono (by omega)
 clear hW0
 obtain ⟨er,her⟩:∃ er,er=expr K.l me v d s.x t:=⟨_,rfl⟩
 have dL:Hid (er=expr K.l me v d s.x t):=her
 have ae:Hid (r=andThen er fun p=>.ok (.tuple #[],v,p.2)):=by
  unfold Hid
  rw [hr.out,stat,if_neg (by omega),if_neg (by omega),if_neg (by omega),if_neg (by omega),if_neg (by omega),if_neg (by omega),if_neg (by omega),if_neg (by omega),her]
  cases expr K.l me v d s.x t <;> rfl
 have e1:(s.kind==1)=false:=by rw [hk];rfl
 have e2:(s.kind==2)=false:=by rw [hk];rfl
 have e3:(s.kind==3)=false:=by rw [hk];rfl
 have e4:(s.kind==4)=false:=by rw [hk];rfl
 have e5:(s.kind==5)=false:=by rw [hk];rfl
 have e6:(s.kind==6)=false:=by rw [hk];rfl
 have e7:(s.kind==7)=false:=by rw [hk];rfl
 have e8:(s.kind==8)=false:=by rw [hk];rfl
 have e9:(s.kind==9)=true:=by rw [hk];rfl
 clear hr her hk
 go_enter Tryz.func109,Tryz.ntmps109
 go_wp2_with fail
 rw [← HW0.out]
 refine (hC.out s.x xa xc t (n+1) m1 W0 _ HB0 aR hx1 HT1 h2 (by rw [← dL.out];exact rfl)).mono ?_
 rintro e w1 ⟨hk1,he1⟩
 cases er with
 | error y =>
  obtain ⟨rfl,v2,t2,hb2,hp2⟩:=he1
  have HE:Hid (Bf K w v r (.panicked [aH y K.num]) w1):=by
   rw [ae.out]
   exact ⟨(aM.out.trans hk1),rfl,v2,t2,hb2,hp2⟩
  clear hk1 hb2 hp2
  go_wp2
  exact ⟨rfl,HE.out⟩
 | ok p =>
  obtain ⟨ty,t1⟩:=p
  obtain ⟨rfl,hb1⟩:=he1
  have HE:Hid (Bf K w v r (.returned (.tuple #[])) w1):=by
   rw [ae.out]
   exact ⟨aM.out.trans hk1,rfl,hb1⟩
  clear hk1 hb1
  go_wp2
  go_end0
  exact HE.out
theorem abS (K:BK)(me:Sy.Df)(d:Nat)(i:Nat)(hi:Hid (K.num=(i:Int)))(dE:Hid (K.l[i]?=some me))(_hB:Hid (rF K me d))(s:Sy.St)(xa ba ea:Option Addr)(xc bc ec:Nat)(v:Vars)(t:Tk)(n m m1:Nat)(w:World)(r:Except Int (Value × Vars × Tk))(h:Hid (BW K w v t))(hs:Hid (∃ h,cu K.B w h s xa ba ea))(hx1:Hid (Sy.aF d s.x (n+1)=.ok m1))(_htl:Hid (Sy.dN (Sy.aO d) s m1=.ok m))(ht:Hid (aT t n))(_hv:Hid (v.length≤n+10))(h2:n+1≤2000)
  (hr:Hid (r=andThen (stat K.l me (d+1) s v t) fun p=>.ok (.tuple #[],p.1,p.2)))
  (hk:s.kind=8) :
  Calls Tryz.prog 109 #[.pointer (some ⟨K.F,0,none⟩),l7 s xa xc ba bc ea ec] w fun e w'=>Bf K w v r e w':=by
 have hF:=h.out.lt
 obtain ⟨W0,hW0⟩:∃ W0,W0=w.alloc (bS s xa xc ba bc ea ec):=⟨_,rfl⟩
 have aM:Hid (af K w W0):=by rw [hW0];exact af.alloc K w _ hF
 have HB0:Hid (BW K W0 v t):=by rw [hW0];exact h.out.grown (bn _)
 have gM:Hid (W0.heap[w.heap.size]?=some (bS s xa xc ba bc ea ec)∧bA K W0 w.heap.size):=by rw [hW0];exact h.out.new _
 have aR:Hid (∃ h,aJ K.B W0 h s.x xa):=by
  obtain ⟨hh,hE⟩:=sU hs.out
  exact ⟨hh,hE.same (h.out.same aM.out)⟩
 have HW0:Hid (W0=_):=hW0
 have hC:=hid (jV K v me i hi dE d)
 have HT1:Hid (aT t (n+1)):=ht.out.mono (by omega)
 clear hW0
 obtain ⟨er,her⟩:∃ er,er=expr K.l me v d s.x t:=⟨_,rfl⟩
 have dL:Hid (er=expr K.l me v d s.x t):=her
 have ae:Hid (r=andThen er fun p=>andThen (plain p.1) fun _=>.ok (.tuple #[],v,p.2)):=by
  unfold Hid
  rw [hr.out,stat,if_neg (by omega),if_neg (by omega),if_neg (by omega),if_neg (by omega),if_neg (by omega),if_neg (by omega),if_neg (by omega),if_pos hk,her]
  cases expr K.l me v d s.x t with
  | error e=>rfl
  | ok p=>rw [andThen_ok,andThen_ok];cases plain p.1 <;> rfl
 have HS:Hid (∀ w' v' t',af K W0 w'→BW K w' v' t'→w'.cell? ⟨K.F,0,none⟩=some (.slice K.a K.l.length K.c)∧w'.cell? ⟨K.F,1,none⟩=some (.map (some K.M))∧w'.cell? ⟨K.F,2,none⟩=some (.int .i64 (i:Int))∧w'.cell? ⟨w.heap.size,2,none⟩=some (.int .i64 s.x.kind)∧w'.cell? ⟨w.heap.size,3,none⟩=some (.int .i64 s.x.n)∧w'.cell? ⟨w.heap.size,4,none⟩=some (.string s.x.name)∧w'.cell? ⟨w.heap.size,5,none⟩=some (.slice xa s.x.kids.length xc)):=fun w' v' t' hk hb=>by
  obtain ⟨_,g1,g2,g3,g4,g5,_,_⟩:=dQ (hk.at gM.out).1
  obtain ⟨o,sn,rr,cc,h4⟩:=hb.rows
  obtain ⟨d0,d1,d2,_⟩:=fE h4.blk
  rw [hi.out] at d2
  exact ⟨d0,d1,d2,g2,g3,g4,g5⟩
 have e1:(s.kind==1)=false:=by rw [hk];rfl
 have e2:(s.kind==2)=false:=by rw [hk];rfl
 have e3:(s.kind==3)=false:=by rw [hk];rfl
 have e4:(s.kind==4)=false:=by rw [hk];rfl
 have e5:(s.kind==5)=false:=by rw [hk];rfl
 have e6:(s.kind==6)=false:=by rw [hk];rfl
 have e7:(s.kind==7)=false:=by rw [hk];rfl
 have e8:(s.kind==8)=true:=by rw [hk];rfl
 clear hr her hk
 go_enter Tryz.func109,Tryz.ntmps109
 go_wp2_with fail
 rw [← HW0.out]
 refine wp_region_held_drew (S:=fun w'=>w'.cell? ⟨K.F,0,none⟩=some (.slice K.a K.l.length K.c)∧w'.cell? ⟨K.F,1,none⟩=some (.map (some K.M))∧w'.cell? ⟨K.F,2,none⟩=some (.int .i64 (i:Int))∧w'.cell? ⟨w.heap.size,2,none⟩=some (.int .i64 s.x.kind)∧w'.cell? ⟨w.heap.size,3,none⟩=some (.int .i64 s.x.n)∧w'.cell? ⟨w.heap.size,4,none⟩=some (.string s.x.name)∧w'.cell? ⟨w.heap.size,5,none⟩=some (.slice xa s.x.kids.length xc)) (by kernel_rfl) (HS.out W0 v t (af.refl _ _) HB0.out) (fun hHeld=>?_)
 refine tk 0 (v:=?_) rfl ?_ (by assumption) ?_
 rotate_left
 ·intro w hSw
  (try dsimp only at hSw)
  go_simp
  (try with_reducible rfl)
 (try go_frame)
 refine tk 1 (v:=?_) rfl ?_ (by assumption) ?_
 rotate_left
 ·intro w hSw
  (try dsimp only at hSw)
  go_simp
  (try with_reducible rfl)
 (try go_frame)
 refine tk 2 (v:=?_) rfl ?_ (by assumption) ?_
 rotate_left
 ·intro w hSw
  (try dsimp only at hSw)
  go_simp
  (try with_reducible rfl)
 (try go_frame)
 refine tk 3 (v:=?_) rfl ?_ (by assumption) ?_
 rotate_left
 ·intro w hSw
  (try dsimp only at hSw)
  go_simp
  (try with_reducible rfl)
 (try go_frame)
 refine tk 4 (v:=?_) rfl ?_ (by assumption) ?_
 rotate_left
 ·intro w hSw
  (try dsimp only at hSw)
  go_simp
  (try with_reducible rfl)
 (try go_frame)
 refine tk 5 (v:=?_) rfl ?_ (by assumption) ?_
 rotate_left
 ·intro w hSw
  (try dsimp only at hSw)
  go_simp
  (try with_reducible rfl)
 (try go_frame)
 refine tk 6 (v:=?_) rfl ?_ (by assumption) ?_
 rotate_left
 ·intro w hSw
  (try dsimp only at hSw)
  go_simp
  (try with_reducible rfl)
 (try go_frame)
 refine wpAnyH_ready (rs:=[7]) (by kernel_rfl) (by simp) ?_
 refine AllReadyH.cons (o:=_) rfl (fun K' hK=>?_) AllReadyH.nil
 go_simp
 refine (hC.out s.x xa xc t (n+1) m1 W0.drew _ (by exact HB0.out.drew) (by obtain ⟨hh,hE⟩:=aR.out;exact ⟨hh,aJ.same (w:=W0) (w':=W0.drew) (fun _ _ _=>rfl) _ _ _ hE⟩) hx1 HT1 h2 (by rw [← dL.out];exact rfl)).mono ?_
 rintro e w1 ⟨qz,he1⟩
 have bP:Hid (af K W0 w1):=qz.yL
 clear qz
 cases er with
 | error y =>
  obtain ⟨rfl,v2,t2,hb2,hp2⟩:=he1
  have HE:Hid (Bf K w v r (.panicked [aH y K.num]) w1):=by
   rw [ae.out]
   exact ⟨(aM.out.trans bP.out),rfl,v2,t2,hb2,hp2⟩
  clear hK hb2 hp2
  go_wp2
  exact ⟨rfl,HE.out⟩
 | ok p =>
  obtain ⟨ty,t1⟩:=p
  obtain ⟨rfl,hb1⟩:=he1
  have HB1:Hid (BW K w1 v t1):=hb1
  have iM:Hid (r=andThen (plain ty) fun _=>.ok (.tuple #[],v,t1)):=ae.out
  obtain ⟨rv,bf⟩:∃ rv:Except Int Value,rv=match Sm.plain ty with | .ok _=>.ok (.tuple #[]) | .error e=>.error e:=⟨_,rfl⟩
  have dV:Hid (rv=match Sm.plain ty with | .ok _=>.ok (.tuple #[]) | .error e=>.error e):=bf
  refine hK.out _ _ (HS.out w1 v t1 bP.out HB1.out) (fun hHeld=>?_)
  clear hK hb1 bf
  refine wpAnyH_ready (rs:=[8]) (by kernel_rfl) (by simp) ?_
  refine AllReadyH.cons (o:=_) rfl (fun K' hK=>?_) AllReadyH.nil
  go_simp
  refine (yK K.l.length K.a K.c K.M (i:Int) ty w1 rv dV).mono ?_
  rintro e w2 ⟨hg2,he2⟩
  have HB2:Hid (BW K w2 v t1):=HB1.out.grown hg2
  have qA:Hid (af K W0 w2):=bP.out.trans (af.grown hg2 HB1.out.lt)
  have bD:Hid (af K w w2):=aM.out.trans qA.out
  cases hpl:Sm.plain ty with
  | error y =>
   have bf:rv=.error y:=by rw [dV.out,hpl]
   subst bf
   obtain rfl:=he2
   have HE:Hid (Bf K w v r (.panicked [aH y K.num]) w2):=by
    rw [iM.out,hpl]
    exact ⟨bD.out,rfl,v,t1,HB2.out,List.prefix_refl _⟩
   rw [hi.out] at HE
   clear hK hg2 hpl
   go_wp2
   exact ⟨rfl,HE.out⟩
  | ok u =>
   have bf:rv=.ok (.tuple #[]):=by rw [dV.out,hpl]
   subst bf
   obtain rfl:=he2
   have HE:Hid (Bf K w v r (.returned (.tuple #[])) w2):=by
    rw [iM.out,hpl]
    exact ⟨bD.out,rfl,HB2.out⟩
   refine hK.out _ _ (HS.out w2 v t1 qA.out HB2.out) (fun hHeld=>?_)
   clear hK hg2 hpl
   refine wpAnyH_done (by kernel_rfl) ?_ _
   go_wp2
   go_end0
   exact HE.out
end Sm
namespace Sm
theorem abT (K:BK)(me:Sy.Df)(d:Nat)(i:Nat)(hi:Hid (K.num=(i:Int)))(dE:Hid (K.l[i]?=some me))(_hB:Hid (rF K me d))(s:Sy.St)(xa ba ea:Option Addr)(xc bc ec:Nat)(v:Vars)(t:Tk)(n m m1:Nat)(w:World)(r:Except Int (Value × Vars × Tk))(h:Hid (BW K w v t))(hs:Hid (∃ h,cu K.B w h s xa ba ea))(hx1:Hid (Sy.aF d s.x (n+1)=.ok m1))(_htl:Hid (Sy.dN (Sy.aO d) s m1=.ok m))(ht:Hid (aT t n))(_hv:Hid (v.length≤n+10))(h2:n+1≤2000)
  (hr:Hid (r=andThen (stat K.l me (d+1) s v t) fun p=>.ok (.tuple #[],p.1,p.2)))
  (hk:s.kind=2) :
  Calls Tryz.prog 109 #[.pointer (some ⟨K.F,0,none⟩),l7 s xa xc ba bc ea ec] w fun e w'=>Bf K w v r e w':=by
 have hF:=h.out.lt
 obtain ⟨W0,hW0⟩:∃ W0,W0=w.alloc (bS s xa xc ba bc ea ec):=⟨_,rfl⟩
 have aM:Hid (af K w W0):=by rw [hW0];exact af.alloc K w _ hF
 have HB0:Hid (BW K W0 v t):=by rw [hW0];exact h.out.grown (bn _)
 have gM:Hid (W0.heap[w.heap.size]?=some (bS s xa xc ba bc ea ec)∧bA K W0 w.heap.size):=by rw [hW0];exact h.out.new _
 have aR:Hid (∃ h,aJ K.B W0 h s.x xa):=by
  obtain ⟨hh,hE⟩:=sU hs.out
  exact ⟨hh,hE.same (h.out.same aM.out)⟩
 have HW0:Hid (W0=_):=hW0
 have hC:=hid (jV K v me i hi dE d)
 have HT1:Hid (aT t (n+1)):=ht.out.mono (by omega)
 clear hW0
 have oC:Hid (Sy.runs (Sy.aF d) [s.x] (n+1)=.ok m1):=by unfold Hid;simp [Sy.runs,hx1.out]
 have jq:Hid (∃ hh,aJ K.B W0 hh s.x xa∧BW K W0 v t):=by
  obtain ⟨hh,hE⟩:=aR.out
  exact ⟨hh,hE,HB0.out⟩
 obtain ⟨rv,bf⟩:∃ rv:Except Int Value,rv=match Sm.known v s.name with | .ok y=>.ok (aQ y) | .error e=>.error e:=⟨_,rfl⟩
 have dV:Hid (rv=match Sm.known v s.name with | .ok y=>.ok (aQ y) | .error e=>.error e):=bf
 have ae:Hid (r=andThen (Sm.known v s.name) fun y=>andThen (must (expr K.l me v d) y [s.x] t) fun t=>.ok (.tuple #[],v,t)):=by
  unfold Hid
  rw [hr.out,stat,if_neg (by omega),if_pos hk]
  cases Sm.known v s.name with
  | error e=>rfl
  | ok y=>rw [andThen_ok,andThen_ok];cases must (expr K.l me v d) y [s.x] t <;> rfl
 have HS:Hid (∀ w',af K W0 w'→w'.cell? ⟨w.heap.size,1,none⟩=some (.string s.name)∧w'.cell? ⟨w.heap.size,2,none⟩=some (.int .i64 s.x.kind)∧w'.cell? ⟨w.heap.size,3,none⟩=some (.int .i64 s.x.n)∧w'.cell? ⟨w.heap.size,4,none⟩=some (.string s.x.name)∧w'.cell? ⟨w.heap.size,5,none⟩=some (.slice xa s.x.kids.length xc)):=fun w' hk=>by
  obtain ⟨_,g1,g2,g3,g4,g5,_,_⟩:=dQ (hk.at gM.out).1
  exact ⟨g1,g2,g3,g4,g5⟩
 have e1:(s.kind==1)=false:=by rw [hk];rfl
 have e2:(s.kind==2)=true:=by rw [hk];rfl
 clear hr hk bf
 go_enter Tryz.func109,Tryz.ntmps109
 go_wp2_with fail
 rw [← HW0.out]
 refine wp_region_held_drew (S:=fun w'=>w'.cell? ⟨w.heap.size,1,none⟩=some (.string s.name)∧w'.cell? ⟨w.heap.size,2,none⟩=some (.int .i64 s.x.kind)∧w'.cell? ⟨w.heap.size,3,none⟩=some (.int .i64 s.x.n)∧w'.cell? ⟨w.heap.size,4,none⟩=some (.string s.x.name)∧w'.cell? ⟨w.heap.size,5,none⟩=some (.slice xa s.x.kids.length xc)) (by kernel_rfl) (HS.out W0 (af.refl _ _)) (fun hHeld=>?_)
 refine tk 0 (v:=?_) rfl ?_ (by assumption) ?_
 rotate_left
 ·intro w hSw
  (try dsimp only at hSw)
  go_simp
  (try with_reducible rfl)
 (try go_frame)
 refine tk 1 (v:=?_) rfl ?_ (by assumption) ?_
 rotate_left
 ·intro w hSw
  (try dsimp only at hSw)
  go_simp
  (try with_reducible rfl)
 (try go_frame)
 refine tk 2 (v:=?_) rfl ?_ (by assumption) ?_
 rotate_left
 ·intro w hSw
  (try dsimp only at hSw)
  go_simp
  (try with_reducible rfl)
 (try go_frame)
 refine tk 3 (v:=?_) rfl ?_ (by assumption) ?_
 rotate_left
 ·intro w hSw
  (try dsimp only at hSw)
  go_simp
  (try with_reducible rfl)
 (try go_frame)
 refine tk 5 (v:=?_) rfl ?_ (by assumption) ?_
 rotate_left
 ·intro w hSw
  (try dsimp only at hSw)
  go_simp
  (try with_reducible rfl)
 (try go_frame)
 refine tk 6 (v:=?_) rfl ?_ (by assumption) ?_
 rotate_left
 ·intro w hSw
  (try dsimp only at hSw)
  go_simp
  (try with_reducible rfl)
 (try go_frame)
 refine wpAnyH_ready (rs:=[4,7]) (by kernel_rfl) (by simp) ?_
 refine AllReadyH.cons (o:=_) rfl (fun K' hK=>?_) (AllReadyH.cons (o:=_) rfl (fun K' hK=>?_) AllReadyH.nil)
 ·go_simp
  refine (Ji K v t s.name W0.drew rv (by exact HB0.out.drew) dV).mono ?_
  rintro e w1 ⟨hg1',he1⟩
  have hg1:W0.grownBy w1 none:=⟨hg1'.os,hg1'.tape,hg1'.output,hg1'.size,hg1'.block⟩
  clear hg1'
  have HB1:Hid (BW K w1 v t):=HB0.out.grown hg1
  have bP:Hid (af K W0 w1):=af.grown hg1 HB0.out.lt
  cases hkn:Sm.known v s.name with
  | error y =>
   have bf:rv=.error y:=by rw [dV.out,hkn]
   subst bf
   obtain rfl:=he1
   have HE:Hid (Bf K w v r (.panicked [aH y K.num]) w1):=by
    rw [ae.out,hkn]
    exact ⟨aM.out.trans bP.out,rfl,v,t,HB1.out,List.prefix_refl _⟩
   clear hK hg1 hkn
   go_wp2
   exact ⟨rfl,HE.out⟩
  | ok y =>
   have bf:rv=.ok (aQ y):=by rw [dV.out,hkn]
   subst bf
   obtain rfl:=he1
   obtain ⟨em,hem⟩:∃ em,em=must (expr K.l me v d) y [s.x] t:=⟨_,rfl⟩
   have l5:Hid (em=must (expr K.l me v d) y [s.x] t):=hem
   have jP:Hid (r=andThen em fun t=>.ok (.tuple #[],v,t)):=by unfold Hid;rw [ae.out,hkn,andThen_ok,hem]
   refine hK.out _ _ (HS.out w1 bP.out) (fun hHeld=>?_)
   clear hK hg1 hkn hem
   refine wpAnyH_ready (rs:=[7]) (by kernel_rfl) (by simp) ?_
   refine AllReadyH.cons (o:=_) rfl (fun K' hK=>?_) AllReadyH.nil
   go_simp
   have bD:Hid (af K W0 (w1.alloc (aj s.x xa xc))):=bP.out.trans (af.alloc K w1 _ HB1.out.lt)
   have HB2:Hid (BW K (w1.alloc (aj s.x xa xc)) v t):=HB1.out.grown (bn _)
   have sV:=hid (HB1.out.new (aj s.x xa xc))
   refine hK.out _ _ (HS.out _ bD.out) (fun hHeld=>?_)
   clear hK
   refine wpAnyH_ready (rs:=[8]) (by kernel_rfl) (by simp) ?_
   refine AllReadyH.cons (o:=_) rfl (fun K' hK=>?_) AllReadyH.nil
   go_simp
   refine (ng K v d (expr K.l me v d) hC (lF K.l me v d) [s.x] (some ⟨w1.heap.size,0,none⟩) 1 y t (n+1) m1 _ _ HB2 (rE HB2.out sV.out jq.out bD.out) (by simp) oC HT1 h2 (by rw [← l5.out];exact rfl)).mono ?_
   rintro e w9 ⟨bM,dG⟩
   have bQ:Hid (af K W0 w9):=bD.out.trans bM
   cases em with
   | error y =>
    obtain ⟨rfl,v2,t2,hb2,hp2⟩:=dG
    have HE:Hid (Bf K w v r (.panicked [aH y K.num]) w9):=by
     rw [jP.out]
     exact ⟨(aM.out.trans bQ.out),rfl,v2,t2,hb2,hp2⟩
    clear hK bM hb2 hp2
    go_wp2
    exact ⟨rfl,HE.out⟩
   | ok t2 =>
    obtain ⟨rfl,dD⟩:=dG
    have HE:Hid (Bf K w v r (.returned (.tuple #[])) w9):=by
     rw [jP.out]
     exact ⟨aM.out.trans bQ.out,rfl,dD⟩
    have fq:Hid (BW K w9 v t2):=dD
    refine hK.out _ _ (HS.out w9 bQ.out) (fun hHeld=>?_)
    clear hK bM dD hHeld
    refine wpAnyH_done (by kernel_rfl) ?_ _
    go_wp2
    go_end0
    exact HE.out
 ·go_simp
  have bP:Hid (af K W0 (W0.alloc (aj s.x xa xc)).drew):=(af.alloc K W0 _ HB0.out.lt).drew
  have HB1:Hid (BW K (W0.alloc (aj s.x xa xc)).drew v t):=(HB0.out.grown (bn _)).drew
  have kN:Hid ((W0.alloc (aj s.x xa xc)).drew.heap[W0.heap.size]?=some (aj s.x xa xc)∧bA K (W0.alloc (aj s.x xa xc)).drew W0.heap.size):=HB0.out.new _
  refine hK.out _ _ (HS.out _ bP.out) (fun hHeld=>?_)
  clear hK
  refine wpAnyH_ready (rs:=[4]) (by kernel_rfl) (by simp) ?_
  refine AllReadyH.cons (o:=_) rfl (fun K' hK=>?_) AllReadyH.nil
  go_simp
  refine (Ji K v t s.name _ rv HB1 dV).mono ?_
  rintro e w2 ⟨hg2,he1⟩
  have HB2:Hid (BW K w2 v t):=HB1.out.grown hg2
  have bD:Hid (af K W0 w2):=bP.out.trans (af.grown hg2 HB1.out.lt)
  have sV:=hid ((af.grown hg2 HB1.out.lt).at kN.out)
  cases hkn:Sm.known v s.name with
  | error y =>
   have bf:rv=.error y:=by rw [dV.out,hkn]
   subst bf
   obtain rfl:=he1
   have HE:Hid (Bf K w v r (.panicked [aH y K.num]) w2):=by
    rw [ae.out,hkn]
    exact ⟨aM.out.trans bD.out,rfl,v,t,HB2.out,List.prefix_refl _⟩
   clear hK hg2 hkn
   go_wp2
   exact ⟨rfl,HE.out⟩
  | ok y =>
   have bf:rv=.ok (aQ y):=by rw [dV.out,hkn]
   subst bf
   obtain rfl:=he1
   obtain ⟨em,hem⟩:∃ em,em=must (expr K.l me v d) y [s.x] t:=⟨_,rfl⟩
   have l5:Hid (em=must (expr K.l me v d) y [s.x] t):=hem
   have jP:Hid (r=andThen em fun t=>.ok (.tuple #[],v,t)):=by unfold Hid;rw [ae.out,hkn,andThen_ok,hem]
   refine hK.out _ _ (HS.out w2 bD.out) (fun hHeld=>?_)
   clear hK hg2 hkn hem
   refine wpAnyH_ready (rs:=[8]) (by kernel_rfl) (by simp) ?_
   refine AllReadyH.cons (o:=_) rfl (fun K' hK=>?_) AllReadyH.nil
   go_simp
   refine (ng K v d (expr K.l me v d) hC (lF K.l me v d) [s.x] (some ⟨W0.heap.size,0,none⟩) 1 y t (n+1) m1 _ _ HB2 (rE HB2.out sV.out jq.out bD.out) (by simp) oC HT1 h2 (by rw [← l5.out];exact rfl)).mono ?_
   rintro e w9 ⟨bM,dG⟩
   have bQ:Hid (af K W0 w9):=bD.out.trans bM
   cases em with
   | error y =>
    obtain ⟨rfl,v2,t2,hb2,hp2⟩:=dG
    have HE:Hid (Bf K w v r (.panicked [aH y K.num]) w9):=by
     rw [jP.out]
     exact ⟨(aM.out.trans bQ.out),rfl,v2,t2,hb2,hp2⟩
    clear hK bM hb2 hp2
    go_wp2
    exact ⟨rfl,HE.out⟩
   | ok t2 =>
    obtain ⟨rfl,dD⟩:=dG
    have HE:Hid (Bf K w v r (.returned (.tuple #[])) w9):=by
     rw [jP.out]
     exact ⟨aM.out.trans bQ.out,rfl,dD⟩
    have fq:Hid (BW K w9 v t2):=dD
    refine hK.out _ _ (HS.out w9 bQ.out) (fun hHeld=>?_)
    clear hK bM dD hHeld
    refine wpAnyH_done (by kernel_rfl) ?_ _
    go_wp2
    go_end0
    exact HE.out
theorem abU (K:BK)(me:Sy.Df)(d:Nat)(i:Nat)(hi:Hid (K.num=(i:Int)))(dE:Hid (K.l[i]?=some me))(_hB:Hid (rF K me d))(s:Sy.St)(xa ba ea:Option Addr)(xc bc ec:Nat)(v:Vars)(t:Tk)(n m m1:Nat)(w:World)(r:Except Int (Value × Vars × Tk))(h:Hid (BW K w v t))(hs:Hid (∃ h,cu K.B w h s xa ba ea))(hx1:Hid (Sy.aF d s.x (n+1)=.ok m1))(_htl:Hid (Sy.dN (Sy.aO d) s m1=.ok m))(ht:Hid (aT t n))(_hv:Hid (v.length≤n+10))(h2:n+1≤2000)
  (hr:Hid (r=andThen (stat K.l me (d+1) s v t) fun p=>.ok (.tuple #[],p.1,p.2)))
  (hk:s.kind=5) :
  Calls Tryz.prog 109 #[.pointer (some ⟨K.F,0,none⟩),l7 s xa xc ba bc ea ec] w fun e w'=>Bf K w v r e w':=by
 have hF:=h.out.lt
 obtain ⟨W0,hW0⟩:∃ W0,W0=w.alloc (bS s xa xc ba bc ea ec):=⟨_,rfl⟩
 have aM:Hid (af K w W0):=by rw [hW0];exact af.alloc K w _ hF
 have HB0:Hid (BW K W0 v t):=by rw [hW0];exact h.out.grown (bn _)
 have gM:Hid (W0.heap[w.heap.size]?=some (bS s xa xc ba bc ea ec)∧bA K W0 w.heap.size):=by rw [hW0];exact h.out.new _
 have aR:Hid (∃ h,aJ K.B W0 h s.x xa):=by
  obtain ⟨hh,hE⟩:=sU hs.out
  exact ⟨hh,hE.same (h.out.same aM.out)⟩
 have HW0:Hid (W0=_):=hW0
 have hC:=hid (jV K v me i hi dE d)
 have HT1:Hid (aT t (n+1)):=ht.out.mono (by omega)
 clear hW0
 have oC:Hid (Sy.runs (Sy.aF d) [s.x] (n+1)=.ok m1):=by unfold Hid;simp [Sy.runs,hx1.out]
 have jq:Hid (∃ hh,aJ K.B W0 hh s.x xa∧BW K W0 v t):=by
  obtain ⟨hh,hE⟩:=aR.out
  exact ⟨hh,hE,HB0.out⟩
 obtain ⟨em,hem⟩:∃ em,em=must (expr K.l me v d) me.ty [s.x] t:=⟨_,rfl⟩
 have l5:Hid (em=must (expr K.l me v d) me.ty [s.x] t):=hem
 have ae:Hid (r=andThen (fits (me.kind==2)) fun _=>andThen em fun t=>.ok (.tuple #[],v,t)):=by
  unfold Hid
  rw [hr.out,stat,if_neg (by omega),if_neg (by omega),if_neg (by omega),if_neg (by omega),if_pos hk,hem]
  cases fits (me.kind==2) with
  | error e=>rfl
  | ok u=>rw [andThen_ok,andThen_ok];cases must (expr K.l me v d) me.ty [s.x] t <;> rfl
 obtain ⟨o,sn,rr,cc,h4⟩:=h.out.rows
 obtain ⟨c0,c1,c2,_⟩:=fE h4.blk
 rw [hi.out] at c2
 have hB0:K.B≤W0.heap.size:=by have:=HB0.out.base;have:=HB0.out.lt;omega
 have HD0:Hid (dS K.B W0 K.l K.a):=HB0.out.fH
 have HS:Hid (∀ w' v' t',af K W0 w'→BW K w' v' t'→w'.cell? ⟨K.F,0,none⟩=some (.slice K.a K.l.length K.c)∧w'.cell? ⟨K.F,1,none⟩=some (.map (some K.M))∧w'.cell? ⟨K.F,2,none⟩=some (.int .i64 (i:Int))∧w'.cell? ⟨w.heap.size,2,none⟩=some (.int .i64 s.x.kind)∧w'.cell? ⟨w.heap.size,3,none⟩=some (.int .i64 s.x.n)∧w'.cell? ⟨w.heap.size,4,none⟩=some (.string s.x.name)∧w'.cell? ⟨w.heap.size,5,none⟩=some (.slice xa s.x.kids.length xc)):=fun w' v' t' hk hb=>by
  obtain ⟨_,g1,g2,g3,g4,g5,_,_⟩:=dQ (hk.at gM.out).1
  obtain ⟨o,sn,rr,cc,h4⟩:=hb.rows
  obtain ⟨d0,d1,d2,_⟩:=fE h4.blk
  rw [hi.out] at d2
  exact ⟨d0,d1,d2,g2,g3,g4,g5⟩
 have e1:(s.kind==1)=false:=by rw [hk];rfl
 have e2:(s.kind==2)=false:=by rw [hk];rfl
 have e3:(s.kind==3)=false:=by rw [hk];rfl
 have e4:(s.kind==4)=false:=by rw [hk];rfl
 have e5:(s.kind==5)=true:=by rw [hk];rfl
 clear hr h4 hk hem
 go_enter Tryz.func109,Tryz.ntmps109
 go_wp2_with fail
 rw [← HW0.out]
 refine (nN K.B K.l K.a K.c K.M i me W0 HD0 hB0 dE).mono ?_
 rintro e w1 ⟨hg1,val,rfl,pa,pc,ba',bc',rfl,hdf⟩
 have ax:Hid (W0.grownBy w1 none):=hg1
 have HB1:Hid (BW K w1 v t):=HB0.out.grown hg1
 have Eg:=JF me pa pc ba' bc' w1
 obtain ⟨o',uP,rr',cc',h4⟩:=HB1.out.rows
 have H4:Hid (w1.heap[K.F]?=some (K.obj o' uP rr' cc')):=h4.blk
 obtain ⟨bk,hbk⟩:∃ bk,bk=(me.kind==2):=⟨_,rfl⟩
 have uQ:Hid (bk=(me.kind==2)):=hbk
 have hbk':=hbk.symm
 obtain ⟨rf,hrf⟩:∃ rf:Except Int Value,rf=match Sm.fits bk with | .ok _=>.ok (.tuple #[]) | .error e=>.error e:=⟨_,rfl⟩
 have mG:Hid (rf=match Sm.fits bk with | .ok _=>.ok (.tuple #[]) | .error e=>.error e):=hrf
 clear hg1 hdf h4 hbk hrf
 go_wp2_with fail
 refine (Jh K.F K.l.length K.a K.c K.M K.num K.T o' uP rr' cc' bk w1 rf H4 mG).mono ?_
 rintro e w2 ⟨hg2,he2⟩
 have HG2:Hid (w1.grownBy w2 none):=hg2
 have qA:Hid (af K W0 w2):=(af.grown ax.out HB0.out.lt).trans (af.grown hg2 HB1.out.lt)
 have bD:Hid (af K w w2):=aM.out.trans qA.out
 have HB2:Hid (BW K w2 v t):=HB1.out.grown hg2
 cases bk with
 | false =>
  have hrf:rf=.error 8:=mG.out
  subst hrf
  obtain rfl:=he2
  have HE:Hid (Bf K w v r (.panicked [aH 8 K.num]) w2):=by
   rw [ae.out,← uQ.out]
   exact ⟨bD.out,rfl,v,t,HB2.out,List.prefix_refl _⟩
  clear hg2
  go_wp2
  exact ⟨rfl,HE.out⟩
 | true =>
  have hrf:rf=.ok (.tuple #[]):=mG.out
  subst hrf
  obtain rfl:=he2
  have jP:Hid (r=andThen em fun t=>.ok (.tuple #[],v,t)):=by unfold Hid;rw [ae.out,← uQ.out];rfl
  obtain ⟨d0,d1,d2,_⟩:=HS.out w2 v t qA.out HB2.out
  have hF2:=HB2.out.lt
  have hB2:K.B≤w2.heap.size:=by have:=HB2.out.base;omega
  clear hg2 Eg c0 c1 c2
  go_wp2_with fail
  refine wp_region_held_drew (S:=fun w'=>w'.cell? ⟨K.F,0,none⟩=some (.slice K.a K.l.length K.c)∧w'.cell? ⟨K.F,1,none⟩=some (.map (some K.M))∧w'.cell? ⟨K.F,2,none⟩=some (.int .i64 (i:Int))∧w'.cell? ⟨w.heap.size,2,none⟩=some (.int .i64 s.x.kind)∧w'.cell? ⟨w.heap.size,3,none⟩=some (.int .i64 s.x.n)∧w'.cell? ⟨w.heap.size,4,none⟩=some (.string s.x.name)∧w'.cell? ⟨w.heap.size,5,none⟩=some (.slice xa s.x.kids.length xc)) (by kernel_rfl) (HS.out w2 v t qA.out HB2.out) (fun hHeld=>?_)
  refine tk 0 (v:=?_) rfl ?_ (by assumption) ?_
  rotate_left
  ·intro w hSw
   (try dsimp only at hSw)
   go_simp
   (try with_reducible rfl)
  (try go_frame)
  refine tk 1 (v:=?_) rfl ?_ (by assumption) ?_
  rotate_left
  ·intro w hSw
   (try dsimp only at hSw)
   go_simp
   (try with_reducible rfl)
  (try go_frame)
  refine tk 2 (v:=?_) rfl ?_ (by assumption) ?_
  rotate_left
  ·intro w hSw
   (try dsimp only at hSw)
   go_simp
   (try with_reducible rfl)
  (try go_frame)
  refine tk 3 (v:=?_) rfl ?_ (by assumption) ?_
  rotate_left
  ·intro w hSw
   (try dsimp only at hSw)
   go_simp
   (try with_reducible rfl)
  (try go_frame)
  refine tk 4 (v:=?_) rfl ?_ (by assumption) ?_
  rotate_left
  ·intro w hSw
   (try dsimp only at hSw)
   go_simp
   (try with_reducible rfl)
  (try go_frame)
  refine tk 7 (v:=?_) rfl ?_ (by assumption) ?_
  rotate_left
  ·intro w hSw
   (try dsimp only at hSw)
   go_simp
   (try with_reducible rfl)
  (try go_frame)
  refine tk 8 (v:=?_) rfl ?_ (by assumption) ?_
  rotate_left
  ·intro w hSw
   (try dsimp only at hSw)
   go_simp
   (try with_reducible rfl)
  (try go_frame)
  refine wpAnyH_ready (rs:=[5,9]) (by kernel_rfl) (by simp) ?_
  refine AllReadyH.cons (o:=_) rfl (fun K' hK=>?_) (AllReadyH.cons (o:=_) rfl (fun K' hK=>?_) AllReadyH.nil)
  ·go_simp
   refine (nN K.B K.l K.a K.c K.M i me w2.drew (by exact HB2.out.drew.fH) (by exact hB2) dE).mono ?_
   rintro e w3 ⟨hg3',val,rfl,pa',pc',JX,bc2,rfl,qy⟩
   have hg3:w2.grownBy w3 none:=⟨hg3'.os,hg3'.tape,hg3'.output,hg3'.size,hg3'.block⟩
   have fe:Hid (af K W0 w3):=qA.out.trans (af.grown hg3 HB2.out.lt)
   have HB3:Hid (BW K w3 v t):=HB2.out.grown hg3
   refine hK.out _ _ (HS.out w3 v t fe.out HB3.out) (fun hHeld=>?_)
   have JI:=fun w=>Bt me pa' pc' JX bc2 w
   clear hK hg3' qy hg3
   refine tk 6 (v:=?_) rfl ?_ (by assumption) ?_
   rotate_left
   ·intro w hSw
    (try dsimp only at hSw)
    go_simp
    (try with_reducible rfl)
   (try go_frame)
   refine wpAnyH_ready (rs:=[9]) (by kernel_rfl) (by simp) ?_
   refine AllReadyH.cons (o:=_) rfl (fun K' hK=>?_) AllReadyH.nil
   go_simp
   have ji:Hid (af K W0 (w3.alloc (aj s.x xa xc))):=fe.out.trans (af.alloc K w3 _ HB3.out.lt)
   have iy:Hid (BW K (w3.alloc (aj s.x xa xc)) v t):=HB3.out.grown (bn _)
   have qh:=hid (HB3.out.new (aj s.x xa xc))
   refine hK.out _ _ (HS.out _ v t ji.out iy.out) (fun hHeld=>?_)
   clear hK
   refine wpAnyH_ready (rs:=[10]) (by kernel_rfl) (by simp) ?_
   refine AllReadyH.cons (o:=_) rfl (fun K' hK=>?_) AllReadyH.nil
   go_simp
   refine (ng K v d (expr K.l me v d) hC (lF K.l me v d) [s.x] (some ⟨w3.heap.size,0,none⟩) 1 me.ty t (n+1) m1 _ _ iy (rE iy.out qh.out jq.out ji.out) (by simp) oC HT1 h2 (by rw [← l5.out];exact rfl)).mono ?_
   rintro e w9 ⟨bM,dG⟩
   have bQ:Hid (af K W0 w9):=ji.out.trans bM
   cases em with
   | error y =>
    obtain ⟨rfl,v2,t2,hb2,hp2⟩:=dG
    have HE:Hid (Bf K w v r (.panicked [aH y K.num]) w9):=by
     rw [jP.out]
     exact ⟨(aM.out.trans bQ.out),rfl,v2,t2,hb2,hp2⟩
    clear hK bM hb2 hp2
    go_wp2
    exact ⟨rfl,HE.out⟩
   | ok t2 =>
    obtain ⟨rfl,dD⟩:=dG
    have HE:Hid (Bf K w v r (.returned (.tuple #[])) w9):=by
     rw [jP.out]
     exact ⟨aM.out.trans bQ.out,rfl,dD⟩
    have fq:Hid (BW K w9 v t2):=dD
    refine hK.out _ _ (HS.out w9 v t2 bQ.out fq.out) (fun hHeld=>?_)
    clear hK bM dD hHeld
    refine wpAnyH_done (by kernel_rfl) ?_ _
    go_wp2
    go_end0
    exact HE.out
  ·go_simp
   have fe:Hid (af K w2 (w2.alloc (aj s.x xa xc)).drew):=(af.alloc K w2 _ HB2.out.lt).drew
   have HB3:Hid (BW K (w2.alloc (aj s.x xa xc)).drew v t):=(HB2.out.grown (bn _)).drew
   have vo:Hid ((w2.alloc (aj s.x xa xc)).drew.heap[w2.heap.size]?=some (aj s.x xa xc)∧bA K (w2.alloc (aj s.x xa xc)).drew w2.heap.size):=HB2.out.new _
   refine hK.out _ _ (HS.out _ v t (qA.out.trans fe.out) HB3.out) (fun hHeld=>?_)
   clear hK
   refine wpAnyH_ready (rs:=[5]) (by kernel_rfl) (by simp) ?_
   refine AllReadyH.cons (o:=_) rfl (fun K' hK=>?_) AllReadyH.nil
   go_simp
   refine (nN K.B K.l K.a K.c K.M i me _ (by exact HB3.out.fH) (by simp;omega) dE).mono ?_
   rintro e w3 ⟨hg3,val,rfl,pa',pc',JX,bc2,rfl,qy⟩
   have ji:Hid (af K W0 w3):=(qA.out.trans fe.out).trans (af.grown hg3 HB3.out.lt)
   have iy:Hid (BW K w3 v t):=HB3.out.grown hg3
   have qh:=hid ((af.grown hg3 HB3.out.lt).at vo.out)
   have JI:=fun w=>Bt me pa' pc' JX bc2 w
   refine hK.out _ _ (HS.out _ v t ji.out iy.out) (fun hHeld=>?_)
   clear hK hg3 qy
   refine tk 6 (v:=?_) rfl ?_ (by assumption) ?_
   rotate_left
   ·intro w hSw
    (try dsimp only at hSw)
    go_simp
    (try with_reducible rfl)
   (try go_frame)
   refine wpAnyH_ready (rs:=[10]) (by kernel_rfl) (by simp) ?_
   refine AllReadyH.cons (o:=_) rfl (fun K' hK=>?_) AllReadyH.nil
   go_simp
   refine (ng K v d (expr K.l me v d) hC (lF K.l me v d) [s.x] (some ⟨w2.heap.size,0,none⟩) 1 me.ty t (n+1) m1 _ _ iy (rE iy.out qh.out jq.out ji.out) (by simp) oC HT1 h2 (by rw [← l5.out];exact rfl)).mono ?_
   rintro e w9 ⟨bM,dG⟩
   have bQ:Hid (af K W0 w9):=ji.out.trans bM
   cases em with
   | error y =>
    obtain ⟨rfl,v2,t2,hb2,hp2⟩:=dG
    have HE:Hid (Bf K w v r (.panicked [aH y K.num]) w9):=by
     rw [jP.out]
     exact ⟨(aM.out.trans bQ.out),rfl,v2,t2,hb2,hp2⟩
    clear hK bM hb2 hp2
    go_wp2
    exact ⟨rfl,HE.out⟩
   | ok t2 =>
    obtain ⟨rfl,dD⟩:=dG
    have HE:Hid (Bf K w v r (.returned (.tuple #[])) w9):=by
     rw [jP.out]
     exact ⟨aM.out.trans bQ.out,rfl,dD⟩
    have fq:Hid (BW K w9 v t2):=dD
    refine hK.out _ _ (HS.out w9 v t2 bQ.out fq.out) (fun hHeld=>?_)
    clear hK bM dD hHeld
    refine wpAnyH_done (by kernel_rfl) ?_ _
    go_wp2
    go_end0
    exact HE.out
end Sm
namespace Sm
theorem RA {B:Nat}{w:World}{s:Sy.St}{xa ba ea:Option Addr}(h:∃ h,cu B w h s xa ba ea):∃ h,lJ B w (cu B w h) s.body ba:=by
 obtain ⟨hh,hs⟩:=h
 cases hh with
 | zero=>exact hs.elim
 | succ hh=>exact ⟨hh,hs.2.2.2.2.1⟩
theorem abV {B:Nat}{w:World}{s:Sy.St}{xa ba ea:Option Addr}(h:∃ h,cu B w h s xa ba ea):∃ h,lJ B w (cu B w h) s.els ea:=by
 obtain ⟨hh,hs⟩:=h
 cases hh with
 | zero=>exact hs.elim
 | succ hh=>exact ⟨hh,hs.2.2.2.2.2⟩
theorem abW (K:BK)(me:Sy.Df)(d:Nat)(i:Nat)(hi:Hid (K.num=(i:Int)))(dE:Hid (K.l[i]?=some me))(hB:Hid (rF K me d))(s:Sy.St)(xa ba ea:Option Addr)(xc bc ec:Nat)(v:Vars)(t:Tk)(n m m1:Nat)(w:World)(r:Except Int (Value × Vars × Tk))(h:Hid (BW K w v t))(hs:Hid (∃ h,cu K.B w h s xa ba ea))(hx1:Hid (Sy.aF d s.x (n+1)=.ok m1))(htl:Hid (Sy.dN (Sy.aO d) s m1=.ok m))(ht:Hid (aT t n))(hv:Hid (v.length≤n+10))(h2:n+1≤2000)
  (hr:Hid (r=andThen (stat K.l me (d+1) s v t) fun p=>.ok (.tuple #[],p.1,p.2)))
  (hk:s.kind=4) :
  Calls Tryz.prog 109 #[.pointer (some ⟨K.F,0,none⟩),l7 s xa xc ba bc ea ec] w fun e w'=>Bf K w v r e w':=by
 have hF:=h.out.lt
 obtain ⟨W0,hW0⟩:∃ W0,W0=w.alloc (bS s xa xc ba bc ea ec):=⟨_,rfl⟩
 have aM:Hid (af K w W0):=by rw [hW0];exact af.alloc K w _ hF
 have HB0:Hid (BW K W0 v t):=by rw [hW0];exact h.out.grown (bn _)
 have gM:Hid (W0.heap[w.heap.size]?=some (bS s xa xc ba bc ea ec)∧bA K W0 w.heap.size):=by rw [hW0];exact h.out.new _
 have aR:Hid (∃ h,aJ K.B W0 h s.x xa):=by
  obtain ⟨hh,hE⟩:=sU hs.out
  exact ⟨hh,hE.same (h.out.same aM.out)⟩
 have HW0:Hid (W0=_):=hW0
 have hC:=hid (jV K v me i hi dE d)
 have HT1:Hid (aT t (n+1)):=ht.out.mono (by omega)
 clear hW0
 have oC:Hid (Sy.runs (Sy.aF d) [s.x] (n+1)=.ok m1):=by unfold Hid;simp [Sy.runs,hx1.out]
 have jq:Hid (∃ hh,aJ K.B W0 hh s.x xa∧BW K W0 v t):=by
  obtain ⟨hh,hE⟩:=aR.out
  exact ⟨hh,hE,HB0.out⟩
 obtain ⟨em,hem⟩:∃ em,em=must (expr K.l me v d) gH [s.x] t:=⟨_,rfl⟩
 have l5:Hid (em=must (expr K.l me v d) gH [s.x] t):=hem
 have ae:Hid (r=andThen em fun t=>andThen (inner (stat K.l me d) s.body v t) fun t=>.ok (.tuple #[],v,t)):=by
  unfold Hid
  rw [hr.out,stat,if_neg (by omega),if_neg (by omega),if_neg (by omega),if_pos hk,hem]
  cases must (expr K.l me v d) gH [s.x] t with
  | error e=>rfl
  | ok t1=>rw [andThen_ok,andThen_ok];cases inner (stat K.l me d) s.body v t1 <;> rfl
 have e1:(s.kind==1)=false:=by rw [hk];rfl
 have e2:(s.kind==2)=false:=by rw [hk];rfl
 have e3:(s.kind==3)=false:=by rw [hk];rfl
 have e4:(s.kind==4)=true:=by rw [hk];rfl
 have uT:=hid (JQ htl.out hk)
 obtain ⟨hgb,g0,g1,g2,g3⟩:=h.out.ja.2
 have Ei:1<w.heap.size:=by have:=h.out.base;omega
 have Ej:0<w.heap.size:=by omega
 have hs0:W0.heap.size=w.heap.size+1:=by rw [HW0.out];simp
 have bP:Hid (af K W0 (W0.alloc (aj s.x xa xc))):=af.alloc K W0 _ HB0.out.lt
 have HB1:Hid (BW K (W0.alloc (aj s.x xa xc)) v t):=HB0.out.grown (bn _)
 have kN:Hid ((W0.alloc (aj s.x xa xc)).heap[w.heap.size+1]?=some (aj s.x xa xc)∧bA K (W0.alloc (aj s.x xa xc)) (w.heap.size+1)):=by rw [← hs0];exact HB0.out.new _
 have hm1:m1≤2000:=Sy.jw d s.x (n+1) m1 h2 hx1.out
 have hn1:n+1≤m1:=uN d s.x (n+1) m1 hx1.out
 have kU:Hid (v.length≤m1+10):=by have:=hv.out;unfold Hid;omega
 clear hr hk hem hs0
 go_enter Tryz.func109,Tryz.ntmps109
 go_wp2_with fail
 rw [← HW0.out]
 refine (ng K v d (expr K.l me v d) hC (lF K.l me v d) [s.x] (some ⟨w.heap.size+1,0,none⟩) 1 gH t (n+1) m1 _ _ HB1 (rE HB1.out kN.out jq.out bP.out) (by simp) oC HT1 h2 (by rw [← l5.out];exact rfl)).mono ?_
 rintro e w2 ⟨hk2,he2⟩
 have bD:Hid (af K W0 w2):=bP.out.trans hk2
 clear hk2
 cases em with
 | error y =>
  obtain ⟨rfl,v2,t2,hb2,hp2⟩:=he2
  have HE:Hid (Bf K w v r (.panicked [aH y K.num]) w2):=by
   rw [ae.out]
   exact ⟨(aM.out.trans bD.out),rfl,v2,t2,hb2,hp2⟩
  clear  hb2 hp2
  go_wp2
  exact ⟨rfl,HE.out⟩
 | ok t1 =>
  obtain ⟨rfl,hb2⟩:=he2
  have HB2:Hid (BW K w2 v t1):=hb2
  have HT2:Hid (aT t1 m1):=oZ (lF K.l me v d) gH [s.x] t (n+1) m1 t1 oC.out HT1.out l5.out.symm
  obtain ⟨eb,mH⟩:∃ eb,eb=inner (stat K.l me d) s.body v t1:=⟨_,rfl⟩
  have En:Hid (eb=inner (stat K.l me d) s.body v t1):=mH
  have JY:Hid (∃ h,lJ K.B w2 (cu K.B w2 h) s.body ba):=by
   obtain ⟨hh,hR⟩:=RA hs.out
   have hsm:=h.out.same (aM.out.trans bD.out)
   exact ⟨hh,hR.same hsm (fun s x b e=>cu.same hsm hh s x b e)⟩
  obtain ⟨_,_,_,_,_,_,g6,g7⟩:=dQ ((bD.out).at gM.out).1
  have qB:Hid (r=andThen eb fun t=>.ok (.tuple #[],v,t)):=by unfold Hid;rw [ae.out,andThen_ok,mH]
  clear hb2 mH g0 g1 g2 g3
  go_wp2_with fail
  refine (hB.out s.body ba bc v t1 m1 m w2 _ HB2 JY uT HT2 kU hm1 (by rw [← En.out];exact rfl)).mono ?_
  rintro e w3 ⟨hk3,fG⟩
  have fe:Hid (af K w w3):=(aM.out.trans bD.out).trans hk3
  clear hk3
  cases eb with
  | error y =>
   obtain ⟨rfl,v2,t2,hb2,hp2⟩:=fG
   have HE:Hid (Bf K w v r (.panicked [aH y K.num]) w3):=by
    rw [qB.out]
    exact ⟨fe.out,rfl,v2,t2,hb2,hp2⟩
   clear  hb2 hp2
   go_wp2
   exact ⟨rfl,HE.out⟩
  | ok t2 =>
   obtain ⟨rfl,hb3⟩:=fG
   have HE:Hid (Bf K w v r (.returned (.tuple #[])) w3):=by
    rw [qB.out]
    exact ⟨fe.out,rfl,hb3⟩
   clear hb3
   go_wp2
   go_end0
   exact HE.out
theorem abX (K:BK)(me:Sy.Df)(d:Nat)(i:Nat)(hi:Hid (K.num=(i:Int)))(dE:Hid (K.l[i]?=some me))(hB:Hid (rF K me d))(s:Sy.St)(xa ba ea:Option Addr)(xc bc ec:Nat)(v:Vars)(t:Tk)(n m m1:Nat)(w:World)(r:Except Int (Value × Vars × Tk))(h:Hid (BW K w v t))(hs:Hid (∃ h,cu K.B w h s xa ba ea))(hx1:Hid (Sy.aF d s.x (n+1)=.ok m1))(htl:Hid (Sy.dN (Sy.aO d) s m1=.ok m))(ht:Hid (aT t n))(hv:Hid (v.length≤n+10))(h2:n+1≤2000)
  (hr:Hid (r=andThen (stat K.l me (d+1) s v t) fun p=>.ok (.tuple #[],p.1,p.2)))
  (hk:s.kind=3) :
  Calls Tryz.prog 109 #[.pointer (some ⟨K.F,0,none⟩),l7 s xa xc ba bc ea ec] w fun e w'=>Bf K w v r e w':=by
 have hF:=h.out.lt
 obtain ⟨W0,hW0⟩:∃ W0,W0=w.alloc (bS s xa xc ba bc ea ec):=⟨_,rfl⟩
 have aM:Hid (af K w W0):=by rw [hW0];exact af.alloc K w _ hF
 have HB0:Hid (BW K W0 v t):=by rw [hW0];exact h.out.grown (bn _)
 have gM:Hid (W0.heap[w.heap.size]?=some (bS s xa xc ba bc ea ec)∧bA K W0 w.heap.size):=by rw [hW0];exact h.out.new _
 have aR:Hid (∃ h,aJ K.B W0 h s.x xa):=by
  obtain ⟨hh,hE⟩:=sU hs.out
  exact ⟨hh,hE.same (h.out.same aM.out)⟩
 have HW0:Hid (W0=_):=hW0
 have hC:=hid (jV K v me i hi dE d)
 have HT1:Hid (aT t (n+1)):=ht.out.mono (by omega)
 clear hW0
 have oC:Hid (Sy.runs (Sy.aF d) [s.x] (n+1)=.ok m1):=by unfold Hid;simp [Sy.runs,hx1.out]
 have jq:Hid (∃ hh,aJ K.B W0 hh s.x xa∧BW K W0 v t):=by
  obtain ⟨hh,hE⟩:=aR.out
  exact ⟨hh,hE,HB0.out⟩
 obtain ⟨em,hem⟩:∃ em,em=must (expr K.l me v d) gH [s.x] t:=⟨_,rfl⟩
 have l5:Hid (em=must (expr K.l me v d) gH [s.x] t):=hem
 have ae:Hid (r=andThen em fun t=>andThen (inner (stat K.l me d) s.body v t) fun t=>andThen (inner (stat K.l me d) s.els v t) fun t=>.ok (.tuple #[],v,t)):=by
  unfold Hid
  rw [hr.out,stat,if_neg (by omega),if_neg (by omega),if_pos hk,hem]
  cases must (expr K.l me v d) gH [s.x] t with
  | error e=>rfl
  | ok t1 =>
   rw [andThen_ok,andThen_ok]
   cases inner (stat K.l me d) s.body v t1 with
   | error e=>rfl
   | ok t2=>rw [andThen_ok,andThen_ok];cases inner (stat K.l me d) s.els v t2 <;> rfl
 have e1:(s.kind==1)=false:=by rw [hk];rfl
 have e2:(s.kind==2)=false:=by rw [hk];rfl
 have e3:(s.kind==3)=true:=by rw [hk];rfl
 obtain ⟨m2,BB,RB⟩:=JR htl.out hk
 have uT:=hid BB
 have abY:=hid RB
 clear BB RB
 obtain ⟨hgb,g0,g1,g2,g3⟩:=h.out.ja.2
 have Ei:1<w.heap.size:=by have:=h.out.base;omega
 have Ej:0<w.heap.size:=by omega
 have hs0:W0.heap.size=w.heap.size+1:=by rw [HW0.out];simp
 have bP:Hid (af K W0 (W0.alloc (aj s.x xa xc))):=af.alloc K W0 _ HB0.out.lt
 have HB1:Hid (BW K (W0.alloc (aj s.x xa xc)) v t):=HB0.out.grown (bn _)
 have kN:Hid ((W0.alloc (aj s.x xa xc)).heap[w.heap.size+1]?=some (aj s.x xa xc)∧bA K (W0.alloc (aj s.x xa xc)) (w.heap.size+1)):=by rw [← hs0];exact HB0.out.new _
 have hm1:m1≤2000:=Sy.jw d s.x (n+1) m1 h2 hx1.out
 have hn1:n+1≤m1:=uN d s.x (n+1) m1 hx1.out
 have kU:Hid (v.length≤m1+10):=by have:=hv.out;unfold Hid;omega
 clear hr hk hem hs0
 go_enter Tryz.func109,Tryz.ntmps109
 go_wp2_with fail
 rw [← HW0.out]
 refine (ng K v d (expr K.l me v d) hC (lF K.l me v d) [s.x] (some ⟨w.heap.size+1,0,none⟩) 1 gH t (n+1) m1 _ _ HB1 (rE HB1.out kN.out jq.out bP.out) (by simp) oC HT1 h2 (by rw [← l5.out];exact rfl)).mono ?_
 rintro e w2 ⟨hk2,he2⟩
 have bD:Hid (af K W0 w2):=bP.out.trans hk2
 clear hk2
 cases em with
 | error y =>
  obtain ⟨rfl,v2,t2,hb2,hp2⟩:=he2
  have HE:Hid (Bf K w v r (.panicked [aH y K.num]) w2):=by
   rw [ae.out]
   exact ⟨(aM.out.trans bD.out),rfl,v2,t2,hb2,hp2⟩
  clear  hb2 hp2
  go_wp2
  exact ⟨rfl,HE.out⟩
 | ok t1 =>
  obtain ⟨rfl,hb2⟩:=he2
  have HB2:Hid (BW K w2 v t1):=hb2
  have HT2:Hid (aT t1 m1):=oZ (lF K.l me v d) gH [s.x] t (n+1) m1 t1 oC.out HT1.out l5.out.symm
  obtain ⟨eb,mH⟩:∃ eb,eb=inner (stat K.l me d) s.body v t1:=⟨_,rfl⟩
  have En:Hid (eb=inner (stat K.l me d) s.body v t1):=mH
  have JY:Hid (∃ h,lJ K.B w2 (cu K.B w2 h) s.body ba):=by
   obtain ⟨hh,hR⟩:=RA hs.out
   have hsm:=h.out.same (aM.out.trans bD.out)
   exact ⟨hh,hR.same hsm (fun s x b e=>cu.same hsm hh s x b e)⟩
  obtain ⟨_,_,_,_,_,_,g6,g7⟩:=dQ ((bD.out).at gM.out).1
  have qB:Hid (r=andThen eb fun t=>andThen (inner (stat K.l me d) s.els v t) fun t=>.ok (.tuple #[],v,t)):=by unfold Hid;rw [ae.out,andThen_ok,mH]
  clear hb2 mH g0 g1 g2 g3
  go_wp2_with fail
  refine (hB.out s.body ba bc v t1 m1 m2 w2 _ HB2 JY uT HT2 kU hm1 (by rw [← En.out];exact rfl)).mono ?_
  rintro e w3 ⟨hk3,fG⟩
  have lH:Hid (af K W0 w3):=bD.out.trans hk3
  clear hk3
  cases eb with
  | error y =>
   obtain ⟨rfl,v2,t2,hb2,hp2⟩:=fG
   have HE:Hid (Bf K w v r (.panicked [aH y K.num]) w3):=by
    rw [qB.out]
    exact ⟨(aM.out.trans lH.out),rfl,v2,t2,hb2,hp2⟩
   clear  hb2 hp2
   go_wp2
   exact ⟨rfl,HE.out⟩
  | ok t2 =>
   obtain ⟨rfl,hb3⟩:=fG
   have HB3:Hid (BW K w3 v t2):=hb3
   have HT3:Hid (aT t2 m2):=Bz (Em K.l me d) uT.out HT2.out En.out.symm
   have hm2:m2≤2000:=Sy.o8 (fun a n m=>Sy.nJ d a n m) hm1 uT.out
   have HV2:Hid (v.length≤m2+10):=by
    have h1:=kU.out
    have h2:=uM (fun a n m h=>by have:=JS d a n m h;omega) s.body m1 m2 (El uT.out).2
    unfold Hid
    omega
   clear g6 g7
   obtain ⟨JZ,J2⟩:∃ eb,eb=inner (stat K.l me d) s.els v t2:=⟨_,rfl⟩
   have ab0:Hid (JZ=inner (stat K.l me d) s.els v t2):=J2
   have ab1:Hid (∃ h,lJ K.B w3 (cu K.B w3 h) s.els ea):=by
    obtain ⟨hh,hR⟩:=abV hs.out
    have hsm:=h.out.same (aM.out.trans lH.out)
    exact ⟨hh,hR.same hsm (fun s x b e=>cu.same hsm hh s x b e)⟩
   obtain ⟨_,_,_,_,_,_,g6,g7⟩:=dQ ((lH.out).at gM.out).1
   have RF:Hid (r=andThen JZ fun t=>.ok (.tuple #[],v,t)):=by unfold Hid;rw [qB.out,andThen_ok,J2]
   clear hb3 J2
   go_wp2_with fail
   refine (hB.out s.els ea ec v t2 m2 m w3 _ HB3 ab1 abY HT3 HV2 hm2 (by rw [← ab0.out];exact rfl)).mono ?_
   rintro e w4 ⟨hk4,jr⟩
   have ji:Hid (af K w w4):=(aM.out.trans lH.out).trans hk4
   clear hk4
   cases JZ with
   | error y =>
    obtain ⟨rfl,v2,t2,hb2,hp2⟩:=jr
    have HE:Hid (Bf K w v r (.panicked [aH y K.num]) w4):=by
     rw [RF.out]
     exact ⟨ji.out,rfl,v2,t2,hb2,hp2⟩
    clear  hb2 hp2
    go_wp2
    exact ⟨rfl,HE.out⟩
   | ok t3 =>
    obtain ⟨rfl,hb4⟩:=jr
    have HE:Hid (Bf K w v r (.returned (.tuple #[])) w4):=by
     rw [RF.out]
     exact ⟨ji.out,rfl,hb4⟩
    clear hb4
    go_wp2
    go_end0
    exact HE.out
end Sm
namespace Sm
theorem ab2 (K:BK)(me:Sy.Df)(d:Nat)(i:Nat)(hi:Hid (K.num=(i:Int)))(dE:Hid (K.l[i]?=some me))(_hB:Hid (rF K me d))(s:Sy.St)(xa ba ea:Option Addr)(xc bc ec:Nat)(v:Vars)(t:Tk)(n m m1:Nat)(w:World)(r:Except Int (Value × Vars × Tk))(h:Hid (BW K w v t))(hs:Hid (∃ h,cu K.B w h s xa ba ea))(hx1:Hid (Sy.aF d s.x (n+1)=.ok m1))(_htl:Hid (Sy.dN (Sy.aO d) s m1=.ok m))(ht:Hid (aT t n))(_hv:Hid (v.length≤n+10))(h2:n+1≤2000)
  (hr:Hid (r=andThen (stat K.l me (d+1) s v t) fun p=>.ok (.tuple #[],p.1,p.2)))
  (hk:s.kind=7) :
  Calls Tryz.prog 109 #[.pointer (some ⟨K.F,0,none⟩),l7 s xa xc ba bc ea ec] w fun e w'=>Bf K w v r e w':=by
 have hF:=h.out.lt
 obtain ⟨W0,hW0⟩:∃ W0,W0=w.alloc (bS s xa xc ba bc ea ec):=⟨_,rfl⟩
 have aM:Hid (af K w W0):=by rw [hW0];exact af.alloc K w _ hF
 have HB0:Hid (BW K W0 v t):=by rw [hW0];exact h.out.grown (bn _)
 have gM:Hid (W0.heap[w.heap.size]?=some (bS s xa xc ba bc ea ec)∧bA K W0 w.heap.size):=by rw [hW0];exact h.out.new _
 have aR:Hid (∃ h,aJ K.B W0 h s.x xa):=by
  obtain ⟨hh,hE⟩:=sU hs.out
  exact ⟨hh,hE.same (h.out.same aM.out)⟩
 have HW0:Hid (W0=_):=hW0
 have hC:=hid (jV K v me i hi dE d)
 have HT1:Hid (aT t (n+1)):=ht.out.mono (by omega)
 clear hW0
 have oC:Hid (Sy.runs (Sy.aF d) [s.x] (n+1)=.ok m1):=by unfold Hid;simp [Sy.runs,hx1.out]
 have jq:Hid (∃ hh,aJ K.B W0 hh s.x xa∧BW K W0 v t):=by
  obtain ⟨hh,hE⟩:=aR.out
  exact ⟨hh,hE,HB0.out⟩
 obtain ⟨wr,hwr⟩:∃ wr,wr=Sm.want K.l 1 s.name:=⟨_,rfl⟩
 have sQ:Hid (wr=Sm.want K.l 1 s.name):=hwr
 obtain ⟨rv,bf⟩:∃ rv:Except Int Value,rv=match Sm.want K.l 1 s.name with | .ok i=>.ok (.int .i64 (i:Int)) | .error y=>.error y:=⟨_,rfl⟩
 have dV:Hid (rv=match Sm.want K.l 1 s.name with | .ok i=>.ok (.int .i64 (i:Int)) | .error y=>.error y):=bf
 have ae:Hid (r=andThen wr fun b=>andThen (must (expr K.l me v d) (bJ K.l b).ty [s.x] ⟨t.sends++[b],t.recvs,t.calls⟩) fun t=>.ok (.tuple #[],v,t)):=by
  unfold Hid
  rw [hr.out,stat,if_neg (by omega),if_neg (by omega),if_neg (by omega),if_neg (by omega),if_neg (by omega),if_neg (by omega),if_pos hk,hwr]
  cases Sm.want K.l 1 s.name with
  | error e=>rfl
  | ok b=>rw [andThen_ok,andThen_ok];cases must (expr K.l me v d) (bJ K.l b).ty [s.x] ⟨t.sends++[b],t.recvs,t.calls⟩ <;> rfl
 have hB0:K.B≤W0.heap.size:=by have:=HB0.out.base;have:=HB0.out.lt;omega
 have RG:Hid (∀ w' v' t',af K W0 w'→BW K w' v' t'→w'.cell? ⟨K.F,0,none⟩=some (.slice K.a K.l.length K.c)∧w'.cell? ⟨K.F,1,none⟩=some (.map (some K.M))∧w'.cell? ⟨K.F,2,none⟩=some (.int .i64 K.num)∧w'.cell? ⟨w.heap.size,1,none⟩=some (.string s.name)):=fun w' v' t' hk hb=>by
  obtain ⟨_,g1,_⟩:=dQ (hk.at gM.out).1
  obtain ⟨o,sn,rr,cc,h4⟩:=hb.rows
  obtain ⟨d0,d1,d2,_⟩:=fE h4.blk
  exact ⟨d0,d1,d2,g1⟩
 have e1:(s.kind==1)=false:=by rw [hk];rfl
 have e2:(s.kind==2)=false:=by rw [hk];rfl
 have e3:(s.kind==3)=false:=by rw [hk];rfl
 have e4:(s.kind==4)=false:=by rw [hk];rfl
 have e5:(s.kind==5)=false:=by rw [hk];rfl
 have e6:(s.kind==6)=false:=by rw [hk];rfl
 have e7:(s.kind==7)=true:=by rw [hk];rfl
 rw [← hwr] at bf
 clear hr hwr hk
 go_enter Tryz.func109,Tryz.ntmps109
 go_wp2_with fail
 rw [← HW0.out]
 refine wp_region_held_drew (S:=fun w'=>w'.cell? ⟨K.F,0,none⟩=some (.slice K.a K.l.length K.c)∧w'.cell? ⟨K.F,1,none⟩=some (.map (some K.M))∧w'.cell? ⟨K.F,2,none⟩=some (.int .i64 K.num)∧w'.cell? ⟨w.heap.size,1,none⟩=some (.string s.name)) (by kernel_rfl) (RG.out W0 v t (af.refl _ _) HB0.out) (fun hHeld=>?_)
 refine tk 0 (v:=?_) rfl ?_ (by assumption) ?_
 rotate_left
 ·intro w hSw
  (try dsimp only at hSw)
  go_simp
  (try with_reducible rfl)
 (try go_frame)
 refine tk 1 (v:=?_) rfl ?_ (by assumption) ?_
 rotate_left
 ·intro w hSw
  (try dsimp only at hSw)
  go_simp
  (try with_reducible rfl)
 (try go_frame)
 refine tk 2 (v:=?_) rfl ?_ (by assumption) ?_
 rotate_left
 ·intro w hSw
  (try dsimp only at hSw)
  go_simp
  (try with_reducible rfl)
 (try go_frame)
 refine tk 3 (v:=?_) rfl ?_ (by assumption) ?_
 rotate_left
 ·intro w hSw
  (try dsimp only at hSw)
  go_simp
  (try with_reducible rfl)
 (try go_frame)
 refine tk 4 (v:=?_) rfl ?_ (by assumption) ?_
 rotate_left
 ·intro w hSw
  (try dsimp only at hSw)
  go_simp
  (try with_reducible rfl)
 (try go_frame)
 refine tk 5 (v:=?_) rfl ?_ (by assumption) ?_
 rotate_left
 ·intro w hSw
  (try dsimp only at hSw)
  go_simp
  (try with_reducible rfl)
 (try go_frame)
 refine wpAnyH_ready (rs:=[6]) (by kernel_rfl) (by simp) ?_
 refine AllReadyH.cons (o:=_) rfl (fun K' hK=>?_) AllReadyH.nil
 go_simp
 refine (tY K.B K.l K.a K.c K.M K.num 1 s.name K.R W0.drew rv (by exact HB0.out.drew.fH) (by exact hB0) (by exact HB0.out.drew.mp) (by exact HB0.out.nums) dV).mono ?_
 rintro e w1 ⟨hg1',he1⟩
 have hg1:W0.grownBy w1 none:=⟨hg1'.os,hg1'.tape,hg1'.output,hg1'.size,hg1'.block⟩
 have ax:Hid (W0.grownBy w1 none):=hg1
 clear hg1'
 have HB1:Hid (BW K w1 v t):=HB0.out.grown hg1
 have uR:Hid (af K W0 w1):=af.grown hg1 HB0.out.lt
 cases wr with
 | error y =>
  subst bf
  obtain rfl:=he1
  have HE:Hid (Bf K w v r (.panicked [aH y K.num]) w1):=by
   rw [ae.out]
   exact ⟨aM.out.trans uR.out,rfl,v,t,HB1.out,List.prefix_refl _⟩
  clear hK hg1
  go_wp2
  exact ⟨rfl,HE.out⟩
 | ok j =>
  subst bf
  obtain rfl:=he1
  have hj:=Ee sQ.out.symm
  obtain ⟨D,hD⟩:∃ D,D=K.l[j]:=⟨_,rfl⟩
  have wW:Hid (bJ K.l j=D):=by unfold Hid;rw [hD];simp [bJ,List.getElem?_eq_getElem hj]
  obtain ⟨b,off,pa,pc,ba',bc',ha,hb,_,_,k2,k3,_,_,_,_,_,_⟩:=HB1.out.fH.2 j D (by rw [hD];exact List.getElem?_eq_getElem hj)
  have HA:Hid (K.a=some ⟨b,off,none⟩):=ha
  refine hK.out _ _ (RG.out w1 v t uR.out HB1.out) (fun hHeld=>?_)
  refine tk 7 (v:=?_) rfl ?_ (by assumption) ?_
  rotate_left
  ·intro w hSw
   (try dsimp only at hSw)
   go_simp
   (try with_reducible rfl)
  (try go_frame)
  refine wpAnyH_done (by kernel_rfl) ?_ _
  obtain ⟨ord,sn,rc,cl,h4⟩:=HB1.out.rows
  have H4:Hid (lY K w1 v t ord sn rc cl):=h4
  obtain ⟨ca,cn,hcl⟩:=il h4.lZ
  subst hcl
  obtain ⟨i0,hif,hz0,hz1,hz2⟩:=info_parts Tryz.info3
  have hB1:K.B≤w1.heap.size:=by have:=HB1.out.base;have:=HB1.out.lt;omega
  have Bi:Hid ((Value.slice ca t.sends.length cn).ownBlock≠some K.F):=fun e=>by
   obtain ⟨_,_,cur,hc⟩:=bq h4.lZ _ e
   rw [h4.blk] at hc
   cases hc
  have hF1:=h4.lt
  obtain ⟨_,_,_,_,_,d5,_,_⟩:=fE h4.blk
  obtain ⟨_,z5,_,_⟩:=ql h4.blk
  have htc:t.sends.length≤2000:=by have:=ht.out.1;omega
  have yP:Hid (∀ (o2:Obj) (w4:World),(w1.alloc o2).grownBy w4 (Value.slice ca t.sends.length cn).ownBlock→w4.heap[K.F]?=some (K.obj ord (.slice ca t.sends.length cn) rc cl)):=fun o2 w4 hg =>
   ((hg.block K.F (by simp;omega) (fun e=>Bi.out e.symm)).trans (Below.heap_alloc _ _ _ hF1)).trans H4.out.blk
  have jk:K.l.length≤maxLen:=HB1.out.fH.1
  obtain ⟨L,hL⟩:∃ L,L=K.l.length:=⟨_,rfl⟩
  have HL:Hid (L=K.l.length):=hL
  have Eo:(j:Int)<(L:Int):=by omega
  rw [← hL] at jk
  obtain ⟨em,hem⟩:∃ em,em=must (expr K.l me v d) D.ty [s.x] ⟨t.sends++[j],t.recvs,t.calls⟩:=⟨_,rfl⟩
  have l5:Hid (em=must (expr K.l me v d) D.ty [s.x] ⟨t.sends++[j],t.recvs,t.calls⟩):=hem
  have jP:Hid (r=andThen em fun t=>.ok (.tuple #[],v,t)):=by unfold Hid;rw [ae.out,andThen_ok,wW.out,hem]
  have xe:Hid (aT ⟨t.sends++[j],t.recvs,t.calls⟩ (n+1)):=⟨by have:=ht.out.1;simp;omega,by have:=ht.out.2.1;dsimp;omega,by have:=ht.out.2.2;dsimp;omega⟩
  have RH:Hid (∀ w',af K w1 w'→w'.cell? ⟨b,off+j * 9+2,none⟩=some (.int .i64 D.ty.kind)∧w'.cell? ⟨b,off+j * 9+3,none⟩=some (.string D.ty.gen)):=fun w' hk=>by
   have old:∀ o,w'.cell? ⟨b,o,none⟩=w1.cell? ⟨b,o,none⟩:=fun o=>HB1.out.same hk b o hb
   rw [old,old]
   exact ⟨k2,k3⟩
  have HS:Hid (∀ w' v' t',af K w1 w'→BW K w' v' t'→w'.cell? ⟨K.F,0,none⟩=some (.slice (some ⟨b,off,none⟩) L K.c)∧w'.cell? ⟨b,off+j * 9+2,none⟩=some (.int .i64 D.ty.kind)∧w'.cell? ⟨b,off+j * 9+3,none⟩=some (.string D.ty.gen)∧w'.cell? ⟨w.heap.size,2,none⟩=some (.int .i64 s.x.kind)∧w'.cell? ⟨w.heap.size,3,none⟩=some (.int .i64 s.x.n)∧w'.cell? ⟨w.heap.size,4,none⟩=some (.string s.x.name)∧w'.cell? ⟨w.heap.size,5,none⟩=some (.slice xa s.x.kids.length xc)):=fun w' v' t' hk hbw=>by
   obtain ⟨_,_,g2,g3,g4,g5,_,_⟩:=dQ ((uR.out.trans hk).at gM.out).1
   obtain ⟨o,sn,rr,cc,h4⟩:=hbw.rows
   obtain ⟨d0,_⟩:=fE h4.blk
   rw [HA.out,← HL.out] at d0
   exact ⟨d0,(RH.out w' hk).1,(RH.out w' hk).2,g2,g3,g4,g5⟩
  clear hK hg1 hD ha h4 hL hem k2 k3
  go_wp2_with (at_builtin;refine sD rfl _ _ 98 rfl K.B 3 i0 _ 1 8 Tryz.underlying98 hif hz0 hz1 hz2 rfl (by decide) _ t.sends.length (bF t.sends) rfl (H4.out.lZ.alloc _) ⟨w1.heap.size,0,none⟩ 1 1 [.int .i64 (j:Int)] rfl rfl (Ba _ _ _) (Ed _) (by decide) (by unfold maxLen;omega) (by omega) (by simp;omega) ?_;intro g cap w4 hq4 hg4 hw4;have lG:Hid _:=aba HB1.out H4.out (World.grownBy.refl _ _) hg4 hq4 hw4;have eT:=yP.out _ w4 hg4;obtain ⟨_,f7,_,_⟩:=ql eT;obtain ⟨_,_,_,_,_,e5,_,_⟩:=fE eT;have Jw:=lt_of_block eT;clear hq4 hg4 hw4 eT)
  obtain ⟨w5,yR⟩:∃ w5,w5=w4.setCell ⟨K.F,5,none⟩ (.slice (some ⟨g,0,none⟩) (t.sends.length+1) cap):=⟨_,rfl⟩
  rw [← yR]
  rw [← yR] at lG
  have Ep:Hid (af K w1 w5):=lG.out.2
  have mZ:Hid (BW K w5 v ⟨t.sends++[j],t.recvs,t.calls⟩):=lG.out.1
  clear yR
  refine wp_region_held_drew (S:=fun w'=>w'.cell? ⟨K.F,0,none⟩=some (.slice (some ⟨b,off,none⟩) L K.c)∧w'.cell? ⟨b,off+j * 9+2,none⟩=some (.int .i64 D.ty.kind)∧w'.cell? ⟨b,off+j * 9+3,none⟩=some (.string D.ty.gen)∧w'.cell? ⟨w.heap.size,2,none⟩=some (.int .i64 s.x.kind)∧w'.cell? ⟨w.heap.size,3,none⟩=some (.int .i64 s.x.n)∧w'.cell? ⟨w.heap.size,4,none⟩=some (.string s.x.name)∧w'.cell? ⟨w.heap.size,5,none⟩=some (.slice xa s.x.kids.length xc)) (by kernel_rfl) (HS.out w5 v _ Ep.out mZ.out) (fun hHeld=>?_)
  refine tk 0 (v:=?_) rfl ?_ (by assumption) ?_
  rotate_left
  ·intro w hSw
   (try dsimp only at hSw)
   go_simp
   (try with_reducible rfl)
  (try go_frame)
  refine tk 1 (v:=?_) rfl ?_ (by assumption) ?_
  rotate_left
  ·intro w hSw
   (try dsimp only at hSw)
   go_simp
   (try with_reducible rfl)
  (try go_frame)
  refine tk 2 (v:=?_) rfl ?_ (by assumption) ?_
  rotate_left
  ·intro w hSw
   (try dsimp only at hSw)
   go_simp
   (try with_reducible rfl)
  (try go_frame)
  refine tk 3 (v:=?_) rfl ?_ (by assumption) ?_
  rotate_left
  ·intro w hSw
   (try dsimp only at hSw)
   go_simp
   (try with_reducible rfl)
  (try go_frame)
  refine tk 4 (v:=?_) rfl ?_ (by assumption) ?_
  rotate_left
  ·intro w hSw
   (try dsimp only at hSw)
   go_simp
   (try with_reducible rfl)
  (try go_frame)
  refine tk 5 (v:=?_) rfl ?_ (by assumption) ?_
  rotate_left
  ·intro w hSw
   (try dsimp only at hSw)
   go_simp
   (try with_reducible rfl)
  (try go_frame)
  refine tk 6 (v:=?_) rfl ?_ (by assumption) ?_
  rotate_left
  ·intro w hSw
   (try dsimp only at hSw)
   go_simp
   (try with_reducible rfl)
  (try go_frame)
  refine tk 7 (v:=?_) rfl ?_ (by assumption) ?_
  rotate_left
  ·intro w hSw
   (try dsimp only at hSw)
   go_simp
   (try with_reducible rfl)
  (try go_frame)
  refine tk 8 (v:=?_) rfl ?_ (by assumption) ?_
  rotate_left
  ·intro w hSw
   (try dsimp only at hSw)
   go_simp
   (try with_reducible rfl)
  (try go_frame)
  refine tk 9 (v:=?_) rfl ?_ (by assumption) ?_
  rotate_left
  ·intro w hSw
   (try dsimp only at hSw)
   go_simp
   (try with_reducible rfl)
  (try go_frame)
  refine tk 10 (v:=?_) rfl ?_ (by assumption) ?_
  rotate_left
  ·intro w hSw
   (try dsimp only at hSw)
   go_simp
   (try with_reducible rfl)
  (try go_frame)
  refine tk 11 (v:=?_) rfl ?_ (by assumption) ?_
  rotate_left
  ·intro w hSw
   (try dsimp only at hSw)
   go_simp
   (try with_reducible rfl)
  (try go_frame)
  refine tk 12 (v:=?_) rfl ?_ (by assumption) ?_
  rotate_left
  ·intro w hSw
   (try dsimp only at hSw)
   go_simp
   (try with_reducible rfl)
  (try go_frame)
  refine wpAnyH_ready (rs:=[13]) (by kernel_rfl) (by simp) ?_
  refine AllReadyH.cons (o:=_) rfl (fun K' hK=>?_) AllReadyH.nil
  go_simp
  have wY:Hid (af K w5 (w5.alloc (aj s.x xa xc)).drew):=(af.alloc K w5 _ mZ.out.lt).drew
  have uE:Hid (BW K (w5.alloc (aj s.x xa xc)).drew v ⟨t.sends++[j],t.recvs,t.calls⟩):=(mZ.out.grown (bn _)).drew
  have HN6:Hid ((w5.alloc (aj s.x xa xc)).drew.heap[w5.heap.size]?=some (aj s.x xa xc)∧bA K (w5.alloc (aj s.x xa xc)).drew w5.heap.size):=mZ.out.new _
  refine hK.out _ _ (HS.out _ v _ (Ep.out.trans wY.out) uE.out) (fun hHeld=>?_)
  clear hK
  refine wpAnyH_ready (rs:=[14]) (by kernel_rfl) (by simp) ?_
  refine AllReadyH.cons (o:=_) rfl (fun K' hK=>?_) AllReadyH.nil
  go_simp
  refine (ng K v d (expr K.l me v d) hC (lF K.l me v d) [s.x] (some ⟨w5.heap.size,0,none⟩) 1 D.ty _ (n+1) m1 _ _ uE (rE uE.out HN6.out jq.out ((uR.out.trans Ep.out).trans wY.out)) (by simp) oC xe h2 (by rw [← l5.out];exact rfl)).mono ?_
  rintro e w9 ⟨bM,dG⟩
  have RI:Hid (af K w1 w9):=(Ep.out.trans wY.out).trans bM
  have bQ:Hid (af K w w9):=(aM.out.trans uR.out).trans RI.out
  cases em with
  | error y =>
   obtain ⟨rfl,v2,t2,hb2,hp2⟩:=dG
   have HE:Hid (Bf K w v r (.panicked [aH y K.num]) w9):=by
    rw [jP.out]
    exact ⟨bQ.out,rfl,v2,t2,hb2,hp2⟩
   clear hK bM hb2 hp2
   go_wp2
   exact ⟨rfl,HE.out⟩
  | ok t2 =>
   obtain ⟨rfl,dD⟩:=dG
   have HE:Hid (Bf K w v r (.returned (.tuple #[])) w9):=by
    rw [jP.out]
    exact ⟨bQ.out,rfl,dD⟩
   refine hK.out _ _ (HS.out w9 v t2 RI.out dD) (fun hHeld=>?_)
   clear hK bM dD hHeld
   refine wpAnyH_done (by kernel_rfl) ?_ _
   go_wp2
   go_end0
   exact HE.out
theorem xJ (K:BK)(me:Sy.Df)(i:Nat)(hi:Hid (K.num=(i:Int)))(dE:Hid (K.l[i]?=some me)):∀ d,Rn K me d
 | 0=>fun s xa ba ea xc bc ec v t n m w r _ _ hn _ _ _ _=>by
  have:=hn.out
  unfold Sy.aO at this
  cases this
 | d+1=>fun s xa ba ea xc bc ec v t n m w r h hs hn ht hv h2 hr=>by
  have hB:=hid (JU K me d (hid (xJ K me i hi dE d)))
  obtain ⟨k1,k9,h3,ho⟩:=JP hn.out
  rcases ho with ⟨h6,rfl⟩ | ⟨h6,m1,hx,htl⟩
  ·exact abQ K me d i hi dE hB s xa ba ea xc bc ec v t n w r h hs ht hv h3 hr h6
  ·have HX:=hid hx
   have HL:=hid htl
   by_cases h1:s.kind=1
   ·exact abO K me d i hi dE hB s xa ba ea xc bc ec v t n m m1 w r h hs HX HL ht hv h3 hr h1
   by_cases h2:s.kind=2
   ·exact abT K me d i hi dE hB s xa ba ea xc bc ec v t n m m1 w r h hs HX HL ht hv h3 hr h2
   by_cases h4:s.kind=3
   ·exact abX K me d i hi dE hB s xa ba ea xc bc ec v t n m m1 w r h hs HX HL ht hv h3 hr h4
   by_cases h5:s.kind=4
   ·exact abW K me d i hi dE hB s xa ba ea xc bc ec v t n m m1 w r h hs HX HL ht hv h3 hr h5
   by_cases h7:s.kind=5
   ·exact abU K me d i hi dE hB s xa ba ea xc bc ec v t n m m1 w r h hs HX HL ht hv h3 hr h7
   by_cases h8:s.kind=7
   ·exact ab2 K me d i hi dE hB s xa ba ea xc bc ec v t n m m1 w r h hs HX HL ht hv h3 hr h8
   by_cases h9:s.kind=8
   ·exact abS K me d i hi dE hB s xa ba ea xc bc ec v t n m m1 w r h hs HX HL ht hv h3 hr h9
   ·exact abR K me d i hi dE hB s xa ba ea xc bc ec v t n m m1 w r h hs HX HL ht hv h3 hr (by omega)
end Sm
end Go.Proofs.YtolfleeidpeomaaGreatDoor

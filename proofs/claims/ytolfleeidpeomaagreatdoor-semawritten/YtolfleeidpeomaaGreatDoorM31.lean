/- The walk of must,given that of expr one level below. -/
import Derived.Test.YtolfleeidpeomaaGreatDoorM30
set_option maxRecDepth 100000
set_option maxHeartbeats 2000000
namespace Go.Proofs.YtolfleeidpeomaaGreatDoor
open Go.RowKit
namespace Sm
def aT (t:Tk)(n:Nat):Prop:=t.sends.length≤n∧t.recvs.length≤n∧t.calls.length≤n
def kF (K:BK)(v:Vars)(d:Nat)(ex:Sy.Ex→Tk→Except Int (Sy.Ty × Tk)):Prop :=
 ∀ (x:Sy.Ex) (xa:Option Addr) (xc:Nat) (t:Tk) (n m:Nat) (w:World) (r:Except Int (Value × Vars × Tk)),Hid (BW K w v t)→Hid (∃ h,aJ K.B w h x xa)→Hid (Sy.aF d x n=.ok m)→Hid (aT t n)→n≤2000 →
  Hid (r=andThen (ex x t) fun p=>.ok (aQ p.1,v,p.2))→Calls Tryz.prog 133 #[.pointer (some ⟨K.F,0,none⟩),dH x xa xc] w fun e w'=>Bf K w v r e w'
def qp (K:BK)(w:World)(ks:List Sy.Ex)(a:Option Addr):Prop :=
 ∀ i k,ks[i]?=some k→∃ b off a' c',a=some ⟨b,off,none⟩∧b<w.heap.size∧bA K w b∧w.cell? ⟨b,off+i * 4,none⟩=some (.int .i64 k.kind)∧w.cell? ⟨b,off+i * 4+1,none⟩=some (.int .i64 k.n)∧w.cell? ⟨b,off+i * 4+2,none⟩=some (.string k.name) ∧
  w.cell? ⟨b,off+i * 4+3,none⟩=some (.slice a' k.kids.length c')∧∃ h,aJ K.B w h k a'
theorem BW.low {K:BK}{w:World}{v:Vars}{t:Tk}(h:BW K w v t){b:Nat}(hb:b<K.B):bA K w b:=by
 obtain ⟨o,s,r,c,h4⟩:=h.rows
 have hB:=h.base
 refine ⟨by omega,by omega,fun o' s' r' c' hb'=>?_⟩
 rw [h4.blk] at hb'
 obtain ⟨rfl,rfl,rfl,rfl⟩:=uL (Option.some.inj hb')
 exact ⟨fun e=>by have:=(bq h4.jJ b e).1;omega,fun e=>by have:=(bq h4.lZ b e).1;omega,fun e=>by have:=(bq h4.lD b e).1;omega,fun e=>by have:=(bq h4.kS b e).1;omega⟩
theorem BW.same {K:BK}{w w':World}{v:Vars}{t:Tk}(h:BW K w v t)(hk:af K w w'):Same K.B w w':=fun b o hb =>
 World.cell?_of_block (a:=⟨b,o,none⟩) (hk.block b (by have:=h.base;have:=h.lt;omega) (h.low hb)).1
theorem qp.kept {K:BK}{w w':World}{v:Vars}{t:Tk}{ks:List Sy.Ex}{a:Option Addr}(h:qp K w ks a)(hb:BW K w v t)(hk:af K w w'):qp K w' ks a:=fun i k hi=>by
 obtain ⟨b,off,a',c',e,hlt,hf,k0,k1,k2,k3,hx,hE⟩:=h i k hi
 obtain ⟨e1,e2⟩:=hk.block b hlt hf
 have c:∀ o,w'.cell? ⟨b,o,none⟩=w.cell? ⟨b,o,none⟩:=fun o=>World.cell?_of_block (a:=⟨b,o,none⟩) e1
 exact ⟨b,off,a',c',e,by have:=hk.size;omega,e2,(c _).trans k0,(c _).trans k1,(c _).trans k2,(c _).trans k3,hx,hE.same (hb.same hk)⟩
theorem af.alloc (K:BK)(w:World)(o:Obj)(hF:K.F<w.heap.size):af K w (w.alloc o):=af.grown (bn o) hF
theorem af.drew {K:BK}{w w':World}(h:af K w w'):af K w w'.drew:=⟨h.os,h.tape,h.output,h.size,h.block⟩
theorem af.yL {K:BK}{w w':World}(h:af K w.drew w'):af K w w':=⟨h.os,h.tape,h.output,h.size,h.block⟩
theorem BW.drew {K:BK}{w:World}{v:Vars}{t:Tk}(h:BW K w v t):BW K w.drew v t:=h.grown ⟨rfl,rfl,rfl,Nat.le_refl _,fun _ _ _=>rfl⟩
theorem jc {w:World}{b:Nat}{v0 v1 v2 v3:Value}{t:TypeId}(h:w.heap[b]?=some (.cells #[v0,v1,v2,v3] t (0,0))) :
  w.cell? ⟨b,0,none⟩=some v0∧w.cell? ⟨b,1,none⟩=some v1∧w.cell? ⟨b,2,none⟩=some v2∧w.cell? ⟨b,3,none⟩=some v3:=by simp [World.cell?,h]
theorem ng (K:BK)(v:Vars)(d:Nat)(ex:Sy.Ex→Tk→Except Int (Sy.Ty × Tk))(hC:Hid (kF K v d ex))(hle:Hid (∀ x t n m y t',Sy.aF d x n=.ok m→aT t n→ex x t=.ok (y,t')→aT t' m))
  (ks:List Sy.Ex) (a:Option Addr) (c:Nat) (wt:Sy.Ty) (t:Tk) (n m:Nat) (w:World) (r:Except Int (Value × Vars × Tk)) (h:Hid (BW K w v t)) (hk:Hid (qp K w ks a)) (hl:ks.length≤9223372036854775807) (hn:Hid (Sy.runs (Sy.aF d) ks n=.ok m)) (ht:Hid (aT t n)) (h2:n≤2000)
  (hr:Hid (r=andThen (must ex wt ks t) fun t=>.ok (.tuple #[],v,t))) :
  Calls Tryz.prog 134 #[.pointer (some ⟨K.F,0,none⟩),aQ wt,.slice a ks.length c] w fun e w'=>Bf K w v r e w':=by
 obtain ⟨wk,wg⟩:=wt
 have hF:=h.out.lt
 obtain ⟨W0,hW0⟩:∃ W0,W0=w.alloc (.cells #[.int .i64 wk,.string wg] 46):=⟨_,rfl⟩
 have aM:Hid (af K w W0):=by rw [hW0];exact af.alloc K w _ hF
 have HB0:Hid (BW K W0 v t):=by rw [hW0];exact h.out.grown (bn _)
 have aa4:Hid (qp K W0 ks a):=hk.out.kept h.out aM.out
 have jo:Hid (W0.heap[w.heap.size]?=some (.cells #[.int .i64 wk,.string wg] 46 (0,0))∧bA K W0 w.heap.size):=by rw [hW0];exact ⟨heap_alloc_new w _,h.out.free (bn _) (Nat.le_refl _)⟩
 have hs0:w.heap.size<W0.heap.size:=lt_of_block jo.out.1
 obtain ⟨P,hP⟩:∃ P,P=w.heap.size:=⟨_,rfl⟩
 have HP:Hid (P=w.heap.size):=hP
 have HW0:Hid (W0=_):=hW0
 clear hP hW0
 go_enter Tryz.func134,Tryz.ntmps134
 go_wp2
 rw [← HW0.out,← HP.out]
 rw [← HP.out] at jo hs0
 go_loopw [10] (fun i wr=>∃ (j:Nat) (t':Tk) (n':Nat),i=.int .i64 j∧j≤ks.length∧n'≤2000∧Hid (BW K wr v t')∧Hid (af K W0 wr)∧Hid (aT t' n')∧Hid (Sy.runs (Sy.aF d) (ks.drop j) n'=.ok m)∧Hid (r=andThen (must ex ⟨wk,wg⟩ (ks.drop j) t') fun t=>.ok (.tuple #[],v,t))) (fun i _=>ks.length - (intOf i).toNat)
 case atStart=>exact ⟨0,t,n,rfl,Nat.zero_le _,h2,HB0,af.refl _ _,ht,by rw [List.drop_zero];exact hn,by rw [List.drop_zero];exact hr⟩
 case round =>
  obtain ⟨j,t',n',rfl,hj,hn2,HB,HK,HT,HN,HR⟩:=hrel
  by_cases hlt:j<ks.length
  ·obtain ⟨k,hkj⟩:∃ k,ks[j]?=some k:=⟨_,List.getElem?_eq_getElem hlt⟩
   obtain ⟨b,off,a',c',rfl,hbl,hbf,k0,k1,k2,k3,hx⟩:=(aa4.out.kept HB0.out HK.out) j k hkj
   have hdr:ks.drop j=k :: ks.drop (j+1):=by
    have:=List.drop_eq_getElem_cons hlt
    rw [this,(List.getElem?_eq_some_iff.1 hkj).2]
   obtain ⟨n1,hx1,hn1⟩:∃ n1,Sy.aF d k n'=.ok n1∧Sy.runs (Sy.aF d) (ks.drop (j+1)) n1=.ok m:=by
    have:=HN.out
    rw [hdr,Sy.runs] at this
    cases hq:Sy.aF d k n' with
    | error e=>rw [hq] at this;cases this
    | ok n1=>rw [hq] at this;exact ⟨n1,rfl,this⟩
   have Bc:n1≤2000:=Sy.jw d k n' n1 hn2 hx1
   obtain ⟨er,her⟩:∃ er,er=ex k t':=⟨_,rfl⟩
   have dL:Hid (er=ex k t'):=her
   have ae:Hid (r=andThen er fun p=>if Sm.same p.1 ⟨wk,wg⟩=true then andThen (must ex ⟨wk,wg⟩ (ks.drop (j+1)) p.2) (fun t=>.ok (.tuple #[],v,t)) else .error 9):=by
    unfold Hid
    rw [HR.out,hdr,must,her]
    cases ex k t' with
    | error e=>rfl
    | ok p =>
     rw [andThen_ok,andThen_ok]
     by_cases hs:Sm.same p.1 ⟨wk,wg⟩=true
     ·rw [if_pos hs,if_pos hs]
     ·rw [if_neg hs,if_neg hs]
      rfl
   have ib:Hid (Sy.aF d k n'=.ok n1):=hx1
   have kN:Hid (Sy.runs (Sy.aF d) (ks.drop (j+1)) n1=.ok m):=hn1
   obtain ⟨W1,hW1⟩:∃ W1,W1=wr.alloc (.cells #[.int .i64 k.kind,.int .i64 k.n,.string k.name,.slice a' k.kids.length c'] 122):=⟨_,rfl⟩
   have rD:=HB.out.lt
   have bP:Hid (af K wr W1):=by rw [hW1];exact af.alloc K wr _ rD
   have HB1:Hid (BW K W1 v t'):=by rw [hW1];exact HB.out.grown (bn _)
   have HX:Hid (W1.heap[wr.heap.size]?=some (.cells #[.int .i64 k.kind,.int .i64 k.n,.string k.name,.slice a' k.kids.length c'] 122 (0,0))∧bA K W1 wr.heap.size):=by rw [hW1];exact ⟨heap_alloc_new wr _,HB.out.free (bn _) (Nat.le_refl _)⟩
   have kP:=HK.out.block P hs0 jo.out.2
   have vE:P<wr.heap.size:=by have:=HK.out.size;omega
   have eG:Hid (W1.heap[P]?=some (.cells #[.int .i64 wk,.string wg] 46 (0,0))∧bA K W1 P):=by
    obtain ⟨q1,q2⟩:=bP.out.block P vE kP.2
    exact ⟨q1.trans (kP.1.trans jo.out.1),q2⟩
   have bI:Hid (∃ h,aJ K.B W1 h k a'):=by
    obtain ⟨hh,hE⟩:=hx
    exact ⟨hh,hE.same (HB.out.same bP.out)⟩
   have HS:Hid (∀ w3,af K W1 w3→(w3.cell? ⟨wr.heap.size,0,none⟩=some (.int .i64 k.kind)∧w3.cell? ⟨wr.heap.size,1,none⟩=some (.int .i64 k.n)∧w3.cell? ⟨wr.heap.size,2,none⟩=some (.string k.name)∧w3.cell? ⟨wr.heap.size,3,none⟩=some (.slice a' k.kids.length c')∧w3.cell? ⟨P,0,none⟩=some (.int .i64 wk)∧w3.cell? ⟨P,1,none⟩=some (.string wg))):=fun w3 hk3=>by
    obtain ⟨x0,x1,x2,x3⟩:=jc ((hk3.block _ (lt_of_block HX.out.1) HX.out.2).1.trans HX.out.1)
    obtain ⟨y0,y1,_,_⟩:=bE ((hk3.block _ (lt_of_block eG.out.1) eG.out.2).1.trans eG.out.1)
    exact ⟨x0,x1,x2,x3,y0,y1⟩
   have HW1:Hid (W1=_):=hW1
   obtain ⟨kk,hkk⟩:∃ kk,kk=k.kids.length:=⟨_,rfl⟩
   clear hdr hx1 hn1 her hW1 kP hx hbf
   go_wp2_with fail
   rw [← HW1.out]
   refine wp_region_held_drew (S:=fun w'=>w'.cell? ⟨wr.heap.size,0,none⟩=some (.int .i64 k.kind)∧w'.cell? ⟨wr.heap.size,1,none⟩=some (.int .i64 k.n)∧w'.cell? ⟨wr.heap.size,2,none⟩=some (.string k.name)∧w'.cell? ⟨wr.heap.size,3,none⟩=some (.slice a' k.kids.length c')∧w'.cell? ⟨P,0,none⟩=some (.int .i64 wk)∧w'.cell? ⟨P,1,none⟩=some (.string wg)) (by kernel_rfl) (HS.out _ (af.refl K W1).drew) (fun hHeld=>?_)
   refine tk 0 (v:=?_) rfl ?_ (by assumption) ?_
   rotate_left
   ·intro w hSw
    (try dsimp only at hSw)
    go_simp
    (try with_reducible rfl)
   (try go_frame)
   refine tk 1 (v:=?_) rfl ?_ (by assumption) ?_
   rotate_left
   ·intro w hSw
    (try dsimp only at hSw)
    go_simp
    (try with_reducible rfl)
   (try go_frame)
   refine tk 3 (v:=?_) rfl ?_ (by assumption) ?_
   rotate_left
   ·intro w hSw
    (try dsimp only at hSw)
    go_simp
    (try with_reducible rfl)
   (try go_frame)
   refine wpAnyH_ready (rs:=[2]) (by kernel_rfl) (by simp) ?_
   refine AllReadyH.cons (o:=_) rfl (fun K' hK=>?_) AllReadyH.nil
   go_simp
   refine (hC.out k a' c' t' n' n1 W1.drew _ (by exact HB1.out.drew) (by obtain ⟨hh,hE⟩:=bI.out;exact ⟨hh,aJ.same (w:=W1) (w':=W1.drew) (fun _ _ _=>rfl) _ _ _ hE⟩) ib HT hn2 (by rw [← dL.out];exact rfl)).mono ?_
   rintro e w2 ⟨wV,he2⟩
   have bD:Hid (af K W1 w2):=wV.yL
   cases er with
   | error x =>
    obtain ⟨rfl,v2,t2,hb2,hp2⟩:=he2
    have HE:Hid (Bf K w v r (.panicked [aH x K.num]) w2):=by
     rw [ae.out]
     exact ⟨((aM.out.trans HK.out).trans bP.out).trans bD.out,rfl,v2,t2,hb2,hp2⟩
    clear hK wV hb2 hp2
    go_wp2
    exact ⟨rfl,HE.out⟩
   | ok p =>
    obtain ⟨rfl,hb2⟩:=he2
    have HB2:Hid (BW K w2 v p.2):=hb2
    refine hK.out _ _ (HS.out w2 bD.out) (fun hHeld=>?_)
    clear hK wV hb2
    obtain ⟨py,pt⟩:=p
    have Be:Hid (aT pt n1):=hle.out k t' n' n1 py pt ib.out HT.out dL.out.symm
    obtain ⟨sb,hsb⟩:∃ sb,sb=Sm.same py ⟨wk,wg⟩:=⟨_,rfl⟩
    have Jm:Hid (sb=Sm.same py ⟨wk,wg⟩):=hsb
    have qw:Hid (r=if sb=true then andThen (must ex ⟨wk,wg⟩ (ks.drop (j+1)) pt) (fun t=>.ok (.tuple #[],v,t)) else .error 9):=by
     unfold Hid
     rw [ae.out,hsb]
     rfl
    clear hsb
    refine wpAnyH_ready (rs:=[4]) (by kernel_rfl) (by simp) ?_
    refine AllReadyH.cons (o:=_) rfl (fun K' hK=>?_) AllReadyH.nil
    go_simp
    refine (Qs py ⟨wk,wg⟩ _ sb Jm).mono ?_
    rintro e w3 ⟨rfl,hg3⟩
    have HB3:Hid (BW K w3 v pt):=HB2.out.grown hg3
    have fe:Hid (af K W1 w3):=bD.out.trans (af.grown hg3 HB2.out.lt)
    refine hK.out _ _ (HS.out w3 fe.out) (fun hHeld=>?_)
    clear hK hg3
    refine tk 5 (v:=?_) rfl ?_ (by assumption) ?_
    rotate_left
    ·intro w hSw
     (try dsimp only at hSw)
     go_simp
     (try with_reducible rfl)
    (try go_frame)
    refine wpAnyH_done (by kernel_rfl) ?_ _
    cases sb with
    | true =>
     have iM:Hid (r=andThen (must ex ⟨wk,wg⟩ (ks.drop (j+1)) pt) (fun t=>.ok (.tuple #[],v,t))):=qw.out
     go_wp2
     go_roundw
     case rel=>exact ⟨j+1,pt,n1,by go_num,by omega,Bc,HB3,(HK.out.trans bP.out).trans fe.out,Be,kN,iM⟩
     case measure=>simp [intOf];omega
    | false =>
     have iM:Hid (r=.error 9):=qw.out
     obtain ⟨o,sn,rr,cc,h4⟩:=HB3.out.rows
     obtain ⟨c0,c1,c2,_⟩:=fE h4.blk
     clear h4
     go_wp2_with fail
     refine (jy K.l.length K.a K.c K.M K.num 9 _).mono ?_
     rintro e w5 ⟨rfl,hg5⟩
     have HE:Hid (Bf K w v r (.panicked [aH 9 K.num]) w5):=by
      rw [iM.out]
      exact ⟨(((aM.out.trans HK.out).trans bP.out).trans fe.out).trans (af.grown hg5 HB3.out.lt),rfl,v,pt,HB3.out.grown hg5,List.prefix_refl _⟩
     clear hg5
     go_wp2
     exact ⟨rfl,HE.out⟩
  ·have HR2:Hid (r=.ok (.tuple #[],v,t')):=by
    have:=HR.out
    rw [List.drop_of_length_le (by omega)] at this
    exact this
   go_wp2
   go_end0
   refine ⟨aM.out.trans HK.out,?_⟩
   rw [HR2.out]
   exact ⟨rfl,HB.out⟩
end Sm
end Go.Proofs.YtolfleeidpeomaaGreatDoor
namespace Go.Proofs.YtolfleeidpeomaaGreatDoor
namespace Sm
open Sy
theorem aZ {α β:Type}{r:Except Int α}{f:α→Except Int β}{y:β}(h:andThen r f=.ok y):∃ x,r=.ok x∧f x=.ok y:=by
 cases r with
 | error e=>cases h
 | ok x=>exact ⟨x,rfl,h⟩
theorem aT.mono {t:Tk}{n m:Nat}(h:aT t n)(hm:n≤m):aT t m:=⟨Nat.le_trans h.1 hm,Nat.le_trans h.2.1 hm,Nat.le_trans h.2.2 hm⟩
theorem uM {α:Type}{f:α→Nat→Except Int Nat}(hf:∀ a n m,f a n=.ok m→n≤m):∀ (l:List α) (n m:Nat),runs f l n=.ok m→n≤m
 | [],n,m,h=>by simp [runs] at h;omega
 | a :: l,n,m,h=>by
  unfold runs at h
  cases ha:f a n with
  | error e=>rw [ha] at h;simp at h
  | ok k=>rw [ha] at h;exact Nat.le_trans (hf a n k ha) (uM hf l k m h)
theorem Jq {d:Nat}{x:Ex}{n m:Nat}(h:aF (d+1) x n=.ok m):1≤x.kind∧x.kind≤24∧dU x=0∧runs (aF d) x.kids (n+1)=.ok m:=by
 unfold aF at h
 split at h
 ·simp at h
 ·rename_i h0
  have h1:=iC (by simpa using h0:bB x.kind 24 (d+1) n=0)
  split at h
  ·simp at h
  ·rename_i h2
   exact ⟨h1.2.1,h1.2.2.1,by simpa using h2,h⟩
theorem uN:∀ (d:Nat) (x:Ex) (n m:Nat),aF d x n=.ok m→n≤m
 | 0,x,n,m,h=>by simp [aF] at h
 | d+1,x,n,m,h=>by
  have:=uM (uN d) _ _ _ (Jq h).2.2.2
  omega
theorem og {α:Type}{f:α→Nat→Except Int Nat}{a:α}{l:List α}{n m:Nat}(h:runs f (a :: l) n=.ok m):∃ k,f a n=.ok k∧runs f l k=.ok m:=by
 unfold runs at h
 cases ha:f a n with
 | error e=>rw [ha] at h;simp at h
 | ok k=>rw [ha] at h;exact ⟨k,rfl,h⟩
theorem QH {x:Ex}(h:dU x=0):least x.kind≤(x.kids.length:Int)∧(x.kids.length:Int)≤most x.kind:=by
 unfold dU at h
 split at h
 ·cases h
 ·split at h
  ·cases h
  ·split at h
   ·cases h
   ·omega
theorem Eb {x:Ex}(h:dU x=0)(hk:x.kind=4∨x.kind=5∨x.kind=21∨x.kind=24):∃ a,x.kids=[a]:=by
 have:=QH h
 have h1:least x.kind=1:=by unfold least;rw [if_neg (by omega),if_pos hk]
 have h2:most x.kind=1:=by unfold most;rw [if_neg (by omega),if_pos hk]
 exact List.length_eq_one_iff.1 (by omega)
theorem Ec {x:Ex}(h:dU x=0)(hk:6≤x.kind∧x.kind≤18∨x.kind=23):∃ a b,x.kids=[a,b]:=by
 have:=QH h
 have h1:least x.kind=2:=by unfold least;rw [if_neg (by omega),if_neg (by omega),if_neg (by omega)]
 have h2:most x.kind=2:=by unfold most;rw [if_neg (by omega),if_neg (by omega),if_neg (by omega)]
 match hx:x.kids,(by omega:x.kids.length=2) with
 | [a,b],_=>exact ⟨a,b,rfl⟩
def oh (d:Nat)(ex:Ex→Tk→Except Int (Ty × Tk)):Prop:=∀ x t n m y t',aF d x n=.ok m→aT t n→ex x t=.ok (y,t')→aT t' m
theorem oZ {d:Nat}{ex:Ex→Tk→Except Int (Ty × Tk)}(hex:oh d ex)(wt:Ty):∀ (ks:List Ex) (t:Tk) (n m:Nat) (t':Tk),runs (aF d) ks n=.ok m→aT t n→must ex wt ks t=.ok t'→aT t' m
 | [],t,n,m,t',h,ht,hm=>by
  simp [runs] at h
  simp [must] at hm
  subst h;subst hm
  exact ht
 | k :: ks,t,n,m,t',h,ht,hm=>by
  obtain ⟨n1,h1,h2⟩:=og h
  rw [must] at hm
  obtain ⟨p,hp,hm⟩:=aZ hm
  split at hm
  ·exact oZ hex wt ks p.2 n1 m t' h2 (hex k t n n1 p.1 p.2 h1 ht hp) hm
  ·cases hm
theorem Jr {d:Nat}{ex:Ex→Tk→Except Int (Ty × Tk)}(hex:oh d ex):∀ (ps:List Pm) (ks:List Ex) (t:Tk) (n m:Nat) (t':Tk),runs (aF d) ks n=.ok m→aT t n→args ex ps ks t=.ok t'→aT t' m
 | [],ks,t,n,m,t',h,ht,hm=>by
  simp [args] at hm
  subst hm
  exact ht.mono (uM (uN d) _ _ _ h)
 | p :: ps,[],t,n,m,t',h,ht,hm=>by
  rw [args] at hm
  obtain ⟨t1,h1,hm⟩:=aZ hm
  exact Jr hex ps [] t1 n m t' h (oZ hex p.ty [] t n n t1 rfl ht h1) hm
 | p :: ps,k :: ks,t,n,m,t',h,ht,hm=>by
  rw [args] at hm
  obtain ⟨t1,h1,hm⟩:=aZ hm
  obtain ⟨n1,h3,h4⟩:=og h
  exact Jr hex ps ks t1 n1 m t' h4 (oZ hex p.ty [k] t n n1 t1 (by unfold runs;rw [h3];rfl) ht h1) hm
theorem QI {d:Nat}{ex:Ex→Tk→Except Int (Ty × Tk)}(hex:oh d ex){l:List Df}{kind:Int}{x:Ex}{t t':Tk}{n m:Nat}{D:Df}(h:runs (aF d) x.kids (n+1)=.ok m)(ht:aT t n)(hc:call l ex kind x t=.ok (D,t')):aT t' m:=by
 unfold call at hc
 obtain ⟨i,_,hc⟩:=aZ hc
 split at hc
 ·cases hc
 ·obtain ⟨t1,h1,hc⟩:=aZ hc
  cases hc
  exact Jr hex _ _ _ _ _ _ h ⟨by have:=ht.1;show t.sends.length≤_;omega,by have:=ht.2.1;show t.recvs.length≤_;omega,by have:=ht.2.2;simp;omega⟩ h1
theorem Js {d:Nat}{ex:Ex→Tk→Except Int (Ty × Tk)}(hex:oh d ex){l:List Df}{x:Ex}{t t':Tk}{n m:Nat}{D:Df}(h:aF d x n=.ok m)(ht:aT t n)(hc:started l ex x t=.ok (D,t')):aT t' m:=by
 unfold started at hc
 obtain ⟨p,hp,hc⟩:=aZ hc
 split at hc
 ·cases hc
 ·obtain ⟨i,_,hc⟩:=aZ hc
  cases hc
  exact hex x t n m p.1 p.2 h ht hp
theorem aa5 {d:Nat}{ex:Ex→Tk→Except Int (Ty × Tk)}(hex:oh d ex){l:List Df}{me:Df}{x:Ex}{t t':Tk}{n m:Nat}{y:Ty}(hh:dU x=0)(hk:19≤x.kind∧x.kind≤23)(h:runs (aF d) x.kids (n+1)=.ok m)(ht:aT t n)(hc:spoken l me ex x t=.ok (y,t')):aT t' m:=by
 have hnm:=uM (uN d) _ _ _ h
 unfold spoken at hc
 split at hc
 ·obtain ⟨p,hp,hc⟩:=aZ hc
  cases hc
  exact QI hex h ht hp
 ·split at hc
  ·obtain ⟨p,hp,hc⟩:=aZ hc
   cases hc
   exact QI hex h ht hp
  ·split at hc
   ·obtain ⟨b,_,hc⟩:=aZ hc
    cases hc
    exact ⟨by have:=ht.1;show t.sends.length≤m;omega,by have:=ht.2.1;simp;omega,by have:=ht.2.2;show t.calls.length≤m;omega⟩
   ·split at hc
    ·rename_i h21
     obtain ⟨_,_,hc⟩:=aZ hc
     obtain ⟨t1,h1,hc⟩:=aZ hc
     cases hc
     obtain ⟨a,ha⟩:=Eb hh (by omega)
     have hka:kid x 0=a:=by simp [kid,ha]
     rw [hka] at h1
     exact oZ hex _ _ _ _ _ _ (by rw [← ha];exact h) (ht.mono (by omega)) h1
    ·obtain ⟨g,hg,hc⟩:=aZ hc
     obtain ⟨t1,h1,hc⟩:=aZ hc
     cases hc
     obtain ⟨a,b,hab⟩:=Ec hh (by omega)
     have hka:kid x 0=a:=by simp [kid,hab]
     have hkb:kid x 1=b:=by simp [kid,hab]
     rw [hka] at hg
     rw [hkb] at h1
     rw [hab] at h
     obtain ⟨n1,h3,h4⟩:=og h
     exact oZ hex _ _ _ _ _ _ h4 (Js hex h3 (ht.mono (by omega)) hg) h1
theorem lF (l:List Df)(me:Df)(v:Vars):∀ d,oh d (expr l me v d)
 | 0=>fun x t n m y t' h _ _=>by simp [aF] at h
 | d+1=>fun x t n m y t' h ht hc=>by
  have hex:=lF l me v d
  obtain ⟨k1,k24,hh,hr⟩:=Jq h
  have hnm:=uM (uN d) _ _ _ hr
  have up:aT t (n+1):=ht.mono (by omega)
  rw [expr] at hc
  split at hc
  ·cases hc;exact ht.mono (by omega)
  ·split at hc
   ·cases hc;exact ht.mono (by omega)
   ·split at hc
    ·obtain ⟨z,_,hc⟩:=aZ hc
     cases hc;exact ht.mono (by omega)
    ·split at hc
     ·obtain ⟨t1,h1,hc⟩:=aZ hc
      cases hc;exact oZ hex _ _ _ _ _ _ hr up h1
     ·split at hc
      ·obtain ⟨t1,h1,hc⟩:=aZ hc
       cases hc;exact oZ hex _ _ _ _ _ _ hr up h1
      ·split at hc
       ·obtain ⟨t1,h1,hc⟩:=aZ hc
        cases hc;exact oZ hex _ _ _ _ _ _ hr up h1
       ·split at hc
        ·obtain ⟨a,ha,hc⟩:=aZ hc
         obtain ⟨b,hb,hc⟩:=aZ hc
         obtain ⟨_,_,hc⟩:=aZ hc
         split at hc
         ·cases hc
          obtain ⟨p,q,hpq⟩:=Ec hh (by omega)
          have hka:kid x 0=p:=by simp [kid,hpq]
          have hkb:kid x 1=q:=by simp [kid,hpq]
          rw [hka] at ha
          rw [hkb] at hb
          rw [hpq] at hr
          obtain ⟨n1,h3,h4⟩:=og hr
          obtain ⟨n2,h5,h6⟩:=og h4
          simp [runs] at h6
          subst h6
          exact hex q a.2 n1 n2 b.1 b.2 h5 (hex p t (n+1) n1 a.1 a.2 h3 up ha) hb
         ·cases hc
        ·split at hc
         ·obtain ⟨p,hp,hc⟩:=aZ hc
          cases hc
          obtain ⟨a,ha⟩:=Eb hh (by omega)
          have hka:kid x 0=a:=by simp [kid,ha]
          rw [hka] at hp
          rw [ha] at hr
          obtain ⟨n1,h3,h4⟩:=og hr
          simp [runs] at h4
          subst h4
          exact Js hex h3 up hp
         ·exact aa5 hex hh (by omega) hr ht hc
end Sm
end Go.Proofs.YtolfleeidpeomaaGreatDoor
namespace Go.Proofs.YtolfleeidpeomaaGreatDoor
open Go.RowKit
namespace Sm
def Bd (K:BK)(w:World)(v:Vars)(r:Except Int (Sy.Df × Tk))(e:Ending)(w':World):Prop :=
 af K w w'∧match r with
 | .ok x=>(∃ val,e=.returned val∧Af K.B w' x.1 val)∧BW K w' v x.2
 | .error er=>e=.panicked [aH er K.num]∧∃ v' t',BW K w' v' t'∧v <+: v'
abbrev zD:Obj:=.cells #[.int .i64 0,.string ⟨#[]⟩,.int .i64 0,.string ⟨#[]⟩,.int .i64 0,.string ⟨#[]⟩,.int .i64 0,.slice none 0 0,.slice none 0 0] 50 (0,0)
abbrev sP (w:World) (N:Nat) (a0 a1 a2 a3 a4 a5 a6 a7 a8:Value):World:=((((((((w.setCell ⟨N,0,none⟩ a0).setCell ⟨N,1,none⟩ a1).setCell ⟨N,2,none⟩ a2).setCell ⟨N,3,none⟩ a3).setCell ⟨N,4,none⟩ a4).setCell ⟨N,5,none⟩ a5).setCell ⟨N,6,none⟩ a6).setCell ⟨N,7,none⟩ a7).setCell ⟨N,8,none⟩ a8
theorem Dr {w:World}{N k:Nat}{a0 a1 a2 a3 a4 a5 a6 a7 a8:Value}(hk:k≠N):(sP w N a0 a1 a2 a3 a4 a5 a6 a7 a8).heap[k]?=w.heap[k]?:=by
 have s:∀ (w:World) (o:Nat) (v:Value),(w.setCell ⟨N,o,none⟩ v).heap[k]?=w.heap[k]?:=fun w o v=>Below.heap_setCell w ⟨N,o,none⟩ v k hk
 rw [s,s,s,s,s,s,s,s,s]
theorem iN {w:World}{g:Nat}{cs:List Value}{t:TypeId}(h:w.heap[g]?=some (.cells (List.toArray cs) t (0,0)))(i:Nat)(v:Value):(w.setCell ⟨g,i,none⟩ v).heap[g]?=some (.cells (List.toArray (cs.set i v)) t (0,0)):=by
 simp only [World.setCell,Array.getElem?_modify,if_true,h,Option.map_some]
 simp
theorem QJ {w:World}{N:Nat}{z0 z1 z2 z3 z4 z5 z6 z7 z8 a0 a1 a2 a3 a4 a5 a6 a7 a8:Value}{t:TypeId}(h:w.heap[N]?=some (.cells #[z0,z1,z2,z3,z4,z5,z6,z7,z8] t (0,0))):(sP w N a0 a1 a2 a3 a4 a5 a6 a7 a8).heap[N]?=some (.cells #[a0,a1,a2,a3,a4,a5,a6,a7,a8] t (0,0)) :=
 iN (iN (iN (iN (iN (iN (iN (iN (iN h 0 a0) 1 a1) 2 a2) 3 a3) 4 a4) 5 a5) 6 a6) 7 a7) 8 a8
theorem QK {w:World}{N:Nat}{a0 a1 a2 a3 a4 a5 a6 a7 a8:Value}:w.grownBy (sP w N a0 a1 a2 a3 a4 a5 a6 a7 a8) (some N) :=
 aB (gQ _ _ 0 _) (aB (gQ _ _ 1 _) (aB (gQ _ _ 2 _) (aB (gQ _ _ 3 _) (aB (gQ _ _ 4 _) (aB (gQ _ _ 5 _) (aB (gQ _ _ 6 _) (aB (gQ _ _ 7 _) (gQ _ _ 8 _))))))))
theorem af.own {K:BK}{w w5 w9:World}{N:Nat}(h:af K w w5)(hg:w5.grownBy w9 (some N))(hN:w.heap.size≤N)(hNF:K.F≠N)(hF:K.F<w5.heap.size):af K w w9 :=
 ⟨hg.os.trans h.os,hg.tape.trans h.tape,hg.output.trans h.output,Nat.le_trans h.size hg.size,fun k hk hf=>by
  obtain ⟨h1,h2⟩:=h.block k hk hf
  refine ⟨(hg.block k (by have:=h.size;omega) (by simp;omega)).trans h1,h2.1,h2.2.1,fun o s r c hb=>h2.2.2 o s r c ?_⟩
  rw [← hb]
  exact (hg.block _ hF (by simpa using hNF)).symm⟩
theorem BW.own {K:BK}{w5 w9:World}{v:Vars}{t:Tk}{N:Nat}{cs:Array Value}{e:TypeId}{fr:Nat × Nat}(h:BW K w5 v t)(hg:w5.grownBy w9 (some N))(hf:bA K w5 N)(hc:w5.heap[N]?=some (.cells cs e fr))(hB:K.B≤N):BW K w9 v t:=by
 obtain ⟨o,s,r,c,h4⟩:=h.rows
 obtain ⟨f1,f2,f3⟩:=hf
 obtain ⟨f4,f5,f6,f7⟩:=f3 _ _ _ _ h4.blk
 have blk:∀ k,k<w5.heap.size→k≠N→w9.heap[k]?=w5.heap[k]?:=fun k hk hne=>hg.block k hk (by simpa using hne)
 have hF:=h4.lt
 have hb:=h.base
 refine ⟨h.ja.same fun b o hb'=>World.cell?_of_block (a:=⟨b,o,none⟩) (blk b (by omega) (by omega)),h.base,h.mp.keep (blk _ h.mp.lt (fun e'=>In.far h.mp hc e'.symm)),h.nums,⟨o,s,r,c,(blk _ hF (Ne.symm f1)).trans h4.blk,?_,?_,?_,?_,h4.far⟩,h.vars.keep (blk _ h.vars.lt (Ne.symm f2)),h.once⟩
 ·exact fF h4.jJ fun k hk=>blk k (bq h4.jJ k hk).2.1 (fun e'=>f4 (by rw [← e'];exact hk))
 ·exact fF h4.lZ fun k hk=>blk k (bq h4.lZ k hk).2.1 (fun e'=>f5 (by rw [← e'];exact hk))
 ·exact fF h4.lD fun k hk=>blk k (bq h4.lD k hk).2.1 (fun e'=>f6 (by rw [← e'];exact hk))
 ·exact fF h4.kS fun k hk=>blk k (bq h4.kS k hk).2.1 (fun e'=>f7 (by rw [← e'];exact hk))
theorem QL (K:BK)(v:Vars)(d:Nat)(ex:Sy.Ex→Tk→Except Int (Sy.Ty × Tk))(hC:Hid (kF K v d ex))(x:Sy.Ex)(xa:Option Addr)(xc:Nat)(t:Tk)(n m:Nat)(w:World)(r:Except Int (Sy.Df × Tk))(h:Hid (BW K w v t))(hx:Hid (∃ h,aJ K.B w h x xa))(hn:Hid (Sy.aF d x n=.ok m))(ht:Hid (aT t n))(h2:n≤2000)
  (hr:Hid (r=started K.l ex x t)) :
  Calls Tryz.prog 147 #[.pointer (some ⟨K.F,0,none⟩),dH x xa xc] w fun e w'=>Bd K w v r e w':=by
 have hF:=h.out.lt
 obtain ⟨W0,hW0⟩:∃ W0,W0=(w.alloc (.cells #[.int .i64 x.kind,.int .i64 x.n,.string x.name,.slice xa x.kids.length xc] 122)).alloc zD:=⟨_,rfl⟩
 have aM:Hid (af K w W0):=by rw [hW0];exact af.grown (bu _ _) hF
 have HB0:Hid (BW K W0 v t):=by rw [hW0];exact h.out.grown (bu _ _)
 have aR:Hid (∃ h,aJ K.B W0 h x xa):=by
  obtain ⟨hh,hE⟩:=hx.out
  exact ⟨hh,hE.same (h.out.same aM.out)⟩
 have HZ0:Hid (W0.heap[w.heap.size+1]?=some zD∧bA K W0 (w.heap.size+1)):=by
  rw [hW0]
  refine ⟨?_,h.out.free (bu _ _) (by omega)⟩
  have:=heap_alloc_new (w.alloc (.cells #[.int .i64 x.kind,.int .i64 x.n,.string x.name,.slice xa x.kids.length xc] 122)) zD
  simpa using this
 obtain ⟨er,her⟩:∃ er,er=ex x t:=⟨_,rfl⟩
 have dL:Hid (er=ex x t):=her
 have ae:Hid (r=andThen er fun p=>if p.1.kind≠3 then .error 9 else andThen (Sm.want K.l 3 p.1.gen) fun n=>.ok (bJ K.l n,p.2)):=by
  unfold Hid
  rw [hr.out,her,started]
 have HW0:Hid (W0=_):=hW0
 clear hr her hW0
 go_enter Tryz.func147,Tryz.ntmps147
 go_wp2_with fail
 rw [← HW0.out]
 refine (hC.out x xa xc t n m W0 _ HB0 aR hn ht h2 (by rw [← dL.out];exact rfl)).mono ?_
 rintro e w2 ⟨wV,he2⟩
 have bD:Hid (af K W0 w2):=wV
 cases er with
 | error y =>
  obtain ⟨rfl,v2,t2,hb2,hp2⟩:=he2
  have HE:Hid (Bd K w v r (.panicked [aH y K.num]) w2):=by
   rw [ae.out]
   exact ⟨aM.out.trans bD.out,rfl,v2,t2,hb2,hp2⟩
  clear wV hb2 hp2
  go_wp2
  exact ⟨rfl,HE.out⟩
 | ok p =>
  obtain ⟨⟨pk,pg⟩,pt⟩:=p
  obtain ⟨rfl,hb2⟩:=he2
  have HB2:Hid (BW K w2 v pt):=hb2
  obtain ⟨W3,hW3⟩:∃ W3,W3=w2.alloc (.cells #[.int .i64 pk,.string pg] 46):=⟨_,rfl⟩
  have fe:Hid (af K w W3):=by rw [hW3];exact (aM.out.trans bD.out).trans (af.alloc K w2 _ hb2.lt)
  have HB3:Hid (BW K W3 v pt):=by rw [hW3];exact hb2.grown (bn _)
  obtain ⟨o,sn,rr,cc,h4⟩:=HB3.out.rows
  obtain ⟨c0,c1,c2,_⟩:=fE h4.blk
  obtain ⟨y0,y1,_,_⟩:=bE (w:=W3) (b:=w2.heap.size) (v0:=.int .i64 pk) (v1:=.string pg) (t:=46) (by rw [hW3];exact heap_alloc_new w2 _)
  have HW3:Hid (W3=_):=hW3
  clear wV hb2 h4 hW3
  by_cases h3:pk=3
  ·subst h3
   obtain ⟨wr,hwr⟩:∃ wr,wr=Sm.want K.l 3 pg:=⟨_,rfl⟩
   have Bg:Hid (r=andThen wr fun n=>.ok (bJ K.l n,pt)):=by
    unfold Hid
    rw [ae.out,andThen_ok,if_neg (by simp),hwr]
   have sQ:Hid (wr=Sm.want K.l 3 pg):=hwr
   have hB3:K.B≤W3.heap.size:=by have:=HB3.out.base;have:=HB3.out.lt;omega
   clear hwr
   cases wr with
   | error y =>
    go_wp2_with fail
    rw [← HW3.out]
    refine wp_region_held_drew (S:=fun w'=>w'.cell? ⟨K.F,0,none⟩=some (.slice K.a K.l.length K.c)∧w'.cell? ⟨K.F,1,none⟩=some (.map (some K.M))∧w'.cell? ⟨K.F,2,none⟩=some (.int .i64 K.num)∧w'.cell? ⟨w2.heap.size,1,none⟩=some (.string pg)) (by kernel_rfl) ⟨c0,c1,c2,y1⟩ (fun hHeld=>?_)
    refine tk 0 (v:=?_) rfl ?_ (by assumption) ?_
    rotate_left
    ·intro w hSw
     (try dsimp only at hSw)
     go_simp
     (try with_reducible rfl)
    (try go_frame)
    refine tk 1 (v:=?_) rfl ?_ (by assumption) ?_
    rotate_left
    ·intro w hSw
     (try dsimp only at hSw)
     go_simp
     (try with_reducible rfl)
    (try go_frame)
    refine tk 2 (v:=?_) rfl ?_ (by assumption) ?_
    rotate_left
    ·intro w hSw
     (try dsimp only at hSw)
     go_simp
     (try with_reducible rfl)
    (try go_frame)
    refine tk 3 (v:=?_) rfl ?_ (by assumption) ?_
    rotate_left
    ·intro w hSw
     (try dsimp only at hSw)
     go_simp
     (try with_reducible rfl)
    (try go_frame)
    refine tk 4 (v:=?_) rfl ?_ (by assumption) ?_
    rotate_left
    ·intro w hSw
     (try dsimp only at hSw)
     go_simp
     (try with_reducible rfl)
    (try go_frame)
    refine tk 5 (v:=?_) rfl ?_ (by assumption) ?_
    rotate_left
    ·intro w hSw
     (try dsimp only at hSw)
     go_simp
     (try with_reducible rfl)
    (try go_frame)
    refine tk 6 (v:=?_) rfl ?_ (by assumption) ?_
    rotate_left
    ·intro w hSw
     (try dsimp only at hSw)
     go_simp
     (try with_reducible rfl)
    (try go_frame)
    refine tk 7 (v:=?_) rfl ?_ (by assumption) ?_
    rotate_left
    ·intro w hSw
     (try dsimp only at hSw)
     go_simp
     (try with_reducible rfl)
    (try go_frame)
    refine tk 8 (v:=?_) rfl ?_ (by assumption) ?_
    rotate_left
    ·intro w hSw
     (try dsimp only at hSw)
     go_simp
     (try with_reducible rfl)
    (try go_frame)
    refine tk 9 (v:=?_) rfl ?_ (by assumption) ?_
    rotate_left
    ·intro w hSw
     (try dsimp only at hSw)
     go_simp
     (try with_reducible rfl)
    (try go_frame)
    refine tk 10 (v:=?_) rfl ?_ (by assumption) ?_
    rotate_left
    ·intro w hSw
     (try dsimp only at hSw)
     go_simp
     (try with_reducible rfl)
    (try go_frame)
    refine tk 11 (v:=?_) rfl ?_ (by assumption) ?_
    rotate_left
    ·intro w hSw
     (try dsimp only at hSw)
     go_simp
     (try with_reducible rfl)
    (try go_frame)
    refine wpAnyH_ready (rs:=[12]) (by kernel_rfl) (by simp) ?_
    refine AllReadyH.cons (o:=_) rfl (fun K' hK=>?_) AllReadyH.nil
    go_simp
    refine (tY K.B K.l K.a K.c K.M K.num 3 pg K.R W3.drew (.error y) (by exact HB3.out.drew.fH) (by exact hB3) (by exact HB3.out.drew.mp) (by exact HB3.out.nums) (by rw [← sQ.out];exact rfl)).mono ?_
    rintro e w5 ⟨hg5,rfl⟩
    have HE:Hid (Bd K w v r (.panicked [aH y K.num]) w5):=by
     have hg:W3.grownBy w5 none:=⟨hg5.os,hg5.tape,hg5.output,hg5.size,hg5.block⟩
     rw [Bg.out]
     exact ⟨fe.out.trans (af.grown hg HB3.out.lt),rfl,v,pt,HB3.out.grown hg,List.prefix_refl _⟩
    clear hg5 hK
    go_wp2
    exact ⟨rfl,HE.out⟩
   | ok i =>
    have hi:i<K.l.length:=by
     have:=sQ.out
     unfold Sm.want at this
     cases hq:numOf K.l pg with
     | none=>rw [hq] at this;cases this
     | some i' =>
      rw [hq] at this
      dsimp only at this
      split at this
      ·cases this;exact D8 hq
      ·cases this
    obtain ⟨D,hD⟩:∃ D,D=K.l[i]:=⟨_,rfl⟩
    have wW:Hid (bJ K.l i=D):=by unfold Hid;rw [hD];simp [bJ,List.getElem?_eq_getElem hi]
    obtain ⟨b,off,pa,pc,ba,bc,ha,hb,k0,k1,k2,k3,k4,k5,k6,k7,k8,hdf⟩:=HB3.out.fH.2 i D (by rw [hD];exact List.getElem?_eq_getElem hi)
    have jk:K.l.length≤maxLen:=HB3.out.fH.1
    obtain ⟨L,hL⟩:∃ L,L=K.l.length:=⟨_,rfl⟩
    have HL:Hid (L=K.l.length):=hL
    rw [← hL] at hi jk c0
    rw [ha] at c0
    have HA:Hid (K.a=some ⟨b,off,none⟩):=ha
    have wX:Hid (jL K.B W3 D pa ba):=hdf
    have hbW:b<W3.heap.size:=by omega
    have Ea:K.F<W3.heap.size:=HB3.out.lt
    have hyW:w2.heap.size<W3.heap.size:=by rw [HW3.out];simp
    have HS:Hid (∀ w',W3.grownBy w' none→(w'.cell? ⟨K.F,0,none⟩=some (.slice (some ⟨b,off,none⟩) L K.c)∧w'.cell? ⟨K.F,1,none⟩=some (.map (some K.M))∧w'.cell? ⟨K.F,2,none⟩=some (.int .i64 K.num)∧w'.cell? ⟨w2.heap.size,1,none⟩=some (.string pg)∧w'.cell? ⟨b,off+i * 9,none⟩=some (.int .i64 D.kind)∧w'.cell? ⟨b,off+i * 9+1,none⟩=some (.string D.name)∧w'.cell? ⟨b,off+i * 9+2,none⟩=some (.int .i64 D.ty.kind)∧w'.cell? ⟨b,off+i * 9+3,none⟩=some (.string D.ty.gen)∧w'.cell? ⟨b,off+i * 9+4,none⟩=some (.int .i64 D.takes.kind)∧w'.cell? ⟨b,off+i * 9+5,none⟩=some (.string D.takes.gen)∧w'.cell? ⟨b,off+i * 9+6,none⟩=some (.int .i64 D.cap)∧w'.cell? ⟨b,off+i * 9+7,none⟩=some (.slice pa D.params.length pc)∧w'.cell? ⟨b,off+i * 9+8,none⟩=some (.slice ba D.body.length bc))):=fun w' hg=>by
     have cF:∀ o,w'.cell? ⟨K.F,o,none⟩=W3.cell? ⟨K.F,o,none⟩:=fun o=>World.cell?_of_block (a:=⟨K.F,o,none⟩) (hg.block _ Ea (by simp))
     have cB:∀ o,w'.cell? ⟨b,o,none⟩=W3.cell? ⟨b,o,none⟩:=fun o=>World.cell?_of_block (a:=⟨b,o,none⟩) (hg.block _ hbW (by simp))
     have cY:∀ o,w'.cell? ⟨w2.heap.size,o,none⟩=W3.cell? ⟨w2.heap.size,o,none⟩:=fun o=>World.cell?_of_block (a:=⟨w2.heap.size,o,none⟩) (hg.block _ hyW (by simp))
     rw [cF,cF,cF,cY,cB,cB,cB,cB,cB,cB,cB,cB,cB]
     exact ⟨c0,c1,c2,y1,k0,k1,k2,k3,k4,k5,k6,k7,k8⟩
    have HZ3:Hid (W3.heap[w.heap.size+1]?=some zD):=by
     have h1:=(bD.out.block _ (lt_of_block HZ0.out.1) HZ0.out.2).1.trans HZ0.out.1
     rw [HW3.out]
     exact (Below.heap_alloc _ _ _ (lt_of_block h1)).trans h1
    have hz3:=lt_of_block HZ3.out
    have hnF:K.F≠w.heap.size+1:=by omega
    clear hD ha hdf hL
    go_wp2_with fail
    rw [← HW3.out]
    refine wp_region_held_drew (S:=fun w'=>w'.cell? ⟨K.F,0,none⟩=some (.slice (some ⟨b,off,none⟩) L K.c)∧w'.cell? ⟨K.F,1,none⟩=some (.map (some K.M))∧w'.cell? ⟨K.F,2,none⟩=some (.int .i64 K.num)∧w'.cell? ⟨w2.heap.size,1,none⟩=some (.string pg)∧w'.cell? ⟨b,off+i * 9,none⟩=some (.int .i64 D.kind)∧w'.cell? ⟨b,off+i * 9+1,none⟩=some (.string D.name)∧w'.cell? ⟨b,off+i * 9+2,none⟩=some (.int .i64 D.ty.kind)∧w'.cell? ⟨b,off+i * 9+3,none⟩=some (.string D.ty.gen)∧w'.cell? ⟨b,off+i * 9+4,none⟩=some (.int .i64 D.takes.kind)∧w'.cell? ⟨b,off+i * 9+5,none⟩=some (.string D.takes.gen)∧w'.cell? ⟨b,off+i * 9+6,none⟩=some (.int .i64 D.cap)∧w'.cell? ⟨b,off+i * 9+7,none⟩=some (.slice pa D.params.length pc)∧w'.cell? ⟨b,off+i * 9+8,none⟩=some (.slice ba D.body.length bc)) (by kernel_rfl) (HS.out W3.drew ⟨rfl,rfl,rfl,Nat.le_refl _,fun _ _ _=>rfl⟩) (fun hHeld=>?_)
    refine tk 0 (v:=?_) rfl ?_ (by assumption) ?_
    rotate_left
    ·intro w hSw
     (try dsimp only at hSw)
     go_simp
     (try with_reducible rfl)
    (try go_frame)
    refine tk 1 (v:=?_) rfl ?_ (by assumption) ?_
    rotate_left
    ·intro w hSw
     (try dsimp only at hSw)
     go_simp
     (try with_reducible rfl)
    (try go_frame)
    refine tk 2 (v:=?_) rfl ?_ (by assumption) ?_
    rotate_left
    ·intro w hSw
     (try dsimp only at hSw)
     go_simp
     (try with_reducible rfl)
    (try go_frame)
    refine tk 3 (v:=?_) rfl ?_ (by assumption) ?_
    rotate_left
    ·intro w hSw
     (try dsimp only at hSw)
     go_simp
     (try with_reducible rfl)
    (try go_frame)
    refine tk 4 (v:=?_) rfl ?_ (by assumption) ?_
    rotate_left
    ·intro w hSw
     (try dsimp only at hSw)
     go_simp
     (try with_reducible rfl)
    (try go_frame)
    refine tk 5 (v:=?_) rfl ?_ (by assumption) ?_
    rotate_left
    ·intro w hSw
     (try dsimp only at hSw)
     go_simp
     (try with_reducible rfl)
    (try go_frame)
    refine tk 6 (v:=?_) rfl ?_ (by assumption) ?_
    rotate_left
    ·intro w hSw
     (try dsimp only at hSw)
     go_simp
     (try with_reducible rfl)
    (try go_frame)
    refine tk 7 (v:=?_) rfl ?_ (by assumption) ?_
    rotate_left
    ·intro w hSw
     (try dsimp only at hSw)
     go_simp
     (try with_reducible rfl)
    (try go_frame)
    refine tk 8 (v:=?_) rfl ?_ (by assumption) ?_
    rotate_left
    ·intro w hSw
     (try dsimp only at hSw)
     go_simp
     (try with_reducible rfl)
    (try go_frame)
    refine tk 9 (v:=?_) rfl ?_ (by assumption) ?_
    rotate_left
    ·intro w hSw
     (try dsimp only at hSw)
     go_simp
     (try with_reducible rfl)
    (try go_frame)
    refine tk 10 (v:=?_) rfl ?_ (by assumption) ?_
    rotate_left
    ·intro w hSw
     (try dsimp only at hSw)
     go_simp
     (try with_reducible rfl)
    (try go_frame)
    refine tk 11 (v:=?_) rfl ?_ (by assumption) ?_
    rotate_left
    ·intro w hSw
     (try dsimp only at hSw)
     go_simp
     (try with_reducible rfl)
    (try go_frame)
    refine wpAnyH_ready (rs:=[12]) (by kernel_rfl) (by simp) ?_
    refine AllReadyH.cons (o:=_) rfl (fun K' hK=>?_) AllReadyH.nil
    go_simp
    have zU:=tY K.B K.l (some ⟨b,off,none⟩) K.c K.M K.num 3 pg K.R W3.drew (.ok (.int .i64 (i:Int))) (by rw [← HA.out];exact HB3.out.drew.fH) (by exact hB3) (by exact HB3.out.drew.mp) (by exact HB3.out.nums) (by rw [← sQ.out];exact rfl)
    rw [← HL.out] at zU
    refine zU.mono ?_
    rintro e w5 ⟨yM,rfl⟩
    have hg:W3.grownBy w5 none:=⟨yM.os,yM.tape,yM.output,yM.size,yM.block⟩
    have bY:Hid (W3.grownBy w5 none):=hg
    have mf:w5.heap[w.heap.size+1]?=some zD:=(hg.block _ hz3 (by simp)).trans HZ3.out
    have gV:Hid (w5.heap[w.heap.size+1]?=some zD):=mf
    have zf:w5.frozen? ⟨w.heap.size+1,0,none⟩=false∧w5.frozen? ⟨w.heap.size+1,1,none⟩=false∧w5.frozen? ⟨w.heap.size+1,2,none⟩=false∧w5.frozen? ⟨w.heap.size+1,3,none⟩=false∧w5.frozen? ⟨w.heap.size+1,4,none⟩=false∧w5.frozen? ⟨w.heap.size+1,5,none⟩=false∧w5.frozen? ⟨w.heap.size+1,6,none⟩=false∧w5.frozen? ⟨w.heap.size+1,7,none⟩=false∧w5.frozen? ⟨w.heap.size+1,8,none⟩=false:=by simp [World.frozen?,mf]
    have zc:w5.cell? ⟨w.heap.size+1,0,none⟩=some (.int .i64 0)∧w5.cell? ⟨w.heap.size+1,1,none⟩=some (.string ⟨#[]⟩)∧w5.cell? ⟨w.heap.size+1,2,none⟩=some (.int .i64 0)∧w5.cell? ⟨w.heap.size+1,3,none⟩=some (.string ⟨#[]⟩)∧w5.cell? ⟨w.heap.size+1,4,none⟩=some (.int .i64 0)∧w5.cell? ⟨w.heap.size+1,5,none⟩=some (.string ⟨#[]⟩)∧w5.cell? ⟨w.heap.size+1,6,none⟩=some (.int .i64 0)∧w5.cell? ⟨w.heap.size+1,7,none⟩=some (.slice none 0 0)∧w5.cell? ⟨w.heap.size+1,8,none⟩=some (.slice none 0 0):=by simp [World.cell?,mf]
    obtain ⟨Jt,Ju,QM,QN,QO,QP,QQ,QR,QS⟩:=zf
    obtain ⟨QT,QU,QV,QW,QX,QY,QZ,Q3,Q4⟩:=zc
    refine hK.out _ _ (HS.out w5 hg) (fun hHeld=>?_)
    clear hK yM hg mf zU
    refine tk 13 (v:=?_) rfl ?_ (by assumption) ?_
    rotate_left
    ·intro w hSw
     (try dsimp only at hSw)
     go_simp
     (try with_reducible rfl)
    (try go_frame)
    refine tk 14 (v:=?_) rfl ?_ (by assumption) ?_
    rotate_left
    ·intro w hSw
     (try dsimp only at hSw)
     go_simp
     (try with_reducible rfl)
    (try go_frame)
    refine wpAnyH_ready (rs:=[15]) (by kernel_rfl) (by simp) ?_
    refine AllReadyH.cons (o:=_) rfl (fun K' hK=>?_) AllReadyH.nil
    go_simp
    have hbn:b≠w.heap.size+1:=by have:=HB3.out.base;omega
    have hyn:w2.heap.size≠w.heap.size+1:=by have:=bD.out.size;have:=lt_of_block HZ0.out.1;omega
    have Q5:K.F<w5.heap.size:=by have:=bY.out.size;omega
    have lu:Hid (w5.grownBy (sP w5 (w.heap.size+1) (.int .i64 D.kind) (.string D.name) (.int .i64 D.ty.kind) (.string D.ty.gen) (.int .i64 D.takes.kind) (.string D.takes.gen) (.int .i64 D.cap) (.slice pa D.params.length pc) (.slice ba D.body.length bc)) (some (w.heap.size+1))):=QK
    have Bh:Hid ((sP w5 (w.heap.size+1) (.int .i64 D.kind) (.string D.name) (.int .i64 D.ty.kind) (.string D.ty.gen) (.int .i64 D.takes.kind) (.string D.takes.gen) (.int .i64 D.cap) (.slice pa D.params.length pc) (.slice ba D.body.length bc)).heap[w.heap.size+1]?=some (.cells #[.int .i64 D.kind,.string D.name,.int .i64 D.ty.kind,.string D.ty.gen,.int .i64 D.takes.kind,.string D.takes.gen,.int .i64 D.cap,.slice pa D.params.length pc,.slice ba D.body.length bc] 50 (0,0))):=QJ gV.out
    obtain ⟨W9,dw⟩:∃ W9,W9=sP w5 (w.heap.size+1) (.int .i64 D.kind) (.string D.name) (.int .i64 D.ty.kind) (.string D.ty.gen) (.int .i64 D.takes.kind) (.string D.takes.gen) (.int .i64 D.cap) (.slice pa D.params.length pc) (.slice ba D.body.length bc):=⟨_,rfl⟩
    rw [← dw] at lu Bh
    have Q6:(fun w'=>w'.cell? ⟨K.F,0,none⟩=some (.slice (some ⟨b,off,none⟩) L K.c)∧w'.cell? ⟨K.F,1,none⟩=some (.map (some K.M))∧w'.cell? ⟨K.F,2,none⟩=some (.int .i64 K.num)∧w'.cell? ⟨w2.heap.size,1,none⟩=some (.string pg)∧w'.cell? ⟨b,off+i * 9,none⟩=some (.int .i64 D.kind)∧w'.cell? ⟨b,off+i * 9+1,none⟩=some (.string D.name)∧w'.cell? ⟨b,off+i * 9+2,none⟩=some (.int .i64 D.ty.kind)∧w'.cell? ⟨b,off+i * 9+3,none⟩=some (.string D.ty.gen)∧w'.cell? ⟨b,off+i * 9+4,none⟩=some (.int .i64 D.takes.kind)∧w'.cell? ⟨b,off+i * 9+5,none⟩=some (.string D.takes.gen)∧w'.cell? ⟨b,off+i * 9+6,none⟩=some (.int .i64 D.cap)∧w'.cell? ⟨b,off+i * 9+7,none⟩=some (.slice pa D.params.length pc)∧w'.cell? ⟨b,off+i * 9+8,none⟩=some (.slice ba D.body.length bc)) W9:=by
     have cF:∀ o,W9.cell? ⟨K.F,o,none⟩=w5.cell? ⟨K.F,o,none⟩:=fun o=>World.cell?_of_block (a:=⟨K.F,o,none⟩) (lu.out.block _ Q5 (by simpa using hnF))
     have cB:∀ o,W9.cell? ⟨b,o,none⟩=w5.cell? ⟨b,o,none⟩:=fun o=>World.cell?_of_block (a:=⟨b,o,none⟩) (lu.out.block b (by have:=bY.out.size;omega) (by simpa using hbn))
     have cY:∀ o,W9.cell? ⟨w2.heap.size,o,none⟩=w5.cell? ⟨w2.heap.size,o,none⟩:=fun o=>World.cell?_of_block (a:=⟨w2.heap.size,o,none⟩) (lu.out.block w2.heap.size (by have:=bY.out.size;omega) (by simpa using hyn))
     dsimp only
     rw [cF,cF,cF,cY,cB,cB,cB,cB,cB,cB,cB,cB,cB]
     exact HS.out w5 bY.out
    have HE:Hid (Bd K w v r (.returned (o9 D pa pc ba bc)) W9):=by
     have hK5:af K w w5:=fe.out.trans (af.grown bY.out HB3.out.lt)
     have hf2:=(bD.out.block _ (lt_of_block HZ0.out.1) HZ0.out.2).2
     have jF:bA K w5 (w.heap.size+1):=by
      have hl2:w.heap.size+1<w2.heap.size:=by have:=bD.out.size;have:=lt_of_block HZ0.out.1;omega
      have hg3:w2.grownBy W3 none:=by rw [HW3.out];exact bn _
      exact ((af.grown (K:=K) (aB hg3 bY.out) HB2.out.lt).block _ hl2 hf2).2
     have hb5:BW K w5 v pt:=HB3.out.grown bY.out
     have Jv:K.B≤w.heap.size+1:=by have:=h.out.base;omega
     have dD:BW K W9 v pt:=hb5.own lu.out jF gV.out Jv
     rw [Bg.out,andThen_ok,wW.out]
     refine ⟨hK5.own lu.out (by omega) hnF Q5,⟨_,rfl,pa,pc,ba,bc,rfl,?_⟩,dD⟩
     refine wX.out.same fun b' o' hb'=>World.cell?_of_block (a:=⟨b',o',none⟩) ?_
     exact (lu.out.block b' (by have:=bY.out.size;omega) (by simp;omega)).trans (bY.out.block b' (by omega) (by simp))
    rw [show ((((((((w5.setCell ⟨w.heap.size+1,0,none⟩ (.int .i64 D.kind)).setCell ⟨w.heap.size+1,1,none⟩ (.string D.name)).setCell ⟨w.heap.size+1,2,none⟩ (.int .i64 D.ty.kind)).setCell ⟨w.heap.size+1,3,none⟩ (.string D.ty.gen)).setCell ⟨w.heap.size+1,4,none⟩ (.int .i64 D.takes.kind)).setCell ⟨w.heap.size+1,5,none⟩ (.string D.takes.gen)).setCell ⟨w.heap.size+1,6,none⟩ (.int .i64 D.cap)).setCell ⟨w.heap.size+1,7,none⟩ (.slice pa D.params.length pc)).setCell ⟨w.heap.size+1,8,none⟩ (.slice ba D.body.length bc)=W9 from dw.symm]
    refine hK.out _ _ Q6 (fun hHeld=>?_)
    have q9:=Bh.out
    clear hK Q6 dw Jt Ju QM QN QO QP QQ QR QS QT QU QV QW QX QY QZ Q3 Q4
    refine wpAnyH_done (by kernel_rfl) ?_ _
    go_wp2
    refine bodyPost_ret (v:=o9 D pa pc ba bc) (by simp [results,Tryz.results147,go_sem,World.cell?,q9]) rfl ?_
    exact HE.out
  ·have gF:Hid (r=.error 9):=by unfold Hid;rw [ae.out,andThen_ok,if_pos h3]
   have h3':(pk != 3)=true:=by simpa using h3
   clear h3
   rw [HW3.out] at c0 c1 c2 y0 y1
   go_wp2_with fail
   refine (jy K.l.length K.a K.c K.M K.num 9 _).mono ?_
   rintro e w5 ⟨rfl,hg5⟩
   have HE:Hid (Bd K w v r (.panicked [aH 9 K.num]) w5):=by
    rw [← HW3.out] at hg5
    rw [gF.out]
    exact ⟨fe.out.trans (af.grown hg5 HB3.out.lt),rfl,v,pt,HB3.out.grown hg5,List.prefix_refl _⟩
   clear hg5
   go_wp2
   exact ⟨rfl,HE.out⟩
end Sm
namespace Sm
theorem aa9 {K:BK}{w:World}{o s r c:Value}(h:w.heap[K.F]?=some (K.obj o s r c))(v:Value):(w.setCell ⟨K.F,5,none⟩ v).heap[K.F]?=some (K.obj o v r c):=by
 simp only [World.setCell,Array.getElem?_modify,if_true,h,Option.map_some]
 rfl
theorem aba {K:BK}{v:Vars}{t:Tk}{w w2 w4:World}{o2:Obj}{ord sn rc cl:Value}{g cap i:Nat}(h:BW K w v t)(h4:lY K w v t ord sn rc cl)(hg2:w.grownBy w2 none)(hg4:(w2.alloc o2).grownBy w4 sn.ownBlock)
  (hown:w4.ownsRow K.B 3 1 (.slice (some ⟨g,0,none⟩) (t.sends.length+1) cap) (t.sends.length+1) (bF t.sends++[.int .i64 (i:Int)])) (hw:sn.ownBlock=some g∨g=(w2.alloc o2).heap.size) :
  BW K (w4.setCell ⟨K.F,5,none⟩ (.slice (some ⟨g,0,none⟩) (t.sends.length+1) cap)) v ⟨t.sends++[i],t.recvs,t.calls⟩∧af K w (w4.setCell ⟨K.F,5,none⟩ (.slice (some ⟨g,0,none⟩) (t.sends.length+1) cap)):=by
 obtain ⟨nv,qm⟩:∃ nv,nv=Value.slice (some ⟨g,0,none⟩) (t.sends.length+1) cap:=⟨_,rfl⟩
 have hno:nv.ownBlock=some g:=by rw [qm];rfl
 rw [← qm] at hown ⊢
 obtain ⟨hx,hy,hz,ni⟩:w.ownsRow K.B 3 1 sn t.sends.length (bF t.sends)∧w.ownsRow K.B 3 1 rc t.recvs.length (bF t.recvs)∧w.ownsRow K.B 3 1 cl t.calls.length (bF t.calls)∧∀ k,sn.ownBlock=some k→rc.ownBlock≠some k∧cl.ownBlock≠some k:=⟨h4.lZ,h4.lD,h4.kS,fun k hk=>(h4.far k).1 hk⟩
 have hz2:=hg2.size
 have qG:w2.heap.size+1≤w4.heap.size:=by simpa using hg4.size
 have yN:sn.ownBlock≠some K.F:=fun e=>by
  obtain ⟨_,_,cur,hc⟩:=bq hx _ e
  rw [h4.blk] at hc
  cases hc
 have blk:∀ k,k<w.heap.size→sn.ownBlock≠some k→w4.heap[k]?=w.heap[k]?:=fun k hk h2 =>
  ((hg4.block k (by simp;omega) (fun e=>h2 e.symm)).trans (Below.heap_alloc _ _ _ (by omega))).trans (hg2.block k hk (by simp))
 have eT:w4.heap[K.F]?=some (K.obj ord sn rc cl):=(blk _ h4.lt yN).trans h4.blk
 have gL:=aa9 eT nv
 have set:∀ k,k≠K.F→(w4.setCell ⟨K.F,5,none⟩ nv).heap[k]?=w4.heap[k]?:=fun k hk=>Below.heap_setCell w4 ⟨K.F,5,none⟩ nv k hk
 have all:∀ k,k<w.heap.size→k≠K.F→sn.ownBlock≠some k→(w4.setCell ⟨K.F,5,none⟩ nv).heap[k]?=w.heap[k]?:=fun k hk h1 h3=>(set k h1).trans (blk k hk h3)
 have others:∀ {e:TypeId} {x:Value} {n:Nat} {xs:List Value},w.ownsRow K.B e 1 x n xs→e≠110→(∀ k,sn.ownBlock=some k→x.ownBlock≠some k)→(w4.setCell ⟨K.F,5,none⟩ nv).ownsRow K.B e 1 x n xs:=fun {e x n xs} ho he hf=>fF ho fun k hk=>by
  obtain ⟨_,hlt,cur,hc⟩:=bq ho k hk
  refine all k hlt (fun e'=>?_) (fun e'=>hf k e' hk)
  rw [e',h4.blk] at hc
  simp at hc
  exact he hc.2.symm
 have kT:∀ {M:Nat} {R:Ms.Row},Ms.In w M R→M≠K.F∧sn.ownBlock≠some M:=fun {M R} hm=>⟨fun e=>(In.far hm h4.blk) e.symm,fun e=>by
  obtain ⟨_,_,cur',hc'⟩:=bq hx _ e
  exact (In.far hm hc') rfl⟩
 have ny:∀ {y:Value} {n:Nat} {xs:List Value},w.ownsRow K.B 3 1 y n xs→(∀ k,sn.ownBlock=some k→y.ownBlock≠some k)→∀ k,y.ownBlock=some k→nv.ownBlock≠some k:=fun {y n xs} ho hf k hk e=>by
  rw [hno] at e
  cases e
  rcases hw with hw | hw
  ·exact hf _ hw hk
  ·have:=(bq ho _ hk).2.1
   simp at hw
   omega
 have hnew:(w4.setCell ⟨K.F,5,none⟩ nv).ownsRow K.B 3 1 nv (t.sends++[i]).length (bF (t.sends++[i])):=by
  rw [show (t.sends++[i]).length=t.sends.length+1 by simp,show bF (t.sends++[i])=bF t.sends++[.int .i64 (i:Int)] by simp]
  exact fF hown fun k hk=>set k (fun e=>by
   obtain ⟨_,_,cur',hc'⟩:=bq hown k hk
   rw [e,eT] at hc'
   cases hc')
 have sO:=others h4.jJ (by decide) (fun k hk hk2=>by
  obtain ⟨_,_,cur,hc⟩:=bq hx k hk
  obtain ⟨_,_,cur',hc'⟩:=bq h4.jJ k hk2
  rw [hc] at hc'
  cases hc')
 have hy':=others hy (by decide) (fun k hk=>(ni k hk).1)
 have hz':=others hz (by decide) (fun k hk=>(ni k hk).2)
 have n1:=ny hy (fun k hk=>(ni k hk).1)
 have n2:=ny hz (fun k hk=>(ni k hk).2)
 have fr:=h4.far
 refine ⟨⟨?_,h.base,?_,h.nums,⟨ord,nv,rc,cl,gL,sO,hnew,hy',hz',?_⟩,?_,h.once⟩,⟨hg4.os.trans hg2.os,hg4.tape.trans hg2.tape,hg4.output.trans hg2.output,?_,fun k hk hf=>?_⟩⟩
 ·refine h.ja.same fun b o hb=>World.cell?_of_block (a:=⟨b,o,none⟩) ?_
  have hbase:=h.base
  have:=h4.lt
  exact all b (by omega) (by omega) (fun e=>by have:=(bq hx b e).1;omega)
 ·exact h.mp.keep (all _ h.mp.lt (kT h.mp).1 (kT h.mp).2)
 ·intro k
  have f1:=fr k
  have m1:=n1 k
  have m2:=n2 k
  exact ⟨fun e=>⟨fun e2=>m1 e2 e,fun e2=>m2 e2 e⟩,f1.2⟩
 ·exact h.vars.keep (all _ h.vars.lt (kT h.vars).1 (kT h.vars).2)
 ·simp [World.setCell];omega
 ·obtain ⟨f1,f2,f3⟩:=hf
  obtain ⟨f4,f5,f6,f7⟩:=f3 _ _ _ _ h4.blk
  refine ⟨all k hk f1 f5,f1,f2,fun o s r c ho=>?_⟩
  rw [gL] at ho
  obtain ⟨rfl,rfl,rfl,rfl⟩:=uL (Option.some.inj ho)
  have nk:nv.ownBlock≠some k:=fun e=>by
   rw [hno] at e
   cases e
   rcases hw with hw | hw
   ·exact f5 hw
   ·simp at hw;omega
  exact ⟨f4,nk,f6,f7⟩
theorem abb {K:BK}{w:World}{o s r c:Value}(h:w.heap[K.F]?=some (K.obj o s r c))(v:Value):(w.setCell ⟨K.F,6,none⟩ v).heap[K.F]?=some (K.obj o s v c):=by
 simp only [World.setCell,Array.getElem?_modify,if_true,h,Option.map_some]
 rfl
theorem abd {K:BK}{v:Vars}{t:Tk}{w w2 w4:World}{o2:Obj}{ord sn rc cl:Value}{g cap i:Nat}(h:BW K w v t)(h4:lY K w v t ord sn rc cl)(hg2:w.grownBy w2 none)(hg4:(w2.alloc o2).grownBy w4 rc.ownBlock)
  (hown:w4.ownsRow K.B 3 1 (.slice (some ⟨g,0,none⟩) (t.recvs.length+1) cap) (t.recvs.length+1) (bF t.recvs++[.int .i64 (i:Int)])) (hw:rc.ownBlock=some g∨g=(w2.alloc o2).heap.size) :
  BW K (w4.setCell ⟨K.F,6,none⟩ (.slice (some ⟨g,0,none⟩) (t.recvs.length+1) cap)) v ⟨t.sends,t.recvs++[i],t.calls⟩∧af K w (w4.setCell ⟨K.F,6,none⟩ (.slice (some ⟨g,0,none⟩) (t.recvs.length+1) cap)):=by
 obtain ⟨nv,qm⟩:∃ nv,nv=Value.slice (some ⟨g,0,none⟩) (t.recvs.length+1) cap:=⟨_,rfl⟩
 have hno:nv.ownBlock=some g:=by rw [qm];rfl
 rw [← qm] at hown ⊢
 obtain ⟨hx,hy,hz,ni⟩:w.ownsRow K.B 3 1 rc t.recvs.length (bF t.recvs)∧w.ownsRow K.B 3 1 sn t.sends.length (bF t.sends)∧w.ownsRow K.B 3 1 cl t.calls.length (bF t.calls)∧∀ k,rc.ownBlock=some k→sn.ownBlock≠some k∧cl.ownBlock≠some k:=⟨h4.lD,h4.lZ,h4.kS,fun k hk=>⟨fun e=>((h4.far k).1 e).1 hk,(h4.far k).2 hk⟩⟩
 have hz2:=hg2.size
 have qG:w2.heap.size+1≤w4.heap.size:=by simpa using hg4.size
 have yN:rc.ownBlock≠some K.F:=fun e=>by
  obtain ⟨_,_,cur,hc⟩:=bq hx _ e
  rw [h4.blk] at hc
  cases hc
 have blk:∀ k,k<w.heap.size→rc.ownBlock≠some k→w4.heap[k]?=w.heap[k]?:=fun k hk h2 =>
  ((hg4.block k (by simp;omega) (fun e=>h2 e.symm)).trans (Below.heap_alloc _ _ _ (by omega))).trans (hg2.block k hk (by simp))
 have eT:w4.heap[K.F]?=some (K.obj ord sn rc cl):=(blk _ h4.lt yN).trans h4.blk
 have gL:=abb eT nv
 have set:∀ k,k≠K.F→(w4.setCell ⟨K.F,6,none⟩ nv).heap[k]?=w4.heap[k]?:=fun k hk=>Below.heap_setCell w4 ⟨K.F,6,none⟩ nv k hk
 have all:∀ k,k<w.heap.size→k≠K.F→rc.ownBlock≠some k→(w4.setCell ⟨K.F,6,none⟩ nv).heap[k]?=w.heap[k]?:=fun k hk h1 h3=>(set k h1).trans (blk k hk h3)
 have others:∀ {e:TypeId} {x:Value} {n:Nat} {xs:List Value},w.ownsRow K.B e 1 x n xs→e≠110→(∀ k,rc.ownBlock=some k→x.ownBlock≠some k)→(w4.setCell ⟨K.F,6,none⟩ nv).ownsRow K.B e 1 x n xs:=fun {e x n xs} ho he hf=>fF ho fun k hk=>by
  obtain ⟨_,hlt,cur,hc⟩:=bq ho k hk
  refine all k hlt (fun e'=>?_) (fun e'=>hf k e' hk)
  rw [e',h4.blk] at hc
  simp at hc
  exact he hc.2.symm
 have kT:∀ {M:Nat} {R:Ms.Row},Ms.In w M R→M≠K.F∧rc.ownBlock≠some M:=fun {M R} hm=>⟨fun e=>(In.far hm h4.blk) e.symm,fun e=>by
  obtain ⟨_,_,cur',hc'⟩:=bq hx _ e
  exact (In.far hm hc') rfl⟩
 have ny:∀ {y:Value} {n:Nat} {xs:List Value},w.ownsRow K.B 3 1 y n xs→(∀ k,rc.ownBlock=some k→y.ownBlock≠some k)→∀ k,y.ownBlock=some k→nv.ownBlock≠some k:=fun {y n xs} ho hf k hk e=>by
  rw [hno] at e
  cases e
  rcases hw with hw | hw
  ·exact hf _ hw hk
  ·have:=(bq ho _ hk).2.1
   simp at hw
   omega
 have hnew:(w4.setCell ⟨K.F,6,none⟩ nv).ownsRow K.B 3 1 nv (t.recvs++[i]).length (bF (t.recvs++[i])):=by
  rw [show (t.recvs++[i]).length=t.recvs.length+1 by simp,show bF (t.recvs++[i])=bF t.recvs++[.int .i64 (i:Int)] by simp]
  exact fF hown fun k hk=>set k (fun e=>by
   obtain ⟨_,_,cur',hc'⟩:=bq hown k hk
   rw [e,eT] at hc'
   cases hc')
 have sO:=others h4.jJ (by decide) (fun k hk hk2=>by
  obtain ⟨_,_,cur,hc⟩:=bq hx k hk
  obtain ⟨_,_,cur',hc'⟩:=bq h4.jJ k hk2
  rw [hc] at hc'
  cases hc')
 have hy':=others hy (by decide) (fun k hk=>(ni k hk).1)
 have hz':=others hz (by decide) (fun k hk=>(ni k hk).2)
 have n1:=ny hy (fun k hk=>(ni k hk).1)
 have n2:=ny hz (fun k hk=>(ni k hk).2)
 have fr:=h4.far
 refine ⟨⟨?_,h.base,?_,h.nums,⟨ord,sn,nv,cl,gL,sO,hy',hnew,hz',?_⟩,?_,h.once⟩,⟨hg4.os.trans hg2.os,hg4.tape.trans hg2.tape,hg4.output.trans hg2.output,?_,fun k hk hf=>?_⟩⟩
 ·refine h.ja.same fun b o hb=>World.cell?_of_block (a:=⟨b,o,none⟩) ?_
  have hbase:=h.base
  have:=h4.lt
  exact all b (by omega) (by omega) (fun e=>by have:=(bq hx b e).1;omega)
 ·exact h.mp.keep (all _ h.mp.lt (kT h.mp).1 (kT h.mp).2)
 ·intro k
  have f1:=fr k
  have m1:=n1 k
  have m2:=n2 k
  exact ⟨fun e=>⟨m1 e,(f1.1 e).2⟩,fun e e2=>m2 e2 e⟩
 ·exact h.vars.keep (all _ h.vars.lt (kT h.vars).1 (kT h.vars).2)
 ·simp [World.setCell];omega
 ·obtain ⟨f1,f2,f3⟩:=hf
  obtain ⟨f4,f5,f6,f7⟩:=f3 _ _ _ _ h4.blk
  refine ⟨all k hk f1 f6,f1,f2,fun o s r c ho=>?_⟩
  rw [gL] at ho
  obtain ⟨rfl,rfl,rfl,rfl⟩:=uL (Option.some.inj ho)
  have nk:nv.ownBlock≠some k:=fun e=>by
   rw [hno] at e
   cases e
   rcases hw with hw | hw
   ·exact f6 hw
   ·simp at hw;omega
  exact ⟨f4,f5,nk,f7⟩
theorem abe {K:BK}{w:World}{o s r c:Value}(h:w.heap[K.F]?=some (K.obj o s r c))(v:Value):(w.setCell ⟨K.F,7,none⟩ v).heap[K.F]?=some (K.obj o s r v):=by
 simp only [World.setCell,Array.getElem?_modify,if_true,h,Option.map_some]
 rfl
theorem Q7 {K:BK}{v:Vars}{t:Tk}{w w2 w4:World}{o2:Obj}{ord sn rc cl:Value}{g cap i:Nat}(h:BW K w v t)(h4:lY K w v t ord sn rc cl)(hg2:w.grownBy w2 none)(hg4:(w2.alloc o2).grownBy w4 cl.ownBlock)
  (hown:w4.ownsRow K.B 3 1 (.slice (some ⟨g,0,none⟩) (t.calls.length+1) cap) (t.calls.length+1) (bF t.calls++[.int .i64 (i:Int)])) (hw:cl.ownBlock=some g∨g=(w2.alloc o2).heap.size) :
  BW K (w4.setCell ⟨K.F,7,none⟩ (.slice (some ⟨g,0,none⟩) (t.calls.length+1) cap)) v ⟨t.sends,t.recvs,t.calls++[i]⟩∧af K w (w4.setCell ⟨K.F,7,none⟩ (.slice (some ⟨g,0,none⟩) (t.calls.length+1) cap)):=by
 obtain ⟨nv,qm⟩:∃ nv,nv=Value.slice (some ⟨g,0,none⟩) (t.calls.length+1) cap:=⟨_,rfl⟩
 have hno:nv.ownBlock=some g:=by rw [qm];rfl
 rw [← qm] at hown ⊢
 obtain ⟨hx,hy,hz,ni⟩:w.ownsRow K.B 3 1 cl t.calls.length (bF t.calls)∧w.ownsRow K.B 3 1 sn t.sends.length (bF t.sends)∧w.ownsRow K.B 3 1 rc t.recvs.length (bF t.recvs)∧∀ k,cl.ownBlock=some k→sn.ownBlock≠some k∧rc.ownBlock≠some k:=⟨h4.kS,h4.lZ,h4.lD,fun k hk=>⟨fun e=>((h4.far k).1 e).2 hk,fun e=>(h4.far k).2 e hk⟩⟩
 have hz2:=hg2.size
 have qG:w2.heap.size+1≤w4.heap.size:=by simpa using hg4.size
 have yN:cl.ownBlock≠some K.F:=fun e=>by
  obtain ⟨_,_,cur,hc⟩:=bq hx _ e
  rw [h4.blk] at hc
  cases hc
 have blk:∀ k,k<w.heap.size→cl.ownBlock≠some k→w4.heap[k]?=w.heap[k]?:=fun k hk h2 =>
  ((hg4.block k (by simp;omega) (fun e=>h2 e.symm)).trans (Below.heap_alloc _ _ _ (by omega))).trans (hg2.block k hk (by simp))
 have eT:w4.heap[K.F]?=some (K.obj ord sn rc cl):=(blk _ h4.lt yN).trans h4.blk
 have gL:=abe eT nv
 have set:∀ k,k≠K.F→(w4.setCell ⟨K.F,7,none⟩ nv).heap[k]?=w4.heap[k]?:=fun k hk=>Below.heap_setCell w4 ⟨K.F,7,none⟩ nv k hk
 have all:∀ k,k<w.heap.size→k≠K.F→cl.ownBlock≠some k→(w4.setCell ⟨K.F,7,none⟩ nv).heap[k]?=w.heap[k]?:=fun k hk h1 h3=>(set k h1).trans (blk k hk h3)
 have others:∀ {e:TypeId} {x:Value} {n:Nat} {xs:List Value},w.ownsRow K.B e 1 x n xs→e≠110→(∀ k,cl.ownBlock=some k→x.ownBlock≠some k)→(w4.setCell ⟨K.F,7,none⟩ nv).ownsRow K.B e 1 x n xs:=fun {e x n xs} ho he hf=>fF ho fun k hk=>by
  obtain ⟨_,hlt,cur,hc⟩:=bq ho k hk
  refine all k hlt (fun e'=>?_) (fun e'=>hf k e' hk)
  rw [e',h4.blk] at hc
  simp at hc
  exact he hc.2.symm
 have kT:∀ {M:Nat} {R:Ms.Row},Ms.In w M R→M≠K.F∧cl.ownBlock≠some M:=fun {M R} hm=>⟨fun e=>(In.far hm h4.blk) e.symm,fun e=>by
  obtain ⟨_,_,cur',hc'⟩:=bq hx _ e
  exact (In.far hm hc') rfl⟩
 have ny:∀ {y:Value} {n:Nat} {xs:List Value},w.ownsRow K.B 3 1 y n xs→(∀ k,cl.ownBlock=some k→y.ownBlock≠some k)→∀ k,y.ownBlock=some k→nv.ownBlock≠some k:=fun {y n xs} ho hf k hk e=>by
  rw [hno] at e
  cases e
  rcases hw with hw | hw
  ·exact hf _ hw hk
  ·have:=(bq ho _ hk).2.1
   simp at hw
   omega
 have hnew:(w4.setCell ⟨K.F,7,none⟩ nv).ownsRow K.B 3 1 nv (t.calls++[i]).length (bF (t.calls++[i])):=by
  rw [show (t.calls++[i]).length=t.calls.length+1 by simp,show bF (t.calls++[i])=bF t.calls++[.int .i64 (i:Int)] by simp]
  exact fF hown fun k hk=>set k (fun e=>by
   obtain ⟨_,_,cur',hc'⟩:=bq hown k hk
   rw [e,eT] at hc'
   cases hc')
 have sO:=others h4.jJ (by decide) (fun k hk hk2=>by
  obtain ⟨_,_,cur,hc⟩:=bq hx k hk
  obtain ⟨_,_,cur',hc'⟩:=bq h4.jJ k hk2
  rw [hc] at hc'
  cases hc')
 have hy':=others hy (by decide) (fun k hk=>(ni k hk).1)
 have hz':=others hz (by decide) (fun k hk=>(ni k hk).2)
 have n1:=ny hy (fun k hk=>(ni k hk).1)
 have n2:=ny hz (fun k hk=>(ni k hk).2)
 have fr:=h4.far
 refine ⟨⟨?_,h.base,?_,h.nums,⟨ord,sn,rc,nv,gL,sO,hy',hz',hnew,?_⟩,?_,h.once⟩,⟨hg4.os.trans hg2.os,hg4.tape.trans hg2.tape,hg4.output.trans hg2.output,?_,fun k hk hf=>?_⟩⟩
 ·refine h.ja.same fun b o hb=>World.cell?_of_block (a:=⟨b,o,none⟩) ?_
  have hbase:=h.base
  have:=h4.lt
  exact all b (by omega) (by omega) (fun e=>by have:=(bq hx b e).1;omega)
 ·exact h.mp.keep (all _ h.mp.lt (kT h.mp).1 (kT h.mp).2)
 ·intro k
  have f1:=fr k
  have m1:=n1 k
  have m2:=n2 k
  exact ⟨fun e=>⟨(f1.1 e).1,m1 e⟩,fun e=>m2 e⟩
 ·exact h.vars.keep (all _ h.vars.lt (kT h.vars).1 (kT h.vars).2)
 ·simp [World.setCell];omega
 ·obtain ⟨f1,f2,f3⟩:=hf
  obtain ⟨f4,f5,f6,f7⟩:=f3 _ _ _ _ h4.blk
  refine ⟨all k hk f1 f7,f1,f2,fun o s r c ho=>?_⟩
  rw [gL] at ho
  obtain ⟨rfl,rfl,rfl,rfl⟩:=uL (Option.some.inj ho)
  have nk:nv.ownBlock≠some k:=fun e=>by
   rw [hno] at e
   cases e
   rcases hw with hw | hw
   ·exact f7 hw
   ·simp at hw;omega
  exact ⟨f4,f5,f6,nk⟩
end Sm
end Go.Proofs.YtolfleeidpeomaaGreatDoor

/- The walk of goOn. -/
import Derived.Test.YtbdpdjcdhclbfaaGreatM14
import Derived.Deep.DeepCutAuto
import Derived.Test.YtbdpdjcdhclbfaaGreatM3
import Derived.Test.YtbdpdjcdhclbfaaGreatM11
set_option maxRecDepth 100000
set_option maxHeartbeats 4000000
namespace Go.Proofs.YtbdpdjcdhclbfaaGreat
open Go.RowKit
def Yg (f:Vf.Fl)(w w2:World)(pv:Value)(wx:World):Prop:=∃ L,pv=.pointer (some ⟨L,0,none⟩)∧w.heap.size<L∧wx.heap[L]?=some (zX f)∧w2.grownBy wx none
theorem Yh {w:World}{N:Nat}{g:Vf.Fl}(h:w.heap[N]?=some (zX g))(f:Vf.Fl):((((w.setCell ⟨N,0,none⟩ (ah f.a)).setCell ⟨N,1,none⟩ (ah f.b)).setCell ⟨N,2,none⟩ (ah f.c)).setCell ⟨N,3,none⟩ (ah f.d)).heap[N]?=some (zX f):=by
 simp only[World.setCell,Array.getElem?_modify,if_true,h,Option.map_some];rfl
theorem Yi {a b c:World}(h:a.grownBy b none)(k:b.grownBy c none):a.grownBy c none:=⟨k.os.trans h.os,k.tape.trans h.tape,k.output.trans h.output,Nat.le_trans h.size k.size,fun x hx hne=>(k.block x (by have:=h.size;omega) hne).trans (h.block x hx hne)⟩
theorem Q0 {w w':World}(h:w.drew.grownBy w' none):w.grownBy w' none:=⟨h.os,h.tape,h.output,h.size,h.block⟩
theorem Gc {w w':World}{b:Nat}(hg:w.grownBy w' none)(hb:b<w.heap.size):w'.heap[b]?=w.heap[b]?:=hg.block b hb (by simp)
theorem Ms (c:FC)(B F:Nat)(k:Vf.Kn)(n:Int)(s:Vf.S)(tg:Nat)(w:World)(h:Hid (WF c B F w k n s))(hn:s.row.length≤100000000)(r:Except Int Vf.S)(hr:Hid (r=Vf.sU c.u.code.length k (tg:Int) s)) :
  Calls Tryz.prog 89 #[.pointer (some ⟨F,0,none⟩),.int .i64 (tg:Int)] w fun e w'=>uW c B F k n r w e w':=by
 obtain⟨top,rv,hF,hq⟩:=h.out.fl;have hlt:=h.out.env.lt;have wW:=h.out.env.base;have c14:=(uD hF.blk).1;have c16:=(uD hF.blk).2.2.1;have c7:=(sV hF.blk).2.2.2.2.2.2.2;have HF:=hide hF;clear hF hq;by_cases hto:tg<c.u.code.length
 ·have hd:decide (tg<c.u.code.length)=true:=by simpa using hto
  cases hcm:s.come tg with
  | none =>
   have HR:Hid (r=.ok (s.note tg k)):=by
    unfold Hid;rw[hr.out,Vf.sU,if_pos (by omega)];simp[hcm]
   have hlk:=WB h.out.come hcm;have HW1:Hid (WF c B F (w.alloc (vP ⟨[],Vf.Fl.none⟩ none)) k n s):=h.out.quiet (yP (World.grownBy.refl _ _) _);have hF1:=HF.out.alloc (vP ⟨[],Vf.Fl.none⟩ none);have jg:=hide hF1.sk;obtain⟨d8,d9,_⟩:=zq HF.out.blk;obtain⟨d10,d11,d12,d13,_⟩:=DN HF.out.blk;clear hr hcm hF1;go_enter Tryz.func89,Tryz.ntmps89
   go_wp2_with fail
   refine (uj F true 3 n _ c14).mono ?_;rintro e w0 ⟨he,hw0⟩;subst hw0;obtain rfl:e=.returned (.tuple #[]):=he;go_wp2_with fail
   refine (Mj c B F k k n s tg top _ HW1 jg hn).mono ?_;rintro e w2 ⟨rfl,hW,hb⟩;have HE:Hid (uW c B F k n r w0 (.returned (.tuple #[])) w2):=uW.good (((Below.refl B w0).alloc (by omega) _).trans hb) HR.out hW;clear hW hb d8 d9 d10 d11 d12 d13 c14 c16 c7 hlk;go_wp2
   go_end0
   exact HE.out
  | some t =>
   have HR:Hid (r=if t.st=k.st then (if Vf.Fl.eq (t.fl.both k.fl) t.fl=true then .ok s else .ok (s.note tg ⟨t.st,t.fl.both k.fl⟩)) else .error 8):=by
    unfold Hid;rw[hr.out,Vf.sU,if_pos (by omega)];simp[hcm]
   obtain⟨lv,hs1,_,hlk⟩:=PZ h.out.come hcm;have HT1:Hid (w.grownBy (w.alloc (vP t lv)) none):=yP (World.grownBy.refl _ _) _;have HW1:Hid (WF c B F (w.alloc (vP t lv)) k n s):=h.out.quiet HT1.out;have fE:=hide (HF.out.alloc (vP t lv));have wM:Hid ((w.alloc (vP t lv)).heap[w.heap.size]?=some (vP t lv)):=heap_alloc_new w _;have jg:Hid (uf (w.alloc (vP t lv)) lv t.st):=hs1.Me HT1.out;obtain⟨d8,d9,_⟩:=zq fE.out.blk;obtain⟨n0,n1,_⟩:=Gb wM.out;clear hr hcm hs1;go_enter Tryz.func89,Tryz.ntmps89
   go_wp2_with fail
   refine (uj F true 3 n _ c14).mono ?_;rintro e w0 ⟨he,hw0⟩;subst hw0;obtain rfl:e=.returned (.tuple #[]):=he;go_wp2_with fail
   obtain⟨W1,hW1⟩:∃ W1,W1=w0.alloc (vP t lv):=⟨_,rfl⟩;rw[← hW1] at HT1 HW1 fE wM jg d8 d9 n0 n1;have JV:=hide hW1.symm;clear hW1 hlk c14 c16 c7;rw[JV.out];refine wp_region_held_drew (S:=fun w'=>w'.cell? ⟨F,8,none⟩=some (.pointer top)∧w'.cell? ⟨F,9,none⟩=some (.int .i64 (k.st.length:Int))∧w'.cell? ⟨w0.heap.size,0,none⟩=some (.pointer lv)∧w'.cell? ⟨w0.heap.size,1,none⟩=some (.int .i64 (t.st.length:Int))) (by kernel_rfl) ⟨d8,d9,n0,n1⟩ (fun hHeld=>?_);refine wpAnyH_take (i:=0) (oi:=_) (v:=?_) rfl (by kernel_rfl) (by kernel_rfl) (by kernel_rfl) (fun _ _ _ h=>h) (Or.inl ⟨by rfl,?_⟩) (by assumption) ?_;rotate_left
   ·intro w hSw
    (try dsimp only at hSw)
    go_simp
    (try with_reducible rfl)
   (try go_frame)
   refine wpAnyH_take (i:=1) (oi:=_) (v:=?_) rfl (by kernel_rfl) (by kernel_rfl) (by kernel_rfl) (fun _ _ _ h=>h) (Or.inl ⟨by rfl,?_⟩) (by assumption) ?_;rotate_left
   ·intro w hSw
    (try dsimp only at hSw)
    go_simp
    (try with_reducible rfl)
   (try go_frame)
   refine wpAnyH_take (i:=2) (oi:=_) (v:=?_) rfl (by kernel_rfl) (by kernel_rfl) (by kernel_rfl) (fun _ _ _ h=>h) (Or.inl ⟨by rfl,?_⟩) (by assumption) ?_;rotate_left
   ·intro w hSw
    (try dsimp only at hSw)
    go_simp
    (try with_reducible rfl)
   (try go_frame)
   refine wpAnyH_take (i:=3) (oi:=_) (v:=?_) rfl (by kernel_rfl) (by kernel_rfl) (by kernel_rfl) (fun _ _ _ h=>h) (Or.inl ⟨by rfl,?_⟩) (by assumption) ?_;rotate_left
   ·intro w hSw
    (try dsimp only at hSw)
    go_simp
    (try with_reducible rfl)
   (try go_frame)
   refine wpAnyH_take (i:=4) (oi:=_) (v:=?_) rfl (by kernel_rfl) (by kernel_rfl) (by kernel_rfl) (fun _ _ _ h=>h) (Or.inl ⟨by rfl,?_⟩) (by assumption) ?_;rotate_left
   ·intro w hSw
    (try dsimp only at hSw)
    go_simp
    (try with_reducible rfl)
   (try go_frame)
   refine wpAnyH_take (i:=5) (oi:=_) (v:=?_) rfl (by kernel_rfl) (by kernel_rfl) (by kernel_rfl) (fun _ _ _ h=>h) (Or.inl ⟨by rfl,?_⟩) (by assumption) ?_;rotate_left
   ·intro w hSw
    (try dsimp only at hSw)
    go_simp
    (try with_reducible rfl)
   (try go_frame)
   refine wpAnyH_take (i:=6) (oi:=_) (v:=?_) rfl (by kernel_rfl) (by kernel_rfl) (by kernel_rfl) (fun _ _ _ h=>h) (Or.inl ⟨by rfl,?_⟩) (by assumption) ?_;rotate_left
   ·intro w hSw
    (try dsimp only at hSw)
    go_simp
    (try with_reducible rfl)
   (try go_frame)
   refine wpAnyH_take (i:=7) (oi:=_) (v:=?_) rfl (by kernel_rfl) (by kernel_rfl) (by kernel_rfl) (fun _ _ _ h=>h) (Or.inl ⟨by rfl,?_⟩) (by assumption) ?_;rotate_left
   ·intro w hSw
    (try dsimp only at hSw)
    go_simp
    (try with_reducible rfl)
   (try go_frame)
   refine wpAnyH_ready (rs:=[8]) (by kernel_rfl) (by simp) ?_;refine AllReadyH.cons (o:=_) rfl (fun K hK=>?_) AllReadyH.nil;go_simp
   refine (Mf t.st k.st lv top _ (hide jg.out.drew) (hide fE.out.sk.drew) (decide (t.st=k.st)) (hide rfl)).mono ?_;rintro e w2 ⟨rfl,zB⟩;have hg2:W1.grownBy w2 none:=Q0 zB;have Yj:w0.heap.size<W1.heap.size:=lt_of_block wM.out;have HG2:=hide hg2;have HW2:Hid (WF c B F w2 k n s):=HW1.out.quiet hg2;have hF2:w2.heap[F]?=some (vE c top k.st k.fl n rv):=(Gc hg2 (lt_of_block fE.out.blk)).trans fE.out.blk;have AJ:w2.heap[w0.heap.size]?=some (vP t lv):=(Gc hg2 Yj).trans wM.out;have sj:=hide hF2;have aX:=hide AJ;have c14:=(uD hF2).1;have q2:w2.cell? ⟨F,8,none⟩=some (.pointer top)∧w2.cell? ⟨F,9,none⟩=some (.int .i64 (k.st.length:Int))∧w2.cell? ⟨w0.heap.size,0,none⟩=some (.pointer lv)∧w2.cell? ⟨w0.heap.size,1,none⟩=some (.int .i64 (t.st.length:Int)):=⟨(zq hF2).1,(zq hF2).2.1,(Gb AJ).1,(Gb AJ).2.1⟩;have HB2:Hid (Below B w0 w2):=(Mr HT1.out (by omega)).trans (Mr hg2 (by omega));have hz2:=hg2.size;refine hK.out _ _ q2 (fun hHeld=>?_);clear hK hg2 zB hF2 AJ d8 d9 n0 n1;refine wpAnyH_ready (rs:=[9]) (by kernel_rfl) (by simp) ?_;refine AllReadyH.cons (o:=_) rfl (fun K hK=>?_) AllReadyH.nil;go_simp
   by_cases hst:t.st=k.st
   ·have e1:decide (t.st=k.st)=true:=by simpa using hst
    have HR2:Hid (r=if Vf.Fl.eq (t.fl.both k.fl) t.fl=true then .ok s else .ok (s.note tg ⟨t.st,t.fl.both k.fl⟩)):=by rw[HR.out,if_pos hst];rfl
    have HST:=hide hst;clear hst;rw[e1];refine (uj F true 8 n _ c14).mono ?_;rintro e w3 ⟨he,hw3⟩;subst hw3;obtain rfl:e=.returned (.tuple #[]):=he;refine hK.out _ _ q2 (fun hHeld=>?_);clear hK hHeld q2 e1;refine wpAnyH_done (by kernel_rfl) ?_ _;obtain⟨_,_,n2,n3,n4,n5⟩:=Gb aX.out;obtain⟨d10,d11,d12,d13,_⟩:=DN sj.out;clear c14;go_upto_region 5 with fail
    go_cut [6] (fun pv wx=>Yg (t.fl.both k.fl) w0 w3 pv wx)
    case first =>
     have uX:Hid (∀ w',w3.grownBy w' none→(w'.cell? ⟨F,10,none⟩=some (ah k.fl.a)∧w'.cell? ⟨F,11,none⟩=some (ah k.fl.b)∧w'.cell? ⟨F,12,none⟩=some (ah k.fl.c)∧w'.cell? ⟨F,13,none⟩=some (ah k.fl.d)∧w'.cell? ⟨w0.heap.size,2,none⟩=some (ah t.fl.a)∧w'.cell? ⟨w0.heap.size,3,none⟩=some (ah t.fl.b)∧w'.cell? ⟨w0.heap.size,4,none⟩=some (ah t.fl.c)∧w'.cell? ⟨w0.heap.size,5,none⟩=some (ah t.fl.d))):=fun w' hg=>by
      have hF':w'.heap[F]?=some (vE c top k.st k.fl n rv):=(Gc hg (lt_of_block sj.out)).trans sj.out;have hN':w'.heap[w0.heap.size]?=some (vP t lv):=(Gc hg (lt_of_block aX.out)).trans aX.out;obtain⟨g10,g11,g12,g13,_⟩:=DN hF';obtain⟨_,_,g2,g3,g4,g5⟩:=Gb hN';exact⟨g10,g11,g12,g13,g2,g3,g4,g5⟩
     have q5:=uX.out w3 (World.grownBy.refl _ _);clear n2 n3 n4 n5 d10 d11 d12 d13;refine wp_region_held_drew (S:=fun w'=>w'.cell? ⟨F,10,none⟩=some (ah k.fl.a)∧w'.cell? ⟨F,11,none⟩=some (ah k.fl.b)∧w'.cell? ⟨F,12,none⟩=some (ah k.fl.c)∧w'.cell? ⟨F,13,none⟩=some (ah k.fl.d)∧w'.cell? ⟨w0.heap.size,2,none⟩=some (ah t.fl.a)∧w'.cell? ⟨w0.heap.size,3,none⟩=some (ah t.fl.b)∧w'.cell? ⟨w0.heap.size,4,none⟩=some (ah t.fl.c)∧w'.cell? ⟨w0.heap.size,5,none⟩=some (ah t.fl.d)) (by kernel_rfl) q5 (fun hHeld=>?_);refine wpAnyH_take (i:=0) (oi:=_) (v:=?_) rfl (by kernel_rfl) (by kernel_rfl) (by kernel_rfl) (fun _ _ _ h=>h) (Or.inl ⟨by rfl,?_⟩) (by assumption) ?_;rotate_left
     ·intro w hSw
      (try dsimp only at hSw)
      go_simp
      (try with_reducible rfl)
     (try go_frame)
     refine wpAnyH_take (i:=1) (oi:=_) (v:=?_) rfl (by kernel_rfl) (by kernel_rfl) (by kernel_rfl) (fun _ _ _ h=>h) (Or.inl ⟨by rfl,?_⟩) (by assumption) ?_;rotate_left
     ·intro w hSw
      (try dsimp only at hSw)
      go_simp
      (try with_reducible rfl)
     (try go_frame)
     refine wpAnyH_take (i:=2) (oi:=_) (v:=?_) rfl (by kernel_rfl) (by kernel_rfl) (by kernel_rfl) (fun _ _ _ h=>h) (Or.inl ⟨by rfl,?_⟩) (by assumption) ?_;rotate_left
     ·intro w hSw
      (try dsimp only at hSw)
      go_simp
      (try with_reducible rfl)
     (try go_frame)
     refine wpAnyH_take (i:=3) (oi:=_) (v:=?_) rfl (by kernel_rfl) (by kernel_rfl) (by kernel_rfl) (fun _ _ _ h=>h) (Or.inl ⟨by rfl,?_⟩) (by assumption) ?_;rotate_left
     ·intro w hSw
      (try dsimp only at hSw)
      go_simp
      (try with_reducible rfl)
     (try go_frame)
     refine wpAnyH_take (i:=4) (oi:=_) (v:=?_) rfl (by kernel_rfl) (by kernel_rfl) (by kernel_rfl) (fun _ _ _ h=>h) (Or.inl ⟨by rfl,?_⟩) (by assumption) ?_;rotate_left
     ·intro w hSw
      (try dsimp only at hSw)
      go_simp
      (try with_reducible rfl)
     (try go_frame)
     refine wpAnyH_take (i:=5) (oi:=_) (v:=?_) rfl (by kernel_rfl) (by kernel_rfl) (by kernel_rfl) (fun _ _ _ h=>h) (Or.inl ⟨by rfl,?_⟩) (by assumption) ?_;rotate_left
     ·intro w hSw
      (try dsimp only at hSw)
      go_simp
      (try with_reducible rfl)
     (try go_frame)
     refine wpAnyH_take (i:=6) (oi:=_) (v:=?_) rfl (by kernel_rfl) (by kernel_rfl) (by kernel_rfl) (fun _ _ _ h=>h) (Or.inl ⟨by rfl,?_⟩) (by assumption) ?_;rotate_left
     ·intro w hSw
      (try dsimp only at hSw)
      go_simp
      (try with_reducible rfl)
     (try go_frame)
     refine wpAnyH_ready (rs:=[7,8]) (by kernel_rfl) (by simp) ?_;refine AllReadyH.cons (o:=_) rfl (fun K hK=>?_) (AllReadyH.cons (o:=_) rfl (fun K hK=>?_) AllReadyH.nil)
     ·go_simp
      refine (QP t.fl k.fl _).mono ?_;rintro e w4 ⟨rfl,hg4⟩;have zZ:w3.grownBy w4 none:=Q0 hg4;have sI:=hide zZ;refine hK.out _ _ (uX.out w4 zZ) (fun hHeld=>?_);clear hK hg4 zZ;refine wpAnyH_ready (rs:=[8]) (by kernel_rfl) (by simp) ?_;refine AllReadyH.cons (o:=_) rfl (fun K hK=>?_) AllReadyH.nil;go_simp
      refine hK.out _ _ (uX.out _ (yP sI.out _)) (fun hHeld=>?_);clear hK;refine wpAnyH_ready (rs:=[9]) (by kernel_rfl) (by simp) ?_;refine AllReadyH.cons (o:=_) rfl (fun K hK=>?_) AllReadyH.nil;go_simp
      refine hK.out _ _ (uX.out _ (yP sI.out _)) (fun hHeld=>?_);clear hK;refine wpAnyH_done (by kernel_rfl) ?_ _;go_wp2_with fail
      go_meet
      exact⟨w4.heap.size,rfl,by have:=sI.out.size;omega,heap_alloc_new w4 _,yP sI.out _⟩
     ·go_simp
      refine hK.out _ _ (uX.out _ (yP (EX (World.grownBy.refl _ _)) _)) (fun hHeld=>?_);clear hK;refine wpAnyH_ready (rs:=[7]) (by kernel_rfl) (by simp) ?_;refine AllReadyH.cons (o:=_) rfl (fun K hK=>?_) AllReadyH.nil;go_simp
      refine (QP t.fl k.fl _).mono ?_;rintro e w4 ⟨rfl,hg4⟩;have zZ:w3.grownBy w4 none:=Yi (yP (EX (World.grownBy.refl _ _)) _) hg4;have sI:=hide zZ;have hL4:w4.heap[w3.heap.size]?=some (zX Vf.Fl.none):=(Gc hg4 (by simp)).trans (by have:=heap_alloc_new w3.drew (zX Vf.Fl.none);exact this);have Mt:=hide hL4;obtain⟨l0,l1,l2,l3,m0,m1,m2,m3⟩:=xA hL4;refine hK.out _ _ (uX.out w4 zZ) (fun hHeld=>?_);clear hK hg4 zZ hL4;refine wpAnyH_ready (rs:=[9]) (by kernel_rfl) (by simp) ?_;refine AllReadyH.cons (o:=_) rfl (fun K hK=>?_) AllReadyH.nil;go_simp
      have vw:Hid (w3.grownBy ((((w4.setCell ⟨w3.heap.size,0,none⟩ (ah (t.fl.both k.fl).a)).setCell ⟨w3.heap.size,1,none⟩ (ah (t.fl.both k.fl).b)).setCell ⟨w3.heap.size,2,none⟩ (ah (t.fl.both k.fl).c)).setCell ⟨w3.heap.size,3,none⟩ (ah (t.fl.both k.fl).d)) none):=zz (zz (zz (zz sI.out (Nat.le_refl _) _ _) (Nat.le_refl _) _ _) (Nat.le_refl _) _ _) (Nat.le_refl _) _ _;refine hK.out _ _ (uX.out _ vw.out) (fun hHeld=>?_);clear hK;refine wpAnyH_done (by kernel_rfl) ?_ _;go_wp2_with fail
      go_meet
      exact⟨w3.heap.size,rfl,by omega,Yh Mt.out _,vw.out⟩
    case rest =>
     obtain⟨L,rfl,hL,Q4,hgx⟩:=hcut;have Q5:Hid (WF c B F wc k n s):=HW2.out.quiet hgx;have Hq:Hid (wc.heap[w0.heap.size]?=some (vP t lv)):=(Gc hgx (lt_of_block aX.out)).trans aX.out;have Yk:Hid (uf wc lv t.st):=(jg.out.Me HG2.out).Me hgx;have Q6:Hid (Below B w0 wc):=HB2.out.trans (Mr hgx (by omega));obtain⟨x0,x1,x2,x3,x4,x5⟩:=Gb Hq.out;obtain⟨z2,z3,z4,z5⟩:=Yd Hq.out;obtain⟨l0,l1,l2,l3,_⟩:=xA Q4;have hnq:=Yb (t.fl.both k.fl) t.fl wc;have hne:L≠w0.heap.size:=by omega
     have hzx:w0.heap.size<wc.heap.size:=lt_of_block Hq.out;clear hgx Q4 n2 n3 n4 n5 d10 d11 d12 d13;obtain⟨g,hg⟩:∃ g,g=t.fl.both k.fl:=⟨_,rfl⟩;rw[← hg] at l0 l1 l2 l3 hnq HR2;clear hg;cases hq:Vf.Fl.eq g t.fl with
     | true =>
      have HR3:Hid (r=.ok s):=by rw[HR2.out,hq];rfl
      rw[hq] at hnq;clear hq;go_wp2
      go_end0
      exact uW.good Q6.out HR3.out Q5.out
     | false =>
      have HR3:Hid (r=.ok (s.note tg ⟨t.st,g⟩)):=by rw[HR2.out,hq];rfl
      rw[hq] at hnq;obtain⟨kw,kb,kk⟩:=Yf Q5.out Hq.out (by omega) g;have Q7:=hide (Ye Hq.out g);have Yl:=hide kw;have Ym:=hide (Q6.out.trans kb);have Yn:Hid (uf ((((wc.setCell ⟨w0.heap.size,2,none⟩ (ah g.a)).setCell ⟨w0.heap.size,3,none⟩ (ah g.b)).setCell ⟨w0.heap.size,4,none⟩ (ah g.c)).setCell ⟨w0.heap.size,5,none⟩ (ah g.d)) lv t.st):=Yk.out.keep kk;clear hq kw kb kk;go_wp2_with fail
      refine (Mj c B F k ⟨t.st,g⟩ n s tg lv _ Yl Yn hn).mono ?_;rintro e w9 ⟨rfl,hW,hb⟩;have HE:Hid (uW c B F k n r w0 (.returned (.tuple #[])) w9):=uW.good (Ym.out.trans hb) HR3.out hW;clear hW hb x0 x1 x2 x3 x4 x5 z2 z3 z4 z5 l0 l1 l2 l3 hnq;go_wp2
      go_end0
      exact HE.out
   ·have e1:decide (t.st=k.st)=false:=by simpa using hst
    have HE:Hid (r=.error 8):=by rw[HR.out,if_neg hst];rfl
    clear hst;rw[e1];refine (uj F false 8 n _ c14).mono ?_;rintro e w3 ⟨he,hw3⟩;subst hw3;obtain rfl:e=.panicked [lT 8 n]:=he;clear hK q2 e1 c14;go_wp2
    exact⟨rfl,uW.bad HB2.out HE.out⟩
 ·have hd:decide (tg<c.u.code.length)=false:=by simpa using hto
  have HE:Hid (r=.error 3):=by
   unfold Hid;rw[hr.out,Vf.sU,if_neg (by omega)]
  go_enter Tryz.func89,Tryz.ntmps89
  go_wp2_with fail
  refine (uj F false 3 n _ c14).mono ?_;rintro e w0 ⟨he,hw0⟩;subst hw0;obtain rfl:e=.panicked [lT 3 n]:=he;clear c14 c16 c7;go_wp2
  exact⟨rfl,uW.bad (Below.refl _ _) HE.out⟩
theorem Q8 (c:FC)(B F:Nat)(k:Vf.Kn)(n:Nat)(s:Vf.S)(w:World)(h:Hid (WF c B F w k (n:Int) s))(hn:s.row.length≤100000000)(r:Except Int Vf.S)(hr:Hid (r=Vf.sU c.u.code.length k ((n:Int)+1) s)) :
  Calls Tryz.prog 89 #[.pointer (some ⟨F,0,none⟩),.int .i64 ((n:Int)+1)] w fun e w'=>uW c B F k (n:Int) r w e w' :=
 Ms c B F k (n:Int) s (n+1) w h hn r hr
theorem Yo (c:FC)(B F:Nat)(k:Vf.Kn)(n:Nat)(s:Vf.S)(op a nn:Int)(w:World)(h:Hid (WF c B F w k (n:Int) s))(hn:s.row.length≤99999999)(hn4:n≤4000)(hfm:Hid (Vf.aA c.m c.u ⟨op,a,nn⟩=0))(hI:Hid (Inv c.m c.u s))(hk:Hid (aQ c.m k.st))(r:Except Int Vf.S)(hr:Hid (r=Vf.jf c.u.code.length k (Vf.goes ⟨op,a,nn⟩ n) s)) :
  Calls Tryz.prog 65 #[.pointer (some ⟨F,0,none⟩),.agg #[.int .i64 op,.int .i64 a,.int .i64 nn]] w fun e w'=>uW c B F k (n:Int) r w e w':=by
 have hB:B≤w.heap.size:=by have:=h.out.env.base;have:=h.out.env.lt;omega
 have hlt:=h.out.env.lt;have HB1:Hid (Below B w (w.alloc (aj op a nn))):=(Below.refl B w).alloc hB _;have HW1:Hid (WF c B F (w.alloc (aj op a nn)) k (n:Int) s):=h.out.quiet (yP (World.grownBy.refl _ _) _);obtain⟨top,rv,hF,_⟩:=h.out.fl;have c14:=(uD hF.blk).1;have e1:IntKind.i64.wrap ((n:Int)+1)=(n:Int)+1:=by simp[IntKind.wrap,IntKind.bits,IntKind.signed];omega
 clear hF;by_cases Gf:op=24∨op=25
 ·have HR:Hid (r=.ok s):=by unfold Hid;rw[hr.out,Vf.goes,if_pos Gf];rfl
  rcases Gf with rfl | rfl
  ·go_enter Tryz.func65,Tryz.ntmps65
   go_wp2
   go_end0
   exact uW.good HB1.out HR.out HW1.out
  ·go_enter Tryz.func65,Tryz.ntmps65
   go_wp2
   go_end0
   exact uW.good HB1.out HR.out HW1.out
 ·by_cases h21:op=21
  ·subst h21
   obtain⟨tg,rfl,_⟩:=F6 (L:=c.u.code.length) hfm.out rfl;have HR:Hid (r=Vf.sU c.u.code.length k (tg:Int) s):=by
    unfold Hid;rw[hr.out];show Vf.andThen (Vf.sU c.u.code.length k (tg:Int) s) _=_
    cases Vf.sU c.u.code.length k (tg:Int) s<;>rfl
   clear hr Gf;go_enter Tryz.func65,Tryz.ntmps65
   go_wp2_with fail
   refine (Ms c B F k (n:Int) s tg _ HW1 (by omega) r HR).mono ?_;rintro e w9 hS;have Eb:Hid (Below B w w9):=HB1.out.trans hS.below;cases r with
   | error er =>
    obtain rfl:=hS.no er rfl;clear hS;go_wp2
    exact⟨rfl,uW.bad Eb.out rfl⟩
   | ok s9 =>
    obtain⟨rfl,Ec⟩:=hS.yes s9 rfl;have av:=hide Ec;clear hS Ec;go_wp2
    go_end0
    exact uW.good Eb.out rfl av.out
  ·by_cases h22:op=22
   ·subst h22
    obtain⟨tg,rfl,_⟩:=F6 (L:=c.u.code.length) hfm.out rfl;obtain⟨r1,hr1⟩:∃ r1,r1=Vf.sU c.u.code.length k (tg:Int) s:=⟨_,rfl⟩;have HR1:=hide hr1;have HR:Hid (r=Vf.andThen r1 fun s1=>Vf.sU c.u.code.length k ((n:Int)+1) s1):=by
     unfold Hid;rw[hr.out];show Vf.andThen (Vf.sU c.u.code.length k (tg:Int) s) (Vf.jf c.u.code.length k [((n:Int)+1)])=_
     rw[← hr1];cases r1 with
     | error e=>rfl
     | ok s1 =>
      show Vf.andThen (Vf.sU c.u.code.length k ((n:Int)+1) s1) _=Vf.sU c.u.code.length k ((n:Int)+1) s1
      cases Vf.sU c.u.code.length k ((n:Int)+1) s1<;>rfl
    have HL:Hid (∀ s1,r1=.ok s1→s1.row.length≤100000000):=fun s1 e=>by
     have:=(Pt hI.out (by omega) hk.out (hr1.symm.trans e)).2;omega
    clear hr hr1 Gf h21;go_enter Tryz.func65,Tryz.ntmps65
    go_wp2_with fail
    refine (Ms c B F k (n:Int) s tg _ HW1 (by omega) r1 HR1).mono ?_;rintro e w2 hS;have HB2:Hid (Below B w w2):=HB1.out.trans hS.below;cases r1 with
    | error er =>
     obtain rfl:=hS.no er rfl;have HE:Hid (r=.error er):=HR.out;clear hS;go_wp2
     exact⟨rfl,uW.bad HB2.out HE.out⟩
    | ok s1 =>
     obtain⟨rfl,hW2⟩:=hS.yes s1 rfl;have HW2:=hide hW2;have hl1:=HL.out s1 rfl;have HR2:Hid (r=Vf.sU c.u.code.length k ((n:Int)+1) s1):=HR.out;obtain⟨ED,Q9,hF2,_⟩:=hW2.fl;have d14:=(uD hF2.blk).1;clear hS hW2 hF2 HR HL HR1 c14;go_wp2_with fail
     refine (Q8 c B F k n s1 _ HW2 hl1 r HR2).mono ?_;rintro e w9 hS;have Eb:Hid (Below B w w9):=HB2.out.trans hS.below;cases r with
     | error er =>
      obtain rfl:=hS.no er rfl;clear hS;go_wp2
      exact⟨rfl,uW.bad Eb.out rfl⟩
     | ok s9 =>
      obtain⟨rfl,Ec⟩:=hS.yes s9 rfl;have av:=hide Ec;clear hS Ec;go_wp2
      go_end0
      exact uW.good Eb.out rfl av.out
   ·have HR:Hid (r=Vf.sU c.u.code.length k ((n:Int)+1) s):=by
     unfold Hid;rw[hr.out,Vf.goes,if_neg Gf,if_neg h21,if_neg h22];show Vf.andThen (Vf.sU c.u.code.length k ((n:Int)+1) s) _=_
     cases Vf.sU c.u.code.length k ((n:Int)+1) s<;>rfl
    have g24:(op==24)=false:=by simp;omega
    have g25:(op==25)=false:=by simp;omega
    have g21:(op==21)=false:=by simpa using h21
    have g22:(op==22)=false:=by simpa using h22
    clear hr Gf h21 h22;go_enter Tryz.func65,Tryz.ntmps65
    go_wp2_with fail
    refine (Q8 c B F k n s _ HW1 (by omega) r HR).mono ?_;rintro e w9 hS;have Eb:Hid (Below B w w9):=HB1.out.trans hS.below;cases r with
    | error er =>
     obtain rfl:=hS.no er rfl;clear hS;go_wp2
     exact⟨rfl,uW.bad Eb.out rfl⟩
    | ok s9 =>
     obtain⟨rfl,Ec⟩:=hS.yes s9 rfl;have av:=hide Ec;clear hS Ec;go_wp2
     go_end0
     exact uW.good Eb.out rfl av.out
def uL (er num:Int)(e:Ending):Prop:=e=if er=0 then .returned (.tuple #[]) else .panicked [lT er num]
theorem Yp:uL 0 0 (.returned (.tuple #[])):=rfl
theorem Ra {er num:Int}(h:er≠0):uL er num (.panicked [lT er num]):=by unfold uL;rw[if_neg h]
def Rb (c:FC)(B F:Nat)(er num:Int)(w:World)(gk:Nat)(W:World):Prop :=
 ∃ k n s,WF c B F W k n s∧Below B w W∧Inv c.m c.u s∧Vf.mu c.u.code.length s<gk∧Vf.mu c.u.code.length s≤3000000∧(er,num)=((Vf.si c.m c.u gk s).1,((Vf.si c.m c.u gk s).2:Int))
theorem E5 {w:World}{N:Nat}{cs:Array Value}{t:TypeId}{fr:Nat × Nat}(h:w.heap[N]?=some (.cells cs t fr))(o:Nat)(v:Value):(w.setCell ⟨N,o,none⟩ v).heap[N]?=some (.cells (cs.setIfInBounds o v) t fr):=by
 simp only[World.setCell,Array.getElem?_modify,if_true,h,Option.map_some];rfl
theorem WF.front {c:FC}{B F i:Nat}{w:World}{k:Vf.Kn}{n:Int}{come:Nat→Option Vf.Kn}{rest:List Nat}{top:Option Addr}{rv rv':Value}(h:WF c B F w k n ⟨come,i :: rest⟩)(hF:aB c w F top k.st k.fl n rv)(hq:QR w B rv' rest):WF c B F ((w.setCell ⟨F,14,none⟩ (.int .i64 (i:Int))).setCell ⟨F,15,none⟩ rv').drew k (i:Int) ⟨come,rest⟩∧Below B w ((w.setCell ⟨F,14,none⟩ (.int .i64 (i:Int))).setCell ⟨F,15,none⟩ rv').drew:=by
 have hg:w.grownBy ((w.setCell ⟨F,14,none⟩ (.int .i64 (i:Int))).setCell ⟨F,15,none⟩ rv').drew (some F):=wJ (wI (wI (ui w F) 14 _) 15 _);have hne:=h.come.ne hF.blk;have kc:=Mi hg hF.blk (fun cs e=>by cases e);refine⟨⟨h.env.grown hg,h.mB,⟨top,rv',⟨?_,hF.sk.keep kc⟩,hq.keep fun j hj=>hg.block j (hq.lt j hj).2 (fun e=>hq.ty hF.blk (fun cs fr e2=>by cases e2) (by rw[hj,← e]))⟩,h.come.keep (hg.block _ h.come.lt (by simp;omega)) kc⟩,below_grown hg (by have:=h.env.base;have:=h.env.lt;omega) (fun j e=>by cases e;exact h.env.base)⟩;show ((w.setCell ⟨F,14,none⟩ (.int .i64 (i:Int))).setCell ⟨F,15,none⟩ rv').heap[F]?=_
 simp only[World.setCell,Array.getElem?_modify,if_true,hF.blk,Option.map_some];rfl
theorem Yq (c:FC)(top rU:Option Addr)(k kn:Vf.Kn)(n:Int)(rv:Value):some (Obj.cells (((((((#[.slice c.ab c.m.boxes.length c.cb,.slice c.au c.m.units.length c.cu,.int .i64 c.u.kind,.int .i64 c.u.params,.slice c.al c.u.locals.length c.cl,.int .i64 c.u.result,.int .i64 c.u.takes,.slice c.ac c.u.code.length c.cc,.pointer top,.int .i64 (k.st.length:Int),ah k.fl.a,ah k.fl.b,ah k.fl.c,ah k.fl.d,.int .i64 n,rv,.map (some c.M)]:Array Value).setIfInBounds 8 (.pointer rU)).setIfInBounds 9 (.int .i64 (kn.st.length:Int))).setIfInBounds 10 (ah kn.fl.a)).setIfInBounds 11 (ah kn.fl.b)).setIfInBounds 12 (ah kn.fl.c)).setIfInBounds 13 (ah kn.fl.d)) 79 (0,0))=some (vE c rU kn.st kn.fl n rv):=by
 simp only[List.setIfInBounds_toArray,List.set_cons_succ,List.set_cons_zero]
theorem Yr {c:FC}{w:World}{F:Nat}{top rU:Option Addr}{k kn:Vf.Kn}{n:Int}{rv:Value}(h:w.heap[F]?=some (vE c top k.st k.fl n rv)):((((((w.setCell ⟨F,8,none⟩ (.pointer rU)).setCell ⟨F,9,none⟩ (.int .i64 (kn.st.length:Int))).setCell ⟨F,10,none⟩ (ah kn.fl.a)).setCell ⟨F,11,none⟩ (ah kn.fl.b)).setCell ⟨F,12,none⟩ (ah kn.fl.c)).setCell ⟨F,13,none⟩ (ah kn.fl.d)).heap[F]?=some (vE c rU kn.st kn.fl n rv):=by
 have h1:=E5 (E5 (E5 (E5 (E5 (E5 h 8 (.pointer rU)) 9 (.int .i64 (kn.st.length:Int))) 10 (ah kn.fl.a)) 11 (ah kn.fl.b)) 12 (ah kn.fl.c)) 13 (ah kn.fl.d);rw[h1];exact Yq c top rU k kn n rv
theorem WF.load {c:FC}{B F:Nat}{w:World}{k kn:Vf.Kn}{n:Int}{s:Vf.S}{top rU:Option Addr}{rv:Value}(h:WF c B F w k n s)(hF:aB c w F top k.st k.fl n rv)(hs:uf w rU kn.st) :
  WF c B F ((((((w.setCell ⟨F,8,none⟩ (.pointer rU)).setCell ⟨F,9,none⟩ (.int .i64 (kn.st.length:Int))).setCell ⟨F,10,none⟩ (ah kn.fl.a)).setCell ⟨F,11,none⟩ (ah kn.fl.b)).setCell ⟨F,12,none⟩ (ah kn.fl.c)).setCell ⟨F,13,none⟩ (ah kn.fl.d)).drew kn n s∧Below B w ((((((w.setCell ⟨F,8,none⟩ (.pointer rU)).setCell ⟨F,9,none⟩ (.int .i64 (kn.st.length:Int))).setCell ⟨F,10,none⟩ (ah kn.fl.a)).setCell ⟨F,11,none⟩ (ah kn.fl.b)).setCell ⟨F,12,none⟩ (ah kn.fl.c)).setCell ⟨F,13,none⟩ (ah kn.fl.d)).drew:=by
 have hg0:=wI (wI (wI (wI (wI (wI (ui w F) 8 (.pointer rU)) 9 (.int .i64 (kn.st.length:Int))) 10 (ah kn.fl.a)) 11 (ah kn.fl.b)) 12 (ah kn.fl.c)) 13 (ah kn.fl.d);have hb:=Yr (rU:=rU) (kn:=kn) hF.blk;generalize ((((((w.setCell ⟨F,8,none⟩ (.pointer rU)).setCell ⟨F,9,none⟩ (.int .i64 (kn.st.length:Int))).setCell ⟨F,10,none⟩ (ah kn.fl.a)).setCell ⟨F,11,none⟩ (ah kn.fl.b)).setCell ⟨F,12,none⟩ (ah kn.fl.c)).setCell ⟨F,13,none⟩ (ah kn.fl.d))=X at *;have hg:=wJ hg0;refine⟨h.own (top:=rU) (rv:=rv) hg (aB.drew ⟨hb,hs.grown hg0 hF.blk⟩) (fun ED Q9 h2=>?_),below_grown hg (by have:=h.env.base;have:=h.env.lt;omega) (fun j e=>by cases e;exact h.env.base)⟩;have:=hF.blk.symm.trans h2.blk;simp at this;exact this.2
theorem Rc {m:Vf.Md}{u:Vf.Un}{come:Nat→Option Vf.Kn}(f:Nat):Vf.si m u f ⟨come,[]⟩=(0,0):=by cases f<;>rfl
theorem Yt (c:FC)(B F:Nat)(w:World)(h0:Hid (aB c w F none [] Vf.Fl.none 0 (.slice none 0 0)))(hE:Hid (Env c B F w))(hC:Hid (uo w c.M (fun _=>none)))(hM:B≤c.M)(hR:Hid (Rt c.m))(hu:Hid (Vf.jr c.m c.u=0))(hfo:Hid (Vf.Forms c.m c.u))(er num:Int)(hr:Hid ((er,num)=((Vf.rH c.m c.u).1,((Vf.rH c.m c.u).2:Int)))) :
  Calls Tryz.prog 33 #[.pointer (some ⟨F,0,none⟩)] w fun e w'=>Below B w w'∧uL er num e:=by
 have hlt:=hE.out.lt;have wW:=hE.out.base;obtain⟨hz1,hz2,hz3,tK,xB,iD⟩:=EE (Ao hu.out).2.1;obtain⟨p,hp⟩:∃ p:Nat,c.u.params=p:=⟨c.u.params.toNat,by omega⟩;have Yu:p≤6:=by omega
 have c3:=(sV h0.out.blk).2.2.2.1;rw[hp] at c3;have HP:Hid (c.u.params.toNat=p):=by unfold Hid;omega
 clear hp hz2 hz3 tK;go_enter Tryz.func33,Tryz.ntmps33
 go_wp2
 go_loopw [9] (fun v wr=>∃ k:Nat,v=.int .i64 k∧k≤p∧Hid (aB c wr F none [] (Vf.Fl.first k) 0 (.slice none 0 0))∧Hid (w.grownBy wr (some F))) (fun v _=>p - (intOf v).toNat)
 case atStart=>exact⟨0,rfl,Nat.zero_le _,h0,ui _ _⟩
 case round =>
  obtain⟨k,rfl,hkp,HF,HG⟩:=hrel;clear c3;by_cases hk:k<p
  ·go_wp2_with fail
   refine (Pe c F none [] (Vf.Fl.first k) 0 (.slice none 0 0) k (by omega) _ HF).mono ?_;rintro e w1 ⟨rfl,hg1,hF1⟩;have aH:Hid (w.grownBy w1 (some F)):=iC HG.out hg1;have fE:Hid (aB c w1 F none [] (Vf.Fl.first (k+1)) 0 (.slice none 0 0)):=hF1;clear hg1 hF1;go_wp2
   go_roundw
   case rel=>exact⟨k+1,by go_num,by omega,fE,aH⟩
   case measure=>simp[intOf];omega
  ·obtain rfl:k=p:=by omega
   obtain⟨d8,d9,_⟩:=zq HF.out.blk;obtain⟨d10,d11,d12,d13,_⟩:=DN HF.out.blk;have Re:KC w wr:=Mi HG.out h0.out.blk (fun cs e=>by cases e);have hne:=hC.out.ne h0.out.blk;have HW:Hid (WF c B F wr ⟨[],Vf.Fl.first k⟩ 0 ⟨fun _=>none,[]⟩):=⟨hE.out.grown HG.out,hM,⟨none,_,HF.out,QR.nil _ _⟩,hC.out.keep (HG.out.block _ hC.out.lt (by simp;omega)) Re⟩;have HB:Hid (Below B w wr):=below_grown HG.out (by omega) (fun j e=>by cases e;exact wW);have HST:Hid ((⟨fun _=>none,[]⟩:Vf.S).note 0 ⟨[],Vf.Fl.first k⟩=Vf.start c.u):=by unfold Hid;unfold Vf.start;rw[HP.out]
   clear Re hne;go_wp2_with fail
   refine (Mj c B F ⟨[],Vf.Fl.first k⟩ ⟨[],Vf.Fl.first k⟩ 0 ⟨fun _=>none,[]⟩ 0 none _ HW (hide rfl) (Nat.zero_le _)).mono ?_;rintro e w1 ⟨rfl,hW1,hb1⟩;rw[HST.out] at hW1;have Rf:Hid (Rb c B F er num w (Vf.mu c.u.code.length (Vf.start c.u)+1) w1):=by
    refine⟨_,_,_,hW1,HB.out.trans hb1,?_,by omega,?_,hr.out⟩
    ·refine EK ⟨fun i k hk=>(by cases hk),fun i hi=>(by cases hi)⟩ xB ⟨fun t ht=>(by cases ht),by simp⟩
    ·have:=Vf.OZ (u:=c.u)
     omega
   have HB1:Hid (Below B w w1):=HB.out.trans hb1;clear hW1 hb1 d8 d9 d10 d11 d12 d13 hkp hk HW HB HST HF HG;go_wp2_with fail
   go_loopg [] (Vf.mu c.u.code.length (Vf.start c.u)+1) (fun gk wr=>Rb c B F er num w gk wr)
   case atStart=>exact Rf.out
   case round =>
    obtain⟨kk,n,s,hW,hb,hI,hmu,ik,hfl⟩:=hrel;clear Rf HB1;have adL:=hW.env.lt;obtain⟨top,rv,hF,hq⟩:=hW.fl;obtain⟨come,row⟩:=s;have HW:=hide hW;have HB:=hide hb;have HI:=hide hI;have Rh:=hide hmu;have yw:=hide ik;have JW:=hide hfl;have HF:=hide hF;clear hW hb hI hmu ik hfl hF;cases row with
    | nil =>
     obtain⟨ar,cr,lV⟩:=hq.form;subst lV;have d15:=(uD HF.out.blk).2.1;have HE:Hid (er=0∧num=0):=by
      have:=JW.out;rw[Rc] at this;cases this;exact⟨rfl,rfl⟩
     clear hq;go_wp2
     go_end0
     rw[HE.out.1,HE.out.2];exact⟨HB.out,Yp⟩
    | cons i rest =>
     obtain⟨g,off,cap,lV,hcap,cx,hq1,hq2⟩:=hq.pop;subst lV;have Yv:g≠F:=fun e=>by
      subst e;exact hq.ty HF.out.blk (fun cs fr e=>by cases e) rfl
     obtain⟨d14,d15,d16,Mk,QU⟩:=uD HF.out.blk;have hL0:(0:Int)<(rest.length:Int)+1:=by omega
     have JF:=hide hq1;have zA:=hide hq2;clear hq hq1 hq2;go_upto_region 7 with fail
     go_cut [] (fun wx=>WF c B F wx kk (i:Int) ⟨come,rest⟩∧Below B wr wx)
     case first =>
      have m0:(0:Int)≤(rest.length:Int):=by omega
      by_cases hc1:cap=1
      ·subst hc1
       have hr0:rest.length=0:=by omega
       have HQ:=hide (JF.out rfl);rw[hr0] at d15 hL0 HF;rw[hr0];go_region
       all_goals
        go_wp2_with fail
        go_meet
        exact HW.out.front HF.out HQ.out
      ·have HQ:=hide (zA.out hc1)
       have hcI:¬ (cap:Int)=1:=by omega
       go_region
       all_goals
        go_wp2_with fail
        go_meet
        exact HW.out.front HF.out HQ.out
     case rest =>
      obtain⟨hW2,hb2⟩:=hcut;obtain⟨kn,Ri⟩:=HI.out.row i List.mem_cons_self;have hkn:come i=some kn:=Ri;clear Ri;obtain⟨hil,hok⟩:=HI.out.come i kn hkn;obtain⟨x,hx⟩:∃ x,c.u.code[i]?=some x:=⟨_,List.getElem?_eq_getElem hil⟩;have HX:=hide hx;have gN:=hide hok;have Q7:=hide hkn;have HB2:Hid (Below B w wc):=HB.out.trans hb2;have HI2:Hid (Inv c.m c.u ⟨come,rest⟩):=⟨HI.out.come,fun j hj=>HI.out.row j (List.mem_cons_of_mem _ hj)⟩;have adM:i<4000:=by omega
      obtain⟨r,hrr⟩:∃ r,r=Vf.look c.m c.u i ⟨come,rest⟩:=⟨_,rfl⟩;have HRR:Hid (r=Vf.andThen (Vf.rT c.m c.u x kn) fun k'=>Vf.jf c.u.code.length k' (Vf.goes x i) ⟨come,rest⟩):=by
       unfold Hid;rw[hrr,Vf.look];simp only[hkn,hx]
      have Rj:Hid (NZ r):=by rw[hrr];exact Pn _ _ _ _
      have Yw:Hid (∀ s',r=.ok s'→Vf.mu c.u.code.length s'≤Vf.mu c.u.code.length ⟨come,rest⟩):=fun s' e=>Vf.OX hfo.out (hrr.symm.trans e);have Gg:Hid (Vf.aA c.m c.u x=0):=hfo.out x (List.mem_of_getElem? hx);have JX:Hid (Vf.mu c.u.code.length ⟨come,i :: rest⟩=Vf.mu c.u.code.length ⟨come,rest⟩+1):=Vf.zN;obtain⟨f,rfl⟩:∃ f,gk=f+1:=⟨gk - 1,by have:=Rh.out;omega⟩;have gU:Hid (∀ u7,r=.error u7→er=u7∧num=(i:Int)):=fun u7 e=>by
       have h1:=JW.out;have h2:Vf.si c.m c.u (f+1) ⟨come,i :: rest⟩=(u7,i):=by
        unfold Vf.si;simp only;rw[← hrr,e]
       rw[h2] at h1;cases h1;exact⟨rfl,rfl⟩
      have ER:Hid (∀ s',r=.ok s'→(er,num)=((Vf.si c.m c.u f s').1,((Vf.si c.m c.u f s').2:Int))):=fun s' e=>by
       have h1:=JW.out;have h2:Vf.si c.m c.u (f+1) ⟨come,i :: rest⟩=Vf.si c.m c.u f s':=by
        conv=>lhs;unfold Vf.si
        simp only;rw[← hrr,e]
       rw[h2] at h1;exact h1
      clear hx hok hkn hrr hb2 JW JF zA cx d14 d15 d16 Mk QU HW HF HI HB Yv;obtain⟨ED,Q9,hF2,hq2⟩:=hW2.fl;obtain⟨e14,e15,e16,Yx,QV⟩:=uD hF2.blk;obtain⟨e8,e9,y8,y9⟩:=zq hF2.blk;obtain⟨e10,e11,e12,e13,Yy,Yz,YA,y13⟩:=DN hF2.blk;obtain⟨tk,hsk,hlk,_⟩:=PZ hW2.come.drew Q7.out;have z8:=hide (hW2.load hF2 (hsk.keep fun _ _ hb=>hb));have HB3:=hide (HB2.out.trans z8.out.2);clear hF2 hq2 hsk hW2;go_upto_region 8 with fail
      go_cut [] (fun wx=>WF c B F wx kn (i:Int) ⟨come,rest⟩∧Below B w wx)
      case first =>
       go_region
       all_goals
        go_wp2_with fail
        go_meet
        exact⟨z8.out.1,HB3.out⟩
      case rest =>
       obtain⟨rP,hb4⟩:=hcut;clear e8 e9 e10 e11 e12 e13 e14 e15 e16 y8 y9 Yy Yz YA y13 Yx QV hlk z8 HB3 HB2;have xC:=hide rP;have uk:=hide hb4;obtain⟨Pd,YB,zP,hq4⟩:=rP.fl;have Jm:=hide zP;obtain⟨_,_,_,bc,oc,hac,hbc,i0,i1,i2⟩:=rP.env.un.code i x HX.out;have Mv:Hid (∀ w',Low B wc w'→(∃ top st f rv,aB c w' F top st f (i:Int) rv)→(w'.cell? ⟨F,7,none⟩=some (.slice (some ⟨bc,oc,none⟩) c.u.code.length c.cc)∧w'.cell? ⟨F,14,none⟩=some (.int .i64 (i:Int))∧w'.cell? ⟨bc,oc+i * 3,none⟩=some (.int .i64 x.op)∧w'.cell? ⟨bc,oc+i * 3+1,none⟩=some (.int .i64 x.a)∧w'.cell? ⟨bc,oc+i * 3+2,none⟩=some (.int .i64 x.n))):=fun w' hlow ⟨tp,st,f',rv',hF'⟩=>by
        have c7:=(sV hF'.blk).2.2.2.2.2.2.2;rw[hac] at c7;exact⟨c7,(uD hF'.blk).1,(gZ (hlow bc hbc) _).trans i0,(gZ (hlow bc hbc) _).trans i1,(gZ (hlow bc hbc) _).trans i2⟩
       have hiI:(i:Int)<(c.u.code.length:Int):=by omega
       have q4:=Mv.out wc (fun _ _=>rfl) ⟨_,_,_,_,zP⟩;obtain⟨rS,JY⟩:∃ rS,rS=Vf.jA c.m c.u x kn:=⟨_,rfl⟩;have Ay:=hide JY;have Hr:Hid (r=Vf.andThen rS fun st'=>Vf.jf c.u.code.length ⟨st',Vf.kV x kn.fl⟩ (Vf.goes x i) ⟨come,rest⟩):=by
        unfold Hid;rw[HRR.out,Vf.rT,← JY];cases rS<;>rfl
       have YC:Hid (Ok (aQ c.m) rS):=by rw[JY];exact Ps hR.out hu.out Gg.out gN.out
       have JZ:Hid (∀ w',wc.grownBy w' (some F)→Below B wc w'):=fun w' hg=>below_grown hg (by have:=rP.env.base;have:=rP.env.lt;omega) (fun j e=>by cases e;exact rP.env.base);clear rP hb4 zP hq4 i0 i1 i2 JY HRR;go_wp2_with fail
       refine wp_region_held_drew (S:=fun w'=>w'.cell? ⟨F,7,none⟩=some (.slice (some ⟨bc,oc,none⟩) c.u.code.length c.cc)∧w'.cell? ⟨F,14,none⟩=some (.int .i64 (i:Int))∧w'.cell? ⟨bc,oc+i * 3,none⟩=some (.int .i64 x.op)∧w'.cell? ⟨bc,oc+i * 3+1,none⟩=some (.int .i64 x.a)∧w'.cell? ⟨bc,oc+i * 3+2,none⟩=some (.int .i64 x.n)) (by kernel_rfl) q4 (fun hHeld=>?_);refine wpAnyH_take (i:=0) (oi:=_) (v:=?_) rfl (by kernel_rfl) (by kernel_rfl) (by kernel_rfl) (fun _ _ _ h=>h) (Or.inl ⟨by rfl,?_⟩) (by assumption) ?_;rotate_left
       ·intro w hSw
        (try dsimp only at hSw)
        go_simp
        (try with_reducible rfl)
       (try go_frame)
       refine wpAnyH_take (i:=1) (oi:=_) (v:=?_) rfl (by kernel_rfl) (by kernel_rfl) (by kernel_rfl) (fun _ _ _ h=>h) (Or.inl ⟨by rfl,?_⟩) (by assumption) ?_;rotate_left
       ·intro w hSw
        (try dsimp only at hSw)
        go_simp
        (try with_reducible rfl)
       (try go_frame)
       refine wpAnyH_take (i:=2) (oi:=_) (v:=?_) rfl (by kernel_rfl) (by kernel_rfl) (by kernel_rfl) (fun _ _ _ h=>h) (Or.inl ⟨by rfl,?_⟩) (by assumption) ?_;rotate_left
       ·intro w hSw
        (try dsimp only at hSw)
        go_simp
        (try with_reducible rfl)
       (try go_frame)
       refine wpAnyH_take (i:=3) (oi:=_) (v:=?_) rfl (by kernel_rfl) (by kernel_rfl) (by kernel_rfl) (fun _ _ _ h=>h) (Or.inl ⟨by rfl,?_⟩) (by assumption) ?_;rotate_left
       ·intro w hSw
        (try dsimp only at hSw)
        go_simp
        (try with_reducible rfl)
       (try go_frame)
       refine wpAnyH_take (i:=4) (oi:=_) (v:=?_) rfl (by kernel_rfl) (by kernel_rfl) (by kernel_rfl) (fun _ _ _ h=>h) (Or.inl ⟨by rfl,?_⟩) (by assumption) ?_;rotate_left
       ·intro w hSw
        (try dsimp only at hSw)
        go_simp
        (try with_reducible rfl)
       (try go_frame)
       refine wpAnyH_take (i:=5) (oi:=_) (v:=?_) rfl (by kernel_rfl) (by kernel_rfl) (by kernel_rfl) (fun _ _ _ h=>h) (Or.inl ⟨by rfl,?_⟩) (by assumption) ?_;rotate_left
       ·intro w hSw
        (try dsimp only at hSw)
        go_simp
        (try with_reducible rfl)
       (try go_frame)
       refine wpAnyH_take (i:=6) (oi:=_) (v:=?_) rfl (by kernel_rfl) (by kernel_rfl) (by kernel_rfl) (fun _ _ _ h=>h) (Or.inl ⟨by rfl,?_⟩) (by assumption) ?_;rotate_left
       ·intro w hSw
        (try dsimp only at hSw)
        go_simp
        (try with_reducible rfl)
       (try go_frame)
       refine wpAnyH_take (i:=7) (oi:=_) (v:=?_) rfl (by kernel_rfl) (by kernel_rfl) (by kernel_rfl) (fun _ _ _ h=>h) (Or.inl ⟨by rfl,?_⟩) (by assumption) ?_;rotate_left
       ·intro w hSw
        (try dsimp only at hSw)
        go_simp
        (try with_reducible rfl)
       (try go_frame)
       refine wpAnyH_take (i:=8) (oi:=_) (v:=?_) rfl (by kernel_rfl) (by kernel_rfl) (by kernel_rfl) (fun _ _ _ h=>h) (Or.inl ⟨by rfl,?_⟩) (by assumption) ?_;rotate_left
       ·intro w hSw
        (try dsimp only at hSw)
        go_simp
        (try with_reducible rfl)
       (try go_frame)
       refine wpAnyH_take (i:=9) (oi:=_) (v:=?_) rfl (by kernel_rfl) (by kernel_rfl) (by kernel_rfl) (fun _ _ _ h=>h) (Or.inl ⟨by rfl,?_⟩) (by assumption) ?_;rotate_left
       ·intro w hSw
        (try dsimp only at hSw)
        go_simp
        (try with_reducible rfl)
       (try go_frame)
       refine wpAnyH_take (i:=10) (oi:=_) (v:=?_) rfl (by kernel_rfl) (by kernel_rfl) (by kernel_rfl) (fun _ _ _ h=>h) (Or.inl ⟨by rfl,?_⟩) (by assumption) ?_;rotate_left
       ·intro w hSw
        (try dsimp only at hSw)
        go_simp
        (try with_reducible rfl)
       (try go_frame)
       refine wpAnyH_take (i:=11) (oi:=_) (v:=?_) rfl (by kernel_rfl) (by kernel_rfl) (by kernel_rfl) (fun _ _ _ h=>h) (Or.inl ⟨by rfl,?_⟩) (by assumption) ?_;rotate_left
       ·intro w hSw
        (try dsimp only at hSw)
        go_simp
        (try with_reducible rfl)
       (try go_frame)
       refine wpAnyH_take (i:=12) (oi:=_) (v:=?_) rfl (by kernel_rfl) (by kernel_rfl) (by kernel_rfl) (fun _ _ _ h=>h) (Or.inl ⟨by rfl,?_⟩) (by assumption) ?_;rotate_left
       ·intro w hSw
        (try dsimp only at hSw)
        go_simp
        (try with_reducible rfl)
       (try go_frame)
       refine wpAnyH_ready (rs:=[13]) (by kernel_rfl) (by simp) ?_;refine AllReadyH.cons (o:=_) rfl (fun K hK=>?_) AllReadyH.nil;go_simp
       refine (Lx c F B Pd kn.st kn.fl (i:Int) YB x.op x.a x.n _ (hide Jm.out.drew) (hide xC.out.env.drew) gN.out.2 (hide gN.out.1) hR Gg hz1 rS Ay).mono ?_;rintro e w5 hS;have hg5:wc.grownBy w5 (some F):=uT hS.grown;cases rS with
       | error u7 =>
        obtain rfl:=hS.no u7 rfl;have HE:=hide (gU.out u7 Hr.out);have D6:Hid (u7≠0):=Rj.out u7 Hr.out;have vL:Hid (Below B w w5):=uk.out.trans (JZ.out w5 hg5);clear hS hK hg5;go_wp2
        rw[HE.out.1,HE.out.2];exact⟨rfl,vL.out,Ra D6.out⟩
       | ok Ed =>
        obtain⟨rfl,adO,J2⟩:=hS.yes Ed rfl;have yt:Hid (WF c B F w5 ⟨Ed,Vf.kV x kn.fl⟩ (i:Int) ⟨come,rest⟩):=xC.out.own (k':=⟨Ed,Vf.kV x kn.fl⟩) hg5 J2 (fun tp rv' h'=>by
         have:=Jm.out.blk.symm.trans h'.blk;simp at this;exact this.2)
        have Rk:Hid (aQ c.m Ed):=YC.out Ed rfl;have J3:Hid (r=Vf.jf c.u.code.length ⟨Ed,Vf.kV x kn.fl⟩ (Vf.goes x i) ⟨come,rest⟩):=Hr.out;have q5:=Mv.out w5 (fun j hj=>(JZ.out w5 hg5).block j hj) ⟨_,_,_,_,J2⟩;have vL:Hid (Below B w w5):=uk.out.trans (JZ.out w5 hg5);have HF5:=hide J2;have uX:Hid (∀ w',Below B w5 w'→(∃ top st f rv,aB c w' F top st f (i:Int) rv)→(w'.cell? ⟨F,7,none⟩=some (.slice (some ⟨bc,oc,none⟩) c.u.code.length c.cc)∧w'.cell? ⟨F,14,none⟩=some (.int .i64 (i:Int))∧w'.cell? ⟨bc,oc+i * 3,none⟩=some (.int .i64 x.op)∧w'.cell? ⟨bc,oc+i * 3+1,none⟩=some (.int .i64 x.a)∧w'.cell? ⟨bc,oc+i * 3+2,none⟩=some (.int .i64 x.n))):=fun w' hb hF'=>Mv.out w' (fun j hj=>(hb.block j hj).trans ((JZ.out w5 hg5).block j hj)) hF';refine hK.out _ _ q5 (fun hHeld=>?_);clear hK hS hg5 J2 hHeld q4;refine wpAnyH_done (by kernel_rfl) ?_ _;have YD:rest.length≤99999999:=by have h1:=yw.out;have h2:rest.length≤Vf.mu c.u.code.length ⟨come,rest⟩:=Vf.OY (s:=⟨come,rest⟩);have h3:=JX.out;omega
        go_wp2_with fail
        refine wp_region_held_drew (S:=fun w'=>w'.cell? ⟨F,7,none⟩=some (.slice (some ⟨bc,oc,none⟩) c.u.code.length c.cc)∧w'.cell? ⟨F,14,none⟩=some (.int .i64 (i:Int))∧w'.cell? ⟨bc,oc+i * 3,none⟩=some (.int .i64 x.op)∧w'.cell? ⟨bc,oc+i * 3+1,none⟩=some (.int .i64 x.a)∧w'.cell? ⟨bc,oc+i * 3+2,none⟩=some (.int .i64 x.n)) (by kernel_rfl) q5 (fun hHeld=>?_);refine wpAnyH_take (i:=0) (oi:=_) (v:=?_) rfl (by kernel_rfl) (by kernel_rfl) (by kernel_rfl) (fun _ _ _ h=>h) (Or.inl ⟨by rfl,?_⟩) (by assumption) ?_;rotate_left
        ·intro w hSw
         (try dsimp only at hSw)
         go_simp
         (try with_reducible rfl)
        (try go_frame)
        refine wpAnyH_take (i:=1) (oi:=_) (v:=?_) rfl (by kernel_rfl) (by kernel_rfl) (by kernel_rfl) (fun _ _ _ h=>h) (Or.inl ⟨by rfl,?_⟩) (by assumption) ?_;rotate_left
        ·intro w hSw
         (try dsimp only at hSw)
         go_simp
         (try with_reducible rfl)
        (try go_frame)
        refine wpAnyH_take (i:=2) (oi:=_) (v:=?_) rfl (by kernel_rfl) (by kernel_rfl) (by kernel_rfl) (fun _ _ _ h=>h) (Or.inl ⟨by rfl,?_⟩) (by assumption) ?_;rotate_left
        ·intro w hSw
         (try dsimp only at hSw)
         go_simp
         (try with_reducible rfl)
        (try go_frame)
        refine wpAnyH_take (i:=3) (oi:=_) (v:=?_) rfl (by kernel_rfl) (by kernel_rfl) (by kernel_rfl) (fun _ _ _ h=>h) (Or.inl ⟨by rfl,?_⟩) (by assumption) ?_;rotate_left
        ·intro w hSw
         (try dsimp only at hSw)
         go_simp
         (try with_reducible rfl)
        (try go_frame)
        refine wpAnyH_take (i:=4) (oi:=_) (v:=?_) rfl (by kernel_rfl) (by kernel_rfl) (by kernel_rfl) (fun _ _ _ h=>h) (Or.inl ⟨by rfl,?_⟩) (by assumption) ?_;rotate_left
        ·intro w hSw
         (try dsimp only at hSw)
         go_simp
         (try with_reducible rfl)
        (try go_frame)
        refine wpAnyH_take (i:=5) (oi:=_) (v:=?_) rfl (by kernel_rfl) (by kernel_rfl) (by kernel_rfl) (fun _ _ _ h=>h) (Or.inl ⟨by rfl,?_⟩) (by assumption) ?_;rotate_left
        ·intro w hSw
         (try dsimp only at hSw)
         go_simp
         (try with_reducible rfl)
        (try go_frame)
        refine wpAnyH_take (i:=6) (oi:=_) (v:=?_) rfl (by kernel_rfl) (by kernel_rfl) (by kernel_rfl) (fun _ _ _ h=>h) (Or.inl ⟨by rfl,?_⟩) (by assumption) ?_;rotate_left
        ·intro w hSw
         (try dsimp only at hSw)
         go_simp
         (try with_reducible rfl)
        (try go_frame)
        refine wpAnyH_take (i:=7) (oi:=_) (v:=?_) rfl (by kernel_rfl) (by kernel_rfl) (by kernel_rfl) (fun _ _ _ h=>h) (Or.inl ⟨by rfl,?_⟩) (by assumption) ?_;rotate_left
        ·intro w hSw
         (try dsimp only at hSw)
         go_simp
         (try with_reducible rfl)
        (try go_frame)
        refine wpAnyH_take (i:=8) (oi:=_) (v:=?_) rfl (by kernel_rfl) (by kernel_rfl) (by kernel_rfl) (fun _ _ _ h=>h) (Or.inl ⟨by rfl,?_⟩) (by assumption) ?_;rotate_left
        ·intro w hSw
         (try dsimp only at hSw)
         go_simp
         (try with_reducible rfl)
        (try go_frame)
        refine wpAnyH_take (i:=9) (oi:=_) (v:=?_) rfl (by kernel_rfl) (by kernel_rfl) (by kernel_rfl) (fun _ _ _ h=>h) (Or.inl ⟨by rfl,?_⟩) (by assumption) ?_;rotate_left
        ·intro w hSw
         (try dsimp only at hSw)
         go_simp
         (try with_reducible rfl)
        (try go_frame)
        refine wpAnyH_take (i:=10) (oi:=_) (v:=?_) rfl (by kernel_rfl) (by kernel_rfl) (by kernel_rfl) (fun _ _ _ h=>h) (Or.inl ⟨by rfl,?_⟩) (by assumption) ?_;rotate_left
        ·intro w hSw
         (try dsimp only at hSw)
         go_simp
         (try with_reducible rfl)
        (try go_frame)
        refine wpAnyH_take (i:=11) (oi:=_) (v:=?_) rfl (by kernel_rfl) (by kernel_rfl) (by kernel_rfl) (fun _ _ _ h=>h) (Or.inl ⟨by rfl,?_⟩) (by assumption) ?_;rotate_left
        ·intro w hSw
         (try dsimp only at hSw)
         go_simp
         (try with_reducible rfl)
        (try go_frame)
        refine wpAnyH_take (i:=12) (oi:=_) (v:=?_) rfl (by kernel_rfl) (by kernel_rfl) (by kernel_rfl) (fun _ _ _ h=>h) (Or.inl ⟨by rfl,?_⟩) (by assumption) ?_;rotate_left
        ·intro w hSw
         (try dsimp only at hSw)
         go_simp
         (try with_reducible rfl)
        (try go_frame)
        refine wpAnyH_ready (rs:=[13]) (by kernel_rfl) (by simp) ?_;refine AllReadyH.cons (o:=_) rfl (fun K hK=>?_) AllReadyH.nil;go_simp
        refine (Yo c B F ⟨Ed,Vf.kV x kn.fl⟩ i ⟨come,rest⟩ x.op x.a x.n _ (hide (yt.out.quiet (EX (World.grownBy.refl _ _)))) YD (by omega) Gg HI2 Rk r J3).mono ?_;rintro e w6 hS;have yQ:Hid (Below B w w6):=vL.out.trans (by have:=hS.below;exact⟨this.os,this.tape,this.output,this.size,this.block⟩);cases r with
        | error u7 =>
         obtain rfl:=hS.no u7 rfl;have HE:=hide (gU.out u7 rfl);have D6:Hid (u7≠0):=Rj.out u7 rfl;clear hS hK;go_wp2
         rw[HE.out.1,HE.out.2];exact⟨rfl,yQ.out,Ra D6.out⟩
        | ok s6 =>
         obtain⟨rfl,xD⟩:=hS.yes s6 rfl;have YE:Hid (Inv c.m c.u s6):=Lh (k:=⟨Ed,Vf.kV x kn.fl⟩) Rk.out HI2.out (Vf.K8 Gg.out i) J3.out.symm;have YF:=hide (Yw.out s6 rfl);have YG:=hide (ER.out s6 rfl);have Ee:=hide xD;obtain⟨adQ,rv6,Jl,_⟩:=xD.fl;refine hK.out _ _ (uX.out w6 (by have:=hS.below;exact⟨this.os,this.tape,this.output,this.size,this.block⟩) ⟨_,_,_,_,Jl⟩) (fun hHeld=>?_);clear hK hS xD Jl hHeld q5;refine wpAnyH_done (by kernel_rfl) ?_ _;go_wp2
         go_roundg f
         case measure=>omega
         case rel =>
          have h1:=Rh.out;have h2:=JX.out;have h3:=YF.out;have h4:=yw.out;exact⟨_,_,s6,Ee.out,yQ.out,YE.out,by omega,by omega,YG.out⟩
end Go.Proofs.YtbdpdjcdhclbfaaGreat

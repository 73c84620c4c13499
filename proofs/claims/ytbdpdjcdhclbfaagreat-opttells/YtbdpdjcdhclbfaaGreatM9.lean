/- The document's Rule,walked. -/
import Derived.Test.YtbdpdjcdhclbfaaGreatM8
import Derived.Deep.DeepCutAuto
import Derived.BigQuiet
import Derived.Test.YtbdpdjcdhclbfaaGreatM3
import Derived.Maps.RangeWalk
set_option maxRecDepth 100000
set_option maxHeartbeats 4000000
namespace Go.Proofs.YtbdpdjcdhclbfaaGreat.Ow
open Go.RowKit Vf Vm Ot Od
def EO (l:List Ins)(k:Nat):Bool:=may l k 3 && kn (ia l k) && kn (ia l (k+1)) && (tr (ia l k)==tr (ia l (k+1))) && wh (ia l (k+2)).op (tr (ia l k)) && can (ia l (k+2)).op (vG (ia l (k+1)))
theorem LA {c:Ins}(h:kn c=true):word c=vG c:=by
 unfold kn at h;simp only[Bool.or_eq_true,decide_eq_true_eq] at h;unfold word vG;rcases h with h | h<;>simp[h]
theorem WK {c d:Ins}{b:Int}(h:kn c=true):(reckons c.op d.op=true∧¬ (b=0∧(d.op=11∨d.op=12))) ↔ (wh d.op (tr c)=true∧can d.op b=true):=by
 have hc:can d.op b=true ↔ (8≤d.op∧d.op≤20)∧¬ (b=0∧(d.op=11∨d.op=12)):=by
  unfold can;simp only[Bool.and_eq_true,decide_eq_true_eq,Bool.not_eq_true',Bool.and_eq_false_iff,Bool.or_eq_false_iff,decide_eq_false_iff_not];omega
 rw[hc];unfold kn at h;simp only[Bool.or_eq_true,decide_eq_true_eq] at h;rcases h with h | h
 ·have e:reckons c.op d.op=(decide (8≤d.op) && decide (d.op≤18)):=by unfold reckons;rw[if_pos h]
  have e2:tr c=false:=by simp[tr,h]
  rw[e,e2];unfold wh;simp only[Bool.and_eq_true,decide_eq_true_eq];constructor
  ·rintro⟨h1,h2⟩
   refine⟨?_,by omega,h2⟩;split
   ·rfl
   ·rw[if_neg (by omega)];rfl
  ·rintro⟨h1,h2,h3⟩
   refine⟨⟨h2.1,?_⟩,h3⟩;by_cases h4:d.op=19∨d.op=20
   ·rw[if_neg (by omega),if_pos h4] at h1;cases h1
   ·omega
 ·have e:reckons c.op d.op=(d.op==13 || d.op==14 || d.op==19 || d.op==20):=by unfold reckons;rw[if_neg (by omega),if_pos h]
  have e2:tr c=true:=by simp[tr,h]
  rw[e,e2];unfold wh;simp only[Bool.or_eq_true,beq_iff_eq];constructor
  ·rintro⟨h1,h2⟩
   refine⟨?_,by omega,h2⟩;split
   ·rfl
   ·rw[if_pos (by omega)]
  ·rintro⟨h1,h2,h3⟩
   refine⟨?_,h3⟩;by_cases h4:d.op=13∨d.op=14
   ·omega
   ·rw[if_neg h4] at h1
    by_cases h5:d.op=19∨d.op=20
    ·omega
    ·rw[if_neg h5] at h1;cases h1
theorem WL {c d:Ins}(h:kn c=true):c.op=d.op ↔ (kn d=true∧tr c=tr d):=by
 unfold kn tr at *;simp only[Bool.or_eq_true,decide_eq_true_eq] at *;rcases h with h | h
 ·simp[h];omega
 ·simp[h];omega
theorem LC (l:List Ins)(k:Nat):su l k=if EO l k=true then (3,tells (ia l (k+2)).op (vG (ia l k)) (vG (ia l (k+1)))) else second l k:=by
 unfold su EO;by_cases hk:kn (ia l k)=true
 ·have h2:=WL (d:=ia l (k+1)) hk
  by_cases hs:(ia l k).op=(ia l (k+1)).op
  ·obtain⟨k1,t1⟩:=h2.1 hs
   have h3:=WK (d:=ia l (k+2)) (b:=word (ia l (k+1))) hk;simp only[hk,k1,t1,hs,true_and,Bool.and_true,beq_self_eq_true,Bool.and_eq_true] at h3 ⊢;rw[LA k1] at h3 ⊢;simp only[h3,and_assoc];by_cases hm:may l k 3=true∧wh (ia l (k+2)).op (tr (ia l (k+1)))=true∧can (ia l (k+2)).op (vG (ia l (k+1)))=true
   ·rw[if_pos hm,if_pos hm]
    unfold tells comes;rw[if_pos hm.2.2,LA hk,LA k1]
   ·rw[if_neg hm,if_neg hm]
  ·rw[if_neg (fun h=>hs h.2.2.1),if_neg]
   simp only[Bool.and_eq_true,beq_iff_eq];exact fun h=>hs (h2.2 ⟨h.1.1.1.2,h.1.1.2⟩)
 ·rw[if_neg (fun h=>hk h.2.1),if_neg]
  simp only[Bool.and_eq_true];exact fun h=>hk h.1.1.1.1.2
theorem WM (P Q cap n x:Nat)(a:Option Addr)(l:List Ins)(w:World)(hl:n=l.length)(hP:Hid (w.cell? ⟨P,0,none⟩=some (.int .i64 x)))(hQ:Hid (w.cell? ⟨Q,0,none⟩=some (.slice a n cap)))(hn:n≤4000)(hx:x≤4000) :
  Calls Tryz.prog 48 #[.int .i64 1,.pointer (some ⟨P,0,none⟩),.pointer (some ⟨Q,0,none⟩)] w fun e w'=>e=.returned (.bool (may l x 1))∧w'=w:=by
 have HR:Hid (may l x 1=decide ((x:Int)+1<(n:Int))):=by unfold Hid may;rw[← hl];simp;omega
 have x1:(x:Int)≤4000:=by omega
 have n1:(n:Int)≤4000:=by omega
 have p0:=hP.out;have q0:=hQ.out;clear hl;go_enter Tryz.func48,Tryz.ntmps48
 go_wp2
 go_loopw [5] (fun i wr=>i=.int .i64 ((x:Int)+1)∧wr=w) (fun i _=>0)
 case atStart=>exact⟨rfl,rfl⟩
 case round =>
  obtain⟨rfl,rfl⟩:=hrel;have t1:¬ (x:Int)+1<(x:Int)+1:=by omega
  go_wp2
  go_ret
  exact⟨by rw[HR.out];rfl,rfl⟩
theorem Ha {B:Nat}{w:World}{l:List Ins}{a:Option Addr}(h:aV B w l a){j:Nat}(hj:j<l.length):∃ b off,a=some ⟨b,off,none⟩∧b<B∧w.cell? ⟨b,off+j * 3,none⟩=some (.int .i64 (ia l j).op)∧w.cell? ⟨b,off+j * 3+1,none⟩=some (.int .i64 (ia l j).a)∧w.cell? ⟨b,off+j * 3+2,none⟩=some (.int .i64 (ia l j).n):=by
 obtain⟨_,_,_,b,off,h1,h2,h3⟩:=h j (ia l j) (by simp[ia,hj]);exact⟨b,off,h1,h2,h3⟩
theorem WN {B:Nat}{w:World}{l:List Ins}{a:Option Addr}(h:aV B w l a){j:Nat}(hj:j<l.length):dA (ia l j).op∧dA (ia l j).a∧dA (ia l j).n:=by
 obtain⟨h1,h2,h3,_⟩:=h j (ia l j) (by simp[ia,hj]);exact⟨h1,h2,h3⟩
abbrev JB (a:Option Addr) (n c:Nat):Obj:=.cells #[.slice a n c] 38 (0,0)
abbrev LD (k:Nat):Obj:=.cells #[.int .i64 (k:Int)] 3 (0,0)
structure WO (l:List Ins) (a:Option Addr) (b off n c k p:Nat) (W:World):Prop where
 h1:W.cell? ⟨p,0,none⟩=some (.slice a n c)
 h2:W.cell? ⟨p+1,0,none⟩=some (.int .i64 (k:Int))
 c0:W.cell? ⟨b,off+k * 3,none⟩=some (.int .i64 (ia l k).op)
 c1:W.cell? ⟨b,off+k * 3+1,none⟩=some (.int .i64 (ia l k).a)
 c2:W.cell? ⟨b,off+k * 3+2,none⟩=some (.int .i64 (ia l k).n)
theorem WQ (B:Nat)(a:Option Addr)(l:List Ins)(c k:Nat)(w:World)(hC:Hid (aV B w l a))(hB:B≤w.heap.size)(hl:l.length≤4000)(hk:k<l.length)(hG:Hid (Od.Good l)) :
  Calls Tryz.prog 26 #[.slice a l.length c,.int .i64 (k:Int)] w fun e w'=>∃ v n cc,e=.returned (.tuple #[.slice v n cc,.int .i64 (su l k).1])∧uI w w' (.slice v n cc) (su l k).2∧Below w.heap.size w w':=by
 obtain⟨n,hn⟩:∃ n,n=l.length:=⟨_,rfl⟩;have HN:=hide hn;obtain⟨b,off,ha,hb,x0,x1,x2⟩:=Ha hC.out hk;rw[← hn] at hl hk ⊢;clear hn;obtain⟨V,hV⟩:∃ V,V=(w.alloc (JB a n c)).alloc (LD k):=⟨_,rfl⟩;have ll:Hid (Below w.heap.size w V):=by rw[hV];exact vY _ _ _
 have BQ:Hid (V.heap[w.heap.size]?=some (JB a n c)):=by
  rw[hV,Below.heap_alloc _ _ _ (by simp)];exact heap_alloc_new _ _
 have Av:Hid (V.heap[w.heap.size+1]?=some (LD k)):=by
  have:=heap_alloc_new (w.alloc (JB a n c)) (LD k);rw[show (w.alloc (JB a n c)).heap.size=w.heap.size+1 by simp] at this;rw[hV];exact this
 have yu:Hid (V.heap.size=w.heap.size+1+1):=by unfold Hid;rw[hV];simp
 have HV:=hide hV;have JC:Hid (∀ W,Below V.heap.size V W→aV B W l a):=fun W h=>(hC.out.low (fun q hq=>ll.out.block q (by omega)):aV B V l a).low (fun q hq=>h.block q (by have:=yu.out;omega));have Ay:Hid (∀ W,Below V.heap.size V W→WO l a b off n c k w.heap.size W):=fun W h=>by
  have e1:=(h.block w.heap.size (by have:=yu.out;omega)).trans BQ.out;have e2:=(h.block (w.heap.size+1) (by have:=yu.out;omega)).trans Av.out;have hbw:b<w.heap.size:=by omega
  have hbv:b<V.heap.size:=by have:=yu.out;omega
  exact⟨by simp[World.cell?,e1],by simp[World.cell?,e2],(h.cell (p:=⟨b,_,none⟩) hbv).trans ((ll.out.cell (p:=⟨b,_,none⟩) hbw).trans x0),(h.cell (p:=⟨b,_,none⟩) hbv).trans ((ll.out.cell (p:=⟨b,_,none⟩) hbw).trans x1),(h.cell (p:=⟨b,_,none⟩) hbv).trans ((ll.out.cell (p:=⟨b,_,none⟩) hbw).trans x2)⟩
 have k1:(k:Int)≤4000:=by omega
 have n1:(n:Int)≤4000:=by omega
 have kn1:(k:Int)<(n:Int):=by omega
 obtain⟨f,hf⟩:∃ f,f=kn (ia l k):=⟨_,rfl⟩;obtain⟨t,ht⟩:∃ t,t=tr (ia l k):=⟨_,rfl⟩;obtain⟨z,hz⟩:∃ z,z=vG (ia l k):=⟨_,rfl⟩;have HF:=hide hf;have HT:=hide ht;have HZ:=hide hz;subst ha;have HW:=PU (ia l k) V;rw[← hf,← ht,← hz] at HW;have Qc:=hide HW;clear HW hf ht hz x0 x1 x2 hV;go_enter Tryz.func26,Tryz.ntmps26
 go_upto_region 2 with fail
 rw[← HV.out];obtain⟨s1,s2,c0,c1,c2⟩:=Ay.out V (Below.refl _ _);go_wp2_with fail
 refine Qc.out.mono ?_;rintro e w1 ⟨rfl,rfl⟩;have HB1:Hid (Below V.heap.size V (V.alloc (fF (ia l k)))):=fG _ _;obtain⟨W1,hW1⟩:∃ W1,W1=V.alloc (fF (ia l k)):=⟨_,rfl⟩;rw[← hW1] at HB1 ⊢;clear hW1 s1 s2 c0 c1 c2;go_upto_region 3 with fail
 obtain⟨s1,s2,c0,c1,c2⟩:=Ay.out W1 HB1.out;obtain⟨m3,ik⟩:∃ m3,m3=may l k 3:=⟨_,rfl⟩;have yw:=hide ik;clear ik;obtain⟨g,hg⟩:∃ g,g=(f && m3):=⟨_,rfl⟩;have sH:=hide hg;clear hg;go_cut [30] (fun v wx=>v=.bool g∧Hid (Below V.heap.size V wx))
 case first =>
  cases f with
  | false =>
   go_wp2_with fail
   go_meet
   exact⟨by rw[sH.out];rfl,HB1⟩
  | true =>
   have zx:=hide (Qa B (w.heap.size+1) w.heap.size c k 3 _ l W1 (hide (JC.out _ HB1.out)) (by have:=HB1.out.size;have:=yu.out;omega) (hide s2) (hide (by rw[← HN.out];exact s1)) (by rw[← HN.out];exact hl) (by omega) (by decide) (by decide));go_wp2_with fail
   refine zx.out.mono ?_;rintro e w2 ⟨rfl,hb2⟩;have HB2:Hid (Below V.heap.size V w2):=HB1.out.trans (hb2.mono HB1.out.size);rw[← yw.out];go_wp2_with fail
   go_meet
   exact⟨by rw[sH.out];rfl,HB2⟩
 case rest =>
  obtain⟨rfl,HB2⟩:=hcut;go_upto_if 30 with fail
  go_cut [10,11,12,13,14] (fun _ _ _ _ _ wx=>Hid (Below V.heap.size V wx)∧Hid (su l k=second l k))
  case first =>
   have zy:=HB2;clear HB2;cases g with
   | false =>
    have HKK:Hid (su l k=second l k):=by
     unfold Hid;rw[LC,if_neg];have h:=sH.out.symm;rw[yw.out,HF.out,Bool.and_comm] at h;unfold EO;rw[h];simp
    go_wp2_with fail
    go_meet
    exact⟨zy,HKK⟩
   | true =>
   have hfm:=sH.out.symm;rw[Bool.and_eq_true] at hfm;obtain⟨rfl,rfl⟩:=hfm;clear HB1 s1 s2 c0 c1 c2;have hk3:=Ju yw.out.symm;rw[← HN.out] at hk3;have k2:(k:Int)+1<(n:Int):=by omega
   have k3:(k:Int)+2<(n:Int):=by omega
   have Qd:Hid (∀ j,j<n→∀ W,Below V.heap.size V W→W.cell? ⟨b,off+j * 3,none⟩=some (.int .i64 (ia l j).op)∧W.cell? ⟨b,off+j * 3+1,none⟩=some (.int .i64 (ia l j).a)∧W.cell? ⟨b,off+j * 3+2,none⟩=some (.int .i64 (ia l j).n)):=fun j hj W h=>by
    obtain⟨_,_,e,_,h1⟩:=Ha (JC.out W h) (j:=j) (by rw[← HN.out];exact hj);cases e;exact h1
   obtain⟨s1,s2,_,_,_⟩:=Ay.out wc zy.out;obtain⟨c0,c1,c2⟩:=Qd.out (k+1) (by omega) wc zy.out;obtain⟨f1,hf1⟩:∃ f1,f1=kn (ia l (k+1)):=⟨_,rfl⟩;obtain⟨t1,ht1⟩:∃ t1,t1=tr (ia l (k+1)):=⟨_,rfl⟩;obtain⟨z1,hz1⟩:∃ z1,z1=vG (ia l (k+1)):=⟨_,rfl⟩;have FY:Hid (EO l k=(f1 && (t==t1) && wh (ia l (k+2)).op t && can (ia l (k+2)).op z1)):=by
    unfold Hid EO;rw[← yw.out,← HF.out,← HT.out,← hf1,← ht1,← hz1];rfl
   have JD:Hid (EO l k=false→su l k=second l k):=fun h=>by rw[LC,h];rfl
   have Qe:Hid (EO l k=true→su l k=(3,tells (ia l (k+2)).op z z1)):=fun h=>by rw[LC,h,if_pos rfl,HZ.out,hz1]
   have HI:Hid (dA z):=by
    obtain⟨_,i1,i2⟩:=WN hC.out (j:=k) (by rw[← HN.out];exact hk);unfold Hid;rw[HZ.out];unfold vG;split
    ·exact i2
    ·split
     ·exact i1
     ·exact⟨by decide,by decide⟩
   have WR:Hid (t=true→t=t1→(z=0∨z=1)∧(z1=0∨z1=1)):=fun h1 h2=>by
    have key:∀ j,j<n→tr (ia l j)=true→vG (ia l j)=0∨vG (ia l j)=1:=fun j hj hh=>by
     have e:(ia l j).op=2:=of_decide_eq_true hh;have:=hG.out (ia l j) (List.mem_of_getElem? (i:=j) (by have:=HN.out;simp[ia,(show j<l.length by omega)])) e;unfold vG;rw[e];simpa using this
    rw[HZ.out,hz1];exact⟨key k (by omega) (by rw[← HT.out];exact h1),key (k+1) (by omega) (by rw[← ht1,← h2];exact h1)⟩
   have HW:=PU (ia l (k+1)) wc;rw[← hf1,← ht1,← hz1] at HW;have JE:=hide HW;clear HW hf1 ht1 hz1;go_wp2_with fail
   refine JE.out.mono ?_;rintro e w3 ⟨rfl,rfl⟩;have HB3:Hid (Below V.heap.size V (wc.alloc (fF (ia l (k+1))))):=zy.out.alloc zy.out.size _;obtain⟨W3,hW3⟩:∃ W3,W3=wc.alloc (fF (ia l (k+1))):=⟨_,rfl⟩;rw[← hW3] at HB3 ⊢;clear hW3 s1 s2 c0 c1 c2 JE zy;go_upto_region 5 with fail
   obtain⟨s1,s2,_,_,_⟩:=Ay.out W3 HB3.out;obtain⟨c0,c1,c2⟩:=Qd.out (k+2) (by omega) W3 HB3.out;cases f1 with
   | false =>
    have HE:=hide (JD.out (by rw[FY.out];rfl));go_wp2_with fail
    go_meet
    exact⟨HB3,HE⟩
   | true =>
   by_cases DZ:t=t1
   ·subst DZ
    have e:(t==t)=true:=by simp
    obtain⟨o,ho⟩:∃ o,o=(ia l (k+2)).op:=⟨_,rfl⟩;rw[← ho] at c0 FY Qe;clear ho;obtain⟨g,hg⟩:∃ g,g=wh o t:=⟨_,rfl⟩;have xy:=hide hg;have FZ:=Wj o t W3;rw[← hg] at FZ;have FZ:=hide FZ;clear hg;cases g with
    | false =>
     have HE:=hide (JD.out (by rw[FY.out,← xy.out];simp));go_wp2_with fail
     refine FZ.out.mono ?_;rintro e w4 ⟨rfl,rfl⟩;go_wp2_with fail
     go_meet
     exact⟨HB3,HE⟩
    | true =>
     obtain⟨y,hy⟩:∃ y,y=can o z1:=⟨_,rfl⟩;have F5:=Wo o z z1 W3 HI.out (fun h=>WR.out (by
      have:=xy.out;unfold wh at this;rw[if_neg (by omega),if_pos h] at this;exact this.symm) rfl)
     unfold Lt at F5;rw[← hy] at F5;have F5:=hide F5;have HY:=hide hy;have hz3:w.heap.size≤W3.heap.size:=by have:=HB3.out.size;have:=yu.out;omega
     clear hy;go_wp2_with fail
     refine FZ.out.mono ?_;rintro e w4 ⟨rfl,rfl⟩;go_wp2_with fail
     refine F5.out.mono ?_;rintro e w5 ⟨v,m,cc,rfl,hp,hb5⟩;have GZ:=hide hp;have vL:Hid (Below V.heap.size V w5):=HB3.out.trans (hb5.mono HB3.out.size);clear hp hb5 F5 FZ;cases y with
     | false =>
      have HE:=hide (JD.out (by rw[FY.out,← HY.out];simp));go_wp2_with fail
      go_meet
      exact⟨vL,HE⟩
     | true =>
      have HE:=hide (Qe.out (by rw[FY.out,← xy.out,← HY.out];simp));go_wp2_with fail
      exact bodyPost_ret (v:=.tuple #[.slice v m cc,.int .i64 3]) (by simp[results,Tryz.results26,go_sem]) rfl ⟨_,_,_,by rw[HE.out];rfl,by rw[HE.out];exact GZ.out.keep hz3 (Below.refl _ _),ll.out.trans (vL.out.mono ll.out.size)⟩
   ·have e:(t==t1)=false:=by simpa using DZ
    have HE:=hide (JD.out (by rw[FY.out,e];simp));clear DZ;go_wp2_with fail
    go_meet
    exact⟨HB3,HE⟩
  case rest =>
   obtain⟨zy,HE⟩:=hcut;clear Qc HB1 s1 s2 c0 c1 c2 yw sH HB2;obtain⟨s1,s2,c0,c1,c2⟩:=Ay.out wc zy.out;obtain⟨m2,hm2⟩:∃ m2,m2=may l k 2:=⟨_,rfl⟩;have uJ:=hide hm2;have zx:=hide (Qa B (w.heap.size+1) w.heap.size c k 2 _ l wc (hide (JC.out _ zy.out)) (by have:=zy.out.size;have:=yu.out;omega) (hide s2) (hide (by rw[← HN.out];exact s1)) (by rw[← HN.out];exact hl) (by omega) (by decide) (by decide));clear hm2;go_wp2_with fail
   refine zx.out.mono ?_;rintro e w2 ⟨rfl,hb2⟩;have HB2:Hid (Below V.heap.size V w2):=zy.out.trans (hb2.mono zy.out.size);rw[← uJ.out];clear hb2 zx s1 s2 c0 c1 c2;go_upto_if 72 with fail
   go_cut [15] (fun _ wx=>Hid (Below V.heap.size V wx)∧Hid (su l k=third l k))
   case first =>
    cases m2 with
    | false =>
     have HE2:Hid (su l k=third l k):=by unfold Hid;rw[HE.out,second,← uJ.out,if_neg (by decide)]
     go_wp2_with fail
     go_meet
     exact⟨HB2,HE2⟩
    | true =>
     have hk2:=Ju uJ.out.symm;rw[← HN.out] at hk2;have k2:(k:Int)+1<(n:Int):=by omega
     obtain⟨s1,s2,d0,d1,d2⟩:=Ay.out w2 HB2.out;obtain⟨c0,c1,c2⟩:w2.cell? ⟨b,off+(k+1) * 3,none⟩=some (.int .i64 (ia l (k+1)).op)∧w2.cell? ⟨b,off+(k+1) * 3+1,none⟩=some (.int .i64 (ia l (k+1)).a)∧w2.cell? ⟨b,off+(k+1) * 3+2,none⟩=some (.int .i64 (ia l (k+1)).n):=by
      obtain⟨_,_,e,_,h1⟩:=Ha (JC.out w2 HB2.out) (j:=k+1) (by rw[← HN.out];omega);cases e;exact h1
     have hbw:b<w2.heap.size:=by have:=HB2.out.size;have:=yu.out;omega
     have hw2:w.heap.size+1<w2.heap.size:=by have:=HB2.out.size;have:=yu.out;omega
     have EP:w.heap.size≤w2.heap.size:=by omega
     have vN:Hid (su l k=if (ia l (k+1)).op=5∧(f=true∨(ia l k).op=3) then (2,[])
       else if (f=true∧t=false)∧(ia l (k+1)).op=6 then (2,yH (ia l k) (ia l (k+1)))
       else if t=true∧(ia l (k+1)).op=7 then (2,ym (ia l k) (ia l (k+1)))
       else if t=true∧(ia l (k+1)).op=22 then (2,vF (ia l k) (ia l (k+1)))
       else third l k):=by
      have e1:(f=true∧t=false) ↔ (ia l k).op=1:=by rw[HF.out,HT.out];simp[kn,tr];omega
      have e2:t=true ↔ (ia l k).op=2:=by rw[HT.out];simp[tr]
      unfold Hid;rw[HE.out,second,← uJ.out,if_pos rfl];simp only[e1,e2,← HF.out]
     obtain⟨W3,hW3⟩:∃ W3,W3=w2.alloc (fF (ia l (k+1))):=⟨_,rfl⟩;have HW3:=hide hW3.symm;have HB3:Hid (Below V.heap.size V W3):=by rw[hW3];exact HB2.out.alloc HB2.out.size _
     obtain⟨b0,b1⟩:W3.cell? ⟨w2.heap.size,0,none⟩=some (.int .i64 (ia l (k+1)).op)∧W3.cell? ⟨w2.heap.size,1,none⟩=some (.int .i64 (ia l (k+1)).a):=by
      have h1:W3.heap[w2.heap.size]?=some (fF (ia l (k+1))):=by rw[hW3];exact heap_alloc_new _ _
      exact⟨by simp[World.cell?,h1],by simp[World.cell?,h1]⟩
     clear hW3;go_upto_region 11 with fail
     rw[HW3.out];clear HW3 s1 s2 d0 d1 d2 c0 c1 c2 HB2 HE;obtain⟨s1,s2,d0,d1,d2⟩:=Ay.out W3 HB3.out;have EP:w.heap.size≤W3.heap.size:=by have:=HB3.out.size;have:=yu.out;omega
     have Qf:Hid (t=true→z=(ia l k).a∧(z=0∨z=1)):=fun h=>by
      have e:(ia l k).op=2:=of_decide_eq_true (by rw[HT.out] at h;exact h);have e2:z=(ia l k).a:=by rw[HZ.out];simp[vG,e]
      exact⟨e2,by rw[e2];exact hG.out (ia l k) (List.mem_of_getElem? (i:=k) (by have:=HN.out;simp[ia,(show k<l.length by omega)])) e⟩
     have Hd:Hid (f=false→t=false):=fun h=>by
      rw[HT.out];rw[HF.out] at h;unfold kn at h;unfold tr;simp at h ⊢;exact h.2
     by_cases h5:(ia l (k+1)).op=5
     ·have e5:((ia l (k+1)).op==5)=true:=by simp[h5]
      have e6:((ia l (k+1)).op==6)=false:=by simp[h5]
      cases f with
      | true =>
       have HE2:Hid (su l k=(2,[])):=by unfold Hid;rw[vN.out];(rw[if_pos ⟨h5,.inl rfl⟩])
       clear vN;go_wp2_with fail
       exact bodyPost_ret (v:=.tuple #[.slice none 0 0,.int .i64 2]) (by simp[results,Tryz.results26,go_sem]) rfl ⟨_,_,_,by rw[HE2.out];rfl,by rw[HE2.out];exact .none _ _,ll.out.trans (HB3.out.mono ll.out.size)⟩
      | false =>
      obtain rfl:t=false:=Hd.out rfl;by_cases h3:(ia l k).op=3
      ·have e3:((ia l k).op==3)=true:=by simp[h3]
       have HE2:Hid (su l k=(2,[])):=by unfold Hid;rw[vN.out];(rw[if_pos ⟨h5,.inr h3⟩])
       clear vN;go_wp2_with fail
       exact bodyPost_ret (v:=.tuple #[.slice none 0 0,.int .i64 2]) (by simp[results,Tryz.results26,go_sem]) rfl ⟨_,_,_,by rw[HE2.out];rfl,by rw[HE2.out];exact .none _ _,ll.out.trans (HB3.out.mono ll.out.size)⟩
      ·have e3:((ia l k).op==3)=false:=by simpa using h3
       have HE2:Hid (su l k=third l k):=by unfold Hid;rw[vN.out];(simp[h3])
       clear vN;go_wp2_with fail
       go_meet
       exact⟨HB3,HE2⟩
     have e5:((ia l (k+1)).op==5)=false:=by simpa using h5
     cases t with
     | true =>
      obtain rfl:f=true:=by cases f with | true=>rfl | false=>exact absurd (Hd.out rfl) (by decide)
      by_cases h7:(ia l (k+1)).op=7
      ·have e7:((ia l (k+1)).op==7)=true:=by simp[h7]
       have HP:Hid (ym (ia l k) (ia l (k+1))=[⟨2,yes (z==0),0⟩]):=by
        obtain⟨hza,hg⟩:=Qf.out rfl;unfold Hid ym;rw[← hza];rcases hg with h | h<;>rw[h]<;>kernel_rfl
       have HE2:Hid (su l k=(2,[⟨2,yes (z==0),0⟩])):=by unfold Hid;rw[vN.out];(simp[h7];exact HP.out)
       have uk:Hid (Below w.heap.size w (W3.alloc (fF ⟨2,yes (z==0),0⟩))):=(ll.out.trans (HB3.out.mono ll.out.size)).alloc EP _;have zw:Hid (uI w (W3.alloc (fF ⟨2,yes (z==0),0⟩)) (.slice (some ⟨W3.heap.size,0,none⟩) 1 1) [⟨2,yes (z==0),0⟩]):=.one EP (heap_alloc_new _ _);clear vN;go_wp2_with fail
       (refine (BM _ _).mono ?_;rintro e w4 ⟨rfl,rfl⟩;go_wp2_with fail)
       exact bodyPost_ret (v:=.tuple #[.slice (some ⟨W3.heap.size,0,none⟩) 1 1,.int .i64 2]) (by simp[results,Tryz.results26,go_sem]) rfl ⟨_,_,_,by rw[HE2.out];rfl,by rw[HE2.out];exact zw.out,uk.out⟩
      have e7:((ia l (k+1)).op==7)=false:=by simpa using h7
      by_cases h22:(ia l (k+1)).op=22
      ·have e22:((ia l (k+1)).op==22)=true:=by simp[h22]
       have hza:=(Qf.out rfl).1;by_cases hz0:z=0
       ·have ez:(z==0)=true:=by simp[hz0]
        have HP:Hid (vF (ia l k) (ia l (k+1))=[⟨21,(ia l (k+1)).a,0⟩]):=by unfold Hid vF;rw[if_pos (by rw[← hza];exact hz0)]
        clear hz0 hza;have HE2:Hid (su l k=(2,[⟨21,(ia l (k+1)).a,0⟩])):=by unfold Hid;rw[vN.out];(simp[h22];exact HP.out)
        have uk:Hid (Below w.heap.size w (W3.alloc (fF ⟨21,(ia l (k+1)).a,0⟩))):=(ll.out.trans (HB3.out.mono ll.out.size)).alloc EP _;have zw:Hid (uI w (W3.alloc (fF ⟨21,(ia l (k+1)).a,0⟩)) (.slice (some ⟨W3.heap.size,0,none⟩) 1 1) [⟨21,(ia l (k+1)).a,0⟩]):=.one EP (heap_alloc_new _ _);clear vN;go_wp2_with fail
        skip
        exact bodyPost_ret (v:=.tuple #[.slice (some ⟨W3.heap.size,0,none⟩) 1 1,.int .i64 2]) (by simp[results,Tryz.results26,go_sem]) rfl ⟨_,_,_,by rw[HE2.out];rfl,by rw[HE2.out];exact zw.out,uk.out⟩
       ·have ez:(z==0)=false:=by simpa using hz0
        have HP:Hid (vF (ia l k) (ia l (k+1))=[]):=by unfold Hid vF;rw[if_neg (by rw[← hza];exact hz0)]
        clear hz0 hza;have HE2:Hid (su l k=(2,[])):=by unfold Hid;rw[vN.out];(simp[h22];exact HP.out)
        clear vN;go_wp2_with fail
        exact bodyPost_ret (v:=.tuple #[.slice none 0 0,.int .i64 2]) (by simp[results,Tryz.results26,go_sem]) rfl ⟨_,_,_,by rw[HE2.out];rfl,by rw[HE2.out];exact .none _ _,ll.out.trans (HB3.out.mono ll.out.size)⟩
      have e22:((ia l (k+1)).op==22)=false:=by simpa using h22
      have HE2:Hid (su l k=third l k):=by unfold Hid;rw[vN.out];(simp[h5,h7,h22])
      clear vN;go_wp2_with fail
      go_meet
      exact⟨HB3,HE2⟩
     | false =>
     cases f with
     | false =>
      have HE2:Hid (su l k=third l k):=by unfold Hid;rw[vN.out];(simp[h5])
      clear vN;go_wp2_with fail
      go_meet
      exact⟨HB3,HE2⟩
     | true =>
     by_cases h6:(ia l (k+1)).op=6
     ·have e6:((ia l (k+1)).op==6)=true:=by simp[h6]
      have HP:Hid (yH (ia l k) (ia l (k+1))=[⟨1,0,wrap64 (-z)⟩]):=by
       have h2:(ia l k).op=1:=by
        have h3:=HF.out;have h4:=HT.out;simp[kn,tr] at h3 h4;omega
       have e:z=(ia l k).n:=by rw[HZ.out,vG,if_pos h2]
       rw[e];rfl
      have HE2:Hid (su l k=(2,[⟨1,0,wrap64 (-z)⟩])):=by unfold Hid;rw[vN.out];(simp[h6];exact HP.out)
      have uk:Hid (Below w.heap.size w (W3.alloc (fF ⟨1,0,wrap64 (-z)⟩))):=(ll.out.trans (HB3.out.mono ll.out.size)).alloc EP _;have zw:Hid (uI w (W3.alloc (fF ⟨1,0,wrap64 (-z)⟩)) (.slice (some ⟨W3.heap.size,0,none⟩) 1 1) [⟨1,0,wrap64 (-z)⟩]):=.one EP (heap_alloc_new _ _);clear vN;go_wp2_with fail
      (refine (DX _ _).mono ?_;rintro e w4 ⟨rfl,rfl⟩;go_wp2_with fail)
      exact bodyPost_ret (v:=.tuple #[.slice (some ⟨W3.heap.size,0,none⟩) 1 1,.int .i64 2]) (by simp[results,Tryz.results26,go_sem]) rfl ⟨_,_,_,by rw[HE2.out];rfl,by rw[HE2.out];exact zw.out,uk.out⟩
     ·have e6:((ia l (k+1)).op==6)=false:=by simpa using h6
      have HE2:Hid (su l k=third l k):=by unfold Hid;rw[vN.out];(simp[h5,h6])
      clear vN;go_wp2_with fail
      go_meet
      exact⟨HB3,HE2⟩
   case rest =>
    obtain⟨HB3,HE⟩:=hcut;obtain⟨s1,s2,d0,d1,d2⟩:=Ay.out wc HB3.out;obtain⟨m1,hm1⟩:∃ m1,m1=may l k 1:=⟨_,rfl⟩;have zW:=hide hm1;have zx:Hid (∀ N,Calls Tryz.prog 48 #[.int .i64 1,.pointer (some ⟨w.heap.size+1,0,none⟩),.pointer (some ⟨w.heap.size,0,none⟩)] (wc.drewN N) fun e w'=>e=.returned (.bool m1)∧w'=wc.drewN N):=fun N=>by
     rw[hm1];exact WM (w.heap.size+1) w.heap.size c n k _ l (wc.drewN N) HN.out (hide s2) (hide s1) hl (by omega)
    have zu:Hid (Below w.heap.size w wc):=ll.out.trans (HB3.out.mono ll.out.size);have D5:Hid (su l k=if m1=true∧(ia l k).op=21∧(ia l k).a=(k:Int)+1 then (1,[]) else (0,[])):=by unfold Hid;rw[HE.out,third,zW.out]
    clear hm1 HE HB2 uJ HF HT HZ;go_upto_region 21 with fail
    cases m1 with
    | false =>
     have HE2:Hid (su l k=(0,[])):=by unfold Hid;rw[D5.out];rw[if_neg (fun h=>by cases h.1)]
     clear D5;go_quiet ((go_at_call 48;exact Calls.quiet_of_same (zx.out _)))
     go_wp2_with fail
     exact bodyPost_ret (v:=.tuple #[.slice none 0 0,.int .i64 0]) (by simp[results,Tryz.results26,go_sem]) rfl ⟨_,_,_,by rw[HE2.out];rfl,by rw[HE2.out];exact .none _ _,zU zu.out _⟩
    | true =>
    by_cases h21:(ia l k).op=21
    ·have e21:((ia l k).op==21)=true:=by simp[h21]
     by_cases hka:(ia l k).a=(k:Int)+1
     ·have WS:((ia l k).a==(k:Int)+1)=true:=by simp[hka]
      have HE2:Hid (su l k=(1,[])):=by unfold Hid;rw[D5.out];rw[if_pos ⟨rfl,h21,hka⟩]
      clear D5;go_quiet ((go_at_call 48;exact Calls.quiet_of_same (zx.out _)))
      go_wp2_with fail
      exact bodyPost_ret (v:=.tuple #[.slice none 0 0,.int .i64 1]) (by simp[results,Tryz.results26,go_sem]) rfl ⟨_,_,_,by rw[HE2.out];rfl,by rw[HE2.out];exact .none _ _,zU zu.out _⟩
     ·have WS:((ia l k).a==(k:Int)+1)=false:=by simpa using hka
      have HE2:Hid (su l k=(0,[])):=by unfold Hid;rw[D5.out];rw[if_neg (fun h=>hka h.2.2)]
      clear D5;go_quiet ((go_at_call 48;exact Calls.quiet_of_same (zx.out _)))
      go_wp2_with fail
      exact bodyPost_ret (v:=.tuple #[.slice none 0 0,.int .i64 0]) (by simp[results,Tryz.results26,go_sem]) rfl ⟨_,_,_,by rw[HE2.out];rfl,by rw[HE2.out];exact .none _ _,zU zu.out _⟩
    ·have e21:((ia l k).op==21)=false:=by simpa using h21
     have HE2:Hid (su l k=(0,[])):=by unfold Hid;rw[D5.out];rw[if_neg (fun h=>h21 h.2.1)]
     clear D5;go_quiet ((go_at_call 48;exact Calls.quiet_of_same (zx.out _)))
     go_wp2_with fail
     exact bodyPost_ret (v:=.tuple #[.slice none 0 0,.int .i64 0]) (by simp[results,Tryz.results26,go_sem]) rfl ⟨_,_,_,by rw[HE2.out];rfl,by rw[HE2.out];exact .none _ _,zU zu.out _⟩
end Go.Proofs.YtbdpdjcdhclbfaaGreat.Ow
namespace Go.Proofs.YtbdpdjcdhclbfaaGreat
namespace Vf
theorem WT (a i:Nat):∃ b:Bool,∀ f:Fl,(f.fill a).has i=(f.has i || b):=by
 by_cases h0:i / 64=0
 ·refine⟨decide (a / 64=0) && (BitVec.twoPow 64 (a % 64)).getLsbD (i % 64),fun f=>?_⟩
  by_cases ha:a / 64=0
  ·simp[Fl.has,Fl.fill,Fl.word,h0,ha]
  ·simp[Fl.has,Fl.fill,Fl.word,h0,ha]
 by_cases h1:i / 64=1
 ·refine⟨decide (a / 64=1) && (BitVec.twoPow 64 (a % 64)).getLsbD (i % 64),fun f=>?_⟩
  by_cases ha:a / 64=1
  ·simp[Fl.has,Fl.fill,Fl.word,h1,ha]
  ·simp[Fl.has,Fl.fill,Fl.word,h1,ha]
 by_cases h2:i / 64=2
 ·refine⟨decide (a / 64=2) && (BitVec.twoPow 64 (a % 64)).getLsbD (i % 64),fun f=>?_⟩
  by_cases ha:a / 64=2
  ·simp[Fl.has,Fl.fill,Fl.word,h2,ha]
  ·simp[Fl.has,Fl.fill,Fl.word,h2,ha]
 ·refine⟨decide (a / 64=3) && (BitVec.twoPow 64 (a % 64)).getLsbD (i % 64),fun f=>?_⟩
  by_cases ha:a / 64=3
  ·simp[Fl.has,Fl.fill,Fl.word,h0,h1,h2,ha]
  ·simp[Fl.has,Fl.fill,Fl.word,h0,h1,h2,ha]
theorem wK.fill {f g:Fl}(h:wK f g)(a:Nat):wK (f.fill a) (g.fill a):=fun i hi=>by
 obtain⟨b,hb⟩:=WT a i;rw[hb] at hi ⊢;rw[Bool.or_eq_true] at hi ⊢;exact hi.imp (h i) id
theorem wK.kV {f g:Fl}(h:wK f g)(c:Ins):wK (kV c f) (kV c g):=by
 unfold Vf.kV;split
 ·exact h.fill _
 ·exact h
def LF (K:Nat→Option Kn)(s:S):Prop:=∀ n k,s.come n=some k→∃ k0,K n=some k0∧k.st=k0.st∧wK k0.fl k.fl
theorem LF.note {K:Nat→Option Kn}{s:S}(h:LF K s){n:Nat}{k k0:Kn}(h0:K n=some k0)(hs:k.st=k0.st)(hf:wK k0.fl k.fl):LF K (s.note n k):=fun i x hx=>by
 by_cases e:i=n
 ·subst e
  have:some k=some x:=by simpa[S.note] using hx
  cases this;exact⟨k0,h0,hs,hf⟩
 ·exact h i x (by simpa[S.note,e] using hx)
end Vf
end Go.Proofs.YtbdpdjcdhclbfaaGreat
namespace Go.Proofs.YtbdpdjcdhclbfaaGreat
open Go.RowKit
theorem WU (c:FC)(F B:Nat)(top:Option Addr)(st:List Int)(f:Vf.Fl)(n:Int)(row:Value)(nn:Int)(k:Nat)(u:Vf.Un)(hu:Hid (c.m.units[k]?=some u))(hp:Hid (0≤u.params∧u.params≤u.locals.length∧u.locals.length≤200))(pl:List Int)(hpl:Hid (pl=u.locals.take u.params.toNat))(w:World)(h:Hid (aB c w F top st f n row))(hE:Hid (Env c B F w))(hl:st.length≤300)(r:Except Int (List Int))(hr:Hid (r=Vf.turn u.result pl st)) :
  Calls Tryz.prog 88 #[.pointer (some ⟨F,0,none⟩),.agg #[.int .i64 23,.int .i64 (k:Int),.int .i64 nn]] w fun e w'=>ay c F f n row r w e w':=by
 have hlt:=hE.out.lt;have wW:=hE.out.base;obtain⟨b,off,al,cl,ac,cc,ha,hb,jB,u0,u1,u2,u3,u4,u5⟩:=hE.out.md.units k u hu.out;have Am:k<c.m.units.length:=(List.getElem?_eq_some_iff.1 hu.out).1;have hk1:(k:Int)<(c.m.units.length:Int):=by omega
 have wX:=hide (h.out.alloc (aj 23 (k:Int) nn));have d1:(w.alloc (aj 23 (k:Int) nn)).cell? ⟨F,1,none⟩=some (.slice (some ⟨b,off,none⟩) c.m.units.length c.cu):=by have:=(sV wX.out.blk).2.1;rw[ha] at this;exact this
 have d2:(w.alloc (aj 23 (k:Int) nn)).cell? ⟨w.heap.size,1,none⟩=some (.int .i64 (k:Int)):=(EF (alloc_at w _)).2.1;have d3:(w.alloc (aj 23 (k:Int) nn)).cell? ⟨b,off+k * 6+3,none⟩=some (.int .i64 u.result):=(FP _ _ (by omega)).trans u3;have HA:=hide ha;clear jB u0 u1 u2 u3 u4 u5 ha;have LG:pl.length<1000:=by rw[hpl.out];have:=hp.out.2.2;simp;omega
 go_enter Tryz.func88,Tryz.ntmps88
 go_wp2_with fail
 refine wp_region_held_drew (S:=fun w'=>w'.cell? ⟨F,1,none⟩=some (.slice (some ⟨b,off,none⟩) c.m.units.length c.cu)∧w'.cell? ⟨w.heap.size,1,none⟩=some (.int .i64 (k:Int))∧w'.cell? ⟨b,off+k * 6+3,none⟩=some (.int .i64 u.result)) (by kernel_rfl) ⟨d1,d2,d3⟩ (fun hHeld=>?_);refine wpAnyH_take (i:=0) (oi:=_) (v:=?_) rfl (by kernel_rfl) (by kernel_rfl) (by kernel_rfl) (fun _ _ _ h=>h) (Or.inl ⟨by rfl,?_⟩) (by assumption) ?_;rotate_left
 ·intro w hSw
  (try dsimp only at hSw)
  go_simp
  (try with_reducible rfl)
 (try go_frame)
 refine wpAnyH_take (i:=1) (oi:=_) (v:=?_) rfl (by kernel_rfl) (by kernel_rfl) (by kernel_rfl) (fun _ _ _ h=>h) (Or.inl ⟨by rfl,?_⟩) (by assumption) ?_;rotate_left
 ·intro w hSw
  (try dsimp only at hSw)
  go_simp
  (try with_reducible rfl)
 (try go_frame)
 refine wpAnyH_take (i:=2) (oi:=_) (v:=?_) rfl (by kernel_rfl) (by kernel_rfl) (by kernel_rfl) (fun _ _ _ h=>h) (Or.inl ⟨by rfl,?_⟩) (by assumption) ?_;rotate_left
 ·intro w hSw
  (try dsimp only at hSw)
  go_simp
  (try with_reducible rfl)
 (try go_frame)
 refine wpAnyH_take (i:=3) (oi:=_) (v:=?_) rfl (by kernel_rfl) (by kernel_rfl) (by kernel_rfl) (fun _ _ _ h=>h) (Or.inl ⟨by rfl,?_⟩) (by assumption) ?_;rotate_left
 ·intro w hSw
  (try dsimp only at hSw)
  go_simp
  (try with_reducible rfl)
 (try go_frame)
 refine wpAnyH_take (i:=4) (oi:=_) (v:=?_) rfl (by kernel_rfl) (by kernel_rfl) (by kernel_rfl) (fun _ _ _ h=>h) (Or.inl ⟨by rfl,?_⟩) (by assumption) ?_;rotate_left
 ·intro w hSw
  (try dsimp only at hSw)
  go_simp
  (try with_reducible rfl)
 (try go_frame)
 refine wpAnyH_take (i:=5) (oi:=_) (v:=?_) rfl (by kernel_rfl) (by kernel_rfl) (by kernel_rfl) (fun _ _ _ h=>h) (Or.inl ⟨by rfl,?_⟩) (by assumption) ?_;rotate_left
 ·intro w hSw
  (try dsimp only at hSw)
  go_simp
  (try with_reducible rfl)
 (try go_frame)
 refine wpAnyH_take (i:=6) (oi:=_) (v:=?_) rfl (by kernel_rfl) (by kernel_rfl) (by kernel_rfl) (fun _ _ _ h=>h) (Or.inl ⟨by rfl,?_⟩) (by assumption) ?_;rotate_left
 ·intro w hSw
  (try dsimp only at hSw)
  go_simp
  (try with_reducible rfl)
 (try go_frame)
 refine wpAnyH_take (i:=7) (oi:=_) (v:=?_) rfl (by kernel_rfl) (by kernel_rfl) (by kernel_rfl) (fun _ _ _ h=>h) (Or.inl ⟨by rfl,?_⟩) (by assumption) ?_;rotate_left
 ·intro w hSw
  (try dsimp only at hSw)
  go_simp
  (try with_reducible rfl)
 (try go_frame)
 refine wpAnyH_take (i:=8) (oi:=_) (v:=?_) rfl (by kernel_rfl) (by kernel_rfl) (by kernel_rfl) (fun _ _ _ h=>h) (Or.inl ⟨by rfl,?_⟩) (by assumption) ?_;rotate_left
 ·intro w hSw
  (try dsimp only at hSw)
  go_simp
  (try with_reducible rfl)
 (try go_frame)
 refine wpAnyH_take (i:=9) (oi:=_) (v:=?_) rfl (by kernel_rfl) (by kernel_rfl) (by kernel_rfl) (fun _ _ _ h=>h) (Or.inl ⟨by rfl,?_⟩) (by assumption) ?_;rotate_left
 ·intro w hSw
  (try dsimp only at hSw)
  go_simp
  (try with_reducible rfl)
 (try go_frame)
 refine wpAnyH_take (i:=10) (oi:=_) (v:=?_) rfl (by kernel_rfl) (by kernel_rfl) (by kernel_rfl) (fun _ _ _ h=>h) (Or.inl ⟨by rfl,?_⟩) (by assumption) ?_;rotate_left
 ·intro w hSw
  (try dsimp only at hSw)
  go_simp
  (try with_reducible rfl)
 (try go_frame)
 refine wpAnyH_take (i:=11) (oi:=_) (v:=?_) rfl (by kernel_rfl) (by kernel_rfl) (by kernel_rfl) (fun _ _ _ h=>h) (Or.inl ⟨by rfl,?_⟩) (by assumption) ?_;rotate_left
 ·intro w hSw
  (try dsimp only at hSw)
  go_simp
  (try with_reducible rfl)
 (try go_frame)
 refine wpAnyH_take (i:=12) (oi:=_) (v:=?_) rfl (by kernel_rfl) (by kernel_rfl) (by kernel_rfl) (fun _ _ _ h=>h) (Or.inl ⟨by rfl,?_⟩) (by assumption) ?_;rotate_left
 ·intro w hSw
  (try dsimp only at hSw)
  go_simp
  (try with_reducible rfl)
 (try go_frame)
 refine wpAnyH_take (i:=13) (oi:=_) (v:=?_) rfl (by kernel_rfl) (by kernel_rfl) (by kernel_rfl) (fun _ _ _ h=>h) (Or.inl ⟨by rfl,?_⟩) (by assumption) ?_;rotate_left
 ·intro w hSw
  (try dsimp only at hSw)
  go_simp
  (try with_reducible rfl)
 (try go_frame)
 refine wpAnyH_take (i:=14) (oi:=_) (v:=?_) rfl (by kernel_rfl) (by kernel_rfl) (by kernel_rfl) (fun _ _ _ h=>h) (Or.inl ⟨by rfl,?_⟩) (by assumption) ?_;rotate_left
 ·intro w hSw
  (try dsimp only at hSw)
  go_simp
  (try with_reducible rfl)
 (try go_frame)
 refine wpAnyH_take (i:=15) (oi:=_) (v:=?_) rfl (by kernel_rfl) (by kernel_rfl) (by kernel_rfl) (fun _ _ _ h=>h) (Or.inl ⟨by rfl,?_⟩) (by assumption) ?_;rotate_left
 ·intro w hSw
  (try dsimp only at hSw)
  go_simp
  (try with_reducible rfl)
 (try go_frame)
 refine wpAnyH_ready (rs:=[16]) (by kernel_rfl) (by simp) ?_;refine AllReadyH.cons (o:=_) rfl (fun K hK=>?_) AllReadyH.nil;go_simp
 refine (O8 c F B top st f n row k u _ (hide wX.out.drew) (hide (hE.out.grown (iy _)).drew) hu hp pl hpl).mono ?_;rintro e w2 ⟨⟨a2,cp,rfl,hI⟩,hg2,hF2⟩;have HG2:Hid (w.grownBy w2 (some F)):=iC (iy _) (uT hg2);have HS2:Hid (∀ w3,w2.grownBy w3 (some F)→w3.cell? ⟨F,1,none⟩=some (.slice c.au c.m.units.length c.cu)→(w3.cell? ⟨F,1,none⟩=some (.slice (some ⟨b,off,none⟩) c.m.units.length c.cu)∧w3.cell? ⟨w.heap.size,1,none⟩=some (.int .i64 (k:Int))∧w3.cell? ⟨b,off+k * 6+3,none⟩=some (.int .i64 u.result))):=fun w3 hg3 h1=>⟨by rw[h1,HA.out],(gZ (kept (iC (uT hg2) hg3) (by simp) (by omega)) _).trans d2,(gZ (kept (iC (uT hg2) hg3) (by simp;omega) (by omega)) _).trans d3⟩;have sj:=hide hF2;have HI:=hide hI;refine hK.out _ _ (HS2.out w2 (ui _ _) (sV hF2.blk).2.1) (fun hHeld=>?_);clear hK hI hF2 hg2;refine wpAnyH_ready (rs:=[17]) (by kernel_rfl) (by simp) ?_;refine AllReadyH.cons (o:=_) rfl (fun K hK=>?_) AllReadyH.nil;go_simp
 refine (Lc c F B top st f n row u.result pl a2 cp _ sj (by omega) LG HI (by have:=HG2.out.size;omega) (hide (fun b off _ hb=>by omega)) r hr).mono ?_;rintro e w9 hS;have ak:Hid (w.grownBy w9 (some F)):=iC HG2.out hS.grown;cases r with
 | error er =>
  obtain rfl:=hS.no er rfl;clear hS hK;go_wp2
  exact⟨rfl,ay.bad ak.out rfl⟩
 | ok iq =>
  obtain⟨rfl,uG,aR⟩:=hS.yes iq rfl;have il:=hide aR;refine hK.out _ _ (HS2.out w9 hS.grown (sV il.out.blk).2.1) (fun hHeld=>?_);clear hK hS aR;refine wpAnyH_done (by kernel_rfl) ?_ _;go_wp2
  go_end0
  exact ay.good ak.out rfl il.out
theorem WV (c:FC)(F B:Nat)(top:Option Addr)(st:List Int)(f:Vf.Fl)(n:Int)(row:Value)(nn:Int)(k:Nat)(u:Vf.Un)(hu:Hid (c.m.units[k]?=some u))(hp:Hid (0≤u.params∧u.params≤u.locals.length∧u.locals.length≤200))(hun:c.m.units.length≤30)(pl:List Int)(hpl:Hid (pl=u.locals.take u.params.toNat))(w:World)(h:Hid (aB c w F top st f n row))(hE:Hid (Env c B F w))(hl:st.length≤300)(r:Except Int (List Int))(hr:Hid (r=Vf.turn (10+(k:Int)) pl st)) :
  Calls Tryz.prog 88 #[.pointer (some ⟨F,0,none⟩),.agg #[.int .i64 29,.int .i64 (k:Int),.int .i64 nn]] w fun e w'=>ay c F f n row r w e w':=by
 have hlt:=hE.out.lt;have wW:=hE.out.base;obtain⟨b,off,al,cl,ac,cc,ha,hb,jB,u0,u1,u2,u3,u4,u5⟩:=hE.out.md.units k u hu.out;have Am:k<c.m.units.length:=(List.getElem?_eq_some_iff.1 hu.out).1;have hk1:(k:Int)<(c.m.units.length:Int):=by omega
 have wX:=hide (h.out.alloc (aj 29 (k:Int) nn));have d1:(w.alloc (aj 29 (k:Int) nn)).cell? ⟨F,1,none⟩=some (.slice (some ⟨b,off,none⟩) c.m.units.length c.cu):=by have:=(sV wX.out.blk).2.1;rw[ha] at this;exact this
 have d2:(w.alloc (aj 29 (k:Int) nn)).cell? ⟨w.heap.size,1,none⟩=some (.int .i64 (k:Int)):=(EF (alloc_at w _)).2.1;have d3:(w.alloc (aj 29 (k:Int) nn)).cell? ⟨b,off+k * 6+3,none⟩=some (.int .i64 u.result):=(FP _ _ (by omega)).trans u3;have HA:=hide ha;clear jB u0 u1 u2 u3 u4 u5 ha;have LG:pl.length<1000:=by rw[hpl.out];have:=hp.out.2.2;simp;omega
 have e10:IntKind.i64.wrap (10+(k:Int))=10+(k:Int):=by simp[IntKind.wrap,IntKind.bits,IntKind.signed];omega
 go_enter Tryz.func88,Tryz.ntmps88
 go_wp2_with fail
 refine wp_region_held_drew (S:=fun w'=>w'.cell? ⟨F,1,none⟩=some (.slice (some ⟨b,off,none⟩) c.m.units.length c.cu)∧w'.cell? ⟨w.heap.size,1,none⟩=some (.int .i64 (k:Int))∧w'.cell? ⟨b,off+k * 6+3,none⟩=some (.int .i64 u.result)) (by kernel_rfl) ⟨d1,d2,d3⟩ (fun hHeld=>?_);refine wpAnyH_take (i:=0) (oi:=_) (v:=?_) rfl (by kernel_rfl) (by kernel_rfl) (by kernel_rfl) (fun _ _ _ h=>h) (Or.inl ⟨by rfl,?_⟩) (by assumption) ?_;rotate_left
 ·intro w hSw
  (try dsimp only at hSw)
  go_simp
  (try with_reducible rfl)
 (try go_frame)
 refine wpAnyH_take (i:=1) (oi:=_) (v:=?_) rfl (by kernel_rfl) (by kernel_rfl) (by kernel_rfl) (fun _ _ _ h=>h) (Or.inl ⟨by rfl,?_⟩) (by assumption) ?_;rotate_left
 ·intro w hSw
  (try dsimp only at hSw)
  go_simp
  (try with_reducible rfl)
 (try go_frame)
 refine wpAnyH_take (i:=2) (oi:=_) (v:=?_) rfl (by kernel_rfl) (by kernel_rfl) (by kernel_rfl) (fun _ _ _ h=>h) (Or.inl ⟨by rfl,?_⟩) (by assumption) ?_;rotate_left
 ·intro w hSw
  (try dsimp only at hSw)
  go_simp
  (try with_reducible rfl)
 (try go_frame)
 refine wpAnyH_take (i:=3) (oi:=_) (v:=?_) rfl (by kernel_rfl) (by kernel_rfl) (by kernel_rfl) (fun _ _ _ h=>h) (Or.inl ⟨by rfl,?_⟩) (by assumption) ?_;rotate_left
 ·intro w hSw
  (try dsimp only at hSw)
  go_simp
  (try with_reducible rfl)
 (try go_frame)
 refine wpAnyH_take (i:=4) (oi:=_) (v:=?_) rfl (by kernel_rfl) (by kernel_rfl) (by kernel_rfl) (fun _ _ _ h=>h) (Or.inl ⟨by rfl,?_⟩) (by assumption) ?_;rotate_left
 ·intro w hSw
  (try dsimp only at hSw)
  go_simp
  (try with_reducible rfl)
 (try go_frame)
 refine wpAnyH_take (i:=5) (oi:=_) (v:=?_) rfl (by kernel_rfl) (by kernel_rfl) (by kernel_rfl) (fun _ _ _ h=>h) (Or.inl ⟨by rfl,?_⟩) (by assumption) ?_;rotate_left
 ·intro w hSw
  (try dsimp only at hSw)
  go_simp
  (try with_reducible rfl)
 (try go_frame)
 refine wpAnyH_take (i:=6) (oi:=_) (v:=?_) rfl (by kernel_rfl) (by kernel_rfl) (by kernel_rfl) (fun _ _ _ h=>h) (Or.inl ⟨by rfl,?_⟩) (by assumption) ?_;rotate_left
 ·intro w hSw
  (try dsimp only at hSw)
  go_simp
  (try with_reducible rfl)
 (try go_frame)
 refine wpAnyH_ready (rs:=[7]) (by kernel_rfl) (by simp) ?_;refine AllReadyH.cons (o:=_) rfl (fun K hK=>?_) AllReadyH.nil;go_simp
 refine (O8 c F B top st f n row k u _ (hide wX.out.drew) (hide (hE.out.grown (iy _)).drew) hu hp pl hpl).mono ?_;rintro e w2 ⟨⟨a2,cp,rfl,hI⟩,hg2,hF2⟩;have HG2:Hid (w.grownBy w2 (some F)):=iC (iy _) (uT hg2);have HS2:Hid (∀ w3,w2.grownBy w3 (some F)→w3.cell? ⟨F,1,none⟩=some (.slice c.au c.m.units.length c.cu)→(w3.cell? ⟨F,1,none⟩=some (.slice (some ⟨b,off,none⟩) c.m.units.length c.cu)∧w3.cell? ⟨w.heap.size,1,none⟩=some (.int .i64 (k:Int))∧w3.cell? ⟨b,off+k * 6+3,none⟩=some (.int .i64 u.result))):=fun w3 hg3 h1=>⟨by rw[h1,HA.out],(gZ (kept (iC (uT hg2) hg3) (by simp) (by omega)) _).trans d2,(gZ (kept (iC (uT hg2) hg3) (by simp;omega) (by omega)) _).trans d3⟩;have sj:=hide hF2;have HI:=hide hI;refine hK.out _ _ (HS2.out w2 (ui _ _) (sV hF2.blk).2.1) (fun hHeld=>?_);clear hK hI hF2 hg2;refine wpAnyH_ready (rs:=[8]) (by kernel_rfl) (by simp) ?_;refine AllReadyH.cons (o:=_) rfl (fun K hK=>?_) AllReadyH.nil;go_simp
 refine (Lc c F B top st f n row (10+(k:Int)) pl a2 cp _ sj (by omega) LG HI (by have:=HG2.out.size;omega) (hide (fun b off _ hb=>by omega)) r hr).mono ?_;rintro e w9 hS;have ak:Hid (w.grownBy w9 (some F)):=iC HG2.out hS.grown;cases r with
 | error er =>
  obtain rfl:=hS.no er rfl;clear hS hK;go_wp2
  exact⟨rfl,ay.bad ak.out rfl⟩
 | ok iq =>
  obtain⟨rfl,uG,aR⟩:=hS.yes iq rfl;have il:=hide aR;refine hK.out _ _ (HS2.out w9 hS.grown (sV il.out.blk).2.1) (fun hHeld=>?_);clear hK hS aR;refine wpAnyH_done (by kernel_rfl) ?_ _;go_wp2
  go_end0
  exact ay.good ak.out rfl il.out
end Go.Proofs.YtbdpdjcdhclbfaaGreat

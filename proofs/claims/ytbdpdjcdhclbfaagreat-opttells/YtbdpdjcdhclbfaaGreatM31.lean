/- What an instruction does with the stack,in the document's letters: IT IS THE SAME. -/
import Derived.Test.YtbdpdjcdhclbfaaGreatM30
import Derived.Laws.AppendOwnNone
import Derived.Laws.MakeOwn
set_option maxRecDepth 100000
set_option maxHeartbeats 1000000
namespace Go.Proofs.YtbdpdjcdhclbfaaGreat
namespace Vf
theorem Ah {u:Un}{c:Ins}(h1:c.op≠24)(h2:c.op≠25)(h3:c.op≠31):¬ early u c:=by
 unfold early;omega
theorem ab6 {m:Md}{u:Un}{c:Ins}{k:Kn}(h:c.op≠3∧c.op≠24∧c.op≠25∧c.op≠31∧c.op≠30∧c.op≠32):aN m u c k=andThen (jC (needs m u c).1.reverse (k.st.map ag) 0) fun r=>lG c (needs m u c).2 r:=by
 unfold aN;rw[if_neg (fun hh=>h.1 hh.1),if_neg (Ah h.2.1 h.2.2.1 h.2.2.2.1)];unfold rQ;rw[if_neg h.2.2.2.2.1,if_neg h.2.2.2.2.2];rfl
theorem ab7 {m:Md}(hR:Rt m){st:List Int}(h:aQ m st):∀ t ∈ st,jF t:=fun t ht=>Cr hR.units (h.1 t ht)
theorem yD {m:Md}{u:Un}{c:Ins}{k:Kn}(hR:Rt m)(hu:jr m u=0)(hf:aA m u c=0)(h:aQ m k.st):aN m u c k=lmap (jA m u c k):=by
 have hlt:=ab7 hR h;have iA:=h.2;obtain⟨Ua,aee,ab8⟩:=zS hu;obtain⟨aef,aeg,hrg⟩:=yj hf;have l1:jF 1:=.inl rfl;have l2:jF 2:=.inr (.inl rfl);by_cases o3:c.op=3
 ·have en:needs m u c=([],[ag (xu u c.a)]):=by unfold needs;rw[if_neg (by omega),if_neg (by omega),if_pos o3]
  have er:jA m u c k=andThen (must (k.fl.has c.a.toNat) 11 k.st) (put (xu u c.a)):=by unfold jA;rw[if_neg (by omega),if_neg (by omega),if_pos o3]
  rw[er];unfold aN;cases hh:k.fl.has c.a.toNat with
  | false =>
   rw[if_pos ⟨o3,rfl⟩];rfl
  | true =>
   rw[if_neg (fun x=>by cases x.2),if_neg (Ah (by omega) (by omega) (by omega))];unfold rQ;rw[if_neg (by omega),if_neg (by omega),en];exact KN _ _ ⟨by omega,by omega⟩
 by_cases lu:c.op=24
 ·have en:needs m u c=([ag u.result],[]):=by
   unfold needs;iterate 7 rw[if_neg (by omega)]
   iterate 11 rw[if_neg (by omega)]
   rw[if_pos lu]
  have er:jA m u c k=andThen (must (u.kind==2) 8 k.st) fun st=>andThen (jy [u.result] st) fun st=>must (st.length==0) 12 st:=by
   unfold jA;iterate 13 rw[if_neg (by omega)]
   unfold speak;iterate 7 rw[if_neg (by omega)]
   rw[if_pos lu]
  rw[er];unfold aN;rw[if_neg (fun hh=>o3 hh.1)];by_cases hk:u.kind=2
  ·have e2:(u.kind==2)=true:=by simpa using hk
   rw[if_neg (by unfold early;omega),e2];unfold rQ;rw[if_neg (by omega),if_neg (by omega),en];have hl:∀ t ∈ [u.result],jF t:=by
    intro t ht;simp at ht;subst ht;exact yC (Ua.resolve_left (by omega))
   have e:=Gx [u.result] k.st 0 hl hlt;show andThen (jC (List.map ag [u.result]) (k.st.map ag) 0) (fun r=>lG c [] r)=lmap (andThen (jy [u.result] k.st) fun st=>must (st.length==0) 12 st)
   rw[e];cases hr:jy [u.result] k.st with
   | error e=>rfl
   | ok r =>
    have hf3:=Oc _ _ _ hr;show lG c [] (r.map ag)=lmap (must (r.length==0) 12 r)
    unfold lG;rw[if_neg (by simp;omega)];cases r with
    | nil =>
     rw[if_neg (fun hh=>hh.2 rfl)];rfl
    | cons x r =>
     rw[if_pos ⟨.inl lu,by simp⟩];rfl
  ·have e2:(u.kind==2)=false:=by simpa using hk
   rw[if_pos (.inl ⟨lu,hk⟩),e2];rfl
 by_cases lH:c.op=25
 ·have en:needs m u c=([],[]):=by
   unfold needs;iterate 19 rw[if_neg (by omega)]
  have er:jA m u c k=andThen (must (u.kind != 2) 8 k.st) fun st=>must (st.length==0) 12 st:=by
   unfold jA;iterate 13 rw[if_neg (by omega)]
   unfold speak;iterate 8 rw[if_neg (by omega)]
   rw[if_pos lH]
  rw[er];unfold aN;rw[if_neg (fun hh=>o3 hh.1)];by_cases hk:u.kind=2
  ·have e2:(u.kind != 2)=false:=by simp[hk]
   rw[if_pos (.inr (.inl ⟨lH,hk⟩)),e2];rfl
  ·have e2:(u.kind != 2)=true:=by simpa using hk
   rw[if_neg (by unfold early;omega),e2];unfold rQ;rw[if_neg (by omega),if_neg (by omega),en];show lG c [] (k.st.map ag)=lmap (must (k.st.length==0) 12 k.st)
   unfold lG;rw[if_neg (by simp;omega)];cases k.st with
   | nil =>
    rw[if_neg (fun hh=>hh.2 rfl)];rfl
   | cons x r =>
    rw[if_pos ⟨.inr lH,by simp⟩];rfl
 by_cases lJ:c.op=31
 ·have en:needs m u c=([ag u.result],[ag u.takes]):=by
   unfold needs;iterate 17 rw[if_neg (by omega)]
   rw[if_pos lJ]
  have er:jA m u c k=andThen (must (u.kind==3) 8 k.st) (turn u.takes [u.result]):=by
   unfold jA;iterate 13 rw[if_neg (by omega)]
   unfold speak;iterate 6 rw[if_neg (by omega)]
   rw[if_pos lJ]
  rw[er];unfold aN;rw[if_neg (fun hh=>o3 hh.1)];by_cases hk:u.kind=3
  ·have e2:(u.kind==3)=true:=by simpa using hk
   rw[if_neg (by unfold early;omega),e2];unfold rQ;rw[if_neg (by omega),if_neg (by omega),en];exact Ew u.takes [u.result] k.st (by
    intro t ht;simp at ht;subst ht;exact yC (Ua.resolve_left (by omega))) hlt ⟨by omega,by omega⟩
  ·have e2:(u.kind==3)=false:=by simpa using hk
   rw[if_pos (.inr (.inr ⟨lJ,hk⟩)),e2];rfl
 by_cases rR:c.op=30
 ·have er:jA m u c k=resume m k.st:=by
   unfold jA;iterate 13 rw[if_neg (by omega)]
   unfold speak;iterate 4 rw[if_neg (by omega)]
   rw[if_pos rR]
  rw[er];unfold aN;rw[if_neg (fun hh=>o3 hh.1),if_neg (Ah lu lH lJ)];unfold rQ;rw[if_pos rR];obtain⟨st,fl⟩:=k;match st,hlt,h with
  | [],_,_=>rfl
  | [_],_,_=>rfl
  | x :: g :: r,hlt,h =>
   have hg:yl m g:=h.1 g (by simp);by_cases hp:plain g=true
   ·have h10:¬ 10≤g:=by unfold plain at hp;simp at hp;omega
    simp only[hp,if_true];show Except.error 9=lmap (andThen (vW (g :: r)) _)
    unfold vW;show Except.error 9=lmap (andThen (if 10≤g then .ok (g,r) else .error 9) _)
    rw[if_neg h10];rfl
   ·have h10:10≤g∧is m 3 (g - 10)=true:=hg.resolve_left hp
    obtain⟨q,hq1,hq2,hq3⟩:=DR h10.2;have ht3:=(zS (hR.heads q _ hq2).1);have htk:jF (unit m (g - 10)).takes:=yC (ht3.2.1.resolve_left (by omega));show andThen (if plain g=true then .error 9 else .ok ([ag g,ag (unit m (g - 10)).takes],[ag (unit m (g - 10)).result])) _=_
    rw[if_neg hp];show andThen (jC (List.map ag [(unit m (g - 10)).takes,g]) (List.map ag (x :: g :: r)) 0) (fun r=>lG c [ag (unit m (g - 10)).result] r)=lmap (andThen (vW (g :: r)) fun g'=>andThen (must (x==(unit m (g'.1 - 10)).takes) 9 g'.2) (put (unit m (g'.1 - 10)).result))
    rw[Gx _ _ _ (by intro t ht;simp at ht;rcases ht with rfl | rfl;exact htk;exact .inr (.inr ⟨h10.1,by have:=(List.getElem?_eq_some_iff.1 hq2).1;have:=hR.units;omega⟩)) hlt];unfold vW;show _=lmap (andThen (if 10≤g then .ok (g,r) else .error 9) _)
    rw[if_pos h10.1];show andThen (lmap (jy [(unit m (g - 10)).takes,g] (x :: g :: r))) _=lmap (andThen (must (x==(unit m (g - 10)).takes) 9 r) (put (unit m (g - 10)).result))
    unfold jy;by_cases hx:x=(unit m (g - 10)).takes
    ·have e2:(x==(unit m (g - 10)).takes)=true:=by simpa using hx
     rw[if_pos hx,e2];unfold jy;rw[if_pos rfl];exact I9 _ _ ⟨by omega,by omega⟩
    ·have e2:(x==(unit m (g - 10)).takes)=false:=by simpa using hx
     rw[if_neg hx,e2];rfl
 by_cases o32:c.op=32
 ·have er:jA m u c k=andThen (vW k.st) fun g=>put 2 g.2:=by
   unfold jA;iterate 13 rw[if_neg (by omega)]
   unfold speak;iterate 5 rw[if_neg (by omega)]
   rw[if_pos o32]
  rw[er];unfold aN;rw[if_neg (fun hh=>o3 hh.1),if_neg (Ah lu lH lJ)];unfold rQ;rw[if_neg rR,if_pos o32];obtain⟨st,fl⟩:=k;match st,hlt,h with
  | [],_,_=>rfl
  | g :: r,hlt,h =>
   have hg:yl m g:=h.1 g (by simp);by_cases hp:plain g=true
   ·have h10:¬ 10≤g:=by unfold plain at hp;simp at hp;omega
    simp only[hp,if_true];show Except.error 9=lmap (andThen (if 10≤g then .ok (g,r) else .error 9) _)
    rw[if_neg h10];rfl
   ·have h10:10≤g∧is m 3 (g - 10)=true:=hg.resolve_left hp
    show andThen (if plain g=true then .error 9 else .ok ([ag g],[98])) _=_
    rw[if_neg hp];show andThen (jC (List.map ag [g]) (List.map ag (g :: r)) 0) (fun r=>lG c [ag 2] r)=lmap (andThen (if 10≤g then .ok (g,r) else .error 9) fun g=>put 2 g.2)
    rw[Gx _ _ _ (by intro t ht;simp at ht;subst ht;exact hlt _ (by simp)) hlt,if_pos h10.1];unfold jy;rw[if_pos rfl];exact I9 _ _ ⟨by omega,by omega⟩
 rw[ab6 ⟨o3,lu,lH,lJ,rR,o32⟩];have o2:c.op≠24∧c.op≠25:=⟨lu,lH⟩;unfold needs jA;by_cases o1:c.op=1
 ·rw[if_pos o1,if_pos o1];exact KN 1 _ o2
 rw[if_neg o1,if_neg o1];by_cases o1:c.op=2
 ·rw[if_pos o1,if_pos o1];exact KN 2 _ o2
 rw[if_neg o1,if_neg o1,if_neg o3,if_neg o3];by_cases o1:c.op=4
 ·rw[if_pos o1,if_pos o1]
  refine Oe [xu u c.a] _ ?_ hlt iA o2;intro t ht;simp at ht;subst ht;have hr:=hrg;unfold ranged at hr;rw[if_neg (by omega),if_pos (.inr o1)] at hr;simp at hr;unfold xu;have hlen:c.a.toNat<u.locals.length:=by omega
  rw[List.getElem?_eq_getElem hlen];exact Cr hR.units (ab8 _ (List.getElem_mem hlen))
 rw[if_neg o1,if_neg o1];by_cases o1:c.op=5
 ·rw[if_pos o1,if_pos o1]
  cases hs:k.st with
  | nil=>rfl
  | cons x r =>
   rw[hs] at iA;exact KM r (by simp at iA;omega) o2
 rw[if_neg o1,if_neg o1];by_cases o1:c.op=6
 ·rw[if_pos o1,if_pos o1];exact Ew 1 [1] _ (by simpa using l1) hlt o2
 rw[if_neg o1,if_neg o1];by_cases o1:c.op=7
 ·rw[if_pos o1,if_pos o1];exact Ew 2 [2] _ (by simpa using l2) hlt o2
 rw[if_neg o1,if_neg o1];by_cases o1:8≤c.op∧c.op≤12
 ·rw[if_pos o1,if_pos o1];exact Ew 1 [1,1] _ (by simpa using l1) hlt o2
 rw[if_neg o1,if_neg o1];by_cases o1:15≤c.op∧c.op≤18
 ·rw[if_pos o1,if_pos o1];exact Ew 2 [1,1] _ (by simpa using l1) hlt o2
 rw[if_neg o1,if_neg o1];by_cases o1:c.op=19∨c.op=20
 ·rw[if_pos o1,if_pos o1];exact Ew 2 [2,2] _ (by simpa using l2) hlt o2
 rw[if_neg o1,if_neg o1];by_cases o1:c.op=13∨c.op=14
 ·rw[if_pos o1,if_pos o1]
  match hs:k.st,hlt,iA with
  | [],_,_=>rfl
  | [x],hlt,_ =>
   have hx:=hlt x (by simp);show andThen (jC [63,63] [ag x] 0) _=lmap (andThen (yf [x]) fun p=>turn 2 [p.1] p.2)
   show andThen (if (ag x≠110∧ag x≠98)∨((0:UInt8)≠0∧(0:UInt8)≠ag x) then .error 9 else jC [63] [] (ag x)) _=lmap (andThen (if plain x=true then .ok (x,[]) else .error 9) fun p=>turn 2 [p.1] p.2)
   by_cases hp:plain x=true
   ·rw[if_pos hp,if_neg (by have:=(Ag hx).1 hp;intro hh;rcases hh with hh | hh;exact this.elim hh.1 hh.2;exact hh.1 rfl)]
    rfl
   ·rw[if_neg hp,if_pos (.inl ⟨fun e=>hp ((Ag hx).2 (.inl e)),fun e=>hp ((Ag hx).2 (.inr e))⟩)]
    rfl
  | x :: y :: r,hlt,hl3 =>
   have hx:=hlt x (by simp);have hy:=hlt y (by simp);show andThen (if (ag x≠110∧ag x≠98)∨((0:UInt8)≠0∧(0:UInt8)≠ag x) then .error 9 else jC [63] (ag y :: r.map ag) (ag x)) _=lmap (andThen (if plain x=true then .ok (x,y :: r) else .error 9) fun p=>turn 2 [p.1] p.2)
   by_cases hp:plain x=true
   ·have hpx:=(Ag hx).1 hp
    rw[if_pos hp,if_neg (by intro hh;rcases hh with hh | hh;exact hpx.elim hh.1 hh.2;exact hh.1 rfl)];show andThen (if (ag y≠110∧ag y≠98)∨(ag x≠0∧ag x≠ag y) then .error 9 else jC [] (r.map ag) (ag y)) _=lmap (andThen (jy [x] (y :: r)) (put 2))
    unfold jy;have hx0:ag x≠0:=by rcases hpx with e | e<;>rw[e]<;>decide
    by_cases e:y=x
    ·subst e
     rw[if_pos rfl,if_neg (by intro hh;rcases hh with hh | hh;exact hpx.elim hh.1 hh.2;exact hh.2 rfl)];exact I9 2 r o2
    ·rw[if_neg e,if_pos (.inr ⟨hx0,fun e2=>e (I7 hy hx e2.symm)⟩)]
     rfl
   ·rw[if_neg hp,if_pos (.inl ⟨fun e=>hp ((Ag hx).2 (.inl e)),fun e=>hp ((Ag hx).2 (.inr e))⟩)]
    rfl
 rw[if_neg o1,if_neg o1];by_cases o1:c.op=28
 ·rw[if_pos o1,if_pos o1]
  match hs:k.st,hlt,iA with
  | [],_,_=>rfl
  | x :: r,hlt,hl3 =>
   have hx:=hlt x (by simp);show andThen (if (ag x≠110∧ag x≠98)∨((0:UInt8)≠0∧(0:UInt8)≠ag x) then .error 9 else jC [] (r.map ag) (ag x)) _=lmap (andThen (if plain x=true then .ok (x,r) else .error 9) fun p=>.ok p.2)
   by_cases hp:plain x=true
   ·have hpx:=(Ag hx).1 hp
    rw[if_pos hp,if_neg (by intro hh;rcases hh with hh | hh;exact hpx.elim hh.1 hh.2;exact hh.1 rfl)];exact KM r (by simp at hl3;omega) o2
   ·rw[if_neg hp,if_pos (.inl ⟨fun e=>hp ((Ag hx).2 (.inl e)),fun e=>hp ((Ag hx).2 (.inr e))⟩)]
    rfl
 rw[if_neg o1,if_neg o1];by_cases o1:c.op=22
 ·rw[if_pos o1,if_pos o1];exact Oe [2] _ (by simpa using l2) hlt iA o2
 rw[if_neg o1,if_neg o1];unfold speak;have Ub:∀ (kd:Int),is m kd c.a=true→∀ t ∈ params m c.a,jF t:=by
  intro kd hk t ht;obtain⟨q,hq1,hq2,hq3⟩:=DR hk;have ht3:=(zS (hR.heads q _ hq2).1).2.2;unfold params at ht;exact Cr hR.units (ht3 t (List.mem_of_mem_take ht))
 by_cases o1:c.op=23
 ·rw[if_pos o1,if_pos o1]
  have hk:is m 2 c.a=true:=by
   have hr:=hrg;unfold ranged at hr;rw[if_neg (by omega),if_neg (by omega),if_neg (by omega),if_pos o1] at hr;exact hr
  exact Ew _ _ _ (Ub 2 hk) hlt o2
 rw[if_neg o1,if_neg o1];by_cases o1:c.op=29
 ·rw[if_pos o1,if_pos o1]
  have hk:is m 3 c.a=true:=by
   have hr:=hrg;unfold ranged at hr;rw[if_neg (by omega),if_neg (by omega),if_neg (by omega),if_neg (by omega),if_pos o1] at hr;exact hr
  exact Ew _ _ _ (Ub 3 hk) hlt o2
 rw[if_neg o1,if_neg o1];have hbx:c.op=26∨c.op=27→jF (wH m c.a):=by
  intro ho;have hr:=hrg;unfold ranged at hr;rw[if_neg (by omega),if_neg (by omega),if_neg (by omega),if_neg (by omega),if_neg (by omega),if_pos ho] at hr;simp at hr;have hlen:c.a.toNat<m.boxes.length:=by omega
  unfold wH;rw[List.getElem?_eq_getElem hlen];exact yC (hR.boxes _ _ (List.getElem?_eq_getElem hlen))
 by_cases o1:c.op=26
 ·rw[if_pos o1,if_pos o1];exact Oe [wH m c.a] _ (by intro t ht;simp at ht;subst ht;exact hbx (.inl o1)) hlt iA o2
 rw[if_neg o1,if_neg o1];by_cases o1:c.op=27
 ·rw[if_pos o1,if_pos o1];exact KN _ _ o2
 rw[if_neg o1,if_neg o1,if_neg lJ,if_neg lu];rw[if_neg rR,if_neg o32,if_neg lJ,if_neg lu,if_neg lH];exact KM _ iA o2
end Vf
end Go.Proofs.YtbdpdjcdhclbfaaGreat
namespace Go.Proofs.YtbdpdjcdhclbfaaGreat
open Go.RowKit
theorem Og {m:Vf.Md}(hR:Rt m){kd a:Int}(h:Vf.is m kd a=true):Callee m a (Vf.unit m a)∧(Vf.unit m a).kind=kd∧Vf.jr m (Vf.unit m a)=0∧0≤a∧a<30:=by
 obtain⟨q,rfl,hq2,hq3⟩:=DR h;have hh:=(hR.heads q _ hq2).1;obtain⟨z1,z2,z3,z4,z5,z6⟩:=EE (Ao hh).2.1;have hl:=(List.getElem?_eq_some_iff.1 hq2).1;have:=hR.units;exact⟨⟨by simpa using hq2,by omega,z2,z4,z3,fun t ht=>Vf.Cr hR.units ((zS hh).2.2 t ht)⟩,hq3,hh,by omega,by omega⟩
theorem AZ (m:Vf.Md)(ab au:Option Addr)(cb cu B:Nat)(u:Vf.Un)(al ac:Option Addr)(cl cc:Nat)(op a n:Int)(w:World)(hmd:Hid (aD B w m ab au))(hun:Hid (ig B w u al ac cl cc))(hB:B≤w.heap.size)(hR:Hid (Rt m))(hu:Hid (Vf.jr m u=0))(hf:Hid (Vf.aA m u ⟨op,a,n⟩=0))(hk:Hid (¬ Vf.early u ⟨op,a,n⟩)) :
  Calls Tryz.prog 45 #[aT m ab au cb cu,jm u al ac cl cc,jE op a n] w fun e w'=>rZ (Vf.needs m u ⟨op,a,n⟩) e∧w.grownBy w' none:=by
 obtain⟨h1,h32,hrg⟩:=yj hf.out;obtain⟨t1,t2,t3⟩:=zS hu.out;have h1':1≤op:=h1;have aeh:op≤32:=h32;have hloc:op=3∨op=4→∃ t,u.locals[a.toNat]?=some t∧0≤a∧Vf.jF t∧Vf.xu u a=t:=by
  intro ho;have hr:=hrg;unfold Vf.ranged at hr;rw[if_neg (by show ¬ op=2;omega),if_pos (show op=3∨op=4 from ho)] at hr;simp at hr;have hlen:a.toNat<u.locals.length:=by omega
  refine⟨_,List.getElem?_eq_getElem hlen,hr.1,Vf.Cr hR.out.units (t3 _ (List.getElem_mem hlen)),?_⟩;unfold Vf.xu;rw[List.getElem?_eq_getElem hlen];rfl
 have Uc:op=26∨op=27→∃ x,m.boxes[a.toNat]?=some x∧0≤a∧Vf.jF x.ty∧Vf.wH m a=x.ty:=by
  intro ho;have hr:=hrg;unfold Vf.ranged at hr;rw[if_neg (by show ¬ op=2;omega),if_neg (by show ¬ (op=3∨op=4);omega),if_neg (by show ¬ (op=21∨op=22);omega),if_neg (by show ¬ op=23;omega),if_neg (by show ¬ op=29;omega),if_pos (show op=26∨op=27 from ho)] at hr;simp at hr;have hlen:a.toNat<m.boxes.length:=by omega
  refine⟨_,List.getElem?_eq_getElem hlen,hr.1,Vf.yC (hR.out.boxes _ _ (List.getElem?_eq_getElem hlen)),?_⟩;unfold Vf.wH;rw[List.getElem?_eq_getElem hlen];rfl
 have hcall:op=23→Vf.is m 2 a=true:=by
  intro ho;have hr:=hrg;unfold Vf.ranged at hr;rw[if_neg (by show ¬ op=2;omega),if_neg (by show ¬ (op=3∨op=4);omega),if_neg (by show ¬ (op=21∨op=22);omega),if_pos (show op=23 from ho)] at hr;exact hr
 have hstart:op=29→Vf.is m 3 a=true:=by
  intro ho;have hr:=hrg;unfold Vf.ranged at hr;rw[if_neg (by show ¬ op=2;omega),if_neg (by show ¬ (op=3∨op=4);omega),if_neg (by show ¬ (op=21∨op=22);omega),if_neg (by show ¬ op=23;omega),if_pos (show op=29 from ho)] at hr;exact hr
 have hkk:=hk.out;unfold Vf.early at hkk;simp only at hkk;clear h1 h32 hrg hk;have hall:op=1∨op=2∨op=3∨op=4∨op=5∨op=6∨op=7∨op=8∨op=9∨op=10∨op=11∨op=12∨op=13∨op=14∨op=15∨op=16∨op=17∨op=18∨op=19∨op=20∨op=21∨op=22∨op=23∨op=24∨op=25∨op=26∨op=27∨op=28∨op=29∨op=30∨op=31∨op=32:=by omega
 rcases hall with rfl | rfl | rfl | rfl | rfl | rfl | rfl | rfl | rfl | rfl | rfl | rfl | rfl | rfl | rfl | rfl | rfl | rfl | rfl | rfl | rfl | rfl | rfl | rfl | rfl | rfl | rfl | rfl | rfl | rfl | rfl | rfl
 ·exact rneeds_1 m ab au cb cu u al ac cl cc a n w
 ·exact rneeds_2 m ab au cb cu u al ac cl cc a n w
 ·obtain⟨t,e1,e2,e3,e4⟩:=hloc (by decide)
  have en:Vf.needs m u ⟨3,a,n⟩=([],[Vf.ag t]):=by rw[← e4];rfl
  rw[en];exact rneeds_3 m ab au cb cu u al ac cl cc a n w B hun hB t e2 e1 e3
 ·obtain⟨t,e1,e2,e3,e4⟩:=hloc (by decide)
  have en:Vf.needs m u ⟨4,a,n⟩=([Vf.ag t],[]):=by rw[← e4];rfl
  rw[en];exact rneeds_4 m ab au cb cu u al ac cl cc a n w B hun hB t e2 e1 e3
 ·exact rneeds_5 m ab au cb cu u al ac cl cc a n w
 ·exact rneeds_6 m ab au cb cu u al ac cl cc a n w
 ·exact rneeds_7 m ab au cb cu u al ac cl cc a n w
 ·exact rneeds_8 m ab au cb cu u al ac cl cc a n w
 ·exact rneeds_9 m ab au cb cu u al ac cl cc a n w
 ·exact rneeds_10 m ab au cb cu u al ac cl cc a n w
 ·exact rneeds_11 m ab au cb cu u al ac cl cc a n w
 ·exact rneeds_12 m ab au cb cu u al ac cl cc a n w
 ·exact rneeds_13 m ab au cb cu u al ac cl cc a n w
 ·exact rneeds_14 m ab au cb cu u al ac cl cc a n w
 ·exact rneeds_15 m ab au cb cu u al ac cl cc a n w
 ·exact rneeds_16 m ab au cb cu u al ac cl cc a n w
 ·exact rneeds_17 m ab au cb cu u al ac cl cc a n w
 ·exact rneeds_18 m ab au cb cu u al ac cl cc a n w
 ·exact rneeds_19 m ab au cb cu u al ac cl cc a n w
 ·exact rneeds_20 m ab au cb cu u al ac cl cc a n w
 ·exact rneeds_21 m ab au cb cu u al ac cl cc a n w
 ·exact rneeds_22 m ab au cb cu u al ac cl cc a n w
 ·obtain⟨e1,e2,e3,_⟩:=Og hR.out (hcall rfl)
  exact rneeds_23 m ab au cb cu u al ac cl cc a n w B hmd hB _ (hide e1) (Vf.yC ((zS e3).1.resolve_left (by omega)))
 ·exact rneeds_24 m ab au cb cu u al ac cl cc a n w (Vf.yC (t1.resolve_left (by omega)))
 ·exact rneeds_25 m ab au cb cu u al ac cl cc a n w
 ·obtain⟨x,e1,e2,e3,e4⟩:=Uc (by decide)
  have en:Vf.needs m u ⟨26,a,n⟩=([Vf.ag x.ty],[]):=by rw[← e4];rfl
  rw[en];exact rneeds_26 m ab au cb cu u al ac cl cc a n w B hmd hB x e2 e1 e3
 ·obtain⟨x,e1,e2,e3,e4⟩:=Uc (by decide)
  have en:Vf.needs m u ⟨27,a,n⟩=([],[Vf.ag x.ty]):=by rw[← e4];rfl
  rw[en];exact rneeds_27 m ab au cb cu u al ac cl cc a n w B hmd hB x e2 e1 e3
 ·exact rneeds_28 m ab au cb cu u al ac cl cc a n w
 ·obtain⟨e1,e2,e3,e4,e5⟩:=Og hR.out (hstart rfl)
  exact rneeds_29 m ab au cb cu u al ac cl cc a n w B hmd hB _ (hide e1) (.inr (.inr ⟨by omega,by omega⟩))
 ·exact rneeds_30 m ab au cb cu u al ac cl cc a n w
 ·exact rneeds_31 m ab au cb cu u al ac cl cc a n w (Vf.yC (t1.resolve_left (by omega))) (Vf.yC (t2.resolve_left (by omega)))
 ·exact rneeds_32 m ab au cb cu u al ac cl cc a n w
theorem rV (KB AT:Nat)(er k n:Int)(w:World)(hk:Hid (w.cell? ⟨KB,0,none⟩=some (.int .i64 k)))(hn:Hid (w.cell? ⟨AT,0,none⟩=some (.int .i64 n)))(h1:KB<w.heap.size)(h2:AT<w.heap.size) :
  Calls Tryz.prog 44 #[.int .i64 er,.pointer (some ⟨KB,0,none⟩),.pointer (some ⟨AT,0,none⟩)] w fun e w'=>e=.returned (gM er k n)∧w.grownBy w' none:=by
 have c1:=hk.out;have c2:=hn.out;go_enter Tryz.func44,Tryz.ntmps44
 go_wp2
 refine bodyPost_ret (v:=gM er k n) (by simp[results,Tryz.results44,go_sem]) rfl ?_;exact⟨rfl,ai (World.grownBy.refl _ _) _⟩
theorem Tryz.Oh:(Tryz.prog.info? 4).map (fun i=>(i.zero,i.size,i.bytes))=some (some (.bool false),1,1):=by kernel_rfl
theorem Tryz.ab9:(Tryz.prog.info? 94).map (fun i=>(i.zero,i.size,i.bytes))=some (some (.agg #[.bool false,.string ⟨#[]⟩,.slice none 0 0]),3,48):=by kernel_rfl
abbrev bools (l:List Bool):List Value:=l.map Value.bool
abbrev BR (w:World) (C:Nat) (v:Value) (l:List Bool):Prop:=w.ownsRow C 4 1 v l.length (bools l)
theorem Gy {w w':World}{C:Nat}{v:Value}{l:List Bool}(h:BR w C v l)(hk:∀ g cs,v.ownBlock=some g→w.heap[g]?=some (.cells cs 4 (0,0))→w'.heap[g]?=w.heap[g]?):BR w' C v l:=by
 refine⟨h.1,?_⟩;rcases h.2 with h1 | ⟨g,cap,cur,rfl,h2,h3,h4⟩
 ·exact .inl h1
 ·exact .inr ⟨g,cap,cur,rfl,h2,(hk g _ rfl h3).trans h3,h4⟩
theorem vT {w w':World}{C:Nat}{v:Value}{l:List Bool}(h:BR w C v l)(hg:w.grownBy w' none):BR w' C v l:=Gy h (fun _ _ _ hc=>aC hg (lt_of_block hc))
theorem A7 {w:World}{C g:Nat}{v:Value}{l:List Bool}(h:BR w C v l)(hg:v.ownBlock=some g):C≤g∧∃ cs,w.heap[g]?=some (.cells cs 4 (0,0)):=by
 rcases h.2 with⟨rfl,_⟩ | ⟨g',cap,cur,rfl,h2,h3,h4⟩
 ·cases hg
 ·cases hg
  exact⟨h2,_,h3⟩
theorem Gz {w:World}{C x:Nat}{v:Value}{l:List Bool}{b:Bool}(h:BR w C v l)(hx:l[x]?=some b):∃ g cap,v=.slice (some ⟨g,0,none⟩) l.length cap∧C≤g∧g<w.heap.size∧w.cell? ⟨g,x,none⟩=some (.bool b)∧w.frozen? ⟨g,x,none⟩=false:=by
 have hxl:=(List.getElem?_eq_some_iff.1 hx).1;rcases h.2 with⟨rfl,h0⟩ | ⟨g,cap,cur,rfl,h2,h3,h4,h5,h6,h7⟩
 ·omega
 ·refine⟨g,cap,rfl,h2,lt_of_block h3,?_,by simp[World.frozen?,h3]⟩
  have e:(bools l)[x]?=some (.bool b):=by simp[hx]
  rw[← h7,List.getElem?_take] at e;split at e
  ·simp[World.cell?,h3]
   simpa using e
  ·cases e
theorem Ud {w:World}{C x g cap:Nat}{l:List Bool}(h:BR w C (.slice (some ⟨g,0,none⟩) l.length cap) l)(b:Bool):BR (w.setCell ⟨g,x,none⟩ (.bool b)) C (.slice (some ⟨g,0,none⟩) l.length cap) (l.set x b):=by
 refine⟨by simp,?_⟩;rcases h.2 with⟨h1,_⟩ | ⟨g',cap',cur,h1,h2,h3,h4,h5,h6,h7⟩
 ·cases h1
 ·cases h1
  refine .inr ⟨g,cap,cur.setIfInBounds x (.bool b),by simp,h2,E5 h3 x _,by simpa using h4,h5,by simpa using h6,?_⟩;have e:(cur.setIfInBounds x (.bool b)).toList=cur.toList.set x (.bool b):=by simp
  rw[e,List.length_set];have e2:bools (l.set x b)=(bools l).set x (.bool b):=by simp[List.map_set]
  rw[e2,← h7,List.take_set]
def KO (B n:Nat)(w:World)(cs:List Value)(i:Nat)(v:Value):Option (List Int × List Bool)→Prop
 | none=>cs[i * 3]?=some (.bool false)
 | some (st,l)=>cs[i * 3]?=some (.bool true)∧(∃ s:ByteArray,cs[i * 3+1]?=some (.string s)∧s.data.toList=(st.map Vf.ag).reverse)∧cs[i * 3+2]?=some v∧BR w B v l∧l.length=n
def jv (B n len SB:Nat)(come:Nat→Option (List Int × List Bool))(X:Option Nat)(w:World):Prop :=
 ∃ (cs:List Value) (vs:Nat→Value),w.heap[SB]?=some (.cells (List.toArray cs) 94 (0,0))∧cs.length=len * 3∧(∀ i,i<len→KO B n w cs i (vs i) (come i)) ∧
  (∀ i j g,i<len→j<len→come i≠none→come j≠none→(vs i).ownBlock=some g→(vs j).ownBlock=some g→i=j)∧(∀ i g,i<len→come i≠none→(vs i).ownBlock=some g→some g≠X)
theorem KO.keep {B n:Nat}{w w':World}{cs:List Value}{i:Nat}{v:Value}:∀ {o:Option (List Int × List Bool)},KO B n w cs i v o→(∀ g bs,o≠none→v.ownBlock=some g→w.heap[g]?=some (.cells bs 4 (0,0))→w'.heap[g]?=w.heap[g]?)→KO B n w' cs i v o
 | none,h,_=>h
 | some (st,l),⟨h1,h2,h3,h4,h5⟩,hk=>⟨h1,h2,h3,Gy h4 (fun g bs hg hb=>hk g bs (by simp) hg hb),h5⟩
theorem jv.keep {B n len SB:Nat}{come:Nat→Option (List Int × List Bool)}{X:Option Nat}{w w':World}(h:jv B n len SB come X w)(hs:w'.heap[SB]?=w.heap[SB]?)(hb:∀ g cs,some g≠X→w.heap[g]?=some (.cells cs 4 (0,0))→w'.heap[g]?=w.heap[g]?):jv B n len SB come X w':=by
 obtain⟨cs,vs,h1,h2,h3,h4,h5⟩:=h;exact⟨cs,vs,hs.trans h1,h2,fun i hi=>(h3 i hi).keep (fun g bs hn hg hb'=>hb g bs (h5 i g hi hn hg) hb'),h4,h5⟩
theorem jv.blk {B n len SB:Nat}{come:Nat→Option (List Int × List Bool)}{X:Option Nat}{w:World}(h:jv B n len SB come X w):∃ cs,w.heap[SB]?=some (.cells cs 94 (0,0)):=by
 obtain⟨cs,vs,h1,_⟩:=h;exact⟨_,h1⟩
theorem jv.lt {B n len SB:Nat}{come:Nat→Option (List Int × List Bool)}{X:Option Nat}{w:World}(h:jv B n len SB come X w):SB<w.heap.size:=by
 obtain⟨cs,h1⟩:=h.blk;exact lt_of_block h1
theorem jv.grown {B n len SB:Nat}{come:Nat→Option (List Int × List Bool)}{X:Option Nat}{w w':World}(h:jv B n len SB come X w)(hg:w.grownBy w' none):jv B n len SB come X w' :=
 h.keep (aC hg h.lt) (fun _ _ _ hc=>aC hg (lt_of_block hc))
theorem jv.other {B n len SB N:Nat}{come:Nat→Option (List Int × List Bool)}{X:Option Nat}{w w':World}{o:Obj}(h:jv B n len SB come X w)(hg:w.grownBy w' (some N))(ho:w.heap[N]?=some o)(h1:∀ cs,o≠.cells cs 94 (0,0))(h2:∀ cs,o≠.cells cs 4 (0,0)):jv B n len SB come X w':=by
 refine h.keep (hg.block _ h.lt (fun e=>?_)) (fun g cs _ hc=>hg.block _ (lt_of_block hc) (fun e=>?_))
 ·cases e
  obtain⟨cs,hb⟩:=h.blk;rw[ho] at hb;cases hb;exact h1 _ rfl
 ·cases e
  rw[ho] at hc;cases hc;exact h2 _ rfl
theorem jv.forget {B n len SB:Nat}{come:Nat→Option (List Int × List Bool)}{X:Option Nat}{w:World}(h:jv B n len SB come X w):jv B n len SB come none w:=by
 obtain⟨cs,vs,h1,h2,h3,h4,h5⟩:=h;exact⟨cs,vs,h1,h2,h3,h4,fun _ _ _ _ _ e=>by cases e⟩
theorem jv.now {B n len SB X:Nat}{come:Nat→Option (List Int × List Bool)}{w w':World}(h:jv B n len SB come none w)(hg:w.grownBy w' none)(hX:w.heap.size≤X):jv B n len SB come (some X) w':=by
 have h':=h.grown hg;obtain⟨cs,vs,h1,h2,h3,h4,h5⟩:=h;obtain⟨cs',h1'⟩:=h'.blk;refine⟨cs,vs,(aC hg (lt_of_block h1)).trans h1,h2,fun i hi=>(h3 i hi).keep (fun g bs _ _ hb=>aC hg (lt_of_block hb)),h4,fun i g hi hn hg' e=>?_⟩;cases e;cases hc:come i with
 | none=>exact hn hc
 | some p =>
  obtain⟨st,l⟩:=p;have:=h3 i hi;rw[hc] at this;obtain⟨_,bs,hb⟩:=A7 this.2.2.2.1 hg';have:=lt_of_block hb;omega
theorem GA {w:World}{N i:Nat}{cs:List Value}{t:TypeId}{v:Value}(h:w.heap[N]?=some (.cells (List.toArray cs) t (0,0)))(hv:cs[i]?=some v):w.cell? ⟨N,i,none⟩=some v:=by
 simp[World.cell?,h,hv]
theorem aca {w:World}{N i:Nat}{cs:List Value}{t:TypeId}{v:Value}(h:w.heap[N]?=some (.cells (List.toArray cs) t (0,0)))(hv:w.cell? ⟨N,i,none⟩=some v):cs[i]?=some v:=by
 simpa[World.cell?,h] using hv
theorem acb {w:World}{N i:Nat}{cs:Array Value}{t:TypeId}(h:w.heap[N]?=some (.cells cs t (0,0))):w.frozen? ⟨N,i,none⟩=false:=by
 simp[World.frozen?,h]
theorem jv.no {B n len SB i:Nat}{come:Nat→Option (List Int × List Bool)}{X:Option Nat}{w:World}(h:jv B n len SB come X w)(hi:i<len)(hc:come i=none) :
  w.cell? ⟨SB,i * 3,none⟩=some (.bool false)∧(∃ v,w.cell? ⟨SB,i * 3+1,none⟩=some v)∧(∃ v,w.cell? ⟨SB,i * 3+2,none⟩=some v):=by
 obtain⟨cs,vs,h1,h2,h3,h4,h5⟩:=h;have:=h3 i hi;rw[hc] at this;refine⟨GA h1 this,⟨cs[i * 3+1]'(by omega),GA h1 (List.getElem?_eq_getElem _)⟩,⟨cs[i * 3+2]'(by omega),GA h1 (List.getElem?_eq_getElem _)⟩⟩
theorem jv.frozen {B n len SB:Nat}{come:Nat→Option (List Int × List Bool)}{X:Option Nat}{w:World}(h:jv B n len SB come X w)(i:Nat):w.frozen? ⟨SB,i,none⟩=false:=by
 obtain⟨cs,h1⟩:=h.blk;exact acb h1
theorem jv.yes {B n len SB i:Nat}{come:Nat→Option (List Int × List Bool)}{X:Option Nat}{w:World}(h:jv B n len SB come X w)(hi:i<len){st:List Int}{l:List Bool}(hc:come i=some (st,l)) :
  ∃ s v,w.cell? ⟨SB,i * 3,none⟩=some (.bool true)∧w.cell? ⟨SB,i * 3+1,none⟩=some (.string s)∧w.cell? ⟨SB,i * 3+2,none⟩=some v∧s.data.toList=(st.map Vf.ag).reverse∧BR w B v l∧l.length=n∧(∀ g,v.ownBlock=some g→some g≠X):=by
 obtain⟨cs,vs,h1,h2,h3,h4,h5⟩:=h;have:=h3 i hi;rw[hc] at this;obtain⟨e1,⟨s,e2,e3⟩,e4,e5,e6⟩:=this;exact⟨s,vs i,GA h1 e1,GA h1 e2,GA h1 e4,e3,e5,e6,fun g hg=>h5 i g hi (by rw[hc];simp) hg⟩
def upd (come:Nat→Option (List Int × List Bool))(i:Nat)(p:List Int × List Bool):Nat→Option (List Int × List Bool):=fun j=>if j=i then some p else come j
theorem acd {w:World}{N i:Nat}{cs:List Value}{t:TypeId}(h:w.heap[N]?=some (.cells (List.toArray cs) t (0,0)))(a b c:Value) :
  (((w.setCell ⟨N,i,none⟩ a).setCell ⟨N,i+1,none⟩ b).setCell ⟨N,i+2,none⟩ c).heap[N]?=some (.cells (List.toArray (((cs.set i a).set (i+1) b).set (i+2) c)) t (0,0)):=Ho (Ho (Ho h i a) (i+1) b) (i+2) c
theorem KP {w:World}{N i:Nat}(a b c:Value){k:Nat}(hk:k≠N):(((w.setCell ⟨N,i,none⟩ a).setCell ⟨N,i+1,none⟩ b).setCell ⟨N,i+2,none⟩ c).heap[k]?=w.heap[k]? :=
 (Below.heap_setCell _ ⟨N,i+2,none⟩ _ _ hk).trans ((Below.heap_setCell _ ⟨N,i+1,none⟩ _ _ hk).trans (Below.heap_setCell _ ⟨N,i,none⟩ _ _ hk))
theorem jv.put {B n len SB i:Nat}{come:Nat→Option (List Int × List Bool)}{X:Option Nat}{w0 w:World}{v:Value}{s:ByteArray}{st:List Int}{l:List Bool}(h:jv B n len SB come X w0)(hg:w0.grownBy w none)(hX:∀ g,X=some g→g<w0.heap.size)(hB:B≤w0.heap.size)(hi:i<len)(hv:BR w w0.heap.size v l)(hl:l.length=n)(hs:s.data.toList=(st.map Vf.ag).reverse) :
  jv B n len SB (upd come i (st,l)) X (((w.setCell ⟨SB,i * 3,none⟩ (.bool true)).setCell ⟨SB,i * 3+1,none⟩ (.string s)).setCell ⟨SB,i * 3+2,none⟩ v):=by
 obtain⟨cs,vs,h1,h2,h3,h4,h5⟩:=h;have h1':w.heap[SB]?=some (.cells (List.toArray cs) 94 (0,0)):=(aC hg (lt_of_block h1)).trans h1;have hold:∀ j g,j<len→come j≠none→(vs j).ownBlock=some g→g<w0.heap.size:=fun j g hj hn hg'=>by
  cases hc:come j with
  | none=>exact absurd hc hn
  | some p =>
   obtain⟨st',l'⟩:=p;have:=h3 j hj;rw[hc] at this;obtain⟨_,bs,hb⟩:=A7 this.2.2.2.1 hg';exact lt_of_block hb
 have hnew:∀ g,v.ownBlock=some g→w0.heap.size≤g:=fun g hg'=>(A7 hv hg').1;refine⟨((cs.set (i * 3) (.bool true)).set (i * 3+1) (.string s)).set (i * 3+2) v,fun j=>if j=i then v else vs j,acd h1' _ _ _,by simpa using h2,fun j hj=>?_,fun a b g ha hb hna hnb ga gb=>?_,fun j g hj hn hg' e=>?_⟩
 ·by_cases hji:j=i
  ·subst hji
   simp only[upd,if_true];refine⟨?_,⟨s,?_,hs⟩,?_,?_,hl⟩
   ·rw[List.getElem?_set_ne (by omega),List.getElem?_set_ne (by omega),List.getElem?_set_self (by omega)]
   ·rw[List.getElem?_set_ne (by omega),List.getElem?_set_self (by simp;omega)]
   ·rw[List.getElem?_set_self (by simp;omega)]
   ·refine Gy (JP hv hB) (fun g bs hg' hb=>KP _ _ _ (fun e=>?_))
    subst e;rw[h1'] at hb;simp at hb
  ·simp only[upd,if_neg hji]
   have h6:=(h3 j hj).keep (w':=((w.setCell ⟨SB,i * 3,none⟩ (.bool true)).setCell ⟨SB,i * 3+1,none⟩ (.string s)).setCell ⟨SB,i * 3+2,none⟩ v) (fun g bs _ _ hb=>(KP _ _ _ (fun e=>by
    subst e;rw[h1] at hb;simp at hb)).trans (aC hg (lt_of_block hb)))
   have same:∀ q,q=j * 3∨q=j * 3+1∨q=j * 3+2→(((cs.set (i * 3) (.bool true)).set (i * 3+1) (.string s)).set (i * 3+2) v)[q]?=cs[q]?:=fun q hq=>by
    rw[List.getElem?_set_ne (by omega),List.getElem?_set_ne (by omega),List.getElem?_set_ne (by omega)]
   cases hc:come j with
   | none =>
    rw[hc] at h6;exact (same _ (.inl rfl)).trans h6
   | some p =>
    obtain⟨st',l'⟩:=p;rw[hc] at h6;obtain⟨e1,⟨s',e2,e3⟩,e4,e5,e6⟩:=h6;exact⟨(same _ (.inl rfl)).trans e1,⟨s',(same _ (.inr (.inl rfl))).trans e2,e3⟩,(same _ (.inr (.inr rfl))).trans e4,e5,e6⟩
 ·by_cases hai:a=i<;>by_cases hbi:b=i
  ·rw[hai,hbi]
  ·simp only[hai,hbi,if_true,if_false,upd] at ga gb hnb
   have:=hnew g ga;have:=hold b g hb hnb gb;omega
  ·simp only[hai,hbi,if_true,if_false,upd] at ga gb hna
   have:=hnew g gb;have:=hold a g ha hna ga;omega
  ·simp only[hai,hbi,if_false,upd] at ga gb hna hnb
   exact h4 a b g ha hb hna hnb ga gb
 ·by_cases hji:j=i
  ·simp only[hji,if_true] at hg'
   have:=hnew g hg';have:=hX g e.symm;omega
  ·simp only[hji,if_false,upd] at hg' hn
   exact h5 j g hj hn hg' e
theorem jv.clear {B n len SB i x g cap:Nat}{come:Nat→Option (List Int × List Bool)}{X:Option Nat}{w:World}{st:List Int}{l:List Bool}(h:jv B n len SB come X w)(hi:i<len)(hc:come i=some (st,l))(hv:w.cell? ⟨SB,i * 3+2,none⟩=some (.slice (some ⟨g,0,none⟩) n cap)) :
  jv B n len SB (upd come i (st,l.set x false)) X (w.setCell ⟨g,x,none⟩ (.bool false)):=by
 obtain⟨cs,vs,h1,h2,h3,h4,h5⟩:=h;have hi3:=h3 i hi;rw[hc] at hi3;obtain⟨e1,⟨s,e2,e3⟩,e4,e5,e6⟩:=hi3;have ev:vs i=.slice (some ⟨g,0,none⟩) n cap:=by
  have:=aca h1 hv;rw[e4] at this;exact Option.some.inj this
 rw[ev] at e4 e5;obtain⟨_,bs,hb⟩:=A7 e5 (g:=g) rfl;have Oi:SB≠g:=fun e=>by
  subst e;rw[h1] at hb;simp at hb
 subst e6;refine⟨cs,vs,(Below.heap_setCell _ ⟨g,x,none⟩ _ _ Oi).trans h1,h2,fun j hj=>?_,fun a b g' ha hb' hna hnb ga gb=>h4 a b g' ha hb' (fun e=>hna ?_) (fun e=>hnb ?_) ga gb,fun j g' hj hn hg'=>h5 j g' hj (fun e=>hn ?_) hg'⟩
 ·by_cases hji:j=i
  ·subst hji
   simp only[upd,if_true];rw[ev];exact⟨e1,⟨s,e2,e3⟩,e4,Ud e5 false,by simp⟩
  ·simp only[upd,if_neg hji]
   refine (h3 j hj).keep (fun g' bs' hn hg' hb'=>Below.heap_setCell _ ⟨g,x,none⟩ _ _ (fun e=>hji ?_));have e':g'=g:=e;subst e';exact h4 j i g' hj hi hn (by rw[hc];simp) hg' (by rw[ev];rfl)
 ·by_cases hai:a=i
  ·subst hai;rw[hc] at e;cases e
  ·unfold upd;rw[if_neg hai];exact e
 ·by_cases hbi:b=i
  ·subst hbi;rw[hc] at e;cases e
  ·unfold upd;rw[if_neg hbi];exact e
 ·by_cases hji:j=i
  ·subst hji;rw[hc] at e;cases e
  ·unfold upd;rw[if_neg hji];exact e
end Go.Proofs.YtbdpdjcdhclbfaaGreat

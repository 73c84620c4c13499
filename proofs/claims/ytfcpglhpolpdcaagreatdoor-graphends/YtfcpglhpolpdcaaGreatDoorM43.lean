/- Appends: what is appended to lies there,or anew. -/
import Derived.Test.YtfcpglhpolpdcaaGreatDoorM42
namespace Go.Proofs.YtfcpglhpolpdcaaGreatDoor
namespace Xe
variable {P:Program}
theorem Post.anew {φ:Ph}{s:S}{w w':World}{h':Hp}{o2:Obj}{g:Gh}(h:dK φ s w)(hh:∀ y o,h' y=some o→iZ o→s.h y=some o)
  (hsz:w.heap.size≤w'.heap.size) (hout:Oe w w') (hg:g.b<w'.heap.size)
  (hnew:w.heap.size≤g.b∨∃ y gy,3≤y∧live s.h y∧φ y=some gy∧gy.b=g.b∧¬ live h' y)
  (hkeep:∀ b,b<w.heap.size→b≠g.b→w'.heap[b]?=w.heap[b]?) (hor:OR (upd φ s.c g) w' s.c o2) :
  Post φ s w (upd φ s.c g) ⟨s.c+1,setH h' s.c o2,s.ds⟩ w':=by
 have h0:φ s.c=none:=h.fr s.c (Nat.le_refl _);have hsub:=yP h0 g;have hl:∀ y,live (setH h' s.c o2) y→y=s.c∨live h' y:=by
  rintro y ⟨o,hy,hi⟩;rw[iC] at hy;split at hy
  ·rename_i e;exact .inl e
  ·exact .inr ⟨o,hy,hi⟩
 have hl':∀ y,live h' y→live s.h y:=fun y ⟨o,hy,hi⟩=>⟨o,hh y o hy hi,hi⟩;have hne:∀ y gy,live h' y→φ y=some gy→gy.b≠g.b:=by
  intro y gy hy jb e;rcases hnew with h1 | ⟨z,gz,_,hz,hgz,he,hd⟩
  ·have:=h.rel.bnd y gy jb;omega
  ·exact hd (h.rel.inj y z gy gz (hl' y hy) hz jb hgz (e.trans he.symm) ▸ hy)
 have p9:∀ y gy,live h' y→upd φ s.c g y=some gy→φ y=some gy:=by
  intro y gy hy jb;unfold upd at jb;split at jb
  ·rename_i e
   subst e;obtain⟨g',hg'⟩:=h.rel.has (hl' _ hy);rw[h0] at hg';cases hg'
  ·exact jb
 refine⟨⟨⟨?_,?_,?_,?_⟩,?_⟩,⟨hsub,hsz,?_,?_,hout⟩,Nat.le_succ _,?_,?_⟩
 ·intro y o hy0
  have hy:setH h' s.c o2 y=some o:=hy0;rw[iC] at hy;split at hy
  ·rename_i e
   subst e;cases hy;exact hor
  ·by_cases hi:iZ o
   ·have hs:=hh y o hy hi
    refine (h.rel.obj y o hs).mono hsub fun gy jb=>hkeep gy.b (h.rel.bnd y gy jb) (hne y gy ⟨o,hy,hi⟩ jb)
   ·cases o<;>simp only[iZ,not_true_eq_false] at hi<;>exact trivial
 ·intro y z g1 g2 hy hz h1 h2 e
  rcases hl y hy with rfl | hy'<;>rcases hl z hz with rfl | hz'
  ·rfl
  ·rw[l9] at h1;cases h1
   exact absurd e.symm (hne z g2 hz' (p9 z g2 hz' h2))
  ·rw[l9] at h2;cases h2
   exact absurd e (hne y g1 hy' (p9 y g1 hy' h1))
  ·exact h.rel.inj y z g1 g2 (hl' y hy') (hl' z hz') (p9 y g1 hy' h1) (p9 z g2 hz' h2) e
 ·intro y gy hy
  show gy.b<w'.heap.size
  unfold upd at hy;split at hy
  ·cases hy;exact hg
  ·exact Nat.lt_of_lt_of_le (h.rel.bnd y gy hy) hsz
 ·intro y hy
  obtain⟨n,hn⟩:=h.rel.l8 y hy;exact⟨n,hsub _ _ hn⟩
 ·intro y hy
  show upd φ s.c g y=none
  have hy':s.c+1≤y:=hy;unfold upd;rw[if_neg (by omega)];exact h.fr y (by omega)
 ·intro y gy h1 h2
  unfold upd at h2;split at h2
  ·cases h2
   rcases hnew with h3 | ⟨z,gz,hz3,hz,hgz,he,_⟩
   ·exact .inl h3
   ·exact .inr ⟨z,gz,hz3,hz,hgz,he⟩
  ·rw[h1] at h2;cases h2
 ·intro b hb hn
  refine hkeep b hb fun e=>?_;rcases hnew with h3 | ⟨z,gz,hz3,hz,hgz,he,_⟩
  ·omega
  ·exact hn z gz hz3 hz hgz (he.trans e.symm)
 ·intro y h1 h2
  unfold upd at h2;split at h2
  ·rename_i e;subst e;exact Nat.le_refl _
  ·exact absurd h1 h2
 ·intro y hy
  rcases hl y hy with rfl | hy'
  ·exact .inr h0
  ·exact .inl (hl' y hy')
theorem KO {φ:Ph}{w':World}{nm g cap n z N:Nat}{cur:Array Value}{e el:TypeId}{l xs:List Value}{fr:Nat × Nat}(h0:φ nm=none)(hw:w'.heap[g]?=some (.cells cur e (0,0)))(hc:cur.size=N)(hN:cap * z≤N)(hnc:n≤cap)
  (hx:cur.toList.take (n * z)=xs) (hL:L (V1 φ) l xs) (hl:l.length=n * z) :
  OR (upd φ nm ⟨g,N⟩) w' nm (.cells l.toArray el fr)∧V (upd φ nm ⟨g,N⟩) (.slice (some ⟨nm,0,none⟩) n z) (.slice (some ⟨g,0,none⟩) n cap):=by
 refine⟨⟨_,cur,e,(0,0),l9 φ nm _,hw,hc,fun _=>rfl,?_,?_⟩,.dX ⟨_,cap,rfl,.inr ⟨rfl,hnc,_,l9 φ nm _,rfl,by show 0+cap * z≤N;omega⟩⟩⟩
 ·have:n * z≤cap * z:=Nat.mul_le_mul_right z hnc
  simp;omega
 ·have e1:l.toArray.size=n * z:=by simpa using hl
  rw[e1,hx];exact hL.mono fun _ _=>V1.mono (yP h0 _)
theorem afc {t ty e e2:TypeId}{i:TypeInfo}(ht:P.underlying t=some (.slice e))(hi:P.info? e=some i)(w:World)
  (g sLen sCap:Nat) (cur:Array Value) (hg:w.heap[g]?=some (.cells cur e2 (0,0)))
  (a:Addr) (m c:Nat) (news:List Value) (hl:news.length=m * i.size) (hnews:∀ j u,news[j]?=some u→w.cell? (a.add j)=some u) (h1:∀ u ∈ news,u.oneCell'=true)
  (hroom:sLen+m≤sCap) (hfit:sLen * i.size+news.length≤cur.size) :
  (Builtin.append_ #[t,t] ty #[.slice (some ⟨g,0,none⟩) sLen sCap,.slice (some a) m c]).run P w =
   .ok (.slice (some ⟨g,0,none⟩) (sLen+m) sCap) (w.setRow g (cur.toList.take (sLen * i.size)++news++cur.toList.drop (sLen * i.size+news.length)).toArray):=by
 have hf:=run_firstCells_some (P:=P) w i.size m a m c news hl hnews;have hst:=run_storeCells_at P g (sLen * i.size) e2 news 0 cur w hg (by simpa using hfit) h1;simp only[Nat.add_zero] at hst;simp[Builtin.append_,run_underlying ht,sizeOf,typeInfo,hi,Builtin.lenOf,hroom,hf,Addr.add_lit,hst]
theorem KP {t ty e:TypeId}{i:TypeInfo}(ht:P.underlying t=some (.slice e))(hi:P.info? e=some i)(w:World)(a b:Option Addr)(n k c:Nat)(hk:n≤k) :
  (Builtin.append_ #[t,t] ty #[.slice a n k,.slice b 0 c]).run P w=.ok (.slice a n k) w:=by
 cases a<;>cases b<;>simp[Builtin.append_,run_underlying ht,sizeOf,typeInfo,hi,Builtin.lenOf,hk,Builtin.firstCells,loadCells,loadCellsFrom,storeCells]
theorem afd {c:Call}{f:F}(hc:c.callee=.builtin .append)(h:sU P c .append=some f):Cs P (.call c) f:=by
 unfold sU at h;simp only at h;split at h;case h_2=>cases h
 rename_i x y t t' hargs Cr;split at h;case h_2=>cases h
 rename_i el hd;obtain⟨i,hi,h⟩:=aj.1 h;obtain⟨zs,hz,h⟩:=aj.1 h;rw[aN,aN,aN,aN] at h;obtain⟨ht,hzs,hpos,hby,h⟩:=h;cases h;have ht':=Nat.eq_of_beq_eq_true ht;subst ht';have hzs':zs.cells.size=i.size:=Nat.eq_of_beq_eq_true hzs;have hpos':0<i.size:=by rw[ed] at hpos;simp at hpos;omega
 have afe:i.bytes≤1000000:=by rw[ed] at hby;simpa using hby
 have hargs':c.args=#[x,y]:=Array.toList_inj.1 (by simpa using hargs);have rD:c.argTypes=#[t,t]:=Array.toList_inj.1 (by simpa using Cr);have Fy:x ∈ (Op.call c).operands:=by simp[Op.operands,Call.operands,hc,hargs']
 have TW:y ∈ (Op.call c).operands:=by simp[Op.operands,Call.operands,hc,hargs']
 have jE:∀ (a:Act) (w w':World) (o:Oper) (r:Value),o.op=.call c→(Builtin.append_ #[t,t] 0 #[a.eval x,a.eval y]).run P w=.ok r w'→(execOp a.eval o).run P w=.ok (.value r) w':=by
  intro a w w' o r ho hrun;rw[KH hc ho,hargs',rD];have:((#[x,y]:Array Operand).map a.eval)=#[a.eval x,a.eval y]:=by simp
  rw[this];show (do pure (.value (← Builtin.append_ #[t,t] 0 #[a.eval x,a.eval y])):Sem Next).run P w=_
  simp[hrun]
 intro call e s nm v s' h;have h1:JZ el i.size s (ev e x) (ev e y)=some (v,s'):=h;unfold JZ at h1;obtain⟨xa,n,k,hx,h1⟩:=Ci.1 h1;obtain⟨yb,m,k2,hy,h1⟩:=Ci.1 h1;cases m with
 | zero =>
  have h2:some (Value.slice xa n k,s)=some (v,s'):=h1;cases h2;refine⟨rfl,fun φ a w hE hS=>?_⟩;have hxe:=hE x Fy;have hye:=hE y TW;rw[hx] at hxe;rw[hy] at hye;have wB:∃ b c',a.eval y=.slice b 0 c':=by
   cases yb with
   | none=>exact⟨none,0,(Ck hye).2⟩
   | some b=>obtain⟨b',c',h',_⟩:=pX hye;exact⟨b',c',h'⟩
  obtain⟨b,c',wB⟩:=wB;refine⟨φ,a.eval x,w,hxe,Post.refl hS,fun o ho=>.inl (jE a w w o _ ho ?_)⟩;rw[wB];cases xa with
  | none =>
   rw[(Ck hxe).2];exact KP hd hi w none b 0 0 c' (Nat.le_refl _)
  | some xa =>
   obtain⟨a',cc,h',hs⟩:=pX hxe;rw[h'];rcases hs with⟨_,rfl⟩ | ⟨_,hle,g,hg,rfl,_⟩
   ·exact KP hd hi w a' b 0 cc c' (Nat.zero_le _)
   ·exact KP hd hi w _ b n cc c' hle
 | succ m =>
  rw[Cc,aN] at h1;obtain⟨hbd,h2⟩:=h1;obtain⟨b,hyb,h3⟩:=aj.1 h2;subst hyb;obtain⟨new,hnew,h1⟩:=aj.1 h3;clear h2 h3;have aff:n+(m+1)≤1000000:=by rw[ed] at hbd;simpa using hbd
  have hbytes:(n+(m+1)) * i.bytes≤140737488355328:=Nat.le_trans (Nat.mul_le_mul aff afe) (by omega);have h63:n+(m+1)≤maxLen:=by simp[maxLen];omega
  rw[show Nat.mul (Nat.succ m) i.size=(m+1) * i.size from rfl] at hnew;have hds:s'.ds=s.ds:=by
   unfold JY at h1;cases xa with
   | none =>
    cases n with
    | zero=>simp only[Cb,jZ,oP] at h1;cases h1;rfl
    | succ n=>cases h1
   | some xa =>
    simp only[Cf] at h1;rw[yJ,aN,aN] at h1;obtain⟨_,_,_,h1⟩:=h1;cases ho:xa.off with
    | succ q=>rw[ho,Cc] at h1;cases h1
    | zero =>
     rw[ho,Cb,bV] at h1;split at h1
     ·cases h1
     ·obtain⟨old,_,h1⟩:=aj.1 h1
      simp only[jZ,oP] at h1;cases h1;rfl
  refine⟨hds,fun φ a w hE hS=>?_⟩;have hxe:=hE x Fy;have hye:=hE y TW;rw[hx] at hxe;rw[hy] at hye;obtain⟨b',cb,wB,hsb⟩:=pX hye;rcases hsb with⟨_,h0⟩ | ⟨afg,hcb,gb,hgb,rfl,_⟩
  ·cases h0
  have afh:AR φ b ⟨gb.b,b.off,none⟩:=⟨afg,gb,hgb,rfl⟩;obtain⟨new',hLn,Ct,hcell⟩:=Cm hnew hS.rel afh;have hnl:new.length=(m+1) * i.size:=by rw[hLn.length];exact Ct
  have Fz:φ s.c=none:=hS.fr s.c (Nat.le_refl _);have hc3:3≤s.c:=by
   rcases Nat.lt_or_ge s.c 3 with h | h
   ·obtain⟨q,hq⟩:=hS.rel.l8 s.c h;rw[Fz] at hq;cases hq
   ·exact h
  unfold JY at h1;cases xa with
  | none =>
   obtain⟨rfl,Cu⟩:=Ck hxe;have h2:(sB s fun c h ds=>fN c fun c=>some (Value.slice (some ⟨c,0,none⟩) (Nat.succ m) i.size,(⟨Nat.succ c,setH h c (.cells new.toArray el),ds⟩:S)))=some (v,s'):=h1;rw[jZ,oP] at h2;cases h2;have hb0:(0+(m+1)) * i.bytes≤140737488355328:=by simpa using hbytes
   obtain⟨v',w',hrun,hown,hgr,_⟩:=run_append_own (P:=P) w w.heap.size t 0 el i zs i.size i.bytes hd hi hz rfl rfl hzs' hpos' (.slice none 0 0) 0 [] (World.ownsRow_nil w w.heap.size el i.size) ⟨gb.b,b.off,none⟩ (m+1) cb new' Ct hcell (Fw hLn) (by omega) hb0 (Nat.le_refl _);obtain⟨_,⟨_,hz0⟩ | ⟨g,cap,cur,rfl,hgb',hgw,hnc,_,KQ,htake⟩⟩:=hown
   ·omega
   rw[Nat.zero_add] at hnc htake hrun;obtain⟨o1,o2⟩:=KO (nm:=s.c) (el:=el) (fr:=(0,0)) (w':=w') Fz hgw KQ (Nat.le_refl _) hnc htake (by simpa using hLn) hnl;refine⟨_,_,w',o2,Post.anew hS (fun _ _ h _=>h) hgr.size ⟨hgr.os,hgr.tape,hgr.output⟩ (Array.getElem?_eq_some_iff.1 hgw).1 (.inl hgb') (fun k hk _=>hgr.block k hk (by simp[Value.ownBlock])) o1,fun o ho=>.inl (jE a w w' o _ ho ?_)⟩;rw[Cu,wB];exact hrun
  | some xa =>
   simp only[Cf] at h1;rw[yJ,aN,aN] at h1;obtain⟨hsp,hk,h3,h9⟩:=h1;clear h1;have hk':=Nat.eq_of_beq_eq_true hk;subst hk';have h3':3≤xa.block:=by rw[ed] at h3;simpa using h3
   cases hoff:xa.off with
   | succ q=>rw[hoff,Cc] at h9;cases h9
   | zero =>
    rw[hoff,Cb,bV] at h9;split at h9
    ·cases h9
    obtain⟨old,hold,h8⟩:=aj.1 h9;clear h9;simp only[jZ,oP] at h8;cases h8;rw[show Nat.mul n i.size=n * i.size from rfl] at hold;obtain⟨xa',cx,Cu,hsx⟩:=pX hxe;rcases hsx with⟨hq,_⟩ | ⟨_,ail,gx,hgx,rfl,afi⟩
    ·exact absurd hsp hq
    rw[hoff] at Cu afi;obtain⟨_,cc,ec,fc,hcc,hcl,hold'⟩:=Fj.1 hold;rw[hoff] at hcl hold';simp only[List.drop_zero] at hcl hold';obtain⟨gx',cur,e2,fr,TY,hwx,hnx,afj,hlex,hLx⟩:=hS.rel.obj _ _ hcc;rw[hgx] at TY;cases TY;have KN:=afj h3';subst KN;have afl:n * i.size≤cc.size:=by simpa using hcl
    have hLo:L (V1 φ) old (cur.toList.take (n * i.size)):=by
     rw[hold'];have:=hLx.take (n * i.size);rw[List.take_take,Nat.min_eq_left afl] at this;exact this
    have TZ:old.length=n * i.size:=by rw[hold'];simp;omega
    have KR:L (V1 φ) (old++new) (cur.toList.take (n * i.size)++new'):=hLo.app hLn;have KS:(old++new).length=(n+(m+1)) * i.size:=by simp only[List.length_append,TZ,hnl];rw[← Nat.add_mul]
    have afm:live s.h xa.block:=⟨_,hcc,trivial⟩;have hh:∀ y o,setH s.h xa.block dead y=some o→iZ o→s.h y=some o:=by
     intro y o hy hi';rw[iC] at hy;split at hy
     ·cases hy;exact hi'.elim
     ·exact hy
    have afn:¬ live (setH s.h xa.block dead) xa.block:=by
     rintro⟨o,hy,hi'⟩;rw[iC,if_pos rfl] at hy;cases hy;exact hi'
    have hxl:xa.block<s.c:=by
     rcases Nat.lt_or_ge xa.block s.c with h | h
     ·exact h
     ·have:=hS.fr _ h;rw[hgx] at this;cases this
    have afo:∀ j u,(cur.toList.take (n * i.size))[j]?=some u→w.cell? ((⟨gx.b,0,none⟩:Addr).add j)=some u:=by
     intro j u hj;have hadd:(⟨gx.b,0,none⟩:Addr).add j=⟨gx.b,j,none⟩:=by unfold Addr.add;split<;>simp_all
     rw[hadd];rw[List.getElem?_take] at hj;split at hj
     ·simp[World.cell?,hwx];simpa using hj
     ·cases hj
    by_cases hroom:n+(m+1)≤cx
    ·have hfit:n * i.size+new'.length≤cur.size:=by
      rw[Ct,← Nat.add_mul,hnx];exact Nat.le_trans (Nat.mul_le_mul_right _ hroom) (by omega)
     have hrun:=afc (P:=P) (ty:=0) hd hi w gx.b n cx cur hwx ⟨gb.b,b.off,none⟩ (m+1) cb new' Ct hcell (Fw hLn) hroom hfit;have htake:(cur.toList.take (n * i.size)++new'++cur.toList.drop (n * i.size+new'.length)).toArray.toList.take ((n+(m+1)) * i.size)=cur.toList.take (n * i.size)++new':=by
      have e1:(cur.toList.take (n * i.size)++new').length=(n+(m+1)) * i.size:=by rw[← KR.length,KS]
      simp only;rw[← e1,List.take_append_of_le_length (Nat.le_refl _),List.take_length]
     have hsize:(cur.toList.take (n * i.size)++new'++cur.toList.drop (n * i.size+new'.length)).toArray.size=gx.n:=by simp;omega
     obtain⟨o1,o2⟩:=KO (nm:=s.c) (el:=el) (fr:=(0,0)) (w':=w.setRow gx.b _) Fz (setRow_heap w gx.b cur _ e2 (0,0) hwx) hsize (by omega) hroom htake KR KS;refine⟨_,_,_,o2,Post.anew hS hh (by simp) (TU _ _ _) (by simpa using hS.rel.bnd _ _ hgx) (.inr ⟨xa.block,gx,h3',afm,hgx,rfl,afn⟩) (fun k _ hk=>setRow_other _ _ _ _ hk) o1,fun o ho=>.inl (jE a w _ o _ ho ?_)⟩;rw[Cu,wB];exact hrun
    ·obtain⟨v',w',hrun,hown,hgr⟩:=run_append_arg_grows (P:=P) w t 0 el i zs i.size i.bytes hd hi hz rfl rfl hzs' hpos' ⟨gx.b,0,none⟩ n cx (cur.toList.take (n * i.size)) (by rw[← hLo.length,TZ]) afo ⟨gb.b,b.off,none⟩ (m+1) cb new' Ct hcell (by omega) h63 hbytes
     obtain⟨_,⟨_,hz0⟩ | ⟨g,cap,Jn,rfl,hgb',hgw,hnc,_,KQ,htake⟩⟩:=hown
     ·omega
     obtain⟨o1,o2⟩:=KO (nm:=s.c) (el:=el) (fr:=(0,0)) (w':=w') Fz hgw KQ (Nat.le_refl _) hnc htake KR KS;refine⟨_,_,w',o2,Post.anew hS hh hgr.size ⟨hgr.os,hgr.tape,hgr.output⟩ (Array.getElem?_eq_some_iff.1 hgw).1 (.inl hgb') (fun k hk _=>hgr.block k hk (by simp)) o1,fun o ho=>.inl (jE a w w' o _ ho ?_)⟩;rw[Cu,wB];exact hrun
end Xe
namespace Xe
variable {P:Program}
theorem wC {op:Op}{f:F}(h:comp P op=some f) :
  (cls op=0∧gX P op f)∨(cls op=1∧yQ P op f)∨(cls op=2∧(Cs P op f∨(∃ c g,op=.call c∧c.callee=.value g∧f=Ti g c.args.toList)∨(∃ c g,op=.defer c∧c.callee=.value g∧f=Tj g c.args.toList))):=by
 unfold comp at h;split at h;case h_1=>cases h;exact .inl ⟨rfl,aex _⟩
 case h_2=>cases h;exact .inl ⟨rfl,aey _⟩
 case h_3=>cases h;exact .inl ⟨rfl,aez _ _ _⟩
 case h_4 =>
  obtain⟨d,hd,h⟩:=aj.1 h;split at h
  ·rename_i ht
   obtain⟨n,hn,h⟩:=aj.1 h;cases h;exact .inl ⟨rfl,aeC _ ht hn⟩
  ·rename_i ht
   cases h;exact .inl ⟨rfl,aeB _ ht (by unfold und at hd;simp[hd])⟩
 case h_5=>cases h;exact .inl ⟨rfl,aeA _⟩
 case h_6=>cases h;exact .inl ⟨rfl,aeJ _ _⟩
 case h_7=>cases h;exact .inl ⟨rfl,aeE _⟩
 case h_8 =>
  obtain⟨d,hd,h⟩:=aj.1 h;split at h
  ·rename_i k hk;cases h;exact .inl ⟨rfl,aeK _ hd hk⟩
  ·cases h
 case h_9=>cases h;exact .inl ⟨rfl,aeL _ _ _⟩
 case h_10=>exact .inl ⟨rfl,aeU h⟩
 case h_11=>exact .inl ⟨rfl,aeD h⟩
 case h_12=>exact .inl ⟨rfl,aeM h⟩
 case h_13=>exact .inl ⟨rfl,aeO h⟩
 case h_14=>exact .inl ⟨rfl,aeP h⟩
 case h_15=>exact .inl ⟨rfl,aeV h⟩
 case h_16=>cases h;exact .inl ⟨rfl,aeF _ _⟩
 case h_17=>exact .inl ⟨rfl,aeR h⟩
 case h_18 c =>
  unfold Tm at h;split at h
  ·rename_i g hg
   cases h;exact .inr (.inr ⟨by simp[cls,hg],.inr (.inl ⟨c,g,rfl,hg,rfl⟩)⟩)
  ·rename_i b hb
   cases b;case len=>exact .inl ⟨by simp[cls,hb],aeX hb h⟩
   case append=>exact .inr (.inr ⟨by simp[cls,hb],.inl (afd hb h)⟩)
   case delete=>exact .inr (.inr ⟨by simp[cls,hb],.inl (afa hb h)⟩)
   all_goals (unfold sU at h;cases h)
  ·cases h
 case h_19 =>
  obtain⟨z,hz,h⟩:=aj.1 h;rw[aN] at h;obtain⟨hok,h⟩:=h;cases h;exact .inr (.inl ⟨rfl,aeZ hz hok⟩)
 case h_20=>cases h;exact .inr (.inl ⟨rfl,ae0 _ _⟩)
 case h_21=>exact .inr (.inl ⟨rfl,ae2 h⟩)
 case h_22=>cases h;exact .inr (.inl ⟨rfl,ae1 _⟩)
 case h_23=>exact .inr (.inl ⟨rfl,ae3 h⟩)
 case h_24 =>
  obtain⟨n,hn,h⟩:=aj.1 h;cases h;exact .inr (.inr ⟨rfl,.inl (ae6 _ _ hn)⟩)
 case h_25 =>
  split at h
  ·rename_i kt el hd
   obtain⟨ks,hks,h⟩:=aj.1 h;cases h;exact .inr (.inr ⟨rfl,.inl (TV _ _ _ hd hks _ (.inl rfl))⟩)
  ·cases h
 case h_26 =>
  split at h
  ·rename_i kt el hd
   obtain⟨ks,hks,h⟩:=aj.1 h;cases h;exact .inr (.inr ⟨rfl,.inl (TV _ _ _ hd hks _ (.inr rfl))⟩)
  ·cases h
 case h_27 c =>
  split at h
  ·rename_i g hg
   cases h;exact .inr (.inr ⟨rfl,.inr (.inr ⟨c,g,rfl,hg,rfl⟩)⟩)
  ·cases h
 case h_28=>cases h
def jF (P:Program):Prop:=∀ (f:Nat) (fn:Func),P.funcs[f]?=some fn→(fn.name == "runtime.NumGoroutine")=false
def KT (P:Program)(f:FuncId):Prop:=∃ fn c,P.funcs[f]?=some fn∧fn.body=some c
theorem FB (hN:jF P){f:FuncId}(hb:KT P f)(args:Array Value)(w:World):(callFunc f args).run P w=.ok (.enter f args) w:=by
 obtain⟨fn,c,hf,hc⟩:=hb;have:=hN f fn hf;simp[callFunc,hf,hc];simpa using this
def KU (P:Program)(f:FuncId)(args:List Value)(s:S)(v:Value)(s':S):Prop:=s'.ds=s.ds∧KT P f ∧
 ∀ (φ:Ph) (w:World) (args':Array Value),L (V φ) args args'.toList→dK φ s w→Calls P f args' w fun e w'=>∃ φ' v',e=.returned v'∧V φ' v v'∧Post φ s w φ' s' w'
def iP (P:Program)(call:Cl):Prop:=∀ f args s v s',call f args s=some (v,s')→KU P f args s v s'
def KV (P:Program)(call:Cl):Prop:=∀ f args s v s',call f args s=some (v,s')→s'.ds=s.ds∧KT P f ∧
 ∀ (φ:Ph) (w:World) (args':Array Value) (u:FrameMode),L (V φ) args args'.toList→dK φ s w→CallsD P f args' u w fun e u' w'=>u'=u∧∃ φ' v',e=.returned v'∧V φ' v v'∧Post φ s w φ' s' w'
def DR (φ:Ph)(d:FuncId × List Value)(d':Deferred):Prop:=∃ cap,d'.target=.fn (.func d.1) cap∧L (V φ) d.2 (d'.args++cap).toList
theorem DR.mono {φ φ':Ph}(h:Sub φ φ'){d:FuncId × List Value}{d':Deferred}(r:DR φ d d'):DR φ' d d':=r.elim fun cap hc=>⟨cap,hc.1,hc.2.mono fun _ _=>V.mono h⟩
theorem afp {v:Value}{args:List Value}{g:FuncId}{as':List Value}(h:callee v args=some (g,as')):∃ first cap,v=.func (.func g) first cap∧as'=first.toList++(args++cap.toList):=by
 unfold callee at h;obtain⟨fn,first,cap,rfl,h⟩:=aep.1 h;cases fn with
 | func g' =>
  have h':some (g',aL first++(args++aL cap))=some (g,as'):=h;cases h';rw[bL,bL];exact⟨first,cap,rfl,rfl⟩
 | method _=>cases h
 | methodOf _ _=>cases h
 | via _ _ _ _=>cases h
 | yield _=>cases h
theorem T9 {φ:Ph}{l l':List Value}(h:L (V0 φ) l l'):L (V φ) l l':=h.mono fun _ _=>V.dX
theorem FD {φ:Ph}{e:En}{a:Act}{c:Call}{g:Operand}(hc:c.callee=.value g){f:FuncId}{as':List Value}(hE:∀ x ∈ c.operands,V φ (ev e x) (a.eval x))
  (h:callee (ev e g) (evs e c.args.toList)=some (f,as')) (ty:TypeId):∃ cap' lD,resolve a.eval c ty=pure { target:=.fn (.func f) cap',args:=lD }∧L (V φ) as' (lD++cap').toList:=by
 obtain⟨first,cap,hv,rfl⟩:=afp h;have hg:=hE g (by simp[Call.operands,hc]);rw[hv] at hg;obtain⟨first',cap',hg',hf,hcap⟩:=aet hg;refine⟨cap',first'++c.args.map a.eval,?_,?_⟩
 ·obtain⟨cal,args,ats⟩:=c
  simp only at hc;subst hc;simp only[resolve,hg',Deferred.ofValue]
 ·simp only[Array.toList_append,Array.toList_map,List.append_assoc]
  refine (T9 hf).app (L.app ?_ (T9 hcap));rw[Cn];exact yO fun x hx=>hE x (by simp[Call.operands,hc];exact .inr (by simpa using hx))
end Xe
namespace Xe
variable {P:Program}
structure eX (φ:Ph) (nt:Nat) (e:En) (s:S) (a:Act) (w:World):Prop where
 env:kI φ nt e a
 stt:dK φ s w
 je:L (DR φ) s.ds a.defers
structure fC (φ:Ph) (s:S) (w:World) (φ':Ph) (s':S) (w':World):Prop where
 ext:Ext φ s.h w φ' w'
 le:s.c≤s'.c
 new:∀ x,φ x=none→φ' x≠none→s.c≤x
 dF:∀ x,live s'.h x→live s.h x∨φ x=none
theorem Post.grew {φ φ':Ph}{s s':S}{w w':World}(h:Post φ s w φ' s' w'):fC φ s w φ' s' w':=⟨h.ext,h.le,h.new,h.dF⟩
theorem fC.post {φ φ':Ph}{s s':S}{w w':World}(h:fC φ s w φ' s' w')(hs:dK φ' s' w'):Post φ s w φ' s' w':=⟨hs,h.ext,h.le,h.new,h.dF⟩
theorem fC.refl (φ:Ph)(s:S)(w:World):fC φ s w φ s w:=⟨Ext.refl φ s.h w,Nat.le_refl _,fun _ h0 h1=>(h1 h0).elim,fun _ hx=>.inl hx⟩
theorem fC.trans {φ φ₁ φ₂:Ph}{s s₁ s₂:S}{w w₁ w₂:World}(h0:dK φ s w)(h1:dK φ₁ s₁ w₁)(a:fC φ s w φ₁ s₁ w₁)(b:fC φ₁ s₁ w₁ φ₂ s₂ w₂):fC φ s w φ₂ s₂ w₂ where
 ext:=a.ext.trans b.ext a.dF (fun _ hx=>h0.rel.has hx) (fun _ hx=>h1.rel.has hx)
 le:=Nat.le_trans a.le b.le
 new x hx hn:=by
  by_cases h1:φ₁ x=none
  ·exact Nat.le_trans a.le (b.new x h1 hn)
  ·exact a.new x hx h1
 dF x hx:=by
  rcases b.dF x hx with h1 | h1
  ·exact a.dF x h1
  ·cases h2:φ x with
   | none=>exact .inr rfl
   | some g=>rw[a.ext.sub x g h2] at h1;cases h1
theorem Ua {φ:Ph}{h:Hp}{w:World}{nm n:Nat}{ob o':Obj}(r:Rel φ h w)(h0:φ nm=none)(hor:∀ w':World,w'.heap[w.heap.size]?=some o'→OR (upd φ nm ⟨w.heap.size,n⟩) w' nm ob) :
  Rel (upd φ nm ⟨w.heap.size,n⟩) (setH h nm ob) (w.alloc o'):=by
 have hsub:=yP h0 ⟨w.heap.size,n⟩;have hnew:(w.alloc o').heap[w.heap.size]?=some o':=heap_alloc_new w o';have hold:∀ b,b<w.heap.size→(w.alloc o').heap[b]?=w.heap[b]?:=fun b hb=>by
  show (w.heap.push o')[b]?=_
  rw[Array.getElem?_push_lt hb];simp[hb]
 have hsz:(w.alloc o').heap.size=w.heap.size+1:=by show (w.heap.push o').size=_;simp
 have p9:∀ y gy,y≠nm→upd φ nm ⟨w.heap.size,n⟩ y=some gy→φ y=some gy:=by
  intro y gy hy hg;unfold upd at hg;rwa [if_neg hy] at hg
 have hl:∀ y,y≠nm→live (setH h nm ob) y→live h y:=by
  rintro y hy ⟨o,ho,hi⟩;rw[iC,if_neg hy] at ho;exact⟨o,ho,hi⟩
 refine⟨?_,?_,?_,?_⟩
 ·intro y o hy
  rw[iC] at hy;split at hy
  ·rename_i e;subst e;cases hy;exact hor _ hnew
  ·exact (r.obj y o hy).mono hsub fun g hg=>hold g.b (r.bnd y g hg)
 ·intro y z g1 g2 hy hz h1 h2 e
  by_cases hy':y=nm<;>by_cases hz':z=nm
  ·rw[hy',hz']
  ·subst hy'
   rw[l9] at h1;cases h1;have:=r.bnd z g2 (p9 z g2 hz' h2);simp only at e;omega
  ·subst hz'
   rw[l9] at h2;cases h2;have:=r.bnd y g1 (p9 y g1 hy' h1);simp only at e;omega
  ·exact r.inj y z g1 g2 (hl y hy' hy) (hl z hz' hz) (p9 y g1 hy' h1) (p9 z g2 hz' h2) e
 ·intro y g hy
  rw[hsz];by_cases hy':y=nm
  ·subst hy';rw[l9] at hy;cases hy;exact Nat.lt_succ_self _
  ·exact Nat.lt_succ_of_lt (r.bnd y g (p9 y g hy' hy))
 ·intro y hy
  obtain⟨m,hm⟩:=r.l8 y hy;exact⟨m,hsub _ _ hm⟩
theorem afq (hN:jF P){call:Cl}(hC:iP P call){o:Oper}{f:F}(hf:comp P o.op=some f)(hok:mJ o.op=true){nt:Nat}(hd:nP nt o.dst=true){e:En}{s s':S}{nm:Nat}{v:Value}
  (h:f call e s nm=some (v,s')) {φ:Ph} {a:Act} {w:World} (hA:eX φ nt e s a w) (hnm:φ nm=none) {T:Nat} (hT:T≤s.c) (hlt:nm<T) (hb:∀ x,nm≤x→x<T→φ x=none) (K:Act→World→Prop) (Q:Exit→Act→World→Prop)
  (hK:∀ φ' a' w',eX φ' nt (put e o.dst v) s' a' w'→fC φ ⟨nm,s.h,s.ds⟩ w φ' s' w'→(∀ x,nm<x→x<T→φ' x=none)→s.c≤s'.c→K a' w'):o.wp P a w K Q:=by
 have hE:pY φ e a o.op:=Kz hok hA.env hA.stt.rel.l8;rcases wC hf with⟨_,hR⟩ | ⟨_,hAl⟩ | ⟨_,wD | ⟨c,g,hop,wE,rfl⟩ | ⟨c,g,hop,wE,rfl⟩⟩
 ·obtain⟨rfl,hR⟩:=hR call e s nm v s' h
  obtain⟨v',hv,hrun⟩:=hR φ a w hE hA.stt.rel;unfold Oper.wp;rw[hrun o rfl];exact hK φ _ w ⟨hA.env.put hd hv,hA.stt,by cases o.dst<;>exact hA.je⟩ ⟨Ext.refl φ _ w,Nat.le_of_lt (Nat.lt_of_lt_of_le hlt hT),fun _ h0 h1=>(h1 h0).elim,fun _ hx=>.inl hx⟩ (fun x h1 h2=>hb x (Nat.le_of_lt h1) h2) (Nat.le_refl _)
 ·obtain⟨ob,_,hall,Cv⟩:=hAl call e s nm v s' h
  have hs':s'=⟨s.c,setH s.h nm ob,s.ds⟩:=by have:=hall call s;rw[h] at this;cases this;rfl
  subst hs';obtain⟨o',n,v',hrun,hv,hor⟩:=Cv φ a w hE hnm;unfold Oper.wp;rw[hrun o rfl];have hsub:=yP hnm ⟨w.heap.size,n⟩;have hrel:=Ua (o':=o') hA.stt.rel hnm hor;refine hK (upd φ nm ⟨w.heap.size,n⟩) _ (w.alloc o') ⟨(hA.env.mono hsub).put hd hv,⟨hrel,?_⟩,?_⟩ ⟨⟨hsub,?_,?_,?_,⟨rfl,rfl,rfl⟩⟩,Nat.le_of_lt (Nat.lt_of_lt_of_le hlt hT),?_,?_⟩ ?_ (Nat.le_refl _)
  ·intro x hx
   have hx':s.c≤x:=hx;unfold upd;rw[if_neg (by omega)];exact hA.stt.fr x hx'
  ·have:L (DR (upd φ nm ⟨w.heap.size,n⟩)) s.ds a.defers:=hA.je.mono fun _ _=>DR.mono hsub
   cases o.dst<;>exact this
  ·show w.heap.size≤(w.heap.push o').size
   simp
  ·intro x g h1 h2
   unfold upd at h2;split at h2
   ·cases h2;exact .inl (Nat.le_refl _)
   ·rw[h1] at h2;cases h2
  ·intro b hb' _
   show (w.heap.push o')[b]?=_
   rw[Array.getElem?_push_lt hb'];simp[hb']
  ·intro x h1 h2
   unfold upd at h2;split at h2
   ·rename_i e1;subst e1;exact Nat.le_refl _
   ·exact absurd h1 h2
  ·rintro x ⟨o1,ho0,hi⟩
   have ho1:setH s.h nm ob x=some o1:=ho0;rw[iC] at ho1;split at ho1
   ·rename_i e1;subst e1;exact .inr hnm
   ·exact .inl ⟨o1,ho1,hi⟩
  ·intro x h1 h2
   unfold upd;rw[if_neg (by omega)];exact hb x (Nat.le_of_lt h1) h2
 ·obtain⟨hds,wD⟩:=wD call e s nm v s' h
  obtain⟨φ',v',w',hv,hP,hrun⟩:=wD φ a w hE hA.stt;have key:K (a.put o.dst v') w':=by
   refine hK φ' _ w' ⟨(hA.env.mono hP.ext.sub).put hd hv,hP.stt,?_⟩ ⟨hP.ext,Nat.le_trans (Nat.le_of_lt (Nat.lt_of_lt_of_le hlt hT)) hP.le,fun x h0 h1=>Nat.le_trans (Nat.le_of_lt (Nat.lt_of_lt_of_le hlt hT)) (hP.new x h0 h1),hP.dF⟩ ?_ hP.le
   ·have:L (DR φ') s'.ds a.defers:=by rw[hds];exact hA.je.mono fun _ _=>DR.mono hP.ext.sub
    cases o.dst<;>exact this
   ·intro x h1 h2
    by_cases h3:φ' x=none
    ·exact h3
    ·have:=hP.new x (hb x (Nat.le_of_lt h1) h2) h3;omega
  unfold Oper.wp;rcases hrun o rfl with hr | ⟨rfl,hr⟩<;>rw[hr]<;>exact key
 ·obtain⟨⟨g',as'⟩,hcl,h⟩:=aj.1 h
  rw[gW] at h;obtain⟨hds,hbd,hcall⟩:=hC g' as' s v s' h;rw[hop] at hE;obtain⟨cap',lD,hres,hL⟩:=FD wE hE hcl o.type;have jE:(execOp a.eval o).run P w=.ok (.enter g' (lD++cap')) w:=by
   simp only[execOp,hop,hres];simp[invoke,FB hN hbd]
  unfold Oper.wp;rw[jE];refine Calls.mono (hcall φ w (lD++cap') hL hA.stt) ?_;rintro e1 w' ⟨φ',v',rfl,hv,hP⟩;refine hK φ' _ w' ⟨(hA.env.mono hP.ext.sub).put hd hv,hP.stt,?_⟩ ⟨hP.ext,Nat.le_trans (Nat.le_of_lt (Nat.lt_of_lt_of_le hlt hT)) hP.le,fun x h0 h1=>Nat.le_trans (Nat.le_of_lt (Nat.lt_of_lt_of_le hlt hT)) (hP.new x h0 h1),hP.dF⟩ ?_ hP.le
  ·have:L (DR φ') s'.ds a.defers:=by rw[hds];exact hA.je.mono fun _ _=>DR.mono hP.ext.sub
   cases o.dst<;>exact this
  ·intro x h1 h2
   by_cases h3:φ' x=none
   ·exact h3
   ·have:=hP.new x (hb x (Nat.le_of_lt h1) h2) h3;omega
 ·obtain⟨⟨g',as'⟩,hcl,h⟩:=aj.1 h
  rw[jZ] at h;cases h;rw[hop] at hE;obtain⟨cap',lD,hres,hL⟩:=FD (c:=c) wE hE hcl o.type;have jE:(execOp a.eval o).run P w=.ok (.defer { target:=.fn (.func g') cap',args:=lD }) w:=by
   simp only[execOp,hop,hres];rfl
  unfold Oper.wp;rw[jE];refine hK φ _ w ⟨?_,⟨hA.stt.rel,hA.stt.fr⟩,?_⟩ ⟨Ext.refl φ _ w,Nat.le_of_lt (Nat.lt_of_lt_of_le hlt hT),fun _ h0 h1=>(h1 h0).elim,fun _ hx=>.inl hx⟩ (fun x h1 h2=>hb x (Nat.le_of_lt h1) h2) (Nat.le_refl _)
  ·have hE0:kI φ nt e { a with defers:={ target:=.fn (.func g') cap',args:=lD } :: a.defers }:=⟨hA.env.size,hA.env.val⟩
   exact hE0.put hd (V.undef φ)
  ·have:L (DR φ) ((g',as') :: s.ds) ({ target:=.fn (.func g') cap',args:=lD } :: a.defers):=⟨⟨cap',rfl,hL⟩,hA.je⟩
   cases o.dst<;>exact this
end Xe
end Go.Proofs.YtfcpglhpolpdcaaGreatDoor

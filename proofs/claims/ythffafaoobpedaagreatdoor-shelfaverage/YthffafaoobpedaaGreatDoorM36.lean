/- Operations that change what is there: stores,maps,appends. -/
import Derived.Test.YthffafaoobpedaaGreatDoorM35
import Derived.ArgAppend
namespace Go.Proofs.YthffafaoobpedaaGreatDoor
namespace Xe
variable {P:Program}
def zD (P:Program)(op:Op)(f:F):Prop:=∀ (call:Cl) (e:En) (s:S) (nm:Nat) (v:Value) (s':S),f call e s nm=some (v,s') →
 s'.ds=s.ds∧∀ (φ:Ph) (a:Act) (w:World),oK φ e a op→gB φ s w→∃ φ' v' w',V φ' v v'∧Post φ s w φ' s' w' ∧
  ∀ o:Oper,o.op=op→(execOp a.eval o).run P w=.ok (.value v') w'∨(v'=undef∧(execOp a.eval o).run P w=.ok .skip w')
theorem O8 (w:World)(g:Nat)(cs:Array Value):Oe w (w.setRow g cs):=⟨rfl,rfl,rfl⟩
theorem Post.mod {φ:Ph}{s:S}{w w':World}{x:Nat}{o2:Obj}{g:Gh}(h:gB φ s w)(h3:3≤x)(hx:live s.h x)(hg:φ x=some g)(hsz:w'.heap.size=w.heap.size)(hout:Oe w w')
  (hkeep:∀ b,b≠g.b→w'.heap[b]?=w.heap[b]?) (hor:OR φ w' x o2):Post φ s w φ ⟨s.c,setH s.h x o2,s.ds⟩ w':=by
 have hl:∀ y,live (setH s.h x o2) y→live s.h y:=by
  rintro y ⟨o,hy,hi⟩
  rw [gY] at hy
  split at hy
  ·rename_i e;subst e;exact hx
  ·exact ⟨o,hy,hi⟩
 refine ⟨⟨⟨?_,?_,?_,h.rel.kV⟩,h.fr⟩,⟨Sub.refl φ,by omega,fun y g' h0 h1=>(by rw [h0] at h1;cases h1),?_,hout⟩,Nat.le_refl _,fun y h0 h1=>(h1 h0).elim,fun y hy=>.inl (hl y hy)⟩
 ·intro y o hy0
  have hy:setH s.h x o2 y=some o:=hy0
  rw [gY] at hy
  split at hy
  ·rename_i e
   subst e
   cases hy
   exact hor
  ·rename_i hne
   by_cases hi:iM o
   ·refine (h.rel.obj y o hy).mono (Sub.refl φ) fun g' hg'=>hkeep g'.b fun e=>hne ?_
    exact h.rel.inj y x g' g ⟨o,hy,hi⟩ hx hg' hg e
   ·cases o <;> simp only [iM,not_true_eq_false] at hi <;> exact trivial
 ·exact fun y z g1 g2 hy hz=>h.rel.inj y z g1 g2 (hl y hy) (hl z hz)
 ·intro y g' hy
  show g'.b < w'.heap.size
  rw [hsz];exact h.rel.bnd y g' hy
 ·intro b _ hn
  exact hkeep b fun e=>hn x g h3 hx hg e.symm
theorem aaG {φ:Ph}{v v':Value}(h:V1 φ v v'):v'.oneCell'=true:=by
 rcases h with h | ⟨_,_,_,_,_,_,rfl,_⟩
 ·unfold V0 at h
  split at h
  case h_1=>subst h;rfl
  case h_2=>subst h;rfl
  case h_3=>subst h;rfl
  case h_4=>subst h;rfl
  case h_5=>obtain ⟨_,rfl,_⟩:=h;rfl
  case h_6=>obtain ⟨_,rfl⟩:=h;rfl
  case h_7=>obtain ⟨_,_,rfl,_⟩:=h;rfl
  case h_8=>subst h;rfl
  case h_9=>obtain ⟨_,_,rfl⟩:=h;rfl
  case h_10=>subst h;rfl
  case h_11=>exact h.elim
 ·rfl
theorem Cj {φ:Ph}:∀ {l l':List Value},L (V1 φ) l l'→∀ v ∈ l',v.oneCell'=true
 | [],[],_,_,h=>by cases h
 | a :: l,b :: l',h,v,hv=>by
  rcases List.mem_cons.1 hv with rfl | hv
  ·exact aaG h.1
  ·exact Cj h.2 v hv
 | [],_ :: _,h,_,_=>h.elim
 | _ :: _,[],h,_,_=>h.elim
theorem Hm {s s':S}{a:Addr}{vs:List Value}(h:yX s a vs=some s') :
  a.spot=none∧3≤a.block∧∃ c e f c',s.h a.block=some (.cells c e f)∧ql a.off c.toList vs=some c'∧s'=⟨s.c,setH s.h a.block (.cells c'.toArray e f),s.ds⟩:=by
 unfold yX at h
 rw [zt,wM,jE,aN] at h
 obtain ⟨h0,h1,h⟩:=h
 obtain ⟨ob,gZ,h⟩:=ai.1 h
 cases ob <;> simp only [yV] at h <;> try cases h
 rename_i c e f
 obtain ⟨c',hc,h⟩:=ai.1 h
 rw [bF] at hc
 cases h
 exact ⟨h0,by rw [dL] at h1;simpa using h1,c,e,f,c',gZ,hc,rfl⟩
theorem OR.wrote {φ:Ph}{w w':World}{x:Nat}{c:Array Value}{e e2:TypeId}{f2:Nat × Nat}{vs vs':List Value}{off:Nat}{g:Gh}{cur:Array Value}{e':TypeId}(hg:φ x=some g)
  (hw:w.heap[g.b]?=some (.cells cur e' (0,0))) (hn:cur.size=g.n) (hle:c.size≤cur.size) (hL:L (V1 φ) c.toList (cur.toList.take c.size)) (hv:L (V1 φ) vs vs') (hoff:off+vs.length≤c.size)
  (hw':w'.heap[g.b]?=some (.cells (cur.toList.take off ++ vs' ++ cur.toList.drop (off+vs'.length)).toArray e2 (0,0))) :
  OR φ w' x (.cells (c.toList.take off ++ vs ++ c.toList.drop (off+vs.length)).toArray e f2):=by
 have _:=hw
 have hvl:=hv.length
 refine ⟨g,_,e2,(0,0),hg,hw',?_,fun _=>rfl,?_,?_⟩
 ·simp;omega
 ·simp;omega
 ·have e1:(c.toList.take off ++ vs ++ c.toList.drop (off+vs.length)).toArray.size=c.size:=by simp;omega
  rw [e1]
  have key:((cur.toList.take off ++ vs' ++ cur.toList.drop (off+vs'.length))).take c.size=(cur.toList.take c.size).take off ++ vs' ++ (cur.toList.take c.size).drop (off+vs'.length):=by
   apply List.ext_getElem?
   intro i
   rcases Nat.lt_or_ge i c.size with hi | hi
   ·rw [List.getElem?_take_of_lt hi]
    simp only [List.getElem?_append,List.length_append,List.length_take,List.getElem?_take,List.getElem?_drop,Array.length_toList]
    split <;> (try split) <;> (try split) <;> (try split) <;> (try split) <;> first | rfl | omega | (congr 1;omega) | skip
    all_goals first | rfl | omega | (congr 1;omega) | skip
   ·rw [List.getElem?_eq_none (by simp;omega),List.getElem?_eq_none (by simp;omega)]
  show L (V1 φ) _ (List.take c.size (cur.toList.take off ++ vs' ++ cur.toList.drop (off+vs'.length)))
  rw [key]
  exact hL.over hv off
theorem aaH {t:TypeId}{n:Nat}(x y:Operand)(hn:dz P t=some n):zD P (.store t x y) (kT n x y):=by
 intro call e s nm v s' h
 obtain ⟨b,hb,h⟩:=ai.1 h
 rw [wP] at hb
 rw [aN,aN] at h
 obtain ⟨ht,hlen,h⟩:=h
 obtain ⟨s1,h1,h⟩:=ai.1 h
 cases h
 obtain ⟨hsp,h3,c,el,f,c',hc,hov,rfl⟩:=Hm h1
 obtain ⟨_,hle,rfl⟩:=(zA _ _ _ _).1 hov
 refine ⟨rfl,fun φ a w hE hS=>?_⟩
 have hx:=hE x (by simp [Op.operands])
 have hy:=hE y (by simp [Op.operands])
 rw [hb] at hx
 obtain ⟨a',ha,_,g,hg,rfl⟩:=wQ hx
 have hcv:=uB (wR hy ht)
 obtain ⟨g',cur,e',fr,hg',hw,hn',hfr,qB,hL⟩:=hS.rel.obj _ _ hc
 rw [hg] at hg';cases hg'
 have Ho:=hfr h3
 subst Ho
 have hvl:=hcv.length
 have hfit:b.off+0+(a.eval y).cells.toList.length≤cur.size:=by
  simp at hle hvl ⊢;omega
 have hst:=run_storeCells_at P g.b b.off e' (a.eval y).cells.toList 0 cur w hw hfit (Cj hcv)
 simp only [Nat.add_zero] at hst
 refine ⟨φ,undef,_,V.undef φ,Post.mod hS h3 ⟨_,hc,trivial⟩ hg (setRow_size _ _ _) (O8 _ _ _) (fun k hk=>setRow_other _ _ _ _ hk) (OR.wrote hg hw hn' qB hL hcv (by simpa using hle) (setRow_heap w g.b cur _ e' (0,0) hw)),fun o ho=>.inr ⟨rfl,?_⟩⟩
 have hlen':(a.eval y).cells.size=n:=by
  have:=Nat.eq_of_beq_eq_true hlen
  simp at hvl;omega
 simp only [execOp,ho,ha]
 simp [Instr.storeAt,Instr.sureAddr,storeVar,hlen',run_sizeOf hn,hst]
end Xe
namespace Xe
variable {P:Program}
theorem sameBits_self {k:Value}(h:(∃ s,k=.string s)∨∃ q n,k=.int q n)(m:Nat):Instr.sameBits m k k=true:=by
 rcases h with ⟨s,rfl⟩ | ⟨q,n,rfl⟩
 ·unfold Instr.sameBits;simp [O3]
 ·unfold Instr.sameBits;simp
theorem Ck {w:World}{b:Nat}{es:Array MapEntry}{k:Nat}(hw:w.heap[b]?=some (.map es k))(o:Obj):(setObj b o).run P w=.ok () { w with heap:=w.heap.setIfInBounds b o }:=by
 simp [setObj,Sem.run,hw]
theorem O9 {t kt el:TypeId}{ks:Bool}(m k x:Operand)(hd:und P t=some (.map kt el))(hks:uj P kt=some ks)(op:Op)(hop:op=.mapUpdate t m k x∨op=.insert t m k x):zD P op (BM ks m k x):=by
 obtain ⟨d,hkd,hD⟩:=Ha hks
 intro call e s nm v s' h
 rw [BM,aN,aN] at h
 obtain ⟨hn,hfit,h⟩:=h
 obtain ⟨r,hr,h⟩:=ai.1 h
 rw [OL] at hr
 rw [aN,dL] at h
 obtain ⟨h3,h⟩:=h
 have h3:3≤r:=by simpa using h3
 obtain ⟨⟨es,cl⟩,hm,h⟩:=ai.1 h
 rw [gD] at h
 obtain ⟨f,hf,h⟩:=ai.1 h
 obtain ⟨s1,h1,h⟩:=ai.1 h
 cases h
 obtain ⟨es0,cl0,gZ,he⟩:=GN.1 hm
 cases he
 have hops:m ∈ op.operands∧k ∈ op.operands∧x ∈ op.operands:=by rcases hop with rfl | rfl <;> simp [Op.operands]
 have hds:s'.ds=s.ds:=by
  cases f with
  | none=>have h':some (⟨s.c,setH s.h r (.map (es0.toList ++ [(⟨ev e k,ev e x,cl⟩:MapEntry)]).toArray (cl+1)),s.ds⟩:S)=some s':=h1;cases h';rfl
  | some p =>
   have h':oB (nth es0.toList p.1) (fun en=>some (⟨s.c,setH s.h r (.map (es0.toList.set p.1 (⟨ev e k,ev e x,en.born⟩:MapEntry)).toArray cl),s.ds⟩:S))=some s':=h1
   obtain ⟨en,_,h'⟩:=ai.1 h'
   cases h';rfl
 refine ⟨hds,fun φ a w hE hS=>?_⟩
 have hme:=hE m hops.1
 have hke:=hE k hops.2.1
 have hxe:=hE x hops.2.2
 rw [hr] at hme
 obtain ⟨g,hg,hm'⟩:=GV hme
 obtain ⟨hki,hk0,hkk⟩:=Hd hfit hke
 obtain ⟨g',es',hg',hw,hL⟩:=hS.rel.obj _ _ gZ
 rw [hg] at hg';cases hg'
 have hgo:(getObj g.b).run P w=.ok (.map es' cl) w:=by simp [getObj,Sem.run,hw]
 have hlt:g.b < w.heap.size:=hS.rel.bnd _ _ hg
 have aaJ:(∃ s,ev e k=.string s)∨∃ q n,ev e k=.int q n:=hkk.imp (fun h=>h.2) (fun h=>h.2)
 have iZ:∀ (o:Oper),o.op=op→∀ w':World,(Instr.mapUpdate t (.map (some g.b)) (ev e k) (a.eval x)).run P w=.ok () w'→(execOp a.eval o).run P w=.ok .skip w':=by
  intro o ho w' hrun
  have e1:(execOp a.eval o)=(do Instr.mapUpdate t (.map (some g.b)) (ev e k) (a.eval x);pure .skip):=by
   rcases hop with rfl | rfl <;> simp only [execOp,ho,hm',hki]
  rw [e1]
  simp [hrun]
 rcases zB hD hkk es0.toList es'.toList 0 f hL hf with ⟨rfl,h5⟩ | ⟨j,u,u',en',rfl,h5,h6,_,h8,h9⟩
 ·have h':some (⟨s.c,setH s.h r (.map (es0.toList ++ [(⟨ev e k,ev e x,cl⟩:MapEntry)]).toArray (cl+1)),s.ds⟩:S)=some s':=h1
  cases h'
  refine ⟨φ,undef,{ w with heap:=w.heap.setIfInBounds g.b (.map (es'.push ⟨ev e k,a.eval x,cl⟩) (cl+1)) },V.undef φ,Post.mod hS h3 ⟨_,gZ,trivial⟩ hg (by simp) ⟨rfl,rfl,rfl⟩ (fun b hb=>by simp [Array.getElem?_setIfInBounds_ne (Ne.symm hb)]) ?_,fun o ho=>.inr ⟨rfl,iZ o ho _ ?_⟩⟩
  ·refine ⟨g,es'.push ⟨ev e k,a.eval x,cl⟩,hg,by simp [hlt],?_⟩
   simp only [Array.toList_push]
   exact hL.app ⟨⟨hk0,wR hxe hn,rfl⟩,trivial⟩
  ·simp [Instr.mapUpdate,dA hd,hgo,run_checkKey hkd hD,Instr.findKey,dA hkd,h5,Ck hw]
 ·have h':oB (nth es0.toList j) (fun en=>some (⟨s.c,setH s.h r (.map (es0.toList.set j (⟨ev e k,ev e x,en.born⟩:MapEntry)).toArray cl),s.ds⟩:S))=some s':=h1
  obtain ⟨en,hen,h'⟩:=ai.1 h'
  cases h'
  rw [jY] at hen
  obtain ⟨y,hy,hER⟩:=hL.at hen
  have h8':es'.toList[j]?=some en':=by simpa using h8
  rw [h8'] at hy
  cases hy
  have hkeys:(es'[j]?).map (·.key)=some (ev e k):=by
   have:es'[j]?=some en':=by simpa using h8'
   rw [this];simp [h9]
  have hmod:(es'.modify j fun e0=>{ e0 with key:=ev e k,val:=a.eval x }).toList=es'.toList.set j ⟨ev e k,a.eval x,en'.born⟩:=by
   apply List.ext_getElem?
   intro i
   have hj:es'[j]?=some en':=by simpa using h8'
   rw [Array.getElem?_toList,Array.getElem?_modify,List.getElem?_set]
   split
   ·rename_i e1;subst e1
    have hlt:j < es'.toList.length:=(List.getElem?_eq_some_iff.1 h8').1
    rw [hj];simp at hlt;simp [hlt]
   ·simp
  refine ⟨φ,undef,{ w with heap:=w.heap.setIfInBounds g.b (.map (es'.modify j fun e0=>{ e0 with key:=ev e k,val:=a.eval x }) cl) },V.undef φ,Post.mod hS h3 ⟨_,gZ,trivial⟩ hg (by simp) ⟨rfl,rfl,rfl⟩ (fun b hb=>by simp [Array.getElem?_setIfInBounds_ne (Ne.symm hb)]) ?_,fun o ho=>.inr ⟨rfl,iZ o ho _ ?_⟩⟩
  ·refine ⟨g,es'.modify j fun e0=>{ e0 with key:=ev e k,val:=a.eval x },hg,by simp [hlt],?_⟩
   rw [hmod]
   exact hL.set j ⟨hk0,wR hxe hn,hER.2.2⟩
  ·simp [Instr.mapUpdate,dA hd,hgo,run_checkKey hkd hD,Instr.findKey,dA hkd,h5,Instr.keyThatStays,hkeys,sameBits_self aaJ,Ck hw]
theorem aaL {c:Call}{f:F}(hc:c.callee=.builtin .delete)(h:rq P c .delete=some f):zD P (.call c) f:=by
 unfold rq at h
 simp only at h
 split at h
 case h_2=>cases h
 rename_i x k t ts hargs zC
 split at h
 case h_2=>cases h
 rename_i kt el hd
 obtain ⟨ks,hks,h⟩:=ai.1 h
 cases h
 obtain ⟨d,hkd,hD⟩:=Ha hks
 have hargs':c.args=#[x,k]:=Array.toList_inj.1 (by simpa using hargs)
 have qC:c.argTypes[0]?=some t:=by rw [← Array.getElem?_toList,zC];rfl
 have Cm:x ∈ (Op.call c).operands:=by simp [Op.operands,Call.operands,hc,hargs']
 have aaM:k ∈ (Op.call c).operands:=by simp [Op.operands,Call.operands,hc,hargs']
 intro call e s nm v s' h
 rw [Ox,aN] at h
 obtain ⟨hfit,h⟩:=h
 obtain ⟨r,hr,h⟩:=ai.1 h
 rw [OL] at hr
 rw [aN,dL] at h
 obtain ⟨h3,h⟩:=h
 have h3:3≤r:=by simpa using h3
 obtain ⟨⟨es,cl⟩,hm,h⟩:=ai.1 h
 rw [gD] at h
 obtain ⟨f,hf,h⟩:=ai.1 h
 cases h
 obtain ⟨es0,cl0,gZ,he⟩:=GN.1 hm
 cases he
 refine ⟨by cases f <;> rfl,fun φ a w hE hS=>?_⟩
 have hme:=hE x Cm
 have hke:=hE k aaM
 rw [hr] at hme
 obtain ⟨g,hg,hm'⟩:=GV hme
 obtain ⟨hki,hk0,hkk⟩:=Hd hfit hke
 obtain ⟨g',es',hg',hw,hL⟩:=hS.rel.obj _ _ gZ
 rw [hg] at hg';cases hg'
 have hgo:(getObj g.b).run P w=.ok (.map es' cl) w:=by simp [getObj,Sem.run,hw]
 have hlt:g.b < w.heap.size:=hS.rel.bnd _ _ hg
 have iZ:∀ (o:Oper),o.op=.call c→∀ w':World,(Builtin.delete_ c.argTypes o.type #[.map (some g.b),ev e k]).run P w=.ok (.tuple #[]) w'→(execOp a.eval o).run P w=.ok (.value (.tuple #[])) w':=by
  intro o ho w' hrun
  rw [Hf hc ho,hargs']
  have:((#[x,k]:Array Operand).map a.eval)=#[.map (some g.b),ev e k]:=by simp [hm',hki]
  rw [this]
  show (do pure (.value (← Builtin.delete_ c.argTypes o.type #[.map (some g.b),ev e k])):Sem Next).run P w=_
  simp [hrun]
 rcases zB hD hkk es0.toList es'.toList 0 f hL hf with ⟨rfl,h5⟩ | ⟨j,u,u',en',rfl,h5,h6,_,h8,h9⟩
 ·have hsame:({ w with heap:=w.heap.setIfInBounds g.b (.map es' cl) }:World)=w:=by
   have:w.heap.setIfInBounds g.b (.map es' cl)=w.heap:=by
    apply Array.ext_getElem?
    intro i
    by_cases hi:g.b=i
    ·subst hi;simp [hlt]
     have:=(Array.getElem?_eq_some_iff.1 hw).2
     exact this.symm
    ·simp [Array.getElem?_setIfInBounds_ne hi]
   rw [this]
  refine ⟨φ,.tuple #[],w,.inr ⟨#[],#[],rfl,rfl,trivial⟩,Post.refl hS,fun o ho=>.inl (iZ o ho _ ?_)⟩
  have:=Ck (P:=P) hw (.map es' cl)
  rw [hsame] at this
  simp [Builtin.delete_,qC,dA hd,hgo,run_checkKey hkd hD,Instr.findKey,dA hkd,h5,this]
 ·refine ⟨φ,.tuple #[],{ w with heap:=w.heap.setIfInBounds g.b (.map (es'.eraseIdxIfInBounds j) cl) },.inr ⟨#[],#[],rfl,rfl,trivial⟩,Post.mod hS h3 ⟨_,gZ,trivial⟩ hg (by simp) ⟨rfl,rfl,rfl⟩ (fun b hb=>by simp [Array.getElem?_setIfInBounds_ne (Ne.symm hb)]) ?_,fun o ho=>.inl (iZ o ho _ ?_)⟩
  ·refine ⟨g,es'.eraseIdxIfInBounds j,hg,by simp [hlt],?_⟩
   have:(es'.eraseIdxIfInBounds j).toList=es'.toList.eraseIdx j:=by
    unfold Array.eraseIdxIfInBounds
    split
    ·simp
    ·rw [List.eraseIdx_of_length_le (by simpa using by omega)]
   rw [this]
   exact hL.erase j
  ·simp [Builtin.delete_,qC,dA hd,hgo,run_checkKey hkd hD,Instr.findKey,dA hkd,h5,Ck hw]
end Xe
namespace Xe
variable {P:Program}
theorem Post.anew {φ:Ph}{s:S}{w w':World}{h':Hp}{o2:Obj}{g:Gh}(h:gB φ s w)(hh:∀ y o,h' y=some o→iM o→s.h y=some o)
  (hsz:w.heap.size≤w'.heap.size) (hout:Oe w w') (hg:g.b < w'.heap.size)
  (hnew:w.heap.size≤g.b∨∃ y gy,3≤y∧live s.h y∧φ y=some gy∧gy.b=g.b∧¬ live h' y)
  (hkeep:∀ b,b < w.heap.size→b≠g.b→w'.heap[b]?=w.heap[b]?) (hor:OR (upd φ s.c g) w' s.c o2) :
  Post φ s w (upd φ s.c g) ⟨s.c+1,setH h' s.c o2,s.ds⟩ w':=by
 have h0:φ s.c=none:=h.fr s.c (Nat.le_refl _)
 have hsub:=wT h0 g
 have hl:∀ y,live (setH h' s.c o2) y→y=s.c∨live h' y:=by
  rintro y ⟨o,hy,hi⟩
  rw [gY] at hy
  split at hy
  ·rename_i e;exact .inl e
  ·exact .inr ⟨o,hy,hi⟩
 have hl':∀ y,live h' y→live s.h y:=fun y ⟨o,hy,hi⟩=>⟨o,hh y o hy hi,hi⟩
 have hne:∀ y gy,live h' y→φ y=some gy→gy.b≠g.b:=by
  intro y gy hy iN e
  rcases hnew with h1 | ⟨z,gz,_,hz,hgz,he,hd⟩
  ·have:=h.rel.bnd y gy iN;omega
  ·exact hd (h.rel.inj y z gy gz (hl' y hy) hz iN hgz (e.trans he.symm) ▸ hy)
 have oM:∀ y gy,live h' y→upd φ s.c g y=some gy→φ y=some gy:=by
  intro y gy hy iN
  unfold upd at iN
  split at iN
  ·rename_i e
   subst e
   obtain ⟨g',hg'⟩:=h.rel.has (hl' _ hy)
   rw [h0] at hg';cases hg'
  ·exact iN
 refine ⟨⟨⟨?_,?_,?_,?_⟩,?_⟩,⟨hsub,hsz,?_,?_,hout⟩,Nat.le_succ _,?_,?_⟩
 ·intro y o hy0
  have hy:setH h' s.c o2 y=some o:=hy0
  rw [gY] at hy
  split at hy
  ·rename_i e
   subst e
   cases hy
   exact hor
  ·by_cases hi:iM o
   ·have hs:=hh y o hy hi
    refine (h.rel.obj y o hs).mono hsub fun gy iN=>hkeep gy.b (h.rel.bnd y gy iN) (hne y gy ⟨o,hy,hi⟩ iN)
   ·cases o <;> simp only [iM,not_true_eq_false] at hi <;> exact trivial
 ·intro y z g1 g2 hy hz h1 h2 e
  rcases hl y hy with rfl | hy' <;> rcases hl z hz with rfl | hz'
  ·rfl
  ·rw [kW] at h1;cases h1
   exact absurd e.symm (hne z g2 hz' (oM z g2 hz' h2))
  ·rw [kW] at h2;cases h2
   exact absurd e (hne y g1 hy' (oM y g1 hy' h1))
  ·exact h.rel.inj y z g1 g2 (hl' y hy') (hl' z hz') (oM y g1 hy' h1) (oM z g2 hz' h2) e
 ·intro y gy hy
  show gy.b < w'.heap.size
  unfold upd at hy
  split at hy
  ·cases hy;exact hg
  ·exact Nat.lt_of_lt_of_le (h.rel.bnd y gy hy) hsz
 ·intro y hy
  obtain ⟨n,hn⟩:=h.rel.kV y hy
  exact ⟨n,hsub _ _ hn⟩
 ·intro y hy
  show upd φ s.c g y=none
  have hy':s.c+1≤y:=hy
  unfold upd
  rw [if_neg (by omega)]
  exact h.fr y (by omega)
 ·intro y gy h1 h2
  unfold upd at h2
  split at h2
  ·cases h2
   rcases hnew with h3 | ⟨z,gz,hz3,hz,hgz,he,_⟩
   ·exact .inl h3
   ·exact .inr ⟨z,gz,hz3,hz,hgz,he⟩
  ·rw [h1] at h2;cases h2
 ·intro b hb hn
  refine hkeep b hb fun e=>?_
  rcases hnew with h3 | ⟨z,gz,hz3,hz,hgz,he,_⟩
  ·omega
  ·exact hn z gz hz3 hz hgz (he.trans e.symm)
 ·intro y h1 h2
  unfold upd at h2
  split at h2
  ·rename_i e;subst e;exact Nat.le_refl _
  ·exact absurd h1 h2
 ·intro y hy
  rcases hl y hy with rfl | hy'
  ·exact .inr h0
  ·exact .inl (hl' y hy')
theorem Hq {φ:Ph}{w':World}{nm g cap n z N:Nat}{cur:Array Value}{e el:TypeId}{l xs:List Value}{fr:Nat × Nat}(h0:φ nm=none)(hw:w'.heap[g]?=some (.cells cur e (0,0)))(hc:cur.size=N)(hN:cap * z≤N)(hnc:n≤cap)
  (hx:cur.toList.take (n * z)=xs) (hL:L (V1 φ) l xs) (hl:l.length=n * z) :
  OR (upd φ nm ⟨g,N⟩) w' nm (.cells l.toArray el fr)∧V (upd φ nm ⟨g,N⟩) (.slice (some ⟨nm,0,none⟩) n z) (.slice (some ⟨g,0,none⟩) n cap):=by
 refine ⟨⟨_,cur,e,(0,0),kW φ nm _,hw,hc,fun _=>rfl,?_,?_⟩,.dS ⟨_,cap,rfl,.inr ⟨rfl,hnc,_,kW φ nm _,rfl,by show 0+cap * z≤N;omega⟩⟩⟩
 ·have:n * z≤cap * z:=Nat.mul_le_mul_right z hnc
  simp;omega
 ·have e1:l.toArray.size=n * z:=by simpa using hl
  rw [e1,hx]
  exact hL.mono fun _ _=>V1.mono (wT h0 _)
theorem aaN {t ty e e2:TypeId}{i:TypeInfo}(ht:P.underlying t=some (.slice e))(hi:P.info? e=some i)(w:World)
  (g sLen sCap:Nat) (cur:Array Value) (hg:w.heap[g]?=some (.cells cur e2 (0,0)))
  (a:Addr) (m c:Nat) (news:List Value) (hl:news.length=m * i.size) (hnews:∀ j u,news[j]?=some u→w.cell? (a.add j)=some u) (h1:∀ u ∈ news,u.oneCell'=true)
  (hroom:sLen+m≤sCap) (hfit:sLen * i.size+news.length≤cur.size) :
  (Builtin.append_ #[t,t] ty #[.slice (some ⟨g,0,none⟩) sLen sCap,.slice (some a) m c]).run P w =
   .ok (.slice (some ⟨g,0,none⟩) (sLen+m) sCap) (w.setRow g (cur.toList.take (sLen * i.size) ++ news ++ cur.toList.drop (sLen * i.size+news.length)).toArray):=by
 have hf:=run_firstCells_some (P:=P) w i.size m a m c news hl hnews
 have hst:=run_storeCells_at P g (sLen * i.size) e2 news 0 cur w hg (by simpa using hfit) h1
 simp only [Nat.add_zero] at hst
 simp [Builtin.append_,run_underlying ht,sizeOf,typeInfo,hi,Builtin.lenOf,hroom,hf,Addr.add_lit,hst]
theorem Hr {t ty e:TypeId}{i:TypeInfo}(ht:P.underlying t=some (.slice e))(hi:P.info? e=some i)(w:World)(a b:Option Addr)(n k c:Nat)(hk:n≤k) :
  (Builtin.append_ #[t,t] ty #[.slice a n k,.slice b 0 c]).run P w=.ok (.slice a n k) w:=by
 cases a <;> cases b <;> simp [Builtin.append_,run_underlying ht,sizeOf,typeInfo,hi,Builtin.lenOf,hk,Builtin.firstCells,loadCells,loadCellsFrom,storeCells]
theorem aaO {c:Call}{f:F}(hc:c.callee=.builtin .append)(h:rq P c .append=some f):zD P (.call c) f:=by
 unfold rq at h
 simp only at h
 split at h
 case h_2=>cases h
 rename_i x y t t' hargs zC
 split at h
 case h_2=>cases h
 rename_i el hd
 obtain ⟨i,hi,h⟩:=ai.1 h
 obtain ⟨zs,hz,h⟩:=ai.1 h
 rw [aN,aN,aN,aN] at h
 obtain ⟨ht,hzs,hpos,hby,h⟩:=h
 cases h
 have ht':=Nat.eq_of_beq_eq_true ht
 subst ht'
 have hzs':zs.cells.size=i.size:=Nat.eq_of_beq_eq_true hzs
 have hpos':0 < i.size:=by rw [dL] at hpos;simp at hpos;omega
 have aaP:i.bytes≤1000000:=by rw [dL] at hby;simpa using hby
 have hargs':c.args=#[x,y]:=Array.toList_inj.1 (by simpa using hargs)
 have qC:c.argTypes=#[t,t]:=Array.toList_inj.1 (by simpa using zC)
 have Cm:x ∈ (Op.call c).operands:=by simp [Op.operands,Call.operands,hc,hargs']
 have Pb:y ∈ (Op.call c).operands:=by simp [Op.operands,Call.operands,hc,hargs']
 have iZ:∀ (a:Act) (w w':World) (o:Oper) (r:Value),o.op=.call c→(Builtin.append_ #[t,t] 0 #[a.eval x,a.eval y]).run P w=.ok r w'→(execOp a.eval o).run P w=.ok (.value r) w':=by
  intro a w w' o r ho hrun
  rw [Hf hc ho,hargs',qC]
  have:((#[x,y]:Array Operand).map a.eval)=#[a.eval x,a.eval y]:=by simp
  rw [this]
  show (do pure (.value (← Builtin.append_ #[t,t] 0 #[a.eval x,a.eval y])):Sem Next).run P w=_
  simp [hrun]
 intro call e s nm v s' h
 have h1:Gn el i.size s (ev e x) (ev e y)=some (v,s'):=h
 unfold Gn at h1
 obtain ⟨xa,n,k,hx,h1⟩:=wO.1 h1
 obtain ⟨yb,m,k2,hy,h1⟩:=wO.1 h1
 cases m with
 | zero =>
  have h2:some (Value.slice xa n k,s)=some (v,s'):=h1
  cases h2
  refine ⟨rfl,fun φ a w hE hS=>?_⟩
  have hxe:=hE x Cm
  have hye:=hE y Pb
  rw [hx] at hxe;rw [hy] at hye
  have uF:∃ b c',a.eval y=.slice b 0 c':=by
   cases yb with
   | none=>exact ⟨none,0,(zy hye).2⟩
   | some b=>obtain ⟨b',c',h',_⟩:=uA hye;exact ⟨b',c',h'⟩
  obtain ⟨b,c',uF⟩:=uF
  refine ⟨φ,a.eval x,w,hxe,Post.refl hS,fun o ho=>.inl (iZ a w w o _ ho ?_)⟩
  rw [uF]
  cases xa with
  | none =>
   rw [(zy hxe).2]
   exact Hr hd hi w none b 0 0 c' (Nat.le_refl _)
  | some xa =>
   obtain ⟨a',cc,h',hs⟩:=uA hxe
   rw [h']
   rcases hs with ⟨_,rfl⟩ | ⟨_,hle,g,hg,rfl,_⟩
   ·exact Hr hd hi w a' b 0 cc c' (Nat.zero_le _)
   ·exact Hr hd hi w _ b n cc c' hle
 | succ m =>
  rw [zo,aN] at h1
  obtain ⟨hbd,h2⟩:=h1
  obtain ⟨b,hyb,h3⟩:=ai.1 h2
  subst hyb
  obtain ⟨new,hnew,h1⟩:=ai.1 h3
  clear h2 h3
  have aaQ:n+(m+1)≤1000000:=by rw [dL] at hbd;simpa using hbd
  have hbytes:(n+(m+1)) * i.bytes≤140737488355328:=Nat.le_trans (Nat.mul_le_mul aaQ aaP) (by omega)
  have h63:n+(m+1)≤maxLen:=by simp [maxLen];omega
  rw [show Nat.mul (Nat.succ m) i.size=(m+1) * i.size from rfl] at hnew
  have hds:s'.ds=s.ds:=by
   unfold Gm at h1
   cases xa with
   | none =>
    cases n with
    | zero=>simp only [zn,jE,nN] at h1;cases h1;rfl
    | succ n=>cases h1
   | some xa =>
    simp only [zt] at h1
    rw [wM,aN,aN] at h1
    obtain ⟨_,_,_,h1⟩:=h1
    cases ho:xa.off with
    | succ q=>rw [ho,zo] at h1;cases h1
    | zero =>
     rw [ho,zn,bS] at h1
     split at h1
     ·cases h1
     ·obtain ⟨old,_,h1⟩:=ai.1 h1
      simp only [jE,nN] at h1
      cases h1;rfl
  refine ⟨hds,fun φ a w hE hS=>?_⟩
  have hxe:=hE x Cm
  have hye:=hE y Pb
  rw [hx] at hxe;rw [hy] at hye
  obtain ⟨b',cb,uF,hsb⟩:=uA hye
  rcases hsb with ⟨_,h0⟩ | ⟨aaR,hcb,gb,hgb,rfl,_⟩
  ·cases h0
  have aaS:AR φ b ⟨gb.b,b.off,none⟩:=⟨aaR,gb,hgb,rfl⟩
  obtain ⟨new',hLn,zF,hcell⟩:=Cb hnew hS.rel aaS
  have hnl:new.length=(m+1) * i.size:=by rw [hLn.length];exact zF
  have Cn:φ s.c=none:=hS.fr s.c (Nat.le_refl _)
  have hc3:3≤s.c:=by
   rcases Nat.lt_or_ge s.c 3 with h | h
   ·obtain ⟨q,hq⟩:=hS.rel.kV s.c h;rw [Cn] at hq;cases hq
   ·exact h
  unfold Gm at h1
  cases xa with
  | none =>
   obtain ⟨rfl,zG⟩:=zy hxe
   have h2:(sB s fun c h ds=>fN c fun c=>some (Value.slice (some ⟨c,0,none⟩) (Nat.succ m) i.size,(⟨Nat.succ c,setH h c (.cells new.toArray el),ds⟩:S)))=some (v,s'):=h1
   rw [jE,nN] at h2
   cases h2
   have hb0:(0+(m+1)) * i.bytes≤140737488355328:=by simpa using hbytes
   obtain ⟨v',w',hrun,hown,hgr,_⟩:=run_append_own (P:=P) w w.heap.size t 0 el i zs i.size i.bytes hd hi hz rfl rfl hzs' hpos' (.slice none 0 0) 0 [] (World.ownsRow_nil w w.heap.size el i.size) ⟨gb.b,b.off,none⟩ (m+1) cb new' zF hcell (Cj hLn) (by omega) hb0 (Nat.le_refl _)
   obtain ⟨_,⟨_,hz0⟩ | ⟨g,cap,cur,rfl,hgb',hgw,hnc,_,Ht,htake⟩⟩:=hown
   ·omega
   rw [Nat.zero_add] at hnc htake hrun
   obtain ⟨o1,o2⟩:=Hq (nm:=s.c) (el:=el) (fr:=(0,0)) (w':=w') Cn hgw Ht (Nat.le_refl _) hnc htake (by simpa using hLn) hnl
   refine ⟨_,_,w',o2,Post.anew hS (fun _ _ h _=>h) hgr.size ⟨hgr.os,hgr.tape,hgr.output⟩ (Array.getElem?_eq_some_iff.1 hgw).1 (.inl hgb') (fun k hk _=>hgr.block k hk (by simp [Value.ownBlock])) o1,fun o ho=>.inl (iZ a w w' o _ ho ?_)⟩
   rw [zG,uF]
   exact hrun
  | some xa =>
   simp only [zt] at h1
   rw [wM,aN,aN] at h1
   obtain ⟨hsp,hk,h3,h9⟩:=h1
   clear h1
   have hk':=Nat.eq_of_beq_eq_true hk
   subst hk'
   have h3':3≤xa.block:=by rw [dL] at h3;simpa using h3
   cases hoff:xa.off with
   | succ q=>rw [hoff,zo] at h9;cases h9
   | zero =>
    rw [hoff,zn,bS] at h9
    split at h9
    ·cases h9
    obtain ⟨old,hold,h8⟩:=ai.1 h9
    clear h9
    simp only [jE,nN] at h8
    cases h8
    rw [show Nat.mul n i.size=n * i.size from rfl] at hold
    obtain ⟨xa',cx,zG,hsx⟩:=uA hxe
    rcases hsx with ⟨hq,_⟩ | ⟨_,ad8,gx,hgx,rfl,aaT⟩
    ·exact absurd hsp hq
    rw [hoff] at zG aaT
    obtain ⟨_,cc,ec,fc,hcc,hcl,hold'⟩:=OO.1 hold
    rw [hoff] at hcl hold'
    simp only [List.drop_zero] at hcl hold'
    obtain ⟨gx',cur,e2,fr,Pd,hwx,hnx,aaU,hlex,hLx⟩:=hS.rel.obj _ _ hcc
    rw [hgx] at Pd;cases Pd
    have Ho:=aaU h3'
    subst Ho
    have aaW:n * i.size≤cc.size:=by simpa using hcl
    have hLo:L (V1 φ) old (cur.toList.take (n * i.size)):=by
     rw [hold']
     have:=hLx.take (n * i.size)
     rw [List.take_take,Nat.min_eq_left aaW] at this
     exact this
    have Pe:old.length=n * i.size:=by rw [hold'];simp;omega
    have Hu:L (V1 φ) (old ++ new) (cur.toList.take (n * i.size) ++ new'):=hLo.app hLn
    have Hw:(old ++ new).length=(n+(m+1)) * i.size:=by simp only [List.length_append,Pe,hnl];rw [← Nat.add_mul]
    have aaX:live s.h xa.block:=⟨_,hcc,trivial⟩
    have hh:∀ y o,setH s.h xa.block dead y=some o→iM o→s.h y=some o:=by
     intro y o hy hi'
     rw [gY] at hy
     split at hy
     ·cases hy;exact hi'.elim
     ·exact hy
    have aaY:¬ live (setH s.h xa.block dead) xa.block:=by
     rintro ⟨o,hy,hi'⟩
     rw [gY,if_pos rfl] at hy
     cases hy;exact hi'
    have hxl:xa.block < s.c:=by
     rcases Nat.lt_or_ge xa.block s.c with h | h
     ·exact h
     ·have:=hS.fr _ h;rw [hgx] at this;cases this
    have aaZ:∀ j u,(cur.toList.take (n * i.size))[j]?=some u→w.cell? ((⟨gx.b,0,none⟩:Addr).add j)=some u:=by
     intro j u hj
     have hadd:(⟨gx.b,0,none⟩:Addr).add j=⟨gx.b,j,none⟩:=by unfold Addr.add;split <;> simp_all
     rw [hadd]
     rw [List.getElem?_take] at hj
     split at hj
     ·simp [World.cell?,hwx];simpa using hj
     ·cases hj
    by_cases hroom:n+(m+1)≤cx
    ·have hfit:n * i.size+new'.length≤cur.size:=by
      rw [zF,← Nat.add_mul,hnx]
      exact Nat.le_trans (Nat.mul_le_mul_right _ hroom) (by omega)
     have hrun:=aaN (P:=P) (ty:=0) hd hi w gx.b n cx cur hwx ⟨gb.b,b.off,none⟩ (m+1) cb new' zF hcell (Cj hLn) hroom hfit
     have htake:(cur.toList.take (n * i.size) ++ new' ++ cur.toList.drop (n * i.size+new'.length)).toArray.toList.take ((n+(m+1)) * i.size)=cur.toList.take (n * i.size) ++ new':=by
      have e1:(cur.toList.take (n * i.size) ++ new').length=(n+(m+1)) * i.size:=by rw [← Hu.length,Hw]
      simp only
      rw [← e1,List.take_append_of_le_length (Nat.le_refl _),List.take_length]
     have hsize:(cur.toList.take (n * i.size) ++ new' ++ cur.toList.drop (n * i.size+new'.length)).toArray.size=gx.n:=by simp;omega
     obtain ⟨o1,o2⟩:=Hq (nm:=s.c) (el:=el) (fr:=(0,0)) (w':=w.setRow gx.b _) Cn (setRow_heap w gx.b cur _ e2 (0,0) hwx) hsize (by omega) hroom htake Hu Hw
     refine ⟨_,_,_,o2,Post.anew hS hh (by simp) (O8 _ _ _) (by simpa using hS.rel.bnd _ _ hgx) (.inr ⟨xa.block,gx,h3',aaX,hgx,rfl,aaY⟩) (fun k _ hk=>setRow_other _ _ _ _ hk) o1,fun o ho=>.inl (iZ a w _ o _ ho ?_)⟩
     rw [zG,uF]
     exact hrun
    ·obtain ⟨v',w',hrun,hown,hgr⟩:=run_append_arg_grows (P:=P) w t 0 el i zs i.size i.bytes hd hi hz rfl rfl hzs' hpos' ⟨gx.b,0,none⟩ n cx (cur.toList.take (n * i.size)) (by rw [← hLo.length,Pe]) aaZ ⟨gb.b,b.off,none⟩ (m+1) cb new' zF hcell (by omega) h63 hbytes
     obtain ⟨_,⟨_,hz0⟩ | ⟨g,cap,FY,rfl,hgb',hgw,hnc,_,Ht,htake⟩⟩:=hown
     ·omega
     obtain ⟨o1,o2⟩:=Hq (nm:=s.c) (el:=el) (fr:=(0,0)) (w':=w') Cn hgw Ht (Nat.le_refl _) hnc htake Hu Hw
     refine ⟨_,_,w',o2,Post.anew hS hh hgr.size ⟨hgr.os,hgr.tape,hgr.output⟩ (Array.getElem?_eq_some_iff.1 hgw).1 (.inl hgb') (fun k hk _=>hgr.block k hk (by simp)) o1,fun o ho=>.inl (iZ a w w' o _ ho ?_)⟩
     rw [zG,uF]
     exact hrun
end Xe
end Go.Proofs.YthffafaoobpedaaGreatDoor

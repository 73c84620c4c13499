/- More operations that change nothing: reckoning,parts,places. -/
import Derived.Test.YtfcpglhpolpdcaaGreatDoorM40
import Derived.Laws.Tables
namespace Go.Proofs.YtfcpglhpolpdcaaGreatDoor
namespace Xe
variable {P:Program}
theorem aeG {op:BinOp}{x y v:Value}(h:bin op x y=some v) :
  (∃ k a b,x=.int k a∧y=.int k b∧BM op k a b=some v)∨(∃ a b,x=.string a∧y=.string b∧BN op a b=some v):=by
 unfold bin at h;cases x<;>simp only[jY,lY] at h<;>try cases h
 ·rename_i k a
  obtain⟨k',b,hy,h⟩:=sZ.1 h;rw[bV] at h;split at h
  ·rename_i hk
   have:=(Ko _ _).1 hk;subst this;exact .inl ⟨k,a,b,rfl,hy,h⟩
  ·cases h
 ·rename_i a
  obtain⟨b,hy,h⟩:=Ch.1 h;exact .inr ⟨a,b,rfl,hy,h⟩
theorem aeH {op:BinOp}{k:IntKind}{a b:Int}{v:Value}(h:BM op k a b=some v)(t:TypeId)(x y:Operand)(w:World) :
  (do eqGuard op t x y (.int k a) (.int k b);binOp op t (.int k a) (.int k b):Sem Value).run P w=.ok v w:=by
 cases op<;>simp only[BM,wm,Cg,TC,aer,Km,aeq,not_eq,reduceCtorEq,Option.some.injEq] at h<;>subst h <;>
  simp[eqGuard,binOp,Op.intArith,Op.intCmp]
 all_goals first | rfl | (rw[Bool.eq_iff_iff];simp)
theorem aeI {op:BinOp}{a b:ByteArray}{v:Value}(h:BN op a b=some v)(t:TypeId)(x y:Operand)(w:World) :
  (do eqGuard op t x y (.string a) (.string b);binOp op t (.string a) (.string b):Sem Value).run P w=.ok v w:=by
 cases op<;>simp only[BN,Cg,not_eq,Fp,rA,reduceCtorEq,Option.some.injEq] at h<;>subst h <;>
  simp[eqGuard,binOp,Op.stringOp,ByteArray.toList_eq]<;>by_cases hh:a.data=b.data<;>simp[hh]
theorem aeJ {op:BinOp}{t t2:TypeId}(x y:Operand):gX P (.binOp op t x y t2) (JS op x y):=by
 intro call e s nm v s' h;rw[JS,lC] at h;obtain⟨h2,rfl⟩:=h;refine⟨rfl,fun φ a w hE _=>?_⟩;have hx:=hE x (by simp[Op.operands]);have hy:=hE y (by simp[Op.operands]);rcases aeG h2 with⟨k,m,n,e1,e2,h3⟩ | ⟨m,n,e1,e2,h3⟩
 ·rw[e1] at hx;rw[e2] at hy
  refine⟨v,?_,fun o ho=>?_⟩
  ·have:(∃ i,v=.int k i)∨∃ b,v=.bool b:=by
    cases op<;>simp only[BM,wm,Cg,reduceCtorEq,Option.some.injEq] at h3<;>first | exact .inl ⟨_,h3.symm⟩ | exact .inr ⟨_,h3.symm⟩
   rcases this with⟨_,rfl⟩ | ⟨_,rfl⟩<;>exact .dX rfl
  ·have:=aeH (P:=P) h3 t x y w
   simp only[execOp,ho,nQ hx,nQ hy];rw[Sem.run_bind,this];rfl
 ·rw[e1] at hx;rw[e2] at hy
  refine⟨v,?_,fun o ho=>?_⟩
  ·have:∃ b,v=.bool b:=by
    cases op<;>simp only[BN,Cg,reduceCtorEq,Option.some.injEq] at h3<;>exact⟨_,h3.symm⟩
   obtain⟨_,rfl⟩:=this;exact .dX rfl
  ·have:=aeI (P:=P) h3 t x y w
   simp only[execOp,ho,tq hx,tq hy];rw[Sem.run_bind,this];rfl
theorem aeK {src dst:TypeId}{k:IntKind}{d:TypeDesc}(x:Operand)(hs:und P src=some d)(hd:und P dst=some (.int k)):gX P (.convert src dst x) (Ta k x):=by
 intro call e s nm v s' h;obtain⟨q,n,hn,h⟩:=sZ.1 h;rw[lC,wm,TC] at h;obtain⟨h2,rfl⟩:=h;cases h2;refine⟨rfl,fun φ a w hE _=>?_⟩;have hx:=hE x (by simp[Op.operands]);rw[hn] at hx;exact⟨.int k (k.wrap n),.dX rfl,fun o ho=>by simp only[execOp,ho,nQ hx];simp[convert,dL hs,dL hd,Conv.intToInt]⟩
theorem Cn (e:En):∀ l:List Operand,evs e l=l.map (ev e)
 | []=>rfl
 | x :: l=>by show ev e x :: evs e l=_;rw[Cn e l];rfl
theorem Kt:∀ {l:List Value},EO l=true→∀ v ∈ l,flat v=true
 | [],_,_,h=>by cases h
 | a :: l,h,v,hv=>by
  have h':bB (flat a) (EO l) false=true:=h;rw[bV] at h';split at h'
  ·rename_i ha
   rcases List.mem_cons.1 hv with rfl | hv
   ·exact ha
   ·exact Kt h' v hv
  ·cases h'
theorem yO {α β γ:Type}{R:β→γ→Prop}{f:α→β}{g:α→γ}:∀ {l:List α},(∀ x ∈ l,R (f x) (g x))→L R (l.map f) (l.map g)
 | [],_=>trivial
 | a :: l,h=>⟨h a (by simp),yO fun x hx=>h x (by simp[hx])⟩
theorem aeL (fn:Fn)(first captured:Array Operand):gX P (.makeFunc fn first captured) (JU fn first.toList captured.toList):=by
 intro call e s nm v s' h;rw[JU,aN,aN] at h;obtain⟨h1,h2,h3⟩:=h;cases h3;refine⟨rfl,fun φ a w hE _=>?_⟩;rw[Cn] at h1 h2;have f1:=Kt h1;have f2:=Kt h2;refine⟨.func fn (first.map a.eval) (captured.map a.eval),.inl (.inl (.inr ⟨fn,_,_,_,_,rfl,rfl,?_,?_⟩)),fun o ho=>?_⟩
 ·simp only[Cn,Array.toList_map]
  exact yO fun x hx=>TE (hE x (by simp[Op.operands];exact .inl (by simpa using hx))) (f1 _ (List.mem_map_of_mem hx))
 ·simp only[Cn,Array.toList_map]
  exact yO fun x hx=>TE (hE x (by simp[Op.operands];exact .inr (by simpa using hx))) (f2 _ (List.mem_map_of_mem hx))
 ·simp only[execOp,ho];rfl
theorem TG {φ:Ph}{t:TypeId}{n off:Nat}{cs cs':Array Value}{v:Value}{d:TypeDesc}(hd:und P t=some d)(hn:dJ P t=some n)(hL:L (V1 φ) cs.toList cs'.toList)
  (h:EM (oJ P t) n cs.toList off=some v) (w:World):∃ v',V φ v v'∧(part t cs' off).run P w=.ok v' w:=by
 unfold EM at h;rw[bV] at h;split at h
 ·rename_i ht
  obtain⟨l,hl,h⟩:=aj.1 h;cases h;rw[Ce,yK] at hl;obtain⟨_,rfl⟩:=hl;refine⟨.agg (cs'.extract off (off+n)),.inl (.inr ⟨_,_,rfl,rfl,?_⟩),?_⟩
  ·have e:(cs'.extract off (off+n)).toList=(cs'.toList.drop off).take n:=by simp[Array.toList_extract]
   rw[e];simpa using (hL.drop off).take n
  ·simp[part,TF hd,ht,run_sizeOf hn]
 ·rename_i ht
  rw[kJ] at h;obtain⟨y,hy,hv⟩:=hL.at h;refine⟨y,.inl (.inl hv),?_⟩;have ht':oJ P t=false:=by simpa using ht
  have hy':cs'[off]?=some y:=by simpa using hy
  simp[part,TF hd,ht',hy']
theorem aeM {t:TypeId}{x:Operand}{k:Nat}{f:F}(h:J3 P t x k=some f):gX P (.field t x k) f:=by
 unfold J3 at h;split at h;case h_2=>cases h
 rename_i fs hd;obtain⟨fd,hf,h⟩:=aj.1 h;obtain⟨d,hfd,h⟩:=aj.1 h;obtain⟨n,hn,h⟩:=aj.1 h;cases h;intro call e s nm v s' h;obtain⟨c,hc,h⟩:=Ty.1 h;rw[lC,bL] at h;obtain⟨h2,rfl⟩:=h;refine⟨rfl,fun φ a w hE _=>?_⟩;have hx:=hE x (by simp[Op.operands]);rw[hc] at hx;obtain⟨c',hc',hL⟩:=TD hx;obtain⟨v',hv,hrun⟩:=TG hfd hn hL h2 w;refine⟨v',hv,fun o ho=>?_⟩;rw[kJ] at hf;have hf':fs[k]?=some fd:=by simpa using hf
 simp only[execOp,ho,hc'];simp[Instr.field,dL hd,hf',asAgg,hrun]
theorem TH {z n:Nat}{a:Addr}{i v:Value}(h:ES z n a i=some v):∃ (k:IntKind) (j:Nat),i=.int k (j:Int)∧j<n∧v=.pointer (some (a.add (j * z))):=by
 unfold ES at h;obtain⟨k,j,hj,h⟩:=sZ.1 h;cases j with
 | negSucc j=>cases h
 | ofNat j =>
  rw[Fh,bV,ed] at h;split at h
  ·cases h
  ·rename_i hn
   rw[Tw,Kj] at h;cases h;exact⟨k,j,hj,by simpa using hn,rfl⟩
theorem aeO {t:TypeId}{x i:Operand}{f:F}(h:BQ P t x i=some f):gX P (.indexAddr t x i) f:=by
 unfold BQ at h;split at h;case h_3=>cases h
 ·rename_i el hd
  obtain⟨z,hz,h⟩:=aj.1 h;cases h;intro call e s nm v s' h;obtain⟨b,n,c,hb,h⟩:=Ci.1 h;obtain⟨b,rfl,h1⟩:=aj.1 h;rw[lC] at h1;obtain⟨h2,rfl⟩:=h1;obtain⟨k,j,hj,hlt,rfl⟩:=TH h2;refine⟨rfl,fun φ a w hE _=>?_⟩;have hx:=hE x (by simp[Op.operands]);have hi:=hE i (by simp[Op.operands]);rw[hb] at hx;rw[hj] at hi;obtain⟨a',c',ha,hs⟩:=pX hx;rcases hs with⟨_,h0⟩ | ⟨h0,hc,g,hg,rfl,_⟩
  ·omega
  have Ku:AR φ b ⟨g.b,b.off,none⟩:=⟨h0,g,hg,rfl⟩;refine⟨_,.dX ⟨_,rfl,Ku.add (j * z)⟩,fun o ho=>?_⟩;have hj0:(0:Int)≤(j:Int)∧(j:Int)<(n:Int):=⟨by omega,by omega⟩;simp only[execOp,ho,ha,nQ hi];simp[Instr.indexAt,asIntOf,dL hd,run_sizeOf hz,hlt]
 ·rename_i n el hd
  obtain⟨z,hz,h⟩:=aj.1 h;cases h;intro call e s nm v s' h;obtain⟨b,hb,h⟩:=aj.1 h;rw[yL] at hb;rw[lC] at h;obtain⟨h2,rfl⟩:=h;obtain⟨k,j,hj,hlt,rfl⟩:=TH h2;refine⟨rfl,fun φ a w hE _=>?_⟩;have hx:=hE x (by simp[Op.operands]);have hi:=hE i (by simp[Op.operands]);rw[hb] at hx;rw[hj] at hi;obtain⟨a',ha,hr⟩:=yM hx;refine⟨_,.dX ⟨_,rfl,hr.add (j * z)⟩,fun o ho=>?_⟩;simp only[execOp,ho,ha,nQ hi];simp[Instr.indexAt,asIntOf,dL hd,run_sizeOf hz,hlt,Instr.sureAddr]
theorem aeP {t:TypeId}{x i:Operand}{f:F}(h:J4 P t x i=some f):gX P (.index t x i) f:=by
 unfold J4 at h;split at h;case h_3=>cases h
 ·rename_i hd
  cases h;intro call e s nm v s' h;obtain⟨b,hb,h⟩:=Ch.1 h;rw[lC] at h;obtain⟨h2,rfl⟩:=h;unfold Tc at h2;obtain⟨k,j,hj,h2⟩:=sZ.1 h2;cases j with
  | negSucc j=>cases h2
  | ofNat j =>
   rw[Fh] at h2;obtain⟨c,hc,h2⟩:=aj.1 h2;rw[wm] at h2;cases h2;refine⟨rfl,fun φ a w hE _=>?_⟩;have hx:=hE x (by simp[Op.operands]);have hi:=hE i (by simp[Op.operands]);rw[hb] at hx;rw[hj] at hi;refine⟨_,.dX rfl,fun o ho=>?_⟩;rw[kJ,rA] at hc;have hc':b[j]?=some c:=by
    have:=List.getElem?_eq_some_iff.1 hc;obtain⟨hlt,he⟩:=this;have hs:j<b.size:=by
     show j<b.data.size
     simpa using hlt
    rw[getElem?_pos b j hs];simp only[Option.some.injEq];simpa[ByteArray.getElem_eq_getElem_data] using he
   simp only[execOp,ho,tq hx,nQ hi];simp[Instr.index,asIntOf,dL hd,hc']
 ·rename_i n el hd
  obtain⟨d,hel,h⟩:=aj.1 h;obtain⟨z,hz,h⟩:=aj.1 h;cases h;intro call e s nm v s' h;obtain⟨c,hc,h⟩:=Ty.1 h;rw[lC] at h;obtain⟨h2,rfl⟩:=h;unfold Td at h2;obtain⟨k,j,hj,h2⟩:=sZ.1 h2;cases j with
  | negSucc j=>cases h2
  | ofNat j =>
   rw[Fh,bV,ed] at h2;split at h2
   ·cases h2
   ·rename_i hlt
    rw[bL] at h2;refine⟨rfl,fun φ a w hE _=>?_⟩;have hx:=hE x (by simp[Op.operands]);have hi:=hE i (by simp[Op.operands]);rw[hc] at hx;rw[hj] at hi;obtain⟨c',hc',hL⟩:=TD hx;obtain⟨v',hv,hrun⟩:=TG hel hz hL h2 w;refine⟨v',hv,fun o ho=>?_⟩;have hlt':j<n:=by simpa using hlt
    simp only[execOp,ho,hc',nQ hi];simp[Instr.index,asIntOf,dL hd,run_sizeOf hz,hlt'];simpa using congrArg (fun r=>r.andThen fun a w'=>Result.ok (Next.value a) w') hrun
end Xe
namespace Xe
variable {P:Program}
theorem Kv:∀ (vs c r:List Value),over c vs=some r ↔ vs.length≤c.length∧r=vs++c.drop vs.length
 | [],c,r=>by show some c=some r ↔ _;simp[eq_comm]
 | v :: vs,[],r=>by simp[over,lB]
 | v :: vs,x :: c,r=>by
  show oB (over c vs) (fun r=>some (v :: r))=some r ↔ _
  rw[aj];constructor
  ·rintro⟨t,h,e⟩
   obtain⟨h1,rfl⟩:=(Kv vs c t).1 h;cases e;exact⟨by simpa using h1,by simp⟩
  ·rintro⟨h1,rfl⟩
   exact⟨vs++c.drop vs.length,(Kv vs c _).2 ⟨by simpa using h1,rfl⟩,by simp⟩
theorem Co:∀ (n:Nat) (c vs r:List Value),q8 n c vs=some r ↔ n≤c.length∧n+vs.length≤c.length∧r=c.take n++vs++c.drop (n+vs.length)
 | 0,c,vs,r=>by
  show over c vs=some r ↔ _
  rw[Kv];simp
 | n+1,[],vs,r=>by simp[q8,lB]
 | n+1,x :: c,vs,r=>by
  show oB (q8 n c vs) (fun r=>some (x :: r))=some r ↔ _
  rw[aj];constructor
  ·rintro⟨t,h,e⟩
   obtain⟨h1,h2,rfl⟩:=(Co n c vs t).1 h;cases e;exact⟨by simpa using h1,by simp;omega,by simp[Nat.add_right_comm n 1]⟩
  ·rintro⟨h1,h2,rfl⟩
   exact⟨_,(Co n c vs _).2 ⟨by simpa using h1,by simp at h2;omega,rfl⟩,by simp[Nat.add_right_comm n 1]⟩
theorem TI (off:Nat):∀ (l:List Value) (k:Nat) (cs:Array Value),off+k+l.length≤cs.size →
  ((l.zipIdx k).foldl (fun cs p=>cs.setIfInBounds (off+p.2) p.1) cs).toList=cs.toList.take (off+k)++l++cs.toList.drop (off+k+l.length)
 | [],k,cs,h=>by simp
 | v :: l,k,cs,h=>by
  rw[List.zipIdx_cons,List.foldl_cons];have hlen:off+(k+1)+l.length≤(cs.setIfInBounds (off+k) v).size:=by simp at h ⊢;omega
  rw[TI off l (k+1) _ hlen];have hlt:off+k<cs.toList.length:=by simp at h ⊢;omega
  have e:(cs.setIfInBounds (off+k) v).toList=cs.toList.take (off+k)++v :: cs.toList.drop (off+k+1):=by
   rw[Array.toList_setIfInBounds,List.set_eq_take_append_cons_drop,if_pos hlt]
  have hT:(cs.toList.take (off+k)).length=off+k:=by rw[List.length_take];omega
  have t1:(cs.toList.take (off+k)++v :: cs.toList.drop (off+k+1)).take (off+(k+1))=cs.toList.take (off+k)++[v]:=by
   rw[show off+(k+1)=(cs.toList.take (off+k)).length+1 by omega,List.take_length_add_append];simp
  have t2:(cs.toList.take (off+k)++v :: cs.toList.drop (off+k+1)).drop (off+(k+1)+l.length)=cs.toList.drop (off+k+1+l.length):=by
   rw[show off+(k+1)+l.length=(cs.toList.take (off+k)).length+(l.length+1) by omega,List.drop_length_add_append,List.drop_succ_cons,List.drop_drop]
  rw[e,t1,t2];simp[Nat.add_assoc,Nat.add_comm 1]
theorem L.over {φ:Ph}{c c' vs vs':List Value}(h:L (V1 φ) c c')(hv:L (V1 φ) vs vs')(n:Nat):L (V1 φ) (c.take n++vs++c.drop (n+vs.length)) (c'.take n++vs'++c'.drop (n+vs'.length)) :=
 ((h.take n).app hv).app (by rw[hv.length];exact h.drop _)
def PR (φ:Ph)(p p':Nat × Value):Prop:=p.1=p'.1∧V φ p.2 p'.2
theorem Kw {φ:Ph}{place:Nat→Option (Nat × Nat)}:∀ (ps ps':List (Nat × Value)) (c r:List Value) (c':Array Value),L (PR φ) ps ps'→L (V1 φ) c c'.toList →
  yD place ps c=some r→∃ r',Instr.fill place c' ps'=some r'∧L (V1 φ) r r'.toList
 | [],[],c,r,c',_,hc,h=>by
  have h':some c=some r:=h;cases h';exact⟨c',rfl,hc⟩
 | p :: ps,p' :: ps',c,r,c',hp,hc,h=>by
  obtain⟨i,v⟩:=p;obtain⟨i',v'⟩:=p';obtain⟨⟨hi,hv⟩,hps⟩:=hp;simp only at hi hv;subst hi;have h1:oB (place i) (fun q=>pB q fun off z=>aO (pQ v) (aO (Nat.beq z (lZ v).length) (oB (q8 off c (lZ v)) fun c=>yD place ps c)))=some r:=h;obtain⟨⟨off,z⟩,hq,h2⟩:=aj.1 h1;rw[gW,aN,aN] at h2;obtain⟨hn,hz,h3⟩:=h2;obtain⟨c2,h4,h5⟩:=aj.1 h3;obtain⟨_,hle,rfl⟩:=(Co _ _ _ _).1 h4;have hcv:=wo (yN hv hn);have hzl:z=v'.cells.size:=by
   have:=hcv.length;have hz':=Nat.eq_of_beq_eq_true hz;simp at this;omega
  have rC:off+v'.cells.size≤c'.size:=by
   have e1:=hcv.length;have e2:=hc.length;simp at e1 e2;omega
  have aeQ:((v'.cells.zipIdx.foldl (fun cs (x:Value × Nat)=>cs.setIfInBounds (off+x.2) x.1) c').toList)=c'.toList.take off++v'.cells.toList++c'.toList.drop (off+v'.cells.toList.length):=by
   have:=TI off v'.cells.toList 0 c' (by simpa using rC);rw[← Array.foldl_toList,Array.toList_zipIdx];simpa using this
  obtain⟨r',hr,hL⟩:=Kw ps ps' _ r (v'.cells.zipIdx.foldl (fun cs (x:Value × Nat)=>cs.setIfInBounds (off+x.2) x.1) c') hps (by rw[aeQ];exact hc.over hcv off) h5;refine⟨r',?_,hL⟩;show (match place i with
   | none=>none
   | some (off,size)=>if v'.cells.size≠size || off+v'.cells.size > c'.size then none else Instr.fill place (v'.cells.zipIdx.foldl (fun cs (x,j)=>cs.setIfInBounds (off+j) x) c') ps')=some r'
  rw[hq];simp only;rw[if_neg (by simp[hzl];omega)];exact hr
 | [],_ :: _,_,_,_,h,_,_=>h.elim
 | _ :: _,[],_,_,_,h,_,_=>h.elim
theorem Ky (e:En):∀ l:List (Nat × Operand),yG e l=l.map fun p=>(p.1,ev e p.2)
 | []=>rfl
 | p :: l=>by
  show pB p (fun i x=>(i,ev e x)) :: yG e l=_
  rw[Ky e l];cases p;rfl
theorem TJ {v:Value}(φ:Ph)(h:ok0 v=true):V0 φ v v:=by
 cases v<;>simp[ok0] at h<;>first | rfl | skip
 ·subst h;rfl
 ·rename_i a n c
  obtain⟨rfl,h1,h2⟩:=h;subst h1;subst h2;exact⟨rfl,rfl⟩
 ·subst h;rfl
theorem wu {v:Value}(φ:Ph)(h:rf v=true):VA φ v v:=by
 unfold rf at h;rw[Bool.or_eq_true] at h;rcases h with h | h
 ·exact .inl (.inl (TJ φ h))
 ·cases v<;>simp[vQ] at h
  rename_i c;refine .inr ⟨c,c,rfl,rfl,L.refl _ fun x hx=>.inl (TJ φ ?_)⟩;rw[bL] at h;exact h x (by simpa using hx)
theorem TK {φ:Ph}{nt:Nat}{e:En}{a:Act}{x:Operand}(h:Ka x=true)(hE:kI φ nt e a)(hg:∀ x,x<3→∃ n,φ x=some ⟨x,n⟩):V φ (ev e x) (a.eval x):=by
 cases x with
 | tmp t=>exact hE.val t
 | const v=>exact .inl (wu φ h)
 | global g =>
  have:g<3:=by simp only[Ka,ed,decide_eq_true_eq] at h;omega
  obtain⟨n,hn⟩:=hg g this;exact .dX ⟨⟨g,0,none⟩,rfl,rfl,⟨g,n⟩,hn,rfl⟩
 | func f=>exact .inl (.inl (.inr ⟨.func f,#[],#[],#[],#[],rfl,rfl,trivial,trivial⟩))
theorem Kz {φ:Ph}{nt:Nat}{e:En}{a:Act}{op:Op}(h:mJ op=true)(hE:kI φ nt e a)(hg:∀ x,x<3→∃ n,φ x=some ⟨x,n⟩):pY φ e a op:=by
 intro x hx;unfold mJ at h;rw[bL,List.all_eq_true] at h;exact TK (h x (by simpa using hx)) hE hg
theorem TL:∀ (fs:List Field),(fs.all fun f=>(dJ P f.type).isSome)=true→fs.mapM (fun f=>(P.info? f.type).map fun i=>(f.offset,i.size))=some (places P fs)
 | [],_=>rfl
 | f :: fs,h=>by
  simp only[List.all_cons,Bool.and_eq_true] at h;obtain⟨n,hn⟩:=Option.isSome_iff_exists.1 h.1;have hi:∃ i,P.info? f.type=some i∧i.size=n:=by
   unfold dJ at hn;split at hn
   ·rename_i i hi;cases hn;exact⟨i,hi,rfl⟩
   ·cases hn
  obtain⟨i,hi,rfl⟩:=hi;simp[List.mapM_cons,hi,TL fs h.2,places,hn]
theorem aeR {t:TypeId}{parts:Array (Nat × Operand)}{f:F}(h:J7 P t parts.toList=some f):gX P (.build t parts) f:=by
 unfold J7 at h;split at h;case h_2=>cases h
 rename_i fs hd;obtain⟨z,hz,h⟩:=aj.1 h;rw[aN,aN] at h;obtain⟨hok,hall,h⟩:=h;cases h;intro call e s nm v s' h;obtain⟨r,hr,h⟩:=aj.1 h;cases h;refine⟨rfl,fun φ a w hE _=>?_⟩;have hparts:L (PR φ) (yG e parts.toList) ((parts.map fun (i,x)=>(i,a.eval x)).toList):=by
  rw[Ky,Array.toList_map];exact yO fun p hp=>⟨rfl,hE p.2 (by simp[Op.operands];exact⟨p.1,by simpa using hp⟩)⟩
 have hz0:L (V1 φ) z.cells.toList z.cells.toList:=by
  have:=wo (wu φ hok);have e1:lZ z=z.cells.toList:=by
   cases z<;>first | rfl | (show aL _=_;rw[bL];rfl)
  rw[e1] at this;exact this
 obtain⟨r',hf,hL⟩:=Kw _ _ _ r z.cells hparts hz0 hr;refine⟨.agg r',.inl (.inr ⟨_,_,rfl,rfl,by simpa using hL⟩),fun o ho=>?_⟩;have hb:P.built t (parts.map fun (i,x)=>(i,a.eval x)).toList=some r':=by
  unfold Program.built;unfold pV at hz;split at hz
  ·rename_i it hit
   unfold und at hd;rw[hit,hd];simp only[hz,TL _ hall];have e2:(fun x=>(places P fs.toList).toArray[x]?)=nth (places P fs.toList):=by funext x;rw[kJ];simp
   rw[e2];exact hf
  ·cases hz
 simp only[execOp,ho];rw[Sem.run_bind,run_build w t _ r' hb];rfl
end Xe
namespace Xe
variable {P:Program}
theorem TM {x:Option Value}{d m n:Nat}(h:oM x d m=some n):(x=none∧n=d)∨(n≤m∧∃ k:IntKind,x=some (.int k (n:Int))):=by
 cases x with
 | none=>have h':some d=some n:=h;cases h';exact .inl ⟨rfl,rfl⟩
 | some v =>
  have h':(jY v none fun _ i=>iB i (fun n=>bB (Nat.ble n m) (some n) none) (fun _=>none))=some n:=h;obtain⟨k,i,rfl,h2⟩:=sZ.1 h';cases i with
  | negSucc i=>cases h2
  | ofNat i =>
   rw[Fh,bV,ed] at h2;split at h2
   ·rename_i hle;cases h2;exact .inr ⟨by simpa using hle,k,rfl⟩
   ·cases h2
def wy (x x':Option Value):Prop:=(x=none→x'=none)∧∀ (k:IntKind) (n:Int),x=some (.int k n)→x'=some (.int k n)
theorem Fq {φ:Ph}{e:En}{a:Act}{x:Option Operand}(h:∀ y,x=some y→V φ (ev e y) (a.eval y)):wy (lu e x) (x.map a.eval):=by
 cases x with
 | none=>exact⟨fun _=>rfl,fun k n h'=>by cases h'⟩
 | some y =>
  refine⟨fun h'=>(by cases h'),fun k n h'=>?_⟩;have e1:ev e y=.int k n:=Option.some.inj (show some (ev e y)=some (.int k n) from h');have:=h y rfl;rw[e1] at this;simp[nQ this]
theorem Fs {k:IntKind}{n m:Nat}(h:n≤m)(code:BoundsCode)(w:World):(Instr.sliceBound (.int k (n:Int)) m code).run P w=.ok n w:=by
 simp[Instr.sliceBound,asIntOf,h]
theorem KA {oQ:Bool}{len cap l h:Nat}{lo hi lo' hi':Option Value}(hc:len≤cap)(hl:wy lo lo')(hh:wy hi hi')(h1:oM hi len len=some h)(h2:oM lo 0 h=some l)(w:World) :
  h≤len∧l≤h∧(Instr.sliceBounds oQ len cap lo' hi' none).run P w=.ok (l,h,cap) w:=by
 rcases TM h1 with⟨e1,rfl⟩ | ⟨b1,k1,e1⟩<;>rcases TM h2 with⟨e2,rfl⟩ | ⟨b2,k2,e2⟩
 ·rw[hl.1 e2,hh.1 e1]
  exact⟨Nat.le_refl _,Nat.zero_le _,by simp[Instr.sliceBounds]⟩
 ·rw[hl.2 _ _ e2,hh.1 e1]
  exact⟨Nat.le_refl _,b2,by simp[Instr.sliceBounds,Fs b2]⟩
 ·rw[hl.1 e2,hh.2 _ _ e1]
  exact⟨b1,Nat.zero_le _,by simp[Instr.sliceBounds,Fs (Nat.le_trans b1 hc)]⟩
 ·rw[hl.2 _ _ e2,hh.2 _ _ e1]
  exact⟨b1,b2,by simp[Instr.sliceBounds,Fs (Nat.le_trans b1 hc),Fs b2]⟩
theorem aeS {t:TypeId}(x:Operand)(lo hi:Option Operand)(hd:und P t=some .string):gX P (.slice t x lo hi none) (yF none x lo hi):=by
 intro call e s nm v s' h;rw[yF,lC] at h;obtain⟨h2,rfl⟩:=h;have h2':(lY (ev e x) none fun b=>JR b (lu e lo) (lu e hi))=some v:=h2;obtain⟨b,hb,h3⟩:=Ch.1 h2';unfold JR at h3;obtain⟨hn,e1,h3⟩:=aj.1 h3;obtain⟨ln,e2,h3⟩:=aj.1 h3;obtain⟨r,hr,h3⟩:=aj.1 h3;cases h3;rw[yK,Ce,rA] at hr;obtain⟨_,rfl⟩:=hr;rw[rA] at e1;refine⟨rfl,fun φ a w hE _=>?_⟩;have hx:=hE x (by simp[Op.operands]);rw[hb] at hx;have hl:wy (lu e lo) (lo.map a.eval):=Fq (φ:=φ) fun y hy=>hE y (by simp[Op.operands,hy]);have hh:wy (lu e hi) (hi.map a.eval):=Fq (φ:=φ) fun y hy=>hE y (by simp[Op.operands,hy]);have hsz:b.data.toList.length=b.size:=by
  show b.data.toList.length=b.data.size
  simp
 rw[hsz] at e1;obtain⟨c1,c2,hrun⟩:=KA (P:=P) (oQ:=false) (Nat.le_refl _) hl hh e1 e2 w;refine⟨.string (b.extract ln hn),?_,fun o ho=>?_⟩
 ·have:b.extract ln hn=⟨((b.data.toList.drop ln).take (Nat.sub hn ln)).toArray⟩:=by
   apply ByteArray.ext;rw[ByteArray.data_extract];apply Array.toList_inj.1;simp[Array.toList_extract]
  rw[this];exact .dX rfl
 ·simp only[execOp,ho,tq hx]
  simp[Instr.sliceAt,Instr.slice,dL hd,hrun]
theorem aeT {t el:TypeId}{z:Nat}(x:Operand)(lo hi:Option Operand)(hd:und P t=some (.slice el))(hz:dJ P el=some z):gX P (.slice t x lo hi none) (yF (some z) x lo hi):=by
 intro call e s nm v s' h;rw[yF,lC] at h;obtain⟨h2,rfl⟩:=h;have h2':(sS (ev e x) none fun a n k=>@Option.rec Addr (fun _=>Option Value) (nB n (oB (oM (lu e hi) 0 0) fun h=>oB (oM (lu e lo) 0 h) fun _=>some (.slice none 0 0)) fun _=>none) (fun a=>EN z a n k (lu e lo) (lu e hi)) a)=some v:=h2;obtain⟨b,n,k,hb,h3⟩:=Ci.1 h2';refine⟨rfl,fun φ a w hE _=>?_⟩;have hx:=hE x (by simp[Op.operands]);rw[hb] at hx;have hl:wy (lu e lo) (lo.map a.eval):=Fq (φ:=φ) fun y hy=>hE y (by simp[Op.operands,hy]);have hh:wy (lu e hi) (hi.map a.eval):=Fq (φ:=φ) fun y hy=>hE y (by simp[Op.operands,hy]);cases b with
 | none =>
  obtain⟨rfl,hx'⟩:=Ck hx;obtain⟨hn,e1,h4⟩:=aj.1 h3;obtain⟨ln,e2,h5⟩:=aj.1 h4;cases h5;obtain⟨c1,c2,hrun⟩:=KA (P:=P) (oQ:=true) (Nat.le_refl _) hl hh e1 e2 w;refine⟨.slice none 0 0,.dX ⟨rfl,rfl⟩,fun o ho=>?_⟩;have:hn=0:=by omega
  have:ln=0:=by omega
  subst hn;subst ln;simp only[execOp,ho,hx'];simp[Instr.sliceAt,Instr.slice,dL hd,hrun,run_sizeOf hz]
 | some b =>
  obtain⟨a',c,hx',hs⟩:=pX hx;have h3':EN z b n k (lu e lo) (lu e hi)=some v:=h3;unfold EN at h3';obtain⟨hn,e1,h4⟩:=aj.1 h3';obtain⟨ln,e2,h5⟩:=aj.1 h4;rw[aN,yJ] at h5;obtain⟨hk,hsp,h6⟩:=h5;have hk':=Nat.eq_of_beq_eq_true hk;subst hk';rcases hs with⟨h0,_⟩ | ⟨_,hnc,g,hg,rfl,hroom⟩
  ·exact absurd hsp h0
  obtain⟨c1,c2,hrun⟩:=KA (P:=P) (oQ:=true) hnc hl hh e1 e2 w;have wz:∀ o:Oper,o.op=.slice t x lo hi none→(execOp a.eval o).run P w=.ok (.value (.slice (if c=ln then some ⟨g.b,b.off,none⟩ else some ((⟨g.b,b.off,none⟩:Addr).add (ln * k))) (hn - ln) (c - ln))) w:=by
   intro o ho;simp only[execOp,ho,hx'];simp[Instr.sliceAt,Instr.slice,dL hd,hrun,run_sizeOf hz]
  have Ku:AR φ b ⟨g.b,b.off,none⟩:=⟨hsp,g,hg,rfl⟩;rw[bV,ed] at h6;split at h6
  ·rename_i hle
   have rC:n≤ln:=by simpa using hle
   cases ln with
   | zero =>
    rw[Cb,Tx] at h6;cases h6;refine⟨_,.dX ⟨_,c,?_,.inr ⟨hsp,by show Nat.sub hn 0≤c;simp;omega,g,hg,rfl,hroom⟩⟩,fun o ho=>(wz o ho)⟩;simp[Addr.add]
   | succ ln =>
    rw[Cc] at h6;cases h6;have:hn - (ln+1)=0:=by omega
    exact⟨_,.dX ⟨_,c - (ln+1),by rw[this],.inl ⟨by simp,rfl⟩⟩,fun o ho=>wz o ho⟩
  ·rename_i hle
   have rC:ln<n:=by simpa using hle
   rw[Tx,Kj,show Nat.mul ln k=ln * k from rfl,show Nat.sub hn ln=hn - ln from rfl] at h6;cases h6;refine⟨_,.dX ⟨some ((⟨g.b,b.off,none⟩:Addr).add (ln * k)),c - ln,?_,.inr ?_⟩,fun o ho=>wz o ho⟩
   ·have:c≠ln:=by omega
    rw[if_neg this]
   ·obtain⟨q0,g',q1,q2⟩:=Ku.add (ln * k)
    have hb1:(b.add (ln * k)).block=b.block:=by unfold Addr.add;split<;>rfl
    have hb2:(b.add (ln * k)).off=b.off+ln * k:=by
     unfold Addr.add;split
     ·simp_all
     ·rfl
    rw[hb1,hg] at q1;cases q1;refine⟨q0,by omega,g,by rw[hb1];exact hg,by rw[q2],?_⟩;rw[hb2];have:c * k=ln * k+(c - ln) * k:=by rw[← Nat.add_mul];congr 1;omega
    omega
theorem aeU {t:TypeId}{x:Operand}{lo hi:Option Operand}{f:F}(h:J6 P t x lo hi=some f):gX P (.slice t x lo hi none) f:=by
 unfold J6 at h;split at h
 ·rename_i hd;cases h;exact aeS x lo hi hd
 ·rename_i el hd
  obtain⟨z,hz,h⟩:=aj.1 h;cases h;exact aeT x lo hi hd hz
 ·cases h
theorem TN (a b:ByteArray):(a==b)=decide (a.data.toList=b.data.toList):=by
 have:(a==b)=(a.data==b.data):=rfl;rw[this,Bool.eq_iff_iff];simp
def KD (d:TypeDesc)(ks:Bool):Prop:=(d=.string∧ks=true)∨((∃ k,d=.int k)∧ks=false)
theorem KE {t:TypeId}{ks:Bool}(h:vT P t=some ks):∃ d,und P t=some d∧KD d ks:=by
 unfold vT at h;split at h
 ·rename_i hd;cases h;exact⟨_,hd,.inl ⟨rfl,rfl⟩⟩
 ·rename_i k hd;cases h;exact⟨_,hd,.inr ⟨⟨k,rfl⟩,rfl⟩⟩
 ·cases h
theorem KF {φ:Ph}{ks:Bool}{k k':Value}(h:BP ks k=true)(hv:V φ k k'):k'=k∧V0 φ k k∧((ks=true∧∃ s,k=.string s)∨(ks=false∧∃ q n,k=.int q n)):=by
 unfold BP at h;rw[bV] at h;split at h
 ·rename_i hk
  cases k<;>simp[lY] at h;exact⟨tq hv,rfl,.inl ⟨hk,_,rfl⟩⟩
 ·rename_i hk
  cases k<;>simp[jY] at h;exact⟨nQ hv,rfl,.inr ⟨by simpa using hk,_,_,rfl⟩⟩
theorem Cq {φ:Ph}{d:TypeDesc}{ks:Bool}(hd:KD d ks){k:Value}(hk:(ks=true∧∃ s,k=.string s)∨(ks=false∧∃ q n,k=.int q n)) :
  ∀ (es es':List MapEntry) (i:Nat) (r:Option (Nat × Value)),L (ER φ) es es'→yE k es i=some r →
   (r=none∧Instr.findNow d k es' i=some none)∨∃ j v v' e,r=some (j,v)∧Instr.findNow d k es' i=some (some (j,v'))∧VA φ v v'∧i≤j∧es'[j - i]?=some e∧e.key=k
 | [],[],i,r,_,h=>by
  have h':some none=some r:=h;cases h';exact .inl ⟨rfl,rfl⟩
 | e :: es,e' :: es',i,r,hL,h=>by
  have h1:oB (SQ k e.key) (fun b=>bB b (some (some (i,e.val))) (yE k es (Nat.succ i)))=some r:=h;obtain⟨b,hb,h2⟩:=aj.1 h1;have hs:Instr.sameNow d k e'.key=some b∧(b=true→e'.key=k):=by
   have hkey:=hL.1.1;rcases hk with⟨rfl,s,rfl⟩ | ⟨rfl,q,n,rfl⟩
   ·have hb1:(lY e.key none fun b=>some (pW (sL s) (sL b)))=some b:=hb
    obtain⟨c,hc,hb2⟩:=Ch.1 hb1;rw[hc] at hkey;have hc':e'.key=.string c:=hkey;have hd':d=.string:=by rcases hd with⟨h,_⟩ | ⟨_,h⟩;exact h;cases h
    rw[Fp,rA,rA] at hb2;cases hb2;rw[hc',hd'];refine⟨by simp only[Instr.sameNow,TN],fun ht=>?_⟩;have:s.data.toList=c.data.toList:=by simpa using ht
    rw[ByteArray.ext (Array.toList_inj.1 this)]
   ·have hb1:(jY e.key none fun kb b=>bB (Nat.beq (oL q) (oL kb)) (some (vS n b)) none)=some b:=hb
    obtain⟨q',m,hc,hb2⟩:=sZ.1 hb1;rw[hc] at hkey;have hc':e'.key=.int q' m:=hkey;obtain⟨kk,hd'⟩:∃ kk,d=.int kk:=by rcases hd with⟨_,h⟩ | ⟨h,_⟩;cases h;exact h
    rw[bV] at hb2;split at hb2
    ·rename_i hq
     have:=(Ko _ _).1 hq;subst this;rw[Km] at hb2;cases hb2;rw[hc',hd'];refine⟨by simp only[Instr.sameNow,if_true];congr 1,fun ht=>?_⟩;have:n=m:=by simpa using ht
     rw[this]
    ·cases hb2
  cases b with
  | true =>
   have h3:some (some (i,e.val))=some r:=h2;cases h3;exact .inr ⟨i,e.val,e'.val,e',rfl,by simp[Instr.findNow,hs.1],hL.1.2.1,Nat.le_refl _,by simp,hs.2 rfl⟩
  | false =>
   have h3:yE k es (Nat.succ i)=some r:=h2;rcases Cq hd hk es es' (i+1) r hL.2 h3 with⟨h4,h5⟩ | ⟨j,v,v',x,h4,h5,h6,h7,h8,h9⟩
   ·exact .inl ⟨h4,by simp[Instr.findNow,hs.1,h5]⟩
   ·refine .inr ⟨j,v,v',x,h4,by simp[Instr.findNow,hs.1,h5],h6,by omega,?_,h9⟩
    have:j - i=(j - (i+1))+1:=by omega
    rw[this,List.getElem?_cons_succ];exact h8
 | [],_ :: _,_,_,h,_=>h.elim
 | _ :: _,[],_,_,h,_=>h.elim
theorem run_checkKey {t:TypeId}{d:TypeDesc}{ks:Bool}(ht:und P t=some d)(hd:KD d ks)(b:Bool)(v:Value)(w:World):(Instr.checkKey b 10000 t v).run P w=.ok () w:=by
 show (Instr.checkKey b (9999+1) t v).run P w=_
 unfold Instr.checkKey;rcases hd with⟨rfl,_⟩ | ⟨⟨k,rfl⟩,_⟩<;>cases v<;>simp[dL ht]
theorem TP {φ:Ph}{h:Hp}{w:World}(r:Rel φ h w){m m':Value}(hm:V φ m m'){es:List MapEntry}{k:Nat}(hh:ET h m=some (es,k)) :
  (m'=.map none∧es=[])∨∃ b es',m'=.map (some b)∧w.heap[b]?=some (.map es' k)∧L (ER φ) es es'.toList:=by
 unfold ET at hh;obtain⟨x,rfl,hh⟩:=aeo.1 hh;cases x with
 | none=>have h':some (([]:List MapEntry),0)=some (es,k):=hh;cases h';exact .inl ⟨aes hm,rfl⟩
 | some x =>
  have h':mapOf (h x)=some (es,k):=hh;obtain⟨es0,k0,h1,h2⟩:=Kl.1 h';cases h2;obtain⟨g,hg,rfl⟩:=Kr hm;obtain⟨g',es',hg',hw,hL⟩:=r.obj _ _ h1;rw[hg] at hg';cases hg';exact .inr ⟨g.b,es',rfl,hw,hL⟩
theorem KG {φ:Ph}{ok b:Bool}{v v':Value}(h:VA φ v v'):V φ (okV ok v b) (if ok=true then .tuple #[v',.bool b] else v'):=by
 cases ok
 ·exact .inl h
 ·exact .inr ⟨#[v,.bool b],#[v',.bool b],rfl,rfl,h,.inl (.inl rfl),trivial⟩
theorem aeV {t:TypeId}{x i:Operand}{ok:Bool}{f:F}(h:J5 P t x i ok=some f):gX P (.lookup t x i ok) f:=by
 unfold J5 at h;split at h;case h_2=>cases h
 rename_i kt el hd;obtain⟨ks,hks,h⟩:=aj.1 h;obtain⟨z,hz,h⟩:=aj.1 h;rw[aN] at h;obtain⟨hok,h⟩:=h;cases h;obtain⟨d,hkd,hD⟩:=KE hks;intro call e s nm v s' h;rw[Te,aN] at h;obtain⟨hfit,h⟩:=h;obtain⟨⟨es,k⟩,hm,h⟩:=aj.1 h;rw[gW] at h;obtain⟨r,hr,h⟩:=aj.1 h;cases h;refine⟨rfl,fun φ a w hE hR=>?_⟩;have hx:=hE x (by simp[Op.operands]);have hi:=hE i (by simp[Op.operands]);obtain⟨hki,_,hkk⟩:=KF hfit hi;have hzero:(zeroValue el).run P w=.ok z w:=by
  unfold pV at hz;split at hz
  ·rename_i it hit;simp[zeroValue,typeInfo,hit,hz]
  ·cases hz
 rcases TP hR hx hm with⟨hm',rfl⟩ | ⟨b,es',hm',hw,hL⟩
 ·rcases Cq (φ:=φ) hD hkk [] [] 0 r trivial hr with⟨rfl,h5⟩ | ⟨j,v,v',x,rfl,h5,h6,_⟩
  ·refine⟨_,KG (b:=false) (wu φ hok),fun o ho=>?_⟩
   simp only[execOp,ho,hm',hki];simp[Instr.lookup,dL hd,run_checkKey hkd hD,Instr.findKey,dL hkd,h5,hzero]
  ·cases h5
 ·have hg:(getObj b).run P w=.ok (.map es' k) w:=by simp[getObj,Sem.run,hw]
  rcases Cq hD hkk es es'.toList 0 r hL hr with⟨rfl,h5⟩ | ⟨j,v,v',x,rfl,h5,h6,_⟩
  ·refine⟨_,KG (b:=false) (wu φ hok),fun o ho=>?_⟩
   simp only[execOp,ho,hm',hki];simp[Instr.lookup,dL hd,hg,run_checkKey hkd hD,Instr.findKey,dL hkd,h5,hzero]
  ·refine⟨_,KG (b:=true) h6,fun o ho=>?_⟩
   simp only[execOp,ho,hm',hki];simp[Instr.lookup,dL hd,hg,run_checkKey hkd hD,Instr.findKey,dL hkd,h5]
end Xe
end Go.Proofs.YtfcpglhpolpdcaaGreatDoor

/- Lengths;operations that lay a new block. -/
import Derived.Test.YtfcpglhpolpdcaaGreatDoorM41
import Derived.Great.BuildSlice
import Derived.Laws.MakeOwn
import Derived.ArgAppend
namespace Go.Proofs.YtfcpglhpolpdcaaGreatDoor
namespace Xe
variable {P:Program}
theorem KH {c:Call}{b:Builtin}(hc:c.callee=.builtin b){o:Oper}(ho:o.op=.call c)(ρ:Operand→Value) :
  execOp ρ o=builtin b c.argTypes o.type (c.args.map fun | .const _=>true | _=>false) (c.args.map ρ):=by
 obtain⟨cal,args,ats⟩:=c;simp only at hc;subst hc;simp only[execOp,ho];rfl
theorem aeX {c:Call}{f:F}(hc:c.callee=.builtin .len)(h:sU P c .len=some f):gX P (.call c) f:=by
 unfold sU at h;simp only at h;split at h;case h_2=>cases h
 rename_i x t ts hargs Cr;have hargs':c.args=#[x]:=Array.toList_inj.1 (by simpa using hargs);have rD:c.argTypes[0]?=some t:=by rw[← Array.getElem?_toList,Cr];rfl
 have hop:x ∈ (Op.call c).operands:=by simp[Op.operands,Call.operands,hc,hargs']
 have wz:∀ (a:Act) (w:World) (o:Oper) (r:Value),o.op=.call c→(Builtin.len_ c.argTypes o.type #[a.eval x]).run P w=.ok r w→(execOp a.eval o).run P w=.ok (.value r) w:=by
  intro a w o r ho hr;rw[KH hc ho,hargs'];have:((#[x]:Array Operand).map a.eval)=#[a.eval x]:=by simp
  rw[this];show (do pure (.value (← Builtin.len_ c.argTypes o.type #[a.eval x])):Sem Next).run P w=_
  simp[hr]
 split at h
 ·rename_i hd
  cases h;intro call e s nm v s' h;obtain⟨b,hb,h⟩:=Ch.1 h;rw[lC,wm] at h;obtain⟨h2,rfl⟩:=h;cases h2;refine⟨rfl,fun φ a w hE _=>?_⟩;have hx:=hE x hop;rw[hb] at hx;refine⟨_,.dX rfl,fun o ho=>wz a w o _ ho ?_⟩;rw[tq hx,rA];simp[Builtin.len_,rD,dL hd,goInt]
 ·rename_i el hd
  cases h;intro call e s nm v s' h;obtain⟨b,n,k,hb,h⟩:=Ci.1 h;rw[lC,wm] at h;obtain⟨h2,rfl⟩:=h;cases h2;refine⟨rfl,fun φ a w hE _=>?_⟩;have hx:=hE x hop;rw[hb] at hx;have:∃ a' c',a.eval x=.slice a' n c':=by
   cases b with
   | none=>obtain⟨rfl,h'⟩:=Ck hx;exact⟨none,0,h'⟩
   | some b=>obtain⟨a',c',h',_⟩:=pX hx;exact⟨a',c',h'⟩
  obtain⟨a',c',hx'⟩:=this;refine⟨_,.dX rfl,fun o ho=>wz a w o _ ho ?_⟩;rw[hx'];simp[Builtin.len_,rD,dL hd,goInt]
 ·rename_i kt el hd
  cases h;intro call e s nm v s' h;obtain⟨⟨es,k⟩,hm,h⟩:=aj.1 h;rw[gW,lC,wm] at h;obtain⟨h2,rfl⟩:=h;cases h2;refine⟨rfl,fun φ a w hE hR=>?_⟩;have hx:=hE x hop;refine⟨_,.dX rfl,fun o ho=>wz a w o _ ho ?_⟩;rcases TP hR hx hm with⟨hm',rfl⟩ | ⟨b,es',hm',hw,hL⟩
  ·rw[hm']
   simp[Builtin.len_,rD,dL hd,goInt]
  ·have hg:(getObj b).run P w=.ok (.map es' k) w:=by simp[getObj,Sem.run,hw]
   have:=hL.length;simp at this;rw[hm'];simp[Builtin.len_,rD,dL hd,goInt,hg,this]
 ·cases h
def upd (φ:Ph)(x:Nat)(g:Gh):Ph:=fun y=>if y=x then some g else φ y
theorem l9 (φ:Ph)(x:Nat)(g:Gh):upd φ x g x=some g:=by simp[upd]
theorem yP {φ:Ph}{x:Nat}(h:φ x=none)(g:Gh):Sub φ (upd φ x g):=by
 intro y g' hy;unfold upd;split
 ·rename_i e;subst e;rw[h] at hy;cases hy
 ·exact hy
def yQ (P:Program)(op:Op)(f:F):Prop:=∀ (call:Cl) (e:En) (s:S) (nm:Nat) (v:Value) (s':S),f call e s nm=some (v,s') →
 ∃ ob,iZ ob∧(∀ (call2:Cl) (s2:S),f call2 e s2 nm=some (v,⟨s2.c,setH s2.h nm ob,s2.ds⟩)) ∧
  ∀ (φ:Ph) (a:Act) (w:World),pY φ e a op→φ nm=none→∃ o' n v',(∀ o:Oper,o.op=op→(execOp a.eval o).run P w=.ok (.value v') (w.alloc o')) ∧
   V (upd φ nm ⟨w.heap.size,n⟩) v v'∧∀ w':World,w'.heap[w.heap.size]?=some o'→OR (upd φ nm ⟨w.heap.size,n⟩) w' nm ob
theorem p8 (s:S)(nm:Nat)(o:Obj)(f:Nat→Value):newAt s nm o f=some (f nm,⟨s.c,setH s.h nm o,s.ds⟩):=by
 unfold newAt;rw[oP,jZ]
theorem aeY {t:TypeId}{z:Value}(hz:pV P t=some z)(w:World):(zeroValue t).run P w=.ok z w:=by
 unfold pV at hz;split at hz
 ·rename_i it hit;simp[zeroValue,typeInfo,hit,hz]
 ·cases hz
theorem KI (z:Value):lZ z=z.cells.toList:=by cases z<;>first | rfl | (show aL _=_;rw[bL];rfl)
theorem Fu {φ:Ph}{w w':World}{nm:Nat}{c c':Array Value}{t t':TypeId}{fr:Nat × Nat}(hL:L (V1 φ) c.toList c'.toList)(h0:φ nm=none)(hw:w'.heap[w.heap.size]?=some (.cells c' t')) :
  OR (upd φ nm ⟨w.heap.size,c'.size⟩) w' nm (.cells c t fr):=by
 have hl:=hL.length;simp at hl;refine⟨⟨w.heap.size,c'.size⟩,c',t',(0,0),l9 φ nm _,hw,rfl,fun _=>rfl,by omega,?_⟩;rw[hl,List.take_of_length_le (by simp)];exact hL.mono fun _ _=>V1.mono (yP h0 _)
theorem aeZ {t:TypeId}{z:Value}(hz:pV P t=some z)(hok:rf z=true):yQ P (.alloc t) (JV (.cells z.cells t)):=by
 intro call e s nm v s' h;unfold JV at h;rw[p8] at h;cases h;refine⟨.cells z.cells t,trivial,fun call2 s2=>p8 _ _ _ _,fun φ a w _ h0=>⟨.cells z.cells t,z.cells.size,.pointer (some ⟨w.heap.size,0,none⟩),fun o ho=>?_,.dX ⟨_,rfl,rfl,_,l9 φ nm _,rfl⟩,fun w' hw=>?_⟩⟩
 ·simp only[execOp,ho]
  simp[Instr.alloc,aeY hz,newVar,newRow]
 ·have:=wo (wu φ hok)
  rw[KI] at this;exact Fu this h0 hw
theorem ae0 (t:TypeId)(x:Operand):yQ P (.box t x) (EU t x):=by
 intro call e s nm v s' h;unfold EU at h;rw[aN,p8] at h;obtain⟨hn,h⟩:=h;cases h;refine⟨.cells (lZ (ev e x)).toArray t,trivial,fun call2 s2=>by unfold EU;rw[aN];exact⟨hn,p8 _ _ _ _⟩,fun φ a w hE h0=>⟨.cells (a.eval x).cells t,(a.eval x).cells.size,.pointer (some ⟨w.heap.size,0,none⟩),fun o ho=>?_,.dX ⟨_,rfl,rfl,_,l9 φ nm _,rfl⟩,fun w' hw=>?_⟩⟩
 ·simp only[execOp,ho]
  simp[Instr.box,newVar,newRow]
 ·exact Fu (by simpa using wo (yN (hE x (by simp[Op.operands])) hn)) h0 hw
theorem ae1 (t:TypeId):yQ P (.makeMap t none) JW:=by
 intro call e s nm v s' h;unfold JW at h;rw[p8] at h;cases h;refine⟨.map #[] 0,trivial,fun call2 s2=>p8 _ _ _ _,fun φ a w _ h0=>⟨.map #[] 0,0,.map (some w.heap.size),fun o ho=>?_,.dX ⟨_,l9 φ nm _,rfl⟩,fun w' hw=>⟨_,#[],l9 φ nm _,hw,trivial⟩⟩⟩;simp only[execOp,ho];simp[Instr.makeMap]
theorem TQ (z:List Value):∀ (n i:Nat),i<n * z.length→(jD z n)[i]?=z[i % z.length]?
 | 0,i,h=>by simp at h
 | n+1,i,h=>by
  show (z++jD z n)[i]?=_
  rw[List.getElem?_append];split
  ·rename_i hi;rw[Nat.mod_eq_of_lt hi]
  ·rename_i hi
   rw[TQ z n (i - z.length) (by rw[Nat.add_mul] at h;omega),← Nat.mod_eq_sub_mod (by omega)]
theorem Fv (z:List Value):∀ n:Nat,(jD z n).length=n * z.length
 | 0=>by show ([]:List Value).length=_;simp
 | n+1=>by show (z++jD z n).length=_;rw[List.length_append,Fv z n,Nat.add_mul];omega
theorem TR (z:Array Value)(n:Nat)(hz:0<z.size):((Array.range (n * z.size)).map (z[· % z.size]!)).toList=jD z.toList n:=by
 apply List.ext_getElem?;intro i;rcases Nat.lt_or_ge i (n * z.size) with h | h
 ·rw[TQ z.toList n i (by simpa using h)]
  have hm:i % z.size<z.size:=Nat.mod_lt _ hz;simp[h,hm]
 ·rw[List.getElem?_eq_none (by simpa using h),List.getElem?_eq_none (by rw[Fv];simpa using h)]
theorem KJ {φ:Ph}{z:List Value}(h:L (V1 φ) z z):∀ n,L (V1 φ) (jD z n) (jD z n)
 | 0=>trivial
 | n+1=>h.app (KJ h n)
theorem ae2 {t:TypeId}{n:Nat}{parts:Array (Nat × Operand)}{f:F}(h:J8 P t n parts.toList=some f):yQ P (.buildSlice t n parts) f:=by
 unfold J8 at h;split at h;case h_2=>cases h
 rename_i el hd;obtain⟨z,hz,h⟩:=aj.1 h;obtain⟨zs,hzs,h⟩:=aj.1 h;rw[aN,aN,aN,aN] at h;obtain⟨hok,hsz,hsm,hpos,h⟩:=h;cases h;intro call e s nm v s' h;unfold fRow at h;obtain⟨r,hr,h⟩:=aj.1 h;rw[p8] at h;cases h;have hinfo:∃ ie,P.info? el=some ie∧ie.size=z∧ie.zero=some zs:=by
  unfold dJ at hz;unfold pV at hzs;split at hz
  ·rename_i ie hie
   rw[hie] at hzs;cases hz;exact⟨ie,hie,rfl,hzs⟩
  ·cases hz
 obtain⟨ie,hie,rfl,hzero⟩:=hinfo;have hsz':zs.cells.size=ie.size:=Nat.eq_of_beq_eq_true hsz;have hpos':0<ie.size:=by rw[ed] at hpos;simp at hpos;omega
 have aii:n * ie.size≤16777216:=by rw[ed] at hsm;simpa using hsm
 refine⟨.cells r.toArray el,trivial,fun call2 s2=>by unfold fRow;rw[hr];exact p8 _ _ _ _,fun φ a w hE h0=>?_⟩;have hparts:L (PR φ) (yG e parts.toList) ((parts.map fun (i,x)=>(i,a.eval x)).toList):=by
  rw[Ky,Array.toList_map];exact yO fun p hp=>⟨rfl,hE p.2 (by simp[Op.operands];exact⟨p.1,by simpa using hp⟩)⟩
 have hz0:L (V1 φ) (jD zs.cells.toList n) ((Array.range (n * ie.size)).map (zs.cells[· % zs.cells.size]!)).toList:=by
  rw[← hsz',TR zs.cells n (by omega)];have:=wo (wu φ hok);rw[KI] at this;exact KJ this n
 obtain⟨r',hf,hL⟩:=Kw _ _ _ r _ hparts hz0 hr;have hrlen:r'.size=n * ie.size:=by
  have h1:=hL.length;have h2:∀ (ps:List (Nat × Value)) (c r:List Value),yD (fun i=>some (Nat.mul i ie.size,ie.size)) ps c=some r→r.length=c.length:=by
   intro ps;induction ps with
   | nil=>intro c r h;have h':some c=some r:=h;cases h';rfl
   | cons p ps ih =>
    intro c r h;obtain⟨i,v⟩:=p;have h1:aO (pQ v) (aO (Nat.beq ie.size (lZ v).length) (oB (q8 (Nat.mul i ie.size) c (lZ v)) fun c=>yD (fun i=>some (Nat.mul i ie.size,ie.size)) ps c))=some r:=h;rw[aN,aN] at h1;obtain⟨_,_,h1⟩:=h1;obtain⟨c2,h3,h4⟩:=aj.1 h1;obtain⟨_,hle,rfl⟩:=(Co _ _ _ _).1 h3;rw[ih _ _ h4];simp only[List.length_append,List.length_take,List.length_drop];omega
  have h3:=h2 _ _ _ hr;rw[Fv] at h3;simp at h1 h3;rw[hsz'] at h3;omega
 refine⟨.cells r' el,r'.size,.slice (some ⟨w.heap.size,0,none⟩) n n,fun o ho=>?_,.dX ⟨_,n,rfl,.inr ⟨rfl,Nat.le_refl _,_,l9 φ nm _,rfl,?_⟩⟩,fun w' hw=>Fu (by simpa using hL) h0 hw⟩
 ·simp only[execOp,ho]
  by_cases h0:n * ie.size=0
  ·have hn:n=0:=by rcases Nat.mul_eq_zero.1 h0 with h | h;exact h;omega
   subst hn;have hf':Instr.fill (fun i=>some (i * ie.size,ie.size)) #[] (parts.map fun (i,x)=>(i,a.eval x)).toList=some r':=by
    have e1:((Array.range (0 * ie.size)).map (zs.cells[· % zs.cells.size]!))=#[]:=by simp
    rw[e1] at hf;exact hf
   simp at hf';simp[Instr.buildSlice,dL hd,run_sizeOf hz,newRow,Array.range_zero',hf']
  ·have:=run_buildSlice (P:=P) w t el n (parts.map fun (i,x)=>(i,a.eval x)) r' ie zs hd hie hzero (by omega) h0 hf
   rw[Sem.run_bind,this];rfl
 ·show 0+n * ie.size≤r'.size
  omega
theorem TT {x:Value}{n:Nat}(h:EW x=some n):∃ k:IntKind,x=.int k (n:Int):=by
 unfold EW at h;obtain⟨k,i,rfl,h⟩:=sZ.1 h;cases i with
 | negSucc i=>cases h
 | ofNat i=>have h':some i=some n:=h;cases h';exact⟨k,rfl⟩
theorem ae3 {t:TypeId}{x c:Operand}{f:F}(h:J9 P t x c=some f):yQ P (.makeSlice t x c) f:=by
 unfold J9 at h;split at h;case h_2=>cases h
 rename_i el hd;obtain⟨ie,hie,h⟩:=aj.1 h;obtain⟨zs,hzero,h⟩:=aj.1 h;rw[aN,aN,aN] at h;obtain⟨hok,hsz,hpos,h⟩:=h;cases h;intro call e s nm v s' h;unfold JX at h;obtain⟨n,hn,h⟩:=aj.1 h;obtain⟨k,hk,h⟩:=aj.1 h;rw[aN,aN,aN,p8] at h;obtain⟨hnk,hb1,hb2,h⟩:=h;cases h;have ae4:=Nat.eq_of_beq_eq_true hnk;subst ae4;have hsz':zs.cells.size=ie.size:=Nat.eq_of_beq_eq_true hsz;have hpos':0<ie.size:=by rw[ed] at hpos;simp at hpos;omega
 have hb1':n≤1000000:=by rw[ed] at hb1;simpa using hb1
 have hb2':ie.bytes≤1000000:=by rw[ed] at hb2;simpa using hb2
 refine⟨.cells (jD zs.cells.toList n).toArray el,trivial,fun call2 s2=>?_,fun φ a w hE h0=>?_⟩
 ·unfold JX
  rw[hn,hk];show aO _ _=_
  rw[aN,aN,aN];exact⟨hnk,hb1,hb2,p8 _ _ _ _⟩
 have hx:=hE x (by simp[Op.operands]);have hc:=hE c (by simp[Op.operands]);obtain⟨q1,e1⟩:=TT hn;obtain⟨q2,e2⟩:=TT hk;rw[e1] at hx;rw[e2] at hc;have hz0:L (V1 φ) (jD zs.cells.toList n) (jD zs.cells.toList n):=by
  have:=wo (wu φ hok);rw[KI] at this;exact KJ this n
 have hmul:n * ie.bytes≤1000000000000:=Nat.le_trans (Nat.mul_le_mul hb1' hb2') (by omega);have aij:¬ ((2:Int) ^ 48<(ie.bytes:Int) * (n:Int)):=by
  have:((ie.bytes:Int) * (n:Int))=((n * ie.bytes:Nat):Int):=by rw[Int.natCast_mul,Int.mul_comm]
  rw[this];omega
 have hcells:madeCells zs.cells (n * ie.size)=(jD zs.cells.toList n).toArray:=by
  apply Array.toList_inj.1;rw[← hsz'];simpa[madeCells] using TR zs.cells n (by omega)
 have hrun:=run_make (P:=P) w t el ie zs hd hie hzero q1 q2 (n:Int) (n:Int) (by omega) (Int.le_refl _) (by omega) (by omega);simp only[Int.toNat_natCast] at hrun;rw[hcells] at hrun;refine⟨.cells (jD zs.cells.toList n).toArray el,n * ie.size,.slice (some ⟨w.heap.size,0,none⟩) n n,fun o ho=>?_,.dX ⟨_,n,rfl,.inr ⟨rfl,Nat.le_refl _,_,l9 φ nm _,rfl,by show 0+n * ie.size≤n * ie.size;omega⟩⟩,fun w' hw=>?_⟩
 ·simp only[execOp,ho,nQ hx,nQ hc]
  rw[Sem.run_bind,hrun];rfl
 ·have:=Fu (nm:=nm) (t:=el) (t':=el) (fr:=(0,0)) (c:=(jD zs.cells.toList n).toArray) (c':=(jD zs.cells.toList n).toArray) (by simpa using hz0) h0 hw
  have hs:(jD zs.cells.toList n).toArray.size=n * ie.size:=by simp[Fv,hsz']
  rw[hs] at this;exact this
end Xe
namespace Xe
variable {P:Program}
def Cs (P:Program)(op:Op)(f:F):Prop:=∀ (call:Cl) (e:En) (s:S) (nm:Nat) (v:Value) (s':S),f call e s nm=some (v,s') →
 s'.ds=s.ds∧∀ (φ:Ph) (a:Act) (w:World),pY φ e a op→dK φ s w→∃ φ' v' w',V φ' v v'∧Post φ s w φ' s' w' ∧
  ∀ o:Oper,o.op=op→(execOp a.eval o).run P w=.ok (.value v') w'∨(v'=undef∧(execOp a.eval o).run P w=.ok .skip w')
theorem TU (w:World)(g:Nat)(cs:Array Value):Oe w (w.setRow g cs):=⟨rfl,rfl,rfl⟩
theorem Post.mod {φ:Ph}{s:S}{w w':World}{x:Nat}{o2:Obj}{g:Gh}(h:dK φ s w)(h3:3≤x)(hx:live s.h x)(hg:φ x=some g)(hsz:w'.heap.size=w.heap.size)(hout:Oe w w')
  (hkeep:∀ b,b≠g.b→w'.heap[b]?=w.heap[b]?) (hor:OR φ w' x o2):Post φ s w φ ⟨s.c,setH s.h x o2,s.ds⟩ w':=by
 have hl:∀ y,live (setH s.h x o2) y→live s.h y:=by
  rintro y ⟨o,hy,hi⟩;rw[iC] at hy;split at hy
  ·rename_i e;subst e;exact hx
  ·exact⟨o,hy,hi⟩
 refine⟨⟨⟨?_,?_,?_,h.rel.l8⟩,h.fr⟩,⟨Sub.refl φ,by omega,fun y g' h0 h1=>(by rw[h0] at h1;cases h1),?_,hout⟩,Nat.le_refl _,fun y h0 h1=>(h1 h0).elim,fun y hy=>.inl (hl y hy)⟩
 ·intro y o hy0
  have hy:setH s.h x o2 y=some o:=hy0;rw[iC] at hy;split at hy
  ·rename_i e
   subst e;cases hy;exact hor
  ·rename_i hne
   by_cases hi:iZ o
   ·refine (h.rel.obj y o hy).mono (Sub.refl φ) fun g' hg'=>hkeep g'.b fun e=>hne ?_
    exact h.rel.inj y x g' g ⟨o,hy,hi⟩ hx hg' hg e
   ·cases o<;>simp only[iZ,not_true_eq_false] at hi<;>exact trivial
 ·exact fun y z g1 g2 hy hz=>h.rel.inj y z g1 g2 (hl y hy) (hl z hz)
 ·intro y g' hy
  show g'.b<w'.heap.size
  rw[hsz];exact h.rel.bnd y g' hy
 ·intro b _ hn
  exact hkeep b fun e=>hn x g h3 hx hg e.symm
theorem ae5 {φ:Ph}{v v':Value}(h:V1 φ v v'):v'.oneCell'=true:=by
 rcases h with h | ⟨_,_,_,_,_,_,rfl,_⟩
 ·unfold V0 at h
  split at h;case h_1=>subst h;rfl
  case h_2=>subst h;rfl
  case h_3=>subst h;rfl
  case h_4=>subst h;rfl
  case h_5=>obtain⟨_,rfl,_⟩:=h;rfl
  case h_6=>obtain⟨_,rfl⟩:=h;rfl
  case h_7=>obtain⟨_,_,rfl,_⟩:=h;rfl
  case h_8=>subst h;rfl
  case h_9=>obtain⟨_,_,rfl⟩:=h;rfl
  case h_10=>subst h;rfl
  case h_11=>exact h.elim
 ·rfl
theorem Fw {φ:Ph}:∀ {l l':List Value},L (V1 φ) l l'→∀ v ∈ l',v.oneCell'=true
 | [],[],_,_,h=>by cases h
 | a :: l,b :: l',h,v,hv=>by
  rcases List.mem_cons.1 hv with rfl | hv
  ·exact ae5 h.1
  ·exact Fw h.2 v hv
 | [],_ :: _,h,_,_=>h.elim
 | _ :: _,[],h,_,_=>h.elim
theorem KL {s s':S}{a:Addr}{vs:List Value}(h:BI s a vs=some s') :
  a.spot=none∧3≤a.block∧∃ c e f c',s.h a.block=some (.cells c e f)∧q8 a.off c.toList vs=some c'∧s'=⟨s.c,setH s.h a.block (.cells c'.toArray e f),s.ds⟩:=by
 unfold BI at h;rw[Cf,yJ,jZ,aN] at h;obtain⟨h0,h1,h⟩:=h;obtain⟨ob,fZ,h⟩:=aj.1 h;cases ob<;>simp only[BH] at h<;>try cases h
 rename_i c e f;obtain⟨c',hc,h⟩:=aj.1 h;rw[bL] at hc;cases h;exact⟨h0,by rw[ed] at h1;simpa using h1,c,e,f,c',fZ,hc,rfl⟩
theorem OR.wrote {φ:Ph}{w w':World}{x:Nat}{c:Array Value}{e e2:TypeId}{f2:Nat × Nat}{vs vs':List Value}{off:Nat}{g:Gh}{cur:Array Value}{e':TypeId}(hg:φ x=some g)
  (hw:w.heap[g.b]?=some (.cells cur e' (0,0))) (hn:cur.size=g.n) (hle:c.size≤cur.size) (hL:L (V1 φ) c.toList (cur.toList.take c.size)) (hv:L (V1 φ) vs vs') (hoff:off+vs.length≤c.size)
  (hw':w'.heap[g.b]?=some (.cells (cur.toList.take off++vs'++cur.toList.drop (off+vs'.length)).toArray e2 (0,0))) :
  OR φ w' x (.cells (c.toList.take off++vs++c.toList.drop (off+vs.length)).toArray e f2):=by
 have _:=hw;have hvl:=hv.length;refine⟨g,_,e2,(0,0),hg,hw',?_,fun _=>rfl,?_,?_⟩
 ·simp;omega
 ·simp;omega
 ·have e1:(c.toList.take off++vs++c.toList.drop (off+vs.length)).toArray.size=c.size:=by simp;omega
  rw[e1];have key:((cur.toList.take off++vs'++cur.toList.drop (off+vs'.length))).take c.size=(cur.toList.take c.size).take off++vs'++(cur.toList.take c.size).drop (off+vs'.length):=by
   apply List.ext_getElem?;intro i;rcases Nat.lt_or_ge i c.size with hi | hi
   ·rw[List.getElem?_take_of_lt hi]
    simp only[List.getElem?_append,List.length_append,List.length_take,List.getElem?_take,List.getElem?_drop,Array.length_toList];split<;>(try split)<;>(try split)<;>(try split)<;>(try split)<;>first | rfl | omega | (congr 1;omega) | skip
    all_goals first | rfl | omega | (congr 1;omega) | skip
   ·rw[List.getElem?_eq_none (by simp;omega),List.getElem?_eq_none (by simp;omega)]
  show L (V1 φ) _ (List.take c.size (cur.toList.take off++vs'++cur.toList.drop (off+vs'.length)))
  rw[key];exact hL.over hv off
theorem ae6 {t:TypeId}{n:Nat}(x y:Operand)(hn:dJ P t=some n):Cs P (.store t x y) (l6 n x y):=by
 intro call e s nm v s' h;obtain⟨b,hb,h⟩:=aj.1 h;rw[yL] at hb;rw[aN,aN] at h;obtain⟨ht,hlen,h⟩:=h;obtain⟨s1,h1,h⟩:=aj.1 h;cases h;obtain⟨hsp,h3,c,el,f,c',hc,hov,rfl⟩:=KL h1;obtain⟨_,hle,rfl⟩:=(Co _ _ _ _).1 hov;refine⟨rfl,fun φ a w hE hS=>?_⟩;have hx:=hE x (by simp[Op.operands]);have hy:=hE y (by simp[Op.operands]);rw[hb] at hx;obtain⟨a',ha,_,g,hg,rfl⟩:=yM hx;have hcv:=wo (yN hy ht);obtain⟨g',cur,e',fr,hg',hw,hn',hfr,rC,hL⟩:=hS.rel.obj _ _ hc;rw[hg] at hg';cases hg';have KN:=hfr h3;subst KN;have hvl:=hcv.length;have hfit:b.off+0+(a.eval y).cells.toList.length≤cur.size:=by
  simp at hle hvl ⊢;omega
 have hst:=run_storeCells_at P g.b b.off e' (a.eval y).cells.toList 0 cur w hw hfit (Fw hcv);simp only[Nat.add_zero] at hst;refine⟨φ,undef,_,V.undef φ,Post.mod hS h3 ⟨_,hc,trivial⟩ hg (setRow_size _ _ _) (TU _ _ _) (fun k hk=>setRow_other _ _ _ _ hk) (OR.wrote hg hw hn' rC hL hcv (by simpa using hle) (setRow_heap w g.b cur _ e' (0,0) hw)),fun o ho=>.inr ⟨rfl,?_⟩⟩;have hlen':(a.eval y).cells.size=n:=by
  have:=Nat.eq_of_beq_eq_true hlen;simp at hvl;omega
 simp only[execOp,ho,ha];simp[Instr.storeAt,Instr.sureAddr,storeVar,hlen',run_sizeOf hn,hst]
end Xe
namespace Xe
variable {P:Program}
theorem sameBits_self {k:Value}(h:(∃ s,k=.string s)∨∃ q n,k=.int q n)(m:Nat):Instr.sameBits m k k=true:=by
 rcases h with⟨s,rfl⟩ | ⟨q,n,rfl⟩
 ·unfold Instr.sameBits;simp[TN]
 ·unfold Instr.sameBits;simp
theorem Fx {w:World}{b:Nat}{es:Array MapEntry}{k:Nat}(hw:w.heap[b]?=some (.map es k))(o:Obj):(setObj b o).run P w=.ok () { w with heap:=w.heap.setIfInBounds b o }:=by
 simp[setObj,Sem.run,hw]
theorem TV {t kt el:TypeId}{ks:Bool}(m k x:Operand)(hd:und P t=some (.map kt el))(hks:vT P kt=some ks)(op:Op)(hop:op=.mapUpdate t m k x∨op=.insert t m k x):Cs P op (EY ks m k x):=by
 obtain⟨d,hkd,hD⟩:=KE hks;intro call e s nm v s' h;rw[EY,aN,aN] at h;obtain⟨hn,hfit,h⟩:=h;obtain⟨r,hr,h⟩:=aj.1 h;rw[TA] at hr;rw[aN,ed] at h;obtain⟨h3,h⟩:=h;have h3:3≤r:=by simpa using h3
 obtain⟨⟨es,cl⟩,hm,h⟩:=aj.1 h;rw[gW] at h;obtain⟨f,hf,h⟩:=aj.1 h;obtain⟨s1,h1,h⟩:=aj.1 h;cases h;obtain⟨es0,cl0,fZ,he⟩:=Kl.1 hm;cases he;have hops:m ∈ op.operands∧k ∈ op.operands∧x ∈ op.operands:=by rcases hop with rfl | rfl<;>simp[Op.operands]
 have hds:s'.ds=s.ds:=by
  cases f with
  | none=>have h':some (⟨s.c,setH s.h r (.map (es0.toList++[(⟨ev e k,ev e x,cl⟩:MapEntry)]).toArray (cl+1)),s.ds⟩:S)=some s':=h1;cases h';rfl
  | some p =>
   have h':oB (nth es0.toList p.1) (fun en=>some (⟨s.c,setH s.h r (.map (es0.toList.set p.1 (⟨ev e k,ev e x,en.born⟩:MapEntry)).toArray cl),s.ds⟩:S))=some s':=h1;obtain⟨en,_,h'⟩:=aj.1 h';cases h';rfl
 refine⟨hds,fun φ a w hE hS=>?_⟩;have hme:=hE m hops.1;have hke:=hE k hops.2.1;have hxe:=hE x hops.2.2;rw[hr] at hme;obtain⟨g,hg,hm'⟩:=Kr hme;obtain⟨hki,hk0,hkk⟩:=KF hfit hke;obtain⟨g',es',hg',hw,hL⟩:=hS.rel.obj _ _ fZ;rw[hg] at hg';cases hg';have hgo:(getObj g.b).run P w=.ok (.map es' cl) w:=by simp[getObj,Sem.run,hw]
 have hlt:g.b<w.heap.size:=hS.rel.bnd _ _ hg;have ae8:(∃ s,ev e k=.string s)∨∃ q n,ev e k=.int q n:=hkk.imp (fun h=>h.2) (fun h=>h.2);have jE:∀ (o:Oper),o.op=op→∀ w':World,(Instr.mapUpdate t (.map (some g.b)) (ev e k) (a.eval x)).run P w=.ok () w'→(execOp a.eval o).run P w=.ok .skip w':=by
  intro o ho w' hrun;have e1:(execOp a.eval o)=(do Instr.mapUpdate t (.map (some g.b)) (ev e k) (a.eval x);pure .skip):=by
   rcases hop with rfl | rfl<;>simp only[execOp,ho,hm',hki]
  rw[e1];simp[hrun]
 rcases Cq hD hkk es0.toList es'.toList 0 f hL hf with⟨rfl,h5⟩ | ⟨j,u,u',en',rfl,h5,h6,_,h8,h9⟩
 ·have h':some (⟨s.c,setH s.h r (.map (es0.toList++[(⟨ev e k,ev e x,cl⟩:MapEntry)]).toArray (cl+1)),s.ds⟩:S)=some s':=h1
  cases h';refine⟨φ,undef,{ w with heap:=w.heap.setIfInBounds g.b (.map (es'.push ⟨ev e k,a.eval x,cl⟩) (cl+1)) },V.undef φ,Post.mod hS h3 ⟨_,fZ,trivial⟩ hg (by simp) ⟨rfl,rfl,rfl⟩ (fun b hb=>by simp[Array.getElem?_setIfInBounds_ne (Ne.symm hb)]) ?_,fun o ho=>.inr ⟨rfl,jE o ho _ ?_⟩⟩
  ·refine⟨g,es'.push ⟨ev e k,a.eval x,cl⟩,hg,by simp[hlt],?_⟩
   simp only[Array.toList_push];exact hL.app ⟨⟨hk0,yN hxe hn,rfl⟩,trivial⟩
  ·simp[Instr.mapUpdate,dL hd,hgo,run_checkKey hkd hD,Instr.findKey,dL hkd,h5,Fx hw]
 ·have h':oB (nth es0.toList j) (fun en=>some (⟨s.c,setH s.h r (.map (es0.toList.set j (⟨ev e k,ev e x,en.born⟩:MapEntry)).toArray cl),s.ds⟩:S))=some s':=h1
  obtain⟨en,hen,h'⟩:=aj.1 h';cases h';rw[kJ] at hen;obtain⟨y,hy,hER⟩:=hL.at hen;have h8':es'.toList[j]?=some en':=by simpa using h8
  rw[h8'] at hy;cases hy;have hkeys:(es'[j]?).map (·.key)=some (ev e k):=by
   have:es'[j]?=some en':=by simpa using h8'
   rw[this];simp[h9]
  have hmod:(es'.modify j fun e0=>{ e0 with key:=ev e k,val:=a.eval x }).toList=es'.toList.set j ⟨ev e k,a.eval x,en'.born⟩:=by
   apply List.ext_getElem?;intro i;have hj:es'[j]?=some en':=by simpa using h8'
   rw[Array.getElem?_toList,Array.getElem?_modify,List.getElem?_set];split
   ·rename_i e1;subst e1
    have hlt:j<es'.toList.length:=(List.getElem?_eq_some_iff.1 h8').1;rw[hj];simp at hlt;simp[hlt]
   ·simp
  refine⟨φ,undef,{ w with heap:=w.heap.setIfInBounds g.b (.map (es'.modify j fun e0=>{ e0 with key:=ev e k,val:=a.eval x }) cl) },V.undef φ,Post.mod hS h3 ⟨_,fZ,trivial⟩ hg (by simp) ⟨rfl,rfl,rfl⟩ (fun b hb=>by simp[Array.getElem?_setIfInBounds_ne (Ne.symm hb)]) ?_,fun o ho=>.inr ⟨rfl,jE o ho _ ?_⟩⟩
  ·refine⟨g,es'.modify j fun e0=>{ e0 with key:=ev e k,val:=a.eval x },hg,by simp[hlt],?_⟩
   rw[hmod];exact hL.set j ⟨hk0,yN hxe hn,hER.2.2⟩
  ·simp[Instr.mapUpdate,dL hd,hgo,run_checkKey hkd hD,Instr.findKey,dL hkd,h5,Instr.keyThatStays,hkeys,sameBits_self ae8,Fx hw]
theorem afa {c:Call}{f:F}(hc:c.callee=.builtin .delete)(h:sU P c .delete=some f):Cs P (.call c) f:=by
 unfold sU at h;simp only at h;split at h;case h_2=>cases h
 rename_i x k t ts hargs Cr;split at h;case h_2=>cases h
 rename_i kt el hd;obtain⟨ks,hks,h⟩:=aj.1 h;cases h;obtain⟨d,hkd,hD⟩:=KE hks;have hargs':c.args=#[x,k]:=Array.toList_inj.1 (by simpa using hargs);have rD:c.argTypes[0]?=some t:=by rw[← Array.getElem?_toList,Cr];rfl
 have Fy:x ∈ (Op.call c).operands:=by simp[Op.operands,Call.operands,hc,hargs']
 have afb:k ∈ (Op.call c).operands:=by simp[Op.operands,Call.operands,hc,hargs']
 intro call e s nm v s' h;rw[Tg,aN] at h;obtain⟨hfit,h⟩:=h;obtain⟨r,hr,h⟩:=aj.1 h;rw[TA] at hr;rw[aN,ed] at h;obtain⟨h3,h⟩:=h;have h3:3≤r:=by simpa using h3
 obtain⟨⟨es,cl⟩,hm,h⟩:=aj.1 h;rw[gW] at h;obtain⟨f,hf,h⟩:=aj.1 h;cases h;obtain⟨es0,cl0,fZ,he⟩:=Kl.1 hm;cases he;refine⟨by cases f<;>rfl,fun φ a w hE hS=>?_⟩;have hme:=hE x Fy;have hke:=hE k afb;rw[hr] at hme;obtain⟨g,hg,hm'⟩:=Kr hme;obtain⟨hki,hk0,hkk⟩:=KF hfit hke;obtain⟨g',es',hg',hw,hL⟩:=hS.rel.obj _ _ fZ;rw[hg] at hg';cases hg';have hgo:(getObj g.b).run P w=.ok (.map es' cl) w:=by simp[getObj,Sem.run,hw]
 have hlt:g.b<w.heap.size:=hS.rel.bnd _ _ hg;have jE:∀ (o:Oper),o.op=.call c→∀ w':World,(Builtin.delete_ c.argTypes o.type #[.map (some g.b),ev e k]).run P w=.ok (.tuple #[]) w'→(execOp a.eval o).run P w=.ok (.value (.tuple #[])) w':=by
  intro o ho w' hrun;rw[KH hc ho,hargs'];have:((#[x,k]:Array Operand).map a.eval)=#[.map (some g.b),ev e k]:=by simp[hm',hki]
  rw[this];show (do pure (.value (← Builtin.delete_ c.argTypes o.type #[.map (some g.b),ev e k])):Sem Next).run P w=_
  simp[hrun]
 rcases Cq hD hkk es0.toList es'.toList 0 f hL hf with⟨rfl,h5⟩ | ⟨j,u,u',en',rfl,h5,h6,_,h8,h9⟩
 ·have hsame:({ w with heap:=w.heap.setIfInBounds g.b (.map es' cl) }:World)=w:=by
   have:w.heap.setIfInBounds g.b (.map es' cl)=w.heap:=by
    apply Array.ext_getElem?;intro i;by_cases hi:g.b=i
    ·subst hi;simp[hlt]
     have:=(Array.getElem?_eq_some_iff.1 hw).2;exact this.symm
    ·simp[Array.getElem?_setIfInBounds_ne hi]
   rw[this]
  refine⟨φ,.tuple #[],w,.inr ⟨#[],#[],rfl,rfl,trivial⟩,Post.refl hS,fun o ho=>.inl (jE o ho _ ?_)⟩;have:=Fx (P:=P) hw (.map es' cl);rw[hsame] at this;simp[Builtin.delete_,rD,dL hd,hgo,run_checkKey hkd hD,Instr.findKey,dL hkd,h5,this]
 ·refine⟨φ,.tuple #[],{ w with heap:=w.heap.setIfInBounds g.b (.map (es'.eraseIdxIfInBounds j) cl) },.inr ⟨#[],#[],rfl,rfl,trivial⟩,Post.mod hS h3 ⟨_,fZ,trivial⟩ hg (by simp) ⟨rfl,rfl,rfl⟩ (fun b hb=>by simp[Array.getElem?_setIfInBounds_ne (Ne.symm hb)]) ?_,fun o ho=>.inl (jE o ho _ ?_)⟩
  ·refine⟨g,es'.eraseIdxIfInBounds j,hg,by simp[hlt],?_⟩
   have:(es'.eraseIdxIfInBounds j).toList=es'.toList.eraseIdx j:=by
    unfold Array.eraseIdxIfInBounds;split
    ·simp
    ·rw[List.eraseIdx_of_length_le (by simpa using by omega)]
   rw[this];exact hL.erase j
  ·simp[Builtin.delete_,rD,dL hd,hgo,run_checkKey hkd hD,Instr.findKey,dL hkd,h5,Fx hw]
end Xe
end Go.Proofs.YtfcpglhpolpdcaaGreatDoor

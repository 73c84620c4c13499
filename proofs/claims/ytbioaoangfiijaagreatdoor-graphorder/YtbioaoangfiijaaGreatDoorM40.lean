/- Operations that change what is there: stores,maps,appends. -/
import Derived.Test.YtbioaoangfiijaaGreatDoorM39
import Derived.ArgAppend
namespace Go.Proofs.YtbioaoangfiijaaGreatDoor
namespace Xe
variable {P:Program}
def ESim (P:Program) (op:Op) (f:F):Prop:=∀ (call:Cl) (e:En) (s:S) (nm:Nat) (v:Value) (s':S),f call e s nm = some (v,s') →
 s'.ds = s.ds ∧ ∀ (φ:Ph) (a:Act) (w:World),EvR φ e a op → Stt φ s w → ∃ φ' v' w',V φ' v v' ∧ Post φ s w φ' s' w' ∧
  ∀ o:Oper,o.op = op → (execOp a.eval o).run P w = .ok (.value v') w' ∨ (v' = undef ∧ (execOp a.eval o).run P w = .ok .skip w')
theorem setRow_out (w:World) (g:Nat) (cs:Array Value):Oe w (w.setRow g cs):=⟨rfl,rfl,rfl⟩
theorem Post.mod {φ:Ph} {s:S} {w w':World} {x:Nat} {o2:Obj} {g:Gh} (h:Stt φ s w) (h3:3 ≤ x) (hx:live s.h x) (hg:φ x = some g) (hsz:w'.heap.size = w.heap.size) (hout:Oe w w')
  (hkeep:∀ b,b ≠ g.b → w'.heap[b]? = w.heap[b]?) (hor:OR φ w' x o2):Post φ s w φ ⟨s.c,setH s.h x o2,s.ds⟩ w':=by
 have hl:∀ y,live (setH s.h x o2) y → live s.h y:=by
  rintro y ⟨o,hy,hi⟩
  rw [setH_get] at hy
  split at hy
  ·rename_i e; subst e; exact hx
  ·exact ⟨o,hy,hi⟩
 refine ⟨⟨⟨?_,?_,?_,h.rel.glo⟩,h.fr⟩,⟨Sub.refl φ,by omega,fun y g' h0 h1 => (by rw [h0] at h1; cases h1),?_,hout⟩,Nat.le_refl _,fun y h0 h1 => (h1 h0).elim,fun y hy => .inl (hl y hy)⟩
 ·intro y o hy0
  have hy:setH s.h x o2 y = some o:=hy0
  rw [setH_get] at hy
  split at hy
  ·rename_i e
   subst e
   cases hy
   exact hor
  ·rename_i hne
   by_cases hi:isO o
   ·refine (h.rel.obj y o hy).mono (Sub.refl φ) fun g' hg' => hkeep g'.b fun e => hne ?_
    exact h.rel.inj y x g' g ⟨o,hy,hi⟩ hx hg' hg e
   ·cases o <;> simp only [isO,not_true_eq_false] at hi <;> exact trivial
 ·exact fun y z g1 g2 hy hz => h.rel.inj y z g1 g2 (hl y hy) (hl z hz)
 ·intro y g' hy
  show g'.b < w'.heap.size
  rw [hsz]; exact h.rel.bnd y g' hy
 ·intro b _ hn
  exact hkeep b fun e => hn x g h3 hx hg e.symm
theorem V1_one {φ:Ph} {v v':Value} (h:V1 φ v v'):v'.oneCell' = true:=by
 rcases h with h | ⟨_,_,_,_,_,_,rfl,_⟩
 ·unfold V0 at h
  split at h
  case h_1 => subst h; rfl
  case h_2 => subst h; rfl
  case h_3 => subst h; rfl
  case h_4 => subst h; rfl
  case h_5 => obtain ⟨_,rfl,_⟩:=h; rfl
  case h_6 => obtain ⟨_,rfl⟩:=h; rfl
  case h_7 => obtain ⟨_,_,rfl,_⟩:=h; rfl
  case h_8 => subst h; rfl
  case h_9 => obtain ⟨_,_,rfl⟩:=h; rfl
  case h_10 => subst h; rfl
  case h_11 => exact h.elim
 ·rfl
theorem L_one {φ:Ph}:∀ {l l':List Value},L (V1 φ) l l' → ∀ v ∈ l',v.oneCell' = true
 | [],[],_,_,h => by cases h
 | a :: l,b :: l',h,v,hv => by
  rcases List.mem_cons.1 hv with rfl | hv
  ·exact V1_one h.1
  ·exact L_one h.2 v hv
 | [],_ :: _,h,_,_ => h.elim
 | _ :: _,[],h,_,_ => h.elim
theorem writeN_some {s s':S} {a:Addr} {vs:List Value} (h:writeN s a vs = some s') :
  a.spot = none ∧ 3 ≤ a.block ∧ ∃ c e f c',s.h a.block = some (.cells c e f) ∧ overAt a.off c.toList vs = some c' ∧ s' = ⟨s.c,setH s.h a.block (.cells c'.toArray e f),s.ds⟩:=by
 unfold writeN at h
 rw [aB_eq,noSp_some,sB_eq,guardB_some] at h
 obtain ⟨h0,h1,h⟩:=h
 obtain ⟨ob,hob,h⟩:=oB_some.1 h
 cases ob <;> simp only [obRow] at h <;> try cases h
 rename_i c e f
 obtain ⟨c',hc,h⟩:=oB_some.1 h
 rw [aL_eq] at hc
 cases h
 exact ⟨h0,by rw [ble_dec] at h1; simpa using h1,c,e,f,c',hob,hc,rfl⟩
theorem OR.wrote {φ:Ph} {w w':World} {x:Nat} {c:Array Value} {e e2:TypeId} {f2:Nat × Nat} {vs vs':List Value} {off:Nat} {g:Gh} {cur:Array Value} {e':TypeId} (hg:φ x = some g)
  (hw:w.heap[g.b]? = some (.cells cur e' (0,0))) (hn:cur.size = g.n) (hle:c.size ≤ cur.size) (hL:L (V1 φ) c.toList (cur.toList.take c.size)) (hv:L (V1 φ) vs vs') (hoff:off + vs.length ≤ c.size)
  (hw':w'.heap[g.b]? = some (.cells (cur.toList.take off ++ vs' ++ cur.toList.drop (off + vs'.length)).toArray e2 (0,0))) :
  OR φ w' x (.cells (c.toList.take off ++ vs ++ c.toList.drop (off + vs.length)).toArray e f2):=by
 have _:=hw
 have hvl:=hv.length
 refine ⟨g,_,e2,(0,0),hg,hw',?_,fun _ => rfl,?_,?_⟩
 ·simp; omega
 ·simp; omega
 ·have e1:(c.toList.take off ++ vs ++ c.toList.drop (off + vs.length)).toArray.size = c.size:=by simp; omega
  rw [e1]
  have key:((cur.toList.take off ++ vs' ++ cur.toList.drop (off + vs'.length))).take c.size = (cur.toList.take c.size).take off ++ vs' ++ (cur.toList.take c.size).drop (off + vs'.length):=by
   apply List.ext_getElem?
   intro i
   rcases Nat.lt_or_ge i c.size with hi | hi
   ·rw [List.getElem?_take_of_lt hi]
    simp only [List.getElem?_append,List.length_append,List.length_take,List.getElem?_take,List.getElem?_drop,Array.length_toList]
    split <;> (try split) <;> (try split) <;> (try split) <;> (try split) <;> first | rfl | omega | (congr 1; omega) | skip
    all_goals first | rfl | omega | (congr 1; omega) | skip
   ·rw [List.getElem?_eq_none (by simp; omega),List.getElem?_eq_none (by simp; omega)]
  show L (V1 φ) _ (List.take c.size (cur.toList.take off ++ vs' ++ cur.toList.drop (off + vs'.length)))
  rw [key]
  exact hL.over hv off
theorem sim_store {t:TypeId} {n:Nat} (x y:Operand) (hn:tsz P t = some n):ESim P (.store t x y) (fStore n x y):=by
 intro call e s nm v s' h
 obtain ⟨b,hb,h⟩:=oB_some.1 h
 rw [ptr_some] at hb
 rw [guardB_some,guardB_some] at h
 obtain ⟨ht,hlen,h⟩:=h
 obtain ⟨s1,h1,h⟩:=oB_some.1 h
 cases h
 obtain ⟨hsp,h3,c,el,f,c',hc,hov,rfl⟩:=writeN_some h1
 obtain ⟨_,hle,rfl⟩:=(overAt_some _ _ _ _).1 hov
 refine ⟨rfl,fun φ a w hE hS => ?_⟩
 have hx:=hE x (by simp [Op.operands])
 have hy:=hE y (by simp [Op.operands])
 rw [hb] at hx
 obtain ⟨a',ha,_,g,hg,rfl⟩:=V_ptr hx
 have hcv:=cells_V (V_one hy ht)
 obtain ⟨g',cur,e',fr,hg',hw,hn',hfr,hle',hL⟩:=hS.rel.obj _ _ hc
 rw [hg] at hg'; cases hg'
 have hfr':=hfr h3
 subst hfr'
 have hvl:=hcv.length
 have hfit:b.off + 0 + (a.eval y).cells.toList.length ≤ cur.size:=by
  simp at hle hvl ⊢; omega
 have hst:=run_storeCells_at P g.b b.off e' (a.eval y).cells.toList 0 cur w hw hfit (L_one hcv)
 simp only [Nat.add_zero] at hst
 refine ⟨φ,undef,_,V.undef φ,Post.mod hS h3 ⟨_,hc,trivial⟩ hg (setRow_size _ _ _) (setRow_out _ _ _) (fun k hk => setRow_other _ _ _ _ hk) (OR.wrote hg hw hn' hle' hL hcv (by simpa using hle) (setRow_heap w g.b cur _ e' (0,0) hw)),fun o ho => .inr ⟨rfl,?_⟩⟩
 have hlen':(a.eval y).cells.size = n:=by
  have:=Nat.eq_of_beq_eq_true hlen
  simp at hvl; omega
 simp only [execOp,ho,ha]
 simp [Instr.storeAt,Instr.sureAddr,storeVar,hlen',run_sizeOf hn,hst]
end Xe
namespace Xe
variable {P:Program}
theorem sameBits_self {k:Value} (h:(∃ s,k = .string s) ∨ ∃ q n,k = .int q n) (m:Nat):Instr.sameBits m k k = true:=by
 rcases h with ⟨s,rfl⟩ | ⟨q,n,rfl⟩
 ·unfold Instr.sameBits; simp [ba_beq]
 ·unfold Instr.sameBits; simp
theorem setObj_run {w:World} {b:Nat} {es:Array MapEntry} {k:Nat} (hw:w.heap[b]? = some (.map es k)) (o:Obj):(setObj b o).run P w = .ok () { w with heap:=w.heap.setIfInBounds b o }:=by
 simp [setObj,Sem.run,hw]
theorem sim_upd {t kt el:TypeId} {ks:Bool} (m k x:Operand) (hd:und P t = some (.map kt el)) (hks:keyS P kt = some ks) (op:Op) (hop:op = .mapUpdate t m k x ∨ op = .insert t m k x):ESim P op (fUpd ks m k x):=by
 obtain ⟨d,hkd,hD⟩:=keyS_some hks
 intro call e s nm v s' h
 rw [fUpd,guardB_some,guardB_some] at h
 obtain ⟨hn,hfit,h⟩:=h
 obtain ⟨r,hr,h⟩:=oB_some.1 h
 rw [mref_some] at hr
 rw [guardB_some,ble_dec] at h
 obtain ⟨h3,h⟩:=h
 have h3:3 ≤ r:=by simpa using h3
 obtain ⟨⟨es,cl⟩,hm,h⟩:=oB_some.1 h
 rw [pB_mk] at h
 obtain ⟨f,hf,h⟩:=oB_some.1 h
 obtain ⟨s1,h1,h⟩:=oB_some.1 h
 cases h
 obtain ⟨es0,cl0,hob,he⟩:=mapOf_some.1 hm
 cases he
 have hops:m ∈ op.operands ∧ k ∈ op.operands ∧ x ∈ op.operands:=by rcases hop with rfl | rfl <;> simp [Op.operands]
 have hds:s'.ds = s.ds:=by
  cases f with
  | none => have h':some (⟨s.c,setH s.h r (.map (es0.toList ++ [(⟨ev e k,ev e x,cl⟩:MapEntry)]).toArray (cl + 1)),s.ds⟩:S) = some s':=h1; cases h'; rfl
  | some p =>
   have h':oB (nth es0.toList p.1) (fun en => some (⟨s.c,setH s.h r (.map (es0.toList.set p.1 (⟨ev e k,ev e x,en.born⟩:MapEntry)).toArray cl),s.ds⟩:S)) = some s':=h1
   obtain ⟨en,_,h'⟩:=oB_some.1 h'
   cases h'; rfl
 refine ⟨hds,fun φ a w hE hS => ?_⟩
 have hme:=hE m hops.1
 have hke:=hE k hops.2.1
 have hxe:=hE x hops.2.2
 rw [hr] at hme
 obtain ⟨g,hg,hm'⟩:=V_map hme
 obtain ⟨hki,hk0,hkk⟩:=keyFit_V hfit hke
 obtain ⟨g',es',hg',hw,hL⟩:=hS.rel.obj _ _ hob
 rw [hg] at hg'; cases hg'
 have hgo:(getObj g.b).run P w = .ok (.map es' cl) w:=by simp [getObj,Sem.run,hw]
 have hlt:g.b < w.heap.size:=hS.rel.bnd _ _ hg
 have hkk':(∃ s,ev e k = .string s) ∨ ∃ q n,ev e k = .int q n:=hkk.imp (fun h => h.2) (fun h => h.2)
 have hexec:∀ (o:Oper),o.op = op → ∀ w':World,(Instr.mapUpdate t (.map (some g.b)) (ev e k) (a.eval x)).run P w = .ok () w' → (execOp a.eval o).run P w = .ok .skip w':=by
  intro o ho w' hrun
  have e1:(execOp a.eval o) = (do Instr.mapUpdate t (.map (some g.b)) (ev e k) (a.eval x); pure .skip):=by
   rcases hop with rfl | rfl <;> simp only [execOp,ho,hm',hki]
  rw [e1]
  simp [hrun]
 rcases find_sim hD hkk es0.toList es'.toList 0 f hL hf with ⟨rfl,h5⟩ | ⟨j,u,u',en',rfl,h5,h6,_,h8,h9⟩
 ·have h':some (⟨s.c,setH s.h r (.map (es0.toList ++ [(⟨ev e k,ev e x,cl⟩:MapEntry)]).toArray (cl + 1)),s.ds⟩:S) = some s':=h1
  cases h'
  refine ⟨φ,undef,{ w with heap:=w.heap.setIfInBounds g.b (.map (es'.push ⟨ev e k,a.eval x,cl⟩) (cl + 1)) },V.undef φ,Post.mod hS h3 ⟨_,hob,trivial⟩ hg (by simp) ⟨rfl,rfl,rfl⟩ (fun b hb => by simp [Array.getElem?_setIfInBounds_ne (Ne.symm hb)]) ?_,fun o ho => .inr ⟨rfl,hexec o ho _ ?_⟩⟩
  ·refine ⟨g,es'.push ⟨ev e k,a.eval x,cl⟩,hg,by simp [hlt],?_⟩
   simp only [Array.toList_push]
   exact hL.app ⟨⟨hk0,V_one hxe hn,rfl⟩,trivial⟩
  ·simp [Instr.mapUpdate,run_und hd,hgo,run_checkKey hkd hD,Instr.findKey,run_und hkd,h5,setObj_run hw]
 ·have h':oB (nth es0.toList j) (fun en => some (⟨s.c,setH s.h r (.map (es0.toList.set j (⟨ev e k,ev e x,en.born⟩:MapEntry)).toArray cl),s.ds⟩:S)) = some s':=h1
  obtain ⟨en,hen,h'⟩:=oB_some.1 h'
  cases h'
  rw [nth_eq] at hen
  obtain ⟨y,hy,hER⟩:=hL.at hen
  have h8':es'.toList[j]? = some en':=by simpa using h8
  rw [h8'] at hy
  cases hy
  have hkeys:(es'[j]?).map (·.key) = some (ev e k):=by
   have:es'[j]? = some en':=by simpa using h8'
   rw [this]; simp [h9]
  have hmod:(es'.modify j fun e0 => { e0 with key:=ev e k,val:=a.eval x }).toList = es'.toList.set j ⟨ev e k,a.eval x,en'.born⟩:=by
   apply List.ext_getElem?
   intro i
   have hj:es'[j]? = some en':=by simpa using h8'
   rw [Array.getElem?_toList,Array.getElem?_modify,List.getElem?_set]
   split
   ·rename_i e1; subst e1
    have hlt:j < es'.toList.length:=(List.getElem?_eq_some_iff.1 h8').1
    rw [hj]; simp at hlt; simp [hlt]
   ·simp
  refine ⟨φ,undef,{ w with heap:=w.heap.setIfInBounds g.b (.map (es'.modify j fun e0 => { e0 with key:=ev e k,val:=a.eval x }) cl) },V.undef φ,Post.mod hS h3 ⟨_,hob,trivial⟩ hg (by simp) ⟨rfl,rfl,rfl⟩ (fun b hb => by simp [Array.getElem?_setIfInBounds_ne (Ne.symm hb)]) ?_,fun o ho => .inr ⟨rfl,hexec o ho _ ?_⟩⟩
  ·refine ⟨g,es'.modify j fun e0 => { e0 with key:=ev e k,val:=a.eval x },hg,by simp [hlt],?_⟩
   rw [hmod]
   exact hL.set j ⟨hk0,V_one hxe hn,hER.2.2⟩
  ·simp [Instr.mapUpdate,run_und hd,hgo,run_checkKey hkd hD,Instr.findKey,run_und hkd,h5,Instr.keyThatStays,hkeys,sameBits_self hkk',setObj_run hw]
theorem sim_del {c:Call} {f:F} (hc:c.callee = .builtin .delete) (h:compB P c .delete = some f):ESim P (.call c) f:=by
 unfold compB at h
 simp only at h
 split at h
 case h_2 => cases h
 rename_i x k t ts hargs hats
 split at h
 case h_2 => cases h
 rename_i kt el hd
 obtain ⟨ks,hks,h⟩:=oB_some.1 h
 cases h
 obtain ⟨d,hkd,hD⟩:=keyS_some hks
 have hargs':c.args = #[x,k]:=Array.toList_inj.1 (by simpa using hargs)
 have hats':c.argTypes[0]? = some t:=by rw [← Array.getElem?_toList,hats]; rfl
 have hopx:x ∈ (Op.call c).operands:=by simp [Op.operands,Call.operands,hc,hargs']
 have hopk:k ∈ (Op.call c).operands:=by simp [Op.operands,Call.operands,hc,hargs']
 intro call e s nm v s' h
 rw [fDel,guardB_some] at h
 obtain ⟨hfit,h⟩:=h
 obtain ⟨r,hr,h⟩:=oB_some.1 h
 rw [mref_some] at hr
 rw [guardB_some,ble_dec] at h
 obtain ⟨h3,h⟩:=h
 have h3:3 ≤ r:=by simpa using h3
 obtain ⟨⟨es,cl⟩,hm,h⟩:=oB_some.1 h
 rw [pB_mk] at h
 obtain ⟨f,hf,h⟩:=oB_some.1 h
 cases h
 obtain ⟨es0,cl0,hob,he⟩:=mapOf_some.1 hm
 cases he
 refine ⟨by cases f <;> rfl,fun φ a w hE hS => ?_⟩
 have hme:=hE x hopx
 have hke:=hE k hopk
 rw [hr] at hme
 obtain ⟨g,hg,hm'⟩:=V_map hme
 obtain ⟨hki,hk0,hkk⟩:=keyFit_V hfit hke
 obtain ⟨g',es',hg',hw,hL⟩:=hS.rel.obj _ _ hob
 rw [hg] at hg'; cases hg'
 have hgo:(getObj g.b).run P w = .ok (.map es' cl) w:=by simp [getObj,Sem.run,hw]
 have hlt:g.b < w.heap.size:=hS.rel.bnd _ _ hg
 have hexec:∀ (o:Oper),o.op = .call c → ∀ w':World,(Builtin.delete_ c.argTypes o.type #[.map (some g.b),ev e k]).run P w = .ok (.tuple #[]) w' → (execOp a.eval o).run P w = .ok (.value (.tuple #[])) w':=by
  intro o ho w' hrun
  rw [exec_builtin hc ho,hargs']
  have:((#[x,k]:Array Operand).map a.eval) = #[.map (some g.b),ev e k]:=by simp [hm',hki]
  rw [this]
  show (do pure (.value (← Builtin.delete_ c.argTypes o.type #[.map (some g.b),ev e k])):Sem Next).run P w = _
  simp [hrun]
 rcases find_sim hD hkk es0.toList es'.toList 0 f hL hf with ⟨rfl,h5⟩ | ⟨j,u,u',en',rfl,h5,h6,_,h8,h9⟩
 ·have hsame:({ w with heap:=w.heap.setIfInBounds g.b (.map es' cl) }:World) = w:=by
   have:w.heap.setIfInBounds g.b (.map es' cl) = w.heap:=by
    apply Array.ext_getElem?
    intro i
    by_cases hi:g.b = i
    ·subst hi; simp [hlt]
     have:=(Array.getElem?_eq_some_iff.1 hw).2
     exact this.symm
    ·simp [Array.getElem?_setIfInBounds_ne hi]
   rw [this]
  refine ⟨φ,.tuple #[],w,.inr ⟨#[],#[],rfl,rfl,trivial⟩,Post.refl hS,fun o ho => .inl (hexec o ho _ ?_)⟩
  have:=setObj_run (P:=P) hw (.map es' cl)
  rw [hsame] at this
  simp [Builtin.delete_,hats',run_und hd,hgo,run_checkKey hkd hD,Instr.findKey,run_und hkd,h5,this]
 ·refine ⟨φ,.tuple #[],{ w with heap:=w.heap.setIfInBounds g.b (.map (es'.eraseIdxIfInBounds j) cl) },.inr ⟨#[],#[],rfl,rfl,trivial⟩,Post.mod hS h3 ⟨_,hob,trivial⟩ hg (by simp) ⟨rfl,rfl,rfl⟩ (fun b hb => by simp [Array.getElem?_setIfInBounds_ne (Ne.symm hb)]) ?_,fun o ho => .inl (hexec o ho _ ?_)⟩
  ·refine ⟨g,es'.eraseIdxIfInBounds j,hg,by simp [hlt],?_⟩
   have:(es'.eraseIdxIfInBounds j).toList = es'.toList.eraseIdx j:=by
    unfold Array.eraseIdxIfInBounds
    split
    ·simp
    ·rw [List.eraseIdx_of_length_le (by simpa using by omega)]
   rw [this]
   exact hL.erase j
  ·simp [Builtin.delete_,hats',run_und hd,hgo,run_checkKey hkd hD,Instr.findKey,run_und hkd,h5,setObj_run hw]
end Xe
end Go.Proofs.YtbioaoangfiijaaGreatDoor

/- More operations that change nothing: reckoning,parts,places. -/
import Derived.Test.YtbioaoangfiijaaGreatDoorM37
import Derived.Laws.Tables
namespace Go.Proofs.YtbioaoangfiijaaGreatDoor
namespace Xe
variable {P:Program}
theorem bin_some {op:BinOp} {x y v:Value} (h:bin op x y = some v) :
  (∃ k a b,x = .int k a ∧ y = .int k b ∧ binI op k a b = some v) ∨ (∃ a b,x = .string a ∧ y = .string b ∧ binS op a b = some v):=by
 unfold bin at h
 cases x <;> simp only [vInt,vStr] at h <;> try cases h
 ·rename_i k a
  obtain ⟨k',b,hy,h⟩:=vInt_some.1 h
  rw [bB_ite] at h
  split at h
  ·rename_i hk
   have:=(kno_eq _ _).1 hk
   subst this
   exact .inl ⟨k,a,b,rfl,hy,h⟩
  ·cases h
 ·rename_i a
  obtain ⟨b,hy,h⟩:=vStr_some.1 h
  exact .inr ⟨a,b,rfl,hy,h⟩
theorem run_binI {op:BinOp} {k:IntKind} {a b:Int} {v:Value} (h:binI op k a b = some v) (t:TypeId) (x y:Operand) (w:World) :
  (do eqGuard op t x y (.int k a) (.int k b); binOp op t (.int k a) (.int k b):Sem Value).run P w = .ok v w:=by
 cases op <;> simp only [binI,mkI_eq,mkB_eq,wrapI_eq,addI_eq,eqI_eq,leI_eq,not_eq,reduceCtorEq,Option.some.injEq] at h <;> subst h <;>
  simp [eqGuard,binOp,Op.intArith,Op.intCmp]
 all_goals first | rfl | (rw [Bool.eq_iff_iff]; simp)
theorem run_binS {op:BinOp} {a b:ByteArray} {v:Value} (h:binS op a b = some v) (t:TypeId) (x y:Operand) (w:World) :
  (do eqGuard op t x y (.string a) (.string b); binOp op t (.string a) (.string b):Sem Value).run P w = .ok v w:=by
 cases op <;> simp only [binS,mkB_eq,not_eq,bytesEq_eq,sL_eq,reduceCtorEq,Option.some.injEq] at h <;> subst h <;>
  simp [eqGuard,binOp,Op.stringOp,ByteArray.toList_eq] <;> by_cases hh:a.data = b.data <;> simp [hh]
theorem sim_bin {op:BinOp} {t t2:TypeId} (x y:Operand):RSim P (.binOp op t x y t2) (fBin op x y):=by
 intro call e s nm v s' h
 rw [fBin,ret_some] at h
 obtain ⟨h2,rfl⟩:=h
 refine ⟨rfl,fun φ a w hE _ => ?_⟩
 have hx:=hE x (by simp [Op.operands])
 have hy:=hE y (by simp [Op.operands])
 rcases bin_some h2 with ⟨k,m,n,e1,e2,h3⟩ | ⟨m,n,e1,e2,h3⟩
 ·rw [e1] at hx; rw [e2] at hy
  refine ⟨v,?_,fun o ho => ?_⟩
  ·have:(∃ i,v = .int k i) ∨ ∃ b,v = .bool b:=by
    cases op <;> simp only [binI,mkI_eq,mkB_eq,reduceCtorEq,Option.some.injEq] at h3 <;> first | exact .inl ⟨_,h3.symm⟩ | exact .inr ⟨_,h3.symm⟩
   rcases this with ⟨_,rfl⟩ | ⟨_,rfl⟩ <;> exact .of0 rfl
  ·have:=run_binI (P:=P) h3 t x y w
   simp only [execOp,ho,V_int hx,V_int hy]
   rw [Sem.run_bind,this]; rfl
 ·rw [e1] at hx; rw [e2] at hy
  refine ⟨v,?_,fun o ho => ?_⟩
  ·have:∃ b,v = .bool b:=by
    cases op <;> simp only [binS,mkB_eq,reduceCtorEq,Option.some.injEq] at h3 <;> exact ⟨_,h3.symm⟩
   obtain ⟨_,rfl⟩:=this; exact .of0 rfl
  ·have:=run_binS (P:=P) h3 t x y w
   simp only [execOp,ho,V_str hx,V_str hy]
   rw [Sem.run_bind,this]; rfl
theorem sim_conv {src dst:TypeId} {k:IntKind} {d:TypeDesc} (x:Operand) (hs:und P src = some d) (hd:und P dst = some (.int k)):RSim P (.convert src dst x) (fConv k x):=by
 intro call e s nm v s' h
 obtain ⟨q,n,hn,h⟩:=vInt_some.1 h
 rw [ret_some,mkI_eq,wrapI_eq] at h
 obtain ⟨h2,rfl⟩:=h
 cases h2
 refine ⟨rfl,fun φ a w hE _ => ?_⟩
 have hx:=hE x (by simp [Op.operands])
 rw [hn] at hx
 exact ⟨.int k (k.wrap n),.of0 rfl,fun o ho => by simp only [execOp,ho,V_int hx]; simp [convert,run_und hs,run_und hd,Conv.intToInt]⟩
theorem evs_eq (e:En):∀ l:List Operand,evs e l = l.map (ev e)
 | [] => rfl
 | x :: l => by show ev e x :: evs e l = _; rw [evs_eq e l]; rfl
theorem flats_all:∀ {l:List Value},flats l = true → ∀ v ∈ l,flat v = true
 | [],_,_,h => by cases h
 | a :: l,h,v,hv => by
  have h':bB (flat a) (flats l) false = true:=h
  rw [bB_ite] at h'
  split at h'
  ·rename_i ha
   rcases List.mem_cons.1 hv with rfl | hv
   ·exact ha
   ·exact flats_all h' v hv
  ·cases h'
theorem L_map {α β γ:Type} {R:β → γ → Prop} {f:α → β} {g:α → γ}:∀ {l:List α},(∀ x ∈ l,R (f x) (g x)) → L R (l.map f) (l.map g)
 | [],_ => trivial
 | a :: l,h => ⟨h a (by simp),L_map fun x hx => h x (by simp [hx])⟩
theorem sim_func (fn:Fn) (first captured:Array Operand):RSim P (.makeFunc fn first captured) (fFunc fn first.toList captured.toList):=by
 intro call e s nm v s' h
 rw [fFunc,guardB_some,guardB_some] at h
 obtain ⟨h1,h2,h3⟩:=h
 cases h3
 refine ⟨rfl,fun φ a w hE _ => ?_⟩
 rw [evs_eq] at h1 h2
 have f1:=flats_all h1
 have f2:=flats_all h2
 refine ⟨.func fn (first.map a.eval) (captured.map a.eval),.inl (.inl (.inr ⟨fn,_,_,_,_,rfl,rfl,?_,?_⟩)),fun o ho => ?_⟩
 ·simp only [evs_eq,Array.toList_map]
  exact L_map fun x hx => V0_flat (hE x (by simp [Op.operands]; exact .inl (by simpa using hx))) (f1 _ (List.mem_map_of_mem hx))
 ·simp only [evs_eq,Array.toList_map]
  exact L_map fun x hx => V0_flat (hE x (by simp [Op.operands]; exact .inr (by simpa using hx))) (f2 _ (List.mem_map_of_mem hx))
 ·simp only [execOp,ho]; rfl
theorem part_sim {φ:Ph} {t:TypeId} {n off:Nat} {cs cs':Array Value} {v:Value} {d:TypeDesc} (hd:und P t = some d) (hn:tsz P t = some n) (hL:L (V1 φ) cs.toList cs'.toList)
  (h:partL (aggT P t) n cs.toList off = some v) (w:World):∃ v',V φ v v' ∧ (part t cs' off).run P w = .ok v' w:=by
 unfold partL at h
 rw [bB_ite] at h
 split at h
 ·rename_i ht
  obtain ⟨l,hl,h⟩:=oB_some.1 h
  cases h
  rw [dropN_eq,takeN_some] at hl
  obtain ⟨_,rfl⟩:=hl
  refine ⟨.agg (cs'.extract off (off + n)),.inl (.inr ⟨_,_,rfl,rfl,?_⟩),?_⟩
  ·have e:(cs'.extract off (off + n)).toList = (cs'.toList.drop off).take n:=by simp [Array.toList_extract]
   rw [e]
   simpa using (hL.drop off).take n
  ·simp [part,run_agg hd,ht,run_sizeOf hn]
 ·rename_i ht
  rw [nth_eq] at h
  obtain ⟨y,hy,hv⟩:=hL.at h
  refine ⟨y,.inl (.inl hv),?_⟩
  have ht':aggT P t = false:=by simpa using ht
  have hy':cs'[off]? = some y:=by simpa using hy
  simp [part,run_agg hd,ht',hy']
theorem sim_field {t:TypeId} {x:Operand} {k:Nat} {f:F} (h:compF P t x k = some f):RSim P (.field t x k) f:=by
 unfold compF at h
 split at h
 case h_2 => cases h
 rename_i fs hd
 obtain ⟨fd,hf,h⟩:=oB_some.1 h
 obtain ⟨d,hfd,h⟩:=oB_some.1 h
 obtain ⟨n,hn,h⟩:=oB_some.1 h
 cases h
 intro call e s nm v s' h
 obtain ⟨c,hc,h⟩:=vAgg_some.1 h
 rw [ret_some,aL_eq] at h
 obtain ⟨h2,rfl⟩:=h
 refine ⟨rfl,fun φ a w hE _ => ?_⟩
 have hx:=hE x (by simp [Op.operands])
 rw [hc] at hx
 obtain ⟨c',hc',hL⟩:=V_agg hx
 obtain ⟨v',hv,hrun⟩:=part_sim hfd hn hL h2 w
 refine ⟨v',hv,fun o ho => ?_⟩
 rw [nth_eq] at hf
 have hf':fs[k]? = some fd:=by simpa using hf
 simp only [execOp,ho,hc']
 simp [Instr.field,run_und hd,hf',asAgg,hrun]
theorem idxA_some {z n:Nat} {a:Addr} {i v:Value} (h:idxA z n a i = some v):∃ (k:IntKind) (j:Nat),i = .int k (j:Int) ∧ j < n ∧ v = .pointer (some (a.add (j * z))):=by
 unfold idxA at h
 obtain ⟨k,j,hj,h⟩:=vInt_some.1 h
 cases j with
 | negSucc j => cases h
 | ofNat j =>
  rw [iB_pos,bB_ite,ble_dec] at h
  split at h
  ·cases h
  ·rename_i hn
   rw [mkP_eq,addA_eq] at h
   cases h
   exact ⟨k,j,hj,by simpa using hn,rfl⟩
theorem sim_indexAddr {t:TypeId} {x i:Operand} {f:F} (h:compIA P t x i = some f):RSim P (.indexAddr t x i) f:=by
 unfold compIA at h
 split at h
 case h_3 => cases h
 ·rename_i el hd
  obtain ⟨z,hz,h⟩:=oB_some.1 h
  cases h
  intro call e s nm v s' h
  obtain ⟨b,n,c,hb,h⟩:=vSl_some.1 h
  obtain ⟨b,rfl,h1⟩:=oB_some.1 h
  rw [ret_some] at h1
  obtain ⟨h2,rfl⟩:=h1
  obtain ⟨k,j,hj,hlt,rfl⟩:=idxA_some h2
  refine ⟨rfl,fun φ a w hE _ => ?_⟩
  have hx:=hE x (by simp [Op.operands])
  have hi:=hE i (by simp [Op.operands])
  rw [hb] at hx; rw [hj] at hi
  obtain ⟨a',c',ha,hs⟩:=V_sl hx
  rcases hs with ⟨_,h0⟩ | ⟨h0,hc,g,hg,rfl,_⟩
  ·omega
  have hAR:AR φ b ⟨g.b,b.off,none⟩:=⟨h0,g,hg,rfl⟩
  refine ⟨_,.of0 ⟨_,rfl,hAR.add (j * z)⟩,fun o ho => ?_⟩
  have hj0:(0:Int) ≤ (j:Int) ∧ (j:Int) < (n:Int):=⟨by omega,by omega⟩
  simp only [execOp,ho,ha,V_int hi]
  simp [Instr.indexAt,asIntOf,run_und hd,run_sizeOf hz,hlt]
 ·rename_i n el hd
  obtain ⟨z,hz,h⟩:=oB_some.1 h
  cases h
  intro call e s nm v s' h
  obtain ⟨b,hb,h⟩:=oB_some.1 h
  rw [ptr_some] at hb
  rw [ret_some] at h
  obtain ⟨h2,rfl⟩:=h
  obtain ⟨k,j,hj,hlt,rfl⟩:=idxA_some h2
  refine ⟨rfl,fun φ a w hE _ => ?_⟩
  have hx:=hE x (by simp [Op.operands])
  have hi:=hE i (by simp [Op.operands])
  rw [hb] at hx; rw [hj] at hi
  obtain ⟨a',ha,hr⟩:=V_ptr hx
  refine ⟨_,.of0 ⟨_,rfl,hr.add (j * z)⟩,fun o ho => ?_⟩
  simp only [execOp,ho,ha,V_int hi]
  simp [Instr.indexAt,asIntOf,run_und hd,run_sizeOf hz,hlt,Instr.sureAddr]
theorem sim_index {t:TypeId} {x i:Operand} {f:F} (h:compI P t x i = some f):RSim P (.index t x i) f:=by
 unfold compI at h
 split at h
 case h_3 => cases h
 ·rename_i hd
  cases h
  intro call e s nm v s' h
  obtain ⟨b,hb,h⟩:=vStr_some.1 h
  rw [ret_some] at h
  obtain ⟨h2,rfl⟩:=h
  unfold idxS at h2
  obtain ⟨k,j,hj,h2⟩:=vInt_some.1 h2
  cases j with
  | negSucc j => cases h2
  | ofNat j =>
   rw [iB_pos] at h2
   obtain ⟨c,hc,h2⟩:=oB_some.1 h2
   rw [mkI_eq] at h2
   cases h2
   refine ⟨rfl,fun φ a w hE _ => ?_⟩
   have hx:=hE x (by simp [Op.operands])
   have hi:=hE i (by simp [Op.operands])
   rw [hb] at hx; rw [hj] at hi
   refine ⟨_,.of0 rfl,fun o ho => ?_⟩
   rw [nth_eq,sL_eq] at hc
   have hc':b[j]? = some c:=by
    have:=List.getElem?_eq_some_iff.1 hc
    obtain ⟨hlt,he⟩:=this
    have hs:j < b.size:=by
     show j < b.data.size
     simpa using hlt
    rw [getElem?_pos b j hs]
    simp only [Option.some.injEq]
    simpa [ByteArray.getElem_eq_getElem_data] using he
   simp only [execOp,ho,V_str hx,V_int hi]
   simp [Instr.index,asIntOf,run_und hd,hc']
 ·rename_i n el hd
  obtain ⟨d,hel,h⟩:=oB_some.1 h
  obtain ⟨z,hz,h⟩:=oB_some.1 h
  cases h
  intro call e s nm v s' h
  obtain ⟨c,hc,h⟩:=vAgg_some.1 h
  rw [ret_some] at h
  obtain ⟨h2,rfl⟩:=h
  unfold idxG at h2
  obtain ⟨k,j,hj,h2⟩:=vInt_some.1 h2
  cases j with
  | negSucc j => cases h2
  | ofNat j =>
   rw [iB_pos,bB_ite,ble_dec] at h2
   split at h2
   ·cases h2
   ·rename_i hlt
    rw [aL_eq] at h2
    refine ⟨rfl,fun φ a w hE _ => ?_⟩
    have hx:=hE x (by simp [Op.operands])
    have hi:=hE i (by simp [Op.operands])
    rw [hc] at hx; rw [hj] at hi
    obtain ⟨c',hc',hL⟩:=V_agg hx
    obtain ⟨v',hv,hrun⟩:=part_sim hel hz hL h2 w
    refine ⟨v',hv,fun o ho => ?_⟩
    have hlt':j < n:=by simpa using hlt
    simp only [execOp,ho,hc',V_int hi]
    simp [Instr.index,asIntOf,run_und hd,run_sizeOf hz,hlt']
    simpa using congrArg (fun r => r.andThen fun a w' => Result.ok (Next.value a) w') hrun
end Xe
namespace Xe
variable {P:Program}
theorem over_some:∀ (vs c r:List Value),over c vs = some r ↔ vs.length ≤ c.length ∧ r = vs ++ c.drop vs.length
 | [],c,r => by show some c = some r ↔ _; simp [eq_comm]
 | v :: vs,[],r => by simp [over,lB]
 | v :: vs,x :: c,r => by
  show oB (over c vs) (fun r => some (v :: r)) = some r ↔ _
  rw [oB_some]
  constructor
  ·rintro ⟨t,h,e⟩
   obtain ⟨h1,rfl⟩:=(over_some vs c t).1 h
   cases e
   exact ⟨by simpa using h1,by simp⟩
  ·rintro ⟨h1,rfl⟩
   exact ⟨vs ++ c.drop vs.length,(over_some vs c _).2 ⟨by simpa using h1,rfl⟩,by simp⟩
theorem overAt_some:∀ (n:Nat) (c vs r:List Value),overAt n c vs = some r ↔ n ≤ c.length ∧ n + vs.length ≤ c.length ∧ r = c.take n ++ vs ++ c.drop (n + vs.length)
 | 0,c,vs,r => by
  show over c vs = some r ↔ _
  rw [over_some]; simp
 | n + 1,[],vs,r => by simp [overAt,lB]
 | n + 1,x :: c,vs,r => by
  show oB (overAt n c vs) (fun r => some (x :: r)) = some r ↔ _
  rw [oB_some]
  constructor
  ·rintro ⟨t,h,e⟩
   obtain ⟨h1,h2,rfl⟩:=(overAt_some n c vs t).1 h
   cases e
   exact ⟨by simpa using h1,by simp; omega,by simp [Nat.add_right_comm n 1]⟩
  ·rintro ⟨h1,h2,rfl⟩
   exact ⟨_,(overAt_some n c vs _).2 ⟨by simpa using h1,by simp at h2; omega,rfl⟩,by simp [Nat.add_right_comm n 1]⟩
theorem fold_set (off:Nat):∀ (l:List Value) (k:Nat) (cs:Array Value),off + k + l.length ≤ cs.size →
  ((l.zipIdx k).foldl (fun cs p => cs.setIfInBounds (off + p.2) p.1) cs).toList = cs.toList.take (off + k) ++ l ++ cs.toList.drop (off + k + l.length)
 | [],k,cs,h => by simp
 | v :: l,k,cs,h => by
  rw [List.zipIdx_cons,List.foldl_cons]
  have hlen:off + (k + 1) + l.length ≤ (cs.setIfInBounds (off + k) v).size:=by simp at h ⊢; omega
  rw [fold_set off l (k + 1) _ hlen]
  have hlt:off + k < cs.toList.length:=by simp at h ⊢; omega
  have e:(cs.setIfInBounds (off + k) v).toList = cs.toList.take (off + k) ++ v :: cs.toList.drop (off + k + 1):=by
   rw [Array.toList_setIfInBounds,List.set_eq_take_append_cons_drop,if_pos hlt]
  have hT:(cs.toList.take (off + k)).length = off + k:=by rw [List.length_take]; omega
  have t1:(cs.toList.take (off + k) ++ v :: cs.toList.drop (off + k + 1)).take (off + (k + 1)) = cs.toList.take (off + k) ++ [v]:=by
   rw [show off + (k + 1) = (cs.toList.take (off + k)).length + 1 by omega,List.take_length_add_append]; simp
  have t2:(cs.toList.take (off + k) ++ v :: cs.toList.drop (off + k + 1)).drop (off + (k + 1) + l.length) = cs.toList.drop (off + k + 1 + l.length):=by
   rw [show off + (k + 1) + l.length = (cs.toList.take (off + k)).length + (l.length + 1) by omega,List.drop_length_add_append,List.drop_succ_cons,List.drop_drop]
  rw [e,t1,t2]
  simp [Nat.add_assoc,Nat.add_comm 1]
theorem L.over {φ:Ph} {c c' vs vs':List Value} (h:L (V1 φ) c c') (hv:L (V1 φ) vs vs') (n:Nat):L (V1 φ) (c.take n ++ vs ++ c.drop (n + vs.length)) (c'.take n ++ vs' ++ c'.drop (n + vs'.length)) :=
 ((h.take n).app hv).app (by rw [hv.length]; exact h.drop _)
def PR (φ:Ph) (p p':Nat × Value):Prop:=p.1 = p'.1 ∧ V φ p.2 p'.2
theorem fill_sim {φ:Ph} {place:Nat → Option (Nat × Nat)}:∀ (ps ps':List (Nat × Value)) (c r:List Value) (c':Array Value),L (PR φ) ps ps' → L (V1 φ) c c'.toList →
  fillL place ps c = some r → ∃ r',Instr.fill place c' ps' = some r' ∧ L (V1 φ) r r'.toList
 | [],[],c,r,c',_,hc,h => by
  have h':some c = some r:=h
  cases h'
  exact ⟨c',rfl,hc⟩
 | p :: ps,p' :: ps',c,r,c',hp,hc,h => by
  obtain ⟨i,v⟩:=p
  obtain ⟨i',v'⟩:=p'
  obtain ⟨⟨hi,hv⟩,hps⟩:=hp
  simp only at hi hv
  subst hi
  have h1:oB (place i) (fun q => pB q fun off z => guardB (noTup v) (guardB (Nat.beq z (cellsL v).length) (oB (overAt off c (cellsL v)) fun c => fillL place ps c))) = some r:=h
  obtain ⟨⟨off,z⟩,hq,h2⟩:=oB_some.1 h1
  rw [pB_mk,guardB_some,guardB_some] at h2
  obtain ⟨hn,hz,h3⟩:=h2
  obtain ⟨c2,h4,h5⟩:=oB_some.1 h3
  obtain ⟨_,hle,rfl⟩:=(overAt_some _ _ _ _).1 h4
  have hcv:=cells_V (V_one hv hn)
  have hzl:z = v'.cells.size:=by
   have:=hcv.length
   have hz':=Nat.eq_of_beq_eq_true hz
   simp at this; omega
  have hle':off + v'.cells.size ≤ c'.size:=by
   have e1:=hcv.length; have e2:=hc.length
   simp at e1 e2; omega
  have hfold:((v'.cells.zipIdx.foldl (fun cs (x:Value × Nat) => cs.setIfInBounds (off + x.2) x.1) c').toList) = c'.toList.take off ++ v'.cells.toList ++ c'.toList.drop (off + v'.cells.toList.length):=by
   have:=fold_set off v'.cells.toList 0 c' (by simpa using hle')
   rw [← Array.foldl_toList,Array.toList_zipIdx]
   simpa using this
  obtain ⟨r',hr,hL⟩:=fill_sim ps ps' _ r (v'.cells.zipIdx.foldl (fun cs (x:Value × Nat) => cs.setIfInBounds (off + x.2) x.1) c') hps (by rw [hfold]; exact hc.over hcv off) h5
  refine ⟨r',?_,hL⟩
  show (match place i with
   | none => none
   | some (off,size) => if v'.cells.size ≠ size || off + v'.cells.size > c'.size then none else Instr.fill place (v'.cells.zipIdx.foldl (fun cs (x,j) => cs.setIfInBounds (off + j) x) c') ps') = some r'
  rw [hq]
  simp only
  rw [if_neg (by simp [hzl]; omega)]
  exact hr
 | [],_ :: _,_,_,_,h,_,_ => h.elim
 | _ :: _,[],_,_,_,h,_,_ => h.elim
theorem evP_eq (e:En):∀ l:List (Nat × Operand),evP e l = l.map fun p => (p.1,ev e p.2)
 | [] => rfl
 | p :: l => by
  show pB p (fun i x => (i,ev e x)) :: evP e l = _
  rw [evP_eq e l]; cases p; rfl
theorem ok0_V {v:Value} (φ:Ph) (h:ok0 v = true):V0 φ v v:=by
 cases v <;> simp [ok0] at h <;> first | rfl | skip
 ·subst h; rfl
 ·rename_i a n c
  obtain ⟨rfl,h1,h2⟩:=h
  subst h1; subst h2
  exact ⟨rfl,rfl⟩
 ·subst h; rfl
theorem okV_V {v:Value} (φ:Ph) (h:okV' v = true):VA φ v v:=by
 unfold okV' at h
 rw [Bool.or_eq_true] at h
 rcases h with h | h
 ·exact .inl (.inl (ok0_V φ h))
 ·cases v <;> simp [vAgg] at h
  rename_i c
  refine .inr ⟨c,c,rfl,rfl,L.refl _ fun x hx => .inl (ok0_V φ ?_)⟩
  rw [aL_eq] at h
  exact h x (by simpa using hx)
theorem okX_V {φ:Ph} {nt:Nat} {e:En} {a:Act} {x:Operand} (h:okX x = true) (hE:EnvR φ nt e a) (hg:∀ x,x < 3 → ∃ n,φ x = some ⟨x,n⟩):V φ (ev e x) (a.eval x):=by
 cases x with
 | tmp t => exact hE.val t
 | const v => exact .inl (okV_V φ h)
 | global g =>
  have:g < 3:=by simp only [okX,ble_dec,decide_eq_true_eq] at h; omega
  obtain ⟨n,hn⟩:=hg g this
  exact .of0 ⟨⟨g,0,none⟩,rfl,rfl,⟨g,n⟩,hn,rfl⟩
 | func f => exact .inl (.inl (.inr ⟨.func f,#[],#[],#[],#[],rfl,rfl,trivial,trivial⟩))
theorem okOp_EvR {φ:Ph} {nt:Nat} {e:En} {a:Act} {op:Op} (h:okOp op = true) (hE:EnvR φ nt e a) (hg:∀ x,x < 3 → ∃ n,φ x = some ⟨x,n⟩):EvR φ e a op:=by
 intro x hx
 unfold okOp at h
 rw [aL_eq,List.all_eq_true] at h
 exact okX_V (h x (by simpa using hx)) hE hg
theorem places_mapM:∀ (fs:List Field),(fs.all fun f => (tsz P f.type).isSome) = true → fs.mapM (fun f => (P.info? f.type).map fun i => (f.offset,i.size)) = some (places P fs)
 | [],_ => rfl
 | f :: fs,h => by
  simp only [List.all_cons,Bool.and_eq_true] at h
  obtain ⟨n,hn⟩:=Option.isSome_iff_exists.1 h.1
  have hi:∃ i,P.info? f.type = some i ∧ i.size = n:=by
   unfold tsz at hn
   split at hn
   ·rename_i i hi; cases hn; exact ⟨i,hi,rfl⟩
   ·cases hn
  obtain ⟨i,hi,rfl⟩:=hi
  simp [List.mapM_cons,hi,places_mapM fs h.2,places,hn]
theorem sim_build {t:TypeId} {parts:Array (Nat × Operand)} {f:F} (h:compBu P t parts.toList = some f):RSim P (.build t parts) f:=by
 unfold compBu at h
 split at h
 case h_2 => cases h
 rename_i fs hd
 obtain ⟨z,hz,h⟩:=oB_some.1 h
 rw [guardB_some,guardB_some] at h
 obtain ⟨hok,hall,h⟩:=h
 cases h
 intro call e s nm v s' h
 obtain ⟨r,hr,h⟩:=oB_some.1 h
 cases h
 refine ⟨rfl,fun φ a w hE _ => ?_⟩
 have hparts:L (PR φ) (evP e parts.toList) ((parts.map fun (i,x) => (i,a.eval x)).toList):=by
  rw [evP_eq,Array.toList_map]
  exact L_map fun p hp => ⟨rfl,hE p.2 (by simp [Op.operands]; exact ⟨p.1,by simpa using hp⟩)⟩
 have hz0:L (V1 φ) z.cells.toList z.cells.toList:=by
  have:=cells_V (okV_V φ hok)
  have e1:cellsL z = z.cells.toList:=by
   cases z <;> first | rfl | (show aL _ = _; rw [aL_eq]; rfl)
  rw [e1] at this; exact this
 obtain ⟨r',hf,hL⟩:=fill_sim _ _ _ r z.cells hparts hz0 hr
 refine ⟨.agg r',.inl (.inr ⟨_,_,rfl,rfl,by simpa using hL⟩),fun o ho => ?_⟩
 have hb:P.built t (parts.map fun (i,x) => (i,a.eval x)).toList = some r':=by
  unfold Program.built
  unfold zerV at hz
  split at hz
  ·rename_i it hit
   unfold und at hd
   rw [hit,hd]
   simp only [hz,places_mapM _ hall]
   have e2:(fun x => (places P fs.toList).toArray[x]?) = nth (places P fs.toList):=by funext x; rw [nth_eq]; simp
   rw [e2]; exact hf
  ·cases hz
 simp only [execOp,ho]
 rw [Sem.run_bind,run_build w t _ r' hb]
 rfl
end Xe
end Go.Proofs.YtbioaoangfiijaaGreatDoor

/- A drawn region whose last two operations are stores,in either order: sound. -/
import Derived.Test.YtbioaoangfiijaaGreatDoorM48
namespace Go.Proofs.YtbioaoangfiijaaGreatDoor
namespace Xe
variable {P:Program}
theorem ready_iff {ops:Array Oper} {L:Array Bool} (hs:L.size = ops.size) (i:Nat) :
  i ∈ Region.ready .any ops L ↔ ∃ o,ops[i]? = some o ∧ on L i = false ∧ ∀ e ∈ o.after,Region.binds .any e = true → on L e.on = true:=by
 unfold Region.ready
 rw [List.mem_filter,List.mem_range,Bool.and_eq_true]
 constructor
 ·rintro ⟨hlt,h1,h2⟩
  have ho:ops[i]? = some ops[i]:=Array.getElem?_eq_getElem hlt
  refine ⟨ops[i],ho,?_,fun e he hb => ?_⟩
  ·have hl:L[i]? = some (L[i]'(by rw [hs]; exact hlt)):=Array.getElem?_eq_getElem _
   unfold on
   rw [Array.getD_eq_getD_getElem?,hl] at h1 ⊢
   simpa using h1
  ·rw [ho] at h2
   simp only [Option.map_some,Option.getD_some] at h2
   rw [Array.all_eq_true'] at h2
   have:=h2 e he
   rw [hb] at this
   simpa [on] using this
 ·rintro ⟨o,ho,h1,h2⟩
  have hlt:=(Array.getElem?_eq_some_iff.1 ho).1
  refine ⟨hlt,?_,?_⟩
  ·have hl:L[i]? = some (L[i]'(by rw [hs]; exact hlt)):=Array.getElem?_eq_getElem _
   unfold on at h1
   rw [Array.getD_eq_getD_getElem?,hl] at h1 ⊢
   simpa using h1
  ·rw [ho]
   simp only [Option.map_some,Option.getD_some]
   rw [Array.all_eq_true']
   intro e he
   cases hb:Region.binds .any e with
   | false => rfl
   | true =>
    have:=h2 e he hb
    unfold on at this
    rw [this]; rfl
def ff (lp:Array Bool):Array Bool:=lp ++ #[false,false,false]
theorem on_ff (lp:Array Bool) (i:Nat):on (ff lp) i = on lp i:=by
 unfold on ff
 rw [Array.getD_eq_getD_getElem?,Array.getD_eq_getD_getElem?]
 by_cases h:i < lp.size
 ·rw [Array.getElem?_append_left h]
 ·rw [Array.getElem?_append_right (by omega)]
  have h2:lp[i]? = none:=Array.getElem?_eq_none (by omega)
  rw [h2]
  match hq:i - lp.size with
  | 0 => rfl
  | 1 => rfl
  | 2 => rfl
  | q + 3 => rfl
theorem ff_set (lp:Array Bool) {i:Nat} (h:i < lp.size):(ff lp).setIfInBounds i true = ff (lp.setIfInBounds i true):=by
 apply Array.ext_getElem?
 intro j
 unfold ff
 rw [Array.getElem?_setIfInBounds]
 by_cases hj:j < lp.size
 ·rw [Array.getElem?_append_left (xs:=lp) hj,Array.getElem?_append_left (xs:=lp.setIfInBounds i true) (by simpa using hj),Array.getElem?_setIfInBounds]
  by_cases e:i = j
  ·subst e
   rw [if_pos rfl,if_pos rfl,if_pos (by simp; omega),if_pos h]
  ·rw [if_neg e,if_neg e]
 ·have hne:i ≠ j:=by omega
  rw [if_neg hne,Array.getElem?_append_right (by omega),Array.getElem?_append_right (by simp; omega)]
  simp
theorem tb_lt {m n k:Nat} (h:m < 2 ^ n) (hb:tb m k = true):k < n:=by
 rw [tb_eq] at hb
 rcases Nat.lt_or_ge k n with h1 | h1
 ·exact h1
 ·have:=Nat.testBit_lt_two_pow (Nat.lt_of_lt_of_le h (Nat.pow_le_pow_right (by omega) h1))
  rw [this] at hb; cases hb
theorem writeN_of {s:S} {a:Addr} {vs:List Value} {c:Array Value} {el:TypeId} {f:Nat × Nat} {c':List Value} (h0:a.spot = none) (h1:3 ≤ a.block) (h2:s.h a.block = some (.cells c el f)) (h3:overAt a.off c.toList vs = some c') :
  writeN s a vs = some ⟨s.c,setH s.h a.block (.cells c'.toArray el f),s.ds⟩:=by
 unfold writeN
 rw [aB_eq,noSp_some,sB_eq,guardB_some]
 refine ⟨h0,by rw [ble_dec]; simpa using h1,oB_some.2 ⟨_,h2,?_⟩⟩
 simp only [obRow]
 rw [aL_eq]
 exact oB_some.2 ⟨c',h3,rfl⟩
theorem setH_swap (h:Hp) {x y:Nat} (hne:x ≠ y) (o1 o2:Obj):setH (setH h x o1) y o2 = setH (setH h y o2) x o1:=by
 funext z
 rw [setH_get,setH_get,setH_get,setH_get]
 by_cases h1:z = x
 ·subst h1
  rw [if_neg hne,if_pos rfl,if_pos rfl]
 ·by_cases h2:z = y
  ·subst h2
   rw [if_pos rfl,if_neg h1,if_pos rfl]
  ·rw [if_neg h2,if_neg h1,if_neg h1,if_neg h2]
theorem store_swap {na nb:Nat} {xa ya xb yb:Operand} {call:Cl} {e:En} {s s2 s3:S} {v1 v2:Value} (hb:both xa xb e = true) (h1:fStore na xa ya call e s 0 = some (v1,s2)) (h2:fStore nb xb yb call e s2 0 = some (v2,s3)) :
  ∃ s2',fStore nb xb yb call e s 0 = some (v2,s2') ∧ fStore na xa ya call e s2' 0 = some (v1,s3):=by
 obtain ⟨aa,ha,h1⟩:=oB_some.1 h1
 obtain ⟨ab,hab,h2⟩:=oB_some.1 h2
 have hne:aa.block ≠ ab.block:=by
  unfold both at hb
  rw [ha,hab] at hb
  have:=not_true' hb
  rw [beq_dec] at this
  simpa using this
 rw [guardB_some,guardB_some] at h1 h2
 obtain ⟨p1,p2,h1⟩:=h1
 obtain ⟨q1,q2,h2⟩:=h2
 obtain ⟨t1,w1,h1⟩:=oB_some.1 h1
 cases h1
 obtain ⟨t2,w2,h2⟩:=oB_some.1 h2
 cases h2
 obtain ⟨a1,a2,c,el,f,c',a3,a4,rfl⟩:=writeN_some w1
 obtain ⟨b1,b2,d,em,g,d',b3,b4,rfl⟩:=writeN_some w2
 have b3':s.h ab.block = some (.cells d em g):=by
  have h:setH s.h aa.block (.cells c'.toArray el f) ab.block = some (.cells d em g):=b3
  rwa [setH_get,if_neg (Ne.symm hne)] at h
 refine ⟨⟨s.c,setH s.h ab.block (.cells d'.toArray em g),s.ds⟩,?_,?_⟩
 ·refine oB_some.2 ⟨ab,hab,?_⟩
  rw [guardB_some,guardB_some]
  exact ⟨q1,q2,oB_some.2 ⟨_,writeN_of b1 b2 b3' b4,rfl⟩⟩
 ·refine oB_some.2 ⟨aa,ha,?_⟩
  rw [guardB_some,guardB_some]
  refine ⟨p1,p2,oB_some.2 ⟨_,writeN_of (s:=⟨s.c,setH s.h ab.block (.cells d'.toArray em g),s.ds⟩) (c:=c) (el:=el) (f:=f) a1 a2 ?_ a4,?_⟩⟩
  ·show setH s.h ab.block (.cells d'.toArray em g) aa.block = _
   rw [setH_get,if_neg hne]; exact a3
  ·show some (undef,(⟨s.c,setH (setH s.h ab.block (.cells d'.toArray em g)) aa.block (.cells c'.toArray el f),s.ds⟩:S)) = some (undef,⟨s.c,setH (setH s.h aa.block (.cells c'.toArray el f)) ab.block (.cells d'.toArray em g),s.ds⟩)
   rw [setH_swap s.h hne]
theorem storeOf_some {o:Oper} {q:Nat × Operand × Operand} (h:storeOf P o = some q):∃ t,o.op = .store t q.2.1 q.2.2 ∧ o.dst = none ∧ o.guard = none ∧ okOp o.op = true ∧ tsz P t = some q.1:=by
 unfold storeOf at h
 split at h
 ·rename_i t x y h1 h2 h3
  rw [guardB_some] at h
  obtain ⟨h4,h⟩:=h
  obtain ⟨n,hn,h⟩:=oB_some.1 h
  cases h
  exact ⟨t,h1,h2,h3,h4,hn⟩
 ·cases h
theorem store_step (hN:NameOk P) {call:Cl} (hC:CallOk P call) {ops:Array Oper} {i:Nat} {o:Oper} (ho:ops[i]? = some o) {q:Nat × Operand × Operand} (hq:storeOf P o = some q) {nt:Nat} {e:En} {s s':S} {v:Value} (h:fStore q.1 q.2.1 q.2.2 call e s 0 = some (v,s'))
  {φ:Ph} {a:Act} {w:World} (hA:AR1 φ nt e s a w) {K:Act → World → Prop} {Q:Exit → Act → World → Prop} (hK:∀ φ' a' w',AR1 φ' nt e s' a' w' → Grew φ s w φ' s' w' → K a' w'):wpOp P ops Q i K a w:=by
 obtain ⟨t,hop,hd,hg,hok,ht⟩:=storeOf_some hq
 unfold wpOp
 rw [ho]
 show (if Region.wanted o (yielded ops a.tmps) = true then _ else _)
 have hw:Region.wanted o (yielded ops a.tmps) = true:=by simp [Region.wanted,hg]
 rw [if_pos hw]
 have hf:comp P o.op = some (fStore q.1 q.2.1 q.2.2):=by
  rw [hop]
  show oB (tsz P t) _ = _
  rw [ht]; rfl
 have hE:EvR φ e a o.op:=okOp_EvR hok hA.env hA.stt.rel.glo
 refine .inl (eff_wp hN hC hf (by rw [hop]; rfl) h hE hA.stt hA.dfs K Q ?_)
 intro φ' v' w' df hV hP hdf
 rw [hd]
 exact hK φ' _ w' ⟨⟨hA.env.size,fun t => (hA.env.val t).mono hP.ext.sub⟩,hP.stt,hdf⟩ hP.grew
theorem idxOf_some {nt:Nat} {o:Oper} {q:Ix} (h:idxOf P nt o = some q):comp P o.op = some (fIdx q.z q.x q.i) ∧ o.dst = some q.d ∧ o.guard = none ∧ okOp o.op = true ∧ dstOk nt (some q.d) = true:=by
 unfold idxOf at h
 split at h
 ·rename_i t x i d h1 h2 h3
  split at h
  ·rename_i el hu
   rw [guardB_some,guardB_some] at h
   obtain ⟨h4,h5,h⟩:=h
   obtain ⟨z,hz,h⟩:=oB_some.1 h
   cases h
   refine ⟨?_,h2,h3,h4,h5⟩
   rw [h1]
   show compIA P t x i = _
   unfold compIA
   rw [hu]
   exact oB_some.2 ⟨z,hz,rfl⟩
  ·cases h
 ·cases h
theorem idx_step {call:Cl} {ops:Array Oper} {i:Nat} {o:Oper} (ho:ops[i]? = some o) {nt:Nat} {q:Ix} (hq:idxOf P nt o = some q) {e:En} {s s':S} {v:Value} (h:fIdx q.z q.x q.i call e s 0 = some (v,s'))
  {φ:Ph} {a:Act} {w:World} (hA:AR1 φ nt e s a w) {K:Act → World → Prop} {Q:Exit → Act → World → Prop} (hK:∀ a',AR1 φ nt (setE e q.d v) s a' w → K a' w):wpOp P ops Q i K a w:=by
 obtain ⟨hf,hd,hg,hok,hdo⟩:=idxOf_some hq
 unfold wpOp
 rw [ho]
 show (if Region.wanted o (yielded ops a.tmps) = true then _ else _)
 have hw:Region.wanted o (yielded ops a.tmps) = true:=by simp [Region.wanted,hg]
 rw [if_pos hw]
 have hE:EvR φ e a o.op:=okOp_EvR hok hA.env hA.stt.rel.glo
 have hcls:cls o.op = 0:=by
  unfold idxOf at hq
  split at hq
  ·rename_i h1 _ _
   rw [h1]; rfl
  ·cases hq
 refine .inl ?_
 rcases comp_cls hf with ⟨_,hR⟩ | ⟨h0,_⟩ | ⟨h0,_⟩
 ·obtain ⟨rfl,hR⟩:=hR call e s 0 v s' h
  obtain ⟨v',hv,hrun⟩:=hR φ a w hE hA.stt.rel
  unfold Oper.wp
  rw [hrun o rfl]
  have hA':AR1 φ nt (put e (some q.d) v) s' (a.put (some q.d) v') w:=⟨hA.env.put hdo hv,hA.stt,hA.dfs⟩
  show K (a.put o.dst v') w
  rw [hd]
  exact hK _ hA'
 ·rw [hcls] at h0; cases h0
 ·rw [hcls] at h0; cases h0
theorem ev_notT {d:Nat} {x:Operand} (h:notT d x = true) (e:En) (v:Value):ev (setE e d v) x = ev e x:=by
 cases x with
 | tmp t =>
  have ht:t ≠ d:=by
   have h1:not' (Nat.beq t d) = true:=h
   have:=not_true' h1
   rw [beq_dec] at this
   simpa using this
  show getE (setE e d v t) = getE (e t)
  unfold setE
  rw [bB_ite,beq_dec,if_neg (by simpa using ht),reb_eq]
 | const c => rfl
 | global g => rfl
 | func f => rfl
theorem store_notT {d n:Nat} {x y:Operand} (hx:notT d x = true) (hy:notT d y = true) (call:Cl) (e:En) (v:Value) (s:S):fStore n x y call (setE e d v) s 0 = fStore n x y call e s 0:=by
 unfold fStore
 rw [ev_notT hx,ev_notT hy]
theorem full_eq (n:Nat):full n = 2 ^ n - 1:=by
 show 1 <<< n - 1 = _
 rw [Nat.shiftLeft_eq,Nat.one_mul]
theorem wpAny_end {ops:Array Oper} {L:Array Bool} {Q:Exit → Act → World → Prop} (hs:L.size = ops.size) (hall:∀ i,i < ops.size → on L i = true) {a:Act} {w:World} (hQ:Q .normal a w):∀ f,wpAny P .any ops Q f L a w:=by
 have hr:∀ i,i ∉ Region.ready .any ops L:=fun i hi => by
  obtain ⟨o,ho,h1,_⟩:=(ready_iff hs i).1 hi
  rw [hall i (Array.getElem?_eq_some_iff.1 ho).1] at h1; cases h1
 intro f
 cases f with
 | zero => exact ⟨List.eq_nil_iff_forall_not_mem.2 hr,hQ⟩
 | succ f => exact ⟨fun _ => hQ,fun i hi => absurd hi (hr i)⟩
end Xe
namespace Xe
variable {P:Program}
theorem ixB_eq {γ:Type} (q:Ix) (f:Nat → Operand → Operand → Nat → γ):ixB q f = f q.z q.x q.i q.d:=rfl
theorem pB_eta {α β γ:Type} (p:α × β) (f:α → β → γ):pB p f = f p.1 p.2:=rfl
theorem idx_any {z:Nat} {x i:Operand} {call:Cl} {e:En} {s s':S} {v:Value} (h:fIdx z x i call e s 0 = some (v,s')) (t:S):fIdx z x i call e t 0 = some (v,t):=by
 unfold fIdx at h ⊢
 generalize ev e x = y at h ⊢
 cases y <;> first | cases h | skip
 rename_i a n c
 obtain ⟨b,hb,h⟩:=oB_some.1 h
 obtain ⟨u,hu,h⟩:=oB_some.1 h
 cases h
 exact oB_some.2 ⟨b,hb,oB_some.2 ⟨v,hu,rfl⟩⟩
theorem pre_at {ops:Array Oper} {n:Nat} (hn:ops.size = n + 3):(preOf ops).size = n ∧ (∀ i,i < n → (preOf ops)[i]? = ops[i]?) ∧ aL ops = aL (preOf ops) ++ (aL ops).drop n:=by
 have hl:(aL ops).length = n + 3:=by rw [aL_eq]; simpa using hn
 have hs:Nat.sub (aL ops).length 3 = n:=by rw [hl]; rfl
 have hp:preOf ops = ⟨(aL ops).take n⟩:=by unfold preOf; rw [hs]
 rw [hp]
 refine ⟨?_,fun i hi => ?_,?_⟩
 ·show ((aL ops).take n).length = n
  rw [List.length_take,hl]; omega
 ·have e1:(⟨(aL ops).take n⟩:Array Oper)[i]? = ((aL ops).take n)[i]?:=by simp
  rw [e1,List.getElem?_take_of_lt hi,aL_eq]
  simp
 ·show aL ops = (aL ops).take n ++ (aL ops).drop n
  rw [List.take_append_drop]
theorem masks_at {ops:Array Oper} {n:Nat} (hn:ops.size = n + 3) (i:Nat) (hi:i < n):mAt (masksFrom [] (aL (preOf ops))) i = mAt (masksFrom [] (aL ops)) i:=by
 obtain ⟨h1,_,h3⟩:=pre_at hn
 obtain ⟨t,ht⟩:=masks_pre _ [] (aL (preOf ops)) ((aL ops).drop n) rfl
 rw [← h3] at ht
 have hlen:=masks_len (aL (preOf ops)) []
 have hl2:(aL (preOf ops)).length = n:=by rw [aL_eq]; simpa using h1
 rw [hl2] at hlen
 unfold mAt
 rw [nth_eq,nth_eq,ht,List.getElem?_append_left (by simp at hlen; omega)]
theorem wpOp_pre {ops pre:Array Oper} {n:Nat} (hps:pre.size = n) (hpre:∀ i,i < n → pre[i]? = ops[i]?) {i:Nat} {o:Oper} (ho:pre[i]? = some o) (hg:∀ j b,o.guard = some (j,b) → j < n) {Q:Exit → Act → World → Prop} {K:Act → World → Prop} {a:Act} {w:World}
  (h:wpOp P pre Q i K a w):wpOp P ops Q i K a w:=by
 have hi:i < n:=by have:=(Array.getElem?_eq_some_iff.1 ho).1; omega
 unfold wpOp at h ⊢
 rw [← hpre i hi]
 rw [ho] at h ⊢
 have e:Region.wanted o (yielded ops a.tmps) = Region.wanted o (yielded pre a.tmps):=by
  unfold Region.wanted
  cases hgd:o.guard with
  | none => rfl
  | some p =>
   obtain ⟨j,b⟩:=p
   have:yielded ops a.tmps j = yielded pre a.tmps j:=by unfold yielded; rw [hpre j (hg j b hgd)]
   simp only [this]
 show (if Region.wanted o (yielded ops a.tmps) = true then _ else _)
 rw [e]
 exact h
theorem guard_lt {pre:Array Oper} {o:Oper} {g:Option (Nat × Bool)} (h:guardOf pre.toList o = some g) (j:Nat) (b:Bool) (hg:o.guard = some (j,b)):j < pre.size:=by
 unfold guardOf at h
 rw [hg] at h
 obtain ⟨og,ho,_⟩:=oB_some.1 h
 rw [nth_eq] at ho
 have:=(List.getElem?_eq_some_iff.1 ho).1
 simpa using this
section
variable {ops:Array Oper} {n:Nat}
theorem edge_lt (hone:(number (aL ops) 0).all (oneOk (masksFrom [] (aL ops))) = true) {i:Nat} {o:Oper} (ho:ops[i]? = some o) {m:Nat} (hm:mAt (masksFrom [] (aL ops)) i < 2 ^ m) {e:Edge} (he:e ∈ o.after) (hb:Region.binds .any e = true):e.on < m:=by
 have h1:=(one_of hone i o ho).1
 refine tb_lt hm ?_
 rw [h1]
 refine edgeM_of ?_ hb
 rw [aL_eq]; simpa using he
theorem two_pow (n:Nat):2 ^ n - 1 < 2 ^ n:=Nat.sub_lt (Nat.two_pow_pos n) (by omega)
structure Tail (P:Program) (ops:Array Oper) (n nt:Nat) (oi oa ob:Oper) (q:Ix) (qa qb:Nat × Operand × Operand):Prop where
 size:ops.size = n + 3
 one:(number (aL ops) 0).all (oneOk (masksFrom [] (aL ops))) = true
 mi:mAt (masksFrom [] (aL ops)) n = 2 ^ n - 1
 ma:mAt (masksFrom [] (aL ops)) (n + 1) = 2 ^ (n + 1) - 1
 mb:mAt (masksFrom [] (aL ops)) (n + 2) = 2 ^ n - 1
 hi:ops[n]? = some oi
 ha:ops[n + 1]? = some oa
 hb:ops[n + 2]? = some ob
 ki:idxOf P nt oi = some q
 ka:storeOf P oa = some qa
 kb:storeOf P ob = some qb
 nx:notT q.d qb.2.1 = true
 ny:notT q.d qb.2.2 = true
theorem last_three (hN:NameOk P) {call:Cl} (hC:CallOk P call) {nt:Nat} {oi oa ob:Oper} {q:Ix} {qa qb:Nat × Operand × Operand} (T:Tail P ops n nt oi oa ob q qa qb) {e1:En} {s1 s3 s1':S} {v:Value} (hi1:fIdx q.z q.x q.i call e1 s1 0 = some (v,s1')) (h2:two2 qa qb call (setE e1 q.d v) s1 = some s3)
  {lp:Array Bool} (hls:lp.size = n) (hall:∀ i,i < n → on lp i = true) {φ:Ph} {a:Act} {w:World} (hA:AR1 φ nt e1 s1 a w) {Q:Exit → Act → World → Prop} (hQ:∀ φ' a' w',AR1 φ' nt (setE e1 q.d v) s3 a' w' → Grew φ s1 w φ' s3 w' → Q .normal a' w') (f:Nat) :
  wpAny P .any ops Q (f + 3) (ff lp) a w:=by
 have hn:=T.size
 unfold two2 at h2
 simp only [pB_eta] at h2
 rw [guardB_some] at h2
 obtain ⟨hbo,h2⟩:=h2
 obtain ⟨⟨v1,s2⟩,h1,h2⟩:=oB_some.1 h2
 rw [pB_mk] at h2
 obtain ⟨⟨v2,s3'⟩,h2,h3⟩:=oB_some.1 h2
 rw [pB_mk] at h3
 cases h3
 obtain ⟨s2',g1,g2⟩:=store_swap hbo h1 h2
 have hsz:(ff lp).size = ops.size:=by unfold ff; simp [hls,hn]
 have hon:∀ i,on (ff lp) i = decide (i < n):=by
  intro i
  rw [on_ff]
  by_cases hi:i < n
  ·rw [hall i hi]; simp [hi]
  ·unfold on
   rw [Array.getD_eq_getD_getElem?,Array.getElem?_eq_none (by omega)]
   simp [hi]
 have hmlt:∀ i,i < n + 3 → mAt (masksFrom [] (aL ops)) i < 2 ^ n ∨ i = n + 1 ∨ i < n:=by
  intro i hi
  have:i < n ∨ i = n ∨ i = n + 1 ∨ i = n + 2:=by omega
  rcases this with h | rfl | rfl | rfl
  ·exact .inr (.inr h)
  ·exact .inl (by rw [T.mi]; exact two_pow _)
  ·exact .inr (.inl rfl)
  ·exact .inl (by rw [T.mb]; exact two_pow _)
 -- who is ready,where the last three are listed so
 have rdy:∀ (L:Array Bool) (bi ba bb:Bool),L.size = ops.size → (∀ i,on L i = if i = n then bi else if i = n + 1 then ba else if i = n + 2 then bb else decide (i < n)) → ∀ x,x ∈ Region.ready .any ops L ↔ (x = n ∧ bi = false) ∨ (x = n + 1 ∧ ba = false ∧ bi = true) ∨ (x = n + 2 ∧ bb = false):=by
  intro L bi ba bb hL hLo x
  rw [ready_iff hL]
  constructor
  ·rintro ⟨o,ho,h1,h2⟩
   have hx:=(Array.getElem?_eq_some_iff.1 ho).1
   rw [hLo] at h1
   by_cases e0:x = n
   ·subst e0; rw [if_pos rfl] at h1; exact .inl ⟨rfl,h1⟩
   ·rw [if_neg e0] at h1
    by_cases e1:x = n + 1
    ·subst e1
     rw [if_pos rfl] at h1
     refine .inr (.inl ⟨rfl,h1,?_⟩)
     have htb:tb (mAt (masksFrom [] (aL ops)) (n + 1)) n = true:=by
      rw [T.ma,tb_eq,Nat.testBit_two_pow_sub_one]; simp
     rw [(one_of T.one (n + 1) o ho).1] at htb
     obtain ⟨e,he,hb,h3⟩:=edgeM_tb htb
     rw [aL_eq] at he
     have hl:=h2 e (by simpa using he) hb
     have hen:e.on < n + 1:=edge_lt T.one ho (by rw [T.ma]; exact two_pow _) (by simpa using he) hb
     rcases h3 with h3 | h3
     ·rw [h3,hLo,if_pos rfl] at hl; exact hl
     ·exfalso
      have h4:n < e.on:=by
       have hoe:ops[e.on]? = some (ops[e.on]'(by omega)):=Array.getElem?_eq_getElem _
       exact tb_lt (one_of T.one e.on _ hoe).2 h3
      omega
    ·rw [if_neg e1] at h1
     by_cases e2:x = n + 2
     ·subst e2; rw [if_pos rfl] at h1; exact .inr (.inr ⟨rfl,h1⟩)
     ·rw [if_neg e2] at h1
      have:¬ x < n:=by simpa using h1
      omega
  ·have pre:∀ (i m:Nat) (o:Oper),ops[i]? = some o → mAt (masksFrom [] (aL ops)) i = 2 ^ m - 1 → ∀ e ∈ o.after,Region.binds .any e = true → e.on < m:=fun i m o ho hm e he hb => edge_lt T.one ho (by rw [hm]; exact two_pow _) he hb
   rintro (⟨rfl,h⟩ | ⟨rfl,h,h'⟩ | ⟨rfl,h⟩)
   ·refine ⟨oi,T.hi,by rw [hLo,if_pos rfl]; exact h,fun e he hb => ?_⟩
    have:=pre _ _ _ T.hi T.mi e he hb
    rw [hLo,if_neg (by omega),if_neg (by omega),if_neg (by omega)]; simpa using this
   ·refine ⟨oa,T.ha,by rw [hLo,if_neg (by omega),if_pos rfl]; exact h,fun e he hb => ?_⟩
    have:=pre _ _ _ T.ha T.ma e he hb
    rw [hLo]
    by_cases e0:e.on = n
    ·rw [if_pos e0]; exact h'
    ·rw [if_neg e0,if_neg (by omega),if_neg (by omega)]
     simp; omega
   ·refine ⟨ob,T.hb,by rw [hLo,if_neg (by omega),if_neg (by omega),if_pos rfl]; exact h,fun e he hb => ?_⟩
    have:=pre _ _ _ T.hb T.mb e he hb
    rw [hLo,if_neg (by omega),if_neg (by omega),if_neg (by omega)]; simpa using this
 have stp:∀ (L:Array Bool) (bi ba bb:Bool) (x:Nat),L.size = ops.size → x < ops.size → (∀ i,on L i = if i = n then bi else if i = n + 1 then ba else if i = n + 2 then bb else decide (i < n)) →
   (L.setIfInBounds x true).size = ops.size ∧ ∀ i,on (L.setIfInBounds x true) i = (decide (i = x) || if i = n then bi else if i = n + 1 then ba else if i = n + 2 then bb else decide (i < n)):=fun L bi ba bb x hL hx hLo => ⟨by simpa using hL,fun i => by rw [on_set (by omega),hLo]⟩
 have hon0:∀ i,on (ff lp) i = if i = n then false else if i = n + 1 then false else if i = n + 2 then false else decide (i < n):=by
  intro i
  rw [hon]
  by_cases e0:i = n
  ·rw [if_pos e0]; simp; omega
  ·rw [if_neg e0]
   by_cases e1:i = n + 1
   ·rw [if_pos e1]; simp; omega
   ·rw [if_neg e1]
    by_cases e2:i = n + 2
    ·rw [if_pos e2]; simp; omega
    ·rw [if_neg e2]
 have upd:∀ (bi ba bb:Bool) (x:Nat) (ci ca cb:Bool),(x = n ∧ ci = true ∧ ca = ba ∧ cb = bb) ∨ (x = n + 1 ∧ ci = bi ∧ ca = true ∧ cb = bb) ∨ (x = n + 2 ∧ ci = bi ∧ ca = ba ∧ cb = true) → ∀ i:Nat,(decide (i = x) || if i = n then bi else if i = n + 1 then ba else if i = n + 2 then bb else decide (i < n)) = if i = n then ci else if i = n + 1 then ca else if i = n + 2 then cb else decide (i < n):=by
  rintro bi ba bb x ci ca cb (⟨hx,rfl,rfl,rfl⟩ | ⟨hx,rfl,rfl,rfl⟩ | ⟨hx,rfl,rfl,rfl⟩) i <;> rw [hx] <;> clear hx <;>
  ·by_cases e0:i = n
   ·subst e0; simp
   ·by_cases e1:i = n + 1
    ·subst e1; simp
    ·by_cases e2:i = n + 2
     ·subst e2; simp
     ·simp [e0,e1,e2]
 have fin:∀ (L:Array Bool),L.size = ops.size → (∀ i,on L i = if i = n then true else if i = n + 1 then true else if i = n + 2 then true else decide (i < n)) → ∀ (φ':Ph) (a':Act) (w':World),AR1 φ' nt (setE e1 q.d v) s3 a' w' → Grew φ s1 w φ' s3 w' → ∀ f,wpAny P .any ops Q f L a' w':=by
  intro L hL hLo φ' a' w' hA' hG'
  refine wpAny_end hL (fun i hi => ?_) (hQ φ' a' w' hA' hG')
  rw [hLo]
  by_cases e0:i = n
  ·rw [if_pos e0]
  ·rw [if_neg e0]
   by_cases e1:i = n + 1
   ·rw [if_pos e1]
   ·rw [if_neg e1]
    by_cases e2:i = n + 2
    ·rw [if_pos e2]
    ·rw [if_neg e2]; simp; omega
 -- behind the element's address: the stores,in either order
 have two:∀ (L:Array Bool),L.size = ops.size → (∀ i,on L i = if i = n then true else if i = n + 1 then false else if i = n + 2 then false else decide (i < n)) → ∀ a',AR1 φ nt (setE e1 q.d v) s1 a' w → wpAny P .any ops Q (f + 2) L a' w:=by
  intro L hL hLo a' hA'
  have hr:=rdy L true false false hL hLo
  refine ⟨fun h => absurd ((hr (n + 1)).2 (.inr (.inl ⟨rfl,rfl,rfl⟩))) (by rw [h]; simp),fun x hx => ?_⟩
  rcases (hr x).1 hx with ⟨_,h⟩ | ⟨rfl,_⟩ | ⟨rfl,_⟩
  ·cases h
  ·refine store_step hN hC T.ha T.ka h1 hA' ?_
   intro φ1 a1 w1 hA1 hG1
   obtain ⟨hL1,hLo1⟩:=stp L true false false (n + 1) hL (by omega) hLo
   have hLo1':=fun i => (hLo1 i).trans (upd true false false (n + 1) true true false (.inr (.inl ⟨rfl,rfl,rfl,rfl⟩)) i)
   have hr1:=rdy _ true true false hL1 hLo1'
   refine ⟨fun h => absurd ((hr1 (n + 2)).2 (.inr (.inr ⟨rfl,rfl⟩))) (by rw [h]; simp),fun y hy => ?_⟩
   rcases (hr1 y).1 hy with ⟨_,h⟩ | ⟨_,h,_⟩ | ⟨rfl,_⟩
   ·cases h
   ·cases h
   ·refine store_step hN hC T.hb T.kb h2 hA1 ?_
    intro φ2 a2 w2 hA2 hG2
    obtain ⟨hL2,hLo2⟩:=stp _ true true false (n + 2) hL1 (by omega) hLo1'
    exact fin _ hL2 (fun i => (hLo2 i).trans (upd true true false (n + 2) true true true (.inr (.inr ⟨rfl,rfl,rfl,rfl⟩)) i)) φ2 a2 w2 hA2 (hG1.trans hA'.stt hA1.stt hG2) f
  ·refine store_step hN hC T.hb T.kb g1 hA' ?_
   intro φ1 a1 w1 hA1 hG1
   obtain ⟨hL1,hLo1⟩:=stp L true false false (n + 2) hL (by omega) hLo
   have hLo1':=fun i => (hLo1 i).trans (upd true false false (n + 2) true false true (.inr (.inr ⟨rfl,rfl,rfl,rfl⟩)) i)
   have hr1:=rdy _ true false true hL1 hLo1'
   refine ⟨fun h => absurd ((hr1 (n + 1)).2 (.inr (.inl ⟨rfl,rfl,rfl⟩))) (by rw [h]; simp),fun y hy => ?_⟩
   rcases (hr1 y).1 hy with ⟨_,h⟩ | ⟨rfl,_⟩ | ⟨_,h⟩
   ·cases h
   ·refine store_step hN hC T.ha T.ka g2 hA1 ?_
    intro φ2 a2 w2 hA2 hG2
    obtain ⟨hL2,hLo2⟩:=stp _ true false true (n + 1) hL1 (by omega) hLo1'
    exact fin _ hL2 (fun i => (hLo2 i).trans (upd true false true (n + 1) true true true (.inr (.inl ⟨rfl,rfl,rfl,rfl⟩)) i)) φ2 a2 w2 hA2 (hG1.trans hA'.stt hA1.stt hG2) f
   ·cases h
 have hr0:=rdy (ff lp) false false false hsz hon0
 refine ⟨fun h => absurd ((hr0 n).2 (.inl ⟨rfl,rfl⟩)) (by rw [h]; simp),fun x hx => ?_⟩
 rcases (hr0 x).1 hx with ⟨rfl,_⟩ | ⟨_,_,h⟩ | ⟨rfl,_⟩
 ·refine idx_step T.hi T.ki hi1 hA ?_
  intro a' hA'
  obtain ⟨hL1,hLo1⟩:=stp (ff lp) false false false x hsz (by omega) hon0
  exact two _ hL1 (fun i => (hLo1 i).trans (upd false false false x true false false (.inl ⟨rfl,rfl,rfl,rfl⟩) i)) a' hA'
 ·cases h
 ·have g1':fStore qb.1 qb.2.1 qb.2.2 call e1 s1 0 = some (v2,s2'):=by rw [← store_notT (n:=qb.1) T.nx T.ny call e1 v s1]; exact g1
  refine store_step hN hC T.hb T.kb g1' hA ?_
  intro φ1 a1 w1 hA1 hG1
  obtain ⟨hL1,hLo1⟩:=stp (ff lp) false false false (n + 2) hsz (by omega) hon0
  have hLo1':=fun i => (hLo1 i).trans (upd false false false (n + 2) false false true (.inr (.inr ⟨rfl,rfl,rfl,rfl⟩)) i)
  have hr1:=rdy _ false false true hL1 hLo1'
  refine ⟨fun h => absurd ((hr1 n).2 (.inl ⟨rfl,rfl⟩)) (by rw [h]; simp),fun y hy => ?_⟩
  rcases (hr1 y).1 hy with ⟨rfl,_⟩ | ⟨_,_,h⟩ | ⟨_,h⟩
  ·have hi2:fIdx q.z q.x q.i call e1 s2' 0 = some (v,s2'):=idx_any hi1 s2'
   refine idx_step T.hi T.ki hi2 hA1 ?_
   intro a2 hA2
   obtain ⟨hL2,hLo2⟩:=stp _ false false true y hL1 (by omega) hLo1'
   have hLo2':=fun i => (hLo2 i).trans (upd false false true y true false true (.inl ⟨rfl,rfl,rfl,rfl⟩) i)
   have hr2:=rdy _ true false true hL2 hLo2'
   refine ⟨fun h => absurd ((hr2 (y + 1)).2 (.inr (.inl ⟨rfl,rfl,rfl⟩))) (by rw [h]; simp),fun z hz => ?_⟩
   rcases (hr2 z).1 hz with ⟨_,h⟩ | ⟨rfl,_⟩ | ⟨_,h⟩
   ·cases h
   ·refine store_step hN hC T.ha T.ka g2 hA2 ?_
    intro φ3 a3 w3 hA3 hG3
    obtain ⟨hL3,hLo3⟩:=stp _ true false true (y + 1) hL2 (by omega) hLo2'
    exact fin _ hL3 (fun i => (hLo3 i).trans (upd true false true (y + 1) true true true (.inr (.inl ⟨rfl,rfl,rfl,rfl⟩)) i)) φ3 a3 w3 hA3 (hG1.trans hA.stt hA1.stt hG3) f
   ·cases h
  ·cases h
  ·cases h
theorem ready_some {nt nm0 k:Nat} {pre:Array Oper} {ms es:List Nat} {call:Cl} {e0 vsF:En} {ds:List Dp} {sF:S} {Sx Jx:Nat → S} {φ0 φ:Ph} {h0 h:Hp} {w0 w:World} {listed:Array Bool} {a:Act} (C:Ctx P nt pre ms es call e0 nm0 ds vsF sF Sx Jx)
  (I:Inv pre nt ms es call e0 nm0 ds vsF Sx φ0 h0 w0 listed k a w φ h) (hne:¬ ∀ i,i < pre.size → on listed i = true):∃ i,i ∈ Region.ready .any pre listed:=by
 refine Classical.byContradiction fun hno => hne ?_
 intro i
 induction i using Nat.strongRecOn with
 | _ i ih =>
  intro hlt
  cases hon:on listed i with
  | true => rfl
  | false =>
   exfalso
   have ho:pre[i]? = some pre[i]:=Array.getElem?_eq_getElem hlt
   refine hno ⟨i,(ready_iff I.sz i).2 ⟨_,ho,hon,fun e he hb => ?_⟩⟩
   have ht:=C.edge i _ ho e he hb
   have hle:=C.st.lt i _ ho e.on ht
   exact ih e.on hle (by omega)
theorem any_two (hN:NameOk P) {call:Cl} (hC:CallOk P call) (hn:ops.size = n + 3) (hone:(number (aL ops) 0).all (oneOk (masksFrom [] (aL ops))) = true) (hmi:mAt (masksFrom [] (aL ops)) n = 2 ^ n - 1) (hma:mAt (masksFrom [] (aL ops)) (n + 1) = 2 ^ (n + 1) - 1) (hmb:mAt (masksFrom [] (aL ops)) (n + 2) = 2 ^ n - 1)
  {nt:Nat} {e:En} {s:S} {r:R} {ms es:List Nat} {ds:List Dp} {vsF:En} {sF:S} {Sx Jx:Nat → S} (R:RegC P nt call (preOf ops) e s r ms es ds vsF sF Sx Jx) {φ0:Ph} {w0:World} (r0:Rel φ0 s.h w0) {Q:Exit → Act → World → Prop}
  (hLast:∀ lp a w φ,lp.size = n → (∀ i,i < n → on lp i = true) → AR1 φ nt r.e r.s a w → Grew φ0 s w0 φ r.s w → ∀ f,wpAny P .any ops Q (f + 3) (ff lp) a w) :
  ∀ (fuel:Nat) (lp:Array Bool) (k:Nat) (a:Act) (w:World) (φ:Ph) (h:Hp),lp.toList.count false ≤ fuel → Inv (preOf ops) nt ms es call e s.c ds vsF Sx φ0 s.h w0 lp k a w φ h → wpAny P .any ops Q (fuel + 3) (ff lp) a w:=by
 obtain ⟨hps,hpre,_⟩:=pre_at hn
 intro fuel
 induction fuel with
 | zero =>
  intro lp k a w φ h hc I
  have hls:lp.size = n:=I.sz.trans hps
  have hall:∀ i,i < n → on lp i = true:=by
   intro i hi
   have hl:lp[i]? = some (lp[i]'(by omega)):=Array.getElem?_eq_getElem _
   unfold on
   rw [Array.getD_eq_getD_getElem?,hl]
   cases hb:lp[i]'(by omega) with
   | true => rfl
   | false =>
    have hm:false ∈ lp.toList:=by
     have:=Array.getElem_mem (xs:=lp) (i:=i) (by omega)
     rw [hb] at this
     simpa using this
    have:=List.count_pos_iff.2 hm
    omega
  obtain ⟨hA,hG⟩:=R.fin φ0 w0 lp k a w φ h I (fun i hi => hall i (by rw [hps] at hi; exact hi))
  exact hLast lp a w φ hls hall hA hG 0
 | succ fuel ih =>
  intro lp k a w φ h hc I
  have hls:lp.size = n:=I.sz.trans hps
  by_cases hall:∀ i,i < n → on lp i = true
  ·obtain ⟨hA,hG⟩:=R.fin φ0 w0 lp k a w φ h I (fun i hi => hall i (by rw [hps] at hi; exact hi))
   exact hLast lp a w φ hls hall hA hG (fuel + 1)
  ·have hsz:(ff lp).size = ops.size:=by unfold ff; simp [hls,hn]
   have hback:∀ i,i ∈ Region.ready .any (preOf ops) lp → i ∈ Region.ready .any ops (ff lp):=by
    intro i hi
    obtain ⟨o,ho,h1,h2⟩:=(ready_iff I.sz i).1 hi
    have hlt:i < n:=by have:=(Array.getElem?_eq_some_iff.1 ho).1; omega
    exact (ready_iff hsz i).2 ⟨o,by rw [← hpre i hlt]; exact ho,by rw [on_ff]; exact h1,fun e he hb => by rw [on_ff]; exact h2 e he hb⟩
   obtain ⟨i0,hi0⟩:=ready_some R.ctx I (fun hh => hall fun i hi => hh i (by omega))
   refine ⟨fun hr => absurd (hback i0 hi0) (by rw [hr]; simp),fun i hi => ?_⟩
   obtain ⟨o,ho,h1,h2⟩:=(ready_iff hsz i).1 hi
   rw [on_ff] at h1
   have hlt:i < n:=by
    refine Classical.byContradiction fun hge => hall fun j hj => ?_
    have hi2:=(Array.getElem?_eq_some_iff.1 ho).1
    have htb:tb (mAt (masksFrom [] (aL ops)) i) j = true:=by
     have:i = n ∨ i = n + 1 ∨ i = n + 2:=by omega
     rcases this with rfl | rfl | rfl
     ·rw [hmi,tb_eq,Nat.testBit_two_pow_sub_one]; simpa using hj
     ·rw [hma,tb_eq,Nat.testBit_two_pow_sub_one]; simp; omega
     ·rw [hmb,tb_eq,Nat.testBit_two_pow_sub_one]; simpa using hj
    rw [(one_of hone i o ho).1] at htb
    obtain ⟨e,he,hb,h3⟩:=edgeM_tb htb
    rw [aL_eq] at he
    have hl:=h2 e (by simpa using he) hb
    rw [on_ff] at hl
    have hel:e.on < n:=by
     refine Classical.byContradiction fun hh => ?_
     unfold on at hl
     rw [Array.getD_eq_getD_getElem?,Array.getElem?_eq_none (by omega)] at hl
     cases hl
    rcases h3 with rfl | h3
    ·exact hl
    ·refine I.down e.on hl j ?_
     rw [R.msE,masks_at hn e.on hel]
     exact h3
   have hop:(preOf ops)[i]? = some o:=by rw [hpre i hlt]; exact ho
   have hir:i ∈ Region.ready .any (preOf ops) lp:=(ready_iff I.sz i).2 ⟨o,hop,h1,fun e he hb => by have:=h2 e he hb; rwa [on_ff] at this⟩
   obtain ⟨d,hdm,hdi⟩:=R.ctx.dat i o hop
   obtain ⟨o',hd⟩:=R.ctx.dok d hdm
   have hoo:o' = o:=by have:=hd.op; rw [hdi,hop] at this; cases this; rfl
   subst hoo
   refine wpOp_pre hps hpre hop (fun j b hg => by have:=guard_lt hd.g j b hg; omega) (step_any hN hC R.ctx I r0 hir ?_)
   intro k' a' w' φ' h' I'
   rw [ff_set lp (by omega)]
   refine ih _ k' a' w' φ' h' ?_ I'
   have hls2:i < lp.toList.length:=by simpa [hls] using hlt
   have e:lp.toList[i] = false:=by
    have hl:lp[i]? = some (lp[i]'(by omega)):=Array.getElem?_eq_getElem _
    unfold on at h1
    rw [Array.getD_eq_getD_getElem?,hl] at h1
    simpa using h1
   rw [Array.toList_setIfInBounds,List.count_set hls2,e]
   have hmem:false ∈ lp.toList:=by rw [← e]; exact List.getElem_mem hls2
   have:=List.count_pos_iff.2 hmem
   simp only [beq_self_eq_true,if_true]
   have e2:(true == false) = false:=rfl
   rw [e2]
   simp only [Bool.false_eq_true,if_false]
   omega
end
theorem regT_ok (hN:NameOk P) (hm:P.follows .mixedOrders = true) {call:Cl} (hC:CallOk P call) {nt:Nat} {ops:Array Oper} {e:En} {s:S} {r:R} (h:regT P nt call ops e s = some r) :
  r.k = 0 ∧ ∀ (id:Nat) (φ:Ph) (a:Act) (w:World),AR1 φ nt e s a w → (Code.region id ops true).wp P (To φ nt s w r) a w:=by
 unfold regT at h
 rw [guardB_some,Bool.and_eq_true,ble_dec] at h
 obtain ⟨⟨hl,hlast⟩,h⟩:=h
 have hl:3 ≤ (aL ops).length:=by simpa using hl
 have hls:(aL ops).length = ops.size:=by rw [aL_eq]; simp
 obtain ⟨n,hn⟩:∃ n,ops.size = n + 3:=⟨ops.size - 3,by omega⟩
 have hlen:(aL ops).length = n + 3:=by rw [aL_eq]; simpa using hn
 have hsub:Nat.sub (aL ops).length 3 = n:=by rw [hlen]; rfl
 rw [hsub] at hlast h
 unfold lastOk at hlast
 rw [Bool.and_eq_true,Bool.and_eq_true,Bool.and_eq_true,beq_dec,beq_dec,beq_dec,full_eq,full_eq] at hlast
 obtain ⟨hone,hmi,hma,hmb⟩:=hlast
 have hmi:mAt (masksFrom [] (aL ops)) n = 2 ^ n - 1:=by simpa using hmi
 have hma:mAt (masksFrom [] (aL ops)) (n + 1) = 2 ^ (n + 1) - 1:=by simpa using hma
 have hmb:mAt (masksFrom [] (aL ops)) (n + 2) = 2 ^ n - 1:=by simpa using hmb
 obtain ⟨q,hq,h⟩:=oB_some.1 h
 obtain ⟨oi,hoi,hq⟩:=oB_some.1 hq
 obtain ⟨qa,hqa,h⟩:=oB_some.1 h
 obtain ⟨oa,hoa,hqa⟩:=oB_some.1 hqa
 obtain ⟨qb,hqb,h⟩:=oB_some.1 h
 obtain ⟨ob,hob,hqb⟩:=oB_some.1 hqb
 rw [ixB_eq,guardB_some,Bool.and_eq_true] at h
 obtain ⟨⟨hnx,hny⟩,h⟩:=h
 obtain ⟨r1,hr1,h⟩:=oB_some.1 h
 rw [rB_eq,guardB_some] at h
 obtain ⟨_,h⟩:=h
 obtain ⟨⟨v,s1'⟩,hix,h⟩:=oB_some.1 h
 rw [pB_mk] at h
 obtain ⟨s3,hs3,h⟩:=oB_some.1 h
 cases h
 rw [nth_eq,aL_eq] at hoi hoa hob
 have hoi:ops[n]? = some oi:=by simpa using hoi
 have hoa:ops[n + 1]? = some oa:=by simpa using hoa
 have hob:ops[n + 2]? = some ob:=by simpa using hob
 have T:Tail P ops n nt oi oa ob q qa qb:=⟨hn,hone,hmi,hma,hmb,hoi,hoa,hob,hq,hqa,hqb,hnx,hny⟩
 obtain ⟨_,ms,es,ds,vsF,sF,Sx,Jx,R⟩:=reg_c call hr1
 refine ⟨rfl,fun id φ a w hA => wp_region_any hm ?_⟩
 have hrep:Array.replicate ops.size false = ff (Array.replicate n false):=by
  rw [hn]
  apply Array.ext_getElem?
  intro j
  unfold ff
  rw [Array.getElem?_replicate]
  by_cases hj:j < n
  ·rw [Array.getElem?_append_left (by simpa using hj),Array.getElem?_replicate,if_pos hj,if_pos (by omega)]
  ·rw [Array.getElem?_append_right (by simp; omega)]
   simp only [Array.size_replicate]
   by_cases h2:j < n + 3
   ·rw [if_pos h2]
    have:j - n = 0 ∨ j - n = 1 ∨ j - n = 2:=by omega
    rcases this with h3 | h3 | h3 <;> rw [h3] <;> rfl
   ·rw [if_neg h2]
    obtain ⟨q,hq⟩:∃ q,j - n = q + 3:=⟨j - n - 3,by omega⟩
    rw [hq]; rfl
 rw [hrep]
 rw [hn]
 have hst:=R.start φ a w hA
 rw [(pre_at hn).1] at hst
 refine any_two hN hC hn hone hmi hma hmb R hA.stt.rel ?_ n _ 0 a _ φ s.h (by simp) hst
 intro lp a1 w1 φ1 hls hall hA1 hG1 f
 exact last_three hN hC T hix hs3 hls hall hA1 (fun φ2 a2 w2 hA2 hG2 => ⟨rfl,φ2,hA2,hG1.trans hA.stt hA1.stt hG2⟩) f
theorem spTwo_ok (hN:NameOk P) (hm:P.follows .mixedOrders = true) {call:Cl} (hC:CallOk P call) {f:FuncId} {args:List Value} {s s':S} {v:Value} (h:spTwo P call f args s = some (v,s')):CallAt P f args s v s':=by
 unfold spTwo at h
 obtain ⟨⟨fn,c⟩,hb,h⟩:=oB_some.1 h
 rw [pB_mk] at h
 obtain ⟨gn,hf,hb⟩:=oB_some.1 hb
 obtain ⟨c',hc,hb⟩:=oB_some.1 hb
 cases hb
 split at h
 ·rename_i ops
  cases hres:aL fn.results with
  | cons x l => rw [hres,lB_cons] at h; cases h
  | nil =>
  rw [hres,lB_nil,guardB_some,sB_eq,ble_dec] at h
  obtain ⟨hle,h⟩:=h
  have hle':args.length ≤ fn.ntmps:=by simpa using hle
  obtain ⟨r,hr,h⟩:=oB_some.1 h
  rw [rB_eq,sB_eq] at h
  cases hd:r.s.ds with
  | cons d l => rw [hd,lB_cons] at h; cases h
  | nil =>
  rw [hd,lB_nil] at h
  cases h
  obtain ⟨hk,hwp⟩:=regT_ok hN hm hC hr
  refine ⟨rfl,⟨fn,_,hf,hc⟩,fun φ w args' hL hS => ?_⟩
  have hA:AR1 φ fn.ntmps (enter args 0 (fun _ => none)) ⟨s.c,s.h,[]⟩ { tmps:=args' ++ Array.replicate (fn.ntmps - args'.size) undef,defers:=[] } w:=⟨enter_ok hL hle',⟨hS.rel,hS.fr⟩,trivial⟩
  refine calls_of_wp_defers hf hc (wp_mono (hwp _ φ _ w hA) ?_)
  rintro ex a1 w1 ⟨rfl,φ1,hA1,hG1⟩
  have hP1:Post φ s w φ1 r.s w1:=⟨hA1.stt,hG1.ext,hG1.le,hG1.new,hG1.liv⟩
  have hl:res1 P r.e ⟨r.s.c,r.s.h,s.ds⟩ (aL fn.results) = some []:=by rw [hres]; rfl
  obtain ⟨v',hv,hrun⟩:=results_ok (P:=P) (s:=⟨r.s.c,r.s.h,s.ds⟩) hA1.env hA1.stt.rel hl
  have hdf:a1.defers = []:=by
   have:=hA1.dfs
   rw [hd] at this
   cases hh:a1.defers with
   | nil => rfl
   | cons x y => rw [hh] at this; exact this.elim
  have key:Leaves P fn a1.tmps (fun e w' => ∃ φ' v',e = .returned v' ∧ V φ' (.tuple #[]) v' ∧ Post φ s w φ' ⟨r.s.c,r.s.h,s.ds⟩ w') a1.defers .returning w1:=by
   rw [hdf]
   exact ⟨v',hrun,φ1,v',rfl,hv,hP1.ds s.ds s.ds⟩
  rw [hk]
  exact key
 ·cases h
end Xe
end Go.Proofs.YtbioaoangfiijaaGreatDoor

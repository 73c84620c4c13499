/- Slices,lookups,lengths. -/
import Derived.Test.YtbioaoangfiijaaGreatDoorM38
import Derived.Great.BuildSlice
import Derived.Laws.MakeOwn
namespace Go.Proofs.YtbioaoangfiijaaGreatDoor
namespace Xe
variable {P:Program}
theorem boundL_some {x:Option Value} {d m n:Nat} (h:boundL x d m = some n):(x = none ∧ n = d) ∨ (n ≤ m ∧ ∃ k:IntKind,x = some (.int k (n:Int))):=by
 cases x with
 | none => have h':some d = some n:=h; cases h'; exact .inl ⟨rfl,rfl⟩
 | some v =>
  have h':(vInt v none fun _ i => iB i (fun n => bB (Nat.ble n m) (some n) none) (fun _ => none)) = some n:=h
  obtain ⟨k,i,rfl,h2⟩:=vInt_some.1 h'
  cases i with
  | negSucc i => cases h2
  | ofNat i =>
   rw [iB_pos,bB_ite,ble_dec] at h2
   split at h2
   ·rename_i hle; cases h2; exact .inr ⟨by simpa using hle,k,rfl⟩
   ·cases h2
def BoR (x x':Option Value):Prop:=(x = none → x' = none) ∧ ∀ (k:IntKind) (n:Int),x = some (.int k n) → x' = some (.int k n)
theorem evO_BoR {φ:Ph} {e:En} {a:Act} {x:Option Operand} (h:∀ y,x = some y → V φ (ev e y) (a.eval y)):BoR (evO e x) (x.map a.eval):=by
 cases x with
 | none => exact ⟨fun _ => rfl,fun k n h' => by cases h'⟩
 | some y =>
  refine ⟨fun h' => (by cases h'),fun k n h' => ?_⟩
  have e1:ev e y = .int k n:=Option.some.inj (show some (ev e y) = some (.int k n) from h')
  have:=h y rfl
  rw [e1] at this
  simp [V_int this]
theorem run_bound {k:IntKind} {n m:Nat} (h:n ≤ m) (code:BoundsCode) (w:World):(Instr.sliceBound (.int k (n:Int)) m code).run P w = .ok n w:=by
 simp [Instr.sliceBound,asIntOf,h]
theorem run_bounds {isS:Bool} {len cap l h:Nat} {lo hi lo' hi':Option Value} (hc:len ≤ cap) (hl:BoR lo lo') (hh:BoR hi hi') (h1:boundL hi len len = some h) (h2:boundL lo 0 h = some l) (w:World) :
  h ≤ len ∧ l ≤ h ∧ (Instr.sliceBounds isS len cap lo' hi' none).run P w = .ok (l,h,cap) w:=by
 rcases boundL_some h1 with ⟨e1,rfl⟩ | ⟨b1,k1,e1⟩ <;> rcases boundL_some h2 with ⟨e2,rfl⟩ | ⟨b2,k2,e2⟩
 ·rw [hl.1 e2,hh.1 e1]
  exact ⟨Nat.le_refl _,Nat.zero_le _,by simp [Instr.sliceBounds]⟩
 ·rw [hl.2 _ _ e2,hh.1 e1]
  exact ⟨Nat.le_refl _,b2,by simp [Instr.sliceBounds,run_bound b2]⟩
 ·rw [hl.1 e2,hh.2 _ _ e1]
  exact ⟨b1,Nat.zero_le _,by simp [Instr.sliceBounds,run_bound (Nat.le_trans b1 hc)]⟩
 ·rw [hl.2 _ _ e2,hh.2 _ _ e1]
  exact ⟨b1,b2,by simp [Instr.sliceBounds,run_bound (Nat.le_trans b1 hc),run_bound b2]⟩
theorem sim_sliceS {t:TypeId} (x:Operand) (lo hi:Option Operand) (hd:und P t = some .string):RSim P (.slice t x lo hi none) (fSlice none x lo hi):=by
 intro call e s nm v s' h
 rw [fSlice,ret_some] at h
 obtain ⟨h2,rfl⟩:=h
 have h2':(vStr (ev e x) none fun b => sliceS b (evO e lo) (evO e hi)) = some v:=h2
 obtain ⟨b,hb,h3⟩:=vStr_some.1 h2'
 unfold sliceS at h3
 obtain ⟨hn,e1,h3⟩:=oB_some.1 h3
 obtain ⟨ln,e2,h3⟩:=oB_some.1 h3
 obtain ⟨r,hr,h3⟩:=oB_some.1 h3
 cases h3
 rw [takeN_some,dropN_eq,sL_eq] at hr
 obtain ⟨_,rfl⟩:=hr
 rw [sL_eq] at e1
 refine ⟨rfl,fun φ a w hE _ => ?_⟩
 have hx:=hE x (by simp [Op.operands])
 rw [hb] at hx
 have hl:BoR (evO e lo) (lo.map a.eval):=evO_BoR (φ:=φ) fun y hy => hE y (by simp [Op.operands,hy])
 have hh:BoR (evO e hi) (hi.map a.eval):=evO_BoR (φ:=φ) fun y hy => hE y (by simp [Op.operands,hy])
 have hsz:b.data.toList.length = b.size:=by
  show b.data.toList.length = b.data.size
  simp
 rw [hsz] at e1
 obtain ⟨c1,c2,hrun⟩:=run_bounds (P:=P) (isS:=false) (Nat.le_refl _) hl hh e1 e2 w
 refine ⟨.string (b.extract ln hn),?_,fun o ho => ?_⟩
 ·have:b.extract ln hn = ⟨((b.data.toList.drop ln).take (Nat.sub hn ln)).toArray⟩:=by
   apply ByteArray.ext
   rw [ByteArray.data_extract]
   apply Array.toList_inj.1
   simp [Array.toList_extract]
  rw [this]
  exact .of0 rfl
 ·simp only [execOp,ho,V_str hx]
  simp [Instr.sliceAt,Instr.slice,run_und hd,hrun]
theorem sim_sliceR {t el:TypeId} {z:Nat} (x:Operand) (lo hi:Option Operand) (hd:und P t = some (.slice el)) (hz:tsz P el = some z):RSim P (.slice t x lo hi none) (fSlice (some z) x lo hi):=by
 intro call e s nm v s' h
 rw [fSlice,ret_some] at h
 obtain ⟨h2,rfl⟩:=h
 have h2':(vSl (ev e x) none fun a n k => @Option.rec Addr (fun _ => Option Value) (nB n (oB (boundL (evO e hi) 0 0) fun h => oB (boundL (evO e lo) 0 h) fun _ => some (.slice none 0 0)) fun _ => none) (fun a => sliceR z a n k (evO e lo) (evO e hi)) a) = some v:=h2
 obtain ⟨b,n,k,hb,h3⟩:=vSl_some.1 h2'
 refine ⟨rfl,fun φ a w hE _ => ?_⟩
 have hx:=hE x (by simp [Op.operands])
 rw [hb] at hx
 have hl:BoR (evO e lo) (lo.map a.eval):=evO_BoR (φ:=φ) fun y hy => hE y (by simp [Op.operands,hy])
 have hh:BoR (evO e hi) (hi.map a.eval):=evO_BoR (φ:=φ) fun y hy => hE y (by simp [Op.operands,hy])
 cases b with
 | none =>
  obtain ⟨rfl,hx'⟩:=V_nil hx
  obtain ⟨hn,e1,h4⟩:=oB_some.1 h3
  obtain ⟨ln,e2,h5⟩:=oB_some.1 h4
  cases h5
  obtain ⟨c1,c2,hrun⟩:=run_bounds (P:=P) (isS:=true) (Nat.le_refl _) hl hh e1 e2 w
  refine ⟨.slice none 0 0,.of0 ⟨rfl,rfl⟩,fun o ho => ?_⟩
  have:hn = 0:=by omega
  have:ln = 0:=by omega
  subst hn; subst ln
  simp only [execOp,ho,hx']
  simp [Instr.sliceAt,Instr.slice,run_und hd,hrun,run_sizeOf hz]
 | some b =>
  obtain ⟨a',c,hx',hs⟩:=V_sl hx
  have h3':sliceR z b n k (evO e lo) (evO e hi) = some v:=h3
  unfold sliceR at h3'
  obtain ⟨hn,e1,h4⟩:=oB_some.1 h3'
  obtain ⟨ln,e2,h5⟩:=oB_some.1 h4
  rw [guardB_some,noSp_some] at h5
  obtain ⟨hk,hsp,h6⟩:=h5
  have hk':=Nat.eq_of_beq_eq_true hk
  subst hk'
  rcases hs with ⟨h0,_⟩ | ⟨_,hnc,g,hg,rfl,hroom⟩
  ·exact absurd hsp h0
  obtain ⟨c1,c2,hrun⟩:=run_bounds (P:=P) (isS:=true) hnc hl hh e1 e2 w
  have hgen:∀ o:Oper,o.op = .slice t x lo hi none → (execOp a.eval o).run P w = .ok (.value (.slice (if c = ln then some ⟨g.b,b.off,none⟩ else some ((⟨g.b,b.off,none⟩:Addr).add (ln * k))) (hn - ln) (c - ln))) w:=by
   intro o ho
   simp only [execOp,ho,hx']
   simp [Instr.sliceAt,Instr.slice,run_und hd,hrun,run_sizeOf hz]
  have hAR:AR φ b ⟨g.b,b.off,none⟩:=⟨hsp,g,hg,rfl⟩
  rw [bB_ite,ble_dec] at h6
  split at h6
  ·rename_i hle
   have hle':n ≤ ln:=by simpa using hle
   cases ln with
   | zero =>
    rw [nB_zero,mkA_eq] at h6
    cases h6
    refine ⟨_,.of0 ⟨_,c,?_,.inr ⟨hsp,by show Nat.sub hn 0 ≤ c; simp; omega,g,hg,rfl,hroom⟩⟩,fun o ho => (hgen o ho)⟩
    simp [Addr.add]
   | succ ln =>
    rw [nB_succ] at h6
    cases h6
    have:hn - (ln + 1) = 0:=by omega
    exact ⟨_,.of0 ⟨_,c - (ln + 1),by rw [this],.inl ⟨by simp,rfl⟩⟩,fun o ho => hgen o ho⟩
  ·rename_i hle
   have hle':ln < n:=by simpa using hle
   rw [mkA_eq,addA_eq,show Nat.mul ln k = ln * k from rfl,show Nat.sub hn ln = hn - ln from rfl] at h6
   cases h6
   refine ⟨_,.of0 ⟨some ((⟨g.b,b.off,none⟩:Addr).add (ln * k)),c - ln,?_,.inr ?_⟩,fun o ho => hgen o ho⟩
   ·have:c ≠ ln:=by omega
    rw [if_neg this]
   ·obtain ⟨q0,g',q1,q2⟩:=hAR.add (ln * k)
    have hb1:(b.add (ln * k)).block = b.block:=by unfold Addr.add; split <;> rfl
    have hb2:(b.add (ln * k)).off = b.off + ln * k:=by
     unfold Addr.add; split
     ·simp_all
     ·rfl
    rw [hb1,hg] at q1
    cases q1
    refine ⟨q0,by omega,g,by rw [hb1]; exact hg,by rw [q2],?_⟩
    rw [hb2]
    have:c * k = ln * k + (c - ln) * k:=by rw [← Nat.add_mul]; congr 1; omega
    omega
theorem sim_slice {t:TypeId} {x:Operand} {lo hi:Option Operand} {f:F} (h:compS P t x lo hi = some f):RSim P (.slice t x lo hi none) f:=by
 unfold compS at h
 split at h
 ·rename_i hd; cases h; exact sim_sliceS x lo hi hd
 ·rename_i el hd
  obtain ⟨z,hz,h⟩:=oB_some.1 h
  cases h
  exact sim_sliceR x lo hi hd hz
 ·cases h
theorem ba_beq (a b:ByteArray):(a == b) = decide (a.data.toList = b.data.toList):=by
 have:(a == b) = (a.data == b.data):=rfl
 rw [this,Bool.eq_iff_iff]
 simp
def KeyD (d:TypeDesc) (ks:Bool):Prop:=(d = .string ∧ ks = true) ∨ ((∃ k,d = .int k) ∧ ks = false)
theorem keyS_some {t:TypeId} {ks:Bool} (h:keyS P t = some ks):∃ d,und P t = some d ∧ KeyD d ks:=by
 unfold keyS at h
 split at h
 ·rename_i hd; cases h; exact ⟨_,hd,.inl ⟨rfl,rfl⟩⟩
 ·rename_i k hd; cases h; exact ⟨_,hd,.inr ⟨⟨k,rfl⟩,rfl⟩⟩
 ·cases h
theorem keyFit_V {φ:Ph} {ks:Bool} {k k':Value} (h:keyFit ks k = true) (hv:V φ k k'):k' = k ∧ V0 φ k k ∧ ((ks = true ∧ ∃ s,k = .string s) ∨ (ks = false ∧ ∃ q n,k = .int q n)):=by
 unfold keyFit at h
 rw [bB_ite] at h
 split at h
 ·rename_i hk
  cases k <;> simp [vStr] at h
  exact ⟨V_str hv,rfl,.inl ⟨hk,_,rfl⟩⟩
 ·rename_i hk
  cases k <;> simp [vInt] at h
  exact ⟨V_int hv,rfl,.inr ⟨by simpa using hk,_,_,rfl⟩⟩
theorem find_sim {φ:Ph} {d:TypeDesc} {ks:Bool} (hd:KeyD d ks) {k:Value} (hk:(ks = true ∧ ∃ s,k = .string s) ∨ (ks = false ∧ ∃ q n,k = .int q n)) :
  ∀ (es es':List MapEntry) (i:Nat) (r:Option (Nat × Value)),L (ER φ) es es' → findE k es i = some r →
   (r = none ∧ Instr.findNow d k es' i = some none) ∨ ∃ j v v' e,r = some (j,v) ∧ Instr.findNow d k es' i = some (some (j,v')) ∧ VA φ v v' ∧ i ≤ j ∧ es'[j - i]? = some e ∧ e.key = k
 | [],[],i,r,_,h => by
  have h':some none = some r:=h
  cases h'
  exact .inl ⟨rfl,rfl⟩
 | e :: es,e' :: es',i,r,hL,h => by
  have h1:oB (keyEq k e.key) (fun b => bB b (some (some (i,e.val))) (findE k es (Nat.succ i))) = some r:=h
  obtain ⟨b,hb,h2⟩:=oB_some.1 h1
  have hs:Instr.sameNow d k e'.key = some b ∧ (b = true → e'.key = k):=by
   have hkey:=hL.1.1
   rcases hk with ⟨rfl,s,rfl⟩ | ⟨rfl,q,n,rfl⟩
   ·have hb1:(vStr e.key none fun b => some (bytesEq (sL s) (sL b))) = some b:=hb
    obtain ⟨c,hc,hb2⟩:=vStr_some.1 hb1
    rw [hc] at hkey
    have hc':e'.key = .string c:=hkey
    have hd':d = .string:=by rcases hd with ⟨h,_⟩ | ⟨_,h⟩; exact h; cases h
    rw [bytesEq_eq,sL_eq,sL_eq] at hb2
    cases hb2
    rw [hc',hd']
    refine ⟨by simp only [Instr.sameNow,ba_beq],fun ht => ?_⟩
    have:s.data.toList = c.data.toList:=by simpa using ht
    rw [ByteArray.ext (Array.toList_inj.1 this)]
   ·have hb1:(vInt e.key none fun kb b => bB (Nat.beq (kno q) (kno kb)) (some (eqI n b)) none) = some b:=hb
    obtain ⟨q',m,hc,hb2⟩:=vInt_some.1 hb1
    rw [hc] at hkey
    have hc':e'.key = .int q' m:=hkey
    obtain ⟨kk,hd'⟩:∃ kk,d = .int kk:=by rcases hd with ⟨_,h⟩ | ⟨h,_⟩; cases h; exact h
    rw [bB_ite] at hb2
    split at hb2
    ·rename_i hq
     have:=(kno_eq _ _).1 hq
     subst this
     rw [eqI_eq] at hb2
     cases hb2
     rw [hc',hd']
     refine ⟨by simp only [Instr.sameNow,if_true]; congr 1,fun ht => ?_⟩
     have:n = m:=by simpa using ht
     rw [this]
    ·cases hb2
  cases b with
  | true =>
   have h3:some (some (i,e.val)) = some r:=h2
   cases h3
   exact .inr ⟨i,e.val,e'.val,e',rfl,by simp [Instr.findNow,hs.1],hL.1.2.1,Nat.le_refl _,by simp,hs.2 rfl⟩
  | false =>
   have h3:findE k es (Nat.succ i) = some r:=h2
   rcases find_sim hd hk es es' (i + 1) r hL.2 h3 with ⟨h4,h5⟩ | ⟨j,v,v',x,h4,h5,h6,h7,h8,h9⟩
   ·exact .inl ⟨h4,by simp [Instr.findNow,hs.1,h5]⟩
   ·refine .inr ⟨j,v,v',x,h4,by simp [Instr.findNow,hs.1,h5],h6,by omega,?_,h9⟩
    have:j - i = (j - (i + 1)) + 1:=by omega
    rw [this,List.getElem?_cons_succ]; exact h8
 | [],_ :: _,_,_,h,_ => h.elim
 | _ :: _,[],_,_,h,_ => h.elim
theorem run_checkKey {t:TypeId} {d:TypeDesc} {ks:Bool} (ht:und P t = some d) (hd:KeyD d ks) (b:Bool) (v:Value) (w:World):(Instr.checkKey b 10000 t v).run P w = .ok () w:=by
 show (Instr.checkKey b (9999 + 1) t v).run P w = _
 unfold Instr.checkKey
 rcases hd with ⟨rfl,_⟩ | ⟨⟨k,rfl⟩,_⟩ <;> cases v <;> simp [run_und ht]
theorem mapAt_sim {φ:Ph} {h:Hp} {w:World} (r:Rel φ h w) {m m':Value} (hm:V φ m m') {es:List MapEntry} {k:Nat} (hh:mapAt h m = some (es,k)) :
  (m' = .map none ∧ es = []) ∨ ∃ b es',m' = .map (some b) ∧ w.heap[b]? = some (.map es' k) ∧ L (ER φ) es es'.toList:=by
 unfold mapAt at hh
 obtain ⟨x,rfl,hh⟩:=vMap_some.1 hh
 cases x with
 | none => have h':some (([]:List MapEntry),0) = some (es,k):=hh; cases h'; exact .inl ⟨V_nomap hm,rfl⟩
 | some x =>
  have h':mapOf (h x) = some (es,k):=hh
  obtain ⟨es0,k0,h1,h2⟩:=mapOf_some.1 h'
  cases h2
  obtain ⟨g,hg,rfl⟩:=V_map hm
  obtain ⟨g',es',hg',hw,hL⟩:=r.obj _ _ h1
  rw [hg] at hg'; cases hg'
  exact .inr ⟨g.b,es',rfl,hw,hL⟩
theorem V_ok {φ:Ph} {ok b:Bool} {v v':Value} (h:VA φ v v'):V φ (okV ok v b) (if ok = true then .tuple #[v',.bool b] else v'):=by
 cases ok
 ·exact .inl h
 ·exact .inr ⟨#[v,.bool b],#[v',.bool b],rfl,rfl,h,.inl (.inl rfl),trivial⟩
theorem sim_lookup {t:TypeId} {x i:Operand} {ok:Bool} {f:F} (h:compL P t x i ok = some f):RSim P (.lookup t x i ok) f:=by
 unfold compL at h
 split at h
 case h_2 => cases h
 rename_i kt el hd
 obtain ⟨ks,hks,h⟩:=oB_some.1 h
 obtain ⟨z,hz,h⟩:=oB_some.1 h
 rw [guardB_some] at h
 obtain ⟨hok,h⟩:=h
 cases h
 obtain ⟨d,hkd,hD⟩:=keyS_some hks
 intro call e s nm v s' h
 rw [fLookup,guardB_some] at h
 obtain ⟨hfit,h⟩:=h
 obtain ⟨⟨es,k⟩,hm,h⟩:=oB_some.1 h
 rw [pB_mk] at h
 obtain ⟨r,hr,h⟩:=oB_some.1 h
 cases h
 refine ⟨rfl,fun φ a w hE hR => ?_⟩
 have hx:=hE x (by simp [Op.operands])
 have hi:=hE i (by simp [Op.operands])
 obtain ⟨hki,_,hkk⟩:=keyFit_V hfit hi
 have hzero:(zeroValue el).run P w = .ok z w:=by
  unfold zerV at hz
  split at hz
  ·rename_i it hit; simp [zeroValue,typeInfo,hit,hz]
  ·cases hz
 rcases mapAt_sim hR hx hm with ⟨hm',rfl⟩ | ⟨b,es',hm',hw,hL⟩
 ·rcases find_sim (φ:=φ) hD hkk [] [] 0 r trivial hr with ⟨rfl,h5⟩ | ⟨j,v,v',x,rfl,h5,h6,_⟩
  ·refine ⟨_,V_ok (b:=false) (okV_V φ hok),fun o ho => ?_⟩
   simp only [execOp,ho,hm',hki]
   simp [Instr.lookup,run_und hd,run_checkKey hkd hD,Instr.findKey,run_und hkd,h5,hzero]
  ·cases h5
 ·have hg:(getObj b).run P w = .ok (.map es' k) w:=by simp [getObj,Sem.run,hw]
  rcases find_sim hD hkk es es'.toList 0 r hL hr with ⟨rfl,h5⟩ | ⟨j,v,v',x,rfl,h5,h6,_⟩
  ·refine ⟨_,V_ok (b:=false) (okV_V φ hok),fun o ho => ?_⟩
   simp only [execOp,ho,hm',hki]
   simp [Instr.lookup,run_und hd,hg,run_checkKey hkd hD,Instr.findKey,run_und hkd,h5,hzero]
  ·refine ⟨_,V_ok (b:=true) h6,fun o ho => ?_⟩
   simp only [execOp,ho,hm',hki]
   simp [Instr.lookup,run_und hd,hg,run_checkKey hkd hD,Instr.findKey,run_und hkd,h5]
end Xe
namespace Xe
variable {P:Program}
theorem exec_builtin {c:Call} {b:Builtin} (hc:c.callee = .builtin b) {o:Oper} (ho:o.op = .call c) (ρ:Operand → Value) :
  execOp ρ o = builtin b c.argTypes o.type (c.args.map fun | .const _ => true | _ => false) (c.args.map ρ):=by
 obtain ⟨cal,args,ats⟩:=c
 simp only at hc
 subst hc
 simp only [execOp,ho]
 rfl
theorem sim_len {c:Call} {f:F} (hc:c.callee = .builtin .len) (h:compB P c .len = some f):RSim P (.call c) f:=by
 unfold compB at h
 simp only at h
 split at h
 case h_2 => cases h
 rename_i x t ts hargs hats
 have hargs':c.args = #[x]:=Array.toList_inj.1 (by simpa using hargs)
 have hats':c.argTypes[0]? = some t:=by rw [← Array.getElem?_toList,hats]; rfl
 have hop:x ∈ (Op.call c).operands:=by simp [Op.operands,Call.operands,hc,hargs']
 have hgen:∀ (a:Act) (w:World) (o:Oper) (r:Value),o.op = .call c → (Builtin.len_ c.argTypes o.type #[a.eval x]).run P w = .ok r w → (execOp a.eval o).run P w = .ok (.value r) w:=by
  intro a w o r ho hr
  rw [exec_builtin hc ho,hargs']
  have:((#[x]:Array Operand).map a.eval) = #[a.eval x]:=by simp
  rw [this]
  show (do pure (.value (← Builtin.len_ c.argTypes o.type #[a.eval x])):Sem Next).run P w = _
  simp [hr]
 split at h
 ·rename_i hd
  cases h
  intro call e s nm v s' h
  obtain ⟨b,hb,h⟩:=vStr_some.1 h
  rw [ret_some,mkI_eq] at h
  obtain ⟨h2,rfl⟩:=h
  cases h2
  refine ⟨rfl,fun φ a w hE _ => ?_⟩
  have hx:=hE x hop
  rw [hb] at hx
  refine ⟨_,.of0 rfl,fun o ho => hgen a w o _ ho ?_⟩
  rw [V_str hx,sL_eq]
  simp [Builtin.len_,hats',run_und hd,goInt]
 ·rename_i el hd
  cases h
  intro call e s nm v s' h
  obtain ⟨b,n,k,hb,h⟩:=vSl_some.1 h
  rw [ret_some,mkI_eq] at h
  obtain ⟨h2,rfl⟩:=h
  cases h2
  refine ⟨rfl,fun φ a w hE _ => ?_⟩
  have hx:=hE x hop
  rw [hb] at hx
  have:∃ a' c',a.eval x = .slice a' n c':=by
   cases b with
   | none => obtain ⟨rfl,h'⟩:=V_nil hx; exact ⟨none,0,h'⟩
   | some b => obtain ⟨a',c',h',_⟩:=V_sl hx; exact ⟨a',c',h'⟩
  obtain ⟨a',c',hx'⟩:=this
  refine ⟨_,.of0 rfl,fun o ho => hgen a w o _ ho ?_⟩
  rw [hx']
  simp [Builtin.len_,hats',run_und hd,goInt]
 ·rename_i kt el hd
  cases h
  intro call e s nm v s' h
  obtain ⟨⟨es,k⟩,hm,h⟩:=oB_some.1 h
  rw [pB_mk,ret_some,mkI_eq] at h
  obtain ⟨h2,rfl⟩:=h
  cases h2
  refine ⟨rfl,fun φ a w hE hR => ?_⟩
  have hx:=hE x hop
  refine ⟨_,.of0 rfl,fun o ho => hgen a w o _ ho ?_⟩
  rcases mapAt_sim hR hx hm with ⟨hm',rfl⟩ | ⟨b,es',hm',hw,hL⟩
  ·rw [hm']
   simp [Builtin.len_,hats',run_und hd,goInt]
  ·have hg:(getObj b).run P w = .ok (.map es' k) w:=by simp [getObj,Sem.run,hw]
   have:=hL.length
   simp at this
   rw [hm']
   simp [Builtin.len_,hats',run_und hd,goInt,hg,this]
 ·cases h
def upd (φ:Ph) (x:Nat) (g:Gh):Ph:=fun y => if y = x then some g else φ y
theorem upd_self (φ:Ph) (x:Nat) (g:Gh):upd φ x g x = some g:=by simp [upd]
theorem upd_sub {φ:Ph} {x:Nat} (h:φ x = none) (g:Gh):Sub φ (upd φ x g):=by
 intro y g' hy
 unfold upd
 split
 ·rename_i e; subst e; rw [h] at hy; cases hy
 ·exact hy
def ASim (P:Program) (op:Op) (f:F):Prop:=∀ (call:Cl) (e:En) (s:S) (nm:Nat) (v:Value) (s':S),f call e s nm = some (v,s') →
 ∃ ob,isO ob ∧ (∀ (call2:Cl) (s2:S),f call2 e s2 nm = some (v,⟨s2.c,setH s2.h nm ob,s2.ds⟩)) ∧
  ∀ (φ:Ph) (a:Act) (w:World),EvR φ e a op → φ nm = none → ∃ o' n v',(∀ o:Oper,o.op = op → (execOp a.eval o).run P w = .ok (.value v') (w.alloc o')) ∧
   V (upd φ nm ⟨w.heap.size,n⟩) v v' ∧ ∀ w':World,w'.heap[w.heap.size]? = some o' → OR (upd φ nm ⟨w.heap.size,n⟩) w' nm ob
theorem newAt_eq (s:S) (nm:Nat) (o:Obj) (f:Nat → Value):newAt s nm o f = some (f nm,⟨s.c,setH s.h nm o,s.ds⟩):=by
 unfold newAt
 rw [fN_eq,sB_eq]
theorem zerV_run {t:TypeId} {z:Value} (hz:zerV P t = some z) (w:World):(zeroValue t).run P w = .ok z w:=by
 unfold zerV at hz
 split at hz
 ·rename_i it hit; simp [zeroValue,typeInfo,hit,hz]
 ·cases hz
theorem cellsL_eq (z:Value):cellsL z = z.cells.toList:=by cases z <;> first | rfl | (show aL _ = _; rw [aL_eq]; rfl)
theorem OR_row {φ:Ph} {w w':World} {nm:Nat} {c c':Array Value} {t t':TypeId} {fr:Nat × Nat} (hL:L (V1 φ) c.toList c'.toList) (h0:φ nm = none) (hw:w'.heap[w.heap.size]? = some (.cells c' t')) :
  OR (upd φ nm ⟨w.heap.size,c'.size⟩) w' nm (.cells c t fr):=by
 have hl:=hL.length
 simp at hl
 refine ⟨⟨w.heap.size,c'.size⟩,c',t',(0,0),upd_self φ nm _,hw,rfl,fun _ => rfl,by omega,?_⟩
 rw [hl,List.take_of_length_le (by simp)]
 exact hL.mono fun _ _ => V1.mono (upd_sub h0 _)
theorem sim_alloc {t:TypeId} {z:Value} (hz:zerV P t = some z) (hok:okV' z = true):ASim P (.alloc t) (fAlloc (.cells z.cells t)):=by
 intro call e s nm v s' h
 unfold fAlloc at h
 rw [newAt_eq] at h
 cases h
 refine ⟨.cells z.cells t,trivial,fun call2 s2 => newAt_eq _ _ _ _,fun φ a w _ h0 => ⟨.cells z.cells t,z.cells.size,.pointer (some ⟨w.heap.size,0,none⟩),fun o ho => ?_,.of0 ⟨_,rfl,rfl,_,upd_self φ nm _,rfl⟩,fun w' hw => ?_⟩⟩
 ·simp only [execOp,ho]
  simp [Instr.alloc,zerV_run hz,newVar,newRow]
 ·have:=cells_V (okV_V φ hok)
  rw [cellsL_eq] at this
  exact OR_row this h0 hw
theorem sim_box (t:TypeId) (x:Operand):ASim P (.box t x) (fBox t x):=by
 intro call e s nm v s' h
 unfold fBox at h
 rw [guardB_some,newAt_eq] at h
 obtain ⟨hn,h⟩:=h
 cases h
 refine ⟨.cells (cellsL (ev e x)).toArray t,trivial,fun call2 s2 => by unfold fBox; rw [guardB_some]; exact ⟨hn,newAt_eq _ _ _ _⟩,fun φ a w hE h0 => ⟨.cells (a.eval x).cells t,(a.eval x).cells.size,.pointer (some ⟨w.heap.size,0,none⟩),fun o ho => ?_,.of0 ⟨_,rfl,rfl,_,upd_self φ nm _,rfl⟩,fun w' hw => ?_⟩⟩
 ·simp only [execOp,ho]
  simp [Instr.box,newVar,newRow]
 ·exact OR_row (by simpa using cells_V (V_one (hE x (by simp [Op.operands])) hn)) h0 hw
theorem sim_makeMap (t:TypeId):ASim P (.makeMap t none) fMap:=by
 intro call e s nm v s' h
 unfold fMap at h
 rw [newAt_eq] at h
 cases h
 refine ⟨.map #[] 0,trivial,fun call2 s2 => newAt_eq _ _ _ _,fun φ a w _ h0 => ⟨.map #[] 0,0,.map (some w.heap.size),fun o ho => ?_,.of0 ⟨_,upd_self φ nm _,rfl⟩,fun w' hw => ⟨_,#[],upd_self φ nm _,hw,trivial⟩⟩⟩
 simp only [execOp,ho]
 simp [Instr.makeMap]
theorem repl_get (z:List Value):∀ (n i:Nat),i < n * z.length → (repl z n)[i]? = z[i % z.length]?
 | 0,i,h => by simp at h
 | n + 1,i,h => by
  show (z ++ repl z n)[i]? = _
  rw [List.getElem?_append]
  split
  ·rename_i hi; rw [Nat.mod_eq_of_lt hi]
  ·rename_i hi
   rw [repl_get z n (i - z.length) (by rw [Nat.add_mul] at h; omega),← Nat.mod_eq_sub_mod (by omega)]
theorem repl_len (z:List Value):∀ n:Nat,(repl z n).length = n * z.length
 | 0 => by show ([]:List Value).length = _; simp
 | n + 1 => by show (z ++ repl z n).length = _; rw [List.length_append,repl_len z n,Nat.add_mul]; omega
theorem repl_eq (z:Array Value) (n:Nat) (hz:0 < z.size):((Array.range (n * z.size)).map (z[· % z.size]!)).toList = repl z.toList n:=by
 apply List.ext_getElem?
 intro i
 rcases Nat.lt_or_ge i (n * z.size) with h | h
 ·rw [repl_get z.toList n i (by simpa using h)]
  have hm:i % z.size < z.size:=Nat.mod_lt _ hz
  simp [h,hm]
 ·rw [List.getElem?_eq_none (by simpa using h),List.getElem?_eq_none (by rw [repl_len]; simpa using h)]
theorem L_repl {φ:Ph} {z:List Value} (h:L (V1 φ) z z):∀ n,L (V1 φ) (repl z n) (repl z n)
 | 0 => trivial
 | n + 1 => h.app (L_repl h n)
theorem sim_row {t:TypeId} {n:Nat} {parts:Array (Nat × Operand)} {f:F} (h:compR P t n parts.toList = some f):ASim P (.buildSlice t n parts) f:=by
 unfold compR at h
 split at h
 case h_2 => cases h
 rename_i el hd
 obtain ⟨z,hz,h⟩:=oB_some.1 h
 obtain ⟨zs,hzs,h⟩:=oB_some.1 h
 rw [guardB_some,guardB_some,guardB_some,guardB_some] at h
 obtain ⟨hok,hsz,hsm,hpos,h⟩:=h
 cases h
 intro call e s nm v s' h
 unfold fRow at h
 obtain ⟨r,hr,h⟩:=oB_some.1 h
 rw [newAt_eq] at h
 cases h
 have hinfo:∃ ie,P.info? el = some ie ∧ ie.size = z ∧ ie.zero = some zs:=by
  unfold tsz at hz
  unfold zerV at hzs
  split at hz
  ·rename_i ie hie
   rw [hie] at hzs
   cases hz
   exact ⟨ie,hie,rfl,hzs⟩
  ·cases hz
 obtain ⟨ie,hie,rfl,hzero⟩:=hinfo
 have hsz':zs.cells.size = ie.size:=Nat.eq_of_beq_eq_true hsz
 have hpos':0 < ie.size:=by rw [ble_dec] at hpos; simp at hpos; omega
 have hsm':n * ie.size ≤ 16777216:=by rw [ble_dec] at hsm; simpa using hsm
 refine ⟨.cells r.toArray el,trivial,fun call2 s2 => by unfold fRow; rw [hr]; exact newAt_eq _ _ _ _,fun φ a w hE h0 => ?_⟩
 have hparts:L (PR φ) (evP e parts.toList) ((parts.map fun (i,x) => (i,a.eval x)).toList):=by
  rw [evP_eq,Array.toList_map]
  exact L_map fun p hp => ⟨rfl,hE p.2 (by simp [Op.operands]; exact ⟨p.1,by simpa using hp⟩)⟩
 have hz0:L (V1 φ) (repl zs.cells.toList n) ((Array.range (n * ie.size)).map (zs.cells[· % zs.cells.size]!)).toList:=by
  rw [← hsz',repl_eq zs.cells n (by omega)]
  have:=cells_V (okV_V φ hok)
  rw [cellsL_eq] at this
  exact L_repl this n
 obtain ⟨r',hf,hL⟩:=fill_sim _ _ _ r _ hparts hz0 hr
 have hrlen:r'.size = n * ie.size:=by
  have h1:=hL.length
  have h2:∀ (ps:List (Nat × Value)) (c r:List Value),fillL (fun i => some (Nat.mul i ie.size,ie.size)) ps c = some r → r.length = c.length:=by
   intro ps
   induction ps with
   | nil => intro c r h; have h':some c = some r:=h; cases h'; rfl
   | cons p ps ih =>
    intro c r h
    obtain ⟨i,v⟩:=p
    have h1:guardB (noTup v) (guardB (Nat.beq ie.size (cellsL v).length) (oB (overAt (Nat.mul i ie.size) c (cellsL v)) fun c => fillL (fun i => some (Nat.mul i ie.size,ie.size)) ps c)) = some r:=h
    rw [guardB_some,guardB_some] at h1
    obtain ⟨_,_,h1⟩:=h1
    obtain ⟨c2,h3,h4⟩:=oB_some.1 h1
    obtain ⟨_,hle,rfl⟩:=(overAt_some _ _ _ _).1 h3
    rw [ih _ _ h4]
    simp only [List.length_append,List.length_take,List.length_drop]
    omega
  have h3:=h2 _ _ _ hr
  rw [repl_len] at h3
  simp at h1 h3
  rw [hsz'] at h3
  omega
 refine ⟨.cells r' el,r'.size,.slice (some ⟨w.heap.size,0,none⟩) n n,fun o ho => ?_,.of0 ⟨_,n,rfl,.inr ⟨rfl,Nat.le_refl _,_,upd_self φ nm _,rfl,?_⟩⟩,fun w' hw => OR_row (by simpa using hL) h0 hw⟩
 ·simp only [execOp,ho]
  by_cases h0:n * ie.size = 0
  ·have hn:n = 0:=by rcases Nat.mul_eq_zero.1 h0 with h | h; exact h; omega
   subst hn
   have hf':Instr.fill (fun i => some (i * ie.size,ie.size)) #[] (parts.map fun (i,x) => (i,a.eval x)).toList = some r':=by
    have e1:((Array.range (0 * ie.size)).map (zs.cells[· % zs.cells.size]!)) = #[]:=by simp
    rw [e1] at hf
    exact hf
   simp at hf'
   simp [Instr.buildSlice,run_und hd,run_sizeOf hz,newRow,Array.range_zero',hf']
  ·have:=run_buildSlice (P:=P) w t el n (parts.map fun (i,x) => (i,a.eval x)) r' ie zs hd hie hzero (by omega) h0 hf
   rw [Sem.run_bind,this]; rfl
 ·show 0 + n * ie.size ≤ r'.size
  omega
theorem natV_some {x:Value} {n:Nat} (h:natV x = some n):∃ k:IntKind,x = .int k (n:Int):=by
 unfold natV at h
 obtain ⟨k,i,rfl,h⟩:=vInt_some.1 h
 cases i with
 | negSucc i => cases h
 | ofNat i => have h':some i = some n:=h; cases h'; exact ⟨k,rfl⟩
theorem sim_make {t:TypeId} {x c:Operand} {f:F} (h:compM P t x c = some f):ASim P (.makeSlice t x c) f:=by
 unfold compM at h
 split at h
 case h_2 => cases h
 rename_i el hd
 obtain ⟨ie,hie,h⟩:=oB_some.1 h
 obtain ⟨zs,hzero,h⟩:=oB_some.1 h
 rw [guardB_some,guardB_some,guardB_some] at h
 obtain ⟨hok,hsz,hpos,h⟩:=h
 cases h
 intro call e s nm v s' h
 unfold fMake at h
 obtain ⟨n,hn,h⟩:=oB_some.1 h
 obtain ⟨k,hk,h⟩:=oB_some.1 h
 rw [guardB_some,guardB_some,guardB_some,newAt_eq] at h
 obtain ⟨hnk,hb1,hb2,h⟩:=h
 cases h
 have hnk':=Nat.eq_of_beq_eq_true hnk
 subst hnk'
 have hsz':zs.cells.size = ie.size:=Nat.eq_of_beq_eq_true hsz
 have hpos':0 < ie.size:=by rw [ble_dec] at hpos; simp at hpos; omega
 have hb1':n ≤ 1000000:=by rw [ble_dec] at hb1; simpa using hb1
 have hb2':ie.bytes ≤ 1000000:=by rw [ble_dec] at hb2; simpa using hb2
 refine ⟨.cells (repl zs.cells.toList n).toArray el,trivial,fun call2 s2 => ?_,fun φ a w hE h0 => ?_⟩
 ·unfold fMake
  rw [hn,hk]
  show guardB _ _ = _
  rw [guardB_some,guardB_some,guardB_some]
  exact ⟨hnk,hb1,hb2,newAt_eq _ _ _ _⟩
 have hx:=hE x (by simp [Op.operands])
 have hc:=hE c (by simp [Op.operands])
 obtain ⟨q1,e1⟩:=natV_some hn
 obtain ⟨q2,e2⟩:=natV_some hk
 rw [e1] at hx; rw [e2] at hc
 have hz0:L (V1 φ) (repl zs.cells.toList n) (repl zs.cells.toList n):=by
  have:=cells_V (okV_V φ hok)
  rw [cellsL_eq] at this
  exact L_repl this n
 have hmul:n * ie.bytes ≤ 1000000000000:=Nat.le_trans (Nat.mul_le_mul hb1' hb2') (by omega)
 have hmul':¬ ((2:Int) ^ 48 < (ie.bytes:Int) * (n:Int)):=by
  have:((ie.bytes:Int) * (n:Int)) = ((n * ie.bytes:Nat):Int):=by rw [Int.natCast_mul,Int.mul_comm]
  rw [this]; omega
 have hcells:madeCells zs.cells (n * ie.size) = (repl zs.cells.toList n).toArray:=by
  apply Array.toList_inj.1
  rw [← hsz']
  simpa [madeCells] using repl_eq zs.cells n (by omega)
 have hrun:=run_make (P:=P) w t el ie zs hd hie hzero q1 q2 (n:Int) (n:Int) (by omega) (Int.le_refl _) (by omega) (by omega)
 simp only [Int.toNat_natCast] at hrun
 rw [hcells] at hrun
 refine ⟨.cells (repl zs.cells.toList n).toArray el,n * ie.size,.slice (some ⟨w.heap.size,0,none⟩) n n,fun o ho => ?_,.of0 ⟨_,n,rfl,.inr ⟨rfl,Nat.le_refl _,_,upd_self φ nm _,rfl,by show 0 + n * ie.size ≤ n * ie.size; omega⟩⟩,fun w' hw => ?_⟩
 ·simp only [execOp,ho,V_int hx,V_int hc]
  rw [Sem.run_bind,hrun]; rfl
 ·have:=OR_row (nm:=nm) (t:=el) (t':=el) (fr:=(0,0)) (c:=(repl zs.cells.toList n).toArray) (c':=(repl zs.cells.toList n).toArray) (by simpa using hz0) h0 hw
  have hs:(repl zs.cells.toList n).toArray.size = n * ie.size:=by simp [repl_len,hsz']
  rw [hs] at this
  exact this
end Xe
end Go.Proofs.YtbioaoangfiijaaGreatDoor

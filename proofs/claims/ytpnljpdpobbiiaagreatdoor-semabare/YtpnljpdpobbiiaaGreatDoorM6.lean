/- Functions: what our machine answers of a call is what Go answers. -/
import Derived.Test.YtpnljpdpobbiiaaGreatDoorM5
namespace Go.Proofs.YtpnljpdpobbiiaaGreatDoor
namespace Xe
variable {P:Program}
theorem andThen_inv {α β:Type} {r:Result α} {f:α → β} {y:β} {w w':World} (hf:∀ a b,f a = f b → a = b) {x:α} (hx:f x = y) (h:(r.andThen fun a w => Result.ok (f a) w) = .ok y w'):r = .ok x w':=by
 have _:=w
 cases r with
 | ok a w1 =>
  simp only [Result.andThen_ok,Result.ok.injEq] at h
  obtain ⟨h1,rfl⟩:=h
  rw [hf a x (h1.trans hx.symm)]
 | halt h1 w1 => cases h
def resG (tmps:Array Value):ResultVar → Sem Value
 | .tmp t => pure (tmps.getD t undef)
 | .cell x t => do loadVar t (← asAddr (tmps.getD x undef))
theorem resV_ok {φ:Ph} {nt:Nat} {e:En} {s:S} {a:Act} {w:World} (hE:EnvR φ nt e a) (hR:Rel φ s.h w) {r:ResultVar} {v:Value} (h:resV P e s r = some v) :
  ∃ v',V φ v v' ∧ (resG a.tmps r).run P w = .ok v' w:=by
 cases r with
 | tmp t =>
  have h':some (getE (e t)) = some v:=h
  cases h'
  exact ⟨_,hE.val t,rfl⟩
 | cell x t =>
  have h':(oB (comp P (.load t (.tmp x))) fun f => oB (f (fun _ _ _ => none) e s 0) fun p => pB p fun v _ => some v) = some v:=h
  obtain ⟨f,hf,h'⟩:=oB_some.1 h'
  obtain ⟨⟨v1,s1⟩,h1,h2⟩:=oB_some.1 h'
  rw [pB_mk] at h2
  cases h2
  rcases comp_cls hf with ⟨_,hS⟩ | ⟨hc,_⟩ | ⟨hc,_⟩
  ·obtain ⟨rfl,hS⟩:=hS _ e s 0 v s1 h1
   obtain ⟨v',hv,hrun⟩:=hS φ a w (fun y hy => by
    simp [Op.operands] at hy
    subst hy
    exact hE.val x) hR
   refine ⟨v',hv,?_⟩
   have hr:=hrun ⟨none,.load t (.tmp x),0,"",#[],none⟩ rfl
   have hr':((Instr.loadAt t (a.tmps.getD x undef)).run P w).andThen (fun a w => Result.ok (Next.value a) w) = .ok (.value v') w:=by
    have e1:execOp a.eval (⟨none,.load t (.tmp x),0,"",#[],none⟩:Oper) = (do pure (.value (← Instr.loadAt t (a.tmps.getD x undef)))):=rfl
    rw [e1,Sem.run_bind] at hr
    exact hr
   have hr2:=andThen_inv (w:=w) (fun _ _ h => by cases h; rfl) rfl hr'
   show (do loadVar t (← asAddr (a.tmps.getD x undef)):Sem Value).run P w = _
   generalize a.tmps.getD x undef = u at hr2 ⊢
   cases u with
   | pointer p =>
    cases p with
    | some p => exact hr2
    | none => simp [Instr.loadAt,Instr.sureAddr] at hr2
   | _ => simp [Instr.loadAt,Instr.sureAddr] at hr2
  ·cases hc
  ·cases hc
theorem res1_ok {φ:Ph} {nt:Nat} {e:En} {s:S} {a:Act} {w:World} (hE:EnvR φ nt e a) (hR:Rel φ s.h w):∀ (rs:List ResultVar) (l:List Value),res1 P e s rs = some l →
  ∃ l',L (VA φ) l l' ∧ (rs.mapM (resG a.tmps)).run P w = .ok l' w
 | [],l,h => by
  have h':some [] = some l:=h
  cases h'
  exact ⟨[],trivial,rfl⟩
 | r :: rs,l,h => by
  have h':(oB (resV P e s r) fun v => guardB (noTup v) (oB (res1 P e s rs) fun vs => some (v :: vs))) = some l:=h
  obtain ⟨v,hv,h'⟩:=oB_some.1 h'
  rw [guardB_some] at h'
  obtain ⟨hn,h'⟩:=h'
  obtain ⟨vs,hvs,h'⟩:=oB_some.1 h'
  cases h'
  obtain ⟨v',h1,h2⟩:=resV_ok hE hR hv
  obtain ⟨l',h3,h4⟩:=res1_ok hE hR rs vs hvs
  refine ⟨v' :: l',⟨V_one h1 hn,h3⟩,?_⟩
  rw [List.mapM_cons,Sem.run_bind,h2]
  simp only [Result.andThen_ok,Sem.run_bind,h4,Sem.run_pure]
theorem results_ok {φ:Ph} {nt:Nat} {e:En} {s:S} {a:Act} {w:World} (hE:EnvR φ nt e a) (hR:Rel φ s.h w) {fn:Func} {l:List Value} (h:res1 P e s (aL fn.results) = some l) :
  ∃ v',V φ (out l) v' ∧ (results fn a.tmps).run P w = .ok v' w:=by
 rw [aL_eq] at h
 obtain ⟨l',hL,hrun⟩:=res1_ok hE hR _ _ h
 have hrun':(fn.results.mapM (resG a.tmps)).run P w = .ok l'.toArray w:=by
  rw [Array.mapM_eq_mapM_toList]
  simp only [Sem.run_map,hrun,Result.andThen_ok]
 refine ⟨if h:l'.toArray.size = 1 then l'.toArray[0] else .tuple l'.toArray,?_,?_⟩
 ·match l,l',hL with
  | [],[],_ => exact .inr ⟨#[],#[],rfl,rfl,trivial⟩
  | [v],[v'],hL => exact .inl hL.1
  | v :: u :: l,v' :: u' :: l',hL => exact .inr ⟨_,_,rfl,rfl,hL⟩
 ·show (do
   let vs ← fn.results.mapM (resG a.tmps)
   pure (if h:vs.size = 1 then vs[0] else .tuple vs):Sem Value).run P w = _
  rw [Sem.run_bind,hrun']
  rfl
theorem defers_ok (hN:NameOk P) {callD:Cl} (hCD:CallOkD P callD) {fn:Func} {tmps:Array Value} {Rr:Ending → World → Prop} {s':S}:∀ (ds:List (FuncId × List Value)) (ds':List Deferred) (s:S),defers callD ds s = some s' →
  ∀ (φ:Ph) (w:World),L (DR φ) ds ds' → Stt φ s w → (∀ φ' w',Post φ s w φ' s' w' → Leaves P fn tmps Rr [] .returning w') → Leaves P fn tmps Rr ds' .returning w
 | [],[],s,h,φ,w,_,hS,hK => by
  have h':some s = some s':=h
  cases h'
  exact hK φ w (Post.refl hS)
 | d :: ds,d' :: ds',s,h,φ,w,hL,hS,hK => by
  obtain ⟨f,args⟩:=d
  have h':bindS (callD f args s) (fun _ s => defers callD ds s) = some s':=h
  obtain ⟨⟨v,s1⟩,h1,h2⟩:=oB_some.1 h'
  rw [pB_mk] at h2
  obtain ⟨hds,hbd,hcall⟩:=hCD f args s v s1 h1
  obtain ⟨⟨cap,htar,hargs⟩,hL2⟩:=hL
  obtain ⟨target,dargs⟩:=d'
  simp only at htar hargs
  subst htar
  refine ⟨by simp,.func f,cap,f,dargs ++ cap,rfl,by simp [invoke,run_callFunc hN hbd],?_⟩
  refine (hcall φ w (dargs ++ cap) .returning hargs hS).mono ?_
  rintro e1 u' w1 ⟨rfl,φ1,v',rfl,_,hP⟩
  show Leaves P fn tmps Rr ds' (settle .returning) w1
  refine defers_ok hN hCD ds ds' s1 h2 φ1 w1 (hL2.mono fun _ _ => DR.mono hP.ext.sub) hP.stt ?_
  intro φ2 w2 hP2
  exact hK φ2 w2 (hP.trans hS hP2)
 | [],_ :: _,_,_,_,_,h,_,_ => h.elim
 | _ :: _,[],_,_,_,_,h,_,_ => h.elim
theorem enter_get:∀ (l:List Value) (i:Nat) (e:En) (t:Nat),enter l i e t = if i ≤ t ∧ t < i + l.length then l[t - i]? else e t
 | [],i,e,t => by
  show e t = _
  rw [if_neg (by simp)]
 | v :: l,i,e,t => by
  show enter l (Nat.succ i) (setE e i v) t = _
  rw [enter_get l (i + 1) _ t]
  by_cases h1:i + 1 ≤ t ∧ t < i + 1 + l.length
  ·rw [if_pos h1,if_pos (by simp; omega)]
   have:t - i = (t - (i + 1)) + 1:=by omega
   rw [this,List.getElem?_cons_succ]
  ·rw [if_neg h1,setE_get]
   by_cases h2:t = i
   ·subst h2; rw [if_pos rfl,if_pos (by simp)]; simp
   ·rw [if_neg h2,if_neg (by simp; omega)]
theorem enter_ok {φ:Ph} {args:List Value} {args':Array Value} {nt:Nat} (hL:L (V φ) args args'.toList) (hle:args.length ≤ nt) :
  EnvR φ nt (enter args 0 (fun _ => none)) { tmps:=args' ++ Array.replicate (nt - args'.size) undef,defers:=[] }:=by
 have hlen:=hL.length
 simp at hlen
 refine ⟨by simp; omega,fun t => ?_⟩
 rw [enter_get]
 show V φ _ ((args' ++ Array.replicate (nt - args'.size) undef).getD t undef)
 rw [Array.getD_eq_getD_getElem?]
 by_cases ht:t < args.length
 ·rw [if_pos ⟨Nat.zero_le _,by omega⟩]
  obtain ⟨x,hx⟩:∃ x,args[t]? = some x:=⟨args[t],by simp [ht]⟩
  obtain ⟨y,hy,hv⟩:=hL.at hx
  have hy':args'[t]? = some y:=by simpa using hy
  rw [Array.getElem?_append_left (by omega),hy',Nat.sub_zero,hx]
  exact hv
 ·rw [if_neg (by omega),Array.getElem?_append_right (by omega)]
  have:((Array.replicate (nt - args'.size) undef)[t - args'.size]?).getD undef = undef:=by
   rw [Array.getElem?_replicate]; split <;> rfl
  rw [this]
  exact V.undef φ
def SpOk (P:Program) (special:Sp):Prop:=∀ call,CallOk P call → ∀ f args s v s',special call f args s = some (some (v,s')) → CallAt P f args s v s'
theorem fin_some {fn:Func} {ds:List (FuncId × List Value)} {e:En} {s:S} {v:Value} {s':S} (h:fin P fn ds e s = some (v,s')):∃ l,res1 P e ⟨s.c,s.h,ds⟩ (aL fn.results) = some l ∧ v = out l ∧ s' = ⟨s.c,s.h,ds⟩:=by
 unfold fin at h
 rw [sB_eq] at h
 obtain ⟨l,hl,h⟩:=oB_some.1 h
 cases h
 exact ⟨l,hl,rfl,rfl⟩
theorem Post.ds {φ φ':Ph} {s s':S} {w w':World} (h:Post φ s w φ' s' w') (d d':List (FuncId × List Value)):Post φ ⟨s.c,s.h,d⟩ w φ' ⟨s'.c,s'.h,d'⟩ w':=⟨⟨h.stt.rel,h.stt.fr⟩,h.ext,h.le,h.new,h.liv⟩
theorem body_ok (hN:NameOk P) {call callD:Cl} (hC:CallOk P call) (hCD:CallOkD P callD) (hD:DrawOk P call) {fn:Func} {c:Code} {args:List Value} {s s':S} {v:Value} {nod:Bool} (h:goF P call callD nod args s (fn,c) = some (v,s')) :
  s'.ds = s.ds ∧ ∀ (φ:Ph) (w:World) (args':Array Value),L (V φ) args args'.toList → Stt φ s w →
   c.wp P (if nod = true then bodyPost P fn (fun e w' => ∃ φ' v',e = .returned v' ∧ V φ' v v' ∧ Post φ s w φ' s' w') else bodyPostD P fn (fun e w' => ∃ φ' v',e = .returned v' ∧ V φ' v v' ∧ Post φ s w φ' s' w'))
    { tmps:=args' ++ Array.replicate (fn.ntmps - args'.size) undef,defers:=[] } w:=by
 unfold goF at h
 rw [pB_mk,sB_eq,guardB_some,ble_dec] at h
 obtain ⟨hle,h⟩:=h
 have hle':args.length ≤ fn.ntmps:=by simpa using hle
 unfold leave at h
 obtain ⟨r,hr,h⟩:=oB_some.1 h
 rw [rB_eq,guardB_some,sB_eq,ble_dec] at h
 obtain ⟨hk,h⟩:=h
 have hk':r.k ≤ 1:=by simpa using hk
 rw [bB_ite] at h
 have hds:s'.ds = s.ds:=by
  split at h
  ·cases hd:r.s.ds with
   | nil => rw [hd,lB_nil] at h; obtain ⟨l,_,_,rfl⟩:=fin_some h; rfl
   | cons d l => rw [hd,lB_cons] at h; cases h
  ·obtain ⟨s2,_,h⟩:=oB_some.1 h; obtain ⟨l,_,_,rfl⟩:=fin_some h; rfl
 refine ⟨hds,fun φ w args' hL hS => ?_⟩
 have hA:AR1 φ fn.ntmps (enter args 0 (fun _ => none)) ⟨s.c,s.h,[]⟩ { tmps:=args' ++ Array.replicate (fn.ntmps - args'.size) undef,defers:=[] } w:=⟨enter_ok hL hle',⟨hS.rel,hS.fr⟩,trivial⟩
 refine wp_mono (code_ok hN hC hD fuel c _ _ r hr φ _ w hA) ?_
 rintro ex a1 w1 ⟨rfl,φ1,hA1,hG1⟩
 have hP1:Post φ s w φ1 r.s w1:=⟨hA1.stt,hG1.ext,hG1.le,hG1.new,hG1.liv⟩
 split at h
 ·rename_i hnod
  rw [if_pos hnod]
  have hnil:r.s.ds = []:=by
   cases hd:r.s.ds with
   | nil => rfl
   | cons d l => rw [hd,lB_cons] at h; cases h
  rw [hnil,lB_nil] at h
  obtain ⟨l,hl,rfl,rfl⟩:=fin_some h
  have hdf:a1.defers = []:=by
   have:=hA1.dfs
   rw [hnil] at this
   cases hh:a1.defers with
   | nil => rfl
   | cons x y => rw [hh] at this; exact this.elim
  obtain ⟨v',hv,hrun⟩:=results_ok (P:=P) (s:=⟨r.s.c,r.s.h,s.ds⟩) hA1.env hA1.stt.rel hl
  have key:a1.defers = [] ∧ ∃ u,(results fn a1.tmps).run P w1 = .ok u w1 ∧ ∃ φ' v',(Ending.returned u) = .returned v' ∧ V φ' (out l) v' ∧ Post φ s w φ' ⟨r.s.c,r.s.h,s.ds⟩ w1:=⟨hdf,v',hrun,φ1,v',rfl,hv,hP1.ds s.ds s.ds⟩
  revert hk' key
  cases r.k with
  | zero => exact fun _ h => h
  | succ k =>
   cases k with
   | zero => exact fun _ h => h
   | succ k => intro hk'; omega
 ·rename_i hnod
  rw [if_neg hnod]
  obtain ⟨s2,hs2,h⟩:=oB_some.1 h
  obtain ⟨l,hl,rfl,rfl⟩:=fin_some h
  have key:Leaves P fn a1.tmps (fun e w' => ∃ φ' v',e = .returned v' ∧ V φ' (out l) v' ∧ Post φ s w φ' ⟨s2.c,s2.h,s.ds⟩ w') a1.defers .returning w1:=by
   refine defers_ok hN hCD r.s.ds a1.defers r.s hs2 φ1 w1 hA1.dfs hA1.stt ?_
   intro φ2 w2 hP2
   have hE2:=hA1.env.mono hP2.ext.sub
   obtain ⟨v',hv,hrun⟩:=results_ok (P:=P) (s:=⟨s2.c,s2.h,s.ds⟩) hE2 hP2.stt.rel hl
   exact ⟨v',hrun,φ2,v',rfl,hv,(hP1.trans hS hP2).ds s.ds s.ds⟩
  revert hk' key
  cases r.k with
  | zero => exact fun _ h => h
  | succ k =>
   cases k with
   | zero => exact fun _ h => h
   | succ k => intro hk'; omega
theorem func_ok (hN:NameOk P) {special:Sp} (hSp:SpOk P special) (hDr:∀ call,CallOk P call → DrawOk P call):∀ n:Nat,CallOk P (func P special n false) ∧ CallOkD P (func P special n true):=by
 intro n
 induction n with
 | zero =>
  refine ⟨fun f args s v s' h => ?_,fun f args s v s' h => ?_⟩
  ·have h':none = some (v,s'):=h
   cases h'
  ·have h':none = some (v,s'):=h
   cases h'
 | succ n ih =>
  obtain ⟨hC,hCD⟩:=ih
  refine ⟨fun f args s v s' h => ?_,fun f args s v s' h => ?_⟩
  ·have h':@Option.rec (Option (Value × S)) (fun _ => Option (Value × S)) (oB (bodyOf P f) fun p => goF P (func P special n false) (func P special n true) false args s p) (fun r => r) (special (func P special n false) f args s) = some (v,s'):=h
   cases hsp:special (func P special n false) f args s with
   | some r =>
    rw [hsp] at h'
    have h2:r = some (v,s'):=h'
    subst h2
    exact hSp _ hC f args s v s' hsp
   | none =>
    rw [hsp] at h'
    obtain ⟨⟨fn,c⟩,hb,h2⟩:=oB_some.1 h'
    obtain ⟨fn',hf,hb⟩:=oB_some.1 hb
    obtain ⟨c',hc,hb⟩:=oB_some.1 hb
    cases hb
    obtain ⟨hds,hwp⟩:=body_ok hN hC hCD (hDr _ hC) h2
    exact ⟨hds,⟨fn,c,hf,hc⟩,fun φ w args' hL hS => calls_of_wp_defers hf hc (hwp φ w args' hL hS)⟩
  ·have h':(oB (bodyOf P f) fun p => goF P (func P special n false) (func P special n true) true args s p) = some (v,s'):=h
   obtain ⟨⟨fn,c⟩,hb,h2⟩:=oB_some.1 h'
   obtain ⟨fn',hf,hb⟩:=oB_some.1 hb
   obtain ⟨c',hc,hb⟩:=oB_some.1 hb
   cases hb
   obtain ⟨hds,hwp⟩:=body_ok hN hC hCD (hDr _ hC) h2
   refine ⟨hds,⟨fn,c,hf,hc⟩,fun φ w args' u hL hS => ?_⟩
   exact callsD_of_wp hf hc (hwp φ w args' hL hS)
end Xe
namespace Xe
variable {P:Program}
theorem tb_eq (m k:Nat):tb m k = m.testBit k:=by
 unfold tb
 rw [beq_dec]
 have:Nat.land (Nat.shiftRight m k) 1 = (m >>> k) % 2:=Nat.and_one_is_mod _
 rw [this,Nat.testBit_eq_decide_div_mod_eq,Nat.shiftRight_eq_div_pow]
theorem not_true' {b:Bool} (h:not' b = true):b = false:=by cases b <;> simp_all [not',bB]
theorem edgeM_tb {acc:List Nat}:∀ {es:List Edge} {k:Nat},tb (edgeM acc es) k = true → ∃ e ∈ es,Region.binds .any e = true ∧ (e.on = k ∨ tb (mAt acc e.on) k = true)
 | [],k,h => by rw [tb_eq] at h; have h':Nat.testBit 0 k = true:=h; simp at h'
 | e :: es,k,h => by
  have h':tb (bB (Region.binds .any e) (Nat.lor (Nat.lor (Nat.shiftLeft 1 e.on) ((nth acc e.on).getD 0)) (edgeM acc es)) (edgeM acc es)) k = true:=h
  rw [bB_ite] at h'
  split at h'
  ·rename_i hb
   rw [tb_eq] at h'
   have h2:(1 <<< e.on ||| (nth acc e.on).getD 0 ||| edgeM acc es).testBit k = true:=h'
   rw [Nat.testBit_or,Nat.testBit_or,Bool.or_eq_true,Bool.or_eq_true] at h2
   rcases h2 with (h2 | h2) | h2
   ·refine ⟨e,by simp,hb,.inl ?_⟩
    rw [Nat.testBit_shiftLeft] at h2
    simp only [Bool.and_eq_true,decide_eq_true_eq] at h2
    have:=h2.2
    rw [Nat.testBit_one_eq_true_iff_self_eq_zero] at this
    omega
   ·exact ⟨e,by simp,hb,.inr (by rw [tb_eq]; exact h2)⟩
   ·obtain ⟨e',he,h3⟩:=edgeM_tb (es:=es) (by rw [tb_eq]; exact h2)
    exact ⟨e',by simp [he],h3⟩
  ·obtain ⟨e',he,h3⟩:=edgeM_tb (es:=es) h'
   exact ⟨e',by simp [he],h3⟩
theorem number_mem {α:Type}:∀ {l:List α} {k i:Nat} {a:α},l[i]? = some a → (k + i,a) ∈ number l k
 | [],_,_,_,h => by simp at h
 | b :: l,k,0,a,h => by simp at h; subst h; simp [number]
 | b :: l,k,i + 1,a,h => by
  simp at h
  have:=number_mem (k:=k + 1) h
  simp only [number,List.mem_cons]
  refine .inr ?_
  rw [show k + (i + 1) = k + 1 + i by omega]
  exact this
structure DSt (ops:Array Oper) (ms:List Nat):Prop where
 edge:∀ (i:Nat) (o:Oper),ops[i]? = some o → ∀ k,tb (mAt ms i) k = true → ∃ e ∈ o.after,Region.binds .any e = true ∧ (e.on = k ∨ tb (mAt ms e.on) k = true)
 lt:∀ (i:Nat) (o:Oper),ops[i]? = some o → ∀ k,tb (mAt ms i) k = true → k < i
 trans:∀ (i j:Nat) (o p:Oper),ops[i]? = some o → ops[j]? = some p → tb (mAt ms i) j = true → ∀ k,tb (mAt ms j) k = true → tb (mAt ms i) k = true
 dst:∀ (i j:Nat) (o p:Oper) (d:Nat),ops[i]? = some o → ops[j]? = some p → i ≠ j → p.dst = some d → o.dst ≠ some d
 look:∀ (i j:Nat) (o p:Oper) (d:Nat),ops[i]? = some o → ops[j]? = some p → i ≠ j → p.dst = some d → d ∈ o.looksAt ops → tb (mAt ms i) j = true ∨ tb (mAt ms j) i = true
theorem eqN_self (d:Nat):eqN (some d) (some d) = true:=by show Nat.beq d d = true; simp
theorem drawOk_st {ops:Array Oper} (h:drawOk ops = true):DSt ops (masksFrom [] (aL ops)) ∧ chainOk (masksFrom [] (aL ops)) (effs (aL ops) 0) = true:=by
 unfold drawOk at h
 rw [Bool.and_eq_true,Bool.and_eq_true] at h
 obtain ⟨h1,h2,h3⟩:=h
 generalize masksFrom [] (aL ops) = ms at *
 rw [List.all_eq_true] at h1
 unfold allPairs at h2
 rw [List.all_eq_true] at h2
 have hmem:∀ (i:Nat) (o:Oper),ops[i]? = some o → (i,o) ∈ number (aL ops) 0:=by
  intro i o ho
  have:=number_mem (k:=0) (l:=aL ops) (i:=i) (a:=o) (by rw [aL_eq]; simpa using ho)
  rwa [Nat.zero_add] at this
 have one:∀ (i:Nat) (o:Oper),ops[i]? = some o → mAt ms i = edgeM ms (aL o.after) ∧ mAt ms i < 2 ^ i:=by
  intro i o ho
  have:=h1 _ (hmem i o ho)
  unfold oneOk at this
  rw [Bool.and_eq_true,beq_dec,ble_dec] at this
  simp only [decide_eq_true_eq] at this
  refine ⟨this.1,?_⟩
  have h4:=this.2
  rw [show Nat.shiftLeft 1 i = 1 <<< i from rfl,Nat.shiftLeft_eq,Nat.one_mul] at h4
  omega
 have two:∀ (i j:Nat) (o p:Oper),ops[i]? = some o → ops[j]? = some p → i ≠ j → dstSeen ops ms i j o p = true ∧ (tb (mAt ms i) j = true → mAt ms j &&& mAt ms i = mAt ms j):=by
  intro i j o p ho hp hne
  have:=h2 _ (hmem i o ho)
  rw [List.all_eq_true] at this
  have:=this _ (hmem j p hp)
  unfold pairOk at this
  simp only at this
  rw [Bool.or_eq_true,beq_dec] at this
  rcases this with h | h
  ·exact absurd (by simpa using h) hne
  ·rw [Bool.and_eq_true,Bool.or_eq_true,beq_dec] at h
   refine ⟨h.1,fun ht => ?_⟩
   rcases h.2 with h4 | h4
   ·rw [not_true' h4] at ht; cases ht
   ·simpa using h4
 refine ⟨⟨?_,?_,?_,?_,?_⟩,h3⟩
 ·intro i o ho k hk
  rw [(one i o ho).1,aL_eq] at hk
  obtain ⟨e,he,h4⟩:=edgeM_tb hk
  exact ⟨e,by simpa using he,h4⟩
 ·intro i o ho k hk
  rw [tb_eq] at hk
  rcases Nat.lt_or_ge k i with h | h
  ·exact h
  ·have:=Nat.testBit_lt_two_pow (Nat.lt_of_lt_of_le (one i o ho).2 (Nat.pow_le_pow_right (by omega) h))
   rw [this] at hk; cases hk
 ·intro i j o p ho hp hij k hk
  by_cases hne:i = j
  ·subst hne; exact hk
  ·have h5:=(two i j o p ho hp hne).2 hij
   rw [tb_eq] at hk ⊢
   rw [← h5,Nat.testBit_and,Bool.and_eq_true] at hk
   exact hk.2
 ·intro i j o p d ho hp hne hd hd'
  have h5:=(two i j o p ho hp hne).1
  unfold dstSeen at h5
  rw [hd] at h5
  simp only [Bool.and_eq_true] at h5
  have:=not_true' h5.1
  rw [hd',eqN_self] at this; cases this
 ·intro i j o p d ho hp hne hd hl
  have h5:=(two i j o p ho hp hne).1
  unfold dstSeen at h5
  rw [hd] at h5
  simp only [Bool.and_eq_true,Bool.or_eq_true] at h5
  rcases h5.2 with h6 | h6
  ·have:=not_true' h6
   rw [List.any_eq_false] at this
   have:=this d hl
   rw [beq_dec] at this; simp at this
  ·exact h6
theorem countB_le {p q:Nat → Bool}:∀ {l:List Nat},(∀ e ∈ l,p e = true → q e = true) → countB p l ≤ countB q l
 | [],_ => Nat.le_refl _
 | a :: l,h => by
  have ih:=countB_le (l:=l) (p:=p) (q:=q) fun e he => h e (by simp [he])
  show bB (p a) (Nat.succ (countB p l)) (countB p l) ≤ bB (q a) (Nat.succ (countB q l)) (countB q l)
  rw [bB_ite,bB_ite]
  split
  ·rename_i hp
   rw [if_pos (h a (by simp) hp)]
   exact Nat.succ_le_succ ih
  ·split
   ·exact Nat.le_succ_of_le ih
   ·exact ih
theorem countB_prefix {p:Nat → Bool}:∀ {l:List Nat},(∀ (a b x y:Nat),a < b → l[a]? = some x → l[b]? = some y → p y = true → p x = true) → ∀ (i x:Nat),l[i]? = some x → (p x = true ↔ i < countB p l)
 | [],_,i,x,hx => by simp at hx
 | c :: l,h,i,x,hx => by
  have ih:=countB_prefix (l:=l) (p:=p) fun a b x y hab hxa hyb => h (a + 1) (b + 1) x y (by omega) (by simpa using hxa) (by simpa using hyb)
  have e1:countB p (c :: l) = bB (p c) (Nat.succ (countB p l)) (countB p l):=rfl
  rw [e1,bB_ite]
  have hzero:p c ≠ true → countB p l = 0:=by
   intro hc
   have:∀ e ∈ l,p e = true → False:=by
    intro e he hp
    obtain ⟨j,hj⟩:=List.getElem?_of_mem he
    exact hc (h 0 (j + 1) c e (by omega) rfl (by simpa using hj) hp)
   have:=countB_le (l:=l) (p:=p) (q:=fun _ => false) fun e he hp => (this e he hp).elim
   have h0:∀ l:List Nat,countB (fun _ => false) l = 0:=by
    intro l
    induction l with
    | nil => rfl
    | cons a l ih => exact ih
   rw [h0] at this; omega
  cases i with
  | zero =>
   simp at hx; subst hx
   by_cases hc:p c = true
   ·simp [hc]
   ·rw [if_neg hc,hzero hc]; simp [hc]
  | succ i =>
   simp at hx
   rw [ih i x hx]
   by_cases hc:p c = true
   ·rw [if_pos hc]; omega
   ·rw [if_neg hc,hzero hc]; omega
end Xe
namespace Xe
variable {P:Program}
theorem reb_eq {α:Type} (x:Option α):reb x = x:=by cases x <;> rfl
theorem dB_eq {γ:Type} (d:Dp) (f:Nat → St → Nat → Nat → Nat → Nat → γ):dB d f = f d.i d.st d.m d.c d.lo d.hi:=by cases d; rfl
theorem all2_eq {p:Value → Value → Bool} (hp:∀ a b,p a b = true → a = b):∀ {l m:List Value},all2 p l m = true → l = m
 | [],[],_ => rfl
 | a :: l,b :: m,h => by
  have h':bB (p a b) (all2 p l m) false = true:=h
  rw [bB_ite] at h'
  split at h'
  ·rename_i hab; rw [hp a b hab,all2_eq hp h']
  ·cases h'
 | [],_ :: _,h => by cases h
 | _ :: _,[],h => by cases h
theorem eqA_eq {a b:Option Addr} (h:eqA a b = true):a = b:=by
 cases a with
 | none => cases b with
  | none => rfl
  | some b => cases h
 | some a => cases b with
  | none => cases h
  | some b =>
   have h':(Nat.beq a.block b.block && (Nat.beq a.off b.off && (a.spot.isNone && b.spot.isNone))) = true:=h
   simp only [Bool.and_eq_true,Option.isNone_iff_eq_none] at h'
   obtain ⟨h1,h2,h3,h4⟩:=h'
   cases a; cases b
   simp only at h1 h2 h3 h4
   rw [Nat.eq_of_beq_eq_true h1,Nat.eq_of_beq_eq_true h2,h3,h4]
theorem eqN_eq {a b:Option Nat} (h:eqN a b = true):a = b:=by
 cases a <;> cases b <;> first | rfl | cases h | skip
 rw [Nat.eq_of_beq_eq_true h]
theorem eq0_eq {x y:Value} (h:eq0 x y = true):x = y:=by
 unfold eq0 at h
 split at h
 ·rename_i a b
  cases a <;> cases b <;> simp_all [bB,not']
 ·rename_i k a l b
  rw [Bool.and_eq_true,kno_eq,eqI_eq] at h
  obtain ⟨rfl,h⟩:=h
  have:a = b:=by simpa using h
  rw [this]
 ·rename_i a b
  rw [bytesEq_eq,sL_eq,sL_eq] at h
  have:a.data.toList = b.data.toList:=by simpa using h
  rw [ByteArray.ext (Array.toList_inj.1 this)]
 ·rename_i a b; rw [eqA_eq h]
 ·rename_i a n c b m d
  simp only [Bool.and_eq_true] at h
  rw [eqA_eq h.1,Nat.eq_of_beq_eq_true h.2.1,Nat.eq_of_beq_eq_true h.2.2]
 ·rename_i a b; rw [eqN_eq h]
 ·rfl
 ·cases h
theorem eq1_eq {x y:Value} (h:eq1 x y = true):x = y:=by
 unfold eq1 at h
 rw [Bool.or_eq_true] at h
 rcases h with h | h
 ·exact eq0_eq h
 ·split at h
  ·rename_i f a b g c d
   simp only [Bool.and_eq_true,aL_eq] at h
   have h1:=Nat.eq_of_beq_eq_true h.1
   have h2:=all2_eq (fun _ _ => eq0_eq) h.2.1
   have h3:=all2_eq (fun _ _ => eq0_eq) h.2.2
   rw [h1,Array.toList_inj.1 h2,Array.toList_inj.1 h3]
  ·cases h
theorem eq2_eq {x y:Value} (h:eq2 x y = true):x = y:=by
 unfold eq2 at h
 rw [Bool.or_eq_true] at h
 rcases h with h | h
 ·exact eq1_eq h
 ·split at h
  ·rename_i a b
   rw [aL_eq,aL_eq] at h
   rw [Array.toList_inj.1 (all2_eq (fun _ _ => eq1_eq) h)]
  ·cases h
theorem eqV_eq {x y:Value} (h:eqV x y = true):x = y:=by
 unfold eqV at h
 rw [Bool.or_eq_true] at h
 rcases h with h | h
 ·exact eq2_eq h
 ·split at h
  ·rename_i a b
   rw [aL_eq,aL_eq] at h
   rw [Array.toList_inj.1 (all2_eq (fun _ _ => eq2_eq) h)]
  ·cases h
def SubV (vs vs':En):Prop:=∀ i v,vs i = some v → vs' i = some v
theorem SubV.refl (vs:En):SubV vs vs:=fun _ _ h => h
theorem SubV.trans {a b c:En} (h:SubV a b) (h':SubV b c):SubV a c:=fun i v hv => h' i v (h i v hv)
theorem SubV.set {vs:En} {i:Nat} {v:Value} (h:vs i = none):SubV vs (setE vs i v):=by
 intro j u hj
 rw [setE_get]
 split
 ·rename_i e; subst e; rw [h] at hj; cases hj
 ·exact hj
def SeenP (m:Nat) (vs:En):Prop:=∀ j,tb m j = true → ∃ v,vs j = some v
theorem SeenP.mono {m:Nat} {vs vs':En} (h:SubV vs vs') (hs:SeenP m vs):SeenP m vs':=fun j hj => (hs j hj).elim fun v hv => ⟨v,h j v hv⟩
theorem seen_P {n m:Nat} {vs:En} (h:seen n m vs = true) (hb:∀ j,tb m j = true → j < n):SeenP m vs:=by
 intro j hj
 unfold seen at h
 rw [List.all_eq_true] at h
 have:=h j (List.mem_range.2 (hb j hj))
 rw [Bool.or_eq_true] at this
 rcases this with h1 | h1
 ·rw [not_true' h1] at hj; cases hj
 ·exact Option.isSome_iff_exists.1 h1
theorem envD_get (wr:Nat → Option Nat) (m:Nat) (vs e0:En) (t:Nat):envD wr m vs e0 t = match wr t with
  | none => e0 t
  | some j => if tb m j = true then vs j else e0 t:=by
 unfold envD
 cases wr t with
 | none => exact reb_eq _
 | some j =>
  show bB (tb m j) (reb (vs j)) (reb (e0 t)) = _
  rw [bB_ite,reb_eq,reb_eq]
theorem envD_sub {wr:Nat → Option Nat} {m:Nat} {vs vs' e0:En} (hs:SeenP m vs) (h:SubV vs vs'):envD wr m vs e0 = envD wr m vs' e0:=by
 funext t
 rw [envD_get,envD_get]
 split
 ·rfl
 ·rename_i j _
  split
  ·rename_i hj
   obtain ⟨v,hv⟩:=hs j hj
   rw [hv,h j v hv]
  ·rfl
section
variable {n nm0:Nat} {wr:Nat → Option Nat} {call:Cl} {e0:En}
theorem addS_ok {k:Nat} {s:S}:∀ (l:List Dp) (vs vs':En),addS n wr call e0 nm0 k s l vs = some vs' → (∀ d ∈ l,∀ j,tb d.m j = true → j < n) →
  SubV vs vs' ∧ ∀ d ∈ l,d.c ≠ 2 → d.lo = k → SeenP d.m vs' ∧ ∃ v s2,vs' d.i = some v ∧ evalD call d.st (envD wr d.m vs' e0) s (nm0 + d.i) = some (v,s2)
 | [],vs,vs',h,_ => by
  have h':some vs = some vs':=h
  cases h'
  exact ⟨SubV.refl _,fun d hd => by cases hd⟩
 | d :: l,vs,vs',h,hb => by
  have h':(dB d fun i t m c lo _ => bB (Nat.beq c 2) (addS n wr call e0 nm0 k s l vs) (bB (Nat.beq lo k)
   (guardB (seen n m vs) (guardB ((vs i).isNone) (bindS (evalD call t (envD wr m vs e0) s (Nat.add nm0 i)) fun v _ => addS n wr call e0 nm0 k s l (setE vs i v))))
   (addS n wr call e0 nm0 k s l vs))) = some vs':=h
  rw [dB_eq,bB_ite,beq_dec] at h'
  split at h'
  ·rename_i hc
   have hc':d.c = 2:=by simpa using hc
   obtain ⟨h1,h2⟩:=addS_ok l vs vs' h' fun d hd => hb d (by simp [hd])
   refine ⟨h1,fun d' hd' hc2 hlo => ?_⟩
   rcases List.mem_cons.1 hd' with rfl | hd'
   ·exact absurd hc' hc2
   ·exact h2 d' hd' hc2 hlo
  ·rw [bB_ite,beq_dec] at h'
   split at h'
   ·rw [guardB_some,guardB_some] at h'
    obtain ⟨hs,hn,h'⟩:=h'
    obtain ⟨⟨v,s2⟩,hv,h'⟩:=oB_some.1 h'
    rw [pB_mk] at h'
    have hn':vs d.i = none:=by simpa using hn
    have hsub:SubV vs (setE vs d.i v):=SubV.set hn'
    obtain ⟨h1,h2⟩:=addS_ok l _ vs' h' fun d hd => hb d (by simp [hd])
    refine ⟨hsub.trans h1,fun d' hd' hc2 hlo => ?_⟩
    rcases List.mem_cons.1 hd' with rfl | hd'
    ·have hsP:=seen_P hs (hb d' (by simp))
     refine ⟨hsP.mono (hsub.trans h1),v,s2,h1 _ _ (by rw [setE_get,if_pos rfl]),?_⟩
     rw [← envD_sub hsP (hsub.trans h1)]
     exact hv
    ·exact h2 d' hd' hc2 hlo
   ·rename_i hlo0
    obtain ⟨h1,h2⟩:=addS_ok l vs vs' h' fun d hd => hb d (by simp [hd])
    refine ⟨h1,fun d' hd' hc2 hlo => ?_⟩
    rcases List.mem_cons.1 hd' with rfl | hd'
    ·exact absurd (by simpa using hlo) (by simpa using hlo0)
    ·exact h2 d' hd' hc2 hlo
theorem chkS_ok {vs:En} {k:Nat} {s:S}:∀ (l:List Dp),chkS wr call e0 vs nm0 k s l = true → ∀ d ∈ l,
  (d.c = 0 → d.lo < k → k ≤ d.hi → ∃ s2,evalD call d.st (envD wr d.m vs e0) s (nm0 + d.i) = some (getE (vs d.i),s2)) ∧ (d.c = 1 → k ≤ d.hi → s.h (nm0 + d.i) = none)
 | [],_,d,hd => by cases hd
 | d :: l,h,d',hd' => by
  have h':(dB d fun i t m c lo hi => bB (bB (Nat.beq c 0 && (Nat.ble (Nat.succ lo) k && Nat.ble k hi)) (chkR wr call e0 vs nm0 s i t m) (bB (Nat.beq c 1 && Nat.ble k hi) (s.h (Nat.add nm0 i)).isNone true)) (chkS wr call e0 vs nm0 k s l) false) = true:=h
  rw [dB_eq,bB_ite] at h'
  split at h'
  ·rename_i hc
   rcases List.mem_cons.1 hd' with rfl | hd'
   ·rw [bB_ite,beq_dec,ble_dec,ble_dec] at hc
    constructor
    ·intro h0 h1 h2
     rw [if_pos (by simp [h0,h2]; omega)] at hc
     unfold chkR at hc
     cases he:evalD call d'.st (envD wr d'.m vs e0) s (Nat.add nm0 d'.i) with
     | none => rw [he] at hc; cases hc
     | some p =>
      rw [he] at hc
      obtain ⟨v,s2⟩:=p
      have hc':eqV v (getE (vs d'.i)) = true:=hc
      exact ⟨s2,by rw [← eqV_eq hc']⟩
    ·intro h0 h2
     rw [if_neg (by simp [h0]),bB_ite,beq_dec,if_pos (by simp [h0,h2])] at hc
     simpa using hc
   ·exact chkS_ok l h' d' hd'
  ·cases h'
end
end Xe
end Go.Proofs.YtpnljpdpobbiiaaGreatDoor

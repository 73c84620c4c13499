/- A region in the text's order. -/
import Derived.Test.YtbioaoangfiijaaGreatDoorM41
namespace Go.Proofs.YtbioaoangfiijaaGreatDoor
namespace Xe
variable {P:Program}
structure AR1 (φ:Ph) (nt:Nat) (e:En) (s:S) (a:Act) (w:World):Prop where
 env:EnvR φ nt e a
 stt:Stt φ s w
 dfs:L (DR φ) s.ds a.defers
structure Grew (φ:Ph) (s:S) (w:World) (φ':Ph) (s':S) (w':World):Prop where
 ext:Ext φ s.h w φ' w'
 le:s.c ≤ s'.c
 new:∀ x,φ x = none → φ' x ≠ none → s.c ≤ x
 liv:∀ x,live s'.h x → live s.h x ∨ φ x = none
theorem Post.grew {φ φ':Ph} {s s':S} {w w':World} (h:Post φ s w φ' s' w'):Grew φ s w φ' s' w':=⟨h.ext,h.le,h.new,h.liv⟩
theorem Grew.post {φ φ':Ph} {s s':S} {w w':World} (h:Grew φ s w φ' s' w') (hs:Stt φ' s' w'):Post φ s w φ' s' w':=⟨hs,h.ext,h.le,h.new,h.liv⟩
theorem Grew.refl (φ:Ph) (s:S) (w:World):Grew φ s w φ s w:=⟨Ext.refl φ s.h w,Nat.le_refl _,fun _ h0 h1 => (h1 h0).elim,fun _ hx => .inl hx⟩
theorem Grew.trans {φ φ₁ φ₂:Ph} {s s₁ s₂:S} {w w₁ w₂:World} (h0:Stt φ s w) (h1:Stt φ₁ s₁ w₁) (a:Grew φ s w φ₁ s₁ w₁) (b:Grew φ₁ s₁ w₁ φ₂ s₂ w₂):Grew φ s w φ₂ s₂ w₂ where
 ext:=a.ext.trans b.ext a.liv (fun _ hx => h0.rel.has hx) (fun _ hx => h1.rel.has hx)
 le:=Nat.le_trans a.le b.le
 new x hx hn:=by
  by_cases h1:φ₁ x = none
  ·exact Nat.le_trans a.le (b.new x h1 hn)
  ·exact a.new x hx h1
 liv x hx:=by
  rcases b.liv x hx with h1 | h1
  ·exact a.liv x h1
  ·cases h2:φ x with
   | none => exact .inr rfl
   | some g => rw [a.ext.sub x g h2] at h1; cases h1
theorem alloc_stt {φ:Ph} {h:Hp} {w:World} {nm n:Nat} {ob o':Obj} (r:Rel φ h w) (h0:φ nm = none) (hor:∀ w':World,w'.heap[w.heap.size]? = some o' → OR (upd φ nm ⟨w.heap.size,n⟩) w' nm ob) :
  Rel (upd φ nm ⟨w.heap.size,n⟩) (setH h nm ob) (w.alloc o'):=by
 have hsub:=upd_sub h0 ⟨w.heap.size,n⟩
 have hnew:(w.alloc o').heap[w.heap.size]? = some o':=heap_alloc_new w o'
 have hold:∀ b,b < w.heap.size → (w.alloc o').heap[b]? = w.heap[b]?:=fun b hb => by
  show (w.heap.push o')[b]? = _
  rw [Array.getElem?_push_lt hb]; simp [hb]
 have hsz:(w.alloc o').heap.size = w.heap.size + 1:=by show (w.heap.push o').size = _; simp
 have hphi:∀ y gy,y ≠ nm → upd φ nm ⟨w.heap.size,n⟩ y = some gy → φ y = some gy:=by
  intro y gy hy hg
  unfold upd at hg
  rwa [if_neg hy] at hg
 have hl:∀ y,y ≠ nm → live (setH h nm ob) y → live h y:=by
  rintro y hy ⟨o,ho,hi⟩
  rw [setH_get,if_neg hy] at ho
  exact ⟨o,ho,hi⟩
 refine ⟨?_,?_,?_,?_⟩
 ·intro y o hy
  rw [setH_get] at hy
  split at hy
  ·rename_i e; subst e; cases hy; exact hor _ hnew
  ·exact (r.obj y o hy).mono hsub fun g hg => hold g.b (r.bnd y g hg)
 ·intro y z g1 g2 hy hz h1 h2 e
  by_cases hy':y = nm <;> by_cases hz':z = nm
  ·rw [hy',hz']
  ·subst hy'
   rw [upd_self] at h1; cases h1
   have:=r.bnd z g2 (hphi z g2 hz' h2)
   simp only at e; omega
  ·subst hz'
   rw [upd_self] at h2; cases h2
   have:=r.bnd y g1 (hphi y g1 hy' h1)
   simp only at e; omega
  ·exact r.inj y z g1 g2 (hl y hy' hy) (hl z hz' hz) (hphi y g1 hy' h1) (hphi z g2 hz' h2) e
 ·intro y g hy
  rw [hsz]
  by_cases hy':y = nm
  ·subst hy'; rw [upd_self] at hy; cases hy; exact Nat.lt_succ_self _
  ·exact Nat.lt_succ_of_lt (r.bnd y g (hphi y g hy' hy))
 ·intro y hy
  obtain ⟨m,hm⟩:=r.glo y hy
  exact ⟨m,hsub _ _ hm⟩
theorem op_wp (hN:NameOk P) {call:Cl} (hC:CallOk P call) {o:Oper} {f:F} (hf:comp P o.op = some f) (hok:okOp o.op = true) {nt:Nat} (hd:dstOk nt o.dst = true) {e:En} {s s':S} {nm:Nat} {v:Value}
  (h:f call e s nm = some (v,s')) {φ:Ph} {a:Act} {w:World} (hA:AR1 φ nt e s a w) (hnm:φ nm = none) {T:Nat} (hT:T ≤ s.c) (hlt:nm < T) (hb:∀ x,nm ≤ x → x < T → φ x = none) (K:Act → World → Prop) (Q:Exit → Act → World → Prop)
  (hK:∀ φ' a' w',AR1 φ' nt (put e o.dst v) s' a' w' → Grew φ ⟨nm,s.h,s.ds⟩ w φ' s' w' → (∀ x,nm < x → x < T → φ' x = none) → s.c ≤ s'.c → K a' w'):o.wp P a w K Q:=by
 have hE:EvR φ e a o.op:=okOp_EvR hok hA.env hA.stt.rel.glo
 rcases comp_cls hf with ⟨_,hR⟩ | ⟨_,hAl⟩ | ⟨_,hEf | ⟨c,g,hop,hcal,rfl⟩ | ⟨c,g,hop,hcal,rfl⟩⟩
 ·obtain ⟨rfl,hR⟩:=hR call e s nm v s' h
  obtain ⟨v',hv,hrun⟩:=hR φ a w hE hA.stt.rel
  unfold Oper.wp
  rw [hrun o rfl]
  exact hK φ _ w ⟨hA.env.put hd hv,hA.stt,by cases o.dst <;> exact hA.dfs⟩ ⟨Ext.refl φ _ w,Nat.le_of_lt (Nat.lt_of_lt_of_le hlt hT),fun _ h0 h1 => (h1 h0).elim,fun _ hx => .inl hx⟩ (fun x h1 h2 => hb x (Nat.le_of_lt h1) h2) (Nat.le_refl _)
 ·obtain ⟨ob,_,hall,hsim⟩:=hAl call e s nm v s' h
  have hs':s' = ⟨s.c,setH s.h nm ob,s.ds⟩:=by have:=hall call s; rw [h] at this; cases this; rfl
  subst hs'
  obtain ⟨o',n,v',hrun,hv,hor⟩:=hsim φ a w hE hnm
  unfold Oper.wp
  rw [hrun o rfl]
  have hsub:=upd_sub hnm ⟨w.heap.size,n⟩
  have hrel:=alloc_stt (o':=o') hA.stt.rel hnm hor
  refine hK (upd φ nm ⟨w.heap.size,n⟩) _ (w.alloc o') ⟨(hA.env.mono hsub).put hd hv,⟨hrel,?_⟩,?_⟩ ⟨⟨hsub,?_,?_,?_,⟨rfl,rfl,rfl⟩⟩,Nat.le_of_lt (Nat.lt_of_lt_of_le hlt hT),?_,?_⟩ ?_ (Nat.le_refl _)
  ·intro x hx
   have hx':s.c ≤ x:=hx
   unfold upd
   rw [if_neg (by omega)]
   exact hA.stt.fr x hx'
  ·have:L (DR (upd φ nm ⟨w.heap.size,n⟩)) s.ds a.defers:=hA.dfs.mono fun _ _ => DR.mono hsub
   cases o.dst <;> exact this
  ·show w.heap.size ≤ (w.heap.push o').size
   simp
  ·intro x g h1 h2
   unfold upd at h2
   split at h2
   ·cases h2; exact .inl (Nat.le_refl _)
   ·rw [h1] at h2; cases h2
  ·intro b hb' _
   show (w.heap.push o')[b]? = _
   rw [Array.getElem?_push_lt hb']; simp [hb']
  ·intro x h1 h2
   unfold upd at h2
   split at h2
   ·rename_i e1; subst e1; exact Nat.le_refl _
   ·exact absurd h1 h2
  ·rintro x ⟨o1,ho0,hi⟩
   have ho1:setH s.h nm ob x = some o1:=ho0
   rw [setH_get] at ho1
   split at ho1
   ·rename_i e1; subst e1; exact .inr hnm
   ·exact .inl ⟨o1,ho1,hi⟩
  ·intro x h1 h2
   unfold upd
   rw [if_neg (by omega)]
   exact hb x (Nat.le_of_lt h1) h2
 ·obtain ⟨hds,hEf⟩:=hEf call e s nm v s' h
  obtain ⟨φ',v',w',hv,hP,hrun⟩:=hEf φ a w hE hA.stt
  have key:K (a.put o.dst v') w':=by
   refine hK φ' _ w' ⟨(hA.env.mono hP.ext.sub).put hd hv,hP.stt,?_⟩ ⟨hP.ext,Nat.le_trans (Nat.le_of_lt (Nat.lt_of_lt_of_le hlt hT)) hP.le,fun x h0 h1 => Nat.le_trans (Nat.le_of_lt (Nat.lt_of_lt_of_le hlt hT)) (hP.new x h0 h1),hP.liv⟩ ?_ hP.le
   ·have:L (DR φ') s'.ds a.defers:=by rw [hds]; exact hA.dfs.mono fun _ _ => DR.mono hP.ext.sub
    cases o.dst <;> exact this
   ·intro x h1 h2
    by_cases h3:φ' x = none
    ·exact h3
    ·have:=hP.new x (hb x (Nat.le_of_lt h1) h2) h3; omega
  unfold Oper.wp
  rcases hrun o rfl with hr | ⟨rfl,hr⟩ <;> rw [hr] <;> exact key
 ·obtain ⟨⟨g',as'⟩,hcl,h⟩:=oB_some.1 h
  rw [pB_mk] at h
  obtain ⟨hds,hbd,hcall⟩:=hC g' as' s v s' h
  rw [hop] at hE
  obtain ⟨cap',ar',hres,hL⟩:=resolve_sim hcal hE hcl o.type
  have hexec:(execOp a.eval o).run P w = .ok (.enter g' (ar' ++ cap')) w:=by
   simp only [execOp,hop,hres]
   simp [invoke,run_callFunc hN hbd]
  unfold Oper.wp
  rw [hexec]
  refine Calls.mono (hcall φ w (ar' ++ cap') hL hA.stt) ?_
  rintro e1 w' ⟨φ',v',rfl,hv,hP⟩
  refine hK φ' _ w' ⟨(hA.env.mono hP.ext.sub).put hd hv,hP.stt,?_⟩ ⟨hP.ext,Nat.le_trans (Nat.le_of_lt (Nat.lt_of_lt_of_le hlt hT)) hP.le,fun x h0 h1 => Nat.le_trans (Nat.le_of_lt (Nat.lt_of_lt_of_le hlt hT)) (hP.new x h0 h1),hP.liv⟩ ?_ hP.le
  ·have:L (DR φ') s'.ds a.defers:=by rw [hds]; exact hA.dfs.mono fun _ _ => DR.mono hP.ext.sub
   cases o.dst <;> exact this
  ·intro x h1 h2
   by_cases h3:φ' x = none
   ·exact h3
   ·have:=hP.new x (hb x (Nat.le_of_lt h1) h2) h3; omega
 ·obtain ⟨⟨g',as'⟩,hcl,h⟩:=oB_some.1 h
  rw [sB_eq] at h
  cases h
  rw [hop] at hE
  obtain ⟨cap',ar',hres,hL⟩:=resolve_sim (c:=c) hcal hE hcl o.type
  have hexec:(execOp a.eval o).run P w = .ok (.defer { target:=.fn (.func g') cap',args:=ar' }) w:=by
   simp only [execOp,hop,hres]
   rfl
  unfold Oper.wp
  rw [hexec]
  refine hK φ _ w ⟨?_,⟨hA.stt.rel,hA.stt.fr⟩,?_⟩ ⟨Ext.refl φ _ w,Nat.le_of_lt (Nat.lt_of_lt_of_le hlt hT),fun _ h0 h1 => (h1 h0).elim,fun _ hx => .inl hx⟩ (fun x h1 h2 => hb x (Nat.le_of_lt h1) h2) (Nat.le_refl _)
  ·have hE0:EnvR φ nt e { a with defers:={ target:=.fn (.func g') cap',args:=ar' } :: a.defers }:=⟨hA.env.size,hA.env.val⟩
   exact hE0.put hd (V.undef φ)
  ·have:L (DR φ) ((g',as') :: s.ds) ({ target:=.fn (.func g') cap',args:=ar' } :: a.defers):=⟨⟨cap',rfl,hL⟩,hA.dfs⟩
   cases o.dst <;> exact this
end Xe
namespace Xe
variable {P:Program}
theorem V_isBool {φ:Ph} {v:Value} {x:Bool} (h:V φ v (.bool x)):v = .bool x:=by
 rcases h with ((h | ⟨_,_,_,_,_,_,h,_⟩) | ⟨_,_,_,h,_⟩) | ⟨_,_,_,h,_⟩
 ·unfold V0 at h
  split at h
  case h_1 => cases h; rfl
  case h_2 => cases h
  case h_3 => cases h
  case h_4 => cases h
  case h_5 => obtain ⟨_,h,_⟩:=h; cases h
  case h_6 => cases h.2
  case h_7 => obtain ⟨_,_,h,_⟩:=h; cases h
  case h_8 => cases h
  case h_9 => obtain ⟨_,_,h⟩:=h; cases h
  case h_10 => cases h
  case h_11 => exact h.elim
 all_goals cases h
theorem isB_eq (v:Value) (b:Bool):isB v b = true ↔ v = .bool b:=by
 cases v <;> simp [isB,vBool]
 rename_i x
 cases x <;> cases b <;> simp [bB,not']
theorem wanted_iff {φ:Ph} {nt:Nat} {e:En} {a:Act} {ops:Array Oper} {o:Oper} {g:Option (Nat × Bool)} (hE:EnvR φ nt e a) (hg:guardOf ops.toList o = some g):Region.wanted o (yielded ops a.tmps) = want g e:=by
 unfold guardOf at hg
 unfold Region.wanted
 split at hg
 ·rename_i h0; cases hg; rw [h0]; rfl
 ·rename_i j b h0
  obtain ⟨og,ho,hg⟩:=oB_some.1 hg
  obtain ⟨d,hd,hg⟩:=oB_some.1 hg
  cases hg
  rw [h0]
  rw [nth_eq] at ho
  have ho':ops[j]? = some og:=by simpa using ho
  show (yielded ops a.tmps j == some b) = isB (getE (e d)) b
  have hv:=hE.val d
  rw [Bool.eq_iff_iff,isB_eq,beq_iff_eq]
  unfold yielded
  simp only [ho',Option.bind_some,hd]
  constructor
  ·intro h
   split at h
   ·rename_i x hx
    cases h
    rw [Array.getD_eq_getD_getElem?,hx] at hv
    exact V_isBool hv
   ·cases h
  ·intro h
   rw [h] at hv
   have hv':=V_bool hv
   rw [Array.getD_eq_getD_getElem?] at hv'
   cases hx:a.tmps[d]? with
   | none => rw [hx] at hv'; cases hv'
   | some y =>
    rw [hx] at hv'
    simp only [Option.getD_some] at hv'
    subst hv'
    rfl
theorem AR1.undef {φ:Ph} {nt:Nat} {e:En} {s:S} {a:Act} {w:World} (h:AR1 φ nt e s a w) {d:Option Nat} (hd:dstOk nt d = true):AR1 φ nt (put e d undef) s (a.put d undef) w :=
 ⟨h.env.put hd (V.undef φ),h.stt,by cases d <;> exact h.dfs⟩
theorem Grew.cons {φ φ₁ φ₂:Ph} {s s₁ s₂:S} {w w₁ w₂:World} {nm nm':Nat} (hn:nm ≤ nm') (h0:Rel φ s.h w) (h1:Rel φ₁ s₁.h w₁) (a:Grew φ ⟨nm,s.h,s.ds⟩ w φ₁ s₁ w₁) (b:Grew φ₁ ⟨nm',s₁.h,s₁.ds⟩ w₁ φ₂ s₂ w₂) :
  Grew φ ⟨nm,s.h,s.ds⟩ w φ₂ s₂ w₂ where
 ext:=a.ext.trans b.ext a.liv (fun _ hx => h0.has hx) (fun _ hx => h1.has hx)
 le:=Nat.le_trans hn b.le
 new x hx hn':=by
  by_cases h1:φ₁ x = none
  ·exact Nat.le_trans hn (b.new x h1 hn')
  ·exact a.new x hx h1
 liv x hx:=by
  rcases b.liv x hx with h1 | h1
  ·exact a.liv x h1
  ·cases h2:φ x with
   | none => exact .inr rfl
   | some g => rw [a.ext.sub x g h2] at h1; cases h1
theorem seq_ok (hN:NameOk P) {call:Cl} (hC:CallOk P call) {nt:Nat} {ops:Array Oper} {Q:Exit → Act → World → Prop} :
  ∀ (rest:List Oper) (i:Nat) (l:List St) (nm:Nat) (e:En) (s:S) (e':En) (s':S),ops.toList.drop i = rest → compL1 P nt ops.toList rest = some l → runL call l nm e s = some (e',s') → ∀ T:Nat,nm + rest.length ≤ T → T ≤ s.c →
   ∀ (φ:Ph) (a:Act) (w:World),AR1 φ nt e s a w → (∀ x,nm ≤ x → x < T → φ x = none) →
   (∀ φ' a' w',AR1 φ' nt e' s' a' w' → Grew φ ⟨nm,s.h,s.ds⟩ w φ' s' w' → Q .normal a' w') → wpOps P ops Q (List.range' i rest.length) a w
 | [],i,l,nm,e,s,e',s',_,hl,hr,T,hle,hT,φ,a,w,hA,_,hQ => by
  have hl':some [] = some l:=hl
  cases hl'
  have hr':some (e,s) = some (e',s'):=hr
  cases hr'
  exact hQ φ a w hA ⟨Ext.refl φ _ w,by simp at hle; show nm ≤ s.c; omega,fun _ h0 h1 => (h1 h0).elim,fun _ hx => .inl hx⟩
 | o :: rest,i,l,nm,e,s,e',s',hdr,hl,hr,T,hle,hT,φ,a,w,hA,hb,hQ => by
  have hl':(guardB (okOp o.op) <| guardB (dstOk nt o.dst) (oB (guardOf ops.toList o) fun g => oB (comp P o.op) fun f => oB (compL1 P nt ops.toList rest) fun r => some ((⟨g,o.dst,f⟩:St) :: r))) = some l:=hl
  rw [guardB_some,guardB_some] at hl'
  obtain ⟨hok,hd,hl'⟩:=hl'
  obtain ⟨g,hg,hl'⟩:=oB_some.1 hl'
  obtain ⟨f,hf,hl'⟩:=oB_some.1 hl'
  obtain ⟨r,hrr,hl'⟩:=oB_some.1 hl'
  cases hl'
  have hoi:ops[i]? = some o:=by
   have:(ops.toList.drop i)[0]? = some o:=by rw [hdr]; rfl
   rw [List.getElem?_drop] at this
   simpa using this
  have hdr':ops.toList.drop (i + 1) = rest:=by
   have:(ops.toList.drop i).drop 1 = rest:=by rw [hdr]; rfl
   rwa [List.drop_drop] at this
  have hr':bB (want g e) (bindS (f call e s nm) fun v s' => runL call r (Nat.succ nm) (put e o.dst v) s') (runL call r (Nat.succ nm) (put e o.dst undef) s) = some (e',s'):=hr
  rw [bB_ite] at hr'
  simp only [List.length_cons] at hle
  show wpOps P ops Q (i :: List.range' (i + 1) rest.length) a w
  simp only [wpOps,hoi]
  rw [wanted_iff hA.env hg]
  split at hr'
  ·rename_i hw
   rw [if_pos hw]
   obtain ⟨⟨v,s1⟩,h1,h2⟩:=oB_some.1 hr'
   rw [pB_mk] at h2
   refine .inl (op_wp hN hC hf hok hd h1 hA (hb nm (Nat.le_refl _) (by omega)) hT (by omega) hb _ _ ?_)
   intro φ1 a1 w1 hA1 hG1 hfree hcc
   refine seq_ok hN hC rest (i + 1) r (nm + 1) _ s1 e' s' hdr' hrr h2 T (by omega) (Nat.le_trans hT hcc) φ1 a1 w1 hA1 (fun x h3 h4 => hfree x (by omega) h4) ?_
   intro φ' a' w' hA' hG'
   exact hQ φ' a' w' hA' (Grew.cons (Nat.le_succ _) hA.stt.rel hA1.stt.rel hG1 hG')
  ·rename_i hw
   rw [if_neg hw]
   refine seq_ok hN hC rest (i + 1) r (nm + 1) _ s e' s' hdr' hrr hr' T (by omega) hT φ _ w (hA.undef hd) (fun x h1 h2 => hb x (by omega) h2) ?_
   intro φ' a' w' hA' hG'
   exact hQ φ' a' w' hA' ⟨hG'.ext,Nat.le_trans (Nat.le_succ _) hG'.le,fun x h0 h1 => Nat.le_trans (Nat.le_succ _) (hG'.new x h0 h1),hG'.liv⟩
end Xe
end Go.Proofs.YtbioaoangfiijaaGreatDoor

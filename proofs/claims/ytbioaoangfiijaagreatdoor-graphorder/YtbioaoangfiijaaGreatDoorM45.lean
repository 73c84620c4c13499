/- Regions whose order is drawn: memory,stage by stage. -/
import Derived.Test.YtbioaoangfiijaaGreatDoorM44
namespace Go.Proofs.YtbioaoangfiijaaGreatDoor
namespace Xe
variable {P:Program}
structure DpOk (P:Program) (nt:Nat) (ops:Array Oper) (ms es:List Nat) (d:Dp) (o:Oper):Prop where
 op:ops[d.i]? = some o
 f:comp P o.op = some d.st.f
 ok:okOp o.op = true
 dst:d.st.d = o.dst
 dok:dstOk nt o.dst = true
 g:guardOf ops.toList o = some d.st.g
 m:d.m = mAt ms d.i
 c:d.c = cls o.op
 lo:d.lo = countB (fun e => tb (mAt ms d.i) e) es
 hi:d.hi = countB (fun e => not' (tb (mAt ms e) d.i)) es
theorem dps_ok {nt:Nat} {ops:Array Oper} {ms es:List Nat}:∀ (rest:List Oper) (l:List St) (i:Nat),ops.toList.drop i = rest → compL1 P nt ops.toList rest = some l →
  (∀ d ∈ dps ms es l rest i,i ≤ d.i ∧ ∃ o,DpOk P nt ops ms es d o) ∧ ∀ (j:Nat) (o:Oper),rest[j]? = some o → ∃ d,(dps ms es l rest i)[j]? = some d ∧ d.i = i + j
 | [],l,i,_,hl => by
  have hl':some [] = some l:=hl
  cases hl'
  exact ⟨fun d hd => (by cases hd),fun j o hj => (by simp at hj)⟩
 | o :: rest,l,i,hdr,hl => by
  have hl':(guardB (okOp o.op) <| guardB (dstOk nt o.dst) (oB (guardOf ops.toList o) fun g => oB (comp P o.op) fun f => oB (compL1 P nt ops.toList rest) fun r => some ((⟨g,o.dst,f⟩:St) :: r))) = some l:=hl
  rw [guardB_some,guardB_some] at hl'
  obtain ⟨hok,hd,hl'⟩:=hl'
  obtain ⟨g,hg,hl'⟩:=oB_some.1 hl'
  obtain ⟨f,hf,hl'⟩:=oB_some.1 hl'
  obtain ⟨r,hrr,hl'⟩:=oB_some.1 hl'
  cases hl'
  have hoi:ops[i]? = some o:=by
   have:(ops.toList.drop i)[0]? = some o:=by rw [hdr]; rfl
   rw [List.getElem?_drop] at this
   simpa using this
  have hdr':ops.toList.drop (i + 1) = rest:=by
   have:(ops.toList.drop i).drop 1 = rest:=by rw [hdr]; rfl
   rwa [List.drop_drop] at this
  obtain ⟨h1,h2⟩:=dps_ok rest r (i + 1) hdr' hrr
  refine ⟨fun d hd' => ?_,fun j o' hj => ?_⟩
  ·rcases List.mem_cons.1 hd' with rfl | hd'
   ·exact ⟨Nat.le_refl _,o,hoi,hf,hok,rfl,hd,hg,rfl,rfl,rfl,rfl⟩
   ·obtain ⟨h3,h4⟩:=h1 d hd'
    exact ⟨by omega,h4⟩
  ·cases j with
   | zero => exact ⟨_,rfl,rfl⟩
   | succ j =>
    simp at hj
    obtain ⟨d,h3,h4⟩:=h2 j o' hj
    exact ⟨d,by simpa [dps] using h3,by omega⟩
section
variable {nt nm0:Nat} {ops:Array Oper} {ms es0:List Nat} {wr:Nat → Option Nat} {call:Cl} {e0:En}
noncomputable def obF (wr:Nat → Option Nat) (call:Cl) (e0 vs:En) (nm0:Nat) (d:Dp):Option Obj :=
 if d.c = 1 ∧ want d.st.g (envD wr d.m vs e0) = true then oB (d.st.f call (envD wr d.m vs e0) ⟨0,fun _ => none,[]⟩ (nm0 + d.i)) fun p => p.2.h (nm0 + d.i) else none
theorem tB_eq {γ:Type} (t:St) (k:Option (Nat × Bool) → Option Nat → F → γ):tB t k = k t.g t.d t.f:=by cases t; rfl
theorem evalD_eq (t:St) (e:En) (s:S) (nm:Nat):evalD call t e s nm = if want t.g e = true then t.f call e s nm else some (undef,s):=by
 unfold evalD
 rw [tB_eq,bB_ite]
theorem lay_at {d:Dp} {o:Oper} (hd:DpOk P nt ops ms es0 d o) (hc:d.c = 1) {vs:En} {s s':S} {v:Value} (h:evalD call d.st (envD wr d.m vs e0) s (nm0 + d.i) = some (v,s')) :
  (want d.st.g (envD wr d.m vs e0) = false ∧ s' = s ∧ v = undef ∧ obF wr call e0 vs nm0 d = none) ∨
  (want d.st.g (envD wr d.m vs e0) = true ∧ ∃ ob,isO ob ∧ obF wr call e0 vs nm0 d = some ob ∧ s' = ⟨s.c,setH s.h (nm0 + d.i) ob,s.ds⟩ ∧
   ∀ (φ:Ph) (a:Act) (w:World),EvR φ (envD wr d.m vs e0) a o.op → φ (nm0 + d.i) = none → ∃ o' n v',(∀ o2:Oper,o2.op = o.op → (execOp a.eval o2).run P w = .ok (.value v') (w.alloc o')) ∧
    V (upd φ (nm0 + d.i) ⟨w.heap.size,n⟩) v v' ∧ ∀ w':World,w'.heap[w.heap.size]? = some o' → OR (upd φ (nm0 + d.i) ⟨w.heap.size,n⟩) w' (nm0 + d.i) ob):=by
 rw [evalD_eq] at h
 by_cases hw:want d.st.g (envD wr d.m vs e0) = true
 ·rw [if_pos hw] at h
  rcases comp_cls hd.f with ⟨h0,_⟩ | ⟨_,hA⟩ | ⟨h0,_⟩
  ·rw [← hd.c,hc] at h0; cases h0
  ·obtain ⟨ob,hi,hall,hsim⟩:=hA call _ s _ v s' h
   have e1:=hall call s
   rw [h] at e1
   cases e1
   refine .inr ⟨hw,ob,hi,?_,rfl,hsim⟩
   unfold obF
   rw [if_pos ⟨hc,hw⟩,hall call]
   show setH (fun _ => none) (nm0 + d.i) ob (nm0 + d.i) = some ob
   rw [setH_get,if_pos rfl]
  ·rw [← hd.c,hc] at h0; cases h0
 ·rw [if_neg hw] at h
  cases h
  refine .inl ⟨by simpa using hw,rfl,rfl,?_⟩
  unfold obF
  rw [if_neg (fun h => hw h.2)]
theorem joinS_ok {vs:En} {k:Nat}:∀ (l:List Dp) (s s':S),joinS wr call e0 vs nm0 k l s = some s' → (∀ d ∈ l,∃ o,DpOk P nt ops ms es0 d o) →
  s'.c = s.c ∧ s'.ds = s.ds ∧ ∀ x o,s'.h x = some o → s.h x = some o ∨ ∃ d ∈ l,d.c = 1 ∧ d.hi = k ∧ x = nm0 + d.i ∧ obF wr call e0 vs nm0 d = some o
 | [],s,s',h,_ => by
  have h':some s = some s':=h
  cases h'
  exact ⟨rfl,rfl,fun x o hx => .inl hx⟩
 | d :: l,s,s',h,hl => by
  have h':(dB d fun i t m c _ hi => bB (Nat.beq c 1 && Nat.beq hi k) (bindS (evalD call t (envD wr m vs e0) s (Nat.add nm0 i)) fun _ s' => joinS wr call e0 vs nm0 k l s') (joinS wr call e0 vs nm0 k l s)) = some s':=h
  rw [dB_eq,bB_ite,beq_dec,beq_dec] at h'
  split at h'
  ·rename_i hc
   have hc':d.c = 1 ∧ d.hi = k:=by simpa using hc
   obtain ⟨⟨v,s1⟩,hv,h'⟩:=oB_some.1 h'
   rw [pB_mk] at h'
   obtain ⟨o,hd⟩:=hl d (by simp)
   obtain ⟨h1,h2,h3⟩:=joinS_ok l s1 s' h' fun d hd => hl d (by simp [hd])
   rcases lay_at hd hc'.1 hv with ⟨_,rfl,_,_⟩ | ⟨_,ob,_,hob,rfl,_⟩
   ·refine ⟨h1,h2,fun x o hx => ?_⟩
    rcases h3 x o hx with h | ⟨d',hd',h⟩
    ·exact .inl h
    ·exact .inr ⟨d',by simp [hd'],h⟩
   ·refine ⟨h1,h2,fun x o hx => ?_⟩
    rcases h3 x o hx with h | ⟨d',hd',h⟩
    ·have h':setH s.h (nm0 + d.i) ob x = some o:=h
     rw [setH_get] at h'
     split at h'
     ·rename_i e; cases h'; exact .inr ⟨d,by simp,hc'.1,hc'.2,e,hob⟩
     ·exact .inl h'
    ·exact .inr ⟨d',by simp [hd'],h⟩
  ·obtain ⟨h1,h2,h3⟩:=joinS_ok l s s' h' fun d hd => hl d (by simp [hd])
   refine ⟨h1,h2,fun x o hx => ?_⟩
   rcases h3 x o hx with h | ⟨d',hd',h⟩
   ·exact .inl h
   ·exact .inr ⟨d',by simp [hd'],h⟩
structure Stg (P:Program) (nt:Nat) (ops:Array Oper) (ms es0:List Nat) (wr:Nat → Option Nat) (call:Cl) (e0:En) (nm0:Nat) (ds:List Dp) (es:List Nat) (k:Nat) (vsF:En) (sF:S) (Sx Jx:Nat → S):Prop where
 last:Jx (k + es.length) = sF
 read:∀ j,k ≤ j → j ≤ k + es.length → ∀ d ∈ ds,d.c = 0 → d.lo ≤ j → j ≤ d.hi → ∃ v s2,vsF d.i = some v ∧ evalD call d.st (envD wr d.m vsF e0) (Sx j) (nm0 + d.i) = some (v,s2)
 free:∀ j,k ≤ j → j ≤ k + es.length → ∀ d ∈ ds,d.c = 1 → j ≤ d.hi → (Sx j).h (nm0 + d.i) = none
 join:∀ j,k ≤ j → j ≤ k + es.length → (Jx j).c = (Sx j).c ∧ (Jx j).ds = (Sx j).ds ∧ ∀ x o,(Jx j).h x = some o → (Sx j).h x = some o ∨ ∃ d ∈ ds,d.c = 1 ∧ d.hi = j ∧ x = nm0 + d.i ∧ obF wr call e0 vsF nm0 d = some o
 lays:∀ d ∈ ds,d.c = 1 → k ≤ d.lo → d.lo ≤ k + es.length → ∃ v s1 s2,vsF d.i = some v ∧ evalD call d.st (envD wr d.m vsF e0) s1 (nm0 + d.i) = some (v,s2)
 eff:∀ q e,es[q]? = some e → ∃ d ∈ ds,d.i = e ∧ ∃ v,vsF e = some v ∧ evalD call d.st (envD wr d.m vsF e0) (Jx (k + q)) (nm0 + e) = some (v,Sx (k + q + 1))
theorem stages_ok {n:Nat} {ds:List Dp} {vsF:En} {sF:S} (hds:∀ d ∈ ds,(∃ o,DpOk P nt ops ms es0 d o) ∧ ∀ j,tb d.m j = true → j < n) (hat:∀ e d,dpAt ds e = some d → d ∈ ds ∧ d.i = e) (hlo:∀ d ∈ ds,d.lo ≤ d.hi) :
  ∀ (es:List Nat) (k:Nat) (vs:En) (s:S),stages n wr call e0 nm0 ds es k vs s = some (vsF,sF) → (∀ d ∈ ds,d.c ≠ 2 → d.lo < k → SeenP d.m vs ∧ ∃ v,vs d.i = some v) →
   ∃ Sx Jx:Nat → S,Sx k = s ∧ SubV vs vsF ∧ Stg P nt ops ms es0 wr call e0 nm0 ds es k vsF sF Sx Jx:=by
 intro es
 induction es with
 | nil =>
  intro k vs s h hI
  have h':(oB (addS n wr call e0 nm0 k s ds vs) fun vs => guardB (chkS wr call e0 vs nm0 k s ds) (oB (joinS wr call e0 vs nm0 k ds s) fun s => some (vs,s))) = some (vsF,sF):=h
  obtain ⟨vs1,h1,h'⟩:=oB_some.1 h'
  rw [guardB_some] at h'
  obtain ⟨h2,h'⟩:=h'
  obtain ⟨s1,h3,h'⟩:=oB_some.1 h'
  cases h'
  obtain ⟨a1,a2⟩:=addS_ok ds vs vsF h1 fun d hd => (hds d hd).2
  have c1:=chkS_ok ds h2
  have j1:=joinS_ok ds s sF h3 fun d hd => (hds d hd).1
  refine ⟨fun _ => s,fun _ => sF,rfl,a1,rfl,?_,?_,?_,?_,?_⟩
  ·intro j hj1 hj2 d hd hc hlo hhi
   have hjk:j = k:=by simp at hj2; omega
   subst hjk
   rcases Nat.lt_or_ge d.lo j with hl | hl
   ·obtain ⟨s2,hs2⟩:=(c1 d hd).1 hc hl hhi
    obtain ⟨_,v,hv⟩:=hI d hd (by omega) hl
    have hv':=a1 _ _ hv
    rw [hv'] at hs2
    exact ⟨v,s2,hv',hs2⟩
   ·obtain ⟨_,v,s2,hv,he⟩:=a2 d hd (by omega) (by omega)
    exact ⟨v,s2,hv,he⟩
  ·intro j hj1 hj2 d hd hc hhi
   have hjk:j = k:=by simp at hj2; omega
   subst hjk
   exact (c1 d hd).2 hc hhi
  ·intro j hj1 hj2
   have hjk:j = k:=by simp at hj2; omega
   subst hjk
   exact j1
  ·intro d hd hc h5 h6
   obtain ⟨_,v,s2,hv,he⟩:=a2 d hd (by omega) (by simp at h6; omega)
   exact ⟨v,s,s2,hv,he⟩
  ·intro q e he; simp at he
 | cons e es ih =>
  intro k vs s h hI
  have h':(oB (addS n wr call e0 nm0 k s ds vs) fun vs => guardB (chkS wr call e0 vs nm0 k s ds) (oB (joinS wr call e0 vs nm0 k ds s) fun s => oB (dpAt ds e) fun d => dB d fun _ t m _ _ _ =>
   guardB (seen n m vs) (guardB ((vs e).isNone) (bindS (evalD call t (envD wr m vs e0) s (Nat.add nm0 e)) fun v s' => stages n wr call e0 nm0 ds es (Nat.succ k) (setE vs e v) s')))) = some (vsF,sF):=h
  obtain ⟨vs1,h1,h'⟩:=oB_some.1 h'
  rw [guardB_some] at h'
  obtain ⟨h2,h'⟩:=h'
  obtain ⟨s1,h3,h'⟩:=oB_some.1 h'
  obtain ⟨de,hde,h'⟩:=oB_some.1 h'
  rw [dB_eq,guardB_some,guardB_some] at h'
  obtain ⟨h4,h5,h'⟩:=h'
  obtain ⟨⟨v,s2⟩,h6,h'⟩:=oB_some.1 h'
  rw [pB_mk] at h'
  obtain ⟨hdm,hdi⟩:=hat e de hde
  obtain ⟨a1,a2⟩:=addS_ok ds vs vs1 h1 fun d hd => (hds d hd).2
  have c1:=chkS_ok ds h2
  have hn:vs1 e = none:=by simpa using h5
  have hsub1:SubV vs1 (setE vs1 e v):=SubV.set hn
  obtain ⟨Sx,Jx,hS0,hsub2,hst⟩:=ih (k + 1) (setE vs1 e v) s2 h' (by
   intro d hd hc hlo
   rcases Nat.lt_or_ge d.lo k with hl | hl
   ·obtain ⟨p1,u,p2⟩:=hI d hd hc hl
    exact ⟨p1.mono (a1.trans hsub1),u,hsub1 _ _ (a1 _ _ p2)⟩
   ·obtain ⟨p1,u,_,p2,_⟩:=a2 d hd hc (by omega)
    exact ⟨p1.mono hsub1,u,hsub1 _ _ p2⟩)
  have hsubF:SubV vs1 vsF:=hsub1.trans hsub2
  have envEq:∀ d:Dp,SeenP d.m vs1 → envD wr d.m vs1 e0 = envD wr d.m vsF e0:=fun d hd => envD_sub hd hsubF
  have seenOf:∀ d ∈ ds,d.c ≠ 2 → d.lo ≤ k → SeenP d.m vs1 ∧ ∃ u,vs1 d.i = some u:=by
   intro d hd hc hlo
   rcases Nat.lt_or_ge d.lo k with hl | hl
   ·obtain ⟨p1,u,p2⟩:=hI d hd hc hl
    exact ⟨p1.mono a1,u,a1 _ _ p2⟩
   ·obtain ⟨p1,u,_,p2,_⟩:=a2 d hd hc (by omega)
    exact ⟨p1,u,p2⟩
  have j0:=joinS_ok ds s s1 h3 fun d hd => (hds d hd).1
  have obEq:∀ d ∈ ds,d.c = 1 → d.lo ≤ k → obF wr call e0 vs1 nm0 d = obF wr call e0 vsF nm0 d:=by
   intro d hd hc hlo
   unfold obF
   rw [envEq d (seenOf d hd (by omega) hlo).1]
  have hlohi:∀ d ∈ ds,d.hi = k → d.c = 1 → d.lo ≤ k:=fun d hd h _ => h ▸ hlo d hd
  refine ⟨fun j => if j = k then s else Sx j,fun j => if j = k then s1 else Jx j,by simp,a1.trans hsubF,?_,?_,?_,?_,?_,?_⟩
  ·have:=hst.last
   simp only [List.length_cons]
   rw [if_neg (by omega),← this]
   congr 1; omega
  ·intro j hj1 hj2 d hd hc hlo hhi
   simp only [List.length_cons] at hj2
   by_cases hjk:j = k
   ·subst hjk
    rw [if_pos rfl]
    obtain ⟨p1,u,p2⟩:=seenOf d hd (by omega) hlo
    rw [← envEq d p1]
    rcases Nat.lt_or_ge d.lo j with hl | hl
    ·obtain ⟨s3,hs3⟩:=(c1 d hd).1 hc hl hhi
     rw [p2] at hs3
     exact ⟨u,s3,hsubF _ _ p2,hs3⟩
    ·obtain ⟨_,u',s3,hv,he⟩:=a2 d hd (by omega) (by omega)
     exact ⟨u',s3,hsubF _ _ hv,he⟩
   ·rw [if_neg hjk]
    exact hst.read j (by omega) (by omega) d hd hc hlo hhi
  ·intro j hj1 hj2 d hd hc hhi
   simp only [List.length_cons] at hj2
   by_cases hjk:j = k
   ·subst hjk
    rw [if_pos rfl]
    exact (c1 d hd).2 hc hhi
   ·rw [if_neg hjk]
    exact hst.free j (by omega) (by omega) d hd hc hhi
  ·intro j hj1 hj2
   simp only [List.length_cons] at hj2
   by_cases hjk:j = k
   ·subst hjk
    rw [if_pos rfl,if_pos rfl]
    refine ⟨j0.1,j0.2.1,fun x o hx => ?_⟩
    rcases j0.2.2 x o hx with hh | ⟨d,hd,p1,p2,p3,p4⟩
    ·exact .inl hh
    ·exact .inr ⟨d,hd,p1,p2,p3,by rw [← obEq d hd p1 (hlohi d hd p2 p1)]; exact p4⟩
   ·rw [if_neg hjk,if_neg hjk]
    exact hst.join j (by omega) (by omega)
  ·intro d hd hc h7 h8
   simp only [List.length_cons] at h8
   rcases Nat.lt_or_ge k d.lo with hl | hl
   ·exact hst.lays d hd hc (by omega) (by omega)
   ·obtain ⟨p1,u,s3,hv,he⟩:=a2 d hd (by omega) (by omega)
    rw [envEq d p1] at he
    exact ⟨u,s,s3,hsubF _ _ hv,he⟩
  ·intro q e' he'
   cases q with
   | zero =>
    simp at he'
    subst he'
    refine ⟨de,hdm,hdi,v,hsub2 _ _ (by rw [setE_get,if_pos rfl]),?_⟩
    have hsP:=seen_P h4 (hds de hdm).2
    rw [← envEq de hsP]
    simp only [Nat.add_zero]
    rw [if_pos trivial,if_neg (by omega),hS0]
    exact h6
   | succ q =>
    simp at he'
    obtain ⟨d,hd,p1,u,p2,p3⟩:=hst.eff q e' he'
    refine ⟨d,hd,p1,u,p2,?_⟩
    rw [if_neg (by omega),if_neg (by omega)]
    rw [show k + (q + 1) = k + 1 + q by omega]
    exact p3
end
end Xe
namespace Xe
variable {P:Program}
theorem effs_mem {ops:List Oper}:∀ {i e:Nat},e ∈ effs ops i ↔ ∃ j o,e = i + j ∧ ops[j]? = some o ∧ cls o.op = 2:=by
 induction ops with
 | nil => intro i e; simp [effs]
 | cons o l ih =>
  intro i e
  have e1:effs (o :: l) i = bB (Nat.beq (cls o.op) 2) (i :: effs l (i + 1)) (effs l (i + 1)):=rfl
  rw [e1,bB_ite,beq_dec]
  constructor
  ·intro h
   split at h
   ·rename_i hc
    rcases List.mem_cons.1 h with rfl | h
    ·exact ⟨0,o,by omega,rfl,by simpa using hc⟩
    ·obtain ⟨j,o',h1,h2,h3⟩:=ih.1 h
     exact ⟨j + 1,o',by omega,by simpa using h2,h3⟩
   ·obtain ⟨j,o',h1,h2,h3⟩:=ih.1 h
    exact ⟨j + 1,o',by omega,by simpa using h2,h3⟩
  ·rintro ⟨j,o',h1,h2,h3⟩
   cases j with
   | zero =>
    simp at h2; subst h2
    rw [if_pos (by simpa using h3)]
    simp; omega
   | succ j =>
    simp at h2
    have:=ih.2 ⟨j,o',(by omega:e = i + 1 + j),h2,h3⟩
    split
    ·exact List.mem_cons_of_mem _ this
    ·exact this
theorem writer_some {t:Nat}:∀ {ops:List Oper} {i j:Nat},writer t ops i = some j → ∃ q o,j = i + q ∧ ops[q]? = some o ∧ o.dst = some t
 | [],_,_,h => by cases h
 | o :: l,i,j,h => by
  have h':bB (eqN o.dst (some t)) (some i) (writer t l (i + 1)) = some j:=h
  rw [bB_ite] at h'
  split at h'
  ·rename_i hc; cases h'; exact ⟨0,o,rfl,rfl,eqN_eq hc⟩
  ·obtain ⟨q,o',h1,h2,h3⟩:=writer_some h'
   exact ⟨q + 1,o',by omega,by simpa using h2,h3⟩
theorem writer_none {t:Nat}:∀ {ops:List Oper} {i:Nat},writer t ops i = none → ∀ (q:Nat) o,ops[q]? = some o → o.dst ≠ some t
 | [],_,_,q,o,ho => by simp at ho
 | o :: l,i,h,q,o',ho => by
  have h':bB (eqN o.dst (some t)) (some i) (writer t l (i + 1)) = none:=h
  rw [bB_ite] at h'
  split at h'
  ·cases h'
  ·rename_i hc
   cases q with
   | zero => simp at ho; subst ho; intro hd; rw [hd,eqN_self] at hc; exact hc rfl
   | succ q => simp at ho; exact writer_none h' q o' ho
theorem chain_at {ms:List Nat}:∀ {es:List Nat},chainOk ms es = true → ∀ (a b x y:Nat),a < b → es[a]? = some x → es[b]? = some y → tb (mAt ms y) x = true
 | [],_,a,b,x,y,_,hx,_ => by simp at hx
 | e :: l,h,a,b,x,y,hab,hx,hy => by
  have h':(l.all (fun f => tb (mAt ms f) e) && chainOk ms l) = true:=h
  rw [Bool.and_eq_true,List.all_eq_true] at h'
  cases b with
  | zero => omega
  | succ b =>
   simp at hy
   cases a with
   | zero => simp at hx; subst hx; exact h'.1 y (List.mem_of_getElem? hy)
   | succ a => simp at hx; exact chain_at h'.2 a b x y (by omega) hx hy
theorem wanted_at {φ:Ph} {e:En} {a:Act} {ops:Array Oper} {o:Oper} {g:Option (Nat × Bool)} (hE:∀ d,d ∈ o.looksAt ops → V φ (getE (e d)) (a.tmps.getD d undef)) (hg:guardOf ops.toList o = some g):Region.wanted o (yielded ops a.tmps) = want g e:=by
 unfold guardOf at hg
 unfold Region.wanted
 split at hg
 ·rename_i h0; cases hg; rw [h0]; rfl
 ·rename_i j b h0
  obtain ⟨og,ho,hg⟩:=oB_some.1 hg
  obtain ⟨d,hd,hg⟩:=oB_some.1 hg
  cases hg
  rw [nth_eq] at ho
  have ho':ops[j]? = some og:=by simpa using ho
  have hv:=hE d (by unfold Oper.looksAt; rw [h0]; simp [ho',hd])
  rw [h0]
  show (yielded ops a.tmps j == some b) = isB (getE (e d)) b
  rw [Bool.eq_iff_iff,isB_eq,beq_iff_eq]
  unfold yielded
  simp only [ho',Option.bind_some,hd]
  constructor
  ·intro h
   split at h
   ·rename_i x hx
    cases h
    rw [Array.getD_eq_getD_getElem?,hx] at hv
    exact V_isBool hv
   ·cases h
  ·intro h
   rw [h] at hv
   have hv':=V_bool hv
   rw [Array.getD_eq_getD_getElem?] at hv'
   cases hx:a.tmps[d]? with
   | none => rw [hx] at hv'; cases hv'
   | some y =>
    rw [hx] at hv'
    simp only [Option.getD_some] at hv'
    subst hv'
    rfl
theorem eff_wp (hN:NameOk P) {call:Cl} (hC:CallOk P call) {o:Oper} {f:F} (hf:comp P o.op = some f) (hcls:cls o.op = 2) {e:En} {s s':S} {nm:Nat} {v:Value}
  (h:f call e s nm = some (v,s')) {φ:Ph} {a:Act} {w:World} (hE:EvR φ e a o.op) (hS:Stt φ s w) (hdf:L (DR φ) s.ds a.defers) (K:Act → World → Prop) (Q:Exit → Act → World → Prop)
  (hK:∀ φ' v' w' df,V φ' v v' → Post φ s w φ' s' w' → L (DR φ') s'.ds df → K (({ a with defers:=df }:Act).put o.dst v') w'):o.wp P a w K Q:=by
 rcases comp_cls hf with ⟨h0,_⟩ | ⟨h0,_⟩ | ⟨_,hEf | ⟨c,g,hop,hcal,rfl⟩ | ⟨c,g,hop,hcal,rfl⟩⟩
 ·rw [hcls] at h0; cases h0
 ·rw [hcls] at h0; cases h0
 ·obtain ⟨hds,hEf⟩:=hEf call e s nm v s' h
  obtain ⟨φ',v',w',hv,hP,hrun⟩:=hEf φ a w hE hS
  have key:=hK φ' v' w' a.defers hv hP (by rw [hds]; exact hdf.mono fun _ _ => DR.mono hP.ext.sub)
  unfold Oper.wp
  rcases hrun o rfl with hr | ⟨rfl,hr⟩ <;> rw [hr] <;> exact key
 ·obtain ⟨⟨g',as'⟩,hcl,h⟩:=oB_some.1 h
  rw [pB_mk] at h
  obtain ⟨hds,hbd,hcall⟩:=hC g' as' s v s' h
  rw [hop] at hE
  obtain ⟨cap',ar',hres,hL⟩:=resolve_sim hcal hE hcl o.type
  have hexec:(execOp a.eval o).run P w = .ok (.enter g' (ar' ++ cap')) w:=by
   simp only [execOp,hop,hres]
   simp [invoke,run_callFunc hN hbd]
  unfold Oper.wp
  rw [hexec]
  refine Calls.mono (hcall φ w (ar' ++ cap') hL hS) ?_
  rintro e1 w' ⟨φ',v',rfl,hv,hP⟩
  exact hK φ' v' w' a.defers hv hP (by rw [hds]; exact hdf.mono fun _ _ => DR.mono hP.ext.sub)
 ·obtain ⟨⟨g',as'⟩,hcl,h⟩:=oB_some.1 h
  rw [sB_eq] at h
  cases h
  rw [hop] at hE
  obtain ⟨cap',ar',hres,hL⟩:=resolve_sim (c:=c) hcal hE hcl o.type
  have hexec:(execOp a.eval o).run P w = .ok (.defer { target:=.fn (.func g') cap',args:=ar' }) w:=by
   simp only [execOp,hop,hres]
   rfl
  unfold Oper.wp
  rw [hexec]
  exact hK φ undef w ({ target:=.fn (.func g') cap',args:=ar' } :: a.defers) (V.undef φ) ⟨⟨hS.rel,hS.fr⟩,Ext.refl φ _ w,Nat.le_refl _,fun _ h0 h1 => (h1 h0).elim,fun _ hx => .inl hx⟩ ⟨⟨cap',rfl,hL⟩,hdf⟩
noncomputable def wrO (ops:Array Oper):Nat → Option Nat:=fun t => writer t ops.toList 0
structure Ctx (P:Program) (nt:Nat) (ops:Array Oper) (ms es:List Nat) (call:Cl) (e0:En) (nm0:Nat) (ds:List Dp) (vsF:En) (sF:S) (Sx Jx:Nat → S):Prop where
 st:DSt ops ms
 edge:∀ (i:Nat) (o:Oper),ops[i]? = some o → ∀ e ∈ o.after,Region.binds .any e = true → tb (mAt ms i) e.on = true
 ches:chainOk ms es = true
 esm:∀ e,e ∈ es ↔ ∃ o,ops[e]? = some o ∧ cls o.op = 2
 dok:∀ d ∈ ds,∃ o,DpOk P nt ops ms es d o
 dat:∀ i o,ops[i]? = some o → ∃ d ∈ ds,d.i = i
 uni:∀ d ∈ ds,∀ d' ∈ ds,d.i = d'.i → d = d'
 all:∀ i,i < ops.size → ∃ v,vsF i = some v
 stg:Stg P nt ops ms es (wrO ops) call e0 nm0 ds es 0 vsF sF Sx Jx
def on (listed:Array Bool) (j:Nat):Bool:=listed.getD j false
noncomputable def envL (ops:Array Oper) (e0 vsF:En) (listed:Array Bool):En:=fun t => match writer t ops.toList 0 with
 | none => e0 t
 | some j => if on listed j = true then vsF j else e0 t
structure Inv (ops:Array Oper) (nt:Nat) (ms es:List Nat) (call:Cl) (e0:En) (nm0:Nat) (ds:List Dp) (vsF:En) (Sx:Nat → S) (φ0:Ph) (h0:Hp) (w0:World) (listed:Array Bool) (k:Nat) (a:Act) (w:World) (φ:Ph) (h:Hp):Prop where
 sz:listed.size = ops.size
 down:∀ j,on listed j = true → ∀ i,tb (mAt ms j) i = true → on listed i = true
 cnt:countB (on listed) es = k
 rel:Rel φ h w
 hA:∀ x o,(Sx k).h x = some o → isO o → h x = some o
 hB:∀ d ∈ ds,d.c = 1 → on listed d.i = true → k ≤ d.hi → ∀ o,obF (wrO ops) call e0 vsF nm0 d = some o → h (nm0 + d.i) = some o
 cle:nm0 + ops.size ≤ (Sx k).c
 fr:∀ x,(Sx k).c ≤ x → φ x = none
 kept:∀ i,i < ops.size → on listed i = false → φ (nm0 + i) = none
 tsz:a.tmps.size = nt
 env:∀ t,V φ (getE (envL ops e0 vsF listed t)) (a.tmps.getD t undef)
 dfs:L (DR φ) (Sx k).ds a.defers
 ext:Ext φ0 h0 w0 φ w
 new:∀ x,φ0 x = none → φ x ≠ none → nm0 ≤ x
 liv:∀ x,live h x → live h0 x ∨ φ0 x = none
end Xe
end Go.Proofs.YtbioaoangfiijaaGreatDoor

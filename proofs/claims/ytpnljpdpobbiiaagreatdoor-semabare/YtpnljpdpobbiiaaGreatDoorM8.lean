/- Regions whose order is drawn: whole. -/
import Derived.Test.YtpnljpdpobbiiaaGreatDoorM7
import Derived.Shelf.Small.Strs
import Derived.Shelf.LaysM
import Derived.Shelf.Strconv.Clone
import Derived.Shelf.Strings.Search1
import Derived.Shelf.Slices.Turned
import Derived.Test.YtpnljpdpobbiiaaGreatDoorProg
namespace Go.Proofs.YtpnljpdpobbiiaaGreatDoor
namespace Xe
variable {P:Program}
section
variable {nt nm0 k:Nat} {ops:Array Oper} {ms es:List Nat} {call:Cl} {e0 vsF:En} {ds:List Dp} {sF:S} {Sx Jx:Nat → S} {φ0 φ:Ph} {h0 h:Hp} {w0 w:World} {listed:Array Bool} {a:Act} {i:Nat} {o:Oper} {d:Dp}
theorem pre_of (C:Ctx P nt ops ms es call e0 nm0 ds vsF sF Sx Jx) (hdown:∀ j,on listed j = true → ∀ i,tb (mAt ms j) i = true → on listed i = true) :
  ∀ (a b x y:Nat),a < b → es[a]? = some x → es[b]? = some y → on listed y = true → on listed x = true :=
 fun a b x y hab hx hy h => hdown y h x (chain_at C.ches a b x y hab hx hy)
theorem join_sub (C:Ctx P nt ops ms es call e0 nm0 ds vsF sF Sx Jx) (I:Inv ops nt ms es call e0 nm0 ds vsF Sx φ0 h0 w0 listed k a w φ h) (hl:∀ d ∈ ds,d.c = 1 → d.hi = k → on listed d.i = true) :
  ∀ x o,(Jx k).h x = some o → isO o → h x = some o:=by
 intro x o hx hio
 have hk:k ≤ es.length:=by rw [← I.cnt]; exact countB_len
 rcases (C.stg.join k (Nat.zero_le _) (by omega)).2.2 x o hx with h1 | ⟨d,hd,hc,hhi,rfl,hob⟩
 ·exact I.hA x o h1 hio
 ·exact I.hB d hd hc (hl d hd hc hhi) (by omega) o hob
theorem at_k (C:Ctx P nt ops ms es call e0 nm0 ds vsF sF Sx Jx) (I:Inv ops nt ms es call e0 nm0 ds vsF Sx φ0 h0 w0 listed k a w φ h) (hi:on listed i = false) (hcl:∀ j,tb (mAt ms i) j = true → on listed j = true) (hie:i ∈ es):es[k]? = some i:=by
 obtain ⟨q,hq⟩:=List.getElem?_of_mem hie
 have h1:=countB_prefix (pre_of C I.down) q i hq
 rw [I.cnt,hi] at h1
 have hqk:¬ q < k:=fun h => by have:=h1.2 h; cases this
 rcases Nat.lt_or_ge k q with hlt | hge
 ·have hql:=(List.getElem?_eq_some_iff.1 hq).1
  have hx:es[k]? = some (es[k]'(by omega)):=List.getElem?_eq_getElem _
  have h2:=countB_prefix (pre_of C I.down) k _ hx
  rw [I.cnt] at h2
  have:=h2.1 (hcl _ (chain_at C.ches k q _ i hlt hx hq))
  omega
 ·rw [show k = q by omega]; exact hq
theorem join_listed (C:Ctx P nt ops ms es call e0 nm0 ds vsF sF Sx Jx) (hcl:∀ j,tb (mAt ms i) j = true → on listed j = true) (hk:es[k]? = some i):∀ d ∈ ds,d.c = 1 → d.hi = k → on listed d.i = true:=by
 intro d hd _ hhi
 obtain ⟨o,hd'⟩:=C.dok d hd
 refine hcl _ ?_
 have hpre:∀ (a b x y:Nat),a < b → es[a]? = some x → es[b]? = some y → (fun e => not' (tb (mAt ms e) d.i)) y = true → (fun e => not' (tb (mAt ms e) d.i)) x = true:=by
  intro a b x y hab hx hy hn
  obtain ⟨ox,hox,_⟩:=(C.esm x).1 (List.mem_of_getElem? hx)
  obtain ⟨oy,hoy,_⟩:=(C.esm y).1 (List.mem_of_getElem? hy)
  have h1:=not_true' hn
  cases h2:tb (mAt ms x) d.i with
  | true =>
   have:=C.st.trans y x oy ox hoy hox (chain_at C.ches a b x y hab hx hy) d.i h2
   rw [h1] at this; cases this
  | false => show not' (tb (mAt ms x) d.i) = true; rw [h2]; rfl
 have h1:=countB_prefix hpre k i hk
 rw [← hd'.hi,hhi] at h1
 cases h2:tb (mAt ms i) d.i with
 | true => rfl
 | false =>
  have:=h1.1 (by show not' (tb (mAt ms i) d.i) = true; rw [h2]; rfl)
  omega
def Pend (ds:List Dp) (listed:Array Bool) (nm0 k x:Nat):Prop:=∃ d ∈ ds,d.c = 1 ∧ on listed d.i = true ∧ k + 1 ≤ d.hi ∧ x = nm0 + d.i
open Classical in
theorem inv_eff (C:Ctx P nt ops ms es call e0 nm0 ds vsF sF Sx Jx) (I:Inv ops nt ms es call e0 nm0 ds vsF Sx φ0 h0 w0 listed k a w φ h) (r0:Rel φ0 h0 w0) (ho:ops[i]? = some o) (hcl:∀ j,tb (mAt ms i) j = true → on listed j = true)
  (hd:DpOk P nt ops ms es d o) (hdi:d.i = i) (hdm:d ∈ ds) (hc2:d.c = 2) (hk:es[k]? = some i) {φ':Ph} {w':World} {v v':Value} {df:List Deferred} (hv:vsF i = some v) (hV:V φ' v v') (hP:Post φ (Jx k) w φ' (Sx (k + 1)) w') (hdf:L (DR φ') (Sx (k + 1)).ds df) :
  ∃ h',Inv ops nt ms es call e0 nm0 ds vsF Sx φ0 h0 w0 (listed.setIfInBounds i true) (k + 1) (({ a with defers:=df }:Act).put o.dst v') w' φ' h':=by
 have hlt':i < ops.size:=(Array.getElem?_eq_some_iff.1 ho).1
 have hlt:i < listed.size:=by rw [I.sz]; exact hlt'
 have hkl:k < es.length:=(List.getElem?_eq_some_iff.1 hk).1
 obtain ⟨jc,jd,jh⟩:=C.stg.join k (Nat.zero_le _) (by omega)
 have hJ:=join_sub C I (join_listed C hcl hk)
 have hJl:∀ x,live (Jx k).h x → live h x:=fun x ⟨o,h1,h2⟩ => ⟨o,hJ x o h1 h2,h2⟩
 have pdead:∀ x,Pend ds listed nm0 k x → ¬ live (Jx k).h x:=by
  rintro x ⟨d1,hd1,hc1,hl1,hh1,rfl⟩ ⟨o2,h2,_⟩
  rcases jh _ o2 h2 with h3 | ⟨d2,hd2,_,hh2,he2,_⟩
  ·have:=C.stg.free k (Nat.zero_le _) (by omega) d1 hd1 hc1 (by omega)
   rw [this] at h3; cases h3
  ·have:=C.uni d1 hd1 d2 hd2 (by omega)
   subst this; omega
 have hsub:=hP.ext.sub
 refine ⟨fun x => if Pend ds listed nm0 k x then h x else (Sx (k + 1)).h x,?_⟩
 have hp:∀ x o,(if Pend ds listed nm0 k x then h x else (Sx (k + 1)).h x) = some o → (Pend ds listed nm0 k x ∧ h x = some o) ∨ (¬ Pend ds listed nm0 k x ∧ (Sx (k + 1)).h x = some o):=by
  intro x o hx
  by_cases hh:Pend ds listed nm0 k x
  ·rw [if_pos hh] at hx; exact .inl ⟨hh,hx⟩
  ·rw [if_neg hh] at hx; exact .inr ⟨hh,hx⟩
 have hpl:∀ x,live (fun x => if Pend ds listed nm0 k x then h x else (Sx (k + 1)).h x) x → (Pend ds listed nm0 k x ∧ live h x) ∨ (¬ Pend ds listed nm0 k x ∧ live (Sx (k + 1)).h x):=by
  rintro x ⟨o,h1,h2⟩
  rcases hp x o h1 with ⟨h3,h4⟩ | ⟨h3,h4⟩
  ·exact .inl ⟨h3,o,h4,h2⟩
  ·exact .inr ⟨h3,o,h4,h2⟩
 -- one stands over,one is new
 have two:∀ x y g g',Pend ds listed nm0 k x → live h x → live (Sx (k + 1)).h y → φ' x = some g → φ' y = some g' → g.b = g'.b → x = y:=by
  intro x y g g' hx hlx hly hgx hgy he
  obtain ⟨g0,hg0⟩:=I.rel.has hlx
  have e0:=hsub x g0 hg0
  rw [hgx] at e0; cases e0
  rcases hP.liv y hly with h1 | h1
  ·obtain ⟨g1,hg1⟩:=I.rel.has (hJl y h1)
   have e1:=hsub y g1 hg1
   rw [hgy] at e1; cases e1
   exact I.rel.inj x y g g' hlx (hJl y h1) hg0 hg1 he
  ·rcases hP.ext.news y g' h1 hgy with h2 | ⟨z,gz,_,hz,hgz,hez⟩
   ·have:=I.rel.bnd x g hg0; omega
   ·have hzx:=I.rel.inj z x gz g (hJl z hz) hlx hgz hg0 (hez.trans he.symm)
    subst hzx
    exact absurd hz (pdead z hx)
 refine ⟨by simp [I.sz],down_set hlt I.down hcl,?_,⟨?_,?_,hP.stt.rel.bnd,hP.stt.rel.glo⟩,?_,?_,?_,hP.stt.fr,?_,?_,?_,?_,?_,?_,?_⟩
 ·have hpre:=pre_of C (down_set hlt I.down hcl)
  have h1:=(countB_prefix hpre k i hk).1 (by rw [on_set hlt]; simp)
  rcases Nat.lt_or_ge (k + 1) es.length with hl | hl
  ·have hx:es[k + 1]? = some (es[k + 1]'hl):=List.getElem?_eq_getElem _
   have h2:=countB_prefix hpre (k + 1) _ hx
   have h3:=countB_prefix (pre_of C I.down) (k + 1) _ hx
   rw [I.cnt] at h3
   have h4:on listed (es[k + 1]'hl) = false:=by
    cases hb:on listed (es[k + 1]'hl) with
    | true => have:=h3.1 hb; omega
    | false => rfl
   have hne:es[k + 1]'hl ≠ i:=by
    intro he
    have:=C.st.lt i o ho i (by have:=chain_at C.ches k (k + 1) i _ (by omega) hk hx; rwa [he] at this)
    omega
   rw [on_set hlt,h4,decide_eq_false hne] at h2
   have h5:¬ k + 1 < countB (on (listed.setIfInBounds i true)) es:=fun hh => by have:=h2.2 hh; cases this
   omega
  ·have:=countB_len (p:=on (listed.setIfInBounds i true)) (l:=es)
   omega
 ·intro x o2 hx
  rcases hp x o2 hx with ⟨h3,h4⟩ | ⟨h3,h4⟩
  ·by_cases hio:isO o2
   ·refine (I.rel.obj x o2 h4).mono hsub fun g hg => hP.ext.kept g.b (I.rel.bnd x g hg) ?_
    intro y gy _ hy hgy he
    have:=I.rel.inj y x gy g (hJl y hy) ⟨o2,h4,hio⟩ hgy hg he
    subst this
    exact pdead y h3 hy
   ·cases o2 <;> simp only [isO,not_true_eq_false] at hio <;> exact trivial
  ·exact hP.stt.rel.obj x o2 h4
 ·intro x y g g' hx hy hgx hgy he
  rcases hpl x hx with ⟨h1,h2⟩ | ⟨h1,h2⟩ <;> rcases hpl y hy with ⟨h3,h4⟩ | ⟨h3,h4⟩
  ·obtain ⟨gx,hgx0⟩:=I.rel.has h2
   obtain ⟨gy,hgy0⟩:=I.rel.has h4
   have e1:=hsub x gx hgx0
   have e2:=hsub y gy hgy0
   rw [hgx] at e1; rw [hgy] at e2
   cases e1; cases e2
   exact I.rel.inj x y g g' h2 h4 hgx0 hgy0 he
  ·exact two x y g g' h1 h2 h4 hgx hgy he
  ·exact (two y x g' g h3 h4 h2 hgy hgx he.symm).symm
  ·exact hP.stt.rel.inj x y g g' h2 h4 hgx hgy he
 ·intro x o2 hx hio
  show (if Pend ds listed nm0 k x then h x else (Sx (k + 1)).h x) = some o2
  by_cases hh:Pend ds listed nm0 k x
  ·obtain ⟨d1,hd1,hc1,hl1,hh1,rfl⟩:=hh
   have:=C.stg.free (k + 1) (Nat.zero_le _) (by omega) d1 hd1 hc1 hh1
   rw [this] at hx; cases hx
  ·rw [if_neg hh]; exact hx
 ·intro d1 hd1 hc1 hl1 hh1 o2 ho2
  have hne:d1.i ≠ i:=by
   intro e
   have:=C.uni d1 hd1 d hdm (by rw [e,hdi])
   subst this; omega
  rw [on_set hlt,decide_eq_false hne,Bool.false_or] at hl1
  show (if Pend ds listed nm0 k (nm0 + d1.i) then h (nm0 + d1.i) else _) = some o2
  rw [if_pos ⟨d1,hd1,hc1,hl1,hh1,rfl⟩]
  exact I.hB d1 hd1 hc1 hl1 (by omega) o2 ho2
 ·have:=hP.le
  have:=I.cle
  omega
 ·intro j hj hl
  rw [on_set hlt,Bool.or_eq_false_iff] at hl
  by_cases h1:φ' (nm0 + j) = none
  ·exact h1
  ·have:=hP.new _ (I.kept j hj hl.2) h1
   have:=I.cle
   omega
 ·exact (put_size a df o.dst v').trans I.tsz
 ·exact env_put C ho hd.dok I.tsz I.sz hv hV (fun t => (I.env t).mono hsub) df
 ·rw [put_defers]; exact hdf
 ·exact I.ext.trans hP.ext (fun x hx => I.liv x (hJl x hx)) (fun x hx => r0.has hx) (fun x hx => I.rel.has (hJl x hx))
 ·intro x h1 h2
  by_cases h3:φ x = none
  ·have:=hP.new x h3 h2
   have:=I.cle
   omega
  ·exact I.new x h1 h3
 ·intro x hx
  rcases hpl x hx with ⟨_,h2⟩ | ⟨_,h2⟩
  ·exact I.liv x h2
  ·rcases hP.liv x h2 with h3 | h3
   ·exact I.liv x (hJl x h3)
   ·cases h4:φ0 x with
    | none => exact .inr rfl
    | some g => rw [I.ext.sub x g h4] at h3; cases h3
end
end Xe
namespace Xe
variable {P:Program}
section
variable {nt nm0 k:Nat} {ops:Array Oper} {ms es:List Nat} {call:Cl} {e0 vsF:En} {ds:List Dp} {sF:S} {Sx Jx:Nat → S} {φ0 φ:Ph} {h0 h:Hp} {w0 w:World} {listed:Array Bool} {a:Act} {i:Nat} {o:Oper} {d:Dp}
theorem step_any (hN:NameOk P) (hC:CallOk P call) (C:Ctx P nt ops ms es call e0 nm0 ds vsF sF Sx Jx) (I:Inv ops nt ms es call e0 nm0 ds vsF Sx φ0 h0 w0 listed k a w φ h) (r0:Rel φ0 h0 w0) (hi:i ∈ Region.ready .any ops listed)
  {K:Act → World → Prop} {Q:Exit → Act → World → Prop} (hK:∀ k' a' w' φ' h',Inv ops nt ms es call e0 nm0 ds vsF Sx φ0 h0 w0 (listed.setIfInBounds i true) k' a' w' φ' h' → K a' w'):wpOp P ops Q i K a w:=by
 obtain ⟨o,ho,hlt,hil,hcl⟩:=ready_of C I hi
 obtain ⟨d,hdm,hdi⟩:=C.dat i o ho
 obtain ⟨o',hd⟩:=C.dok d hdm
 have hoo:o' = o:=by have:=hd.op; rw [hdi,ho] at this; cases this; rfl
 subst hoo
 obtain ⟨hlo,hhi⟩:=lo_hi I hil hcl hd hdi
 have hkl:k ≤ es.length:=by rw [← I.cnt]; exact countB_len
 have hlook:=env_look C I ho hil hcl
 have hm:d.m = mAt ms i:=by rw [hd.m,hdi]
 have hE:=evR_look hd.ok I.rel.glo hlook
 have hwant:=wanted_at hlook hd.g
 rw [← hm] at hE hwant
 unfold wpOp
 rw [ho]
 show (if Region.wanted o' (yielded ops a.tmps) = true then _ else _)
 rw [hwant]
 have hc3:d.c = 0 ∨ d.c = 1 ∨ d.c = 2:=by
  rw [hd.c]
  rcases comp_cls hd.f with ⟨h0,_⟩ | ⟨h0,_⟩ | ⟨h0,_⟩ <;> simp [h0]
 rcases hc3 with hc | hc | hc
 ·obtain ⟨v,s2,hv,hev⟩:=C.stg.read k (Nat.zero_le _) (by omega) d hdm hc hlo hhi
  rw [evalD_eq] at hev
  rw [hdi] at hv
  have same:∀ v',V φ v v' → Inv ops nt ms es call e0 nm0 ds vsF Sx φ0 h0 w0 (listed.setIfInBounds i true) k (a.put o'.dst v') w φ h:=fun v' hV =>
   inv_same C I ho hcl hdm hd hdi (by omega) hv hV (Sub.refl φ) I.rel I.hA (fun h1 => by omega) (fun _ _ => rfl) (fun _ _ => rfl) I.ext I.liv
  by_cases hw:want d.st.g (envD (wrO ops) d.m vsF e0) = true
  ·rw [if_pos hw] at hev ⊢
   refine .inl ?_
   rcases comp_cls hd.f with ⟨_,hR⟩ | ⟨h1,_⟩ | ⟨h1,_⟩
   ·obtain ⟨_,hR⟩:=hR call _ _ _ v s2 hev
    obtain ⟨v',hV,hrun⟩:=hR φ a w hE (I.rel.less I.hA)
    unfold Oper.wp
    rw [hrun o' rfl]
    exact hK k _ w φ h (same v' hV)
   ·rw [← hd.c,hc] at h1; cases h1
   ·rw [← hd.c,hc] at h1; cases h1
  ·rw [if_neg hw] at hev ⊢
   cases hev
   exact hK k _ w φ h (same undef (V.undef φ))
 ·obtain ⟨v,s1,s2,hv,hev⟩:=C.stg.lays d hdm hc (Nat.zero_le _) (by omega)
  rw [hdi] at hv
  rcases lay_at hd hc hev with ⟨hw,_,rfl,hob⟩ | ⟨hw,ob,hio,hob,_,hsim⟩
  ·rw [if_neg (by rw [hw]; simp)]
   exact hK k _ w φ h (inv_same C I ho hcl hdm hd hdi (by omega) hv (V.undef φ) (Sub.refl φ) I.rel I.hA (fun _ o2 h2 => by rw [hob] at h2; cases h2) (fun _ _ => rfl) (fun _ _ => rfl) I.ext I.liv)
  ·rw [if_pos hw]
   refine .inl ?_
   have hnm:φ (nm0 + d.i) = none:=by rw [hdi]; exact I.kept i hlt hil
   obtain ⟨o2,n,v',hrun,hV,hor⟩:=hsim φ a w hE hnm
   unfold Oper.wp
   rw [hrun o' rfl]
   rw [hdi] at hnm hV hor
   have hsub:=upd_sub hnm ⟨w.heap.size,n⟩
   have hrel:=alloc_stt (o':=o2) I.rel hnm hor
   have hext:Ext φ h w (upd φ (nm0 + i) ⟨w.heap.size,n⟩) (w.alloc o2):=by
    refine ⟨hsub,?_,?_,?_,⟨rfl,rfl,rfl⟩⟩
    ·show w.heap.size ≤ (w.heap.push o2).size
     simp
    ·intro x g h1 h2
     unfold upd at h2
     split at h2
     ·cases h2; exact .inl (Nat.le_refl _)
     ·rw [h1] at h2; cases h2
    ·intro b hb' _
     show (w.heap.push o2)[b]? = _
     rw [Array.getElem?_push_lt hb']; simp [hb']
   refine hK k _ _ _ (setH h (nm0 + i) ob) (inv_same C I ho hcl hdm hd hdi (by omega) hv hV hsub hrel ?_ ?_ ?_ ?_ ?_ ?_)
   ·intro x o3 hx hi3
    rw [setH_get]
    have hne:x ≠ nm0 + i:=by
     rintro rfl
     have:=C.stg.free k (Nat.zero_le _) (by omega) d hdm hc hhi
     rw [hdi,hx] at this; cases this
    rw [if_neg hne]
    exact I.hA x o3 hx hi3
   ·intro _ o3 h3
    rw [hob] at h3; cases h3
    rw [setH_get,if_pos rfl]
   ·intro x hx; rw [setH_get,if_neg hx]
   ·intro x hx; unfold upd; rw [if_neg hx]
   ·exact I.ext.trans hext I.liv (fun x hx => r0.has hx) (fun x hx => I.rel.has hx)
   ·rintro x ⟨o3,h3,hi3⟩
    rw [setH_get] at h3
    split at h3
    ·rename_i e
     subst e
     refine .inr ?_
     cases h4:φ0 (nm0 + i) with
     | none => rfl
     | some g => rw [I.ext.sub _ g h4] at hnm; cases hnm
    ·exact I.liv x ⟨o3,h3,hi3⟩
 ·have hie:i ∈ es:=(C.esm i).2 ⟨o',ho,by rw [← hd.c]; exact hc⟩
  have hk:=at_k C I hil hcl hie
  obtain ⟨d',hd',hdi',v,hv,hev⟩:=C.stg.eff k i hk
  have:=C.uni d' hd' d hdm (by rw [hdi',hdi])
  subst this
  rw [Nat.zero_add,evalD_eq] at hev
  obtain ⟨jc,jd,_⟩:=C.stg.join k (Nat.zero_le _) (by omega)
  have hS:Stt φ (Jx k) w:=⟨I.rel.less (join_sub C I (join_listed C hcl hk)),fun x hx => I.fr x (by rw [← jc]; exact hx)⟩
  have hdf:L (DR φ) (Jx k).ds a.defers:=by rw [jd]; exact I.dfs
  by_cases hw:want d'.st.g (envD (wrO ops) d'.m vsF e0) = true
  ·rw [if_pos hw] at hev ⊢
   refine .inl (eff_wp hN hC hd.f (by rw [← hd.c]; exact hc) hev hE hS hdf K Q ?_)
   intro φ' v' w' df hV hP hdf'
   obtain ⟨h',I'⟩:=inv_eff C I r0 ho hcl hd hdi hdm hc hk hv hV hP hdf'
   exact hK _ _ _ _ h' I'
  ·rw [if_neg hw] at hev ⊢
   have hev':(undef,Jx k) = (v,Sx (k + 1)):=Option.some.inj hev
   have e1:v = undef:=(congrArg Prod.fst hev').symm
   have e2:Jx k = Sx (k + 1):=congrArg Prod.snd hev'
   have hP:Post φ (Jx k) w φ (Sx (k + 1)) w:=e2 ▸ Post.refl hS
   obtain ⟨h',I'⟩:=inv_eff (df:=a.defers) C I r0 ho hcl hd hdi hdm hc hk hv (by rw [e1]; exact V.undef φ) hP (by rw [← e2]; exact hdf)
   exact hK _ _ _ _ h' I'
theorem any_ok (hN:NameOk P) (hC:CallOk P call) (C:Ctx P nt ops ms es call e0 nm0 ds vsF sF Sx Jx) (r0:Rel φ0 h0 w0) {Q:Exit → Act → World → Prop}
  (hQ:∀ listed k a w φ h,Inv ops nt ms es call e0 nm0 ds vsF Sx φ0 h0 w0 listed k a w φ h → (∀ i,i < ops.size → on listed i = true) → Q .normal a w) :
  ∀ (n:Nat) (listed:Array Bool) (k:Nat) (a:Act) (w:World) (φ:Ph) (h:Hp),listed.toList.count false ≤ n → Inv ops nt ms es call e0 nm0 ds vsF Sx φ0 h0 w0 listed k a w φ h → wpAny P .any ops Q n listed a w:=by
 have fin:∀ (listed:Array Bool) (k:Nat) (a:Act) (w:World) (φ:Ph) (h:Hp),Inv ops nt ms es call e0 nm0 ds vsF Sx φ0 h0 w0 listed k a w φ h → Region.ready .any ops listed = [] → Q .normal a w:=by
  intro listed k a w φ h I hr
  refine hQ listed k a w φ h I ?_
  intro i
  induction i using Nat.strongRecOn with
  | _ i ih =>
   intro hlt
   cases hon:on listed i with
   | true => rfl
   | false =>
    exfalso
    have ho:ops[i]? = some ops[i]:=Array.getElem?_eq_getElem hlt
    have:i ∈ Region.ready .any ops listed:=by
     unfold Region.ready
     rw [List.mem_filter,List.mem_range,Bool.and_eq_true]
     refine ⟨hlt,?_,?_⟩
     ·have hl:listed[i]? = some (listed[i]'(by rw [I.sz]; exact hlt)):=Array.getElem?_eq_getElem _
      unfold on at hon
      rw [Array.getD_eq_getD_getElem?,hl] at hon ⊢
      simpa using hon
     ·rw [ho]
      simp only [Option.map_some,Option.getD_some]
      rw [Array.all_eq_true']
      intro e he
      cases hb:Region.binds .any e with
      | false => rfl
      | true =>
       have ht:=C.edge i _ ho e he hb
       have hle:=C.st.lt i _ ho e.on ht
       have:=ih e.on hle (by omega)
       unfold on at this
       rw [this]; rfl
    rw [hr] at this; cases this
 intro n
 induction n with
 | zero =>
  intro listed k a w φ h hn I
  have hr:Region.ready .any ops listed = []:=by
   cases hrr:Region.ready .any ops listed with
   | nil => rfl
   | cons i l =>
    exfalso
    obtain ⟨o,ho,hlt,hil,_⟩:=ready_of C I (i:=i) (by rw [hrr]; simp)
    have hmem:false ∈ listed.toList:=by
     have hl:listed[i]? = some (listed[i]'(by rw [I.sz]; exact hlt)):=Array.getElem?_eq_getElem _
     unfold on at hil
     rw [Array.getD_eq_getD_getElem?,hl] at hil
     have e:listed[i]'(by rw [I.sz]; exact hlt) = false:=by simpa using hil
     have:=Array.getElem_mem (xs:=listed) (i:=i) (by rw [I.sz]; exact hlt)
     rw [e] at this
     simpa using this
    have:=List.count_pos_iff.2 hmem
    omega
  exact ⟨hr,fin listed k a w φ h I hr⟩
 | succ n ih =>
  intro listed k a w φ h hn I
  refine ⟨fin listed k a w φ h I,fun i hi => step_any hN hC C I r0 hi ?_⟩
  intro k' a' w' φ' h' I'
  refine ih _ k' a' w' φ' h' ?_ I'
  obtain ⟨o,ho,hlt,hil,_⟩:=ready_of C I hi
  have hls:i < listed.toList.length:=by simpa [I.sz] using hlt
  have e:listed.toList[i] = false:=by
   have hl:listed[i]? = some (listed[i]'(by rw [I.sz]; exact hlt)):=Array.getElem?_eq_getElem _
   unfold on at hil
   rw [Array.getD_eq_getD_getElem?,hl] at hil
   simpa using hil
  rw [Array.toList_setIfInBounds,List.count_set hls,e]
  have hmem:false ∈ listed.toList:=by rw [← e]; exact List.getElem_mem hls
  have:=List.count_pos_iff.2 hmem
  simp only [beq_self_eq_true,if_true]
  have e2:(true == false) = false:=rfl
  rw [e2]
  simp only [Bool.false_eq_true,if_false]
  omega
end
theorem dps_len {ms es:List Nat}:∀ (l:List St) (r:List Oper) (i:Nat),(dps ms es l r i).length ≤ r.length
 | [],[],_ => Nat.le_refl _
 | [],_ :: _,_ => Nat.zero_le _
 | _ :: _,[],_ => Nat.zero_le _
 | _ :: l,_ :: r,i => Nat.succ_le_succ (dps_len l r (i + 1))
theorem draw_ok (hN:NameOk P) (hm:P.follows .mixedOrders = true) (call:Cl) (hC:CallOk P call):DrawOk P call:=by
 intro nt ops e s r hr id φ a w hA
 unfold regD at hr
 rw [guardB_some,sB_eq,fN_eq] at hr
 obtain ⟨hdraw,hr⟩:=hr
 obtain ⟨l,hl,hr⟩:=oB_some.1 hr
 obtain ⟨⟨vsF,sF⟩,hst,hr⟩:=oB_some.1 hr
 rw [pB_mk,guardB_some] at hr
 obtain ⟨hseen,hr⟩:=hr
 cases hr
 obtain ⟨hSt,hch⟩:=drawOk_st hdraw
 have hedge:=drawOk_edge hdraw
 have hlen:(aL ops).length = ops.size:=by rw [aL_eq]; simp
 rw [hlen] at hst hseen
 have hw:(fun t => writer t (aL ops) 0) = wrO ops:=by rw [aL_eq]; rfl
 rw [hw] at hst ⊢
 generalize hms:masksFrom [] (aL ops) = ms at *
 generalize hes:effs (aL ops) 0 = es at *
 rw [aL_eq] at hl hst
 have hesm:∀ e,e ∈ es ↔ ∃ o,ops[e]? = some o ∧ cls o.op = 2:=by
  intro e
  rw [← hes,effs_mem,aL_eq]
  constructor
  ·rintro ⟨j,o,h1,h2,h3⟩
   have:e = j:=by omega
   subst this
   exact ⟨o,by simpa using h2,h3⟩
  ·rintro ⟨o,h1,h2⟩
   exact ⟨e,o,by omega,by simpa using h1,h2⟩
 obtain ⟨hd1,hd2⟩:=dps_ok (P:=P) (nt:=nt) (ops:=ops) (ms:=ms) (es:=es) ops.toList l 0 (by simp) hl
 have hdl:=dps_len (ms:=ms) (es:=es) l ops.toList 0
 generalize hds:dps ms es l ops.toList 0 = ds at *
 have hget:∀ (j:Nat) (d:Dp),ds[j]? = some d → d.i = j:=by
  intro j d hj
  have hjl:=(List.getElem?_eq_some_iff.1 hj).1
  have hjo:j < ops.toList.length:=by omega
  obtain ⟨d',h1,h2⟩:=hd2 j _ (List.getElem?_eq_getElem hjo)
  rw [hj] at h1; cases h1
  omega
 have hat:∀ (e:Nat) (d:Dp),dpAt ds e = some d → d ∈ ds ∧ d.i = e:=by
  intro e d h
  unfold dpAt at h
  rw [nth_eq] at h
  exact ⟨List.mem_of_getElem? h,hget e d h⟩
 have huni:∀ d ∈ ds,∀ d' ∈ ds,d.i = d'.i → d = d':=by
  intro d hd d' hd' he
  obtain ⟨j,hj⟩:=List.getElem?_of_mem hd
  obtain ⟨j',hj'⟩:=List.getElem?_of_mem hd'
  have h1:=hget j d hj
  have h2:=hget j' d' hj'
  have:j = j':=by omega
  subst this
  rw [hj] at hj'; cases hj'; rfl
 have hlo:∀ d ∈ ds,d.lo ≤ d.hi:=by
  intro d hd
  obtain ⟨_,o,hok⟩:=hd1 d hd
  rw [hok.lo,hok.hi]
  refine countB_le fun e he h => ?_
  obtain ⟨oe,hoe,_⟩:=(hesm e).1 he
  cases ht:tb (mAt ms e) d.i with
  | true => have h3:=hSt.lt e oe hoe d.i ht; have h4:=hSt.lt d.i o hok.op e h; omega
  | false => rfl
 have hdsn:∀ d ∈ ds,(∃ o,DpOk P nt ops ms es d o) ∧ ∀ j,tb d.m j = true → j < ops.size:=by
  intro d hd
  obtain ⟨_,o,hok⟩:=hd1 d hd
  refine ⟨⟨o,hok⟩,fun j hj => ?_⟩
  rw [hok.m] at hj
  have h3:=hSt.lt d.i o hok.op j hj
  have h4:=(Array.getElem?_eq_some_iff.1 hok.op).1
  omega
 obtain ⟨Sx,Jx,hS0,_,hstg⟩:=stages_ok hdsn hat hlo es 0 _ _ hst (fun d _ _ h => absurd h (Nat.not_lt_zero _))
 have hall:∀ i,i < ops.size → ∃ v,vsF i = some v:=by
  intro i hi
  refine seen_P hseen ?_ i ?_
  ·intro j hj
   rw [tb_eq] at hj
   rcases Nat.lt_or_ge j ops.size with h | h
   ·exact h
   ·have e1:Nat.sub (Nat.shiftLeft 1 ops.size) 1 = 2 ^ ops.size - 1:=by
     show 1 <<< ops.size - 1 = _
     rw [Nat.shiftLeft_eq,Nat.one_mul]
    rw [e1,Nat.testBit_two_pow_sub_one] at hj
    simpa using hj
  ·rw [tb_eq]
   have e1:Nat.sub (Nat.shiftLeft 1 ops.size) 1 = 2 ^ ops.size - 1:=by
    show 1 <<< ops.size - 1 = _
    rw [Nat.shiftLeft_eq,Nat.one_mul]
   rw [e1,Nat.testBit_two_pow_sub_one]
   simpa using hi
 have C:Ctx P nt ops ms es call e s.c ds vsF sF Sx Jx:=by
  refine ⟨hSt,hedge,hch,hesm,fun d hd => (hdsn d hd).1,?_,huni,hall,hstg⟩
  intro i o ho
  obtain ⟨d,h1,h2⟩:=hd2 i o (by simpa using ho)
  exact ⟨d,List.mem_of_getElem? h1,by omega⟩
 have h0:on (Array.replicate ops.size false) = fun _ => false:=by
  funext j
  unfold on
  rw [Array.getD_eq_getD_getElem?,Array.getElem?_replicate]
  split <;> rfl
 have hcnt0:∀ l:List Nat,countB (fun _ => false) l = 0:=by
  intro l
  induction l with
  | nil => rfl
  | cons a l ih => exact ih
 have hS0c:(Sx 0).c = s.c + ops.size:=by rw [hS0]; rfl
 refine wp_region_any hm (any_ok hN hC C hA.stt.rel ?_ ops.size _ 0 a _ φ s.h ?_ ?_)
 ·intro listed k a' w' φ' h' I hon
  have hk:k = es.length:=by
   rw [← I.cnt]
   refine Nat.le_antisymm countB_len ?_
   have h1:countB (fun _ => true) es ≤ countB (on listed) es:=countB_le fun e he _ => by
    obtain ⟨o,ho,_⟩:=(hesm e).1 he
    exact hon e (Array.getElem?_eq_some_iff.1 ho).1
   have h2:∀ l:List Nat,countB (fun _ => true) l = l.length:=by
    intro l
    induction l with
    | nil => rfl
    | cons a l ih => show Nat.succ (countB (fun _ => true) l) = l.length + 1; rw [ih]
   rw [h2] at h1; exact h1
  have hlast:=hstg.last
  rw [Nat.zero_add,← hk] at hlast
  have hJ:=join_sub C I fun d hd _ _ => by
   obtain ⟨_,o,hok⟩:=hd1 d hd
   exact hon d.i (Array.getElem?_eq_some_iff.1 hok.op).1
  obtain ⟨jc,jd,_⟩:=hstg.join k (Nat.zero_le _) (by omega)
  rw [hlast] at hJ jc jd
  have hJl:∀ x,live sF.h x → live h' x:=fun x ⟨o,h1,h2⟩ => ⟨o,hJ x o h1 h2,h2⟩
  refine ⟨rfl,φ',⟨⟨I.tsz,fun t => ?_⟩,⟨I.rel.less hJ,fun x hx => I.fr x (by rw [← jc]; exact hx)⟩,?_⟩,⟨I.ext,?_,I.new,fun x hx => I.liv x (hJl x hx)⟩⟩
  ·have hv:=I.env t
   have:envF (wrO ops) vsF e t = envL ops e vsF listed t:=by
    unfold envF envL wrO
    cases hw:writer t ops.toList 0 with
    | none => exact reb_eq _
    | some j =>
     obtain ⟨q,p,hq,hp,_⟩:=writer_some hw
     have hj:j = q:=by omega
     subst hj
     have hp':ops[j]? = some p:=by simpa using hp
     show reb (vsF j) = if on listed j = true then vsF j else e t
     rw [if_pos (hon j (Array.getElem?_eq_some_iff.1 hp').1),reb_eq]
   show V φ' (getE (envF (wrO ops) vsF e t)) _
   rw [this]; exact hv
  ·show L (DR φ') sF.ds a'.defers
   rw [jd]; exact I.dfs
  ·have:=I.cle
   show s.c ≤ sF.c
   omega
 ·simp
 ·refine ⟨by simp,?_,?_,hA.stt.rel.draws rfl,?_,?_,?_,?_,?_,hA.env.size,?_,?_,⟨Sub.refl φ,Nat.le_refl _,fun x g h1 h2 => (by rw [h1] at h2; cases h2),fun _ _ _ => rfl,⟨rfl,rfl,rfl⟩⟩,fun _ h1 h2 => absurd h1 h2,fun _ hx => .inl hx⟩
  ·intro j hj; rw [h0] at hj; cases hj
  ·rw [h0,hcnt0]
  ·intro x o hx _
   rw [hS0] at hx; exact hx
  ·intro d _ _ hl; rw [h0] at hl; cases hl
  ·omega
  ·intro x hx; exact hA.stt.fr x (by omega)
  ·intro j _ _; exact hA.stt.fr _ (by omega)
  ·intro t
   have hv:=hA.env.val t
   have:envL ops e vsF (Array.replicate ops.size false) t = e t:=by
    unfold envL
    cases writer t ops.toList 0 with
    | none => rfl
    | some j => simp [h0]
   rw [this]; exact hv
  ·rw [hS0]; exact hA.dfs
end Xe
end Go.Proofs.YtpnljpdpobbiiaaGreatDoor
/-
 DERIVED: THE SHELF's CONTRACTS AT THIS DUMP,IN PLAIN WORDS (tools/lay-plain.mjs out of 'TryzShelf.lean',which tools/lay-shelf.mjs wrote): THE SAME DECLARATIONS UNDER THE SAME NAMES: 'import','namespace','open','def','theorem' AND NOTHING ELSE: no command of the shelf's: FOR A HAND-IN. Each laying: the table of numbers ('.._ren') and one theorem,a field a fact of the dump's own or the kernel's comparison; each contract: ONE APPLICATION.
-/
namespace Go.Proofs
open Go.Shelf
def Tryz.lays137_ren:Go.Shelf.Ren:=⟨fun | 137 => 116 | 217 => 119 | 266 => 121 | n => n,fun | 9 => 9 | 5 => 5 | 3 => 3 | n => n,fun | n => n⟩
theorem Tryz.lays137:Go.Proofs.Lays.n137 Tryz.prog Tryz.lays137_ren:={
 mixed:=by kernel_rfl
 f137:=Tryz.func116.trans (congrArg some (by kernel_rfl))
 f217:=Tryz.func119.trans (congrArg some (by kernel_rfl))
 f266:=Tryz.func121.trans (congrArg some (by kernel_rfl))
 t3:=Tryz.underlying3
 a3:=Tryz.isAgg3
 z3:=Tryz.sizeOf3
 v3:=Tryz.zeroValue3
 t5:=Tryz.underlying5
 a5:=Tryz.isAgg5
 z5:=Tryz.sizeOf5
 v5:=Tryz.zeroValue5
 t9:=Tryz.underlying9
 a9:=Tryz.isAgg9
 z9:=Tryz.sizeOf9
 v9:=Tryz.zeroValue9 }
open Go.RowKit in
theorem Tryz.strings_IndexByte (s:ByteArray) (c:Int) (w:World) :
  Calls Tryz.prog 116 #[.string s,.int .u8 c] w fun e w' => e = .returned (.int .i64 (Lib.indexByte s.data.toList c.toNat.toUInt8)) ∧ w' = w:=Any.strings_IndexByte Tryz.lays137 s c w
def Tryz.laysM316_ren:Go.Shelf.Ren:=⟨fun | 316 => 54 | n => n,fun | 9 => 9 | 3 => 3 | 4 => 4 | 37 => 131 | 0 => 0 | 127 => 132 | 5 => 5 | n => n,fun | n => n⟩
theorem Tryz.laysM316:Go.Proofs.LaysM.n316 Tryz.prog Tryz.laysM316_ren:={
 mixed:=by kernel_rfl
 f316:=Tryz.func54.trans (congrArg some (by kernel_rfl))
 t0:=Tryz.underlying0
 a0:=Tryz.isAgg0
 z0:=Tryz.sizeOf0
 v0:=Tryz.zeroValue0
 t3:=Tryz.underlying3
 a3:=Tryz.isAgg3
 z3:=Tryz.sizeOf3
 v3:=Tryz.zeroValue3
 t4:=Tryz.underlying4
 a4:=Tryz.isAgg4
 z4:=Tryz.sizeOf4
 v4:=Tryz.zeroValue4
 t9:=Tryz.underlying9
 a9:=Tryz.isAgg9
 z9:=Tryz.sizeOf9
 v9:=Tryz.zeroValue9
 t37:=Tryz.underlying131
 a37:=Tryz.isAgg131
 z37:=Tryz.sizeOf131
 v37:=Tryz.zeroValue131
 t127:=Tryz.underlying132
 a127:=Tryz.isAgg132
 z127:=Tryz.sizeOf132
 v127:=Tryz.zeroValue132
 t5:=Tryz.underlying5
 a5:=Tryz.isAgg5
 z5:=Tryz.sizeOf5
 v5:=Tryz.zeroValue5
 i0:=by kernel_rfl
 i3:=by kernel_rfl
 i4:=by kernel_rfl
 i5:=by kernel_rfl
 i9:=by kernel_rfl
 i37:=by kernel_rfl
 i127:=by kernel_rfl }
open Go.RowKit in
theorem Tryz.stringslite_Clone (s:ByteArray) (w:World) (hlim:s.size ≤ 281474976710656) :
  Calls Tryz.prog 54 #[.string s] w fun e w' => e = .returned (.string s) ∧ Below w.heap.size w w':=Any.stringslite_Clone Tryz.laysM316 s w hlim
end Go.Proofs

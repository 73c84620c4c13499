/- What is written is read: definitions,programs. -/
import Derived.Test.YtolfleeidpeomaaGreatDoorM11
import Derived.Test.YtolfleeidpeomaaGreatDoorM10
set_option maxRecDepth 100000
set_option maxHeartbeats 1000000
namespace Go.Proofs.YtolfleeidpeomaaGreatDoor
open Go.RowKit
namespace Sy
def qN (t:Ty):Prop:=1≤t.kind∧t.kind≤3∧(t.kind=3→nm t.gen=true)
theorem Gg {t:Ty}(h:bN t=0):qN t:=by
 unfold bN at h
 split at h
 ·omega
 split at h
 ·omega
 ·rename_i h1 h2
  refine ⟨by omega,by omega,fun hk=>?_⟩
  cases hn:nm t.gen with
  | true=>rfl
  | false=>exact absurd ⟨hk,hn⟩ h2
structure mP (d:Df):Prop where
 kind:1≤d.kind∧d.kind≤4
 name:nm d.name=true
 uu:(d.kind=2∨d.kind=3)→d.params.length≤6∧∀ p ∈ d.params,nm p.name=true∧qN p.ty
 takes:d.kind=3→qN d.takes
 ty:d.kind≠4→qN d.ty
 cap:d.kind=1→1≤d.cap∧d.cap≤20
 body:d.kind≠1→d.body.length≤50∧∀ s ∈ d.body,mO 39 s
theorem zI:∀ {l:List Pm},fU l=0→∀ p ∈ l,nm p.name=true∧qN p.ty
 | [],_,p,hp=>by cases hp
 | a :: l,h,p,hp=>by
  rw [fU] at h
  split at h
  ·omega
  rename_i h1
  split at h
  ·rename_i h2;exact absurd h h2
  rename_i h2
  rcases List.mem_cons.1 hp with rfl | hp
  ·exact ⟨by simpa using h1,Gg (by simpa using h2)⟩
  ·exact zI h p hp
theorem Gh {d:Df}{n m:Nat}(h:dX d n=.ok m):mP d:=by
 unfold dX at h
 split at h
 ·simp at h
 rename_i h0
 have h0:fw d n=0:=by simpa using h0
 unfold fw at h0
 split at h0
 ·rename_i h1;exact absurd h0 h1
 rename_i h1
 split at h0
 ·omega
 rename_i h2
 split at h0
 ·omega
 rename_i h3
 split at h0
 ·rename_i h4;exact absurd h0 h4.2
 rename_i h4
 split at h0
 ·rename_i h5;exact absurd h0 h5.2
 rename_i h5
 split at h0
 ·rename_i h6;exact absurd h0 h6.2
 rename_i h6
 split at h0
 ·omega
 rename_i h7
 have hz:=iC (by simpa using h1:bB d.kind 4 40 n=0)
 refine ⟨⟨hz.2.1,hz.2.2.1⟩,by simpa using h2,fun hk=>⟨by omega,zI ?_⟩,fun hk=>Gg ?_,fun hk=>Gg ?_,fun hk=>by omega,fun hk=>?_⟩
 ·by_cases e:fU d.params=0
  ·exact e
  ·exact absurd ⟨hk,e⟩ h4
 ·by_cases e:bN d.takes=0
  ·exact e
  ·exact absurd ⟨hk,e⟩ h5
 ·by_cases e:bN d.ty=0
  ·exact e
  ·exact absurd ⟨hk,e⟩ h6
 ·rw [if_neg hk] at h
  exact Ga (Gb 39) h
theorem Cy:∀ {l:List Df} {i n:Nat},(iB l i n).1=0→(∀ d n e,dX d n=.error e→e≠0)→∀ d ∈ l,mP d
 | [],_,_,_,_,d,hd=>by cases hd
 | a :: l,i,n,h,hz,d,hd=>by
  rw [iB] at h
  cases ha:dX a n with
  | error e=>rw [ha] at h;exact absurd h (hz a n e ha)
  | ok m =>
   rw [ha] at h
   rcases List.mem_cons.1 hd with rfl | hd
   ·exact Gh ha
   ·exact Cy h hz d hd
def gU (t:Ty):Ty:=⟨t.kind,if t.kind=3 then t.gen else ⟨#[]⟩⟩
def jC (p:Pm):Pm:=⟨p.name,gU p.ty⟩
def aN (d:Df):Df:=⟨d.kind,d.name,if d.kind=4 then ⟨0,⟨#[]⟩⟩ else gU d.ty,if d.kind=3 then gU d.takes else ⟨0,⟨#[]⟩⟩,if d.kind=1 then d.cap else 0,if d.kind=2∨d.kind=3 then d.params.map jC else [],if d.kind=1 then [] else d.body.map (bS 39)⟩
theorem Gi {d:Df}(h:d.kind=1):fI d=⟨#[98,111,120]⟩ :: d.name :: (cZ d.ty++[iU d.cap,⟨#[59]⟩]):=by
 unfold fI;rw [if_pos h,List.append_assoc];rfl
theorem Gj {d:Df}(h:d.kind=2):fI d=⟨#[102,110]⟩ :: d.name :: (fB d.params++(cZ d.ty++aV (aC 39) d.body)):=by
 unfold fI;rw [if_neg (by omega),if_pos h,List.append_assoc,List.append_assoc];rfl
theorem Gm {d:Df}(h:d.kind=3):fI d=⟨#[103,101,110]⟩ :: d.name :: (fB d.params++(⟨#[116,97,107,101,115]⟩ :: (cZ d.takes++(⟨#[121,105,101,108,100,115]⟩ :: (cZ d.ty++aV (aC 39) d.body))))):=by
 unfold fI;rw [if_neg (by omega),if_neg (by omega),if_pos h];simp
theorem Gn {d:Df}(h:d.kind=4):fI d=⟨#[116,97,115,107]⟩ :: d.name :: aV (aC 39) d.body:=by
 unfold fI;rw [if_neg (by omega),if_neg (by omega),if_neg (by omega)];rfl
end Sy
namespace Rp
section
variable {l:List Lx.Tk} {en:Nat}
theorem zJ {t:Sy.Ty}(ht:Sy.qN t){p:Nat}(h:At l p (Sy.cZ t)):typ l en p=.ok (p+1,Sy.gU t)∧(Sy.cZ t).length=1:=by
 refine ⟨?_,rfl⟩
 obtain ⟨h1,h2,h3⟩:=ht
 unfold Sy.cZ at h
 obtain ⟨w,_⟩:=bG (en:=en) h
 have hk:t.kind=1∨t.kind=2∨t.kind=3:=by omega
 unfold typ oM qI Sy.gU
 rcases hk with hk | hk | hk
 ·rw [if_pos hk] at w
  rw [w.tk,if_pos (by decide),if_pos (by decide)]
  simp [hk]
 ·rw [if_neg (by omega),if_pos hk] at w
  rw [w.tk,w.tk,if_neg (by decide),if_pos (by decide),if_neg (by decide),if_pos (by decide)]
  simp [hk]
 ·rw [if_neg (by omega),if_neg (by omega)] at w
  have hn:=h3 hk
  have e1:=Sy.rV (s:=⟨#[110,117,109]⟩) hn (by decide +kernel)
  have e2:=Sy.rV (s:=⟨#[98,111,111,108]⟩) hn (by decide +kernel)
  have hw:=oP w hn (Sy.jY hn).2
  unfold name at hw
  rw [w.tk,w.tk,if_neg (by simpa using e1),if_neg (by simpa using e2),if_neg (by simpa using e1),if_neg (by simpa using e2)]
  cases hq:lK l p en with
  | error e=>rw [hq] at hw;simp at hw
  | ok q =>
   rw [hq] at hw
   simp only [Except.ok.injEq,Prod.mk.injEq] at hw
   simp only [hw.1,w.text,hk,if_true]
theorem WL {x:Sy.Pm}(hx:Sy.nm x.name=true∧Sy.qN x.ty){p:Nat}(h:At l p (Sy.iV x)):param l en p=.ok (p+(Sy.iV x).length,Sy.jC x):=by
 unfold Sy.iV at h ⊢
 rw [List.singleton_append] at h ⊢
 obtain ⟨w,h⟩:=bG (en:=en) h
 unfold param
 refine (then_ok (oP w hx.1 (Sy.jY hx.1).2)).trans ?_
 exact (then_ok (zJ hx.2 h).1).trans rfl
theorem zI {ps:List Sy.Pm}(hn:ps.length≤6)(hp:∀ x ∈ ps,Sy.nm x.name=true∧Sy.qN x.ty){p:Nat}(h:At l p (Sy.fB ps)):params l en p=.ok (p+(Sy.fB ps).length,ps.map Sy.jC):=by
 unfold Sy.fB at h ⊢
 have:=MH (en:=en) (bg:=zB) (f:=Sy.iV) (g:=Sy.jC) (one:=param l en) (fun x hx p h _=>WL (hp x hx) h) (fun x hx=>⟨x.name,Sy.cZ x.ty,rfl,Sy.rV (hp x hx).1 (by decide +kernel)⟩) hn h
 unfold params
 rw [this]
 simp
 omega
theorem WM {d:Sy.Df}(hd:Sy.mP d){p:Nat}(h:At l p (Sy.fI d)):df l en p=.ok (p+(Sy.fI d).length,Sy.aN d):=by
 have hk:d.kind=1∨d.kind=2∨d.kind=3∨d.kind=4:=by have:=hd.kind;omega
 have hn:=hd.name
 have hnk:=(Sy.jY hn).2
 have hbody:d.kind≠1→∀ p,At l p (Sy.aV (Sy.aC 39) d.body)→body l en 200 p=.ok (p+(Sy.aV (Sy.aC 39) d.body).length,d.body.map (Sy.bS 39)):=fun h1 p h=>MX 39 200 (by omega) d.body p (hd.body h1).1 (hd.body h1).2 h
 rcases hk with hk | hk | hk | hk
 ·rw [Sy.Gi hk] at h ⊢
  obtain ⟨w1,h⟩:=bG (en:=en) h
  obtain ⟨w2,h⟩:=bG (en:=en) h
  obtain ⟨a1,h⟩:=iF h
  obtain ⟨t1,t2⟩:=zJ (en:=en) (hd.ty (by omega)) a1
  rw [t2] at h
  obtain ⟨w3,h⟩:=bG (en:=en) h
  obtain ⟨w4,_⟩:=bG (en:=en) h
  have hc:=hd.cap hk
  obtain ⟨_,n2,n3⟩:=Sy.zF (n:=d.cap) (by omega) (by omega)
  have hpl:places l en (p+1+1+1)=.ok (p+1+1+1+1,d.cap):=by
   unfold places nL
   rw [w3.kind,w3.num,n2,if_neg (by decide),if_neg (by omega)]
   simp [n3]
  unfold df
  rw [w1.text,if_pos rfl]
  unfold box
  refine (then_ok (jf w1)).trans ?_
  refine (then_ok (oP w2 hn hnk)).trans ?_
  refine (then_ok t1).trans ?_
  refine (then_ok hpl).trans ?_
  refine (then_ok (jf w4)).trans ?_
  unfold Sy.aN
  simp [hk,t2]
 ·rw [Sy.Gj hk] at h ⊢
  obtain ⟨w1,h⟩:=bG (en:=en) h
  obtain ⟨w2,h⟩:=bG (en:=en) h
  obtain ⟨a1,h⟩:=iF h
  obtain ⟨a2,a3⟩:=iF h
  have hp:=hd.uu (.inl hk)
  obtain ⟨t1,t2⟩:=zJ (en:=en) (hd.ty (by omega)) a2
  rw [t2] at a3
  unfold df
  rw [w1.text,if_neg (by decide),if_pos rfl]
  unfold function
  refine (then_ok (jf w1)).trans ?_
  refine (then_ok (oP w2 hn hnk)).trans ?_
  refine (then_ok (zI hp.1 hp.2 a1)).trans ?_
  refine (then_ok t1).trans ?_
  refine (then_ok (hbody (by omega) _ a3)).trans ?_
  unfold Sy.aN
  simp [hk,t2]
  omega
 ·rw [Sy.Gm hk] at h ⊢
  obtain ⟨w1,h⟩:=bG (en:=en) h
  obtain ⟨w2,h⟩:=bG (en:=en) h
  obtain ⟨a1,h⟩:=iF h
  obtain ⟨w3,h⟩:=bG (en:=en) h
  obtain ⟨a2,h⟩:=iF h
  have hp:=hd.uu (.inr hk)
  obtain ⟨t1,t2⟩:=zJ (en:=en) (hd.takes hk) a2
  rw [t2] at h
  obtain ⟨w4,h⟩:=bG (en:=en) h
  obtain ⟨a3,a4⟩:=iF h
  obtain ⟨t3,t4⟩:=zJ (en:=en) (hd.ty (by omega)) a3
  rw [t4] at a4
  unfold df
  rw [w1.text,if_neg (by decide),if_neg (by decide),if_pos rfl]
  unfold uq
  refine (then_ok (jf w1)).trans ?_
  refine (then_ok (oP w2 hn hnk)).trans ?_
  refine (then_ok (zI hp.1 hp.2 a1)).trans ?_
  refine (then_ok (jf w3)).trans ?_
  refine (then_ok t1).trans ?_
  refine (then_ok (jf w4)).trans ?_
  refine (then_ok t3).trans ?_
  refine (then_ok (hbody (by omega) _ a4)).trans ?_
  unfold Sy.aN
  simp [hk,t2,t4]
  omega
 ·rw [Sy.Gn hk] at h ⊢
  obtain ⟨w1,h⟩:=bG (en:=en) h
  obtain ⟨w2,h⟩:=bG (en:=en) h
  unfold df
  rw [w1.text,if_neg (by decide),if_neg (by decide),if_neg (by decide)]
  unfold task
  refine (then_ok (jf w1)).trans ?_
  refine (then_ok (oP w2 hn hnk)).trans ?_
  refine (then_ok (hbody (by omega) _ h)).trans ?_
  unfold Sy.aN
  simp [hk]
  omega
theorem MZ {d:Sy.Df}(hd:Sy.mP d):0<(Sy.fI d).length:=by
 have hk:d.kind=1∨d.kind=2∨d.kind=3∨d.kind=4:=by have:=hd.kind;omega
 rcases hk with hk | hk | hk | hk
 ·rw [Sy.Gi hk];simp
 ·rw [Sy.Gj hk];simp
 ·rw [Sy.Gm hk];simp
 ·rw [Sy.Gn hk];simp
theorem M0:∀ (ds:List Sy.Df) (F:Nat) (out:List Sy.Df) (p:Nat),(∀ d ∈ ds,Sy.mP d)→out.length+ds.length≤30→At l p (Sy.dW ds)→l.length=p+(Sy.dW ds).length→ds.length<F→fH l en F out p=.ok (l.length,out++ds.map Sy.aN)
 | _,0,_,_,_,_,_,_,hF=>by omega
 | [],F+1,out,p,_,_,_,hl,_=>by
  have e:(Sy.dW []).length=0:=rfl
  rw [fH,if_pos (by omega),hl,e]
  simp
 | d :: ds,F+1,out,p,hd,hn,h,hl,hF=>by
  have hdo:=hd d (by simp)
  have e:Sy.dW (d :: ds)=Sy.fI d++Sy.dW ds:=by simp [Sy.dW]
  rw [e] at h hl
  obtain ⟨a1,a2⟩:=iF h
  have hpos:=MZ hdo
  rw [List.length_append] at hl
  rw [fH,if_neg (by omega)]
  have hlim:fZ vH (out.length:Nat) 30 (pk l p en) p=.ok p:=by unfold fZ;rw [if_neg (by simp at hn;omega)]
  rw [hlim]
  refine (then_ok (WM hdo a1)).trans ?_
  rw [M0 ds F (out++[Sy.aN d]) _ (fun x hx=>hd x (List.mem_cons_of_mem _ hx)) (by simp at hn ⊢;omega) a2 (by omega) (by simp at hF;omega)]
  simp
theorem WN {ds:List Sy.Df}(hd:∀ d ∈ ds,Sy.mP d)(hn:ds.length≤30)(h:l.map Lx.u7=(Sy.dW ds).map Lx.ve):program l en=.ok (l.length,ds.map Sy.aN):=by
 have hl:l.length=(Sy.dW ds).length:=by have:=congrArg List.length h;simpa using this
 have hat:At l 0 (Sy.dW ds):=by
  intro i w hw
  have h1:(l.map Lx.u7)[i]?=some (Lx.ve w):=by rw [h,List.getElem?_map,hw];rfl
  rw [List.getElem?_map] at h1
  cases ht:l[i]? with
  | none=>rw [ht] at h1;simp at h1
  | some t =>
   rw [ht] at h1
   simp at h1
   exact ⟨t,by rw [Nat.zero_add,ht],h1⟩
 have hlen:ds.length≤(Sy.dW ds).length:=by
  clear h hl hat hn
  induction ds with
  | nil=>simp
  | cons d ds ih =>
   have e:Sy.dW (d :: ds)=Sy.fI d++Sy.dW ds:=by simp [Sy.dW]
   have:=MZ (hd d (by simp))
   have:=ih (fun x hx=>hd x (List.mem_cons_of_mem _ hx))
   rw [e,List.length_append,List.length_cons]
   omega
 unfold program
 rw [M0 ds (l.length+1) [] 0 hd (by simpa using hn) hat (by omega) (by omega)]
 simp
end
end Rp
structure Env where
 B:Nat
 R:Nat
 M:Nat
 ta:Option Addr
 tc:Nat
 l:List Lx.Tk
 en:Nat
def jZ:List MapEntry:=(Sy.table.zipIdx).map fun (p,i)=>{ key:=.string p.2.1,val:=nP p,born:=i }
structure Good (E:Env):Prop where
 below:E.B≤E.R
 toks:zu E.l
 few:E.l.length≤6000
 apart:E.M≠E.R
structure az (E:Env) (w:World) (p:Nat) (op:Int):Prop where
 rd:RD w E.R E.ta E.tc E.l p E.en (.map (some E.M)) op
 tk:gq E.B w E.l E.ta
 mp:w.heap[E.M]?=some (.map jZ.toArray 13)
theorem az.lt {E:Env}{w:World}{p:Nat}{op:Int}(h:az E w p op):E.R<w.heap.size:=h.rd.lt
theorem az.grown {E:Env}{w w':World}{p q:Nat}{op op':Int}(h:az E w p op)(G:Good E)(hg:w.grownBy w' (some E.R))(hr:RD w' E.R E.ta E.tc E.l q E.en (.map (some E.M)) op'):az E w' q op' :=
 ⟨hr,h.tk.grown hg G.below h.lt,(hg.block E.M (lt_of_block h.mp) (fun e=>G.apart (by simpa using e))).trans h.mp⟩
theorem az.on {E:Env}{w w':World}{p:Nat}{op:Int}(h:az E w p op)(G:Good E)(hb:Below w.heap.size w w'):az E w' p op :=
 ⟨h.rd.on hb,h.tk.on (qH hb (by have:=h.lt;have:=G.below;omega)),(hb.block E.M (lt_of_block h.mp)).trans h.mp⟩
theorem az.alloc {E:Env}{w:World}{p:Nat}{op:Int}(h:az E w p op)(G:Good E)(o:Obj):az E (w.alloc o) p op:=h.on G ((Below.refl _ w).alloc (Nat.le_refl _) o)
theorem dM {w u:World}{R:Nat}(h:w.grownBy u (some R))(o:Obj):w.grownBy (u.alloc o) (some R) :=
 ⟨h.os,h.tape,h.output,by have:=h.size;simp;omega,fun i hi hn=>(Below.heap_alloc _ _ _ (by have:=h.size;omega)).trans (h.block i hi hn)⟩
theorem gD {w u:World}{R:Nat}(h:w.grownBy u (some R)){a:Addr}(ha:w.heap.size≤a.block)(x:Value):w.grownBy (u.setCell a x) (some R) :=
 ⟨h.os,h.tape,h.output,by simpa [World.setCell] using h.size,fun i hi hn=>(Below.heap_setCell _ _ _ _ (by omega)).trans (h.block i hi hn)⟩
theorem RD.set {w:World}{R:Nat}{ta:Option Addr}{tc:Nat}{l:List Lx.Tk}{p en:Nat}{mv:Value}{op:Int}(h:RD w R ta tc l p en mv op){a:Addr}(ha:R≠a.block)(x:Value):RD (w.setCell a x) R ta tc l p en mv op:=(Below.heap_setCell _ _ _ _ ha).trans h
def Ends {α:Type}(E:Env)(op:Int)(w:World)(r:au α)(M:World→α→Value→Prop)(e:Ending)(w':World):Prop :=
 w.grownBy w' (some E.R)∧match r with
  | .ok (q,x)=>(∃ v,e=.returned v∧M w' x v)∧az E w' q op
  | .error (er,at')=>e=.panicked [aH er at']∧∃ (q:Nat) (o:Int),az E w' q o∧op≤o∧o≤op+2
def jD {α:Type}(x:α):Except (Int × Nat) Nat→au α
 | .ok q=>.ok (q,x)
 | .error e=>.error e
theorem zK {α:Type}{E:Env}(G:Good E){p:Nat}{op:Int}{w w':World}{r:au α}{r':Except (Int × Nat) Nat}{x:α}{v:Value}{M:World→α→Value→Prop}{e:Ending}(h:az E w p op)
  (hf:vz E.R E.ta E.tc E.l E.en (.map (some E.M)) op w v r' e w') (hr:r=jD x r') (hM:M w' x v):Ends E op w r M e w':=by
 refine ⟨hf.1,?_⟩
 cases r' with
 | ok q =>
  rw [hr]
  exact ⟨⟨v,hf.2.1,hM⟩,h.grown G hf.1 hf.2.2⟩
 | error er =>
  rw [hr]
  obtain ⟨h1,q,o,hd,h2,h3⟩:=hf.2
  exact ⟨h1,q,o,h.grown G hf.1 hd,h2,by omega⟩
abbrev M3:World→Unit→Value→Prop:=fun _ _ v=>v=.tuple #[]
abbrev WO:World→ByteArray→Value→Prop:=fun _ x v=>v=.string x∧x.size≤6000
theorem iW (E:Env)(G:Good E)(p:Nat)(op:Int)(s:ByteArray)(r:au Unit)(w:World)(h:Hid (az E w p op))(hp:p≤E.l.length)(hr:Hid (r=Rp.want E.l E.en s p)) :
  Calls Tryz.prog 69 #[.pointer (some ⟨E.R,0,none⟩),.string s] w fun e w'=>Ends E op w r M3 e w':=by
 refine (tY E.B E.R E.ta E.tc E.l p E.en _ op s (pz E.l p E.en s) w h.out.rd h.out.tk G.below hp rfl).mono ?_
 intro e w' hf
 exact zK (x:=()) G h.out hf (by rw [hr.out];unfold Rp.want;cases pz E.l p E.en s <;> rfl) rfl
theorem qO (E:Env)(G:Good E)(p:Nat)(op:Int)(r:au ByteArray)(w:World)(h:Hid (az E w p op))(hp:p≤E.l.length)(hr:Hid (r=Rp.name E.l E.en p)) :
  Calls Tryz.prog 70 #[.pointer (some ⟨E.R,0,none⟩)] w fun e w'=>Ends E op w r WO e w':=by
 have hz:=(G.toks.pk p E.en).1
 refine (LQ E.B E.R E.ta E.tc E.l p E.en _ op (lK E.l p E.en) (pk E.l p E.en) w h.out.rd h.out.tk G.below hp rfl (by unfold maxLen;omega) rfl).mono ?_
 intro e w' hf
 exact zK (x:=(pk E.l p E.en).text) G h.out hf (by rw [hr.out];unfold Rp.name;cases lK E.l p E.en <;> rfl) ⟨rfl,hz⟩
theorem ek (E:Env)(G:Good E)(p:Nat)(op:Int)(s:ByteArray)(b:Bool)(q:Nat)(w:World)(h:Hid (az E w p op))(hp:p≤E.l.length)(hb:Hid (b=tk E.l p s))(hq:Hid (q=if b then p+1 else p)) :
  Calls Tryz.prog 101 #[.pointer (some ⟨E.R,0,none⟩),.string s] w fun e w'=>e=.returned (.bool b)∧az E w' q op∧w.grownBy w' (some E.R):=by
 refine (tX E.B E.R E.ta E.tc E.l p E.en _ op s b q w h.out.rd h.out.tk G.below hp hb hq).mono ?_
 rintro e w' ⟨rfl,hd,hg⟩
 exact ⟨rfl,h.out.grown G hg hd,hg⟩
theorem zL (E:Env)(G:Good E)(p:Nat)(op:Int)(t:Lx.Tk)(w:World)(h:Hid (az E w p op))(hp:p≤E.l.length)(ht:Hid (t=pk E.l p E.en)) :
  Calls Tryz.prog 63 #[.pointer (some ⟨E.R,0,none⟩)] w fun e w'=>e=.returned (tT t)∧Below w.heap.size w w' :=
 xG E.B E.R E.ta E.tc E.l p E.en _ op t w h.out.rd h.out.tk G.below hp ht
theorem M4 (E:Env)(G:Good E)(p:Nat)(op:Int)(w:World)(h:Hid (az E w p op))(hp:p≤E.l.length) :
  Calls Tryz.prog 102 #[.pointer (some ⟨E.R,0,none⟩)] w fun e w'=>e=.returned (.tuple #[])∧az E w' (p+1) op∧w.grownBy w' (some E.R):=by
 refine (Ct E.R E.ta E.tc E.l p E.en _ op w h.out.rd (by have:=G.few;omega)).mono ?_
 rintro e w' ⟨rfl,hd,hg⟩
 exact ⟨rfl,h.out.grown G hg hd,hg⟩
theorem Gp (E:Env)(G:Good E)(p:Nat)(w:World)(h:Hid (az E w p 200))(hp:p≤E.l.length) :
  Calls Tryz.prog 103 #[.pointer (some ⟨E.R,0,none⟩)] w fun e w'=>e=.panicked [aH 4 (pk E.l p E.en).pos]∧w.grownBy w' (some E.R)∧∃ (q:Nat) (o:Int),az E w' q o∧200≤o∧o≤202:=by
 refine (LW E.B E.R E.ta E.tc E.l p E.en _ 200 (pk E.l p E.en) w h.out.rd h.out.tk G.below hp rfl (by omega) (by omega)).mono ?_
 intro e w' hf
 have h2:=hf.2
 rw [if_pos rfl] at h2
 obtain ⟨h1,q,o,hd,h3,h4⟩:=h2
 exact ⟨h1,hf.1,q,o,h.out.grown G hf.1 hd,by omega,by omega⟩
theorem Gq (E:Env)(G:Good E)(p:Nat)(op:Int)(w:World)(h:Hid (az E w p op))(hp:p≤E.l.length)(h0:0≤op)(h1:op<200) :
  Calls Tryz.prog 103 #[.pointer (some ⟨E.R,0,none⟩)] w fun e w'=>e=.returned (.tuple #[])∧az E w' p (op+1)∧w.grownBy w' (some E.R):=by
 refine (LW E.B E.R E.ta E.tc E.l p E.en _ op (pk E.l p E.en) w h.out.rd h.out.tk G.below hp rfl (by omega) (by omega)).mono ?_
 intro e w' hf
 have h2:=hf.2
 rw [if_neg (by omega)] at h2
 exact ⟨h2.1,h.out.grown G hf.1 h2.2,hf.1⟩
def bK (Q:Nat→Prop)(w:World):Nat→Sy.Ex→Option Addr→Prop
 | 0,_,_=>False
 | h+1,x,a=>x.name.size≤6000∧x.kids.length≤6000∧∀ i k,x.kids[i]?=some k→∃ b off a' c',a=some ⟨b,off,none⟩∧Q b ∧
   w.cell? ⟨b,off+i * 4,none⟩=some (.int .i64 k.kind)∧w.cell? ⟨b,off+i * 4+1,none⟩=some (.int .i64 k.n)∧w.cell? ⟨b,off+i * 4+2,none⟩=some (.string k.name) ∧
   w.cell? ⟨b,off+i * 4+3,none⟩=some (.slice a' k.kids.length c')∧bK Q w h k a'
theorem bK.keep {Q Q':Nat→Prop}{w w':World}(hk:∀ b,Q b→Q' b∧w'.heap[b]?=w.heap[b]?):∀ {h:Nat} {x:Sy.Ex} {a:Option Addr},bK Q w h x a→bK Q' w' h x a
 | 0,_,_,h=>h
 | h+1,x,a,⟨h1,h2,h3⟩=>⟨h1,h2,fun i k hi=>by
   obtain ⟨b,off,a',c',ha,hb,c0,c1,c2,c3,hin⟩:=h3 i k hi
   have hc:∀ o,w'.cell? ⟨b,o,none⟩=w.cell? ⟨b,o,none⟩:=fun o=>World.cell?_of_block (w:=w) (hk b hb).2
   exact ⟨b,off,a',c',ha,(hk b hb).1,(hc _).trans c0,(hc _).trans c1,(hc _).trans c2,(hc _).trans c3,bK.keep hk hin⟩⟩
theorem bK.up {Q:Nat→Prop}{w:World}:∀ {h h':Nat} {x:Sy.Ex} {a:Option Addr},h≤h'→bK Q w h x a→bK Q w h' x a
 | 0,_,_,_,_,hx=>hx.elim
 | h+1,0,_,_,hh,_=>by omega
 | h+1,h'+1,x,a,hh,hx=>⟨hx.1,hx.2.1,fun i k hk=>by
  obtain ⟨b,off,a',c',e,hb,c0,c1,c2,c3,hin⟩:=hx.2.2 i k hk
  exact ⟨b,off,a',c',e,hb,c0,c1,c2,c3,hin.up (by omega)⟩⟩
theorem bK.kL {Q:Nat→Prop}{w:World}{B:Nat}(hQ:∀ b,Q b→b<B):∀ {h:Nat} {x:Sy.Ex} {a:Option Addr},bK Q w h x a→aJ B w h x a
 | 0,_,_,h=>h
 | h+1,x,a,⟨h1,h2,h3⟩=>⟨by unfold maxLen;omega,by unfold maxLen;omega,fun i k hi=>by
   obtain ⟨b,off,a',c',ha,hb,c0,c1,c2,c3,hin⟩:=h3 i k hi
   exact ⟨b,off,a',c',ha,hQ b hb,c0,c1,c2,c3,bK.kL hQ hin⟩⟩
theorem bK.leaf (Q:Nat→Prop)(w:World)(k n:Int)(s:ByteArray)(hs:s.size≤6000)(a:Option Addr):bK Q w 1 ⟨k,n,s,[]⟩ a:=⟨hs,Nat.zero_le _,fun i k hk=>by simp at hk⟩
abbrev gK (w w':World):Nat→Prop:=fun b=>w.heap.size≤b∧b<w'.heap.size
def qP (w:World):World→Sy.Ex→Value→Prop:=fun w' x v=>∃ a c h,v=dH x a c∧bK (gK w w') w' h x a
abbrev ZE:Obj:=.cells #[.int .i64 0,.int .i64 0,.string ⟨#[]⟩,.slice none 0 0] 122 (0,0)
abbrev ic (k n:Int) (s:ByteArray) (v:Value):Obj:=.cells #[.int .i64 k,.int .i64 n,.string s,v] 122 (0,0)
theorem fP {w:World}{N:Nat}{k n:Int}{s:ByteArray}{v:Value}(h:w.heap[N]?=some (ic k n s v)) :
  (w.cell? ⟨N,0,none⟩=some (.int .i64 k)∧w.cell? ⟨N,1,none⟩=some (.int .i64 n)∧w.cell? ⟨N,2,none⟩=some (.string s)∧w.cell? ⟨N,3,none⟩=some v) ∧
  (w.frozen? ⟨N,0,none⟩=false∧w.frozen? ⟨N,1,none⟩=false∧w.frozen? ⟨N,2,none⟩=false∧w.frozen? ⟨N,3,none⟩=false):=by
 simp [World.cell?,World.frozen?,h]
theorem eu {w u:World}{R N:Nat}(h:w.grownBy u (some R))(hN:w.heap.size≤N)(a b c d:Value):w.grownBy ((((u.setCell ⟨N,0,none⟩ a).setCell ⟨N,1,none⟩ b).setCell ⟨N,2,none⟩ c).setCell ⟨N,3,none⟩ d) (some R) :=
 gD (gD (gD (gD h hN a) hN b) hN c) hN d
theorem RD.four {w:World}{R N:Nat}{ta:Option Addr}{tc:Nat}{l:List Lx.Tk}{p en:Nat}{mv:Value}{op:Int}(h:RD w R ta tc l p en mv op)(hN:R≠N)(a b c d:Value):RD ((((w.setCell ⟨N,0,none⟩ a).setCell ⟨N,1,none⟩ b).setCell ⟨N,2,none⟩ c).setCell ⟨N,3,none⟩ d) R ta tc l p en mv op :=
 (((h.set (a:=⟨N,0,none⟩) hN a).set (a:=⟨N,1,none⟩) hN b).set (a:=⟨N,2,none⟩) hN c).set (a:=⟨N,3,none⟩) hN d
theorem kz {u:World}{N k:Nat}(hk:k≠N)(a b c d:Value):((((u.setCell ⟨N,0,none⟩ a).setCell ⟨N,1,none⟩ b).setCell ⟨N,2,none⟩ c).setCell ⟨N,3,none⟩ d).heap[k]?=u.heap[k]?:=by
 rw [Below.heap_setCell _ _ _ _ hk,Below.heap_setCell _ _ _ _ hk,Below.heap_setCell _ _ _ _ hk,Below.heap_setCell _ _ _ _ hk]
theorem WQ (E:Env)(G:Good E)(p:Nat)(op:Int)(r:au Sy.Ex)(w:World)(h:Hid (az E w p op))(hp:p≤E.l.length)(hr:Hid (r=Rp.receiving E.l E.en p)) :
  Calls Tryz.prog 159 #[.pointer (some ⟨E.R,0,none⟩)] w fun e w'=>Ends E op w r (qP w) e w':=by
 have hR:=h.out.lt
 obtain ⟨r1,hr1⟩:∃ r1,r1=Rp.want E.l E.en ⟨#[40]⟩ p:=⟨_,rfl⟩
 have HR1:=aa hr1
 have aR:Hid (r=Rp.andThen r1 fun q1 _=>Rp.andThen (Rp.name E.l E.en q1) fun q2 s=>Rp.andThen (Rp.want E.l E.en ⟨#[41]⟩ q2) fun q3 _=>.ok (q3,⟨20,0,s,[]⟩)):=by rw [hr.out,hr1];rfl
 have HA1:Hid (∀ q x,r1=.ok (q,x)→q≤E.l.length):=fun q x hx=>(Rp.eH E.l E.en _ p q x hp (by rw [← hr1,hx])).2
 clear hr1
 go_enter Tryz.func159,Tryz.ntmps159
 go_wp2_with fail
 refine (iW E G p op ⟨#[40]⟩ r1 _ (h.out.alloc G _) hp HR1).mono ?_
 rintro e w1 ⟨hg1,hf1⟩
 have ax:Hid (w.grownBy w1 (some E.R)):=ay (dM (eD (Below.refl _ w)) _) hg1
 have HZ1:Hid (w1.heap[w.heap.size]?=some ZE):=aA hg1 (by omega) (heap_alloc_new w ZE)
 clear hg1
 cases r1 with
 | error er =>
  obtain ⟨e1,e2⟩:=er
  obtain ⟨rfl,hd1⟩:=hf1
  have HD1:=aa hd1
  have ae:Hid (r=.error (e1,e2)):=aR.out
  clear hd1
  go_wp2
  exact ⟨rfl,ax.out,by rw [ae.out];exact ⟨rfl,HD1.out⟩⟩
 | ok qx =>
  obtain ⟨q1,u1⟩:=qx
  obtain ⟨⟨v,rfl,rfl⟩,hd1⟩:=hf1
  have HD1:=aa hd1
  have hq1:q1≤E.l.length:=HA1.out q1 u1 rfl
  clear hd1
  obtain ⟨r2,hr2⟩:∃ r2,r2=Rp.name E.l E.en q1:=⟨_,rfl⟩
  have HR2:=aa hr2
  have bI:Hid (r=Rp.andThen r2 fun q2 s=>Rp.andThen (Rp.want E.l E.en ⟨#[41]⟩ q2) fun q3 _=>.ok (q3,⟨20,0,s,[]⟩)):=by rw [aR.out,hr2];rfl
  have HA2:Hid (∀ q x,r2=.ok (q,x)→q≤E.l.length):=fun q x hx=>(Rp.jX E.l E.en q1 q x hq1 (by rw [← hr2,hx])).2
  clear hr2
  go_wp2_with fail
  refine (qO E G q1 op r2 _ HD1 hq1 HR2).mono ?_
  rintro e w2 ⟨hg2,hf2⟩
  have HG2:Hid (w.grownBy w2 (some E.R)):=ay ax.out hg2
  have HZ2:Hid (w2.heap[w.heap.size]?=some ZE):=aA hg2 (by omega) HZ1.out
  clear hg2
  cases r2 with
  | error er =>
   obtain ⟨e1,e2⟩:=er
   obtain ⟨rfl,hd2⟩:=hf2
   have HD2:=aa hd2
   have ae:Hid (r=.error (e1,e2)):=bI.out
   clear hd2
   go_wp2
   exact ⟨rfl,HG2.out,by rw [ae.out];exact ⟨rfl,HD2.out⟩⟩
  | ok qx =>
   obtain ⟨q2,s⟩:=qx
   obtain ⟨⟨v,rfl,rfl,hs⟩,hd2⟩:=hf2
   have HD2:=aa hd2
   have hq2:q2≤E.l.length:=HA2.out q2 s rfl
   clear hd2
   obtain ⟨r3,hr3⟩:∃ r3,r3=Rp.want E.l E.en ⟨#[41]⟩ q2:=⟨_,rfl⟩
   have HR3:=aa hr3
   have HE2:Hid (r=Rp.andThen r3 fun q3 _=>.ok (q3,⟨20,0,s,[]⟩)):=by rw [bI.out,hr3];rfl
   clear hr3
   go_wp2_with fail
   refine (iW E G q2 op ⟨#[41]⟩ r3 _ (HD2.out.alloc G _) hq2 HR3).mono ?_
   rintro e w3 ⟨hg3,hf3⟩
   have aK:Hid (w.grownBy w3 (some E.R)):=ay (dM HG2.out _) hg3
   have hw2:=HG2.out.size
   have hZ3:w3.heap[w.heap.size]?=some ZE:=aA hg3 (by omega) ((Below.heap_alloc _ _ _ (lt_of_block HZ2.out)).trans HZ2.out)
   have vK:w3.heap[w2.heap.size]?=some (ic 20 0 s (.slice none 0 0)):=aA hg3 (by omega) (heap_alloc_new w2 _)
   cases r3 with
   | error er =>
    obtain ⟨e1,e2⟩:=er
    obtain ⟨rfl,hd3⟩:=hf3
    have HD3:=aa hd3
    have ae:Hid (r=.error (e1,e2)):=HE2.out
    clear hd3 hg3 hZ3 vK
    go_wp2
    exact ⟨rfl,aK.out,by rw [ae.out];exact ⟨rfl,HD3.out⟩⟩
   | ok qx =>
    obtain ⟨q3,u3⟩:=qx
    obtain ⟨⟨v,rfl,rfl⟩,hd3⟩:=hf3
    have HD3:=aa hd3
    have ae:Hid (r=.ok (q3,⟨20,0,s,[]⟩)):=HE2.out
    obtain ⟨⟨z0,z1,z2,z3⟩,y0,y1,y2,y3⟩:=fP hZ3
    obtain ⟨⟨x0,x1,x2,x3⟩,_⟩:=fP vK
    clear hd3 hg3 hZ3 vK
    go_wp2
    refine bodyPost_ret (v:=dH ⟨20,0,s,[]⟩ none 0) (by simp [results,Tryz.results159,go_sem,z0,z1,z2,z3]) rfl ?_
    exact ⟨eu aK.out (Nat.le_refl _) _ _ _ _,by rw [ae.out];exact ⟨⟨_,rfl,none,0,1,rfl,bK.leaf _ _ _ _ _ hs _⟩,h.out.grown G (eu aK.out (Nat.le_refl _) _ _ _ _) (HD3.out.rd.four (by omega) _ _ _ _)⟩⟩
theorem vL (E:Env)(G:Good E)(p:Nat)(op:Int)(u:FrameMode)(w:World)(h:Hid (az E w p op))(h0:0≤op)(h1:op≤1000) :
  CallsD Tryz.prog 104 #[.pointer (some ⟨E.R,0,none⟩)] u w fun e u' w'=>u'=u∧(e=.returned (.tuple #[])∧az E w' p (op - 1)∧w.grownBy w' (some E.R)):=by
 obtain ⟨c4,f4⟩:=h.out.rd.LU
 go_enter_d Tryz.func104,Tryz.ntmps104
 go_wp2
 go_end0
 exact ⟨rfl,h.out.grown G (gQ _ _ _ _) (h.out.rd.LV (by go_num)),gQ _ _ _ _⟩
def CU (E:Env)(d k:Nat):Prop:=∀ (p:Nat) (r:au Sy.Ex) (w:World),Hid (az E w p (200 - (d:Int)))→p≤E.l.length→Hid (r=Rp.from' E.l E.en (Rp.ahead E.l E.en d) k p) →
 Calls Tryz.prog 145 #[.pointer (some ⟨E.R,0,none⟩),.int .i64 (6 - (k:Int))] w fun e w'=>Ends E (200 - (d:Int)) w r (qP w) e w'
def zM (E:Env)(d:Nat):Prop:=∀ (p:Nat) (r:au Sy.Ex) (w:World),Hid (az E w p (200 - (d:Int)))→p≤E.l.length→Hid (r=Rp.ahead E.l E.en d p) →
 Calls Tryz.prog 153 #[.pointer (some ⟨E.R,0,none⟩)] w fun e w'=>Ends E (200 - (d:Int)) w r (qP w) e w'
def nR (E:Env)(d:Nat):Prop:=∀ (p:Nat) (r:au Sy.Ex) (w:World),Hid (az E w p (200 - (d:Int)))→p≤E.l.length→Hid (r=Rp.expr E.l E.en d (Rp.dm E.l E.en d) p) →
 Calls Tryz.prog 129 #[.pointer (some ⟨E.R,0,none⟩)] w fun e w'=>Ends E (200 - (d:Int)) w r (qP w) e w'
def CV (E:Env)(d:Nat):Prop:=∀ (kind:Int) (p:Nat) (r:au Sy.Ex) (w:World),Hid (az E w p (200 - (d:Int)))→p≤E.l.length→Hid (r=Rp.turned E.l E.en d (Rp.dm E.l E.en d) kind p) →
 Calls Tryz.prog 156 #[.pointer (some ⟨E.R,0,none⟩),.int .i64 kind] w fun e w'=>Ends E (200 - (d:Int)) w r (qP w) e w'
theorem World.bC (w:World)(a:Addr)(v:Value):(w.setCell a v).heap.size=w.heap.size:=by simp [World.setCell]
theorem Gr {w:World}{N:Nat}{k n:Int}{s:ByteArray}{v:Value}(h:w.heap[N]?=some (ic k n s v))(a b c d:Value) :
  ((((w.setCell ⟨N,0,none⟩ a).setCell ⟨N,1,none⟩ b).setCell ⟨N,2,none⟩ c).setCell ⟨N,3,none⟩ d).heap[N]?=some (.cells #[a,b,c,d] 122 (0,0)):=by
 simp only [World.setCell,Array.getElem?_modify,if_true,h,Option.map_some]
 rfl
theorem qP.later {w0 w u u':World}{x:Sy.Ex}{v:Value}(h:qP w0 u x v)(hw:w.heap.size≤w0.heap.size)(hs:u.heap.size≤u'.heap.size)(hk:∀ b,w0.heap.size≤b→b<u.heap.size→u'.heap[b]?=u.heap[b]?):qP w u' x v:=by
 obtain ⟨a,c,n,hv,hq⟩:=h
 exact ⟨a,c,n,hv,hq.keep (fun b hb=>⟨⟨by omega,by omega⟩,hk b hb.1 hb.2⟩)⟩
theorem M5 (E:Env)(G:Good E):nR E 0:=by
 intro p r w h hp hr
 have hR:=h.out.lt
 have ae:Hid (r=.error (4,(pk E.l p E.en).pos)):=hr.out
 go_enter_defers Tryz.func129,Tryz.ntmps129
 go_wp2_with fail
 refine (Gp E G p _ (h.out.alloc G _) hp).mono ?_
 rintro e w1 ⟨rfl,hg1,hd1⟩
 have ax:Hid (w.grownBy w1 (some E.R)):=ay (dM (eD (Below.refl _ w)) _) hg1
 have HD1:=aa hd1
 clear hg1 hd1
 go_wp2
 refine ⟨ax.out,?_⟩
 rw [ae.out]
 exact ⟨rfl,HD1.out⟩
theorem WR (E:Env)(G:Good E):CV E 0:=by
 intro kind p r w h hp hr
 have hR:=h.out.lt
 have ae:Hid (r=.error (4,(pk E.l p E.en).pos)):=hr.out
 go_enter_defers Tryz.func156,Tryz.ntmps156
 go_wp2_with fail
 refine (Gp E G p _ (h.out.alloc G _) hp).mono ?_
 rintro e w1 ⟨rfl,hg1,hd1⟩
 have ax:Hid (w.grownBy w1 (some E.R)):=ay (dM (eD (Below.refl _ w)) _) hg1
 have HD1:=aa hd1
 clear hg1 hd1
 go_wp2
 refine ⟨ax.out,?_⟩
 rw [ae.out]
 exact ⟨rfl,HD1.out⟩
theorem WS (E:Env)(G:Good E)(d:Nat)(hd:d<200)(hF:Hid (CU E d 5)):nR E (d+1):=by
 intro p r w h hp hr
 have hR:=h.out.lt
 have hR2:Hid (r=Rp.from' E.l E.en (Rp.ahead E.l E.en d) 5 p):=hr.out
 have zN:Hid ((200:Int) - ((d+1:Nat):Int)+1=200 - (d:Int)):=by unfold Hid;omega
 go_enter_defers Tryz.func129,Tryz.ntmps129
 go_wp2_with fail
 refine (Gq E G p _ _ (h.out.alloc G _) hp (by omega) (by omega)).mono ?_
 rintro e w1 ⟨rfl,hd1,hg1⟩
 rw [zN.out] at hd1
 have ax:Hid (w.grownBy w1 (some E.R)):=ay (dM (eD (Below.refl _ w)) _) hg1
 have HZ1:Hid (w1.heap[w.heap.size]?=some ZE):=aA hg1 (by omega) (heap_alloc_new w ZE)
 have HD1:=aa hd1
 clear hg1 hd1
 go_wp2_with fail
 refine (hF.out p r _ HD1 hp hR2).mono ?_
 rintro e w2 ⟨hg2,hf2⟩
 have HG2:Hid (w.grownBy w2 (some E.R)):=ay ax.out hg2
 have hZ2:w2.heap[w.heap.size]?=some ZE:=aA hg2 (by omega) HZ1.out
 have hw1:w.heap.size<w1.heap.size:=lt_of_block HZ1.out
 cases r with
 | error er =>
  obtain ⟨e1,e2⟩:=er
  obtain ⟨rfl,q,o,hd2,ho1,ho2⟩:=hf2
  have HD2:=aa hd2
  clear hd2 hg2 hZ2
  go_wp2
  refine leaves_cons (f:=104) (args:=#[.pointer (some ⟨E.R,0,none⟩)]) (by simp) (by simp [go_sem]) ?_
  refine (vL E G q o _ _ HD2 (by omega) (by omega)).mono ?_
  rintro e u' w3 ⟨rfl,rfl,hd3,hg3⟩
  exact ⟨ay HG2.out hg3,rfl,q,o - 1,hd3,by omega,by omega⟩
 | ok qx =>
  obtain ⟨q,x⟩:=qx
  obtain ⟨⟨v,rfl,a,c,n,rfl,hq⟩,hd2⟩:=hf2
  have HD2:=aa hd2
  have HQ:=aa hq
  obtain ⟨⟨z0,z1,z2,z3⟩,y0,y1,y2,y3⟩:=fP hZ2
  have M6:E.R<w.heap.size:=hR
  have hW:=Gr hZ2 (.int .i64 x.kind) (.int .i64 x.n) (.string x.name) (.slice a x.kids.length c)
  have Gs:=aa hW
  have zO:=aa (eu HG2.out (Nat.le_refl _) (.int .i64 x.kind) (.int .i64 x.n) (.string x.name) (.slice a x.kids.length c))
  have Gt:Hid (az E ((((w2.setCell ⟨w.heap.size,0,none⟩ (.int .i64 x.kind)).setCell ⟨w.heap.size,1,none⟩ (.int .i64 x.n)).setCell ⟨w.heap.size,2,none⟩ (.string x.name)).setCell ⟨w.heap.size,3,none⟩ (.slice a x.kids.length c)) q (200 - (d:Int))):=h.out.grown G zO.out (HD2.out.rd.four (by omega) _ _ _ _)
  have hz2:=HG2.out.size
  have WT:w1.heap.size≤w2.heap.size:=hg2.size
  clear hd2 hg2 hq hW hZ2
  go_wp2
  refine leaves_cons (f:=104) (args:=#[.pointer (some ⟨E.R,0,none⟩)]) (by simp) (by simp [go_sem]) ?_
  refine (vL E G q _ _ _ Gt (by omega) (by omega)).mono ?_
  rintro e u' w3 ⟨rfl,rfl,hd3,hg3⟩
  obtain ⟨⟨t0,t1,t2,t3⟩,_⟩:=fP (aA hg3 (by omega) Gs.out)
  rw [show (200:Int) - (d:Int) - 1=200 - ((d+1:Nat):Int) by omega] at hd3
  show Leaves _ _ _ _ [] .returning _
  have hs3:=hg3.size
  simp only [World.bC] at hs3
  refine ⟨dH x a c,by simp [results,Tryz.results129,go_sem,t0,t1,t2,t3],ay zO.out hg3,⟨_,rfl,a,c,n,rfl,HQ.out.keep (fun b hb=>⟨⟨by omega,by omega⟩,?_⟩)⟩,hd3⟩
  rw [hg3.block b (by simp only [World.bC];omega) (by simp;omega),kz (by omega)]
end Go.Proofs.YtolfleeidpeomaaGreatDoor

/- A task that runs by itself,plainly: who is fed more says no less;step by step. -/
import Derived.Test.YthffafaoobpedaaGreatDoorM31
import Derived.Test.YthffafaoobpedaaGreatDoorM30
import Derived.Test.YthffafaoobpedaaGreatDoorM27
set_option maxRecDepth 100000
set_option maxHeartbeats 2000000
namespace Go.Proofs.YthffafaoobpedaaGreatDoor.Vw
open Go.RowKit Vf Vm
section
variable {β:Type} {X:fO β} {m:Md}
theorem aaZ {n:Nat}{t:Tk}{x:β}(h:(stat X m t x).1=1):go X m (n+1) t x=((go X m n (one X m t x).1 (one X m t x).2).1+1,(go X m n (one X m t x).1 (one X m t x).2).2):=by
 show (if (stat X m t x).1=1 then _ else _:Nat × Tk × β)=_
 rw [if_pos h]
theorem aa0 {n:Nat}{t:Tk}{x:β}(h:¬ (stat X m t x).1=1):go X m n t x=(0,t,x):=by
 cases n with
 | zero=>rfl
 | succ n =>
  show (if (stat X m t x).1=1 then _ else _:Nat × Tk × β)=_
  rw [if_neg h]
theorem Pg:∀ (n:Nat) (t:Tk) (x:β),(go X m n t x).1≤n
 | 0,_,_=>Nat.le_refl _
 | n+1,t,x=>by
  by_cases h:(stat X m t x).1=1
  ·rw [aaZ h];have:=Pg n (one X m t x).1 (one X m t x).2;simp;omega
  ·rw [aa0 h];simp
end
structure Later (t:Tk) (x:List aR) (t':Tk) (x':List aR):Prop where
 out:t.out <+: t'.out
 len:x.length=x'.length
 sent:∀ (i:Nat) q q',x[i]?=some q→x'[i]?=some q'→q.sent <+: q'.sent
theorem Later.refl (t:Tk)(x:List aR):Later t x t x:=⟨List.prefix_rfl,rfl,fun i q q' h h'=>by rw [h] at h';cases h';exact List.prefix_rfl⟩
theorem Later.trans {t t1 t2:Tk}{x x1 x2:List aR}(h:Later t x t1 x1)(k:Later t1 x1 t2 x2):Later t x t2 x2 :=
 ⟨h.out.trans k.out,h.len.trans k.len,fun i q q' hq hq'=>by
  obtain ⟨q1,h1⟩:∃ q,x1[i]?=some q:=⟨_,List.getElem?_eq_getElem (by rw [← h.len];exact (List.getElem?_eq_some_iff.1 hq).1)⟩
  exact (h.sent i q q1 hq h1).trans (k.sent i q1 q' h1 hq')⟩
theorem Pj (x:List aR)(b:Nat)(v:Int):x.length=(aC.put x b v).length∧∀ (i:Nat) q q',x[i]?=some q→(aC.put x b v)[i]?=some q'→q.sent <+: q'.sent:=by
 cases hb:x[b]? with
 | none=>simp only [aC,hb];exact ⟨trivial,fun i q q' h h'=>by rw [h] at h';cases h';exact List.prefix_rfl⟩
 | some q0 =>
  simp only [aC,hb]
  refine ⟨by simp,fun i q q' h h'=>?_⟩
  rw [List.getElem?_set] at h'
  split at h'
  ·rename_i e
   subst e
   split at h'
   ·cases h';rw [hb] at h;cases h;exact List.prefix_append _ _
   ·cases h'
  ·rw [h] at h';cases h';exact List.prefix_rfl
theorem Pk (x:List aR)(b:Nat):x.length=(aC.take x b).length∧∀ (i:Nat) q q',x[i]?=some q→(aC.take x b)[i]?=some q'→q.sent <+: q'.sent:=by
 cases hb:x[b]? with
 | none=>simp only [aC,hb];exact ⟨trivial,fun i q q' h h'=>by rw [h] at h';cases h';exact List.prefix_rfl⟩
 | some q0 =>
  simp only [aC,hb]
  refine ⟨by simp,fun i q q' h h'=>?_⟩
  rw [List.getElem?_set] at h'
  split at h'
  ·rename_i e
   subst e
   split at h'
   ·cases h';rw [hb] at h;cases h;exact List.prefix_rfl
   ·cases h'
  ·rw [h] at h';cases h';exact List.prefix_rfl
structure mQ (x x':List aR):Prop where
 len:x.length=x'.length
 at':∀ (i:Nat) q q',x[i]?=some q→x'[i]?=some q'→q.took=q'.took∧q.sent=q'.sent∧q.feed <+: q'.feed∧q.took≤q.feed.length
theorem mQ.some {x x':List aR}(h:mQ x x'){i:Nat}{q:aR}(hq:x[i]?=some q):∃ q',x'[i]?=some q':=⟨_,List.getElem?_eq_getElem (by rw [← h.len];exact (List.getElem?_eq_some_iff.1 hq).1)⟩
theorem mQ.none {x x':List aR}(h:mQ x x'){i:Nat}(hq:x[i]?=none):x'[i]?=none:=by
 rw [List.getElem?_eq_none_iff] at hq ⊢
 rw [← h.len];exact hq
theorem mQ.empty {x x':List aR}(h:mQ x x')(b:Nat)(he:aC.empty x b=false):aC.empty x' b=false∧aC.head x b=aC.head x' b:=by
 cases hb:x[b]? with
 | none=>simp [aC,hb] at he
 | some q =>
  obtain ⟨q',hb'⟩:=h.some hb
  obtain ⟨e1,e2,e3,e4⟩:=h.at' b q q' hb hb'
  simp [aC,hb] at he
  obtain ⟨r,hr⟩:=e3
  simp only [aC,hb,hb',← hr,← e1]
  refine ⟨by simp;omega,?_⟩
  rw [List.getElem?_append_left (by omega)]
theorem mQ.put {x x':List aR}(h:mQ x x')(b:Nat)(v:Int):mQ (aC.put x b v) (aC.put x' b v):=by
 refine ⟨by rw [← (Pj x b v).1,← (Pj x' b v).1];exact h.len,fun i q q' hq hq'=>?_⟩
 cases hb:x[b]? with
 | none =>
  have hb':=h.none hb
  simp only [aC,hb] at hq
  simp only [aC,hb'] at hq'
  exact h.at' i q q' hq hq'
 | some p =>
  obtain ⟨p',hb'⟩:=h.some hb
  simp only [aC,hb] at hq
  simp only [aC,hb'] at hq'
  rw [List.getElem?_set] at hq hq'
  by_cases e:b=i
  ·subst e
   rw [if_pos rfl] at hq hq'
   split at hq
   ·split at hq'
    ·cases hq;cases hq'
     obtain ⟨e1,e2,e3,e4⟩:=h.at' b p p' hb hb'
     exact ⟨e1,by show p.sent ++ [v]=p'.sent ++ [v];rw [e2],e3,e4⟩
    ·cases hq'
   ·cases hq
  ·rw [if_neg e] at hq hq'
   exact h.at' i q q' hq hq'
theorem mQ.take {x x':List aR}(h:mQ x x')(b:Nat)(he:aC.empty x b=false):mQ (aC.take x b) (aC.take x' b):=by
 refine ⟨by rw [← (Pk x b).1,← (Pk x' b).1];exact h.len,fun i q q' hq hq'=>?_⟩
 cases hb:x[b]? with
 | none =>
  have hb':=h.none hb
  simp only [aC,hb] at hq
  simp only [aC,hb'] at hq'
  exact h.at' i q q' hq hq'
 | some p =>
  obtain ⟨p',hb'⟩:=h.some hb
  simp [aC,hb] at he
  simp only [aC,hb] at hq
  simp only [aC,hb'] at hq'
  rw [List.getElem?_set] at hq hq'
  by_cases e:b=i
  ·subst e
   rw [if_pos rfl] at hq hq'
   split at hq
   ·split at hq'
    ·cases hq;cases hq'
     obtain ⟨e1,e2,e3,e4⟩:=h.at' b p p' hb hb'
     exact ⟨by show p.took+1=p'.took+1;rw [e1],e2,e3,by show p.took+1≤p.feed.length;omega⟩
    ·cases hq'
   ·cases hq
  ·rw [if_neg e] at hq hq'
   exact h.at' i q q' hq hq'
theorem aa1 {B:Nat}{w:World}{m:Md}{ab au:Option Addr}(cu:Nat)(h:bg B w m ab au)(hf:m.units.length≤30):∃ cv cc,l9 ⟨m,B,au,cu,cv,cc⟩ w:=by
 have key:∀ i:Nat,∃ p:Option Addr × Nat,∀ u,m.units[i]?=some u→∃ b off al cl,au=some ⟨b,off,none⟩∧b < B∧gT B w u al p.1 cl p.2∧w.cell? ⟨b,off+i * 6,none⟩=some (.int .i64 u.kind)∧w.cell? ⟨b,off+i * 6+1,none⟩=some (.int .i64 u.params)∧w.cell? ⟨b,off+i * 6+2,none⟩=some (.slice al u.locals.length cl)∧w.cell? ⟨b,off+i * 6+3,none⟩=some (.int .i64 u.result)∧w.cell? ⟨b,off+i * 6+4,none⟩=some (.int .i64 u.takes)∧w.cell? ⟨b,off+i * 6+5,none⟩=some (.slice p.1 u.code.length p.2):=fun i=>by
  cases hu:m.units[i]? with
  | none=>exact ⟨(none,0),fun u e=>by cases e⟩
  | some u =>
   obtain ⟨b,off,al,cl,ac,cc,e,hb,hun,c0,c1,c2,c3,c4,c5⟩:=h.units i u hu
   exact ⟨(ac,cc),fun u' e'=>by cases e';exact ⟨b,off,al,cl,e,hb,hun,c0,c1,c2,c3,c4,c5⟩⟩
 exact ⟨fun i=>(key i).choose.1,fun i=>(key i).choose.2,hf,fun i u hu=>(key i).choose_spec u hu⟩
def lab (Q:Nat→Nat)(n:Nat):ay:=fun b=>match (List.range n).find? (fun i=>Q i == b) with | some i=>⟨2,i,0,0⟩ | none=>⟨0,0,0,0⟩
theorem aa2 {Q:Nat→Nat}{n:Nat}(hinj:∀ i j,i < j→j < n→Q i < Q j){i:Nat}(hi:i < n):lab Q n (Q i)=⟨2,i,0,0⟩:=by
 unfold lab
 have:(List.range n).find? (fun j=>Q j == Q i)=some i:=by
  rw [List.find?_eq_some_iff_getElem]
  refine ⟨by simp,i,by simpa using hi,by simp,fun j hj=>?_⟩
  have:=hinj j i hj hi
  simp
  omega
 rw [this]
theorem He {Q:Nat→Nat}{n b:Nat}(h:∀ i,i < n→Q i≠b):lab Q n b=⟨0,0,0,0⟩:=by
 unfold lab
 have:(List.range n).find? (fun j=>Q j == b)=none:=by
  rw [List.find?_eq_none]
  intro i hi
  simpa using h i (by simpa using hi)
 rw [this]
theorem aa3 (Q:Nat→Nat)(n b:Nat):(lab Q n b).cls≠1:=by
 unfold lab
 split <;> simp
def mR (fs:List (List Int)):List aR:=fs.map fun f=>⟨f,0,[]⟩
theorem Pm {fs:List (List Int)}{i:Nat}{q:aR}(h:(mR fs)[i]?=some q):∃ f,fs[i]?=some f∧q=⟨f,0,[]⟩:=by
 unfold mR at h
 rw [List.getElem?_map] at h
 cases hf:fs[i]? with
 | none=>rw [hf] at h;cases h
 | some f=>rw [hf] at h;cases h;exact ⟨f,rfl,rfl⟩
theorem aa4 {w wr:World}{B:Nat}{fs:List (List Int)}{a:Option Addr}{fa:Nat→Option Addr}{fc:Nat→Nat}{vl:Value}{ba:Option Addr}{bc:Nat}{Q:Nat→Nat}(c:Cx)(hcB:c.B=B)(hF:jD B w fs a fa fc)(hB:B≤w.heap.size)(h:uE w fs fa fc fs.length vl (.slice ba fs.length bc) Q wr)(hn:fs.length=c.m.boxes.length) :
  ∃ rb,bA c.B (lab Q fs.length) wr∧jP Q fs.length rb 0 (lab Q fs.length) wr (mR fs)∧lF (nJ Q fs.length rb 0) aC c (.slice ba fs.length bc)∧(∀ b,b < w.heap.size→(lab Q fs.length b).cls=0)∧(∀ b,vl.ownBlock=some b→(lab Q fs.length b).cls=0):=by
 have hz:=h.below.size
 have old:∀ b,b < w.heap.size→(lab Q fs.length b).cls=0:=fun b hb=>by rw [He (fun i hi e=>by have:=h.low i hi;omega)]
 have qz:∀ i,i < fs.length→Q i < wr.heap.size:=fun i hi=>by
  obtain ⟨f,hf⟩:∃ f,fs[i]?=some f:=⟨_,List.getElem?_eq_getElem hi⟩
  exact lt_of_block (h.blk i f hi hf)
 have Hf:∀ {e n g:Nat} {v:Value} {xs:List Value},wr.ownsRow w.heap.size e 1 v n xs→e≠76→v.ownBlock=some g→(lab Q fs.length g).cls=0:=fun ho he hg=>by
  rw [He (fun i hi e2=>?_)]
  obtain ⟨f,hf⟩:∃ f,fs[i]?=some f:=⟨_,List.getElem?_eq_getElem hi⟩
  have hb:=h.blk i f hi hf
  obtain ⟨cur,hc⟩:=jE ho hg
  rw [e2,hc] at hb
  simp at hb
  exact he hb.2
 have hok:bA c.B (lab Q fs.length) wr:=⟨fun b hb=>old b (by omega),fun b hb=>by rw [He (fun i hi e=>by have:=qz i hi;omega)],by omega⟩
 have hlists:∀ (n:Nat) q,(mR fs)[n]?=some q→∃ af cf vS,jO (lab Q fs.length) wr (Q n) n q af cf vS:=fun n q hq=>by
  obtain ⟨f,hf,rfl⟩:=Pm hq
  have hnl:=(List.getElem?_eq_some_iff.1 hf).1
  refine ⟨fa n,fc n,.slice none 0 0,h.blk n f hnl hf,fun i v hv=>?_,(hF.words n f hf).1,Nat.zero_le _,⟨rfl,.inl ⟨rfl,rfl⟩⟩,aa2 h.inj hnl,fun b hb=>by cases hb⟩
  obtain ⟨b,off,e,hb,hc⟩:=(hF.words n f hf).2 i v hv
  exact ⟨b,off,e,by omega,old b (by omega),(aS (h.below.block b (by omega)) _).trans hc⟩
 cases ba with
 | none =>
  have h0:fs.length=0:=by
   rcases h.mP.2 with ⟨_,h0⟩ | ⟨g,cap,cur,e,_⟩
   ·exact h0
   ·simp at e
  refine ⟨0,hok,⟨by simp [mR],fun n hn=>by omega,hlists⟩,⟨fun n hn=>by omega⟩,old,fun b hb=>Hf h.ptr (by decide) hb⟩
 | some ad =>
  rcases h.mP.2 with ⟨e,_⟩ | ⟨g,cap,cur,e,hr⟩
  ·simp at e
  ·simp at e
   obtain ⟨rfl,rfl⟩:=e
   refine ⟨g,hok,⟨by simp [mR],fun n hn=>?_,hlists⟩,?_,old,fun b hb=>Hf h.ptr (by decide) hb⟩
   ·obtain ⟨g',e',hc⟩:=zA h.mP (aat Q hn)
    cases e'
    exact ⟨lt_of_block hr.2.1,Hf h.mP (by decide) rfl,by rw [Nat.zero_add];exact hc⟩
   ·rw [hn]
    exact Xa Q g 0 bc c
def qI (m:Md)(task most:Int)(fs:List (List Int)):Int :=
 if (verify m).1≠0 then (verify m).1
 else if task < 0∨((dE m.units m.units.length).length:Int)≤task∨most < 0∨5000 < most then 3
 else uD m.boxes fs
def uH (m:Md)(task:Int):Nat:=((dE m.units m.units.length)[task.toNat]?).getD 0
def eT (m:Md)(task most:Int)(fs:List (List Int)):Nat × Tk × List aR:=go aC m most.toNat (sN (unit m (uH m task)) (uH m task)) (mR fs)
structure nU (w:World) (t:Tk) (x:List aR) (vO vS vT:Value):Prop where
 out:w.ownsRow 0 2 1 vO t.out.length (ints t.out)
 sent:∃ sv,w.ownsRow 0 22 1 vS x.length (nQ sv x.length)∧∀ (i:Nat) q,x[i]?=some q→w.ownsRow 0 2 1 (sv i) q.sent.length (ints q.sent)
 took:w.ownsRow 0 3 1 vT x.length (kE x x.length)
theorem nU.below {w w':World}{t:Tk}{x:List aR}{vO vS vT:Value}(h:nU w t x vO vS vT)(hb:Below w.heap.size w w'):nU w' t x vO vS vT:=by
 have k:∀ {e n:Nat} {v:Value} {xs:List Value},w.ownsRow 0 e 1 v n xs→w'.ownsRow 0 e 1 v n xs:=fun h=>bU h (fun b hx=>hb.block b (h.lt b hx).2)
 obtain ⟨sv,s1,s2⟩:=h.sent
 exact ⟨k h.out,⟨sv,k s1,fun i q hq=>k (s2 i q hq)⟩,k h.took⟩
theorem aa5 {m:Md}{task:Int}(h0:0≤task)(h1:task < (dE m.units m.units.length).length):(dE m.units m.units.length)[task.toNat]?=some (uH m task)∧∃ u,m.units[uH m task]?=some u∧u.kind=4:=by
 have e:(dE m.units m.units.length)[task.toNat]?=some (uH m task):=by
  unfold uH
  rw [List.getElem?_eq_getElem (by omega)]
  rfl
 refine ⟨e,?_⟩
 have:=List.mem_of_getElem? e
 unfold dE at this
 rw [List.mem_filter] at this
 simpa using this.2
theorem aa6 {m:Md}{K:KM}(hK:mf m K){fs:List (List Int)}(hl:fs.length=m.boxes.length)(hw:oO m.boxes fs=false){n:Nat}{u:Un}(hu:m.units[n]?=some u)(h4:u.kind=4):LI m K fs 0 (sN u n) (mR fs):=by
 obtain ⟨G,hG⟩:=Vq hK hu h4
 refine ⟨.inr ⟨G,[],hG⟩,.inl rfl,Nat.le_refl _,Nat.le_refl _,by simp [mR,hl],fun i q hq=>?_⟩
 obtain ⟨f,hf,rfl⟩:=Pm hq
 refine ⟨hf,Nat.zero_le _,Nat.le_refl _,fun h2=>⟨?_,rfl⟩⟩
 obtain ⟨b,hb⟩:∃ b,m.boxes[i]?=some b:=⟨_,List.getElem?_eq_getElem (by have:=(List.getElem?_eq_some_iff.1 hf).1;omega)⟩
 simp only [gP,Int.toNat_natCast,hb,Option.map_some,Option.getD_some] at h2
 exact aai hw i b f hb hf h2
theorem aa7 {w w1:World}(h:w.grownBy w1 none):Below w.heap.size w w1:=⟨h.os,h.tape,h.output,h.size,fun b hb=>h.block b hb (by simp)⟩
abbrev lQ (m:Md) (ab au:Option Addr) (cb cu:Nat):Obj:=.cells #[.slice ab m.boxes.length cb,.slice au m.units.length cu] 38 (0,0)
theorem mJ {w:World}{b:Nat}{m:Md}{ab au:Option Addr}{cb cu:Nat}(h:w.heap[b]?=some (lQ m ab au cb cu)):w.cell? ⟨b,0,none⟩=some (.slice ab m.boxes.length cb)∧w.cell? ⟨b,1,none⟩=some (.slice au m.units.length cu):=by simp [World.cell?,h]
structure So (w:World) (m:Md) (ab au:Option Addr) (cb cu:Nat) (wr:World):Prop where
 below:Below w.heap.size w wr
 md:wr.heap[w.heap.size]?=some (lQ m ab au cb cu)
 zero:wr.heap[w.heap.size+1]?=some jU
theorem So.on {w:World}{m:Md}{ab au:Option Addr}{cb cu:Nat}{wr wr':World}(h:So w m ab au cb cu wr)(hb:Below wr.heap.size wr wr'):So w m ab au cb cu wr' :=
 ⟨h.below.trans (hb.mono h.below.size),(hb.block _ (lt_of_block h.md)).trans h.md,(hb.block _ (lt_of_block h.zero)).trans h.zero⟩
theorem So.first (w:World)(m:Md)(ab au:Option Addr)(cb cu:Nat):So w m ab au cb cu ((w.alloc (lQ m ab au cb cu)).alloc jU):=by
 have e:(w.alloc (lQ m ab au cb cu)).heap.size=w.heap.size+1:=by simp
 refine ⟨((Below.refl _ w).alloc (Nat.le_refl _) _).alloc (by simp) _,(Below.heap_alloc _ _ _ (by simp)).trans (heap_alloc_new w _),?_⟩
 rw [← e]
 exact heap_alloc_new _ _
abbrev iF (w:World) (b:Nat) (v0 v1 v2 v3 v4 v5 v6:Value):World:=((((((w.setCell ⟨b,0,none⟩ v0).setCell ⟨b,1,none⟩ v1).setCell ⟨b,2,none⟩ v2).setCell ⟨b,3,none⟩ v3).setCell ⟨b,4,none⟩ v4).setCell ⟨b,5,none⟩ v5).setCell ⟨b,6,none⟩ v6
theorem uI {w:World}{b:Nat}{v0 v1 v2 v3 v4 v5 v6:Value}(h:w.heap[b]?=some jU):((iF w b v0 v1 v2 v3 v4 v5 v6).cell? ⟨b,0,none⟩=some v0∧(iF w b v0 v1 v2 v3 v4 v5 v6).cell? ⟨b,1,none⟩=some v1∧(iF w b v0 v1 v2 v3 v4 v5 v6).cell? ⟨b,2,none⟩=some v2∧(iF w b v0 v1 v2 v3 v4 v5 v6).cell? ⟨b,3,none⟩=some v3∧(iF w b v0 v1 v2 v3 v4 v5 v6).cell? ⟨b,4,none⟩=some v4∧(iF w b v0 v1 v2 v3 v4 v5 v6).cell? ⟨b,5,none⟩=some v5∧(iF w b v0 v1 v2 v3 v4 v5 v6).cell? ⟨b,6,none⟩=some v6):=by
 have:(iF w b v0 v1 v2 v3 v4 v5 v6).heap[b]?=some (.cells #[v0,v1,v2,v3,v4,v5,v6] 29 (0,0)):=by
  simp only [World.setCell,Array.getElem?_modify,if_true,h,Option.map_some]
  rfl
 generalize iF w b v0 v1 v2 v3 v4 v5 v6=W at this ⊢
 simp [World.cell?,this]
theorem aa8 {w:World}{b:Nat}{v0 v1 v2 v3 v4 v5 v6:Value}{b':Nat}(hn:b'≠b):(iF w b v0 v1 v2 v3 v4 v5 v6).heap[b']?=w.heap[b']?:=by
 rw [Below.heap_setCell _ ⟨b,6,none⟩ _ _ hn,Below.heap_setCell _ ⟨b,5,none⟩ _ _ hn,Below.heap_setCell _ ⟨b,4,none⟩ _ _ hn,Below.heap_setCell _ ⟨b,3,none⟩ _ _ hn,Below.heap_setCell _ ⟨b,2,none⟩ _ _ hn,Below.heap_setCell _ ⟨b,1,none⟩ _ _ hn,Below.heap_setCell _ ⟨b,0,none⟩ _ _ hn]
theorem uJ {w0 w:World}{B b:Nat}{v0 v1 v2 v3 v4 v5 v6:Value}(h:Below B w0 w)(hB:B≤b):Below B w0 (iF w b v0 v1 v2 v3 v4 v5 v6) :=
 ((((((h.setCell (p:=⟨b,0,none⟩) hB _).setCell (p:=⟨b,1,none⟩) hB _).setCell (p:=⟨b,2,none⟩) hB _).setCell (p:=⟨b,3,none⟩) hB _).setCell (p:=⟨b,4,none⟩) hB _).setCell (p:=⟨b,5,none⟩) hB _).setCell (p:=⟨b,6,none⟩) hB _
theorem Cr {w:World}{b:Nat}{v0 v1 v2 v3 v4 v5 v6:Value}(h:w.heap[b]?=some jU){B e n:Nat}{v:Value}{xs:List Value}(ho:w.ownsRow B e 1 v n xs)(he:e≠29):(iF w b v0 v1 v2 v3 v4 v5 v6).ownsRow B e 1 v n xs :=
 bU ho (fun k hk=>aa8 (fun e2=>by
  obtain ⟨cur,hc⟩:=jE ho hk
  rw [e2,h] at hc
  simp at hc
  exact he hc.2.symm))
theorem nU.fill {w:World}{b:Nat}{v0 v1 v2 v3 v4 v5 v6:Value}(h:w.heap[b]?=some jU){t:Tk}{x:List aR}{vO vS vT:Value}(k:nU w t x vO vS vT):nU (iF w b v0 v1 v2 v3 v4 v5 v6) t x vO vS vT:=by
 obtain ⟨sv,s1,s2⟩:=k.sent
 exact ⟨Cr h k.out (by decide),⟨sv,Cr h s1 (by decide),fun i q hq=>Cr h (s2 i q hq) (by decide)⟩,Cr h k.took (by decide)⟩
theorem So.p8 {w:World}{m:Md}{ab au:Option Addr}{cb cu:Nat}{wr wr':World}{L:ay}{o:Nat}(h:So w m ab au cb cu wr)(hC:aP (WB L o) wr wr')(hL:∀ b,b < w.heap.size+2→(L b).cls=0):So w m ab au cb cu wr':=by
 have k:∀ b,b < w.heap.size+2→b < wr.heap.size→wr'.heap[b]?=wr.heap[b]?:=fun b hb hz=>hC.block b hz (fun hx=>by have:=hL b hb;unfold WB EB at hx;omega)
 have hz:=h.below.size
 exact ⟨⟨hC.os.trans h.below.os,hC.tape.trans h.below.tape,hC.output.trans h.below.output,Nat.le_trans hz hC.size,fun b hb=>(k b (by omega) (by omega)).trans (h.below.block b hb)⟩,(k _ (by omega) (lt_of_block h.md)).trans h.md,(k _ (by omega) (lt_of_block h.zero)).trans h.zero⟩
theorem jP.sv {Q:Nat→Nat}{nb rb off:Nat}{L:ay}{w:World}{x:List aR}(h:jP Q nb rb off L w x):∃ sv:Nat→Value,∀ (i:Nat) q,x[i]?=some q→∃ af cf,jO L w (Q i) i q af cf (sv i):=by
 have key:∀ i:Nat,∃ v:Value,∀ q,x[i]?=some q→∃ af cf,jO L w (Q i) i q af cf v:=fun i=>by
  cases hx:x[i]? with
  | none=>exact ⟨.slice none 0 0,fun q e=>by cases e⟩
  | some q =>
   obtain ⟨af,cf,vS,hA⟩:=h.lists i q hx
   exact ⟨vS,fun q' e=>by cases e;exact ⟨af,cf,hA⟩⟩
 exact ⟨fun i=>(key i).choose,fun i q hq=>(key i).choose_spec q hq⟩
theorem aa9 (m:Md)(ab au:Option Addr)(cb cu B:Nat)(fs:List (List Int))(a:Option Addr)(cap:Nat)(fa:Nat→Option Addr)(fc:Nat→Nat)(w:World)(hmd:Hid (bg B w m ab au))(fw:Hid (jD B w fs a fa fc))(hB:B≤w.heap.size)(task most:Int)(E:Int)(hE:Hid (E=qI m task most fs)) :
  Calls Tryz.prog 15 #[fe m ab au cb cu,.int .i64 task,.slice a fs.length cap,.int .i64 most] w fun e w'=>Below w.heap.size w w'∧((E≠0∧e=.returned (.tuple #[iY 0 0 0 (.slice none 0 0) (.slice none 0 0) (.slice none 0 0) 0,.int .i64 E])) ∨
   (E=0∧∃ vO vS vT,e=.returned (.tuple #[iY (stat aC m (eT m task most fs).2.1 (eT m task most fs).2.2).1 (stat aC m (eT m task most fs).2.1 (eT m task most fs).2.2).2 (eT m task most fs).2.1.trap vO vS vT (eT m task most fs).1,.int .i64 0])∧nU w' (eT m task most fs).2.1 (eT m task most fs).2.2 vO vS vT∧∃ K,mf m K∧LI m K fs (eT m task most fs).1 (eT m task most fs).2.1 (eT m task most fs).2.2)):=by
 obtain ⟨R,hR⟩:∃ R,R=eT m task most fs:=⟨_,rfl⟩
 rw [← hR]
 have HRR:=Sb.hide hR
 obtain ⟨s,hs⟩:∃ s,s=(stat aC m R.2.1 R.2.2).1:=⟨_,rfl⟩
 obtain ⟨q,hq⟩:∃ s,s=(stat aC m R.2.1 R.2.2).2:=⟨_,rfl⟩
 rw [← hs,← hq]
 have HS:=Sb.hide hs
 have HQ:=Sb.hide hq
 clear hR hs hq
 obtain ⟨ve,Pn⟩:∃ v,v=verify m:=⟨_,rfl⟩
 have xk:=Sb.hide Pn
 clear Pn
 have aO:=Sb.hide (So.first w m ab au cb cu)
 have Ey:Hid (bg B ((w.alloc (lQ m ab au cb cu)).alloc jU) m ab au):=hmd.out.low (aO.out.below.mono hB).block
 have c0:=mJ aO.out.md
 go_enter Tryz.func15,Tryz.ntmps15
 go_wp2_with fail
 generalize (w.alloc (lQ m ab au cb cu)).alloc jU=W0 at *
 refine (Z0 m ab au cb cu B _ Ey (by have:=aO.out.below.size;omega) ve xk).mono ?_
 rintro e w1 ⟨rfl,hg1⟩
 have aN:=Sb.hide (aO.out.on (aa7 hg1))
 clear hg1 c0
 by_cases h0:ve.1=0
 ·have e0:(ve.1 != 0)=false:=by simpa using h0
  have aY:Hid (E=if task < 0∨((dE m.units m.units.length).length:Int)≤task∨most < 0∨5000 < most then 3 else uD m.boxes fs):=by
   unfold Hid
   rw [hE.out,qI,if_neg (by rw [← xk.out];simpa using h0)]
  have hright:verify m=(0,0,0):=by
   rw [← xk.out]
   have e:∀ n k,(from' m n k).1=0→from' m n k=(0,0,0):=by
    intro n
    induction n with
    | zero=>intro k _;rfl
    | succ n ih =>
     intro k hk
     unfold from' at hk ⊢
     split
     ·rename_i e;rw [if_pos e] at hk;exact ih _ hk
     ·rename_i e;rw [if_neg e] at hk;exact absurd hk e
   rw [xk.out] at h0 ⊢
   exact e 6 0 h0
  obtain ⟨⟨K,hK⟩,hbl⟩:=aae hright
  have HK:=Sb.hide hK
  have HRG:=Sb.hide hright
  have hz1:=lt_of_block aN.out.zero
  have bN:=Sb.hide (aN.out.on ((Below.refl _ w1).alloc (Nat.le_refl _) (.cells #[.int .i64 ve.1,.int .i64 ve.2.1,.int .i64 ve.2.2] 44)))
  have v1:(w1.alloc (.cells #[.int .i64 ve.1,.int .i64 ve.2.1,.int .i64 ve.2.2] 44)).cell? ⟨w1.heap.size,0,none⟩=some (.int .i64 ve.1):=by simp [World.cell?_alloc_mark]
  obtain ⟨cv,cc,hcx⟩:=aa1 cu hmd.out hK.rt.units
  have Hg:Hid (∀ W,So w m ab au cb cu W→l9 ⟨m,B,au,cu,cv,cc⟩ W):=fun W hW=>hcx.low (hW.below.mono hB).block
  have Hl:Hid (∀ W,So w m ab au cb cu W→jD B W fs a fa fc):=fun W hW=>fw.out.low (hW.below.mono hB).block
  have ry:Hid (∀ W,So w m ab au cb cu W→vN B W m.boxes ab):=fun W hW=>(hmd.out.low (hW.below.mono hB).block).boxes
  have xm:Hid (∀ W,So w m ab au cb cu W→B≤W.heap.size∧w.heap.size+2≤W.heap.size):=fun W hW=>⟨by have:=hW.below.size;omega,lt_of_block hW.zero⟩
  clear h0 hK hright hcx
  have c2:=mJ bN.out.md
  go_wp2_with fail
  generalize w1.alloc (.cells #[.int .i64 ve.1,.int .i64 ve.2.1,.int .i64 ve.2.2] 44)=W2 at *
  refine (GN ⟨m,B,au,cu,cv,cc⟩ ab cb _ (Sb.hide (Hg.out _ bN.out)) (xm.out _ bN.out).1).mono ?_
  rintro e w3 ⟨vl,rfl,hT⟩
  obtain ⟨_,hb3,ho3⟩:=hT
  obtain ⟨ta,tc,rfl⟩:=mO ho3
  have jy:=Sb.hide (bN.out.on hb3)
  have HT3:=Sb.hide ho3
  have c3:=mJ jy.out.md
  have z3:=(eQ jy.out.zero).1
  have zf3:=(eQ jy.out.zero).2
  have hNN:(dE m.units m.units.length).length≤30:=by have:=OU m.units m.units.length;have:=HK.out.rt.units;omega
  obtain ⟨N,hN⟩:∃ N,N=(dE m.units m.units.length).length:=⟨_,rfl⟩
  have HN:=Sb.hide hN
  change Hid (w3.ownsRow W2.heap.size 3 1 (.slice ta (dE m.units m.units.length).length tc) (dE m.units m.units.length).length (oM (dE m.units m.units.length))) at HT3
  rw [← hN] at aY HT3 hNN
  simp only [← hN]
  clear hN hb3 ho3 c2 v1
  by_cases t1:task < 0
  ·have HE2:Hid (E=3):=by unfold Hid;rw [aY.out,if_pos (.inl t1)]
   go_wp2
   have hX:=uI (v0:=.int .i64 0) (v1:=.int .i64 0) (v2:=.int .i64 0) (v3:=.slice none 0 0) (v4:=.slice none 0 0) (v5:=.slice none 0 0) (v6:=.int .i64 0) jy.out.zero
   have iG:=uJ (v0:=.int .i64 0) (v1:=.int .i64 0) (v2:=.int .i64 0) (v3:=.slice none 0 0) (v4:=.slice none 0 0) (v5:=.slice none 0 0) (v6:=.int .i64 0) jy.out.below (Nat.le_succ _)
   unfold iF at hX iG
   obtain ⟨g0,g1,g2,g3,g4,g5,g6⟩:=hX
   generalize ((((((w3.setCell ⟨w.heap.size+1,0,none⟩ (.int .i64 0)).setCell ⟨w.heap.size+1,1,none⟩ (.int .i64 0)).setCell ⟨w.heap.size+1,2,none⟩ (.int .i64 0)).setCell ⟨w.heap.size+1,3,none⟩ (.slice none 0 0)).setCell ⟨w.heap.size+1,4,none⟩ (.slice none 0 0)).setCell ⟨w.heap.size+1,5,none⟩ (.slice none 0 0)).setCell ⟨w.heap.size+1,6,none⟩ (.int .i64 0)=W4 at *
   refine bodyPost_ret (v:=.tuple #[iY 0 0 0 (.slice none 0 0) (.slice none 0 0) (.slice none 0 0) 0,.int .i64 3]) (by simp [results,Tryz.xn,go_sem,g0,g1,g2,g3,g4,g5,g6]) rfl ⟨iG,.inl ⟨?_,?_⟩⟩
   ·first | exact jR.out | (rw [HE2.out];exact jR.out) | (rw [HE2.out];decide)
   ·first | rfl | rw [HE2.out]
  by_cases t2:(N:Int)≤task
  ·have HE2:Hid (E=3):=by unfold Hid;rw [aY.out,if_pos (.inr (.inl t2))]
   go_wp2
   have hX:=uI (v0:=.int .i64 0) (v1:=.int .i64 0) (v2:=.int .i64 0) (v3:=.slice none 0 0) (v4:=.slice none 0 0) (v5:=.slice none 0 0) (v6:=.int .i64 0) jy.out.zero
   have iG:=uJ (v0:=.int .i64 0) (v1:=.int .i64 0) (v2:=.int .i64 0) (v3:=.slice none 0 0) (v4:=.slice none 0 0) (v5:=.slice none 0 0) (v6:=.int .i64 0) jy.out.below (Nat.le_succ _)
   unfold iF at hX iG
   obtain ⟨g0,g1,g2,g3,g4,g5,g6⟩:=hX
   generalize ((((((w3.setCell ⟨w.heap.size+1,0,none⟩ (.int .i64 0)).setCell ⟨w.heap.size+1,1,none⟩ (.int .i64 0)).setCell ⟨w.heap.size+1,2,none⟩ (.int .i64 0)).setCell ⟨w.heap.size+1,3,none⟩ (.slice none 0 0)).setCell ⟨w.heap.size+1,4,none⟩ (.slice none 0 0)).setCell ⟨w.heap.size+1,5,none⟩ (.slice none 0 0)).setCell ⟨w.heap.size+1,6,none⟩ (.int .i64 0)=W4 at *
   refine bodyPost_ret (v:=.tuple #[iY 0 0 0 (.slice none 0 0) (.slice none 0 0) (.slice none 0 0) 0,.int .i64 3]) (by simp [results,Tryz.xn,go_sem,g0,g1,g2,g3,g4,g5,g6]) rfl ⟨iG,.inl ⟨?_,?_⟩⟩
   ·first | exact jR.out | (rw [HE2.out];exact jR.out) | (rw [HE2.out];decide)
   ·first | rfl | rw [HE2.out]
  by_cases t3:most < 0
  ·have HE2:Hid (E=3):=by unfold Hid;rw [aY.out,if_pos (.inr (.inr (.inl t3)))]
   go_wp2
   have hX:=uI (v0:=.int .i64 0) (v1:=.int .i64 0) (v2:=.int .i64 0) (v3:=.slice none 0 0) (v4:=.slice none 0 0) (v5:=.slice none 0 0) (v6:=.int .i64 0) jy.out.zero
   have iG:=uJ (v0:=.int .i64 0) (v1:=.int .i64 0) (v2:=.int .i64 0) (v3:=.slice none 0 0) (v4:=.slice none 0 0) (v5:=.slice none 0 0) (v6:=.int .i64 0) jy.out.below (Nat.le_succ _)
   unfold iF at hX iG
   obtain ⟨g0,g1,g2,g3,g4,g5,g6⟩:=hX
   generalize ((((((w3.setCell ⟨w.heap.size+1,0,none⟩ (.int .i64 0)).setCell ⟨w.heap.size+1,1,none⟩ (.int .i64 0)).setCell ⟨w.heap.size+1,2,none⟩ (.int .i64 0)).setCell ⟨w.heap.size+1,3,none⟩ (.slice none 0 0)).setCell ⟨w.heap.size+1,4,none⟩ (.slice none 0 0)).setCell ⟨w.heap.size+1,5,none⟩ (.slice none 0 0)).setCell ⟨w.heap.size+1,6,none⟩ (.int .i64 0)=W4 at *
   refine bodyPost_ret (v:=.tuple #[iY 0 0 0 (.slice none 0 0) (.slice none 0 0) (.slice none 0 0) 0,.int .i64 3]) (by simp [results,Tryz.xn,go_sem,g0,g1,g2,g3,g4,g5,g6]) rfl ⟨iG,.inl ⟨?_,?_⟩⟩
   ·first | exact jR.out | (rw [HE2.out];exact jR.out) | (rw [HE2.out];decide)
   ·first | rfl | rw [HE2.out]
  by_cases t4:5000 < most
  ·have HE2:Hid (E=3):=by unfold Hid;rw [aY.out,if_pos (.inr (.inr (.inr t4)))]
   go_wp2
   have hX:=uI (v0:=.int .i64 0) (v1:=.int .i64 0) (v2:=.int .i64 0) (v3:=.slice none 0 0) (v4:=.slice none 0 0) (v5:=.slice none 0 0) (v6:=.int .i64 0) jy.out.zero
   have iG:=uJ (v0:=.int .i64 0) (v1:=.int .i64 0) (v2:=.int .i64 0) (v3:=.slice none 0 0) (v4:=.slice none 0 0) (v5:=.slice none 0 0) (v6:=.int .i64 0) jy.out.below (Nat.le_succ _)
   unfold iF at hX iG
   obtain ⟨g0,g1,g2,g3,g4,g5,g6⟩:=hX
   generalize ((((((w3.setCell ⟨w.heap.size+1,0,none⟩ (.int .i64 0)).setCell ⟨w.heap.size+1,1,none⟩ (.int .i64 0)).setCell ⟨w.heap.size+1,2,none⟩ (.int .i64 0)).setCell ⟨w.heap.size+1,3,none⟩ (.slice none 0 0)).setCell ⟨w.heap.size+1,4,none⟩ (.slice none 0 0)).setCell ⟨w.heap.size+1,5,none⟩ (.slice none 0 0)).setCell ⟨w.heap.size+1,6,none⟩ (.int .i64 0)=W4 at *
   refine bodyPost_ret (v:=.tuple #[iY 0 0 0 (.slice none 0 0) (.slice none 0 0) (.slice none 0 0) 0,.int .i64 3]) (by simp [results,Tryz.xn,go_sem,g0,g1,g2,g3,g4,g5,g6]) rfl ⟨iG,.inl ⟨?_,?_⟩⟩
   ·first | exact jR.out | (rw [HE2.out];exact jR.out) | (rw [HE2.out];decide)
   ·first | rfl | rw [HE2.out]
  have HE2:Hid (E=uD m.boxes fs):=by unfold Hid;rw [aY.out,if_neg (by omega)]
  go_wp2_with fail
  refine (aaj m.boxes ab cb B fs a cap fa fc _ (Sb.hide (ry.out _ jy.out)) (by omega) (Sb.hide (Hl.out _ jy.out)) (xm.out _ jy.out).1 E HE2).mono ?_
  rintro e w4 ⟨rfl,hb4⟩
  have jJ:=Sb.hide (jy.out.on hb4)
  have um:=Sb.hide hb4
  clear hb4 z3 zf3 c3
  by_cases h5:E=0
  ·have e5:(E != 0)=false:=by simpa using h5
   have tV:=Sb.hide h5
   obtain ⟨hfl,hwf⟩:fs.length=m.boxes.length∧oO m.boxes fs=false:=by
    have:=HE2.out
    rw [h5] at this
    unfold uD at this
    split at this
    ·rename_i hh
     split at this
     ·cases this
     ·rename_i hw;exact ⟨hh,by simpa using hw⟩
    ·cases this
   have jN:=Sb.hide hfl
   have HWF:=Sb.hide hwf
   have Po:fs.length≤30:=by omega
   obtain ⟨tn,rfl⟩:=Int.eq_ofNat_of_zero_le (a:=task) (by omega)
   obtain ⟨mn,rfl⟩:=Int.eq_ofNat_of_zero_le (a:=most) (by omega)
   obtain ⟨Cs,uu,Bn,Pp⟩:=aa5 (m:=m) (task:=(tn:Int)) (by omega) (by have:=HN.out;omega)
   obtain ⟨U,hU⟩:∃ U,U=uH m (tn:Int):=⟨_,rfl⟩
   have HU:=Sb.hide hU
   rw [← hU] at Cs Bn
   have qF:=Sb.hide Bn
   have Pq:=Sb.hide Pp
   obtain ⟨gt,hta,htc⟩:=zA HT3.out (k:=tn) (u:=.int .i64 (U:Int)) (by
    rw [List.getElem?_map]
    simp only [Int.toNat_natCast] at Cs
    rw [Cs]
    rfl)
   have hgt:=World.block_lt_of_cell? w3 _ htc
   have wZ:Hid (∀ W,Below w3.heap.size w3 W→W.cell? ⟨gt,tn,none⟩=some (.int .i64 (U:Int))):=fun W hW=>(aS (hW.block gt hgt) _).trans htc
   subst hta
   clear hfl hwf h5 hU Cs Bn Pp htc t1 t3
   go_wp2_with fail
   refine (aaz B fs a cap fa fc _ (Sb.hide (Hl.out _ jJ.out)) (xm.out _ jJ.out).1 Po).mono ?_
   rintro e w5 ⟨vl,vb,Q,rfl,xq⟩
   obtain ⟨la,lc,rfl⟩:=mO xq.ptr
   obtain ⟨ba,bc,rfl⟩:=mO xq.mP
   obtain ⟨rb,hok,hen,hbx,hold,hvl⟩:=aa4 ⟨m,B,au,cu,cv,cc⟩ rfl (Hl.out _ jJ.out) (xm.out _ jJ.out).1 xq jN.out
   have hb5:=xq.below
   have hd5:Below w5.heap.size w5 w5.drew:=(Below.refl _ _).drew
   have zl:=Sb.hide (jJ.out.on hb5)
   have HD5:=Sb.hide (zl.out.on hd5)
   have tQ:Hid (bA B (lab Q fs.length) w5.drew):=hok.on (Nat.le_refl _)
   have uw:=Sb.hide hen
   have Ps:=Sb.hide hbx
   have HOLD:=Sb.hide hold
   have HVL:=Sb.hide hvl
   have Pt:=Sb.hide xq.ptr
   have HDD:=Sb.hide hd5
   have Hm:Below w3.heap.size w3 w5:=um.out.trans (hb5.mono um.out.size)
   have tc5:=wZ.out _ Hm
   have c5:=mJ zl.out.md
   have Pv:=Sb.hide Hm
   have hsz:=jK (iq (HK.out.rt.heads _ uu qF.out).1).2.1
   have hp0:uu.params=0:=by
    have:=(iq (HK.out.rt.heads _ uu qF.out).1).2.1
    unfold sized at this
    simp [Pq.out] at this
    omega
   have abj:uu.locals.length≤200:=hsz.1
   have Bz:Hid (∀ b,¬ ((lab Q fs.length b).cls=1∧(lab Q fs.length b).idx=0)):=fun b hx=>aa3 Q fs.length b hx.1
   have n0:(0:Int)≤(tn:Int):=by omega
   have n1:(tn:Int) < (N:Int):=by omega
   obtain ⟨c51,c52⟩:=c5
   clear xq hok hen hbx hold hvl hb5 hd5 hsz Hm
   go_wp2_with fail
   go_region_held3 (fun w'=>(w'.cell? ⟨w.heap.size,0,none⟩=some (.slice ab m.boxes.length cb)∧w'.cell? ⟨w.heap.size,1,none⟩=some (.slice au m.units.length cu))∧w'.cell? ⟨gt,tn,none⟩=some (.int .i64 (U:Int))) (go_keep) ((go_at_call 21;refine (WN ⟨m,B,au,cu,cv,cc⟩ (lab Q fs.length) 0 _ tQ (Sb.hide (by exact Hg.out _ HD5.out)) Bz ab cb ba fs.length bc U uu qF hp0 abj).mono ?_;rintro e w6 ⟨T,L6,P6,Pw,Px,rfl,Py,hL6,Pz,hb6⟩;have qC:Hid (Below w5.heap.size w5 w6):=HDD.out.trans (hb6.mono (Nat.le_refl _));have HT6:=Sb.hide Py;have HL6:=Sb.hide hL6;have PD:Hid (iA 0 (lab Q fs.length) L6 w5):=Pz;have wW:=Sb.hide (zl.out.on qC.out);have tc6:=wZ.out _ (Pv.out.trans (qC.out.mono Pv.out.size));have c61:=(mJ wW.out.md).1;have c62:=(mJ wW.out.md).2;clear Py hL6 Pz hb6))
   clear c51 c52 tc5
   have HST:Hid (St (nJ Q fs.length rb 0) ⟨m,B,au,cu,cv,cc⟩ (.slice ba fs.length bc) (.func (.func 36) #[] #[]) 0 T L6 P6 w6 (sN uu U) (mR fs) Pw Px):=⟨HT6.out,(nJ Q fs.length rb 0).keep (l:=[]) uw.out PD.out.1 qC.out.size (fun b hb _=>qC.out.block b hb),HL6.out,Hg.out _ wW.out⟩
   have HI0:=Sb.hide (aa6 HK.out jN.out HWF.out qF.out Pq.out)
   go_wp2_with fail
   have PE:Hid (R=go aC m mn (sN uu U) (mR fs)):=by
    unfold Hid
    rw [HRR.out]
    unfold eT
    rw [← HU.out,l8 qF.out,Int.toNat_natCast]
   have hrun:=WA (nJ Q fs.length rb 0) aC ⟨m,B,au,cu,cv,cc⟩ (.slice ba fs.length bc) 36 #[] (Sb.hide (Xb Q fs.length rb 0 ⟨m,B,au,cu,cv,cc⟩)) Ps (LI m K fs) (Sb.hide (Pe (c:=⟨m,B,au,cu,cv,cc⟩) HK.out fs)) 0 T L6 P6 w6 (sN uu U) (mR fs) Pw Px HST 0 mn (by omega) HI0
   dsimp only at hrun
   rw [← PE.out] at hrun
   have hstp:R.1≤mn:=by rw [PE.out];exact Pg _ _ _
   refine hrun.mono ?_
   clear hrun
   rintro e w7 ⟨rfl,hW7,zH⟩
   obtain ⟨L7,P7,tH,tJ,s7,q7,k7⟩:=hW7
   have hc6:∀ b,b < w5.heap.size→L6 b=lab Q fs.length b:=fun b hb=>PD.out.1 b hb
   have lD:=jJ.out.below.size
   have hlow:∀ b,b < w.heap.size+2→(L6 b).cls=0:=fun b hb=>by
    have h4:=(xm.out _ jJ.out).2
    have h5:=(xm.out _ zl.out).2
    rw [hc6 b (by omega)]
    exact HOLD.out b (by omega)
   have HF7:=Sb.hide (wW.out.p8 k7 hlow)
   have HI7:=Sb.hide zH
   have hxl:R.2.2.length=fs.length:=by rw [zH.len];exact jN.out.symm
   have hol:R.2.1.out.length≤1000000:=by have:=zH.out;omega
   have HP7:Hid (w7.ownsRow 0 74 1 (.slice la fs.length lc) fs.length (ptrs Q fs.length)):=by
    refine bU (rM Pt.out (Nat.zero_le _)) (fun b hb=>?_)
    have hbl:=(Pt.out.lt b hb).2
    refine (k7.block b (by have:=qC.out.size;omega) (fun hx=>?_)).trans (qC.out.block b hbl)
    have h0:=HVL.out b hb
    unfold WB EB at hx
    rw [hc6 b hbl] at hx
    omega
   obtain ⟨sv,hsv⟩:=s7.en.sv
   have PG:=Sb.hide hsv
   have S7:=Sb.hide s7
   have HAT:Hid (R.2.1.over=0→∃ f rs u i,lJ ⟨m,B,au,cu,cv,cc⟩ R.2.1 f rs u i):=(Pe (c:=⟨m,B,au,cu,cv,cc⟩) HK.out fs).at' _ _ _ zH
   clear zH s7 q7 k7 hsv hc6 hlow
   go_wp2_with fail
   have hrep:=aaI Q fs.length rb 0 ⟨m,B,au,cu,cv,cc⟩ (.slice ba fs.length bc) (.func (.func 36) #[] #[]) 0 T L7 P7 w7 R.2.1 R.2.2 tH tJ S7 Ps HAT hol la lc HP7 Po hxl R.1 sv PG
   dsimp only at hrep
   rw [← HS.out,← HQ.out] at hrep
   refine hrep.mono ?_
   clear hrep
   rintro e w8 ⟨vO8,vS8,vT8,rfl,r1,r2,r3,Ho⟩
   have zI:=Sb.hide (HF7.out.on Ho)
   have HRP:Hid (nU w8 R.2.1 R.2.2 vO8 vS8 vT8):=by
    refine ⟨rM r1 (Nat.zero_le _),⟨sv,?_,fun i q hq=>?_⟩,?_⟩
    ·rw [hxl];exact rM r2 (Nat.zero_le _)
    ·obtain ⟨af,cf,hA⟩:=PG.out i q hq
     exact bU hA.sent (fun b hb=>Ho.block b (hA.sent.lt b hb).2)
    ·rw [hxl];exact rM r3 (Nat.zero_le _)
   obtain ⟨oa,oc,rfl⟩:=mO r1
   obtain ⟨sa,sc,rfl⟩:=mO r2
   obtain ⟨zJ,zK,rfl⟩:=mO r3
   have z8:=(eQ zI.out.zero).1
   have zf8:=(eQ zI.out.zero).2
   clear r1 r2 r3 Ho
   go_wp2
   have hX:=uI (v0:=.int .i64 s) (v1:=.int .i64 q) (v2:=.int .i64 R.2.1.trap) (v3:=.slice oa R.2.1.out.length oc) (v4:=.slice sa fs.length sc) (v5:=.slice zJ fs.length zK) (v6:=.int .i64 R.1) zI.out.zero
   have iG:=uJ (v0:=.int .i64 s) (v1:=.int .i64 q) (v2:=.int .i64 R.2.1.trap) (v3:=.slice oa R.2.1.out.length oc) (v4:=.slice sa fs.length sc) (v5:=.slice zJ fs.length zK) (v6:=.int .i64 R.1) zI.out.below (Nat.le_succ _)
   have PH:=nU.fill (v0:=.int .i64 s) (v1:=.int .i64 q) (v2:=.int .i64 R.2.1.trap) (v3:=.slice oa R.2.1.out.length oc) (v4:=.slice sa fs.length sc) (v5:=.slice zJ fs.length zK) (v6:=.int .i64 R.1) zI.out.zero HRP.out
   unfold iF at hX iG PH
   obtain ⟨g0,g1,g2,g3,g4,g5,g6⟩:=hX
   generalize ((((((w8.setCell ⟨w.heap.size+1,0,none⟩ (.int .i64 s)).setCell ⟨w.heap.size+1,1,none⟩ (.int .i64 q)).setCell ⟨w.heap.size+1,2,none⟩ (.int .i64 R.2.1.trap)).setCell ⟨w.heap.size+1,3,none⟩ (.slice oa R.2.1.out.length oc)).setCell ⟨w.heap.size+1,4,none⟩ (.slice sa fs.length sc)).setCell ⟨w.heap.size+1,5,none⟩ (.slice zJ fs.length zK)).setCell ⟨w.heap.size+1,6,none⟩ (.int .i64 R.1)=W4 at *
   exact bodyPost_ret (v:=.tuple #[iY s q R.2.1.trap (.slice oa R.2.1.out.length oc) (.slice sa fs.length sc) (.slice zJ fs.length zK) R.1,.int .i64 0]) (by simp [results,Tryz.xn,go_sem,g0,g1,g2,g3,g4,g5,g6]) rfl ⟨iG,.inr ⟨tV.out,_,_,_,rfl,PH,K,HK.out,by have:=HI7.out;rw [Nat.zero_add] at this;exact this⟩⟩
  ·have e5:(E != 0)=true:=by simpa using h5
   have jR:=Sb.hide h5
   have Hq:Hid (E=E):=rfl
   have z4:=(eQ jJ.out.zero).1
   have zf4:=(eQ jJ.out.zero).2
   clear h5
   go_wp2
   have hX:=uI (v0:=.int .i64 0) (v1:=.int .i64 0) (v2:=.int .i64 0) (v3:=.slice none 0 0) (v4:=.slice none 0 0) (v5:=.slice none 0 0) (v6:=.int .i64 0) jJ.out.zero
   have iG:=uJ (v0:=.int .i64 0) (v1:=.int .i64 0) (v2:=.int .i64 0) (v3:=.slice none 0 0) (v4:=.slice none 0 0) (v5:=.slice none 0 0) (v6:=.int .i64 0) jJ.out.below (Nat.le_succ _)
   unfold iF at hX iG
   obtain ⟨g0,g1,g2,g3,g4,g5,g6⟩:=hX
   generalize ((((((w4.setCell ⟨w.heap.size+1,0,none⟩ (.int .i64 0)).setCell ⟨w.heap.size+1,1,none⟩ (.int .i64 0)).setCell ⟨w.heap.size+1,2,none⟩ (.int .i64 0)).setCell ⟨w.heap.size+1,3,none⟩ (.slice none 0 0)).setCell ⟨w.heap.size+1,4,none⟩ (.slice none 0 0)).setCell ⟨w.heap.size+1,5,none⟩ (.slice none 0 0)).setCell ⟨w.heap.size+1,6,none⟩ (.int .i64 0)=W4 at *
   refine bodyPost_ret (v:=.tuple #[iY 0 0 0 (.slice none 0 0) (.slice none 0 0) (.slice none 0 0) 0,.int .i64 E]) (by simp [results,Tryz.xn,go_sem,g0,g1,g2,g3,g4,g5,g6]) rfl ⟨iG,.inl ⟨?_,?_⟩⟩
   ·first | exact jR.out | (rw [Hq.out];exact jR.out) | (rw [Hq.out];decide)
   ·first | rfl | rw [Hq.out]
 ·have e0:(ve.1 != 0)=true:=by simpa using h0
  have aY:Hid (E=ve.1):=by
   unfold Hid
   rw [hE.out,qI,if_pos (by rw [← xk.out];exact h0),← xk.out]
  have jR:=Sb.hide h0
  have hz1:=lt_of_block aN.out.zero
  clear h0
  have v1:(w1.alloc (.cells #[.int .i64 ve.1,.int .i64 ve.2.1,.int .i64 ve.2.2] 44)).cell? ⟨w1.heap.size,0,none⟩=some (.int .i64 ve.1):=by simp [World.cell?_alloc_mark]
  have bN:=Sb.hide (aN.out.on ((Below.refl _ w1).alloc (Nat.le_refl _) (.cells #[.int .i64 ve.1,.int .i64 ve.2.1,.int .i64 ve.2.2] 44)))
  have hzn:¬ w1.heap.size=w.heap.size+1:=by omega
  have ahP:¬ w.heap.size+1=w1.heap.size:=by omega
  have z:=(eQ bN.out.zero).1
  have zf:=(eQ bN.out.zero).2
  go_wp2
  generalize w1.alloc (.cells #[.int .i64 ve.1,.int .i64 ve.2.1,.int .i64 ve.2.2] 44)=W2 at *
  go_region_held3 (fun w'=>w'.cell? ⟨w1.heap.size,0,none⟩=some (.int .i64 ve.1)) (go_keep) (fail)
  go_wp2
  have hX:=uI (v0:=.int .i64 0) (v1:=.int .i64 0) (v2:=.int .i64 0) (v3:=.slice none 0 0) (v4:=.slice none 0 0) (v5:=.slice none 0 0) (v6:=.int .i64 0) bN.out.zero
  have iG:=uJ (v0:=.int .i64 0) (v1:=.int .i64 0) (v2:=.int .i64 0) (v3:=.slice none 0 0) (v4:=.slice none 0 0) (v5:=.slice none 0 0) (v6:=.int .i64 0) bN.out.below (Nat.le_succ _)
  unfold iF at hX iG
  obtain ⟨g0,g1,g2,g3,g4,g5,g6⟩:=hX
  generalize ((((((W2.setCell ⟨w.heap.size+1,0,none⟩ (.int .i64 0)).setCell ⟨w.heap.size+1,1,none⟩ (.int .i64 0)).setCell ⟨w.heap.size+1,2,none⟩ (.int .i64 0)).setCell ⟨w.heap.size+1,3,none⟩ (.slice none 0 0)).setCell ⟨w.heap.size+1,4,none⟩ (.slice none 0 0)).setCell ⟨w.heap.size+1,5,none⟩ (.slice none 0 0)).setCell ⟨w.heap.size+1,6,none⟩ (.int .i64 0)=W4 at *
  refine bodyPost_ret (v:=.tuple #[iY 0 0 0 (.slice none 0 0) (.slice none 0 0) (.slice none 0 0) 0,.int .i64 ve.1]) (by simp [results,Tryz.xn,go_sem,g0,g1,g2,g3,g4,g5,g6]) rfl ⟨iG.drew,.inl ⟨?_,?_⟩⟩
  ·first | exact jR.out | (rw [aY.out];exact jR.out) | (rw [aY.out];decide)
  ·first | rfl | rw [aY.out]
end Go.Proofs.YthffafaoobpedaaGreatDoor.Vw

/- A task that runs by itself,plainly: who is fed more says no less;step by step. -/
import Derived.Test.YthffafaoobpedaaGreatDoorM31
import Derived.Test.YthffafaoobpedaaGreatDoorM30
import Derived.Test.YthffafaoobpedaaGreatDoorM27
set_option maxRecDepth 100000
set_option maxHeartbeats 2000000
namespace Go.Proofs.YthffafaoobpedaaGreatDoor.Vw
open Go.RowKit Vf Vm
section
variable {β:Type} {X:fQ β} {m:Md}
theorem Y9 {n:Nat}{t:Tk}{x:β}(h:(stat X m t x).1=1):go X m (n+1) t x=((go X m n (one X m t x).1 (one X m t x).2).1+1,(go X m n (one X m t x).1 (one X m t x).2).2):=by
 show (if (stat X m t x).1=1 then _ else _:Nat × Tk × β)=_
 rw [if_pos h]
theorem Za {n:Nat}{t:Tk}{x:β}(h:¬ (stat X m t x).1=1):go X m n t x=(0,t,x):=by
 cases n with
 | zero=>rfl
 | succ n =>
  show (if (stat X m t x).1=1 then _ else _:Nat × Tk × β)=_
  rw [if_neg h]
theorem NJ:∀ (n:Nat) (t:Tk) (x:β),(go X m n t x).1≤n
 | 0,_,_=>Nat.le_refl _
 | n+1,t,x=>by
  by_cases h:(stat X m t x).1=1
  ·rw [Y9 h];have:=NJ n (one X m t x).1 (one X m t x).2;simp;omega
  ·rw [Za h];simp
end
structure Later (t:Tk) (x:List aV) (t':Tk) (x':List aV):Prop where
 out:t.out <+: t'.out
 len:x.length=x'.length
 sent:∀ (i:Nat) q q',x[i]?=some q→x'[i]?=some q'→q.sent <+: q'.sent
theorem Later.refl (t:Tk)(x:List aV):Later t x t x:=⟨List.prefix_rfl,rfl,fun i q q' h h'=>by rw [h] at h';cases h';exact List.prefix_rfl⟩
theorem Later.trans {t t1 t2:Tk}{x x1 x2:List aV}(h:Later t x t1 x1)(k:Later t1 x1 t2 x2):Later t x t2 x2 :=
 ⟨h.out.trans k.out,h.len.trans k.len,fun i q q' hq hq'=>by
  obtain ⟨q1,h1⟩:∃ q,x1[i]?=some q:=⟨_,List.getElem?_eq_getElem (by rw [← h.len];exact (List.getElem?_eq_some_iff.1 hq).1)⟩
  exact (h.sent i q q1 hq h1).trans (k.sent i q1 q' h1 hq')⟩
theorem NK (x:List aV)(b:Nat)(v:Int):x.length=(aD.put x b v).length∧∀ (i:Nat) q q',x[i]?=some q→(aD.put x b v)[i]?=some q'→q.sent <+: q'.sent:=by
 cases hb:x[b]? with
 | none=>simp only [aD,hb];exact ⟨trivial,fun i q q' h h'=>by rw [h] at h';cases h';exact List.prefix_rfl⟩
 | some q0 =>
  simp only [aD,hb]
  refine ⟨by simp,fun i q q' h h'=>?_⟩
  rw [List.getElem?_set] at h'
  split at h'
  ·rename_i e
   subst e
   split at h'
   ·cases h';rw [hb] at h;cases h;exact List.prefix_append _ _
   ·cases h'
  ·rw [h] at h';cases h';exact List.prefix_rfl
theorem NL (x:List aV)(b:Nat):x.length=(aD.take x b).length∧∀ (i:Nat) q q',x[i]?=some q→(aD.take x b)[i]?=some q'→q.sent <+: q'.sent:=by
 cases hb:x[b]? with
 | none=>simp only [aD,hb];exact ⟨trivial,fun i q q' h h'=>by rw [h] at h';cases h';exact List.prefix_rfl⟩
 | some q0 =>
  simp only [aD,hb]
  refine ⟨by simp,fun i q q' h h'=>?_⟩
  rw [List.getElem?_set] at h'
  split at h'
  ·rename_i e
   subst e
   split at h'
   ·cases h';rw [hb] at h;cases h;exact List.prefix_rfl
   ·cases h'
  ·rw [h] at h';cases h';exact List.prefix_rfl
structure mG (x x':List aV):Prop where
 len:x.length=x'.length
 at':∀ (i:Nat) q q',x[i]?=some q→x'[i]?=some q'→q.took=q'.took∧q.sent=q'.sent∧q.feed <+: q'.feed∧q.took≤q.feed.length
theorem mG.some {x x':List aV}(h:mG x x'){i:Nat}{q:aV}(hq:x[i]?=some q):∃ q',x'[i]?=some q':=⟨_,List.getElem?_eq_getElem (by rw [← h.len];exact (List.getElem?_eq_some_iff.1 hq).1)⟩
theorem mG.none {x x':List aV}(h:mG x x'){i:Nat}(hq:x[i]?=none):x'[i]?=none:=by
 rw [List.getElem?_eq_none_iff] at hq ⊢
 rw [← h.len];exact hq
theorem mG.empty {x x':List aV}(h:mG x x')(b:Nat)(he:aD.empty x b=false):aD.empty x' b=false∧aD.head x b=aD.head x' b:=by
 cases hb:x[b]? with
 | none=>simp [aD,hb] at he
 | some q =>
  obtain ⟨q',hb'⟩:=h.some hb
  obtain ⟨e1,e2,e3,e4⟩:=h.at' b q q' hb hb'
  simp [aD,hb] at he
  obtain ⟨r,hr⟩:=e3
  simp only [aD,hb,hb',← hr,← e1]
  refine ⟨by simp;omega,?_⟩
  rw [List.getElem?_append_left (by omega)]
theorem mG.put {x x':List aV}(h:mG x x')(b:Nat)(v:Int):mG (aD.put x b v) (aD.put x' b v):=by
 refine ⟨by rw [← (NK x b v).1,← (NK x' b v).1];exact h.len,fun i q q' hq hq'=>?_⟩
 cases hb:x[b]? with
 | none =>
  have hb':=h.none hb
  simp only [aD,hb] at hq
  simp only [aD,hb'] at hq'
  exact h.at' i q q' hq hq'
 | some p =>
  obtain ⟨p',hb'⟩:=h.some hb
  simp only [aD,hb] at hq
  simp only [aD,hb'] at hq'
  rw [List.getElem?_set] at hq hq'
  by_cases e:b=i
  ·subst e
   rw [if_pos rfl] at hq hq'
   split at hq
   ·split at hq'
    ·cases hq;cases hq'
     obtain ⟨e1,e2,e3,e4⟩:=h.at' b p p' hb hb'
     exact ⟨e1,by show p.sent ++ [v]=p'.sent ++ [v];rw [e2],e3,e4⟩
    ·cases hq'
   ·cases hq
  ·rw [if_neg e] at hq hq'
   exact h.at' i q q' hq hq'
theorem mG.take {x x':List aV}(h:mG x x')(b:Nat)(he:aD.empty x b=false):mG (aD.take x b) (aD.take x' b):=by
 refine ⟨by rw [← (NL x b).1,← (NL x' b).1];exact h.len,fun i q q' hq hq'=>?_⟩
 cases hb:x[b]? with
 | none =>
  have hb':=h.none hb
  simp only [aD,hb] at hq
  simp only [aD,hb'] at hq'
  exact h.at' i q q' hq hq'
 | some p =>
  obtain ⟨p',hb'⟩:=h.some hb
  simp [aD,hb] at he
  simp only [aD,hb] at hq
  simp only [aD,hb'] at hq'
  rw [List.getElem?_set] at hq hq'
  by_cases e:b=i
  ·subst e
   rw [if_pos rfl] at hq hq'
   split at hq
   ·split at hq'
    ·cases hq;cases hq'
     obtain ⟨e1,e2,e3,e4⟩:=h.at' b p p' hb hb'
     exact ⟨by show p.took+1=p'.took+1;rw [e1],e2,e3,by show p.took+1≤p.feed.length;omega⟩
    ·cases hq'
   ·cases hq
  ·rw [if_neg e] at hq hq'
   exact h.at' i q q' hq hq'
theorem Zb {B:Nat}{w:World}{m:Md}{ab au:Option Addr}(cu:Nat)(h:bn B w m ab au)(hf:m.units.length≤30):∃ cv cc,lY ⟨m,B,au,cu,cv,cc⟩ w:=by
 have key:∀ i:Nat,∃ p:Option Addr × Nat,∀ u,m.units[i]?=some u→∃ b off al cl,au=some ⟨b,off,none⟩∧b < B∧gP B w u al p.1 cl p.2∧w.cell? ⟨b,off+i * 6,none⟩=some (.int .i64 u.kind)∧w.cell? ⟨b,off+i * 6+1,none⟩=some (.int .i64 u.params)∧w.cell? ⟨b,off+i * 6+2,none⟩=some (.slice al u.locals.length cl)∧w.cell? ⟨b,off+i * 6+3,none⟩=some (.int .i64 u.result)∧w.cell? ⟨b,off+i * 6+4,none⟩=some (.int .i64 u.takes)∧w.cell? ⟨b,off+i * 6+5,none⟩=some (.slice p.1 u.code.length p.2):=fun i=>by
  cases hu:m.units[i]? with
  | none=>exact ⟨(none,0),fun u e=>by cases e⟩
  | some u =>
   obtain ⟨b,off,al,cl,ac,cc,e,hb,hun,c0,c1,c2,c3,c4,c5⟩:=h.units i u hu
   exact ⟨(ac,cc),fun u' e'=>by cases e';exact ⟨b,off,al,cl,e,hb,hun,c0,c1,c2,c3,c4,c5⟩⟩
 exact ⟨fun i=>(key i).choose.1,fun i=>(key i).choose.2,hf,fun i u hu=>(key i).choose_spec u hu⟩
def lab (Q:Nat→Nat)(n:Nat):az:=fun b=>match (List.range n).find? (fun i=>Q i == b) with | some i=>⟨2,i,0,0⟩ | none=>⟨0,0,0,0⟩
theorem Zc {Q:Nat→Nat}{n:Nat}(hinj:∀ i j,i < j→j < n→Q i < Q j){i:Nat}(hi:i < n):lab Q n (Q i)=⟨2,i,0,0⟩:=by
 unfold lab
 have:(List.range n).find? (fun j=>Q j == Q i)=some i:=by
  rw [List.find?_eq_some_iff_getElem]
  refine ⟨by simp,i,by simpa using hi,by simp,fun j hj=>?_⟩
  have:=hinj j i hj hi
  simp
  omega
 rw [this]
theorem F4 {Q:Nat→Nat}{n b:Nat}(h:∀ i,i < n→Q i≠b):lab Q n b=⟨0,0,0,0⟩:=by
 unfold lab
 have:(List.range n).find? (fun j=>Q j == b)=none:=by
  rw [List.find?_eq_none]
  intro i hi
  simpa using h i (by simpa using hi)
 rw [this]
theorem Zd (Q:Nat→Nat)(n b:Nat):(lab Q n b).cls≠1:=by
 unfold lab
 split <;> simp
def mH (fs:List (List Int)):List aV:=fs.map fun f=>⟨f,0,[]⟩
theorem NM {fs:List (List Int)}{i:Nat}{q:aV}(h:(mH fs)[i]?=some q):∃ f,fs[i]?=some f∧q=⟨f,0,[]⟩:=by
 unfold mH at h
 rw [List.getElem?_map] at h
 cases hf:fs[i]? with
 | none=>rw [hf] at h;cases h
 | some f=>rw [hf] at h;cases h;exact ⟨f,rfl,rfl⟩
theorem Ze {w wr:World}{B:Nat}{fs:List (List Int)}{a:Option Addr}{fa:Nat→Option Addr}{fc:Nat→Nat}{vl:Value}{ba:Option Addr}{bc:Nat}{Q:Nat→Nat}(c:Cx)(hcB:c.B=B)(hF:jB B w fs a fa fc)(hB:B≤w.heap.size)(h:tV w fs fa fc fs.length vl (.slice ba fs.length bc) Q wr)(hn:fs.length=c.m.boxes.length) :
  ∃ rb,bA c.B (lab Q fs.length) wr∧jQ Q fs.length rb 0 (lab Q fs.length) wr (mH fs)∧lv (ni Q fs.length rb 0) aD c (.slice ba fs.length bc)∧(∀ b,b < w.heap.size→(lab Q fs.length b).cls=0)∧(∀ b,vl.ownBlock=some b→(lab Q fs.length b).cls=0):=by
 have hz:=h.below.size
 have old:∀ b,b < w.heap.size→(lab Q fs.length b).cls=0:=fun b hb=>by rw [F4 (fun i hi e=>by have:=h.low i hi;omega)]
 have qz:∀ i,i < fs.length→Q i < wr.heap.size:=fun i hi=>by
  obtain ⟨f,hf⟩:∃ f,fs[i]?=some f:=⟨_,List.getElem?_eq_getElem hi⟩
  exact lt_of_block (h.blk i f hi hf)
 have F5:∀ {e n g:Nat} {v:Value} {xs:List Value},wr.ownsRow w.heap.size e 1 v n xs→e≠76→v.ownBlock=some g→(lab Q fs.length g).cls=0:=fun ho he hg=>by
  rw [F4 (fun i hi e2=>?_)]
  obtain ⟨f,hf⟩:∃ f,fs[i]?=some f:=⟨_,List.getElem?_eq_getElem hi⟩
  have hb:=h.blk i f hi hf
  obtain ⟨cur,hc⟩:=jC ho hg
  rw [e2,hc] at hb
  simp at hb
  exact he hb.2
 have hok:bA c.B (lab Q fs.length) wr:=⟨fun b hb=>old b (by omega),fun b hb=>by rw [F4 (fun i hi e=>by have:=qz i hi;omega)],by omega⟩
 have hlists:∀ (n:Nat) q,(mH fs)[n]?=some q→∃ af cf vS,jP (lab Q fs.length) wr (Q n) n q af cf vS:=fun n q hq=>by
  obtain ⟨f,hf,rfl⟩:=NM hq
  have hnl:=(List.getElem?_eq_some_iff.1 hf).1
  refine ⟨fa n,fc n,.slice none 0 0,h.blk n f hnl hf,fun i v hv=>?_,(hF.words n f hf).1,Nat.zero_le _,⟨rfl,.inl ⟨rfl,rfl⟩⟩,Zc h.inj hnl,fun b hb=>by cases hb⟩
  obtain ⟨b,off,e,hb,hc⟩:=(hF.words n f hf).2 i v hv
  exact ⟨b,off,e,by omega,old b (by omega),(aS (h.below.block b (by omega)) _).trans hc⟩
 cases ba with
 | none =>
  have h0:fs.length=0:=by
   rcases h.mF.2 with ⟨_,h0⟩ | ⟨g,cap,cur,e,_⟩
   ·exact h0
   ·simp at e
  refine ⟨0,hok,⟨by simp [mH],fun n hn=>by omega,hlists⟩,⟨fun n hn=>by omega⟩,old,fun b hb=>F5 h.ptr (by decide) hb⟩
 | some ad =>
  rcases h.mF.2 with ⟨e,_⟩ | ⟨g,cap,cur,e,hr⟩
  ·simp at e
  ·simp at e
   obtain ⟨rfl,rfl⟩:=e
   refine ⟨g,hok,⟨by simp [mH],fun n hn=>?_,hlists⟩,?_,old,fun b hb=>F5 h.ptr (by decide) hb⟩
   ·obtain ⟨g',e',hc⟩:=yK h.mF (YE Q hn)
    cases e'
    exact ⟨lt_of_block hr.2.1,F5 h.mF (by decide) rfl,by rw [Nat.zero_add];exact hc⟩
   ·rw [hn]
    exact U6 Q g 0 bc c
def qi (m:Md)(task most:Int)(fs:List (List Int)):Int :=
 if (verify m).1≠0 then (verify m).1
 else if task < 0∨((dF m.units m.units.length).length:Int)≤task∨most < 0∨5000 < most then 3
 else tT m.boxes fs
def tY (m:Md)(task:Int):Nat:=((dF m.units m.units.length)[task.toNat]?).getD 0
def eX (m:Md)(task most:Int)(fs:List (List Int)):Nat × Tk × List aV:=go aD m most.toNat (rR (unit m (tY m task)) (tY m task)) (mH fs)
structure nH (w:World) (t:Tk) (x:List aV) (vO vS vT:Value):Prop where
 out:w.ownsRow 0 2 1 vO t.out.length (ints t.out)
 sent:∃ sv,w.ownsRow 0 22 1 vS x.length (nG sv x.length)∧∀ (i:Nat) q,x[i]?=some q→w.ownsRow 0 2 1 (sv i) q.sent.length (ints q.sent)
 took:w.ownsRow 0 3 1 vT x.length (kD x x.length)
theorem nH.below {w w':World}{t:Tk}{x:List aV}{vO vS vT:Value}(h:nH w t x vO vS vT)(hb:Below w.heap.size w w'):nH w' t x vO vS vT:=by
 have k:∀ {e n:Nat} {v:Value} {xs:List Value},w.ownsRow 0 e 1 v n xs→w'.ownsRow 0 e 1 v n xs:=fun h=>bW h (fun b hx=>hb.block b (h.lt b hx).2)
 obtain ⟨sv,s1,s2⟩:=h.sent
 exact ⟨k h.out,⟨sv,k s1,fun i q hq=>k (s2 i q hq)⟩,k h.took⟩
theorem Zf {m:Md}{task:Int}(h0:0≤task)(h1:task < (dF m.units m.units.length).length):(dF m.units m.units.length)[task.toNat]?=some (tY m task)∧∃ u,m.units[tY m task]?=some u∧u.kind=4:=by
 have e:(dF m.units m.units.length)[task.toNat]?=some (tY m task):=by
  unfold tY
  rw [List.getElem?_eq_getElem (by omega)]
  rfl
 refine ⟨e,?_⟩
 have:=List.mem_of_getElem? e
 unfold dF at this
 rw [List.mem_filter] at this
 simpa using this.2
theorem Zg {m:Md}{K:KM}(hK:lZ m K){fs:List (List Int)}(hl:fs.length=m.boxes.length)(hw:oD m.boxes fs=false){n:Nat}{u:Un}(hu:m.units[n]?=some u)(h4:u.kind=4):LI m K fs 0 (rR u n) (mH fs):=by
 obtain ⟨G,hG⟩:=TB hK hu h4
 refine ⟨.inr ⟨G,[],hG⟩,.inl rfl,Nat.le_refl _,Nat.le_refl _,by simp [mH,hl],fun i q hq=>?_⟩
 obtain ⟨f,hf,rfl⟩:=NM hq
 refine ⟨hf,Nat.zero_le _,Nat.le_refl _,fun h2=>⟨?_,rfl⟩⟩
 obtain ⟨b,hb⟩:∃ b,m.boxes[i]?=some b:=⟨_,List.getElem?_eq_getElem (by have:=(List.getElem?_eq_some_iff.1 hf).1;omega)⟩
 simp only [gM,Int.toNat_natCast,hb,Option.map_some,Option.getD_some] at h2
 exact Yt hw i b f hb hf h2
theorem Zh {w w1:World}(h:w.grownBy w1 none):Below w.heap.size w w1:=⟨h.os,h.tape,h.output,h.size,fun b hb=>h.block b hb (by simp)⟩
abbrev lK (m:Md) (ab au:Option Addr) (cb cu:Nat):Obj:=.cells #[.slice ab m.boxes.length cb,.slice au m.units.length cu] 38 (0,0)
theorem mq {w:World}{b:Nat}{m:Md}{ab au:Option Addr}{cb cu:Nat}(h:w.heap[b]?=some (lK m ab au cb cu)):w.cell? ⟨b,0,none⟩=some (.slice ab m.boxes.length cb)∧w.cell? ⟨b,1,none⟩=some (.slice au m.units.length cu):=by simp [World.cell?,h]
structure So (w:World) (m:Md) (ab au:Option Addr) (cb cu:Nat) (wr:World):Prop where
 below:Below w.heap.size w wr
 md:wr.heap[w.heap.size]?=some (lK m ab au cb cu)
 zero:wr.heap[w.heap.size+1]?=some jV
theorem So.on {w:World}{m:Md}{ab au:Option Addr}{cb cu:Nat}{wr wr':World}(h:So w m ab au cb cu wr)(hb:Below wr.heap.size wr wr'):So w m ab au cb cu wr' :=
 ⟨h.below.trans (hb.mono h.below.size),(hb.block _ (lt_of_block h.md)).trans h.md,(hb.block _ (lt_of_block h.zero)).trans h.zero⟩
theorem So.first (w:World)(m:Md)(ab au:Option Addr)(cb cu:Nat):So w m ab au cb cu ((w.alloc (lK m ab au cb cu)).alloc jV):=by
 have e:(w.alloc (lK m ab au cb cu)).heap.size=w.heap.size+1:=by simp
 refine ⟨((Below.refl _ w).alloc (Nat.le_refl _) _).alloc (by simp) _,(Below.heap_alloc _ _ _ (by simp)).trans (heap_alloc_new w _),?_⟩
 rw [← e]
 exact heap_alloc_new _ _
abbrev iD (w:World) (b:Nat) (v0 v1 v2 v3 v4 v5 v6:Value):World:=((((((w.setCell ⟨b,0,none⟩ v0).setCell ⟨b,1,none⟩ v1).setCell ⟨b,2,none⟩ v2).setCell ⟨b,3,none⟩ v3).setCell ⟨b,4,none⟩ v4).setCell ⟨b,5,none⟩ v5).setCell ⟨b,6,none⟩ v6
theorem tZ {w:World}{b:Nat}{v0 v1 v2 v3 v4 v5 v6:Value}(h:w.heap[b]?=some jV):((iD w b v0 v1 v2 v3 v4 v5 v6).cell? ⟨b,0,none⟩=some v0∧(iD w b v0 v1 v2 v3 v4 v5 v6).cell? ⟨b,1,none⟩=some v1∧(iD w b v0 v1 v2 v3 v4 v5 v6).cell? ⟨b,2,none⟩=some v2∧(iD w b v0 v1 v2 v3 v4 v5 v6).cell? ⟨b,3,none⟩=some v3∧(iD w b v0 v1 v2 v3 v4 v5 v6).cell? ⟨b,4,none⟩=some v4∧(iD w b v0 v1 v2 v3 v4 v5 v6).cell? ⟨b,5,none⟩=some v5∧(iD w b v0 v1 v2 v3 v4 v5 v6).cell? ⟨b,6,none⟩=some v6):=by
 have:(iD w b v0 v1 v2 v3 v4 v5 v6).heap[b]?=some (.cells #[v0,v1,v2,v3,v4,v5,v6] 29 (0,0)):=by
  simp only [World.setCell,Array.getElem?_modify,if_true,h,Option.map_some]
  rfl
 generalize iD w b v0 v1 v2 v3 v4 v5 v6=W at this ⊢
 simp [World.cell?,this]
theorem Zi {w:World}{b:Nat}{v0 v1 v2 v3 v4 v5 v6:Value}{b':Nat}(hn:b'≠b):(iD w b v0 v1 v2 v3 v4 v5 v6).heap[b']?=w.heap[b']?:=by
 rw [Below.heap_setCell _ ⟨b,6,none⟩ _ _ hn,Below.heap_setCell _ ⟨b,5,none⟩ _ _ hn,Below.heap_setCell _ ⟨b,4,none⟩ _ _ hn,Below.heap_setCell _ ⟨b,3,none⟩ _ _ hn,Below.heap_setCell _ ⟨b,2,none⟩ _ _ hn,Below.heap_setCell _ ⟨b,1,none⟩ _ _ hn,Below.heap_setCell _ ⟨b,0,none⟩ _ _ hn]
theorem uf {w0 w:World}{B b:Nat}{v0 v1 v2 v3 v4 v5 v6:Value}(h:Below B w0 w)(hB:B≤b):Below B w0 (iD w b v0 v1 v2 v3 v4 v5 v6) :=
 ((((((h.setCell (p:=⟨b,0,none⟩) hB _).setCell (p:=⟨b,1,none⟩) hB _).setCell (p:=⟨b,2,none⟩) hB _).setCell (p:=⟨b,3,none⟩) hB _).setCell (p:=⟨b,4,none⟩) hB _).setCell (p:=⟨b,5,none⟩) hB _).setCell (p:=⟨b,6,none⟩) hB _
theorem Bv {w:World}{b:Nat}{v0 v1 v2 v3 v4 v5 v6:Value}(h:w.heap[b]?=some jV){B e n:Nat}{v:Value}{xs:List Value}(ho:w.ownsRow B e 1 v n xs)(he:e≠29):(iD w b v0 v1 v2 v3 v4 v5 v6).ownsRow B e 1 v n xs :=
 bW ho (fun k hk=>Zi (fun e2=>by
  obtain ⟨cur,hc⟩:=jC ho hk
  rw [e2,h] at hc
  simp at hc
  exact he hc.2.symm))
theorem nH.fill {w:World}{b:Nat}{v0 v1 v2 v3 v4 v5 v6:Value}(h:w.heap[b]?=some jV){t:Tk}{x:List aV}{vO vS vT:Value}(k:nH w t x vO vS vT):nH (iD w b v0 v1 v2 v3 v4 v5 v6) t x vO vS vT:=by
 obtain ⟨sv,s1,s2⟩:=k.sent
 exact ⟨Bv h k.out (by decide),⟨sv,Bv h s1 (by decide),fun i q hq=>Bv h (s2 i q hq) (by decide)⟩,Bv h k.took (by decide)⟩
theorem So.pK {w:World}{m:Md}{ab au:Option Addr}{cb cu:Nat}{wr wr':World}{L:az}{o:Nat}(h:So w m ab au cb cu wr)(hC:aQ (WB L o) wr wr')(hL:∀ b,b < w.heap.size+2→(L b).cls=0):So w m ab au cb cu wr':=by
 have k:∀ b,b < w.heap.size+2→b < wr.heap.size→wr'.heap[b]?=wr.heap[b]?:=fun b hb hz=>hC.block b hz (fun hx=>by have:=hL b hb;unfold WB EB at hx;omega)
 have hz:=h.below.size
 exact ⟨⟨hC.os.trans h.below.os,hC.tape.trans h.below.tape,hC.output.trans h.below.output,Nat.le_trans hz hC.size,fun b hb=>(k b (by omega) (by omega)).trans (h.below.block b hb)⟩,(k _ (by omega) (lt_of_block h.md)).trans h.md,(k _ (by omega) (lt_of_block h.zero)).trans h.zero⟩
theorem jQ.sv {Q:Nat→Nat}{nb rb off:Nat}{L:az}{w:World}{x:List aV}(h:jQ Q nb rb off L w x):∃ sv:Nat→Value,∀ (i:Nat) q,x[i]?=some q→∃ af cf,jP L w (Q i) i q af cf (sv i):=by
 have key:∀ i:Nat,∃ v:Value,∀ q,x[i]?=some q→∃ af cf,jP L w (Q i) i q af cf v:=fun i=>by
  cases hx:x[i]? with
  | none=>exact ⟨.slice none 0 0,fun q e=>by cases e⟩
  | some q =>
   obtain ⟨af,cf,vS,hA⟩:=h.lists i q hx
   exact ⟨vS,fun q' e=>by cases e;exact ⟨af,cf,hA⟩⟩
 exact ⟨fun i=>(key i).choose,fun i q hq=>(key i).choose_spec q hq⟩
theorem Zj (m:Md)(ab au:Option Addr)(cb cu B:Nat)(fs:List (List Int))(a:Option Addr)(cap:Nat)(fa:Nat→Option Addr)(fc:Nat→Nat)(w:World)(hmd:Hid (bn B w m ab au))(fB:Hid (jB B w fs a fa fc))(hB:B≤w.heap.size)(task most:Int)(E:Int)(hE:Hid (E=qi m task most fs)) :
  Calls Tryz.prog 15 #[fw m ab au cb cu,.int .i64 task,.slice a fs.length cap,.int .i64 most] w fun e w'=>Below w.heap.size w w'∧((E≠0∧e=.returned (.tuple #[iW 0 0 0 (.slice none 0 0) (.slice none 0 0) (.slice none 0 0) 0,.int .i64 E])) ∨
   (E=0∧∃ vO vS vT,e=.returned (.tuple #[iW (stat aD m (eX m task most fs).2.1 (eX m task most fs).2.2).1 (stat aD m (eX m task most fs).2.1 (eX m task most fs).2.2).2 (eX m task most fs).2.1.trap vO vS vT (eX m task most fs).1,.int .i64 0])∧nH w' (eX m task most fs).2.1 (eX m task most fs).2.2 vO vS vT∧∃ K,lZ m K∧LI m K fs (eX m task most fs).1 (eX m task most fs).2.1 (eX m task most fs).2.2)):=by
 obtain ⟨R,hR⟩:∃ R,R=eX m task most fs:=⟨_,rfl⟩
 rw [← hR]
 have HRR:=Sb.hide hR
 obtain ⟨s,hs⟩:∃ s,s=(stat aD m R.2.1 R.2.2).1:=⟨_,rfl⟩
 obtain ⟨q,hq⟩:∃ s,s=(stat aD m R.2.1 R.2.2).2:=⟨_,rfl⟩
 rw [← hs,← hq]
 have HS:=Sb.hide hs
 have HQ:=Sb.hide hq
 clear hR hs hq
 obtain ⟨ve,NN⟩:∃ v,v=verify m:=⟨_,rfl⟩
 have wy:=Sb.hide NN
 clear NN
 have aP:=Sb.hide (So.first w m ab au cb cu)
 have Dw:Hid (bn B ((w.alloc (lK m ab au cb cu)).alloc jV) m ab au):=hmd.out.low (aP.out.below.mono hB).block
 have c0:=mq aP.out.md
 go_enter Tryz.func15,Tryz.ntmps15
 go_wp2_with fail
 generalize (w.alloc (lK m ab au cb cu)).alloc jV=W0 at *
 refine (Ye m ab au cb cu B _ Dw (by have:=aP.out.below.size;omega) ve wy).mono ?_
 rintro e w1 ⟨rfl,hg1⟩
 have aO:=Sb.hide (aP.out.on (Zh hg1))
 clear hg1 c0
 by_cases h0:ve.1=0
 ·have e0:(ve.1 != 0)=false:=by simpa using h0
  have aZ:Hid (E=if task < 0∨((dF m.units m.units.length).length:Int)≤task∨most < 0∨5000 < most then 3 else tT m.boxes fs):=by
   unfold Hid
   rw [hE.out,qi,if_neg (by rw [← wy.out];simpa using h0)]
  have hright:verify m=(0,0,0):=by
   rw [← wy.out]
   have e:∀ n k,(from' m n k).1=0→from' m n k=(0,0,0):=by
    intro n
    induction n with
    | zero=>intro k _;rfl
    | succ n ih =>
     intro k hk
     unfold from' at hk ⊢
     split
     ·rename_i e;rw [if_pos e] at hk;exact ih _ hk
     ·rename_i e;rw [if_neg e] at hk;exact absurd hk e
   rw [wy.out] at h0 ⊢
   exact e 6 0 h0
  obtain ⟨⟨K,hK⟩,hbl⟩:=Yo hright
  have HK:=Sb.hide hK
  have HRG:=Sb.hide hright
  have hz1:=lt_of_block aO.out.zero
  have bO:=Sb.hide (aO.out.on ((Below.refl _ w1).alloc (Nat.le_refl _) (.cells #[.int .i64 ve.1,.int .i64 ve.2.1,.int .i64 ve.2.2] 44)))
  have v1:(w1.alloc (.cells #[.int .i64 ve.1,.int .i64 ve.2.1,.int .i64 ve.2.2] 44)).cell? ⟨w1.heap.size,0,none⟩=some (.int .i64 ve.1):=by simp [World.cell?_alloc_mark]
  obtain ⟨cv,cc,hcx⟩:=Zb cu hmd.out hK.rt.units
  have F6:Hid (∀ W,So w m ab au cb cu W→lY ⟨m,B,au,cu,cv,cc⟩ W):=fun W hW=>hcx.low (hW.below.mono hB).block
  have F7:Hid (∀ W,So w m ab au cb cu W→jB B W fs a fa fc):=fun W hW=>fB.out.low (hW.below.mono hB).block
  have qI:Hid (∀ W,So w m ab au cb cu W→uV B W m.boxes ab):=fun W hW=>(hmd.out.low (hW.below.mono hB).block).boxes
  have wz:Hid (∀ W,So w m ab au cb cu W→B≤W.heap.size∧w.heap.size+2≤W.heap.size):=fun W hW=>⟨by have:=hW.below.size;omega,lt_of_block hW.zero⟩
  clear h0 hK hright hcx
  have c2:=mq bO.out.md
  go_wp2_with fail
  generalize w1.alloc (.cells #[.int .i64 ve.1,.int .i64 ve.2.1,.int .i64 ve.2.2] 44)=W2 at *
  refine (FL ⟨m,B,au,cu,cv,cc⟩ ab cb _ (Sb.hide (F6.out _ bO.out)) (wz.out _ bO.out).1).mono ?_
  rintro e w3 ⟨vl,rfl,hT⟩
  obtain ⟨_,hb3,ho3⟩:=hT
  obtain ⟨ta,tc,rfl⟩:=mE ho3
  have jv:=Sb.hide (bO.out.on hb3)
  have HT3:=Sb.hide ho3
  have c3:=mq jv.out.md
  have z3:=(eU jv.out.zero).1
  have Zk:=(eU jv.out.zero).2
  have Zl:(dF m.units m.units.length).length≤30:=by have:=Nn m.units m.units.length;have:=HK.out.rt.units;omega
  obtain ⟨N,hN⟩:∃ N,N=(dF m.units m.units.length).length:=⟨_,rfl⟩
  have HN:=Sb.hide hN
  change Hid (w3.ownsRow W2.heap.size 3 1 (.slice ta (dF m.units m.units.length).length tc) (dF m.units m.units.length).length (oz (dF m.units m.units.length))) at HT3
  rw [← hN] at aZ HT3 Zl
  simp only [← hN]
  clear hN hb3 ho3 c2 v1
  by_cases t1:task < 0
  ·have HE2:Hid (E=3):=by unfold Hid;rw [aZ.out,if_pos (.inl t1)]
   go_wp2
   have hX:=tZ (v0:=.int .i64 0) (v1:=.int .i64 0) (v2:=.int .i64 0) (v3:=.slice none 0 0) (v4:=.slice none 0 0) (v5:=.slice none 0 0) (v6:=.int .i64 0) jv.out.zero
   have iE:=uf (v0:=.int .i64 0) (v1:=.int .i64 0) (v2:=.int .i64 0) (v3:=.slice none 0 0) (v4:=.slice none 0 0) (v5:=.slice none 0 0) (v6:=.int .i64 0) jv.out.below (Nat.le_succ _)
   unfold iD at hX iE
   obtain ⟨g0,g1,g2,g3,g4,g5,g6⟩:=hX
   generalize ((((((w3.setCell ⟨w.heap.size+1,0,none⟩ (.int .i64 0)).setCell ⟨w.heap.size+1,1,none⟩ (.int .i64 0)).setCell ⟨w.heap.size+1,2,none⟩ (.int .i64 0)).setCell ⟨w.heap.size+1,3,none⟩ (.slice none 0 0)).setCell ⟨w.heap.size+1,4,none⟩ (.slice none 0 0)).setCell ⟨w.heap.size+1,5,none⟩ (.slice none 0 0)).setCell ⟨w.heap.size+1,6,none⟩ (.int .i64 0)=W4 at *
   refine bodyPost_ret (v:=.tuple #[iW 0 0 0 (.slice none 0 0) (.slice none 0 0) (.slice none 0 0) 0,.int .i64 3]) (by simp [results,Tryz.results15,go_sem,g0,g1,g2,g3,g4,g5,g6]) rfl ⟨iE,.inl ⟨?_,?_⟩⟩
   ·first | exact jS.out | (rw [HE2.out];exact jS.out) | (rw [HE2.out];decide)
   ·first | rfl | rw [HE2.out]
  by_cases t2:(N:Int)≤task
  ·have HE2:Hid (E=3):=by unfold Hid;rw [aZ.out,if_pos (.inr (.inl t2))]
   go_wp2
   have hX:=tZ (v0:=.int .i64 0) (v1:=.int .i64 0) (v2:=.int .i64 0) (v3:=.slice none 0 0) (v4:=.slice none 0 0) (v5:=.slice none 0 0) (v6:=.int .i64 0) jv.out.zero
   have iE:=uf (v0:=.int .i64 0) (v1:=.int .i64 0) (v2:=.int .i64 0) (v3:=.slice none 0 0) (v4:=.slice none 0 0) (v5:=.slice none 0 0) (v6:=.int .i64 0) jv.out.below (Nat.le_succ _)
   unfold iD at hX iE
   obtain ⟨g0,g1,g2,g3,g4,g5,g6⟩:=hX
   generalize ((((((w3.setCell ⟨w.heap.size+1,0,none⟩ (.int .i64 0)).setCell ⟨w.heap.size+1,1,none⟩ (.int .i64 0)).setCell ⟨w.heap.size+1,2,none⟩ (.int .i64 0)).setCell ⟨w.heap.size+1,3,none⟩ (.slice none 0 0)).setCell ⟨w.heap.size+1,4,none⟩ (.slice none 0 0)).setCell ⟨w.heap.size+1,5,none⟩ (.slice none 0 0)).setCell ⟨w.heap.size+1,6,none⟩ (.int .i64 0)=W4 at *
   refine bodyPost_ret (v:=.tuple #[iW 0 0 0 (.slice none 0 0) (.slice none 0 0) (.slice none 0 0) 0,.int .i64 3]) (by simp [results,Tryz.results15,go_sem,g0,g1,g2,g3,g4,g5,g6]) rfl ⟨iE,.inl ⟨?_,?_⟩⟩
   ·first | exact jS.out | (rw [HE2.out];exact jS.out) | (rw [HE2.out];decide)
   ·first | rfl | rw [HE2.out]
  by_cases t3:most < 0
  ·have HE2:Hid (E=3):=by unfold Hid;rw [aZ.out,if_pos (.inr (.inr (.inl t3)))]
   go_wp2
   have hX:=tZ (v0:=.int .i64 0) (v1:=.int .i64 0) (v2:=.int .i64 0) (v3:=.slice none 0 0) (v4:=.slice none 0 0) (v5:=.slice none 0 0) (v6:=.int .i64 0) jv.out.zero
   have iE:=uf (v0:=.int .i64 0) (v1:=.int .i64 0) (v2:=.int .i64 0) (v3:=.slice none 0 0) (v4:=.slice none 0 0) (v5:=.slice none 0 0) (v6:=.int .i64 0) jv.out.below (Nat.le_succ _)
   unfold iD at hX iE
   obtain ⟨g0,g1,g2,g3,g4,g5,g6⟩:=hX
   generalize ((((((w3.setCell ⟨w.heap.size+1,0,none⟩ (.int .i64 0)).setCell ⟨w.heap.size+1,1,none⟩ (.int .i64 0)).setCell ⟨w.heap.size+1,2,none⟩ (.int .i64 0)).setCell ⟨w.heap.size+1,3,none⟩ (.slice none 0 0)).setCell ⟨w.heap.size+1,4,none⟩ (.slice none 0 0)).setCell ⟨w.heap.size+1,5,none⟩ (.slice none 0 0)).setCell ⟨w.heap.size+1,6,none⟩ (.int .i64 0)=W4 at *
   refine bodyPost_ret (v:=.tuple #[iW 0 0 0 (.slice none 0 0) (.slice none 0 0) (.slice none 0 0) 0,.int .i64 3]) (by simp [results,Tryz.results15,go_sem,g0,g1,g2,g3,g4,g5,g6]) rfl ⟨iE,.inl ⟨?_,?_⟩⟩
   ·first | exact jS.out | (rw [HE2.out];exact jS.out) | (rw [HE2.out];decide)
   ·first | rfl | rw [HE2.out]
  by_cases t4:5000 < most
  ·have HE2:Hid (E=3):=by unfold Hid;rw [aZ.out,if_pos (.inr (.inr (.inr t4)))]
   go_wp2
   have hX:=tZ (v0:=.int .i64 0) (v1:=.int .i64 0) (v2:=.int .i64 0) (v3:=.slice none 0 0) (v4:=.slice none 0 0) (v5:=.slice none 0 0) (v6:=.int .i64 0) jv.out.zero
   have iE:=uf (v0:=.int .i64 0) (v1:=.int .i64 0) (v2:=.int .i64 0) (v3:=.slice none 0 0) (v4:=.slice none 0 0) (v5:=.slice none 0 0) (v6:=.int .i64 0) jv.out.below (Nat.le_succ _)
   unfold iD at hX iE
   obtain ⟨g0,g1,g2,g3,g4,g5,g6⟩:=hX
   generalize ((((((w3.setCell ⟨w.heap.size+1,0,none⟩ (.int .i64 0)).setCell ⟨w.heap.size+1,1,none⟩ (.int .i64 0)).setCell ⟨w.heap.size+1,2,none⟩ (.int .i64 0)).setCell ⟨w.heap.size+1,3,none⟩ (.slice none 0 0)).setCell ⟨w.heap.size+1,4,none⟩ (.slice none 0 0)).setCell ⟨w.heap.size+1,5,none⟩ (.slice none 0 0)).setCell ⟨w.heap.size+1,6,none⟩ (.int .i64 0)=W4 at *
   refine bodyPost_ret (v:=.tuple #[iW 0 0 0 (.slice none 0 0) (.slice none 0 0) (.slice none 0 0) 0,.int .i64 3]) (by simp [results,Tryz.results15,go_sem,g0,g1,g2,g3,g4,g5,g6]) rfl ⟨iE,.inl ⟨?_,?_⟩⟩
   ·first | exact jS.out | (rw [HE2.out];exact jS.out) | (rw [HE2.out];decide)
   ·first | rfl | rw [HE2.out]
  have HE2:Hid (E=tT m.boxes fs):=by unfold Hid;rw [aZ.out,if_neg (by omega)]
  go_wp2_with fail
  refine (Yu m.boxes ab cb B fs a cap fa fc _ (Sb.hide (qI.out _ jv.out)) (by omega) (Sb.hide (F7.out _ jv.out)) (wz.out _ jv.out).1 E HE2).mono ?_
  rintro e w4 ⟨rfl,hb4⟩
  have jH:=Sb.hide (jv.out.on hb4)
  have tu:=Sb.hide hb4
  clear hb4 z3 Zk c3
  by_cases h5:E=0
  ·have e5:(E != 0)=false:=by simpa using h5
   have sO:=Sb.hide h5
   obtain ⟨hfl,hwf⟩:fs.length=m.boxes.length∧oD m.boxes fs=false:=by
    have:=HE2.out
    rw [h5] at this
    unfold tT at this
    split at this
    ·rename_i hh
     split at this
     ·cases this
     ·rename_i hw;exact ⟨hh,by simpa using hw⟩
    ·cases this
   have jO:=Sb.hide hfl
   have Zm:=Sb.hide hwf
   have NP:fs.length≤30:=by omega
   obtain ⟨tn,rfl⟩:=Int.eq_ofNat_of_zero_le (a:=task) (by omega)
   obtain ⟨mn,rfl⟩:=Int.eq_ofNat_of_zero_le (a:=most) (by omega)
   obtain ⟨Bw,uu,Ap,NQ⟩:=Zf (m:=m) (task:=(tn:Int)) (by omega) (by have:=HN.out;omega)
   obtain ⟨U,hU⟩:∃ U,U=tY m (tn:Int):=⟨_,rfl⟩
   have HU:=Sb.hide hU
   rw [← hU] at Bw Ap
   have qf:=Sb.hide Ap
   have NR:=Sb.hide NQ
   obtain ⟨gt,Zn,htc⟩:=yK HT3.out (k:=tn) (u:=.int .i64 (U:Int)) (by
    rw [List.getElem?_map]
    simp only [Int.toNat_natCast] at Bw
    rw [Bw]
    rfl)
   have hgt:=World.block_lt_of_cell? w3 _ htc
   have wh:Hid (∀ W,Below w3.heap.size w3 W→W.cell? ⟨gt,tn,none⟩=some (.int .i64 (U:Int))):=fun W hW=>(aS (hW.block gt hgt) _).trans htc
   subst Zn
   clear hfl hwf h5 hU Bw Ap NQ htc t1 t3
   go_wp2_with fail
   refine (YK B fs a cap fa fc _ (Sb.hide (F7.out _ jH.out)) (wz.out _ jH.out).1 NP).mono ?_
   rintro e w5 ⟨vl,vb,Q,rfl,wB⟩
   obtain ⟨la,lc,rfl⟩:=mE wB.ptr
   obtain ⟨ba,bc,rfl⟩:=mE wB.mF
   obtain ⟨rb,hok,hen,hbx,hold,hvl⟩:=Ze ⟨m,B,au,cu,cv,cc⟩ rfl (F7.out _ jH.out) (wz.out _ jH.out).1 wB jO.out
   have hb5:=wB.below
   have hd5:Below w5.heap.size w5 w5.drew:=(Below.refl _ _).drew
   have yz:=Sb.hide (jH.out.on hb5)
   have HD5:=Sb.hide (yz.out.on hd5)
   have sK:Hid (bA B (lab Q fs.length) w5.drew):=hok.on (Nat.le_refl _)
   have tJ:=Sb.hide hen
   have NS:=Sb.hide hbx
   have HOLD:=Sb.hide hold
   have Zo:=Sb.hide hvl
   have NT:=Sb.hide wB.ptr
   have Zp:=Sb.hide hd5
   have F8:Below w3.heap.size w3 w5:=tu.out.trans (hb5.mono tu.out.size)
   have Zq:=wh.out _ F8
   have c5:=mq yz.out.md
   have NU:=Sb.hide F8
   have hsz:=jI (ig (HK.out.rt.heads _ uu qf.out).1).2.1
   have hp0:uu.params=0:=by
    have:=(ig (HK.out.rt.heads _ uu qf.out).1).2.1
    unfold sized at this
    simp [NR.out] at this
    omega
   have Zr:uu.locals.length≤200:=hsz.1
   have AB:Hid (∀ b,¬ ((lab Q fs.length b).cls=1∧(lab Q fs.length b).idx=0)):=fun b hx=>Zd Q fs.length b hx.1
   have n0:(0:Int)≤(tn:Int):=by omega
   have n1:(tn:Int) < (N:Int):=by omega
   obtain ⟨c51,Zt⟩:=c5
   clear wB hok hen hbx hold hvl hb5 hd5 hsz F8
   go_wp2_with fail
   go_region_held3 (fun w'=>(w'.cell? ⟨w.heap.size,0,none⟩=some (.slice ab m.boxes.length cb)∧w'.cell? ⟨w.heap.size,1,none⟩=some (.slice au m.units.length cu))∧w'.cell? ⟨gt,tn,none⟩=some (.int .i64 (U:Int))) (go_keep) ((go_at_call 21;refine (UR ⟨m,B,au,cu,cv,cc⟩ (lab Q fs.length) 0 _ sK (Sb.hide (by exact F6.out _ HD5.out)) AB ab cb ba fs.length bc U uu qf hp0 Zr).mono ?_;rintro e w6 ⟨T,L6,P6,NV,NW,rfl,NY,hL6,N7,hb6⟩;have qd:Hid (Below w5.heap.size w5 w6):=Zp.out.trans (hb6.mono (Nat.le_refl _));have Zu:=Sb.hide NY;have Zv:=Sb.hide hL6;have N8:Hid (iq 0 (lab Q fs.length) L6 w5):=N7;have vX:=Sb.hide (yz.out.on qd.out);have tc6:=wh.out _ (NU.out.trans (qd.out.mono NU.out.size));have c61:=(mq vX.out.md).1;have c62:=(mq vX.out.md).2;clear NY hL6 N7 hb6))
   clear c51 Zt Zq
   have HST:Hid (St (ni Q fs.length rb 0) ⟨m,B,au,cu,cv,cc⟩ (.slice ba fs.length bc) (.func (.func 36) #[] #[]) 0 T L6 P6 w6 (rR uu U) (mH fs) NV NW):=⟨Zu.out,(ni Q fs.length rb 0).keep (l:=[]) tJ.out N8.out.1 qd.out.size (fun b hb _=>qd.out.block b hb),Zv.out,F6.out _ vX.out⟩
   have HI0:=Sb.hide (Zg HK.out jO.out Zm.out qf.out NR.out)
   go_wp2_with fail
   have N9:Hid (R=go aD m mn (rR uu U) (mH fs)):=by
    unfold Hid
    rw [HRR.out]
    unfold eX
    rw [← HU.out,lX qf.out,Int.toNat_natCast]
   have hrun:=UG (ni Q fs.length rb 0) aD ⟨m,B,au,cu,cv,cc⟩ (.slice ba fs.length bc) 36 #[] (Sb.hide (U7 Q fs.length rb 0 ⟨m,B,au,cu,cv,cc⟩)) NS (LI m K fs) (Sb.hide (NH (c:=⟨m,B,au,cu,cv,cc⟩) HK.out fs)) 0 T L6 P6 w6 (rR uu U) (mH fs) NV NW HST 0 mn (by omega) HI0
   dsimp only at hrun
   rw [← N9.out] at hrun
   have hstp:R.1≤mn:=by rw [N9.out];exact NJ _ _ _
   refine hrun.mono ?_
   clear hrun
   rintro e w7 ⟨rfl,Zw,yQ⟩
   obtain ⟨L7,P7,sG,sH,s7,q7,k7⟩:=Zw
   have hc6:∀ b,b < w5.heap.size→L6 b=lab Q fs.length b:=fun b hb=>N8.out.1 b hb
   have lh:=jH.out.below.size
   have hlow:∀ b,b < w.heap.size+2→(L6 b).cls=0:=fun b hb=>by
    have h4:=(wz.out _ jH.out).2
    have h5:=(wz.out _ yz.out).2
    rw [hc6 b (by omega)]
    exact HOLD.out b (by omega)
   have Zx:=Sb.hide (vX.out.pK k7 hlow)
   have Zy:=Sb.hide yQ
   have hxl:R.2.2.length=fs.length:=by rw [yQ.len];exact jO.out.symm
   have hol:R.2.1.out.length≤1000000:=by have:=yQ.out;omega
   have Zz:Hid (w7.ownsRow 0 74 1 (.slice la fs.length lc) fs.length (ptrs Q fs.length)):=by
    refine bW (qR NT.out (Nat.zero_le _)) (fun b hb=>?_)
    have hbl:=(NT.out.lt b hb).2
    refine (k7.block b (by have:=qd.out.size;omega) (fun hx=>?_)).trans (qd.out.block b hbl)
    have h0:=Zo.out b hb
    unfold WB EB at hx
    rw [hc6 b hbl] at hx
    omega
   obtain ⟨sv,hsv⟩:=s7.en.sv
   have Oa:=Sb.hide hsv
   have S7:=Sb.hide s7
   have HAT:Hid (R.2.1.over=0→∃ f rs u i,lF ⟨m,B,au,cu,cv,cc⟩ R.2.1 f rs u i):=(NH (c:=⟨m,B,au,cu,cv,cc⟩) HK.out fs).at' _ _ _ yQ
   clear yQ s7 q7 k7 hsv hc6 hlow
   go_wp2_with fail
   have hrep:=YT Q fs.length rb 0 ⟨m,B,au,cu,cv,cc⟩ (.slice ba fs.length bc) (.func (.func 36) #[] #[]) 0 T L7 P7 w7 R.2.1 R.2.2 sG sH S7 NS HAT hol la lc Zz NP hxl R.1 sv Oa
   dsimp only at hrep
   rw [← HS.out,← HQ.out] at hrep
   refine hrep.mono ?_
   clear hrep
   rintro e w8 ⟨ZA,ZB,ZC,rfl,r1,r2,r3,F9⟩
   have yR:=Sb.hide (Zx.out.on F9)
   have ZE:Hid (nH w8 R.2.1 R.2.2 ZA ZB ZC):=by
    refine ⟨qR r1 (Nat.zero_le _),⟨sv,?_,fun i q hq=>?_⟩,?_⟩
    ·rw [hxl];exact qR r2 (Nat.zero_le _)
    ·obtain ⟨af,cf,hA⟩:=Oa.out i q hq
     exact bW hA.sent (fun b hb=>F9.block b (hA.sent.lt b hb).2)
    ·rw [hxl];exact qR r3 (Nat.zero_le _)
   obtain ⟨oa,oc,rfl⟩:=mE r1
   obtain ⟨sa,sc,rfl⟩:=mE r2
   obtain ⟨yS,yT,rfl⟩:=mE r3
   have z8:=(eU yR.out.zero).1
   have zf8:=(eU yR.out.zero).2
   clear r1 r2 r3 F9
   go_wp2
   have hX:=tZ (v0:=.int .i64 s) (v1:=.int .i64 q) (v2:=.int .i64 R.2.1.trap) (v3:=.slice oa R.2.1.out.length oc) (v4:=.slice sa fs.length sc) (v5:=.slice yS fs.length yT) (v6:=.int .i64 R.1) yR.out.zero
   have iE:=uf (v0:=.int .i64 s) (v1:=.int .i64 q) (v2:=.int .i64 R.2.1.trap) (v3:=.slice oa R.2.1.out.length oc) (v4:=.slice sa fs.length sc) (v5:=.slice yS fs.length yT) (v6:=.int .i64 R.1) yR.out.below (Nat.le_succ _)
   have Ob:=nH.fill (v0:=.int .i64 s) (v1:=.int .i64 q) (v2:=.int .i64 R.2.1.trap) (v3:=.slice oa R.2.1.out.length oc) (v4:=.slice sa fs.length sc) (v5:=.slice yS fs.length yT) (v6:=.int .i64 R.1) yR.out.zero ZE.out
   unfold iD at hX iE Ob
   obtain ⟨g0,g1,g2,g3,g4,g5,g6⟩:=hX
   generalize ((((((w8.setCell ⟨w.heap.size+1,0,none⟩ (.int .i64 s)).setCell ⟨w.heap.size+1,1,none⟩ (.int .i64 q)).setCell ⟨w.heap.size+1,2,none⟩ (.int .i64 R.2.1.trap)).setCell ⟨w.heap.size+1,3,none⟩ (.slice oa R.2.1.out.length oc)).setCell ⟨w.heap.size+1,4,none⟩ (.slice sa fs.length sc)).setCell ⟨w.heap.size+1,5,none⟩ (.slice yS fs.length yT)).setCell ⟨w.heap.size+1,6,none⟩ (.int .i64 R.1)=W4 at *
   exact bodyPost_ret (v:=.tuple #[iW s q R.2.1.trap (.slice oa R.2.1.out.length oc) (.slice sa fs.length sc) (.slice yS fs.length yT) R.1,.int .i64 0]) (by simp [results,Tryz.results15,go_sem,g0,g1,g2,g3,g4,g5,g6]) rfl ⟨iE,.inr ⟨sO.out,_,_,_,rfl,Ob,K,HK.out,by have:=Zy.out;rw [Nat.zero_add] at this;exact this⟩⟩
  ·have e5:(E != 0)=true:=by simpa using h5
   have jS:=Sb.hide h5
   have Ga:Hid (E=E):=rfl
   have z4:=(eU jH.out.zero).1
   have zf4:=(eU jH.out.zero).2
   clear h5
   go_wp2
   have hX:=tZ (v0:=.int .i64 0) (v1:=.int .i64 0) (v2:=.int .i64 0) (v3:=.slice none 0 0) (v4:=.slice none 0 0) (v5:=.slice none 0 0) (v6:=.int .i64 0) jH.out.zero
   have iE:=uf (v0:=.int .i64 0) (v1:=.int .i64 0) (v2:=.int .i64 0) (v3:=.slice none 0 0) (v4:=.slice none 0 0) (v5:=.slice none 0 0) (v6:=.int .i64 0) jH.out.below (Nat.le_succ _)
   unfold iD at hX iE
   obtain ⟨g0,g1,g2,g3,g4,g5,g6⟩:=hX
   generalize ((((((w4.setCell ⟨w.heap.size+1,0,none⟩ (.int .i64 0)).setCell ⟨w.heap.size+1,1,none⟩ (.int .i64 0)).setCell ⟨w.heap.size+1,2,none⟩ (.int .i64 0)).setCell ⟨w.heap.size+1,3,none⟩ (.slice none 0 0)).setCell ⟨w.heap.size+1,4,none⟩ (.slice none 0 0)).setCell ⟨w.heap.size+1,5,none⟩ (.slice none 0 0)).setCell ⟨w.heap.size+1,6,none⟩ (.int .i64 0)=W4 at *
   refine bodyPost_ret (v:=.tuple #[iW 0 0 0 (.slice none 0 0) (.slice none 0 0) (.slice none 0 0) 0,.int .i64 E]) (by simp [results,Tryz.results15,go_sem,g0,g1,g2,g3,g4,g5,g6]) rfl ⟨iE,.inl ⟨?_,?_⟩⟩
   ·first | exact jS.out | (rw [Ga.out];exact jS.out) | (rw [Ga.out];decide)
   ·first | rfl | rw [Ga.out]
 ·have e0:(ve.1 != 0)=true:=by simpa using h0
  have aZ:Hid (E=ve.1):=by
   unfold Hid
   rw [hE.out,qi,if_pos (by rw [← wy.out];exact h0),← wy.out]
  have jS:=Sb.hide h0
  have hz1:=lt_of_block aO.out.zero
  clear h0
  have v1:(w1.alloc (.cells #[.int .i64 ve.1,.int .i64 ve.2.1,.int .i64 ve.2.2] 44)).cell? ⟨w1.heap.size,0,none⟩=some (.int .i64 ve.1):=by simp [World.cell?_alloc_mark]
  have bO:=Sb.hide (aO.out.on ((Below.refl _ w1).alloc (Nat.le_refl _) (.cells #[.int .i64 ve.1,.int .i64 ve.2.1,.int .i64 ve.2.2] 44)))
  have hzn:¬ w1.heap.size=w.heap.size+1:=by omega
  have ad3:¬ w.heap.size+1=w1.heap.size:=by omega
  have z:=(eU bO.out.zero).1
  have zf:=(eU bO.out.zero).2
  go_wp2
  generalize w1.alloc (.cells #[.int .i64 ve.1,.int .i64 ve.2.1,.int .i64 ve.2.2] 44)=W2 at *
  go_region_held3 (fun w'=>w'.cell? ⟨w1.heap.size,0,none⟩=some (.int .i64 ve.1)) (go_keep) (fail)
  go_wp2
  have hX:=tZ (v0:=.int .i64 0) (v1:=.int .i64 0) (v2:=.int .i64 0) (v3:=.slice none 0 0) (v4:=.slice none 0 0) (v5:=.slice none 0 0) (v6:=.int .i64 0) bO.out.zero
  have iE:=uf (v0:=.int .i64 0) (v1:=.int .i64 0) (v2:=.int .i64 0) (v3:=.slice none 0 0) (v4:=.slice none 0 0) (v5:=.slice none 0 0) (v6:=.int .i64 0) bO.out.below (Nat.le_succ _)
  unfold iD at hX iE
  obtain ⟨g0,g1,g2,g3,g4,g5,g6⟩:=hX
  generalize ((((((W2.setCell ⟨w.heap.size+1,0,none⟩ (.int .i64 0)).setCell ⟨w.heap.size+1,1,none⟩ (.int .i64 0)).setCell ⟨w.heap.size+1,2,none⟩ (.int .i64 0)).setCell ⟨w.heap.size+1,3,none⟩ (.slice none 0 0)).setCell ⟨w.heap.size+1,4,none⟩ (.slice none 0 0)).setCell ⟨w.heap.size+1,5,none⟩ (.slice none 0 0)).setCell ⟨w.heap.size+1,6,none⟩ (.int .i64 0)=W4 at *
  refine bodyPost_ret (v:=.tuple #[iW 0 0 0 (.slice none 0 0) (.slice none 0 0) (.slice none 0 0) 0,.int .i64 ve.1]) (by simp [results,Tryz.results15,go_sem,g0,g1,g2,g3,g4,g5,g6]) rfl ⟨iE.drew,.inl ⟨?_,?_⟩⟩
  ·first | exact jS.out | (rw [aZ.out];exact jS.out) | (rw [aZ.out];decide)
  ·first | rfl | rw [aZ.out]
end Go.Proofs.YthffafaoobpedaaGreatDoor.Vw

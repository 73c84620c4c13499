/- A task that runs by itself,plainly: who is fed more says no less;step by step. -/
import Derived.Test.YthffafaoobpedaaGreatDoorM31
import Derived.Test.YthffafaoobpedaaGreatDoorM30
import Derived.Test.YthffafaoobpedaaGreatDoorM27
set_option maxRecDepth 100000
set_option maxHeartbeats 2000000
namespace Go.Proofs.YthffafaoobpedaaGreatDoor.Vw
open Go.RowKit Vf Vm
section
variable {β:Type} {X:fO β} {m:Md}
theorem Zc {n:Nat}{t:Tk}{x:β}(h:(stat X m t x).1=1):go X m (n+1) t x=((go X m n (one X m t x).1 (one X m t x).2).1+1,(go X m n (one X m t x).1 (one X m t x).2).2):=by
 show (if (stat X m t x).1=1 then _ else _:Nat × Tk × β)=_
 rw [if_pos h]
theorem Zd {n:Nat}{t:Tk}{x:β}(h:¬ (stat X m t x).1=1):go X m n t x=(0,t,x):=by
 cases n with
 | zero=>rfl
 | succ n =>
  show (if (stat X m t x).1=1 then _ else _:Nat × Tk × β)=_
  rw [if_neg h]
theorem NL:∀ (n:Nat) (t:Tk) (x:β),(go X m n t x).1≤n
 | 0,_,_=>Nat.le_refl _
 | n+1,t,x=>by
  by_cases h:(stat X m t x).1=1
  ·rw [Zc h];have:=NL n (one X m t x).1 (one X m t x).2;simp;omega
  ·rw [Zd h];simp
end
structure Later (t:Tk) (x:List aU) (t':Tk) (x':List aU):Prop where
 out:t.out <+: t'.out
 len:x.length=x'.length
 sent:∀ (i:Nat) q q',x[i]?=some q→x'[i]?=some q'→q.sent <+: q'.sent
theorem Later.refl (t:Tk)(x:List aU):Later t x t x:=⟨List.prefix_rfl,rfl,fun i q q' h h'=>by rw [h] at h';cases h';exact List.prefix_rfl⟩
theorem Later.trans {t t1 t2:Tk}{x x1 x2:List aU}(h:Later t x t1 x1)(k:Later t1 x1 t2 x2):Later t x t2 x2 :=
 ⟨h.out.trans k.out,h.len.trans k.len,fun i q q' hq hq'=>by
  obtain ⟨q1,h1⟩:∃ q,x1[i]?=some q:=⟨_,List.getElem?_eq_getElem (by rw [← h.len];exact (List.getElem?_eq_some_iff.1 hq).1)⟩
  exact (h.sent i q q1 hq h1).trans (k.sent i q1 q' h1 hq')⟩
theorem NM (x:List aU)(b:Nat)(v:Int):x.length=(aC.put x b v).length∧∀ (i:Nat) q q',x[i]?=some q→(aC.put x b v)[i]?=some q'→q.sent <+: q'.sent:=by
 cases hb:x[b]? with
 | none=>simp only [aC,hb];exact ⟨trivial,fun i q q' h h'=>by rw [h] at h';cases h';exact List.prefix_rfl⟩
 | some q0 =>
  simp only [aC,hb]
  refine ⟨by simp,fun i q q' h h'=>?_⟩
  rw [List.getElem?_set] at h'
  split at h'
  ·rename_i e
   subst e
   split at h'
   ·cases h';rw [hb] at h;cases h;exact List.prefix_append _ _
   ·cases h'
  ·rw [h] at h';cases h';exact List.prefix_rfl
theorem NN (x:List aU)(b:Nat):x.length=(aC.take x b).length∧∀ (i:Nat) q q',x[i]?=some q→(aC.take x b)[i]?=some q'→q.sent <+: q'.sent:=by
 cases hb:x[b]? with
 | none=>simp only [aC,hb];exact ⟨trivial,fun i q q' h h'=>by rw [h] at h';cases h';exact List.prefix_rfl⟩
 | some q0 =>
  simp only [aC,hb]
  refine ⟨by simp,fun i q q' h h'=>?_⟩
  rw [List.getElem?_set] at h'
  split at h'
  ·rename_i e
   subst e
   split at h'
   ·cases h';rw [hb] at h;cases h;exact List.prefix_rfl
   ·cases h'
  ·rw [h] at h';cases h';exact List.prefix_rfl
structure mF (x x':List aU):Prop where
 len:x.length=x'.length
 at':∀ (i:Nat) q q',x[i]?=some q→x'[i]?=some q'→q.took=q'.took∧q.sent=q'.sent∧q.feed <+: q'.feed∧q.took≤q.feed.length
theorem mF.some {x x':List aU}(h:mF x x'){i:Nat}{q:aU}(hq:x[i]?=some q):∃ q',x'[i]?=some q':=⟨_,List.getElem?_eq_getElem (by rw [← h.len];exact (List.getElem?_eq_some_iff.1 hq).1)⟩
theorem mF.none {x x':List aU}(h:mF x x'){i:Nat}(hq:x[i]?=none):x'[i]?=none:=by
 rw [List.getElem?_eq_none_iff] at hq ⊢
 rw [← h.len];exact hq
theorem mF.empty {x x':List aU}(h:mF x x')(b:Nat)(he:aC.empty x b=false):aC.empty x' b=false∧aC.head x b=aC.head x' b:=by
 cases hb:x[b]? with
 | none=>simp [aC,hb] at he
 | some q =>
  obtain ⟨q',hb'⟩:=h.some hb
  obtain ⟨e1,e2,e3,e4⟩:=h.at' b q q' hb hb'
  simp [aC,hb] at he
  obtain ⟨r,hr⟩:=e3
  simp only [aC,hb,hb',← hr,← e1]
  refine ⟨by simp;omega,?_⟩
  rw [List.getElem?_append_left (by omega)]
theorem mF.put {x x':List aU}(h:mF x x')(b:Nat)(v:Int):mF (aC.put x b v) (aC.put x' b v):=by
 refine ⟨by rw [← (NM x b v).1,← (NM x' b v).1];exact h.len,fun i q q' hq hq'=>?_⟩
 cases hb:x[b]? with
 | none =>
  have hb':=h.none hb
  simp only [aC,hb] at hq
  simp only [aC,hb'] at hq'
  exact h.at' i q q' hq hq'
 | some p =>
  obtain ⟨p',hb'⟩:=h.some hb
  simp only [aC,hb] at hq
  simp only [aC,hb'] at hq'
  rw [List.getElem?_set] at hq hq'
  by_cases e:b=i
  ·subst e
   rw [if_pos rfl] at hq hq'
   split at hq
   ·split at hq'
    ·cases hq;cases hq'
     obtain ⟨e1,e2,e3,e4⟩:=h.at' b p p' hb hb'
     exact ⟨e1,by show p.sent ++ [v]=p'.sent ++ [v];rw [e2],e3,e4⟩
    ·cases hq'
   ·cases hq
  ·rw [if_neg e] at hq hq'
   exact h.at' i q q' hq hq'
theorem mF.take {x x':List aU}(h:mF x x')(b:Nat)(he:aC.empty x b=false):mF (aC.take x b) (aC.take x' b):=by
 refine ⟨by rw [← (NN x b).1,← (NN x' b).1];exact h.len,fun i q q' hq hq'=>?_⟩
 cases hb:x[b]? with
 | none =>
  have hb':=h.none hb
  simp only [aC,hb] at hq
  simp only [aC,hb'] at hq'
  exact h.at' i q q' hq hq'
 | some p =>
  obtain ⟨p',hb'⟩:=h.some hb
  simp [aC,hb] at he
  simp only [aC,hb] at hq
  simp only [aC,hb'] at hq'
  rw [List.getElem?_set] at hq hq'
  by_cases e:b=i
  ·subst e
   rw [if_pos rfl] at hq hq'
   split at hq
   ·split at hq'
    ·cases hq;cases hq'
     obtain ⟨e1,e2,e3,e4⟩:=h.at' b p p' hb hb'
     exact ⟨by show p.took+1=p'.took+1;rw [e1],e2,e3,by show p.took+1≤p.feed.length;omega⟩
    ·cases hq'
   ·cases hq
  ·rw [if_neg e] at hq hq'
   exact h.at' i q q' hq hq'
theorem Ze {B:Nat}{w:World}{m:Md}{ab au:Option Addr}(cu:Nat)(h:bg B w m ab au)(hf:m.units.length≤30):∃ cv cc,lX ⟨m,B,au,cu,cv,cc⟩ w:=by
 have key:∀ i:Nat,∃ p:Option Addr × Nat,∀ u,m.units[i]?=some u→∃ b off al cl,au=some ⟨b,off,none⟩∧b < B∧gQ B w u al p.1 cl p.2∧w.cell? ⟨b,off+i * 6,none⟩=some (.int .i64 u.kind)∧w.cell? ⟨b,off+i * 6+1,none⟩=some (.int .i64 u.params)∧w.cell? ⟨b,off+i * 6+2,none⟩=some (.slice al u.locals.length cl)∧w.cell? ⟨b,off+i * 6+3,none⟩=some (.int .i64 u.result)∧w.cell? ⟨b,off+i * 6+4,none⟩=some (.int .i64 u.takes)∧w.cell? ⟨b,off+i * 6+5,none⟩=some (.slice p.1 u.code.length p.2):=fun i=>by
  cases hu:m.units[i]? with
  | none=>exact ⟨(none,0),fun u e=>by cases e⟩
  | some u =>
   obtain ⟨b,off,al,cl,ac,cc,e,hb,hun,c0,c1,c2,c3,c4,c5⟩:=h.units i u hu
   exact ⟨(ac,cc),fun u' e'=>by cases e';exact ⟨b,off,al,cl,e,hb,hun,c0,c1,c2,c3,c4,c5⟩⟩
 exact ⟨fun i=>(key i).choose.1,fun i=>(key i).choose.2,hf,fun i u hu=>(key i).choose_spec u hu⟩
def lab (Q:Nat→Nat)(n:Nat):ay:=fun b=>match (List.range n).find? (fun i=>Q i == b) with | some i=>⟨2,i,0,0⟩ | none=>⟨0,0,0,0⟩
theorem Zf {Q:Nat→Nat}{n:Nat}(hinj:∀ i j,i < j→j < n→Q i < Q j){i:Nat}(hi:i < n):lab Q n (Q i)=⟨2,i,0,0⟩:=by
 unfold lab
 have:(List.range n).find? (fun j=>Q j == Q i)=some i:=by
  rw [List.find?_eq_some_iff_getElem]
  refine ⟨by simp,i,by simpa using hi,by simp,fun j hj=>?_⟩
  have:=hinj j i hj hi
  simp
  omega
 rw [this]
theorem F9 {Q:Nat→Nat}{n b:Nat}(h:∀ i,i < n→Q i≠b):lab Q n b=⟨0,0,0,0⟩:=by
 unfold lab
 have:(List.range n).find? (fun j=>Q j == b)=none:=by
  rw [List.find?_eq_none]
  intro i hi
  simpa using h i (by simpa using hi)
 rw [this]
theorem Zg (Q:Nat→Nat)(n b:Nat):(lab Q n b).cls≠1:=by
 unfold lab
 split <;> simp
def mG (fs:List (List Int)):List aU:=fs.map fun f=>⟨f,0,[]⟩
theorem NP {fs:List (List Int)}{i:Nat}{q:aU}(h:(mG fs)[i]?=some q):∃ f,fs[i]?=some f∧q=⟨f,0,[]⟩:=by
 unfold mG at h
 rw [List.getElem?_map] at h
 cases hf:fs[i]? with
 | none=>rw [hf] at h;cases h
 | some f=>rw [hf] at h;cases h;exact ⟨f,rfl,rfl⟩
theorem Zh {w wr:World}{B:Nat}{fs:List (List Int)}{a:Option Addr}{fa:Nat→Option Addr}{fc:Nat→Nat}{vl:Value}{ba:Option Addr}{bc:Nat}{Q:Nat→Nat}(c:Cx)(hcB:c.B=B)(hF:jB B w fs a fa fc)(hB:B≤w.heap.size)(h:tT w fs fa fc fs.length vl (.slice ba fs.length bc) Q wr)(hn:fs.length=c.m.boxes.length) :
  ∃ rb,bz c.B (lab Q fs.length) wr∧jO Q fs.length rb 0 (lab Q fs.length) wr (mG fs)∧kZ (ng Q fs.length rb 0) aC c (.slice ba fs.length bc)∧(∀ b,b < w.heap.size→(lab Q fs.length b).cls=0)∧(∀ b,vl.ownBlock=some b→(lab Q fs.length b).cls=0):=by
 have hz:=h.below.size
 have old:∀ b,b < w.heap.size→(lab Q fs.length b).cls=0:=fun b hb=>by rw [F9 (fun i hi e=>by have:=h.low i hi;omega)]
 have qz:∀ i,i < fs.length→Q i < wr.heap.size:=fun i hi=>by
  obtain ⟨f,hf⟩:∃ f,fs[i]?=some f:=⟨_,List.getElem?_eq_getElem hi⟩
  exact lt_of_block (h.blk i f hi hf)
 have Ga:∀ {e n g:Nat} {v:Value} {xs:List Value},wr.ownsRow w.heap.size e 1 v n xs→e≠76→v.ownBlock=some g→(lab Q fs.length g).cls=0:=fun ho he hg=>by
  rw [F9 (fun i hi e2=>?_)]
  obtain ⟨f,hf⟩:∃ f,fs[i]?=some f:=⟨_,List.getElem?_eq_getElem hi⟩
  have hb:=h.blk i f hi hf
  obtain ⟨cur,hc⟩:=jC ho hg
  rw [e2,hc] at hb
  simp at hb
  exact he hb.2
 have hok:bz c.B (lab Q fs.length) wr:=⟨fun b hb=>old b (by omega),fun b hb=>by rw [F9 (fun i hi e=>by have:=qz i hi;omega)],by omega⟩
 have hlists:∀ (n:Nat) q,(mG fs)[n]?=some q→∃ af cf vS,jN (lab Q fs.length) wr (Q n) n q af cf vS:=fun n q hq=>by
  obtain ⟨f,hf,rfl⟩:=NP hq
  have hnl:=(List.getElem?_eq_some_iff.1 hf).1
  refine ⟨fa n,fc n,.slice none 0 0,h.blk n f hnl hf,fun i v hv=>?_,(hF.words n f hf).1,Nat.zero_le _,⟨rfl,.inl ⟨rfl,rfl⟩⟩,Zf h.inj hnl,fun b hb=>by cases hb⟩
  obtain ⟨b,off,e,hb,hc⟩:=(hF.words n f hf).2 i v hv
  exact ⟨b,off,e,by omega,old b (by omega),(aR (h.below.block b (by omega)) _).trans hc⟩
 cases ba with
 | none =>
  have h0:fs.length=0:=by
   rcases h.mE.2 with ⟨_,h0⟩ | ⟨g,cap,cur,e,_⟩
   ·exact h0
   ·simp at e
  refine ⟨0,hok,⟨by simp [mG],fun n hn=>by omega,hlists⟩,⟨fun n hn=>by omega⟩,old,fun b hb=>Ga h.ptr (by decide) hb⟩
 | some ad =>
  rcases h.mE.2 with ⟨e,_⟩ | ⟨g,cap,cur,e,hr⟩
  ·simp at e
  ·simp at e
   obtain ⟨rfl,rfl⟩:=e
   refine ⟨g,hok,⟨by simp [mG],fun n hn=>?_,hlists⟩,?_,old,fun b hb=>Ga h.ptr (by decide) hb⟩
   ·obtain ⟨g',e',hc⟩:=yO h.mE (YH Q hn)
    cases e'
    exact ⟨lt_of_block hr.2.1,Ga h.mE (by decide) rfl,by rw [Nat.zero_add];exact hc⟩
   ·rw [hn]
    exact U9 Q g 0 bc c
def qg (m:Md)(task most:Int)(fs:List (List Int)):Int :=
 if (verify m).1≠0 then (verify m).1
 else if task < 0∨((dG m.units m.units.length).length:Int)≤task∨most < 0∨5000 < most then 3
 else tQ m.boxes fs
def tX (m:Md)(task:Int):Nat:=((dG m.units m.units.length)[task.toNat]?).getD 0
def eQ (m:Md)(task most:Int)(fs:List (List Int)):Nat × Tk × List aU:=go aC m most.toNat (rR (unit m (tX m task)) (tX m task)) (mG fs)
structure nG (w:World) (t:Tk) (x:List aU) (vO vS vT:Value):Prop where
 out:w.ownsRow 0 2 1 vO t.out.length (ints t.out)
 sent:∃ sv,w.ownsRow 0 22 1 vS x.length (nE sv x.length)∧∀ (i:Nat) q,x[i]?=some q→w.ownsRow 0 2 1 (sv i) q.sent.length (ints q.sent)
 took:w.ownsRow 0 3 1 vT x.length (kz x x.length)
theorem nG.below {w w':World}{t:Tk}{x:List aU}{vO vS vT:Value}(h:nG w t x vO vS vT)(hb:Below w.heap.size w w'):nG w' t x vO vS vT:=by
 have k:∀ {e n:Nat} {v:Value} {xs:List Value},w.ownsRow 0 e 1 v n xs→w'.ownsRow 0 e 1 v n xs:=fun h=>bU h (fun b hx=>hb.block b (h.lt b hx).2)
 obtain ⟨sv,s1,s2⟩:=h.sent
 exact ⟨k h.out,⟨sv,k s1,fun i q hq=>k (s2 i q hq)⟩,k h.took⟩
theorem Zi {m:Md}{task:Int}(h0:0≤task)(h1:task < (dG m.units m.units.length).length):(dG m.units m.units.length)[task.toNat]?=some (tX m task)∧∃ u,m.units[tX m task]?=some u∧u.kind=4:=by
 have e:(dG m.units m.units.length)[task.toNat]?=some (tX m task):=by
  unfold tX
  rw [List.getElem?_eq_getElem (by omega)]
  rfl
 refine ⟨e,?_⟩
 have:=List.mem_of_getElem? e
 unfold dG at this
 rw [List.mem_filter] at this
 simpa using this.2
theorem Zj {m:Md}{K:KM}(hK:lY m K){fs:List (List Int)}(hl:fs.length=m.boxes.length)(hw:oC m.boxes fs=false){n:Nat}{u:Un}(hu:m.units[n]?=some u)(h4:u.kind=4):LI m K fs 0 (rR u n) (mG fs):=by
 obtain ⟨G,hG⟩:=TE hK hu h4
 refine ⟨.inr ⟨G,[],hG⟩,.inl rfl,Nat.le_refl _,Nat.le_refl _,by simp [mG,hl],fun i q hq=>?_⟩
 obtain ⟨f,hf,rfl⟩:=NP hq
 refine ⟨hf,Nat.zero_le _,Nat.le_refl _,fun h2=>⟨?_,rfl⟩⟩
 obtain ⟨b,hb⟩:∃ b,m.boxes[i]?=some b:=⟨_,List.getElem?_eq_getElem (by have:=(List.getElem?_eq_some_iff.1 hf).1;omega)⟩
 simp only [gN,Int.toNat_natCast,hb,Option.map_some,Option.getD_some] at h2
 exact Yw hw i b f hb hf h2
theorem Zk {w w1:World}(h:w.grownBy w1 none):Below w.heap.size w w1:=⟨h.os,h.tape,h.output,h.size,fun b hb=>h.block b hb (by simp)⟩
abbrev lI (m:Md) (ab au:Option Addr) (cb cu:Nat):Obj:=.cells #[.slice ab m.boxes.length cb,.slice au m.units.length cu] 38 (0,0)
theorem mo {w:World}{b:Nat}{m:Md}{ab au:Option Addr}{cb cu:Nat}(h:w.heap[b]?=some (lI m ab au cb cu)):w.cell? ⟨b,0,none⟩=some (.slice ab m.boxes.length cb)∧w.cell? ⟨b,1,none⟩=some (.slice au m.units.length cu):=by simp [World.cell?,h]
structure So (w:World) (m:Md) (ab au:Option Addr) (cb cu:Nat) (wr:World):Prop where
 below:Below w.heap.size w wr
 md:wr.heap[w.heap.size]?=some (lI m ab au cb cu)
 zero:wr.heap[w.heap.size+1]?=some jT
theorem So.on {w:World}{m:Md}{ab au:Option Addr}{cb cu:Nat}{wr wr':World}(h:So w m ab au cb cu wr)(hb:Below wr.heap.size wr wr'):So w m ab au cb cu wr' :=
 ⟨h.below.trans (hb.mono h.below.size),(hb.block _ (lt_of_block h.md)).trans h.md,(hb.block _ (lt_of_block h.zero)).trans h.zero⟩
theorem So.first (w:World)(m:Md)(ab au:Option Addr)(cb cu:Nat):So w m ab au cb cu ((w.alloc (lI m ab au cb cu)).alloc jT):=by
 have e:(w.alloc (lI m ab au cb cu)).heap.size=w.heap.size+1:=by simp
 refine ⟨((Below.refl _ w).alloc (Nat.le_refl _) _).alloc (by simp) _,(Below.heap_alloc _ _ _ (by simp)).trans (heap_alloc_new w _),?_⟩
 rw [← e]
 exact heap_alloc_new _ _
abbrev iE (w:World) (b:Nat) (v0 v1 v2 v3 v4 v5 v6:Value):World:=((((((w.setCell ⟨b,0,none⟩ v0).setCell ⟨b,1,none⟩ v1).setCell ⟨b,2,none⟩ v2).setCell ⟨b,3,none⟩ v3).setCell ⟨b,4,none⟩ v4).setCell ⟨b,5,none⟩ v5).setCell ⟨b,6,none⟩ v6
theorem tY {w:World}{b:Nat}{v0 v1 v2 v3 v4 v5 v6:Value}(h:w.heap[b]?=some jT):((iE w b v0 v1 v2 v3 v4 v5 v6).cell? ⟨b,0,none⟩=some v0∧(iE w b v0 v1 v2 v3 v4 v5 v6).cell? ⟨b,1,none⟩=some v1∧(iE w b v0 v1 v2 v3 v4 v5 v6).cell? ⟨b,2,none⟩=some v2∧(iE w b v0 v1 v2 v3 v4 v5 v6).cell? ⟨b,3,none⟩=some v3∧(iE w b v0 v1 v2 v3 v4 v5 v6).cell? ⟨b,4,none⟩=some v4∧(iE w b v0 v1 v2 v3 v4 v5 v6).cell? ⟨b,5,none⟩=some v5∧(iE w b v0 v1 v2 v3 v4 v5 v6).cell? ⟨b,6,none⟩=some v6):=by
 have:(iE w b v0 v1 v2 v3 v4 v5 v6).heap[b]?=some (.cells #[v0,v1,v2,v3,v4,v5,v6] 29 (0,0)):=by
  simp only [World.setCell,Array.getElem?_modify,if_true,h,Option.map_some]
  rfl
 generalize iE w b v0 v1 v2 v3 v4 v5 v6=W at this ⊢
 simp [World.cell?,this]
theorem Zl {w:World}{b:Nat}{v0 v1 v2 v3 v4 v5 v6:Value}{b':Nat}(hn:b'≠b):(iE w b v0 v1 v2 v3 v4 v5 v6).heap[b']?=w.heap[b']?:=by
 rw [Below.heap_setCell _ ⟨b,6,none⟩ _ _ hn,Below.heap_setCell _ ⟨b,5,none⟩ _ _ hn,Below.heap_setCell _ ⟨b,4,none⟩ _ _ hn,Below.heap_setCell _ ⟨b,3,none⟩ _ _ hn,Below.heap_setCell _ ⟨b,2,none⟩ _ _ hn,Below.heap_setCell _ ⟨b,1,none⟩ _ _ hn,Below.heap_setCell _ ⟨b,0,none⟩ _ _ hn]
theorem tZ {w0 w:World}{B b:Nat}{v0 v1 v2 v3 v4 v5 v6:Value}(h:Below B w0 w)(hB:B≤b):Below B w0 (iE w b v0 v1 v2 v3 v4 v5 v6) :=
 ((((((h.setCell (p:=⟨b,0,none⟩) hB _).setCell (p:=⟨b,1,none⟩) hB _).setCell (p:=⟨b,2,none⟩) hB _).setCell (p:=⟨b,3,none⟩) hB _).setCell (p:=⟨b,4,none⟩) hB _).setCell (p:=⟨b,5,none⟩) hB _).setCell (p:=⟨b,6,none⟩) hB _
theorem BG {w:World}{b:Nat}{v0 v1 v2 v3 v4 v5 v6:Value}(h:w.heap[b]?=some jT){B e n:Nat}{v:Value}{xs:List Value}(ho:w.ownsRow B e 1 v n xs)(he:e≠29):(iE w b v0 v1 v2 v3 v4 v5 v6).ownsRow B e 1 v n xs :=
 bU ho (fun k hk=>Zl (fun e2=>by
  obtain ⟨cur,hc⟩:=jC ho hk
  rw [e2,h] at hc
  simp at hc
  exact he hc.2.symm))
theorem nG.fill {w:World}{b:Nat}{v0 v1 v2 v3 v4 v5 v6:Value}(h:w.heap[b]?=some jT){t:Tk}{x:List aU}{vO vS vT:Value}(k:nG w t x vO vS vT):nG (iE w b v0 v1 v2 v3 v4 v5 v6) t x vO vS vT:=by
 obtain ⟨sv,s1,s2⟩:=k.sent
 exact ⟨BG h k.out (by decide),⟨sv,BG h s1 (by decide),fun i q hq=>BG h (s2 i q hq) (by decide)⟩,BG h k.took (by decide)⟩
theorem So.pG {w:World}{m:Md}{ab au:Option Addr}{cb cu:Nat}{wr wr':World}{L:ay}{o:Nat}(h:So w m ab au cb cu wr)(hC:aP (WB L o) wr wr')(hL:∀ b,b < w.heap.size+2→(L b).cls=0):So w m ab au cb cu wr':=by
 have k:∀ b,b < w.heap.size+2→b < wr.heap.size→wr'.heap[b]?=wr.heap[b]?:=fun b hb hz=>hC.block b hz (fun hx=>by have:=hL b hb;unfold WB EB at hx;omega)
 have hz:=h.below.size
 exact ⟨⟨hC.os.trans h.below.os,hC.tape.trans h.below.tape,hC.output.trans h.below.output,Nat.le_trans hz hC.size,fun b hb=>(k b (by omega) (by omega)).trans (h.below.block b hb)⟩,(k _ (by omega) (lt_of_block h.md)).trans h.md,(k _ (by omega) (lt_of_block h.zero)).trans h.zero⟩
theorem jO.sv {Q:Nat→Nat}{nb rb off:Nat}{L:ay}{w:World}{x:List aU}(h:jO Q nb rb off L w x):∃ sv:Nat→Value,∀ (i:Nat) q,x[i]?=some q→∃ af cf,jN L w (Q i) i q af cf (sv i):=by
 have key:∀ i:Nat,∃ v:Value,∀ q,x[i]?=some q→∃ af cf,jN L w (Q i) i q af cf v:=fun i=>by
  cases hx:x[i]? with
  | none=>exact ⟨.slice none 0 0,fun q e=>by cases e⟩
  | some q =>
   obtain ⟨af,cf,vS,hA⟩:=h.lists i q hx
   exact ⟨vS,fun q' e=>by cases e;exact ⟨af,cf,hA⟩⟩
 exact ⟨fun i=>(key i).choose,fun i q hq=>(key i).choose_spec q hq⟩
theorem Zm (m:Md)(ab au:Option Addr)(cb cu B:Nat)(fs:List (List Int))(a:Option Addr)(cap:Nat)(fa:Nat→Option Addr)(fc:Nat→Nat)(w:World)(hmd:Hid (bg B w m ab au))(fq:Hid (jB B w fs a fa fc))(hB:B≤w.heap.size)(task most:Int)(E:Int)(hE:Hid (E=qg m task most fs)) :
  Calls Tryz.prog 15 #[eZ m ab au cb cu,.int .i64 task,.slice a fs.length cap,.int .i64 most] w fun e w'=>Below w.heap.size w w'∧((E≠0∧e=.returned (.tuple #[iV 0 0 0 (.slice none 0 0) (.slice none 0 0) (.slice none 0 0) 0,.int .i64 E])) ∨
   (E=0∧∃ vO vS vT,e=.returned (.tuple #[iV (stat aC m (eQ m task most fs).2.1 (eQ m task most fs).2.2).1 (stat aC m (eQ m task most fs).2.1 (eQ m task most fs).2.2).2 (eQ m task most fs).2.1.trap vO vS vT (eQ m task most fs).1,.int .i64 0])∧nG w' (eQ m task most fs).2.1 (eQ m task most fs).2.2 vO vS vT∧∃ K,lY m K∧LI m K fs (eQ m task most fs).1 (eQ m task most fs).2.1 (eQ m task most fs).2.2)):=by
 obtain ⟨R,hR⟩:∃ R,R=eQ m task most fs:=⟨_,rfl⟩
 rw [← hR]
 have HRR:=Sb.hide hR
 obtain ⟨s,hs⟩:∃ s,s=(stat aC m R.2.1 R.2.2).1:=⟨_,rfl⟩
 obtain ⟨q,hq⟩:∃ s,s=(stat aC m R.2.1 R.2.2).2:=⟨_,rfl⟩
 rw [← hs,← hq]
 have HS:=Sb.hide hs
 have HQ:=Sb.hide hq
 clear hR hs hq
 obtain ⟨ve,NQ⟩:∃ v,v=verify m:=⟨_,rfl⟩
 have wu:=Sb.hide NQ
 clear NQ
 have aO:=Sb.hide (So.first w m ab au cb cu)
 have DD:Hid (bg B ((w.alloc (lI m ab au cb cu)).alloc jT) m ab au):=hmd.out.low (aO.out.below.mono hB).block
 have c0:=mo aO.out.md
 go_enter Tryz.func15,Tryz.ntmps15
 go_wp2_with fail
 generalize (w.alloc (lI m ab au cb cu)).alloc jT=W0 at *
 refine (Yh m ab au cb cu B _ DD (by have:=aO.out.below.size;omega) ve wu).mono ?_
 rintro e w1 ⟨rfl,hg1⟩
 have aN:=Sb.hide (aO.out.on (Zk hg1))
 clear hg1 c0
 by_cases h0:ve.1=0
 ·have e0:(ve.1 != 0)=false:=by simpa using h0
  have aY:Hid (E=if task < 0∨((dG m.units m.units.length).length:Int)≤task∨most < 0∨5000 < most then 3 else tQ m.boxes fs):=by
   unfold Hid
   rw [hE.out,qg,if_neg (by rw [← wu.out];simpa using h0)]
  have hright:verify m=(0,0,0):=by
   rw [← wu.out]
   have e:∀ n k,(from' m n k).1=0→from' m n k=(0,0,0):=by
    intro n
    induction n with
    | zero=>intro k _;rfl
    | succ n ih =>
     intro k hk
     unfold from' at hk ⊢
     split
     ·rename_i e;rw [if_pos e] at hk;exact ih _ hk
     ·rename_i e;rw [if_neg e] at hk;exact absurd hk e
   rw [wu.out] at h0 ⊢
   exact e 6 0 h0
  obtain ⟨⟨K,hK⟩,hbl⟩:=Yr hright
  have HK:=Sb.hide hK
  have HRG:=Sb.hide hright
  have hz1:=lt_of_block aN.out.zero
  have bO:=Sb.hide (aN.out.on ((Below.refl _ w1).alloc (Nat.le_refl _) (.cells #[.int .i64 ve.1,.int .i64 ve.2.1,.int .i64 ve.2.2] 44)))
  have v1:(w1.alloc (.cells #[.int .i64 ve.1,.int .i64 ve.2.1,.int .i64 ve.2.2] 44)).cell? ⟨w1.heap.size,0,none⟩=some (.int .i64 ve.1):=by simp [World.cell?_alloc_mark]
  obtain ⟨cv,cc,hcx⟩:=Ze cu hmd.out hK.rt.units
  have Gb:Hid (∀ W,So w m ab au cb cu W→lX ⟨m,B,au,cu,cv,cc⟩ W):=fun W hW=>hcx.low (hW.below.mono hB).block
  have Gc:Hid (∀ W,So w m ab au cb cu W→jB B W fs a fa fc):=fun W hW=>fq.out.low (hW.below.mono hB).block
  have qI:Hid (∀ W,So w m ab au cb cu W→uT B W m.boxes ab):=fun W hW=>(hmd.out.low (hW.below.mono hB).block).boxes
  have wy:Hid (∀ W,So w m ab au cb cu W→B≤W.heap.size∧w.heap.size+2≤W.heap.size):=fun W hW=>⟨by have:=hW.below.size;omega,lt_of_block hW.zero⟩
  clear h0 hK hright hcx
  have c2:=mo bO.out.md
  go_wp2_with fail
  generalize w1.alloc (.cells #[.int .i64 ve.1,.int .i64 ve.2.1,.int .i64 ve.2.2] 44)=W2 at *
  refine (FQ ⟨m,B,au,cu,cv,cc⟩ ab cb _ (Sb.hide (Gb.out _ bO.out)) (wy.out _ bO.out).1).mono ?_
  rintro e w3 ⟨vl,rfl,hT⟩
  obtain ⟨_,hb3,ho3⟩:=hT
  obtain ⟨ta,tc,rfl⟩:=mD ho3
  have jv:=Sb.hide (bO.out.on hb3)
  have HT3:=Sb.hide ho3
  have c3:=mo jv.out.md
  have z3:=(eP jv.out.zero).1
  have Zn:=(eP jv.out.zero).2
  have Zo:(dG m.units m.units.length).length≤30:=by have:=Nq m.units m.units.length;have:=HK.out.rt.units;omega
  obtain ⟨N,hN⟩:∃ N,N=(dG m.units m.units.length).length:=⟨_,rfl⟩
  have HN:=Sb.hide hN
  change Hid (w3.ownsRow W2.heap.size 3 1 (.slice ta (dG m.units m.units.length).length tc) (dG m.units m.units.length).length (ow (dG m.units m.units.length))) at HT3
  rw [← hN] at aY HT3 Zo
  simp only [← hN]
  clear hN hb3 ho3 c2 v1
  by_cases t1:task < 0
  ·have HE2:Hid (E=3):=by unfold Hid;rw [aY.out,if_pos (.inl t1)]
   go_wp2
   have hX:=tY (v0:=.int .i64 0) (v1:=.int .i64 0) (v2:=.int .i64 0) (v3:=.slice none 0 0) (v4:=.slice none 0 0) (v5:=.slice none 0 0) (v6:=.int .i64 0) jv.out.zero
   have iF:=tZ (v0:=.int .i64 0) (v1:=.int .i64 0) (v2:=.int .i64 0) (v3:=.slice none 0 0) (v4:=.slice none 0 0) (v5:=.slice none 0 0) (v6:=.int .i64 0) jv.out.below (Nat.le_succ _)
   unfold iE at hX iF
   obtain ⟨g0,g1,g2,g3,g4,g5,g6⟩:=hX
   generalize ((((((w3.setCell ⟨w.heap.size+1,0,none⟩ (.int .i64 0)).setCell ⟨w.heap.size+1,1,none⟩ (.int .i64 0)).setCell ⟨w.heap.size+1,2,none⟩ (.int .i64 0)).setCell ⟨w.heap.size+1,3,none⟩ (.slice none 0 0)).setCell ⟨w.heap.size+1,4,none⟩ (.slice none 0 0)).setCell ⟨w.heap.size+1,5,none⟩ (.slice none 0 0)).setCell ⟨w.heap.size+1,6,none⟩ (.int .i64 0)=W4 at *
   refine bodyPost_ret (v:=.tuple #[iV 0 0 0 (.slice none 0 0) (.slice none 0 0) (.slice none 0 0) 0,.int .i64 3]) (by simp [results,Tryz.results15,go_sem,g0,g1,g2,g3,g4,g5,g6]) rfl ⟨iF,.inl ⟨?_,?_⟩⟩
   ·first | exact jQ.out | (rw [HE2.out];exact jQ.out) | (rw [HE2.out];decide)
   ·first | rfl | rw [HE2.out]
  by_cases t2:(N:Int)≤task
  ·have HE2:Hid (E=3):=by unfold Hid;rw [aY.out,if_pos (.inr (.inl t2))]
   go_wp2
   have hX:=tY (v0:=.int .i64 0) (v1:=.int .i64 0) (v2:=.int .i64 0) (v3:=.slice none 0 0) (v4:=.slice none 0 0) (v5:=.slice none 0 0) (v6:=.int .i64 0) jv.out.zero
   have iF:=tZ (v0:=.int .i64 0) (v1:=.int .i64 0) (v2:=.int .i64 0) (v3:=.slice none 0 0) (v4:=.slice none 0 0) (v5:=.slice none 0 0) (v6:=.int .i64 0) jv.out.below (Nat.le_succ _)
   unfold iE at hX iF
   obtain ⟨g0,g1,g2,g3,g4,g5,g6⟩:=hX
   generalize ((((((w3.setCell ⟨w.heap.size+1,0,none⟩ (.int .i64 0)).setCell ⟨w.heap.size+1,1,none⟩ (.int .i64 0)).setCell ⟨w.heap.size+1,2,none⟩ (.int .i64 0)).setCell ⟨w.heap.size+1,3,none⟩ (.slice none 0 0)).setCell ⟨w.heap.size+1,4,none⟩ (.slice none 0 0)).setCell ⟨w.heap.size+1,5,none⟩ (.slice none 0 0)).setCell ⟨w.heap.size+1,6,none⟩ (.int .i64 0)=W4 at *
   refine bodyPost_ret (v:=.tuple #[iV 0 0 0 (.slice none 0 0) (.slice none 0 0) (.slice none 0 0) 0,.int .i64 3]) (by simp [results,Tryz.results15,go_sem,g0,g1,g2,g3,g4,g5,g6]) rfl ⟨iF,.inl ⟨?_,?_⟩⟩
   ·first | exact jQ.out | (rw [HE2.out];exact jQ.out) | (rw [HE2.out];decide)
   ·first | rfl | rw [HE2.out]
  by_cases t3:most < 0
  ·have HE2:Hid (E=3):=by unfold Hid;rw [aY.out,if_pos (.inr (.inr (.inl t3)))]
   go_wp2
   have hX:=tY (v0:=.int .i64 0) (v1:=.int .i64 0) (v2:=.int .i64 0) (v3:=.slice none 0 0) (v4:=.slice none 0 0) (v5:=.slice none 0 0) (v6:=.int .i64 0) jv.out.zero
   have iF:=tZ (v0:=.int .i64 0) (v1:=.int .i64 0) (v2:=.int .i64 0) (v3:=.slice none 0 0) (v4:=.slice none 0 0) (v5:=.slice none 0 0) (v6:=.int .i64 0) jv.out.below (Nat.le_succ _)
   unfold iE at hX iF
   obtain ⟨g0,g1,g2,g3,g4,g5,g6⟩:=hX
   generalize ((((((w3.setCell ⟨w.heap.size+1,0,none⟩ (.int .i64 0)).setCell ⟨w.heap.size+1,1,none⟩ (.int .i64 0)).setCell ⟨w.heap.size+1,2,none⟩ (.int .i64 0)).setCell ⟨w.heap.size+1,3,none⟩ (.slice none 0 0)).setCell ⟨w.heap.size+1,4,none⟩ (.slice none 0 0)).setCell ⟨w.heap.size+1,5,none⟩ (.slice none 0 0)).setCell ⟨w.heap.size+1,6,none⟩ (.int .i64 0)=W4 at *
   refine bodyPost_ret (v:=.tuple #[iV 0 0 0 (.slice none 0 0) (.slice none 0 0) (.slice none 0 0) 0,.int .i64 3]) (by simp [results,Tryz.results15,go_sem,g0,g1,g2,g3,g4,g5,g6]) rfl ⟨iF,.inl ⟨?_,?_⟩⟩
   ·first | exact jQ.out | (rw [HE2.out];exact jQ.out) | (rw [HE2.out];decide)
   ·first | rfl | rw [HE2.out]
  by_cases t4:5000 < most
  ·have HE2:Hid (E=3):=by unfold Hid;rw [aY.out,if_pos (.inr (.inr (.inr t4)))]
   go_wp2
   have hX:=tY (v0:=.int .i64 0) (v1:=.int .i64 0) (v2:=.int .i64 0) (v3:=.slice none 0 0) (v4:=.slice none 0 0) (v5:=.slice none 0 0) (v6:=.int .i64 0) jv.out.zero
   have iF:=tZ (v0:=.int .i64 0) (v1:=.int .i64 0) (v2:=.int .i64 0) (v3:=.slice none 0 0) (v4:=.slice none 0 0) (v5:=.slice none 0 0) (v6:=.int .i64 0) jv.out.below (Nat.le_succ _)
   unfold iE at hX iF
   obtain ⟨g0,g1,g2,g3,g4,g5,g6⟩:=hX
   generalize ((((((w3.setCell ⟨w.heap.size+1,0,none⟩ (.int .i64 0)).setCell ⟨w.heap.size+1,1,none⟩ (.int .i64 0)).setCell ⟨w.heap.size+1,2,none⟩ (.int .i64 0)).setCell ⟨w.heap.size+1,3,none⟩ (.slice none 0 0)).setCell ⟨w.heap.size+1,4,none⟩ (.slice none 0 0)).setCell ⟨w.heap.size+1,5,none⟩ (.slice none 0 0)).setCell ⟨w.heap.size+1,6,none⟩ (.int .i64 0)=W4 at *
   refine bodyPost_ret (v:=.tuple #[iV 0 0 0 (.slice none 0 0) (.slice none 0 0) (.slice none 0 0) 0,.int .i64 3]) (by simp [results,Tryz.results15,go_sem,g0,g1,g2,g3,g4,g5,g6]) rfl ⟨iF,.inl ⟨?_,?_⟩⟩
   ·first | exact jQ.out | (rw [HE2.out];exact jQ.out) | (rw [HE2.out];decide)
   ·first | rfl | rw [HE2.out]
  have HE2:Hid (E=tQ m.boxes fs):=by unfold Hid;rw [aY.out,if_neg (by omega)]
  go_wp2_with fail
  refine (Yx m.boxes ab cb B fs a cap fa fc _ (Sb.hide (qI.out _ jv.out)) (by omega) (Sb.hide (Gc.out _ jv.out)) (wy.out _ jv.out).1 E HE2).mono ?_
  rintro e w4 ⟨rfl,hb4⟩
  have jG:=Sb.hide (jv.out.on hb4)
  have tu:=Sb.hide hb4
  clear hb4 z3 Zn c3
  by_cases h5:E=0
  ·have e5:(E != 0)=false:=by simpa using h5
   have sO:=Sb.hide h5
   obtain ⟨hfl,hwf⟩:fs.length=m.boxes.length∧oC m.boxes fs=false:=by
    have:=HE2.out
    rw [h5] at this
    unfold tQ at this
    split at this
    ·rename_i hh
     split at this
     ·cases this
     ·rename_i hw;exact ⟨hh,by simpa using hw⟩
    ·cases this
   have jM:=Sb.hide hfl
   have Zp:=Sb.hide hwf
   have NR:fs.length≤30:=by omega
   obtain ⟨tn,rfl⟩:=Int.eq_ofNat_of_zero_le (a:=task) (by omega)
   obtain ⟨mn,rfl⟩:=Int.eq_ofNat_of_zero_le (a:=most) (by omega)
   obtain ⟨BH,uu,AB,NS⟩:=Zi (m:=m) (task:=(tn:Int)) (by omega) (by have:=HN.out;omega)
   obtain ⟨U,hU⟩:∃ U,U=tX m (tn:Int):=⟨_,rfl⟩
   have HU:=Sb.hide hU
   rw [← hU] at BH AB
   have p9:=Sb.hide AB
   have NT:=Sb.hide NS
   obtain ⟨gt,Zq,htc⟩:=yO HT3.out (k:=tn) (u:=.int .i64 (U:Int)) (by
    rw [List.getElem?_map]
    simp only [Int.toNat_natCast] at BH
    rw [BH]
    rfl)
   have hgt:=World.block_lt_of_cell? w3 _ htc
   have vZ:Hid (∀ W,Below w3.heap.size w3 W→W.cell? ⟨gt,tn,none⟩=some (.int .i64 (U:Int))):=fun W hW=>(aR (hW.block gt hgt) _).trans htc
   subst Zq
   clear hfl hwf h5 hU BH AB NS htc t1 t3
   go_wp2_with fail
   refine (YN B fs a cap fa fc _ (Sb.hide (Gc.out _ jG.out)) (wy.out _ jG.out).1 NR).mono ?_
   rintro e w5 ⟨vl,vb,Q,rfl,wz⟩
   obtain ⟨la,lc,rfl⟩:=mD wz.ptr
   obtain ⟨ba,bc,rfl⟩:=mD wz.mE
   obtain ⟨rb,hok,hen,hbx,hold,hvl⟩:=Zh ⟨m,B,au,cu,cv,cc⟩ rfl (Gc.out _ jG.out) (wy.out _ jG.out).1 wz jM.out
   have hb5:=wz.below
   have hd5:Below w5.heap.size w5 w5.drew:=(Below.refl _ _).drew
   have yD:=Sb.hide (jG.out.on hb5)
   have HD5:=Sb.hide (yD.out.on hd5)
   have sK:Hid (bz B (lab Q fs.length) w5.drew):=hok.on (Nat.le_refl _)
   have tH:=Sb.hide hen
   have NU:=Sb.hide hbx
   have HOLD:=Sb.hide hold
   have Zr:=Sb.hide hvl
   have NV:=Sb.hide wz.ptr
   have Zt:=Sb.hide hd5
   have Gf:Below w3.heap.size w3 w5:=tu.out.trans (hb5.mono tu.out.size)
   have Zu:=vZ.out _ Gf
   have c5:=mo yD.out.md
   have NW:=Sb.hide Gf
   have hsz:=jH (ik (HK.out.rt.heads _ uu p9.out).1).2.1
   have hp0:uu.params=0:=by
    have:=(ik (HK.out.rt.heads _ uu p9.out).1).2.1
    unfold sized at this
    simp [NT.out] at this
    omega
   have Zv:uu.locals.length≤200:=hsz.1
   have AY:Hid (∀ b,¬ ((lab Q fs.length b).cls=1∧(lab Q fs.length b).idx=0)):=fun b hx=>Zg Q fs.length b hx.1
   have n0:(0:Int)≤(tn:Int):=by omega
   have n1:(tn:Int) < (N:Int):=by omega
   obtain ⟨c51,Zw⟩:=c5
   clear wz hok hen hbx hold hvl hb5 hd5 hsz Gf
   go_wp2_with fail
   go_region_held3 (fun w'=>(w'.cell? ⟨w.heap.size,0,none⟩=some (.slice ab m.boxes.length cb)∧w'.cell? ⟨w.heap.size,1,none⟩=some (.slice au m.units.length cu))∧w'.cell? ⟨gt,tn,none⟩=some (.int .i64 (U:Int))) (go_keep) ((go_at_call 21;refine (UW ⟨m,B,au,cu,cv,cc⟩ (lab Q fs.length) 0 _ sK (Sb.hide (by exact Gb.out _ HD5.out)) AY ab cb ba fs.length bc U uu p9 hp0 Zv).mono ?_;rintro e w6 ⟨T,L6,P6,NY,N7,rfl,N8,hL6,N9,hb6⟩;have p8:Hid (Below w5.heap.size w5 w6):=Zt.out.trans (hb6.mono (Nat.le_refl _));have Zx:=Sb.hide N8;have Zy:=Sb.hide hL6;have Oa:Hid (iw 0 (lab Q fs.length) L6 w5):=N9;have vW:=Sb.hide (yD.out.on p8.out);have tc6:=vZ.out _ (NW.out.trans (p8.out.mono NW.out.size));have c61:=(mo vW.out.md).1;have c62:=(mo vW.out.md).2;clear N8 hL6 N9 hb6))
   clear c51 Zw Zu
   have HST:Hid (St (ng Q fs.length rb 0) ⟨m,B,au,cu,cv,cc⟩ (.slice ba fs.length bc) (.func (.func 36) #[] #[]) 0 T L6 P6 w6 (rR uu U) (mG fs) NY N7):=⟨Zx.out,(ng Q fs.length rb 0).keep (l:=[]) tH.out Oa.out.1 p8.out.size (fun b hb _=>p8.out.block b hb),Zy.out,Gb.out _ vW.out⟩
   have HI0:=Sb.hide (Zj HK.out jM.out Zp.out p9.out NT.out)
   go_wp2_with fail
   have Ob:Hid (R=go aC m mn (rR uu U) (mG fs)):=by
    unfold Hid
    rw [HRR.out]
    unfold eQ
    rw [← HU.out,lW p9.out,Int.toNat_natCast]
   have hrun:=UJ (ng Q fs.length rb 0) aC ⟨m,B,au,cu,cv,cc⟩ (.slice ba fs.length bc) 36 #[] (Sb.hide (Va Q fs.length rb 0 ⟨m,B,au,cu,cv,cc⟩)) NU (LI m K fs) (Sb.hide (NJ (c:=⟨m,B,au,cu,cv,cc⟩) HK.out fs)) 0 T L6 P6 w6 (rR uu U) (mG fs) NY N7 HST 0 mn (by omega) HI0
   dsimp only at hrun
   rw [← Ob.out] at hrun
   have hstp:R.1≤mn:=by rw [Ob.out];exact NL _ _ _
   refine hrun.mono ?_
   clear hrun
   rintro e w7 ⟨rfl,Zz,yU⟩
   obtain ⟨L7,P7,sG,sH,s7,q7,k7⟩:=Zz
   have hc6:∀ b,b < w5.heap.size→L6 b=lab Q fs.length b:=fun b hb=>Oa.out.1 b hb
   have kY:=jG.out.below.size
   have hlow:∀ b,b < w.heap.size+2→(L6 b).cls=0:=fun b hb=>by
    have h4:=(wy.out _ jG.out).2
    have h5:=(wy.out _ yD.out).2
    rw [hc6 b (by omega)]
    exact HOLD.out b (by omega)
   have ZA:=Sb.hide (vW.out.pG k7 hlow)
   have ZB:=Sb.hide yU
   have hxl:R.2.2.length=fs.length:=by rw [yU.len];exact jM.out.symm
   have hol:R.2.1.out.length≤1000000:=by have:=yU.out;omega
   have ZC:Hid (w7.ownsRow 0 74 1 (.slice la fs.length lc) fs.length (ptrs Q fs.length)):=by
    refine bU (qR NV.out (Nat.zero_le _)) (fun b hb=>?_)
    have hbl:=(NV.out.lt b hb).2
    refine (k7.block b (by have:=p8.out.size;omega) (fun hx=>?_)).trans (p8.out.block b hbl)
    have h0:=Zr.out b hb
    unfold WB EB at hx
    rw [hc6 b hbl] at hx
    omega
   obtain ⟨sv,hsv⟩:=s7.en.sv
   have Oc:=Sb.hide hsv
   have S7:=Sb.hide s7
   have HAT:Hid (R.2.1.over=0→∃ f rs u i,lC ⟨m,B,au,cu,cv,cc⟩ R.2.1 f rs u i):=(NJ (c:=⟨m,B,au,cu,cv,cc⟩) HK.out fs).at' _ _ _ yU
   clear yU s7 q7 k7 hsv hc6 hlow
   go_wp2_with fail
   have hrep:=YW Q fs.length rb 0 ⟨m,B,au,cu,cv,cc⟩ (.slice ba fs.length bc) (.func (.func 36) #[] #[]) 0 T L7 P7 w7 R.2.1 R.2.2 sG sH S7 NU HAT hol la lc ZC NR hxl R.1 sv Oc
   dsimp only at hrep
   rw [← HS.out,← HQ.out] at hrep
   refine hrep.mono ?_
   clear hrep
   rintro e w8 ⟨ZE,ZF,ZG,rfl,r1,r2,r3,Gg⟩
   have yV:=Sb.hide (ZA.out.on Gg)
   have ZH:Hid (nG w8 R.2.1 R.2.2 ZE ZF ZG):=by
    refine ⟨qR r1 (Nat.zero_le _),⟨sv,?_,fun i q hq=>?_⟩,?_⟩
    ·rw [hxl];exact qR r2 (Nat.zero_le _)
    ·obtain ⟨af,cf,hA⟩:=Oc.out i q hq
     exact bU hA.sent (fun b hb=>Gg.block b (hA.sent.lt b hb).2)
    ·rw [hxl];exact qR r3 (Nat.zero_le _)
   obtain ⟨oa,oc,rfl⟩:=mD r1
   obtain ⟨sa,sc,rfl⟩:=mD r2
   obtain ⟨yX,yY,rfl⟩:=mD r3
   have z8:=(eP yV.out.zero).1
   have zf8:=(eP yV.out.zero).2
   clear r1 r2 r3 Gg
   go_wp2
   have hX:=tY (v0:=.int .i64 s) (v1:=.int .i64 q) (v2:=.int .i64 R.2.1.trap) (v3:=.slice oa R.2.1.out.length oc) (v4:=.slice sa fs.length sc) (v5:=.slice yX fs.length yY) (v6:=.int .i64 R.1) yV.out.zero
   have iF:=tZ (v0:=.int .i64 s) (v1:=.int .i64 q) (v2:=.int .i64 R.2.1.trap) (v3:=.slice oa R.2.1.out.length oc) (v4:=.slice sa fs.length sc) (v5:=.slice yX fs.length yY) (v6:=.int .i64 R.1) yV.out.below (Nat.le_succ _)
   have Od:=nG.fill (v0:=.int .i64 s) (v1:=.int .i64 q) (v2:=.int .i64 R.2.1.trap) (v3:=.slice oa R.2.1.out.length oc) (v4:=.slice sa fs.length sc) (v5:=.slice yX fs.length yY) (v6:=.int .i64 R.1) yV.out.zero ZH.out
   unfold iE at hX iF Od
   obtain ⟨g0,g1,g2,g3,g4,g5,g6⟩:=hX
   generalize ((((((w8.setCell ⟨w.heap.size+1,0,none⟩ (.int .i64 s)).setCell ⟨w.heap.size+1,1,none⟩ (.int .i64 q)).setCell ⟨w.heap.size+1,2,none⟩ (.int .i64 R.2.1.trap)).setCell ⟨w.heap.size+1,3,none⟩ (.slice oa R.2.1.out.length oc)).setCell ⟨w.heap.size+1,4,none⟩ (.slice sa fs.length sc)).setCell ⟨w.heap.size+1,5,none⟩ (.slice yX fs.length yY)).setCell ⟨w.heap.size+1,6,none⟩ (.int .i64 R.1)=W4 at *
   exact bodyPost_ret (v:=.tuple #[iV s q R.2.1.trap (.slice oa R.2.1.out.length oc) (.slice sa fs.length sc) (.slice yX fs.length yY) R.1,.int .i64 0]) (by simp [results,Tryz.results15,go_sem,g0,g1,g2,g3,g4,g5,g6]) rfl ⟨iF,.inr ⟨sO.out,_,_,_,rfl,Od,K,HK.out,by have:=ZB.out;rw [Nat.zero_add] at this;exact this⟩⟩
  ·have e5:(E != 0)=true:=by simpa using h5
   have jQ:=Sb.hide h5
   have Gi:Hid (E=E):=rfl
   have z4:=(eP jG.out.zero).1
   have zf4:=(eP jG.out.zero).2
   clear h5
   go_wp2
   have hX:=tY (v0:=.int .i64 0) (v1:=.int .i64 0) (v2:=.int .i64 0) (v3:=.slice none 0 0) (v4:=.slice none 0 0) (v5:=.slice none 0 0) (v6:=.int .i64 0) jG.out.zero
   have iF:=tZ (v0:=.int .i64 0) (v1:=.int .i64 0) (v2:=.int .i64 0) (v3:=.slice none 0 0) (v4:=.slice none 0 0) (v5:=.slice none 0 0) (v6:=.int .i64 0) jG.out.below (Nat.le_succ _)
   unfold iE at hX iF
   obtain ⟨g0,g1,g2,g3,g4,g5,g6⟩:=hX
   generalize ((((((w4.setCell ⟨w.heap.size+1,0,none⟩ (.int .i64 0)).setCell ⟨w.heap.size+1,1,none⟩ (.int .i64 0)).setCell ⟨w.heap.size+1,2,none⟩ (.int .i64 0)).setCell ⟨w.heap.size+1,3,none⟩ (.slice none 0 0)).setCell ⟨w.heap.size+1,4,none⟩ (.slice none 0 0)).setCell ⟨w.heap.size+1,5,none⟩ (.slice none 0 0)).setCell ⟨w.heap.size+1,6,none⟩ (.int .i64 0)=W4 at *
   refine bodyPost_ret (v:=.tuple #[iV 0 0 0 (.slice none 0 0) (.slice none 0 0) (.slice none 0 0) 0,.int .i64 E]) (by simp [results,Tryz.results15,go_sem,g0,g1,g2,g3,g4,g5,g6]) rfl ⟨iF,.inl ⟨?_,?_⟩⟩
   ·first | exact jQ.out | (rw [Gi.out];exact jQ.out) | (rw [Gi.out];decide)
   ·first | rfl | rw [Gi.out]
 ·have e0:(ve.1 != 0)=true:=by simpa using h0
  have aY:Hid (E=ve.1):=by
   unfold Hid
   rw [hE.out,qg,if_pos (by rw [← wu.out];exact h0),← wu.out]
  have jQ:=Sb.hide h0
  have hz1:=lt_of_block aN.out.zero
  clear h0
  have v1:(w1.alloc (.cells #[.int .i64 ve.1,.int .i64 ve.2.1,.int .i64 ve.2.2] 44)).cell? ⟨w1.heap.size,0,none⟩=some (.int .i64 ve.1):=by simp [World.cell?_alloc_mark]
  have bO:=Sb.hide (aN.out.on ((Below.refl _ w1).alloc (Nat.le_refl _) (.cells #[.int .i64 ve.1,.int .i64 ve.2.1,.int .i64 ve.2.2] 44)))
  have hzn:¬ w1.heap.size=w.heap.size+1:=by omega
  have ad7:¬ w.heap.size+1=w1.heap.size:=by omega
  have z:=(eP bO.out.zero).1
  have zf:=(eP bO.out.zero).2
  go_wp2
  generalize w1.alloc (.cells #[.int .i64 ve.1,.int .i64 ve.2.1,.int .i64 ve.2.2] 44)=W2 at *
  go_region_held3 (fun w'=>w'.cell? ⟨w1.heap.size,0,none⟩=some (.int .i64 ve.1)) (go_keep) (fail)
  go_wp2
  have hX:=tY (v0:=.int .i64 0) (v1:=.int .i64 0) (v2:=.int .i64 0) (v3:=.slice none 0 0) (v4:=.slice none 0 0) (v5:=.slice none 0 0) (v6:=.int .i64 0) bO.out.zero
  have iF:=tZ (v0:=.int .i64 0) (v1:=.int .i64 0) (v2:=.int .i64 0) (v3:=.slice none 0 0) (v4:=.slice none 0 0) (v5:=.slice none 0 0) (v6:=.int .i64 0) bO.out.below (Nat.le_succ _)
  unfold iE at hX iF
  obtain ⟨g0,g1,g2,g3,g4,g5,g6⟩:=hX
  generalize ((((((W2.setCell ⟨w.heap.size+1,0,none⟩ (.int .i64 0)).setCell ⟨w.heap.size+1,1,none⟩ (.int .i64 0)).setCell ⟨w.heap.size+1,2,none⟩ (.int .i64 0)).setCell ⟨w.heap.size+1,3,none⟩ (.slice none 0 0)).setCell ⟨w.heap.size+1,4,none⟩ (.slice none 0 0)).setCell ⟨w.heap.size+1,5,none⟩ (.slice none 0 0)).setCell ⟨w.heap.size+1,6,none⟩ (.int .i64 0)=W4 at *
  refine bodyPost_ret (v:=.tuple #[iV 0 0 0 (.slice none 0 0) (.slice none 0 0) (.slice none 0 0) 0,.int .i64 ve.1]) (by simp [results,Tryz.results15,go_sem,g0,g1,g2,g3,g4,g5,g6]) rfl ⟨iF.drew,.inl ⟨?_,?_⟩⟩
  ·first | exact jQ.out | (rw [aY.out];exact jQ.out) | (rw [aY.out];decide)
  ·first | rfl | rw [aY.out]
end Go.Proofs.YthffafaoobpedaaGreatDoor.Vw

/- A task that runs by itself,plainly: who is fed more says no less;step by step. -/
import Derived.Test.YthffafaoobpedaaGreatDoorM31
import Derived.Test.YthffafaoobpedaaGreatDoorM30
import Derived.Test.YthffafaoobpedaaGreatDoorM27
set_option maxRecDepth 100000
set_option maxHeartbeats 2000000
namespace Go.Proofs.YthffafaoobpedaaGreatDoor.Vw
open Go.RowKit Vf Vm
section
variable {β:Type} {X:fO β} {m:Md}
theorem Zo {n:Nat}{t:Tk}{x:β}(h:(stat X m t x).1=1):go X m (n+1) t x=((go X m n (one X m t x).1 (one X m t x).2).1+1,(go X m n (one X m t x).1 (one X m t x).2).2):=by
 show (if (stat X m t x).1=1 then _ else _:Nat × Tk × β)=_
 rw [if_pos h]
theorem Zp {n:Nat}{t:Tk}{x:β}(h:¬ (stat X m t x).1=1):go X m n t x=(0,t,x):=by
 cases n with
 | zero=>rfl
 | succ n =>
  show (if (stat X m t x).1=1 then _ else _:Nat × Tk × β)=_
  rw [if_neg h]
theorem NQ:∀ (n:Nat) (t:Tk) (x:β),(go X m n t x).1≤n
 | 0,_,_=>Nat.le_refl _
 | n+1,t,x=>by
  by_cases h:(stat X m t x).1=1
  ·rw [Zo h];have:=NQ n (one X m t x).1 (one X m t x).2;simp;omega
  ·rw [Zp h];simp
end
structure Later (t:Tk) (x:List aR) (t':Tk) (x':List aR):Prop where
 out:t.out <+: t'.out
 len:x.length=x'.length
 sent:∀ (i:Nat) q q',x[i]?=some q→x'[i]?=some q'→q.sent <+: q'.sent
theorem Later.refl (t:Tk)(x:List aR):Later t x t x:=⟨List.prefix_rfl,rfl,fun i q q' h h'=>by rw [h] at h';cases h';exact List.prefix_rfl⟩
theorem Later.trans {t t1 t2:Tk}{x x1 x2:List aR}(h:Later t x t1 x1)(k:Later t1 x1 t2 x2):Later t x t2 x2 :=
 ⟨h.out.trans k.out,h.len.trans k.len,fun i q q' hq hq'=>by
  obtain ⟨q1,h1⟩:∃ q,x1[i]?=some q:=⟨_,List.getElem?_eq_getElem (by rw [← h.len];exact (List.getElem?_eq_some_iff.1 hq).1)⟩
  exact (h.sent i q q1 hq h1).trans (k.sent i q1 q' h1 hq')⟩
theorem NR (x:List aR)(b:Nat)(v:Int):x.length=(aC.put x b v).length∧∀ (i:Nat) q q',x[i]?=some q→(aC.put x b v)[i]?=some q'→q.sent <+: q'.sent:=by
 cases hb:x[b]? with
 | none=>simp only [aC,hb];exact ⟨trivial,fun i q q' h h'=>by rw [h] at h';cases h';exact List.prefix_rfl⟩
 | some q0 =>
  simp only [aC,hb]
  refine ⟨by simp,fun i q q' h h'=>?_⟩
  rw [List.getElem?_set] at h'
  split at h'
  ·rename_i e
   subst e
   split at h'
   ·cases h';rw [hb] at h;cases h;exact List.prefix_append _ _
   ·cases h'
  ·rw [h] at h';cases h';exact List.prefix_rfl
theorem NS (x:List aR)(b:Nat):x.length=(aC.take x b).length∧∀ (i:Nat) q q',x[i]?=some q→(aC.take x b)[i]?=some q'→q.sent <+: q'.sent:=by
 cases hb:x[b]? with
 | none=>simp only [aC,hb];exact ⟨trivial,fun i q q' h h'=>by rw [h] at h';cases h';exact List.prefix_rfl⟩
 | some q0 =>
  simp only [aC,hb]
  refine ⟨by simp,fun i q q' h h'=>?_⟩
  rw [List.getElem?_set] at h'
  split at h'
  ·rename_i e
   subst e
   split at h'
   ·cases h';rw [hb] at h;cases h;exact List.prefix_rfl
   ·cases h'
  ·rw [h] at h';cases h';exact List.prefix_rfl
structure mJ (x x':List aR):Prop where
 len:x.length=x'.length
 at':∀ (i:Nat) q q',x[i]?=some q→x'[i]?=some q'→q.took=q'.took∧q.sent=q'.sent∧q.feed <+: q'.feed∧q.took≤q.feed.length
theorem mJ.some {x x':List aR}(h:mJ x x'){i:Nat}{q:aR}(hq:x[i]?=some q):∃ q',x'[i]?=some q':=⟨_,List.getElem?_eq_getElem (by rw [← h.len];exact (List.getElem?_eq_some_iff.1 hq).1)⟩
theorem mJ.none {x x':List aR}(h:mJ x x'){i:Nat}(hq:x[i]?=none):x'[i]?=none:=by
 rw [List.getElem?_eq_none_iff] at hq ⊢
 rw [← h.len];exact hq
theorem mJ.empty {x x':List aR}(h:mJ x x')(b:Nat)(he:aC.empty x b=false):aC.empty x' b=false∧aC.head x b=aC.head x' b:=by
 cases hb:x[b]? with
 | none=>simp [aC,hb] at he
 | some q =>
  obtain ⟨q',hb'⟩:=h.some hb
  obtain ⟨e1,e2,e3,e4⟩:=h.at' b q q' hb hb'
  simp [aC,hb] at he
  obtain ⟨r,hr⟩:=e3
  simp only [aC,hb,hb',← hr,← e1]
  refine ⟨by simp;omega,?_⟩
  rw [List.getElem?_append_left (by omega)]
theorem mJ.put {x x':List aR}(h:mJ x x')(b:Nat)(v:Int):mJ (aC.put x b v) (aC.put x' b v):=by
 refine ⟨by rw [← (NR x b v).1,← (NR x' b v).1];exact h.len,fun i q q' hq hq'=>?_⟩
 cases hb:x[b]? with
 | none =>
  have hb':=h.none hb
  simp only [aC,hb] at hq
  simp only [aC,hb'] at hq'
  exact h.at' i q q' hq hq'
 | some p =>
  obtain ⟨p',hb'⟩:=h.some hb
  simp only [aC,hb] at hq
  simp only [aC,hb'] at hq'
  rw [List.getElem?_set] at hq hq'
  by_cases e:b=i
  ·subst e
   rw [if_pos rfl] at hq hq'
   split at hq
   ·split at hq'
    ·cases hq;cases hq'
     obtain ⟨e1,e2,e3,e4⟩:=h.at' b p p' hb hb'
     exact ⟨e1,by show p.sent ++ [v]=p'.sent ++ [v];rw [e2],e3,e4⟩
    ·cases hq'
   ·cases hq
  ·rw [if_neg e] at hq hq'
   exact h.at' i q q' hq hq'
theorem mJ.take {x x':List aR}(h:mJ x x')(b:Nat)(he:aC.empty x b=false):mJ (aC.take x b) (aC.take x' b):=by
 refine ⟨by rw [← (NS x b).1,← (NS x' b).1];exact h.len,fun i q q' hq hq'=>?_⟩
 cases hb:x[b]? with
 | none =>
  have hb':=h.none hb
  simp only [aC,hb] at hq
  simp only [aC,hb'] at hq'
  exact h.at' i q q' hq hq'
 | some p =>
  obtain ⟨p',hb'⟩:=h.some hb
  simp [aC,hb] at he
  simp only [aC,hb] at hq
  simp only [aC,hb'] at hq'
  rw [List.getElem?_set] at hq hq'
  by_cases e:b=i
  ·subst e
   rw [if_pos rfl] at hq hq'
   split at hq
   ·split at hq'
    ·cases hq;cases hq'
     obtain ⟨e1,e2,e3,e4⟩:=h.at' b p p' hb hb'
     exact ⟨by show p.took+1=p'.took+1;rw [e1],e2,e3,by show p.took+1≤p.feed.length;omega⟩
    ·cases hq'
   ·cases hq
  ·rw [if_neg e] at hq hq'
   exact h.at' i q q' hq hq'
theorem Zq {B:Nat}{w:World}{m:Md}{ab au:Option Addr}(cu:Nat)(h:bg B w m ab au)(hf:m.units.length≤30):∃ cv cc,l6 ⟨m,B,au,cu,cv,cc⟩ w:=by
 have key:∀ i:Nat,∃ p:Option Addr × Nat,∀ u,m.units[i]?=some u→∃ b off al cl,au=some ⟨b,off,none⟩∧b < B∧gP B w u al p.1 cl p.2∧w.cell? ⟨b,off+i * 6,none⟩=some (.int .i64 u.kind)∧w.cell? ⟨b,off+i * 6+1,none⟩=some (.int .i64 u.params)∧w.cell? ⟨b,off+i * 6+2,none⟩=some (.slice al u.locals.length cl)∧w.cell? ⟨b,off+i * 6+3,none⟩=some (.int .i64 u.result)∧w.cell? ⟨b,off+i * 6+4,none⟩=some (.int .i64 u.takes)∧w.cell? ⟨b,off+i * 6+5,none⟩=some (.slice p.1 u.code.length p.2):=fun i=>by
  cases hu:m.units[i]? with
  | none=>exact ⟨(none,0),fun u e=>by cases e⟩
  | some u =>
   obtain ⟨b,off,al,cl,ac,cc,e,hb,hun,c0,c1,c2,c3,c4,c5⟩:=h.units i u hu
   exact ⟨(ac,cc),fun u' e'=>by cases e';exact ⟨b,off,al,cl,e,hb,hun,c0,c1,c2,c3,c4,c5⟩⟩
 exact ⟨fun i=>(key i).choose.1,fun i=>(key i).choose.2,hf,fun i u hu=>(key i).choose_spec u hu⟩
def lab (Q:Nat→Nat)(n:Nat):ay:=fun b=>match (List.range n).find? (fun i=>Q i == b) with | some i=>⟨2,i,0,0⟩ | none=>⟨0,0,0,0⟩
theorem Zr {Q:Nat→Nat}{n:Nat}(hinj:∀ i j,i < j→j < n→Q i < Q j){i:Nat}(hi:i < n):lab Q n (Q i)=⟨2,i,0,0⟩:=by
 unfold lab
 have:(List.range n).find? (fun j=>Q j == Q i)=some i:=by
  rw [List.find?_eq_some_iff_getElem]
  refine ⟨by simp,i,by simpa using hi,by simp,fun j hj=>?_⟩
  have:=hinj j i hj hi
  simp
  omega
 rw [this]
theorem Gc {Q:Nat→Nat}{n b:Nat}(h:∀ i,i < n→Q i≠b):lab Q n b=⟨0,0,0,0⟩:=by
 unfold lab
 have:(List.range n).find? (fun j=>Q j == b)=none:=by
  rw [List.find?_eq_none]
  intro i hi
  simpa using h i (by simpa using hi)
 rw [this]
theorem Zt (Q:Nat→Nat)(n b:Nat):(lab Q n b).cls≠1:=by
 unfold lab
 split <;> simp
def mK (fs:List (List Int)):List aR:=fs.map fun f=>⟨f,0,[]⟩
theorem NT {fs:List (List Int)}{i:Nat}{q:aR}(h:(mK fs)[i]?=some q):∃ f,fs[i]?=some f∧q=⟨f,0,[]⟩:=by
 unfold mK at h
 rw [List.getElem?_map] at h
 cases hf:fs[i]? with
 | none=>rw [hf] at h;cases h
 | some f=>rw [hf] at h;cases h;exact ⟨f,rfl,rfl⟩
theorem Zu {w wr:World}{B:Nat}{fs:List (List Int)}{a:Option Addr}{fa:Nat→Option Addr}{fc:Nat→Nat}{vl:Value}{ba:Option Addr}{bc:Nat}{Q:Nat→Nat}(c:Cx)(hcB:c.B=B)(hF:jB B w fs a fa fc)(hB:B≤w.heap.size)(h:uf w fs fa fc fs.length vl (.slice ba fs.length bc) Q wr)(hn:fs.length=c.m.boxes.length) :
  ∃ rb,bA c.B (lab Q fs.length) wr∧jN Q fs.length rb 0 (lab Q fs.length) wr (mK fs)∧lv (nz Q fs.length rb 0) aC c (.slice ba fs.length bc)∧(∀ b,b < w.heap.size→(lab Q fs.length b).cls=0)∧(∀ b,vl.ownBlock=some b→(lab Q fs.length b).cls=0):=by
 have hz:=h.below.size
 have old:∀ b,b < w.heap.size→(lab Q fs.length b).cls=0:=fun b hb=>by rw [Gc (fun i hi e=>by have:=h.low i hi;omega)]
 have qz:∀ i,i < fs.length→Q i < wr.heap.size:=fun i hi=>by
  obtain ⟨f,hf⟩:∃ f,fs[i]?=some f:=⟨_,List.getElem?_eq_getElem hi⟩
  exact lt_of_block (h.blk i f hi hf)
 have Gf:∀ {e n g:Nat} {v:Value} {xs:List Value},wr.ownsRow w.heap.size e 1 v n xs→e≠76→v.ownBlock=some g→(lab Q fs.length g).cls=0:=fun ho he hg=>by
  rw [Gc (fun i hi e2=>?_)]
  obtain ⟨f,hf⟩:∃ f,fs[i]?=some f:=⟨_,List.getElem?_eq_getElem hi⟩
  have hb:=h.blk i f hi hf
  obtain ⟨cur,hc⟩:=jC ho hg
  rw [e2,hc] at hb
  simp at hb
  exact he hb.2
 have hok:bA c.B (lab Q fs.length) wr:=⟨fun b hb=>old b (by omega),fun b hb=>by rw [Gc (fun i hi e=>by have:=qz i hi;omega)],by omega⟩
 have hlists:∀ (n:Nat) q,(mK fs)[n]?=some q→∃ af cf vS,jM (lab Q fs.length) wr (Q n) n q af cf vS:=fun n q hq=>by
  obtain ⟨f,hf,rfl⟩:=NT hq
  have hnl:=(List.getElem?_eq_some_iff.1 hf).1
  refine ⟨fa n,fc n,.slice none 0 0,h.blk n f hnl hf,fun i v hv=>?_,(hF.words n f hf).1,Nat.zero_le _,⟨rfl,.inl ⟨rfl,rfl⟩⟩,Zr h.inj hnl,fun b hb=>by cases hb⟩
  obtain ⟨b,off,e,hb,hc⟩:=(hF.words n f hf).2 i v hv
  exact ⟨b,off,e,by omega,old b (by omega),(aS (h.below.block b (by omega)) _).trans hc⟩
 cases ba with
 | none =>
  have h0:fs.length=0:=by
   rcases h.mI.2 with ⟨_,h0⟩ | ⟨g,cap,cur,e,_⟩
   ·exact h0
   ·simp at e
  refine ⟨0,hok,⟨by simp [mK],fun n hn=>by omega,hlists⟩,⟨fun n hn=>by omega⟩,old,fun b hb=>Gf h.ptr (by decide) hb⟩
 | some ad =>
  rcases h.mI.2 with ⟨e,_⟩ | ⟨g,cap,cur,e,hr⟩
  ·simp at e
  ·simp at e
   obtain ⟨rfl,rfl⟩:=e
   refine ⟨g,hok,⟨by simp [mK],fun n hn=>?_,hlists⟩,?_,old,fun b hb=>Gf h.ptr (by decide) hb⟩
   ·obtain ⟨g',e',hc⟩:=yS h.mI (YT Q hn)
    cases e'
    exact ⟨lt_of_block hr.2.1,Gf h.mI (by decide) rfl,by rw [Nat.zero_add];exact hc⟩
   ·rw [hn]
    exact Vo Q g 0 bc c
def ql (m:Md)(task most:Int)(fs:List (List Int)):Int :=
 if (verify m).1≠0 then (verify m).1
 else if task < 0∨((dE m.units m.units.length).length:Int)≤task∨most < 0∨5000 < most then 3
 else tZ m.boxes fs
def ui (m:Md)(task:Int):Nat:=((dE m.units m.units.length)[task.toNat]?).getD 0
def eT (m:Md)(task most:Int)(fs:List (List Int)):Nat × Tk × List aR:=go aC m most.toNat (rZ (unit m (ui m task)) (ui m task)) (mK fs)
structure nJ (w:World) (t:Tk) (x:List aR) (vO vS vT:Value):Prop where
 out:w.ownsRow 0 2 1 vO t.out.length (ints t.out)
 sent:∃ sv,w.ownsRow 0 22 1 vS x.length (nI sv x.length)∧∀ (i:Nat) q,x[i]?=some q→w.ownsRow 0 2 1 (sv i) q.sent.length (ints q.sent)
 took:w.ownsRow 0 3 1 vT x.length (kz x x.length)
theorem nJ.below {w w':World}{t:Tk}{x:List aR}{vO vS vT:Value}(h:nJ w t x vO vS vT)(hb:Below w.heap.size w w'):nJ w' t x vO vS vT:=by
 have k:∀ {e n:Nat} {v:Value} {xs:List Value},w.ownsRow 0 e 1 v n xs→w'.ownsRow 0 e 1 v n xs:=fun h=>bU h (fun b hx=>hb.block b (h.lt b hx).2)
 obtain ⟨sv,s1,s2⟩:=h.sent
 exact ⟨k h.out,⟨sv,k s1,fun i q hq=>k (s2 i q hq)⟩,k h.took⟩
theorem Zv {m:Md}{task:Int}(h0:0≤task)(h1:task < (dE m.units m.units.length).length):(dE m.units m.units.length)[task.toNat]?=some (ui m task)∧∃ u,m.units[ui m task]?=some u∧u.kind=4:=by
 have e:(dE m.units m.units.length)[task.toNat]?=some (ui m task):=by
  unfold ui
  rw [List.getElem?_eq_getElem (by omega)]
  rfl
 refine ⟨e,?_⟩
 have:=List.mem_of_getElem? e
 unfold dE at this
 rw [List.mem_filter] at this
 simpa using this.2
theorem Zw {m:Md}{K:KM}(hK:l7 m K){fs:List (List Int)}(hl:fs.length=m.boxes.length)(hw:oF m.boxes fs=false){n:Nat}{u:Un}(hu:m.units[n]?=some u)(h4:u.kind=4):LI m K fs 0 (rZ u n) (mK fs):=by
 obtain ⟨G,hG⟩:=TR hK hu h4
 refine ⟨.inr ⟨G,[],hG⟩,.inl rfl,Nat.le_refl _,Nat.le_refl _,by simp [mK,hl],fun i q hq=>?_⟩
 obtain ⟨f,hf,rfl⟩:=NT hq
 refine ⟨hf,Nat.zero_le _,Nat.le_refl _,fun h2=>⟨?_,rfl⟩⟩
 obtain ⟨b,hb⟩:∃ b,m.boxes[i]?=some b:=⟨_,List.getElem?_eq_getElem (by have:=(List.getElem?_eq_some_iff.1 hf).1;omega)⟩
 simp only [gM,Int.toNat_natCast,hb,Option.map_some,Option.getD_some] at h2
 exact YI hw i b f hb hf h2
theorem Zx {w w1:World}(h:w.grownBy w1 none):Below w.heap.size w w1:=⟨h.os,h.tape,h.output,h.size,fun b hb=>h.block b hb (by simp)⟩
abbrev lL (m:Md) (ab au:Option Addr) (cb cu:Nat):Obj:=.cells #[.slice ab m.boxes.length cb,.slice au m.units.length cu] 38 (0,0)
theorem mE {w:World}{b:Nat}{m:Md}{ab au:Option Addr}{cb cu:Nat}(h:w.heap[b]?=some (lL m ab au cb cu)):w.cell? ⟨b,0,none⟩=some (.slice ab m.boxes.length cb)∧w.cell? ⟨b,1,none⟩=some (.slice au m.units.length cu):=by simp [World.cell?,h]
structure So (w:World) (m:Md) (ab au:Option Addr) (cb cu:Nat) (wr:World):Prop where
 below:Below w.heap.size w wr
 md:wr.heap[w.heap.size]?=some (lL m ab au cb cu)
 zero:wr.heap[w.heap.size+1]?=some jS
theorem So.on {w:World}{m:Md}{ab au:Option Addr}{cb cu:Nat}{wr wr':World}(h:So w m ab au cb cu wr)(hb:Below wr.heap.size wr wr'):So w m ab au cb cu wr' :=
 ⟨h.below.trans (hb.mono h.below.size),(hb.block _ (lt_of_block h.md)).trans h.md,(hb.block _ (lt_of_block h.zero)).trans h.zero⟩
theorem So.first (w:World)(m:Md)(ab au:Option Addr)(cb cu:Nat):So w m ab au cb cu ((w.alloc (lL m ab au cb cu)).alloc jS):=by
 have e:(w.alloc (lL m ab au cb cu)).heap.size=w.heap.size+1:=by simp
 refine ⟨((Below.refl _ w).alloc (Nat.le_refl _) _).alloc (by simp) _,(Below.heap_alloc _ _ _ (by simp)).trans (heap_alloc_new w _),?_⟩
 rw [← e]
 exact heap_alloc_new _ _
abbrev iD (w:World) (b:Nat) (v0 v1 v2 v3 v4 v5 v6:Value):World:=((((((w.setCell ⟨b,0,none⟩ v0).setCell ⟨b,1,none⟩ v1).setCell ⟨b,2,none⟩ v2).setCell ⟨b,3,none⟩ v3).setCell ⟨b,4,none⟩ v4).setCell ⟨b,5,none⟩ v5).setCell ⟨b,6,none⟩ v6
theorem uj {w:World}{b:Nat}{v0 v1 v2 v3 v4 v5 v6:Value}(h:w.heap[b]?=some jS):((iD w b v0 v1 v2 v3 v4 v5 v6).cell? ⟨b,0,none⟩=some v0∧(iD w b v0 v1 v2 v3 v4 v5 v6).cell? ⟨b,1,none⟩=some v1∧(iD w b v0 v1 v2 v3 v4 v5 v6).cell? ⟨b,2,none⟩=some v2∧(iD w b v0 v1 v2 v3 v4 v5 v6).cell? ⟨b,3,none⟩=some v3∧(iD w b v0 v1 v2 v3 v4 v5 v6).cell? ⟨b,4,none⟩=some v4∧(iD w b v0 v1 v2 v3 v4 v5 v6).cell? ⟨b,5,none⟩=some v5∧(iD w b v0 v1 v2 v3 v4 v5 v6).cell? ⟨b,6,none⟩=some v6):=by
 have:(iD w b v0 v1 v2 v3 v4 v5 v6).heap[b]?=some (.cells #[v0,v1,v2,v3,v4,v5,v6] 29 (0,0)):=by
  simp only [World.setCell,Array.getElem?_modify,if_true,h,Option.map_some]
  rfl
 generalize iD w b v0 v1 v2 v3 v4 v5 v6=W at this ⊢
 simp [World.cell?,this]
theorem Zy {w:World}{b:Nat}{v0 v1 v2 v3 v4 v5 v6:Value}{b':Nat}(hn:b'≠b):(iD w b v0 v1 v2 v3 v4 v5 v6).heap[b']?=w.heap[b']?:=by
 rw [Below.heap_setCell _ ⟨b,6,none⟩ _ _ hn,Below.heap_setCell _ ⟨b,5,none⟩ _ _ hn,Below.heap_setCell _ ⟨b,4,none⟩ _ _ hn,Below.heap_setCell _ ⟨b,3,none⟩ _ _ hn,Below.heap_setCell _ ⟨b,2,none⟩ _ _ hn,Below.heap_setCell _ ⟨b,1,none⟩ _ _ hn,Below.heap_setCell _ ⟨b,0,none⟩ _ _ hn]
theorem uk {w0 w:World}{B b:Nat}{v0 v1 v2 v3 v4 v5 v6:Value}(h:Below B w0 w)(hB:B≤b):Below B w0 (iD w b v0 v1 v2 v3 v4 v5 v6) :=
 ((((((h.setCell (p:=⟨b,0,none⟩) hB _).setCell (p:=⟨b,1,none⟩) hB _).setCell (p:=⟨b,2,none⟩) hB _).setCell (p:=⟨b,3,none⟩) hB _).setCell (p:=⟨b,4,none⟩) hB _).setCell (p:=⟨b,5,none⟩) hB _).setCell (p:=⟨b,6,none⟩) hB _
theorem BF {w:World}{b:Nat}{v0 v1 v2 v3 v4 v5 v6:Value}(h:w.heap[b]?=some jS){B e n:Nat}{v:Value}{xs:List Value}(ho:w.ownsRow B e 1 v n xs)(he:e≠29):(iD w b v0 v1 v2 v3 v4 v5 v6).ownsRow B e 1 v n xs :=
 bU ho (fun k hk=>Zy (fun e2=>by
  obtain ⟨cur,hc⟩:=jC ho hk
  rw [e2,h] at hc
  simp at hc
  exact he hc.2.symm))
theorem nJ.fill {w:World}{b:Nat}{v0 v1 v2 v3 v4 v5 v6:Value}(h:w.heap[b]?=some jS){t:Tk}{x:List aR}{vO vS vT:Value}(k:nJ w t x vO vS vT):nJ (iD w b v0 v1 v2 v3 v4 v5 v6) t x vO vS vT:=by
 obtain ⟨sv,s1,s2⟩:=k.sent
 exact ⟨BF h k.out (by decide),⟨sv,BF h s1 (by decide),fun i q hq=>BF h (s2 i q hq) (by decide)⟩,BF h k.took (by decide)⟩
theorem So.pM {w:World}{m:Md}{ab au:Option Addr}{cb cu:Nat}{wr wr':World}{L:ay}{o:Nat}(h:So w m ab au cb cu wr)(hC:aP (WB L o) wr wr')(hL:∀ b,b < w.heap.size+2→(L b).cls=0):So w m ab au cb cu wr':=by
 have k:∀ b,b < w.heap.size+2→b < wr.heap.size→wr'.heap[b]?=wr.heap[b]?:=fun b hb hz=>hC.block b hz (fun hx=>by have:=hL b hb;unfold WB EB at hx;omega)
 have hz:=h.below.size
 exact ⟨⟨hC.os.trans h.below.os,hC.tape.trans h.below.tape,hC.output.trans h.below.output,Nat.le_trans hz hC.size,fun b hb=>(k b (by omega) (by omega)).trans (h.below.block b hb)⟩,(k _ (by omega) (lt_of_block h.md)).trans h.md,(k _ (by omega) (lt_of_block h.zero)).trans h.zero⟩
theorem jN.sv {Q:Nat→Nat}{nb rb off:Nat}{L:ay}{w:World}{x:List aR}(h:jN Q nb rb off L w x):∃ sv:Nat→Value,∀ (i:Nat) q,x[i]?=some q→∃ af cf,jM L w (Q i) i q af cf (sv i):=by
 have key:∀ i:Nat,∃ v:Value,∀ q,x[i]?=some q→∃ af cf,jM L w (Q i) i q af cf v:=fun i=>by
  cases hx:x[i]? with
  | none=>exact ⟨.slice none 0 0,fun q e=>by cases e⟩
  | some q =>
   obtain ⟨af,cf,vS,hA⟩:=h.lists i q hx
   exact ⟨vS,fun q' e=>by cases e;exact ⟨af,cf,hA⟩⟩
 exact ⟨fun i=>(key i).choose,fun i q hq=>(key i).choose_spec q hq⟩
theorem Zz (m:Md)(ab au:Option Addr)(cb cu B:Nat)(fs:List (List Int))(a:Option Addr)(cap:Nat)(fa:Nat→Option Addr)(fc:Nat→Nat)(w:World)(hmd:Hid (bg B w m ab au))(fw:Hid (jB B w fs a fa fc))(hB:B≤w.heap.size)(task most:Int)(E:Int)(hE:Hid (E=ql m task most fs)) :
  Calls Tryz.prog 15 #[fe m ab au cb cu,.int .i64 task,.slice a fs.length cap,.int .i64 most] w fun e w'=>Below w.heap.size w w'∧((E≠0∧e=.returned (.tuple #[iW 0 0 0 (.slice none 0 0) (.slice none 0 0) (.slice none 0 0) 0,.int .i64 E])) ∨
   (E=0∧∃ vO vS vT,e=.returned (.tuple #[iW (stat aC m (eT m task most fs).2.1 (eT m task most fs).2.2).1 (stat aC m (eT m task most fs).2.1 (eT m task most fs).2.2).2 (eT m task most fs).2.1.trap vO vS vT (eT m task most fs).1,.int .i64 0])∧nJ w' (eT m task most fs).2.1 (eT m task most fs).2.2 vO vS vT∧∃ K,l7 m K∧LI m K fs (eT m task most fs).1 (eT m task most fs).2.1 (eT m task most fs).2.2)):=by
 obtain ⟨R,hR⟩:∃ R,R=eT m task most fs:=⟨_,rfl⟩
 rw [← hR]
 have HRR:=Sb.hide hR
 obtain ⟨s,hs⟩:∃ s,s=(stat aC m R.2.1 R.2.2).1:=⟨_,rfl⟩
 obtain ⟨q,hq⟩:∃ s,s=(stat aC m R.2.1 R.2.2).2:=⟨_,rfl⟩
 rw [← hs,← hq]
 have HS:=Sb.hide hs
 have HQ:=Sb.hide hq
 clear hR hs hq
 obtain ⟨ve,NU⟩:∃ v,v=verify m:=⟨_,rfl⟩
 have wH:=Sb.hide NU
 clear NU
 have aO:=Sb.hide (So.first w m ab au cb cu)
 have DJ:Hid (bg B ((w.alloc (lL m ab au cb cu)).alloc jS) m ab au):=hmd.out.low (aO.out.below.mono hB).block
 have c0:=mE aO.out.md
 go_enter Tryz.func15,Tryz.ntmps15
 go_wp2_with fail
 generalize (w.alloc (lL m ab au cb cu)).alloc jS=W0 at *
 refine (Yu m ab au cb cu B _ DJ (by have:=aO.out.below.size;omega) ve wH).mono ?_
 rintro e w1 ⟨rfl,hg1⟩
 have aN:=Sb.hide (aO.out.on (Zx hg1))
 clear hg1 c0
 by_cases h0:ve.1=0
 ·have e0:(ve.1 != 0)=false:=by simpa using h0
  have aY:Hid (E=if task < 0∨((dE m.units m.units.length).length:Int)≤task∨most < 0∨5000 < most then 3 else tZ m.boxes fs):=by
   unfold Hid
   rw [hE.out,ql,if_neg (by rw [← wH.out];simpa using h0)]
  have hright:verify m=(0,0,0):=by
   rw [← wH.out]
   have e:∀ n k,(from' m n k).1=0→from' m n k=(0,0,0):=by
    intro n
    induction n with
    | zero=>intro k _;rfl
    | succ n ih =>
     intro k hk
     unfold from' at hk ⊢
     split
     ·rename_i e;rw [if_pos e] at hk;exact ih _ hk
     ·rename_i e;rw [if_neg e] at hk;exact absurd hk e
   rw [wH.out] at h0 ⊢
   exact e 6 0 h0
  obtain ⟨⟨K,hK⟩,hbl⟩:=YE hright
  have HK:=Sb.hide hK
  have HRG:=Sb.hide hright
  have hz1:=lt_of_block aN.out.zero
  have bN:=Sb.hide (aN.out.on ((Below.refl _ w1).alloc (Nat.le_refl _) (.cells #[.int .i64 ve.1,.int .i64 ve.2.1,.int .i64 ve.2.2] 44)))
  have v1:(w1.alloc (.cells #[.int .i64 ve.1,.int .i64 ve.2.1,.int .i64 ve.2.2] 44)).cell? ⟨w1.heap.size,0,none⟩=some (.int .i64 ve.1):=by simp [World.cell?_alloc_mark]
  obtain ⟨cv,cc,hcx⟩:=Zq cu hmd.out hK.rt.units
  have Gg:Hid (∀ W,So w m ab au cb cu W→l6 ⟨m,B,au,cu,cv,cc⟩ W):=fun W hW=>hcx.low (hW.below.mono hB).block
  have Gi:Hid (∀ W,So w m ab au cb cu W→jB B W fs a fa fc):=fun W hW=>fw.out.low (hW.below.mono hB).block
  have qO:Hid (∀ W,So w m ab au cb cu W→u7 B W m.boxes ab):=fun W hW=>(hmd.out.low (hW.below.mono hB).block).boxes
  have wI:Hid (∀ W,So w m ab au cb cu W→B≤W.heap.size∧w.heap.size+2≤W.heap.size):=fun W hW=>⟨by have:=hW.below.size;omega,lt_of_block hW.zero⟩
  clear h0 hK hright hcx
  have c2:=mE bN.out.md
  go_wp2_with fail
  generalize w1.alloc (.cells #[.int .i64 ve.1,.int .i64 ve.2.1,.int .i64 ve.2.2] 44)=W2 at *
  refine (FU ⟨m,B,au,cu,cv,cc⟩ ab cb _ (Sb.hide (Gg.out _ bN.out)) (wI.out _ bN.out).1).mono ?_
  rintro e w3 ⟨vl,rfl,hT⟩
  obtain ⟨_,hb3,ho3⟩:=hT
  obtain ⟨ta,tc,rfl⟩:=mH ho3
  have jv:=Sb.hide (bN.out.on hb3)
  have HT3:=Sb.hide ho3
  have c3:=mE jv.out.md
  have z3:=(eQ jv.out.zero).1
  have ZA:=(eQ jv.out.zero).2
  have ZB:(dE m.units m.units.length).length≤30:=by have:=Nu m.units m.units.length;have:=HK.out.rt.units;omega
  obtain ⟨N,hN⟩:∃ N,N=(dE m.units m.units.length).length:=⟨_,rfl⟩
  have HN:=Sb.hide hN
  change Hid (w3.ownsRow W2.heap.size 3 1 (.slice ta (dE m.units m.units.length).length tc) (dE m.units m.units.length).length (oC (dE m.units m.units.length))) at HT3
  rw [← hN] at aY HT3 ZB
  simp only [← hN]
  clear hN hb3 ho3 c2 v1
  by_cases t1:task < 0
  ·have HE2:Hid (E=3):=by unfold Hid;rw [aY.out,if_pos (.inl t1)]
   go_wp2
   have hX:=uj (v0:=.int .i64 0) (v1:=.int .i64 0) (v2:=.int .i64 0) (v3:=.slice none 0 0) (v4:=.slice none 0 0) (v5:=.slice none 0 0) (v6:=.int .i64 0) jv.out.zero
   have iE:=uk (v0:=.int .i64 0) (v1:=.int .i64 0) (v2:=.int .i64 0) (v3:=.slice none 0 0) (v4:=.slice none 0 0) (v5:=.slice none 0 0) (v6:=.int .i64 0) jv.out.below (Nat.le_succ _)
   unfold iD at hX iE
   obtain ⟨g0,g1,g2,g3,g4,g5,g6⟩:=hX
   generalize ((((((w3.setCell ⟨w.heap.size+1,0,none⟩ (.int .i64 0)).setCell ⟨w.heap.size+1,1,none⟩ (.int .i64 0)).setCell ⟨w.heap.size+1,2,none⟩ (.int .i64 0)).setCell ⟨w.heap.size+1,3,none⟩ (.slice none 0 0)).setCell ⟨w.heap.size+1,4,none⟩ (.slice none 0 0)).setCell ⟨w.heap.size+1,5,none⟩ (.slice none 0 0)).setCell ⟨w.heap.size+1,6,none⟩ (.int .i64 0)=W4 at *
   refine bodyPost_ret (v:=.tuple #[iW 0 0 0 (.slice none 0 0) (.slice none 0 0) (.slice none 0 0) 0,.int .i64 3]) (by simp [results,Tryz.results15,go_sem,g0,g1,g2,g3,g4,g5,g6]) rfl ⟨iE,.inl ⟨?_,?_⟩⟩
   ·first | exact jP.out | (rw [HE2.out];exact jP.out) | (rw [HE2.out];decide)
   ·first | rfl | rw [HE2.out]
  by_cases t2:(N:Int)≤task
  ·have HE2:Hid (E=3):=by unfold Hid;rw [aY.out,if_pos (.inr (.inl t2))]
   go_wp2
   have hX:=uj (v0:=.int .i64 0) (v1:=.int .i64 0) (v2:=.int .i64 0) (v3:=.slice none 0 0) (v4:=.slice none 0 0) (v5:=.slice none 0 0) (v6:=.int .i64 0) jv.out.zero
   have iE:=uk (v0:=.int .i64 0) (v1:=.int .i64 0) (v2:=.int .i64 0) (v3:=.slice none 0 0) (v4:=.slice none 0 0) (v5:=.slice none 0 0) (v6:=.int .i64 0) jv.out.below (Nat.le_succ _)
   unfold iD at hX iE
   obtain ⟨g0,g1,g2,g3,g4,g5,g6⟩:=hX
   generalize ((((((w3.setCell ⟨w.heap.size+1,0,none⟩ (.int .i64 0)).setCell ⟨w.heap.size+1,1,none⟩ (.int .i64 0)).setCell ⟨w.heap.size+1,2,none⟩ (.int .i64 0)).setCell ⟨w.heap.size+1,3,none⟩ (.slice none 0 0)).setCell ⟨w.heap.size+1,4,none⟩ (.slice none 0 0)).setCell ⟨w.heap.size+1,5,none⟩ (.slice none 0 0)).setCell ⟨w.heap.size+1,6,none⟩ (.int .i64 0)=W4 at *
   refine bodyPost_ret (v:=.tuple #[iW 0 0 0 (.slice none 0 0) (.slice none 0 0) (.slice none 0 0) 0,.int .i64 3]) (by simp [results,Tryz.results15,go_sem,g0,g1,g2,g3,g4,g5,g6]) rfl ⟨iE,.inl ⟨?_,?_⟩⟩
   ·first | exact jP.out | (rw [HE2.out];exact jP.out) | (rw [HE2.out];decide)
   ·first | rfl | rw [HE2.out]
  by_cases t3:most < 0
  ·have HE2:Hid (E=3):=by unfold Hid;rw [aY.out,if_pos (.inr (.inr (.inl t3)))]
   go_wp2
   have hX:=uj (v0:=.int .i64 0) (v1:=.int .i64 0) (v2:=.int .i64 0) (v3:=.slice none 0 0) (v4:=.slice none 0 0) (v5:=.slice none 0 0) (v6:=.int .i64 0) jv.out.zero
   have iE:=uk (v0:=.int .i64 0) (v1:=.int .i64 0) (v2:=.int .i64 0) (v3:=.slice none 0 0) (v4:=.slice none 0 0) (v5:=.slice none 0 0) (v6:=.int .i64 0) jv.out.below (Nat.le_succ _)
   unfold iD at hX iE
   obtain ⟨g0,g1,g2,g3,g4,g5,g6⟩:=hX
   generalize ((((((w3.setCell ⟨w.heap.size+1,0,none⟩ (.int .i64 0)).setCell ⟨w.heap.size+1,1,none⟩ (.int .i64 0)).setCell ⟨w.heap.size+1,2,none⟩ (.int .i64 0)).setCell ⟨w.heap.size+1,3,none⟩ (.slice none 0 0)).setCell ⟨w.heap.size+1,4,none⟩ (.slice none 0 0)).setCell ⟨w.heap.size+1,5,none⟩ (.slice none 0 0)).setCell ⟨w.heap.size+1,6,none⟩ (.int .i64 0)=W4 at *
   refine bodyPost_ret (v:=.tuple #[iW 0 0 0 (.slice none 0 0) (.slice none 0 0) (.slice none 0 0) 0,.int .i64 3]) (by simp [results,Tryz.results15,go_sem,g0,g1,g2,g3,g4,g5,g6]) rfl ⟨iE,.inl ⟨?_,?_⟩⟩
   ·first | exact jP.out | (rw [HE2.out];exact jP.out) | (rw [HE2.out];decide)
   ·first | rfl | rw [HE2.out]
  by_cases t4:5000 < most
  ·have HE2:Hid (E=3):=by unfold Hid;rw [aY.out,if_pos (.inr (.inr (.inr t4)))]
   go_wp2
   have hX:=uj (v0:=.int .i64 0) (v1:=.int .i64 0) (v2:=.int .i64 0) (v3:=.slice none 0 0) (v4:=.slice none 0 0) (v5:=.slice none 0 0) (v6:=.int .i64 0) jv.out.zero
   have iE:=uk (v0:=.int .i64 0) (v1:=.int .i64 0) (v2:=.int .i64 0) (v3:=.slice none 0 0) (v4:=.slice none 0 0) (v5:=.slice none 0 0) (v6:=.int .i64 0) jv.out.below (Nat.le_succ _)
   unfold iD at hX iE
   obtain ⟨g0,g1,g2,g3,g4,g5,g6⟩:=hX
   generalize ((((((w3.setCell ⟨w.heap.size+1,0,none⟩ (.int .i64 0)).setCell ⟨w.heap.size+1,1,none⟩ (.int .i64 0)).setCell ⟨w.heap.size+1,2,none⟩ (.int .i64 0)).setCell ⟨w.heap.size+1,3,none⟩ (.slice none 0 0)).setCell ⟨w.heap.size+1,4,none⟩ (.slice none 0 0)).setCell ⟨w.heap.size+1,5,none⟩ (.slice none 0 0)).setCell ⟨w.heap.size+1,6,none⟩ (.int .i64 0)=W4 at *
   refine bodyPost_ret (v:=.tuple #[iW 0 0 0 (.slice none 0 0) (.slice none 0 0) (.slice none 0 0) 0,.int .i64 3]) (by simp [results,Tryz.results15,go_sem,g0,g1,g2,g3,g4,g5,g6]) rfl ⟨iE,.inl ⟨?_,?_⟩⟩
   ·first | exact jP.out | (rw [HE2.out];exact jP.out) | (rw [HE2.out];decide)
   ·first | rfl | rw [HE2.out]
  have HE2:Hid (E=tZ m.boxes fs):=by unfold Hid;rw [aY.out,if_neg (by omega)]
  go_wp2_with fail
  refine (YJ m.boxes ab cb B fs a cap fa fc _ (Sb.hide (qO.out _ jv.out)) (by omega) (Sb.hide (Gi.out _ jv.out)) (wI.out _ jv.out).1 E HE2).mono ?_
  rintro e w4 ⟨rfl,hb4⟩
  have jH:=Sb.hide (jv.out.on hb4)
  have tK:=Sb.hide hb4
  clear hb4 z3 ZA c3
  by_cases h5:E=0
  ·have e5:(E != 0)=false:=by simpa using h5
   have sV:=Sb.hide h5
   obtain ⟨hfl,hwf⟩:fs.length=m.boxes.length∧oF m.boxes fs=false:=by
    have:=HE2.out
    rw [h5] at this
    unfold tZ at this
    split at this
    ·rename_i hh
     split at this
     ·cases this
     ·rename_i hw;exact ⟨hh,by simpa using hw⟩
    ·cases this
   have jL:=Sb.hide hfl
   have ZC:=Sb.hide hwf
   have NV:fs.length≤30:=by omega
   obtain ⟨tn,rfl⟩:=Int.eq_ofNat_of_zero_le (a:=task) (by omega)
   obtain ⟨mn,rfl⟩:=Int.eq_ofNat_of_zero_le (a:=most) (by omega)
   obtain ⟨BG,uu,AB,NW⟩:=Zv (m:=m) (task:=(tn:Int)) (by omega) (by have:=HN.out;omega)
   obtain ⟨U,hU⟩:∃ U,U=ui m (tn:Int):=⟨_,rfl⟩
   have HU:=Sb.hide hU
   rw [← hU] at BG AB
   have qh:=Sb.hide AB
   have NY:=Sb.hide NW
   obtain ⟨gt,ZE,htc⟩:=yS HT3.out (k:=tn) (u:=.int .i64 (U:Int)) (by
    rw [List.getElem?_map]
    simp only [Int.toNat_natCast] at BG
    rw [BG]
    rfl)
   have hgt:=World.block_lt_of_cell? w3 _ htc
   have wD:Hid (∀ W,Below w3.heap.size w3 W→W.cell? ⟨gt,tn,none⟩=some (.int .i64 (U:Int))):=fun W hW=>(aS (hW.block gt hgt) _).trans htc
   subst ZE
   clear hfl hwf h5 hU BG AB NW htc t1 t3
   go_wp2_with fail
   refine (YZ B fs a cap fa fc _ (Sb.hide (Gi.out _ jH.out)) (wI.out _ jH.out).1 NV).mono ?_
   rintro e w5 ⟨vl,vb,Q,rfl,wJ⟩
   obtain ⟨la,lc,rfl⟩:=mH wJ.ptr
   obtain ⟨ba,bc,rfl⟩:=mH wJ.mI
   obtain ⟨rb,hok,hen,hbx,hold,hvl⟩:=Zu ⟨m,B,au,cu,cv,cc⟩ rfl (Gi.out _ jH.out) (wI.out _ jH.out).1 wJ jL.out
   have hb5:=wJ.below
   have hd5:Below w5.heap.size w5 w5.drew:=(Below.refl _ _).drew
   have yH:=Sb.hide (jH.out.on hb5)
   have HD5:=Sb.hide (yH.out.on hd5)
   have sS:Hid (bA B (lab Q fs.length) w5.drew):=hok.on (Nat.le_refl _)
   have tO:=Sb.hide hen
   have N7:=Sb.hide hbx
   have HOLD:=Sb.hide hold
   have ZF:=Sb.hide hvl
   have N8:=Sb.hide wJ.ptr
   have ZG:=Sb.hide hd5
   have Gj:Below w3.heap.size w3 w5:=tK.out.trans (hb5.mono tK.out.size)
   have ZH:=wD.out _ Gj
   have c5:=mE yH.out.md
   have N9:=Sb.hide Gj
   have hsz:=jI (ik (HK.out.rt.heads _ uu qh.out).1).2.1
   have hp0:uu.params=0:=by
    have:=(ik (HK.out.rt.heads _ uu qh.out).1).2.1
    unfold sized at this
    simp [NY.out] at this
    omega
   have ZI:uu.locals.length≤200:=hsz.1
   have AY:Hid (∀ b,¬ ((lab Q fs.length b).cls=1∧(lab Q fs.length b).idx=0)):=fun b hx=>Zt Q fs.length b hx.1
   have n0:(0:Int)≤(tn:Int):=by omega
   have n1:(tn:Int) < (N:Int):=by omega
   obtain ⟨c51,ZJ⟩:=c5
   clear wJ hok hen hbx hold hvl hb5 hd5 hsz Gj
   go_wp2_with fail
   go_region_held3 (fun w'=>(w'.cell? ⟨w.heap.size,0,none⟩=some (.slice ab m.boxes.length cb)∧w'.cell? ⟨w.heap.size,1,none⟩=some (.slice au m.units.length cu))∧w'.cell? ⟨gt,tn,none⟩=some (.int .i64 (U:Int))) (go_keep) ((go_at_call 21;refine (U9 ⟨m,B,au,cu,cv,cc⟩ (lab Q fs.length) 0 _ sS (Sb.hide (by exact Gg.out _ HD5.out)) AY ab cb ba fs.length bc U uu qh hp0 ZI).mono ?_;rintro e w6 ⟨T,L6,P6,Oa,Ob,rfl,Oc,hL6,Od,hb6⟩;have qg:Hid (Below w5.heap.size w5 w6):=ZG.out.trans (hb6.mono (Nat.le_refl _));have ZK:=Sb.hide Oc;have ZL:=Sb.hide hL6;have Og:Hid (iw 0 (lab Q fs.length) L6 w5):=Od;have wz:=Sb.hide (yH.out.on qg.out);have tc6:=wD.out _ (N9.out.trans (qg.out.mono N9.out.size));have c61:=(mE wz.out.md).1;have c62:=(mE wz.out.md).2;clear Oc hL6 Od hb6))
   clear c51 ZJ ZH
   have HST:Hid (St (nz Q fs.length rb 0) ⟨m,B,au,cu,cv,cc⟩ (.slice ba fs.length bc) (.func (.func 36) #[] #[]) 0 T L6 P6 w6 (rZ uu U) (mK fs) Oa Ob):=⟨ZK.out,(nz Q fs.length rb 0).keep (l:=[]) tO.out Og.out.1 qg.out.size (fun b hb _=>qg.out.block b hb),ZL.out,Gg.out _ wz.out⟩
   have HI0:=Sb.hide (Zw HK.out jL.out ZC.out qh.out NY.out)
   go_wp2_with fail
   have Oh:Hid (R=go aC m mn (rZ uu U) (mK fs)):=by
    unfold Hid
    rw [HRR.out]
    unfold eT
    rw [← HU.out,lZ qh.out,Int.toNat_natCast]
   have hrun:=UY (nz Q fs.length rb 0) aC ⟨m,B,au,cu,cv,cc⟩ (.slice ba fs.length bc) 36 #[] (Sb.hide (Vp Q fs.length rb 0 ⟨m,B,au,cu,cv,cc⟩)) N7 (LI m K fs) (Sb.hide (NN (c:=⟨m,B,au,cu,cv,cc⟩) HK.out fs)) 0 T L6 P6 w6 (rZ uu U) (mK fs) Oa Ob HST 0 mn (by omega) HI0
   dsimp only at hrun
   rw [← Oh.out] at hrun
   have hstp:R.1≤mn:=by rw [Oh.out];exact NQ _ _ _
   refine hrun.mono ?_
   clear hrun
   rintro e w7 ⟨rfl,ZM,yZ⟩
   obtain ⟨L7,P7,sN,sO,s7,q7,k7⟩:=ZM
   have hc6:∀ b,b < w5.heap.size→L6 b=lab Q fs.length b:=fun b hb=>Og.out.1 b hb
   have lh:=jH.out.below.size
   have hlow:∀ b,b < w.heap.size+2→(L6 b).cls=0:=fun b hb=>by
    have h4:=(wI.out _ jH.out).2
    have h5:=(wI.out _ yH.out).2
    rw [hc6 b (by omega)]
    exact HOLD.out b (by omega)
   have ZN:=Sb.hide (wz.out.pM k7 hlow)
   have ZO:=Sb.hide yZ
   have hxl:R.2.2.length=fs.length:=by rw [yZ.len];exact jL.out.symm
   have hol:R.2.1.out.length≤1000000:=by have:=yZ.out;omega
   have ZP:Hid (w7.ownsRow 0 74 1 (.slice la fs.length lc) fs.length (ptrs Q fs.length)):=by
    refine bU (q8 N8.out (Nat.zero_le _)) (fun b hb=>?_)
    have hbl:=(N8.out.lt b hb).2
    refine (k7.block b (by have:=qg.out.size;omega) (fun hx=>?_)).trans (qg.out.block b hbl)
    have h0:=ZF.out b hb
    unfold WB EB at hx
    rw [hc6 b hbl] at hx
    omega
   obtain ⟨sv,hsv⟩:=s7.en.sv
   have Oi:=Sb.hide hsv
   have S7:=Sb.hide s7
   have HAT:Hid (R.2.1.over=0→∃ f rs u i,lG ⟨m,B,au,cu,cv,cc⟩ R.2.1 f rs u i):=(NN (c:=⟨m,B,au,cu,cv,cc⟩) HK.out fs).at' _ _ _ yZ
   clear yZ s7 q7 k7 hsv hc6 hlow
   go_wp2_with fail
   have hrep:=Y8 Q fs.length rb 0 ⟨m,B,au,cu,cv,cc⟩ (.slice ba fs.length bc) (.func (.func 36) #[] #[]) 0 T L7 P7 w7 R.2.1 R.2.2 sN sO S7 N7 HAT hol la lc ZP NV hxl R.1 sv Oi
   dsimp only at hrep
   rw [← HS.out,← HQ.out] at hrep
   refine hrep.mono ?_
   clear hrep
   rintro e w8 ⟨ZQ,ZR,ZT,rfl,r1,r2,r3,Gl⟩
   have za:=Sb.hide (ZN.out.on Gl)
   have ZU:Hid (nJ w8 R.2.1 R.2.2 ZQ ZR ZT):=by
    refine ⟨q8 r1 (Nat.zero_le _),⟨sv,?_,fun i q hq=>?_⟩,?_⟩
    ·rw [hxl];exact q8 r2 (Nat.zero_le _)
    ·obtain ⟨af,cf,hA⟩:=Oi.out i q hq
     exact bU hA.sent (fun b hb=>Gl.block b (hA.sent.lt b hb).2)
    ·rw [hxl];exact q8 r3 (Nat.zero_le _)
   obtain ⟨oa,oc,rfl⟩:=mH r1
   obtain ⟨sa,sc,rfl⟩:=mH r2
   obtain ⟨zb,ze,rfl⟩:=mH r3
   have z8:=(eQ za.out.zero).1
   have zf8:=(eQ za.out.zero).2
   clear r1 r2 r3 Gl
   go_wp2
   have hX:=uj (v0:=.int .i64 s) (v1:=.int .i64 q) (v2:=.int .i64 R.2.1.trap) (v3:=.slice oa R.2.1.out.length oc) (v4:=.slice sa fs.length sc) (v5:=.slice zb fs.length ze) (v6:=.int .i64 R.1) za.out.zero
   have iE:=uk (v0:=.int .i64 s) (v1:=.int .i64 q) (v2:=.int .i64 R.2.1.trap) (v3:=.slice oa R.2.1.out.length oc) (v4:=.slice sa fs.length sc) (v5:=.slice zb fs.length ze) (v6:=.int .i64 R.1) za.out.below (Nat.le_succ _)
   have Oj:=nJ.fill (v0:=.int .i64 s) (v1:=.int .i64 q) (v2:=.int .i64 R.2.1.trap) (v3:=.slice oa R.2.1.out.length oc) (v4:=.slice sa fs.length sc) (v5:=.slice zb fs.length ze) (v6:=.int .i64 R.1) za.out.zero ZU.out
   unfold iD at hX iE Oj
   obtain ⟨g0,g1,g2,g3,g4,g5,g6⟩:=hX
   generalize ((((((w8.setCell ⟨w.heap.size+1,0,none⟩ (.int .i64 s)).setCell ⟨w.heap.size+1,1,none⟩ (.int .i64 q)).setCell ⟨w.heap.size+1,2,none⟩ (.int .i64 R.2.1.trap)).setCell ⟨w.heap.size+1,3,none⟩ (.slice oa R.2.1.out.length oc)).setCell ⟨w.heap.size+1,4,none⟩ (.slice sa fs.length sc)).setCell ⟨w.heap.size+1,5,none⟩ (.slice zb fs.length ze)).setCell ⟨w.heap.size+1,6,none⟩ (.int .i64 R.1)=W4 at *
   exact bodyPost_ret (v:=.tuple #[iW s q R.2.1.trap (.slice oa R.2.1.out.length oc) (.slice sa fs.length sc) (.slice zb fs.length ze) R.1,.int .i64 0]) (by simp [results,Tryz.results15,go_sem,g0,g1,g2,g3,g4,g5,g6]) rfl ⟨iE,.inr ⟨sV.out,_,_,_,rfl,Oj,K,HK.out,by have:=ZO.out;rw [Nat.zero_add] at this;exact this⟩⟩
  ·have e5:(E != 0)=true:=by simpa using h5
   have jP:=Sb.hide h5
   have Gm:Hid (E=E):=rfl
   have z4:=(eQ jH.out.zero).1
   have zf4:=(eQ jH.out.zero).2
   clear h5
   go_wp2
   have hX:=uj (v0:=.int .i64 0) (v1:=.int .i64 0) (v2:=.int .i64 0) (v3:=.slice none 0 0) (v4:=.slice none 0 0) (v5:=.slice none 0 0) (v6:=.int .i64 0) jH.out.zero
   have iE:=uk (v0:=.int .i64 0) (v1:=.int .i64 0) (v2:=.int .i64 0) (v3:=.slice none 0 0) (v4:=.slice none 0 0) (v5:=.slice none 0 0) (v6:=.int .i64 0) jH.out.below (Nat.le_succ _)
   unfold iD at hX iE
   obtain ⟨g0,g1,g2,g3,g4,g5,g6⟩:=hX
   generalize ((((((w4.setCell ⟨w.heap.size+1,0,none⟩ (.int .i64 0)).setCell ⟨w.heap.size+1,1,none⟩ (.int .i64 0)).setCell ⟨w.heap.size+1,2,none⟩ (.int .i64 0)).setCell ⟨w.heap.size+1,3,none⟩ (.slice none 0 0)).setCell ⟨w.heap.size+1,4,none⟩ (.slice none 0 0)).setCell ⟨w.heap.size+1,5,none⟩ (.slice none 0 0)).setCell ⟨w.heap.size+1,6,none⟩ (.int .i64 0)=W4 at *
   refine bodyPost_ret (v:=.tuple #[iW 0 0 0 (.slice none 0 0) (.slice none 0 0) (.slice none 0 0) 0,.int .i64 E]) (by simp [results,Tryz.results15,go_sem,g0,g1,g2,g3,g4,g5,g6]) rfl ⟨iE,.inl ⟨?_,?_⟩⟩
   ·first | exact jP.out | (rw [Gm.out];exact jP.out) | (rw [Gm.out];decide)
   ·first | rfl | rw [Gm.out]
 ·have e0:(ve.1 != 0)=true:=by simpa using h0
  have aY:Hid (E=ve.1):=by
   unfold Hid
   rw [hE.out,ql,if_pos (by rw [← wH.out];exact h0),← wH.out]
  have jP:=Sb.hide h0
  have hz1:=lt_of_block aN.out.zero
  clear h0
  have v1:(w1.alloc (.cells #[.int .i64 ve.1,.int .i64 ve.2.1,.int .i64 ve.2.2] 44)).cell? ⟨w1.heap.size,0,none⟩=some (.int .i64 ve.1):=by simp [World.cell?_alloc_mark]
  have bN:=Sb.hide (aN.out.on ((Below.refl _ w1).alloc (Nat.le_refl _) (.cells #[.int .i64 ve.1,.int .i64 ve.2.1,.int .i64 ve.2.2] 44)))
  have hzn:¬ w1.heap.size=w.heap.size+1:=by omega
  have aeo:¬ w.heap.size+1=w1.heap.size:=by omega
  have z:=(eQ bN.out.zero).1
  have zf:=(eQ bN.out.zero).2
  go_wp2
  generalize w1.alloc (.cells #[.int .i64 ve.1,.int .i64 ve.2.1,.int .i64 ve.2.2] 44)=W2 at *
  go_region_held3 (fun w'=>w'.cell? ⟨w1.heap.size,0,none⟩=some (.int .i64 ve.1)) (go_keep) (fail)
  go_wp2
  have hX:=uj (v0:=.int .i64 0) (v1:=.int .i64 0) (v2:=.int .i64 0) (v3:=.slice none 0 0) (v4:=.slice none 0 0) (v5:=.slice none 0 0) (v6:=.int .i64 0) bN.out.zero
  have iE:=uk (v0:=.int .i64 0) (v1:=.int .i64 0) (v2:=.int .i64 0) (v3:=.slice none 0 0) (v4:=.slice none 0 0) (v5:=.slice none 0 0) (v6:=.int .i64 0) bN.out.below (Nat.le_succ _)
  unfold iD at hX iE
  obtain ⟨g0,g1,g2,g3,g4,g5,g6⟩:=hX
  generalize ((((((W2.setCell ⟨w.heap.size+1,0,none⟩ (.int .i64 0)).setCell ⟨w.heap.size+1,1,none⟩ (.int .i64 0)).setCell ⟨w.heap.size+1,2,none⟩ (.int .i64 0)).setCell ⟨w.heap.size+1,3,none⟩ (.slice none 0 0)).setCell ⟨w.heap.size+1,4,none⟩ (.slice none 0 0)).setCell ⟨w.heap.size+1,5,none⟩ (.slice none 0 0)).setCell ⟨w.heap.size+1,6,none⟩ (.int .i64 0)=W4 at *
  refine bodyPost_ret (v:=.tuple #[iW 0 0 0 (.slice none 0 0) (.slice none 0 0) (.slice none 0 0) 0,.int .i64 ve.1]) (by simp [results,Tryz.results15,go_sem,g0,g1,g2,g3,g4,g5,g6]) rfl ⟨iE.drew,.inl ⟨?_,?_⟩⟩
  ·first | exact jP.out | (rw [aY.out];exact jP.out) | (rw [aY.out];decide)
  ·first | rfl | rw [aY.out]
end Go.Proofs.YthffafaoobpedaaGreatDoor.Vw

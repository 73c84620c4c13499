/- A task that runs by itself,plainly: who is fed more says no less;step by step. -/
import Derived.Test.YthffafaoobpedabGreatDoorM31
import Derived.Test.YthffafaoobpedabGreatDoorM30
import Derived.Test.YthffafaoobpedabGreatDoorM27
set_option maxRecDepth 100000
set_option maxHeartbeats 2000000
namespace Go.Proofs.YthffafaoobpedabGreatDoor.Vw
open Go.RowKit Vf Vm
section
variable {β:Type} {X:Bxs β} {m:Md}
theorem go_yes {n:Nat}{t:Tk}{x:β}(h:(stat X m t x).1=1):go X m (n+1) t x=((go X m n (one X m t x).1 (one X m t x).2).1+1,(go X m n (one X m t x).1 (one X m t x).2).2):=by
 show (if (stat X m t x).1=1 then _ else _:Nat × Tk × β)=_
 rw [if_pos h]
theorem go_no {n:Nat}{t:Tk}{x:β}(h:¬ (stat X m t x).1=1):go X m n t x=(0,t,x):=by
 cases n with
 | zero=>rfl
 | succ n =>
  show (if (stat X m t x).1=1 then _ else _:Nat × Tk × β)=_
  rw [if_neg h]
theorem go_le:∀ (n:Nat) (t:Tk) (x:β),(go X m n t x).1≤n
 | 0,_,_=>Nat.le_refl _
 | n+1,t,x=>by
  by_cases h:(stat X m t x).1=1
  ·rw [go_yes h];have:=go_le n (one X m t x).1 (one X m t x).2;simp;omega
  ·rw [go_no h];simp
end
structure Later (t:Tk) (x:List Lst) (t':Tk) (x':List Lst):Prop where
 out:t.out <+: t'.out
 len:x.length=x'.length
 sent:∀ (i:Nat) q q',x[i]?=some q→x'[i]?=some q'→q.sent <+: q'.sent
theorem Later.refl (t:Tk)(x:List Lst):Later t x t x:=⟨List.prefix_rfl,rfl,fun i q q' h h'=>by rw [h] at h';cases h';exact List.prefix_rfl⟩
theorem Later.trans {t t1 t2:Tk}{x x1 x2:List Lst}(h:Later t x t1 x1)(k:Later t1 x1 t2 x2):Later t x t2 x2 :=
 ⟨h.out.trans k.out,h.len.trans k.len,fun i q q' hq hq'=>by
  obtain ⟨q1,h1⟩:∃ q,x1[i]?=some q:=⟨_,List.getElem?_eq_getElem (by rw [← h.len];exact (List.getElem?_eq_some_iff.1 hq).1)⟩
  exact (h.sent i q q1 hq h1).trans (k.sent i q1 q' h1 hq')⟩
theorem put_later (x:List Lst)(b:Nat)(v:Int):x.length=(lsX.put x b v).length∧∀ (i:Nat) q q',x[i]?=some q→(lsX.put x b v)[i]?=some q'→q.sent <+: q'.sent:=by
 cases hb:x[b]? with
 | none=>simp only [lsX,hb];exact ⟨trivial,fun i q q' h h'=>by rw [h] at h';cases h';exact List.prefix_rfl⟩
 | some q0 =>
  simp only [lsX,hb]
  refine ⟨by simp,fun i q q' h h'=>?_⟩
  rw [List.getElem?_set] at h'
  split at h'
  ·rename_i e
   subst e
   split at h'
   ·cases h';rw [hb] at h;cases h;exact List.prefix_append _ _
   ·cases h'
  ·rw [h] at h';cases h';exact List.prefix_rfl
theorem take_later (x:List Lst)(b:Nat):x.length=(lsX.take x b).length∧∀ (i:Nat) q q',x[i]?=some q→(lsX.take x b)[i]?=some q'→q.sent <+: q'.sent:=by
 cases hb:x[b]? with
 | none=>simp only [lsX,hb];exact ⟨trivial,fun i q q' h h'=>by rw [h] at h';cases h';exact List.prefix_rfl⟩
 | some q0 =>
  simp only [lsX,hb]
  refine ⟨by simp,fun i q q' h h'=>?_⟩
  rw [List.getElem?_set] at h'
  split at h'
  ·rename_i e
   subst e
   split at h'
   ·cases h';rw [hb] at h;cases h;exact List.prefix_rfl
   ·cases h'
  ·rw [h] at h';cases h';exact List.prefix_rfl
structure Fed (x x':List Lst):Prop where
 len:x.length=x'.length
 at':∀ (i:Nat) q q',x[i]?=some q→x'[i]?=some q'→q.took=q'.took∧q.sent=q'.sent∧q.feed <+: q'.feed∧q.took≤q.feed.length
theorem Fed.some {x x':List Lst}(h:Fed x x'){i:Nat}{q:Lst}(hq:x[i]?=some q):∃ q',x'[i]?=some q':=⟨_,List.getElem?_eq_getElem (by rw [← h.len];exact (List.getElem?_eq_some_iff.1 hq).1)⟩
theorem Fed.none {x x':List Lst}(h:Fed x x'){i:Nat}(hq:x[i]?=none):x'[i]?=none:=by
 rw [List.getElem?_eq_none_iff] at hq ⊢
 rw [← h.len];exact hq
theorem Fed.empty {x x':List Lst}(h:Fed x x')(b:Nat)(he:lsX.empty x b=false):lsX.empty x' b=false∧lsX.head x b=lsX.head x' b:=by
 cases hb:x[b]? with
 | none=>simp [lsX,hb] at he
 | some q =>
  obtain ⟨q',hb'⟩:=h.some hb
  obtain ⟨e1,e2,e3,e4⟩:=h.at' b q q' hb hb'
  simp [lsX,hb] at he
  obtain ⟨r,hr⟩:=e3
  simp only [lsX,hb,hb',← hr,← e1]
  refine ⟨by simp;omega,?_⟩
  rw [List.getElem?_append_left (by omega)]
theorem Fed.put {x x':List Lst}(h:Fed x x')(b:Nat)(v:Int):Fed (lsX.put x b v) (lsX.put x' b v):=by
 refine ⟨by rw [← (put_later x b v).1,← (put_later x' b v).1];exact h.len,fun i q q' hq hq'=>?_⟩
 cases hb:x[b]? with
 | none =>
  have hb':=h.none hb
  simp only [lsX,hb] at hq
  simp only [lsX,hb'] at hq'
  exact h.at' i q q' hq hq'
 | some p =>
  obtain ⟨p',hb'⟩:=h.some hb
  simp only [lsX,hb] at hq
  simp only [lsX,hb'] at hq'
  rw [List.getElem?_set] at hq hq'
  by_cases e:b=i
  ·subst e
   rw [if_pos rfl] at hq hq'
   split at hq
   ·split at hq'
    ·cases hq;cases hq'
     obtain ⟨e1,e2,e3,e4⟩:=h.at' b p p' hb hb'
     exact ⟨e1,by show p.sent ++ [v]=p'.sent ++ [v];rw [e2],e3,e4⟩
    ·cases hq'
   ·cases hq
  ·rw [if_neg e] at hq hq'
   exact h.at' i q q' hq hq'
theorem Fed.take {x x':List Lst}(h:Fed x x')(b:Nat)(he:lsX.empty x b=false):Fed (lsX.take x b) (lsX.take x' b):=by
 refine ⟨by rw [← (take_later x b).1,← (take_later x' b).1];exact h.len,fun i q q' hq hq'=>?_⟩
 cases hb:x[b]? with
 | none =>
  have hb':=h.none hb
  simp only [lsX,hb] at hq
  simp only [lsX,hb'] at hq'
  exact h.at' i q q' hq hq'
 | some p =>
  obtain ⟨p',hb'⟩:=h.some hb
  simp [lsX,hb] at he
  simp only [lsX,hb] at hq
  simp only [lsX,hb'] at hq'
  rw [List.getElem?_set] at hq hq'
  by_cases e:b=i
  ·subst e
   rw [if_pos rfl] at hq hq'
   split at hq
   ·split at hq'
    ·cases hq;cases hq'
     obtain ⟨e1,e2,e3,e4⟩:=h.at' b p p' hb hb'
     exact ⟨by show p.took+1=p'.took+1;rw [e1],e2,e3,by show p.took+1≤p.feed.length;omega⟩
    ·cases hq'
   ·cases hq
  ·rw [if_neg e] at hq hq'
   exact h.at' i q q' hq hq'
theorem cx_of {B:Nat}{w:World}{m:Md}{ab au:Option Addr}(cu:Nat)(h:ModIn B w m ab au)(hf:m.units.length≤30):∃ cv cc,CxIn ⟨m,B,au,cu,cv,cc⟩ w:=by
 have key:∀ i:Nat,∃ p:Option Addr × Nat,∀ u,m.units[i]?=some u→∃ b off al cl,au=some ⟨b,off,none⟩∧b < B∧UnIn B w u al p.1 cl p.2∧w.cell? ⟨b,off+i * 6,none⟩=some (.int .i64 u.kind)∧w.cell? ⟨b,off+i * 6+1,none⟩=some (.int .i64 u.params)∧w.cell? ⟨b,off+i * 6+2,none⟩=some (.slice al u.locals.length cl)∧w.cell? ⟨b,off+i * 6+3,none⟩=some (.int .i64 u.result)∧w.cell? ⟨b,off+i * 6+4,none⟩=some (.int .i64 u.takes)∧w.cell? ⟨b,off+i * 6+5,none⟩=some (.slice p.1 u.code.length p.2):=fun i=>by
  cases hu:m.units[i]? with
  | none=>exact ⟨(none,0),fun u e=>by cases e⟩
  | some u =>
   obtain ⟨b,off,al,cl,ac,cc,e,hb,hun,c0,c1,c2,c3,c4,c5⟩:=h.units i u hu
   exact ⟨(ac,cc),fun u' e'=>by cases e';exact ⟨b,off,al,cl,e,hb,hun,c0,c1,c2,c3,c4,c5⟩⟩
 exact ⟨fun i=>(key i).choose.1,fun i=>(key i).choose.2,hf,fun i u hu=>(key i).choose_spec u hu⟩
def lab (Q:Nat→Nat)(n:Nat):Lab:=fun b=>match (List.range n).find? (fun i=>Q i == b) with | some i=>⟨2,i,0,0⟩ | none=>⟨0,0,0,0⟩
theorem lab_at {Q:Nat→Nat}{n:Nat}(hinj:∀ i j,i < j→j < n→Q i < Q j){i:Nat}(hi:i < n):lab Q n (Q i)=⟨2,i,0,0⟩:=by
 unfold lab
 have:(List.range n).find? (fun j=>Q j == Q i)=some i:=by
  rw [List.find?_eq_some_iff_getElem]
  refine ⟨by simp,i,by simpa using hi,by simp,fun j hj=>?_⟩
  have:=hinj j i hj hi
  simp
  omega
 rw [this]
theorem lab_none {Q:Nat→Nat}{n b:Nat}(h:∀ i,i < n→Q i≠b):lab Q n b=⟨0,0,0,0⟩:=by
 unfold lab
 have:(List.range n).find? (fun j=>Q j == b)=none:=by
  rw [List.find?_eq_none]
  intro i hi
  simpa using h i (by simpa using hi)
 rw [this]
theorem lab_cls (Q:Nat→Nat)(n b:Nat):(lab Q n b).cls≠1:=by
 unfold lab
 split <;> simp
def soloX (fs:List (List Int)):List Lst:=fs.map fun f=>⟨f,0,[]⟩
theorem soloX_at {fs:List (List Int)}{i:Nat}{q:Lst}(h:(soloX fs)[i]?=some q):∃ f,fs[i]?=some f∧q=⟨f,0,[]⟩:=by
 unfold soloX at h
 rw [List.getElem?_map] at h
 cases hf:fs[i]? with
 | none=>rw [hf] at h;cases h
 | some f=>rw [hf] at h;cases h;exact ⟨f,rfl,rfl⟩
theorem lists_of {w wr:World}{B:Nat}{fs:List (List Int)}{a:Option Addr}{fa:Nat→Option Addr}{fc:Nat→Nat}{vl:Value}{ba:Option Addr}{bc:Nat}{Q:Nat→Nat}(c:Cx)(hcB:c.B=B)(hF:FdIn B w fs a fa fc)(hB:B≤w.heap.size)(h:FeAt w fs fa fc fs.length vl (.slice ba fs.length bc) Q wr)(hn:fs.length=c.m.boxes.length) :
  ∃ rb,LOk c.B (lab Q fs.length) wr∧LsEn Q fs.length rb 0 (lab Q fs.length) wr (soloX fs)∧BoxesAt (lsE Q fs.length rb 0) lsX c (.slice ba fs.length bc)∧(∀ b,b < w.heap.size→(lab Q fs.length b).cls=0)∧(∀ b,vl.ownBlock=some b→(lab Q fs.length b).cls=0):=by
 have hz:=h.below.size
 have old:∀ b,b < w.heap.size→(lab Q fs.length b).cls=0:=fun b hb=>by rw [lab_none (fun i hi e=>by have:=h.low i hi;omega)]
 have qz:∀ i,i < fs.length→Q i < wr.heap.size:=fun i hi=>by
  obtain ⟨f,hf⟩:∃ f,fs[i]?=some f:=⟨_,List.getElem?_eq_getElem hi⟩
  exact lt_of_block (h.blk i f hi hf)
 have rowc:∀ {e n g:Nat} {v:Value} {xs:List Value},wr.ownsRow w.heap.size e 1 v n xs→e≠76→v.ownBlock=some g→(lab Q fs.length g).cls=0:=fun ho he hg=>by
  rw [lab_none (fun i hi e2=>?_)]
  obtain ⟨f,hf⟩:∃ f,fs[i]?=some f:=⟨_,List.getElem?_eq_getElem hi⟩
  have hb:=h.blk i f hi hf
  obtain ⟨cur,hc⟩:=own_ty ho hg
  rw [e2,hc] at hb
  simp at hb
  exact he hb.2
 have hok:LOk c.B (lab Q fs.length) wr:=⟨fun b hb=>old b (by omega),fun b hb=>by rw [lab_none (fun i hi e=>by have:=qz i hi;omega)],by omega⟩
 have hlists:∀ (n:Nat) q,(soloX fs)[n]?=some q→∃ af cf vS,LAt (lab Q fs.length) wr (Q n) n q af cf vS:=fun n q hq=>by
  obtain ⟨f,hf,rfl⟩:=soloX_at hq
  have hnl:=(List.getElem?_eq_some_iff.1 hf).1
  refine ⟨fa n,fc n,.slice none 0 0,h.blk n f hnl hf,fun i v hv=>?_,(hF.words n f hf).1,Nat.zero_le _,⟨rfl,.inl ⟨rfl,rfl⟩⟩,lab_at h.inj hnl,fun b hb=>by cases hb⟩
  obtain ⟨b,off,e,hb,hc⟩:=(hF.words n f hf).2 i v hv
  exact ⟨b,off,e,by omega,old b (by omega),(cell_eq (h.below.block b (by omega)) _).trans hc⟩
 cases ba with
 | none =>
  have h0:fs.length=0:=by
   rcases h.ifc.2 with ⟨_,h0⟩ | ⟨g,cap,cur,e,_⟩
   ·exact h0
   ·simp at e
  refine ⟨0,hok,⟨by simp [soloX],fun n hn=>by omega,hlists⟩,⟨fun n hn=>by omega⟩,old,fun b hb=>rowc h.ptr (by decide) hb⟩
 | some ad =>
  rcases h.ifc.2 with ⟨e,_⟩ | ⟨g,cap,cur,e,hr⟩
  ·simp at e
  ·simp at e
   obtain ⟨rfl,rfl⟩:=e
   refine ⟨g,hok,⟨by simp [soloX],fun n hn=>?_,hlists⟩,?_,old,fun b hb=>rowc h.ptr (by decide) hb⟩
   ·obtain ⟨g',e',hc⟩:=own_cell h.ifc (ifcs_at Q hn)
    cases e'
    exact ⟨lt_of_block hr.2.1,rowc h.ifc (by decide) rfl,by rw [Nat.zero_add];exact hc⟩
   ·rw [hn]
    exact boxes_ls Q g 0 bc c
def soloE (m:Md)(task most:Int)(fs:List (List Int)):Int :=
 if (verify m).1≠0 then (verify m).1
 else if task < 0∨((tasksTo m.units m.units.length).length:Int)≤task∨most < 0∨5000 < most then 3
 else feedsE m.boxes fs
def soloU (m:Md)(task:Int):Nat:=((tasksTo m.units m.units.length)[task.toNat]?).getD 0
def soloR (m:Md)(task most:Int)(fs:List (List Int)):Nat × Tk × List Lst:=go lsX m most.toNat (newTk (unit m (soloU m task)) (soloU m task)) (soloX fs)
structure RpIn (w:World) (t:Tk) (x:List Lst) (vO vS vT:Value):Prop where
 out:w.ownsRow 0 2 1 vO t.out.length (ints t.out)
 sent:∃ sv,w.ownsRow 0 22 1 vS x.length (svs sv x.length)∧∀ (i:Nat) q,x[i]?=some q→w.ownsRow 0 2 1 (sv i) q.sent.length (ints q.sent)
 took:w.ownsRow 0 3 1 vT x.length (tks x x.length)
theorem RpIn.below {w w':World}{t:Tk}{x:List Lst}{vO vS vT:Value}(h:RpIn w t x vO vS vT)(hb:Below w.heap.size w w'):RpIn w' t x vO vS vT:=by
 have k:∀ {e n:Nat} {v:Value} {xs:List Value},w.ownsRow 0 e 1 v n xs→w'.ownsRow 0 e 1 v n xs:=fun h=>own_keep h (fun b hx=>hb.block b (h.lt b hx).2)
 obtain ⟨sv,s1,s2⟩:=h.sent
 exact ⟨k h.out,⟨sv,k s1,fun i q hq=>k (s2 i q hq)⟩,k h.took⟩
theorem soloU_at {m:Md}{task:Int}(h0:0≤task)(h1:task < (tasksTo m.units m.units.length).length):(tasksTo m.units m.units.length)[task.toNat]?=some (soloU m task)∧∃ u,m.units[soloU m task]?=some u∧u.kind=4:=by
 have e:(tasksTo m.units m.units.length)[task.toNat]?=some (soloU m task):=by
  unfold soloU
  rw [List.getElem?_eq_getElem (by omega)]
  rfl
 refine ⟨e,?_⟩
 have:=List.mem_of_getElem? e
 unfold tasksTo at this
 rw [List.mem_filter] at this
 simpa using this.2
theorem solo_first {m:Md}{K:KM}(hK:Known m K){fs:List (List Int)}(hl:fs.length=m.boxes.length)(hw:wrongF m.boxes fs=false){n:Nat}{u:Un}(hu:m.units[n]?=some u)(h4:u.kind=4):LI m K fs 0 (newTk u n) (soloX fs):=by
 obtain ⟨G,hG⟩:=newTk_goes hK hu h4
 refine ⟨.inr ⟨G,[],hG⟩,.inl rfl,Nat.le_refl _,Nat.le_refl _,by simp [soloX,hl],fun i q hq=>?_⟩
 obtain ⟨f,hf,rfl⟩:=soloX_at hq
 refine ⟨hf,Nat.zero_le _,Nat.le_refl _,fun h2=>⟨?_,rfl⟩⟩
 obtain ⟨b,hb⟩:∃ b,m.boxes[i]?=some b:=⟨_,List.getElem?_eq_getElem (by have:=(List.getElem?_eq_some_iff.1 hf).1;omega)⟩
 simp only [boxTy,Int.toNat_natCast,hb,Option.map_some,Option.getD_some] at h2
 exact wrongF_all hw i b f hb hf h2
theorem below_grown0 {w w1:World}(h:w.grownBy w1 none):Below w.heap.size w w1:=⟨h.os,h.tape,h.output,h.size,fun b hb=>h.block b hb (by simp)⟩
abbrev mdB (m:Md) (ab au:Option Addr) (cb cu:Nat):Obj:=.cells #[.slice ab m.boxes.length cb,.slice au m.units.length cu] 38 (0,0)
theorem md_cells {w:World}{b:Nat}{m:Md}{ab au:Option Addr}{cb cu:Nat}(h:w.heap[b]?=some (mdB m ab au cb cu)):w.cell? ⟨b,0,none⟩=some (.slice ab m.boxes.length cb)∧w.cell? ⟨b,1,none⟩=some (.slice au m.units.length cu):=by simp [World.cell?,h]
structure So (w:World) (m:Md) (ab au:Option Addr) (cb cu:Nat) (wr:World):Prop where
 below:Below w.heap.size w wr
 md:wr.heap[w.heap.size]?=some (mdB m ab au cb cu)
 zero:wr.heap[w.heap.size+1]?=some repZ
theorem So.on {w:World}{m:Md}{ab au:Option Addr}{cb cu:Nat}{wr wr':World}(h:So w m ab au cb cu wr)(hb:Below wr.heap.size wr wr'):So w m ab au cb cu wr' :=
 ⟨h.below.trans (hb.mono h.below.size),(hb.block _ (lt_of_block h.md)).trans h.md,(hb.block _ (lt_of_block h.zero)).trans h.zero⟩
theorem So.first (w:World)(m:Md)(ab au:Option Addr)(cb cu:Nat):So w m ab au cb cu ((w.alloc (mdB m ab au cb cu)).alloc repZ):=by
 have e:(w.alloc (mdB m ab au cb cu)).heap.size=w.heap.size+1:=by simp
 refine ⟨((Below.refl _ w).alloc (Nat.le_refl _) _).alloc (by simp) _,(Below.heap_alloc _ _ _ (by simp)).trans (heap_alloc_new w _),?_⟩
 rw [← e]
 exact heap_alloc_new _ _
abbrev fillV (w:World) (b:Nat) (v0 v1 v2 v3 v4 v5 v6:Value):World:=((((((w.setCell ⟨b,0,none⟩ v0).setCell ⟨b,1,none⟩ v1).setCell ⟨b,2,none⟩ v2).setCell ⟨b,3,none⟩ v3).setCell ⟨b,4,none⟩ v4).setCell ⟨b,5,none⟩ v5).setCell ⟨b,6,none⟩ v6
theorem fillV_at {w:World}{b:Nat}{v0 v1 v2 v3 v4 v5 v6:Value}(h:w.heap[b]?=some repZ):((fillV w b v0 v1 v2 v3 v4 v5 v6).cell? ⟨b,0,none⟩=some v0∧(fillV w b v0 v1 v2 v3 v4 v5 v6).cell? ⟨b,1,none⟩=some v1∧(fillV w b v0 v1 v2 v3 v4 v5 v6).cell? ⟨b,2,none⟩=some v2∧(fillV w b v0 v1 v2 v3 v4 v5 v6).cell? ⟨b,3,none⟩=some v3∧(fillV w b v0 v1 v2 v3 v4 v5 v6).cell? ⟨b,4,none⟩=some v4∧(fillV w b v0 v1 v2 v3 v4 v5 v6).cell? ⟨b,5,none⟩=some v5∧(fillV w b v0 v1 v2 v3 v4 v5 v6).cell? ⟨b,6,none⟩=some v6):=by
 have:(fillV w b v0 v1 v2 v3 v4 v5 v6).heap[b]?=some (.cells #[v0,v1,v2,v3,v4,v5,v6] 29 (0,0)):=by
  simp only [World.setCell,Array.getElem?_modify,if_true,h,Option.map_some]
  rfl
 generalize fillV w b v0 v1 v2 v3 v4 v5 v6=W at this ⊢
 simp [World.cell?,this]
theorem fillV_ne {w:World}{b:Nat}{v0 v1 v2 v3 v4 v5 v6:Value}{b':Nat}(hn:b'≠b):(fillV w b v0 v1 v2 v3 v4 v5 v6).heap[b']?=w.heap[b']?:=by
 rw [Below.heap_setCell _ ⟨b,6,none⟩ _ _ hn,Below.heap_setCell _ ⟨b,5,none⟩ _ _ hn,Below.heap_setCell _ ⟨b,4,none⟩ _ _ hn,Below.heap_setCell _ ⟨b,3,none⟩ _ _ hn,Below.heap_setCell _ ⟨b,2,none⟩ _ _ hn,Below.heap_setCell _ ⟨b,1,none⟩ _ _ hn,Below.heap_setCell _ ⟨b,0,none⟩ _ _ hn]
theorem fillV_below {w0 w:World}{B b:Nat}{v0 v1 v2 v3 v4 v5 v6:Value}(h:Below B w0 w)(hB:B≤b):Below B w0 (fillV w b v0 v1 v2 v3 v4 v5 v6) :=
 ((((((h.setCell (p:=⟨b,0,none⟩) hB _).setCell (p:=⟨b,1,none⟩) hB _).setCell (p:=⟨b,2,none⟩) hB _).setCell (p:=⟨b,3,none⟩) hB _).setCell (p:=⟨b,4,none⟩) hB _).setCell (p:=⟨b,5,none⟩) hB _).setCell (p:=⟨b,6,none⟩) hB _
theorem fillV_own {w:World}{b:Nat}{v0 v1 v2 v3 v4 v5 v6:Value}(h:w.heap[b]?=some repZ){B e n:Nat}{v:Value}{xs:List Value}(ho:w.ownsRow B e 1 v n xs)(he:e≠29):(fillV w b v0 v1 v2 v3 v4 v5 v6).ownsRow B e 1 v n xs :=
 own_keep ho (fun k hk=>fillV_ne (fun e2=>by
  obtain ⟨cur,hc⟩:=own_ty ho hk
  rw [e2,h] at hc
  simp at hc
  exact he hc.2.symm))
theorem RpIn.fill {w:World}{b:Nat}{v0 v1 v2 v3 v4 v5 v6:Value}(h:w.heap[b]?=some repZ){t:Tk}{x:List Lst}{vO vS vT:Value}(k:RpIn w t x vO vS vT):RpIn (fillV w b v0 v1 v2 v3 v4 v5 v6) t x vO vS vT:=by
 obtain ⟨sv,s1,s2⟩:=k.sent
 exact ⟨fillV_own h k.out (by decide),⟨sv,fillV_own h s1 (by decide),fun i q hq=>fillV_own h (s2 i q hq) (by decide)⟩,fillV_own h k.took (by decide)⟩
theorem So.chg {w:World}{m:Md}{ab au:Option Addr}{cb cu:Nat}{wr wr':World}{L:Lab}{o:Nat}(h:So w m ab au cb cu wr)(hC:Chg (WB L o) wr wr')(hL:∀ b,b < w.heap.size+2→(L b).cls=0):So w m ab au cb cu wr':=by
 have k:∀ b,b < w.heap.size+2→b < wr.heap.size→wr'.heap[b]?=wr.heap[b]?:=fun b hb hz=>hC.block b hz (fun hx=>by have:=hL b hb;unfold WB EB at hx;omega)
 have hz:=h.below.size
 exact ⟨⟨hC.os.trans h.below.os,hC.tape.trans h.below.tape,hC.output.trans h.below.output,Nat.le_trans hz hC.size,fun b hb=>(k b (by omega) (by omega)).trans (h.below.block b hb)⟩,(k _ (by omega) (lt_of_block h.md)).trans h.md,(k _ (by omega) (lt_of_block h.zero)).trans h.zero⟩
theorem LsEn.sv {Q:Nat→Nat}{nb rb off:Nat}{L:Lab}{w:World}{x:List Lst}(h:LsEn Q nb rb off L w x):∃ sv:Nat→Value,∀ (i:Nat) q,x[i]?=some q→∃ af cf,LAt L w (Q i) i q af cf (sv i):=by
 have key:∀ i:Nat,∃ v:Value,∀ q,x[i]?=some q→∃ af cf,LAt L w (Q i) i q af cf v:=fun i=>by
  cases hx:x[i]? with
  | none=>exact ⟨.slice none 0 0,fun q e=>by cases e⟩
  | some q =>
   obtain ⟨af,cf,vS,hA⟩:=h.lists i q hx
   exact ⟨vS,fun q' e=>by cases e;exact ⟨af,cf,hA⟩⟩
 exact ⟨fun i=>(key i).choose,fun i q hq=>(key i).choose_spec q hq⟩
theorem solo_any (m:Md)(ab au:Option Addr)(cb cu B:Nat)(fs:List (List Int))(a:Option Addr)(cap:Nat)(fa:Nat→Option Addr)(fc:Nat→Nat)(w:World)(hmd:Hid (ModIn B w m ab au))(hfd:Hid (FdIn B w fs a fa fc))(hB:B≤w.heap.size)(task most:Int)(E:Int)(hE:Hid (E=soloE m task most fs)) :
  Calls Tryz.prog 11 #[mdV m ab au cb cu,.int .i64 task,.slice a fs.length cap,.int .i64 most] w fun e w'=>Below w.heap.size w w'∧((E≠0∧e=.returned (.tuple #[repV 0 0 0 (.slice none 0 0) (.slice none 0 0) (.slice none 0 0) 0,.int .i64 E])) ∨
   (E=0∧∃ vO vS vT,e=.returned (.tuple #[repV (stat lsX m (soloR m task most fs).2.1 (soloR m task most fs).2.2).1 (stat lsX m (soloR m task most fs).2.1 (soloR m task most fs).2.2).2 (soloR m task most fs).2.1.trap vO vS vT (soloR m task most fs).1,.int .i64 0])∧RpIn w' (soloR m task most fs).2.1 (soloR m task most fs).2.2 vO vS vT∧∃ K,Known m K∧LI m K fs (soloR m task most fs).1 (soloR m task most fs).2.1 (soloR m task most fs).2.2)):=by
 obtain ⟨R,hR⟩:∃ R,R=soloR m task most fs:=⟨_,rfl⟩
 rw [← hR]
 have HRR:=Sb.hide hR
 obtain ⟨s,hs⟩:∃ s,s=(stat lsX m R.2.1 R.2.2).1:=⟨_,rfl⟩
 obtain ⟨q,hq⟩:∃ s,s=(stat lsX m R.2.1 R.2.2).2:=⟨_,rfl⟩
 rw [← hs,← hq]
 have HS:=Sb.hide hs
 have HQ:=Sb.hide hq
 clear hR hs hq
 obtain ⟨ve,hve⟩:∃ v,v=verify m:=⟨_,rfl⟩
 have HVE:=Sb.hide hve
 clear hve
 have HF0:=Sb.hide (So.first w m ab au cb cu)
 have HM0:Hid (ModIn B ((w.alloc (mdB m ab au cb cu)).alloc repZ) m ab au):=hmd.out.low (HF0.out.below.mono hB).block
 have c0:=md_cells HF0.out.md
 go_enter Tryz.func11,Tryz.ntmps11
 go_wp2_with fail
 generalize (w.alloc (mdB m ab au cb cu)).alloc repZ=W0 at *
 refine (verify_any m ab au cb cu B _ HM0 (by have:=HF0.out.below.size;omega) ve HVE).mono ?_
 rintro e w1 ⟨rfl,hg1⟩
 have HF1:=Sb.hide (HF0.out.on (below_grown0 hg1))
 clear hg1 c0
 by_cases h0:ve.1=0
 ·have e0:(ve.1 != 0)=false:=by simpa using h0
  have HE1:Hid (E=if task < 0∨((tasksTo m.units m.units.length).length:Int)≤task∨most < 0∨5000 < most then 3 else feedsE m.boxes fs):=by
   unfold Hid
   rw [hE.out,soloE,if_neg (by rw [← HVE.out];simpa using h0)]
  have hright:verify m=(0,0,0):=by
   rw [← HVE.out]
   have e:∀ n k,(from' m n k).1=0→from' m n k=(0,0,0):=by
    intro n
    induction n with
    | zero=>intro k _;rfl
    | succ n ih =>
     intro k hk
     unfold from' at hk ⊢
     split
     ·rename_i e;rw [if_pos e] at hk;exact ih _ hk
     ·rename_i e;rw [if_neg e] at hk;exact absurd hk e
   rw [HVE.out] at h0 ⊢
   exact e 6 0 h0
  obtain ⟨⟨K,hK⟩,hbl⟩:=known_of hright
  have HK:=Sb.hide hK
  have HRG:=Sb.hide hright
  have hz1:=lt_of_block HF1.out.zero
  have HF2:=Sb.hide (HF1.out.on ((Below.refl _ w1).alloc (Nat.le_refl _) (.cells #[.int .i64 ve.1,.int .i64 ve.2.1,.int .i64 ve.2.2] 44)))
  have v1:(w1.alloc (.cells #[.int .i64 ve.1,.int .i64 ve.2.1,.int .i64 ve.2.2] 44)).cell? ⟨w1.heap.size,0,none⟩=some (.int .i64 ve.1):=by simp [World.cell?_alloc_mark]
  obtain ⟨cv,cc,hcx⟩:=cx_of cu hmd.out hK.rt.units
  have HCX:Hid (∀ W,So w m ab au cb cu W→CxIn ⟨m,B,au,cu,cv,cc⟩ W):=fun W hW=>hcx.low (hW.below.mono hB).block
  have HFD:Hid (∀ W,So w m ab au cb cu W→FdIn B W fs a fa fc):=fun W hW=>hfd.out.low (hW.below.mono hB).block
  have HBX:Hid (∀ W,So w m ab au cb cu W→BoxesIn B W m.boxes ab):=fun W hW=>(hmd.out.low (hW.below.mono hB).block).boxes
  have HSZ:Hid (∀ W,So w m ab au cb cu W→B≤W.heap.size∧w.heap.size+2≤W.heap.size):=fun W hW=>⟨by have:=hW.below.size;omega,lt_of_block hW.zero⟩
  clear h0 hK hright hcx
  have c2:=md_cells HF2.out.md
  go_wp2_with fail
  generalize w1.alloc (.cells #[.int .i64 ve.1,.int .i64 ve.2.1,.int .i64 ve.2.2] 44)=W2 at *
  refine (tasks_any ⟨m,B,au,cu,cv,cc⟩ ab cb _ (Sb.hide (HCX.out _ HF2.out)) (HSZ.out _ HF2.out).1).mono ?_
  rintro e w3 ⟨vl,rfl,hT⟩
  obtain ⟨_,hb3,ho3⟩:=hT
  obtain ⟨ta,tc,rfl⟩:=own_slice ho3
  have HF3:=Sb.hide (HF2.out.on hb3)
  have HT3:=Sb.hide ho3
  have c3:=md_cells HF3.out.md
  have z3:=(rep_cells HF3.out.zero).1
  have zf3:=(rep_cells HF3.out.zero).2
  have hNN:(tasksTo m.units m.units.length).length≤30:=by have:=tasksTo_len m.units m.units.length;have:=HK.out.rt.units;omega
  obtain ⟨N,hN⟩:∃ N,N=(tasksTo m.units m.units.length).length:=⟨_,rfl⟩
  have HN:=Sb.hide hN
  change Hid (w3.ownsRow W2.heap.size 3 1 (.slice ta (tasksTo m.units m.units.length).length tc) (tasksTo m.units m.units.length).length (nats (tasksTo m.units m.units.length))) at HT3
  rw [← hN] at HE1 HT3 hNN
  simp only [← hN]
  clear hN hb3 ho3 c2 v1
  by_cases t1:task < 0
  ·have HE2:Hid (E=3):=by unfold Hid;rw [HE1.out,if_pos (.inl t1)]
   go_wp2
   have hX:=fillV_at (v0:=.int .i64 0) (v1:=.int .i64 0) (v2:=.int .i64 0) (v3:=.slice none 0 0) (v4:=.slice none 0 0) (v5:=.slice none 0 0) (v6:=.int .i64 0) HF3.out.zero
   have hBD:=fillV_below (v0:=.int .i64 0) (v1:=.int .i64 0) (v2:=.int .i64 0) (v3:=.slice none 0 0) (v4:=.slice none 0 0) (v5:=.slice none 0 0) (v6:=.int .i64 0) HF3.out.below (Nat.le_succ _)
   unfold fillV at hX hBD
   obtain ⟨g0,g1,g2,g3,g4,g5,g6⟩:=hX
   generalize ((((((w3.setCell ⟨w.heap.size+1,0,none⟩ (.int .i64 0)).setCell ⟨w.heap.size+1,1,none⟩ (.int .i64 0)).setCell ⟨w.heap.size+1,2,none⟩ (.int .i64 0)).setCell ⟨w.heap.size+1,3,none⟩ (.slice none 0 0)).setCell ⟨w.heap.size+1,4,none⟩ (.slice none 0 0)).setCell ⟨w.heap.size+1,5,none⟩ (.slice none 0 0)).setCell ⟨w.heap.size+1,6,none⟩ (.int .i64 0)=W4 at *
   refine bodyPost_ret (v:=.tuple #[repV 0 0 0 (.slice none 0 0) (.slice none 0 0) (.slice none 0 0) 0,.int .i64 3]) (by simp [results,Tryz.results11,go_sem,g0,g1,g2,g3,g4,g5,g6]) rfl ⟨hBD,.inl ⟨?_,?_⟩⟩
   ·first | exact HNZ.out | (rw [HE2.out];exact HNZ.out) | (rw [HE2.out];decide)
   ·first | rfl | rw [HE2.out]
  by_cases t2:(N:Int)≤task
  ·have HE2:Hid (E=3):=by unfold Hid;rw [HE1.out,if_pos (.inr (.inl t2))]
   go_wp2
   have hX:=fillV_at (v0:=.int .i64 0) (v1:=.int .i64 0) (v2:=.int .i64 0) (v3:=.slice none 0 0) (v4:=.slice none 0 0) (v5:=.slice none 0 0) (v6:=.int .i64 0) HF3.out.zero
   have hBD:=fillV_below (v0:=.int .i64 0) (v1:=.int .i64 0) (v2:=.int .i64 0) (v3:=.slice none 0 0) (v4:=.slice none 0 0) (v5:=.slice none 0 0) (v6:=.int .i64 0) HF3.out.below (Nat.le_succ _)
   unfold fillV at hX hBD
   obtain ⟨g0,g1,g2,g3,g4,g5,g6⟩:=hX
   generalize ((((((w3.setCell ⟨w.heap.size+1,0,none⟩ (.int .i64 0)).setCell ⟨w.heap.size+1,1,none⟩ (.int .i64 0)).setCell ⟨w.heap.size+1,2,none⟩ (.int .i64 0)).setCell ⟨w.heap.size+1,3,none⟩ (.slice none 0 0)).setCell ⟨w.heap.size+1,4,none⟩ (.slice none 0 0)).setCell ⟨w.heap.size+1,5,none⟩ (.slice none 0 0)).setCell ⟨w.heap.size+1,6,none⟩ (.int .i64 0)=W4 at *
   refine bodyPost_ret (v:=.tuple #[repV 0 0 0 (.slice none 0 0) (.slice none 0 0) (.slice none 0 0) 0,.int .i64 3]) (by simp [results,Tryz.results11,go_sem,g0,g1,g2,g3,g4,g5,g6]) rfl ⟨hBD,.inl ⟨?_,?_⟩⟩
   ·first | exact HNZ.out | (rw [HE2.out];exact HNZ.out) | (rw [HE2.out];decide)
   ·first | rfl | rw [HE2.out]
  by_cases t3:most < 0
  ·have HE2:Hid (E=3):=by unfold Hid;rw [HE1.out,if_pos (.inr (.inr (.inl t3)))]
   go_wp2
   have hX:=fillV_at (v0:=.int .i64 0) (v1:=.int .i64 0) (v2:=.int .i64 0) (v3:=.slice none 0 0) (v4:=.slice none 0 0) (v5:=.slice none 0 0) (v6:=.int .i64 0) HF3.out.zero
   have hBD:=fillV_below (v0:=.int .i64 0) (v1:=.int .i64 0) (v2:=.int .i64 0) (v3:=.slice none 0 0) (v4:=.slice none 0 0) (v5:=.slice none 0 0) (v6:=.int .i64 0) HF3.out.below (Nat.le_succ _)
   unfold fillV at hX hBD
   obtain ⟨g0,g1,g2,g3,g4,g5,g6⟩:=hX
   generalize ((((((w3.setCell ⟨w.heap.size+1,0,none⟩ (.int .i64 0)).setCell ⟨w.heap.size+1,1,none⟩ (.int .i64 0)).setCell ⟨w.heap.size+1,2,none⟩ (.int .i64 0)).setCell ⟨w.heap.size+1,3,none⟩ (.slice none 0 0)).setCell ⟨w.heap.size+1,4,none⟩ (.slice none 0 0)).setCell ⟨w.heap.size+1,5,none⟩ (.slice none 0 0)).setCell ⟨w.heap.size+1,6,none⟩ (.int .i64 0)=W4 at *
   refine bodyPost_ret (v:=.tuple #[repV 0 0 0 (.slice none 0 0) (.slice none 0 0) (.slice none 0 0) 0,.int .i64 3]) (by simp [results,Tryz.results11,go_sem,g0,g1,g2,g3,g4,g5,g6]) rfl ⟨hBD,.inl ⟨?_,?_⟩⟩
   ·first | exact HNZ.out | (rw [HE2.out];exact HNZ.out) | (rw [HE2.out];decide)
   ·first | rfl | rw [HE2.out]
  by_cases t4:5000 < most
  ·have HE2:Hid (E=3):=by unfold Hid;rw [HE1.out,if_pos (.inr (.inr (.inr t4)))]
   go_wp2
   have hX:=fillV_at (v0:=.int .i64 0) (v1:=.int .i64 0) (v2:=.int .i64 0) (v3:=.slice none 0 0) (v4:=.slice none 0 0) (v5:=.slice none 0 0) (v6:=.int .i64 0) HF3.out.zero
   have hBD:=fillV_below (v0:=.int .i64 0) (v1:=.int .i64 0) (v2:=.int .i64 0) (v3:=.slice none 0 0) (v4:=.slice none 0 0) (v5:=.slice none 0 0) (v6:=.int .i64 0) HF3.out.below (Nat.le_succ _)
   unfold fillV at hX hBD
   obtain ⟨g0,g1,g2,g3,g4,g5,g6⟩:=hX
   generalize ((((((w3.setCell ⟨w.heap.size+1,0,none⟩ (.int .i64 0)).setCell ⟨w.heap.size+1,1,none⟩ (.int .i64 0)).setCell ⟨w.heap.size+1,2,none⟩ (.int .i64 0)).setCell ⟨w.heap.size+1,3,none⟩ (.slice none 0 0)).setCell ⟨w.heap.size+1,4,none⟩ (.slice none 0 0)).setCell ⟨w.heap.size+1,5,none⟩ (.slice none 0 0)).setCell ⟨w.heap.size+1,6,none⟩ (.int .i64 0)=W4 at *
   refine bodyPost_ret (v:=.tuple #[repV 0 0 0 (.slice none 0 0) (.slice none 0 0) (.slice none 0 0) 0,.int .i64 3]) (by simp [results,Tryz.results11,go_sem,g0,g1,g2,g3,g4,g5,g6]) rfl ⟨hBD,.inl ⟨?_,?_⟩⟩
   ·first | exact HNZ.out | (rw [HE2.out];exact HNZ.out) | (rw [HE2.out];decide)
   ·first | rfl | rw [HE2.out]
  have HE2:Hid (E=feedsE m.boxes fs):=by unfold Hid;rw [HE1.out,if_neg (by omega)]
  go_wp2_with fail
  refine (wrongFeeds_any m.boxes ab cb B fs a cap fa fc _ (Sb.hide (HBX.out _ HF3.out)) (by omega) (Sb.hide (HFD.out _ HF3.out)) (HSZ.out _ HF3.out).1 E HE2).mono ?_
  rintro e w4 ⟨rfl,hb4⟩
  have HF4:=Sb.hide (HF3.out.on hb4)
  have HB4:=Sb.hide hb4
  clear hb4 z3 zf3 c3
  by_cases h5:E=0
  ·have e5:(E != 0)=false:=by simpa using h5
   have HE0:=Sb.hide h5
   obtain ⟨hfl,hwf⟩:fs.length=m.boxes.length∧wrongF m.boxes fs=false:=by
    have:=HE2.out
    rw [h5] at this
    unfold feedsE at this
    split at this
    ·rename_i hh
     split at this
     ·cases this
     ·rename_i hw;exact ⟨hh,by simpa using hw⟩
    ·cases this
   have HFL:=Sb.hide hfl
   have HWF:=Sb.hide hwf
   have hf30:fs.length≤30:=by omega
   obtain ⟨tn,rfl⟩:=Int.eq_ofNat_of_zero_le (a:=task) (by omega)
   obtain ⟨mn,rfl⟩:=Int.eq_ofNat_of_zero_le (a:=most) (by omega)
   obtain ⟨hU1,uu,hU2,hU3⟩:=soloU_at (m:=m) (task:=(tn:Int)) (by omega) (by have:=HN.out;omega)
   obtain ⟨U,hU⟩:∃ U,U=soloU m (tn:Int):=⟨_,rfl⟩
   have HU:=Sb.hide hU
   rw [← hU] at hU1 hU2
   have HU2:=Sb.hide hU2
   have HU3:=Sb.hide hU3
   obtain ⟨gt,hta,htc⟩:=own_cell HT3.out (k:=tn) (u:=.int .i64 (U:Int)) (by
    rw [List.getElem?_map]
    simp only [Int.toNat_natCast] at hU1
    rw [hU1]
    rfl)
   have hgt:=World.block_lt_of_cell? w3 _ htc
   have HTC:Hid (∀ W,Below w3.heap.size w3 W→W.cell? ⟨gt,tn,none⟩=some (.int .i64 (U:Int))):=fun W hW=>(cell_eq (hW.block gt hgt) _).trans htc
   subst hta
   clear hfl hwf h5 hU hU1 hU2 hU3 htc t1 t3
   go_wp2_with fail
   refine (feed_any B fs a cap fa fc _ (Sb.hide (HFD.out _ HF4.out)) (HSZ.out _ HF4.out).1 hf30).mono ?_
   rintro e w5 ⟨vl,vb,Q,rfl,hFe⟩
   obtain ⟨la,lc,rfl⟩:=own_slice hFe.ptr
   obtain ⟨ba,bc,rfl⟩:=own_slice hFe.ifc
   obtain ⟨rb,hok,hen,hbx,hold,hvl⟩:=lists_of ⟨m,B,au,cu,cv,cc⟩ rfl (HFD.out _ HF4.out) (HSZ.out _ HF4.out).1 hFe HFL.out
   have hb5:=hFe.below
   have hd5:Below w5.heap.size w5 w5.drew:=(Below.refl _ _).drew
   have HF5:=Sb.hide (HF4.out.on hb5)
   have HD5:=Sb.hide (HF5.out.on hd5)
   have HOK:Hid (LOk B (lab Q fs.length) w5.drew):=hok.on (Nat.le_refl _)
   have HEN:=Sb.hide hen
   have HXX:=Sb.hide hbx
   have HOLD:=Sb.hide hold
   have HVL:=Sb.hide hvl
   have HPT:=Sb.hide hFe.ptr
   have HDD:=Sb.hide hd5
   have h35:Below w3.heap.size w3 w5:=HB4.out.trans (hb5.mono HB4.out.size)
   have tc5:=HTC.out _ h35
   have c5:=md_cells HF5.out.md
   have H35:=Sb.hide h35
   have hsz:=sized_true (headE_zero (HK.out.rt.heads _ uu HU2.out).1).2.1
   have hp0:uu.params=0:=by
    have:=(headE_zero (HK.out.rt.heads _ uu HU2.out).1).2.1
    unfold sized at this
    simp [HU3.out] at this
    omega
   have hl200:uu.locals.length≤200:=hsz.1
   have HFR:Hid (∀ b,¬ ((lab Q fs.length b).cls=1∧(lab Q fs.length b).idx=0)):=fun b hx=>lab_cls Q fs.length b hx.1
   have n0:(0:Int)≤(tn:Int):=by omega
   have n1:(tn:Int) < (N:Int):=by omega
   obtain ⟨c51,c52⟩:=c5
   clear hFe hok hen hbx hold hvl hb5 hd5 hsz h35
   go_wp2_with fail
   go_region_held3 (fun w'=>(w'.cell? ⟨w.heap.size,0,none⟩=some (.slice ab m.boxes.length cb)∧w'.cell? ⟨w.heap.size,1,none⟩=some (.slice au m.units.length cu))∧w'.cell? ⟨gt,tn,none⟩=some (.int .i64 (U:Int))) (go_keep) ((go_at_call 17;refine (newTask_any ⟨m,B,au,cu,cv,cc⟩ (lab Q fs.length) 0 _ HOK (Sb.hide (by exact HCX.out _ HD5.out)) HFR ab cb ba fs.length bc U uu HU2 hp0 hl200).mono ?_;rintro e w6 ⟨T,L6,P6,vR6,vO6,rfl,hT6,hL6,hE6,hb6⟩;have HB6:Hid (Below w5.heap.size w5 w6):=HDD.out.trans (hb6.mono (Nat.le_refl _));have HT6:=Sb.hide hT6;have HL6:=Sb.hide hL6;have HE6:Hid (ExW 0 (lab Q fs.length) L6 w5):=hE6;have HF6:=Sb.hide (HF5.out.on HB6.out);have tc6:=HTC.out _ (H35.out.trans (HB6.out.mono H35.out.size));have c61:=(md_cells HF6.out.md).1;have c62:=(md_cells HF6.out.md).2;clear hT6 hL6 hE6 hb6))
   clear c51 c52 tc5
   have HST:Hid (St (lsE Q fs.length rb 0) ⟨m,B,au,cu,cv,cc⟩ (.slice ba fs.length bc) (.func (.func 32) #[] #[]) 0 T L6 P6 w6 (newTk uu U) (soloX fs) vR6 vO6):=⟨HT6.out,(lsE Q fs.length rb 0).keep (l:=[]) HEN.out HE6.out.1 HB6.out.size (fun b hb _=>HB6.out.block b hb),HL6.out,HCX.out _ HF6.out⟩
   have HI0:=Sb.hide (solo_first HK.out HFL.out HWF.out HU2.out HU3.out)
   go_wp2_with fail
   have HSR:Hid (R=go lsX m mn (newTk uu U) (soloX fs)):=by
    unfold Hid
    rw [HRR.out]
    unfold soloR
    rw [← HU.out,unit_of HU2.out,Int.toNat_natCast]
   have hrun:=run_any (lsE Q fs.length rb 0) lsX ⟨m,B,au,cu,cv,cc⟩ (.slice ba fs.length bc) 32 #[] (Sb.hide (hears_ls Q fs.length rb 0 ⟨m,B,au,cu,cv,cc⟩)) HXX (LI m K fs) (Sb.hide (keeps_ls (c:=⟨m,B,au,cu,cv,cc⟩) HK.out fs)) 0 T L6 P6 w6 (newTk uu U) (soloX fs) vR6 vO6 HST 0 mn (by omega) HI0
   dsimp only at hrun
   rw [← HSR.out] at hrun
   have hstp:R.1≤mn:=by rw [HSR.out];exact go_le _ _ _
   refine hrun.mono ?_
   clear hrun
   rintro e w7 ⟨rfl,hW7,hI7⟩
   obtain ⟨L7,P7,vR7,vO7,s7,q7,k7⟩:=hW7
   have hc6:∀ b,b < w5.heap.size→L6 b=lab Q fs.length b:=fun b hb=>HE6.out.1 b hb
   have hz4:=HF4.out.below.size
   have hlow:∀ b,b < w.heap.size+2→(L6 b).cls=0:=fun b hb=>by
    have h4:=(HSZ.out _ HF4.out).2
    have h5:=(HSZ.out _ HF5.out).2
    rw [hc6 b (by omega)]
    exact HOLD.out b (by omega)
   have HF7:=Sb.hide (HF6.out.chg k7 hlow)
   have HI7:=Sb.hide hI7
   have hxl:R.2.2.length=fs.length:=by rw [hI7.len];exact HFL.out.symm
   have hol:R.2.1.out.length≤1000000:=by have:=hI7.out;omega
   have HP7:Hid (w7.ownsRow 0 74 1 (.slice la fs.length lc) fs.length (ptrs Q fs.length)):=by
    refine own_keep (own_base HPT.out (Nat.zero_le _)) (fun b hb=>?_)
    have hbl:=(HPT.out.lt b hb).2
    refine (k7.block b (by have:=HB6.out.size;omega) (fun hx=>?_)).trans (HB6.out.block b hbl)
    have h0:=HVL.out b hb
    unfold WB EB at hx
    rw [hc6 b hbl] at hx
    omega
   obtain ⟨sv,hsv⟩:=s7.en.sv
   have HSV:=Sb.hide hsv
   have S7:=Sb.hide s7
   have HAT:Hid (R.2.1.over=0→∃ f rs u i,AtOk ⟨m,B,au,cu,cv,cc⟩ R.2.1 f rs u i):=(keeps_ls (c:=⟨m,B,au,cu,cv,cc⟩) HK.out fs).at' _ _ _ hI7
   clear hI7 s7 q7 k7 hsv hc6 hlow
   go_wp2_with fail
   have hrep:=report_any Q fs.length rb 0 ⟨m,B,au,cu,cv,cc⟩ (.slice ba fs.length bc) (.func (.func 32) #[] #[]) 0 T L7 P7 w7 R.2.1 R.2.2 vR7 vO7 S7 HXX HAT hol la lc HP7 hf30 hxl R.1 sv HSV
   dsimp only at hrep
   rw [← HS.out,← HQ.out] at hrep
   refine hrep.mono ?_
   clear hrep
   rintro e w8 ⟨vO8,vS8,vT8,rfl,r1,r2,r3,hb8⟩
   have HF8:=Sb.hide (HF7.out.on hb8)
   have HRP:Hid (RpIn w8 R.2.1 R.2.2 vO8 vS8 vT8):=by
    refine ⟨own_base r1 (Nat.zero_le _),⟨sv,?_,fun i q hq=>?_⟩,?_⟩
    ·rw [hxl];exact own_base r2 (Nat.zero_le _)
    ·obtain ⟨af,cf,hA⟩:=HSV.out i q hq
     exact own_keep hA.sent (fun b hb=>hb8.block b (hA.sent.lt b hb).2)
    ·rw [hxl];exact own_base r3 (Nat.zero_le _)
   obtain ⟨oa,oc,rfl⟩:=own_slice r1
   obtain ⟨sa,sc,rfl⟩:=own_slice r2
   obtain ⟨ta',tc',rfl⟩:=own_slice r3
   have z8:=(rep_cells HF8.out.zero).1
   have zf8:=(rep_cells HF8.out.zero).2
   clear r1 r2 r3 hb8
   go_wp2
   have hX:=fillV_at (v0:=.int .i64 s) (v1:=.int .i64 q) (v2:=.int .i64 R.2.1.trap) (v3:=.slice oa R.2.1.out.length oc) (v4:=.slice sa fs.length sc) (v5:=.slice ta' fs.length tc') (v6:=.int .i64 R.1) HF8.out.zero
   have hBD:=fillV_below (v0:=.int .i64 s) (v1:=.int .i64 q) (v2:=.int .i64 R.2.1.trap) (v3:=.slice oa R.2.1.out.length oc) (v4:=.slice sa fs.length sc) (v5:=.slice ta' fs.length tc') (v6:=.int .i64 R.1) HF8.out.below (Nat.le_succ _)
   have hRP:=RpIn.fill (v0:=.int .i64 s) (v1:=.int .i64 q) (v2:=.int .i64 R.2.1.trap) (v3:=.slice oa R.2.1.out.length oc) (v4:=.slice sa fs.length sc) (v5:=.slice ta' fs.length tc') (v6:=.int .i64 R.1) HF8.out.zero HRP.out
   unfold fillV at hX hBD hRP
   obtain ⟨g0,g1,g2,g3,g4,g5,g6⟩:=hX
   generalize ((((((w8.setCell ⟨w.heap.size+1,0,none⟩ (.int .i64 s)).setCell ⟨w.heap.size+1,1,none⟩ (.int .i64 q)).setCell ⟨w.heap.size+1,2,none⟩ (.int .i64 R.2.1.trap)).setCell ⟨w.heap.size+1,3,none⟩ (.slice oa R.2.1.out.length oc)).setCell ⟨w.heap.size+1,4,none⟩ (.slice sa fs.length sc)).setCell ⟨w.heap.size+1,5,none⟩ (.slice ta' fs.length tc')).setCell ⟨w.heap.size+1,6,none⟩ (.int .i64 R.1)=W4 at *
   exact bodyPost_ret (v:=.tuple #[repV s q R.2.1.trap (.slice oa R.2.1.out.length oc) (.slice sa fs.length sc) (.slice ta' fs.length tc') R.1,.int .i64 0]) (by simp [results,Tryz.results11,go_sem,g0,g1,g2,g3,g4,g5,g6]) rfl ⟨hBD,.inr ⟨HE0.out,_,_,_,rfl,hRP,K,HK.out,by have:=HI7.out;rw [Nat.zero_add] at this;exact this⟩⟩
  ·have e5:(E != 0)=true:=by simpa using h5
   have HNZ:=Sb.hide h5
   have HEE:Hid (E=E):=rfl
   have z4:=(rep_cells HF4.out.zero).1
   have zf4:=(rep_cells HF4.out.zero).2
   clear h5
   go_wp2
   have hX:=fillV_at (v0:=.int .i64 0) (v1:=.int .i64 0) (v2:=.int .i64 0) (v3:=.slice none 0 0) (v4:=.slice none 0 0) (v5:=.slice none 0 0) (v6:=.int .i64 0) HF4.out.zero
   have hBD:=fillV_below (v0:=.int .i64 0) (v1:=.int .i64 0) (v2:=.int .i64 0) (v3:=.slice none 0 0) (v4:=.slice none 0 0) (v5:=.slice none 0 0) (v6:=.int .i64 0) HF4.out.below (Nat.le_succ _)
   unfold fillV at hX hBD
   obtain ⟨g0,g1,g2,g3,g4,g5,g6⟩:=hX
   generalize ((((((w4.setCell ⟨w.heap.size+1,0,none⟩ (.int .i64 0)).setCell ⟨w.heap.size+1,1,none⟩ (.int .i64 0)).setCell ⟨w.heap.size+1,2,none⟩ (.int .i64 0)).setCell ⟨w.heap.size+1,3,none⟩ (.slice none 0 0)).setCell ⟨w.heap.size+1,4,none⟩ (.slice none 0 0)).setCell ⟨w.heap.size+1,5,none⟩ (.slice none 0 0)).setCell ⟨w.heap.size+1,6,none⟩ (.int .i64 0)=W4 at *
   refine bodyPost_ret (v:=.tuple #[repV 0 0 0 (.slice none 0 0) (.slice none 0 0) (.slice none 0 0) 0,.int .i64 E]) (by simp [results,Tryz.results11,go_sem,g0,g1,g2,g3,g4,g5,g6]) rfl ⟨hBD,.inl ⟨?_,?_⟩⟩
   ·first | exact HNZ.out | (rw [HEE.out];exact HNZ.out) | (rw [HEE.out];decide)
   ·first | rfl | rw [HEE.out]
 ·have e0:(ve.1 != 0)=true:=by simpa using h0
  have HE1:Hid (E=ve.1):=by
   unfold Hid
   rw [hE.out,soloE,if_pos (by rw [← HVE.out];exact h0),← HVE.out]
  have HNZ:=Sb.hide h0
  have hz1:=lt_of_block HF1.out.zero
  clear h0
  have v1:(w1.alloc (.cells #[.int .i64 ve.1,.int .i64 ve.2.1,.int .i64 ve.2.2] 44)).cell? ⟨w1.heap.size,0,none⟩=some (.int .i64 ve.1):=by simp [World.cell?_alloc_mark]
  have HF2:=Sb.hide (HF1.out.on ((Below.refl _ w1).alloc (Nat.le_refl _) (.cells #[.int .i64 ve.1,.int .i64 ve.2.1,.int .i64 ve.2.2] 44)))
  have hzn:¬ w1.heap.size=w.heap.size+1:=by omega
  have hzn2:¬ w.heap.size+1=w1.heap.size:=by omega
  have z:=(rep_cells HF2.out.zero).1
  have zf:=(rep_cells HF2.out.zero).2
  go_wp2
  generalize w1.alloc (.cells #[.int .i64 ve.1,.int .i64 ve.2.1,.int .i64 ve.2.2] 44)=W2 at *
  go_region_held3 (fun w'=>w'.cell? ⟨w1.heap.size,0,none⟩=some (.int .i64 ve.1)) (go_keep) (fail)
  go_wp2
  have hX:=fillV_at (v0:=.int .i64 0) (v1:=.int .i64 0) (v2:=.int .i64 0) (v3:=.slice none 0 0) (v4:=.slice none 0 0) (v5:=.slice none 0 0) (v6:=.int .i64 0) HF2.out.zero
  have hBD:=fillV_below (v0:=.int .i64 0) (v1:=.int .i64 0) (v2:=.int .i64 0) (v3:=.slice none 0 0) (v4:=.slice none 0 0) (v5:=.slice none 0 0) (v6:=.int .i64 0) HF2.out.below (Nat.le_succ _)
  unfold fillV at hX hBD
  obtain ⟨g0,g1,g2,g3,g4,g5,g6⟩:=hX
  generalize ((((((W2.setCell ⟨w.heap.size+1,0,none⟩ (.int .i64 0)).setCell ⟨w.heap.size+1,1,none⟩ (.int .i64 0)).setCell ⟨w.heap.size+1,2,none⟩ (.int .i64 0)).setCell ⟨w.heap.size+1,3,none⟩ (.slice none 0 0)).setCell ⟨w.heap.size+1,4,none⟩ (.slice none 0 0)).setCell ⟨w.heap.size+1,5,none⟩ (.slice none 0 0)).setCell ⟨w.heap.size+1,6,none⟩ (.int .i64 0)=W4 at *
  refine bodyPost_ret (v:=.tuple #[repV 0 0 0 (.slice none 0 0) (.slice none 0 0) (.slice none 0 0) 0,.int .i64 ve.1]) (by simp [results,Tryz.results11,go_sem,g0,g1,g2,g3,g4,g5,g6]) rfl ⟨hBD.drew,.inl ⟨?_,?_⟩⟩
  ·first | exact HNZ.out | (rw [HE1.out];exact HNZ.out) | (rw [HE1.out];decide)
  ·first | rfl | rw [HE1.out]
end Go.Proofs.YthffafaoobpedabGreatDoor.Vw

/- A name is let: the map and the row of names grow. -/
import Derived.Test.YtolfleeidpeomaaGreatDoorM29
import Derived.OwnWalk
import Derived.Deep.RegionHeld3
import Derived.Deep.LoopGhost
set_option maxRecDepth 100000
set_option maxHeartbeats 1000000
namespace Go.Proofs.YtolfleeidpeomaaGreatDoor
open Go.RowKit
namespace Sm
theorem xZ {P:Program}(w:World)(base:Nat)(t ty e:TypeId)(i:TypeInfo)(z:Value)(size bytes:Nat)(ht:P.underlying t=some (.slice e))(hi:P.info? e=some i)(hz:i.zero=some z)
  (hsize:i.size=size) (hby:i.bytes=bytes) (hzs:z.cells.size=size) (hsz:0<size)
  (v:Value) (n:Nat) (xs:List Value) (hown:w.ownsRow base e size v n xs)
  (a:Addr) (m c:Nat) (news:List Value) (hl:news.length=m * size) (hnews:∀ j u,news[j]?=some u→w.cell? (a.add j)=some u) (h1:∀ u ∈ news,u.oneCell'=true)
  (h0:0<m) (h63:n+m≤maxLen) (hbytes:(n+m) * bytes≤140737488355328) (hbase:base≤w.heap.size) :
  ∃ v' w',(Builtin.append_ #[t,t] ty #[v,.slice (some a) m c]).run P w=.ok v' w'∧w'.ownsRow base e size v' (n+m) (xs++news)∧w.grownBy w' v.ownBlock ∧
   ∃ g cap,v'=.slice (some ⟨g,0,none⟩) (n+m) cap∧(v.ownBlock=some g∨g=w.heap.size):=by
 obtain ⟨v',w',hr,h2,h3,_⟩:=run_append_own (P:=P) w base t ty e i z size bytes ht hi hz hsize hby hzs hsz v n xs hown a m c news hl hnews h1 h63 hbytes hbase
 refine ⟨v',w',hr,h2,h3,?_⟩
 have hsmall:n+m≤9223372036854775807:=by simp only [maxLen] at h63;omega
 subst hsize
 subst hby
 rcases hown.2 with ⟨rfl,rfl⟩ | ⟨g,cap,cur,rfl,hbg,hg,hnc,hcm,hcs,htake⟩
 ·have hq:=run_append_nil (P:=P) w t ty e i z ht hi hz a m c news hl hnews h0 (by omega) (by have hb:=hbytes;simp only [Nat.zero_add] at hb;omega)
  rw [hr] at hq
  injection hq with e1 e2
  exact ⟨w.heap.size,_,by rw [e1,Nat.zero_add],.inr rfl⟩
 ·by_cases hroom:n+m≤cap
  ·have hfit:n * i.size+news.length≤cur.size:=by rw [hl,hcs,← Nat.add_mul];exact Nat.mul_le_mul_right _ hroom
   have hq:=run_append_room (P:=P) w t ty e i ht hi g n cap cur hg a m c news hl hnews h1 hroom hfit
   rw [hr] at hq
   injection hq with e1 e2
   exact ⟨g,cap,e1,.inl rfl⟩
  ·have hq:=run_append_grow (P:=P) w t ty e i z ht hi hz ⟨g,0,none⟩ n cap xs hown.1 (hown.cells (g:=g) rfl) a m c news hl hnews (by omega) (by omega) (growslice_fits (by omega) hbytes)
   rw [hr] at hq
   injection hq with e1 e2
   exact ⟨w.heap.size,_,e1,.inr rfl⟩
theorem sD {P:Program}{w:World}{ops:Array Oper}{rest:List Oper}{o:Oper}{a:Act}{Q:Exit→Act→World→Prop}(hgd:o.guard=none)(s x:Operand)(t:TypeId)
  (ho:o.op=.call { callee:=.builtin .append,args:=#[s,x],argTypes:=#[t,t] })
  (base:Nat) (e:TypeId) (i:TypeInfo) (z:Value) (size bytes:Nat) (ht:P.underlying t=some (.slice e)) (hi:P.info? e=some i) (hz:i.zero=some z)
  (hsize:i.size=size) (hby:i.bytes=bytes) (hzs:z.cells.size=size) (hsz:0<size)
  (v:Value) (n:Nat) (xs:List Value) (hs:a.eval s=v) (hown:w.ownsRow base e size v n xs)
  (ad:Addr) (m c:Nat) (news:List Value) (hx:a.eval x=.slice (some ad) m c) (hl:news.length=m * size) (hnews:∀ j u,news[j]?=some u→w.cell? (ad.add j)=some u) (h1:∀ u ∈ news,u.oneCell'=true)
  (h0:0<m) (h63:n+m≤maxLen) (hbytes:(n+m) * bytes≤140737488355328) (hbase:base≤w.heap.size)
  (h:∀ g cap w',w'.ownsRow base e size (.slice (some ⟨g,0,none⟩) (n+m) cap) (n+m) (xs++news)→w.grownBy w' v.ownBlock→(v.ownBlock=some g∨g=w.heap.size)→wpList P ops Q rest (a.put o.dst (.slice (some ⟨g,0,none⟩) (n+m) cap)) w'):wpList P ops Q (o :: rest) a w:=by
 refine wpList_plain hgd fun K hK=>?_
 obtain ⟨v',w',hr,h2,h3,g,cap,rfl,h4⟩:=xZ (P:=P) w base t o.type e i z size bytes ht hi hz hsize hby hzs hsz v n xs hown ad m c news hl hnews h1 h0 h63 hbytes hbase
 unfold Oper.wp
 simp [execOp,ho,resolve,invoke,builtin,hs,hx,hr,Result.andThen]
 exact hK _ _ (h g cap w' h2 h3 h4)
theorem Tryz.aaS:(Tryz.prog.info? 9).map (fun i=>(i.zero,i.size,i.bytes))=some (some (.string ⟨#[]⟩),1,16):=by kernel_rfl
theorem info_parts {P:Program}{e:TypeId}{z:Value}{s b:Nat}(h:(P.info? e).map (fun i=>(i.zero,i.size,i.bytes))=some (some z,s,b)):∃ i,P.info? e=some i∧i.zero=some z∧i.size=s∧i.bytes=b:=by
 cases hi:P.info? e with
 | none=>rw [hi] at h;cases h
 | some i =>
  rw [hi] at h
  simp only [Option.map_some,Option.some.injEq,Prod.mk.injEq] at h
  exact ⟨i,rfl,h.1,h.2.1,h.2.2⟩
theorem Ba (W:World)(u:Value)(t:TypeId):∀ j u',[u][j]?=some u'→(W.alloc (.cells #[u] t)).cell? ((⟨W.heap.size,0,none⟩:Addr).add j)=some u'
 | 0,u',h=>by simp at h;subst h;simp [Addr.add]
 | j+1,u',h=>by simp at h
theorem FO (x:ByteArray):∀ u ∈ [Value.string x],u.oneCell'=true:=by intro u hu;simp at hu;subst hu;rfl
theorem uL {K:BK}{o s r c o' s' r' c':Value}(h:K.obj o s r c=K.obj o' s' r' c'):o=o'∧s=s'∧r=r'∧c=c':=by
 simp only [BK.obj,nZ,Obj.cells.injEq,Array.mk.injEq,List.cons.injEq] at h
 obtain ⟨⟨-,-,-,-,h1,h2,h3,h4,-⟩,-⟩:=h
 exact ⟨h1,h2,h3,h4⟩
theorem Qw {K:BK}{w:World}{o s r c:Value}(h:w.heap[K.F]?=some (K.obj o s r c))(v:Value):(w.setCell ⟨K.F,4,none⟩ v).heap[K.F]?=some (K.obj v s r c):=by
 simp only [World.setCell,Array.getElem?_modify,if_true,h,Option.map_some]
 rfl
theorem In.block {w:World}{M:Nat}{l:Ms.Row}(h:Ms.In w M l):∃ es cl,w.heap[M]?=some (.map es cl):=by
 obtain ⟨es,cl,h1,_⟩:=h
 exact ⟨es,cl,h1⟩
theorem In.far {w:World}{M k:Nat}{l:Ms.Row}{cs:Array Value}{t:TypeId}{fr:Nat × Nat}(h:Ms.In w M l)(hk:w.heap[k]?=some (.cells cs t fr)):k≠M:=fun e=>by
 obtain ⟨es,cl,h1⟩:=In.block h
 rw [e,h1] at hk
 cases hk
theorem aaT {K:BK}{v:Vars}{t:Tk}{name:ByteArray}{ty:Sy.Ty}{w w2 w4:World}{ob o2:Obj}{ord sn rc cl:Value}{g cap:Nat}(h:BW K w v t)(h4:lY K w v t ord sn rc cl)(hl:Sm.look v name=none)
  (hg2:(w.alloc ob).drew.grownBy w2 (some K.T)) (hT:Ms.In w2 K.T (kE v++[(name,aQ ty)])) (hg4:(w2.alloc o2).grownBy w4 ord.ownBlock)
  (hown:w4.ownsRow K.B 9 1 (.slice (some ⟨g,0,none⟩) (v.length+1) cap) (v.length+1) (strs v++[.string name])) (hw:ord.ownBlock=some g∨g=(w2.alloc o2).heap.size) :
  BW K (w4.setCell ⟨K.F,4,none⟩ (.slice (some ⟨g,0,none⟩) (v.length+1) cap)) (v++[(name,ty)]) t∧af K w (w4.setCell ⟨K.F,4,none⟩ (.slice (some ⟨g,0,none⟩) (v.length+1) cap)):=by
 obtain ⟨nv,qm⟩:∃ nv,nv=Value.slice (some ⟨g,0,none⟩) (v.length+1) cap:=⟨_,rfl⟩
 have hno:nv.ownBlock=some g:=by rw [qm];rfl
 rw [← qm] at hown ⊢
 have hz2:w.heap.size+1≤w2.heap.size:=by simpa [World.drew] using hg2.size
 have qG:w2.heap.size+1≤w4.heap.size:=by simpa using hg4.size
 have qo:=In.far h.vars h4.blk
 have Jj:ord.ownBlock≠some K.F:=fun e=>by
  obtain ⟨_,_,cur,hc⟩:=bq h4.jJ _ e
  rw [h4.blk] at hc
  cases hc
 have blk:∀ k,k<w.heap.size→k≠K.T→ord.ownBlock≠some k→w4.heap[k]?=w.heap[k]?:=fun k hk h1 h2 =>
  ((hg4.block k (by simp;omega) (fun e=>h2 e.symm)).trans (Below.heap_alloc _ _ _ (by omega))).trans ((hg2.block k (by show k<(w.alloc ob).heap.size;simp;omega) (fun e=>h1 (by simpa using e))).trans (Below.heap_alloc _ _ _ hk))
 have eT:w4.heap[K.F]?=some (K.obj ord sn rc cl):=(blk _ h4.lt qo Jj).trans h4.blk
 have gL:=Qw eT nv
 have set:∀ k,k≠K.F→(w4.setCell ⟨K.F,4,none⟩ nv).heap[k]?=w4.heap[k]?:=fun k hk=>Below.heap_setCell w4 ⟨K.F,4,none⟩ nv k hk
 have all:∀ k,k<w.heap.size→k≠K.F→k≠K.T→ord.ownBlock≠some k→(w4.setCell ⟨K.F,4,none⟩ nv).heap[k]?=w.heap[k]?:=fun k hk h1 h2 h3=>(set k h1).trans (blk k hk h2 h3)
 have ints:∀ {x:Value} {n:Nat} {xs:List Value},w.ownsRow K.B 3 1 x n xs→(w4.setCell ⟨K.F,4,none⟩ nv).ownsRow K.B 3 1 x n xs:=fun {x n xs} ho=>fF ho fun k hk=>by
  obtain ⟨_,hlt,cur,hc⟩:=bq ho k hk
  refine all k hlt (fun e=>?_) (In.far h.vars hc) (fun e=>?_)
  ·rw [e,h4.blk] at hc
   cases hc
  ·obtain ⟨_,_,cur',hc'⟩:=bq h4.jJ k e
   rw [hc'] at hc
   cases hc
 have kT:∀ {M:Nat} {R:Ms.Row},Ms.In w M R→M≠K.F∧ord.ownBlock≠some M:=fun {M R} hm=>⟨fun e=>(In.far hm h4.blk) e.symm,fun e=>by
  obtain ⟨_,_,cur',hc'⟩:=bq h4.jJ _ e
  exact (In.far hm hc') rfl⟩
 refine ⟨⟨?_,h.base,?_,h.nums,⟨nv,sn,rc,cl,gL,?_,ints h4.lZ,ints h4.lD,ints h4.kS,h4.far⟩,?_,?_⟩,⟨hg4.os.trans hg2.os,hg4.tape.trans hg2.tape,hg4.output.trans hg2.output,?_,fun k hk hf=>?_⟩⟩
 ·refine h.ja.same fun b o hb=>World.cell?_of_block (a:=⟨b,o,none⟩) ?_
  have hbase:=h.base
  have:=h4.lt
  exact all b (by omega) (by omega) (by omega) (fun e=>by have:=(bq h4.jJ b e).1;omega)
 ·exact h.mp.keep (all _ h.mp.lt (kT h.mp).1 h.base.2.2.2 (kT h.mp).2)
 ·have e1:(v++[(name,ty)]).length=v.length+1:=by simp
  have e2:strs (v++[(name,ty)])=strs v++[.string name]:=by simp
  rw [e1,e2]
  exact fF hown fun k hk=>set k (fun e=>by
   obtain ⟨_,_,cur',hc'⟩:=bq hown k hk
   rw [e,eT] at hc'
   cases hc')
 ·have e1:kE (v++[(name,ty)])=kE v++[(name,aQ ty)]:=by simp
  rw [e1]
  refine hT.keep ((set _ (fun e=>qo e.symm)).trans ((hg4.block _ (by have:=hT.lt;simp;omega) (fun e=>(kT h.vars).2 e.symm)).trans (Below.heap_alloc _ _ _ hT.lt)))
 ·rw [List.map_append,List.nodup_append]
  refine ⟨h.once,by simp,fun a ha b hb=>?_⟩
  simp at hb
  subst hb
  intro e
  subst e
  obtain ⟨p,hp,wU⟩:=List.mem_map.1 ha
  have:(v.find? (fun p=>decide (p.1=a)))=none:=by
   unfold Sm.look at hl
   cases hf:v.find? (fun p=>decide (p.1=a)) with
   | none=>rfl
   | some x=>rw [hf] at hl;cases hl
  rw [List.find?_eq_none] at this
  exact this p hp (by simp [wU])
 ·simp [World.setCell];omega
 ·obtain ⟨f1,f2,f3⟩:=hf
  obtain ⟨f4,f5,f6,f7⟩:=f3 _ _ _ _ h4.blk
  refine ⟨all k hk f1 f2 f4,f1,f2,fun o s r c ho=>?_⟩
  rw [gL] at ho
  obtain ⟨rfl,rfl,rfl,rfl⟩:=uL (Option.some.inj ho)
  refine ⟨?_,f5,f6,f7⟩
  rw [hno]
  intro e
  cases e
  rcases hw with hw | hw
  ·exact f4 hw
  ·simp at hw;omega
theorem Qx (K:BK)(v:Vars)(t:Tk)(name:ByteArray)(ty:Sy.Ty)(w:World)(h:Hid (BW K w v t))(hl:Hid (Sm.look v name=none))(hn:v.length≤100000) :
  Calls Tryz.prog 78 #[.pointer (some ⟨K.F,3,none⟩),.string name,aQ ty] w fun e w'=>e=.returned (.tuple #[])∧BW K w' (v++[(name,ty)]) t∧af K w w':=by
 obtain ⟨ord,sn,rc,cl,h4⟩:=h.out.rows
 have hF:=h4.lt
 have hBw:K.B≤w.heap.size:=by have:=h.out.base;omega
 obtain ⟨tk,tg⟩:=ty
 obtain ⟨w2,hup,hT,hg2⟩:=Ms.Jg Tryz.underlying106 Tryz.underlying9 (w:=(w.alloc (.cells #[.int .i64 tk,.string tg] 46)).drew) (k:=name) (v:=aQ ⟨tk,tg⟩) (h.out.vars.grow (w':=(w.alloc (.cells #[.int .i64 tk,.string tg] 46)).drew) (by have:=bn (w:=w) (.cells #[.int .i64 tk,.string tg] 46);exact ⟨this.os,this.tape,this.output,this.size,this.block⟩)) (by rw [D9,hl.out];rfl)
 obtain ⟨i0,hi,hz0,hz1,hz2⟩:=info_parts Tryz.aaS
 have hz2':w.heap.size+1≤w2.heap.size:=by simpa [World.drew] using hg2.size
 have qo:K.F≠K.T:=In.far h.out.vars h4.blk
 have Jk:(w.alloc (.cells #[.int .i64 tk,.string tg] 46)).heap[K.F]?=some (K.obj ord sn rc cl):=(Below.heap_alloc _ _ _ hF).trans h4.blk
 have hF2:w2.heap[K.F]?=some (K.obj ord sn rc cl):=(hg2.block _ (by show K.F<(w.alloc _).heap.size;simp;omega) (by simpa using qo)).trans Jk
 obtain ⟨_,_,_,c3,_⟩:=fE Jk
 obtain ⟨_,_,_,_,d4,_⟩:=fE hF2
 have ho2:Hid (w2.ownsRow K.B 9 1 ord v.length (strs v)):=fF h4.jJ fun k hk=>by
  obtain ⟨_,hlt,cur,hc⟩:=bq h4.jJ k hk
  exact (hg2.block k (by show k<(w.alloc _).heap.size;simp;omega) (by simpa using In.far h.out.vars hc)).trans (Below.heap_alloc _ _ _ hlt)
 have Jj:Hid (ord.ownBlock≠some K.F):=fun e=>by
  obtain ⟨_,_,cur,hc⟩:=bq h4.jJ _ e
  rw [h4.blk] at hc
  cases hc
 have H4:Hid (lY K w v t ord sn rc cl):=h4
 have HT:Hid (Ms.In w2 K.T (kE v++[(name,aQ ⟨tk,tg⟩)])):=hT
 have HG2:Hid ((w.alloc (.cells #[.int .i64 tk,.string tg] 46)).drew.grownBy w2 (some K.T)):=hg2
 have bW:Hid (w2.heap[K.F]?=some (K.obj ord sn rc cl)):=hF2
 obtain ⟨oa,oc,sO⟩:=il h4.jJ
 subst sO
 clear hT hg2 qo Jk hF2 h4
 go_enter Tryz.func78,Tryz.ntmps78
 go_wp2
 go_region
 all_goals
  go_wp2_with (at_builtin;refine sD rfl _ _ 40 rfl K.B 9 i0 _ 1 16 Tryz.underlying40 hi hz0 hz1 hz2 rfl (by decide) _ v.length (strs v) rfl (ho2.out.alloc _) ⟨w2.heap.size,0,none⟩ 1 1 [.string name] rfl rfl (Ba _ _ _) (FO _) (by decide) (by unfold maxLen;omega) (by omega) (by simp;omega) ?_;intro g cap w4 hq4 hg4 hw4;have HE:Hid _:=aaT h.out H4.out hl.out HG2.out HT.out hg4 hq4 hw4;have hb4:w4.heap[K.F]?=some (K.obj _ sn rc cl):=((hg4.block K.F (by simp;omega) (fun e=>Jj.out e.symm)).trans (Below.heap_alloc _ _ _ (by omega))).trans bW.out;have b4:=(fE hb4).2.2.2.2.1;have y4:=(ql hb4).1;clear hq4 hg4 hb4 hw4)
  go_wp2
  go_end0
  exact ⟨rfl,HE.out⟩
end Sm
namespace Sm
theorem tk {P:Program}{ops:Array Oper}{Q:Exit→Act→World→Prop}{md:Region.Mode}{S:World→Prop}(i:Nat){oi:Oper}{v:Value}{fuel:Nat}{listed:Array Bool}{a:Act}{w:World}(hi:ops[i]?=some oi)
  (h1:∀ w,S w→(execOp a.eval oi).run P w=.ok (.value v) w) (hS:S w) (h:wpAnyH P md ops Q S fuel (listed.setIfInBounds i true) (a.put oi.dst v) w)
  (hs:Region.noSelect ops=true:=by kernel_rfl) (hf:Region.free md ops listed i=true:=by kernel_rfl) (hr:(Region.ready md ops listed).contains i=true:=by kernel_rfl)
  (hw:Region.wanted oi (yielded ops a.tmps)=true:=by rfl) (hQ:∀ c a w,Q (.panic c) (a.put oi.dst v) w→Q (.panic c) a w:=by exact fun _ _ _ h=>h):wpAnyH P md ops Q S (fuel+1) listed a w :=
 wpAnyH_take hi hs hf hr hQ (.inl ⟨hw,h1⟩) hS h
def Bf (K:BK)(w:World)(v:Vars)(r:Except Int (Value × Vars × Tk))(e:Ending)(w':World):Prop :=
 af K w w'∧match r with
 | .ok x=>e=.returned x.1∧BW K w' x.2.1 x.2.2
 | .error er=>e=.panicked [aH er K.num]∧∃ v' t',BW K w' v' t'∧v <+: v'
theorem aaU {w w':World}(h:w.grownBy w' none)(n:Nat):w.grownBy (w'.drewN n) none:=⟨h.os,h.tape,h.output,h.size,h.block⟩
theorem BW.drewN {K:BK}{w:World}{v:Vars}{t:Tk}(h:BW K w v t)(n:Nat):BW K (w.drewN n) v t:=h.grown (aaU (World.grownBy.refl _ _) n)
theorem af.drewN {K:BK}{w w':World}(h:af K w w')(n:Nat):af K w (w'.drewN n):=⟨h.os,h.tape,h.output,h.size,h.block⟩
theorem af.Qy {K:BK}{w w':World}{n:Nat}(h:af K (w.drewN n) w'):af K w w':=⟨h.os,h.tape,h.output,h.size,h.block⟩
theorem BW.free {K:BK}{w W:World}{v:Vars}{t:Tk}(h:BW K w v t)(hg:w.grownBy W none){k:Nat}(hk:w.heap.size≤k):bA K W k:=by
 obtain ⟨o,s,r,c,h4⟩:=h.rows
 have hF:=h4.lt
 have hT:=h.vars.lt
 refine ⟨by omega,by omega,fun o' s' r' c' hb=>?_⟩
 rw [hg.block _ hF (by simp),h4.blk] at hb
 obtain ⟨rfl,rfl,rfl,rfl⟩:=uL (Option.some.inj hb)
 exact ⟨fun e=>by have:=(bq h4.jJ k e).2.1;omega,fun e=>by have:=(bq h4.lZ k e).2.1;omega,fun e=>by have:=(bq h4.lD k e).2.1;omega,fun e=>by have:=(bq h4.kS k e).2.1;omega⟩
theorem Bf.bad {K:BK}{w w':World}{v:Vars}{t:Tk}{r:Except Int (Value × Vars × Tk)}{er:Int}(h:BW K w v t)(hg:w.grownBy w' none)(hr:r=.error er):Bf K w v r (.panicked [aH er K.num]) w':=by
 rw [hr]
 exact ⟨af.grown hg h.lt,rfl,v,t,h.grown hg,List.prefix_refl _⟩
theorem Bf.good {K:BK}{w w':World}{v:Vars}{t:Tk}{r:Except Int (Value × Vars × Tk)}{x:Value}(h:BW K w v t)(hg:w.grownBy w' none)(hr:r=.ok (x,v,t)):Bf K w v r (.returned x) w':=by
 rw [hr]
 exact ⟨af.grown hg h.lt,rfl,h.grown hg⟩
theorem aaV (K:BK)(v:Vars)(t:Tk)(name:ByteArray)(ty:Sy.Ty)(w:World)(r:Except Int (Value × Vars × Tk))(h:Hid (BW K w v t))(hn:v.length≤100000)(hr:Hid (r=if (Sm.look v name).isSome=true then .error 7 else .ok (.tuple #[],v++[(name,ty)],t))) :
  Calls Tryz.prog 132 #[.pointer (some ⟨K.F,0,none⟩),.string name,aQ ty] w fun e w'=>Bf K w v r e w':=by
 obtain ⟨o,s,rr,cc,h4⟩:=h.out.rows
 have hF:=h4.lt
 obtain ⟨tk,tg⟩:=ty
 have hz:∀ w',(zeroValue 46).run Tryz.prog w'=.ok (aQ ⟨0,⟨#[]⟩⟩) w':=fun w'=>by kernel_rfl
 obtain ⟨W,hW⟩:∃ W,W=w.alloc (.cells #[.int .i64 tk,.string tg] 46):=⟨_,rfl⟩
 have mF:w.grownBy W none:=by rw [hW];exact bn _
 have hWs:W.heap.size=w.heap.size+1:=by rw [hW];simp
 have hL:=(Ms.wS Tryz.underlying106 Tryz.underlying9 (k:=name) (h.out.vars.grow mF) (hz W)).2
 rw [D9] at hL
 obtain ⟨c0,c1,c2,c3,_⟩:=fE ((mF.block _ hF (by simp)).trans h4.blk)
 cases hk:Sm.look v name with
 | some y =>
  have HR:Hid (r=.error 7):=by unfold Hid;rw [hr.out,hk];rfl
  rw [hk] at hL
  simp only [Option.map_some,Option.getD_some,Option.isSome_some] at hL
  have k:∀ o:Nat,(W.alloc (.cells #[.int .i64 y.kind,.string y.gen] 46)).cell? ⟨K.F,o,none⟩=W.cell? ⟨K.F,o,none⟩:=fun o=>World.cell?_of_block (Below.heap_alloc _ _ _ (by dsimp;omega))
  have d0:=(k 0).trans c0
  have d1:=(k 1).trans c1
  have d2:=(k 2).trans c2
  subst hW
  clear hr hk hz h4 k mF hWs
  go_enter Tryz.func132,Tryz.ntmps132
  go_wp2_with fail
  refine (jy K.l.length K.a K.c K.M K.num 7 _).mono ?_
  rintro e w1 ⟨rfl,hg⟩
  have HE:Hid (Bf K w v r (.panicked [aH 7 K.num]) w1):=Bf.bad h.out (aB (bu _ _) hg) HR.out
  clear hg
  go_wp2
  exact ⟨rfl,HE.out⟩
 | none =>
  have HR:Hid (r=.ok (.tuple #[],v++[(name,⟨tk,tg⟩)],t)):=by unfold Hid;rw [hr.out,hk];rfl
  have HL:Hid (Sm.look v name=none):=hk
  rw [hk] at hL
  simp only [Option.map_none,Option.getD_none,Option.isSome_none] at hL
  obtain ⟨W2,hW2⟩:∃ W2,W2=W.alloc (.cells #[.int .i64 0,.string ⟨#[]⟩] 46):=⟨_,rfl⟩
  have hg2:w.grownBy W2 none:=by rw [hW2];exact aB mF (bn _)
  have HB2:Hid (BW K W2 v t):=h.out.grown hg2
  have bD:Hid (af K w W2):=af.grown hg2 hF
  have hbl:W2.heap[w.heap.size]?=some (.cells #[.int .i64 tk,.string tg] 46 (0,0)):=by rw [hW2,hW];exact (Below.heap_alloc _ _ _ (by simp)).trans (heap_alloc_new w _)
  obtain ⟨b0,b1,_,_⟩:=bE hbl
  have iK:Hid (bA K W2 w.heap.size):=h.out.free hg2 (Nat.le_refl _)
  have hs2:w.heap.size<W2.heap.size:=lt_of_block hbl
  have HBl:Hid (W2.heap[w.heap.size]?=some (.cells #[.int .i64 tk,.string tg] 46 (0,0))):=hbl
  subst hW
  have HW2:Hid (W2=_):=hW2
  clear hr hk hz h4 mF hWs hg2 hW2 hbl
  go_enter Tryz.func132,Tryz.ntmps132
  go_wp2_with fail
  rw [← HW2.out]
  clear hL c0 c1 c2 c3
  go_region_held3 (fun w'=>w'.cell? ⟨w.heap.size,0,none⟩=some (.int .i64 tk)∧w'.cell? ⟨w.heap.size,1,none⟩=some (.string tg)) (go_keep) ((go_at_call 78;refine (Qx K v t name ⟨tk,tg⟩ _ (by exact HB2.out.drewN _) HL hn).mono ?_;rintro e w3 ⟨rfl,hb3,hk3⟩;have HE:Hid (Bf K w v r (.returned (.tuple #[])) w3):=(by rw [HR.out];exact ⟨bD.out.trans hk3.Qy,rfl,hb3⟩);obtain ⟨e0,e1,_,_⟩:=bE (((hk3.Qy.block _ hs2 iK.out).1).trans HBl.out);clear hb3 hk3))
  go_wp2
  go_end0
  exact HE.out
end Sm
namespace Sm
theorem Jl {W w3:World}{k:Nat}{v0 v1:Value}{t:TypeId}(hb:W.heap[k]?=some (.cells #[v0,v1] t (0,0)))(hg:W.grownBy w3 none):w3.heap[k]?=some (.cells #[v0,v1] t (0,0)):=(hg.block _ (lt_of_block hb) (by simp)).trans hb
theorem Qz (K:BK)(v:Vars)(t:Tk)(a b:Sy.Ty)(w:World)(r:Except Int Value)(h:Hid (BW K w v t))(hr:Hid (r=match Sm.plain a with | .error e=>.error e | .ok _=>if Sm.same a b=true then .ok (.tuple #[]) else .error 9)) :
  Calls Tryz.prog 146 #[.pointer (some ⟨K.F,0,none⟩),aQ a,aQ b] w fun e w'=>Fe K.num r w e w':=by
 obtain ⟨o,s,rr,cc,h4⟩:=h.out.rows
 have hF:=h4.lt
 obtain ⟨ak,ag⟩:=a
 obtain ⟨bk,bg⟩:=b
 obtain ⟨W,hW⟩:∃ W,W=(w.alloc (.cells #[.int .i64 ak,.string ag] 46)).alloc (.cells #[.int .i64 bk,.string bg] 46):=⟨_,rfl⟩
 have mF:w.grownBy W none:=by rw [hW];exact bu _ _
 have ha:W.heap[w.heap.size]?=some (.cells #[.int .i64 ak,.string ag] 46 (0,0)):=by rw [hW];exact (Below.heap_alloc _ _ _ (by simp)).trans (heap_alloc_new w _)
 have hb:W.heap[w.heap.size+1]?=some (.cells #[.int .i64 bk,.string bg] 46 (0,0)):=by rw [hW];have:=heap_alloc_new (w.alloc (.cells #[.int .i64 ak,.string ag] 46)) (.cells #[.int .i64 bk,.string bg] 46);simpa using this
 have hf:W.heap[K.F]?=some (K.obj o s rr cc):=(mF.block _ hF (by simp)).trans h4.blk
 obtain ⟨c0,c1,c2,_⟩:=fE hf
 obtain ⟨a0,a1,_,_⟩:=bE ha
 have HA:Hid (W.heap[w.heap.size]?=some (.cells #[.int .i64 ak,.string ag] 46 (0,0))):=ha
 have HB:Hid (W.heap[w.heap.size+1]?=some (.cells #[.int .i64 bk,.string bg] 46 (0,0))):=hb
 have HF:Hid (W.heap[K.F]?=some (K.obj o s rr cc)):=hf
 have HG:Hid (w.grownBy W none):=mF
 have HW:Hid (W=_):=hW
 have Ea:K.F<W.heap.size:=lt_of_block hf
 clear ha hb hf mF h4 hW
 have HS:Hid (∀ w3,W.grownBy w3 none→(w3.cell? ⟨K.F,0,none⟩=some (.slice K.a K.l.length K.c)∧w3.cell? ⟨K.F,1,none⟩=some (.map (some K.M))∧w3.cell? ⟨K.F,2,none⟩=some (.int .i64 K.num)∧w3.cell? ⟨w.heap.size,0,none⟩=some (.int .i64 ak)∧w3.cell? ⟨w.heap.size,1,none⟩=some (.string ag))):=fun w3 hg=>by
  obtain ⟨e0,e1,_,_⟩:=bE (Jl HA.out hg)
  obtain ⟨f0,f1,f2,_⟩:=fE ((hg.block _ Ea (by simp)).trans HF.out)
  exact ⟨f0,f1,f2,e0,e1⟩
 obtain ⟨pr,hpr⟩:∃ pr,pr=(match Sm.plain ⟨ak,ag⟩ with | .ok _=>.ok (.tuple #[]) | .error e=>.error e:Except Int Value):=⟨_,rfl⟩
 have HP:Hid (pr=match Sm.plain ⟨ak,ag⟩ with | .ok _=>.ok (.tuple #[]) | .error e=>.error e):=hpr
 obtain ⟨sb,hsb⟩:∃ sb,sb=Sm.same ⟨ak,ag⟩ ⟨bk,bg⟩:=⟨_,rfl⟩
 have Jm:Hid (sb=Sm.same ⟨ak,ag⟩ ⟨bk,bg⟩):=hsb
 have HR:Hid (r=andThen pr (fun _=>if sb=true then .ok (.tuple #[]) else .error 9)):=by
  unfold Hid
  rw [hr.out,hpr,hsb]
  cases Sm.plain ⟨ak,ag⟩ <;> rfl
 clear hr hpr hsb
 go_enter Tryz.func146,Tryz.ntmps146
 go_wp2_with fail
 rw [← HW.out]
 refine wp_region_held_drew (S:=fun w'=>w'.cell? ⟨K.F,0,none⟩=some (.slice K.a K.l.length K.c)∧w'.cell? ⟨K.F,1,none⟩=some (.map (some K.M))∧w'.cell? ⟨K.F,2,none⟩=some (.int .i64 K.num)∧w'.cell? ⟨w.heap.size,0,none⟩=some (.int .i64 ak)∧w'.cell? ⟨w.heap.size,1,none⟩=some (.string ag)) (by kernel_rfl) ⟨c0,c1,c2,a0,a1⟩ (fun hHeld=>?_)
 refine tk 0 (v:=?_) rfl ?_ (by assumption) ?_
 rotate_left
 ·intro w hSw
  (try dsimp only at hSw)
  go_simp
  (try with_reducible rfl)
 (try go_frame)
 refine tk 1 (v:=?_) rfl ?_ (by assumption) ?_
 rotate_left
 ·intro w hSw
  (try dsimp only at hSw)
  go_simp
  (try with_reducible rfl)
 (try go_frame)
 refine tk 2 (v:=?_) rfl ?_ (by assumption) ?_
 rotate_left
 ·intro w hSw
  (try dsimp only at hSw)
  go_simp
  (try with_reducible rfl)
 (try go_frame)
 refine tk 3 (v:=?_) rfl ?_ (by assumption) ?_
 rotate_left
 ·intro w hSw
  (try dsimp only at hSw)
  go_simp
  (try with_reducible rfl)
 (try go_frame)
 refine tk 4 (v:=?_) rfl ?_ (by assumption) ?_
 rotate_left
 ·intro w hSw
  (try dsimp only at hSw)
  go_simp
  (try with_reducible rfl)
 (try go_frame)
 refine wpAnyH_ready (rs:=[5]) (by kernel_rfl) (by simp) ?_
 refine AllReadyH.cons (o:=_) rfl (fun K' hK=>?_) AllReadyH.nil
 go_simp
 refine (yK K.l.length K.a K.c K.M K.num ⟨ak,ag⟩ _ pr HP).mono ?_
 rintro e w3 ⟨hg3',fG⟩
 have aK:Hid (W.grownBy w3 none):=⟨hg3'.os,hg3'.tape,hg3'.output,hg3'.size,hg3'.block⟩
 cases pr with
 | error er =>
  subst fG
  clear hK hg3'
  go_wp2
  exact ⟨rfl,aB HG.out aK.out,by rw [HR.out];rfl⟩
 | ok x =>
  have hx:x=.tuple #[]:=by
   have:=HP.out
   cases hq:Sm.plain ⟨ak,ag⟩ with
   | ok u=>rw [hq] at this;cases this;rfl
   | error u=>rw [hq] at this;cases this
  subst hx
  subst fG
  obtain ⟨e0,e1,_,_⟩:=bE (Jl HA.out aK.out)
  obtain ⟨e2,e3,_,_⟩:=bE (Jl HB.out aK.out)
  refine hK.out _ _ (HS.out w3 aK.out) (fun hHeld=>?_)
  clear hK hg3' c0 c1 c2 a0 a1
  refine wpAnyH_done (by kernel_rfl) ?_ _
  go_wp2_with fail
  refine (Qs ⟨ak,ag⟩ ⟨bk,bg⟩ _ sb Jm).mono ?_
  rintro e w4 ⟨rfl,hg4⟩
  have aX:Hid (W.grownBy w4 none):=aB aK.out hg4
  obtain ⟨f0,f1,f2,_⟩:=fE ((aX.out.block _ Ea (by simp)).trans HF.out)
  clear hg4 e0 e1 e2 e3
  cases sb with
  | true =>
   go_wp2
   go_end0
   exact ⟨aB HG.out aX.out,by rw [HR.out];rfl⟩
  | false =>
   go_wp2_with fail
   refine (jy K.l.length K.a K.c K.M K.num 9 _).mono ?_
   rintro e w5 ⟨rfl,hg5⟩
   have HE:Hid (Fe K.num r w (.panicked [aH 9 K.num]) w5):=(by rw [HR.out];exact ⟨aB HG.out (aB aX.out hg5),rfl⟩)
   clear hg5
   go_wp2
   exact ⟨rfl,HE.out⟩
end Sm
namespace Sm
abbrev pO (F:Nat):Obj:=.cells #[.pointer (some ⟨F,3,none⟩)] 158 (0,0)
abbrev nO (n:Nat):Obj:=.cells #[.int .i64 (n:Int)] 3 (0,0)
theorem aaX (K:BK)(v:Vars)(t:Tk)(w:World)(h:Hid (BW K w v t)) :
  Calls Tryz.prog 108 #[.pointer (some ⟨K.F,3,none⟩)] w fun e w'=>e=.returned (.func (.func 131) #[] #[.pointer (some ⟨w.heap.size,0,none⟩),.pointer (some ⟨w.heap.size+1,0,none⟩)])∧w'=(w.alloc (pO K.F)).alloc (nO v.length):=by
 obtain ⟨o,s,rr,cc,h4⟩:=h.out.rows
 have hF:=h4.lt
 obtain ⟨oa,oc,sO⟩:=il h4.jJ
 subst sO
 obtain ⟨c0,c1,c2,c3,c4,_⟩:=fE ((Below.heap_alloc w (pO K.F) _ hF).trans h4.blk)
 clear h4
 go_enter Tryz.func108,Tryz.ntmps108
 go_wp2
 go_ret
 exact ⟨rfl,rfl⟩
structure Jn (K:BK) (v:Vars) (n:Nat) (w:World) (j:Nat) (wr:World):Prop where
 le:n+j≤v.length
 map:Ms.In wr K.T (kE (v.take n++v.drop (n+j)))
 grown:w.grownBy wr (some K.T)
theorem aaY {v:Vars}{n j:Nat}{p:ByteArray × Sy.Ty}(ho:(v.map (·.1)).Nodup)(hp:v[n+j]?=some p):Ms.at' (kE (v.take n++v.drop (n+j))) p.1 0=some (n,aQ p.2)∧(kE (v.take n++v.drop (n+j))).eraseIdx n=kE (v.take n++v.drop (n+(j+1))):=by
 have hlt:=(List.getElem?_eq_some_iff.1 hp).1
 have hd:v.drop (n+j)=p :: v.drop (n+(j+1)):=by
  have:=List.drop_eq_getElem_cons hlt
  rw [this,(List.getElem?_eq_some_iff.1 hp).2]
  rfl
 have hl:(kE (v.take n)).length=n:=by simp;omega
 have hne:∀ q ∈ kE (v.take n),q.1≠p.1:=by
  intro q hq e
  obtain ⟨x,hx,rfl⟩:=List.mem_map.1 hq
  obtain ⟨i,hi,hxi⟩:=List.getElem_of_mem hx
  have hi':i<n:=by simp at hi;omega
  have h1:(v.map (·.1))[i]?=some p.1:=by
   rw [List.getElem?_map]
   have:v[i]?=some x:=by
    rw [← hxi]
    simp [List.getElem_take]
   rw [this]
   simpa using e
  have h2:(v.map (·.1))[n+j]?=some p.1:=by rw [List.getElem?_map,hp];rfl
  have:=(List.getElem?_inj (by simp;omega) ho).1 (h1.trans h2.symm)
  omega
 have hv:kE (v.take n++v.drop (n+j))=kE (v.take n)++(p.1,aQ p.2) :: kE (v.drop (n+(j+1))):=by rw [hd];simp
 rw [hv]
 refine ⟨by rw [Ms.Qq hne,hl,Nat.zero_add],?_⟩
 rw [List.eraseIdx_append_of_length_le (by omega),hl,Nat.sub_self]
 simp
theorem Jo {K:BK}{v:Vars}{t:Tk}{n:Nat}{w wr:World}{ord nv sn rc cl:Value}(h:BW K w v t)(h4:lY K w v t ord sn rc cl)(hn:n≤v.length)(hown:w.ownsRow K.B 9 1 nv n (strs (v.take n)))(hno:nv.ownBlock=ord.ownBlock)
  (hT:Ms.In wr K.T (kE (v.take n))) (hg:w.grownBy wr (some K.T)):BW K (wr.setCell ⟨K.F,4,none⟩ nv) (v.take n) t∧af K w (wr.setCell ⟨K.F,4,none⟩ nv):=by
 have qo:=In.far h.vars h4.blk
 have blk:∀ k,k<w.heap.size→k≠K.T→wr.heap[k]?=w.heap[k]?:=fun k hk h1=>hg.block k hk (fun e=>h1 (by simpa using e))
 have eT:wr.heap[K.F]?=some (K.obj ord sn rc cl):=(blk _ h4.lt qo).trans h4.blk
 have gL:=Qw eT nv
 have set:∀ k,k≠K.F→(wr.setCell ⟨K.F,4,none⟩ nv).heap[k]?=wr.heap[k]?:=fun k hk=>Below.heap_setCell wr ⟨K.F,4,none⟩ nv k hk
 have all:∀ k,k<w.heap.size→k≠K.F→k≠K.T→(wr.setCell ⟨K.F,4,none⟩ nv).heap[k]?=w.heap[k]?:=fun k hk h1 h2=>(set k h1).trans (blk k hk h2)
 have ints:∀ {x:Value} {m:Nat} {xs:List Value} {e:TypeId},e≠110→w.ownsRow K.B e 1 x m xs→(wr.setCell ⟨K.F,4,none⟩ nv).ownsRow K.B e 1 x m xs:=fun {x m xs e} he ho=>fF ho fun k hk=>by
  obtain ⟨_,hlt,cur,hc⟩:=bq ho k hk
  refine all k hlt (fun e'=>?_) (In.far h.vars hc)
  rw [e',h4.blk] at hc
  simp only [Option.some.injEq,Obj.cells.injEq] at hc
  exact he hc.2.1.symm
 have hlen:(v.take n).length=n:=by simp;omega
 refine ⟨⟨?_,h.base,?_,h.nums,⟨nv,sn,rc,cl,gL,by rw [hlen];exact ints (by decide) hown,ints (by decide) h4.lZ,ints (by decide) h4.lD,ints (by decide) h4.kS,h4.far⟩,?_,?_⟩,⟨hg.os,hg.tape,hg.output,?_,fun k hk hf=>?_⟩⟩
 ·refine h.ja.same fun b o hb=>World.cell?_of_block (a:=⟨b,o,none⟩) ?_
  have hbase:=h.base
  have:=h4.lt
  exact all b (by omega) (by omega) (by omega)
 ·exact h.mp.keep (all _ h.mp.lt (fun e=>(In.far h.mp h4.blk) e.symm) h.base.2.2.2)
 ·exact hT.keep (set _ (fun e=>qo e.symm))
 ·exact (h.once.sublist ((List.take_sublist n v).map _))
 ·have:=hg.size;simp [World.setCell];omega
 ·obtain ⟨q1,q2,q3⟩:=hf
  obtain ⟨q4,q5,q6,q7⟩:=q3 _ _ _ _ h4.blk
  refine ⟨all k hk q1 q2,q1,q2,fun o s r c ho=>?_⟩
  rw [gL] at ho
  obtain ⟨rfl,rfl,rfl,rfl⟩:=uL (Option.some.inj ho)
  exact ⟨by rw [hno];exact q4,q5,q6,q7⟩
theorem QA (K:BK)(v:Vars)(t:Tk)(n P1 P2:Nat)(u:FrameMode)(w:World)(h:Hid (BW K w v t))(hn:n≤v.length)(h1:Hid (w.heap[P1]?=some (pO K.F)))(h2:Hid (w.heap[P2]?=some (nO n)))(f1:Hid (bA K w P1))(f2:Hid (bA K w P2)) :
  CallsD Tryz.prog 131 #[.pointer (some ⟨P1,0,none⟩),.pointer (some ⟨P2,0,none⟩)] u w fun e u' w'=>u'=u∧(e=.returned (.tuple #[])∧BW K w' (v.take n) t∧af K w w'):=by
 obtain ⟨o,s,rr,cc,h4⟩:=h.out.rows
 have hF:=h4.lt
 have H4:Hid (lY K w v t o s rr cc):=h4
 obtain ⟨c0,c1,c2,c3,c4,_⟩:=fE h4.blk
 have p1:w.cell? ⟨P1,0,none⟩=some (.pointer (some ⟨K.F,3,none⟩)):=by simp [World.cell?,h1.out]
 have p2:w.cell? ⟨P2,0,none⟩=some (.int .i64 (n:Int)):=by simp [World.cell?,h2.out]
 rcases h4.jJ.2 with ⟨ho,h0⟩ | ⟨g,cap,cur,ho,hBg,hg,hcap,hmax,QB,htake⟩
 ·obtain rfl:v=[]:=List.eq_nil_of_length_eq_zero h0
  obtain rfl:n=0:=by simpa using hn
  subst ho
  have z4:=(ql h4.blk).1
  have HE:Hid (∀ d,BW K (((w.drewN d).setCell ⟨K.F,4,none⟩ (.slice none 0 0)).drew) ([]:Vars) t∧af K w (((w.drewN d).setCell ⟨K.F,4,none⟩ (.slice none 0 0)).drew)):=fun d =>
   Jo (v:=[]) (n:=0) (wr:=(w.drewN d).drew) h.out h4 (Nat.le_refl _) ⟨rfl,.inl ⟨rfl,rfl⟩⟩ rfl (h.out.vars.keep rfl) ⟨rfl,rfl,rfl,Nat.le_refl _,fun _ _ _=>rfl⟩
  clear h4 c0 c1 c2
  go_enter_d Tryz.func131,Tryz.ntmps131
  go_wp2
  go_quiet (fail)
  go_wp2
  go_loopw [11] (fun i wr=>i=.int .i64 0∧∃ d,wr=w.drewN d) (fun _ _=>0)
  case atStart=>exact ⟨rfl,_,rfl⟩
  case round =>
   obtain ⟨rfl,d,rfl⟩:=hrel
   go_wp2
   go_region
   go_wp2
   go_end0
   exact ⟨rfl,HE.out d⟩
 ·subst ho
  have aaZ:Hid (∀ i p,v[i]?=some p→w.cell? ⟨g,i,none⟩=some (.string p.1)):=fun i p hp=>by
   have hlt:=(List.getElem?_eq_some_iff.1 hp).1
   have e:cur.toList[i]?=some (.string p.1):=by
    have:=congrArg (fun x=>x[i]?) htake
    simp only [List.getElem?_take,List.getElem?_map,hp,Option.map_some] at this
    rw [if_pos (by omega)] at this
    exact this
   simp [World.cell?,hg]
   simpa using e
  have hown:Hid (w.ownsRow K.B 9 1 (.slice (some ⟨g,0,none⟩) n cap) n (strs (v.take n))):=⟨by simp;omega,.inr ⟨g,cap,cur,rfl,hBg,hg,by omega,hmax,QB,by
   have:=congrArg (List.take n) htake
   rw [List.take_take] at this
   rw [show n * 1=min n (v.length * 1) by omega,this]
   simp⟩⟩
  have hgT:g≠K.T:=In.far h.out.vars hg
  have aa1:g<w.heap.size:=lt_of_block hg
  have QC:P1≠K.T:=f1.out.2.1
  have QD:P2≠K.T:=f2.out.2.1
  have QE:P1<w.heap.size:=lt_of_block h1.out
  have QF:P2<w.heap.size:=lt_of_block h2.out
  have qo:K.F≠K.T:=In.far h.out.vars h4.blk
  have hv1:v.length≤9223372036854775807:=by unfold maxLen at hmax;omega
  clear h4 hg QB htake c0 c1 c2
  obtain ⟨L,hL⟩:∃ L,L=v.length:=⟨_,rfl⟩
  rw [← hL] at c4 hcap hn hv1
  have HL:Hid (L=v.length):=hL
  clear hL
  go_enter_d Tryz.func131,Tryz.ntmps131
  go_wp2
  have Bb:=h
  clear h
  go_quiet (fail)
  go_wp2
  ·skip
   obtain ⟨D,hD⟩:∃ D,D=L - n:=⟨_,rfl⟩
   rw [← hD]
   have HD:Hid (D=L - n):=hD
   have hD2:n+D=L:=by omega
   clear hD
   go_loopw [11] (fun i wr=>∃ j:Nat,i=.int .i64 j∧Hid (Jn K v n w j wr)) (fun i _=>D - (intOf i).toNat)
   case atStart=>exact ⟨0,rfl,⟨by have:=HL.out;omega,by rw [Nat.add_zero,List.take_append_drop];exact Bb.out.vars.keep rfl,⟨rfl,rfl,rfl,Nat.le_refl _,fun _ _ _=>rfl⟩⟩⟩
   case round =>
    obtain ⟨j,rfl,HC⟩:=hrel
    have keep:Hid (∀ k,k<w.heap.size→k≠K.T→wr.heap[k]?=w.heap[k]?):=fun k hk h1=>HC.out.grown.block k hk (fun e=>h1 (by simpa using e))
    have p1':wr.cell? ⟨P1,0,none⟩=some (.pointer (some ⟨K.F,3,none⟩)):=(World.cell?_of_block (a:=⟨P1,0,none⟩) (keep.out _ QE QC)).trans p1
    have p2':wr.cell? ⟨P2,0,none⟩=some (.int .i64 (n:Int)):=(World.cell?_of_block (a:=⟨P2,0,none⟩) (keep.out _ QF QD)).trans p2
    have hb':wr.heap[K.F]?=some (K.obj _ s rr cc):=(keep.out _ hF qo).trans H4.out.blk
    obtain ⟨_,_,_,c3',Jp,_⟩:=fE hb'
    have z4:=(ql hb').1
    rw [← HL.out] at Jp
    clear hb'
    by_cases hlt:j<D
    ·exfalso
     omega
    ·skip
     have hj:Hid (j=D):=by have:=HC.out.le;have:=HL.out;unfold Hid;omega
     have HT:Hid (Ms.In wr K.T (kE (v.take n))):=by
      have:=HC.out.map
      rw [hj.out,hD2,HL.out,List.drop_length,List.append_nil] at this
      exact this
     clear p1 p2 c3 c4
     have HE:Hid (BW K (wr.drew.setCell ⟨K.F,4,none⟩ (.slice (some ⟨g,0,none⟩) n cap)) (v.take n) t∧af K w (wr.drew.setCell ⟨K.F,4,none⟩ (.slice (some ⟨g,0,none⟩) n cap))):=Jo Bb.out H4.out (by have:=HL.out;omega) hown.out rfl (HT.out.keep rfl) ⟨HC.out.grown.os,HC.out.grown.tape,HC.out.grown.output,HC.out.grown.size,HC.out.grown.block⟩
     go_wp2
     go_region
     go_wp2
     go_end0
     first
      | exact ⟨rfl,HE.out⟩
      | (have e:=HE.out;rw [h] at e;exact ⟨rfl,e⟩)
  ·skip
   obtain ⟨D,hD⟩:∃ D,D=L - n:=⟨_,rfl⟩
   rw [← hD]
   have HD:Hid (D=L - n):=hD
   have hD2:n+D=L:=by omega
   clear hD
   go_loopw [11] (fun i wr=>∃ j:Nat,i=.int .i64 j∧Hid (Jn K v n w j wr)) (fun i _=>D - (intOf i).toNat)
   case atStart=>exact ⟨0,rfl,⟨by have:=HL.out;omega,by rw [Nat.add_zero,List.take_append_drop];exact Bb.out.vars.keep rfl,⟨rfl,rfl,rfl,Nat.le_refl _,fun _ _ _=>rfl⟩⟩⟩
   case round =>
    obtain ⟨j,rfl,HC⟩:=hrel
    have keep:Hid (∀ k,k<w.heap.size→k≠K.T→wr.heap[k]?=w.heap[k]?):=fun k hk h1=>HC.out.grown.block k hk (fun e=>h1 (by simpa using e))
    have p1':wr.cell? ⟨P1,0,none⟩=some (.pointer (some ⟨K.F,3,none⟩)):=(World.cell?_of_block (a:=⟨P1,0,none⟩) (keep.out _ QE QC)).trans p1
    have p2':wr.cell? ⟨P2,0,none⟩=some (.int .i64 (n:Int)):=(World.cell?_of_block (a:=⟨P2,0,none⟩) (keep.out _ QF QD)).trans p2
    have hb':wr.heap[K.F]?=some (K.obj _ s rr cc):=(keep.out _ hF qo).trans H4.out.blk
    obtain ⟨_,_,_,c3',Jp,_⟩:=fE hb'
    have z4:=(ql hb').1
    rw [← HL.out] at Jp
    clear hb'
    by_cases hlt:j<D
    ·skip
     obtain ⟨q,hq⟩:∃ q,v[n+j]?=some q:=⟨_,List.getElem?_eq_getElem (by have:=HL.out;omega)⟩
     obtain ⟨k1,k2⟩:=aaY Bb.out.once hq
     have qn:wr.cell? ⟨g,n+j,none⟩=some (.string q.1):=(World.cell?_of_block (a:=⟨g,n+j,none⟩) (keep.out _ aa1 hgT)).trans (aaZ.out _ _ hq)
     obtain ⟨w2,hdel,hin2,hg2⟩:=Ms.aaR Tryz.underlying106 Tryz.underlying9 (ty:=0) (ts:=#[106,9]) HC.out.map rfl k1
     rw [k2] at hin2
     have iD:Hid (Jn K v n w (j+1) w2):=⟨by have:=HL.out;omega,hin2,⟨hg2.os.trans HC.out.grown.os,hg2.tape.trans HC.out.grown.tape,hg2.output.trans HC.out.grown.output,Nat.le_trans HC.out.grown.size hg2.size,fun k hk hne=>(hg2.block k (by have:=HC.out.grown.size;omega) hne).trans (HC.out.grown.block k hk hne)⟩⟩
     obtain ⟨qs,QG⟩:∃ qs,qs=q.1:=⟨_,rfl⟩
     rw [← QG] at qn hdel
     clear hq k1 k2 hin2 hg2 QG p1 p2 c3 c4
     go_wp2
     go_roundw
     case rel=>exact ⟨j+1,by go_num,iD⟩
     case measure=>simp [intOf];omega
    ·skip
     have hj:Hid (j=D):=by have:=HC.out.le;have:=HL.out;unfold Hid;omega
     have HT:Hid (Ms.In wr K.T (kE (v.take n))):=by
      have:=HC.out.map
      rw [hj.out,hD2,HL.out,List.drop_length,List.append_nil] at this
      exact this
     clear p1 p2 c3 c4
     have HE:Hid (BW K (wr.drew.setCell ⟨K.F,4,none⟩ (.slice (some ⟨g,0,none⟩) n cap)) (v.take n) t∧af K w (wr.drew.setCell ⟨K.F,4,none⟩ (.slice (some ⟨g,0,none⟩) n cap))):=Jo Bb.out H4.out (by have:=HL.out;omega) hown.out rfl (HT.out.keep rfl) ⟨HC.out.grown.os,HC.out.grown.tape,HC.out.grown.output,HC.out.grown.size,HC.out.grown.block⟩
     go_wp2
     go_region
     go_wp2
     go_end0
     first
      | exact ⟨rfl,HE.out⟩
      | (have e:=HE.out;rw [h] at e;exact ⟨rfl,e⟩)
end Sm
end Go.Proofs.YtolfleeidpeomaaGreatDoor

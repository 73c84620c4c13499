/- An append to a row of the call's own: the new row is the old one,or lies in a new block. -/
import Derived.Test.YtolfleeidpeomaaGreatDoorM14
import Derived.Deep.RegionHeld3
set_option maxHeartbeats 1000000
namespace Go.Proofs.YtolfleeidpeomaaGreatDoor
open Go.RowKit
theorem xZ {P:Program}(w:World)(base:Nat)(t ty e:TypeId)(i:TypeInfo)(z:Value)(size bytes:Nat)(ht:P.underlying t=some (.slice e))(hi:P.info? e=some i)(hz:i.zero=some z)
  (hsize:i.size=size) (hby:i.bytes=bytes) (hzs:z.cells.size=size) (hsz:0<size)
  (v:Value) (n:Nat) (xs:List Value) (hown:w.ownsRow base e size v n xs)
  (a:Addr) (m c:Nat) (news:List Value) (hl:news.length=m * size) (hnews:∀ j u,news[j]?=some u→w.cell? (a.add j)=some u) (h1:∀ u ∈ news,u.oneCell'=true)
  (h0:0<m) (h63:n+m≤maxLen) (hbytes:(n+m) * bytes≤140737488355328) (hbase:base≤w.heap.size) :
  ∃ v' w',(Builtin.append_ #[t,t] ty #[v,.slice (some a) m c]).run P w=.ok v' w'∧w'.ownsRow base e size v' (n+m) (xs++news)∧w.grownBy w' v.ownBlock ∧
   ∃ g cap,v'=.slice (some ⟨g,0,none⟩) (n+m) cap∧(v.ownBlock=some g∨g=w.heap.size):=by
 obtain ⟨v',w',hr,h2,h3,_⟩:=run_append_own (P:=P) w base t ty e i z size bytes ht hi hz hsize hby hzs hsz v n xs hown a m c news hl hnews h1 h63 hbytes hbase
 refine ⟨v',w',hr,h2,h3,?_⟩
 have hsmall:n+m≤9223372036854775807:=by simp only [maxLen] at h63;omega
 subst hsize
 subst hby
 rcases hown.2 with ⟨rfl,rfl⟩ | ⟨g,cap,cur,rfl,hbg,hg,hnc,hcm,hcs,htake⟩
 ·have hq:=run_append_nil (P:=P) w t ty e i z ht hi hz a m c news hl hnews h0 (by omega) (by have hb:=hbytes;simp only [Nat.zero_add] at hb;omega)
  rw [hr] at hq
  injection hq with e1 e2
  exact ⟨w.heap.size,_,by rw [e1,Nat.zero_add],.inr rfl⟩
 ·by_cases hroom:n+m≤cap
  ·have hfit:n * i.size+news.length≤cur.size:=by rw [hl,hcs,← Nat.add_mul];exact Nat.mul_le_mul_right _ hroom
   have hq:=run_append_room (P:=P) w t ty e i ht hi g n cap cur hg a m c news hl hnews h1 hroom hfit
   rw [hr] at hq
   injection hq with e1 e2
   exact ⟨g,cap,e1,.inl rfl⟩
  ·have hq:=run_append_grow (P:=P) w t ty e i z ht hi hz ⟨g,0,none⟩ n cap xs hown.1 (hown.cells (g:=g) rfl) a m c news hl hnews (by omega) (by omega) (growslice_fits (by omega) hbytes)
   rw [hr] at hq
   injection hq with e1 e2
   exact ⟨w.heap.size,_,e1,.inr rfl⟩
theorem sD {P:Program}{w:World}{ops:Array Oper}{rest:List Oper}{o:Oper}{a:Act}{Q:Exit→Act→World→Prop}(hgd:o.guard=none)(s x:Operand)(t:TypeId)
  (ho:o.op=.call { callee:=.builtin .append,args:=#[s,x],argTypes:=#[t,t] })
  (base:Nat) (e:TypeId) (i:TypeInfo) (z:Value) (size bytes:Nat) (ht:P.underlying t=some (.slice e)) (hi:P.info? e=some i) (hz:i.zero=some z)
  (hsize:i.size=size) (hby:i.bytes=bytes) (hzs:z.cells.size=size) (hsz:0<size)
  (v:Value) (n:Nat) (xs:List Value) (hs:a.eval s=v) (hown:w.ownsRow base e size v n xs)
  (ad:Addr) (m c:Nat) (news:List Value) (hx:a.eval x=.slice (some ad) m c) (hl:news.length=m * size) (hnews:∀ j u,news[j]?=some u→w.cell? (ad.add j)=some u) (h1:∀ u ∈ news,u.oneCell'=true)
  (h0:0<m) (h63:n+m≤maxLen) (hbytes:(n+m) * bytes≤140737488355328) (hbase:base≤w.heap.size)
  (h:∀ g cap w',w'.ownsRow base e size (.slice (some ⟨g,0,none⟩) (n+m) cap) (n+m) (xs++news)→w.grownBy w' v.ownBlock→(v.ownBlock=some g∨g=w.heap.size)→wpList P ops Q rest (a.put o.dst (.slice (some ⟨g,0,none⟩) (n+m) cap)) w'):wpList P ops Q (o :: rest) a w:=by
 refine wpList_plain hgd fun K hK=>?_
 obtain ⟨v',w',hr,h2,h3,g,cap,rfl,h4⟩:=xZ (P:=P) w base t o.type e i z size bytes ht hi hz hsize hby hzs hsz v n xs hown ad m c news hl hnews h1 h0 h63 hbytes hbase
 unfold Oper.wp
 simp [execOp,ho,resolve,invoke,builtin,hs,hx,hr,Result.andThen]
 exact hK _ _ (h g cap w' h2 h3 h4)
abbrev z4:List Value:=[.int .i64 0,.int .i64 0,.string ⟨#[]⟩,.slice none 0 0]
abbrev qR (w:World) (g n:Nat) (it:iG):World:=(((w.setCell ⟨g,n * 4,none⟩ (.int .i64 it.1.kind)).setCell ⟨g,n * 4+1,none⟩ (.int .i64 it.1.n)).setCell ⟨g,n * 4+2,none⟩ (.string it.1.name)).setCell ⟨g,n * 4+3,none⟩ (.slice it.2.1 it.1.kids.length it.2.2)
theorem Ns {w:World}{B g cap:Nat}{its:List iG}(h:w.ownsRow B 122 4 (.slice (some ⟨g,0,none⟩) (its.length+1) cap) (its.length+1) (gY its++z4))(it:iG) :
  (qR w g its.length it).ownsRow B 122 4 (.slice (some ⟨g,0,none⟩) (its.length+1) cap) (its.length+1) (gY (its++[it])):=by
 have h4:=(((h.stored (its.length * 4) (.int .i64 it.1.kind)).1.stored (its.length * 4+1) (.int .i64 it.1.n)).1.stored (its.length * 4+2) (.string it.1.name)).1.stored (its.length * 4+3) (.slice it.2.1 it.1.kids.length it.2.2)
 have e:((((gY its++z4).set (its.length * 4) (.int .i64 it.1.kind)).set (its.length * 4+1) (.int .i64 it.1.n)).set (its.length * 4+2) (.string it.1.name)).set (its.length * 4+3) (.slice it.2.1 it.1.kids.length it.2.2)=gY (its++[it]):=by
  rw [Xq]
  have hl:=C9 its
  rw [List.set_append_right _ _ (by omega),List.set_append_right _ _ (by omega),List.set_append_right _ _ (by omega),List.set_append_right _ _ (by omega)]
  rw [hl]
  have e0:its.length * 4 - its.length * 4=0:=by omega
  have e1:its.length * 4+1 - its.length * 4=1:=by omega
  have e2:its.length * 4+2 - its.length * 4=2:=by omega
  have e3:its.length * 4+3 - its.length * 4=3:=by omega
  rw [e0,e1,e2,e3]
  rfl
 rw [← e]
 exact h4.1
abbrev vX (R:Nat):Obj:=.cells #[.pointer (some ⟨R,0,none⟩)] 90 (0,0)
abbrev sF (v:Value):Obj:=.cells #[v] 120 (0,0)
structure mU (E:Env) (N:Nat) (w:World) (its:List iG) (v:Value) (h:Nat):Prop where
 rb:w.heap[N]?=some (vX E.R)
 ob:w.heap[N+1]?=some (sF v)
 row:w.ownsRow (N+2) 122 4 v its.length (gY its)
 kids:∀ it ∈ its,bK (fun b=>N+2≤b∧b<w.heap.size∧v.ownBlock≠some b) w h it.1 it.2.1
def qU (E:Env)(N:Nat)(w:World)(out:List Sy.Ex):Prop:=∃ its v h,its.map (·.1)=out∧mU E N w its v h
theorem mU.kept {E:Env}{N:Nat}{w w':World}{its:List iG}{v:Value}{h:Nat}(k:mU E N w its v h)(hg:w.grownBy w' (some E.R))(hR:E.R<N):mU E N w' its v h :=
 ⟨(hg.block N (lt_of_block k.rb) (by simp;omega)).trans k.rb,(hg.block (N+1) (lt_of_block k.ob) (by simp;omega)).trans k.ob,
  k.row.kept hg (by
  cases hv:v.ownBlock with
  | none=>exact .inl rfl
  | some g=>right;have:=k.row.lt g hv;simp;omega),
  fun it hit=>(k.kids it hit).keep (fun b hb=>⟨⟨hb.1,by have:=hg.size;omega,hb.2.2⟩,hg.block b hb.2.1 (by simp;omega)⟩)⟩
theorem qU.kept {E:Env}{N:Nat}{w w':World}{out:List Sy.Ex}(k:qU E N w out)(hg:w.grownBy w' (some E.R))(hR:E.R<N):qU E N w' out:=by
 obtain ⟨its,v,h,e,k⟩:=k
 exact ⟨its,v,h,e,k.kept hg hR⟩
theorem De {w:World}{g n k:Nat}{it:iG}(hk:k≠g):(qR w g n it).heap[k]?=w.heap[k]?:=by
 unfold qR
 rw [Below.heap_setCell _ _ _ _ hk,Below.heap_setCell _ _ _ _ hk,Below.heap_setCell _ _ _ _ hk,Below.heap_setCell _ _ _ _ hk]
theorem x9 {w:World}{g n:Nat}{it:iG}:(qR w g n it).os=w.os∧(qR w g n it).tape=w.tape∧(qR w g n it).output=w.output:=⟨rfl,rfl,rfl⟩
theorem yc {w:World}{a:Addr}{u:Value}:(w.setCell a u).os=w.os∧(w.setCell a u).tape=w.tape∧(w.setCell a u).output=w.output:=⟨rfl,rfl,rfl⟩
theorem Nt (w:World)(a:Addr)(u:Value):w.grownBy (w.setCell a u) (some a.block) :=
 ⟨rfl,rfl,rfl,Nat.le_of_eq (World.bC w a u).symm,fun b _ hb=>Below.heap_setCell _ _ _ _ (fun e=>hb (by rw [e]))⟩
theorem mU.more {E:Env}{w0 w w4 w5:World}{N M:Nat}{its:List iG}{v:Value}{h hx g cap:Nat}{it:iG}(k:mU E N w its v h)(hM:∀ b,v.ownBlock=some b→b<M)(hx2:bK (fun b=>M≤b∧b<w.heap.size) w hx it.1 it.2.1)(hMN:N+2≤M)(xU:w0.heap.size≤N)(yf:E.R<N)
  (hg0:w0.grownBy w (some E.R)) (hown:w4.ownsRow (N+2) 122 4 (.slice (some ⟨g,0,none⟩) (its.length+1) cap) (its.length+1) (gY its++z4)) (hg:w.grownBy w4 v.ownBlock) (hw:v.ownBlock=some g∨g=w.heap.size)
  (h5:w5=(qR w4 g its.length it).setCell ⟨N+1,0,none⟩ (.slice (some ⟨g,0,none⟩) (its.length+1) cap)∨w5=qR (w4.setCell ⟨N+1,0,none⟩ (.slice (some ⟨g,0,none⟩) (its.length+1) cap)) g its.length it) :
  mU E N w5 (its++[it]) (.slice (some ⟨g,0,none⟩) (its.length+1) cap) (max h hx)∧w0.grownBy w5 (some E.R)∧w5.heap[E.R]?=w.heap[E.R]?∧(∀ b,b<w.heap.size→v.ownBlock≠some b→b≠N+1→w5.heap[b]?=w.heap[b]?):=by
 have hgl:=hown.lt g rfl
 have hvb:∀ b,v.ownBlock=some b→N+2≤b∧b<w.heap.size:=fun b hb=>k.row.lt b hb
 have hs4:=hg.size
 have hN1:N+1<w.heap.size:=lt_of_block k.ob
 have hgN:N+1≠g:=by omega
 have hsz:w5.heap.size=w4.heap.size:=by rcases h5 with rfl | rfl <;> simp only [World.bC]
 have far:∀ b,b≠g→b≠N+1→w5.heap[b]?=w4.heap[b]?:=by
  intro b h1 h2
  rcases h5 with rfl | rfl
  ·rw [Below.heap_setCell _ _ _ _ h2,De h1]
  ·rw [De h1,Below.heap_setCell _ _ _ _ h2]
 have uw:∀ b,b<w.heap.size→v.ownBlock≠some b→b≠g:=by
  intro b h1 h2 e
  rcases hw with hw | hw
  ·exact h2 (e ▸ hw)
  ·omega
 have XB:∀ b,M≤b→b<w.heap.size→b≠g:=by
  intro b h1 h2 e
  rcases hw with hw | hw
  ·have:=hM g hw;omega
  ·omega
 have blk:∀ b,b<w.heap.size→v.ownBlock≠some b→b≠N+1→w5.heap[b]?=w.heap[b]?:=by
  intro b h1 h2 h3
  rw [far b (uw b h1 h2) h3]
  exact hg.block b h1 (fun e=>h2 e.symm)
 have GU:w5.os=w4.os∧w5.tape=w4.tape∧w5.output=w4.output:=by
  rcases h5 with rfl | rfl
  ·exact ⟨yc.1.trans x9.1,yc.2.1.trans x9.2.1,yc.2.2.trans x9.2.2⟩
  ·exact ⟨x9.1.trans yc.1,x9.2.1.trans yc.2.1,x9.2.2.trans yc.2.2⟩
 have hlen:(its++[it]).length=its.length+1:=by simp
 have zX:w4.heap[N+1]?=some (sF v):=(hg.block (N+1) hN1 (fun e=>by have:=hvb _ e.symm;omega)).trans k.ob
 have hrow:w5.ownsRow (N+2) 122 4 (.slice (some ⟨g,0,none⟩) (its.length+1) cap) (its.length+1) (gY (its++[it])):=by
  rcases h5 with rfl | rfl
  ·refine (Ns hown it).kept (Nt _ _ _) (.inr (by simp [Value.ownBlock];omega))
  ·refine Ns (hown.kept (Nt _ _ _) (.inr (by simp [Value.ownBlock];omega))) it
 have Dh:w5.heap[N+1]?=some (sF (.slice (some ⟨g,0,none⟩) (its.length+1) cap)):=by
  have one:∀ u:World,u.heap[N+1]?=some (sF v)→(u.setCell ⟨N+1,0,none⟩ (.slice (some ⟨g,0,none⟩) (its.length+1) cap)).heap[N+1]?=some (sF (.slice (some ⟨g,0,none⟩) (its.length+1) cap)):=by
   intro u hu
   simp only [World.setCell,Array.getElem?_modify,if_true,hu,Option.map_some]
   rfl
  rcases h5 with rfl | rfl
  ·exact one _ ((De hgN).trans zX)
  ·exact (De hgN).trans (one _ zX)
 refine ⟨⟨(blk N (by omega) (fun e=>by have:=hvb _ e;omega) (by omega)).trans k.rb,Dh,by rw [hlen];exact hrow,?_⟩,?_,blk E.R (by omega) (fun e=>by have:=hvb _ e;omega) (by omega),blk⟩
 ·intro i hi
  rcases List.mem_append.1 hi with hi | hi
  ·exact ((k.kids i hi).keep (fun b hb=>⟨⟨hb.1,by omega,by simp only [Value.ownBlock,ne_eq,Option.some.injEq];exact fun e=>uw b hb.2.1 hb.2.2 e.symm⟩,blk b hb.2.1 hb.2.2 (by omega)⟩)).up (by omega)
  ·simp only [List.mem_cons,List.not_mem_nil,or_false] at hi
   subst hi
   exact (hx2.keep (fun b hb=>⟨⟨by omega,by omega,by simp only [Value.ownBlock,ne_eq,Option.some.injEq];exact fun e=>XB b hb.1 hb.2 e.symm⟩,blk b hb.2 (fun e=>by have:=hM b e;omega) (by omega)⟩)).up (by omega)
 ·exact ⟨GU.1.trans (hg.os.trans hg0.os),GU.2.1.trans (hg.tape.trans hg0.tape),GU.2.2.trans (hg.output.trans hg0.output),by have:=hg0.size;omega,fun b hb hn=>(blk b (by have:=hg0.size;omega) (fun e=>by have:=hvb _ e;omega) (by omega)).trans (hg0.block b hb hn)⟩
theorem XC {P:Program}{ops:Array Oper}{o:Oper}{a:Act}{w:World}{K:Act→World→Prop}{Q:Exit→Act→World→Prop}{F:Prop}(hgd:o.guard=none)(s x:Operand)(t:TypeId)
  (ho:o.op=.call { callee:=.builtin .append,args:=#[s,x],argTypes:=#[t,t] })
  (base:Nat) (e:TypeId) (i:TypeInfo) (z:Value) (size bytes:Nat) (ht:P.underlying t=some (.slice e)) (hi:P.info? e=some i) (hz:i.zero=some z)
  (hsize:i.size=size) (hby:i.bytes=bytes) (hzs:z.cells.size=size) (hsz:0<size)
  (v:Value) (n:Nat) (xs:List Value) (hs:a.eval s=v) (hown:w.ownsRow base e size v n xs)
  (ad:Addr) (m c:Nat) (news:List Value) (hx:a.eval x=.slice (some ad) m c) (hl:news.length=m * size) (hnews:∀ j u,news[j]?=some u→w.cell? (ad.add j)=some u) (h1:∀ u ∈ news,u.oneCell'=true)
  (h0:0<m) (h63:n+m≤maxLen) (hbytes:(n+m) * bytes≤140737488355328) (hbase:base≤w.heap.size)
  (h:∀ g cap w',w'.ownsRow base e size (.slice (some ⟨g,0,none⟩) (n+m) cap) (n+m) (xs++news)→w.grownBy w' v.ownBlock→(v.ownBlock=some g∨g=w.heap.size)→K (a.put o.dst (.slice (some ⟨g,0,none⟩) (n+m) cap)) w') :
  if Region.wanted o (yielded ops a.tmps)=true then Oper.wp P o a w K Q else F:=by
 have hw:Region.wanted o (yielded ops a.tmps)=true:=by simp [Region.wanted,hgd]
 rw [if_pos hw]
 obtain ⟨v',w',hr,h2,h3,g,cap,rfl,h4⟩:=xZ (P:=P) w base t o.type e i z size bytes ht hi hz hsize hby hzs hsz v n xs hown ad m c news hl hnews h1 h0 h63 hbytes hbase
 unfold Oper.wp
 simp [execOp,ho,resolve,invoke,builtin,hs,hx,hr,Result.andThen]
 exact h g cap w' h2 h3 h4
def GV (E:Env)(op:Int)(w0:World)(N:Nat)(out:List Sy.Ex)(r:au Sy.Ex)(e:Ending)(w':World):Prop :=
 w0.grownBy w' (some E.R)∧match r with
  | .ok (q,x)=>e=.returned (.tuple #[])∧az E w' q op∧qU E N w' (out++[x])
  | .error (er,at')=>e=.panicked [aH er at']∧∃ (q:Nat) (o:Int),az E w' q o∧op≤o∧o≤op+2
def GX (E:Env)(d:Nat):Prop:=∀ (p N:Nat) (r:au Sy.Ex) (out:List Sy.Ex) (w0 w:World),Hid (az E w p (200 - (d:Int)))→p≤E.l.length→out.length≤6→w0.heap.size≤N→E.R<w0.heap.size→Hid (w0.grownBy w (some E.R))→Hid (qU E N w out)→Hid (r=Rp.expr E.l E.en d (Rp.dm E.l E.en d) p) →
 Calls Tryz.prog 163 #[.pointer (some ⟨N+1,0,none⟩),.pointer (some ⟨N,0,none⟩)] w fun e w'=>GV E (200 - (d:Int)) w0 N out r e w'
theorem XD {w:World}{K:Nat}(h:w.heap[K]?=some ZE):∀ j u,(z4)[j]?=some u→w.cell? ((⟨K,0,none⟩:Addr).add j)=some u:=Nn (x:=⟨0,0,⟨#[]⟩,[]⟩) (a:=none) (c:=0) h
theorem XE:∀ u ∈ z4,u.oneCell'=true:=Ni [(⟨0,0,⟨#[]⟩,[]⟩,none,0)]
structure uy (E:Env) (op:Int) (w0 w:World) (N q:Nat) (its:List iG) (v:Value) (n n1:Nat) (x:Sy.Ex) (a1:Option Addr) (g cap:Nat) (W w4:World):Prop where
 lT:mU E N W its v n
 old:∀ b,v.ownBlock=some b→b<w.heap.size
 box:N+1<w.heap.size
 ex:bK (fun b=>w.heap.size≤b∧b<W.heap.size) W n1 x a1
 GY:w0.grownBy W (some E.R)
 eP:az E W q op
 own:w4.ownsRow (N+2) 122 4 (.slice (some ⟨g,0,none⟩) (its.length+1) cap) (its.length+1) (gY its++z4)
 grown:W.grownBy w4 v.ownBlock
 place:v.ownBlock=some g∨g=W.heap.size
theorem XF {E:Env}{op:Int}{w0 w:World}{N q:Nat}{its:List iG}{v:Value}{n n1:Nat}{x:Sy.Ex}{a1:Option Addr}{g cap:Nat}{W w4:World}(k0:mU E N w its v n)(own:w4.ownsRow (N+2) 122 4 (.slice (some ⟨g,0,none⟩) (its.length+1) cap) (its.length+1) (gY its++z4))(grown:W.grownBy w4 v.ownBlock)(place:v.ownBlock=some g∨g=W.heap.size)
  (lT:mU E N W its v n) (ex:bK (fun b=>w.heap.size≤b∧b<W.heap.size) W n1 x a1) (GY:w0.grownBy W (some E.R)) (eP:az E W q op):uy E op w0 w N q its v n n1 x a1 g cap W w4 :=
 ⟨lT,fun b hb=>(k0.row.lt b hb).2,lt_of_block k0.ob,ex,GY,eP,own,grown,place⟩
theorem uy.facts {E:Env}{op:Int}{w0 w:World}{N q:Nat}{its:List iG}{v:Value}{n n1:Nat}{x:Sy.Ex}{a1:Option Addr}{g cap:Nat}{W w4:World}(A:uy E op w0 w N q its v n n1 x a1 g cap W w4) :
  (w4.cell? ⟨g,its.length * 4,none⟩=some (.int .i64 0)∧w4.cell? ⟨g,its.length * 4+1,none⟩=some (.int .i64 0)∧w4.cell? ⟨g,its.length * 4+2,none⟩=some (.string ⟨#[]⟩)∧w4.cell? ⟨g,its.length * 4+3,none⟩=some (.slice none 0 0)) ∧
  (w4.frozen? ⟨g,its.length * 4,none⟩=false∧w4.frozen? ⟨g,its.length * 4+1,none⟩=false∧w4.frozen? ⟨g,its.length * 4+2,none⟩=false∧w4.frozen? ⟨g,its.length * 4+3,none⟩=false) ∧
  w4.cell? ⟨N+1,0,none⟩=some v∧w4.frozen? ⟨N+1,0,none⟩=false∧w4.cell? ⟨N,0,none⟩=some (.pointer (some ⟨E.R,0,none⟩))∧N≠g∧N+1≠g:=by
 have hl:=C9 its
 have hgl:=A.own.lt g rfl
 have hv:∀ b,v.ownBlock=some b→N+2≤b:=fun b hb=>(A.lT.row.lt b hb).1
 have at':∀ j,j<4→w4.cell? ⟨g,its.length * 4+j,none⟩=z4[j]?:=by
  intro j hj
  rw [A.own.cellAt (its.length * 4+j) (by omega),List.getElem?_append_right (by omega),hl]
  congr 1
  omega
 have zX:w4.heap[N+1]?=some (sF v):=(A.grown.block (N+1) (lt_of_block A.lT.ob) (fun e=>by have:=hv _ e.symm;omega)).trans A.lT.ob
 have XG:w4.heap[N]?=some (vX E.R):=(A.grown.block N (lt_of_block A.lT.rb) (fun e=>by have:=hv _ e.symm;omega)).trans A.lT.rb
 exact ⟨⟨at' 0 (by omega),at' 1 (by omega),at' 2 (by omega),at' 3 (by omega)⟩,⟨A.own.frozenAt _,A.own.frozenAt _,A.own.frozenAt _,A.own.frozenAt _⟩,by simp [World.cell?,zX],by simp [World.frozen?,zX],by simp [World.cell?,XG],by omega,by omega⟩
theorem GZ {E:Env}{N:Nat}{w:World}{its:List iG}{v:Value}{h:Nat}(k:mU E N w its v h):w.cell? ⟨N+1,0,none⟩=some v:=by simp [World.cell?,k.ob]
theorem XH {E:Env}{N:Nat}{w:World}{its:List iG}{v:Value}{h:Nat}(k:mU E N w its v h):w.cell? ⟨N,0,none⟩=some (.pointer (some ⟨E.R,0,none⟩)):=by simp [World.cell?,k.rb]
theorem uy.done {E:Env}(G:Good E){op:Int}{w0 w:World}{N q:Nat}{its:List iG}{v:Value}{n n1:Nat}{x:Sy.Ex}{a1:Option Addr}{g cap c:Nat}{W w4 w5:World}{out:List Sy.Ex}(A:uy E op w0 w N q its v n n1 x a1 g cap W w4)(hN:w0.heap.size≤N)(hR:E.R<w0.heap.size)(hout:its.map (·.1)=out)
  (h5:w5=(qR w4 g its.length (x,a1,c)).setCell ⟨N+1,0,none⟩ (.slice (some ⟨g,0,none⟩) (its.length+1) cap)∨w5=qR (w4.setCell ⟨N+1,0,none⟩ (.slice (some ⟨g,0,none⟩) (its.length+1) cap)) g its.length (x,a1,c)) :
  GV E op w0 N out (.ok (q,x)) (.returned (.tuple #[])) w5:=by
 have CY:=A.box
 obtain ⟨k5,g5,r5,blk⟩:=mU.more (M:=w.heap.size) (it:=(x,a1,c)) A.lT A.old A.ex (by omega) hN (by omega) A.GY A.own A.grown A.place h5
 have hvb:=A.lT.row.lt
 have hB:=G.below
 have hRl:=A.eP.lt
 refine ⟨g5,rfl,⟨r5.trans A.eP.rd,A.eP.tk.on ?_,?_⟩,its++[(x,a1,c)],_,_,by simp [hout],k5⟩
 ·intro b o hb
  exact World.cell?_of_block (blk b (by omega) (fun e=>by have:=(hvb b e).1;omega) (by omega))
 ·refine (blk E.M (lt_of_block A.eP.mp) (fun e=>?_) (fun e=>?_)).trans A.eP.mp
  ·have hm:=A.eP.mp
   rcases A.lT.row.2 with ⟨h1,_⟩ | ⟨g',cap',cur,h1,_,hh,_⟩
   ·rw [h1] at e;simp [Value.ownBlock] at e
   ·rw [h1] at e
    simp only [Value.ownBlock,Option.some.injEq] at e
    rw [← e,hh] at hm
    simp at hm
  ·have hm:=A.eP.mp
   rw [e,A.lT.ob] at hm
   simp at hm
end Go.Proofs.YtolfleeidpeomaaGreatDoor

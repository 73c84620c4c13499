/- A task,plainly: its threads,and a step of it. -/
import Derived.Test.YtbdpdjcdhclbfaaGreatM3
namespace Go.Proofs.YtbdpdjcdhclbfaaGreat
namespace Vm
open Vf
structure Wk where
 u:Nat
 pc:Nat
 base:Nat
structure Th where
 ws:List Int
 fs:List Wk
 stands:Nat
 up:Option Nat
structure Ev where
 kind:Int
 box:Int
 v:Int
structure Tk where
 EL:List Th
 hand:Nat
 out:List Int
 over:Nat
 trap:Nat
 log:List Ev
def wrap (x:Int):Int:=Go.RowKit.wrap64 x
def VI:Th:=⟨[],[],0,none⟩
def Tk.th (t:Tk)(i:Nat):Th:=(t.EL[i]?).getD VI
def Tk.top (t:Tk):Th:=t.th t.hand
def Tk.set (t:Tk)(i:Nat)(h:Th):Tk:={ t with EL:=t.EL.set i h }
def Tk.note (t:Tk)(e:Ev):Tk:={ t with log:=t.log++[e] }
def Tk.fall (t:Tk)(n:Nat):Tk:={ t with over:=5,trap:=n,log:=t.log++[⟨5,0,n⟩] }
def Tk.words (t:Tk)(ws:List Int):Tk:=t.set t.hand { t.top with ws:=ws }
def Tk.put (t:Tk)(v:Int):Tk:=if t.top.ws.length=400 then t.fall 4 else t.words (t.top.ws++[v])
def Tk.last (t:Tk):Int:=(t.top.ws.getLast?).getD 0
def Tk.cut (t:Tk):Tk:=t.words t.top.ws.dropLast
def Tk.frame (t:Tk):Wk:=(t.top.fs.head?).getD ⟨0,0,0⟩
def Tk.ins (m:Md)(t:Tk):Ins:=((unit m t.frame.u).code[t.frame.pc]?).getD ⟨0,0,0⟩
def Tk.goto (t:Tk)(n:Nat):Tk:=t.set t.hand { t.top with fs:={ t.frame with pc:=n } :: t.top.fs.tail }
def yes (b:Bool):Int:=if b then 1 else 0
def holds (op a b:Int):Bool :=
 if op=13 then a==b else if op=14 then a != b else if op=15 then decide (a<b) else if op=16 then decide (a≤b)
 else if op=17 then decide (b<a) else if op=18 then decide (b≤a) else if op=19 then a != 0 && b != 0 else a != 0 || b != 0
def two (op a b:Int):Int :=
 if op=8 then wrap (a+b) else if op=9 then wrap (a - b) else if op=10 then wrap (a * b)
 else if op=11 then wrap (a.tdiv b) else if op=12 then a.tmod b else yes (holds op a b)
def VJ (u:Un)(n:Nat)(ps:List Int):Th:=⟨ps++List.replicate (u.locals.length - u.params.toNat) 0,[⟨n,0,0⟩],0,none⟩
def Tk.call (m:Md)(t:Tk)(n:Nat):Tk :=
 if t.top.fs.length=40 then t.fall 4
 else if t.top.ws.length+((unit m n).locals.length - (unit m n).params.toNat)≤400 then
  t.set t.hand { t.top with ws:=t.top.ws++List.replicate ((unit m n).locals.length - (unit m n).params.toNat) 0,fs:=⟨n,0,t.top.ws.length - (unit m n).params.toNat⟩ :: t.top.fs }
 else (t.words (t.top.ws++List.replicate (400 - t.top.ws.length) 0)).fall 4
def Tk.leave (t:Tk):Tk:=t.set t.hand { t.top with ws:=t.top.ws.take t.frame.base,fs:=t.top.fs.tail }
def Tk.ret (t:Tk):Tk:=t.cut.leave.put t.last
def Tk.less (t:Tk)(n:Nat):Tk:=t.words (t.top.ws.take (t.top.ws.length - n))
def Tk.start (m:Md)(t:Tk)(n:Nat):Tk :=
 let t1:=t.less (unit m n).params.toNat
 if t.EL.length=31 then t1.fall 5
 else (({ t1 with EL:=t1.EL++[VJ (unit m n) n (t.top.ws.drop (t.top.ws.length - (unit m n).params.toNat))] }:Tk).note ⟨6,0,n⟩).put t.EL.length
def Tk.give (t:Tk)(stands:Nat)(v:Int):Tk :=
 let t1:=t.set t.hand { t.top with stands:=stands }
 ({ t1 with hand:=t.top.up.getD 0 }:Tk).put v
def Tk.fin (t:Tk):Tk:=if t.hand=0 then ({ t with over:=4 }:Tk).note ⟨4,0,0⟩ else t.give 3 0
def Tk.resume (t:Tk):Tk :=
 let t1:=t.cut
 let j:=t1.last.toNat
 let t2:=t1.cut
 if (t2.th j).stands=3 then t2.fall 2
 else if (t2.th j).stands=2 then t2.fall 3
 else
  let t3:Tk:={ t2.set j { t2.th j with stands:=2,up:=some t2.hand } with hand:=j }
  if (t2.th j).stands=1 then t3.put t.last else t3
def Tk.alive (t:Tk):Tk:=t.cut.put (yes ((t.cut.th t.last.toNat).stands != 3))
def Tk.reckon (t:Tk)(op:Int):Tk :=
 if t.last=0∧(op=11∨op=12) then t.cut.cut.fall 1 else t.cut.cut.put (two op t.cut.last t.last)
def Tk.act (m:Md)(c:Ins)(t:Tk)(rv:Int):Tk :=
 if c.op=1 then t.put c.n
 else if c.op=2 then t.put c.a
 else if c.op=3 then t.put ((t.top.ws[t.frame.base+c.a.toNat]?).getD 0)
 else if c.op=4 then t.words (t.top.ws.dropLast.set (t.frame.base+c.a.toNat) t.last)
 else if c.op=5 then t.cut
 else if c.op=6 then t.cut.put (wrap (-t.last))
 else if c.op=7 then t.cut.put (wrap (1 - t.last))
 else if c.op=21 then t.goto c.a.toNat
 else if c.op=22 then if t.last=0 then t.cut.goto c.a.toNat else t.cut
 else if c.op=26 then t.cut.note ⟨2,c.a,t.last⟩
 else if c.op=27 then (t.note ⟨3,c.a,rv⟩).put rv
 else if c.op=28 then ({ t.cut with out:=t.out++[t.last] }:Tk).note ⟨1,0,t.last⟩
 else if c.op=23 then t.call m c.a.toNat
 else if c.op=24 then t.ret
 else if c.op=29 then t.start m c.a.toNat
 else if c.op=30 then t.resume
 else if c.op=31 then t.cut.give 1 t.last
 else if c.op=25 then t.fin
 else if c.op=32 then t.alive
 else t.reckon c.op
def Tk.step (m:Md)(t:Tk)(rv:Int):Tk:=(t.goto (t.frame.pc+1)).act m (t.ins m) rv
end Vm
namespace Ot
open Vf Vm
def jmp (c:Ins):Bool:=c.op==21 || c.op==22
def lg (l:List Ins)(n:Nat):Bool:=l.any fun c=>jmp c && c.a==(n:Int)
def reckons (k op:Int):Bool:=if k=1 then decide (8≤op) && decide (op≤18) else if k=2 then op==13 || op==14 || op==19 || op==20 else false
def word (c:Ins):Int:=if c.op=1 then c.n else c.a
def comes (a b c:Ins):Ins:=if c.op≤12 then ⟨1,0,two c.op (word a) (word b)⟩ else ⟨2,two c.op (word a) (word b),0⟩
abbrev Ch:=Nat × List Ins
def ve:List Ins→Ch
 | a :: b :: c :: _=>if a.op=b.op∧reckons a.op c.op=true∧¬ (word b=0∧(c.op=11∨c.op=12)) then (3,[comes a b c]) else (0,[])
 | _=>(0,[])
def pair (second:Int)(put:Ins→Ins→List Ins)(first:List Int):List Ins→Ch
 | a :: b :: _=>if b.op=second∧a.op ∈ first then (2,put a b) else (0,[])
 | _=>(0,[])
def next (k:Nat):List Ins→Ch
 | a :: _=>if a.op=21∧a.a=k+1 then (1,[]) else (0,[])
 | []=>(0,[])
def Li (_ _:Ins):List Ins:=[]
def yH (a _:Ins):List Ins:=[⟨1,0,wrap (-a.n)⟩]
def ym (a _:Ins):List Ins:=[⟨2,wrap (1 - a.a),0⟩]
def vF (a b:Ins):List Ins:=if a.a=0 then [⟨21,b.a,0⟩] else []
def answers (k:Nat)(r:List Ins):List Ch:=[ve r,pair 5 Li [1,2,3] r,pair 6 yH [1] r,pair 7 ym [2] r,pair 22 vF [2] r,next k r]
def may (l:List Ins)(k n:Nat):Bool:=decide (k+n<l.length) && (List.range (n - 1)).all fun i=>!lg l (k+1+i)
def pick (ok:Nat→Bool)(d:Ch):List Ch→Ch
 | []=>d
 | c :: l=>if 0<c.1∧ok c.1=true then c else pick ok d l
def i0:Ins:=⟨0,0,0⟩
def change (l:List Ins)(k:Nat):Ch:=pick (may l k) (1,[(l[k]?).getD i0]) (answers k (l.drop k))
def pieces (l:List Ins):Nat→Nat→List (Nat × Ch)
 | 0,_=>[]
 | f+1,k=>if k<l.length then (k,change l k) :: pieces l f (k+(change l k).1) else []
def out (ps:List (Nat × Ch)):List Ins:=ps.flatMap (·.2.2)
def now:List (Nat × Ch)→Nat→Nat
 | [],_=>0
 | p :: ps,x=>if p.1<x then p.2.2.length+now ps x else 0
def moved (ps:List (Nat × Ch))(c:Ins):Ins:=if jmp c=true then { c with a:=(now ps c.a.toNat:Nat) } else c
def all (l:List Ins):List (Nat × Ch):=pieces l l.length 0
def over (l:List Ins):List Ins:=(out (all l)).map (moved (all l))
def shorter:Nat→List Ins→List Ins
 | 0,l=>l
 | f+1,l=>if (over l).length<l.length then shorter f (over l) else over l
def short (l:List Ins):List Ins:=shorter l.length l
theorem Pv {l:List Ins}{k n:Nat}(h:may l k n=true):k+n<l.length∧∀ x,k<x→x<k+n→lg l x=false:=by
 unfold may at h;simp only[Bool.and_eq_true,decide_eq_true_eq,List.all_eq_true,List.mem_range,Bool.not_eq_true'] at h;refine⟨h.1,fun x h1 h2=>?_⟩;have:=h.2 (x - k - 1) (by omega);rwa [show k+1+(x - k - 1)=x by omega] at this
theorem Pw (ok:Nat→Bool)(d:Ch):∀ l:List Ch,pick ok d l=d∨∃ c ∈ l,pick ok d l=c∧0<c.1∧ok c.1=true
 | []=>.inl rfl
 | c :: l=>by
  unfold pick;split
  ·rename_i h;exact .inr ⟨c,List.mem_cons_self,rfl,h.1,h.2⟩
  ·rcases Pw ok d l with h | ⟨x,hx,h⟩
   ·exact .inl h
   ·exact .inr ⟨x,List.mem_cons_of_mem _ hx,h⟩
theorem Lj {l:List Ins}{k:Nat}{a b:Ins}{r:List Ins}(h:l.drop k=a :: b :: r):l[k]?=some a∧l[k+1]?=some b:=by
 have h0:(l.drop k)[0]?=some a:=by rw[h];rfl
 have h1:(l.drop k)[1]?=some b:=by rw[h];rfl
 rw[List.getElem?_drop] at h0 h1;exact⟨h0,h1⟩
theorem VK {l:List Ins}{k:Nat}{a b c:Ins}{r:List Ins}(h:l.drop k=a :: b :: c :: r):l[k]?=some a∧l[k+1]?=some b∧l[k+2]?=some c:=by
 have h2:(l.drop k)[2]?=some c:=by rw[h];rfl
 rw[List.getElem?_drop] at h2;exact⟨(Lj h).1,(Lj h).2,h2⟩
theorem Ll (a b c:Ins)(r:List Ins):ve (a :: b :: c :: r)=if a.op=b.op∧reckons a.op c.op=true∧¬ (word b=0∧(c.op=11∨c.op=12)) then (3,[comes a b c]) else (0,[]):=rfl
theorem Lm (second:Int)(put:Ins→Ins→List Ins)(first:List Int)(a b:Ins)(r:List Ins):pair second put first (a :: b :: r)=if b.op=second∧a.op ∈ first then (2,put a b) else (0,[]):=rfl
theorem Lp (k:Nat)(a:Ins)(r:List Ins):next k (a :: r)=if a.op=21∧a.a=k+1 then (1,[]) else (0,[]):=rfl
theorem VL {l:List Ins}{k:Nat}(h:0<(ve (l.drop k)).1):∃ a b c,l[k]?=some a∧l[k+1]?=some b∧l[k+2]?=some c∧a.op=b.op∧reckons a.op c.op=true∧¬ (word b=0∧(c.op=11∨c.op=12))∧ve (l.drop k)=(3,[comes a b c]):=by
 match hl:l.drop k with
 | a :: b :: c :: r =>
  obtain⟨h0,h1,h2⟩:=VK hl;rw[hl] at h;rw[Ll] at h ⊢;by_cases hc:a.op=b.op∧reckons a.op c.op=true∧¬ (word b=0∧(c.op=11∨c.op=12))
  ·exact⟨a,b,c,h0,h1,h2,hc.1,hc.2.1,hc.2.2,by rw[if_pos hc]⟩
  ·rw[if_neg hc] at h;simp at h
 | []=>rw[hl] at h;simp[ve] at h
 | [a]=>rw[hl] at h;simp[ve] at h
 | [a,b]=>rw[hl] at h;simp[ve] at h
theorem Jr {l:List Ins}{k:Nat}{second:Int}{put:Ins→Ins→List Ins}{first:List Int}(h:0<(pair second put first (l.drop k)).1):∃ a b,l[k]?=some a∧l[k+1]?=some b∧b.op=second∧a.op ∈ first∧pair second put first (l.drop k)=(2,put a b):=by
 match hl:l.drop k with
 | a :: b :: r =>
  obtain⟨h0,h1⟩:=Lj hl;rw[hl] at h;rw[Lm] at h ⊢;by_cases hc:b.op=second∧a.op ∈ first
  ·exact⟨a,b,h0,h1,hc.1,hc.2,by rw[if_pos hc]⟩
  ·rw[if_neg hc] at h;simp at h
 | []=>rw[hl] at h;simp[pair] at h
 | [a]=>rw[hl] at h;simp[pair] at h
theorem VM {l:List Ins}{k:Nat}(h:0<(next k (l.drop k)).1):∃ a,l[k]?=some a∧a.op=21∧a.a=k+1∧next k (l.drop k)=(1,[]):=by
 match hl:l.drop k with
 | a :: r =>
  have h0:(l.drop k)[0]?=some a:=by rw[hl];rfl
  rw[List.getElem?_drop] at h0;rw[hl] at h;rw[Lp] at h ⊢;by_cases hc:a.op=21∧a.a=k+1
  ·exact⟨a,h0,hc.1,hc.2,by rw[if_pos hc]⟩
  ·rw[if_neg hc] at h;simp at h
 | []=>rw[hl] at h;simp[next] at h
structure R1 (l:List Ins) (k:Nat) (a b c:Ins):Prop where
 h0:l[k]?=some a
 h1:l[k+1]?=some b
 h2:l[k+2]?=some c
 same:a.op=b.op
 rk:reckons a.op c.op=true
 nz:¬ (word b=0∧(c.op=11∨c.op=12))
structure R2 (l:List Ins) (k:Nat) (a b:Ins) (second:Int) (first:List Int):Prop where
 h0:l[k]?=some a
 h1:l[k+1]?=some b
 VN:b.op=second
 VO:a.op ∈ first
theorem Js (l:List Ins)(k:Nat):change l k=(1,[(l[k]?).getD i0])∨(may l k (change l k).1=true ∧
  ((∃ a b c,R1 l k a b c∧change l k=(3,[comes a b c]))∨(∃ a b,R2 l k a b 5 [1,2,3]∧change l k=(2,[]))∨(∃ a b,R2 l k a b 6 [1]∧change l k=(2,yH a b)) ∨
   (∃ a b,R2 l k a b 7 [2]∧change l k=(2,ym a b))∨(∃ a b,R2 l k a b 22 [2]∧change l k=(2,vF a b))∨(∃ a:Ins,l[k]?=some a∧a.op=21∧a.a=k+1∧change l k=(1,[])))):=by
 rcases Pw (may l k) (1,[(l[k]?).getD i0]) (answers k (l.drop k)) with h | ⟨c,hc,h,h0,h1⟩
 ·exact .inl h
 ·have e:change l k=c:=h
  refine .inr ⟨by rw[e];exact h1,?_⟩;simp only[answers,List.mem_cons,List.not_mem_nil,or_false] at hc;rw[e];rcases hc with rfl | rfl | rfl | rfl | rfl | rfl
  ·obtain⟨a,b,c,x0,x1,x2,x3,x4,x5,x6⟩:=VL h0
   exact .inl ⟨a,b,c,⟨x0,x1,x2,x3,x4,x5⟩,x6⟩
  ·obtain⟨a,b,x0,x1,x2,x3,x4⟩:=Jr h0
   exact .inr (.inl ⟨a,b,⟨x0,x1,x2,x3⟩,x4⟩)
  ·obtain⟨a,b,x0,x1,x2,x3,x4⟩:=Jr h0
   exact .inr (.inr (.inl ⟨a,b,⟨x0,x1,x2,x3⟩,x4⟩))
  ·obtain⟨a,b,x0,x1,x2,x3,x4⟩:=Jr h0
   exact .inr (.inr (.inr (.inl ⟨a,b,⟨x0,x1,x2,x3⟩,x4⟩)))
  ·obtain⟨a,b,x0,x1,x2,x3,x4⟩:=Jr h0
   exact .inr (.inr (.inr (.inr (.inl ⟨a,b,⟨x0,x1,x2,x3⟩,x4⟩))))
  ·obtain⟨a,x0,x1,x2,x3⟩:=VM h0
   exact .inr (.inr (.inr (.inr (.inr ⟨a,x0,x1,x2,x3⟩))))
theorem VP (a b:Ins):(vF a b).length≤1:=by unfold vF;split<;>simp
theorem yn (l:List Ins)(k:Nat):0<(change l k).1∧(change l k).2.length≤1∧(change l k=(1,[(l[k]?).getD i0])∨((change l k).2.length<(change l k).1∧k+(change l k).1<l.length∧∀ x,k<x→x<k+(change l k).1→lg l x=false)):=by
 rcases Js l k with h | ⟨hm,h⟩
 ·rw[h];exact⟨by simp,by simp,.inl rfl⟩
 ·have h1:=Pv hm
  have key:0<(change l k).1∧(change l k).2.length≤1∧(change l k).2.length<(change l k).1:=by
   rcases h with⟨a,b,c,_,e⟩ | ⟨a,b,_,e⟩ | ⟨a,b,_,e⟩ | ⟨a,b,_,e⟩ | ⟨a,b,_,e⟩ | ⟨a,_,_,_,e⟩
   ·rw[e];simp
   ·rw[e];simp
   ·rw[e];simp[yH]
   ·rw[e];simp[ym]
   ·rw[e];have:=VP a b;refine⟨by simp,this,?_⟩;simp;omega
   ·rw[e];simp
  exact⟨key.1,key.2.1,.inr ⟨key.2.2,h1⟩⟩
def uP (ps:List (Nat × Ch))(x:Nat):Prop:=∃ c,(x,c) ∈ ps
theorem Aq (l:List Ins):∀ (f k:Nat) (p:Nat × Ch),p ∈ pieces l f k→k≤p.1∧p.1<l.length∧p.2=change l p.1
 | 0,_,_,h=>by cases h
 | f+1,k,p,h=>by
  unfold pieces at h;split at h
  ·rename_i hk
   rcases List.mem_cons.1 h with rfl | h
   ·exact⟨Nat.le_refl _,hk,rfl⟩
   ·obtain⟨h1,h2,h3⟩:=Aq l f _ p h
    exact⟨by omega,h2,h3⟩
  ·cases h
theorem Px (l:List Ins)(f k x:Nat)(h:x≤k):now (pieces l f k) x=0:=by
 cases f with
 | zero=>rfl
 | succ f =>
  unfold pieces;split
  ·unfold now
   rw[if_neg (by simp;omega)]
  ·rfl
theorem GQ {α:Type}(g:Nat × Ch→List α)(hg:∀ p,(g p).length=p.2.2.length)(l:List Ins):∀ (f k:Nat),l.length≤k+f→∀ x,uP (pieces l f k) x →
  ((pieces l f k).flatMap g).drop (now (pieces l f k) x)=g (x,change l x)++((pieces l f k).flatMap g).drop (now (pieces l f k) (x+(change l x).1)) ∧
  now (pieces l f k) (x+(change l x).1)=now (pieces l f k) x+(change l x).2.length ∧
  (x+(change l x).1<l.length→uP (pieces l f k) (x+(change l x).1))
 | 0,k,_,x,⟨c,h⟩=>by cases h
 | f+1,k,hf,x,⟨c,h⟩=>by
  have hp:=yn l k;by_cases hk:k<l.length
  ·have e:pieces l (f+1) k=(k,change l k) :: pieces l f (k+(change l k).1):=by rw[pieces,if_pos hk]
   rw[e] at h ⊢;have eo:((k,change l k) :: pieces l f (k+(change l k).1)).flatMap g=g (k,change l k)++(pieces l f (k+(change l k).1)).flatMap g:=rfl;have gl:(g (k,change l k)).length=(change l k).2.length:=hg _;rcases List.mem_cons.1 h with h | h
   ·cases h
    have n0:now ((k,change l k) :: pieces l f (k+(change l k).1)) k=0:=by rw[now,if_neg (by simp)]
    have n1:now ((k,change l k) :: pieces l f (k+(change l k).1)) (k+(change l k).1)=(change l k).2.length:=by
     rw[now,if_pos (by simp;omega),Px l f _ _ (Nat.le_refl _)];rfl
    rw[n0,n1,eo,List.drop_zero,← gl,List.drop_left];refine⟨rfl,by omega,fun h2=>?_⟩;cases f with
    | zero=>omega
    | succ f=>exact⟨change l (k+(change l k).1),List.mem_cons_of_mem _ (by rw[pieces,if_pos h2];exact List.mem_cons_self)⟩
   ·obtain⟨g1,g2,_⟩:=Aq l _ _ _ h
    have hx:k<x:=by have:k+(change l k).1≤x:=g1;omega
    have n0:∀ y,k<y→now ((k,change l k) :: pieces l f (k+(change l k).1)) y=(change l k).2.length+now (pieces l f (k+(change l k).1)) y:=fun y hy=>by rw[now,if_pos (by simpa using hy)]
    obtain⟨i1,i2,i3⟩:=GQ g hg l f (k+(change l k).1) (by omega) x ⟨c,h⟩;rw[n0 x hx,n0 (x+(change l x).1) (by omega),eo];have d0:∀ n,(g (k,change l k)++(pieces l f (k+(change l k).1)).flatMap g).drop ((change l k).2.length+n)=((pieces l f (k+(change l k).1)).flatMap g).drop n:=fun n=>by rw[← gl,List.drop_append];simp
    rw[d0,d0];exact⟨i1,by omega,fun h=>(by obtain⟨c,hc⟩:=i3 h;exact⟨c,List.mem_cons_of_mem _ hc⟩)⟩
  ·rw[pieces,if_neg hk] at h
   cases h
theorem Py {l:List Ins}(h:0<l.length):uP (all l) 0:=by
 unfold all;cases hl:l.length with
 | zero=>omega
 | succ n=>exact⟨change l 0,by rw[pieces,if_pos (by omega)];exact List.mem_cons_self⟩
theorem Pz (l:List Ins):∀ (f k:Nat),l.length≤k+f→∀ x,k≤x→x<l.length→lg l x=true→uP (pieces l f k) x
 | 0,k,hf,x,h1,h2,_=>by omega
 | f+1,k,hf,x,h1,h2,ha=>by
  have hk:k<l.length:=by omega
  have hp:=yn l k;rw[pieces,if_pos hk];by_cases e:k=x
  ·subst e;exact⟨_,List.mem_cons_self⟩
  ·have hx:k+(change l k).1≤x:=by
    rcases hp.2.2 with h | ⟨_,_,h⟩
    ·rw[h];simp;omega
    ·refine Classical.byContradiction fun hn=>?_
     have:=h x (by omega) (by omega);rw[this] at ha;cases ha
   obtain⟨c,hc⟩:=Pz l f _ (by omega) x hx h2 ha;exact⟨c,List.mem_cons_of_mem _ hc⟩
theorem VQ {l:List Ins}{x:Nat}(h:x<l.length)(ha:lg l x=true):uP (all l) x:=Pz l _ _ (by omega) x (Nat.zero_le _) h ha
theorem PD {l:List Ins}{x:Nat}(h:uP (all l) x):x<l.length:=by
 obtain⟨c,hc⟩:=h;exact (Aq l _ _ _ hc).2.1
def yo (p:Nat × Ch):List Nat:=p.2.2.map fun _=>p.1
def olds (ps:List (Nat × Ch)):List Nat:=ps.flatMap yo
theorem GR (p:Nat × Ch):(yo p).length=p.2.2.length:=by simp[yo]
theorem DT (ps:List (Nat × Ch)):(olds ps).length=(out ps).length:=by
 induction ps with
 | nil=>rfl
 | cons p ps ih =>
  show (yo p++olds ps).length=(p.2.2++out ps).length
  rw[List.length_append,List.length_append,ih,GR]
theorem PE {l:List Ins}{x:Nat}(h:uP (all l) x):(out (all l)).drop (now (all l) x)=(change l x).2++(out (all l)).drop (now (all l) (x+(change l x).1)):=(GQ (fun p=>p.2.2) (fun _=>rfl) l _ _ (by omega) x h).1
theorem VR {l:List Ins}{x:Nat}(h:uP (all l) x):(olds (all l)).drop (now (all l) x)=yo (x,change l x)++(olds (all l)).drop (now (all l) (x+(change l x).1)):=(GQ yo GR l _ _ (by omega) x h).1
theorem PG {l:List Ins}{x:Nat}(h:uP (all l) x):now (all l) (x+(change l x).1)=now (all l) x+(change l x).2.length:=(GQ yo GR l _ _ (by omega) x h).2.1
theorem PH {l:List Ins}{x:Nat}(h:uP (all l) x)(hl:x+(change l x).1<l.length):uP (all l) (x+(change l x).1):=(GQ yo GR l _ _ (by omega) x h).2.2 hl
theorem VS (l:List Ins):now (all l) 0=0:=Px l _ _ _ (Nat.le_refl _)
theorem VT {l:List Ins}{x:Nat}(h:uP (all l) x){c:Ins}(hc:(change l x).2=[c]):(out (all l))[now (all l) x]?=some c∧(olds (all l))[now (all l) x]?=some x:=by
 have h1:=PE h;have h2:=VR h;have e1:((out (all l)).drop (now (all l) x))[0]?=some c:=by rw[h1,hc];rfl
 have e2:((olds (all l)).drop (now (all l) x))[0]?=some x:=by rw[h2];unfold yo;rw[show ((x,change l x):Nat × Ch).2.2=[c] from hc];rfl
 rw[List.getElem?_drop] at e1 e2;exact⟨e1,e2⟩
theorem VU {l:List Ins}{x:Nat}(h:(change l x).2=[]):x+(change l x).1<l.length:=by
 rcases (yn l x).2.2 with e | ⟨_,h2,_⟩
 ·rw[e] at h;cases h
 ·exact h2
theorem PI {l:List Ins}{P:Nat→Prop}(hP:∀ x,uP (all l) x→P x→(change l x).2=[]→P (x+(change l x).1)):∀ (d x:Nat),l.length≤x+d→uP (all l) x→P x→∃ y c,uP (all l) y∧P y∧now (all l) y=now (all l) x∧(change l y).2=[c]∧x≤y
 | 0,x,hd,hb,_=>by have:=PD hb;omega
 | d+1,x,hd,hb,hx=>by
  have hp:=yn l x;match hc:(change l x).2 with
  | [c]=>exact⟨x,c,hb,hx,rfl,hc,Nat.le_refl _⟩
  | [] =>
   have hl:=VU hc;obtain⟨y,c,h1,h2,h3,h4,h5⟩:=PI hP d (x+(change l x).1) (by omega) (PH hb hl) (hP x hb hx hc);exact⟨y,c,h1,h2,by rw[h3,PG hb,hc];rfl,h4,by omega⟩
  | _ :: _ :: _=>rw[hc] at hp;simp at hp
theorem Jt {l:List Ins}{x:Nat}(h:uP (all l) x):now (all l) x<(out (all l)).length:=by
 obtain⟨y,c,h1,_,h3,h4,_⟩:=PI (P:=fun _=>True) (fun _ _ _ _=>trivial) l.length x (by omega) h trivial;rw[← h3];exact (List.getElem?_eq_some_iff.1 (VT h1 h4).1).1
theorem DU (l:List Ins):(over l).length=(out (all l)).length:=by simp[over]
theorem GU {l:List Ins}(h:0<l.length):0<(over l).length:=by
 rw[DU];have:=Jt (Py h);omega
def yI (l:List Ins):Prop:=∀ c ∈ l,jmp c=true→0≤c.a∧c.a<l.length
theorem Lr (l:List Ins):∀ (f k:Nat),(out (pieces l f k)).length≤l.length - k∧(l.length≤k+f→(out (pieces l f k)).length=l.length - k→out (pieces l f k)=l.drop k∧∀ x,k≤x→x≤l.length→now (pieces l f k) x=x - k)
 | 0,k=>⟨by simp[pieces,out],fun h _=>⟨by rw[List.drop_eq_nil_of_le (by omega)];rfl,fun x h1 h2=>(by show 0=_;omega)⟩⟩
 | f+1,k=>by
  have hp:=yn l k;by_cases hk:k<l.length
  ·have e:pieces l (f+1) k=(k,change l k) :: pieces l f (k+(change l k).1):=by rw[pieces,if_pos hk]
   have eo:out ((k,change l k) :: pieces l f (k+(change l k).1))=(change l k).2++out (pieces l f (k+(change l k).1)):=rfl;obtain⟨i1,i2⟩:=Lr l f (k+(change l k).1);rw[e,eo,List.length_append];have hlt:(change l k).2.length≤(change l k).1∧k+(change l k).1≤l.length∧((change l k).2.length=(change l k).1→change l k=(1,[(l[k]?).getD i0])):=by
    rcases hp.2.2 with h | ⟨h,h2,_⟩
    ·rw[h];exact⟨by simp,by simp;omega,fun _=>rfl⟩
    ·exact⟨by omega,by omega,fun _=>by omega⟩
   refine⟨by omega,fun hf he=>?_⟩;have hst:=hlt.2.2 (by omega);rw[hst] at i1 i2 he ⊢;simp only[List.length_cons,List.length_nil] at he;have hl:l[k]?=some l[k]:=List.getElem?_eq_getElem hk;obtain⟨j1,j2⟩:=i2 (by simp;omega) (by simp at he ⊢;omega);refine⟨?_,fun x h1 h2=>?_⟩
   ·rw[j1,hl,List.drop_eq_getElem_cons hk]
    rfl
   ·by_cases hx:x=k
    ·rw[hx,now,if_neg (by simp)];omega
    ·rw[now,if_pos (by simp;omega),j2 x (by simp;omega) h2]
     simp;omega
  ·have e:pieces l (f+1) k=[]:=by rw[pieces,if_neg hk]
   rw[e];refine⟨by simp[out],fun _ _=>⟨by rw[List.drop_eq_nil_of_le (by omega)];rfl,fun x h1 h2=>(by show 0=_;omega)⟩⟩
theorem Ls (l:List Ins):(over l).length≤l.length:=by
 rw[DU];have:=(Lr l l.length 0).1;exact this
end Ot
namespace Od
open Vf Vm Ot
def Good (l:List Ins):Prop:=∀ c ∈ l,c.op=2→c.a=0∨c.a=1
def ia (l:List Ins)(k:Nat):Ins:=l[k]?.getD i0
def kn (c:Ins):Bool:=decide (c.op=1) || decide (c.op=2)
def DV (l:List Ins)(k:Nat):Ch:=pick (may l k) (0,[]) (answers k (l.drop k))
def third (l:List Ins)(k:Nat):Ch:=if may l k 1=true∧(ia l k).op=21∧(ia l k).a=(k:Int)+1 then (1,[]) else (0,[])
def second (l:List Ins)(k:Nat):Ch :=
 if may l k 2=true then
  if (ia l (k+1)).op=5∧(kn (ia l k)=true∨(ia l k).op=3) then (2,[])
  else if (ia l k).op=1∧(ia l (k+1)).op=6 then (2,yH (ia l k) (ia l (k+1)))
  else if (ia l k).op=2∧(ia l (k+1)).op=7 then (2,ym (ia l k) (ia l (k+1)))
  else if (ia l k).op=2∧(ia l (k+1)).op=22 then (2,vF (ia l k) (ia l (k+1)))
  else third l k
 else third l k
def su (l:List Ins)(k:Nat):Ch :=
 if may l k 3=true∧kn (ia l k)=true∧(ia l k).op=(ia l (k+1)).op∧reckons (ia l k).op (ia l (k+2)).op=true∧¬ (word (ia l (k+1))=0∧((ia l (k+2)).op=11∨(ia l (k+2)).op=12)) then (3,[comes (ia l k) (ia l (k+1)) (ia l (k+2))])
 else second l k
theorem PK (l:List Ins)(k:Nat):change l k=if (DV l k).1=0 then (1,[ia l k]) else DV l k:=by
 have key:∀ (ok:Nat→Bool) (d:Ch) (cs:List Ch),pick ok d cs=if (pick ok (0,[]) cs).1=0 then d else pick ok (0,[]) cs:=by
  intro ok d cs;induction cs with
  | nil=>simp[pick]
  | cons c cs ih =>
   unfold pick;by_cases h:0<c.1∧ok c.1=true
   ·rw[if_pos h,if_pos h,if_neg (by omega)]
   ·rw[if_neg h,if_neg h];exact ih
 exact key _ _ _
theorem Ju {l:List Ins}{k n:Nat}(h:may l k n=true):k+n<l.length:=(Pv h).1
theorem BJ {l:List Ins}{k:Nat}(h:k<l.length):l.drop k=ia l k :: l.drop (k+1):=by
 rw[List.drop_eq_getElem_cons h];simp[ia,h]
theorem VV {a b:Int}(h:reckons a b=true):a=1∨a=2:=by
 unfold reckons at h;by_cases h1:a=1
 ·exact .inl h1
 ·rw[if_neg h1] at h
  by_cases h2:a=2
  ·exact .inr h2
  ·rw[if_neg h2] at h;cases h
theorem FU (ok:Nat→Bool){n:Nat}(hn:0<n)(x:List Ins)(c:Prop)[Decidable c](cs:List Ch):pick ok (0,[]) ((if c then (n,x) else (0,[])) :: cs)=if c∧ok n=true then (n,x) else pick ok (0,[]) cs:=by
 have hp:∀ d:Ch,pick ok (0,[]) (d :: cs)=if 0<d.1∧ok d.1=true then d else pick ok (0,[]) cs:=fun _=>rfl;rw[hp];by_cases h:c
 ·by_cases h2:ok n=true
  ·rw[if_pos h,if_pos ⟨hn,h2⟩,if_pos ⟨h,h2⟩]
  ·rw[if_pos h,if_neg (fun x=>h2 x.2),if_neg (fun x=>h2 x.2)]
 ·rw[if_neg h,if_neg (fun x=>absurd x.1 (by decide)),if_neg (fun x=>h x.1)]
theorem PM {l:List Ins}{k:Nat}(hk:k<l.length):DV l k=su l k:=by
 have h1:ve (l.drop k)=if k+2<l.length∧(ia l k).op=(ia l (k+1)).op∧reckons (ia l k).op (ia l (k+2)).op=true∧¬ (word (ia l (k+1))=0∧((ia l (k+2)).op=11∨(ia l (k+2)).op=12)) then (3,[comes (ia l k) (ia l (k+1)) (ia l (k+2))]) else (0,[]):=by
  by_cases h2:k+2<l.length
  ·rw[BJ hk,BJ (by omega),BJ (by omega),Ll]
   simp[h2]
  ·rw[if_neg (fun h=>h2 h.1),BJ hk]
   by_cases h3:k+1<l.length
   ·rw[BJ h3,List.drop_eq_nil_of_le (by omega)];rfl
   ·rw[List.drop_eq_nil_of_le (by omega)];rfl
 have h2:∀ (s:Int) (put:Ins→Ins→List Ins) (f:List Int),Ot.pair s put f (l.drop k)=if k+1<l.length∧(ia l (k+1)).op=s∧(ia l k).op ∈ f then (2,put (ia l k) (ia l (k+1))) else (0,[]):=fun s put f=>by
  by_cases h2:k+1<l.length
  ·rw[BJ hk,BJ h2,Lm]
   simp[h2]
  ·rw[if_neg (fun h=>h2 h.1),BJ hk,List.drop_eq_nil_of_le (by omega)];rfl
 have h3:next k (l.drop k)=if (ia l k).op=21∧(ia l k).a=k+1 then (1,[]) else (0,[]):=by rw[BJ hk,Lp]
 have p0:∀ ok,pick ok (0,[]) []=(0,[]):=fun _=>rfl;unfold DV answers;rw[h1,h2,h2,h2,h2,h3,FU _ (by decide),FU _ (by decide),FU _ (by decide),FU _ (by decide),FU _ (by decide),FU _ (by decide),p0];clear h1 h2 h3 p0;have e1:∀ c:Prop,((k+2<l.length∧c)∧may l k 3=true) ↔ (may l k 3=true∧c):=fun c=>⟨fun h=>⟨h.2,h.1.2⟩,fun h=>⟨⟨by have:=Ju h.1;omega,h.2⟩,h.1⟩⟩;have e2:∀ c:Prop,((k+1<l.length∧c)∧may l k 2=true) ↔ (may l k 2=true∧c):=fun c=>⟨fun h=>⟨h.2,h.1.2⟩,fun h=>⟨⟨by have:=Ju h.1;omega,h.2⟩,h.1⟩⟩;have e3:∀ c:Prop,(c∧may l k 1=true) ↔ (may l k 1=true∧c):=fun c=>And.comm;have e5:(ia l k).op ∈ ([1,2,3]:List Int) ↔ (kn (ia l k)=true∨(ia l k).op=3):=by simp[kn,or_assoc]
 simp only[e1,e2,e3,e5,List.mem_singleton];unfold su second third;have e6:∀ c:Prop,(kn (ia l k)=true∧(ia l k).op=(ia l (k+1)).op∧reckons (ia l k).op (ia l (k+2)).op=true∧c) ↔ ((ia l k).op=(ia l (k+1)).op∧reckons (ia l k).op (ia l (k+2)).op=true∧c):=fun c=>⟨fun h=>h.2,fun h=>⟨by rcases VV h.2.1 with h | h<;>simp[kn,h],h⟩⟩;simp only[e6];by_cases m2:may l k 2=true
 ·simp only[m2,true_and,if_true]
  by_cases q:(ia l (k+1)).op=5
  ·by_cases q2:kn (ia l k)=true∨(ia l k).op=3
   ·simp only[q,q2,and_self,if_true]
    rfl
   ·have n1:¬ (ia l k).op=1:=fun h=>q2 (.inl (by simp[kn,h]))
    have n2:¬ (ia l k).op=2:=fun h=>q2 (.inl (by simp[kn,h]));simp[q,q2,n1,n2]
  ·simp only[q,false_and,if_false]
   by_cases a1:(ia l k).op=1<;>by_cases a2:(ia l k).op=2<;>by_cases b6:(ia l (k+1)).op=6<;>by_cases b7:(ia l (k+1)).op=7<;>by_cases VW:(ia l (k+1)).op=22<;>simp[a1,a2,b6,b7,VW]
 ·simp only[m2,false_and,if_false,Bool.false_eq_true]
end Od
end Go.Proofs.YtbdpdjcdhclbfaaGreat

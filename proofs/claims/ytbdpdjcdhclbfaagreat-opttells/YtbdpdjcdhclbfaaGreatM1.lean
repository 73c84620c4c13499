/- Whether a module is right,plainly. -/
import Derived.Test.YtbdpdjcdhclbfaaGreatChecked
import Derived.WalkKit
import Derived.WalkSpells
import Derived.WalkLawsBesides
import Derived.Deep.QuietTactic
import Derived.BigQuiet
import Derived.Deep.RegionHeld3
import Derived.Laws.AppendOwnNone
import Derived.Laws.BitsAllLaws
import Derived.Recover
import Derived.Deep.Cut
import Derived.Deep.LoopGhost
set_option maxHeartbeats 400000
namespace Go.Proofs.YtbdpdjcdhclbfaaGreat
namespace Vf
structure Bx where
 ty:Int
 cap:Int
structure Ins where
 op:Int
 a:Int
 n:Int
structure Un where
 kind:Int
 params:Int
 locals:List Int
 result:Int
 takes:Int
 code:List Ins
structure Md where
 boxes:List Bx
 units:List Un
def plain (t:Int):Bool:=t==1 || t==2
def is (m:Md)(kind n:Int):Bool:=decide (0≤n) && (m.units[n.toNat]?).any (fun u=>u.kind==kind)
def zo (u:Un):Bool:=u.kind==2 || u.kind==3 || u.kind==4
def sized (u:Un):Bool :=
 decide (u.locals.length≤200) && decide (0≤u.params) && decide (u.params≤if u.kind==4 then 0 else min 6 (u.locals.length:Int)) && decide (0<u.code.length) && decide (u.code.length≤4000)
def heads (u:Un):Bool:=(u.kind==4 || plain u.result) && (u.kind != 3 || plain u.takes)
def typed (m:Md)(u:Un):Bool:=heads u && u.locals.all (fun t=>plain t || is m 3 (t - 10))
def jr (m:Md)(u:Un):Int:=if zo u=false then 1 else if sized u=false then 5 else if typed m u=false then 9 else 0
def ranged (m:Md)(u:Un)(c:Ins):Bool :=
 if c.op=2 then c.a==0 || c.a==1
 else if c.op=3∨c.op=4 then decide (0≤c.a) && decide (c.a<u.locals.length)
 else if c.op=21∨c.op=22 then decide (0≤c.a) && decide (c.a<u.code.length)
 else if c.op=23 then is m 2 c.a
 else if c.op=29 then is m 3 c.a
 else if c.op=26∨c.op=27 then decide (0≤c.a) && decide (c.a<m.boxes.length)
 else true
def aA (m:Md)(u:Un)(c:Ins):Int:=if c.op<1∨32<c.op then 1 else if ranged m u c=false then 3 else 0
def gT {α:Type}(f:α→Int):List α→Nat→Int × Nat
 | [],_=>(0,0)
 | x :: l,k=>if f x=0 then gT f l (k+1) else (f x,k)
def rY (m:Md)(u:Un):Int × Nat:=if jr m u=0 then gT (aA m u) u.code 0 else (jr m u,0)
structure Fl where
 a:BitVec 64
 b:BitVec 64
 c:BitVec 64
 d:BitVec 64
def Fl.eq (f g:Fl):Bool:=f.a==g.a && f.b==g.b && f.c==g.c && f.d==g.d
theorem Fl.eq_iff {f g:Fl}:Fl.eq f g=true ↔ f=g:=by
 obtain⟨a,b,c,d⟩:=f;obtain⟨a',b',c',d'⟩:=g;simp[Fl.eq,and_assoc]
def Fl.word (f:Fl)(k:Nat):BitVec 64:=if k=0 then f.a else if k=1 then f.b else if k=2 then f.c else f.d
def Fl.has (f:Fl)(n:Nat):Bool:=(f.word (n / 64)).getLsbD (n % 64)
def Fl.fill (f:Fl)(n:Nat):Fl :=
 ⟨if n / 64=0 then f.a ||| BitVec.twoPow 64 (n % 64) else f.a,if n / 64=1 then f.b ||| BitVec.twoPow 64 (n % 64) else f.b,if n / 64=2 then f.c ||| BitVec.twoPow 64 (n % 64) else f.c,if n / 64=3 then f.d ||| BitVec.twoPow 64 (n % 64) else f.d⟩
def Fl.both (f g:Fl):Fl:=⟨f.a &&& g.a,f.b &&& g.b,f.c &&& g.c,f.d &&& g.d⟩
def Fl.none:Fl:=⟨0,0,0,0⟩
def sumTo (f:Nat→Nat):Nat→Nat
 | 0=>0
 | n+1=>sumTo f n+f n
def Fl.val (f:Fl):Nat:=sumTo (fun i=>(f.has i).toNat) 256
def Fl.first:Nat→Fl
 | 0=>Fl.none
 | n+1=>(Fl.first n).fill n
structure Kn where
 st:List Int
 fl:Fl
def jy:List Int→List Int→Except Int (List Int)
 | [],st=>.ok st
 | _ :: _,[]=>.error 12
 | t :: ts,x :: r=>if x=t then jy ts r else .error 9
def put (t:Int)(st:List Int):Except Int (List Int):=if st.length+1≤300 then .ok (t :: st) else .error 4
def andThen {α β:Type}(r:Except Int α)(f:α→Except Int β):Except Int β:=match r with | .error e=>.error e | .ok x=>f x
def turn (into:Int)(l:List Int)(st:List Int):Except Int (List Int):=andThen (jy l.reverse st) (put into)
def pop:List Int→Except Int (Int × List Int)
 | []=>.error 12
 | t :: r=>.ok (t,r)
def yf (st:List Int):Except Int (Int × List Int):=andThen (pop st) fun p=>if plain p.1=true then .ok p else .error 9
def vW (st:List Int):Except Int (Int × List Int):=andThen (pop st) fun p=>if 10≤p.1 then .ok p else .error 9
def unit (m:Md)(n:Int):Un:=(m.units[n.toNat]?).getD ⟨0,0,[],0,0,[]⟩
def params (m:Md)(n:Int):List Int:=(unit m n).locals.take (unit m n).params.toNat
def must (b:Bool)(e:Int)(st:List Int):Except Int (List Int):=if b=true then .ok st else .error e
def resume (m:Md)(st:List Int):Except Int (List Int) :=
 andThen (pop st) fun p=>andThen (vW p.2) fun g=>andThen (must (p.1==(unit m (g.1 - 10)).takes) 9 g.2) (put (unit m (g.1 - 10)).result)
def wH (m:Md)(n:Int):Int:=((m.boxes[n.toNat]?).map (·.ty)).getD 0
def xu (u:Un)(n:Int):Int:=(u.locals[n.toNat]?).getD 0
def speak (m:Md)(u:Un)(c:Ins)(st:List Int):Except Int (List Int) :=
 if c.op=23 then turn (unit m c.a).result (params m c.a) st
 else if c.op=29 then turn (10+c.a) (params m c.a) st
 else if c.op=26 then jy [wH m c.a] st
 else if c.op=27 then put (wH m c.a) st
 else if c.op=30 then resume m st
 else if c.op=32 then andThen (vW st) fun g=>put 2 g.2
 else if c.op=31 then andThen (must (u.kind==3) 8 st) (turn u.takes [u.result])
 else if c.op=24 then andThen (must (u.kind==2) 8 st) fun st=>andThen (jy [u.result] st) fun st=>must (st.length==0) 12 st
 else if c.op=25 then andThen (must (u.kind != 2) 8 st) fun st=>must (st.length==0) 12 st
 else .ok st
def jA (m:Md)(u:Un)(c:Ins)(k:Kn):Except Int (List Int) :=
 if c.op=1 then put 1 k.st
 else if c.op=2 then put 2 k.st
 else if c.op=3 then andThen (must (k.fl.has c.a.toNat) 11 k.st) (put (xu u c.a))
 else if c.op=4 then jy [xu u c.a] k.st
 else if c.op=5 then andThen (pop k.st) fun p=>.ok p.2
 else if c.op=6 then turn 1 [1] k.st
 else if c.op=7 then turn 2 [2] k.st
 else if 8≤c.op∧c.op≤12 then turn 1 [1,1] k.st
 else if 15≤c.op∧c.op≤18 then turn 2 [1,1] k.st
 else if c.op=19∨c.op=20 then turn 2 [2,2] k.st
 else if c.op=13∨c.op=14 then andThen (yf k.st) fun p=>turn 2 [p.1] p.2
 else if c.op=28 then andThen (yf k.st) fun p=>.ok p.2
 else if c.op=22 then jy [2] k.st
 else speak m u c k.st
def kV (c:Ins)(f:Fl):Fl:=if c.op=4 then f.fill c.a.toNat else f
def rT (m:Md)(u:Un)(c:Ins)(k:Kn):Except Int Kn:=andThen (jA m u c k) fun st=>.ok ⟨st,kV c k.fl⟩
structure S where
 come:Nat→Option Kn
 row:List Nat
def S.note (s:S)(n:Nat)(k:Kn):S:=⟨fun i=>if i=n then some k else s.come i,s.row++[n]⟩
def sU (len:Nat)(k:Kn)(to:Int)(s:S):Except Int S :=
 if to<len then
  match s.come to.toNat with
  | none=>.ok (s.note to.toNat k)
  | some t=>if t.st=k.st then (if Fl.eq (t.fl.both k.fl) t.fl=true then .ok s else .ok (s.note to.toNat ⟨t.st,t.fl.both k.fl⟩)) else .error 8
 else .error 3
def goes (c:Ins)(n:Nat):List Int :=
 if c.op=24∨c.op=25 then [] else if c.op=21 then [c.a] else if c.op=22 then [c.a,n+1] else [(n:Int)+1]
def jf (len:Nat)(k:Kn):List Int→S→Except Int S
 | [],s=>.ok s
 | to :: l,s=>andThen (sU len k to s) (jf len k l)
def look (m:Md)(u:Un)(n:Nat)(s:S):Except Int S :=
 match s.come n,u.code[n]? with
 | some k,some c=>andThen (rT m u c k) fun k'=>jf u.code.length k' (goes c n) s
 | _,_=>.ok s
def si (m:Md)(u:Un):Nat→S→Int × Nat
 | 0,_=>(0,0)
 | f+1,s=>match s.row with
  | []=>(0,0)
  | n :: row=>match look m u n ⟨s.come,row⟩ with
   | .error e=>(e,n)
   | .ok s'=>si m u f s'
def start (u:Un):S:=(⟨fun _=>none,[]⟩:S).note 0 ⟨[],Fl.first u.params.toNat⟩
def wt:Option Kn→Nat
 | none=>257
 | some k=>k.fl.val
def mu (len:Nat)(s:S):Nat:=2 * sumTo (fun i=>wt (s.come i)) len+s.row.length
def rH (m:Md)(u:Un):Int × Nat:=si m u (mu u.code.length (start u)+1) (start u)
theorem sumTo_le {f g:Nat→Nat}(h:∀ i,f i≤g i):∀ n,sumTo f n≤sumTo g n
 | 0=>Nat.le_refl _
 | n+1=>Nat.add_le_add (sumTo_le h n) (h n)
theorem OP {f g:Nat→Nat}(h:∀ i,f i≤g i){k:Nat}(hk:f k<g k):∀ n,k<n→sumTo f n<sumTo g n
 | n+1,hn=>by
  have h1:=sumTo_le h n;have h2:=h n;simp only[sumTo];by_cases hkn:k=n
  ·subst hkn;omega
  ·have:=OP h hk n (by omega);omega
theorem K7 {f:Nat→Nat}{c:Nat}(h:∀ i,f i≤c):∀ n,sumTo f n≤c * n
 | 0=>Nat.le_refl _
 | n+1=>by
  have h1:=K7 h n;have h2:=h n;have e:c * (n+1)=c * n+c:=Nat.mul_succ c n;simp only[sumTo];omega
theorem Vg (b:Bool):b.toNat≤1:=by cases b<;>decide
theorem OQ (f:Fl):f.val<257:=by
 have:=K7 (f:=fun i=>(f.has i).toNat) (c:=1) (fun i=>Vg _) 256;unfold Fl.val;omega
theorem has_both (f g:Fl)(i:Nat):(f.both g).has i=(f.has i && g.has i):=by
 unfold Fl.has Fl.both Fl.word;split
 ·exact BitVec.getLsbD_and ..
 ·split
  ·exact BitVec.getLsbD_and ..
  ·split
   ·exact BitVec.getLsbD_and ..
   ·exact BitVec.getLsbD_and ..
theorem Vh {x y:BitVec 64}(h:∀ i,i<64→x.getLsbD i=y.getLsbD i):x=y:=BitVec.eq_of_getLsbD_eq h
theorem OT {f g:Fl}(h:∀ i,i<256→f.has i=g.has i):f=g:=by
 have hw:∀ k,k<4→f.word k=g.word k:=fun k hk=>Vh fun i hi=>by
  have:=h (64 * k+i) (by omega);unfold Fl.has at this;rw[show (64 * k+i) / 64=k by omega,show (64 * k+i) % 64=i by omega] at this;exact this
 have h0:=hw 0 (by decide);have h1:=hw 1 (by decide);have h2:=hw 2 (by decide);have h3:=hw 3 (by decide);obtain⟨a,b,c,d⟩:=f;obtain⟨a',b',c',d'⟩:=g;have e0:a=a':=h0;have e1:b=b':=h1;have e2:c=c':=h2;have e3:d=d':=h3;rw[e0,e1,e2,e3]
theorem Vi {f g:Fl}(h:f.both g≠f):(f.both g).val<f.val:=by
 have hle:∀ i,((f.both g).has i).toNat≤(f.has i).toNat:=fun i=>by
  rw[has_both];cases f.has i<;>cases g.has i<;>decide
 have:∃ i,i<256∧((f.both g).has i).toNat<(f.has i).toNat:=by
  refine Classical.byContradiction fun hn=>h (OT fun i hi=>?_);have h1:=hle i;have h2:¬ ((f.both g).has i).toNat<(f.has i).toNat:=fun hlt=>hn ⟨i,hi,hlt⟩;revert h1 h2;cases (f.both g).has i<;>cases f.has i<;>decide
 obtain⟨i,hi,hlt⟩:=this;exact OP hle hlt 256 hi
theorem OU (f:Nat→Nat)(i v:Nat):∀ n,i<n→sumTo (fun j=>if j=i then v else f j) n+f i=sumTo f n+v
 | n+1,h=>by
  by_cases hi:i=n
  ·subst hi
   have:∀ k,k≤i→sumTo (fun j=>if j=i then v else f j) k=sumTo f k:=by
    intro k;induction k with
    | zero=>intro _;rfl
    | succ k ih=>intro hk;simp only[sumTo];rw[ih (by omega),if_neg (by omega)]
   simp only[sumTo];rw[this i (Nat.le_refl _)];simp only[if_true];omega
  ·have:=OU f i v n (by omega)
   simp only[sumTo];rw[if_neg (by omega)];omega
theorem OV {len n:Nat}{s:S}{k:Kn}(hn:n<len)(h:k.fl.val<wt (s.come n)):mu len (s.note n k)<mu len s:=by
 have:=OU (fun i=>wt (s.come i)) n k.fl.val len hn;have e:(fun i=>wt ((s.note n k).come i))=fun j=>if j=n then k.fl.val else wt (s.come j):=by
  funext j
  show wt (if j=n then some k else s.come j)=_
  split<;>rfl
 unfold mu;rw[e];simp only[S.note,List.length_append,List.length_cons,List.length_nil];omega
theorem Vj {len:Nat}{k:Kn}{to:Int}{s s':S}(h0:0≤to)(h:sU len k to s=.ok s'):mu len s'≤mu len s:=by
 unfold sU at h;split at h
 ·rename_i hlt
  have hn:to.toNat<len:=by omega
  split at h
  ·rename_i hc
   cases h;exact Nat.le_of_lt (OV hn (by rw[hc];exact OQ _))
  ·rename_i t hc
   split at h
   ·split at h
    ·cases h;exact Nat.le_refl _
    ·rename_i hb
     cases h;exact Nat.le_of_lt (OV hn (by rw[hc];exact Vi (fun e=>hb (Fl.eq_iff.2 e))))
   ·cases h
 ·cases h
theorem OW {len:Nat}{k:Kn}:∀ {l:List Int} {s s':S},(∀ t ∈ l,0≤t)→jf len k l s=.ok s'→mu len s'≤mu len s
 | [],_,_,_,h=>by cases h;exact Nat.le_refl _
 | t :: l,s,s',h0,h=>by
  unfold jf andThen at h;split at h
  ·cases h
  ·rename_i s1 h1
   exact Nat.le_trans (OW (fun t ht=>h0 t (List.mem_cons_of_mem _ ht)) h) (Vj (h0 t List.mem_cons_self) h1)
def Forms (m:Md)(u:Un):Prop:=∀ c ∈ u.code,aA m u c=0
theorem K8 {m:Md}{u:Un}{c:Ins}(h:aA m u c=0)(n:Nat):∀ t ∈ goes c n,0≤t:=by
 intro t ht;have hj:c.op=21∨c.op=22→0≤c.a:=fun hop=>by
  by_cases h0:0≤c.a
  ·exact h0
  ·exfalso
   have h2:ranged m u c=false:=by
    unfold ranged;rw[if_neg (by omega),if_neg (by omega),if_pos hop];simp[h0]
   have h1:aA m u c=3:=by
    unfold aA;rw[if_neg (by omega),if_pos h2]
   omega
 unfold goes at ht;split at ht
 ·cases ht
 ·split at ht
  ·simp at ht;subst ht;exact hj (.inl (by assumption))
  ·split at ht
   ·simp at ht
    rcases ht with rfl | rfl
    ·exact hj (.inr (by assumption))
    ·omega
   ·simp at ht;omega
theorem OX {m:Md}{u:Un}{n:Nat}{s s':S}(hf:Forms m u)(h:look m u n s=.ok s'):mu u.code.length s'≤mu u.code.length s:=by
 unfold look at h;split at h
 ·rename_i k c _ hc
  unfold andThen at h;split at h
  ·cases h
  ·exact OW (K8 (hf c (List.mem_of_getElem? hc)) n) h
 ·cases h;exact Nat.le_refl _
theorem zN {len n:Nat}{row:List Nat}{come:Nat→Option Kn}:mu len ⟨come,n :: row⟩=mu len ⟨come,row⟩+1:=by
 unfold mu;simp only[List.length_cons];omega
theorem Vk (o:Option Kn):wt o≤257:=by
 cases o with
 | none=>exact Nat.le_refl _
 | some k=>exact Nat.le_of_lt (OQ k.fl)
theorem OY {len:Nat}{s:S}:s.row.length≤mu len s:=Nat.le_add_left _ _
theorem OZ {u:Un}:mu u.code.length (start u)≤514 * u.code.length+1:=by
 have:=K7 (f:=fun i=>wt ((start u).come i)) (c:=257) (fun i=>Vk _) u.code.length;have e:(start u).row.length=1:=rfl;unfold mu;rw[e];omega
end Vf
end Go.Proofs.YtbdpdjcdhclbfaaGreat
namespace Go.Proofs.YtbdpdjcdhclbfaaGreat
open Go.RowKit
theorem hide {p:Prop}(h:p):Hid p:=h
abbrev dA (n:Int):Prop:=-9223372036854775808≤n∧n≤9223372036854775807
abbrev lT (er num:Int):PanicEntry:={ v:=.iface 111 (.agg #[.int .i64 er,.int .i64 num]),recovered:=false }
def IntsIn (B:Nat)(w:World)(l:List Int)(a:Option Addr):Prop :=
 ∀ i x,l[i]?=some x→dA x∧∃ b off,a=some ⟨b,off,none⟩∧b<B∧w.cell? ⟨b,off+i,none⟩=some (.int .i64 x)
def xw (B:Nat)(w:World)(l:List Vf.Bx)(a:Option Addr):Prop :=
 ∀ i x,l[i]?=some x→dA x.ty∧dA x.cap∧∃ b off,a=some ⟨b,off,none⟩∧b<B∧w.cell? ⟨b,off+i * 2,none⟩=some (.int .i64 x.ty)∧w.cell? ⟨b,off+i * 2+1,none⟩=some (.int .i64 x.cap)
def aV (B:Nat)(w:World)(l:List Vf.Ins)(a:Option Addr):Prop :=
 ∀ i x,l[i]?=some x→dA x.op∧dA x.a∧dA x.n∧∃ b off,a=some ⟨b,off,none⟩∧b<B∧w.cell? ⟨b,off+i * 3,none⟩=some (.int .i64 x.op)∧w.cell? ⟨b,off+i * 3+1,none⟩=some (.int .i64 x.a)∧w.cell? ⟨b,off+i * 3+2,none⟩=some (.int .i64 x.n)
structure ig (B:Nat) (w:World) (u:Vf.Un) (al ac:Option Addr) (cl cc:Nat):Prop where
 nums:dA u.kind∧dA u.params∧dA u.result∧dA u.takes
 few:u.locals.length≤9223372036854775807∧u.code.length≤9223372036854775807
 uh:u.locals.length≤cl∧u.code.length≤cc
 locals:IntsIn B w u.locals al
 code:aV B w u.code ac
def FM (B:Nat)(w:World)(l:List Vf.Un)(a:Option Addr):Prop :=
 ∀ i u,l[i]?=some u→∃ b off al cl ac cc,a=some ⟨b,off,none⟩∧b<B∧ig B w u al ac cl cc∧w.cell? ⟨b,off+i * 6,none⟩=some (.int .i64 u.kind)∧w.cell? ⟨b,off+i * 6+1,none⟩=some (.int .i64 u.params)∧w.cell? ⟨b,off+i * 6+2,none⟩=some (.slice al u.locals.length cl)∧w.cell? ⟨b,off+i * 6+3,none⟩=some (.int .i64 u.result)∧w.cell? ⟨b,off+i * 6+4,none⟩=some (.int .i64 u.takes)∧w.cell? ⟨b,off+i * 6+5,none⟩=some (.slice ac u.code.length cc)
structure aD (B:Nat) (w:World) (m:Vf.Md) (ab au:Option Addr):Prop where
 few:m.boxes.length≤9223372036854775807∧m.units.length≤9223372036854775807
 boxes:xw B w m.boxes ab
 units:FM B w m.units au
def Low (B:Nat)(w w':World):Prop:=∀ k,k<B→w'.heap[k]?=w.heap[k]?
theorem Below.low {B:Nat}{w w':World}(h:Below B w w'):Low B w w':=h.block
theorem K9 {B F:Nat}{w w':World}(h:w.grownBy w' (some F))(hB:B≤F)(hF:F<w.heap.size):Low B w w':=fun k hk=>h.block k (by omega) (by simp;omega)
theorem gZ {w w':World}{b:Nat}(h:w'.heap[b]?=w.heap[b]?)(o:Nat):w'.cell? ⟨b,o,none⟩=w.cell? ⟨b,o,none⟩:=by
 simp[World.cell?,h]
theorem IntsIn.low {B:Nat}{w w':World}{l:List Int}{a:Option Addr}(h:IntsIn B w l a)(hk:Low B w w'):IntsIn B w' l a:=fun i x hx=>by
 obtain⟨h1,b,off,e,hs,hc⟩:=h i x hx;exact⟨h1,b,off,e,hs,(gZ (hk b hs) _).trans hc⟩
theorem xw.low {B:Nat}{w w':World}{l:List Vf.Bx}{a:Option Addr}(h:xw B w l a)(hk:Low B w w'):xw B w' l a:=fun i x hx=>by
 obtain⟨h1,h2,b,off,e,hs,c0,c1⟩:=h i x hx;have:=hk b hs;exact⟨h1,h2,b,off,e,hs,(gZ this _).trans c0,(gZ this _).trans c1⟩
theorem aV.low {B:Nat}{w w':World}{l:List Vf.Ins}{a:Option Addr}(h:aV B w l a)(hk:Low B w w'):aV B w' l a:=fun i x hx=>by
 obtain⟨h1,h2,h3,b,off,e,hs,c0,c1,c2⟩:=h i x hx;have:=hk b hs;exact⟨h1,h2,h3,b,off,e,hs,(gZ this _).trans c0,(gZ this _).trans c1,(gZ this _).trans c2⟩
theorem ig.low {B:Nat}{w w':World}{u:Vf.Un}{al ac:Option Addr}{cl cc:Nat}(h:ig B w u al ac cl cc)(hk:Low B w w'):ig B w' u al ac cl cc:=⟨h.nums,h.few,h.uh,h.locals.low hk,h.code.low hk⟩
theorem FM.low {B:Nat}{w w':World}{l:List Vf.Un}{a:Option Addr}(h:FM B w l a)(hk:Low B w w'):FM B w' l a:=fun i x hx=>by
 obtain⟨b,off,al,cl,ac,cc,e,hs,hu,c0,c1,c2,c3,c4,c5⟩:=h i x hx;have:=hk b hs;exact⟨b,off,al,cl,ac,cc,e,hs,hu.low hk,(gZ this _).trans c0,(gZ this _).trans c1,(gZ this _).trans c2,(gZ this _).trans c3,(gZ this _).trans c4,(gZ this _).trans c5⟩
theorem aD.low {B:Nat}{w w':World}{m:Vf.Md}{ab au:Option Addr}(h:aD B w m ab au)(hk:Low B w w'):aD B w' m ab au:=⟨h.few,h.boxes.low hk,h.units.low hk⟩
def uf (w:World):Option Addr→List Int→Prop
 | a,[]=>a=none
 | a,t :: r=>∃ b below,a=some ⟨b,0,none⟩∧w.heap[b]?=some (.cells #[.int .i64 t,.pointer below] 148 (0,0))∧uf w below r
theorem uf.keep {w w':World}:∀ {st:List Int} {a:Option Addr},uf w a st→(∀ (b:Nat) (cs:Array Value),w.heap[b]?=some (Obj.cells cs 148 (0,0))→w'.heap[b]?=some (Obj.cells cs 148 (0,0)))→uf w' a st
 | [],_,h,_=>h
 | _ :: _,_,⟨b,below,e,hb,hr⟩,hk=>⟨b,below,e,hk _ _ hb,hr.keep hk⟩
structure FC where
 m:Vf.Md
 u:Vf.Un
 ab:Option Addr
 au:Option Addr
 al:Option Addr
 ac:Option Addr
 cb:Nat
 cu:Nat
 cl:Nat
 cc:Nat
 M:Nat
abbrev ah (x:BitVec 64):Value:=.int .u64 (x.toNat:Int)
abbrev vE (c:FC) (top:Option Addr) (st:List Int) (f:Vf.Fl) (n:Int) (row:Value):Obj :=
 .cells #[.slice c.ab c.m.boxes.length c.cb,.slice c.au c.m.units.length c.cu,.int .i64 c.u.kind,.int .i64 c.u.params,.slice c.al c.u.locals.length c.cl,.int .i64 c.u.result,.int .i64 c.u.takes,.slice c.ac c.u.code.length c.cc,.pointer top,.int .i64 (st.length:Int),ah f.a,ah f.b,ah f.c,ah f.d,.int .i64 n,row,.map (some c.M)] 79 (0,0)
structure aB (c:FC) (w:World) (F:Nat) (top:Option Addr) (st:List Int) (f:Vf.Fl) (n:Int) (row:Value):Prop where
 blk:w.heap[F]?=some (vE c top st f n row)
 sk:uf w top st
theorem sV {c:FC}{w:World}{F:Nat}{top:Option Addr}{st:List Int}{f:Vf.Fl}{n:Int}{row:Value}(h:w.heap[F]?=some (vE c top st f n row)) :
  w.cell? ⟨F,0,none⟩=some (.slice c.ab c.m.boxes.length c.cb)∧w.cell? ⟨F,1,none⟩=some (.slice c.au c.m.units.length c.cu)∧w.cell? ⟨F,2,none⟩=some (.int .i64 c.u.kind)∧w.cell? ⟨F,3,none⟩=some (.int .i64 c.u.params)∧w.cell? ⟨F,4,none⟩=some (.slice c.al c.u.locals.length c.cl)∧w.cell? ⟨F,5,none⟩=some (.int .i64 c.u.result)∧w.cell? ⟨F,6,none⟩=some (.int .i64 c.u.takes)∧w.cell? ⟨F,7,none⟩=some (.slice c.ac c.u.code.length c.cc):=by
 simp[World.cell?,h]
theorem zq {c:FC}{w:World}{F:Nat}{top:Option Addr}{st:List Int}{f:Vf.Fl}{n:Int}{row:Value}(h:w.heap[F]?=some (vE c top st f n row)) :
  w.cell? ⟨F,8,none⟩=some (.pointer top)∧w.cell? ⟨F,9,none⟩=some (.int .i64 (st.length:Int))∧w.frozen? ⟨F,8,none⟩=false∧w.frozen? ⟨F,9,none⟩=false:=by
 simp[World.cell?,World.frozen?,h]
theorem DN {c:FC}{w:World}{F:Nat}{top:Option Addr}{st:List Int}{f:Vf.Fl}{n:Int}{row:Value}(h:w.heap[F]?=some (vE c top st f n row)) :
  w.cell? ⟨F,10,none⟩=some (ah f.a)∧w.cell? ⟨F,11,none⟩=some (ah f.b)∧w.cell? ⟨F,12,none⟩=some (ah f.c)∧w.cell? ⟨F,13,none⟩=some (ah f.d)∧w.frozen? ⟨F,10,none⟩=false∧w.frozen? ⟨F,11,none⟩=false∧w.frozen? ⟨F,12,none⟩=false∧w.frozen? ⟨F,13,none⟩=false:=by
 simp[World.cell?,World.frozen?,h]
theorem uD {c:FC}{w:World}{F:Nat}{top:Option Addr}{st:List Int}{f:Vf.Fl}{n:Int}{row:Value}(h:w.heap[F]?=some (vE c top st f n row)) :
  w.cell? ⟨F,14,none⟩=some (.int .i64 n)∧w.cell? ⟨F,15,none⟩=some row∧w.cell? ⟨F,16,none⟩=some (.map (some c.M))∧w.frozen? ⟨F,14,none⟩=false∧w.frozen? ⟨F,15,none⟩=false:=by
 simp[World.cell?,World.frozen?,h]
theorem ui (w:World)(F:Nat):w.grownBy w (some F):=World.grownBy.refl _ _
theorem iC {w w1 w2:World}{F:Nat}(h:w.grownBy w1 (some F))(h2:w1.grownBy w2 (some F)):w.grownBy w2 (some F) :=
 ⟨h2.os.trans h.os,h2.tape.trans h.tape,h2.output.trans h.output,Nat.le_trans h.size h2.size,fun k hk hne=>(h2.block k (by have:=h.size;omega) hne).trans (h.block k hk hne)⟩
theorem uT {w w':World}{F:Option Nat}(h:w.drew.grownBy w' F):w.grownBy w' F:=⟨h.os,h.tape,h.output,h.size,h.block⟩
theorem tJ {w w':World}{F:Nat}(h:w.grownBy w' (some F))(o:Obj):w.grownBy (w'.alloc o) (some F) :=
 ⟨h.os,h.tape,h.output,by have:=h.size;simp;omega,fun k hk hne=>(Below.heap_alloc _ _ _ (by have:=h.size;omega)).trans (h.block k hk hne)⟩
theorem uf.grown {c:FC}{w w':World}{F:Nat}{a top:Option Addr}{st st':List Int}{f:Vf.Fl}{n:Int}{row:Value}(h:uf w a st)(hg:w.grownBy w' (some F))(hF:w.heap[F]?=some (vE c top st' f n row)):uf w' a st :=
 h.keep fun b cs hb=>(hg.block b (lt_of_block hb) (fun e=>by
  simp at e;subst e;rw[hF] at hb;simp at hb)).trans hb
theorem EB (num er:Int)(w:World) :
  Calls Tryz.prog 58 #[.int .i64 er,.int .i64 num] w fun e w'=>e=.panicked [lT er num]∧w'=w:=by
 go_enter Tryz.func58,Tryz.ntmps58
 go_wp2
 exact⟨rfl,rfl,rfl⟩
def Vl (b:Bool)(er n:Int)(e:Ending):Prop:=e=if b=true then .returned (.tuple #[]) else .panicked [lT er n]
theorem uj (F:Nat)(b:Bool)(er n:Int)(w:World)(hc:w.cell? ⟨F,14,none⟩=some (.int .i64 n)) :
  Calls Tryz.prog 82 #[.pointer (some ⟨F,0,none⟩),.bool b,.int .i64 er] w fun e w'=>Vl b er n e∧w'=w:=by
 cases b
 ·go_enter Tryz.func82,Tryz.ntmps82
  go_wp2_with fail
  refine (EB n er _).mono ?_;rintro e w1 ⟨rfl,rfl⟩;go_wp2
  exact⟨rfl,rfl,rfl⟩
 ·go_enter Tryz.func82,Tryz.ntmps82
  go_wp2
  go_end0
  exact⟨rfl,rfl⟩
end Go.Proofs.YtbdpdjcdhclbfaaGreat

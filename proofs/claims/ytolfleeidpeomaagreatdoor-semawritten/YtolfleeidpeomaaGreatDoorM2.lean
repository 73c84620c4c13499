/- The tokens of a text,plainly. -/
import Derived.Test.YtolfleeidpeomaaGreatDoorM1
import Derived.Lib.Join
import Derived.Lib.ItoaNum
namespace Go.Proofs.YtolfleeidpeomaaGreatDoor
namespace Lx
structure Tk where
 kind:Nat
 text:ByteArray
 num:Nat
 pos:Nat
def Tk.cells (t:Tk):List Value:=[.int .i64 t.kind,.string t.text,.int .i64 t.num,.int .i64 t.pos]
def cellsOf (l:List Tk):List Value:=l.flatMap Tk.cells
theorem Uo (l:List Tk):(cellsOf l).length=l.length * 4:=by
 induction l with
 | nil=>rfl
 | cons t l ih=>simp only [cellsOf,List.flatMap_cons,List.length_append] at ih ⊢;rw [ih];simp [Tk.cells];omega
theorem Uq (l:List Tk)(t:Tk):cellsOf (l++[t])=cellsOf l++t.cells:=by simp [cellsOf]
def place (s:ByteArray)(a:Nat):Nat:=a+jS false (s.data.toList.drop a)
theorem Ur (s:ByteArray)(a:Nat)(h:a≤s.size):place s a≤s.size:=by
 have:=K5 false (s.data.toList.drop a)
 simp at this
 have e:s.data.size=s.size:=rfl
 unfold place;omega
def lexFrom:Nat→ByteArray→Nat→List Tk × Nat × Nat
 | 0,_,_=>([],0,0)
 | f+1,s,a =>
  if s.size≤place s a then ([],0,0)
  else if (dP (s.data.toList.drop (place s a))).1=0 then
   (⟨(dP (s.data.toList.drop (place s a))).2.1,s.extract (place s a) (place s a+(dP (s.data.toList.drop (place s a))).2.2.1),(dP (s.data.toList.drop (place s a))).2.2.2,place s a⟩ ::
    (lexFrom f s (place s a+(dP (s.data.toList.drop (place s a))).2.2.1)).1,
    (lexFrom f s (place s a+(dP (s.data.toList.drop (place s a))).2.2.1)).2)
  else ([],(dP (s.data.toList.drop (place s a))).1,place s a)
theorem EZ {f:Nat}{s:ByteArray}{a p:Nat}(hp:place s a=p)(he:s.size≤p):lexFrom (f+1) s a=([],0,0):=by
 rw [lexFrom,hp,if_pos he]
theorem E5 {f:Nat}{s:ByteArray}{a p K N M:Nat}(hp:place s a=p)(he:¬ s.size≤p)(hF:dP (s.data.toList.drop p)=(0,K,N,M)) :
  lexFrom (f+1) s a=(⟨K,s.extract p (p+N),M,p⟩ :: (lexFrom f s (p+N)).1,(lexFrom f s (p+N)).2):=by
 rw [lexFrom,hp,if_neg he,hF];rfl
theorem Le {f:Nat}{s:ByteArray}{a p E K N M:Nat}(hp:place s a=p)(he:¬ s.size≤p)(hF:dP (s.data.toList.drop p)=(E,K,N,M))(hE:¬ E=0) :
  lexFrom (f+1) s a=([],E,p):=by
 rw [lexFrom,hp,if_neg he,hF];simp [hE]
def lexB (s:ByteArray):List Tk × Nat × Nat :=
 if 6000<s.size then ([],4,0)
 else if (lexFrom (s.size+1) s 0).2.1=0 then lexFrom (s.size+1) s 0 else ([],(lexFrom (s.size+1) s 0).2)
end Lx
namespace Lx
end Lx
namespace Lx
def kd (w:ByteArray):Nat:=(dP w.data.toList).2.1
def nu (w:ByteArray):Nat:=(dP w.data.toList).2.2.2
def Bl (r:List UInt8):Prop:=r=[]∨∃ r',r=32 :: r'
structure Gw (w:ByteArray):Prop where
 Us:∃ c l,w.data.toList=c :: l∧jR c=false∧c.toNat≠35
 one:∀ r,Bl r→dP (w.data.toList++r)=(0,kd w,w.size,nu w)
def u7 (t:Tk):Nat × ByteArray × Nat:=(t.kind,t.text,t.num)
def ve (w:ByteArray):Nat × ByteArray × Nat:=(kd w,w,nu w)
def tL (ws:List ByteArray):List UInt8:=ws.flatMap fun w=>32 :: w.data.toList
theorem Lg (ws:List ByteArray):Bl (tL ws):=by
 cases ws with
 | nil=>exact .inl rfl
 | cons w ws=>exact .inr ⟨w.data.toList++tL ws,by simp [tL]⟩
theorem Lh {s w:ByteArray}{a f:Nat}{pre r:List UInt8}(hp:pre=[]∨pre=[32])(hw:Gw w)(hr:Bl r)(h:s.data.toList.drop a=pre++w.data.toList++r)(ha:a≤s.size) :
  ∃ q,lexFrom (f+1) s a=(⟨kd w,w,nu w,q⟩ :: (lexFrom f s (a+pre.length+w.size)).1,(lexFrom f s (a+pre.length+w.size)).2)∧s.data.toList.drop (a+pre.length+w.size)=r∧a+pre.length+w.size+r.length=s.size∧0<w.size:=by
 obtain ⟨c,l,hc,hb,rJ⟩:=hw.Us
 have hlen:=congrArg List.length h
 rw [List.length_drop,List.length_append,List.length_append] at hlen
 have e1:s.data.toList.length=s.size:=rfl
 have e2:w.data.toList.length=w.size:=rfl
 have hpos:0<w.size:=by rw [← e2,hc];simp
 have Ut:jK false c=false:=by
  unfold jK
  split
  ·rfl
  ·rfl
 have hg:jS false (c :: (l++r))=0:=K7 (by rw [Ut,hb];rfl)
 have hpl:place s a=a+pre.length:=by
  unfold place
  rw [h,hc]
  rcases hp with rfl | rfl
  ·simp only [List.nil_append,List.cons_append,List.length_nil];rw [hg]
  ·have h1:jK false 32=false:=by decide
   have h2:jR 32=true:=by decide
   simp only [List.cons_append,List.nil_append]
   rw [K6 (by rw [h2];simp),h1,hg]
   rfl
 have hdr:s.data.toList.drop (a+pre.length)=w.data.toList++r:=by
  rw [← List.drop_drop,h,List.append_assoc,List.drop_left']
  rfl
 have hF:dP (s.data.toList.drop (a+pre.length))=(0,kd w,w.size,nu w):=by rw [hdr];exact hw.one r hr
 have hex:s.extract (a+pre.length) (a+pre.length+w.size)=w:=by
  apply ByteArray.ext
  apply Array.toList_inj.1
  simp only [ByteArray.data_extract,Array.toList_extract,List.extract_eq_take_drop]
  rw [hdr,Nat.add_sub_cancel_left,List.take_left']
  exact e2
 refine ⟨a+pre.length,?_,?_,by omega,hpos⟩
 ·rw [E5 hpl (by omega) hF,hex]
 ·rw [← List.drop_drop,hdr,List.drop_left']
  exact e2
theorem E8:∀ (ws:List ByteArray) (f:Nat) (s:ByteArray) (a:Nat),(∀ w ∈ ws,Gw w)→s.data.toList.drop a=tL ws→a≤s.size→s.size - a<f→(lexFrom f s a).2.1=0∧(lexFrom f s a).1.map u7=ws.map ve
 | _,0,s,a,_,_,_,hf=>by omega
 | [],f+1,s,a,_,h,ha,hf=>by
  have e1:s.data.toList.length=s.size:=rfl
  have hl:=congrArg List.length h
  rw [List.length_drop,e1] at hl
  simp only [tL,List.flatMap_nil,List.length_nil] at hl
  have hp:s.size≤place s a:=by unfold place;omega
  rw [EZ rfl hp]
  exact ⟨rfl,rfl⟩
 | w :: ws,f+1,s,a,hg,h,ha,hf=>by
  obtain ⟨q,h1,h2,h3,h4⟩:=Lh (f:=f) (pre:=[32]) (.inr rfl) (hg w (by simp)) (Lg ws) (h.trans (by simp [tL])) ha
  obtain ⟨i1,i2⟩:=E8 ws f s (a+[32].length+w.size) (fun x hx=>hg x (by simp [hx])) h2 (by omega) (by have:([32]:List UInt8).length=1:=rfl;omega)
  rw [h1]
  exact ⟨i1,by rw [List.map_cons,i2,List.map_cons];rfl⟩
theorem Uu (ws:List ByteArray)(s:ByteArray)(hs:s.data.toList=Lib.join (ws.map (·.data.toList)) [32])(hg:∀ w ∈ ws,Gw w)(hm:s.size≤6000):(lexB s).2.1=0∧(lexB s).1.map u7=ws.map ve:=by
 have key:(lexFrom (s.size+1) s 0).2.1=0∧(lexFrom (s.size+1) s 0).1.map u7=ws.map ve:=by
  cases ws with
  | nil=>exact E8 [] (s.size+1) s 0 (fun _ h=>by cases h) (by rw [List.drop_zero,hs];rfl) (Nat.zero_le _) (by omega)
  | cons w ws =>
   rw [List.map_cons,Lib.join_cons] at hs
   have hj:Lib.joinTail [32] (ws.map (·.data.toList))=tL ws:=by
    unfold Lib.joinTail tL
    rw [List.map_map,List.flatMap_def]
    rfl
   rw [hj] at hs
   obtain ⟨q,h1,h2,h3,h4⟩:=Lh (s:=s) (a:=0) (f:=s.size) (pre:=[]) (.inl rfl) (hg w (by simp)) (Lg ws) (by rw [List.drop_zero,hs];rfl) (Nat.zero_le _)
   obtain ⟨i1,i2⟩:=E8 ws s.size s (0+([]:List UInt8).length+w.size) (fun x hx=>hg x (by simp [hx])) h2 (by omega) (by omega)
   rw [h1]
   exact ⟨i1,by rw [List.map_cons,i2,List.map_cons];rfl⟩
 have hb:lexB s=lexFrom (s.size+1) s 0:=by unfold lexB;rw [if_neg (by omega),if_pos key.1]
 rw [hb]
 exact key
/-! Which words stand by themselves. -/
theorem Li (p:UInt8→Bool)(hp:p 32=false){x r:List UInt8}(hx:∀ c ∈ x,p c=true)(hr:Bl r):span p (x++r)=x.length:=by
 refine ET p _ _ ?_ (by simp) (fun y hy=>?_)
 ·rw [List.take_left' rfl]
  exact List.all_eq_true.2 hx
 ·rw [List.getElem?_append_right (Nat.le_refl _),Nat.sub_self] at hy
  rcases hr with rfl | ⟨r',rfl⟩
  ·simp at hy
  ·simp at hy;rw [← hy];exact hp
theorem Lj {w:ByteArray}{c:UInt8}{l:List UInt8}(hw:w.data.toList=c :: l)(hc:isLet c=true)(hl:∀ x ∈ l,gP x=true):Gw w∧kd w=1:=by
 have hall:∀ x ∈ c :: l,gP x=true:=fun x hx=>by
  rcases List.mem_cons.1 hx with rfl | hx
  ·simp [gP,hc]
  ·exact hl x hx
 have hF:∀ r,Bl r→dP (w.data.toList++r)=(0,1,w.size,0):=fun r hr=>by
  have hs:=Li gP (by decide) hall hr
  rw [hw]
  simp only [List.cons_append,dP,hc,if_true]
  rw [List.cons_append] at hs
  rw [hs,← hw]
  rfl
 have h0:=hF [] (.inl rfl)
 rw [List.append_nil] at h0
 have hk:kd w=1:=by unfold kd;rw [h0]
 have hn:nu w=0:=by unfold nu;rw [h0]
 refine ⟨⟨⟨c,l,hw,?_,?_⟩,fun r hr=>by rw [hF r hr,hk,hn]⟩,hk⟩
 ·have:=of_decide_eq_true hc
  exact K3 (by omega)
 ·have:=of_decide_eq_true hc
  omega
theorem Uv {w:ByteArray}(h0:0<w.size)(nI:w.size≤15)(hl:∀ x ∈ w.data.toList,dB x=true):Gw w∧kd w=2∧nu w=kI w.data.toList:=by
 obtain ⟨c,l,hw⟩:∃ c l,w.data.toList=c :: l:=by
  cases h:w.data.toList with
  | nil=>have:w.data.toList.length=w.size:=rfl;rw [h] at this;simp at this;omega
  | cons c l=>exact ⟨c,l,rfl⟩
 have hc:dB c=true:=hl c (by rw [hw];simp)
 have hlet:isLet c=false:=by
  have:=of_decide_eq_true hc
  exact Uf (by omega)
 have hF:∀ r,Bl r→dP (w.data.toList++r)=(0,2,w.size,kI w.data.toList):=fun r hr=>by
  have hs:=Li dB (by decide) hl hr
  have hz:w.data.toList.length=w.size:=rfl
  rw [hz] at hs
  have ht:(w.data.toList++r).take w.size=w.data.toList:=List.take_left' hz
  rw [hw] at hs ht ⊢
  rw [List.cons_append] at hs ht ⊢
  simp only [dP,hlet,hc,if_true]
  rw [hs,ht]
  have Uw:¬ 15<w.size:=Nat.not_lt.2 nI
  simp [Uw]
 have h1:=hF [] (.inl rfl)
 rw [List.append_nil] at h1
 have hk:kd w=2:=by unfold kd;rw [h1]
 have hn:nu w=kI w.data.toList:=by unfold nu;rw [h1]
 refine ⟨⟨⟨c,l,hw,?_,?_⟩,fun r hr=>by rw [hF r hr,hk,hn]⟩,hk,hn⟩
 ·have:=of_decide_eq_true hc
  exact K3 (by omega)
 ·have:=of_decide_eq_true hc
  omega
theorem Ux (c:UInt8)(h1:one c=true)(hl:isLet c=false)(hd:dB c=false)(hb:jR c=false)(rJ:c.toNat≠35):Gw ⟨#[c]⟩∧kd ⟨#[c]⟩=3:=by
 have hF:∀ r,Bl r→dP ([c]++r)=(0,3,1,0):=fun r hr=>by
  have hs:iq (c :: r)=1:=by
   rcases hr with rfl | ⟨r',rfl⟩
   ·simp [iq,h1]
   ·have:(some (32:UInt8)==some 61)=false:=by decide
    simp [iq,h1]
  simp only [List.cons_append,List.nil_append,dP,hl,hd,hs]
  rfl
 have h0:dP [c]=(0,3,1,0):=hF [] (.inl rfl)
 have hk:kd ⟨#[c]⟩=3:=by show (dP [c]).2.1=3;rw [h0]
 have hn:nu ⟨#[c]⟩=0:=by show (dP [c]).2.2.2=0;rw [h0]
 exact ⟨⟨⟨c,[],rfl,hb,rJ⟩,fun r hr=>by rw [hk,hn];exact hF r hr⟩,hk⟩
theorem Uy (c:UInt8)(h1:two c=true)(hl:isLet c=false)(hd:dB c=false)(hb:jR c=false)(rJ:c.toNat≠35):Gw ⟨#[c,61]⟩∧kd ⟨#[c,61]⟩=3:=by
 have hF:∀ r,Bl r→dP ([c,61]++r)=(0,3,2,0):=fun r hr=>by
  have hs:iq (c :: 61 :: r)=2:=by simp [iq,h1]
  simp only [List.cons_append,List.nil_append,dP,hl,hd,hs]
  rfl
 have h0:dP [c,61]=(0,3,2,0):=hF [] (.inl rfl)
 have hk:kd ⟨#[c,61]⟩=3:=by show (dP [c,61]).2.1=3;rw [h0]
 have hn:nu ⟨#[c,61]⟩=0:=by show (dP [c,61]).2.2.2=0;rw [h0]
 exact ⟨⟨⟨c,[61],rfl,hb,rJ⟩,fun r hr=>by rw [hk,hn];exact hF r hr⟩,hk⟩
/-! Numbers as they are written. -/
theorem Ll {d:Nat}(h:d<10):dB (UInt8.ofNat (48+d))=true∧(UInt8.ofNat (48+d)).toNat - 48=d:=by
 have e:(UInt8.ofNat (48+d)).toNat=48+d:=by rw [UInt8.toNat_ofNat'];omega
 exact ⟨Ug (by omega),by omega⟩
theorem Uz (u:Nat):(∀ x ∈ Lib.decDigits u,dB x=true)∧kI (Lib.decDigits u)=u∧0<(Lib.decDigits u).length:=by
 induction u using Nat.strongRecOn with
 | ind u ih =>
  rw [Lib.decDigits]
  split
  ·rename_i h
   have:=Ll h
   exact ⟨fun x hx=>by rw [List.mem_singleton.1 hx];exact this.1,by show 0 * 10+_=u;rw [this.2];omega,Nat.zero_lt_one⟩
  ·rename_i h
   obtain ⟨i1,i2,i3⟩:=ih (u / 10) (by omega)
   have hd:=Ll (d:=u % 10) (by omega)
   refine ⟨fun x hx=>?_,?_,by simp⟩
   ·rcases List.mem_append.1 hx with hx | hx
    ·exact i1 x hx
    ·rw [List.mem_singleton.1 hx];exact hd.1
   ·rw [EX,i2,hd.2]
    omega
theorem UA (u:Nat)(h:u<10 ^ 15):(Lib.decDigits u).length≤15:=by
 rw [Lib.decDigits_length]
 by_cases h0:Lib.nDigits u≤15
 ·exact h0
 ·exfalso
  have key:∀ (k u:Nat),u<10 ^ (k+1)→Lib.nDigits u≤k+1:=by
   intro k
   induction k with
   | zero=>intro u hu;rw [Lib.nDigits_small (by simpa using hu)];omega
   | succ k ih =>
    intro u hu
    by_cases hs:u<10
    ·rw [Lib.nDigits_small hs];omega
    ·rw [Lib.nDigits_big hs]
     have:=ih (u / 10) (by rw [Nat.pow_succ] at hu;omega)
     omega
  have:=key 14 u h
  omega
end Lx
namespace Sy
structure Ty where
 kind:Int
 gen:ByteArray
structure Ex where
 kind:Int
 n:Int
 name:ByteArray
 kids:List Ex
structure St where
 kind:Int
 name:ByteArray
 x:Ex
 body:List St
 els:List St
structure Pm where
 name:ByteArray
 ty:Ty
structure Df where
 kind:Int
 name:ByteArray
 ty:Ty
 takes:Ty
 cap:Int
 params:List Pm
 body:List St
def nm (s:ByteArray):Bool:=Lx.named s.toList
def runs {α:Type}(f:α→Nat→Except Int Nat):List α→Nat→Except Int Nat
 | [],n=>.ok n
 | a :: l,n=>match f a n with
  | .ok m=>runs f l m
  | .error e=>.error e
def bB (kind most:Int)(d n:Nat):Int:=if 2000<n+1∨d=0 then 4 else if kind<1∨most<kind then 1 else 0
def bN (t:Ty):Int:=if t.kind<1∨3<t.kind then 1 else if t.kind=3∧nm t.gen=false then 7 else 0
def least (k:Int):Int:=if k=1∨k=2∨k=3∨k=20 then 0 else if k=4∨k=5∨k=21∨k=24 then 1 else if k=19∨k=22 then 0 else 2
def most (k:Int):Int:=if k=1∨k=2∨k=3∨k=20 then 0 else if k=4∨k=5∨k=21∨k=24 then 1 else if k=19∨k=22 then 6 else 2
def dU (x:Ex):Int :=
 if x.kind=1∧(x.n<0∨999999999999999<x.n)∨x.kind=2∧(x.n<0∨1<x.n) then 3
 else if (x.kind=3∨x.kind=19∨x.kind=20∨x.kind=22)∧nm x.name=false then 7
 else if (x.kids.length:Int)<least x.kind∨most x.kind<x.kids.length then 5
 else 0
def aF:Nat→Ex→Nat→Except Int Nat
 | 0,_,_=>.error 4
 | d+1,x,n =>
  if bB x.kind 24 (d+1) n≠0 then .error (bB x.kind 24 (d+1) n)
  else if dU x≠0 then .error (dU x)
  else runs (aF d) x.kids (n+1)
def cO (f:St→Nat→Except Int Nat)(l:List St)(n:Nat):Except Int Nat:=if 50<l.length then .error 5 else runs f l n
def dN (f:St→Nat→Except Int Nat)(s:St)(m:Nat):Except Int Nat :=
 if s.kind=3∨s.kind=4 then
  match cO f s.body m with
  | .error e=>.error e
  | .ok m2=>if s.kind=3 then cO f s.els m2 else .ok m2
 else .ok m
def aO:Nat→St→Nat→Except Int Nat
 | 0,_,_=>.error 4
 | d+1,s,n =>
  if bB s.kind 9 (d+1) n≠0 then .error (bB s.kind 9 (d+1) n)
  else if (s.kind=1∨s.kind=2∨s.kind=7)∧nm s.name=false then .error 7
  else if s.kind=6 then .ok (n+1)
  else match aF d s.x (n+1) with
   | .error e=>.error e
   | .ok m=>dN (aO d) s m
def xB (d:Nat)(l:List St)(n:Nat):Except Int Nat:=cO (aO d) l n
def fU:List Pm→Int
 | []=>0
 | p :: l=>if nm p.name=false then 7 else if bN p.ty≠0 then bN p.ty else fU l
def fw (d:Df)(n:Nat):Int :=
 if bB d.kind 4 40 n≠0 then bB d.kind 4 40 n
 else if nm d.name=false then 7
 else if (d.kind=2∨d.kind=3)∧6<d.params.length then 5
 else if (d.kind=2∨d.kind=3)∧fU d.params≠0 then fU d.params
 else if d.kind=3∧bN d.takes≠0 then bN d.takes
 else if d.kind≠4∧bN d.ty≠0 then bN d.ty
 else if d.kind=1∧(d.cap<1∨20<d.cap) then 3
 else 0
def dX (d:Df)(n:Nat):Except Int Nat :=
 if fw d n≠0 then .error (fw d n) else if d.kind=1 then .ok (n+1) else xB 39 d.body (n+1)
def iB:List Df→Nat→Nat→Int × Nat
 | [],_,_=>(0,0)
 | d :: l,i,n=>match dX d n with
  | .error e=>(e,i)
  | .ok m=>iB l (i+1) m
def dx (l:List Df):Int × Nat:=if 30<l.length then (5,0) else iB l 0 0
theorem iC {kind most:Int}{d n:Nat}(h:bB kind most d n=0):n+1≤2000∧1≤kind∧kind≤most∧d≠0:=by
 unfold bB at h
 split at h
 ·omega
 ·split at h
  ·omega
  ·omega
theorem E9 {α:Type}{f:α→Nat→Except Int Nat}(hf:∀ a n m,n≤2000→f a n=.ok m→m≤2000):∀ (l:List α) (n m:Nat),n≤2000→runs f l n=.ok m→m≤2000
 | [],n,m,hn,h=>by simp [runs] at h;omega
 | a :: l,n,m,hn,h=>by
  unfold runs at h
  cases ha:f a n with
  | error e=>rw [ha] at h;simp at h
  | ok k=>rw [ha] at h;exact E9 hf l k m (hf a n k hn ha) h
theorem jw:∀ (d:Nat) (x:Ex) (n m:Nat),n≤2000→aF d x n=.ok m→m≤2000
 | 0,x,n,m,_,h=>by simp [aF] at h
 | d+1,x,n,m,hn,h=>by
  unfold aF at h
  split at h
  ·simp at h
  ·rename_i h0
   have:=iC (by simpa using h0:bB x.kind 24 (d+1) n=0)
   split at h
   ·simp at h
   ·exact E9 (jw d) _ _ _ (by omega) h
theorem o8 {f:St→Nat→Except Int Nat}(hf:∀ a n m,n≤2000→f a n=.ok m→m≤2000){l:List St}{n m:Nat}(hn:n≤2000)(h:cO f l n=.ok m):m≤2000:=by
 unfold cO at h
 split at h
 ·simp at h
 ·exact E9 hf _ _ _ hn h
theorem nJ:∀ (d:Nat) (x:St) (n m:Nat),n≤2000→aO d x n=.ok m→m≤2000
 | 0,x,n,m,_,h=>by simp [aO] at h
 | d+1,x,n,m,hn,h=>by
  unfold aO at h
  split at h
  ·simp at h
  ·rename_i h0
   have:=iC (by simpa using h0:bB x.kind 9 (d+1) n=0)
   split at h
   ·simp at h
   ·split at h
    ·simp at h;omega
    ·cases he:aF d x.x (n+1) with
     | error e=>rw [he] at h;simp at h
     | ok k =>
      rw [he] at h
      have hk:=jw _ _ _ _ (by omega) he
      simp only [dN] at h
      split at h
      ·cases hb:cO (aO d) x.body k with
       | error e=>rw [hb] at h;simp at h
       | ok k2 =>
        rw [hb] at h
        have hk2:=o8 (nJ d) hk hb
        simp only at h
        split at h
        ·exact o8 (nJ d) hk2 h
        ·simp at h;omega
      ·simp at h;omega
theorem Lm {α:Type}{f:α→Nat→Except Int Nat}{l:List α}{k:Nat}{a:α}(h:l[k]?=some a)(n:Nat) :
  runs f (l.drop k) n=match f a n with
   | .ok m=>runs f (l.drop (k+1)) m
   | .error e=>.error e:=by
 obtain ⟨hk,rfl⟩:=List.getElem?_eq_some_iff.1 h
 rw [List.drop_eq_getElem_cons hk]
 rfl
end Sy
end Go.Proofs.YtolfleeidpeomaaGreatDoor

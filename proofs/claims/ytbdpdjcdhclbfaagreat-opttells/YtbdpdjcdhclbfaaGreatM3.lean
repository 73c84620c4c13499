/- What speak and reckon need besides: rows of one and two types that are laid for a call. -/
import Derived.Test.YtbdpdjcdhclbfaaGreatM2
namespace Go.Proofs.YtbdpdjcdhclbfaaGreat
open Go.RowKit
abbrev aj (op a nn:Int):Obj:=.cells #[.int .i64 op,.int .i64 a,.int .i64 nn] 47 (0,0)
theorem alloc_at (w:World)(o:Obj):(w.alloc o).heap[w.heap.size]?=some o:=heap_alloc_new w o
theorem Pf (c:FC)(F N:Nat)(top:Option Addr)(st:List Int)(f:Vf.Fl)(n:Int)(row:Value)(t:Int)(l:List Int)(cp:Nat)(w:World)(h:Hid (aB c w F top st f n row))(hl:st.length<900)(hll:l.length<1000)(h64:∀ x ∈ l,dA x)(hq:w.heap[N]?=some (.cells (l.map (Value.int .i64)).toArray 3 (0,0)))(hN:N≠F)(r:Except Int (List Int))(hr:Hid (r=Vf.turn t l st)) :
  Calls Tryz.prog 86 #[.pointer (some ⟨F,0,none⟩),.int .i64 t,.slice (some ⟨N,0,none⟩) l.length cp] w fun e w'=>ay c F f n row r w e w' :=
 Lc c F w.heap.size top st f n row t l (some ⟨N,0,none⟩) cp w h hl hll (hide (O5 hq (lt_of_block hq) h64)) (Nat.le_refl _) (hide (fun b off e _=>by cases e;exact hN)) r hr
theorem GN (c:FC)(F N:Nat)(top:Option Addr)(st:List Int)(f:Vf.Fl)(n:Int)(row:Value)(t x:Int)(w:World)(h:Hid (aB c w F top st f n row))(hl:st.length<900)(h64:Hid (dA x))(hq:w.heap[N]?=some (.cells #[.int .i64 x] 3 (0,0)))(hN:N≠F)(r:Except Int (List Int))(hr:Hid (r=Vf.turn t [x] st)) :
  Calls Tryz.prog 86 #[.pointer (some ⟨F,0,none⟩),.int .i64 t,.slice (some ⟨N,0,none⟩) 1 1] w fun e w'=>ay c F f n row r w e w' :=
 Pf c F N top st f n row t [x] 1 w h hl (by simp) (by simpa using h64.out) hq hN r hr
theorem zQ (c:FC)(F N:Nat)(top:Option Addr)(st:List Int)(f:Vf.Fl)(n:Int)(row:Value)(t x y:Int)(w:World)(h:Hid (aB c w F top st f n row))(hl:st.length<900)(h64:Hid (dA x∧dA y))(hq:w.heap[N]?=some (.cells #[.int .i64 x,.int .i64 y] 3 (0,0)))(hN:N≠F)(r:Except Int (List Int))(hr:Hid (r=Vf.turn t [x,y] st)) :
  Calls Tryz.prog 86 #[.pointer (some ⟨F,0,none⟩),.int .i64 t,.slice (some ⟨N,0,none⟩) 2 2] w fun e w'=>ay c F f n row r w e w' :=
 Pf c F N top st f n row t [x,y] 2 w h hl (by simp) (by intro z hz;simp at hz;rcases hz with rfl | rfl;exact h64.out.1;exact h64.out.2) hq hN r hr
theorem Jo (c:FC)(F N:Nat)(top:Option Addr)(st:List Int)(f:Vf.Fl)(n:Int)(row:Value)(x:Int)(w:World)(h:Hid (aB c w F top st f n row))(hl:st.length<1000)(h64:Hid (dA x))(hq:w.heap[N]?=some (.cells #[.int .i64 x] 3 (0,0)))(hN:N≠F)(r:Except Int (List Int))(hr:Hid (r=Vf.jy [x] st)) :
  Calls Tryz.prog 84 #[.pointer (some ⟨F,0,none⟩),.slice (some ⟨N,0,none⟩) 1 1] w fun e w'=>ay c F f n row r w e w' :=
 O1 c F w.heap.size top st f n row [x] (some ⟨N,0,none⟩) 1 w h hl (by simp) (hide (O5 hq (lt_of_block hq) (by simpa using h64.out))) (Nat.le_refl _) (hide (fun b off e _=>by cases e;exact hN)) r hr
structure Rt (m:Vf.Md):Prop where
 units:m.units.length≤30
 boxes:∀ (k:Nat) b,m.boxes[k]?=some b→Vf.plain b.ty=true
 heads:∀ (k:Nat) u,m.units[k]?=some u→Vf.jr m u=0∧Vf.Forms m u
theorem Ao {m:Vf.Md}{u:Vf.Un}(h:Vf.jr m u=0):Vf.zo u=true∧Vf.sized u=true∧Vf.typed m u=true:=by
 unfold Vf.jr at h;cases h1:Vf.zo u
 ·rw[h1] at h;simp at h
 ·cases h2:Vf.sized u
  ·rw[h1,h2] at h;simp at h
  ·cases h3:Vf.typed m u
   ·rw[h1,h2,h3] at h;simp at h
   ·exact⟨rfl,rfl,rfl⟩
theorem EE {u:Vf.Un}(h:Vf.sized u=true):u.locals.length≤200∧0≤u.params∧u.params≤u.locals.length∧u.params≤6∧0<u.code.length∧u.code.length≤4000:=by
 unfold Vf.sized at h;simp only[Bool.and_eq_true,decide_eq_true_eq] at h;obtain⟨⟨⟨⟨h1,h2⟩,h3⟩,h4⟩,h5⟩:=h;split at h3<;>omega
theorem yj {m:Vf.Md}{u:Vf.Un}{c:Vf.Ins}(h:Vf.aA m u c=0):1≤c.op∧c.op≤32∧Vf.ranged m u c=true:=by
 unfold Vf.aA at h;split at h
 ·cases h
 ·split at h
  ·cases h
  ·rename_i h1 h2
   exact⟨by omega,by omega,by simpa using h2⟩
theorem Lf {m:Vf.Md}{k:Nat}{u:Vf.Un}(h:m.units[k]?=some u):Vf.unit m (k:Int)=u:=by
 unfold Vf.unit;simp[h]
theorem Pg {m:Vf.Md}{k:Nat}{b:Vf.Bx}(h:m.boxes[k]?=some b):Vf.wH m (k:Int)=b.ty:=by
 unfold Vf.wH;simp[h]
theorem Ph {u:Vf.Un}{k:Nat}{t:Int}(h:u.locals[k]?=some t):Vf.xu u (k:Int)=t:=by
 unfold Vf.xu;simp[h]
theorem EF {w:World}{N:Nat}{op a nn:Int}(h:w.heap[N]?=some (aj op a nn)):w.cell? ⟨N,0,none⟩=some (.int .i64 op)∧w.cell? ⟨N,1,none⟩=some (.int .i64 a)∧w.cell? ⟨N,2,none⟩=some (.int .i64 nn):=by
 simp[World.cell?,h]
theorem FP (w:World)(o:Obj){b off:Nat}(h:b<w.heap.size):(w.alloc o).cell? ⟨b,off,none⟩=w.cell? ⟨b,off,none⟩:=gZ (Below.heap_alloc _ _ _ h) _
end Go.Proofs.YtbdpdjcdhclbfaaGreat
namespace Go.Proofs.YtbdpdjcdhclbfaaGreat
def NZ {α:Type}(r:Except Int α):Prop:=∀ e,r=.error e→e≠0
theorem NZ.ok {α:Type}(x:α):NZ (.ok x):=fun e h=>by cases h
theorem NZ.err {α:Type}{e:Int}(h:e≠0):NZ (.error e:Except Int α):=fun e' h'=>by cases h';exact h
theorem NZ.andThen {α β:Type}{r:Except Int α}{f:α→Except Int β}(h:NZ r)(hf:∀ x,r=.ok x→NZ (f x)):NZ (Vf.andThen r f):=by
 cases r with
 | error e=>exact .err (h e rfl)
 | ok x=>exact hf x rfl
theorem ic {α:Type}{P:α→Prop}{c:Prop}[Decidable c]{a b:α}(h1:c→P a)(h2:¬ c→P b):P (if c then a else b):=by
 by_cases h:c
 ·rw[if_pos h];exact h1 h
 ·rw[if_neg h];exact h2 h
theorem EG (t:Int)(st:List Int):NZ (Vf.put t st):=by
 unfold Vf.put;split
 ·exact .ok _
 ·exact .err (by decide)
theorem FQ:∀ (ts st:List Int),NZ (Vf.jy ts st)
 | [],st=>.ok _
 | _ :: _,[]=>.err (by decide)
 | t :: ts,x :: r=>by
  unfold Vf.jy;split
  ·exact FQ ts r
  ·exact .err (by decide)
theorem BH (t:Int)(l st:List Int):NZ (Vf.turn t l st):=(FQ _ _).andThen fun _ _=>EG _ _
theorem Jp (st:List Int):NZ (Vf.pop st):=by
 cases st with
 | nil=>exact .err (by decide)
 | cons t r=>exact .ok _
theorem EH {b:Bool}{e:Int}(he:e≠0)(st:List Int):NZ (Vf.must b e st):=by
 unfold Vf.must;split
 ·exact .ok _
 ·exact .err he
theorem Pj (st:List Int):NZ (Vf.yf st):=(Jp st).andThen fun p _=>by
 split
 ·exact .ok _
 ·exact .err (by decide)
theorem Pk (st:List Int):NZ (Vf.vW st):=(Jp st).andThen fun p _=>by
 split
 ·exact .ok _
 ·exact .err (by decide)
theorem VE (m:Vf.Md)(st:List Int):NZ (Vf.resume m st):=(Jp st).andThen fun _ _=>(Pk _).andThen fun _ _=>(EH (by decide) _).andThen fun _ _=>EG _ _
theorem VF (m:Vf.Md)(u:Vf.Un)(c:Vf.Ins)(st:List Int):NZ (Vf.speak m u c st):=by
 unfold Vf.speak;refine ic (P:=NZ) (fun h1=>?_) (fun g1=>?_)
 ·exact BH _ _ _
 refine ic (P:=NZ) (fun h1=>?_) (fun g2=>?_)
 ·exact BH _ _ _
 refine ic (P:=NZ) (fun h1=>?_) (fun g3=>?_)
 ·exact FQ _ _
 refine ic (P:=NZ) (fun h1=>?_) (fun g4=>?_)
 ·exact EG _ _
 refine ic (P:=NZ) (fun h1=>?_) (fun g5=>?_)
 ·exact VE _ _
 refine ic (P:=NZ) (fun h1=>?_) (fun g6=>?_)
 ·exact (Pk _).andThen fun _ _=>EG _ _
 refine ic (P:=NZ) (fun h1=>?_) (fun g7=>?_)
 ·exact (EH (by decide) _).andThen fun _ _=>BH _ _ _
 refine ic (P:=NZ) (fun h1=>?_) (fun g8=>?_)
 ·exact (EH (by decide) _).andThen fun _ _=>(FQ _ _).andThen fun _ _=>EH (by decide) _
 refine ic (P:=NZ) (fun h1=>?_) (fun g9=>?_)
 ·exact (EH (by decide) _).andThen fun _ _=>EH (by decide) _
 ·exact .ok _
theorem zR (m:Vf.Md)(u:Vf.Un)(c:Vf.Ins)(k:Vf.Kn):NZ (Vf.jA m u c k):=by
 unfold Vf.jA;refine ic (P:=NZ) (fun h1=>?_) (fun g1=>?_)
 ·exact EG _ _
 refine ic (P:=NZ) (fun h1=>?_) (fun g2=>?_)
 ·exact EG _ _
 refine ic (P:=NZ) (fun h1=>?_) (fun g3=>?_)
 ·exact (EH (by decide) _).andThen fun _ _=>EG _ _
 refine ic (P:=NZ) (fun h1=>?_) (fun g4=>?_)
 ·exact FQ _ _
 refine ic (P:=NZ) (fun h1=>?_) (fun g5=>?_)
 ·exact (Jp _).andThen fun _ _=>.ok _
 refine ic (P:=NZ) (fun h1=>?_) (fun g6=>?_)
 ·exact BH _ _ _
 refine ic (P:=NZ) (fun h1=>?_) (fun g7=>?_)
 ·exact BH _ _ _
 refine ic (P:=NZ) (fun h1=>?_) (fun g8=>?_)
 ·exact BH _ _ _
 refine ic (P:=NZ) (fun h1=>?_) (fun g9=>?_)
 ·exact BH _ _ _
 refine ic (P:=NZ) (fun h1=>?_) (fun g10=>?_)
 ·exact BH _ _ _
 refine ic (P:=NZ) (fun h1=>?_) (fun g11=>?_)
 ·exact (Pj _).andThen fun _ _=>BH _ _ _
 refine ic (P:=NZ) (fun h1=>?_) (fun g12=>?_)
 ·exact (Pj _).andThen fun _ _=>.ok _
 refine ic (P:=NZ) (fun h1=>?_) (fun g13=>?_)
 ·exact FQ _ _
 ·exact VF _ _ _ _
theorem VG (len:Nat)(k:Vf.Kn)(t:Int)(s:Vf.S):NZ (Vf.sU len k t s):=by
 unfold Vf.sU;split
 ·split
  ·exact .ok _
  ·split
   ·split
    ·exact .ok _
    ·exact .ok _
   ·exact .err (by decide)
 ·exact .err (by decide)
theorem Pm (len:Nat)(k:Vf.Kn):∀ (l:List Int) (s:Vf.S),NZ (Vf.jf len k l s)
 | [],_=>.ok _
 | _ :: l,_=>(VG _ _ _ _).andThen fun s' _=>Pm len k l s'
theorem Pn (m:Vf.Md)(u:Vf.Un)(n:Nat)(s:Vf.S):NZ (Vf.look m u n s):=by
 unfold Vf.look;split
 ·exact ((zR _ _ _ _).andThen fun _ _=>.ok _).andThen fun _ _=>Pm _ _ _ _
 ·exact .ok _
def yl (m:Vf.Md)(t:Int):Prop:=Vf.plain t=true∨(10≤t∧Vf.is m 3 (t - 10)=true)
def aQ (m:Vf.Md)(st:List Int):Prop:=xN m st∧st.length≤300
def Ok {α:Type}(p:α→Prop)(r:Except Int α):Prop:=∀ x,r=.ok x→p x
theorem Ok.andThen {α β:Type}{p:α→Prop}{q:β→Prop}{r:Except Int α}{f:α→Except Int β}(h:Ok p r)(hf:∀ x,p x→Ok q (f x)):Ok q (Vf.andThen r f):=by
 cases r with
 | error e=>intro x hx;cases hx
 | ok x=>exact hf x (h x rfl)
theorem EI {m:Vf.Md}{t:Int}{st:List Int}(ht:yl m t)(h:aQ m st):Ok (aQ m) (Vf.put t st):=by
 intro x hx;unfold Vf.put at hx;split at hx
 ·cases hx
  refine⟨fun y hy=>?_,by simp;omega⟩;rcases List.mem_cons.1 hy with rfl | hy
  ·exact ht
  ·exact h.1 y hy
 ·cases hx
theorem aQ.tail {m:Vf.Md}{t:Int}{st:List Int}(h:aQ m (t :: st)):aQ m st:=⟨fun x hx=>h.1 x (List.mem_cons_of_mem _ hx),by have:=h.2;simp at this;omega⟩
theorem FR {m:Vf.Md}:∀ (ts st:List Int),aQ m st→Ok (aQ m) (Vf.jy ts st)
 | [],st,h=>fun x hx=>by cases hx;exact h
 | _ :: _,[],_=>fun x hx=>by cases hx
 | t :: ts,y :: r,h=>fun x hx=>by
  unfold Vf.jy at hx;split at hx
  ·exact FR ts r h.tail x hx
  ·cases hx
theorem BI {m:Vf.Md}{t:Int}{l st:List Int}(ht:yl m t)(h:aQ m st):Ok (aQ m) (Vf.turn t l st):=(FR _ _ h).andThen fun _ h=>EI ht h
theorem Jq {m:Vf.Md}{st:List Int}(h:aQ m st):Ok (fun p=>yl m p.1∧aQ m p.2) (Vf.pop st):=fun x hx=>by
 cases st with
 | nil=>cases hx
 | cons t r=>cases hx;exact⟨h.1 t List.mem_cons_self,h.tail⟩
theorem Po {m:Vf.Md}{st:List Int}(h:aQ m st):Ok (fun p=>yl m p.1∧aQ m p.2) (Vf.yf st):=(Jq h).andThen fun p hp x hx=>by
 split at hx
 ·cases hx;exact hp
 ·cases hx
theorem Pp {m:Vf.Md}{st:List Int}(h:aQ m st):Ok (fun p=>(10≤p.1∧yl m p.1)∧aQ m p.2) (Vf.vW st):=(Jq h).andThen fun p hp x hx=>by
 split at hx
 ·cases hx;exact⟨⟨by assumption,hp.1⟩,hp.2⟩
 ·cases hx
theorem EJ {m:Vf.Md}{b:Bool}{e:Int}{st:List Int}(h:aQ m st):Ok (aQ m) (Vf.must b e st):=fun x hx=>by
 unfold Vf.must at hx;split at hx
 ·cases hx;exact h
 ·cases hx
theorem zS {m:Vf.Md}{u:Vf.Un}(h:Vf.jr m u=0):(u.kind=4∨Vf.plain u.result=true)∧(u.kind≠3∨Vf.plain u.takes=true)∧∀ t ∈ u.locals,yl m t:=by
 obtain⟨_,_,h3⟩:=Ao h;unfold Vf.typed Vf.heads at h3;simp only[Bool.and_eq_true,Bool.or_eq_true,beq_iff_eq,bne_iff_ne,List.all_eq_true] at h3;obtain⟨⟨h4,h5⟩,h6⟩:=h3;refine⟨h4,h5,fun t ht=>?_⟩;rcases h6 t ht with h7 | h7
 ·exact .inl h7
 ·obtain⟨_,_,_,h8⟩:=yh h7
  exact .inr ⟨by omega,h7⟩
theorem Lg (m:Vf.Md):yl m 1:=.inl rfl
theorem FT (m:Vf.Md):yl m 2:=.inl rfl
theorem Pq {m:Vf.Md}(hR:Rt m){k:Nat}{x:Vf.Un}(hx:m.units[k]?=some x)(hk:x.kind≠4):yl m x.result:=by
 rcases (zS (hR.heads k x hx).1).1 with h | h
 ·exact absurd h hk
 ·exact .inl h
theorem DR {m:Vf.Md}{kd a:Int}(h:Vf.is m kd a=true):∃ k:Nat,a=k∧m.units[k]?=some (Vf.unit m a)∧(Vf.unit m a).kind=kd:=by
 obtain⟨x,h1,h2,h3⟩:=yh h;have e:Vf.unit m a=x:=by unfold Vf.unit;rw[h1];rfl
 exact⟨a.toNat,by omega,by rw[e];exact h1,by rw[e];exact h2⟩
theorem VH {m:Vf.Md}{u:Vf.Un}{c:Vf.Ins}{st:List Int}(hR:Rt m)(hu:Vf.jr m u=0)(hf:Vf.aA m u c=0)(h:aQ m st):Ok (aQ m) (Vf.speak m u c st):=by
 obtain⟨_,_,hrg⟩:=yj hf;unfold Vf.speak;refine ic (P:=Ok (aQ m)) (fun h1=>?_) (fun g1=>?_)
 ·have h2:Vf.is m 2 c.a=true:=by
   rw[← hrg];unfold Vf.ranged;rw[if_neg (by omega),if_neg (by omega),if_neg (by omega),if_pos h1]
  obtain⟨k,_,h3,h4⟩:=DR h2;exact BI (Pq hR h3 (by omega)) h
 refine ic (P:=Ok (aQ m)) (fun h1=>?_) (fun g2=>?_)
 ·have h2:Vf.is m 3 c.a=true:=by
   rw[← hrg];unfold Vf.ranged;rw[if_neg (by omega),if_neg (by omega),if_neg (by omega),if_neg (by omega),if_pos h1]
  obtain⟨k,h5,_,_⟩:=DR h2;exact BI (.inr ⟨by omega,by rw[show 10+c.a - 10=c.a by omega];exact h2⟩) h
 refine ic (P:=Ok (aQ m)) (fun h1=>?_) (fun g3=>?_)
 ·exact FR _ _ h
 refine ic (P:=Ok (aQ m)) (fun h1=>?_) (fun g4=>?_)
 ·have h2:(decide (0≤c.a) && decide (c.a<m.boxes.length))=true:=by
   rw[← hrg];unfold Vf.ranged;rw[if_neg (by omega),if_neg (by omega),if_neg (by omega),if_neg (by omega),if_neg (by omega),if_pos (.inr h1)]
  simp only[Bool.and_eq_true,decide_eq_true_eq] at h2;have h3:m.boxes[c.a.toNat]?=some m.boxes[c.a.toNat]:=List.getElem?_eq_getElem (by omega);refine EI (.inl ?_) h;unfold Vf.wH;rw[h3];exact hR.boxes _ _ h3
 refine ic (P:=Ok (aQ m)) (fun h1=>?_) (fun g5=>?_)
 ·refine (Jq h).andThen fun p hp=>(Pp hp.2).andThen fun g hg=>(EJ hg.2).andThen fun st' hst=>EI ?_ hst
  rcases hg.1.2 with h1 | ⟨_,h1⟩
  ·have:=hg.1.1
   unfold Vf.plain at h1;simp at h1;omega
  ·obtain⟨k,_,h3,h4⟩:=DR h1
   exact Pq hR h3 (by omega)
 refine ic (P:=Ok (aQ m)) (fun h1=>?_) (fun g6=>?_)
 ·exact (Pp h).andThen fun g hg=>EI (FT m) hg.2
 refine ic (P:=Ok (aQ m)) (fun h1=>?_) (fun g7=>?_)
 ·intro x hx
  by_cases hk:u.kind=3
  ·refine ((EJ h).andThen fun st' hst=>BI ?_ hst) x hx
   rcases (zS hu).2.1 with h1 | h1
   ·exact absurd hk h1
   ·exact .inl h1
  ·have e:(u.kind==3)=false:=by simpa using hk
   rw[e] at hx;cases hx
 refine ic (P:=Ok (aQ m)) (fun h1=>?_) (fun g8=>?_)
 ·exact (EJ h).andThen fun _ h=>(FR _ _ h).andThen fun _ h=>EJ h
 refine ic (P:=Ok (aQ m)) (fun h1=>?_) (fun g9=>?_)
 ·exact (EJ h).andThen fun _ h=>EJ h
 ·intro x hx;cases hx;exact h
theorem Ps {m:Vf.Md}{u:Vf.Un}{c:Vf.Ins}{k:Vf.Kn}(hR:Rt m)(hu:Vf.jr m u=0)(hf:Vf.aA m u c=0)(h:aQ m k.st):Ok (aQ m) (Vf.jA m u c k):=by
 obtain⟨_,_,hrg⟩:=yj hf;unfold Vf.jA;refine ic (P:=Ok (aQ m)) (fun h1=>?_) (fun g1=>?_)
 ·exact EI (Lg m) h
 refine ic (P:=Ok (aQ m)) (fun h1=>?_) (fun g2=>?_)
 ·exact EI (FT m) h
 refine ic (P:=Ok (aQ m)) (fun h1=>?_) (fun g3=>?_)
 ·have h2:(decide (0≤c.a) && decide (c.a<u.locals.length))=true:=by
   rw[← hrg];unfold Vf.ranged;rw[if_neg (by omega),if_pos (.inl h1)]
  simp only[Bool.and_eq_true,decide_eq_true_eq] at h2;have h3:u.locals[c.a.toNat]?=some u.locals[c.a.toNat]:=List.getElem?_eq_getElem (by omega);refine (EJ h).andThen fun _ h=>EI ?_ h;unfold Vf.xu;rw[h3];exact (zS hu).2.2 _ (List.mem_of_getElem? h3)
 refine ic (P:=Ok (aQ m)) (fun h1=>?_) (fun g4=>?_)
 ·exact FR _ _ h
 refine ic (P:=Ok (aQ m)) (fun h1=>?_) (fun g5=>?_)
 ·exact (Jq h).andThen fun p hp x hx=>by cases hx;exact hp.2
 refine ic (P:=Ok (aQ m)) (fun h1=>?_) (fun g6=>?_)
 ·exact BI (Lg m) h
 refine ic (P:=Ok (aQ m)) (fun h1=>?_) (fun g7=>?_)
 ·exact BI (FT m) h
 refine ic (P:=Ok (aQ m)) (fun h1=>?_) (fun g8=>?_)
 ·exact BI (Lg m) h
 refine ic (P:=Ok (aQ m)) (fun h1=>?_) (fun g9=>?_)
 ·exact BI (FT m) h
 refine ic (P:=Ok (aQ m)) (fun h1=>?_) (fun g10=>?_)
 ·exact BI (FT m) h
 refine ic (P:=Ok (aQ m)) (fun h1=>?_) (fun g11=>?_)
 ·exact (Po h).andThen fun p hp=>BI (FT m) hp.2
 refine ic (P:=Ok (aQ m)) (fun h1=>?_) (fun g12=>?_)
 ·exact (Po h).andThen fun p hp x hx=>by cases hx;exact hp.2
 refine ic (P:=Ok (aQ m)) (fun h1=>?_) (fun g13=>?_)
 ·exact FR _ _ h
 ·exact VH hR hu hf h
structure Inv (m:Vf.Md) (u:Vf.Un) (s:Vf.S):Prop where
 come:∀ i k,s.come i=some k→i<u.code.length∧aQ m k.st
 row:∀ i ∈ s.row,∃ k,s.come i=some k
theorem EK {m:Vf.Md}{u:Vf.Un}{s:Vf.S}{i:Nat}{k:Vf.Kn}(h:Inv m u s)(hi:i<u.code.length)(hk:aQ m k.st):Inv m u (s.note i k):=by
 refine⟨fun j kj hj=>?_,fun j hj=>?_⟩
 ·have hj':(if j=i then some k else s.come j)=some kj:=hj
  split at hj'
  ·cases hj';subst_vars;exact⟨hi,hk⟩
  ·exact h.come j kj hj'
 ·show ∃ k',(if j=i then some k else s.come j)=some k'
  by_cases hji:j=i
  ·exact⟨k,if_pos hji⟩
  ·rw[if_neg hji]
   rcases List.mem_append.1 hj with h1 | h1
   ·exact h.row j h1
   ·simp at h1;exact absurd h1 hji
theorem Pt {m:Vf.Md}{u:Vf.Un}{s s':Vf.S}{k:Vf.Kn}{t:Int}(h:Inv m u s)(h0:0≤t)(hk:aQ m k.st)(hg:Vf.sU u.code.length k t s=.ok s'):Inv m u s'∧s'.row.length≤s.row.length+1:=by
 unfold Vf.sU at hg;split at hg
 ·rename_i hlt
  have hn:t.toNat<u.code.length:=by omega
  split at hg
  ·cases hg
   exact⟨EK h hn hk,by simp[Vf.S.note]⟩
  ·rename_i kt hc
   split at hg
   ·rename_i hst
    split at hg
    ·cases hg;exact⟨h,by omega⟩
    ·cases hg
     exact⟨EK h hn (by show aQ m kt.st;rw[hst];exact hk),by simp[Vf.S.note]⟩
   ·cases hg
 ·cases hg
theorem Lh {m:Vf.Md}{u:Vf.Un}{k:Vf.Kn}(hk:aQ m k.st):∀ {l:List Int} {s s':Vf.S},Inv m u s→(∀ t ∈ l,0≤t)→Vf.jf u.code.length k l s=.ok s'→Inv m u s'
 | [],_,_,h,_,hg=>by cases hg;exact h
 | t :: l,s,s',h,h0,hg=>by
  unfold Vf.jf Vf.andThen at hg;split at hg
  ·cases hg
  ·rename_i s1 h1
   exact Lh hk (Pt h (h0 t List.mem_cons_self) hk h1).1 (fun t ht=>h0 t (List.mem_cons_of_mem _ ht)) hg
theorem zT {m:Vf.Md}{u:Vf.Un}{c:Vf.Ins}{k k':Vf.Kn}(hR:Rt m)(hu:Vf.jr m u=0)(hf:Vf.aA m u c=0)(h:aQ m k.st)(hk:Vf.rT m u c k=.ok k'):aQ m k'.st:=by
 unfold Vf.rT Vf.andThen at hk;split at hk
 ·cases hk
 ·rename_i st hst
  cases hk;exact Ps hR hu hf h st hst
namespace Vf
def wK (f g:Fl):Prop:=∀ i,f.has i=true→g.has i=true
theorem wK.refl (f:Fl):wK f f:=fun _ h=>h
theorem wK.trans {f g h:Fl}(a:wK f g)(b:wK g h):wK f h:=fun i hi=>b i (a i hi)
theorem wK.both (f g:Fl):wK (f.both g) f∧wK (f.both g) g:=by
 refine⟨fun i h=>?_,fun i h=>?_⟩<;>(rw[has_both] at h;simp at h;first | exact h.1 | exact h.2)
structure Gr (s s':S):Prop where
 old:∀ n k0,s.come n=some k0→∃ k1,s'.come n=some k1∧k1.st=k0.st∧wK k1.fl k0.fl
 new:∀ n k1,s'.come n=some k1→s.come n=some k1∨n ∈ s'.row
 row:∀ n,n ∈ s.row→n ∈ s'.row
theorem Gr.refl (s:S):Gr s s:=⟨fun _ k h=>⟨k,h,rfl,.refl _⟩,fun _ _ h=>.inl h,fun _ h=>h⟩
theorem Gr.trans {a b c:S}(h:Gr a b)(k:Gr b c):Gr a c :=
 ⟨fun n k0 h0=>by
  obtain⟨k1,h1,e1,l1⟩:=h.old n k0 h0;obtain⟨k2,h2,e2,l2⟩:=k.old n k1 h1;exact⟨k2,h2,e2.trans e1,l2.trans l1⟩,
  fun n k1 h1=>by
  rcases k.new n k1 h1 with h2 | h2
  ·rcases h.new n k1 h2 with h3 | h3
   ·exact .inl h3
   ·exact .inr (k.row n h3)
  ·exact .inr h2,
  fun n hn=>k.row n (h.row n hn)⟩
end Vf
end Go.Proofs.YtbdpdjcdhclbfaaGreat

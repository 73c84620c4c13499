/- What speak and reckon need besides: rows of one and two types that are laid for a call. -/
import Derived.Test.YtfcpglhpolpdcaaGreatDoorM2
namespace Go.Proofs.YtfcpglhpolpdcaaGreatDoor
open Go.RowKit
abbrev ai (op a nn:Int):Obj:=.cells #[.int .i64 op,.int .i64 a,.int .i64 nn] 147 (0,0)
theorem alloc_at (w:World)(o:Obj):(w.alloc o).heap[w.heap.size]?=some o:=heap_alloc_new w o
theorem Mq (c:FC)(F N:Nat)(top:Option Addr)(st:List Int)(f:Vf.Fl)(n:Int)(row:Value)(t:Int)(l:List Int)(cp:Nat)(w:World)(h:Hid (ay c w F top st f n row))(hl:st.length<900)(hll:l.length<1000)(h64:∀ x ∈ l,bP x)(hq:w.heap[N]?=some (.cells (l.map (Value.int .i64)).toArray 3 (0,0)))(hN:N≠F)(r:Except Int (List Int))(hr:Hid (r=Vf.turn t l st)) :
  Calls Tryz.prog 176 #[.pointer (some ⟨F,0,none⟩),.int .i64 t,.slice (some ⟨N,0,none⟩) l.length cp] w fun e w'=>ax c F f n row r w e w' :=
 Gc c F w.heap.size top st f n row t l (some ⟨N,0,none⟩) cp w h hl hll (hide (Mh hq (lt_of_block hq) h64)) (Nat.le_refl _) (hide (fun b off e _=>by cases e;exact hN)) r hr
theorem zu (c:FC)(F N:Nat)(top:Option Addr)(st:List Int)(f:Vf.Fl)(n:Int)(row:Value)(t x:Int)(w:World)(h:Hid (ay c w F top st f n row))(hl:st.length<900)(h64:Hid (bP x))(hq:w.heap[N]?=some (.cells #[.int .i64 x] 3 (0,0)))(hN:N≠F)(r:Except Int (List Int))(hr:Hid (r=Vf.turn t [x] st)) :
  Calls Tryz.prog 176 #[.pointer (some ⟨F,0,none⟩),.int .i64 t,.slice (some ⟨N,0,none⟩) 1 1] w fun e w'=>ax c F f n row r w e w' :=
 Mq c F N top st f n row t [x] 1 w h hl (by simp) (by simpa using h64.out) hq hN r hr
theorem nV (c:FC)(F N:Nat)(top:Option Addr)(st:List Int)(f:Vf.Fl)(n:Int)(row:Value)(t x y:Int)(w:World)(h:Hid (ay c w F top st f n row))(hl:st.length<900)(h64:Hid (bP x∧bP y))(hq:w.heap[N]?=some (.cells #[.int .i64 x,.int .i64 y] 3 (0,0)))(hN:N≠F)(r:Except Int (List Int))(hr:Hid (r=Vf.turn t [x,y] st)) :
  Calls Tryz.prog 176 #[.pointer (some ⟨F,0,none⟩),.int .i64 t,.slice (some ⟨N,0,none⟩) 2 2] w fun e w'=>ax c F f n row r w e w' :=
 Mq c F N top st f n row t [x,y] 2 w h hl (by simp) (by intro z hz;simp at hz;rcases hz with rfl | rfl;exact h64.out.1;exact h64.out.2) hq hN r hr
theorem CZ (c:FC)(F N:Nat)(top:Option Addr)(st:List Int)(f:Vf.Fl)(n:Int)(row:Value)(x:Int)(w:World)(h:Hid (ay c w F top st f n row))(hl:st.length<1000)(h64:Hid (bP x))(hq:w.heap[N]?=some (.cells #[.int .i64 x] 3 (0,0)))(hN:N≠F)(r:Except Int (List Int))(hr:Hid (r=Vf.dG [x] st)) :
  Calls Tryz.prog 174 #[.pointer (some ⟨F,0,none⟩),.slice (some ⟨N,0,none⟩) 1 1] w fun e w'=>ax c F f n row r w e w' :=
 Mf c F w.heap.size top st f n row [x] (some ⟨N,0,none⟩) 1 w h hl (by simp) (hide (Mh hq (lt_of_block hq) (by simpa using h64.out))) (Nat.le_refl _) (hide (fun b off e _=>by cases e;exact hN)) r hr
structure Rt (m:Vf.Md):Prop where
 units:m.units.length≤30
 boxes:∀ (k:Nat) b,m.boxes[k]?=some b→Vf.plain b.ty=true
 heads:∀ (k:Nat) u,m.units[k]?=some u→Vf.gm m u=0∧Vf.Forms m u
theorem iF {m:Vf.Md}{u:Vf.Un}(h:Vf.gm m u=0):Vf.zk u=true∧Vf.sized u=true∧Vf.typed m u=true:=by
 unfold Vf.gm at h;cases h1:Vf.zk u
 ·rw[h1] at h;simp at h
 ·cases h2:Vf.sized u
  ·rw[h1,h2] at h;simp at h
  ·cases h3:Vf.typed m u
   ·rw[h1,h2,h3] at h;simp at h
   ·exact⟨rfl,rfl,rfl⟩
theorem ko {u:Vf.Un}(h:Vf.sized u=true):u.locals.length≤200∧0≤u.params∧u.params≤u.locals.length∧u.params≤6∧0<u.code.length∧u.code.length≤4000:=by
 unfold Vf.sized at h;simp only[Bool.and_eq_true,decide_eq_true_eq] at h;obtain⟨⟨⟨⟨h1,h2⟩,h3⟩,h4⟩,h5⟩:=h;split at h3<;>omega
theorem qi {m:Vf.Md}{u:Vf.Un}{c:Vf.Ins}(h:Vf.bE m u c=0):1≤c.op∧c.op≤32∧Vf.ranged m u c=true:=by
 unfold Vf.bE at h;split at h
 ·cases h
 ·split at h
  ·cases h
  ·rename_i h1 h2
   exact⟨by omega,by omega,by simpa using h2⟩
theorem mf {m:Vf.Md}{k:Nat}{u:Vf.Un}(h:m.units[k]?=some u):Vf.unit m (k:Int)=u:=by
 unfold Vf.unit;simp[h]
theorem Mr {m:Vf.Md}{k:Nat}{b:Vf.Bx}(h:m.boxes[k]?=some b):Vf.jI m (k:Int)=b.ty:=by
 unfold Vf.jI;simp[h]
theorem Mt {u:Vf.Un}{k:Nat}{t:Int}(h:u.locals[k]?=some t):Vf.qg u (k:Int)=t:=by
 unfold Vf.qg;simp[h]
theorem tV {w:World}{N:Nat}{op a nn:Int}(h:w.heap[N]?=some (ai op a nn)):w.cell? ⟨N,0,none⟩=some (.int .i64 op)∧w.cell? ⟨N,1,none⟩=some (.int .i64 a)∧w.cell? ⟨N,2,none⟩=some (.int .i64 nn):=by
 simp[World.cell?,h]
theorem wU (w:World)(o:Obj){b off:Nat}(h:b<w.heap.size):(w.alloc o).cell? ⟨b,off,none⟩=w.cell? ⟨b,off,none⟩:=aI (Below.heap_alloc _ _ _ h) _
end Go.Proofs.YtfcpglhpolpdcaaGreatDoor
namespace Go.Proofs.YtfcpglhpolpdcaaGreatDoor
def NZ {α:Type}(r:Except Int α):Prop:=∀ e,r=.error e→e≠0
theorem NZ.ok {α:Type}(x:α):NZ (.ok x):=fun e h=>by cases h
theorem NZ.err {α:Type}{e:Int}(h:e≠0):NZ (.error e:Except Int α):=fun e' h'=>by cases h';exact h
theorem NZ.andThen {α β:Type}{r:Except Int α}{f:α→Except Int β}(h:NZ r)(hf:∀ x,r=.ok x→NZ (f x)):NZ (Vf.andThen r f):=by
 cases r with
 | error e=>exact .err (h e rfl)
 | ok x=>exact hf x rfl
theorem bN {α:Type}{P:α→Prop}{c:Prop}[Decidable c]{a b:α}(h1:c→P a)(h2:¬ c→P b):P (if c then a else b):=by
 by_cases h:c
 ·rw[if_pos h];exact h1 h
 ·rw[if_neg h];exact h2 h
theorem tX (t:Int)(st:List Int):NZ (Vf.put t st):=by
 unfold Vf.put;split
 ·exact .ok _
 ·exact .err (by decide)
theorem wV:∀ (ts st:List Int),NZ (Vf.dG ts st)
 | [],st=>.ok _
 | _ :: _,[]=>.err (by decide)
 | t :: ts,x :: r=>by
  unfold Vf.dG;split
  ·exact wV ts r
  ·exact .err (by decide)
theorem qj (t:Int)(l st:List Int):NZ (Vf.turn t l st):=(wV _ _).andThen fun _ _=>tX _ _
theorem C8 (st:List Int):NZ (Vf.pop st):=by
 cases st with
 | nil=>exact .err (by decide)
 | cons t r=>exact .ok _
theorem tY {b:Bool}{e:Int}(he:e≠0)(st:List Int):NZ (Vf.must b e st):=by
 unfold Vf.must;split
 ·exact .ok _
 ·exact .err he
theorem Mw (st:List Int):NZ (Vf.lI st):=(C8 st).andThen fun p _=>by
 split
 ·exact .ok _
 ·exact .err (by decide)
theorem Mx (st:List Int):NZ (Vf.kL st):=(C8 st).andThen fun p _=>by
 split
 ·exact .ok _
 ·exact .err (by decide)
theorem V8 (m:Vf.Md)(st:List Int):NZ (Vf.resume m st):=(C8 st).andThen fun _ _=>(Mx _).andThen fun _ _=>(tY (by decide) _).andThen fun _ _=>tX _ _
theorem V9 (m:Vf.Md)(u:Vf.Un)(c:Vf.Ins)(st:List Int):NZ (Vf.speak m u c st):=by
 unfold Vf.speak;refine bN (P:=NZ) (fun h1=>?_) (fun g1=>?_)
 ·exact qj _ _ _
 refine bN (P:=NZ) (fun h1=>?_) (fun g2=>?_)
 ·exact qj _ _ _
 refine bN (P:=NZ) (fun h1=>?_) (fun g3=>?_)
 ·exact wV _ _
 refine bN (P:=NZ) (fun h1=>?_) (fun g4=>?_)
 ·exact tX _ _
 refine bN (P:=NZ) (fun h1=>?_) (fun g5=>?_)
 ·exact V8 _ _
 refine bN (P:=NZ) (fun h1=>?_) (fun g6=>?_)
 ·exact (Mx _).andThen fun _ _=>tX _ _
 refine bN (P:=NZ) (fun h1=>?_) (fun g7=>?_)
 ·exact (tY (by decide) _).andThen fun _ _=>qj _ _ _
 refine bN (P:=NZ) (fun h1=>?_) (fun g8=>?_)
 ·exact (tY (by decide) _).andThen fun _ _=>(wV _ _).andThen fun _ _=>tY (by decide) _
 refine bN (P:=NZ) (fun h1=>?_) (fun g9=>?_)
 ·exact (tY (by decide) _).andThen fun _ _=>tY (by decide) _
 ·exact .ok _
theorem We (m:Vf.Md)(u:Vf.Un)(c:Vf.Ins)(k:Vf.Kn):NZ (Vf.eO m u c k):=by
 unfold Vf.eO;refine bN (P:=NZ) (fun h1=>?_) (fun g1=>?_)
 ·exact tX _ _
 refine bN (P:=NZ) (fun h1=>?_) (fun g2=>?_)
 ·exact tX _ _
 refine bN (P:=NZ) (fun h1=>?_) (fun g3=>?_)
 ·exact (tY (by decide) _).andThen fun _ _=>tX _ _
 refine bN (P:=NZ) (fun h1=>?_) (fun g4=>?_)
 ·exact wV _ _
 refine bN (P:=NZ) (fun h1=>?_) (fun g5=>?_)
 ·exact (C8 _).andThen fun _ _=>.ok _
 refine bN (P:=NZ) (fun h1=>?_) (fun g6=>?_)
 ·exact qj _ _ _
 refine bN (P:=NZ) (fun h1=>?_) (fun g7=>?_)
 ·exact qj _ _ _
 refine bN (P:=NZ) (fun h1=>?_) (fun g8=>?_)
 ·exact qj _ _ _
 refine bN (P:=NZ) (fun h1=>?_) (fun g9=>?_)
 ·exact qj _ _ _
 refine bN (P:=NZ) (fun h1=>?_) (fun g10=>?_)
 ·exact qj _ _ _
 refine bN (P:=NZ) (fun h1=>?_) (fun g11=>?_)
 ·exact (Mw _).andThen fun _ _=>qj _ _ _
 refine bN (P:=NZ) (fun h1=>?_) (fun g12=>?_)
 ·exact (Mw _).andThen fun _ _=>.ok _
 refine bN (P:=NZ) (fun h1=>?_) (fun g13=>?_)
 ·exact wV _ _
 ·exact V9 _ _ _ _
theorem Wh (len:Nat)(k:Vf.Kn)(t:Int)(s:Vf.S):NZ (Vf.eY len k t s):=by
 unfold Vf.eY;split
 ·split
  ·exact .ok _
  ·split
   ·split
    ·exact .ok _
    ·exact .ok _
   ·exact .err (by decide)
 ·exact .err (by decide)
theorem MC (len:Nat)(k:Vf.Kn):∀ (l:List Int) (s:Vf.S),NZ (Vf.lJ len k l s)
 | [],_=>.ok _
 | _ :: l,_=>(Wh _ _ _ _).andThen fun s' _=>MC len k l s'
theorem Gj (m:Vf.Md)(u:Vf.Un)(n:Nat)(s:Vf.S):NZ (Vf.look m u n s):=by
 unfold Vf.look;split
 ·exact ((We _ _ _ _).andThen fun _ _=>.ok _).andThen fun _ _=>MC _ _ _ _
 ·exact .ok _
def ql (m:Vf.Md)(t:Int):Prop:=Vf.plain t=true∨(10≤t∧Vf.is m 3 (t - 10)=true)
def aZ (m:Vf.Md)(st:List Int):Prop:=kM m st∧st.length≤300
def Ok {α:Type}(p:α→Prop)(r:Except Int α):Prop:=∀ x,r=.ok x→p x
theorem Ok.andThen {α β:Type}{p:α→Prop}{q:β→Prop}{r:Except Int α}{f:α→Except Int β}(h:Ok p r)(hf:∀ x,p x→Ok q (f x)):Ok q (Vf.andThen r f):=by
 cases r with
 | error e=>intro x hx;cases hx
 | ok x=>exact hf x (h x rfl)
theorem tZ {m:Vf.Md}{t:Int}{st:List Int}(ht:ql m t)(h:aZ m st):Ok (aZ m) (Vf.put t st):=by
 intro x hx;unfold Vf.put at hx;split at hx
 ·cases hx
  refine⟨fun y hy=>?_,by simp;omega⟩;rcases List.mem_cons.1 hy with rfl | hy
  ·exact ht
  ·exact h.1 y hy
 ·cases hx
theorem aZ.tail {m:Vf.Md}{t:Int}{st:List Int}(h:aZ m (t :: st)):aZ m st:=⟨fun x hx=>h.1 x (List.mem_cons_of_mem _ hx),by have:=h.2;simp at this;omega⟩
theorem wW {m:Vf.Md}:∀ (ts st:List Int),aZ m st→Ok (aZ m) (Vf.dG ts st)
 | [],st,h=>fun x hx=>by cases hx;exact h
 | _ :: _,[],_=>fun x hx=>by cases hx
 | t :: ts,y :: r,h=>fun x hx=>by
  unfold Vf.dG at hx;split at hx
  ·exact wW ts r h.tail x hx
  ·cases hx
theorem qm {m:Vf.Md}{t:Int}{l st:List Int}(ht:ql m t)(h:aZ m st):Ok (aZ m) (Vf.turn t l st):=(wW _ _ h).andThen fun _ h=>tZ ht h
theorem C9 {m:Vf.Md}{st:List Int}(h:aZ m st):Ok (fun p=>ql m p.1∧aZ m p.2) (Vf.pop st):=fun x hx=>by
 cases st with
 | nil=>cases hx
 | cons t r=>cases hx;exact⟨h.1 t List.mem_cons_self,h.tail⟩
theorem ME {m:Vf.Md}{st:List Int}(h:aZ m st):Ok (fun p=>ql m p.1∧aZ m p.2) (Vf.lI st):=(C9 h).andThen fun p hp x hx=>by
 split at hx
 ·cases hx;exact hp
 ·cases hx
theorem MF {m:Vf.Md}{st:List Int}(h:aZ m st):Ok (fun p=>(10≤p.1∧ql m p.1)∧aZ m p.2) (Vf.kL st):=(C9 h).andThen fun p hp x hx=>by
 split at hx
 ·cases hx;exact⟨⟨by assumption,hp.1⟩,hp.2⟩
 ·cases hx
theorem uf {m:Vf.Md}{b:Bool}{e:Int}{st:List Int}(h:aZ m st):Ok (aZ m) (Vf.must b e st):=fun x hx=>by
 unfold Vf.must at hx;split at hx
 ·cases hx;exact h
 ·cases hx
theorem Gl {m:Vf.Md}{u:Vf.Un}(h:Vf.gm m u=0):(u.kind=4∨Vf.plain u.result=true)∧(u.kind≠3∨Vf.plain u.takes=true)∧∀ t ∈ u.locals,ql m t:=by
 obtain⟨_,_,h3⟩:=iF h;unfold Vf.typed Vf.heads at h3;simp only[Bool.and_eq_true,Bool.or_eq_true,beq_iff_eq,bne_iff_ne,List.all_eq_true] at h3;obtain⟨⟨h4,h5⟩,h6⟩:=h3;refine⟨h4,h5,fun t ht=>?_⟩;rcases h6 t ht with h7 | h7
 ·exact .inl h7
 ·obtain⟨_,_,_,h8⟩:=kN h7
  exact .inr ⟨by omega,h7⟩
theorem Gm (m:Vf.Md):ql m 1:=.inl rfl
theorem wX (m:Vf.Md):ql m 2:=.inl rfl
theorem MG {m:Vf.Md}(hR:Rt m){k:Nat}{x:Vf.Un}(hx:m.units[k]?=some x)(hk:x.kind≠4):ql m x.result:=by
 rcases (Gl (hR.heads k x hx).1).1 with h | h
 ·exact absurd h hk
 ·exact .inl h
theorem Gn {m:Vf.Md}{kd a:Int}(h:Vf.is m kd a=true):∃ k:Nat,a=k∧m.units[k]?=some (Vf.unit m a)∧(Vf.unit m a).kind=kd:=by
 obtain⟨x,h1,h2,h3⟩:=kN h;have e:Vf.unit m a=x:=by unfold Vf.unit;rw[h1];rfl
 exact⟨a.toNat,by omega,by rw[e];exact h1,by rw[e];exact h2⟩
theorem Wj {m:Vf.Md}{u:Vf.Un}{c:Vf.Ins}{st:List Int}(hR:Rt m)(hu:Vf.gm m u=0)(hf:Vf.bE m u c=0)(h:aZ m st):Ok (aZ m) (Vf.speak m u c st):=by
 obtain⟨_,_,hrg⟩:=qi hf;unfold Vf.speak;refine bN (P:=Ok (aZ m)) (fun h1=>?_) (fun g1=>?_)
 ·have h2:Vf.is m 2 c.a=true:=by
   rw[← hrg];unfold Vf.ranged;rw[if_neg (by omega),if_neg (by omega),if_neg (by omega),if_pos h1]
  obtain⟨k,_,h3,h4⟩:=Gn h2;exact qm (MG hR h3 (by omega)) h
 refine bN (P:=Ok (aZ m)) (fun h1=>?_) (fun g2=>?_)
 ·have h2:Vf.is m 3 c.a=true:=by
   rw[← hrg];unfold Vf.ranged;rw[if_neg (by omega),if_neg (by omega),if_neg (by omega),if_neg (by omega),if_pos h1]
  obtain⟨k,h5,_,_⟩:=Gn h2;exact qm (.inr ⟨by omega,by rw[show 10+c.a - 10=c.a by omega];exact h2⟩) h
 refine bN (P:=Ok (aZ m)) (fun h1=>?_) (fun g3=>?_)
 ·exact wW _ _ h
 refine bN (P:=Ok (aZ m)) (fun h1=>?_) (fun g4=>?_)
 ·have h2:(decide (0≤c.a) && decide (c.a<m.boxes.length))=true:=by
   rw[← hrg];unfold Vf.ranged;rw[if_neg (by omega),if_neg (by omega),if_neg (by omega),if_neg (by omega),if_neg (by omega),if_pos (.inr h1)]
  simp only[Bool.and_eq_true,decide_eq_true_eq] at h2;have h3:m.boxes[c.a.toNat]?=some m.boxes[c.a.toNat]:=List.getElem?_eq_getElem (by omega);refine tZ (.inl ?_) h;unfold Vf.jI;rw[h3];exact hR.boxes _ _ h3
 refine bN (P:=Ok (aZ m)) (fun h1=>?_) (fun g5=>?_)
 ·refine (C9 h).andThen fun p hp=>(MF hp.2).andThen fun g hg=>(uf hg.2).andThen fun st' hst=>tZ ?_ hst
  rcases hg.1.2 with h1 | ⟨_,h1⟩
  ·have:=hg.1.1
   unfold Vf.plain at h1;simp at h1;omega
  ·obtain⟨k,_,h3,h4⟩:=Gn h1
   exact MG hR h3 (by omega)
 refine bN (P:=Ok (aZ m)) (fun h1=>?_) (fun g6=>?_)
 ·exact (MF h).andThen fun g hg=>tZ (wX m) hg.2
 refine bN (P:=Ok (aZ m)) (fun h1=>?_) (fun g7=>?_)
 ·intro x hx
  by_cases hk:u.kind=3
  ·refine ((uf h).andThen fun st' hst=>qm ?_ hst) x hx
   rcases (Gl hu).2.1 with h1 | h1
   ·exact absurd hk h1
   ·exact .inl h1
  ·have e:(u.kind==3)=false:=by simpa using hk
   rw[e] at hx;cases hx
 refine bN (P:=Ok (aZ m)) (fun h1=>?_) (fun g8=>?_)
 ·exact (uf h).andThen fun _ h=>(wW _ _ h).andThen fun _ h=>uf h
 refine bN (P:=Ok (aZ m)) (fun h1=>?_) (fun g9=>?_)
 ·exact (uf h).andThen fun _ h=>uf h
 ·intro x hx;cases hx;exact h
theorem MH {m:Vf.Md}{u:Vf.Un}{c:Vf.Ins}{k:Vf.Kn}(hR:Rt m)(hu:Vf.gm m u=0)(hf:Vf.bE m u c=0)(h:aZ m k.st):Ok (aZ m) (Vf.eO m u c k):=by
 obtain⟨_,_,hrg⟩:=qi hf;unfold Vf.eO;refine bN (P:=Ok (aZ m)) (fun h1=>?_) (fun g1=>?_)
 ·exact tZ (Gm m) h
 refine bN (P:=Ok (aZ m)) (fun h1=>?_) (fun g2=>?_)
 ·exact tZ (wX m) h
 refine bN (P:=Ok (aZ m)) (fun h1=>?_) (fun g3=>?_)
 ·have h2:(decide (0≤c.a) && decide (c.a<u.locals.length))=true:=by
   rw[← hrg];unfold Vf.ranged;rw[if_neg (by omega),if_pos (.inl h1)]
  simp only[Bool.and_eq_true,decide_eq_true_eq] at h2;have h3:u.locals[c.a.toNat]?=some u.locals[c.a.toNat]:=List.getElem?_eq_getElem (by omega);refine (uf h).andThen fun _ h=>tZ ?_ h;unfold Vf.qg;rw[h3];exact (Gl hu).2.2 _ (List.mem_of_getElem? h3)
 refine bN (P:=Ok (aZ m)) (fun h1=>?_) (fun g4=>?_)
 ·exact wW _ _ h
 refine bN (P:=Ok (aZ m)) (fun h1=>?_) (fun g5=>?_)
 ·exact (C9 h).andThen fun p hp x hx=>by cases hx;exact hp.2
 refine bN (P:=Ok (aZ m)) (fun h1=>?_) (fun g6=>?_)
 ·exact qm (Gm m) h
 refine bN (P:=Ok (aZ m)) (fun h1=>?_) (fun g7=>?_)
 ·exact qm (wX m) h
 refine bN (P:=Ok (aZ m)) (fun h1=>?_) (fun g8=>?_)
 ·exact qm (Gm m) h
 refine bN (P:=Ok (aZ m)) (fun h1=>?_) (fun g9=>?_)
 ·exact qm (wX m) h
 refine bN (P:=Ok (aZ m)) (fun h1=>?_) (fun g10=>?_)
 ·exact qm (wX m) h
 refine bN (P:=Ok (aZ m)) (fun h1=>?_) (fun g11=>?_)
 ·exact (ME h).andThen fun p hp=>qm (wX m) hp.2
 refine bN (P:=Ok (aZ m)) (fun h1=>?_) (fun g12=>?_)
 ·exact (ME h).andThen fun p hp x hx=>by cases hx;exact hp.2
 refine bN (P:=Ok (aZ m)) (fun h1=>?_) (fun g13=>?_)
 ·exact wW _ _ h
 ·exact Wj hR hu hf h
structure Inv (m:Vf.Md) (u:Vf.Un) (s:Vf.S):Prop where
 come:∀ i k,s.come i=some k→i<u.code.length∧aZ m k.st
 row:∀ i ∈ s.row,∃ k,s.come i=some k
theorem Da {m:Vf.Md}{u:Vf.Un}{s:Vf.S}{i:Nat}{k:Vf.Kn}(h:Inv m u s)(hi:i<u.code.length)(hk:aZ m k.st):Inv m u (s.note i k):=by
 refine⟨fun j kj hj=>?_,fun j hj=>?_⟩
 ·have hj':(if j=i then some k else s.come j)=some kj:=hj
  split at hj'
  ·cases hj';subst_vars;exact⟨hi,hk⟩
  ·exact h.come j kj hj'
 ·show ∃ k',(if j=i then some k else s.come j)=some k'
  by_cases hji:j=i
  ·exact⟨k,if_pos hji⟩
  ·rw[if_neg hji]
   rcases List.mem_append.1 hj with h1 | h1
   ·exact h.row j h1
   ·simp at h1;exact absurd h1 hji
theorem MJ {m:Vf.Md}{u:Vf.Un}{s s':Vf.S}{k:Vf.Kn}{t:Int}(h:Inv m u s)(h0:0≤t)(hk:aZ m k.st)(hg:Vf.eY u.code.length k t s=.ok s'):Inv m u s'∧s'.row.length≤s.row.length+1:=by
 unfold Vf.eY at hg;split at hg
 ·rename_i hlt
  have hn:t.toNat<u.code.length:=by omega
  split at hg
  ·cases hg
   exact⟨Da h hn hk,by simp[Vf.S.note]⟩
  ·rename_i kt hc
   split at hg
   ·rename_i hst
    split at hg
    ·cases hg;exact⟨h,by omega⟩
    ·cases hg
     exact⟨Da h hn (by show aZ m kt.st;rw[hst];exact hk),by simp[Vf.S.note]⟩
   ·cases hg
 ·cases hg
theorem Gp {m:Vf.Md}{u:Vf.Un}{k:Vf.Kn}(hk:aZ m k.st):∀ {l:List Int} {s s':Vf.S},Inv m u s→(∀ t ∈ l,0≤t)→Vf.lJ u.code.length k l s=.ok s'→Inv m u s'
 | [],_,_,h,_,hg=>by cases hg;exact h
 | t :: l,s,s',h,h0,hg=>by
  unfold Vf.lJ Vf.andThen at hg;split at hg
  ·cases hg
  ·rename_i s1 h1
   exact Gp hk (MJ h (h0 t List.mem_cons_self) hk h1).1 (fun t ht=>h0 t (List.mem_cons_of_mem _ ht)) hg
theorem Wm {m:Vf.Md}{u:Vf.Un}{c:Vf.Ins}{k k':Vf.Kn}(hR:Rt m)(hu:Vf.gm m u=0)(hf:Vf.bE m u c=0)(h:aZ m k.st)(hk:Vf.gp m u c k=.ok k'):aZ m k'.st:=by
 unfold Vf.gp Vf.andThen at hk;split at hk
 ·cases hk
 ·rename_i st hst
  cases hk;exact MH hR hu hf h st hst
namespace Vf
def gL (f g:Fl):Prop:=∀ i,f.has i=true→g.has i=true
theorem gL.refl (f:Fl):gL f f:=fun _ h=>h
theorem gL.trans {f g h:Fl}(a:gL f g)(b:gL g h):gL f h:=fun i hi=>b i (a i hi)
theorem gL.both (f g:Fl):gL (f.both g) f∧gL (f.both g) g:=by
 refine⟨fun i h=>?_,fun i h=>?_⟩<;>(rw[has_both] at h;simp at h;first | exact h.1 | exact h.2)
def Sat (m:Md)(u:Un)(K:Nat→Option Kn)(n:Nat)(k:Kn)(c:Ins):Prop :=
 ∃ k',gp m u c k=.ok k'∧∀ t ∈ goes c n,t.toNat<u.code.length∧∃ k2,K t.toNat=some k2∧k2.st=k'.st∧gL k2.fl k'.fl
structure Fix (m:Md) (u:Un) (K:Nat→Option Kn):Prop where
 zero:∃ k,K 0=some k∧k.st=[]∧gL k.fl (Fl.first u.params.toNat)
 lt:∀ n k,K n=some k→n<u.code.length
 next:∀ n k c,K n=some k→u.code[n]?=some c→Sat m u K n k c
structure Gr (s s':S):Prop where
 old:∀ n k0,s.come n=some k0→∃ k1,s'.come n=some k1∧k1.st=k0.st∧gL k1.fl k0.fl
 new:∀ n k1,s'.come n=some k1→s.come n=some k1∨n ∈ s'.row
 row:∀ n,n ∈ s.row→n ∈ s'.row
theorem Gr.refl (s:S):Gr s s:=⟨fun _ k h=>⟨k,h,rfl,.refl _⟩,fun _ _ h=>.inl h,fun _ h=>h⟩
theorem Gr.trans {a b c:S}(h:Gr a b)(k:Gr b c):Gr a c :=
 ⟨fun n k0 h0=>by
  obtain⟨k1,h1,e1,l1⟩:=h.old n k0 h0;obtain⟨k2,h2,e2,l2⟩:=k.old n k1 h1;exact⟨k2,h2,e2.trans e1,l2.trans l1⟩,
  fun n k1 h1=>by
  rcases k.new n k1 h1 with h2 | h2
  ·rcases h.new n k1 h2 with h3 | h3
   ·exact .inl h3
   ·exact .inr (k.row n h3)
  ·exact .inr h2,
  fun n hn=>k.row n (h.row n hn)⟩
def Lt (len:Nat)(s:S):Prop:=∀ n k,s.come n=some k→n<len
theorem Wn {len:Nat}{k:Kn}{t:Int}{s s':S}(h0:0≤t)(h:eY len k t s=.ok s')(hl:Lt len s) :
  Gr s s'∧Lt len s'∧t.toNat<len∧∃ k2,s'.come t.toNat=some k2∧k2.st=k.st∧gL k2.fl k.fl:=by
 have MK:∀ (x:Kn),t.toNat<len→(∀ k0,s.come t.toNat=some k0→x.st=k0.st∧gL x.fl k0.fl)→Gr s (s.note t.toNat x)∧Lt len (s.note t.toNat x):=fun x hlt hx=>by
  refine⟨⟨fun n k0 hn=>?_,fun n k1 hn=>?_,fun n hn=>?_⟩,fun n k1 hn=>?_⟩
  ·by_cases e:n=t.toNat
   ·subst e;exact⟨x,by simp[S.note],(hx k0 hn).1,(hx k0 hn).2⟩
   ·exact⟨k0,by simp[S.note,e,hn],rfl,.refl _⟩
  ·by_cases e:n=t.toNat
   ·subst e;right;simp[S.note]
   ·left;simpa[S.note,e] using hn
  ·simp[S.note,hn]
  ·by_cases e:n=t.toNat
   ·subst e;exact hlt
   ·exact hl n k1 (by simpa[S.note,e] using hn)
 unfold eY at h;split at h
 ·rename_i hlt
  have hn:t.toNat<len:=by omega
  split at h
  ·rename_i hc
   cases h;obtain⟨g1,g2⟩:=MK k hn (fun k0 hk=>by rw[hc] at hk;cases hk);exact⟨g1,g2,hn,k,by simp[S.note],rfl,.refl _⟩
  ·rename_i t0 hc
   split at h
   ·rename_i hst
    split at h
    ·rename_i he
     cases h;have e:=Fl.eq_iff.1 he;exact⟨.refl _,hl,hn,t0,hc,hst,by rw[← e];exact (gL.both _ _).2⟩
    ·cases h
     obtain⟨g1,g2⟩:=MK ⟨t0.st,t0.fl.both k.fl⟩ hn (fun k0 hk=>by rw[hc] at hk;cases hk;exact⟨rfl,(gL.both _ _).1⟩);exact⟨g1,g2,hn,⟨t0.st,t0.fl.both k.fl⟩,by simp[S.note],hst,(gL.both _ _).2⟩
   ·cases h
 ·cases h
theorem ML {len:Nat}{k:Kn}:∀ {l:List Int} {s s':S},(∀ t ∈ l,0≤t)→lJ len k l s=.ok s'→Lt len s →
  Gr s s'∧Lt len s'∧∀ t ∈ l,t.toNat<len∧∃ k2,s'.come t.toNat=some k2∧k2.st=k.st∧gL k2.fl k.fl
 | [],s,s',_,h,hl=>by
  cases h;exact⟨.refl _,hl,fun t ht=>by cases ht⟩
 | t :: l,s,s',h0,h,hl=>by
  unfold lJ andThen at h;split at h
  ·cases h
  ·rename_i s1 h1
   obtain⟨g1,l1,hlt,k2,hk2,e2,f2⟩:=Wn (h0 t List.mem_cons_self) h1 hl;obtain⟨g2,l2,hall⟩:=ML (fun x hx=>h0 x (List.mem_cons_of_mem _ hx)) h l1;refine⟨g1.trans g2,l2,fun x hx=>?_⟩;rcases List.mem_cons.1 hx with rfl | hx
   ·obtain⟨k3,hk3,e3,f3⟩:=g2.old _ _ hk2
    exact⟨hlt,k3,hk3,e3.trans e2,f3.trans f2⟩
   ·exact hall x hx
theorem Sat.gr {m:Md}{u:Un}{s s':S}{n:Nat}{k:Kn}{c:Ins}(h:Sat m u s.come n k c)(g:Gr s s'):Sat m u s'.come n k c:=by
 obtain⟨k',hk,ha⟩:=h;refine⟨k',hk,fun t ht=>?_⟩;obtain⟨hl,k2,h2,e2,f2⟩:=ha t ht;obtain⟨k3,h3,e3,f3⟩:=g.old _ _ h2;exact⟨hl,k3,h3,e3.trans e2,f3.trans f2⟩
structure Wi (m:Md) (u:Un) (s:S):Prop where
 zero:∃ k,s.come 0=some k∧k.st=[]∧gL k.fl (Fl.first u.params.toNat)
 lt:Lt u.code.length s
 next:∀ n k c,s.come n=some k→u.code[n]?=some c→n ∈ s.row∨Sat m u s.come n k c
theorem Wo {m:Md}{u:Un}{n:Nat}{row:List Nat}{come:Nat→Option Kn}{s':S}(hf:Forms m u)(h:Wi m u ⟨come,n :: row⟩)(hl:look m u n ⟨come,row⟩=.ok s'):Wi m u s':=by
 have hlt:Lt u.code.length (⟨come,row⟩:S):=h.lt;have key:Gr (⟨come,row⟩:S) s'→Lt u.code.length s'→(∀ k c,s'.come n=some k→u.code[n]?=some c→come n=some k→Sat m u s'.come n k c)→Wi m u s':=fun g l hn=>by
  refine⟨?_,l,fun i k c hi hc=>?_⟩
  ·obtain⟨k,h0,e0,f0⟩:=h.zero
   obtain⟨k1,h1,e1,f1⟩:=g.old 0 k h0;exact⟨k1,h1,e1.trans e0,f1.trans f0⟩
  ·rcases g.new i k hi with h1 | h1
   ·by_cases e:i=n
    ·subst e;exact .inr (hn k c hi hc h1)
    ·rcases h.next i k c h1 hc with h2 | h2
     ·rcases List.mem_cons.1 h2 with h3 | h3
      ·exact absurd h3 e
      ·exact .inl (g.row i h3)
     ·exact .inr (Sat.gr (s:=⟨come,row⟩) h2 g)
   ·exact .inl h1
 unfold look at hl;split at hl
 ·rename_i k c hk hc
  unfold andThen at hl;split at hl
  ·cases hl
  ·rename_i k' hr
   obtain⟨g,l,ha⟩:=ML (CV (hf c (List.mem_of_getElem? hc)) n) hl hlt;refine key g l (fun k1 c1 _ hc1 hk1=>?_);have hk':come n=some k:=hk;rw[hk'] at hk1;rw[hc] at hc1;cases hk1;cases hc1;exact⟨k',hr,ha⟩
 ·rename_i hno
  cases hl;exact key (.refl _) hlt (fun k c h1 h2 _=>absurd h2 (hno k c h1))
theorem MM {m:Md}{u:Un}(hf:Forms m u):∀ (f:Nat) (s:S),mu u.code.length s<f→Wi m u s→(gH m u f s).1=0→∃ K,Fix m u K
 | f+1,s,h1,hw,h0=>by
  obtain⟨come,row⟩:=s;match row with
  | []=>exact⟨come,hw.zero,hw.lt,fun n k c hn hc=>(hw.next n k c hn hc).elim (fun h=>by cases h) id⟩
  | n :: row =>
   unfold gH at h0;simp only at h0;rw[L9] at h1;split at h0
   ·rename_i e he
    exact absurd h0 (Gj m u n _ e he)
   ·rename_i s' hl
    have:=L8 hf hl;exact MM hf f s' (by omega) (Wo hf hw hl) h0
theorem Wp {m:Md}{u:Un}(hf:Forms m u)(hc:0<u.code.length)(h:(gY m u).1=0):∃ K,Fix m u K:=by
 refine MM hf _ (start u) (Nat.lt_succ_self _) ⟨⟨(⟨[],Fl.first u.params.toNat⟩:Kn),by simp[start,S.note],rfl,gL.refl _⟩,fun n k hn=>?_,fun n k c hn _=>?_⟩ h
 ·by_cases e:n=0
  ·omega
  ·simp[start,S.note,e] at hn
 ·by_cases e:n=0
  ·subst e;left;simp[start,S.note]
  ·simp[start,S.note,e] at hn
end Vf
end Go.Proofs.YtfcpglhpolpdcaaGreatDoor

/- What speak and reckon need besides: rows of one and two types that are laid for a call. -/
import Derived.Test.YtfcpglhpolpdcaaGreatDoorM2
namespace Go.Proofs.YtfcpglhpolpdcaaGreatDoor
open Go.RowKit
abbrev ai (op a nn:Int):Obj:=.cells #[.int .i64 op,.int .i64 a,.int .i64 nn] 147 (0,0)
theorem alloc_at (w:World)(o:Obj):(w.alloc o).heap[w.heap.size]?=some o:=heap_alloc_new w o
theorem LV (c:FC)(F N:Nat)(top:Option Addr)(st:List Int)(f:Vf.Fl)(n:Int)(row:Value)(t:Int)(l:List Int)(cp:Nat)(w:World)(h:Hid (ay c w F top st f n row))(hl:st.length<900)(hll:l.length<1000)(h64:∀ x ∈ l,bP x)(hq:w.heap[N]?=some (.cells (l.map (Value.int .i64)).toArray 3 (0,0)))(hN:N≠F)(r:Except Int (List Int))(hr:Hid (r=Vf.turn t l st)) :
  Calls Tryz.prog 176 #[.pointer (some ⟨F,0,none⟩),.int .i64 t,.slice (some ⟨N,0,none⟩) l.length cp] w fun e w'=>ax c F f n row r w e w' :=
 FL c F w.heap.size top st f n row t l (some ⟨N,0,none⟩) cp w h hl hll (hide (LH hq (lt_of_block hq) h64)) (Nat.le_refl _) (hide (fun b off e _=>by cases e;exact hN)) r hr
theorem yT (c:FC)(F N:Nat)(top:Option Addr)(st:List Int)(f:Vf.Fl)(n:Int)(row:Value)(t x:Int)(w:World)(h:Hid (ay c w F top st f n row))(hl:st.length<900)(h64:Hid (bP x))(hq:w.heap[N]?=some (.cells #[.int .i64 x] 3 (0,0)))(hN:N≠F)(r:Except Int (List Int))(hr:Hid (r=Vf.turn t [x] st)) :
  Calls Tryz.prog 176 #[.pointer (some ⟨F,0,none⟩),.int .i64 t,.slice (some ⟨N,0,none⟩) 1 1] w fun e w'=>ax c F f n row r w e w' :=
 LV c F N top st f n row t [x] 1 w h hl (by simp) (by simpa using h64.out) hq hN r hr
theorem nJ (c:FC)(F N:Nat)(top:Option Addr)(st:List Int)(f:Vf.Fl)(n:Int)(row:Value)(t x y:Int)(w:World)(h:Hid (ay c w F top st f n row))(hl:st.length<900)(h64:Hid (bP x∧bP y))(hq:w.heap[N]?=some (.cells #[.int .i64 x,.int .i64 y] 3 (0,0)))(hN:N≠F)(r:Except Int (List Int))(hr:Hid (r=Vf.turn t [x,y] st)) :
  Calls Tryz.prog 176 #[.pointer (some ⟨F,0,none⟩),.int .i64 t,.slice (some ⟨N,0,none⟩) 2 2] w fun e w'=>ax c F f n row r w e w' :=
 LV c F N top st f n row t [x,y] 2 w h hl (by simp) (by intro z hz;simp at hz;rcases hz with rfl | rfl;exact h64.out.1;exact h64.out.2) hq hN r hr
theorem Cw (c:FC)(F N:Nat)(top:Option Addr)(st:List Int)(f:Vf.Fl)(n:Int)(row:Value)(x:Int)(w:World)(h:Hid (ay c w F top st f n row))(hl:st.length<1000)(h64:Hid (bP x))(hq:w.heap[N]?=some (.cells #[.int .i64 x] 3 (0,0)))(hN:N≠F)(r:Except Int (List Int))(hr:Hid (r=Vf.dA [x] st)) :
  Calls Tryz.prog 174 #[.pointer (some ⟨F,0,none⟩),.slice (some ⟨N,0,none⟩) 1 1] w fun e w'=>ax c F f n row r w e w' :=
 LF c F w.heap.size top st f n row [x] (some ⟨N,0,none⟩) 1 w h hl (by simp) (hide (LH hq (lt_of_block hq) (by simpa using h64.out))) (Nat.le_refl _) (hide (fun b off e _=>by cases e;exact hN)) r hr
structure Rt (m:Vf.Md):Prop where
 units:m.units.length≤30
 boxes:∀ (k:Nat) b,m.boxes[k]?=some b→Vf.plain b.ty=true
 heads:∀ (k:Nat) u,m.units[k]?=some u→Vf.fU m u=0∧Vf.Forms m u
theorem iy {m:Vf.Md}{u:Vf.Un}(h:Vf.fU m u=0):Vf.yO u=true∧Vf.sized u=true∧Vf.typed m u=true:=by
 unfold Vf.fU at h;cases h1:Vf.yO u
 ·rw[h1] at h;simp at h
 ·cases h2:Vf.sized u
  ·rw[h1,h2] at h;simp at h
  ·cases h3:Vf.typed m u
   ·rw[h1,h2,h3] at h;simp at h
   ·exact⟨rfl,rfl,rfl⟩
theorem jS {u:Vf.Un}(h:Vf.sized u=true):u.locals.length≤200∧0≤u.params∧u.params≤u.locals.length∧u.params≤6∧0<u.code.length∧u.code.length≤4000:=by
 unfold Vf.sized at h;simp only[Bool.and_eq_true,decide_eq_true_eq] at h;obtain⟨⟨⟨⟨h1,h2⟩,h3⟩,h4⟩,h5⟩:=h;split at h3<;>omega
theorem pV {m:Vf.Md}{u:Vf.Un}{c:Vf.Ins}(h:Vf.bC m u c=0):1≤c.op∧c.op≤32∧Vf.ranged m u c=true:=by
 unfold Vf.bC at h;split at h
 ·cases h
 ·split at h
  ·cases h
  ·rename_i h1 h2
   exact⟨by omega,by omega,by simpa using h2⟩
theorem lV {m:Vf.Md}{k:Nat}{u:Vf.Un}(h:m.units[k]?=some u):Vf.unit m (k:Int)=u:=by
 unfold Vf.unit;simp[h]
theorem LW {m:Vf.Md}{k:Nat}{b:Vf.Bx}(h:m.boxes[k]?=some b):Vf.jv m (k:Int)=b.ty:=by
 unfold Vf.jv;simp[h]
theorem LX {u:Vf.Un}{k:Nat}{t:Int}(h:u.locals[k]?=some t):Vf.pR u (k:Int)=t:=by
 unfold Vf.pR;simp[h]
theorem tC {w:World}{N:Nat}{op a nn:Int}(h:w.heap[N]?=some (ai op a nn)):w.cell? ⟨N,0,none⟩=some (.int .i64 op)∧w.cell? ⟨N,1,none⟩=some (.int .i64 a)∧w.cell? ⟨N,2,none⟩=some (.int .i64 nn):=by
 simp[World.cell?,h]
theorem wN (w:World)(o:Obj){b off:Nat}(h:b<w.heap.size):(w.alloc o).cell? ⟨b,off,none⟩=w.cell? ⟨b,off,none⟩:=aI (Below.heap_alloc _ _ _ h) _
end Go.Proofs.YtfcpglhpolpdcaaGreatDoor
namespace Go.Proofs.YtfcpglhpolpdcaaGreatDoor
def NZ {α:Type}(r:Except Int α):Prop:=∀ e,r=.error e→e≠0
theorem NZ.ok {α:Type}(x:α):NZ (.ok x):=fun e h=>by cases h
theorem NZ.err {α:Type}{e:Int}(h:e≠0):NZ (.error e:Except Int α):=fun e' h'=>by cases h';exact h
theorem NZ.andThen {α β:Type}{r:Except Int α}{f:α→Except Int β}(h:NZ r)(hf:∀ x,r=.ok x→NZ (f x)):NZ (Vf.andThen r f):=by
 cases r with
 | error e=>exact .err (h e rfl)
 | ok x=>exact hf x rfl
theorem bM {α:Type}{P:α→Prop}{c:Prop}[Decidable c]{a b:α}(h1:c→P a)(h2:¬ c→P b):P (if c then a else b):=by
 by_cases h:c
 ·rw[if_pos h];exact h1 h
 ·rw[if_neg h];exact h2 h
theorem tH (t:Int)(st:List Int):NZ (Vf.put t st):=by
 unfold Vf.put;split
 ·exact .ok _
 ·exact .err (by decide)
theorem wO:∀ (ts st:List Int),NZ (Vf.dA ts st)
 | [],st=>.ok _
 | _ :: _,[]=>.err (by decide)
 | t :: ts,x :: r=>by
  unfold Vf.dA;split
  ·exact wO ts r
  ·exact .err (by decide)
theorem pW (t:Int)(l st:List Int):NZ (Vf.turn t l st):=(wO _ _).andThen fun _ _=>tH _ _
theorem Cy (st:List Int):NZ (Vf.pop st):=by
 cases st with
 | nil=>exact .err (by decide)
 | cons t r=>exact .ok _
theorem tJ {b:Bool}{e:Int}(he:e≠0)(st:List Int):NZ (Vf.must b e st):=by
 unfold Vf.must;split
 ·exact .ok _
 ·exact .err he
theorem LY (st:List Int):NZ (Vf.kY st):=(Cy st).andThen fun p _=>by
 split
 ·exact .ok _
 ·exact .err (by decide)
theorem LZ (st:List Int):NZ (Vf.kz st):=(Cy st).andThen fun p _=>by
 split
 ·exact .ok _
 ·exact .err (by decide)
theorem VF (m:Vf.Md)(st:List Int):NZ (Vf.resume m st):=(Cy st).andThen fun _ _=>(LZ _).andThen fun _ _=>(tJ (by decide) _).andThen fun _ _=>tH _ _
theorem VG (m:Vf.Md)(u:Vf.Un)(c:Vf.Ins)(st:List Int):NZ (Vf.speak m u c st):=by
 unfold Vf.speak;refine bM (P:=NZ) (fun h1=>?_) (fun g1=>?_)
 ·exact pW _ _ _
 refine bM (P:=NZ) (fun h1=>?_) (fun g2=>?_)
 ·exact pW _ _ _
 refine bM (P:=NZ) (fun h1=>?_) (fun g3=>?_)
 ·exact wO _ _
 refine bM (P:=NZ) (fun h1=>?_) (fun g4=>?_)
 ·exact tH _ _
 refine bM (P:=NZ) (fun h1=>?_) (fun g5=>?_)
 ·exact VF _ _
 refine bM (P:=NZ) (fun h1=>?_) (fun g6=>?_)
 ·exact (LZ _).andThen fun _ _=>tH _ _
 refine bM (P:=NZ) (fun h1=>?_) (fun g7=>?_)
 ·exact (tJ (by decide) _).andThen fun _ _=>pW _ _ _
 refine bM (P:=NZ) (fun h1=>?_) (fun g8=>?_)
 ·exact (tJ (by decide) _).andThen fun _ _=>(wO _ _).andThen fun _ _=>tJ (by decide) _
 refine bM (P:=NZ) (fun h1=>?_) (fun g9=>?_)
 ·exact (tJ (by decide) _).andThen fun _ _=>tJ (by decide) _
 ·exact .ok _
theorem VH (m:Vf.Md)(u:Vf.Un)(c:Vf.Ins)(k:Vf.Kn):NZ (Vf.eD m u c k):=by
 unfold Vf.eD;refine bM (P:=NZ) (fun h1=>?_) (fun g1=>?_)
 ·exact tH _ _
 refine bM (P:=NZ) (fun h1=>?_) (fun g2=>?_)
 ·exact tH _ _
 refine bM (P:=NZ) (fun h1=>?_) (fun g3=>?_)
 ·exact (tJ (by decide) _).andThen fun _ _=>tH _ _
 refine bM (P:=NZ) (fun h1=>?_) (fun g4=>?_)
 ·exact wO _ _
 refine bM (P:=NZ) (fun h1=>?_) (fun g5=>?_)
 ·exact (Cy _).andThen fun _ _=>.ok _
 refine bM (P:=NZ) (fun h1=>?_) (fun g6=>?_)
 ·exact pW _ _ _
 refine bM (P:=NZ) (fun h1=>?_) (fun g7=>?_)
 ·exact pW _ _ _
 refine bM (P:=NZ) (fun h1=>?_) (fun g8=>?_)
 ·exact pW _ _ _
 refine bM (P:=NZ) (fun h1=>?_) (fun g9=>?_)
 ·exact pW _ _ _
 refine bM (P:=NZ) (fun h1=>?_) (fun g10=>?_)
 ·exact pW _ _ _
 refine bM (P:=NZ) (fun h1=>?_) (fun g11=>?_)
 ·exact (LY _).andThen fun _ _=>pW _ _ _
 refine bM (P:=NZ) (fun h1=>?_) (fun g12=>?_)
 ·exact (LY _).andThen fun _ _=>.ok _
 refine bM (P:=NZ) (fun h1=>?_) (fun g13=>?_)
 ·exact wO _ _
 ·exact VG _ _ _ _
theorem VI (len:Nat)(k:Vf.Kn)(t:Int)(s:Vf.S):NZ (Vf.eP len k t s):=by
 unfold Vf.eP;split
 ·split
  ·exact .ok _
  ·split
   ·split
    ·exact .ok _
    ·exact .ok _
   ·exact .err (by decide)
 ·exact .err (by decide)
theorem L8 (len:Nat)(k:Vf.Kn):∀ (l:List Int) (s:Vf.S),NZ (Vf.kZ len k l s)
 | [],_=>.ok _
 | _ :: l,_=>(VI _ _ _ _).andThen fun s' _=>L8 len k l s'
theorem FP (m:Vf.Md)(u:Vf.Un)(n:Nat)(s:Vf.S):NZ (Vf.look m u n s):=by
 unfold Vf.look;split
 ·exact ((VH _ _ _ _).andThen fun _ _=>.ok _).andThen fun _ _=>L8 _ _ _ _
 ·exact .ok _
def pX (m:Vf.Md)(t:Int):Prop:=Vf.plain t=true∨(10≤t∧Vf.is m 3 (t - 10)=true)
def aY (m:Vf.Md)(st:List Int):Prop:=kC m st∧st.length≤300
def Ok {α:Type}(p:α→Prop)(r:Except Int α):Prop:=∀ x,r=.ok x→p x
theorem Ok.andThen {α β:Type}{p:α→Prop}{q:β→Prop}{r:Except Int α}{f:α→Except Int β}(h:Ok p r)(hf:∀ x,p x→Ok q (f x)):Ok q (Vf.andThen r f):=by
 cases r with
 | error e=>intro x hx;cases hx
 | ok x=>exact hf x (h x rfl)
theorem tK {m:Vf.Md}{t:Int}{st:List Int}(ht:pX m t)(h:aY m st):Ok (aY m) (Vf.put t st):=by
 intro x hx;unfold Vf.put at hx;split at hx
 ·cases hx
  refine⟨fun y hy=>?_,by simp;omega⟩;rcases List.mem_cons.1 hy with rfl | hy
  ·exact ht
  ·exact h.1 y hy
 ·cases hx
theorem aY.tail {m:Vf.Md}{t:Int}{st:List Int}(h:aY m (t :: st)):aY m st:=⟨fun x hx=>h.1 x (List.mem_cons_of_mem _ hx),by have:=h.2;simp at this;omega⟩
theorem wP {m:Vf.Md}:∀ (ts st:List Int),aY m st→Ok (aY m) (Vf.dA ts st)
 | [],st,h=>fun x hx=>by cases hx;exact h
 | _ :: _,[],_=>fun x hx=>by cases hx
 | t :: ts,y :: r,h=>fun x hx=>by
  unfold Vf.dA at hx;split at hx
  ·exact wP ts r h.tail x hx
  ·cases hx
theorem pY {m:Vf.Md}{t:Int}{l st:List Int}(ht:pX m t)(h:aY m st):Ok (aY m) (Vf.turn t l st):=(wP _ _ h).andThen fun _ h=>tK ht h
theorem Cz {m:Vf.Md}{st:List Int}(h:aY m st):Ok (fun p=>pX m p.1∧aY m p.2) (Vf.pop st):=fun x hx=>by
 cases st with
 | nil=>cases hx
 | cons t r=>cases hx;exact⟨h.1 t List.mem_cons_self,h.tail⟩
theorem L9 {m:Vf.Md}{st:List Int}(h:aY m st):Ok (fun p=>pX m p.1∧aY m p.2) (Vf.kY st):=(Cz h).andThen fun p hp x hx=>by
 split at hx
 ·cases hx;exact hp
 ·cases hx
theorem Ma {m:Vf.Md}{st:List Int}(h:aY m st):Ok (fun p=>(10≤p.1∧pX m p.1)∧aY m p.2) (Vf.kz st):=(Cz h).andThen fun p hp x hx=>by
 split at hx
 ·cases hx;exact⟨⟨by assumption,hp.1⟩,hp.2⟩
 ·cases hx
theorem tL {m:Vf.Md}{b:Bool}{e:Int}{st:List Int}(h:aY m st):Ok (aY m) (Vf.must b e st):=fun x hx=>by
 unfold Vf.must at hx;split at hx
 ·cases hx;exact h
 ·cases hx
theorem FQ {m:Vf.Md}{u:Vf.Un}(h:Vf.fU m u=0):(u.kind=4∨Vf.plain u.result=true)∧(u.kind≠3∨Vf.plain u.takes=true)∧∀ t ∈ u.locals,pX m t:=by
 obtain⟨_,_,h3⟩:=iy h;unfold Vf.typed Vf.heads at h3;simp only[Bool.and_eq_true,Bool.or_eq_true,beq_iff_eq,bne_iff_ne,List.all_eq_true] at h3;obtain⟨⟨h4,h5⟩,h6⟩:=h3;refine⟨h4,h5,fun t ht=>?_⟩;rcases h6 t ht with h7 | h7
 ·exact .inl h7
 ·obtain⟨_,_,_,h8⟩:=kD h7
  exact .inr ⟨by omega,h7⟩
theorem FR (m:Vf.Md):pX m 1:=.inl rfl
theorem wQ (m:Vf.Md):pX m 2:=.inl rfl
theorem Mc {m:Vf.Md}(hR:Rt m){k:Nat}{x:Vf.Un}(hx:m.units[k]?=some x)(hk:x.kind≠4):pX m x.result:=by
 rcases (FQ (hR.heads k x hx).1).1 with h | h
 ·exact absurd h hk
 ·exact .inl h
theorem FT {m:Vf.Md}{kd a:Int}(h:Vf.is m kd a=true):∃ k:Nat,a=k∧m.units[k]?=some (Vf.unit m a)∧(Vf.unit m a).kind=kd:=by
 obtain⟨x,h1,h2,h3⟩:=kD h;have e:Vf.unit m a=x:=by unfold Vf.unit;rw[h1];rfl
 exact⟨a.toNat,by omega,by rw[e];exact h1,by rw[e];exact h2⟩
theorem VJ {m:Vf.Md}{u:Vf.Un}{c:Vf.Ins}{st:List Int}(hR:Rt m)(hu:Vf.fU m u=0)(hf:Vf.bC m u c=0)(h:aY m st):Ok (aY m) (Vf.speak m u c st):=by
 obtain⟨_,_,hrg⟩:=pV hf;unfold Vf.speak;refine bM (P:=Ok (aY m)) (fun h1=>?_) (fun g1=>?_)
 ·have h2:Vf.is m 2 c.a=true:=by
   rw[← hrg];unfold Vf.ranged;rw[if_neg (by omega),if_neg (by omega),if_neg (by omega),if_pos h1]
  obtain⟨k,_,h3,h4⟩:=FT h2;exact pY (Mc hR h3 (by omega)) h
 refine bM (P:=Ok (aY m)) (fun h1=>?_) (fun g2=>?_)
 ·have h2:Vf.is m 3 c.a=true:=by
   rw[← hrg];unfold Vf.ranged;rw[if_neg (by omega),if_neg (by omega),if_neg (by omega),if_neg (by omega),if_pos h1]
  obtain⟨k,h5,_,_⟩:=FT h2;exact pY (.inr ⟨by omega,by rw[show 10+c.a - 10=c.a by omega];exact h2⟩) h
 refine bM (P:=Ok (aY m)) (fun h1=>?_) (fun g3=>?_)
 ·exact wP _ _ h
 refine bM (P:=Ok (aY m)) (fun h1=>?_) (fun g4=>?_)
 ·have h2:(decide (0≤c.a) && decide (c.a<m.boxes.length))=true:=by
   rw[← hrg];unfold Vf.ranged;rw[if_neg (by omega),if_neg (by omega),if_neg (by omega),if_neg (by omega),if_neg (by omega),if_pos (.inr h1)]
  simp only[Bool.and_eq_true,decide_eq_true_eq] at h2;have h3:m.boxes[c.a.toNat]?=some m.boxes[c.a.toNat]:=List.getElem?_eq_getElem (by omega);refine tK (.inl ?_) h;unfold Vf.jv;rw[h3];exact hR.boxes _ _ h3
 refine bM (P:=Ok (aY m)) (fun h1=>?_) (fun g5=>?_)
 ·refine (Cz h).andThen fun p hp=>(Ma hp.2).andThen fun g hg=>(tL hg.2).andThen fun st' hst=>tK ?_ hst
  rcases hg.1.2 with h1 | ⟨_,h1⟩
  ·have:=hg.1.1
   unfold Vf.plain at h1;simp at h1;omega
  ·obtain⟨k,_,h3,h4⟩:=FT h1
   exact Mc hR h3 (by omega)
 refine bM (P:=Ok (aY m)) (fun h1=>?_) (fun g6=>?_)
 ·exact (Ma h).andThen fun g hg=>tK (wQ m) hg.2
 refine bM (P:=Ok (aY m)) (fun h1=>?_) (fun g7=>?_)
 ·intro x hx
  by_cases hk:u.kind=3
  ·refine ((tL h).andThen fun st' hst=>pY ?_ hst) x hx
   rcases (FQ hu).2.1 with h1 | h1
   ·exact absurd hk h1
   ·exact .inl h1
  ·have e:(u.kind==3)=false:=by simpa using hk
   rw[e] at hx;cases hx
 refine bM (P:=Ok (aY m)) (fun h1=>?_) (fun g8=>?_)
 ·exact (tL h).andThen fun _ h=>(wP _ _ h).andThen fun _ h=>tL h
 refine bM (P:=Ok (aY m)) (fun h1=>?_) (fun g9=>?_)
 ·exact (tL h).andThen fun _ h=>tL h
 ·intro x hx;cases hx;exact h
theorem Me {m:Vf.Md}{u:Vf.Un}{c:Vf.Ins}{k:Vf.Kn}(hR:Rt m)(hu:Vf.fU m u=0)(hf:Vf.bC m u c=0)(h:aY m k.st):Ok (aY m) (Vf.eD m u c k):=by
 obtain⟨_,_,hrg⟩:=pV hf;unfold Vf.eD;refine bM (P:=Ok (aY m)) (fun h1=>?_) (fun g1=>?_)
 ·exact tK (FR m) h
 refine bM (P:=Ok (aY m)) (fun h1=>?_) (fun g2=>?_)
 ·exact tK (wQ m) h
 refine bM (P:=Ok (aY m)) (fun h1=>?_) (fun g3=>?_)
 ·have h2:(decide (0≤c.a) && decide (c.a<u.locals.length))=true:=by
   rw[← hrg];unfold Vf.ranged;rw[if_neg (by omega),if_pos (.inl h1)]
  simp only[Bool.and_eq_true,decide_eq_true_eq] at h2;have h3:u.locals[c.a.toNat]?=some u.locals[c.a.toNat]:=List.getElem?_eq_getElem (by omega);refine (tL h).andThen fun _ h=>tK ?_ h;unfold Vf.pR;rw[h3];exact (FQ hu).2.2 _ (List.mem_of_getElem? h3)
 refine bM (P:=Ok (aY m)) (fun h1=>?_) (fun g4=>?_)
 ·exact wP _ _ h
 refine bM (P:=Ok (aY m)) (fun h1=>?_) (fun g5=>?_)
 ·exact (Cz h).andThen fun p hp x hx=>by cases hx;exact hp.2
 refine bM (P:=Ok (aY m)) (fun h1=>?_) (fun g6=>?_)
 ·exact pY (FR m) h
 refine bM (P:=Ok (aY m)) (fun h1=>?_) (fun g7=>?_)
 ·exact pY (wQ m) h
 refine bM (P:=Ok (aY m)) (fun h1=>?_) (fun g8=>?_)
 ·exact pY (FR m) h
 refine bM (P:=Ok (aY m)) (fun h1=>?_) (fun g9=>?_)
 ·exact pY (wQ m) h
 refine bM (P:=Ok (aY m)) (fun h1=>?_) (fun g10=>?_)
 ·exact pY (wQ m) h
 refine bM (P:=Ok (aY m)) (fun h1=>?_) (fun g11=>?_)
 ·exact (L9 h).andThen fun p hp=>pY (wQ m) hp.2
 refine bM (P:=Ok (aY m)) (fun h1=>?_) (fun g12=>?_)
 ·exact (L9 h).andThen fun p hp x hx=>by cases hx;exact hp.2
 refine bM (P:=Ok (aY m)) (fun h1=>?_) (fun g13=>?_)
 ·exact wP _ _ h
 ·exact VJ hR hu hf h
structure Inv (m:Vf.Md) (u:Vf.Un) (s:Vf.S):Prop where
 come:∀ i k,s.come i=some k→i<u.code.length∧aY m k.st
 row:∀ i ∈ s.row,∃ k,s.come i=some k
theorem CB {m:Vf.Md}{u:Vf.Un}{s:Vf.S}{i:Nat}{k:Vf.Kn}(h:Inv m u s)(hi:i<u.code.length)(hk:aY m k.st):Inv m u (s.note i k):=by
 refine⟨fun j kj hj=>?_,fun j hj=>?_⟩
 ·have hj':(if j=i then some k else s.come j)=some kj:=hj
  split at hj'
  ·cases hj';subst_vars;exact⟨hi,hk⟩
  ·exact h.come j kj hj'
 ·show ∃ k',(if j=i then some k else s.come j)=some k'
  by_cases hji:j=i
  ·exact⟨k,if_pos hji⟩
  ·rw[if_neg hji]
   rcases List.mem_append.1 hj with h1 | h1
   ·exact h.row j h1
   ·simp at h1;exact absurd h1 hji
theorem Mf {m:Vf.Md}{u:Vf.Un}{s s':Vf.S}{k:Vf.Kn}{t:Int}(h:Inv m u s)(h0:0≤t)(hk:aY m k.st)(hg:Vf.eP u.code.length k t s=.ok s'):Inv m u s'∧s'.row.length≤s.row.length+1:=by
 unfold Vf.eP at hg;split at hg
 ·rename_i hlt
  have hn:t.toNat<u.code.length:=by omega
  split at hg
  ·cases hg
   exact⟨CB h hn hk,by simp[Vf.S.note]⟩
  ·rename_i kt hc
   split at hg
   ·rename_i hst
    split at hg
    ·cases hg;exact⟨h,by omega⟩
    ·cases hg
     exact⟨CB h hn (by show aY m kt.st;rw[hst];exact hk),by simp[Vf.S.note]⟩
   ·cases hg
 ·cases hg
theorem FU {m:Vf.Md}{u:Vf.Un}{k:Vf.Kn}(hk:aY m k.st):∀ {l:List Int} {s s':Vf.S},Inv m u s→(∀ t ∈ l,0≤t)→Vf.kZ u.code.length k l s=.ok s'→Inv m u s'
 | [],_,_,h,_,hg=>by cases hg;exact h
 | t :: l,s,s',h,h0,hg=>by
  unfold Vf.kZ Vf.andThen at hg;split at hg
  ·cases hg
  ·rename_i s1 h1
   exact FU hk (Mf h (h0 t List.mem_cons_self) hk h1).1 (fun t ht=>h0 t (List.mem_cons_of_mem _ ht)) hg
theorem VK {m:Vf.Md}{u:Vf.Un}{c:Vf.Ins}{k k':Vf.Kn}(hR:Rt m)(hu:Vf.fU m u=0)(hf:Vf.bC m u c=0)(h:aY m k.st)(hk:Vf.fV m u c k=.ok k'):aY m k'.st:=by
 unfold Vf.fV Vf.andThen at hk;split at hk
 ·cases hk
 ·rename_i st hst
  cases hk;exact Me hR hu hf h st hst
namespace Vf
def gF (f g:Fl):Prop:=∀ i,f.has i=true→g.has i=true
theorem gF.refl (f:Fl):gF f f:=fun _ h=>h
theorem gF.trans {f g h:Fl}(a:gF f g)(b:gF g h):gF f h:=fun i hi=>b i (a i hi)
theorem gF.both (f g:Fl):gF (f.both g) f∧gF (f.both g) g:=by
 refine⟨fun i h=>?_,fun i h=>?_⟩<;>(rw[has_both] at h;simp at h;first | exact h.1 | exact h.2)
def Sat (m:Md)(u:Un)(K:Nat→Option Kn)(n:Nat)(k:Kn)(c:Ins):Prop :=
 ∃ k',fV m u c k=.ok k'∧∀ t ∈ goes c n,t.toNat<u.code.length∧∃ k2,K t.toNat=some k2∧k2.st=k'.st∧gF k2.fl k'.fl
structure Fix (m:Md) (u:Un) (K:Nat→Option Kn):Prop where
 zero:∃ k,K 0=some k∧k.st=[]∧gF k.fl (Fl.first u.params.toNat)
 lt:∀ n k,K n=some k→n<u.code.length
 next:∀ n k c,K n=some k→u.code[n]?=some c→Sat m u K n k c
structure Gr (s s':S):Prop where
 old:∀ n k0,s.come n=some k0→∃ k1,s'.come n=some k1∧k1.st=k0.st∧gF k1.fl k0.fl
 new:∀ n k1,s'.come n=some k1→s.come n=some k1∨n ∈ s'.row
 row:∀ n,n ∈ s.row→n ∈ s'.row
theorem Gr.refl (s:S):Gr s s:=⟨fun _ k h=>⟨k,h,rfl,.refl _⟩,fun _ _ h=>.inl h,fun _ h=>h⟩
theorem Gr.trans {a b c:S}(h:Gr a b)(k:Gr b c):Gr a c :=
 ⟨fun n k0 h0=>by
  obtain⟨k1,h1,e1,l1⟩:=h.old n k0 h0;obtain⟨k2,h2,e2,l2⟩:=k.old n k1 h1;exact⟨k2,h2,e2.trans e1,l2.trans l1⟩,
  fun n k1 h1=>by
  rcases k.new n k1 h1 with h2 | h2
  ·rcases h.new n k1 h2 with h3 | h3
   ·exact .inl h3
   ·exact .inr (k.row n h3)
  ·exact .inr h2,
  fun n hn=>k.row n (h.row n hn)⟩
def Lt (len:Nat)(s:S):Prop:=∀ n k,s.come n=some k→n<len
theorem VL {len:Nat}{k:Kn}{t:Int}{s s':S}(h0:0≤t)(h:eP len k t s=.ok s')(hl:Lt len s) :
  Gr s s'∧Lt len s'∧t.toNat<len∧∃ k2,s'.come t.toNat=some k2∧k2.st=k.st∧gF k2.fl k.fl:=by
 have Mg:∀ (x:Kn),t.toNat<len→(∀ k0,s.come t.toNat=some k0→x.st=k0.st∧gF x.fl k0.fl)→Gr s (s.note t.toNat x)∧Lt len (s.note t.toNat x):=fun x hlt hx=>by
  refine⟨⟨fun n k0 hn=>?_,fun n k1 hn=>?_,fun n hn=>?_⟩,fun n k1 hn=>?_⟩
  ·by_cases e:n=t.toNat
   ·subst e;exact⟨x,by simp[S.note],(hx k0 hn).1,(hx k0 hn).2⟩
   ·exact⟨k0,by simp[S.note,e,hn],rfl,.refl _⟩
  ·by_cases e:n=t.toNat
   ·subst e;right;simp[S.note]
   ·left;simpa[S.note,e] using hn
  ·simp[S.note,hn]
  ·by_cases e:n=t.toNat
   ·subst e;exact hlt
   ·exact hl n k1 (by simpa[S.note,e] using hn)
 unfold eP at h;split at h
 ·rename_i hlt
  have hn:t.toNat<len:=by omega
  split at h
  ·rename_i hc
   cases h;obtain⟨g1,g2⟩:=Mg k hn (fun k0 hk=>by rw[hc] at hk;cases hk);exact⟨g1,g2,hn,k,by simp[S.note],rfl,.refl _⟩
  ·rename_i t0 hc
   split at h
   ·rename_i hst
    split at h
    ·rename_i he
     cases h;have e:=Fl.eq_iff.1 he;exact⟨.refl _,hl,hn,t0,hc,hst,by rw[← e];exact (gF.both _ _).2⟩
    ·cases h
     obtain⟨g1,g2⟩:=Mg ⟨t0.st,t0.fl.both k.fl⟩ hn (fun k0 hk=>by rw[hc] at hk;cases hk;exact⟨rfl,(gF.both _ _).1⟩);exact⟨g1,g2,hn,⟨t0.st,t0.fl.both k.fl⟩,by simp[S.note],hst,(gF.both _ _).2⟩
   ·cases h
 ·cases h
theorem Mh {len:Nat}{k:Kn}:∀ {l:List Int} {s s':S},(∀ t ∈ l,0≤t)→kZ len k l s=.ok s'→Lt len s →
  Gr s s'∧Lt len s'∧∀ t ∈ l,t.toNat<len∧∃ k2,s'.come t.toNat=some k2∧k2.st=k.st∧gF k2.fl k.fl
 | [],s,s',_,h,hl=>by
  cases h;exact⟨.refl _,hl,fun t ht=>by cases ht⟩
 | t :: l,s,s',h0,h,hl=>by
  unfold kZ andThen at h;split at h
  ·cases h
  ·rename_i s1 h1
   obtain⟨g1,l1,hlt,k2,hk2,e2,f2⟩:=VL (h0 t List.mem_cons_self) h1 hl;obtain⟨g2,l2,hall⟩:=Mh (fun x hx=>h0 x (List.mem_cons_of_mem _ hx)) h l1;refine⟨g1.trans g2,l2,fun x hx=>?_⟩;rcases List.mem_cons.1 hx with rfl | hx
   ·obtain⟨k3,hk3,e3,f3⟩:=g2.old _ _ hk2
    exact⟨hlt,k3,hk3,e3.trans e2,f3.trans f2⟩
   ·exact hall x hx
theorem Sat.gr {m:Md}{u:Un}{s s':S}{n:Nat}{k:Kn}{c:Ins}(h:Sat m u s.come n k c)(g:Gr s s'):Sat m u s'.come n k c:=by
 obtain⟨k',hk,ha⟩:=h;refine⟨k',hk,fun t ht=>?_⟩;obtain⟨hl,k2,h2,e2,f2⟩:=ha t ht;obtain⟨k3,h3,e3,f3⟩:=g.old _ _ h2;exact⟨hl,k3,h3,e3.trans e2,f3.trans f2⟩
structure Wi (m:Md) (u:Un) (s:S):Prop where
 zero:∃ k,s.come 0=some k∧k.st=[]∧gF k.fl (Fl.first u.params.toNat)
 lt:Lt u.code.length s
 next:∀ n k c,s.come n=some k→u.code[n]?=some c→n ∈ s.row∨Sat m u s.come n k c
theorem VM {m:Md}{u:Un}{n:Nat}{row:List Nat}{come:Nat→Option Kn}{s':S}(hf:Forms m u)(h:Wi m u ⟨come,n :: row⟩)(hl:look m u n ⟨come,row⟩=.ok s'):Wi m u s':=by
 have hlt:Lt u.code.length (⟨come,row⟩:S):=h.lt;have key:Gr (⟨come,row⟩:S) s'→Lt u.code.length s'→(∀ k c,s'.come n=some k→u.code[n]?=some c→come n=some k→Sat m u s'.come n k c)→Wi m u s':=fun g l hn=>by
  refine⟨?_,l,fun i k c hi hc=>?_⟩
  ·obtain⟨k,h0,e0,f0⟩:=h.zero
   obtain⟨k1,h1,e1,f1⟩:=g.old 0 k h0;exact⟨k1,h1,e1.trans e0,f1.trans f0⟩
  ·rcases g.new i k hi with h1 | h1
   ·by_cases e:i=n
    ·subst e;exact .inr (hn k c hi hc h1)
    ·rcases h.next i k c h1 hc with h2 | h2
     ·rcases List.mem_cons.1 h2 with h3 | h3
      ·exact absurd h3 e
      ·exact .inl (g.row i h3)
     ·exact .inr (Sat.gr (s:=⟨come,row⟩) h2 g)
   ·exact .inl h1
 unfold look at hl;split at hl
 ·rename_i k c hk hc
  unfold andThen at hl;split at hl
  ·cases hl
  ·rename_i k' hr
   obtain⟨g,l,ha⟩:=Mh (Cr (hf c (List.mem_of_getElem? hc)) n) hl hlt;refine key g l (fun k1 c1 _ hc1 hk1=>?_);have hk':come n=some k:=hk;rw[hk'] at hk1;rw[hc] at hc1;cases hk1;cases hc1;exact⟨k',hr,ha⟩
 ·rename_i hno
  cases hl;exact key (.refl _) hlt (fun k c h1 h2 _=>absurd h2 (hno k c h1))
theorem Mi {m:Md}{u:Un}(hf:Forms m u):∀ (f:Nat) (s:S),mu u.code.length s<f→Wi m u s→(gq m u f s).1=0→∃ K,Fix m u K
 | f+1,s,h1,hw,h0=>by
  obtain⟨come,row⟩:=s;match row with
  | []=>exact⟨come,hw.zero,hw.lt,fun n k c hn hc=>(hw.next n k c hn hc).elim (fun h=>by cases h) id⟩
  | n :: row =>
   unfold gq at h0;simp only at h0;rw[Lx] at h1;split at h0
   ·rename_i e he
    exact absurd h0 (FP m u n _ e he)
   ·rename_i s' hl
    have:=Lv hf hl;exact Mi hf f s' (by omega) (VM hf hw hl) h0
theorem VN {m:Md}{u:Un}(hf:Forms m u)(hc:0<u.code.length)(h:(gU m u).1=0):∃ K,Fix m u K:=by
 refine Mi hf _ (start u) (Nat.lt_succ_self _) ⟨⟨(⟨[],Fl.first u.params.toNat⟩:Kn),by simp[start,S.note],rfl,gF.refl _⟩,fun n k hn=>?_,fun n k c hn _=>?_⟩ h
 ·by_cases e:n=0
  ·omega
  ·simp[start,S.note,e] at hn
 ·by_cases e:n=0
  ·subst e;left;simp[start,S.note]
  ·simp[start,S.note,e] at hn
end Vf
end Go.Proofs.YtfcpglhpolpdcaaGreatDoor

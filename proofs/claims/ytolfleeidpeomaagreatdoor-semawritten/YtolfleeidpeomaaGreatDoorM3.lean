/- How programs lie in memory. -/
import Derived.Test.YtolfleeidpeomaaGreatDoorM2
import Derived.Test.YtolfleeidpeomaaGreatDoorM1
import Derived.WalkKit
import Derived.WalkSpells
import Derived.WalkLawsBesides
import Derived.Shelf.Strings.Builder1
import Derived.Shelf.Strings.Builder2
import Derived.Shelf.Strings.OnBuilder
import Derived.Shelf.Small.Strs
import Derived.Shelf.Strconv.Itoa0
import Derived.Shelf.Strconv.Itoa1
import Derived.Shelf.LaysM
import Derived.Shelf.Strconv.Itoa2
import Derived.Shelf.Strconv.Itoa3
import Derived.Shelf.Strconv.Itoa4
import Derived.Shelf.Strconv.Clone
import Derived.Shelf.Strings.Search1
import Derived.Shelf.Slices.Turned
import Derived.Test.YtolfleeidpeomaaGreatDoorProg
import Derived.Lib.Bytealg
set_option maxRecDepth 100000
set_option maxHeartbeats 1000000
namespace Go.Proofs.YtolfleeidpeomaaGreatDoor
open Go.RowKit
abbrev dH (x:Sy.Ex) (a:Option Addr) (c:Nat):Value:=.agg #[.int .i64 x.kind,.int .i64 x.n,.string x.name,.slice a x.kids.length c]
abbrev aQ (t:Sy.Ty):Value:=.agg #[.int .i64 t.kind,.string t.gen]
abbrev l7 (s:Sy.St) (xa:Option Addr) (xc:Nat) (ba:Option Addr) (bc:Nat) (ea:Option Addr) (ec:Nat):Value :=
 .agg #[.int .i64 s.kind,.string s.name,.int .i64 s.x.kind,.int .i64 s.x.n,.string s.x.name,.slice xa s.x.kids.length xc,.slice ba s.body.length bc,.slice ea s.els.length ec]
abbrev o9 (d:Sy.Df) (pa:Option Addr) (pc:Nat) (ba:Option Addr) (bc:Nat):Value :=
 .agg #[.int .i64 d.kind,.string d.name,.int .i64 d.ty.kind,.string d.ty.gen,.int .i64 d.takes.kind,.string d.takes.gen,.int .i64 d.cap,.slice pa d.params.length pc,.slice ba d.body.length bc]
def aJ (B:Nat)(w:World):Nat→Sy.Ex→Option Addr→Prop
 | 0,_,_=>False
 | h+1,x,a=>x.name.size≤maxLen∧x.kids.length≤maxLen∧∀ i k,x.kids[i]?=some k→∃ b off a' c',a=some ⟨b,off,none⟩∧b<B ∧
   w.cell? ⟨b,off+i * 4,none⟩=some (.int .i64 k.kind)∧w.cell? ⟨b,off+i * 4+1,none⟩=some (.int .i64 k.n)∧w.cell? ⟨b,off+i * 4+2,none⟩=some (.string k.name) ∧
   w.cell? ⟨b,off+i * 4+3,none⟩=some (.slice a' k.kids.length c')∧aJ B w h k a'
def lJ (B:Nat)(w:World)(P:Sy.St→Option Addr→Option Addr→Option Addr→Prop)(l:List Sy.St)(a:Option Addr):Prop :=
 ∀ i s,l[i]?=some s→∃ b off xa xc ba bc ea ec,a=some ⟨b,off,none⟩∧b<B ∧
   w.cell? ⟨b,off+i * 8,none⟩=some (.int .i64 s.kind)∧w.cell? ⟨b,off+i * 8+1,none⟩=some (.string s.name) ∧
   w.cell? ⟨b,off+i * 8+2,none⟩=some (.int .i64 s.x.kind)∧w.cell? ⟨b,off+i * 8+3,none⟩=some (.int .i64 s.x.n)∧w.cell? ⟨b,off+i * 8+4,none⟩=some (.string s.x.name) ∧
   w.cell? ⟨b,off+i * 8+5,none⟩=some (.slice xa s.x.kids.length xc)∧w.cell? ⟨b,off+i * 8+6,none⟩=some (.slice ba s.body.length bc) ∧
   w.cell? ⟨b,off+i * 8+7,none⟩=some (.slice ea s.els.length ec)∧P s xa ba ea
def cu (B:Nat)(w:World):Nat→Sy.St→Option Addr→Option Addr→Option Addr→Prop
 | 0,_,_,_,_=>False
 | h+1,s,xa,ba,ea=>s.name.size≤maxLen∧(∃ hx,aJ B w hx s.x xa)∧s.body.length≤maxLen∧s.els.length≤maxLen∧lJ B w (cu B w h) s.body ba∧lJ B w (cu B w h) s.els ea
def iw (B:Nat)(w:World)(h:Nat)(l:List Sy.St)(a:Option Addr):Prop:=l.length≤maxLen∧lJ B w (cu B w h) l a
def rM (B:Nat)(w:World)(l:List Sy.Pm)(a:Option Addr):Prop :=
 l.length≤maxLen∧∀ i p,l[i]?=some p→∃ b off,a=some ⟨b,off,none⟩∧b<B∧w.cell? ⟨b,off+i * 3,none⟩=some (.string p.name) ∧
   w.cell? ⟨b,off+i * 3+1,none⟩=some (.int .i64 p.ty.kind)∧w.cell? ⟨b,off+i * 3+2,none⟩=some (.string p.ty.gen)∧p.name.size≤maxLen∧p.ty.gen.size≤maxLen
def jL (B:Nat)(w:World)(d:Sy.Df)(pa ba:Option Addr):Prop :=
 d.name.size≤maxLen∧d.ty.gen.size≤maxLen∧d.takes.gen.size≤maxLen∧rM B w d.params pa∧∃ h,iw B w h d.body ba
def dS (B:Nat)(w:World)(l:List Sy.Df)(a:Option Addr):Prop :=
 l.length≤maxLen∧∀ i d,l[i]?=some d→∃ b off pa pc ba bc,a=some ⟨b,off,none⟩∧b<B ∧
   w.cell? ⟨b,off+i * 9,none⟩=some (.int .i64 d.kind)∧w.cell? ⟨b,off+i * 9+1,none⟩=some (.string d.name) ∧
   w.cell? ⟨b,off+i * 9+2,none⟩=some (.int .i64 d.ty.kind)∧w.cell? ⟨b,off+i * 9+3,none⟩=some (.string d.ty.gen) ∧
   w.cell? ⟨b,off+i * 9+4,none⟩=some (.int .i64 d.takes.kind)∧w.cell? ⟨b,off+i * 9+5,none⟩=some (.string d.takes.gen) ∧
   w.cell? ⟨b,off+i * 9+6,none⟩=some (.int .i64 d.cap)∧w.cell? ⟨b,off+i * 9+7,none⟩=some (.slice pa d.params.length pc) ∧
   w.cell? ⟨b,off+i * 9+8,none⟩=some (.slice ba d.body.length bc)∧jL B w d pa ba
def Same (B:Nat)(w w':World):Prop:=∀ b o,b<B→w'.cell? ⟨b,o,none⟩=w.cell? ⟨b,o,none⟩
theorem Same.refl (B:Nat)(w:World):Same B w w:=fun _ _ _=>rfl
theorem Same.trans {B:Nat}{a b c:World}(h:Same B a b)(k:Same B b c):Same B a c:=fun i o hi=>(k i o hi).trans (h i o hi)
theorem dK {B:Nat}{C:Option Nat}{w w':World}(hg:w.grownBy w' C)(hB:∀ c,C=some c→B≤c)(hs:B≤w.heap.size):Same B w w' :=
 fun b o hb=>World.cell?_of_block (w:=w) (hg.block b (by omega) (fun e=>by have:=hB b e.symm;omega))
theorem xC {B:Nat}{w w':World}(h:Below B w w'):Same B w w':=fun b o hb=>h.cell (p:=⟨b,o,none⟩) hb
theorem aJ.same {B:Nat}{w w':World}(hs:Same B w w'):∀ (h:Nat) (x:Sy.Ex) (a:Option Addr),aJ B w h x a→aJ B w' h x a
 | 0,_,_,h=>h
 | h+1,x,a,⟨h1,h2,h3⟩=>⟨h1,h2,fun i k hk=>by
   obtain ⟨b,off,a',c',ha,hb,c0,c1,c2,c3,hin⟩:=h3 i k hk
   exact ⟨b,off,a',c',ha,hb,(hs _ _ hb).trans c0,(hs _ _ hb).trans c1,(hs _ _ hb).trans c2,(hs _ _ hb).trans c3,aJ.same hs h k a' hin⟩⟩
theorem lJ.same {B:Nat}{w w':World}(hs:Same B w w'){P P':Sy.St→Option Addr→Option Addr→Option Addr→Prop}(hP:∀ s x b e,P s x b e→P' s x b e)
  {l:List Sy.St} {a:Option Addr} (h:lJ B w P l a):lJ B w' P' l a:=fun i s hi=>by
 obtain ⟨b,off,xa,xc,ba,bc,ea,ec,ha,hb,c0,c1,c2,c3,c4,c5,c6,c7,hin⟩:=h i s hi
 exact ⟨b,off,xa,xc,ba,bc,ea,ec,ha,hb,(hs _ _ hb).trans c0,(hs _ _ hb).trans c1,(hs _ _ hb).trans c2,(hs _ _ hb).trans c3,(hs _ _ hb).trans c4,(hs _ _ hb).trans c5,(hs _ _ hb).trans c6,(hs _ _ hb).trans c7,hP _ _ _ _ hin⟩
theorem cu.same {B:Nat}{w w':World}(hs:Same B w w'):∀ (h:Nat) (s:Sy.St) (xa ba ea:Option Addr),cu B w h s xa ba ea→cu B w' h s xa ba ea
 | 0,_,_,_,_,h=>h
 | h+1,_,_,_,_,⟨h1,⟨hx,h2⟩,h3,h4,h5,h6⟩=>⟨h1,⟨hx,h2.same hs⟩,h3,h4,h5.same hs (fun s x b e=>cu.same hs h s x b e),h6.same hs (fun s x b e=>cu.same hs h s x b e)⟩
theorem iw.same {B:Nat}{w w':World}(hs:Same B w w'){h:Nat}{l:List Sy.St}{a:Option Addr}(hb:iw B w h l a):iw B w' h l a :=
 ⟨hb.1,hb.2.same hs (fun s x b e=>cu.same hs h s x b e)⟩
theorem rM.same {B:Nat}{w w':World}(hs:Same B w w'){l:List Sy.Pm}{a:Option Addr}(h:rM B w l a):rM B w' l a :=
 ⟨h.1,fun i p hi=>by
  obtain ⟨b,off,ha,hb,c0,c1,c2,r⟩:=h.2 i p hi
  exact ⟨b,off,ha,hb,(hs _ _ hb).trans c0,(hs _ _ hb).trans c1,(hs _ _ hb).trans c2,r⟩⟩
theorem jL.same {B:Nat}{w w':World}(hs:Same B w w'){d:Sy.Df}{pa ba:Option Addr}(h:jL B w d pa ba):jL B w' d pa ba :=
 ⟨h.1,h.2.1,h.2.2.1,h.2.2.2.1.same hs,h.2.2.2.2.elim fun k hk=>⟨k,hk.same hs⟩⟩
theorem dS.same {B:Nat}{w w':World}(hs:Same B w w'){l:List Sy.Df}{a:Option Addr}(h:dS B w l a):dS B w' l a :=
 ⟨h.1,fun i d hi=>by
  obtain ⟨b,off,pa,pc,ba,bc,ha,hb,c0,c1,c2,c3,c4,c5,c6,c7,c8,hin⟩:=h.2 i d hi
  exact ⟨b,off,pa,pc,ba,bc,ha,hb,(hs _ _ hb).trans c0,(hs _ _ hb).trans c1,(hs _ _ hb).trans c2,(hs _ _ hb).trans c3,(hs _ _ hb).trans c4,(hs _ _ hb).trans c5,(hs _ _ hb).trans c6,(hs _ _ hb).trans c7,(hs _ _ hb).trans c8,hin.same hs⟩⟩
theorem bE {w:World}{b:Nat}{v0 v1:Value}{t:TypeId}(h:w.heap[b]?=some (.cells #[v0,v1] t (0,0))) :
  w.cell? ⟨b,0,none⟩=some v0∧w.cell? ⟨b,1,none⟩=some v1∧w.frozen? ⟨b,0,none⟩=false∧w.frozen? ⟨b,1,none⟩=false:=by simp [World.cell?,World.frozen?,h]
def CK (w:World)(C:Nat)(num:Int)(n:Nat):Prop:=w.heap[C]?=some (.cells #[.int .i64 num,.int .i64 n] 72 (0,0))
theorem CK.cells {w:World}{C n:Nat}{num:Int}(h:CK w C num n) :
  w.cell? ⟨C,0,none⟩=some (.int .i64 num)∧w.cell? ⟨C,1,none⟩=some (.int .i64 n)∧w.frozen? ⟨C,0,none⟩=false∧w.frozen? ⟨C,1,none⟩=false:=bE h
theorem CK.lt {w:World}{C n:Nat}{num:Int}(h:CK w C num n):C<w.heap.size:=lt_of_block h
theorem gQ (w:World)(b o:Nat)(v:Value):w.grownBy (w.setCell ⟨b,o,none⟩ v) (some b) :=
 ⟨rfl,rfl,rfl,by simp [World.setCell],fun k _ hne=>Below.heap_setCell _ _ _ _ (by intro h;apply hne;simp [h])⟩
theorem CK.set1 {w:World}{C n m:Nat}{num:Int}(h:CK w C num n){v:Int}(hv:v=m):CK (w.setCell ⟨C,1,none⟩ (.int .i64 v)) C num m:=by
 subst hv
 have hl:=h.lt
 unfold CK at *
 simp only [World.setCell,Array.getElem?_modify,if_true,h,Option.map_some]
 rfl
theorem CK.set0 {w:World}{C n:Nat}{num v:Int}(h:CK w C num n):CK (w.setCell ⟨C,0,none⟩ (.int .i64 v)) C v n:=by
 unfold CK at *
 simp only [World.setCell,Array.getElem?_modify,if_true,h,Option.map_some]
 rfl
theorem CK.keep {w w':World}{C n:Nat}{num:Int}{r:Option Nat}(h:CK w C num n)(hg:w.grownBy w' r)(hr:r≠some C):CK w' C num n:=(hg.block C h.lt (fun e=>hr e.symm)).trans h
abbrev aH (er num:Int):PanicEntry:={ v:=.iface 26 (.agg #[.int .i64 er,.int .i64 num]),recovered:=false }
def l8 (C:Nat)(num:Int)(r:Except Int Nat)(e:Ending)(w':World):Prop :=
 match r with
 | .ok m=>e=.returned (.tuple #[])∧CK w' C num m
 | .error er=>e=.panicked [aH er num]
def jb (num er:Int)(w:World)(e:Ending)(w':World):Prop:=w.grownBy w' none∧e=if er=0 then .returned (.tuple #[]) else .panicked [aH er num]
theorem Cj (c:UInt8)(w:World) :
  Calls Tryz.prog 91 #[.int .u8 (c.toNat:Int)] w fun e w'=>e=.returned (.bool (Lx.jR c))∧w'=w:=by
 go_enter Tryz.func91,Tryz.ntmps91
 go_wp2
 all_goals go_ret
 all_goals refine ⟨lI ?_,rfl⟩
 all_goals unfold Lx.jR;rw [Bool.eq_iff_iff];simp;omega
theorem Lp (s:ByteArray)(w:World)(hs:s.size≤maxLen) :
  Calls Tryz.prog 89 #[.string s,.func (.func 95) #[] #[]] w fun e w'=>e=.returned (.int .i64 (Lx.span Lx.dB s.data.toList:Nat))∧w'=w:=by
 unfold maxLen at hs
 go_enter Tryz.func89,Tryz.ntmps89
 go_wp2
 go_loop [5] (fun i=>∃ k:Nat,k≤s.size∧i=.int .i64 k∧(s.data.toList.take k).all Lx.dB=true) (fun i=>s.size - (intOf i).toNat)
 case atStart=>exact ⟨0,Nat.zero_le _,rfl,rfl⟩
 case round =>
  obtain ⟨k,hk,rfl,hall⟩:=hrel
  have HA:Hid ((s.data.toList.take k).all Lx.dB=true):=hall
  clear hall
  by_cases hlt:k<s.size
  ·cases hp:Lx.dB s[k]
   ·have HP:Hid (Lx.dB s[k]=false):=hp
    go_wp2_with (go_at_call 95;refine (tK _ _).mono ?_;rintro e w' ⟨rfl,rfl⟩)
    go_ret
    exact ⟨oI (by rw [Cg _ s k HA.out hk (fun _=>HP.out)]),rfl⟩
   ·have HP:Hid (Lx.dB s[k]=true):=hp
    go_wp2_with (go_at_call 95;refine (tK _ _).mono ?_;rintro e w' ⟨rfl,rfl⟩)
    go_round
    case rel=>exact ⟨k+1,by omega,by go_num,by rw [EU s k hlt];exact Lx.K4 _ _ _ HA.out HP.out⟩
    case measure=>simp [intOf];omega
  ·go_wp2
   go_ret
   exact ⟨oI (by rw [Cg _ s k HA.out hk (fun h=>absurd h hlt)]),rfl⟩
theorem drop_byte (s:ByteArray)(k:Nat)(h:k<s.size):s.data.toList.drop k=s[k] :: s.data.toList.drop (k+1):=by
 rw [List.drop_eq_getElem_cons (by simpa using h)];rfl
theorem Lr (c:UInt8)(r:Bool)(B:Nat)(w:World)(hB:w.heap[B]?=some (.cells #[.bool r] 4 (0,0))) :
  Calls Tryz.prog 90 #[.int .u8 (c.toNat:Int),.pointer (some ⟨B,0,none⟩)] w fun e w'=>e=.returned (.bool (Lx.jK r c || Lx.jR c))∧w'.heap[B]?=some (.cells #[.bool (Lx.jK r c)] 4 (0,0))∧w.grownBy w' (some B):=by
 have hc:=cell_of_one hB
 have hf:=free_of_one hB
 have HB:Hid (w.heap[B]?=some (.cells #[.bool r] 4 (0,0))):=hB
 clear hB
 by_cases h10:c.toNat=10
 ·have UB:Hid (c.toNat=10):=h10
  have e1:((c.toNat:Int)==35)=false:=by simp;omega
  have e2:((c.toNat:Int)==10)=true:=by simp;omega
  have hblk:Lx.jR c=true:=Lx.Uh (by omega)
  clear h10
  go_enter Tryz.func90,Tryz.ntmps90
  go_wp2_with (go_at_call 91;refine (Cj _ _).mono ?_;rintro e w' ⟨rfl,rfl⟩)
  go_ret
  refine ⟨lI (by simp [hblk]),?_,Ch _ _ _⟩
  rw [one_setCell HB.out];simp [Lx.jK,UB.out]
 ·by_cases rJ:c.toNat=35
  ·have Ls:Hid (c.toNat=35):=rJ
   have e1:((c.toNat:Int)==35)=true:=by simp;omega
   have e2:((c.toNat:Int)==10)=false:=by simp;omega
   clear rJ h10
   go_enter Tryz.func90,Tryz.ntmps90
   go_wp2_with (go_at_call 91;refine (Cj _ _).mono ?_;rintro e w' ⟨rfl,rfl⟩)
   go_ret
   refine ⟨lI (by simp [Lx.jK,Ls.out]),?_,Ch _ _ _⟩
   rw [one_setCell HB.out];simp [Lx.jK,Ls.out]
  ·have e1:((c.toNat:Int)==35)=false:=by simp;omega
   have e2:((c.toNat:Int)==10)=false:=by simp;omega
   have hr:Lx.jK r c=r:=by simp [Lx.jK,h10,rJ]
   have HR:Hid (Lx.jK r c=r):=hr
   clear rJ h10 hr
   cases r
   ·go_enter Tryz.func90,Tryz.ntmps90
    go_wp2_with (go_at_call 91;refine (Cj _ _).mono ?_;rintro e w' ⟨rfl,rfl⟩)
    go_ret
    exact ⟨lI (by rw [HR.out];rfl),by rw [HR.out];exact HB.out,mJ _ _⟩
   ·go_enter Tryz.func90,Tryz.ntmps90
    go_wp2_with (go_at_call 91;refine (Cj _ _).mono ?_;rintro e w' ⟨rfl,rfl⟩)
    go_ret
    exact ⟨lI (by rw [HR.out];rfl),by rw [HR.out];exact HB.out,mJ _ _⟩
theorem UC (s:ByteArray)(B:Nat)(w:World)(hB:w.heap[B]?=some (.cells #[.bool false] 4 (0,0)))(hs:s.size≤maxLen) :
  Calls Tryz.prog 89 #[.string s,.func (.func 90) #[] #[.pointer (some ⟨B,0,none⟩)]] w fun e w'=>e=.returned (.int .i64 (Lx.jS false s.data.toList:Nat))∧w.grownBy w' (some B):=by
 unfold maxLen at hs
 have HB:Hid (w.heap[B]?=some (.cells #[.bool false] 4 (0,0))):=hB
 clear hB
 go_enter Tryz.func89,Tryz.ntmps89
 go_wp2
 go_loopw [5] (fun i wr=>∃ k:Nat,∃ r:Bool,k≤s.size∧i=.int .i64 k∧wr.heap[B]?=some (.cells #[.bool r] 4 (0,0))∧w.grownBy wr (some B)∧Lx.jS false s.data.toList=k+Lx.jS r (s.data.toList.drop k)) (fun i _=>s.size - (intOf i).toNat)
 case atStart=>exact ⟨0,false,Nat.zero_le _,rfl,HB.out,mJ _ _,by simp⟩
 case round =>
  obtain ⟨k,r,hk,rfl,hb,hg,he⟩:=hrel
  have HE:Hid (Lx.jS false s.data.toList=k+Lx.jS r (s.data.toList.drop k)):=he
  have HH:Hid (wr.heap[B]?=some (.cells #[.bool r] 4 (0,0))):=hb
  clear he hb
  by_cases hlt:k<s.size
  ·cases hp:(Lx.jK r s[k] || Lx.jR s[k])
   ·have HP:Hid ((Lx.jK r s[k] || Lx.jR s[k])=false):=hp
    clear hp
    go_wp2_with (go_at_call 90;refine (Lr _ r B _ HH.out).mono ?_;rintro e w1 ⟨rfl,hb1,hg1⟩;rw [HP.out])
    go_ret
    exact ⟨oI (by rw [HE.out,drop_byte s k hlt,Lx.K7 HP.out];rfl),aB hg (by assumption)⟩
   ·have HP:Hid ((Lx.jK r s[k] || Lx.jR s[k])=true):=hp
    clear hp
    go_wp2_with (go_at_call 90;refine (Lr _ r B _ HH.out).mono ?_;rintro e w1 ⟨rfl,hb1,hg1⟩;rw [HP.out];have HB1:Hid (w1.heap[B]?=some (.cells #[.bool (Lx.jK r s[k])] 4 (0,0))):=hb1;clear hb1)
    go_roundw
    case rel=>exact ⟨k+1,_,by omega,by go_num,Hid.out (by assumption),aB hg (by assumption),by rw [HE.out,drop_byte s k hlt,Lx.K6 HP.out];omega⟩
    case measure=>simp [intOf];omega
  ·go_wp2
   go_ret
   exact ⟨oI (by rw [HE.out,List.drop_of_length_le (by simp;omega)];rfl),hg⟩
theorem UD (s:ByteArray)(w:World)(hs:s.size≤maxLen) :
  Calls Tryz.prog 61 #[.string s] w fun e w'=>e=.returned (.int .i64 (Lx.jS false s.data.toList:Nat))∧Below w.heap.size w w':=by
 go_enter Tryz.func61,Tryz.ntmps61
 go_wp2_with fail
 refine (UC s w.heap.size _ (heap_alloc_new w _) hs).mono ?_
 rintro e w1 ⟨rfl,hg⟩
 go_wp2
 go_ret
 exact ⟨rfl,((Below.refl _ w).alloc (Nat.le_refl _) _).grown hg (by simp) (by intro k hk;cases hk;exact Nat.le_refl _)⟩
end Go.Proofs.YtolfleeidpeomaaGreatDoor
/-
 DERIVED: THE SHELF's CONTRACTS AT THIS DUMP,IN PLAIN WORDS (tools/lay-plain.mjs out of 'TryzShelf.lean',which tools/lay-shelf.mjs wrote): THE SAME DECLARATIONS UNDER THE SAME NAMES: 'import','namespace','open','def','theorem' AND NOTHING ELSE: no command of the shelf's: FOR A HAND-IN. Each laying: the table of numbers ('.._ren') and one theorem,a field a fact of the dump's own or the kernel's comparison;each contract: ONE APPLICATION.
-/
namespace Go.Proofs
open Go.Shelf
def Tryz.Lt:Go.Shelf.Ren:=⟨fun | 156=>31 | 165=>57 | 166=>58 | 169=>59 | 240=>87 | 241=>88 | 276=>121 | 277=>122 | n=>n,fun | 31=>40 | 9=>9 | 3=>3 | 4=>4 | 0=>0 | 20=>20 | 72=>129 | 76=>132 | 70=>126 | 37=>127 | 75=>131 | 127=>149 | 164=>170 | 5=>5 | 80=>52 | n=>n,fun | n=>n⟩
theorem Tryz.Lu:Go.Proofs.Lays.n156 Tryz.prog Tryz.Lt:={
 mixed:=by kernel_rfl
 f156:=Tryz.func31.trans (congrArg some (by kernel_rfl))
 f165:=Tryz.func57.trans (congrArg some (by kernel_rfl))
 f166:=Tryz.func58.trans (congrArg some (by kernel_rfl))
 f169:=Tryz.func59.trans (congrArg some (by kernel_rfl))
 f240:=Tryz.func87.trans (congrArg some (by kernel_rfl))
 f241:=Tryz.func88.trans (congrArg some (by kernel_rfl))
 f276:=Tryz.func121.trans (congrArg some (by kernel_rfl))
 f277:=Tryz.func122.trans (congrArg some (by kernel_rfl))
 t0:=Tryz.underlying0
 a0:=Tryz.isAgg0
 z0:=Tryz.sizeOf0
 v0:=Tryz.zeroValue0
 t3:=Tryz.underlying3
 a3:=Tryz.isAgg3
 z3:=Tryz.sizeOf3
 v3:=Tryz.zeroValue3
 t4:=Tryz.underlying4
 a4:=Tryz.isAgg4
 z4:=Tryz.sizeOf4
 v4:=Tryz.zeroValue4
 t9:=Tryz.underlying9
 a9:=Tryz.isAgg9
 z9:=Tryz.sizeOf9
 v9:=Tryz.zeroValue9
 t20:=Tryz.underlying20
 a20:=Tryz.isAgg20
 z20:=Tryz.sizeOf20
 v20:=Tryz.zeroValue20
 t31:=Tryz.underlying40
 a31:=Tryz.isAgg40
 z31:=Tryz.sizeOf40
 v31:=Tryz.zeroValue40
 t37:=Tryz.underlying127
 a37:=Tryz.isAgg127
 z37:=Tryz.sizeOf127
 v37:=Tryz.zeroValue127
 t70:=Tryz.underlying126
 a70:=Tryz.isAgg126
 z70:=Tryz.sizeOf126
 v70:=Tryz.zeroValue126
 t72:=Tryz.underlying129
 a72:=Tryz.isAgg129
 z72:=Tryz.sizeOf129
 v72:=Tryz.zeroValue129
 t75:=Tryz.underlying131
 a75:=Tryz.isAgg131
 z75:=Tryz.sizeOf131
 v75:=Tryz.zeroValue131
 t76:=Tryz.underlying132
 a76:=Tryz.isAgg132
 z76:=Tryz.sizeOf132
 v76:=Tryz.zeroValue132
 t127:=Tryz.underlying149
 a127:=Tryz.isAgg149
 z127:=Tryz.sizeOf149
 v127:=Tryz.zeroValue149
 t164:=Tryz.underlying170
 a164:=Tryz.isAgg170
 z164:=Tryz.sizeOf170
 v164:=Tryz.zeroValue170 }
theorem Tryz.Builder_Extra_156:Builder.Extra Tryz.prog Tryz.Lt:={
 sizeBuilder:=by kernel_rfl
 liesBuilder:=by kernel_rfl
 t5:=Tryz.underlying5
 a5:=Tryz.isAgg5
 z5:=Tryz.sizeOf5
 v5:=Tryz.zeroValue5
 infoByte:=by kernel_rfl
 cellsByte:=by kernel_rfl
 sizeByte:=by kernel_rfl
 neB5:=by decide }
open Go.RowKit in
theorem Tryz.strings_Join_none (a:Option Addr)(c:Nat)(sep:ByteArray)(w:World) :
  Calls Tryz.prog 31 #[.slice a 0 c,.string sep] w fun e w'=>e=.returned (.string ⟨#[]⟩)∧w'=w:=Any.strings_Join_none Tryz.Lu Tryz.Builder_Extra_156 a c sep w
open Go.RowKit in
theorem Tryz.strings_Join (bk o c:Nat)(xs:List ByteArray)(sep:ByteArray)(w:World)(hcells:∀ (j:Nat) x,xs[j]?=some x→w.cell? ⟨bk,o+j,none⟩=some (.string x))(hbk:bk<w.heap.size)(hN:xs.length≤140737488355328)(hcap:xs.length≤c)(hlen:(Lib.join (xs.map (·.data.toList)) sep.data.toList).length≤140737488355328) :
  Calls Tryz.prog 31 #[.slice (some ⟨bk,o,none⟩) xs.length c,.string sep] w fun e w'=>e=.returned (.string ⟨(Lib.join (xs.map (·.data.toList)) sep.data.toList).toArray⟩)∧Below w.heap.size w w':=Any.strings_Join Tryz.Lu Tryz.Builder_Extra_156 bk o c xs sep w hcells hbk hN hcap hlen
def Tryz.UE:Go.Shelf.Ren:=⟨fun | 171=>28 | 243=>54 | 246=>83 | 283=>112 | 284=>113 | 285=>114 | 286=>115 | 129=>139 | 317=>138 | 318=>140 | 319=>141 | 320=>142 | 337=>150 | 338=>151 | n=>n,fun | 3=>3 | 9=>9 | 2=>2 | 4=>4 | 171=>161 | 0=>0 | 53=>162 | 37=>127 | 5=>5 | 173=>165 | 212=>185 | 51=>186 | 20=>20 | 213=>187 | 46=>188 | 232=>198 | 233=>199 | n=>n,fun | 17=>2 | 18=>5 | 19=>6 | n=>n⟩
theorem Tryz.UF:Go.Proofs.Lays.n171 Tryz.prog Tryz.UE:={
 mixed:=by kernel_rfl
 f129:=Tryz.func139.trans (congrArg some (by kernel_rfl))
 f171:=Tryz.func28.trans (congrArg some (by kernel_rfl))
 f243:=Tryz.func54.trans (congrArg some (by kernel_rfl))
 f246:=Tryz.func83.trans (congrArg some (by kernel_rfl))
 f283:=Tryz.func112.trans (congrArg some (by kernel_rfl))
 f284:=Tryz.func113.trans (congrArg some (by kernel_rfl))
 f285:=Tryz.func114.trans (congrArg some (by kernel_rfl))
 f286:=Tryz.func115.trans (congrArg some (by kernel_rfl))
 f317:=Tryz.func138.trans (congrArg some (by kernel_rfl))
 f318:=Tryz.func140.trans (congrArg some (by kernel_rfl))
 f319:=Tryz.func141.trans (congrArg some (by kernel_rfl))
 f320:=Tryz.func142.trans (congrArg some (by kernel_rfl))
 f337:=Tryz.func150.trans (congrArg some (by kernel_rfl))
 f338:=Tryz.func151.trans (congrArg some (by kernel_rfl))
 t0:=Tryz.underlying0
 a0:=Tryz.isAgg0
 z0:=Tryz.sizeOf0
 v0:=Tryz.zeroValue0
 t2:=Tryz.underlying2
 a2:=Tryz.isAgg2
 z2:=Tryz.sizeOf2
 v2:=Tryz.zeroValue2
 t3:=Tryz.underlying3
 a3:=Tryz.isAgg3
 z3:=Tryz.sizeOf3
 v3:=Tryz.zeroValue3
 t4:=Tryz.underlying4
 a4:=Tryz.isAgg4
 z4:=Tryz.sizeOf4
 v4:=Tryz.zeroValue4
 t5:=Tryz.underlying5
 a5:=Tryz.isAgg5
 z5:=Tryz.sizeOf5
 v5:=Tryz.zeroValue5
 t9:=Tryz.underlying9
 a9:=Tryz.isAgg9
 z9:=Tryz.sizeOf9
 v9:=Tryz.zeroValue9
 t20:=Tryz.underlying20
 a20:=Tryz.isAgg20
 z20:=Tryz.sizeOf20
 v20:=Tryz.zeroValue20
 t37:=Tryz.underlying127
 a37:=Tryz.isAgg127
 z37:=Tryz.sizeOf127
 v37:=Tryz.zeroValue127
 t46:=Tryz.underlying188
 a46:=Tryz.isAgg188
 z46:=Tryz.sizeOf188
 v46:=Tryz.zeroValue188
 t51:=Tryz.underlying186
 a51:=Tryz.isAgg186
 z51:=Tryz.sizeOf186
 v51:=Tryz.zeroValue186
 t53:=Tryz.underlying162
 a53:=Tryz.isAgg162
 z53:=Tryz.sizeOf162
 v53:=Tryz.zeroValue162
 t171:=Tryz.underlying161
 a171:=Tryz.isAgg161
 z171:=Tryz.sizeOf161
 v171:=Tryz.zeroValue161
 t173:=Tryz.underlying165
 a173:=Tryz.isAgg165
 z173:=Tryz.sizeOf165
 v173:=Tryz.zeroValue165
 t212:=Tryz.underlying185
 a212:=Tryz.isAgg185
 z212:=Tryz.sizeOf185
 v212:=Tryz.zeroValue185
 t213:=Tryz.underlying187
 a213:=Tryz.isAgg187
 z213:=Tryz.sizeOf187
 t232:=Tryz.underlying198
 a232:=Tryz.isAgg198
 z232:=Tryz.sizeOf198
 v232:=Tryz.zeroValue198
 t233:=Tryz.underlying199
 a233:=Tryz.isAgg199
 z233:=Tryz.sizeOf199
 v233:=Tryz.zeroValue199
 g17:=by kernel_rfl
 g18:=by kernel_rfl
 g19:=by kernel_rfl }
open Go.RowKit Go.Sort Go.Lib in
theorem Tryz.strconv_Itoa_small (i:Nat)(hi:i<100)(w:World) :
  Calls Tryz.prog 28 #[.int .i64 i] w fun e w'=>e=.returned (.string ⟨(Lib.decDigits i).toArray⟩)∧w'=w:=Any.strconv_Itoa_small Tryz.UF i hi w
def Tryz.UG:Go.Shelf.Ren:=⟨fun | 173=>117 | 246=>83 | 283=>112 | 284=>113 | 285=>114 | 286=>115 | 129=>139 | 317=>138 | 318=>140 | 319=>141 | 320=>142 | 337=>150 | 338=>151 | n=>n,fun | 2=>2 | 3=>3 | 9=>9 | 4=>4 | 171=>161 | 0=>0 | 53=>162 | 37=>127 | 5=>5 | 173=>165 | 212=>185 | 51=>186 | 20=>20 | 213=>187 | 46=>188 | 232=>198 | 233=>199 | n=>n,fun | 17=>2 | 18=>5 | 19=>6 | n=>n⟩
theorem Tryz.UH:Go.Proofs.LaysM.n173 Tryz.prog Tryz.UG:={
 mixed:=by kernel_rfl
 f129:=Tryz.func139.trans (congrArg some (by kernel_rfl))
 f173:=Tryz.func117.trans (congrArg some (by kernel_rfl))
 f246:=Tryz.func83.trans (congrArg some (by kernel_rfl))
 f283:=Tryz.func112.trans (congrArg some (by kernel_rfl))
 f284:=Tryz.func113.trans (congrArg some (by kernel_rfl))
 f285:=Tryz.func114.trans (congrArg some (by kernel_rfl))
 f286:=Tryz.func115.trans (congrArg some (by kernel_rfl))
 f317:=Tryz.func138.trans (congrArg some (by kernel_rfl))
 f318:=Tryz.func140.trans (congrArg some (by kernel_rfl))
 f319:=Tryz.func141.trans (congrArg some (by kernel_rfl))
 f320:=Tryz.func142.trans (congrArg some (by kernel_rfl))
 f337:=Tryz.func150.trans (congrArg some (by kernel_rfl))
 f338:=Tryz.func151.trans (congrArg some (by kernel_rfl))
 t0:=Tryz.underlying0
 a0:=Tryz.isAgg0
 z0:=Tryz.sizeOf0
 v0:=Tryz.zeroValue0
 t2:=Tryz.underlying2
 a2:=Tryz.isAgg2
 z2:=Tryz.sizeOf2
 v2:=Tryz.zeroValue2
 t3:=Tryz.underlying3
 a3:=Tryz.isAgg3
 z3:=Tryz.sizeOf3
 v3:=Tryz.zeroValue3
 t4:=Tryz.underlying4
 a4:=Tryz.isAgg4
 z4:=Tryz.sizeOf4
 v4:=Tryz.zeroValue4
 t5:=Tryz.underlying5
 a5:=Tryz.isAgg5
 z5:=Tryz.sizeOf5
 v5:=Tryz.zeroValue5
 t9:=Tryz.underlying9
 a9:=Tryz.isAgg9
 z9:=Tryz.sizeOf9
 v9:=Tryz.zeroValue9
 t20:=Tryz.underlying20
 a20:=Tryz.isAgg20
 z20:=Tryz.sizeOf20
 v20:=Tryz.zeroValue20
 t37:=Tryz.underlying127
 a37:=Tryz.isAgg127
 z37:=Tryz.sizeOf127
 v37:=Tryz.zeroValue127
 t46:=Tryz.underlying188
 a46:=Tryz.isAgg188
 z46:=Tryz.sizeOf188
 v46:=Tryz.zeroValue188
 t51:=Tryz.underlying186
 a51:=Tryz.isAgg186
 z51:=Tryz.sizeOf186
 v51:=Tryz.zeroValue186
 t53:=Tryz.underlying162
 a53:=Tryz.isAgg162
 z53:=Tryz.sizeOf162
 v53:=Tryz.zeroValue162
 t171:=Tryz.underlying161
 a171:=Tryz.isAgg161
 z171:=Tryz.sizeOf161
 v171:=Tryz.zeroValue161
 t173:=Tryz.underlying165
 a173:=Tryz.isAgg165
 z173:=Tryz.sizeOf165
 v173:=Tryz.zeroValue165
 t212:=Tryz.underlying185
 a212:=Tryz.isAgg185
 z212:=Tryz.sizeOf185
 v212:=Tryz.zeroValue185
 t213:=Tryz.underlying187
 a213:=Tryz.isAgg187
 z213:=Tryz.sizeOf187
 t232:=Tryz.underlying198
 a232:=Tryz.isAgg198
 z232:=Tryz.sizeOf198
 v232:=Tryz.zeroValue198
 t233:=Tryz.underlying199
 a233:=Tryz.isAgg199
 z233:=Tryz.sizeOf199
 v233:=Tryz.zeroValue199
 g17:=by kernel_rfl
 g18:=by kernel_rfl
 g19:=by kernel_rfl
 i0:=by kernel_rfl
 i2:=by kernel_rfl
 i3:=by kernel_rfl
 i4:=by kernel_rfl
 i5:=by kernel_rfl
 i9:=by kernel_rfl
 i20:=by kernel_rfl
 i37:=by kernel_rfl
 i46:=by kernel_rfl
 i51:=by kernel_rfl
 i53:=by kernel_rfl
 i171:=by kernel_rfl
 i173:=by kernel_rfl
 i212:=by kernel_rfl
 i232:=by kernel_rfl
 i233:=by kernel_rfl
 m17:=by kernel_rfl
 m18:=by kernel_rfl
 m19:=by kernel_rfl }
open Go.RowKit Go.Sort Go.Lib in
theorem Tryz.strconv_FormatInt_10 (n:Int)(h0:-9223372036854775808≤n)(h1:n≤9223372036854775807)(w:World)(htab:Lib.TabIs Tryz.prog w "internal/strconv.uint64pow10" .u64 Lib.pow10Tab) :
  Calls Tryz.prog 117 #[.int .i64 n,.int .i64 10] w fun e w'=>e=.returned (.string ⟨(Lib.itoa n).toArray⟩)∧∃ k os,w'=grow (w.drewN k) os:=Any.strconv_FormatInt_10 Tryz.UH n h0 h1 w htab
def Tryz.UI:Go.Shelf.Ren:=⟨fun | 316=>75 | n=>n,fun | 9=>9 | 3=>3 | 4=>4 | 37=>127 | 0=>0 | 127=>149 | 5=>5 | n=>n,fun | n=>n⟩
theorem Tryz.UJ:Go.Proofs.LaysM.n316 Tryz.prog Tryz.UI:={
 mixed:=by kernel_rfl
 f316:=Tryz.func75.trans (congrArg some (by kernel_rfl))
 t0:=Tryz.underlying0
 a0:=Tryz.isAgg0
 z0:=Tryz.sizeOf0
 v0:=Tryz.zeroValue0
 t3:=Tryz.underlying3
 a3:=Tryz.isAgg3
 z3:=Tryz.sizeOf3
 v3:=Tryz.zeroValue3
 t4:=Tryz.underlying4
 a4:=Tryz.isAgg4
 z4:=Tryz.sizeOf4
 v4:=Tryz.zeroValue4
 t9:=Tryz.underlying9
 a9:=Tryz.isAgg9
 z9:=Tryz.sizeOf9
 v9:=Tryz.zeroValue9
 t37:=Tryz.underlying127
 a37:=Tryz.isAgg127
 z37:=Tryz.sizeOf127
 v37:=Tryz.zeroValue127
 t127:=Tryz.underlying149
 a127:=Tryz.isAgg149
 z127:=Tryz.sizeOf149
 v127:=Tryz.zeroValue149
 t5:=Tryz.underlying5
 a5:=Tryz.isAgg5
 z5:=Tryz.sizeOf5
 v5:=Tryz.zeroValue5
 i0:=by kernel_rfl
 i3:=by kernel_rfl
 i4:=by kernel_rfl
 i5:=by kernel_rfl
 i9:=by kernel_rfl
 i37:=by kernel_rfl
 i127:=by kernel_rfl }
open Go.RowKit in
theorem Tryz.stringslite_Clone (s:ByteArray)(w:World)(hlim:s.size≤281474976710656) :
  Calls Tryz.prog 75 #[.string s] w fun e w'=>e=.returned (.string s)∧Below w.heap.size w w':=Any.stringslite_Clone Tryz.UJ s w hlim
end Go.Proofs
namespace Go.Proofs.YtolfleeidpeomaaGreatDoor
open Go.RowKit
theorem UK (s:ByteArray)(w:World)(hlim:s.size≤281474976710656) :
  Calls Tryz.prog 41 #[.string s] w fun e w'=>e=.returned (.string s)∧Below w.heap.size w w':=by
 go_enter Tryz.func41,Tryz.ntmps41
 go_wp2_with (go_at_call 75;refine (Tryz.stringslite_Clone _ _ hlim).mono ?_;rintro e w1 ⟨rfl,hb⟩)
 go_ret
 exact ⟨rfl,by assumption⟩
theorem zk {B:Nat}{W w1:World}(hb:Below B W w1):(∀ b o,b<B→w1.cell? ⟨b,o,none⟩=W.cell? ⟨b,o,none⟩)∧(∀ b o,b<B→w1.frozen? ⟨b,o,none⟩=W.frozen? ⟨b,o,none⟩) :=
 ⟨fun b o h=>hb.cell (p:=⟨b,o,none⟩) h,fun b o h=>hb.frozen (p:=⟨b,o,none⟩) h⟩
theorem xD {B b:Nat}{a w:World}(h:Below B a w)(hb:B≤b)(v0 v1 v2 v3:Value) :
  Below B a ((((w.setCell ⟨b,0,none⟩ v0).setCell ⟨b,1,none⟩ v1).setCell ⟨b,2,none⟩ v2).setCell ⟨b,3,none⟩ v3) :=
 (((h.setCell (p:=⟨b,0,none⟩) hb _).setCell (p:=⟨b,1,none⟩) hb _).setCell (p:=⟨b,2,none⟩) hb _).setCell (p:=⟨b,3,none⟩) hb _
theorem Fa (n:Int)(s:ByteArray)(w:World)(hlim:s.size≤281474976710656) :
  Calls Tryz.prog 93 #[.int .i64 n,.string s] w fun e w'=>e=.returned (.agg #[.int .i64 n,.string s,.int .i64 0,.int .i64 0])∧Below w.heap.size w w':=by
 go_enter Tryz.func93,Tryz.ntmps93
 go_wp2_with fail
 refine (UK _ _ hlim).mono ?_
 rintro e w1 ⟨rfl,hb⟩
 obtain ⟨hc,hf⟩:=zk hb
 have hlt:w.heap.size<w1.heap.size:=by have:=hb.size;simp at this;omega
 go_wp2
 refine bodyPost_ret (v:=.agg #[.int .i64 n,.string s,.int .i64 0,.int .i64 0]) (by simp [results,Tryz.results93,go_sem,hc]) rfl ⟨rfl,?_⟩
 exact xD (((Below.refl _ w).alloc (Nat.le_refl _) _).trans (hb.mono (by simp))) (Nat.le_refl _) _ _ _ _
theorem Lv (c:UInt8):∀ l:List UInt8,decide (0≤Lib.indexByte l c)=l.contains c
 | []=>by simp [Lib.indexByte]
 | b :: l=>by
  have ih:=Lv c l
  have hge:=Lib.indexByte_ge l c
  rw [Bool.eq_iff_iff] at ih ⊢
  simp only [decide_eq_true_eq,List.contains_cons,Bool.or_eq_true,beq_iff_eq,Lib.indexByte] at ih ⊢
  by_cases h:b=c
  ·simp [h]
  ·have h':¬ c=b:=fun e=>h e.symm
   simp only [h,h',if_false,false_or]
   rw [← ih]
   split <;> omega
theorem toUInt8_toNat (c:UInt8):((c.toNat:Int).toNat).toUInt8=c:=by simp
theorem UL (s:ByteArray)(c:UInt8)(w:World) :
  Calls Tryz.prog 152 #[.string s,.int .u8 (c.toNat:Int)] w fun e w'=>e=.returned (.int .i64 (Lib.indexByte s.data.toList c))∧w'=w:=by
 go_enter Tryz.func152,Tryz.ntmps152
 go_wp2
 rw [run_callFunc_extern Tryz.func155 (by kernel_rfl) (by kernel_rfl) (by kernel_rfl) (e:=Extern.BytealgIndexByte.indexByte) (by kernel_rfl),Lib.run_indexByteString,toUInt8_toNat]
 simp only [Result.andThen]
 rw [Oper.upon_value]
 go_wp2
 go_ret
 exact ⟨rfl,rfl⟩
theorem LA (s:ByteArray)(c:UInt8)(w:World) :
  Calls Tryz.prog 123 #[.int .u8 (c.toNat:Int),.string s] w fun e w'=>e=.returned (.bool (s.data.toList.contains c))∧w'=w:=by
 rw [← Lv]
 go_enter Tryz.func123,Tryz.ntmps123
 go_wp2_with (first | (go_at_call 152;refine (UL _ _ _).mono ?_;rintro e w' ⟨rfl,rfl⟩) | go_in)
 go_ret
 exact ⟨rfl,rfl⟩
theorem LB (c:UInt8)(w:World) :
  Calls Tryz.prog 123 #[.int .u8 (c.toNat:Int),.string ⟨#[61,33,60,62]⟩] w fun e w'=>e=.returned (.bool (Lx.two c))∧w'=w:=LA _ _ _
theorem Fb (c:UInt8)(w:World) :
  Calls Tryz.prog 123 #[.int .u8 (c.toNat:Int),.string ⟨#[60,62,61,43,45,42,47,37,40,41,123,125,44,59]⟩] w fun e w'=>e=.returned (.bool (Lx.one c))∧w'=w:=LA _ _ _
theorem LC (s:ByteArray)(w:World)(h0:0<s.size) :
  Calls Tryz.prog 97 #[.string s] w fun e w'=>e=.returned (.int .i64 (Lx.iq s.data.toList:Nat))∧w'=w:=by
 by_cases h1:1<s.size
 ·have HF:Hid (Lx.iq s.data.toList=if decide (s[1].toNat=61) && Lx.two s[0] then 2 else if Lx.one s[0] then 1 else 0):=Lx.Um s h1
  by_cases Ck:s[1].toNat=61
  ·have e61:((s[1].toNat:Int)==61)=true:=by simp;omega
   have Cm:Hid (s[1].toNat=61):=Ck
   clear Ck
   cases ht:Lx.two s[0]
   ·cases ho:Lx.one s[0]
    all_goals
     go_enter Tryz.func97,Tryz.ntmps97
     go_wp2_with fail
     refine (LB _ _).mono ?_
     rintro e w1 ⟨rfl,rfl⟩
     go_wp2_with fail
     refine (Fb _ _).mono ?_
     rintro e w1 ⟨rfl,rfl⟩
     go_wp2
     go_ret
     exact ⟨oI (by rw [HF.out,Cm.out,ht,ho];rfl),rfl⟩
   ·go_enter Tryz.func97,Tryz.ntmps97
    go_wp2_with fail
    refine (LB _ _).mono ?_
    rintro e w1 ⟨rfl,rfl⟩
    go_wp2
    go_ret
    exact ⟨oI (by rw [HF.out,Cm.out,ht];rfl),rfl⟩
  ·have e61:((s[1].toNat:Int)==61)=false:=by simp;omega
   have Cm:Hid (¬ s[1].toNat=61):=Ck
   clear Ck
   cases ho:Lx.one s[0]
   all_goals
    go_enter Tryz.func97,Tryz.ntmps97
    go_wp2_with (go_at_call 123;refine (Fb _ _).mono ?_;rintro e w' ⟨rfl,rfl⟩)
    go_ret
    exact ⟨oI (by rw [HF.out,decide_eq_false Cm.out,ho];rfl),rfl⟩
 ·have HF:Hid (Lx.iq s.data.toList=if Lx.one s[0] then 1 else 0):=Lx.Ul s h0 h1
  cases ho:Lx.one s[0]
  all_goals
   go_enter Tryz.func97,Tryz.ntmps97
   go_wp2_with (go_at_call 123;refine (Fb _ _).mono ?_;rintro e w' ⟨rfl,rfl⟩)
   go_ret
   exact ⟨oI (by rw [HF.out,ho];rfl),rfl⟩
end Go.Proofs.YtolfleeidpeomaaGreatDoor

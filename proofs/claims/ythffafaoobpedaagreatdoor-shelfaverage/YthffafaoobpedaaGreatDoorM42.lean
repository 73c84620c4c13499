/- What shelf.Module answers of a name: our machine reckons it. -/
import Derived.Test.YthffafaoobpedaaGreatDoorM41
import Derived.KernelRfl
import Derived.Test.YthffafaoobpedaaGreatDoorM33
import Derived.Test.YthffafaoobpedaaGreatDoorM1
import Derived.ChangeArms
import Derived.DataReads
set_option maxRecDepth 100000
set_option maxHeartbeats 1000000
namespace Go.Proofs.YthffafaoobpedaaGreatDoor
open Go.RowKit
namespace Xe
noncomputable section
def sv (l:List UInt8):Value:=.string ⟨⟨l⟩⟩
def iv (n:Int):Value:=.int .i64 n
def rD:List Value:=[iv 18,sv [111,114],iv 1,iv 17,sv [97,110,100],iv 2,iv 11,sv [61,61],iv 3,iv 12,sv [33,61],iv 3,iv 13,sv [60],iv 3,iv 14,sv [60,61],iv 3,iv 15,sv [62],iv 3,iv 16,sv [62,61],iv 3,iv 6,sv [43],iv 4,iv 7,sv [45],iv 4,iv 8,sv [42],iv 5,iv 9,sv [47],iv 5,iv 10,sv [37],iv 5]
def uP:List Value:=[iv 2,sv []]
def uQ:List Value:=[iv 1,sv []]
def h0:Hp:=fun x=>bB (Nat.beq x 0) (some (.cells ⟨rD⟩ 0)) (bB (Nat.beq x 1) (some (.cells ⟨uP⟩ 0)) (bB (Nat.beq x 2) (some (.cells ⟨uQ⟩ 0)) none))
def s0:S:=⟨10,h0,[]⟩
def fn:Cl:=func Tryz.prog (iF 206 45 216) 60 false
def ans (r:Option (Value × S)):Option Vf.Md:=oB r fun p=>pB p fun v s=>uh v none fun a=>match aL a with
 | [m,e]=>oB (gF e) fun i=>iB i (fun n=>nB n (CR s.h m) fun _=>none) fun _=>none
 | _=>none
end
structure oP (w:World):Prop where
 pairs:∃ e fr,w.heap[0]?=some (.cells ⟨rD⟩ e fr)
 truth:∃ e fr,w.heap[1]?=some (.cells ⟨uP⟩ e fr)
 num:∃ e fr,w.heap[2]?=some (.cells ⟨uQ⟩ e fr)
theorem oP.below {w w':World}(h:oP w)(hb:Below w.heap.size w w'):oP w':=by
 obtain ⟨⟨e0,f0,h0⟩,⟨e1,f1,h1⟩,⟨e2,f2,h2⟩⟩:=h
 have l:∀ {b:Nat} {o:Obj},w.heap[b]?=some o→w'.heap[b]?=some o:=fun {b o} h=>(hb.block b (Array.getElem?_eq_some_iff.1 h).1).trans h
 exact ⟨⟨e0,f0,l h0⟩,⟨e1,f1,l h1⟩,⟨e2,f2,l h2⟩⟩
def CU:Ph:=fun x=>if x=0 then some ⟨0,39⟩ else if x=1 then some ⟨1,2⟩ else if x=2 then some ⟨2,2⟩ else none
theorem CV {x:Nat}{o:Obj}(h:h0 x=some o):(x=0∧o=.cells ⟨rD⟩ 0)∨(x=1∧o=.cells ⟨uP⟩ 0)∨(x=2∧o=.cells ⟨uQ⟩ 0):=by
 unfold h0 at h
 rw [bS,bS,bS,dG,dG,dG] at h
 split at h
 ·rename_i e;cases h;exact .inl ⟨by simpa using e,rfl⟩
 ·split at h
  ·rename_i e;cases h;exact .inr (.inl ⟨by simpa using e,rfl⟩)
  ·split at h
   ·rename_i e;cases h;exact .inr (.inr ⟨by simpa using e,rfl⟩)
   ·cases h
theorem Iz (φ:Ph):∀ (l:List Value),(∀ v ∈ l,(∃ n,v=iv n)∨∃ b,v=sv b)→L (V1 φ) l l:=fun l h=>L.refl l fun v hv=>by
 rcases h v hv with ⟨n,rfl⟩ | ⟨b,rfl⟩ <;> exact .inl rfl
theorem abY {w:World}(h:oP w):gB CU s0 w:=by
 obtain ⟨⟨e0,f0,q0⟩,⟨e1,f1,q1⟩,⟨e2,f2,q2⟩⟩:=h
 have b0:=(Array.getElem?_eq_some_iff.1 q0).1
 have b1:=(Array.getElem?_eq_some_iff.1 q1).1
 have b2:=(Array.getElem?_eq_some_iff.1 q2).1
 have hk:∀ l:List Value,(l=rD∨l=uP∨l=uQ)→∀ v ∈ l,(∃ n,v=iv n)∨∃ b,v=sv b:=by
  intro l hl v hv
  rcases hl with rfl | rfl | rfl
  ·simp only [rD,List.mem_cons,List.not_mem_nil,or_false] at hv
   rcases hv with h | h | h | h | h | h | h | h | h | h | h | h | h | h | h | h | h | h | h | h | h | h | h | h | h | h | h | h | h | h | h | h | h | h | h | h | h | h | h <;> first | exact .inl ⟨_,h⟩ | exact .inr ⟨_,h⟩
  ·simp only [uP,List.mem_cons,List.not_mem_nil,or_false] at hv
   rcases hv with h | h <;> first | exact .inl ⟨_,h⟩ | exact .inr ⟨_,h⟩
  ·simp only [uQ,List.mem_cons,List.not_mem_nil,or_false] at hv
   rcases hv with h | h <;> first | exact .inl ⟨_,h⟩ | exact .inr ⟨_,h⟩
 refine ⟨⟨?_,?_,?_,?_⟩,?_⟩
 ·intro x o hx
  rcases CV hx with ⟨rfl,rfl⟩ | ⟨rfl,rfl⟩ | ⟨rfl,rfl⟩
  ·exact ⟨⟨0,39⟩,⟨rD⟩,e0,f0,rfl,q0,rfl,fun h=>absurd h (by omega),Nat.le_refl _,Iz _ _ (hk _ (.inl rfl))⟩
  ·exact ⟨⟨1,2⟩,⟨uP⟩,e1,f1,rfl,q1,rfl,fun h=>absurd h (by omega),Nat.le_refl _,Iz _ _ (hk _ (.inr (.inl rfl)))⟩
  ·exact ⟨⟨2,2⟩,⟨uQ⟩,e2,f2,rfl,q2,rfl,fun h=>absurd h (by omega),Nat.le_refl _,Iz _ _ (hk _ (.inr (.inr rfl)))⟩
 ·rintro x y g g' ⟨o,hx,_⟩ ⟨o',hy,_⟩ h1 h2 e
  rcases CV hx with ⟨rfl,_⟩ | ⟨rfl,_⟩ | ⟨rfl,_⟩ <;> rcases CV hy with ⟨rfl,_⟩ | ⟨rfl,_⟩ | ⟨rfl,_⟩ <;> first | rfl | (cases h1;cases h2;cases e)
 ·intro x g hx
  unfold CU at hx
  split at hx
  ·cases hx;exact b0
  ·split at hx
   ·cases hx;exact b1
   ·split at hx
    ·cases hx;exact b2
    ·cases hx
 ·intro x hx
  have:x=0∨x=1∨x=2:=by omega
  rcases this with rfl | rfl | rfl
  ·exact ⟨39,rfl⟩
  ·exact ⟨2,rfl⟩
  ·exact ⟨2,rfl⟩
 ·intro x hx
  have hx':10≤x:=hx
  unfold CU
  rw [if_neg (by omega),if_neg (by omega),if_neg (by omega)]
theorem abZ {name:ByteArray}{m:Vf.Md}{cl:Cl}(hcl:iG Tryz.prog cl)(h:ans (cl 16 [.string name] s0)=some m)(hf:m.boxes.length≤1000000∧m.units.length≤1000000∧∀ u ∈ m.units,u.locals.length≤1000000∧u.code.length≤1000000)(w:World)(hT:oP w) :
  Calls Tryz.prog 16 #[.string name] w fun e w'=>Below w.heap.size w w'∧∃ ab au cb cu,e=.returned (.tuple #[.agg #[.slice ab m.boxes.length cb,.slice au m.units.length cu],.int .i64 0])∧bn w'.heap.size w' m ab au:=by
 unfold ans at h
 obtain ⟨⟨v,s'⟩,hr,h⟩:=ai.1 h
 rw [gD] at h
 obtain ⟨a,rfl,h2⟩:=GM.1 h
 clear h
 rw [bF] at h2
 split at h2
 ·rename_i mv ev hme
  obtain ⟨i,hi,h3⟩:=ai.1 h2
  clear h2
  obtain ⟨rfl,_⟩:=nU hi
  have hz:i=0∧CR s'.h mv=some m:=by
   cases i with
   | ofNat n =>
    cases n with
    | zero=>exact ⟨rfl,h3⟩
    | succ n=>cases h3
   | negSucc n=>cases h3
  obtain ⟨rfl,hrd⟩:=hz
  obtain ⟨_,_,hcall⟩:=hcl _ _ _ _ _ hr
  refine (hcall CU w #[.string name] ⟨.dS rfl,trivial⟩ (abY hT)).mono ?_
  rintro e w' ⟨φ',v',rfl,hV,hP⟩
  refine ⟨⟨hP.ext.out.1,hP.ext.out.2.1,hP.ext.out.2.2,hP.ext.size,fun k hk=>hP.ext.kept k hk ?_⟩,?_⟩
  ·rintro x g h3 ⟨o,hx,_⟩ _
   rcases CV hx with ⟨rfl,_⟩ | ⟨rfl,_⟩ | ⟨rfl,_⟩ <;> omega
  ·obtain ⟨c',rfl,hL⟩:∃ c',v'=.tuple c'∧L (VA φ') a.toList c'.toList:=by
    rcases hV with ((h | ⟨_,_,_,_,_,h,_⟩) | ⟨_,_,h,_⟩) | ⟨c,c',h1,h2,h3⟩
    ·exact h.elim
    ·cases h
    ·cases h
    ·cases h1;exact ⟨c',h2,h3⟩
   rw [hme] at hL
   cases c' with
   | mk cl =>
   cases cl with
   | nil=>exact hL.elim
   | cons x cl =>
   cases cl with
   | nil=>exact hL.2.elim
   | cons y cl =>
   cases cl with
   | cons _ _=>exact hL.2.2.elim
   | nil =>
   have hy:y=.int .i64 0:=by
    rcases hL.2.1 with h | ⟨_,_,h,_⟩
    ·exact Qg h
    ·cases h
   obtain ⟨ab,au,cb,cu,hx,hM⟩:=abN hrd hL.1 hP.stt.rel hf
   exact ⟨ab,au,cb,cu,by rw [hx,hy],hM⟩
 ·cases h2
end Xe
end Go.Proofs.YthffafaoobpedaaGreatDoor
namespace Go.Proofs.YthffafaoobpedaaGreatDoor.Vw
open Go.RowKit Vf Vm
structure oQ (w:World) (m:Md) (fs:List (List Int)) (s q:Nat) (v tv:Value):Prop where
 stat:(s,q)=stat aD m (eX m 0 5000 fs).2.1 (eX m 0 5000 fs).2.2
 out:w.ownsRow 0 2 1 v (eX m 0 5000 fs).2.1.out.length (ints (eX m 0 5000 fs).2.1.out)
 took:w.ownsRow 0 3 1 tv (eX m 0 5000 fs).2.2.length (kD (eX m 0 5000 fs).2.2 (eX m 0 5000 fs).2.2.length)
theorem Ql {w w':World}{e n:Nat}{v:Value}{xs:List Value}(h:w.ownsRow 0 e 1 v n xs){P:Nat}{cs:Array Value}{fr:Nat × Nat}(hP:w.heap[P]?=some (.cells cs 29 fr))(he:e≠29)(hk:∀ b,b < w.heap.size→b≠P→w'.heap[b]?=w.heap[b]?):w'.ownsRow 0 e 1 v n xs:=by
 refine ⟨h.1,?_⟩
 rcases h.2 with h2 | ⟨g,cap,cur,e1,hB,hh,hr⟩
 ·exact .inl h2
 ·refine .inr ⟨g,cap,cur,e1,hB,(hk g (Array.getElem?_eq_some_iff.1 hh).1 ?_).trans hh,hr⟩
  rintro rfl
  rw [hh] at hP
  cases hP
  exact he rfl
theorem oQ.on {w w':World}{m:Md}{fs:List (List Int)}{s q:Nat}{v tv:Value}(h:oQ w m fs s q v tv){P:Nat}{cs:Array Value}{fr:Nat × Nat}(hP:w.heap[P]?=some (.cells cs 29 fr))(hk:∀ b,b < w.heap.size→b≠P→w'.heap[b]?=w.heap[b]?):oQ w' m fs s q v tv :=
 ⟨h.stat,Ql h.out hP (by decide) hk,Ql h.took hP (by decide) hk⟩
theorem oQ.below {w w':World}{m:Md}{fs:List (List Int)}{s q:Nat}{v tv:Value}(h:oQ w m fs s q v tv)(hb:Below w.heap.size w w'):oQ w' m fs s q v tv :=
 ⟨h.stat,bW h.out (fun b hx=>hb.block b (h.out.lt b hx).2),bW h.took (fun b hx=>hb.block b (h.took.lt b hx).2)⟩
theorem ab0 (m:Md)(ab au:Option Addr)(cb cu B:Nat)(fs:List (List Int))(a:Option Addr)(cap:Nat)(fa:Nat→Option Addr)(fc:Nat→Nat)(w:World)(hmd:Hid (bn B w m ab au))(fB:Hid (jB B w fs a fa fc))(hB:B≤w.heap.size)(hE:qi m 0 5000 fs=0) :
  Calls Tryz.prog 15 #[fw m ab au cb cu,.int .i64 0,.slice a fs.length cap,.int .i64 5000] w fun e w'=>∃ s q tr st oa on oc sa sn sc ta tn tc,e=.returned (.tuple #[iW s q tr (.slice oa on oc) (.slice sa sn sc) (.slice ta tn tc) st,.int .i64 0])∧Below w.heap.size w w'∧oQ w' m fs s q (.slice oa on oc) (.slice ta tn tc):=by
 refine (Zj m ab au cb cu B fs a cap fa fc w hmd fB hB 0 5000 0 hE.symm).mono ?_
 rintro e w' ⟨hb,hr⟩
 rcases hr with ⟨h0,rfl⟩ | ⟨_,vO,vS,vT,rfl,hR,_⟩
 ·exact absurd rfl h0
 ·have hrd:=hR.reads
  obtain ⟨oa,oc,e1,_⟩:=hrd.out
  obtain ⟨sa,sc,e2,_⟩:=hrd.sent
  obtain ⟨ta,tc,e3,_⟩:=hrd.took
  have ho:=hR.out
  have ht:=hR.took
  subst e1 e2 e3
  exact ⟨_,_,_,_,oa,_,oc,sa,_,sc,ta,_,tc,rfl,hb,rfl,ho,ht⟩
theorem seven {w:World}{b:Nat}{v0 v1 v2 v3 v4 v5 v6:Value}{t:TypeId}(h:w.heap[b]?=some (.cells #[v0,v1,v2,v3,v4,v5,v6] t (0,0))) :
  w.cell? ⟨b,0,none⟩=some v0∧w.cell? ⟨b,1,none⟩=some v1∧w.cell? ⟨b,2,none⟩=some v2∧w.cell? ⟨b,3,none⟩=some v3∧w.cell? ⟨b,4,none⟩=some v4∧w.cell? ⟨b,5,none⟩=some v5∧w.cell? ⟨b,6,none⟩=some v6 ∧
  w.frozen? ⟨b,0,none⟩=false∧w.frozen? ⟨b,1,none⟩=false∧w.frozen? ⟨b,2,none⟩=false∧w.frozen? ⟨b,3,none⟩=false∧w.frozen? ⟨b,4,none⟩=false∧w.frozen? ⟨b,5,none⟩=false∧w.frozen? ⟨b,6,none⟩=false:=by simp [World.cell?,World.frozen?,h]
abbrev kX:Obj:=.cells #[.int .i64 0,.int .i64 0,.int .i64 0,.slice none 0 0,.slice none 0 0,.slice none 0 0,.int .i64 0] 29 (0,0)
theorem one_cell {w:World}{b:Nat}{v:Value}{t:TypeId}(h:w.heap[b]?=some (.cells #[v] t (0,0))):w.cell? ⟨b,0,none⟩=some v:=by simp [World.cell?,h]
def IA (w:World)(P:Nat)(v0 v1 v2 v3 v4 v5 v6:Value):World:=((((((w.setCell ⟨P,0,none⟩ v0).setCell ⟨P,1,none⟩ v1).setCell ⟨P,2,none⟩ v2).setCell ⟨P,3,none⟩ v3).setCell ⟨P,4,none⟩ v4).setCell ⟨P,5,none⟩ v5).setCell ⟨P,6,none⟩ v6
theorem IB {B:Nat}{a w:World}(h:Below B a w){P:Nat}(hP:B≤P){v0 v1 v2 v3 v4 v5 v6:Value}:Below B a (IA w P v0 v1 v2 v3 v4 v5 v6) :=
 ((((((h.setCell (p:=⟨P,0,none⟩) hP _).setCell (p:=⟨P,1,none⟩) hP _).setCell (p:=⟨P,2,none⟩) hP _).setCell (p:=⟨P,3,none⟩) hP _).setCell (p:=⟨P,4,none⟩) hP _).setCell (p:=⟨P,5,none⟩) hP _).setCell (p:=⟨P,6,none⟩) hP _
theorem IC {w:World}{P b:Nat}(hb:b≠P){v0 v1 v2 v3 v4 v5 v6:Value}:(IA w P v0 v1 v2 v3 v4 v5 v6).heap[b]?=w.heap[b]?:=by
 unfold IA
 simp [World.setCell,Array.getElem?_modify,Ne.symm hb]
theorem ab1 (m:Md)(ab au:Option Addr)(cb cu:Nat)(fs:List (List Int))(a:Option Addr)(cap:Nat)(fa:Nat→Option Addr)(fc:Nat→Nat)(F:Nat)(w:World)(hmd:Hid (bn w.heap.size w m ab au))(fB:Hid (jB w.heap.size w fs a fa fc))
  (hF:Hid (w.heap[F]?=some (.cells #[.slice a fs.length cap] 26 (0,0)))) (hE:Hid (qi m 0 5000 fs=0)) :
  Calls Tryz.prog 14 #[fw m ab au cb cu,.pointer (some ⟨F,0,none⟩)] w fun e w'=>∃ s q tr st oa on oc sa sn sc ta tn tc,e=.returned (.tuple #[iW s q tr (.slice oa on oc) (.slice sa sn sc) (.slice ta tn tc) st,.int .i64 0])∧Below w.heap.size w w'∧oQ w' m fs s q (.slice oa on oc) (.slice ta tn tc):=by
 go_enter Tryz.func14,Tryz.ntmps14
 have HB:Hid (Below w.heap.size w ((w.alloc (lK m ab au cb cu)).alloc kX)):=((Below.refl _ w).alloc (Nat.le_refl _) _).alloc (by simp) _
 have hFc:=one_cell (((HB.out.block F (lt_of_block hF.out))).trans hF.out)
 go_wp2_with fail
 have HR:Hid (((w.alloc (lK m ab au cb cu)).alloc kX).heap[w.heap.size+1]?=some kX):=by
  have h:=heap_alloc_new (w.alloc (lK m ab au cb cu)) kX
  rw [show (w.alloc (lK m ab au cb cu)).heap.size=w.heap.size+1 by simp] at h
  exact h
 refine (ab0 m ab au cb cu w.heap.size fs a cap fa fc _ (hmd.out.low HB.out.block) (fB.out.low HB.out.block) HB.out.size hE.out).mono ?_
 rintro e w1 ⟨s,q,tr,st,oa,on,oc,sa,sn,sc,ta,tn,tc,rfl,hb1,hR⟩
 have HR1:=Sb.hide ((hb1.block _ (lt_of_block HR.out)).trans HR.out)
 have HB1:=Sb.hide (HB.out.trans (hb1.mono HB.out.size))
 have zV:=Sb.hide hR
 clear hb1 hR hFc HB HR hmd fB hF hE
 have c7:=seven HR1.out
 go_wp2
 refine bodyPost_ret (v:=.tuple #[iW s q tr (.slice oa on oc) (.slice sa sn sc) (.slice ta tn tc) st,.int .i64 0]) (by simp [results,Tryz.results14,go_sem,c7]) rfl ?_
 clear c7
 exact ⟨s,q,tr,st,oa,on,oc,sa,sn,sc,ta,tn,tc,rfl,IB HB1.out (Nat.le_succ _),zV.out.on HR1.out (fun b _ hb=>IC hb)⟩
theorem jB.up {B B':Nat}{w:World}{fs:List (List Int)}{a:Option Addr}{fa:Nat→Option Addr}{fc:Nat→Nat}(h:jB B w fs a fa fc)(hB:B≤B'):jB B' w fs a fa fc:=by
 refine ⟨h.few,fun i f hf=>?_,fun i f hf=>⟨(h.words i f hf).1,fun j v hv=>?_⟩⟩
 ·obtain ⟨b,off,e,hb,r⟩:=h.rows i f hf
  exact ⟨b,off,e,Nat.lt_of_lt_of_le hb hB,r⟩
 ·obtain ⟨b,off,e,hb,r⟩:=(h.words i f hf).2 j v hv
  exact ⟨b,off,e,Nat.lt_of_lt_of_le hb hB,r⟩
structure CW (name:ByteArray) (m:Md):Prop where
 ans:∃ cl,Xe.iG Tryz.prog cl∧Xe.ans (cl 16 [.string name] Xe.s0)=some m
 few:m.boxes.length≤1000000∧m.units.length≤1000000∧∀ u ∈ m.units,u.locals.length≤1000000∧u.code.length≤1000000
theorem ab3 {name:ByteArray}{m:Md}(hN:Hid (CW name m))(fs:List (List Int))(a:Option Addr)(cap:Nat)(fa:Nat→Option Addr)(fc:Nat→Nat)(F:Nat)(w:World)(hT:Hid (Xe.oP w))(fB:Hid (jB w.heap.size w fs a fa fc))
  (hF:Hid (w.heap[F]?=some (.cells #[.slice a fs.length cap] 26 (0,0)))) (hE:Hid (qi m 0 5000 fs=0)) :
  Calls Tryz.prog 13 #[.string name,.func (.func 14) #[] #[.pointer (some ⟨F,0,none⟩)]] w fun e w'=>∃ s q tr st oa on oc sa sn sc ta tn tc,e=.returned (.tuple #[iW s q tr (.slice oa on oc) (.slice sa sn sc) (.slice ta tn tc) st,.int .i64 0])∧Below w.heap.size w w'∧oQ w' m fs s q (.slice oa on oc) (.slice ta tn tc):=by
 go_enter Tryz.func13,Tryz.ntmps13
 have HB:Hid (Below w.heap.size w (w.alloc kX)):=(Below.refl _ w).alloc (Nat.le_refl _) _
 have HR:Hid ((w.alloc kX).heap[w.heap.size]?=some kX):=heap_alloc_new w kX
 go_wp2_with fail
 obtain ⟨cl,hcl,ab4⟩:=hN.out.ans
 refine (Xe.abZ hcl ab4 hN.out.few _ (hT.out.below HB.out)).mono ?_
 rintro e w1 ⟨hb1,ab,au,cb,cu,rfl,hM⟩
 have HR1:=Sb.hide ((hb1.block _ (lt_of_block HR.out)).trans HR.out)
 have HB1:=Sb.hide (HB.out.trans (hb1.mono HB.out.size))
 have HM:=Sb.hide hM
 clear hb1 hM HB HR
 have HB2:Hid (Below w1.heap.size w1 (w1.alloc (lK m ab au cb cu))):=(Below.refl _ w1).alloc (Nat.le_refl _) _
 have HA:Hid ((w1.alloc (lK m ab au cb cu)).heap[w1.heap.size]?=some (lK m ab au cb cu)):=heap_alloc_new w1 _
 have c2:=mq HA.out
 go_wp2_with fail
 refine (ab1 m ab au cb cu fs a cap fa fc F _ ?_ ?_ ?_ hE).mono ?_
 ·exact Sb.hide ((HM.out.low HB2.out.block).mono HB2.out.size)
 ·exact Sb.hide (((fB.out.low HB1.out.block).low (fun k hk=>HB2.out.block k (Nat.lt_of_lt_of_le hk HB1.out.size))).up (Nat.le_trans HB1.out.size HB2.out.size))
 ·have Qm:=lt_of_block hF.out
  exact Sb.hide ((HB2.out.block F (Nat.lt_of_lt_of_le Qm HB1.out.size)).trans ((HB1.out.block F Qm).trans hF.out))
 rintro e w2 ⟨s,q,tr,st,oa,on,oc,sa,sn,sc,ta,tn,tc,rfl,hb2,hR⟩
 have HR2:=Sb.hide ((hb2.block _ (Nat.lt_of_lt_of_le (lt_of_block HR1.out) HB2.out.size)).trans ((HB2.out.block _ (lt_of_block HR1.out)).trans HR1.out))
 have HB3:=Sb.hide ((HB1.out.trans (HB2.out.mono HB1.out.size)).trans (hb2.mono (Nat.le_trans HB1.out.size HB2.out.size)))
 have zV:=Sb.hide hR
 clear hb2 hR c2 HA HB2 HM HR1 HB1 hT fB hF hE hN
 have c7:=seven HR2.out
 go_wp2
 refine bodyPost_ret (v:=.tuple #[iW s q tr (.slice oa on oc) (.slice sa sn sc) (.slice ta tn tc) st,.int .i64 0]) (by simp [results,Tryz.results13,go_sem,c7]) rfl ?_
 clear c7
 exact ⟨s,q,tr,st,oa,on,oc,sa,sn,sc,ta,tn,tc,rfl,IB HB3.out (Nat.le_refl _),zV.out.on HR2.out (fun b _ hb=>IC hb)⟩
theorem ab5 {name:ByteArray}{m:Md}(hN:Hid (CW name m))(fs:List (List Int))(a:Option Addr)(cap:Nat)(fa:Nat→Option Addr)(fc:Nat→Nat)(w:World)(hT:Hid (Xe.oP w))(fB:Hid (jB w.heap.size w fs a fa fc))(hE:Hid (qi m 0 5000 fs=0)) :
  Calls Tryz.prog 11 #[.string name,.slice a fs.length cap] w fun e w'=>∃ s q tr st oa on oc sa sn sc ta tn tc,e=.returned (.tuple #[iW s q tr (.slice oa on oc) (.slice sa sn sc) (.slice ta tn tc) st,.int .i64 0])∧Below w.heap.size w w'∧oQ w' m fs s q (.slice oa on oc) (.slice ta tn tc):=by
 have vJ:∀ (fn:Fn) (first cap:Array Value) (w:World),(Instr.makeFunc fn first cap).run Tryz.prog w=.ok (.func fn first cap) w:=fun _ _ _ _=>rfl
 go_enter Tryz.func11,Tryz.ntmps11
 obtain ⟨fo,hfo⟩:∃ o:Obj,o=.cells #[.slice a fs.length cap] 26 (0,0):=⟨_,rfl⟩
 have HB:Hid (Below w.heap.size w ((w.alloc fo).alloc kX)):=((Below.refl _ w).alloc (Nat.le_refl _) _).alloc (by simp) _
 have HR:Hid (((w.alloc fo).alloc kX).heap[w.heap.size+1]?=some kX):=by
  have h:=heap_alloc_new (w.alloc fo) kX
  rw [show (w.alloc fo).heap.size=w.heap.size+1 by simp] at h
  exact h
 have HF:Hid (((w.alloc fo).alloc kX).heap[w.heap.size]?=some fo):=by
  have h:=Below.heap_alloc (w.alloc fo) kX w.heap.size (by simp)
  exact h.trans (heap_alloc_new w fo)
 subst hfo
 go_wp2_with fail
 refine (ab3 hN fs a cap fa fc w.heap.size _ (hT.out.below HB.out) ((fB.out.low HB.out.block).up HB.out.size) HF hE).mono ?_
 rintro e w2 ⟨s,q,tr,st,oa,on,oc,sa,sn,sc,ta,tn,tc,rfl,hb2,hR⟩
 have HR2:=Sb.hide ((hb2.block _ (lt_of_block HR.out)).trans HR.out)
 have HB3:=Sb.hide (HB.out.trans (hb2.mono HB.out.size))
 have zV:=Sb.hide hR
 clear hb2 hR HB HR HF hT fB hE hN
 have c7:=seven HR2.out
 go_wp2
 refine bodyPost_ret (v:=.tuple #[iW s q tr (.slice oa on oc) (.slice sa sn sc) (.slice ta tn tc) st,.int .i64 0]) (by simp [results,Tryz.results11,go_sem,c7]) rfl ?_
 clear c7
 exact ⟨s,q,tr,st,oa,on,oc,sa,sn,sc,ta,tn,tc,rfl,IB HB3.out (Nat.le_succ _),zV.out.on HR2.out (fun b _ hb=>IC hb)⟩
theorem Qn {name:ByteArray}{m:Md}(hN:Hid (CW name m))(fs:List (List Int))(a:Option Addr)(cap:Nat)(fa:Nat→Option Addr)(fc:Nat→Nat)(want:List Int)(v:Value)(w:World)(hT:Hid (Xe.oP w))(fB:Hid (jB w.heap.size w fs a fa fc))(hE:Hid (qi m 0 5000 fs=0))
  (hv:Hid (RI w v want)) (hO:Hid ((eX m 0 5000 fs).2.1.out=want)) (hS:Hid ((stat aD m (eX m 0 5000 fs).2.1 (eX m 0 5000 fs).2.2).1=3)) (hl:want.length≤1000000) :
  Calls Tryz.prog 10 #[.string name,v,.slice a fs.length cap] w fun e w'=>e=.returned (.bool true)∧Below w.heap.size w w':=by
 go_enter Tryz.func10,Tryz.ntmps10
 go_wp2_with fail
 refine (ab5 hN fs a cap fa fc w hT fB hE).mono ?_
 rintro e w1 ⟨s,q,tr,st,oa,on,oc,sa,sn,sc,ta,tn,tc,rfl,hb1,hR⟩
 obtain rfl:s=3:=by have:=congrArg Prod.fst hR.stat;exact this.trans hS.out
 have Qo:=Sb.hide (hv.out.below hb1)
 have ho:=wC hR.out
 rw [hO.out] at ho
 have Br:=Sb.hide ho
 have HB1:=Sb.hide hb1
 clear hb1 hR ho hS hO hv hE fB hT hN
 have HB2:Hid (Below w1.heap.size w1 (w1.alloc (kP 3 q tr (.slice oa on oc) (.slice sa sn sc) (.slice ta tn tc) st))):=(Below.refl _ w1).alloc (Nat.le_refl _) _
 have HA:Hid ((w1.alloc (kP 3 q tr (.slice oa on oc) (.slice sa sn sc) (.slice ta tn tc) st)).heap[w1.heap.size]?=some (kP 3 q tr (.slice oa on oc) (.slice sa sn sc) (.slice ta tn tc) st)):=heap_alloc_new w1 _
 have c7:=seven HA.out
 go_wp2_with fail
 refine (EU (.slice oa on oc) v want _ (Sb.hide (Br.out.below HB2.out)) (Sb.hide (Qo.out.below HB2.out)) (by omega)).mono ?_
 rintro e w2 ⟨rfl,d,rfl⟩
 have HB3:Hid (Below w.heap.size w ((w1.alloc (kP 3 q tr (.slice oa on oc) (.slice sa sn sc) (.slice ta tn tc) st)).drewN d)):=below_drewN (HB1.out.trans (HB2.out.mono HB1.out.size)) d
 clear c7 HA HB2 Qo Br
 go_wp2
 go_ret
 exact ⟨rfl,HB3.out⟩
end Go.Proofs.YthffafaoobpedaaGreatDoor.Vw
namespace Go.Proofs.YthffafaoobpedaaGreatDoor
open Go.RowKit
section
variable {H:Type} {enc:TypeId × Value→H} {w:World} {base:Nat} {spare:Nat→Bool} {held:Bool}
theorem ab6 {a:Addr}{i n:Nat}{cs:List Value}(hn:0 < n)(h:w.cells? base (a.add (i * n)) n=some cs)(h0:a.spot=none) :
  a.block < w.heap.size∧∀ j,j < n→w.cell? ⟨a.block,a.off+i * n+j,none⟩=cs[j]?:=by
 obtain ⟨hb,hl,hc⟩:=World.cells?_some h
 have hadd:∀ k,a.add k=⟨a.block,a.off+k,none⟩:=by
  intro k
  unfold Addr.add
  split
  ·subst_vars;cases a;simp_all
  ·rfl
 have hcell:∀ j,j < n→w.cell? ⟨a.block,a.off+i * n+j,none⟩=cs[j]?:=by
  intro j hj
  have:=hc j hj
  rw [hadd] at this
  rw [← this]
  congr 1
  unfold Addr.add
  split
  ·subst_vars;rfl
  ·rfl
 refine ⟨?_,hcell⟩
 have h1:=hcell 0 hn
 rw [List.getElem?_eq_getElem (by omega)] at h1
 cases hh:w.heap[a.block]? with
 | none=>simp [World.cell?,hh] at h1
 | some o=>exact lt_of_block hh
theorem ab7 {a:Addr}{n:Nat}{cs:List Value}(hn:0 < n)(h:w.cells? base (a.add (0 * n)) n=some cs):a.spot=none:=by
 obtain ⟨hb,hl,hc⟩:=World.cells?_some h
 have h1:=hc 0 hn
 rw [List.getElem?_eq_getElem (by omega)] at h1
 simp only [Nat.zero_mul,Addr.add,if_true] at h1
 unfold World.cell? at h1
 split at h1
 ·split at h1
  ·simp at h1
  ·rename_i hs;simpa using hs
 ·simp at h1
theorem Qp {α:Type}{p:Nat→α→Prop}:∀ (n:Nat),(∀ i,i < n→∃ y,p i y)→∃ l:List α,l.length=n∧∀ i y,l[i]?=some y→p i y
 | 0,_=>⟨[],rfl,fun i y hy=>by simp at hy⟩
 | m+1,hall=>by
  obtain ⟨l,h1,h2⟩:=Qp m (fun i hi=>hall i (by omega))
  obtain ⟨y,h3⟩:=hall m (by omega)
  refine ⟨l ++ [y],by simp [h1],fun i z hz=>?_⟩
  by_cases hi:i < l.length
  ·rw [List.getElem?_append_left hi] at hz;exact h2 i z hz
  ·rw [List.getElem?_append_right (by omega)] at hz
   have hi2:i - l.length=0:=by
    have:=(List.getElem?_eq_some_iff.1 hz).1
    simp at this;omega
   rw [hi2] at hz
   simp at hz
   subst hz
   obtain rfl:i=m:=by omega
   exact h3
theorem ab8 {α:Type}{t e:TypeId}{n fuel:Nat}{cs:List Value}{x:DataW H × List MemPlace}(Q:Nat→List Value→α→Prop)
  (ht:Tryz.prog.underlying t=some (.slice e)) (hce:Tryz.prog.cellsOf e=n) (hn:0 < n)
  (hQ:∀ f cs' x',f < fuel→DataW.trod enc Tryz.prog w base spare held f e cs'=some x'→∃ y,Q f cs' y)
  (h:DataW.trod enc Tryz.prog w base spare held fuel t cs=some x) :
  ∃ (l:List α) (a:Option Addr) (c:Nat),cs=[.slice a l.length c]∧l.length≤maxLen∧l.length≤c ∧
   ∀ i y,l[i]?=some y→∃ b off cs' f,a=some ⟨b,off,none⟩∧b < w.heap.size∧f < fuel∧cs'.length=n∧Q f cs' y∧∀ j,j < n→w.cell? ⟨b,off+i * n+j,none⟩=cs'[j]?:=by
 rcases DataW.trod_slice ht h with ⟨rfl,_⟩ | ⟨a,len,cap,elems,rest,k,rfl,rfl,_,hb,hl,hm,hlen,hel,_,_⟩
 ·exact ⟨[],none,0,rfl,Nat.zero_le _,Nat.zero_le _,fun i y hy=>by simp at hy⟩
 ·rw [hce] at hel
  have hall:∀ i,i < len→∃ cs' y,w.cells? base (a.add (i * n)) n=some cs'∧Q k cs' y:=by
   intro i hi
   have:=hel i hi
   rw [List.getElem?_eq_getElem (by omega)] at this
   obtain ⟨cs',h1,h2⟩:=Option.bind_eq_some_iff.1 this
   obtain ⟨y,hy⟩:=hQ k cs' _ (by omega) h2
   exact ⟨cs',y,h1,hy⟩
  obtain ⟨l,hll,hlq⟩:=Qp (p:=fun i y=>∃ cs',w.cells? base (a.add (i * n)) n=some cs'∧Q k cs' y) len (fun i hi=>by
   obtain ⟨cs',y,h1,h2⟩:=hall i hi
   exact ⟨y,cs',h1,h2⟩)
  refine ⟨l,some a,cap,by rw [hll],by omega,by omega,fun i y hy=>?_⟩
  have hi:=(List.getElem?_eq_some_iff.1 hy).1
  have hsp:a.spot=none:=by
   obtain ⟨cs0,y0,h1,_⟩:=hall 0 (by omega)
   exact ab7 hn h1
  obtain ⟨cs',h1,h2⟩:=hlq i y hy
  obtain ⟨h3,h4⟩:=ab6 hn h1 hsp
  exact ⟨a.block,a.off,cs',k,by cases a;simp_all,h3,by omega,(World.cells?_some h1).2.1,h2,h4⟩
theorem two {cs:List Value}(h:cs.length=2):∃ a b,cs=[a,b]:=by
 match cs,h with
 | [a,b],_=>exact ⟨a,b,rfl⟩
theorem three {cs:List Value}(h:cs.length=3):∃ a b c,cs=[a,b,c]:=by
 match cs,h with
 | [a,b,c],_=>exact ⟨a,b,c,rfl⟩
theorem Qq:Tryz.prog.cellsOf 3=1:=by kernel_rfl
theorem ab9:Tryz.prog.cellsOf 2=1:=by kernel_rfl
theorem wf_i64 {n:Int}(h:(Lit.int .i64 n).wf=true):cB n:=by
 simp only [Lit.wf,Bool.and_eq_true,decide_eq_true_eq] at h
 have e1:IntKind.i64.min=-9223372036854775808:=by decide
 have e2:IntKind.i64.max=9223372036854775807:=by decide
 rw [e1,e2] at h
 exact h
theorem aca {fuel:Nat}{cs:List Value}{x:DataW H × List MemPlace}(h:DataW.trod enc Tryz.prog w base spare held fuel 2 cs=some x):∃ n:Int,cB n∧cs=[.int .i64 n]:=by
 obtain ⟨n,hn,_,hw⟩:=DataW.trod_int Tryz.underlying2 h
 exact ⟨n,wf_i64 hw,hn⟩
end
end Go.Proofs.YthffafaoobpedaaGreatDoor

/- Plainly: what is called are definitions. -/
import Derived.Test.YtolfleeidpeomaaGreatDoorM37
set_option maxRecDepth 100000
set_option maxHeartbeats 4000000
namespace Go.Proofs.YtolfleeidpeomaaGreatDoor
open Go.RowKit
namespace Sm
open Sy
def kH (l:List Df)(t:Tk):Prop:=∀ c ∈ t.calls,c<l.length
def dR (l:List Df)(ex:Ex→Tk→Except Int (Ty × Tk)):Prop:=∀ x t y t',ex x t=.ok (y,t')→kH l t→kH l t'
theorem o6 {l:List Df}{ex:Ex→Tk→Except Int (Ty × Tk)}(hex:dR l ex)(wt:Ty):∀ (ks:List Ex) (t t':Tk),must ex wt ks t=.ok t'→kH l t→kH l t'
 | [],t,t',hm,ht=>by
  simp [must] at hm
  subst hm
  exact ht
 | k :: ks,t,t',hm,ht=>by
  rw [must] at hm
  obtain ⟨p,hp,hm⟩:=aZ hm
  split at hm
  ·exact o6 hex wt ks p.2 t' hm (hex k t p.1 p.2 hp ht)
  ·cases hm
theorem Sv {l:List Df}{ex:Ex→Tk→Except Int (Ty × Tk)}(hex:dR l ex):∀ (ps:List Pm) (ks:List Ex) (t t':Tk),args ex ps ks t=.ok t'→kH l t→kH l t'
 | [],ks,t,t',hm,ht=>by
  simp [args] at hm
  subst hm
  exact ht
 | p :: ps,ks,t,t',hm,ht=>by
  rw [args] at hm
  obtain ⟨t1,h1,hm⟩:=aZ hm
  exact Sv hex ps _ t1 t' hm (o6 hex p.ty _ t t1 h1 ht)
theorem Sw {l:List Df}{ex:Ex→Tk→Except Int (Ty × Tk)}(hex:dR l ex){kind:Int}{x:Ex}{t t':Tk}{D:Df}(hc:call l ex kind x t=.ok (D,t'))(ht:kH l t):kH l t':=by
 unfold call at hc
 obtain ⟨i,hi,hc⟩:=aZ hc
 split at hc
 ·cases hc
 ·obtain ⟨t1,h1,hc⟩:=aZ hc
  cases hc
  refine Sv hex _ _ _ _ h1 (fun c hc=>?_)
  rcases List.mem_append.1 hc with h2 | h2
  ·exact ht c h2
  ·simp at h2;subst h2;exact Ee hi
theorem Sz {l:List Df}{ex:Ex→Tk→Except Int (Ty × Tk)}(hex:dR l ex){x:Ex}{t t':Tk}{D:Df}(hc:started l ex x t=.ok (D,t'))(ht:kH l t):kH l t':=by
 unfold started at hc
 obtain ⟨p,hp,hc⟩:=aZ hc
 split at hc
 ·cases hc
 ·obtain ⟨i,_,hc⟩:=aZ hc
  cases hc
  exact hex x t p.1 p.2 hp ht
theorem acI {l:List Df}{ex:Ex→Tk→Except Int (Ty × Tk)}(hex:dR l ex){me:Df}{x:Ex}{t t':Tk}{y:Ty}(hc:spoken l me ex x t=.ok (y,t'))(ht:kH l t):kH l t':=by
 unfold spoken at hc
 split at hc
 ·obtain ⟨p,hp,hc⟩:=aZ hc
  cases hc
  exact Sw hex hp ht
 ·split at hc
  ·obtain ⟨p,hp,hc⟩:=aZ hc
   cases hc
   exact Sw hex hp ht
  ·split at hc
   ·obtain ⟨b,_,hc⟩:=aZ hc
    cases hc
    exact ht
   ·split at hc
    ·obtain ⟨_,_,hc⟩:=aZ hc
     obtain ⟨t1,h1,hc⟩:=aZ hc
     cases hc
     exact o6 hex _ _ _ _ h1 ht
    ·obtain ⟨g,hg,hc⟩:=aZ hc
     obtain ⟨t1,h1,hc⟩:=aZ hc
     cases hc
     exact o6 hex _ _ _ _ h1 (Sz hex hg ht)
theorem SA (l:List Df)(me:Df)(v:Vars):∀ d,dR l (expr l me v d)
 | 0=>fun x t y t' h _=>by simp [expr] at h
 | d+1=>fun x t y t' hc ht=>by
  have hex:=SA l me v d
  rw [expr] at hc
  split at hc
  ·cases hc;exact ht
  ·split at hc
   ·cases hc;exact ht
   ·split at hc
    ·obtain ⟨z,_,hc⟩:=aZ hc
     cases hc;exact ht
    ·split at hc
     ·obtain ⟨t1,h1,hc⟩:=aZ hc
      cases hc;exact o6 hex _ _ _ _ h1 ht
     ·split at hc
      ·obtain ⟨t1,h1,hc⟩:=aZ hc
       cases hc;exact o6 hex _ _ _ _ h1 ht
      ·split at hc
       ·obtain ⟨t1,h1,hc⟩:=aZ hc
        cases hc;exact o6 hex _ _ _ _ h1 ht
       ·split at hc
        ·obtain ⟨a,ha,hc⟩:=aZ hc
         obtain ⟨b,hb,hc⟩:=aZ hc
         obtain ⟨_,_,hc⟩:=aZ hc
         split at hc
         ·cases hc
          exact hex _ _ _ _ hb (hex _ _ _ _ ha ht)
         ·cases hc
        ·split at hc
         ·obtain ⟨p,hp,hc⟩:=aZ hc
          cases hc
          exact Sz hex hp ht
         ·exact acI hex hc ht
def lC (l:List Df)(st:St→Vars→Tk→Except Int (Vars × Tk)):Prop:=∀ s v t v' t',st s v t=.ok (v',t')→kH l t→kH l t'
theorem SB {l:List Df}{st:St→Vars→Tk→Except Int (Vars × Tk)}(hst:lC l st):∀ (b:List St) (v:Vars) (t:Tk) (v':Vars) (t':Tk),block st b v t=.ok (v',t')→kH l t→kH l t'
 | [],v,t,v',t',h,ht=>by
  simp [block] at h
  rw [← h.2];exact ht
 | s :: b,v,t,v',t',h,ht=>by
  rw [block] at h
  obtain ⟨p,hp,h⟩:=aZ h
  exact SB hst b p.1 p.2 v' t' h (hst s v t p.1 p.2 hp ht)
theorem Ez {l:List Df}{st:St→Vars→Tk→Except Int (Vars × Tk)}(hst:lC l st){b:List St}{v:Vars}{t t':Tk}(h:inner st b v t=.ok t')(ht:kH l t):kH l t':=by
 unfold inner at h
 obtain ⟨p,hp,h⟩:=aZ h
 cases h
 exact SB hst b v t p.1 p.2 hp ht
theorem CS (l:List Df)(me:Df):∀ d,lC l (stat l me d)
 | 0=>fun s v t v' t' h _=>by simp [stat] at h
 | d+1=>fun s v t v' t' hc ht=>by
  have hst:=CS l me d
  have hex:=SA l me v d
  rw [stat] at hc
  split at hc
  ·obtain ⟨p,hp,hc⟩:=aZ hc
   split at hc
   ·cases hc
   ·cases hc;exact hex _ _ _ _ hp ht
  ·split at hc
   ·obtain ⟨_,_,hc⟩:=aZ hc
    obtain ⟨t1,h1,hc⟩:=aZ hc
    cases hc;exact o6 hex _ _ _ _ h1 ht
   ·split at hc
    ·obtain ⟨t1,h1,hc⟩:=aZ hc
     obtain ⟨t2,h2,hc⟩:=aZ hc
     obtain ⟨t3,h3,hc⟩:=aZ hc
     cases hc;exact Ez hst h3 (Ez hst h2 (o6 hex _ _ _ _ h1 ht))
    ·split at hc
     ·obtain ⟨t1,h1,hc⟩:=aZ hc
      obtain ⟨t2,h2,hc⟩:=aZ hc
      cases hc;exact Ez hst h2 (o6 hex _ _ _ _ h1 ht)
     ·split at hc
      ·obtain ⟨_,_,hc⟩:=aZ hc
       obtain ⟨t1,h1,hc⟩:=aZ hc
       cases hc;exact o6 hex _ _ _ _ h1 ht
      ·split at hc
       ·obtain ⟨_,_,hc⟩:=aZ hc
        cases hc;exact ht
       ·split at hc
        ·obtain ⟨b,_,hc⟩:=aZ hc
         obtain ⟨t1,h1,hc⟩:=aZ hc
         cases hc;exact o6 hex _ _ _ _ h1 ht
        ·split at hc
         ·obtain ⟨p,hp,hc⟩:=aZ hc
          obtain ⟨_,_,hc⟩:=aZ hc
          cases hc;exact hex _ _ _ _ hp ht
         ·obtain ⟨p,hp,hc⟩:=aZ hc
          cases hc;exact hex _ _ _ _ hp ht
theorem acJ {l:List Df}{me:Df}{t:Tk}(h:aV l me=.ok t):kH l t:=by
 unfold aV at h
 split at h
 ·cases h;intro c hc;simp [Tk.none] at hc
 ·exact Ez (CS l me 39) h (fun c hc=>by simp [Tk.none] at hc)
end Sm
namespace Sm
open Sy
theorem Kr {α:Type}{f:Df→Except Int α}:∀ {l:List Df} {i:Nat} {xs:List α},each f l i=.ok xs→xs.length=l.length∧∀ (k:Nat) (d:Df),l[k]?=some d→∃ x,xs[k]?=some x∧f d=.ok x
 | [],i,xs,h=>by
  simp [each] at h
  subst h
  exact ⟨rfl,fun k d hd=>by simp at hd⟩
 | d :: l,i,xs,h=>by
  rw [each] at h
  cases hf:f d with
  | error e=>rw [hf] at h;cases h
  | ok x =>
   rw [hf] at h
   dsimp only at h
   cases he:each f l (i+1) with
   | error e=>rw [he] at h;cases h
   | ok ys =>
    rw [he] at h
    cases h
    obtain ⟨h1,h2⟩:=Kr he
    refine ⟨by simp [h1],fun k d' hd=>?_⟩
    cases k with
    | zero=>simp at hd;subst hd;exact ⟨x,by simp,hf⟩
    | succ k=>simpa using h2 k d' (by simpa using hd)
theorem acK {l:List Df}{ts:List Tk}(hF:Fit l)(h:each (aV l) l 0=.ok ts):ts.length=l.length∧∀ n,n<l.length→Tl l.length (bO ts n):=by
 obtain ⟨h1,h2⟩:=Kr h
 refine ⟨h1,fun n hn=>?_⟩
 obtain ⟨t,ht,hb⟩:=h2 n l[n] (List.getElem?_eq_getElem hn)
 have e:bO ts n=t:=by simp [bO,ht]
 rw [e]
 by_cases hk:l[n].kind=1
 ·unfold aV at hb
  rw [if_pos hk] at hb
  cases hb
  exact ⟨by simp [Tk.none],by simp [Tk.none],by simp [Tk.none],fun c hc=>by simp [Tk.none] at hc⟩
 ·obtain ⟨_,n0,m,hn0,hm⟩:=hF.forms n l[n] (List.getElem?_eq_getElem hn) hk
  have hm2:=Sy.o8 (Sy.nJ 39) hn0 hm
  have hle:=Bz (Em l l[n] 39) hm ⟨Nat.zero_le _,Nat.zero_le _,Nat.zero_le _⟩ ((R8 hk).symm.trans hb)
  exact ⟨by have:=hle.1;omega,by have:=hle.2.1;omega,by have:=hle.2.2;omega,acJ hb⟩
end Sm
namespace Sm
abbrev l6:=ByteArray × ByteArray × ByteArray
abbrev yV (o:l6):List Value:=[.string o.1,.string o.2.1,.string o.2.2]
abbrev ows (l:List l6):List Value:=l.flatMap yV
theorem acL (l:List l6)(o:l6):ows (l++[o])=ows l++yV o:=by simp [ows]
theorem acM (W:World)(u0 u1 u2:Value)(t:TypeId):∀ j u',[u0,u1,u2][j]?=some u'→(W.alloc (.cells #[u0,u1,u2] t)).cell? ((⟨W.heap.size,0,none⟩:Addr).add j)=some u'
 | 0,u',h=>by simp at h;subst h;simp [Addr.add]
 | 1,u',h=>by simp at h;subst h;simp [Addr.add]
 | 2,u',h=>by simp at h;subst h;simp [Addr.add]
 | j+3,u',h=>by simp at h
theorem Tryz.acN:(Tryz.prog.info? 37).map (fun i=>(i.zero,i.size,i.bytes))=some (some (.agg #[.string ⟨#[]⟩,.string ⟨#[]⟩,.string ⟨#[]⟩]),3,48):=by kernel_rfl
theorem acO {w:World}{ops:Array Oper}{o:Oper}{a:Act}{K:Act→World→Prop}{Q:Exit→Act→World→Prop}{F:Prop}(hgd:o.guard=none)(s x:Operand)
  (ho:o.op=.call { callee:=.builtin .append,args:=#[s,x],argTypes:=#[33,33] }) (base:Nat) (v:Value) (os:List l6) (q:l6) (hs:a.eval s=v) (hown:w.ownsRow base 37 3 v os.length (ows os)) (ad:Addr) (hx:a.eval x=.slice (some ad) 1 1) (hnews:∀ j u,(yV q)[j]?=some u→w.cell? (ad.add j)=some u) (hn:os.length≤1000000) (hbase:base≤w.heap.size)
  (h:∀ v' w',w'.ownsRow base 37 3 v' (os++[q]).length (ows (os++[q]))→w.grownBy w' v.ownBlock→K (a.put o.dst v') w'):if Region.wanted o (yielded ops a.tmps)=true then o.wp Tryz.prog a w K Q else F:=by
 simp only [Region.wanted,hgd,if_true]
 obtain ⟨i0,hi,hz0,hz1,hz2⟩:=info_parts Tryz.acN
 obtain ⟨v',w',hr,h2,h3,_⟩:=xZ (P:=Tryz.prog) w base 33 o.type 37 i0 _ 3 48 Tryz.underlying33 hi hz0 hz1 hz2 rfl (by decide) v os.length (ows os) hown ad 1 1 (yV q) rfl hnews (fun u hu=>by simp [yV] at hu;rcases hu with rfl | rfl | rfl <;> rfl) (by decide) (by unfold maxLen;omega) (by omega) hbase
 unfold Oper.wp
 simp [execOp,ho,resolve,invoke,builtin,hs,hx,hr,Result.andThen]
 refine h v' w' ?_ h3
 rw [acL,show (os++[q]).length=os.length+1 by simp]
 exact h2
end Sm
namespace Sm
def Oo (r:Except (Int × Nat) (List l6))(w:World)(e:Ending)(w':World):Prop :=
 w.grownBy w' none∧match r with
 | .error x=>e=.panicked [aH x.1 (x.2:Int)]
 | .ok os=>∃ v,e=.returned v∧w'.ownsRow w.heap.size 37 3 v os.length (ows os)
def tu (done:List l6)(r:Except (Int × Nat) (List l6)):Except (Int × Nat) (List l6):=match r with | .error x=>.error x | .ok xs=>.ok (done++xs)
theorem gW.acP {B:Nat}{w w':World}{Tb n:Nat}{cs:List Value}{ts:Nat→Tk}(h:gW B w Tb n cs ts)(hk:∀ (k:Nat) (o:Array Value) (e:TypeId),w.heap[k]?=some (.cells o e (0,0))→e≠37→w'.heap[k]?=w.heap[k]?):gW B w' Tb n cs ts:=by
 have key:∀ {b:Nat} {v:Value} {m:Nat} {xs:List Value},w.ownsRow b 3 1 v m xs→w'.ownsRow b 3 1 v m xs:=fun ho=>fF ho (fun k hb=>by obtain ⟨_,_,cur,hc⟩:=bq ho k hb;exact hk _ _ _ hc (by decide))
 refine ⟨(hk _ _ _ h.blk (by decide)).trans h.blk,h.len,fun i hi=>?_⟩
 obtain ⟨sn,rc,cl,c1,c2,c3,o1,o2,o3⟩:=h.row i hi
 exact ⟨sn,rc,cl,c1,c2,c3,key o1,key o2,key o3⟩
theorem acQ {a b c:World}{v:Value}(h:a.grownBy b none)(k:b.grownBy c v.ownBlock)(hB:∀ k,v.ownBlock=some k→a.heap.size≤k):a.grownBy c none:=by
 cases hv:v.ownBlock with
 | none=>rw [hv] at k;exact aB h k
 | some M=>rw [hv] at k;exact qC h k (hB M hv)
def acR:Except Int ByteArray→Except Int Value | .ok s=>.ok (.string s) | .error e=>.error e
def Kt (n:Int):Except Int ByteArray→Ending | .ok s=>.returned (.string s) | .error e=>.panicked [aH e n]
def BM (a:Except Int ByteArray)(i:Nat)(f:ByteArray→Except (Int × Nat) (List l6)):Except (Int × Nat) (List l6):=match a with | .error e=>.error (e,i) | .ok s=>f s
theorem acS {l:List Sy.Df}{ts:List Tk}{i:Nat}{is:List Nat}{d:Sy.Df}{os:List l6}(ik:bJ l i=d)(h1:d.kind=1){rs rc:Except Int ByteArray}(hrs:rs=Sm.only l (fun t=>decide (i ∈ (eY l ts t).sends)))(hrc:rc=Sm.only l (fun t=>decide (i ∈ (eY l ts t).recvs))) :
  tu os (gZ l ts (i :: is))=BM rs i fun sn=>BM rc i fun rn=>tu (os++[(d.name,sn,rn)]) (gZ l ts is):=by
 rw [gZ,ik,if_pos h1,owner,← hrs,← hrc,ik]
 cases rs with
 | error e=>rfl
 | ok sn =>
  cases rc with
  | error e=>rfl
  | ok rn =>
   rw [andThen_ok,andThen_ok]
   cases gZ l ts is with
   | error e=>rfl
   | ok xs=>simp [BM,tu]
theorem acT (B:Nat)(l:List Sy.Df)(a:Option Addr)(c M Tb:Nat)(yT:List Value)(ts:List Tk)(w:World)(r:Except (Int × Nat) (List l6))(hD:Hid (dS B w l a))(hB:B≤w.heap.size)(hT:Hid (gW B w Tb l.length yT (fun i=>bO ts i)))(hTs:Hid (ts.length=l.length))(Sb:Hid (∀ n,n<l.length→Tl l.length (bO ts n)))(hN:Hid (∀ (k:Nat) (d:Sy.Df),l[k]?=some d→d.name≠⟨#[]⟩∧d.name.size≤12))(hl:l.length≤100000)
  (hr:Hid (r=gZ l ts (List.range l.length))) :
  Calls Tryz.prog 21 #[xh l a c M,.slice (some ⟨Tb,0,none⟩) l.length l.length] w fun e w'=>Oo r w e w':=by
 obtain ⟨L,hL⟩:∃ L,L=l.length:=⟨_,rfl⟩
 have HL:Hid (L=l.length):=hL
 have hl':L≤100000:=by rw [hL];exact hl
 obtain ⟨i0,hif,hz0,hz1,hz2⟩:=info_parts Tryz.R7
 have hmk:∀ X:World,Sem.run Tryz.prog (Instr.makeSlice 69 (.int .i64 (L:Int)) (.int .i64 (L:Int))) X=.ok (.slice (some ⟨X.heap.size,0,none⟩) L L) (X.alloc (.cells (madeCells #[.slice none 0 0,.slice none 0 0,.slice none 0 0] (L * 3)) 100)):=fun X=>by
  have:=run_makeSlice (P:=Tryz.prog) X 69 100 i0 _ Tryz.underlying69 hif hz0 .i64 .i64 (L:Int) (L:Int) (by omega) (Int.le_refl _) (by rw [hz1];simp;omega) (by rw [hz2];omega) (by omega)
  rw [hz1,Int.toNat_natCast] at this
  exact this
 obtain ⟨W0,hW0⟩:∃ W0,W0=((w.alloc (gN L a c M)).alloc (.cells (madeCells #[.slice none 0 0,.slice none 0 0,.slice none 0 0] (L * 3)) 100)).alloc (oG (w.heap.size+1) L):=⟨_,rfl⟩
 have aY:Hid (w.grownBy W0 none):=by rw [hW0];exact aB (bu _ _) (bn _)
 have jo:Hid (W0.heap[w.heap.size]?=some (gN L a c M)):=by rw [hW0];exact (Below.heap_alloc _ _ _ (by simp;omega)).trans ((Below.heap_alloc _ _ _ (by simp)).trans (heap_alloc_new _ _))
 have SC:Hid (W0.heap[w.heap.size+1+1]?=some (oG (w.heap.size+1) L)):=by
  rw [hW0]
  have:=heap_alloc_new ((w.alloc (gN L a c M)).alloc (.cells (madeCells #[.slice none 0 0,.slice none 0 0,.slice none 0 0] (L * 3)) 100)) (oG (w.heap.size+1) L)
  rw [World.size_alloc,World.size_alloc] at this
  exact this
 have HT0:Hid (gW w.heap.size W0 (w.heap.size+1) L (madeCells #[.slice none 0 0,.slice none 0 0,.slice none 0 0] (L * 3)).toList (fun _=>Tk.none)):=by
  have hbk:W0.heap[w.heap.size+1]?=some (.cells (madeCells #[.slice none 0 0,.slice none 0 0,.slice none 0 0] (L * 3)) 100 (0,0)):=by
   rw [hW0]
   have:=heap_alloc_new (w.alloc (gN L a c M)) (.cells (madeCells #[.slice none 0 0,.slice none 0 0,.slice none 0 0] (L * 3)) 100 (0,0))
   rw [World.size_alloc] at this
   exact (Below.heap_alloc _ _ _ (by simp)).trans this
  have hc:∀ i,i<L * 3→(madeCells #[.slice none 0 0,.slice none 0 0,.slice none 0 0] (L * 3)).toList[i]?=some (.slice none 0 0):=fun i hi=>R9 hi
  refine ⟨by simpa using hbk,by rw [Array.length_toList,size_madeCells],fun i hi=>⟨_,_,_,hc _ (by omega),hc _ (by omega),hc _ (by omega),?_,?_,?_⟩⟩ <;> exact World.ownsRow_nil _ _ _ _
 have HW0:Hid (W0=_):=hW0
 clear hW0
 rw [show xh l a c M=.agg #[.slice a L c,.map (some M)] by rw [hL],← hL]
 clear hL hl hif hz0 hz1 hz2
 go_enter Tryz.func21,Tryz.ntmps21
 go_wp2
 rw [← HW0.out]
 go_loopw [18] (fun q wr=>∃ (j:Nat) (cs:List Value),q=.int .i64 j∧j≤L∧Hid (w.grownBy wr none)∧Hid (wr.heap[w.heap.size]?=some (gN L a c M))∧Hid (wr.heap[w.heap.size+1+1]?=some (oG (w.heap.size+1) L))∧Hid (gW w.heap.size wr (w.heap.size+1) L cs (fun i=>if i<j then eY l ts i else Tk.none))∧Hid (∀ k,k<j→(eY l ts k).sends.length≤10000000000000∧(eY l ts k).recvs.length≤10000000000000)) (fun q _=>L - (intOf q).toNat)
 case atStart=>exact ⟨0,_,rfl,Nat.zero_le _,aY,jo,SC,by unfold Hid;simpa using HT0.out,fun k hk=>absurd hk (by omega)⟩
 case round =>
  clear aY jo SC HT0 HW0 hmk
  obtain ⟨j,cs,rfl,hj,HG,HP,HV,HT,xw⟩:=hrel
  obtain ⟨p0,p1,_,_⟩:=bE HP.out
  have xm:=lt_of_block HP.out
  have hVl:=lt_of_block HV.out
  have ae2:=lt_of_block HT.out.blk
  by_cases hlt:j<L
  ·have hj1:j<l.length:=by rw [← HL.out];exact hlt
   obtain ⟨d,hd⟩:∃ d,l[j]?=some d:=⟨_,List.getElem?_eq_getElem hj1⟩
   obtain ⟨b,off,pa,pc,ba,bc,ha,hb,k0,k1,k2,k3,k4,k5,k6,k7,k8,_⟩:=(hD.out.same (dK HG.out (by simp) hB)).2 j d hd
   have ik:bJ l j=d:=by simp [bJ,hd]
   have hbw:b<wr.heap.size:=by have:=HG.out.size;omega
   have HJ:Hid (j+1≤L):=hlt
   have hjp:(j:Int)<(L:Int):=by omega
   subst ha
   have ax:Hid (w.grownBy (wr.alloc (aN d pa pc ba bc)) none):=aB HG.out (bn _)
   have eG:Hid ((wr.alloc (aN d pa pc ba bc)).heap[w.heap.size]?=some (gN L (some ⟨b,off,none⟩) c M)):=(Below.heap_alloc _ _ _ xm).trans HP.out
   have kU:Hid ((wr.alloc (aN d pa pc ba bc)).heap[w.heap.size+1+1]?=some (oG (w.heap.size+1) L)):=(Below.heap_alloc _ _ _ hVl).trans HV.out
   have HT1:Hid (gW w.heap.size (wr.alloc (aN d pa pc ba bc)) (w.heap.size+1) L cs (fun i=>if i<j then eY l ts i else Tk.none)):=HT.out.keep (fun k o e hk=>Below.heap_alloc _ _ _ (lt_of_block hk))
   by_cases h4:d.kind=4
   ·have e4:(d.kind==4)=true:=by simpa using h4
    have EA:Hid ((fun k=>if k=j then reached ts j else if k<j then eY l ts k else Tk.none)=(fun k=>if k<j+1 then eY l ts k else Tk.none)):=by
     unfold Hid
     funext k
     by_cases e:k=j
     ·rw [if_pos e,if_pos (by omega),e,eY,ik,if_pos h4]
     ·rw [if_neg e]
      by_cases e2:k<j
      ·rw [if_pos e2,if_pos (by omega)]
      ·rw [if_neg e2,if_neg (by omega)]
    have HTj:Hid (eY l ts j=reached ts j):=by unfold Hid;rw [eY,ik,if_pos h4]
    have v0:(wr.alloc (aN d pa pc ba bc)).cell? ⟨w.heap.size+1+1,0,none⟩=some (.slice (some ⟨w.heap.size+1,0,none⟩) L L):=by simp [World.cell?,kU.out]
    clear h4 ik hd
    go_wp2_with fail
    refine wp_region_held_drew (S:=fun w'=>w'.cell? ⟨w.heap.size+1+1,0,none⟩=some (.slice (some ⟨w.heap.size+1,0,none⟩) L L)) (by kernel_rfl) v0 (fun hHeld=>?_)
    refine tk 0 (v:=?_) rfl ?_ (by assumption) ?_
    rotate_left
    ·intro w hSw
     (try dsimp only at hSw)
     go_simp
     (try with_reducible rfl)
    (try go_frame)
    refine tk 1 (v:=?_) rfl ?_ (by assumption) ?_
    rotate_left
    ·intro w hSw
     (try dsimp only at hSw)
     go_simp
     (try with_reducible rfl)
    (try go_frame)
    refine tk 2 (v:=?_) rfl ?_ (by assumption) ?_
    rotate_left
    ·intro w hSw
     (try dsimp only at hSw)
     go_simp
     (try with_reducible rfl)
    (try go_frame)
    refine tk 3 (v:=?_) rfl ?_ (by assumption) ?_
    rotate_left
    ·intro w hSw
     (try dsimp only at hSw)
     go_simp
     (try with_reducible rfl)
    (try go_frame)
    refine wpAnyH_ready (rs:=[4]) (by kernel_rfl) (by simp) ?_
    refine AllReadyH.cons (o:=_) rfl (fun K' hK=>?_) AllReadyH.nil
    go_simp
    refine (acC B Tb L j yT ts _ (by
     have h1:=hT.out.keep (w':=(wr.alloc (aN d pa pc ba bc)).drew) (fun k o e hk=>ax.out.block k (lt_of_block hk) (by simp))
     rw [← HL.out] at h1
     exact h1) (by rw [HL.out];exact hTs) hl' hlt (by rw [HL.out];exact Sb)).mono ?_
    rintro e w4 ⟨vs,vr,vc,rfl,yX,q1,q2,q3,w1,w2⟩
    have Ku:Hid (∀ k,k<j+1→(eY l ts k).sends.length≤10000000000000∧(eY l ts k).recvs.length≤10000000000000):=fun k hk=>by
     by_cases e:k=j
     ·rw [e,HTj.out];exact ⟨w1,w2⟩
     ·exact xw.out k (by omega)
    clear w1 w2
    have hg4:(wr.alloc (aN d pa pc ba bc)).grownBy w4 none:=⟨yX.os,yX.tape,yX.output,yX.size,yX.block⟩
    clear yX
    obtain ⟨t,ht⟩:∃ t,t=reached ts j:=⟨_,rfl⟩
    rw [← ht] at q1 q2 q3 EA
    obtain ⟨sa,sc,hsn⟩:=il q1
    obtain ⟨ra,rcc,hrc⟩:=il q2
    obtain ⟨ca,sZ,hcl⟩:=il q3
    subst hsn hrc hcl
    have aX:Hid (w.grownBy w4 none):=aB ax.out hg4
    have kG:gW w.heap.size w4 (w.heap.size+1) L cs (fun i=>if i<j then eY l ts i else Tk.none):=HT1.out.keep (fun k o e hk=>hg4.block k (lt_of_block hk) (by simp))
    have hsz:w.heap.size≤(wr.alloc (aN d pa pc ba bc)).heap.size:=ax.out.size
    have xe:=hid (kG.put hlt (tN q1 hsz) (tN q2 hsz) (tN q3 hsz))
    rw [EA.out] at xe
    obtain ⟨s0,s1,s2,z0,z1,z2,_⟩:=kG.row j hlt
    have t0:w4.cell? ⟨w.heap.size+1,j * 3,none⟩=some s0:=by simp [World.cell?,kG.blk,z0]
    have t1:w4.cell? ⟨w.heap.size+1,j * 3+1,none⟩=some s1:=by simp [World.cell?,kG.blk,z1]
    have t2:w4.cell? ⟨w.heap.size+1,j * 3+2,none⟩=some s2:=by simp [World.cell?,kG.blk,z2]
    have y0:w4.frozen? ⟨w.heap.size+1,j * 3,none⟩=false:=by simp [World.frozen?,kG.blk]
    have y1:w4.frozen? ⟨w.heap.size+1,j * 3+1,none⟩=false:=by simp [World.frozen?,kG.blk]
    have y2:w4.frozen? ⟨w.heap.size+1,j * 3+2,none⟩=false:=by simp [World.frozen?,kG.blk]
    have hg5:w4.grownBy (((w4.setCell ⟨w.heap.size+1,j * 3,none⟩ (.slice sa t.sends.length sc)).setCell ⟨w.heap.size+1,j * 3+1,none⟩ (.slice ra t.recvs.length rcc)).setCell ⟨w.heap.size+1,j * 3+2,none⟩ (.slice ca t.calls.length sZ)) (some (w.heap.size+1)):=aB (gQ _ _ _ _) (aB (gQ _ _ _ _) (gQ _ _ _ _))
    have bY:Hid (w.grownBy (((w4.setCell ⟨w.heap.size+1,j * 3,none⟩ (.slice sa t.sends.length sc)).setCell ⟨w.heap.size+1,j * 3+1,none⟩ (.slice ra t.recvs.length rcc)).setCell ⟨w.heap.size+1,j * 3+2,none⟩ (.slice ca t.calls.length sZ)) none):=qC aX.out hg5 (by omega)
    have sN:w4.heap[w.heap.size]?=some (gN L (some ⟨b,off,none⟩) c M):=(hg4.block _ (lt_of_block eG.out) (by simp)).trans eG.out
    have wP:Hid ((((w4.setCell ⟨w.heap.size+1,j * 3,none⟩ (.slice sa t.sends.length sc)).setCell ⟨w.heap.size+1,j * 3+1,none⟩ (.slice ra t.recvs.length rcc)).setCell ⟨w.heap.size+1,j * 3+2,none⟩ (.slice ca t.calls.length sZ)).heap[w.heap.size]?=some (gN L (some ⟨b,off,none⟩) c M)):=(hg5.block _ (lt_of_block sN) (by simp)).trans sN
    have hv4:w4.heap[w.heap.size+1+1]?=some (oG (w.heap.size+1) L):=(hg4.block _ (lt_of_block kU.out) (by simp)).trans kU.out
    have HV5:Hid ((((w4.setCell ⟨w.heap.size+1,j * 3,none⟩ (.slice sa t.sends.length sc)).setCell ⟨w.heap.size+1,j * 3+1,none⟩ (.slice ra t.recvs.length rcc)).setCell ⟨w.heap.size+1,j * 3+2,none⟩ (.slice ca t.calls.length sZ)).heap[w.heap.size+1+1]?=some (oG (w.heap.size+1) L)):=(hg5.block _ (lt_of_block hv4) (by simp)).trans hv4
    have c4:w4.cell? ⟨w.heap.size+1+1,0,none⟩=some (.slice (some ⟨w.heap.size+1,0,none⟩) L L):=by simp [World.cell?,hv4]
    have c5:=HV5.out
    have c6:=World.cell?_of_block (a:=⟨w.heap.size+1+1,0,none⟩) (c5.trans hv4.symm)
    rw [c4] at c6
    clear q1 q2 q3 hg4 hg5 sN hv4 z0 z1 z2 kG c5 ht
    refine hK.out _ _ c4 (fun hHeld=>?_)
    clear hK
    refine tk 5 (v:=?_) rfl ?_ (by assumption) ?_
    rotate_left
    ·intro w hSw
     (try dsimp only at hSw)
     go_simp
     (try with_reducible rfl)
    (try go_frame)
    refine wpAnyH_ready (rs:=[6]) (by kernel_rfl) (by simp) ?_
    refine AllReadyH.cons (o:=_) rfl (fun K' hK=>?_) AllReadyH.nil
    go_simp
    refine hK.out _ _ c6 (fun hHeld=>?_)
    clear hK
    refine wpAnyH_done (by kernel_rfl) ?_ _
    go_wp2
    go_roundw
    case rel=>exact ⟨j+1,_,by go_num,HJ.out,bY,wP,HV5,xe,Ku⟩
    case measure=>have:=HJ.out;simp [intOf];omega
   ·have e4:(d.kind==4)=false:=by simpa using h4
    have EA:Hid ((fun k=>if k<j then eY l ts k else Tk.none)=(fun k=>if k<j+1 then eY l ts k else Tk.none)):=by
     unfold Hid
     funext k
     by_cases e2:k<j
     ·rw [if_pos e2,if_pos (by omega)]
     ·rw [if_neg e2]
      by_cases e:k=j
      ·rw [if_pos (by omega),e,eY,ik,if_neg h4]
      ·rw [if_neg (by omega)]
    have Ku:Hid (∀ k,k<j+1→(eY l ts k).sends.length≤10000000000000∧(eY l ts k).recvs.length≤10000000000000):=fun k hk=>by
     by_cases e:k=j
     ·rw [e,eY,ik,if_neg h4];exact ⟨Nat.zero_le _,Nat.zero_le _⟩
     ·exact xw.out k (by omega)
    have HT2:Hid (gW w.heap.size (wr.alloc (aN d pa pc ba bc)) (w.heap.size+1) L cs (fun i=>if i<j+1 then eY l ts i else Tk.none)):=by
     have h1:=HT1.out
     rw [EA.out] at h1
     exact h1
    clear h4 ik hd
    go_wp2
    go_roundw
    case rel=>exact ⟨j+1,cs,by go_num,HJ.out,ax,eG,kU,HT2,Ku⟩
    case measure=>have:=HJ.out;simp [intOf];omega
  ·have hjp:¬ (j:Int)<(L:Int):=by omega
   have HT2:Hid (gW w.heap.size wr (w.heap.size+1) L cs (fun i=>if i<L then eY l ts i else Tk.none)):=by
    have h1:=HT.out
    rw [show j=L by omega] at h1
    exact h1
   have SE:Hid (∀ k,k<L→(eY l ts k).sends.length≤10000000000000∧(eY l ts k).recvs.length≤10000000000000):=fun k hk=>xw.out k (by omega)
   have JV:Hid (r=tu [] (gZ l ts ((List.range l.length).drop 0))):=by unfold Hid;rw [List.drop_zero,hr.out];cases gZ l ts (List.range l.length) <;> rfl
   obtain ⟨Wl,hWl⟩:∃ Wl,Wl=wr:=⟨_,rfl⟩
   have HG2:Hid (w.grownBy wr none):=HG
   clear HT xw
   go_wp2
   go_loopw [8,36] (fun v q wi=>∃ (i:Nat) (os:List l6),q=.int .i64 i∧i≤L∧os.length≤i∧Hid (w.grownBy wi none)∧Hid (wi.heap[w.heap.size]?=some (gN L a c M))∧Hid (wi.heap[w.heap.size+1+1]?=some (oG (w.heap.size+1) L))∧Hid (gW w.heap.size wi (w.heap.size+1) L cs (fun i=>if i<L then eY l ts i else Tk.none))∧Hid (wi.ownsRow w.heap.size 37 3 v os.length (ows os))∧Hid (r=tu os (gZ l ts ((List.range l.length).drop i)))) (fun _ q _=>L - (intOf q).toNat)
   case atStart=>exact ⟨0,[],rfl,Nat.zero_le _,Nat.le_refl _,HG2,HP,HV,HT2,World.ownsRow_nil _ _ _ _,JV⟩
   case round =>
    obtain ⟨i,os,rfl,hi,hos,BN,EB,Kv,SF,EC,Kw⟩:=hrel
    obtain ⟨p0,p1,_,_⟩:=bE EB.out
    have SG:=lt_of_block EB.out
    have SH:=lt_of_block Kv.out
    by_cases hlt2:i<L
    ·have hi1:i<l.length:=by rw [← HL.out];exact hlt2
     obtain ⟨d,hd⟩:∃ d,l[i]?=some d:=⟨_,List.getElem?_eq_getElem hi1⟩
     have HDi:Hid (dS B wr l a):=hD.out.same (dK BN.out (by simp) hB)
     obtain ⟨b,off,pa,pc,ba,bc,ha,hb,k0,k1,k2,k3,k4,k5,k6,k7,k8,_⟩:=HDi.out.2 i d hd
     have ik:bJ l i=d:=by simp [bJ,hd]
     have hbw:b<wr.heap.size:=by have:=BN.out.size;omega
     have HJ:Hid (i+1≤L):=hlt2
     have hip:(i:Int)<(L:Int):=by omega
     subst ha
     have hdr:(List.range l.length).drop i=i :: (List.range l.length).drop (i+1):=by rw [List.drop_eq_getElem_cons (by simpa using hi1)];simp
     by_cases h1:d.kind=1
     ·have e1:(d.kind==1)=true:=by simpa using h1
      obtain ⟨_,hdn⟩:=hN.out i d hd
      obtain ⟨oa,oc,rfl⟩:=il EC.out
      obtain ⟨rs,hrs⟩:∃ x,x=Sm.only l (fun t=>decide (i ∈ (eY l ts t).sends)):=⟨_,rfl⟩
      obtain ⟨rc,hrc⟩:∃ x,x=Sm.only l (fun t=>decide (i ∈ (eY l ts t).recvs)):=⟨_,rfl⟩
      have bX:Hid (r=BM rs i fun sn=>BM rc i fun rn=>tu (os++[(d.name,sn,rn)]) (gZ l ts ((List.range l.length).drop (i+1)))):=by
       unfold Hid
       rw [Kw.out,hdr]
       exact acS ik h1 hrs hrc
      obtain ⟨W1,hW1⟩:∃ W1,W1=(wr.alloc (nG i)).alloc (aN d pa pc ba bc):=⟨_,rfl⟩
      have HW1:Hid (W1=_):=hW1
      have hg1:wr.grownBy W1 none:=by rw [hW1];exact bu _ _
      have ax:Hid (w.grownBy W1 none):=aB BN.out hg1
      have eG:Hid (W1.heap[w.heap.size]?=some (gN L (some ⟨b,off,none⟩) c M)):=(hg1.block _ SG (by simp)).trans EB.out
      have kU:Hid (W1.heap[w.heap.size+1+1]?=some (oG (w.heap.size+1) L)):=(hg1.block _ SH (by simp)).trans Kv.out
      have HT1:Hid (gW w.heap.size W1 (w.heap.size+1) L cs (fun i=>if i<L then eY l ts i else Tk.none)):=SF.out.keep (fun k o e hk=>hg1.block _ (lt_of_block hk) (by simp))
      have HI1:Hid (W1.heap[wr.heap.size]?=some (nG i)):=by rw [hW1];exact (Below.heap_alloc _ _ _ (by simp)).trans (heap_alloc_new _ _)
      have bI:Hid (W1.heap[wr.heap.size+1]?=some (aN d pa pc ba bc)):=by
       rw [hW1]
       have:=heap_alloc_new (wr.alloc (nG i)) (aN d pa pc ba bc)
       rw [World.size_alloc] at this
       exact this
      have vF:Hid (W1.ownsRow w.heap.size 37 3 (.slice oa os.length oc) os.length (ows os)):=by rw [hW1];exact (EC.out.alloc (nG i)).alloc (aN d pa pc ba bc)
      have HC:Hid (∀ W',W1.grownBy W' none→W'.cell? ⟨wr.heap.size+1,1,none⟩=some (.string d.name)∧W'.cell? ⟨w.heap.size,0,none⟩=some (.slice (some ⟨b,off,none⟩) L c)∧W'.cell? ⟨w.heap.size,1,none⟩=some (.map (some M))∧W'.cell? ⟨wr.heap.size,0,none⟩=some (.int .i64 (i:Int))):=fun W' hg=>by
       have a1:=(hg.block _ (lt_of_block bI.out) (by simp)).trans bI.out
       have a2:=(hg.block _ (lt_of_block eG.out) (by simp)).trans eG.out
       have a3:=(hg.block _ (lt_of_block HI1.out) (by simp)).trans HI1.out
       refine ⟨?_,?_,?_,?_⟩ <;> simp [World.cell?,a1,a2,a3]
      have SI:Hid (∀ (g:FuncId) (mV:Array Value) (sp:Nat→Bool) (W':World) (rX:Except Int ByteArray),W1.grownBy W' none→(∀ (vs:Array Value) (w:World),(callFunc g vs).run Tryz.prog w=.ok (.enter g vs) w)→(∀ (k:Nat) (w':World),k<L→W'.grownBy w' none→Calls Tryz.prog g (#[.int .i64 (k:Int)]++mV) w' fun e w''=>e=.returned (.bool (sp k))∧w'.grownBy w'' none)→rX=Sm.only l sp →
        Calls Tryz.prog 42 #[.agg #[.slice (some ⟨b,off,none⟩) L c,.map (some M),.int .i64 (i:Int)],.func (.func g) #[] mV] W' fun e w''=>W'.grownBy w'' none∧e=Kt (i:Int) rX):=by
       intro g mV sp W' rX hg hcf hS hrx
       have hgw:=aB ax.out hg
       have h1:=acx B l (some ⟨b,off,none⟩) c M i g mV sp W' (acR rX) (hD.out.same (dK hgw (by simp) hB)) (Nat.le_trans hB hgw.size) hN (by rw [← HL.out];exact hl') hcf (by unfold Hid;rw [← HL.out];exact hS) (by unfold Hid;subst hrx;rfl)
       rw [← HL.out] at h1
       refine h1.mono ?_
       rintro e w2 ⟨h2,h3⟩
       exact ⟨h2,by rw [h3];cases rX <;> rfl⟩
      have HSE:Hid (∀ W',W1.grownBy W' none→Calls Tryz.prog 42 #[.agg #[.slice (some ⟨b,off,none⟩) L c,.map (some M),.int .i64 (i:Int)],.func (.func 43) #[] #[.pointer (some ⟨w.heap.size+1+1,0,none⟩),.pointer (some ⟨wr.heap.size,0,none⟩)]] W' fun e w''=>W'.grownBy w'' none∧e=Kt (i:Int) rs):=fun W' hg =>
       SI.out _ _ (fun t=>decide (i ∈ (eY l ts t).sends)) W' rs hg (fun _ _=>rfl) (fun k w' hk hg'=>by
        have hg2:=aB hg hg'
        have hw:=(SE.out k hk).1
        refine (acu w.heap.size (w.heap.size+1) L (w.heap.size+1+1) wr.heap.size k i cs (fun i=>if i<L then eY l ts i else Tk.none) w' (HT1.out.keep (fun k o e hk=>hg2.block _ (lt_of_block hk) (by simp))) ((hg2.block _ (lt_of_block kU.out) (by simp)).trans kU.out) ((hg2.block _ (lt_of_block HI1.out) (by simp)).trans HI1.out) hk (by unfold Hid;rw [if_pos hk];omega)).mono ?_
        rintro e w'' ⟨rfl,h⟩
        exact ⟨by rw [if_pos hk],h⟩) hrs
      have HRC:Hid (∀ W',W1.grownBy W' none→Calls Tryz.prog 42 #[.agg #[.slice (some ⟨b,off,none⟩) L c,.map (some M),.int .i64 (i:Int)],.func (.func 45) #[] #[.pointer (some ⟨w.heap.size+1+1,0,none⟩),.pointer (some ⟨wr.heap.size,0,none⟩)]] W' fun e w''=>W'.grownBy w'' none∧e=Kt (i:Int) rc):=fun W' hg =>
       SI.out _ _ (fun t=>decide (i ∈ (eY l ts t).recvs)) W' rc hg (fun _ _=>rfl) (fun k w' hk hg'=>by
        have hg2:=aB hg hg'
        have hw:=(SE.out k hk).2
        refine (acv w.heap.size (w.heap.size+1) L (w.heap.size+1+1) wr.heap.size k i cs (fun i=>if i<L then eY l ts i else Tk.none) w' (HT1.out.keep (fun k o e hk=>hg2.block _ (lt_of_block hk) (by simp))) ((hg2.block _ (lt_of_block kU.out) (by simp)).trans kU.out) ((hg2.block _ (lt_of_block HI1.out) (by simp)).trans HI1.out) hk (by unfold Hid;rw [if_pos hk];omega)).mono ?_
        rintro e w'' ⟨rfl,h⟩
        exact ⟨by rw [if_pos hk],h⟩) hrc
      have ac0:d.name.size≤281474976710656:=by omega
      have sV:Hid (os.length+1≤i+1∧os.length≤1000000):=⟨by omega,by omega⟩
      clear h1 hd ik hdr hdn hg1 hrs hrc hW1
      go_wp2_with fail
      rw [← HW1.out]
      refine wp_region_held_drew (S:=fun w'=>w'.cell? ⟨wr.heap.size+1,1,none⟩=some (.string d.name)∧w'.cell? ⟨w.heap.size,0,none⟩=some (.slice (some ⟨b,off,none⟩) L c)∧w'.cell? ⟨w.heap.size,1,none⟩=some (.map (some M))∧w'.cell? ⟨wr.heap.size,0,none⟩=some (.int .i64 (i:Int))) (by kernel_rfl) (HC.out _ ⟨rfl,rfl,rfl,Nat.le_refl _,fun _ _ _=>rfl⟩) (fun hHeld=>?_)
      refine tk 0 (v:=?_) rfl ?_ (by assumption) ?_
      rotate_left
      ·intro w hSw
       (try dsimp only at hSw)
       go_simp
       (try with_reducible rfl)
      (try go_frame)
      refine tk 1 (v:=?_) rfl ?_ (by assumption) ?_
      rotate_left
      ·intro w hSw
       (try dsimp only at hSw)
       go_simp
       (try with_reducible rfl)
      (try go_frame)
      refine tk 2 (v:=?_) rfl ?_ (by assumption) ?_
      rotate_left
      ·intro w hSw
       (try dsimp only at hSw)
       go_simp
       (try with_reducible rfl)
      (try go_frame)
      refine tk 4 (v:=?_) rfl ?_ (by assumption) ?_
      rotate_left
      ·intro w hSw
       (try dsimp only at hSw)
       go_simp
       (try with_reducible rfl)
      (try go_frame)
      refine tk 5 (v:=?_) rfl ?_ (by assumption) ?_
      rotate_left
      ·intro w hSw
       (try dsimp only at hSw)
       go_simp
       (try with_reducible rfl)
      (try go_frame)
      refine tk 6 (v:=?_) rfl ?_ (by assumption) ?_
      rotate_left
      ·intro w hSw
       (try dsimp only at hSw)
       go_simp
       (try with_reducible rfl)
      (try go_frame)
      refine tk 7 (v:=?_) rfl ?_ (by assumption) ?_
      rotate_left
      ·intro w hSw
       (try dsimp only at hSw)
       go_simp
       (try with_reducible rfl)
      (try go_frame)
      refine tk 9 (v:=?_) rfl ?_ (by assumption) ?_
      rotate_left
      ·intro w hSw
       (try dsimp only at hSw)
       go_simp
       (try with_reducible rfl)
      (try go_frame)
      refine tk 10 (v:=?_) rfl ?_ (by assumption) ?_
      rotate_left
      ·intro w hSw
       (try dsimp only at hSw)
       go_simp
       (try with_reducible rfl)
      (try go_frame)
      refine tk 11 (v:=?_) rfl ?_ (by assumption) ?_
      rotate_left
      ·intro w hSw
       (try dsimp only at hSw)
       go_simp
       (try with_reducible rfl)
      (try go_frame)
      refine tk 12 (v:=?_) rfl ?_ (by assumption) ?_
      rotate_left
      ·intro w hSw
       (try dsimp only at hSw)
       go_simp
       (try with_reducible rfl)
      (try go_frame)
      refine wpAnyH_ready (rs:=[3]) (by kernel_rfl) (by simp) ?_
      refine AllReadyH.cons (o:=_) rfl (fun K' hK=>?_) AllReadyH.nil
      go_simp
      refine (Si d.name _ ac0).mono ?_
      rintro e w2 ⟨rfl,yY⟩
      have HG2:Hid (W1.grownBy w2 none):=⟨yY.os,yY.tape,yY.output,yY.size,yY.block⟩
      clear yY
      refine hK.out _ _ (HC.out _ HG2.out) (fun hHeld=>?_)
      clear hK
      refine wpAnyH_ready (rs:=[8]) (by kernel_rfl) (by simp) ?_
      refine AllReadyH.cons (o:=_) rfl (fun K' hK=>?_) AllReadyH.nil
      go_simp
      refine (HSE.out _ HG2.out).mono ?_
      rintro e w3 ⟨hg3,fG⟩
      have aK:Hid (W1.grownBy w3 none):=aB HG2.out hg3
      clear hg3
      cases rs with
      | error er =>
       subst fG
       have dL:Hid (Oo r w (.panicked [aH er (i:Int)]) w3):=by rw [bX.out];exact ⟨aB ax.out aK.out,rfl⟩
       exact ⟨rfl,dL.out⟩
      | ok sn =>
       subst fG
       refine hK.out _ _ (HC.out _ aK.out) (fun hHeld=>?_)
       clear hK
       refine wpAnyH_ready (rs:=[13]) (by kernel_rfl) (by simp) ?_
       refine AllReadyH.cons (o:=_) rfl (fun K' hK=>?_) AllReadyH.nil
       go_simp
       refine (HRC.out _ aK.out).mono ?_
       rintro e w4 ⟨hg4,jr⟩
       have aX:Hid (W1.grownBy w4 none):=aB aK.out hg4
       clear hg4
       cases rc with
       | error er =>
        subst jr
        have dL:Hid (Oo r w (.panicked [aH er (i:Int)]) w4):=by rw [bX.out];exact ⟨aB ax.out aX.out,rfl⟩
        exact ⟨rfl,dL.out⟩
       | ok rn =>
        subst jr
        refine hK.out _ _ (HC.out _ aX.out) (fun hHeld=>?_)
        clear hK
        refine tk 14 (v:=?_) rfl ?_ (by assumption) ?_
        rotate_left
        ·intro w hSw
         (try dsimp only at hSw)
         go_simp
         (try with_reducible rfl)
        (try go_frame)
        refine wpAnyH_ready (rs:=[15]) (by kernel_rfl) (by simp) ?_
        refine AllReadyH.cons (o:=_) rfl (fun K' hK=>?_) AllReadyH.nil
        go_simp
        obtain ⟨N4,wJ⟩:∃ N,N=w4.heap.size:=⟨_,rfl⟩
        obtain ⟨W5,ED⟩:∃ W5,W5=w4.alloc (.cells #[.string d.name,.string sn,.string rn] 37):=⟨_,rfl⟩
        have bY:Hid (W1.grownBy W5 none):=by rw [ED];exact aB aX.out (bn _)
        have GI:Hid (∀ (j:Nat) u',(yV (d.name,sn,rn))[j]?=some u'→W5.cell? ((⟨N4,0,none⟩:Addr).add j)=some u'):=by
         rw [ED,wJ]
         exact acM w4 _ _ _ _
        have Ky:Hid (W5.ownsRow w.heap.size 37 3 (.slice oa os.length oc) os.length (ows os)):=fF vF.out (fun k hk=>bY.out.block k (bq vF.out k hk).2.1 (by simp))
        have mZ:Hid (w.heap.size≤W5.heap.size):=Nat.le_trans ax.out.size bY.out.size
        have jN:Hid (r=tu (os++[(d.name,sn,rn)]) (gZ l ts ((List.range l.length).drop (i+1)))):=bX.out
        rw [← wJ,← ED]
        clear wJ ED bX
        refine hK.out _ _ (HC.out _ bY.out) (fun hHeld=>?_)
        clear hK
        refine wpAnyH_ready (rs:=[16]) (by kernel_rfl) (by simp) ?_
        refine AllReadyH.cons (o:=_) rfl (fun K' hK=>?_) AllReadyH.nil
        refine acO rfl (.tmp 44) (.tmp 59) rfl w.heap.size (.slice oa os.length oc) os (d.name,sn,rn) (by kernel_rfl) Ky.out ⟨N4,0,none⟩ (by kernel_rfl) GI.out sV.out.2 mZ.out ?_
        intro v6 w6 hown6 dz
        have hb6:∀ (b:Nat) (cs:Array Value) (t:TypeId),W1.heap[b]?=some (.cells cs t (0,0))→t≠37→w6.heap[b]?=W1.heap[b]?:=fun b cs t hb hne=>by
         have h5:W5.heap[b]?=some (.cells cs t (0,0)):=(bY.out.block b (lt_of_block hb) (by simp)).trans hb
         refine (dz.block b (lt_of_block h5) (fun e=>?_)).trans (h5.trans hb.symm)
         obtain ⟨_,_,cur,hc⟩:=bq Ky.out b e.symm
         rw [h5] at hc
         cases hc
         exact hne rfl
        have iH:Hid (w.grownBy w6 none):=acQ (aB ax.out bY.out) dz (fun k hk=>(bq Ky.out k hk).1)
        have SK:Hid (w6.heap[w.heap.size]?=some (gN L (some ⟨b,off,none⟩) c M)):=(hb6 _ _ _ eG.out (by decide)).trans eG.out
        have Aw:Hid (w6.heap[w.heap.size+1+1]?=some (oG (w.heap.size+1) L)):=(hb6 _ _ _ kU.out (by decide)).trans kU.out
        have Jz:Hid (gW w.heap.size w6 (w.heap.size+1) L cs (fun i=>if i<L then eY l ts i else Tk.none)):=HT1.out.acP (fun k o e hk hne=>hb6 k o e hk hne)
        have HO6:Hid (w6.ownsRow w.heap.size 37 3 v6 (os++[(d.name,sn,rn)]).length (ows (os++[(d.name,sn,rn)]))):=hown6
        have SL:=(hb6 _ _ _ bI.out (by decide)).trans bI.out
        have SN:=(hb6 _ _ _ HI1.out (by decide)).trans HI1.out
        have Kz:=SK.out
        refine hK.out _ _ ⟨by simp [World.cell?,SL],by simp [World.cell?,Kz],by simp [World.cell?,Kz],by simp [World.cell?,SN]⟩ (fun hHeld=>?_)
        clear hK hown6 dz hb6 SL SN Kz
        refine tk 17 (v:=?_) rfl ?_ (by assumption) ?_
        rotate_left
        ·intro w hSw
         (try dsimp only at hSw)
         go_simp
         (try with_reducible rfl)
        (try go_frame)
        refine wpAnyH_done (by kernel_rfl) ?_ _
        go_wp2
        go_roundw
        case rel=>exact ⟨i+1,os++[(d.name,sn,rn)],by go_num,HJ.out,by have:=sV.out.1;simp;omega,iH,SK,Aw,Jz,HO6,jN⟩
        case measure=>have:=HJ.out;simp [intOf];omega
     ·have e1:(d.kind==1)=false:=by simpa using h1
      have iM:Hid (r=tu os (gZ l ts ((List.range l.length).drop (i+1)))):=by
       unfold Hid
       rw [Kw.out,hdr,gZ,ik,if_neg h1]
      have HGn:Hid (w.grownBy ((wr.alloc (nG i)).alloc (aN d pa pc ba bc)) none):=aB BN.out (bu _ _)
      have HPn:Hid (((wr.alloc (nG i)).alloc (aN d pa pc ba bc)).heap[w.heap.size]?=some (gN L (some ⟨b,off,none⟩) c M)):=((bu (w:=wr) (nG i) (aN d pa pc ba bc)).block _ SG (by simp)).trans EB.out
      have HVn:Hid (((wr.alloc (nG i)).alloc (aN d pa pc ba bc)).heap[w.heap.size+1+1]?=some (oG (w.heap.size+1) L)):=((bu (w:=wr) (nG i) (aN d pa pc ba bc)).block _ SH (by simp)).trans Kv.out
      have uV:Hid (gW w.heap.size ((wr.alloc (nG i)).alloc (aN d pa pc ba bc)) (w.heap.size+1) L cs (fun i=>if i<L then eY l ts i else Tk.none)):=SF.out.keep (fun k o e hk=>(bu (w:=wr) (nG i) (aN d pa pc ba bc)).block _ (lt_of_block hk) (by simp))
      have HOn:=hid ((EC.out.alloc (nG i)).alloc (aN d pa pc ba bc))
      clear h1 ik hd hdr
      go_wp2
      go_roundw
      case rel=>exact ⟨i+1,os,by go_num,HJ.out,by omega,HGn,HPn,HVn,uV,HOn,iM⟩
      case measure=>have:=HJ.out;simp [intOf];omega
    ·have hip:¬ (i:Int)<(L:Int):=by omega
     have bX:Hid (r=.ok os):=by
      have h1:=Kw.out
      have h2:=HL.out
      rw [List.drop_of_length_le (by simp;omega)] at h1
      unfold Hid
      rw [h1]
      simp [gZ,tu]
     go_wp2
     go_ret
     exact ⟨BN.out,by rw [bX.out];exact ⟨_,rfl,EC.out⟩⟩
end Sm
end Go.Proofs.YtolfleeidpeomaaGreatDoor

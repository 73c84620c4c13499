/- Plainly: what is known of a program whose form and heads are right;WHAT Owners ANSWERS. -/
import Derived.Test.YtolfleeidpeomaaGreatDoorM38
import Derived.Test.YtolfleeidpeomaaGreatDoorM9
import Derived.Test.YtolfleeidpeomaaGreatDoorM28
import Derived.Deep.Cut
set_option maxRecDepth 100000
set_option maxHeartbeats 2000000
namespace Go.Proofs.YtolfleeidpeomaaGreatDoor
open Go.RowKit
namespace Sm
open Sy
theorem ac6 {s:ByteArray}(h:nm s=true):s≠⟨#[]⟩∧s.size≤12:=by
 have h':Lx.named s.toList=true:=h
 refine ⟨?_,?_⟩
 ·rintro rfl
  rw [zi (.inl rfl)] at h'
  cases h'
 ·by_cases hb:12<s.size
  ·rw [zi (.inr hb)] at h'
   cases h'
  ·omega
theorem EE {d:Df}{n:Nat}(h:fw d n=0):bB d.kind 4 40 n=0:=by
 by_cases h1:bB d.kind 4 40 n=0
 ·exact h1
 ·unfold fw at h
  rw [if_pos h1] at h
  exact h
theorem SQ {d:Df}{n:Nat}(h:fw d n=0):nm d.name=true∧(d.kind=2∨d.kind=3→d.params.length≤6):=by
 have h1:=EE h
 unfold fw at h
 rw [if_neg (by simpa using h1)] at h
 cases hn:nm d.name with
 | false=>rw [if_pos hn] at h;cases h
 | true =>
  rw [if_neg (by rw [hn];decide)] at h
  refine ⟨rfl,fun hk=>?_⟩
  by_cases h6:6<d.params.length
  ·rw [if_pos ⟨hk,h6⟩] at h;cases h
  ·omega
theorem SS:∀ (l:List Df) (i n:Nat),n≤2000→(iB l i n).1=0→∀ (k:Nat) (d:Df),l[k]?=some d→∃ j,j+1≤2000∧fw d j=0∧(d.kind≠1→∃ m,cO (aO 39) d.body (j+1)=.ok m)
 | [],_,_,_,_,k,d,h=>by simp at h
 | d :: l,i,n,hn,h,k,d',hd=>by
  unfold iB at h
  cases hw:dX d n with
  | error e=>rw [hw] at h;exact absurd h (zz hw)
  | ok m =>
   rw [hw] at h
   unfold dX at hw
   by_cases h0:fw d n=0
   ·rw [if_neg (by simpa using h0)] at hw
    have hj:=(iC (EE h0)).1
    have hm:m≤2000∧(d.kind≠1→cO (aO 39) d.body (n+1)=.ok m):=by
     by_cases h1:d.kind=1
     ·rw [if_pos h1] at hw;cases hw;exact ⟨hj,fun h=>absurd h1 h⟩
     ·rw [if_neg h1] at hw;exact ⟨o8 (nJ 39) hj hw,fun _=>hw⟩
    cases k with
    | zero=>simp at hd;subst hd;exact ⟨n,hj,h0,fun h1=>⟨m,hm.2 h1⟩⟩
    | succ k=>exact SS l (i+1) m hm.1 h k d' (by simpa using hd)
   ·rw [if_pos h0] at hw;cases hw
theorem EF {l:List Df}(hw:(dx l).1=0):l.length≤30∧∀ (k:Nat) (d:Df),l[k]?=some d→∃ j,j+1≤2000∧fw d j=0∧(d.kind≠1→∃ m,cO (aO 39) d.body (j+1)=.ok m):=by
 unfold dx at hw
 by_cases h:30<l.length
 ·rw [if_pos h] at hw;cases hw
 ·rw [if_neg h] at hw;exact ⟨by omega,SS l 0 0 (by omega) hw⟩
theorem ac7 {l:List Df}(hw:(dx l).1=0)(k:Nat)(d:Df)(h:l[k]?=some d):d.name≠⟨#[]⟩∧d.name.size≤12:=by
 obtain ⟨j,_,h0,_⟩:=(EF hw).2 k d h
 exact ac6 (SQ h0).1
theorem ac8 {l:List Df}(hw:(dx l).1=0){u:List Unit}(hh:each (head l) l 0=.ok u):Fit l:=by
 have hf:=(EF hw).2
 refine ⟨fun i d hd=>?_,fun i d hd=>?_,fun i d hd h1=>?_⟩
 ·obtain ⟨x,_,e⟩:=(Kr hh).2 i d hd
  exact e
 ·obtain ⟨j,_,h0,_⟩:=hf i d hd
  exact ⟨(iC (EE h0)).2.1,(iC (EE h0)).2.2.1⟩
 ·obtain ⟨j,hj,h0,hb⟩:=hf i d hd
  obtain ⟨m,hm⟩:=hb h1
  exact ⟨(SQ h0).2,j+1,m,hj,hm⟩
def kr (l:List Df):Except (Int × Nat) (List l6):=match prog l with
 | some e=>.error e
 | none=>match each (head l) l 0 with
  | .error e=>.error e
  | .ok _=>match each (aV l) l 0 with
   | .error e=>.error e
   | .ok aG=>gZ l aG (List.range l.length)
theorem KA (l:List Df):qj l=if (dx l).1≠0 then .error (dx l) else kr l:=rfl
end Sm
namespace Sm
theorem BO (w:World):w.grownBy w.drew none:=⟨rfl,rfl,rfl,Nat.le_refl _,fun _ _ _=>rfl⟩
theorem iO {a b:World}{O:Nat}(h:a.grownBy b none):a.grownBy b (some O):=⟨h.os,h.tape,h.output,h.size,fun k hk _=>h.block k hk (by simp)⟩
def Oc (l:List Sy.Df)(O:Nat)(w:World)(e:Ending)(w':World):Prop:=match kr l with
 | .error x=>e=.panicked [aH x.1 (x.2:Int)]∧w.grownBy w' none
 | .ok os=>e=.returned (.tuple #[])∧w.grownBy w' (some O)∧∃ v,w'.heap[O]?=some (.cells #[v] 33 (0,0))∧w'.ownsRow w.heap.size 37 3 v os.length (ows os)
theorem ac9 (B:Nat)(l:List Sy.Df)(a:Option Addr)(c P O:Nat)(w:World)(hD:Hid (dS B w l a))(hB:B≤w.heap.size)(hG:Hid (Gl B w))(hw:Hid ((Sy.dx l).1=0))(hP:Hid (w.heap[P]?=some (.cells #[.slice a l.length c] 22 (0,0))))(hO:Hid (w.heap[O]?=some (.cells #[.slice none 0 0] 33 (0,0)))) :
  Calls Tryz.prog 18 #[.pointer (some ⟨P,0,none⟩),.pointer (some ⟨O,0,none⟩)] w fun e w'=>Oc l O w e w':=by
 have hPc:w.cell? ⟨P,0,none⟩=some (.slice a l.length c):=by simp [World.cell?,hP.out]
 have hl:=(EF hw.out).1
 obtain ⟨rp,oD⟩:∃ r,r=prog l:=⟨_,rfl⟩
 have nE:Hid (rp=prog l):=oD
 clear oD
 go_enter Tryz.func18,Tryz.ntmps18
 go_wp2_with fail
 refine (acd B l a c w rp hD hB nE).mono ?_
 rintro e w1 ⟨hg1,h1⟩
 have ax:Hid (w.grownBy w1 none):=hg1
 cases rp with
 | some x =>
  subst h1
  have HE:Hid (Oc l O w (.panicked [aH x.1 (x.2:Int)]) w1):=by unfold Hid Oc kr;rw [← nE.out];exact ⟨rfl,hg1⟩
  clear hg1
  go_wp2
  exact ⟨rfl,HE.out⟩
 | none =>
  obtain ⟨rfl,hIn,hnd⟩:=h1
  obtain ⟨M,hM⟩:∃ M,M=w.heap.size+1:=⟨_,rfl⟩
  rw [← hM] at hIn ⊢
  have HM:Hid (M=w.heap.size+1):=hM
  have gJ:Hid (Ms.In w1 M (jv l l.length)):=hIn
  have HR:Hid (∀ s,Ms.val (jv l l.length) s=(numOf l s).map (fun i=>.int .i64 (i:Int))):=aca hnd
  have HD1:Hid (dS B w1 l a):=hD.out.same (dK hg1 (by simp) hB)
  obtain ⟨rh,SV⟩:∃ r,r=each (head l) l 0:=⟨_,rfl⟩
  have yZ:Hid (rh=each (head l) l 0):=SV
  have eG:Hid ((w1.alloc (gN l.length a c M)).heap[w1.heap.size]?=some (gN l.length a c M)):=heap_alloc_new _ _
  have ma:Hid (w.grownBy (w1.alloc (gN l.length a c M)) none):=aB hg1 (bn _)
  obtain ⟨p0,p1,_,_⟩:=bE eG.out
  clear hg1 hIn hnd hM SV
  go_wp2_with fail
  refine (ab8 B l a c M (jv l l.length) _ (ev rh) (hD.out.same (dK ma.out (by simp) hB)) (Nat.le_trans hB ma.out.size) (gJ.out.grow (bn _)) HR (by unfold Hid;rw [yZ.out])).mono ?_
  rintro e w2 ⟨hg2,he2⟩
  have HG2:Hid (w.grownBy w2 none):=aB ma.out hg2
  have fJ:Hid (w2.heap[w1.heap.size]?=some (gN l.length a c M)):=(hg2.block _ (lt_of_block eG.out) (by simp)).trans eG.out
  have HI2:Hid (Ms.In w2 M (jv l l.length)):=(gJ.out.grow (bn _)).grow hg2
  clear hg2 p0 p1
  cases rh with
  | error x =>
   have HE:Hid (Oc l O w (.panicked [aH x.1 (x.2:Int)]) w2):=by unfold Hid Oc kr;rw [← nE.out];dsimp only;rw [← yZ.out];exact ⟨rfl,HG2.out⟩
   have fG:e=.panicked [aH x.1 (x.2:Int)]:=he2
   clear he2
   subst fG
   go_wp2
   exact ⟨rfl,HE.out⟩
  | ok u =>
   have fG:e=.returned (.tuple #[]):=he2
   clear he2
   subst fG
   have HF:Hid (Fit l):=ac8 hw.out yZ.out.symm
   obtain ⟨rb,hrb⟩:∃ r,r=each (aV l) l 0:=⟨_,rfl⟩
   have BP:Hid (rb=each (aV l) l 0):=hrb
   obtain ⟨p0,p1,_,_⟩:=bE fJ.out
   clear hrb
   go_wp2_with fail
   refine wp_region_held_drew (S:=fun w'=>w'.cell? ⟨w1.heap.size,0,none⟩=some (.slice a l.length c)∧w'.cell? ⟨w1.heap.size,1,none⟩=some (.map (some M))) (by kernel_rfl) ⟨p0,p1⟩ (fun hHeld=>?_)
   refine tk 0 (v:=?_) rfl ?_ (by assumption) ?_
   rotate_left
   ·intro w hSw
    (try dsimp only at hSw)
    go_simp
    (try with_reducible rfl)
   (try go_frame)
   refine tk 1 (v:=?_) rfl ?_ (by assumption) ?_
   rotate_left
   ·intro w hSw
    (try dsimp only at hSw)
    go_simp
    (try with_reducible rfl)
   (try go_frame)
   refine wpAnyH_ready (rs:=[2]) (by kernel_rfl) (by simp) ?_
   refine AllReadyH.cons (o:=_) rfl (fun K' hK=>?_) AllReadyH.nil
   go_simp
   refine (aco B l a c M (jv l l.length) _ rb (hD.out.same (dK (aB HG2.out (BO _)) (by simp) hB)) (Nat.le_trans hB (aB HG2.out (BO _)).size) (HI2.out.grow (BO _)) (by have:=HM.out;omega) HR (xq hG.out (dK (aB HG2.out (BO _)) (by simp) hB)) HF (by omega) BP).mono ?_
   rintro e w3 ⟨hg3',fG⟩
   have hg3:w2.grownBy w3 none:=aB (BO w2) hg3'
   have aK:Hid (w.grownBy w3 none):=aB HG2.out hg3
   have hP3:=(hg3.block _ (lt_of_block fJ.out) (by simp)).trans fJ.out
   clear hg3'
   cases rb with
   | error x =>
    have HE:Hid (Oc l O w (.panicked [aH x.1 (x.2:Int)]) w3):=by unfold Hid Oc kr;rw [← nE.out];dsimp only;rw [← yZ.out];dsimp only;rw [← BP.out];exact ⟨rfl,aK.out⟩
    have jr:e=.panicked [aH x.1 (x.2:Int)]:=fG
    clear fG
    subst jr
    exact ⟨rfl,HE.out⟩
   | ok ts =>
    obtain ⟨Tb,cs,rfl,BJ,SX⟩:=fG
    have Dc:Hid (gW B w3 Tb l.length cs (fun i=>bO ts i)):=SX
    obtain ⟨hts,htl⟩:=acK HF.out BP.out.symm
    have HTs:Hid (ts.length=l.length):=hts
    have yU:Hid (∀ n,n<l.length→Tl l.length (bO ts n)):=htl
    obtain ⟨ro,hro⟩:∃ r,r=gZ l ts (List.range l.length):=⟨_,rfl⟩
    have KC:Hid (ro=gZ l ts (List.range l.length)):=hro
    clear SX hts htl hro
    refine hK.out _ _ ⟨by simp [World.cell?,hP3],by simp [World.cell?,hP3]⟩ (fun hHeld=>?_)
    clear hK
    refine wpAnyH_ready (rs:=[3]) (by kernel_rfl) (by simp) ?_
    refine AllReadyH.cons (o:=_) rfl (fun K' hK=>?_) AllReadyH.nil
    go_simp
    refine (acT B l a c M Tb cs ts w3 ro (hD.out.same (dK aK.out (by simp) hB)) (Nat.le_trans hB aK.out.size) Dc HTs yU (fun k d h=>ac7 hw.out k d h) (by omega) KC).mono ?_
    rintro e w4 ⟨hg4,jr⟩
    have aX:Hid (w.grownBy w4 none):=aB aK.out hg4
    cases ro with
    | error x =>
     have HE:Hid (Oc l O w (.panicked [aH x.1 (x.2:Int)]) w4):=by unfold Hid Oc kr;rw [← nE.out];dsimp only;rw [← yZ.out];dsimp only;rw [← BP.out];dsimp only;rw [← KC.out];exact ⟨rfl,aX.out⟩
     have Es:e=.panicked [aH x.1 (x.2:Int)]:=jr
     clear jr
     subst Es
     exact ⟨rfl,HE.out⟩
    | ok os =>
     obtain ⟨v,rfl,hown⟩:=jr
     have vO:=(hg4.block _ (lt_of_block hP3) (by simp)).trans hP3
     have hO4:=(aX.out.block _ (lt_of_block hO.out) (by simp)).trans hO.out
     obtain ⟨oa,oc,rfl⟩:=il hown
     have BQ:Hid (w4.ownsRow w.heap.size 37 3 (.slice oa os.length oc) os.length (ows os)):=tN hown aK.out.size
     have c0:w4.cell? ⟨O,0,none⟩=some (.slice none 0 0):=by simp [World.cell?,hO4]
     have y0:w4.frozen? ⟨O,0,none⟩=false:=by simp [World.frozen?,hO4]
     have HOB:Hid (w4.heap[O]?=some (.cells #[.slice none 0 0] 33 (0,0))):=hO4
     have hs4:w4.cell? ⟨w1.heap.size,0,none⟩=some (.slice a l.length c)∧w4.cell? ⟨w1.heap.size,1,none⟩=some (.map (some M)):=⟨by simp [World.cell?,vO],by simp [World.cell?,vO]⟩
     clear hown vO hO4 hP3 hg4 hg3
     refine hK.out _ _ hs4 (fun hHeld=>?_)
     clear hK
     have KD:=lt_of_block hO.out
     have hne:w1.heap.size≠O:=by have:=ax.out.size;omega
     have hk5:=Below.heap_setCell w4 ⟨O,0,none⟩ (.slice oa os.length oc) w1.heap.size hne
     have hs5:(w4.setCell ⟨O,0,none⟩ (.slice oa os.length oc)).cell? ⟨w1.heap.size,0,none⟩=some (.slice a l.length c)∧(w4.setCell ⟨O,0,none⟩ (.slice oa os.length oc)).cell? ⟨w1.heap.size,1,none⟩=some (.map (some M)):=⟨(World.cell?_of_block (a:=⟨w1.heap.size,0,none⟩) hk5).trans hs4.1,(World.cell?_of_block (a:=⟨w1.heap.size,1,none⟩) hk5).trans hs4.2⟩
     have HE:Hid (Oc l O w (.returned (.tuple #[])) (w4.setCell ⟨O,0,none⟩ (.slice oa os.length oc))):=by
      unfold Hid Oc kr
      rw [← nE.out];dsimp only;rw [← yZ.out];dsimp only;rw [← BP.out];dsimp only;rw [← KC.out]
      refine ⟨rfl,aB (iO aX.out) (gQ _ _ _ _),_,?_,fF BQ.out (fun k hk=>Below.heap_setCell w4 ⟨O,0,none⟩ _ k ?_)⟩
      ·simp only [World.setCell,Array.getElem?_modify,if_true,HOB.out,Option.map_some]
       rfl
      ·have:=(bq BQ.out k hk).1
       show k≠O
       omega
     clear hne hk5 KD
     refine wpAnyH_ready (rs:=[4]) (by kernel_rfl) (by simp) ?_
     refine AllReadyH.cons (o:=_) rfl (fun K' hK=>?_) AllReadyH.nil
     go_simp
     refine hK.out _ _ hs5 (fun hHeld=>?_)
     clear hK hs5 hs4
     refine wpAnyH_done (by kernel_rfl) ?_ _
     go_wp2
     go_end0
     exact HE.out
end Sm
namespace Sm
open Sy
def Ne {α:Type}(r:Except Int α):Prop:=∀ e,r=.error e→e≠0
theorem Ne.ok {α:Type}(x:α):Ne (.ok x:Except Int α):=fun e h=>by cases h
theorem Ne.err {α:Type}{n:Int}(h:n≠0):Ne (.error n:Except Int α):=fun e he=>by cases he;exact h
theorem Ne.next {α β:Type}{r:Except Int α}{f:α→Except Int β}(h:Ne r)(k:∀ x,Ne (f x)):Ne (andThen r f):=by
 cases r with
 | error e=>exact fun e' he=>h e' (by cases he;rfl)
 | ok x=>exact k x
theorem Ne.ite {α:Type}{p:Prop}[Decidable p]{a b:Except Int α}(h:Ne a)(k:Ne b):Ne (if p then a else b):=by split <;> assumption
theorem BR (l:List Df)(k:Int)(s:ByteArray):Ne (want l k s):=by
 unfold want
 split
 ·exact .err (by decide)
 ·exact .ite (.ok _) (.err (by decide))
theorem SY (v:Vars)(s:ByteArray):Ne (known v s):=by
 unfold known
 split
 ·exact .err (by decide)
 ·exact .ok _
theorem KE (b:Bool):Ne (fits b):=.ite (.ok _) (.err (by decide))
theorem y9 (t:Ty):Ne (plain t):=.ite (.err (by decide)) (.ok _)
def za (ex:Ex→Tk→Except Int (Ty × Tk)):Prop:=∀ x t,Ne (ex x t)
theorem o7 {ex:Ex→Tk→Except Int (Ty × Tk)}(h:za ex)(y:Ty):∀ (ks:List Ex) (t:Tk),Ne (must ex y ks t)
 | [],_=>.ok _
 | x :: ks,t=>.next (h x t) fun p=>.ite (o7 h y ks p.2) (.err (by decide))
theorem S9 {ex:Ex→Tk→Except Int (Ty × Tk)}(h:za ex):∀ (ps:List Pm) (ks:List Ex) (t:Tk),Ne (args ex ps ks t)
 | [],_,_=>.ok _
 | _ :: ps,_,_=>.next (o7 h _ _ _) fun t=>S9 h ps _ t
theorem Ta {l:List Df}{ex:Ex→Tk→Except Int (Ty × Tk)}(h:za ex)(k:Int)(x:Ex)(t:Tk):Ne (call l ex k x t) :=
 .next (BR _ _ _) fun _=>.ite (.err (by decide)) (.next (S9 h _ _ _) fun _=>.ok _)
theorem Tc {l:List Df}{ex:Ex→Tk→Except Int (Ty × Tk)}(h:za ex)(x:Ex)(t:Tk):Ne (started l ex x t) :=
 .next (h x t) fun _=>.ite (.err (by decide)) (.next (BR _ _ _) fun _=>.ok _)
theorem ade {l:List Df}{me:Df}{ex:Ex→Tk→Except Int (Ty × Tk)}(h:za ex)(x:Ex)(t:Tk):Ne (spoken l me ex x t) :=
 .ite (.next (Ta h _ _ _) fun _=>.ok _) (.ite (.next (Ta h _ _ _) fun _=>.ok _) (.ite (.next (BR _ _ _) fun _=>.ok _)
  (.ite (.next (KE _) fun _=>.next (o7 h _ _ _) fun _=>.ok _) (.next (Tc h _ _) fun _=>.next (o7 h _ _ _) fun _=>.ok _))))
theorem Td (l:List Df)(me:Df)(v:Vars):∀ d,za (expr l me v d)
 | 0=>fun x t=>.err (by decide)
 | d+1=>fun x t=>by
  have h:=Td l me v d
  rw [expr]
  exact .ite (.ok _) (.ite (.ok _) (.ite (.next (SY _ _) fun _=>.ok _) (.ite (.next (o7 h _ _ _) fun _=>.ok _) (.ite (.next (o7 h _ _ _) fun _=>.ok _) (.ite (.next (o7 h _ _ _) fun _=>.ok _)
   (.ite (.next (h _ _) fun _=>.next (h _ _) fun _=>.next (y9 _) fun _=>.ite (.ok _) (.err (by decide))) (.ite (.next (Tc h _ _) fun _=>.ok _) (ade h _ _))))))))
def KF (st:St→Vars→Tk→Except Int (Vars × Tk)):Prop:=∀ s v t,Ne (st s v t)
theorem Te {st:St→Vars→Tk→Except Int (Vars × Tk)}(h:KF st):∀ (b:List St) (v:Vars) (t:Tk),Ne (block st b v t)
 | [],_,_=>.ok _
 | s :: b,v,t=>.next (h s v t) fun p=>Te h b p.1 p.2
theorem EG {st:St→Vars→Tk→Except Int (Vars × Tk)}(h:KF st)(b:List St)(v:Vars)(t:Tk):Ne (inner st b v t):=.next (Te h b v t) fun _=>.ok _
theorem Tf (l:List Df)(me:Df):∀ d,KF (stat l me d)
 | 0=>fun s v t=>.err (by decide)
 | d+1=>fun s v t=>by
  have h:=Tf l me d
  have hx:=Td l me v d
  rw [stat]
  exact .ite (.next (hx _ _) fun _=>.ite (.err (by decide)) (.ok _)) (.ite (.next (SY _ _) fun _=>.next (o7 hx _ _ _) fun _=>.ok _)
   (.ite (.next (o7 hx _ _ _) fun _=>.next (EG h _ _ _) fun _=>.next (EG h _ _ _) fun _=>.ok _) (.ite (.next (o7 hx _ _ _) fun _=>.next (EG h _ _ _) fun _=>.ok _)
   (.ite (.next (KE _) fun _=>.next (o7 hx _ _ _) fun _=>.ok _) (.ite (.next (KE _) fun _=>.ok _) (.ite (.next (BR _ _ _) fun _=>.next (o7 hx _ _ _) fun _=>.ok _)
   (.ite (.next (hx _ _) fun _=>.next (y9 _) fun _=>.ok _) (.next (hx _ _) fun _=>.ok _))))))))
theorem adf (l:List Df)(me:Df):Ne (aV l me):=.ite (.ok _) (EG (Tf l me 39) _ _ _)
theorem EH (l:List Df):∀ (ps:List Pm) (seen:List ByteArray),Ne (params l ps seen)
 | [],_=>.ok _
 | p :: ps,seen=>.ite (.err (by decide)) (.ite (.next (BR _ _ _) fun _=>EH l ps _) (EH l ps _))
theorem head_ne (l:List Df)(d:Df):Ne (head l d) :=
 .ite (y9 _) (.ite (.next (EH _ _ _) fun _=>y9 _) (.ite (.next (EH _ _ _) fun _=>.next (y9 _) fun _=>y9 _) (.ok _)))
def KG {α:Type}(r:Except (Int × Nat) α):Prop:=∀ e,r=.error e→e.1≠0
theorem KH {α:Type}{f:Df→Except Int α}(h:∀ d,Ne (f d)):∀ (l:List Df) (i:Nat),KG (each f l i)
 | [],i=>fun e he=>by cases he
 | d :: l,i=>fun e he=>by
  rw [each] at he
  cases hf:f d with
  | error x=>rw [hf] at he;cases he;exact h d x hf
  | ok x =>
   rw [hf] at he
   dsimp only at he
   cases hl:each f l (i+1) with
   | error y=>rw [hl] at he;cases he;exact KH h l (i+1) _ hl
   | ok xs=>rw [hl] at he;cases he
theorem Tg (l:List Df)(sp:Nat→Bool):Ne (only l sp):=by
 unfold only
 split
 ·exact .ok _
 ·exact .ok _
 ·exact .err (by decide)
theorem Ti (l:List Df)(ts:List Tk):∀ is,KG (gZ l ts is)
 | []=>fun e he=>by cases he
 | i :: is=>fun e he=>by
  have ih:=Ti l ts is
  rw [gZ] at he
  split at he
  ·cases ho:owner l ts i with
   | error x =>
    rw [ho] at he;cases he
    exact (Ne.next (Tg _ _) fun _=>.next (Tg _ _) fun _=>.ok _:Ne (owner l ts i)) x ho
   | ok o =>
    rw [ho] at he
    dsimp only at he
    cases hl:gZ l ts is with
    | error y=>rw [hl] at he;cases he;exact ih _ hl
    | ok xs=>rw [hl] at he;cases he
  ·exact ih e he
theorem Tj:∀ (l:List Df) (i:Nat) (seen:List ByteArray) (e:Int × Nat),names l i seen=some e→e.1≠0
 | [],_,_,e,h=>by cases h
 | d :: l,i,seen,e,h=>by
  rw [names] at h
  split at h
  ·cases h;show (7:Int)≠0;decide
  ·exact Tj l _ _ e h
theorem adg (l:List Df)(e:Int × Nat)(h:prog l=some e):e.1≠0:=by
 unfold prog at h
 split at h
 ·rename_i e' hn;cases h;exact Tj l 0 [] e hn
 ·split at h
  ·cases h
  ·cases h;show (6:Int)≠0;decide
theorem Tm (l:List Df):KG (kr l):=fun e he=>by
 unfold kr at he
 split at he
 ·rename_i x hp;cases he;exact adg l _ hp
 ·split at he
  ·rename_i x hh;cases he;exact KH (head_ne l) l 0 _ hh
  ·split at he
   ·rename_i x hb;cases he;exact KH (adf l) l 0 _ hb
   ·exact Ti l _ _ e he
end Sm
namespace Sm
def Oq (l:List Sy.Df)(w:World)(e:Ending)(w':World):Prop:=Below w.heap.size w w'∧match qj l with
 | .error x=>e=.returned (.tuple #[.slice none 0 0,.agg #[.int .i64 x.1,.int .i64 (x.2:Int)]])
 | .ok os=>∃ v,e=.returned (.tuple #[v,.agg #[.int .i64 0,.int .i64 0]])∧w'.ownsRow w.heap.size 37 3 v os.length (ows os)
abbrev zb (l:List Sy.Df) (a:Option Addr) (c:Nat):Obj:=.cells #[.slice a l.length c] 22 (0,0)
abbrev gm:Obj:=.cells #[.slice none 0 0] 33 (0,0)
theorem Tn {w w':World}(h:w.grownBy w' none):Below w.heap.size w w':=⟨h.os,h.tape,h.output,h.size,fun k hk=>h.block k hk (by simp)⟩
theorem grown_of {w w':World}(h:Below w.heap.size w w'):w.grownBy w' none:=⟨h.os,h.tape,h.output,h.size,fun k hk _=>h.block k hk⟩
def set2 (w:World)(b:Nat)(x y:Value):World:=(w.setCell ⟨b,0,none⟩ x).setCell ⟨b,1,none⟩ y
theorem uY {w:World}{b k:Nat}(h:k≠b)(x y:Value):(set2 w b x y).heap[k]?=w.heap[k]?:=(Below.heap_setCell _ ⟨b,1,none⟩ y k h).trans (Below.heap_setCell w ⟨b,0,none⟩ x k h)
theorem BS {w:World}{b:Nat}{u v:Value}{t:TypeId}(h:w.heap[b]?=some (.cells #[u,v] t (0,0)))(x y:Value):(set2 w b x y).heap[b]?=some (.cells #[x,y] t (0,0)):=by
 simp only [set2,World.setCell,Array.getElem?_modify,if_true,h,Option.map_some]
 rfl
theorem BU {w w1:World}{b:Nat}(h:w.grownBy w1 none)(hb:w.heap.size≤b)(x y:Value):w.grownBy (set2 w1 b x y) none:=qC h (aB (gQ w1 b 0 x) (gQ _ b 1 y)) hb
theorem Tp {W:World}{O F:Nat}{u x' y':Value}{tO tF:TypeId}(hO:W.heap[O]?=some (.cells #[u] tO (0,0)))(hF:W.heap[F]?=some (.cells #[x',y'] tF (0,0)))(hne:O≠F)(v x y:Value) :
  (set2 (W.setCell ⟨O,0,none⟩ v) F x y).drew.cell? ⟨O,0,none⟩=some v∧(set2 (W.setCell ⟨O,0,none⟩ v) F x y).drew.cell? ⟨F,0,none⟩=some x∧(set2 (W.setCell ⟨O,0,none⟩ v) F x y).drew.cell? ⟨F,1,none⟩=some y:=by
 have h1:(W.setCell ⟨O,0,none⟩ v).heap[O]?=some (.cells #[v] tO (0,0)):=by
  simp only [World.setCell,Array.getElem?_modify,if_true,hO,Option.map_some]
  rfl
 have h2:(W.setCell ⟨O,0,none⟩ v).heap[F]?=some (.cells #[x',y'] tF (0,0)):=(Below.heap_setCell W ⟨O,0,none⟩ v F (Ne.symm hne)).trans hF
 have h3:(set2 (W.setCell ⟨O,0,none⟩ v) F x y).drew.heap[O]?=some (.cells #[v] tO (0,0)):=(uY hne x y).trans h1
 have h4:(set2 (W.setCell ⟨O,0,none⟩ v) F x y).drew.heap[F]?=some (.cells #[x,y] tF (0,0)):=BS h2 x y
 generalize (set2 (W.setCell ⟨O,0,none⟩ v) F x y).drew=W' at *
 refine ⟨?_,?_,?_⟩ <;> simp [World.cell?,h3,h4]
theorem Tq {w W:World}{O F:Nat}(h:w.grownBy W none)(hO:w.heap.size≤O)(hF:w.heap.size≤F)(v x y:Value):Below w.heap.size w (set2 (W.setCell ⟨O,0,none⟩ v) F x y).drew :=
 (Tn (BU (qC h (gQ W O 0 v) hO) hF x y)).drew
def Ot (l:List Sy.Df)(e n:Int):Prop:=match kr l with
 | .error x=>e=x.1∧n=x.2∧x.1≠0
 | .ok _=>e=0∧n=0
def Or (l:List Sy.Df)(B O:Nat)(w':World):Prop:=match kr l with
 | .error _=>w'.heap[O]?=some gm
 | .ok os=>∃ v,w'.heap[O]?=some (.cells #[v] 33 (0,0))∧w'.ownsRow B 37 3 v os.length (ows os)
theorem Or.set2 {l:List Sy.Df}{B O b:Nat}{w:World}(h:Or l B O w)(hne:O≠b){o:Array Value}{t:TypeId}(hb:w.heap[b]?=some (.cells o t (0,0)))(ht:37≠t)(x y:Value):Or l B O (set2 w b x y):=by
 unfold Or at h ⊢
 split at h
 ·exact (uY hne x y).trans h
 ·obtain ⟨v,h1,h2⟩:=h
  refine ⟨v,(uY hne x y).trans h1,fF h2 (fun k hk=>uY ?_ x y)⟩
  rintro rfl
  obtain ⟨_,_,cur,hc⟩:=bq h2 k hk
  rw [hb] at hc
  cases hc
  exact ht rfl
theorem adh {l:List Sy.Df}{w W w':World}{e:Ending}{O F R:Nat}{e2 n2:Int}{x y:Value}(hg:w.grownBy W none)(hT:Ot l e2 n2)(hO:W.heap[O]?=some gm)(hF:W.heap[F]?=some (.cells #[x,y] 26 (0,0)))(hR:W.heap[R]?=some bR)(KD:w.heap.size≤O)(h:Oc l O W e w') :
  (w.grownBy w' none∧(∃ x y,w'.heap[F]?=some (.cells #[x,y] 26 (0,0)))∧Or l w.heap.size O w')∧w'.heap[R]?=some bR∧qJ e2 n2 e:=by
 have hW:w.heap.size≤W.heap.size:=hg.size
 unfold Oc at h
 unfold Ot at hT
 unfold Or
 cases ho:kr l with
 | error z =>
  rw [ho] at h hT
  obtain ⟨rfl,hg2⟩:=h
  obtain ⟨rfl,rfl,hne⟩:=hT
  have k:∀ {b:Nat} {o:Obj},W.heap[b]?=some o→w'.heap[b]?=some o:=fun hb=>(hg2.block _ (lt_of_block hb) (by simp)).trans hb
  exact ⟨⟨aB hg hg2,⟨x,y,k hF⟩,k hO⟩,k hR,FN rfl hne⟩
 | ok os =>
  rw [ho] at h hT
  obtain ⟨rfl,hg2,v,hv,hrow⟩:=h
  obtain ⟨rfl,rfl⟩:=hT
  have k:∀ {b:Nat} {o:Obj},W.heap[b]?=some o→b≠O→w'.heap[b]?=some o:=fun hb hn=>(hg2.block _ (lt_of_block hb) (by simpa using hn)).trans hb
  have hOF:F≠O:=by rintro rfl;rw [hF] at hO;cases hO
  have hOR:R≠O:=by rintro rfl;rw [hR] at hO;cases hO
  exact ⟨⟨qC hg hg2 KD,⟨x,y,k hF hOF⟩,v,hv,tN hrow hW⟩,k hR hOR,Mf rfl⟩
theorem adk {l:List Sy.Df}{B O:Nat}{w:World}(h:Or l B O w):∃ va vn vc,w.heap[O]?=some (.cells #[.slice va vn vc] 33 (0,0))∧((∃ x,kr l=.error x∧(.slice va vn vc:Value)=.slice none 0 0)∨∃ os,kr l=.ok os∧w.ownsRow B 37 3 (.slice va vn vc) os.length (ows os)):=by
 unfold Or at h
 cases ho:kr l with
 | error x=>rw [ho] at h;exact ⟨_,_,_,h,.inl ⟨x,rfl,rfl⟩⟩
 | ok os =>
  rw [ho] at h
  obtain ⟨v,hv,hrow⟩:=h
  obtain ⟨a,c,rfl⟩:=il hrow
  exact ⟨_,_,_,hv,.inr ⟨os,rfl,hrow⟩⟩
theorem adl {l:List Sy.Df}{w W:World}{e2 n2:Int}{va:Option Addr}{vn vc:Nat}{x y:Value}(hw:(Sy.dx l).1=0)(hT:Ot l e2 n2)(hg:w.grownBy W none)(hv:W.heap[w.heap.size+1]?=some (.cells #[.slice va vn vc] 33 (0,0)))(hF:W.heap[w.heap.size+1+1]?=some (.cells #[x,y] 26 (0,0)))
  (hrow:(∃ x,kr l=.error x∧(.slice va vn vc:Value)=.slice none 0 0)∨∃ os,kr l=.ok os∧W.ownsRow w.heap.size 37 3 (.slice va vn vc) os.length (ows os)) :
  Oq l w (.returned (.tuple #[.slice va vn vc,.agg #[.int .i64 e2,.int .i64 n2]])) (set2 (W.setCell ⟨w.heap.size+1,0,none⟩ (.slice va vn vc)) (w.heap.size+1+1) (.int .i64 e2) (.int .i64 n2)).drew:=by
 have he:qj l=kr l:=by rw [KA,if_neg (by simpa using hw)]
 refine ⟨Tq hg (by omega) (by omega) _ _ _,?_⟩
 unfold Ot at hT
 rw [he]
 rcases hrow with ⟨z,ho,e⟩ | ⟨os,ho,hr⟩
 ·rw [ho] at hT ⊢
  obtain ⟨rfl,rfl,_⟩:=hT
  rw [e]
 ·rw [ho] at hT ⊢
  obtain ⟨rfl,rfl⟩:=hT
  refine ⟨_,rfl,fF hr (fun k hk=>?_)⟩
  obtain ⟨_,_,cur,hc⟩:=bq hr k hk
  have h1:k≠w.heap.size+1:=by rintro rfl;rw [hv] at hc;cases hc
  have h2:k≠w.heap.size+1+1:=by rintro rfl;rw [hF] at hc;cases hc
  exact (uY h2 _ _).trans (Below.heap_setCell W ⟨w.heap.size+1,0,none⟩ _ k h1)
theorem Tt (B:Nat)(l:List Sy.Df)(a:Option Addr)(c:Nat)(w:World)(hD:Hid (dS B w l a))(hB:B≤w.heap.size)(hG:Hid (Gl B w)) :
  Calls Tryz.prog 8 #[.slice a l.length c] w fun e w'=>Oq l w e w':=by
 obtain ⟨W0,hW0⟩:∃ W0,W0=((w.alloc (zb l a c)).alloc gm).alloc bR:=⟨_,rfl⟩
 have aY:Hid (w.grownBy W0 none):=by rw [hW0];exact aB (bu _ _) (bn _)
 have jo:Hid (W0.heap[w.heap.size]?=some (zb l a c)):=by rw [hW0];exact (Below.heap_alloc _ _ _ (by simp;omega)).trans ((Below.heap_alloc _ _ _ (by simp)).trans (heap_alloc_new _ _))
 have KI:Hid (W0.heap[w.heap.size+1]?=some gm):=by
  rw [hW0]
  have:=heap_alloc_new (w.alloc (zb l a c)) gm
  rw [World.size_alloc] at this
  exact (Below.heap_alloc _ _ _ (by simp)).trans this
 have jO:Hid (W0.heap[w.heap.size+1+1]?=some bR):=by
  rw [hW0]
  have:=heap_alloc_new ((w.alloc (zb l a c)).alloc gm) bR
  rw [World.size_alloc,World.size_alloc] at this
  exact this
 have HW0:Hid (W0=_):=hW0
 clear hW0
 obtain ⟨L,hL⟩:∃ L,L=l.length:=⟨_,rfl⟩
 have HL:Hid (L=l.length):=hL
 go_enter Tryz.func8,Tryz.ntmps8
 go_wp2_with fail
 rw [← HW0.out]
 refine (CF l a c W0 ((hD.out.same (dK aY.out (by simp) hB)).wide (Nat.le_trans hB aY.out.size))).mono ?_
 rintro e w1 ⟨rfl,hb1⟩
 obtain ⟨er,her⟩:∃ x,x=(Sy.dx l).1:=⟨_,rfl⟩
 obtain ⟨nr,hnr⟩:∃ x,x=(Sy.dx l).2:=⟨_,rfl⟩
 rw [← her,← hnr]
 have KJ:Hid (er=(Sy.dx l).1):=her
 have HNR:Hid (nr=(Sy.dx l).2):=hnr
 clear her hnr
 have hg1:=grown_of hb1
 have ax:Hid (w.grownBy w1 none):=aB aY.out hg1
 have eG:Hid (w1.heap[w.heap.size]?=some (zb l a c)):=(hg1.block _ (lt_of_block jo.out) (by simp)).trans jo.out
 have vF:Hid (w1.heap[w.heap.size+1]?=some gm):=(hg1.block _ (lt_of_block KI.out) (by simp)).trans KI.out
 have hF1:w1.heap[w.heap.size+1+1]?=some bR:=(hg1.block _ (lt_of_block jO.out) (by simp)).trans jO.out
 obtain ⟨f0,f1,xx,xy⟩:=bE hF1
 obtain ⟨W2,hW2⟩:∃ W2,W2=set2 w1 (w.heap.size+1+1) (.int .i64 er) (.int .i64 (nr:Int)):=⟨_,rfl⟩
 have HG2:Hid (w.grownBy W2 none):=by rw [hW2];exact BU ax.out (by omega) _ _
 have fJ:Hid (W2.heap[w.heap.size]?=some (zb l a c)):=by rw [hW2];exact (uY (by omega) _ _).trans eG.out
 have aP:Hid (W2.heap[w.heap.size+1]?=some gm):=by rw [hW2];exact (uY (by omega) _ _).trans vF.out
 have bW:Hid (W2.heap[w.heap.size+1+1]?=some (.cells #[.int .i64 er,.int .i64 (nr:Int)] 26 (0,0))):=by rw [hW2];exact BS hF1 _ _
 have HW2:Hid (W2=_):=hW2
 clear hW2 hb1 hg1 hF1 HW0 aY jo KI jO ax eG vF
 go_upto_region 2 with fail
 unfold set2 at HW2
 rw [← HW2.out]
 clear f0 f1 xx xy HW2
 obtain ⟨f0,f1,xx,xy⟩:=bE bW.out
 by_cases h0:er=0
 ·have e0:(er != 0)=false:=by simpa using h0
  have hw0:(Sy.dx l).1=0:=by rw [← KJ.out];exact h0
  have HW:Hid ((Sy.dx l).1=0):=hw0
  have BQ:Hid (qj l=kr l):=by unfold Hid;rw [KA,if_neg (by simpa using hw0)]
  obtain ⟨e2,n2,hz2,Tu⟩:∃ (e2 n2:Int),(e2=0→n2=0)∧Ot l e2 n2:=by
   cases ho:kr l with
   | error x=>exact ⟨x.1,x.2,fun h=>absurd h (Tm l x ho),by unfold Ot;rw [ho];exact ⟨rfl,rfl,Tm l x ho⟩⟩
   | ok os=>exact ⟨0,0,fun _=>rfl,by unfold Ot;rw [ho];exact ⟨rfl,rfl⟩⟩
  have HT:Hid (Ot l e2 n2):=Tu
  have CE:∀ (fn:Fn) (first cap:Array Value) (w:World),(Instr.makeFunc fn first cap).run Tryz.prog w=.ok (.func fn first cap) w:=fun _ _ _ _=>rfl
  clear h0 hw0 Tu
  go_wp2_with fail
  refine (CB 18 #[.pointer (some ⟨w.heap.size,0,none⟩),.pointer (some ⟨w.heap.size+1,0,none⟩)] e2 n2 (fun w'=>w.grownBy w' none∧(∃ x y,w'.heap[w.heap.size+1+1]?=some (.cells #[x,y] 26 (0,0)))∧Or l w.heap.size (w.heap.size+1) w') W2 hz2 ?_ ?_).mono ?_
  ·intro w'
   first | rfl | kernel_rfl | simp [go_sem]
  ·refine (ac9 B l a c w.heap.size (w.heap.size+1) (W2.alloc bR) (hD.out.same (dK (aB HG2.out (bn _)) (by simp) hB)) (Nat.le_trans hB (aB HG2.out (bn bR)).size) (xq hG.out (dK (aB HG2.out (bn _)) (by simp) hB)) HW ((Below.heap_alloc _ _ _ (lt_of_block fJ.out)).trans fJ.out) ((Below.heap_alloc _ _ _ (lt_of_block aP.out)).trans aP.out)).mono ?_
   rintro e w' h
   exact adh (aB HG2.out (bn _)) HT.out ((Below.heap_alloc _ _ _ (lt_of_block aP.out)).trans aP.out) ((Below.heap_alloc _ _ _ (lt_of_block bW.out)).trans bW.out) (heap_alloc_new _ _) (Nat.le_succ _) h
  ·rintro e w3 ⟨rfl,wx,⟨hgx,⟨x,y,yw⟩,Tv⟩,Tw,rfl⟩
   have hbig:w.heap.size+1+1<W2.heap.size:=lt_of_block bW.out
   have aK:=hid (BU hgx (by omega:w.heap.size≤W2.heap.size) (.int .i64 e2) (.int .i64 n2))
   have ll:=(uY (w:=wx) (b:=W2.heap.size) (by omega:w.heap.size+1+1≠W2.heap.size) (.int .i64 e2) (.int .i64 n2)).trans yw
   have zn:=hid (Tv.set2 (by omega:w.heap.size+1≠W2.heap.size) Tw (by decide) (.int .i64 e2) (.int .i64 n2))
   unfold set2 at aK ll zn
   generalize (wx.setCell ⟨W2.heap.size,0,none⟩ (.int .i64 e2)).setCell ⟨W2.heap.size,1,none⟩ (.int .i64 n2)=W3 at *
   clear hgx yw Tv Tw hbig HG2 fJ aP bW
   obtain ⟨f0,f1,xx,xy⟩:=bE ll
   obtain ⟨W4,BV⟩:∃ W4,W4=set2 W3 (w.heap.size+1+1) (.int .i64 e2) (.int .i64 n2):=⟨_,rfl⟩
   have aX:Hid (w.grownBy W4 none):=by rw [BV];exact BU aK.out (by omega) _ _
   have lq:Hid (W4.heap[w.heap.size+1+1]?=some (.cells #[.int .i64 e2,.int .i64 n2] 26 (0,0))):=by rw [BV];exact BS ll _ _
   have Tx:Hid (Or l w.heap.size (w.heap.size+1) W4):=by rw [BV];exact zn.out.set2 (by omega) ll (by decide) _ _
   have yz:Hid (W4=_):=BV
   clear BV aK ll zn
   go_upto_region 5 with fail
   unfold set2 at yz
   rw [← yz.out]
   clear f0 f1 xx xy yz
   obtain ⟨f0,f1,xx,xy⟩:=bE lq.out
   obtain ⟨va,vn,vc,hv,hrow⟩:=adk Tx.out
   have ho0:W4.cell? ⟨w.heap.size+1,0,none⟩=some (.slice va vn vc):=by simp [World.cell?,hv]
   have hof:W4.frozen? ⟨w.heap.size+1,0,none⟩=false:=by simp [World.frozen?,hv]
   have HZ:=hid (Tp hv lq.out (by omega) (.slice va vn vc) (.int .i64 e2) (.int .i64 n2))
   have HE:Hid (Oq l w (.returned (.tuple #[.slice va vn vc,.agg #[.int .i64 e2,.int .i64 n2]])) (set2 (W4.setCell ⟨w.heap.size+1,0,none⟩ (.slice va vn vc)) (w.heap.size+1+1) (.int .i64 e2) (.int .i64 n2)).drew):=adl HW.out HT.out aX.out hv lq.out hrow
   unfold set2 at HZ HE
   clear hv hrow lq Tx aX
   go_region
   generalize (((W4.setCell ⟨w.heap.size+1,0,none⟩ (.slice va vn vc)).setCell ⟨w.heap.size+1+1,0,none⟩ (.int .i64 e2)).setCell ⟨w.heap.size+1+1,1,none⟩ (.int .i64 n2)).drew=W9 at *
   obtain ⟨z0,z1,z2⟩:=HZ.out
   go_wp2
   exact bodyPost_ret (v:=.tuple #[.slice va vn vc,.agg #[.int .i64 e2,.int .i64 n2]]) (by simp [results,Tryz.results8,go_sem,z0,z1,z2]) rfl HE.out
 ·have e0:(er != 0)=true:=by simpa using h0
  have ho0:W2.cell? ⟨w.heap.size+1,0,none⟩=some (.slice none 0 0):=by simp [World.cell?,aP.out]
  have hof:W2.frozen? ⟨w.heap.size+1,0,none⟩=false:=by simp [World.frozen?,aP.out]
  have BQ:Hid (qj l=.error (er,nr)):=by unfold Hid;rw [KA,if_pos (by rw [← KJ.out];exact h0),KJ.out,HNR.out]
  have HZ:=hid (Tp aP.out bW.out (by omega) (.slice none 0 0) (.int .i64 er) (.int .i64 (nr:Int)))
  have HB:=hid (Tq HG2.out (O:=w.heap.size+1) (F:=w.heap.size+1+1) (by omega) (by omega) (.slice none 0 0) (.int .i64 er) (.int .i64 (nr:Int)))
  unfold set2 at HZ HB
  clear h0
  go_wp2
  go_region
  generalize (((W2.setCell ⟨w.heap.size+1,0,none⟩ (.slice none 0 0)).setCell ⟨w.heap.size+1+1,0,none⟩ (.int .i64 er)).setCell ⟨w.heap.size+1+1,1,none⟩ (.int .i64 (nr:Int))).drew=W9 at *
  obtain ⟨z0,z1,z2⟩:=HZ.out
  go_wp2
  exact bodyPost_ret (v:=.tuple #[.slice none 0 0,.agg #[.int .i64 er,.int .i64 (nr:Int)]]) (by simp [results,Tryz.results8,go_sem,z0,z1,z2]) rfl ⟨HB.out,by rw [BQ.out]⟩
end Sm
end Go.Proofs.YtolfleeidpeomaaGreatDoor

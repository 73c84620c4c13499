/- Words with a blank behind each;how long a program's text is at most. -/
import Derived.Test.YtolfleeidpeomaaGreatDoorM10
import Derived.Lib.ItoaLen
import Derived.Lib.Join
import Derived.Laws.Concat
import Derived.Deep.RegionWith
import Derived.Deep.DeepCutAuto
import Derived.Test.YtolfleeidpeomaaGreatDoorM9
set_option maxRecDepth 100000
set_option maxHeartbeats 400000
namespace Go.Proofs.YtolfleeidpeomaaGreatDoor
namespace Sy
def flat (ws:List ByteArray):List UInt8:=ws.flatMap fun w=>w.data.toList++[32]
theorem ZR (a b:List ByteArray):flat (a++b)=flat a++flat b:=by simp [flat]
theorem IJ (x:ByteArray)(l:List ByteArray):flat (x :: l)=x.data.toList++[32]++flat l:=by simp [flat]
def wt (ws:List ByteArray):Nat:=(flat ws).length
theorem iY:wt []=0:=rfl
theorem eU (a b:List ByteArray):wt (a++b)=wt a+wt b:=by simp [wt,ZR]
theorem eX (x:ByteArray)(l:List ByteArray):wt (x :: l)=x.size+1+wt l:=by
 unfold wt
 rw [IJ,List.length_append,List.length_append,Array.length_toList]
 rfl
theorem DN:∀ l:List ByteArray,l.length≤wt l
 | []=>Nat.le_refl _
 | x :: l=>by have:=DN l;rw [eX,List.length_cons];omega
theorem qi {s:ByteArray}(h:nm s=true):s.size≤12:=by
 by_cases h1:12<s.size
 ·have:=zi (.inr h1)
  unfold nm at h
  rw [this] at h
  cases h
 ·omega
theorem PK (n:Int)(h0:0≤n)(h1:n≤999999999999999):(iU n).size≤21:=by
 have:=Go.Lib.itoa_length_le n (by omega) (by omega)
 have e:(iU n).size=(Go.Lib.itoa n).length:=List.size_toArray
 omega
theorem ZU (n:Int):(lN n).size≤5:=by unfold lN;split <;> decide
theorem ZV (k:Int):(sign k).size≤3:=by
 unfold sign
 cases h:table.find? (fun p=>p.1==k) with
 | none=>exact Nat.zero_le _
 | some p =>
  have hm:=List.mem_of_find?_eq_some h
  simp only [Option.map_some,Option.getD_some]
  have:∀ p ∈ table,p.2.1.size≤3:=by decide
  exact this p hm
def tot {α:Type}(g:α→Nat):List α→Nat
 | []=>0
 | a :: l=>g a+tot g l
theorem DR {α:Type}{f:α→Nat→Except Int Nat}{g:α→Nat}(hf:∀ a i j,f a i=.ok j→g a+400 * i≤400 * j):∀ (l:List α) (n m:Nat),runs f l n=.ok m→tot g l+400 * n≤400 * m
 | [],n,m,h=>by simp [runs] at h;simp [tot];omega
 | a :: l,n,m,h=>by
  unfold runs at h
  cases ha:f a n with
  | error e=>rw [ha] at h;simp at h
  | ok k =>
   rw [ha] at h
   have h1:=hf a n k ha
   have h2:=DR hf l k m h
   unfold tot
   omega
theorem DT {α:Type}(f:α→List ByteArray):∀ (l:List α) (i:Nat),wt (bZ f i l)≤tot (fun a=>wt (f a)) l+2 * l.length
 | [],i=>by simp [bZ,iY,tot]
 | a :: l,i=>by
  have:=DT f l (i+1)
  unfold bZ tot
  rw [eU,eU,List.length_cons]
  split
  ·rw [eX,iY]
   have:(⟨#[44]⟩:ByteArray).size=1:=rfl
   omega
  ·rw [iY];omega
theorem IK {α:Type}(f:α→List ByteArray):∀ (l:List α),wt (l.flatMap f)=tot (fun a=>wt (f a)) l
 | []=>rfl
 | a :: l=>by rw [List.flatMap_cons,eU,IK f l];rfl
theorem IL (f:Ex→List ByteArray)(lv:Int)(x:Ex):wt (bU f lv x)≤wt (f x)+4:=by
 unfold bU
 split
 ·omega
 ·rw [eU,eU,eX,eX,iY]
  have:(⟨#[40]⟩:ByteArray).size=1:=rfl
  have:(⟨#[41]⟩:ByteArray).size=1:=rfl
  omega
theorem ZW (f:Ex→List ByteArray)(ah:List ByteArray)(kids:List Ex):wt (eO f ah kids)≤wt ah+4+tot (fun a=>wt (f a)) kids+2 * kids.length:=by
 unfold eO
 have:=DT f kids 0
 rw [eU,eU,eU,eX,eX,iY]
 have:(⟨#[40]⟩:ByteArray).size=1:=rfl
 have:(⟨#[41]⟩:ByteArray).size=1:=rfl
 omega
theorem PL {x:Ex}(h:dU x=0) :
  (x.kind=1→0≤x.n∧x.n≤999999999999999)∧((x.kind=3∨x.kind=19∨x.kind=20∨x.kind=22)→nm x.name=true)∧least x.kind≤x.kids.length∧(x.kids.length:Int)≤most x.kind:=by
 unfold dU at h
 split at h
 ·omega
 ·rename_i h1
  split at h
  ·omega
  ·rename_i h2
   split at h
   ·omega
   ·rename_i h3
    refine ⟨fun hk=>?_,fun hk=>?_,by omega,by omega⟩
    ·omega
    ·cases hn:nm x.name with
     | true=>rfl
     | false=>exact absurd ⟨hk,hn⟩ h2
theorem PM (k:Int):most k≤6:=by
 unfold most
 repeat' split
 all_goals omega
theorem DU:∀ (d:Nat) (x:Ex) (n m:Nat),aF d x n=.ok m→wt (ai d x)+400 * n≤400 * m
 | 0,x,n,m,h=>by simp [aF] at h
 | d+1,x,n,m,h=>by
  unfold aF at h
  split at h
  ·simp at h
  ·rename_i h0
   have hz:=iC (by simpa using h0:bB x.kind 24 (d+1) n=0)
   split at h
   ·simp at h
   ·rename_i h1
    obtain ⟨p1,p2,p3,p4⟩:=PL (by simpa using h1:dU x=0)
    have ht:=DR (g:=fun a=>wt (ai d a)) (fun a i j=>DU d a i j) x.kids (n+1) m h
    have hm6:=PM x.kind
    obtain ⟨T,hT⟩:∃ T,T=tot (fun a=>wt (ai d a)) x.kids:=⟨_,rfl⟩
    suffices hs:wt (ai (d+1) x)≤T+400 by omega
    have call:∀ ah,wt ah≤200→wt (eO (ai d) ah x.kids)≤T+400:=by
     rw [hT]
     intro ah hah
     have:=ZW (ai d) ah x.kids
     omega
    have neg:∀ s:ByteArray,s.size≤5→x.kind=4∨x.kind=5→wt ([s]++bU (ai d) 6 (x.kids.headD ⟨0,0,⟨#[]⟩,[]⟩))≤T+400:=by
     rw [hT]
     intro s hs hk
     have hl:x.kids.length=1:=by
      have:least x.kind=1∧most x.kind=1:=by rcases hk with hk | hk <;> rw [hk] <;> decide
      omega
     obtain ⟨k,hk1⟩:=List.length_eq_one_iff.1 hl
     rw [hk1,eU,eX,iY]
     have:=IL (ai d) 6 k
     simp only [List.headD_cons,tot]
     omega
    unfold ai
    by_cases jg:0<aW x.kind
    ·rw [if_pos jg]
     have hl:x.kids.length=2:=by
      have:least x.kind=2∧most x.kind=2:=by
       have:6≤x.kind∧x.kind≤18:=by
        unfold aW at jg
        repeat' split at jg
        all_goals omega
       unfold least most
       repeat' split
       all_goals omega
      omega
     obtain ⟨a,b,hab⟩:∃ a b,x.kids=[a,b]:=by
      match hx:x.kids,hl with
      | [a,b],_=>exact ⟨a,b,rfl⟩
     rw [hab] at hT
     simp only [tot] at hT
     rw [hab,hT]
     clear hT call neg
     show wt (bU (ai d) (if aW x.kind=3 then 4 else aW x.kind) a++[sign x.kind]++bU (ai d) (aW x.kind+1) b)≤_
     rw [eU,eU,eX,iY]
     have:=IL (ai d) (if aW x.kind=3 then 4 else aW x.kind) a
     have:=IL (ai d) (aW x.kind+1) b
     have:=ZV x.kind
     omega
    rw [if_neg jg]
    by_cases hk:x.kind=1
    ·rw [if_pos hk]
     have:=PK x.n (p1 hk).1 (p1 hk).2
     rw [eX,iY];omega
    rw [if_neg hk]
    by_cases hk:x.kind=2
    ·rw [if_pos hk]
     have:=ZU x.n
     rw [eX,iY];omega
    rw [if_neg hk]
    by_cases hk:x.kind=3
    ·rw [if_pos hk]
     have:=qi (p2 (.inl hk))
     rw [eX,iY];omega
    rw [if_neg hk]
    by_cases hk:x.kind=4
    ·rw [if_pos hk];exact neg _ (by decide) (.inl hk)
    rw [if_neg hk]
    by_cases hk:x.kind=5
    ·rw [if_pos hk];exact neg _ (by decide) (.inr hk)
    rw [if_neg hk]
    by_cases hk:x.kind=19
    ·rw [if_pos hk]
     have:=qi (p2 (.inr (.inl hk)))
     exact call _ (by rw [eX,iY];omega)
    rw [if_neg hk]
    by_cases hk:x.kind=20
    ·rw [if_pos hk]
     have:=qi (p2 (.inr (.inr (.inl hk))))
     rw [eX,eX,eX,eX,iY]
     have:(⟨#[114,101,99,118]⟩:ByteArray).size=4:=rfl
     have:(⟨#[40]⟩:ByteArray).size=1:=rfl
     have:(⟨#[41]⟩:ByteArray).size=1:=rfl
     omega
    rw [if_neg hk]
    by_cases hk:x.kind=21
    ·rw [if_pos hk];exact call _ (by decide)
    rw [if_neg hk]
    by_cases hk:x.kind=22
    ·rw [if_pos hk]
     have:=qi (p2 (.inr (.inr (.inr hk))))
     refine call _ ?_
     rw [eX,eX,iY]
     have:(⟨#[115,116,97,114,116]⟩:ByteArray).size=5:=rfl
     omega
    rw [if_neg hk]
    by_cases hk:x.kind=23
    ·rw [if_pos hk];exact call _ (by decide)
    rw [if_neg hk]
    exact call _ (by decide)
theorem yA (f:St→List ByteArray)(l:List St):wt (aV f l)=tot (fun a=>wt (f a)) l+4:=by
 unfold aV
 rw [eU,eU,IK,eX,eX,iY]
 have:(⟨#[123]⟩:ByteArray).size=1:=rfl
 have:(⟨#[125]⟩:ByteArray).size=1:=rfl
 omega
theorem Az {f:St→Nat→Except Int Nat}{g:St→Nat}(hf:∀ a i j,f a i=.ok j→g a+400 * i≤400 * j){l:List St}{n m:Nat}(h:cO f l n=.ok m):tot g l+400 * n≤400 * m:=by
 unfold cO at h
 split at h
 ·simp at h
 ·exact DR hf l n m h
theorem AA:∀ (d:Nat) (s:St) (n m:Nat),aO d s n=.ok m→wt (aC d s)+400 * n≤400 * m
 | 0,s,n,m,h=>by simp [aO] at h
 | d+1,s,n,m,h=>by
  unfold aO at h
  split at h
  ·simp at h
  ·rename_i h0
   have hz:=iC (by simpa using h0:bB s.kind 9 (d+1) n=0)
   split at h
   ·simp at h
   ·rename_i h1
    have hnm:(s.kind=1∨s.kind=2∨s.kind=7)→s.name.size≤12:=fun hk=>qi (by
     cases hn:nm s.name with
     | true=>rfl
     | false=>exact absurd ⟨hk,hn⟩ h1)
    split at h
    ·rename_i h6
     simp at h
     have:aC (d+1) s=[⟨#[115,116,111,112]⟩,⟨#[59]⟩]:=by
      unfold aC
      rw [if_neg (by omega),if_neg (by omega),if_neg (by omega),if_neg (by omega),if_neg (by omega),if_pos h6]
     rw [this]
     have:wt [⟨#[115,116,111,112]⟩,⟨#[59]⟩]=7:=by decide
     omega
    ·rename_i h6
     cases hx:aF d s.x (n+1) with
     | error e=>rw [hx] at h;simp at h
     | ok k =>
      rw [hx] at h
      simp only at h
      have hw:=DU d s.x (n+1) k hx
      have w1:∀ a:UInt8,wt [⟨#[a]⟩]=2:=fun a=>rfl
      have yB:∀ ah,wt ah≤100→s.kind≠3→s.kind≠4→wt (ah++ai d s.x++[⟨#[59]⟩])+400 * n≤400 * m:=by
       intro ah hah h3 h4
       unfold dN at h
       rw [if_neg (by omega)] at h
       simp at h
       rw [eU,eU,w1]
       omega
      unfold aC
      split
      ·rename_i hk
       refine yB _ ?_ (by omega) (by omega)
       have:=hnm (.inl hk)
       rw [eX,eX,w1]
       have:(⟨#[108,101,116]⟩:ByteArray).size=3:=rfl
       omega
      ·split
       ·rename_i hk
        refine yB _ ?_ (by omega) (by omega)
        have:=hnm (.inr (.inl hk))
        rw [eX,w1]
        omega
       ·split
        ·rename_i hk
         unfold dN at h
         rw [if_pos (.inl hk)] at h
         cases hb:cO (aO d) s.body k with
         | error e=>rw [hb] at h;simp at h
         | ok k2 =>
          rw [hb] at h
          simp only [hk,if_true] at h
          have hb1:=Az (g:=fun a=>wt (aC d a)) (fun a i j=>AA d a i j) hb
          have hb2:=Az (g:=fun a=>wt (aC d a)) (fun a i j=>AA d a i j) h
          rw [eU,eU,eU,yA]
          have:wt [⟨#[105,102]⟩]=3:=rfl
          split
          ·rw [iY];omega
          ·rw [eU,yA]
           have:wt [⟨#[101,108,115,101]⟩]=5:=rfl
           omega
        ·split
         ·rename_i hk3 hk
          unfold dN at h
          rw [if_pos (.inr hk)] at h
          cases hb:cO (aO d) s.body k with
          | error e=>rw [hb] at h;simp at h
          | ok k2 =>
           rw [hb] at h
           simp only [hk3,if_false] at h
           have hb1:=Az (g:=fun a=>wt (aC d a)) (fun a i j=>AA d a i j) hb
           simp at h
           rw [eU,eU,yA]
           have:wt [⟨#[119,104,105,108,101]⟩]=6:=rfl
           omega
         ·split
          ·exact yB _ (by decide) (by omega) (by omega)
          ·split
           ·rename_i hk
            refine yB _ ?_ (by omega) (by omega)
            have:=hnm (.inr (.inr hk))
            rw [eX,eX,iY]
            have:(⟨#[115,101,110,100]⟩:ByteArray).size=4:=rfl
            omega
           ·split
            ·exact yB _ (by decide) (by omega) (by omega)
            ·exact yB _ (by decide) (by omega) (by omega)
theorem IM {t:Ty}(h:bN t=0):wt (cZ t)≤13:=by
 unfold bN at h
 unfold cZ
 rw [eX,iY]
 split at h
 ·omega
 ·rename_i h1
  split at h
  ·omega
  ·rename_i h2
   split
   ·decide
   ·split
    ·decide
    ·have h3:t.kind=3:=by omega
     have:nm t.gen=true:=by
      cases hn:nm t.gen with
      | true=>rfl
      | false=>exact absurd ⟨h3,hn⟩ h2
     have:=qi this
     omega
theorem PN:∀ (l:List Pm),fU l=0→tot (fun a=>wt (iV a)) l≤26 * l.length
 | [],_=>by simp [tot]
 | p :: l,h=>by
  unfold fU at h
  split at h
  ·omega
  ·rename_i h1
   split at h
   ·rename_i h2;exact absurd h h2
   ·rename_i h2
    have:=PN l h
    have:=IM (by simpa using h2:bN p.ty=0)
    have:=qi (by simpa using h1:nm p.name=true)
    unfold tot
    have e:wt (iV p)=p.name.size+1+wt (cZ p.ty):=by unfold iV;rw [eU,eX,iY]
    rw [e,List.length_cons]
    omega
theorem PO {l:List Pm}(h:fU l=0)(h6:l.length≤6):wt (fB l)≤172:=by
 unfold fB
 have:=PN l h
 have:=DT iV l 0
 rw [eU,eU,eX,eX,iY]
 have:(⟨#[40]⟩:ByteArray).size=1:=rfl
 have:(⟨#[41]⟩:ByteArray).size=1:=rfl
 omega
theorem ZX (d:Df)(n m:Nat)(h:dX d n=.ok m):wt (fI d)+400 * n≤400 * m:=by
 unfold dX at h
 split at h
 ·simp at h
 ·rename_i h0
  have h0:fw d n=0:=by simpa using h0
  unfold fw at h0
  split at h0
  ·rename_i h1;exact absurd h0 h1
  ·rename_i hn
   have hz:=iC (by simpa using hn:bB d.kind 4 40 n=0)
   split at h0
   ·omega
   ·rename_i hname
    have hname:=qi (by simpa using hname:nm d.name=true)
    split at h0
    ·omega
    ·rename_i h6
     split at h0
     ·rename_i h1;exact absurd h0 h1.2
     ·rename_i hpm
      split at h0
      ·rename_i h1;exact absurd h0 h1.2
      ·rename_i htk
       split at h0
       ·rename_i h1;exact absurd h0 h1.2
       ·rename_i hty
        split at h0
        ·omega
        ·rename_i hcap
         have pm:d.kind=2∨d.kind=3→wt (fB d.params)≤172:=by
          intro hk
          refine PO ?_ ?_
          ·by_cases he:fU d.params=0
           ·exact he
           ·exact absurd ⟨hk,he⟩ hpm
          ·by_cases he:6<d.params.length
           ·exact absurd ⟨hk,he⟩ h6
           ·omega
         have ty:d.kind≠4→wt (cZ d.ty)≤13:=by
          intro hk
          refine IM ?_
          by_cases he:bN d.ty=0
          ·exact he
          ·exact absurd ⟨hk,he⟩ hty
         have tk:d.kind=3→wt (cZ d.takes)≤13:=by
          intro hk
          refine IM ?_
          by_cases he:bN d.takes=0
          ·exact he
          ·exact absurd ⟨hk,he⟩ htk
         clear hpm hty htk h6
         split at h
         ·rename_i hk
          simp at h
          have:=ty (by omega)
          have:=PK d.cap (by omega) (by omega)
          unfold fI
          rw [if_pos hk,eU,eU,eX,eX,eX,eX,iY]
          have:(⟨#[98,111,120]⟩:ByteArray).size=3:=rfl
          have:(⟨#[59]⟩:ByteArray).size=1:=rfl
          omega
         ·rename_i hk
          have hb:=Az (g:=fun a=>wt (aC 39 a)) (fun a i j=>AA 39 a i j) h
          unfold fI
          rw [if_neg hk]
          split
          ·rename_i hk2
           have:=pm (.inl hk2)
           have:=ty (by omega)
           rw [eU,eU,eU,yA,eX,eX,iY]
           have:(⟨#[102,110]⟩:ByteArray).size=2:=rfl
           omega
          ·split
           ·rename_i hk3
            have:=pm (.inr hk3)
            have:=ty (by omega)
            have:=tk hk3
            rw [eU,eU,eU,eU,eU,eU,yA,eX,eX,iY]
            have:(⟨#[103,101,110]⟩:ByteArray).size=3:=rfl
            have:wt [⟨#[116,97,107,101,115]⟩]=6:=rfl
            have:wt [⟨#[121,105,101,108,100,115]⟩]=7:=rfl
            omega
           ·rw [eU,yA,eX,eX,iY]
            have:(⟨#[116,97,115,107]⟩:ByteArray).size=4:=rfl
            omega
theorem ZY {d:Df}{n m:Nat}(h:dX d n=.ok m):m≤2000:=by
 unfold dX at h
 split at h
 ·simp at h
 ·rename_i h0
  have h0:fw d n=0:=by simpa using h0
  unfold fw at h0
  split at h0
  ·rename_i h1;exact absurd h0 h1
  ·rename_i hn
   have hz:=iC (by simpa using hn:bB d.kind 4 40 n=0)
   split at h
   ·simp at h;omega
   ·exact o8 (nJ 39) (by omega) h
theorem PQ:∀ (l:List Df) (i n:Nat),(iB l i n).1=0→n≤2000→wt (dW l)+400 * n≤800000
 | [],i,n,_,hn=>by simp [dW,iY];omega
 | d :: l,i,n,h,hn=>by
  unfold iB at h
  cases hd:dX d n with
  | error e =>
   rw [hd] at h
   simp only at h
   subst h
   exfalso
   exact zz hd rfl
  | ok m =>
   rw [hd] at h
   have h1:=ZX d n m hd
   have h2:=PQ l (i+1) m h (ZY hd)
   have:dW (d :: l)=fI d++dW l:=by simp [dW]
   rw [this,eU]
   omega
theorem ZZ:∀ (ws:List ByteArray),Lib.join (ws.map (·.data.toList)) [32]=(flat ws).take ((flat ws).length - 1)
 | []=>rfl
 | x :: l=>by
  have hj:∀ (l:List ByteArray),Lib.joinTail [32] (l.map (·.data.toList))++[32]=[32]++flat l:=by
   intro l
   induction l with
   | nil=>rfl
   | cons y l ih =>
    have:Lib.joinTail [32] ((y :: l).map (·.data.toList))=[32]++y.data.toList++Lib.joinTail [32] (l.map (·.data.toList)):=by simp [Lib.joinTail]
    rw [this,List.append_assoc,ih,IJ]
    simp
  rw [List.map_cons,Lib.join_cons]
  have e:flat (x :: l)=(x.data.toList++Lib.joinTail [32] (l.map (·.data.toList)))++[32]:=by
   rw [IJ,List.append_assoc,← hj l];simp
  rw [e,List.length_append,List.length_singleton,Nat.add_sub_cancel,List.take_left']
  rfl
end Sy
end Go.Proofs.YtolfleeidpeomaaGreatDoor
namespace Go.Proofs.YtolfleeidpeomaaGreatDoor
open Go.RowKit
namespace Sy
def oW (d:Nat)(x:Ex):Prop:=∃ n m,n≤2000∧aF d x n=.ok m
def uF (d:Nat)(s:St):Prop:=∃ n m,n≤2000∧aO d s n=.ok m
def AB (d:Nat)(l:List St):Prop:=∃ n m,n≤2000∧cO (aO d) l n=.ok m
theorem Z0 {α:Type}{f:α→Nat→Except Int Nat}(hf:∀ a n m,n≤2000→f a n=.ok m→m≤2000){l:List α}:∀ {n m:Nat},n≤2000→runs f l n=.ok m→∀ a ∈ l,∃ i j,i≤2000∧f a i=.ok j:=by
 induction l with
 | nil=>intro n m _ _ a ha;cases ha
 | cons b l ih =>
  intro n m hn h a ha
  unfold runs at h
  cases hb:f b n with
  | error e=>rw [hb] at h;simp at h
  | ok k =>
   rw [hb] at h
   rcases List.mem_cons.1 ha with rfl | ha
   ·exact ⟨n,k,hn,hb⟩
   ·exact ih (hf b n k hn hb) h a ha
theorem oW.ok {d:Nat}{x:Ex}(h:oW d x):dR d x:=by
 obtain ⟨n,m,_,h⟩:=h
 exact CO d x n m h
theorem oW.wt {d:Nat}{x:Ex}(h:oW d x):wt (ai d x)≤800000:=by
 obtain ⟨n,m,hn,h⟩:=h
 have h1:=jw d x n m hn h
 have h2:=DU d x n m h
 omega
theorem oW.runs {d:Nat}{x:Ex}(h:oW (d+1) x):∃ n m,n≤2000∧m≤2000∧Sy.runs (aF d) x.kids n=.ok m:=by
 obtain ⟨n,m,hn,h⟩:=h
 have hm:=jw _ _ _ _ hn h
 unfold aF at h
 split at h
 ·simp at h
 ·rename_i h0
  have hz:=iC (by simpa using h0:bB x.kind 24 (d+1) n=0)
  split at h
  ·simp at h
  ·exact ⟨n+1,m,by omega,hm,h⟩
theorem oW.kid {d:Nat}{x k:Ex}(h:oW (d+1) x)(hk:k ∈ x.kids):oW d k:=by
 obtain ⟨n,m,hn,_,h⟩:=h.runs
 obtain ⟨i,j,hi,hij⟩:=Z0 (jw d) hn h k hk
 exact ⟨i,j,hi,hij⟩
theorem oW.list {d:Nat}{x:Ex}(h:oW (d+1) x):Sy.wt (bZ (ai d) 0 x.kids)≤800100:=by
 have h6:x.kids.length≤6:=by
  have:=(PL h.ok.2.2.1).2.2.2
  have:=PM x.kind
  omega
 obtain ⟨n,m,hn,hm,h⟩:=h.runs
 have h1:=DR (g:=fun a=>Sy.wt (ai d a)) (fun a i j=>DU d a i j) x.kids n m h
 have h2:=DT (ai d) x.kids 0
 omega
theorem AB.wt {d:Nat}{l:List St}(h:AB d l):Sy.wt (l.flatMap (aC d))≤800000:=by
 obtain ⟨n,m,hn,h⟩:=h
 have h1:=Az (g:=fun a=>Sy.wt (aC d a)) (fun a i j=>AA d a i j) h
 have h2:=o8 (nJ d) hn h
 rw [IK]
 omega
theorem uF.kind {d:Nat}{s:St}(h:uF d s):1≤s.kind∧s.kind≤9:=by
 obtain ⟨n,m,hn,h⟩:=h
 cases d with
 | zero=>simp [aO] at h
 | succ d =>
  unfold aO at h
  split at h
  ·simp at h
  ·rename_i h0
   have hz:=iC (by simpa using h0:bB s.kind 9 (d+1) n=0)
   exact ⟨hz.2.1,hz.2.2.1⟩
theorem uF.name {d:Nat}{s:St}(h:uF d s)(hk:s.kind=1∨s.kind=2∨s.kind=7):s.name.size≤12:=by
 obtain ⟨n,m,hn,h⟩:=h
 cases d with
 | zero=>simp [aO] at h
 | succ d =>
  unfold aO at h
  split at h
  ·simp at h
  ·split at h
   ·simp at h
   ·rename_i h1
    refine qi ?_
    cases hb:nm s.name with
    | true=>rfl
    | false=>exact absurd ⟨hk,hb⟩ h1
theorem uF.x {d:Nat}{s:St}(h:uF (d+1) s)(hk:s.kind≠6):oW d s.x:=by
 obtain ⟨n,m,hn,h⟩:=h
 unfold aO at h
 split at h
 ·simp at h
 ·rename_i h0
  have hz:=iC (by simpa using h0:bB s.kind 9 (d+1) n=0)
  split at h
  ·simp at h
  ·cases hx:aF d s.x (n+1) with
   | error e=>rw [hx] at h;simp at h
   | ok k=>exact ⟨n+1,k,by omega,hx⟩
theorem uF.body {d:Nat}{s:St}(h:uF (d+1) s)(hk:s.kind=3∨s.kind=4):AB d s.body∧(s.kind=3→AB d s.els):=by
 obtain ⟨n,m,hn,h⟩:=h
 unfold aO at h
 split at h
 ·simp at h
 ·rename_i h0
  have hz:=iC (by simpa using h0:bB s.kind 9 (d+1) n=0)
  split at h
  ·simp at h
  ·rw [if_neg (by omega)] at h
   cases hx:aF d s.x (n+1) with
   | error e=>rw [hx] at h;simp at h
   | ok k =>
    rw [hx] at h
    have hk2:=jw _ _ _ _ (by omega) hx
    simp only [dN] at h
    rw [if_pos hk] at h
    cases hb:cO (aO d) s.body k with
    | error e=>rw [hb] at h;simp at h
    | ok k2 =>
     rw [hb] at h
     have hk3:=o8 (nJ d) hk2 hb
     refine ⟨⟨k,k2,hk2,hb⟩,fun h3=>?_⟩
     simp only [h3,if_true] at h
     exact ⟨k2,m,hk3,h⟩
end Sy
theorem PS (P Bs:Nat)(ws:List ByteArray)(mv:Value)(i:Nat)(w:World)(cz:Hid (PR w P Bs ws mv))(pQ:P<Bs)(jW:Bs≤w.heap.size)(hn:ws.length+1≤1000000) :
  Calls Tryz.prog 55 #[.pointer (some ⟨P,0,none⟩),.int .i64 (i:Int)] w fun e w'=>bV P Bs mv ws (if 0<i then [⟨#[44]⟩] else []) w e w':=by
 by_cases hi:0<i
 ·obtain ⟨o,ho⟩:∃ o,o=(if 0<i then [(⟨#[44]⟩:ByteArray)] else []):=⟨_,rfl⟩
  rw [← ho]
  have HO:Hid (o=[⟨#[44]⟩]):=by rw [ho,if_pos hi];rfl
  have gi:0<(i:Int):=by omega
  clear ho hi
  go_enter Tryz.func55,Tryz.ntmps55
  go_wp2_with fail
  refine (jB P Bs ws [⟨#[44]⟩] mv 1 w.heap.size w rfl cz pQ jW hn).mono ?_
  rintro e w1 hp
  have HP:Hid (bV P Bs mv ws [⟨#[44]⟩] w e w1):=hp
  obtain rfl:=hp.1
  clear hp
  go_wp2
  go_end0
  rw [HO.out]
  exact HP.out
 ·obtain ⟨o,ho⟩:∃ o,o=(if 0<i then [(⟨#[44]⟩:ByteArray)] else []):=⟨_,rfl⟩
  rw [← ho]
  have HO:Hid (o=[]):=by rw [ho,if_neg hi];rfl
  have gi:(i:Int)≤0:=by omega
  clear ho hi
  go_enter Tryz.func55,Tryz.ntmps55
  go_wp2
  go_end0
  rw [HO.out]
  exact ⟨rfl,by rw [List.append_nil];exact cz.out,Fr.refl _ _ _⟩
theorem Z5 (n:Int)(w:World):Calls Tryz.prog 118 #[.int .i64 n] w fun e w'=>e=.returned (.string (Sy.lN n))∧w'=w:=by
 obtain ⟨o,ho⟩:∃ o,o=Sy.lN n:=⟨_,rfl⟩
 rw [← ho]
 have HO:Hid (o=Sy.lN n):=ho
 clear ho
 by_cases h:n=1
 ·have HN:Hid (n=1):=h
  have e1:(n==1)=true:=by simp [h]
  clear h
  go_enter Tryz.func118,Tryz.ntmps118
  go_wp2
  go_ret
  exact ⟨by rw [HO.out,HN.out];rfl,rfl⟩
 ·have HN:Hid (Sy.lN n=⟨#[102,97,108,115,101]⟩):=by unfold Sy.lN;rw [if_neg h];rfl
  have e1:(n==1)=false:=by simp [h]
  clear h
  go_enter Tryz.func118,Tryz.ntmps118
  go_wp2
  go_ret
  exact ⟨by rw [HO.out,HN.out];rfl,rfl⟩
theorem Z6 (P Bs M:Nat)(ws:List ByteArray)(k:Int)(w:World)(cz:Hid (PR w P Bs ws (.map (some M))))(hM:Hid (mM w M)) :
  Calls Tryz.prog 143 #[.pointer (some ⟨P,0,none⟩),.int .i64 k] w fun e w'=>e=.returned (.int .i64 (Sy.iT k))∧Below w.heap.size w w':=by
 obtain ⟨v,hP,hown⟩:=cz.out
 obtain ⟨c0,c1,f0,f1⟩:=bE hP
 have hlk:=FT M k w hM.out
 unfold uj at hlk
 have HL:Hid (Sy.iT k=if 0<Sy.aW k then Sy.aW k else 6):=rfl
 clear hP hown
 obtain ⟨L,hL⟩:∃ L,Sy.aW k=L:=⟨_,rfl⟩
 obtain ⟨o,ho⟩:∃ o,o=Sy.iT k:=⟨_,rfl⟩
 rw [← ho]
 rw [hL] at hlk HL
 rw [← ho] at HL
 clear hL ho
 generalize (if 0<L then k else 0)=kk at hlk
 generalize Sy.sign k=sg at hlk
 by_cases h:0<L
 ·have HN:Hid (o=L):=by have:=HL.out;rw [if_pos h] at this;exact this
  go_enter Tryz.func143,Tryz.ntmps143
  go_wp2
  go_ret
  exact ⟨oI HN.out.symm,(Below.refl _ w).alloc (Nat.le_refl _) _⟩
 ·have HN:Hid (o=6):=by have:=HL.out;rw [if_neg h] at this;exact this
  have h':L≤0:=by omega
  clear h
  go_enter Tryz.func143,Tryz.ntmps143
  go_wp2
  go_ret
  exact ⟨oI HN.out.symm,(Below.refl _ w).alloc (Nat.le_refl _) _⟩
theorem AJ {t:Sy.Ty}(h:Sy.bN t=0):t.kind=1∨t.kind=2∨t.kind=3:=by
 unfold Sy.bN at h
 split at h
 ·omega
 ·omega
theorem AL (P Bs:Nat)(ws:List ByteArray)(mv:Value)(t:Sy.Ty)(w:World)(cz:Hid (PR w P Bs ws mv))(pQ:P<Bs)(jW:Bs≤w.heap.size)(hn:ws.length+1≤1000000)(ht:t.kind=1∨t.kind=2∨t.kind=3) :
  Calls Tryz.prog 27 #[.pointer (some ⟨P,0,none⟩),aQ t] w fun e w'=>bV P Bs mv ws (Sy.cZ t) w e w':=by
 have HF:Hid (Fr P Bs w (w.alloc (.cells #[.int .i64 t.kind,.string t.gen] 46))):=Fr.alloc _ _ _ _
 have IP:Hid (PR (w.alloc (.cells #[.int .i64 t.kind,.string t.gen] 46)) P Bs ws mv):=cz.out.alloc _
 obtain ⟨o,ho⟩:∃ o,o=Sy.cZ t:=⟨_,rfl⟩
 rw [← ho]
 have HO:Hid (o=Sy.cZ t):=ho
 clear ho
 rcases ht with h | h | h
 ·have aP:Hid (o=[⟨#[110,117,109]⟩]):=by have:=HO.out;unfold Sy.cZ at this;rw [if_pos h] at this;exact this
  have e1:(t.kind==1)=true:=by simp [h]
  clear h
  go_enter Tryz.func27,Tryz.ntmps27
  go_wp2_with fail
  refine (jB P Bs ws [⟨#[110,117,109]⟩] mv 1 (w.heap.size+1) _ (by simp) IP pQ (by simp;omega) hn).mono ?_
  rintro e w1 hp
  have HP:Hid (bV P Bs mv ws [⟨#[110,117,109]⟩] w e w1):=⟨hp.1,hp.2.1,HF.out.trans hp.2.2⟩
  obtain rfl:=hp.1
  clear hp
  go_wp2
  go_end0
  rw [aP.out]
  exact HP.out
 ·have aP:Hid (o=[⟨#[98,111,111,108]⟩]):=by have:=HO.out;unfold Sy.cZ at this;rw [if_neg (by omega),if_pos h] at this;exact this
  have e1:(t.kind==1)=false:=by simp [h]
  have e2:(t.kind==2)=true:=by simp [h]
  clear h
  go_enter Tryz.func27,Tryz.ntmps27
  go_wp2_with fail
  refine (jB P Bs ws [⟨#[98,111,111,108]⟩] mv 1 (w.heap.size+1) _ (by simp) IP pQ (by simp;omega) hn).mono ?_
  rintro e w1 hp
  have HP:Hid (bV P Bs mv ws [⟨#[98,111,111,108]⟩] w e w1):=⟨hp.1,hp.2.1,HF.out.trans hp.2.2⟩
  obtain rfl:=hp.1
  clear hp
  go_wp2
  go_end0
  rw [aP.out]
  exact HP.out
 ·have aP:Hid (o=[t.gen]):=by have:=HO.out;unfold Sy.cZ at this;rw [if_neg (by omega),if_neg (by omega)] at this;exact this
  have e1:(t.kind==1)=false:=by simp [h]
  have e2:(t.kind==2)=false:=by simp [h]
  have e3:(t.kind==3)=true:=by simp [h]
  clear h
  go_enter Tryz.func27,Tryz.ntmps27
  go_upto_region 7 with fail
  go_region_with (go_at_call 26;refine (oO P Bs ws [t.gen] mv 1 (w.heap.size+1) _ (by simp) IP pQ (by simp;omega) hn).mono ?_;rintro e w1 hp;have HP:Hid (bV P Bs mv ws [t.gen] w e w1):=⟨hp.1,hp.2.1,HF.out.trans hp.2.2⟩;obtain rfl:=hp.1;clear hp)
  all_goals
   go_wp2
   go_end0
   rw [aP.out]
   exact Hid.out (by assumption)
abbrev jG (x:Sy.Ex) (a:Option Addr) (c:Nat):Obj:=.cells #[.int .i64 x.kind,.int .i64 x.n,.string x.name,.slice a x.kids.length c] 122 (0,0)
theorem AO {w w1:World}(hb:Below w.heap.size w w1):w.grownBy w1 none:=⟨hb.os,hb.tape,hb.output,hb.size,fun k hk _=>hb.block k hk⟩
end Go.Proofs.YtolfleeidpeomaaGreatDoor

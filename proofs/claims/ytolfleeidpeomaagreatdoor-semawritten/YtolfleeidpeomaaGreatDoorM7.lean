/- The walk of beginsExpr. -/
import Derived.Test.YtolfleeidpeomaaGreatDoorM6
import Derived.Test.YtolfleeidpeomaaGreatDoorM4
import Derived.Deep.Cut
import Derived.Deep.DeepCutAuto
import Derived.Deep.CutBlock
set_option maxRecDepth 100000
set_option maxHeartbeats 2000000
namespace Go.Proofs.YtolfleeidpeomaaGreatDoor
open Go.RowKit
def pE:List ByteArray:=[⟨#[45]⟩,⟨#[110,111,116]⟩,⟨#[40]⟩,⟨#[116,114,117,101]⟩,⟨#[102,97,108,115,101]⟩,⟨#[115,116,97,114,116]⟩,⟨#[114,101,99,118]⟩,⟨#[121,105,101,108,100]⟩,⟨#[97,108,105,118,101]⟩,⟨#[114,101,115,117,109,101]⟩]
theorem VI (t:Lx.Tk)(w:World)(hz:t.text.size≤maxLen) :
  Calls Tryz.prog 162 #[tT t] w fun e w'=>e=.returned (.bool (decide (t.kind=2) || (Lx.named t.text.toList || oneOf t.text pE)))∧Below w.heap.size w w':=by
 obtain ⟨b,hb⟩:∃ b,b=(decide (t.kind=2) || (Lx.named t.text.toList || oneOf t.text pE)):=⟨_,rfl⟩
 have HB:Hid (b=(decide (t.kind=2) || (Lx.named t.text.toList || oneOf t.text pE))):=hb
 rw [← hb]
 clear hb
 by_cases hk:t.kind=2
 ·have e0:((t.kind:Int)==2)=true:=by simp;omega
  have HB2:Hid (b=true):=by rw [HB.out,decide_eq_true hk];rfl
  clear hk
  go_enter Tryz.func162,Tryz.ntmps162
  go_wp2
  go_ret
  exact ⟨by rw [HB2.out];rfl,(Below.refl _ w).alloc (Nat.le_refl _) _⟩
 ·have e0:((t.kind:Int)==2)=false:=by simp;omega
  have jT:Hid (b=(Lx.named t.text.toList || oneOf t.text pE)):=by rw [HB.out,decide_eq_false hk];rfl
  clear hk
  cases hn:Lx.named t.text.toList with
  | true =>
   have HN:Hid (Lx.named t.text.toList=true):=hn
   have HB2:Hid (b=true):=by rw [jT.out,hn];rfl
   clear hn
   go_enter Tryz.func162,Tryz.ntmps162
   go_wp2_with fail
   refine (rH t.text _ hz).mono ?_
   rintro e w2 ⟨he,rfl⟩
   rw [HN.out] at he
   subst he
   go_wp2
   go_ret
   exact ⟨by rw [HB2.out];rfl,(Below.refl _ w).alloc (Nat.le_refl _) _⟩
  | false =>
   have HN:Hid (Lx.named t.text.toList=false):=hn
   have HB2:Hid (b=oneOf t.text pE):=by rw [jT.out,hn];rfl
   clear hn
   have HC:=FC (w.alloc (.cells #[.int .i64 t.kind,.string t.text,.int .i64 t.num,.int .i64 t.pos] 88)) pE
   rw [World.size_alloc] at HC
   have iD:Hid (∀ j x,pE[j]?=some x→((w.alloc (.cells #[.int .i64 t.kind,.string t.text,.int .i64 t.num,.int .i64 t.pos] 88)).alloc (.cells (pE.map Value.string).toArray 9)).cell? ⟨w.heap.size+1,j,none⟩=some (.string x)):=HC
   clear HC
   go_enter Tryz.func162,Tryz.ntmps162
   go_wp2_with fail
   refine (rH t.text _ hz).mono ?_
   rintro e w2 ⟨he,rfl⟩
   rw [HN.out] at he
   subst he
   go_wp2_with fail
   refine (FB t.text pE (w.heap.size+1) 10 b _ (by decide) iD HB2).mono ?_
   rintro e w3 ⟨rfl,rfl⟩
   go_wp2
   go_ret
   exact ⟨rfl,((Below.refl _ w).alloc (Nat.le_refl _) _).alloc (by simp) _⟩
def jU (kind most:Int)(d n:Nat):Except Int Nat:=if Sy.bB kind most d n≠0 then .error (Sy.bB kind most d n) else .ok (n+1)
theorem jd (C n d:Nat)(num kind most deep:Int)(r:Except Int Nat)(w:World)(hC:Hid (CK w C num n))(hn:n≤2000)(hd:deep=41 - d)(hr:Hid (r=jU kind most d n)) :
  Calls Tryz.prog 48 #[.pointer (some ⟨C,0,none⟩),.int .i64 kind,.int .i64 most,.int .i64 deep] w fun e w'=>w.grownBy w' (some C)∧l8 C num r e w':=by
 have iE:Hid (CK (w.setCell ⟨C,1,none⟩ (.int .i64 ((n:Int)+1))) C num (n+1)):=hC.out.set1 (by omega)
 have HG:Hid (w.grownBy (w.setCell ⟨C,1,none⟩ (.int .i64 ((n:Int)+1))) (some C)):=gQ _ _ _ _
 obtain ⟨c0,c1,f0,f1⟩:=hC.out.cells
 by_cases h1:2000<n+1
 ·have HR:Hid (r=.error 4):=by
   have:Sy.bB kind most d n=4:=by unfold Sy.bB;rw [if_pos (.inl h1)]
   have:=hr.out;unfold jU at this;simp_all [Hid]
  have e1:decide ((n:Int)+1 > 2000)=true:=by simp;omega
  go_enter Tryz.func48,Tryz.ntmps48
  go_wp2_with fail
  refine (jy C (n+1) num 4 _ iE.out).mono ?_
  rintro e w1 ⟨rfl,rfl⟩
  go_wp2
  exact ⟨rfl,HG.out,by rw [HR.out];rfl⟩
 ·have e1:(n:Int)+1≤2000:=by omega
  by_cases h2:d=0
  ·have HR:Hid (r=.error 4):=by
    have:Sy.bB kind most d n=4:=by unfold Sy.bB;rw [if_pos (.inr h2)]
    have:=hr.out;unfold jU at this;simp_all [Hid]
   have e2:40<deep:=by omega
   clear h2 hd h1 hn
   go_enter Tryz.func48,Tryz.ntmps48
   go_wp2_with fail
   refine (jy C (n+1) num 4 _ iE.out).mono ?_
   rintro e w1 ⟨rfl,rfl⟩
   go_wp2
   exact ⟨rfl,HG.out,by rw [HR.out];rfl⟩
  ·have e2:deep≤40:=by omega
   obtain ⟨er,hE⟩:∃ er:Int,er=if kind<1∨most<kind then 1 else 0:=⟨_,rfl⟩
   have HE:Hid (er=if kind<1∨most<kind then 1 else 0):=hE
   have HR:Hid (r=if er≠0 then .error er else .ok (n+1)):=by
    have:Sy.bB kind most d n=er:=by unfold Sy.bB;rw [if_neg (by omega),hE]
    have h:=hr.out;unfold jU at h;rw [this] at h;exact h
   clear h2 hd hE h1 hn
   go_enter Tryz.func48,Tryz.ntmps48
   go_wp2_with fail
   refine (Cr C (n+1) num kind most er _ iE HE).mono ?_
   rintro e w1 hf
   have HF:Hid (jb num er _ e w1):=hf
   clear hf
   by_cases h0:er=0
   ·have HR2:Hid (r=.ok (n+1)):=by have h:=HR.out;rw [if_neg (by simpa using h0)] at h;exact h
    obtain rfl:=oK HF.out h0
    clear h0
    go_wp2
    go_end0
    exact ⟨aB HG.out ⟨HF.out.1.os,HF.out.1.tape,HF.out.1.output,HF.out.1.size,fun k hk _=>HF.out.1.block k hk (by simp)⟩,by rw [HR2.out];exact ⟨rfl,iE.out.keep HF.out.1 (by simp)⟩⟩
   ·have HR2:Hid (r=.error er):=by have h:=HR.out;rw [if_pos (by simpa using h0)] at h;exact h
    obtain rfl:=oL HF.out h0
    clear h0
    go_wp2
    exact ⟨rfl,aB HG.out ⟨HF.out.1.os,HF.out.1.tape,HF.out.1.output,HF.out.1.size,fun k hk _=>HF.out.1.block k hk (by simp)⟩,by rw [HR2.out];rfl⟩
theorem Calls.ok0 {f:FuncId}{a:Array Value}{w:World}{num er:Int}(h:Calls Tryz.prog f a w (fun e w'=>jb num er w e w'))(h0:er=0) :
  Calls Tryz.prog f a w fun e w'=>e=.returned (.tuple #[])∧w.grownBy w' none:=h.mono (fun _ _ hf=>⟨oK hf h0,hf.1⟩)
theorem Calls.l9 {f:FuncId}{a:Array Value}{w:World}{num er:Int}(k:Int)(h:Calls Tryz.prog f a w (fun e w'=>jb num er w e w'))(h0:er=k)(hk:k≠0) :
  Calls Tryz.prog f a w fun e w'=>e=.panicked [aH k num]∧w.grownBy w' none:=h.mono (fun _ _ hf=>⟨by rw [oL hf (by omega),h0],hf.1⟩)
theorem je {w w1:World}{o:Obj}{r:Option Nat}(hg:(w.alloc o).grownBy w1 r)(hr:r≠some w.heap.size):w1.heap[w.heap.size]?=some o :=
 (hg.block _ (by simp) (fun e=>hr e.symm)).trans (heap_alloc_new w o)
theorem vD {w1 w2:World}{o:Obj}{r:Option Nat}{b:Nat}(h:w1.heap[b]?=some o)(hg:w1.grownBy w2 r)(hr:r≠some b):w2.heap[b]?=some o :=
 (hg.block _ (lt_of_block h) (fun e=>hr e.symm)).trans h
theorem iO {w w':World}(h:w.grownBy w' none)(r:Option Nat):w.grownBy w' r:=⟨h.os,h.tape,h.output,h.size,fun k hk _=>h.block k hk (by simp)⟩
theorem gu {w w1:World}{o:Obj}{r:Option Nat}(hg:(w.alloc o).grownBy w1 r):w.grownBy w1 r:=aB (World.grownBy_alloc _ _ _) hg
theorem CK.alloc {w:World}{C n:Nat}{num:Int}(h:CK w C num n)(o:Obj):CK (w.alloc o) C num n:=h.keep (World.grownBy_alloc w o none) (by simp)
theorem VJ {k j:IntKind}{a b c d:Int}(h:a=b)(h2:c=d):Ending.returned (.tuple #[.int k a,.int j c])=.returned (.tuple #[.int k b,.int j d]):=by rw [h,h2]
theorem zw (C n:Nat)(num er:Int)(t:Sy.Ty)(w:World)(hC:Hid (CK w C num n))(hs:t.gen.size≤maxLen)(he:Hid (er=Sy.bN t)) :
  Calls Tryz.prog 51 #[.pointer (some ⟨C,0,none⟩),aQ t] w fun e w'=>jb num er w e w':=by
 have hlt:=hC.out.lt
 by_cases h1:t.kind<1∨3<t.kind
 ·have HE:Hid (er=1):=by have:=he.out;unfold Sy.bN at this;rw [if_pos h1] at this;exact this
  have HK:Hid ((1:Int)=if t.kind<1∨3<t.kind then 1 else 0):=by rw [if_pos h1];rfl
  clear h1
  have eZ:Hid (CK (w.alloc (.cells #[.int .i64 t.kind,.string t.gen] 46)) C num n):=hC.out.alloc _
  go_enter Tryz.func51,Tryz.ntmps51
  go_wp2_with fail
  refine (Calls.l9 1 (Cr C n num t.kind 3 1 _ eZ HK) rfl (by decide)).mono ?_
  rintro e w1 ⟨rfl,hg⟩
  go_wp2
  exact ⟨rfl,pq (gu hg) HE.out (by decide)⟩
 ·have HK:Hid ((0:Int)=if t.kind<1∨3<t.kind then 1 else 0):=by rw [if_neg h1];rfl
  have HX:Hid (er=if t.kind=3∧Sy.nm t.gen=false then 7 else 0):=by have:=he.out;unfold Sy.bN at this;rw [if_neg h1] at this;exact this
  clear h1
  by_cases h3:t.kind=3
  ·have H3:Hid (t.kind=3):=h3
   obtain ⟨nM,hE2⟩:∃ nM:Int,nM=if Sy.nm t.gen=false then 7 else 0:=⟨_,rfl⟩
   have HE2:Hid (nM=if Sy.nm t.gen=false then 7 else 0):=hE2
   have nK:Hid (er=nM):=by have:=HX.out;simp only [H3.out,true_and] at this;rw [this,hE2];rfl
   have e3:(t.kind==3)=true:=by simp [h3]
   clear h3 hE2
   have eZ:Hid (CK (w.alloc (.cells #[.int .i64 t.kind,.string t.gen] 46)) C num n):=hC.out.alloc _
   go_enter Tryz.func51,Tryz.ntmps51
   go_wp2_with fail
   refine (Calls.ok0 (Cr C n num t.kind 3 0 _ eZ HK) rfl).mono ?_
   rintro e w1 ⟨rfl,hg⟩
   have hb:=bE (je hg (by simp))
   obtain ⟨b0,b1,_,_⟩:=hb
   have iE:Hid (CK w1 C num n):=eZ.out.keep hg (by simp)
   have HG:Hid (w.grownBy w1 none):=gu hg
   clear hg
   go_wp2_with fail
   refine (jM C n num nM t.gen _ iE hs HE2).mono ?_
   rintro e w2 hf
   have HF:Hid (jb num nM w1 e w2):=hf
   clear hf
   by_cases h0:nM=0
   ·obtain rfl:=oK HF.out h0
    have H0:Hid (nM=0):=h0
    clear h0
    go_wp2
    go_end0
    exact vv (aB HG.out HF.out.1) (by rw [nK.out];exact H0.out)
   ·obtain rfl:=oL HF.out h0
    have H0:Hid (nM≠0):=h0
    clear h0
    go_wp2
    exact ⟨rfl,pq (aB HG.out HF.out.1) nK.out H0.out⟩
  ·have HE:Hid (er=0):=by have:=HX.out;rw [if_neg (by simp [h3])] at this;exact this
   have e3:(t.kind==3)=false:=by simp [h3]
   clear h3
   have eZ:Hid (CK (w.alloc (.cells #[.int .i64 t.kind,.string t.gen] 46)) C num n):=hC.out.alloc _
   go_enter Tryz.func51,Tryz.ntmps51
   go_wp2_with fail
   refine (Calls.ok0 (Cr C n num t.kind 3 0 _ eZ HK) rfl).mono ?_
   rintro e w1 ⟨rfl,hg⟩
   have hb:=bE (je hg (by simp))
   obtain ⟨b0,b1,_,_⟩:=hb
   have HG:Hid (w.grownBy w1 none):=gu hg
   clear hg
   go_wp2
   go_end0
   exact vv HG.out HE.out
theorem VK (k:Int)(w:World) :
  Calls Tryz.prog 137 #[.int .i64 k] w fun e w'=>e=.returned (.tuple #[.int .i64 (Sy.least k),.int .i64 (Sy.most k)])∧w'=w:=by
 obtain ⟨l,hl⟩:∃ l,Sy.least k=l:=⟨_,rfl⟩
 obtain ⟨m,hm⟩:∃ m,Sy.most k=m:=⟨_,rfl⟩
 rw [hl,hm]
 have HL:Hid (Sy.least k=l):=hl
 have HM:Hid (Sy.most k=m):=hm
 clear hl hm
 go_enter Tryz.func137,Tryz.ntmps137
 go_wp2
 all_goals go_ret2
 all_goals refine ⟨VJ ?_ ?_,rfl⟩
 all_goals first | rw [← HL.out] | rw [← HM.out]
 all_goals
  clear HL HM
  simp only [beq_iff_eq,beq_eq_false_iff_ne,ne_eq] at *
  first | unfold Sy.least | unfold Sy.most
  repeat' split
  all_goals omega
theorem gB {w:World}{b:Nat}{v0 v1 v2:Value}{t:TypeId}(h:w.heap[b]?=some (.cells #[v0,v1,v2] t (0,0))) :
  w.cell? ⟨b,0,none⟩=some v0∧w.cell? ⟨b,1,none⟩=some v1∧w.cell? ⟨b,2,none⟩=some v2:=by simp [World.cell?,h]
theorem VL {l:List Sy.Pm}{k:Nat}{p:Sy.Pm}(h:l[k]?=some p):Sy.fU (l.drop k)=if Sy.nm p.name=false then 7 else if Sy.bN p.ty≠0 then Sy.bN p.ty else Sy.fU (l.drop (k+1)):=by
 obtain ⟨hk,rfl⟩:=List.getElem?_eq_some_iff.1 h
 rw [List.drop_eq_getElem_cons hk]
 rfl
theorem zx (C B n:Nat)(num er:Int)(l:List Sy.Pm)(a:Option Addr)(c:Nat)(w:World)(dI:B≤C)(hC:Hid (CK w C num n))(hP:Hid (rM B w l a))(he:Hid (er=if 6<l.length then 5 else Sy.fU l)) :
  Calls Tryz.prog 50 #[.pointer (some ⟨C,0,none⟩),.slice a l.length c] w fun e w'=>jb num er w e w':=by
 have hlen:=hP.out.1
 unfold maxLen at hlen
 obtain ⟨L,hL⟩:∃ L,l.length=L:=⟨_,rfl⟩
 have HL:Hid (l.length=L):=hL
 rw [hL] at he hlen ⊢
 clear hL
 have gI:=hC.out.lt
 by_cases h6:6<L
 ·have HE:Hid (er=5):=by rw [if_pos h6] at he;exact he
  have HK:Hid ((5:Int)=if (6:Int)<(L:Int) then 5 else 0):=by rw [if_pos (by omega)];rfl
  clear h6
  go_enter Tryz.func50,Tryz.ntmps50
  go_wp2_with fail
  refine (Calls.l9 5 (tQ C n num L 6 5 _ hC HK) rfl (by decide)).mono ?_
  rintro e w1 ⟨rfl,hg⟩
  go_wp2
  exact ⟨rfl,pq hg HE.out (by decide)⟩
 ·have HE:Hid (er=Sy.fU l):=by rw [if_neg h6] at he;exact he
  have HK:Hid ((0:Int)=if (6:Int)<(L:Int) then 5 else 0):=by rw [if_neg (by omega)];rfl
  have h6':L≤6:=by omega
  clear h6
  go_enter Tryz.func50,Tryz.ntmps50
  go_wp2_with fail
  refine (Calls.ok0 (tQ C n num L 6 0 _ hC HK) rfl).mono ?_
  rintro e w1 ⟨rfl,hg⟩
  have HG:Hid (w.grownBy w1 none):=hg
  clear hg
  go_wp2
  go_loopw [12] (fun i wr=>∃ k:Nat,k≤L∧i=.int .i64 k∧Hid (w.grownBy wr none)∧Hid (er=Sy.fU (l.drop k))) (fun i _=>L - (intOf i).toNat)
  case atStart=>exact ⟨0,Nat.zero_le _,rfl,HG,HE⟩
  case round =>
   obtain ⟨k,hk,rfl,iP,dL⟩:=hrel
   by_cases hlt:k<L
   ·obtain ⟨p,hp⟩:∃ p,l[k]?=some p:=⟨_,List.getElem?_eq_getElem (by rw [HL.out];exact hlt)⟩
    have vE:=hP.out.same (dK (C:=none) iP.out (by simp) (by omega))
    obtain ⟨b,off,rfl,hb,c0,c1,c2,s0,s1⟩:=vE.2 k p hp
    have HE2:Hid (er=if Sy.nm p.name=false then 7 else if Sy.bN p.ty≠0 then Sy.bN p.ty else Sy.fU (l.drop (k+1))):=dL.out.trans (VL hp)
    have pF:Hid (CK wr C num n):=hC.out.keep iP.out (by simp)
    clear vE hp dL
    obtain ⟨e1,hE1⟩:∃ e1:Int,e1=if Sy.nm p.name=false then 7 else 0:=⟨_,rfl⟩
    have bI:Hid (e1=if Sy.nm p.name=false then 7 else 0):=hE1
    clear hE1
    go_wp2_with fail
    refine (jM C n num e1 p.name _ (pF.out.alloc _) s0 bI).mono ?_
    rintro e w2 hf
    have HF:Hid (jb num e1 _ e w2):=hf
    clear hf
    by_cases h0:e1=0
    ·obtain rfl:=oK HF.out h0
     have HN:Hid (Sy.nm p.name=true):=by
      have:=bI.out;rw [h0] at this
      cases hh:Sy.nm p.name
      ·rw [if_pos hh] at this;omega
      ·rfl
     have gy:Hid (er=if Sy.bN p.ty≠0 then Sy.bN p.ty else Sy.fU (l.drop (k+1))):=by
      have:=HE2.out;rw [if_neg (by rw [HN.out];decide)] at this;exact this
     obtain ⟨t0,t1,t2⟩:=gB (je HF.out.1 (by simp))
     have iD:Hid (CK w2 C num n):=(pF.out.alloc _).keep HF.out.1 (by simp)
     have HG2:Hid (w.grownBy w2 none):=aB iP.out (gu HF.out.1)
     obtain ⟨e2,hE2⟩:∃ e2:Int,e2=Sy.bN p.ty:=⟨_,rfl⟩
     have gX:Hid (e2=Sy.bN p.ty):=hE2
     clear h0 hE2 c0 c1 c2
     go_wp2_with fail
     refine (zw C n num e2 p.ty _ iD s1 gX).mono ?_
     rintro e w3 hf
     have fM:Hid (jb num e2 w2 e w3):=hf
     have aK:Hid (w.grownBy w3 none):=aB HG2.out hf.1
     clear hf
     by_cases h0:e2=0
     ·obtain rfl:=oK fM.out h0
      have gT:Hid (er=Sy.fU (l.drop (k+1))):=by
       have:=gy.out;rw [if_neg (by rw [← gX.out];simp [h0])] at this;exact this
      clear h0 t0 t1 t2
      go_wp2
      go_roundw
      case rel=>exact ⟨k+1,by omega,by go_num,aK,gT⟩
      case measure=>simp [intOf];omega
     ·obtain rfl:=oL fM.out h0
      have gT:Hid (er=e2):=by
       have:=gy.out;rw [if_pos (by rw [← gX.out];exact h0),← gX.out] at this;exact this
      have H0:Hid (e2≠0):=h0
      clear h0 t0 t1 t2
      go_wp2
      exact ⟨rfl,pq aK.out gT.out H0.out⟩
    ·obtain rfl:=oL HF.out h0
     have HN:Hid (e1=7∧er=7):=by
      cases hh:Sy.nm p.name
      ·exact ⟨by have:=bI.out;rw [if_pos hh] at this;exact this,by have:=HE2.out;rw [if_pos hh] at this;exact this⟩
      ·exact absurd (by have:=bI.out;rw [if_neg (by rw [hh];decide)] at this;exact this) h0
     have H0:Hid (e1≠0):=h0
     clear h0 c0 c1 c2
     go_wp2
     exact ⟨rfl,pq (aB iP.out (gu HF.out.1)) (by rw [HN.out.1,HN.out.2]) H0.out⟩
   ·have aR:Hid (er=0):=by
     have:=dL.out
     rw [List.drop_of_length_le (by rw [HL.out];omega)] at this
     exact this
    go_wp2
    go_end0
    exact vv iP.out aR.out
theorem pG {w:World}{b:Nat}{v0 v1 v2 v3:Value}{t:TypeId}(h:w.heap[b]?=some (.cells #[v0,v1,v2,v3] t (0,0))) :
  w.cell? ⟨b,0,none⟩=some v0∧w.cell? ⟨b,1,none⟩=some v1∧w.cell? ⟨b,2,none⟩=some v2∧w.cell? ⟨b,3,none⟩=some v3:=by simp [World.cell?,h]
def jA (x:Sy.Ex):Int:=if (x.kids.length:Int)<Sy.least x.kind∨Sy.most x.kind<x.kids.length then 5 else 0
theorem LX {x:Sy.Ex}(h:x.kind=1):Sy.dU x=if x.n<0∨999999999999999<x.n then 3 else jA x:=by
 unfold Sy.dU jA
 by_cases hr:x.n<0∨999999999999999<x.n
 ·rw [if_pos (.inl ⟨h,hr⟩),if_pos hr]
 ·rw [if_neg (by rintro (⟨_,h2⟩ | ⟨h2,_⟩) <;> omega),if_neg hr,if_neg (by omega)]
theorem VM {x:Sy.Ex}(h:x.kind=2):Sy.dU x=if x.n<0∨1<x.n then 3 else jA x:=by
 unfold Sy.dU jA
 by_cases hr:x.n<0∨1<x.n
 ·rw [if_pos (.inr ⟨h,hr⟩),if_pos hr]
 ·rw [if_neg (by rintro (⟨h2,_⟩ | ⟨_,h2⟩) <;> omega),if_neg hr,if_neg (by omega)]
theorem VN {x:Sy.Ex}(h:x.kind=3∨x.kind=19∨x.kind=20∨x.kind=22):Sy.dU x=if Sy.nm x.name=false then 7 else jA x:=by
 unfold Sy.dU jA
 rw [if_neg (by rintro (⟨h2,_⟩ | ⟨h2,_⟩) <;> omega)]
 cases hn:Sy.nm x.name
 ·rw [if_pos ⟨h,rfl⟩,if_pos rfl]
 ·rw [if_neg (by rintro ⟨_,h2⟩;exact absurd h2 (by decide)),if_neg (show ¬ (true=false) by decide)]
theorem VO {x:Sy.Ex}(h:x.kind≠1∧x.kind≠2∧x.kind≠3∧x.kind≠19∧x.kind≠20∧x.kind≠22):Sy.dU x=jA x:=by
 unfold Sy.dU jA
 rw [if_neg (by rintro (⟨h2,_⟩ | ⟨h2,_⟩) <;> omega),if_neg (by omega)]
theorem VP {d:Nat}{x:Sy.Ex}{n:Nat}(h:Sy.bB x.kind 24 (d+1) n≠0):Sy.aF (d+1) x n=.error (Sy.bB x.kind 24 (d+1) n):=by
 unfold Sy.aF;rw [if_pos h]
theorem Cv {d:Nat}{x:Sy.Ex}{n:Nat}(h:Sy.bB x.kind 24 (d+1) n=0)(k:Int)(hk:Sy.dU x=k)(h0:k≠0):Sy.aF (d+1) x n=.error k:=by
 unfold Sy.aF;rw [if_neg (by simpa using h),if_pos (by rw [hk];exact h0),hk]
theorem VQ {d:Nat}{x:Sy.Ex}{n:Nat}(h:Sy.bB x.kind 24 (d+1) n=0)(hk:Sy.dU x=0):Sy.aF (d+1) x n=Sy.runs (Sy.aF d) x.kids (n+1):=by
 conv=>lhs;unfold Sy.aF
 rw [if_neg (by simpa using h),if_neg (by simpa using hk)]
def xI (w:World)(C:Nat)(num:Int)(x:Sy.Ex)(a:Option Addr)(c n:Nat)(w1:World):Prop :=
 w.grownBy w1 (some C)∧CK w1 C num n∧w1.heap[w.heap.size]?=some (.cells #[.int .i64 x.kind,.int .i64 x.n,.string x.name,.slice a x.kids.length c] 122 (0,0))
theorem xI.on {w:World}{C:Nat}{num:Int}{x:Sy.Ex}{a:Option Addr}{c n:Nat}{w1 w2:World}(h:xI w C num x a c n w1)(hg:w1.grownBy w2 none):xI w C num x a c n w2 :=
 ⟨aB h.1 (iO hg _),h.2.1.keep hg (by simp),vD h.2.2 hg (by simp)⟩
theorem pI {p:Prop}(h:p):Hid p:=h
theorem LY {α:Type}{f:α→Nat→Except Int Nat}{l:List α}{k n m:Nat}{a:α}(h:l[k]?=some a)(hf:f a n=.ok m):Sy.runs f (l.drop k) n=Sy.runs f (l.drop (k+1)) m:=by
 rw [Sy.Lm h,hf]
theorem LZ {α:Type}{f:α→Nat→Except Int Nat}{l:List α}{k n:Nat}{a:α}{e:Int}(h:l[k]?=some a)(hf:f a n=.error e):Sy.runs f (l.drop k) n=.error e:=by
 rw [Sy.Lm h,hf]
theorem VR (C:Nat)(num:Int)(x:Sy.Ex)(a:Option Addr)(c n:Nat)(deep:Int)(r:Except Int Nat)(w:World)(iQ:deep=41 - ((0:Nat):Int))(hC:Hid (CK w C num n))(hn:n≤2000)(hr:Hid (r=Sy.aF 0 x n)) :
  Calls Tryz.prog 111 #[.pointer (some ⟨C,0,none⟩),dH x a c,.int .i64 deep] w fun e w'=>w.grownBy w' (some C)∧l8 C num r e w':=by
 have HD:Hid (deep=41 - ((0:Nat):Int)):=iQ
 clear iQ
 have eZ:Hid (CK (w.alloc (.cells #[.int .i64 x.kind,.int .i64 x.n,.string x.name,.slice a x.kids.length c] 122)) C num n):=hC.out.alloc _
 have HR:Hid (r=.error 4):=hr.out
 have HR1:Hid (Except.error 4=jU x.kind 24 0 n):=by
  have h4:Sy.bB x.kind 24 0 n=4:=by unfold Sy.bB;rw [if_pos (.inr rfl)]
  unfold jU;rw [h4];rfl
 go_enter Tryz.func111,Tryz.ntmps111
 go_wp2_with fail
 refine (jd C n 0 num x.kind 24 deep _ _ eZ hn HD.out HR1).mono ?_
 rintro e w1 ⟨hg,hf⟩
 obtain rfl:e=.panicked [aH 4 num]:=hf
 go_wp2
 exact ⟨rfl,gu hg,by rw [HR.out];rfl⟩
theorem VS (C B d:Nat)(num:Int)(dI:B≤C)
  (ih:∀ (h:Nat) (x:Sy.Ex) (a:Option Addr) (c n:Nat) (deep:Int) (r:Except Int Nat) (w:World),deep=41 - d→d≤41→Hid (aJ B w h x a)→Hid (CK w C num n)→n≤2000→Hid (r=Sy.aF d x n) →
   Calls Tryz.prog 111 #[.pointer (some ⟨C,0,none⟩),dH x a c,.int .i64 deep] w fun e w'=>w.grownBy w' (some C)∧l8 C num r e w')
  (h:Nat) (x:Sy.Ex) (a:Option Addr) (c n:Nat) (deep:Int) (r:Except Int Nat) (w:World) (iQ:deep=41 - ((d+1:Nat):Int)) (hd:d+1≤41) (hX:Hid (aJ B w (h+1) x a)) (hC:Hid (CK w C num n)) (hn:n≤2000) (hr:Hid (r=Sy.aF (d+1) x n)) :
  Calls Tryz.prog 111 #[.pointer (some ⟨C,0,none⟩),dH x a c,.int .i64 deep] w fun e w'=>w.grownBy w' (some C)∧l8 C num r e w':=by
 have HD:Hid (deep=41 - ((d+1:Nat):Int)):=iQ
 have VT:0≤deep:=by omega
 have VU:deep≤40:=by omega
 clear iQ
 have hlen:=hX.out.2.1
 have hname:=hX.out.1
 have gI:=hC.out.lt
 unfold maxLen at hlen
 have eZ:Hid (CK (w.alloc (.cells #[.int .i64 x.kind,.int .i64 x.n,.string x.name,.slice a x.kids.length c] 122)) C num n):=hC.out.alloc _
 obtain ⟨r1,hr1⟩:∃ r1,r1=jU x.kind 24 (d+1) n:=⟨_,rfl⟩
 have HR1:Hid (r1=jU x.kind 24 (d+1) n):=hr1
 by_cases iR:Sy.bB x.kind 24 (d+1) n=0
 ·have hr1':r1=.ok (n+1):=by rw [hr1];unfold jU;rw [if_neg (by simpa using iR)]
  obtain ⟨hn1,hk1,hk2,_⟩:=Sy.iC iR
  have HN:Hid (Sy.bB x.kind 24 (d+1) n=0):=iR
  clear iR hr1
  subst hr1'
  have zy:Hid (Sy.dU x=jA x→r=if jA x≠0 then .error (jA x) else Sy.runs (Sy.aF d) x.kids (n+1)):=fun hh=>by
   by_cases ht:jA x=0
   ·rw [if_neg (by simpa using ht)];exact hr.out.trans (VQ HN.out (by rw [hh,ht]))
   ·rw [if_pos (by simpa using ht)];exact hr.out.trans (Cv HN.out _ hh ht)
  go_enter Tryz.func111,Tryz.ntmps111
  go_wp2_with fail
  refine (jd C n (d+1) num x.kind 24 deep _ _ eZ hn HD.out HR1).mono ?_
  rintro e w1 ⟨hg,hf⟩
  obtain ⟨rfl,hck⟩:=hf
  have HM:Hid (xI w C num x a c (n+1) w1):=⟨gu hg,hck,je hg (by simp;omega)⟩
  clear hg hck
  obtain ⟨b0,b1,b2,b3⟩:=pG HM.out.2.2
  go_upto_block 0 with fail
  go_cut [] (fun wx=>Hid (xI w C num x a c (n+1) wx)∧Hid (r=if jA x≠0 then .error (jA x) else Sy.runs (Sy.aF d) x.kids (n+1)))
  case first =>
   rcases (show x.kind=1∨x.kind=2∨(x.kind=3∨x.kind=19∨x.kind=20∨x.kind=22)∨(x.kind≠1∧x.kind≠2∧x.kind≠3∧x.kind≠19∧x.kind≠20∧x.kind≠22) by omega) with h1 | h1 | h1 | h1
   ·have e1:(x.kind==1)=true:=by simp;omega
    have e2:(x.kind==2)=false:=by simp;omega
    have hh:=LX h1
    clear h1
    by_cases hr0:x.n<0∨999999999999999<x.n
    ·have HT:Hid (r=.error 3):=hr.out.trans (Cv HN.out 3 (by rw [hh,if_pos hr0]) (by decide))
     have HK:Hid ((3:Int)=if x.n<0∨999999999999999<x.n then 3 else 0):=by rw [if_pos hr0];rfl
     clear hh hr0
     go_wp2_with fail
     refine (Calls.l9 3 (zq C (n+1) num x.n 0 999999999999999 3 _ HM.out.2.1 HK) rfl (by decide)).mono ?_
     rintro e w2 ⟨rfl,hg⟩
     go_wp2
     exact ⟨rfl,aB HM.out.1 (iO hg _),by rw [HT.out];rfl⟩
    ·have HT:=pI (zy.out (by rw [hh,if_neg hr0]))
     have HK:Hid ((0:Int)=if x.n<0∨999999999999999<x.n then 3 else 0):=by rw [if_neg hr0];rfl
     clear hh hr0
     go_wp2_with fail
     refine (Calls.ok0 (zq C (n+1) num x.n 0 999999999999999 0 _ HM.out.2.1 HK) rfl).mono ?_
     rintro e w2 ⟨rfl,hg⟩
     go_wp2_with fail
     go_meet
     exact ⟨HM.out.on hg,HT⟩
   ·have e1:(x.kind==1)=false:=by simp;omega
    have e2:(x.kind==2)=true:=by simp;omega
    have hh:=VM h1
    clear h1
    by_cases hr0:x.n<0∨1<x.n
    ·have HT:Hid (r=.error 3):=hr.out.trans (Cv HN.out 3 (by rw [hh,if_pos hr0]) (by decide))
     have HK:Hid ((3:Int)=if x.n<0∨1<x.n then 3 else 0):=by rw [if_pos hr0];rfl
     clear hh hr0
     go_wp2_with fail
     refine (Calls.l9 3 (zq C (n+1) num x.n 0 1 3 _ HM.out.2.1 HK) rfl (by decide)).mono ?_
     rintro e w2 ⟨rfl,hg⟩
     go_wp2
     exact ⟨rfl,aB HM.out.1 (iO hg _),by rw [HT.out];rfl⟩
    ·have HT:=pI (zy.out (by rw [hh,if_neg hr0]))
     have HK:Hid ((0:Int)=if x.n<0∨1<x.n then 3 else 0):=by rw [if_neg hr0];rfl
     clear hh hr0
     go_wp2_with fail
     refine (Calls.ok0 (zq C (n+1) num x.n 0 1 0 _ HM.out.2.1 HK) rfl).mono ?_
     rintro e w2 ⟨rfl,hg⟩
     go_wp2_with fail
     go_meet
     exact ⟨HM.out.on hg,HT⟩
   ·have hh:=VN h1
    have e1:(x.kind==1)=false:=by simp;omega
    have e2:(x.kind==2)=false:=by simp;omega
    obtain ⟨b,hb⟩:∃ b,b=Sy.nm x.name:=⟨_,rfl⟩
    obtain ⟨t,ht⟩:∃ t:Int,t=if b=false then 7 else 0:=⟨_,rfl⟩
    have HK:Hid (t=if Sy.nm x.name=false then 7 else 0):=by rw [← hb];exact ht
    have HB:Hid ((b=false→r=.error 7)∧(b=true→r=if jA x≠0 then .error (jA x) else Sy.runs (Sy.aF d) x.kids (n+1))):=by
     refine ⟨fun hf=>hr.out.trans (Cv HN.out 7 (by rw [hh,if_pos (by rw [← hb];exact hf)]) (by decide)),fun hf=>zy.out (by rw [hh,if_neg (by rw [← hb,hf];decide)])⟩
    clear hh hb
    rcases h1 with h1 | h1 | h1 | h1
    ·have e3:(x.kind==3)=true:=by simp;omega
     clear h1
     cases b
     ·obtain rfl:t=7:=by rw [ht];rfl
      clear ht
      have HT:=pI (HB.out.1 rfl)
      go_wp2_with fail
      refine (Calls.l9 7 (jM C (n+1) num 7 x.name _ HM.out.2.1 hname HK) rfl (by decide)).mono ?_
      rintro e w2 ⟨rfl,hg⟩
      go_wp2
      exact ⟨rfl,aB HM.out.1 (iO hg _),by rw [HT.out];rfl⟩
     ·obtain rfl:t=0:=by rw [ht];rfl
      clear ht
      have HT:=pI (HB.out.2 rfl)
      go_wp2_with fail
      refine (Calls.ok0 (jM C (n+1) num 0 x.name _ HM.out.2.1 hname HK) rfl).mono ?_
      rintro e w2 ⟨rfl,hg⟩
      go_wp2_with fail
      go_meet
      exact ⟨HM.out.on hg,HT⟩
    ·have e3:(x.kind==3)=false:=by simp;omega
     have e19:(x.kind==19)=true:=by simp;omega
     clear h1
     cases b
     ·obtain rfl:t=7:=by rw [ht];rfl
      clear ht
      have HT:=pI (HB.out.1 rfl)
      go_wp2_with fail
      refine (Calls.l9 7 (jM C (n+1) num 7 x.name _ HM.out.2.1 hname HK) rfl (by decide)).mono ?_
      rintro e w2 ⟨rfl,hg⟩
      go_wp2
      exact ⟨rfl,aB HM.out.1 (iO hg _),by rw [HT.out];rfl⟩
     ·obtain rfl:t=0:=by rw [ht];rfl
      clear ht
      have HT:=pI (HB.out.2 rfl)
      go_wp2_with fail
      refine (Calls.ok0 (jM C (n+1) num 0 x.name _ HM.out.2.1 hname HK) rfl).mono ?_
      rintro e w2 ⟨rfl,hg⟩
      go_wp2_with fail
      go_meet
      exact ⟨HM.out.on hg,HT⟩
    ·have e3:(x.kind==3)=false:=by simp;omega
     have e19:(x.kind==19)=false:=by simp;omega
     have e20:(x.kind==20)=true:=by simp;omega
     clear h1
     cases b
     ·obtain rfl:t=7:=by rw [ht];rfl
      clear ht
      have HT:=pI (HB.out.1 rfl)
      go_wp2_with fail
      refine (Calls.l9 7 (jM C (n+1) num 7 x.name _ HM.out.2.1 hname HK) rfl (by decide)).mono ?_
      rintro e w2 ⟨rfl,hg⟩
      go_wp2
      exact ⟨rfl,aB HM.out.1 (iO hg _),by rw [HT.out];rfl⟩
     ·obtain rfl:t=0:=by rw [ht];rfl
      clear ht
      have HT:=pI (HB.out.2 rfl)
      go_wp2_with fail
      refine (Calls.ok0 (jM C (n+1) num 0 x.name _ HM.out.2.1 hname HK) rfl).mono ?_
      rintro e w2 ⟨rfl,hg⟩
      go_wp2_with fail
      go_meet
      exact ⟨HM.out.on hg,HT⟩
    ·have e3:(x.kind==3)=false:=by simp;omega
     have e19:(x.kind==19)=false:=by simp;omega
     have e20:(x.kind==20)=false:=by simp;omega
     have e22:(x.kind==22)=true:=by simp;omega
     clear h1
     cases b
     ·obtain rfl:t=7:=by rw [ht];rfl
      clear ht
      have HT:=pI (HB.out.1 rfl)
      go_wp2_with fail
      refine (Calls.l9 7 (jM C (n+1) num 7 x.name _ HM.out.2.1 hname HK) rfl (by decide)).mono ?_
      rintro e w2 ⟨rfl,hg⟩
      go_wp2
      exact ⟨rfl,aB HM.out.1 (iO hg _),by rw [HT.out];rfl⟩
     ·obtain rfl:t=0:=by rw [ht];rfl
      clear ht
      have HT:=pI (HB.out.2 rfl)
      go_wp2_with fail
      refine (Calls.ok0 (jM C (n+1) num 0 x.name _ HM.out.2.1 hname HK) rfl).mono ?_
      rintro e w2 ⟨rfl,hg⟩
      go_wp2_with fail
      go_meet
      exact ⟨HM.out.on hg,HT⟩
   ·have e1:(x.kind==1)=false:=by simp;omega
    have e2:(x.kind==2)=false:=by simp;omega
    have e3:(x.kind==3)=false:=by simp;omega
    have e19:(x.kind==19)=false:=by simp;omega
    have e20:(x.kind==20)=false:=by simp;omega
    have e22:(x.kind==22)=false:=by simp;omega
    have HT:=pI (zy.out (VO h1))
    clear h1
    go_wp2_with fail
    go_meet
    exact ⟨HM,HT⟩
  case rest =>
   clear b0 b1 b2 b3 HM zy
   obtain ⟨HM,HT⟩:=hcut
   obtain ⟨b0,b1,b2,b3⟩:=pG HM.out.2.2
   go_wp2_with fail
   refine (VK x.kind _).mono ?_
   rintro e w2 ⟨rfl,rfl⟩
   by_cases hl:(x.kids.length:Int)<Sy.least x.kind
   ·have HT2:Hid (r=.error 5):=by
     have hx:jA x=5:=by unfold jA;rw [if_pos (.inl hl)]
     have:=HT.out;rw [hx,if_pos (by decide)] at this;exact this
    go_wp2_with fail
    refine (jy C (n+1) num 5 _ HM.out.2.1).mono ?_
    rintro e w2 ⟨rfl,rfl⟩
    go_wp2
    exact ⟨rfl,HM.out.1,by rw [HT2.out];rfl⟩
   ·by_cases hm:Sy.most x.kind<(x.kids.length:Int)
    ·have HT2:Hid (r=.error 5):=by
      have hx:jA x=5:=by unfold jA;rw [if_pos (.inr hm)]
      have:=HT.out;rw [hx,if_pos (by decide)] at this;exact this
     have HK:Hid ((5:Int)=if Sy.most x.kind<(x.kids.length:Int) then 5 else 0):=by rw [if_pos hm];rfl
     clear hm
     go_wp2_with fail
     refine (Calls.l9 5 (tQ C (n+1) num x.kids.length (Sy.most x.kind) 5 _ HM.out.2.1 HK) rfl (by decide)).mono ?_
     rintro e w2 ⟨rfl,hg⟩
     go_wp2
     exact ⟨rfl,aB HM.out.1 (iO hg _),by rw [HT2.out];rfl⟩
    ·have HT2:Hid (r=Sy.runs (Sy.aF d) x.kids (n+1)):=by
      have hx:jA x=0:=by unfold jA;rw [if_neg (by omega)]
      have:=HT.out;rw [hx,if_neg (by decide)] at this;exact this
     have HK:Hid ((0:Int)=if Sy.most x.kind<(x.kids.length:Int) then 5 else 0):=by rw [if_neg hm];rfl
     clear hm
     go_wp2_with fail
     refine (Calls.ok0 (tQ C (n+1) num x.kids.length (Sy.most x.kind) 0 _ HM.out.2.1 HK) rfl).mono ?_
     rintro e w2 ⟨rfl,hg⟩
     have aU:Hid (xI w C num x a c (n+1) w2):=HM.out.on hg
     clear hg b0 b1 b2 b3 hl
     obtain ⟨b0,b1,b2,b3⟩:=pG aU.out.2.2
     go_wp2
     go_loopw [60] (fun i wr=>∃ k m:Nat,k≤x.kids.length∧i=.int .i64 k∧m≤2000∧Hid (CK wr C num m)∧Hid (w.grownBy wr (some C))∧Hid (r=Sy.runs (Sy.aF d) (x.kids.drop k) m)) (fun i _=>x.kids.length - (intOf i).toNat)
     case atStart=>exact ⟨0,n+1,Nat.zero_le _,rfl,hn1,aU.out.2.1,aU.out.1,by rw [List.drop_zero];exact HT2⟩
     case round =>
      obtain ⟨k,m,hk,rfl,hm,pF,iP,ae⟩:=hrel
      clear b0 b1 b2 b3
      by_cases hlt:k<x.kids.length
      ·obtain ⟨kid,FI⟩:∃ kid,x.kids[k]?=some kid:=⟨_,List.getElem?_eq_getElem hlt⟩
       have L6:Hid (x.kids[k]?=some kid):=FI
       obtain ⟨b,off,a',c',rfl,hb,c0,c1,c2,c3,hin⟩:=hX.out.2.2 k kid FI
       have hsame:=dK (B:=B) iP.out (by intro c e;cases e;exact dI) (by omega)
       rw [← hsame _ _ hb] at c0 c1 c2 c3
       have gJ:Hid (aJ B wr h kid a'):=hin.same hsame
       clear hin hsame FI
       obtain ⟨r2,hr2⟩:∃ r2,r2=Sy.aF d kid m:=⟨_,rfl⟩
       have HR2:Hid (r2=Sy.aF d kid m):=hr2
       clear hr2
       go_wp2_with fail
       refine (ih h kid a' c' m (deep+1) r2 _ (by have:=HD.out;omega) (by omega) (gJ.out.same (dK (World.grownBy_alloc _ _ none) (by simp) (by have:=iP.out.size;omega))) (pF.out.alloc _) hm HR2).mono ?_
       rintro e w3 ⟨hg,hf⟩
       have aK:Hid (w.grownBy w3 (some C)):=aB iP.out (gu hg)
       cases r2 with
       | ok m2 =>
        obtain ⟨rfl,hck⟩:=hf
        have mK:Hid (CK w3 C num m2):=hck
        have hm2:m2≤2000:=Sy.jw _ _ _ _ hm HR2.out.symm
        have HR3:Hid (r=Sy.runs (Sy.aF d) (x.kids.drop (k+1)) m2):=ae.out.trans (LY L6.out HR2.out.symm)
        clear hg hck c0 c1 c2 c3
        go_wp2
        go_roundw
        case rel=>exact ⟨k+1,m2,by omega,by go_num,hm2,mK,aK,HR3⟩
        case measure=>simp [intOf];omega
       | error er =>
        obtain rfl:e=.panicked [aH er num]:=hf
        have HR3:Hid (r=.error er):=ae.out.trans (LZ L6.out HR2.out.symm)
        clear hg c0 c1 c2 c3
        go_wp2
        exact ⟨rfl,aK.out,by rw [HR3.out];rfl⟩
      ·have HR3:Hid (r=.ok m):=by
        have:=ae.out
        rw [List.drop_of_length_le (by omega)] at this
        exact this
       go_wp2
       go_end0
       exact ⟨iP.out,by rw [HR3.out];exact ⟨rfl,pF.out⟩⟩
 ·have hr1':r1=.error (Sy.bB x.kind 24 (d+1) n):=by rw [hr1];unfold jU;rw [if_pos (by simpa using iR)]
  have HR:Hid (r=.error (Sy.bB x.kind 24 (d+1) n)):=hr.out.trans (VP (by simpa using iR))
  obtain ⟨er,her⟩:∃ er,er=Sy.bB x.kind 24 (d+1) n:=⟨_,rfl⟩
  rw [← her] at hr1' HR
  clear hr1 iR her
  subst hr1'
  go_enter Tryz.func111,Tryz.ntmps111
  go_wp2_with fail
  refine (jd C n (d+1) num x.kind 24 deep _ _ eZ hn HD.out HR1).mono ?_
  rintro e w1 ⟨hg,hf⟩
  obtain rfl:e=.panicked [aH er num]:=hf
  go_wp2
  exact ⟨rfl,gu hg,by rw [HR.out];rfl⟩
theorem jV (C B:Nat)(num:Int)(dI:B≤C):∀ (d:Nat) (h:Nat) (x:Sy.Ex) (a:Option Addr) (c n:Nat) (deep:Int) (r:Except Int Nat) (w:World),deep=41 - d→d≤41→Hid (aJ B w h x a)→Hid (CK w C num n)→n≤2000→Hid (r=Sy.aF d x n) →
   Calls Tryz.prog 111 #[.pointer (some ⟨C,0,none⟩),dH x a c,.int .i64 deep] w fun e w'=>w.grownBy w' (some C)∧l8 C num r e w'
 | _,0,_,_,_,_,_,_,_,_,_,hX,_,_,_=>hX.out.elim
 | d+1,h+1,x,a,c,n,deep,r,w,iQ,hd,hX,hC,hn,hr=>VS C B d num dI (jV C B num dI d) h x a c n deep r w iQ hd hX hC hn hr
 | 0,_+1,x,a,c,n,deep,r,w,iQ,_,_,hC,hn,hr=>VR C num x a c n deep r w iQ hC hn hr
end Go.Proofs.YtolfleeidpeomaaGreatDoor

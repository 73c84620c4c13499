/- The plain functions on bytes that say what the package lex answers;nothing of the program. -/
import Derived.WalkKit
import Derived.Test.YtolfleeidpeomaaGreatDoorRows
import Derived.WalkSpells
import Derived.WalkLawsBesides
import Derived.OneCell
import Derived.Laws.RangeString
import Derived.Laws.RangeAny
import Derived.Lib.SlBytesConst
import Derived.Lib.Bytealg
set_option maxRecDepth 100000
set_option maxHeartbeats 1000000
namespace Go.Proofs.YtolfleeidpeomaaGreatDoor
namespace Lx
def isLet (c:UInt8):Bool:=decide (97≤c.toNat∧c.toNat≤122∨c.toNat=95)
def dB (c:UInt8):Bool:=decide (48≤c.toNat∧c.toNat≤57)
def jR (c:UInt8):Bool:=decide (c.toNat=32∨c.toNat=9∨c.toNat=10)
def gP (c:UInt8):Bool:=isLet c || dB c
theorem Uf {c:UInt8}(h:¬ (97≤c.toNat∧c.toNat≤122∨c.toNat=95)):isLet c=false:=by unfold isLet;exact decide_eq_false h
theorem Ug {c:UInt8}(h:48≤c.toNat∧c.toNat≤57):dB c=true:=by unfold dB;exact decide_eq_true h
theorem Uh {c:UInt8}(h:c.toNat=32∨c.toNat=9∨c.toNat=10):jR c=true:=by unfold jR;exact decide_eq_true h
theorem K3 {c:UInt8}(h:¬ (c.toNat=32∨c.toNat=9∨c.toNat=10)):jR c=false:=by unfold jR;exact decide_eq_false h
def span (p:UInt8→Bool)(l:List UInt8):Nat:=(l.takeWhile p).length
theorem zh (p:UInt8→Bool)(l:List UInt8):span p l≤l.length:=by
 unfold span
 induction l with
 | nil=>simp
 | cons a l ih =>
  rw [List.takeWhile_cons]
  split
  ·simp;exact ih
  ·simp
theorem ET (p:UInt8→Bool):∀ (l:List UInt8) (k:Nat),(l.take k).all p=true→k≤l.length→(∀ x,l[k]?=some x→p x=false)→span p l=k
 | [],k,_,hk,_=>by simp at hk;subst hk;rfl
 | a :: l,0,_,_,he=>by
  have:=he a rfl
  simp [span,this]
 | a :: l,k+1,h,hk,he=>by
  simp only [List.take_succ_cons,List.all_cons,Bool.and_eq_true] at h
  have ih:=ET p l k h.2 (by simpa using hk) (fun x hx=>he x (by simpa using hx))
  unfold span at ih ⊢
  rw [List.takeWhile_cons,if_pos h.1,List.length_cons,ih]
theorem K4 (p:UInt8→Bool)(l:List UInt8)(x:UInt8)(h:l.all p=true)(hx:p x=true):(l++[x]).all p=true:=by
 rw [List.all_append,h];simp [hx]
def jK (r:Bool)(c:UInt8):Bool:=if c.toNat=10 then false else if c.toNat=35 then true else r
def jS:Bool→List UInt8→Nat
 | _,[]=>0
 | r,c :: l=>if jK r c || jR c then jS (jK r c) l+1 else 0
theorem K5:∀ (r:Bool) (l:List UInt8),jS r l≤l.length
 | _,[]=>by simp [jS]
 | r,c :: l=>by
  have:=K5 (jK r c) l
  unfold jS
  split <;> simp <;> omega
theorem K6 {r:Bool}{c:UInt8}{l:List UInt8}(h:(jK r c || jR c)=true):jS r (c :: l)=jS (jK r c) l+1:=by
 rw [jS,if_pos h]
theorem K7 {r:Bool}{c:UInt8}{l:List UInt8}(h:(jK r c || jR c)=false):jS r (c :: l)=0:=by
 rw [jS,h];simp
def two (c:UInt8):Bool:=[61,33,60,62].contains c
def one (c:UInt8):Bool:=[60,62,61,43,45,42,47,37,40,41,123,125,44,59].contains c
def iq:List UInt8→Nat
 | []=>0
 | c :: l=>if (l.head?==some 61) && two c then 2 else if one c then 1 else 0
end Lx
end Go.Proofs.YtolfleeidpeomaaGreatDoor
namespace Go.Proofs.YtolfleeidpeomaaGreatDoor
open Go.RowKit
namespace Lx
theorem xA (s:ByteArray)(h0:0<s.size):s.data.toList=s[0] :: s.data.toList.drop 1:=by
 have h:=List.drop_eq_getElem_cons (l:=s.data.toList) (i:=0) (by simpa using h0)
 rw [List.drop_zero] at h
 exact h
end Lx
theorem lI {a b:Bool}(h:a=b):Ending.returned (.bool a)=.returned (.bool b):=by rw [h]
theorem oI {k:IntKind}{a b:Int}(h:a=b):Ending.returned (.int k a)=.returned (.int k b):=by rw [h]
theorem qF (c:UInt8)(w:World) :
  Calls Tryz.prog 92 #[.int .u8 (c.toNat:Int)] w fun e w'=>e=.returned (.bool (Lx.isLet c))∧w'=w:=by
 go_enter Tryz.func92,Tryz.ntmps92
 go_wp2
 all_goals go_ret
 all_goals refine ⟨lI ?_,rfl⟩
 all_goals unfold Lx.isLet;rw [Bool.eq_iff_iff];simp;omega
theorem tK (c:UInt8)(w:World) :
  Calls Tryz.prog 95 #[.int .u8 (c.toNat:Int)] w fun e w'=>e=.returned (.bool (Lx.dB c))∧w'=w:=by
 go_enter Tryz.func95,Tryz.ntmps95
 go_wp2
 all_goals go_ret
 all_goals refine ⟨lI ?_,rfl⟩
 all_goals unfold Lx.dB;rw [Bool.eq_iff_iff];simp;omega
theorem K8 (c:UInt8)(w:World) :
  Calls Tryz.prog 94 #[.int .u8 (c.toNat:Int)] w fun e w'=>e=.returned (.bool (Lx.gP c))∧w'=w:=by
 unfold Lx.gP
 cases hl:Lx.isLet c
 ·go_enter Tryz.func94,Tryz.ntmps94
  go_wp2_with (first | (go_at_call 92;refine (qF _ _).mono ?_;rintro e w' ⟨rfl,rfl⟩) | (go_at_call 95;refine (tK _ _).mono ?_;rintro e w' ⟨rfl,rfl⟩))
  go_ret
  exact ⟨rfl,rfl⟩
 ·go_enter Tryz.func94,Tryz.ntmps94
  go_wp2_with (first | (go_at_call 92;refine (qF _ _).mono ?_;rintro e w' ⟨rfl,rfl⟩) | (go_at_call 95;refine (tK _ _).mono ?_;rintro e w' ⟨rfl,rfl⟩))
  go_ret
  exact ⟨rfl,rfl⟩
theorem EU (s:ByteArray)(k:Nat)(h:k<s.size):s.data.toList.take (k+1)=s.data.toList.take k++[s[k]]:=by
 rw [List.take_succ_eq_append_getElem (by simpa using h)];rfl
theorem Cg (p:UInt8→Bool)(s:ByteArray)(k:Nat)(h:(s.data.toList.take k).all p=true)(hk:k≤s.size)(he:∀ hl:k<s.size,p s[k]=false):Lx.span p s.data.toList=k:=by
 refine Lx.ET p _ k h (by simpa using hk) (fun x hx=>?_)
 obtain ⟨hl,hx⟩:=List.getElem?_eq_some_iff.1 hx
 have hl':k<s.size:=by simpa using hl
 have:=he hl'
 rw [← hx];exact this
theorem EW (s:ByteArray)(w:World)(hs:s.size≤maxLen) :
  Calls Tryz.prog 89 #[.string s,.func (.func 94) #[] #[]] w fun e w'=>e=.returned (.int .i64 (Lx.span Lx.gP s.data.toList:Nat))∧w'=w:=by
 unfold maxLen at hs
 go_enter Tryz.func89,Tryz.ntmps89
 go_wp2
 go_loop [5] (fun i=>∃ k:Nat,k≤s.size∧i=.int .i64 k∧(s.data.toList.take k).all Lx.gP=true) (fun i=>s.size - (intOf i).toNat)
 case atStart=>exact ⟨0,Nat.zero_le _,rfl,rfl⟩
 case round =>
  obtain ⟨k,hk,rfl,hall⟩:=hrel
  have HA:Hid ((s.data.toList.take k).all Lx.gP=true):=hall
  clear hall
  by_cases hlt:k<s.size
  ·cases hp:Lx.gP s[k]
   ·have HP:Hid (Lx.gP s[k]=false):=hp
    go_wp2_with (go_at_call 94;refine (K8 _ _).mono ?_;rintro e w' ⟨rfl,rfl⟩)
    go_ret
    exact ⟨oI (by rw [Cg _ s k HA.out hk (fun _=>HP.out)]),rfl⟩
   ·have HP:Hid (Lx.gP s[k]=true):=hp
    go_wp2_with (go_at_call 94;refine (K8 _ _).mono ?_;rintro e w' ⟨rfl,rfl⟩)
    go_round
    case rel=>exact ⟨k+1,by omega,by go_num,by rw [EU s k hlt];exact Lx.K4 _ _ _ HA.out HP.out⟩
    case measure=>simp [intOf];omega
  ·go_wp2
   go_ret
   exact ⟨oI (by rw [Cg _ s k HA.out hk (fun h=>absurd h hlt)]),rfl⟩
theorem Ch (w:World)(b:Nat)(v:Value):w.grownBy (w.setCell ⟨b,0,none⟩ v) (some b) :=
 ⟨rfl,rfl,rfl,by simp [World.setCell],fun k _ hne=>Below.heap_setCell _ _ _ _ (by intro h;apply hne;simp [h])⟩
theorem mJ (w:World)(r:Option Nat):w.grownBy w r:=⟨rfl,rfl,rfl,Nat.le_refl _,fun _ _ _=>rfl⟩
theorem aB {a b c:World}{r:Option Nat}(h:a.grownBy b r)(k:b.grownBy c r):a.grownBy c r :=
 ⟨k.os.trans h.os,k.tape.trans h.tape,k.output.trans h.output,Nat.le_trans h.size k.size,fun i hi hne=>(k.block i (Nat.lt_of_lt_of_le hi h.size) hne).trans (h.block i hi hne)⟩
def Lx.words:List (List UInt8):=[[98,111,120],[102,110],[103,101,110],[116,97,115,107],[116,97,107,101,115],[121,105,101,108,100,115],[108,101,116],[105,102],[101,108,115,101],[119,104,105,108,101],[114,101,116,117,114,110],[115,116,111,112],[115,101,110,100],[111,117,116],[100,111],[114,101,99,118],[121,105,101,108,100],[115,116,97,114,116],[114,101,115,117,109,101],[97,108,105,118,101],[110,117,109],[98,111,111,108],[116,114,117,101],[102,97,108,115,101],[97,110,100],[111,114],[110,111,116]]
def Lx.kept (l:List UInt8):Bool:=Lx.words.contains l
theorem Ui (s:ByteArray)(w:World) :
  Calls Tryz.prog 110 #[.string s] w fun e w'=>e=.returned (.bool (Lx.kept s.toList))∧w'=w:=by
 go_enter Tryz.func110,Tryz.ntmps110
 go_wp2
 all_goals go_ret
 all_goals refine ⟨lI ?_,rfl⟩
 all_goals
  generalize s.toList=l at *
  simp only [Lx.kept,Lx.words,List.contains_cons]
  simp_all
def Lx.named (l:List UInt8):Bool:=decide (0<l.length) && decide (l.length≤12) && l.all Lx.gP && (l.head?.map Lx.isLet).getD false && !Lx.kept l
theorem toList_eq (s:ByteArray):s.toList=s.data.toList:=Lib.toList_data s
theorem K9 (p:UInt8→Bool):∀ l:List UInt8,decide (Lx.span p l=l.length)=l.all p
 | []=>by simp [Lx.span]
 | a :: l=>by
  have ih:=K9 p l
  unfold Lx.span at ih ⊢
  rw [List.takeWhile_cons,List.all_cons]
  cases h:p a
  ·simp
  ·simp only [if_true,List.length_cons,Bool.true_and]
   rw [← ih]
   simp
theorem zi {s:ByteArray}(h:s.size=0∨12<s.size):Lx.named s.toList=false:=by
 rw [toList_eq]
 have e:s.data.toList.length=s.size:=rfl
 unfold Lx.named
 rw [e]
 rcases h with h | h
 ·simp [h]
 ·have:decide (s.size≤12)=false:=by simp;omega
  rw [this];simp
theorem Uj {s:ByteArray}(h0:0<s.size)(h1:s.size≤12):Lx.named s.toList=(Lx.isLet s[0] && (decide (Lx.span Lx.gP s.data.toList=s.size) && !Lx.kept s.toList)):=by
 rw [toList_eq]
 have e:s.data.toList.length=s.size:=rfl
 have hs:=K9 Lx.gP s.data.toList
 rw [e] at hs
 have hh:(s.data.toList.head?.map Lx.isLet).getD false=Lx.isLet s[0]:=by rw [Lx.xA s h0];rfl
 unfold Lx.named
 rw [hs,hh,e,decide_eq_true h0,decide_eq_true h1]
 simp only [Bool.true_and]
 cases Lx.isLet s[0] <;> cases s.data.toList.all Lx.gP <;> simp
theorem Uk {s:ByteArray}(h:0<s.size):s.toList.isEmpty=false:=by
 rw [toList_eq,Lx.xA s h];rfl
theorem rH (s:ByteArray)(w:World)(hs:s.size≤maxLen) :
  Calls Tryz.prog 81 #[.string s] w fun e w'=>e=.returned (.bool (Lx.named s.toList))∧w'=w:=by
 have hs':=hs
 unfold maxLen at hs'
 by_cases h0:s.size=0
 ·have HB:Hid (Lx.named s.toList=false):=zi (.inl h0)
  have he:s.toList.isEmpty=true:=by
   rw [toList_eq]
   have:s.data.toList.length=0:=h0
   rw [List.length_eq_zero_iff.1 this];rfl
  clear h0
  go_enter Tryz.func81,Tryz.ntmps81
  go_wp2
  go_ret
  exact ⟨lI HB.out.symm,rfl⟩
 ·have h0':0<s.size:=by omega
  have he:s.toList.isEmpty=false:=Uk h0'
  by_cases h12:12<s.size
  ·have HB:Hid (Lx.named s.toList=false):=zi (.inr h12)
   go_enter Tryz.func81,Tryz.ntmps81
   go_wp2
   go_ret
   exact ⟨lI HB.out.symm,rfl⟩
  ·have HG:Hid (Lx.named s.toList=(Lx.isLet s[0] && (decide (Lx.span Lx.gP s.data.toList=s.size) && !Lx.kept s.toList))):=Uj h0' (by omega)
   cases hl:Lx.isLet s[0]
   ·rw [hl] at HG
    go_enter Tryz.func81,Tryz.ntmps81
    go_wp2_with fail
    refine (qF _ _).mono ?_
    rintro e w1 ⟨rfl,rfl⟩
    go_wp2
    go_ret
    exact ⟨lI (by rw [HG.out];rfl),rfl⟩
   ·rw [hl] at HG
    by_cases hsp:Lx.span Lx.gP s.data.toList=s.size
    ·rw [decide_eq_true hsp] at HG
     have e1:(((Lx.span Lx.gP s.data.toList:Nat):Int)==(s.size:Int))=true:=by simp;omega
     clear hsp
     go_enter Tryz.func81,Tryz.ntmps81
     go_wp2_with fail
     refine (qF _ _).mono ?_
     rintro e w1 ⟨rfl,rfl⟩
     go_wp2_with fail
     refine (EW s _ hs).mono ?_
     rintro e w1 ⟨rfl,rfl⟩
     go_wp2_with fail
     refine (Ui s _).mono ?_
     rintro e w1 ⟨rfl,rfl⟩
     go_wp2
     go_ret
     exact ⟨lI (by rw [HG.out];simp),rfl⟩
    ·rw [decide_eq_false hsp] at HG
     have e1:(((Lx.span Lx.gP s.data.toList:Nat):Int)==(s.size:Int))=false:=by simp;omega
     clear hsp
     go_enter Tryz.func81,Tryz.ntmps81
     go_wp2_with fail
     refine (qF _ _).mono ?_
     rintro e w1 ⟨rfl,rfl⟩
     go_wp2_with fail
     refine (EW s _ hs).mono ?_
     rintro e w1 ⟨rfl,rfl⟩
     go_wp2
     go_ret
     exact ⟨lI (by rw [HG.out];rfl),rfl⟩
end Go.Proofs.YtolfleeidpeomaaGreatDoor
namespace Go.Proofs.YtolfleeidpeomaaGreatDoor
namespace Lx
theorem Ul (s:ByteArray)(h0:0<s.size)(h1:¬ 1<s.size):iq s.data.toList=if one s[0] then 1 else 0:=by
 rw [xA s h0,List.drop_of_length_le (by simp;omega)]
 simp [iq]
theorem Um (s:ByteArray)(h1:1<s.size):iq s.data.toList=if decide (s[1].toNat=61) && two s[0] then 2 else if one s[0] then 1 else 0:=by
 have h0:0<s.size:=by omega
 have h:=List.drop_eq_getElem_cons (l:=s.data.toList) (i:=1) (by simpa using h1)
 rw [xA s h0,h]
 have e:s.data.toList[1]'(by simpa using h1)=s[1]:=rfl
 rw [e]
 have e2:(some s[1]==some (61:UInt8))=decide (s[1].toNat=61):=by
  rw [Bool.eq_iff_iff];simp [← UInt8.toNat_inj]
 simp only [iq,List.head?_cons,e2]
def kI (l:List UInt8):Nat:=l.foldl (fun n c=>n * 10+(c.toNat - 48)) 0
theorem EX (l:List UInt8)(c:UInt8):kI (l++[c])=kI l * 10+(c.toNat - 48):=by
 simp [kI,List.foldl_append]
theorem La:∀ (l:List UInt8),(∀ c ∈ l,dB c=true)→kI l<10 ^ l.length:=by
 intro l
 generalize hn:l.length=n
 induction n generalizing l with
 | zero =>
  intro _
  have e:l=[]:=List.length_eq_zero_iff.1 hn
  subst e
  decide
 | succ n ih =>
  intro h
  obtain ⟨xs,x,rfl⟩:∃ xs x,l=xs++[x]:=⟨l.dropLast,l.getLast (by intro e;simp [e] at hn),(List.dropLast_concat_getLast _).symm⟩
  have hx:=h x (by simp)
  have:=ih xs (by simpa using hn) (fun c hc=>h c (by simp [hc]))
  rw [EX,Nat.pow_succ]
  have hx2:x.toNat≤57:=by have:=of_decide_eq_true hx;omega
  omega
def dP (l:List UInt8):Nat × Nat × Nat × Nat :=
 match l with
 | []=>(2,0,0,0)
 | c :: r =>
  if isLet c then (0,1,span gP (c :: r),0)
  else if dB c then (if 15<span dB (c :: r) then (3,0,0,0) else (0,2,span dB (c :: r),kI ((c :: r).take (span dB (c :: r)))))
  else if iq (c :: r)=0 then (2,0,0,0) else (0,3,iq (c :: r),0)
theorem EY (p:UInt8→Bool):∀ (l:List UInt8),∀ c ∈ l.take (span p l),p c=true
 | [],c,h=>by simp at h
 | a :: l,c,h=>by
  unfold span at h
  rw [List.takeWhile_cons] at h
  split at h
  ·rename_i ha
   simp only [List.length_cons,List.take_succ_cons,List.mem_cons] at h
   rcases h with rfl | h
   ·exact ha
   ·exact EY p l c h
  ·simp at h
theorem Lb (l:List UInt8):iq l≤l.length:=by
 match l with
 | []=>simp [iq]
 | [c]=>simp [iq];split <;> omega
 | c :: d :: l=>simp only [iq];split <;> (try split) <;> simp
end Lx
namespace Lx
theorem Ci {l:List UInt8}{E K N M:Nat}(h:dP l=(E,K,N,M)):N≤l.length:=by
 match l with
 | []=>simp [dP] at h;omega
 | c :: r =>
  have h1:=zh gP (c :: r)
  have h2:=zh dB (c :: r)
  have h3:=Lb (c :: r)
  simp only [dP] at h
  split at h
  ·simp only [Prod.mk.injEq] at h;omega
  ·split at h
   ·split at h <;> simp only [Prod.mk.injEq] at h <;> omega
   ·split at h <;> simp only [Prod.mk.injEq] at h <;> omega
theorem Lc {p:UInt8→Bool}{c:UInt8}{r:List UInt8}(h:p c=true):0<span p (c :: r):=by
 unfold span;rw [List.takeWhile_cons,if_pos h];simp
theorem Ld {l:List UInt8}{K N M:Nat}(h:dP l=(0,K,N,M)):0<N∧0<K:=by
 match l with
 | []=>simp [dP] at h
 | c :: r =>
  simp only [dP] at h
  split at h
  ·rename_i hl
   have:=Lc (p:=gP) (c:=c) (r:=r) (by simp [gP,hl])
   simp only [Prod.mk.injEq] at h;omega
  ·split at h
   ·rename_i hd
    have:=Lc (p:=dB) (c:=c) (r:=r) hd
    split at h <;> simp only [Prod.mk.injEq] at h <;> omega
   ·split at h <;> simp only [Prod.mk.injEq] at h <;> omega
end Lx
theorem extract_to_end (s:ByteArray)(p:Nat):(s.extract p s.size).data.toList=s.data.toList.drop p:=by
 rw [ByteArray.data_extract]
 simp only [Array.toList_extract,List.extract_eq_take_drop]
 exact List.take_of_length_le (by simp)
theorem Un (s:ByteArray)(p N:Nat)(h:N≤s.size - p):(s.extract p s.size).extract 0 N=s.extract p (p+N):=by
 apply ByteArray.ext
 apply Array.toList_inj.1
 simp only [ByteArray.data_extract,Array.toList_extract,List.extract_eq_take_drop,List.drop_zero,Nat.sub_zero]
 have e:p+N - p=N:=by omega
 rw [e,List.take_take]
 congr 1
 have:s.data.size=s.size:=rfl
 omega
end Go.Proofs.YtolfleeidpeomaaGreatDoor

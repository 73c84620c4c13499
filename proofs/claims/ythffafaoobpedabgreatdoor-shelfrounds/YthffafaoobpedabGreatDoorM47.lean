/- What syn.Read answers of the text of rounds,reckoned once. -/
import Derived.Test.YthffafaoobpedabGreatDoorM46
import Derived.Test.YthffafaoobpedabGreatDoorM44
namespace Go.Proofs.YthffafaoobpedabGreatDoor
namespace Xe
def kRounds:Memo:=⟨21,[98,111,120,32,105,110,32,110,117,109,32,50,48,32,59,10,35,32,97,32,103,101,110,101,114,97,116,111,114,32,119,105,116,104,105,110,32,97,32,103,101,110,101,114,97,116,111,114,10,103,101,110,32,105,110,110,101,114,40,110,32,110,117,109,41,32,116,97,107,101,115,32,98,111,111,108,32,121,105,101,108,100,115,32,110,117,109,32,123,10,32,32,108,101,116,32,105,32,61,32,48,32,59,10,32,32,119,104,105,108,101,32,105,32,60,32,110,32,123,32,100,111,32,121,105,101,108,100,40,105,41,32,59,32,105,32,61,32,105,32,43,32,49,32,59,32,125,10,125,10,103,101,110,32,111,117,116,101,114,40,41,32,116,97,107,101,115,32,110,117,109,32,121,105,101,108,100,115,32,110,117,109,32,123,10,32,32,108,101,116,32,110,32,61,32,121,105,101,108,100,40,48,41,32,59,10,32,32,119,104,105,108,101,32,116,114,117,101,32,123,10,32,32,32,32,108,101,116,32,103,32,61,32,115,116,97,114,116,32,105,110,110,101,114,40,110,41,32,59,10,32,32,32,32,108,101,116,32,115,32,61,32,48,32,59,10,32,32,32,32,119,104,105,108,101,32,97,108,105,118,101,40,103,41,32,123,32,115,32,61,32,115,32,43,32,114,101,115,117,109,101,40,103,44,32,116,114,117,101,41,32,59,32,125,10,32,32,32,32,110,32,61,32,121,105,101,108,100,40,115,41,32,59,10,32,32,125,10,125,10,116,97,115,107,32,109,97,105,110,32,123,10,32,32,108,101,116,32,111,32,61,32,115,116,97,114,116,32,111,117,116,101,114,40,41,32,59,10,32,32,100,111,32,114,101,115,117,109,101,40,111,44,32,48,41,32,59,10,32,32,119,104,105,108,101,32,116,114,117,101,32,123,32,111,117,116,32,114,101,115,117,109,101,40,111,44,32,114,101,99,118,40,105,110,41,41,32,59,32,125,10,125,10],100000,.tuple #[.slice (some ⟨276472,0,none⟩) 4 9,.agg #[.int .i64 0,.int .i64 0]],285993,[(276472,[.int .i64 1,.string ⟨#[105,110]⟩,.int .i64 1,.string ⟨#[]⟩,.int .i64 0,.string ⟨#[]⟩,.int .i64 20,.slice none 0 0,.slice none 0 0,.int .i64 3,.string ⟨#[105,110,110,101,114]⟩,.int .i64 1,.string ⟨#[]⟩,.int .i64 2,.string ⟨#[]⟩,.int .i64 0,.slice (some ⟨239393,0,none⟩) 1 3,.slice (some ⟨248228,0,none⟩) 2 8,.int .i64 3,.string ⟨#[111,117,116,101,114]⟩,.int .i64 1,.string ⟨#[]⟩,.int .i64 1,.string ⟨#[]⟩,.int .i64 0,.slice none 0 0,.slice (some ⟨265977,0,none⟩) 2 8,.int .i64 4,.string ⟨#[109,97,105,110]⟩,.int .i64 0,.string ⟨#[]⟩,.int .i64 0,.string ⟨#[]⟩,.int .i64 0,.slice none 0 0,.slice (some ⟨276395,0,none⟩) 3 8]),(239393,[.string ⟨#[110]⟩,.int .i64 1,.string ⟨#[]⟩]),(248228,[.int .i64 1,.string ⟨#[105]⟩,.int .i64 1,.int .i64 0,.string ⟨#[]⟩,.slice none 0 0,.slice none 0 0,.slice none 0 0,.int .i64 4,.string ⟨#[]⟩,.int .i64 13,.int .i64 0,.string ⟨#[]⟩,.slice (some ⟨242121,0,none⟩) 2 4,.slice (some ⟨248151,0,none⟩) 2 8,.slice none 0 0]),(242121,[.int .i64 3,.int .i64 0,.string ⟨#[105]⟩,.slice none 0 0,.int .i64 3,.int .i64 0,.string ⟨#[110]⟩,.slice none 0 0]),(248151,[.int .i64 9,.string ⟨#[]⟩,.int .i64 21,.int .i64 0,.string ⟨#[]⟩,.slice (some ⟨244400,0,none⟩) 1 4,.slice none 0 0,.slice none 0 0,.int .i64 2,.string ⟨#[105]⟩,.int .i64 6,.int .i64 0,.string ⟨#[]⟩,.slice (some ⟨247670,0,none⟩) 2 4,.slice none 0 0,.slice none 0 0]),(244400,[.int .i64 3,.int .i64 0,.string ⟨#[105]⟩,.slice none 0 0]),(247670,[.int .i64 3,.int .i64 0,.string ⟨#[105]⟩,.slice none 0 0,.int .i64 1,.int .i64 1,.string ⟨#[]⟩,.slice none 0 0]),(265977,[.int .i64 1,.string ⟨#[110]⟩,.int .i64 21,.int .i64 0,.string ⟨#[]⟩,.slice (some ⟨250341,0,none⟩) 1 4,.slice none 0 0,.slice none 0 0,.int .i64 4,.string ⟨#[]⟩,.int .i64 2,.int .i64 1,.string ⟨#[]⟩,.slice none 0 0,.slice (some ⟨265900,0,none⟩) 4 8,.slice none 0 0]),(250341,[.int .i64 1,.int .i64 0,.string ⟨#[]⟩,.slice none 0 0]),(265900,[.int .i64 1,.string ⟨#[103]⟩,.int .i64 22,.int .i64 0,.string ⟨#[105,110,110,101,114]⟩,.slice (some ⟨254559,0,none⟩) 1 4,.slice none 0 0,.slice none 0 0,.int .i64 1,.string ⟨#[115]⟩,.int .i64 1,.int .i64 0,.string ⟨#[]⟩,.slice none 0 0,.slice none 0 0,.slice none 0 0,.int .i64 4,.string ⟨#[]⟩,.int .i64 24,.int .i64 0,.string ⟨#[]⟩,.slice (some ⟨256810,0,none⟩) 1 4,.slice (some ⟨262920,0,none⟩) 1 8,.slice none 0 0,.int .i64 2,.string ⟨#[110]⟩,.int .i64 21,.int .i64 0,.string ⟨#[]⟩,.slice (some ⟨264410,0,none⟩) 1 4,.slice none 0 0,.slice none 0 0]),(254559,[.int .i64 3,.int .i64 0,.string ⟨#[110]⟩,.slice none 0 0]),(256810,[.int .i64 3,.int .i64 0,.string ⟨#[103]⟩,.slice none 0 0]),(262920,[.int .i64 2,.string ⟨#[115]⟩,.int .i64 6,.int .i64 0,.string ⟨#[]⟩,.slice (some ⟨260100,0,none⟩) 2 4,.slice none 0 0,.slice none 0 0]),(260100,[.int .i64 3,.int .i64 0,.string ⟨#[115]⟩,.slice none 0 0,.int .i64 23,.int .i64 0,.string ⟨#[]⟩,.slice (some ⟨262547,0,none⟩) 2 4]),(262547,[.int .i64 3,.int .i64 0,.string ⟨#[103]⟩,.slice none 0 0,.int .i64 2,.int .i64 1,.string ⟨#[]⟩,.slice none 0 0]),(264410,[.int .i64 3,.int .i64 0,.string ⟨#[115]⟩,.slice none 0 0]),(276395,[.int .i64 1,.string ⟨#[111]⟩,.int .i64 22,.int .i64 0,.string ⟨#[111,117,116,101,114]⟩,.slice none 0 0,.slice none 0 0,.slice none 0 0,.int .i64 9,.string ⟨#[]⟩,.int .i64 23,.int .i64 0,.string ⟨#[]⟩,.slice (some ⟨271155,0,none⟩) 2 4,.slice none 0 0,.slice none 0 0,.int .i64 4,.string ⟨#[]⟩,.int .i64 2,.int .i64 1,.string ⟨#[]⟩,.slice none 0 0,.slice (some ⟨276318,0,none⟩) 1 8,.slice none 0 0]),(271155,[.int .i64 3,.int .i64 0,.string ⟨#[111]⟩,.slice none 0 0,.int .i64 1,.int .i64 0,.string ⟨#[]⟩,.slice none 0 0]),(276318,[.int .i64 8,.string ⟨#[]⟩,.int .i64 23,.int .i64 0,.string ⟨#[]⟩,.slice (some ⟨275947,0,none⟩) 2 4,.slice none 0 0,.slice none 0 0]),(275947,[.int .i64 3,.int .i64 0,.string ⟨#[111]⟩,.slice none 0 0,.int .i64 20,.int .i64 0,.string ⟨#[105,110]⟩,.slice none 0 0])]⟩
set_option maxRecDepth 1000000 in
theorem read_kRounds:chk (fnRoundsT kRounds.f [.string ⟨⟨kRounds.arg⟩⟩] ⟨kRounds.c0,h0,[]⟩) kRounds=true:=by kernel_rfl
end Xe
namespace Xe
def nRounds:ByteArray:=⟨#[114,111,117,110,100,115]⟩
def mRounds:Vf.Md:=⟨[⟨1,20⟩],[⟨3,1,[1,1],1,2,[⟨1,0,0⟩,⟨4,1,0⟩,⟨3,1,0⟩,⟨3,0,0⟩,⟨15,0,0⟩,⟨22,14,0⟩,⟨3,1,0⟩,⟨31,0,0⟩,⟨5,0,0⟩,⟨3,1,0⟩,⟨1,0,1⟩,⟨8,0,0⟩,⟨4,1,0⟩,⟨21,2,0⟩,⟨25,0,0⟩]⟩,⟨3,0,[1,10,1],1,1,[⟨1,0,0⟩,⟨31,0,0⟩,⟨4,0,0⟩,⟨2,1,0⟩,⟨22,24,0⟩,⟨3,0,0⟩,⟨29,0,0⟩,⟨4,1,0⟩,⟨1,0,0⟩,⟨4,2,0⟩,⟨3,1,0⟩,⟨32,0,0⟩,⟨22,20,0⟩,⟨3,2,0⟩,⟨3,1,0⟩,⟨2,1,0⟩,⟨30,0,0⟩,⟨8,0,0⟩,⟨4,2,0⟩,⟨21,10,0⟩,⟨3,2,0⟩,⟨31,0,0⟩,⟨4,0,0⟩,⟨21,3,0⟩,⟨25,0,0⟩]⟩,⟨4,0,[11],0,0,[⟨29,1,0⟩,⟨4,0,0⟩,⟨3,0,0⟩,⟨1,0,0⟩,⟨30,0,0⟩,⟨5,0,0⟩,⟨2,1,0⟩,⟨22,13,0⟩,⟨3,0,0⟩,⟨27,0,0⟩,⟨30,0,0⟩,⟨28,0,0⟩,⟨21,6,0⟩,⟨25,0,0⟩]⟩]⟩
noncomputable def fnRounds:Cl:=func Tryz.prog (memoSp kRounds special2) 60 false
theorem fnRounds_ok:CallOk Tryz.prog fnRounds:=(func_ok names_ok (memo_ok fnRoundsT_ok read_kRounds sp_ok2) (fun call hC=>draw_ok names_ok mixed_ok call hC) 60).1
set_option maxRecDepth 1000000 in
theorem ans_rounds:ans (fnRounds 12 [.string nRounds] s0)=some mRounds:=by kernel_rfl
end Xe
end Go.Proofs.YthffafaoobpedabGreatDoor
namespace Go.Proofs.YthffafaoobpedabGreatDoor.Vw
open Go.RowKit Vf Vm
def rs:Nat→Int
 | 0=>0
 | k+1=>wrap (rs k+(k:Int))
theorem rs_zero (k:Nat):wrap (rs k+0)=rs k:=by
 rw [Int.add_zero]
 cases k with
 | zero=>exact wrap_in (by decide) (by decide)
 | succ k=>exact wrap_wrap _
abbrev mn (ws:List Int) (pc:Nat):Th:=⟨ws,[⟨2,pc,0⟩],2,none⟩
abbrev ou (ws:List Int) (pc st:Nat):Th:=⟨ws,[⟨1,pc,0⟩],st,some 0⟩
abbrev jj (R:List Th):Int:=((R.length+2:Nat):Int)
abbrev rc (a b:Th) (R:List Th) (hand:Nat) (o:List Int) (X:List Lst):Cf:=⟨a :: b :: R,hand,o,X⟩
abbrev newI (v:Int):Th:=⟨[v,0],[⟨0,0,0⟩],0,none⟩
abbrev heldI (v i:Int):Th:=⟨[v,i],[⟨0,8,0⟩],1,some 1⟩
abbrev overI (v i:Int):Th:=⟨[v,i],[⟨0,15,0⟩],3,some 1⟩
open Xe in
theorem rounds_in (l:List Int)(k p:Nat)(hp:p=2∨p=22)(R:List Th)(n g s v:Int)(o:List Int)(hv:l[k]?=some v)(hlt:k < l.length) :
  Goes mRounds 9 (rc (mn [1,1] 9) (ou [n,g,s] p 1) R 0 o [⟨l,k,[]⟩]) (rc (mn [1] 11) (ou [v,g,s,v] 6 2) R 1 o [⟨l,k+1,[]⟩]):=by
 have h1:Goes mRounds 1 (rc (mn [1,1] 9) (ou [n,g,s] p 1) R 0 o [⟨l,k,[]⟩]) (rc (mn [1,1,v] 10) (ou [n,g,s] p 1) R 0 o [⟨l,k+1,[]⟩]):=.recv (fun v=>rc (mn [1,1,v] 10) (ou [n,g,s] p 1) R 0 o [⟨l,k+1,[]⟩]) hv (fun _=>stat_more rfl rfl rfl hlt) (q:=0) (fun _=>by kernel_rfl)
 rcases hp with rfl | rfl
 ·have h2:Goes mRounds 5 (rc (mn [1,1,v] 10) (ou [n,g,s] 2 1) R 0 o [⟨l,k+1,[]⟩]) (rc (mn [1] 11) (ou [v,g,s,v] 6 2) R 1 o [⟨l,k+1,[]⟩]):=.run 5 fun _ _=>by kernel_rfl
  exact (h1.trans h2).mono (by decide)
 ·have h2:Goes mRounds 6 (rc (mn [1,1,v] 10) (ou [n,g,s] 22 1) R 0 o [⟨l,k+1,[]⟩]) (rc (mn [1] 11) (ou [v,g,s,v] 6 2) R 1 o [⟨l,k+1,[]⟩]):=.run 6 fun _ _=>by kernel_rfl
  exact (h1.trans h2).mono (by decide)
open Xe in
theorem rounds_start (R:List Th)(hR:R.length < 20)(g s v:Int)(o:List Int)(X:List Lst) :
  Goes mRounds 4 (rc (mn [1] 11) (ou [v,g,s,v] 6 2) R 1 o X) (rc (mn [1] 11) (ou [v,jj R,0] 10 2) (R ++ [newI v]) 1 o X):=by
 have h1:Goes mRounds 1 (rc (mn [1] 11) (ou [v,g,s,v] 6 2) R 1 o X) (rc (mn [1] 11) (ou [v,g,s,jj R] 7 2) (R ++ [newI v]) 1 o X):=by
  refine Goes.step (e:=[⟨6,0,0⟩]) (fun _=>by kernel_rfl) (fun log=>?_)
  have e1:one lsX mRounds ((rc (mn [1] 11) (ou [v,g,s,v] 6 2) R 1 o X).tk log) X=(((rc (mn [1] 11) (ou [v,g,s,v] 7 2) R 1 o X).tk log).start mRounds 0,X):=by kernel_rfl
  rw [e1]
  unfold Tk.start
  have h31:¬ ((rc (mn [1] 11) (ou [v,g,s,v] 7 2) R 1 o X).tk log).ths.length=31:=by
   show ¬ R.length+1+1=31
   omega
  simp only [if_neg h31]
  rfl
 have h2:Goes mRounds 3 (rc (mn [1] 11) (ou [v,g,s,jj R] 7 2) (R ++ [newI v]) 1 o X) (rc (mn [1] 11) (ou [v,jj R,0] 10 2) (R ++ [newI v]) 1 o X):=.run 3 fun _ _=>by kernel_rfl
 exact h1.trans h2
theorem th_last (a b h:Th)(R:List Th)(hand:Nat)(o:List Int)(log:List Ev):(⟨a :: b :: (R ++ [h]),hand,o,0,0,log⟩:Tk).th (jj R).toNat=h:=by
 have e:(a :: b :: (R ++ [h]))[(jj R).toNat]?=some h:=get_last h (a :: b :: R)
 unfold Tk.th
 rw [e]
 rfl
open Xe in
theorem rounds_alive (R:List Th)(h:Th)(s v:Int)(o:List Int)(X:List Lst) :
  Goes mRounds 2 (rc (mn [1] 11) (ou [v,jj R,s] 10 2) (R ++ [h]) 1 o X) (rc (mn [1] 11) (ou [v,jj R,s,yes (h.stands != 3)] 12 2) (R ++ [h]) 1 o X):=by
 have h1:Goes mRounds 1 (rc (mn [1] 11) (ou [v,jj R,s] 10 2) (R ++ [h]) 1 o X) (rc (mn [1] 11) (ou [v,jj R,s,jj R] 11 2) (R ++ [h]) 1 o X):=.run 1 fun _ _=>by kernel_rfl
 refine h1.trans (Goes.step (e:=[]) (fun _=>by kernel_rfl) (fun log=>?_))
 have e1:one lsX mRounds ((rc (mn [1] 11) (ou [v,jj R,s,jj R] 11 2) (R ++ [h]) 1 o X).tk log) X=(((rc (mn [1] 11) (ou [v,jj R,s,jj R] 12 2) (R ++ [h]) 1 o X).tk log).alive,X):=by kernel_rfl
 rw [e1,List.append_nil]
 have e2:((rc (mn [1] 11) (ou [v,jj R,s,jj R] 12 2) (R ++ [h]) 1 o X).tk log).alive=(((rc (mn [1] 11) (ou [v,jj R,s] 12 2) (R ++ [h]) 1 o X).tk log)).put (yes ((((rc (mn [1] 11) (ou [v,jj R,s] 12 2) (R ++ [h]) 1 o X).tk log).th (jj R).toNat).stands != 3)):=rfl
 rw [e2,th_last]
 rfl
open Xe in
theorem rounds_ask (R:List Th)(s v:Int)(o:List Int)(X:List Lst) :
  Goes mRounds 4 (rc (mn [1] 11) (ou [v,jj R,s,yes true] 12 2) R 1 o X) (rc (mn [1] 11) (ou [v,jj R,s,s,jj R,1] 16 2) R 1 o X):=.run 4 fun _ _=>by kernel_rfl
theorem set_jj (a b h h':Th)(R:List Th)(hand:Nat)(o:List Int)(log:List Ev):(⟨a :: b :: (R ++ [h]),hand,o,0,0,log⟩:Tk).set (jj R).toNat h'=⟨a :: b :: (R ++ [h']),hand,o,0,0,log⟩:=by
 have e:(a :: b :: (R ++ [h])).set (jj R).toNat h'=a :: b :: (R ++ [h']):=set_last h h' (a :: b :: R)
 unfold Tk.set
 rw [e]
open Xe in
theorem rounds_first (R:List Th)(s v:Int)(o:List Int)(X:List Lst) :
  Goes mRounds 1 (rc (mn [1] 11) (ou [v,jj R,s,s,jj R,1] 16 2) (R ++ [newI v]) 1 o X) (pp (mn [1] 11 :: ou [v,jj R,s,s] 17 2 :: R) [v,0] [⟨0,0,0⟩] (some 1) o X):=by
 refine Goes.step (e:=[]) (fun _=>by kernel_rfl) (fun log=>?_)
 have e1:one lsX mRounds ((rc (mn [1] 11) (ou [v,jj R,s,s,jj R,1] 16 2) (R ++ [newI v]) 1 o X).tk log) X=(((rc (mn [1] 11) (ou [v,jj R,s,s,jj R,1] 17 2) (R ++ [newI v]) 1 o X).tk log).resume,X):=by kernel_rfl
 rw [e1,List.append_nil]
 have e2:∀ t:Tk,t=((rc (mn [1] 11) (ou [v,jj R,s,s] 17 2) (R ++ [newI v]) 1 o X).tk log)→((rc (mn [1] 11) (ou [v,jj R,s,s,jj R,1] 17 2) (R ++ [newI v]) 1 o X).tk log).resume =
   if (t.th (jj R).toNat).stands=3 then t.fall 2 else if (t.th (jj R).toNat).stands=2 then t.fall 3 else
    if (t.th (jj R).toNat).stands=1 then ({ t.set (jj R).toNat { t.th (jj R).toNat with stands:=2,up:=some 1 } with hand:=(jj R).toNat }:Tk).put 1 else ({ t.set (jj R).toNat { t.th (jj R).toNat with stands:=2,up:=some 1 } with hand:=(jj R).toNat }:Tk):=by
  intro t ht
  subst ht
  rfl
 rw [e2 _ rfl,th_last,if_neg (show ¬ (0:Nat)=3 by decide),if_neg (show ¬ (0:Nat)=2 by decide),if_neg (show ¬ (0:Nat)=1 by decide),set_jj]
 rfl
open Xe in
theorem rounds_more (R:List Th)(s v i:Int)(o:List Int)(X:List Lst) :
  Goes mRounds 1 (rc (mn [1] 11) (ou [v,jj R,s,s,jj R,1] 16 2) (R ++ [heldI v i]) 1 o X) (pp (mn [1] 11 :: ou [v,jj R,s,s] 17 2 :: R) [v,i,1] [⟨0,8,0⟩] (some 1) o X):=by
 refine Goes.step (e:=[]) (fun _=>by kernel_rfl) (fun log=>?_)
 have e1:one lsX mRounds ((rc (mn [1] 11) (ou [v,jj R,s,s,jj R,1] 16 2) (R ++ [heldI v i]) 1 o X).tk log) X=(((rc (mn [1] 11) (ou [v,jj R,s,s,jj R,1] 17 2) (R ++ [heldI v i]) 1 o X).tk log).resume,X):=by kernel_rfl
 rw [e1,List.append_nil]
 have e2:∀ t:Tk,t=((rc (mn [1] 11) (ou [v,jj R,s,s] 17 2) (R ++ [heldI v i]) 1 o X).tk log)→((rc (mn [1] 11) (ou [v,jj R,s,s,jj R,1] 17 2) (R ++ [heldI v i]) 1 o X).tk log).resume =
   if (t.th (jj R).toNat).stands=3 then t.fall 2 else if (t.th (jj R).toNat).stands=2 then t.fall 3 else
    if (t.th (jj R).toNat).stands=1 then ({ t.set (jj R).toNat { t.th (jj R).toNat with stands:=2,up:=some 1 } with hand:=(jj R).toNat }:Tk).put 1 else ({ t.set (jj R).toNat { t.th (jj R).toNat with stands:=2,up:=some 1 } with hand:=(jj R).toNat }:Tk):=by
  intro t ht
  subst ht
  rfl
 rw [e2 _ rfl,th_last,if_neg (show ¬ (1:Nat)=3 by decide),if_neg (show ¬ (1:Nat)=2 by decide),if_pos rfl,set_jj]
 have hp:=pp_put (P:=mn [1] 11 :: ou [v,jj R,s,s] 17 2 :: R) (ws:=[v,i]) (fs:=[⟨0,8,0⟩]) (up:=some 1) (o:=o) (X:=X) 1 log (by simp)
 have h3:((pp (mn [1] 11 :: ou [v,jj R,s,s] 17 2 :: R) ([v,i] ++ [1]) [⟨0,8,0⟩] (some 1) o X).tk log,X)=((pp (mn [1] 11 :: ou [v,jj R,s,s] 17 2 :: R) [v,i,1] [⟨0,8,0⟩] (some 1) o X).tk log,X):=rfl
 rw [← h3,← hp]
 rfl
section
variable (P:List Th) (v i:Int) (o:List Int) (X:List Lst)
theorem inner_new:Goes Xe.mRounds 2 (pp P [v,0] [⟨0,0,0⟩] (some 1) o X) (pp P [v,0] [⟨0,2,0⟩] (some 1) o X):=by
 have h1:Goes Xe.mRounds 1 (pp P [v,0] [⟨0,0,0⟩] (some 1) o X) (pp P ([v,0] ++ [0]) [⟨0,1,0⟩] (some 1) o X):=pp_push (a:=0) rfl (by simp)
 have h2:Goes Xe.mRounds 1 (pp P ([v,0] ++ [0]) [⟨0,1,0⟩] (some 1) o X) (pp P [v,0] [⟨0,2,0⟩] (some 1) o X):=pp_store (p:=[v,0]) (a:=1) (n:=0) rfl
 exact h1.trans h2
theorem inner_on:Goes Xe.mRounds 6 (pp P [v,i,1] [⟨0,8,0⟩] (some 1) o X) (pp P [v,wrap (i+1)] [⟨0,2,0⟩] (some 1) o X):=by
 have h1:Goes Xe.mRounds 1 (pp P ([v,i] ++ [1]) [⟨0,8,0⟩] (some 1) o X) (pp P [v,i] [⟨0,9,0⟩] (some 1) o X):=pp_pop (a:=0) (n:=0) rfl
 have h2:Goes Xe.mRounds 1 (pp P [v,i] [⟨0,9,0⟩] (some 1) o X) (pp P ([v,i] ++ [i]) [⟨0,10,0⟩] (some 1) o X):=pp_get (a:=1) (n:=0) rfl rfl (by simp)
 have h3:Goes Xe.mRounds 1 (pp P ([v,i] ++ [i]) [⟨0,10,0⟩] (some 1) o X) (pp P ([v,i] ++ [i] ++ [1]) [⟨0,11,0⟩] (some 1) o X):=pp_push (a:=0) rfl (by simp)
 have h4:Goes Xe.mRounds 1 (pp P ([v,i] ++ [i] ++ [1]) [⟨0,11,0⟩] (some 1) o X) (pp P ([v,i] ++ [wrap (i+1)]) [⟨0,12,0⟩] (some 1) o X):=pp_bin (op:=8) (a:=0) (n:=0) rfl (by decide) (by decide) (fun _ _=>rfl) (by decide) (by decide) (by simp)
 have h5:Goes Xe.mRounds 1 (pp P ([v,i] ++ [wrap (i+1)]) [⟨0,12,0⟩] (some 1) o X) (pp P [v,wrap (i+1)] [⟨0,13,0⟩] (some 1) o X):=pp_store (p:=[v,i]) (a:=1) (n:=0) rfl
 have h6:Goes Xe.mRounds 1 (pp P [v,wrap (i+1)] [⟨0,13,0⟩] (some 1) o X) (pp P [v,wrap (i+1)] [⟨0,2,0⟩] (some 1) o X):=pp_jump (a:=2) (n:=0) rfl
 exact ((((h1.trans h2).trans h3).trans h4).trans h5).trans h6
theorem inner_test:Goes Xe.mRounds 4 (pp P [v,i] [⟨0,2,0⟩] (some 1) o X) (pp P [v,i] [⟨0,if yes (decide (i < v))=0 then 14 else 6,0⟩] (some 1) o X):=by
 have h1:Goes Xe.mRounds 1 (pp P [v,i] [⟨0,2,0⟩] (some 1) o X) (pp P ([v,i] ++ [i]) [⟨0,3,0⟩] (some 1) o X):=pp_get (a:=1) (n:=0) rfl rfl (by simp)
 have h2:Goes Xe.mRounds 1 (pp P ([v,i] ++ [i]) [⟨0,3,0⟩] (some 1) o X) (pp P ([v,i] ++ [i] ++ [v]) [⟨0,4,0⟩] (some 1) o X):=pp_get (a:=0) (n:=0) rfl rfl (by simp)
 have h3:Goes Xe.mRounds 1 (pp P ([v,i] ++ [i] ++ [v]) [⟨0,4,0⟩] (some 1) o X) (pp P ([v,i] ++ [yes (decide (i < v))]) [⟨0,5,0⟩] (some 1) o X):=pp_bin (op:=15) (a:=0) (n:=0) rfl (by decide) (by decide) (fun _ _=>rfl) (by decide) (by decide) (by simp)
 have h4:Goes Xe.mRounds 1 (pp P ([v,i] ++ [yes (decide (i < v))]) [⟨0,5,0⟩] (some 1) o X) (pp P [v,i] [⟨0,if yes (decide (i < v))=0 then 14 else 6,0⟩] (some 1) o X):=pp_else (a:=14) (n:=0) rfl
 exact ((h1.trans h2).trans h3).trans h4
end
theorem give_pp (R:List Th)(a:Th)(ow:List Int)(pc st:Nat)(ws:List Int)(fs:List Wk)(v:Int)(o:List Int)(X:List Lst)(log:List Ev)(hl:ow.length < 400):((pp (a :: ou ow pc 2 :: R) ws fs (some 1) o X).tk log).give st v=(rc a (ou (ow ++ [v]) pc 2) (R ++ [⟨ws,fs,st,some 1⟩]) 1 o X).tk log:=by
 have e:((pp (a :: ou ow pc 2 :: R) ws fs (some 1) o X).tk log).give st v=(⟨(a :: ou ow pc 2 :: R) ++ [⟨ws,fs,st,some 1⟩],1,o,0,0,log⟩:Tk).put v:=by
  unfold Tk.give
  simp only [pp_top]
  have h:=pp_set (P:=a :: ou ow pc 2 :: R) (ws:=ws) (fs:=fs) (up:=some 1) (o:=o) (X:=X) log ⟨ws,fs,st,some 1⟩
  show Tk.put { ((pp (a :: ou ow pc 2 :: R) ws fs (some 1) o X).tk log).set (a :: ou ow pc 2 :: R).length ⟨ws,fs,st,some 1⟩ with hand:=1 } v=_
  rw [h]
 rw [e]
 unfold Tk.put
 rw [if_neg (by show ¬ ow.length=400;omega)]
 rfl
theorem rounds_yield (R:List Th)(s v i:Int)(o:List Int)(X:List Lst) :
  Goes Xe.mRounds 2 (pp (mn [1] 11 :: ou [v,jj R,s,s] 17 2 :: R) [v,i] [⟨0,6,0⟩] (some 1) o X) (rc (mn [1] 11) (ou [v,jj R,s,s,i] 17 2) (R ++ [heldI v i]) 1 o X):=by
 have h1:Goes Xe.mRounds 1 (pp (mn [1] 11 :: ou [v,jj R,s,s] 17 2 :: R) [v,i] [⟨0,6,0⟩] (some 1) o X) (pp (mn [1] 11 :: ou [v,jj R,s,s] 17 2 :: R) ([v,i] ++ [i]) [⟨0,7,0⟩] (some 1) o X):=pp_get (a:=1) (n:=0) rfl rfl (by simp)
 refine h1.trans (pp_op (c:=⟨31,0,0⟩) rfl (by decide) (by decide) rfl fun rv log=>?_)
 show ((pp (mn [1] 11 :: ou [v,jj R,s,s] 17 2 :: R) ([v,i] ++ [i]) [⟨0,8,0⟩] (some 1) o X).tk log).cut.give 1 ((pp (mn [1] 11 :: ou [v,jj R,s,s] 17 2 :: R) ([v,i] ++ [i]) [⟨0,8,0⟩] (some 1) o X).tk log).last=_
 rw [(pp_last log).1,(pp_last log).2]
 exact give_pp R _ [v,jj R,s,s] 17 1 _ _ i o X log (by decide:4 < 400)
theorem rounds_end (R:List Th)(s v i:Int)(o:List Int)(X:List Lst) :
  Goes Xe.mRounds 1 (pp (mn [1] 11 :: ou [v,jj R,s,s] 17 2 :: R) [v,i] [⟨0,14,0⟩] (some 1) o X) (rc (mn [1] 11) (ou [v,jj R,s,s,0] 17 2) (R ++ [overI v i]) 1 o X):=by
 refine pp_op (c:=⟨25,0,0⟩) rfl (by decide) (by decide) rfl fun rv log=>?_
 show ((pp (mn [1] 11 :: ou [v,jj R,s,s] 17 2 :: R) [v,i] [⟨0,15,0⟩] (some 1) o X).tk log).fin=_
 unfold Tk.fin
 rw [if_neg (by show ¬ R.length+1+1=0;omega)]
 exact give_pp R _ [v,jj R,s,s] 17 3 _ _ 0 o X log (by decide:4 < 400)
open Xe in
theorem rounds_add (R:List Th)(s v i J:Int)(o:List Int)(X:List Lst) :
  Goes mRounds 3 (rc (mn [1] 11) (ou [v,J,s,s,i] 17 2) R 1 o X) (rc (mn [1] 11) (ou [v,J,wrap (s+i)] 10 2) R 1 o X):=by
 have h1:Goes mRounds 1 (rc (mn [1] 11) (ou [v,J,s,s,i] 17 2) R 1 o X) (rc (mn [1] 11) (ou [v,J,s,wrap (s+i)] 18 2) R 1 o X):=.reck 8 (rc (mn [1] 11) (ou [v,J,s,s,i] 18 2) R 1 o X) (by decide) (by decide) (fun _=>by kernel_rfl) (fun _=>by kernel_rfl) (fun _=>by kernel_rfl)
 have h2:Goes mRounds 2 (rc (mn [1] 11) (ou [v,J,s,wrap (s+i)] 18 2) R 1 o X) (rc (mn [1] 11) (ou [v,J,wrap (s+i)] 10 2) R 1 o X):=.run 2 fun _ _=>by kernel_rfl
 exact h1.trans h2
open Xe in
theorem rounds_out (R:List Th)(s v J:Int)(o:List Int)(X:List Lst) :
  Goes mRounds 8 (rc (mn [1] 11) (ou [v,J,s,yes false] 12 2) R 1 o X) (rc (mn [1,1] 9) (ou [v,J,s] 22 1) R 0 (o ++ [s]) X):=.run' 8 [⟨1,0,s⟩] fun _ _=>by kernel_rfl
theorem rounds_loop (R:List Th)(v:Int)(o:List Int)(X:List Lst):∀ (j:Nat) (h:Th) (i:Nat),(h=newI v∧i=0∨∃ q:Nat,h=heldI v (q:Int)∧i=q+1)→v.toNat=i+j∨(v.toNat≤i∧j=0)→i+j≤1000 →
  ∃ w,Goes Xe.mRounds (24 * j+32) (rc (mn [1] 11) (ou [v,jj R,rs i] 10 2) (R ++ [h]) 1 o X) (rc (mn [1,1] 9) (ou [v,jj R,rs (i+j)] 22 1) (R ++ [w]) 0 (o ++ [rs (i+j)]) X):=by
 intro j
 induction j with
 | zero =>
  intro h i hh hv hi
  have hnot:¬ (i:Int) < v:=by omega
  have hst:(h.stands != 3)=true:=by
   rcases hh with ⟨rfl,_⟩ | ⟨q,rfl,_⟩ <;> rfl
  have h1:=rounds_alive R h (rs i) v o X
  rw [hst] at h1
  have h2:=rounds_ask (R ++ [h]) (rs i) v o X
  have h3:Goes Xe.mRounds 7 (rc (mn [1] 11) (ou [v,jj R,rs i,rs i,jj R,1] 16 2) (R ++ [h]) 1 o X) (pp (mn [1] 11 :: ou [v,jj R,rs i,rs i] 17 2 :: R) [v,(i:Int)] [⟨0,2,0⟩] (some 1) o X):=by
   rcases hh with ⟨rfl,rfl⟩ | ⟨q,rfl,rfl⟩
   ·exact ((rounds_first R (rs 0) v o X).trans (inner_new _ v o X)).mono (by decide)
   ·have e:wrap ((q:Int)+1)=((q+1:Nat):Int):=(wrap_in (by omega) (by omega)).trans (by simp)
    have h:=(rounds_more R (rs (q+1)) v q o X).trans (inner_on _ v q o X)
    rw [e] at h
    exact h
  have h4:=inner_test (mn [1] 11 :: ou [v,jj R,rs i,rs i] 17 2 :: R) v (i:Int) o X
  rw [decide_eq_false hnot] at h4
  have h5:=rounds_end R (rs i) v (i:Int) o X
  have h6:=rounds_add (R ++ [overI v (i:Int)]) (rs i) v 0 (jj R) o X
  rw [rs_zero] at h6
  have h7:=rounds_alive R (overI v (i:Int)) (rs i) v o X
  have h8:=rounds_out (R ++ [overI v (i:Int)]) (rs i) v (jj R) o X
  have h2':Goes Xe.mRounds 4 (rc (mn [1] 11) (ou [v,jj R,rs i,yes true] 12 2) (R ++ [h]) 1 o X) (rc (mn [1] 11) (ou [v,jj R,rs i,rs i,jj R,1] 16 2) (R ++ [h]) 1 o X):=.run 4 fun _ _=>by kernel_rfl
  clear h2
  exact ⟨_,((((((((h1.trans h2').trans h3).trans h4).trans h5).trans h6).trans h7).trans h8).mono (by omega))⟩
 | succ j ih =>
  intro h i hh hv hi
  have hlt:(i:Int) < v:=by omega
  have hst:(h.stands != 3)=true:=by
   rcases hh with ⟨rfl,_⟩ | ⟨q,rfl,_⟩ <;> rfl
  have h1:=rounds_alive R h (rs i) v o X
  rw [hst] at h1
  have h2':Goes Xe.mRounds 4 (rc (mn [1] 11) (ou [v,jj R,rs i,yes true] 12 2) (R ++ [h]) 1 o X) (rc (mn [1] 11) (ou [v,jj R,rs i,rs i,jj R,1] 16 2) (R ++ [h]) 1 o X):=.run 4 fun _ _=>by kernel_rfl
  have h3:Goes Xe.mRounds 7 (rc (mn [1] 11) (ou [v,jj R,rs i,rs i,jj R,1] 16 2) (R ++ [h]) 1 o X) (pp (mn [1] 11 :: ou [v,jj R,rs i,rs i] 17 2 :: R) [v,(i:Int)] [⟨0,2,0⟩] (some 1) o X):=by
   rcases hh with ⟨rfl,rfl⟩ | ⟨q,rfl,rfl⟩
   ·exact ((rounds_first R (rs 0) v o X).trans (inner_new _ v o X)).mono (by decide)
   ·have e:wrap ((q:Int)+1)=((q+1:Nat):Int):=(wrap_in (by omega) (by omega)).trans (by simp)
    have h:=(rounds_more R (rs (q+1)) v q o X).trans (inner_on _ v q o X)
    rw [e] at h
    exact h
  have h4:=inner_test (mn [1] 11 :: ou [v,jj R,rs i,rs i] 17 2 :: R) v (i:Int) o X
  rw [decide_eq_true hlt] at h4
  have h5:=rounds_yield R (rs i) v (i:Int) o X
  have h6:=rounds_add (R ++ [heldI v (i:Int)]) (rs i) v (i:Int) (jj R) o X
  obtain ⟨w,h7⟩:=ih (heldI v (i:Int)) (i+1) (.inr ⟨i,rfl,rfl⟩) (by omega) (by omega)
  rw [show i+1+j=i+(j+1) by omega] at h7
  exact ⟨w,((((((h1.trans h2').trans h3).trans h4).trans h5).trans h6).trans h7).mono (by omega)⟩
def roundsOf (v:Int):Int:=rs v.toNat
open Xe in
theorem rounds_all (l:List Int)(hl:∀ v ∈ l,v≤12):∀ (j k p:Nat) (R:List Th) (n g s:Int) (o:List Int),l.length=k+j→(p=2∨p=22)→R.length+j < 20 →
  ∃ R' n' g' s' p',Goes mRounds (340 * j) (rc (mn [1,1] 9) (ou [n,g,s] p 1) R 0 o [⟨l,k,[]⟩]) (rc (mn [1,1] 9) (ou [n',g',s'] p' 1) R' 0 (o ++ (l.drop k).map roundsOf) [⟨l,l.length,[]⟩])
 | 0,k,p,R,n,g,s,o,hk,_,_=>by
  have hk:k=l.length:=by omega
  subst hk
  exact ⟨R,n,g,s,p,by simpa using Goes.refl mRounds (rc (mn [1,1] 9) (ou [n,g,s] p 1) R 0 o [⟨l,l.length,[]⟩])⟩
 | j+1,k,p,R,n,g,s,o,hk,hp,hR=>by
  have hlt:k < l.length:=by omega
  obtain ⟨v,hv⟩:∃ v,l[k]?=some v:=⟨_,List.getElem?_eq_getElem hlt⟩
  have hvl:=hl v (List.mem_of_getElem? hv)
  have h1:=rounds_in l k p hp R n g s v o hv hlt
  have h2:=rounds_start R (by omega) g s v o [⟨l,k+1,[]⟩]
  obtain ⟨w,h3⟩:=rounds_loop R v o [⟨l,k+1,[]⟩] v.toNat (newI v) 0 (.inl ⟨rfl,rfl⟩) (.inl (by omega)) (by omega)
  rw [Nat.zero_add] at h3
  obtain ⟨R',n',g',s',p',h4⟩:=rounds_all l hl j (k+1) 22 (R ++ [w]) v (jj R) (rs v.toNat) (o ++ [roundsOf v]) (by omega) (.inr rfl) (by simp;omega)
  have h5:=(((h1.trans h2).trans h3).trans h4).mono (show _≤340 * (j+1) by omega)
  refine ⟨R',n',g',s',p',?_⟩
  rw [drop_one hv]
  simpa using h5
set_option maxRecDepth 1000000 in
theorem rounds_fits (l:List Int):soloE Xe.mRounds 0 5000 [l]=0:=by kernel_rfl
theorem rounds_asked:Asked Xe.nRounds Xe.mRounds:=⟨⟨_,Xe.fnRounds_ok,Xe.ans_rounds⟩,by decide⟩
theorem rounds_first' (l:List Int):soloR Xe.mRounds 0 5000 [l]=go lsX Xe.mRounds 5000 ((cf 2 [0] 0 [] [⟨l,0,[]⟩]).tk []) [⟨l,0,[]⟩]:=by kernel_rfl
theorem rounds_says (l:List Int)(h:l.length≤12)(hs:∀ v ∈ l,v≤12):(soloR Xe.mRounds 0 5000 [l]).2.1.out=l.map roundsOf∧(stat lsX Xe.mRounds (soloR Xe.mRounds 0 5000 [l]).2.1 (soloR Xe.mRounds 0 5000 [l]).2.2).1=3:=by
 have h1:Goes Xe.mRounds 11 (cf 2 [0] 0 [] [⟨l,0,[]⟩]) (rc (mn [1,1] 9) (ou [0,0,0] 2 1) [] 0 [] [⟨l,0,[]⟩]):=.run' 11 [⟨6,0,1⟩] fun _ _=>by kernel_rfl
 obtain ⟨R',n',g',s',p',h2⟩:=rounds_all l hs l.length 0 2 [] 0 0 0 [] (by omega) (.inl rfl) (by simp;omega)
 exact (h1.trans h2).says (fun _=>stat_none rfl rfl rfl) (by omega) (rounds_first' l) (by simp)
end Go.Proofs.YthffafaoobpedabGreatDoor.Vw

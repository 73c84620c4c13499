/- Numbers,plainly: digits; what wraps round. -/
import Derived.Test.YtnkphifgncidaabGreatDoorM43
import Derived.Test.YtnkphifgncidaabGreatDoorM42
namespace Go.Proofs.YtnkphifgncidaabGreatDoor.Vw
open Go.RowKit Vf Vm
theorem drop_get {l:List Int} {k:Nat} {x:Int} {r:List Int} (h:l.drop k = x :: r):l[k]? = some x ∧ k < l.length ∧ l.drop (k + 1) = r:=by
 have h1:l[k]? = some x:=by
  have:(l.drop k)[0]? = some x:=by rw [h]; rfl
  rw [List.getElem?_drop] at this
  simpa using this
 refine ⟨h1,(List.getElem?_eq_some_iff.1 h1).1,?_⟩
 rw [← List.drop_drop,h]
 rfl
theorem drop_end {l:List Int} {k:Nat} (h:l.drop k = []) (hk:k ≤ l.length):k = l.length:=by
 have:=List.drop_eq_nil_iff.1 h
 omega
end Go.Proofs.YtnkphifgncidaabGreatDoor.Vw
namespace Go.Proofs.YtnkphifgncidaabGreatDoor
namespace Xe
def nMerge:ByteArray:=⟨#[109,101,114,103,101]⟩
def mMerge:Vf.Md:=⟨[⟨1,20⟩,⟨1,20⟩],[⟨4,0,[1,1],0,0,[⟨27,0,0⟩,⟨4,0,0⟩,⟨27,1,0⟩,⟨4,1,0⟩,⟨2,1,0⟩,⟨22,20,0⟩,⟨3,0,0⟩,⟨3,1,0⟩,⟨16,0,0⟩,⟨22,15,0⟩,⟨3,0,0⟩,⟨28,0,0⟩,⟨27,0,0⟩,⟨4,0,0⟩,⟨21,19,0⟩,⟨3,1,0⟩,⟨28,0,0⟩,⟨27,1,0⟩,⟨4,1,0⟩,⟨21,4,0⟩,⟨25,0,0⟩]⟩]⟩
set_option maxRecDepth 1000000 in
theorem ans_merge:ans (fn 14 [.string nMerge] s0) = some mMerge:=by kernel_rfl
end Xe
end Go.Proofs.YtnkphifgncidaabGreatDoor
namespace Go.Proofs.YtnkphifgncidaabGreatDoor.Vw
open Go.RowKit Vf Vm
def mrg:Nat → List Int → List Int → List Int
 | f + 1,x :: a,y :: b => if decide (x ≤ y) = true then x :: mrg f a (y :: b) else y :: mrg f (x :: a) b
 | _,_,_ => []
theorem mrg_nil (f:Nat) (b:List Int):mrg f [] b = []:=by cases f <;> rfl
theorem mrg_nil2 (f:Nat) (a:List Int):mrg f a [] = []:=by cases f <;> cases a <;> rfl
theorem mrg_len:∀ (f:Nat) (a b:List Int),(mrg f a b).length ≤ f
 | 0,_,_ => Nat.le_refl _
 | f + 1,[],b => by rw [mrg_nil]; simp
 | f + 1,x :: a,[] => by rw [mrg_nil2]; simp
 | f + 1,x :: a,y :: b => by
  unfold mrg
  have h1:=mrg_len f a (y :: b)
  have h2:=mrg_len f (x :: a) b
  split
  ·simp only [List.length_cons]; omega
  ·simp only [List.length_cons]; omega
open Xe in
theorem merge_all (la lb:List Int):∀ (f i k:Nat) (x y:Int) (a b:List Int) (o:List Int),la.drop i = a → lb.drop k = b → i ≤ la.length → k ≤ lb.length → a.length + b.length + 1 ≤ f →
  ∃ e:Cf,Goes mMerge (12 * f) (cf 0 [x,y] 4 o [⟨la,i,[]⟩,⟨lb,k,[]⟩]) e ∧ e.out = o ++ mrg f (x :: a) (y :: b) ∧ ∀ log,(stat lsX mMerge (e.tk log) e.x).1 = 3
 | 0,i,k,x,y,a,b,o,_,_,_,_,hf => by omega
 | f + 1,i,k,x,y,a,b,o,ha,hb,hi,hk,hf => by
  have h1:Goes mMerge 4 (cf 0 [x,y] 4 o [⟨la,i,[]⟩,⟨lb,k,[]⟩]) (cf 0 [x,y,x,y] 8 o [⟨la,i,[]⟩,⟨lb,k,[]⟩]):=.run 4 fun _ _ => by kernel_rfl
  have h2:Goes mMerge 1 (cf 0 [x,y,x,y] 8 o [⟨la,i,[]⟩,⟨lb,k,[]⟩]) (cf 0 [x,y,yes (decide (x ≤ y))] 9 o [⟨la,i,[]⟩,⟨lb,k,[]⟩]):=.reck 16 (cf 0 [x,y,x,y] 9 o [⟨la,i,[]⟩,⟨lb,k,[]⟩]) (by decide) (by decide) (fun _ => by kernel_rfl) (fun _ => by kernel_rfl) (fun _ => by kernel_rfl)
  have h3:=h1.trans h2
  unfold mrg
  cases hc:decide (x ≤ y) with
  | true =>
   rw [hc] at h3
   rw [if_pos rfl]
   have h4:Goes mMerge 3 (cf 0 [x,y,yes true] 9 o [⟨la,i,[]⟩,⟨lb,k,[]⟩]) (cf 0 [x,y] 12 (o ++ [x]) [⟨la,i,[]⟩,⟨lb,k,[]⟩]):=.run' 3 [⟨1,0,x⟩] fun _ _ => by kernel_rfl
   cases a with
   | nil =>
    obtain rfl:=drop_end ha hi
    exact ⟨_,(h3.trans h4).mono (by omega),by rw [mrg_nil],fun _ => stat_none rfl rfl rfl⟩
   | cons v a =>
    obtain ⟨hv,hlt,hd⟩:=drop_get ha
    have h5:Goes mMerge 1 (cf 0 [x,y] 12 (o ++ [x]) [⟨la,i,[]⟩,⟨lb,k,[]⟩]) (cf 0 [x,y,v] 13 (o ++ [x]) [⟨la,i + 1,[]⟩,⟨lb,k,[]⟩]):=.recv (fun v => cf 0 [x,y,v] 13 (o ++ [x]) [⟨la,i + 1,[]⟩,⟨lb,k,[]⟩]) hv (fun _ => stat_more rfl rfl rfl hlt) (q:=0) (fun _ => by kernel_rfl)
    have h6:Goes mMerge 3 (cf 0 [x,y,v] 13 (o ++ [x]) [⟨la,i + 1,[]⟩,⟨lb,k,[]⟩]) (cf 0 [v,y] 4 (o ++ [x]) [⟨la,i + 1,[]⟩,⟨lb,k,[]⟩]):=.run 3 fun _ _ => by kernel_rfl
    obtain ⟨e,h7,h8,h9⟩:=merge_all la lb f (i + 1) k v y a b (o ++ [x]) hd hb hlt hk (by simp at hf; omega)
    exact ⟨e,((((h3.trans h4).trans h5).trans h6).trans h7).mono (by omega),by rw [h8]; simp,h9⟩
  | false =>
   rw [hc] at h3
   rw [if_neg (by simp)]
   have h4:Goes mMerge 3 (cf 0 [x,y,yes false] 9 o [⟨la,i,[]⟩,⟨lb,k,[]⟩]) (cf 0 [x,y] 17 (o ++ [y]) [⟨la,i,[]⟩,⟨lb,k,[]⟩]):=.run' 3 [⟨1,0,y⟩] fun _ _ => by kernel_rfl
   cases b with
   | nil =>
    obtain rfl:=drop_end hb hk
    exact ⟨_,(h3.trans h4).mono (by omega),by rw [mrg_nil2],fun _ => stat_none1 rfl rfl rfl⟩
   | cons v b =>
    obtain ⟨hv,hlt,hd⟩:=drop_get hb
    have h5:Goes mMerge 1 (cf 0 [x,y] 17 (o ++ [y]) [⟨la,i,[]⟩,⟨lb,k,[]⟩]) (cf 0 [x,y,v] 18 (o ++ [y]) [⟨la,i,[]⟩,⟨lb,k + 1,[]⟩]):=.recv (fun v => cf 0 [x,y,v] 18 (o ++ [y]) [⟨la,i,[]⟩,⟨lb,k + 1,[]⟩]) hv (fun _ => stat_more1 rfl rfl rfl hlt) (q:=1) (fun _ => by kernel_rfl)
    have h6:Goes mMerge 2 (cf 0 [x,y,v] 18 (o ++ [y]) [⟨la,i,[]⟩,⟨lb,k + 1,[]⟩]) (cf 0 [x,v] 4 (o ++ [y]) [⟨la,i,[]⟩,⟨lb,k + 1,[]⟩]):=.run 2 fun _ _ => by kernel_rfl
    obtain ⟨e,h7,h8,h9⟩:=merge_all la lb f i (k + 1) x v a b (o ++ [y]) ha hd hi hlt (by simp at hf; omega)
    exact ⟨e,((((h3.trans h4).trans h5).trans h6).trans h7).mono (by omega),by rw [h8]; simp,h9⟩
set_option maxRecDepth 1000000 in
theorem merge_fits (la lb:List Int):soloE Xe.mMerge 0 5000 [la,lb] = 0:=by kernel_rfl
theorem merge_asked:Asked Xe.nMerge Xe.mMerge:=⟨Xe.ans_merge,by decide⟩
theorem merge_first (la lb:List Int):soloR Xe.mMerge 0 5000 [la,lb] = go lsX Xe.mMerge 5000 ((cf 0 [0,0] 0 [] [⟨la,0,[]⟩,⟨lb,0,[]⟩]).tk []) [⟨la,0,[]⟩,⟨lb,0,[]⟩]:=by kernel_rfl
theorem merge_goes (la lb:List Int):∃ e:Cf,Goes Xe.mMerge (12 * (la.length + lb.length) + 4) (cf 0 [0,0] 0 [] [⟨la,0,[]⟩,⟨lb,0,[]⟩]) e ∧ e.out = mrg (la.length + lb.length) la lb ∧ ∀ log,(stat lsX Xe.mMerge (e.tk log) e.x).1 = 3:=by
 cases la with
 | nil => exact ⟨_,(Goes.refl _ _).mono (Nat.zero_le _),by rw [mrg_nil],fun _ => stat_none rfl rfl rfl⟩
 | cons x a =>
  have h1:Goes Xe.mMerge 1 (cf 0 [0,0] 0 [] [⟨x :: a,0,[]⟩,⟨lb,0,[]⟩]) (cf 0 [0,0,x] 1 [] [⟨x :: a,1,[]⟩,⟨lb,0,[]⟩]):=.recv (l:=x :: a) (k:=0) (fun v => cf 0 [0,0,v] 1 [] [⟨x :: a,1,[]⟩,⟨lb,0,[]⟩]) rfl (fun _ => stat_more rfl rfl rfl (by simp)) (q:=0) (fun _ => by kernel_rfl)
  have h2:Goes Xe.mMerge 1 (cf 0 [0,0,x] 1 [] [⟨x :: a,1,[]⟩,⟨lb,0,[]⟩]) (cf 0 [x,0] 2 [] [⟨x :: a,1,[]⟩,⟨lb,0,[]⟩]):=.run 1 fun _ _ => by kernel_rfl
  cases lb with
  | nil => exact ⟨_,(h1.trans h2).mono (by omega),by rw [mrg_nil2],fun _ => stat_none1 (l:=[]) rfl rfl rfl⟩
  | cons y b =>
   have h3:Goes Xe.mMerge 1 (cf 0 [x,0] 2 [] [⟨x :: a,1,[]⟩,⟨y :: b,0,[]⟩]) (cf 0 [x,0,y] 3 [] [⟨x :: a,1,[]⟩,⟨y :: b,1,[]⟩]):=.recv (l:=y :: b) (k:=0) (fun v => cf 0 [x,0,v] 3 [] [⟨x :: a,1,[]⟩,⟨y :: b,1,[]⟩]) rfl (fun _ => stat_more1 rfl rfl rfl (by simp)) (q:=1) (fun _ => by kernel_rfl)
   have h4:Goes Xe.mMerge 1 (cf 0 [x,0,y] 3 [] [⟨x :: a,1,[]⟩,⟨y :: b,1,[]⟩]) (cf 0 [x,y] 4 [] [⟨x :: a,1,[]⟩,⟨y :: b,1,[]⟩]):=.run 1 fun _ _ => by kernel_rfl
   obtain ⟨e,h5,h6,h7⟩:=merge_all (x :: a) (y :: b) ((x :: a).length + (y :: b).length) 1 1 x y a b [] rfl rfl (by simp) (by simp) (by simp; omega)
   exact ⟨e,((((h1.trans h2).trans h3).trans h4).trans h5).mono (by omega),by rw [h6]; rfl,h7⟩
theorem merge_says (la lb:List Int) (h:la.length ≤ 60) (h2:lb.length ≤ 60):(soloR Xe.mMerge 0 5000 [la,lb]).2.1.out = mrg (la.length + lb.length) la lb ∧ (stat lsX Xe.mMerge (soloR Xe.mMerge 0 5000 [la,lb]).2.1 (soloR Xe.mMerge 0 5000 [la,lb]).2.2).1 = 3:=by
 obtain ⟨e,hg,ho,hs⟩:=merge_goes la lb
 exact hg.says hs (by omega) (merge_first la lb) ho
end Go.Proofs.YtnkphifgncidaabGreatDoor.Vw

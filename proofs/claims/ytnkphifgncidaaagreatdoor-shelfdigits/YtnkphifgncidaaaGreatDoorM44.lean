/- Numbers,plainly: digits; what wraps round. -/
import Derived.Test.YtnkphifgncidaaaGreatDoorM43
import Derived.Test.YtnkphifgncidaaaGreatDoorM42
namespace Go.Proofs.YtnkphifgncidaaaGreatDoor.Vw
open Go.RowKit Vf Vm
def digs (b:Nat):Nat → Nat → Nat
 | 0,_ => 0
 | k + 1,X => X % b + digs b k (X / b)
theorem digs_zero (b:Nat):∀ k,digs b k 0 = 0
 | 0 => rfl
 | k + 1 => by
  show 0 % b + digs b k (0 / b) = 0
  rw [Nat.zero_mod,Nat.zero_div,digs_zero b k]
theorem digs_le (b:Nat) (hb:0 < b):∀ k X,digs b k X ≤ b * k
 | 0,_ => Nat.le_refl _
 | k + 1,X => by
  have h1:=digs_le b hb k (X / b)
  have h2:=Nat.mod_lt X hb
  show X % b + digs b k (X / b) ≤ b * (k + 1)
  rw [Nat.mul_add]
  omega
theorem digs_snoc (b:Nat):∀ k X,digs b (k + 1) X = digs b k X + X / b ^ k % b
 | 0,X => by simp [digs]
 | k + 1,X => by
  show X % b + digs b (k + 1) (X / b) = X % b + digs b k (X / b) + X / b ^ (k + 1) % b
  rw [digs_snoc b k (X / b),Nat.div_div_eq_div_mul,← Nat.pow_succ']
  exact (Nat.add_assoc _ _ _).symm
theorem wrap_in {n:Int} (h:-9223372036854775808 ≤ n) (k:n ≤ 9223372036854775807):wrap n = n:=by
 unfold wrap Go.RowKit.wrap64
 omega
end Go.Proofs.YtnkphifgncidaaaGreatDoor.Vw
namespace Go.Proofs.YtnkphifgncidaaaGreatDoor
namespace Xe
def nDigits:ByteArray:=⟨#[100,105,103,105,116,115]⟩
def mDigits:Vf.Md:=⟨[⟨1,20⟩],[⟨4,0,[1,1],0,0,[⟨2,1,0⟩,⟨22,24,0⟩,⟨27,0,0⟩,⟨4,0,0⟩,⟨1,0,0⟩,⟨4,1,0⟩,⟨3,0,0⟩,⟨1,0,0⟩,⟨17,0,0⟩,⟨22,21,0⟩,⟨3,1,0⟩,⟨3,0,0⟩,⟨1,0,10⟩,⟨12,0,0⟩,⟨8,0,0⟩,⟨4,1,0⟩,⟨3,0,0⟩,⟨1,0,10⟩,⟨11,0,0⟩,⟨4,0,0⟩,⟨21,6,0⟩,⟨3,1,0⟩,⟨28,0,0⟩,⟨21,0,0⟩,⟨25,0,0⟩]⟩]⟩
set_option maxRecDepth 1000000 in
theorem ans_digits:ans (fn 16 [.string nDigits] s0) = some mDigits:=by kernel_rfl
end Xe
end Go.Proofs.YtnkphifgncidaaaGreatDoor
namespace Go.Proofs.YtnkphifgncidaaaGreatDoor.Vw
open Go.RowKit Vf Vm
open Xe in
theorem digits_stop (x s:Int) (o:List Int) (X:List Lst) (hx:¬ 0 < x):Goes mDigits 4 (cf 0 [x,s] 6 o X) (cf 0 [x,s] 21 o X):=by
 have h1:Goes mDigits 2 (cf 0 [x,s] 6 o X) (cf 0 [x,s,x,0] 8 o X):=.run 2 fun _ _ => by kernel_rfl
 have h2:Goes mDigits 1 (cf 0 [x,s,x,0] 8 o X) (cf 0 [x,s,yes (decide (0 < x))] 9 o X):=.reck 17 (cf 0 [x,s,x,0] 9 o X) (by decide) (by decide) (fun _ => by kernel_rfl) (fun _ => by kernel_rfl) (fun _ => by kernel_rfl)
 rw [decide_eq_false hx] at h2
 have h3:Goes mDigits 1 (cf 0 [x,s,yes false] 9 o X) (cf 0 [x,s] 21 o X):=.run 1 fun _ _ => by kernel_rfl
 exact (h1.trans h2).trans h3
open Xe in
theorem digits_round (x s:Int) (o:List Int) (X:List Lst) (hx:0 < x):Goes mDigits 15 (cf 0 [x,s] 6 o X) (cf 0 [wrap (x.tdiv 10),wrap (s + x.tmod 10)] 6 o X):=by
 have h1:Goes mDigits 2 (cf 0 [x,s] 6 o X) (cf 0 [x,s,x,0] 8 o X):=.run 2 fun _ _ => by kernel_rfl
 have h2:Goes mDigits 1 (cf 0 [x,s,x,0] 8 o X) (cf 0 [x,s,yes (decide (0 < x))] 9 o X):=.reck 17 (cf 0 [x,s,x,0] 9 o X) (by decide) (by decide) (fun _ => by kernel_rfl) (fun _ => by kernel_rfl) (fun _ => by kernel_rfl)
 rw [decide_eq_true hx] at h2
 have h3:Goes mDigits 5 (cf 0 [x,s,yes true] 9 o X) (cf 0 [x,s,s,x.tmod 10] 14 o X):=.run 5 fun _ _ => by kernel_rfl
 have h4:Goes mDigits 1 (cf 0 [x,s,s,x.tmod 10] 14 o X) (cf 0 [x,s,wrap (s + x.tmod 10)] 15 o X):=.reck 8 (cf 0 [x,s,s,x.tmod 10] 15 o X) (by decide) (by decide) (fun _ => by kernel_rfl) (fun _ => by kernel_rfl) (fun _ => by kernel_rfl)
 have h5:Goes mDigits 6 (cf 0 [x,s,wrap (s + x.tmod 10)] 15 o X) (cf 0 [wrap (x.tdiv 10),wrap (s + x.tmod 10)] 6 o X):=.run 6 fun _ _ => by kernel_rfl
 exact (((h1.trans h2).trans h3).trans h4).trans h5
theorem digits_word (o:List Int) (X:List Lst):∀ (j X0 s:Nat),X0 < 10 ^ j → X0 < 9223372036854775808 → s + digs 10 j X0 ≤ 100000 → Goes Xe.mDigits (15 * j + 4) (cf 0 [(X0:Int),(s:Int)] 6 o X) (cf 0 [0,((s + digs 10 j X0:Nat):Int)] 21 o X)
 | j,0,s,_,_,_ => by
  have h:=(digits_stop 0 s o X (by omega)).mono (show 4 ≤ 15 * j + 4 by omega)
  rw [digs_zero]
  exact h
 | 0,X0 + 1,s,h,_,_ => by simp at h
 | j + 1,X0 + 1,s,h,hb,hs => by
  have h1:=digits_round ((X0 + 1:Nat):Int) (s:Int) o X (by omega)
  obtain ⟨Y,hY⟩:∃ Y,Y = X0 + 1:=⟨_,rfl⟩
  rw [← hY] at h1 h hb hs ⊢
  have hd:digs 10 (j + 1) Y = Y % 10 + digs 10 j (Y / 10):=rfl
  have e1:wrap ((Y:Int).tdiv 10) = ((Y / 10:Nat):Int):=by
   rw [Int.tdiv_eq_ediv_of_nonneg (by omega)]
   exact wrap_in (by omega) (by omega)
  have e2:wrap ((s:Int) + (Y:Int).tmod 10) = ((s + Y % 10:Nat):Int):=by
   rw [Int.tmod_eq_emod_of_nonneg (by omega)]
   refine (wrap_in (by omega) ?_).trans (by omega)
   have:(Y:Int) % 10 < 10:=Int.emod_lt_of_pos _ (by omega)
   omega
  rw [e1,e2] at h1
  have h2:=digits_word o X j (Y / 10) (s + Y % 10) (by rw [Nat.pow_succ] at h; omega) (by omega) (by omega)
  refine ((h1.trans h2).mono (by omega)).cast ?_
  rw [hd,Nat.add_assoc]
def digitsOf (v:Int):Int:=(digs 10 10 v.toNat:Nat)
open Xe in
theorem digits_all (l:List Int) (hl:∀ v ∈ l,v < 10000000000):∀ (j k:Nat) (p q:Int) (o:List Int),l.length = k + j →
  ∃ p' q',Goes mDigits (170 * j + 2) (cf 0 [p,q] 0 o [⟨l,k,[]⟩]) (cf 0 [p',q'] 2 (o ++ (l.drop k).map digitsOf) [⟨l,l.length,[]⟩])
 | 0,k,p,q,o,hk => by
  have hk:k = l.length:=by omega
  subst hk
  refine ⟨p,q,?_⟩
  have h1:Goes mDigits 2 (cf 0 [p,q] 0 o [⟨l,l.length,[]⟩]) (cf 0 [p,q] 2 o [⟨l,l.length,[]⟩]):=.run 2 fun _ _ => by kernel_rfl
  simpa using h1
 | j + 1,k,p,q,o,hk => by
  have hlt:k < l.length:=by omega
  obtain ⟨v,hv⟩:∃ v,l[k]? = some v:=⟨_,List.getElem?_eq_getElem hlt⟩
  have hvl:=hl v (List.mem_of_getElem? hv)
  have h1:Goes mDigits 2 (cf 0 [p,q] 0 o [⟨l,k,[]⟩]) (cf 0 [p,q] 2 o [⟨l,k,[]⟩]):=.run 2 fun _ _ => by kernel_rfl
  have h2:Goes mDigits 1 (cf 0 [p,q] 2 o [⟨l,k,[]⟩]) (cf 0 [p,q,v] 3 o [⟨l,k + 1,[]⟩]):=.recv (fun v => cf 0 [p,q,v] 3 o [⟨l,k + 1,[]⟩]) hv (fun _ => stat_more rfl rfl rfl hlt) (q:=0) (fun _ => by kernel_rfl)
  have h3:Goes mDigits 3 (cf 0 [p,q,v] 3 o [⟨l,k + 1,[]⟩]) (cf 0 [v,0] 6 o [⟨l,k + 1,[]⟩]):=.run 3 fun _ _ => by kernel_rfl
  have h4:∃ r,Goes mDigits 154 (cf 0 [v,0] 6 o [⟨l,k + 1,[]⟩]) (cf 0 [r,digitsOf v] 21 o [⟨l,k + 1,[]⟩]):=by
   by_cases hx:0 < v
   ·obtain ⟨V,rfl⟩:∃ V:Nat,v = V:=⟨v.toNat,by omega⟩
    have hd:=digs_le 10 (by decide) 10 V
    have h:=digits_word o [⟨l,k + 1,[]⟩] 10 V 0 (by rw [show (10:Nat) ^ 10 = 10000000000 by rfl]; omega) (by omega) (by omega)
    refine ⟨0,h.cast ?_⟩
    rw [Nat.zero_add]
    rfl
   ·have hz:v.toNat = 0:=by omega
    have e:digitsOf v = 0:=by unfold digitsOf; rw [hz,digs_zero]; rfl
    rw [e]
    exact ⟨v,(digits_stop v 0 o _ hx).mono (by omega)⟩
  obtain ⟨r,h4⟩:=h4
  have h5:Goes mDigits 3 (cf 0 [r,digitsOf v] 21 o [⟨l,k + 1,[]⟩]) (cf 0 [r,digitsOf v] 0 (o ++ [digitsOf v]) [⟨l,k + 1,[]⟩]):=.run' 3 [⟨1,0,digitsOf v⟩] fun _ _ => by kernel_rfl
  obtain ⟨p',q',h6⟩:=digits_all l hl j (k + 1) r (digitsOf v) (o ++ [digitsOf v]) (by omega)
  refine ⟨p',q',((((((h1.trans h2).trans h3).trans h4).trans h5).trans h6).mono (by omega)).cast rfl ?_⟩
  rw [drop_one hv]
  simp
set_option maxRecDepth 1000000 in
theorem digits_fits (l:List Int):soloE Xe.mDigits 0 5000 [l] = 0:=by kernel_rfl
theorem digits_asked:Asked Xe.nDigits Xe.mDigits:=⟨Xe.ans_digits,by decide⟩
theorem digits_first (l:List Int):soloR Xe.mDigits 0 5000 [l] = go lsX Xe.mDigits 5000 ((cf 0 [0,0] 0 [] [⟨l,0,[]⟩]).tk []) [⟨l,0,[]⟩]:=by kernel_rfl
theorem digits_says (l:List Int) (h:l.length ≤ 12) (hl:∀ v ∈ l,v < 10000000000):(soloR Xe.mDigits 0 5000 [l]).2.1.out = l.map digitsOf ∧ (stat lsX Xe.mDigits (soloR Xe.mDigits 0 5000 [l]).2.1 (soloR Xe.mDigits 0 5000 [l]).2.2).1 = 3:=by
 obtain ⟨p,q,hg⟩:=digits_all l hl l.length 0 0 0 [] (by omega)
 exact hg.says (fun _ => stat_none rfl rfl rfl) (by omega) (digits_first l) (by simp)
end Go.Proofs.YtnkphifgncidaaaGreatDoor.Vw

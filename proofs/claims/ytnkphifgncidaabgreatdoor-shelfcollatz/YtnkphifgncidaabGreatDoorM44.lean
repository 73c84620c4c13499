/- Numbers,plainly: digits; what wraps round. -/
import Derived.Test.YtnkphifgncidaabGreatDoorM43
import Derived.Test.YtnkphifgncidaabGreatDoorM42
namespace Go.Proofs.YtnkphifgncidaabGreatDoor.Vw
open Go.RowKit Vf Vm
theorem wrap_in {n:Int} (h:-9223372036854775808 ≤ n) (k:n ≤ 9223372036854775807):wrap n = n:=by
 unfold wrap Go.RowKit.wrap64
 omega
end Go.Proofs.YtnkphifgncidaabGreatDoor.Vw
namespace Go.Proofs.YtnkphifgncidaabGreatDoor
namespace Xe
def nCollatz:ByteArray:=⟨#[99,111,108,108,97,116,122]⟩
def mCollatz:Vf.Md:=⟨[⟨1,20⟩],[⟨4,0,[1,1],0,0,[⟨2,1,0⟩,⟨22,35,0⟩,⟨27,0,0⟩,⟨4,0,0⟩,⟨1,0,0⟩,⟨4,1,0⟩,⟨3,0,0⟩,⟨1,0,1⟩,⟨17,0,0⟩,⟨22,32,0⟩,⟨3,0,0⟩,⟨1,0,2⟩,⟨12,0,0⟩,⟨1,0,0⟩,⟨13,0,0⟩,⟨22,21,0⟩,⟨3,0,0⟩,⟨1,0,2⟩,⟨11,0,0⟩,⟨4,0,0⟩,⟨21,27,0⟩,⟨1,0,3⟩,⟨3,0,0⟩,⟨10,0,0⟩,⟨1,0,1⟩,⟨8,0,0⟩,⟨4,0,0⟩,⟨3,1,0⟩,⟨1,0,1⟩,⟨8,0,0⟩,⟨4,1,0⟩,⟨21,6,0⟩,⟨3,1,0⟩,⟨28,0,0⟩,⟨21,0,0⟩,⟨25,0,0⟩]⟩]⟩
set_option maxRecDepth 1000000 in
theorem ans_collatz:ans (fn 14 [.string nCollatz] s0) = some mCollatz:=by kernel_rfl
end Xe
end Go.Proofs.YtnkphifgncidaabGreatDoor
namespace Go.Proofs.YtnkphifgncidaabGreatDoor.Vw
open Go.RowKit Vf Vm
def czn (n:Int):Int:=if (n.tmod 2 == 0) = true then wrap (n.tdiv 2) else wrap (wrap (3 * n) + 1)
def cz:Nat → Int → Nat
 | 0,_ => 0
 | f + 1,n => if 1 < n then cz f (czn n) + 1 else 0
def cze:Nat → Int → Bool
 | 0,n => decide (n ≤ 1)
 | f + 1,n => if 1 < n then cze f (czn n) else true
theorem cze_all:∀ n:Nat,n ≤ 30 → cze 111 n = true:=by
 have h:(List.range 31).all (fun n => cze 111 n) = true:=by kernel_rfl
 intro n hn
 exact List.all_eq_true.1 h n (List.mem_range.2 (by omega))
theorem cze_fit {n:Int} (h:n ≤ 30):cze 111 n = true:=by
 by_cases h1:1 < n
 ·obtain ⟨N,rfl⟩:∃ N:Nat,n = N:=⟨n.toNat,by omega⟩
  exact cze_all N (by omega)
 ·show (if 1 < n then _ else true) = true
  rw [if_neg h1]
open Xe in
theorem collatz_stop (x s:Int) (o:List Int) (X:List Lst) (hx:¬ 1 < x):Goes mCollatz 4 (cf 0 [x,s] 6 o X) (cf 0 [x,s] 32 o X):=by
 have h1:Goes mCollatz 2 (cf 0 [x,s] 6 o X) (cf 0 [x,s,x,1] 8 o X):=.run 2 fun _ _ => by kernel_rfl
 have h2:Goes mCollatz 1 (cf 0 [x,s,x,1] 8 o X) (cf 0 [x,s,yes (decide (1 < x))] 9 o X):=.reck 17 (cf 0 [x,s,x,1] 9 o X) (by decide) (by decide) (fun _ => by kernel_rfl) (fun _ => by kernel_rfl) (fun _ => by kernel_rfl)
 rw [decide_eq_false hx] at h2
 have h3:Goes mCollatz 1 (cf 0 [x,s,yes false] 9 o X) (cf 0 [x,s] 32 o X):=.run 1 fun _ _ => by kernel_rfl
 exact (h1.trans h2).trans h3
open Xe in
theorem collatz_tail (x s:Int) (o:List Int) (X:List Lst):Goes mCollatz 5 (cf 0 [x,s] 27 o X) (cf 0 [x,wrap (s + 1)] 6 o X):=.run 5 fun _ _ => by kernel_rfl
open Xe in
theorem collatz_round (x s:Int) (o:List Int) (X:List Lst) (hx:1 < x):Goes mCollatz 21 (cf 0 [x,s] 6 o X) (cf 0 [czn x,wrap (s + 1)] 6 o X):=by
 have h1:Goes mCollatz 3 (cf 0 [x,s] 6 o X) (cf 0 [x,s,yes (decide (1 < x))] 9 o X):=.run 3 fun _ _ => by kernel_rfl
 rw [decide_eq_true hx] at h1
 have h2:Goes mCollatz 6 (cf 0 [x,s,yes true] 9 o X) (cf 0 [x,s,yes (x.tmod 2 == 0)] 15 o X):=.run 6 fun _ _ => by kernel_rfl
 have h3:=h1.trans h2
 unfold czn
 cases hb:(x.tmod 2 == 0) with
 | true =>
  rw [hb] at h3
  have h4:Goes mCollatz 6 (cf 0 [x,s,yes true] 15 o X) (cf 0 [wrap (x.tdiv 2),s] 27 o X):=.run 6 fun _ _ => by kernel_rfl
  rw [if_pos rfl]
  exact ((h3.trans h4).trans (collatz_tail _ s o X)).mono (by decide)
 | false =>
  rw [hb] at h3
  have h4:Goes mCollatz 3 (cf 0 [x,s,yes false] 15 o X) (cf 0 [x,s,3,x] 23 o X):=.run 3 fun _ _ => by kernel_rfl
  have h5:Goes mCollatz 1 (cf 0 [x,s,3,x] 23 o X) (cf 0 [x,s,wrap (3 * x)] 24 o X):=.reck 10 (cf 0 [x,s,3,x] 24 o X) (by decide) (by decide) (fun _ => by kernel_rfl) (fun _ => by kernel_rfl) (fun _ => by kernel_rfl)
  have h6:Goes mCollatz 3 (cf 0 [x,s,wrap (3 * x)] 24 o X) (cf 0 [wrap (wrap (3 * x) + 1),s] 27 o X):=.run 3 fun _ _ => by kernel_rfl
  rw [if_neg (by simp)]
  exact ((((h3.trans h4).trans h5).trans h6).trans (collatz_tail _ s o X)).mono (by decide)
theorem collatz_word (o:List Int) (X:List Lst):∀ (f:Nat) (n:Int) (s:Nat),cze f n = true → s + f ≤ 100000 → ∃ n',Goes Xe.mCollatz (21 * f + 4) (cf 0 [n,(s:Int)] 6 o X) (cf 0 [n',((s + cz f n:Nat):Int)] 32 o X)
 | 0,n,s,h,_ => by
  have hn:¬ 1 < n:=by
   have:n ≤ 1:=of_decide_eq_true h
   omega
  exact ⟨n,collatz_stop n s o X hn⟩
 | f + 1,n,s,h,hs => by
  by_cases hn:1 < n
  ·have h0:cze f (czn n) = true:=by
    have h':(if 1 < n then cze f (czn n) else true) = true:=h
    rwa [if_pos hn] at h'
   have h1:=collatz_round n s o X hn
   rw [wrap_in (n:=(s:Int) + 1) (by omega) (by omega)] at h1
   obtain ⟨n',h2⟩:=collatz_word o X f (czn n) (s + 1) h0 (by omega)
   refine ⟨n',((h1.trans h2).mono (by omega)).cast ?_⟩
   have e:cz (f + 1) n = cz f (czn n) + 1:=by
    show (if 1 < n then cz f (czn n) + 1 else 0) = _
    rw [if_pos hn]
   rw [e,Nat.add_assoc,Nat.add_comm 1]
  ·have e:cz (f + 1) n = 0:=by
    show (if 1 < n then cz f (czn n) + 1 else 0) = _
    rw [if_neg hn]
   rw [e]
   exact ⟨n,(collatz_stop n s o X hn).mono (by omega)⟩
def czOf (v:Int):Int:=(cz 111 v:Nat)
open Xe in
theorem collatz_all (l:List Int) (hl:∀ v ∈ l,v ≤ 30):∀ (j k:Nat) (p q:Int) (o:List Int),l.length = k + j →
  ∃ p' q',Goes mCollatz (2345 * j + 2) (cf 0 [p,q] 0 o [⟨l,k,[]⟩]) (cf 0 [p',q'] 2 (o ++ (l.drop k).map czOf) [⟨l,l.length,[]⟩])
 | 0,k,p,q,o,hk => by
  have hk:k = l.length:=by omega
  subst hk
  refine ⟨p,q,?_⟩
  have h1:Goes mCollatz 2 (cf 0 [p,q] 0 o [⟨l,l.length,[]⟩]) (cf 0 [p,q] 2 o [⟨l,l.length,[]⟩]):=.run 2 fun _ _ => by kernel_rfl
  simpa using h1
 | j + 1,k,p,q,o,hk => by
  have hlt:k < l.length:=by omega
  obtain ⟨v,hv⟩:∃ v,l[k]? = some v:=⟨_,List.getElem?_eq_getElem hlt⟩
  have hvl:=hl v (List.mem_of_getElem? hv)
  have h1:Goes mCollatz 2 (cf 0 [p,q] 0 o [⟨l,k,[]⟩]) (cf 0 [p,q] 2 o [⟨l,k,[]⟩]):=.run 2 fun _ _ => by kernel_rfl
  have h2:Goes mCollatz 1 (cf 0 [p,q] 2 o [⟨l,k,[]⟩]) (cf 0 [p,q,v] 3 o [⟨l,k + 1,[]⟩]):=.recv (fun v => cf 0 [p,q,v] 3 o [⟨l,k + 1,[]⟩]) hv (fun _ => stat_more rfl rfl rfl hlt) (q:=0) (fun _ => by kernel_rfl)
  have h3:Goes mCollatz 3 (cf 0 [p,q,v] 3 o [⟨l,k + 1,[]⟩]) (cf 0 [v,0] 6 o [⟨l,k + 1,[]⟩]):=.run 3 fun _ _ => by kernel_rfl
  obtain ⟨r,h4⟩:=collatz_word o [⟨l,k + 1,[]⟩] 111 v 0 (cze_fit hvl) (by omega)
  rw [Nat.zero_add] at h4
  have h5:Goes mCollatz 3 (cf 0 [r,czOf v] 32 o [⟨l,k + 1,[]⟩]) (cf 0 [r,czOf v] 0 (o ++ [czOf v]) [⟨l,k + 1,[]⟩]):=.run' 3 [⟨1,0,czOf v⟩] fun _ _ => by kernel_rfl
  obtain ⟨p',q',h6⟩:=collatz_all l hl j (k + 1) r (czOf v) (o ++ [czOf v]) (by omega)
  refine ⟨p',q',((((((h1.trans h2).trans h3).trans h4).trans h5).trans h6).mono (by omega)).cast rfl ?_⟩
  rw [drop_one hv]
  simp
set_option maxRecDepth 1000000 in
theorem collatz_fits (l:List Int):soloE Xe.mCollatz 0 5000 [l] = 0:=by kernel_rfl
theorem collatz_asked:Asked Xe.nCollatz Xe.mCollatz:=⟨Xe.ans_collatz,by decide⟩
theorem collatz_first (l:List Int):soloR Xe.mCollatz 0 5000 [l] = go lsX Xe.mCollatz 5000 ((cf 0 [0,0] 0 [] [⟨l,0,[]⟩]).tk []) [⟨l,0,[]⟩]:=by kernel_rfl
theorem collatz_says (l:List Int) (h:l.length ≤ 2) (hl:∀ v ∈ l,v ≤ 30):(soloR Xe.mCollatz 0 5000 [l]).2.1.out = l.map czOf ∧ (stat lsX Xe.mCollatz (soloR Xe.mCollatz 0 5000 [l]).2.1 (soloR Xe.mCollatz 0 5000 [l]).2.2).1 = 3:=by
 obtain ⟨p,q,hg⟩:=collatz_all l hl l.length 0 0 0 [] (by omega)
 exact hg.says (fun _ => stat_none rfl rfl rfl) (by omega) (collatz_first l) (by simp)
end Go.Proofs.YtnkphifgncidaabGreatDoor.Vw

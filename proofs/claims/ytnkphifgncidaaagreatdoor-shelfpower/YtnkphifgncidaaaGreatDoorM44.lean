/- Numbers,plainly: digits; what wraps round. -/
import Derived.Test.YtnkphifgncidaaaGreatDoorM43
import Derived.Test.YtnkphifgncidaaaGreatDoorM42
namespace Go.Proofs.YtnkphifgncidaaaGreatDoor.Vw
open Go.RowKit Vf Vm
theorem wrap_in {n:Int} (h:-9223372036854775808 ≤ n) (k:n ≤ 9223372036854775807):wrap n = n:=by
 unfold wrap Go.RowKit.wrap64
 omega
theorem wrap_add (n k:Int):wrap (n + k * 18446744073709551616) = wrap n:=by
 unfold wrap Go.RowKit.wrap64
 rw [show n + k * 18446744073709551616 + 9223372036854775808 = (n + 9223372036854775808) + k * 18446744073709551616 by omega,Int.add_mul_emod_self_right]
theorem wrap_is (n:Int):∃ k,wrap n = n + k * 18446744073709551616:=by
 refine ⟨-((n + 9223372036854775808) / 18446744073709551616),?_⟩
 unfold wrap Go.RowKit.wrap64
 have:=Int.emod_add_mul_ediv (n + 9223372036854775808) 18446744073709551616
 rw [Int.neg_mul]
 omega
theorem wrap_mul_left (a b:Int):wrap (wrap a * b) = wrap (a * b):=by
 obtain ⟨k,h⟩:=wrap_is a
 rw [h,Int.add_mul,Int.mul_right_comm]
 exact wrap_add _ _
theorem wrap_mul_right (a b:Int):wrap (a * wrap b) = wrap (a * b):=by
 rw [Int.mul_comm,wrap_mul_left,Int.mul_comm]
theorem wrap_wrap (a:Int):wrap (wrap a) = wrap a:=by
 obtain ⟨k,h⟩:=wrap_is a
 have h2:=wrap_add a k
 rw [← h] at h2
 exact h2
theorem drop_get {l:List Int} {k:Nat} {x:Int} {r:List Int} (h:l.drop k = x :: r):l[k]? = some x ∧ k < l.length ∧ l.drop (k + 1) = r:=by
 have h1:l[k]? = some x:=by
  have:(l.drop k)[0]? = some x:=by rw [h]; rfl
  rw [List.getElem?_drop] at this
  simpa using this
 refine ⟨h1,(List.getElem?_eq_some_iff.1 h1).1,?_⟩
 rw [← List.drop_drop,h]
 rfl
theorem drop_end {l:List Int} {k:Nat} (h:l.drop k = []) (hk:k ≤ l.length):k = l.length:=by
 have:=List.drop_eq_nil_iff.1 h
 omega
end Go.Proofs.YtnkphifgncidaaaGreatDoor.Vw
namespace Go.Proofs.YtnkphifgncidaaaGreatDoor
namespace Xe
def nPower:ByteArray:=⟨#[112,111,119,101,114]⟩
def mPower:Vf.Md:=⟨[⟨1,20⟩],[⟨4,0,[1,1,1],0,0,[⟨2,1,0⟩,⟨22,35,0⟩,⟨27,0,0⟩,⟨4,0,0⟩,⟨27,0,0⟩,⟨4,1,0⟩,⟨1,0,1⟩,⟨4,2,0⟩,⟨3,1,0⟩,⟨1,0,0⟩,⟨17,0,0⟩,⟨22,32,0⟩,⟨3,1,0⟩,⟨1,0,2⟩,⟨12,0,0⟩,⟨1,0,1⟩,⟨13,0,0⟩,⟨22,23,0⟩,⟨3,2,0⟩,⟨3,0,0⟩,⟨10,0,0⟩,⟨4,2,0⟩,⟨21,23,0⟩,⟨3,0,0⟩,⟨3,0,0⟩,⟨10,0,0⟩,⟨4,0,0⟩,⟨3,1,0⟩,⟨1,0,2⟩,⟨11,0,0⟩,⟨4,1,0⟩,⟨21,8,0⟩,⟨3,2,0⟩,⟨28,0,0⟩,⟨21,0,0⟩,⟨25,0,0⟩]⟩]⟩
set_option maxRecDepth 1000000 in
theorem ans_power:ans (fn 16 [.string nPower] s0) = some mPower:=by kernel_rfl
end Xe
end Go.Proofs.YtnkphifgncidaaaGreatDoor
namespace Go.Proofs.YtnkphifgncidaaaGreatDoor.Vw
open Go.RowKit Vf Vm
theorem wrap_pow (b:Int):∀ (n:Nat) (a:Int),wrap (a * wrap b ^ n) = wrap (a * b ^ n)
 | 0,_ => by rw [Int.pow_zero,Int.pow_zero]
 | n + 1,a => by
  rw [Int.pow_succ,← Int.mul_assoc,wrap_mul_right,Int.mul_assoc,Int.mul_comm (wrap b ^ n) b,← Int.mul_assoc,wrap_pow b n (a * b),Int.pow_succ,Int.mul_assoc,Int.mul_comm b]
theorem wrap_one:wrap 1 = 1:=wrap_in (by decide) (by decide)
theorem sq_pow (x:Int) (n:Nat):(x * x) ^ n = x ^ (2 * n):=by rw [Int.mul_pow,← Int.pow_add,Nat.two_mul]
def pwr (x:Int):Nat → Int
 | 0 => 1
 | n + 1 => wrap (pwr x n * x)
theorem pwr_is (x:Int):∀ n,pwr x n = wrap (x ^ n)
 | 0 => by rw [Int.pow_zero,wrap_one]; rfl
 | n + 1 => by
  show wrap (pwr x n * x) = _
  rw [pwr_is x n,wrap_mul_left,Int.pow_succ]
def pws:List Int → List Int
 | x :: n :: l => pwr x n.toNat :: pws l
 | _ => []
def Pok:List Int → Prop
 | _ :: n :: l => (0 ≤ n ∧ n ≤ 60) ∧ Pok l
 | _ => True
open Xe in
theorem power_stop (x n p:Int) (o:List Int) (X:List Lst) (hx:¬ 0 < n):Goes mPower 4 (cf 0 [x,n,p] 8 o X) (cf 0 [x,n,p] 32 o X):=by
 have h1:Goes mPower 3 (cf 0 [x,n,p] 8 o X) (cf 0 [x,n,p,yes (decide (0 < n))] 11 o X):=.run 3 fun _ _ => by kernel_rfl
 rw [decide_eq_false hx] at h1
 have h3:Goes mPower 1 (cf 0 [x,n,p,yes false] 11 o X) (cf 0 [x,n,p] 32 o X):=.run 1 fun _ _ => by kernel_rfl
 exact h1.trans h3
open Xe in
theorem power_tail (x n p:Int) (o:List Int) (X:List Lst):Goes mPower 9 (cf 0 [x,n,p] 23 o X) (cf 0 [wrap (x * x),wrap (n.tdiv 2),p] 8 o X):=by
 have h1:Goes mPower 2 (cf 0 [x,n,p] 23 o X) (cf 0 [x,n,p,x,x] 25 o X):=.run 2 fun _ _ => by kernel_rfl
 have h2:Goes mPower 1 (cf 0 [x,n,p,x,x] 25 o X) (cf 0 [x,n,p,wrap (x * x)] 26 o X):=.reck 10 (cf 0 [x,n,p,x,x] 26 o X) (by decide) (by decide) (fun _ => by kernel_rfl) (fun _ => by kernel_rfl) (fun _ => by kernel_rfl)
 have h3:Goes mPower 6 (cf 0 [x,n,p,wrap (x * x)] 26 o X) (cf 0 [wrap (x * x),wrap (n.tdiv 2),p] 8 o X):=.run 6 fun _ _ => by kernel_rfl
 exact (h1.trans h2).trans h3
open Xe in
theorem power_round (x n p:Int) (o:List Int) (X:List Lst) (hx:0 < n):Goes mPower 24 (cf 0 [x,n,p] 8 o X) (cf 0 [wrap (x * x),wrap (n.tdiv 2),if (n.tmod 2 == 1) = true then wrap (p * x) else p] 8 o X):=by
 have h1:Goes mPower 3 (cf 0 [x,n,p] 8 o X) (cf 0 [x,n,p,yes (decide (0 < n))] 11 o X):=.run 3 fun _ _ => by kernel_rfl
 rw [decide_eq_true hx] at h1
 have h3:Goes mPower 6 (cf 0 [x,n,p,yes true] 11 o X) (cf 0 [x,n,p,yes (n.tmod 2 == 1)] 17 o X):=.run 6 fun _ _ => by kernel_rfl
 have h4:=h1.trans h3
 cases hb:(n.tmod 2 == 1) with
 | false =>
  rw [hb] at h4
  have h5:Goes mPower 1 (cf 0 [x,n,p,yes false] 17 o X) (cf 0 [x,n,p] 23 o X):=.run 1 fun _ _ => by kernel_rfl
  exact ((h4.trans h5).trans (power_tail x n p o X)).mono (by decide)
 | true =>
  rw [hb] at h4
  have h5:Goes mPower 3 (cf 0 [x,n,p,yes true] 17 o X) (cf 0 [x,n,p,p,x] 20 o X):=.run 3 fun _ _ => by kernel_rfl
  have h6:Goes mPower 1 (cf 0 [x,n,p,p,x] 20 o X) (cf 0 [x,n,p,wrap (p * x)] 21 o X):=.reck 10 (cf 0 [x,n,p,p,x] 21 o X) (by decide) (by decide) (fun _ => by kernel_rfl) (fun _ => by kernel_rfl) (fun _ => by kernel_rfl)
  have h7:Goes mPower 2 (cf 0 [x,n,p,wrap (p * x)] 21 o X) (cf 0 [x,n,wrap (p * x)] 23 o X):=.run 2 fun _ _ => by kernel_rfl
  exact ((((h4.trans h5).trans h6).trans h7).trans (power_tail x n (wrap (p * x)) o X)).mono (by decide)
theorem power_word (o:List Int) (X:List Lst):∀ (j N:Nat) (x p:Int),N < 2 ^ j → N < 9223372036854775808 → p = wrap p → ∃ x' n',Goes Xe.mPower (24 * j + 4) (cf 0 [x,(N:Int),p] 8 o X) (cf 0 [x',n',wrap (p * x ^ N)] 32 o X)
 | j,0,x,p,_,_,hp => by
  have h:=(power_stop x 0 p o X (by omega)).mono (show 4 ≤ 24 * j + 4 by omega)
  refine ⟨x,0,h.cast ?_⟩
  rw [Int.pow_zero,Int.mul_one,← hp]
 | 0,N + 1,x,p,h,_,_ => by simp at h
 | j + 1,N + 1,x,p,h,hb,hp => by
  have h1:=power_round x ((N + 1:Nat):Int) p o X (by omega)
  obtain ⟨Y,hY⟩:∃ Y,Y = N + 1:=⟨_,rfl⟩
  rw [← hY] at h1 h hb ⊢
  have e1:wrap ((Y:Int).tdiv 2) = ((Y / 2:Nat):Int):=by
   rw [Int.tdiv_eq_ediv_of_nonneg (by omega)]
   exact wrap_in (by omega) (by omega)
  rw [e1] at h1
  have e2:(Y:Int).tmod 2 = ((Y % 2:Nat):Int):=by
   rw [Int.tmod_eq_emod_of_nonneg (by omega)]
   omega
  rw [e2] at h1
  rcases Nat.mod_two_eq_zero_or_one Y with h2 | h2
  ·rw [h2,if_neg (by decide)] at h1
   obtain ⟨x',n',h3⟩:=power_word o X j (Y / 2) (wrap (x * x)) p (by rw [Nat.pow_succ] at h; omega) (by omega) hp
   refine ⟨x',n',((h1.trans h3).mono (by omega)).cast ?_⟩
   have e:Y = 2 * (Y / 2):=by omega
   rw [wrap_pow,sq_pow,← e]
  ·rw [h2,if_pos (by decide)] at h1
   obtain ⟨x',n',h3⟩:=power_word o X j (Y / 2) (wrap (x * x)) (wrap (p * x)) (by rw [Nat.pow_succ] at h; omega) (by omega) (wrap_wrap _).symm
   refine ⟨x',n',((h1.trans h3).mono (by omega)).cast ?_⟩
   have e:Y = 2 * (Y / 2) + 1:=by omega
   rw [wrap_pow,wrap_mul_left,sq_pow,Int.mul_assoc,Int.mul_comm x,← Int.pow_succ,show (2 * (Y / 2)).succ = Y from e.symm]
open Xe in
theorem power_all (l:List Int):∀ (r:List Int) (k:Nat) (a b c:Int) (o:List Int),l.drop k = r → k ≤ l.length → Pok r →
  ∃ ws pc,(pc = 2 ∨ pc = 4) ∧ Goes mPower (81 * r.length + 6) (cf 0 [a,b,c] 0 o [⟨l,k,[]⟩]) (cf 0 ws pc (o ++ pws r) [⟨l,l.length,[]⟩])
 | [],k,a,b,c,o,hr,hk,_ => by
  obtain rfl:=drop_end hr hk
  refine ⟨[a,b,c],2,.inl rfl,?_⟩
  have h1:Goes mPower 2 (cf 0 [a,b,c] 0 o [⟨l,l.length,[]⟩]) (cf 0 [a,b,c] 2 o [⟨l,l.length,[]⟩]):=.run 2 fun _ _ => by kernel_rfl
  exact (h1.mono (by omega)).cast rfl (by simp [pws])
 | [v],k,a,b,c,o,hr,hk,_ => by
  obtain ⟨hv,hlt,hd⟩:=drop_get hr
  have he:=drop_end hd hlt
  refine ⟨[v,b,c],4,.inr rfl,?_⟩
  have h1:Goes mPower 2 (cf 0 [a,b,c] 0 o [⟨l,k,[]⟩]) (cf 0 [a,b,c] 2 o [⟨l,k,[]⟩]):=.run 2 fun _ _ => by kernel_rfl
  have h2:Goes mPower 1 (cf 0 [a,b,c] 2 o [⟨l,k,[]⟩]) (cf 0 [a,b,c,v] 3 o [⟨l,k + 1,[]⟩]):=.recv (fun v => cf 0 [a,b,c,v] 3 o [⟨l,k + 1,[]⟩]) hv (fun _ => stat_more rfl rfl rfl hlt) (q:=0) (fun _ => by kernel_rfl)
  have h3:Goes mPower 1 (cf 0 [a,b,c,v] 3 o [⟨l,k + 1,[]⟩]) (cf 0 [v,b,c] 4 o [⟨l,k + 1,[]⟩]):=.run 1 fun _ _ => by kernel_rfl
  rw [he] at h2 h3
  exact (((h1.trans h2).trans h3).mono (by simp)).cast rfl (by simp [pws])
 | v :: u :: r,k,a,b,c,o,hr,hk,hp => by
  obtain ⟨hv,hlt,hd⟩:=drop_get hr
  obtain ⟨hu,hlt2,hd2⟩:=drop_get hd
  obtain ⟨⟨hp1,hp2⟩,hp3⟩:=hp
  have h1:Goes mPower 2 (cf 0 [a,b,c] 0 o [⟨l,k,[]⟩]) (cf 0 [a,b,c] 2 o [⟨l,k,[]⟩]):=.run 2 fun _ _ => by kernel_rfl
  have h2:Goes mPower 1 (cf 0 [a,b,c] 2 o [⟨l,k,[]⟩]) (cf 0 [a,b,c,v] 3 o [⟨l,k + 1,[]⟩]):=.recv (fun v => cf 0 [a,b,c,v] 3 o [⟨l,k + 1,[]⟩]) hv (fun _ => stat_more rfl rfl rfl hlt) (q:=0) (fun _ => by kernel_rfl)
  have h3:Goes mPower 1 (cf 0 [a,b,c,v] 3 o [⟨l,k + 1,[]⟩]) (cf 0 [v,b,c] 4 o [⟨l,k + 1,[]⟩]):=.run 1 fun _ _ => by kernel_rfl
  have h4:Goes mPower 1 (cf 0 [v,b,c] 4 o [⟨l,k + 1,[]⟩]) (cf 0 [v,b,c,u] 5 o [⟨l,k + 1 + 1,[]⟩]):=.recv (fun u => cf 0 [v,b,c,u] 5 o [⟨l,k + 1 + 1,[]⟩]) hu (fun _ => stat_more rfl rfl rfl hlt2) (q:=0) (fun _ => by kernel_rfl)
  have h5:Goes mPower 3 (cf 0 [v,b,c,u] 5 o [⟨l,k + 1 + 1,[]⟩]) (cf 0 [v,u,1] 8 o [⟨l,k + 1 + 1,[]⟩]):=.run 3 fun _ _ => by kernel_rfl
  obtain ⟨N,rfl⟩:∃ N:Nat,u = N:=⟨u.toNat,by omega⟩
  obtain ⟨x',n',h6⟩:=power_word o [⟨l,k + 1 + 1,[]⟩] 6 N v 1 (by omega) (by omega) wrap_one.symm
  rw [Int.one_mul,← pwr_is] at h6
  have h7:Goes mPower 3 (cf 0 [x',n',pwr v N] 32 o [⟨l,k + 1 + 1,[]⟩]) (cf 0 [x',n',pwr v N] 0 (o ++ [pwr v N]) [⟨l,k + 1 + 1,[]⟩]):=.run' 3 [⟨1,0,pwr v N⟩] fun _ _ => by kernel_rfl
  obtain ⟨ws,pc,hpc,h8⟩:=power_all l r (k + 1 + 1) x' n' (pwr v N) (o ++ [pwr v N]) hd2 hlt2 hp3
  refine ⟨ws,pc,hpc,((((((((h1.trans h2).trans h3).trans h4).trans h5).trans h6).trans h7).trans h8).mono ?_).cast rfl ?_⟩
  ·simp only [List.length_cons]; omega
  ·simp [pws]
set_option maxRecDepth 1000000 in
theorem power_fits (l:List Int):soloE Xe.mPower 0 5000 [l] = 0:=by kernel_rfl
theorem power_asked:Asked Xe.nPower Xe.mPower:=⟨Xe.ans_power,by decide⟩
theorem power_first (l:List Int):soloR Xe.mPower 0 5000 [l] = go lsX Xe.mPower 5000 ((cf 0 [0,0,0] 0 [] [⟨l,0,[]⟩]).tk []) [⟨l,0,[]⟩]:=by kernel_rfl
theorem power_says (l:List Int) (h:l.length ≤ 12) (hl:Pok l):(soloR Xe.mPower 0 5000 [l]).2.1.out = pws l ∧ (stat lsX Xe.mPower (soloR Xe.mPower 0 5000 [l]).2.1 (soloR Xe.mPower 0 5000 [l]).2.2).1 = 3:=by
 obtain ⟨ws,pc,hpc,hg⟩:=power_all l l 0 0 0 0 [] rfl (Nat.zero_le _) hl
 exact hg.says (fun _ => by rcases hpc with rfl | rfl <;> exact stat_none rfl rfl rfl) (by omega) (power_first l) (by simp)
end Go.Proofs.YtnkphifgncidaaaGreatDoor.Vw

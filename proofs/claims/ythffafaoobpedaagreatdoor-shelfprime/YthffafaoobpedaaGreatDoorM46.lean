/- What prime does,plainly. -/
import Derived.Test.YthffafaoobpedaaGreatDoorM43
import Derived.Test.YthffafaoobpedaaGreatDoorM44
import Derived.Test.YthffafaoobpedaaGreatDoorM45
set_option maxRecDepth 100000
set_option maxHeartbeats 1000000
namespace Go.Proofs.YthffafaoobpedaaGreatDoor.Vw
open Go.RowKit Vf Vm
def prm:Nat → Nat → Nat → Nat
 | 0,_,_ => 1
 | f + 1,N,D => if D * D ≤ N then (if (N % D == 0) = true then 0 else prm f N (D + 1)) else 1
def prE:Nat → Nat → Nat → Bool
 | 0,_,_ => false
 | f + 1,N,D => if D * D ≤ N then (if (N % D == 0) = true then true else prE f N (D + 1)) else true
def dv (N:Nat):Nat → Nat
 | 0 => 0
 | k + 1 => dv N k + if (N % (k + 1) == 0) = true then 1 else 0
def prW (N:Nat):Nat:=if (dv N N == 2) = true then 1 else 0
theorem dv_le (N:Nat):∀ k,dv N k ≤ k
 | 0 => Nat.le_refl _
 | k + 1 => by
  have:=dv_le N k
  unfold dv
  split <;> omega
theorem prime_all':∀ N:Nat,N ≤ 200 → (if N < 2 then prW N = 0 else prE 20 N 2 = true ∧ prm 20 N 2 = prW N):=by
 have h:(List.range 201).all (fun N => bif Nat.ble 2 N then prE 20 N 2 && Nat.beq (prm 20 N 2) (prW N) else Nat.beq (prW N) 0) = true:=by kernel_rfl
 intro N hN
 have h1:=List.all_eq_true.1 h N (List.mem_range.2 (by omega))
 by_cases h2:N < 2
 ·rw [if_pos h2]
  have e:Nat.ble 2 N = false:=by
   cases hb:Nat.ble 2 N with
   | false => rfl
   | true => have:=Nat.le_of_ble_eq_true hb; omega
  rw [e] at h1
  exact Nat.eq_of_beq_eq_true h1
 ·rw [if_neg h2]
  have e:Nat.ble 2 N = true:=Nat.ble_eq_true_of_le (by omega)
  rw [e] at h1
  have h3:(prE 20 N 2 && Nat.beq (prm 20 N 2) (prW N)) = true:=h1
  rw [Bool.and_eq_true] at h3
  exact ⟨h3.1,Nat.eq_of_beq_eq_true h3.2⟩
abbrev pcf (ws:List Int) (pc:Nat) (o:List Int) (X:List Lst):Cf:=⟨[⟨ws,[⟨0,pc,0⟩,⟨1,4,0⟩],2,none⟩],0,o,X⟩
open Xe in
theorem prime_yes (n d:Int) (o:List Int) (X:List Lst):Goes mPrime 4 (pcf [n,d] 29 o X) (cf 1 [] 0 (o ++ [1]) X):=by
 have h1:Goes mPrime 4 ⟨[⟨[n,d],[⟨0,29,0⟩,⟨1,4,0⟩],2,none⟩],0,o,X⟩ ⟨[⟨[],[⟨1,0,0⟩],2,none⟩],0,o ++ [1],X⟩:=.run' 4 [⟨1,0,1⟩] fun _ _ => by kernel_rfl
 exact h1
open Xe in
theorem prime_no (n d:Int) (o:List Int) (X:List Lst):Goes mPrime 4 (pcf [n,d] 21 o X) (cf 1 [] 0 (o ++ [0]) X):=by
 have h1:Goes mPrime 4 ⟨[⟨[n,d],[⟨0,21,0⟩,⟨1,4,0⟩],2,none⟩],0,o,X⟩ ⟨[⟨[],[⟨1,0,0⟩],2,none⟩],0,o ++ [0],X⟩:=.run' 4 [⟨1,0,0⟩] fun _ _ => by kernel_rfl
 exact h1
open Xe in
theorem prime_low (n:Int) (o:List Int) (X:List Lst):Goes mPrime 4 (pcf [n,0] 4 o X) (cf 1 [] 0 (o ++ [0]) X):=by
 have h1:Goes mPrime 4 ⟨[⟨[n,0],[⟨0,4,0⟩,⟨1,4,0⟩],2,none⟩],0,o,X⟩ ⟨[⟨[],[⟨1,0,0⟩],2,none⟩],0,o ++ [0],X⟩:=.run' 4 [⟨1,0,0⟩] fun _ _ => by kernel_rfl
 exact h1
open Xe in
theorem prime_head (n d:Int) (o:List Int) (X:List Lst):Goes mPrime 5 (pcf [n,d] 9 o X) (pcf [n,d,yes (decide (wrap (d * d) ≤ n))] 14 o X):=by
 have h1:Goes mPrime 2 ⟨[⟨[n,d],[⟨0,9,0⟩,⟨1,4,0⟩],2,none⟩],0,o,X⟩ ⟨[⟨[n,d,d,d],[⟨0,11,0⟩,⟨1,4,0⟩],2,none⟩],0,o,X⟩:=.run 2 fun _ _ => by kernel_rfl
 have h2:Goes mPrime 1 ⟨[⟨[n,d,d,d],[⟨0,11,0⟩,⟨1,4,0⟩],2,none⟩],0,o,X⟩ ⟨[⟨[n,d,wrap (d * d)],[⟨0,12,0⟩,⟨1,4,0⟩],2,none⟩],0,o,X⟩:=.reck 10 ⟨[⟨[n,d,d,d],[⟨0,12,0⟩,⟨1,4,0⟩],2,none⟩],0,o,X⟩ (by decide) (by decide) (fun _ => by kernel_rfl) (fun _ => by kernel_rfl) (fun _ => by kernel_rfl)
 have h3:=h1.trans h2
 have h4:Goes mPrime 1 ⟨[⟨[n,d,wrap (d * d)],[⟨0,12,0⟩,⟨1,4,0⟩],2,none⟩],0,o,X⟩ ⟨[⟨[n,d,wrap (d * d),n],[⟨0,13,0⟩,⟨1,4,0⟩],2,none⟩],0,o,X⟩:=.run 1 fun _ _ => by kernel_rfl
 have h5:=h3.trans h4
 have h6:Goes mPrime 1 ⟨[⟨[n,d,wrap (d * d),n],[⟨0,13,0⟩,⟨1,4,0⟩],2,none⟩],0,o,X⟩ ⟨[⟨[n,d,yes (decide ((wrap (d * d)) ≤ n))],[⟨0,14,0⟩,⟨1,4,0⟩],2,none⟩],0,o,X⟩:=.reck 16 ⟨[⟨[n,d,wrap (d * d),n],[⟨0,14,0⟩,⟨1,4,0⟩],2,none⟩],0,o,X⟩ (by decide) (by decide) (fun _ => by kernel_rfl) (fun _ => by kernel_rfl) (fun _ => by kernel_rfl)
 have h7:=h5.trans h6
 exact h7
open Xe in
theorem prime_test (n d:Int) (hz:d ≠ 0) (o:List Int) (X:List Lst):Goes mPrime 6 (pcf [n,d,yes true] 14 o X) (pcf [n,d,yes (n.tmod d == 0)] 20 o X):=by
 have h1:Goes mPrime 3 ⟨[⟨[n,d,yes true],[⟨0,14,0⟩,⟨1,4,0⟩],2,none⟩],0,o,X⟩ ⟨[⟨[n,d,n,d],[⟨0,17,0⟩,⟨1,4,0⟩],2,none⟩],0,o,X⟩:=.run 3 fun _ _ => by kernel_rfl
 have h2:Goes mPrime 1 ⟨[⟨[n,d,n,d],[⟨0,17,0⟩,⟨1,4,0⟩],2,none⟩],0,o,X⟩ ⟨[⟨[n,d,n.tmod d],[⟨0,18,0⟩,⟨1,4,0⟩],2,none⟩],0,o,X⟩:=.reck0 12 ⟨[⟨[n,d,n,d],[⟨0,18,0⟩,⟨1,4,0⟩],2,none⟩],0,o,X⟩ (fun _ => hz) (fun _ => by kernel_rfl) (fun _ => by kernel_rfl) (fun _ => by kernel_rfl)
 have h3:=h1.trans h2
 have h4:Goes mPrime 2 ⟨[⟨[n,d,n.tmod d],[⟨0,18,0⟩,⟨1,4,0⟩],2,none⟩],0,o,X⟩ ⟨[⟨[n,d,yes ((n.tmod d) == 0)],[⟨0,20,0⟩,⟨1,4,0⟩],2,none⟩],0,o,X⟩:=.run 2 fun _ _ => by kernel_rfl
 have h5:=h3.trans h4
 exact h5
open Xe in
theorem prime_next (n d:Int) (o:List Int) (X:List Lst):Goes mPrime 6 (pcf [n,d,yes false] 20 o X) (pcf [n,wrap (d + 1)] 9 o X):=by
 have h1:Goes mPrime 6 ⟨[⟨[n,d,yes false],[⟨0,20,0⟩,⟨1,4,0⟩],2,none⟩],0,o,X⟩ ⟨[⟨[n,wrap (d + 1)],[⟨0,9,0⟩,⟨1,4,0⟩],2,none⟩],0,o,X⟩:=.run 6 fun _ _ => by kernel_rfl
 exact h1
open Xe in
theorem prime_loop (o:List Int) (X:List Lst) (N:Nat) (hN:N ≤ 200):∀ (f D:Nat),0 < D → D + f ≤ 1000 → prE f N D = true → Goes mPrime (17 * f + 12) (pcf [(N:Int),(D:Int)] 9 o X) (cf 1 [] 0 (o ++ [((prm f N D:Nat):Int)]) X)
 | 0,D,_,_,h => by cases h
 | f + 1,D,hD,hf,h => by
  have h1:=prime_head (N:Int) (D:Int) o X
  have hDD:D * D ≤ 1000 * 1000:=Nat.mul_le_mul (by omega) (by omega)
  have e1:wrap ((D:Int) * (D:Int)) = ((D * D:Nat):Int):=(wrap_in (by omega) (by omega)).trans (by simp)
  have e2:decide (wrap ((D:Int) * (D:Int)) ≤ (N:Int)) = decide (D * D ≤ N):=by rw [e1]; exact decide_eq_decide.2 (by omega)
  rw [e2] at h1
  unfold prE at h
  unfold prm
  by_cases hc:D * D ≤ N
  ·rw [if_pos hc] at h ⊢
   rw [decide_eq_true hc] at h1
   have h2:=h1.trans (prime_test (N:Int) (D:Int) (by omega) o X)
   have e3:((N:Int).tmod (D:Int) == 0) = (N % D == 0):=by
    rw [Int.tmod_eq_emod_of_nonneg (by omega),← Int.natCast_emod]
    cases hb:(N % D == 0) with
    | true =>
     have:N % D = 0:=by simpa using hb
     rw [this]; rfl
    | false =>
     have:N % D ≠ 0:=by simpa using hb
     have h7:¬ ((N % D:Nat):Int) = 0:=by omega
     simpa using h7
   rw [e3] at h2
   cases hb:(N % D == 0) with
   | true =>
    rw [hb] at h2
    have h3:Goes mPrime 1 (pcf [(N:Int),(D:Int),yes true] 20 o X) (pcf [(N:Int),(D:Int)] 21 o X):=.run 1 fun _ _ => by kernel_rfl
    rw [if_pos rfl]
    exact ((h2.trans h3).trans (prime_no (N:Int) (D:Int) o X)).mono (by omega)
   | false =>
    rw [hb] at h2 h
    rw [if_neg (by simp)] at h
    rw [if_neg (by simp)]
    have h3:=prime_next (N:Int) (D:Int) o X
    rw [show wrap ((D:Int) + 1) = ((D + 1:Nat):Int) from (wrap_in (by omega) (by omega)).trans (by simp)] at h3
    exact ((h2.trans h3).trans (prime_loop o X N hN f (D + 1) (by omega) (by omega) h)).mono (by omega)
  ·rw [if_neg hc]
   rw [decide_eq_false hc] at h1
   have h3:Goes mPrime 1 (pcf [(N:Int),(D:Int),yes false] 14 o X) (pcf [(N:Int),(D:Int)] 29 o X):=.run 1 fun _ _ => by kernel_rfl
   exact ((h1.trans h3).trans (prime_yes (N:Int) (D:Int) o X)).mono (by omega)
def primeOf (v:Int):Int:=(prW v.toNat:Nat)
open Xe in
theorem prime_word (v:Int) (hv:v ≤ 200) (o:List Int) (X:List Lst):Goes mPrime 365 (cf 1 [v] 3 o X) (cf 1 [] 0 (o ++ [primeOf v]) X):=by
 have h1:Goes mPrime 4 (cf 1 [v] 3 o X) (pcf [v,0,yes (decide (v < 2))] 3 o X):=.run 4 fun _ _ => by kernel_rfl
 by_cases h2:v < 2
 ·rw [decide_eq_true h2] at h1
  have h3:Goes mPrime 1 (pcf [v,0,yes true] 3 o X) (pcf [v,0] 4 o X):=.run 1 fun _ _ => by kernel_rfl
  have e:primeOf v = 0:=by
   have h4:=prime_all' v.toNat (by omega)
   rw [if_pos (by omega)] at h4
   unfold primeOf
   rw [h4]; rfl
  rw [e]
  exact ((h1.trans h3).trans (prime_low v o X)).mono (by decide)
 ·rw [decide_eq_false h2] at h1
  obtain ⟨N,rfl⟩:∃ N:Nat,v = N:=⟨v.toNat,by omega⟩
  have h3:Goes mPrime 3 (pcf [(N:Int),0,yes false] 3 o X) (pcf [(N:Int),2] 9 o X):=.run 3 fun _ _ => by kernel_rfl
  have h4:=prime_all' N (by omega)
  rw [if_neg (by omega)] at h4
  have h5:=prime_loop o X N (by omega) 20 2 (by omega) (by omega) h4.1
  rw [h4.2] at h5
  exact ((h1.trans h3).trans h5).mono (by decide)
open Xe in
theorem prime_all (l:List Int) (hl:∀ v ∈ l,v ≤ 200):∀ (j k:Nat) (o:List Int),l.length = k + j →
  Goes mPrime (370 * j + 2) (cf 1 [] 0 o [⟨l,k,[]⟩]) (cf 1 [] 2 (o ++ (l.drop k).map primeOf) [⟨l,l.length,[]⟩])
 | 0,k,o,hk => by
  have hk:k = l.length:=by omega
  subst hk
  have h1:Goes mPrime 2 (cf 1 [] 0 o [⟨l,l.length,[]⟩]) (cf 1 [] 2 o [⟨l,l.length,[]⟩]):=.run 2 fun _ _ => by kernel_rfl
  simpa using h1
 | j + 1,k,o,hk => by
  have hlt:k < l.length:=by omega
  obtain ⟨v,hv⟩:∃ v,l[k]? = some v:=⟨_,List.getElem?_eq_getElem hlt⟩
  have hvl:=hl v (List.mem_of_getElem? hv)
  have h1:Goes mPrime 2 (cf 1 [] 0 o [⟨l,k,[]⟩]) (cf 1 [] 2 o [⟨l,k,[]⟩]):=.run 2 fun _ _ => by kernel_rfl
  have h2:Goes mPrime 1 (cf 1 [] 2 o [⟨l,k,[]⟩]) (cf 1 [v] 3 o [⟨l,k + 1,[]⟩]):=.recv (fun v => cf 1 [v] 3 o [⟨l,k + 1,[]⟩]) hv (fun _ => stat_more rfl rfl rfl hlt) (q:=0) (fun _ => by kernel_rfl)
  have h3:=prime_word v hvl o [⟨l,k + 1,[]⟩]
  have h4:=prime_all l hl j (k + 1) (o ++ [primeOf v]) (by omega)
  refine ((((h1.trans h2).trans h3).trans h4).mono (by omega)).cast rfl ?_
  rw [drop_one hv]
  simp
set_option maxRecDepth 1000000 in
theorem prime_fits (l:List Int):soloE Xe.mPrime 0 5000 [l] = 0:=by kernel_rfl
theorem prime_asked:Asked Xe.nPrime Xe.mPrime:=⟨⟨_,Xe.fn2_ok,Xe.ans_prime⟩,by decide⟩
theorem prime_first (l:List Int):soloR Xe.mPrime 0 5000 [l] = go lsX Xe.mPrime 5000 ((cf 1 [] 0 [] [⟨l,0,[]⟩]).tk []) [⟨l,0,[]⟩]:=by kernel_rfl
theorem prime_says (l:List Int) (h:l.length ≤ 12) (hs:∀ v ∈ l,v ≤ 200):(soloR Xe.mPrime 0 5000 [l]).2.1.out = l.map primeOf ∧ (stat lsX Xe.mPrime (soloR Xe.mPrime 0 5000 [l]).2.1 (soloR Xe.mPrime 0 5000 [l]).2.2).1 = 3 :=
 (prime_all l hs l.length 0 [] (by omega)).says (fun _ => stat_none rfl rfl rfl) (by omega) (prime_first l) (by simp)
def smallB (M:Int) (l:List Int):Bool:=decide (l.length ≤ 12) && l.all (fun v => decide (-M ≤ v) && decide (v ≤ M))
theorem smallB_len {M:Int} {l:List Int} (h:smallB M l = true):l.length ≤ 12:=by
 unfold smallB at h
 rw [Bool.and_eq_true] at h
 exact of_decide_eq_true h.1
theorem smallB_all {M:Int} {l:List Int} (h:smallB M l = true):∀ v ∈ l,-M ≤ v ∧ v ≤ M:=by
 unfold smallB at h
 rw [Bool.and_eq_true] at h
 intro v hv
 have:=List.all_eq_true.1 h.2 v hv
 rw [Bool.and_eq_true] at this
 exact ⟨of_decide_eq_true this.1,of_decide_eq_true this.2⟩
theorem smallB_yes {M:Int} {l:List Int} (hl:l.length ≤ 12) (h:∀ v ∈ l,-M ≤ v ∧ v ≤ M):true = smallB M l:=by
 unfold smallB
 rw [decide_eq_true hl,Bool.true_and]
 exact (List.all_eq_true.2 fun v hv => by rw [decide_eq_true (h v hv).1,decide_eq_true (h v hv).2]; rfl).symm
theorem smallB_no {M:Int} {l:List Int} (h:12 < l.length ∨ ∃ v ∈ l,v < -M ∨ M < v):false = smallB M l:=by
 cases hb:smallB M l with
 | false => rfl
 | true =>
  exfalso
  have h1:=smallB_len hb
  rcases h with h | ⟨v,hv,h⟩
  ·omega
  ·have:=smallB_all hb v hv
   omega
theorem small_any (l:List Int) (a:Option Addr) (c:Nat) (w:World) (M:Int) (hM:0 ≤ M ∧ M ≤ 1000000000) (hw:Hid (In64 w w.heap.size a l)) (hn:l.length ≤ 9223372036854775807) :
  Calls Tryz.prog 9 #[.slice a l.length c,.int .i64 M] w fun e w' => e = .returned (.bool (smallB M l)) ∧ ∃ d,w' = w.drewN d:=by
 have hneg:IntKind.i64.wrap (-M) = -M:=IntWalk.i64_in _ ⟨by omega,by omega⟩
 go_enter Tryz.func9,Tryz.ntmps9
 by_cases hl:l.length ≤ 12
 ·have n1:¬ (12:Int) < (l.length:Int):=by omega
  go_wp2
  go_loopw [12] (fun i wr => ∃ k d:Nat,k ≤ l.length ∧ i = .int .i64 k ∧ wr = w.drewN d ∧ ∀ v ∈ l.take k,-M ≤ v ∧ v ≤ M) (fun i _ => l.length - (intOf i).toNat)
  case atStart => exact ⟨0,0,Nat.zero_le _,rfl,rfl,fun v hv => by cases hv⟩
  case round =>
   obtain ⟨k,d,hk,rfl,rfl,hall⟩:=hrel
   have HALL:=Sb.hide hall
   clear hall
   by_cases hlt:k < l.length
   ·obtain ⟨x,hx⟩:∃ x,l[k]? = some x:=⟨_,List.getElem?_eq_getElem hlt⟩
    obtain ⟨b,off,ha,hbw,hc⟩:=hw.out k x hx
    have HX:Hid (l.take (k + 1) = l.take k ++ [x]):=by unfold Hid; rw [List.take_add_one,hx]; rfl
    have HMEM:Hid (x ∈ l):=List.mem_of_getElem? hx
    obtain ⟨ml,hml⟩:∃ m,m = l.length:=⟨_,rfl⟩
    rw [ha,← hml]
    rw [← hml] at hlt hl hn hk
    have HML:=Sb.hide hml
    have n0:(0:Int) ≤ (k:Int):=by omega
    have n2:(k:Int) < (ml:Int):=by omega
    have hc1:(w.drewN d).cell? ⟨b,off + k,none⟩ = some (.int .i64 x):=hc
    clear hml ha hx n1 hc
    by_cases h1:x < -M
    ·have HNO:Hid (false = smallB M l):=smallB_no (.inr ⟨x,HMEM.out,.inl h1⟩)
     go_wp2
     (try go_quiet (fail))
     (try go_wp2)
     go_ret
     exact ⟨by rw [← HNO.out]; rfl,_,rfl⟩
    ·by_cases h2:M < x
     ·have HNO:Hid (false = smallB M l):=smallB_no (.inr ⟨x,HMEM.out,.inr h2⟩)
      go_wp2
      (try go_quiet (fail))
      (try go_wp2)
      go_ret
      exact ⟨by rw [← HNO.out]; rfl,_,rfl⟩
     ·have HREL:Hid (∀ v ∈ l.take (k + 1),-M ≤ v ∧ v ≤ M):=fun v hv => by
       rw [HX.out,List.mem_append,List.mem_singleton] at hv
       rcases hv with hv | rfl
       ·exact HALL.out v hv
       ·exact ⟨by omega,by omega⟩
      go_wp2
      (try go_quiet (fail))
      (try go_wp2)
      go_roundw
      case rel => exact ⟨k + 1,_,by have:=HML.out; omega,by go_num,rfl,HREL.out⟩
      case measure => simp [intOf]; omega
   ·have ek:k = l.length:=by omega
    subst ek
    have n3:¬ (l.length:Int) < (l.length:Int):=by omega
    have HYES:Hid (true = smallB M l):=by
     refine smallB_yes hl fun v hv => HALL.out v ?_
     rw [List.take_length]; exact hv
    go_wp2
    go_ret
    exact ⟨by rw [← HYES.out]; rfl,_,rfl⟩
 ·have n1:(12:Int) < (l.length:Int):=by omega
  have HNO:Hid (false = smallB M l):=smallB_no (.inl (by omega))
  go_wp2
  go_ret
  exact ⟨by rw [← HNO.out]; rfl,0,rfl⟩
def MdAt (f:Int → Int) (l:List Int) (w:World) (k:Nat) (vl:Value) (wr:World):Prop:=Below w.heap.size w wr ∧ wr.ownsRow w.heap.size 2 1 vl k (ints ((l.take k).map f))
theorem mod_eq (x:Int) (hx:0 ≤ x) (D:Nat):(x % (D:Int) == 0) = (x.toNat % D == 0):=by
 obtain ⟨X,rfl⟩:∃ X:Nat,x = X:=⟨x.toNat,by omega⟩
 rw [show ((X:Int).toNat) = X from Int.toNat_natCast X,← Int.natCast_emod]
 generalize X % D = m
 cases m with
 | zero => rfl
 | succ m => rfl
def PvAt (x:Int) (kk s:Nat):Prop:=s = dv x.toNat kk ∧ kk ≤ x.toNat
theorem PvAt.next {x:Int} {kk s:Nat} (h:PvAt x kk s) (hx:(kk:Int) + 1 ≤ x):PvAt x (kk + 1) (if (x.toNat % (kk + 1) == 0) = true then s + 1 else s):=by
 refine ⟨?_,by omega⟩
 show _ = dv x.toNat kk + _
 rw [← h.1]
 split <;> rfl
theorem PvAt.fin {x:Int} {kk s:Nat} (h:PvAt x kk s) (hx:¬ (kk:Int) + 1 ≤ x):primeOf x = ((if (s == 2) = true then 1 else 0:Nat):Int):=by
 have e:kk = x.toNat:=by have:=h.2; omega
 unfold primeOf prW
 rw [h.1,e]
theorem prime_any (l:List Int) (a:Option Addr) (c:Nat) (w:World) (hw:Hid (In64 w w.heap.size a l)) (hn:l.length ≤ 9223372036854775807) (hT:Hid (Xe.Tabs w)) :
  Calls Tryz.prog 6 #[.slice a l.length c] w fun e w' => e = .returned (.bool true) ∧ Below w.heap.size w w':=by
 obtain ⟨i0,hi,hz0,hz1,hz2⟩:=info_parts info64
 go_enter Tryz.func6,Tryz.ntmps6
 go_wp2_with fail
 refine (small_any l a c w 200 ⟨by decide,by decide⟩ hw hn).mono ?_
 rintro e w0 ⟨rfl,d0,hw0⟩
 have HB0:Hid (Below w.heap.size w w0):=by unfold Hid; rw [hw0]; exact below_drewN (Below.refl _ w) d0
 clear hw0
 cases hsm:smallB 200 l with
 | true =>
  have hl:=smallB_len hsm
  have HSM:Hid (∀ v ∈ l,v ≤ 200):=fun v hv => (smallB_all hsm v hv).2
  clear hsm
  go_wp2
  go_loopw [3,14] (fun vl v wr => ∃ k:Nat,k ≤ l.length ∧ v = .int .i64 k ∧ MdAt primeOf l w k vl wr) (fun _ v _ => l.length - (intOf v).toNat)
  case atStart => exact ⟨0,Nat.zero_le _,rfl,HB0.out,⟨rfl,.inl ⟨rfl,rfl⟩⟩⟩
  case round =>
   obtain ⟨k,hk,rfl,hb,hown⟩:=hrel
   have HB:=Sb.hide hb
   have HO:=Sb.hide hown
   have hbz:=hb.size
   clear hb hown
   by_cases hlt:k < l.length
   ·obtain ⟨x,hx⟩:∃ x,l[k]? = some x:=⟨_,List.getElem?_eq_getElem hlt⟩
    obtain ⟨b,off,ha,hbw,hc⟩:=(hw.out.below HB.out) k x hx
    have HX:Hid (l.take (k + 1) = l.take k ++ [x]):=by unfold Hid; rw [List.take_add_one,hx]; rfl
    have hxb:=HSM.out x (List.mem_of_getElem? hx)
    obtain ⟨ml,hml⟩:∃ m,m = l.length:=⟨_,rfl⟩
    rw [ha,← hml]
    rw [← hml] at hlt hl hn hk
    have HML:=Sb.hide hml
    have n0:(0:Int) ≤ (k:Int):=by omega
    have n2:(k:Int) < (ml:Int):=by omega
    obtain ⟨os,hos⟩:∃ os,os = ints ((l.take k).map primeOf):=⟨_,rfl⟩
    have HO1:Hid (wr.ownsRow w.heap.size 2 1 u3 k os):=by unfold Hid; rw [hos]; exact HO.out
    have HOS:=Sb.hide hos
    have HXB:=Sb.hide hxb
    have HDI:Hid (PvAt x 0 0):=⟨rfl,Nat.zero_le _⟩
    clear hml ha hx hos HO
    go_wp2
    obtain ⟨W1,hW1⟩:∃ W1,W1 = wr:=⟨_,rfl⟩
    rw [← hW1] at HB HO1 hbz hc ⊢
    clear hW1
    go_loopw [6,7] (fun vn vk wr => ∃ kk s D:Nat,kk ≤ 200 ∧ D = kk + 1 ∧ vn = .int .i64 s ∧ vk = .int .i64 D ∧ PvAt x kk s ∧ Below w.heap.size w wr ∧ wr.ownsRow w.heap.size 2 1 u3 k os) (fun _ v _ => 202 - (intOf v).toNat)
    case atStart => exact ⟨0,0,1,by decide,rfl,rfl,rfl,HDI.out,HB.out,HO1.out⟩
    case round =>
     obtain ⟨kk,s,D,hkk,hD,rfl,rfl,hdi,hb2,ho2⟩:=hrel
     have HB2:=Sb.hide hb2
     have HO2:=Sb.hide ho2
     have HDI2:=Sb.hide hdi
     have hsf:s ≤ 200:=by have h1:=hdi.1; have h2:=dv_le x.toNat kk; omega
     have hbz2:=hb2.size
     have HD:=Sb.hide hD
     have hD0:¬ (D:Int) = 0:=by omega
     have hD1:(D:Int) ≤ 201:=by omega
     have hD2:(1:Int) ≤ (D:Int):=by omega
     clear hdi hb2 ho2 HDI
     by_cases hlast:(D:Int) ≤ x
     ·have HNX:=Sb.hide (HDI2.out.next (by omega))
      rw [← hD] at HNX
      have hq1:x.tmod (D:Int) = x % (D:Int):=Int.tmod_eq_emod_of_nonneg (by omega)
      have hq2:=mod_eq x (by omega) D
      clear hD
      cases hev:(x.toNat % D == 0) with
      | true =>
       rw [hev,if_pos rfl] at HNX
       rw [hev] at hq2
       have hq3:(x.tmod (D:Int) == 0) = true:=by rw [hq1]; exact hq2
       clear hq1 hev
       go_wp2
       go_roundw
       case rel => exact ⟨D,s + 1,D + 1,by have:=HXB.out; omega,rfl,by go_num,by go_num,HNX.out,HB2.out,HO2.out⟩
       case measure => simp [intOf]; omega
      | false =>
       rw [hev,if_neg (by simp)] at HNX
       rw [hev] at hq2
       have hq3:(x.tmod (D:Int) == 0) = false:=by rw [hq1]; exact hq2
       clear hq1 hev
       go_wp2
       go_roundw
       case rel => exact ⟨D,s,D + 1,by have:=HXB.out; omega,rfl,rfl,by go_num,HNX.out,HB2.out,HO2.out⟩
       case measure => simp [intOf]; omega
     ·have hsx:=HDI2.out.fin (by have:=HD.out; omega)
      by_cases h2:s = 2
      ·subst h2
       have HPX:Hid (primeOf x = 1):=hsx
       clear hsx HDI2 hD
       have HRW:Hid ((wr.alloc (.cells #[.int .i64 1] 2)).ownsRow w.heap.size 2 1 u3 k os):=HO2.out.alloc _
       go_wp2_with (at_builtin; refine wpList_append_where rfl (.tmp 31) (.tmp 33) 22 rfl w.heap.size 2 i0 (.int .i64 0) 1 8 Tryz.underlying22 hi hz0 hz1 hz2 rfl (by decide) u3 k os rfl HRW.out ⟨wr.heap.size,0,none⟩ 1 1 [.int .i64 1] rfl rfl (news1 wr _ _) (ones1 rfl) (by decide) (by unfold maxLen; omega) (by omega) (by simp; omega) ?_)
       intro R4 cap4 w4 hown4 hg4 hR4
       have HREL:Hid (MdAt primeOf l w (k + 1) (.slice (some ⟨R4,0,none⟩) (k + 1) cap4) w4):=by
        refine ⟨(HB2.out.alloc hbz2 _).grown hg4 (by simp; omega) (fun b hb => (HO2.out.lt b hb).1),?_⟩
        rw [HX.out,List.map_append,List.map_singleton,HPX.out,show ints ((l.take k).map primeOf ++ [1]) = ints ((l.take k).map primeOf) ++ [.int .i64 1] by simp,← HOS.out]
        exact hown4
       clear hown4 hg4 hR4
       go_wp2
       go_roundw
       case rel => exact ⟨k + 1,by have:=HML.out; omega,by go_num,HREL.out⟩
       case measure => simp [intOf]; omega
      ·have HPX:Hid (primeOf x = 0):=by
        have e:(s == 2) = false:=by simpa using h2
        rw [e] at hsx
        exact hsx
       have hs2:((s:Int) == 2) = false:=by
        have:¬ (s:Int) = 2:=by omega
        simpa using this
       clear hsx HDI2 hD
       have HRW:Hid ((wr.alloc (.cells #[.int .i64 0] 2)).ownsRow w.heap.size 2 1 u3 k os):=HO2.out.alloc _
       go_wp2_with (at_builtin; refine wpList_append_where rfl (.tmp 31) (.tmp 33) 22 rfl w.heap.size 2 i0 (.int .i64 0) 1 8 Tryz.underlying22 hi hz0 hz1 hz2 rfl (by decide) u3 k os rfl HRW.out ⟨wr.heap.size,0,none⟩ 1 1 [.int .i64 0] rfl rfl (news1 wr _ _) (ones1 rfl) (by decide) (by unfold maxLen; omega) (by omega) (by simp; omega) ?_)
       intro R4 cap4 w4 hown4 hg4 hR4
       have HREL:Hid (MdAt primeOf l w (k + 1) (.slice (some ⟨R4,0,none⟩) (k + 1) cap4) w4):=by
        refine ⟨(HB2.out.alloc hbz2 _).grown hg4 (by simp; omega) (fun b hb => (HO2.out.lt b hb).1),?_⟩
        rw [HX.out,List.map_append,List.map_singleton,HPX.out,show ints ((l.take k).map primeOf ++ [0]) = ints ((l.take k).map primeOf) ++ [.int .i64 0] by simp,← HOS.out]
        exact hown4
       clear hown4 hg4 hR4
       go_wp2
       go_roundw
       case rel => exact ⟨k + 1,by have:=HML.out; omega,by go_num,HREL.out⟩
       case measure => simp [intOf]; omega
   ·have n3:¬ (k:Int) < (l.length:Int):=by omega
    have ek:k = l.length:=by omega
    subst ek
    have hO:=HO.out
    rw [List.take_length] at hO
    have hlm:l.length = (l.map primeOf).length:=by simp
    rw [hlm] at hO
    have HV:=Sb.hide (own_reads hO)
    have HA:Hid (Below wr.heap.size wr (wr.alloc (.cells #[.slice a l.length c] 22))):=(Below.refl _ wr).alloc (Nat.le_refl _) _
    have HB2:Hid (Below w.heap.size w (wr.alloc (.cells #[.slice a l.length c] 22))):=HB.out.alloc hbz _
    have HF:=Sb.hide (fd_one (c:=c) hw.out (by omega) HB.out)
    have HT2:=Sb.hide (hT.out.below HB2.out)
    have HV2:=Sb.hide (HV.out.below HA.out)
    clear hO HA n3 hlm
    go_wp2_with fail
    refine (says_any prime_asked [l] (some ⟨wr.heap.size,0,none⟩) 1 (fun _ => a) (fun _ => c) (l.map primeOf) u3 _ HT2 HF (prime_fits l) HV2 (prime_says l hl HSM.out).1 (prime_says l hl HSM.out).2 (by simp; omega)).mono ?_
    rintro e w5 ⟨rfl,hb5⟩
    have HB5:=Sb.hide (HB2.out.trans (hb5.mono HB2.out.size))
    clear hb5
    go_wp2
    go_ret
    exact ⟨rfl,HB5.out⟩
 | false =>
  clear hsm
  go_wp2
  go_ret
  exact ⟨rfl,HB0.out⟩
end Go.Proofs.YthffafaoobpedaaGreatDoor.Vw

/- What fib does,plainly. -/
import Derived.Test.YthffafaoobpedaaGreatDoorM43
import Derived.Test.YthffafaoobpedaaGreatDoorM44
import Derived.Test.YthffafaoobpedaaGreatDoorM45
set_option maxRecDepth 100000
set_option maxHeartbeats 1000000
namespace Go.Proofs.YthffafaoobpedaaGreatDoor.Vw
open Go.RowKit Vf Vm
def fb:Nat → Int × Int
 | 0 => (0,1)
 | k + 1 => ((fb k).2,wrap ((fb k).1 + (fb k).2))
def fibs (n:Nat):List Int:=(List.range n).map fun i => (fb i).1
theorem fibs_succ (n:Nat):fibs (n + 1) = fibs n ++ [(fb n).1]:=by
 unfold fibs
 rw [List.range_succ,List.map_append]
 rfl
theorem fibs_len (n:Nat):(fibs n).length = n:=by simp [fibs]
def cnt:List Int → Nat
 | [] => 0
 | n :: l => n.toNat + cnt l
theorem cnt_app (n:Int):∀ p,cnt (p ++ [n]) = cnt p + n.toNat
 | [] => by simp [cnt]
 | m :: p => by
  show m.toNat + cnt (p ++ [n]) = m.toNat + cnt p + n.toNat
  rw [cnt_app n p]
  omega
theorem cnt_le:∀ (l:List Int),(∀ v ∈ l,v ≤ 6) → cnt l ≤ 6 * l.length
 | [],_ => Nat.le_refl _
 | n :: l,h => by
  have h1:=cnt_le l (fun v hv => h v (List.mem_cons_of_mem _ hv))
  have h2:=h n (by simp)
  show n.toNat + cnt l ≤ 6 * (l.length + 1)
  omega
def thr:Nat → Int → Th
 | 0,_ => ⟨[0,0,0],[⟨0,0,0⟩],0,none⟩
 | K + 1,c => ⟨[(fb K).1,(fb K).2,c],[⟨0,6,0⟩],1,some 0⟩
abbrev fcf (n:Int) (pc:Nat) (T:Th) (o:List Int) (X:List Lst):Cf:=⟨[⟨[1,n],[⟨1,pc,0⟩],2,none⟩,T],0,o,X⟩
open Xe in
theorem fib_test (n:Int) (T:Th) (o:List Int) (X:List Lst):Goes mFib 3 (fcf n 6 T o X) ⟨[⟨[1,n,yes (decide (0 < n))],[⟨1,9,0⟩],2,none⟩,T],0,o,X⟩:=.run 3 fun _ _ => by kernel_rfl
open Xe in
theorem fib_stop (n:Int) (T:Th) (o:List Int) (X:List Lst) (hn:¬ 0 < n):Goes mFib 7 (fcf n 6 T o X) (fcf n 4 T o X):=by
 have h1:=fib_test n T o X
 rw [decide_eq_false hn] at h1
 have h2:Goes mFib 4 ⟨[⟨[1,n,yes false],[⟨1,9,0⟩],2,none⟩,T],0,o,X⟩ (fcf n 4 T o X):=.run 4 fun _ _ => by kernel_rfl
 exact h1.trans h2
open Xe in
theorem fib_one (n:Int) (o:List Int) (X:List Lst) (hn:0 < n):∀ (K:Nat) (c:Int),∃ c',Goes mFib 30 (fcf n 6 (thr K c) o X) (fcf (wrap (n - 1)) 6 (thr (K + 1) c') (o ++ [(fb K).1]) X)
 | 0,c => by
  have h0:=fib_test n (thr 0 c) o X
  rw [decide_eq_true hn] at h0
  refine ⟨0,?_⟩
  have k1:Goes mFib 16 ⟨[⟨[1,n,yes true],[⟨1,9,0⟩],2,none⟩,⟨[0,0,0],[⟨0,0,0⟩],0,none⟩],0,o,X⟩ ⟨[⟨[1,wrap (n - 1)],[⟨1,6,0⟩],2,none⟩,⟨[0,1,0],[⟨0,6,0⟩],1,some 0⟩],0,o ++ [0],X⟩:=.run' 16 [⟨1,0,0⟩] fun _ _ => by kernel_rfl
  exact (h0.trans k1).mono (by decide)
 | K + 1,c => by
  have h0:=fib_test n (thr (K + 1) c) o X
  rw [decide_eq_true hn] at h0
  obtain ⟨a,ha⟩:∃ a,a = (fb K).1:=⟨_,rfl⟩
  obtain ⟨b,hb⟩:∃ b,b = (fb K).2:=⟨_,rfl⟩
  refine ⟨wrap (a + b),?_⟩
  show Goes mFib 30 _ ⟨[⟨[1,wrap (n - 1)],[⟨1,6,0⟩],2,none⟩,⟨[(fb K).2,wrap ((fb K).1 + (fb K).2),wrap (a + b)],[⟨0,6,0⟩],1,some 0⟩],0,o ++ [(fb K).2],X⟩
  change Goes mFib 3 _ ⟨[_,⟨[(fb K).1,(fb K).2,c],[⟨0,6,0⟩],1,some 0⟩],0,o,X⟩ at h0
  rw [← ha,← hb] at h0 ⊢
  have k1:Goes mFib 7 ⟨[⟨[1,n,yes true],[⟨1,9,0⟩],2,none⟩,⟨[a,b,c],[⟨0,6,0⟩],1,some 0⟩],0,o,X⟩ ⟨[⟨[1,n],[⟨1,13,0⟩],2,none⟩,⟨[a,b,c,a,b],[⟨0,9,0⟩],2,some 0⟩],1,o,X⟩:=.run 7 fun _ _ => by kernel_rfl
  have k2:Goes mFib 1 ⟨[⟨[1,n],[⟨1,13,0⟩],2,none⟩,⟨[a,b,c,a,b],[⟨0,9,0⟩],2,some 0⟩],1,o,X⟩ ⟨[⟨[1,n],[⟨1,13,0⟩],2,none⟩,⟨[a,b,c,wrap (a + b)],[⟨0,10,0⟩],2,some 0⟩],1,o,X⟩:=.reck 8 ⟨[⟨[1,n],[⟨1,13,0⟩],2,none⟩,⟨[a,b,c,a,b],[⟨0,10,0⟩],2,some 0⟩],1,o,X⟩ (by decide) (by decide) (fun _ => by kernel_rfl) (fun _ => by kernel_rfl) (fun _ => by kernel_rfl)
  have k3:=k1.trans k2
  have k4:Goes mFib 14 ⟨[⟨[1,n],[⟨1,13,0⟩],2,none⟩,⟨[a,b,c,wrap (a + b)],[⟨0,10,0⟩],2,some 0⟩],1,o,X⟩ ⟨[⟨[1,wrap (n - 1)],[⟨1,6,0⟩],2,none⟩,⟨[b,wrap (a + b),wrap (a + b)],[⟨0,6,0⟩],1,some 0⟩],0,o ++ [b],X⟩:=.run' 14 [⟨1,0,b⟩] fun _ _ => by kernel_rfl
  have k5:=k3.trans k4
  exact (h0.trans k5).mono (by decide)
theorem fib_word (o:List Int) (X:List Lst):∀ (N K:Nat) (c:Int),N < 1000 → o = fibs K → ∃ c',Goes Xe.mFib (30 * N + 7) (fcf (N:Int) 6 (thr K c) o X) (fcf 0 4 (thr (K + N) c') (fibs (K + N)) X):=by
 intro N
 induction N generalizing o with
 | zero =>
  intro K c _ ho
  subst ho
  exact ⟨c,fib_stop 0 (thr K c) _ X (by omega)⟩
 | succ N ih =>
  intro K c hN ho
  obtain ⟨c1,h1⟩:=fib_one ((N + 1:Nat):Int) o X (by omega) K c
  rw [show wrap (((N + 1:Nat):Int) - 1) = (N:Int) from (wrap_in (by omega) (by omega)).trans (by omega)] at h1
  obtain ⟨c2,h2⟩:=ih (o ++ [(fb K).1]) (K + 1) c1 (by omega) (by rw [fibs_succ,ho])
  rw [show K + 1 + N = K + (N + 1) by omega] at h2
  exact ⟨c2,(h1.trans h2).mono (by omega)⟩
open Xe in
theorem fib_all (l:List Int):∀ (r:List Int) (k K:Nat) (p c:Int),l.drop k = r → k ≤ l.length → (∀ v ∈ r,v ≤ 6) →
  ∃ p' c',Goes mFib (190 * r.length) (fcf p 4 (thr K c) (fibs K) [⟨l,k,[]⟩]) (fcf p' 4 (thr (K + cnt r) c') (fibs (K + cnt r)) [⟨l,l.length,[]⟩])
 | [],k,K,p,c,hr,hk,_ => by
  obtain rfl:=drop_end hr hk
  exact ⟨p,c,Goes.refl _ _⟩
 | v :: r,k,K,p,c,hr,hk,hs => by
  obtain ⟨hv,hlt,hd⟩:=drop_get hr
  have hv6:=hs v (by simp)
  have h1:Goes mFib 1 (fcf p 4 (thr K c) (fibs K) [⟨l,k,[]⟩]) ⟨[⟨[1,p,v],[⟨1,5,0⟩],2,none⟩,thr K c],0,fibs K,[⟨l,k + 1,[]⟩]⟩:=.recv (fun v => ⟨[⟨[1,p,v],[⟨1,5,0⟩],2,none⟩,thr K c],0,fibs K,[⟨l,k + 1,[]⟩]⟩) hv (fun _ => stat_more rfl rfl rfl hlt) (q:=0) (fun _ => by kernel_rfl)
  have h2:Goes mFib 1 ⟨[⟨[1,p,v],[⟨1,5,0⟩],2,none⟩,thr K c],0,fibs K,[⟨l,k + 1,[]⟩]⟩ (fcf v 6 (thr K c) (fibs K) [⟨l,k + 1,[]⟩]):=.run 1 fun _ _ => by kernel_rfl
  have h3:∃ q c1,Goes mFib 187 (fcf v 6 (thr K c) (fibs K) [⟨l,k + 1,[]⟩]) (fcf q 4 (thr (K + v.toNat) c1) (fibs (K + v.toNat)) [⟨l,k + 1,[]⟩]):=by
   by_cases h0:0 < v
   ·obtain ⟨N,rfl⟩:∃ N:Nat,v = N:=⟨v.toNat,by omega⟩
    obtain ⟨c1,h⟩:=fib_word (fibs K) [⟨l,k + 1,[]⟩] N K c (by omega) rfl
    exact ⟨0,c1,h.mono (by omega)⟩
   ·have e:v.toNat = 0:=by omega
    rw [e]
    exact ⟨v,c,(fib_stop v (thr K c) (fibs K) _ h0).mono (by decide)⟩
  obtain ⟨q,c1,h3⟩:=h3
  obtain ⟨p',c',h4⟩:=fib_all l r (k + 1) (K + v.toNat) q c1 hd hlt (fun u hu => hs u (List.mem_cons_of_mem _ hu))
  rw [show K + v.toNat + cnt r = K + cnt (v :: r) by simp [cnt]; omega] at h4
  exact ⟨p',c',(((h1.trans h2).trans h3).trans h4).mono (by simp only [List.length_cons]; omega)⟩
set_option maxRecDepth 1000000 in
theorem fib_fits (l:List Int):soloE Xe.mFib 0 5000 [l] = 0:=by kernel_rfl
theorem fib_asked:Asked Xe.nFib Xe.mFib:=⟨⟨_,Xe.fn2_ok,Xe.ans_fib⟩,by decide⟩
theorem fib_first (l:List Int):soloR Xe.mFib 0 5000 [l] = go lsX Xe.mFib 5000 ((cf 1 [0,0] 0 [] [⟨l,0,[]⟩]).tk []) [⟨l,0,[]⟩]:=by kernel_rfl
theorem fib_says (l:List Int) (h:l.length ≤ 12) (hs:∀ v ∈ l,v ≤ 6):(soloR Xe.mFib 0 5000 [l]).2.1.out = fibs (cnt l) ∧ (stat lsX Xe.mFib (soloR Xe.mFib 0 5000 [l]).2.1 (soloR Xe.mFib 0 5000 [l]).2.2).1 = 3:=by
 have h1:Goes Xe.mFib 4 (cf 1 [0,0] 0 [] [⟨l,0,[]⟩]) (fcf 0 4 (thr 0 0) (fibs 0) [⟨l,0,[]⟩]):=.run' 4 [⟨6,0,0⟩] fun _ _ => by kernel_rfl
 obtain ⟨p',c',h2⟩:=fib_all l l 0 0 0 0 rfl (Nat.zero_le _) hs
 exact (h1.trans h2).says (fun _ => stat_none rfl rfl rfl) (by omega) (fib_first l) (by rw [Nat.zero_add])
def smallB (M:Int) (l:List Int):Bool:=decide (l.length ≤ 12) && l.all (fun v => decide (-M ≤ v) && decide (v ≤ M))
theorem smallB_len {M:Int} {l:List Int} (h:smallB M l = true):l.length ≤ 12:=by
 unfold smallB at h
 rw [Bool.and_eq_true] at h
 exact of_decide_eq_true h.1
theorem smallB_all {M:Int} {l:List Int} (h:smallB M l = true):∀ v ∈ l,-M ≤ v ∧ v ≤ M:=by
 unfold smallB at h
 rw [Bool.and_eq_true] at h
 intro v hv
 have:=List.all_eq_true.1 h.2 v hv
 rw [Bool.and_eq_true] at this
 exact ⟨of_decide_eq_true this.1,of_decide_eq_true this.2⟩
theorem smallB_yes {M:Int} {l:List Int} (hl:l.length ≤ 12) (h:∀ v ∈ l,-M ≤ v ∧ v ≤ M):true = smallB M l:=by
 unfold smallB
 rw [decide_eq_true hl,Bool.true_and]
 exact (List.all_eq_true.2 fun v hv => by rw [decide_eq_true (h v hv).1,decide_eq_true (h v hv).2]; rfl).symm
theorem smallB_no {M:Int} {l:List Int} (h:12 < l.length ∨ ∃ v ∈ l,v < -M ∨ M < v):false = smallB M l:=by
 cases hb:smallB M l with
 | false => rfl
 | true =>
  exfalso
  have h1:=smallB_len hb
  rcases h with h | ⟨v,hv,h⟩
  ·omega
  ·have:=smallB_all hb v hv
   omega
theorem small_any (l:List Int) (a:Option Addr) (c:Nat) (w:World) (M:Int) (hM:0 ≤ M ∧ M ≤ 1000000000) (hw:Hid (In64 w w.heap.size a l)) (hn:l.length ≤ 9223372036854775807) :
  Calls Tryz.prog 9 #[.slice a l.length c,.int .i64 M] w fun e w' => e = .returned (.bool (smallB M l)) ∧ ∃ d,w' = w.drewN d:=by
 have hneg:IntKind.i64.wrap (-M) = -M:=IntWalk.i64_in _ ⟨by omega,by omega⟩
 go_enter Tryz.func9,Tryz.ntmps9
 by_cases hl:l.length ≤ 12
 ·have n1:¬ (12:Int) < (l.length:Int):=by omega
  go_wp2
  go_loopw [12] (fun i wr => ∃ k d:Nat,k ≤ l.length ∧ i = .int .i64 k ∧ wr = w.drewN d ∧ ∀ v ∈ l.take k,-M ≤ v ∧ v ≤ M) (fun i _ => l.length - (intOf i).toNat)
  case atStart => exact ⟨0,0,Nat.zero_le _,rfl,rfl,fun v hv => by cases hv⟩
  case round =>
   obtain ⟨k,d,hk,rfl,rfl,hall⟩:=hrel
   have HALL:=Sb.hide hall
   clear hall
   by_cases hlt:k < l.length
   ·obtain ⟨x,hx⟩:∃ x,l[k]? = some x:=⟨_,List.getElem?_eq_getElem hlt⟩
    obtain ⟨b,off,ha,hbw,hc⟩:=hw.out k x hx
    have HX:Hid (l.take (k + 1) = l.take k ++ [x]):=by unfold Hid; rw [List.take_add_one,hx]; rfl
    have HMEM:Hid (x ∈ l):=List.mem_of_getElem? hx
    obtain ⟨ml,hml⟩:∃ m,m = l.length:=⟨_,rfl⟩
    rw [ha,← hml]
    rw [← hml] at hlt hl hn hk
    have HML:=Sb.hide hml
    have n0:(0:Int) ≤ (k:Int):=by omega
    have n2:(k:Int) < (ml:Int):=by omega
    have hc1:(w.drewN d).cell? ⟨b,off + k,none⟩ = some (.int .i64 x):=hc
    clear hml ha hx n1 hc
    by_cases h1:x < -M
    ·have HNO:Hid (false = smallB M l):=smallB_no (.inr ⟨x,HMEM.out,.inl h1⟩)
     go_wp2
     (try go_quiet (fail))
     (try go_wp2)
     go_ret
     exact ⟨by rw [← HNO.out]; rfl,_,rfl⟩
    ·by_cases h2:M < x
     ·have HNO:Hid (false = smallB M l):=smallB_no (.inr ⟨x,HMEM.out,.inr h2⟩)
      go_wp2
      (try go_quiet (fail))
      (try go_wp2)
      go_ret
      exact ⟨by rw [← HNO.out]; rfl,_,rfl⟩
     ·have HREL:Hid (∀ v ∈ l.take (k + 1),-M ≤ v ∧ v ≤ M):=fun v hv => by
       rw [HX.out,List.mem_append,List.mem_singleton] at hv
       rcases hv with hv | rfl
       ·exact HALL.out v hv
       ·exact ⟨by omega,by omega⟩
      go_wp2
      (try go_quiet (fail))
      (try go_wp2)
      go_roundw
      case rel => exact ⟨k + 1,_,by have:=HML.out; omega,by go_num,rfl,HREL.out⟩
      case measure => simp [intOf]; omega
   ·have ek:k = l.length:=by omega
    subst ek
    have n3:¬ (l.length:Int) < (l.length:Int):=by omega
    have HYES:Hid (true = smallB M l):=by
     refine smallB_yes hl fun v hv => HALL.out v ?_
     rw [List.take_length]; exact hv
    go_wp2
    go_ret
    exact ⟨by rw [← HYES.out]; rfl,_,rfl⟩
 ·have n1:(12:Int) < (l.length:Int):=by omega
  have HNO:Hid (false = smallB M l):=smallB_no (.inl (by omega))
  go_wp2
  go_ret
  exact ⟨by rw [← HNO.out]; rfl,0,rfl⟩
def FbAt (w:World) (K:Nat) (vl:Value) (p q:Int) (wr:World):Prop:=p = (fb K).1 ∧ q = (fb K).2 ∧ Below w.heap.size w wr ∧ wr.ownsRow w.heap.size 2 1 vl K (ints (fibs K))
theorem fib_any (l:List Int) (a:Option Addr) (c:Nat) (w:World) (hw:Hid (In64 w w.heap.size a l)) (hn:l.length ≤ 9223372036854775807) (hT:Hid (Xe.Tabs w)) :
  Calls Tryz.prog 3 #[.slice a l.length c] w fun e w' => e = .returned (.bool true) ∧ Below w.heap.size w w':=by
 obtain ⟨i0,hi,hz0,hz1,hz2⟩:=info_parts info64
 go_enter Tryz.func3,Tryz.ntmps3
 go_wp2_with fail
 refine (small_any l a c w 6 ⟨by decide,by decide⟩ hw hn).mono ?_
 rintro e w0 ⟨rfl,d0,hw0⟩
 have HB0:Hid (Below w.heap.size w w0):=by unfold Hid; rw [hw0]; exact below_drewN (Below.refl _ w) d0
 clear hw0
 cases hsm:smallB 6 l with
 | true =>
  have hl:=smallB_len hsm
  have HSM:Hid (∀ v ∈ l,v ≤ 6):=fun v hv => (smallB_all hsm v hv).2
  clear hsm
  go_wp2
  go_loopw [3,4,5,13] (fun vl vp vq v wr => ∃ (k:Nat) (p q:Int),k ≤ l.length ∧ vp = .int .i64 p ∧ vq = .int .i64 q ∧ v = .int .i64 k ∧ FbAt w (cnt (l.take k)) vl p q wr) (fun _ _ _ v _ => l.length - (intOf v).toNat)
  case atStart => exact ⟨0,0,1,Nat.zero_le _,rfl,rfl,rfl,rfl,rfl,HB0.out,⟨rfl,.inl ⟨rfl,rfl⟩⟩⟩
  case round =>
   obtain ⟨k,p,q,hk,rfl,rfl,rfl,hp,hq,hb,hown⟩:=hrel
   have HB:=Sb.hide hb
   have HO:=Sb.hide hown
   have HPQ:=Sb.hide (And.intro hp hq)
   have hbz:=hb.size
   clear hb hown hp hq
   by_cases hlt:k < l.length
   ·obtain ⟨x,hx⟩:∃ x,l[k]? = some x:=⟨_,List.getElem?_eq_getElem hlt⟩
    obtain ⟨b,off,ha,hbw,hc⟩:=(hw.out.below HB.out) k x hx
    have HX:Hid (cnt (l.take (k + 1)) = cnt (l.take k) + x.toNat):=by unfold Hid; rw [List.take_add_one,hx]; exact cnt_app x _
    have hx6:=HSM.out x (List.mem_of_getElem? hx)
    have hKb:cnt (l.take k) ≤ 6 * 12:=by
     have h1:=cnt_le (l.take k) (fun v hv => HSM.out v (List.mem_of_mem_take hv))
     rw [List.length_take] at h1
     omega
    obtain ⟨ml,hml⟩:∃ m,m = l.length:=⟨_,rfl⟩
    rw [ha,← hml]
    rw [← hml] at hlt hl hn hk
    have HML:=Sb.hide hml
    have n0:(0:Int) ≤ (k:Int):=by omega
    have n2:(k:Int) < (ml:Int):=by omega
    obtain ⟨K0,hK0⟩:∃ K,K = cnt (l.take k):=⟨_,rfl⟩
    rw [← hK0] at HO HPQ HX hKb
    have HK0:=Sb.hide hK0
    clear hml ha hx hK0
    go_wp2
    obtain ⟨W1,hW1⟩:∃ W1,W1 = wr:=⟨_,rfl⟩
    obtain ⟨uv,huv⟩:∃ uv,uv = u3:=⟨_,rfl⟩
    rw [← hW1,← huv] at HO
    rw [← hW1] at HB hbz hc ⊢
    rw [← huv]
    clear hW1 huv
    go_loopw [3,4,5,7] (fun vl vp vq vn wr => ∃ (K:Nat) (p q n:Int),n ≤ 6 ∧ vp = .int .i64 p ∧ vq = .int .i64 q ∧ vn = .int .i64 n ∧ K + n.toNat = K0 + x.toNat ∧ FbAt w K vl p q wr) (fun _ _ _ v _ => (intOf v).toNat)
    case atStart => exact ⟨K0,p,q,x,hx6,rfl,rfl,rfl,rfl,HPQ.out.1,HPQ.out.2,HB.out,HO.out⟩
    case round =>
     obtain ⟨K,p,q,n,hn6,rfl,rfl,rfl,hKn,hp,hq,hb2,ho2⟩:=hrel
     have HB2:=Sb.hide hb2
     have HO2:=Sb.hide ho2
     have HPQ2:=Sb.hide (And.intro hp hq)
     have hbz2:=hb2.size
     have hKK:K ≤ 100:=by omega
     clear hb2 ho2 hp hq
     by_cases hlast:0 < n
     ·obtain ⟨os,hos⟩:∃ os,os = ints (fibs K):=⟨_,rfl⟩
      have HRW:Hid ((wr.alloc (.cells #[.int .i64 p] 2)).ownsRow w.heap.size 2 1 u3 K os):=by unfold Hid; rw [hos]; exact HO2.out.alloc _
      have HOS:=Sb.hide hos
      have HKN:=Sb.hide hKn
      clear hos hKn
      have hnw:IntKind.i64.wrap (n - 1) = n - 1:=IntWalk.i64_in _ ⟨by omega,by omega⟩
      go_wp2_with (at_builtin; refine wpList_append_where rfl (.tmp 21) (.tmp 23) 22 rfl w.heap.size 2 i0 (.int .i64 0) 1 8 Tryz.underlying22 hi hz0 hz1 hz2 rfl (by decide) u3 K os rfl HRW.out ⟨wr.heap.size,0,none⟩ 1 1 [.int .i64 p] rfl rfl (news1 wr _ _) (ones1 rfl) (by decide) (by unfold maxLen; omega) (by omega) (by simp; omega) ?_)
      intro R4 cap4 w4 hown4 hg4 hR4
      have HREL:Hid (FbAt w (K + 1) (.slice (some ⟨R4,0,none⟩) (K + 1) cap4) q (wrap64 (p + q)) w4):=by
       refine ⟨HPQ2.out.2,?_,(HB2.out.alloc hbz2 _).grown hg4 (by simp; omega) (fun b hb => (HO2.out.lt b hb).1),?_⟩
       ·rw [HPQ2.out.1,HPQ2.out.2]; rfl
       ·rw [fibs_succ,show ints (fibs K ++ [(fb K).1]) = ints (fibs K) ++ [.int .i64 (fb K).1] by simp,← HOS.out,← HPQ2.out.1]
        exact hown4
      clear hown4 hg4 hR4
      go_wp2
      go_roundw
      case rel => exact ⟨K + 1,q,_,n - 1,by omega,rfl,rfl,by go_num,by have:=HKN.out; omega,HREL.out⟩
      case measure => simp [intOf]; omega
     ·have HREL:Hid (FbAt w (cnt (l.take (k + 1))) u3 p q wr):=by
       have e:K = K0 + x.toNat:=by omega
       unfold Hid
       rw [HX.out,← e]
       exact ⟨HPQ2.out.1,HPQ2.out.2,HB2.out,HO2.out⟩
      clear hKn
      go_wp2
      go_roundw
      case rel => exact ⟨k + 1,p,q,by have:=HML.out; omega,rfl,rfl,by go_num,HREL.out⟩
      case measure => simp [intOf]; omega
   ·have n3:¬ (k:Int) < (l.length:Int):=by omega
    have ek:k = l.length:=by omega
    subst ek
    have hO:=HO.out
    rw [List.take_length] at hO
    have hlm:cnt l = (fibs (cnt l)).length:=(fibs_len _).symm
    have HLM:=Sb.hide hlm
    rw [hlm,← hlm] at hO
    have hO':wr.ownsRow w.heap.size 2 1 u3 (fibs (cnt l)).length (ints (fibs (cnt l))):=by rw [← hlm]; exact hO
    have HV:=Sb.hide (own_reads hO')
    have hKb:cnt l ≤ 6 * l.length:=cnt_le l HSM.out
    have HA:Hid (Below wr.heap.size wr (wr.alloc (.cells #[.slice a l.length c] 22))):=(Below.refl _ wr).alloc (Nat.le_refl _) _
    have HB2:Hid (Below w.heap.size w (wr.alloc (.cells #[.slice a l.length c] 22))):=HB.out.alloc hbz _
    have HF:=Sb.hide (fd_one (c:=c) hw.out (by omega) HB.out)
    have HT2:=Sb.hide (hT.out.below HB2.out)
    have HV2:=Sb.hide (HV.out.below HA.out)
    clear hO hO' HA n3 hlm
    go_wp2_with fail
    refine (says_any fib_asked [l] (some ⟨wr.heap.size,0,none⟩) 1 (fun _ => a) (fun _ => c) (fibs (cnt l)) u3 _ HT2 HF (fib_fits l) HV2 (fib_says l hl HSM.out).1 (fib_says l hl HSM.out).2 (by rw [fibs_len]; omega)).mono ?_
    rintro e w5 ⟨rfl,hb5⟩
    have HB5:=Sb.hide (HB2.out.trans (hb5.mono HB2.out.size))
    clear hb5
    go_wp2
    go_ret
    exact ⟨rfl,HB5.out⟩
 | false =>
  clear hsm
  go_wp2
  go_ret
  exact ⟨rfl,HB0.out⟩
end Go.Proofs.YthffafaoobpedaaGreatDoor.Vw

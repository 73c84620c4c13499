/- Numbers,plainly: digits; what wraps round. -/
import Derived.Test.YtnkphifgncidaaaGreatDoorM43
import Derived.Test.YtnkphifgncidaaaGreatDoorM42
namespace Go.Proofs.YtnkphifgncidaaaGreatDoor.Vw
open Go.RowKit Vf Vm
theorem drop_get {l:List Int} {k:Nat} {x:Int} {r:List Int} (h:l.drop k = x :: r):l[k]? = some x ∧ k < l.length ∧ l.drop (k + 1) = r:=by
 have h1:l[k]? = some x:=by
  have:(l.drop k)[0]? = some x:=by rw [h]; rfl
  rw [List.getElem?_drop] at this
  simpa using this
 refine ⟨h1,(List.getElem?_eq_some_iff.1 h1).1,?_⟩
 rw [← List.drop_drop,h]
 rfl
theorem drop_end {l:List Int} {k:Nat} (h:l.drop k = []) (hk:k ≤ l.length):k = l.length:=by
 have:=List.drop_eq_nil_iff.1 h
 omega
end Go.Proofs.YtnkphifgncidaaaGreatDoor.Vw
namespace Go.Proofs.YtnkphifgncidaaaGreatDoor
namespace Xe
def nUntil:ByteArray:=⟨#[117,110,116,105,108]⟩
def mUntil:Vf.Md:=⟨[⟨1,20⟩],[⟨4,0,[1],0,0,[⟨27,0,0⟩,⟨4,0,0⟩,⟨3,0,0⟩,⟨1,0,0⟩,⟨14,0,0⟩,⟨22,11,0⟩,⟨3,0,0⟩,⟨28,0,0⟩,⟨27,0,0⟩,⟨4,0,0⟩,⟨21,2,0⟩,⟨25,0,0⟩]⟩]⟩
set_option maxRecDepth 1000000 in
theorem ans_until:ans (fn 16 [.string nUntil] s0) = some mUntil:=by kernel_rfl
end Xe
end Go.Proofs.YtnkphifgncidaaaGreatDoor
namespace Go.Proofs.YtnkphifgncidaaaGreatDoor.Vw
open Go.RowKit Vf Vm
theorem Goes.done {m:Md} {c:Nat} {a b:Cf} (h:Goes m c a b) (T:List Ev → Tk) (hs:∀ log,(stat lsX m (b.tk log) b.x).1 = 1) (h1:∀ log,one lsX m (b.tk log) b.x = (T log,b.x)) (ho:∀ log,(T log).out = b.out) (h4:∀ log,(T log).over = 4) (hc:c + 1 ≤ 5000) {R:Nat × Tk × List Lst} (hR:R = go lsX m 5000 (a.tk []) a.x) :
  R.2.1.out = b.out ∧ (stat lsX m R.2.1 R.2.2).1 = 4 ∧ R.2.2 = b.x:=by
 subst hR
 obtain ⟨n',log',h2,e⟩:=h 5000 [] (by omega)
 obtain ⟨q,rfl⟩:∃ q,n' = q + 1:=⟨n' - 1,by omega⟩
 have g:=go_on (X:=lsX) (m:=m) (n:=q) (t:=b.tk log') (x:=b.x) (hs log')
 rw [h1] at g
 have hst:(stat lsX m (T log') b.x).1 = 4:=by
  unfold stat
  rw [if_pos (by rw [h4]; decide),h4]
 rw [e,g,go_halt (by rw [hst]; decide)]
 exact ⟨ho _,hst,rfl⟩
open Xe in
theorem until_yes (x:Int) (hx:x ≠ 0) (o:List Int) (X:List Lst):Goes mUntil 6 (cf 0 [x] 2 o X) (cf 0 [x] 8 (o ++ [x]) X):=by
 have h1:Goes mUntil 3 (cf 0 [x] 2 o X) (cf 0 [x,yes (x != 0)] 5 o X):=.run 3 fun _ _ => by kernel_rfl
 have hb:(x != 0) = true:=by simpa using hx
 rw [hb] at h1
 have h2:Goes mUntil 3 (cf 0 [x,yes true] 5 o X) (cf 0 [x] 8 (o ++ [x]) X):=.run' 3 [⟨1,0,x⟩] fun _ _ => by kernel_rfl
 exact h1.trans h2
open Xe in
theorem until_next (l:List Int) (k:Nat) (x v:Int) (o:List Int) (hv:l[k]? = some v) (hlt:k < l.length):Goes mUntil 3 (cf 0 [x] 8 o [⟨l,k,[]⟩]) (cf 0 [v] 2 o [⟨l,k + 1,[]⟩]):=by
 have h1:Goes mUntil 1 (cf 0 [x] 8 o [⟨l,k,[]⟩]) (cf 0 [x,v] 9 o [⟨l,k + 1,[]⟩]):=.recv (fun v => cf 0 [x,v] 9 o [⟨l,k + 1,[]⟩]) hv (fun _ => stat_more rfl rfl rfl hlt) (q:=0) (fun _ => by kernel_rfl)
 have h2:Goes mUntil 2 (cf 0 [x,v] 9 o [⟨l,k + 1,[]⟩]) (cf 0 [v] 2 o [⟨l,k + 1,[]⟩]):=.run 2 fun _ _ => by kernel_rfl
 exact h1.trans h2
theorem until_wait (l:List Int):∀ (r:List Int) (k:Nat) (x:Int) (o:List Int),l.drop k = r → k ≤ l.length → (∀ v ∈ x :: r,v ≠ 0) →
  ∃ y,Goes Xe.mUntil (9 * r.length + 6) (cf 0 [x] 2 o [⟨l,k,[]⟩]) (cf 0 [y] 8 (o ++ x :: r) [⟨l,l.length,[]⟩])
 | [],k,x,o,hr,hk,hz => by
  obtain rfl:=drop_end hr hk
  exact ⟨x,until_yes x (hz x (by simp)) o _⟩
 | v :: r,k,x,o,hr,hk,hz => by
  obtain ⟨hv,hlt,hd⟩:=drop_get hr
  have h1:=until_yes x (hz x (by simp)) o [⟨l,k,[]⟩]
  have h2:=until_next l k x v (o ++ [x]) hv hlt
  obtain ⟨y,h3⟩:=until_wait l r (k + 1) v (o ++ [x]) hd hlt (fun u hu => hz u (List.mem_cons_of_mem _ hu))
  exact ⟨y,(((h1.trans h2).trans h3).mono (by simp only [List.length_cons]; omega)).cast rfl (by simp)⟩
theorem until_zero (l:List Int) (q:List Int):∀ (p:List Int) (r:List Int) (k:Nat) (x:Int) (o:List Int),l.drop k = r → k ≤ l.length → x :: r = p ++ 0 :: q → (∀ v ∈ p,v ≠ 0) →
  Goes Xe.mUntil (9 * p.length + 4) (cf 0 [x] 2 o [⟨l,k,[]⟩]) (cf 0 [0] 11 (o ++ p) [⟨l,k + p.length,[]⟩])
 | [],r,k,x,o,hr,hk,he,hz => by
  have hx:x = 0:=by simpa using congrArg List.head? he
  subst hx
  have h1:Goes Xe.mUntil 4 (cf 0 [0] 2 o [⟨l,k,[]⟩]) (cf 0 [0] 11 o [⟨l,k,[]⟩]):=.run 4 fun _ _ => by kernel_rfl
  exact (h1.mono (by omega)).cast rfl (by simp)
 | u :: p,r,k,x,o,hr,hk,he,hz => by
  have he':x :: r = u :: (p ++ 0 :: q):=he
  injection he' with e1 e2
  subst e1
  cases r with
  | nil => simp at e2
  | cons v r =>
   obtain ⟨hv,hlt,hd⟩:=drop_get hr
   have h1:=until_yes x (hz x (by simp)) o [⟨l,k,[]⟩]
   have h2:=until_next l k x v (o ++ [x]) hv hlt
   have h3:=until_zero l q p r (k + 1) v (o ++ [x]) hd hlt e2 (fun w hw => hz w (List.mem_cons_of_mem _ hw))
   rw [show k + 1 + p.length = k + (x :: p).length by simp only [List.length_cons]; omega] at h3
   exact (((h1.trans h2).trans h3).mono (by simp only [List.length_cons]; omega)).cast rfl (by simp)
set_option maxRecDepth 1000000 in
theorem until_fits (l:List Int):soloE Xe.mUntil 0 5000 [l] = 0:=by kernel_rfl
theorem until_asked:Asked Xe.nUntil Xe.mUntil:=⟨Xe.ans_until,by decide⟩
theorem until_first (l:List Int):soloR Xe.mUntil 0 5000 [l] = go lsX Xe.mUntil 5000 ((cf 0 [0] 0 [] [⟨l,0,[]⟩]).tk []) [⟨l,0,[]⟩]:=by kernel_rfl
theorem until_start (x:Int) (r:List Int):Goes Xe.mUntil 2 (cf 0 [0] 0 [] [⟨x :: r,0,[]⟩]) (cf 0 [x] 2 [] [⟨x :: r,1,[]⟩]):=by
 have h1:Goes Xe.mUntil 1 (cf 0 [0] 0 [] [⟨x :: r,0,[]⟩]) (cf 0 [0,x] 1 [] [⟨x :: r,1,[]⟩]):=.recv (l:=x :: r) (k:=0) (fun v => cf 0 [0,v] 1 [] [⟨x :: r,1,[]⟩]) rfl (fun _ => stat_more rfl rfl rfl (by simp)) (q:=0) (fun _ => by kernel_rfl)
 have h2:Goes Xe.mUntil 1 (cf 0 [0,x] 1 [] [⟨x :: r,1,[]⟩]) (cf 0 [x] 2 [] [⟨x :: r,1,[]⟩]):=.run 1 fun _ _ => by kernel_rfl
 exact h1.trans h2
theorem until_says (l:List Int) (h:l.length ≤ 100) (hz:∀ v ∈ l,v ≠ 0):(soloR Xe.mUntil 0 5000 [l]).2.1.out = l ∧ (stat lsX Xe.mUntil (soloR Xe.mUntil 0 5000 [l]).2.1 (soloR Xe.mUntil 0 5000 [l]).2.2).1 = 3:=by
 cases l with
 | nil => exact (Goes.refl Xe.mUntil (cf 0 [0] 0 [] [⟨[],0,[]⟩])).says (fun _ => stat_none (l:=[]) rfl rfl rfl) (by omega) (until_first []) rfl
 | cons x r =>
  obtain ⟨y,hg⟩:=until_wait (x :: r) r 1 x [] rfl (by simp) hz
  exact ((until_start x r).trans hg).says (fun _ => stat_none rfl rfl rfl) (by simp at h; omega) (until_first (x :: r)) rfl
theorem until_done (p q:List Int) (h:p.length ≤ 100) (hz:∀ v ∈ p,v ≠ 0):(soloR Xe.mUntil 0 5000 [p ++ 0 :: q]).2.1.out = p ∧ (stat lsX Xe.mUntil (soloR Xe.mUntil 0 5000 [p ++ 0 :: q]).2.1 (soloR Xe.mUntil 0 5000 [p ++ 0 :: q]).2.2).1 = 4 ∧ (soloR Xe.mUntil 0 5000 [p ++ 0 :: q]).2.2 = [⟨p ++ 0 :: q,p.length + 1,[]⟩]:=by
 obtain ⟨x,r,hr⟩:∃ x r,p ++ 0 :: q = x :: r:=by cases p <;> exact ⟨_,_,rfl⟩
 rw [hr]
 have hg:=until_zero (x :: r) q p r 1 x [] rfl (by simp) hr.symm hz
 have hd:=((until_start x r).trans hg).done (fun log => ⟨[⟨[0],[⟨0,12,0⟩],2,none⟩],0,[] ++ p,4,0,log ++ [⟨4,0,0⟩]⟩) (fun _ => by kernel_rfl) (fun _ => by kernel_rfl) (fun _ => rfl) (fun _ => rfl) (by omega) (until_first (x :: r))
 obtain ⟨h1,h2,h3⟩:=hd
 exact ⟨h1,h2,h3.trans (by rw [Nat.add_comm])⟩
end Go.Proofs.YtnkphifgncidaaaGreatDoor.Vw

/- Numbers,plainly: digits; what wraps round. -/
import Derived.Test.YtnkphifgncidaabGreatDoorM43
import Derived.Test.YtnkphifgncidaabGreatDoorM42
namespace Go.Proofs.YtnkphifgncidaabGreatDoor.Vw
open Go.RowKit Vf Vm
theorem drop_get {l:List Int} {k:Nat} {x:Int} {r:List Int} (h:l.drop k = x :: r):l[k]? = some x ∧ k < l.length ∧ l.drop (k + 1) = r:=by
 have h1:l[k]? = some x:=by
  have:(l.drop k)[0]? = some x:=by rw [h]; rfl
  rw [List.getElem?_drop] at this
  simpa using this
 refine ⟨h1,(List.getElem?_eq_some_iff.1 h1).1,?_⟩
 rw [← List.drop_drop,h]
 rfl
theorem drop_end {l:List Int} {k:Nat} (h:l.drop k = []) (hk:k ≤ l.length):k = l.length:=by
 have:=List.drop_eq_nil_iff.1 h
 omega
end Go.Proofs.YtnkphifgncidaabGreatDoor.Vw
namespace Go.Proofs.YtnkphifgncidaabGreatDoor
namespace Xe
def nGate:ByteArray:=⟨#[103,97,116,101]⟩
def mGate:Vf.Md:=⟨[⟨1,20⟩,⟨2,20⟩],[⟨4,0,[1],0,0,[⟨2,1,0⟩,⟨22,10,0⟩,⟨27,0,0⟩,⟨4,0,0⟩,⟨27,1,0⟩,⟨22,9,0⟩,⟨3,0,0⟩,⟨28,0,0⟩,⟨21,9,0⟩,⟨21,0,0⟩,⟨25,0,0⟩]⟩]⟩
set_option maxRecDepth 1000000 in
theorem ans_gate:ans (fn 14 [.string nGate] s0) = some mGate:=by kernel_rfl
end Xe
end Go.Proofs.YtnkphifgncidaabGreatDoor
namespace Go.Proofs.YtnkphifgncidaabGreatDoor.Vw
open Go.RowKit Vf Vm
def gat:List Int → List Bool → List Int
 | x :: l,b :: o => if b = true then x :: gat l o else gat l o
 | _,_ => []
theorem gat_nil (l:List Int):gat l [] = []:=by cases l <;> rfl
theorem gat_len:∀ (l:List Int) (o:List Bool),(gat l o).length ≤ o.length
 | [],_ => by simp [gat]
 | _ :: _,[] => by simp [gat]
 | x :: l,b :: o => by
  have:=gat_len l o
  unfold gat
  split
  ·simp only [List.length_cons]; omega
  ·simp only [List.length_cons]; omega
theorem gat_app (b:Bool):∀ (p:List Bool) (l:List Int),gat l (p ++ [b]) = gat l p ++ (if b = true then (match l[p.length]? with | some x => [x] | none => []) else [])
 | [],[] => by cases b <;> rfl
 | [],x :: l => by
  show (if b = true then x :: gat l [] else gat l []) = _
  rw [gat_nil]
  cases b <;> rfl
 | c :: p,[] => by cases b <;> rfl
 | c :: p,x :: l => by
  have:=gat_app b p l
  show (if c = true then x :: gat l (p ++ [b]) else gat l (p ++ [b])) = (if c = true then x :: gat l p else gat l p) ++ _
  rw [this]
  cases c <;> rfl
abbrev wd (b:Bool):Int:=if b = true then 1 else 0
abbrev wds (o:List Bool):List Int:=o.map wd
open Xe in
theorem gate_all (l:List Int) (w:List Int):∀ (a:List Int) (o:List Bool) (k:Nat) (p:Int) (q:List Int),l.drop k = a → w.drop k = wds o → k ≤ l.length → k ≤ w.length →
  ∃ e:Cf,Goes mGate (10 * a.length + 5) (cf 0 [p] 0 q [⟨l,k,[]⟩,⟨w,k,[]⟩]) e ∧ e.out = q ++ gat a o ∧ ∀ log,(stat lsX mGate (e.tk log) e.x).1 = 3
 | [],o,k,p,q,ha,hw,hk,hkw => by
  obtain rfl:=drop_end ha hk
  have h1:Goes mGate 2 (cf 0 [p] 0 q [⟨l,l.length,[]⟩,⟨w,l.length,[]⟩]) (cf 0 [p] 2 q [⟨l,l.length,[]⟩,⟨w,l.length,[]⟩]):=.run 2 fun _ _ => by kernel_rfl
  exact ⟨_,h1.mono (by omega),by simp [gat],fun _ => stat_none rfl rfl rfl⟩
 | v :: a,o,k,p,q,ha,hw,hk,hkw => by
  obtain ⟨hv,hlt,hd⟩:=drop_get ha
  have h1:Goes mGate 2 (cf 0 [p] 0 q [⟨l,k,[]⟩,⟨w,k,[]⟩]) (cf 0 [p] 2 q [⟨l,k,[]⟩,⟨w,k,[]⟩]):=.run 2 fun _ _ => by kernel_rfl
  have h2:Goes mGate 1 (cf 0 [p] 2 q [⟨l,k,[]⟩,⟨w,k,[]⟩]) (cf 0 [p,v] 3 q [⟨l,k + 1,[]⟩,⟨w,k,[]⟩]):=.recv (fun v => cf 0 [p,v] 3 q [⟨l,k + 1,[]⟩,⟨w,k,[]⟩]) hv (fun _ => stat_more rfl rfl rfl hlt) (q:=0) (fun _ => by kernel_rfl)
  have h3:Goes mGate 1 (cf 0 [p,v] 3 q [⟨l,k + 1,[]⟩,⟨w,k,[]⟩]) (cf 0 [v] 4 q [⟨l,k + 1,[]⟩,⟨w,k,[]⟩]):=.run 1 fun _ _ => by kernel_rfl
  cases o with
  | nil =>
   obtain rfl:=drop_end hw hkw
   exact ⟨_,((h1.trans h2).trans h3).mono (by omega),by simp [gat],fun _ => stat_none1 rfl rfl rfl⟩
  | cons b o =>
   obtain ⟨hb,hlt2,hd2⟩:=drop_get (r:=wds o) hw
   have h4:Goes mGate 1 (cf 0 [v] 4 q [⟨l,k + 1,[]⟩,⟨w,k,[]⟩]) (cf 0 [v,wd b] 5 q [⟨l,k + 1,[]⟩,⟨w,k + 1,[]⟩]):=.recv (fun u => cf 0 [v,u] 5 q [⟨l,k + 1,[]⟩,⟨w,k + 1,[]⟩]) hb (fun _ => stat_more1 rfl rfl rfl hlt2) (q:=1) (fun _ => by kernel_rfl)
   have h5:=((h1.trans h2).trans h3).trans h4
   cases b with
   | true =>
    have h6:Goes mGate 5 (cf 0 [v,wd true] 5 q [⟨l,k + 1,[]⟩,⟨w,k + 1,[]⟩]) (cf 0 [v] 0 (q ++ [v]) [⟨l,k + 1,[]⟩,⟨w,k + 1,[]⟩]):=.run' 5 [⟨1,0,v⟩] fun _ _ => by kernel_rfl
    obtain ⟨e,h7,h8,h9⟩:=gate_all l w a o (k + 1) v (q ++ [v]) hd hd2 hlt hlt2
    exact ⟨e,((h5.trans h6).trans h7).mono (by simp only [List.length_cons]; omega),by rw [h8]; simp [gat],h9⟩
   | false =>
    have h6:Goes mGate 2 (cf 0 [v,wd false] 5 q [⟨l,k + 1,[]⟩,⟨w,k + 1,[]⟩]) (cf 0 [v] 0 q [⟨l,k + 1,[]⟩,⟨w,k + 1,[]⟩]):=.run 2 fun _ _ => by kernel_rfl
    obtain ⟨e,h7,h8,h9⟩:=gate_all l w a o (k + 1) v q hd hd2 hlt hlt2
    exact ⟨e,((h5.trans h6).trans h7).mono (by simp only [List.length_cons]; omega),by rw [h8]; simp [gat],h9⟩
theorem wds_all:∀ o:List Bool,(wds o).all truthB = true
 | [] => rfl
 | b :: o => by
  show (truthB (wd b) && (wds o).all truthB) = true
  rw [wds_all o]
  cases b <;> rfl
set_option maxRecDepth 1000000 in
theorem gate_fits (l:List Int) (o:List Bool):soloE Xe.mGate 0 5000 [l,wds o] = 0:=by
 have e:soloE Xe.mGate 0 5000 [l,wds o] = feedsE Xe.mGate.boxes [l,wds o]:=by kernel_rfl
 have h:wrongF Xe.mGate.boxes [l,wds o] = false:=by
  show (((1:Int) == 2 && !l.all truthB) || (((2:Int) == 2 && !(wds o).all truthB) || false)) = false
  rw [wds_all]
  rfl
 rw [e]
 unfold feedsE
 rw [if_pos (show [l,wds o].length = Xe.mGate.boxes.length from rfl),if_neg (by rw [h]; decide)]
theorem gate_asked:Asked Xe.nGate Xe.mGate:=⟨Xe.ans_gate,by decide⟩
theorem gate_first (l w:List Int):soloR Xe.mGate 0 5000 [l,w] = go lsX Xe.mGate 5000 ((cf 0 [0] 0 [] [⟨l,0,[]⟩,⟨w,0,[]⟩]).tk []) [⟨l,0,[]⟩,⟨w,0,[]⟩]:=by kernel_rfl
theorem gate_says (l:List Int) (o:List Bool) (h:l.length ≤ 100):(soloR Xe.mGate 0 5000 [l,wds o]).2.1.out = gat l o ∧ (stat lsX Xe.mGate (soloR Xe.mGate 0 5000 [l,wds o]).2.1 (soloR Xe.mGate 0 5000 [l,wds o]).2.2).1 = 3:=by
 obtain ⟨e,hg,ho,hs⟩:=gate_all l (wds o) l o 0 0 [] rfl rfl (Nat.zero_le _) (by simp)
 exact hg.says hs (by omega) (gate_first l (wds o)) (ho.trans (by simp))
end Go.Proofs.YtnkphifgncidaabGreatDoor.Vw

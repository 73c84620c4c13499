/- The walks of what Order calls: tasks; the next one. -/
import Derived.Test.YtbioaoangfiijaaGreatDoorM32
import Derived.OwnWalk
set_option maxRecDepth 100000
set_option maxHeartbeats 1000000
namespace Go.Proofs.YtbioaoangfiijaaGreatDoor
open Go.RowKit
namespace Gr
def DsAt (w:World) (ks:List (Int × ByteArray)) (a:Option Addr):Prop:=∀ (j:Nat) (d:Int × ByteArray),ks[j]? = some d → d.2.size ≤ 281474976710656 ∧ ∃ (b off:Nat) (k2 k4 k6:Int) (s3 s5:ByteArray) (a7 a8:Option Addr) (n7 c7 n8 c8:Nat),a = some ⟨b,off,none⟩ ∧ b < w.heap.size ∧
 w.cell? ⟨b,off + j * 9,none⟩ = some (.int .i64 d.1) ∧ w.cell? ⟨b,off + j * 9 + 1,none⟩ = some (.string d.2) ∧ w.cell? ⟨b,off + j * 9 + 2,none⟩ = some (.int .i64 k2) ∧ w.cell? ⟨b,off + j * 9 + 3,none⟩ = some (.string s3) ∧
 w.cell? ⟨b,off + j * 9 + 4,none⟩ = some (.int .i64 k4) ∧ w.cell? ⟨b,off + j * 9 + 5,none⟩ = some (.string s5) ∧ w.cell? ⟨b,off + j * 9 + 6,none⟩ = some (.int .i64 k6) ∧ w.cell? ⟨b,off + j * 9 + 7,none⟩ = some (.slice a7 n7 c7) ∧ w.cell? ⟨b,off + j * 9 + 8,none⟩ = some (.slice a8 n8 c8)
theorem DsAt.same {w w':World} {ks:List (Int × ByteArray)} {a:Option Addr} (h:DsAt w ks a) (hs:w.heap.size ≤ w'.heap.size) (hk:∀ (b:Nat),b < w.heap.size → w'.heap[b]? = w.heap[b]? ∨ ∀ (o:Nat) (d:ByteArray),w.cell? ⟨b,o,none⟩ ≠ some (.string d)):DsAt w' ks a:=by
 intro j d hd
 obtain ⟨h0,b,off,k2,k4,k6,s3,s5,a7,a8,n7,c7,n8,c8,ha,hb,h⟩:=h j d hd
 have e:w'.heap[b]? = w.heap[b]?:=by
  rcases hk b hb with e | e
  ·exact e
  ·exact absurd h.2.1 (e _ _)
 refine ⟨h0,b,off,k2,k4,k6,s3,s5,a7,a8,n7,c7,n8,c8,ha,by omega,?_⟩
 have k:∀ o,w'.cell? ⟨b,o,none⟩ = w.cell? ⟨b,o,none⟩:=fun o => World.cell?_of_block e
 rw [k,k,k,k,k,k,k,k,k]
 exact h
theorem DsAt.grow {w w':World} {ks:List (Int × ByteArray)} {a:Option Addr} (h:DsAt w ks a) (hg:w.grownBy w' none):DsAt w' ks a:=h.same hg.size fun b hb => .inl (hg.block b hb (by simp))
def EsAt (S:Nat → Prop) (w:World) (es:List Ed) (a:Option Addr):Prop:=∀ (j:Nat) (e:Ed),es[j]? = some e → ∃ (b off:Nat),a = some ⟨b,off,none⟩ ∧ S b ∧
 w.cell? ⟨b,off + j * 3,none⟩ = some (.string e.1) ∧ w.cell? ⟨b,off + j * 3 + 1,none⟩ = some (.string e.2.1) ∧ w.cell? ⟨b,off + j * 3 + 2,none⟩ = some (.string e.2.2)
theorem EsAt.keep {S S':Nat → Prop} {w w':World} {es:List Ed} {a:Option Addr} (h:EsAt S w es a) (hk:∀ b,S b → (∃ (o:Nat) (d:ByteArray),w.cell? ⟨b,o,none⟩ = some (.string d)) → w'.heap[b]? = w.heap[b]? ∧ S' b):EsAt S' w' es a:=by
 intro j d hd
 obtain ⟨b,off,ha,hb,h⟩:=h j d hd
 obtain ⟨e,hs⟩:=hk b hb ⟨_,_,h.1⟩
 refine ⟨b,off,ha,hs,?_⟩
 have k:∀ o,w'.cell? ⟨b,o,none⟩ = w.cell? ⟨b,o,none⟩:=fun o => World.cell?_of_block e
 rw [k,k,k]
 exact h
theorem clone_any (s:ByteArray) (w:World) (hlim:s.size ≤ 281474976710656) :
  Calls Tryz.prog 20 #[.string s] w fun e w' => e = .returned (.string s) ∧ w.grownBy w' none:=by
 go_enter Tryz.func20,Tryz.ntmps20
 go_wp2_with (go_at_call 35; refine (Tryz.stringslite_Clone _ _ hlim).mono ?_; rintro e w1 ⟨rfl,hb⟩)
 go_ret
 exact ⟨rfl,gbelow hb⟩
theorem Tryz.grInfo:(Tryz.prog.info? 9).map (fun i => (i.zero,i.size,i.bytes)) = some (some (.string ⟨#[]⟩),1,16):=by kernel_rfl
theorem parts {P:Program} {e:TypeId} {z:Value} {s b:Nat} (h:(P.info? e).map (fun i => (i.zero,i.size,i.bytes)) = some (some z,s,b)):∃ i,P.info? e = some i ∧ i.zero = some z ∧ i.size = s ∧ i.bytes = b:=by
 cases hi:P.info? e with
 | none => rw [hi] at h; cases h
 | some i =>
  rw [hi] at h
  simp only [Option.map_some,Option.some.injEq,Prod.mk.injEq] at h
  exact ⟨i,rfl,h.1,h.2.1,h.2.2⟩
theorem append_name {w:World} {ops:Array Oper} {rest:List Oper} {o:Oper} {a:Act} {Q:Exit → Act → World → Prop} (hgd:o.guard = none) (s x:Operand)
  (ho:o.op = .call { callee:=.builtin .append,args:=#[s,x],argTypes:=#[24,24] }) (base:Nat) (v:Value) (l:List ByteArray) (hs:a.eval s = v) (hown:w.ownsRow base 9 1 v l.length (strs l)) (g:Nat) (y:ByteArray) (hx:a.eval x = .slice (some ⟨g,0,none⟩) 1 1) (hy:w.cell? ⟨g,0,none⟩ = some (.string y)) (hn:l.length ≤ 1000000) (hbase:base ≤ w.heap.size)
  (h:∀ v' w',w'.ownsRow base 9 1 v' (l ++ [y]).length (strs (l ++ [y])) → w.grownBy w' v.ownBlock → wpList Tryz.prog ops Q rest (a.put o.dst v') w'):wpList Tryz.prog ops Q (o :: rest) a w:=by
 refine wpList_plain hgd fun K hK => ?_
 obtain ⟨i,hi,hz0,hz1,hz2⟩:=parts Tryz.grInfo
 have hnews:∀ j u,[Value.string y][j]? = some u → w.cell? ((⟨g,0,none⟩:Addr).add j) = some u:=fun j u hu => by
  match j,hu with
  | 0,hu => simp at hu; subst hu; simpa [Addr.add] using hy
  | j + 1,hu => simp at hu
 obtain ⟨v',w',hr,h2,h3,_⟩:=run_append_own (P:=Tryz.prog) w base 24 o.type 9 i _ 1 16 Tryz.underlying24 hi hz0 hz1 hz2 rfl (by decide) v l.length (strs l) hown ⟨g,0,none⟩ 1 1 [.string y] rfl hnews (by intro u hu; simp at hu; subst hu; rfl) (by unfold maxLen; omega) (by omega) hbase
 unfold Oper.wp
 simp [execOp,ho,resolve,invoke,builtin,hs,hx,hr,Result.andThen]
 exact hK _ _ (h v' w' (by simpa using h2) h3)
theorem own_slice {w:World} {B e size n:Nat} {v:Value} {xs:List Value} (h:w.ownsRow B e size v n xs):∃ a c,v = .slice a n c:=by
 rcases h.2 with ⟨rfl,h0⟩ | ⟨g,cp,cur,rfl,_⟩
 ·exact ⟨_,_,by rw [h0]⟩
 ·exact ⟨_,_,rfl⟩
theorem own_at {w:World} {B e n:Nat} {a:Option Addr} {c:Nat} {l:List ByteArray} (h:w.ownsRow B e 1 (.slice a n c) n (strs l)) {i:Nat} (hi:i < n):∃ g,a = some ⟨g,0,none⟩ ∧ w.cell? ⟨g,i,none⟩ = some (.string (nm l i)):=by
 obtain ⟨g,cap,cur,e1,_,_,_,_,_,_,_,hc⟩:=own_open h (by omega)
 cases e1
 exact ⟨g,rfl,(hc i hi).1⟩
theorem own_grow {w w':World} {B e size n:Nat} {v:Value} {xs:List Value} (h:w.ownsRow B e size v n xs) (hg:w.grownBy w' none):w'.ownsRow B e size v n xs :=
 h.kept hg (by cases hv:v.ownBlock <;> simp)
theorem grow_row {a w w':World} {B e size n:Nat} {v:Value} {xs:List Value} (hg:a.grownBy w none) (h:w.ownsRow B e size v n xs) (hB:a.heap.size ≤ B) (hg2:w.grownBy w' v.ownBlock):a.grownBy w' none:=by
 cases hv:v.ownBlock with
 | none => rw [hv] at hg2; exact gtr hg hg2
 | some g => rw [hv] at hg2; exact gown hg hg2 (Nat.le_trans hB (h.lt g hv).1)
abbrev dO (d:Int × ByteArray) (k2 k4 k6:Int) (s3 s5:ByteArray) (a7 a8:Option Addr) (n7 c7 n8 c8:Nat):Obj:=.cells #[.int .i64 d.1,.string d.2,.int .i64 k2,.string s3,.int .i64 k4,.string s5,.int .i64 k6,.slice a7 n7 c7,.slice a8 n8 c8] 39
theorem tasks_any (ks:List (Int × ByteArray)) (a:Option Addr) (c:Nat) (w:World) (hD:Hd (DsAt w ks a)) (hl:ks.length ≤ 1000000) :
  Calls Tryz.prog 8 #[.slice a ks.length c] w fun e w' => ∃ v,e = .returned v ∧ w.grownBy w' none ∧ w'.ownsRow w.heap.size 9 1 v (tasks ks).length (strs (tasks ks)):=by
 obtain ⟨L,hL⟩:∃ L,L = ks.length:=⟨_,rfl⟩
 have HL:Hd (L = ks.length):=hL
 rw [← hL] at hl ⊢
 clear hL
 go_enter Tryz.func8,Tryz.ntmps8
 go_wp2
 go_loopw [3,8] (fun s q wr => ∃ (j:Nat) (va:Option Addr) (vn vc:Nat),s = .slice va vn vc ∧ q = .int .i64 j ∧ j ≤ L ∧ Hd (w.grownBy wr none) ∧ Hd (wr.ownsRow w.heap.size 9 1 (.slice va vn vc) (tasks (ks.take j)).length (strs (tasks (ks.take j))))) (fun _ q _ => L - (intOf q).toNat)
 case atStart => exact ⟨0,none,0,0,rfl,rfl,Nat.zero_le _,grefl w _,World.ownsRow_nil _ _ _ _⟩
 case round =>
  obtain ⟨j,va,vn,vc,rfl,rfl,hj,HG,HO⟩:=hrel
  by_cases hlt:j < L
  ·have hj1:j < ks.length:=by rw [← HL.out]; exact hlt
   obtain ⟨d,hd'⟩:∃ d,ks[j]? = some d:=⟨_,List.getElem?_eq_getElem hj1⟩
   obtain ⟨h0,b,off,k2,k4,k6,s3,s5,a7,a8,n7,c7,n8,c8,ha,hb,k0,k1,k2',k3,k4',k5,k6',k7,k8⟩:=(hD.out.grow HG.out) j d hd'
   have hjp:(j:Int) < (L:Int):=by omega
   have HJ:Hd (j + 1 ≤ L):=hlt
   have HT:Hd (tasks (ks.take (j + 1)) = if d.1 = 4 then tasks (ks.take j) ++ [d.2] else tasks (ks.take j)):=tasks_more ks j d hd'
   have HG1:Hd (w.grownBy (wr.alloc (dO d k2 k4 k6 s3 s5 a7 a8 n7 c7 n8 c8)) none):=gtr HG.out (galloc _ _)
   have HO1:Hd ((wr.alloc (dO d k2 k4 k6 s3 s5 a7 a8 n7 c7 n8 c8)).ownsRow w.heap.size 9 1 (.slice va vn vc) (tasks (ks.take j)).length (strs (tasks (ks.take j)))):=HO.out.alloc _
   have HTl:Hd ((tasks (ks.take j)).length ≤ 1000000):=by
    have h1:=tasks_le (ks.take j)
    have h2:(ks.take j).length ≤ ks.length:=by simp; omega
    have:=HL.out
    unfold Hd
    omega
   subst ha
   clear hd'
   by_cases h4:d.1 = 4
   ·have e4:(d.1 == 4) = true:=by simp [h4]
    have HT1:Hd (tasks (ks.take (j + 1)) = tasks (ks.take j) ++ [d.2]):=by unfold Hd; rw [HT.out,if_pos h4]
    clear HT h4
    go_wp2_with (first
     | (go_at_call 20; refine (clone_any d.2 _ h0).mono ?_; rintro e w1 ⟨rfl,hg1⟩; have HG2:=hd (gtr HG1.out hg1); have HO2:=hd (own_grow HO1.out hg1); clear hg1)
     | (at_builtin; go_loud (refine append_name rfl _ _ rfl w.heap.size _ (tasks (ks.take j)) rfl (HO2.out.alloc _) _ d.2 rfl (by simp) HTl.out (gtr HG2.out (galloc _ _)).size ?_); intro v3 w3 ho3 hg3; have HG3:=hd (grow_row (gtr HG2.out (galloc _ _)) (HO2.out.alloc _) (Nat.le_refl _) hg3); rw [← HT1.out] at ho3; have HO3:=hd ho3; obtain ⟨va3,vc3,hv3⟩:=own_slice ho3; subst hv3; clear ho3 hg3))
    go_roundw
    case rel => exact ⟨j + 1,va3,_,vc3,rfl,by go_num,HJ.out,HG3,HO3⟩
    case measure => have:=HJ.out; simp [intOf]; omega
   ·have e4:(d.1 == 4) = false:=by simp [h4]
    have HT1:Hd (tasks (ks.take (j + 1)) = tasks (ks.take j)):=by unfold Hd; rw [HT.out,if_neg h4]
    clear HT h4
    go_wp2
    go_roundw
    case rel => exact ⟨j + 1,va,vn,vc,rfl,by go_num,HJ.out,HG1,by rw [HT1.out]; exact HO1⟩
    case measure => have:=HJ.out; simp [intOf]; omega
  ·have hjp:¬ (j:Int) < (L:Int):=by omega
   have HO1:Hd (wr.ownsRow w.heap.size 9 1 (.slice va vn vc) (tasks ks).length (strs (tasks ks))):=by
    have h1:=HO.out
    rw [List.take_of_length_le (by have:=HL.out; omega)] at h1
    exact h1
   go_wp2
   go_ret
   exact ⟨_,rfl,HG.out,HO1.out⟩
theorem zero_any (s:ByteArray) (C M:Nat) (L:Lk) (w:World) (hC:w.cell? ⟨C,0,none⟩ = some (.map (some M))) (hM:Hd (MapI w M L)) :
  Calls Tryz.prog 11 #[.string s,.pointer (some ⟨C,0,none⟩)] w fun e w' => e = .returned (.bool (decide (L s = 0))) ∧ w' = w:=by
 have hz:(zeroValue 3).run Tryz.prog w = .ok (.int .i64 0) w:=by kernel_rfl
 have hl:=MapI.look Tryz.underlying33 Tryz.underlying9 hM.out s hz
 go_enter Tryz.func11,Tryz.ntmps11
 go_wp2
 go_ret
 exact ⟨by congr 2,rfl⟩
def pos (o:Option Nat):Int:=match o with | some i => i | none => -1
theorem next_at {L:Lk} {r:List ByteArray} {j:Nat} (h:next L (r.take j) = none) (hj:j < r.length):next L (r.take (j + 1)) = if L (nm r j) = 0 then some j else none:=by
 unfold next at h ⊢
 have hr:r[j]? = some (nm r j):=by simp [nm,List.getElem?_eq_getElem hj]
 rw [List.take_add_one,hr,Option.toList_some,List.findIdx?_append,h,List.findIdx?_singleton]
 by_cases h0:L (nm r j) = 0
 ·simp [h0]; omega
 ·simp [h0]
theorem next_more {L:Lk} {r:List ByteArray} {j i:Nat} (h:next L (r.take j) = some i):next L r = some i:=by
 unfold next at h ⊢
 have h1:r = r.take j ++ r.drop j:=(List.take_append_drop j r).symm
 rw [h1,List.findIdx?_append,h]
 rfl
theorem index_any (B:Nat) (l:List ByteArray) (a:Option Addr) (c C M:Nat) (L:Lk) (w:World) (hO:Hd (w.ownsRow B 9 1 (.slice a l.length c) l.length (strs l))) (hC:w.cell? ⟨C,0,none⟩ = some (.map (some M))) (hM:Hd (MapI w M L)) (hl:l.length ≤ 1000000) :
  Calls Tryz.prog 10 #[.slice a l.length c,.func (.func 11) #[] #[.pointer (some ⟨C,0,none⟩)]] w fun e w' => e = .returned (.int .i64 (pos (next L l))) ∧ w' = w:=by
 obtain ⟨n,hn⟩:∃ n,n = l.length:=⟨_,rfl⟩
 have HN:Hd (n = l.length):=hn
 rw [← hn] at hl hO ⊢
 clear hn
 go_enter Tryz.func10,Tryz.ntmps10
 go_wp2
 go_loopw [8] (fun q wr => ∃ j:Nat,q = .int .i64 j ∧ j ≤ n ∧ wr = w ∧ Hd (next L (l.take j) = none)) (fun q _ => n - (intOf q).toNat)
 case atStart => exact ⟨0,rfl,Nat.zero_le _,rfl,next_nil L⟩
 case round =>
  obtain ⟨j,rfl,hj,rfl,HX⟩:=hrel
  by_cases hlt:j < n
  ·have hj1:j < l.length:=by rw [← HN.out]; exact hlt
   obtain ⟨g,rfl,hcell⟩:=own_at hO.out hlt
   have hjp:(j:Int) < (n:Int):=by omega
   have HJ:Hd (j + 1 ≤ n):=hlt
   have HX1:Hd (next L (l.take (j + 1)) = if L (nm l j) = 0 then some j else none):=next_at HX.out hj1
   go_wp2_with fail
   refine (zero_any (nm l j) C M L _ hC hM).mono ?_
   rintro e w1 ⟨rfl,rfl⟩
   by_cases h0:L (nm l j) = 0
   ·have HX2:Hd (next L l = some j):=next_more (j:=j + 1) (by rw [HX1.out,if_pos h0])
    have e0:decide (L (nm l j) = 0) = true:=by simp [h0]
    rw [e0]
    clear h0 e0 HX1
    go_wp2
    go_ret
    exact ⟨by rw [HX2.out]; rfl,rfl⟩
   ·have HX2:Hd (next L (l.take (j + 1)) = none):=by unfold Hd; rw [HX1.out,if_neg h0]
    have e0:decide (L (nm l j) = 0) = false:=by simp [h0]
    rw [e0]
    clear h0 e0 HX1
    go_wp2
    go_roundw
    case rel => exact ⟨j + 1,by go_num,HJ.out,trivial,HX2⟩
    case measure => have:=HJ.out; simp [intOf]; omega
  ·have HX2:Hd (next L l = none):=by
    have h1:=HX.out
    rw [List.take_of_length_le (by have:=HN.out; omega)] at h1
    exact h1
   have hjp:¬ (j:Int) < (n:Int):=by omega
   go_wp2
   go_ret
   exact ⟨by rw [HX2.out]; rfl,rfl⟩
theorem next_any (B:Nat) (l:List ByteArray) (v:Value) (Bx C M:Nat) (L:Lk) (w:World) (hO:Hd (w.ownsRow B 9 1 v l.length (strs l))) (hX:w.cell? ⟨Bx,0,none⟩ = some v) (hC:w.cell? ⟨C,0,none⟩ = some (.map (some M))) (hM:Hd (MapI w M L)) (hl:l.length ≤ 1000000) :
  Calls Tryz.prog 9 #[.pointer (some ⟨Bx,0,none⟩),.pointer (some ⟨C,0,none⟩)] w fun e w' => e = .returned (.int .i64 (pos (next L l))) ∧ w' = w:=by
 obtain ⟨a,c,rfl⟩:=own_slice hO.out
 have hmf:∀ (fn:Fn) (first cap:Array Value) (w:World),(Instr.makeFunc fn first cap).run Tryz.prog w = .ok (.func fn first cap) w:=fun _ _ _ _ => rfl
 go_enter Tryz.func9,Tryz.ntmps9
 go_wp2_with fail
 refine (index_any B l a c C M L _ hO hC hM hl).mono ?_
 rintro e w1 ⟨rfl,rfl⟩
 go_wp2
 go_ret
 exact ⟨rfl,rfl⟩
end Gr
namespace Gr
structure Kx where
 W:World
 LB:Nat
 M:Nat
 C:Nat
 BL:Nat
 BO:Nat
structure Kx.Ok (K:Kx):Prop where
 lb:K.LB < K.W.heap.size
 m:K.W.heap.size ≤ K.M
 c:K.M < K.C
 bl:K.C < K.BL
 bo:K.BL ≤ K.BO
abbrev strO (v:Value):Obj:=.cells #[v] 24 (0,0)
abbrev mapO (M:Nat):Obj:=.cells #[.map (some M)] 33 (0,0)
structure Kp (K:Kx) (w:World):Prop where
 os:w.os = K.W.os
 tape:w.tape = K.W.tape
 output:w.output = K.W.output
 size:K.W.heap.size ≤ w.heap.size
 block:∀ k,k < K.W.heap.size → k ≠ K.LB → w.heap[k]? = K.W.heap[k]?
theorem Kp.grow {K:Kx} {a b:World} {r:Option Nat} (h:Kp K a) (hg:a.grownBy b r) (hr:∀ k,r = some k → k = K.LB ∨ K.W.heap.size ≤ k):Kp K b :=
 ⟨hg.os.trans h.os,hg.tape.trans h.tape,hg.output.trans h.output,Nat.le_trans h.size hg.size,fun k hk hn => (hg.block k (Nat.lt_of_lt_of_le hk h.size) (fun e => by rcases hr k e.symm with e | e <;> omega)).trans (h.block k hk hn)⟩
structure St (K:Kx) (L:Lk) (o r:List ByteArray) (vo vl:Value) (w:World):Prop where
 kp:Kp K w
 mp:MapI w K.M L
 box:w.heap[K.LB]? = some (strO vl)
 cb:w.heap[K.C]? = some (mapO K.M)
 left:w.ownsRow K.BL 9 1 vl r.length (strs r)
 order:w.ownsRow K.BO 9 1 vo o.length (strs o)
 low:∀ k,vl.ownBlock = some k → k < K.BO
 big:K.BO ≤ w.heap.size
variable {K:Kx} {L:Lk} {o r:List ByteArray} {vo vl:Value} {w:World}
theorem St.grow {w':World} (h:St K L o r vo vl w) (hg:w.grownBy w' none):St K L o r vo vl w' :=
 ⟨h.kp.grow hg (by intro k e; cases e),h.mp.grow hg (by simp),(hg.block _ (low_of h.box) (by simp)).trans h.box,(hg.block _ (low_of h.cb) (by simp)).trans h.cb,own_grow h.left hg,own_grow h.order hg,h.low,Nat.le_trans h.big hg.size⟩
theorem own_ne {B e size n g:Nat} {v:Value} {xs:List Value} (h:w.ownsRow B e size v n xs) (hg:g < B):v.ownBlock = none ∨ v.ownBlock ≠ some g:=by
 cases hv:v.ownBlock with
 | none => exact .inl rfl
 | some k => exact .inr (by have:=(h.lt k hv).1; simp; omega)
theorem St.mapd {w':World} {L':Lk} (h:St K L o r vo vl w) (hk:K.Ok) (hm:MapI w' K.M L') (hg:w.grownBy w' (some K.M)):St K L' o r vo vl w':=by
 obtain ⟨k1,k2,k3,k4,k5⟩:=hk
 exact ⟨h.kp.grow hg (by intro k e; cases e; exact .inr k2),hm,(hg.block _ (low_of h.box) (by simp; omega)).trans h.box,(hg.block _ (low_of h.cb) (by simp; omega)).trans h.cb,h.left.kept hg (own_ne h.left (by omega)),h.order.kept hg (own_ne h.order (by omega)),h.low,Nat.le_trans h.big hg.size⟩
theorem St.appd {w':World} {o':List ByteArray} {vo':Value} (h:St K L o r vo vl w) (hk:K.Ok) (ho:w'.ownsRow K.BO 9 1 vo' o'.length (strs o')) (hg:w.grownBy w' vo.ownBlock):St K L o' r vo' vl w':=by
 obtain ⟨k1,k2,k3,k4,k5⟩:=hk
 have hne:∀ k,k < K.BO → some k ≠ vo.ownBlock:=fun k hk e => by have:=(h.order.lt k e.symm).1; omega
 refine ⟨h.kp.grow hg (fun k e => .inr (by have:=(h.order.lt k e).1; omega)),h.mp.grow hg (hne _ (by omega)),(hg.block _ (low_of h.box) (hne _ (by omega))).trans h.box,(hg.block _ (low_of h.cb) (hne _ (by omega))).trans h.cb,h.left.kept hg ?_,ho,h.low,Nat.le_trans h.big hg.size⟩
 cases hv:vl.ownBlock with
 | none => exact .inl rfl
 | some k => exact .inr (hne k (h.low k hv))
theorem heap_set1 {b:Nat} {u:Value} {t:TypeId} (h:w.heap[b]? = some (.cells #[u] t (0,0))) (v:Value):(w.setCell ⟨b,0,none⟩ v).heap[b]? = some (.cells #[v] t (0,0)):=by
 simp only [World.setCell,Array.getElem?_modify,if_true,h,Option.map_some]
 rfl
theorem St.deld {w':World} {r':List ByteArray} {vl':Value} (h:St K L o r vo vl w) (hk:K.Ok) (hl:w'.ownsRow K.BL 9 1 vl' r'.length (strs r')) (hv:vl'.ownBlock = vl.ownBlock) (hg:w.grownBy w' vl.ownBlock):St K L o r' vo vl' (w'.setCell ⟨K.LB,0,none⟩ vl'):=by
 obtain ⟨k1,k2,k3,k4,k5⟩:=hk
 have hne:∀ k,k < K.BL → some k ≠ vl.ownBlock:=fun k hk e => by have:=(h.left.lt k e.symm).1; omega
 have hs:=gset w' K.LB 0 vl'
 have kp1:=h.kp.grow hg (fun k e => .inr (by have:=(h.left.lt k e).1; omega))
 refine ⟨kp1.grow hs (by intro k e; cases e; exact .inl rfl),(h.mp.grow hg (hne _ (by omega))).grow hs (by simp; omega),heap_set1 ((hg.block _ (low_of h.box) (hne _ (by omega))).trans h.box) vl',?_,hl.kept hs (own_ne hl (by omega)),(h.order.kept hg ?_).kept hs (own_ne h.order (by omega)),by rw [hv]; exact h.low,Nat.le_trans h.big (Nat.le_trans hg.size hs.size)⟩
 ·have hc:=(hg.block _ (low_of h.cb) (hne _ (by omega))).trans h.cb
  exact (hs.block _ (low_of hc) (by simp; omega)).trans hc
 ·cases hv2:vo.ownBlock with
  | none => exact .inl rfl
  | some k => exact .inr (fun e => by have:=h.low k e.symm; have:=(h.order.lt k hv2).1; omega)
theorem St.drew (h:St K L o r vo vl w):St K L o r vo vl w.drew :=
 ⟨⟨h.kp.os,h.kp.tape,h.kp.output,h.kp.size,h.kp.block⟩,h.mp.keep rfl,h.box,h.cb,h.left,h.order,h.low,h.big⟩
theorem St.at {A C M:Nat} (h:St K L o r vo vl w) (hk:K.LB = A ∧ K.C = C ∧ K.M = M):w.cell? ⟨A,0,none⟩ = some vl ∧ w.frozen? ⟨A,0,none⟩ = false ∧ w.cell? ⟨C,0,none⟩ = some (.map (some M)):=by
 obtain ⟨rfl,rfl,rfl⟩:=hk
 have h1:=h.box
 have h2:=h.cb
 refine ⟨?_,?_,?_⟩ <;> simp [World.cell?,World.frozen?,h1,h2]
theorem St.map {A C M:Nat} (h:St K L o r vo vl w) (hk:K.LB = A ∧ K.C = C ∧ K.M = M):Hd (MapI w M L):=by rw [← hk.2.2]; exact h.mp
def slen:Value → Nat
 | .slice _ n _ => n
 | _ => 0
abbrev kx (W2:World) (LB BL BO:Nat):Kx:=⟨W2,LB,W2.heap.size,W2.heap.size + 1,BL,BO⟩
theorem St.begin {W2 wr w5:World} {LB:Nat} {u v:Value} {L:Lk} {ts:List ByteArray} (hM:MapI wr W2.heap.size L) (hA:W2.heap[LB]? = some (strO u)) (hC:wr.heap[W2.heap.size + 1]? = some (mapO W2.heap.size)) (hg:W2.grownBy wr none) (hg5:wr.grownBy w5 none) (ho:w5.ownsRow wr.heap.size 9 1 v ts.length (strs ts)) :
  (kx W2 LB wr.heap.size w5.heap.size).Ok ∧ St (kx W2 LB wr.heap.size w5.heap.size) L [] ts (.slice none 0 0) v (w5.setCell ⟨LB,0,none⟩ v):=by
 have hl:=low_of hA
 have hc:=low_of hC
 have hg2:=gtr hg hg5
 have hs:=gset w5 LB 0 v
 refine ⟨⟨hl,Nat.le_refl _,Nat.lt_succ_self _,hc,hg5.size⟩,⟨?_,(hM.grow hg5 (by simp)).grow hs (by simp; omega),heap_set1 ((hg2.block _ hl (by simp)).trans hA) v,?_,ho.kept hs (own_ne ho (by omega)),World.ownsRow_nil _ _ _ _,fun k hk => (ho.lt k hk).2,hs.size⟩⟩
 ·exact Kp.grow (K:=kx W2 LB wr.heap.size w5.heap.size) ⟨hg2.os,hg2.tape,hg2.output,hg2.size,fun k hk _ => hg2.block k hk (by simp)⟩ hs (by intro k e; cases e; exact .inl rfl)
 ·exact (hs.block _ (Nat.lt_of_lt_of_le hc hg5.size) (by simp; omega)).trans ((hg5.block _ hc (by simp)).trans hC)
end Gr
end Go.Proofs.YtbioaoangfiijaaGreatDoor

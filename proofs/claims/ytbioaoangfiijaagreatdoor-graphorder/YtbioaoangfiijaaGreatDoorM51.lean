/- The walk of alive: a closed text; our machine reckons what Read and Edges answer; Order is walked. -/
import Derived.Test.YtbioaoangfiijaaGreatDoorM50
import Derived.Test.YtbioaoangfiijaaGreatDoorM34
import Derived.Test.YtbioaoangfiijaaGreatDoorM35
import Derived.Deep.QuietTactic
import Derived.BigQuiet
import Derived.Deep.Cut
set_option maxRecDepth 100000
set_option maxHeartbeats 4000000
namespace Go.Proofs.YtbioaoangfiijaaGreatDoor
open Go.RowKit
namespace Xe
noncomputable section
def isI:Value → Bool
 | .int .i64 _ => true
 | _ => false
def isS:Value → Bool
 | .string _ => true
 | _ => false
def isL:Value → Bool
 | .slice _ _ _ => true
 | _ => false
def areDefs:List (Int × List UInt8) → List Value → Bool
 | [],[] => true
 | d :: ks,k :: s :: v2 :: v3 :: v4 :: v5 :: v6 :: v7 :: v8 :: r => eq1 k (iv d.1) && (eq1 s (sv d.2) && (isI v2 && (isS v3 && (isI v4 && (isS v5 && (isI v6 && (isL v7 && (isL v8 && areDefs ks r))))))))
 | _,_ => false
def isDefs (s:S) (v:Value) (ks:List (Int × List UInt8)):Bool:=match v with
 | .slice (some a) n' _ => Nat.beq ks.length n' && (match readN s.h a (Nat.mul ks.length 9) with | some r => areDefs ks r | none => false)
 | _ => false
def txtG:ByteArray:=⟨#[98,111,120,32,98,32,110,117,109,32,49,32,59,32,116,97,115,107,32,99,32,123,32,111,117,116,32,114,101,99,118,32,40,32,98,32,41,32,59,32,125,32,116,97,115,107,32,97,32,123,32,115,101,110,100,32,98,32,55,32,59,32,125]⟩
def rowG:List Value:=[sv [98],sv [97],sv [99]]
def defG:List (Int × List UInt8):=[(1,[98]),(4,[99]),(4,[97])]
def chkG:Bool:=told (fn2 7 [.string txtG] s0) fun l s => told (fn2 6 [l] s) fun o s2 => isRow s2 o 1 3 rowG && isDefs s2 l defG
end
set_option maxRecDepth 1000000 in
theorem chkG_ok:chkG = true:=by kernel_rfl
theorem isI_of {v:Value} (h:isI v = true):∃ n,v = .int .i64 n:=by
 unfold isI at h
 split at h
 ·exact ⟨_,rfl⟩
 ·cases h
theorem isS_of {v:Value} (h:isS v = true):∃ s,v = .string s:=by
 unfold isS at h
 split at h
 ·exact ⟨_,rfl⟩
 ·cases h
theorem isL_of {v:Value} (h:isL v = true):∃ a n c,v = .slice a n c:=by
 unfold isL at h
 split at h
 ·exact ⟨_,_,_,rfl⟩
 ·cases h
theorem V1_word {φ:Ph} {s:ByteArray} {u:Value} (h:V1 φ (.string s) u):u = .string s:=by
 rcases h with h | ⟨_,_,_,_,_,h,_⟩
 ·exact h
 ·cases h
theorem V1_row {φ:Ph} {a:Option Addr} {n c:Nat} {u:Value} (h:V1 φ (.slice a n c) u):∃ a' n' c',u = .slice a' n' c':=by
 rcases h with h | ⟨_,_,_,_,_,h,_⟩
 ·cases a with
  | none => exact ⟨_,_,_,h.2⟩
  | some a => obtain ⟨a',c',h,_⟩:=h; exact ⟨_,_,_,h⟩
 ·cases h
def namesOf (ks:List (Int × List UInt8)):List (Int × ByteArray):=ks.map fun d => (d.1,⟨⟨d.2⟩⟩)
theorem areDefs_at:∀ {ks:List (Int × List UInt8)} {l:List Value},areDefs ks l = true → ∀ (j:Nat) d,ks[j]? = some d → ∃ (k2 k4 k6:Int) (s3 s5:ByteArray) (a7 a8:Option Addr) (n7 c7 n8 c8:Nat),
  l[j * 9]? = some (iv d.1) ∧ l[j * 9 + 1]? = some (sv d.2) ∧ l[j * 9 + 2]? = some (.int .i64 k2) ∧ l[j * 9 + 3]? = some (.string s3) ∧ l[j * 9 + 4]? = some (.int .i64 k4) ∧ l[j * 9 + 5]? = some (.string s5) ∧ l[j * 9 + 6]? = some (.int .i64 k6) ∧ l[j * 9 + 7]? = some (.slice a7 n7 c7) ∧ l[j * 9 + 8]? = some (.slice a8 n8 c8)
 | [],_,_,j,d,hd => by simp at hd
 | e :: ks,l,h,j,d,hd => by
  rcases l with _ | ⟨k,_ | ⟨s,_ | ⟨v2,_ | ⟨v3,_ | ⟨v4,_ | ⟨v5,_ | ⟨v6,_ | ⟨v7,_ | ⟨v8,r⟩⟩⟩⟩⟩⟩⟩⟩⟩
  all_goals try (cases h; done)
  have h':(eq1 k (iv e.1) && (eq1 s (sv e.2) && (isI v2 && (isS v3 && (isI v4 && (isS v5 && (isI v6 && (isL v7 && (isL v8 && areDefs ks r))))))))) = true:=h
  simp only [Bool.and_eq_true] at h'
  obtain ⟨g0,g1,g2,g3,g4,g5,g6,g7,g8,h1⟩:=h'
  cases j with
  | zero =>
   simp at hd
   subst hd
   obtain ⟨k2,rfl⟩:=isI_of g2
   obtain ⟨s3,rfl⟩:=isS_of g3
   obtain ⟨k4,rfl⟩:=isI_of g4
   obtain ⟨s5,rfl⟩:=isS_of g5
   obtain ⟨k6,rfl⟩:=isI_of g6
   obtain ⟨a7,n7,c7,rfl⟩:=isL_of g7
   obtain ⟨a8,n8,c8,rfl⟩:=isL_of g8
   exact ⟨k2,k4,k6,s3,s5,a7,a8,n7,c7,n8,c8,by rw [← eq1_eq g0]; rfl,by rw [← eq1_eq g1]; rfl,rfl,rfl,rfl,rfl,rfl,rfl,rfl⟩
  | succ j =>
   obtain ⟨k2,k4,k6,s3,s5,a7,a8,n7,c7,n8,c8,z⟩:=areDefs_at h1 j d (by simpa using hd)
   have sh:∀ q,(k :: s :: v2 :: v3 :: v4 :: v5 :: v6 :: v7 :: v8 :: r)[(j + 1) * 9 + q]? = r[j * 9 + q]?:=fun q => by
    rw [show (j + 1) * 9 + q = j * 9 + q + 9 by omega]
    rfl
   refine ⟨k2,k4,k6,s3,s5,a7,a8,n7,c7,n8,c8,?_⟩
   rw [show (j + 1) * 9 = (j + 1) * 9 + 0 from rfl,sh,Nat.add_assoc,Nat.add_assoc,Nat.add_assoc,Nat.add_assoc,Nat.add_assoc,Nat.add_assoc,Nat.add_assoc,Nat.add_assoc,sh,sh,sh,sh,sh,sh,sh,sh]
   simpa using z
theorem call_sub {cl:Cl} (hcl:CallOk Tryz.prog cl) {f:FuncId} {args:List Value} {v:Value} {s s':S} (hr:cl f args s = some (v,s')) {φ:Ph} {w:World} (hS:Stt φ s w) {B:Nat} (hB:∀ x g,3 ≤ x → φ x = some g → B ≤ g.b) (hw:B ≤ w.heap.size) (args':Array Value) (ha:L (V φ) args args'.toList) :
  Calls Tryz.prog f args' w fun e w' => ∃ φ' v',e = .returned v' ∧ V φ' v v' ∧ Stt φ' s' w' ∧ Below B w w' ∧ Sub φ φ' ∧ ∀ k,k < w.heap.size → (∀ x g,3 ≤ x → φ x = some g → g.b ≠ k) → w'.heap[k]? = w.heap[k]?:=by
 obtain ⟨_,_,hcall⟩:=hcl _ _ _ _ _ hr
 refine (hcall φ w args' ha hS).mono ?_
 rintro e w' ⟨φ',v',rfl,hV,hP⟩
 have keep:∀ k,k < w.heap.size → (∀ x g,3 ≤ x → φ x = some g → g.b ≠ k) → w'.heap[k]? = w.heap[k]?:=fun k hk hn => hP.ext.kept k hk fun x g h3 _ h => hn x g h3 h
 exact ⟨φ',v',rfl,hV,hP.stt,⟨hP.ext.out.1,hP.ext.out.2.1,hP.ext.out.2.2,hP.ext.size,fun k hk => keep k (by omega) fun x g h3 h => by have:=hB x g h3 h; omega⟩,hP.ext.sub,keep⟩
theorem isDefs_row {φ φ':Ph} {s:S} {w:World} {v v':Value} {ks:List (Int × List UInt8)} (h:isDefs s v ks = true) (hV:V φ v v') (hs:Sub φ φ') (hS:Stt φ' s w) (hk:∀ d ∈ ks,d.2.length ≤ 281474976710656) :
  ∃ a c,v' = .slice a ks.length c ∧ Gr.DsAt w (namesOf ks) a:=by
 unfold isDefs at h
 split at h
 ·rename_i a n' z'
  rw [Bool.and_eq_true] at h
  obtain ⟨h1,h2⟩:=h
  obtain rfl:=Nat.eq_of_beq_eq_true h1
  split at h2
  ·rename_i r hr
   obtain ⟨a',c,rfl,hSR⟩:=V_sl hV
   have hsp:=(readN_some.1 hr).1
   rcases hSR with ⟨h0,_⟩ | ⟨_,_,g,hg,rfl,_⟩
   ·exact absurd hsp h0
   obtain ⟨l',hL,_,hc⟩:=read_row hr hS.rel (a':=⟨g.b,a.off,none⟩) ⟨hsp,g,hs _ _ hg,rfl⟩
   have hc':∀ (j:Nat) u,l'[j]? = some u → w.cell? ⟨g.b,a.off + j,none⟩ = some u:=fun j u hu => by
    have:=hc j u hu
    rcases j with _ | j <;> simpa [Addr.add] using this
   refine ⟨_,c,rfl,fun j d hd => ?_⟩
   obtain ⟨e,he,rfl⟩:∃ e,ks[j]? = some e ∧ (e.1,(⟨⟨e.2⟩⟩:ByteArray)) = d:=by
    unfold namesOf at hd
    rw [List.getElem?_map] at hd
    exact Option.map_eq_some_iff.1 hd
   obtain ⟨k2,k4,k6,s3,s5,a7,a8,n7,c7,n8,c8,z0,z1,z2,z3,z4,z5,z6,z7,z8⟩:=areDefs_at h2 j e he
   have at':∀ {q:Nat} {x:Value},r[q]? = some x → ∃ y,V1 φ' x y ∧ w.cell? ⟨g.b,a.off + q,none⟩ = some y:=fun {q x} hq => by
    obtain ⟨y,hy,hv⟩:=hL.at hq
    exact ⟨y,hv,hc' _ _ hy⟩
   obtain ⟨y0,v0,c0⟩:=at' z0
   obtain ⟨y1,v1,c1⟩:=at' z1
   obtain ⟨y2,v2,c2⟩:=at' z2
   obtain ⟨y3,v3,c3⟩:=at' z3
   obtain ⟨y4,v4,c4⟩:=at' z4
   obtain ⟨y5,v5,c5⟩:=at' z5
   obtain ⟨y6,v6,c6⟩:=at' z6
   obtain ⟨y7,v7,c7'⟩:=at' z7
   obtain ⟨y8,v8,c8'⟩:=at' z8
   obtain rfl:=V1_num v0
   obtain rfl:=V1_word v1
   obtain rfl:=V1_num v2
   obtain rfl:=V1_word v3
   obtain rfl:=V1_num v4
   obtain rfl:=V1_word v5
   obtain rfl:=V1_num v6
   obtain ⟨a7',n7',m7',rfl⟩:=V1_row v7
   obtain ⟨a8',n8',m8',rfl⟩:=V1_row v8
   exact ⟨hk e (List.mem_of_getElem? he),g.b,a.off,k2,k4,k6,s3,s5,a7',a8',n7',m7',n8',m8',rfl,hS.rel.bnd _ _ (hs _ _ hg),c0,c1,c2,c3,c4,c5,c6,c7',c8'⟩
  ·cases h2
 ·cases h
open Gr in
theorem order_G:order [(⟨#[98]⟩,⟨#[97]⟩,⟨#[99]⟩)] (tasks (namesOf defG)) = ([⟨#[97]⟩,⟨#[99]⟩],[]):=by decide +kernel
theorem four {c:Bool} {P Q:Prop} (h:(c && true) = true) (hp:P) (hq:Q):c = true ∧ P ∧ Q:=⟨by simpa using h,hp,hq⟩
open Gr in
theorem alive15 (w:World) (hT:Hd (Tabs w)):Calls Tryz.prog 4 #[] w fun e w' => e = .returned (.bool true) ∧ Below w.heap.size w w':=by
 obtain ⟨lv,s1,hr1,h1⟩:=told_some chkG_ok
 obtain ⟨ov,s2,hr2,h2⟩:=told_some h1
 rw [Bool.and_eq_true] at h2
 have HR2:Hd (fn2 6 [lv] s1 = _):=hr2
 have HRow:Hd (isRow s2 ov 1 3 rowG = true):=h2.1
 have HDef:Hd (isDefs s2 lv defG = true):=h2.2
 have hc1:=first_call fn2_ok hr1 w hT.out #[.string txtG] ⟨.of0 rfl,trivial⟩
 clear h1 h2 hr2 hr1
 go_enter Tryz.func4,Tryz.ntmps4
 go_wp2_with fail
 refine hc1.mono ?_
 rintro e w1 ⟨φ1,v1,rfl,hV1,hS1,hB1,hn1⟩
 obtain ⟨l',rfl,hVl⟩:=V_told hV1
 obtain ⟨la,lc,rfl⟩:∃ a c,l' = .slice a 3 c:=by
  have h:=HDef.out
  unfold isDefs at h
  split at h
  ·rename_i a n' z'
   rw [Bool.and_eq_true] at h
   obtain rfl:=Nat.eq_of_beq_eq_true h.1
   obtain ⟨a',c,rfl,_⟩:=V_sl hVl
   exact ⟨_,_,rfl⟩
  ·cases h
 obtain ⟨W,hW⟩:∃ W,W = w1.alloc fltZ:=⟨_,rfl⟩
 have HS1:Hd (Stt φ1 s1 (entry W)):=by rw [hW]; exact ((hS1.alloc _).alloc _).alloc _
 have HB1:Hd (Below w.heap.size w W):=by rw [hW]; exact hB1.alloc hB1.size _
 have HF1:Hd (W.heap[w1.heap.size]? = some fltZ):=by rw [hW]; exact heap_alloc_new _ _
 have HN:Hd (∀ x g,3 ≤ x → φ1 x = some g → g.b < w1.heap.size):=fun x g _ hg => hS1.rel.bnd x g hg
 have HWs:Hd (w1.heap.size < W.heap.size):=by rw [hW]; simp [Hd]
 have hBe:w.heap.size ≤ (entry W).heap.size:=by have:=HB1.out.size; unfold entry; simp; omega
 have hE:Calls Tryz.prog 6 #[.slice la 3 lc] (entry W) fun e w' => EdQ (fun k => k < w.heap.size ∨ k = w1.heap.size) (namesOf defG) la (.ok [(⟨#[98]⟩,⟨#[97]⟩,⟨#[99]⟩)]) W (entry W) e w':=by
  refine (call_sub fn2_ok HR2.out HS1.out hn1 hBe #[.slice la 3 lc] ⟨hVl,trivial⟩).mono ?_
  rintro e w2 ⟨φ2,v2,rfl,hV2,hS2,hB2,hsub,hk2⟩
  obtain ⟨o',rfl,hVo⟩:=V_told hV2
  obtain ⟨b,off,c,rfl,hcell⟩:=isRow_at HRow.out (by intro u hu; simp [rowG] at hu; rcases hu with rfl | rfl | rfl <;> exact .inr ⟨_,rfl⟩) hVo hS2
  obtain ⟨a',c',he,hd⟩:=isDefs_row HDef.out hVl hsub hS2 (by decide)
  cases he
  refine ⟨⟨hB2.os,hB2.tape,hB2.output,hB2.size,fun k h1 hS => ?_⟩,hd,by decide,by simp,_,_,rfl,fun j e he => ?_⟩
  ·by_cases hk:k < w.heap.size
   ·exact hB2.block k hk
   ·have hS':W.heap.size ≤ k ∨ k < w.heap.size ∨ k = w1.heap.size:=hS
    exact hk2 k h1 fun x g h3 hg e => by have:=HN.out x g h3 hg; have:=HWs.out; omega
  match j,he with
  | 0,he =>
   simp at he
   subst he
   have x0:w2.cell? ⟨b,off + 0,none⟩ = some (.string ⟨#[98]⟩):=hcell 0 _ rfl
   exact ⟨b,off,rfl,World.block_lt_of_cell? w2 _ x0,x0,hcell 1 _ rfl,hcell 2 _ rfl⟩
  | j + 1,he => simp at he
 have hlen:(namesOf defG).length = 3:=rfl
 rw [← hlen] at hE
 have hO:=order_walk (fun k => k < w.heap.size ∨ k = w1.heap.size) (namesOf defG) la lc (.ok [(⟨#[98]⟩,⟨#[97]⟩,⟨#[99]⟩)]) W hE
 rw [hlen] at hO
 unfold OrQ at hO
 dsimp only at hO
 rw [order_G] at hO
 clear hV1 hVl hS1 hB1 hc1 hn1 hE hBe HR2 HRow HDef HS1 HN hlen
 have HW:Hd (W = _):=hW
 clear hW
 go_wp2_with fail
 rw [← HW.out]
 refine hO.mono ?_
 rintro e w2 ⟨hb2,vo,vl,rfl,ho,hv⟩
 obtain ⟨oa,oc,rfl⟩:=own_slice ho
 obtain ⟨ea,ec,rfl⟩:=own_slice hv
 obtain ⟨g,rfl,c0⟩:=own_at ho (i:=0) (by decide)
 have c1:=own_got ho (i:=1) (by decide)
 have hf:w2.heap[w1.heap.size]? = some fltZ:=(hb2.block _ (low_of HF1.out) (.inr rfl)).trans HF1.out
 obtain ⟨g',cap,cur,e1,-,hh,-⟩:=own_open ho (by decide)
 cases e1
 have hgl:=low_of hh
 have hfl:=low_of hf
 obtain ⟨f0,-⟩:=two hf
 have HB2:Hd (Below w.heap.size w w2):=HB1.out.trans ⟨hb2.os,hb2.tape,hb2.output,hb2.size,fun k hk => hb2.block k (by have:=HB1.out.size; omega) (.inl hk)⟩
 replace c0:w2.cell? ⟨g,0,none⟩ = some (.string ⟨#[97]⟩):=c0
 replace c1:w2.cell? ⟨g,1,none⟩ = some (.string ⟨#[99]⟩):=c1
 clear hb2 ho hv hh hf HF1 HB1
 simp only [List.length_cons,List.length_nil,Nat.zero_add]
 go_wp2
 go_ret
 exact ⟨rfl,HB2.out.alloc HB2.out.size _⟩
end Xe
namespace Sm
open Gr (order tasks Behind Told order_told)
theorem gl_tab {w:World} (h:Xe.Tabs w):Gl w.heap.size w:=by
 obtain ⟨_,⟨e1,f1,h1⟩,⟨e2,f2,h2⟩⟩:=h
 have b1:=lt_of_block h1
 have b2:=lt_of_block h2
 refine ⟨⟨b2,b1⟩,?_,?_,?_,?_⟩ <;> simp [World.cell?,h1,h2,Xe.truthL,Xe.numL] <;> rfl
theorem rowAt_none {o:List ByteArray} (ho:o.Nodup) {j:Nat} {n:ByteArray} (h:o[j]? = some n):Ms.val (rowAt (o.take j) 0) n = none:=by
 rw [val_rowAt]
 have:ix (o.take j) n = none:=ix_none.2 fun hm => by
  obtain ⟨i,hi⟩:=List.getElem?_of_mem hm
  have h1:=(List.getElem?_eq_some_iff.1 hi).1
  simp at h1
  rw [List.getElem?_take,if_pos (by omega)] at hi
  obtain ⟨i1,i2⟩:=List.getElem?_eq_some_iff.1 hi
  obtain ⟨j1,j2⟩:=List.getElem?_eq_some_iff.1 h
  exact (List.pairwise_iff_getElem.1 ho) i j i1 j1 (by omega) (i2.trans j2.symm)
 rw [this]
 rfl
theorem rowAt_more {o:List ByteArray} {j:Nat} {n:ByteArray} (h:o[j]? = some n):rowAt (o.take (j + 1)) 0 = rowAt (o.take j) 0 ++ [(n,.int .i64 ((j:Int) + 1))]:=by
 have hj:=(List.getElem?_eq_some_iff.1 h).1
 rw [List.take_add_one,h,Option.toList_some,rowAt_append]
 simp [Nat.min_eq_left (Nat.le_of_lt hj)]
theorem rowAt_len:∀ (o:List ByteArray) (i:Nat),(rowAt o i).length = o.length
 | [],_ => rfl
 | n :: o,i => by rw [rowAt,List.length_cons,rowAt_len o (i + 1),List.length_cons]
theorem len_map {P:Program} {mt kt et ty:TypeId} (hm:P.underlying mt = some (.map kt et)) {w:World} {M:Nat} {l:Ms.Row} (h:Ms.In w M l):(Builtin.len_ #[mt] ty #[.map (some M)]).run P w = .ok (.int .i64 (l.length:Int)) w:=by
 obtain ⟨es,cl,h1,h2⟩:=h
 have hg:(getObj M).run P w = .ok (.map es cl) w:=MapKept.run_getObj_map h1
 have hu:=run_underlying (w:=w) hm
 have hs:es.size = l.length:=by simpa using congrArg List.length h2
 simp [Builtin.len_,hu,hg,hs,goInt]
def hears (es:List Ow3) (o:List ByteArray) (n:ByteArray):Bool:=es.any fun e => decide (e.2.2 = n) && decide (atL o e.2.1 = 0)
theorem hears_more (es:List Ow3) (o:List ByteArray) (n:ByteArray) (k:Nat) (e:Ow3) (h:es[k]? = some e):hears (es.take (k + 1)) o n = (hears (es.take k) o n || (decide (e.2.2 = n) && decide (atL o e.2.1 = 0))):=by
 unfold hears
 rw [List.take_add_one,h,List.any_append]
 simp
open Gr in
theorem order_law (l:List Sy.Df) (a:Option Addr) (c:Nat) (w:World) (hT:Hid (Xe.Tabs w)) (hD:Hid (DfsIn w.heap.size w l a)) :
  Calls Tryz.prog 3 #[.slice a l.length c] w fun e w' => e = .returned (.bool true) ∧ Below w.heap.size w w':=by
 obtain ⟨L,hL⟩:∃ L,L = l.length:=⟨_,rfl⟩
 have HL:Hid (L = l.length):=hL
 clear hL
 go_enter Tryz.func3,Tryz.ntmps3
 go_wp2_with fail
 refine (Xe.alive15 w hT.out).mono ?_
 rintro e w0 ⟨rfl,hb0⟩
 have HB0:Hid (Below w.heap.size w w0):=hb0
 have hwk:=order_any w.heap.size l a c w0 (hD.out.same (same_below hb0)) hb0.size (gl_same (gl_tab hT.out) (same_below hb0))
 clear hb0
 go_wp2_with fail
 refine hwk.mono ?_
 rintro e w1 ⟨hk1,h1⟩
 have HB1:Hid (Below w0.heap.size w0 w1):=⟨hk1.os,hk1.tape,hk1.output,hk1.size,fun k hk => hk1.block k hk trivial⟩
 clear hk1 hwk
 unfold edr at h1
 have HDB:Hid (∀ W,Below w.heap.size w W → Hid (DfsIn w.heap.size W l a) ∧ Hid (Gl w.heap.size W)):=fun W hb => ⟨hD.out.same (same_below hb),gl_same (gl_tab hT.out) (same_below hb)⟩
 have HBw1:Hid (Below w.heap.size w w1):=HB0.out.trans (HB1.out.mono HB0.out.size)
 cases ho:owners l with
 | error x =>
  rw [ho] at h1
  subst h1
  have hx:=owners_bad ho
  obtain ⟨x1,hx1⟩:∃ n,n = x.1:=⟨_,rfl⟩
  obtain ⟨x2,hx2⟩:∃ n,n = x.2:=⟨_,rfl⟩
  rw [← hx1] at hx
  dsimp only
  rw [← hx1,← hx2]
  have HX1:=hd hx1
  have HX2:=hd hx2
  clear hx1 hx2
  obtain ⟨W1,hW1⟩:∃ W1,W1 = w1.alloc (.cells #[.int .i64 x1,.int .i64 (x2:Int)] 27):=⟨_,rfl⟩
  have HF1:Hid (W1.heap[w1.heap.size]? = some (.cells #[.int .i64 x1,.int .i64 (x2:Int)] 27 (0,0))):=by rw [hW1]; exact heap_alloc_new _ _
  have HBW1:Hid (Below w.heap.size w W1):=by rw [hW1]; exact HBw1.out.alloc HBw1.out.size _
  have HW1:=hd hW1
  have hwe:=edges_walk w.heap.size l a c W1 (HDB.out _ HBW1.out).1 HBW1.out.size (HDB.out _ HBW1.out).2
  have e0:(x1 != 0) = true:=by simpa using hx
  clear hW1
  go_wp2_with fail
  rw [← HW1.out]
  refine hwe.mono ?_
  rintro e w2 ⟨hg2,h2⟩
  rw [ho] at h2
  dsimp only at h2
  rw [← HX1.out,← HX2.out] at h2
  subst h2
  have hF2:=(hg2.block _ (low_of HF1.out) (by simp)).trans HF1.out
  obtain ⟨f0,f1,_,_⟩:=two ((Below.heap_alloc w2 (.cells #[.int .i64 x1,.int .i64 (x2:Int)] 27) _ (low_of hF2)).trans hF2)
  have HB2:Hid (Below w.heap.size w w2):=HBW1.out.trans ⟨hg2.os,hg2.tape,hg2.output,hg2.size,fun k hk => hg2.block k (by have:=HBW1.out.size; omega) (by simp)⟩
  have hl2:=low_of hF2
  have hne:¬ w1.heap.size = w2.heap.size:=by omega
  clear hx hg2 hF2 hwe ho HW1 HF1
  go_wp2
  go_ret
  exact ⟨rfl,HB2.out.alloc HB2.out.size _⟩
 | ok os =>
  rw [ho] at h1
  obtain ⟨vo,vl,rfl,hro,hrl⟩:=h1
  have hfew:=owners_few ho
  have HTold:=hd (order_told (edgesOf os) (tasks_once hfew.once))
  obtain ⟨O,hO⟩:∃ O,O = (order (edgesOf os) (tasks (kn l))).1:=⟨_,rfl⟩
  obtain ⟨R,hR⟩:∃ R,R = (order (edgesOf os) (tasks (kn l))).2:=⟨_,rfl⟩
  rw [← hO] at hro
  rw [← hR] at hrl
  obtain ⟨oa,oc,rfl⟩:=own_form hro
  obtain ⟨ra,rc,rfl⟩:=own_form hrl
  have HOe:=hd hO
  have HRe:=hd hR
  clear hO hR
  obtain ⟨W1,hW1⟩:∃ W1,W1 = w1.alloc fltZ:=⟨_,rfl⟩
  have HF1:Hid (W1.heap[w1.heap.size]? = some fltZ):=by rw [hW1]; exact heap_alloc_new _ _
  have HBW1:Hid (Below w.heap.size w W1):=by rw [hW1]; exact HBw1.out.alloc HBw1.out.size _
  have HG1:Hid (w1.grownBy W1 none):=by rw [hW1]; exact galloc _ _
  have HW1:=hd hW1
  have hwe:=edges_walk w.heap.size l a c W1 (HDB.out _ HBW1.out).1 HBW1.out.size (HDB.out _ HBW1.out).2
  have e0:((0:Int) != 0) = false:=rfl
  clear hW1
  go_wp2_with fail
  rw [← HW1.out]
  refine hwe.mono ?_
  rintro e w2 ⟨hg2,h2⟩
  rw [ho] at h2
  obtain ⟨ve,rfl,hre⟩:=h2
  obtain ⟨ea,ec,rfl⟩:=own_form hre
  have hF2:=(hg2.block _ (low_of HF1.out) (by simp)).trans HF1.out
  have HG2:Hid (w1.grownBy (w2.alloc fltZ) none):=gtr (gtr HG1.out hg2) (galloc _ _)
  have HRO:Hid ((w2.alloc fltZ).ownsRow w0.heap.size 9 1 (.slice oa O.length oc) O.length (Gr.strs O)):=own_grow hro HG2.out
  have HRL:Hid ((w2.alloc fltZ).ownsRow w0.heap.size 9 1 (.slice ra R.length rc) R.length (Gr.strs R)):=own_grow hrl HG2.out
  have HRE:Hid ((w2.alloc fltZ).ownsRow W1.heap.size 41 3 (.slice ea (edgesOf os).length ec) (edgesOf os).length (ows (edgesOf os))):=hre.alloc _
  have HB2:Hid (Below w.heap.size w (w2.alloc fltZ)):=HBw1.out.trans ⟨HG2.out.os,HG2.out.tape,HG2.out.output,HG2.out.size,fun k hk => HG2.out.block k (by have:=HBw1.out.size; omega) (by simp)⟩
  obtain ⟨f0,f1,_,_⟩:=two ((Below.heap_alloc w2 fltZ _ (low_of hF2)).trans hF2)
  have hl2:=low_of hF2
  have hne:¬ w1.heap.size = w2.heap.size:=by omega
  clear hg2 hF2 hwe HW1 HF1 hro hrl hre ho
  have hmm:∀ w:World,(Instr.makeMap 33 Option.none).run Tryz.prog w = .ok (.map (some w.heap.size)) (w.alloc (.map #[] 0)):=fun _ => rfl
  have hz:∀ w,(zeroValue 3).run Tryz.prog w = .ok (.int .i64 0) w:=fun w => by kernel_rfl
  go_upto_region 7 with fail
  generalize w2.alloc fltZ = W2 at *
  clear f0 f1 hne hl2
  obtain ⟨W3,hW3⟩:∃ W3,W3 = W2.alloc (.map #[] 0):=⟨_,rfl⟩
  have HM3:Hid (Ms.In W3 W2.heap.size []):=by rw [hW3]; exact Ms.In.new W2
  have HG3:Hid (W2.grownBy W3 none):=by rw [hW3]; exact galloc _ _
  have HW3:=hd hW3
  obtain ⟨NO,hNO⟩:∃ N,N = O.length:=⟨_,rfl⟩
  have HNO:=hd hNO
  obtain ⟨NR,hNR⟩:∃ N,N = R.length:=⟨_,rfl⟩
  have HNR:=hd hNR
  obtain ⟨NE,hNE⟩:∃ N,N = (edgesOf os).length:=⟨_,rfl⟩
  have HNE:=hd hNE
  have HTD:Hd (Gr.Told (edgesOf os) (tasks (kn l)) (O,R)):=by rw [HOe.out,HRe.out]; exact HTold.out
  have HND:Hd (O.Nodup ∧ ∀ n ∈ R,n ∉ O):=by
   have h1:(O ++ R).Nodup:=HTD.out.perm.nodup_iff.2 (tasks_once hfew.once)
   obtain ⟨h2,_,h3⟩:=List.nodup_append.1 h1
   exact ⟨h2,fun n hn ho => h3 n ho n hn rfl⟩
  have HLn:Hd (NO + NR = (tasks (kn l)).length):=by
   have h1:=HTD.out.perm.length_eq
   rw [List.length_append] at h1
   rw [hNO,hNR]; exact h1
  have hn9:NO ≤ 30 ∧ NR ≤ 30 ∧ NE ≤ 30 ∧ L ≤ 30:=by
   have h1:=HLn.out
   have h2:(tasks (kn l)).length ≤ l.length:=by have:=Gr.tasks_le (kn l); simpa [kn] using this
   have h3:=hfew.defs
   have h6:=HL.out
   have h4:=edges_le os
   have h5:=hfew.own
   omega
  rw [← hNO,← hNR,← hNE,← HL.out]
  clear hW3 hNO hNR hNE hfew HTold HOe HRe
  go_upto_region 8 with fail
  rw [← HW3.out]
  clear HW3
  go_wp2
  go_loopw [56] (fun q wr => ∃ j:Nat,q = .int .i64 j ∧ j ≤ NO ∧ Hd (W2.grownBy wr none) ∧ Hd (Ms.In wr W2.heap.size (rowAt (O.take j) 0))) (fun q _ => NO - (intOf q).toNat)
  case atStart => exact ⟨0,rfl,Nat.zero_le _,HG3.out,HM3.out⟩
  case round =>
   obtain ⟨j,rfl,hj,HG,HM⟩:=hrel
   by_cases hlt:j < NO
   ·have hro:=own_grow HRO.out HG.out
    obtain ⟨g,rfl,c0⟩:=Gr.own_at hro (show j < O.length by rw [← HNO.out]; exact hlt)
    have hoj:O[j]? = some (Gr.nm O j):=by simp [Gr.nm,List.getElem?_eq_getElem (show j < O.length by rw [← HNO.out]; exact hlt)]
    have hjp:(j:Int) < (NO:Int):=by omega
    have HJ:Hd (j + 1 ≤ NO):=hlt
    obtain ⟨w4,hup,hI4,hg4⟩:=Ms.run_add Tryz.underlying33 Tryz.underlying9 (k:=Gr.nm O j) (v:=.int .i64 ((j:Int) + 1)) HM.out (rowAt_none HND.out.1 hoj)
    rw [← rowAt_more hoj] at hI4
    have HI4:=hd hI4
    have HG4:=hd (gown HG.out hg4 (Nat.le_refl _))
    clear hro hoj hI4 hg4
    go_wp2
    go_roundw
    case rel => exact ⟨j + 1,by go_num,HJ.out,HG4,HI4⟩
    case measure => have:=HJ.out; simp [intOf]; omega
   ·have HM9:Hd (Ms.In wr W2.heap.size (rowAt O 0)):=by
     have h1:=HM.out
     rw [List.take_of_length_le (by have:=HNO.out; omega)] at h1
     exact h1
    have hjp:¬ (j:Int) < (NO:Int):=by omega
    have HG9:=HG
    clear HM HG HM3 HG3
    generalize wr = W4 at *
    have hc0:((tasks ((kn l).take 0)).length:Int) = 0:=rfl
    go_wp2
    go_loopw [11,68] (fun nv q wr => ∃ j:Nat,q = .int .i64 j ∧ nv = .int .i64 ((tasks ((kn l).take j)).length:Int) ∧ j ≤ L ∧ Hd (W4.grownBy wr none)) (fun _ q _ => L - (intOf q).toNat)
    case atStart => exact ⟨0,rfl,rfl,Nat.zero_le _,grefl _ _⟩
    case round =>
     obtain ⟨j,rfl,rfl,hj,HG⟩:=hrel
     have HGa:=hd (gtr HG9.out HG.out)
     have HBa:Hid (Below w.heap.size w wr):=HB2.out.trans ⟨HGa.out.os,HGa.out.tape,HGa.out.output,HGa.out.size,fun k hk => HGa.out.block k (by have:=HB2.out.size; omega) (by simp)⟩
     by_cases hlt:j < L
     ·have hj1:j < l.length:=by rw [← HL.out]; exact hlt
      obtain ⟨d,hd'⟩:∃ d,l[j]? = some d:=⟨_,List.getElem?_eq_getElem hj1⟩
      obtain ⟨b,off,pa,pc,ba,bc,rfl,hb,k0,k1,k2,k3,k4,k5,k6,k7,k8,_⟩:=(HDB.out _ HBa.out).1.out.2 j d hd'
      have hbw:b < wr.heap.size:=by have:=HBa.out.size; omega
      have hjp:(j:Int) < (L:Int):=by omega
      have HJ:Hd (j + 1 ≤ L):=hlt
      have HG5:Hd (W4.grownBy (wr.alloc (dfB d pa pc ba bc)) none):=gtr HG.out (galloc _ _)
      have HTm:Hd (tasks ((kn l).take (j + 1)) = if d.kind = 4 then tasks ((kn l).take j) ++ [d.name] else tasks ((kn l).take j)):=Gr.tasks_more (kn l) j (d.kind,d.name) (kn_at hd')
      have hcn:(tasks ((kn l).take j)).length ≤ 30:=by
       have h1:=Gr.tasks_le ((kn l).take j)
       have h2:((kn l).take j).length ≤ j:=by simp; omega
       omega
      obtain ⟨n,hn⟩:∃ n,n = (tasks ((kn l).take j)).length:=⟨_,rfl⟩
      have HNn:=hd hn
      rw [← hn] at hcn ⊢
      clear hd' hn
      by_cases h4:d.kind = 4
      ·have e4:(d.kind == 4) = true:=by simp [h4]
       have HT2:Hd ((tasks ((kn l).take (j + 1))).length = n + 1):=by unfold Hd; rw [HTm.out,if_pos h4,List.length_append,← HNn.out]; rfl
       clear h4 HTm
       go_wp2
       go_roundw
       case rel => exact ⟨j + 1,by go_num,by rw [HT2.out]; go_num,HJ.out,HG5⟩
       case measure => have:=HJ.out; simp [intOf]; omega
      ·have e4:(d.kind == 4) = false:=by simp [h4]
       have HT2:Hd ((tasks ((kn l).take (j + 1))).length = n):=by unfold Hd; rw [HTm.out,if_neg h4,← HNn.out]
       clear h4 HTm
       go_wp2
       go_roundw
       case rel => exact ⟨j + 1,by go_num,by rw [HT2.out],HJ.out,HG5⟩
       case measure => have:=HJ.out; simp [intOf]; omega
     ·have hfin:((tasks ((kn l).take j)).length:Int) = (NO:Int) + (NR:Int):=by
       rw [List.take_of_length_le (by have:=HL.out; simp [kn]; omega),← HLn.out]
       omega
      have hjp:¬ (j:Int) < (L:Int):=by omega
      have HM5:=hd (HM9.out.grow HG.out)
      rw [hfin]
      clear hfin HG
      have hlm:=len_map (ty:=3) Tryz.underlying33 HM5.out
      rw [rowAt_len,← HNO.out] at hlm
      clear HM9
      go_upto_region 22 with fail
      clear hlm
      have HLK:Hd (∀ V x,wr.grownBy V none → (Instr.lookup 33 (.map (some W2.heap.size)) (.string x) false).run Tryz.prog V = .ok (.int .i64 (atL O x)) V):=fun V x hg => by
       have h1:=(Ms.run_lookup Tryz.underlying33 Tryz.underlying9 (k:=x) (HM5.out.grow hg) (hz V)).1
       rw [val_at] at h1
       exact h1
      have HG2r:=HGa
      have HRL5:=hd (own_grow HRL.out HGa.out)
      have HRE5:=hd (own_grow HRE.out HGa.out)
      clear HRO HRL HRE HG9 HGa HM5 hz hmm
      generalize wr = W5 at *
      go_wp2
      go_loopw [94] (fun q wr => ∃ j:Nat,q = .int .i64 j ∧ j ≤ NR ∧ Hd (W5.grownBy wr none)) (fun q _ => NR - (intOf q).toNat)
      case atStart => exact ⟨0,rfl,Nat.zero_le _,grefl _ _⟩
      case round =>
       obtain ⟨j,rfl,hj,HG⟩:=hrel
       by_cases hlt:j < NR
       ·have hj1:j < R.length:=by rw [← HNR.out]; exact hlt
        obtain ⟨g,rfl,c0⟩:=Gr.own_at (own_grow HRL5.out HG.out) hj1
        have hnj:Gr.nm R j ∈ R:=List.mem_of_getElem? (i:=j) (by simp [Gr.nm,List.getElem?_eq_getElem hj1])
        have hjp:(j:Int) < (NR:Int):=by omega
        have HJ:Hd (j + 1 ≤ NR):=hlt
        obtain ⟨n,hn⟩:∃ n,n = Gr.nm R j:=⟨_,rfl⟩
        rw [← hn] at c0 hnj
        have hLn:=HLK.out wr n HG.out
        rw [atL_zero.2 (HND.out.2 n hnj)] at hLn
        have HH:Hd (hears (edgesOf os) O n = true):=by
         obtain ⟨e,he,h1,h2⟩:=HTD.out.left n hnj
         unfold Hd hears
         rw [List.any_eq_true]
         exact ⟨e,he,by simp [h1,atL_zero.2 h2]⟩
        clear hn hnj
        go_wp2
        clear hLn c0
        go_loopw [16,104] (fun s q wi => ∃ k:Nat,s = .bool (hears ((edgesOf os).take k) O n) ∧ q = .int .i64 k ∧ k ≤ NE ∧ Hd (W5.grownBy wi none)) (fun _ q _ => NE - (intOf q).toNat)
        case atStart => exact ⟨0,rfl,rfl,Nat.zero_le _,HG.out⟩
        case round =>
         obtain ⟨k,rfl,rfl,hk,HGi⟩:=hrel
         by_cases hlk:k < NE
         ·have hk1:k < (edgesOf os).length:=by rw [← HNE.out]; exact hlk
          obtain ⟨e,he⟩:∃ e,(edgesOf os)[k]? = some e:=⟨_,List.getElem?_eq_getElem hk1⟩
          obtain ⟨x0,x1,x2⟩:=ows_at he
          have hOw:=own_grow HRE5.out HGi.out
          obtain ⟨g2,rfl,hg,c0⟩:=own_c hOw x0
          obtain ⟨g',e',_,c1⟩:=own_c hOw x1
          cases e'
          obtain ⟨g',e',_,c2⟩:=own_c hOw x2
          cases e'
          have hkp:(k:Int) < (NE:Int):=by omega
          have HK:Hd (k + 1 ≤ NE):=hlk
          have HM:=hd (hears_more (edgesOf os) O n k e he)
          have HGn:Hd (W5.grownBy (wr.alloc (.cells #[.string e.1,.string e.2.1,.string e.2.2] 41)) none):=gtr HGi.out (galloc _ _)
          have hLe:=HLK.out _ e.2.1 HGn.out
          obtain ⟨s,hs⟩:∃ s,s = hears ((edgesOf os).take k) O n:=⟨_,rfl⟩
          rw [← hs] at HM ⊢
          have hbe:=beq_bytes e.2.2 n
          obtain ⟨A,hA⟩:∃ A,A = atL O e.2.1:=⟨_,rfl⟩
          rw [← hA] at hLe HM
          clear he x0 x1 x2 hOw hs hA
          cases s with
          | true =>
           have HM2:Hd (hears ((edgesOf os).take (k + 1)) O n = true):=by unfold Hd; rw [HM.out]; rfl
           clear hbe HM
           go_wp2
           go_roundw
           case rel => exact ⟨k + 1,by rw [HM2.out],by go_num,HK.out,HGn⟩
           case measure => have:=HK.out; simp [intOf]; omega
          | false =>
           by_cases hto:e.2.2 = n
           ·rw [decide_eq_true hto] at hbe
            by_cases h0:A = 0
            ·have e1:(A == 0) = true:=by simp [h0]
             have HM2:Hd (hears ((edgesOf os).take (k + 1)) O n = true):=by unfold Hd; rw [HM.out]; simp [hto,h0]
             clear HM hto h0
             go_wp2
             go_roundw
             case rel => exact ⟨k + 1,by rw [HM2.out],by go_num,HK.out,HGn⟩
             case measure => have:=HK.out; simp [intOf]; omega
            ·have e1:(A == 0) = false:=by simpa using h0
             have HM2:Hd (hears ((edgesOf os).take (k + 1)) O n = false):=by unfold Hd; rw [HM.out]; simp [h0]
             clear HM hto h0
             go_wp2
             go_roundw
             case rel => exact ⟨k + 1,by rw [HM2.out],by go_num,HK.out,HGn⟩
             case measure => have:=HK.out; simp [intOf]; omega
           ·rw [decide_eq_false hto] at hbe
            have HM2:Hd (hears ((edgesOf os).take (k + 1)) O n = false):=by unfold Hd; rw [HM.out]; simp [hto]
            clear HM hto
            go_wp2
            go_roundw
            case rel => exact ⟨k + 1,by rw [HM2.out],by go_num,HK.out,HGn⟩
            case measure => have:=HK.out; simp [intOf]; omega
         ·have hall:hears ((edgesOf os).take k) O n = true:=by
           rw [List.take_of_length_le (by have:=HNE.out; omega)]
           exact HH.out
          have hkp:¬ (k:Int) < (NE:Int):=by omega
          rw [hall]
          clear hall
          go_wp2
          go_roundw
          case rel => exact ⟨j + 1,by go_num,HJ.out,HGi⟩
          case measure => have:=HJ.out; simp [intOf]; omega
       ·have hjp:¬ (j:Int) < (NR:Int):=by omega
        have HG6:=HG
        go_wp2
        go_loopw [128] (fun q wr => ∃ k:Nat,q = .int .i64 k ∧ k ≤ NE ∧ Hd (W5.grownBy wr none)) (fun q _ => NE - (intOf q).toNat)
        case atStart => exact ⟨0,rfl,Nat.zero_le _,HG6.out⟩
        case round =>
         obtain ⟨k,rfl,hk,HGi⟩:=hrel
         by_cases hlk:k < NE
         ·have hk1:k < (edgesOf os).length:=by rw [← HNE.out]; exact hlk
          obtain ⟨e,he⟩:∃ e,(edgesOf os)[k]? = some e:=⟨_,List.getElem?_eq_getElem hk1⟩
          obtain ⟨x0,x1,x2⟩:=ows_at he
          have hOw:=own_grow HRE5.out HGi.out
          obtain ⟨g2,rfl,hg,c0⟩:=own_c hOw x0
          obtain ⟨g',e',_,c1⟩:=own_c hOw x1
          cases e'
          obtain ⟨g',e',_,c2⟩:=own_c hOw x2
          cases e'
          have hkp:(k:Int) < (NE:Int):=by omega
          have HK:Hd (k + 1 ≤ NE):=hlk
          have HGn:Hd (W5.grownBy (wr.alloc (.cells #[.string e.1,.string e.2.1,.string e.2.2] 41)) none):=gtr HGi.out (galloc _ _)
          have hLe:=HLK.out _ e.2.1 HGn.out
          have hLt:=HLK.out _ e.2.2 HGn.out
          have hno:=at_behind HTD.out.behind (List.mem_of_getElem? he)
          obtain ⟨A,hA⟩:∃ A,A = atL O e.2.1:=⟨_,rfl⟩
          obtain ⟨B,hB⟩:∃ B,B = atL O e.2.2:=⟨_,rfl⟩
          rw [← hA] at hLe hno
          rw [← hB] at hLt hno
          clear he x0 x1 x2 hOw hA hB
          by_cases hb:0 < B
          ·have e1:(A == 0) = false:=by simp; omega
           have hge:¬ B ≤ A:=by omega
           clear hno
           go_wp2
           go_roundw
           case rel => exact ⟨k + 1,by go_num,HK.out,HGn⟩
           case measure => have:=HK.out; simp [intOf]; omega
          ·clear hno
           go_wp2
           go_roundw
           case rel => exact ⟨k + 1,by go_num,HK.out,HGn⟩
           case measure => have:=HK.out; simp [intOf]; omega
         ·have hkp:¬ (k:Int) < (NE:Int):=by omega
          have hgE:=gtr HG2r.out HGi.out
          have HBE:Hid (Below w.heap.size w wr):=HB2.out.trans ⟨hgE.os,hgE.tape,hgE.output,hgE.size,fun k hk => hgE.block k (by have:=HB2.out.size; omega) (by simp)⟩
          clear hgE
          go_wp2
          go_ret
          exact ⟨rfl,HBE.out⟩
end Sm
end Go.Proofs.YtbioaoangfiijaaGreatDoor

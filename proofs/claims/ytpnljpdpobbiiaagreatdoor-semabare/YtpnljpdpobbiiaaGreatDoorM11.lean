/- Calls with closed arguments,one behind the other: what our machine reckons of them. -/
import Derived.Test.YtpnljpdpobbiiaaGreatDoorM10
import Derived.Deep.Cut
import Derived.WalkKit
set_option maxRecDepth 100000
set_option maxHeartbeats 1000000
namespace Go.Proofs.YtpnljpdpobbiiaaGreatDoor
open Go.RowKit
namespace Xe
noncomputable section
def told (r:Option (Value × S)) (k:Value → S → Bool):Bool:=match r with
 | some (.tuple ⟨[x,.agg ⟨[.int .i64 (.ofNat 0),.int .i64 (.ofNat 0)]⟩]⟩,s) => k x s
 | _ => false
def isRow (s:S) (v:Value) (n z:Nat) (l:List Value):Bool:=match v with
 | .slice (some a) n' _ => Nat.beq n n' && (match readN s.h a (Nat.mul n z) with | some r => all2 eq1 r l | none => false)
 | _ => false
end
theorem told_some {r:Option (Value × S)} {k:Value → S → Bool} (h:told r k = true):∃ x s,r = some (.tuple #[x,.agg #[.int .i64 0,.int .i64 0]],s) ∧ k x s = true:=by
 unfold told at h
 split at h
 ·exact ⟨_,_,rfl,h⟩
 ·cases h
theorem V1_num {φ:Ph} {k:IntKind} {n:Int} {u:Value} (h:V1 φ (.int k n) u):u = .int k n:=by
 rcases h with h | ⟨_,_,_,_,_,h,_⟩
 ·exact h
 ·cases h
theorem V_told {φ:Ph} {x v':Value} (h:V φ (.tuple #[x,.agg #[.int .i64 0,.int .i64 0]]) v'):∃ x',v' = .tuple #[x',.agg #[.int .i64 0,.int .i64 0]] ∧ V φ x x':=by
 obtain ⟨c',rfl,hL⟩:∃ c',v' = .tuple c' ∧ L (VA φ) [x,.agg #[.int .i64 0,.int .i64 0]] c'.toList:=by
  rcases h with ((h | ⟨_,_,_,_,_,h,_⟩) | ⟨_,_,h,_⟩) | ⟨c,c',h1,h2,h3⟩
  ·exact h.elim
  ·cases h
  ·cases h
  ·cases h1; exact ⟨c',h2,h3⟩
 obtain ⟨cl⟩:=c'
 match cl,hL with
 | [a,b],⟨h1,h2,_⟩ =>
  refine ⟨a,?_,.inl h1⟩
  rcases h2 with h2 | ⟨d,d',e1,e2,h3⟩
  ·rcases h2 with h2 | ⟨_,_,_,_,_,h2,_⟩
   ·exact h2.elim
   ·cases h2
  ·cases e1
   subst e2
   obtain ⟨dl⟩:=d'
   match dl,h3 with
   | [p,q],⟨h4,h5,_⟩ =>
    rw [V1_num h4,V1_num h5]
theorem V1_const {φ:Ph} {v u:Value} (hc:(∃ n,v = iv n) ∨ ∃ b,v = sv b) (h:V1 φ v u):u = v:=by
 rcases hc with ⟨n,rfl⟩ | ⟨b,rfl⟩
 ·exact V1_num h
 ·rcases h with h | ⟨_,_,_,_,_,h,_⟩
  ·exact h
  ·cases h
theorem isRow_at {φ:Ph} {s:S} {w:World} {v v':Value} {n z:Nat} {l:List Value} (h:isRow s v n z l = true) (hl:∀ u ∈ l,(∃ n,u = iv n) ∨ ∃ b,u = sv b) (hV:V φ v v') (hS:Stt φ s w) :
  ∃ b off c,v' = .slice (some ⟨b,off,none⟩) n c ∧ ∀ (j:Nat) u,l[j]? = some u → w.cell? ⟨b,off + j,none⟩ = some u:=by
 unfold isRow at h
 split at h
 ·rename_i a n' z'
  rw [Bool.and_eq_true] at h
  obtain ⟨h1,h2⟩:=h
  obtain rfl:=Nat.eq_of_beq_eq_true h1
  split at h2
  ·rename_i r hr
   have e:=all2_eq (fun _ _ => eq1_eq) h2
   subst e
   obtain ⟨a',c,rfl,hSR⟩:=V_sl hV
   have hsp:=(readN_some.1 hr).1
   rcases hSR with ⟨h0,_⟩ | ⟨_,_,g,hg,rfl,_⟩
   ·exact absurd hsp h0
   obtain ⟨l',hL,_,hc⟩:=read_row hr hS.rel (a':=⟨g.b,a.off,none⟩) ⟨hsp,g,hg,rfl⟩
   refine ⟨g.b,a.off,c,rfl,fun j u hu => ?_⟩
   obtain ⟨y,hy,hV1⟩:=hL.at hu
   have e:=V1_const (hl u (List.mem_of_getElem? hu)) hV1
   subst e
   have:=hc j y hy
   rcases j with _ | j <;> simpa [Addr.add] using this
  ·cases h2
 ·cases h
theorem first_call {cl:Cl} (hcl:CallOk Tryz.prog cl) {f:FuncId} {args:List Value} {v:Value} {s:S} (hr:cl f args s0 = some (v,s)) (w:World) (hT:Tabs w) (args':Array Value) (ha:L (V ph0) args args'.toList) :
  Calls Tryz.prog f args' w fun e w' => ∃ φ v',e = .returned v' ∧ V φ v v' ∧ Stt φ s w' ∧ Below w.heap.size w w' ∧ ∀ x g,3 ≤ x → φ x = some g → w.heap.size ≤ g.b:=by
 obtain ⟨_,_,hcall⟩:=hcl _ _ _ _ _ hr
 refine (hcall ph0 w args' ha (stt0 hT)).mono ?_
 rintro e w' ⟨φ',v',rfl,hV,hP⟩
 have none3:∀ x g,3 ≤ x → ph0 x = some g → False:=fun x g h3 h => by
  unfold ph0 at h
  rw [if_neg (by omega),if_neg (by omega),if_neg (by omega)] at h
  cases h
 refine ⟨φ',v',rfl,hV,hP.stt,⟨hP.ext.out.1,hP.ext.out.2.1,hP.ext.out.2.2,hP.ext.size,fun k hk => hP.ext.kept k hk fun x g h3 _ h => (none3 x g h3 h).elim⟩,fun x g h3 hg => ?_⟩
 cases h0:ph0 x with
 | some g0 => exact (none3 x g0 h3 h0).elim
 | none =>
  rcases hP.ext.news x g h0 hg with h1 | ⟨y,g',hy3,_,hy,_⟩
  ·exact h1
  ·exact (none3 y g' hy3 hy).elim
theorem next_call {cl:Cl} (hcl:CallOk Tryz.prog cl) {f:FuncId} {args:List Value} {v:Value} {s s':S} (hr:cl f args s = some (v,s')) {φ:Ph} {w:World} (hS:Stt φ s w) {B:Nat} (hB:∀ x g,3 ≤ x → φ x = some g → B ≤ g.b) (hw:B ≤ w.heap.size) (args':Array Value) (ha:L (V φ) args args'.toList) :
  Calls Tryz.prog f args' w fun e w' => ∃ φ' v',e = .returned v' ∧ V φ' v v' ∧ Stt φ' s' w' ∧ Below B w w' ∧ (∀ x g,3 ≤ x → φ' x = some g → B ≤ g.b) ∧ ∀ k,k < w.heap.size → (∀ x g,3 ≤ x → φ x = some g → g.b ≠ k) → w'.heap[k]? = w.heap[k]?:=by
 obtain ⟨_,_,hcall⟩:=hcl _ _ _ _ _ hr
 refine (hcall φ w args' ha hS).mono ?_
 rintro e w' ⟨φ',v',rfl,hV,hP⟩
 have keep:∀ k,k < w.heap.size → (∀ x g,3 ≤ x → φ x = some g → g.b ≠ k) → w'.heap[k]? = w.heap[k]?:=fun k hk hn => hP.ext.kept k hk fun x g h3 _ h => hn x g h3 h
 refine ⟨φ',v',rfl,hV,hP.stt,⟨hP.ext.out.1,hP.ext.out.2.1,hP.ext.out.2.2,hP.ext.size,fun k hk => keep k (by omega) fun x g h3 h => by have:=hB x g h3 h; omega⟩,fun x g h3 hg => ?_,keep⟩
 cases h0:φ x with
 | some g0 =>
  have:=hP.ext.sub x g0 h0
  rw [hg] at this
  cases this
  exact hB x g h3 h0
 | none =>
  rcases hP.ext.news x g h0 hg with h1 | ⟨y,g',hy3,_,hy,e⟩
  ·omega
  ·have:=hB y g' hy3 hy
   omega
theorem Stt.alloc {φ:Ph} {s:S} {w:World} (h:Stt φ s w) (o:Obj):Stt φ s (w.alloc o):=(Post.grown h ((Below.refl _ w).alloc (Nat.le_refl _) o)).stt
end Xe
namespace Xe
noncomputable section
def txtA:ByteArray:=⟨#[98,111,120,32,98,32,110,117,109,32,49,32,59,32,116,97,115,107,32,97,32,123,32,115,101,110,100,32,98,32,49,32,59,32,125,32,116,97,115,107,32,99,32,123,32,111,117,116,32,114,101,99,118,32,40,32,98,32,41,32,59,32,125]⟩
def rowA:List Value:=[sv [98],sv [97],sv [99]]
def chkA:Bool:=told (fn2 11 [.string txtA] s0) fun l s => told (fn2 7 [l] s) fun o s2 => isRow s2 o 1 3 rowA
end
set_option maxRecDepth 1000000 in
theorem chkA_ok:chkA = true:=by kernel_rfl
abbrev fltO:Obj:=.cells #[.int .i64 0,.int .i64 0] 27 (0,0)
theorem alive_any (w:World) (hT:Hid (Tabs w)):Calls Tryz.prog 6 #[] w fun e w' => e = .returned (.bool true) ∧ Below w.heap.size w w':=by
 obtain ⟨lv,s1,hr1,h1⟩:=told_some chkA_ok
 obtain ⟨ov,s2,hr2,h2⟩:=told_some h1
 have HR2:Hid (fn2 7 [lv] s1 = _):=hr2
 have HRow:Hid (isRow s2 ov 1 3 rowA = true):=h2
 have hc1:=first_call fn2_ok hr1 w hT.out #[.string txtA] ⟨.of0 rfl,trivial⟩
 clear h1 h2 hr2 hr1
 go_enter Tryz.func6,Tryz.ntmps6
 go_wp2_with fail
 refine hc1.mono ?_
 rintro e w1 ⟨φ1,v1,rfl,hV1,hS1,hB1,hn1⟩
 obtain ⟨l',rfl,hVl⟩:=V_told hV1
 have HS1:Hid (Stt φ1 s1 (w1.alloc fltO)):=hS1.alloc fltO
 have HB1:Hid (Below w.heap.size w w1):=hB1
 have hF1:(w1.alloc fltO).heap[w1.heap.size]? = some fltO:=heap_alloc_new _ _
 have HF1:Hid ((w1.alloc fltO).heap[w1.heap.size]? = some fltO):=hF1
 have HN:Hid (∀ x g,3 ≤ x → φ1 x = some g → g.b < w1.heap.size):=fun x g _ hg => hS1.rel.bnd x g hg
 have hc2:=next_call fn2_ok HR2.out HS1.out hn1 (by have:=hB1.size; simp; omega) #[l'] ⟨hVl,trivial⟩
 clear hV1 hVl hS1 hB1 hc1 hn1 hF1
 go_wp2_with fail
 refine hc2.mono ?_
 rintro e w2 ⟨φ2,v2,rfl,hV2,hS2,hB2,hn2,hk2⟩
 obtain ⟨o',rfl,hVo⟩:=V_told hV2
 obtain ⟨b,off,c,rfl,hcell⟩:=isRow_at HRow.out (by intro u hu; simp [rowA] at hu; rcases hu with rfl | rfl | rfl <;> exact .inr ⟨_,rfl⟩) hVo hS2
 have x0:w2.cell? ⟨b,off + 0,none⟩ = some (.string ⟨#[98]⟩):=hcell 0 _ rfl
 have x1:w2.cell? ⟨b,off + 1,none⟩ = some (.string ⟨#[97]⟩):=hcell 1 _ rfl
 have x2:w2.cell? ⟨b,off + 2,none⟩ = some (.string ⟨#[99]⟩):=hcell 2 _ rfl
 have hF2:w2.heap[w1.heap.size]? = some fltO:=(hk2 _ (by simp) (fun x g h3 hg e => by have:=HN.out x g h3 hg; omega)).trans HF1.out
 have f0:w2.cell? ⟨w1.heap.size,0,none⟩ = some (.int .i64 0):=by simp [World.cell?,hF2]
 have HB2:Hid (Below w.heap.size w w2):=(HB1.out.alloc HB1.out.size _).trans hB2
 have hl1:=lt_of_block hF2
 have hlb:b < w2.heap.size:=World.block_lt_of_cell? w2 _ x1
 clear hcell hV2 hS2 hB2 hn2 hk2 hF2 hVo hc2
 simp only [Nat.add_zero] at x0
 go_wp2
 go_ret
 exact ⟨rfl,HB2.out.alloc HB2.out.size _⟩
end Xe
end Go.Proofs.YtpnljpdpobbiiaaGreatDoor
namespace Go.Proofs.YtpnljpdpobbiiaaGreatDoor
namespace Lx
def isLet (c:UInt8):Bool:=decide (97 ≤ c.toNat ∧ c.toNat ≤ 122 ∨ c.toNat = 95)
def isDig (c:UInt8):Bool:=decide (48 ≤ c.toNat ∧ c.toNat ≤ 57)
def isBlk (c:UInt8):Bool:=decide (c.toNat = 32 ∨ c.toNat = 9 ∨ c.toNat = 10)
def isWrd (c:UInt8):Bool:=isLet c || isDig c
def span (p:UInt8 → Bool) (l:List UInt8):Nat:=(l.takeWhile p).length
theorem span_at (p:UInt8 → Bool):∀ (l:List UInt8) (k:Nat),(l.take k).all p = true → k ≤ l.length → (∀ x,l[k]? = some x → p x = false) → span p l = k
 | [],k,_,hk,_ => by simp at hk; subst hk; rfl
 | a :: l,0,_,_,he => by
  have:=he a rfl
  simp [span,this]
 | a :: l,k + 1,h,hk,he => by
  simp only [List.take_succ_cons,List.all_cons,Bool.and_eq_true] at h
  have ih:=span_at p l k h.2 (by simpa using hk) (fun x hx => he x (by simpa using hx))
  unfold span at ih ⊢
  rw [List.takeWhile_cons,if_pos h.1,List.length_cons,ih]
theorem all_snoc (p:UInt8 → Bool) (l:List UInt8) (x:UInt8) (h:l.all p = true) (hx:p x = true):(l ++ [x]).all p = true:=by
 rw [List.all_append,h]; simp [hx]
def two (c:UInt8):Bool:=[61,33,60,62].contains c
def one (c:UInt8):Bool:=[60,62,61,43,45,42,47,37,40,41,123,125,44,59].contains c
end Lx
end Go.Proofs.YtpnljpdpobbiiaaGreatDoor

/- The calls that our machine takes as a whole,and reader.kids$1. -/
import Derived.Test.YtbioaoangfiijaaGreatDoorM48
import Derived.Test.YtbioaoangfiijaaGreatDoorM49
namespace Go.Proofs.YtbioaoangfiijaaGreatDoor
open Go.RowKit
namespace Xe
noncomputable def special2:Sp:=fun call f args s => bB (Nat.beq f 128) (some (spTwo Tryz.prog call f args s)) (special 35 16 110 call f args s)
theorem mixed_ok:Tryz.prog.follows .mixedOrders = true:=by kernel_rfl
theorem sp_ok2:SpOk Tryz.prog special2:=by
 intro call hC f args s v s' h
 unfold special2 at h
 rw [bB_ite,beq_dec] at h
 split at h
 ·exact spTwo_ok names_ok mixed_ok hC (Option.some.inj h)
 ·exact sp_ok call hC f args s v s' h
noncomputable def fn2:Cl:=func Tryz.prog special2 60 false
theorem fn2_ok:CallOk Tryz.prog fn2:=(func_ok names_ok sp_ok2 (fun call hC => draw_ok names_ok mixed_ok call hC) 60).1
end Xe
namespace Xe
noncomputable section
def told (r:Option (Value × S)) (k:Value → S → Bool):Bool:=match r with
 | some (.tuple ⟨[x,.agg ⟨[.int .i64 (.ofNat 0),.int .i64 (.ofNat 0)]⟩]⟩,s) => k x s
 | _ => false
def isRow (s:S) (v:Value) (n z:Nat) (l:List Value):Bool:=match v with
 | .slice (some a) n' _ => Nat.beq n n' && (match readN s.h a (Nat.mul n z) with | some r => all2 eq1 r l | none => false)
 | _ => false
end
theorem told_some {r:Option (Value × S)} {k:Value → S → Bool} (h:told r k = true):∃ x s,r = some (.tuple #[x,.agg #[.int .i64 0,.int .i64 0]],s) ∧ k x s = true:=by
 unfold told at h
 split at h
 ·exact ⟨_,_,rfl,h⟩
 ·cases h
theorem V1_num {φ:Ph} {k:IntKind} {n:Int} {u:Value} (h:V1 φ (.int k n) u):u = .int k n:=by
 rcases h with h | ⟨_,_,_,_,_,h,_⟩
 ·exact h
 ·cases h
theorem V_told {φ:Ph} {x v':Value} (h:V φ (.tuple #[x,.agg #[.int .i64 0,.int .i64 0]]) v'):∃ x',v' = .tuple #[x',.agg #[.int .i64 0,.int .i64 0]] ∧ V φ x x':=by
 obtain ⟨c',rfl,hL⟩:∃ c',v' = .tuple c' ∧ L (VA φ) [x,.agg #[.int .i64 0,.int .i64 0]] c'.toList:=by
  rcases h with ((h | ⟨_,_,_,_,_,h,_⟩) | ⟨_,_,h,_⟩) | ⟨c,c',h1,h2,h3⟩
  ·exact h.elim
  ·cases h
  ·cases h
  ·cases h1; exact ⟨c',h2,h3⟩
 obtain ⟨cl⟩:=c'
 match cl,hL with
 | [a,b],⟨h1,h2,_⟩ =>
  refine ⟨a,?_,.inl h1⟩
  rcases h2 with h2 | ⟨d,d',e1,e2,h3⟩
  ·rcases h2 with h2 | ⟨_,_,_,_,_,h2,_⟩
   ·exact h2.elim
   ·cases h2
  ·cases e1
   subst e2
   obtain ⟨dl⟩:=d'
   match dl,h3 with
   | [p,q],⟨h4,h5,_⟩ =>
    rw [V1_num h4,V1_num h5]
theorem V1_const {φ:Ph} {v u:Value} (hc:(∃ n,v = iv n) ∨ ∃ b,v = sv b) (h:V1 φ v u):u = v:=by
 rcases hc with ⟨n,rfl⟩ | ⟨b,rfl⟩
 ·exact V1_num h
 ·rcases h with h | ⟨_,_,_,_,_,h,_⟩
  ·exact h
  ·cases h
theorem isRow_at {φ:Ph} {s:S} {w:World} {v v':Value} {n z:Nat} {l:List Value} (h:isRow s v n z l = true) (hl:∀ u ∈ l,(∃ n,u = iv n) ∨ ∃ b,u = sv b) (hV:V φ v v') (hS:Stt φ s w) :
  ∃ b off c,v' = .slice (some ⟨b,off,none⟩) n c ∧ ∀ (j:Nat) u,l[j]? = some u → w.cell? ⟨b,off + j,none⟩ = some u:=by
 unfold isRow at h
 split at h
 ·rename_i a n' z'
  rw [Bool.and_eq_true] at h
  obtain ⟨h1,h2⟩:=h
  obtain rfl:=Nat.eq_of_beq_eq_true h1
  split at h2
  ·rename_i r hr
   have e:=all2_eq (fun _ _ => eq1_eq) h2
   subst e
   obtain ⟨a',c,rfl,hSR⟩:=V_sl hV
   have hsp:=(readN_some.1 hr).1
   rcases hSR with ⟨h0,_⟩ | ⟨_,_,g,hg,rfl,_⟩
   ·exact absurd hsp h0
   obtain ⟨l',hL,_,hc⟩:=read_row hr hS.rel (a':=⟨g.b,a.off,none⟩) ⟨hsp,g,hg,rfl⟩
   refine ⟨g.b,a.off,c,rfl,fun j u hu => ?_⟩
   obtain ⟨y,hy,hV1⟩:=hL.at hu
   have e:=V1_const (hl u (List.mem_of_getElem? hu)) hV1
   subst e
   have:=hc j y hy
   rcases j with _ | j <;> simpa [Addr.add] using this
  ·cases h2
 ·cases h
theorem first_call {cl:Cl} (hcl:CallOk Tryz.prog cl) {f:FuncId} {args:List Value} {v:Value} {s:S} (hr:cl f args s0 = some (v,s)) (w:World) (hT:Tabs w) (args':Array Value) (ha:L (V ph0) args args'.toList) :
  Calls Tryz.prog f args' w fun e w' => ∃ φ v',e = .returned v' ∧ V φ v v' ∧ Stt φ s w' ∧ Below w.heap.size w w' ∧ ∀ x g,3 ≤ x → φ x = some g → w.heap.size ≤ g.b:=by
 obtain ⟨_,_,hcall⟩:=hcl _ _ _ _ _ hr
 refine (hcall ph0 w args' ha (stt0 hT)).mono ?_
 rintro e w' ⟨φ',v',rfl,hV,hP⟩
 have none3:∀ x g,3 ≤ x → ph0 x = some g → False:=fun x g h3 h => by
  unfold ph0 at h
  rw [if_neg (by omega),if_neg (by omega),if_neg (by omega)] at h
  cases h
 refine ⟨φ',v',rfl,hV,hP.stt,⟨hP.ext.out.1,hP.ext.out.2.1,hP.ext.out.2.2,hP.ext.size,fun k hk => hP.ext.kept k hk fun x g h3 _ h => (none3 x g h3 h).elim⟩,fun x g h3 hg => ?_⟩
 cases h0:ph0 x with
 | some g0 => exact (none3 x g0 h3 h0).elim
 | none =>
  rcases hP.ext.news x g h0 hg with h1 | ⟨y,g',hy3,_,hy,_⟩
  ·exact h1
  ·exact (none3 y g' hy3 hy).elim
theorem Stt.alloc {φ:Ph} {s:S} {w:World} (h:Stt φ s w) (o:Obj):Stt φ s (w.alloc o):=(Post.grown h ((Below.refl _ w).alloc (Nat.le_refl _) o)).stt
end Xe
end Go.Proofs.YtbioaoangfiijaaGreatDoor

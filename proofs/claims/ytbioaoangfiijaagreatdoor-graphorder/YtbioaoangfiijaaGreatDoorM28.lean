/- The walks of caught and of Wrong. -/
import Derived.Test.YtbioaoangfiijaaGreatDoorM27
import Derived.Test.YtbioaoangfiijaaGreatDoorM24
set_option maxRecDepth 100000
set_option maxHeartbeats 400000
namespace Go.Proofs.YtbioaoangfiijaaGreatDoor
open Go.RowKit
abbrev Z2C:Obj:=.cells #[.int .i64 0,.int .i64 0] 27 (0,0)
theorem caught_any (g:FuncId) (cap:Array Value) (er num:Int) (X:World → Prop) (w:World) (hz:er = 0 → num = 0) (hcf:∀ w:World,(callFunc g cap).run Tryz.prog w = .ok (.enter g cap) w)
  (hw:Calls Tryz.prog g cap (w.alloc Z2C) fun e w' => X w' ∧ w'.heap[w.heap.size]? = some Z2C ∧ Thrown er num e) :
  Calls Tryz.prog 16 #[.func (.func g) #[] cap] w fun e w' => e = .returned (.agg #[.int .i64 er,.int .i64 num]) ∧ ∃ wx,X wx ∧ wx.heap[w.heap.size]? = some Z2C ∧ w' = (wx.setCell ⟨w.heap.size,0,none⟩ (.int .i64 er)).setCell ⟨w.heap.size,1,none⟩ (.int .i64 num):=by
 have hmf:∀ (fn:Fn) (first cap:Array Value) (w:World),(Instr.makeFunc fn first cap).run Tryz.prog w = .ok (.func fn first cap) w:=fun _ _ _ _ => rfl
 go_enter_defers Tryz.func16,Tryz.ntmps16
 go_wp2_with fail
 refine hw.mono ?_
 rintro e w1 ⟨hX,hF,ht⟩
 obtain ⟨c0,c1,f0,f1⟩:=two_cell hF
 have HX:Hid (X w1):=hX
 have HF:Hid (w1.heap[w.heap.size]? = some Z2C):=hF
 clear hX hF
 by_cases h0:er = 0
 ·have hn:=hz h0
  subst h0
  subst hn
  obtain rfl:e = .returned (.tuple #[]):=ht
  clear hw hz
  go_wp2
  refine leaves_cons (f:=27) (args:=#[.pointer (some ⟨w.heap.size,0,none⟩)]) (by simp) (by simp [go_sem]) ?_
  refine (catch_none w.heap.size _).mono ?_
  rintro e u' w'' ⟨rfl,rfl,rfl⟩
  show Leaves _ _ _ _ [] .returning _
  exact ⟨.agg #[.int .i64 0,.int .i64 0],by simp [results,Tryz.results16,go_sem,c0,c1],rfl,w1,HX.out,HF.out,rfl⟩
 ·obtain rfl:e = .panicked [fltE er num]:=by unfold Thrown at ht; rw [if_neg h0] at ht; exact ht
  clear ht hw hz h0
  go_wp2
  refine leaves_cons (f:=27) (args:=#[.pointer (some ⟨w.heap.size,0,none⟩)]) (by simp) (by simp [go_sem]) ?_
  refine (catch_thrown w.heap.size er num [] _ HF.out).mono ?_
  rintro e u' w'' ⟨rfl,rfl,rfl⟩
  show Leaves _ _ _ _ [] .returning _
  exact ⟨.agg #[.int .i64 er,.int .i64 num],by simp [results,Tryz.results16,go_sem,c0,c1],rfl,w1,HX.out,HF.out,rfl⟩
theorem wrongL_zero (l:List Sy.Df):(Sy.wrongL l).1 = 0 → (Sy.wrongL l).2 = 0:=by
 have hd:∀ (l:List Sy.Df) (i n:Nat),(Sy.defsW l i n).1 = 0 → (Sy.defsW l i n).2 = 0:=by
  intro l
  induction l with
  | nil => intro i n _; rfl
  | cons d l ih =>
   intro i n h
   unfold Sy.defsW at h ⊢
   cases hw:Sy.dfW d n with
   | error e => rw [hw] at h; exact absurd h (dfW_ne hw)
   | ok m => rw [hw] at h; exact ih _ _ h
 unfold Sy.wrongL
 split
 ·intro h; simp at h
 ·exact hd _ _ _
theorem wrong_any (l:List Sy.Df) (a:Option Addr) (c:Nat) (w:World) (hX:DfsIn w.heap.size w l a) :
  Calls Tryz.prog 19 #[.slice a l.length c] w fun e w' => e = .returned (.agg #[.int .i64 (Sy.wrongL l).1,.int .i64 (Sy.wrongL l).2]) ∧ Below w.heap.size w w':=by
 obtain ⟨er,her⟩:∃ er,er = (Sy.wrongL l).1:=⟨_,rfl⟩
 obtain ⟨num,hnum⟩:∃ num,num = (Sy.wrongL l).2:=⟨_,rfl⟩
 have HZ:Hid (er = 0 → ((num:Nat):Int) = 0):=by intro h; have:=wrongL_zero l (by rw [← her]; exact h); rw [← hnum] at this; omega
 have HR:Hid ((er,num) = Sy.wrongL l):=by rw [her,hnum]; rfl
 rw [← her,← hnum]
 clear her hnum
 have HX:Hid (DfsIn w.heap.size w l a):=hX
 clear hX
 have hmf:∀ (fn:Fn) (first cap:Array Value) (w:World),(Instr.makeFunc fn first cap).run Tryz.prog w = .ok (.func fn first cap) w:=fun _ _ _ _ => rfl
 go_enter Tryz.func19,Tryz.ntmps19
 go_wp2_with fail
 have HG:Hid (w.grownBy (((w.alloc (.cells #[.slice a l.length c] 22)).alloc Z2C).alloc Z2C) none):=grown_trans (grown_trans (World.grownBy_alloc _ _ _) (World.grownBy_alloc _ _ _)) (World.grownBy_alloc _ _ _)
 refine (caught_any 32 #[.pointer (some ⟨w.heap.size,0,none⟩)] er num (fun w' => w.grownBy w' none ∧ w'.heap[w.heap.size + 1]? = some Z2C) _ HZ.out ?_ ?_).mono ?_
 ·intro w'
  first | rfl | kernel_rfl | simp [go_sem]
 ·refine (wrongf_any w.heap.size w.heap.size l a c er num _ ?_ (HX.out.same (same_grown HG.out (by simp) (Nat.le_refl _))) (by simp; omega) HR).mono ?_
  ·rw [Below.heap_alloc _ _ _ (by simp; omega),Below.heap_alloc _ _ _ (by simp)]
   exact heap_alloc_new w _
  ·rintro e w' ⟨hg,ht⟩
   refine ⟨⟨grown_trans HG.out hg,?_⟩,?_,ht⟩
   ·refine (hg.block _ (by simp) (by simp)).trans ?_
    rw [Below.heap_alloc _ _ _ (by simp)]
    have:=heap_alloc_new (w.alloc (.cells #[.slice a l.length c] 22)) Z2C
    simpa using this
   ·exact (hg.block _ (by simp) (by simp)).trans (heap_alloc_new _ _)
 rintro e w1 ⟨rfl,wx,⟨hg,h2⟩,hF,rfl⟩
 obtain ⟨c0,c1,f0,f1⟩:=two_cell h2
 have HB:Hid (Below w.heap.size w wx):=⟨hg.os,hg.tape,hg.output,hg.size,fun k hk => hg.block k hk (by simp)⟩
 clear hg h2 hF
 go_wp2
 refine bodyPost_ret (v:=.agg #[.int .i64 er,.int .i64 num]) (by simp [results,Tryz.results19,go_sem,c0,c1]) rfl ⟨rfl,?_⟩
 exact (((HB.out.setCell (p:=⟨w.heap.size + 1 + 1,0,none⟩) (by simp; omega) _).setCell (p:=⟨w.heap.size + 1 + 1,1,none⟩) (by simp; omega) _).setCell (p:=⟨w.heap.size + 1,0,none⟩) (by simp) _).setCell (p:=⟨w.heap.size + 1,1,none⟩) (by simp) _
namespace Sm
open Sy
theorem nm_ok {s:ByteArray} (h:nm s = true):s ≠ ⟨#[]⟩ ∧ s.size ≤ 12:=by
 have h':Lx.named s.toList = true:=h
 refine ⟨?_,?_⟩
 ·rintro rfl
  rw [named_bad (.inl rfl)] at h'
  cases h'
 ·by_cases hb:12 < s.size
  ·rw [named_bad (.inr hb)] at h'
   cases h'
  ·omega
theorem head_node {d:Df} {n:Nat} (h:dfHead d n = 0):nodeW d.kind 4 40 n = 0:=by
 by_cases h1:nodeW d.kind 4 40 n = 0
 ·exact h1
 ·unfold dfHead at h
  rw [if_pos h1] at h
  exact h
theorem head_name {d:Df} {n:Nat} (h:dfHead d n = 0):nm d.name = true ∧ (d.kind = 2 ∨ d.kind = 3 → d.params.length ≤ 6):=by
 have h1:=head_node h
 unfold dfHead at h
 rw [if_neg (by simpa using h1)] at h
 cases hn:nm d.name with
 | false => rw [if_pos hn] at h; cases h
 | true =>
  rw [if_neg (by rw [hn]; decide)] at h
  refine ⟨rfl,fun hk => ?_⟩
  by_cases h6:6 < d.params.length
  ·rw [if_pos ⟨hk,h6⟩] at h; cases h
  ·omega
theorem defs_fit:∀ (l:List Df) (i n:Nat),n ≤ 2000 → (defsW l i n).1 = 0 → ∀ (k:Nat) (d:Df),l[k]? = some d → ∃ j,j + 1 ≤ 2000 ∧ dfHead d j = 0 ∧ (d.kind ≠ 1 → ∃ m,bodyOf (stW 39) d.body (j + 1) = .ok m)
 | [],_,_,_,_,k,d,h => by simp at h
 | d :: l,i,n,hn,h,k,d',hd => by
  unfold defsW at h
  cases hw:dfW d n with
  | error e => rw [hw] at h; exact absurd h (dfW_ne hw)
  | ok m =>
   rw [hw] at h
   unfold dfW at hw
   by_cases h0:dfHead d n = 0
   ·rw [if_neg (by simpa using h0)] at hw
    have hj:=(nodeW_zero (head_node h0)).1
    have hm:m ≤ 2000 ∧ (d.kind ≠ 1 → bodyOf (stW 39) d.body (n + 1) = .ok m):=by
     by_cases h1:d.kind = 1
     ·rw [if_pos h1] at hw; cases hw; exact ⟨hj,fun h => absurd h1 h⟩
     ·rw [if_neg h1] at hw; exact ⟨bodyOf_le (stW_le 39) hj hw,fun _ => hw⟩
    cases k with
    | zero => simp at hd; subst hd; exact ⟨n,hj,h0,fun h1 => ⟨m,hm.2 h1⟩⟩
    | succ k => exact defs_fit l (i + 1) m hm.1 h k d' (by simpa using hd)
   ·rw [if_pos h0] at hw; cases hw
theorem right_fit {l:List Df} (hw:(wrongL l).1 = 0):l.length ≤ 30 ∧ ∀ (k:Nat) (d:Df),l[k]? = some d → ∃ j,j + 1 ≤ 2000 ∧ dfHead d j = 0 ∧ (d.kind ≠ 1 → ∃ m,bodyOf (stW 39) d.body (j + 1) = .ok m):=by
 unfold wrongL at hw
 by_cases h:30 < l.length
 ·rw [if_pos h] at hw; cases hw
 ·rw [if_neg h] at hw; exact ⟨by omega,defs_fit l 0 0 (by omega) hw⟩
theorem right_name {l:List Df} (hw:(wrongL l).1 = 0) (k:Nat) (d:Df) (h:l[k]? = some d):d.name ≠ ⟨#[]⟩ ∧ d.name.size ≤ 12:=by
 obtain ⟨j,_,h0,_⟩:=(right_fit hw).2 k d h
 exact nm_ok (head_name h0).1
theorem fit_of {l:List Df} (hw:(wrongL l).1 = 0) {u:List Unit} (hh:each (head l) l 0 = .ok u):Fit l:=by
 have hf:=(right_fit hw).2
 refine ⟨fun i d hd => ?_,fun i d hd => ?_,fun i d hd h1 => ?_⟩
 ·obtain ⟨x,_,e⟩:=(each_at hh).2 i d hd
  exact e
 ·obtain ⟨j,_,h0,_⟩:=hf i d hd
  exact ⟨(nodeW_zero (head_node h0)).2.1,(nodeW_zero (head_node h0)).2.2.1⟩
 ·obtain ⟨j,hj,h0,hb⟩:=hf i d hd
  obtain ⟨m,hm⟩:=hb h1
  exact ⟨(head_name h0).2,j + 1,m,hj,hm⟩
def owners2 (l:List Df):Except (Int × Nat) (List Ow3):=match prog l with
 | some e => .error e
 | none => match each (head l) l 0 with
  | .error e => .error e
  | .ok _ => match each (bodyT l) l 0 with
   | .error e => .error e
   | .ok talks => ownersFrom l talks (List.range l.length)
theorem owners_eq (l:List Df):owners l = if (wrongL l).1 ≠ 0 then .error (wrongL l) else owners2 l:=rfl
end Sm
end Go.Proofs.YtbioaoangfiijaaGreatDoor

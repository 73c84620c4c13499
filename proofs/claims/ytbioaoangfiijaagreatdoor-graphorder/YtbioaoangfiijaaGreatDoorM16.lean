/- The walks of params,head and heads. -/
import Derived.Test.YtbioaoangfiijaaGreatDoorM15
set_option maxRecDepth 100000
set_option maxHeartbeats 4000000
namespace Go.Proofs.YtbioaoangfiijaaGreatDoor
open Go.RowKit
namespace Sm
def fv {α:Type} (r:Except Int α):Except Int Value:=match r with | .ok _ => .ok (.tuple #[]) | .error e => .error e
abbrev lkB (n:Nat) (a:Option Addr) (c M:Nat) (i:Int):Obj:=.cells #[.slice a n c,.map (some M),.int .i64 i] 93 (0,0)
def cnts (seen:List ByteArray):Ms.Row:=seen.map (fun s => (s,.int .i64 1))
theorem cnts_val (k:ByteArray):∀ seen:List ByteArray,Ms.val (cnts seen) k = if seen.any (fun s => decide (s = k)) = true then some (.int .i64 1) else none
 | [] => rfl
 | s :: seen => by
  have ih:=cnts_val k seen
  unfold cnts at *
  rw [List.map_cons,Ms.val_cons,ih]
  by_cases h:k = s
  ·subst h; simp
  ·have h':¬ s = k:=fun e => h e.symm
   rw [if_neg h,List.any_cons,decide_eq_false h',Bool.false_or]
theorem cnts_app (seen:List ByteArray) (k:ByteArray):cnts (seen ++ [k]) = cnts seen ++ [(k,.int .i64 1)]:=by simp [cnts]
theorem at_set {k:ByteArray} {v:Value}:∀ {l:Ms.Row} {b i:Nat} {v0:Value},Ms.at' l k b = some (b + i,v0) → Ms.at' (l.set i (k,v)) k b = some (b + i,v)
 | [],b,i,v0,h => by cases h
 | p :: l,b,i,v0,h => by
  rw [Ms.at'] at h
  by_cases hp:k = p.1
  ·rw [if_pos hp] at h
   obtain rfl:i = 0:=by simp at h; omega
   simp [Ms.at']
  ·rw [if_neg hp] at h
   obtain ⟨q,hq,_⟩:=Ms.at_some h
   obtain ⟨j,rfl⟩:∃ j,i = j + 1:=⟨i - 1,by omega⟩
   rw [List.set_cons_succ,Ms.at',if_neg hp,show b + (j + 1) = b + 1 + j by omega]
   exact at_set (by rw [h]; congr 2; omega)
theorem grown_own {a b c:World} {M:Nat} (h:a.grownBy b none) (k:b.grownBy c (some M)) (hM:a.heap.size ≤ M):a.grownBy c none :=
 ⟨k.os.trans h.os,k.tape.trans h.tape,k.output.trans h.output,Nat.le_trans h.size k.size,fun j hj _ => (k.block j (by have:=h.size; omega) (by simp; omega)).trans (h.block j hj (by simp))⟩
theorem params_any (B:Nat) (l:List Sy.Df) (a:Option Addr) (c M:Nat) (num:Int) (ps:List Sy.Pm) (pa:Option Addr) (pc:Nat) (R:Ms.Row) (w:World) (r:Except Int Value) (hD:Hid (DfsIn B w l a)) (hB:B ≤ w.heap.size) (hM:Hid (Ms.In w M R)) (hR:Hid (∀ s,Ms.val R s = (numOf l s).map (fun i => .int .i64 (i:Int))))
  (hP:Hid (PmsIn B w ps pa)) (hr:Hid (r = fv (Sm.params l ps []))) :
  Calls Tryz.prog 65 #[lkV l.length a c M num,.slice pa ps.length pc] w fun e w' => Fe num r w e w':=by
 have hmm:∀ w:World,(Instr.makeMap 33 Option.none).run Tryz.prog w = .ok (.map (some w.heap.size)) (w.alloc (.map #[] 0)):=fun _ => rfl
 have hz:∀ w',(zeroValue 3).run Tryz.prog w' = .ok (.int .i64 0) w':=fun w' => by kernel_rfl
 obtain ⟨W0,hW0⟩:∃ W0,W0 = (w.alloc (lkB l.length a c M num)).alloc (.map #[] 0):=⟨_,rfl⟩
 have HG0:Hid (w.grownBy W0 none):=by rw [hW0]; exact grown_a2 _ _
 have HIn0:Hid (Ms.In W0 (w.heap.size + 1) (cnts [])):=by
  rw [hW0]
  have:=Ms.In.new (w.alloc (lkB l.length a c M num))
  rw [World.size_alloc] at this
  exact this
 have HLk:Hid (W0.heap[w.heap.size]? = some (lkB l.length a c M num)):=by rw [hW0]; exact (Below.heap_alloc _ _ _ (by simp)).trans (heap_alloc_new _ _)
 have HW0:Hid (W0 = _):=hW0
 have hMlt:=hM.out.lt
 have hpl:ps.length ≤ maxLen:=hP.out.1
 obtain ⟨np,hnp⟩:∃ np,np = ps.length:=⟨_,rfl⟩
 have HNP:Hid (np = ps.length):=hnp
 rw [← hnp] at hpl ⊢
 clear hW0 hnp
 go_enter Tryz.func65,Tryz.ntmps65
 go_wp2
 rw [← HW0.out]
 go_loopw [10] (fun q wr => ∃ (j:Nat) (seen:List ByteArray),q = .int .i64 j ∧ j ≤ np ∧ Hid (Ms.In wr (w.heap.size + 1) (cnts seen)) ∧ Hid (W0.grownBy wr (some (w.heap.size + 1))) ∧ Hid (r = fv (Sm.params l (ps.drop j) seen))) (fun q _ => np - (intOf q).toNat)
 case atStart => exact ⟨0,[],rfl,Nat.zero_le _,HIn0,World.grownBy.refl _ _,by rw [List.drop_zero]; exact hr⟩
 case round =>
  obtain ⟨j,seen,rfl,hj,HI,HG,HR⟩:=hrel
  have HGw:Hid (w.grownBy wr none):=grown_own HG0.out HG.out (by omega)
  have hLb:wr.heap[w.heap.size]? = some (lkB l.length a c M num):=(HG.out.block _ (lt_of_block HLk.out) (by simp)).trans HLk.out
  have hLlt:=lt_of_block hLb
  by_cases hlt:j < np
  ·have hj1:j < ps.length:=by rw [← HNP.out]; exact hlt
   obtain ⟨p,hp⟩:∃ p,ps[j]? = some p:=⟨_,List.getElem?_eq_getElem hj1⟩
   have hdr:ps.drop j = p :: ps.drop (j + 1):=by rw [List.drop_eq_getElem_cons hj1,(List.getElem?_eq_some_iff.1 hp).2]
   obtain ⟨pb,po,hpa,hpb,p0,p1,p2,_⟩:=(hP.out.same (same_grown HGw.out (by simp) hB)).2 j p hp
   obtain ⟨sb,hsb⟩:∃ sb,sb = seen.any (fun s => decide (s = p.name)):=⟨_,rfl⟩
   have HRr:Hid (r = fv (if sb = true then .error 7 else if p.ty.kind = 3 then andThen (Sm.want l 3 p.ty.gen) fun _ => Sm.params l (ps.drop (j + 1)) (seen ++ [p.name]) else Sm.params l (ps.drop (j + 1)) (seen ++ [p.name]))):=by
    unfold Hid
    rw [HR.out,hdr,Sm.params,hsb]
   have HI1:Ms.In (wr.alloc (pmB p)) (w.heap.size + 1) (cnts seen):=HI.out.grow (grown_a _)
   have hL1:=(Ms.run_lookup Tryz.underlying33 Tryz.underlying9 (k:=p.name) HI1 (hz _)).1
   rw [cnts_val,← hsb] at hL1
   have hpbw:pb < wr.heap.size:=by have:=HGw.out.size; omega
   have HJ:Hid (j + 1 ≤ np):=hlt
   have hj9:j + 1 ≤ 9223372036854775807:=by unfold maxLen at hpl; omega
   have hjp:(j:Int) < (np:Int):=by omega
   have hilt:=HI.out.lt
   subst hpa
   cases sb with
   | true =>
    have HRe:Hid (r = .error 7):=HRr.out
    have hv:Ms.val (cnts seen) p.name = some (.int .i64 1):=by rw [cnts_val,← hsb]; rfl
    obtain ⟨ix,hix⟩:∃ ix,Ms.at' (cnts seen) p.name 0 = some (ix,.int .i64 1):=by
     unfold Ms.val at hv
     cases ha:Ms.at' (cnts seen) p.name 0 with
     | none => rw [ha] at hv; cases hv
     | some x => rw [ha] at hv; obtain ⟨x1,x2⟩:=x; simp at hv; exact ⟨x1,by rw [hv]⟩
    obtain ⟨w2,hup,hI2,hg2⟩:=Ms.run_set Tryz.underlying33 Tryz.underlying9 (k:=p.name) (v:=.int .i64 2) HI1 hix
    have hv2:Ms.val ((cnts seen).set ix (p.name,.int .i64 2)) p.name = some (.int .i64 2):=by
     unfold Ms.val
     have:=at_set (v:=.int .i64 2) (b:=0) (i:=ix) (v0:=.int .i64 1) (by rw [Nat.zero_add]; exact hix)
     rw [this]
     rfl
    have hL2:=(Ms.run_lookup Tryz.underlying33 Tryz.underlying9 (k:=p.name) hI2 (hz _)).1
    rw [hv2] at hL2
    simp only [if_true,Option.getD_some] at hL1 hL2
    have hb2:w2.heap[wr.heap.size]? = some (pmB p):=(hg2.block _ (by simp) (by simp; omega)).trans (heap_alloc_new _ _)
    obtain ⟨t0,t1,t2⟩:=three_cell hb2
    obtain ⟨u0,u1,u2⟩:=three_cell ((hg2.block _ (by simp; omega) (by simp)).trans ((Below.heap_alloc wr (pmB p) _ hLlt).trans hLb))
    have HG2:Hid (w.grownBy w2 none):=grown_own (grown_trans HGw.out (grown_a _)) hg2 (by omega)
    clear hdr hp hsb HI1 hI2 hg2 hv hix hv2 hb2 hLb
    go_wp2_with fail
    refine (fail_any l.length a c M num 7 _).mono ?_
    rintro e w9 ⟨rfl,hg9⟩
    have HE:Hid (Fe num r w (.panicked [fltE 7 num]) w9):=⟨grown_trans HG2.out hg9,by rw [HRe.out]⟩
    clear hg9
    go_wp2
    exact ⟨rfl,HE.out⟩
   | false =>
    have hv:Ms.val (cnts seen) p.name = none:=by rw [cnts_val,← hsb]; rfl
    obtain ⟨w2,hup,hI2,hg2⟩:=Ms.run_add Tryz.underlying33 Tryz.underlying9 (k:=p.name) (v:=.int .i64 1) HI1 hv
    rw [← cnts_app] at hI2
    have hL2:=(Ms.run_lookup Tryz.underlying33 Tryz.underlying9 (k:=p.name) hI2 (hz _)).1
    rw [cnts_val] at hL2
    simp only [List.any_append,List.any_cons,List.any_nil,decide_true,Bool.or_true,Bool.true_or,if_true,Option.getD_some] at hL2
    simp only [Bool.false_eq_true,if_false,Option.getD_none] at hL1
    have hb2:w2.heap[wr.heap.size]? = some (pmB p):=(hg2.block _ (by simp) (by simp; omega)).trans (heap_alloc_new _ _)
    obtain ⟨t0,t1,t2⟩:=three_cell hb2
    obtain ⟨u0,u1,u2⟩:=three_cell ((hg2.block _ (by simp; omega) (by simp)).trans ((Below.heap_alloc wr (pmB p) _ hLlt).trans hLb))
    have HI2:Hid (Ms.In w2 (w.heap.size + 1) (cnts (seen ++ [p.name]))):=hI2
    have HG02:Hid (W0.grownBy w2 (some (w.heap.size + 1))):=grown_trans (HG.out.andThen (grown_a (pmB p)) (fun j e => by cases e)) hg2
    have HG2:Hid (w.grownBy w2 none):=grown_own (grown_trans HGw.out (grown_a _)) hg2 (by omega)
    have hw2l:w.heap.size < w2.heap.size:=by have:=HG2.out.size; have:=hI2.lt; omega
    clear hdr hp hsb HI1 hI2 hg2 hv hb2 hLb
    by_cases h3:p.ty.kind = 3
    ·have e3:(p.ty.kind == 3) = true:=by simpa using h3
     obtain ⟨rv,hrv⟩:∃ rv:Except Int Value,rv = match Sm.want l 3 p.ty.gen with | .ok i => .ok (.int .i64 (i:Int)) | .error y => .error y:=⟨_,rfl⟩
     have HRV:Hid (rv = match Sm.want l 3 p.ty.gen with | .ok i => .ok (.int .i64 (i:Int)) | .error y => .error y):=hrv
     have HRw:Hid (r = fv (andThen (Sm.want l 3 p.ty.gen) fun _ => Sm.params l (ps.drop (j + 1)) (seen ++ [p.name]))):=by
      have:=HRr.out
      rw [if_neg (by decide),if_pos h3] at this
      exact this
     have HD2:Hid (DfsIn B w2 l a):=hD.out.same (same_grown HG2.out (by simp) hB)
     have HM2:Hid (Ms.In w2 M R):=hM.out.grow HG2.out
     have hB2:B ≤ w2.heap.size:=by omega
     clear h3 hrv
     go_wp2_with fail
     refine (want_any B l a c M num 3 p.ty.gen R w2 rv HD2 hB2 HM2 hR HRV).mono ?_
     rintro e w3 ⟨hg3,he3⟩
     have HG3:Hid (w.grownBy w3 none):=grown_trans HG2.out hg3
     cases hwt:Sm.want l 3 p.ty.gen with
     | error y =>
      have hrv:rv = .error y:=by rw [HRV.out,hwt]
      subst hrv
      obtain rfl:=he3
      have HE:Hid (Fe num r w (.panicked [fltE y num]) w3):=⟨HG3.out,by rw [HRw.out,hwt]; rfl⟩
      clear hg3 hwt
      go_wp2
      exact ⟨rfl,HE.out⟩
     | ok i =>
      have hrv:rv = .ok (.int .i64 (i:Int)):=by rw [HRV.out,hwt]
      subst hrv
      obtain rfl:=he3
      have HRn:Hid (r = fv (Sm.params l (ps.drop (j + 1)) (seen ++ [p.name]))):=by unfold Hid; rw [HRw.out,hwt]; rfl
      have HI3:Hid (Ms.In w3 (w.heap.size + 1) (cnts (seen ++ [p.name]))):=HI2.out.grow hg3
      have HG03:Hid (W0.grownBy w3 (some (w.heap.size + 1))):=HG02.out.andThen hg3 (fun j e => by cases e)
      clear hg3 hwt
      go_wp2
      go_roundw
      case rel => exact ⟨j + 1,seen ++ [p.name],by go_num,HJ.out,HI3,HG03,HRn⟩
      case measure => have:=HJ.out; simp [intOf]; omega
    ·have e3:(p.ty.kind == 3) = false:=by simpa using h3
     have HRn:Hid (r = fv (Sm.params l (ps.drop (j + 1)) (seen ++ [p.name]))):=by
      have:=HRr.out
      rw [if_neg (by decide),if_neg h3] at this
      exact this
     clear h3
     go_wp2
     go_roundw
     case rel => exact ⟨j + 1,seen ++ [p.name],by go_num,HJ.out,HI2,HG02,HRn⟩
     case measure => have:=HJ.out; simp [intOf]; omega
  ·have HRe:Hid (r = .ok (.tuple #[])):=by
    have h1:=HR.out
    have h2:=HNP.out
    rw [List.drop_of_length_le (by omega)] at h1
    exact h1
   have hjp:¬ (j:Int) < (np:Int):=by omega
   go_wp2
   go_end0
   exact ⟨HGw.out,by rw [HRe.out]⟩
end Sm
namespace Sm
theorem head_any (B:Nat) (l:List Sy.Df) (a:Option Addr) (c M i:Nat) (me:Sy.Df) (R:Ms.Row) (w:World) (r:Except Int Value) (hD:Hid (DfsIn B w l a)) (hB:B ≤ w.heap.size) (hM:Hid (Ms.In w M R)) (hR:Hid (∀ s,Ms.val R s = (numOf l s).map (fun i => .int .i64 (i:Int))))
  (hme:Hid (l[i]? = some me)) (hr:Hid (r = fv (Sm.head l me))) :
  Calls Tryz.prog 37 #[lkV l.length a c M (i:Int)] w fun e w' => Fe (i:Int) r w e w':=by
 obtain ⟨W0,hW0⟩:∃ W0,W0 = w.alloc (lkB l.length a c M (i:Int)):=⟨_,rfl⟩
 have HG0:Hid (w.grownBy W0 none):=by rw [hW0]; exact grown_a _
 have HLk0:Hid (W0.heap[w.heap.size]? = some (lkB l.length a c M (i:Int))):=by rw [hW0]; exact heap_alloc_new _ _
 have HD0:Hid (DfsIn B W0 l a):=hD.out.same (same_grown HG0.out (by simp) hB)
 have hB0:B ≤ W0.heap.size:=by have:=HG0.out.size; omega
 have HW0:Hid (W0 = _):=hW0
 clear hW0
 go_enter Tryz.func37,Tryz.ntmps37
 go_wp2_with fail
 rw [← HW0.out]
 refine (def_any B l a c M i me W0 HD0 hB0 hme).mono ?_
 rintro e w1 ⟨hg1,val,rfl,pa,pc,ba,bc,rfl,hdf⟩
 obtain ⟨W2,hW2⟩:∃ W2,W2 = w1.alloc (dfB me pa pc ba bc):=⟨_,rfl⟩
 have HW2:Hid (W2 = _):=hW2
 have HG2:Hid (w.grownBy W2 none):=by rw [hW2]; exact grown_trans (grown_trans HG0.out hg1) (grown_a _)
 have HD:Hid (W2.heap[w1.heap.size]? = some (dfB me pa pc ba bc)):=by rw [hW2]; exact heap_alloc_new _ _
 have hl1:w1.heap[w.heap.size]? = some (lkB l.length a c M (i:Int)):=(hg1.block _ (lt_of_block HLk0.out) (by simp)).trans HLk0.out
 have HLk:Hid (W2.heap[w.heap.size]? = some (lkB l.length a c M (i:Int))):=by rw [hW2]; exact (Below.heap_alloc _ _ _ (lt_of_block hl1)).trans hl1
 have HPm:Hid (PmsIn B W2 me.params pa):=hdf.2.2.2.1.same (same_grown (grown_trans hg1 (by rw [hW2]; exact grown_a _)) (by simp) hB0)
 obtain ⟨m0,m1,m2⟩:=three_cell hl1
 have hwl:=lt_of_block hl1
 clear hg1 hdf hW2 hl1
 by_cases h1:me.kind = 1
 ·have HRr:Hid (r = fv (Sm.plain me.ty)):=by unfold Hid; rw [hr.out,Sm.head,if_pos h1]
  have e1:(me.kind == 1) = true:=by simpa using h1
  clear h1 hr
  obtain ⟨rv1,hrv1⟩:∃ rv:Except Int Value,rv = match Sm.plain me.ty with | .ok _ => .ok (.tuple #[]) | .error e => .error e:=⟨_,rfl⟩
  have HRV1:Hid (rv1 = match Sm.plain me.ty with | .ok _ => .ok (.tuple #[]) | .error e => .error e):=hrv1
  clear hrv1
  go_wp2_with fail
  refine (plain_any l.length a c M (i:Int) me.ty _ rv1 HRV1).mono ?_
  rintro e w4 ⟨hg4,he4⟩
  have HG4:Hid (w.grownBy w4 none):=grown_trans (by rw [HW2.out] at HG2; exact HG2.out) hg4
  cases hpl1:Sm.plain me.ty with
  | error y =>
   have hrv:rv1 = .error y:=by rw [HRV1.out,hpl1]
   subst hrv
   obtain rfl:=he4
   have HE:Hid (Fe (i:Int) r w (.panicked [fltE y (i:Int)]) w4):=⟨HG4.out,by rw [HRr.out,hpl1]; rfl⟩
   clear hg4 hpl1
   go_wp2
   exact ⟨rfl,HE.out⟩
  | ok u1 =>
   have hrv:rv1 = .ok (.tuple #[]):=by rw [HRV1.out,hpl1]
   subst hrv
   obtain rfl:=he4
   have HE:Hid (Fe (i:Int) r w (.returned (.tuple #[])) w4):=⟨HG4.out,by rw [HRr.out,hpl1]; rfl⟩
   clear hg4 hpl1
   go_wp2
   go_end0
   exact HE.out
 ·have e1:(me.kind == 1) = false:=by simpa using h1
  by_cases h2:me.kind = 2
  ·have HRr:Hid (r = fv (andThen (Sm.params l me.params []) fun _ => Sm.plain me.ty)):=by unfold Hid; rw [hr.out,Sm.head,if_neg h1,if_pos h2]
   have e2:(me.kind == 2) = true:=by simpa using h2
   clear h1 h2 hr
   obtain ⟨rp,hrp⟩:∃ rp:Except Int Value,rp = fv (Sm.params l me.params []):=⟨_,rfl⟩
   have HRP:Hid (rp = fv (Sm.params l me.params [])):=hrp
   have HD2:Hid (DfsIn B W2 l a):=hD.out.same (same_grown HG2.out (by simp) hB)
   have HM2:Hid (Ms.In W2 M R):=hM.out.grow HG2.out
   have hB2:B ≤ W2.heap.size:=by have:=HG2.out.size; omega
   clear hrp
   go_wp2_with fail
   rw [← HW2.out]
   refine (params_any B l a c M (i:Int) me.params pa pc R W2 rp HD2 hB2 HM2 hR HPm HRP).mono ?_
   rintro e w3 ⟨hg3,he3⟩
   have HG3:Hid (w.grownBy w3 none):=grown_trans HG2.out hg3
   have hd3:=(hg3.block _ (lt_of_block HD.out) (by simp)).trans HD.out
   have hl3:=(hg3.block _ (lt_of_block HLk.out) (by simp)).trans HLk.out
   obtain ⟨n0,n1,n2,n3,n4,n5,n6,n7,n8⟩:=nine_cell hd3
   obtain ⟨k0,k1,k2⟩:=three_cell hl3
   have HD3:Hid (w3.heap[w1.heap.size]? = some (dfB me pa pc ba bc)):=hd3
   have HL3:Hid (w3.heap[w.heap.size]? = some (lkB l.length a c M (i:Int))):=hl3
   cases hpp:Sm.params l me.params [] with
   | error y =>
    have hrv:rp = .error y:=by rw [HRP.out,hpp]; rfl
    subst hrv
    obtain rfl:=he3
    have HE:Hid (Fe (i:Int) r w (.panicked [fltE y (i:Int)]) w3):=⟨HG3.out,by rw [HRr.out,hpp]; rfl⟩
    clear hg3 hpp hd3 hl3
    go_wp2
    exact ⟨rfl,HE.out⟩
   | ok up =>
    have hrv:rp = .ok (.tuple #[]):=by rw [HRP.out,hpp]; rfl
    subst hrv
    obtain rfl:=he3
    have HRq:Hid (r = fv (Sm.plain me.ty)):=by unfold Hid; rw [HRr.out,hpp]; rfl
    clear hg3 hpp hd3 hl3 m0 m1 m2
    obtain ⟨rv1,hrv1⟩:∃ rv:Except Int Value,rv = match Sm.plain me.ty with | .ok _ => .ok (.tuple #[]) | .error e => .error e:=⟨_,rfl⟩
    have HRV1:Hid (rv1 = match Sm.plain me.ty with | .ok _ => .ok (.tuple #[]) | .error e => .error e):=hrv1
    clear hrv1
    go_wp2_with fail
    refine (plain_any l.length a c M (i:Int) me.ty _ rv1 HRV1).mono ?_
    rintro e w4 ⟨hg4,he4⟩
    have HG4:Hid (w.grownBy w4 none):=grown_trans HG3.out hg4
    cases hpl1:Sm.plain me.ty with
    | error y =>
     have hrv:rv1 = .error y:=by rw [HRV1.out,hpl1]
     subst hrv
     obtain rfl:=he4
     have HE:Hid (Fe (i:Int) r w (.panicked [fltE y (i:Int)]) w4):=⟨HG4.out,by rw [HRq.out,hpl1]; rfl⟩
     clear hg4 hpl1
     go_wp2
     exact ⟨rfl,HE.out⟩
    | ok u1 =>
     have hrv:rv1 = .ok (.tuple #[]):=by rw [HRV1.out,hpl1]
     subst hrv
     obtain rfl:=he4
     have HE:Hid (Fe (i:Int) r w (.returned (.tuple #[])) w4):=⟨HG4.out,by rw [HRq.out,hpl1]; rfl⟩
     clear hg4 hpl1
     go_wp2
     go_end0
     exact HE.out
  ·have e2:(me.kind == 2) = false:=by simpa using h2
   by_cases h3:me.kind = 3
   ·have HRr:Hid (r = fv (andThen (Sm.params l me.params []) fun _ => andThen (Sm.plain me.takes) fun _ => Sm.plain me.ty)):=by unfold Hid; rw [hr.out,Sm.head,if_neg h1,if_neg h2,if_pos h3]
    have e3:(me.kind == 3) = true:=by simpa using h3
    clear h1 h2 h3 hr
    obtain ⟨rp,hrp⟩:∃ rp:Except Int Value,rp = fv (Sm.params l me.params []):=⟨_,rfl⟩
    have HRP:Hid (rp = fv (Sm.params l me.params [])):=hrp
    have HD2:Hid (DfsIn B W2 l a):=hD.out.same (same_grown HG2.out (by simp) hB)
    have HM2:Hid (Ms.In W2 M R):=hM.out.grow HG2.out
    have hB2:B ≤ W2.heap.size:=by have:=HG2.out.size; omega
    clear hrp
    go_wp2_with fail
    rw [← HW2.out]
    refine (params_any B l a c M (i:Int) me.params pa pc R W2 rp HD2 hB2 HM2 hR HPm HRP).mono ?_
    rintro e w3 ⟨hg3,he3⟩
    have HG3:Hid (w.grownBy w3 none):=grown_trans HG2.out hg3
    have hd3:=(hg3.block _ (lt_of_block HD.out) (by simp)).trans HD.out
    have hl3:=(hg3.block _ (lt_of_block HLk.out) (by simp)).trans HLk.out
    obtain ⟨n0,n1,n2,n3,n4,n5,n6,n7,n8⟩:=nine_cell hd3
    obtain ⟨k0,k1,k2⟩:=three_cell hl3
    have HD3:Hid (w3.heap[w1.heap.size]? = some (dfB me pa pc ba bc)):=hd3
    have HL3:Hid (w3.heap[w.heap.size]? = some (lkB l.length a c M (i:Int))):=hl3
    cases hpp:Sm.params l me.params [] with
    | error y =>
     have hrv:rp = .error y:=by rw [HRP.out,hpp]; rfl
     subst hrv
     obtain rfl:=he3
     have HE:Hid (Fe (i:Int) r w (.panicked [fltE y (i:Int)]) w3):=⟨HG3.out,by rw [HRr.out,hpp]; rfl⟩
     clear hg3 hpp hd3 hl3
     go_wp2
     exact ⟨rfl,HE.out⟩
    | ok up =>
     have hrv:rp = .ok (.tuple #[]):=by rw [HRP.out,hpp]; rfl
     subst hrv
     obtain rfl:=he3
     have HRq:Hid (r = fv (andThen (Sm.plain me.takes) fun _ => Sm.plain me.ty)):=by unfold Hid; rw [HRr.out,hpp]; rfl
     clear hg3 hpp hd3 hl3 m0 m1 m2
     obtain ⟨rv1,hrv1⟩:∃ rv:Except Int Value,rv = match Sm.plain me.takes with | .ok _ => .ok (.tuple #[]) | .error e => .error e:=⟨_,rfl⟩
     have HRV1:Hid (rv1 = match Sm.plain me.takes with | .ok _ => .ok (.tuple #[]) | .error e => .error e):=hrv1
     clear hrv1
     go_wp2_with fail
     refine (plain_any l.length a c M (i:Int) me.takes _ rv1 HRV1).mono ?_
     rintro e w4 ⟨hg4,he4⟩
     have HG4:Hid (w.grownBy w4 none):=grown_trans HG3.out hg4
     cases hpl1:Sm.plain me.takes with
     | error y =>
      have hrv:rv1 = .error y:=by rw [HRV1.out,hpl1]
      subst hrv
      obtain rfl:=he4
      have HE:Hid (Fe (i:Int) r w (.panicked [fltE y (i:Int)]) w4):=⟨HG4.out,by rw [HRq.out,hpl1]; rfl⟩
      clear hg4 hpl1
      go_wp2
      exact ⟨rfl,HE.out⟩
     | ok u1 =>
      have hrv:rv1 = .ok (.tuple #[]):=by rw [HRV1.out,hpl1]
      subst hrv
      obtain rfl:=he4
      have HRs:Hid (r = fv (Sm.plain me.ty)):=by unfold Hid; rw [HRq.out,hpl1]; rfl
      obtain ⟨_,_,o2,o3,_⟩:=nine_cell ((hg4.block _ (lt_of_block HD3.out) (by simp)).trans HD3.out)
      obtain ⟨l0,l1,l2⟩:=three_cell ((hg4.block _ (lt_of_block HL3.out) (by simp)).trans HL3.out)
      clear hg4 hpl1
      obtain ⟨rv2,hrv2⟩:∃ rv:Except Int Value,rv = match Sm.plain me.ty with | .ok _ => .ok (.tuple #[]) | .error e => .error e:=⟨_,rfl⟩
      have HRV2:Hid (rv2 = match Sm.plain me.ty with | .ok _ => .ok (.tuple #[]) | .error e => .error e):=hrv2
      clear hrv2
      go_wp2_with fail
      refine (plain_any l.length a c M (i:Int) me.ty _ rv2 HRV2).mono ?_
      rintro e w5 ⟨hg5,he5⟩
      have HG5:Hid (w.grownBy w5 none):=grown_trans HG4.out hg5
      cases hpl2:Sm.plain me.ty with
      | error y =>
       have hrv:rv2 = .error y:=by rw [HRV2.out,hpl2]
       subst hrv
       obtain rfl:=he5
       have HE:Hid (Fe (i:Int) r w (.panicked [fltE y (i:Int)]) w5):=⟨HG5.out,by rw [HRs.out,hpl2]; rfl⟩
       clear hg5 hpl2
       go_wp2
       exact ⟨rfl,HE.out⟩
      | ok u2 =>
       have hrv:rv2 = .ok (.tuple #[]):=by rw [HRV2.out,hpl2]
       subst hrv
       obtain rfl:=he5
       have HE:Hid (Fe (i:Int) r w (.returned (.tuple #[])) w5):=⟨HG5.out,by rw [HRs.out,hpl2]; rfl⟩
       clear hg5 hpl2
       go_wp2
       go_end0
       exact HE.out
   ·have e3:(me.kind == 3) = false:=by simpa using h3
    have HRr:Hid (r = .ok (.tuple #[])):=by unfold Hid; rw [hr.out,Sm.head,if_neg h1,if_neg h2,if_neg h3]; rfl
    clear h1 h2 h3 hr
    rw [HW2.out] at HG2
    go_wp2
    go_end0
    exact ⟨HG2.out,by rw [HRr.out]⟩
end Sm
end Go.Proofs.YtbioaoangfiijaaGreatDoor

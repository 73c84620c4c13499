/- The walks of head and heads. -/
import Derived.Test.YtpnljpdpobbiiaaGreatDoorM31
set_option maxRecDepth 100000
set_option maxHeartbeats 4000000
namespace Go.Proofs.YtpnljpdpobbiiaaGreatDoor
open Go.RowKit
namespace Sm
theorem head_any (B:Nat) (l:List Sy.Df) (a:Option Addr) (c M i:Nat) (me:Sy.Df) (R:Ms.Row) (w:World) (r:Except Int Value) (hD:Hid (DfsIn B w l a)) (hB:B ≤ w.heap.size) (hM:Hid (Ms.In w M R)) (hR:Hid (∀ s,Ms.val R s = (numOf l s).map (fun i => .int .i64 (i:Int))))
  (hme:Hid (l[i]? = some me)) (hr:Hid (r = fv (Sm.head l me))) :
  Calls Tryz.prog 30 #[lkV l.length a c M (i:Int)] w fun e w' => Fe (i:Int) r w e w':=by
 obtain ⟨W0,hW0⟩:∃ W0,W0 = w.alloc (lkB l.length a c M (i:Int)):=⟨_,rfl⟩
 have HG0:Hid (w.grownBy W0 none):=by rw [hW0]; exact grown_a _
 have HLk0:Hid (W0.heap[w.heap.size]? = some (lkB l.length a c M (i:Int))):=by rw [hW0]; exact heap_alloc_new _ _
 have HD0:Hid (DfsIn B W0 l a):=hD.out.same (same_grown HG0.out (by simp) hB)
 have hB0:B ≤ W0.heap.size:=by have:=HG0.out.size; omega
 have HW0:Hid (W0 = _):=hW0
 clear hW0
 go_enter Tryz.func30,Tryz.ntmps30
 go_wp2_with fail
 rw [← HW0.out]
 refine (def_any B l a c M i me W0 HD0 hB0 hme).mono ?_
 rintro e w1 ⟨hg1,val,rfl,pa,pc,ba,bc,rfl,hdf⟩
 obtain ⟨W2,hW2⟩:∃ W2,W2 = w1.alloc (dfB me pa pc ba bc):=⟨_,rfl⟩
 have HW2:Hid (W2 = _):=hW2
 have HG2:Hid (w.grownBy W2 none):=by rw [hW2]; exact grown_trans (grown_trans HG0.out hg1) (grown_a _)
 have HD:Hid (W2.heap[w1.heap.size]? = some (dfB me pa pc ba bc)):=by rw [hW2]; exact heap_alloc_new _ _
 have hl1:w1.heap[w.heap.size]? = some (lkB l.length a c M (i:Int)):=(hg1.block _ (lt_of_block HLk0.out) (by simp)).trans HLk0.out
 have HLk:Hid (W2.heap[w.heap.size]? = some (lkB l.length a c M (i:Int))):=by rw [hW2]; exact (Below.heap_alloc _ _ _ (lt_of_block hl1)).trans hl1
 have HPm:Hid (PmsIn B W2 me.params pa):=hdf.2.2.2.1.same (same_grown (grown_trans hg1 (by rw [hW2]; exact grown_a _)) (by simp) hB0)
 obtain ⟨m0,m1,m2⟩:=three_cell hl1
 have hwl:=lt_of_block hl1
 clear hg1 hdf hW2 hl1
 by_cases h1:me.kind = 1
 ·have HRr:Hid (r = fv (Sm.plain me.ty)):=by unfold Hid; rw [hr.out,Sm.head,if_pos h1]
  have e1:(me.kind == 1) = true:=by simpa using h1
  clear h1 hr
  obtain ⟨rv1,hrv1⟩:∃ rv:Except Int Value,rv = match Sm.plain me.ty with | .ok _ => .ok (.tuple #[]) | .error e => .error e:=⟨_,rfl⟩
  have HRV1:Hid (rv1 = match Sm.plain me.ty with | .ok _ => .ok (.tuple #[]) | .error e => .error e):=hrv1
  clear hrv1
  go_wp2_with fail
  refine (plain_any l.length a c M (i:Int) me.ty _ rv1 HRV1).mono ?_
  rintro e w4 ⟨hg4,he4⟩
  have HG4:Hid (w.grownBy w4 none):=grown_trans (by rw [HW2.out] at HG2; exact HG2.out) hg4
  cases hpl1:Sm.plain me.ty with
  | error y =>
   have hrv:rv1 = .error y:=by rw [HRV1.out,hpl1]
   subst hrv
   obtain rfl:=he4
   have HE:Hid (Fe (i:Int) r w (.panicked [fltE y (i:Int)]) w4):=⟨HG4.out,by rw [HRr.out,hpl1]; rfl⟩
   clear hg4 hpl1
   go_wp2
   exact ⟨rfl,HE.out⟩
  | ok u1 =>
   have hrv:rv1 = .ok (.tuple #[]):=by rw [HRV1.out,hpl1]
   subst hrv
   obtain rfl:=he4
   have HE:Hid (Fe (i:Int) r w (.returned (.tuple #[])) w4):=⟨HG4.out,by rw [HRr.out,hpl1]; rfl⟩
   clear hg4 hpl1
   go_wp2
   go_end0
   exact HE.out
 ·have e1:(me.kind == 1) = false:=by simpa using h1
  by_cases h2:me.kind = 2
  ·have HRr:Hid (r = fv (andThen (Sm.params l me.params []) fun _ => Sm.plain me.ty)):=by unfold Hid; rw [hr.out,Sm.head,if_neg h1,if_pos h2]
   have e2:(me.kind == 2) = true:=by simpa using h2
   clear h1 h2 hr
   obtain ⟨rp,hrp⟩:∃ rp:Except Int Value,rp = fv (Sm.params l me.params []):=⟨_,rfl⟩
   have HRP:Hid (rp = fv (Sm.params l me.params [])):=hrp
   have HD2:Hid (DfsIn B W2 l a):=hD.out.same (same_grown HG2.out (by simp) hB)
   have HM2:Hid (Ms.In W2 M R):=hM.out.grow HG2.out
   have hB2:B ≤ W2.heap.size:=by have:=HG2.out.size; omega
   clear hrp
   go_wp2_with fail
   rw [← HW2.out]
   refine (params_any B l a c M (i:Int) me.params pa pc R W2 rp HD2 hB2 HM2 hR HPm HRP).mono ?_
   rintro e w3 ⟨hg3,he3⟩
   have HG3:Hid (w.grownBy w3 none):=grown_trans HG2.out hg3
   have hd3:=(hg3.block _ (lt_of_block HD.out) (by simp)).trans HD.out
   have hl3:=(hg3.block _ (lt_of_block HLk.out) (by simp)).trans HLk.out
   obtain ⟨n0,n1,n2,n3,n4,n5,n6,n7,n8⟩:=nine_cell hd3
   obtain ⟨k0,k1,k2⟩:=three_cell hl3
   have HD3:Hid (w3.heap[w1.heap.size]? = some (dfB me pa pc ba bc)):=hd3
   have HL3:Hid (w3.heap[w.heap.size]? = some (lkB l.length a c M (i:Int))):=hl3
   cases hpp:Sm.params l me.params [] with
   | error y =>
    have hrv:rp = .error y:=by rw [HRP.out,hpp]; rfl
    subst hrv
    obtain rfl:=he3
    have HE:Hid (Fe (i:Int) r w (.panicked [fltE y (i:Int)]) w3):=⟨HG3.out,by rw [HRr.out,hpp]; rfl⟩
    clear hg3 hpp hd3 hl3
    go_wp2
    exact ⟨rfl,HE.out⟩
   | ok up =>
    have hrv:rp = .ok (.tuple #[]):=by rw [HRP.out,hpp]; rfl
    subst hrv
    obtain rfl:=he3
    have HRq:Hid (r = fv (Sm.plain me.ty)):=by unfold Hid; rw [HRr.out,hpp]; rfl
    clear hg3 hpp hd3 hl3 m0 m1 m2
    obtain ⟨rv1,hrv1⟩:∃ rv:Except Int Value,rv = match Sm.plain me.ty with | .ok _ => .ok (.tuple #[]) | .error e => .error e:=⟨_,rfl⟩
    have HRV1:Hid (rv1 = match Sm.plain me.ty with | .ok _ => .ok (.tuple #[]) | .error e => .error e):=hrv1
    clear hrv1
    go_wp2_with fail
    refine (plain_any l.length a c M (i:Int) me.ty _ rv1 HRV1).mono ?_
    rintro e w4 ⟨hg4,he4⟩
    have HG4:Hid (w.grownBy w4 none):=grown_trans HG3.out hg4
    cases hpl1:Sm.plain me.ty with
    | error y =>
     have hrv:rv1 = .error y:=by rw [HRV1.out,hpl1]
     subst hrv
     obtain rfl:=he4
     have HE:Hid (Fe (i:Int) r w (.panicked [fltE y (i:Int)]) w4):=⟨HG4.out,by rw [HRq.out,hpl1]; rfl⟩
     clear hg4 hpl1
     go_wp2
     exact ⟨rfl,HE.out⟩
    | ok u1 =>
     have hrv:rv1 = .ok (.tuple #[]):=by rw [HRV1.out,hpl1]
     subst hrv
     obtain rfl:=he4
     have HE:Hid (Fe (i:Int) r w (.returned (.tuple #[])) w4):=⟨HG4.out,by rw [HRq.out,hpl1]; rfl⟩
     clear hg4 hpl1
     go_wp2
     go_end0
     exact HE.out
  ·have e2:(me.kind == 2) = false:=by simpa using h2
   by_cases h3:me.kind = 3
   ·have HRr:Hid (r = fv (andThen (Sm.params l me.params []) fun _ => andThen (Sm.plain me.takes) fun _ => Sm.plain me.ty)):=by unfold Hid; rw [hr.out,Sm.head,if_neg h1,if_neg h2,if_pos h3]
    have e3:(me.kind == 3) = true:=by simpa using h3
    clear h1 h2 h3 hr
    obtain ⟨rp,hrp⟩:∃ rp:Except Int Value,rp = fv (Sm.params l me.params []):=⟨_,rfl⟩
    have HRP:Hid (rp = fv (Sm.params l me.params [])):=hrp
    have HD2:Hid (DfsIn B W2 l a):=hD.out.same (same_grown HG2.out (by simp) hB)
    have HM2:Hid (Ms.In W2 M R):=hM.out.grow HG2.out
    have hB2:B ≤ W2.heap.size:=by have:=HG2.out.size; omega
    clear hrp
    go_wp2_with fail
    rw [← HW2.out]
    refine (params_any B l a c M (i:Int) me.params pa pc R W2 rp HD2 hB2 HM2 hR HPm HRP).mono ?_
    rintro e w3 ⟨hg3,he3⟩
    have HG3:Hid (w.grownBy w3 none):=grown_trans HG2.out hg3
    have hd3:=(hg3.block _ (lt_of_block HD.out) (by simp)).trans HD.out
    have hl3:=(hg3.block _ (lt_of_block HLk.out) (by simp)).trans HLk.out
    obtain ⟨n0,n1,n2,n3,n4,n5,n6,n7,n8⟩:=nine_cell hd3
    obtain ⟨k0,k1,k2⟩:=three_cell hl3
    have HD3:Hid (w3.heap[w1.heap.size]? = some (dfB me pa pc ba bc)):=hd3
    have HL3:Hid (w3.heap[w.heap.size]? = some (lkB l.length a c M (i:Int))):=hl3
    cases hpp:Sm.params l me.params [] with
    | error y =>
     have hrv:rp = .error y:=by rw [HRP.out,hpp]; rfl
     subst hrv
     obtain rfl:=he3
     have HE:Hid (Fe (i:Int) r w (.panicked [fltE y (i:Int)]) w3):=⟨HG3.out,by rw [HRr.out,hpp]; rfl⟩
     clear hg3 hpp hd3 hl3
     go_wp2
     exact ⟨rfl,HE.out⟩
    | ok up =>
     have hrv:rp = .ok (.tuple #[]):=by rw [HRP.out,hpp]; rfl
     subst hrv
     obtain rfl:=he3
     have HRq:Hid (r = fv (andThen (Sm.plain me.takes) fun _ => Sm.plain me.ty)):=by unfold Hid; rw [HRr.out,hpp]; rfl
     clear hg3 hpp hd3 hl3 m0 m1 m2
     obtain ⟨rv1,hrv1⟩:∃ rv:Except Int Value,rv = match Sm.plain me.takes with | .ok _ => .ok (.tuple #[]) | .error e => .error e:=⟨_,rfl⟩
     have HRV1:Hid (rv1 = match Sm.plain me.takes with | .ok _ => .ok (.tuple #[]) | .error e => .error e):=hrv1
     clear hrv1
     go_wp2_with fail
     refine (plain_any l.length a c M (i:Int) me.takes _ rv1 HRV1).mono ?_
     rintro e w4 ⟨hg4,he4⟩
     have HG4:Hid (w.grownBy w4 none):=grown_trans HG3.out hg4
     cases hpl1:Sm.plain me.takes with
     | error y =>
      have hrv:rv1 = .error y:=by rw [HRV1.out,hpl1]
      subst hrv
      obtain rfl:=he4
      have HE:Hid (Fe (i:Int) r w (.panicked [fltE y (i:Int)]) w4):=⟨HG4.out,by rw [HRq.out,hpl1]; rfl⟩
      clear hg4 hpl1
      go_wp2
      exact ⟨rfl,HE.out⟩
     | ok u1 =>
      have hrv:rv1 = .ok (.tuple #[]):=by rw [HRV1.out,hpl1]
      subst hrv
      obtain rfl:=he4
      have HRs:Hid (r = fv (Sm.plain me.ty)):=by unfold Hid; rw [HRq.out,hpl1]; rfl
      obtain ⟨_,_,o2,o3,_⟩:=nine_cell ((hg4.block _ (lt_of_block HD3.out) (by simp)).trans HD3.out)
      obtain ⟨l0,l1,l2⟩:=three_cell ((hg4.block _ (lt_of_block HL3.out) (by simp)).trans HL3.out)
      clear hg4 hpl1
      obtain ⟨rv2,hrv2⟩:∃ rv:Except Int Value,rv = match Sm.plain me.ty with | .ok _ => .ok (.tuple #[]) | .error e => .error e:=⟨_,rfl⟩
      have HRV2:Hid (rv2 = match Sm.plain me.ty with | .ok _ => .ok (.tuple #[]) | .error e => .error e):=hrv2
      clear hrv2
      go_wp2_with fail
      refine (plain_any l.length a c M (i:Int) me.ty _ rv2 HRV2).mono ?_
      rintro e w5 ⟨hg5,he5⟩
      have HG5:Hid (w.grownBy w5 none):=grown_trans HG4.out hg5
      cases hpl2:Sm.plain me.ty with
      | error y =>
       have hrv:rv2 = .error y:=by rw [HRV2.out,hpl2]
       subst hrv
       obtain rfl:=he5
       have HE:Hid (Fe (i:Int) r w (.panicked [fltE y (i:Int)]) w5):=⟨HG5.out,by rw [HRs.out,hpl2]; rfl⟩
       clear hg5 hpl2
       go_wp2
       exact ⟨rfl,HE.out⟩
      | ok u2 =>
       have hrv:rv2 = .ok (.tuple #[]):=by rw [HRV2.out,hpl2]
       subst hrv
       obtain rfl:=he5
       have HE:Hid (Fe (i:Int) r w (.returned (.tuple #[])) w5):=⟨HG5.out,by rw [HRs.out,hpl2]; rfl⟩
       clear hg5 hpl2
       go_wp2
       go_end0
       exact HE.out
   ·have e3:(me.kind == 3) = false:=by simpa using h3
    have HRr:Hid (r = .ok (.tuple #[])):=by unfold Hid; rw [hr.out,Sm.head,if_neg h1,if_neg h2,if_neg h3]; rfl
    clear h1 h2 h3 hr
    rw [HW2.out] at HG2
    go_wp2
    go_end0
    exact ⟨HG2.out,by rw [HRr.out]⟩
end Sm
namespace Sm
def ev {α:Type} (r:Except (Int × Nat) α):Except (Int × Nat) Unit:=match r with | .ok _ => .ok () | .error x => .error x
theorem ev_each {α:Type} (f:Sy.Df → Except Int α) (d:Sy.Df) (l:List Sy.Df) (i:Nat):ev (each f (d :: l) i) = match f d with | .error e => .error (e,i) | .ok _ => ev (each f l (i + 1)):=by
 rw [each]
 cases f d with
 | error e => rfl
 | ok x =>
  dsimp only
  cases each f l (i + 1) <;> rfl
def Ge (r:Except (Int × Nat) Unit) (w:World) (e:Ending) (w':World):Prop :=
 w.grownBy w' none ∧ e = match r with | .ok _ => .returned (.tuple #[]) | .error x => .panicked [fltE x.1 (x.2:Int)]
abbrev pgV (l:List Sy.Df) (a:Option Addr) (c M:Nat):Value:=.agg #[.slice a l.length c,.map (some M)]
abbrev pgB (n:Nat) (a:Option Addr) (c M:Nat):Obj:=.cells #[.slice a n c,.map (some M)] 50 (0,0)
theorem heads_any (B:Nat) (l:List Sy.Df) (a:Option Addr) (c M:Nat) (R:Ms.Row) (w:World) (r:Except (Int × Nat) Unit) (hD:Hid (DfsIn B w l a)) (hB:B ≤ w.heap.size) (hM:Hid (Ms.In w M R)) (hR:Hid (∀ s,Ms.val R s = (numOf l s).map (fun i => .int .i64 (i:Int))))
  (hr:Hid (r = ev (each (Sm.head l) l 0))) :
  Calls Tryz.prog 16 #[pgV l a c M] w fun e w' => Ge r w e w':=by
 obtain ⟨W0,hW0⟩:∃ W0,W0 = w.alloc (pgB l.length a c M):=⟨_,rfl⟩
 have HG0:Hid (w.grownBy W0 none):=by rw [hW0]; exact grown_a _
 have HP0:Hid (W0.heap[w.heap.size]? = some (pgB l.length a c M)):=by rw [hW0]; exact heap_alloc_new _ _
 have HW0:Hid (W0 = _):=hW0
 have hml:l.length ≤ maxLen:=hD.out.1
 obtain ⟨L,hL⟩:∃ L,L = l.length:=⟨_,rfl⟩
 have HL:Hid (L = l.length):=hL
 rw [← hL] at hml
 clear hW0
 rw [show pgV l a c M = .agg #[.slice a L c,.map (some M)] by rw [hL]]
 rw [← hL] at HP0 HW0
 clear hL
 go_enter Tryz.func16,Tryz.ntmps16
 go_wp2
 rw [← HW0.out]
 go_loopw [6] (fun q wr => ∃ j:Nat,q = .int .i64 j ∧ j ≤ L ∧ Hid (W0.grownBy wr none) ∧ Hid (r = ev (each (Sm.head l) (l.drop j) j))) (fun q _ => L - (intOf q).toNat)
 case atStart => exact ⟨0,rfl,Nat.zero_le _,World.grownBy.refl _ _,by rw [List.drop_zero]; exact hr⟩
 case round =>
  obtain ⟨j,rfl,hj,HG,HR⟩:=hrel
  have HGw:Hid (w.grownBy wr none):=grown_trans HG0.out HG.out
  obtain ⟨p0,p1,_,_⟩:=two_cell ((HG.out.block _ (lt_of_block HP0.out) (by simp)).trans HP0.out)
  by_cases hlt:j < L
  ·have hj1:j < l.length:=by rw [← HL.out]; exact hlt
   obtain ⟨d,hd⟩:∃ d,l[j]? = some d:=⟨_,List.getElem?_eq_getElem hj1⟩
   have hdr:l.drop j = d :: l.drop (j + 1):=by rw [List.drop_eq_getElem_cons hj1,(List.getElem?_eq_some_iff.1 hd).2]
   have HRr:Hid (r = match Sm.head l d with | .error e => .error (e,j) | .ok _ => ev (each (Sm.head l) (l.drop (j + 1)) (j + 1))):=by
    unfold Hid
    rw [HR.out,hdr,ev_each]
    cases Sm.head l d <;> rfl
   obtain ⟨rf,hrf⟩:∃ rf,rf = fv (Sm.head l d):=⟨_,rfl⟩
   have HRF:Hid (rf = fv (Sm.head l d)):=hrf
   have HDr:Hid (DfsIn B wr l a):=hD.out.same (same_grown HGw.out (by simp) hB)
   have HMr:Hid (Ms.In wr M R):=hM.out.grow HGw.out
   have hBr:B ≤ wr.heap.size:=by have:=HGw.out.size; omega
   have HDj:Hid (l[j]? = some d):=hd
   have HJ:Hid (j + 1 ≤ L):=hlt
   have hj9:j + 1 ≤ 9223372036854775807:=by unfold maxLen at hml; omega
   have hjp:(j:Int) < (L:Int):=by omega
   clear hdr hd hrf
   go_wp2_with fail
   have hh:=head_any B l a c M j d R wr rf HDr hBr HMr hR HDj HRF
   rw [← HL.out] at hh
   refine hh.mono ?_
   rintro e w1 ⟨hg1,he1⟩
   have HG1:Hid (W0.grownBy w1 none):=grown_trans HG.out hg1
   clear hh
   cases hhd:Sm.head l d with
   | error y =>
    have hrv:rf = .error y:=by rw [HRF.out,hhd]; rfl
    subst hrv
    obtain rfl:=he1
    have HE:Hid (Ge r w (.panicked [fltE y (j:Int)]) w1):=⟨grown_trans HG0.out HG1.out,by rw [HRr.out,hhd]⟩
    clear hg1 hhd
    go_wp2
    exact ⟨rfl,HE.out⟩
   | ok u =>
    have hrv:rf = .ok (.tuple #[]):=by rw [HRF.out,hhd]; rfl
    subst hrv
    obtain rfl:=he1
    have HRn:Hid (r = ev (each (Sm.head l) (l.drop (j + 1)) (j + 1))):=by unfold Hid; rw [HRr.out,hhd]
    clear hg1 hhd
    go_wp2
    go_roundw
    case rel => exact ⟨j + 1,by go_num,HJ.out,HG1,HRn⟩
    case measure => have:=HJ.out; simp [intOf]; omega
  ·have HRe:Hid (r = .ok ()):=by
    have h1:=HR.out
    have h2:=HL.out
    rw [List.drop_of_length_le (by omega)] at h1
    exact h1
   have hjp:¬ (j:Int) < (L:Int):=by omega
   go_wp2
   go_end0
   exact ⟨HGw.out,by rw [HRe.out]⟩
def rowsTo (l:List Sy.Df) (j:Nat):Ms.Row:=(List.range j).map (fun i => ((defAt l i).name,.int .i64 (i:Int)))
theorem rowsTo_succ (l:List Sy.Df) (j:Nat):rowsTo l (j + 1) = rowsTo l j ++ [((defAt l j).name,.int .i64 (j:Int))]:=by simp [rowsTo,List.range_succ]
theorem rows_none {l:List Sy.Df} {s:ByteArray} {j:Nat} (h:∀ i,i < j → (defAt l i).name ≠ s):Ms.val (rowsTo l j) s = none:=by
 rw [Ms.val_none]
 intro p hp
 obtain ⟨i,hi,rfl⟩:=List.mem_map.1 hp
 exact h i (List.mem_range.1 hi)
theorem rows_some {l:List Sy.Df} {s:ByteArray} {i:Nat} (hi:(defAt l i).name = s) (hn:∀ k,k < i → (defAt l k).name ≠ s):∀ j,i < j → Ms.val (rowsTo l j) s = some (.int .i64 (i:Int))
 | 0,h => by omega
 | j + 1,h => by
  rw [rowsTo_succ,Ms.val_append]
  by_cases e:i = j
  ·subst e
   rw [rows_none hn,Ms.val_cons,hi]
   simp
  ·rw [rows_some hi hn j (by omega)]
   rfl
theorem names_open:∀ {l:List Sy.Df} {i:Nat} {seen:List ByteArray},names l i seen = none → (∀ d ∈ l,∀ s ∈ seen,s ≠ d.name) ∧ (l.map (·.name)).Nodup
 | [],_,_,_ => ⟨fun d hd => (by cases hd),by simp⟩
 | d :: l,i,seen,h => by
  rw [names] at h
  split at h
  ·cases h
  ·rename_i hs
   obtain ⟨h1,h2⟩:=names_open h
   have hs':∀ s ∈ seen,s ≠ d.name:=fun s hm e => hs (by rw [List.any_eq_true]; exact ⟨s,hm,by simp [e]⟩)
   refine ⟨fun d' hd' s hm => ?_,?_⟩
   ·rcases List.mem_cons.1 hd' with rfl | hd'
    ·exact hs' s hm
    ·exact h1 d' hd' s (List.mem_append_left _ hm)
   ·rw [List.map_cons,List.nodup_cons]
    refine ⟨fun hm => ?_,h2⟩
    obtain ⟨d',hd',he⟩:=List.mem_map.1 hm
    exact h1 d' hd' d.name (by simp) he.symm
theorem rows_nums {l:List Sy.Df} (hn:(l.map (·.name)).Nodup) (s:ByteArray):Ms.val (rowsTo l l.length) s = (numOf l s).map (fun i => .int .i64 (i:Int)):=by
 have uniq:∀ i k,i < l.length → k < l.length → (defAt l i).name = (defAt l k).name → i = k:=fun i k hi hk he => by
  have h1:(l.map (·.name))[i]? = some (defAt l i).name:=by simp [defAt,List.getElem?_eq_getElem hi]
  have h2:(l.map (·.name))[k]? = some (defAt l i).name:=by rw [he]; simp [defAt,List.getElem?_eq_getElem hk]
  exact (List.getElem?_inj (by simpa using hi) hn).1 (h1.trans h2.symm)
 cases hq:numOf l s with
 | none =>
  refine rows_none fun i hi he => ?_
  unfold numOf at hq
  rw [List.find?_eq_none] at hq
  refine hq i (by simpa using hi) ?_
  simp [List.getElem?_eq_getElem hi]
  rw [← he]
  simp [defAt,List.getElem?_eq_getElem hi]
 | some i =>
  have hi:=numOf_lt hq
  have he:(defAt l i).name = s:=by
   unfold numOf at hq
   have:=List.find?_some hq
   simp [List.getElem?_eq_getElem hi] at this
   simp [defAt,List.getElem?_eq_getElem hi,this]
  exact rows_some he (fun k hk hke => by have:=uniq k i (by omega) hi (hke.trans he.symm); omega) l.length hi
end Sm
end Go.Proofs.YtpnljpdpobbiiaaGreatDoor

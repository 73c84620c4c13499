/- The walks of heads and newProgram. -/
import Derived.Test.YtbioaoangfiijaaGreatDoorM16
set_option maxRecDepth 100000
set_option maxHeartbeats 4000000
namespace Go.Proofs.YtbioaoangfiijaaGreatDoor
open Go.RowKit
namespace Sm
def ev {α:Type} (r:Except (Int × Nat) α):Except (Int × Nat) Unit:=match r with | .ok _ => .ok () | .error x => .error x
theorem ev_each {α:Type} (f:Sy.Df → Except Int α) (d:Sy.Df) (l:List Sy.Df) (i:Nat):ev (each f (d :: l) i) = match f d with | .error e => .error (e,i) | .ok _ => ev (each f l (i + 1)):=by
 rw [each]
 cases f d with
 | error e => rfl
 | ok x =>
  dsimp only
  cases each f l (i + 1) <;> rfl
def Ge (r:Except (Int × Nat) Unit) (w:World) (e:Ending) (w':World):Prop :=
 w.grownBy w' none ∧ e = match r with | .ok _ => .returned (.tuple #[]) | .error x => .panicked [fltE x.1 (x.2:Int)]
abbrev pgV (l:List Sy.Df) (a:Option Addr) (c M:Nat):Value:=.agg #[.slice a l.length c,.map (some M)]
abbrev pgB (n:Nat) (a:Option Addr) (c M:Nat):Obj:=.cells #[.slice a n c,.map (some M)] 69 (0,0)
theorem heads_any (B:Nat) (l:List Sy.Df) (a:Option Addr) (c M:Nat) (R:Ms.Row) (w:World) (r:Except (Int × Nat) Unit) (hD:Hid (DfsIn B w l a)) (hB:B ≤ w.heap.size) (hM:Hid (Ms.In w M R)) (hR:Hid (∀ s,Ms.val R s = (numOf l s).map (fun i => .int .i64 (i:Int))))
  (hr:Hid (r = ev (each (Sm.head l) l 0))) :
  Calls Tryz.prog 23 #[pgV l a c M] w fun e w' => Ge r w e w':=by
 obtain ⟨W0,hW0⟩:∃ W0,W0 = w.alloc (pgB l.length a c M):=⟨_,rfl⟩
 have HG0:Hid (w.grownBy W0 none):=by rw [hW0]; exact grown_a _
 have HP0:Hid (W0.heap[w.heap.size]? = some (pgB l.length a c M)):=by rw [hW0]; exact heap_alloc_new _ _
 have HW0:Hid (W0 = _):=hW0
 have hml:l.length ≤ maxLen:=hD.out.1
 obtain ⟨L,hL⟩:∃ L,L = l.length:=⟨_,rfl⟩
 have HL:Hid (L = l.length):=hL
 rw [← hL] at hml
 clear hW0
 rw [show pgV l a c M = .agg #[.slice a L c,.map (some M)] by rw [hL]]
 rw [← hL] at HP0 HW0
 clear hL
 go_enter Tryz.func23,Tryz.ntmps23
 go_wp2
 rw [← HW0.out]
 go_loopw [6] (fun q wr => ∃ j:Nat,q = .int .i64 j ∧ j ≤ L ∧ Hid (W0.grownBy wr none) ∧ Hid (r = ev (each (Sm.head l) (l.drop j) j))) (fun q _ => L - (intOf q).toNat)
 case atStart => exact ⟨0,rfl,Nat.zero_le _,World.grownBy.refl _ _,by rw [List.drop_zero]; exact hr⟩
 case round =>
  obtain ⟨j,rfl,hj,HG,HR⟩:=hrel
  have HGw:Hid (w.grownBy wr none):=grown_trans HG0.out HG.out
  obtain ⟨p0,p1,_,_⟩:=two_cell ((HG.out.block _ (lt_of_block HP0.out) (by simp)).trans HP0.out)
  by_cases hlt:j < L
  ·have hj1:j < l.length:=by rw [← HL.out]; exact hlt
   obtain ⟨d,hd⟩:∃ d,l[j]? = some d:=⟨_,List.getElem?_eq_getElem hj1⟩
   have hdr:l.drop j = d :: l.drop (j + 1):=by rw [List.drop_eq_getElem_cons hj1,(List.getElem?_eq_some_iff.1 hd).2]
   have HRr:Hid (r = match Sm.head l d with | .error e => .error (e,j) | .ok _ => ev (each (Sm.head l) (l.drop (j + 1)) (j + 1))):=by
    unfold Hid
    rw [HR.out,hdr,ev_each]
    cases Sm.head l d <;> rfl
   obtain ⟨rf,hrf⟩:∃ rf,rf = fv (Sm.head l d):=⟨_,rfl⟩
   have HRF:Hid (rf = fv (Sm.head l d)):=hrf
   have HDr:Hid (DfsIn B wr l a):=hD.out.same (same_grown HGw.out (by simp) hB)
   have HMr:Hid (Ms.In wr M R):=hM.out.grow HGw.out
   have hBr:B ≤ wr.heap.size:=by have:=HGw.out.size; omega
   have HDj:Hid (l[j]? = some d):=hd
   have HJ:Hid (j + 1 ≤ L):=hlt
   have hj9:j + 1 ≤ 9223372036854775807:=by unfold maxLen at hml; omega
   have hjp:(j:Int) < (L:Int):=by omega
   clear hdr hd hrf
   go_wp2_with fail
   have hh:=head_any B l a c M j d R wr rf HDr hBr HMr hR HDj HRF
   rw [← HL.out] at hh
   refine hh.mono ?_
   rintro e w1 ⟨hg1,he1⟩
   have HG1:Hid (W0.grownBy w1 none):=grown_trans HG.out hg1
   clear hh
   cases hhd:Sm.head l d with
   | error y =>
    have hrv:rf = .error y:=by rw [HRF.out,hhd]; rfl
    subst hrv
    obtain rfl:=he1
    have HE:Hid (Ge r w (.panicked [fltE y (j:Int)]) w1):=⟨grown_trans HG0.out HG1.out,by rw [HRr.out,hhd]⟩
    clear hg1 hhd
    go_wp2
    exact ⟨rfl,HE.out⟩
   | ok u =>
    have hrv:rf = .ok (.tuple #[]):=by rw [HRF.out,hhd]; rfl
    subst hrv
    obtain rfl:=he1
    have HRn:Hid (r = ev (each (Sm.head l) (l.drop (j + 1)) (j + 1))):=by unfold Hid; rw [HRr.out,hhd]
    clear hg1 hhd
    go_wp2
    go_roundw
    case rel => exact ⟨j + 1,by go_num,HJ.out,HG1,HRn⟩
    case measure => have:=HJ.out; simp [intOf]; omega
  ·have HRe:Hid (r = .ok ()):=by
    have h1:=HR.out
    have h2:=HL.out
    rw [List.drop_of_length_le (by omega)] at h1
    exact h1
   have hjp:¬ (j:Int) < (L:Int):=by omega
   go_wp2
   go_end0
   exact ⟨HGw.out,by rw [HRe.out]⟩
def rowsTo (l:List Sy.Df) (j:Nat):Ms.Row:=(List.range j).map (fun i => ((defAt l i).name,.int .i64 (i:Int)))
theorem rowsTo_succ (l:List Sy.Df) (j:Nat):rowsTo l (j + 1) = rowsTo l j ++ [((defAt l j).name,.int .i64 (j:Int))]:=by simp [rowsTo,List.range_succ]
theorem rows_none {l:List Sy.Df} {s:ByteArray} {j:Nat} (h:∀ i,i < j → (defAt l i).name ≠ s):Ms.val (rowsTo l j) s = none:=by
 rw [Ms.val_none]
 intro p hp
 obtain ⟨i,hi,rfl⟩:=List.mem_map.1 hp
 exact h i (List.mem_range.1 hi)
theorem rows_some {l:List Sy.Df} {s:ByteArray} {i:Nat} (hi:(defAt l i).name = s) (hn:∀ k,k < i → (defAt l k).name ≠ s):∀ j,i < j → Ms.val (rowsTo l j) s = some (.int .i64 (i:Int))
 | 0,h => by omega
 | j + 1,h => by
  rw [rowsTo_succ,Ms.val_append]
  by_cases e:i = j
  ·subst e
   rw [rows_none hn,Ms.val_cons,hi]
   simp
  ·rw [rows_some hi hn j (by omega)]
   rfl
theorem names_open:∀ {l:List Sy.Df} {i:Nat} {seen:List ByteArray},names l i seen = none → (∀ d ∈ l,∀ s ∈ seen,s ≠ d.name) ∧ (l.map (·.name)).Nodup
 | [],_,_,_ => ⟨fun d hd => (by cases hd),by simp⟩
 | d :: l,i,seen,h => by
  rw [names] at h
  split at h
  ·cases h
  ·rename_i hs
   obtain ⟨h1,h2⟩:=names_open h
   have hs':∀ s ∈ seen,s ≠ d.name:=fun s hm e => hs (by rw [List.any_eq_true]; exact ⟨s,hm,by simp [e]⟩)
   refine ⟨fun d' hd' s hm => ?_,?_⟩
   ·rcases List.mem_cons.1 hd' with rfl | hd'
    ·exact hs' s hm
    ·exact h1 d' hd' s (List.mem_append_left _ hm)
   ·rw [List.map_cons,List.nodup_cons]
    refine ⟨fun hm => ?_,h2⟩
    obtain ⟨d',hd',he⟩:=List.mem_map.1 hm
    exact h1 d' hd' d.name (by simp) he.symm
theorem rows_nums {l:List Sy.Df} (hn:(l.map (·.name)).Nodup) (s:ByteArray):Ms.val (rowsTo l l.length) s = (numOf l s).map (fun i => .int .i64 (i:Int)):=by
 have uniq:∀ i k,i < l.length → k < l.length → (defAt l i).name = (defAt l k).name → i = k:=fun i k hi hk he => by
  have h1:(l.map (·.name))[i]? = some (defAt l i).name:=by simp [defAt,List.getElem?_eq_getElem hi]
  have h2:(l.map (·.name))[k]? = some (defAt l i).name:=by rw [he]; simp [defAt,List.getElem?_eq_getElem hk]
  exact (List.getElem?_inj (by simpa using hi) hn).1 (h1.trans h2.symm)
 cases hq:numOf l s with
 | none =>
  refine rows_none fun i hi he => ?_
  unfold numOf at hq
  rw [List.find?_eq_none] at hq
  refine hq i (by simpa using hi) ?_
  simp [List.getElem?_eq_getElem hi]
  rw [← he]
  simp [defAt,List.getElem?_eq_getElem hi]
 | some i =>
  have hi:=numOf_lt hq
  have he:(defAt l i).name = s:=by
   unfold numOf at hq
   have:=List.find?_some hq
   simp [List.getElem?_eq_getElem hi] at this
   simp [defAt,List.getElem?_eq_getElem hi,this]
  exact rows_some he (fun k hk hke => by have:=uniq k i (by omega) hi (hke.trans he.symm); omega) l.length hi
end Sm
namespace Sm
abbrev zP:Obj:=.cells #[.slice none 0 0,.map none] 69 (0,0)
def namesTo (l:List Sy.Df) (j:Nat):List ByteArray:=(List.range j).map (fun i => (defAt l i).name)
theorem namesTo_succ (l:List Sy.Df) (j:Nat):namesTo l (j + 1) = namesTo l j ++ [(defAt l j).name]:=by simp [namesTo,List.range_succ]
theorem rows_any {l:List Sy.Df} {j:Nat} {s:ByteArray}:(Ms.val (rowsTo l j) s).isSome = (namesTo l j).any (fun x => decide (x = s)):=by
 cases hv:Ms.val (rowsTo l j) s with
 | none =>
  rw [Ms.val_none] at hv
  symm
  rw [Option.isSome_none,List.any_eq_false]
  intro x hx
  obtain ⟨i,hi,rfl⟩:=List.mem_map.1 hx
  have:=hv _ (List.mem_map.2 ⟨i,hi,rfl⟩)
  simpa using this
 | some y =>
  symm
  rw [Option.isSome_some,List.any_eq_true]
  false_or_by_contra
  rename_i hc
  have:Ms.val (rowsTo l j) s = none:=rows_none fun i hi he => hc ⟨_,List.mem_map.2 ⟨i,List.mem_range.2 hi,rfl⟩,by simpa using he⟩
  rw [hv] at this
  cases this
def Np (l:List Sy.Df) (a:Option Addr) (c:Nat) (r:Option (Int × Nat)) (w:World) (e:Ending) (w':World):Prop :=
 w.grownBy w' none ∧ match r with
 | some x => e = .panicked [fltE x.1 (x.2:Int)]
 | none => e = .returned (pgV l a c (w.heap.size + 1)) ∧ Ms.In w' (w.heap.size + 1) (rowsTo l l.length) ∧ (l.map (·.name)).Nodup
theorem new_any (B:Nat) (l:List Sy.Df) (a:Option Addr) (c:Nat) (w:World) (r:Option (Int × Nat)) (hD:Hid (DfsIn B w l a)) (hB:B ≤ w.heap.size) (hr:Hid (r = Sm.prog l)) :
  Calls Tryz.prog 22 #[.slice a l.length c] w fun e w' => Np l a c r w e w':=by
 have hmm:∀ w:World,(Instr.makeMap 33 Option.none).run Tryz.prog w = .ok (.map (some w.heap.size)) (w.alloc (.map #[] 0)):=fun _ => rfl
 have hz:∀ w',(zeroValue 3).run Tryz.prog w' = .ok (.int .i64 0) w':=fun w' => by kernel_rfl
 have hml:l.length ≤ maxLen:=hD.out.1
 obtain ⟨L,hL⟩:∃ L,L = l.length:=⟨_,rfl⟩
 have HL:Hid (L = l.length):=hL
 obtain ⟨W0,hW0⟩:∃ W0,W0 = ((w.alloc zP).alloc (.map #[] 0)).alloc (pgB L a c (w.heap.size + 1)):=⟨_,rfl⟩
 have HG0:Hid (w.grownBy W0 none):=by rw [hW0]; exact grown_trans (grown_a2 _ _) (grown_a _)
 have HIn0:Hid (Ms.In W0 (w.heap.size + 1) (rowsTo l 0)):=by
  rw [hW0]
  have:=Ms.In.new (w.alloc zP)
  rw [World.size_alloc] at this
  exact this.grow (grown_a _)
 have HP0:Hid (W0.heap[w.heap.size + 1 + 1]? = some (pgB L a c (w.heap.size + 1))):=by
  rw [hW0]
  have:=heap_alloc_new ((w.alloc zP).alloc (.map #[] 0)) (pgB L a c (w.heap.size + 1))
  rw [World.size_alloc,World.size_alloc] at this
  exact this
 have HZ0:Hid (W0.heap[w.heap.size]? = some zP):=by
  rw [hW0]
  exact (Below.heap_alloc _ _ _ (by simp; omega)).trans ((Below.heap_alloc _ _ _ (by simp)).trans (heap_alloc_new _ _))
 have HN0:Hid (names l 0 [] = names (l.drop 0) 0 (namesTo l 0)):=by unfold Hid; rw [List.drop_zero]; rfl
 have HW0:Hid (W0 = _):=hW0
 rw [← hL] at hml ⊢
 clear hW0 hL
 go_enter Tryz.func22,Tryz.ntmps22
 go_wp2
 rw [← HW0.out]
 go_loopw [4,14] (fun tq q wr => ∃ (j tk:Nat),tq = .int .i64 tk ∧ q = .int .i64 j ∧ j ≤ L ∧ tk ≤ j ∧ Hid (Ms.In wr (w.heap.size + 1) (rowsTo l j)) ∧ Hid (W0.grownBy wr (some (w.heap.size + 1))) ∧ Hid (names l 0 [] = names (l.drop j) j (namesTo l j)) ∧ Hid (0 < tk ↔ (l.take j).any (fun d => d.kind == 4) = true)) (fun _ q _ => L - (intOf q).toNat)
 case atStart => exact ⟨0,0,rfl,rfl,Nat.zero_le _,Nat.zero_le _,HIn0,World.grownBy.refl _ _,HN0,by unfold Hid; simp⟩
 case round =>
  obtain ⟨j,tk,rfl,rfl,hj,htk,HI,HG,HN,HT⟩:=hrel
  have HGw:Hid (w.grownBy wr none):=grown_own HG0.out HG.out (by omega)
  have hP:wr.heap[w.heap.size + 1 + 1]? = some (pgB L a c (w.heap.size + 1)):=(HG.out.block _ (lt_of_block HP0.out) (by simp)).trans HP0.out
  have hZ:wr.heap[w.heap.size]? = some zP:=(HG.out.block _ (lt_of_block HZ0.out) (by simp)).trans HZ0.out
  obtain ⟨p0,p1,_,_⟩:=two_cell hP
  have hPl:=lt_of_block hP
  by_cases hlt:j < L
  ·have hj1:j < l.length:=by rw [← HL.out]; exact hlt
   obtain ⟨d,hd⟩:∃ d,l[j]? = some d:=⟨_,List.getElem?_eq_getElem hj1⟩
   have hdr:l.drop j = d :: l.drop (j + 1):=by rw [List.drop_eq_getElem_cons hj1,(List.getElem?_eq_some_iff.1 hd).2]
   have hda:defAt l j = d:=by simp [defAt,hd]
   obtain ⟨b,off,pa,pc,ba,bc,ha,hb,k0,k1,k2,k3,k4,k5,k6,k7,k8,_⟩:=(hD.out.same (same_grown HGw.out (by simp) hB)).2 j d hd
   have HNn:Hid (names l 0 [] = if (namesTo l j).any (fun x => decide (x = d.name)) = true then some (7,j) else names (l.drop (j + 1)) (j + 1) (namesTo l (j + 1))):=by
    unfold Hid
    rw [HN.out,hdr,names,namesTo_succ,hda]
   have hI1:Ms.In (wr.alloc (dfB d pa pc ba bc)) (w.heap.size + 1) (rowsTo l j):=HI.out.grow (grown_a _)
   have hL1:=(Ms.run_lookup Tryz.underlying33 Tryz.underlying9 (k:=d.name) hI1 (hz _)).2
   rw [rows_any] at hL1
   obtain ⟨sb,hsb⟩:∃ sb,sb = (namesTo l j).any (fun x => decide (x = d.name)):=⟨_,rfl⟩
   rw [← hsb] at hL1
   rw [← hsb] at HNn
   obtain ⟨x0,hx0⟩:∃ x0,x0 = (Ms.val (rowsTo l j) d.name).getD (.int .i64 0):=⟨_,rfl⟩
   rw [← hx0] at hL1
   have hbw:b < wr.heap.size:=by have:=HGw.out.size; omega
   have HJ:Hid (j + 1 ≤ L):=hlt
   have hj9:j + 1 ≤ 9223372036854775807:=by unfold maxLen at hml; omega
   have hjp:(j:Int) < (L:Int):=by omega
   have hilt:=HI.out.lt
   have HTn:Hid (((l.take (j + 1)).any (fun d => d.kind == 4)) = ((l.take j).any (fun d => d.kind == 4) || d.kind == 4)):=by
    unfold Hid
    rw [List.take_succ_eq_append_getElem hj1,List.any_append,(List.getElem?_eq_some_iff.1 hd).2]
    simp
   subst ha
   cases sb with
   | true =>
    have HRe:Hid (r = some (7,j)):=by unfold Hid; rw [hr.out,Sm.prog,HNn.out]; rfl
    clear hdr hd hda hsb hI1 hx0 hP hZ
    go_wp2_with fail
    refine (throw_any (j:Int) 7 _).mono ?_
    rintro e w9 ⟨rfl,_,rfl⟩
    go_wp2
    refine ⟨rfl,grown_trans HGw.out (grown_a _),?_⟩
    rw [HRe.out]
   | false =>
    have hv:Ms.val (rowsTo l j) d.name = none:=by
     have:=rows_any (l:=l) (j:=j) (s:=d.name)
     rw [← hsb] at this
     cases hq:Ms.val (rowsTo l j) d.name with
     | none => rfl
     | some y => rw [hq] at this; cases this
    obtain ⟨w2,hup,hI2,hg2⟩:=Ms.run_add Tryz.underlying33 Tryz.underlying9 (k:=d.name) (v:=.int .i64 (j:Int)) hI1 hv
    have hrs:=rowsTo_succ l j
    rw [hda] at hrs
    rw [← hrs] at hI2
    have HI2:Hid (Ms.In w2 (w.heap.size + 1) (rowsTo l (j + 1))):=hI2
    have HG2:Hid (W0.grownBy w2 (some (w.heap.size + 1))):=grown_trans (HG.out.andThen (grown_a (dfB d pa pc ba bc)) (fun j e => by cases e)) hg2
    have hb2:w2.heap[wr.heap.size]? = some (dfB d pa pc ba bc):=(hg2.block _ (by simp) (by simp; omega)).trans (heap_alloc_new _ _)
    obtain ⟨n0,_⟩:=nine_cell hb2
    have HNx:Hid (names l 0 [] = names (l.drop (j + 1)) (j + 1) (namesTo l (j + 1))):=HNn.out
    have htk9:tk + 1 ≤ 9223372036854775807:=by omega
    clear hdr hd hda hsb hI1 hx0 hP hZ hv hI2 hg2 hb2 hrs
    by_cases h4:d.kind = 4
    ·have e4:(d.kind == 4) = true:=by simpa using h4
     have HTx:Hid (0 < tk + 1 ↔ (l.take (j + 1)).any (fun d => d.kind == 4) = true):=by unfold Hid; rw [HTn.out,e4]; simp
     clear h4
     go_wp2
     go_roundw
     case rel => exact ⟨j + 1,tk + 1,by go_num,by go_num,HJ.out,by omega,HI2,HG2,HNx,HTx⟩
     case measure => have:=HJ.out; simp [intOf]; omega
    ·have e4:(d.kind == 4) = false:=by simpa using h4
     have HTx:Hid (0 < tk ↔ (l.take (j + 1)).any (fun d => d.kind == 4) = true):=by unfold Hid; rw [HTn.out,e4,Bool.or_false]; exact HT.out
     clear h4
     go_wp2
     go_roundw
     case rel => exact ⟨j + 1,tk,by go_num,by go_num,HJ.out,by omega,HI2,HG2,HNx,HTx⟩
     case measure => have:=HJ.out; simp [intOf]; omega
  ·have hjL:j = L:=by omega
   have hjp:¬ (j:Int) < (L:Int):=by omega
   have HNe:Hid (names l 0 [] = none):=by
    have h1:=HN.out
    have h2:=HL.out
    rw [List.drop_of_length_le (by omega)] at h1
    exact h1
   have HTe:Hid (0 < tk ↔ l.any (fun d => d.kind == 4) = true):=by
    have h1:=HT.out
    have h2:=HL.out
    rw [List.take_of_length_le (by omega)] at h1
    exact h1
   have HIe:Hid (Ms.In wr (w.heap.size + 1) (rowsTo l l.length)):=by
    have:=HI.out
    rw [hjL,HL.out] at this
    exact this
   have HRr:Hid (r = if l.any (fun d => d.kind == 4) then none else some (6,l.length)):=by unfold Hid; rw [hr.out,Sm.prog,HNe.out]
   by_cases h0:tk = 0
   ·have e0:((tk:Int) == 0) = true:=by simp; omega
    have HRe:Hid (r = some (6,L)):=by
     unfold Hid
     rw [HRr.out,if_neg (fun hc => by have:=HTe.out.2 hc; omega),HL.out]
    clear h0 hP hZ hjL
    go_wp2_with fail
    refine (throw_any (L:Int) 6 _).mono ?_
    rintro e w9 ⟨rfl,_,rfl⟩
    go_wp2
    refine ⟨rfl,HGw.out,?_⟩
    rw [HRe.out]
   ·have e0:((tk:Int) == 0) = false:=by simp; omega
    have HRe:Hid (r = none):=by unfold Hid; rw [HRr.out,if_pos (HTe.out.1 (by omega))]
    have HND:=hid (names_open HNe.out).2
    obtain ⟨z0,z1,zf0,zf1⟩:=two_cell hZ
    have hg9:wr.grownBy (twoS wr w.heap.size (.slice a L c) (.map (some (w.heap.size + 1)))) (some w.heap.size):=grown_trans (grown_at _ _ 0 _) (grown_at _ _ 1 _)
    have q9':(twoS wr w.heap.size (.slice a L c) (.map (some (w.heap.size + 1)))).heap[w.heap.size]? = some (pgB L a c (w.heap.size + 1)):=set_at (set_at hZ 0 _) 1 _
    obtain ⟨W9,hW9⟩:∃ W9,W9 = (wr.setCell ⟨w.heap.size,0,none⟩ (.slice a L c)).setCell ⟨w.heap.size,1,none⟩ (.map (some (w.heap.size + 1))):=⟨_,rfl⟩
    have HW9:Hid (W9 = _):=hW9
    rw [show twoS wr w.heap.size (.slice a L c) (.map (some (w.heap.size + 1))) = W9 from hW9.symm] at hg9 q9'
    have HQ9:=hid q9'
    have HE:Hid (Np l a c r w (.returned (.agg #[.slice a L c,.map (some (w.heap.size + 1))])) W9):=by
     refine ⟨grown_own HGw.out hg9 (Nat.le_refl _),?_⟩
     rw [HRe.out]
     refine ⟨by rw [HL.out],HIe.out.keep (hg9.block _ HIe.out.lt (by simp)),HND.out⟩
    clear h0 hP hZ hjL hg9 q9' hW9
    go_wp2
    rw [← HW9.out]
    have q9:=HQ9.out
    refine bodyPost_ret (v:=.agg #[.slice a L c,.map (some (w.heap.size + 1))]) (by simp [results,Tryz.results22,go_sem,World.cell?,q9]) rfl ?_
    exact HE.out
end Sm
end Go.Proofs.YtbioaoangfiijaaGreatDoor

/- The walks of slices.Contains and the closures that ask who speaks. -/
import Derived.Test.YtpnljpdpobbiiaaGreatDoorM34
import Derived.Test.YtpnljpdpobbiiaaGreatDoorM12
set_option maxRecDepth 100000
set_option maxHeartbeats 2000000
namespace Go.Proofs.YtpnljpdpobbiiaaGreatDoor
open Go.RowKit
namespace Sm
def NsIn (w:World) (ns:List Nat) (v:Value):Prop:=∃ a c,v = .slice a ns.length c ∧ ∀ i x,ns[i]? = some x → ∃ b off,a = some ⟨b,off,none⟩ ∧ w.cell? ⟨b,off + i,none⟩ = some (.int .i64 ((x:Nat):Int))
theorem ns_own {w:World} {B:Nat} {v:Value} {ns:List Nat} (h:w.ownsRow B 3 1 v ns.length (nats ns)):NsIn w ns v:=by
 rcases h.2 with ⟨rfl,h0⟩ | ⟨g,cap,cur,rfl,_,hh,_,_,_,ht⟩
 ·exact ⟨none,0,by rw [h0],fun i x hx => by rw [List.eq_nil_of_length_eq_zero h0] at hx; simp at hx⟩
 ·refine ⟨_,cap,rfl,fun i x hx => ⟨g,0,rfl,?_⟩⟩
  have e:(nats ns)[i]? = some (.int .i64 ((x:Nat):Int)):=by simp [hx]
  rw [← ht,List.getElem?_take] at e
  split at e
  ·simp [World.cell?,hh]
   simpa using e
  ·cases e
theorem index_any (ns:List Nat) (v:Value) (x:Nat) (w:World) (h:Hid (NsIn w ns v)) (hl:ns.length ≤ 9223372036854775806) :
  Calls Tryz.prog 56 #[v,.int .i64 (x:Int)] w fun e w' => w' = w ∧ ∃ r:Int,e = .returned (.int .i64 r) ∧ (decide (0 ≤ r) = decide (x ∈ ns)):=by
 obtain ⟨a,c,rfl,hc⟩:=h.out
 have HC:=hid hc
 obtain ⟨L,hL⟩:∃ L,L = ns.length:=⟨_,rfl⟩
 have HL:Hid (L = ns.length):=hL
 have hl':L ≤ 9223372036854775806:=by rw [hL]; exact hl
 rw [← hL]
 clear hL hc hl
 go_enter Tryz.func56,Tryz.ntmps56
 go_wp2
 go_loopw [8] (fun q wr => ∃ j:Nat,q = .int .i64 j ∧ j ≤ L ∧ wr = w ∧ Hid (x ∉ ns.take j)) (fun q _ => L - (intOf q).toNat)
 case atStart => exact ⟨0,rfl,Nat.zero_le _,rfl,by unfold Hid; simp⟩
 case round =>
  obtain ⟨j,rfl,hj,rfl,HN⟩:=hrel
  by_cases hlt:j < L
  ·have hj1:j < ns.length:=by rw [← HL.out]; exact hlt
   obtain ⟨y,hy⟩:∃ y,ns[j]? = some y:=⟨_,List.getElem?_eq_getElem hj1⟩
   obtain ⟨b,off,rfl,hcell⟩:=HC.out j y hy
   have hjp:(j:Int) < (L:Int):=by omega
   have HJ:Hid (j + 1 ≤ L):=hlt
   by_cases hxy:x = y
   ·have exy:((x:Int) == (y:Int)) = true:=by simp [hxy]
    have HM:Hid (x ∈ ns):=by rw [hxy]; exact List.mem_of_getElem? hy
    clear hxy hy
    go_wp2
    go_ret
    exact ⟨rfl,(j:Int),rfl,by simp [HM.out]⟩
   ·have exy:((x:Int) == (y:Int)) = false:=by simp; omega
    have HN1:Hid (x ∉ ns.take (j + 1)):=by
     unfold Hid
     rw [List.take_succ_eq_append_getElem hj1,List.mem_append]
     rintro (h1 | h1)
     ·exact HN.out h1
     ·rw [(List.getElem?_eq_some_iff.1 hy).2] at h1
      simp at h1
      exact hxy h1
    clear hxy hy
    go_wp2
    go_roundw
    case rel => exact ⟨j + 1,by go_num,HJ.out,trivial,HN1⟩
    case measure => have:=HJ.out; simp [intOf]; omega
  ·have HM:Hid (x ∉ ns):=by
    have h1:=HN.out
    have h2:=HL.out
    rw [List.take_of_length_le (by omega)] at h1
    exact h1
   have hjp:¬ (j:Int) < (L:Int):=by omega
   go_wp2
   go_ret
   exact ⟨rfl,-1,rfl,by simp [HM.out]⟩
theorem contains_any (ns:List Nat) (v:Value) (x:Nat) (w:World) (h:Hid (NsIn w ns v)) (hl:ns.length ≤ 9223372036854775806) :
  Calls Tryz.prog 35 #[v,.int .i64 (x:Int)] w fun e w' => w' = w ∧ e = .returned (.bool (decide (x ∈ ns))):=by
 go_enter Tryz.func35,Tryz.ntmps35
 go_wp2_with fail
 refine (index_any ns v x w h hl).mono ?_
 rintro e w1 ⟨rfl,r,rfl,hr⟩
 have HR:=hid hr
 clear hr
 go_wp2
 go_ret
 exact ⟨rfl,by rw [← HR.out]; rfl⟩
end Sm
namespace Sm
abbrev tvO (Tb L:Nat):Obj:=.cells #[.slice (some ⟨Tb,0,none⟩) L L] 53 (0,0)
abbrev ivO (i:Nat):Obj:=.cells #[.int .i64 (i:Int)] 3 (0,0)
theorem sends_any (B:Nat) (Tb L V I k:Nat) (i:Nat) (cs:List Value) (ts:Nat → Tk) (w:World) (hT:Hid (TaAt B w Tb L cs ts)) (hV:Hid (w.heap[V]? = some (tvO Tb L))) (hI:Hid (w.heap[I]? = some (ivO i))) (hk:k < L) (hf:Hid ((ts k).sends.length ≤ 17000000000000)) :
  Calls Tryz.prog 34 #[.int .i64 (k:Int),.pointer (some ⟨V,0,none⟩),.pointer (some ⟨I,0,none⟩)] w fun e w' => e = .returned (.bool (decide (i ∈ (ts k).sends))) ∧ w.grownBy w' none:=by
 obtain ⟨sn,rc,cl,z0,z1,z2,o1,o2,o3⟩:=hT.out.row k hk
 have HN:Hid (NsIn w (ts k).sends sn):=ns_own o1
 obtain ⟨sa,sc,hsn⟩:=own_form o1
 have c0:w.cell? ⟨V,0,none⟩ = some (.slice (some ⟨Tb,0,none⟩) L L):=by simp [World.cell?,hV.out]
 have c1:w.cell? ⟨I,0,none⟩ = some (.int .i64 (i:Int)):=by simp [World.cell?,hI.out]
 have c2:w.cell? ⟨Tb,k * 3,none⟩ = some sn:=by simp [World.cell?,hT.out.blk,z0]
 rw [hsn] at c2 HN
 have hkp:(k:Int) < (L:Int):=by omega
 clear z0 z1 z2 o1 o2 o3 hsn
 go_enter Tryz.func34,Tryz.ntmps34
 go_wp2_with fail
 refine wp_region_held_drew (S:=fun w' => w'.cell? ⟨V,0,none⟩ = some (.slice (some ⟨Tb,0,none⟩) L L) ∧ w'.cell? ⟨I,0,none⟩ = some (.int .i64 (i:Int)) ∧ w'.cell? ⟨Tb,k * 3,none⟩ = some (.slice sa (ts k).sends.length sc)) (by kernel_rfl) ⟨c0,c1,c2⟩ (fun hHeld => ?_)
 refine wpAnyH_take (i:=0) (oi:=_) (v:=?_) rfl (by kernel_rfl) (by kernel_rfl) (by kernel_rfl) (fun _ _ _ h => h) (Or.inl ⟨by rfl,?_⟩) (by assumption) ?_
 rotate_left
 ·intro w hSw
  (try dsimp only at hSw)
  go_simp
  (try with_reducible rfl)
 (try go_frame)
 refine wpAnyH_take (i:=1) (oi:=_) (v:=?_) rfl (by kernel_rfl) (by kernel_rfl) (by kernel_rfl) (fun _ _ _ h => h) (Or.inl ⟨by rfl,?_⟩) (by assumption) ?_
 rotate_left
 ·intro w hSw
  (try dsimp only at hSw)
  go_simp
  (try with_reducible rfl)
 (try go_frame)
 refine wpAnyH_take (i:=2) (oi:=_) (v:=?_) rfl (by kernel_rfl) (by kernel_rfl) (by kernel_rfl) (fun _ _ _ h => h) (Or.inl ⟨by rfl,?_⟩) (by assumption) ?_
 rotate_left
 ·intro w hSw
  (try dsimp only at hSw)
  go_simp
  (try with_reducible rfl)
 (try go_frame)
 refine wpAnyH_take (i:=3) (oi:=_) (v:=?_) rfl (by kernel_rfl) (by kernel_rfl) (by kernel_rfl) (fun _ _ _ h => h) (Or.inl ⟨by rfl,?_⟩) (by assumption) ?_
 rotate_left
 ·intro w hSw
  (try dsimp only at hSw)
  go_simp
  (try with_reducible rfl)
 (try go_frame)
 refine wpAnyH_take (i:=4) (oi:=_) (v:=?_) rfl (by kernel_rfl) (by kernel_rfl) (by kernel_rfl) (fun _ _ _ h => h) (Or.inl ⟨by rfl,?_⟩) (by assumption) ?_
 rotate_left
 ·intro w hSw
  (try dsimp only at hSw)
  go_simp
  (try with_reducible rfl)
 (try go_frame)
 refine wpAnyH_take (i:=5) (oi:=_) (v:=?_) rfl (by kernel_rfl) (by kernel_rfl) (by kernel_rfl) (fun _ _ _ h => h) (Or.inl ⟨by rfl,?_⟩) (by assumption) ?_
 rotate_left
 ·intro w hSw
  (try dsimp only at hSw)
  go_simp
  (try with_reducible rfl)
 (try go_frame)
 refine wpAnyH_ready (rs:=[6]) (by kernel_rfl) (by simp) ?_
 refine AllReadyH.cons (o:=_) rfl (fun K' hK => ?_) AllReadyH.nil
 go_simp
 refine (contains_any (ts k).sends _ i w.drew (by obtain ⟨a,c,e,h⟩:=HN.out; exact ⟨a,c,e,h⟩) (by have:=hf.out; omega)).mono ?_
 rintro e w1 ⟨hw1,rfl⟩
 subst hw1
 refine hK.out _ _ ⟨c0,c1,c2⟩ (fun hHeld => ?_)
 clear hK
 refine wpAnyH_take (i:=7) (oi:=_) (v:=?_) rfl (by kernel_rfl) (by kernel_rfl) (by kernel_rfl) (fun _ _ _ h => h) (Or.inl ⟨by rfl,?_⟩) (by assumption) ?_
 rotate_left
 ·intro w hSw
  (try dsimp only at hSw)
  go_simp
  (try with_reducible rfl)
 (try go_frame)
 refine wpAnyH_done (by kernel_rfl) ?_ _
 dsimp only [List.getElem_toArray,List.getElem_cons_succ,List.getElem_cons_zero]
 go_wp2
 go_ret
 exact ⟨rfl,⟨rfl,rfl,rfl,Nat.le_refl _,fun _ _ _ => rfl⟩⟩
theorem recvs_any (B:Nat) (Tb L V I k:Nat) (i:Nat) (cs:List Value) (ts:Nat → Tk) (w:World) (hT:Hid (TaAt B w Tb L cs ts)) (hV:Hid (w.heap[V]? = some (tvO Tb L))) (hI:Hid (w.heap[I]? = some (ivO i))) (hk:k < L) (hf:Hid ((ts k).recvs.length ≤ 17000000000000)) :
  Calls Tryz.prog 36 #[.int .i64 (k:Int),.pointer (some ⟨V,0,none⟩),.pointer (some ⟨I,0,none⟩)] w fun e w' => e = .returned (.bool (decide (i ∈ (ts k).recvs))) ∧ w.grownBy w' none:=by
 obtain ⟨sn,rc,cl,z0,z1,z2,o1,o2,o3⟩:=hT.out.row k hk
 have HN:Hid (NsIn w (ts k).recvs rc):=ns_own o2
 obtain ⟨sa,sc,hsn⟩:=own_form o2
 have c0:w.cell? ⟨V,0,none⟩ = some (.slice (some ⟨Tb,0,none⟩) L L):=by simp [World.cell?,hV.out]
 have c1:w.cell? ⟨I,0,none⟩ = some (.int .i64 (i:Int)):=by simp [World.cell?,hI.out]
 have c2:w.cell? ⟨Tb,k * 3 + 1,none⟩ = some rc:=by simp [World.cell?,hT.out.blk,z1]
 rw [hsn] at c2 HN
 have hkp:(k:Int) < (L:Int):=by omega
 clear z0 z1 z2 o1 o2 o3 hsn
 go_enter Tryz.func36,Tryz.ntmps36
 go_wp2_with fail
 refine wp_region_held_drew (S:=fun w' => w'.cell? ⟨V,0,none⟩ = some (.slice (some ⟨Tb,0,none⟩) L L) ∧ w'.cell? ⟨I,0,none⟩ = some (.int .i64 (i:Int)) ∧ w'.cell? ⟨Tb,k * 3 + 1,none⟩ = some (.slice sa (ts k).recvs.length sc)) (by kernel_rfl) ⟨c0,c1,c2⟩ (fun hHeld => ?_)
 refine wpAnyH_take (i:=0) (oi:=_) (v:=?_) rfl (by kernel_rfl) (by kernel_rfl) (by kernel_rfl) (fun _ _ _ h => h) (Or.inl ⟨by rfl,?_⟩) (by assumption) ?_
 rotate_left
 ·intro w hSw
  (try dsimp only at hSw)
  go_simp
  (try with_reducible rfl)
 (try go_frame)
 refine wpAnyH_take (i:=1) (oi:=_) (v:=?_) rfl (by kernel_rfl) (by kernel_rfl) (by kernel_rfl) (fun _ _ _ h => h) (Or.inl ⟨by rfl,?_⟩) (by assumption) ?_
 rotate_left
 ·intro w hSw
  (try dsimp only at hSw)
  go_simp
  (try with_reducible rfl)
 (try go_frame)
 refine wpAnyH_take (i:=2) (oi:=_) (v:=?_) rfl (by kernel_rfl) (by kernel_rfl) (by kernel_rfl) (fun _ _ _ h => h) (Or.inl ⟨by rfl,?_⟩) (by assumption) ?_
 rotate_left
 ·intro w hSw
  (try dsimp only at hSw)
  go_simp
  (try with_reducible rfl)
 (try go_frame)
 refine wpAnyH_take (i:=3) (oi:=_) (v:=?_) rfl (by kernel_rfl) (by kernel_rfl) (by kernel_rfl) (fun _ _ _ h => h) (Or.inl ⟨by rfl,?_⟩) (by assumption) ?_
 rotate_left
 ·intro w hSw
  (try dsimp only at hSw)
  go_simp
  (try with_reducible rfl)
 (try go_frame)
 refine wpAnyH_take (i:=4) (oi:=_) (v:=?_) rfl (by kernel_rfl) (by kernel_rfl) (by kernel_rfl) (fun _ _ _ h => h) (Or.inl ⟨by rfl,?_⟩) (by assumption) ?_
 rotate_left
 ·intro w hSw
  (try dsimp only at hSw)
  go_simp
  (try with_reducible rfl)
 (try go_frame)
 refine wpAnyH_take (i:=5) (oi:=_) (v:=?_) rfl (by kernel_rfl) (by kernel_rfl) (by kernel_rfl) (fun _ _ _ h => h) (Or.inl ⟨by rfl,?_⟩) (by assumption) ?_
 rotate_left
 ·intro w hSw
  (try dsimp only at hSw)
  go_simp
  (try with_reducible rfl)
 (try go_frame)
 refine wpAnyH_ready (rs:=[6]) (by kernel_rfl) (by simp) ?_
 refine AllReadyH.cons (o:=_) rfl (fun K' hK => ?_) AllReadyH.nil
 go_simp
 refine (contains_any (ts k).recvs _ i w.drew (by obtain ⟨a,c,e,h⟩:=HN.out; exact ⟨a,c,e,h⟩) (by have:=hf.out; omega)).mono ?_
 rintro e w1 ⟨hw1,rfl⟩
 subst hw1
 refine hK.out _ _ ⟨c0,c1,c2⟩ (fun hHeld => ?_)
 clear hK
 refine wpAnyH_take (i:=7) (oi:=_) (v:=?_) rfl (by kernel_rfl) (by kernel_rfl) (by kernel_rfl) (fun _ _ _ h => h) (Or.inl ⟨by rfl,?_⟩) (by assumption) ?_
 rotate_left
 ·intro w hSw
  (try dsimp only at hSw)
  go_simp
  (try with_reducible rfl)
 (try go_frame)
 refine wpAnyH_done (by kernel_rfl) ?_ _
 dsimp only [List.getElem_toArray,List.getElem_cons_succ,List.getElem_cons_zero]
 go_wp2
 go_ret
 exact ⟨rfl,⟨rfl,rfl,rfl,Nat.le_refl _,fun _ _ _ => rfl⟩⟩
theorem sclone_any (s:ByteArray) (w:World) (hlim:s.size ≤ 281474976710656) :
  Calls Tryz.prog 32 #[.string s] w fun e w' => e = .returned (.string s) ∧ w.grownBy w' none:=by
 go_enter Tryz.func32,Tryz.ntmps32
 go_wp2_with (go_at_call 54; refine (Tryz.stringslite_Clone _ _ hlim).mono ?_; rintro e w1 ⟨rfl,hb⟩)
 go_ret
 exact ⟨rfl,⟨hb.os,hb.tape,hb.output,hb.size,fun k hk _ => hb.block k hk⟩⟩
def Found (l:List Sy.Df) (sp:Nat → Bool) (j:Nat) (nm:ByteArray):Prop:=((List.range j).filter sp = [] ∧ nm = ⟨#[]⟩) ∨ ∃ x,(List.range j).filter sp = [x] ∧ nm = (defAt l x).name ∧ x < j
theorem filter_more {sp:Nat → Bool} {x y:Nat} {j L:Nat} (h:(List.range j).filter sp = [x,y] ∨ ∃ z t,(List.range j).filter sp = z :: t ∧ 2 ≤ (z :: t).length) (hj:j ≤ L):2 ≤ ((List.range L).filter sp).length:=by
 have hs:((List.range j).filter sp).length ≤ ((List.range L).filter sp).length:=by
  have:(List.range j).Sublist (List.range L):=List.range_sublist.2 hj
  exact (this.filter _).length_le
 rcases h with h | ⟨z,t,h,h2⟩
 ·rw [h] at hs; simpa using hs
 ·rw [h] at hs; omega
theorem only_any (B:Nat) (l:List Sy.Df) (a:Option Addr) (c M i:Nat) (g:FuncId) (caps:Array Value) (sp:Nat → Bool) (w:World) (r:Except Int Value) (hD:Hid (DfsIn B w l a)) (hB:B ≤ w.heap.size) (hN:Hid (∀ (k:Nat) (d:Sy.Df),l[k]? = some d → d.name ≠ ⟨#[]⟩ ∧ d.name.size ≤ 12)) (hl:l.length ≤ 100000)
  (hcf:∀ (vs:Array Value) (w:World),(callFunc g vs).run Tryz.prog w = .ok (.enter g vs) w) (hS:Hid (∀ (k:Nat) (w':World),k < l.length → w.grownBy w' none → Calls Tryz.prog g (#[.int .i64 (k:Int)] ++ caps) w' fun e w'' => e = .returned (.bool (sp k)) ∧ w'.grownBy w'' none))
  (hr:Hid (r = match Sm.only l sp with | .ok s => .ok (.string s) | .error e => .error e)) :
  Calls Tryz.prog 33 #[lkV l.length a c M (i:Int),.func (.func g) #[] caps] w fun e w' => Fe (i:Int) r w e w':=by
 obtain ⟨L,hL⟩:∃ L,L = l.length:=⟨_,rfl⟩
 have HL:Hid (L = l.length):=hL
 have hl':L ≤ 100000:=by rw [hL]; exact hl
 obtain ⟨W0,hW0⟩:∃ W0,W0 = w.alloc (lkB L a c M (i:Int)):=⟨_,rfl⟩
 have HG0:Hid (w.grownBy W0 none):=by rw [hW0]; exact grown_a _
 have HP0:Hid (W0.heap[w.heap.size]? = some (lkB L a c M (i:Int))):=by rw [hW0]; exact heap_alloc_new _ _
 have HW0:Hid (W0 = _):=hW0
 rw [← hL]
 clear hW0 hL hl
 go_enter Tryz.func33,Tryz.ntmps33
 go_wp2
 rw [← HW0.out]
 go_loopw [5,12] (fun s q wr => ∃ (j:Nat) (nm:ByteArray),s = .string nm ∧ q = .int .i64 j ∧ j ≤ L ∧ Hid (W0.grownBy wr none) ∧ Hid (Found l sp j nm)) (fun _ q _ => L - (intOf q).toNat)
 case atStart => exact ⟨0,⟨#[]⟩,rfl,rfl,Nat.zero_le _,World.grownBy.refl _ _,.inl ⟨rfl,rfl⟩⟩
 case round =>
  obtain ⟨j,nm,rfl,rfl,hj,HG,HF⟩:=hrel
  have HGw:Hid (w.grownBy wr none):=grown_trans HG0.out HG.out
  have hP:wr.heap[w.heap.size]? = some (lkB L a c M (i:Int)):=(HG.out.block _ (lt_of_block HP0.out) (by simp)).trans HP0.out
  by_cases hlt:j < L
  ·have hj1:j < l.length:=by rw [← HL.out]; exact hlt
   obtain ⟨d,hd⟩:∃ d,l[j]? = some d:=⟨_,List.getElem?_eq_getElem hj1⟩
   obtain ⟨b,off,pa,pc,ba,bc,ha,hb,k0,k1,k2,k3,k4,k5,k6,k7,k8,_⟩:=(hD.out.same (same_grown HGw.out (by simp) hB)).2 j d hd
   have hda:defAt l j = d:=by simp [defAt,hd]
   have hbw:b < wr.heap.size:=by have:=HGw.out.size; omega
   have HJ:Hid (j + 1 ≤ L):=hlt
   have hjp:(j:Int) < (L:Int):=by omega
   have HG1:Hid (w.grownBy (wr.alloc (dfB d pa pc ba bc)) none):=grown_trans HGw.out (grown_a _)
   have HC:=hid (hS.out j _ hj1 HG1.out)
   have HNd:=hid (hN.out j d hd)
   have HDA:=hid hda
   have hPl:=lt_of_block hP
   have HP:=hid hP
   subst ha
   clear hd hda hP
   go_wp2_with fail
   refine HC.out.mono ?_
   rintro e w1 ⟨rfl,hg1⟩
   have HGa:Hid (W0.grownBy w1 none):=grown_trans (grown_trans HG.out (grown_a _)) hg1
   have hb1:w1.heap[wr.heap.size]? = some (dfB d pa pc ba bc):=(hg1.block _ (by simp) (by simp)).trans (heap_alloc_new _ _)
   have hp1:w1.heap[w.heap.size]? = some (lkB L (some ⟨b,off,none⟩) c M (i:Int)):=(hg1.block _ (by simp; omega) (by simp)).trans ((Below.heap_alloc _ _ _ hPl).trans HP.out)
   obtain ⟨_,n1,_⟩:=nine_cell hb1
   obtain ⟨u0,u1,u2⟩:=three_cell hp1
   have hrs:(List.range (j + 1)).filter sp = (List.range j).filter sp ++ (if sp j = true then [j] else []):=by rw [List.range_succ,List.filter_append]; cases hsp:sp j <;> simp [hsp]
   cases hsp:sp j with
   | false =>
    have HF1:Hid (Found l sp (j + 1) nm):=by
     rw [hsp] at hrs
     simp at hrs
     rcases HF.out with ⟨h1,h2⟩ | ⟨x,h1,h2,h3⟩
     ·exact .inl ⟨by rw [hrs]; exact h1,h2⟩
     ·exact .inr ⟨x,by rw [hrs]; exact h1,h2,by omega⟩
    clear hg1 hb1 hp1 hrs hsp
    go_wp2
    go_roundw
    case rel => exact ⟨j + 1,nm,rfl,by go_num,HJ.out,HGa,HF1⟩
    case measure => have:=HJ.out; simp [intOf]; omega
   | true =>
    rw [hsp] at hrs
    simp only [if_true] at hrs
    rcases HF.out with ⟨h1,h2⟩ | ⟨x,h1,h2,h3⟩
    ·subst h2
     have HF1:Hid (Found l sp (j + 1) d.name):=.inr ⟨j,by rw [hrs,h1]; rfl,by rw [HDA.out],by omega⟩
     have hdn:d.name.size ≤ 281474976710656:=by have:=HNd.out.2; omega
     clear hg1 hb1 hp1 hrs hsp h1 HF
     go_wp2_with (go_at_call 32; refine (sclone_any d.name _ hdn).mono ?_; rintro e w2 ⟨rfl,hg2⟩; have HG2:Hid (W0.grownBy w2 none):=grown_trans HGa.out hg2; clear hg2)
     go_wp2
     go_roundw
     case rel => exact ⟨j + 1,d.name,rfl,by go_num,HJ.out,HG2,HF1⟩
     case measure => have:=HJ.out; simp [intOf]; omega
    ·have hx:x < l.length:=by have:=HL.out; omega
     have hne:nm ≠ ⟨#[]⟩:=by
      rw [h2]
      have:=hN.out x l[x] (List.getElem?_eq_getElem hx)
      simpa [defAt,List.getElem?_eq_getElem hx] using this.1
     have HRe:Hid (r = .error 8):=by
      have h4:2 ≤ ((List.range l.length).filter sp).length:=filter_more (x:=0) (y:=0) (.inr ⟨x,[j],by rw [hrs,h1]; rfl,by simp⟩) (by have:=HL.out; have:=HJ.out; omega)
      unfold Hid
      rw [hr.out,Sm.only]
      match hq:(List.range l.length).filter sp with
      | [] => rw [hq] at h4; simp at h4
      | [y] => rw [hq] at h4; simp at h4
      | y :: z :: t => rfl
     have hem:nm.toList.isEmpty = false:=by
      cases hq:nm.toList.isEmpty with
      | false => rfl
      | true =>
       have h5:=list_beq nm ⟨#[]⟩
       rw [List.isEmpty_iff.1 hq,show (⟨#[]⟩:ByteArray).toList = [] by kernel_rfl] at h5
       exact absurd (of_decide_eq_true h5.symm) hne
     clear hg1 hb1 hp1 hrs hsp h1 h2 h3 HF hx hne
     go_wp2_with fail
     refine (fail_any L (some ⟨b,off,none⟩) c M (i:Int) 8 _).mono ?_
     rintro e w9 ⟨rfl,hg9⟩
     have HE:Hid (Fe (i:Int) r w (.panicked [fltE 8 (i:Int)]) w9):=⟨grown_trans (grown_trans HG0.out HGa.out) hg9,by rw [HRe.out]⟩
     clear hg9
     go_wp2
     exact ⟨rfl,HE.out⟩
  ·have HRe:Hid (r = .ok (.string nm)):=by
    have h2:=HL.out
    unfold Hid
    rw [hr.out,Sm.only]
    rcases HF.out with ⟨h1,h3⟩ | ⟨x,h1,h3,_⟩
    ·rw [show l.length = j by omega,h1,h3]
    ·rw [show l.length = j by omega,h1,h3]
   have hjp:¬ (j:Int) < (L:Int):=by omega
   clear hP
   go_wp2
   go_ret
   exact ⟨HGw.out,by rw [HRe.out]; rfl⟩
end Sm
end Go.Proofs.YtpnljpdpobbiiaaGreatDoor

/- Two rows that are asked with. -/
import Derived.Test.YtnkphifgncidaabGreatDoorM43
import Derived.Test.YtnkphifgncidaabGreatDoorM44
set_option maxRecDepth 100000
set_option maxHeartbeats 1000000
namespace Go.Proofs.YtnkphifgncidaabGreatDoor.Vw
open Go.RowKit Vf Vm
theorem fd_two {w w':World} {a b:Option Addr} {c d:Nat} {l m:List Int} (h:In64 w w.heap.size a l) (hm:In64 w w.heap.size b m) (hl:l.length ≤ 100) (hl2:m.length ≤ 100) (hb:Below w.heap.size w w') :
  FdIn (w'.alloc (.cells #[.slice a l.length c,.slice b m.length d] 22)).heap.size (w'.alloc (.cells #[.slice a l.length c,.slice b m.length d] 22)) [l,m] (some ⟨w'.heap.size,0,none⟩) (fun i => if i = 0 then a else b) (fun i => if i = 0 then c else d):=by
 have hz:=hb.size
 have hnew:=heap_alloc_new w' (.cells #[.slice a l.length c,.slice b m.length d] 22)
 refine ⟨by simp,fun i f hf => ?_,fun i f hf => ?_⟩
 ·refine ⟨w'.heap.size,0,rfl,by simp,?_⟩
  match i,hf with
  | 0,hf => simp at hf; subst hf; simp only [World.cell?,hnew]; rfl
  | 1,hf => simp at hf; subst hf; simp only [World.cell?,hnew]; rfl
  | i + 2,hf => simp at hf
 ·match i,hf with
  | 0,hf =>
   simp at hf; subst hf
   refine ⟨by omega,fun j v hv => ?_⟩
   obtain ⟨b,off,e,hlt,hc⟩:=(h.below hb) j v hv
   exact ⟨b,off,e,by simp; omega,(cell_eq (Below.heap_alloc _ _ _ (by omega)) _).trans hc⟩
  | 1,hf =>
   simp at hf; subst hf
   refine ⟨by omega,fun j v hv => ?_⟩
   obtain ⟨b,off,e,hlt,hc⟩:=(hm.below hb) j v hv
   exact ⟨b,off,e,by simp; omega,(cell_eq (Below.heap_alloc _ _ _ (by omega)) _).trans hc⟩
  | i + 2,hf => simp at hf
def MgOk (la lb o:List Int) (i k:Nat):Prop:=i ≤ la.length ∧ k ≤ lb.length ∧ o.length = i + k ∧ o ++ mrg (la.length + lb.length - (i + k)) (la.drop i) (lb.drop k) = mrg (la.length + lb.length) la lb
theorem MgOk.left {la lb o:List Int} {i k:Nat} {x y:Int} (h:MgOk la lb o i k) (hx:la[i]? = some x) (hy:lb[k]? = some y) (hc:x ≤ y):MgOk la lb (o ++ [x]) (i + 1) k:=by
 obtain ⟨h1,h2,h3,h4⟩:=h
 have hi:=(List.getElem?_eq_some_iff.1 hx).1
 have hk:=(List.getElem?_eq_some_iff.1 hy).1
 refine ⟨hi,h2,by simp [h3]; omega,?_⟩
 rw [← h4,show la.length + lb.length - (i + k) = (la.length + lb.length - (i + 1 + k)) + 1 by omega,drop_one hx,drop_one hy]
 show _ = o ++ (if decide (x ≤ y) = true then _ else _)
 rw [if_pos (decide_eq_true hc),List.append_assoc,← drop_one hy]
 rfl
theorem MgOk.right {la lb o:List Int} {i k:Nat} {x y:Int} (h:MgOk la lb o i k) (hx:la[i]? = some x) (hy:lb[k]? = some y) (hc:¬ x ≤ y):MgOk la lb (o ++ [y]) i (k + 1):=by
 obtain ⟨h1,h2,h3,h4⟩:=h
 have hi:=(List.getElem?_eq_some_iff.1 hx).1
 have hk:=(List.getElem?_eq_some_iff.1 hy).1
 refine ⟨h1,hk,by simp [h3]; omega,?_⟩
 rw [← h4,show la.length + lb.length - (i + k) = (la.length + lb.length - (i + (k + 1))) + 1 by omega,drop_one hx,drop_one hy]
 show _ = o ++ (if decide (x ≤ y) = true then _ else _)
 rw [if_neg (by rw [decide_eq_false hc]; simp),List.append_assoc,← drop_one hx]
 rfl
theorem MgOk.fin {la lb o:List Int} {i k:Nat} (h:MgOk la lb o i k) (hc:i = la.length ∨ k = lb.length):o = mrg (la.length + lb.length) la lb:=by
 obtain ⟨h1,h2,h3,h4⟩:=h
 rw [← h4]
 rcases hc with rfl | rfl
 ·rw [List.drop_length,mrg_nil,List.append_nil]
 ·rw [List.drop_length,mrg_nil2,List.append_nil]
theorem merge_any (la lb:List Int) (a b:Option Addr) (c d:Nat) (w:World) (hw:Hid (In64 w w.heap.size a la)) (hn:la.length ≤ 9223372036854775807) (hv:Hid (In64 w w.heap.size b lb)) (hn2:lb.length ≤ 9223372036854775807) (hT:Hid (Xe.Tabs w)) :
  Calls Tryz.prog 5 #[.slice a la.length c,.slice b lb.length d] w fun e w' => e = .returned (.bool true) ∧ Below w.heap.size w w':=by
 obtain ⟨i0,hi,hz0,hz1,hz2⟩:=info_parts info64
 go_enter Tryz.func5,Tryz.ntmps5
 by_cases hl:la.length ≤ 60
 ·have n1:¬ (60:Int) < (la.length:Int):=by omega
  by_cases hl2:lb.length ≤ 60
  ·have m1:¬ (60:Int) < (lb.length:Int):=by omega
   go_wp2
   go_loopw [5,6,7] (fun vl vi vk wr => ∃ (i k:Nat) (o:List Int),vi = .int .i64 i ∧ vk = .int .i64 k ∧ MgOk la lb o i k ∧ Below w.heap.size w wr ∧ wr.ownsRow w.heap.size 2 1 vl o.length (ints o)) (fun _ vi vk _ => (la.length - (intOf vi).toNat) + (lb.length - (intOf vk).toNat))
   case atStart => exact ⟨0,0,[],rfl,rfl,⟨Nat.zero_le _,Nat.zero_le _,rfl,rfl⟩,Below.refl _ w,⟨rfl,.inl ⟨rfl,rfl⟩⟩⟩
   case round =>
    obtain ⟨i,k,o,rfl,rfl,hmg,hb,hown⟩:=hrel
    have HB:=Sb.hide hb
    have HMG:=Sb.hide hmg
    have hbz:=hb.size
    have hik:i ≤ la.length ∧ k ≤ lb.length:=⟨hmg.1,hmg.2.1⟩
    have hol:o.length = i + k:=hmg.2.2.1
    by_cases hlt:i < la.length
    ·by_cases hlt2:k < lb.length
     ·obtain ⟨on,hon⟩:∃ on,on = o.length:=⟨_,rfl⟩
      obtain ⟨oi,hoi⟩:∃ oi,oi = ints o:=⟨_,rfl⟩
      have HO:Hid (wr.ownsRow w.heap.size 2 1 u5 on oi):=by unfold Hid; rw [hon,hoi]; exact hown
      have HOS:=Sb.hide (And.intro hon hoi)
      rw [← hon] at hol
      have holb:on ≤ 120:=by omega
      clear hb hmg hown hon hoi hol
      obtain ⟨x,hx⟩:∃ x,la[i]? = some x:=⟨_,List.getElem?_eq_getElem hlt⟩
      obtain ⟨y,hy⟩:∃ y,lb[k]? = some y:=⟨_,List.getElem?_eq_getElem hlt2⟩
      obtain ⟨b1,off1,ha,hb1,hc⟩:=(hw.out.below HB.out) i x hx
      obtain ⟨b2,off2,ha2,hb2,hc2⟩:=(hv.out.below HB.out) k y hy
      have HXY:=Sb.hide (And.intro hx hy)
      obtain ⟨ml,hml⟩:∃ m,m = la.length:=⟨_,rfl⟩
      obtain ⟨mb,hmb⟩:∃ m,m = lb.length:=⟨_,rfl⟩
      rw [ha,ha2,← hml,← hmb]
      rw [← hml] at hlt hl hn hik
      rw [← hmb] at hlt2 hl2 hn2 hik
      have HML:=Sb.hide (And.intro hml hmb)
      have n0:(0:Int) ≤ (i:Int):=by omega
      have n2:(i:Int) < (ml:Int):=by omega
      have n4:(0:Int) ≤ (k:Int):=by omega
      have n5:(k:Int) < (mb:Int):=by omega
      clear hml hmb ha ha2 hx hy n1 m1
      by_cases hxy:x ≤ y
      ·have HNX:=Sb.hide (HMG.out.left HXY.out.1 HXY.out.2 hxy)
       go_upto_region 6 with fail
       go_quiet (fail)
       have HBW:Hid (Below w.heap.size w (wr.drewN nq)):=below_drewN HB.out nq
       have HOW:Hid ((wr.drewN nq).ownsRow w.heap.size 2 1 u5 on oi):=HO.out
       have hcW:(wr.drewN nq).cell? ⟨b1,off1 + i,none⟩ = some (.int .i64 x):=hc
       have hcW2:(wr.drewN nq).cell? ⟨b2,off2 + k,none⟩ = some (.int .i64 y):=hc2
       have hzW:w.heap.size ≤ (wr.drewN nq).heap.size:=hbz
       generalize wr.drewN nq = W at HBW HOW hcW hcW2 hzW ⊢
       clear HB HO hc hc2 hbz
       have HRW:Hid ((W.alloc (.cells #[.int .i64 x] 2)).ownsRow w.heap.size 2 1 u5 on oi):=HOW.out.alloc _
       go_wp2_with (at_builtin; refine wpList_append_where rfl (.tmp 35) (.tmp 40) 22 rfl w.heap.size 2 i0 (.int .i64 0) 1 8 Tryz.underlying22 hi hz0 hz1 hz2 rfl (by decide) u5 on oi rfl HRW.out ⟨W.heap.size,0,none⟩ 1 1 [.int .i64 x] rfl rfl (news1 W _ _) (ones1 rfl) (by decide) (by unfold maxLen; omega) (by omega) (by simp; omega) ?_)
       intro R4 cap4 w4 hown4 hg4 hR4
       have HREL:Hid (Below w.heap.size w w4 ∧ w4.ownsRow w.heap.size 2 1 (.slice (some ⟨R4,0,none⟩) (on + 1) cap4) (o ++ [x]).length (ints (o ++ [x]))):=by
        refine ⟨(HBW.out.alloc hzW _).grown hg4 (by simp; omega) (fun b hb => (HOW.out.lt b hb).1),?_⟩
        rw [List.length_append,← HOS.out.1,show ints (o ++ [x]) = ints o ++ [.int .i64 x] by simp,← HOS.out.2]
        exact hown4
       clear hown4 hg4 hR4 HOW
       go_wp2
       go_roundw
       case rel => exact ⟨i + 1,k,o ++ [x],by go_num,rfl,HNX.out,HREL.out⟩
       case measure => have:=HML.out; simp [intOf]; omega
      ·have HNX:=Sb.hide (HMG.out.right HXY.out.1 HXY.out.2 hxy)
       go_upto_region 6 with fail
       go_quiet (fail)
       have HBW:Hid (Below w.heap.size w (wr.drewN nq)):=below_drewN HB.out nq
       have HOW:Hid ((wr.drewN nq).ownsRow w.heap.size 2 1 u5 on oi):=HO.out
       have hcW:(wr.drewN nq).cell? ⟨b1,off1 + i,none⟩ = some (.int .i64 x):=hc
       have hcW2:(wr.drewN nq).cell? ⟨b2,off2 + k,none⟩ = some (.int .i64 y):=hc2
       have hzW:w.heap.size ≤ (wr.drewN nq).heap.size:=hbz
       generalize wr.drewN nq = W at HBW HOW hcW hcW2 hzW ⊢
       clear HB HO hc hc2 hbz
       have HRW:Hid ((W.alloc (.cells #[.int .i64 y] 2)).ownsRow w.heap.size 2 1 u5 on oi):=HOW.out.alloc _
       go_wp2_with (at_builtin; refine wpList_append_where rfl (.tmp 44) (.tmp 49) 22 rfl w.heap.size 2 i0 (.int .i64 0) 1 8 Tryz.underlying22 hi hz0 hz1 hz2 rfl (by decide) u5 on oi rfl HRW.out ⟨W.heap.size,0,none⟩ 1 1 [.int .i64 y] rfl rfl (news1 W _ _) (ones1 rfl) (by decide) (by unfold maxLen; omega) (by omega) (by simp; omega) ?_)
       intro R4 cap4 w4 hown4 hg4 hR4
       have HREL:Hid (Below w.heap.size w w4 ∧ w4.ownsRow w.heap.size 2 1 (.slice (some ⟨R4,0,none⟩) (on + 1) cap4) (o ++ [y]).length (ints (o ++ [y]))):=by
        refine ⟨(HBW.out.alloc hzW _).grown hg4 (by simp; omega) (fun b hb => (HOW.out.lt b hb).1),?_⟩
        rw [List.length_append,← HOS.out.1,show ints (o ++ [y]) = ints o ++ [.int .i64 y] by simp,← HOS.out.2]
        exact hown4
       clear hown4 hg4 hR4 HOW
       go_wp2
       go_roundw
       case rel => exact ⟨i,k + 1,o ++ [y],rfl,by go_num,HNX.out,HREL.out⟩
       case measure => have:=HML.out; simp [intOf]; omega
     ·have n2:(i:Int) < (la.length:Int):=by omega
      have n3:¬ (k:Int) < (lb.length:Int):=by omega
      have hO:=hown
      rw [hmg.fin (.inr (by omega))] at hO
      clear hb hmg hown
      have HV:=Sb.hide (own_reads hO)
      have HA:Hid (Below wr.heap.size wr (wr.alloc (.cells #[.slice a la.length c,.slice b lb.length d] 22))):=(Below.refl _ wr).alloc (Nat.le_refl _) _
      have HB2:Hid (Below w.heap.size w (wr.alloc (.cells #[.slice a la.length c,.slice b lb.length d] 22))):=HB.out.alloc hbz _
      have HF:=Sb.hide (fd_two (c:=c) (d:=d) hw.out hv.out (by omega) (by omega) HB.out)
      have HT2:=Sb.hide (hT.out.below HB2.out)
      have HV2:=Sb.hide (HV.out.below HA.out)
      have hfl:=mrg_len (la.length + lb.length) la lb
      clear hO HA
      go_wp2_with fail
      refine (says_any merge_asked [la,lb] (some ⟨wr.heap.size,0,none⟩) 2 _ _ (mrg (la.length + lb.length) la lb) u5 _ HT2 HF (merge_fits la lb) HV2 (merge_says la lb hl hl2).1 (merge_says la lb hl hl2).2 (by omega)).mono ?_
      rintro e w5 ⟨rfl,hb5⟩
      have HB5:=Sb.hide (HB2.out.trans (hb5.mono HB2.out.size))
      clear hb5
      go_wp2
      go_ret
      exact ⟨rfl,HB5.out⟩
    ·have n3:¬ (i:Int) < (la.length:Int):=by omega
     have hO:=hown
     rw [hmg.fin (.inl (by omega))] at hO
     clear hb hmg hown
     have HV:=Sb.hide (own_reads hO)
     have HA:Hid (Below wr.heap.size wr (wr.alloc (.cells #[.slice a la.length c,.slice b lb.length d] 22))):=(Below.refl _ wr).alloc (Nat.le_refl _) _
     have HB2:Hid (Below w.heap.size w (wr.alloc (.cells #[.slice a la.length c,.slice b lb.length d] 22))):=HB.out.alloc hbz _
     have HF:=Sb.hide (fd_two (c:=c) (d:=d) hw.out hv.out (by omega) (by omega) HB.out)
     have HT2:=Sb.hide (hT.out.below HB2.out)
     have HV2:=Sb.hide (HV.out.below HA.out)
     have hfl:=mrg_len (la.length + lb.length) la lb
     clear hO HA
     go_wp2_with fail
     refine (says_any merge_asked [la,lb] (some ⟨wr.heap.size,0,none⟩) 2 _ _ (mrg (la.length + lb.length) la lb) u5 _ HT2 HF (merge_fits la lb) HV2 (merge_says la lb hl hl2).1 (merge_says la lb hl hl2).2 (by omega)).mono ?_
     rintro e w5 ⟨rfl,hb5⟩
     have HB5:=Sb.hide (HB2.out.trans (hb5.mono HB2.out.size))
     clear hb5
     go_wp2
     go_ret
     exact ⟨rfl,HB5.out⟩
  ·have m1:(60:Int) < (lb.length:Int):=by omega
   go_wp2
   go_ret
   exact ⟨rfl,Below.refl _ w⟩
 ·have n1:(60:Int) < (la.length:Int):=by omega
  go_wp2
  go_ret
  exact ⟨rfl,Below.refl _ w⟩
end Go.Proofs.YtnkphifgncidaabGreatDoor.Vw

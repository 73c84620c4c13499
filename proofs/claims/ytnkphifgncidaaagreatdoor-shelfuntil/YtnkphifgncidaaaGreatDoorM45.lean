/- The walk of ShelfUntil. -/
import Derived.Test.YtnkphifgncidaaaGreatDoorM44
set_option maxRecDepth 100000
set_option maxHeartbeats 1000000
namespace Go.Proofs.YtnkphifgncidaaaGreatDoor.Vw
open Go.RowKit Vf Vm
def UnAt (l:List Int) (w:World) (k:Nat) (vl:Value) (wr:World):Prop:=Below w.heap.size w wr ∧ wr.ownsRow w.heap.size 2 1 vl k (ints (l.take k)) ∧ ∀ v ∈ l.take k,v ≠ 0
theorem until_rep {w:World} {p q:List Int} (h:p.length ≤ 100) (hz:∀ v ∈ p,v ≠ 0) {s u:Nat} {v tv:Value} (hR:Rep w Xe.mUntil [p ++ 0 :: q] s u v tv):s = 4 ∧ RI w v p ∧ RI w tv [((p.length + 1:Nat):Int)]:=by
 obtain ⟨h1,h2,h3⟩:=until_done p q h hz
 refine ⟨(congrArg Prod.fst hR.stat).trans h2,?_,?_⟩
 ·have:=own_reads hR.out
  rwa [h1] at this
 ·have ht:=hR.took
  rw [h3] at ht
  exact own_reads (ws:=[((p.length + 1:Nat):Int)]) ht
theorem until_any (l:List Int) (a:Option Addr) (c:Nat) (w:World) (hw:Hid (In64 w w.heap.size a l)) (hn:l.length ≤ 9223372036854775807) (hT:Hid (Xe.Tabs w)) :
  Calls Tryz.prog 5 #[.slice a l.length c] w fun e w' => e = .returned (.bool true) ∧ Below w.heap.size w w':=by
 obtain ⟨i0,hi,hz0,hz1,hz2⟩:=info_parts info64
 go_enter Tryz.func5,Tryz.ntmps5
 by_cases hl:l.length ≤ 100
 ·have n1:¬ (100:Int) < (l.length:Int):=by omega
  go_wp2
  go_loopw [3,13] (fun vl v wr => ∃ k:Nat,k ≤ l.length ∧ v = .int .i64 k ∧ UnAt l w k vl wr) (fun _ v _ => l.length - (intOf v).toNat)
  case atStart => exact ⟨0,Nat.zero_le _,rfl,Below.refl _ w,⟨rfl,.inl ⟨rfl,rfl⟩⟩,fun v hv => by cases hv⟩
  case round =>
   obtain ⟨k,hk,rfl,hb,hown,hnz⟩:=hrel
   have HB:=Sb.hide hb
   have HO:=Sb.hide hown
   have HNZ:=Sb.hide hnz
   have hbz:=hb.size
   clear hb hown hnz
   by_cases hlt:k < l.length
   ·obtain ⟨x,hx⟩:∃ x,l[k]? = some x:=⟨_,List.getElem?_eq_getElem hlt⟩
    obtain ⟨b,off,ha,hbw,hc⟩:=(hw.out.below HB.out) k x hx
    have HX:Hid (l.take (k + 1) = l.take k ++ [x]):=by unfold Hid; rw [List.take_add_one,hx]; rfl
    have HD:Hid (l = l.take k ++ x :: l.drop (k + 1)):=by unfold Hid; rw [← drop_one hx,List.take_append_drop]
    by_cases hx0:x = 0
    ·subst hx0
     have hlk:(l.take k).length = k:=by rw [List.length_take]; omega
     obtain ⟨ua,uc,rfl,_,_⟩:=own_reads HO.out
     have HP:Hid (l.take k ++ 0 :: l.drop (k + 1) = l):=HD.out.symm
     have HV:=Sb.hide (own_reads HO.out)
     obtain ⟨p,hp⟩:∃ p,p = l.take k:=⟨_,rfl⟩
     rw [← hp] at HV HP HNZ hlk ⊢
     rw [hlk] at HV ⊢
     have HA:Hid (Below wr.heap.size wr (wr.alloc (.cells #[.slice a l.length c] 22))):=(Below.refl _ wr).alloc (Nat.le_refl _) _
     have HB2:Hid (Below w.heap.size w (wr.alloc (.cells #[.slice a l.length c] 22))):=HB.out.alloc hbz _
     have HF:=Sb.hide (fd_one (c:=c) hw.out hl HB.out)
     have HT2:=Sb.hide (hT.out.below HB2.out)
     have HV2:=Sb.hide (HV.out.below HA.out)
     have HPL:Hid (p.length = k):=hlk
     have n0:(0:Int) ≤ (k:Int):=by omega
     have n2:(k:Int) < (l.length:Int):=by omega
     have hca:wr.cell? ⟨b,off + k,none⟩ = some (.int .i64 0):=hc
     subst ha
     clear hx HX HD HO hp hc n1
     go_wp2_with fail
     refine (ask_any until_asked [l] (some ⟨wr.heap.size,0,none⟩) 1 (fun _ => some ⟨b,off,none⟩) (fun _ => c) _ HT2 HF (until_fits l)).mono ?_
     rintro e w1 ⟨s,q,tr,st,oa,on,oc,sa,sn,sc,ta,tn,tc,rfl,hb1,hR⟩
     rw [← HP.out] at hR
     obtain ⟨rfl,hro,hrt⟩:=until_rep (by omega) HNZ.out hR
     obtain ⟨ta',tc',e1,_,hcell⟩:=hrt
     cases e1
     obtain ⟨tb,toff,rfl,htc⟩:=hcell 0 _ rfl
     have HV1:=Sb.hide (HV2.out.below hb1)
     have HO1:=Sb.hide hro
     have HB1:=Sb.hide (HB2.out.trans (hb1.mono HB2.out.size))
     have HTC:=Sb.hide htc
     clear hb1 hR hro hcell htc HV HA HB2 HF HT2 HV2
     obtain ⟨ro,hro⟩:∃ o:Obj,o = repO 4 q tr (.slice oa on oc) (.slice sa sn sc) (.slice (some ⟨tb,toff,none⟩) 1 tc) st:=⟨_,rfl⟩
     have HB3:Hid (Below w1.heap.size w1 (w1.alloc ro)):=(Below.refl _ w1).alloc (Nat.le_refl _) _
     have HA:Hid ((w1.alloc ro).heap[w1.heap.size]? = some ro):=heap_alloc_new w1 _
     have htl:tb < w1.heap.size:=by
      rcases Nat.lt_or_ge tb w1.heap.size with h | h
      ·exact h
      ·exfalso
       have h1:=HTC.out
       simp [World.cell?,Array.getElem?_eq_none h] at h1
     have hct:(w1.alloc ro).cell? ⟨tb,toff,none⟩ = some (.int .i64 ((p.length + 1:Nat):Int)):=(cell_eq (HB3.out.block tb htl) _).trans HTC.out
     subst hro
     have c7:=seven HA.out
     rw [hlk] at hct
     go_wp2_with fail
     refine (same_any (.slice oa on oc) (.slice ua k uc) p _ (Sb.hide (HO1.out.below HB3.out)) (Sb.hide (HV1.out.below HB3.out)) (by omega)).mono ?_
     rintro e w2 ⟨rfl,d,hw2⟩
     have HA2:Hid (w2.heap[w1.heap.size]? = some (repO 4 q tr (.slice oa on oc) (.slice sa sn sc) (.slice (some ⟨tb,toff,none⟩) 1 tc) st)):=by unfold Hid; rw [hw2]; exact HA.out
     have hct2:w2.cell? ⟨tb,toff,none⟩ = some (.int .i64 ((k + 1:Nat):Int)):=by rw [hw2]; exact hct
     have HB5:Hid (Below w.heap.size w w2):=by unfold Hid; rw [hw2]; exact below_drewN (HB1.out.trans (HB3.out.mono HB1.out.size)) d
     have hwk:IntKind.i64.wrap ((k:Int) + 1) = (k:Int) + 1:=IntWalk.i64_in _ ⟨by omega,by omega⟩
     have hkk:(((k + 1:Nat):Int) == (k:Int) + 1) = true:=by simp
     clear c7 hct HA HB3 HV1 HO1 hw2 htl HTC
     have c7:=seven HA2.out
     go_wp2
     go_ret
     exact ⟨rfl,HB5.out⟩
    ·have ht:(x == 0) = false:=by simpa using hx0
     have HO1:Hid (wr.ownsRow w.heap.size 2 1 u3 k (ints (l.take k))):=HO.out
     have HNZ2:Hid (∀ v ∈ l.take (k + 1),v ≠ 0):=fun v hv => by
      rw [HX.out,List.mem_append,List.mem_singleton] at hv
      rcases hv with hv | rfl
      ·exact HNZ.out v hv
      ·exact hx0
     obtain ⟨ml,hml⟩:∃ m,m = l.length:=⟨_,rfl⟩
     rw [ha,← hml]
     rw [← hml] at hlt hl hn hk
     have HML:=Sb.hide hml
     have n0:(0:Int) ≤ (k:Int):=by omega
     have n2:(k:Int) < (ml:Int):=by omega
     obtain ⟨os,hos⟩:∃ os,os = ints (l.take k):=⟨_,rfl⟩
     have HRW:Hid ((wr.alloc (.cells #[.int .i64 x] 2)).ownsRow w.heap.size 2 1 u3 k os):=by unfold Hid; rw [hos]; exact HO1.out.alloc _
     have HOS:=Sb.hide hos
     clear hml ha hx n1 hos hx0 HD
     go_wp2_with (at_builtin; refine wpList_append_where rfl (.tmp 54) (.tmp 56) 22 rfl w.heap.size 2 i0 (.int .i64 0) 1 8 Tryz.underlying22 hi hz0 hz1 hz2 rfl (by decide) u3 k os rfl HRW.out ⟨wr.heap.size,0,none⟩ 1 1 [.int .i64 x] rfl rfl (news1 wr _ _) (ones1 rfl) (by decide) (by unfold maxLen; omega) (by omega) (by simp; omega) ?_)
     intro R4 cap4 w4 hown4 hg4 hR4
     have HREL:Hid (UnAt l w (k + 1) (.slice (some ⟨R4,0,none⟩) (k + 1) cap4) w4):=by
      refine ⟨(HB.out.alloc hbz _).grown hg4 (by simp; omega) (fun b hb => (HO.out.lt b hb).1),?_,HNZ2.out⟩
      rw [HX.out,show ints (l.take k ++ [x]) = ints (l.take k) ++ [.int .i64 x] by simp,← HOS.out]
      exact hown4
     clear hown4 hg4 hR4
     go_wp2
     go_roundw
     case rel => exact ⟨k + 1,by have:=HML.out; omega,by go_num,HREL.out⟩
     case measure => simp [intOf]; omega
   ·have n3:¬ (k:Int) < (l.length:Int):=by omega
    have ek:k = l.length:=by omega
    subst ek
    have hO:=HO.out
    rw [List.take_length] at hO HNZ
    have HV:=Sb.hide (own_reads hO)
    have HA:Hid (Below wr.heap.size wr (wr.alloc (.cells #[.slice a l.length c] 22))):=(Below.refl _ wr).alloc (Nat.le_refl _) _
    have HB2:Hid (Below w.heap.size w (wr.alloc (.cells #[.slice a l.length c] 22))):=HB.out.alloc hbz _
    have HF:=Sb.hide (fd_one (c:=c) hw.out (by omega) HB.out)
    have HT2:=Sb.hide (hT.out.below HB2.out)
    have HV2:=Sb.hide (HV.out.below HA.out)
    clear hO HA n3
    go_wp2_with fail
    refine (says_any until_asked [l] (some ⟨wr.heap.size,0,none⟩) 1 (fun _ => a) (fun _ => c) l u3 _ HT2 HF (until_fits l) HV2 (until_says l hl HNZ.out).1 (until_says l hl HNZ.out).2 (by omega)).mono ?_
    rintro e w5 ⟨rfl,hb5⟩
    have HB5:=Sb.hide (HB2.out.trans (hb5.mono HB2.out.size))
    clear hb5
    go_wp2
    go_ret
    exact ⟨rfl,HB5.out⟩
 ·have n1:(100:Int) < (l.length:Int):=by omega
  go_wp2
  go_ret
  exact ⟨rfl,Below.refl _ w⟩
end Go.Proofs.YtnkphifgncidaaaGreatDoor.Vw

/- Two rows that are asked with. -/
import Derived.Test.YtnkphifgncidaabGreatDoorM43
import Derived.Test.YtnkphifgncidaabGreatDoorM44
set_option maxRecDepth 100000
set_option maxHeartbeats 1000000
namespace Go.Proofs.YtnkphifgncidaabGreatDoor.Vw
open Go.RowKit Vf Vm
theorem gat_false (p:List Bool) (l:List Int):gat l (p ++ [false]) = gat l p:=by rw [gat_app]; simp
theorem gat_true {p:List Bool} {l:List Int} {y:Int} (h:l[p.length]? = some y):gat l (p ++ [true]) = gat l p ++ [y]:=by rw [gat_app,if_pos rfl,h]
theorem gat_none {p:List Bool} {l:List Int} (h:l[p.length]? = none):gat l (p ++ [true]) = gat l p:=by rw [gat_app,if_pos rfl,h,List.append_nil]
def InB (w:World) (B:Nat) (a:Option Addr) (l:List Bool):Prop:=∀ (i:Nat) x,l[i]? = some x → ∃ b off,a = some ⟨b,off,none⟩ ∧ b < B ∧ w.cell? ⟨b,off + i,none⟩ = some (.bool x)
theorem InB.below {w w':World} {a:Option Addr} {l:List Bool} (h:InB w w.heap.size a l) (hb:Below w.heap.size w w'):InB w' w.heap.size a l:=fun i x hx => by
 obtain ⟨b,off,e,hlt,hc⟩:=h i x hx
 exact ⟨b,off,e,hlt,(cell_eq (hb.block b hlt) _).trans hc⟩
theorem fd_own {w w':World} {a:Option Addr} {c:Nat} {l m:List Int} {v:Value} (h:In64 w w.heap.size a l) (hl:l.length ≤ 100) (hb:Below w.heap.size w w') (hm:w'.ownsRow w.heap.size 2 1 v m.length (ints m)) (hl2:m.length ≤ 100) :
  ∃ e d,v = .slice e m.length d ∧ FdIn (w'.alloc (.cells #[.slice a l.length c,v] 22)).heap.size (w'.alloc (.cells #[.slice a l.length c,v] 22)) [l,m] (some ⟨w'.heap.size,0,none⟩) (fun i => if i = 0 then a else e) (fun i => if i = 0 then c else d):=by
 have hz:=hb.size
 obtain ⟨e,d,rfl,_,hrd⟩:=own_reads hm
 refine ⟨e,d,rfl,?_⟩
 have hnew:=heap_alloc_new w' (.cells #[.slice a l.length c,.slice e m.length d] 22)
 refine ⟨by simp,fun i f hf => ?_,fun i f hf => ?_⟩
 ·refine ⟨w'.heap.size,0,rfl,by simp,?_⟩
  match i,hf with
  | 0,hf => simp at hf; subst hf; simp only [World.cell?,hnew]; rfl
  | 1,hf => simp at hf; subst hf; simp only [World.cell?,hnew]; rfl
  | i + 2,hf => simp at hf
 ·match i,hf with
  | 0,hf =>
   simp at hf; subst hf
   refine ⟨by omega,fun j v hv => ?_⟩
   obtain ⟨b,off,e,hlt,hc⟩:=(h.below hb) j v hv
   exact ⟨b,off,e,by simp; omega,(cell_eq (Below.heap_alloc _ _ _ (by omega)) _).trans hc⟩
  | 1,hf =>
   simp at hf; subst hf
   refine ⟨by omega,fun j v hv => ?_⟩
   obtain ⟨b,off,e,hc⟩:=hrd j v hv
   subst e
   have hlt:=(hm.lt b rfl).2
   exact ⟨b,off,rfl,by simp; omega,(cell_eq (Below.heap_alloc _ _ _ (by omega)) _).trans hc⟩
  | i + 2,hf => simp at hf
def GaAt (l:List Int) (o:List Bool) (w:World) (k:Nat) (vw vl:Value) (wr:World):Prop:=Below w.heap.size w wr ∧ wr.ownsRow w.heap.size 2 1 vw k (ints (wds (o.take k))) ∧ wr.ownsRow w.heap.size 2 1 vl (gat l (o.take k)).length (ints (gat l (o.take k))) ∧ ∀ b,vw.ownBlock = some b → vl.ownBlock ≠ some b
theorem gate_any (l:List Int) (o:List Bool) (a b:Option Addr) (c d:Nat) (w:World) (hw:Hid (In64 w w.heap.size a l)) (hn:l.length ≤ 9223372036854775807) (hv:Hid (InB w w.heap.size b o)) (hn2:o.length ≤ 9223372036854775807) (hT:Hid (Xe.Tabs w)) :
  Calls Tryz.prog 6 #[.slice a l.length c,.slice b o.length d] w fun e w' => e = .returned (.bool true) ∧ Below w.heap.size w w':=by
 obtain ⟨i0,hi,hz0,hz1,hz2⟩:=info_parts info64
 go_enter Tryz.func6,Tryz.ntmps6
 by_cases hl:l.length ≤ 100
 ·have n1:¬ (100:Int) < (l.length:Int):=by omega
  by_cases hl2:o.length ≤ 100
  ·have m1:¬ (100:Int) < (o.length:Int):=by omega
   go_wp2
   go_loopw [5,6,20] (fun vw vl vk wr => ∃ k:Nat,k ≤ o.length ∧ vk = .int .i64 k ∧ GaAt l o w k vw vl wr) (fun _ _ v _ => o.length - (intOf v).toNat)
   case atStart => exact ⟨0,Nat.zero_le _,rfl,Below.refl _ w,⟨rfl,.inl ⟨rfl,rfl⟩⟩,by rw [List.take_zero,gat_nil]; exact ⟨rfl,.inl ⟨rfl,rfl⟩⟩,fun b h => by cases h⟩
   case round =>
    obtain ⟨k,hk,rfl,hb,hown,hown2,hdis⟩:=hrel
    have HB:=Sb.hide hb
    have HO:=Sb.hide hown
    have HO2:=Sb.hide hown2
    have HDIS:=Sb.hide hdis
    have hbz:=hb.size
    clear hb hown hown2 hdis
    by_cases hlt:k < o.length
    ·obtain ⟨x,hx⟩:∃ x,o[k]? = some x:=⟨_,List.getElem?_eq_getElem hlt⟩
     obtain ⟨b1,off1,ha,hb1,hc⟩:=(hv.out.below HB.out) k x hx
     have HX:Hid (o.take (k + 1) = o.take k ++ [x]):=by unfold Hid; rw [List.take_add_one,hx]; rfl
     have hok:(o.take k).length = k:=by rw [List.length_take]; omega
     have HOK:=Sb.hide hok
     have hgl:=gat_len l (o.take k)
     rw [hok] at hgl
     obtain ⟨mb,hmb⟩:∃ m,m = o.length:=⟨_,rfl⟩
     rw [ha,← hmb]
     rw [← hmb] at hlt hl2 hn2 hk
     have HMB:=Sb.hide hmb
     have n0:(0:Int) ≤ (k:Int):=by omega
     have n2:(k:Int) < (mb:Int):=by omega
     obtain ⟨ws,hws⟩:∃ ws,ws = ints (wds (o.take k)):=⟨_,rfl⟩
     obtain ⟨os,hos⟩:∃ os,os = gat l (o.take k):=⟨_,rfl⟩
     rw [← hos] at hgl
     have HOW:Hid (wr.ownsRow w.heap.size 2 1 u5 k ws):=by unfold Hid; rw [hws]; exact HO.out
     obtain ⟨on,hon⟩:∃ on,on = os.length:=⟨_,rfl⟩
     obtain ⟨oi,hoi⟩:∃ oi,oi = ints os:=⟨_,rfl⟩
     have HOO:Hid (wr.ownsRow w.heap.size 2 1 u6 on oi):=by unfold Hid; rw [hon,hoi,hos]; exact HO2.out
     have HWS:=Sb.hide hws
     have HOS:=Sb.hide (And.intro hos (And.intro hon hoi))
     rw [← hon] at hgl
     clear hmb ha hx hws hos hon hoi HO HO2 n1 m1 hok
     cases x with
     | false =>
      have HRW:Hid ((wr.alloc (.cells #[.int .i64 0] 2)).ownsRow w.heap.size 2 1 u5 k ws):=HOW.out.alloc _
      go_wp2_with (at_builtin; refine wpList_append_where rfl (.tmp 26) (.tmp 28) 22 rfl w.heap.size 2 i0 (.int .i64 0) 1 8 Tryz.underlying22 hi hz0 hz1 hz2 rfl (by decide) u5 k ws rfl HRW.out ⟨wr.heap.size,0,none⟩ 1 1 [.int .i64 0] rfl rfl (news1 wr _ _) (ones1 rfl) (by decide) (by unfold maxLen; omega) (by omega) (by simp; omega) ?_)
      intro R4 cap4 w4 hown4 hg4 hR4
      have HB4:Hid (Below w.heap.size w w4):=(HB.out.alloc hbz _).grown hg4 (by simp; omega) (fun b hb => (HOW.out.lt b hb).1)
      have HW4:Hid (w4.ownsRow w.heap.size 2 1 (.slice (some ⟨R4,0,none⟩) (k + 1) cap4) (k + 1) (ints (wds (o.take (k + 1))))):=by
       unfold Hid
       rw [HX.out,show ints (wds (o.take k ++ [false])) = ints (wds (o.take k)) ++ [.int .i64 0] by simp [wds],← HWS.out]
       exact hown4
      have hkeep:∀ q,u6.ownBlock = some q → q < wr.heap.size ∧ w4.heap[q]? = wr.heap[q]?:=fun q hq => by
       have hlt:=(HOO.out.lt q hq).2
       refine ⟨hlt,(hg4.block q (by simp; omega) (fun e => HDIS.out q e.symm hq)).trans (Below.heap_alloc _ _ _ hlt)⟩
      have HO4:Hid (w4.ownsRow w.heap.size 2 1 u6 on oi):=own_keep HOO.out (fun q hq => (hkeep q hq).2)
      have HD4:Hid (∀ q,(Value.slice (some ⟨R4,0,none⟩) (k + 1) cap4).ownBlock = some q → u6.ownBlock ≠ some q):=by
       intro q hq h6
       have e:R4 = q:=by simpa [Value.ownBlock] using hq
       subst e
       rcases hR4 with h | h
       ·exact HDIS.out _ h h6
       ·have:=(hkeep _ h6).1
        first | omega | (simp at h; omega)
      clear hown4 hg4 hR4 hkeep HRW
      have HREL:Hid (GaAt l o w (k + 1) (.slice (some ⟨R4,0,none⟩) (k + 1) cap4) u6 w4):=by
       refine ⟨HB4.out,HW4.out,?_,HD4.out⟩
       rw [HX.out,gat_false,← HOS.out.1,← HOS.out.2.1,← HOS.out.2.2]
       exact HO4.out
      clear HB4 HW4 HO4 HD4
      go_wp2
      go_roundw
      case rel => exact ⟨k + 1,by have:=HMB.out; omega,by go_num,HREL.out⟩
      case measure => have:=HMB.out; simp [intOf]; omega
     | true =>
      by_cases hkl:k < l.length
      ·obtain ⟨y,hy⟩:∃ y,l[k]? = some y:=⟨_,List.getElem?_eq_getElem hkl⟩
       have HLY:=Sb.hide hy
       obtain ⟨b2,off2,ha2,hb2,_⟩:=hw.out k y hy
       have HA2:=Sb.hide ha2
       have HWB:=hw
       rw [ha2]
       have n4:(k:Int) < (l.length:Int):=by omega
       clear hy
       have HRW:Hid ((wr.alloc (.cells #[.int .i64 1] 2)).ownsRow w.heap.size 2 1 u5 k ws):=HOW.out.alloc _
       go_wp2_with (at_builtin; refine wpList_append_where rfl (.tmp 26) (.tmp 28) 22 rfl w.heap.size 2 i0 (.int .i64 0) 1 8 Tryz.underlying22 hi hz0 hz1 hz2 rfl (by decide) u5 k ws rfl HRW.out ⟨wr.heap.size,0,none⟩ 1 1 [.int .i64 1] rfl rfl (news1 wr _ _) (ones1 rfl) (by decide) (by unfold maxLen; omega) (by omega) (by simp; omega) ?_)
       intro R4 cap4 w4 hown4 hg4 hR4
       have HB4:Hid (Below w.heap.size w w4):=(HB.out.alloc hbz _).grown hg4 (by simp; omega) (fun b hb => (HOW.out.lt b hb).1)
       have HW4:Hid (w4.ownsRow w.heap.size 2 1 (.slice (some ⟨R4,0,none⟩) (k + 1) cap4) (k + 1) (ints (wds (o.take (k + 1))))):=by
        unfold Hid
        rw [HX.out,show ints (wds (o.take k ++ [true])) = ints (wds (o.take k)) ++ [.int .i64 1] by simp [wds],← HWS.out]
        exact hown4
       have hkeep:∀ q,u6.ownBlock = some q → q < wr.heap.size ∧ w4.heap[q]? = wr.heap[q]?:=fun q hq => by
        have hlt:=(HOO.out.lt q hq).2
        refine ⟨hlt,(hg4.block q (by simp; omega) (fun e => HDIS.out q e.symm hq)).trans (Below.heap_alloc _ _ _ hlt)⟩
       have HO4:Hid (w4.ownsRow w.heap.size 2 1 u6 on oi):=own_keep HOO.out (fun q hq => (hkeep q hq).2)
       have HD4:Hid (∀ q,(Value.slice (some ⟨R4,0,none⟩) (k + 1) cap4).ownBlock = some q → u6.ownBlock ≠ some q):=by
        intro q hq h6
        have e:R4 = q:=by simpa [Value.ownBlock] using hq
        subst e
        rcases hR4 with h | h
        ·exact HDIS.out _ h h6
        ·have:=(hkeep _ h6).1
         first | omega | (simp at h; omega)
       clear hown4 hg4 hR4 hkeep HRW
       have hc2:w4.cell? ⟨b2,off2 + k,none⟩ = some (.int .i64 y):=by
        obtain ⟨b3,off3,ha3,_,hc3⟩:=(HWB.out.below HB4.out) k y HLY.out
        rw [HA2.out] at ha3
        cases ha3
        exact hc3
       have hz4:=HB4.out.size
       have HRW2:Hid ((w4.alloc (.cells #[.int .i64 y] 2)).ownsRow w.heap.size 2 1 u6 on oi):=HO4.out.alloc _
       clear ha2
       go_wp2_with (at_builtin; refine wpList_append_where rfl (.tmp 37) (.tmp 42) 22 rfl w.heap.size 2 i0 (.int .i64 0) 1 8 Tryz.underlying22 hi hz0 hz1 hz2 rfl (by decide) u6 on oi rfl HRW2.out ⟨w4.heap.size,0,none⟩ 1 1 [.int .i64 y] rfl rfl (news1 w4 _ _) (ones1 rfl) (by decide) (by unfold maxLen; omega) (by omega) (by simp; omega) ?_)
       intro R5 cap5 w5 hown5 hg5 hR5
       have HREL:Hid (GaAt l o w (k + 1) (.slice (some ⟨R4,0,none⟩) (k + 1) cap4) (.slice (some ⟨R5,0,none⟩) (on + 1) cap5) w5):=by
        have hw4:R4 < w4.heap.size:=(HW4.out.lt R4 rfl).2
        refine ⟨(HB4.out.alloc hz4 _).grown hg5 (by simp; omega) (fun b hb => (HO4.out.lt b hb).1),?_,?_,?_⟩
        ·refine own_keep HW4.out (fun q hq => ?_)
         have e:R4 = q:=by simpa [Value.ownBlock] using hq
         subst e
         exact (hg5.block R4 (by simp; omega) (fun e => HD4.out R4 rfl e.symm)).trans (Below.heap_alloc _ _ _ hw4)
        ·rw [HX.out,gat_true (by rw [HOK.out]; exact HLY.out),List.length_append,← HOS.out.1,← HOS.out.2.1,show ints (os ++ [y]) = ints os ++ [.int .i64 y] by simp,← HOS.out.2.2]
         exact hown5
        ·intro q hq h5
         have e:R4 = q:=by simpa [Value.ownBlock] using hq
         have e2:R5 = q:=by simpa [Value.ownBlock] using h5
         subst e
         subst e2
         rcases hR5 with h | h
         ·exact HD4.out _ rfl h
         ·first | omega | (simp at h; omega)
       clear HB4 HW4 HO4 HD4 hown5 hg5 hR5
       go_wp2
       go_roundw
       case rel => exact ⟨k + 1,by have:=HMB.out; omega,by go_num,HREL.out⟩
       case measure => have:=HMB.out; simp [intOf]; omega
      ·have hy:l[k]? = none:=List.getElem?_eq_none (by omega)
       have HLY:=Sb.hide hy
       have n4:¬ (k:Int) < (l.length:Int):=by omega
       clear hy
       have HRW:Hid ((wr.alloc (.cells #[.int .i64 1] 2)).ownsRow w.heap.size 2 1 u5 k ws):=HOW.out.alloc _
       go_wp2_with (at_builtin; refine wpList_append_where rfl (.tmp 26) (.tmp 28) 22 rfl w.heap.size 2 i0 (.int .i64 0) 1 8 Tryz.underlying22 hi hz0 hz1 hz2 rfl (by decide) u5 k ws rfl HRW.out ⟨wr.heap.size,0,none⟩ 1 1 [.int .i64 1] rfl rfl (news1 wr _ _) (ones1 rfl) (by decide) (by unfold maxLen; omega) (by omega) (by simp; omega) ?_)
       intro R4 cap4 w4 hown4 hg4 hR4
       have HB4:Hid (Below w.heap.size w w4):=(HB.out.alloc hbz _).grown hg4 (by simp; omega) (fun b hb => (HOW.out.lt b hb).1)
       have HW4:Hid (w4.ownsRow w.heap.size 2 1 (.slice (some ⟨R4,0,none⟩) (k + 1) cap4) (k + 1) (ints (wds (o.take (k + 1))))):=by
        unfold Hid
        rw [HX.out,show ints (wds (o.take k ++ [true])) = ints (wds (o.take k)) ++ [.int .i64 1] by simp [wds],← HWS.out]
        exact hown4
       have hkeep:∀ q,u6.ownBlock = some q → q < wr.heap.size ∧ w4.heap[q]? = wr.heap[q]?:=fun q hq => by
        have hlt:=(HOO.out.lt q hq).2
        refine ⟨hlt,(hg4.block q (by simp; omega) (fun e => HDIS.out q e.symm hq)).trans (Below.heap_alloc _ _ _ hlt)⟩
       have HO4:Hid (w4.ownsRow w.heap.size 2 1 u6 on oi):=own_keep HOO.out (fun q hq => (hkeep q hq).2)
       have HD4:Hid (∀ q,(Value.slice (some ⟨R4,0,none⟩) (k + 1) cap4).ownBlock = some q → u6.ownBlock ≠ some q):=by
        intro q hq h6
        have e:R4 = q:=by simpa [Value.ownBlock] using hq
        subst e
        rcases hR4 with h | h
        ·exact HDIS.out _ h h6
        ·have:=(hkeep _ h6).1
         first | omega | (simp at h; omega)
       clear hown4 hg4 hR4 hkeep HRW
       have HREL:Hid (GaAt l o w (k + 1) (.slice (some ⟨R4,0,none⟩) (k + 1) cap4) u6 w4):=by
        refine ⟨HB4.out,HW4.out,?_,HD4.out⟩
        rw [HX.out,gat_none (by rw [HOK.out]; exact HLY.out),← HOS.out.1,← HOS.out.2.1,← HOS.out.2.2]
        exact HO4.out
       clear HB4 HW4 HO4 HD4
       go_wp2
       go_roundw
       case rel => exact ⟨k + 1,by have:=HMB.out; omega,by go_num,HREL.out⟩
       case measure => have:=HMB.out; simp [intOf]; omega
    ·have n3:¬ (k:Int) < (o.length:Int):=by omega
     have ek:k = o.length:=by omega
     subst ek
     have hO:=HO.out
     have hO2:=HO2.out
     rw [List.take_length] at hO hO2
     have hwl:(wds o).length = o.length:=by simp
     have hO':wr.ownsRow w.heap.size 2 1 u5 (wds o).length (ints (wds o)):=by rw [hwl]; exact hO
     obtain ⟨e,d2,rfl,hfd⟩:=fd_own (c:=c) hw.out hl HB.out hO' (by rw [hwl]; exact hl2)
     rw [hwl] at hfd ⊢
     have HF:=Sb.hide hfd
     have HV:=Sb.hide (own_reads hO2)
     have HA:Hid (Below wr.heap.size wr (wr.alloc (.cells #[.slice a l.length c,.slice e o.length d2] 22))):=(Below.refl _ wr).alloc (Nat.le_refl _) _
     have HB2:Hid (Below w.heap.size w (wr.alloc (.cells #[.slice a l.length c,.slice e o.length d2] 22))):=HB.out.alloc hbz _
     have HT2:=Sb.hide (hT.out.below HB2.out)
     have HV2:=Sb.hide (HV.out.below HA.out)
     have hgl:=gat_len l o
     clear hO hO2 hO' HA hfd HO HO2 HDIS n1 m1 hwl
     go_wp2_with fail
     refine (says_any gate_asked [l,wds o] (some ⟨wr.heap.size,0,none⟩) 2 _ _ (gat l o) u6 _ HT2 HF (gate_fits l o) HV2 (gate_says l o hl).1 (gate_says l o hl).2 (by omega)).mono ?_
     rintro e w5 ⟨rfl,hb5⟩
     have HB5:=Sb.hide (HB2.out.trans (hb5.mono HB2.out.size))
     clear hb5
     go_wp2
     go_ret
     exact ⟨rfl,HB5.out⟩
  ·have m1:(100:Int) < (o.length:Int):=by omega
   go_wp2
   go_ret
   exact ⟨rfl,Below.refl _ w⟩
 ·have n1:(100:Int) < (l.length:Int):=by omega
  go_wp2
  go_ret
  exact ⟨rfl,Below.refl _ w⟩
end Go.Proofs.YtnkphifgncidaabGreatDoor.Vw

/- The walk of ShelfTurns. -/
import Derived.Test.YthffafaoobpedaaGreatDoorM46
set_option maxRecDepth 100000
set_option maxHeartbeats 1000000
namespace Go.Proofs.YthffafaoobpedaaGreatDoor.Vw
open Go.RowKit Vf Vm
def I5 (l:List Int)(w:World)(k:Nat)(vl:Value)(wr:World):Prop:=Below w.heap.size w wr∧wr.ownsRow w.heap.size 2 1 vl k (ints (tn l k))
theorem ac5 (k:Nat):((k:Int) % 2 == 0)=(k % 2 == 0)∧((k:Int).tmod 2 == 0)=(k % 2 == 0):=by
 have key:((k:Int) % 2 == 0)=(k % 2 == 0):=by
  have e:(k:Int) % 2=((k % 2:Nat):Int):=by omega
  rw [e]
  generalize k % 2=m
  cases m with
  | zero=>rfl
  | succ m=>rfl
 exact ⟨key,by rw [Int.tmod_eq_emod_of_nonneg (by omega)];exact key⟩
theorem ac6 (l:List Int)(a:Option Addr)(c:Nat)(w:World)(hw:Hid (In64 w w.heap.size a l))(hn:l.length≤9223372036854775807)(hT:Hid (Xe.oN w)) :
  Calls Tryz.prog 8 #[.slice a l.length c] w fun e w'=>e=.returned (.bool true)∧Below w.heap.size w w':=by
 obtain ⟨i0,hi,hz0,hz1,hz2⟩:=info_parts acv
 go_enter Tryz.func8,Tryz.ntmps8
 by_cases hl:l.length≤60
 ·have n1:¬ (60:Int) < (l.length:Int):=by omega
  go_wp2
  go_loopw [3,11] (fun vl v wr=>∃ k:Nat,k≤l.length∧v=.int .i64 k∧I5 l w k vl wr) (fun _ v _=>l.length - (intOf v).toNat)
  case atStart=>exact ⟨0,Nat.zero_le _,rfl,Below.refl _ w,⟨rfl,.inl ⟨rfl,rfl⟩⟩⟩
  case round =>
   obtain ⟨k,hk,rfl,hb,hown⟩:=hrel
   have HB:=Sb.hide hb
   have HO:=Sb.hide hown
   have hbz:=hb.size
   clear hb hown
   by_cases hlt:k < l.length
   ·obtain ⟨x,hx⟩:∃ x,l[k]?=some x:=⟨_,List.getElem?_eq_getElem hlt⟩
    obtain ⟨b,off,ha,hbw,hc⟩:=(hw.out.below HB.out) k x hx
    have HT1:Hid (tn l (k+1)=tn l k ++ [Ah k x]):=QY hx
    obtain ⟨ml,dm⟩:∃ m,m=l.length:=⟨_,rfl⟩
    rw [ha,← dm]
    rw [← dm] at hlt hl hn hk
    have lg:=Sb.hide dm
    have n0:(0:Int)≤(k:Int):=by omega
    have n2:(k:Int) < (ml:Int):=by omega
    obtain ⟨os,hos⟩:∃ os,os=ints (tn l k):=⟨_,rfl⟩
    have qd:Hid (wr.ownsRow w.heap.size 2 1 u3 k os):=by unfold Hid;rw [hos];exact HO.out
    have Q3:=Sb.hide hos
    obtain ⟨t1,t2⟩:=ac5 k
    unfold Ah at HT1
    clear dm ha hx n1 hos HO
    cases hev:(k % 2 == 0) with
    | true =>
     rw [hev,if_pos rfl] at HT1
     rw [hev] at t1 t2
     obtain ⟨q,hq⟩:∃ q,q=wrap64 (x+1):=⟨_,rfl⟩
     have HQ:Hid (tn l (k+1)=tn l k ++ [q]):=by rw [hq];exact HT1
     have hq2:wrap64 (x+1)=q:=hq.symm
     clear hev HT1 hq
     have HRW:Hid ((wr.alloc (.cells #[.int .i64 q] 2)).ownsRow w.heap.size 2 1 u3 k os):=qd.out.alloc _
     go_wp2_with (at_builtin;refine rW rfl (.tmp 19) (.tmp 22) 22 rfl w.heap.size 2 i0 (.int .i64 0) 1 8 Tryz.underlying22 hi hz0 hz1 hz2 rfl (by decide) u3 k os rfl HRW.out ⟨wr.heap.size,0,none⟩ 1 1 [.int .i64 q] rfl rfl (jK wr _ _) (jL rfl) (by decide) (by unfold maxLen;omega) (by omega) (by simp;omega) ?_)
     intro R4 cap4 w4 bF hg4 bG
     have dU:Hid (I5 l w (k+1) (.slice (some ⟨R4,0,none⟩) (k+1) cap4) w4):=by
      refine ⟨(HB.out.alloc hbz _).grown hg4 (by simp;omega) (fun b hb=>(qd.out.lt b hb).1),?_⟩
      rw [HQ.out,show ints (tn l k ++ [q])=ints (tn l k) ++ [.int .i64 q] by simp,← Q3.out]
      exact bF
     clear bF hg4 bG
     go_wp2
     go_roundw
     case rel=>exact ⟨k+1,by have:=lg.out;omega,by go_num,dU.out⟩
     case measure=>simp [intOf];omega
    | false =>
     rw [hev,if_neg (by simp)] at HT1
     rw [hev] at t1 t2
     obtain ⟨q,hq⟩:∃ q,q=wrap64 (x - 1):=⟨_,rfl⟩
     have HQ:Hid (tn l (k+1)=tn l k ++ [q]):=by rw [hq];exact HT1
     have hq2:wrap64 (x - 1)=q:=hq.symm
     clear hev HT1 hq
     have HRW:Hid ((wr.alloc (.cells #[.int .i64 q] 2)).ownsRow w.heap.size 2 1 u3 k os):=qd.out.alloc _
     go_wp2_with (at_builtin;refine rW rfl (.tmp 24) (.tmp 27) 22 rfl w.heap.size 2 i0 (.int .i64 0) 1 8 Tryz.underlying22 hi hz0 hz1 hz2 rfl (by decide) u3 k os rfl HRW.out ⟨wr.heap.size,0,none⟩ 1 1 [.int .i64 q] rfl rfl (jK wr _ _) (jL rfl) (by decide) (by unfold maxLen;omega) (by omega) (by simp;omega) ?_)
     intro R4 cap4 w4 bF hg4 bG
     have dU:Hid (I5 l w (k+1) (.slice (some ⟨R4,0,none⟩) (k+1) cap4) w4):=by
      refine ⟨(HB.out.alloc hbz _).grown hg4 (by simp;omega) (fun b hb=>(qd.out.lt b hb).1),?_⟩
      rw [HQ.out,show ints (tn l k ++ [q])=ints (tn l k) ++ [.int .i64 q] by simp,← Q3.out]
      exact bF
     clear bF hg4 bG
     go_wp2
     go_roundw
     case rel=>exact ⟨k+1,by have:=lg.out;omega,by go_num,dU.out⟩
     case measure=>simp [intOf];omega
   ·have n3:¬ (k:Int) < (l.length:Int):=by omega
    have ek:k=l.length:=by omega
    subst ek
    have hO:wr.ownsRow w.heap.size 2 1 u3 (tn l l.length).length (ints (tn l l.length)):=by rw [QZ];exact HO.out
    have HV:=Sb.hide (yZ hO)
    have HA:Hid (Below wr.heap.size wr (wr.alloc (.cells #[.slice a l.length c] 22))):=(Below.refl _ wr).alloc (Nat.le_refl _) _
    have HB2:Hid (Below w.heap.size w (wr.alloc (.cells #[.slice a l.length c] 22))):=HB.out.alloc hbz _
    have HF:=Sb.hide (acu (c:=c) hw.out (by omega) HB.out)
    have HT2:=Sb.hide (hT.out.below HB2.out)
    have HV2:=Sb.hide (HV.out.below HA.out)
    clear hO HA n3
    go_wp2_with fail
    refine (ab6 ac3 [l] (some ⟨wr.heap.size,0,none⟩) 1 (fun _=>a) (fun _=>c) (tn l l.length) u3 _ HT2 HF (ac2 l) HV2 (Q0 l hl).1 (Q0 l hl).2 (by rw [QZ];omega)).mono ?_
    rintro e w5 ⟨rfl,hb5⟩
    have yC:=Sb.hide (HB2.out.trans (hb5.mono HB2.out.size))
    clear hb5
    go_wp2
    go_ret
    exact ⟨rfl,yC.out⟩
 ·have n1:(60:Int) < (l.length:Int):=by omega
  go_wp2
  go_ret
  exact ⟨rfl,Below.refl _ w⟩
end Go.Proofs.YthffafaoobpedaaGreatDoor.Vw

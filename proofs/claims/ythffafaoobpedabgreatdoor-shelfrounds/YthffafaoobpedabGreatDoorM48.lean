/- What small answers. -/
import Derived.Test.YthffafaoobpedabGreatDoorM43
import Derived.Test.YthffafaoobpedabGreatDoorM47
set_option maxRecDepth 100000
set_option maxHeartbeats 1000000
namespace Go.Proofs.YthffafaoobpedabGreatDoor.Vw
open Go.RowKit Vf Vm
def smallB (M:Int)(l:List Int):Bool:=decide (l.length≤12) && l.all (fun v=>decide (-M≤v) && decide (v≤M))
theorem smallB_len {M:Int}{l:List Int}(h:smallB M l=true):l.length≤12:=by
 unfold smallB at h
 rw [Bool.and_eq_true] at h
 exact of_decide_eq_true h.1
theorem smallB_all {M:Int}{l:List Int}(h:smallB M l=true):∀ v ∈ l,-M≤v∧v≤M:=by
 unfold smallB at h
 rw [Bool.and_eq_true] at h
 intro v hv
 have:=List.all_eq_true.1 h.2 v hv
 rw [Bool.and_eq_true] at this
 exact ⟨of_decide_eq_true this.1,of_decide_eq_true this.2⟩
theorem smallB_yes {M:Int}{l:List Int}(hl:l.length≤12)(h:∀ v ∈ l,-M≤v∧v≤M):true=smallB M l:=by
 unfold smallB
 rw [decide_eq_true hl,Bool.true_and]
 exact (List.all_eq_true.2 fun v hv=>by rw [decide_eq_true (h v hv).1,decide_eq_true (h v hv).2];rfl).symm
theorem smallB_no {M:Int}{l:List Int}(h:12 < l.length∨∃ v ∈ l,v < -M∨M < v):false=smallB M l:=by
 cases hb:smallB M l with
 | false=>rfl
 | true =>
  exfalso
  have h1:=smallB_len hb
  rcases h with h | ⟨v,hv,h⟩
  ·omega
  ·have:=smallB_all hb v hv
   omega
theorem small_any (l:List Int)(a:Option Addr)(c:Nat)(w:World)(M:Int)(hM:0≤M∧M≤1000000000)(hw:Hid (In64 w w.heap.size a l))(hn:l.length≤9223372036854775807) :
  Calls Tryz.prog 5 #[.slice a l.length c,.int .i64 M] w fun e w'=>e=.returned (.bool (smallB M l))∧∃ d,w'=w.drewN d:=by
 have hneg:IntKind.i64.wrap (-M)=-M:=IntWalk.i64_in _ ⟨by omega,by omega⟩
 go_enter Tryz.func5,Tryz.ntmps5
 by_cases hl:l.length≤12
 ·have n1:¬ (12:Int) < (l.length:Int):=by omega
  go_wp2
  go_loopw [12] (fun i wr=>∃ k d:Nat,k≤l.length∧i=.int .i64 k∧wr=w.drewN d∧∀ v ∈ l.take k,-M≤v∧v≤M) (fun i _=>l.length - (intOf i).toNat)
  case atStart=>exact ⟨0,0,Nat.zero_le _,rfl,rfl,fun v hv=>by cases hv⟩
  case round =>
   obtain ⟨k,d,hk,rfl,rfl,hall⟩:=hrel
   have HALL:=Sb.hide hall
   clear hall
   by_cases hlt:k < l.length
   ·obtain ⟨x,hx⟩:∃ x,l[k]?=some x:=⟨_,List.getElem?_eq_getElem hlt⟩
    obtain ⟨b,off,ha,hbw,hc⟩:=hw.out k x hx
    have HX:Hid (l.take (k+1)=l.take k ++ [x]):=by unfold Hid;rw [List.take_add_one,hx];rfl
    have HMEM:Hid (x ∈ l):=List.mem_of_getElem? hx
    obtain ⟨ml,hml⟩:∃ m,m=l.length:=⟨_,rfl⟩
    rw [ha,← hml]
    rw [← hml] at hlt hl hn hk
    have HML:=Sb.hide hml
    have n0:(0:Int)≤(k:Int):=by omega
    have n2:(k:Int) < (ml:Int):=by omega
    have hc1:(w.drewN d).cell? ⟨b,off+k,none⟩=some (.int .i64 x):=hc
    clear hml ha hx n1 hc
    by_cases h1:x < -M
    ·have HNO:Hid (false=smallB M l):=smallB_no (.inr ⟨x,HMEM.out,.inl h1⟩)
     go_wp2
     (try go_quiet (fail))
     (try go_wp2)
     go_ret
     exact ⟨by rw [← HNO.out];rfl,_,rfl⟩
    ·by_cases h2:M < x
     ·have HNO:Hid (false=smallB M l):=smallB_no (.inr ⟨x,HMEM.out,.inr h2⟩)
      go_wp2
      (try go_quiet (fail))
      (try go_wp2)
      go_ret
      exact ⟨by rw [← HNO.out];rfl,_,rfl⟩
     ·have HREL:Hid (∀ v ∈ l.take (k+1),-M≤v∧v≤M):=fun v hv=>by
       rw [HX.out,List.mem_append,List.mem_singleton] at hv
       rcases hv with hv | rfl
       ·exact HALL.out v hv
       ·exact ⟨by omega,by omega⟩
      go_wp2
      (try go_quiet (fail))
      (try go_wp2)
      go_roundw
      case rel=>exact ⟨k+1,_,by have:=HML.out;omega,by go_num,rfl,HREL.out⟩
      case measure=>simp [intOf];omega
   ·have ek:k=l.length:=by omega
    subst ek
    have n3:¬ (l.length:Int) < (l.length:Int):=by omega
    have HYES:Hid (true=smallB M l):=by
     refine smallB_yes hl fun v hv=>HALL.out v ?_
     rw [List.take_length];exact hv
    go_wp2
    go_ret
    exact ⟨by rw [← HYES.out];rfl,_,rfl⟩
 ·have n1:(12:Int) < (l.length:Int):=by omega
  have HNO:Hid (false=smallB M l):=smallB_no (.inl (by omega))
  go_wp2
  go_ret
  exact ⟨by rw [← HNO.out];rfl,0,rfl⟩
def MdAt (f:Int→Int)(l:List Int)(w:World)(k:Nat)(vl:Value)(wr:World):Prop:=Below w.heap.size w wr∧wr.ownsRow w.heap.size 2 1 vl k (ints ((l.take k).map f))
def RdAt (x:Int)(kk:Nat)(p:Int):Prop:=p=rs kk∧(kk=0∨(kk:Int)≤x)
theorem RdAt.next {x p:Int}{kk:Nat}(h:RdAt x kk p)(hx:(kk:Int)+0 < x):RdAt x (kk+1) (wrap64 (p+((kk+0:Nat):Int))):=by
 refine ⟨?_,.inr (by omega)⟩
 rw [h.1]
 rfl
theorem RdAt.fin {x p:Int}{kk:Nat}(h:RdAt x kk p)(hx:¬ (kk:Int)+0 < x):p=roundsOf x:=by
 unfold roundsOf
 rw [h.1]
 rcases h.2 with h2 | h2
 ·subst h2
  rw [show x.toNat=0 by omega]
 ·rw [show x.toNat=kk by omega]
theorem rounds_any (l:List Int)(a:Option Addr)(c:Nat)(w:World)(hw:Hid (In64 w w.heap.size a l))(hn:l.length≤9223372036854775807)(hT:Hid (Xe.Tabs w)) :
  Calls Tryz.prog 4 #[.slice a l.length c] w fun e w'=>e=.returned (.bool true)∧Below w.heap.size w w':=by
 obtain ⟨i0,hi,hz0,hz1,hz2⟩:=info_parts info64
 go_enter Tryz.func4,Tryz.ntmps4
 go_wp2_with fail
 refine (small_any l a c w 12 ⟨by decide,by decide⟩ hw hn).mono ?_
 rintro e w0 ⟨rfl,d0,hw0⟩
 have HB0:Hid (Below w.heap.size w w0):=by unfold Hid;rw [hw0];exact below_drewN (Below.refl _ w) d0
 clear hw0
 cases hsm:smallB 12 l with
 | true =>
  have hl:=smallB_len hsm
  have HSM:Hid (∀ v ∈ l,v≤12):=fun v hv=>(smallB_all hsm v hv).2
  clear hsm
  go_wp2
  go_loopw [3,13] (fun vl v wr=>∃ k:Nat,k≤l.length∧v=.int .i64 k∧MdAt roundsOf l w k vl wr) (fun _ v _=>l.length - (intOf v).toNat)
  case atStart=>exact ⟨0,Nat.zero_le _,rfl,HB0.out,⟨rfl,.inl ⟨rfl,rfl⟩⟩⟩
  case round =>
   obtain ⟨k,hk,rfl,hb,hown⟩:=hrel
   have HB:=Sb.hide hb
   have HO:=Sb.hide hown
   have hbz:=hb.size
   clear hb hown
   by_cases hlt:k < l.length
   ·obtain ⟨x,hx⟩:∃ x,l[k]?=some x:=⟨_,List.getElem?_eq_getElem hlt⟩
    obtain ⟨b,off,ha,hbw,hc⟩:=(hw.out.below HB.out) k x hx
    have HX:Hid (l.take (k+1)=l.take k ++ [x]):=by unfold Hid;rw [List.take_add_one,hx];rfl
    have hxb:=HSM.out x (List.mem_of_getElem? hx)
    obtain ⟨ml,hml⟩:∃ m,m=l.length:=⟨_,rfl⟩
    rw [ha,← hml]
    rw [← hml] at hlt hl hn hk
    have HML:=Sb.hide hml
    have n0:(0:Int)≤(k:Int):=by omega
    have n2:(k:Int) < (ml:Int):=by omega
    obtain ⟨os,hos⟩:∃ os,os=ints ((l.take k).map roundsOf):=⟨_,rfl⟩
    have HO1:Hid (wr.ownsRow w.heap.size 2 1 u3 k os):=by unfold Hid;rw [hos];exact HO.out
    have HOS:=Sb.hide hos
    have HXB:=Sb.hide hxb
    have HDI:Hid (RdAt x 0 0):=⟨rfl,.inl rfl⟩
    clear hml ha hx hos HO
    go_wp2
    obtain ⟨W1,hW1⟩:∃ W1,W1=wr:=⟨_,rfl⟩
    rw [← hW1] at HB HO1 hbz hc ⊢
    clear hW1
    go_loopw [6,7] (fun vn vk wr=>∃ (kk D:Nat) (p:Int),D≤100∧D=kk+0∧vn=.int .i64 p∧vk=.int .i64 D∧RdAt x kk p∧Below w.heap.size w wr∧wr.ownsRow w.heap.size 2 1 u3 k os) (fun _ v _=>100 - (intOf v).toNat)
    case atStart=>exact ⟨0,0,0,by decide,rfl,rfl,rfl,HDI.out,HB.out,HO1.out⟩
    case round =>
     obtain ⟨kk,D,p,hD1,hD,rfl,rfl,hdi,hb2,ho2⟩:=hrel
     have HB2:=Sb.hide hb2
     have HO2:=Sb.hide ho2
     have HDI2:=Sb.hide hdi
     have hbz2:=hb2.size
     have HD:=Sb.hide hD
     clear hdi hb2 ho2 HDI
     by_cases hlast:(D:Int) < x
     ·have HNX:=Sb.hide (HDI2.out.next (by omega))
      rw [show ((kk+0:Nat):Int)=(D:Int) by omega] at HNX
      clear hD
      go_wp2
      go_roundw
      case rel=>exact ⟨kk+1,D+1,_,by have:=HXB.out;omega,by have:=HD.out;omega,rfl,by go_num,HNX.out,HB2.out,HO2.out⟩
      case measure=>simp [intOf];omega
     ·have hsx:=HDI2.out.fin (by omega)
      rw [hsx]
      clear hsx HDI2 hD
      have HRW:Hid ((wr.alloc (.cells #[.int .i64 (roundsOf x)] 2)).ownsRow w.heap.size 2 1 u3 k os):=HO2.out.alloc _
      go_wp2_with (at_builtin;refine wpList_append_where rfl (.tmp 25) (.tmp 27) 22 rfl w.heap.size 2 i0 (.int .i64 0) 1 8 Tryz.underlying22 hi hz0 hz1 hz2 rfl (by decide) u3 k os rfl HRW.out ⟨wr.heap.size,0,none⟩ 1 1 [.int .i64 (roundsOf x)] rfl rfl (news1 wr _ _) (ones1 rfl) (by decide) (by unfold maxLen;omega) (by omega) (by simp;omega) ?_)
      intro R4 cap4 w4 hown4 hg4 hR4
      have HREL:Hid (MdAt roundsOf l w (k+1) (.slice (some ⟨R4,0,none⟩) (k+1) cap4) w4):=by
       refine ⟨(HB2.out.alloc hbz2 _).grown hg4 (by simp;omega) (fun b hb=>(HO2.out.lt b hb).1),?_⟩
       rw [HX.out,List.map_append,List.map_singleton,show ints ((l.take k).map roundsOf ++ [roundsOf x])=ints ((l.take k).map roundsOf) ++ [.int .i64 (roundsOf x)] by simp,← HOS.out]
       exact hown4
      clear hown4 hg4 hR4
      go_wp2
      go_roundw
      case rel=>exact ⟨k+1,by have:=HML.out;omega,by go_num,HREL.out⟩
      case measure=>simp [intOf];omega
   ·have n3:¬ (k:Int) < (l.length:Int):=by omega
    have ek:k=l.length:=by omega
    subst ek
    have hO:=HO.out
    rw [List.take_length] at hO
    have hlm:l.length=(l.map roundsOf).length:=by simp
    rw [hlm] at hO
    have HV:=Sb.hide (own_reads hO)
    have HA:Hid (Below wr.heap.size wr (wr.alloc (.cells #[.slice a l.length c] 22))):=(Below.refl _ wr).alloc (Nat.le_refl _) _
    have HB2:Hid (Below w.heap.size w (wr.alloc (.cells #[.slice a l.length c] 22))):=HB.out.alloc hbz _
    have HF:=Sb.hide (fd_one (c:=c) hw.out (by omega) HB.out)
    have HT2:=Sb.hide (hT.out.below HB2.out)
    have HV2:=Sb.hide (HV.out.below HA.out)
    clear hO HA n3 hlm
    go_wp2_with fail
    refine (says_any rounds_asked [l] (some ⟨wr.heap.size,0,none⟩) 1 (fun _=>a) (fun _=>c) (l.map roundsOf) u3 _ HT2 HF (rounds_fits l) HV2 (rounds_says l hl HSM.out).1 (rounds_says l hl HSM.out).2 (by simp;omega)).mono ?_
    rintro e w5 ⟨rfl,hb5⟩
    have HB5:=Sb.hide (HB2.out.trans (hb5.mono HB2.out.size))
    clear hb5
    go_wp2
    go_ret
    exact ⟨rfl,HB5.out⟩
 | false =>
  clear hsm
  go_wp2
  go_ret
  exact ⟨rfl,HB0.out⟩
end Go.Proofs.YthffafaoobpedabGreatDoor.Vw

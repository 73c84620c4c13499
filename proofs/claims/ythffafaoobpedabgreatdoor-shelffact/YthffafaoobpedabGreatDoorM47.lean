/- The walk of ShelfFact. -/
import Derived.Test.YthffafaoobpedabGreatDoorM46
set_option maxRecDepth 100000
set_option maxHeartbeats 1000000
namespace Go.Proofs.YthffafaoobpedabGreatDoor.Vw
open Go.RowKit Vf Vm
def MdAt (f:Int→Int)(l:List Int)(w:World)(k:Nat)(vl:Value)(wr:World):Prop:=Below w.heap.size w wr∧wr.ownsRow w.heap.size 2 1 vl k (ints ((l.take k).map f))
def FcAt (x:Int)(kk:Nat)(p:Int):Prop:=p=fcW (kk+1)∧(kk=0∨(kk:Int)+1≤x)
theorem FcAt.next {x p:Int}{kk:Nat}(h:FcAt x kk p)(hx:(kk:Int)+2≤x):FcAt x (kk+1) (wrap64 (p * ((kk+2:Nat):Int))):=by
 refine ⟨?_,.inr (by omega)⟩
 rw [h.1]
 rfl
theorem FcAt.fin {x p:Int}{kk:Nat}(h:FcAt x kk p)(hx:¬ (kk:Int)+2≤x):p=factOf x:=by
 unfold factOf
 rw [h.1]
 rcases h.2 with h2 | h2
 ·subst h2
  have:x.toNat=0∨x.toNat=1:=by omega
  rcases this with h | h <;> rw [h] <;> rfl
 ·rw [show x.toNat=kk+1 by omega]
theorem fact_any (l:List Int)(a:Option Addr)(c:Nat)(w:World)(hw:Hid (In64 w w.heap.size a l))(hn:l.length≤9223372036854775807)(hT:Hid (Xe.Tabs w)) :
  Calls Tryz.prog 3 #[.slice a l.length c] w fun e w'=>e=.returned (.bool true)∧Below w.heap.size w w':=by
 obtain ⟨i0,hi,hz0,hz1,hz2⟩:=info_parts info64
 go_enter Tryz.func3,Tryz.ntmps3
 go_wp2_with fail
 refine (small_any l a c w 20 ⟨by decide,by decide⟩ hw hn).mono ?_
 rintro e w0 ⟨rfl,d0,hw0⟩
 have HB0:Hid (Below w.heap.size w w0):=by unfold Hid;rw [hw0];exact below_drewN (Below.refl _ w) d0
 clear hw0
 cases hsm:smallB 20 l with
 | true =>
  have hl:=smallB_len hsm
  have HSM:Hid (∀ v ∈ l,v≤20):=fun v hv=>(smallB_all hsm v hv).2
  clear hsm
  go_wp2
  go_loopw [3,13] (fun vl v wr=>∃ k:Nat,k≤l.length∧v=.int .i64 k∧MdAt factOf l w k vl wr) (fun _ v _=>l.length - (intOf v).toNat)
  case atStart=>exact ⟨0,Nat.zero_le _,rfl,HB0.out,⟨rfl,.inl ⟨rfl,rfl⟩⟩⟩
  case round =>
   obtain ⟨k,hk,rfl,hb,hown⟩:=hrel
   have HB:=Sb.hide hb
   have HO:=Sb.hide hown
   have hbz:=hb.size
   clear hb hown
   by_cases hlt:k < l.length
   ·obtain ⟨x,hx⟩:∃ x,l[k]?=some x:=⟨_,List.getElem?_eq_getElem hlt⟩
    obtain ⟨b,off,ha,hbw,hc⟩:=(hw.out.below HB.out) k x hx
    have HX:Hid (l.take (k+1)=l.take k ++ [x]):=by unfold Hid;rw [List.take_add_one,hx];rfl
    have hxb:=HSM.out x (List.mem_of_getElem? hx)
    obtain ⟨ml,hml⟩:∃ m,m=l.length:=⟨_,rfl⟩
    rw [ha,← hml]
    rw [← hml] at hlt hl hn hk
    have HML:=Sb.hide hml
    have n0:(0:Int)≤(k:Int):=by omega
    have n2:(k:Int) < (ml:Int):=by omega
    obtain ⟨os,hos⟩:∃ os,os=ints ((l.take k).map factOf):=⟨_,rfl⟩
    have HO1:Hid (wr.ownsRow w.heap.size 2 1 u3 k os):=by unfold Hid;rw [hos];exact HO.out
    have HOS:=Sb.hide hos
    have HXB:=Sb.hide hxb
    have HDI:Hid (FcAt x 0 1):=⟨rfl,.inl rfl⟩
    clear hml ha hx hos HO
    go_wp2
    obtain ⟨W1,hW1⟩:∃ W1,W1=wr:=⟨_,rfl⟩
    rw [← hW1] at HB HO1 hbz hc ⊢
    clear hW1
    go_loopw [6,7] (fun vn vk wr=>∃ (kk D:Nat) (p:Int),D≤100∧D=kk+2∧vn=.int .i64 p∧vk=.int .i64 D∧FcAt x kk p∧Below w.heap.size w wr∧wr.ownsRow w.heap.size 2 1 u3 k os) (fun _ v _=>100 - (intOf v).toNat)
    case atStart=>exact ⟨0,2,1,by decide,rfl,rfl,rfl,HDI.out,HB.out,HO1.out⟩
    case round =>
     obtain ⟨kk,D,p,hD1,hD,rfl,rfl,hdi,hb2,ho2⟩:=hrel
     have HB2:=Sb.hide hb2
     have HO2:=Sb.hide ho2
     have HDI2:=Sb.hide hdi
     have hbz2:=hb2.size
     have HD:=Sb.hide hD
     clear hdi hb2 ho2 HDI
     by_cases hlast:(D:Int)≤x
     ·have HNX:=Sb.hide (HDI2.out.next (by omega))
      rw [show ((kk+2:Nat):Int)=(D:Int) by omega] at HNX
      clear hD
      go_wp2
      go_roundw
      case rel=>exact ⟨kk+1,D+1,_,by have:=HXB.out;omega,by have:=HD.out;omega,rfl,by go_num,HNX.out,HB2.out,HO2.out⟩
      case measure=>simp [intOf];omega
     ·have hsx:=HDI2.out.fin (by omega)
      rw [hsx]
      clear hsx HDI2 hD
      have HRW:Hid ((wr.alloc (.cells #[.int .i64 (factOf x)] 2)).ownsRow w.heap.size 2 1 u3 k os):=HO2.out.alloc _
      go_wp2_with (at_builtin;refine wpList_append_where rfl (.tmp 25) (.tmp 27) 22 rfl w.heap.size 2 i0 (.int .i64 0) 1 8 Tryz.underlying22 hi hz0 hz1 hz2 rfl (by decide) u3 k os rfl HRW.out ⟨wr.heap.size,0,none⟩ 1 1 [.int .i64 (factOf x)] rfl rfl (news1 wr _ _) (ones1 rfl) (by decide) (by unfold maxLen;omega) (by omega) (by simp;omega) ?_)
      intro R4 cap4 w4 hown4 hg4 hR4
      have HREL:Hid (MdAt factOf l w (k+1) (.slice (some ⟨R4,0,none⟩) (k+1) cap4) w4):=by
       refine ⟨(HB2.out.alloc hbz2 _).grown hg4 (by simp;omega) (fun b hb=>(HO2.out.lt b hb).1),?_⟩
       rw [HX.out,List.map_append,List.map_singleton,show ints ((l.take k).map factOf ++ [factOf x])=ints ((l.take k).map factOf) ++ [.int .i64 (factOf x)] by simp,← HOS.out]
       exact hown4
      clear hown4 hg4 hR4
      go_wp2
      go_roundw
      case rel=>exact ⟨k+1,by have:=HML.out;omega,by go_num,HREL.out⟩
      case measure=>simp [intOf];omega
   ·have n3:¬ (k:Int) < (l.length:Int):=by omega
    have ek:k=l.length:=by omega
    subst ek
    have hO:=HO.out
    rw [List.take_length] at hO
    have hlm:l.length=(l.map factOf).length:=by simp
    rw [hlm] at hO
    have HV:=Sb.hide (own_reads hO)
    have HA:Hid (Below wr.heap.size wr (wr.alloc (.cells #[.slice a l.length c] 22))):=(Below.refl _ wr).alloc (Nat.le_refl _) _
    have HB2:Hid (Below w.heap.size w (wr.alloc (.cells #[.slice a l.length c] 22))):=HB.out.alloc hbz _
    have HF:=Sb.hide (fd_one (c:=c) hw.out (by omega) HB.out)
    have HT2:=Sb.hide (hT.out.below HB2.out)
    have HV2:=Sb.hide (HV.out.below HA.out)
    clear hO HA n3 hlm
    go_wp2_with fail
    refine (says_any fact_asked [l] (some ⟨wr.heap.size,0,none⟩) 1 (fun _=>a) (fun _=>c) (l.map factOf) u3 _ HT2 HF (fact_fits l) HV2 (fact_says l hl HSM.out).1 (fact_says l hl HSM.out).2 (by simp;omega)).mono ?_
    rintro e w5 ⟨rfl,hb5⟩
    have HB5:=Sb.hide (HB2.out.trans (hb5.mono HB2.out.size))
    clear hb5
    go_wp2
    go_ret
    exact ⟨rfl,HB5.out⟩
 | false =>
  clear hsm
  go_wp2
  go_ret
  exact ⟨rfl,HB0.out⟩
end Go.Proofs.YthffafaoobpedabGreatDoor.Vw

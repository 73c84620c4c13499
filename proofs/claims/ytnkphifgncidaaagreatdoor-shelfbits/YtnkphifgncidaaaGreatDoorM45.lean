/- The walk of ShelfBits. -/
import Derived.Test.YtnkphifgncidaaaGreatDoorM44
set_option maxRecDepth 100000
set_option maxHeartbeats 1000000
namespace Go.Proofs.YtnkphifgncidaaaGreatDoor.Vw
open Go.RowKit Vf Vm
theorem and1 (n:Int):bits .and .i64 n 1 = n % 2:=by
 have h1:(BitVec.ofInt 64 1).toNat = 2 ^ 1 - 1:=by decide
 have key:(BitVec.ofInt 64 n &&& BitVec.ofInt 64 1).toNat = (n % ((2 ^ 64:Nat):Int)).toNat % 2 ^ 1:=by
  rw [BitVec.toNat_and,BitVec.toNat_ofInt,h1,Nat.and_two_pow_sub_one_eq_mod]
 show IntKind.i64.wrap ((BitVec.ofInt 64 n &&& BitVec.ofInt 64 1).toNat:Nat) = n % 2
 rw [key,IntKind.wrap_i64]
 omega
def MpAt (f:Int → Int) (l:List Int) (w:World) (k:Nat) (vl:Value) (wr:World):Prop:=Below w.heap.size w wr ∧ wr.ownsRow w.heap.size 2 1 vl k (ints ((l.take k).map f))
def BiAt (x:Int) (kk s:Nat):Prop:=kk ≤ 63 ∧ s = digs 2 kk x.toNat ∧ (kk = 0 ∨ 0 < x)
theorem BiAt.few {x:Int} {kk s:Nat} (h:BiAt x kk s):s ≤ 126:=by
 have:=digs_le 2 (by decide) kk x.toNat
 have:=h.1
 have:=h.2.1
 omega
theorem BiAt.next {x:Int} {kk s:Nat} (h:BiAt x kk s) (hx:0 < x) (hk:kk < 63):BiAt x (kk + 1) (s + x.toNat / 2 ^ kk % 2):=by
 refine ⟨hk,?_,.inr hx⟩
 rw [digs_snoc,← h.2.1]
theorem BiAt.fin {x:Int} {s:Nat} (h:BiAt x 63 s):(s:Int) = bitsOf x:=by rw [h.2.1]; rfl
theorem BiAt.none {x:Int} {kk s:Nat} (h:BiAt x kk s) (hx:¬ 0 < x):(s:Int) = bitsOf x:=by
 have h1:kk = 0:=h.2.2.resolve_right hx
 have h2:x.toNat = 0:=by omega
 have:=h.2.1
 unfold bitsOf
 rw [this,h2,digs_zero,digs_zero]
theorem two_div (x:Int) (hx:0 < x) (k:Nat):x / 2 ^ k % 2 = ((x.toNat / 2 ^ k % 2:Nat):Int):=by
 obtain ⟨X,rfl⟩:∃ X:Nat,x = X:=⟨x.toNat,by omega⟩
 simp
theorem bits_any (l:List Int) (a:Option Addr) (c:Nat) (w:World) (hw:Hid (In64 w w.heap.size a l)) (hn:l.length ≤ 9223372036854775807) (hI:Hid (∀ v ∈ l,v < 9223372036854775808)) (hT:Hid (Xe.Tabs w)) :
  Calls Tryz.prog 6 #[.slice a l.length c] w fun e w' => e = .returned (.bool true) ∧ Below w.heap.size w w':=by
 obtain ⟨i0,hi,hz0,hz1,hz2⟩:=info_parts info64
 go_enter Tryz.func6,Tryz.ntmps6
 by_cases hl:l.length ≤ 4
 ·have n1:¬ (4:Int) < (l.length:Int):=by omega
  go_wp2
  go_loopw [3,13] (fun vl v wr => ∃ k:Nat,k ≤ l.length ∧ v = .int .i64 k ∧ MpAt bitsOf l w k vl wr) (fun _ v _ => l.length - (intOf v).toNat)
  case atStart => exact ⟨0,Nat.zero_le _,rfl,Below.refl _ w,⟨rfl,.inl ⟨rfl,rfl⟩⟩⟩
  case round =>
   obtain ⟨k,hk,rfl,hb,hown⟩:=hrel
   have HB:=Sb.hide hb
   have HO:=Sb.hide hown
   have hbz:=hb.size
   clear hb hown
   by_cases hlt:k < l.length
   ·obtain ⟨x,hx⟩:∃ x,l[k]? = some x:=⟨_,List.getElem?_eq_getElem hlt⟩
    obtain ⟨b,off,ha,hbw,hc⟩:=(hw.out.below HB.out) k x hx
    have HX:Hid (l.take (k + 1) = l.take k ++ [x]):=by unfold Hid; rw [List.take_add_one,hx]; rfl
    obtain ⟨ml,hml⟩:∃ m,m = l.length:=⟨_,rfl⟩
    rw [ha,← hml]
    rw [← hml] at hlt hl hn hk
    have HML:=Sb.hide hml
    have n0:(0:Int) ≤ (k:Int):=by omega
    have n2:(k:Int) < (ml:Int):=by omega
    obtain ⟨os,hos⟩:∃ os,os = ints ((l.take k).map bitsOf):=⟨_,rfl⟩
    have HO1:Hid (wr.ownsRow w.heap.size 2 1 u3 k os):=by unfold Hid; rw [hos]; exact HO.out
    have HOS:=Sb.hide hos
    have HBI:Hid (BiAt x 0 0):=⟨by decide,rfl,.inl rfl⟩
    have hand:∀ y:Int,bits .and .i64 y 1 = y % 2:=and1
    clear hml ha hx n1 hos HO
    go_wp2
    obtain ⟨W1,hW1⟩:∃ W1,W1 = wr:=⟨_,rfl⟩
    rw [← hW1] at HB HO1 hbz hc ⊢
    clear hW1
    go_loopw [6,7] (fun vn vk wr => ∃ kk s:Nat,kk ≤ 63 ∧ vn = .int .i64 s ∧ vk = .int .i64 kk ∧ BiAt x kk s ∧ Below w.heap.size w wr ∧ wr.ownsRow w.heap.size 2 1 u3 k os) (fun _ v _ => 63 - (intOf v).toNat)
    case atStart => exact ⟨0,0,by decide,rfl,rfl,HBI.out,HB.out,HO1.out⟩
    case round =>
     obtain ⟨kk,s,hkk,rfl,rfl,hbi,hb2,ho2⟩:=hrel
     have HB2:=Sb.hide hb2
     have HO2:=Sb.hide ho2
     have HBI2:=Sb.hide hbi
     have hsf:=hbi.few
     have hbz2:=hb2.size
     clear hbi hb2 ho2 HBI
     by_cases hlast:kk < 63
     ·have m1:(kk:Int) < 63:=by omega
      by_cases hx0:0 < x
      ·have HNX:=Sb.hide (HBI2.out.next hx0 hlast)
       have HTD:=Sb.hide (two_div x hx0 kk)
       go_wp2
       go_roundw
       case rel =>
        refine ⟨kk + 1,s + x.toNat / 2 ^ kk % 2,by omega,?_,by go_num,HNX.out,HB2.out,HO2.out⟩
        rw [HTD.out,Int.natCast_add]
       case measure => simp [intOf]; omega
      ·have hsx:=HBI2.out.none hx0
       rw [hsx]
       clear hsx HBI2
       have HRW:Hid ((wr.alloc (.cells #[.int .i64 (bitsOf x)] 2)).ownsRow w.heap.size 2 1 u3 k os):=HO2.out.alloc _
       go_wp2_with (at_builtin; refine wpList_append_where rfl (.tmp 31) (.tmp 33) 22 rfl w.heap.size 2 i0 (.int .i64 0) 1 8 Tryz.underlying22 hi hz0 hz1 hz2 rfl (by decide) u3 k os rfl HRW.out ⟨wr.heap.size,0,none⟩ 1 1 [.int .i64 (bitsOf x)] rfl rfl (news1 wr _ _) (ones1 rfl) (by decide) (by unfold maxLen; omega) (by omega) (by simp; omega) ?_)
       intro R4 cap4 w4 hown4 hg4 hR4
       have HREL:Hid (MpAt bitsOf l w (k + 1) (.slice (some ⟨R4,0,none⟩) (k + 1) cap4) w4):=by
        refine ⟨(HB2.out.alloc hbz2 _).grown hg4 (by simp; omega) (fun b hb => (HO2.out.lt b hb).1),?_⟩
        rw [HX.out,List.map_append,List.map_singleton,show ints ((l.take k).map bitsOf ++ [bitsOf x]) = ints ((l.take k).map bitsOf) ++ [.int .i64 (bitsOf x)] by simp,← HOS.out]
        exact hown4
       clear hown4 hg4 hR4
       go_wp2
       go_roundw
       case rel => exact ⟨k + 1,by have:=HML.out; omega,by go_num,HREL.out⟩
       case measure => simp [intOf]; omega
     ·have e63:kk = 63:=by omega
      subst e63
      have hsx:=HBI2.out.fin
      rw [hsx]
      clear hsx HBI2
      have HRW:Hid ((wr.alloc (.cells #[.int .i64 (bitsOf x)] 2)).ownsRow w.heap.size 2 1 u3 k os):=HO2.out.alloc _
      go_wp2_with (at_builtin; refine wpList_append_where rfl (.tmp 31) (.tmp 33) 22 rfl w.heap.size 2 i0 (.int .i64 0) 1 8 Tryz.underlying22 hi hz0 hz1 hz2 rfl (by decide) u3 k os rfl HRW.out ⟨wr.heap.size,0,none⟩ 1 1 [.int .i64 (bitsOf x)] rfl rfl (news1 wr _ _) (ones1 rfl) (by decide) (by unfold maxLen; omega) (by omega) (by simp; omega) ?_)
      intro R4 cap4 w4 hown4 hg4 hR4
      have HREL:Hid (MpAt bitsOf l w (k + 1) (.slice (some ⟨R4,0,none⟩) (k + 1) cap4) w4):=by
       refine ⟨(HB2.out.alloc hbz2 _).grown hg4 (by simp; omega) (fun b hb => (HO2.out.lt b hb).1),?_⟩
       rw [HX.out,List.map_append,List.map_singleton,show ints ((l.take k).map bitsOf ++ [bitsOf x]) = ints ((l.take k).map bitsOf) ++ [.int .i64 (bitsOf x)] by simp,← HOS.out]
       exact hown4
      clear hown4 hg4 hR4
      go_wp2
      go_roundw
      case rel => exact ⟨k + 1,by have:=HML.out; omega,by go_num,HREL.out⟩
      case measure => simp [intOf]; omega
   ·have n3:¬ (k:Int) < (l.length:Int):=by omega
    have ek:k = l.length:=by omega
    subst ek
    have hO:=HO.out
    rw [List.take_length] at hO
    have hlm:l.length = (l.map bitsOf).length:=by simp
    rw [hlm] at hO
    have HV:=Sb.hide (own_reads hO)
    have HA:Hid (Below wr.heap.size wr (wr.alloc (.cells #[.slice a l.length c] 22))):=(Below.refl _ wr).alloc (Nat.le_refl _) _
    have HB2:Hid (Below w.heap.size w (wr.alloc (.cells #[.slice a l.length c] 22))):=HB.out.alloc hbz _
    have HF:=Sb.hide (fd_one (c:=c) hw.out (by omega) HB.out)
    have HT2:=Sb.hide (hT.out.below HB2.out)
    have HV2:=Sb.hide (HV.out.below HA.out)
    clear hO HA n3 hlm
    go_wp2_with fail
    refine (says_any bits_asked [l] (some ⟨wr.heap.size,0,none⟩) 1 (fun _ => a) (fun _ => c) (l.map bitsOf) u3 _ HT2 HF (bits_fits l) HV2 (bits_says l hl hI.out).1 (bits_says l hl hI.out).2 (by simp; omega)).mono ?_
    rintro e w5 ⟨rfl,hb5⟩
    have HB5:=Sb.hide (HB2.out.trans (hb5.mono HB2.out.size))
    clear hb5
    go_wp2
    go_ret
    exact ⟨rfl,HB5.out⟩
 ·have n1:(4:Int) < (l.length:Int):=by omega
  go_wp2
  go_ret
  exact ⟨rfl,Below.refl _ w⟩
end Go.Proofs.YtnkphifgncidaaaGreatDoor.Vw

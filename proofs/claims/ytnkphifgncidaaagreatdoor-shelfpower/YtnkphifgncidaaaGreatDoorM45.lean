/- The walk of ShelfPower. -/
import Derived.Test.YtnkphifgncidaaaGreatDoorM44
set_option maxRecDepth 100000
set_option maxHeartbeats 1000000
namespace Go.Proofs.YtnkphifgncidaaaGreatDoor.Vw
open Go.RowKit Vf Vm
theorem pws_app (x y:Int):∀ (k:Nat) (p:List Int),p.length = 2 * k → pws (p ++ [x,y]) = pws p ++ [pwr x y.toNat] ∧ pws (p ++ [x]) = pws p ∧ (pws p).length = k ∧ (Pok p → 0 ≤ y ∧ y ≤ 60 → Pok (p ++ [x,y])) ∧ (Pok p → Pok (p ++ [x]))
 | 0,p,h => by
  have:p = []:=List.eq_nil_of_length_eq_zero (by omega)
  subst this
  exact ⟨rfl,rfl,rfl,fun _ h => ⟨h,trivial⟩,fun _ => trivial⟩
 | k + 1,[],h => by simp at h
 | k + 1,[a],h => by simp at h; omega
 | k + 1,a :: b :: p,h => by
  obtain ⟨h1,h2,h3,h4,h5⟩:=pws_app x y k p (by simp at h; omega)
  refine ⟨?_,?_,by simp [pws,h3],fun hp hy => ⟨hp.1,h4 hp.2 hy⟩,fun hp => ⟨hp.1,h5 hp.2⟩⟩
  ·show pwr a b.toNat :: pws (p ++ [x,y]) = _
   rw [h1]; rfl
  ·show pwr a b.toNat :: pws (p ++ [x]) = _
   rw [h2]; rfl
def PwAt (l:List Int) (w:World) (i k:Nat) (vl:Value) (wr:World):Prop:=i = 2 * k ∧ i ≤ l.length ∧ Pok (l.take i) ∧ Below w.heap.size w wr ∧ wr.ownsRow w.heap.size 2 1 vl k (ints (pws (l.take i)))
theorem power_any (l:List Int) (a:Option Addr) (c:Nat) (w:World) (hw:Hid (In64 w w.heap.size a l)) (hn:l.length ≤ 9223372036854775807) (hT:Hid (Xe.Tabs w)) :
  Calls Tryz.prog 8 #[.slice a l.length c] w fun e w' => e = .returned (.bool true) ∧ Below w.heap.size w w':=by
 obtain ⟨i0,hi,hz0,hz1,hz2⟩:=info_parts info64
 go_enter Tryz.func8,Tryz.ntmps8
 by_cases hl:l.length ≤ 12
 ·have n1:¬ (12:Int) < (l.length:Int):=by omega
  go_wp2
  go_loopw [3,4] (fun vl v wr => ∃ i k:Nat,v = .int .i64 i ∧ PwAt l w i k vl wr) (fun _ v _ => l.length - (intOf v).toNat)
  case atStart => exact ⟨0,0,rfl,rfl,Nat.zero_le _,trivial,Below.refl _ w,⟨rfl,.inl ⟨rfl,rfl⟩⟩⟩
  case round =>
   obtain ⟨i,k,rfl,hik,hk,hpo,hb,hown⟩:=hrel
   have HB:=Sb.hide hb
   have HO:=Sb.hide hown
   have HIK:=Sb.hide hik
   have HPO:=Sb.hide hpo
   have hbz:=hb.size
   have hki:k ≤ i:=by omega
   clear hb hown hik hpo
   by_cases hlt:i + 1 < l.length
   ·obtain ⟨x,hx⟩:∃ x,l[i]? = some x:=⟨_,List.getElem?_eq_getElem (by omega)⟩
    obtain ⟨y,hy⟩:∃ y,l[i + 1]? = some y:=⟨_,List.getElem?_eq_getElem hlt⟩
    obtain ⟨b,off,ha,hbw,hc⟩:=(hw.out.below HB.out) i x hx
    obtain ⟨b2,off2,ha2,_,hc2⟩:=(hw.out.below HB.out) (i + 1) y hy
    rw [ha] at ha2
    cases ha2
    have HX:Hid (l.take (i + 2) = l.take i ++ [x,y]):=by
     unfold Hid
     rw [show i + 2 = (i + 1) + 1 by rfl,List.take_add_one,List.take_add_one,hx,hy]
     simp
    have HAP:=Sb.hide (pws_app x y k (l.take i) (by rw [List.length_take,← HIK.out]; omega))
    obtain ⟨ml,hml⟩:∃ m,m = l.length:=⟨_,rfl⟩
    rw [ha,← hml]
    rw [← hml] at hlt hl hn hk
    have HML:=Sb.hide hml
    have n0:(0:Int) ≤ (i:Int):=by omega
    have n2:(i:Int) + 1 < (ml:Int):=by omega
    have n4:(i:Int) < (ml:Int):=by omega
    have n5:(0:Int) ≤ (i:Int) + 1:=by omega
    have hwr:IntKind.i64.wrap ((i:Int) + 1) = (i:Int) + 1:=IntWalk.i64_in _ ⟨by omega,by omega⟩
    have htn:((i:Int) + 1).toNat = i + 1:=by omega
    obtain ⟨os,hos⟩:∃ os,os = ints (pws (l.take i)):=⟨_,rfl⟩
    have HO1:Hid (wr.ownsRow w.heap.size 2 1 u3 k os):=by unfold Hid; rw [hos]; exact HO.out
    have HOS:=Sb.hide hos
    clear hml ha hx hy n1 hos HO
    by_cases h1:y < 0
    ·go_wp2
     go_ret
     exact ⟨rfl,HB.out⟩
    ·by_cases h2:60 < y
     ·go_wp2
      go_ret
      exact ⟨rfl,HB.out⟩
     ·obtain ⟨N,rfl⟩:∃ N:Nat,y = N:=⟨y.toNat,by omega⟩
      go_wp2
      obtain ⟨W1,hW1⟩:∃ W1,W1 = wr:=⟨_,rfl⟩
      rw [← hW1] at HB HO1 hbz hc hc2 ⊢
      clear hW1
      go_loopw [5,6] (fun vp vk wr => ∃ (kk:Nat) (p:Int),kk ≤ N ∧ vp = .int .i64 p ∧ vk = .int .i64 kk ∧ Hid (p = pwr x kk) ∧ wr = W1) (fun _ v _ => N - (intOf v).toNat)
      case atStart => exact ⟨0,1,Nat.zero_le _,rfl,rfl,rfl,rfl⟩
      case round =>
       obtain ⟨kk,p,hkk,rfl,rfl,HP,rfl⟩:=hrel
       by_cases hlast:kk < N
       ·have m1:(kk:Int) < (N:Int):=by omega
        have HNX:Hid (wrap64 (p * x) = pwr x (kk + 1)):=by
         unfold Hid
         rw [HP.out]
         rfl
        go_wp2
        go_roundw
        case rel => exact ⟨kk + 1,_,by omega,rfl,by go_num,HNX,trivial⟩
        case measure => simp [intOf]; omega
       ·have ekk:kk = N:=by omega
        subst ekk
        have m1:¬ (kk:Int) < (kk:Int):=by omega
        have HRW:Hid ((wr.alloc (.cells #[.int .i64 p] 2)).ownsRow w.heap.size 2 1 u3 k os):=HO1.out.alloc _
        go_wp2_with (at_builtin; refine wpList_append_where rfl (.tmp 46) (.tmp 48) 22 rfl w.heap.size 2 i0 (.int .i64 0) 1 8 Tryz.underlying22 hi hz0 hz1 hz2 rfl (by decide) u3 k os rfl HRW.out ⟨wr.heap.size,0,none⟩ 1 1 [.int .i64 p] rfl rfl (news1 wr _ _) (ones1 rfl) (by decide) (by unfold maxLen; omega) (by omega) (by simp; omega) ?_)
        intro R4 cap4 w4 hown4 hg4 hR4
        have HREL:Hid (PwAt l w (i + 2) (k + 1) (.slice (some ⟨R4,0,none⟩) (k + 1) cap4) w4):=by
         obtain ⟨a1,a2,a3,a4,a5⟩:=HAP.out
         refine ⟨by have:=HIK.out; omega,by have:=HML.out; omega,by rw [HX.out]; exact a4 HPO.out ⟨by omega,by omega⟩,(HB.out.alloc hbz _).grown hg4 (by simp; omega) (fun b hb => (HO1.out.lt b hb).1),?_⟩
         rw [HX.out,a1,show ints (pws (l.take i) ++ [pwr x ((kk:Nat):Int).toNat]) = ints (pws (l.take i)) ++ [.int .i64 (pwr x ((kk:Nat):Int).toNat)] by simp,← HOS.out,show ((kk:Nat):Int).toNat = kk by simp,← HP.out]
         exact hown4
        clear hown4 hg4 hR4
        go_wp2
        go_roundw
        case rel => exact ⟨i + 2,k + 1,by go_num,HREL.out⟩
        case measure => simp [intOf]; omega
   ·have n3:¬ (i:Int) + 1 < (l.length:Int):=by omega
    have hfin:pws (l.take i) = pws l ∧ Pok l:=by
     rcases Nat.lt_or_ge i l.length with h | h
     ·obtain ⟨x,hx⟩:∃ x,l[i]? = some x:=⟨_,List.getElem?_eq_getElem h⟩
      have e:l = l.take i ++ [x]:=by
       have h1:l.take (i + 1) = l:=List.take_of_length_le (by omega)
       rw [List.take_add_one,hx] at h1
       exact h1.symm
      obtain ⟨_,a2,_,_,a5⟩:=pws_app x x k (l.take i) (by rw [List.length_take,← HIK.out]; omega)
      have h5:=a5 HPO.out
      rw [← e] at a2 h5
      exact ⟨a2.symm,h5⟩
     ·have h1:=HPO.out
      rw [List.take_of_length_le h] at h1
      rw [List.take_of_length_le h]
      exact ⟨rfl,h1⟩
    have hO:=HO.out
    have hlen:=(pws_app 0 0 k (l.take i) (by rw [List.length_take,← HIK.out]; omega)).2.2.1
    have HPOK:=Sb.hide hfin.2
    rw [hfin.1] at hO hlen
    rw [← hlen] at hO
    have HV:=Sb.hide (own_reads hO)
    have HA:Hid (Below wr.heap.size wr (wr.alloc (.cells #[.slice a l.length c] 22))):=(Below.refl _ wr).alloc (Nat.le_refl _) _
    have HB2:Hid (Below w.heap.size w (wr.alloc (.cells #[.slice a l.length c] 22))):=HB.out.alloc hbz _
    have HF:=Sb.hide (fd_one (c:=c) hw.out (by omega) HB.out)
    have HT2:=Sb.hide (hT.out.below HB2.out)
    have HV2:=Sb.hide (HV.out.below HA.out)
    have HLN:=Sb.hide hlen
    clear hO HA n1 hfin hlen
    go_wp2_with fail
    refine (says_any power_asked [l] (some ⟨wr.heap.size,0,none⟩) 1 (fun _ => a) (fun _ => c) (pws l) u3 _ HT2 HF (power_fits l) HV2 (power_says l hl HPOK.out).1 (power_says l hl HPOK.out).2 (by rw [HLN.out]; omega)).mono ?_
    rintro e w5 ⟨rfl,hb5⟩
    have HB5:=Sb.hide (HB2.out.trans (hb5.mono HB2.out.size))
    clear hb5
    go_wp2
    go_ret
    exact ⟨rfl,HB5.out⟩
 ·have n1:(12:Int) < (l.length:Int):=by omega
  go_wp2
  go_ret
  exact ⟨rfl,Below.refl _ w⟩
end Go.Proofs.YtnkphifgncidaaaGreatDoor.Vw

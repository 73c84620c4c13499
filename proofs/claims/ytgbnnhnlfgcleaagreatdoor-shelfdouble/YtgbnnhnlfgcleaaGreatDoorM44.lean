/- What double does; the walk of ShelfDouble. -/
import Derived.Test.YtgbnnhnlfgcleaaGreatDoorM43
set_option maxRecDepth 100000
set_option maxHeartbeats 1000000
namespace Go.Proofs.YtgbnnhnlfgcleaaGreatDoor.Vw
open Go.RowKit Vf Vm
open Xe in
theorem double_goes (l:List Int):∀ (j k n:Nat) (out:List Int) (log:List Ev),l.length = k + j → 7 * j + 2 ≤ n →
  ∃ t x,(go lsX mDouble n (tk 0 [] 0 out log) [⟨l,k,[]⟩]).2 = (t,x) ∧ t.out = out ++ (l.drop k).map (fun v => wrap (v * 2)) ∧ (stat lsX mDouble t x).1 = 3
 | 0,k,n,out,log,hk,hn => by
  obtain ⟨n,rfl⟩:∃ n',n = n' + 2:=⟨n - 2,by omega⟩
  have hk:k = l.length:=by omega
  subst hk
  refine ⟨tk 0 [] 2 out log,[⟨l,l.length,[]⟩],?_,by simp,stat_none rfl rfl rfl⟩
  have e1:(go lsX mDouble (n + 2) (tk 0 [] 0 out log) [⟨l,l.length,[]⟩]).2 = (go lsX mDouble n (tk 0 [] 2 out log) [⟨l,l.length,[]⟩]).2:=by kernel_rfl
  rw [e1,go_halt (by rw [stat_none rfl rfl rfl]; decide)]
 | j + 1,k,n,out,log,hk,hn => by
  obtain ⟨n,rfl⟩:∃ n',n = n' + 7:=⟨n - 7,by omega⟩
  have hlt:k < l.length:=by omega
  obtain ⟨v,hv⟩:∃ v,l[k]? = some v:=⟨_,List.getElem?_eq_getElem hlt⟩
  have e1:(go lsX mDouble (n + 7) (tk 0 [] 0 out log) [⟨l,k,[]⟩]).2 = (go lsX mDouble (n + 5) (tk 0 [] 2 out log) [⟨l,k,[]⟩]).2:=by kernel_rfl
  have e2:one lsX mDouble (tk 0 [] 2 out log) [⟨l,k,[]⟩] = (tk 0 [(l[k]?).getD 0] 3 out (log ++ [⟨3,0,(l[k]?).getD 0⟩]),[⟨l,k + 1,[]⟩]):=by kernel_rfl
  have e3:(go lsX mDouble (n + 4) (tk 0 [v] 3 out (log ++ [⟨3,0,v⟩])) [⟨l,k + 1,[]⟩]).2 = (go lsX mDouble n (tk 0 [] 0 (out ++ [wrap (v * 2)]) ((log ++ [⟨3,0,v⟩]) ++ [⟨1,0,wrap (v * 2)⟩])) [⟨l,k + 1,[]⟩]).2:=by kernel_rfl
  obtain ⟨t,x,h1,h2,h3⟩:=double_goes l j (k + 1) n (out ++ [wrap (v * 2)]) _ (by omega) (by omega)
  refine ⟨t,x,?_,?_,h3⟩
  ·rw [e1,go_on (stat_more rfl rfl rfl hlt),e2,hv]
   exact e3.trans h1
  ·rw [h2]
   have hd:l.drop k = v :: l.drop (k + 1):=by
    rw [List.getElem?_eq_getElem hlt] at hv
    cases hv
    exact List.drop_eq_getElem_cons hlt
   rw [hd]
   simp
set_option maxRecDepth 1000000 in
theorem double_fits (l:List Int):soloE Xe.mDouble 0 5000 [l] = 0:=by kernel_rfl
theorem double_asked:Asked Xe.nDouble Xe.mDouble:=⟨Xe.ans_double,by decide⟩
theorem double_first (l:List Int):soloR Xe.mDouble 0 5000 [l] = go lsX Xe.mDouble 5000 (tk 0 [] 0 [] []) [⟨l,0,[]⟩]:=by kernel_rfl
abbrev dbl (l:List Int):List Int:=l.map fun v => wrap (v * 2)
theorem double_says (l:List Int) (h:l.length ≤ 100):(soloR Xe.mDouble 0 5000 [l]).2.1.out = dbl l ∧ (stat lsX Xe.mDouble (soloR Xe.mDouble 0 5000 [l]).2.1 (soloR Xe.mDouble 0 5000 [l]).2.2).1 = 3:=by
 rw [double_first]
 obtain ⟨t,x,h1,h2,h3⟩:=double_goes l l.length 0 5000 [] [] (by omega) (by omega)
 rw [h1]
 exact ⟨by simpa using h2,h3⟩
theorem double_any (l:List Int) (a:Option Addr) (c:Nat) (w:World) (hw:Hid (In64 w w.heap.size a l)) (hn:l.length ≤ 9223372036854775807) (hT:Hid (Xe.Tabs w)) :
  Calls Tryz.prog 3 #[.slice a l.length c] w fun e w' => e = .returned (.bool true) ∧ Below w.heap.size w w':=by
 obtain ⟨i0,hi,hz0,hz1,hz2⟩:=info_parts info64
 go_enter Tryz.func3,Tryz.ntmps3
 by_cases hl:l.length ≤ 100
 ·have n1:¬ (100:Int) < (l.length:Int):=by omega
  go_wp2
  go_loopw [3,11] (fun vl v wr => ∃ k:Nat,v = .int .i64 k ∧ DbAt (fun v => wrap64 (2 * v)) l w k vl wr) (fun _ v _ => l.length - (intOf v).toNat)
  case atStart => exact ⟨0,rfl,Nat.zero_le _,Below.refl _ w,⟨rfl,.inl ⟨rfl,rfl⟩⟩⟩
  case round =>
   obtain ⟨k,rfl,hk,hb,hown⟩:=hrel
   have HB:=Sb.hide hb
   have HO:=Sb.hide hown
   have hbz:=hb.size
   clear hb hown
   by_cases hlt:k < l.length
   ·obtain ⟨x,hx⟩:∃ x,l[k]? = some x:=⟨_,List.getElem?_eq_getElem hlt⟩
    obtain ⟨b,off,ha,hbw,hc⟩:=(hw.out.below HB.out) k x hx
    have HX:Hid (l.take (k + 1) = l.take k ++ [x]):=by unfold Hid; rw [List.take_add_one,hx]; rfl
    obtain ⟨ml,hml⟩:∃ m,m = l.length:=⟨_,rfl⟩
    rw [ha,← hml]
    rw [← hml] at hlt hl hn
    have HML:=Sb.hide hml
    have n0:(0:Int) ≤ (k:Int):=by omega
    have n2:(k:Int) < (ml:Int):=by omega
    obtain ⟨os,hos⟩:∃ os,os = ints ((l.take k).map fun v => wrap64 (2 * v)):=⟨_,rfl⟩
    have HRW:Hid ((wr.alloc (.cells #[.int .i64 (wrap64 (2 * x))] 2)).ownsRow w.heap.size 2 1 u3 k os):=by unfold Hid; rw [hos]; exact HO.out.alloc _
    have HOS:=Sb.hide hos
    clear hml ha hx n1 hos
    go_wp2_with (at_builtin; refine wpList_append_where rfl (.tmp 15) (.tmp 18) 22 rfl w.heap.size 2 i0 (.int .i64 0) 1 8 Tryz.underlying22 hi hz0 hz1 hz2 rfl (by decide) u3 k os rfl HRW.out ⟨wr.heap.size,0,none⟩ 1 1 [.int .i64 (wrap64 (2 * x))] rfl rfl (news1 wr _ _) (ones1 rfl) (by decide) (by unfold maxLen; omega) (by omega) (by simp; omega) ?_)
    intro R4 cap4 w4 hown4 hg4 hR4
    have HREL:Hid (DbAt (fun v => wrap64 (2 * v)) l w (k + 1) (.slice (some ⟨R4,0,none⟩) (k + 1) cap4) w4):=by
     refine ⟨by have:=HML.out; omega,(HB.out.alloc hbz _).grown hg4 (by simp; omega) (fun b hb => (HO.out.lt b hb).1),?_⟩
     rw [HX.out,List.map_append,show ints ((l.take k).map (fun v => wrap64 (2 * v)) ++ [x].map fun v => wrap64 (2 * v)) = ints ((l.take k).map fun v => wrap64 (2 * v)) ++ [.int .i64 (wrap64 (2 * x))] by simp,← HOS.out]
     exact hown4
    clear hown4 hg4 hR4
    go_wp2
    go_roundw
    case rel => exact ⟨k + 1,by go_num,HREL.out⟩
    case measure => simp [intOf]; omega
   ·have n3:¬ (k:Int) < (l.length:Int):=by omega
    have ek:k = l.length:=by omega
    subst ek
    have hO:=HO.out
    rw [List.take_length] at hO
    have HV:=Sb.hide (own_reads hO)
    have HA:Hid (Below wr.heap.size wr (wr.alloc (.cells #[.slice a l.length c] 22))):=(Below.refl _ wr).alloc (Nat.le_refl _) _
    have HB2:Hid (Below w.heap.size w (wr.alloc (.cells #[.slice a l.length c] 22))):=HB.out.alloc hbz _
    have HF:=Sb.hide (fd_one (c:=c) hw.out hl HB.out)
    have HT2:=Sb.hide (hT.out.below HB2.out)
    have HW:Hid (l.map (fun v => wrap64 (2 * v)) = dbl l):=by
     unfold Hid dbl wrap
     congr 1
     funext v
     rw [Int.mul_comm]
    have hV2:=HV.out.below HA.out
    rw [HW.out] at hV2
    have HV2:=Sb.hide hV2
    clear hO hV2 HA n1 n3
    go_wp2_with fail
    refine (says_any double_asked [l] (some ⟨wr.heap.size,0,none⟩) 1 (fun _ => a) (fun _ => c) (dbl l) u3 _ HT2 HF (double_fits l) HV2 (double_says l hl).1 (double_says l hl).2 (by simp; omega)).mono ?_
    rintro e w5 ⟨rfl,hb5⟩
    have HB5:=Sb.hide (HB2.out.trans (hb5.mono HB2.out.size))
    clear hb5
    go_wp2
    go_ret
    exact ⟨rfl,HB5.out⟩
 ·have n1:(100:Int) < (l.length:Int):=by omega
  go_wp2
  go_ret
  exact ⟨rfl,Below.refl _ w⟩
end Go.Proofs.YtgbnnhnlfgcleaaGreatDoor.Vw

/- What evens does; the walk of ShelfEvens. -/
import Derived.Test.YtgbnnhnlfgcleaaGreatDoorM43
set_option maxRecDepth 100000
set_option maxHeartbeats 1000000
namespace Go.Proofs.YtgbnnhnlfgcleaaGreatDoor.Vw
open Go.RowKit Vf Vm
abbrev evn (v:Int):Bool:=v.tmod 2 == 0
open Xe in
theorem evens_goes (l:List Int):∀ (j k n:Nat) (p:Int) (out:List Int) (log:List Ev),l.length = k + j → 14 * j + 2 ≤ n →
  ∃ t x,(go lsX mEvens n (tk 0 [p] 0 out log) [⟨l,k,[]⟩]).2 = (t,x) ∧ t.out = out ++ (l.drop k).filter evn ∧ (stat lsX mEvens t x).1 = 3
 | 0,k,n,p,out,log,hk,hn => by
  obtain ⟨n,rfl⟩:∃ n',n = n' + 2:=⟨n - 2,by omega⟩
  have hk:k = l.length:=by omega
  subst hk
  refine ⟨tk 0 [p] 2 out log,[⟨l,l.length,[]⟩],?_,by simp,stat_none rfl rfl rfl⟩
  have e1:(go lsX mEvens (n + 2) (tk 0 [p] 0 out log) [⟨l,l.length,[]⟩]).2 = (go lsX mEvens n (tk 0 [p] 2 out log) [⟨l,l.length,[]⟩]).2:=by kernel_rfl
  rw [e1,go_halt (by rw [stat_none rfl rfl rfl]; decide)]
 | j + 1,k,n,p,out,log,hk,hn => by
  obtain ⟨n,rfl⟩:∃ n',n = n' + 14:=⟨n - 14,by omega⟩
  have hlt:k < l.length:=by omega
  obtain ⟨v,hv⟩:∃ v,l[k]? = some v:=⟨_,List.getElem?_eq_getElem hlt⟩
  have e1:(go lsX mEvens (n + 14) (tk 0 [p] 0 out log) [⟨l,k,[]⟩]).2 = (go lsX mEvens (n + 12) (tk 0 [p] 2 out log) [⟨l,k,[]⟩]).2:=by kernel_rfl
  have e2:one lsX mEvens (tk 0 [p] 2 out log) [⟨l,k,[]⟩] = (tk 0 [p,(l[k]?).getD 0] 3 out (log ++ [⟨3,0,(l[k]?).getD 0⟩]),[⟨l,k + 1,[]⟩]):=by kernel_rfl
  have g1:=go_on (X:=lsX) (m:=mEvens) (n:=n + 11) (t:=tk 0 [p] 2 out log) (x:=[⟨l,k,[]⟩]) (stat_more rfl rfl rfl hlt)
  rw [e2,hv] at g1
  have e3:(go lsX mEvens (n + 11) (tk 0 [p,v] 3 out (log ++ [⟨3,0,v⟩])) [⟨l,k + 1,[]⟩]).2 = (go lsX mEvens (n + 5) (tk 0 [v,yes (evn v)] 9 out (log ++ [⟨3,0,v⟩])) [⟨l,k + 1,[]⟩]).2:=by kernel_rfl
  have e4:=e1.trans (g1.trans e3)
  cases hb:evn v with
  | true =>
   rw [hb] at e4
   have e5:(go lsX mEvens (n + 5) (tk 0 [v,yes true] 9 out (log ++ [⟨3,0,v⟩])) [⟨l,k + 1,[]⟩]).2 = (go lsX mEvens n (tk 0 [v] 0 (out ++ [v]) ((log ++ [⟨3,0,v⟩]) ++ [⟨1,0,v⟩])) [⟨l,k + 1,[]⟩]).2:=by kernel_rfl
   obtain ⟨t,x,h1,h2,h3⟩:=evens_goes l j (k + 1) n v (out ++ [v]) _ (by omega) (by omega)
   refine ⟨t,x,e4.trans (e5.trans h1),?_,h3⟩
   rw [h2,drop_one hv,List.filter_cons_of_pos hb]
   simp
  | false =>
   rw [hb] at e4
   have e5:(go lsX mEvens (n + 5) (tk 0 [v,yes false] 9 out (log ++ [⟨3,0,v⟩])) [⟨l,k + 1,[]⟩]).2 = (go lsX mEvens (n + 3) (tk 0 [v] 0 out (log ++ [⟨3,0,v⟩])) [⟨l,k + 1,[]⟩]).2:=by kernel_rfl
   obtain ⟨t,x,h1,h2,h3⟩:=evens_goes l j (k + 1) (n + 3) v out _ (by omega) (by omega)
   refine ⟨t,x,e4.trans (e5.trans h1),?_,h3⟩
   rw [h2,drop_one hv,List.filter_cons_of_neg (by rw [hb]; simp)]
set_option maxRecDepth 1000000 in
theorem evens_fits (l:List Int):soloE Xe.mEvens 0 5000 [l] = 0:=by kernel_rfl
theorem evens_asked:Asked Xe.nEvens Xe.mEvens:=⟨Xe.ans_evens,by decide⟩
theorem evens_first (l:List Int):soloR Xe.mEvens 0 5000 [l] = go lsX Xe.mEvens 5000 (tk 0 [0] 0 [] []) [⟨l,0,[]⟩]:=by kernel_rfl
theorem evens_says (l:List Int) (h:l.length ≤ 100):(soloR Xe.mEvens 0 5000 [l]).2.1.out = l.filter evn ∧ (stat lsX Xe.mEvens (soloR Xe.mEvens 0 5000 [l]).2.1 (soloR Xe.mEvens 0 5000 [l]).2.2).1 = 3:=by
 rw [evens_first]
 obtain ⟨t,x,h1,h2,h3⟩:=evens_goes l l.length 0 5000 0 [] [] (by omega) (by omega)
 rw [h1]
 exact ⟨by simpa using h2,h3⟩
def EvAt (l:List Int) (w:World) (k:Nat) (vl:Value) (wr:World):Prop:=k ≤ l.length ∧ Below w.heap.size w wr ∧ wr.ownsRow w.heap.size 2 1 vl ((l.take k).filter evn).length (ints ((l.take k).filter evn))
theorem evens_any (l:List Int) (a:Option Addr) (c:Nat) (w:World) (hw:Hid (In64 w w.heap.size a l)) (hn:l.length ≤ 9223372036854775807) (hT:Hid (Xe.Tabs w)) :
  Calls Tryz.prog 6 #[.slice a l.length c] w fun e w' => e = .returned (.bool true) ∧ Below w.heap.size w w':=by
 obtain ⟨i0,hi,hz0,hz1,hz2⟩:=info_parts info64
 go_enter Tryz.func6,Tryz.ntmps6
 by_cases hl:l.length ≤ 100
 ·have n1:¬ (100:Int) < (l.length:Int):=by omega
  go_wp2
  go_loopw [3,11] (fun vl v wr => ∃ k:Nat,v = .int .i64 k ∧ EvAt l w k vl wr) (fun _ v _ => l.length - (intOf v).toNat)
  case atStart => exact ⟨0,rfl,Nat.zero_le _,Below.refl _ w,⟨rfl,.inl ⟨rfl,rfl⟩⟩⟩
  case round =>
   obtain ⟨k,rfl,hk,hb,hown⟩:=hrel
   have HB:=Sb.hide hb
   have HO:=Sb.hide hown
   have hbz:=hb.size
   clear hb hown
   by_cases hlt:k < l.length
   ·obtain ⟨x,hx⟩:∃ x,l[k]? = some x:=⟨_,List.getElem?_eq_getElem hlt⟩
    obtain ⟨b,off,ha,hbw,hc⟩:=(hw.out.below HB.out) k x hx
    have HX:Hid (l.take (k + 1) = l.take k ++ [x]):=by unfold Hid; rw [List.take_add_one,hx]; rfl
    obtain ⟨ml,hml⟩:∃ m,m = l.length:=⟨_,rfl⟩
    have hfl:((l.take k).filter evn).length ≤ ml:=by
     have:=List.length_filter_le evn (l.take k)
     rw [List.length_take] at this
     omega
    rw [ha,← hml]
    rw [← hml] at hlt hl hn
    have HML:=Sb.hide hml
    have n0:(0:Int) ≤ (k:Int):=by omega
    have n2:(k:Int) < (ml:Int):=by omega
    obtain ⟨os,hos⟩:∃ os,os = (l.take k).filter evn:=⟨_,rfl⟩
    obtain ⟨on,hon⟩:∃ on,on = os.length:=⟨_,rfl⟩
    obtain ⟨oi,hoi⟩:∃ oi,oi = ints os:=⟨_,rfl⟩
    have hfl2:on ≤ ml:=by rw [hon,hos]; exact hfl
    have HRW:Hid (wr.ownsRow w.heap.size 2 1 u3 on oi):=by unfold Hid; rw [hoi,hon,hos]; exact HO.out
    have HOS:=Sb.hide (And.intro hos (And.intro hon hoi))
    clear hml ha hx n1 hos hfl hon hoi
    cases hev:evn x with
    | true =>
     have ht:(x.tmod 2 == 0) = true:=hev
     have HEV:=Sb.hide hev
     have HRW2:Hid ((wr.alloc (.cells #[.int .i64 x] 2)).ownsRow w.heap.size 2 1 u3 on oi):=HRW.out.alloc _
     clear hev
     go_wp2_with (at_builtin; refine wpList_append_where rfl (.tmp 18) (.tmp 20) 22 rfl w.heap.size 2 i0 (.int .i64 0) 1 8 Tryz.underlying22 hi hz0 hz1 hz2 rfl (by decide) u3 on oi rfl HRW2.out ⟨wr.heap.size,0,none⟩ 1 1 [.int .i64 x] rfl rfl (news1 wr _ _) (ones1 rfl) (by decide) (by unfold maxLen; omega) (by omega) (by simp; omega) ?_)
     intro R4 cap4 w4 hown4 hg4 hR4
     have HREL:Hid (EvAt l w (k + 1) (.slice (some ⟨R4,0,none⟩) (on + 1) cap4) w4):=by
      refine ⟨by have:=HML.out; omega,(HB.out.alloc hbz _).grown hg4 (by simp; omega) (fun b hb => (HO.out.lt b hb).1),?_⟩
      rw [HX.out,List.filter_append,List.filter_cons_of_pos HEV.out,List.filter_nil,List.length_append,← HOS.out.1,← HOS.out.2.1,show ints (os ++ [x]) = ints os ++ [.int .i64 x] by simp,← HOS.out.2.2]
      exact hown4
     clear hown4 hg4 hR4
     go_wp2
     go_roundw
     case rel => exact ⟨k + 1,by go_num,HREL.out⟩
     case measure => simp [intOf]; omega
    | false =>
     have ht:(x.tmod 2 == 0) = false:=hev
     have HREL:Hid (EvAt l w (k + 1) u3 wr):=by
      refine ⟨by have:=HML.out; omega,HB.out,?_⟩
      rw [HX.out,List.filter_append,List.filter_cons_of_neg (by rw [hev]; simp),List.filter_nil,List.append_nil]
      exact HO.out
     clear hev
     go_wp2
     go_roundw
     case rel => exact ⟨k + 1,by go_num,HREL.out⟩
     case measure => simp [intOf]; omega
   ·have n3:¬ (k:Int) < (l.length:Int):=by omega
    have ek:k = l.length:=by omega
    subst ek
    have hO:=HO.out
    rw [List.take_length] at hO
    have HV:=Sb.hide (own_reads hO)
    have HA:Hid (Below wr.heap.size wr (wr.alloc (.cells #[.slice a l.length c] 22))):=(Below.refl _ wr).alloc (Nat.le_refl _) _
    have HB2:Hid (Below w.heap.size w (wr.alloc (.cells #[.slice a l.length c] 22))):=HB.out.alloc hbz _
    have HF:=Sb.hide (fd_one (c:=c) hw.out hl HB.out)
    have HT2:=Sb.hide (hT.out.below HB2.out)
    have HV2:=Sb.hide (HV.out.below HA.out)
    have hfl:=List.length_filter_le evn l
    clear hO HA n1 n3
    go_wp2_with fail
    refine (says_any evens_asked [l] (some ⟨wr.heap.size,0,none⟩) 1 (fun _ => a) (fun _ => c) (l.filter evn) u3 _ HT2 HF (evens_fits l) HV2 (evens_says l hl).1 (evens_says l hl).2 (by omega)).mono ?_
    rintro e w5 ⟨rfl,hb5⟩
    have HB5:=Sb.hide (HB2.out.trans (hb5.mono HB2.out.size))
    clear hb5
    go_wp2
    go_ret
    exact ⟨rfl,HB5.out⟩
 ·have n1:(100:Int) < (l.length:Int):=by omega
  go_wp2
  go_ret
  exact ⟨rfl,Below.refl _ w⟩
end Go.Proofs.YtgbnnhnlfgcleaaGreatDoor.Vw

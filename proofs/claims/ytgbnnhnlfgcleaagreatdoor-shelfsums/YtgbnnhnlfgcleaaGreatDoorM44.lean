/- What sums does; the walk of ShelfSums. -/
import Derived.Test.YtgbnnhnlfgcleaaGreatDoorM43
set_option maxRecDepth 100000
set_option maxHeartbeats 1000000
namespace Go.Proofs.YtgbnnhnlfgcleaaGreatDoor.Vw
open Go.RowKit Vf Vm
def sumsF:Int → List Int → List Int
 | _,[] => []
 | s,v :: l => wrap (s + v) :: sumsF (wrap (s + v)) l
def sumsE:Int → List Int → Int
 | s,[] => s
 | s,v :: l => sumsE (wrap (s + v)) l
theorem sumsF_app (x:Int):∀ (l:List Int) (s:Int),sumsF s (l ++ [x]) = sumsF s l ++ [wrap (sumsE s l + x)]
 | [],_ => rfl
 | v :: l,s => by simp [sumsF,sumsE,sumsF_app x l]
theorem sumsE_app (x:Int):∀ (l:List Int) (s:Int),sumsE s (l ++ [x]) = wrap (sumsE s l + x)
 | [],_ => rfl
 | v :: l,s => by simp [sumsE,sumsE_app x l]
theorem sumsF_len:∀ (l:List Int) (s:Int),(sumsF s l).length = l.length
 | [],_ => rfl
 | v :: l,s => by simp [sumsF,sumsF_len l]
open Xe in
theorem sums_goes (l:List Int):∀ (j k n:Nat) (s:Int) (out:List Int) (log:List Ev),l.length = k + j → 9 * j + 3 ≤ n →
  ∃ t x,(go lsX mSums n (tk 0 [s] 2 out log) [⟨l,k,[]⟩]).2 = (t,x) ∧ t.out = out ++ sumsF s (l.drop k) ∧ (stat lsX mSums t x).1 = 3
 | 0,k,n,s,out,log,hk,hn => by
  obtain ⟨n,rfl⟩:∃ n',n = n' + 3:=⟨n - 3,by omega⟩
  have hk:k = l.length:=by omega
  subst hk
  refine ⟨tk 0 [s,s] 5 out log,[⟨l,l.length,[]⟩],?_,by simp [sumsF],stat_none rfl rfl rfl⟩
  have e1:(go lsX mSums (n + 3) (tk 0 [s] 2 out log) [⟨l,l.length,[]⟩]).2 = (go lsX mSums n (tk 0 [s,s] 5 out log) [⟨l,l.length,[]⟩]).2:=by kernel_rfl
  rw [e1,go_halt (by rw [stat_none rfl rfl rfl]; decide)]
 | j + 1,k,n,s,out,log,hk,hn => by
  obtain ⟨n,rfl⟩:∃ n',n = n' + 9:=⟨n - 9,by omega⟩
  have hlt:k < l.length:=by omega
  obtain ⟨v,hv⟩:∃ v,l[k]? = some v:=⟨_,List.getElem?_eq_getElem hlt⟩
  have e1:(go lsX mSums (n + 9) (tk 0 [s] 2 out log) [⟨l,k,[]⟩]).2 = (go lsX mSums (n + 6) (tk 0 [s,s] 5 out log) [⟨l,k,[]⟩]).2:=by kernel_rfl
  have e2:one lsX mSums (tk 0 [s,s] 5 out log) [⟨l,k,[]⟩] = (tk 0 [s,s,(l[k]?).getD 0] 6 out (log ++ [⟨3,0,(l[k]?).getD 0⟩]),[⟨l,k + 1,[]⟩]):=by kernel_rfl
  have e4:one lsX mSums (tk 0 [s,s,v] 6 out (log ++ [⟨3,0,v⟩])) [⟨l,k + 1,[]⟩] = (Tk.reckon (tk 0 [s,s,v] 7 out (log ++ [⟨3,0,v⟩])) 8,[⟨l,k + 1,[]⟩]):=by kernel_rfl
  have e5:Tk.reckon (tk 0 [s,s,v] 7 out (log ++ [⟨3,0,v⟩])) 8 = tk 0 [s,wrap (s + v)] 7 out (log ++ [⟨3,0,v⟩]):=(reckon_safe (by decide) (by decide)).trans (by kernel_rfl)
  have e3:(go lsX mSums (n + 4) (tk 0 [s,wrap (s + v)] 7 out (log ++ [⟨3,0,v⟩])) [⟨l,k + 1,[]⟩]).2 = (go lsX mSums n (tk 0 [wrap (s + v)] 2 (out ++ [wrap (s + v)]) ((log ++ [⟨3,0,v⟩]) ++ [⟨1,0,wrap (s + v)⟩])) [⟨l,k + 1,[]⟩]).2:=by kernel_rfl
  obtain ⟨t,x,h1,h2,h3⟩:=sums_goes l j (k + 1) n (wrap (s + v)) (out ++ [wrap (s + v)]) _ (by omega) (by omega)
  refine ⟨t,x,?_,?_,h3⟩
  ·have g1:=go_on (X:=lsX) (m:=mSums) (n:=n + 5) (t:=tk 0 [s,s] 5 out log) (x:=[⟨l,k,[]⟩]) (stat_more rfl rfl rfl hlt)
   rw [e2,hv] at g1
   have g2:=go_on (X:=lsX) (m:=mSums) (n:=n + 4) (t:=tk 0 [s,s,v] 6 out (log ++ [⟨3,0,v⟩])) (x:=[⟨l,k + 1,[]⟩]) (by kernel_rfl)
   rw [e4,e5] at g2
   exact e1.trans (g1.trans (g2.trans (e3.trans h1)))
  ·rw [h2,drop_one hv]
   simp [sumsF]
set_option maxRecDepth 1000000 in
theorem sums_fits (l:List Int):soloE Xe.mSums 0 5000 [l] = 0:=by kernel_rfl
theorem sums_asked:Asked Xe.nSums Xe.mSums:=⟨Xe.ans_sums,by decide⟩
theorem sums_start (n:Nat) (x:List Lst):(go lsX Xe.mSums (n + 2) (newTk (unit Xe.mSums 0) 0) x).2 = (go lsX Xe.mSums n (tk 0 [0] 2 [] []) x).2:=by kernel_rfl
theorem sums_first (l:List Int):(soloR Xe.mSums 0 5000 [l]).2 = (go lsX Xe.mSums 4998 (tk 0 [0] 2 [] []) [⟨l,0,[]⟩]).2:=by
 have h:soloR Xe.mSums 0 5000 [l] = go lsX Xe.mSums 5000 (newTk (unit Xe.mSums 0) 0) [⟨l,0,[]⟩]:=by kernel_rfl
 rw [h]
 exact sums_start 4998 _
theorem sums_says (l:List Int) (h:l.length ≤ 100):(soloR Xe.mSums 0 5000 [l]).2.1.out = sumsF 0 l ∧ (stat lsX Xe.mSums (soloR Xe.mSums 0 5000 [l]).2.1 (soloR Xe.mSums 0 5000 [l]).2.2).1 = 3:=by
 rw [sums_first]
 obtain ⟨t,x,h1,h2,h3⟩:=sums_goes l l.length 0 4998 0 [] [] (by omega) (by omega)
 rw [h1]
 exact ⟨by simpa using h2,h3⟩
def SmAt (l:List Int) (w:World) (k:Nat) (vl:Value) (wr:World):Prop:=k ≤ l.length ∧ Below w.heap.size w wr ∧ wr.ownsRow w.heap.size 2 1 vl k (ints (sumsF 0 (l.take k)))
theorem sums_any (l:List Int) (a:Option Addr) (c:Nat) (w:World) (hw:Hid (In64 w w.heap.size a l)) (hn:l.length ≤ 9223372036854775807) (hT:Hid (Xe.Tabs w)) :
  Calls Tryz.prog 4 #[.slice a l.length c] w fun e w' => e = .returned (.bool true) ∧ Below w.heap.size w w':=by
 obtain ⟨i0,hi,hz0,hz1,hz2⟩:=info_parts info64
 go_enter Tryz.func4,Tryz.ntmps4
 by_cases hl:l.length ≤ 100
 ·have n1:¬ (100:Int) < (l.length:Int):=by omega
  go_wp2
  go_loopw [3,4,12] (fun vl vs v wr => ∃ k:Nat,v = .int .i64 k ∧ vs = .int .i64 (sumsE 0 (l.take k)) ∧ SmAt l w k vl wr) (fun _ _ v _ => l.length - (intOf v).toNat)
  case atStart => exact ⟨0,rfl,rfl,Nat.zero_le _,Below.refl _ w,⟨rfl,.inl ⟨rfl,rfl⟩⟩⟩
  case round =>
   obtain ⟨k,rfl,rfl,hk,hb,hown⟩:=hrel
   have HB:=Sb.hide hb
   have HO:=Sb.hide hown
   have hbz:=hb.size
   clear hb hown
   by_cases hlt:k < l.length
   ·obtain ⟨x,hx⟩:∃ x,l[k]? = some x:=⟨_,List.getElem?_eq_getElem hlt⟩
    obtain ⟨b,off,ha,hbw,hc⟩:=(hw.out.below HB.out) k x hx
    obtain ⟨s,hs⟩:∃ s,s = sumsE 0 (l.take k):=⟨_,rfl⟩
    have HX:Hid (sumsF 0 (l.take (k + 1)) = sumsF 0 (l.take k) ++ [wrap64 (s + x)] ∧ sumsE 0 (l.take (k + 1)) = wrap64 (s + x)):=by
     unfold Hid
     rw [List.take_add_one,hx,hs]
     exact ⟨sumsF_app x _ 0,sumsE_app x _ 0⟩
    rw [← hs]
    obtain ⟨ml,hml⟩:∃ m,m = l.length:=⟨_,rfl⟩
    rw [ha,← hml]
    rw [← hml] at hlt hl hn
    have HML:=Sb.hide hml
    have n0:(0:Int) ≤ (k:Int):=by omega
    have n2:(k:Int) < (ml:Int):=by omega
    obtain ⟨os,hos⟩:∃ os,os = ints (sumsF 0 (l.take k)):=⟨_,rfl⟩
    have HRW:Hid ((wr.alloc (.cells #[.int .i64 (wrap64 (s + x))] 2)).ownsRow w.heap.size 2 1 u3 k os):=by unfold Hid; rw [hos]; exact HO.out.alloc _
    have HOS:=Sb.hide hos
    clear hml ha hx n1 hos hs
    go_wp2_with (at_builtin; refine wpList_append_where rfl (.tmp 19) (.tmp 21) 22 rfl w.heap.size 2 i0 (.int .i64 0) 1 8 Tryz.underlying22 hi hz0 hz1 hz2 rfl (by decide) u3 k os rfl HRW.out ⟨wr.heap.size,0,none⟩ 1 1 [.int .i64 (wrap64 (s + x))] rfl rfl (news1 wr _ _) (ones1 rfl) (by decide) (by unfold maxLen; omega) (by omega) (by simp; omega) ?_)
    intro R4 cap4 w4 hown4 hg4 hR4
    have HREL:Hid (SmAt l w (k + 1) (.slice (some ⟨R4,0,none⟩) (k + 1) cap4) w4):=by
     refine ⟨by have:=HML.out; omega,(HB.out.alloc hbz _).grown hg4 (by simp; omega) (fun b hb => (HO.out.lt b hb).1),?_⟩
     rw [HX.out.1,show ints (sumsF 0 (l.take k) ++ [wrap64 (s + x)]) = ints (sumsF 0 (l.take k)) ++ [.int .i64 (wrap64 (s + x))] by simp,← HOS.out]
     exact hown4
    clear hown4 hg4 hR4
    go_wp2
    go_roundw
    case rel => exact ⟨k + 1,by go_num,by rw [HX.out.2],HREL.out⟩
    case measure => simp [intOf]; omega
   ·have n3:¬ (k:Int) < (l.length:Int):=by omega
    have ek:k = l.length:=by omega
    subst ek
    have hO:=HO.out
    rw [List.take_length,← sumsF_len l 0] at hO
    have HV:=Sb.hide (own_reads hO)
    have HA:Hid (Below wr.heap.size wr (wr.alloc (.cells #[.slice a l.length c] 22))):=(Below.refl _ wr).alloc (Nat.le_refl _) _
    have HB2:Hid (Below w.heap.size w (wr.alloc (.cells #[.slice a l.length c] 22))):=HB.out.alloc hbz _
    have HF:=Sb.hide (fd_one (c:=c) hw.out hl HB.out)
    have HT2:=Sb.hide (hT.out.below HB2.out)
    have HV2:=Sb.hide (HV.out.below HA.out)
    clear hO HA n1 n3
    go_wp2_with fail
    refine (says_any sums_asked [l] (some ⟨wr.heap.size,0,none⟩) 1 (fun _ => a) (fun _ => c) (sumsF 0 l) u3 _ HT2 HF (sums_fits l) HV2 (sums_says l hl).1 (sums_says l hl).2 (by rw [sumsF_len]; omega)).mono ?_
    rintro e w5 ⟨rfl,hb5⟩
    have HB5:=Sb.hide (HB2.out.trans (hb5.mono HB2.out.size))
    clear hb5
    go_wp2
    go_ret
    exact ⟨rfl,HB5.out⟩
 ·have n1:(100:Int) < (l.length:Int):=by omega
  go_wp2
  go_ret
  exact ⟨rfl,Below.refl _ w⟩
end Go.Proofs.YtgbnnhnlfgcleaaGreatDoor.Vw

/- What greatest does,plainly. -/
import Derived.Test.YthffafaoobpedaaGreatDoorM43
import Derived.Test.YthffafaoobpedaaGreatDoorM44
import Derived.Test.YthffafaoobpedaaGreatDoorM45
set_option maxRecDepth 100000
set_option maxHeartbeats 1000000
namespace Go.Proofs.YthffafaoobpedaaGreatDoor.Vw
open Go.RowKit Vf Vm
def gmx (m v:Int):Int:=if decide (m < v) = true then v else m
def gx:List Int → Int
 | [] => 0
 | x :: r => r.foldl gmx x
theorem gx_app {p:List Int} (v:Int) (h:p ≠ []):gx (p ++ [v]) = gmx (gx p) v:=by
 cases p with
 | nil => exact absurd rfl h
 | cons x r => simp [gx,List.foldl_append]
def gl (l:List Int) (n:Nat):List Int:=(List.range n).map fun i => gx (l.take (i + 1))
theorem gl_succ (l:List Int) (n:Nat):gl l (n + 1) = gl l n ++ [gx (l.take (n + 1))]:=by
 unfold gl
 rw [List.range_succ,List.map_append]
 rfl
theorem gl_len (l:List Int) (n:Nat):(gl l n).length = n:=by simp [gl]
open Xe in
theorem greatest_out (l:List Int) (m:Int) (k:Nat) (o:List Int):Goes mGreatest 5 (cf 1 [m] 2 o [⟨l,k,[]⟩]) (cf 1 [m,m] 7 (o ++ [m]) [⟨l,k,[]⟩]):=by
 have h1:Goes mGreatest 5 ⟨[⟨[m],[⟨1,2,0⟩],2,none⟩],0,o,[⟨l,k,[]⟩]⟩ ⟨[⟨[m,m],[⟨1,7,0⟩],2,none⟩],0,o ++ [m],[⟨l,k,[]⟩]⟩:=.run' 5 [⟨1,0,m⟩] fun _ _ => by kernel_rfl
 exact h1
open Xe in
theorem greatest_next (l:List Int) (m v:Int) (k:Nat) (o:List Int) (hv:l[k]? = some v) (hlt:k < l.length):Goes mGreatest 12 (cf 1 [m,m] 7 o [⟨l,k,[]⟩]) (cf 1 [gmx m v] 2 o [⟨l,k + 1,[]⟩]):=by
 have h1:Goes mGreatest 1 ⟨[⟨[m,m],[⟨1,7,0⟩],2,none⟩],0,o,[⟨l,k,[]⟩]⟩ ⟨[⟨[m,m,v],[⟨1,8,0⟩],2,none⟩],0,o,[⟨l,k + 1,[]⟩]⟩:=.recv (fun v => ⟨[⟨[m,m,v],[⟨1,8,0⟩],2,none⟩],0,o,[⟨l,k + 1,[]⟩]⟩) hv (fun _ => stat_more rfl rfl rfl hlt) (q:=0) (fun _ => by kernel_rfl)
 have h2:Goes mGreatest 3 ⟨[⟨[m,m,v],[⟨1,8,0⟩],2,none⟩],0,o,[⟨l,k + 1,[]⟩]⟩ ⟨[⟨[m,m,v,m,v],[⟨0,2,1⟩,⟨1,9,0⟩],2,none⟩],0,o,[⟨l,k + 1,[]⟩]⟩:=.run 3 fun _ _ => by kernel_rfl
 have h3:=h1.trans h2
 have h4:Goes mGreatest 1 ⟨[⟨[m,m,v,m,v],[⟨0,2,1⟩,⟨1,9,0⟩],2,none⟩],0,o,[⟨l,k + 1,[]⟩]⟩ ⟨[⟨[m,m,v,yes (decide (m < v))],[⟨0,3,1⟩,⟨1,9,0⟩],2,none⟩],0,o,[⟨l,k + 1,[]⟩]⟩:=.reck 15 ⟨[⟨[m,m,v,m,v],[⟨0,3,1⟩,⟨1,9,0⟩],2,none⟩],0,o,[⟨l,k + 1,[]⟩]⟩ (by decide) (by decide) (fun _ => by kernel_rfl) (fun _ => by kernel_rfl) (fun _ => by kernel_rfl)
 have h5:=h3.trans h4
 unfold gmx
 cases hb:decide (m < v) with
 | true =>
  rw [hb] at h5
  have k1:Goes mGreatest 5 ⟨[⟨[m,m,v,yes true],[⟨0,3,1⟩,⟨1,9,0⟩],2,none⟩],0,o,[⟨l,k + 1,[]⟩]⟩ ⟨[⟨[v],[⟨1,2,0⟩],2,none⟩],0,o,[⟨l,k + 1,[]⟩]⟩:=.run 5 fun _ _ => by kernel_rfl
  rw [if_pos rfl]
  exact (h5.trans k1).mono (by decide)
 | false =>
  rw [hb] at h5
  have k1:Goes mGreatest 5 ⟨[⟨[m,m,v,yes false],[⟨0,3,1⟩,⟨1,9,0⟩],2,none⟩],0,o,[⟨l,k + 1,[]⟩]⟩ ⟨[⟨[m],[⟨1,2,0⟩],2,none⟩],0,o,[⟨l,k + 1,[]⟩]⟩:=.run 5 fun _ _ => by kernel_rfl
  rw [if_neg (by simp)]
  exact (h5.trans k1).mono (by decide)
theorem greatest_all (l:List Int):∀ (j k:Nat),l.length = k + 1 + j →
  ∃ m,Goes Xe.mGreatest (17 * j + 5) (cf 1 [gx (l.take (k + 1))] 2 (gl l k) [⟨l,k + 1,[]⟩]) (cf 1 [m,m] 7 (gl l l.length) [⟨l,l.length,[]⟩])
 | 0,k,hk => by
  have e:l.length = k + 1:=by omega
  have h1:=greatest_out l (gx (l.take (k + 1))) (k + 1) (gl l k)
  rw [← gl_succ,← e] at h1
  rw [← e]
  exact ⟨_,h1⟩
 | j + 1,k,hk => by
  have hlt:k + 1 < l.length:=by omega
  obtain ⟨v,hv⟩:∃ v,l[k + 1]? = some v:=⟨_,List.getElem?_eq_getElem hlt⟩
  have h1:=greatest_out l (gx (l.take (k + 1))) (k + 1) (gl l k)
  rw [← gl_succ] at h1
  have h2:=greatest_next l (gx (l.take (k + 1))) v (k + 1) (gl l (k + 1)) hv hlt
  have e:gx (l.take (k + 1 + 1)) = gmx (gx (l.take (k + 1))) v:=by
   rw [List.take_add_one,hv]
   refine gx_app v fun h => ?_
   have h3:(l.take (k + 1)).length = 0:=by rw [h]; rfl
   rw [List.length_take] at h3
   omega
  rw [← e] at h2
  obtain ⟨m,h3⟩:=greatest_all l j (k + 1) (by omega)
  exact ⟨m,((h1.trans h2).trans h3).mono (by omega)⟩
set_option maxRecDepth 1000000 in
theorem greatest_fits (l:List Int):soloE Xe.mGreatest 0 5000 [l] = 0:=by kernel_rfl
theorem greatest_asked:Asked Xe.nGreatest Xe.mGreatest:=⟨⟨_,Xe.fn2_ok,Xe.ans_greatest⟩,by decide⟩
theorem greatest_first (l:List Int):soloR Xe.mGreatest 0 5000 [l] = go lsX Xe.mGreatest 5000 ((cf 1 [0] 0 [] [⟨l,0,[]⟩]).tk []) [⟨l,0,[]⟩]:=by kernel_rfl
theorem greatest_says (l:List Int) (h:l.length ≤ 60):(soloR Xe.mGreatest 0 5000 [l]).2.1.out = gl l l.length ∧ (stat lsX Xe.mGreatest (soloR Xe.mGreatest 0 5000 [l]).2.1 (soloR Xe.mGreatest 0 5000 [l]).2.2).1 = 3:=by
 cases l with
 | nil => exact (Goes.refl Xe.mGreatest (cf 1 [0] 0 [] [⟨[],0,[]⟩])).says (fun _ => stat_none (l:=[]) rfl rfl rfl) (by omega) (greatest_first []) rfl
 | cons x r =>
  have h1:Goes Xe.mGreatest 1 (cf 1 [0] 0 [] [⟨x :: r,0,[]⟩]) (cf 1 [0,x] 1 [] [⟨x :: r,1,[]⟩]):=.recv (l:=x :: r) (k:=0) (fun v => cf 1 [0,v] 1 [] [⟨x :: r,1,[]⟩]) rfl (fun _ => stat_more rfl rfl rfl (by simp)) (q:=0) (fun _ => by kernel_rfl)
  have h2:Goes Xe.mGreatest 1 (cf 1 [0,x] 1 [] [⟨x :: r,1,[]⟩]) (cf 1 [x] 2 [] [⟨x :: r,1,[]⟩]):=.run 1 fun _ _ => by kernel_rfl
  obtain ⟨m,h3⟩:=greatest_all (x :: r) r.length 0 (by simp; omega)
  exact ((h1.trans h2).trans h3).says (fun _ => stat_none rfl rfl rfl) (by simp at h; omega) (greatest_first (x :: r)) rfl
def GrAt (l:List Int) (w:World) (k:Nat) (vl:Value) (wr:World):Prop:=Below w.heap.size w wr ∧ wr.ownsRow w.heap.size 2 1 vl k (ints (gl l k))
theorem gx_all (x:Int) (r:List Int):(x :: r).foldl gmx x = gx (x :: r):=by
 show r.foldl gmx (gmx x x) = r.foldl gmx x
 have:gmx x x = x:=by unfold gmx; split <;> rfl
 rw [this]
theorem gx_first {l:List Int} {x0:Int} (h:l[0]? = some x0) (k:Nat):(l.take (k + 1)).foldl gmx x0 = gx (l.take (k + 1)):=by
 cases l with
 | nil => cases h
 | cons x r =>
  have e:x = x0:=by simpa using h
  subst e
  exact gx_all x (r.take k)
theorem greatest_any (l:List Int) (a:Option Addr) (c:Nat) (w:World) (hw:Hid (In64 w w.heap.size a l)) (hn:l.length ≤ 9223372036854775807) (hlc:l.length ≤ c) (hT:Hid (Xe.Tabs w)) :
  Calls Tryz.prog 5 #[.slice a l.length c] w fun e w' => e = .returned (.bool true) ∧ Below w.heap.size w w':=by
 obtain ⟨i0,hi,hz0,hz1,hz2⟩:=info_parts info64
 go_enter Tryz.func5,Tryz.ntmps5
 by_cases hl:l.length ≤ 60
 ·have n1:¬ (60:Int) < (l.length:Int):=by omega
  go_wp2
  go_loopw [3,13] (fun vl v wr => ∃ k:Nat,k ≤ l.length ∧ v = .int .i64 k ∧ GrAt l w k vl wr) (fun _ v _ => l.length - (intOf v).toNat)
  case atStart => exact ⟨0,Nat.zero_le _,rfl,Below.refl _ w,⟨rfl,.inl ⟨rfl,rfl⟩⟩⟩
  case round =>
   obtain ⟨k,hk,rfl,hb,hown⟩:=hrel
   have HB:=Sb.hide hb
   have HO:=Sb.hide hown
   have hbz:=hb.size
   clear hb hown
   by_cases hlt:k < l.length
   ·obtain ⟨x0,hx0⟩:∃ x,l[0]? = some x:=⟨_,List.getElem?_eq_getElem (by omega)⟩
    obtain ⟨b,off,ha,hbw,hc⟩:=(hw.out.below HB.out) 0 x0 hx0
    have HIN:Hid (∀ (j:Nat) y,l[j]? = some y → wr.cell? ⟨b,off + j,none⟩ = some (.int .i64 y)):=fun j y hy => by
     obtain ⟨b2,off2,ha2,_,hc2⟩:=(hw.out.below HB.out) j y hy
     rw [ha] at ha2
     cases ha2
     exact hc2
    have HX0:=Sb.hide hx0
    have hc0:wr.cell? ⟨b,off,none⟩ = some (.int .i64 x0):=hc
    obtain ⟨ml,hml⟩:∃ m,m = l.length:=⟨_,rfl⟩
    rw [ha,← hml]
    rw [← hml] at hlt hl hn hk hlc
    have HML:=Sb.hide hml
    have n0:(0:Int) ≤ (k:Int):=by omega
    have n2:(k:Int) < (ml:Int):=by omega
    have n3:(0:Int) < (ml:Int):=by omega
    have n4:(k:Int) + 1 ≤ (c:Int):=by omega
    have n5:(0:Int) ≤ (k:Int) + 1:=by omega
    have hwr:IntKind.i64.wrap ((k:Int) + 1) = (k:Int) + 1:=IntWalk.i64_in _ ⟨by omega,by omega⟩
    have htn:((k:Int) + 1).toNat = k + 1:=by omega
    obtain ⟨os,hos⟩:∃ os,os = ints (gl l k):=⟨_,rfl⟩
    have HO1:Hid (wr.ownsRow w.heap.size 2 1 u3 k os):=by unfold Hid; rw [hos]; exact HO.out
    have HOS:=Sb.hide hos
    clear hml ha hx0 n1 hos HO hc
    go_wp2
    obtain ⟨W1,hW1⟩:∃ W1,W1 = wr:=⟨_,rfl⟩
    rw [← hW1] at HB HO1 hbz hc0 HIN ⊢
    clear hW1
    go_loopw [5,24] (fun vm vj wr => ∃ (j:Nat) (m:Int),j ≤ k + 1 ∧ vm = .int .i64 m ∧ vj = .int .i64 j ∧ Hid (m = (l.take j).foldl gmx x0) ∧ wr = W1) (fun _ v _ => k + 1 - (intOf v).toNat)
    case atStart => exact ⟨0,x0,Nat.zero_le _,rfl,rfl,rfl,rfl⟩
    case round =>
     obtain ⟨j,m,hj,rfl,rfl,HM,rfl⟩:=hrel
     by_cases hjl:j < k + 1
     ·obtain ⟨y,hy⟩:∃ y,l[j]? = some y:=⟨_,List.getElem?_eq_getElem (by have:=HML.out; omega)⟩
      have hcy:=HIN.out j y hy
      have HY:Hid ((l.take (j + 1)).foldl gmx x0 = gmx m y):=by
       unfold Hid
       rw [List.take_add_one,hy,List.foldl_append,← HM.out]
       rfl
      have m0:(0:Int) ≤ (j:Int):=by omega
      have m1:(j:Int) < (k:Int) + 1:=by omega
      clear hy
      unfold gmx at HY
      by_cases hmy:m < y
      ·rw [if_pos (decide_eq_true hmy)] at HY
       have HNX:Hid (y = (l.take (j + 1)).foldl gmx x0):=HY.out.symm
       clear HY
       go_wp2
       go_roundw
       case rel => exact ⟨j + 1,y,by omega,rfl,by go_num,HNX,trivial⟩
       case measure => simp [intOf]; omega
      ·rw [if_neg (by rw [decide_eq_false hmy]; simp)] at HY
       have HNX:Hid (m = (l.take (j + 1)).foldl gmx x0):=HY.out.symm
       clear HY
       go_wp2
       go_roundw
       case rel => exact ⟨j + 1,m,by omega,rfl,by go_num,HNX,trivial⟩
       case measure => simp [intOf]; omega
     ·have ej:j = k + 1:=by omega
      subst ej
      have m1:¬ ((k + 1:Nat):Int) < (k:Int) + 1:=by omega
      have HG:Hid (m = gx (l.take (k + 1))):=HM.out.trans (gx_first HX0.out k)
      have HRW:Hid ((wr.alloc (.cells #[.int .i64 m] 2)).ownsRow w.heap.size 2 1 u3 k os):=HO1.out.alloc _
      go_wp2_with (at_builtin; refine wpList_append_where rfl (.tmp 33) (.tmp 35) 22 rfl w.heap.size 2 i0 (.int .i64 0) 1 8 Tryz.underlying22 hi hz0 hz1 hz2 rfl (by decide) u3 k os rfl HRW.out ⟨wr.heap.size,0,none⟩ 1 1 [.int .i64 m] rfl rfl (news1 wr _ _) (ones1 rfl) (by decide) (by unfold maxLen; omega) (by omega) (by simp; omega) ?_)
      intro R4 cap4 w4 hown4 hg4 hR4
      have HREL:Hid (GrAt l w (k + 1) (.slice (some ⟨R4,0,none⟩) (k + 1) cap4) w4):=by
       refine ⟨(HB.out.alloc hbz _).grown hg4 (by simp; omega) (fun b hb => (HO1.out.lt b hb).1),?_⟩
       rw [gl_succ,← HG.out,show ints (gl l k ++ [m]) = ints (gl l k) ++ [.int .i64 m] by simp,← HOS.out]
       exact hown4
      clear hown4 hg4 hR4
      go_wp2
      go_roundw
      case rel => exact ⟨k + 1,by have:=HML.out; omega,by go_num,HREL.out⟩
      case measure => simp [intOf]; omega
   ·have n3:¬ (k:Int) < (l.length:Int):=by omega
    have ek:k = l.length:=by omega
    subst ek
    have hO:wr.ownsRow w.heap.size 2 1 u3 (gl l l.length).length (ints (gl l l.length)):=by rw [gl_len]; exact HO.out
    have HV:=Sb.hide (own_reads hO)
    have HA:Hid (Below wr.heap.size wr (wr.alloc (.cells #[.slice a l.length c] 22))):=(Below.refl _ wr).alloc (Nat.le_refl _) _
    have HB2:Hid (Below w.heap.size w (wr.alloc (.cells #[.slice a l.length c] 22))):=HB.out.alloc hbz _
    have HF:=Sb.hide (fd_one (c:=c) hw.out (by omega) HB.out)
    have HT2:=Sb.hide (hT.out.below HB2.out)
    have HV2:=Sb.hide (HV.out.below HA.out)
    clear hO HA n3
    go_wp2_with fail
    refine (says_any greatest_asked [l] (some ⟨wr.heap.size,0,none⟩) 1 (fun _ => a) (fun _ => c) (gl l l.length) u3 _ HT2 HF (greatest_fits l) HV2 (greatest_says l hl).1 (greatest_says l hl).2 (by rw [gl_len]; omega)).mono ?_
    rintro e w5 ⟨rfl,hb5⟩
    have HB5:=Sb.hide (HB2.out.trans (hb5.mono HB2.out.size))
    clear hb5
    go_wp2
    go_ret
    exact ⟨rfl,HB5.out⟩
 ·have n1:(60:Int) < (l.length:Int):=by omega
  go_wp2
  go_ret
  exact ⟨rfl,Below.refl _ w⟩
end Go.Proofs.YthffafaoobpedaaGreatDoor.Vw

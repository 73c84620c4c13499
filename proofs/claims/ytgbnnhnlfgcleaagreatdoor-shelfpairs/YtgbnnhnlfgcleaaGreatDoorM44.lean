/- What pairs does; the walk of ShelfPairs. -/
import Derived.Test.YtgbnnhnlfgcleaaGreatDoorM43
set_option maxRecDepth 100000
set_option maxHeartbeats 1000000
namespace Go.Proofs.YtgbnnhnlfgcleaaGreatDoor.Vw
open Go.RowKit Vf Vm
def prs:List Int → List Int
 | a :: b :: l => wrap (a - b) :: prs l
 | _ => []
theorem prs_app (x y:Int):∀ (k:Nat) (p:List Int),p.length = 2 * k → prs (p ++ [x,y]) = prs p ++ [wrap (x - y)] ∧ prs (p ++ [x]) = prs p ∧ (prs p).length = k
 | 0,p,h => by
  have:p = []:=List.eq_nil_of_length_eq_zero (by omega)
  subst this
  exact ⟨rfl,rfl,rfl⟩
 | k + 1,[],h => by simp at h
 | k + 1,[a],h => by simp at h; omega
 | k + 1,a :: b :: p,h => by
  obtain ⟨h1,h2,h3⟩:=prs_app x y k p (by simp at h; omega)
  refine ⟨?_,?_,by simp [prs,h3]⟩
  ·show wrap (a - b) :: prs (p ++ [x,y]) = _
   rw [h1]; rfl
  ·show wrap (a - b) :: prs (p ++ [x]) = _
   rw [h2]; rfl
open Xe in
theorem pairs_goes (l:List Int):∀ (j k n:Nat) (out:List Int) (log:List Ev),l.length = k + j → 7 * j + 3 ≤ n →
  ∃ t x,(go lsX mPairs n (tk 0 [] 0 out log) [⟨l,k,[]⟩]).2 = (t,x) ∧ t.out = out ++ prs (l.drop k) ∧ (stat lsX mPairs t x).1 = 3
 | 0,k,n,out,log,hk,hn => by
  obtain ⟨n,rfl⟩:∃ n',n = n' + 2:=⟨n - 2,by omega⟩
  have hk:k = l.length:=by omega
  subst hk
  refine ⟨tk 0 [] 2 out log,[⟨l,l.length,[]⟩],?_,by simp [prs],stat_none rfl rfl rfl⟩
  have e1:(go lsX mPairs (n + 2) (tk 0 [] 0 out log) [⟨l,l.length,[]⟩]).2 = (go lsX mPairs n (tk 0 [] 2 out log) [⟨l,l.length,[]⟩]).2:=by kernel_rfl
  rw [e1,go_halt (by rw [stat_none rfl rfl rfl]; decide)]
 | 1,k,n,out,log,hk,hn => by
  obtain ⟨n,rfl⟩:∃ n',n = n' + 3:=⟨n - 3,by omega⟩
  have hlt:k < l.length:=by omega
  obtain ⟨v,hv⟩:∃ v,l[k]? = some v:=⟨_,List.getElem?_eq_getElem hlt⟩
  have e1:(go lsX mPairs (n + 3) (tk 0 [] 0 out log) [⟨l,k,[]⟩]).2 = (go lsX mPairs (n + 1) (tk 0 [] 2 out log) [⟨l,k,[]⟩]).2:=by kernel_rfl
  have e2:one lsX mPairs (tk 0 [] 2 out log) [⟨l,k,[]⟩] = (tk 0 [(l[k]?).getD 0] 3 out (log ++ [⟨3,0,(l[k]?).getD 0⟩]),[⟨l,k + 1,[]⟩]):=by kernel_rfl
  have g1:=go_on (X:=lsX) (m:=mPairs) (n:=n) (t:=tk 0 [] 2 out log) (x:=[⟨l,k,[]⟩]) (stat_more rfl rfl rfl hlt)
  rw [e2,hv] at g1
  have hk1:k + 1 = l.length:=by omega
  rw [hk1] at g1
  refine ⟨tk 0 [v] 3 out (log ++ [⟨3,0,v⟩]),[⟨l,l.length,[]⟩],e1.trans (g1.trans (go_halt (by rw [stat_none rfl rfl rfl]; decide))),?_,stat_none rfl rfl rfl⟩
  have hd:l.drop (k + 1) = []:=List.drop_eq_nil_of_le (by omega)
  rw [drop_one hv,hd]
  simp [prs]
 | j + 2,k,n,out,log,hk,hn => by
  obtain ⟨n,rfl⟩:∃ n',n = n' + 7:=⟨n - 7,by omega⟩
  have hlt:k < l.length:=by omega
  have hlt2:k + 1 < l.length:=by omega
  obtain ⟨v,hv⟩:∃ v,l[k]? = some v:=⟨_,List.getElem?_eq_getElem hlt⟩
  obtain ⟨u,hu⟩:∃ u,l[k + 1]? = some u:=⟨_,List.getElem?_eq_getElem hlt2⟩
  have e1:(go lsX mPairs (n + 7) (tk 0 [] 0 out log) [⟨l,k,[]⟩]).2 = (go lsX mPairs (n + 5) (tk 0 [] 2 out log) [⟨l,k,[]⟩]).2:=by kernel_rfl
  have e2:one lsX mPairs (tk 0 [] 2 out log) [⟨l,k,[]⟩] = (tk 0 [(l[k]?).getD 0] 3 out (log ++ [⟨3,0,(l[k]?).getD 0⟩]),[⟨l,k + 1,[]⟩]):=by kernel_rfl
  have g1:=go_on (X:=lsX) (m:=mPairs) (n:=n + 4) (t:=tk 0 [] 2 out log) (x:=[⟨l,k,[]⟩]) (stat_more rfl rfl rfl hlt)
  rw [e2,hv] at g1
  obtain ⟨lg,hlg⟩:∃ lg,lg = log ++ [⟨3,0,v⟩]:=⟨_,rfl⟩
  have e3:one lsX mPairs (tk 0 [v] 3 out lg) [⟨l,k + 1,[]⟩] = (tk 0 [v,(l[k + 1]?).getD 0] 4 out (lg ++ [⟨3,0,(l[k + 1]?).getD 0⟩]),[⟨l,k + 2,[]⟩]):=by kernel_rfl
  have g2:=go_on (X:=lsX) (m:=mPairs) (n:=n + 3) (t:=tk 0 [v] 3 out lg) (x:=[⟨l,k + 1,[]⟩]) (stat_more rfl rfl rfl hlt2)
  rw [e3,hu,hlg] at g2
  obtain ⟨lh,hlh⟩:∃ lh,lh = log ++ [⟨3,0,v⟩] ++ [⟨3,0,u⟩]:=⟨_,rfl⟩
  have e4:one lsX mPairs (tk 0 [v,u] 4 out lh) [⟨l,k + 2,[]⟩] = (Tk.reckon (tk 0 [v,u] 5 out lh) 9,[⟨l,k + 2,[]⟩]):=by kernel_rfl
  have e5:Tk.reckon (tk 0 [v,u] 5 out lh) 9 = tk 0 [wrap (v - u)] 5 out lh:=(reckon_safe (by decide) (by decide)).trans (by kernel_rfl)
  have g3:=go_on (X:=lsX) (m:=mPairs) (n:=n + 2) (t:=tk 0 [v,u] 4 out lh) (x:=[⟨l,k + 2,[]⟩]) (by kernel_rfl)
  rw [e4,e5] at g3
  have e6:(go lsX mPairs (n + 2) (tk 0 [wrap (v - u)] 5 out lh) [⟨l,k + 2,[]⟩]).2 = (go lsX mPairs n (tk 0 [] 0 (out ++ [wrap (v - u)]) (lh ++ [⟨1,0,wrap (v - u)⟩])) [⟨l,k + 2,[]⟩]).2:=by kernel_rfl
  rw [hlh] at g3 e6
  obtain ⟨t,x,h1,h2,h3⟩:=pairs_goes l j (k + 2) n (out ++ [wrap (v - u)]) _ (by omega) (by omega)
  refine ⟨t,x,e1.trans (g1.trans (g2.trans (g3.trans (e6.trans h1)))),?_,h3⟩
  rw [h2,drop_one hv,drop_one hu]
  simp [prs]
set_option maxRecDepth 1000000 in
theorem pairs_fits (l:List Int):soloE Xe.mPairs 0 5000 [l] = 0:=by kernel_rfl
theorem pairs_asked:Asked Xe.nPairs Xe.mPairs:=⟨Xe.ans_pairs,by decide⟩
theorem pairs_first (l:List Int):soloR Xe.mPairs 0 5000 [l] = go lsX Xe.mPairs 5000 (tk 0 [] 0 [] []) [⟨l,0,[]⟩]:=by kernel_rfl
theorem pairs_says (l:List Int) (h:l.length ≤ 100):(soloR Xe.mPairs 0 5000 [l]).2.1.out = prs l ∧ (stat lsX Xe.mPairs (soloR Xe.mPairs 0 5000 [l]).2.1 (soloR Xe.mPairs 0 5000 [l]).2.2).1 = 3:=by
 rw [pairs_first]
 obtain ⟨t,x,h1,h2,h3⟩:=pairs_goes l l.length 0 5000 [] [] (by omega) (by omega)
 rw [h1]
 exact ⟨by simpa using h2,h3⟩
def PrAt (l:List Int) (w:World) (i k:Nat) (vl:Value) (wr:World):Prop:=i = 2 * k ∧ i ≤ l.length ∧ Below w.heap.size w wr ∧ wr.ownsRow w.heap.size 2 1 vl k (ints (prs (l.take i)))
theorem pairs_any (l:List Int) (a:Option Addr) (c:Nat) (w:World) (hw:Hid (In64 w w.heap.size a l)) (hn:l.length ≤ 9223372036854775807) (hT:Hid (Xe.Tabs w)) :
  Calls Tryz.prog 5 #[.slice a l.length c] w fun e w' => e = .returned (.bool true) ∧ Below w.heap.size w w':=by
 obtain ⟨i0,hi,hz0,hz1,hz2⟩:=info_parts info64
 go_enter Tryz.func5,Tryz.ntmps5
 by_cases hl:l.length ≤ 100
 ·have n1:¬ (100:Int) < (l.length:Int):=by omega
  go_wp2
  go_loopw [3,4] (fun vl v wr => ∃ i k:Nat,v = .int .i64 i ∧ PrAt l w i k vl wr) (fun _ v _ => l.length - (intOf v).toNat)
  case atStart => exact ⟨0,0,rfl,rfl,Nat.zero_le _,Below.refl _ w,⟨rfl,.inl ⟨rfl,rfl⟩⟩⟩
  case round =>
   obtain ⟨i,k,rfl,hik,hk,hb,hown⟩:=hrel
   have HB:=Sb.hide hb
   have HO:=Sb.hide hown
   have HIK:=Sb.hide hik
   have hbz:=hb.size
   have hki:k ≤ i:=by omega
   clear hb hown hik
   by_cases hlt:i + 1 < l.length
   ·obtain ⟨x,hx⟩:∃ x,l[i]? = some x:=⟨_,List.getElem?_eq_getElem (by omega)⟩
    obtain ⟨y,hy⟩:∃ y,l[i + 1]? = some y:=⟨_,List.getElem?_eq_getElem hlt⟩
    obtain ⟨b,off,ha,hbw,hc⟩:=(hw.out.below HB.out) i x hx
    obtain ⟨b2,off2,ha2,_,hc2⟩:=(hw.out.below HB.out) (i + 1) y hy
    rw [ha] at ha2
    cases ha2
    obtain ⟨dv,hdv⟩:∃ dv,dv = IntKind.i64.wrap (x - y):=⟨_,rfl⟩
    have HX:Hid (prs (l.take (i + 2)) = prs (l.take i) ++ [dv]):=by
     unfold Hid
     rw [hdv,IntWalk.i64_left]
     rw [show i + 2 = (i + 1) + 1 by rfl,List.take_add_one,List.take_add_one,hx,hy]
     have:=(prs_app x y k (l.take i) (by rw [List.length_take,← HIK.out]; omega)).1
     simpa [wrap] using this
    obtain ⟨ml,hml⟩:∃ m,m = l.length:=⟨_,rfl⟩
    rw [ha,← hml]
    rw [← hml] at hlt hl hn hk
    have HML:=Sb.hide hml
    have n0:(0:Int) ≤ (i:Int):=by omega
    have n2:(i:Int) + 1 < (ml:Int):=by omega
    have n4:(i:Int) < (ml:Int):=by omega
    have n5:(0:Int) ≤ (i:Int) + 1:=by omega
    have hwr:IntKind.i64.wrap ((i:Int) + 1) = (i:Int) + 1:=IntWalk.i64_in _ ⟨by omega,by omega⟩
    have htn:((i:Int) + 1).toNat = i + 1:=by omega
    obtain ⟨os,hos⟩:∃ os,os = ints (prs (l.take i)):=⟨_,rfl⟩
    have HRW:Hid ((wr.alloc (.cells #[.int .i64 dv] 2)).drew.ownsRow w.heap.size 2 1 u3 k os):=by unfold Hid; rw [hos]; exact HO.out.alloc _
    have HOS:=Sb.hide hos
    clear hml ha hx hy n1 hos
    go_upto_region 7 with fail
    refine wp_region_held_drew (S:=fun w' => w'.cell? ⟨b,off + i,none⟩ = some (.int .i64 x) ∧ w'.cell? ⟨b,off + (i + 1),none⟩ = some (.int .i64 y)) (by kernel_rfl) ⟨hc,hc2⟩ (fun hHeld => ?_)
    refine wpAnyH_take (i:=0) (oi:=_) (v:=?_) rfl (by kernel_rfl) (by kernel_rfl) (by kernel_rfl) (fun _ _ _ h => h) (Or.inl ⟨by rfl,?_⟩) (by assumption) ?_
    rotate_left
    ·intro w hSw
     (try dsimp only at hSw)
     go_simp
     (try with_reducible rfl)
    refine wpAnyH_take (i:=1) (oi:=_) (v:=?_) rfl (by kernel_rfl) (by kernel_rfl) (by kernel_rfl) (fun _ _ _ h => h) (Or.inl ⟨by rfl,?_⟩) (by assumption) ?_
    rotate_left
    ·intro w hSw
     (try dsimp only at hSw)
     go_simp
     (try with_reducible rfl)
    refine wpAnyH_take (i:=2) (oi:=_) (v:=?_) rfl (by kernel_rfl) (by kernel_rfl) (by kernel_rfl) (fun _ _ _ h => h) (Or.inl ⟨by rfl,?_⟩) (by assumption) ?_
    rotate_left
    ·intro w hSw
     (try dsimp only at hSw)
     go_simp
     (try with_reducible rfl)
    refine wpAnyH_take (i:=3) (oi:=_) (v:=?_) rfl (by kernel_rfl) (by kernel_rfl) (by kernel_rfl) (fun _ _ _ h => h) (Or.inl ⟨by rfl,?_⟩) (by assumption) ?_
    rotate_left
    ·intro w hSw
     (try dsimp only at hSw)
     go_simp
     (try with_reducible rfl)
    refine wpAnyH_take (i:=4) (oi:=_) (v:=?_) rfl (by kernel_rfl) (by kernel_rfl) (by kernel_rfl) (fun _ _ _ h => h) (Or.inl ⟨by rfl,?_⟩) (by assumption) ?_
    rotate_left
    ·intro w hSw
     (try dsimp only at hSw)
     go_simp
     (try with_reducible rfl)
    refine wpAnyH_take (i:=5) (oi:=_) (v:=?_) rfl (by kernel_rfl) (by kernel_rfl) (by kernel_rfl) (fun _ _ _ h => h) (Or.inl ⟨by rfl,?_⟩) (by assumption) ?_
    rotate_left
    ·intro w hSw
     (try dsimp only at hSw)
     go_simp
     (try with_reducible rfl)
    refine wpAnyH_take (i:=6) (oi:=_) (v:=?_) rfl (by kernel_rfl) (by kernel_rfl) (by kernel_rfl) (fun _ _ _ h => h) (Or.inl ⟨by rfl,?_⟩) (by assumption) ?_
    rotate_left
    ·intro w hSw
     (try dsimp only at hSw)
     go_simp
     (try with_reducible rfl)
    refine wpAnyH_take (i:=7) (oi:=_) (v:=?_) rfl (by kernel_rfl) (by kernel_rfl) (by kernel_rfl) (fun _ _ _ h => h) (Or.inl ⟨by rfl,?_⟩) (by assumption) ?_
    rotate_left
    ·intro w hSw
     (try dsimp only at hSw)
     go_simp
     (try with_reducible rfl)
    refine wpAnyH_take (i:=8) (oi:=_) (v:=?_) rfl (by kernel_rfl) (by kernel_rfl) (by kernel_rfl) (fun _ _ _ h => h) (Or.inl ⟨by rfl,?_⟩) (by assumption) ?_
    rotate_left
    ·intro w hSw
     (try dsimp only at hSw)
     go_simp
     (try with_reducible rfl)
    refine wpAnyH_take (i:=9) (oi:=_) (v:=?_) rfl (by kernel_rfl) (by kernel_rfl) (by kernel_rfl) (fun _ _ _ h => h) (Or.inl ⟨by rfl,?_⟩) (by assumption) ?_
    rotate_left
    ·intro w hSw
     (try dsimp only at hSw)
     go_simp
     (try with_reducible rfl)
    refine wpAnyH_take (i:=10) (oi:=_) (v:=?_) rfl (by kernel_rfl) (by kernel_rfl) (by kernel_rfl) (fun _ _ _ h => h) (Or.inl ⟨by rfl,?_⟩) (by assumption) ?_
    rotate_left
    ·intro w hSw
     (try dsimp only at hSw)
     go_simp
     (try with_reducible rfl)
    simp only [Act.put]
    have hbd:b < wr.drew.heap.size:=Nat.lt_of_lt_of_le hbw hbz
    refine wpAnyH_ready (rs:=[11]) (by kernel_rfl) (by simp) ?_
    refine AllReadyH.cons (o:=_) rfl (fun K hK => ?_) AllReadyH.nil
    go_simp
    refine hK.out _ _ ⟨(World.cell?_of_block (w:=wr.drew) (Below.heap_alloc _ _ _ hbd)).trans hHeld.1,(World.cell?_of_block (w:=wr.drew) (Below.heap_alloc _ _ _ hbd)).trans hHeld.2⟩ (fun hHeld => ?_)
    clear hK K
    refine wpAnyH_ready (rs:=[12]) (by kernel_rfl) (by simp) ?_
    refine AllReadyH.cons (o:=_) rfl (fun K hK => ?_) AllReadyH.nil
    rw [← hdv] at hHeld ⊢
    refine step_append_where rfl (.tmp 15) (.tmp 26) 22 rfl w.heap.size 2 i0 (.int .i64 0) 1 8 Tryz.underlying22 hi hz0 hz1 hz2 rfl (by decide) u3 k os rfl HRW.out ⟨wr.heap.size,0,none⟩ 1 1 [.int .i64 dv] rfl rfl (news1 wr _ _) (ones1 rfl) (by decide) (by unfold maxLen; omega) (by omega) (by simp; omega) ?_
    intro R4 cap4 w4 hown4 hg4 hR4
    have hne:some b ≠ u3.ownBlock:=fun e => by
     have:=(HO.out.lt b e.symm).1
     omega
    have hb4:w4.heap[b]? = (wr.alloc (.cells #[.int .i64 dv] 2)).heap[b]?:=hg4.block b (by simp; omega) hne
    have HREL:Hid (PrAt l w (i + 2) (k + 1) (.slice (some ⟨R4,0,none⟩) (k + 1) cap4) w4):=by
     refine ⟨by have:=HIK.out; omega,by have:=HML.out; omega,(below_drewN (HB.out.alloc hbz _) 1).grown hg4 (by simp; omega) (fun b hb => (HO.out.lt b hb).1),?_⟩
     rw [HX.out,show ints (prs (l.take i) ++ [dv]) = ints (prs (l.take i)) ++ [.int .i64 dv] by simp,← HOS.out]
     exact hown4
    refine hK.out _ _ ⟨(World.cell?_of_block hb4).trans hHeld.1,(World.cell?_of_block hb4).trans hHeld.2⟩ (fun hHeld => ?_)
    clear hK K hown4 hg4 hR4
    simp only [Act.put]
    refine wpAnyH_take (i:=13) (oi:=_) (v:=?_) rfl (by kernel_rfl) (by kernel_rfl) (by kernel_rfl) (fun _ _ _ h => h) (Or.inl ⟨by rfl,?_⟩) (by assumption) ?_
    rotate_left
    ·intro w hSw
     (try dsimp only at hSw)
     go_simp
     (try with_reducible rfl)
    refine wpAnyH_done (by kernel_rfl) ?_ _
    clear hHeld hb4 hne
    go_wp2
    go_roundw
    case rel => exact ⟨i + 2,k + 1,by go_num,HREL.out⟩
    case measure => simp [intOf]; omega
   ·have n3:¬ (i:Int) + 1 < (l.length:Int):=by omega
    have hfin:prs (l.take i) = prs l:=by
     rcases Nat.lt_or_ge i l.length with h | h
     ·obtain ⟨x,hx⟩:∃ x,l[i]? = some x:=⟨_,List.getElem?_eq_getElem h⟩
      have e:l = l.take i ++ [x]:=by
       have h1:l.take (i + 1) = l:=List.take_of_length_le (by omega)
       rw [List.take_add_one,hx] at h1
       exact h1.symm
      have:=(prs_app x x k (l.take i) (by rw [List.length_take,← HIK.out]; omega)).2.1
      rw [← e] at this
      exact this.symm
     ·rw [List.take_of_length_le h]
    have hO:=HO.out
    have hlen:=(prs_app 0 0 k (l.take i) (by rw [List.length_take,← HIK.out]; omega)).2.2
    rw [hfin] at hO hlen
    rw [← hlen] at hO
    have HV:=Sb.hide (own_reads hO)
    have HA:Hid (Below wr.heap.size wr (wr.alloc (.cells #[.slice a l.length c] 22))):=(Below.refl _ wr).alloc (Nat.le_refl _) _
    have HB2:Hid (Below w.heap.size w (wr.alloc (.cells #[.slice a l.length c] 22))):=HB.out.alloc hbz _
    have HF:=Sb.hide (fd_one (c:=c) hw.out hl HB.out)
    have HT2:=Sb.hide (hT.out.below HB2.out)
    have HV2:=Sb.hide (HV.out.below HA.out)
    have HLN:=Sb.hide hlen
    clear hO HA n1 hfin hlen
    go_wp2_with fail
    refine (says_any pairs_asked [l] (some ⟨wr.heap.size,0,none⟩) 1 (fun _ => a) (fun _ => c) (prs l) u3 _ HT2 HF (pairs_fits l) HV2 (pairs_says l hl).1 (pairs_says l hl).2 (by rw [HLN.out]; omega)).mono ?_
    rintro e w5 ⟨rfl,hb5⟩
    have HB5:=Sb.hide (HB2.out.trans (hb5.mono HB2.out.size))
    clear hb5
    go_wp2
    go_ret
    exact ⟨rfl,HB5.out⟩
 ·have n1:(100:Int) < (l.length:Int):=by omega
  go_wp2
  go_ret
  exact ⟨rfl,Below.refl _ w⟩
end Go.Proofs.YtgbnnhnlfgcleaaGreatDoor.Vw

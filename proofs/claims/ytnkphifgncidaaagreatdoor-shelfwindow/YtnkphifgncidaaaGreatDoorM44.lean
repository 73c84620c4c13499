/- What window does,plainly. -/
import Derived.Test.YtnkphifgncidaaaGreatDoorM43
set_option maxRecDepth 100000
set_option maxHeartbeats 1000000
namespace Go.Proofs.YtnkphifgncidaaaGreatDoor.Vw
open Go.RowKit Vf Vm
def wnd:List Int → List Int
 | a :: b :: c :: l => wrap (wrap (a + b) + c) :: wnd (b :: c :: l)
 | _ => []
theorem wnd_app (a b c:Int):∀ (p:List Int),wnd (p ++ [a,b,c]) = wnd (p ++ [a,b]) ++ [wrap (wrap (a + b) + c)]
 | [] => rfl
 | [x] => rfl
 | [x,y] => rfl
 | x :: y :: z :: p => by
  show wrap (wrap (x + y) + z) :: wnd (y :: z :: p ++ [a,b,c]) = wrap (wrap (x + y) + z) :: wnd (y :: z :: p ++ [a,b]) ++ _
  rw [wnd_app a b c (y :: z :: p)]
  rfl
theorem wnd_len:∀ (l:List Int),(wnd l).length = l.length - 2
 | [] => rfl
 | [_] => rfl
 | [_,_] => rfl
 | x :: y :: z :: p => by
  show (wnd (y :: z :: p)).length + 1 = _
  rw [wnd_len (y :: z :: p)]
  simp
open Xe in
theorem window_goes (l:List Int):∀ (j k n:Nat) (a b x:Int) (out:List Int) (log:List Ev),l.length = k + j → 15 * j + 2 ≤ n →
  ∃ t y,(go lsX mWindow n (tk 0 [a,b,x] 4 out log) [⟨l,k,[]⟩]).2 = (t,y) ∧ t.out = out ++ wnd (a :: b :: l.drop k) ∧ (stat lsX mWindow t y).1 = 3
 | 0,k,n,a,b,x,out,log,hk,hn => by
  obtain ⟨n,rfl⟩:∃ n',n = n' + 2:=⟨n - 2,by omega⟩
  have hk:k = l.length:=by omega
  subst hk
  refine ⟨tk 0 [a,b,x] 6 out log,[⟨l,l.length,[]⟩],?_,by simp [wnd],stat_none rfl rfl rfl⟩
  have e1:(go lsX mWindow (n + 2) (tk 0 [a,b,x] 4 out log) [⟨l,l.length,[]⟩]).2 = (go lsX mWindow n (tk 0 [a,b,x] 6 out log) [⟨l,l.length,[]⟩]).2:=by kernel_rfl
  rw [e1,go_halt (by rw [stat_none rfl rfl rfl]; decide)]
 | j + 1,k,n,a,b,x,out,log,hk,hn => by
  obtain ⟨n,rfl⟩:∃ n',n = n' + 15:=⟨n - 15,by omega⟩
  have hlt:k < l.length:=by omega
  obtain ⟨v,hv⟩:∃ v,l[k]? = some v:=⟨_,List.getElem?_eq_getElem hlt⟩
  have e1:(go lsX mWindow (n + 15) (tk 0 [a,b,x] 4 out log) [⟨l,k,[]⟩]).2 = (go lsX mWindow (n + 13) (tk 0 [a,b,x] 6 out log) [⟨l,k,[]⟩]).2:=by kernel_rfl
  have e2:one lsX mWindow (tk 0 [a,b,x] 6 out log) [⟨l,k,[]⟩] = (tk 0 [a,b,x,(l[k]?).getD 0] 7 out (log ++ [⟨3,0,(l[k]?).getD 0⟩]),[⟨l,k + 1,[]⟩]):=by kernel_rfl
  have g1:=go_on (X:=lsX) (m:=mWindow) (n:=n + 12) (t:=tk 0 [a,b,x] 6 out log) (x:=[⟨l,k,[]⟩]) (stat_more rfl rfl rfl hlt)
  rw [e2,hv] at g1
  obtain ⟨lg,hlg⟩:∃ lg,lg = log ++ [⟨3,0,v⟩]:=⟨_,rfl⟩
  simp only [Option.getD_some] at g1
  rw [← hlg] at g1
  have e3:(go lsX mWindow (n + 12) (tk 0 [a,b,x,v] 7 out lg) [⟨l,k + 1,[]⟩]).2 = (go lsX mWindow (n + 9) (tk 0 [a,b,v,a,b] 10 out lg) [⟨l,k + 1,[]⟩]).2:=by kernel_rfl
  have e4:one lsX mWindow (tk 0 [a,b,v,a,b] 10 out lg) [⟨l,k + 1,[]⟩] = (Tk.reckon (tk 0 [a,b,v,a,b] 11 out lg) 8,[⟨l,k + 1,[]⟩]):=by kernel_rfl
  have e5:Tk.reckon (tk 0 [a,b,v,a,b] 11 out lg) 8 = tk 0 [a,b,v,wrap (a + b)] 11 out lg:=(reckon_safe (by decide) (by decide)).trans (by kernel_rfl)
  have g2:=go_on (X:=lsX) (m:=mWindow) (n:=n + 8) (t:=tk 0 [a,b,v,a,b] 10 out lg) (x:=[⟨l,k + 1,[]⟩]) (by kernel_rfl)
  rw [e4,e5] at g2
  have e6:(go lsX mWindow (n + 8) (tk 0 [a,b,v,wrap (a + b)] 11 out lg) [⟨l,k + 1,[]⟩]).2 = (go lsX mWindow (n + 7) (tk 0 [a,b,v,wrap (a + b),v] 12 out lg) [⟨l,k + 1,[]⟩]).2:=by kernel_rfl
  have e7:one lsX mWindow (tk 0 [a,b,v,wrap (a + b),v] 12 out lg) [⟨l,k + 1,[]⟩] = (Tk.reckon (tk 0 [a,b,v,wrap (a + b),v] 13 out lg) 8,[⟨l,k + 1,[]⟩]):=by kernel_rfl
  have e8:Tk.reckon (tk 0 [a,b,v,wrap (a + b),v] 13 out lg) 8 = tk 0 [a,b,v,wrap (wrap (a + b) + v)] 13 out lg:=(reckon_safe (by decide) (by decide)).trans (by kernel_rfl)
  have g3:=go_on (X:=lsX) (m:=mWindow) (n:=n + 6) (t:=tk 0 [a,b,v,wrap (a + b),v] 12 out lg) (x:=[⟨l,k + 1,[]⟩]) (by kernel_rfl)
  rw [e7,e8] at g3
  have e9:(go lsX mWindow (n + 6) (tk 0 [a,b,v,wrap (wrap (a + b) + v)] 13 out lg) [⟨l,k + 1,[]⟩]).2 = (go lsX mWindow n (tk 0 [b,v,v] 4 (out ++ [wrap (wrap (a + b) + v)]) (lg ++ [⟨1,0,wrap (wrap (a + b) + v)⟩])) [⟨l,k + 1,[]⟩]).2:=by kernel_rfl
  obtain ⟨t,y,h1,h2,h3⟩:=window_goes l j (k + 1) n b v v (out ++ [wrap (wrap (a + b) + v)]) _ (by omega) (by omega)
  refine ⟨t,y,e1.trans (g1.trans (e3.trans (g2.trans (e6.trans (g3.trans (e9.trans h1)))))),?_,h3⟩
  rw [h2,drop_one hv]
  simp [wnd]
set_option maxRecDepth 1000000 in
theorem window_fits (l:List Int):soloE Xe.mWindow 0 5000 [l] = 0:=by kernel_rfl
theorem window_asked:Asked Xe.nWindow Xe.mWindow:=⟨Xe.ans_window,by decide⟩
theorem window_first (l:List Int):soloR Xe.mWindow 0 5000 [l] = go lsX Xe.mWindow 5000 (tk 0 [0,0,0] 0 [] []) [⟨l,0,[]⟩]:=by kernel_rfl
theorem window_one (l:List Int) (v:Int) (hv:l[0]? = some v) (n:Nat):∃ lg,(go lsX Xe.mWindow (n + 2) (tk 0 [0,0,0] 0 [] []) [⟨l,0,[]⟩]).2 = (go lsX Xe.mWindow n (tk 0 [v,0,0] 2 [] lg) [⟨l,1,[]⟩]).2:=by
 have hlt:0 < l.length:=(List.getElem?_eq_some_iff.1 hv).1
 have e2:one lsX Xe.mWindow (tk 0 [0,0,0] 0 [] []) [⟨l,0,[]⟩] = (tk 0 [0,0,0,(l[0]?).getD 0] 1 [] [⟨3,0,(l[0]?).getD 0⟩],[⟨l,1,[]⟩]):=by kernel_rfl
 have g1:=go_on (X:=lsX) (m:=Xe.mWindow) (n:=n + 1) (t:=tk 0 [0,0,0] 0 [] []) (x:=[⟨l,0,[]⟩]) (stat_more rfl rfl rfl hlt)
 rw [e2,hv] at g1
 have e3:(go lsX Xe.mWindow (n + 1) (tk 0 [0,0,0,v] 1 [] [⟨3,0,v⟩]) [⟨l,1,[]⟩]).2 = (go lsX Xe.mWindow n (tk 0 [v,0,0] 2 [] [⟨3,0,v⟩]) [⟨l,1,[]⟩]).2:=by kernel_rfl
 exact ⟨_,g1.trans e3⟩
theorem window_two (l:List Int) (u v:Int) (hv:l[1]? = some v) (lg:List Ev) (n:Nat):∃ lh,(go lsX Xe.mWindow (n + 2) (tk 0 [u,0,0] 2 [] lg) [⟨l,1,[]⟩]).2 = (go lsX Xe.mWindow n (tk 0 [u,v,0] 4 [] lh) [⟨l,2,[]⟩]).2:=by
 have hlt:1 < l.length:=(List.getElem?_eq_some_iff.1 hv).1
 have e2:one lsX Xe.mWindow (tk 0 [u,0,0] 2 [] lg) [⟨l,1,[]⟩] = (tk 0 [u,0,0,(l[1]?).getD 0] 3 [] (lg ++ [⟨3,0,(l[1]?).getD 0⟩]),[⟨l,2,[]⟩]):=by kernel_rfl
 have g1:=go_on (X:=lsX) (m:=Xe.mWindow) (n:=n + 1) (t:=tk 0 [u,0,0] 2 [] lg) (x:=[⟨l,1,[]⟩]) (stat_more rfl rfl rfl hlt)
 rw [e2,hv] at g1
 have e3:(go lsX Xe.mWindow (n + 1) (tk 0 [u,0,0,v] 3 [] (lg ++ [⟨3,0,v⟩])) [⟨l,2,[]⟩]).2 = (go lsX Xe.mWindow n (tk 0 [u,v,0] 4 [] (lg ++ [⟨3,0,v⟩])) [⟨l,2,[]⟩]).2:=by kernel_rfl
 exact ⟨_,g1.trans e3⟩
theorem window_says (l:List Int) (h:l.length ≤ 100):(soloR Xe.mWindow 0 5000 [l]).2.1.out = wnd l ∧ (stat lsX Xe.mWindow (soloR Xe.mWindow 0 5000 [l]).2.1 (soloR Xe.mWindow 0 5000 [l]).2.2).1 = 3:=by
 rw [window_first]
 match l,h with
 | [],h =>
  have h0:(stat lsX Xe.mWindow (tk 0 [0,0,0] 0 [] []) [⟨[],0,[]⟩]).1 = 3:=by kernel_rfl
  rw [go_halt (by rw [h0]; decide)]
  exact ⟨rfl,h0⟩
 | [v],h =>
  obtain ⟨lg,hs⟩:=window_one [v] v rfl 4998
  have h0:(stat lsX Xe.mWindow (tk 0 [v,0,0] 2 [] lg) [⟨[v],1,[]⟩]).1 = 3:=by kernel_rfl
  have hs':(go lsX Xe.mWindow 5000 (tk 0 [0,0,0] 0 [] []) [⟨[v],0,[]⟩]).2 = (tk 0 [v,0,0] 2 [] lg,[⟨[v],1,[]⟩]):=hs.trans (go_halt (by rw [h0]; decide))
  rw [hs']
  exact ⟨rfl,h0⟩
 | u :: v :: l,h =>
  obtain ⟨lg,hs⟩:=window_one (u :: v :: l) u rfl 4998
  obtain ⟨lh,hs2⟩:=window_two (u :: v :: l) u v rfl lg 4996
  obtain ⟨t,x,h1,h2,h3⟩:=window_goes (u :: v :: l) l.length 2 4996 u v 0 [] lh (by simp; omega) (by simp at h; omega)
  have hs':(go lsX Xe.mWindow 5000 (tk 0 [0,0,0] 0 [] []) [⟨u :: v :: l,0,[]⟩]).2 = (t,x):=hs.trans (hs2.trans h1)
  rw [hs']
  exact ⟨by simpa using h2,h3⟩
def WnAt (l:List Int) (w:World) (i:Nat) (vl:Value) (wr:World):Prop:=(i ≤ l.length - 2) ∧ Below w.heap.size w wr ∧ wr.ownsRow w.heap.size 2 1 vl i (ints (wnd (l.take (i + 2))))
theorem wnd_short:∀ (l:List Int),l.length ≤ 2 → wnd l = []
 | [],_ => rfl
 | [_],_ => rfl
 | [_,_],_ => rfl
 | _ :: _ :: _ :: _,h => by simp at h
theorem window_any (l:List Int) (a:Option Addr) (c:Nat) (w:World) (hw:Hid (In64 w w.heap.size a l)) (hn:l.length ≤ 9223372036854775807) (hT:Hid (Xe.Tabs w)) :
  Calls Tryz.prog 3 #[.slice a l.length c] w fun e w' => e = .returned (.bool true) ∧ Below w.heap.size w w':=by
 obtain ⟨i0,hi,hz0,hz1,hz2⟩:=info_parts info64
 go_enter Tryz.func3,Tryz.ntmps3
 by_cases hl:l.length ≤ 100
 ·have n1:¬ (100:Int) < (l.length:Int):=by omega
  go_wp2
  go_loopw [3,4] (fun vl v wr => ∃ i:Nat,v = .int .i64 i ∧ WnAt l w i vl wr) (fun _ v _ => l.length - (intOf v).toNat)
  case atStart =>
   refine ⟨0,rfl,Nat.zero_le _,Below.refl _ w,?_⟩
   rw [wnd_short (l.take (0 + 2)) (by rw [List.length_take]; omega)]
   exact ⟨rfl,.inl ⟨rfl,rfl⟩⟩
  case round =>
   obtain ⟨i,rfl,hk,hb,hown⟩:=hrel
   have HB:=Sb.hide hb
   have HO:=Sb.hide hown
   have hbz:=hb.size
   clear hb hown
   by_cases hlt:i + 2 < l.length
   ·obtain ⟨x,hx⟩:∃ x,l[i]? = some x:=⟨_,List.getElem?_eq_getElem (by omega)⟩
    obtain ⟨y,hy⟩:∃ y,l[i + 1]? = some y:=⟨_,List.getElem?_eq_getElem (by omega)⟩
    obtain ⟨z,hz⟩:∃ z,l[i + 2]? = some z:=⟨_,List.getElem?_eq_getElem hlt⟩
    obtain ⟨b,off,ha,hbw,hc⟩:=(hw.out.below HB.out) i x hx
    obtain ⟨b2,off2,ha2,_,hc2⟩:=(hw.out.below HB.out) (i + 1) y hy
    obtain ⟨b3,off3,ha3,_,hc3⟩:=(hw.out.below HB.out) (i + 2) z hz
    rw [ha] at ha2 ha3
    cases ha2
    cases ha3
    obtain ⟨dv,hdv⟩:∃ dv,dv = IntKind.i64.wrap (IntKind.i64.wrap (x + y) + z):=⟨_,rfl⟩
    have HX:Hid (wnd (l.take (i + 1 + 2)) = wnd (l.take (i + 2)) ++ [dv]):=by
     unfold Hid
     rw [hdv,IntWalk.i64_left,IntWalk.i64_left,show i + 1 + 2 = (i + 2) + 1 by rfl,List.take_add_one,show i + 2 = (i + 1) + 1 by rfl,List.take_add_one,List.take_add_one,hx,hy,hz]
     have:=wnd_app x y z (l.take i)
     simpa [wrap] using this
    obtain ⟨ml,hml⟩:∃ m,m = l.length:=⟨_,rfl⟩
    rw [ha,← hml]
    rw [← hml] at hlt hl hn hk
    have HML:=Sb.hide hml
    have n0:(0:Int) ≤ (i:Int):=by omega
    have n2:(i:Int) + 2 < (ml:Int):=by omega
    have n3:(i:Int) + 1 < (ml:Int):=by omega
    have n4:(i:Int) < (ml:Int):=by omega
    have n5:(0:Int) ≤ (i:Int) + 1:=by omega
    have n6:(0:Int) ≤ (i:Int) + 2:=by omega
    have hwr:IntKind.i64.wrap ((i:Int) + 1) = (i:Int) + 1:=IntWalk.i64_in _ ⟨by omega,by omega⟩
    have hwr2:IntKind.i64.wrap ((i:Int) + 2) = (i:Int) + 2:=IntWalk.i64_in _ ⟨by omega,by omega⟩
    have htn:((i:Int) + 1).toNat = i + 1:=by omega
    have htn2:((i:Int) + 2).toNat = i + 2:=by omega
    obtain ⟨os,hos⟩:∃ os,os = ints (wnd (l.take (i + 2))):=⟨_,rfl⟩
    have HRW:Hid ((wr.alloc (.cells #[.int .i64 dv] 2)).drew.ownsRow w.heap.size 2 1 u3 i os):=by unfold Hid; rw [hos]; exact HO.out.alloc _
    have HOS:=Sb.hide hos
    clear hml ha hx hy hz n1 hos
    go_upto_region 7 with fail
    refine wp_region_held_drew (S:=fun w' => w'.cell? ⟨b,off + i,none⟩ = some (.int .i64 x) ∧ w'.cell? ⟨b,off + (i + 1),none⟩ = some (.int .i64 y) ∧ w'.cell? ⟨b,off + (i + 2),none⟩ = some (.int .i64 z)) (by kernel_rfl) ⟨hc,hc2,hc3⟩ (fun hHeld => ?_)
    refine wpAnyH_take (i:=0) (oi:=_) (v:=?_) rfl (by kernel_rfl) (by kernel_rfl) (by kernel_rfl) (fun _ _ _ h => h) (Or.inl ⟨by rfl,?_⟩) (by assumption) ?_
    rotate_left
    ·intro w hSw
     (try dsimp only at hSw)
     go_simp
     (try with_reducible rfl)
    refine wpAnyH_take (i:=1) (oi:=_) (v:=?_) rfl (by kernel_rfl) (by kernel_rfl) (by kernel_rfl) (fun _ _ _ h => h) (Or.inl ⟨by rfl,?_⟩) (by assumption) ?_
    rotate_left
    ·intro w hSw
     (try dsimp only at hSw)
     go_simp
     (try with_reducible rfl)
    refine wpAnyH_take (i:=2) (oi:=_) (v:=?_) rfl (by kernel_rfl) (by kernel_rfl) (by kernel_rfl) (fun _ _ _ h => h) (Or.inl ⟨by rfl,?_⟩) (by assumption) ?_
    rotate_left
    ·intro w hSw
     (try dsimp only at hSw)
     go_simp
     (try with_reducible rfl)
    refine wpAnyH_take (i:=3) (oi:=_) (v:=?_) rfl (by kernel_rfl) (by kernel_rfl) (by kernel_rfl) (fun _ _ _ h => h) (Or.inl ⟨by rfl,?_⟩) (by assumption) ?_
    rotate_left
    ·intro w hSw
     (try dsimp only at hSw)
     go_simp
     (try with_reducible rfl)
    refine wpAnyH_take (i:=4) (oi:=_) (v:=?_) rfl (by kernel_rfl) (by kernel_rfl) (by kernel_rfl) (fun _ _ _ h => h) (Or.inl ⟨by rfl,?_⟩) (by assumption) ?_
    rotate_left
    ·intro w hSw
     (try dsimp only at hSw)
     go_simp
     (try with_reducible rfl)
    refine wpAnyH_take (i:=5) (oi:=_) (v:=?_) rfl (by kernel_rfl) (by kernel_rfl) (by kernel_rfl) (fun _ _ _ h => h) (Or.inl ⟨by rfl,?_⟩) (by assumption) ?_
    rotate_left
    ·intro w hSw
     (try dsimp only at hSw)
     go_simp
     (try with_reducible rfl)
    refine wpAnyH_take (i:=6) (oi:=_) (v:=?_) rfl (by kernel_rfl) (by kernel_rfl) (by kernel_rfl) (fun _ _ _ h => h) (Or.inl ⟨by rfl,?_⟩) (by assumption) ?_
    rotate_left
    ·intro w hSw
     (try dsimp only at hSw)
     go_simp
     (try with_reducible rfl)
    refine wpAnyH_take (i:=7) (oi:=_) (v:=?_) rfl (by kernel_rfl) (by kernel_rfl) (by kernel_rfl) (fun _ _ _ h => h) (Or.inl ⟨by rfl,?_⟩) (by assumption) ?_
    rotate_left
    ·intro w hSw
     (try dsimp only at hSw)
     go_simp
     (try with_reducible rfl)
    refine wpAnyH_take (i:=8) (oi:=_) (v:=?_) rfl (by kernel_rfl) (by kernel_rfl) (by kernel_rfl) (fun _ _ _ h => h) (Or.inl ⟨by rfl,?_⟩) (by assumption) ?_
    rotate_left
    ·intro w hSw
     (try dsimp only at hSw)
     go_simp
     (try with_reducible rfl)
    refine wpAnyH_take (i:=9) (oi:=_) (v:=?_) rfl (by kernel_rfl) (by kernel_rfl) (by kernel_rfl) (fun _ _ _ h => h) (Or.inl ⟨by rfl,?_⟩) (by assumption) ?_
    rotate_left
    ·intro w hSw
     (try dsimp only at hSw)
     go_simp
     (try with_reducible rfl)
    refine wpAnyH_take (i:=10) (oi:=_) (v:=?_) rfl (by kernel_rfl) (by kernel_rfl) (by kernel_rfl) (fun _ _ _ h => h) (Or.inl ⟨by rfl,?_⟩) (by assumption) ?_
    rotate_left
    ·intro w hSw
     (try dsimp only at hSw)
     go_simp
     (try with_reducible rfl)
    refine wpAnyH_take (i:=11) (oi:=_) (v:=?_) rfl (by kernel_rfl) (by kernel_rfl) (by kernel_rfl) (fun _ _ _ h => h) (Or.inl ⟨by rfl,?_⟩) (by assumption) ?_
    rotate_left
    ·intro w hSw
     (try dsimp only at hSw)
     go_simp
     (try with_reducible rfl)
    refine wpAnyH_take (i:=12) (oi:=_) (v:=?_) rfl (by kernel_rfl) (by kernel_rfl) (by kernel_rfl) (fun _ _ _ h => h) (Or.inl ⟨by rfl,?_⟩) (by assumption) ?_
    rotate_left
    ·intro w hSw
     (try dsimp only at hSw)
     go_simp
     (try with_reducible rfl)
    refine wpAnyH_take (i:=13) (oi:=_) (v:=?_) rfl (by kernel_rfl) (by kernel_rfl) (by kernel_rfl) (fun _ _ _ h => h) (Or.inl ⟨by rfl,?_⟩) (by assumption) ?_
    rotate_left
    ·intro w hSw
     (try dsimp only at hSw)
     go_simp
     (try with_reducible rfl)
    refine wpAnyH_take (i:=14) (oi:=_) (v:=?_) rfl (by kernel_rfl) (by kernel_rfl) (by kernel_rfl) (fun _ _ _ h => h) (Or.inl ⟨by rfl,?_⟩) (by assumption) ?_
    rotate_left
    ·intro w hSw
     (try dsimp only at hSw)
     go_simp
     (try with_reducible rfl)
    refine wpAnyH_take (i:=15) (oi:=_) (v:=?_) rfl (by kernel_rfl) (by kernel_rfl) (by kernel_rfl) (fun _ _ _ h => h) (Or.inl ⟨by rfl,?_⟩) (by assumption) ?_
    rotate_left
    ·intro w hSw
     (try dsimp only at hSw)
     go_simp
     (try with_reducible rfl)
    refine wpAnyH_take (i:=16) (oi:=_) (v:=?_) rfl (by kernel_rfl) (by kernel_rfl) (by kernel_rfl) (fun _ _ _ h => h) (Or.inl ⟨by rfl,?_⟩) (by assumption) ?_
    rotate_left
    ·intro w hSw
     (try dsimp only at hSw)
     go_simp
     (try with_reducible rfl)
    simp only [Act.put]
    have hbd:b < wr.drew.heap.size:=Nat.lt_of_lt_of_le hbw hbz
    refine wpAnyH_ready (rs:=[17]) (by kernel_rfl) (by simp) ?_
    refine AllReadyH.cons (o:=_) rfl (fun K hK => ?_) AllReadyH.nil
    go_simp
    refine hK.out _ _ ⟨(World.cell?_of_block (w:=wr.drew) (Below.heap_alloc _ _ _ hbd)).trans hHeld.1,(World.cell?_of_block (w:=wr.drew) (Below.heap_alloc _ _ _ hbd)).trans hHeld.2.1,(World.cell?_of_block (w:=wr.drew) (Below.heap_alloc _ _ _ hbd)).trans hHeld.2.2⟩ (fun hHeld => ?_)
    clear hK K
    refine wpAnyH_ready (rs:=[18]) (by kernel_rfl) (by simp) ?_
    refine AllReadyH.cons (o:=_) rfl (fun K hK => ?_) AllReadyH.nil
    rw [← hdv] at hHeld ⊢
    refine step_append_where rfl (.tmp 15) (.tmp 32) 22 rfl w.heap.size 2 i0 (.int .i64 0) 1 8 Tryz.underlying22 hi hz0 hz1 hz2 rfl (by decide) u3 i os rfl HRW.out ⟨wr.heap.size,0,none⟩ 1 1 [.int .i64 dv] rfl rfl (news1 wr _ _) (ones1 rfl) (by decide) (by unfold maxLen; omega) (by omega) (by simp; omega) ?_
    intro R4 cap4 w4 hown4 hg4 hR4
    have hne:some b ≠ u3.ownBlock:=fun e => by
     have:=(HO.out.lt b e.symm).1
     omega
    have hb4:w4.heap[b]? = (wr.alloc (.cells #[.int .i64 dv] 2)).heap[b]?:=hg4.block b (by simp; omega) hne
    have HREL:Hid (WnAt l w (i + 1) (.slice (some ⟨R4,0,none⟩) (i + 1) cap4) w4):=by
     refine ⟨by have:=HML.out; omega,(below_drewN (HB.out.alloc hbz _) 1).grown hg4 (by simp; omega) (fun b hb => (HO.out.lt b hb).1),?_⟩
     rw [HX.out,show ints (wnd (l.take (i + 2)) ++ [dv]) = ints (wnd (l.take (i + 2))) ++ [.int .i64 dv] by simp,← HOS.out]
     exact hown4
    refine hK.out _ _ ⟨(World.cell?_of_block hb4).trans hHeld.1,(World.cell?_of_block hb4).trans hHeld.2.1,(World.cell?_of_block hb4).trans hHeld.2.2⟩ (fun hHeld => ?_)
    clear hK K hown4 hg4 hR4
    simp only [Act.put]
    refine wpAnyH_take (i:=19) (oi:=_) (v:=?_) rfl (by kernel_rfl) (by kernel_rfl) (by kernel_rfl) (fun _ _ _ h => h) (Or.inl ⟨by rfl,?_⟩) (by assumption) ?_
    rotate_left
    ·intro w hSw
     (try dsimp only at hSw)
     go_simp
     (try with_reducible rfl)
    refine wpAnyH_done (by kernel_rfl) ?_ _
    clear hHeld hb4 hne
    go_wp2
    go_roundw
    case rel => exact ⟨i + 1,by go_num,HREL.out⟩
    case measure => simp [intOf]; omega
   ·have n3:¬ (i:Int) + 2 < (l.length:Int):=by omega
    have hwr2:IntKind.i64.wrap ((i:Int) + 2) = (i:Int) + 2:=IntWalk.i64_in _ ⟨by omega,by omega⟩
    have hfin:wnd (l.take (i + 2)) = wnd l:=by rw [List.take_of_length_le (by omega)]
    have hO:=HO.out
    have hlen:=wnd_len l
    have hil:i = (wnd l).length:=by omega
    rw [hfin] at hO
    have hO2:wr.ownsRow w.heap.size 2 1 u3 (wnd l).length (ints (wnd l)):=by rw [← hil]; exact hO
    have HV:=Sb.hide (own_reads hO2)
    have HA:Hid (Below wr.heap.size wr (wr.alloc (.cells #[.slice a l.length c] 22))):=(Below.refl _ wr).alloc (Nat.le_refl _) _
    have HB2:Hid (Below w.heap.size w (wr.alloc (.cells #[.slice a l.length c] 22))):=HB.out.alloc hbz _
    have HF:=Sb.hide (fd_one (c:=c) hw.out hl HB.out)
    have HT2:=Sb.hide (hT.out.below HB2.out)
    have HV2:=Sb.hide (HV.out.below HA.out)
    have HLN:=Sb.hide hlen
    clear hO hO2 HA n1 hfin hlen hil
    go_wp2_with fail
    refine (says_any window_asked [l] (some ⟨wr.heap.size,0,none⟩) 1 (fun _ => a) (fun _ => c) (wnd l) u3 _ HT2 HF (window_fits l) HV2 (window_says l hl).1 (window_says l hl).2 (by rw [HLN.out]; omega)).mono ?_
    rintro e w5 ⟨rfl,hb5⟩
    have HB5:=Sb.hide (HB2.out.trans (hb5.mono HB2.out.size))
    clear hb5
    go_wp2
    go_ret
    exact ⟨rfl,HB5.out⟩
 ·have n1:(100:Int) < (l.length:Int):=by omega
  go_wp2
  go_ret
  exact ⟨rfl,Below.refl _ w⟩
end Go.Proofs.YtnkphifgncidaaaGreatDoor.Vw

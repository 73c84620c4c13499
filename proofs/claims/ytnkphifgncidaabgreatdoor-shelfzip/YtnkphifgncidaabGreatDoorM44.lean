/- Two rows that are asked with. -/
import Derived.Test.YtnkphifgncidaabGreatDoorM43
import Derived.Test.YtnkphifgncidaabGreatDoorM42
set_option maxRecDepth 100000
set_option maxHeartbeats 1000000
namespace Go.Proofs.YtnkphifgncidaabGreatDoor.Vw
open Go.RowKit Vf Vm
theorem fd_two {w w':World} {a b:Option Addr} {c d:Nat} {l m:List Int} (h:In64 w w.heap.size a l) (hm:In64 w w.heap.size b m) (hl:l.length ≤ 100) (hl2:m.length ≤ 100) (hb:Below w.heap.size w w') :
  FdIn (w'.alloc (.cells #[.slice a l.length c,.slice b m.length d] 22)).heap.size (w'.alloc (.cells #[.slice a l.length c,.slice b m.length d] 22)) [l,m] (some ⟨w'.heap.size,0,none⟩) (fun i => if i = 0 then a else b) (fun i => if i = 0 then c else d):=by
 have hz:=hb.size
 have hnew:=heap_alloc_new w' (.cells #[.slice a l.length c,.slice b m.length d] 22)
 refine ⟨by simp,fun i f hf => ?_,fun i f hf => ?_⟩
 ·refine ⟨w'.heap.size,0,rfl,by simp,?_⟩
  match i,hf with
  | 0,hf => simp at hf; subst hf; simp only [World.cell?,hnew]; rfl
  | 1,hf => simp at hf; subst hf; simp only [World.cell?,hnew]; rfl
  | i + 2,hf => simp at hf
 ·match i,hf with
  | 0,hf =>
   simp at hf; subst hf
   refine ⟨by omega,fun j v hv => ?_⟩
   obtain ⟨b,off,e,hlt,hc⟩:=(h.below hb) j v hv
   exact ⟨b,off,e,by simp; omega,(cell_eq (Below.heap_alloc _ _ _ (by omega)) _).trans hc⟩
  | 1,hf =>
   simp at hf; subst hf
   refine ⟨by omega,fun j v hv => ?_⟩
   obtain ⟨b,off,e,hlt,hc⟩:=(hm.below hb) j v hv
   exact ⟨b,off,e,by simp; omega,(cell_eq (Below.heap_alloc _ _ _ (by omega)) _).trans hc⟩
  | i + 2,hf => simp at hf
end Go.Proofs.YtnkphifgncidaabGreatDoor.Vw
namespace Go.Proofs.YtnkphifgncidaabGreatDoor
namespace Xe
def nZip:ByteArray:=⟨#[122,105,112]⟩
def mZip:Vf.Md:=⟨[⟨1,20⟩,⟨1,20⟩],[⟨4,0,[],0,0,[⟨2,1,0⟩,⟨22,7,0⟩,⟨27,0,0⟩,⟨27,1,0⟩,⟨8,0,0⟩,⟨28,0,0⟩,⟨21,0,0⟩,⟨25,0,0⟩]⟩]⟩
set_option maxRecDepth 1000000 in
theorem ans_zip:ans (fn 14 [.string nZip] s0) = some mZip:=by kernel_rfl
end Xe
end Go.Proofs.YtnkphifgncidaabGreatDoor
namespace Go.Proofs.YtnkphifgncidaabGreatDoor.Vw
open Go.RowKit Vf Vm
abbrev zp (a b:List Int):List Int:=List.zipWith (fun x y => wrap (x + y)) a b
theorem zp_app (x:Int):∀ (p b:List Int),(∀ y,b[p.length]? = some y → zp (p ++ [x]) b = zp p b ++ [wrap (x + y)]) ∧ (b.length ≤ p.length → zp (p ++ [x]) b = zp p b)
 | [],[] => ⟨fun y h => by simp at h,fun _ => rfl⟩
 | [],u :: b => ⟨fun y h => by simp at h; subst h; rfl,fun h => by simp at h⟩
 | v :: p,[] => ⟨fun y h => by simp at h,fun _ => rfl⟩
 | v :: p,u :: b => by
  obtain ⟨h1,h2⟩:=zp_app x p b
  refine ⟨fun y h => ?_,fun h => ?_⟩
  ·have:=h1 y (by simpa using h)
   show wrap (v + u) :: zp (p ++ [x]) b = wrap (v + u) :: (zp p b ++ _)
   rw [this]
  ·have:=h2 (by simpa using h)
   show wrap (v + u) :: zp (p ++ [x]) b = wrap (v + u) :: zp p b
   rw [this]
theorem zp_len (a b:List Int):(zp a b).length ≤ a.length:=by rw [List.length_zipWith]; omega
open Xe in
theorem zip_goes (la lb:List Int):∀ (j k n:Nat) (out:List Int) (log:List Ev),la.length = k + j → k ≤ lb.length → 7 * j + 3 ≤ n →
  ∃ t x,(go lsX mZip n (tk 0 [] 0 out log) [⟨la,k,[]⟩,⟨lb,k,[]⟩]).2 = (t,x) ∧ t.out = out ++ zp (la.drop k) (lb.drop k) ∧ (stat lsX mZip t x).1 = 3
 | 0,k,n,out,log,hk,hkb,hn => by
  obtain ⟨n,rfl⟩:∃ n',n = n' + 2:=⟨n - 2,by omega⟩
  have hk:k = la.length:=by omega
  subst hk
  refine ⟨tk 0 [] 2 out log,[⟨la,la.length,[]⟩,⟨lb,la.length,[]⟩],?_,by simp,stat_none rfl rfl rfl⟩
  have e1:(go lsX mZip (n + 2) (tk 0 [] 0 out log) [⟨la,la.length,[]⟩,⟨lb,la.length,[]⟩]).2 = (go lsX mZip n (tk 0 [] 2 out log) [⟨la,la.length,[]⟩,⟨lb,la.length,[]⟩]).2:=by kernel_rfl
  rw [e1,go_halt (by rw [stat_none rfl rfl rfl]; decide)]
 | j + 1,k,n,out,log,hk,hkb,hn => by
  obtain ⟨n,rfl⟩:∃ n',n = n' + 7:=⟨n - 7,by omega⟩
  have hlt:k < la.length:=by omega
  obtain ⟨v,hv⟩:∃ v,la[k]? = some v:=⟨_,List.getElem?_eq_getElem hlt⟩
  have e1:(go lsX mZip (n + 7) (tk 0 [] 0 out log) [⟨la,k,[]⟩,⟨lb,k,[]⟩]).2 = (go lsX mZip (n + 5) (tk 0 [] 2 out log) [⟨la,k,[]⟩,⟨lb,k,[]⟩]).2:=by kernel_rfl
  have e2:one lsX mZip (tk 0 [] 2 out log) [⟨la,k,[]⟩,⟨lb,k,[]⟩] = (tk 0 [(la[k]?).getD 0] 3 out (log ++ [⟨3,0,(la[k]?).getD 0⟩]),[⟨la,k + 1,[]⟩,⟨lb,k,[]⟩]):=by kernel_rfl
  have g1:=go_on (X:=lsX) (m:=mZip) (n:=n + 4) (t:=tk 0 [] 2 out log) (x:=[⟨la,k,[]⟩,⟨lb,k,[]⟩]) (stat_more rfl rfl rfl hlt)
  rw [e2,hv] at g1
  simp only [Option.getD_some] at g1
  obtain ⟨lg,hlg⟩:∃ lg,lg = log ++ [⟨3,0,v⟩]:=⟨_,rfl⟩
  rw [← hlg] at g1
  by_cases hb:k < lb.length
  ·obtain ⟨u,hu⟩:∃ u,lb[k]? = some u:=⟨_,List.getElem?_eq_getElem hb⟩
   have e3:one lsX mZip (tk 0 [v] 3 out lg) [⟨la,k + 1,[]⟩,⟨lb,k,[]⟩] = (tk 0 [v,(lb[k]?).getD 0] 4 out (lg ++ [⟨3,1,(lb[k]?).getD 0⟩]),[⟨la,k + 1,[]⟩,⟨lb,k + 1,[]⟩]):=by kernel_rfl
   have g2:=go_on (X:=lsX) (m:=mZip) (n:=n + 3) (t:=tk 0 [v] 3 out lg) (x:=[⟨la,k + 1,[]⟩,⟨lb,k,[]⟩]) (stat_more1 rfl rfl rfl hb)
   rw [e3,hu] at g2
   simp only [Option.getD_some] at g2
   obtain ⟨lh,hlh⟩:∃ lh,lh = lg ++ [⟨3,1,u⟩]:=⟨_,rfl⟩
   rw [← hlh] at g2
   have e4:one lsX mZip (tk 0 [v,u] 4 out lh) [⟨la,k + 1,[]⟩,⟨lb,k + 1,[]⟩] = (Tk.reckon (tk 0 [v,u] 5 out lh) 8,[⟨la,k + 1,[]⟩,⟨lb,k + 1,[]⟩]):=by kernel_rfl
   have e5:Tk.reckon (tk 0 [v,u] 5 out lh) 8 = tk 0 [wrap (v + u)] 5 out lh:=(reckon_safe (by decide) (by decide)).trans (by kernel_rfl)
   have g3:=go_on (X:=lsX) (m:=mZip) (n:=n + 2) (t:=tk 0 [v,u] 4 out lh) (x:=[⟨la,k + 1,[]⟩,⟨lb,k + 1,[]⟩]) (by kernel_rfl)
   rw [e4,e5] at g3
   have e6:(go lsX mZip (n + 2) (tk 0 [wrap (v + u)] 5 out lh) [⟨la,k + 1,[]⟩,⟨lb,k + 1,[]⟩]).2 = (go lsX mZip n (tk 0 [] 0 (out ++ [wrap (v + u)]) (lh ++ [⟨1,0,wrap (v + u)⟩])) [⟨la,k + 1,[]⟩,⟨lb,k + 1,[]⟩]).2:=by kernel_rfl
   obtain ⟨t,x,h1,h2,h3⟩:=zip_goes la lb j (k + 1) n (out ++ [wrap (v + u)]) _ (by omega) (by omega) (by omega)
   refine ⟨t,x,e1.trans (g1.trans (g2.trans (g3.trans (e6.trans h1)))),?_,h3⟩
   rw [h2,drop_one hv,drop_one hu]
   simp [zp]
  ·have hkb2:k = lb.length:=by omega
   have hst:(stat lsX mZip (tk 0 [v] 3 out lg) [⟨la,k + 1,[]⟩,⟨lb,k,[]⟩]).1 = 3:=by rw [hkb2]; exact stat_none1 rfl rfl rfl
   refine ⟨tk 0 [v] 3 out lg,[⟨la,k + 1,[]⟩,⟨lb,k,[]⟩],e1.trans (g1.trans (go_halt (by rw [hst]; decide))),?_,hst⟩
   rw [List.drop_eq_nil_of_le (show lb.length ≤ k by omega)]
   simp [zp]
set_option maxRecDepth 1000000 in
theorem zip_fits (la lb:List Int):soloE Xe.mZip 0 5000 [la,lb] = 0:=by kernel_rfl
theorem zip_asked:Asked Xe.nZip Xe.mZip:=⟨Xe.ans_zip,by decide⟩
theorem zip_first (la lb:List Int):soloR Xe.mZip 0 5000 [la,lb] = go lsX Xe.mZip 5000 (tk 0 [] 0 [] []) [⟨la,0,[]⟩,⟨lb,0,[]⟩]:=by kernel_rfl
theorem zip_says (la lb:List Int) (h:la.length ≤ 100):(soloR Xe.mZip 0 5000 [la,lb]).2.1.out = zp la lb ∧ (stat lsX Xe.mZip (soloR Xe.mZip 0 5000 [la,lb]).2.1 (soloR Xe.mZip 0 5000 [la,lb]).2.2).1 = 3:=by
 rw [zip_first]
 obtain ⟨t,x,h1,h2,h3⟩:=zip_goes la lb la.length 0 5000 [] [] (by omega) (Nat.zero_le _) (by omega)
 rw [h1]
 exact ⟨by simpa using h2,h3⟩
def ZpAt (la lb:List Int) (w:World) (i:Nat) (vl:Value) (wr:World):Prop:=i ≤ la.length ∧ Below w.heap.size w wr ∧ wr.ownsRow w.heap.size 2 1 vl (zp (la.take i) lb).length (ints (zp (la.take i) lb))
theorem zip_any (la lb:List Int) (a b:Option Addr) (c d:Nat) (w:World) (hw:Hid (In64 w w.heap.size a la)) (hn:la.length ≤ 9223372036854775807) (hv:Hid (In64 w w.heap.size b lb)) (hn2:lb.length ≤ 9223372036854775807) (hT:Hid (Xe.Tabs w)) :
  Calls Tryz.prog 4 #[.slice a la.length c,.slice b lb.length d] w fun e w' => e = .returned (.bool true) ∧ Below w.heap.size w w':=by
 obtain ⟨i0,hi,hz0,hz1,hz2⟩:=info_parts info64
 go_enter Tryz.func4,Tryz.ntmps4
 by_cases hl:la.length ≤ 100
 ·have n1:¬ (100:Int) < (la.length:Int):=by omega
  by_cases hl2:lb.length ≤ 100
  ·have m1:¬ (100:Int) < (lb.length:Int):=by omega
   go_wp2
   go_loopw [5,17] (fun vl v wr => ∃ i:Nat,v = .int .i64 i ∧ ZpAt la lb w i vl wr) (fun _ v _ => la.length - (intOf v).toNat)
   case atStart => exact ⟨0,rfl,Nat.zero_le _,Below.refl _ w,⟨rfl,.inl ⟨rfl,rfl⟩⟩⟩
   case round =>
    obtain ⟨i,rfl,hk,hb,hown⟩:=hrel
    have HB:=Sb.hide hb
    have HO:=Sb.hide hown
    have hbz:=hb.size
    clear hb hown
    by_cases hlt:i < la.length
    ·obtain ⟨x,hx⟩:∃ x,la[i]? = some x:=⟨_,List.getElem?_eq_getElem hlt⟩
     obtain ⟨b1,off,ha,hbw,hc⟩:=(hw.out.below HB.out) i x hx
     have HX:Hid (la.take (i + 1) = la.take i ++ [x]):=by unfold Hid; rw [List.take_add_one,hx]; rfl
     have hti:(la.take i).length = i:=by rw [List.length_take]; omega
     have hzl:=zp_len (la.take i) lb
     rw [hti] at hzl
     obtain ⟨ml,hml⟩:∃ m,m = la.length:=⟨_,rfl⟩
     obtain ⟨os,hos⟩:∃ os,os = zp (la.take i) lb:=⟨_,rfl⟩
     obtain ⟨on,hon⟩:∃ on,on = os.length:=⟨_,rfl⟩
     obtain ⟨oi,hoi⟩:∃ oi,oi = ints os:=⟨_,rfl⟩
     have hon2:on ≤ i:=by rw [hon,hos]; exact hzl
     have HRW:Hid (wr.ownsRow w.heap.size 2 1 u5 on oi):=by unfold Hid; rw [hoi,hon,hos]; exact HO.out
     have HOS:=Sb.hide (And.intro hos (And.intro hon hoi))
     by_cases hib:i < lb.length
     ·obtain ⟨y,hy⟩:∃ y,lb[i]? = some y:=⟨_,List.getElem?_eq_getElem hib⟩
      obtain ⟨b2,off2,ha2,hbw2,hc2⟩:=(hv.out.below HB.out) i y hy
      obtain ⟨dv,hdv⟩:∃ dv,dv = IntKind.i64.wrap (x + y):=⟨_,rfl⟩
      have HZ:Hid (zp (la.take i ++ [x]) lb = zp (la.take i) lb ++ [dv]):=by
       unfold Hid
       rw [hdv,IntWalk.i64_left]
       exact (zp_app x (la.take i) lb).1 y (by rw [hti]; exact hy)
      obtain ⟨mb,hmb⟩:∃ m,m = lb.length:=⟨_,rfl⟩
      rw [ha,← hml,ha2,← hmb]
      rw [← hml] at hlt hl hn
      rw [← hmb] at hib hl2 hn2
      have HML:=Sb.hide hml
      have n0:(0:Int) ≤ (i:Int):=by omega
      have n2:(i:Int) < (ml:Int):=by omega
      have n4:(i:Int) < (mb:Int):=by omega
      have HRW2:Hid ((wr.alloc (.cells #[.int .i64 dv] 2)).drew.ownsRow w.heap.size 2 1 u5 on oi):=HRW.out.alloc _
      clear hml ha hx hy ha2 n1 m1 hos hon hoi hmb hti hzl
      go_upto_region 8 with fail
      refine wp_region_held_drew (S:=fun w' => w'.cell? ⟨b1,off + i,none⟩ = some (.int .i64 x) ∧ w'.cell? ⟨b2,off2 + i,none⟩ = some (.int .i64 y)) (by kernel_rfl) ⟨hc,hc2⟩ (fun hHeld => ?_)
      refine wpAnyH_take (i:=0) (oi:=_) (v:=?_) rfl (by kernel_rfl) (by kernel_rfl) (by kernel_rfl) (fun _ _ _ h => h) (Or.inl ⟨by rfl,?_⟩) (by assumption) ?_
      rotate_left
      ·intro w hSw
       (try dsimp only at hSw)
       go_simp
       (try with_reducible rfl)
      refine wpAnyH_take (i:=1) (oi:=_) (v:=?_) rfl (by kernel_rfl) (by kernel_rfl) (by kernel_rfl) (fun _ _ _ h => h) (Or.inl ⟨by rfl,?_⟩) (by assumption) ?_
      rotate_left
      ·intro w hSw
       (try dsimp only at hSw)
       go_simp
       (try with_reducible rfl)
      refine wpAnyH_take (i:=2) (oi:=_) (v:=?_) rfl (by kernel_rfl) (by kernel_rfl) (by kernel_rfl) (fun _ _ _ h => h) (Or.inl ⟨by rfl,?_⟩) (by assumption) ?_
      rotate_left
      ·intro w hSw
       (try dsimp only at hSw)
       go_simp
       (try with_reducible rfl)
      refine wpAnyH_take (i:=3) (oi:=_) (v:=?_) rfl (by kernel_rfl) (by kernel_rfl) (by kernel_rfl) (fun _ _ _ h => h) (Or.inl ⟨by rfl,?_⟩) (by assumption) ?_
      rotate_left
      ·intro w hSw
       (try dsimp only at hSw)
       go_simp
       (try with_reducible rfl)
      refine wpAnyH_take (i:=4) (oi:=_) (v:=?_) rfl (by kernel_rfl) (by kernel_rfl) (by kernel_rfl) (fun _ _ _ h => h) (Or.inl ⟨by rfl,?_⟩) (by assumption) ?_
      rotate_left
      ·intro w hSw
       (try dsimp only at hSw)
       go_simp
       (try with_reducible rfl)
      refine wpAnyH_take (i:=5) (oi:=_) (v:=?_) rfl (by kernel_rfl) (by kernel_rfl) (by kernel_rfl) (fun _ _ _ h => h) (Or.inl ⟨by rfl,?_⟩) (by assumption) ?_
      rotate_left
      ·intro w hSw
       (try dsimp only at hSw)
       go_simp
       (try with_reducible rfl)
      refine wpAnyH_take (i:=6) (oi:=_) (v:=?_) rfl (by kernel_rfl) (by kernel_rfl) (by kernel_rfl) (fun _ _ _ h => h) (Or.inl ⟨by rfl,?_⟩) (by assumption) ?_
      rotate_left
      ·intro w hSw
       (try dsimp only at hSw)
       go_simp
       (try with_reducible rfl)
      refine wpAnyH_take (i:=7) (oi:=_) (v:=?_) rfl (by kernel_rfl) (by kernel_rfl) (by kernel_rfl) (fun _ _ _ h => h) (Or.inl ⟨by rfl,?_⟩) (by assumption) ?_
      rotate_left
      ·intro w hSw
       (try dsimp only at hSw)
       go_simp
       (try with_reducible rfl)
      refine wpAnyH_take (i:=8) (oi:=_) (v:=?_) rfl (by kernel_rfl) (by kernel_rfl) (by kernel_rfl) (fun _ _ _ h => h) (Or.inl ⟨by rfl,?_⟩) (by assumption) ?_
      rotate_left
      ·intro w hSw
       (try dsimp only at hSw)
       go_simp
       (try with_reducible rfl)
      refine wpAnyH_take (i:=9) (oi:=_) (v:=?_) rfl (by kernel_rfl) (by kernel_rfl) (by kernel_rfl) (fun _ _ _ h => h) (Or.inl ⟨by rfl,?_⟩) (by assumption) ?_
      rotate_left
      ·intro w hSw
       (try dsimp only at hSw)
       go_simp
       (try with_reducible rfl)
      simp only [Act.put]
      have hbd:b1 < wr.drew.heap.size:=Nat.lt_of_lt_of_le hbw hbz
      have hbd2:b2 < wr.drew.heap.size:=Nat.lt_of_lt_of_le hbw2 hbz
      refine wpAnyH_ready (rs:=[10]) (by kernel_rfl) (by simp) ?_
      refine AllReadyH.cons (o:=_) rfl (fun K hK => ?_) AllReadyH.nil
      go_simp
      refine hK.out _ _ ⟨(World.cell?_of_block (w:=wr.drew) (Below.heap_alloc _ _ _ hbd)).trans hHeld.1,(World.cell?_of_block (w:=wr.drew) (Below.heap_alloc _ _ _ hbd2)).trans hHeld.2⟩ (fun hHeld => ?_)
      clear hK K
      refine wpAnyH_ready (rs:=[11]) (by kernel_rfl) (by simp) ?_
      refine AllReadyH.cons (o:=_) rfl (fun K hK => ?_) AllReadyH.nil
      rw [← hdv] at hHeld ⊢
      refine step_append_where rfl (.tmp 24) (.tmp 34) 22 rfl w.heap.size 2 i0 (.int .i64 0) 1 8 Tryz.underlying22 hi hz0 hz1 hz2 rfl (by decide) u5 on oi rfl HRW2.out ⟨wr.heap.size,0,none⟩ 1 1 [.int .i64 dv] rfl rfl (news1 wr _ _) (ones1 rfl) (by decide) (by unfold maxLen; omega) (by omega) (by simp; omega) ?_
      intro R4 cap4 w4 hown4 hg4 hR4
      have hne:∀ q,q < w.heap.size → some q ≠ u5.ownBlock:=fun q hq e => by
       have:=(HO.out.lt q e.symm).1
       omega
      have hb4:∀ q,q < w.heap.size → w4.heap[q]? = (wr.alloc (.cells #[.int .i64 dv] 2)).heap[q]?:=fun q hq => hg4.block q (by simp; omega) (hne q hq)
      have HREL:Hid (ZpAt la lb w (i + 1) (.slice (some ⟨R4,0,none⟩) (on + 1) cap4) w4):=by
       refine ⟨by have:=HML.out; omega,(below_drewN (HB.out.alloc hbz _) 1).grown hg4 (by simp; omega) (fun b hb => (HO.out.lt b hb).1),?_⟩
       rw [HX.out,HZ.out,List.length_append,← HOS.out.1,← HOS.out.2.1,show ints (os ++ [dv]) = ints os ++ [.int .i64 dv] by simp,← HOS.out.2.2]
       exact hown4
      refine hK.out _ _ ⟨(World.cell?_of_block (hb4 b1 hbw)).trans hHeld.1,(World.cell?_of_block (hb4 b2 hbw2)).trans hHeld.2⟩ (fun hHeld => ?_)
      clear hK K hown4 hg4 hR4
      simp only [Act.put]
      refine wpAnyH_take (i:=12) (oi:=_) (v:=?_) rfl (by kernel_rfl) (by kernel_rfl) (by kernel_rfl) (fun _ _ _ h => h) (Or.inl ⟨by rfl,?_⟩) (by assumption) ?_
      rotate_left
      ·intro w hSw
       (try dsimp only at hSw)
       go_simp
       (try with_reducible rfl)
      refine wpAnyH_done (by kernel_rfl) ?_ _
      clear hHeld hb4 hne
      go_wp2
      go_roundw
      case rel => exact ⟨i + 1,by go_num,HREL.out⟩
      case measure => simp [intOf]; omega
     ·have HREL:Hid (ZpAt la lb w (i + 1) u5 wr):=by
       refine ⟨by omega,HB.out,?_⟩
       rw [HX.out,(zp_app x (la.take i) lb).2 (by rw [hti]; omega)]
       exact HO.out
      rw [← hml]
      rw [← hml] at hlt hl hn
      have n2:(i:Int) < (ml:Int):=by omega
      have n4:¬ (i:Int) < (lb.length:Int):=by omega
      have HML:=Sb.hide hml
      clear hml ha hx n1 m1 hos hon hoi hti hzl hc
      go_wp2
      go_roundw
      case rel => exact ⟨i + 1,by go_num,HREL.out⟩
      case measure => simp [intOf]; omega
    ·have n3:¬ (i:Int) < (la.length:Int):=by omega
     have ek:i = la.length:=by omega
     subst ek
     have hO:=HO.out
     rw [List.take_length] at hO
     have HV:=Sb.hide (own_reads hO)
     have HA:Hid (Below wr.heap.size wr (wr.alloc (.cells #[.slice a la.length c,.slice b lb.length d] 22))):=(Below.refl _ wr).alloc (Nat.le_refl _) _
     have HB2:Hid (Below w.heap.size w (wr.alloc (.cells #[.slice a la.length c,.slice b lb.length d] 22))):=HB.out.alloc hbz _
     have HF:=Sb.hide (fd_two (c:=c) (d:=d) hw.out hv.out hl hl2 HB.out)
     have HT2:=Sb.hide (hT.out.below HB2.out)
     have HV2:=Sb.hide (HV.out.below HA.out)
     have hfl:=zp_len la lb
     clear hO HA n1 n3 m1
     go_wp2_with fail
     refine (says_any zip_asked [la,lb] (some ⟨wr.heap.size,0,none⟩) 2 _ _ (zp la lb) u5 _ HT2 HF (zip_fits la lb) HV2 (zip_says la lb hl).1 (zip_says la lb hl).2 (by omega)).mono ?_
     rintro e w5 ⟨rfl,hb5⟩
     have HB5:=Sb.hide (HB2.out.trans (hb5.mono HB2.out.size))
     clear hb5
     go_wp2
     go_ret
     exact ⟨rfl,HB5.out⟩
  ·have m1:(100:Int) < (lb.length:Int):=by omega
   go_wp2
   go_ret
   exact ⟨rfl,Below.refl _ w⟩
 ·have n1:(100:Int) < (la.length:Int):=by omega
  go_wp2
  go_ret
  exact ⟨rfl,Below.refl _ w⟩
end Go.Proofs.YtnkphifgncidaabGreatDoor.Vw

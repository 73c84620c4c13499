/- What dedupe does,plainly. -/
import Derived.Test.YtnkphifgncidaaaGreatDoorM43
set_option maxRecDepth 100000
set_option maxHeartbeats 1000000
namespace Go.Proofs.YtnkphifgncidaaaGreatDoor.Vw
open Go.RowKit Vf Vm
structure Dd where
 la:Int
 o:List Int
def ddS (s:Dd) (v:Int):Dd:=if (v != s.la) = true then ⟨v,s.o ++ [v]⟩ else s
def ddF (s:Dd) (l:List Int):Dd:=l.foldl ddS s
def dd:List Int → Dd
 | [] => ⟨0,[]⟩
 | v :: l => ddF ⟨v,[v]⟩ l
theorem dd_app (x:Int):∀ (p:List Int),p ≠ [] → dd (p ++ [x]) = ddS (dd p) x
 | [],h => absurd rfl h
 | v :: p,_ => by simp [dd,ddF,List.foldl_append]
theorem ddS_la (s:Dd) (v:Int):(ddS s v).la = v:=by
 unfold ddS
 split
 ·rfl
 ·rename_i h
  have:v = s.la:=by simpa using h
  exact this.symm
theorem dd_la (x:Int) (p:List Int):(dd (p ++ [x])).la = x:=by
 cases p with
 | nil => rfl
 | cons v p => rw [dd_app x _ (by simp),ddS_la]
theorem ddS_len (s:Dd) (v:Int):(ddS s v).o.length ≤ s.o.length + 1:=by
 unfold ddS
 split
 ·simp
 ·simp
theorem ddF_len:∀ (l:List Int) (s:Dd),(ddF s l).o.length ≤ s.o.length + l.length
 | [],s => by simp [ddF]
 | v :: l,s => by
  have h1:=ddF_len l (ddS s v)
  have h2:=ddS_len s v
  show (ddF (ddS s v) l).o.length ≤ _
  simp
  omega
theorem dd_len (l:List Int):(dd l).o.length ≤ l.length:=by
 cases l with
 | nil => simp [dd]
 | cons v l =>
  have:=ddF_len l ⟨v,[v]⟩
  show (ddF ⟨v,[v]⟩ l).o.length ≤ _
  simp at this ⊢
  omega
open Xe in
theorem dedupe_goes (l:List Int):∀ (j k n:Nat) (s:Dd) (x:Int) (log:List Ev),l.length = k + j → 14 * j + 2 ≤ n →
  ∃ t y,(go lsX mDedupe n (tk 0 [s.la,x] 4 s.o log) [⟨l,k,[]⟩]).2 = (t,y) ∧ t.out = (ddF s (l.drop k)).o ∧ (stat lsX mDedupe t y).1 = 3
 | 0,k,n,s,x,log,hk,hn => by
  obtain ⟨n,rfl⟩:∃ n',n = n' + 2:=⟨n - 2,by omega⟩
  have hk:k = l.length:=by omega
  subst hk
  refine ⟨tk 0 [s.la,x] 6 s.o log,[⟨l,l.length,[]⟩],?_,by simp [ddF],stat_none rfl rfl rfl⟩
  have e1:(go lsX mDedupe (n + 2) (tk 0 [s.la,x] 4 s.o log) [⟨l,l.length,[]⟩]).2 = (go lsX mDedupe n (tk 0 [s.la,x] 6 s.o log) [⟨l,l.length,[]⟩]).2:=by kernel_rfl
  rw [e1,go_halt (by rw [stat_none rfl rfl rfl]; decide)]
 | j + 1,k,n,⟨la,o⟩,x,log,hk,hn => by
  obtain ⟨n,rfl⟩:∃ n',n = n' + 14:=⟨n - 14,by omega⟩
  have hlt:k < l.length:=by omega
  obtain ⟨v,hv⟩:∃ v,l[k]? = some v:=⟨_,List.getElem?_eq_getElem hlt⟩
  have e1:(go lsX mDedupe (n + 14) (tk 0 [la,x] 4 o log) [⟨l,k,[]⟩]).2 = (go lsX mDedupe (n + 12) (tk 0 [la,x] 6 o log) [⟨l,k,[]⟩]).2:=by kernel_rfl
  have e2:one lsX mDedupe (tk 0 [la,x] 6 o log) [⟨l,k,[]⟩] = (tk 0 [la,x,(l[k]?).getD 0] 7 o (log ++ [⟨3,0,(l[k]?).getD 0⟩]),[⟨l,k + 1,[]⟩]):=by kernel_rfl
  have g1:=go_on (X:=lsX) (m:=mDedupe) (n:=n + 11) (t:=tk 0 [la,x] 6 o log) (x:=[⟨l,k,[]⟩]) (stat_more rfl rfl rfl hlt)
  rw [e2,hv] at g1
  obtain ⟨lg,hlg⟩:∃ lg,lg = log ++ [⟨3,0,v⟩]:=⟨_,rfl⟩
  simp only [Option.getD_some] at g1
  rw [← hlg] at g1
  have e3:(go lsX mDedupe (n + 11) (tk 0 [la,x,v] 7 o lg) [⟨l,k + 1,[]⟩]).2 = (go lsX mDedupe (n + 8) (tk 0 [la,v,v,la] 10 o lg) [⟨l,k + 1,[]⟩]).2:=by kernel_rfl
  have e4:one lsX mDedupe (tk 0 [la,v,v,la] 10 o lg) [⟨l,k + 1,[]⟩] = (Tk.reckon (tk 0 [la,v,v,la] 11 o lg) 14,[⟨l,k + 1,[]⟩]):=by kernel_rfl
  have e5:Tk.reckon (tk 0 [la,v,v,la] 11 o lg) 14 = tk 0 [la,v,yes (v != la)] 11 o lg:=(reckon_safe (by decide) (by decide)).trans (by kernel_rfl)
  have g2:=go_on (X:=lsX) (m:=mDedupe) (n:=n + 7) (t:=tk 0 [la,v,v,la] 10 o lg) (x:=[⟨l,k + 1,[]⟩]) (by kernel_rfl)
  rw [e4,e5] at g2
  have e6:=e1.trans (g1.trans (e3.trans g2))
  have hd:ddF ⟨la,o⟩ (l.drop k) = ddF (ddS ⟨la,o⟩ v) (l.drop (k + 1)):=by rw [drop_one hv]; rfl
  cases hb:(v != la) with
  | true =>
   rw [hb] at e6
   have e7:(go lsX mDedupe (n + 7) (tk 0 [la,v,yes true] 11 o lg) [⟨l,k + 1,[]⟩]).2 = (go lsX mDedupe n (tk 0 [v,v] 4 (o ++ [v]) (lg ++ [⟨1,0,v⟩])) [⟨l,k + 1,[]⟩]).2:=by kernel_rfl
   obtain ⟨t,y,h1,h2,h3⟩:=dedupe_goes l j (k + 1) n ⟨v,o ++ [v]⟩ v _ (by omega) (by omega)
   refine ⟨t,y,e6.trans (e7.trans h1),?_,h3⟩
   rw [h2,hd]
   unfold ddS
   rw [if_pos hb]
  | false =>
   rw [hb] at e6
   have e7:(go lsX mDedupe (n + 7) (tk 0 [la,v,yes false] 11 o lg) [⟨l,k + 1,[]⟩]).2 = (go lsX mDedupe (n + 5) (tk 0 [la,v] 4 o lg) [⟨l,k + 1,[]⟩]).2:=by kernel_rfl
   obtain ⟨t,y,h1,h2,h3⟩:=dedupe_goes l j (k + 1) (n + 5) ⟨la,o⟩ v lg (by omega) (by omega)
   refine ⟨t,y,e6.trans (e7.trans h1),?_,h3⟩
   rw [h2,hd]
   unfold ddS
   rw [if_neg (by rw [hb]; simp)]
set_option maxRecDepth 1000000 in
theorem dedupe_fits (l:List Int):soloE Xe.mDedupe 0 5000 [l] = 0:=by kernel_rfl
theorem dedupe_asked:Asked Xe.nDedupe Xe.mDedupe:=⟨Xe.ans_dedupe,by decide⟩
theorem dedupe_first (l:List Int):soloR Xe.mDedupe 0 5000 [l] = go lsX Xe.mDedupe 5000 (tk 0 [0,0] 0 [] []) [⟨l,0,[]⟩]:=by kernel_rfl
theorem dedupe_start (l:List Int) (v:Int) (hv:l[0]? = some v) (n:Nat):∃ lg,(go lsX Xe.mDedupe (n + 4) (tk 0 [0,0] 0 [] []) [⟨l,0,[]⟩]).2 = (go lsX Xe.mDedupe n (tk 0 [v,0] 4 [v] lg) [⟨l,1,[]⟩]).2:=by
 have hlt:0 < l.length:=(List.getElem?_eq_some_iff.1 hv).1
 have e2:one lsX Xe.mDedupe (tk 0 [0,0] 0 [] []) [⟨l,0,[]⟩] = (tk 0 [0,0,(l[0]?).getD 0] 1 [] [⟨3,0,(l[0]?).getD 0⟩],[⟨l,1,[]⟩]):=by kernel_rfl
 have g1:=go_on (X:=lsX) (m:=Xe.mDedupe) (n:=n + 3) (t:=tk 0 [0,0] 0 [] []) (x:=[⟨l,0,[]⟩]) (stat_more rfl rfl rfl hlt)
 rw [e2,hv] at g1
 have e3:(go lsX Xe.mDedupe (n + 3) (tk 0 [0,0,v] 1 [] [⟨3,0,v⟩]) [⟨l,1,[]⟩]).2 = (go lsX Xe.mDedupe n (tk 0 [v,0] 4 [v] [⟨3,0,v⟩,⟨1,0,v⟩]) [⟨l,1,[]⟩]).2:=by kernel_rfl
 exact ⟨_,g1.trans e3⟩
theorem dedupe_says (l:List Int) (h:l.length ≤ 100):(soloR Xe.mDedupe 0 5000 [l]).2.1.out = (dd l).o ∧ (stat lsX Xe.mDedupe (soloR Xe.mDedupe 0 5000 [l]).2.1 (soloR Xe.mDedupe 0 5000 [l]).2.2).1 = 3:=by
 rw [dedupe_first]
 cases l with
 | nil =>
  have h0:(stat lsX Xe.mDedupe (tk 0 [0,0] 0 [] []) [⟨[],0,[]⟩]).1 = 3:=by kernel_rfl
  rw [go_halt (by rw [h0]; decide)]
  exact ⟨rfl,h0⟩
 | cons v l =>
  obtain ⟨lg,hs⟩:=dedupe_start (v :: l) v rfl 4996
  obtain ⟨t,x,h1,h2,h3⟩:=dedupe_goes (v :: l) l.length 1 4996 ⟨v,[v]⟩ 0 lg (by simp; omega) (by simp at h; omega)
  have hs':(go lsX Xe.mDedupe 5000 (tk 0 [0,0] 0 [] []) [⟨v :: l,0,[]⟩]).2 = (t,x):=hs.trans h1
  rw [hs']
  exact ⟨by rw [h2]; rfl,h3⟩
def DdAt (l:List Int) (w:World) (k:Nat) (vl:Value) (wr:World):Prop:=k ≤ l.length ∧ Below w.heap.size w wr ∧ wr.ownsRow w.heap.size 2 1 vl (dd (l.take k)).o.length (ints (dd (l.take k)).o)
theorem dedupe_any (l:List Int) (a:Option Addr) (c:Nat) (w:World) (hw:Hid (In64 w w.heap.size a l)) (hn:l.length ≤ 9223372036854775807) (hT:Hid (Xe.Tabs w)) :
  Calls Tryz.prog 4 #[.slice a l.length c] w fun e w' => e = .returned (.bool true) ∧ Below w.heap.size w w':=by
 obtain ⟨i0,hi,hz0,hz1,hz2⟩:=info_parts info64
 go_enter Tryz.func4,Tryz.ntmps4
 by_cases hl:l.length ≤ 100
 ·have n1:¬ (100:Int) < (l.length:Int):=by omega
  go_wp2
  go_loopw [3,11] (fun vl v wr => ∃ k:Nat,v = .int .i64 k ∧ DdAt l w k vl wr) (fun _ v _ => l.length - (intOf v).toNat)
  case atStart => exact ⟨0,rfl,Nat.zero_le _,Below.refl _ w,⟨rfl,.inl ⟨rfl,rfl⟩⟩⟩
  case round =>
   obtain ⟨k,rfl,hk,hb,hown⟩:=hrel
   have HB:=Sb.hide hb
   have HO:=Sb.hide hown
   have hbz:=hb.size
   clear hb hown
   by_cases hlt:k < l.length
   ·obtain ⟨x,hx⟩:∃ x,l[k]? = some x:=⟨_,List.getElem?_eq_getElem hlt⟩
    obtain ⟨b,off,ha,hbw,hc⟩:=(hw.out.below HB.out) k x hx
    have HX:Hid (l.take (k + 1) = l.take k ++ [x]):=by unfold Hid; rw [List.take_add_one,hx]; rfl
    cases k with
    | zero =>
     have HRW2:Hid ((wr.alloc (.cells #[.int .i64 x] 2)).ownsRow w.heap.size 2 1 u3 0 []):=HO.out.alloc _
     obtain ⟨ml,hml⟩:∃ m,m = l.length:=⟨_,rfl⟩
     rw [ha,← hml]
     rw [← hml] at hlt hl hn
     have n2:((0:Nat):Int) < (ml:Int):=by omega
     have hc0:wr.cell? ⟨b,off,none⟩ = some (.int .i64 x):=hc
     have HML:=Sb.hide hml
     clear ha hx n1 hml
     go_wp2_with (at_builtin; refine wpList_append_where rfl (.tmp 27) (.tmp 29) 22 rfl w.heap.size 2 i0 (.int .i64 0) 1 8 Tryz.underlying22 hi hz0 hz1 hz2 rfl (by decide) u3 0 [] rfl HRW2.out ⟨wr.heap.size,0,none⟩ 1 1 [.int .i64 x] rfl rfl (news1 wr _ _) (ones1 rfl) (by decide) (by decide) (by decide) (by simp; omega) ?_)
     intro R4 cap4 w4 hown4 hg4 hR4
     have HREL:Hid (DdAt l w 1 (.slice (some ⟨R4,0,none⟩) (0 + 1) cap4) w4):=by
      refine ⟨by have:=HML.out; omega,(HB.out.alloc hbz _).grown hg4 (by simp; omega) (fun b hb => (HO.out.lt b hb).1),?_⟩
      rw [HX.out]
      exact hown4
     clear hown4 hg4 hR4
     go_wp2
     go_roundw
     case rel => exact ⟨1,by go_num,HREL.out⟩
     case measure => have:=HML.out; simp [intOf]; omega
    | succ q =>
     obtain ⟨y,hy⟩:∃ y,l[q]? = some y:=⟨_,List.getElem?_eq_getElem (by omega)⟩
     obtain ⟨b2,off2,ha2,_,hc2⟩:=(hw.out.below HB.out) q y hy
     rw [ha] at ha2
     cases ha2
     have hne:l.take (q + 1) ≠ []:=by
      intro h
      have h2:(l.take (q + 1)).length = 0:=by rw [h]; rfl
      rw [List.length_take] at h2
      omega
     have hla:(dd (l.take (q + 1))).la = y:=by
      rw [List.take_add_one,hy]
      exact dd_la y _
     have hst:=dd_app x (l.take (q + 1)) hne
     rw [← HX.out] at hst
     have hlen:=dd_len (l.take (q + 1))
     rw [List.length_take] at hlen
     obtain ⟨s,hs⟩:∃ s,s = dd (l.take (q + 1)):=⟨_,rfl⟩
     have hO:=HO.out
     rw [← hs] at hla hst hlen hO
     obtain ⟨la,o⟩:=s
     have hla:la = y:=hla
     subst hla
     obtain ⟨ml,hml⟩:∃ m,m = l.length:=⟨_,rfl⟩
     rw [ha,← hml]
     rw [← hml] at hlt hl hn
     have hol:o.length ≤ 200:=by
      have h1:o.length ≤ min (q + 1) l.length:=hlen
      have h2:min (q + 1) l.length ≤ l.length:=Nat.min_le_right _ _
      omega
     have HML:=Sb.hide hml
     have HST:=Sb.hide hst
     have HO2:Hid (wr.ownsRow w.heap.size 2 1 u3 o.length (ints o)):=hO
     obtain ⟨on,hon⟩:∃ on,on = o.length:=⟨_,rfl⟩
     obtain ⟨oi,hoi⟩:∃ oi,oi = ints o:=⟨_,rfl⟩
     have hon2:on ≤ 200:=by omega
     have HRW:Hid (wr.ownsRow w.heap.size 2 1 u3 on oi):=by unfold Hid; rw [hoi,hon]; exact hO
     have HOS:=Sb.hide (And.intro hon hoi)
     have n0:(0:Int) < ((q + 1:Nat):Int):=by omega
     have n2:((q + 1:Nat):Int) < (ml:Int):=by omega
     have n3:(0:Int) ≤ (q:Int):=by omega
     have n4:(q:Int) < (ml:Int):=by omega
     have n5:¬ (q:Int) + 1 = 0:=by omega
     have n6:(q:Int) + 1 < (ml:Int):=by omega
     have n7:((q:Int) + 1 == 0) = false:=by simpa using n5
     clear ha hx hy n1 hml hlen hst hO hon hoi hs hne hol
     cases hev:(x != la) with
     | false =>
      have ht:(la != x) = false:=by
       have:x = la:=by simpa using hev
       rw [this]; simp
      have HREL:Hid (DdAt l w (q + 1 + 1) u3 wr):=by
       have e:=HST.out
       unfold ddS at e
       rw [if_neg (by rw [hev]; simp)] at e
       refine ⟨by have:=HML.out; omega,HB.out,?_⟩
       rw [e]; exact HO2.out
      clear hev
      go_wp2
      go_roundw
      case rel => exact ⟨q + 1 + 1,by go_num,HREL.out⟩
      case measure => simp [intOf]; omega
     | true =>
      have ht:(la != x) = true:=by
       have h0:¬ x = la:=by simpa using hev
       have:¬ la = x:=fun h => h0 h.symm
       simpa using this
      have HRW2:Hid ((wr.alloc (.cells #[.int .i64 x] 2)).ownsRow w.heap.size 2 1 u3 on oi):=HRW.out.alloc _
      have HEV:=Sb.hide hev
      clear hev
      go_wp2_with (at_builtin; refine wpList_append_where rfl (.tmp 27) (.tmp 29) 22 rfl w.heap.size 2 i0 (.int .i64 0) 1 8 Tryz.underlying22 hi hz0 hz1 hz2 rfl (by decide) u3 on oi rfl HRW2.out ⟨wr.heap.size,0,none⟩ 1 1 [.int .i64 x] rfl rfl (news1 wr _ _) (ones1 rfl) (by decide) (by unfold maxLen; omega) (by omega) (by simp; omega) ?_)
      intro R4 cap4 w4 hown4 hg4 hR4
      have HREL:Hid (DdAt l w (q + 1 + 1) (.slice (some ⟨R4,0,none⟩) (on + 1) cap4) w4):=by
       have e:=HST.out
       unfold ddS at e
       rw [if_pos HEV.out] at e
       refine ⟨by have:=HML.out; omega,(HB.out.alloc hbz _).grown hg4 (by simp; omega) (fun b hb => (HO.out.lt b hb).1),?_⟩
       rw [e]
       show w4.ownsRow w.heap.size 2 1 _ (o ++ [x]).length (ints (o ++ [x]))
       rw [List.length_append,← HOS.out.1,show ints (o ++ [x]) = ints o ++ [.int .i64 x] by simp,← HOS.out.2]
       exact hown4
      clear hown4 hg4 hR4
      go_wp2
      go_roundw
      case rel => exact ⟨q + 1 + 1,by go_num,HREL.out⟩
      case measure => simp [intOf]; omega
   ·have n3:¬ (k:Int) < (l.length:Int):=by omega
    have ek:k = l.length:=by omega
    subst ek
    have hO:=HO.out
    rw [List.take_length] at hO
    have HV:=Sb.hide (own_reads hO)
    have HA:Hid (Below wr.heap.size wr (wr.alloc (.cells #[.slice a l.length c] 22))):=(Below.refl _ wr).alloc (Nat.le_refl _) _
    have HB2:Hid (Below w.heap.size w (wr.alloc (.cells #[.slice a l.length c] 22))):=HB.out.alloc hbz _
    have HF:=Sb.hide (fd_one (c:=c) hw.out hl HB.out)
    have HT2:=Sb.hide (hT.out.below HB2.out)
    have HV2:=Sb.hide (HV.out.below HA.out)
    have hfl:=dd_len l
    clear hO HA n1 n3
    go_wp2_with fail
    refine (says_any dedupe_asked [l] (some ⟨wr.heap.size,0,none⟩) 1 (fun _ => a) (fun _ => c) (dd l).o u3 _ HT2 HF (dedupe_fits l) HV2 (dedupe_says l hl).1 (dedupe_says l hl).2 (by omega)).mono ?_
    rintro e w5 ⟨rfl,hb5⟩
    have HB5:=Sb.hide (HB2.out.trans (hb5.mono HB2.out.size))
    clear hb5
    go_wp2
    go_ret
    exact ⟨rfl,HB5.out⟩
 ·have n1:(100:Int) < (l.length:Int):=by omega
  go_wp2
  go_ret
  exact ⟨rfl,Below.refl _ w⟩
end Go.Proofs.YtnkphifgncidaaaGreatDoor.Vw

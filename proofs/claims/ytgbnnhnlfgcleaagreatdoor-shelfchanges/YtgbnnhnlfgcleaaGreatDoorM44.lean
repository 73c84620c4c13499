/- What changes does; the walk of ShelfChanges. -/
import Derived.Test.YtgbnnhnlfgcleaaGreatDoorM43
set_option maxRecDepth 100000
set_option maxHeartbeats 1000000
namespace Go.Proofs.YtgbnnhnlfgcleaaGreatDoor.Vw
open Go.RowKit Vf Vm
theorem news2 (W:World) (a b:Value) (t:TypeId):∀ j u,[a,b][j]? = some u → (W.alloc (.cells #[a,b] t)).cell? ((⟨W.heap.size,0,none⟩:Addr).add j) = some u:=by
 intro j u hu
 rw [add_none,World.cell?_alloc_mark]
 match j,hu with
 | 0,hu => simpa using hu
 | 1,hu => simpa using hu
 | n + 2,hu => simp at hu
theorem ones2 {a b:Value} (ha:a.oneCell' = true) (hb:b.oneCell' = true):∀ u ∈ [a,b],u.oneCell' = true:=by
 intro u hu
 simp only [List.mem_cons,List.not_mem_nil,or_false] at hu
 rcases hu with rfl | rfl
 ·exact ha
 ·exact hb
structure Cg where
 la:Int
 n:Int
 o:List Int
def cgS (s:Cg) (v:Int):Cg:=if v == s.la then ⟨s.la,wrap (s.n + 1),s.o⟩ else ⟨v,1,s.o ++ [s.la,s.n]⟩
def cgF (s:Cg) (l:List Int):Cg:=l.foldl cgS s
def cg:List Int → Cg
 | [] => ⟨0,0,[]⟩
 | v :: l => cgF ⟨v,1,[]⟩ l
theorem cg_app (x:Int):∀ (p:List Int),p ≠ [] → cg (p ++ [x]) = cgS (cg p) x
 | [],h => absurd rfl h
 | v :: p,_ => by simp [cg,cgF,List.foldl_append]
theorem cgS_la (s:Cg) (v:Int):(cgS s v).la = v:=by
 unfold cgS
 split
 ·rename_i h
  have:v = s.la:=by simpa using h
  exact this.symm
 ·rfl
theorem cg_la (x:Int) (p:List Int):(cg (p ++ [x])).la = x:=by
 cases p with
 | nil => rfl
 | cons v p => rw [cg_app x _ (by simp),cgS_la]
theorem cgS_len (s:Cg) (v:Int):(cgS s v).o.length ≤ s.o.length + 2:=by
 unfold cgS
 split
 ·simp
 ·simp
theorem cgF_len:∀ (l:List Int) (s:Cg),(cgF s l).o.length ≤ s.o.length + 2 * l.length
 | [],s => by simp [cgF]
 | v :: l,s => by
  have h1:=cgF_len l (cgS s v)
  have h2:=cgS_len s v
  show (cgF (cgS s v) l).o.length ≤ _
  simp
  omega
theorem cg_len (l:List Int):(cg l).o.length ≤ 2 * l.length:=by
 cases l with
 | nil => simp [cg]
 | cons v l =>
  have:=cgF_len l ⟨v,1,[]⟩
  show (cgF ⟨v,1,[]⟩ l).o.length ≤ _
  simp at this ⊢
  omega
open Xe in
theorem changes_goes (l:List Int):∀ (j k n:Nat) (s:Cg) (x:Int) (log:List Ev),l.length = k + j → 17 * j + 2 ≤ n →
  ∃ t y,(go lsX mChanges n (tk 0 [s.la,s.n,x] 4 s.o log) [⟨l,k,[]⟩]).2 = (t,y) ∧ t.out = (cgF s (l.drop k)).o ∧ (stat lsX mChanges t y).1 = 3
 | 0,k,n,s,x,log,hk,hn => by
  obtain ⟨n,rfl⟩:∃ n',n = n' + 2:=⟨n - 2,by omega⟩
  have hk:k = l.length:=by omega
  subst hk
  refine ⟨tk 0 [s.la,s.n,x] 6 s.o log,[⟨l,l.length,[]⟩],?_,by simp [cgF],stat_none rfl rfl rfl⟩
  have e1:(go lsX mChanges (n + 2) (tk 0 [s.la,s.n,x] 4 s.o log) [⟨l,l.length,[]⟩]).2 = (go lsX mChanges n (tk 0 [s.la,s.n,x] 6 s.o log) [⟨l,l.length,[]⟩]).2:=by kernel_rfl
  rw [e1,go_halt (by rw [stat_none rfl rfl rfl]; decide)]
 | j + 1,k,n,⟨la,c,o⟩,x,log,hk,hn => by
  obtain ⟨n,rfl⟩:∃ n',n = n' + 17:=⟨n - 17,by omega⟩
  have hlt:k < l.length:=by omega
  obtain ⟨v,hv⟩:∃ v,l[k]? = some v:=⟨_,List.getElem?_eq_getElem hlt⟩
  have e1:(go lsX mChanges (n + 17) (tk 0 [la,c,x] 4 o log) [⟨l,k,[]⟩]).2 = (go lsX mChanges (n + 15) (tk 0 [la,c,x] 6 o log) [⟨l,k,[]⟩]).2:=by kernel_rfl
  have e2:one lsX mChanges (tk 0 [la,c,x] 6 o log) [⟨l,k,[]⟩] = (tk 0 [la,c,x,(l[k]?).getD 0] 7 o (log ++ [⟨3,0,(l[k]?).getD 0⟩]),[⟨l,k + 1,[]⟩]):=by kernel_rfl
  have g1:=go_on (X:=lsX) (m:=mChanges) (n:=n + 14) (t:=tk 0 [la,c,x] 6 o log) (x:=[⟨l,k,[]⟩]) (stat_more rfl rfl rfl hlt)
  rw [e2,hv] at g1
  obtain ⟨lg,hlg⟩:∃ lg,lg = log ++ [⟨3,0,v⟩]:=⟨_,rfl⟩
  simp only [Option.getD_some] at g1
  rw [← hlg] at g1
  have e3:(go lsX mChanges (n + 14) (tk 0 [la,c,x,v] 7 o lg) [⟨l,k + 1,[]⟩]).2 = (go lsX mChanges (n + 11) (tk 0 [la,c,v,v,la] 10 o lg) [⟨l,k + 1,[]⟩]).2:=by kernel_rfl
  have e4:one lsX mChanges (tk 0 [la,c,v,v,la] 10 o lg) [⟨l,k + 1,[]⟩] = (Tk.reckon (tk 0 [la,c,v,v,la] 11 o lg) 13,[⟨l,k + 1,[]⟩]):=by kernel_rfl
  have e5:Tk.reckon (tk 0 [la,c,v,v,la] 11 o lg) 13 = tk 0 [la,c,v,yes (v == la)] 11 o lg:=(reckon_safe (by decide) (by decide)).trans (by kernel_rfl)
  have g2:=go_on (X:=lsX) (m:=mChanges) (n:=n + 10) (t:=tk 0 [la,c,v,v,la] 10 o lg) (x:=[⟨l,k + 1,[]⟩]) (by kernel_rfl)
  rw [e4,e5] at g2
  have e6:=e1.trans (g1.trans (e3.trans g2))
  have hd:cgF ⟨la,c,o⟩ (l.drop k) = cgF (cgS ⟨la,c,o⟩ v) (l.drop (k + 1)):=by rw [drop_one hv]; rfl
  cases hb:(v == la) with
  | true =>
   rw [hb] at e6
   have e7:(go lsX mChanges (n + 10) (tk 0 [la,c,v,yes true] 11 o lg) [⟨l,k + 1,[]⟩]).2 = (go lsX mChanges (n + 3) (tk 0 [la,wrap (c + 1),v] 4 o lg) [⟨l,k + 1,[]⟩]).2:=by kernel_rfl
   obtain ⟨t,y,h1,h2,h3⟩:=changes_goes l j (k + 1) (n + 3) ⟨la,wrap (c + 1),o⟩ v lg (by omega) (by omega)
   refine ⟨t,y,e6.trans (e7.trans h1),?_,h3⟩
   rw [h2,hd]
   unfold cgS
   rw [if_pos hb]
  | false =>
   rw [hb] at e6
   have e7:(go lsX mChanges (n + 10) (tk 0 [la,c,v,yes false] 11 o lg) [⟨l,k + 1,[]⟩]).2 = (go lsX mChanges n (tk 0 [v,1,v] 4 (o ++ [la] ++ [c]) (lg ++ [⟨1,0,la⟩] ++ [⟨1,0,c⟩])) [⟨l,k + 1,[]⟩]).2:=by kernel_rfl
   obtain ⟨t,y,h1,h2,h3⟩:=changes_goes l j (k + 1) n ⟨v,1,o ++ [la] ++ [c]⟩ v _ (by omega) (by omega)
   refine ⟨t,y,e6.trans (e7.trans h1),?_,h3⟩
   rw [h2,hd]
   unfold cgS
   rw [if_neg (by rw [hb]; simp)]
   simp
set_option maxRecDepth 1000000 in
theorem changes_fits (l:List Int):soloE Xe.mChanges 0 5000 [l] = 0:=by kernel_rfl
theorem changes_asked:Asked Xe.nChanges Xe.mChanges:=⟨Xe.ans_changes,by decide⟩
theorem changes_first (l:List Int):soloR Xe.mChanges 0 5000 [l] = go lsX Xe.mChanges 5000 (tk 0 [0,0,0] 0 [] []) [⟨l,0,[]⟩]:=by kernel_rfl
theorem changes_start (l:List Int) (v:Int) (hv:l[0]? = some v) (n:Nat):∃ lg,(go lsX Xe.mChanges (n + 4) (tk 0 [0,0,0] 0 [] []) [⟨l,0,[]⟩]).2 = (go lsX Xe.mChanges n (tk 0 [v,1,0] 4 [] lg) [⟨l,1,[]⟩]).2:=by
 have hlt:0 < l.length:=(List.getElem?_eq_some_iff.1 hv).1
 have e2:one lsX Xe.mChanges (tk 0 [0,0,0] 0 [] []) [⟨l,0,[]⟩] = (tk 0 [0,0,0,(l[0]?).getD 0] 1 [] [⟨3,0,(l[0]?).getD 0⟩],[⟨l,1,[]⟩]):=by kernel_rfl
 have g1:=go_on (X:=lsX) (m:=Xe.mChanges) (n:=n + 3) (t:=tk 0 [0,0,0] 0 [] []) (x:=[⟨l,0,[]⟩]) (stat_more rfl rfl rfl hlt)
 rw [e2,hv] at g1
 have e3:(go lsX Xe.mChanges (n + 3) (tk 0 [0,0,0,v] 1 [] [⟨3,0,v⟩]) [⟨l,1,[]⟩]).2 = (go lsX Xe.mChanges n (tk 0 [v,1,0] 4 [] [⟨3,0,v⟩]) [⟨l,1,[]⟩]).2:=by kernel_rfl
 exact ⟨_,g1.trans e3⟩
theorem changes_says (l:List Int) (h:l.length ≤ 100):(soloR Xe.mChanges 0 5000 [l]).2.1.out = (cg l).o ∧ (stat lsX Xe.mChanges (soloR Xe.mChanges 0 5000 [l]).2.1 (soloR Xe.mChanges 0 5000 [l]).2.2).1 = 3:=by
 rw [changes_first]
 cases l with
 | nil =>
  have h0:(stat lsX Xe.mChanges (tk 0 [0,0,0] 0 [] []) [⟨[],0,[]⟩]).1 = 3:=by kernel_rfl
  rw [go_halt (by rw [h0]; decide)]
  exact ⟨rfl,h0⟩
 | cons v l =>
  obtain ⟨lg,hs⟩:=changes_start (v :: l) v rfl 4996
  obtain ⟨t,x,h1,h2,h3⟩:=changes_goes (v :: l) l.length 1 4996 ⟨v,1,[]⟩ 0 lg (by simp; omega) (by simp at h; omega)
  have hs':(go lsX Xe.mChanges 5000 (tk 0 [0,0,0] 0 [] []) [⟨v :: l,0,[]⟩]).2 = (t,x):=hs.trans h1
  rw [hs']
  exact ⟨by rw [h2]; rfl,h3⟩
def CgAt (l:List Int) (w:World) (k:Nat) (vl:Value) (wr:World):Prop:=k ≤ l.length ∧ Below w.heap.size w wr ∧ wr.ownsRow w.heap.size 2 1 vl (cg (l.take k)).o.length (ints (cg (l.take k)).o)
theorem changes_any (l:List Int) (a:Option Addr) (c:Nat) (w:World) (hw:Hid (In64 w w.heap.size a l)) (hn:l.length ≤ 9223372036854775807) (hT:Hid (Xe.Tabs w)) :
  Calls Tryz.prog 7 #[.slice a l.length c] w fun e w' => e = .returned (.bool true) ∧ Below w.heap.size w w':=by
 obtain ⟨i0,hi,hz0,hz1,hz2⟩:=info_parts info64
 go_enter Tryz.func7,Tryz.ntmps7
 by_cases hl:l.length ≤ 100
 ·have n1:¬ (100:Int) < (l.length:Int):=by omega
  go_wp2
  go_loopw [3,4,12] (fun vl vs v wr => ∃ k:Nat,v = .int .i64 k ∧ vs = .int .i64 (cg (l.take k)).n ∧ CgAt l w k vl wr) (fun _ _ v _ => l.length - (intOf v).toNat)
  case atStart => exact ⟨0,rfl,rfl,Nat.zero_le _,Below.refl _ w,⟨rfl,.inl ⟨rfl,rfl⟩⟩⟩
  case round =>
   obtain ⟨k,rfl,rfl,hk,hb,hown⟩:=hrel
   have HB:=Sb.hide hb
   have HO:=Sb.hide hown
   have hbz:=hb.size
   clear hb hown
   by_cases hlt:k < l.length
   ·obtain ⟨x,hx⟩:∃ x,l[k]? = some x:=⟨_,List.getElem?_eq_getElem hlt⟩
    obtain ⟨b,off,ha,hbw,hc⟩:=(hw.out.below HB.out) k x hx
    have HX:Hid (l.take (k + 1) = l.take k ++ [x]):=by unfold Hid; rw [List.take_add_one,hx]; rfl
    cases k with
    | zero =>
     have HREL:Hid (CgAt l w 1 u3 wr ∧ (cg (l.take 1)).n = 1):=by
      refine ⟨⟨hlt,HB.out,?_⟩,?_⟩
      ·rw [HX.out]; exact HO.out
      ·rw [HX.out]; rfl
     obtain ⟨ml,hml⟩:∃ m,m = l.length:=⟨_,rfl⟩
     rw [ha,← hml]
     rw [← hml] at hlt hl hn
     have n2:((0:Nat):Int) < (ml:Int):=by omega
     have hc0:wr.cell? ⟨b,off,none⟩ = some (.int .i64 x):=hc
     have e0:(cg (l.take 0)).n = 0:=rfl
     rw [e0]
     have HML:=Sb.hide hml
     clear ha hx n1 hml
     go_wp2
     go_roundw
     case rel => exact ⟨1,by go_num,by rw [HREL.out.2],HREL.out.1⟩
     case measure => have:=HML.out; simp [intOf]; omega
    | succ q =>
     obtain ⟨y,hy⟩:∃ y,l[q]? = some y:=⟨_,List.getElem?_eq_getElem (by omega)⟩
     obtain ⟨b2,off2,ha2,_,hc2⟩:=(hw.out.below HB.out) q y hy
     rw [ha] at ha2
     cases ha2
     have hne:l.take (q + 1) ≠ []:=by
      intro h
      have h2:(l.take (q + 1)).length = 0:=by rw [h]; rfl
      rw [List.length_take] at h2
      omega
     have hla:(cg (l.take (q + 1))).la = y:=by
      rw [List.take_add_one,hy]
      exact cg_la y _
     have hst:=cg_app x (l.take (q + 1)) hne
     rw [← HX.out] at hst
     have hlen:=cg_len (l.take (q + 1))
     rw [List.length_take] at hlen
     obtain ⟨s,hs⟩:∃ s,s = cg (l.take (q + 1)):=⟨_,rfl⟩
     have hO:=HO.out
     rw [← hs] at hla hst hlen hO ⊢
     obtain ⟨la,cn,o⟩:=s
     have hla:la = y:=hla
     subst hla
     obtain ⟨ml,hml⟩:∃ m,m = l.length:=⟨_,rfl⟩
     rw [ha,← hml]
     rw [← hml] at hlt hl hn
     have hol:o.length ≤ 200:=by
      have h0:(⟨la,cn,o⟩:Cg).o.length ≤ 2 * (min (q + 1) l.length):=hlen
      have h1:o.length ≤ 2 * (min (q + 1) l.length):=h0
      have h2:min (q + 1) l.length ≤ l.length:=Nat.min_le_right _ _
      omega
     have HML:=Sb.hide hml
     have HST:=Sb.hide hst
     have HO2:Hid (wr.ownsRow w.heap.size 2 1 u3 o.length (ints o)):=hO
     obtain ⟨on,hon⟩:∃ on,on = o.length:=⟨_,rfl⟩
     obtain ⟨oi,hoi⟩:∃ oi,oi = ints o:=⟨_,rfl⟩
     have hon2:on ≤ 200:=by omega
     have HRW:Hid (wr.ownsRow w.heap.size 2 1 u3 on oi):=by unfold Hid; rw [hoi,hon]; exact hO
     have HOS:=Sb.hide (And.intro hon hoi)
     have n0:(0:Int) < ((q + 1:Nat):Int):=by omega
     have n2:((q + 1:Nat):Int) < (ml:Int):=by omega
     show Code.wp _ _ _ _ _
     have n3:(0:Int) ≤ (q:Int):=by omega
     have n4:(q:Int) < (ml:Int):=by omega
     have n5:(0:Int) < (q:Int) + 1:=by omega
     have n6:(q:Int) + 1 < (ml:Int):=by omega
     clear ha hx hy n1 hml hlen hst hO hon hoi hs hne hol
     cases hev:(x == la) with
     | true =>
      have ht:(x != la) = false:=by simp [bne,hev]
      have HREL:Hid (CgAt l w (q + 1 + 1) u3 wr ∧ (cg (l.take (q + 1 + 1))).n = wrap64 (cn + 1)):=by
       have e:=HST.out
       unfold cgS at e
       rw [if_pos hev] at e
       refine ⟨⟨by have:=HML.out; omega,HB.out,?_⟩,?_⟩
       ·rw [e]; exact HO2.out
       ·rw [e]; rfl
      clear hev
      go_wp2
      go_roundw
      case rel => exact ⟨q + 1 + 1,by go_num,by rw [HREL.out.2],HREL.out.1⟩
      case measure => simp [intOf]; omega
     | false =>
      have ht:(x != la) = true:=by simp [bne,hev]
      have HRW2:Hid ((wr.alloc (.cells #[.int .i64 la,.int .i64 cn] 2)).ownsRow w.heap.size 2 1 u3 on oi):=HRW.out.alloc _
      have HEV:=Sb.hide hev
      clear hev
      go_wp2_with (at_builtin; refine wpList_append_where rfl (.tmp 28) (.tmp 35) 22 rfl w.heap.size 2 i0 (.int .i64 0) 1 8 Tryz.underlying22 hi hz0 hz1 hz2 rfl (by decide) u3 on oi rfl HRW2.out ⟨wr.heap.size,0,none⟩ 2 2 [.int .i64 la,.int .i64 cn] rfl rfl (news2 wr _ _ _) (ones2 rfl rfl) (by decide) (by unfold maxLen; omega) (by omega) (by simp; omega) ?_)
      intro R4 cap4 w4 hown4 hg4 hR4
      have HREL:Hid (CgAt l w (q + 1 + 1) (.slice (some ⟨R4,0,none⟩) (on + 2) cap4) w4 ∧ (cg (l.take (q + 1 + 1))).n = 1):=by
       have e:=HST.out
       unfold cgS at e
       rw [if_neg (by rw [HEV.out]; simp)] at e
       refine ⟨⟨by have:=HML.out; omega,(HB.out.alloc hbz _).grown hg4 (by simp; omega) (fun b hb => (HO.out.lt b hb).1),?_⟩,?_⟩
       ·rw [e]
        show w4.ownsRow w.heap.size 2 1 _ (o ++ [la,cn]).length (ints (o ++ [la,cn]))
        rw [List.length_append,← HOS.out.1,show ints (o ++ [la,cn]) = ints o ++ [.int .i64 la,.int .i64 cn] by simp,← HOS.out.2]
        exact hown4
       ·rw [e]
      clear hown4 hg4 hR4
      go_wp2
      go_roundw
      case rel => exact ⟨q + 1 + 1,by go_num,by rw [HREL.out.2],HREL.out.1⟩
      case measure => simp [intOf]; omega
   ·have n3:¬ (k:Int) < (l.length:Int):=by omega
    have ek:k = l.length:=by omega
    subst ek
    have hO:=HO.out
    rw [List.take_length] at hO ⊢
    have HV:=Sb.hide (own_reads hO)
    have HA:Hid (Below wr.heap.size wr (wr.alloc (.cells #[.slice a l.length c] 22))):=(Below.refl _ wr).alloc (Nat.le_refl _) _
    have HB2:Hid (Below w.heap.size w (wr.alloc (.cells #[.slice a l.length c] 22))):=HB.out.alloc hbz _
    have HF:=Sb.hide (fd_one (c:=c) hw.out hl HB.out)
    have HT2:=Sb.hide (hT.out.below HB2.out)
    have HV2:=Sb.hide (HV.out.below HA.out)
    have hfl:=cg_len l
    clear hO HA n1 n3
    go_wp2_with fail
    refine (says_any changes_asked [l] (some ⟨wr.heap.size,0,none⟩) 1 (fun _ => a) (fun _ => c) (cg l).o u3 _ HT2 HF (changes_fits l) HV2 (changes_says l hl).1 (changes_says l hl).2 (by omega)).mono ?_
    rintro e w5 ⟨rfl,hb5⟩
    have HB5:=Sb.hide (HB2.out.trans (hb5.mono HB2.out.size))
    clear hb5
    go_wp2
    go_ret
    exact ⟨rfl,HB5.out⟩
 ·have n1:(100:Int) < (l.length:Int):=by omega
  go_wp2
  go_ret
  exact ⟨rfl,Below.refl _ w⟩
end Go.Proofs.YtgbnnhnlfgcleaaGreatDoor.Vw

/- The walk of reached. -/
import Derived.Test.YtbioaoangfiijaaGreatDoorM21
set_option maxRecDepth 100000
set_option maxHeartbeats 4000000
namespace Go.Proofs.YtbioaoangfiijaaGreatDoor
open Go.RowKit
namespace Sm
theorem Rr.fin {w W:World} {s r c:List Nat} {vs vr vc:Value} (h:Rr w W s r c vs vr vc):w.grownBy (((W.setCell ⟨w.heap.size,0,none⟩ vs).setCell ⟨w.heap.size,1,none⟩ vr).setCell ⟨w.heap.size,2,none⟩ vc) none ∧ (((W.setCell ⟨w.heap.size,0,none⟩ vs).setCell ⟨w.heap.size,1,none⟩ vr).setCell ⟨w.heap.size,2,none⟩ vc).ownsRow w.heap.size 3 1 vs s.length (nats s) ∧ (((W.setCell ⟨w.heap.size,0,none⟩ vs).setCell ⟨w.heap.size,1,none⟩ vr).setCell ⟨w.heap.size,2,none⟩ vc).ownsRow w.heap.size 3 1 vr r.length (nats r) ∧ (((W.setCell ⟨w.heap.size,0,none⟩ vs).setCell ⟨w.heap.size,1,none⟩ vr).setCell ⟨w.heap.size,2,none⟩ vc).ownsRow w.heap.size 3 1 vc c.length (nats c):=by
 have keep:∀ k,k ≠ w.heap.size → (((W.setCell ⟨w.heap.size,0,none⟩ vs).setCell ⟨w.heap.size,1,none⟩ vr).setCell ⟨w.heap.size,2,none⟩ vc).heap[k]? = W.heap[k]?:=fun k hk => (Below.heap_setCell _ _ _ k hk).trans ((Below.heap_setCell _ _ _ k hk).trans (Below.heap_setCell _ _ _ k hk))
 have row:∀ {v:Value} {n:Nat} {xs:List Value},W.ownsRow w.heap.size 3 1 v n xs → (((W.setCell ⟨w.heap.size,0,none⟩ vs).setCell ⟨w.heap.size,1,none⟩ vr).setCell ⟨w.heap.size,2,none⟩ vc).ownsRow w.heap.size 3 1 v n xs:=fun {v n xs} ho => own_keep ho fun k hk => keep k (fun e => by
  obtain ⟨_,_,cur,hc⟩:=own_lt ho k hk
  rw [e,h.res] at hc
  cases hc)
 refine ⟨⟨h.gr.os,h.gr.tape,h.gr.output,?_,fun k hk _ => (keep k (by omega)).trans (h.gr.block k hk (by simp))⟩,row h.rc.so,row h.rc.ro,row h.rc.co⟩
 have:=h.gr.size
 simp [World.setCell]; omega
theorem mid {w W W':World} {b:Nat} {v:Value} {n:Nat} {xs:List Value} {o:Array Value} (ho:W.ownsRow w.heap.size 3 1 v n xs) (hg:W.grownBy W' v.ownBlock) (hb:W.heap[b]? = some (.cells o 96 (0,0))):W'.heap[b]? = some (.cells o 96 (0,0)):=by
 refine (hg.block b (lt_of_block hb) (fun e => ?_)).trans hb
 obtain ⟨_,_,cur,hc⟩:=own_lt ho b e.symm
 rw [hb] at hc
 cases hc
theorem fm_next {f:Nat → List Nat} {cs:List Nat} {j x:Nat} (h:cs[j]? = some x):(cs.take (j + 1)).flatMap f = (cs.take j).flatMap f ++ f x:=by
 obtain ⟨h1,h2⟩:=List.getElem?_eq_some_iff.1 h
 rw [List.take_succ_eq_append_getElem h1,List.flatMap_append,h2]
 simp
theorem ReAt.more {talks:List Tk} {w W W':World} {k y:Nat} {cs:List Nat} {vs vr vc v':Value} (h:ReAt talks w W k cs vs vr vc) (hy:y < talks.length) (hn:y ∉ cs) (hr:Rr w W' ((cs.take k).flatMap fun n => (tkAt talks n).sends) ((cs.take k).flatMap fun n => (tkAt talks n).recvs) (cs ++ [y]) vs vr v'):ReAt talks w W' k (cs ++ [y]) vs vr v':=by
 refine ⟨?_,?_,fun x hx => ?_,by have:=h.kl; simp; omega⟩
 ·rw [List.take_append_of_le_length h.kl]; exact hr
 ·exact List.nodup_append.2 ⟨h.nd,by simp,fun a ha b hb e => by simp at hb; rw [e,hb] at ha; exact hn ha⟩
 ·rcases List.mem_append.1 hx with h1 | h1
  ·exact h.lt x h1
  ·simp at h1; omega
theorem reached_any (B Tb L task:Nat) (vs0:List Value) (talks:List Tk) (w:World) (hT:Hid (TaAt B w Tb L vs0 (fun i => tkAt talks i))) (hL:Hid (talks.length = L)) (hl:L ≤ 100000) (ht:task < L) (hb:Hid (∀ n,n < L → Tl L (tkAt talks n))) :
  Calls Tryz.prog 38 #[.slice (some ⟨Tb,0,none⟩) L L,.int .i64 (task:Int)] w fun e w' => ∃ vs vr vc,e = .returned (.agg #[vs,vr,vc]) ∧ w.grownBy w' none ∧ w'.ownsRow w.heap.size 3 1 vs (reached talks task).sends.length (nats (reached talks task).sends) ∧ w'.ownsRow w.heap.size 3 1 vr (reached talks task).recvs.length (nats (reached talks task).recvs) ∧ w'.ownsRow w.heap.size 3 1 vc (reached talks task).calls.length (nats (reached talks task).calls) ∧ (reached talks task).sends.length ≤ 10000000000000 ∧ (reached talks task).recvs.length ≤ 10000000000000:=by
 obtain ⟨W0,hW0⟩:∃ W0,W0 = (((w.alloc (.cells #[.slice none 0 0,.slice none 0 0,.slice none 0 0] 96)).alloc (.cells #[.int .i64 (task:Int)] 3)).alloc (.cells #[.slice none 0 0,.slice none 0 0,.slice (some ⟨w.heap.size + 1,0,none⟩) 1 1] 96)):=⟨_,rfl⟩
 have HST:Hid (ReAt talks w W0 0 [task] (.slice none 0 0) (.slice none 0 0) (.slice (some ⟨w.heap.size + 1,0,none⟩) 1 1)):=⟨by rw [hW0]; exact Rr.begin w task,by simp,fun x hx => by simp at hx; rw [hL.out]; omega,by simp⟩
 have HW0:=hid hW0
 clear hW0
 go_enter Tryz.func38,Tryz.ntmps38
 go_wp2
 rw [← HW0.out]
 go_loopw [6] (fun q wr => ∃ (j:Nat) (cs:List Nat) (vs vr vc:Value),q = .int .i64 j ∧ ReAt talks w wr j cs vs vr vc ∧ reach talks (L + 1 - j) j cs = reach talks (L + 1) 0 [task]) (fun q _ => L + 1 - (intOf q).toNat)
 case atStart => exact ⟨0,[task],_,_,_,rfl,HST.out,rfl⟩
 case round =>
  clear HST HW0
  obtain ⟨j,cs,vs,vr,vc,rfl,hA,hR⟩:=hrel
  have HA:=hid hA
  have HR:=hid hR
  have hcl:cs.length ≤ L:=by have:=hA.len; have:=hL.out; omega
  obtain ⟨u0,u1,u2⟩:=three_cell hA.row.rc.blk
  obtain ⟨a,c,hvc,hcs⟩:=ns_own hA.row.rc.co
  subst hvc
  obtain ⟨sl,hsl⟩:∃ n,n = ((cs.take j).flatMap fun n => (tkAt talks n).sends).length:=⟨_,rfl⟩
  obtain ⟨rl,hrl⟩:∃ n,n = ((cs.take j).flatMap fun n => (tkAt talks n).recvs).length:=⟨_,rfl⟩
  obtain ⟨va,vac,hvs⟩:=own_form hA.row.rc.so
  obtain ⟨vb,vbc,hvr⟩:=own_form hA.row.rc.ro
  rw [← hsl] at hvs
  rw [← hrl] at hvr
  subst hvs hvr
  clear hsl hrl
  clear hA hR
  by_cases hlt:j < cs.length
  ·obtain ⟨x,hx⟩:∃ x,cs[j]? = some x:=⟨_,List.getElem?_eq_getElem hlt⟩
   obtain ⟨b,off,ha,hcell⟩:=hcs j x hx
   subst ha
   have hxL:x < L:=by rw [← hL.out]; exact HA.out.lt x (List.mem_of_getElem? hx)
   obtain ⟨sn,rc,cl,z0,z1,z2,o1,o2,o3⟩:=hT.out.row x hxL
   obtain ⟨ca,cc,rfl⟩:=own_form o3
   obtain ⟨sa,sc,rfl⟩:=own_form o1
   obtain ⟨ra,rc,rfl⟩:=own_form o2
   have hTb:wr.heap[Tb]? = some (.cells vs0.toArray 96 (0,0)):=(HA.out.row.gr.block _ (lt_of_block hT.out.blk) (by simp)).trans hT.out.blk
   have t0:wr.cell? ⟨Tb,x * 3,none⟩ = some (.slice sa (tkAt talks x).sends.length sc):=by simp [World.cell?,hTb,z0]
   have t1:wr.cell? ⟨Tb,x * 3 + 1,none⟩ = some (.slice ra (tkAt talks x).recvs.length rc):=by simp [World.cell?,hTb,z1]
   have t2:wr.cell? ⟨Tb,x * 3 + 2,none⟩ = some (.slice ca (tkAt talks x).calls.length cc):=by simp [World.cell?,hTb,z2]
   have O1:=hid o1
   have O2:=hid o2
   have O3:=hid o3
   have HX:=hid hx
   have HTl:=hid (hb.out x hxL)
   have hjp:(j:Int) < (cs.length:Int):=by omega
   have hxp:(x:Int) < (L:Int):=by omega
   have hcm:(tkAt talks x).calls.length ≤ 100000000:=HTl.out.2.2.1
   have HFew:=hid (HA.out.few (by rw [hL.out]; exact hl) (by rw [hL.out]; exact hb.out))
   have HR1:Hid _:=HA.out.row.alloc (.cells #[.slice sa (tkAt talks x).sends.length sc,.slice ra (tkAt talks x).recvs.length rc,.slice ca (tkAt talks x).calls.length cc] 96)
   have hOl:=lt_of_block HA.out.row.rc.blk
   have HTn:Hid ((wr.alloc (.cells #[.slice sa (tkAt talks x).sends.length sc,.slice ra (tkAt talks x).recvs.length rc,.slice ca (tkAt talks x).calls.length cc] 96)).heap[wr.heap.size]? = some (.cells #[.slice sa (tkAt talks x).sends.length sc,.slice ra (tkAt talks x).recvs.length rc,.slice ca (tkAt talks x).calls.length cc] 96 (0,0))):=heap_alloc_new _ _
   clear hx hcs o1 o2 o3 z0 z1 z2 hTb
   have HSn:Hid (∃ Bx,(wr.alloc (.cells #[.slice sa (tkAt talks x).sends.length sc,.slice ra (tkAt talks x).recvs.length rc,.slice ca (tkAt talks x).calls.length cc] 96)).ownsRow Bx 3 1 (.slice sa (tkAt talks x).sends.length sc) (tkAt talks x).sends.length (nats (tkAt talks x).sends)):=⟨B,own_keep O1.out (fun k hk => HR1.out.gr.block k (own_lt O1.out k hk).2.1 (by simp))⟩
   have HN1:Hid (((cs.take j).flatMap fun n => (tkAt talks n).sends).length + (tkAt talks x).sends.length ≤ 17000000000000):=by have:=HFew.out.1; have:=HTl.out.1; unfold Hid; omega
   have HN2:Hid (((cs.take j).flatMap fun n => (tkAt talks n).recvs).length + (tkAt talks x).recvs.length ≤ 17000000000000):=by have:=HFew.out.2; have:=HTl.out.2.1; unfold Hid; omega
   go_wp2_with (first
    | (have hh:=HQ2.out; at_builtin; refine wpList_append_nums rfl _ _ rfl w.heap.size _ _ (tkAt talks x).recvs rfl HR2.out.rc.ro _ rfl ⟨B,own_keep O2.out (fun k hk => HR2.out.gr.block k (own_lt O2.out k hk).2.1 (by simp))⟩ HN2.out HR2.out.gr.size ?_; intro v2 w2 ho2 hg2 hw2; obtain ⟨g2,k2,hv2⟩:=own_form ho2; generalize List.length (α:=Nat) (_ ++ _) = q2 at hv2; subst hv2; have HR3:=hid (HR2.out.app1 hg2 ho2 hw2); have HM2:=mid HR2.out.rc.ro hg2 HT2.out; have hO2:=mid HR2.out.rc.ro hg2 HR2.out.rc.blk; obtain ⟨_,_,y2⟩:=three_cell HM2; obtain ⟨_,y1,_⟩:=three_cell hO2; obtain ⟨_,y3,_⟩:=three_frozen hO2; clear ho2 hg2 hw2 HM2 hO2)
    | (at_builtin; refine wpList_append_nums rfl _ _ rfl w.heap.size _ _ (tkAt talks x).sends rfl HR1.out.rc.so _ rfl HSn.out HN1.out HR1.out.gr.size ?_; intro v1 w1 ho1 hg1 hw1; obtain ⟨g1,k1,hv1⟩:=own_form ho1; generalize List.length (α:=Nat) (_ ++ _) = q1 at hv1; subst hv1; have HR2:=hid (HR1.out.app0 hg1 ho1 hw1); have HM1:=mid HR1.out.rc.so hg1 HTn.out; have hO1:=mid HR1.out.rc.so hg1 HR1.out.rc.blk; have HT2:=hid (keepT (Ob:=w.heap.size + 1 + 1) (c:=0) (v':=.slice g1 q1 k1) HR1.out.rc.so hg1 HTn.out (by omega)); have HQ2:Hid True:=trivial; obtain ⟨m0,m1,m2⟩:=three_cell HM1; obtain ⟨s0,s1,s2⟩:=three_cell hO1; obtain ⟨f0,f1,f2⟩:=three_frozen hO1; clear ho1 hg1 hw1 HM1 hO1))
   have HI0:Hid (ReAt talks w (w2.setCell ⟨w.heap.size + 1 + 1,1,none⟩ (.slice g2 q2 k2)) (j + 1) cs (.slice g1 q1 k1) (.slice g2 q2 k2) (.slice (some ⟨b,off,none⟩) cs.length c)):=⟨by rw [fm_next HX.out,fm_next HX.out]; exact HR3.out,HA.out.nd,HA.out.lt,hlt⟩
   clear HR1 HTn HSn HN1 HN2 HR2 HT2 HQ2 HR3 HFew
   go_loopw [43] (fun q wi => ∃ (m:Nat) (cs2:List Nat) (vc2:Value),q = .int .i64 m ∧ m ≤ (tkAt talks x).calls.length ∧ ReAt talks w wi (j + 1) cs2 (.slice g1 q1 k1) (.slice g2 q2 k2) vc2 ∧ ((tkAt talks x).calls.drop m).foldl stp cs2 = (tkAt talks x).calls.foldl stp cs) (fun q _ => (tkAt talks x).calls.length - (intOf q).toNat)
   case atStart => exact ⟨0,cs,_,rfl,Nat.zero_le _,HI0.out,rfl⟩
   case round =>
    clear HI0
    obtain ⟨m,cs2,vc2,rfl,hm,hI,hF⟩:=hrel
    have HI:=hid hI
    have HF:=hid hF
    have HN:=hid (ns_own hI.row.rc.co)
    obtain ⟨a2,c2,hv2⟩:=own_form hI.row.rc.co
    subst hv2
    obtain ⟨i0,i1,i2⟩:=three_cell hI.row.rc.blk
    have hO:=lt_of_block hI.row.rc.blk
    have hcl2:cs2.length ≤ L:=by have:=hI.len; have:=hL.out; omega
    clear hI hF
    by_cases hml:m < (tkAt talks x).calls.length
    ·obtain ⟨y,hy⟩:∃ y,(tkAt talks x).calls[m]? = some y:=⟨_,List.getElem?_eq_getElem hml⟩
     have hyL:y < L:=HTl.out.2.2.2 y (List.mem_of_getElem? hy)
     obtain ⟨_,_,hca,hcc⟩:=ns_own (own_keep (w':=wr) O3.out (fun k hk => HI.out.row.gr.block k (own_lt O3.out k hk).2.1 (by simp)))
     obtain ⟨yb,yo,hya,hyc⟩:=hcc m y hy
     cases hca
     subst hya
     have hmp:(m:Int) < ((tkAt talks x).calls.length:Int):=by omega
     have HMJ:Hid (m + 1 ≤ (tkAt talks x).calls.length):=hml
     have HD:Hid (((tkAt talks x).calls.drop (m + 1)).foldl stp (stp cs2 y) = (tkAt talks x).calls.foldl stp cs):=by
      have h1:=HF.out
      rw [List.drop_eq_getElem_cons hml,(List.getElem?_eq_some_iff.1 hy).2] at h1
      exact h1
     clear hcc hy
     go_wp2_with fail
     refine (contains_any cs2 _ y _ HN (by omega)).mono ?_
     rintro e w3 ⟨hw3,rfl⟩
     subst hw3
     by_cases hin:y ∈ cs2
     ·have HD1:Hid (((tkAt talks x).calls.drop (m + 1)).foldl stp cs2 = (tkAt talks x).calls.foldl stp cs):=by
       have h1:=HD.out
       rw [show stp cs2 y = cs2 from if_pos hin] at h1
       exact h1
      have ed:decide (y ∈ cs2) = true:=by simp [hin]
      clear hin
      go_wp2
      go_roundw
      case rel => exact ⟨m + 1,cs2,_,by go_num,HMJ.out,HI.out,HD1.out⟩
      case measure => have:=HMJ.out; simp [intOf]; omega
     ·have HD1:Hid (((tkAt talks x).calls.drop (m + 1)).foldl stp (cs2 ++ [y]) = (tkAt talks x).calls.foldl stp cs):=by
       have h1:=HD.out
       rw [show stp cs2 y = cs2 ++ [y] from if_neg hin] at h1
       exact h1
      have ed:decide (y ∈ cs2) = false:=by simp [hin]
      have HIN:=hid hin
      have HRa:=hid (HI.out.row.alloc (.cells #[.int .i64 (y:Int)] 3))
      have HNl:Hid (cs2.length + [y].length ≤ 17000000000000):=by unfold Hid; simp; omega
      clear hin
      go_wp2_with (at_builtin; refine wpList_append_nums rfl _ _ rfl w.heap.size _ cs2 [y] rfl HRa.out.rc.co _ rfl ⟨_,own_new _ y⟩ HNl.out HRa.out.gr.size ?_; intro v5 w5 ho5 hg5 hw5; obtain ⟨g5,k5,hv5⟩:=own_form ho5; generalize List.length (α:=Nat) (_ ++ _) = q5 at hv5; subst hv5; have HN5:=hid (HI.out.more (by rw [hL.out]; exact hyL) HIN.out (HRa.out.app2 hg5 ho5 hw5)); have hO5:=mid HRa.out.rc.co hg5 HRa.out.rc.blk; obtain ⟨_,_,z5⟩:=three_cell hO5; obtain ⟨_,_,f5⟩:=three_frozen hO5; clear ho5 hg5 hw5 hO5)
      go_roundw
      case rel => exact ⟨m + 1,cs2 ++ [y],_,by go_num,HMJ.out,HN5.out,HD1.out⟩
      case measure => have:=HMJ.out; simp [intOf]; omega
    ·have hmp:¬ (m:Int) < ((tkAt talks x).calls.length:Int):=by omega
     have HRe:Hid (reach talks (L + 1 - (j + 1)) (j + 1) cs2 = reach talks (L + 1) 0 [task]):=by
      have h1:=HR.out
      have h2:=HF.out
      rw [List.drop_eq_nil_of_le (by omega)] at h2
      rw [show L + 1 - j = (L - j) + 1 by omega,reach_step talks HX.out,← h2] at h1
      rw [show L + 1 - (j + 1) = L - j by omega]
      exact h1
     go_wp2
     go_roundw
     case rel => exact ⟨j + 1,cs2,_,_,_,by go_num,HI.out,HRe.out⟩
     case measure => simp [intOf]; omega
  ·have hjp:¬ (j:Int) < (cs.length:Int):=by omega
   obtain ⟨r0,r1,r2⟩:=three_cell HA.out.row.res
   obtain ⟨e0,e1,e2⟩:=three_frozen HA.out.row.res
   have HE:Hid (reached talks task = ⟨(cs.take j).flatMap fun n => (tkAt talks n).sends,(cs.take j).flatMap fun n => (tkAt talks n).recvs,cs⟩):=by
    have h1:=HR.out
    rw [reach_end talks (List.getElem?_eq_none (by omega))] at h1
    unfold Hid
    unfold reached
    rw [hL.out,← h1,List.take_of_length_le (by omega)]
   have HF:=hid HA.out.row.fin
   have HFw:=hid (HA.out.few (by rw [hL.out]; exact hl) (by rw [hL.out]; exact hb.out))
   have hOl:=lt_of_block HA.out.row.rc.blk
   have q0:=(three_cell (set_at HA.out.row.res 0 (.slice va sl vac))).1
   have q1:=(three_cell (set_at (set_at HA.out.row.res 0 (.slice va sl vac)) 1 (.slice vb rl vbc))).2.1
   have q2:=(three_cell (set_at (set_at (set_at HA.out.row.res 0 (.slice va sl vac)) 1 (.slice vb rl vbc)) 2 (.slice a cs.length c))).2.2
   go_wp2
   refine bodyPost_ret (v:=.agg #[.slice va sl vac,.slice vb rl vbc,.slice a cs.length c]) (by simp [results,Tryz.results38,go_sem,q0,q1,q2]) rfl ?_
   exact ⟨_,_,_,rfl,HF.out.1,by rw [HE.out]; exact HF.out.2.1,by rw [HE.out]; exact HF.out.2.2.1,by rw [HE.out]; exact HF.out.2.2.2,by rw [HE.out]; exact HFw.out.1,by rw [HE.out]; exact HFw.out.2⟩
end Sm
namespace Sm
open Sy
def CallOk (l:List Df) (t:Tk):Prop:=∀ c ∈ t.calls,c < l.length
def ExOk (l:List Df) (ex:Ex → Tk → Except Int (Ty × Tk)):Prop:=∀ x t y t',ex x t = .ok (y,t') → CallOk l t → CallOk l t'
theorem must_ok {l:List Df} {ex:Ex → Tk → Except Int (Ty × Tk)} (hex:ExOk l ex) (wt:Ty):∀ (ks:List Ex) (t t':Tk),must ex wt ks t = .ok t' → CallOk l t → CallOk l t'
 | [],t,t',hm,ht => by
  simp [must] at hm
  subst hm
  exact ht
 | k :: ks,t,t',hm,ht => by
  rw [must] at hm
  obtain ⟨p,hp,hm⟩:=andThen_yes hm
  split at hm
  ·exact must_ok hex wt ks p.2 t' hm (hex k t p.1 p.2 hp ht)
  ·cases hm
theorem args_ok {l:List Df} {ex:Ex → Tk → Except Int (Ty × Tk)} (hex:ExOk l ex):∀ (ps:List Pm) (ks:List Ex) (t t':Tk),args ex ps ks t = .ok t' → CallOk l t → CallOk l t'
 | [],ks,t,t',hm,ht => by
  simp [args] at hm
  subst hm
  exact ht
 | p :: ps,ks,t,t',hm,ht => by
  rw [args] at hm
  obtain ⟨t1,h1,hm⟩:=andThen_yes hm
  exact args_ok hex ps _ t1 t' hm (must_ok hex p.ty _ t t1 h1 ht)
theorem call_ok {l:List Df} {ex:Ex → Tk → Except Int (Ty × Tk)} (hex:ExOk l ex) {kind:Int} {x:Ex} {t t':Tk} {D:Df} (hc:call l ex kind x t = .ok (D,t')) (ht:CallOk l t):CallOk l t':=by
 unfold call at hc
 obtain ⟨i,hi,hc⟩:=andThen_yes hc
 split at hc
 ·cases hc
 ·obtain ⟨t1,h1,hc⟩:=andThen_yes hc
  cases hc
  refine args_ok hex _ _ _ _ h1 (fun c hc => ?_)
  rcases List.mem_append.1 hc with h2 | h2
  ·exact ht c h2
  ·simp at h2; subst h2; exact want_lt hi
theorem started_ok {l:List Df} {ex:Ex → Tk → Except Int (Ty × Tk)} (hex:ExOk l ex) {x:Ex} {t t':Tk} {D:Df} (hc:started l ex x t = .ok (D,t')) (ht:CallOk l t):CallOk l t':=by
 unfold started at hc
 obtain ⟨p,hp,hc⟩:=andThen_yes hc
 split at hc
 ·cases hc
 ·obtain ⟨i,_,hc⟩:=andThen_yes hc
  cases hc
  exact hex x t p.1 p.2 hp ht
theorem spoken_ok {l:List Df} {ex:Ex → Tk → Except Int (Ty × Tk)} (hex:ExOk l ex) {me:Df} {x:Ex} {t t':Tk} {y:Ty} (hc:spoken l me ex x t = .ok (y,t')) (ht:CallOk l t):CallOk l t':=by
 unfold spoken at hc
 split at hc
 ·obtain ⟨p,hp,hc⟩:=andThen_yes hc
  cases hc
  exact call_ok hex hp ht
 ·split at hc
  ·obtain ⟨p,hp,hc⟩:=andThen_yes hc
   cases hc
   exact call_ok hex hp ht
  ·split at hc
   ·obtain ⟨b,_,hc⟩:=andThen_yes hc
    cases hc
    exact ht
   ·split at hc
    ·obtain ⟨_,_,hc⟩:=andThen_yes hc
     obtain ⟨t1,h1,hc⟩:=andThen_yes hc
     cases hc
     exact must_ok hex _ _ _ _ h1 ht
    ·obtain ⟨g,hg,hc⟩:=andThen_yes hc
     obtain ⟨t1,h1,hc⟩:=andThen_yes hc
     cases hc
     exact must_ok hex _ _ _ _ h1 (started_ok hex hg ht)
theorem expr_ok (l:List Df) (me:Df) (v:Vars):∀ d,ExOk l (expr l me v d)
 | 0 => fun x t y t' h _ => by simp [expr] at h
 | d + 1 => fun x t y t' hc ht => by
  have hex:=expr_ok l me v d
  rw [expr] at hc
  split at hc
  ·cases hc; exact ht
  ·split at hc
   ·cases hc; exact ht
   ·split at hc
    ·obtain ⟨z,_,hc⟩:=andThen_yes hc
     cases hc; exact ht
    ·split at hc
     ·obtain ⟨t1,h1,hc⟩:=andThen_yes hc
      cases hc; exact must_ok hex _ _ _ _ h1 ht
     ·split at hc
      ·obtain ⟨t1,h1,hc⟩:=andThen_yes hc
       cases hc; exact must_ok hex _ _ _ _ h1 ht
      ·split at hc
       ·obtain ⟨t1,h1,hc⟩:=andThen_yes hc
        cases hc; exact must_ok hex _ _ _ _ h1 ht
       ·split at hc
        ·obtain ⟨a,ha,hc⟩:=andThen_yes hc
         obtain ⟨b,hb,hc⟩:=andThen_yes hc
         obtain ⟨_,_,hc⟩:=andThen_yes hc
         split at hc
         ·cases hc
          exact hex _ _ _ _ hb (hex _ _ _ _ ha ht)
         ·cases hc
        ·split at hc
         ·obtain ⟨p,hp,hc⟩:=andThen_yes hc
          cases hc
          exact started_ok hex hp ht
         ·exact spoken_ok hex hc ht
def StOk (l:List Df) (st:St → Vars → Tk → Except Int (Vars × Tk)):Prop:=∀ s v t v' t',st s v t = .ok (v',t') → CallOk l t → CallOk l t'
theorem block_ok {l:List Df} {st:St → Vars → Tk → Except Int (Vars × Tk)} (hst:StOk l st):∀ (b:List St) (v:Vars) (t:Tk) (v':Vars) (t':Tk),block st b v t = .ok (v',t') → CallOk l t → CallOk l t'
 | [],v,t,v',t',h,ht => by
  simp [block] at h
  rw [← h.2]; exact ht
 | s :: b,v,t,v',t',h,ht => by
  rw [block] at h
  obtain ⟨p,hp,h⟩:=andThen_yes h
  exact block_ok hst b p.1 p.2 v' t' h (hst s v t p.1 p.2 hp ht)
theorem inner_ok {l:List Df} {st:St → Vars → Tk → Except Int (Vars × Tk)} (hst:StOk l st) {b:List St} {v:Vars} {t t':Tk} (h:inner st b v t = .ok t') (ht:CallOk l t):CallOk l t':=by
 unfold inner at h
 obtain ⟨p,hp,h⟩:=andThen_yes h
 cases h
 exact block_ok hst b v t p.1 p.2 hp ht
theorem stat_ok (l:List Df) (me:Df):∀ d,StOk l (stat l me d)
 | 0 => fun s v t v' t' h _ => by simp [stat] at h
 | d + 1 => fun s v t v' t' hc ht => by
  have hst:=stat_ok l me d
  have hex:=expr_ok l me v d
  rw [stat] at hc
  split at hc
  ·obtain ⟨p,hp,hc⟩:=andThen_yes hc
   split at hc
   ·cases hc
   ·cases hc; exact hex _ _ _ _ hp ht
  ·split at hc
   ·obtain ⟨_,_,hc⟩:=andThen_yes hc
    obtain ⟨t1,h1,hc⟩:=andThen_yes hc
    cases hc; exact must_ok hex _ _ _ _ h1 ht
   ·split at hc
    ·obtain ⟨t1,h1,hc⟩:=andThen_yes hc
     obtain ⟨t2,h2,hc⟩:=andThen_yes hc
     obtain ⟨t3,h3,hc⟩:=andThen_yes hc
     cases hc; exact inner_ok hst h3 (inner_ok hst h2 (must_ok hex _ _ _ _ h1 ht))
    ·split at hc
     ·obtain ⟨t1,h1,hc⟩:=andThen_yes hc
      obtain ⟨t2,h2,hc⟩:=andThen_yes hc
      cases hc; exact inner_ok hst h2 (must_ok hex _ _ _ _ h1 ht)
     ·split at hc
      ·obtain ⟨_,_,hc⟩:=andThen_yes hc
       obtain ⟨t1,h1,hc⟩:=andThen_yes hc
       cases hc; exact must_ok hex _ _ _ _ h1 ht
      ·split at hc
       ·obtain ⟨_,_,hc⟩:=andThen_yes hc
        cases hc; exact ht
       ·split at hc
        ·obtain ⟨b,_,hc⟩:=andThen_yes hc
         obtain ⟨t1,h1,hc⟩:=andThen_yes hc
         cases hc; exact must_ok hex _ _ _ _ h1 ht
        ·split at hc
         ·obtain ⟨p,hp,hc⟩:=andThen_yes hc
          obtain ⟨_,_,hc⟩:=andThen_yes hc
          cases hc; exact hex _ _ _ _ hp ht
         ·obtain ⟨p,hp,hc⟩:=andThen_yes hc
          cases hc; exact hex _ _ _ _ hp ht
theorem bodyT_ok {l:List Df} {me:Df} {t:Tk} (h:bodyT l me = .ok t):CallOk l t:=by
 unfold bodyT at h
 split at h
 ·cases h; intro c hc; simp [Tk.none] at hc
 ·exact inner_ok (stat_ok l me 39) h (fun c hc => by simp [Tk.none] at hc)
end Sm
end Go.Proofs.YtbioaoangfiijaaGreatDoor

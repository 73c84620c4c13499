/- The walk of the document's Find. -/
import Derived.Test.YtpnljpdpobbiiaaGreatDoorM46
import Derived.Test.YtpnljpdpobbiiaaGreatDoorM16
import Derived.Deep.QuietTactic
import Derived.BigQuiet
set_option maxRecDepth 100000
set_option maxHeartbeats 4000000
namespace Go.Proofs.YtpnljpdpobbiiaaGreatDoor
open Go.RowKit
namespace Sm
def has (l:List Sy.Df) (kind:Int) (name:ByteArray):Bool:=l.any fun d => d.kind == kind && d.name.toList == name.toList
abbrev df0:Obj:=.cells #[.int .i64 0,.string ⟨#[]⟩,.int .i64 0,.string ⟨#[]⟩,.int .i64 0,.string ⟨#[]⟩,.int .i64 0,.slice none 0 0,.slice none 0 0] 35 (0,0)
def set9 (w:World) (b:Nat) (v0 v1 v2 v3 v4 v5 v6 v7 v8:Value):World:=((((((((w.setCell ⟨b,0,none⟩ v0).setCell ⟨b,1,none⟩ v1).setCell ⟨b,2,none⟩ v2).setCell ⟨b,3,none⟩ v3).setCell ⟨b,4,none⟩ v4).setCell ⟨b,5,none⟩ v5).setCell ⟨b,6,none⟩ v6).setCell ⟨b,7,none⟩ v7).setCell ⟨b,8,none⟩ v8
theorem setc {w:World} {b:Nat} {cs:Array Value} {t:TypeId} {fr:Nat × Nat} (h:w.heap[b]? = some (.cells cs t fr)) (i:Nat) (v:Value):(w.setCell ⟨b,i,none⟩ v).heap[b]? = some (.cells (cs.setIfInBounds i v) t fr):=by
 simp only [World.setCell,Array.getElem?_modify,if_true,h,Option.map_some]
 rfl
theorem set9_at {w:World} {b:Nat} {u0 u1 u2 u3 u4 u5 u6 u7 u8:Value} {t:TypeId} (h:w.heap[b]? = some (.cells #[u0,u1,u2,u3,u4,u5,u6,u7,u8] t (0,0))) (v0 v1 v2 v3 v4 v5 v6 v7 v8:Value):(set9 w b v0 v1 v2 v3 v4 v5 v6 v7 v8).heap[b]? = some (.cells #[v0,v1,v2,v3,v4,v5,v6,v7,v8] t (0,0)):=by
 have k:=setc (setc (setc (setc (setc (setc (setc (setc (setc h 0 v0) 1 v1) 2 v2) 3 v3) 4 v4) 5 v5) 6 v6) 7 v7) 8 v8
 simp only [List.setIfInBounds_toArray,List.set_cons_zero,List.set_cons_succ] at k
 exact k
theorem set9_below {B:Nat} {a w:World} {b:Nat} (h:Below B a w) (hb:B ≤ b) (v0 v1 v2 v3 v4 v5 v6 v7 v8:Value):Below B a (set9 w b v0 v1 v2 v3 v4 v5 v6 v7 v8) :=
 ((((((((h.setCell (p:=⟨b,0,none⟩) hb _).setCell (p:=⟨b,1,none⟩) hb _).setCell (p:=⟨b,2,none⟩) hb _).setCell (p:=⟨b,3,none⟩) hb _).setCell (p:=⟨b,4,none⟩) hb _).setCell (p:=⟨b,5,none⟩) hb _).setCell (p:=⟨b,6,none⟩) hb _).setCell (p:=⟨b,7,none⟩) hb _).setCell (p:=⟨b,8,none⟩) hb _
theorem find_walk (B:Nat) (l:List Sy.Df) (a:Option Addr) (c:Nat) (kind:Int) (name:ByteArray) (w:World) (hD:Hid (DfsIn B w l a)) (hB:B ≤ w.heap.size) :
  Calls Tryz.prog 8 #[.slice a l.length c,.int .i64 kind,.string name] w fun e w' => (∃ (k0 k2 k4 k6:Int) (s1 s3 s5:ByteArray) (a7 a8:Option Addr) (n7 c7 n8 c8:Nat),e = .returned (.tuple #[.agg #[.int .i64 k0,.string s1,.int .i64 k2,.string s3,.int .i64 k4,.string s5,.int .i64 k6,.slice a7 n7 c7,.slice a8 n8 c8],.bool (has l kind name)])) ∧ Below w.heap.size w w':=by
 obtain ⟨L,hL⟩:∃ L,L = l.length:=⟨_,rfl⟩
 have HL:Hid (L = l.length):=hL
 have hl':L ≤ maxLen:=by rw [hL]; exact hD.out.1
 unfold maxLen at hl'
 have HB0:Hid (Below w.heap.size w (w.alloc df0)):=(Below.refl _ w).alloc (Nat.le_refl _) _
 have HR0:Hid ((w.alloc df0).heap[w.heap.size]? = some df0):=heap_alloc_new w df0
 rw [← hL]
 clear hL
 go_enter Tryz.func8,Tryz.ntmps8
 go_wp2
 go_loopw [12] (fun q wr => ∃ j:Nat,q = .int .i64 j ∧ j ≤ L ∧ Hid (Below w.heap.size w wr) ∧ Hid (wr.heap[w.heap.size]? = some df0) ∧ Hid (has (l.take j) kind name = false)) (fun q _ => L - (intOf q).toNat)
 case atStart => exact ⟨0,rfl,Nat.zero_le _,HB0,HR0,rfl⟩
 case round =>
  obtain ⟨j,rfl,hj,HB,HR,HN⟩:=hrel
  have hRl:=lt_of_block HR.out
  by_cases hlt:j < L
  ·have hj1:j < l.length:=by rw [← HL.out]; exact hlt
   obtain ⟨d,hd⟩:∃ d,l[j]? = some d:=⟨_,List.getElem?_eq_getElem hj1⟩
   obtain ⟨b,off,pa,pc,ba,bc,rfl,hb,k0,k1,k2,k3,k4,k5,k6,k7,k8,_⟩:=(hD.out.same (same_below (HB.out.mono hB))).2 j d hd
   have hbw:b < wr.heap.size:=by have:=HB.out.size; omega
   have hjp:(j:Int) < (L:Int):=by omega
   have HJ:Hid (j + 1 ≤ L):=hlt
   have HB1:Hid (Below w.heap.size w (wr.alloc (dfB d pa pc ba bc))):=HB.out.alloc HB.out.size _
   have HR1:Hid ((wr.alloc (dfB d pa pc ba bc)).heap[w.heap.size]? = some df0):=(Below.heap_alloc _ _ _ hRl).trans HR.out
   have HT:Hid (l.take (j + 1) = l.take j ++ [d]):=by unfold Hid; rw [List.take_add_one,hd]; rfl
   have HD':Hid (d ∈ l):=List.mem_of_getElem? hd
   have HD1:Hid ((wr.alloc (dfB d pa pc ba bc)).heap[wr.heap.size]? = some (dfB d pa pc ba bc)):=heap_alloc_new _ _
   clear hd
   cases hk:(d.kind == kind) with
   | false =>
    have HN1:Hid (has (l.take (j + 1)) kind name = false):=by
     unfold Hid
     rw [HT.out,has,List.any_append,← has,HN.out]
     simp [hk]
    go_wp2
    go_roundw
    case rel => exact ⟨j + 1,by go_num,HJ.out,HB1,HR1,HN1⟩
    case measure => have:=HJ.out; simp [intOf]; omega
   | true =>
    cases hn:(d.name.toList == name.toList) with
    | false =>
     have HN1:Hid (has (l.take (j + 1)) kind name = false):=by
      unfold Hid
      rw [HT.out,has,List.any_append,← has,HN.out]
      simp [hk,hn]
     go_wp2
     go_roundw
     case rel => exact ⟨j + 1,by go_num,HJ.out,HB1,HR1,HN1⟩
     case measure => have:=HJ.out; simp [intOf]; omega
    | true =>
     have HY:Hid (has l kind name = true):=by
      unfold Hid has
      rw [List.any_eq_true]
      exact ⟨d,HD'.out,by simp [hk,hn]⟩
     have hR:=HR.out
     have hBw:=HB.out
     obtain ⟨r0,r1,r2,r3,r4,r5,r6,r7,r8⟩:=nine_cell hR
     obtain ⟨y0,y1,y2,y3,y4,y5,y6,y7,y8⟩:=nine_frozen hR
     have HZ:=hid (set9_at hR (.int .i64 d.kind) (.string d.name) (.int .i64 d.ty.kind) (.string d.ty.gen) (.int .i64 d.takes.kind) (.string d.takes.gen) (.int .i64 d.cap) (.slice pa d.params.length pc) (.slice ba d.body.length bc))
     have HB9:=hid (set9_below hBw (Nat.le_refl _) (.int .i64 d.kind) (.string d.name) (.int .i64 d.ty.kind) (.string d.ty.gen) (.int .i64 d.takes.kind) (.string d.takes.gen) (.int .i64 d.cap) (.slice pa d.params.length pc) (.slice ba d.body.length bc))
     obtain ⟨W9,hW9⟩:∃ W9,W9 = (set9 wr w.heap.size (.int .i64 d.kind) (.string d.name) (.int .i64 d.ty.kind) (.string d.ty.gen) (.int .i64 d.takes.kind) (.string d.takes.gen) (.int .i64 d.cap) (.slice pa d.params.length pc) (.slice ba d.body.length bc)).alloc (dfB d pa pc ba bc):=⟨_,rfl⟩
     have HZ':Hid (W9.heap[w.heap.size]? = some (dfB d pa pc ba bc)):=by rw [hW9]; exact (Below.heap_alloc _ _ _ (lt_of_block HZ.out)).trans HZ.out
     have HB9':Hid (Below w.heap.size w W9):=by rw [hW9]; exact HB9.out.alloc HB9.out.size _
     have HW9:Hid (W9 = _):=hW9
     clear hW9 hR hBw HZ HB9
     go_wp2
     unfold set9 at HW9
     rw [← HW9.out]
     obtain ⟨z0,z1,z2,z3,z4,z5,z6,z7,z8⟩:=nine_cell HZ'.out
     exact bodyPost_ret (v:=.tuple #[.agg #[.int .i64 d.kind,.string d.name,.int .i64 d.ty.kind,.string d.ty.gen,.int .i64 d.takes.kind,.string d.takes.gen,.int .i64 d.cap,.slice pa d.params.length pc,.slice ba d.body.length bc],.bool true]) (by simp [results,Tryz.results8,go_sem,z0,z1,z2,z3,z4,z5,z6,z7,z8]) rfl ⟨⟨_,_,_,_,_,_,_,_,_,_,_,_,_,by rw [HY.out]⟩,HB9'.out⟩
  ·have HY:Hid (has l kind name = false):=by
    have h1:=HN.out
    rw [List.take_of_length_le (by have:=HL.out; omega)] at h1
    exact h1
   have hjp:¬ (j:Int) < (L:Int):=by omega
   have hR:=HR.out
   have hBw:=HB.out
   obtain ⟨r0,r1,r2,r3,r4,r5,r6,r7,r8⟩:=nine_cell hR
   obtain ⟨y0,y1,y2,y3,y4,y5,y6,y7,y8⟩:=nine_frozen hR
   have HZ:=hid (set9_at hR (.int .i64 0) (.string ⟨#[]⟩) (.int .i64 0) (.string ⟨#[]⟩) (.int .i64 0) (.string ⟨#[]⟩) (.int .i64 0) (.slice none 0 0) (.slice none 0 0))
   have HB9:=hid (set9_below hBw (Nat.le_refl _) (.int .i64 0) (.string ⟨#[]⟩) (.int .i64 0) (.string ⟨#[]⟩) (.int .i64 0) (.string ⟨#[]⟩) (.int .i64 0) (.slice none 0 0) (.slice none 0 0))
   obtain ⟨W9,hW9⟩:∃ W9,W9 = set9 wr w.heap.size (.int .i64 0) (.string ⟨#[]⟩) (.int .i64 0) (.string ⟨#[]⟩) (.int .i64 0) (.string ⟨#[]⟩) (.int .i64 0) (.slice none 0 0) (.slice none 0 0):=⟨_,rfl⟩
   rw [← hW9] at HZ HB9
   have HW9:Hid (W9 = _):=hW9
   clear hW9 hR hBw
   go_wp2
   unfold set9 at HW9
   rw [← HW9.out]
   obtain ⟨z0,z1,z2,z3,z4,z5,z6,z7,z8⟩:=nine_cell HZ.out
   exact bodyPost_ret (v:=.tuple #[.agg #[.int .i64 0,.string ⟨#[]⟩,.int .i64 0,.string ⟨#[]⟩,.int .i64 0,.string ⟨#[]⟩,.int .i64 0,.slice none 0 0,.slice none 0 0],.bool false]) (by simp [results,Tryz.results8,go_sem,z0,z1,z2,z3,z4,z5,z6,z7,z8]) rfl ⟨⟨_,_,_,_,_,_,_,_,_,_,_,_,_,by rw [HY.out]⟩,HB9.out⟩
end Sm
namespace Sm
theorem gl_tabs {w:World} (h:Xe.Tabs w):Gl w.heap.size w:=by
 obtain ⟨_,⟨e1,f1,h1⟩,⟨e2,f2,h2⟩⟩:=h
 have b1:=lt_of_block h1
 have b2:=lt_of_block h2
 refine ⟨⟨b2,b1⟩,?_,?_,?_,?_⟩ <;> simp [World.cell?,h1,h2,Xe.truthL,Xe.numL] <;> rfl
theorem ows_at:∀ {os:List Ow3} {n:Nat} {o:Ow3},os[n]? = some o → (ows os)[n * 3]? = some (.string o.1) ∧ (ows os)[n * 3 + 1]? = some (.string o.2.1) ∧ (ows os)[n * 3 + 2]? = some (.string o.2.2)
 | [],n,o,h => by simp at h
 | a :: os,0,o,h => by simp at h; subst h; exact ⟨rfl,rfl,rfl⟩
 | a :: os,n + 1,o,h => by
  have ih:=ows_at (os:=os) (n:=n) (o:=o) (by simpa using h)
  have e:ows (a :: os) = .string a.1 :: .string a.2.1 :: .string a.2.2 :: ows os:=rfl
  rw [e,show (n + 1) * 3 = n * 3 + 1 + 1 + 1 by omega,show n * 3 + 1 + 1 + 1 + 1 = (n * 3 + 1) + 1 + 1 + 1 by omega,show n * 3 + 1 + 1 + 1 + 2 = (n * 3 + 2) + 1 + 1 + 1 by omega]
  simp only [List.getElem?_cons_succ]
  exact ih
theorem own_c {w:World} {B e size n:Nat} {va:Option Addr} {vc:Nat} {xs:List Value} (h:w.ownsRow B e size (.slice va n vc) n xs) {k:Nat} {u:Value} (hk:xs[k]? = some u):∃ g,va = some ⟨g,0,none⟩ ∧ g < w.heap.size ∧ w.cell? ⟨g,k,none⟩ = some u:=by
 rcases h.2 with ⟨e1,h0⟩ | ⟨g,cap,cur,e1,_⟩
 ·have hl:=h.1
  rw [h0] at hl
  have hx:xs = []:=List.eq_nil_of_length_eq_zero (by simpa using hl)
  rw [hx] at hk; cases hk
 ·have e2:=e1
  simp at e2
  have:=h.cells (g:=g) (by rw [e1]; rfl) k _ hk
  have hc:w.cell? ⟨g,k,none⟩ = some u:=by rcases k with _ | k <;> simpa [Addr.add] using this
  exact ⟨g,e2.1,World.block_lt_of_cell? w _ hc,hc⟩
theorem owners_ne (l:List Sy.Df) (x:Int × Nat) (h:owners l = .error x):x.1 ≠ 0:=by
 rw [owners_eq] at h
 split at h
 ·rename_i hn; cases h; exact hn
 ·exact owners2_ne l x h
theorem has_of {l:List Sy.Df} {s:ByteArray} (h:TaskOr l s):s.toList.isEmpty = true ∨ has l 4 s = true:=by
 rcases h with rfl | ⟨i,d,hd,hk,rfl⟩
 ·exact .inl (by rw [show (⟨#[]⟩:ByteArray).toList = [] by kernel_rfl]; rfl)
 ·refine .inr ?_
  unfold has
  rw [List.any_eq_true]
  exact ⟨d,List.mem_of_getElem? hd,by simp [hk]⟩
theorem own_nth {l:List Sy.Df} {os:List Ow3} (h:owners l = .ok os) {j:Nat} {d:Sy.Df} (hd:l[j]? = some d) (hk:d.kind = 1):∃ o,os[(boxesOf (l.take j)).length]? = some o ∧ o.1 = d.name ∧ TaskOr l o.2.1 ∧ TaskOr l o.2.2:=by
 obtain ⟨h1,h2⟩:=owners_told h
 obtain ⟨hj,e⟩:=List.getElem?_eq_some_iff.1 hd
 have hs:boxesOf l = boxesOf (l.take j) ++ d :: boxesOf (l.drop (j + 1)):=by
  have hk':(d.kind == 1) = true:=by simpa using hk
  have:l = l.take j ++ d :: l.drop (j + 1):=by
   rw [← e,← List.drop_eq_getElem_cons hj,List.take_append_drop]
  rw [show boxesOf l = boxesOf (l.take j ++ d :: l.drop (j + 1)) by rw [← this]]
  simp [boxesOf,List.filter_append,hk']
 have hn:(os.map (·.1))[(boxesOf (l.take j)).length]? = some d.name:=by
  rw [h1,hs]
  simp
 rw [List.getElem?_map] at hn
 obtain ⟨o,ho,e2⟩:=Option.map_eq_some_iff.1 hn
 exact ⟨o,ho,e2,h2 o (List.mem_of_getElem? ho)⟩
theorem boxes_more {l:List Sy.Df} {j:Nat} {d:Sy.Df} (hd:l[j]? = some d):(boxesOf (l.take (j + 1))).length = (boxesOf (l.take j)).length + if d.kind = 1 then 1 else 0:=by
 have:l.take (j + 1) = l.take j ++ [d]:=by rw [List.take_add_one,hd]; rfl
 rw [this,boxesOf,boxesOf,List.filter_append,List.length_append]
 congr 1
 by_cases h:d.kind = 1 <;> simp [h]
theorem below_dn {B:Nat} {a w:World} (h:Below B a w):∀ n,Below B a (w.drewN n)
 | 0 => h
 | n + 1 => (below_dn h n).drew
theorem law_any (l:List Sy.Df) (a:Option Addr) (c:Nat) (w:World) (hT:Hid (Xe.Tabs w)) (hD:Hid (DfsIn w.heap.size w l a)) :
  Calls Tryz.prog 3 #[.slice a l.length c] w fun e w' => e = .returned (.bool true) ∧ Below w.heap.size w w':=by
 obtain ⟨L,hL⟩:∃ L,L = l.length:=⟨_,rfl⟩
 have HL:Hid (L = l.length):=hL
 have hl':L ≤ maxLen:=by rw [hL]; exact hD.out.1
 unfold maxLen at hl'
 go_enter Tryz.func3,Tryz.ntmps3
 go_wp2_with fail
 refine (Xe.alive_any w hT).mono ?_
 rintro e w0 ⟨rfl,hb0⟩
 have HB0:Hid (Below w.heap.size w w0):=hb0
 have hwk:=owners_walk w.heap.size l a c w0 (hD.out.same (same_below hb0)) hb0.size (gl_same (gl_tabs hT.out) (same_below hb0))
 clear hb0
 go_wp2_with fail
 refine hwk.mono ?_
 rintro e w1 ⟨hb1,h1⟩
 have HB1:Hid (Below w.heap.size w w1):=HB0.out.trans (hb1.mono HB0.out.size)
 clear hwk
 cases ho:owners l with
 | error x =>
  rw [ho] at h1
  subst h1
  have hx:=owners_ne l x ho
  have ex:(x.1 != 0) = true:=by simpa using hx
  clear hb1 ho hx
  go_wp2
  go_ret
  exact ⟨rfl,HB1.out.alloc HB1.out.size _⟩
 | ok os =>
  rw [ho] at h1
  obtain ⟨v,rfl,hown⟩:=h1
  obtain ⟨oa,oc,rfl⟩:=own_form hown
  obtain ⟨NO,hNO⟩:∃ N,N = os.length:=⟨_,rfl⟩
  have HNO:Hid (NO = os.length):=hNO
  have HOW:Hid (owners l = .ok os):=ho
  have HOWN:Hid (w1.ownsRow w0.heap.size 37 3 (.slice oa os.length oc) os.length (ows os)):=hown
  have HB2:Hid (Below w.heap.size w (w1.alloc (.cells #[.int .i64 0,.int .i64 0] 27))):=HB1.out.alloc HB1.out.size _
  have HBb:Hid (Below w1.heap.size w1 (w1.alloc (.cells #[.int .i64 0,.int .i64 0] 27))):=(Below.refl _ w1).alloc (Nat.le_refl _) _
  have HEnd:Hid ((boxesOf l).length = NO):=by
   unfold Hid
   have h2:=congrArg List.length (owners_told ho).1
   simp at h2
   omega
  have hNOL:NO ≤ L:=by
   rw [← HEnd.out,hL]
   exact List.length_filter_le _ _
  rw [← hNO,← hL]
  clear hb1 ho hown hNO hL
  go_upto_region 7 with fail
  generalize w1.alloc (.cells #[.int .i64 0,.int .i64 0] 27) = W2 at *
  go_wp2
  go_loopw [5,27] (fun nv q wr => ∃ j:Nat,q = .int .i64 j ∧ nv = .int .i64 ((boxesOf (l.take j)).length:Int) ∧ j ≤ L ∧ Hid (Below w.heap.size w wr) ∧ Hid (Below w1.heap.size w1 wr)) (fun _ q _ => L - (intOf q).toNat)
  case atStart => exact ⟨0,rfl,rfl,Nat.zero_le _,HB2,HBb⟩
  case round =>
   obtain ⟨j,rfl,rfl,hj,HB,HBo⟩:=hrel
   by_cases hlt:j < L
   ·have hj1:j < l.length:=by rw [← HL.out]; exact hlt
    obtain ⟨d,hd⟩:∃ d,l[j]? = some d:=⟨_,List.getElem?_eq_getElem hj1⟩
    obtain ⟨b,off,pa,pc,ba,bc,rfl,hb,k0,k1,k2,k3,k4,k5,k6,k7,k8,_⟩:=(hD.out.same (same_below HB.out)).2 j d hd
    have hbw:b < wr.heap.size:=by have:=HB.out.size; omega
    have hjp:(j:Int) < (L:Int):=by omega
    have HJ:Hid (j + 1 ≤ L):=hlt
    have HM:Hid ((boxesOf (l.take (j + 1))).length = (boxesOf (l.take j)).length + if d.kind = 1 then 1 else 0):=boxes_more hd
    have HB3:Hid (Below w.heap.size w (wr.alloc (dfB d pa pc ba bc))):=HB.out.alloc HB.out.size _
    have HBo3:Hid (Below w1.heap.size w1 (wr.alloc (dfB d pa pc ba bc))):=HBo.out.alloc HBo.out.size _
    by_cases hk:d.kind = 1
    ·have ek:(d.kind != 1) = false:=by simp [hk]
     obtain ⟨o,hoN,ho1,ht1,ht2⟩:=own_nth HOW.out hd hk
     obtain ⟨n,hn⟩:∃ n,n = (boxesOf (l.take j)).length:=⟨_,rfl⟩
     rw [← hn] at hoN ⊢
     have HNN:Hid ((boxesOf (l.take (j + 1))).length = n + 1):=by unfold Hid; rw [HM.out,if_pos hk,hn]
     have hnN:n < NO:=by rw [HNO.out]; exact (List.getElem?_eq_some_iff.1 hoN).1
     obtain ⟨x0,x1,x2⟩:=ows_at hoN
     obtain ⟨g,rfl,hg,c0⟩:=own_c HOWN.out x0
     obtain ⟨g',e',_,c1⟩:=own_c HOWN.out x1
     cases e'
     obtain ⟨g',e',_,c2⟩:=own_c HOWN.out x2
     cases e'
     rw [ho1] at c0
     have HC:Hid (∀ W,Below w1.heap.size w1 W → W.cell? ⟨g,n * 3,none⟩ = some (.string d.name) ∧ W.cell? ⟨g,n * 3 + 1,none⟩ = some (.string o.2.1) ∧ W.cell? ⟨g,n * 3 + 2,none⟩ = some (.string o.2.2)):=fun W h => ⟨(h.cell (p:=⟨g,n * 3,none⟩) hg).trans c0,(h.cell (p:=⟨g,n * 3 + 1,none⟩) hg).trans c1,(h.cell (p:=⟨g,n * 3 + 2,none⟩) hg).trans c2⟩
     have HD3:Hid ((wr.alloc (dfB d pa pc ba bc)).heap[wr.heap.size]? = some (dfB d pa pc ba bc)):=heap_alloc_new _ _
     have HT1:Hid (TaskOr l o.2.1):=ht1
     have HT2:Hid (TaskOr l o.2.2):=ht2
     obtain ⟨s1,hs1⟩:∃ s,s = o.2.1:=⟨_,rfl⟩
     obtain ⟨s2,hs2⟩:∃ s,s = o.2.2:=⟨_,rfl⟩
     rw [← hs1] at HT1 HC
     rw [← hs2] at HT2 HC
     have n1:¬ (NO:Int) ≤ (n:Int):=by omega
     have n2:(n:Int) < (NO:Int):=by omega
     have n3:(0:Int) ≤ (n:Int):=by omega
     clear hd hk hn hoN ho1 ht1 ht2 x0 x1 x2 c0 c1 c2 hs1 hs2 HM
     go_upto_region 11 with fail
     obtain ⟨NW,hNW⟩:∃ N,N = wr.heap.size:=⟨_,rfl⟩
     rw [← hNW] at HD3 ⊢
     clear hNW
     generalize wr.alloc (dfB d pa pc ba bc) = W3 at *
     obtain ⟨q0,q1,q2⟩:=HC.out _ HBo3.out
     obtain ⟨_,d1,_⟩:=nine_cell HD3.out
     go_quiet (fail)
     have HB4:Hid (Below w.heap.size w (W3.drewN nq)):=below_dn HB3.out nq
     have HBo4:Hid (Below w1.heap.size w1 (W3.drewN nq)):=below_dn HBo3.out nq
     clear HB3 HBo3 q0 q1 q2 d1 HD3
     generalize W3.drewN nq = W4 at *
     obtain ⟨q0,q1,q2⟩:=HC.out _ HBo4.out
     go_wp2
     go_region
     have HS5:Hid ((W4.alloc (.cells #[.string s1,.string s2] 9)).drew.heap[W4.heap.size]? = some (.cells #[.string s1,.string s2] 9 (0,0))):=heap_alloc_new W4 _
     have HB5:Hid (Below w.heap.size w (W4.alloc (.cells #[.string s1,.string s2] 9)).drew):=(HB4.out.alloc HB4.out.size _).drew
     have HBo5:Hid (Below w1.heap.size w1 (W4.alloc (.cells #[.string s1,.string s2] 9)).drew):=(HBo4.out.alloc HBo4.out.size _).drew
     obtain ⟨N4,hN4⟩:∃ N,N = W4.heap.size:=⟨_,rfl⟩
     rw [← hN4] at HS5 ⊢
     clear hN4 HB4 HBo4 q0 q1 q2 HB HBo k0 k1 k2 k3 k4 k5 k6 k7 k8 hbw
     generalize (W4.alloc (.cells #[.string s1,.string s2] 9)).drew = W5 at *
     go_wp2
     go_loopw [60] (fun q wi => ∃ k:Nat,q = .int .i64 k ∧ k ≤ 2 ∧ Hid (Below w.heap.size w wi) ∧ Hid (Below w1.heap.size w1 wi) ∧ Hid (wi.heap[N4]? = some (.cells #[.string s1,.string s2] 9 (0,0)))) (fun q _ => 2 - (intOf q).toNat)
     case atStart => exact ⟨0,rfl,by omega,HB5,HBo5,HS5⟩
     case round =>
      clear HB5 HBo5 HS5
      obtain ⟨k,rfl,hk,HB6,HBo6,HS6⟩:=hrel
      by_cases hk2:k < 2
      ·obtain ⟨s,hs,hts⟩:∃ s,wr.cell? ⟨N4,k,none⟩ = some (.string s) ∧ TaskOr l s:=by
        match k,hk2 with
        | 0,_ => exact ⟨s1,by simp [World.cell?,HS6.out],HT1.out⟩
        | 1,_ => exact ⟨s2,by simp [World.cell?,HS6.out],HT2.out⟩
       have HTS:Hid (TaskOr l s):=hts
       have hkp:(k:Int) < 2:=by omega
       have HK:Hid (k + 1 ≤ 2):=hk2
       have hf:=find_walk w.heap.size l (some ⟨b,off,none⟩) c 4 s wr (hD.out.same (same_below HB6.out)) HB6.out.size
       rw [← HL.out] at hf
       clear hts
       go_wp2_with fail
       refine hf.mono ?_
       rintro e w6 ⟨⟨k0,k2,k4,k6,t1,t3,t5,a7,a8,n7,c7,n8,c8,rfl⟩,hb6⟩
       have HB7:Hid (Below w.heap.size w (w6.alloc (.cells #[.int .i64 k0,.string t1,.int .i64 k2,.string t3,.int .i64 k4,.string t5,.int .i64 k6,.slice a7 n7 c7,.slice a8 n8 c8] 35))):=(HB6.out.trans (hb6.mono HB6.out.size)).alloc (HB6.out.trans (hb6.mono HB6.out.size)).size _
       have HBo7:Hid (Below w1.heap.size w1 (w6.alloc (.cells #[.int .i64 k0,.string t1,.int .i64 k2,.string t3,.int .i64 k4,.string t5,.int .i64 k6,.slice a7 n7 c7,.slice a8 n8 c8] 35))):=(HBo6.out.trans (hb6.mono HBo6.out.size)).alloc (HBo6.out.trans (hb6.mono HBo6.out.size)).size _
       have hS7:=(hb6.block _ (lt_of_block HS6.out)).trans HS6.out
       have HS7:Hid ((w6.alloc (.cells #[.int .i64 k0,.string t1,.int .i64 k2,.string t3,.int .i64 k4,.string t5,.int .i64 k6,.slice a7 n7 c7,.slice a8 n8 c8] 35)).heap[N4]? = some (.cells #[.string s1,.string s2] 9 (0,0))):=(Below.heap_alloc _ _ _ (lt_of_block hS7)).trans hS7
       have hh:=has_of HTS.out
       clear hb6 hS7 hs hf HB6 HBo6 HS6
       cases hem:s.toList.isEmpty with
       | true =>
        clear hh
        go_wp2
        go_roundw
        case rel => exact ⟨k + 1,by go_num,HK.out,HB7,HBo7,HS7⟩
        case measure => have:=HK.out; simp [intOf]; omega
       | false =>
        have hhas:has l 4 s = true:=by
         rcases hh with h | h
         ·rw [h] at hem; cases hem
         ·exact h
        clear hh
        go_wp2
        go_roundw
        case rel => exact ⟨k + 1,by go_num,HK.out,HB7,HBo7,HS7⟩
        case measure => have:=HK.out; simp [intOf]; omega
      ·have hkp:¬ (k:Int) < 2:=by omega
       go_wp2
       go_roundw
       case rel => exact ⟨j + 1,by go_num,by rw [HNN.out]; go_num,HJ.out,HB6,HBo6⟩
       case measure => have:=HJ.out; simp [intOf]; omega
    ·have ek:(d.kind != 1) = true:=by simpa using hk
     have HNN:Hid ((boxesOf (l.take (j + 1))).length = (boxesOf (l.take j)).length):=by unfold Hid; rw [HM.out,if_neg hk,Nat.add_zero]
     clear hd hk
     go_wp2
     go_roundw
     case rel => exact ⟨j + 1,by go_num,by rw [HNN.out],HJ.out,HB3,HBo3⟩
     case measure => have:=HJ.out; simp [intOf]; omega
   ·have hfin:((boxesOf (l.take j)).length:Int) = (NO:Int):=by
     rw [List.take_of_length_le (by have:=HL.out; omega),HEnd.out]
    have hjp:¬ (j:Int) < (L:Int):=by omega
    rw [hfin]
    go_wp2
    go_ret
    exact ⟨rfl,HB.out⟩
end Sm
end Go.Proofs.YtpnljpdpobbiiaaGreatDoor

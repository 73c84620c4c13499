/- The walk of SemaMore. -/
import Derived.Test.YtpnljpdpobbiiaaGreatDoorM47
import Derived.Test.YtpnljpdpobbiiaaGreatDoorM49
import Derived.Test.YtpnljpdpobbiiaaGreatDoorRows
import Derived.Test.YtpnljpdpobbiiaaGreatDoorM13
import Derived.ChangeArms
import Derived.DataReads
import Derived.Lib.LaidTab
import Derived.LaidSub
import Derived.OpenShut
import Derived.MakeChecks
import Derived.SizedLaws
import Derived.LaidLaws
set_option maxRecDepth 100000
set_option maxHeartbeats 4000000
namespace Go.Proofs.YtpnljpdpobbiiaaGreatDoor
open Go.RowKit
namespace Sm
theorem row_none (w:World) (t:TypeId):(w.alloc (.cells #[] t)).ownsRow w.heap.size t 9 (.slice (some ⟨w.heap.size,0,none⟩) 0 0) 0 [] :=
 ⟨by simp,.inr ⟨w.heap.size,0,#[],rfl,Nat.le_refl _,heap_alloc_new w _,Nat.le_refl _,by unfold maxLen; omega,by simp,by simp⟩⟩
abbrev nv (name:ByteArray):DV:=⟨bx name,none,0,none,0⟩
theorem nv_in (B:Nat) (w:World) {name:ByteArray} (h:name.size ≤ maxLen):DfIn B w (bx name) none none :=
 ⟨h,Nat.zero_le _,Nat.zero_le _,⟨Nat.zero_le _,fun i p hp => by simp [bx] at hp⟩,0,Nat.zero_le _,fun i s hs => by simp [bx] at hs⟩
theorem nv_one (name:ByteArray):∀ v ∈ dvC (nv name),v.oneCell' = true:=by
 intro v hv
 simp at hv
 rcases hv with rfl | rfl | rfl | rfl | rfl | rfl | rfl | rfl | rfl <;> rfl
theorem nv_news (name:ByteArray) (W:World) (ad:Addr) (h:some (⟨W.heap.size,0,none⟩:Addr) = some ad) (j:Nat) (u:Value) (hu:(dvC (nv name))[j]? = some u):(W.alloc (.cells (dvC (nv name)).toArray 35)).cell? (ad.add j) = some u:=by
 cases h
 have hb:=heap_alloc_new W (.cells (dvC (nv name)).toArray 35)
 rw [jn_add,Nat.zero_add]
 unfold World.cell?
 rw [hb]
 simpa using hu
theorem more_any (l:List Sy.Df) (a:Option Addr) (c:Nat) (name:ByteArray) (w:World) (hT:Hid (Xe.Tabs w)) (hD:Hid (DfsIn w.heap.size w l a)) (hnm:name.size ≤ maxLen) :
  Calls Tryz.prog 4 #[.slice a l.length c,.string name] w fun e w' => e = .returned (.bool true) ∧ Below w.heap.size w w':=by
 obtain ⟨idf,hid0,hi⟩:=Option.map_eq_some_iff.1 Tryz.infodefx
 have hi0:idf.zero = some (.agg #[.int .i64 0,.string ⟨#[]⟩,.int .i64 0,.string ⟨#[]⟩,.int .i64 0,.string ⟨#[]⟩,.int .i64 0,.slice none 0 0,.slice none 0 0]):=congrArg Prod.fst hi
 have hi1:idf.size = 9:=congrArg (fun x => x.2.1) hi
 have hi2:idf.bytes = 128:=congrArg (fun x => x.2.2) hi
 clear hi
 go_enter Tryz.func4,Tryz.ntmps4
 go_wp2_with fail
 refine (Xe.alive_any w hT).mono ?_
 rintro e w0 ⟨rfl,hb0⟩
 have HB0:Hid (Below w.heap.size w w0):=hb0
 have hwk:=owners_walk w.heap.size l a c w0 (hD.out.same (same_below hb0)) hb0.size (gl_same (gl_tabs hT.out) (same_below hb0))
 clear hb0
 go_wp2_with fail
 refine hwk.mono ?_
 rintro e w1 ⟨hb1,h1⟩
 have HB1:Hid (Below w.heap.size w w1):=HB0.out.trans (hb1.mono HB0.out.size)
 clear hwk
 cases ho:owners l with
 | error x =>
  rw [ho] at h1
  subst h1
  have hx:=owners_ne l x ho
  have ex:(x.1 != 0) = true:=by simpa using hx
  clear hb1 ho hx
  go_wp2
  go_ret
  exact ⟨rfl,HB1.out.alloc HB1.out.size _⟩
 | ok os =>
  rw [ho] at h1
  obtain ⟨v,rfl,hown⟩:=h1
  obtain ⟨oa,oc,rfl⟩:=own_form hown
  have h30:=(right_fit (owners_open ho).1).1
  have HMO:Hid ((∃ e,owners (l ++ [bx name]) = .error e ∧ (e.1 = 7 ∨ e.1 = 5 ∨ e.1 = 4)) ∨ owners (l ++ [bx name]) = .ok (os ++ [(name,⟨#[]⟩,⟨#[]⟩)])):=owners_more name ho
  have HOWN:Hid (w1.ownsRow w0.heap.size 37 3 (.slice oa os.length oc) os.length (ows os)):=hown
  obtain ⟨W3,hW3⟩:∃ W3,W3 = (w1.alloc (.cells #[.int .i64 0,.int .i64 0] 27)).alloc (.cells #[] 35):=⟨_,rfl⟩
  have hb3:Below w1.heap.size w1 W3:=by rw [hW3]; exact ((Below.refl _ w1).alloc (Nat.le_refl _) _).alloc (by simp) _
  have HB3:Hid (Below w1.heap.size w1 W3):=hb3
  have HBw:Hid (Below w.heap.size w W3):=HB1.out.trans (hb3.mono HB1.out.size)
  have HO3:Hid (W3.ownsRow (w1.heap.size + 1) 35 9 (.slice (some ⟨w1.heap.size + 1,0,none⟩) 0 0) 0 []):=by
   have:=row_none (w1.alloc (.cells #[.int .i64 0,.int .i64 0] 27)) 35
   rw [World.size_alloc] at this
   rw [hW3]
   exact this
  have hE3:w1.heap.size + 1 < W3.heap.size:=by rw [hW3]; simp
  have HW3:Hid (W3 = _):=hW3
  have HD3:Hid (DfsIn w.heap.size W3 l a):=hD.out.same (same_below HBw.out)
  obtain ⟨va,hva,hda⟩:=dvs_of HD3.out
  have hna:va.length = l.length:=by rw [← hva]; simp
  have HVA:Hid (va.map DV.d = l):=hva
  have HDA:Hid (DvsIn w.heap.size W3 va a):=hda
  have HNA:Hid (a = none → l.length = 0):=fun e => by rw [← hna,HDA.out.none e]; rfl
  have HLA:Hid ((va.flatMap dvC).length = l.length * 9):=by unfold Hid; rw [jn_len dvC 9 (fun _ => rfl),hna]
  have HNL:Hid (va.length = l.length):=hna
  have HOL:Hid (owners l = .ok os):=ho
  clear hb1 ho hown hb3 hva hda hna
  go_upto_region 6 with fail
  have HNW:Hid (∀ W:World,∀ ad,some (⟨W.heap.size,0,none⟩:Addr) = some ad → ∀ (j:Nat) u,(dvC (nv name))[j]? = some u → (W.alloc (.cells (dvC (nv name)).toArray 35)).cell? (ad.add j) = some u):=nv_news name
  go_wp2_with (first | (at_builtin; have hx1:=HO1.out.alloc (.cells (dvC (nv name)).toArray 35); refine jn_append_src rfl _ _ 22 rfl (w1.heap.size + 1) 35 idf _ 9 128 Tryz.underlying22 hid0 hi0 hi1 hi2 rfl (by decide) v1 (0 + l.length) ([] ++ va.flatMap dvC) rfl hx1 (some ⟨w4.heap.size,0,none⟩) 1 1 (dvC (nv name)) rfl (fun e => by cases e) rfl (HNW.out w4) (nv_one name) (by unfold maxLen; omega) (by omega) (by have:=HR1.out.size; simp; omega) ?_; intro v2 w6 hown2 hgr2; obtain ⟨ao,cap,rfl,hno,hrow⟩:=jn_row hown2; have HRW:=hid hrow; have HNO:=hid hno; have HR2:=hid hgr2; clear hown2 hgr2 hno hrow hx1) | (at_builtin; rw [← HW3.out]; refine jn_append_src rfl _ _ 22 rfl (w1.heap.size + 1) 35 idf _ 9 128 Tryz.underlying22 hid0 hi0 hi1 hi2 rfl (by decide) _ 0 [] rfl HO3.out a l.length c (va.flatMap dvC) rfl HNA.out HLA.out HDA.out.cells (dvs_one _) (by unfold maxLen; omega) (by omega) (by omega) ?_; intro v1 w4 hown1 hgr1; have HO1:=hid hown1; have HR1:Hid (W3.grownBy w4 (some (w1.heap.size + 1))):=hgr1; clear hown1 hgr1))
  have hz4:W3.heap.size ≤ w4.heap.size:=HR1.out.size
  have hz6:w4.heap.size + 1 ≤ w6.heap.size:=by have:=HR2.out.size; simpa using this
  have hz3:w1.heap.size ≤ W3.heap.size:=HB3.out.size
  have hzw:w.heap.size ≤ w1.heap.size:=HB1.out.size
  have HLow:Hid (∀ b,b < w1.heap.size + 1 → w6.heap[b]? = W3.heap[b]?):=fun b hb => by
   have hb4:b < w4.heap.size:=by omega
   have e1:=HR2.out.block b (by simp; omega) (fun e => by have:=(jn_block HO1.out b e.symm).1; omega)
   have e3:=HR1.out.block b (by omega) (by simp; omega)
   exact e1.trans ((Below.heap_alloc w4 _ b hb4).trans e3)
  have HB6:Hid (Below w1.heap.size w1 w6):=⟨HR2.out.os.trans (HR1.out.os.trans HB3.out.os),HR2.out.tape.trans (HR1.out.tape.trans HB3.out.tape),HR2.out.output.trans (HR1.out.output.trans HB3.out.output),by omega,fun b hb => (HLow.out b (by omega)).trans (HB3.out.block b hb)⟩
  have HBw6:Hid (Below w.heap.size w w6):=HB1.out.trans (HB6.out.mono hzw)
  have HSm:Hid (Go.Proofs.YtpnljpdpobbiiaaGreatDoor.Same w.heap.size W3 w6):=fun b o hb => World.cell?_of_block (w:=W3) (HLow.out b (by omega))
  have HDm:Hid (DfsIn w6.heap.size w6 (l ++ [bx name]) ao):=by
   have hvs:(va ++ [nv name]).map DV.d = l ++ [bx name]:=by rw [List.map_append,HVA.out]; rfl
   have hvl:(va ++ [nv name]).length = l.length + 1:=by rw [List.length_append,HNL.out]; rfl
   rw [← hvs]
   refine defs_row (by rw [hvl]; unfold maxLen; omega) (fun e => by have:=HNO.out e; omega) (fun ad e => ?_) (fun x hx => ?_)
   ·obtain ⟨g,cur,h1,h2,h3,h4⟩:=HRW.out ad e
    exact ⟨g,cur,h1,lt_of_block h3,h3,by rw [hvl,show (l.length + 1) * 9 = (0 + l.length + 1) * 9 by omega,h4]; simp⟩
   ·rcases List.mem_append.1 hx with hx | hx
    ·exact (((HDA.out.rows x hx).same HSm.out)).wide (by omega)
    ·simp at hx; subst hx; exact nv_in _ _ hnm
  have hz16:w1.heap.size ≤ w6.heap.size:=by omega
  have hwk:=owners_walk w6.heap.size (l ++ [bx name]) ao cap w6 HDm (Nat.le_refl _) (gl_tabs (hT.out.below HBw6.out))
  rw [show (l ++ [bx name]).length = l.length + 1 by simp] at hwk
  clear HDm HSm HLow HR1 HR2 HRW HNO HO1 HB3 HO3 HW3 HD3 HVA HDA HNA HLA HNL HNW hz4 hz6 hE3 HBw hid0 hi0 hi1 hi2
  refine hwk.mono ?_
  rintro e w7 ⟨hb7,h7⟩
  have HB7:Hid (Below w1.heap.size w1 w7):=HB6.out.trans (hb7.mono (by omega))
  have HBw7:Hid (Below w.heap.size w w7):=HBw6.out.trans (hb7.mono HBw6.out.size)
  clear hwk hb7
  rcases HMO.out with ⟨⟨e1,e2⟩,he,h3⟩ | hok
  ·rw [he] at h7
   subst h7
   have HB8:Hid (Below w.heap.size w (w7.alloc (.cells #[.int .i64 e1,.int .i64 (e2:Int)] 27))):=HBw7.out.alloc HBw7.out.size _
   clear he HMO
   simp only at h3
   rcases h3 with rfl | rfl | rfl
   ·go_wp2
    go_ret
    exact ⟨rfl,HB8.out⟩
   ·go_wp2
    go_ret
    exact ⟨rfl,HB8.out⟩
   ·go_wp2
    go_ret
    exact ⟨rfl,HB8.out⟩
  ·rw [hok] at h7
   obtain ⟨v',rfl,hown'⟩:=h7
   obtain ⟨ba,bc,rfl⟩:=own_form hown'
   have HOWN':Hid (w7.ownsRow w6.heap.size 37 3 (.slice ba (os.length + 1) bc) (os.length + 1) (ows (os ++ [(name,⟨#[]⟩,⟨#[]⟩)]))):=by
    have h:=hown'
    rw [show (os ++ [(name,(⟨#[]⟩:ByteArray),(⟨#[]⟩:ByteArray))]).length = os.length + 1 by simp] at h
    exact h
   rw [show (os ++ [(name,(⟨#[]⟩:ByteArray),(⟨#[]⟩:ByteArray))]).length = os.length + 1 by simp]
   obtain ⟨x0,x1,x2⟩:=ows_at (os:=os ++ [(name,⟨#[]⟩,⟨#[]⟩)]) (n:=os.length) (o:=(name,⟨#[]⟩,⟨#[]⟩)) (by simp)
   obtain ⟨g,rfl,hg,c0⟩:=own_c HOWN'.out x0
   obtain ⟨g',e',_,c1⟩:=own_c HOWN'.out x1
   cases e'
   obtain ⟨g',e',_,c2⟩:=own_c HOWN'.out x2
   cases e'
   have HNO2:Hid (os.length ≤ 30):=by
    have h2:=congrArg List.length (owners_told (l:=l) (os:=os) HOL.out).1
    simp at h2
    have h3:(boxesOf l).length ≤ l.length:=List.length_filter_le _ _
    unfold Hid
    omega
   have HB8:Hid (Below w.heap.size w (w7.alloc (.cells #[.int .i64 0,.int .i64 0] 27))):=HBw7.out.alloc HBw7.out.size _
   have HC:Hid (∀ W,Below w7.heap.size w7 W → (∀ (n:Nat) (o:Ow3),os[n]? = some o → ∃ ga,oa = some ⟨ga,0,none⟩ ∧ W.cell? ⟨ga,n * 3,none⟩ = some (.string o.1) ∧ W.cell? ⟨ga,n * 3 + 1,none⟩ = some (.string o.2.1) ∧ W.cell? ⟨ga,n * 3 + 2,none⟩ = some (.string o.2.2) ∧
     W.cell? ⟨g,n * 3,none⟩ = some (.string o.1) ∧ W.cell? ⟨g,n * 3 + 1,none⟩ = some (.string o.2.1) ∧ W.cell? ⟨g,n * 3 + 2,none⟩ = some (.string o.2.2))):=fun W hW n o ho => by
    obtain ⟨y0,y1,y2⟩:=ows_at ho
    obtain ⟨ga,e1,hga,d0⟩:=own_c HOWN.out y0
    obtain ⟨ga1,e2,_,d1⟩:=own_c HOWN.out y1
    obtain ⟨ga2,e3,_,d2⟩:=own_c HOWN.out y2
    rw [e1] at e2 e3
    cases e2
    cases e3
    have hn:=(List.getElem?_eq_some_iff.1 ho).1
    obtain ⟨z0,z1,z2⟩:=ows_at (os:=os ++ [(name,⟨#[]⟩,⟨#[]⟩)]) (n:=n) (o:=o) (by rw [List.getElem?_append_left hn]; exact ho)
    obtain ⟨_,f1,_,b0⟩:=own_c HOWN'.out z0
    cases f1
    obtain ⟨_,f1,_,b1⟩:=own_c HOWN'.out z1
    cases f1
    obtain ⟨_,f1,_,b2⟩:=own_c HOWN'.out z2
    cases f1
    have k:∀ i,W.cell? ⟨ga,i,none⟩ = w1.cell? ⟨ga,i,none⟩:=fun i => ((hW.cell (p:=⟨ga,i,none⟩) (by have:=HB7.out.size; show ga < _; omega)).trans (HB7.out.cell (p:=⟨ga,i,none⟩) hga))
    have k2:∀ i,W.cell? ⟨g,i,none⟩ = w7.cell? ⟨g,i,none⟩:=fun i => hW.cell (p:=⟨g,i,none⟩) hg
    exact ⟨ga,e1,(k _).trans d0,(k _).trans d1,(k _).trans d2,(k2 _).trans b0,(k2 _).trans b1,(k2 _).trans b2⟩
   have HB9:Hid (Below w7.heap.size w7 (w7.alloc (.cells #[.int .i64 0,.int .i64 0] 27))):=(Below.refl _ w7).alloc (Nat.le_refl _) _
   obtain ⟨NO,hNO⟩:∃ N,N = os.length:=⟨_,rfl⟩
   have HNOS:Hid (NO = os.length):=hNO
   have hno30:NO ≤ 30:=by rw [hNO]; exact HNO2.out
   rw [← hNO] at c0 c1 c2 ⊢
   simp only at c0 c1 c2
   have h1:((NO + 1:Nat):Int) = (NO:Int) + 1:=by omega
   have h2:(NO:Int) < ((NO + 1:Nat):Int):=by omega
   have h3:(0:Int) ≤ (NO:Int):=by omega
   clear hNO x0 x1 x2 hown' hok HMO HNO2
   go_upto_region 12 with fail
   clear c0 c1 c2 h1 h2 h3
   generalize w7.alloc (.cells #[.int .i64 0,.int .i64 0] 27) = W8 at *
   go_wp2
   go_loopw [68] (fun q wr => ∃ j:Nat,q = .int .i64 j ∧ j ≤ NO ∧ Hid (Below w.heap.size w wr) ∧ Hid (Below w7.heap.size w7 wr)) (fun q _ => NO - (intOf q).toNat)
   case atStart => exact ⟨0,rfl,Nat.zero_le _,HB8,HB9⟩
   case round =>
    clear HB8 HB9
    obtain ⟨j,rfl,hj,HBr,HBs⟩:=hrel
    by_cases hlt:j < NO
    ·obtain ⟨o,ho⟩:∃ o,os[j]? = some o:=⟨_,List.getElem?_eq_getElem (by have:=HNOS.out; omega)⟩
     obtain ⟨ga,rfl,d0,d1,d2,b0,b1,b2⟩:=HC.out wr HBs.out j o ho
     obtain ⟨s0,hs0⟩:∃ s,s = o.1:=⟨_,rfl⟩
     obtain ⟨s1,hs1⟩:∃ s,s = o.2.1:=⟨_,rfl⟩
     obtain ⟨s2,hs2⟩:∃ s,s = o.2.2:=⟨_,rfl⟩
     rw [← hs0] at d0 b0
     rw [← hs1] at d1 b1
     rw [← hs2] at d2 b2
     have n1:(j:Int) < (NO:Int):=by omega
     have n2:(j:Int) < ((NO + 1:Nat):Int):=by omega
     have n3:(0:Int) ≤ (j:Int):=by omega
     have HJ:Hid (j + 1 ≤ NO):=hlt
     clear ho hs0 hs1 hs2
     go_wp2
     go_quiet (fail)
     have HBr2:Hid (Below w.heap.size w (wr.drewN nq)):=below_dn HBr.out nq
     have HBs2:Hid (Below w7.heap.size w7 (wr.drewN nq)):=below_dn HBs.out nq
     go_wp2
     go_roundw
     case rel => exact ⟨j + 1,by go_num,HJ.out,HBr2,HBs2⟩
     case measure => have:=HJ.out; simp [intOf]; omega
    ·have n1:¬ (j:Int) < (NO:Int):=by omega
     go_wp2
     go_ret
     exact ⟨rfl,HBr.out⟩
end Sm
namespace Xe
def laidS:List (String × DataW Unit):=[("yieldshape/syn.pairs",Rows.laid_yieldshape_syn_pairs),("yieldshape/sema.number",Rows.laid_yieldshape_sema_number),("yieldshape/sema.truth",Rows.laid_yieldshape_sema_truth)]
theorem two {cs:List Value} (h:cs.length = 2):∃ a b,cs = [a,b]:=by
 match cs,h with
 | [a,b],_ => exact ⟨a,b,rfl⟩
theorem three {cs:List Value} (h:cs.length = 3):∃ a b c,cs = [a,b,c]:=by
 match cs,h with
 | [a,b,c],_ => exact ⟨a,b,c,rfl⟩
theorem cells_int:Tryz.prog.cellsOf 3 = 1:=by kernel_rfl
theorem cells_pair:Tryz.prog.cellsOf 102 = 3:=by kernel_rfl
theorem cells_tab:Tryz.prog.cellsOf 103 = 39:=by kernel_rfl
theorem cells_ty:Tryz.prog.cellsOf 31 = 2:=by kernel_rfl
theorem cells_str:Tryz.prog.cellsOf 9 = 1:=by kernel_rfl
section
variable {H:Type} {enc:TypeId × Value → H} {w:World} {base:Nat} {spare:Nat → Bool} {held:Bool} {fuel:Nat} {cs:List Value} {p:List MemPlace}
theorem pair_cells {k l:Int} {s:List UInt8} (h:DataW.trod enc Tryz.prog w base spare held fuel 102 cs = some (.agg [.lit (.int .i64 k),.lit (.string s),.lit (.int .i64 l)],p)) :
  cs = [iv k,sv s,iv l]:=by
 obtain ⟨xs,n,rfl,hx,hl,hxl,hf⟩:=DataW.trod_struct Tryz.underlying102 h
 rw [cells_pair] at hl
 obtain ⟨a,b,c,rfl⟩:=three hl
 have e:xs.map (·.1) = [.lit (.int .i64 k),.lit (.string s),.lit (.int .i64 l)]:=by
  have:=congrArg Prod.fst hx
  simpa using this.symm
 match xs,e with
 | [x0,x1,x2],e =>
  simp only [List.map_cons,List.map_nil,List.cons.injEq,and_true] at e
  have h0:DataW.trod enc Tryz.prog w base spare held n 3 (([a,b,c].drop 0).take (Tryz.prog.cellsOf 3)) = some x0:=hf 0 _ rfl
  have h1:DataW.trod enc Tryz.prog w base spare held n 9 (([a,b,c].drop 1).take (Tryz.prog.cellsOf 9)) = some x1:=hf 1 _ rfl
  have h2:DataW.trod enc Tryz.prog w base spare held n 3 (([a,b,c].drop 2).take (Tryz.prog.cellsOf 3)) = some x2:=hf 2 _ rfl
  rw [cells_int] at h0 h2
  rw [cells_str] at h1
  obtain ⟨k',hk,rfl,_⟩:=DataW.trod_int Tryz.underlying3 h0
  obtain ⟨s',hs,rfl,_⟩:=DataW.trod_string Tryz.underlying9 h1
  obtain ⟨l',hl',rfl,_⟩:=DataW.trod_int Tryz.underlying3 h2
  simp at hk hs hl'
  simp at e
  obtain ⟨e1,e2,e3⟩:=e
  rw [hk,hs,hl',e1,e3,← e2]
  rfl
theorem type_cells {k:Int} {s:List UInt8} (h:DataW.trod enc Tryz.prog w base spare held fuel 31 cs = some (.agg [.lit (.int .i64 k),.lit (.string s)],p)) :
  cs = [iv k,sv s]:=by
 obtain ⟨xs,n,rfl,hx,hl,hxl,hf⟩:=DataW.trod_struct Tryz.underlying31 h
 rw [cells_ty] at hl
 obtain ⟨a,b,rfl⟩:=two hl
 have e:xs.map (·.1) = [.lit (.int .i64 k),.lit (.string s)]:=by
  have:=congrArg Prod.fst hx
  simpa using this.symm
 match xs,e with
 | [x0,x1],e =>
  simp only [List.map_cons,List.map_nil,List.cons.injEq,and_true] at e
  have h0:DataW.trod enc Tryz.prog w base spare held n 3 (([a,b].drop 0).take (Tryz.prog.cellsOf 3)) = some x0:=hf 0 _ rfl
  have h1:DataW.trod enc Tryz.prog w base spare held n 9 (([a,b].drop 1).take (Tryz.prog.cellsOf 9)) = some x1:=hf 1 _ rfl
  rw [cells_int] at h0
  rw [cells_str] at h1
  obtain ⟨k',hk,rfl,_⟩:=DataW.trod_int Tryz.underlying3 h0
  obtain ⟨s',hs,rfl,_⟩:=DataW.trod_string Tryz.underlying9 h1
  simp at hk hs
  simp at e
  obtain ⟨e1,e2⟩:=e
  rw [hk,hs,e1,← e2]
  rfl
theorem chunks {α:Type} (f:α → List Value) (hf:∀ a,(f a).length = 3):∀ (ts:List α) (cs:List Value),cs.length = 3 * ts.length → (∀ i a,ts[i]? = some a → (cs.drop (i * 3)).take 3 = f a) → cs = ts.flatMap f
 | [],cs,hl,_ => by simp at hl; simp [hl]
 | a :: ts,cs,hl,h => by
  have h0:=h 0 a rfl
  simp only [Nat.zero_mul,List.drop_zero] at h0
  have ih:=chunks f hf ts (cs.drop 3) (by simp at hl ⊢; omega) (fun i b hb => by
   have:=h (i + 1) b (by simpa using hb)
   rw [List.drop_drop,show 3 + i * 3 = (i + 1) * 3 by omega]
   exact this)
  rw [List.flatMap_cons,← h0,← ih,List.take_append_drop]
def signs:List (Int × List UInt8 × Int):=[(18,[111,114],1),(17,[97,110,100],2),(11,[61,61],3),(12,[33,61],3),(13,[60],3),(14,[60,61],3),(15,[62],3),(16,[62,61],3),(6,[43],4),(7,[45],4),(8,[42],5),(9,[47],5),(10,[37],5)]
def signsD {H:Type}:List (DataW H):=signs.map fun p => .agg [.lit (.int .i64 p.1),.lit (.string p.2.1),.lit (.int .i64 p.2.2)]
theorem laid_signs {H:Type}:(Rows.laid_yieldshape_syn_pairs:DataW H) = .agg signsD:=rfl
theorem signs_cells (h:DataW.trod enc Tryz.prog w base spare held fuel 103 cs = some (.agg signsD,p)):cs = pairL:=by
 obtain ⟨xs,n,rfl,hx,hl,hxl,hel⟩:=DataW.trod_array Tryz.underlying103 h
 rw [cells_tab] at hl
 have hx1:xs.map (·.1) = signsD:=by
  have:=congrArg Prod.fst hx
  simpa using this.symm
 refine (chunks (fun p => [iv p.1,sv p.2.1,iv p.2.2]) (fun _ => rfl) signs cs (by rw [hl]; rfl) (fun i q hq => ?_)).trans rfl
 have hi:i < 13:=by have:=(List.getElem?_eq_some_iff.1 hq).1; simpa [signs] using this
 have he:=hel i hi
 rw [cells_pair] at he
 obtain ⟨x,hxi⟩:∃ x,xs[i]? = some x:=⟨_,List.getElem?_eq_getElem (by omega)⟩
 rw [hxi] at he
 have hd:x.1 = .agg [.lit (.int .i64 q.1),.lit (.string q.2.1),.lit (.int .i64 q.2.2)]:=by
  have h1:(xs.map (·.1))[i]? = some x.1:=by rw [List.getElem?_map,hxi]; rfl
  rw [hx1] at h1
  unfold signsD at h1
  rw [List.getElem?_map,hq] at h1
  simpa using h1.symm
 exact pair_cells (cs:=(cs.drop (i * 3)).take 3) (p:=x.2) (by rw [← hd]; exact he)
end
theorem gPairs:Tryz.prog.globalNamed "yieldshape/syn.pairs" = some 0:=by kernel_rfl
theorem gTruth:Tryz.prog.globalNamed "yieldshape/sema.truth" = some 1:=by kernel_rfl
theorem gNum:Tryz.prog.globalNamed "yieldshape/sema.number" = some 2:=by kernel_rfl
theorem gPairsT:(Tryz.prog.globals[0]?).map (·.type) = some 103:=by kernel_rfl
theorem gTruthT:(Tryz.prog.globals[1]?).map (·.type) = some 31:=by kernel_rfl
theorem gNumT:(Tryz.prog.globals[2]?).map (·.type) = some 31:=by kernel_rfl
theorem arr_eq {c:Array Value} {l:List Value} (h:c.toList = l):c = ⟨l⟩:=by cases c; simp at h; rw [h]
theorem of_laidS {W:World} (h:laidMetH Tryz.prog laidS W):Tabs W:=by
 refine ⟨?_,?_,?_⟩
 ·have h1:=h.filter (fun x => x.1 == "yieldshape/syn.pairs")
  have e:laidS.filter (fun x => x.1 == "yieldshape/syn.pairs") = [("yieldshape/syn.pairs",Rows.laid_yieldshape_syn_pairs)]:=by rfl
  rw [e,MakeChecks.laidMetH_plain _ _ _ (by kernel_rfl)] at h1
  obtain ⟨ps,⟨g',t',cs,fuel,p,q,hg',ht',hvar,hd,_,_⟩,_⟩:=h1
  obtain rfl:=Option.some.inj (gPairs.symm.trans hg')
  obtain rfl:=Option.some.inj (gPairsT.symm.trans ht')
  rw [laid_signs] at hd
  have hc:=signs_cells hd
  simp only [World.var?,gPairs,Option.bind_some] at hvar
  split at hvar
  ·rename_i c t fr hh
   simp only [Option.some.injEq] at hvar
   subst hvar
   exact ⟨t,fr,by rw [hh,arr_eq hc]⟩
  ·simp at hvar
 ·have h1:=h.filter (fun x => x.1 == "yieldshape/sema.truth")
  have e:laidS.filter (fun x => x.1 == "yieldshape/sema.truth") = [("yieldshape/sema.truth",Rows.laid_yieldshape_sema_truth)]:=by rfl
  rw [e,MakeChecks.laidMetH_plain _ _ _ (by kernel_rfl)] at h1
  obtain ⟨ps,⟨g',t',cs,fuel,p,q,hg',ht',hvar,hd,_,_⟩,_⟩:=h1
  obtain rfl:=Option.some.inj (gTruth.symm.trans hg')
  obtain rfl:=Option.some.inj (gTruthT.symm.trans ht')
  have hc:=type_cells hd
  simp only [World.var?,gTruth,Option.bind_some] at hvar
  split at hvar
  ·rename_i c t fr hh
   simp only [Option.some.injEq] at hvar
   subst hvar
   exact ⟨t,fr,by rw [hh,arr_eq hc]; rfl⟩
  ·simp at hvar
 ·have h1:=h.filter (fun x => x.1 == "yieldshape/sema.number")
  have e:laidS.filter (fun x => x.1 == "yieldshape/sema.number") = [("yieldshape/sema.number",Rows.laid_yieldshape_sema_number)]:=by rfl
  rw [e,MakeChecks.laidMetH_plain _ _ _ (by kernel_rfl)] at h1
  obtain ⟨ps,⟨g',t',cs,fuel,p,q,hg',ht',hvar,hd,_,_⟩,_⟩:=h1
  obtain rfl:=Option.some.inj (gNum.symm.trans hg')
  obtain rfl:=Option.some.inj (gNumT.symm.trans ht')
  have hc:=type_cells hd
  simp only [World.var?,gNum,Option.bind_some] at hvar
  split at hvar
  ·rename_i c t fr hh
   simp only [Option.some.injEq] at hvar
   subst hvar
   exact ⟨t,fr,by rw [hh,arr_eq hc]; rfl⟩
  ·simp at hvar
def putCells (cs:Array Value) (o:Obj):Obj :=
 match o with
 | .cells _ t frozen => .cells cs t frozen
 | o => o
noncomputable def laidWorld (os:Os):World :=
 { World.holding Tryz.prog os ⟨#[],#[],[]⟩ with heap:=(((World.holding Tryz.prog os ⟨#[],#[],[]⟩).heap.modify 0 (putCells ⟨pairL⟩)).modify 1 (putCells ⟨truthL⟩)).modify 2 (putCells ⟨numL⟩) }
theorem laid_met (os:Os) (args:Array Value):laidMet Tryz.prog laidS ((laidWorld os).forCall (fun _ _ => 0) ⟨#[],args,[]⟩).memory :=
 laidMet_of_run' 8 (by kernel_rfl) (by kernel_rfl)
end Xe
end Go.Proofs.YtpnljpdpobbiiaaGreatDoor

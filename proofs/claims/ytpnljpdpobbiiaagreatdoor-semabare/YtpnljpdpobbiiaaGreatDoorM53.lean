/- The walk of SemaBare. -/
import Derived.Test.YtpnljpdpobbiiaaGreatDoorM47
import Derived.Test.YtpnljpdpobbiiaaGreatDoorM46
import Derived.Test.YtpnljpdpobbiiaaGreatDoorM50
import Derived.Test.YtpnljpdpobbiiaaGreatDoorM52
import Derived.Test.YtpnljpdpobbiiaaGreatDoorM18
import Derived.ChangeArms
import Derived.DataReads
set_option maxRecDepth 100000
set_option maxHeartbeats 2000000
namespace Go.Proofs.YtpnljpdpobbiiaaGreatDoor
open Go.RowKit
namespace Sm
theorem bare_law (D:Nat) (h39:39 ≤ D) (l:List Sy.Df) (a:Option Addr) (c:Nat) (w:World) (hT:Hid (Xe.Tabs w)) (hD:Hid (DfsIn w.heap.size w l a)) (hok:Hid (∀ d ∈ l,Sy.LmD D d)) (hl:l.length ≤ 1099511627744) :
  Calls Tryz.prog 5 #[.slice a l.length c] w fun e w' => e = .returned (.bool true) ∧ Below w.heap.size w w':=by
 obtain ⟨E,hE⟩:∃ E,E = (chk l).1:=⟨_,rfl⟩
 obtain ⟨N,hN⟩:∃ N,N = (chk l).2:=⟨_,rfl⟩
 have HEN:Hid (chk l = (E,N)):=by unfold Hid; rw [hE,hN]
 have HEB:Hid (chk (l.map (Sy.dfZ D)) = (E,N)):=by unfold Hid; rw [chk_bare h39]; exact HEN.out
 have HL:Hid (l.length ≤ 1099511627744):=hl
 clear hE hN h39 hl
 go_enter Tryz.func5,Tryz.ntmps5
 go_wp2_with fail
 refine (Xe.alive_any w hT).mono ?_
 rintro e w0 ⟨rfl,hb0⟩
 have HB0:Hid (Below w.heap.size w w0):=hb0
 have hwk:=check_walk w.heap.size l a c w0 (hD.out.same (same_below hb0)) hb0.size (gl_same (gl_tabs hT.out) (same_below hb0))
 rw [HEN.out] at hwk
 simp only at hwk
 clear hb0
 go_wp2_with fail
 refine hwk.mono ?_
 rintro e w1 ⟨rfl,hb1⟩
 have HB1:Hid (Below w.heap.size w w1):=HB0.out.trans (hb1.mono HB0.out.size)
 clear hwk hb1
 obtain ⟨ys,hys⟩:∃ ys,ys = l.map (Sy.dfZ D):=⟨_,rfl⟩
 have HY:Hid (ys = l.map (Sy.dfZ D)):=hys
 have hwk:=bareZ_any D w.heap.size l ys a c w1 hok HL.out HB1.out.size (hD.out.same (same_below HB1.out)) HY
 go_wp2_with fail
 refine hwk.mono ?_
 rintro e w2 ⟨a',c',rfl,hq,hb2⟩
 have HB2:Hid (Below w.heap.size w w2):=HB1.out.trans (hb2.mono HB1.out.size)
 have hdy:DfsIn w2.heap.size w2 ys a':=hq.toIn (fun b hb => hb.2) (by rw [hys,List.length_map]; have:=HL.out; unfold maxLen; omega)
 clear hwk
 have hwk:=check_walk w2.heap.size ys a' c' w2 hdy (Nat.le_refl _) (gl_tabs (hT.out.below HB2.out))
 have hc:chk ys = (E,N):=by rw [hys]; exact HEB.out
 rw [hc] at hwk
 simp only at hwk
 clear hq hb2 hdy hys hc
 go_wp2_with fail
 refine hwk.mono ?_
 rintro e w3 ⟨rfl,hb3⟩
 have HB3:Hid (Below w.heap.size w w3):=HB2.out.trans (hb3.mono HB2.out.size)
 clear hwk hb3
 go_wp2
 go_ret
 exact ⟨rfl,HB3.out⟩
end Sm
section
variable {H:Type} {enc:TypeId × Value → H} {w:World} {base:Nat} {spare:Nat → Bool} {held:Bool}
theorem ExIn.mono {B:Nat} {w:World}:∀ {h h':Nat} {x:Sy.Ex} {a:Option Addr},h ≤ h' → ExIn B w h x a → ExIn B w h' x a
 | 0,_,_,_,_,hx => hx.elim
 | h + 1,0,_,_,hh,_ => by omega
 | h + 1,h' + 1,x,a,hh,hx => ⟨hx.1,hx.2.1,fun i k hk => by
  obtain ⟨b,off,a',c',e,hb,c0,c1,c2,c3,hin⟩:=hx.2.2 i k hk
  exact ⟨b,off,a',c',e,hb,c0,c1,c2,c3,hin.mono (by omega)⟩⟩
theorem StIn.mono {B:Nat} {w:World}:∀ {h h':Nat} {s:Sy.St} {xa ba ea:Option Addr},h ≤ h' → StIn B w h s xa ba ea → StIn B w h' s xa ba ea
 | 0,_,_,_,_,_,_,hx => hx.elim
 | h + 1,0,_,_,_,_,hh,_ => by omega
 | h + 1,h' + 1,s,xa,ba,ea,hh,hx => ⟨hx.1,hx.2.1,hx.2.2.1,hx.2.2.2.1,
  fun i k hk => by
   obtain ⟨b,off,xa',xc,ba',bc,ea',ec,e,hb,c0,c1,c2,c3,c4,c5,c6,c7,hin⟩:=hx.2.2.2.2.1 i k hk
   exact ⟨b,off,xa',xc,ba',bc,ea',ec,e,hb,c0,c1,c2,c3,c4,c5,c6,c7,hin.mono (by omega)⟩,
  fun i k hk => by
   obtain ⟨b,off,xa',xc,ba',bc,ea',ec,e,hb,c0,c1,c2,c3,c4,c5,c6,c7,hin⟩:=hx.2.2.2.2.2 i k hk
   exact ⟨b,off,xa',xc,ba',bc,ea',ec,e,hb,c0,c1,c2,c3,c4,c5,c6,c7,hin.mono (by omega)⟩⟩
theorem cells_at {a:Addr} {i n:Nat} {cs:List Value} (hn:0 < n) (h:w.cells? base (a.add (i * n)) n = some cs) (h0:a.spot = none) :
  a.block < w.heap.size ∧ ∀ j,j < n → w.cell? ⟨a.block,a.off + i * n + j,none⟩ = cs[j]?:=by
 obtain ⟨hb,hl,hc⟩:=World.cells?_some h
 have hadd:∀ k,a.add k = ⟨a.block,a.off + k,none⟩:=by
  intro k
  unfold Addr.add
  split
  ·subst_vars; cases a; simp_all
  ·rfl
 have hcell:∀ j,j < n → w.cell? ⟨a.block,a.off + i * n + j,none⟩ = cs[j]?:=by
  intro j hj
  have:=hc j hj
  rw [hadd] at this
  rw [← this]
  congr 1
  unfold Addr.add
  split
  ·subst_vars; rfl
  ·rfl
 refine ⟨?_,hcell⟩
 have h1:=hcell 0 hn
 rw [List.getElem?_eq_getElem (by omega)] at h1
 cases hh:w.heap[a.block]? with
 | none => simp [World.cell?,hh] at h1
 | some o => exact lt_of_block hh
theorem spot_of {a:Addr} {n:Nat} {cs:List Value} (hn:0 < n) (h:w.cells? base (a.add (0 * n)) n = some cs):a.spot = none:=by
 obtain ⟨hb,hl,hc⟩:=World.cells?_some h
 have h1:=hc 0 hn
 rw [List.getElem?_eq_getElem (by omega)] at h1
 simp only [Nat.zero_mul,Addr.add,if_true] at h1
 unfold World.cell? at h1
 split at h1
 ·split at h1
  ·simp at h1
  ·rename_i hs; simpa using hs
 ·simp at h1
theorem list_of {α:Type} {p:Nat → α → Prop}:∀ (n:Nat),(∀ i,i < n → ∃ y,p i y) → ∃ l:List α,l.length = n ∧ ∀ i y,l[i]? = some y → p i y
 | 0,_ => ⟨[],rfl,fun i y hy => by simp at hy⟩
 | m + 1,hall => by
  obtain ⟨l,h1,h2⟩:=list_of m (fun i hi => hall i (by omega))
  obtain ⟨y,h3⟩:=hall m (by omega)
  refine ⟨l ++ [y],by simp [h1],fun i z hz => ?_⟩
  by_cases hi:i < l.length
  ·rw [List.getElem?_append_left hi] at hz; exact h2 i z hz
  ·rw [List.getElem?_append_right (by omega)] at hz
   have hi2:i - l.length = 0:=by
    have:=(List.getElem?_eq_some_iff.1 hz).1
    simp at this; omega
   rw [hi2] at hz
   simp at hz
   subst hz
   obtain rfl:i = m:=by omega
   exact h3
theorem cells_expr:Tryz.prog.cellsOf 92 = 4:=by kernel_rfl
theorem cells_stat:Tryz.prog.cellsOf 94 = 8:=by kernel_rfl
theorem cells_def:Tryz.prog.cellsOf 35 = 9:=by kernel_rfl
theorem cells_param:Tryz.prog.cellsOf 58 = 3:=by kernel_rfl
theorem cells_type:Tryz.prog.cellsOf 31 = 2:=by kernel_rfl
theorem cells_int:Tryz.prog.cellsOf 3 = 1:=by kernel_rfl
theorem cells_i64:Tryz.prog.cellsOf 2 = 1:=by kernel_rfl
theorem cells_str:Tryz.prog.cellsOf 9 = 1:=by kernel_rfl
theorem cells_exprs:Tryz.prog.cellsOf 90 = 1:=by kernel_rfl
theorem cells_stats:Tryz.prog.cellsOf 33 = 1:=by kernel_rfl
theorem cells_params:Tryz.prog.cellsOf 32 = 1:=by kernel_rfl
theorem fourOp {cs:List Value} (h:cs.length = 4):∃ a b c d,cs = [a,b,c,d]:=by
 match cs,h with
 | [a,b,c,d],_ => exact ⟨a,b,c,d,rfl⟩
theorem twoOp {cs:List Value} (h:cs.length = 2):∃ a b,cs = [a,b]:=by
 match cs,h with
 | [a,b],_ => exact ⟨a,b,rfl⟩
theorem threeOp {cs:List Value} (h:cs.length = 3):∃ a b c,cs = [a,b,c]:=by
 match cs,h with
 | [a,b,c],_ => exact ⟨a,b,c,rfl⟩
theorem eightOp {cs:List Value} (h:cs.length = 8):∃ a b c d e f g i,cs = [a,b,c,d,e,f,g,i]:=by
 match cs,h with
 | [a,b,c,d,e,f,g,i],_ => exact ⟨a,b,c,d,e,f,g,i,rfl⟩
theorem nineOp {cs:List Value} (h:cs.length = 9):∃ a b c d e f g i j,cs = [a,b,c,d,e,f,g,i,j]:=by
 match cs,h with
 | [a,b,c,d,e,f,g,i,j],_ => exact ⟨a,b,c,d,e,f,g,i,j,rfl⟩
theorem field_some {fs:Array Field} {n:Nat} {cs:List Value} {xs:List (DataW H × List MemPlace)} (hl:xs.length = fs.size)
  (h:∀ (i:Nat) (f:Field),fs[i]? = some f → DataW.trod enc Tryz.prog w base spare held n f.type ((cs.drop f.offset).take (Tryz.prog.cellsOf f.type)) = xs[i]?)
  (i:Nat) (f:Field) (hf:fs[i]? = some f):∃ x,DataW.trod enc Tryz.prog w base spare held n f.type ((cs.drop f.offset).take (Tryz.prog.cellsOf f.type)) = some x:=by
 have hi:i < fs.size:=(Array.getElem?_eq_some_iff.1 hf).1
 exact ⟨xs[i]'(by omega),by rw [h i f hf,List.getElem?_eq_getElem]⟩
theorem type_open {fuel:Nat} {cs:List Value} {x:DataW H × List MemPlace} (h:DataW.trod enc Tryz.prog w base spare held fuel 31 cs = some x) :
  ∃ t:Sy.Ty,cs = [.int .i64 t.kind,.string t.gen] ∧ t.gen.size ≤ maxLen:=by
 obtain ⟨xs,n,rfl,_,hl,hxl,hf⟩:=DataW.trod_struct Tryz.underlying31 h
 rw [cells_type] at hl
 obtain ⟨a,b,rfl⟩:=twoOp hl
 obtain ⟨x0,h0⟩:∃ x,DataW.trod enc Tryz.prog w base spare held n 3 (([a,b].drop 0).take (Tryz.prog.cellsOf 3)) = some x:=field_some hxl hf 0 _ rfl
 obtain ⟨x1,h1⟩:∃ x,DataW.trod enc Tryz.prog w base spare held n 9 (([a,b].drop 1).take (Tryz.prog.cellsOf 9)) = some x:=field_some hxl hf 1 _ rfl
 simp only [cells_int,cells_str] at h0 h1
 obtain ⟨k,hk,_,_⟩:=DataW.trod_int Tryz.underlying3 h0
 obtain ⟨s,hs,_,hsz⟩:=DataW.trod_string Tryz.underlying9 h1
 simp at hk hs
 exact ⟨⟨k,s⟩,by rw [hk,hs],hsz⟩
theorem param_open {fuel:Nat} {cs:List Value} {x:DataW H × List MemPlace} (h:DataW.trod enc Tryz.prog w base spare held fuel 58 cs = some x) :
  ∃ p:Sy.Pm,cs = [.string p.name,.int .i64 p.ty.kind,.string p.ty.gen] ∧ p.name.size ≤ maxLen ∧ p.ty.gen.size ≤ maxLen:=by
 obtain ⟨xs,n,rfl,_,hl,hxl,hf⟩:=DataW.trod_struct Tryz.underlying58 h
 rw [cells_param] at hl
 obtain ⟨a,b,c,rfl⟩:=threeOp hl
 obtain ⟨x0,h0⟩:∃ x,DataW.trod enc Tryz.prog w base spare held n 9 (([a,b,c].drop 0).take (Tryz.prog.cellsOf 9)) = some x:=field_some hxl hf 0 _ rfl
 obtain ⟨x1,h1⟩:∃ x,DataW.trod enc Tryz.prog w base spare held n 31 (([a,b,c].drop 1).take (Tryz.prog.cellsOf 31)) = some x:=field_some hxl hf 1 _ rfl
 simp only [cells_type,cells_str] at h0 h1
 obtain ⟨s,hs,_,hsz⟩:=DataW.trod_string Tryz.underlying9 h0
 obtain ⟨t,ht,htz⟩:=type_open h1
 simp at hs ht
 obtain ⟨e1,e2⟩:=ht
 exact ⟨⟨s,t⟩,by rw [hs,e1,e2],hsz,htz⟩
end
end Go.Proofs.YtpnljpdpobbiiaaGreatDoor

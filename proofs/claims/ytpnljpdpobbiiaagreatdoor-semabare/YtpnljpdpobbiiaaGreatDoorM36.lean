/- The walk of SemaBare. -/
import Derived.Test.YtpnljpdpobbiiaaGreatDoorM32
import Derived.Test.YtpnljpdpobbiiaaGreatDoorM31
import Derived.Test.YtpnljpdpobbiiaaGreatDoorM34
import Derived.Test.YtpnljpdpobbiiaaGreatDoorM35
import Derived.Test.YtpnljpdpobbiiaaGreatDoorM12
import Derived.ChangeArms
import Derived.DataReads
import Derived.Test.YtpnljpdpobbiiaaGreatDoorM33
set_option maxRecDepth 100000
set_option maxHeartbeats 2000000
namespace Go.Proofs.YtpnljpdpobbiiaaGreatDoor
open Go.RowKit
namespace Sm
theorem bare_law (D:Nat) (h39:39 ≤ D) (l:List Sy.Df) (a:Option Addr) (c:Nat) (w:World) (hT:Hid (Xe.Tabs w)) (hD:Hid (DfsIn w.heap.size w l a)) (hok:Hid (∀ d ∈ l,Sy.LmD D d)) (hl:l.length ≤ 1099511627744) :
  Calls Tryz.prog 5 #[.slice a l.length c] w fun e w' => e = .returned (.bool true) ∧ Below w.heap.size w w':=by
 obtain ⟨E,hE⟩:∃ E,E = (chk l).1:=⟨_,rfl⟩
 obtain ⟨N,hN⟩:∃ N,N = (chk l).2:=⟨_,rfl⟩
 have HEN:Hid (chk l = (E,N)):=by unfold Hid; rw [hE,hN]
 have HEB:Hid (chk (l.map (Sy.dfZ D)) = (E,N)):=by unfold Hid; rw [chk_bare h39]; exact HEN.out
 have HL:Hid (l.length ≤ 1099511627744):=hl
 clear hE hN h39 hl
 go_enter Tryz.func5,Tryz.ntmps5
 go_wp2_with fail
 refine (Xe.alive_any w hT).mono ?_
 rintro e w0 ⟨rfl,hb0⟩
 have HB0:Hid (Below w.heap.size w w0):=hb0
 have hwk:=check_walk w.heap.size l a c w0 (hD.out.same (same_below hb0)) hb0.size (gl_same (gl_tabs hT.out) (same_below hb0))
 rw [HEN.out] at hwk
 simp only at hwk
 clear hb0
 go_wp2_with fail
 refine hwk.mono ?_
 rintro e w1 ⟨rfl,hb1⟩
 have HB1:Hid (Below w.heap.size w w1):=HB0.out.trans (hb1.mono HB0.out.size)
 clear hwk hb1
 obtain ⟨ys,hys⟩:∃ ys,ys = l.map (Sy.dfZ D):=⟨_,rfl⟩
 have HY:Hid (ys = l.map (Sy.dfZ D)):=hys
 have hwk:=bareZ_any D w.heap.size l ys a c w1 hok HL.out HB1.out.size (hD.out.same (same_below HB1.out)) HY
 go_wp2_with fail
 refine hwk.mono ?_
 rintro e w2 ⟨a',c',rfl,hq,hb2⟩
 have HB2:Hid (Below w.heap.size w w2):=HB1.out.trans (hb2.mono HB1.out.size)
 have hdy:DfsIn w2.heap.size w2 ys a':=hq.toIn (fun b hb => hb.2) (by rw [hys,List.length_map]; have:=HL.out; unfold maxLen; omega)
 clear hwk
 have hwk:=check_walk w2.heap.size ys a' c' w2 hdy (Nat.le_refl _) (gl_tabs (hT.out.below HB2.out))
 have hc:chk ys = (E,N):=by rw [hys]; exact HEB.out
 rw [hc] at hwk
 simp only at hwk
 clear hq hb2 hdy hys hc
 go_wp2_with fail
 refine hwk.mono ?_
 rintro e w3 ⟨rfl,hb3⟩
 have HB3:Hid (Below w.heap.size w w3):=HB2.out.trans (hb3.mono HB2.out.size)
 clear hwk hb3
 go_wp2
 go_ret
 exact ⟨rfl,HB3.out⟩
end Sm
section
variable {H:Type} {enc:TypeId × Value → H} {w:World} {base:Nat} {spare:Nat → Bool} {held:Bool}
theorem ExIn.mono {B:Nat} {w:World}:∀ {h h':Nat} {x:Sy.Ex} {a:Option Addr},h ≤ h' → ExIn B w h x a → ExIn B w h' x a
 | 0,_,_,_,_,hx => hx.elim
 | h + 1,0,_,_,hh,_ => by omega
 | h + 1,h' + 1,x,a,hh,hx => ⟨hx.1,hx.2.1,fun i k hk => by
  obtain ⟨b,off,a',c',e,hb,c0,c1,c2,c3,hin⟩:=hx.2.2 i k hk
  exact ⟨b,off,a',c',e,hb,c0,c1,c2,c3,hin.mono (by omega)⟩⟩
theorem StIn.mono {B:Nat} {w:World}:∀ {h h':Nat} {s:Sy.St} {xa ba ea:Option Addr},h ≤ h' → StIn B w h s xa ba ea → StIn B w h' s xa ba ea
 | 0,_,_,_,_,_,_,hx => hx.elim
 | h + 1,0,_,_,_,_,hh,_ => by omega
 | h + 1,h' + 1,s,xa,ba,ea,hh,hx => ⟨hx.1,hx.2.1,hx.2.2.1,hx.2.2.2.1,
  fun i k hk => by
   obtain ⟨b,off,xa',xc,ba',bc,ea',ec,e,hb,c0,c1,c2,c3,c4,c5,c6,c7,hin⟩:=hx.2.2.2.2.1 i k hk
   exact ⟨b,off,xa',xc,ba',bc,ea',ec,e,hb,c0,c1,c2,c3,c4,c5,c6,c7,hin.mono (by omega)⟩,
  fun i k hk => by
   obtain ⟨b,off,xa',xc,ba',bc,ea',ec,e,hb,c0,c1,c2,c3,c4,c5,c6,c7,hin⟩:=hx.2.2.2.2.2 i k hk
   exact ⟨b,off,xa',xc,ba',bc,ea',ec,e,hb,c0,c1,c2,c3,c4,c5,c6,c7,hin.mono (by omega)⟩⟩
theorem cells_at {a:Addr} {i n:Nat} {cs:List Value} (hn:0 < n) (h:w.cells? base (a.add (i * n)) n = some cs) (h0:a.spot = none) :
  a.block < w.heap.size ∧ ∀ j,j < n → w.cell? ⟨a.block,a.off + i * n + j,none⟩ = cs[j]?:=by
 obtain ⟨hb,hl,hc⟩:=World.cells?_some h
 have hadd:∀ k,a.add k = ⟨a.block,a.off + k,none⟩:=by
  intro k
  unfold Addr.add
  split
  ·subst_vars; cases a; simp_all
  ·rfl
 have hcell:∀ j,j < n → w.cell? ⟨a.block,a.off + i * n + j,none⟩ = cs[j]?:=by
  intro j hj
  have:=hc j hj
  rw [hadd] at this
  rw [← this]
  congr 1
  unfold Addr.add
  split
  ·subst_vars; rfl
  ·rfl
 refine ⟨?_,hcell⟩
 have h1:=hcell 0 hn
 rw [List.getElem?_eq_getElem (by omega)] at h1
 cases hh:w.heap[a.block]? with
 | none => simp [World.cell?,hh] at h1
 | some o => exact lt_of_block hh
theorem spot_of {a:Addr} {n:Nat} {cs:List Value} (hn:0 < n) (h:w.cells? base (a.add (0 * n)) n = some cs):a.spot = none:=by
 obtain ⟨hb,hl,hc⟩:=World.cells?_some h
 have h1:=hc 0 hn
 rw [List.getElem?_eq_getElem (by omega)] at h1
 simp only [Nat.zero_mul,Addr.add,if_true] at h1
 unfold World.cell? at h1
 split at h1
 ·split at h1
  ·simp at h1
  ·rename_i hs; simpa using hs
 ·simp at h1
theorem list_of {α:Type} {p:Nat → α → Prop}:∀ (n:Nat),(∀ i,i < n → ∃ y,p i y) → ∃ l:List α,l.length = n ∧ ∀ i y,l[i]? = some y → p i y
 | 0,_ => ⟨[],rfl,fun i y hy => by simp at hy⟩
 | m + 1,hall => by
  obtain ⟨l,h1,h2⟩:=list_of m (fun i hi => hall i (by omega))
  obtain ⟨y,h3⟩:=hall m (by omega)
  refine ⟨l ++ [y],by simp [h1],fun i z hz => ?_⟩
  by_cases hi:i < l.length
  ·rw [List.getElem?_append_left hi] at hz; exact h2 i z hz
  ·rw [List.getElem?_append_right (by omega)] at hz
   have hi2:i - l.length = 0:=by
    have:=(List.getElem?_eq_some_iff.1 hz).1
    simp at this; omega
   rw [hi2] at hz
   simp at hz
   subst hz
   obtain rfl:i = m:=by omega
   exact h3
theorem cells_expr:Tryz.prog.cellsOf 92 = 4:=by kernel_rfl
theorem cells_stat:Tryz.prog.cellsOf 94 = 8:=by kernel_rfl
theorem cells_def:Tryz.prog.cellsOf 35 = 9:=by kernel_rfl
theorem cells_param:Tryz.prog.cellsOf 58 = 3:=by kernel_rfl
theorem cells_type:Tryz.prog.cellsOf 31 = 2:=by kernel_rfl
theorem cells_int:Tryz.prog.cellsOf 3 = 1:=by kernel_rfl
theorem cells_i64:Tryz.prog.cellsOf 2 = 1:=by kernel_rfl
theorem cells_str:Tryz.prog.cellsOf 9 = 1:=by kernel_rfl
theorem cells_exprs:Tryz.prog.cellsOf 90 = 1:=by kernel_rfl
theorem cells_stats:Tryz.prog.cellsOf 33 = 1:=by kernel_rfl
theorem cells_params:Tryz.prog.cellsOf 32 = 1:=by kernel_rfl
theorem fourOp {cs:List Value} (h:cs.length = 4):∃ a b c d,cs = [a,b,c,d]:=by
 match cs,h with
 | [a,b,c,d],_ => exact ⟨a,b,c,d,rfl⟩
theorem twoOp {cs:List Value} (h:cs.length = 2):∃ a b,cs = [a,b]:=by
 match cs,h with
 | [a,b],_ => exact ⟨a,b,rfl⟩
theorem threeOp {cs:List Value} (h:cs.length = 3):∃ a b c,cs = [a,b,c]:=by
 match cs,h with
 | [a,b,c],_ => exact ⟨a,b,c,rfl⟩
theorem eightOp {cs:List Value} (h:cs.length = 8):∃ a b c d e f g i,cs = [a,b,c,d,e,f,g,i]:=by
 match cs,h with
 | [a,b,c,d,e,f,g,i],_ => exact ⟨a,b,c,d,e,f,g,i,rfl⟩
theorem nineOp {cs:List Value} (h:cs.length = 9):∃ a b c d e f g i j,cs = [a,b,c,d,e,f,g,i,j]:=by
 match cs,h with
 | [a,b,c,d,e,f,g,i,j],_ => exact ⟨a,b,c,d,e,f,g,i,j,rfl⟩
theorem field_some {fs:Array Field} {n:Nat} {cs:List Value} {xs:List (DataW H × List MemPlace)} (hl:xs.length = fs.size)
  (h:∀ (i:Nat) (f:Field),fs[i]? = some f → DataW.trod enc Tryz.prog w base spare held n f.type ((cs.drop f.offset).take (Tryz.prog.cellsOf f.type)) = xs[i]?)
  (i:Nat) (f:Field) (hf:fs[i]? = some f):∃ x,DataW.trod enc Tryz.prog w base spare held n f.type ((cs.drop f.offset).take (Tryz.prog.cellsOf f.type)) = some x:=by
 have hi:i < fs.size:=(Array.getElem?_eq_some_iff.1 hf).1
 exact ⟨xs[i]'(by omega),by rw [h i f hf,List.getElem?_eq_getElem]⟩
theorem type_open {fuel:Nat} {cs:List Value} {x:DataW H × List MemPlace} (h:DataW.trod enc Tryz.prog w base spare held fuel 31 cs = some x) :
  ∃ t:Sy.Ty,cs = [.int .i64 t.kind,.string t.gen] ∧ t.gen.size ≤ maxLen:=by
 obtain ⟨xs,n,rfl,_,hl,hxl,hf⟩:=DataW.trod_struct Tryz.underlying31 h
 rw [cells_type] at hl
 obtain ⟨a,b,rfl⟩:=twoOp hl
 obtain ⟨x0,h0⟩:∃ x,DataW.trod enc Tryz.prog w base spare held n 3 (([a,b].drop 0).take (Tryz.prog.cellsOf 3)) = some x:=field_some hxl hf 0 _ rfl
 obtain ⟨x1,h1⟩:∃ x,DataW.trod enc Tryz.prog w base spare held n 9 (([a,b].drop 1).take (Tryz.prog.cellsOf 9)) = some x:=field_some hxl hf 1 _ rfl
 simp only [cells_int,cells_str] at h0 h1
 obtain ⟨k,hk,_,_⟩:=DataW.trod_int Tryz.underlying3 h0
 obtain ⟨s,hs,_,hsz⟩:=DataW.trod_string Tryz.underlying9 h1
 simp at hk hs
 exact ⟨⟨k,s⟩,by rw [hk,hs],hsz⟩
theorem param_open {fuel:Nat} {cs:List Value} {x:DataW H × List MemPlace} (h:DataW.trod enc Tryz.prog w base spare held fuel 58 cs = some x) :
  ∃ p:Sy.Pm,cs = [.string p.name,.int .i64 p.ty.kind,.string p.ty.gen] ∧ p.name.size ≤ maxLen ∧ p.ty.gen.size ≤ maxLen:=by
 obtain ⟨xs,n,rfl,_,hl,hxl,hf⟩:=DataW.trod_struct Tryz.underlying58 h
 rw [cells_param] at hl
 obtain ⟨a,b,c,rfl⟩:=threeOp hl
 obtain ⟨x0,h0⟩:∃ x,DataW.trod enc Tryz.prog w base spare held n 9 (([a,b,c].drop 0).take (Tryz.prog.cellsOf 9)) = some x:=field_some hxl hf 0 _ rfl
 obtain ⟨x1,h1⟩:∃ x,DataW.trod enc Tryz.prog w base spare held n 31 (([a,b,c].drop 1).take (Tryz.prog.cellsOf 31)) = some x:=field_some hxl hf 1 _ rfl
 simp only [cells_type,cells_str] at h0 h1
 obtain ⟨s,hs,_,hsz⟩:=DataW.trod_string Tryz.underlying9 h0
 obtain ⟨t,ht,htz⟩:=type_open h1
 simp at hs ht
 obtain ⟨e1,e2⟩:=ht
 exact ⟨⟨s,t⟩,by rw [hs,e1,e2],hsz,htz⟩
end
theorem lmE_mono:∀ {h h':Nat} {x:Sy.Ex},h ≤ h' → Sy.LmE h x → Sy.LmE h' x
 | 0,_,_,_,hx => hx.elim
 | h + 1,0,_,hh,_ => by omega
 | h + 1,h' + 1,x,hh,hx => ⟨hx.1,fun k hk => lmE_mono (by omega) (hx.2 k hk)⟩
theorem lmS_mono:∀ {h h':Nat} {x:Sy.St},h ≤ h' → Sy.LmS h x → Sy.LmS h' x
 | 0,_,_,_,hx => hx.elim
 | h + 1,0,_,hh,_ => by omega
 | h + 1,h' + 1,x,hh,hx => ⟨lmE_mono (by omega) hx.1,⟨hx.2.1.1,fun k hk => lmS_mono (by omega) (hx.2.1.2 k hk)⟩,⟨hx.2.2.1,fun k hk => lmS_mono (by omega) (hx.2.2.2 k hk)⟩⟩
theorem le_max {n:Nat} (h:n ≤ 3518437208780):n ≤ maxLen:=by unfold maxLen; omega
theorem by_expr:Tryz.prog.bytesOf 92 = 56:=by kernel_rfl
theorem by_stat:Tryz.prog.bytesOf 94 = 128:=by kernel_rfl
theorem by_def:Tryz.prog.bytesOf 35 = 128:=by kernel_rfl
theorem by_param:Tryz.prog.bytesOf 58 = 40:=by kernel_rfl
section
variable {H:Type} {enc:TypeId × Value → H} {w:World} {base:Nat} {spare:Nat → Bool} {held:Bool}
theorem slice_listZ {P:TypeId → DataW H → Prop} (hPs:∀ t e,Tryz.prog.underlying t = some (.slice e) → ∀ el sp,P t (.slice el sp) → el.length * Tryz.prog.bytesOf e ≤ 140737488351232 ∧ ∀ d ∈ el,P e d) {α:Type} {t e:TypeId} {n fuel:Nat} {cs:List Value} {x:DataW H × List MemPlace} (Q:Nat → List Value → α → Prop)
  (ht:Tryz.prog.underlying t = some (.slice e)) (hce:Tryz.prog.cellsOf e = n) (hn:0 < n)
  (hQ:∀ f cs' x',f < fuel → DataW.trod enc Tryz.prog w base spare held f e cs' = some x' → P e x'.1 → ∃ y,Q f cs' y)
  (h:DataW.trod enc Tryz.prog w base spare held fuel t cs = some x) (hP:P t x.1) :
  ∃ (l:List α) (a:Option Addr) (c:Nat),cs = [.slice a l.length c] ∧ l.length * Tryz.prog.bytesOf e ≤ 140737488351232 ∧
   ∀ i y,l[i]? = some y → ∃ b off cs' f,a = some ⟨b,off,none⟩ ∧ b < w.heap.size ∧ f < fuel ∧ cs'.length = n ∧ Q f cs' y ∧ ∀ j,j < n → w.cell? ⟨b,off + i * n + j,none⟩ = cs'[j]?:=by
 rcases DataW.trod_slice ht h with ⟨rfl,_⟩ | ⟨a,len,cap,elems,rest,k,rfl,rfl,rfl,hb,hl,hm,hlen,hel,_,_⟩
 ·exact ⟨[],none,0,rfl,by simp,fun i y hy => by simp at hy⟩
 ·obtain ⟨hshort,hPe⟩:=hPs _ _ ht _ _ hP
  rw [List.length_map] at hshort
  rw [hce] at hel
  have hall:∀ i,i < len → ∃ cs' y,w.cells? base (a.add (i * n)) n = some cs' ∧ Q k cs' y:=by
   intro i hi
   have:=hel i hi
   rw [List.getElem?_eq_getElem (by omega)] at this
   obtain ⟨cs',h1,h2⟩:=Option.bind_eq_some_iff.1 this
   obtain ⟨y,hy⟩:=hQ k cs' _ (by omega) h2 (hPe _ (List.mem_map.2 ⟨_,List.getElem_mem _,rfl⟩))
   exact ⟨cs',y,h1,hy⟩
  obtain ⟨l,hll,hlq⟩:=list_of (p:=fun i y => ∃ cs',w.cells? base (a.add (i * n)) n = some cs' ∧ Q k cs' y) len (fun i hi => by
   obtain ⟨cs',y,h1,h2⟩:=hall i hi
   exact ⟨y,cs',h1,h2⟩)
  refine ⟨l,some a,cap,by rw [hll],by rw [hll,← hlen]; exact hshort,fun i y hy => ?_⟩
  have hi:=(List.getElem?_eq_some_iff.1 hy).1
  have hsp:a.spot = none:=by
   obtain ⟨cs0,y0,h1,_⟩:=hall 0 (by omega)
   exact spot_of hn h1
  obtain ⟨cs',h1,h2⟩:=hlq i y hy
  obtain ⟨h3,h4⟩:=cells_at hn h1 hsp
  exact ⟨a.block,a.off,cs',k,by cases a; simp_all,h3,by omega,(World.cells?_some h1).2.1,h2,h4⟩
theorem field_someZ {P:TypeId → DataW H → Prop}  {fs:Array Field} {n:Nat} {cs:List Value} {xs:List (DataW H × List MemPlace)} (hl:xs.length = fs.size)
  (h:∀ (i:Nat) (f:Field),fs[i]? = some f → DataW.trod enc Tryz.prog w base spare held n f.type ((cs.drop f.offset).take (Tryz.prog.cellsOf f.type)) = xs[i]?)
  (hq:∀ (i:Nat) (f:Field) d,fs[i]? = some f → (xs.map (·.1))[i]? = some d → P f.type d) (i:Nat) (f:Field) (hf:fs[i]? = some f):∃ x,DataW.trod enc Tryz.prog w base spare held n f.type ((cs.drop f.offset).take (Tryz.prog.cellsOf f.type)) = some x ∧ P f.type x.1:=by
 have hi:i < fs.size:=(Array.getElem?_eq_some_iff.1 hf).1
 exact ⟨xs[i]'(by omega),by rw [h i f hf,List.getElem?_eq_getElem],hq i f _ hf (by rw [List.getElem?_map,List.getElem?_eq_getElem (by omega)]; rfl)⟩
theorem expr_openZ {P:TypeId → DataW H → Prop} (hPa:∀ t fs,Tryz.prog.underlying t = some (.struct fs) → ∀ ps,P t (.agg ps) → ∀ (i:Nat) (f:Field) d,fs[i]? = some f → ps[i]? = some d → P f.type d) (hPs:∀ t e,Tryz.prog.underlying t = some (.slice e) → ∀ el sp,P t (.slice el sp) → el.length * Tryz.prog.bytesOf e ≤ 140737488351232 ∧ ∀ d ∈ el,P e d):∀ (fuel:Nat) (cs:List Value) (x:DataW H × List MemPlace),DataW.trod enc Tryz.prog w base spare held fuel 92 cs = some x → P 92 x.1 →
  ∃ (e:Sy.Ex) (a:Option Addr) (c:Nat),cs = [.int .i64 e.kind,.int .i64 e.n,.string e.name,.slice a e.kids.length c] ∧ ExIn w.heap.size w fuel e a ∧ Sy.LmE fuel e:=by
 intro fuel
 induction fuel using Nat.strongRecOn with
 | ind fuel ih =>
  intro cs x h hP
  obtain ⟨xs,n,rfl,rfl,hl,hxl,hf⟩:=DataW.trod_struct Tryz.underlying92 h
  rw [cells_expr] at hl
  obtain ⟨a,b,c,d,rfl⟩:=fourOp hl
  have hpt:=hPa _ _ Tryz.underlying92 _ hP
  obtain ⟨x0,h0,h0m⟩:∃ x,DataW.trod enc Tryz.prog w base spare held n 3 (([a,b,c,d].drop 0).take (Tryz.prog.cellsOf 3)) = some x ∧ P 3 x.1:=field_someZ hxl hf hpt 0 _ rfl
  obtain ⟨x1,h1,h1m⟩:∃ x,DataW.trod enc Tryz.prog w base spare held n 2 (([a,b,c,d].drop 1).take (Tryz.prog.cellsOf 2)) = some x ∧ P 2 x.1:=field_someZ hxl hf hpt 1 _ rfl
  obtain ⟨x2,h2,h2m⟩:∃ x,DataW.trod enc Tryz.prog w base spare held n 9 (([a,b,c,d].drop 2).take (Tryz.prog.cellsOf 9)) = some x ∧ P 9 x.1:=field_someZ hxl hf hpt 2 _ rfl
  obtain ⟨x3,h3,h3m⟩:∃ x,DataW.trod enc Tryz.prog w base spare held n 90 (([a,b,c,d].drop 3).take (Tryz.prog.cellsOf 90)) = some x ∧ P 90 x.1:=field_someZ hxl hf hpt 3 _ rfl
  simp only [cells_int,cells_i64,cells_str,cells_exprs] at h0 h1 h2 h3
  obtain ⟨k,hk,_,_⟩:=DataW.trod_int Tryz.underlying3 h0
  obtain ⟨nn,hnn,_,_⟩:=DataW.trod_int Tryz.underlying2 h1
  obtain ⟨s,hs,_,hsz⟩:=DataW.trod_string Tryz.underlying9 h2
  obtain ⟨l,ad,cp,hsl,hlm,hall⟩:=slice_listZ hPs (n:=4) (fun f cs' (y:Sy.Ex) => ∃ (a:Option Addr) (c:Nat),cs' = [.int .i64 y.kind,.int .i64 y.n,.string y.name,.slice a y.kids.length c] ∧ ExIn w.heap.size w f y a ∧ Sy.LmE f y) Tryz.underlying90 cells_expr (by decide) (fun f cs' x' hlt hx' hp' => ih f (by omega) cs' x' hx' hp') h3 h3m
  rw [by_expr] at hlm
  replace hlm:l.length ≤ 2513169434843:=by omega
  simp at hk hnn hs hsl
  refine ⟨⟨k,nn,s,l⟩,ad,cp,by rw [hk,hnn,hs,hsl],⟨hsz,le_max (by first | omega | (simp only; omega)),fun i y hy => ?_⟩,hlm,fun y hy => ?_⟩
  ·obtain ⟨bb,off,cs',f,he,hb,hflt,_,⟨a',c',rfl,hin,_⟩,hc⟩:=hall i y hy
   exact ⟨bb,off,a',c',he,hb,hc 0 (by decide),hc 1 (by decide),hc 2 (by decide),hc 3 (by decide),hin.mono (by omega)⟩
  ·obtain ⟨i,hi⟩:=List.mem_iff_getElem?.1 hy
   obtain ⟨bb,off,cs',f,he,hb,hflt,_,⟨a',c',rfl,_,hm⟩,_⟩:=hall i y hi
   exact lmE_mono (by omega) hm
theorem stat_openZ {P:TypeId → DataW H → Prop} (hPa:∀ t fs,Tryz.prog.underlying t = some (.struct fs) → ∀ ps,P t (.agg ps) → ∀ (i:Nat) (f:Field) d,fs[i]? = some f → ps[i]? = some d → P f.type d) (hPs:∀ t e,Tryz.prog.underlying t = some (.slice e) → ∀ el sp,P t (.slice el sp) → el.length * Tryz.prog.bytesOf e ≤ 140737488351232 ∧ ∀ d ∈ el,P e d):∀ (fuel:Nat) (cs:List Value) (x:DataW H × List MemPlace),DataW.trod enc Tryz.prog w base spare held fuel 94 cs = some x → P 94 x.1 →
  ∃ (s:Sy.St) (xa:Option Addr) (xc:Nat) (ba:Option Addr) (bc:Nat) (ea:Option Addr) (ec:Nat),
   cs = [.int .i64 s.kind,.string s.name,.int .i64 s.x.kind,.int .i64 s.x.n,.string s.x.name,.slice xa s.x.kids.length xc,.slice ba s.body.length bc,.slice ea s.els.length ec] ∧ StIn w.heap.size w fuel s xa ba ea ∧ Sy.LmS fuel s:=by
 intro fuel
 induction fuel using Nat.strongRecOn with
 | ind fuel ih =>
  intro cs x h hP
  obtain ⟨xs,n,rfl,rfl,hl,hxl,hf⟩:=DataW.trod_struct Tryz.underlying94 h
  rw [cells_stat] at hl
  obtain ⟨v0,v1,v2,v3,v4,v5,v6,v7,rfl⟩:=eightOp hl
  have hpt:=hPa _ _ Tryz.underlying94 _ hP
  obtain ⟨x0,h0,h0m⟩:∃ x,DataW.trod enc Tryz.prog w base spare held n 3 (([v0,v1,v2,v3,v4,v5,v6,v7].drop 0).take (Tryz.prog.cellsOf 3)) = some x ∧ P 3 x.1:=field_someZ hxl hf hpt 0 _ rfl
  obtain ⟨x1,h1,h1m⟩:∃ x,DataW.trod enc Tryz.prog w base spare held n 9 (([v0,v1,v2,v3,v4,v5,v6,v7].drop 1).take (Tryz.prog.cellsOf 9)) = some x ∧ P 9 x.1:=field_someZ hxl hf hpt 1 _ rfl
  obtain ⟨x2,h2,h2m⟩:∃ x,DataW.trod enc Tryz.prog w base spare held n 92 (([v0,v1,v2,v3,v4,v5,v6,v7].drop 2).take (Tryz.prog.cellsOf 92)) = some x ∧ P 92 x.1:=field_someZ hxl hf hpt 2 _ rfl
  obtain ⟨x3,h3,h3m⟩:∃ x,DataW.trod enc Tryz.prog w base spare held n 33 (([v0,v1,v2,v3,v4,v5,v6,v7].drop 6).take (Tryz.prog.cellsOf 33)) = some x ∧ P 33 x.1:=field_someZ hxl hf hpt 3 _ rfl
  obtain ⟨x4,h4,h4m⟩:∃ x,DataW.trod enc Tryz.prog w base spare held n 33 (([v0,v1,v2,v3,v4,v5,v6,v7].drop 7).take (Tryz.prog.cellsOf 33)) = some x ∧ P 33 x.1:=field_someZ hxl hf hpt 4 _ rfl
  simp only [cells_int,cells_str,cells_expr,cells_stats] at h0 h1 h2 h3 h4
  obtain ⟨k,hk,_,_⟩:=DataW.trod_int Tryz.underlying3 h0
  obtain ⟨s,hs,_,hsz⟩:=DataW.trod_string Tryz.underlying9 h1
  obtain ⟨e,xa,xc,he,hein,hem⟩:=expr_openZ hPa hPs _ _ _ h2 h2m
  have row:=fun (cs:List Value) (x:DataW H × List MemPlace) (hx:DataW.trod enc Tryz.prog w base spare held n 33 cs = some x) (hq:P 33 x.1) => slice_listZ hPs (n:=8) (fun f cs' (y:Sy.St) => ∃ (xa:Option Addr) (xc:Nat) (ba:Option Addr) (bc:Nat) (ea:Option Addr) (ec:Nat),cs' = [.int .i64 y.kind,.string y.name,.int .i64 y.x.kind,.int .i64 y.x.n,.string y.x.name,.slice xa y.x.kids.length xc,.slice ba y.body.length bc,.slice ea y.els.length ec] ∧ StIn w.heap.size w f y xa ba ea ∧ Sy.LmS f y) Tryz.underlying33 cells_stat (by decide) (fun f cs' x' hlt hx' hp' => ih f (by omega) cs' x' hx' hp') hx hq
  obtain ⟨lb,ba,bc,hbsl,hblm,hball⟩:=row _ _ h3 h3m
  obtain ⟨le,ea,ec,hesl,helm,heall⟩:=row _ _ h4 h4m
  rw [by_stat] at hblm helm
  replace hblm:lb.length ≤ 1099511627744:=by omega
  replace helm:le.length ≤ 1099511627744:=by omega
  simp at hk hs he hbsl hesl
  obtain ⟨e2,e3,e4,e5⟩:=he
  refine ⟨⟨k,s,e,lb,le⟩,xa,xc,ba,bc,ea,ec,by rw [hk,hs,e2,e3,e4,e5,hbsl,hesl],⟨hsz,⟨n,hein⟩,le_max (by first | omega | (simp only; omega)),le_max (by first | omega | (simp only; omega)),?_,?_⟩,hem,⟨hblm,fun y hy => ?_⟩,⟨helm,fun y hy => ?_⟩⟩
  ·intro i y hy
   obtain ⟨bb,off,cs',f,hea,hb,hflt,_,⟨xa',xc',ba',bc',ea',ec',rfl,hin,_⟩,hc⟩:=hball i y hy
   exact ⟨bb,off,xa',xc',ba',bc',ea',ec',hea,hb,hc 0 (by decide),hc 1 (by decide),hc 2 (by decide),hc 3 (by decide),hc 4 (by decide),hc 5 (by decide),hc 6 (by decide),hc 7 (by decide),hin.mono (by omega)⟩
  ·intro i y hy
   obtain ⟨bb,off,cs',f,hea,hb,hflt,_,⟨xa',xc',ba',bc',ea',ec',rfl,hin,_⟩,hc⟩:=heall i y hy
   exact ⟨bb,off,xa',xc',ba',bc',ea',ec',hea,hb,hc 0 (by decide),hc 1 (by decide),hc 2 (by decide),hc 3 (by decide),hc 4 (by decide),hc 5 (by decide),hc 6 (by decide),hc 7 (by decide),hin.mono (by omega)⟩
  ·obtain ⟨i,hi⟩:=List.mem_iff_getElem?.1 hy
   obtain ⟨bb,off,cs',f,hea,hb,hflt,_,⟨xa',xc',ba',bc',ea',ec',rfl,_,hm⟩,_⟩:=hball i y hi
   exact lmS_mono (by omega) hm
  ·obtain ⟨i,hi⟩:=List.mem_iff_getElem?.1 hy
   obtain ⟨bb,off,cs',f,hea,hb,hflt,_,⟨xa',xc',ba',bc',ea',ec',rfl,_,hm⟩,_⟩:=heall i y hi
   exact lmS_mono (by omega) hm
theorem def_openZ {P:TypeId → DataW H → Prop} (hPa:∀ t fs,Tryz.prog.underlying t = some (.struct fs) → ∀ ps,P t (.agg ps) → ∀ (i:Nat) (f:Field) d,fs[i]? = some f → ps[i]? = some d → P f.type d) (hPs:∀ t e,Tryz.prog.underlying t = some (.slice e) → ∀ el sp,P t (.slice el sp) → el.length * Tryz.prog.bytesOf e ≤ 140737488351232 ∧ ∀ d ∈ el,P e d) {fuel:Nat} {cs:List Value} {x:DataW H × List MemPlace} (h:DataW.trod enc Tryz.prog w base spare held fuel 35 cs = some x) (hP:P 35 x.1) :
  ∃ (d:Sy.Df) (pa:Option Addr) (pc:Nat) (ba:Option Addr) (bc:Nat),cs = [.int .i64 d.kind,.string d.name,.int .i64 d.ty.kind,.string d.ty.gen,.int .i64 d.takes.kind,.string d.takes.gen,.int .i64 d.cap,.slice pa d.params.length pc,.slice ba d.body.length bc] ∧ DfIn w.heap.size w d pa ba ∧ Sy.LmD fuel d:=by
 obtain ⟨xs,n,rfl,rfl,hl,hxl,hf⟩:=DataW.trod_struct Tryz.underlying35 h
 rw [cells_def] at hl
 obtain ⟨v0,v1,v2,v3,v4,v5,v6,v7,v8,rfl⟩:=nineOp hl
 have hpt:=hPa _ _ Tryz.underlying35 _ hP
 obtain ⟨x0,h0,h0m⟩:∃ x,DataW.trod enc Tryz.prog w base spare held n 3 (([v0,v1,v2,v3,v4,v5,v6,v7,v8].drop 0).take (Tryz.prog.cellsOf 3)) = some x ∧ P 3 x.1:=field_someZ hxl hf hpt 0 _ rfl
 obtain ⟨x1,h1,h1m⟩:∃ x,DataW.trod enc Tryz.prog w base spare held n 9 (([v0,v1,v2,v3,v4,v5,v6,v7,v8].drop 1).take (Tryz.prog.cellsOf 9)) = some x ∧ P 9 x.1:=field_someZ hxl hf hpt 1 _ rfl
 obtain ⟨x2,h2,h2m⟩:∃ x,DataW.trod enc Tryz.prog w base spare held n 31 (([v0,v1,v2,v3,v4,v5,v6,v7,v8].drop 2).take (Tryz.prog.cellsOf 31)) = some x ∧ P 31 x.1:=field_someZ hxl hf hpt 2 _ rfl
 obtain ⟨x3,h3,h3m⟩:∃ x,DataW.trod enc Tryz.prog w base spare held n 31 (([v0,v1,v2,v3,v4,v5,v6,v7,v8].drop 4).take (Tryz.prog.cellsOf 31)) = some x ∧ P 31 x.1:=field_someZ hxl hf hpt 3 _ rfl
 obtain ⟨x4,h4,h4m⟩:∃ x,DataW.trod enc Tryz.prog w base spare held n 3 (([v0,v1,v2,v3,v4,v5,v6,v7,v8].drop 6).take (Tryz.prog.cellsOf 3)) = some x ∧ P 3 x.1:=field_someZ hxl hf hpt 4 _ rfl
 obtain ⟨x5,h5,h5m⟩:∃ x,DataW.trod enc Tryz.prog w base spare held n 32 (([v0,v1,v2,v3,v4,v5,v6,v7,v8].drop 7).take (Tryz.prog.cellsOf 32)) = some x ∧ P 32 x.1:=field_someZ hxl hf hpt 5 _ rfl
 obtain ⟨x6,h6,h6m⟩:∃ x,DataW.trod enc Tryz.prog w base spare held n 33 (([v0,v1,v2,v3,v4,v5,v6,v7,v8].drop 8).take (Tryz.prog.cellsOf 33)) = some x ∧ P 33 x.1:=field_someZ hxl hf hpt 6 _ rfl
 simp only [cells_int,cells_str,cells_type,cells_stats,cells_params] at h0 h1 h2 h3 h4 h5 h6
 obtain ⟨k,hk,_,_⟩:=DataW.trod_int Tryz.underlying3 h0
 obtain ⟨s,hs,_,hsz⟩:=DataW.trod_string Tryz.underlying9 h1
 obtain ⟨t,ht,htz⟩:=type_open h2
 obtain ⟨u,hu,huz⟩:=type_open h3
 obtain ⟨cp,hcp,_,_⟩:=DataW.trod_int Tryz.underlying3 h4
 obtain ⟨lp,pa,pc,hpsl,hplm,hpall⟩:=slice_listZ hPs (n:=3) (fun _ cs' (y:Sy.Pm) => cs' = [.string y.name,.int .i64 y.ty.kind,.string y.ty.gen] ∧ y.name.size ≤ maxLen ∧ y.ty.gen.size ≤ maxLen) Tryz.underlying32 cells_param (by decide) (fun f cs' x' _ hx' _ => param_open hx') h5 h5m
 obtain ⟨lb,ba,bc,hbsl,hblm,hball⟩:=slice_listZ hPs (n:=8) (fun f cs' (y:Sy.St) => ∃ (xa:Option Addr) (xc:Nat) (ba:Option Addr) (bc:Nat) (ea:Option Addr) (ec:Nat),cs' = [.int .i64 y.kind,.string y.name,.int .i64 y.x.kind,.int .i64 y.x.n,.string y.x.name,.slice xa y.x.kids.length xc,.slice ba y.body.length bc,.slice ea y.els.length ec] ∧ StIn w.heap.size w f y xa ba ea ∧ Sy.LmS f y) Tryz.underlying33 cells_stat (by decide) (fun f cs' x' _ hx' hp' => stat_openZ hPa hPs f cs' x' hx' hp') h6 h6m
 rw [by_stat] at hblm
 rw [by_param] at hplm
 replace hblm:lb.length ≤ 1099511627744:=by omega
 replace hplm:lp.length ≤ 3518437208780:=by omega
 simp at hk hs ht hu hcp hpsl hbsl
 obtain ⟨e2,e3⟩:=ht
 obtain ⟨e4,e5⟩:=hu
 refine ⟨⟨k,s,t,u,cp,lp,lb⟩,pa,pc,ba,bc,by rw [hk,hs,e2,e3,e4,e5,hcp,hpsl,hbsl],⟨hsz,htz,huz,⟨le_max (by first | omega | (simp only; omega)),?_⟩,n,le_max (by first | omega | (simp only; omega)),?_⟩,hplm,hblm,fun y hy => ?_⟩
 ·intro i y hy
  obtain ⟨bb,off,cs',f,hea,hb,hflt,_,⟨rfl,h1,h2⟩,hc⟩:=hpall i y hy
  exact ⟨bb,off,hea,hb,hc 0 (by decide),hc 1 (by decide),hc 2 (by decide),h1,h2⟩
 ·intro i y hy
  obtain ⟨bb,off,cs',f,hea,hb,hflt,_,⟨xa',xc',ba',bc',ea',ec',rfl,hin,_⟩,hc⟩:=hball i y hy
  exact ⟨bb,off,xa',xc',ba',bc',ea',ec',hea,hb,hc 0 (by decide),hc 1 (by decide),hc 2 (by decide),hc 3 (by decide),hc 4 (by decide),hc 5 (by decide),hc 6 (by decide),hc 7 (by decide),hin.mono (by omega)⟩
 ·obtain ⟨i,hi⟩:=List.mem_iff_getElem?.1 hy
  obtain ⟨bb,off,cs',f,hea,hb,hflt,_,⟨xa',xc',ba',bc',ea',ec',rfl,_,hm⟩,_⟩:=hball i y hi
  exact lmS_mono (by omega) hm
theorem lmD_mono {h h':Nat} {d:Sy.Df} (hh:h ≤ h') (hx:Sy.LmD h d):Sy.LmD h' d:=⟨hx.pms,hx.body.1,fun s hs => lmS_mono hh (hx.body.2 s hs)⟩
theorem defs_openZ {P:TypeId → DataW H → Prop} (hPa:∀ t fs,Tryz.prog.underlying t = some (.struct fs) → ∀ ps,P t (.agg ps) → ∀ (i:Nat) (f:Field) d,fs[i]? = some f → ps[i]? = some d → P f.type d) (hPs:∀ t e,Tryz.prog.underlying t = some (.slice e) → ∀ el sp,P t (.slice el sp) → el.length * Tryz.prog.bytesOf e ≤ 140737488351232 ∧ ∀ d ∈ el,P e d) {fuel:Nat} {cs:List Value} {x:DataW H × List MemPlace} (h:DataW.trod enc Tryz.prog w base spare held fuel 22 cs = some x) (hP:P 22 x.1) :
  ∃ (l:List Sy.Df) (a:Option Addr) (c:Nat),cs = [.slice a l.length c] ∧ DfsIn w.heap.size w l a ∧ l.length ≤ 1099511627744 ∧ ∀ d ∈ l,Sy.LmD fuel d:=by
 obtain ⟨l,a,c,hsl,hlm,hall⟩:=slice_listZ hPs (n:=9) (fun f cs' (d:Sy.Df) => ∃ (pa:Option Addr) (pc:Nat) (ba:Option Addr) (bc:Nat),cs' = [.int .i64 d.kind,.string d.name,.int .i64 d.ty.kind,.string d.ty.gen,.int .i64 d.takes.kind,.string d.takes.gen,.int .i64 d.cap,.slice pa d.params.length pc,.slice ba d.body.length bc] ∧ DfIn w.heap.size w d pa ba ∧ Sy.LmD f d) Tryz.underlying22 cells_def (by decide) (fun f cs' x' _ hx' hp' => def_openZ hPa hPs hx' hp') h hP
 rw [by_def] at hlm
 replace hlm:l.length ≤ 1099511627744:=by omega
 refine ⟨l,a,c,hsl,⟨le_max (by first | omega | (simp only; omega)),fun i d hd => ?_⟩,hlm,fun d hd => ?_⟩
 ·obtain ⟨bb,off,cs',f,hea,hb,hflt,_,⟨pa,pc,ba,bc,rfl,hin,_⟩,hc⟩:=hall i d hd
  exact ⟨bb,off,pa,pc,ba,bc,hea,hb,hc 0 (by decide),hc 1 (by decide),hc 2 (by decide),hc 3 (by decide),hc 4 (by decide),hc 5 (by decide),hc 6 (by decide),hc 7 (by decide),hc 8 (by decide),hin⟩
 ·obtain ⟨i,hi⟩:=List.mem_iff_getElem?.1 hd
  obtain ⟨bb,off,cs',f,hea,hb,hflt,_,⟨pa,pc,ba,bc,rfl,_,hm⟩,_⟩:=hall i d hi
  exact lmD_mono (by omega) hm
end
end Go.Proofs.YtpnljpdpobbiiaaGreatDoor

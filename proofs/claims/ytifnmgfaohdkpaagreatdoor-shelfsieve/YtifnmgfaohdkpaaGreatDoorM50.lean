/- How sieve and pingpong come to rest,reckoned. -/
import Derived.Test.YtifnmgfaohdkpaaGreatDoorM45
import Derived.Test.YtifnmgfaohdkpaaGreatDoorM49
import Derived.Test.YtifnmgfaohdkpaaGreatDoorM1
import Derived.ChangeArms
import Derived.DataReads
set_option maxRecDepth 100000
set_option maxHeartbeats 2000000
namespace Go.Proofs.YtifnmgfaohdkpaaGreatDoor.Vw
open Go.RowKit Vf Vm
def sums (m:Md)(R:Wd):Nat × List (Nat × List Int):=(R.x.length,R.ts.map fun t=>((stat aN m t R.x).1,t.out))
set_option maxRecDepth 1000000 in
theorem adT:dw Xe.BA [] 100=0:=by kernel_rfl
set_option maxRecDepth 1000000 in
theorem adU:sums Xe.BA (mW Xe.BA [] 100).2=(3,[(4,[]),(3,[2]),(3,[3]),(3,[5,7,11,13,17,19,23])]):=by kernel_rfl
set_option maxRecDepth 1000000 in
theorem adV:dw Xe.BC [] 100=0:=by kernel_rfl
set_option maxRecDepth 1000000 in
theorem adW:sums Xe.BC (mW Xe.BC [] 100).2=(2,[(4,[2,4,8,16,32,64,128]),(3,[])]):=by kernel_rfl
theorem adX:Br Xe.SC Xe.BA:=⟨⟨_,Xe.adO,Xe.adP⟩,by decide,adT⟩
theorem adY:Br Xe.SF Xe.BC:=⟨⟨_,Xe.adR,Xe.adS⟩,by decide,adV⟩
def Ez (w:World)(a:Option Addr)(l:List (Nat × List Int)):Prop:=∀ (i:Nat) s o,l[i]?=some (s,o)→∃ b vo,a=some ⟨b,0,none⟩∧b < w.heap.size∧w.cell? ⟨b,i * 4,none⟩=some (.int .i64 (s:Int))∧w.cell? ⟨b,i * 4+3,none⟩=some vo∧w.ownsRow 0 2 1 vo o.length (ints o)
theorem Ez.below {w w':World}{a:Option Addr}{l:List (Nat × List Int)}(h:Ez w a l)(hb:Below w.heap.size w w'):Ez w' a l:=fun i s o hl=>by
 obtain ⟨b,vo,e,hlt,h0,h1,h2⟩:=h i s o hl
 exact ⟨b,vo,e,Nat.lt_of_lt_of_le hlt hb.size,(aC (hb.block b hlt) _).trans h0,(aC (hb.block b hlt) _).trans h1,aZ h2 (fun k hk=>hb.block k (h2.lt k hk).2)⟩
theorem SH {name:ByteArray}{m:Md}{n:Nat}{l:List (Nat × List Int)}(hN:Br name m)(hs:sums m (mW m [] 100).2=(n,l))(hn:n=m.boxes.length)(w:World)(hT:Hid (Xe.pg w)) :
  Calls Tryz.prog 4 #[.string name] w fun e w'=>∃ ea ec ba bc st,e=.returned (.tuple #[.agg #[.slice ea l.length ec,.slice ba n bc,.int .i64 st],.int .i64 0])∧Below w.heap.size w w'∧Ez w' ea l:=by
 obtain ⟨R,hR⟩:∃ R,R=(mW m [] 100).2:=⟨_,rfl⟩
 rw [← hR] at hs
 refine (adm (Sb.hide hN) w hT R (Sb.hide hR)).mono ?_
 rintro e w' ⟨ea,ec,ba,bc,ov,bv,rfl,hb,fO⟩
 have hx:R.x.length=n:=congrArg Prod.fst hs
 have hl:R.ts.map (fun t=>((stat aN m t R.x).1,t.out))=l:=congrArg Prod.snd hs
 have hll:R.ts.length=l.length:=by rw [← hl,List.length_map]
 rw [hll,← hn]
 refine ⟨ea,ec,ba,bc,R.steps,rfl,hb,fun i s o h=>?_⟩
 rw [← hl,List.getElem?_map] at h
 obtain ⟨t,ht,e⟩:=Option.map_eq_some_iff.1 h
 cases e
 have hi:=(List.getElem?_eq_some_iff.1 ht).1
 have Ah:R.tk (i:Int)=t:=by simp [Wd.tk,ht]
 have ho:=fO.outs i hi
 rw [Ah] at ho
 obtain ⟨g,rfl,c0⟩:=xA fO.ends (uM m R ov R.ts.length i 0 hi (by omega))
 obtain ⟨g1,e1,c3⟩:=xA fO.ends (uM m R ov R.ts.length i 3 hi (by omega))
 cases e1
 rw [Ah] at c0
 exact ⟨g,ov i,rfl,World.block_lt_of_cell? w' _ c0,by simpa using c0,by simpa using c3,ho⟩
theorem yA (w:World)(o:Obj):Below w.heap.size w (w.alloc o):=(Below.refl _ w).alloc (Nat.le_refl _) _
theorem EA (w:World)(l:List Int):RI (w.alloc (.cells ⟨ints l⟩ 2)) (.slice (some ⟨w.heap.size,0,none⟩) l.length l.length) l:=by
 refine ⟨_,_,rfl,Nat.le_refl _,fun i x hx=>⟨w.heap.size,0,rfl,?_⟩⟩
 have h:=heap_alloc_new w (.cells ⟨ints l⟩ 2)
 unfold World.cell?
 rw [h]
 simp [hx]
def At (w1:World)(o:Obj)(W:World):Prop:=Below w1.heap.size w1 W∧W.heap[w1.heap.size]?=some o
theorem At.first (w1:World)(o:Obj):At w1 o (w1.alloc o):=⟨yA _ _,heap_alloc_new _ _⟩
theorem At.on {w1 W W':World}{o:Obj}(h:At w1 o W)(hb:Below W.heap.size W W'):At w1 o W':=⟨h.1.trans (hb.mono h.1.size),(hb.block _ (lt_of_block h.2)).trans h.2⟩
theorem At.alloc {w1 W:World}{o:Obj}(h:At w1 o W)(o':Obj):At w1 o (W.alloc o'):=h.on (yA _ _)
theorem At.drewN {w1 W:World}{o:Obj}(h:At w1 o W)(d:Nat):At w1 o (W.drewN d):=h.on (below_drewN (Below.refl _ _) d)
theorem adZ {w:World}{b:Nat}{u0 u1 v0 v1:Value}{s t:Int}(h:w.heap[b]?=some (jX u0 u1 s)):(jg w b v0 v1 (.int .i64 t)).heap[b]?=some (jX v0 v1 t):=by
 simp only [World.setCell,Array.getElem?_modify,if_true,h,Option.map_some]
 rfl
theorem ad1 (w:World)(hT:Hid (Xe.pg w)):Calls Tryz.prog 3 #[] w fun e w'=>e=.returned (.bool true)∧Below w.heap.size w w':=by
 go_enter Tryz.func3,Tryz.ntmps3
 go_wp2_with fail
 refine (SH adX adU rfl w hT).mono ?_
 rintro e w1 ⟨ea,ec,ba,bc,st,rfl,hb1,hR⟩
 have HB1:=Sb.hide hb1
 obtain ⟨g,_,rfl,hg,a0,_,_⟩:=hR 0 4 [] rfl
 obtain ⟨g',v1,e1,_,_,b1,r1⟩:=hR 1 3 [2] rfl
 cases e1
 obtain ⟨g',v2,e1,_,_,b2,r2⟩:=hR 2 3 [3] rfl
 cases e1
 obtain ⟨g',v3,e1,_,_,b3,r3⟩:=hR 3 3 [5,7,11,13,17,19,23] rfl
 cases e1
 have HR1:=Sb.hide (xB r1)
 have HR2:=Sb.hide (xB r2)
 have HR3:=Sb.hide (xB r3)
 have HT1:=Sb.hide (hT.out.below HB1.out)
 have HQ:Hid (∀ W,Below w1.heap.size w1 W→W.cell? ⟨g,0,none⟩=some (.int .i64 4)∧W.cell? ⟨g,7,none⟩=some v1∧W.cell? ⟨g,11,none⟩=some v2∧W.cell? ⟨g,15,none⟩=some v3):=fun W h=>⟨(aC (h.block g hg) _).trans a0,(aC (h.block g hg) _).trans b1,(aC (h.block g hg) _).trans b2,(aC (h.block g hg) _).trans b3⟩
 have HA1:=Sb.hide (At.first w1 (jX (.slice (some ⟨g,0,none⟩) [(4,([]:List Int)),(3,[2]),(3,[3]),(3,[5,7,11,13,17,19,23])].length ec) (.slice ba 3 bc) st))
 clear hR r1 r2 r3 hb1 hg a0 b1 b2 b3
 have hq:=HQ.out _ HA1.out.1
 obtain ⟨q0,q1,q2,q3⟩:=hq
 obtain ⟨z0,z1,z2⟩:=(bP HA1.out.2).1
 go_upto_region 2 with fail
 generalize w1.alloc _=W1 at *
 clear q0 q1 q2 q3 z0 z1 z2
 obtain ⟨q0,q1,q2,q3⟩:=HQ.out _ HA1.out.1
 obtain ⟨z0,z1,z2⟩:=(bP HA1.out.2).1
 go_wp2_with fail
 refine (wX v1 _ [2] _ (Sb.hide ((HR1.out.below HA1.out.1).below (yA _ _))) (Sb.hide (EA W1 [2])) (by decide)).mono ?_
 rintro e w9 ⟨rfl,d1,rfl⟩
 have HA2:=Sb.hide ((HA1.out.alloc (.cells ⟨ints [2]⟩ 2)).drewN d1)
 clear q0 q1 q2 q3 z0 z1 z2
 generalize (W1.alloc (.cells ⟨ints [2]⟩ 2)).drewN d1=W2 at HA2 ⊢
 obtain ⟨q0,q1,q2,q3⟩:=HQ.out _ HA2.out.1
 obtain ⟨z0,z1,z2⟩:=(bP HA2.out.2).1
 go_wp2_with fail
 refine (wX v2 _ [3] _ (Sb.hide ((HR2.out.below HA2.out.1).below (yA _ _))) (Sb.hide (EA W2 [3])) (by decide)).mono ?_
 rintro e w9 ⟨rfl,d2,rfl⟩
 have BD:=Sb.hide ((HA2.out.alloc (.cells ⟨ints [3]⟩ 2)).drewN d2)
 clear q0 q1 q2 q3 z0 z1 z2
 generalize (W2.alloc (.cells ⟨ints [3]⟩ 2)).drewN d2=W3 at BD ⊢
 obtain ⟨q0,q1,q2,q3⟩:=HQ.out _ BD.out.1
 obtain ⟨z0,z1,z2⟩:=(bP BD.out.2).1
 go_wp2_with fail
 refine (wX v3 _ [5,7,11,13,17,19,23] _ (Sb.hide ((HR3.out.below BD.out.1).below (yA _ _))) (Sb.hide (EA W3 [5,7,11,13,17,19,23])) (by decide)).mono ?_
 rintro e w9 ⟨rfl,d3,rfl⟩
 have jf:=Sb.hide ((BD.out.alloc (.cells ⟨ints [5,7,11,13,17,19,23]⟩ 2)).drewN d3)
 clear q0 q1 q2 q3 z0 z1 z2
 generalize (W3.alloc (.cells ⟨ints [5,7,11,13,17,19,23]⟩ 2)).drewN d3=W4 at jf ⊢
 go_wp2_with fail
 refine (SH adY adW rfl W4 (Sb.hide (HT1.out.below jf.out.1))).mono ?_
 rintro e w5 ⟨ea,vS,vT,bc2,st2,rfl,hb5,hR⟩
 have hP:=(hb5.block _ (lt_of_block jf.out.2)).trans jf.out.2
 have xm:=Sb.hide (HB1.out.trans ((jf.out.1.trans (hb5.mono jf.out.1.size)).mono HB1.out.size))
 obtain ⟨y,v4,rfl,hy,a0,b0,r0⟩:=hR 0 4 [2,4,8,16,32,64,128] rfl
 obtain ⟨y',_,e1,_,a1,_,_⟩:=hR 1 3 [] rfl
 cases e1
 have hne:y≠w1.heap.size:=by
  rintro rfl
  have h1:=(bP hP).1.1
  have h2:=a0
  simp only [Nat.zero_mul] at h2
  rw [h1] at h2
  cases h2
 have z:=(bP hP).1
 have zf:=(bP hP).2
 have hne2:∀ k,v4.ownBlock=some k→k≠w1.heap.size:=fun k hk e=>uJ r0 hP (by decide) (by rw [hk,e])
 have hcl:=adZ (v0:=.slice (some ⟨y,0,none⟩) 2 vS) (v1:=.slice vT 2 bc2) (t:=st2) hP
 have hy0:=(aC (Ae (w:=w5) (v0:=.slice (some ⟨y,0,none⟩) 2 vS) (v1:=.slice vT 2 bc2) (v2:=.int .i64 st2) hne) _).trans a0
 have hy3:=(aC (Ae (w:=w5) (v0:=.slice (some ⟨y,0,none⟩) 2 vS) (v1:=.slice vT 2 bc2) (v2:=.int .i64 st2) hne) _).trans b0
 have hy4:=(aC (Ae (w:=w5) (v0:=.slice (some ⟨y,0,none⟩) 2 vS) (v1:=.slice vT 2 bc2) (v2:=.int .i64 st2) hne) _).trans a1
 have hro:=xB (aZ r0 (fun k hk=>Ae (w:=w5) (v0:=.slice (some ⟨y,0,none⟩) 2 vS) (v1:=.slice vT 2 bc2) (v2:=.int .i64 st2) (hne2 k hk)))
 have J7:=rU (v0:=.slice (some ⟨y,0,none⟩) 2 vS) (v1:=.slice vT 2 bc2) (v2:=.int .i64 st2) (b:=w1.heap.size) xm.out HB1.out.size
 clear hR hb5 hne2 hne xm a0 b0 a1 r0
 go_upto_region 5 with fail
 unfold jg at hcl hy0 hy3 hy4 hro J7
 clear z zf hP
 generalize (((w5.setCell ⟨w1.heap.size,0,none⟩ (.slice (some ⟨y,0,none⟩) 2 vS)).setCell ⟨w1.heap.size,1,none⟩ (.slice vT 2 bc2)).setCell ⟨w1.heap.size,2,none⟩ (.int .i64 st2))=W5 at *
 have c0:=(bP hcl).1.1
 have Cq:=Sb.hide hro
 have zK:=Sb.hide J7
 simp only [Nat.zero_mul,Nat.one_mul,Nat.zero_add] at hy0 hy3 hy4
 clear hcl hro J7
 go_wp2_with fail
 refine (wX v4 _ [2,4,8,16,32,64,128] _ (Sb.hide (Cq.out.below (yA _ _))) (Sb.hide (EA W5 [2,4,8,16,32,64,128])) (by decide)).mono ?_
 rintro e w9 ⟨rfl,d4,rfl⟩
 have SI:Hid (Below w.heap.size w ((W5.alloc (.cells ⟨ints [2,4,8,16,32,64,128]⟩ 2)).drewN d4)):=below_drewN (zK.out.alloc zK.out.size _) d4
 generalize (W5.alloc (.cells ⟨ints [2,4,8,16,32,64,128]⟩ 2)).drewN d4=W6 at SI ⊢
 go_wp2
 go_ret
 exact ⟨rfl,SI.out⟩
end Go.Proofs.YtifnmgfaohdkpaaGreatDoor.Vw
namespace Go.Proofs.YtifnmgfaohdkpaaGreatDoor
open Go.RowKit
section
variable {H:Type} {enc:TypeId × Value→H} {w:World} {base:Nat} {spare:Nat→Bool} {held:Bool}
theorem two {cs:List Value}(h:cs.length=2):∃ a b,cs=[a,b]:=by
 match cs,h with
 | [a,b],_=>exact ⟨a,b,rfl⟩
theorem three {cs:List Value}(h:cs.length=3):∃ a b c,cs=[a,b,c]:=by
 match cs,h with
 | [a,b,c],_=>exact ⟨a,b,c,rfl⟩
theorem SL:Tryz.prog.cellsOf 3=1:=by kernel_rfl
end
end Go.Proofs.YtifnmgfaohdkpaaGreatDoor

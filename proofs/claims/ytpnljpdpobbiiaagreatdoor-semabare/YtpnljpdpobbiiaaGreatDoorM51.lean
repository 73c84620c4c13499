/- Bare statements: the row as it grows; a statement as it is filled. -/
import Derived.Test.YtpnljpdpobbiiaaGreatDoorM50
set_option maxRecDepth 100000
set_option maxHeartbeats 8000000
namespace Go.Proofs.YtpnljpdpobbiiaaGreatDoor
open Go.RowKit
structure BsAt (w:World) (d:Nat) (ls:List Sy.St) (its:List Itm8) (v:Value) (W:World):Prop where
 bel:Below w.heap.size w W
 own:W.ownsRow w.heap.size 94 8 v its.length (cells8 its)
 eq:its.map (·.1) = ls.map (Sy.stB d)
 sts:∀ it ∈ its,StQ (fun b => w.heap.size ≤ b ∧ b < W.heap.size ∧ v.ownBlock ≠ some b) W d it.1 it.2.1.1 it.2.2.1.1 it.2.2.2.1
theorem BsAt.more {w:World} {d:Nat} {ls:List Sy.St} {its:List Itm8} {v:Value} {W W1 w4:World} {s:Sy.St} {it:Itm8} {g cap:Nat} {T:TypeId} (A:BsAt w d ls its v W) (hb:Below W.heap.size W W1) (hs:it.1 = Sy.stB d s) (hq:StQ (fun b => W.heap.size ≤ b ∧ b < W1.heap.size) W1 d it.1 it.2.1.1 it.2.2.1.1 it.2.2.2.1)
  (hown:w4.ownsRow w.heap.size 94 8 (.slice (some ⟨g,0,none⟩) (its.length + 1) cap) (its.length + 1) (cells8 its ++ itc8 it)) (hg:(W1.alloc (.cells (itc8 it).toArray T)).grownBy w4 v.ownBlock) (hp:v.ownBlock = some g ∨ g = (W1.alloc (.cells (itc8 it).toArray T)).heap.size) :
  BsAt w d (ls ++ [s]) (its ++ [it]) (.slice (some ⟨g,0,none⟩) (its.length + 1) cap) w4:=by
 have hwW:=A.bel.size
 have hvb:=A.own.lt
 have hs1:=hb.size
 have hz:(W1.alloc (.cells (itc8 it).toArray T)).heap.size = W1.heap.size + 1:=by simp
 rw [hz] at hp
 have hs4:=hg.size
 rw [hz] at hs4
 have low:∀ b,b < W.heap.size → v.ownBlock ≠ some b → w4.heap[b]? = W.heap[b]?:=fun b h1 h2 => by
  rw [hg.block b (by omega) (fun e => h2 e.symm),Below.heap_alloc _ _ _ (by omega)]
  exact hb.block b h1
 have mid:∀ b,W.heap.size ≤ b → b < W1.heap.size → w4.heap[b]? = W1.heap[b]?:=fun b h1 h2 => by
  rw [hg.block b (by omega) (fun e => by have:=(hvb b e.symm).2; omega),Below.heap_alloc _ _ _ h2]
 have hne:g < W.heap.size → v.ownBlock = some g:=fun h => by
  rcases hp with hp | hp
  ·exact hp
  ·omega
 refine ⟨⟨hg.os.trans (hb.os.trans A.bel.os),hg.tape.trans (hb.tape.trans A.bel.tape),hg.output.trans (hb.output.trans A.bel.output),by omega,fun b hb' => (low b (by omega) (fun e => by have:=(hvb b e).1; omega)).trans (A.bel.block b hb')⟩,?_,?_,?_⟩
 ·have hl:(its ++ [it]).length = its.length + 1:=by simp
  rw [hl,cells8_app]
  exact hown
 ·rw [List.map_append,A.eq,List.map_append,List.map_cons,List.map_nil,List.map_cons,List.map_nil,hs]
 ·intro i hi
  rcases List.mem_append.1 hi with hi | hi
  ·exact (A.sts i hi).keep (fun b hb' => ⟨⟨hb'.1,by omega,fun e => by
    simp only [Value.ownBlock,Option.some.injEq] at e
    exact hb'.2.2 (by rw [← e]; exact hne (by omega))⟩,low b hb'.2.1 hb'.2.2⟩)
  ·rw [List.mem_singleton.1 hi]
   exact hq.keep (fun b hb' => ⟨⟨by omega,by omega,fun e => by
    simp only [Value.ownBlock,Option.some.injEq] at e
    rcases hp with hp | hp
    ·have:=(hvb g hp).2; omega
    ·omega⟩,mid b hb'.1 hb'.2⟩)
structure TAt (wr W:World) (S T:Obj):Prop where
 bel:Below wr.heap.size wr W
 sb:W.heap[wr.heap.size]? = some S
 tb:W.heap[wr.heap.size + 1]? = some T
theorem TAt.start (wr:World) (S T:Obj):TAt wr ((wr.alloc S).alloc T) S T:=⟨sx_bel2 _ _ _,sx_at1 _ _ _,sx_at2 _ _ _⟩
theorem TAt.lt {wr W:World} {S T:Obj} (h:TAt wr W S T):wr.heap.size + 1 < W.heap.size:=lt_of_block h.tb
theorem TAt.call {wr W W':World} {S T:Obj} (h:TAt wr W S T) (hb:Below W.heap.size W W'):TAt wr W' S T :=
 ⟨h.bel.trans (hb.mono h.bel.size),(hb.block _ (by have:=h.lt; omega)).trans h.sb,(hb.block _ h.lt).trans h.tb⟩
theorem TAt.set {wr W:World} {S T T':Obj} {o:Nat} {u:Value} (h:TAt wr W S T) (ht:(W.setCell ⟨wr.heap.size + 1,o,none⟩ u).heap[wr.heap.size + 1]? = some T'):TAt wr (W.setCell ⟨wr.heap.size + 1,o,none⟩ u) S T' :=
 ⟨h.bel.setCell (by show wr.heap.size ≤ wr.heap.size + 1; omega) _,(Below.heap_setCell _ _ _ _ (by show wr.heap.size ≠ wr.heap.size + 1; omega)).trans h.sb,ht⟩
section
variable {w:World} {M:Nat} {k xk xn:Int} {s xs:ByteArray} {xv bv ev:Value}
theorem stt_set1 (h:w.heap[M]? = some (sttO k s xk xn xs xv bv ev)) (t:ByteArray):(w.setCell ⟨M,1,none⟩ (.string t)).heap[M]? = some (sttO k t xk xn xs xv bv ev):=by
 simp only [World.setCell,Array.getElem?_modify,if_true,h,Option.map_some]
 rfl
theorem stt_set2 (h:w.heap[M]? = some (sttO k s xk xn xs xv bv ev)) (t:Int):(w.setCell ⟨M,2,none⟩ (.int .i64 t)).heap[M]? = some (sttO k s t xn xs xv bv ev):=by
 simp only [World.setCell,Array.getElem?_modify,if_true,h,Option.map_some]
 rfl
theorem stt_set3 (h:w.heap[M]? = some (sttO k s xk xn xs xv bv ev)) (t:Int):(w.setCell ⟨M,3,none⟩ (.int .i64 t)).heap[M]? = some (sttO k s xk t xs xv bv ev):=by
 simp only [World.setCell,Array.getElem?_modify,if_true,h,Option.map_some]
 rfl
theorem stt_set4 (h:w.heap[M]? = some (sttO k s xk xn xs xv bv ev)) (t:ByteArray):(w.setCell ⟨M,4,none⟩ (.string t)).heap[M]? = some (sttO k s xk xn t xv bv ev):=by
 simp only [World.setCell,Array.getElem?_modify,if_true,h,Option.map_some]
 rfl
theorem stt_set5 (h:w.heap[M]? = some (sttO k s xk xn xs xv bv ev)) (t:Value):(w.setCell ⟨M,5,none⟩ t).heap[M]? = some (sttO k s xk xn xs t bv ev):=by
 simp only [World.setCell,Array.getElem?_modify,if_true,h,Option.map_some]
 rfl
theorem stt_set6 (h:w.heap[M]? = some (sttO k s xk xn xs xv bv ev)) (t:Value):(w.setCell ⟨M,6,none⟩ t).heap[M]? = some (sttO k s xk xn xs xv t ev):=by
 simp only [World.setCell,Array.getElem?_modify,if_true,h,Option.map_some]
 rfl
theorem stt_set7 (h:w.heap[M]? = some (sttO k s xk xn xs xv bv ev)) (t:Value):(w.setCell ⟨M,7,none⟩ t).heap[M]? = some (sttO k s xk xn xs xv bv t):=by
 simp only [World.setCell,Array.getElem?_modify,if_true,h,Option.map_some]
 rfl
end
theorem TAt.setX {wr W:World} {S:Obj} {k xk xn:Int} {s xs:ByteArray} {xv bv ev:Value} (h:TAt wr W S (sttO k s xk xn xs xv bv ev)) (y:Sy.Ex) (a:Option Addr) (c:Nat) :
  TAt wr ((((W.setCell ⟨wr.heap.size + 1,2,none⟩ (.int .i64 y.kind)).setCell ⟨wr.heap.size + 1,3,none⟩ (.int .i64 y.n)).setCell ⟨wr.heap.size + 1,4,none⟩ (.string y.name)).setCell ⟨wr.heap.size + 1,5,none⟩ (.slice a y.kids.length c)) S (sttO k s y.kind y.n y.name (.slice a y.kids.length c) bv ev):=by
 have h2:=h.set (stt_set2 h.tb y.kind)
 have h3:=h2.set (stt_set3 h2.tb y.n)
 have h4:=h3.set (stt_set4 h3.tb y.name)
 exact h4.set (stt_set5 h4.tb (.slice a y.kids.length c))
theorem far_two {W:World} {P b o:Nat} {u:Value} (h:b ≠ P):(W.setCell ⟨P,o,none⟩ u).heap[b]? = W.heap[b]?:=Below.heap_setCell _ _ _ _ h
def CBSt (d:Nat):Prop:=∀ (B h:Nat) (ls ys:List Sy.St) (a:Option Addr) (c:Nat) (w:World),Hid (∀ s ∈ ls,Sy.LmS d s) → ls.length ≤ 1099511627744 → B ≤ w.heap.size → Hid (BodyIn B w h ls a) → Hid (ys = ls.map (Sy.stB d)) →
 Calls Tryz.prog 20 #[.slice a ls.length c] w fun e w' => ∃ a' c',e = .returned (.slice a' ys.length c') ∧ RowQ (Mad w w') w' (StQ (Mad w w') w' d) ys a' ∧ Below w.heap.size w w'
abbrev nilV:Value:=.slice none 0 0
abbrev stS (s:Sy.St) (xa:Option Addr) (xc:Nat) (ba:Option Addr) (bc:Nat) (ea:Option Addr) (ec:Nat):Obj:=sttO s.kind s.name s.x.kind s.x.n s.x.name (.slice xa s.x.kids.length xc) (.slice ba s.body.length bc) (.slice ea s.els.length ec)
theorem exq_far {W:World} {P N d o:Nat} {y:Sy.Ex} {ya:Option Addr} {u:Value} (h:ExQ (fun b => P < b ∧ b < N) W d y ya):ExQ (fun b => P < b ∧ b < N) (W.setCell ⟨P,o,none⟩ u) d y ya:=h.keep (fun b hb => ⟨hb,far_two (by omega)⟩)
theorem exq_call {W W':World} {P d:Nat} {y:Sy.Ex} {ya:Option Addr} (h:ExQ (fun b => P < b ∧ b < W.heap.size) W d y ya) (hb:Below W.heap.size W W'):ExQ (fun b => P < b ∧ b < W'.heap.size) W' d y ya:=h.keep (fun b h' => ⟨⟨h'.1,Nat.lt_of_lt_of_le h'.2 hb.size⟩,hb.block b h'.2⟩)
abbrev RowP (P N:Nat) (W:World) (d:Nat) (ys:List Sy.St) (a:Option Addr):Prop:=RowQ (fun b => P < b ∧ b < N) W (StQ (fun b => P < b ∧ b < N) W d) ys a
theorem row_far {W:World} {P N d o:Nat} {ys:List Sy.St} {a:Option Addr} {u:Value} (h:RowP P N W d ys a):RowP P N (W.setCell ⟨P,o,none⟩ u) d ys a:=h.keep (fun b hb => ⟨hb,far_two (by omega)⟩) (fun _ _ _ _ => StQ.keep (fun b hb => ⟨hb,far_two (by omega)⟩))
theorem row_call {W W':World} {P d:Nat} {ys:List Sy.St} {a:Option Addr} (h:RowP P W.heap.size W d ys a) (hb:Below W.heap.size W W'):RowP P W'.heap.size W' d ys a:=h.keep (fun b h' => ⟨⟨h'.1,Nat.lt_of_lt_of_le h'.2 hb.size⟩,hb.block b h'.2⟩) (fun _ _ _ _ => StQ.keep (fun b h' => ⟨⟨h'.1,Nat.lt_of_lt_of_le h'.2 hb.size⟩,hb.block b h'.2⟩))
theorem row_made {W W':World} {P d:Nat} {ys:List Sy.St} {a:Option Addr} (h:RowQ (Mad W W') W' (StQ (Mad W W') W' d) ys a) (hP:P < W.heap.size):RowP P W'.heap.size W' d ys a:=h.keep (fun b h' => ⟨⟨by omega,h'.2⟩,rfl⟩) (fun _ _ _ _ => StQ.keep (fun b h' => ⟨⟨by omega,h'.2⟩,rfl⟩))
theorem bareStats_step (d:Nat) (ih:∀ e,d = e + 1 → CBSt e):CBSt d:=by
 intro B h ls ys a c w hok h50 hB hX hys
 have IH:=hideX ih
 have hlen:ls.length ≤ 9223372036854775807:=hX.out.1
 obtain ⟨i0,hi,hz0,hz1,hz2⟩:=info_parts Tryz.info94
 clear ih
 go_enter Tryz.func20,Tryz.ntmps20
 go_wp2
 go_loopw [3,9] (fun v0 i wr => ∃ (its:List Itm8) (v:Value),v0 = v ∧ its.length ≤ ls.length ∧ i = .int .i64 its.length ∧ Hid (BsAt w d (ls.take its.length) its v wr)) (fun _ i _ => ls.length - (intOf i).toNat)
 case atStart => exact ⟨[],_,rfl,Nat.zero_le _,rfl,Below.refl _ _,World.ownsRow_nil _ _ _ _,rfl,fun it hit => by cases hit⟩
 case round =>
  obtain ⟨its,v,rfl,hk,rfl,HA⟩:=hrel
  by_cases hlt:its.length < ls.length
  ·obtain ⟨s,hs⟩:∃ s,ls[its.length]? = some s:=⟨_,List.getElem?_eq_getElem hlt⟩
   have hso:=hok.out s (List.mem_of_getElem? hs)
   obtain ⟨e,rfl⟩:∃ e,d = e + 1:=by
    cases d with
    | zero => exact hso.elim
    | succ e => exact ⟨e,rfl⟩
   obtain ⟨k4,k5,k6⟩:=hso
   have HK4:=hideX k4
   have HK5:=hideX k5
   have HK6:=hideX k6
   have HIs:Hid (CBSt e):=IH.out e rfl
   obtain ⟨b1,o1,xa,xc,ba,bc,ea,ec,rfl,hb1,u0,u1,u2,u3,u4,u5,u6,u7,i1⟩:=hX.out.2 its.length s hs
   obtain ⟨h',rfl⟩:∃ h',h = h' + 1:=by
    cases h with
    | zero => exact i1.elim
    | succ h' => exact ⟨h',rfl⟩
   obtain ⟨ins,⟨hx,ix⟩,ibl,iel,ib,ie⟩:=i1
   have HNS:=hideX ins
   have hsw:=same_below HA.out.bel
   have hwz:=HA.out.bel.size
   rw [← hsw _ _ (by omega)] at u0 u1 u2 u3 u4 u5 u6 u7
   have HXi:Hid (ExIn B wr hx s.x xa):=ix.same (fun b o hb => hsw b o (by omega))
   have HBi:Hid (BodyIn B wr h' s.body ba):=BodyIn.same (fun b o hb => hsw b o (by omega)) ⟨ibl,ib⟩
   have HEi:Hid (BodyIn B wr h' s.els ea):=BodyIn.same (fun b o hb => hsw b o (by omega)) ⟨iel,ie⟩
   have hbr:b1 < wr.heap.size:=by omega
   have hBr:B ≤ wr.heap.size:=by omega
   have HSn:Hid (ls.take (its.length + 1) = ls.take its.length ++ [s]):=by
    have:ls.take (its.length + 1) = ls.take its.length ++ [s]:=by rw [List.take_add_one,hs]; rfl
    exact this
   obtain ⟨y,hy⟩:∃ y,y = Sy.exB e s.x:=⟨_,rfl⟩
   obtain ⟨bb,hbb⟩:∃ bb,bb = s.body.map (Sy.stB e):=⟨_,rfl⟩
   obtain ⟨eb,heb⟩:∃ eb,eb = s.els.map (Sy.stB e):=⟨_,rfl⟩
   have HY:=hideX hy
   have HBB:=hideX hbb
   have HEB:=hideX heb
   obtain ⟨V2,hV2⟩:∃ V2,(wr.alloc (stS s xa xc ba bc ea ec)).alloc (sttO s.kind ⟨#[]⟩ 0 0 ⟨#[]⟩ nilV nilV nilV) = V2:=⟨_,rfl⟩
   have HT2:Hid (TAt wr V2 (stS s xa xc ba bc ea ec) (sttO s.kind ⟨#[]⟩ 0 0 ⟨#[]⟩ nilV nilV nilV)):=by rw [← hV2]; exact TAt.start _ _ _
   have HV2:=hideX hV2
   have m0:(0:Int) ≤ (its.length:Int):=by omega
   have m1:(its.length:Int) < (ls.length:Int):=by omega
   have hk9:s.kind = 1 ∨ s.kind = 2 ∨ s.kind = 3 ∨ s.kind = 4 ∨ (¬ s.kind = 1 ∧ ¬ s.kind = 2 ∧ ¬ s.kind = 3 ∧ ¬ s.kind = 4 ∧ ¬ s.kind = 6 ∧ ¬ s.kind = 7) ∨ s.kind = 6 ∨ s.kind = 7:=by omega
   clear hs ix ib ie hsw hy hbb heb hV2 k4 k5 k6 hb1 ibl iel ins
   go_upto_region 6 with fail
   rw [HV2.out]
   obtain ⟨⟨s0,s1,s2,s3,s4,s5,s6,s7⟩,_⟩:=st_cells HT2.out.sb
   obtain ⟨⟨t0,t1,t2,t3,t4,t5,t6,t7⟩,g0,g1,g2,g3,g4,g5,g6,g7⟩:=st_cells HT2.out.tb
   clear u0 u1 u2 u3 u4 u5 u6 u7
   rcases hk9 with hk | hk | hk | hk | hk | hk | hk
   ·have e1:(s.kind == 1) = true:=by simp [hk]
    have e6:(s.kind != 6) = true:=by simp [hk]
    have e3:(s.kind == 3) = false:=by simp [hk]
    have e4:(s.kind == 4) = false:=by simp [hk]
    have HS:Hid ((⟨s.kind,s.name,y,[],[]⟩:Sy.St) = Sy.stB (e + 1) s):=by
     have h0:Sy.stB (e + 1) s = ⟨s.kind,s.name,y,[],[]⟩:=by
      rw [Sy.stB,HY.out]
      simp [hk]
     exact h0.symm
    have HXo:Hid (Sy.LmE e s.x):=HK4.out
    have hnm:(s.name:ByteArray).size ≤ maxLen:=HNS.out
    have HNm:=hideX hnm
    clear hk hnm
    obtain ⟨V3,hV3⟩:∃ V3,V2.setCell ⟨wr.heap.size + 1,1,none⟩ (.string s.name) = V3:=⟨_,rfl⟩
    have HT3:Hid (TAt wr V3 (stS s xa xc ba bc ea ec) (sttO s.kind s.name 0 0 ⟨#[]⟩ nilV nilV nilV)):=by rw [← hV3]; exact HT2.out.set (stt_set1 HT2.out.tb s.name)
    obtain ⟨⟨x0,x1,x2,x3,x4,x5,x6,x7⟩,_⟩:=st_cells HT3.out.sb
    obtain ⟨⟨z0,z1,z2,z3,z4,z5,z6,z7⟩,_⟩:=st_cells HT3.out.tb
    go_wp2_with fail
    refine ((bareExpr_any e) B hx s.x y xa xc V3 HXo (by have:=HT3.out.bel.size; omega) (ExIn.same (fun b o hb => same_below HT3.out.bel b o (by omega)) hx s.x xa HXi.out) HY).mono ?_
    rintro ee w1 ⟨ya,yc,rfl,hq1,hb1⟩
    have HT4a:Hid (TAt wr w1 (stS s xa xc ba bc ea ec) (sttO s.kind s.name 0 0 ⟨#[]⟩ nilV nilV nilV)):=HT3.out.call hb1
    have hQa:ExQ (fun b => wr.heap.size + 1 < b ∧ b < w1.heap.size) w1 e y ya:=hq1.keep (fun b hb => ⟨⟨by have:=HT3.out.lt; omega,hb.2⟩,rfl⟩)
    obtain ⟨V4,hV4⟩:∃ V4,(((w1.setCell ⟨wr.heap.size + 1,2,none⟩ (.int .i64 y.kind)).setCell ⟨wr.heap.size + 1,3,none⟩ (.int .i64 y.n)).setCell ⟨wr.heap.size + 1,4,none⟩ (.string y.name)).setCell ⟨wr.heap.size + 1,5,none⟩ (.slice ya y.kids.length yc) = V4:=⟨_,rfl⟩
    have HT4:Hid (TAt wr V4 (stS s xa xc ba bc ea ec) (sttO s.kind s.name y.kind y.n y.name (.slice ya y.kids.length yc) nilV nilV)):=by rw [← hV4]; exact HT4a.out.setX y ya yc
    have hz4:V4.heap.size = w1.heap.size:=by rw [← hV4]; simp only [World.setCell_size]
    have HQ4:Hid (ExQ (fun b => wr.heap.size + 1 < b ∧ b < V4.heap.size) V4 e y ya):=by rw [hz4,← hV4]; exact exq_far (exq_far (exq_far (exq_far hQa)))
    clear s0 s1 s2 s3 s4 s5 s6 s7 t0 t1 t2 t3 t4 t5 t6 t7 g0 g1 g2 g3 g4 g5 g6 g7
    clear x0 x1 x2 x3 x4 x5 x6 x7 z0 z1 z2 z3 z4 z5 z6 z7 hV3
    obtain ⟨⟨s0,s1,s2,s3,s4,s5,s6,s7⟩,_⟩:=st_cells HT4a.out.sb
    obtain ⟨⟨t0,t1,t2,t3,t4,t5,t6,t7⟩,g0,g1,g2,g3,g4,g5,g6,g7⟩:=st_cells HT4a.out.tb
    obtain ⟨⟨x0,x1,x2,x3,x4,x5,x6,x7⟩,_⟩:=st_cells HT4.out.sb
    obtain ⟨⟨z0,z1,z2,z3,z4,z5,z6,z7⟩,_⟩:=st_cells HT4.out.tb
    clear hq1 hb1 hQa hz4
    obtain ⟨IT,hIT⟩:∃ IT:Itm8,IT = (⟨s.kind,s.name,y,[],[]⟩,(ya,yc),(none,0),(none,0)):=⟨_,rfl⟩
    have HC:Hid (itc8 IT = [.int .i64 s.kind,.string s.name,.int .i64 y.kind,.int .i64 y.n,.string y.name,(.slice ya y.kids.length yc),nilV,nilV]):=by rw [hIT]; rfl
    have HI1:Hid (IT.1 = Sy.stB (e + 1) s):=by rw [hIT]; exact HS.out
    have HQf:Hid (StQ (fun b => wr.heap.size ≤ b ∧ b < V4.heap.size) V4 (e + 1) IT.1 IT.2.1.1 IT.2.2.1.1 IT.2.2.2.1):=by
     rw [hIT]
     exact ⟨HNm.out,⟨_,HQ4.out.keep (fun b hb => ⟨⟨by omega,hb.2⟩,rfl⟩)⟩,Nat.zero_le _,Nat.zero_le _,RowQ.nil _ _ _ _,RowQ.nil _ _ _ _⟩
    have HOf:Hid ((V4.alloc (.cells (itc8 IT).toArray 94)).ownsRow w.heap.size 94 8 u3 its.length (cells8 its)):=(HA.out.own.kept (row:=none) ⟨HT4.out.bel.os,HT4.out.bel.tape,HT4.out.bel.output,HT4.out.bel.size,fun k hk _ => HT4.out.bel.block k hk⟩ (by cases hv:u3.ownBlock with | none => exact .inl rfl | some _ => exact .inr (by simp))).alloc _
    have hzf:=HT4.out.bel.size
    clear hIT
    go_wp2_with (first | (at_builtin; refine wpList_append_where rfl _ _ 33 rfl w.heap.size 94 i0 _ 8 128 Tryz.underlying33 hi hz0 hz1 hz2 rfl (by decide) u3 its.length (cells8 its) rfl (by first | (have h9:=HOf.out; rw [HC.out] at h9; exact h9)) ⟨_,0,none⟩ 1 1 (itc8 IT) rfl (by rw [HC.out]; rfl) (by have h9:=itc8_news V4 IT 94; rw [HC.out] at h9 ⊢; exact h9) (itc8_one IT) (by decide) (by unfold maxLen; omega) (by omega) (by simp; omega) ?_; intro g cap w4 hown4 hg4 hw4; have HA4:=hideX (HA.out.more (it:=IT) (T:=94) HT4.out.bel HI1.out HQf.out hown4 (by rw [HC.out]; exact hg4) (by rw [HC.out]; exact hw4)); clear hown4 hg4 hw4))
    go_roundw
    case rel =>
     refine ⟨its ++ [IT],_,rfl,by simp; omega,by simp,?_⟩
     have ht:(its ++ [IT]).length = its.length + 1:=by simp
     rw [ht,HSn.out]
     exact HA4.out
    case measure => simp [intOf]; omega
   ·have e1:(s.kind == 1) = false:=by simp [hk]
    have e2:(s.kind == 2) = true:=by simp [hk]
    have e6:(s.kind != 6) = true:=by simp [hk]
    have e3:(s.kind == 3) = false:=by simp [hk]
    have e4:(s.kind == 4) = false:=by simp [hk]
    have HS:Hid ((⟨s.kind,s.name,y,[],[]⟩:Sy.St) = Sy.stB (e + 1) s):=by
     have h0:Sy.stB (e + 1) s = ⟨s.kind,s.name,y,[],[]⟩:=by
      rw [Sy.stB,HY.out]
      simp [hk]
     exact h0.symm
    have HXo:Hid (Sy.LmE e s.x):=HK4.out
    have hnm:(s.name:ByteArray).size ≤ maxLen:=HNS.out
    have HNm:=hideX hnm
    clear hk hnm
    obtain ⟨V3,hV3⟩:∃ V3,V2.setCell ⟨wr.heap.size + 1,1,none⟩ (.string s.name) = V3:=⟨_,rfl⟩
    have HT3:Hid (TAt wr V3 (stS s xa xc ba bc ea ec) (sttO s.kind s.name 0 0 ⟨#[]⟩ nilV nilV nilV)):=by rw [← hV3]; exact HT2.out.set (stt_set1 HT2.out.tb s.name)
    obtain ⟨⟨x0,x1,x2,x3,x4,x5,x6,x7⟩,_⟩:=st_cells HT3.out.sb
    obtain ⟨⟨z0,z1,z2,z3,z4,z5,z6,z7⟩,_⟩:=st_cells HT3.out.tb
    go_wp2_with fail
    refine ((bareExpr_any e) B hx s.x y xa xc V3 HXo (by have:=HT3.out.bel.size; omega) (ExIn.same (fun b o hb => same_below HT3.out.bel b o (by omega)) hx s.x xa HXi.out) HY).mono ?_
    rintro ee w1 ⟨ya,yc,rfl,hq1,hb1⟩
    have HT4a:Hid (TAt wr w1 (stS s xa xc ba bc ea ec) (sttO s.kind s.name 0 0 ⟨#[]⟩ nilV nilV nilV)):=HT3.out.call hb1
    have hQa:ExQ (fun b => wr.heap.size + 1 < b ∧ b < w1.heap.size) w1 e y ya:=hq1.keep (fun b hb => ⟨⟨by have:=HT3.out.lt; omega,hb.2⟩,rfl⟩)
    obtain ⟨V4,hV4⟩:∃ V4,(((w1.setCell ⟨wr.heap.size + 1,2,none⟩ (.int .i64 y.kind)).setCell ⟨wr.heap.size + 1,3,none⟩ (.int .i64 y.n)).setCell ⟨wr.heap.size + 1,4,none⟩ (.string y.name)).setCell ⟨wr.heap.size + 1,5,none⟩ (.slice ya y.kids.length yc) = V4:=⟨_,rfl⟩
    have HT4:Hid (TAt wr V4 (stS s xa xc ba bc ea ec) (sttO s.kind s.name y.kind y.n y.name (.slice ya y.kids.length yc) nilV nilV)):=by rw [← hV4]; exact HT4a.out.setX y ya yc
    have hz4:V4.heap.size = w1.heap.size:=by rw [← hV4]; simp only [World.setCell_size]
    have HQ4:Hid (ExQ (fun b => wr.heap.size + 1 < b ∧ b < V4.heap.size) V4 e y ya):=by rw [hz4,← hV4]; exact exq_far (exq_far (exq_far (exq_far hQa)))
    clear s0 s1 s2 s3 s4 s5 s6 s7 t0 t1 t2 t3 t4 t5 t6 t7 g0 g1 g2 g3 g4 g5 g6 g7
    clear x0 x1 x2 x3 x4 x5 x6 x7 z0 z1 z2 z3 z4 z5 z6 z7 hV3
    obtain ⟨⟨s0,s1,s2,s3,s4,s5,s6,s7⟩,_⟩:=st_cells HT4a.out.sb
    obtain ⟨⟨t0,t1,t2,t3,t4,t5,t6,t7⟩,g0,g1,g2,g3,g4,g5,g6,g7⟩:=st_cells HT4a.out.tb
    obtain ⟨⟨x0,x1,x2,x3,x4,x5,x6,x7⟩,_⟩:=st_cells HT4.out.sb
    obtain ⟨⟨z0,z1,z2,z3,z4,z5,z6,z7⟩,_⟩:=st_cells HT4.out.tb
    clear hq1 hb1 hQa hz4
    obtain ⟨IT,hIT⟩:∃ IT:Itm8,IT = (⟨s.kind,s.name,y,[],[]⟩,(ya,yc),(none,0),(none,0)):=⟨_,rfl⟩
    have HC:Hid (itc8 IT = [.int .i64 s.kind,.string s.name,.int .i64 y.kind,.int .i64 y.n,.string y.name,(.slice ya y.kids.length yc),nilV,nilV]):=by rw [hIT]; rfl
    have HI1:Hid (IT.1 = Sy.stB (e + 1) s):=by rw [hIT]; exact HS.out
    have HQf:Hid (StQ (fun b => wr.heap.size ≤ b ∧ b < V4.heap.size) V4 (e + 1) IT.1 IT.2.1.1 IT.2.2.1.1 IT.2.2.2.1):=by
     rw [hIT]
     exact ⟨HNm.out,⟨_,HQ4.out.keep (fun b hb => ⟨⟨by omega,hb.2⟩,rfl⟩)⟩,Nat.zero_le _,Nat.zero_le _,RowQ.nil _ _ _ _,RowQ.nil _ _ _ _⟩
    have HOf:Hid ((V4.alloc (.cells (itc8 IT).toArray 94)).ownsRow w.heap.size 94 8 u3 its.length (cells8 its)):=(HA.out.own.kept (row:=none) ⟨HT4.out.bel.os,HT4.out.bel.tape,HT4.out.bel.output,HT4.out.bel.size,fun k hk _ => HT4.out.bel.block k hk⟩ (by cases hv:u3.ownBlock with | none => exact .inl rfl | some _ => exact .inr (by simp))).alloc _
    have hzf:=HT4.out.bel.size
    clear hIT
    go_wp2_with (first | (at_builtin; refine wpList_append_where rfl _ _ 33 rfl w.heap.size 94 i0 _ 8 128 Tryz.underlying33 hi hz0 hz1 hz2 rfl (by decide) u3 its.length (cells8 its) rfl (by first | (have h9:=HOf.out; rw [HC.out] at h9; exact h9)) ⟨_,0,none⟩ 1 1 (itc8 IT) rfl (by rw [HC.out]; rfl) (by have h9:=itc8_news V4 IT 94; rw [HC.out] at h9 ⊢; exact h9) (itc8_one IT) (by decide) (by unfold maxLen; omega) (by omega) (by simp; omega) ?_; intro g cap w4 hown4 hg4 hw4; have HA4:=hideX (HA.out.more (it:=IT) (T:=94) HT4.out.bel HI1.out HQf.out hown4 (by rw [HC.out]; exact hg4) (by rw [HC.out]; exact hw4)); clear hown4 hg4 hw4))
    go_roundw
    case rel =>
     refine ⟨its ++ [IT],_,rfl,by simp; omega,by simp,?_⟩
     have ht:(its ++ [IT]).length = its.length + 1:=by simp
     rw [ht,HSn.out]
     exact HA4.out
    case measure => simp [intOf]; omega
   ·have e1:(s.kind == 1) = false:=by simp [hk]
    have e2:(s.kind == 2) = false:=by simp [hk]
    have e7:(s.kind == 7) = false:=by simp [hk]
    have e6:(s.kind != 6) = true:=by simp [hk]
    have e3:(s.kind == 3) = true:=by simp [hk]
    have HS:Hid ((⟨s.kind,⟨#[]⟩,y,bb,eb⟩:Sy.St) = Sy.stB (e + 1) s):=by
     have h0:Sy.stB (e + 1) s = ⟨s.kind,⟨#[]⟩,y,bb,eb⟩:=by
      rw [Sy.stB,HY.out,HBB.out,HEB.out]
      simp [hk]
     exact h0.symm
    have HXo:Hid (Sy.LmE e s.x):=HK4.out
    have HBo:=hideX (HK5.out)
    have hb50:=HBo.out.1
    have HEo:=hideX (HK6.out)
    have he50:=HEo.out.1
    have hnm:(⟨#[]⟩:ByteArray).size ≤ maxLen:=Nat.zero_le _
    have HNm:=hideX hnm
    clear hk hnm
    go_wp2_with fail
    refine ((bareExpr_any e) B hx s.x y xa xc V2 HXo (by have:=HT2.out.bel.size; omega) (ExIn.same (fun b o hb => same_below HT2.out.bel b o (by omega)) hx s.x xa HXi.out) HY).mono ?_
    rintro ee w1 ⟨ya,yc,rfl,hq1,hb1⟩
    have HT4a:Hid (TAt wr w1 (stS s xa xc ba bc ea ec) (sttO s.kind ⟨#[]⟩ 0 0 ⟨#[]⟩ nilV nilV nilV)):=HT2.out.call hb1
    have hQa:ExQ (fun b => wr.heap.size + 1 < b ∧ b < w1.heap.size) w1 e y ya:=hq1.keep (fun b hb => ⟨⟨by have:=HT2.out.lt; omega,hb.2⟩,rfl⟩)
    obtain ⟨V4,hV4⟩:∃ V4,(((w1.setCell ⟨wr.heap.size + 1,2,none⟩ (.int .i64 y.kind)).setCell ⟨wr.heap.size + 1,3,none⟩ (.int .i64 y.n)).setCell ⟨wr.heap.size + 1,4,none⟩ (.string y.name)).setCell ⟨wr.heap.size + 1,5,none⟩ (.slice ya y.kids.length yc) = V4:=⟨_,rfl⟩
    have HT4:Hid (TAt wr V4 (stS s xa xc ba bc ea ec) (sttO s.kind ⟨#[]⟩ y.kind y.n y.name (.slice ya y.kids.length yc) nilV nilV)):=by rw [← hV4]; exact HT4a.out.setX y ya yc
    have hz4:V4.heap.size = w1.heap.size:=by rw [← hV4]; simp only [World.setCell_size]
    have HQ4:Hid (ExQ (fun b => wr.heap.size + 1 < b ∧ b < V4.heap.size) V4 e y ya):=by rw [hz4,← hV4]; exact exq_far (exq_far (exq_far (exq_far hQa)))
    clear s0 s1 s2 s3 s4 s5 s6 s7 t0 t1 t2 t3 t4 t5 t6 t7 g0 g1 g2 g3 g4 g5 g6 g7
    obtain ⟨⟨s0,s1,s2,s3,s4,s5,s6,s7⟩,_⟩:=st_cells HT4a.out.sb
    obtain ⟨⟨t0,t1,t2,t3,t4,t5,t6,t7⟩,g0,g1,g2,g3,g4,g5,g6,g7⟩:=st_cells HT4a.out.tb
    obtain ⟨⟨x0,x1,x2,x3,x4,x5,x6,x7⟩,_⟩:=st_cells HT4.out.sb
    obtain ⟨⟨z0,z1,z2,z3,z4,z5,z6,z7⟩,_⟩:=st_cells HT4.out.tb
    clear hq1 hb1 hQa hz4
    go_wp2_with fail
    refine (HIs.out B h' s.body bb ba bc V4 HBo.out.2 hb50 (by have:=HT4.out.bel.size; omega) (BodyIn.same (fun b o hb => same_below HT4.out.bel b o (by omega)) HBi.out) HBB).mono ?_
    rintro ee w2 ⟨bba,bbc,rfl,hr2,hb2⟩
    have HT5a:Hid (TAt wr w2 (stS s xa xc ba bc ea ec) (sttO s.kind ⟨#[]⟩ y.kind y.n y.name (.slice ya y.kids.length yc) nilV nilV)):=HT4.out.call hb2
    obtain ⟨V5,hV5⟩:∃ V5,w2.setCell ⟨wr.heap.size + 1,6,none⟩ (.slice bba bb.length bbc) = V5:=⟨_,rfl⟩
    have HT5:Hid (TAt wr V5 (stS s xa xc ba bc ea ec) (sttO s.kind ⟨#[]⟩ y.kind y.n y.name (.slice ya y.kids.length yc) (.slice bba bb.length bbc) nilV)):=by rw [← hV5]; exact HT5a.out.set (stt_set6 HT5a.out.tb _)
    have hz5:V5.heap.size = w2.heap.size:=by rw [← hV5]; simp only [World.setCell_size]
    have HQ5:Hid (ExQ (fun b => wr.heap.size + 1 < b ∧ b < V5.heap.size) V5 e y ya):=by rw [hz5,← hV5]; exact exq_far (exq_call HQ4.out hb2)
    have HR5:Hid (RowP (wr.heap.size + 1) V5.heap.size V5 e bb bba):=by rw [hz5,← hV5]; exact row_far (row_made hr2 HT4.out.lt)
    clear s0 s1 s2 s3 s4 s5 s6 s7 t0 t1 t2 t3 t4 t5 t6 t7 g0 g1 g2 g3 g4 g5 g6 g7
    clear x0 x1 x2 x3 x4 x5 x6 x7 z0 z1 z2 z3 z4 z5 z6 z7 hV4
    obtain ⟨⟨s0,s1,s2,s3,s4,s5,s6,s7⟩,_⟩:=st_cells HT5a.out.sb
    obtain ⟨⟨t0,t1,t2,t3,t4,t5,t6,t7⟩,g0,g1,g2,g3,g4,g5,g6,g7⟩:=st_cells HT5a.out.tb
    obtain ⟨⟨x0,x1,x2,x3,x4,x5,x6,x7⟩,_⟩:=st_cells HT5.out.sb
    obtain ⟨⟨z0,z1,z2,z3,z4,z5,z6,z7⟩,_⟩:=st_cells HT5.out.tb
    clear hr2 hb2 hz5
    go_wp2_with fail
    refine (HIs.out B h' s.els eb ea ec V5 HEo.out.2 he50 (by have:=HT5.out.bel.size; omega) (BodyIn.same (fun b o hb => same_below HT5.out.bel b o (by omega)) HEi.out) HEB).mono ?_
    rintro ee w3 ⟨eba,ebc,rfl,hr3,hb3⟩
    have HT6a:Hid (TAt wr w3 (stS s xa xc ba bc ea ec) (sttO s.kind ⟨#[]⟩ y.kind y.n y.name (.slice ya y.kids.length yc) (.slice bba bb.length bbc) nilV)):=HT5.out.call hb3
    obtain ⟨V6,hV6⟩:∃ V6,w3.setCell ⟨wr.heap.size + 1,7,none⟩ (.slice eba eb.length ebc) = V6:=⟨_,rfl⟩
    have HT6:Hid (TAt wr V6 (stS s xa xc ba bc ea ec) (sttO s.kind ⟨#[]⟩ y.kind y.n y.name (.slice ya y.kids.length yc) (.slice bba bb.length bbc) (.slice eba eb.length ebc))):=by rw [← hV6]; exact HT6a.out.set (stt_set7 HT6a.out.tb _)
    have hz6:V6.heap.size = w3.heap.size:=by rw [← hV6]; simp only [World.setCell_size]
    have HQ6:Hid (ExQ (fun b => wr.heap.size + 1 < b ∧ b < V6.heap.size) V6 e y ya):=by rw [hz6,← hV6]; exact exq_far (exq_call HQ5.out hb3)
    have HR6:Hid (RowP (wr.heap.size + 1) V6.heap.size V6 e bb bba):=by rw [hz6,← hV6]; exact row_far (row_call HR5.out hb3)
    have HE6:Hid (RowP (wr.heap.size + 1) V6.heap.size V6 e eb eba):=by rw [hz6,← hV6]; exact row_far (row_made hr3 HT5.out.lt)
    clear s0 s1 s2 s3 s4 s5 s6 s7 t0 t1 t2 t3 t4 t5 t6 t7 g0 g1 g2 g3 g4 g5 g6 g7
    clear x0 x1 x2 x3 x4 x5 x6 x7 z0 z1 z2 z3 z4 z5 z6 z7 hV5
    obtain ⟨⟨s0,s1,s2,s3,s4,s5,s6,s7⟩,_⟩:=st_cells HT6a.out.sb
    obtain ⟨⟨t0,t1,t2,t3,t4,t5,t6,t7⟩,g0,g1,g2,g3,g4,g5,g6,g7⟩:=st_cells HT6a.out.tb
    obtain ⟨⟨x0,x1,x2,x3,x4,x5,x6,x7⟩,_⟩:=st_cells HT6.out.sb
    obtain ⟨⟨z0,z1,z2,z3,z4,z5,z6,z7⟩,_⟩:=st_cells HT6.out.tb
    clear hr3 hb3 hz6
    obtain ⟨IT,hIT⟩:∃ IT:Itm8,IT = (⟨s.kind,⟨#[]⟩,y,bb,eb⟩,(ya,yc),(bba,bbc),(eba,ebc)):=⟨_,rfl⟩
    have HC:Hid (itc8 IT = [.int .i64 s.kind,.string ⟨#[]⟩,.int .i64 y.kind,.int .i64 y.n,.string y.name,(.slice ya y.kids.length yc),(.slice bba bb.length bbc),(.slice eba eb.length ebc)]):=by rw [hIT]; rfl
    have HI1:Hid (IT.1 = Sy.stB (e + 1) s):=by rw [hIT]; exact HS.out
    have HQf:Hid (StQ (fun b => wr.heap.size ≤ b ∧ b < V6.heap.size) V6 (e + 1) IT.1 IT.2.1.1 IT.2.2.1.1 IT.2.2.2.1):=by
     rw [hIT]
     exact ⟨HNm.out,⟨_,HQ6.out.keep (fun b hb => ⟨⟨by omega,hb.2⟩,rfl⟩)⟩,by show bb.length ≤ maxLen; rw [HBB.out]; simp; unfold maxLen; omega,by show eb.length ≤ maxLen; rw [HEB.out]; simp; unfold maxLen; omega,HR6.out.keep (fun b hb => ⟨⟨by omega,hb.2⟩,rfl⟩) (fun _ _ _ _ => StQ.keep (fun b hb => ⟨⟨by omega,hb.2⟩,rfl⟩)),HE6.out.keep (fun b hb => ⟨⟨by omega,hb.2⟩,rfl⟩) (fun _ _ _ _ => StQ.keep (fun b hb => ⟨⟨by omega,hb.2⟩,rfl⟩))⟩
    have HOf:Hid ((V6.alloc (.cells (itc8 IT).toArray 94)).ownsRow w.heap.size 94 8 u3 its.length (cells8 its)):=(HA.out.own.kept (row:=none) ⟨HT6.out.bel.os,HT6.out.bel.tape,HT6.out.bel.output,HT6.out.bel.size,fun k hk _ => HT6.out.bel.block k hk⟩ (by cases hv:u3.ownBlock with | none => exact .inl rfl | some _ => exact .inr (by simp))).alloc _
    have hzf:=HT6.out.bel.size
    clear hIT
    go_wp2_with (first | (at_builtin; refine wpList_append_where rfl _ _ 33 rfl w.heap.size 94 i0 _ 8 128 Tryz.underlying33 hi hz0 hz1 hz2 rfl (by decide) u3 its.length (cells8 its) rfl (by first | (have h9:=HOf.out; rw [HC.out] at h9; exact h9)) ⟨_,0,none⟩ 1 1 (itc8 IT) rfl (by rw [HC.out]; rfl) (by have h9:=itc8_news V6 IT 94; rw [HC.out] at h9 ⊢; exact h9) (itc8_one IT) (by decide) (by unfold maxLen; omega) (by omega) (by simp; omega) ?_; intro g cap w4 hown4 hg4 hw4; have HA4:=hideX (HA.out.more (it:=IT) (T:=94) HT6.out.bel HI1.out HQf.out hown4 (by rw [HC.out]; exact hg4) (by rw [HC.out]; exact hw4)); clear hown4 hg4 hw4))
    go_roundw
    case rel =>
     refine ⟨its ++ [IT],_,rfl,by simp; omega,by simp,?_⟩
     have ht:(its ++ [IT]).length = its.length + 1:=by simp
     rw [ht,HSn.out]
     exact HA4.out
    case measure => simp [intOf]; omega
   ·have e1:(s.kind == 1) = false:=by simp [hk]
    have e2:(s.kind == 2) = false:=by simp [hk]
    have e7:(s.kind == 7) = false:=by simp [hk]
    have e6:(s.kind != 6) = true:=by simp [hk]
    have e3:(s.kind == 3) = false:=by simp [hk]
    have e4:(s.kind == 4) = true:=by simp [hk]
    have HS:Hid ((⟨s.kind,⟨#[]⟩,y,bb,[]⟩:Sy.St) = Sy.stB (e + 1) s):=by
     have h0:Sy.stB (e + 1) s = ⟨s.kind,⟨#[]⟩,y,bb,[]⟩:=by
      rw [Sy.stB,HY.out,HBB.out]
      simp [hk]
     exact h0.symm
    have HXo:Hid (Sy.LmE e s.x):=HK4.out
    have HBo:=hideX (HK5.out)
    have hb50:=HBo.out.1
    have hnm:(⟨#[]⟩:ByteArray).size ≤ maxLen:=Nat.zero_le _
    have HNm:=hideX hnm
    clear hk hnm
    go_wp2_with fail
    refine ((bareExpr_any e) B hx s.x y xa xc V2 HXo (by have:=HT2.out.bel.size; omega) (ExIn.same (fun b o hb => same_below HT2.out.bel b o (by omega)) hx s.x xa HXi.out) HY).mono ?_
    rintro ee w1 ⟨ya,yc,rfl,hq1,hb1⟩
    have HT4a:Hid (TAt wr w1 (stS s xa xc ba bc ea ec) (sttO s.kind ⟨#[]⟩ 0 0 ⟨#[]⟩ nilV nilV nilV)):=HT2.out.call hb1
    have hQa:ExQ (fun b => wr.heap.size + 1 < b ∧ b < w1.heap.size) w1 e y ya:=hq1.keep (fun b hb => ⟨⟨by have:=HT2.out.lt; omega,hb.2⟩,rfl⟩)
    obtain ⟨V4,hV4⟩:∃ V4,(((w1.setCell ⟨wr.heap.size + 1,2,none⟩ (.int .i64 y.kind)).setCell ⟨wr.heap.size + 1,3,none⟩ (.int .i64 y.n)).setCell ⟨wr.heap.size + 1,4,none⟩ (.string y.name)).setCell ⟨wr.heap.size + 1,5,none⟩ (.slice ya y.kids.length yc) = V4:=⟨_,rfl⟩
    have HT4:Hid (TAt wr V4 (stS s xa xc ba bc ea ec) (sttO s.kind ⟨#[]⟩ y.kind y.n y.name (.slice ya y.kids.length yc) nilV nilV)):=by rw [← hV4]; exact HT4a.out.setX y ya yc
    have hz4:V4.heap.size = w1.heap.size:=by rw [← hV4]; simp only [World.setCell_size]
    have HQ4:Hid (ExQ (fun b => wr.heap.size + 1 < b ∧ b < V4.heap.size) V4 e y ya):=by rw [hz4,← hV4]; exact exq_far (exq_far (exq_far (exq_far hQa)))
    clear s0 s1 s2 s3 s4 s5 s6 s7 t0 t1 t2 t3 t4 t5 t6 t7 g0 g1 g2 g3 g4 g5 g6 g7
    obtain ⟨⟨s0,s1,s2,s3,s4,s5,s6,s7⟩,_⟩:=st_cells HT4a.out.sb
    obtain ⟨⟨t0,t1,t2,t3,t4,t5,t6,t7⟩,g0,g1,g2,g3,g4,g5,g6,g7⟩:=st_cells HT4a.out.tb
    obtain ⟨⟨x0,x1,x2,x3,x4,x5,x6,x7⟩,_⟩:=st_cells HT4.out.sb
    obtain ⟨⟨z0,z1,z2,z3,z4,z5,z6,z7⟩,_⟩:=st_cells HT4.out.tb
    clear hq1 hb1 hQa hz4
    go_wp2_with fail
    refine (HIs.out B h' s.body bb ba bc V4 HBo.out.2 hb50 (by have:=HT4.out.bel.size; omega) (BodyIn.same (fun b o hb => same_below HT4.out.bel b o (by omega)) HBi.out) HBB).mono ?_
    rintro ee w2 ⟨bba,bbc,rfl,hr2,hb2⟩
    have HT5a:Hid (TAt wr w2 (stS s xa xc ba bc ea ec) (sttO s.kind ⟨#[]⟩ y.kind y.n y.name (.slice ya y.kids.length yc) nilV nilV)):=HT4.out.call hb2
    obtain ⟨V5,hV5⟩:∃ V5,w2.setCell ⟨wr.heap.size + 1,6,none⟩ (.slice bba bb.length bbc) = V5:=⟨_,rfl⟩
    have HT5:Hid (TAt wr V5 (stS s xa xc ba bc ea ec) (sttO s.kind ⟨#[]⟩ y.kind y.n y.name (.slice ya y.kids.length yc) (.slice bba bb.length bbc) nilV)):=by rw [← hV5]; exact HT5a.out.set (stt_set6 HT5a.out.tb _)
    have hz5:V5.heap.size = w2.heap.size:=by rw [← hV5]; simp only [World.setCell_size]
    have HQ5:Hid (ExQ (fun b => wr.heap.size + 1 < b ∧ b < V5.heap.size) V5 e y ya):=by rw [hz5,← hV5]; exact exq_far (exq_call HQ4.out hb2)
    have HR5:Hid (RowP (wr.heap.size + 1) V5.heap.size V5 e bb bba):=by rw [hz5,← hV5]; exact row_far (row_made hr2 HT4.out.lt)
    clear s0 s1 s2 s3 s4 s5 s6 s7 t0 t1 t2 t3 t4 t5 t6 t7 g0 g1 g2 g3 g4 g5 g6 g7
    clear x0 x1 x2 x3 x4 x5 x6 x7 z0 z1 z2 z3 z4 z5 z6 z7 hV4
    obtain ⟨⟨s0,s1,s2,s3,s4,s5,s6,s7⟩,_⟩:=st_cells HT5a.out.sb
    obtain ⟨⟨t0,t1,t2,t3,t4,t5,t6,t7⟩,g0,g1,g2,g3,g4,g5,g6,g7⟩:=st_cells HT5a.out.tb
    obtain ⟨⟨x0,x1,x2,x3,x4,x5,x6,x7⟩,_⟩:=st_cells HT5.out.sb
    obtain ⟨⟨z0,z1,z2,z3,z4,z5,z6,z7⟩,_⟩:=st_cells HT5.out.tb
    clear hr2 hb2 hz5
    obtain ⟨IT,hIT⟩:∃ IT:Itm8,IT = (⟨s.kind,⟨#[]⟩,y,bb,[]⟩,(ya,yc),(bba,bbc),(none,0)):=⟨_,rfl⟩
    have HC:Hid (itc8 IT = [.int .i64 s.kind,.string ⟨#[]⟩,.int .i64 y.kind,.int .i64 y.n,.string y.name,(.slice ya y.kids.length yc),(.slice bba bb.length bbc),nilV]):=by rw [hIT]; rfl
    have HI1:Hid (IT.1 = Sy.stB (e + 1) s):=by rw [hIT]; exact HS.out
    have HQf:Hid (StQ (fun b => wr.heap.size ≤ b ∧ b < V5.heap.size) V5 (e + 1) IT.1 IT.2.1.1 IT.2.2.1.1 IT.2.2.2.1):=by
     rw [hIT]
     exact ⟨HNm.out,⟨_,HQ5.out.keep (fun b hb => ⟨⟨by omega,hb.2⟩,rfl⟩)⟩,by show bb.length ≤ maxLen; rw [HBB.out]; simp; unfold maxLen; omega,Nat.zero_le _,HR5.out.keep (fun b hb => ⟨⟨by omega,hb.2⟩,rfl⟩) (fun _ _ _ _ => StQ.keep (fun b hb => ⟨⟨by omega,hb.2⟩,rfl⟩)),RowQ.nil _ _ _ _⟩
    have HOf:Hid ((V5.alloc (.cells (itc8 IT).toArray 94)).ownsRow w.heap.size 94 8 u3 its.length (cells8 its)):=(HA.out.own.kept (row:=none) ⟨HT5.out.bel.os,HT5.out.bel.tape,HT5.out.bel.output,HT5.out.bel.size,fun k hk _ => HT5.out.bel.block k hk⟩ (by cases hv:u3.ownBlock with | none => exact .inl rfl | some _ => exact .inr (by simp))).alloc _
    have hzf:=HT5.out.bel.size
    clear hIT
    go_wp2_with (first | (at_builtin; refine wpList_append_where rfl _ _ 33 rfl w.heap.size 94 i0 _ 8 128 Tryz.underlying33 hi hz0 hz1 hz2 rfl (by decide) u3 its.length (cells8 its) rfl (by first | (have h9:=HOf.out; rw [HC.out] at h9; exact h9)) ⟨_,0,none⟩ 1 1 (itc8 IT) rfl (by rw [HC.out]; rfl) (by have h9:=itc8_news V5 IT 94; rw [HC.out] at h9 ⊢; exact h9) (itc8_one IT) (by decide) (by unfold maxLen; omega) (by omega) (by simp; omega) ?_; intro g cap w4 hown4 hg4 hw4; have HA4:=hideX (HA.out.more (it:=IT) (T:=94) HT5.out.bel HI1.out HQf.out hown4 (by rw [HC.out]; exact hg4) (by rw [HC.out]; exact hw4)); clear hown4 hg4 hw4))
    go_roundw
    case rel =>
     refine ⟨its ++ [IT],_,rfl,by simp; omega,by simp,?_⟩
     have ht:(its ++ [IT]).length = its.length + 1:=by simp
     rw [ht,HSn.out]
     exact HA4.out
    case measure => simp [intOf]; omega
   ·have e1:(s.kind == 1) = false:=by simp [hk]
    have e2:(s.kind == 2) = false:=by simp [hk]
    have e7:(s.kind == 7) = false:=by simp [hk]
    have e6:(s.kind != 6) = true:=by simp [hk]
    have e3:(s.kind == 3) = false:=by simp [hk]
    have e4:(s.kind == 4) = false:=by simp [hk]
    have HS:Hid ((⟨s.kind,⟨#[]⟩,y,[],[]⟩:Sy.St) = Sy.stB (e + 1) s):=by
     have h0:Sy.stB (e + 1) s = ⟨s.kind,⟨#[]⟩,y,[],[]⟩:=by
      rw [Sy.stB,HY.out]
      simp [hk]
     exact h0.symm
    have HXo:Hid (Sy.LmE e s.x):=HK4.out
    have hnm:(⟨#[]⟩:ByteArray).size ≤ maxLen:=Nat.zero_le _
    have HNm:=hideX hnm
    clear hk hnm
    go_wp2_with fail
    refine ((bareExpr_any e) B hx s.x y xa xc V2 HXo (by have:=HT2.out.bel.size; omega) (ExIn.same (fun b o hb => same_below HT2.out.bel b o (by omega)) hx s.x xa HXi.out) HY).mono ?_
    rintro ee w1 ⟨ya,yc,rfl,hq1,hb1⟩
    have HT4a:Hid (TAt wr w1 (stS s xa xc ba bc ea ec) (sttO s.kind ⟨#[]⟩ 0 0 ⟨#[]⟩ nilV nilV nilV)):=HT2.out.call hb1
    have hQa:ExQ (fun b => wr.heap.size + 1 < b ∧ b < w1.heap.size) w1 e y ya:=hq1.keep (fun b hb => ⟨⟨by have:=HT2.out.lt; omega,hb.2⟩,rfl⟩)
    obtain ⟨V4,hV4⟩:∃ V4,(((w1.setCell ⟨wr.heap.size + 1,2,none⟩ (.int .i64 y.kind)).setCell ⟨wr.heap.size + 1,3,none⟩ (.int .i64 y.n)).setCell ⟨wr.heap.size + 1,4,none⟩ (.string y.name)).setCell ⟨wr.heap.size + 1,5,none⟩ (.slice ya y.kids.length yc) = V4:=⟨_,rfl⟩
    have HT4:Hid (TAt wr V4 (stS s xa xc ba bc ea ec) (sttO s.kind ⟨#[]⟩ y.kind y.n y.name (.slice ya y.kids.length yc) nilV nilV)):=by rw [← hV4]; exact HT4a.out.setX y ya yc
    have hz4:V4.heap.size = w1.heap.size:=by rw [← hV4]; simp only [World.setCell_size]
    have HQ4:Hid (ExQ (fun b => wr.heap.size + 1 < b ∧ b < V4.heap.size) V4 e y ya):=by rw [hz4,← hV4]; exact exq_far (exq_far (exq_far (exq_far hQa)))
    clear s0 s1 s2 s3 s4 s5 s6 s7 t0 t1 t2 t3 t4 t5 t6 t7 g0 g1 g2 g3 g4 g5 g6 g7
    obtain ⟨⟨s0,s1,s2,s3,s4,s5,s6,s7⟩,_⟩:=st_cells HT4a.out.sb
    obtain ⟨⟨t0,t1,t2,t3,t4,t5,t6,t7⟩,g0,g1,g2,g3,g4,g5,g6,g7⟩:=st_cells HT4a.out.tb
    obtain ⟨⟨x0,x1,x2,x3,x4,x5,x6,x7⟩,_⟩:=st_cells HT4.out.sb
    obtain ⟨⟨z0,z1,z2,z3,z4,z5,z6,z7⟩,_⟩:=st_cells HT4.out.tb
    clear hq1 hb1 hQa hz4
    obtain ⟨IT,hIT⟩:∃ IT:Itm8,IT = (⟨s.kind,⟨#[]⟩,y,[],[]⟩,(ya,yc),(none,0),(none,0)):=⟨_,rfl⟩
    have HC:Hid (itc8 IT = [.int .i64 s.kind,.string ⟨#[]⟩,.int .i64 y.kind,.int .i64 y.n,.string y.name,(.slice ya y.kids.length yc),nilV,nilV]):=by rw [hIT]; rfl
    have HI1:Hid (IT.1 = Sy.stB (e + 1) s):=by rw [hIT]; exact HS.out
    have HQf:Hid (StQ (fun b => wr.heap.size ≤ b ∧ b < V4.heap.size) V4 (e + 1) IT.1 IT.2.1.1 IT.2.2.1.1 IT.2.2.2.1):=by
     rw [hIT]
     exact ⟨HNm.out,⟨_,HQ4.out.keep (fun b hb => ⟨⟨by omega,hb.2⟩,rfl⟩)⟩,Nat.zero_le _,Nat.zero_le _,RowQ.nil _ _ _ _,RowQ.nil _ _ _ _⟩
    have HOf:Hid ((V4.alloc (.cells (itc8 IT).toArray 94)).ownsRow w.heap.size 94 8 u3 its.length (cells8 its)):=(HA.out.own.kept (row:=none) ⟨HT4.out.bel.os,HT4.out.bel.tape,HT4.out.bel.output,HT4.out.bel.size,fun k hk _ => HT4.out.bel.block k hk⟩ (by cases hv:u3.ownBlock with | none => exact .inl rfl | some _ => exact .inr (by simp))).alloc _
    have hzf:=HT4.out.bel.size
    clear hIT
    go_wp2_with (first | (at_builtin; refine wpList_append_where rfl _ _ 33 rfl w.heap.size 94 i0 _ 8 128 Tryz.underlying33 hi hz0 hz1 hz2 rfl (by decide) u3 its.length (cells8 its) rfl (by first | (have h9:=HOf.out; rw [HC.out] at h9; exact h9)) ⟨_,0,none⟩ 1 1 (itc8 IT) rfl (by rw [HC.out]; rfl) (by have h9:=itc8_news V4 IT 94; rw [HC.out] at h9 ⊢; exact h9) (itc8_one IT) (by decide) (by unfold maxLen; omega) (by omega) (by simp; omega) ?_; intro g cap w4 hown4 hg4 hw4; have HA4:=hideX (HA.out.more (it:=IT) (T:=94) HT4.out.bel HI1.out HQf.out hown4 (by rw [HC.out]; exact hg4) (by rw [HC.out]; exact hw4)); clear hown4 hg4 hw4))
    go_roundw
    case rel =>
     refine ⟨its ++ [IT],_,rfl,by simp; omega,by simp,?_⟩
     have ht:(its ++ [IT]).length = its.length + 1:=by simp
     rw [ht,HSn.out]
     exact HA4.out
    case measure => simp [intOf]; omega
   ·have e1:(s.kind == 1) = false:=by simp [hk]
    have e2:(s.kind == 2) = false:=by simp [hk]
    have e7:(s.kind == 7) = false:=by simp [hk]
    have e6:(s.kind != 6) = false:=by simp [hk]
    have e3:(s.kind == 3) = false:=by simp [hk]
    have e4:(s.kind == 4) = false:=by simp [hk]
    have HS:Hid ((⟨s.kind,⟨#[]⟩,⟨0,0,⟨#[]⟩,[]⟩,[],[]⟩:Sy.St) = Sy.stB (e + 1) s):=by
     have h0:Sy.stB (e + 1) s = ⟨s.kind,⟨#[]⟩,⟨0,0,⟨#[]⟩,[]⟩,[],[]⟩:=by
      rw [Sy.stB]
      simp [hk]
     exact h0.symm
    have hnm:(⟨#[]⟩:ByteArray).size ≤ maxLen:=Nat.zero_le _
    have HNm:=hideX hnm
    clear hk hnm
    obtain ⟨IT,hIT⟩:∃ IT:Itm8,IT = (⟨s.kind,⟨#[]⟩,⟨0,0,⟨#[]⟩,[]⟩,[],[]⟩,(none,0),(none,0),(none,0)):=⟨_,rfl⟩
    have HC:Hid (itc8 IT = [.int .i64 s.kind,.string ⟨#[]⟩,.int .i64 0,.int .i64 0,.string ⟨#[]⟩,nilV,nilV,nilV]):=by rw [hIT]; rfl
    have HI1:Hid (IT.1 = Sy.stB (e + 1) s):=by rw [hIT]; exact HS.out
    have HQf:Hid (StQ (fun b => wr.heap.size ≤ b ∧ b < V2.heap.size) V2 (e + 1) IT.1 IT.2.1.1 IT.2.2.1.1 IT.2.2.2.1):=by
     rw [hIT]
     exact ⟨HNm.out,⟨_,ExQ.leaf _ _ _ _ _ (Nat.zero_le _) _⟩,Nat.zero_le _,Nat.zero_le _,RowQ.nil _ _ _ _,RowQ.nil _ _ _ _⟩
    have HOf:Hid ((V2.alloc (.cells (itc8 IT).toArray 94)).ownsRow w.heap.size 94 8 u3 its.length (cells8 its)):=(HA.out.own.kept (row:=none) ⟨HT2.out.bel.os,HT2.out.bel.tape,HT2.out.bel.output,HT2.out.bel.size,fun k hk _ => HT2.out.bel.block k hk⟩ (by cases hv:u3.ownBlock with | none => exact .inl rfl | some _ => exact .inr (by simp))).alloc _
    have hzf:=HT2.out.bel.size
    clear hIT
    go_wp2_with (first | (at_builtin; refine wpList_append_where rfl _ _ 33 rfl w.heap.size 94 i0 _ 8 128 Tryz.underlying33 hi hz0 hz1 hz2 rfl (by decide) u3 its.length (cells8 its) rfl (by first | (have h9:=HOf.out; rw [HC.out] at h9; exact h9)) ⟨_,0,none⟩ 1 1 (itc8 IT) rfl (by rw [HC.out]; rfl) (by have h9:=itc8_news V2 IT 94; rw [HC.out] at h9 ⊢; exact h9) (itc8_one IT) (by decide) (by unfold maxLen; omega) (by omega) (by simp; omega) ?_; intro g cap w4 hown4 hg4 hw4; have HA4:=hideX (HA.out.more (it:=IT) (T:=94) HT2.out.bel HI1.out HQf.out hown4 (by rw [HC.out]; exact hg4) (by rw [HC.out]; exact hw4)); clear hown4 hg4 hw4))
    go_roundw
    case rel =>
     refine ⟨its ++ [IT],_,rfl,by simp; omega,by simp,?_⟩
     have ht:(its ++ [IT]).length = its.length + 1:=by simp
     rw [ht,HSn.out]
     exact HA4.out
    case measure => simp [intOf]; omega
   ·have e1:(s.kind == 1) = false:=by simp [hk]
    have e2:(s.kind == 2) = false:=by simp [hk]
    have e7:(s.kind == 7) = true:=by simp [hk]
    have e6:(s.kind != 6) = true:=by simp [hk]
    have e3:(s.kind == 3) = false:=by simp [hk]
    have e4:(s.kind == 4) = false:=by simp [hk]
    have HS:Hid ((⟨s.kind,s.name,y,[],[]⟩:Sy.St) = Sy.stB (e + 1) s):=by
     have h0:Sy.stB (e + 1) s = ⟨s.kind,s.name,y,[],[]⟩:=by
      rw [Sy.stB,HY.out]
      simp [hk]
     exact h0.symm
    have HXo:Hid (Sy.LmE e s.x):=HK4.out
    have hnm:(s.name:ByteArray).size ≤ maxLen:=HNS.out
    have HNm:=hideX hnm
    clear hk hnm
    obtain ⟨V3,hV3⟩:∃ V3,V2.setCell ⟨wr.heap.size + 1,1,none⟩ (.string s.name) = V3:=⟨_,rfl⟩
    have HT3:Hid (TAt wr V3 (stS s xa xc ba bc ea ec) (sttO s.kind s.name 0 0 ⟨#[]⟩ nilV nilV nilV)):=by rw [← hV3]; exact HT2.out.set (stt_set1 HT2.out.tb s.name)
    obtain ⟨⟨x0,x1,x2,x3,x4,x5,x6,x7⟩,_⟩:=st_cells HT3.out.sb
    obtain ⟨⟨z0,z1,z2,z3,z4,z5,z6,z7⟩,_⟩:=st_cells HT3.out.tb
    go_wp2_with fail
    refine ((bareExpr_any e) B hx s.x y xa xc V3 HXo (by have:=HT3.out.bel.size; omega) (ExIn.same (fun b o hb => same_below HT3.out.bel b o (by omega)) hx s.x xa HXi.out) HY).mono ?_
    rintro ee w1 ⟨ya,yc,rfl,hq1,hb1⟩
    have HT4a:Hid (TAt wr w1 (stS s xa xc ba bc ea ec) (sttO s.kind s.name 0 0 ⟨#[]⟩ nilV nilV nilV)):=HT3.out.call hb1
    have hQa:ExQ (fun b => wr.heap.size + 1 < b ∧ b < w1.heap.size) w1 e y ya:=hq1.keep (fun b hb => ⟨⟨by have:=HT3.out.lt; omega,hb.2⟩,rfl⟩)
    obtain ⟨V4,hV4⟩:∃ V4,(((w1.setCell ⟨wr.heap.size + 1,2,none⟩ (.int .i64 y.kind)).setCell ⟨wr.heap.size + 1,3,none⟩ (.int .i64 y.n)).setCell ⟨wr.heap.size + 1,4,none⟩ (.string y.name)).setCell ⟨wr.heap.size + 1,5,none⟩ (.slice ya y.kids.length yc) = V4:=⟨_,rfl⟩
    have HT4:Hid (TAt wr V4 (stS s xa xc ba bc ea ec) (sttO s.kind s.name y.kind y.n y.name (.slice ya y.kids.length yc) nilV nilV)):=by rw [← hV4]; exact HT4a.out.setX y ya yc
    have hz4:V4.heap.size = w1.heap.size:=by rw [← hV4]; simp only [World.setCell_size]
    have HQ4:Hid (ExQ (fun b => wr.heap.size + 1 < b ∧ b < V4.heap.size) V4 e y ya):=by rw [hz4,← hV4]; exact exq_far (exq_far (exq_far (exq_far hQa)))
    clear s0 s1 s2 s3 s4 s5 s6 s7 t0 t1 t2 t3 t4 t5 t6 t7 g0 g1 g2 g3 g4 g5 g6 g7
    clear x0 x1 x2 x3 x4 x5 x6 x7 z0 z1 z2 z3 z4 z5 z6 z7 hV3
    obtain ⟨⟨s0,s1,s2,s3,s4,s5,s6,s7⟩,_⟩:=st_cells HT4a.out.sb
    obtain ⟨⟨t0,t1,t2,t3,t4,t5,t6,t7⟩,g0,g1,g2,g3,g4,g5,g6,g7⟩:=st_cells HT4a.out.tb
    obtain ⟨⟨x0,x1,x2,x3,x4,x5,x6,x7⟩,_⟩:=st_cells HT4.out.sb
    obtain ⟨⟨z0,z1,z2,z3,z4,z5,z6,z7⟩,_⟩:=st_cells HT4.out.tb
    clear hq1 hb1 hQa hz4
    obtain ⟨IT,hIT⟩:∃ IT:Itm8,IT = (⟨s.kind,s.name,y,[],[]⟩,(ya,yc),(none,0),(none,0)):=⟨_,rfl⟩
    have HC:Hid (itc8 IT = [.int .i64 s.kind,.string s.name,.int .i64 y.kind,.int .i64 y.n,.string y.name,(.slice ya y.kids.length yc),nilV,nilV]):=by rw [hIT]; rfl
    have HI1:Hid (IT.1 = Sy.stB (e + 1) s):=by rw [hIT]; exact HS.out
    have HQf:Hid (StQ (fun b => wr.heap.size ≤ b ∧ b < V4.heap.size) V4 (e + 1) IT.1 IT.2.1.1 IT.2.2.1.1 IT.2.2.2.1):=by
     rw [hIT]
     exact ⟨HNm.out,⟨_,HQ4.out.keep (fun b hb => ⟨⟨by omega,hb.2⟩,rfl⟩)⟩,Nat.zero_le _,Nat.zero_le _,RowQ.nil _ _ _ _,RowQ.nil _ _ _ _⟩
    have HOf:Hid ((V4.alloc (.cells (itc8 IT).toArray 94)).ownsRow w.heap.size 94 8 u3 its.length (cells8 its)):=(HA.out.own.kept (row:=none) ⟨HT4.out.bel.os,HT4.out.bel.tape,HT4.out.bel.output,HT4.out.bel.size,fun k hk _ => HT4.out.bel.block k hk⟩ (by cases hv:u3.ownBlock with | none => exact .inl rfl | some _ => exact .inr (by simp))).alloc _
    have hzf:=HT4.out.bel.size
    clear hIT
    go_wp2_with (first | (at_builtin; refine wpList_append_where rfl _ _ 33 rfl w.heap.size 94 i0 _ 8 128 Tryz.underlying33 hi hz0 hz1 hz2 rfl (by decide) u3 its.length (cells8 its) rfl (by first | (have h9:=HOf.out; rw [HC.out] at h9; exact h9)) ⟨_,0,none⟩ 1 1 (itc8 IT) rfl (by rw [HC.out]; rfl) (by have h9:=itc8_news V4 IT 94; rw [HC.out] at h9 ⊢; exact h9) (itc8_one IT) (by decide) (by unfold maxLen; omega) (by omega) (by simp; omega) ?_; intro g cap w4 hown4 hg4 hw4; have HA4:=hideX (HA.out.more (it:=IT) (T:=94) HT4.out.bel HI1.out HQf.out hown4 (by rw [HC.out]; exact hg4) (by rw [HC.out]; exact hw4)); clear hown4 hg4 hw4))
    go_roundw
    case rel =>
     refine ⟨its ++ [IT],_,rfl,by simp; omega,by simp,?_⟩
     have ht:(its ++ [IT]).length = its.length + 1:=by simp
     rw [ht,HSn.out]
     exact HA4.out
    case measure => simp [intOf]; omega
  ·have hkl:its.length = ls.length:=by omega
   have hown:=HA.out.own
   obtain ⟨va,vc,hv,hq⟩:=own_rowq (Q:=fun b => w.heap.size ≤ b ∧ b < wr.heap.size) hown (fun it hit => (HA.out.sts it hit).keep (fun b hb => ⟨⟨hb.1,hb.2.1⟩,rfl⟩)) (fun g hg => hown.lt g hg)
   subst hv
   have e:=HA.out.eq
   rw [hkl,List.take_length,← hys.out] at e
   rw [e] at hq
   have hyl:ys.length = its.length:=by rw [← e]; simp
   have HYL:=hideX hyl
   have HQ:=hideX hq
   have HBr:=hideX HA.out.bel
   clear hq e hyl hown HA
   go_wp2
   go_ret
   exact ⟨va,vc,by rw [HYL.out]; rfl,HQ.out,HBr.out⟩
theorem bareStats_any:∀ d,CBSt d
 | 0 => bareStats_step 0 (fun e he => by omega)
 | d + 1 => bareStats_step (d + 1) (fun e he => (show d = e by omega) ▸ bareStats_any d)
end Go.Proofs.YtpnljpdpobbiiaaGreatDoor

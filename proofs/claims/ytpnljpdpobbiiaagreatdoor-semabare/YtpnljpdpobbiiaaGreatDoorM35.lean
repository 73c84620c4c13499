/- The walk of ref2.BareStats (laid by tools/mkbare2.py). -/
import Derived.Test.YtpnljpdpobbiiaaGreatDoorM34
set_option maxRecDepth 100000
set_option maxHeartbeats 8000000
namespace Go.Proofs.YtpnljpdpobbiiaaGreatDoor
open Go.RowKit
def CBSt (d:Nat):Prop:=∀ (B h:Nat) (ls ys:List Sy.St) (a:Option Addr) (c:Nat) (w:World),Hid (∀ s ∈ ls,Sy.LmS d s) → ls.length ≤ 1099511627744 → B ≤ w.heap.size → Hid (BodyIn B w h ls a) → Hid (ys = ls.map (Sy.stB d)) →
 Calls Tryz.prog 20 #[.slice a ls.length c] w fun e w' => ∃ a' c',e = .returned (.slice a' ys.length c') ∧ RowQ (Mad w w') w' (StQ (Mad w w') w' d) ys a' ∧ Below w.heap.size w w'
abbrev nilV:Value:=.slice none 0 0
abbrev stS (s:Sy.St) (xa:Option Addr) (xc:Nat) (ba:Option Addr) (bc:Nat) (ea:Option Addr) (ec:Nat):Obj:=sttO s.kind s.name s.x.kind s.x.n s.x.name (.slice xa s.x.kids.length xc) (.slice ba s.body.length bc) (.slice ea s.els.length ec)
theorem exq_far {W:World} {P N d o:Nat} {y:Sy.Ex} {ya:Option Addr} {u:Value} (h:ExQ (fun b => P < b ∧ b < N) W d y ya):ExQ (fun b => P < b ∧ b < N) (W.setCell ⟨P,o,none⟩ u) d y ya:=h.keep (fun b hb => ⟨hb,far_two (by omega)⟩)
theorem exq_call {W W':World} {P d:Nat} {y:Sy.Ex} {ya:Option Addr} (h:ExQ (fun b => P < b ∧ b < W.heap.size) W d y ya) (hb:Below W.heap.size W W'):ExQ (fun b => P < b ∧ b < W'.heap.size) W' d y ya:=h.keep (fun b h' => ⟨⟨h'.1,Nat.lt_of_lt_of_le h'.2 hb.size⟩,hb.block b h'.2⟩)
abbrev RowP (P N:Nat) (W:World) (d:Nat) (ys:List Sy.St) (a:Option Addr):Prop:=RowQ (fun b => P < b ∧ b < N) W (StQ (fun b => P < b ∧ b < N) W d) ys a
theorem row_far {W:World} {P N d o:Nat} {ys:List Sy.St} {a:Option Addr} {u:Value} (h:RowP P N W d ys a):RowP P N (W.setCell ⟨P,o,none⟩ u) d ys a:=h.keep (fun b hb => ⟨hb,far_two (by omega)⟩) (fun _ _ _ _ => StQ.keep (fun b hb => ⟨hb,far_two (by omega)⟩))
theorem row_call {W W':World} {P d:Nat} {ys:List Sy.St} {a:Option Addr} (h:RowP P W.heap.size W d ys a) (hb:Below W.heap.size W W'):RowP P W'.heap.size W' d ys a:=h.keep (fun b h' => ⟨⟨h'.1,Nat.lt_of_lt_of_le h'.2 hb.size⟩,hb.block b h'.2⟩) (fun _ _ _ _ => StQ.keep (fun b h' => ⟨⟨h'.1,Nat.lt_of_lt_of_le h'.2 hb.size⟩,hb.block b h'.2⟩))
theorem row_made {W W':World} {P d:Nat} {ys:List Sy.St} {a:Option Addr} (h:RowQ (Mad W W') W' (StQ (Mad W W') W' d) ys a) (hP:P < W.heap.size):RowP P W'.heap.size W' d ys a:=h.keep (fun b h' => ⟨⟨by omega,h'.2⟩,rfl⟩) (fun _ _ _ _ => StQ.keep (fun b h' => ⟨⟨by omega,h'.2⟩,rfl⟩))
theorem bareStats_step (d:Nat) (ih:∀ e,d = e + 1 → CBSt e):CBSt d:=by
 intro B h ls ys a c w hok h50 hB hX hys
 have IH:=hideX ih
 have hlen:ls.length ≤ 9223372036854775807:=hX.out.1
 obtain ⟨i0,hi,hz0,hz1,hz2⟩:=info_parts Tryz.info94
 clear ih
 go_enter Tryz.func20,Tryz.ntmps20
 go_wp2
 go_loopw [3,9] (fun v0 i wr => ∃ (its:List Itm8) (v:Value),v0 = v ∧ its.length ≤ ls.length ∧ i = .int .i64 its.length ∧ Hid (BsAt w d (ls.take its.length) its v wr)) (fun _ i _ => ls.length - (intOf i).toNat)
 case atStart => exact ⟨[],_,rfl,Nat.zero_le _,rfl,Below.refl _ _,World.ownsRow_nil _ _ _ _,rfl,fun it hit => by cases hit⟩
 case round =>
  obtain ⟨its,v,rfl,hk,rfl,HA⟩:=hrel
  by_cases hlt:its.length < ls.length
  ·obtain ⟨s,hs⟩:∃ s,ls[its.length]? = some s:=⟨_,List.getElem?_eq_getElem hlt⟩
   have hso:=hok.out s (List.mem_of_getElem? hs)
   obtain ⟨e,rfl⟩:∃ e,d = e + 1:=by
    cases d with
    | zero => exact hso.elim
    | succ e => exact ⟨e,rfl⟩
   obtain ⟨k4,k5,k6⟩:=hso
   have HK4:=hideX k4
   have HK5:=hideX k5
   have HK6:=hideX k6
   have HIs:Hid (CBSt e):=IH.out e rfl
   obtain ⟨b1,o1,xa,xc,ba,bc,ea,ec,rfl,hb1,u0,u1,u2,u3,u4,u5,u6,u7,i1⟩:=hX.out.2 its.length s hs
   obtain ⟨h',rfl⟩:∃ h',h = h' + 1:=by
    cases h with
    | zero => exact i1.elim
    | succ h' => exact ⟨h',rfl⟩
   obtain ⟨ins,⟨hx,ix⟩,ibl,iel,ib,ie⟩:=i1
   have HNS:=hideX ins
   have hsw:=same_below HA.out.bel
   have hwz:=HA.out.bel.size
   rw [← hsw _ _ (by omega)] at u0 u1 u2 u3 u4 u5 u6 u7
   have HXi:Hid (ExIn B wr hx s.x xa):=ix.same (fun b o hb => hsw b o (by omega))
   have HBi:Hid (BodyIn B wr h' s.body ba):=BodyIn.same (fun b o hb => hsw b o (by omega)) ⟨ibl,ib⟩
   have HEi:Hid (BodyIn B wr h' s.els ea):=BodyIn.same (fun b o hb => hsw b o (by omega)) ⟨iel,ie⟩
   have hbr:b1 < wr.heap.size:=by omega
   have hBr:B ≤ wr.heap.size:=by omega
   have HSn:Hid (ls.take (its.length + 1) = ls.take its.length ++ [s]):=by
    have:ls.take (its.length + 1) = ls.take its.length ++ [s]:=by rw [List.take_add_one,hs]; rfl
    exact this
   obtain ⟨y,hy⟩:∃ y,y = Sy.exB e s.x:=⟨_,rfl⟩
   obtain ⟨bb,hbb⟩:∃ bb,bb = s.body.map (Sy.stB e):=⟨_,rfl⟩
   obtain ⟨eb,heb⟩:∃ eb,eb = s.els.map (Sy.stB e):=⟨_,rfl⟩
   have HY:=hideX hy
   have HBB:=hideX hbb
   have HEB:=hideX heb
   obtain ⟨V2,hV2⟩:∃ V2,(wr.alloc (stS s xa xc ba bc ea ec)).alloc (sttO s.kind ⟨#[]⟩ 0 0 ⟨#[]⟩ nilV nilV nilV) = V2:=⟨_,rfl⟩
   have HT2:Hid (TAt wr V2 (stS s xa xc ba bc ea ec) (sttO s.kind ⟨#[]⟩ 0 0 ⟨#[]⟩ nilV nilV nilV)):=by rw [← hV2]; exact TAt.start _ _ _
   have HV2:=hideX hV2
   have m0:(0:Int) ≤ (its.length:Int):=by omega
   have m1:(its.length:Int) < (ls.length:Int):=by omega
   have hk9:s.kind = 1 ∨ s.kind = 2 ∨ s.kind = 3 ∨ s.kind = 4 ∨ (¬ s.kind = 1 ∧ ¬ s.kind = 2 ∧ ¬ s.kind = 3 ∧ ¬ s.kind = 4 ∧ ¬ s.kind = 6 ∧ ¬ s.kind = 7) ∨ s.kind = 6 ∨ s.kind = 7:=by omega
   clear hs ix ib ie hsw hy hbb heb hV2 k4 k5 k6 hb1 ibl iel ins
   go_upto_region 6 with fail
   rw [HV2.out]
   obtain ⟨⟨s0,s1,s2,s3,s4,s5,s6,s7⟩,_⟩:=st_cells HT2.out.sb
   obtain ⟨⟨t0,t1,t2,t3,t4,t5,t6,t7⟩,g0,g1,g2,g3,g4,g5,g6,g7⟩:=st_cells HT2.out.tb
   clear u0 u1 u2 u3 u4 u5 u6 u7
   rcases hk9 with hk | hk | hk | hk | hk | hk | hk
   ·have e1:(s.kind == 1) = true:=by simp [hk]
    have e6:(s.kind != 6) = true:=by simp [hk]
    have e3:(s.kind == 3) = false:=by simp [hk]
    have e4:(s.kind == 4) = false:=by simp [hk]
    have HS:Hid ((⟨s.kind,s.name,y,[],[]⟩:Sy.St) = Sy.stB (e + 1) s):=by
     have h0:Sy.stB (e + 1) s = ⟨s.kind,s.name,y,[],[]⟩:=by
      rw [Sy.stB,HY.out]
      simp [hk]
     exact h0.symm
    have HXo:Hid (Sy.LmE e s.x):=HK4.out
    have hnm:(s.name:ByteArray).size ≤ maxLen:=HNS.out
    have HNm:=hideX hnm
    clear hk hnm
    obtain ⟨V3,hV3⟩:∃ V3,V2.setCell ⟨wr.heap.size + 1,1,none⟩ (.string s.name) = V3:=⟨_,rfl⟩
    have HT3:Hid (TAt wr V3 (stS s xa xc ba bc ea ec) (sttO s.kind s.name 0 0 ⟨#[]⟩ nilV nilV nilV)):=by rw [← hV3]; exact HT2.out.set (stt_set1 HT2.out.tb s.name)
    obtain ⟨⟨x0,x1,x2,x3,x4,x5,x6,x7⟩,_⟩:=st_cells HT3.out.sb
    obtain ⟨⟨z0,z1,z2,z3,z4,z5,z6,z7⟩,_⟩:=st_cells HT3.out.tb
    go_wp2_with fail
    refine ((bareExpr_any e) B hx s.x y xa xc V3 HXo (by have:=HT3.out.bel.size; omega) (ExIn.same (fun b o hb => same_below HT3.out.bel b o (by omega)) hx s.x xa HXi.out) HY).mono ?_
    rintro ee w1 ⟨ya,yc,rfl,hq1,hb1⟩
    have HT4a:Hid (TAt wr w1 (stS s xa xc ba bc ea ec) (sttO s.kind s.name 0 0 ⟨#[]⟩ nilV nilV nilV)):=HT3.out.call hb1
    have hQa:ExQ (fun b => wr.heap.size + 1 < b ∧ b < w1.heap.size) w1 e y ya:=hq1.keep (fun b hb => ⟨⟨by have:=HT3.out.lt; omega,hb.2⟩,rfl⟩)
    obtain ⟨V4,hV4⟩:∃ V4,(((w1.setCell ⟨wr.heap.size + 1,2,none⟩ (.int .i64 y.kind)).setCell ⟨wr.heap.size + 1,3,none⟩ (.int .i64 y.n)).setCell ⟨wr.heap.size + 1,4,none⟩ (.string y.name)).setCell ⟨wr.heap.size + 1,5,none⟩ (.slice ya y.kids.length yc) = V4:=⟨_,rfl⟩
    have HT4:Hid (TAt wr V4 (stS s xa xc ba bc ea ec) (sttO s.kind s.name y.kind y.n y.name (.slice ya y.kids.length yc) nilV nilV)):=by rw [← hV4]; exact HT4a.out.setX y ya yc
    have hz4:V4.heap.size = w1.heap.size:=by rw [← hV4]; simp only [World.setCell_size]
    have HQ4:Hid (ExQ (fun b => wr.heap.size + 1 < b ∧ b < V4.heap.size) V4 e y ya):=by rw [hz4,← hV4]; exact exq_far (exq_far (exq_far (exq_far hQa)))
    clear s0 s1 s2 s3 s4 s5 s6 s7 t0 t1 t2 t3 t4 t5 t6 t7 g0 g1 g2 g3 g4 g5 g6 g7
    clear x0 x1 x2 x3 x4 x5 x6 x7 z0 z1 z2 z3 z4 z5 z6 z7 hV3
    obtain ⟨⟨s0,s1,s2,s3,s4,s5,s6,s7⟩,_⟩:=st_cells HT4a.out.sb
    obtain ⟨⟨t0,t1,t2,t3,t4,t5,t6,t7⟩,g0,g1,g2,g3,g4,g5,g6,g7⟩:=st_cells HT4a.out.tb
    obtain ⟨⟨x0,x1,x2,x3,x4,x5,x6,x7⟩,_⟩:=st_cells HT4.out.sb
    obtain ⟨⟨z0,z1,z2,z3,z4,z5,z6,z7⟩,_⟩:=st_cells HT4.out.tb
    clear hq1 hb1 hQa hz4
    obtain ⟨IT,hIT⟩:∃ IT:Itm8,IT = (⟨s.kind,s.name,y,[],[]⟩,(ya,yc),(none,0),(none,0)):=⟨_,rfl⟩
    have HC:Hid (itc8 IT = [.int .i64 s.kind,.string s.name,.int .i64 y.kind,.int .i64 y.n,.string y.name,(.slice ya y.kids.length yc),nilV,nilV]):=by rw [hIT]; rfl
    have HI1:Hid (IT.1 = Sy.stB (e + 1) s):=by rw [hIT]; exact HS.out
    have HQf:Hid (StQ (fun b => wr.heap.size ≤ b ∧ b < V4.heap.size) V4 (e + 1) IT.1 IT.2.1.1 IT.2.2.1.1 IT.2.2.2.1):=by
     rw [hIT]
     exact ⟨HNm.out,⟨_,HQ4.out.keep (fun b hb => ⟨⟨by omega,hb.2⟩,rfl⟩)⟩,Nat.zero_le _,Nat.zero_le _,RowQ.nil _ _ _ _,RowQ.nil _ _ _ _⟩
    have HOf:Hid ((V4.alloc (.cells (itc8 IT).toArray 94)).ownsRow w.heap.size 94 8 u3 its.length (cells8 its)):=(HA.out.own.kept (row:=none) ⟨HT4.out.bel.os,HT4.out.bel.tape,HT4.out.bel.output,HT4.out.bel.size,fun k hk _ => HT4.out.bel.block k hk⟩ (by cases hv:u3.ownBlock with | none => exact .inl rfl | some _ => exact .inr (by simp))).alloc _
    have hzf:=HT4.out.bel.size
    clear hIT
    go_wp2_with (first | (at_builtin; refine wpList_append_where rfl _ _ 33 rfl w.heap.size 94 i0 _ 8 128 Tryz.underlying33 hi hz0 hz1 hz2 rfl (by decide) u3 its.length (cells8 its) rfl (by first | (have h9:=HOf.out; rw [HC.out] at h9; exact h9)) ⟨_,0,none⟩ 1 1 (itc8 IT) rfl (by rw [HC.out]; rfl) (by have h9:=itc8_news V4 IT 94; rw [HC.out] at h9 ⊢; exact h9) (itc8_one IT) (by decide) (by unfold maxLen; omega) (by omega) (by simp; omega) ?_; intro g cap w4 hown4 hg4 hw4; have HA4:=hideX (HA.out.more (it:=IT) (T:=94) HT4.out.bel HI1.out HQf.out hown4 (by rw [HC.out]; exact hg4) (by rw [HC.out]; exact hw4)); clear hown4 hg4 hw4))
    go_roundw
    case rel =>
     refine ⟨its ++ [IT],_,rfl,by simp; omega,by simp,?_⟩
     have ht:(its ++ [IT]).length = its.length + 1:=by simp
     rw [ht,HSn.out]
     exact HA4.out
    case measure => simp [intOf]; omega
   ·have e1:(s.kind == 1) = false:=by simp [hk]
    have e2:(s.kind == 2) = true:=by simp [hk]
    have e6:(s.kind != 6) = true:=by simp [hk]
    have e3:(s.kind == 3) = false:=by simp [hk]
    have e4:(s.kind == 4) = false:=by simp [hk]
    have HS:Hid ((⟨s.kind,s.name,y,[],[]⟩:Sy.St) = Sy.stB (e + 1) s):=by
     have h0:Sy.stB (e + 1) s = ⟨s.kind,s.name,y,[],[]⟩:=by
      rw [Sy.stB,HY.out]
      simp [hk]
     exact h0.symm
    have HXo:Hid (Sy.LmE e s.x):=HK4.out
    have hnm:(s.name:ByteArray).size ≤ maxLen:=HNS.out
    have HNm:=hideX hnm
    clear hk hnm
    obtain ⟨V3,hV3⟩:∃ V3,V2.setCell ⟨wr.heap.size + 1,1,none⟩ (.string s.name) = V3:=⟨_,rfl⟩
    have HT3:Hid (TAt wr V3 (stS s xa xc ba bc ea ec) (sttO s.kind s.name 0 0 ⟨#[]⟩ nilV nilV nilV)):=by rw [← hV3]; exact HT2.out.set (stt_set1 HT2.out.tb s.name)
    obtain ⟨⟨x0,x1,x2,x3,x4,x5,x6,x7⟩,_⟩:=st_cells HT3.out.sb
    obtain ⟨⟨z0,z1,z2,z3,z4,z5,z6,z7⟩,_⟩:=st_cells HT3.out.tb
    go_wp2_with fail
    refine ((bareExpr_any e) B hx s.x y xa xc V3 HXo (by have:=HT3.out.bel.size; omega) (ExIn.same (fun b o hb => same_below HT3.out.bel b o (by omega)) hx s.x xa HXi.out) HY).mono ?_
    rintro ee w1 ⟨ya,yc,rfl,hq1,hb1⟩
    have HT4a:Hid (TAt wr w1 (stS s xa xc ba bc ea ec) (sttO s.kind s.name 0 0 ⟨#[]⟩ nilV nilV nilV)):=HT3.out.call hb1
    have hQa:ExQ (fun b => wr.heap.size + 1 < b ∧ b < w1.heap.size) w1 e y ya:=hq1.keep (fun b hb => ⟨⟨by have:=HT3.out.lt; omega,hb.2⟩,rfl⟩)
    obtain ⟨V4,hV4⟩:∃ V4,(((w1.setCell ⟨wr.heap.size + 1,2,none⟩ (.int .i64 y.kind)).setCell ⟨wr.heap.size + 1,3,none⟩ (.int .i64 y.n)).setCell ⟨wr.heap.size + 1,4,none⟩ (.string y.name)).setCell ⟨wr.heap.size + 1,5,none⟩ (.slice ya y.kids.length yc) = V4:=⟨_,rfl⟩
    have HT4:Hid (TAt wr V4 (stS s xa xc ba bc ea ec) (sttO s.kind s.name y.kind y.n y.name (.slice ya y.kids.length yc) nilV nilV)):=by rw [← hV4]; exact HT4a.out.setX y ya yc
    have hz4:V4.heap.size = w1.heap.size:=by rw [← hV4]; simp only [World.setCell_size]
    have HQ4:Hid (ExQ (fun b => wr.heap.size + 1 < b ∧ b < V4.heap.size) V4 e y ya):=by rw [hz4,← hV4]; exact exq_far (exq_far (exq_far (exq_far hQa)))
    clear s0 s1 s2 s3 s4 s5 s6 s7 t0 t1 t2 t3 t4 t5 t6 t7 g0 g1 g2 g3 g4 g5 g6 g7
    clear x0 x1 x2 x3 x4 x5 x6 x7 z0 z1 z2 z3 z4 z5 z6 z7 hV3
    obtain ⟨⟨s0,s1,s2,s3,s4,s5,s6,s7⟩,_⟩:=st_cells HT4a.out.sb
    obtain ⟨⟨t0,t1,t2,t3,t4,t5,t6,t7⟩,g0,g1,g2,g3,g4,g5,g6,g7⟩:=st_cells HT4a.out.tb
    obtain ⟨⟨x0,x1,x2,x3,x4,x5,x6,x7⟩,_⟩:=st_cells HT4.out.sb
    obtain ⟨⟨z0,z1,z2,z3,z4,z5,z6,z7⟩,_⟩:=st_cells HT4.out.tb
    clear hq1 hb1 hQa hz4
    obtain ⟨IT,hIT⟩:∃ IT:Itm8,IT = (⟨s.kind,s.name,y,[],[]⟩,(ya,yc),(none,0),(none,0)):=⟨_,rfl⟩
    have HC:Hid (itc8 IT = [.int .i64 s.kind,.string s.name,.int .i64 y.kind,.int .i64 y.n,.string y.name,(.slice ya y.kids.length yc),nilV,nilV]):=by rw [hIT]; rfl
    have HI1:Hid (IT.1 = Sy.stB (e + 1) s):=by rw [hIT]; exact HS.out
    have HQf:Hid (StQ (fun b => wr.heap.size ≤ b ∧ b < V4.heap.size) V4 (e + 1) IT.1 IT.2.1.1 IT.2.2.1.1 IT.2.2.2.1):=by
     rw [hIT]
     exact ⟨HNm.out,⟨_,HQ4.out.keep (fun b hb => ⟨⟨by omega,hb.2⟩,rfl⟩)⟩,Nat.zero_le _,Nat.zero_le _,RowQ.nil _ _ _ _,RowQ.nil _ _ _ _⟩
    have HOf:Hid ((V4.alloc (.cells (itc8 IT).toArray 94)).ownsRow w.heap.size 94 8 u3 its.length (cells8 its)):=(HA.out.own.kept (row:=none) ⟨HT4.out.bel.os,HT4.out.bel.tape,HT4.out.bel.output,HT4.out.bel.size,fun k hk _ => HT4.out.bel.block k hk⟩ (by cases hv:u3.ownBlock with | none => exact .inl rfl | some _ => exact .inr (by simp))).alloc _
    have hzf:=HT4.out.bel.size
    clear hIT
    go_wp2_with (first | (at_builtin; refine wpList_append_where rfl _ _ 33 rfl w.heap.size 94 i0 _ 8 128 Tryz.underlying33 hi hz0 hz1 hz2 rfl (by decide) u3 its.length (cells8 its) rfl (by first | (have h9:=HOf.out; rw [HC.out] at h9; exact h9)) ⟨_,0,none⟩ 1 1 (itc8 IT) rfl (by rw [HC.out]; rfl) (by have h9:=itc8_news V4 IT 94; rw [HC.out] at h9 ⊢; exact h9) (itc8_one IT) (by decide) (by unfold maxLen; omega) (by omega) (by simp; omega) ?_; intro g cap w4 hown4 hg4 hw4; have HA4:=hideX (HA.out.more (it:=IT) (T:=94) HT4.out.bel HI1.out HQf.out hown4 (by rw [HC.out]; exact hg4) (by rw [HC.out]; exact hw4)); clear hown4 hg4 hw4))
    go_roundw
    case rel =>
     refine ⟨its ++ [IT],_,rfl,by simp; omega,by simp,?_⟩
     have ht:(its ++ [IT]).length = its.length + 1:=by simp
     rw [ht,HSn.out]
     exact HA4.out
    case measure => simp [intOf]; omega
   ·have e1:(s.kind == 1) = false:=by simp [hk]
    have e2:(s.kind == 2) = false:=by simp [hk]
    have e7:(s.kind == 7) = false:=by simp [hk]
    have e6:(s.kind != 6) = true:=by simp [hk]
    have e3:(s.kind == 3) = true:=by simp [hk]
    have HS:Hid ((⟨s.kind,⟨#[]⟩,y,bb,eb⟩:Sy.St) = Sy.stB (e + 1) s):=by
     have h0:Sy.stB (e + 1) s = ⟨s.kind,⟨#[]⟩,y,bb,eb⟩:=by
      rw [Sy.stB,HY.out,HBB.out,HEB.out]
      simp [hk]
     exact h0.symm
    have HXo:Hid (Sy.LmE e s.x):=HK4.out
    have HBo:=hideX (HK5.out)
    have hb50:=HBo.out.1
    have HEo:=hideX (HK6.out)
    have he50:=HEo.out.1
    have hnm:(⟨#[]⟩:ByteArray).size ≤ maxLen:=Nat.zero_le _
    have HNm:=hideX hnm
    clear hk hnm
    go_wp2_with fail
    refine ((bareExpr_any e) B hx s.x y xa xc V2 HXo (by have:=HT2.out.bel.size; omega) (ExIn.same (fun b o hb => same_below HT2.out.bel b o (by omega)) hx s.x xa HXi.out) HY).mono ?_
    rintro ee w1 ⟨ya,yc,rfl,hq1,hb1⟩
    have HT4a:Hid (TAt wr w1 (stS s xa xc ba bc ea ec) (sttO s.kind ⟨#[]⟩ 0 0 ⟨#[]⟩ nilV nilV nilV)):=HT2.out.call hb1
    have hQa:ExQ (fun b => wr.heap.size + 1 < b ∧ b < w1.heap.size) w1 e y ya:=hq1.keep (fun b hb => ⟨⟨by have:=HT2.out.lt; omega,hb.2⟩,rfl⟩)
    obtain ⟨V4,hV4⟩:∃ V4,(((w1.setCell ⟨wr.heap.size + 1,2,none⟩ (.int .i64 y.kind)).setCell ⟨wr.heap.size + 1,3,none⟩ (.int .i64 y.n)).setCell ⟨wr.heap.size + 1,4,none⟩ (.string y.name)).setCell ⟨wr.heap.size + 1,5,none⟩ (.slice ya y.kids.length yc) = V4:=⟨_,rfl⟩
    have HT4:Hid (TAt wr V4 (stS s xa xc ba bc ea ec) (sttO s.kind ⟨#[]⟩ y.kind y.n y.name (.slice ya y.kids.length yc) nilV nilV)):=by rw [← hV4]; exact HT4a.out.setX y ya yc
    have hz4:V4.heap.size = w1.heap.size:=by rw [← hV4]; simp only [World.setCell_size]
    have HQ4:Hid (ExQ (fun b => wr.heap.size + 1 < b ∧ b < V4.heap.size) V4 e y ya):=by rw [hz4,← hV4]; exact exq_far (exq_far (exq_far (exq_far hQa)))
    clear s0 s1 s2 s3 s4 s5 s6 s7 t0 t1 t2 t3 t4 t5 t6 t7 g0 g1 g2 g3 g4 g5 g6 g7
    obtain ⟨⟨s0,s1,s2,s3,s4,s5,s6,s7⟩,_⟩:=st_cells HT4a.out.sb
    obtain ⟨⟨t0,t1,t2,t3,t4,t5,t6,t7⟩,g0,g1,g2,g3,g4,g5,g6,g7⟩:=st_cells HT4a.out.tb
    obtain ⟨⟨x0,x1,x2,x3,x4,x5,x6,x7⟩,_⟩:=st_cells HT4.out.sb
    obtain ⟨⟨z0,z1,z2,z3,z4,z5,z6,z7⟩,_⟩:=st_cells HT4.out.tb
    clear hq1 hb1 hQa hz4
    go_wp2_with fail
    refine (HIs.out B h' s.body bb ba bc V4 HBo.out.2 hb50 (by have:=HT4.out.bel.size; omega) (BodyIn.same (fun b o hb => same_below HT4.out.bel b o (by omega)) HBi.out) HBB).mono ?_
    rintro ee w2 ⟨bba,bbc,rfl,hr2,hb2⟩
    have HT5a:Hid (TAt wr w2 (stS s xa xc ba bc ea ec) (sttO s.kind ⟨#[]⟩ y.kind y.n y.name (.slice ya y.kids.length yc) nilV nilV)):=HT4.out.call hb2
    obtain ⟨V5,hV5⟩:∃ V5,w2.setCell ⟨wr.heap.size + 1,6,none⟩ (.slice bba bb.length bbc) = V5:=⟨_,rfl⟩
    have HT5:Hid (TAt wr V5 (stS s xa xc ba bc ea ec) (sttO s.kind ⟨#[]⟩ y.kind y.n y.name (.slice ya y.kids.length yc) (.slice bba bb.length bbc) nilV)):=by rw [← hV5]; exact HT5a.out.set (stt_set6 HT5a.out.tb _)
    have hz5:V5.heap.size = w2.heap.size:=by rw [← hV5]; simp only [World.setCell_size]
    have HQ5:Hid (ExQ (fun b => wr.heap.size + 1 < b ∧ b < V5.heap.size) V5 e y ya):=by rw [hz5,← hV5]; exact exq_far (exq_call HQ4.out hb2)
    have HR5:Hid (RowP (wr.heap.size + 1) V5.heap.size V5 e bb bba):=by rw [hz5,← hV5]; exact row_far (row_made hr2 HT4.out.lt)
    clear s0 s1 s2 s3 s4 s5 s6 s7 t0 t1 t2 t3 t4 t5 t6 t7 g0 g1 g2 g3 g4 g5 g6 g7
    clear x0 x1 x2 x3 x4 x5 x6 x7 z0 z1 z2 z3 z4 z5 z6 z7 hV4
    obtain ⟨⟨s0,s1,s2,s3,s4,s5,s6,s7⟩,_⟩:=st_cells HT5a.out.sb
    obtain ⟨⟨t0,t1,t2,t3,t4,t5,t6,t7⟩,g0,g1,g2,g3,g4,g5,g6,g7⟩:=st_cells HT5a.out.tb
    obtain ⟨⟨x0,x1,x2,x3,x4,x5,x6,x7⟩,_⟩:=st_cells HT5.out.sb
    obtain ⟨⟨z0,z1,z2,z3,z4,z5,z6,z7⟩,_⟩:=st_cells HT5.out.tb
    clear hr2 hb2 hz5
    go_wp2_with fail
    refine (HIs.out B h' s.els eb ea ec V5 HEo.out.2 he50 (by have:=HT5.out.bel.size; omega) (BodyIn.same (fun b o hb => same_below HT5.out.bel b o (by omega)) HEi.out) HEB).mono ?_
    rintro ee w3 ⟨eba,ebc,rfl,hr3,hb3⟩
    have HT6a:Hid (TAt wr w3 (stS s xa xc ba bc ea ec) (sttO s.kind ⟨#[]⟩ y.kind y.n y.name (.slice ya y.kids.length yc) (.slice bba bb.length bbc) nilV)):=HT5.out.call hb3
    obtain ⟨V6,hV6⟩:∃ V6,w3.setCell ⟨wr.heap.size + 1,7,none⟩ (.slice eba eb.length ebc) = V6:=⟨_,rfl⟩
    have HT6:Hid (TAt wr V6 (stS s xa xc ba bc ea ec) (sttO s.kind ⟨#[]⟩ y.kind y.n y.name (.slice ya y.kids.length yc) (.slice bba bb.length bbc) (.slice eba eb.length ebc))):=by rw [← hV6]; exact HT6a.out.set (stt_set7 HT6a.out.tb _)
    have hz6:V6.heap.size = w3.heap.size:=by rw [← hV6]; simp only [World.setCell_size]
    have HQ6:Hid (ExQ (fun b => wr.heap.size + 1 < b ∧ b < V6.heap.size) V6 e y ya):=by rw [hz6,← hV6]; exact exq_far (exq_call HQ5.out hb3)
    have HR6:Hid (RowP (wr.heap.size + 1) V6.heap.size V6 e bb bba):=by rw [hz6,← hV6]; exact row_far (row_call HR5.out hb3)
    have HE6:Hid (RowP (wr.heap.size + 1) V6.heap.size V6 e eb eba):=by rw [hz6,← hV6]; exact row_far (row_made hr3 HT5.out.lt)
    clear s0 s1 s2 s3 s4 s5 s6 s7 t0 t1 t2 t3 t4 t5 t6 t7 g0 g1 g2 g3 g4 g5 g6 g7
    clear x0 x1 x2 x3 x4 x5 x6 x7 z0 z1 z2 z3 z4 z5 z6 z7 hV5
    obtain ⟨⟨s0,s1,s2,s3,s4,s5,s6,s7⟩,_⟩:=st_cells HT6a.out.sb
    obtain ⟨⟨t0,t1,t2,t3,t4,t5,t6,t7⟩,g0,g1,g2,g3,g4,g5,g6,g7⟩:=st_cells HT6a.out.tb
    obtain ⟨⟨x0,x1,x2,x3,x4,x5,x6,x7⟩,_⟩:=st_cells HT6.out.sb
    obtain ⟨⟨z0,z1,z2,z3,z4,z5,z6,z7⟩,_⟩:=st_cells HT6.out.tb
    clear hr3 hb3 hz6
    obtain ⟨IT,hIT⟩:∃ IT:Itm8,IT = (⟨s.kind,⟨#[]⟩,y,bb,eb⟩,(ya,yc),(bba,bbc),(eba,ebc)):=⟨_,rfl⟩
    have HC:Hid (itc8 IT = [.int .i64 s.kind,.string ⟨#[]⟩,.int .i64 y.kind,.int .i64 y.n,.string y.name,(.slice ya y.kids.length yc),(.slice bba bb.length bbc),(.slice eba eb.length ebc)]):=by rw [hIT]; rfl
    have HI1:Hid (IT.1 = Sy.stB (e + 1) s):=by rw [hIT]; exact HS.out
    have HQf:Hid (StQ (fun b => wr.heap.size ≤ b ∧ b < V6.heap.size) V6 (e + 1) IT.1 IT.2.1.1 IT.2.2.1.1 IT.2.2.2.1):=by
     rw [hIT]
     exact ⟨HNm.out,⟨_,HQ6.out.keep (fun b hb => ⟨⟨by omega,hb.2⟩,rfl⟩)⟩,by show bb.length ≤ maxLen; rw [HBB.out]; simp; unfold maxLen; omega,by show eb.length ≤ maxLen; rw [HEB.out]; simp; unfold maxLen; omega,HR6.out.keep (fun b hb => ⟨⟨by omega,hb.2⟩,rfl⟩) (fun _ _ _ _ => StQ.keep (fun b hb => ⟨⟨by omega,hb.2⟩,rfl⟩)),HE6.out.keep (fun b hb => ⟨⟨by omega,hb.2⟩,rfl⟩) (fun _ _ _ _ => StQ.keep (fun b hb => ⟨⟨by omega,hb.2⟩,rfl⟩))⟩
    have HOf:Hid ((V6.alloc (.cells (itc8 IT).toArray 94)).ownsRow w.heap.size 94 8 u3 its.length (cells8 its)):=(HA.out.own.kept (row:=none) ⟨HT6.out.bel.os,HT6.out.bel.tape,HT6.out.bel.output,HT6.out.bel.size,fun k hk _ => HT6.out.bel.block k hk⟩ (by cases hv:u3.ownBlock with | none => exact .inl rfl | some _ => exact .inr (by simp))).alloc _
    have hzf:=HT6.out.bel.size
    clear hIT
    go_wp2_with (first | (at_builtin; refine wpList_append_where rfl _ _ 33 rfl w.heap.size 94 i0 _ 8 128 Tryz.underlying33 hi hz0 hz1 hz2 rfl (by decide) u3 its.length (cells8 its) rfl (by first | (have h9:=HOf.out; rw [HC.out] at h9; exact h9)) ⟨_,0,none⟩ 1 1 (itc8 IT) rfl (by rw [HC.out]; rfl) (by have h9:=itc8_news V6 IT 94; rw [HC.out] at h9 ⊢; exact h9) (itc8_one IT) (by decide) (by unfold maxLen; omega) (by omega) (by simp; omega) ?_; intro g cap w4 hown4 hg4 hw4; have HA4:=hideX (HA.out.more (it:=IT) (T:=94) HT6.out.bel HI1.out HQf.out hown4 (by rw [HC.out]; exact hg4) (by rw [HC.out]; exact hw4)); clear hown4 hg4 hw4))
    go_roundw
    case rel =>
     refine ⟨its ++ [IT],_,rfl,by simp; omega,by simp,?_⟩
     have ht:(its ++ [IT]).length = its.length + 1:=by simp
     rw [ht,HSn.out]
     exact HA4.out
    case measure => simp [intOf]; omega
   ·have e1:(s.kind == 1) = false:=by simp [hk]
    have e2:(s.kind == 2) = false:=by simp [hk]
    have e7:(s.kind == 7) = false:=by simp [hk]
    have e6:(s.kind != 6) = true:=by simp [hk]
    have e3:(s.kind == 3) = false:=by simp [hk]
    have e4:(s.kind == 4) = true:=by simp [hk]
    have HS:Hid ((⟨s.kind,⟨#[]⟩,y,bb,[]⟩:Sy.St) = Sy.stB (e + 1) s):=by
     have h0:Sy.stB (e + 1) s = ⟨s.kind,⟨#[]⟩,y,bb,[]⟩:=by
      rw [Sy.stB,HY.out,HBB.out]
      simp [hk]
     exact h0.symm
    have HXo:Hid (Sy.LmE e s.x):=HK4.out
    have HBo:=hideX (HK5.out)
    have hb50:=HBo.out.1
    have hnm:(⟨#[]⟩:ByteArray).size ≤ maxLen:=Nat.zero_le _
    have HNm:=hideX hnm
    clear hk hnm
    go_wp2_with fail
    refine ((bareExpr_any e) B hx s.x y xa xc V2 HXo (by have:=HT2.out.bel.size; omega) (ExIn.same (fun b o hb => same_below HT2.out.bel b o (by omega)) hx s.x xa HXi.out) HY).mono ?_
    rintro ee w1 ⟨ya,yc,rfl,hq1,hb1⟩
    have HT4a:Hid (TAt wr w1 (stS s xa xc ba bc ea ec) (sttO s.kind ⟨#[]⟩ 0 0 ⟨#[]⟩ nilV nilV nilV)):=HT2.out.call hb1
    have hQa:ExQ (fun b => wr.heap.size + 1 < b ∧ b < w1.heap.size) w1 e y ya:=hq1.keep (fun b hb => ⟨⟨by have:=HT2.out.lt; omega,hb.2⟩,rfl⟩)
    obtain ⟨V4,hV4⟩:∃ V4,(((w1.setCell ⟨wr.heap.size + 1,2,none⟩ (.int .i64 y.kind)).setCell ⟨wr.heap.size + 1,3,none⟩ (.int .i64 y.n)).setCell ⟨wr.heap.size + 1,4,none⟩ (.string y.name)).setCell ⟨wr.heap.size + 1,5,none⟩ (.slice ya y.kids.length yc) = V4:=⟨_,rfl⟩
    have HT4:Hid (TAt wr V4 (stS s xa xc ba bc ea ec) (sttO s.kind ⟨#[]⟩ y.kind y.n y.name (.slice ya y.kids.length yc) nilV nilV)):=by rw [← hV4]; exact HT4a.out.setX y ya yc
    have hz4:V4.heap.size = w1.heap.size:=by rw [← hV4]; simp only [World.setCell_size]
    have HQ4:Hid (ExQ (fun b => wr.heap.size + 1 < b ∧ b < V4.heap.size) V4 e y ya):=by rw [hz4,← hV4]; exact exq_far (exq_far (exq_far (exq_far hQa)))
    clear s0 s1 s2 s3 s4 s5 s6 s7 t0 t1 t2 t3 t4 t5 t6 t7 g0 g1 g2 g3 g4 g5 g6 g7
    obtain ⟨⟨s0,s1,s2,s3,s4,s5,s6,s7⟩,_⟩:=st_cells HT4a.out.sb
    obtain ⟨⟨t0,t1,t2,t3,t4,t5,t6,t7⟩,g0,g1,g2,g3,g4,g5,g6,g7⟩:=st_cells HT4a.out.tb
    obtain ⟨⟨x0,x1,x2,x3,x4,x5,x6,x7⟩,_⟩:=st_cells HT4.out.sb
    obtain ⟨⟨z0,z1,z2,z3,z4,z5,z6,z7⟩,_⟩:=st_cells HT4.out.tb
    clear hq1 hb1 hQa hz4
    go_wp2_with fail
    refine (HIs.out B h' s.body bb ba bc V4 HBo.out.2 hb50 (by have:=HT4.out.bel.size; omega) (BodyIn.same (fun b o hb => same_below HT4.out.bel b o (by omega)) HBi.out) HBB).mono ?_
    rintro ee w2 ⟨bba,bbc,rfl,hr2,hb2⟩
    have HT5a:Hid (TAt wr w2 (stS s xa xc ba bc ea ec) (sttO s.kind ⟨#[]⟩ y.kind y.n y.name (.slice ya y.kids.length yc) nilV nilV)):=HT4.out.call hb2
    obtain ⟨V5,hV5⟩:∃ V5,w2.setCell ⟨wr.heap.size + 1,6,none⟩ (.slice bba bb.length bbc) = V5:=⟨_,rfl⟩
    have HT5:Hid (TAt wr V5 (stS s xa xc ba bc ea ec) (sttO s.kind ⟨#[]⟩ y.kind y.n y.name (.slice ya y.kids.length yc) (.slice bba bb.length bbc) nilV)):=by rw [← hV5]; exact HT5a.out.set (stt_set6 HT5a.out.tb _)
    have hz5:V5.heap.size = w2.heap.size:=by rw [← hV5]; simp only [World.setCell_size]
    have HQ5:Hid (ExQ (fun b => wr.heap.size + 1 < b ∧ b < V5.heap.size) V5 e y ya):=by rw [hz5,← hV5]; exact exq_far (exq_call HQ4.out hb2)
    have HR5:Hid (RowP (wr.heap.size + 1) V5.heap.size V5 e bb bba):=by rw [hz5,← hV5]; exact row_far (row_made hr2 HT4.out.lt)
    clear s0 s1 s2 s3 s4 s5 s6 s7 t0 t1 t2 t3 t4 t5 t6 t7 g0 g1 g2 g3 g4 g5 g6 g7
    clear x0 x1 x2 x3 x4 x5 x6 x7 z0 z1 z2 z3 z4 z5 z6 z7 hV4
    obtain ⟨⟨s0,s1,s2,s3,s4,s5,s6,s7⟩,_⟩:=st_cells HT5a.out.sb
    obtain ⟨⟨t0,t1,t2,t3,t4,t5,t6,t7⟩,g0,g1,g2,g3,g4,g5,g6,g7⟩:=st_cells HT5a.out.tb
    obtain ⟨⟨x0,x1,x2,x3,x4,x5,x6,x7⟩,_⟩:=st_cells HT5.out.sb
    obtain ⟨⟨z0,z1,z2,z3,z4,z5,z6,z7⟩,_⟩:=st_cells HT5.out.tb
    clear hr2 hb2 hz5
    obtain ⟨IT,hIT⟩:∃ IT:Itm8,IT = (⟨s.kind,⟨#[]⟩,y,bb,[]⟩,(ya,yc),(bba,bbc),(none,0)):=⟨_,rfl⟩
    have HC:Hid (itc8 IT = [.int .i64 s.kind,.string ⟨#[]⟩,.int .i64 y.kind,.int .i64 y.n,.string y.name,(.slice ya y.kids.length yc),(.slice bba bb.length bbc),nilV]):=by rw [hIT]; rfl
    have HI1:Hid (IT.1 = Sy.stB (e + 1) s):=by rw [hIT]; exact HS.out
    have HQf:Hid (StQ (fun b => wr.heap.size ≤ b ∧ b < V5.heap.size) V5 (e + 1) IT.1 IT.2.1.1 IT.2.2.1.1 IT.2.2.2.1):=by
     rw [hIT]
     exact ⟨HNm.out,⟨_,HQ5.out.keep (fun b hb => ⟨⟨by omega,hb.2⟩,rfl⟩)⟩,by show bb.length ≤ maxLen; rw [HBB.out]; simp; unfold maxLen; omega,Nat.zero_le _,HR5.out.keep (fun b hb => ⟨⟨by omega,hb.2⟩,rfl⟩) (fun _ _ _ _ => StQ.keep (fun b hb => ⟨⟨by omega,hb.2⟩,rfl⟩)),RowQ.nil _ _ _ _⟩
    have HOf:Hid ((V5.alloc (.cells (itc8 IT).toArray 94)).ownsRow w.heap.size 94 8 u3 its.length (cells8 its)):=(HA.out.own.kept (row:=none) ⟨HT5.out.bel.os,HT5.out.bel.tape,HT5.out.bel.output,HT5.out.bel.size,fun k hk _ => HT5.out.bel.block k hk⟩ (by cases hv:u3.ownBlock with | none => exact .inl rfl | some _ => exact .inr (by simp))).alloc _
    have hzf:=HT5.out.bel.size
    clear hIT
    go_wp2_with (first | (at_builtin; refine wpList_append_where rfl _ _ 33 rfl w.heap.size 94 i0 _ 8 128 Tryz.underlying33 hi hz0 hz1 hz2 rfl (by decide) u3 its.length (cells8 its) rfl (by first | (have h9:=HOf.out; rw [HC.out] at h9; exact h9)) ⟨_,0,none⟩ 1 1 (itc8 IT) rfl (by rw [HC.out]; rfl) (by have h9:=itc8_news V5 IT 94; rw [HC.out] at h9 ⊢; exact h9) (itc8_one IT) (by decide) (by unfold maxLen; omega) (by omega) (by simp; omega) ?_; intro g cap w4 hown4 hg4 hw4; have HA4:=hideX (HA.out.more (it:=IT) (T:=94) HT5.out.bel HI1.out HQf.out hown4 (by rw [HC.out]; exact hg4) (by rw [HC.out]; exact hw4)); clear hown4 hg4 hw4))
    go_roundw
    case rel =>
     refine ⟨its ++ [IT],_,rfl,by simp; omega,by simp,?_⟩
     have ht:(its ++ [IT]).length = its.length + 1:=by simp
     rw [ht,HSn.out]
     exact HA4.out
    case measure => simp [intOf]; omega
   ·have e1:(s.kind == 1) = false:=by simp [hk]
    have e2:(s.kind == 2) = false:=by simp [hk]
    have e7:(s.kind == 7) = false:=by simp [hk]
    have e6:(s.kind != 6) = true:=by simp [hk]
    have e3:(s.kind == 3) = false:=by simp [hk]
    have e4:(s.kind == 4) = false:=by simp [hk]
    have HS:Hid ((⟨s.kind,⟨#[]⟩,y,[],[]⟩:Sy.St) = Sy.stB (e + 1) s):=by
     have h0:Sy.stB (e + 1) s = ⟨s.kind,⟨#[]⟩,y,[],[]⟩:=by
      rw [Sy.stB,HY.out]
      simp [hk]
     exact h0.symm
    have HXo:Hid (Sy.LmE e s.x):=HK4.out
    have hnm:(⟨#[]⟩:ByteArray).size ≤ maxLen:=Nat.zero_le _
    have HNm:=hideX hnm
    clear hk hnm
    go_wp2_with fail
    refine ((bareExpr_any e) B hx s.x y xa xc V2 HXo (by have:=HT2.out.bel.size; omega) (ExIn.same (fun b o hb => same_below HT2.out.bel b o (by omega)) hx s.x xa HXi.out) HY).mono ?_
    rintro ee w1 ⟨ya,yc,rfl,hq1,hb1⟩
    have HT4a:Hid (TAt wr w1 (stS s xa xc ba bc ea ec) (sttO s.kind ⟨#[]⟩ 0 0 ⟨#[]⟩ nilV nilV nilV)):=HT2.out.call hb1
    have hQa:ExQ (fun b => wr.heap.size + 1 < b ∧ b < w1.heap.size) w1 e y ya:=hq1.keep (fun b hb => ⟨⟨by have:=HT2.out.lt; omega,hb.2⟩,rfl⟩)
    obtain ⟨V4,hV4⟩:∃ V4,(((w1.setCell ⟨wr.heap.size + 1,2,none⟩ (.int .i64 y.kind)).setCell ⟨wr.heap.size + 1,3,none⟩ (.int .i64 y.n)).setCell ⟨wr.heap.size + 1,4,none⟩ (.string y.name)).setCell ⟨wr.heap.size + 1,5,none⟩ (.slice ya y.kids.length yc) = V4:=⟨_,rfl⟩
    have HT4:Hid (TAt wr V4 (stS s xa xc ba bc ea ec) (sttO s.kind ⟨#[]⟩ y.kind y.n y.name (.slice ya y.kids.length yc) nilV nilV)):=by rw [← hV4]; exact HT4a.out.setX y ya yc
    have hz4:V4.heap.size = w1.heap.size:=by rw [← hV4]; simp only [World.setCell_size]
    have HQ4:Hid (ExQ (fun b => wr.heap.size + 1 < b ∧ b < V4.heap.size) V4 e y ya):=by rw [hz4,← hV4]; exact exq_far (exq_far (exq_far (exq_far hQa)))
    clear s0 s1 s2 s3 s4 s5 s6 s7 t0 t1 t2 t3 t4 t5 t6 t7 g0 g1 g2 g3 g4 g5 g6 g7
    obtain ⟨⟨s0,s1,s2,s3,s4,s5,s6,s7⟩,_⟩:=st_cells HT4a.out.sb
    obtain ⟨⟨t0,t1,t2,t3,t4,t5,t6,t7⟩,g0,g1,g2,g3,g4,g5,g6,g7⟩:=st_cells HT4a.out.tb
    obtain ⟨⟨x0,x1,x2,x3,x4,x5,x6,x7⟩,_⟩:=st_cells HT4.out.sb
    obtain ⟨⟨z0,z1,z2,z3,z4,z5,z6,z7⟩,_⟩:=st_cells HT4.out.tb
    clear hq1 hb1 hQa hz4
    obtain ⟨IT,hIT⟩:∃ IT:Itm8,IT = (⟨s.kind,⟨#[]⟩,y,[],[]⟩,(ya,yc),(none,0),(none,0)):=⟨_,rfl⟩
    have HC:Hid (itc8 IT = [.int .i64 s.kind,.string ⟨#[]⟩,.int .i64 y.kind,.int .i64 y.n,.string y.name,(.slice ya y.kids.length yc),nilV,nilV]):=by rw [hIT]; rfl
    have HI1:Hid (IT.1 = Sy.stB (e + 1) s):=by rw [hIT]; exact HS.out
    have HQf:Hid (StQ (fun b => wr.heap.size ≤ b ∧ b < V4.heap.size) V4 (e + 1) IT.1 IT.2.1.1 IT.2.2.1.1 IT.2.2.2.1):=by
     rw [hIT]
     exact ⟨HNm.out,⟨_,HQ4.out.keep (fun b hb => ⟨⟨by omega,hb.2⟩,rfl⟩)⟩,Nat.zero_le _,Nat.zero_le _,RowQ.nil _ _ _ _,RowQ.nil _ _ _ _⟩
    have HOf:Hid ((V4.alloc (.cells (itc8 IT).toArray 94)).ownsRow w.heap.size 94 8 u3 its.length (cells8 its)):=(HA.out.own.kept (row:=none) ⟨HT4.out.bel.os,HT4.out.bel.tape,HT4.out.bel.output,HT4.out.bel.size,fun k hk _ => HT4.out.bel.block k hk⟩ (by cases hv:u3.ownBlock with | none => exact .inl rfl | some _ => exact .inr (by simp))).alloc _
    have hzf:=HT4.out.bel.size
    clear hIT
    go_wp2_with (first | (at_builtin; refine wpList_append_where rfl _ _ 33 rfl w.heap.size 94 i0 _ 8 128 Tryz.underlying33 hi hz0 hz1 hz2 rfl (by decide) u3 its.length (cells8 its) rfl (by first | (have h9:=HOf.out; rw [HC.out] at h9; exact h9)) ⟨_,0,none⟩ 1 1 (itc8 IT) rfl (by rw [HC.out]; rfl) (by have h9:=itc8_news V4 IT 94; rw [HC.out] at h9 ⊢; exact h9) (itc8_one IT) (by decide) (by unfold maxLen; omega) (by omega) (by simp; omega) ?_; intro g cap w4 hown4 hg4 hw4; have HA4:=hideX (HA.out.more (it:=IT) (T:=94) HT4.out.bel HI1.out HQf.out hown4 (by rw [HC.out]; exact hg4) (by rw [HC.out]; exact hw4)); clear hown4 hg4 hw4))
    go_roundw
    case rel =>
     refine ⟨its ++ [IT],_,rfl,by simp; omega,by simp,?_⟩
     have ht:(its ++ [IT]).length = its.length + 1:=by simp
     rw [ht,HSn.out]
     exact HA4.out
    case measure => simp [intOf]; omega
   ·have e1:(s.kind == 1) = false:=by simp [hk]
    have e2:(s.kind == 2) = false:=by simp [hk]
    have e7:(s.kind == 7) = false:=by simp [hk]
    have e6:(s.kind != 6) = false:=by simp [hk]
    have e3:(s.kind == 3) = false:=by simp [hk]
    have e4:(s.kind == 4) = false:=by simp [hk]
    have HS:Hid ((⟨s.kind,⟨#[]⟩,⟨0,0,⟨#[]⟩,[]⟩,[],[]⟩:Sy.St) = Sy.stB (e + 1) s):=by
     have h0:Sy.stB (e + 1) s = ⟨s.kind,⟨#[]⟩,⟨0,0,⟨#[]⟩,[]⟩,[],[]⟩:=by
      rw [Sy.stB]
      simp [hk]
     exact h0.symm
    have hnm:(⟨#[]⟩:ByteArray).size ≤ maxLen:=Nat.zero_le _
    have HNm:=hideX hnm
    clear hk hnm
    obtain ⟨IT,hIT⟩:∃ IT:Itm8,IT = (⟨s.kind,⟨#[]⟩,⟨0,0,⟨#[]⟩,[]⟩,[],[]⟩,(none,0),(none,0),(none,0)):=⟨_,rfl⟩
    have HC:Hid (itc8 IT = [.int .i64 s.kind,.string ⟨#[]⟩,.int .i64 0,.int .i64 0,.string ⟨#[]⟩,nilV,nilV,nilV]):=by rw [hIT]; rfl
    have HI1:Hid (IT.1 = Sy.stB (e + 1) s):=by rw [hIT]; exact HS.out
    have HQf:Hid (StQ (fun b => wr.heap.size ≤ b ∧ b < V2.heap.size) V2 (e + 1) IT.1 IT.2.1.1 IT.2.2.1.1 IT.2.2.2.1):=by
     rw [hIT]
     exact ⟨HNm.out,⟨_,ExQ.leaf _ _ _ _ _ (Nat.zero_le _) _⟩,Nat.zero_le _,Nat.zero_le _,RowQ.nil _ _ _ _,RowQ.nil _ _ _ _⟩
    have HOf:Hid ((V2.alloc (.cells (itc8 IT).toArray 94)).ownsRow w.heap.size 94 8 u3 its.length (cells8 its)):=(HA.out.own.kept (row:=none) ⟨HT2.out.bel.os,HT2.out.bel.tape,HT2.out.bel.output,HT2.out.bel.size,fun k hk _ => HT2.out.bel.block k hk⟩ (by cases hv:u3.ownBlock with | none => exact .inl rfl | some _ => exact .inr (by simp))).alloc _
    have hzf:=HT2.out.bel.size
    clear hIT
    go_wp2_with (first | (at_builtin; refine wpList_append_where rfl _ _ 33 rfl w.heap.size 94 i0 _ 8 128 Tryz.underlying33 hi hz0 hz1 hz2 rfl (by decide) u3 its.length (cells8 its) rfl (by first | (have h9:=HOf.out; rw [HC.out] at h9; exact h9)) ⟨_,0,none⟩ 1 1 (itc8 IT) rfl (by rw [HC.out]; rfl) (by have h9:=itc8_news V2 IT 94; rw [HC.out] at h9 ⊢; exact h9) (itc8_one IT) (by decide) (by unfold maxLen; omega) (by omega) (by simp; omega) ?_; intro g cap w4 hown4 hg4 hw4; have HA4:=hideX (HA.out.more (it:=IT) (T:=94) HT2.out.bel HI1.out HQf.out hown4 (by rw [HC.out]; exact hg4) (by rw [HC.out]; exact hw4)); clear hown4 hg4 hw4))
    go_roundw
    case rel =>
     refine ⟨its ++ [IT],_,rfl,by simp; omega,by simp,?_⟩
     have ht:(its ++ [IT]).length = its.length + 1:=by simp
     rw [ht,HSn.out]
     exact HA4.out
    case measure => simp [intOf]; omega
   ·have e1:(s.kind == 1) = false:=by simp [hk]
    have e2:(s.kind == 2) = false:=by simp [hk]
    have e7:(s.kind == 7) = true:=by simp [hk]
    have e6:(s.kind != 6) = true:=by simp [hk]
    have e3:(s.kind == 3) = false:=by simp [hk]
    have e4:(s.kind == 4) = false:=by simp [hk]
    have HS:Hid ((⟨s.kind,s.name,y,[],[]⟩:Sy.St) = Sy.stB (e + 1) s):=by
     have h0:Sy.stB (e + 1) s = ⟨s.kind,s.name,y,[],[]⟩:=by
      rw [Sy.stB,HY.out]
      simp [hk]
     exact h0.symm
    have HXo:Hid (Sy.LmE e s.x):=HK4.out
    have hnm:(s.name:ByteArray).size ≤ maxLen:=HNS.out
    have HNm:=hideX hnm
    clear hk hnm
    obtain ⟨V3,hV3⟩:∃ V3,V2.setCell ⟨wr.heap.size + 1,1,none⟩ (.string s.name) = V3:=⟨_,rfl⟩
    have HT3:Hid (TAt wr V3 (stS s xa xc ba bc ea ec) (sttO s.kind s.name 0 0 ⟨#[]⟩ nilV nilV nilV)):=by rw [← hV3]; exact HT2.out.set (stt_set1 HT2.out.tb s.name)
    obtain ⟨⟨x0,x1,x2,x3,x4,x5,x6,x7⟩,_⟩:=st_cells HT3.out.sb
    obtain ⟨⟨z0,z1,z2,z3,z4,z5,z6,z7⟩,_⟩:=st_cells HT3.out.tb
    go_wp2_with fail
    refine ((bareExpr_any e) B hx s.x y xa xc V3 HXo (by have:=HT3.out.bel.size; omega) (ExIn.same (fun b o hb => same_below HT3.out.bel b o (by omega)) hx s.x xa HXi.out) HY).mono ?_
    rintro ee w1 ⟨ya,yc,rfl,hq1,hb1⟩
    have HT4a:Hid (TAt wr w1 (stS s xa xc ba bc ea ec) (sttO s.kind s.name 0 0 ⟨#[]⟩ nilV nilV nilV)):=HT3.out.call hb1
    have hQa:ExQ (fun b => wr.heap.size + 1 < b ∧ b < w1.heap.size) w1 e y ya:=hq1.keep (fun b hb => ⟨⟨by have:=HT3.out.lt; omega,hb.2⟩,rfl⟩)
    obtain ⟨V4,hV4⟩:∃ V4,(((w1.setCell ⟨wr.heap.size + 1,2,none⟩ (.int .i64 y.kind)).setCell ⟨wr.heap.size + 1,3,none⟩ (.int .i64 y.n)).setCell ⟨wr.heap.size + 1,4,none⟩ (.string y.name)).setCell ⟨wr.heap.size + 1,5,none⟩ (.slice ya y.kids.length yc) = V4:=⟨_,rfl⟩
    have HT4:Hid (TAt wr V4 (stS s xa xc ba bc ea ec) (sttO s.kind s.name y.kind y.n y.name (.slice ya y.kids.length yc) nilV nilV)):=by rw [← hV4]; exact HT4a.out.setX y ya yc
    have hz4:V4.heap.size = w1.heap.size:=by rw [← hV4]; simp only [World.setCell_size]
    have HQ4:Hid (ExQ (fun b => wr.heap.size + 1 < b ∧ b < V4.heap.size) V4 e y ya):=by rw [hz4,← hV4]; exact exq_far (exq_far (exq_far (exq_far hQa)))
    clear s0 s1 s2 s3 s4 s5 s6 s7 t0 t1 t2 t3 t4 t5 t6 t7 g0 g1 g2 g3 g4 g5 g6 g7
    clear x0 x1 x2 x3 x4 x5 x6 x7 z0 z1 z2 z3 z4 z5 z6 z7 hV3
    obtain ⟨⟨s0,s1,s2,s3,s4,s5,s6,s7⟩,_⟩:=st_cells HT4a.out.sb
    obtain ⟨⟨t0,t1,t2,t3,t4,t5,t6,t7⟩,g0,g1,g2,g3,g4,g5,g6,g7⟩:=st_cells HT4a.out.tb
    obtain ⟨⟨x0,x1,x2,x3,x4,x5,x6,x7⟩,_⟩:=st_cells HT4.out.sb
    obtain ⟨⟨z0,z1,z2,z3,z4,z5,z6,z7⟩,_⟩:=st_cells HT4.out.tb
    clear hq1 hb1 hQa hz4
    obtain ⟨IT,hIT⟩:∃ IT:Itm8,IT = (⟨s.kind,s.name,y,[],[]⟩,(ya,yc),(none,0),(none,0)):=⟨_,rfl⟩
    have HC:Hid (itc8 IT = [.int .i64 s.kind,.string s.name,.int .i64 y.kind,.int .i64 y.n,.string y.name,(.slice ya y.kids.length yc),nilV,nilV]):=by rw [hIT]; rfl
    have HI1:Hid (IT.1 = Sy.stB (e + 1) s):=by rw [hIT]; exact HS.out
    have HQf:Hid (StQ (fun b => wr.heap.size ≤ b ∧ b < V4.heap.size) V4 (e + 1) IT.1 IT.2.1.1 IT.2.2.1.1 IT.2.2.2.1):=by
     rw [hIT]
     exact ⟨HNm.out,⟨_,HQ4.out.keep (fun b hb => ⟨⟨by omega,hb.2⟩,rfl⟩)⟩,Nat.zero_le _,Nat.zero_le _,RowQ.nil _ _ _ _,RowQ.nil _ _ _ _⟩
    have HOf:Hid ((V4.alloc (.cells (itc8 IT).toArray 94)).ownsRow w.heap.size 94 8 u3 its.length (cells8 its)):=(HA.out.own.kept (row:=none) ⟨HT4.out.bel.os,HT4.out.bel.tape,HT4.out.bel.output,HT4.out.bel.size,fun k hk _ => HT4.out.bel.block k hk⟩ (by cases hv:u3.ownBlock with | none => exact .inl rfl | some _ => exact .inr (by simp))).alloc _
    have hzf:=HT4.out.bel.size
    clear hIT
    go_wp2_with (first | (at_builtin; refine wpList_append_where rfl _ _ 33 rfl w.heap.size 94 i0 _ 8 128 Tryz.underlying33 hi hz0 hz1 hz2 rfl (by decide) u3 its.length (cells8 its) rfl (by first | (have h9:=HOf.out; rw [HC.out] at h9; exact h9)) ⟨_,0,none⟩ 1 1 (itc8 IT) rfl (by rw [HC.out]; rfl) (by have h9:=itc8_news V4 IT 94; rw [HC.out] at h9 ⊢; exact h9) (itc8_one IT) (by decide) (by unfold maxLen; omega) (by omega) (by simp; omega) ?_; intro g cap w4 hown4 hg4 hw4; have HA4:=hideX (HA.out.more (it:=IT) (T:=94) HT4.out.bel HI1.out HQf.out hown4 (by rw [HC.out]; exact hg4) (by rw [HC.out]; exact hw4)); clear hown4 hg4 hw4))
    go_roundw
    case rel =>
     refine ⟨its ++ [IT],_,rfl,by simp; omega,by simp,?_⟩
     have ht:(its ++ [IT]).length = its.length + 1:=by simp
     rw [ht,HSn.out]
     exact HA4.out
    case measure => simp [intOf]; omega
  ·have hkl:its.length = ls.length:=by omega
   have hown:=HA.out.own
   obtain ⟨va,vc,hv,hq⟩:=own_rowq (Q:=fun b => w.heap.size ≤ b ∧ b < wr.heap.size) hown (fun it hit => (HA.out.sts it hit).keep (fun b hb => ⟨⟨hb.1,hb.2.1⟩,rfl⟩)) (fun g hg => hown.lt g hg)
   subst hv
   have e:=HA.out.eq
   rw [hkl,List.take_length,← hys.out] at e
   rw [e] at hq
   have hyl:ys.length = its.length:=by rw [← e]; simp
   have HYL:=hideX hyl
   have HQ:=hideX hq
   have HBr:=hideX HA.out.bel
   clear hq e hyl hown HA
   go_wp2
   go_ret
   exact ⟨va,vc,by rw [HYL.out]; rfl,HQ.out,HBr.out⟩
theorem bareStats_any:∀ d,CBSt d
 | 0 => bareStats_step 0 (fun e he => by omega)
 | d + 1 => bareStats_step (d + 1) (fun e he => (show d = e by omega) ▸ bareStats_any d)
abbrev tyO (k:Int) (g:ByteArray):Obj:=.cells #[.int .i64 k,.string g] 31 (0,0)
theorem tyo_set1 {w:World} {M:Nat} {k:Int} {g t:ByteArray} (h:w.heap[M]? = some (tyO k g)):(w.setCell ⟨M,1,none⟩ (.string t)).heap[M]? = some (tyO k t):=by
 simp only [World.setCell,Array.getElem?_modify,if_true,h,Option.map_some]
 rfl
theorem tyo_two {w:World} {M:Nat} {k k':Int} {g g':ByteArray} (h:w.heap[M]? = some (tyO k g)):((w.setCell ⟨M,0,none⟩ (.int .i64 k')).setCell ⟨M,1,none⟩ (.string g')).heap[M]? = some (tyO k' g'):=by
 simp only [World.setCell,Array.getElem?_modify,if_true,h,Option.map_some]
 rfl
theorem bareType_any (t u:Sy.Ty) (w:World) (hu:Hid (u = Sy.tyB t)) :
  Calls Tryz.prog 19 #[tyV t] w fun e w' => e = .returned (tyV u) ∧ Below w.heap.size w w':=by
 obtain ⟨W0,hW0⟩:∃ W0,(w.alloc (tyO t.kind t.gen)).alloc (tyO 0 ⟨#[]⟩) = W0:=⟨_,rfl⟩
 have h0:W0.heap[w.heap.size]? = some (tyO t.kind t.gen):=by rw [← hW0]; exact sx_at1 _ _ _
 have h1:W0.heap[w.heap.size + 1]? = some (tyO 0 ⟨#[]⟩):=by rw [← hW0]; exact sx_at2 _ _ _
 have hb0:Below w.heap.size w W0:=by rw [← hW0]; exact sx_bel2 _ _ _
 have H0:=hideX h0
 have H1:=hideX h1
 have HB0:=hideX hb0
 obtain ⟨a0,a1,b0,b1⟩:=two_cell h0
 obtain ⟨c0,c1,d0,d1⟩:=two_cell h1
 clear h0 h1 hb0
 by_cases hk:t.kind = 3
 ·have e1:(t.kind != 3) = false:=by simp [hk]
  have hU:u = ⟨t.kind,t.gen⟩:=by rw [hu.out]; unfold Sy.tyB; rw [if_pos hk]
  obtain ⟨W9,hW9⟩:∃ W9,(W0.setCell ⟨w.heap.size + 1,0,none⟩ (.int .i64 t.kind)).setCell ⟨w.heap.size + 1,1,none⟩ (.string t.gen) = W9:=⟨_,rfl⟩
  have h9:W9.heap[w.heap.size + 1]? = some (tyO t.kind t.gen):=by rw [← hW9]; exact tyo_two H1.out
  have hB9:Below w.heap.size w W9:=by
   have h1:w.heap.size ≤ w.heap.size + 1:=Nat.le_succ _
   rw [← hW9]
   exact (HB0.out.setCell (p:=⟨w.heap.size + 1,0,none⟩) h1 _).setCell (p:=⟨w.heap.size + 1,1,none⟩) h1 _
  obtain ⟨r0,r1,_⟩:=two_cell h9
  have HB9:=hideX hB9
  have HU:=hideX hU
  clear hB9 h9 hk hU
  go_enter Tryz.func19,Tryz.ntmps19
  go_wp2
  refine bodyPost_ret (v:=.agg #[.int .i64 t.kind,.string t.gen]) (by simp [results,Tryz.results19,go_sem,r0,r1]) rfl ⟨?_,HB9.out⟩
  rw [HU.out]
 ·have e1:(t.kind != 3) = true:=by simp [hk]
  have hU:u = ⟨t.kind,⟨#[]⟩⟩:=by rw [hu.out]; unfold Sy.tyB; rw [if_neg hk]
  obtain ⟨W1,hW1⟩:∃ W1,W0.setCell ⟨w.heap.size,1,none⟩ (.string ⟨#[]⟩) = W1:=⟨_,rfl⟩
  have g0:W1.heap[w.heap.size]? = some (tyO t.kind ⟨#[]⟩):=by rw [← hW1]; exact tyo_set1 H0.out
  have g1:W1.heap[w.heap.size + 1]? = some (tyO 0 ⟨#[]⟩):=by rw [← hW1]; exact (Below.heap_setCell _ _ _ _ (by show w.heap.size + 1 ≠ w.heap.size; omega)).trans H1.out
  obtain ⟨x0,x1,_⟩:=two_cell g0
  obtain ⟨z0,z1,y0,y1⟩:=two_cell g1
  obtain ⟨W9,hW9⟩:∃ W9,(W1.setCell ⟨w.heap.size + 1,0,none⟩ (.int .i64 t.kind)).setCell ⟨w.heap.size + 1,1,none⟩ (.string ⟨#[]⟩) = W9:=⟨_,rfl⟩
  have h9:W9.heap[w.heap.size + 1]? = some (tyO t.kind ⟨#[]⟩):=by rw [← hW9]; exact tyo_two g1
  have hB9:Below w.heap.size w W9:=by
   have h1:w.heap.size ≤ w.heap.size + 1:=Nat.le_succ _
   rw [← hW9,← hW1]
   exact ((HB0.out.setCell (p:=⟨w.heap.size,1,none⟩) (Nat.le_refl _) _).setCell (p:=⟨w.heap.size + 1,0,none⟩) h1 _).setCell (p:=⟨w.heap.size + 1,1,none⟩) h1 _
  obtain ⟨r0,r1,_⟩:=two_cell h9
  have HB9:=hideX hB9
  have HU:=hideX hU
  clear hB9 h9 hk hU g0 g1
  go_enter Tryz.func19,Tryz.ntmps19
  go_wp2
  refine bodyPost_ret (v:=.agg #[.int .i64 t.kind,.string ⟨#[]⟩]) (by simp [results,Tryz.results19,go_sem,r0,r1]) rfl ⟨?_,HB9.out⟩
  rw [HU.out]
structure PdAt (wr W0:World) (S:Obj) (k:Int) (s:ByteArray) (tk:Int) (tg:ByteArray) (uk:Int) (ug:ByteArray) (c:Int) (bv:Value) (its:List Sy.Pm) (v:Value) (W:World):Prop where
 tat:TAt wr W S (dffO k s tk tg uk ug c v bv)
 own:W.ownsRow W0.heap.size 58 3 v its.length (cells3 its)
 low:∀ b,wr.heap.size + 1 < b → b < W0.heap.size → W.heap[b]? = W0.heap[b]?
 size:W0.heap.size ≤ W.heap.size
theorem PdAt.start {wr W0:World} {S:Obj} {k:Int} {s:ByteArray} {tk:Int} {tg:ByteArray} {uk:Int} {ug:ByteArray} {c:Int} {bv:Value} (h:TAt wr W0 S (dffO k s tk tg uk ug c (.slice none 0 0) bv)):PdAt wr W0 S k s tk tg uk ug c bv [] (.slice none 0 0) W0 :=
 ⟨h,World.ownsRow_nil _ _ _ _,fun _ _ _ => rfl,Nat.le_refl _⟩
theorem PdAt.more {wr W0:World} {S:Obj} {k:Int} {s:ByteArray} {tk:Int} {tg:ByteArray} {uk:Int} {ug:ByteArray} {c:Int} {bv:Value} {its:List Sy.Pm} {v:Value} {W W1 w4:World} {it:Sy.Pm} {g cap:Nat} {T:TypeId} (A:PdAt wr W0 S k s tk tg uk ug c bv its v W) (hW0:wr.heap.size + 1 < W0.heap.size) (hb:Below W.heap.size W W1)
  (hown:w4.ownsRow W0.heap.size 58 3 (.slice (some ⟨g,0,none⟩) (its.length + 1) cap) (its.length + 1) (cells3 its ++ itc3 it)) (hg:(W1.alloc (.cells (itc3 it).toArray T)).grownBy w4 v.ownBlock) :
  PdAt wr W0 S k s tk tg uk ug c bv (its ++ [it]) (.slice (some ⟨g,0,none⟩) (its.length + 1) cap) (w4.setCell ⟨wr.heap.size + 1,7,none⟩ (.slice (some ⟨g,0,none⟩) (its.length + 1) cap)):=by
 have hvb:=A.own.lt
 have hs1:=hb.size
 have hz:(W1.alloc (.cells (itc3 it).toArray T)).heap.size = W1.heap.size + 1:=by simp
 have hs4:=hg.size
 rw [hz] at hs4
 have hgl:=hown.lt g rfl
 have hsz:=A.size
 have lw:∀ b,b < W.heap.size → v.ownBlock ≠ some b → w4.heap[b]? = W.heap[b]?:=fun b h1 h2 => by
  rw [hg.block b (by omega) (fun e => h2 e.symm),Below.heap_alloc _ _ _ (by omega)]
  exact hb.block b h1
 have nov:∀ b,b < W0.heap.size → v.ownBlock ≠ some b:=fun b h e => by have:=(hvb b e).1; omega
 have hbw:=A.tat.bel.size
 have h4:Below wr.heap.size wr w4:=⟨hg.os.trans (hb.os.trans A.tat.bel.os),hg.tape.trans (hb.tape.trans A.tat.bel.tape),hg.output.trans (hb.output.trans A.tat.bel.output),by omega,fun b hb' => (lw b (by omega) (nov b (by omega))).trans (A.tat.bel.block b hb')⟩
 have t4:TAt wr w4 S (dffO k s tk tg uk ug c v bv):=⟨h4,(lw _ (by omega) (nov _ (by omega))).trans A.tat.sb,(lw _ (by omega) (nov _ (by omega))).trans A.tat.tb⟩
 refine ⟨t4.set (df_set7 t4.tb _),?_,fun b h1 h2 => ?_,by simp only [World.setCell_size]; omega⟩
 ·have hl:(its ++ [it]).length = its.length + 1:=by simp
  rw [hl,cells3_app]
  exact hown.kept (grown_cell _ _ _) (.inr (by simp [Value.ownBlock]; omega))
 ·exact (Below.heap_setCell _ _ _ _ (by show b ≠ wr.heap.size + 1; omega)).trans ((lw b (by omega) (nov b h2)).trans (A.low b h1 h2))
theorem own_pms {w:World} {B:Nat} {its:List Sy.Pm} {v:Value} (hown:w.ownsRow B 58 3 v its.length (cells3 its)) (hl:its.length ≤ maxLen) (few:∀ it ∈ its,it.name.size ≤ maxLen ∧ it.ty.gen.size ≤ maxLen):∃ a c,v = .slice a its.length c ∧ PmsQ (fun b => B ≤ b ∧ b < w.heap.size) w its a:=by
 rcases hown.2 with ⟨rfl,h0⟩ | ⟨g,cap,cur,rfl,hg,hh,_,_,_,ht⟩
 ·exact ⟨none,0,by rw [h0],hl,fun i p hi => by have:=(List.getElem?_eq_some_iff.1 hi).1; omega⟩
 ·refine ⟨_,cap,rfl,hl,fun i p hi => ?_⟩
  have hlt:=(List.getElem?_eq_some_iff.1 hi).1
  have key:∀ j,j < 3 → w.cell? ⟨g,0 + i * 3 + j,none⟩ = (itc3 p)[j]?:=by
   intro j hj
   have e:=cells3_get its i p hi j hj
   rw [← ht,List.getElem?_take,if_pos (by omega)] at e
   rw [Nat.zero_add,← e]
   simp [World.cell?,hh]
  have:=few p (List.mem_of_getElem? hi)
  exact ⟨g,0,rfl,⟨hg,lt_of_block hh⟩,key 0 (by decide),key 1 (by decide),key 2 (by decide),this.1,this.2⟩
structure BdAt9 (D:Nat) (w:World) (ls:List Sy.Df) (its:List Itm9) (v:Value) (W:World):Prop where
 bel:Below w.heap.size w W
 own:W.ownsRow w.heap.size 35 9 v its.length (cells9 its)
 eq:its.map (·.1) = ls.map (Sy.dfZ D)
 dfs:∀ it ∈ its,DfQ (fun b => w.heap.size ≤ b ∧ b < W.heap.size ∧ v.ownBlock ≠ some b) W it.1 it.2.1.1 it.2.2.1
theorem BdAt9.more {D:Nat} {w:World} {ls:List Sy.Df} {its:List Itm9} {v:Value} {W W1 w4:World} {d:Sy.Df} {it:Itm9} {g cap:Nat} {T:TypeId} (A:BdAt9 D w ls its v W) (hb:Below W.heap.size W W1) (hs:it.1 = Sy.dfZ D d) (hq:DfQ (fun b => W.heap.size ≤ b ∧ b < W1.heap.size) W1 it.1 it.2.1.1 it.2.2.1)
  (hown:w4.ownsRow w.heap.size 35 9 (.slice (some ⟨g,0,none⟩) (its.length + 1) cap) (its.length + 1) (cells9 its ++ itc9 it)) (hg:(W1.alloc (.cells (itc9 it).toArray T)).grownBy w4 v.ownBlock) (hp:v.ownBlock = some g ∨ g = (W1.alloc (.cells (itc9 it).toArray T)).heap.size) :
  BdAt9 D w (ls ++ [d]) (its ++ [it]) (.slice (some ⟨g,0,none⟩) (its.length + 1) cap) w4:=by
 have hwW:=A.bel.size
 have hvb:=A.own.lt
 have hs1:=hb.size
 have hz:(W1.alloc (.cells (itc9 it).toArray T)).heap.size = W1.heap.size + 1:=by simp
 rw [hz] at hp
 have hs4:=hg.size
 rw [hz] at hs4
 have low:∀ b,b < W.heap.size → v.ownBlock ≠ some b → w4.heap[b]? = W.heap[b]?:=fun b h1 h2 => by
  rw [hg.block b (by omega) (fun e => h2 e.symm),Below.heap_alloc _ _ _ (by omega)]
  exact hb.block b h1
 have mid:∀ b,W.heap.size ≤ b → b < W1.heap.size → w4.heap[b]? = W1.heap[b]?:=fun b h1 h2 => by
  rw [hg.block b (by omega) (fun e => by have:=(hvb b e.symm).2; omega),Below.heap_alloc _ _ _ h2]
 have hne:g < W.heap.size → v.ownBlock = some g:=fun h => by
  rcases hp with hp | hp
  ·exact hp
  ·omega
 refine ⟨⟨hg.os.trans (hb.os.trans A.bel.os),hg.tape.trans (hb.tape.trans A.bel.tape),hg.output.trans (hb.output.trans A.bel.output),by omega,fun b hb' => (low b (by omega) (fun e => by have:=(hvb b e).1; omega)).trans (A.bel.block b hb')⟩,?_,?_,?_⟩
 ·have hl:(its ++ [it]).length = its.length + 1:=by simp
  rw [hl,cells9_app]
  exact hown
 ·rw [List.map_append,A.eq,List.map_append,List.map_cons,List.map_nil,List.map_cons,List.map_nil,hs]
 ·intro i hi
  rcases List.mem_append.1 hi with hi | hi
  ·exact (A.dfs i hi).keep (fun b hb' => ⟨⟨hb'.1,by omega,fun e => by
    simp only [Value.ownBlock,Option.some.injEq] at e
    exact hb'.2.2 (by rw [← e]; exact hne (by omega))⟩,low b hb'.2.1 hb'.2.2⟩)
  ·rw [List.mem_singleton.1 hi]
   exact hq.keep (fun b hb' => ⟨⟨by omega,by omega,fun e => by
    simp only [Value.ownBlock,Option.some.injEq] at e
    rcases hp with hp | hp
    ·have:=(hvb g hp).2; omega
    ·omega⟩,mid b hb'.1 hb'.2⟩)
theorem TAt.two {wr W:World} {S T T':Obj} {o o':Nat} {u u':Value} (h:TAt wr W S T) (ht:((W.setCell ⟨wr.heap.size + 1,o,none⟩ u).setCell ⟨wr.heap.size + 1,o',none⟩ u').heap[wr.heap.size + 1]? = some T'):TAt wr ((W.setCell ⟨wr.heap.size + 1,o,none⟩ u).setCell ⟨wr.heap.size + 1,o',none⟩ u') S T' :=
 ⟨(h.bel.setCell (by show wr.heap.size ≤ wr.heap.size + 1; omega) _).setCell (by show wr.heap.size ≤ wr.heap.size + 1; omega) _,(Below.heap_setCell _ _ _ _ (by show wr.heap.size ≠ wr.heap.size + 1; omega)).trans ((Below.heap_setCell _ _ _ _ (by show wr.heap.size ≠ wr.heap.size + 1; omega)).trans h.sb),ht⟩
theorem gen_le {t:Sy.Ty} (h:t.gen.size ≤ maxLen):(Sy.tyB t).gen.size ≤ maxLen:=by
 unfold Sy.tyB
 by_cases hk:t.kind = 3
 ·simp only [if_pos hk]; exact h
 ·simp only [if_neg hk]; exact Nat.zero_le _
theorem pms_small {B:Nat} {w:World} {l:List Sy.Pm} {a:Option Addr} (h:PmsIn B w l a) (p:Sy.Pm) (hp:p ∈ l):p.name.size ≤ maxLen ∧ p.ty.gen.size ≤ maxLen:=by
 obtain ⟨i,hi⟩:=List.mem_iff_getElem?.1 hp
 obtain ⟨_,_,_,_,_,_,_,h1,h2⟩:=h.2 i p hi
 exact ⟨h1,h2⟩
abbrev dfS (d:Sy.Df) (pa:Option Addr) (pc:Nat) (ba:Option Addr) (bc:Nat):Obj:=dffO d.kind d.name d.ty.kind d.ty.gen d.takes.kind d.takes.gen d.cap (.slice pa d.params.length pc) (.slice ba d.body.length bc)
abbrev pmBO (s:ByteArray) (k:Int) (g:ByteArray):Obj:=.cells #[.string s,.int .i64 k,.string g] 58 (0,0)
theorem pmb_cells {w:World} {b:Nat} {s g:ByteArray} {k:Int} (h:w.heap[b]? = some (pmBO s k g)):w.cell? ⟨b,0,none⟩ = some (.string s) ∧ w.cell? ⟨b,1,none⟩ = some (.int .i64 k) ∧ w.cell? ⟨b,2,none⟩ = some (.string g):=by simp [World.cell?,h]
theorem row_low {W W':World} {P N d:Nat} {ys:List Sy.St} {a:Option Addr} (h:RowP P N W d ys a) (hk:∀ b,P < b → b < N → W'.heap[b]? = W.heap[b]?):RowP P N W' d ys a:=h.keep (fun b hb => ⟨hb,hk b hb.1 hb.2⟩) (fun _ _ _ _ => StQ.keep (fun b hb => ⟨hb,hk b hb.1 hb.2⟩))
theorem bareZ_any (D B:Nat) (ls ys:List Sy.Df) (a:Option Addr) (c:Nat) (w:World) (hok:Hid (∀ d ∈ ls,Sy.LmD D d)) (h30:ls.length ≤ 1099511627744) (hB:B ≤ w.heap.size) (hX:Hid (DfsIn B w ls a)) (hys:Hid (ys = ls.map (Sy.dfZ D))) :
  Calls Tryz.prog 10 #[.slice a ls.length c] w fun e w' => ∃ a' c',e = .returned (.slice a' ys.length c') ∧ DfsQ (Mad w w') w' ys a' ∧ Below w.heap.size w w':=by
 obtain ⟨i0,hi,hz0,hz1,hz2⟩:=info_parts Tryz.info35
 obtain ⟨j0,hj,hy0,hy1,hy2⟩:=info_parts Tryz.info58
 go_enter Tryz.func10,Tryz.ntmps10
 go_wp2
 go_loopw [3,11] (fun v0 i wr => ∃ (its:List Itm9) (v:Value),v0 = v ∧ its.length ≤ ls.length ∧ i = .int .i64 its.length ∧ Hid (BdAt9 D w (ls.take its.length) its v wr)) (fun _ i _ => ls.length - (intOf i).toNat)
 case atStart => exact ⟨[],_,rfl,Nat.zero_le _,rfl,Below.refl _ _,World.ownsRow_nil _ _ _ _,rfl,fun it hit => by cases hit⟩
 case round =>
  obtain ⟨its,v,rfl,hk,rfl,HA⟩:=hrel
  by_cases hlt:its.length < ls.length
  ·obtain ⟨d,hd⟩:∃ d,ls[its.length]? = some d:=⟨_,List.getElem?_eq_getElem hlt⟩
   have HDo:=hideX (hok.out d (List.mem_of_getElem? hd))
   obtain ⟨b1,o1,pa,pc,ba,bc,rfl,hb1,u0,u1,u2,u3',u4,u5,u6,u7,u8,i1⟩:=hX.out.2 its.length d hd
   have hsw:=same_below HA.out.bel
   have hwz:=HA.out.bel.size
   rw [← hsw _ _ (by omega)] at u0 u1 u2 u3' u4 u5 u6 u7 u8
   obtain ⟨inm,igy,igt,ip,hh,ib⟩:=i1
   have HNm:=hideX inm
   have HGY:=hideX igy
   have HGT:=hideX igt
   have HBi:Hid (BodyIn B wr hh d.body ba):=ib.same (fun b o hb => hsw b o (by omega))
   have HPi:Hid (PmsIn B wr d.params pa):=ip.same (fun b o hb => hsw b o (by omega))
   have hbr:b1 < wr.heap.size:=by omega
   have hBr:B ≤ wr.heap.size:=by omega
   have hSn:ls.take (its.length + 1) = ls.take its.length ++ [d]:=by rw [List.take_add_one,hd]; rfl
   have HSn:=hideX hSn
   obtain ⟨tb,htb⟩:∃ tb,tb = Sy.tyB d.ty:=⟨_,rfl⟩
   obtain ⟨ub,hub⟩:∃ ub,ub = Sy.tyB d.takes:=⟨_,rfl⟩
   obtain ⟨bb,hbb⟩:∃ bb,bb = d.body.map (Sy.stB D):=⟨_,rfl⟩
   have HTB:=hideX htb
   have HUB:=hideX hub
   have HBB:=hideX hbb
   obtain ⟨V2,hV2⟩:∃ V2,(wr.alloc (dfS d pa pc ba bc)).alloc (dffO d.kind d.name 0 ⟨#[]⟩ 0 ⟨#[]⟩ 0 nilV nilV) = V2:=⟨_,rfl⟩
   have HT2:Hid (TAt wr V2 (dfS d pa pc ba bc) (dffO d.kind d.name 0 ⟨#[]⟩ 0 ⟨#[]⟩ 0 nilV nilV)):=by rw [← hV2]; exact TAt.start _ _ _
   have HV2:=hideX hV2
   have m0:(0:Int) ≤ (its.length:Int):=by omega
   have m1:(its.length:Int) < (ls.length:Int):=by omega
   have hk4:d.kind = 1 ∨ d.kind = 2 ∨ d.kind = 3 ∨ d.kind = 4 ∨ (¬ d.kind = 1 ∧ ¬ d.kind = 2 ∧ ¬ d.kind = 3 ∧ ¬ d.kind = 4):=by omega
   clear hd ip ib hsw htb hub hbb hV2 hSn hb1 inm igy igt
   go_upto_region 6 with fail
   rw [HV2.out]
   obtain ⟨⟨s0,s1,s2,s3,s4,s5,s6,s7,s8⟩,_⟩:=df_cells HT2.out.sb
   obtain ⟨⟨t0,t1,t2,t3,t4,t5,t6,t7,t8⟩,g0,g1,g2,g3,g4,g5,g6,g7,g8⟩:=df_cells HT2.out.tb
   clear u0 u1 u2 u3' u4 u5 u6 u7 u8
   rcases hk4 with hk | hk | hk | hk | hk
   ·have e4:(d.kind != 4) = true:=by simp [hk]
    have e1:(d.kind == 1) = true:=by simp [hk]
    have e3:(d.kind == 3) = false:=by simp [hk]
    have e2:(d.kind == 2) = false:=by simp [hk]
    have HK:=hideX hk
    have HG1:Hid (tb.gen.size ≤ maxLen):=by rw [HTB.out]; exact gen_le HGY.out
    clear hk
    go_wp2_with fail
    refine (bareType_any d.ty tb V2 HTB).mono ?_
    rintro ee w1 ⟨rfl,hb1⟩
    have HT3a:Hid (TAt wr w1 (dfS d pa pc ba bc) (dffO d.kind d.name 0 ⟨#[]⟩ 0 ⟨#[]⟩ 0 nilV nilV)):=HT2.out.call hb1
    obtain ⟨V3,hV3⟩:∃ V3,(w1.setCell ⟨wr.heap.size + 1,2,none⟩ (.int .i64 tb.kind)).setCell ⟨wr.heap.size + 1,3,none⟩ (.string tb.gen) = V3:=⟨_,rfl⟩
    have HT3:Hid (TAt wr V3 (dfS d pa pc ba bc) (dffO d.kind d.name tb.kind tb.gen 0 ⟨#[]⟩ 0 nilV nilV)):=by rw [← hV3]; exact HT3a.out.two (df_set2 HT3a.out.tb _ _)
    clear s0 s1 s2 s3 s4 s5 s6 s7 s8 t0 t1 t2 t3 t4 t5 t6 t7 t8 g0 g1 g2 g3 g4 g5 g6 g7 g8
    obtain ⟨⟨s0,s1,s2,s3,s4,s5,s6,s7,s8⟩,_⟩:=df_cells HT3a.out.sb
    obtain ⟨⟨t0,t1,t2,t3,t4,t5,t6,t7,t8⟩,g0,g1,g2,g3,g4,g5,g6,g7,g8⟩:=df_cells HT3a.out.tb
    obtain ⟨⟨x0,x1,x2,x3,x4,x5,x6,x7,x8⟩,_⟩:=df_cells HT3.out.sb
    obtain ⟨⟨z0,z1,z2,z3,z4,z5,z6,z7,z8⟩,y0,y1,y2,y3,y4,y5,y6,y7,y8⟩:=df_cells HT3.out.tb
    clear hb1
    obtain ⟨V4,hV4⟩:∃ V4,V3.setCell ⟨wr.heap.size + 1,6,none⟩ (.int .i64 d.cap) = V4:=⟨_,rfl⟩
    have HT4:Hid (TAt wr V4 (dfS d pa pc ba bc) (dffO d.kind d.name tb.kind tb.gen 0 ⟨#[]⟩ d.cap nilV nilV)):=by rw [← hV4]; exact HT3.out.set (df_set6 HT3.out.tb _)
    obtain ⟨⟨n0,n1,n2,n3,n4,n5,n6,n7,n8⟩,_⟩:=df_cells HT4.out.sb
    obtain ⟨⟨l0,l1,l2,l3,l4,l5,l6,l7,l8⟩,_⟩:=df_cells HT4.out.tb
    have hS0:(⟨d.kind,d.name,tb,⟨0,⟨#[]⟩⟩,d.cap,[],[]⟩:Sy.Df) = Sy.dfZ D d:=by
     have hk:=HK.out
     unfold Sy.dfZ
     rw [HTB.out]
     simp [hk]
    have HS:=hideX hS0
    obtain ⟨IT,hIT⟩:∃ IT:Itm9,IT = (⟨d.kind,d.name,tb,⟨0,⟨#[]⟩⟩,d.cap,[],[]⟩,(none,0),(none,0)):=⟨_,rfl⟩
    have HC:Hid (itc9 IT = [.int .i64 d.kind,.string d.name,.int .i64 tb.kind,.string tb.gen,.int .i64 0,.string ⟨#[]⟩,.int .i64 d.cap,nilV,nilV]):=by rw [hIT]; rfl
    have HI1:Hid (IT.1 = Sy.dfZ D d):=by rw [hIT]; exact HS.out
    have HQf:Hid (DfQ (fun b => wr.heap.size ≤ b ∧ b < V4.heap.size) V4 IT.1 IT.2.1.1 IT.2.2.1):=by
     rw [hIT]
     exact ⟨HNm.out,HG1.out,(show (⟨#[]⟩:ByteArray).size ≤ maxLen from Nat.zero_le _),PmsQ.nil _ _ _,Nat.zero_le _,⟨0,RowQ.nil _ _ _ _⟩⟩
    have HOf:Hid ((V4.alloc (.cells (itc9 IT).toArray 35)).ownsRow w.heap.size 35 9 u3 its.length (cells9 its)):=(HA.out.own.kept (row:=none) ⟨HT4.out.bel.os,HT4.out.bel.tape,HT4.out.bel.output,HT4.out.bel.size,fun k hk _ => HT4.out.bel.block k hk⟩ (by cases hv:u3.ownBlock with | none => exact .inl rfl | some _ => exact .inr (by simp))).alloc _
    have hzf:=HT4.out.bel.size
    clear hIT hS0
    go_wp2_with (first | (at_builtin; refine wpList_append_where rfl _ _ 22 rfl w.heap.size 35 i0 _ 9 128 Tryz.underlying22 hi hz0 hz1 hz2 rfl (by decide) u3 its.length (cells9 its) rfl (by first | (have h9:=HOf.out; rw [HC.out] at h9; exact h9)) ⟨_,0,none⟩ 1 1 (itc9 IT) rfl (by rw [HC.out]; rfl) (by have h9:=itc9_news V4 IT 35; rw [HC.out] at h9 ⊢; exact h9) (itc9_one IT) (by decide) (by unfold maxLen; omega) (by omega) (by simp; omega) ?_; intro g cap w4 hown4 hg4 hw4; have HA4:=hideX (HA.out.more (it:=IT) (T:=35) HT4.out.bel HI1.out HQf.out hown4 (by rw [HC.out]; exact hg4) (by rw [HC.out]; exact hw4)); clear hown4 hg4 hw4))
    go_roundw
    case rel =>
     refine ⟨its ++ [IT],_,rfl,by simp; omega,by simp,?_⟩
     have ht:(its ++ [IT]).length = its.length + 1:=by simp
     rw [ht,HSn.out]
     exact HA4.out
    case measure => simp [intOf]; omega
   ·have e4:(d.kind != 4) = true:=by simp [hk]
    have e1:(d.kind == 1) = false:=by simp [hk]
    have e3:(d.kind == 3) = false:=by simp [hk]
    have e2:(d.kind == 2) = true:=by simp [hk]
    have HK:=hideX hk
    have HG1:Hid (tb.gen.size ≤ maxLen):=by rw [HTB.out]; exact gen_le HGY.out
    have HBo:=hideX HDo.out.body
    have hb50:=HBo.out.1
    have hp6:=HDo.out.pms
    clear hk
    go_wp2_with fail
    refine (bareType_any d.ty tb V2 HTB).mono ?_
    rintro ee w1 ⟨rfl,hb1⟩
    have HT3a:Hid (TAt wr w1 (dfS d pa pc ba bc) (dffO d.kind d.name 0 ⟨#[]⟩ 0 ⟨#[]⟩ 0 nilV nilV)):=HT2.out.call hb1
    obtain ⟨V3,hV3⟩:∃ V3,(w1.setCell ⟨wr.heap.size + 1,2,none⟩ (.int .i64 tb.kind)).setCell ⟨wr.heap.size + 1,3,none⟩ (.string tb.gen) = V3:=⟨_,rfl⟩
    have HT3:Hid (TAt wr V3 (dfS d pa pc ba bc) (dffO d.kind d.name tb.kind tb.gen 0 ⟨#[]⟩ 0 nilV nilV)):=by rw [← hV3]; exact HT3a.out.two (df_set2 HT3a.out.tb _ _)
    clear s0 s1 s2 s3 s4 s5 s6 s7 s8 t0 t1 t2 t3 t4 t5 t6 t7 t8 g0 g1 g2 g3 g4 g5 g6 g7 g8
    obtain ⟨⟨s0,s1,s2,s3,s4,s5,s6,s7,s8⟩,_⟩:=df_cells HT3a.out.sb
    obtain ⟨⟨t0,t1,t2,t3,t4,t5,t6,t7,t8⟩,g0,g1,g2,g3,g4,g5,g6,g7,g8⟩:=df_cells HT3a.out.tb
    obtain ⟨⟨x0,x1,x2,x3,x4,x5,x6,x7,x8⟩,_⟩:=df_cells HT3.out.sb
    obtain ⟨⟨z0,z1,z2,z3,z4,z5,z6,z7,z8⟩,y0,y1,y2,y3,y4,y5,y6,y7,y8⟩:=df_cells HT3.out.tb
    clear hb1
    go_wp2_with fail
    refine ((bareStats_any D) B hh d.body bb ba bc V3 HBo.out.2 hb50 (by have:=HT3.out.bel.size; omega) (BodyIn.same (fun b o hb => same_below HT3.out.bel b o (by omega)) HBi.out) HBB).mono ?_
    rintro ee w2 ⟨bba,bbc,rfl,hr2,hb2⟩
    have HT4a:Hid (TAt wr w2 (dfS d pa pc ba bc) (dffO d.kind d.name tb.kind tb.gen 0 ⟨#[]⟩ 0 nilV nilV)):=HT3.out.call hb2
    obtain ⟨V4,hV4⟩:∃ V4,w2.setCell ⟨wr.heap.size + 1,8,none⟩ (.slice bba bb.length bbc) = V4:=⟨_,rfl⟩
    have HT4:Hid (TAt wr V4 (dfS d pa pc ba bc) (dffO d.kind d.name tb.kind tb.gen 0 ⟨#[]⟩ 0 nilV (.slice bba bb.length bbc))):=by rw [← hV4]; exact HT4a.out.set (df_set8 HT4a.out.tb _)
    have hz4:V4.heap.size = w2.heap.size:=by rw [← hV4]; simp only [World.setCell_size]
    have HR4:Hid (RowP (wr.heap.size + 1) V4.heap.size V4 D bb bba):=by rw [hz4,← hV4]; exact row_far (row_made hr2 HT3.out.lt)
    clear s0 s1 s2 s3 s4 s5 s6 s7 s8 t0 t1 t2 t3 t4 t5 t6 t7 t8 g0 g1 g2 g3 g4 g5 g6 g7 g8
    clear x0 x1 x2 x3 x4 x5 x6 x7 x8 z0 z1 z2 z3 z4 z5 z6 z7 z8 y0 y1 y2 y3 y4 y5 y6 y7 y8 hV3
    obtain ⟨⟨s0,s1,s2,s3,s4,s5,s6,s7,s8⟩,_⟩:=df_cells HT4a.out.sb
    obtain ⟨⟨t0,t1,t2,t3,t4,t5,t6,t7,t8⟩,g0,g1,g2,g3,g4,g5,g6,g7,g8⟩:=df_cells HT4a.out.tb
    obtain ⟨⟨x0,x1,x2,x3,x4,x5,x6,x7,x8⟩,_⟩:=df_cells HT4.out.sb
    obtain ⟨⟨z0,z1,z2,z3,z4,z5,z6,z7,z8⟩,y0,y1,y2,y3,y4,y5,y6,y7,y8⟩:=df_cells HT4.out.tb
    clear hr2 hb2 hz4
    obtain ⟨V5,hV5e⟩:∃ V5,V5 = V4:=⟨_,rfl⟩
    have HT5:Hid (TAt wr V5 (dfS d pa pc ba bc) (dffO d.kind d.name tb.kind tb.gen 0 ⟨#[]⟩ 0 nilV (.slice bba bb.length bbc))):=by rw [hV5e]; exact HT4.out
    have HR5:Hid (RowP (wr.heap.size + 1) V5.heap.size V5 D bb bba):=by rw [hV5e]; exact HR4.out
    rw [← hV5e] at hV4 x0 x1 x2 x3 x4 x5 x6 x7 x8 z0 z1 z2 z3 z4 z5 z6 z7 z8
    clear hV5e
    go_wp2
    clear s0 s1 s2 s3 s4 s5 s6 s7 s8 t0 t1 t2 t3 t4 t5 t6 t7 t8 g0 g1 g2 g3 g4 g5 g6 g7 g8
    clear x0 x1 x2 x3 x4 x5 x6 x7 x8 z0 z1 z2 z3 z4 z5 z6 z7 z8 y0 y1 y2 y3 y4 y5 y6 y7 y8
    have hvs:True:=trivial
    clear hvs
    obtain ⟨WR,hWR⟩:∃ WR,WR = wr:=⟨_,rfl⟩
    subst hWR
    have h5s:WR.heap.size + 1 < V5.heap.size:=HT5.out.lt
    go_loopw [55] (fun i wr => ∃ (pt:List Sy.Pm) (v:Value),pt.length ≤ d.params.length ∧ i = .int .i64 pt.length ∧ Hid (pt = (d.params.take pt.length).map Sy.pmB) ∧ Hid (PdAt WR V5 (dfS d pa pc ba bc) d.kind d.name tb.kind tb.gen 0 ⟨#[]⟩ 0 (.slice bba bb.length bbc) pt v wr)) (fun i _ => d.params.length - (intOf i).toNat)
    case atStart => exact ⟨[],_,Nat.zero_le _,rfl,rfl,PdAt.start HT5.out⟩
    case round =>
     obtain ⟨pt,v,hpk,rfl,HPt,HP⟩:=hrel
     by_cases hpl:pt.length < d.params.length
     ·obtain ⟨p,hp⟩:∃ p,d.params[pt.length]? = some p:=⟨_,List.getElem?_eq_getElem hpl⟩
      have HPd:=hideX hp
      obtain ⟨b2,o2,hpa,hb2,c0,c1,c2,_,_⟩:=HPi.out.2 pt.length p hp
      subst hpa
      have hwr:=HP.out.tat.bel.size
      rw [← same_below HP.out.tat.bel _ _ (by omega)] at c0 c1 c2
      have hb2r:b2 < wr.heap.size:=by omega
      have hPr:WR.heap.size + 1 < wr.heap.size:=HP.out.tat.lt
      obtain ⟨u,hu⟩:∃ u,u = Sy.tyB p.ty:=⟨_,rfl⟩
      have HU:=hideX hu
      obtain ⟨V,hV⟩:∃ V,wr.alloc (pmBO p.name p.ty.kind p.ty.gen) = V:=⟨_,rfl⟩
      have HVb:Hid (Below wr.heap.size wr V):=by rw [← hV]; exact (Below.refl _ wr).alloc (Nat.le_refl _) _
      have hVs:V.heap.size = wr.heap.size + 1:=by rw [← hV]; simp
      have HVs:=hideX hVs
      have hV0:V.heap[wr.heap.size]? = some (pmBO p.name p.ty.kind p.ty.gen):=by rw [← hV]; exact heap_alloc_new _ _
      have HV0:=hideX hV0
      obtain ⟨⟨_,_,_,_,_,_,_,m7,_⟩,_⟩:=df_cells HP.out.tat.tb
      have v7:=sx_cell HVb.out hPr m7
      have q0:(0:Int) ≤ (pt.length:Int):=by omega
      have q1:(pt.length:Int) < (d.params.length:Int):=by omega
      have HVe:=hideX hV
      clear hp hu hV0 hV hVs hb2
      go_upto_region 17 with fail
      rw [HVe.out]
      refine wp_region_held_drew (S:=fun w' => w'.heap[wr.heap.size]? = some (pmBO p.name p.ty.kind p.ty.gen)) (by kernel_rfl) HV0.out (fun hHeld => ?_)
      refine wpAnyH_take (i:=0) (oi:=_) (v:=.pointer (some ⟨WR.heap.size + 1,7,none⟩)) rfl (by kernel_rfl) (by kernel_rfl) (by kernel_rfl) (fun _ _ _ h => h) (Or.inl ⟨by rfl,?_⟩) (by assumption) ?_
      ·intro w hSw; go_simp
      simp only [Act.put]
      refine wpAnyH_take (i:=2) (oi:=_) (v:=.pointer (some ⟨wr.heap.size,0,none⟩)) rfl (by kernel_rfl) (by kernel_rfl) (by kernel_rfl) (fun _ _ _ h => h) (Or.inl ⟨by rfl,?_⟩) (by assumption) ?_
      ·intro w hSw; go_simp
      simp only [Act.put]
      refine wpAnyH_take (i:=4) (oi:=_) (v:=.pointer (some ⟨wr.heap.size,1,none⟩)) rfl (by kernel_rfl) (by kernel_rfl) (by kernel_rfl) (fun _ _ _ h => h) (Or.inl ⟨by rfl,?_⟩) (by assumption) ?_
      ·intro w hSw; go_simp
      simp only [Act.put]
      refine wpAnyH_take (i:=3) (oi:=_) (v:=.string p.name) rfl (by kernel_rfl) (by kernel_rfl) (by kernel_rfl) (fun _ _ _ h => h) (Or.inl ⟨by rfl,?_⟩) (by assumption) ?_
      ·intro w hSw; obtain ⟨t0,t1,t2⟩:=pmb_cells hSw; go_simp
      simp only [Act.put]
      refine wpAnyH_take (i:=5) (oi:=_) (v:=.agg #[.int .i64 p.ty.kind,.string p.ty.gen]) rfl (by kernel_rfl) (by kernel_rfl) (by kernel_rfl) (fun _ _ _ h => h) (Or.inl ⟨by rfl,?_⟩) (by assumption) ?_
      ·intro w hSw; obtain ⟨t0,t1,t2⟩:=pmb_cells hSw; go_simp
      simp only [Act.put]
      refine wpAnyH_ready (rs:=[1,6]) (by kernel_rfl) (by simp) ?_
      refine AllReadyH.cons (o:=_) rfl (fun K hK => ?_) ?_
      ·go_simp
       refine hK.out _ _ hHeld (fun hHeld => ?_)
       clear hK K
       refine wpAnyH_ready (rs:=[6]) (by kernel_rfl) (by simp) ?_
       refine AllReadyH.cons (o:=_) rfl (fun K hK => ?_) ?_
       ·go_simp
        refine (bareType_any p.ty u V.drew HU).mono ?_
        rintro e w1 ⟨rfl,hb1⟩
        have hb1':Below V.heap.size V w1:=(Below.refl _ V).drew.trans hb1
        have HBw:Hid (Below wr.heap.size wr w1):=HVb.out.trans (hb1'.mono HVb.out.size)
        have hw1:WR.heap.size + 1 < w1.heap.size:=by have:=HBw.out.size; omega
        have hw1':wr.heap.size < w1.heap.size:=by have:=hb1'.size; have:=HVs.out; omega
        have k3:=sx_cell HBw.out hPr m7
        have hS1:w1.heap[wr.heap.size]? = some (pmBO p.name p.ty.kind p.ty.gen):=(hb1'.block _ (by rw [HVs.out]; omega)).trans HV0.out
        have hS1a:(w1.alloc (pmBO p.name u.kind u.gen)).heap[wr.heap.size]? = some (pmBO p.name p.ty.kind p.ty.gen):=(Below.heap_alloc _ _ _ hw1').trans hS1
        have k3a:(w1.alloc (pmBO p.name u.kind u.gen)).cell? ⟨WR.heap.size + 1,7,none⟩ = some v:=(World.cell?_of_block (w:=w1) (Below.heap_alloc _ _ _ hw1)).trans k3
        have HO1:Hid ((w1.alloc (pmBO p.name u.kind u.gen)).ownsRow V5.heap.size 58 3 v pt.length (cells3 pt)):=(HP.out.own.kept (row:=none) ⟨HBw.out.os,HBw.out.tape,HBw.out.output,HBw.out.size,fun k hk _ => HBw.out.block k hk⟩ (by cases hv:v.ownBlock with | none => exact .inl rfl | some _ => exact .inr (by simp))).alloc _
        clear hb1 hb1'
        refine hK.out _ _ hS1 (fun hHeld => ?_)
        clear hK K
        refine wpAnyH_take (i:=7) (oi:=_) (v:=.agg #[.string p.name,.int .i64 u.kind,.string u.gen]) rfl (by kernel_rfl) (by kernel_rfl) (by kernel_rfl) (fun _ _ _ h => h) (Or.inl ⟨by rfl,?_⟩) (by assumption) ?_
        ·intro w hSw; go_simp
        simp only [Act.put]
        refine wpAnyH_ready (rs:=[8]) (by kernel_rfl) (by simp) ?_
        refine AllReadyH.cons (o:=_) rfl (fun K hK => ?_) ?_
        ·go_simp
         refine hK.out _ _ hS1a (fun hHeld => ?_)
         clear hK K
         refine wpAnyH_ready (rs:=[9]) (by kernel_rfl) (by simp) ?_
         refine AllReadyH.cons (o:=_) rfl (fun K hK => ?_) ?_
         ·skip
          refine step_append_where rfl (.tmp 60) (.tmp 67) 32 rfl V5.heap.size 58 j0 _ 3 40 Tryz.underlying32 hj hy0 hy1 hy2 rfl (by decide) v pt.length (cells3 pt) rfl HO1.out ⟨_,0,none⟩ 1 1 (itc3 ⟨p.name,u⟩) rfl rfl (itc3_news w1 ⟨p.name,u⟩ _) (itc3_one _) (by decide) (by unfold maxLen; omega) (by omega) (by have h1:=HP.out.size; have h2:=HBw.out.size; simp; omega) ?_
          intro g cap w4 hown4 hg4 hw4
          have HP4:=hideX (HP.out.more (it:=⟨p.name,u⟩) (T:=58) h5s HBw.out hown4 hg4)
          have hM4:w4.heap[WR.heap.size + 1]? = some (dffO d.kind d.name tb.kind tb.gen 0 ⟨#[]⟩ 0 v (.slice bba bb.length bbc)):=by
           have hv:=HP.out.own.lt
           refine (hg4.block _ (by simp; omega) (fun e => by have:=(hv _ e.symm).1; omega)).trans ?_
           exact (Below.heap_alloc _ _ _ hw1).trans ((HBw.out.block _ hPr).trans HP.out.tat.tb)
          obtain ⟨⟨_,_,_,_,_,_,_,l7,_⟩,_,_,_,_,_,_,_,f7,_⟩:=df_cells hM4
          have hS4:w4.heap[wr.heap.size]? = some (pmBO p.name p.ty.kind p.ty.gen):=(hg4.block _ (by simp; omega) (fun e => by have:=(HP.out.own.lt _ e.symm).2; omega)).trans hS1a
          have hS5:(w4.setCell ⟨WR.heap.size + 1,7,none⟩ (.slice (some ⟨g,0,none⟩) (pt.length + 1) cap)).heap[wr.heap.size]? = some (pmBO p.name p.ty.kind p.ty.gen):=(Below.heap_setCell _ _ _ _ (by show wr.heap.size ≠ WR.heap.size + 1; omega)).trans hS4
          clear hown4 hg4 hw4 hM4
          refine hK.out _ _ hS4 (fun hHeld => ?_)
          clear hK K
          simp only [Act.put]
          refine wpAnyH_take (i:=10) (oi:=_) (v:=.pointer (some ⟨WR.heap.size + 1,7,none⟩)) rfl (by kernel_rfl) (by kernel_rfl) (by kernel_rfl) (fun _ _ _ h => h) (Or.inl ⟨by rfl,?_⟩) (by assumption) ?_
          ·intro w hSw; go_simp
          simp only [Act.put]
          refine wpAnyH_ready (rs:=[11]) (by kernel_rfl) (by simp) ?_
          refine AllReadyH.cons (o:=_) rfl (fun K hK => ?_) ?_
          ·go_simp
           refine hK.out _ _ hS5 (fun hHeld => ?_)
           clear hK K
           refine wpAnyH_done (by kernel_rfl) ?_ _
           go_wp2
           go_roundw
           case rel =>
            refine ⟨pt ++ [(⟨p.name,u⟩:Sy.Pm)],.slice (some ⟨g,0,none⟩) (pt.length + 1) cap,by simp; omega,by simp,?_,HP4⟩
            have ht:d.params.take (pt ++ [(⟨p.name,u⟩:Sy.Pm)]).length = d.params.take pt.length ++ [p]:=by
             rw [List.length_append,List.length_singleton,List.take_add_one,HPd.out]
             rfl
            rw [ht,List.map_append,← HPt.out,HU.out]
            rfl
           case measure => simp [intOf]; omega
          exact AllReadyH.nil
         exact AllReadyH.nil
        exact AllReadyH.nil
       exact AllReadyH.nil
      refine AllReadyH.cons (o:=_) rfl (fun K hK => ?_) ?_
      ·go_simp
       refine (bareType_any p.ty u V.drew HU).mono ?_
       rintro e w1 ⟨rfl,hb1⟩
       have hb1':Below V.heap.size V w1:=(Below.refl _ V).drew.trans hb1
       have HBw:Hid (Below wr.heap.size wr w1):=HVb.out.trans (hb1'.mono HVb.out.size)
       have hw1:WR.heap.size + 1 < w1.heap.size:=by have:=HBw.out.size; omega
       have hw1':wr.heap.size < w1.heap.size:=by have:=hb1'.size; have:=HVs.out; omega
       have k3:=sx_cell HBw.out hPr m7
       have hS1:w1.heap[wr.heap.size]? = some (pmBO p.name p.ty.kind p.ty.gen):=(hb1'.block _ (by rw [HVs.out]; omega)).trans HV0.out
       have hS1a:(w1.alloc (pmBO p.name u.kind u.gen)).heap[wr.heap.size]? = some (pmBO p.name p.ty.kind p.ty.gen):=(Below.heap_alloc _ _ _ hw1').trans hS1
       have k3a:(w1.alloc (pmBO p.name u.kind u.gen)).cell? ⟨WR.heap.size + 1,7,none⟩ = some v:=(World.cell?_of_block (w:=w1) (Below.heap_alloc _ _ _ hw1)).trans k3
       have HO1:Hid ((w1.alloc (pmBO p.name u.kind u.gen)).ownsRow V5.heap.size 58 3 v pt.length (cells3 pt)):=(HP.out.own.kept (row:=none) ⟨HBw.out.os,HBw.out.tape,HBw.out.output,HBw.out.size,fun k hk _ => HBw.out.block k hk⟩ (by cases hv:v.ownBlock with | none => exact .inl rfl | some _ => exact .inr (by simp))).alloc _
       clear hb1 hb1'
       refine hK.out _ _ hS1 (fun hHeld => ?_)
       clear hK K
       refine wpAnyH_take (i:=7) (oi:=_) (v:=.agg #[.string p.name,.int .i64 u.kind,.string u.gen]) rfl (by kernel_rfl) (by kernel_rfl) (by kernel_rfl) (fun _ _ _ h => h) (Or.inl ⟨by rfl,?_⟩) (by assumption) ?_
       ·intro w hSw; go_simp
       simp only [Act.put]
       refine wpAnyH_ready (rs:=[1,8]) (by kernel_rfl) (by simp) ?_
       refine AllReadyH.cons (o:=_) rfl (fun K hK => ?_) ?_
       ·go_simp
        refine hK.out _ _ hS1 (fun hHeld => ?_)
        clear hK K
        refine wpAnyH_ready (rs:=[8]) (by kernel_rfl) (by simp) ?_
        refine AllReadyH.cons (o:=_) rfl (fun K hK => ?_) ?_
        ·go_simp
         refine hK.out _ _ hS1a (fun hHeld => ?_)
         clear hK K
         refine wpAnyH_ready (rs:=[9]) (by kernel_rfl) (by simp) ?_
         refine AllReadyH.cons (o:=_) rfl (fun K hK => ?_) ?_
         ·skip
          refine step_append_where rfl (.tmp 60) (.tmp 67) 32 rfl V5.heap.size 58 j0 _ 3 40 Tryz.underlying32 hj hy0 hy1 hy2 rfl (by decide) v pt.length (cells3 pt) rfl HO1.out ⟨_,0,none⟩ 1 1 (itc3 ⟨p.name,u⟩) rfl rfl (itc3_news w1 ⟨p.name,u⟩ _) (itc3_one _) (by decide) (by unfold maxLen; omega) (by omega) (by have h1:=HP.out.size; have h2:=HBw.out.size; simp; omega) ?_
          intro g cap w4 hown4 hg4 hw4
          have HP4:=hideX (HP.out.more (it:=⟨p.name,u⟩) (T:=58) h5s HBw.out hown4 hg4)
          have hM4:w4.heap[WR.heap.size + 1]? = some (dffO d.kind d.name tb.kind tb.gen 0 ⟨#[]⟩ 0 v (.slice bba bb.length bbc)):=by
           have hv:=HP.out.own.lt
           refine (hg4.block _ (by simp; omega) (fun e => by have:=(hv _ e.symm).1; omega)).trans ?_
           exact (Below.heap_alloc _ _ _ hw1).trans ((HBw.out.block _ hPr).trans HP.out.tat.tb)
          obtain ⟨⟨_,_,_,_,_,_,_,l7,_⟩,_,_,_,_,_,_,_,f7,_⟩:=df_cells hM4
          have hS4:w4.heap[wr.heap.size]? = some (pmBO p.name p.ty.kind p.ty.gen):=(hg4.block _ (by simp; omega) (fun e => by have:=(HP.out.own.lt _ e.symm).2; omega)).trans hS1a
          have hS5:(w4.setCell ⟨WR.heap.size + 1,7,none⟩ (.slice (some ⟨g,0,none⟩) (pt.length + 1) cap)).heap[wr.heap.size]? = some (pmBO p.name p.ty.kind p.ty.gen):=(Below.heap_setCell _ _ _ _ (by show wr.heap.size ≠ WR.heap.size + 1; omega)).trans hS4
          clear hown4 hg4 hw4 hM4
          refine hK.out _ _ hS4 (fun hHeld => ?_)
          clear hK K
          simp only [Act.put]
          refine wpAnyH_take (i:=10) (oi:=_) (v:=.pointer (some ⟨WR.heap.size + 1,7,none⟩)) rfl (by kernel_rfl) (by kernel_rfl) (by kernel_rfl) (fun _ _ _ h => h) (Or.inl ⟨by rfl,?_⟩) (by assumption) ?_
          ·intro w hSw; go_simp
          simp only [Act.put]
          refine wpAnyH_ready (rs:=[11]) (by kernel_rfl) (by simp) ?_
          refine AllReadyH.cons (o:=_) rfl (fun K hK => ?_) ?_
          ·go_simp
           refine hK.out _ _ hS5 (fun hHeld => ?_)
           clear hK K
           refine wpAnyH_done (by kernel_rfl) ?_ _
           go_wp2
           go_roundw
           case rel =>
            refine ⟨pt ++ [(⟨p.name,u⟩:Sy.Pm)],.slice (some ⟨g,0,none⟩) (pt.length + 1) cap,by simp; omega,by simp,?_,HP4⟩
            have ht:d.params.take (pt ++ [(⟨p.name,u⟩:Sy.Pm)]).length = d.params.take pt.length ++ [p]:=by
             rw [List.length_append,List.length_singleton,List.take_add_one,HPd.out]
             rfl
            rw [ht,List.map_append,← HPt.out,HU.out]
            rfl
           case measure => simp [intOf]; omega
          exact AllReadyH.nil
         exact AllReadyH.nil
        exact AllReadyH.nil
       refine AllReadyH.cons (o:=_) rfl (fun K hK => ?_) ?_
       ·go_simp
        refine hK.out _ _ hS1a (fun hHeld => ?_)
        clear hK K
        refine wpAnyH_ready (rs:=[1]) (by kernel_rfl) (by simp) ?_
        refine AllReadyH.cons (o:=_) rfl (fun K hK => ?_) ?_
        ·go_simp
         refine hK.out _ _ hS1a (fun hHeld => ?_)
         clear hK K
         refine wpAnyH_ready (rs:=[9]) (by kernel_rfl) (by simp) ?_
         refine AllReadyH.cons (o:=_) rfl (fun K hK => ?_) ?_
         ·skip
          refine step_append_where rfl (.tmp 60) (.tmp 67) 32 rfl V5.heap.size 58 j0 _ 3 40 Tryz.underlying32 hj hy0 hy1 hy2 rfl (by decide) v pt.length (cells3 pt) rfl HO1.out ⟨_,0,none⟩ 1 1 (itc3 ⟨p.name,u⟩) rfl rfl (itc3_news w1 ⟨p.name,u⟩ _) (itc3_one _) (by decide) (by unfold maxLen; omega) (by omega) (by have h1:=HP.out.size; have h2:=HBw.out.size; simp; omega) ?_
          intro g cap w4 hown4 hg4 hw4
          have HP4:=hideX (HP.out.more (it:=⟨p.name,u⟩) (T:=58) h5s HBw.out hown4 hg4)
          have hM4:w4.heap[WR.heap.size + 1]? = some (dffO d.kind d.name tb.kind tb.gen 0 ⟨#[]⟩ 0 v (.slice bba bb.length bbc)):=by
           have hv:=HP.out.own.lt
           refine (hg4.block _ (by simp; omega) (fun e => by have:=(hv _ e.symm).1; omega)).trans ?_
           exact (Below.heap_alloc _ _ _ hw1).trans ((HBw.out.block _ hPr).trans HP.out.tat.tb)
          obtain ⟨⟨_,_,_,_,_,_,_,l7,_⟩,_,_,_,_,_,_,_,f7,_⟩:=df_cells hM4
          have hS4:w4.heap[wr.heap.size]? = some (pmBO p.name p.ty.kind p.ty.gen):=(hg4.block _ (by simp; omega) (fun e => by have:=(HP.out.own.lt _ e.symm).2; omega)).trans hS1a
          have hS5:(w4.setCell ⟨WR.heap.size + 1,7,none⟩ (.slice (some ⟨g,0,none⟩) (pt.length + 1) cap)).heap[wr.heap.size]? = some (pmBO p.name p.ty.kind p.ty.gen):=(Below.heap_setCell _ _ _ _ (by show wr.heap.size ≠ WR.heap.size + 1; omega)).trans hS4
          clear hown4 hg4 hw4 hM4
          refine hK.out _ _ hS4 (fun hHeld => ?_)
          clear hK K
          simp only [Act.put]
          refine wpAnyH_take (i:=10) (oi:=_) (v:=.pointer (some ⟨WR.heap.size + 1,7,none⟩)) rfl (by kernel_rfl) (by kernel_rfl) (by kernel_rfl) (fun _ _ _ h => h) (Or.inl ⟨by rfl,?_⟩) (by assumption) ?_
          ·intro w hSw; go_simp
          simp only [Act.put]
          refine wpAnyH_ready (rs:=[11]) (by kernel_rfl) (by simp) ?_
          refine AllReadyH.cons (o:=_) rfl (fun K hK => ?_) ?_
          ·go_simp
           refine hK.out _ _ hS5 (fun hHeld => ?_)
           clear hK K
           refine wpAnyH_done (by kernel_rfl) ?_ _
           go_wp2
           go_roundw
           case rel =>
            refine ⟨pt ++ [(⟨p.name,u⟩:Sy.Pm)],.slice (some ⟨g,0,none⟩) (pt.length + 1) cap,by simp; omega,by simp,?_,HP4⟩
            have ht:d.params.take (pt ++ [(⟨p.name,u⟩:Sy.Pm)]).length = d.params.take pt.length ++ [p]:=by
             rw [List.length_append,List.length_singleton,List.take_add_one,HPd.out]
             rfl
            rw [ht,List.map_append,← HPt.out,HU.out]
            rfl
           case measure => simp [intOf]; omega
          exact AllReadyH.nil
         exact AllReadyH.nil
        exact AllReadyH.nil
       exact AllReadyH.nil
      exact AllReadyH.nil
     ·have hpe:pt.length = d.params.length:=by omega
      have hpq:pt = d.params.map Sy.pmB:=by have e:=HPt.out; rw [hpe,List.take_length] at e; exact e
      have HPq:=hideX hpq
      have hfew:∀ it ∈ pt,it.name.size ≤ maxLen ∧ it.ty.gen.size ≤ maxLen:=fun it hit => by
       rw [hpq] at hit
       obtain ⟨q,hq,rfl⟩:=List.mem_map.1 hit
       exact ⟨(pms_small HPi.out q hq).1,gen_le (pms_small HPi.out q hq).2⟩
      obtain ⟨ppa,ppc,hpv,hpm⟩:=own_pms HP.out.own (by unfold maxLen; omega) hfew
      subst hpv
      have HPM:Hid (PmsQ (fun b => V5.heap.size ≤ b ∧ b < wr.heap.size) wr pt ppa):=hpm
      obtain ⟨V6,hV6e⟩:∃ V6,V6 = wr:=⟨_,rfl⟩
      subst hV6e
      have HT6:Hid (TAt WR V6 (dfS d pa pc ba bc) (dffO d.kind d.name tb.kind tb.gen 0 ⟨#[]⟩ 0 (.slice ppa pt.length ppc) (.slice bba bb.length bbc))):=HP.out.tat
      have hz6:V5.heap.size ≤ V6.heap.size:=HP.out.size
      have HR6:Hid (RowP (WR.heap.size + 1) V5.heap.size V6 D bb bba):=row_low HR5.out HP.out.low
      obtain ⟨⟨x0,x1,x2,x3,x4,x5,x6,x7,x8⟩,_⟩:=df_cells HT6.out.sb
      obtain ⟨⟨z0,z1,z2,z3,z4,z5,z6,z7,z8⟩,y0,y1,y2,y3,y4,y5,y6,y7,y8⟩:=df_cells HT6.out.tb
      clear hpq hpm hfew hpe HP
      have hS0:(⟨d.kind,d.name,tb,⟨0,⟨#[]⟩⟩,0,pt,bb⟩:Sy.Df) = Sy.dfZ D d:=by
       have hk:=HK.out
       unfold Sy.dfZ
       rw [HTB.out,HBB.out,HPq.out]
       simp [hk]
      have HS:=hideX hS0
      obtain ⟨IT,hIT⟩:∃ IT:Itm9,IT = (⟨d.kind,d.name,tb,⟨0,⟨#[]⟩⟩,0,pt,bb⟩,(ppa,ppc),(bba,bbc)):=⟨_,rfl⟩
      have HC:Hid (itc9 IT = [.int .i64 d.kind,.string d.name,.int .i64 tb.kind,.string tb.gen,.int .i64 0,.string ⟨#[]⟩,.int .i64 0,(.slice ppa pt.length ppc),(.slice bba bb.length bbc)]):=by rw [hIT]; rfl
      have HI1:Hid (IT.1 = Sy.dfZ D d):=by rw [hIT]; exact HS.out
      have HQf:Hid (DfQ (fun b => WR.heap.size ≤ b ∧ b < V6.heap.size) V6 IT.1 IT.2.1.1 IT.2.2.1):=by
       rw [hIT]
       exact ⟨HNm.out,HG1.out,(show (⟨#[]⟩:ByteArray).size ≤ maxLen from Nat.zero_le _),HPM.out.keep (fun b hb => ⟨⟨by omega,hb.2⟩,rfl⟩),by show bb.length ≤ maxLen; rw [HBB.out]; simp; unfold maxLen; omega,⟨D,HR6.out.keep (fun b hb => ⟨⟨by omega,by omega⟩,rfl⟩) (fun _ _ _ _ => StQ.keep (fun b hb => ⟨⟨by omega,by omega⟩,rfl⟩))⟩⟩
      have HOf:Hid ((V6.alloc (.cells (itc9 IT).toArray 35)).ownsRow w.heap.size 35 9 u3 its.length (cells9 its)):=(HA.out.own.kept (row:=none) ⟨HT6.out.bel.os,HT6.out.bel.tape,HT6.out.bel.output,HT6.out.bel.size,fun k hk _ => HT6.out.bel.block k hk⟩ (by cases hv:u3.ownBlock with | none => exact .inl rfl | some _ => exact .inr (by simp))).alloc _
      have hzf:=HT6.out.bel.size
      clear hIT hS0
      go_wp2_with (first | (at_builtin; refine wpList_append_where rfl _ _ 22 rfl w.heap.size 35 i0 _ 9 128 Tryz.underlying22 hi hz0 hz1 hz2 rfl (by decide) u3 its.length (cells9 its) rfl (by first | (have h9:=HOf.out; rw [HC.out] at h9; exact h9)) ⟨_,0,none⟩ 1 1 (itc9 IT) rfl (by rw [HC.out]; rfl) (by have h9:=itc9_news V6 IT 35; rw [HC.out] at h9 ⊢; exact h9) (itc9_one IT) (by decide) (by unfold maxLen; omega) (by omega) (by simp; omega) ?_; intro g cap w4 hown4 hg4 hw4; have HA4:=hideX (HA.out.more (it:=IT) (T:=35) HT6.out.bel HI1.out HQf.out hown4 (by rw [HC.out]; exact hg4) (by rw [HC.out]; exact hw4)); clear hown4 hg4 hw4))
      go_roundw
      case rel =>
       refine ⟨its ++ [IT],_,rfl,by simp; omega,by simp,?_⟩
       have ht:(its ++ [IT]).length = its.length + 1:=by simp
       rw [ht,HSn.out]
       exact HA4.out
      case measure => simp [intOf]; omega
   ·have e4:(d.kind != 4) = true:=by simp [hk]
    have e1:(d.kind == 1) = false:=by simp [hk]
    have e3:(d.kind == 3) = true:=by simp [hk]
    have e2:(d.kind == 2) = false:=by simp [hk]
    have HK:=hideX hk
    have HG1:Hid (tb.gen.size ≤ maxLen):=by rw [HTB.out]; exact gen_le HGY.out
    have HG2:Hid (ub.gen.size ≤ maxLen):=by rw [HUB.out]; exact gen_le HGT.out
    have HBo:=hideX HDo.out.body
    have hb50:=HBo.out.1
    have hp6:=HDo.out.pms
    clear hk
    go_wp2_with fail
    refine (bareType_any d.ty tb V2 HTB).mono ?_
    rintro ee w1 ⟨rfl,hb1⟩
    have HT3a:Hid (TAt wr w1 (dfS d pa pc ba bc) (dffO d.kind d.name 0 ⟨#[]⟩ 0 ⟨#[]⟩ 0 nilV nilV)):=HT2.out.call hb1
    obtain ⟨V3,hV3⟩:∃ V3,(w1.setCell ⟨wr.heap.size + 1,2,none⟩ (.int .i64 tb.kind)).setCell ⟨wr.heap.size + 1,3,none⟩ (.string tb.gen) = V3:=⟨_,rfl⟩
    have HT3:Hid (TAt wr V3 (dfS d pa pc ba bc) (dffO d.kind d.name tb.kind tb.gen 0 ⟨#[]⟩ 0 nilV nilV)):=by rw [← hV3]; exact HT3a.out.two (df_set2 HT3a.out.tb _ _)
    clear s0 s1 s2 s3 s4 s5 s6 s7 s8 t0 t1 t2 t3 t4 t5 t6 t7 t8 g0 g1 g2 g3 g4 g5 g6 g7 g8
    obtain ⟨⟨s0,s1,s2,s3,s4,s5,s6,s7,s8⟩,_⟩:=df_cells HT3a.out.sb
    obtain ⟨⟨t0,t1,t2,t3,t4,t5,t6,t7,t8⟩,g0,g1,g2,g3,g4,g5,g6,g7,g8⟩:=df_cells HT3a.out.tb
    obtain ⟨⟨x0,x1,x2,x3,x4,x5,x6,x7,x8⟩,_⟩:=df_cells HT3.out.sb
    obtain ⟨⟨z0,z1,z2,z3,z4,z5,z6,z7,z8⟩,y0,y1,y2,y3,y4,y5,y6,y7,y8⟩:=df_cells HT3.out.tb
    clear hb1
    go_wp2_with fail
    refine ((bareStats_any D) B hh d.body bb ba bc V3 HBo.out.2 hb50 (by have:=HT3.out.bel.size; omega) (BodyIn.same (fun b o hb => same_below HT3.out.bel b o (by omega)) HBi.out) HBB).mono ?_
    rintro ee w2 ⟨bba,bbc,rfl,hr2,hb2⟩
    have HT4a:Hid (TAt wr w2 (dfS d pa pc ba bc) (dffO d.kind d.name tb.kind tb.gen 0 ⟨#[]⟩ 0 nilV nilV)):=HT3.out.call hb2
    obtain ⟨V4,hV4⟩:∃ V4,w2.setCell ⟨wr.heap.size + 1,8,none⟩ (.slice bba bb.length bbc) = V4:=⟨_,rfl⟩
    have HT4:Hid (TAt wr V4 (dfS d pa pc ba bc) (dffO d.kind d.name tb.kind tb.gen 0 ⟨#[]⟩ 0 nilV (.slice bba bb.length bbc))):=by rw [← hV4]; exact HT4a.out.set (df_set8 HT4a.out.tb _)
    have hz4:V4.heap.size = w2.heap.size:=by rw [← hV4]; simp only [World.setCell_size]
    have HR4:Hid (RowP (wr.heap.size + 1) V4.heap.size V4 D bb bba):=by rw [hz4,← hV4]; exact row_far (row_made hr2 HT3.out.lt)
    clear s0 s1 s2 s3 s4 s5 s6 s7 s8 t0 t1 t2 t3 t4 t5 t6 t7 t8 g0 g1 g2 g3 g4 g5 g6 g7 g8
    clear x0 x1 x2 x3 x4 x5 x6 x7 x8 z0 z1 z2 z3 z4 z5 z6 z7 z8 y0 y1 y2 y3 y4 y5 y6 y7 y8 hV3
    obtain ⟨⟨s0,s1,s2,s3,s4,s5,s6,s7,s8⟩,_⟩:=df_cells HT4a.out.sb
    obtain ⟨⟨t0,t1,t2,t3,t4,t5,t6,t7,t8⟩,g0,g1,g2,g3,g4,g5,g6,g7,g8⟩:=df_cells HT4a.out.tb
    obtain ⟨⟨x0,x1,x2,x3,x4,x5,x6,x7,x8⟩,_⟩:=df_cells HT4.out.sb
    obtain ⟨⟨z0,z1,z2,z3,z4,z5,z6,z7,z8⟩,y0,y1,y2,y3,y4,y5,y6,y7,y8⟩:=df_cells HT4.out.tb
    clear hr2 hb2 hz4
    go_wp2_with fail
    refine (bareType_any d.takes ub V4 HUB).mono ?_
    rintro ee w3 ⟨rfl,hb3⟩
    have HT5a:Hid (TAt wr w3 (dfS d pa pc ba bc) (dffO d.kind d.name tb.kind tb.gen 0 ⟨#[]⟩ 0 nilV (.slice bba bb.length bbc))):=HT4.out.call hb3
    obtain ⟨V5,hV5⟩:∃ V5,(w3.setCell ⟨wr.heap.size + 1,4,none⟩ (.int .i64 ub.kind)).setCell ⟨wr.heap.size + 1,5,none⟩ (.string ub.gen) = V5:=⟨_,rfl⟩
    have HT5:Hid (TAt wr V5 (dfS d pa pc ba bc) (dffO d.kind d.name tb.kind tb.gen ub.kind ub.gen 0 nilV (.slice bba bb.length bbc))):=by rw [← hV5]; exact HT5a.out.two (df_set4 HT5a.out.tb _ _)
    have hz5:V5.heap.size = w3.heap.size:=by rw [← hV5]; simp only [World.setCell_size]
    have HR5:Hid (RowP (wr.heap.size + 1) V5.heap.size V5 D bb bba):=by rw [hz5,← hV5]; exact row_far (row_far (row_call HR4.out hb3))
    clear s0 s1 s2 s3 s4 s5 s6 s7 s8 t0 t1 t2 t3 t4 t5 t6 t7 t8 g0 g1 g2 g3 g4 g5 g6 g7 g8
    clear x0 x1 x2 x3 x4 x5 x6 x7 x8 z0 z1 z2 z3 z4 z5 z6 z7 z8 y0 y1 y2 y3 y4 y5 y6 y7 y8 hV4
    obtain ⟨⟨s0,s1,s2,s3,s4,s5,s6,s7,s8⟩,_⟩:=df_cells HT5a.out.sb
    obtain ⟨⟨t0,t1,t2,t3,t4,t5,t6,t7,t8⟩,g0,g1,g2,g3,g4,g5,g6,g7,g8⟩:=df_cells HT5a.out.tb
    obtain ⟨⟨x0,x1,x2,x3,x4,x5,x6,x7,x8⟩,_⟩:=df_cells HT5.out.sb
    obtain ⟨⟨z0,z1,z2,z3,z4,z5,z6,z7,z8⟩,y0,y1,y2,y3,y4,y5,y6,y7,y8⟩:=df_cells HT5.out.tb
    clear hb3 hz5
    go_wp2
    clear s0 s1 s2 s3 s4 s5 s6 s7 s8 t0 t1 t2 t3 t4 t5 t6 t7 t8 g0 g1 g2 g3 g4 g5 g6 g7 g8
    clear x0 x1 x2 x3 x4 x5 x6 x7 x8 z0 z1 z2 z3 z4 z5 z6 z7 z8 y0 y1 y2 y3 y4 y5 y6 y7 y8
    have hvs:True:=trivial
    clear hvs
    obtain ⟨WR,hWR⟩:∃ WR,WR = wr:=⟨_,rfl⟩
    subst hWR
    have h5s:WR.heap.size + 1 < V5.heap.size:=HT5.out.lt
    go_loopw [55] (fun i wr => ∃ (pt:List Sy.Pm) (v:Value),pt.length ≤ d.params.length ∧ i = .int .i64 pt.length ∧ Hid (pt = (d.params.take pt.length).map Sy.pmB) ∧ Hid (PdAt WR V5 (dfS d pa pc ba bc) d.kind d.name tb.kind tb.gen ub.kind ub.gen 0 (.slice bba bb.length bbc) pt v wr)) (fun i _ => d.params.length - (intOf i).toNat)
    case atStart => exact ⟨[],_,Nat.zero_le _,rfl,rfl,PdAt.start HT5.out⟩
    case round =>
     obtain ⟨pt,v,hpk,rfl,HPt,HP⟩:=hrel
     by_cases hpl:pt.length < d.params.length
     ·obtain ⟨p,hp⟩:∃ p,d.params[pt.length]? = some p:=⟨_,List.getElem?_eq_getElem hpl⟩
      have HPd:=hideX hp
      obtain ⟨b2,o2,hpa,hb2,c0,c1,c2,_,_⟩:=HPi.out.2 pt.length p hp
      subst hpa
      have hwr:=HP.out.tat.bel.size
      rw [← same_below HP.out.tat.bel _ _ (by omega)] at c0 c1 c2
      have hb2r:b2 < wr.heap.size:=by omega
      have hPr:WR.heap.size + 1 < wr.heap.size:=HP.out.tat.lt
      obtain ⟨u,hu⟩:∃ u,u = Sy.tyB p.ty:=⟨_,rfl⟩
      have HU:=hideX hu
      obtain ⟨V,hV⟩:∃ V,wr.alloc (pmBO p.name p.ty.kind p.ty.gen) = V:=⟨_,rfl⟩
      have HVb:Hid (Below wr.heap.size wr V):=by rw [← hV]; exact (Below.refl _ wr).alloc (Nat.le_refl _) _
      have hVs:V.heap.size = wr.heap.size + 1:=by rw [← hV]; simp
      have HVs:=hideX hVs
      have hV0:V.heap[wr.heap.size]? = some (pmBO p.name p.ty.kind p.ty.gen):=by rw [← hV]; exact heap_alloc_new _ _
      have HV0:=hideX hV0
      obtain ⟨⟨_,_,_,_,_,_,_,m7,_⟩,_⟩:=df_cells HP.out.tat.tb
      have v7:=sx_cell HVb.out hPr m7
      have q0:(0:Int) ≤ (pt.length:Int):=by omega
      have q1:(pt.length:Int) < (d.params.length:Int):=by omega
      have HVe:=hideX hV
      clear hp hu hV0 hV hVs hb2
      go_upto_region 17 with fail
      rw [HVe.out]
      refine wp_region_held_drew (S:=fun w' => w'.heap[wr.heap.size]? = some (pmBO p.name p.ty.kind p.ty.gen)) (by kernel_rfl) HV0.out (fun hHeld => ?_)
      refine wpAnyH_take (i:=0) (oi:=_) (v:=.pointer (some ⟨WR.heap.size + 1,7,none⟩)) rfl (by kernel_rfl) (by kernel_rfl) (by kernel_rfl) (fun _ _ _ h => h) (Or.inl ⟨by rfl,?_⟩) (by assumption) ?_
      ·intro w hSw; go_simp
      simp only [Act.put]
      refine wpAnyH_take (i:=2) (oi:=_) (v:=.pointer (some ⟨wr.heap.size,0,none⟩)) rfl (by kernel_rfl) (by kernel_rfl) (by kernel_rfl) (fun _ _ _ h => h) (Or.inl ⟨by rfl,?_⟩) (by assumption) ?_
      ·intro w hSw; go_simp
      simp only [Act.put]
      refine wpAnyH_take (i:=4) (oi:=_) (v:=.pointer (some ⟨wr.heap.size,1,none⟩)) rfl (by kernel_rfl) (by kernel_rfl) (by kernel_rfl) (fun _ _ _ h => h) (Or.inl ⟨by rfl,?_⟩) (by assumption) ?_
      ·intro w hSw; go_simp
      simp only [Act.put]
      refine wpAnyH_take (i:=3) (oi:=_) (v:=.string p.name) rfl (by kernel_rfl) (by kernel_rfl) (by kernel_rfl) (fun _ _ _ h => h) (Or.inl ⟨by rfl,?_⟩) (by assumption) ?_
      ·intro w hSw; obtain ⟨t0,t1,t2⟩:=pmb_cells hSw; go_simp
      simp only [Act.put]
      refine wpAnyH_take (i:=5) (oi:=_) (v:=.agg #[.int .i64 p.ty.kind,.string p.ty.gen]) rfl (by kernel_rfl) (by kernel_rfl) (by kernel_rfl) (fun _ _ _ h => h) (Or.inl ⟨by rfl,?_⟩) (by assumption) ?_
      ·intro w hSw; obtain ⟨t0,t1,t2⟩:=pmb_cells hSw; go_simp
      simp only [Act.put]
      refine wpAnyH_ready (rs:=[1,6]) (by kernel_rfl) (by simp) ?_
      refine AllReadyH.cons (o:=_) rfl (fun K hK => ?_) ?_
      ·go_simp
       refine hK.out _ _ hHeld (fun hHeld => ?_)
       clear hK K
       refine wpAnyH_ready (rs:=[6]) (by kernel_rfl) (by simp) ?_
       refine AllReadyH.cons (o:=_) rfl (fun K hK => ?_) ?_
       ·go_simp
        refine (bareType_any p.ty u V.drew HU).mono ?_
        rintro e w1 ⟨rfl,hb1⟩
        have hb1':Below V.heap.size V w1:=(Below.refl _ V).drew.trans hb1
        have HBw:Hid (Below wr.heap.size wr w1):=HVb.out.trans (hb1'.mono HVb.out.size)
        have hw1:WR.heap.size + 1 < w1.heap.size:=by have:=HBw.out.size; omega
        have hw1':wr.heap.size < w1.heap.size:=by have:=hb1'.size; have:=HVs.out; omega
        have k3:=sx_cell HBw.out hPr m7
        have hS1:w1.heap[wr.heap.size]? = some (pmBO p.name p.ty.kind p.ty.gen):=(hb1'.block _ (by rw [HVs.out]; omega)).trans HV0.out
        have hS1a:(w1.alloc (pmBO p.name u.kind u.gen)).heap[wr.heap.size]? = some (pmBO p.name p.ty.kind p.ty.gen):=(Below.heap_alloc _ _ _ hw1').trans hS1
        have k3a:(w1.alloc (pmBO p.name u.kind u.gen)).cell? ⟨WR.heap.size + 1,7,none⟩ = some v:=(World.cell?_of_block (w:=w1) (Below.heap_alloc _ _ _ hw1)).trans k3
        have HO1:Hid ((w1.alloc (pmBO p.name u.kind u.gen)).ownsRow V5.heap.size 58 3 v pt.length (cells3 pt)):=(HP.out.own.kept (row:=none) ⟨HBw.out.os,HBw.out.tape,HBw.out.output,HBw.out.size,fun k hk _ => HBw.out.block k hk⟩ (by cases hv:v.ownBlock with | none => exact .inl rfl | some _ => exact .inr (by simp))).alloc _
        clear hb1 hb1'
        refine hK.out _ _ hS1 (fun hHeld => ?_)
        clear hK K
        refine wpAnyH_take (i:=7) (oi:=_) (v:=.agg #[.string p.name,.int .i64 u.kind,.string u.gen]) rfl (by kernel_rfl) (by kernel_rfl) (by kernel_rfl) (fun _ _ _ h => h) (Or.inl ⟨by rfl,?_⟩) (by assumption) ?_
        ·intro w hSw; go_simp
        simp only [Act.put]
        refine wpAnyH_ready (rs:=[8]) (by kernel_rfl) (by simp) ?_
        refine AllReadyH.cons (o:=_) rfl (fun K hK => ?_) ?_
        ·go_simp
         refine hK.out _ _ hS1a (fun hHeld => ?_)
         clear hK K
         refine wpAnyH_ready (rs:=[9]) (by kernel_rfl) (by simp) ?_
         refine AllReadyH.cons (o:=_) rfl (fun K hK => ?_) ?_
         ·skip
          refine step_append_where rfl (.tmp 60) (.tmp 67) 32 rfl V5.heap.size 58 j0 _ 3 40 Tryz.underlying32 hj hy0 hy1 hy2 rfl (by decide) v pt.length (cells3 pt) rfl HO1.out ⟨_,0,none⟩ 1 1 (itc3 ⟨p.name,u⟩) rfl rfl (itc3_news w1 ⟨p.name,u⟩ _) (itc3_one _) (by decide) (by unfold maxLen; omega) (by omega) (by have h1:=HP.out.size; have h2:=HBw.out.size; simp; omega) ?_
          intro g cap w4 hown4 hg4 hw4
          have HP4:=hideX (HP.out.more (it:=⟨p.name,u⟩) (T:=58) h5s HBw.out hown4 hg4)
          have hM4:w4.heap[WR.heap.size + 1]? = some (dffO d.kind d.name tb.kind tb.gen ub.kind ub.gen 0 v (.slice bba bb.length bbc)):=by
           have hv:=HP.out.own.lt
           refine (hg4.block _ (by simp; omega) (fun e => by have:=(hv _ e.symm).1; omega)).trans ?_
           exact (Below.heap_alloc _ _ _ hw1).trans ((HBw.out.block _ hPr).trans HP.out.tat.tb)
          obtain ⟨⟨_,_,_,_,_,_,_,l7,_⟩,_,_,_,_,_,_,_,f7,_⟩:=df_cells hM4
          have hS4:w4.heap[wr.heap.size]? = some (pmBO p.name p.ty.kind p.ty.gen):=(hg4.block _ (by simp; omega) (fun e => by have:=(HP.out.own.lt _ e.symm).2; omega)).trans hS1a
          have hS5:(w4.setCell ⟨WR.heap.size + 1,7,none⟩ (.slice (some ⟨g,0,none⟩) (pt.length + 1) cap)).heap[wr.heap.size]? = some (pmBO p.name p.ty.kind p.ty.gen):=(Below.heap_setCell _ _ _ _ (by show wr.heap.size ≠ WR.heap.size + 1; omega)).trans hS4
          clear hown4 hg4 hw4 hM4
          refine hK.out _ _ hS4 (fun hHeld => ?_)
          clear hK K
          simp only [Act.put]
          refine wpAnyH_take (i:=10) (oi:=_) (v:=.pointer (some ⟨WR.heap.size + 1,7,none⟩)) rfl (by kernel_rfl) (by kernel_rfl) (by kernel_rfl) (fun _ _ _ h => h) (Or.inl ⟨by rfl,?_⟩) (by assumption) ?_
          ·intro w hSw; go_simp
          simp only [Act.put]
          refine wpAnyH_ready (rs:=[11]) (by kernel_rfl) (by simp) ?_
          refine AllReadyH.cons (o:=_) rfl (fun K hK => ?_) ?_
          ·go_simp
           refine hK.out _ _ hS5 (fun hHeld => ?_)
           clear hK K
           refine wpAnyH_done (by kernel_rfl) ?_ _
           go_wp2
           go_roundw
           case rel =>
            refine ⟨pt ++ [(⟨p.name,u⟩:Sy.Pm)],.slice (some ⟨g,0,none⟩) (pt.length + 1) cap,by simp; omega,by simp,?_,HP4⟩
            have ht:d.params.take (pt ++ [(⟨p.name,u⟩:Sy.Pm)]).length = d.params.take pt.length ++ [p]:=by
             rw [List.length_append,List.length_singleton,List.take_add_one,HPd.out]
             rfl
            rw [ht,List.map_append,← HPt.out,HU.out]
            rfl
           case measure => simp [intOf]; omega
          exact AllReadyH.nil
         exact AllReadyH.nil
        exact AllReadyH.nil
       exact AllReadyH.nil
      refine AllReadyH.cons (o:=_) rfl (fun K hK => ?_) ?_
      ·go_simp
       refine (bareType_any p.ty u V.drew HU).mono ?_
       rintro e w1 ⟨rfl,hb1⟩
       have hb1':Below V.heap.size V w1:=(Below.refl _ V).drew.trans hb1
       have HBw:Hid (Below wr.heap.size wr w1):=HVb.out.trans (hb1'.mono HVb.out.size)
       have hw1:WR.heap.size + 1 < w1.heap.size:=by have:=HBw.out.size; omega
       have hw1':wr.heap.size < w1.heap.size:=by have:=hb1'.size; have:=HVs.out; omega
       have k3:=sx_cell HBw.out hPr m7
       have hS1:w1.heap[wr.heap.size]? = some (pmBO p.name p.ty.kind p.ty.gen):=(hb1'.block _ (by rw [HVs.out]; omega)).trans HV0.out
       have hS1a:(w1.alloc (pmBO p.name u.kind u.gen)).heap[wr.heap.size]? = some (pmBO p.name p.ty.kind p.ty.gen):=(Below.heap_alloc _ _ _ hw1').trans hS1
       have k3a:(w1.alloc (pmBO p.name u.kind u.gen)).cell? ⟨WR.heap.size + 1,7,none⟩ = some v:=(World.cell?_of_block (w:=w1) (Below.heap_alloc _ _ _ hw1)).trans k3
       have HO1:Hid ((w1.alloc (pmBO p.name u.kind u.gen)).ownsRow V5.heap.size 58 3 v pt.length (cells3 pt)):=(HP.out.own.kept (row:=none) ⟨HBw.out.os,HBw.out.tape,HBw.out.output,HBw.out.size,fun k hk _ => HBw.out.block k hk⟩ (by cases hv:v.ownBlock with | none => exact .inl rfl | some _ => exact .inr (by simp))).alloc _
       clear hb1 hb1'
       refine hK.out _ _ hS1 (fun hHeld => ?_)
       clear hK K
       refine wpAnyH_take (i:=7) (oi:=_) (v:=.agg #[.string p.name,.int .i64 u.kind,.string u.gen]) rfl (by kernel_rfl) (by kernel_rfl) (by kernel_rfl) (fun _ _ _ h => h) (Or.inl ⟨by rfl,?_⟩) (by assumption) ?_
       ·intro w hSw; go_simp
       simp only [Act.put]
       refine wpAnyH_ready (rs:=[1,8]) (by kernel_rfl) (by simp) ?_
       refine AllReadyH.cons (o:=_) rfl (fun K hK => ?_) ?_
       ·go_simp
        refine hK.out _ _ hS1 (fun hHeld => ?_)
        clear hK K
        refine wpAnyH_ready (rs:=[8]) (by kernel_rfl) (by simp) ?_
        refine AllReadyH.cons (o:=_) rfl (fun K hK => ?_) ?_
        ·go_simp
         refine hK.out _ _ hS1a (fun hHeld => ?_)
         clear hK K
         refine wpAnyH_ready (rs:=[9]) (by kernel_rfl) (by simp) ?_
         refine AllReadyH.cons (o:=_) rfl (fun K hK => ?_) ?_
         ·skip
          refine step_append_where rfl (.tmp 60) (.tmp 67) 32 rfl V5.heap.size 58 j0 _ 3 40 Tryz.underlying32 hj hy0 hy1 hy2 rfl (by decide) v pt.length (cells3 pt) rfl HO1.out ⟨_,0,none⟩ 1 1 (itc3 ⟨p.name,u⟩) rfl rfl (itc3_news w1 ⟨p.name,u⟩ _) (itc3_one _) (by decide) (by unfold maxLen; omega) (by omega) (by have h1:=HP.out.size; have h2:=HBw.out.size; simp; omega) ?_
          intro g cap w4 hown4 hg4 hw4
          have HP4:=hideX (HP.out.more (it:=⟨p.name,u⟩) (T:=58) h5s HBw.out hown4 hg4)
          have hM4:w4.heap[WR.heap.size + 1]? = some (dffO d.kind d.name tb.kind tb.gen ub.kind ub.gen 0 v (.slice bba bb.length bbc)):=by
           have hv:=HP.out.own.lt
           refine (hg4.block _ (by simp; omega) (fun e => by have:=(hv _ e.symm).1; omega)).trans ?_
           exact (Below.heap_alloc _ _ _ hw1).trans ((HBw.out.block _ hPr).trans HP.out.tat.tb)
          obtain ⟨⟨_,_,_,_,_,_,_,l7,_⟩,_,_,_,_,_,_,_,f7,_⟩:=df_cells hM4
          have hS4:w4.heap[wr.heap.size]? = some (pmBO p.name p.ty.kind p.ty.gen):=(hg4.block _ (by simp; omega) (fun e => by have:=(HP.out.own.lt _ e.symm).2; omega)).trans hS1a
          have hS5:(w4.setCell ⟨WR.heap.size + 1,7,none⟩ (.slice (some ⟨g,0,none⟩) (pt.length + 1) cap)).heap[wr.heap.size]? = some (pmBO p.name p.ty.kind p.ty.gen):=(Below.heap_setCell _ _ _ _ (by show wr.heap.size ≠ WR.heap.size + 1; omega)).trans hS4
          clear hown4 hg4 hw4 hM4
          refine hK.out _ _ hS4 (fun hHeld => ?_)
          clear hK K
          simp only [Act.put]
          refine wpAnyH_take (i:=10) (oi:=_) (v:=.pointer (some ⟨WR.heap.size + 1,7,none⟩)) rfl (by kernel_rfl) (by kernel_rfl) (by kernel_rfl) (fun _ _ _ h => h) (Or.inl ⟨by rfl,?_⟩) (by assumption) ?_
          ·intro w hSw; go_simp
          simp only [Act.put]
          refine wpAnyH_ready (rs:=[11]) (by kernel_rfl) (by simp) ?_
          refine AllReadyH.cons (o:=_) rfl (fun K hK => ?_) ?_
          ·go_simp
           refine hK.out _ _ hS5 (fun hHeld => ?_)
           clear hK K
           refine wpAnyH_done (by kernel_rfl) ?_ _
           go_wp2
           go_roundw
           case rel =>
            refine ⟨pt ++ [(⟨p.name,u⟩:Sy.Pm)],.slice (some ⟨g,0,none⟩) (pt.length + 1) cap,by simp; omega,by simp,?_,HP4⟩
            have ht:d.params.take (pt ++ [(⟨p.name,u⟩:Sy.Pm)]).length = d.params.take pt.length ++ [p]:=by
             rw [List.length_append,List.length_singleton,List.take_add_one,HPd.out]
             rfl
            rw [ht,List.map_append,← HPt.out,HU.out]
            rfl
           case measure => simp [intOf]; omega
          exact AllReadyH.nil
         exact AllReadyH.nil
        exact AllReadyH.nil
       refine AllReadyH.cons (o:=_) rfl (fun K hK => ?_) ?_
       ·go_simp
        refine hK.out _ _ hS1a (fun hHeld => ?_)
        clear hK K
        refine wpAnyH_ready (rs:=[1]) (by kernel_rfl) (by simp) ?_
        refine AllReadyH.cons (o:=_) rfl (fun K hK => ?_) ?_
        ·go_simp
         refine hK.out _ _ hS1a (fun hHeld => ?_)
         clear hK K
         refine wpAnyH_ready (rs:=[9]) (by kernel_rfl) (by simp) ?_
         refine AllReadyH.cons (o:=_) rfl (fun K hK => ?_) ?_
         ·skip
          refine step_append_where rfl (.tmp 60) (.tmp 67) 32 rfl V5.heap.size 58 j0 _ 3 40 Tryz.underlying32 hj hy0 hy1 hy2 rfl (by decide) v pt.length (cells3 pt) rfl HO1.out ⟨_,0,none⟩ 1 1 (itc3 ⟨p.name,u⟩) rfl rfl (itc3_news w1 ⟨p.name,u⟩ _) (itc3_one _) (by decide) (by unfold maxLen; omega) (by omega) (by have h1:=HP.out.size; have h2:=HBw.out.size; simp; omega) ?_
          intro g cap w4 hown4 hg4 hw4
          have HP4:=hideX (HP.out.more (it:=⟨p.name,u⟩) (T:=58) h5s HBw.out hown4 hg4)
          have hM4:w4.heap[WR.heap.size + 1]? = some (dffO d.kind d.name tb.kind tb.gen ub.kind ub.gen 0 v (.slice bba bb.length bbc)):=by
           have hv:=HP.out.own.lt
           refine (hg4.block _ (by simp; omega) (fun e => by have:=(hv _ e.symm).1; omega)).trans ?_
           exact (Below.heap_alloc _ _ _ hw1).trans ((HBw.out.block _ hPr).trans HP.out.tat.tb)
          obtain ⟨⟨_,_,_,_,_,_,_,l7,_⟩,_,_,_,_,_,_,_,f7,_⟩:=df_cells hM4
          have hS4:w4.heap[wr.heap.size]? = some (pmBO p.name p.ty.kind p.ty.gen):=(hg4.block _ (by simp; omega) (fun e => by have:=(HP.out.own.lt _ e.symm).2; omega)).trans hS1a
          have hS5:(w4.setCell ⟨WR.heap.size + 1,7,none⟩ (.slice (some ⟨g,0,none⟩) (pt.length + 1) cap)).heap[wr.heap.size]? = some (pmBO p.name p.ty.kind p.ty.gen):=(Below.heap_setCell _ _ _ _ (by show wr.heap.size ≠ WR.heap.size + 1; omega)).trans hS4
          clear hown4 hg4 hw4 hM4
          refine hK.out _ _ hS4 (fun hHeld => ?_)
          clear hK K
          simp only [Act.put]
          refine wpAnyH_take (i:=10) (oi:=_) (v:=.pointer (some ⟨WR.heap.size + 1,7,none⟩)) rfl (by kernel_rfl) (by kernel_rfl) (by kernel_rfl) (fun _ _ _ h => h) (Or.inl ⟨by rfl,?_⟩) (by assumption) ?_
          ·intro w hSw; go_simp
          simp only [Act.put]
          refine wpAnyH_ready (rs:=[11]) (by kernel_rfl) (by simp) ?_
          refine AllReadyH.cons (o:=_) rfl (fun K hK => ?_) ?_
          ·go_simp
           refine hK.out _ _ hS5 (fun hHeld => ?_)
           clear hK K
           refine wpAnyH_done (by kernel_rfl) ?_ _
           go_wp2
           go_roundw
           case rel =>
            refine ⟨pt ++ [(⟨p.name,u⟩:Sy.Pm)],.slice (some ⟨g,0,none⟩) (pt.length + 1) cap,by simp; omega,by simp,?_,HP4⟩
            have ht:d.params.take (pt ++ [(⟨p.name,u⟩:Sy.Pm)]).length = d.params.take pt.length ++ [p]:=by
             rw [List.length_append,List.length_singleton,List.take_add_one,HPd.out]
             rfl
            rw [ht,List.map_append,← HPt.out,HU.out]
            rfl
           case measure => simp [intOf]; omega
          exact AllReadyH.nil
         exact AllReadyH.nil
        exact AllReadyH.nil
       exact AllReadyH.nil
      exact AllReadyH.nil
     ·have hpe:pt.length = d.params.length:=by omega
      have hpq:pt = d.params.map Sy.pmB:=by have e:=HPt.out; rw [hpe,List.take_length] at e; exact e
      have HPq:=hideX hpq
      have hfew:∀ it ∈ pt,it.name.size ≤ maxLen ∧ it.ty.gen.size ≤ maxLen:=fun it hit => by
       rw [hpq] at hit
       obtain ⟨q,hq,rfl⟩:=List.mem_map.1 hit
       exact ⟨(pms_small HPi.out q hq).1,gen_le (pms_small HPi.out q hq).2⟩
      obtain ⟨ppa,ppc,hpv,hpm⟩:=own_pms HP.out.own (by unfold maxLen; omega) hfew
      subst hpv
      have HPM:Hid (PmsQ (fun b => V5.heap.size ≤ b ∧ b < wr.heap.size) wr pt ppa):=hpm
      obtain ⟨V6,hV6e⟩:∃ V6,V6 = wr:=⟨_,rfl⟩
      subst hV6e
      have HT6:Hid (TAt WR V6 (dfS d pa pc ba bc) (dffO d.kind d.name tb.kind tb.gen ub.kind ub.gen 0 (.slice ppa pt.length ppc) (.slice bba bb.length bbc))):=HP.out.tat
      have hz6:V5.heap.size ≤ V6.heap.size:=HP.out.size
      have HR6:Hid (RowP (WR.heap.size + 1) V5.heap.size V6 D bb bba):=row_low HR5.out HP.out.low
      obtain ⟨⟨x0,x1,x2,x3,x4,x5,x6,x7,x8⟩,_⟩:=df_cells HT6.out.sb
      obtain ⟨⟨z0,z1,z2,z3,z4,z5,z6,z7,z8⟩,y0,y1,y2,y3,y4,y5,y6,y7,y8⟩:=df_cells HT6.out.tb
      clear hpq hpm hfew hpe HP
      have hS0:(⟨d.kind,d.name,tb,ub,0,pt,bb⟩:Sy.Df) = Sy.dfZ D d:=by
       have hk:=HK.out
       unfold Sy.dfZ
       rw [HTB.out,HUB.out,HBB.out,HPq.out]
       simp [hk]
      have HS:=hideX hS0
      obtain ⟨IT,hIT⟩:∃ IT:Itm9,IT = (⟨d.kind,d.name,tb,ub,0,pt,bb⟩,(ppa,ppc),(bba,bbc)):=⟨_,rfl⟩
      have HC:Hid (itc9 IT = [.int .i64 d.kind,.string d.name,.int .i64 tb.kind,.string tb.gen,.int .i64 ub.kind,.string ub.gen,.int .i64 0,(.slice ppa pt.length ppc),(.slice bba bb.length bbc)]):=by rw [hIT]; rfl
      have HI1:Hid (IT.1 = Sy.dfZ D d):=by rw [hIT]; exact HS.out
      have HQf:Hid (DfQ (fun b => WR.heap.size ≤ b ∧ b < V6.heap.size) V6 IT.1 IT.2.1.1 IT.2.2.1):=by
       rw [hIT]
       exact ⟨HNm.out,HG1.out,HG2.out,HPM.out.keep (fun b hb => ⟨⟨by omega,hb.2⟩,rfl⟩),by show bb.length ≤ maxLen; rw [HBB.out]; simp; unfold maxLen; omega,⟨D,HR6.out.keep (fun b hb => ⟨⟨by omega,by omega⟩,rfl⟩) (fun _ _ _ _ => StQ.keep (fun b hb => ⟨⟨by omega,by omega⟩,rfl⟩))⟩⟩
      have HOf:Hid ((V6.alloc (.cells (itc9 IT).toArray 35)).ownsRow w.heap.size 35 9 u3 its.length (cells9 its)):=(HA.out.own.kept (row:=none) ⟨HT6.out.bel.os,HT6.out.bel.tape,HT6.out.bel.output,HT6.out.bel.size,fun k hk _ => HT6.out.bel.block k hk⟩ (by cases hv:u3.ownBlock with | none => exact .inl rfl | some _ => exact .inr (by simp))).alloc _
      have hzf:=HT6.out.bel.size
      clear hIT hS0
      go_wp2_with (first | (at_builtin; refine wpList_append_where rfl _ _ 22 rfl w.heap.size 35 i0 _ 9 128 Tryz.underlying22 hi hz0 hz1 hz2 rfl (by decide) u3 its.length (cells9 its) rfl (by first | (have h9:=HOf.out; rw [HC.out] at h9; exact h9)) ⟨_,0,none⟩ 1 1 (itc9 IT) rfl (by rw [HC.out]; rfl) (by have h9:=itc9_news V6 IT 35; rw [HC.out] at h9 ⊢; exact h9) (itc9_one IT) (by decide) (by unfold maxLen; omega) (by omega) (by simp; omega) ?_; intro g cap w4 hown4 hg4 hw4; have HA4:=hideX (HA.out.more (it:=IT) (T:=35) HT6.out.bel HI1.out HQf.out hown4 (by rw [HC.out]; exact hg4) (by rw [HC.out]; exact hw4)); clear hown4 hg4 hw4))
      go_roundw
      case rel =>
       refine ⟨its ++ [IT],_,rfl,by simp; omega,by simp,?_⟩
       have ht:(its ++ [IT]).length = its.length + 1:=by simp
       rw [ht,HSn.out]
       exact HA4.out
      case measure => simp [intOf]; omega
   ·have e4:(d.kind != 4) = false:=by simp [hk]
    have e1:(d.kind == 1) = false:=by simp [hk]
    have e3:(d.kind == 3) = false:=by simp [hk]
    have e2:(d.kind == 2) = false:=by simp [hk]
    have HK:=hideX hk
    have HBo:=hideX HDo.out.body
    have hb50:=HBo.out.1
    clear hk
    go_wp2_with fail
    refine ((bareStats_any D) B hh d.body bb ba bc V2 HBo.out.2 hb50 (by have:=HT2.out.bel.size; omega) (BodyIn.same (fun b o hb => same_below HT2.out.bel b o (by omega)) HBi.out) HBB).mono ?_
    rintro ee w2 ⟨bba,bbc,rfl,hr2,hb2⟩
    have HT4a:Hid (TAt wr w2 (dfS d pa pc ba bc) (dffO d.kind d.name 0 ⟨#[]⟩ 0 ⟨#[]⟩ 0 nilV nilV)):=HT2.out.call hb2
    obtain ⟨V4,hV4⟩:∃ V4,w2.setCell ⟨wr.heap.size + 1,8,none⟩ (.slice bba bb.length bbc) = V4:=⟨_,rfl⟩
    have HT4:Hid (TAt wr V4 (dfS d pa pc ba bc) (dffO d.kind d.name 0 ⟨#[]⟩ 0 ⟨#[]⟩ 0 nilV (.slice bba bb.length bbc))):=by rw [← hV4]; exact HT4a.out.set (df_set8 HT4a.out.tb _)
    have hz4:V4.heap.size = w2.heap.size:=by rw [← hV4]; simp only [World.setCell_size]
    have HR4:Hid (RowP (wr.heap.size + 1) V4.heap.size V4 D bb bba):=by rw [hz4,← hV4]; exact row_far (row_made hr2 HT2.out.lt)
    clear s0 s1 s2 s3 s4 s5 s6 s7 s8 t0 t1 t2 t3 t4 t5 t6 t7 t8 g0 g1 g2 g3 g4 g5 g6 g7 g8
    obtain ⟨⟨s0,s1,s2,s3,s4,s5,s6,s7,s8⟩,_⟩:=df_cells HT4a.out.sb
    obtain ⟨⟨t0,t1,t2,t3,t4,t5,t6,t7,t8⟩,g0,g1,g2,g3,g4,g5,g6,g7,g8⟩:=df_cells HT4a.out.tb
    obtain ⟨⟨x0,x1,x2,x3,x4,x5,x6,x7,x8⟩,_⟩:=df_cells HT4.out.sb
    obtain ⟨⟨z0,z1,z2,z3,z4,z5,z6,z7,z8⟩,y0,y1,y2,y3,y4,y5,y6,y7,y8⟩:=df_cells HT4.out.tb
    clear hr2 hb2 hz4
    have hS0:(⟨d.kind,d.name,⟨0,⟨#[]⟩⟩,⟨0,⟨#[]⟩⟩,0,[],bb⟩:Sy.Df) = Sy.dfZ D d:=by
     have hk:=HK.out
     unfold Sy.dfZ
     rw [HBB.out]
     simp [hk]
    have HS:=hideX hS0
    obtain ⟨IT,hIT⟩:∃ IT:Itm9,IT = (⟨d.kind,d.name,⟨0,⟨#[]⟩⟩,⟨0,⟨#[]⟩⟩,0,[],bb⟩,(none,0),(bba,bbc)):=⟨_,rfl⟩
    have HC:Hid (itc9 IT = [.int .i64 d.kind,.string d.name,.int .i64 0,.string ⟨#[]⟩,.int .i64 0,.string ⟨#[]⟩,.int .i64 0,nilV,(.slice bba bb.length bbc)]):=by rw [hIT]; rfl
    have HI1:Hid (IT.1 = Sy.dfZ D d):=by rw [hIT]; exact HS.out
    have HQf:Hid (DfQ (fun b => wr.heap.size ≤ b ∧ b < V4.heap.size) V4 IT.1 IT.2.1.1 IT.2.2.1):=by
     rw [hIT]
     exact ⟨HNm.out,(show (⟨#[]⟩:ByteArray).size ≤ maxLen from Nat.zero_le _),(show (⟨#[]⟩:ByteArray).size ≤ maxLen from Nat.zero_le _),PmsQ.nil _ _ _,by show bb.length ≤ maxLen; rw [HBB.out]; simp; unfold maxLen; omega,⟨D,HR4.out.keep (fun b hb => ⟨⟨by omega,hb.2⟩,rfl⟩) (fun _ _ _ _ => StQ.keep (fun b hb => ⟨⟨by omega,hb.2⟩,rfl⟩))⟩⟩
    have HOf:Hid ((V4.alloc (.cells (itc9 IT).toArray 35)).ownsRow w.heap.size 35 9 u3 its.length (cells9 its)):=(HA.out.own.kept (row:=none) ⟨HT4.out.bel.os,HT4.out.bel.tape,HT4.out.bel.output,HT4.out.bel.size,fun k hk _ => HT4.out.bel.block k hk⟩ (by cases hv:u3.ownBlock with | none => exact .inl rfl | some _ => exact .inr (by simp))).alloc _
    have hzf:=HT4.out.bel.size
    clear hIT hS0
    go_wp2_with (first | (at_builtin; refine wpList_append_where rfl _ _ 22 rfl w.heap.size 35 i0 _ 9 128 Tryz.underlying22 hi hz0 hz1 hz2 rfl (by decide) u3 its.length (cells9 its) rfl (by first | (have h9:=HOf.out; rw [HC.out] at h9; exact h9)) ⟨_,0,none⟩ 1 1 (itc9 IT) rfl (by rw [HC.out]; rfl) (by have h9:=itc9_news V4 IT 35; rw [HC.out] at h9 ⊢; exact h9) (itc9_one IT) (by decide) (by unfold maxLen; omega) (by omega) (by simp; omega) ?_; intro g cap w4 hown4 hg4 hw4; have HA4:=hideX (HA.out.more (it:=IT) (T:=35) HT4.out.bel HI1.out HQf.out hown4 (by rw [HC.out]; exact hg4) (by rw [HC.out]; exact hw4)); clear hown4 hg4 hw4))
    go_roundw
    case rel =>
     refine ⟨its ++ [IT],_,rfl,by simp; omega,by simp,?_⟩
     have ht:(its ++ [IT]).length = its.length + 1:=by simp
     rw [ht,HSn.out]
     exact HA4.out
    case measure => simp [intOf]; omega
   ·have e4:(d.kind != 4) = true:=by simp [hk]
    have e1:(d.kind == 1) = false:=by simp [hk]
    have e3:(d.kind == 3) = false:=by simp [hk]
    have e2:(d.kind == 2) = false:=by simp [hk]
    have HK:=hideX hk
    have HG1:Hid (tb.gen.size ≤ maxLen):=by rw [HTB.out]; exact gen_le HGY.out
    have HBo:=hideX HDo.out.body
    have hb50:=HBo.out.1
    clear hk
    go_wp2_with fail
    refine (bareType_any d.ty tb V2 HTB).mono ?_
    rintro ee w1 ⟨rfl,hb1⟩
    have HT3a:Hid (TAt wr w1 (dfS d pa pc ba bc) (dffO d.kind d.name 0 ⟨#[]⟩ 0 ⟨#[]⟩ 0 nilV nilV)):=HT2.out.call hb1
    obtain ⟨V3,hV3⟩:∃ V3,(w1.setCell ⟨wr.heap.size + 1,2,none⟩ (.int .i64 tb.kind)).setCell ⟨wr.heap.size + 1,3,none⟩ (.string tb.gen) = V3:=⟨_,rfl⟩
    have HT3:Hid (TAt wr V3 (dfS d pa pc ba bc) (dffO d.kind d.name tb.kind tb.gen 0 ⟨#[]⟩ 0 nilV nilV)):=by rw [← hV3]; exact HT3a.out.two (df_set2 HT3a.out.tb _ _)
    clear s0 s1 s2 s3 s4 s5 s6 s7 s8 t0 t1 t2 t3 t4 t5 t6 t7 t8 g0 g1 g2 g3 g4 g5 g6 g7 g8
    obtain ⟨⟨s0,s1,s2,s3,s4,s5,s6,s7,s8⟩,_⟩:=df_cells HT3a.out.sb
    obtain ⟨⟨t0,t1,t2,t3,t4,t5,t6,t7,t8⟩,g0,g1,g2,g3,g4,g5,g6,g7,g8⟩:=df_cells HT3a.out.tb
    obtain ⟨⟨x0,x1,x2,x3,x4,x5,x6,x7,x8⟩,_⟩:=df_cells HT3.out.sb
    obtain ⟨⟨z0,z1,z2,z3,z4,z5,z6,z7,z8⟩,y0,y1,y2,y3,y4,y5,y6,y7,y8⟩:=df_cells HT3.out.tb
    clear hb1
    go_wp2_with fail
    refine ((bareStats_any D) B hh d.body bb ba bc V3 HBo.out.2 hb50 (by have:=HT3.out.bel.size; omega) (BodyIn.same (fun b o hb => same_below HT3.out.bel b o (by omega)) HBi.out) HBB).mono ?_
    rintro ee w2 ⟨bba,bbc,rfl,hr2,hb2⟩
    have HT4a:Hid (TAt wr w2 (dfS d pa pc ba bc) (dffO d.kind d.name tb.kind tb.gen 0 ⟨#[]⟩ 0 nilV nilV)):=HT3.out.call hb2
    obtain ⟨V4,hV4⟩:∃ V4,w2.setCell ⟨wr.heap.size + 1,8,none⟩ (.slice bba bb.length bbc) = V4:=⟨_,rfl⟩
    have HT4:Hid (TAt wr V4 (dfS d pa pc ba bc) (dffO d.kind d.name tb.kind tb.gen 0 ⟨#[]⟩ 0 nilV (.slice bba bb.length bbc))):=by rw [← hV4]; exact HT4a.out.set (df_set8 HT4a.out.tb _)
    have hz4:V4.heap.size = w2.heap.size:=by rw [← hV4]; simp only [World.setCell_size]
    have HR4:Hid (RowP (wr.heap.size + 1) V4.heap.size V4 D bb bba):=by rw [hz4,← hV4]; exact row_far (row_made hr2 HT3.out.lt)
    clear s0 s1 s2 s3 s4 s5 s6 s7 s8 t0 t1 t2 t3 t4 t5 t6 t7 t8 g0 g1 g2 g3 g4 g5 g6 g7 g8
    clear x0 x1 x2 x3 x4 x5 x6 x7 x8 z0 z1 z2 z3 z4 z5 z6 z7 z8 y0 y1 y2 y3 y4 y5 y6 y7 y8 hV3
    obtain ⟨⟨s0,s1,s2,s3,s4,s5,s6,s7,s8⟩,_⟩:=df_cells HT4a.out.sb
    obtain ⟨⟨t0,t1,t2,t3,t4,t5,t6,t7,t8⟩,g0,g1,g2,g3,g4,g5,g6,g7,g8⟩:=df_cells HT4a.out.tb
    obtain ⟨⟨x0,x1,x2,x3,x4,x5,x6,x7,x8⟩,_⟩:=df_cells HT4.out.sb
    obtain ⟨⟨z0,z1,z2,z3,z4,z5,z6,z7,z8⟩,y0,y1,y2,y3,y4,y5,y6,y7,y8⟩:=df_cells HT4.out.tb
    clear hr2 hb2 hz4
    have hS0:(⟨d.kind,d.name,tb,⟨0,⟨#[]⟩⟩,0,[],bb⟩:Sy.Df) = Sy.dfZ D d:=by
     have hk:=HK.out
     unfold Sy.dfZ
     rw [HTB.out,HBB.out]
     simp [hk]
    have HS:=hideX hS0
    obtain ⟨IT,hIT⟩:∃ IT:Itm9,IT = (⟨d.kind,d.name,tb,⟨0,⟨#[]⟩⟩,0,[],bb⟩,(none,0),(bba,bbc)):=⟨_,rfl⟩
    have HC:Hid (itc9 IT = [.int .i64 d.kind,.string d.name,.int .i64 tb.kind,.string tb.gen,.int .i64 0,.string ⟨#[]⟩,.int .i64 0,nilV,(.slice bba bb.length bbc)]):=by rw [hIT]; rfl
    have HI1:Hid (IT.1 = Sy.dfZ D d):=by rw [hIT]; exact HS.out
    have HQf:Hid (DfQ (fun b => wr.heap.size ≤ b ∧ b < V4.heap.size) V4 IT.1 IT.2.1.1 IT.2.2.1):=by
     rw [hIT]
     exact ⟨HNm.out,HG1.out,(show (⟨#[]⟩:ByteArray).size ≤ maxLen from Nat.zero_le _),PmsQ.nil _ _ _,by show bb.length ≤ maxLen; rw [HBB.out]; simp; unfold maxLen; omega,⟨D,HR4.out.keep (fun b hb => ⟨⟨by omega,hb.2⟩,rfl⟩) (fun _ _ _ _ => StQ.keep (fun b hb => ⟨⟨by omega,hb.2⟩,rfl⟩))⟩⟩
    have HOf:Hid ((V4.alloc (.cells (itc9 IT).toArray 35)).ownsRow w.heap.size 35 9 u3 its.length (cells9 its)):=(HA.out.own.kept (row:=none) ⟨HT4.out.bel.os,HT4.out.bel.tape,HT4.out.bel.output,HT4.out.bel.size,fun k hk _ => HT4.out.bel.block k hk⟩ (by cases hv:u3.ownBlock with | none => exact .inl rfl | some _ => exact .inr (by simp))).alloc _
    have hzf:=HT4.out.bel.size
    clear hIT hS0
    go_wp2_with (first | (at_builtin; refine wpList_append_where rfl _ _ 22 rfl w.heap.size 35 i0 _ 9 128 Tryz.underlying22 hi hz0 hz1 hz2 rfl (by decide) u3 its.length (cells9 its) rfl (by first | (have h9:=HOf.out; rw [HC.out] at h9; exact h9)) ⟨_,0,none⟩ 1 1 (itc9 IT) rfl (by rw [HC.out]; rfl) (by have h9:=itc9_news V4 IT 35; rw [HC.out] at h9 ⊢; exact h9) (itc9_one IT) (by decide) (by unfold maxLen; omega) (by omega) (by simp; omega) ?_; intro g cap w4 hown4 hg4 hw4; have HA4:=hideX (HA.out.more (it:=IT) (T:=35) HT4.out.bel HI1.out HQf.out hown4 (by rw [HC.out]; exact hg4) (by rw [HC.out]; exact hw4)); clear hown4 hg4 hw4))
    go_roundw
    case rel =>
     refine ⟨its ++ [IT],_,rfl,by simp; omega,by simp,?_⟩
     have ht:(its ++ [IT]).length = its.length + 1:=by simp
     rw [ht,HSn.out]
     exact HA4.out
    case measure => simp [intOf]; omega
  ·have hkl:its.length = ls.length:=by omega
   have hown:=HA.out.own
   obtain ⟨va,vc,hv,hq⟩:=own_dfs (Q:=fun b => w.heap.size ≤ b ∧ b < wr.heap.size) hown (fun it hit => (HA.out.dfs it hit).keep (fun b hb => ⟨⟨hb.1,hb.2.1⟩,rfl⟩)) (fun g hg => hown.lt g hg)
   subst hv
   have e:=HA.out.eq
   rw [hkl,List.take_length,← hys.out] at e
   rw [e] at hq
   have hyl:ys.length = its.length:=by rw [← e]; simp
   have HYL:=hideX hyl
   have HQ:=hideX hq
   have HBr:=hideX HA.out.bel
   clear hq e hyl hown HA
   go_wp2
   go_ret
   exact ⟨va,vc,by rw [HYL.out]; rfl,HQ.out,HBr.out⟩
end Go.Proofs.YtpnljpdpobbiiaaGreatDoor

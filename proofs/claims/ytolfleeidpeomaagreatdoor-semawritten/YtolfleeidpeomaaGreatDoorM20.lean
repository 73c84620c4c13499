/- The walk of program. -/
import Derived.Test.YtolfleeidpeomaaGreatDoorM19
import Derived.Test.YtolfleeidpeomaaGreatDoorM9
import Derived.Deep.LoopGhost
import Derived.Test.YtolfleeidpeomaaGreatDoorM10
set_option maxRecDepth 100000
set_option maxHeartbeats 2000000
namespace Go.Proofs.YtolfleeidpeomaaGreatDoor
open Go.RowKit
theorem Y9:yg 36 Rp.vH:=fun t u _=>VC t u
theorem Za (E:Env)(G:Good E)(op:Int)(hT:Hid (uC E op 37 (Rp.df E.l E.en)))(r:au (List Sy.Df))(w:World)(h:Hid (az E w 0 op))(hr:Hid (r=Rp.program E.l E.en)) :
  Calls Tryz.prog 17 #[.pointer (some ⟨E.R,0,none⟩)] w fun e w'=>Ends E op w r (Ai w) e w':=by
 have hR:=h.out.lt
 have zY:=G.few
 obtain ⟨i0,hi,hz0,hz1,hz2⟩:=info_parts Tryz.YZ
 have gM:Hid (sK E op w r [] 0 (E.l.length+1) (.slice none 0 0) w):=⟨World.ownsRow_nil _ _ _ _,fun it hit=>by simp at hit,h.out,Nat.zero_le _,eD (Below.refl _ w),hr.out,by omega,Nat.zero_le _⟩
 go_enter Tryz.func17,Tryz.ntmps17
 go_wp2
 go_loopw [3] (fun v wr=>∃ its q fu,sK E op w r its q fu v wr) (fun v _=>E.l.length+1 - Dn v)
 case atStart=>exact ⟨[],0,_,gM.out⟩
 case round =>
  obtain ⟨its,q,fu,hA⟩:=hrel
  clear gM
  have HA:=aa hA
  have hq:=hA.le
  have HD3:=aa hA.eP
  obtain ⟨av,cv,hv⟩:∃ a c,u3=.slice a its.length c:=by
   rcases hA.own.2 with ⟨rfl,h0⟩ | ⟨g,cap,cur,rfl,_⟩
   ·rw [h0];exact ⟨_,_,rfl⟩
   ·exact ⟨_,_,rfl⟩
  subst hv
  have hil:=hA.few
  obtain ⟨f',hf'⟩:∃ f',fu=f'+1:=⟨fu - 1,by have:=hA.fuel;omega⟩
  subst hf'
  clear hA
  obtain ⟨t,ht⟩:∃ t,t=decide (q=E.l.length):=⟨_,rfl⟩
  have HT:=aa ht
  have gy:Hid (r=if E.l.length≤q then .ok (q,its.map (·.1)) else match fZ Rp.vH (its.map (·.1)).length 30 (pk E.l q E.en) q with
   | .error e=>.error e
   | .ok _=>Rp.andThen (Rp.df E.l E.en q) fun q s=>Rp.fH E.l E.en f' ((its.map (·.1))++[s]) q):=by rw [HA.out.eq];rfl
  clear ht
  go_wp2_with fail
  refine (zt E.R E.ta E.tc E.l q E.en _ op t _ (aa HD3.out.rd) HT).mono ?_
  rintro e w3 ⟨rfl,hb3⟩
  have aK:=aa (eD (R:=E.R) hb3)
  have HD4:=aa (HD3.out.on G hb3)
  clear hb3
  cases t with
  | true =>
   have hqe:q=E.l.length:=by have:=HT.out;simpa using this
   have ae:Hid (r=.ok (q,its.map (·.1))):=by unfold Hid;rw [gy.out,if_pos (by omega)]
   clear hqe
   go_wp2
   go_ret
   refine ⟨ay HA.out.grown aK.out,?_⟩
   rw [ae.out]
   exact ⟨⟨_,rfl,HA.out.out hR zY aK.out⟩,HD4.out⟩
  | false =>
   have hqe:¬ E.l.length≤q:=by have:=HT.out;simp at this;omega
   obtain ⟨r4,hr4⟩:∃ r4,r4=jD () (fZ Rp.vH its.length 30 (pk E.l q E.en) q):=⟨_,rfl⟩
   have HR4:=aa hr4
   have gX:Hid ((∀ e,r4=.error e→r=.error e)∧(∀ x,r4=.ok x→r=Rp.andThen (Rp.df E.l E.en q) fun q s=>Rp.fH E.l E.en f' ((its.map (·.1))++[s]) q)):=by
    have h3:=gy.out
    rw [List.length_map,if_neg hqe] at h3
    unfold Hid
    rw [hr4]
    cases hl:fZ Rp.vH its.length 30 (pk E.l q E.en) q with
    | error e=>rw [hl] at h3;exact ⟨fun e' he=>by simp [jD] at he;rw [← he];exact h3,fun x hx=>by simp [jD] at hx⟩
    | ok x=>rw [hl] at h3;exact ⟨fun e' he=>by simp [jD] at he,fun x hx=>h3⟩
   clear hr4 hqe
   go_wp2_with fail
   refine (G7 E G q _ 36 Rp.vH _ 30 r4 _ HD4 hq (fun a w=>by simp [go_sem]) (aa Y9) HR4).mono ?_
   rintro e w4 ⟨hg4,jh⟩
   have aX:=aa (ay aK.out hg4)
   have qc:Hid (w.grownBy w4 (some E.R)):=ay HA.out.grown aX.out
   clear hg4
   cases r4 with
   | error er =>
    obtain ⟨e1,e2⟩:=er
    obtain ⟨rfl,hde⟩:=jh
    have wu:=aa hde
    have ae:Hid (r=.error (e1,e2)):=(gX.out.1 _ rfl)
    clear hde
    go_wp2
    exact ⟨rfl,qc.out,by rw [ae.out];exact ⟨rfl,wu.out⟩⟩
   | ok qx =>
    obtain ⟨q4,u4⟩:=qx
    have hqq:q4=q:=by
     have:=HR4.out
     unfold fZ at this
     split at this
     ·simp [jD] at this
     ·simp [jD] at this;exact this
    obtain ⟨⟨v,rfl,rfl⟩,hd4⟩:=jh
    rw [hqq] at hd4
    have HD5:=aa hd4
    obtain ⟨r5,fo⟩:∃ r5,r5=Rp.df E.l E.en q:=⟨_,rfl⟩
    have jN:=aa fo
    have gT:Hid (r=Rp.andThen r5 fun q s=>Rp.fH E.l E.en f' ((its.map (·.1))++[s]) q):=by rw [gX.out.2 _ rfl,fo];rfl
    have nT:Hid (∀ q' x,r5=.ok (q',x)→q<q'∧q'≤E.l.length):=fun q' x hx=>Rp.Y8 E.l E.en q q' x hq (by rw [← fo,hx])
    clear fo hd4 hqq qc
    go_wp2_with fail
    refine (hT.out q r5 _ HD5 hq jN).mono ?_
    rintro e w5 ⟨hg5,jF⟩
    have bY:=aa hg5
    have qc:Hid (w.grownBy w5 (some E.R)):=ay HA.out.grown (ay aX.out hg5)
    clear hg5
    cases r5 with
    | error er =>
     obtain ⟨e1,e2⟩:=er
     obtain ⟨rfl,hde⟩:=jF
     have wu:=aa hde
     have ae:Hid (r=.error (e1,e2)):=gT.out
     clear hde
     go_wp2
     exact ⟨rfl,qc.out,by rw [ae.out];exact ⟨rfl,wu.out⟩⟩
    | ok qx =>
     obtain ⟨q5,s⟩:=qx
     obtain ⟨⟨v,rfl,pa,pc,ba,bc,rfl,Ab⟩,hd5⟩:=jF
     have H7:=aa Ab
     have HD6:=aa hd5
     have wy:=aa (nT.out q5 s rfl)
     have qX:=wy.out.2
     have HOWN:=aa (HA.out.kept hR (ay aX.out bY.out)).1
     have hs5:=qc.out.size
     clear Ab hd5
     go_wp2_with (at_builtin;refine sD rfl _ _ 22 rfl w.heap.size 50 i0 _ 9 128 Tryz.underlying22 hi hz0 hz1 hz2 rfl (by decide) _ its.length (nW its) rfl (HOWN.out.alloc _) ⟨w5.heap.size,0,none⟩ 1 1 (ru (s,(pa,pc),(ba,bc))) rfl rfl (Y2 _ (s,(pa,pc),(ba,bc)) _) (Y1 _) (by decide) (by unfold maxLen;omega) (by omega) (by simp;omega) ?_;intro g cap w6 hown6 uB yj)
     have HN:=aa (HA.out.next (it:=(s,(pa,pc),(ba,bc))) G h.out aX.out bY.out HD6.out H7.out wy.out gT.out hown6 uB yj)
     clear hown6 uB yj
     go_wp2
     go_roundw
     case rel=>exact ⟨_,q5,f',HN.out⟩
     case measure=>simp [Dn];omega
theorem Zb (E:Env)(G:Good E)(r:au (List Sy.Df))(w:World)(h:Hid (az E w 0 0))(hr:Hid (r=Rp.program E.l E.en)):Calls Tryz.prog 17 #[.pointer (some ⟨E.R,0,none⟩)] w fun e w'=>Ends E 0 w r (Ai w) e w' :=
 have hB:=aa (YE E G)
 Za E G 0 (aa (YX E G 0 hB (aa (YF E G 0)) (aa (YG E G 0 hB)) (aa (YJ E G 0 hB)))) r w h hr
def jl (w:World)(G:Nat):Prop:=∃ t fr,w.heap[G]?=some (.cells um.toArray t fr)
theorem jl.keep {w w':World}{G B:Nat}(h:jl w G)(hb:Below B w w')(hG:G<B):jl w' G:=h.elim fun t h=>h.elim fun fr h=>⟨t,fr,(hb.block G hG).trans h⟩
theorem jl.lt {w:World}{G:Nat}(h:jl w G):G<w.heap.size:=h.elim fun _ h=>h.elim fun _ h=>lt_of_block h
theorem Zc (w:World)(hT:jl w 0) :
  Calls Tryz.prog 10 #[] w fun e w'=>e=.returned (.map (some w.heap.size))∧mM w' w.heap.size∧Below w.heap.size w w':=by
 have hmm:∀ w:World,(Instr.makeMap 38 Option.none).run Tryz.prog w=.ok (.map (some w.heap.size)) (w.alloc (.map #[] 0)):=fun _=>rfl
 have h0:=hT.lt
 obtain ⟨tt,fr,hT1⟩:jl (w.alloc (.map #[] 0)) 0:=hT.keep ((Below.refl _ w).alloc (Nat.le_refl _) _) h0
 obtain ⟨cs,hcs⟩:∃ cs,cs=um.toArray:=⟨_,rfl⟩
 rw [← hcs] at hT1
 have hI:(Tryz.prog.info? 76).map (·.size)=some 39:=by kernel_rfl
 have HI:Hid ((Tryz.prog.info? 76).map (·.size)=some cs.size):=by rw [hcs];exact hI
 have HT:Hid ((w.alloc (.map #[] 0)).heap[0]?=some (.cells cs tt fr)):=hT1
 have HX:Hid (∀ (k:Nat) p,Sy.table[k]?=some p→∀ w:World,(Instr.index 76 (.agg cs) (.int .i64 (k:Int))).run Tryz.prog w=.ok (nP p) w):=by rw [hcs];exact fun k p hp w=>Mi k p hp w
 clear hT hT1 hcs hI
 go_enter Tryz.func10,Tryz.ntmps10
 go_wp2_with (refine wpList_load_row rfl 76 (.global 0) rfl 0 rfl tt cs fr _ HT.out Tryz.underlying76 rfl HI.out ?_)
 go_loopw [6] (fun i wr=>∃ k:Nat,k≤13∧i=.int .i64 k∧Hid (wr.heap[w.heap.size]?=some (.map (entries.take k).toArray k))∧Hid (Below w.heap.size w wr)) (fun i _=>13 - (intOf i).toNat)
 case atStart=>exact ⟨0,by omega,rfl,heap_alloc_new w _,(Below.refl _ w).alloc (Nat.le_refl _) _⟩
 case round =>
  obtain ⟨k,hk,rfl,HM,HB⟩:=hrel
  by_cases xM:k<13
  ·obtain ⟨p,hp⟩:∃ p,Sy.table[k]?=some p:=⟨_,List.getElem?_eq_getElem (by simpa [Sy.table] using xM)⟩
   have hix:=HX.out k p hp
   have ry:(wr.alloc (.cells #[.int .i64 p.1,.string p.2.1,.int .i64 p.2.2] 75)).heap[w.heap.size]?=some (.map (entries.take k).toArray k):=(Below.heap_alloc _ _ _ (lt_of_block HM.out)).trans HM.out
   have hup:=Wt w.heap.size k _ p hp ry
   obtain ⟨W2,hW2⟩:∃ W2:World,W2={ (wr.alloc (.cells #[.int .i64 p.1,.string p.2.1,.int .i64 p.2.2] 75)) with heap:=(wr.alloc (.cells #[.int .i64 p.1,.string p.2.1,.int .i64 p.2.2] 75)).heap.setIfInBounds w.heap.size (.map (entries.take (k+1)).toArray (k+1)) }:=⟨_,rfl⟩
   rw [← hW2] at hup
   obtain ⟨m1,m2⟩:=map_set (o':=.map (entries.take (k+1)).toArray (k+1)) ry w.heap.size (Nat.le_refl _)
   rw [← hW2] at m1 m2
   have aU:Hid (W2.heap[w.heap.size]?=some (.map (entries.take (k+1)).toArray (k+1))):=m1
   have HB2:Hid (Below w.heap.size w W2):=(HB.out.alloc (by have:=HB.out.size;omega) _).trans m2
   clear hp ry hW2 m1 m2
   go_wp2
   go_roundw
   case rel=>exact ⟨k+1,by omega,by go_num,aU,HB2⟩
   case measure=>simp [intOf];omega
  ·go_wp2
   go_ret
   obtain rfl:k=13:=by omega
   exact ⟨rfl,HM.out,HB.out⟩
theorem Zd (M k:Nat)(w:World)(p:Int × ByteArray × Int)(hp:Sy.table[k]?=some p)(h:w.heap[M]?=some (.map (jZ.take k).toArray k)) :
  (Instr.mapUpdate 58 (.map (some M)) (.string p.2.1) (nP p)).run Tryz.prog w=.ok () { w with heap:=w.heap.setIfInBounds M (.map (jZ.take (k+1)).toArray (k+1)) }:=by
 have hg:(getObj M).run Tryz.prog w=.ok (.map (jZ.take k).toArray k) w:=by simp [getObj,Sem.run,h]
 have hc:∀ b,(Instr.checkKey b 10000 9 (.string p.2.1)).run Tryz.prog w=.ok () w:=fun b=>MapKept.run_checkKey (n:=9999) Tryz.underlying9 (by simp [MapKept.IsKey]) b
 have hu:=run_underlying (w:=w) Tryz.underlying58
 have xM:k<13:=by have:=(List.getElem?_eq_some_iff.1 hp).1;simpa [Sy.table] using this
 have hf:Instr.findNow .string (.string p.2.1) (jZ.take k) 0=some none:=by
  rcases (show k=0∨k=1∨k=2∨k=3∨k=4∨k=5∨k=6∨k=7∨k=8∨k=9∨k=10∨k=11∨k=12 by omega) with rfl | rfl | rfl | rfl | rfl | rfl | rfl | rfl | rfl | rfl | rfl | rfl | rfl <;>
   (simp only [Sy.table,List.getElem?_cons_zero,List.getElem?_cons_succ,Option.some.injEq] at hp;subst hp;rfl)
 have he:(jZ.take (k+1))=jZ.take k++[{ key:=.string p.2.1,val:=nP p,born:=k }]:=by
  rcases (show k=0∨k=1∨k=2∨k=3∨k=4∨k=5∨k=6∨k=7∨k=8∨k=9∨k=10∨k=11∨k=12 by omega) with rfl | rfl | rfl | rfl | rfl | rfl | rfl | rfl | rfl | rfl | rfl | rfl | rfl <;>
   (simp only [Sy.table,List.getElem?_cons_zero,List.getElem?_cons_succ,Option.some.injEq] at hp;subst hp;rfl)
 have hk:=MapKept.run_findKey (P:=Tryz.prog) (w:=w) (kt:=9) Tryz.underlying9 hf
 have hs:=MapKept.run_setObj_map (P:=Tryz.prog) (.map (jZ.take (k+1)).toArray (k+1)) h
 rw [he] at hs
 simp [Instr.mapUpdate,hu,hg,hc,hk,hs,he]
theorem OY (w:World)(hT:jl w 0) :
  Calls Tryz.prog 14 #[] w fun e w'=>e=.returned (.map (some w.heap.size))∧w'.heap[w.heap.size]?=some (.map jZ.toArray 13)∧Below w.heap.size w w':=by
 have hmm:∀ w:World,(Instr.makeMap 58 Option.none).run Tryz.prog w=.ok (.map (some w.heap.size)) (w.alloc (.map #[] 0)):=fun _=>rfl
 have h0:=hT.lt
 obtain ⟨tt,fr,hT1⟩:jl (w.alloc (.map #[] 0)) 0:=hT.keep ((Below.refl _ w).alloc (Nat.le_refl _) _) h0
 obtain ⟨cs,hcs⟩:∃ cs,cs=um.toArray:=⟨_,rfl⟩
 rw [← hcs] at hT1
 have hI:(Tryz.prog.info? 76).map (·.size)=some 39:=by kernel_rfl
 have HI:Hid ((Tryz.prog.info? 76).map (·.size)=some cs.size):=by rw [hcs];exact hI
 have HT:Hid ((w.alloc (.map #[] 0)).heap[0]?=some (.cells cs tt fr)):=hT1
 have HX:Hid (∀ (k:Nat) p,Sy.table[k]?=some p→∀ w:World,(Instr.index 76 (.agg cs) (.int .i64 (k:Int))).run Tryz.prog w=.ok (nP p) w):=by rw [hcs];exact fun k p hp w=>Mi k p hp w
 clear hT hT1 hcs hI
 go_enter Tryz.func14,Tryz.ntmps14
 go_wp2_with (refine wpList_load_row rfl 76 (.global 0) rfl 0 rfl tt cs fr _ HT.out Tryz.underlying76 rfl HI.out ?_)
 go_loopw [6] (fun i wr=>∃ k:Nat,k≤13∧i=.int .i64 k∧Hid (wr.heap[w.heap.size]?=some (.map (jZ.take k).toArray k))∧Hid (Below w.heap.size w wr)) (fun i _=>13 - (intOf i).toNat)
 case atStart=>exact ⟨0,by omega,rfl,heap_alloc_new w _,(Below.refl _ w).alloc (Nat.le_refl _) _⟩
 case round =>
  obtain ⟨k,hk,rfl,HM,HB⟩:=hrel
  by_cases xM:k<13
  ·obtain ⟨p,hp⟩:∃ p,Sy.table[k]?=some p:=⟨_,List.getElem?_eq_getElem (by simpa [Sy.table] using xM)⟩
   have hix:=HX.out k p hp
   have ry:(wr.alloc (.cells #[.int .i64 p.1,.string p.2.1,.int .i64 p.2.2] 75)).heap[w.heap.size]?=some (.map (jZ.take k).toArray k):=(Below.heap_alloc _ _ _ (lt_of_block HM.out)).trans HM.out
   have hup:=Zd w.heap.size k _ p hp ry
   obtain ⟨W2,hW2⟩:∃ W2:World,W2={ (wr.alloc (.cells #[.int .i64 p.1,.string p.2.1,.int .i64 p.2.2] 75)) with heap:=(wr.alloc (.cells #[.int .i64 p.1,.string p.2.1,.int .i64 p.2.2] 75)).heap.setIfInBounds w.heap.size (.map (jZ.take (k+1)).toArray (k+1)) }:=⟨_,rfl⟩
   rw [← hW2] at hup
   obtain ⟨m1,m2⟩:=map_set (o':=.map (jZ.take (k+1)).toArray (k+1)) ry w.heap.size (Nat.le_refl _)
   rw [← hW2] at m1 m2
   have aU:Hid (W2.heap[w.heap.size]?=some (.map (jZ.take (k+1)).toArray (k+1))):=m1
   have HB2:Hid (Below w.heap.size w W2):=(HB.out.alloc (by have:=HB.out.size;omega) _).trans m2
   clear hp ry hW2 m1 m2
   go_wp2
   go_roundw
   case rel=>exact ⟨k+1,by omega,by go_num,aU,HB2⟩
   case measure=>simp [intOf];omega
  ·go_wp2
   go_ret
   obtain rfl:k=13:=by omega
   exact ⟨rfl,HM.out,HB.out⟩
namespace Rp
def NZ {α:Type}(r:au α):Prop:=∀ e,r=.error e→e.1≠0
theorem NZ.ok {α:Type}(x:Nat × α):NZ (.ok x:au α):=fun e h=>by simp at h
theorem NZ.err {α:Type}{a:Int}{b:Nat}(h:a≠0):NZ (.error (a,b):au α):=fun e he=>by simp at he;rw [← he];exact h
theorem NZ.andThen {α β:Type}{r:au α}{f:Nat→α→au β}(h1:NZ r)(h2:∀ q x,NZ (f q x)):NZ (Rp.andThen r f):=by
 intro e he
 cases r with
 | error e'=>simp [Rp.andThen] at he;exact h1 e (by rw [he])
 | ok qx=>exact h2 qx.1 qx.2 e he
theorem NZ.ite {α:Type}{c:Prop}[Decidable c]{a b:au α}(h1:NZ a)(h2:NZ b):NZ (if c then a else b):=by split <;> assumption
theorem iX (l:List Lx.Tk)(en:Nat)(s:ByteArray)(p:Nat):NZ (want l en s p):=by
 unfold want pz
 split
 ·exact NZ.ok _
 ·rename_i h
  split at h
  ·simp at h
  ·simp at h;rw [← h];exact NZ.err (by decide)
theorem qd (l:List Lx.Tk)(en p:Nat):NZ (name l en p):=by
 unfold name lK
 split
 ·exact NZ.ok _
 ·rename_i h
  split at h
  ·simp at h;rw [← h];exact NZ.err (by decide)
  ·split at h
   ·simp at h;rw [← h];exact NZ.err (by decide)
   ·simp at h
theorem Aj (l:List Lx.Tk)(en p:Nat):NZ (typ l en p):=by
 unfold typ oM
 split
 ·exact NZ.ok _
 ·rename_i e h
  split at h
  ·simp at h
  ·split at h
   ·simp at h
   ·have hn:=qd l en p
    unfold name at hn
    rw [h] at hn
    exact fun e' he=>hn e' (by simpa using he)
theorem Ze (l:List Lx.Tk)(en p:Nat):NZ (places l en p):=by
 unfold places nL
 split
 ·exact NZ.ok _
 ·rename_i h
  split at h
  ·simp at h;rw [← h];exact NZ.err (by decide)
  ·split at h
   ·simp at h;rw [← h];exact NZ.err (by decide)
   ·simp at h
theorem Im {bg:Lx.Tk→Bool}{n most:Int}{t:Lx.Tk}{p:Nat}{e:Int × Nat}(h:fZ bg n most t p=.error e):e.1≠0:=by
 unfold fZ at h
 split at h
 ·simp at h;rw [← h];show (5:Int)≠0;decide
 ·simp at h
theorem OZ {l:List Lx.Tk}{en:Nat}{next:Nat→au Sy.Ex}(hn:∀ p,NZ (next p))(level:Int):∀ (f:Nat) (x:Sy.Ex) (p:Nat),NZ (loop l en next level f x p)
 | 0,x,p=>NZ.ok _
 | f+1,x,p=>by
  rw [loop]
  exact NZ.ite (NZ.ok _) (NZ.andThen (hn _) (fun q y=>NZ.ite (NZ.ok _) (OZ hn level f _ _)))
theorem Io {l:List Lx.Tk}{en:Nat}{ah:Nat→au Sy.Ex}(ha:∀ p,NZ (ah p)):∀ k p,NZ (from' l en ah k p)
 | 0,p=>ha p
 | k+1,p=>by rw [from'];exact NZ.andThen (Io ha k p) (fun q x=>OZ (Io ha k) _ _ _ _)
theorem O0 {α:Type}{l:List Lx.Tk}{en:Nat}{bg:Lx.Tk→Bool}{one:Nat→au α}(ho:∀ p,NZ (one p)):∀ (f:Nat) (out:List α) (p:Nat),NZ (items l en bg one f out p)
 | 0,out,p=>NZ.ok _
 | f+1,out,p=>by
  rw [items]
  split
  ·rename_i h;exact fun e' he=>by simp at he;rw [← he];exact Im h
  ·exact NZ.andThen (ho _) (fun q x=>NZ.ite (NZ.ok _) (NZ.andThen (iX _ _ _ _) (fun _ _=>O0 ho f _ _)))
theorem O4 {α:Type}{l:List Lx.Tk}{en:Nat}{bg:Lx.Tk→Bool}{one:Nat→au α}(ho:∀ p,NZ (one p))(p:Nat):NZ (list l en bg one p) :=
 NZ.andThen (iX _ _ _ _) (fun _ _=>NZ.ite (NZ.ok _) (O0 ho _ _ _))
theorem yn {l:List Lx.Tk}{en d:Nat}{prev:Nat→au Sy.Ex}(h:d=0∨∀ p,NZ (prev p))(p:Nat):NZ (expr l en d prev p):=by
 unfold expr
 split
 ·exact NZ.err (by decide)
 ·rename_i hd;exact Io (h.resolve_left hd) _ _
theorem O5 {l:List Lx.Tk}{en d:Nat}{prev:Nat→au Sy.Ex}(h:d=0∨∀ p,NZ (prev p))(k:Int)(p:Nat):NZ (turned l en d prev k p):=by
 unfold turned
 split
 ·exact NZ.err (by decide)
 ·rename_i hd;exact NZ.andThen (h.resolve_left hd _) (fun _ _=>NZ.ok _)
theorem O6 {l:List Lx.Tk}{en d:Nat}{prev:Nat→au Sy.Ex}(h:d=0∨∀ p,NZ (prev p))(p:Nat):NZ (kids l en d prev p):=O4 (yn h) p
theorem Zf (l:List Lx.Tk)(en p:Nat):NZ (receiving l en p):=NZ.andThen (iX _ _ _ _) (fun _ _=>NZ.andThen (qd _ _ _) (fun _ _=>NZ.andThen (iX _ _ _ _) (fun _ _=>NZ.ok _)))
theorem Zg {l:List Lx.Tk}{en d:Nat}{prev:Nat→au Sy.Ex}(h:d=0∨∀ p,NZ (prev p))(p:Nat):NZ (named l en d prev p):=NZ.andThen (qd _ _ _) (fun _ _=>NZ.ite (NZ.andThen (O6 h _) (fun _ _=>NZ.ok _)) (NZ.ok _))
theorem O7 {l:List Lx.Tk}{en d:Nat}{prev:Nat→au Sy.Ex}(h:d=0∨∀ p,NZ (prev p))(p:Nat):NZ (pU l en d prev p):=NZ.andThen (iX _ _ _ _) (fun _ _=>NZ.andThen (yn h _) (fun _ _=>NZ.andThen (iX _ _ _ _) (fun _ _=>NZ.ok _)))
theorem Zh {l:List Lx.Tk}{en d:Nat}{prev:Nat→au Sy.Ex}(h:d=0∨∀ p,NZ (prev p))(p:Nat):NZ (uo l en d prev p) :=
 NZ.andThen (iX _ _ _ _) (fun _ _=>NZ.andThen (yn h _) (fun _ _=>NZ.andThen (iX _ _ _ _) (fun _ _=>NZ.andThen (yn h _) (fun _ _=>NZ.andThen (iX _ _ _ _) (fun _ _=>NZ.ok _)))))
theorem Zi {l:List Lx.Tk}{en d:Nat}{prev:Nat→au Sy.Ex}(h:d=0∨∀ p,NZ (prev p))(p:Nat):NZ (piece l en d prev p):=by
 unfold piece
 refine NZ.ite (NZ.ok _) (NZ.ite (NZ.andThen (yn h _) (fun _ _=>NZ.andThen (iX _ _ _ _) (fun _ _=>NZ.ok _))) (NZ.ite (NZ.ok _) (NZ.ite (NZ.ok _) (NZ.ite (NZ.andThen (qd _ _ _) (fun _ _=>NZ.andThen (O6 h _) (fun _ _=>NZ.ok _))) (NZ.ite (Zf _ _ _) (NZ.ite (NZ.andThen (O7 h _) (fun _ _=>NZ.ok _)) (NZ.ite (NZ.andThen (O7 h _) (fun _ _=>NZ.ok _)) (NZ.ite (NZ.andThen (Zh h _) (fun _ _=>NZ.ok _)) (Zg h _)))))))))
theorem O8 {l:List Lx.Tk}{en d:Nat}{prev:Nat→au Sy.Ex}(h:d=0∨∀ p,NZ (prev p))(p:Nat):NZ (lM l en d prev p):=NZ.ite (O5 h _ _) (NZ.ite (O5 h _ _) (Zi h _))
theorem O9 (l:List Lx.Tk)(en:Nat):∀ d p,NZ (ahead l en d p)
 | 0,p=>O8 (.inl rfl) p
 | d+1,p=>O8 (.inr (O9 l en d)) p
theorem Ak (l:List Lx.Tk)(en d p:Nat):NZ (ex l en d p):=yn (by cases d with | zero=>exact .inl rfl | succ d=>exact .inr (O9 l en d)) p
theorem Pb (l:List Lx.Tk)(en d:Nat)(k:Int)(p:Nat):NZ (setting l en d k p):=NZ.andThen (qd _ _ _) (fun _ _=>NZ.andThen (iX _ _ _ _) (fun _ _=>NZ.andThen (Ak _ _ _ _) (fun _ _=>NZ.andThen (iX _ _ _ _) (fun _ _=>NZ.ok _))))
theorem Ip (l:List Lx.Tk)(en d:Nat)(k:Int)(p:Nat):NZ (saying l en d k p):=NZ.andThen (Ak _ _ _ _) (fun _ _=>NZ.andThen (iX _ _ _ _) (fun _ _=>NZ.ok _))
theorem Zj (l:List Lx.Tk)(en d p:Nat):NZ (sending l en d p):=NZ.andThen (qd _ _ _) (fun _ _=>NZ.andThen (Ak _ _ _ _) (fun _ _=>NZ.andThen (iX _ _ _ _) (fun _ _=>NZ.ok _)))
theorem Zk (l:List Lx.Tk)(en p:Nat):NZ (zC l en p):=NZ.andThen (iX _ _ _ _) (fun _ _=>NZ.ok _)
theorem Zl {l:List Lx.Tk}{en d:Nat}{bd:Nat→au (List Sy.St)}(hb:∀ p,NZ (bd p))(p:Nat):NZ (xP l en d bd p):=NZ.andThen (Ak _ _ _ _) (fun _ _=>NZ.andThen (hb _) (fun _ _=>NZ.ok _))
theorem Zm {l:List Lx.Tk}{en d:Nat}{bd:Nat→au (List Sy.St)}(hb:∀ p,NZ (bd p))(p:Nat):NZ (choice l en d bd p):=NZ.andThen (Ak _ _ _ _) (fun _ _=>NZ.andThen (hb _) (fun _ _=>NZ.ite (NZ.andThen (hb _) (fun _ _=>NZ.ok _)) (NZ.ok _)))
theorem Zn {l:List Lx.Tk}{en d:Nat}{bd:Nat→au (List Sy.St)}(hb:∀ p,NZ (bd p))(p:Nat):NZ (stat l en d bd p) :=
 NZ.ite (Pb _ _ _ _ _) (NZ.ite (Zm hb _) (NZ.ite (Zl hb _) (NZ.ite (Zk _ _ _) (NZ.ite (Zj _ _ _ _) (NZ.ite (Ip _ _ _ _ _) (NZ.ite (Ip _ _ _ _ _) (NZ.ite (Ip _ _ _ _ _) (Pb _ _ _ _ _))))))))
theorem Pd {l:List Lx.Tk}{en:Nat}{st:Nat→au Sy.St}(hs:∀ p,NZ (st p)):∀ (f:Nat) (out:List Sy.St) (p:Nat),NZ (stats l en st f out p)
 | 0,out,p=>NZ.ok _
 | f+1,out,p=>by
  rw [stats]
  refine NZ.ite (NZ.ok _) ?_
  split
  ·rename_i h;exact fun e' he=>by simp at he;rw [← he];exact Im h
  ·exact NZ.andThen (hs _) (fun _ _=>Pd hs f _ _)
theorem Dx (l:List Lx.Tk)(en:Nat):∀ d p,NZ (body l en d p)
 | 0,p=>NZ.andThen (iX _ _ _ _) (fun _ _=>NZ.err (by decide))
 | d+1,p=>NZ.andThen (iX _ _ _ _) (fun _ _=>Pd (Zn (Dx l en d)) _ _ _)
theorem Pe (l:List Lx.Tk)(en p:Nat):NZ (params l en p):=O4 (fun _=>NZ.andThen (qd _ _ _) (fun _ _=>NZ.andThen (Aj _ _ _) (fun _ _=>NZ.ok _))) p
theorem Zo (l:List Lx.Tk)(en p:Nat):NZ (df l en p):=by
 unfold df
 refine NZ.ite ?_ (NZ.ite ?_ (NZ.ite ?_ ?_))
 ·exact NZ.andThen (iX _ _ _ _) (fun _ _=>NZ.andThen (qd _ _ _) (fun _ _=>NZ.andThen (Aj _ _ _) (fun _ _=>NZ.andThen (Ze _ _ _) (fun _ _=>NZ.andThen (iX _ _ _ _) (fun _ _=>NZ.ok _)))))
 ·exact NZ.andThen (iX _ _ _ _) (fun _ _=>NZ.andThen (qd _ _ _) (fun _ _=>NZ.andThen (Pe _ _ _) (fun _ _=>NZ.andThen (Aj _ _ _) (fun _ _=>NZ.andThen (Dx _ _ _ _) (fun _ _=>NZ.ok _)))))
 ·exact NZ.andThen (iX _ _ _ _) (fun _ _=>NZ.andThen (qd _ _ _) (fun _ _=>NZ.andThen (Pe _ _ _) (fun _ _=>NZ.andThen (iX _ _ _ _) (fun _ _=>NZ.andThen (Aj _ _ _) (fun _ _=>NZ.andThen (iX _ _ _ _) (fun _ _=>NZ.andThen (Aj _ _ _) (fun _ _=>NZ.andThen (Dx _ _ _ _) (fun _ _=>NZ.ok _))))))))
 ·exact NZ.andThen (iX _ _ _ _) (fun _ _=>NZ.andThen (qd _ _ _) (fun _ _=>NZ.andThen (Dx _ _ _ _) (fun _ _=>NZ.ok _)))
theorem Pf (l:List Lx.Tk)(en:Nat):∀ (f:Nat) (out:List Sy.Df) (p:Nat),NZ (fH l en f out p)
 | 0,out,p=>NZ.ok _
 | f+1,out,p=>by
  rw [fH]
  refine NZ.ite (NZ.ok _) ?_
  split
  ·rename_i h;exact fun e' he=>by simp at he;rw [← he];exact Im h
  ·exact NZ.andThen (Zo _ _ _) (fun _ _=>Pf l en f _ _)
theorem Zp (l:List Lx.Tk)(en:Nat):NZ (program l en):=Pf l en _ _ _
end Rp
namespace Lx
theorem Zq {l:List UInt8}{K N M:Nat}(h:dP l=(0,K,N,M)):M≤1000000000000000:=by
 unfold dP at h
 split at h
 ·simp at h
 ·rename_i c r
  split at h
  ·simp at h;omega
  ·split at h
   ·split at h
    ·simp at h
    ·rename_i hs
     simp only [Prod.mk.injEq] at h
     obtain ⟨_,_,_,rfl⟩:=h
     have h1:=La ((c :: r).take (span dB (c :: r))) (EY dB (c :: r))
     have h2:((c :: r).take (span dB (c :: r))).length≤15:=by simp;omega
     have h3:10 ^ ((c :: r).take (span dB (c :: r))).length≤10 ^ 15:=Nat.pow_le_pow_right (by decide) h2
     omega
   ·split at h
    ·simp at h
    ·simp at h;omega
theorem Pg:∀ (f:Nat) (s:ByteArray) (a:Nat),a≤s.size→(lexFrom f s a).1.length+a≤s.size∧∀ t ∈ (lexFrom f s a).1,t.text.size≤s.size∧t.num≤1000000000000000
 | 0,s,a,ha=>⟨by simp [lexFrom];exact ha,fun t ht=>by simp [lexFrom] at ht⟩
 | f+1,s,a,ha=>by
  by_cases he:s.size≤place s a
  ·rw [EZ rfl he];exact ⟨by simpa using ha,fun t ht=>by simp at ht⟩
  ·obtain ⟨E,K,N,M,hF⟩:∃ E K N M,dP (s.data.toList.drop (place s a))=(E,K,N,M):=⟨_,_,_,_,rfl⟩
   by_cases hE:E=0
   ·subst hE
    have hl:=Ci hF
    have hN:=(Ld hF).1
    have hM:=Zq hF
    have hsz:s.data.size=s.size:=rfl
    simp only [List.length_drop,Array.length_toList] at hl
    have hpl:a≤place s a:=by unfold place;omega
    obtain ⟨i1,i2⟩:=Pg f s (place s a+N) (by omega)
    rw [E5 rfl he hF]
    refine ⟨by simp;omega,fun t ht=>?_⟩
    rcases List.mem_cons.1 ht with rfl | ht
    ·refine ⟨?_,hM⟩
     show (s.extract (place s a) (place s a+N)).size≤s.size
     simp [ByteArray.size_extract]
     omega
    ·exact i2 t ht
   ·rw [Le rfl he hF hE]
    exact ⟨by simpa using ha,fun t ht=>by simp at ht⟩
theorem rz (s:ByteArray):(lexB s).1.length≤6000∧zu (lexB s).1:=by
 unfold lexB
 split
 ·exact ⟨by simp,fun t ht=>by simp at ht⟩
 ·rename_i h
  obtain ⟨i1,i2⟩:=Pg (s.size+1) s 0 (Nat.zero_le _)
  split
  ·exact ⟨by omega,fun t ht=>by have:=i2 t ht;omega⟩
  ·exact ⟨by simp,fun t ht=>by simp at ht⟩
end Lx
end Go.Proofs.YtolfleeidpeomaaGreatDoor

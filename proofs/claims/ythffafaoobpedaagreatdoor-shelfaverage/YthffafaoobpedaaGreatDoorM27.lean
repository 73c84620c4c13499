/- The walk of owners. -/
import Derived.Test.YthffafaoobpedaaGreatDoorM21
import Derived.Test.YthffafaoobpedaaGreatDoorM26
import Derived.Maps.RangeWalk
set_option maxRecDepth 100000
set_option maxHeartbeats 6000000
namespace Go.Proofs.YthffafaoobpedaaGreatDoor
open Go.RowKit
theorem M8 {l:LL}{e:MapEntry}(h:e ∈ bK l 0):∃ i p,l[i]?=some p∧e={ key:=dJ p.1,val:=.int .i64 p.2,born:=i }:=by
 obtain ⟨i,hi⟩:=List.getElem?_of_mem h
 rw [AZ] at hi
 obtain ⟨p,hp,rfl⟩:=Option.map_eq_some_iff.1 hi
 exact ⟨i,p,hp,by simp⟩
theorem XK (l:LL):((bK l 0).map (·.born)).Nodup:=by
 have:∀ (l:LL) (i:Nat),(bK l i).map (·.born)=List.range' i l.length:=by
  intro l
  induction l with
  | nil=>intro i;rfl
  | cons p r ih=>intro i;simp only [bK,List.map_cons,ih,List.length_cons,List.range'_succ]
 rw [this]
 exact List.nodup_range'
abbrev tN (M:Nat) (G:LL) (seen:Array Nat):Obj:=.mapIter (some M) G.length seen G.length
theorem XL {w:World}{I M:Nat}{G:LL}{seen:Array Nat}(hI:w.heap[I]?=some (tN M G seen))(hM:dO w M G)(ty:TypeId) :
  ((∀ i,i < G.length→i ∈ seen.toList)∧(Instr.next (.pointer (some ⟨I,0,none⟩)) false ty).run Tryz.prog w=.ok (.tuple #[.bool false]) w) ∨
  ∃ i p w1,G[i]?=some p∧i ∉ seen.toList∧(Instr.next (.pointer (some ⟨I,0,none⟩)) false ty).run Tryz.prog w=.ok (.tuple #[.bool true,dJ p.1,.int .i64 p.2]) w1∧w1.heap[I]?=some (tN M G (seen.push i))∧w.grownBy w1 (some I)∧w1.heap.size=w.heap.size∧(Instr.entry (.pointer (some ⟨I,0,none⟩))).run Tryz.prog w1=.ok (.tuple #[dJ p.1,.int .i64 p.2]) w1:=by
 have XM:M≠I:=fun e=>by
  subst e
  have:=hM
  unfold dO at this
  rw [hI] at this
  cases this
 rcases run_next_at (P:=Tryz.prog) w ty I M G.length G.length seen (bK G 0).toArray G.length hI hM (fun x hx=>by
  obtain ⟨i,p,hp,rfl⟩:=M8 (by simpa using hx)
  exact (List.getElem?_eq_some_iff.1 hp).1) (Nat.le_refl _) with ⟨h0,hr⟩ | ⟨e,he,w1,hw1,hr⟩
 ·refine .inl ⟨fun i hi=>?_,hr⟩
  by_cases hs:i ∈ seen.toList
  ·exact hs
  ·exfalso
   have hx:(bK G 0)[i]?=some { key:=dJ G[i].1,val:=.int .i64 G[i].2,born:=0+i }:=by
    rw [AZ,List.getElem?_eq_getElem hi]
    rfl
   have hmem:({ key:=dJ G[i].1,val:=.int .i64 G[i].2,born:=0+i }:MapEntry) ∈ leftOf (bK G 0).toArray seen:=by
    unfold leftOf
    rw [Array.mem_filter]
    refine ⟨by simpa using List.mem_of_getElem? hx,?_⟩
    simp only [Nat.zero_add]
    simpa using hs
   have:=Array.size_pos_of_mem hmem
   omega
 ·have he':e ∈ leftOf (bK G 0).toArray seen:=by simpa using he
  unfold leftOf at he'
  rw [Array.mem_filter] at he'
  obtain ⟨h1,h2⟩:=he'
  have h1':e ∈ bK G 0:=by simpa using h1
  obtain ⟨i,p,hp,rfl⟩:=M8 h1'
  have hI1:w1.heap[I]?=some (tN M G seen):=by rcases hw1 with rfl | rfl <;> exact hI
  have hM1:dO w1 M G:=by rcases hw1 with rfl | rfl <;> exact hM
  have hsz:w1.heap.size=w.heap.size:=by rcases hw1 with rfl | rfl <;> rfl
  have hg1:w.grownBy w1 (some I):=by
   rcases hw1 with rfl | rfl
   ·exact fC _ _
   ·exact iQ (fC _ _)
  obtain ⟨m1,m2⟩:=MapKept.heap_set (o':=tN M G (seen.push i)) hI1
  refine .inr ⟨i,p,_,hp,by simpa using h2,hr,m1,?_,?_,?_⟩
  ·exact bg hg1 ⟨rfl,rfl,rfl,by simp [Go.ChangeMaps.setBlock],fun k _ hne=>m2 k (fun e=>hne (by rw [e]))⟩
  ·simp [Go.ChangeMaps.setBlock,hsz]
  ·refine run_entry_at (P:=Tryz.prog) _ I M G.length seen (bK G 0).toArray G.length { key:=dJ p.1,val:=.int .i64 p.2,born:=i } m1 ?_ (by simpa using h1') (by simpa using XK G)
   exact (m2 M XM).trans hM1
def tO (G:LL)(seen:List Nat):Nat:=(List.range G.length).countP (fun i=>decide (i ∉ seen))
theorem XN {G:LL}{seen:List Nat}{i:Nat}(hi:i < G.length)(hs:i ∉ seen):tO G (seen ++ [i])+1≤tO G seen:=by
 refine Vf.EL (fun x hx=>?_) (List.mem_range.2 hi) (by simpa using hs) (by simp)
 simp at hx ⊢
 exact hx.1
def FE (G:LL)(f:Lk→Int)(W0:World)(T M I gk:Nat)(W:World):Prop :=
 ∃ seen:Array Nat,W.heap[I]?=some (tN M G seen)∧dO W M G∧eH W T (fun q=>f q+told G seen.toList q)∧(∀ i ∈ seen.toList,i < G.length)∧tO G seen.toList≤gk∧W0.grownBy W (some T)
def tz (m:Vf.Md)(q:Lk)(k:Nat):Int:=if q.1=26∨q.1=27 then (Vf.tc m q k:Int) else 0
structure XO (m:Vf.Md) (W0:World) (T k:Nat) (W:World):Prop where
 le:k≤m.units.length
 tk:eH W T (fun q=>tz m q k)
 grown:W0.grownBy W (some T)
theorem eH.bump {w:World}{T:Nat}{f:Lk→Int}(h:eH w T f)(k:Lk):∃ w1 w2 n,(Instr.lookup 140 (.map (some T)) (dJ k) false).run Tryz.prog w=.ok (.int .i64 (f k)) w∧(Instr.mapEntry 140 (.map (some T)) (dJ k)).run Tryz.prog w=.ok (.tuple #[.int .i64 (f k),goInt n]) w1∧(Instr.lookup 140 (.map (some T)) (dJ k) false).run Tryz.prog w1=.ok (.int .i64 (f k)) w1 ∧
  (Instr.entryStore 140 (.map (some T)) (.int .i64 n) (.int .i64 (f k+1))).run Tryz.prog w1=.ok () w2∧eH w2 T (fun q=>f q+if q=k then 1 else 0)∧w.grownBy w1 (some T)∧w.grownBy w2 (some T):=by
 obtain ⟨l,h1,h2,h3⟩:=h
 obtain ⟨w1,w2,b1,b2,b3,b4,b5,b6⟩:=VR h1 k
 have b0:=EJ h1 k
 rw [h3] at b0 b1 b2 b3
 refine ⟨w1,w2,_,b0,b1,b2,b3,⟨_,b4,h2.bump k,fun q=>?_⟩,b5,b6⟩
 show Vf.cnt q (Vf.bump k l)=f q+if q=k then 1 else 0
 rw [Vf.qQ]
 by_cases e:q=k
 ·subst e
  rw [if_pos rfl,if_pos rfl,h3]
 ·rw [if_neg e,if_neg e,h3]
  omega
theorem XP {w:World}{M:Nat}{G:LL}(h:dO w M G):(Instr.range 140 (.map (some M))).run Tryz.prog w=.ok (.pointer (some ⟨w.heap.size,0,none⟩)) (w.alloc (tN M G #[])):=by
 have hg:(getObj M).run Tryz.prog w=.ok (.map (bK G 0).toArray G.length) w:=MapKept.run_getObj_map h
 have hu:=run_underlying (P:=Tryz.prog) (w:=w) Tryz.underlying140
 simp [Instr.range,hu,hg]
theorem eH.look {w:World}{T:Nat}{f:Lk→Int}(h:eH w T f)(k:Lk):(Instr.lookup 140 (.map (some T)) (dJ k) false).run Tryz.prog w=.ok (.int .i64 (f k)) w:=by
 obtain ⟨l,h1,h2,h3⟩:=h
 have b0:=EJ h1 k
 rw [h3] at b0
 exact b0
theorem yG {w:World}{T:Nat}{f g:Lk→Int}(h:eH w T f)(e:∀ q,f q=g q):eH w T g:=by
 obtain ⟨l,h1,h2,h3⟩:=h
 exact ⟨l,h1,h2,fun q=>(h3 q).trans (e q)⟩
theorem M9 (m:Vf.Md)(q:Lk)(k:Nat):0≤tz m q k∧tz m q k≤k:=by
 have:=Vf.VV m q k
 unfold tz
 split <;> omega
theorem eH.wl {w:World}{T:Nat}{f:Lk→Int}(h:eH w T f):∃ l,dO w T l∧Vf.Wl l∧∀ q,Vf.cnt q l=f q:=h
abbrev Bi (M:Nat):Obj:=.cells #[.map (some M)] 140 (0,0)
def Mine (P M:Nat)(ts:List Lk)(w:World):Prop:=w.heap[P]?=some (Bi M)∧eH w M (fun q=>(ts.count q:Int))
theorem XQ (P M:Nat)(ts:List Lk)(op a:Int)(w:World)(hI:Hid (Mine P M ts w))(hl:ts.length≤130000) :
  Calls Tryz.prog 61 #[.int .i64 op,.int .i64 a,.pointer (some ⟨P,0,none⟩)] w fun e w'=>e=.returned (.tuple #[])∧Mine P M (ts ++ [(op,a)]) w'∧w.grownBy w' (some M):=by
 obtain ⟨hP,hT⟩:=hI.out
 have hT1:eH w.drew M (fun q=>(ts.count q:Int)):=hT
 obtain ⟨w3,w4,nn,b0,b1,b2,b3,b4,b5,b6⟩:=hT1.bump (op,a)
 have c0:w.cell? ⟨P,0,none⟩=some (.map (some M)):=by simp [World.cell?,hP]
 have Na:P≠M:=by
  rintro rfl
  obtain ⟨l,h1,_⟩:=hT
  unfold dO at h1
  rw [h1] at hP
  cases hP
 have HE:Hid (Mine P M (ts ++ [(op,a)]) w4):=⟨((iH b6).block _ (lt_of_block hP) (by simpa using Na)).trans hP,yG b4 (fun q=>by
  show (ts.count q:Int)+(if q=(op,a) then 1 else 0)=((ts ++ [(op,a)]).count q:Int)
  rw [List.count_append,List.count_singleton]
  by_cases e:q=(op,a)
  ·rw [if_pos e,e];simp
  ·rw [if_neg e,if_neg (by simpa using fun h=>e h.symm)];simp)⟩
 have HG:Hid (w.grownBy w4 (some M)):=iH b6
 obtain ⟨n0,hn0⟩:∃ n0:Int,n0=(ts.count (op,a):Int):=⟨_,rfl⟩
 have hn2:n0≤130000:=by have:=List.count_le_length (a:=(op,a)) (l:=ts);omega
 have hn1:0≤n0:=by omega
 rw [← hn0] at b0 b1 b2 b3
 have ew:IntKind.i64.wrap (n0+1)=n0+1:=by simp [IntKind.wrap,IntKind.bits,IntKind.signed];omega
 clear hP hT hT1 b4 b5 b6 Na hn0
 go_enter Tryz.func61,Tryz.ntmps61
 go_wp2_with fail
 go_region
 all_goals
  go_wp2
  go_end0
  exact ⟨rfl,HE.out,HG.out⟩
theorem XR (m:Vf.Md)(ab au:Option Addr)(cb cu B:Nat)(w:World)(hmd:Hid (bn B w m ab au))(hB:B≤w.heap.size)(hR:Hid (Rt m))(hnb:m.boxes.length≤30)(er num:Int)(hr:Hid ((er,num)=((Vf.vM m).1,((Vf.vM m).2:Int)))) :
  Calls Tryz.prog 33 #[fw m ab au cb cu] w fun e w'=>e=.returned (dm er 0 num)∧w.grownBy w' none:=by
 have hmm:∀ w:World,(Instr.makeMap 140 Option.none).run Tryz.prog w=.ok (.map (some w.heap.size)) (w.alloc (.map #[] 0)):=fun _=>rfl
 have hmu:m.units.length≤30:=hR.out.units
 obtain ⟨W0,hW0⟩:∃ W0:World,((w.alloc (gT m ab au cb cu)).alloc cZ).alloc (.map #[] 0)=W0:=⟨_,rfl⟩
 obtain ⟨t0,t1,t2,t3⟩:=yA w (gT m ab au cb cu) cZ (.map #[] 0)
 rw [hW0] at t0 t1 t2 t3
 have HT0:=hide t0
 have HT1:=hide t1
 have HT2:=hide t2
 have HT3:Hid (eH W0 (w.heap.size+1+1) (fun q=>tz m q 0)):=⟨[],t3,Vf.Wl.nil,fun q=>by show Vf.cnt q []=tz m q 0;unfold tz;split <;> rfl⟩
 have HW0:=hide hW0
 have adF:w.heap.size+1+1 < W0.heap.size:=lt_of_block t3
 clear t0 t1 t2 t3 hW0
 go_enter Tryz.func33,Tryz.ntmps33
 go_wp2
 go_loopw [14] (fun v wr=>∃ k:Nat,v=.int .i64 k∧XO m W0 (w.heap.size+1+1) k wr) (fun v _=>m.units.length - (intOf v).toNat)
 case atStart=>exact ⟨0,rfl,Nat.zero_le _,by rw [HW0.out];exact HT3.out,by rw [HW0.out];exact fC _ _⟩
 case round =>
  obtain ⟨k,rfl,hA⟩:=hrel
  have HA:=hide hA
  have hk:=hA.le
  have hgz:=hA.grown.size
  have hmb:wr.heap[w.heap.size]?=some (gT m ab au cb cu):=(HA.out.grown.block _ (lt_of_block HT1.out) (by simp;omega)).trans HT1.out
  have yC:=hide hmb
  have yB:Hid (wr.heap[w.heap.size+1]?=some cZ):=(HA.out.grown.block _ (lt_of_block HT2.out) (by simp)).trans HT2.out
  have oq:Hid (bn B wr m ab au):=hmd.out.low (fun j hj=>(HA.out.grown.block j (by omega) (by simp;omega)).trans (bX HT0.out (by omega)))
  have Nb:Hid (w.heap.size+1+1 < wr.heap.size):=HA.out.tk.lt
  have Nc:=Nb.out
  have hwz:w.heap.size < wr.heap.size:=by omega
  have adG:w.heap.size+1 < wr.heap.size:=by omega
  obtain ⟨x0,x1⟩:=mq hmb
  clear hA hmb
  by_cases hlt:k < m.units.length
  ·obtain ⟨u,hu⟩:∃ u,m.units[k]?=some u:=⟨_,List.getElem?_eq_getElem hlt⟩
   obtain ⟨b,off,al,cl,ac,cc,ha,hb,gG,u0,u1,u2,u3,u4,u5⟩:=oq.out.units k u hu
   have hk1:(k:Int) < (m.units.length:Int):=by omega
   have HIS:Hid (Vf.is m 4 (k:Int)=(u.kind == 4)):=Li hu
   have lC:=hide ha
   have hbw:b < wr.heap.size:=by omega
   rw [ha] at x1
   clear hu gG ha
   rw [lC.out]
   by_cases h4:u.kind=4
   ·have e4:(u.kind != 4)=false:=by simp [h4]
    have XT:Hid (Vf.is m 4 (k:Int)=true):=by rw [HIS.out,h4];rfl
    obtain ⟨W1,hW1⟩:∃ W1:World,((wr.alloc (bf u al ac cl cc)).alloc (.map #[] 0)).alloc (Bi (wr.heap.size+1))=W1:=⟨_,rfl⟩
    obtain ⟨hT1,_,hM1,hP1⟩:=yA wr (bf u al ac cl cc) (.map #[] 0) (Bi (wr.heap.size+1))
    rw [hW1] at hT1 hM1 hP1
    have xz:Hid (bn B W1 m ab (some ⟨b,off,none⟩)):=by rw [← lC.out];exact oq.out.low (fU hT1 (by omega))
    have yH:=hide hT1
    have HI1:Hid (Mine (wr.heap.size+1+1) (wr.heap.size+1) [] W1):=⟨hP1,[],hM1,Vf.Wl.nil,fun q=>rfl⟩
    have HW1:=hide hW1
    have XU:wr.heap.size+1+1 < W1.heap.size:=lt_of_block hP1
    have Nf:(((wr.alloc (bf u al ac cl cc)).alloc (.map #[] 0)).alloc (Bi (wr.heap.size+1))).heap[w.heap.size]?=some (gT m ab (some ⟨b,off,none⟩) cb cu):=by rw [HW1.out,← lC.out];exact (bX yH.out hwz).trans yC.out
    obtain ⟨y0,y1⟩:=mq Nf
    have XV:Hid (Ff 61 #[.pointer (some ⟨wr.heap.size+1+1,0,none⟩)] W1.heap.size (wr.heap.size+1) (Mine (wr.heap.size+1+1) (wr.heap.size+1))) :=
     ⟨fun ts w w' h k=>⟨(k _ XU).trans h.1,h.2.keep (k _ (by omega))⟩,fun ts op a w h hl=>XQ _ _ ts op a w h hl⟩
    clear h4 hW1 hT1 hM1 hP1 Nf
    go_wp2_with fail
    rw [HW1.out]
    refine (XJ m ab (some ⟨b,off,none⟩) cb cu B k (wr.heap.size+1) 61 #[.pointer (some ⟨wr.heap.size+1+1,0,none⟩)] _ _ xz (by omega) hR hlt (by omega) (by omega) (fun vs w'=>by first | rfl | kernel_rfl | simp [go_sem]) XV HI1).mono ?_
    rintro e w2 ⟨rfl,hg2,ts,⟨hP2,G,hL2,Ng,hcn⟩,hts⟩
    have Nh:=hide Ng
    have hrg:=XP hL2
    have c2:w2.cell? ⟨wr.heap.size+1+1,0,none⟩=some (.map (some (wr.heap.size+1))):=by simp [World.cell?,hP2]
    have Ni:W0.grownBy w2 (some (w.heap.size+1+1)):=sV (sW HA.out.grown yH.out) hg2 (.inl (by omega))
    have FH:eH w2 (w.heap.size+1+1) (fun q=>tz m q k):=(HA.out.tk.keep (bX yH.out Nc)).keep (hg2.block _ (by have:=yH.out.size;omega) (by simp;omega))
    have Nj:Hid (FE G (fun q=>tz m q k) W0 (w.heap.size+1+1) (wr.heap.size+1) w2.heap.size (tO G []) (w2.alloc (tN (wr.heap.size+1) G #[]))) :=
     ⟨#[],heap_alloc_new _ _,hL2.alloc _,yG (FH.keep (Below.heap_alloc _ _ _ FH.lt)) (fun q=>by simp [told]),fun i hi=>(by cases hi),Nat.le_refl _,sW Ni (aT (World.grownBy.refl _ _) _)⟩
    have adH:=yH.out.size
    have hz2:=hg2.size
    have hz3:W1.heap.size=wr.heap.size+1+1+1:=by rw [← HW1.out];simp
    have wh:Hid (∀ q,tz m q (k+1)=tz m q k+if (decide (1≤Vf.cnt q G))=true then 1 else 0):=fun q=>by
     have e:(decide (1≤Vf.cnt q G))=true ↔ (q.1=26∨q.1=27)∧Vf.comes m k q=true:=by
      have hc':Vf.cnt q G=(ts.count q:Int):=hcn q
      rw [← hts q,hc',decide_eq_true_iff,← List.count_pos_iff]
      omega
     unfold tz
     by_cases hq:q.1=26∨q.1=27
     ·have e3:decide (1≤Vf.cnt q G)=Vf.comes m k q:=by rw [Bool.eq_iff_iff,e];exact ⟨fun h=>h.2,fun h=>⟨hq,h⟩⟩
      rw [if_pos hq,if_pos hq,Vf.LX,XT.out,e3]
      cases Vf.comes m k q <;> simp
     ·rw [if_neg hq,if_neg hq,if_neg (fun h=>hq (e.1 h).1)]
      rfl
    clear hL2 hg2 Ni FH Ng hcn hts hP2 y0 y1 u0 u1 u2 u3 u4 u5 x0 x1
    generalize hIe:w2.heap.size=I at *
    generalize XW:wr.heap.size=N at *
    have hIN:N+1 < I:=by omega
    have iw:Hid (w.heap.size+1+1 < N):=Nc
    clear hIe XW
    go_wp2_with fail
    go_loopg [] (tO G []) (fun gk wr'=>FE G (fun q=>tz m q k) W0 (w.heap.size+1+1) (N+1) I gk wr')
    case atStart=>exact Nj.out
    case round =>
     obtain ⟨seen,hI,hM,hT,hsl,hleft,hgW⟩:=hrel
     clear Nj hrg
     rcases XL hI hM 0 with ⟨hall,hnx⟩ | ⟨i,p,w1,hp,hi,hnx,hI1,hg1,hz1,hen⟩
     ·have XX:Hid (eH wr (w.heap.size+1+1) (fun q=>tz m q (k+1))):=yG hT (fun q=>by rw [VY Nh.out hall hsl,wh.out])
      have XY:=hide hgW
      clear hI hM hT hsl hleft hgW hall
      go_wp2
      go_roundw
      case rel=>exact ⟨k+1,by go_num,hlt,XX.out,XY.out⟩
      case measure=>simp [intOf];omega
     ·have hilt:i < G.length:=(List.getElem?_eq_some_iff.1 hp).1
      have hTI:w.heap.size+1+1≠I:=by omega
      have hT1:eH w1 (w.heap.size+1+1) (fun q=>tz m q k+told G seen.toList q):=hT.keep (hg1.block _ hT.lt (by simp;omega))
      have hM1:dO w1 (N+1) G:=hM.keep (hg1.block _ hM.lt (by simp;omega))
      obtain ⟨W5,gK⟩:∃ W5:World,w1.alloc (Fe p.1)=W5:=⟨_,rfl⟩
      have Nk:eH W5.drew (w.heap.size+1+1) (fun q=>tz m q k+told G seen.toList q):=by rw [← gK];exact hT1.keep (Below.heap_alloc _ _ _ hT1.lt)
      obtain ⟨w3,w4,nn,b0,b1,b2,b3,b4,b5,b6⟩:=Nk.bump p.1
      have hk5:W5.heap[w1.heap.size]?=some (Fe p.1):=by rw [← gK];exact heap_alloc_new _ _
      obtain ⟨q0,q1⟩:=Wp hk5
      obtain ⟨n0,hn0⟩:∃ n0:Int,n0=tz m p.1 k+told G seen.toList p.1:=⟨_,rfl⟩
      have hn1:0≤n0:=by have:=M9 m p.1 k;rw [hn0];unfold told;split <;> omega
      have hn2:n0≤31:=by have:=M9 m p.1 k;rw [hn0];unfold told;split <;> omega
      have ew:IntKind.i64.wrap (n0+1)=n0+1:=by simp [IntKind.wrap,IntKind.bits,IntKind.signed];omega
      rw [← hn0] at b0 b1 b2 b3
      have hg5:w1.grownBy w4 (some (w.heap.size+1+1)):=by
       have h5:w1.grownBy W5 none:=by rw [← gK];exact aT (World.grownBy.refl _ _) _
       exact bg (Fa h5) (iH b6)
      have XZ:Hid (FE G (fun q=>tz m q k) W0 (w.heap.size+1+1) (N+1) I (tO G (seen.toList ++ [i])) w4):=by
       refine ⟨seen.push i,(hg5.block _ (lt_of_block hI1) (by simp;omega)).trans hI1,hM1.keep (hg5.block _ hM1.lt (by simp;omega)),yG b4 (fun q=>?_),fun x hx=>?_,by rw [Array.toList_push];exact Nat.le_refl _,sV (sV hgW hg1 (.inl (by omega))) hg5 (.inr rfl)⟩
       ·rw [Array.toList_push,VX Nh.out hp hi q]
        show (tz m q k+told G seen.toList q)+(if q=p.1 then 1 else 0)=tz m q k+(told G seen.toList q+if q=p.1 then 1 else 0)
        omega
       ·rw [Array.toList_push] at hx
        rcases List.mem_append.1 hx with h | h
        ·exact hsl x h
        ·simp at h;omega
      have X0:=hide (XN hilt hi)
      have Ka:=hide hleft
      have jm:=hide gK
      clear hI hM hT hsl hleft hgW hI1 hg1 hz1 hT1 hM1 Nk hk5 hn0 b4 b5 b6 gK hg5 hp hi
      go_wp2_with fail
      rw [jm.out]
      go_region
      all_goals
       go_wp2
       go_roundg (tO G (seen.toList ++ [i]))
       case measure=>have h1:=X0.out;have h2:=Ka.out;omega
       case rel=>exact XZ.out
   ·have e4:(u.kind != 4)=true:=by simpa using h4
    have wh:Hid (∀ q,tz m q (k+1)=tz m q k):=fun q=>by unfold tz;rw [Vf.LX,HIS.out];simp [h4]
    clear h4
    go_wp2
    go_roundw
    case rel=>exact ⟨k+1,by go_num,hlt,yG (HA.out.tk.keep (Below.heap_alloc _ _ _ Nb.out)) (fun q=>by rw [wh.out]),sW HA.out.grown (aT (World.grownBy.refl _ _) _)⟩
    case measure=>simp [intOf];omega
  ·obtain rfl:k=m.units.length:=by omega
   have pE:=hide HA.out.tk
   have yI:=hide HA.out.grown
   obtain ⟨⟨z0,z1,z2⟩,y0,y1,y2⟩:=dP yB.out
   have HG:Hid (w.grownBy wr none):=⟨yI.out.os.trans HT0.out.os,yI.out.tape.trans HT0.out.tape,yI.out.output.trans HT0.out.output,Nat.le_trans HT0.out.size yI.out.size,fun j hj _=>(yI.out.block j (by have:=HT0.out.size;omega) (by simp;omega)).trans (HT0.out.block j hj (by simp))⟩
   clear HA
   go_wp2
   go_loopw [45] (fun v wr'=>∃ n:Nat,v=.int .i64 n∧n≤m.boxes.length∧wr'=wr∧Hid ((er,num)=((Vf.cO (Vf.kM m) ((List.range m.boxes.length).drop n) n).1,((Vf.cO (Vf.kM m) ((List.range m.boxes.length).drop n) n).2:Int)))) (fun v _=>m.boxes.length - (intOf v).toNat)
   case atStart=>exact ⟨0,rfl,Nat.zero_le _,rfl,hr.out⟩
   case round =>
    obtain ⟨n,rfl,hnl,X3,HF⟩:=hrel
    subst X3
    by_cases hn:n < m.boxes.length
    ·have hx:(List.range m.boxes.length)[n]?=some n:=by rw [List.getElem?_range hn]
     have bO:Hid ((er,num)=if Vf.kM m n=0 then ((Vf.cO (Vf.kM m) ((List.range m.boxes.length).drop (n+1)) (n+1)).1,((Vf.cO (Vf.kM m) ((List.range m.boxes.length).drop (n+1)) (n+1)).2:Int)) else (Vf.kM m n,(n:Int))):=by
      unfold Hid
      rw [HF.out,Fu _ hx]
      split <;> rfl
     have X4:_=Result.ok (Value.int .i64 (Vf.tc m (26,(n:Int)) m.units.length:Int)) _:=pE.out.look (26,(n:Int))
     have X5:_=Result.ok (Value.int .i64 (Vf.tc m (27,(n:Int)) m.units.length:Int)) _:=pE.out.look (27,(n:Int))
     obtain ⟨a26,FI⟩:∃ a:Nat,a=Vf.tc m (26,(n:Int)) m.units.length:=⟨_,rfl⟩
     obtain ⟨a27,FJ⟩:∃ a:Nat,a=Vf.tc m (27,(n:Int)) m.units.length:=⟨_,rfl⟩
     rw [← FI] at X4
     rw [← FJ] at X5
     have tQ:Hid (Vf.kM m n=if 1 < a26∨1 < a27 then 8 else 0):=by unfold Hid;unfold Vf.kM;rw [FI,FJ]
     clear hx FI FJ HF
     by_cases bE:1 < a26
     ·have d1:decide (1 < a26)=true:=by simpa using bE
      have HE:Hid (er=8∧num=(n:Int)):=by
       have h1:=bO.out
       have ho:Vf.kM m n=8:=by rw [tQ.out,if_pos (Or.inl bE)]
       rw [ho,if_neg (by decide)] at h1
       cases h1
       exact ⟨rfl,rfl⟩
      go_wp2
      refine bodyPost_ret (v:=dm 8 0 (n:Int)) (by simp [results,Tryz.results33,go_sem,z0,z1,z2]) rfl ?_
      rw [HE.out.1,HE.out.2]
      exact ⟨rfl,aR (aR (aR HG.out (by omega) _ _) (by omega) _ _) (by omega) _ _⟩
     ·have d1:decide (1 < a26)=false:=by simpa using bE
      by_cases h27:1 < a27
      ·have d2:decide (1 < a27)=true:=by simpa using h27
       have HE:Hid (er=8∧num=(n:Int)):=by
        have h1:=bO.out
        have ho:Vf.kM m n=8:=by rw [tQ.out,if_pos (Or.inr h27)]
        rw [ho,if_neg (by decide)] at h1
        cases h1
        exact ⟨rfl,rfl⟩
       go_wp2
       refine bodyPost_ret (v:=dm 8 0 (n:Int)) (by simp [results,Tryz.results33,go_sem,z0,z1,z2]) rfl ?_
       rw [HE.out.1,HE.out.2]
       exact ⟨rfl,aR (aR (aR HG.out (by omega) _ _) (by omega) _ _) (by omega) _ _⟩
      ·have d2:decide (1 < a27)=false:=by simpa using h27
       have HE:Hid ((er,num)=((Vf.cO (Vf.kM m) ((List.range m.boxes.length).drop (n+1)) (n+1)).1,((Vf.cO (Vf.kM m) ((List.range m.boxes.length).drop (n+1)) (n+1)).2:Int))):=by
        have h1:=bO.out
        have ho:Vf.kM m n=0:=by rw [tQ.out,if_neg (by rintro (h | h);exact bE h;exact h27 h)]
        rw [ho,if_pos rfl] at h1
        exact h1
       go_wp2
       go_roundw
       case rel=>exact ⟨n+1,by go_num,hn,trivial,HE⟩
       case measure=>simp [intOf];omega
    ·have HE:Hid (er=0∧num=0):=by
      have h1:=HF.out
      rw [List.drop_eq_nil_of_le (by simp;omega)] at h1
      cases h1
      exact ⟨rfl,rfl⟩
     go_wp2
     refine bodyPost_ret (v:=dm 0 0 0) (by simp [results,Tryz.results33,go_sem,z0,z1,z2]) rfl ?_
     rw [HE.out.1,HE.out.2]
     exact ⟨rfl,aR (aR (aR HG.out (by omega) _ _) (by omega) _ _) (by omega) _ _⟩
namespace Vf
def qg (m:Md):Int:=if 30 < m.boxes.length∨30 < m.units.length then 5 else 0
def jT (b:Bx):Int:=if plain b.ty=false then 9 else if b.cap < 1∨20 < b.cap then 3 else 0
def wm (m:Md):Int × Nat:=cO jT m.boxes 0
def FK (m:Md):Int:=if m.units.any (fun u=>u.kind == 4) then 0 else 6
end Vf
theorem X6 (m:Vf.Md)(ab au:Option Addr)(cb cu:Nat)(w:World)(er:Int)(hr:Hid (er=Vf.qg m)) :
  Calls Tryz.prog 28 #[fw m ab au cb cu] w fun e w'=>e=.returned (dm er 0 0)∧w.grownBy w' none:=by
 go_enter Tryz.func28,Tryz.ntmps28
 go_wp2
 all_goals
  first
  | (refine bodyPost_ret (v:=dm 5 0 0) (by simp [results,Tryz.results28,go_sem]) rfl ?_;have HE:er=5:=(by rw [hr.out,Vf.qg,if_pos (by omega)]);rw [HE];exact ⟨rfl,fA _ _ _⟩)
  | (refine bodyPost_ret (v:=dm 0 0 0) (by simp [results,Tryz.results28,go_sem]) rfl ?_;have HE:er=0:=(by rw [hr.out,Vf.qg,if_neg (by omega)]);rw [HE];exact ⟨rfl,fA _ _ _⟩)
structure X7 (m:Vf.Md) (W0:World) (er num:Int) (k:Nat) (W:World):Prop where
 le:k≤m.boxes.length
 grown:W0.grownBy W none
 rest:(er,num)=((Vf.cO Vf.jT (m.boxes.drop k) k).1,((Vf.cO Vf.jT (m.boxes.drop k) k).2:Int))
theorem X8 (m:Vf.Md)(ab au:Option Addr)(cb cu B:Nat)(w:World)(hmd:Hid (bn B w m ab au))(hB:B≤w.heap.size)(er num:Int)(hr:Hid ((er,num)=((Vf.wm m).1,((Vf.wm m).2:Int)))) :
  Calls Tryz.prog 29 #[fw m ab au cb cu] w fun e w'=>e=.returned (dm er 0 num)∧w.grownBy w' none:=by
 have dx:=hmd.out.few.1
 obtain ⟨W0,hW0⟩:∃ W0:World,(w.alloc (gT m ab au cb cu)).alloc cZ=W0:=⟨_,rfl⟩
 have HT:Hid (w.grownBy W0 none):=by rw [← hW0];exact fA _ _ _
 have q8:Hid (W0.heap[w.heap.size+1]?=some cZ):=by rw [← hW0];exact vY _ _ _
 have HW0:=hide hW0
 clear hW0
 go_enter Tryz.func29,Tryz.ntmps29
 go_wp2
 go_loopw [9] (fun v wr=>∃ k:Nat,v=.int .i64 k∧X7 m W0 er num k wr) (fun v _=>m.boxes.length - (intOf v).toNat)
 case atStart=>exact ⟨0,rfl,Nat.zero_le _,by rw [← HW0.out];exact World.grownBy.refl _ _,hr.out⟩
 case round =>
  obtain ⟨k,rfl,hA⟩:=hrel
  have HA:=hide hA
  have hk:=hA.le
  have HG:Hid (w.grownBy wr none):=bY HT.out HA.out.grown
  have hwz:wr.heap[w.heap.size+1]?=some cZ:=(bX HA.out.grown (lt_of_block q8.out)).trans q8.out
  obtain ⟨⟨z0,z1,z2⟩,y0,y1,y2⟩:=dP hwz
  have hzl:=lt_of_block hwz
  have mD:=hide hwz
  clear hA hwz
  by_cases hlt:k < m.boxes.length
  ·obtain ⟨x,hx⟩:∃ x,m.boxes[k]?=some x:=⟨_,List.getElem?_eq_getElem hlt⟩
   obtain ⟨i1,i2,b,off,ha,hb,b0,b1⟩:=(hmd.out.low (fU HG.out hB)).boxes k x hx
   have HN:Hid ((er,num)=if Vf.jT x=0 then ((Vf.cO Vf.jT (m.boxes.drop (k+1)) (k+1)).1,((Vf.cO Vf.jT (m.boxes.drop (k+1)) (k+1)).2:Int)) else (Vf.jT x,(k:Int))):=by
    unfold Hid
    rw [HA.out.rest,Fu _ hx]
    split <;> rfl
   have X9:=hide ha
   obtain ⟨p,hp⟩:∃ p,p=Vf.plain x.ty:=⟨_,rfl⟩
   have HP:=hide hp
   have tQ:Hid (Vf.jT x=if p=false then 9 else if x.cap < 1∨20 < x.cap then 3 else 0):=by unfold Hid;unfold Vf.jT;rw [hp]
   have hk1:(k:Int) < (m.boxes.length:Int):=by omega
   clear hx ha hp
   rw [X9.out]
   go_wp2_with fail
   refine (kK x.ty _ p HP).mono ?_
   rintro e w2 ⟨rfl,hw2⟩
   subst hw2
   cases p with
   | false =>
    have HE:Hid (er=9∧num=(k:Int)):=by
     have h1:=HN.out
     have ho:Vf.jT x=9:=tQ.out
     rw [ho,if_neg (by decide)] at h1
     cases h1
     exact ⟨rfl,rfl⟩
    go_wp2
    have hX:=mr mD.out (.int .i64 9) (.int .i64 0) (.int .i64 (k:Int))
    obtain ⟨⟨g0,g1,g2⟩,_⟩:=dP ((Below.heap_alloc _ (.cells #[.int .i64 x.ty,.int .i64 x.cap] 73) _ (lt_of_block hX)).trans hX)
    refine bodyPost_ret (v:=dm 9 0 (k:Int)) (by simp [results,Tryz.results29,go_sem,g0,g1,g2]) rfl ?_
    rw [HE.out.1,HE.out.2]
    exact ⟨rfl,aT (aR (aR (aR HG.out (by omega) _ _) (by omega) _ _) (by omega) _ _) _⟩
   | true =>
    by_cases hc:x.cap < 1∨20 < x.cap
    ·have HE:Hid (er=3∧num=(k:Int)):=by
      have h1:=HN.out
      have ho:Vf.jT x=3:=by rw [tQ.out,if_neg (by decide),if_pos hc]
      rw [ho,if_neg (by decide)] at h1
      cases h1
      exact ⟨rfl,rfl⟩
     rcases hc with hc | hc
     ·have d1:decide (x.cap < 1)=true:=by simpa using hc
      go_wp2
      have hX:=mr mD.out (.int .i64 3) (.int .i64 0) (.int .i64 (k:Int))
      obtain ⟨⟨g0,g1,g2⟩,_⟩:=dP ((Below.heap_alloc _ (.cells #[.int .i64 x.ty,.int .i64 x.cap] 73) _ (lt_of_block hX)).trans hX)
      refine bodyPost_ret (v:=dm 3 0 (k:Int)) (by simp [results,Tryz.results29,go_sem,g0,g1,g2]) rfl ?_
      rw [HE.out.1,HE.out.2]
      exact ⟨rfl,aT (aR (aR (aR HG.out (by omega) _ _) (by omega) _ _) (by omega) _ _) _⟩
     ·have d1:decide (x.cap < 1)=false:=by simp;omega
      have d2:decide (20 < x.cap)=true:=by simpa using hc
      go_wp2
      have hX:=mr mD.out (.int .i64 3) (.int .i64 0) (.int .i64 (k:Int))
      obtain ⟨⟨g0,g1,g2⟩,_⟩:=dP ((Below.heap_alloc _ (.cells #[.int .i64 x.ty,.int .i64 x.cap] 73) _ (lt_of_block hX)).trans hX)
      refine bodyPost_ret (v:=dm 3 0 (k:Int)) (by simp [results,Tryz.results29,go_sem,g0,g1,g2]) rfl ?_
      rw [HE.out.1,HE.out.2]
      exact ⟨rfl,aT (aR (aR (aR HG.out (by omega) _ _) (by omega) _ _) (by omega) _ _) _⟩
    ·have d1:decide (x.cap < 1)=false:=by simp;omega
     have d2:decide (20 < x.cap)=false:=by simp;omega
     have HE:Hid ((er,num)=((Vf.cO Vf.jT (m.boxes.drop (k+1)) (k+1)).1,((Vf.cO Vf.jT (m.boxes.drop (k+1)) (k+1)).2:Int))):=by
      have h1:=HN.out
      have ho:Vf.jT x=0:=by rw [tQ.out,if_neg (by decide),if_neg hc]
      rw [ho,if_pos rfl] at h1
      exact h1
     clear hc
     go_wp2
     go_roundw
     case rel=>exact ⟨k+1,by go_num,hlt,aT HA.out.grown _,HE.out⟩
     case measure=>simp [intOf];omega
  ·have HE:Hid (er=0∧num=0):=by
    have h1:=HA.out.rest
    rw [List.drop_eq_nil_of_le (by omega)] at h1
    cases h1
    exact ⟨rfl,rfl⟩
   go_wp2
   refine bodyPost_ret (v:=dm 0 0 0) (by simp [results,Tryz.results29,go_sem,z0,z1,z2]) rfl ?_
   rw [HE.out.1,HE.out.2]
   exact ⟨rfl,aR (aR (aR HG.out (by omega) _ _) (by omega) _ _) (by omega) _ _⟩
structure wo (m:Vf.Md) (W0:World) (er:Int) (k:Nat) (W:World):Prop where
 le:k≤m.units.length
 grown:W0.grownBy W none
 rest:er=if (m.units.drop k).any (fun u=>u.kind == 4) then 0 else 6
theorem FL (m:Vf.Md)(ab au:Option Addr)(cb cu B:Nat)(w:World)(hmd:Hid (bn B w m ab au))(hB:B≤w.heap.size)(er:Int)(hr:Hid (er=Vf.FK m)) :
  Calls Tryz.prog 31 #[fw m ab au cb cu] w fun e w'=>e=.returned (dm er 0 0)∧w.grownBy w' none:=by
 have dx:=hmd.out.few.2
 obtain ⟨W0,hW0⟩:∃ W0:World,(w.alloc (gT m ab au cb cu)).alloc cZ=W0:=⟨_,rfl⟩
 have HT:Hid (w.grownBy W0 none):=by rw [← hW0];exact fA _ _ _
 have q8:Hid (W0.heap[w.heap.size+1]?=some cZ):=by rw [← hW0];exact vY _ _ _
 have HW0:=hide hW0
 clear hW0
 go_enter Tryz.func31,Tryz.ntmps31
 go_wp2
 go_loopw [9] (fun v wr=>∃ k:Nat,v=.int .i64 k∧wo m W0 er k wr) (fun v _=>m.units.length - (intOf v).toNat)
 case atStart=>exact ⟨0,rfl,Nat.zero_le _,by rw [← HW0.out];exact World.grownBy.refl _ _,hr.out⟩
 case round =>
  obtain ⟨k,rfl,hA⟩:=hrel
  have HA:=hide hA
  have hk:=hA.le
  have HG:Hid (w.grownBy wr none):=bY HT.out HA.out.grown
  have hwz:wr.heap[w.heap.size+1]?=some cZ:=(bX HA.out.grown (lt_of_block q8.out)).trans q8.out
  obtain ⟨⟨z0,z1,z2⟩,y0,y1,y2⟩:=dP hwz
  have hzl:=lt_of_block hwz
  have mD:=hide hwz
  clear hA hwz
  by_cases hlt:k < m.units.length
  ·obtain ⟨u,hu⟩:∃ u,m.units[k]?=some u:=⟨_,List.getElem?_eq_getElem hlt⟩
   obtain ⟨b,off,al,cl,ac,cc,ha,hb,gG,u0,u1,u2,u3,u4,u5⟩:=(hmd.out.low (fU HG.out hB)).units k u hu
   have HN:Hid (er=if (u.kind == 4 || (m.units.drop (k+1)).any (fun u=>u.kind == 4)) then 0 else 6):=by
    unfold Hid
    obtain ⟨hk',hte⟩:=List.getElem?_eq_some_iff.1 hu
    rw [HA.out.rest,List.drop_eq_getElem_cons hk',hte,List.any_cons]
   have lC:=hide ha
   have hk1:(k:Int) < (m.units.length:Int):=by omega
   clear hu ha gG
   rw [lC.out]
   cases e4:(u.kind == 4) with
   | true =>
    have HE:Hid (er=0):=by rw [HN.out,e4];rfl
    go_wp2
    have hX:=mr mD.out (.int .i64 0) (.int .i64 0) (.int .i64 0)
    obtain ⟨⟨g0,g1,g2⟩,_⟩:=dP ((Below.heap_alloc _ (bf u al ac cl cc) _ (lt_of_block hX)).trans hX)
    refine bodyPost_ret (v:=dm 0 0 0) (by simp [results,Tryz.results31,go_sem,g0,g1,g2]) rfl ?_
    rw [HE.out]
    exact ⟨rfl,aT (aR (aR (aR HG.out (by omega) _ _) (by omega) _ _) (by omega) _ _) _⟩
   | false =>
    have HE:Hid (er=if (m.units.drop (k+1)).any (fun u=>u.kind == 4) then 0 else 6):=by rw [HN.out,e4];rfl
    go_wp2
    go_roundw
    case rel=>exact ⟨k+1,by go_num,hlt,aT HA.out.grown _,HE.out⟩
    case measure=>simp [intOf];omega
  ·have HE:Hid (er=6):=by unfold Hid;rw [HA.out.rest,List.drop_eq_nil_of_le (by omega)];rfl
   go_wp2
   refine bodyPost_ret (v:=dm 6 0 0) (by simp [results,Tryz.results31,go_sem,z0,z1,z2]) rfl ?_
   rw [HE.out]
   exact ⟨rfl,aR (aR (aR HG.out (by omega) _ _) (by omega) _ _) (by omega) _ _⟩
namespace Vf
def looks (m:Md):Nat→Int × Int × Int
 | 0=>(qg m,0,0)
 | 1=>((wm m).1,0,((wm m).2:Int))
 | 2=>jA (ib m) m.units 0
 | 3=>(FK m,0,0)
 | 4=>jA (gN m) m.units 0
 | _=>((vM m).1,0,((vM m).2:Int))
def from' (m:Md):Nat→Nat→Int × Int × Int
 | 0,_=>(0,0,0)
 | n+1,k=>if (looks m k).1=0 then from' m n (k+1) else looks m k
def verify (m:Md):Int × Int × Int:=from' m 6 0
theorem FM (f:Un→Int × Nat):∀ (l:List Un) (k:Nat),(jA f l k).1=0→∀ u ∈ l,(f u).1=0
 | [],_,_,u,hu=>by cases hu
 | v :: l,k,h,u,hu=>by
  unfold jA at h
  split at h
  ·rename_i h0
   rcases List.mem_cons.1 hu with rfl | hu
   ·exact h0
   ·exact FM f l (k+1) h u hu
  ·rename_i h0
   exact absurd h h0
theorem FN {α:Type}(f:α→Int):∀ (l:List α) (k:Nat),(cO f l k).1=0→∀ x ∈ l,f x=0
 | [],_,_,u,hu=>by cases hu
 | v :: l,k,h,u,hu=>by
  unfold cO at h
  split at h
  ·rename_i h0
   rcases List.mem_cons.1 hu with rfl | hu
   ·exact h0
   ·exact FN f l (k+1) h u hu
  ·rename_i h0
   exact absurd h h0
theorem Ya {m:Md}{u:Un}(h:(ib m u).1=0):fM m u=0∧Forms m u:=by
 unfold ib at h
 split at h
 ·rename_i h0
  exact ⟨h0,fun c hc=>FN _ _ _ h c hc⟩
 ·rename_i h0
  exact absurd h h0
end Vf
theorem Bj {m:Vf.Md}(h0:(Vf.looks m 0).1=0)(h1:(Vf.looks m 1).1=0)(h2:(Vf.looks m 2).1=0):Rt m∧m.boxes.length≤30:=by
 have h0':Vf.qg m=0:=h0
 unfold Vf.qg at h0'
 split at h0'
 ·cases h0'
 ·rename_i hs
  refine ⟨⟨by omega,fun k b hb=>?_,fun k u hu=>Vf.Ya (Vf.FM _ _ _ h2 u (List.mem_of_getElem? hu))⟩,by omega⟩
  have:=Vf.FN _ _ _ (show (Vf.cO Vf.jT m.boxes 0).1=0 from h1) b (List.mem_of_getElem? hb)
  unfold Vf.jT at this
  split at this
  ·cases this
  ·rename_i hp
   simpa using hp
abbrev Yb (m:Vf.Md) (ab au:Option Addr) (cb cu:Nat):Array Value:=#[.func (.func 28) #[fw m ab au cb cu] #[],.func (.func 29) #[fw m ab au cb cu] #[],.func (.func 30) #[fw m ab au cb cu] #[],.func (.func 31) #[fw m ab au cb cu] #[],.func (.func 32) #[fw m ab au cb cu] #[],.func (.func 33) #[fw m ab au cb cu] #[]]
abbrev Bl (m:Vf.Md) (ab au:Option Addr) (cb cu:Nat):Obj:=.cells (Yb m ab au cb cu) 68 (0,0)
structure Yc (m:Vf.Md) (W0:World) (r:Int × Int × Int) (k:Nat) (W:World):Prop where
 le:k≤6
 grown:W0.grownBy W none
 ok:∀ j,j < k→(Vf.looks m j).1=0
 rest:r=Vf.from' m (6 - k) k
theorem Yd (m:Vf.Md)(ab au:Option Addr)(cb cu B N:Nat)(w:World)(hmd:Hid (bn B w m ab au))(hB:B≤w.heap.size)(hN:Hid (w.heap[N]?=some (Bl m ab au cb cu)))(r:Int × Int × Int)(hr:Hid (r=Vf.verify m)) :
  Calls Tryz.prog 27 #[.slice (some ⟨N,0,none⟩) 6 6] w fun e w'=>e=.returned (dm r.1 r.2.1 r.2.2)∧w.grownBy w' none:=by
 obtain ⟨W0,hW0⟩:∃ W0:World,w.alloc cZ=W0:=⟨_,rfl⟩
 have HT:Hid (w.grownBy W0 none):=by rw [← hW0];exact aT (World.grownBy.refl _ _) _
 have q8:Hid (W0.heap[w.heap.size]?=some cZ):=by rw [← hW0];exact heap_alloc_new _ _
 have HW0:=hide hW0
 clear hW0
 go_enter Tryz.func27,Tryz.ntmps27
 go_wp2
 go_loopw [8] (fun v wr=>∃ k:Nat,v=.int .i64 k∧Yc m W0 r k wr) (fun v _=>6 - (intOf v).toNat)
 case atStart=>exact ⟨0,rfl,by omega,by rw [← HW0.out];exact World.grownBy.refl _ _,fun j hj=>by omega,hr.out⟩
 case round =>
  obtain ⟨k,rfl,hA⟩:=hrel
  have HA:=hide hA
  have hk:=hA.le
  have HG:Hid (w.grownBy wr none):=bY HT.out HA.out.grown
  have hwz:wr.heap[w.heap.size]?=some cZ:=(bX HA.out.grown (lt_of_block q8.out)).trans q8.out
  obtain ⟨⟨z0,z1,z2⟩,y0,y1,y2⟩:=dP hwz
  have hzl:=lt_of_block hwz
  have mD:=hide hwz
  have hLk:wr.heap[N]?=some (Bl m ab au cb cu):=(bX HG.out (lt_of_block hN.out)).trans hN.out
  have HM:Hid (bn B wr m ab au):=hmd.out.low (fU HG.out hB)
  have hBr:B≤wr.heap.size:=by omega
  obtain ⟨e1,u1,n1,hl⟩:∃ e1 u1 n1,(e1,u1,n1)=Vf.looks m k:=⟨_,_,_,rfl⟩
  have HL:=hide hl
  clear hA hwz hl
  rcases (by omega:k=0∨k=1∨k=2∨k=3∨k=4∨k=5∨k=6) with rfl | rfl | rfl | rfl | rfl | rfl | rfl
  ·skip
   have aZ:Hid (e1=Vf.qg m):=congrArg (fun x:Int × Int × Int=>x.1) HL.out
   obtain rfl:u1=0:=congrArg (fun x:Int × Int × Int=>x.2.1) HL.out
   obtain rfl:n1=0:=congrArg (fun x:Int × Int × Int=>x.2.2) HL.out
   have ck:wr.cell? ⟨N,0,none⟩=some (.func (.func 28) #[fw m ab au cb cu] #[]):=by simp [World.cell?,hLk]
   clear hLk
   go_wp2_with fail
   refine (X6 m ab au cb cu _ e1 (hide aZ.out)).mono ?_
   rintro e w2 ⟨rfl,hg2⟩
   have HG2:Hid (W0.grownBy w2 none):=bY HA.out.grown hg2
   have dQ:w2.heap[w.heap.size]?=some cZ:=(bX hg2 hzl).trans mD.out
   obtain ⟨⟨p0,p1,p2⟩,q0,q1,q2⟩:=dP dQ
   have HW2:=hide dQ
   have yJ:=lt_of_block dQ
   clear hg2 dQ ck z0 z1 z2 y0 y1 y2
   by_cases h0:e1=0
   ·have e0:(e1 != 0)=false:=by simpa using h0
    have HN:Hid (r=Vf.from' m (6 - (0+1)) (0+1)):=by
     have:=HA.out.rest
     rw [show 6 - 0=(6 - (0+1))+1 from rfl,Vf.from',← HL.out,if_pos h0] at this
     exact this
    have HO:Hid (∀ j,j < 0+1→(Vf.looks m j).1=0):=fun j hj=>by
     by_cases hj':j < 0
     ·exact HA.out.ok j hj'
     ·obtain rfl:j=0:=by omega
      rw [← HL.out]
      exact h0
    clear h0
    go_wp2
    go_roundw
    case rel=>exact ⟨0+1,rfl,by omega,aT HG2.out _,HO.out,HN.out⟩
    case measure=>simp [intOf]
   ·have e0:(e1 != 0)=true:=by simpa using h0
    have HN:Hid (r=(e1,0,0)):=by
     have:=HA.out.rest
     rw [show 6 - 0=(6 - (0+1))+1 from rfl,Vf.from',← HL.out,if_neg h0] at this
     exact this
    clear h0
    go_wp2
    have hX:=mr HW2.out (.int .i64 e1) (.int .i64 0) (.int .i64 0)
    obtain ⟨⟨g0,g1,g2⟩,_⟩:=dP ((Below.heap_alloc _ (.cells #[.int .i64 e1,.int .i64 0,.int .i64 0] 44) _ (lt_of_block hX)).trans hX)
    refine bodyPost_ret (v:=dm e1 0 0) (by simp [results,Tryz.results27,go_sem,g0,g1,g2]) rfl ?_
    rw [HN.out]
    exact ⟨rfl,aT (aR (aR (aR (bY HT.out HG2.out) (by omega) _ _) (by omega) _ _) (by omega) _ _) _⟩
  ·skip
   have aZ:Hid ((e1,n1)=((Vf.wm m).1,((Vf.wm m).2:Int))):=congrArg (fun x:Int × Int × Int=>(x.1,x.2.2)) HL.out
   obtain rfl:u1=0:=congrArg (fun x:Int × Int × Int=>x.2.1) HL.out
   have ck:wr.cell? ⟨N,1,none⟩=some (.func (.func 29) #[fw m ab au cb cu] #[]):=by simp [World.cell?,hLk]
   clear hLk
   go_wp2_with fail
   refine (X8 m ab au cb cu B _ HM hBr e1 n1 (hide aZ.out)).mono ?_
   rintro e w2 ⟨rfl,hg2⟩
   have HG2:Hid (W0.grownBy w2 none):=bY HA.out.grown hg2
   have dQ:w2.heap[w.heap.size]?=some cZ:=(bX hg2 hzl).trans mD.out
   obtain ⟨⟨p0,p1,p2⟩,q0,q1,q2⟩:=dP dQ
   have HW2:=hide dQ
   have yJ:=lt_of_block dQ
   clear hg2 dQ ck z0 z1 z2 y0 y1 y2
   by_cases h0:e1=0
   ·have e0:(e1 != 0)=false:=by simpa using h0
    have HN:Hid (r=Vf.from' m (6 - (1+1)) (1+1)):=by
     have:=HA.out.rest
     rw [show 6 - 1=(6 - (1+1))+1 from rfl,Vf.from',← HL.out,if_pos h0] at this
     exact this
    have HO:Hid (∀ j,j < 1+1→(Vf.looks m j).1=0):=fun j hj=>by
     by_cases hj':j < 1
     ·exact HA.out.ok j hj'
     ·obtain rfl:j=1:=by omega
      rw [← HL.out]
      exact h0
    clear h0
    go_wp2
    go_roundw
    case rel=>exact ⟨1+1,rfl,by omega,aT HG2.out _,HO.out,HN.out⟩
    case measure=>simp [intOf]
   ·have e0:(e1 != 0)=true:=by simpa using h0
    have HN:Hid (r=(e1,0,n1)):=by
     have:=HA.out.rest
     rw [show 6 - 1=(6 - (1+1))+1 from rfl,Vf.from',← HL.out,if_neg h0] at this
     exact this
    clear h0
    go_wp2
    have hX:=mr HW2.out (.int .i64 e1) (.int .i64 0) (.int .i64 n1)
    obtain ⟨⟨g0,g1,g2⟩,_⟩:=dP ((Below.heap_alloc _ (.cells #[.int .i64 e1,.int .i64 0,.int .i64 n1] 44) _ (lt_of_block hX)).trans hX)
    refine bodyPost_ret (v:=dm e1 0 n1) (by simp [results,Tryz.results27,go_sem,g0,g1,g2]) rfl ?_
    rw [HN.out]
    exact ⟨rfl,aT (aR (aR (aR (bY HT.out HG2.out) (by omega) _ _) (by omega) _ _) (by omega) _ _) _⟩
  ·skip
   have hmu:m.units.length≤30:=by
    have h0:Vf.qg m=0:=HA.out.ok 0 (by omega)
    unfold Vf.qg at h0
    split at h0
    ·cases h0
    ·omega
   have ck:wr.cell? ⟨N,2,none⟩=some (.func (.func 30) #[fw m ab au cb cu] #[]):=by simp [World.cell?,hLk]
   clear hLk
   go_wp2_with fail
   refine (XH m ab au cb cu B _ HM hBr hmu e1 u1 n1 HL).mono ?_
   rintro e w2 ⟨rfl,hg2⟩
   have HG2:Hid (W0.grownBy w2 none):=bY HA.out.grown hg2
   have dQ:w2.heap[w.heap.size]?=some cZ:=(bX hg2 hzl).trans mD.out
   obtain ⟨⟨p0,p1,p2⟩,q0,q1,q2⟩:=dP dQ
   have HW2:=hide dQ
   have yJ:=lt_of_block dQ
   clear hg2 dQ ck z0 z1 z2 y0 y1 y2
   by_cases h0:e1=0
   ·have e0:(e1 != 0)=false:=by simpa using h0
    have HN:Hid (r=Vf.from' m (6 - (2+1)) (2+1)):=by
     have:=HA.out.rest
     rw [show 6 - 2=(6 - (2+1))+1 from rfl,Vf.from',← HL.out,if_pos h0] at this
     exact this
    have HO:Hid (∀ j,j < 2+1→(Vf.looks m j).1=0):=fun j hj=>by
     by_cases hj':j < 2
     ·exact HA.out.ok j hj'
     ·obtain rfl:j=2:=by omega
      rw [← HL.out]
      exact h0
    clear h0
    go_wp2
    go_roundw
    case rel=>exact ⟨2+1,rfl,by omega,aT HG2.out _,HO.out,HN.out⟩
    case measure=>simp [intOf]
   ·have e0:(e1 != 0)=true:=by simpa using h0
    have HN:Hid (r=(e1,u1,n1)):=by
     have:=HA.out.rest
     rw [show 6 - 2=(6 - (2+1))+1 from rfl,Vf.from',← HL.out,if_neg h0] at this
     exact this
    clear h0
    go_wp2
    have hX:=mr HW2.out (.int .i64 e1) (.int .i64 u1) (.int .i64 n1)
    obtain ⟨⟨g0,g1,g2⟩,_⟩:=dP ((Below.heap_alloc _ (.cells #[.int .i64 e1,.int .i64 u1,.int .i64 n1] 44) _ (lt_of_block hX)).trans hX)
    refine bodyPost_ret (v:=dm e1 u1 n1) (by simp [results,Tryz.results27,go_sem,g0,g1,g2]) rfl ?_
    rw [HN.out]
    exact ⟨rfl,aT (aR (aR (aR (bY HT.out HG2.out) (by omega) _ _) (by omega) _ _) (by omega) _ _) _⟩
  ·skip
   have aZ:Hid (e1=Vf.FK m):=congrArg (fun x:Int × Int × Int=>x.1) HL.out
   obtain rfl:u1=0:=congrArg (fun x:Int × Int × Int=>x.2.1) HL.out
   obtain rfl:n1=0:=congrArg (fun x:Int × Int × Int=>x.2.2) HL.out
   have ck:wr.cell? ⟨N,3,none⟩=some (.func (.func 31) #[fw m ab au cb cu] #[]):=by simp [World.cell?,hLk]
   clear hLk
   go_wp2_with fail
   refine (FL m ab au cb cu B _ HM hBr e1 (hide aZ.out)).mono ?_
   rintro e w2 ⟨rfl,hg2⟩
   have HG2:Hid (W0.grownBy w2 none):=bY HA.out.grown hg2
   have dQ:w2.heap[w.heap.size]?=some cZ:=(bX hg2 hzl).trans mD.out
   obtain ⟨⟨p0,p1,p2⟩,q0,q1,q2⟩:=dP dQ
   have HW2:=hide dQ
   have yJ:=lt_of_block dQ
   clear hg2 dQ ck z0 z1 z2 y0 y1 y2
   by_cases h0:e1=0
   ·have e0:(e1 != 0)=false:=by simpa using h0
    have HN:Hid (r=Vf.from' m (6 - (3+1)) (3+1)):=by
     have:=HA.out.rest
     rw [show 6 - 3=(6 - (3+1))+1 from rfl,Vf.from',← HL.out,if_pos h0] at this
     exact this
    have HO:Hid (∀ j,j < 3+1→(Vf.looks m j).1=0):=fun j hj=>by
     by_cases hj':j < 3
     ·exact HA.out.ok j hj'
     ·obtain rfl:j=3:=by omega
      rw [← HL.out]
      exact h0
    clear h0
    go_wp2
    go_roundw
    case rel=>exact ⟨3+1,rfl,by omega,aT HG2.out _,HO.out,HN.out⟩
    case measure=>simp [intOf]
   ·have e0:(e1 != 0)=true:=by simpa using h0
    have HN:Hid (r=(e1,0,0)):=by
     have:=HA.out.rest
     rw [show 6 - 3=(6 - (3+1))+1 from rfl,Vf.from',← HL.out,if_neg h0] at this
     exact this
    clear h0
    go_wp2
    have hX:=mr HW2.out (.int .i64 e1) (.int .i64 0) (.int .i64 0)
    obtain ⟨⟨g0,g1,g2⟩,_⟩:=dP ((Below.heap_alloc _ (.cells #[.int .i64 e1,.int .i64 0,.int .i64 0] 44) _ (lt_of_block hX)).trans hX)
    refine bodyPost_ret (v:=dm e1 0 0) (by simp [results,Tryz.results27,go_sem,g0,g1,g2]) rfl ?_
    rw [HN.out]
    exact ⟨rfl,aT (aR (aR (aR (bY HT.out HG2.out) (by omega) _ _) (by omega) _ _) (by omega) _ _) _⟩
  ·skip
   have HR:Hid (Rt m):=(Bj (HA.out.ok 0 (by omega)) (HA.out.ok 1 (by omega)) (HA.out.ok 2 (by omega))).1
   have ck:wr.cell? ⟨N,4,none⟩=some (.func (.func 32) #[fw m ab au cb cu] #[]):=by simp [World.cell?,hLk]
   clear hLk
   go_wp2_with fail
   refine (XI m ab au cb cu B _ HM hBr HR e1 u1 n1 HL).mono ?_
   rintro e w2 ⟨rfl,hg2⟩
   have HG2:Hid (W0.grownBy w2 none):=bY HA.out.grown hg2
   have dQ:w2.heap[w.heap.size]?=some cZ:=(bX hg2 hzl).trans mD.out
   obtain ⟨⟨p0,p1,p2⟩,q0,q1,q2⟩:=dP dQ
   have HW2:=hide dQ
   have yJ:=lt_of_block dQ
   clear hg2 dQ ck z0 z1 z2 y0 y1 y2
   by_cases h0:e1=0
   ·have e0:(e1 != 0)=false:=by simpa using h0
    have HN:Hid (r=Vf.from' m (6 - (4+1)) (4+1)):=by
     have:=HA.out.rest
     rw [show 6 - 4=(6 - (4+1))+1 from rfl,Vf.from',← HL.out,if_pos h0] at this
     exact this
    have HO:Hid (∀ j,j < 4+1→(Vf.looks m j).1=0):=fun j hj=>by
     by_cases hj':j < 4
     ·exact HA.out.ok j hj'
     ·obtain rfl:j=4:=by omega
      rw [← HL.out]
      exact h0
    clear h0
    go_wp2
    go_roundw
    case rel=>exact ⟨4+1,rfl,by omega,aT HG2.out _,HO.out,HN.out⟩
    case measure=>simp [intOf]
   ·have e0:(e1 != 0)=true:=by simpa using h0
    have HN:Hid (r=(e1,u1,n1)):=by
     have:=HA.out.rest
     rw [show 6 - 4=(6 - (4+1))+1 from rfl,Vf.from',← HL.out,if_neg h0] at this
     exact this
    clear h0
    go_wp2
    have hX:=mr HW2.out (.int .i64 e1) (.int .i64 u1) (.int .i64 n1)
    obtain ⟨⟨g0,g1,g2⟩,_⟩:=dP ((Below.heap_alloc _ (.cells #[.int .i64 e1,.int .i64 u1,.int .i64 n1] 44) _ (lt_of_block hX)).trans hX)
    refine bodyPost_ret (v:=dm e1 u1 n1) (by simp [results,Tryz.results27,go_sem,g0,g1,g2]) rfl ?_
    rw [HN.out]
    exact ⟨rfl,aT (aR (aR (aR (bY HT.out HG2.out) (by omega) _ _) (by omega) _ _) (by omega) _ _) _⟩
  ·skip
   have HR:Hid (Rt m):=(Bj (HA.out.ok 0 (by omega)) (HA.out.ok 1 (by omega)) (HA.out.ok 2 (by omega))).1
   have hnb:m.boxes.length≤30:=(Bj (HA.out.ok 0 (by omega)) (HA.out.ok 1 (by omega)) (HA.out.ok 2 (by omega))).2
   have aZ:Hid ((e1,n1)=((Vf.vM m).1,((Vf.vM m).2:Int))):=congrArg (fun x:Int × Int × Int=>(x.1,x.2.2)) HL.out
   obtain rfl:u1=0:=congrArg (fun x:Int × Int × Int=>x.2.1) HL.out
   have ck:wr.cell? ⟨N,5,none⟩=some (.func (.func 33) #[fw m ab au cb cu] #[]):=by simp [World.cell?,hLk]
   clear hLk
   go_wp2_with fail
   refine (XR m ab au cb cu B _ HM hBr HR hnb e1 n1 (hide aZ.out)).mono ?_
   rintro e w2 ⟨rfl,hg2⟩
   have HG2:Hid (W0.grownBy w2 none):=bY HA.out.grown hg2
   have dQ:w2.heap[w.heap.size]?=some cZ:=(bX hg2 hzl).trans mD.out
   obtain ⟨⟨p0,p1,p2⟩,q0,q1,q2⟩:=dP dQ
   have HW2:=hide dQ
   have yJ:=lt_of_block dQ
   clear hg2 dQ ck z0 z1 z2 y0 y1 y2
   by_cases h0:e1=0
   ·have e0:(e1 != 0)=false:=by simpa using h0
    have HN:Hid (r=Vf.from' m (6 - (5+1)) (5+1)):=by
     have:=HA.out.rest
     rw [show 6 - 5=(6 - (5+1))+1 from rfl,Vf.from',← HL.out,if_pos h0] at this
     exact this
    have HO:Hid (∀ j,j < 5+1→(Vf.looks m j).1=0):=fun j hj=>by
     by_cases hj':j < 5
     ·exact HA.out.ok j hj'
     ·obtain rfl:j=5:=by omega
      rw [← HL.out]
      exact h0
    clear h0
    go_wp2
    go_roundw
    case rel=>exact ⟨5+1,rfl,by omega,aT HG2.out _,HO.out,HN.out⟩
    case measure=>simp [intOf]
   ·have e0:(e1 != 0)=true:=by simpa using h0
    have HN:Hid (r=(e1,0,n1)):=by
     have:=HA.out.rest
     rw [show 6 - 5=(6 - (5+1))+1 from rfl,Vf.from',← HL.out,if_neg h0] at this
     exact this
    clear h0
    go_wp2
    have hX:=mr HW2.out (.int .i64 e1) (.int .i64 0) (.int .i64 n1)
    obtain ⟨⟨g0,g1,g2⟩,_⟩:=dP ((Below.heap_alloc _ (.cells #[.int .i64 e1,.int .i64 0,.int .i64 n1] 44) _ (lt_of_block hX)).trans hX)
    refine bodyPost_ret (v:=dm e1 0 n1) (by simp [results,Tryz.results27,go_sem,g0,g1,g2]) rfl ?_
    rw [HN.out]
    exact ⟨rfl,aT (aR (aR (aR (bY HT.out HG2.out) (by omega) _ _) (by omega) _ _) (by omega) _ _) _⟩
  ·have HN:Hid (r=(0,0,0)):=HA.out.rest
   clear hLk
   go_wp2
   refine bodyPost_ret (v:=dm 0 0 0) (by simp [results,Tryz.results27,go_sem,z0,z1,z2]) rfl ?_
   rw [HN.out]
   exact ⟨rfl,aR (aR (aR HG.out (by omega) _ _) (by omega) _ _) (by omega) _ _⟩
theorem Ye (m:Vf.Md)(ab au:Option Addr)(cb cu B:Nat)(w:World)(hmd:Hid (bn B w m ab au))(hB:B≤w.heap.size)(r:Int × Int × Int)(hr:Hid (r=Vf.verify m)) :
  Calls Tryz.prog 17 #[fw m ab au cb cu] w fun e w'=>e=.returned (dm r.1 r.2.1 r.2.2)∧w.grownBy w' none:=by
 have vJ:∀ (fn:Fn) (first cap:Array Value) (w:World),(Instr.makeFunc fn first cap).run Tryz.prog w=.ok (.func fn first cap) w:=fun _ _ _ _=>rfl
 obtain ⟨W4,lI⟩:∃ W4:World,(((w.alloc (.cells #[.slice ab m.boxes.length cb,.slice au m.units.length cu] 38)).alloc cZ).alloc (gT m ab au cb cu)).alloc (Bl m ab au cb cu)=W4:=⟨_,rfl⟩
 have HT:Hid (w.grownBy W4 none):=by rw [← lI];exact aT (aT (fA _ _ _) _) _
 have HN:Hid (W4.heap[w.heap.size+1+1+1]?=some (Bl m ab au cb cu)):=by
  have e:(((w.alloc (.cells #[.slice ab m.boxes.length cb,.slice au m.units.length cu] 38)).alloc cZ).alloc (gT m ab au cb cu)).heap.size=w.heap.size+1+1+1:=by simp
  rw [← lI,← e]
  exact heap_alloc_new _ _
 have HZ:Hid (W4.heap[w.heap.size+1]?=some cZ):=by
  rw [← lI]
  exact (Below.heap_alloc _ _ _ (by simp)).trans ((Below.heap_alloc _ _ _ (by simp)).trans (vY _ _ _))
 have HM:Hid (bn B W4 m ab au):=hmd.out.low (fU HT.out hB)
 have vH:=hide lI
 have lh:=HT.out.size
 clear lI
 go_enter Tryz.func17,Tryz.ntmps17
 go_wp2_with fail
 rw [vH.out]
 refine (Yd m ab au cb cu B (w.heap.size+1+1+1) _ HM (by omega) HN r hr).mono ?_
 rintro e w2 ⟨rfl,hg2⟩
 have HG2:Hid (w.grownBy w2 none):=bY HT.out hg2
 have hwz:w2.heap[w.heap.size+1]?=some cZ:=(bX hg2 (lt_of_block HZ.out)).trans HZ.out
 obtain ⟨⟨z0,z1,z2⟩,y0,y1,y2⟩:=dP hwz
 clear hg2 hwz
 go_wp2
 refine bodyPost_ret (v:=dm r.1 r.2.1 r.2.2) (by simp [results,Tryz.results17,go_sem,z0,z1,z2]) rfl ?_
 exact ⟨rfl,aR (aR (aR HG2.out (by omega) _ _) (by omega) _ _) (by omega) _ _⟩
end Go.Proofs.YthffafaoobpedaaGreatDoor

/- The walk of bodies. -/
import Derived.Test.YtbioaoangfiijaaGreatDoorM18
set_option maxRecDepth 100000
set_option maxHeartbeats 4000000
namespace Go.Proofs.YtbioaoangfiijaaGreatDoor
open Go.RowKit
namespace Sm
def Bo (l:List Sy.Df) (B:Nat) (r:Except (Int × Nat) (List Tk)) (w:World) (e:Ending) (w':World):Prop :=
 w.grownBy w' none ∧ match r with
 | .error x => e = .panicked [fltE x.1 (x.2:Int)]
 | .ok ts => ∃ Tb cs,e = .returned (.slice (some ⟨Tb,0,none⟩) l.length l.length) ∧ w.heap.size ≤ Tb ∧ TaAt B w' Tb l.length cs (fun i => (ts[i]?).getD Tk.none)
def more (done:List Tk) (r:Except (Int × Nat) (List Tk)):Except (Int × Nat) (List Tk):=match r with | .error x => .error x | .ok xs => .ok (done ++ xs)
theorem more_cons (f:Sy.Df → Except Int Tk) (done:List Tk) (d:Sy.Df) (l:List Sy.Df) (i:Nat):more done (each f (d :: l) i) = match f d with | .error e => .error (e,i) | .ok x => more (done ++ [x]) (each f l (i + 1)):=by
 rw [each]
 cases f d with
 | error e => rfl
 | ok x =>
  dsimp only
  cases each f l (i + 1) with
  | error e => rfl
  | ok xs => simp [more]
theorem Tryz.info96:(Tryz.prog.info? 96).map (fun i => (i.zero,i.size,i.bytes)) = some (some (.agg #[.slice none 0 0,.slice none 0 0,.slice none 0 0]),3,72):=by kernel_rfl
theorem bodyT_of {l:List Sy.Df} {d:Sy.Df} (h:d.kind ≠ 1):bodyT l d = inner (stat l d 39) d.body (parV d) Tk.none:=by
 unfold bodyT parV
 rw [if_neg h]
theorem gl_same {B:Nat} {w w':World} (h:Gl B w) (hs:Same B w w'):Gl B w':=by
 obtain ⟨⟨h2,h3⟩,h4,h5,h6,h7⟩:=h
 exact ⟨⟨h2,h3⟩,(hs _ _ h2).trans h4,(hs _ _ h2).trans h5,(hs _ _ h3).trans h6,(hs _ _ h3).trans h7⟩
theorem made_nil {n i:Nat} (hi:i < n):(madeCells #[Value.slice none 0 0,.slice none 0 0,.slice none 0 0] n).toList[i]? = some (.slice none 0 0):=by
 have h3:i % 3 = 0 ∨ i % 3 = 1 ∨ i % 3 = 2:=by omega
 rw [Array.getElem?_toList]
 rcases h3 with h | h | h <;> simp [madeCells,hi,h]
theorem bodies_any (B:Nat) (l:List Sy.Df) (a:Option Addr) (c M:Nat) (R:Ms.Row) (w:World) (r:Except (Int × Nat) (List Tk)) (hD:Hid (DfsIn B w l a)) (hB:B ≤ w.heap.size) (hM:Hid (Ms.In w M R)) (hBM:B ≤ M) (hR:Hid (∀ s,Ms.val R s = (numOf l s).map (fun i => .int .i64 (i:Int)))) (hG:Hid (Gl B w)) (hFit:Hid (Fit l)) (hl:l.length ≤ 100000)
  (hr:Hid (r = each (bodyT l) l 0)) :
  Calls Tryz.prog 25 #[pgV l a c M] w fun e w' => Bo l B r w e w':=by
 have hmm:∀ w:World,(Instr.makeMap 101 Option.none).run Tryz.prog w = .ok (.map (some w.heap.size)) (w.alloc (.map #[] 0)):=fun _ => rfl
 obtain ⟨L,hL⟩:∃ L,L = l.length:=⟨_,rfl⟩
 have HL:Hid (L = l.length):=hL
 have hl':L ≤ 100000:=by rw [hL]; exact hl
 obtain ⟨i0,hif,hz0,hz1,hz2⟩:=info_parts Tryz.info96
 have hmk:∀ X:World,Sem.run Tryz.prog (Instr.makeSlice 72 (.int .i64 (L:Int)) (.int .i64 (L:Int))) X = .ok (.slice (some ⟨X.heap.size,0,none⟩) L L) (X.alloc (.cells (madeCells #[.slice none 0 0,.slice none 0 0,.slice none 0 0] (L * 3)) 96)):=fun X => by
  have:=run_makeSlice (P:=Tryz.prog) X 72 96 i0 _ Tryz.underlying72 hif hz0 .i64 .i64 (L:Int) (L:Int) (by omega) (Int.le_refl _) (by rw [hz1]; simp; omega) (by rw [hz2]; omega) (by omega)
  rw [hz1,Int.toNat_natCast] at this
  exact this
 obtain ⟨W0,hW0⟩:∃ W0,W0 = (w.alloc (pgB L a c M)).alloc (.cells (madeCells #[.slice none 0 0,.slice none 0 0,.slice none 0 0] (L * 3)) 96):=⟨_,rfl⟩
 have HG0:Hid (w.grownBy W0 none):=by rw [hW0]; exact grown_a2 _ _
 have HP0:Hid (W0.heap[w.heap.size]? = some (pgB L a c M)):=by rw [hW0]; exact (Below.heap_alloc _ _ _ (by simp)).trans (heap_alloc_new _ _)
 have HT0:Hid (TaAt B W0 (w.heap.size + 1) L (madeCells #[.slice none 0 0,.slice none 0 0,.slice none 0 0] (L * 3)).toList (fun i => (([]:List Tk)[i]?).getD Tk.none)):=by
  have hbk:W0.heap[w.heap.size + 1]? = some (.cells (madeCells #[.slice none 0 0,.slice none 0 0,.slice none 0 0] (L * 3)) 96 (0,0)):=by
   rw [hW0]
   have:=heap_alloc_new (w.alloc (pgB L a c M)) (.cells (madeCells #[.slice none 0 0,.slice none 0 0,.slice none 0 0] (L * 3)) 96 (0,0))
   rw [World.size_alloc] at this
   exact this
  have hc:∀ i,i < L * 3 → (madeCells #[.slice none 0 0,.slice none 0 0,.slice none 0 0] (L * 3)).toList[i]? = some (.slice none 0 0):=fun i hi => made_nil hi
  refine ⟨by simpa using hbk,by rw [Array.length_toList,size_madeCells],fun i hi => ⟨_,_,_,hc _ (by omega),hc _ (by omega),hc _ (by omega),?_,?_,?_⟩⟩ <;> exact World.ownsRow_nil _ _ _ _
 have HW0:Hid (W0 = _):=hW0
 have hML:M < w.heap.size:=hM.out.lt
 rw [show pgV l a c M = .agg #[.slice a L c,.map (some M)] by rw [hL]]
 clear hW0 hL hl hif hz0 hz1 hz2
 go_enter Tryz.func25,Tryz.ntmps25
 go_wp2
 rw [← HW0.out]
 go_loopw [14] (fun q wr => ∃ (j:Nat) (done:List Tk) (cs:List Value),q = .int .i64 j ∧ j ≤ L ∧ done.length = j ∧ Hid (w.grownBy wr none) ∧ Hid (wr.heap[w.heap.size]? = some (pgB L a c M)) ∧ Hid (TaAt B wr (w.heap.size + 1) L cs (fun i => (done[i]?).getD Tk.none)) ∧ Hid (r = more done (each (bodyT l) (l.drop j) j))) (fun q _ => L - (intOf q).toNat)
 case atStart => exact ⟨0,[],_,rfl,Nat.zero_le _,rfl,HG0,HP0,HT0,by unfold Hid; rw [List.drop_zero,hr.out]; cases each (bodyT l) l 0 <;> rfl⟩
 case round =>
  obtain ⟨j,done,cs,rfl,hj,hdl,HG,HP,HT,HR⟩:=hrel
  obtain ⟨p0,p1,_,_⟩:=two_cell HP.out
  have hPl:=lt_of_block HP.out
  have hTl:=lt_of_block HT.out.blk
  by_cases hlt:j < L
  ·have hj1:j < l.length:=by rw [← HL.out]; exact hlt
   obtain ⟨d,hd⟩:∃ d,l[j]? = some d:=⟨_,List.getElem?_eq_getElem hj1⟩
   have hdr:l.drop j = d :: l.drop (j + 1):=by rw [List.drop_eq_getElem_cons hj1,(List.getElem?_eq_some_iff.1 hd).2]
   have HDr:Hid (DfsIn B wr l a):=hD.out.same (same_grown HG.out (by simp) hB)
   obtain ⟨b,off,pa,pc,ba,bc,ha,hb,k0,k1,k2,k3,k4,k5,k6,k7,k8,_⟩:=HDr.out.2 j d hd
   have HRr:Hid (r = match bodyT l d with | .error e => .error (e,j) | .ok x => more (done ++ [x]) (each (bodyT l) (l.drop (j + 1)) (j + 1))):=by
    unfold Hid
    rw [HR.out,hdr,more_cons]
   have HDj:Hid (l[j]? = some d):=hd
   have hbw:b < wr.heap.size:=by have:=HG.out.size; omega
   have HJ:Hid (j + 1 ≤ L):=hlt
   have hjp:(j:Int) < (L:Int):=by omega
   have hfun:∀ t:Tk,(fun k => if k = j then t else (done[k]?).getD Tk.none) = (fun k => ((done ++ [t])[k]?).getD Tk.none):=fun t => by
    funext k
    by_cases e:k = j
    ·rw [if_pos e,e,← hdl]; simp
    ·rw [if_neg e]
     by_cases e2:k < done.length
     ·rw [List.getElem?_append_left e2]
     ·rw [List.getElem?_eq_none (by omega),List.getElem?_eq_none (by simp; omega)]
   have HFun:=hid hfun
   have HDL:Hid (∀ t:Tk,(done ++ [t]).length = j + 1):=fun t => by simp [hdl]
   subst ha
   by_cases h1:d.kind = 1
   ·have e1:(d.kind == 1) = true:=by simpa using h1
    have hbt:bodyT l d = .ok Tk.none:=by unfold bodyT; rw [if_pos h1]
    have HRn:Hid (r = more (done ++ [Tk.none]) (each (bodyT l) (l.drop (j + 1)) (j + 1))):=by unfold Hid; rw [HRr.out,hbt]
    have HG1:Hid (w.grownBy (wr.alloc (dfB d pa pc ba bc)) none):=grown_trans HG.out (grown_a _)
    have HP1:Hid ((wr.alloc (dfB d pa pc ba bc)).heap[w.heap.size]? = some (pgB L (some ⟨b,off,none⟩) c M)):=(Below.heap_alloc _ _ _ hPl).trans HP.out
    have HT1:Hid (TaAt B (wr.alloc (dfB d pa pc ba bc)) (w.heap.size + 1) L cs (fun i => ((done ++ [Tk.none])[i]?).getD Tk.none)):=by
     unfold Hid
     rw [← HFun.out Tk.none]
     have:(fun k => if k = j then Tk.none else (done[k]?).getD Tk.none) = (fun k => (done[k]?).getD Tk.none):=by
      funext k
      by_cases e:k = j
      ·rw [if_pos e,e,List.getElem?_eq_none (by omega)]; rfl
      ·rw [if_neg e]
     rw [this]
     exact HT.out.keep (fun k o e hk => Below.heap_alloc _ _ _ (lt_of_block hk))
    clear h1 hdr hd hfun hbt
    go_wp2
    go_roundw
    case rel => exact ⟨j + 1,done ++ [Tk.none],cs,by go_num,HJ.out,HDL.out _,HG1,HP1,HT1,HRn⟩
    case measure => have:=HJ.out; simp [intOf]; omega
   ·have e1:(d.kind == 1) = false:=by simpa using h1
    obtain ⟨_,n,m,hn2,hbo⟩:=hFit.out.forms j d hd h1
    have hbt:=bodyT_of (l:=l) h1
    obtain ⟨K,hK⟩:∃ K:BK,K = ⟨l,some ⟨b,off,none⟩,c,M,(j:Int),wr.heap.size + 1,wr.heap.size + 1 + 1,B,R⟩:=⟨_,rfl⟩
    obtain ⟨W3,hW3⟩:∃ W3,W3 = ((wr.alloc (dfB d pa pc ba bc)).alloc (.map #[] 0)).alloc (bdO L (some ⟨b,off,none⟩) c M (j:Int) (wr.heap.size + 1) (.slice none 0 0) (.slice none 0 0) (.slice none 0 0) (.slice none 0 0)):=⟨_,rfl⟩
    have HW3:Hid (W3 = _):=hW3
    have hg3:wr.grownBy W3 none:=by rw [hW3]; exact grown_trans (grown_a2 _ _) (grown_a _)
    have hbeg:=BW.begin (i:=j) (c:=c) (dfB d pa pc ba bc) HDr.out (gl_same hG.out (same_grown HG.out (by simp) hB)) (by have:=HG.out.size; omega) (hM.out.grow HG.out) hBM hR.out
    rw [← HL.out,← hW3,← hK] at hbeg
    have HB3:Hid (BW K W3 [] Tk.none):=hbeg
    have hF3:W3.heap[wr.heap.size + 1 + 1]? = some (bdO L (some ⟨b,off,none⟩) c M (j:Int) (wr.heap.size + 1) (.slice none 0 0) (.slice none 0 0) (.slice none 0 0) (.slice none 0 0)):=by
     rw [hW3]
     have:=heap_alloc_new ((wr.alloc (dfB d pa pc ba bc)).alloc (.map #[] 0)) (bdO L (some ⟨b,off,none⟩) c M (j:Int) (wr.heap.size + 1) (.slice none 0 0) (.slice none 0 0) (.slice none 0 0) (.slice none 0 0))
     rw [World.size_alloc,World.size_alloc] at this
     exact this
    have HFr:Hid (∀ k,k ≤ wr.heap.size → Free K W3 k):=fun k hk => by
     rw [hK]
     rw [HL.out] at hF3
     exact free_begin hF3 hk
    have HKF:Hid (K.F = wr.heap.size + 1 + 1 ∧ K.B = B ∧ K.num = (j:Int) ∧ K.l = l):=by rw [hK]; exact ⟨rfl,rfl,rfl,rfl⟩
    have HMe:Hid (K.l[j]? = some d):=by rw [HKF.out.2.2.2]; exact hd
    have HNum:Hid (K.num = (j:Int)):=HKF.out.2.2.1
    have HND:Hid (d.kind ≠ 4 → (d.params.map (·.name)).Nodup ∧ d.params.length ≤ 6):=fun h4 => hFit.out.params hd h1 h4
    obtain ⟨bt,hbt2⟩:∃ bt,bt = bodyT l d:=⟨_,rfl⟩
    have HBT:Hid (bt = bodyT l d):=hbt2
    have HBI:Hid (inner (stat K.l d 39) d.body (parV d) Tk.none = bt):=by unfold Hid; rw [hbt2,hbt,HKF.out.2.2.2]
    rw [← hbt2] at HRr
    have HBO:=hid hbo
    clear h1 hdr hd hfun hbt hbo hbeg hW3 hF3 hbt2 hK
    go_wp2_with fail
    rw [← HW3.out]
    rw [show wr.heap.size + 1 + 1 = K.F from HKF.out.1.symm]
    refine (whole_any K d j HNum HMe n m W3 _ HB3 HND HBO hn2 (by rw [HBI.out]; exact rfl)).mono ?_
    rintro e w4 ⟨hk4,he4⟩
    have HOld:Hid (∀ k,k < wr.heap.size → w4.heap[k]? = wr.heap[k]?):=fun k hk => by
     have h3:W3.heap[k]? = wr.heap[k]?:=hg3.block k hk (by simp)
     exact (hk4.block k (by have:=hg3.size; omega) (HFr.out k (by omega))).1.trans h3
    have HG4:Hid (w.grownBy w4 none):=⟨hk4.os.trans (hg3.os.trans HG.out.os),hk4.tape.trans (hg3.tape.trans HG.out.tape),hk4.output.trans (hg3.output.trans HG.out.output),by have h1:=hk4.size; have h2:=hg3.size; have h3:=HG.out.size; omega,fun k hk _ => (HOld.out k (by have h3:=HG.out.size; omega)).trans (HG.out.block k hk (by simp))⟩
    cases bt with
    | error y =>
     obtain ⟨rfl,v2,t2,hb2,hp2⟩:=he4
     have HE:Hid (Bo l B r w (.panicked [fltE y (j:Int)]) w4):=⟨HG4.out,by rw [HRr.out]⟩
     rw [show K.num = (j:Int) from HNum.out]
     clear hk4 hb2 hp2 hg3
     go_wp2
     exact ⟨rfl,HE.out⟩
    | ok t =>
     obtain ⟨rfl,hb4⟩:=he4
     obtain ⟨o,sn,rc,cl,h4⟩:=hb4.rows
     obtain ⟨sa,sc,hsn⟩:=own_form h4.snO
     obtain ⟨ra,rcc,hrc⟩:=own_form h4.rcO
     obtain ⟨ca,ccc,hcl⟩:=own_form h4.clO
     subst hsn hrc hcl
     obtain ⟨_,_,_,_,_,f5,f6,f7⟩:=bd_cells h4.blk
     have HT4:TaAt B w4 (w.heap.size + 1) L cs (fun i => (done[i]?).getD Tk.none):=HT.out.keep (fun k o e hk => HOld.out k (lt_of_block hk))
     have o1:w4.ownsRow B 3 1 (.slice sa t.sends.length sc) t.sends.length (nats t.sends):=by rw [← HKF.out.2.1]; exact h4.snO
     have o2:w4.ownsRow B 3 1 (.slice ra t.recvs.length rcc) t.recvs.length (nats t.recvs):=by rw [← HKF.out.2.1]; exact h4.rcO
     have o3:w4.ownsRow B 3 1 (.slice ca t.calls.length ccc) t.calls.length (nats t.calls):=by rw [← HKF.out.2.1]; exact h4.clO
     have HT5:=hid (HT4.put hlt o1 o2 o3)
     rw [HFun.out t] at HT5
     obtain ⟨s0,s1,s2,z0,z1,z2,_⟩:=HT4.row j hlt
     have t0:w4.cell? ⟨w.heap.size + 1,j * 3,none⟩ = some s0:=by simp [World.cell?,HT4.blk,z0]
     have t1:w4.cell? ⟨w.heap.size + 1,j * 3 + 1,none⟩ = some s1:=by simp [World.cell?,HT4.blk,z1]
     have t2:w4.cell? ⟨w.heap.size + 1,j * 3 + 2,none⟩ = some s2:=by simp [World.cell?,HT4.blk,z2]
     have y0:w4.frozen? ⟨w.heap.size + 1,j * 3,none⟩ = false:=by simp [World.frozen?,HT4.blk]
     have y1:w4.frozen? ⟨w.heap.size + 1,j * 3 + 1,none⟩ = false:=by simp [World.frozen?,HT4.blk]
     have y2:w4.frozen? ⟨w.heap.size + 1,j * 3 + 2,none⟩ = false:=by simp [World.frozen?,HT4.blk]
     have hg5:w4.grownBy (((w4.setCell ⟨w.heap.size + 1,j * 3,none⟩ (.slice sa t.sends.length sc)).setCell ⟨w.heap.size + 1,j * 3 + 1,none⟩ (.slice ra t.recvs.length rcc)).setCell ⟨w.heap.size + 1,j * 3 + 2,none⟩ (.slice ca t.calls.length ccc)) (some (w.heap.size + 1)):=grown_trans (grown_at _ _ _ _) (grown_trans (grown_at _ _ _ _) (grown_at _ _ _ _))
     have HG5:Hid (w.grownBy (((w4.setCell ⟨w.heap.size + 1,j * 3,none⟩ (.slice sa t.sends.length sc)).setCell ⟨w.heap.size + 1,j * 3 + 1,none⟩ (.slice ra t.recvs.length rcc)).setCell ⟨w.heap.size + 1,j * 3 + 2,none⟩ (.slice ca t.calls.length ccc)) none):=grown_own HG4.out hg5 (by omega)
     have hp4:w4.heap[w.heap.size]? = some (pgB L (some ⟨b,off,none⟩) c M):=(HOld.out _ hPl).trans HP.out
     have HP5:Hid ((((w4.setCell ⟨w.heap.size + 1,j * 3,none⟩ (.slice sa t.sends.length sc)).setCell ⟨w.heap.size + 1,j * 3 + 1,none⟩ (.slice ra t.recvs.length rcc)).setCell ⟨w.heap.size + 1,j * 3 + 2,none⟩ (.slice ca t.calls.length ccc)).heap[w.heap.size]? = some (pgB L (some ⟨b,off,none⟩) c M)):=(hg5.block _ (lt_of_block hp4) (by simp)).trans hp4
     have HRn:Hid (r = more (done ++ [t]) (each (bodyT l) (l.drop (j + 1)) (j + 1))):=HRr.out
     have hneF:K.F ≠ w.heap.size + 1:=by rw [HKF.out.1]; omega
     clear hk4 hb4 h4 HT4 o1 o2 o3 hg5 hp4 hg3 z0 z1 z2
     go_wp2
     go_roundw
     case rel => exact ⟨j + 1,done ++ [t],_,by go_num,HJ.out,HDL.out _,HG5,HP5,HT5,HRn⟩
     case measure => have:=HJ.out; simp [intOf]; omega
  ·have HRe:Hid (r = .ok done):=by
    have h1:=HR.out
    have h2:=HL.out
    rw [List.drop_of_length_le (by omega)] at h1
    show r = .ok done
    rw [h1]
    simp [each,more]
   have hjp:¬ (j:Int) < (L:Int):=by omega
   have hjl:done.length = L:=by omega
   go_wp2
   go_ret
   refine ⟨HG.out,?_⟩
   rw [HRe.out]
   refine ⟨w.heap.size + 1,cs,by rw [← HL.out]; rfl,by omega,?_⟩
   rw [← HL.out]
   exact HT.out
end Sm
namespace Sm
def NsIn (w:World) (ns:List Nat) (v:Value):Prop:=∃ a c,v = .slice a ns.length c ∧ ∀ i x,ns[i]? = some x → ∃ b off,a = some ⟨b,off,none⟩ ∧ w.cell? ⟨b,off + i,none⟩ = some (.int .i64 ((x:Nat):Int))
theorem ns_own {w:World} {B:Nat} {v:Value} {ns:List Nat} (h:w.ownsRow B 3 1 v ns.length (nats ns)):NsIn w ns v:=by
 rcases h.2 with ⟨rfl,h0⟩ | ⟨g,cap,cur,rfl,_,hh,_,_,_,ht⟩
 ·exact ⟨none,0,by rw [h0],fun i x hx => by rw [List.eq_nil_of_length_eq_zero h0] at hx; simp at hx⟩
 ·refine ⟨_,cap,rfl,fun i x hx => ⟨g,0,rfl,?_⟩⟩
  have e:(nats ns)[i]? = some (.int .i64 ((x:Nat):Int)):=by simp [hx]
  rw [← ht,List.getElem?_take] at e
  split at e
  ·simp [World.cell?,hh]
   simpa using e
  ·cases e
theorem index_any (ns:List Nat) (v:Value) (x:Nat) (w:World) (h:Hid (NsIn w ns v)) (hl:ns.length ≤ 9223372036854775806) :
  Calls Tryz.prog 67 #[v,.int .i64 (x:Int)] w fun e w' => w' = w ∧ ∃ r:Int,e = .returned (.int .i64 r) ∧ (decide (0 ≤ r) = decide (x ∈ ns)):=by
 obtain ⟨a,c,rfl,hc⟩:=h.out
 have HC:=hid hc
 obtain ⟨L,hL⟩:∃ L,L = ns.length:=⟨_,rfl⟩
 have HL:Hid (L = ns.length):=hL
 have hl':L ≤ 9223372036854775806:=by rw [hL]; exact hl
 rw [← hL]
 clear hL hc hl
 go_enter Tryz.func67,Tryz.ntmps67
 go_wp2
 go_loopw [8] (fun q wr => ∃ j:Nat,q = .int .i64 j ∧ j ≤ L ∧ wr = w ∧ Hid (x ∉ ns.take j)) (fun q _ => L - (intOf q).toNat)
 case atStart => exact ⟨0,rfl,Nat.zero_le _,rfl,by unfold Hid; simp⟩
 case round =>
  obtain ⟨j,rfl,hj,rfl,HN⟩:=hrel
  by_cases hlt:j < L
  ·have hj1:j < ns.length:=by rw [← HL.out]; exact hlt
   obtain ⟨y,hy⟩:∃ y,ns[j]? = some y:=⟨_,List.getElem?_eq_getElem hj1⟩
   obtain ⟨b,off,rfl,hcell⟩:=HC.out j y hy
   have hjp:(j:Int) < (L:Int):=by omega
   have HJ:Hid (j + 1 ≤ L):=hlt
   by_cases hxy:x = y
   ·have exy:((x:Int) == (y:Int)) = true:=by simp [hxy]
    have HM:Hid (x ∈ ns):=by rw [hxy]; exact List.mem_of_getElem? hy
    clear hxy hy
    go_wp2
    go_ret
    exact ⟨rfl,(j:Int),rfl,by simp [HM.out]⟩
   ·have exy:((x:Int) == (y:Int)) = false:=by simp; omega
    have HN1:Hid (x ∉ ns.take (j + 1)):=by
     unfold Hid
     rw [List.take_succ_eq_append_getElem hj1,List.mem_append]
     rintro (h1 | h1)
     ·exact HN.out h1
     ·rw [(List.getElem?_eq_some_iff.1 hy).2] at h1
      simp at h1
      exact hxy h1
    clear hxy hy
    go_wp2
    go_roundw
    case rel => exact ⟨j + 1,by go_num,HJ.out,trivial,HN1⟩
    case measure => have:=HJ.out; simp [intOf]; omega
  ·have HM:Hid (x ∉ ns):=by
    have h1:=HN.out
    have h2:=HL.out
    rw [List.take_of_length_le (by omega)] at h1
    exact h1
   have hjp:¬ (j:Int) < (L:Int):=by omega
   go_wp2
   go_ret
   exact ⟨rfl,-1,rfl,by simp [HM.out]⟩
theorem contains_any (ns:List Nat) (v:Value) (x:Nat) (w:World) (h:Hid (NsIn w ns v)) (hl:ns.length ≤ 9223372036854775806) :
  Calls Tryz.prog 41 #[v,.int .i64 (x:Int)] w fun e w' => w' = w ∧ e = .returned (.bool (decide (x ∈ ns))):=by
 go_enter Tryz.func41,Tryz.ntmps41
 go_wp2_with fail
 refine (index_any ns v x w h hl).mono ?_
 rintro e w1 ⟨rfl,r,rfl,hr⟩
 have HR:=hid hr
 clear hr
 go_wp2
 go_ret
 exact ⟨rfl,by rw [← HR.out]; rfl⟩
end Sm
end Go.Proofs.YtbioaoangfiijaaGreatDoor

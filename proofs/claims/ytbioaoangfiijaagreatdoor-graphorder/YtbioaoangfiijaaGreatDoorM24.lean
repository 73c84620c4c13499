/- The walk of owners. -/
import Derived.Test.YtbioaoangfiijaaGreatDoorM23
import Derived.Test.YtbioaoangfiijaaGreatDoorM3
set_option maxRecDepth 100000
set_option maxHeartbeats 4000000
namespace Go.Proofs.YtbioaoangfiijaaGreatDoor
open Go.RowKit
namespace Sm
def Oo (r:Except (Int × Nat) (List Ow3)) (w:World) (e:Ending) (w':World):Prop :=
 w.grownBy w' none ∧ match r with
 | .error x => e = .panicked [fltE x.1 (x.2:Int)]
 | .ok os => ∃ v,e = .returned v ∧ w'.ownsRow w.heap.size 54 3 v os.length (ows os)
def moreO (done:List Ow3) (r:Except (Int × Nat) (List Ow3)):Except (Int × Nat) (List Ow3):=match r with | .error x => .error x | .ok xs => .ok (done ++ xs)
theorem TaAt.keepO {B:Nat} {w w':World} {Tb n:Nat} {cs:List Value} {ts:Nat → Tk} (h:TaAt B w Tb n cs ts) (hk:∀ (k:Nat) (o:Array Value) (e:TypeId),w.heap[k]? = some (.cells o e (0,0)) → e ≠ 54 → w'.heap[k]? = w.heap[k]?):TaAt B w' Tb n cs ts:=by
 have key:∀ {b:Nat} {v:Value} {m:Nat} {xs:List Value},w.ownsRow b 3 1 v m xs → w'.ownsRow b 3 1 v m xs:=fun ho => own_keep ho (fun k hb => by obtain ⟨_,_,cur,hc⟩:=own_lt ho k hb; exact hk _ _ _ hc (by decide))
 refine ⟨(hk _ _ _ h.blk (by decide)).trans h.blk,h.len,fun i hi => ?_⟩
 obtain ⟨sn,rc,cl,c1,c2,c3,o1,o2,o3⟩:=h.row i hi
 exact ⟨sn,rc,cl,c1,c2,c3,key o1,key o2,key o3⟩
theorem grown_row {a b c:World} {v:Value} (h:a.grownBy b none) (k:b.grownBy c v.ownBlock) (hB:∀ k,v.ownBlock = some k → a.heap.size ≤ k):a.grownBy c none:=by
 cases hv:v.ownBlock with
 | none => rw [hv] at k; exact grown_trans h k
 | some M => rw [hv] at k; exact grown_own h k (hB M hv)
def ansO:Except Int ByteArray → Except Int Value | .ok s => .ok (.string s) | .error e => .error e
def endO (n:Int):Except Int ByteArray → Ending | .ok s => .returned (.string s) | .error e => .panicked [fltE e n]
def andO (a:Except Int ByteArray) (i:Nat) (f:ByteArray → Except (Int × Nat) (List Ow3)):Except (Int × Nat) (List Ow3):=match a with | .error e => .error (e,i) | .ok s => f s
theorem owners_box {l:List Sy.Df} {ts:List Tk} {i:Nat} {is:List Nat} {d:Sy.Df} {os:List Ow3} (hda:defAt l i = d) (h1:d.kind = 1) {rs rc:Except Int ByteArray} (hrs:rs = Sm.only l (fun t => decide (i ∈ (tasksT l ts t).sends))) (hrc:rc = Sm.only l (fun t => decide (i ∈ (tasksT l ts t).recvs))) :
  moreO os (ownersFrom l ts (i :: is)) = andO rs i fun sn => andO rc i fun rn => moreO (os ++ [(d.name,sn,rn)]) (ownersFrom l ts is):=by
 rw [ownersFrom,hda,if_pos h1,owner,← hrs,← hrc,hda]
 cases rs with
 | error e => rfl
 | ok sn =>
  cases rc with
  | error e => rfl
  | ok rn =>
   rw [andThen_ok,andThen_ok]
   cases ownersFrom l ts is with
   | error e => rfl
   | ok xs => simp [andO,moreO]
theorem owners_any (B:Nat) (l:List Sy.Df) (a:Option Addr) (c M Tb:Nat) (vs0:List Value) (ts:List Tk) (w:World) (r:Except (Int × Nat) (List Ow3)) (hD:Hid (DfsIn B w l a)) (hB:B ≤ w.heap.size) (hT:Hid (TaAt B w Tb l.length vs0 (fun i => tkAt ts i))) (hTs:Hid (ts.length = l.length)) (hTl:Hid (∀ n,n < l.length → Tl l.length (tkAt ts n))) (hN:Hid (∀ (k:Nat) (d:Sy.Df),l[k]? = some d → d.name ≠ ⟨#[]⟩ ∧ d.name.size ≤ 12)) (hl:l.length ≤ 100000)
  (hr:Hid (r = ownersFrom l ts (List.range l.length))) :
  Calls Tryz.prog 24 #[pgV l a c M,.slice (some ⟨Tb,0,none⟩) l.length l.length] w fun e w' => Oo r w e w':=by
 obtain ⟨L,hL⟩:∃ L,L = l.length:=⟨_,rfl⟩
 have HL:Hid (L = l.length):=hL
 have hl':L ≤ 100000:=by rw [hL]; exact hl
 obtain ⟨i0,hif,hz0,hz1,hz2⟩:=info_parts Tryz.info96
 have hmk:∀ X:World,Sem.run Tryz.prog (Instr.makeSlice 72 (.int .i64 (L:Int)) (.int .i64 (L:Int))) X = .ok (.slice (some ⟨X.heap.size,0,none⟩) L L) (X.alloc (.cells (madeCells #[.slice none 0 0,.slice none 0 0,.slice none 0 0] (L * 3)) 96)):=fun X => by
  have:=run_makeSlice (P:=Tryz.prog) X 72 96 i0 _ Tryz.underlying72 hif hz0 .i64 .i64 (L:Int) (L:Int) (by omega) (Int.le_refl _) (by rw [hz1]; simp; omega) (by rw [hz2]; omega) (by omega)
  rw [hz1,Int.toNat_natCast] at this
  exact this
 obtain ⟨W0,hW0⟩:∃ W0,W0 = ((w.alloc (pgB L a c M)).alloc (.cells (madeCells #[.slice none 0 0,.slice none 0 0,.slice none 0 0] (L * 3)) 96)).alloc (tvO (w.heap.size + 1) L):=⟨_,rfl⟩
 have HG0:Hid (w.grownBy W0 none):=by rw [hW0]; exact grown_trans (grown_a2 _ _) (grown_a _)
 have HP0:Hid (W0.heap[w.heap.size]? = some (pgB L a c M)):=by rw [hW0]; exact (Below.heap_alloc _ _ _ (by simp; omega)).trans ((Below.heap_alloc _ _ _ (by simp)).trans (heap_alloc_new _ _))
 have HV0:Hid (W0.heap[w.heap.size + 1 + 1]? = some (tvO (w.heap.size + 1) L)):=by
  rw [hW0]
  have:=heap_alloc_new ((w.alloc (pgB L a c M)).alloc (.cells (madeCells #[.slice none 0 0,.slice none 0 0,.slice none 0 0] (L * 3)) 96)) (tvO (w.heap.size + 1) L)
  rw [World.size_alloc,World.size_alloc] at this
  exact this
 have HT0:Hid (TaAt w.heap.size W0 (w.heap.size + 1) L (madeCells #[.slice none 0 0,.slice none 0 0,.slice none 0 0] (L * 3)).toList (fun _ => Tk.none)):=by
  have hbk:W0.heap[w.heap.size + 1]? = some (.cells (madeCells #[.slice none 0 0,.slice none 0 0,.slice none 0 0] (L * 3)) 96 (0,0)):=by
   rw [hW0]
   have:=heap_alloc_new (w.alloc (pgB L a c M)) (.cells (madeCells #[.slice none 0 0,.slice none 0 0,.slice none 0 0] (L * 3)) 96 (0,0))
   rw [World.size_alloc] at this
   exact (Below.heap_alloc _ _ _ (by simp)).trans this
  have hc:∀ i,i < L * 3 → (madeCells #[.slice none 0 0,.slice none 0 0,.slice none 0 0] (L * 3)).toList[i]? = some (.slice none 0 0):=fun i hi => made_nil hi
  refine ⟨by simpa using hbk,by rw [Array.length_toList,size_madeCells],fun i hi => ⟨_,_,_,hc _ (by omega),hc _ (by omega),hc _ (by omega),?_,?_,?_⟩⟩ <;> exact World.ownsRow_nil _ _ _ _
 have HW0:Hid (W0 = _):=hW0
 clear hW0
 rw [show pgV l a c M = .agg #[.slice a L c,.map (some M)] by rw [hL],← hL]
 clear hL hl hif hz0 hz1 hz2
 go_enter Tryz.func24,Tryz.ntmps24
 go_wp2
 rw [← HW0.out]
 go_loopw [18] (fun q wr => ∃ (j:Nat) (cs:List Value),q = .int .i64 j ∧ j ≤ L ∧ Hid (w.grownBy wr none) ∧ Hid (wr.heap[w.heap.size]? = some (pgB L a c M)) ∧ Hid (wr.heap[w.heap.size + 1 + 1]? = some (tvO (w.heap.size + 1) L)) ∧ Hid (TaAt w.heap.size wr (w.heap.size + 1) L cs (fun i => if i < j then tasksT l ts i else Tk.none)) ∧ Hid (∀ k,k < j → (tasksT l ts k).sends.length ≤ 10000000000000 ∧ (tasksT l ts k).recvs.length ≤ 10000000000000)) (fun q _ => L - (intOf q).toNat)
 case atStart => exact ⟨0,_,rfl,Nat.zero_le _,HG0,HP0,HV0,by unfold Hid; simpa using HT0.out,fun k hk => absurd hk (by omega)⟩
 case round =>
  clear HG0 HP0 HV0 HT0 HW0 hmk
  obtain ⟨j,cs,rfl,hj,HG,HP,HV,HT,HFw⟩:=hrel
  obtain ⟨p0,p1,_,_⟩:=two_cell HP.out
  have hPl:=lt_of_block HP.out
  have hVl:=lt_of_block HV.out
  have hTbl:=lt_of_block HT.out.blk
  by_cases hlt:j < L
  ·have hj1:j < l.length:=by rw [← HL.out]; exact hlt
   obtain ⟨d,hd⟩:∃ d,l[j]? = some d:=⟨_,List.getElem?_eq_getElem hj1⟩
   obtain ⟨b,off,pa,pc,ba,bc,ha,hb,k0,k1,k2,k3,k4,k5,k6,k7,k8,_⟩:=(hD.out.same (same_grown HG.out (by simp) hB)).2 j d hd
   have hda:defAt l j = d:=by simp [defAt,hd]
   have hbw:b < wr.heap.size:=by have:=HG.out.size; omega
   have HJ:Hid (j + 1 ≤ L):=hlt
   have hjp:(j:Int) < (L:Int):=by omega
   subst ha
   have HG1:Hid (w.grownBy (wr.alloc (dfB d pa pc ba bc)) none):=grown_trans HG.out (grown_a _)
   have HP1:Hid ((wr.alloc (dfB d pa pc ba bc)).heap[w.heap.size]? = some (pgB L (some ⟨b,off,none⟩) c M)):=(Below.heap_alloc _ _ _ hPl).trans HP.out
   have HV1:Hid ((wr.alloc (dfB d pa pc ba bc)).heap[w.heap.size + 1 + 1]? = some (tvO (w.heap.size + 1) L)):=(Below.heap_alloc _ _ _ hVl).trans HV.out
   have HT1:Hid (TaAt w.heap.size (wr.alloc (dfB d pa pc ba bc)) (w.heap.size + 1) L cs (fun i => if i < j then tasksT l ts i else Tk.none)):=HT.out.keep (fun k o e hk => Below.heap_alloc _ _ _ (lt_of_block hk))
   by_cases h4:d.kind = 4
   ·have e4:(d.kind == 4) = true:=by simpa using h4
    have HFn:Hid ((fun k => if k = j then reached ts j else if k < j then tasksT l ts k else Tk.none) = (fun k => if k < j + 1 then tasksT l ts k else Tk.none)):=by
     unfold Hid
     funext k
     by_cases e:k = j
     ·rw [if_pos e,if_pos (by omega),e,tasksT,hda,if_pos h4]
     ·rw [if_neg e]
      by_cases e2:k < j
      ·rw [if_pos e2,if_pos (by omega)]
      ·rw [if_neg e2,if_neg (by omega)]
    have HTj:Hid (tasksT l ts j = reached ts j):=by unfold Hid; rw [tasksT,hda,if_pos h4]
    have v0:(wr.alloc (dfB d pa pc ba bc)).cell? ⟨w.heap.size + 1 + 1,0,none⟩ = some (.slice (some ⟨w.heap.size + 1,0,none⟩) L L):=by simp [World.cell?,HV1.out]
    clear h4 hda hd
    go_wp2_with fail
    refine wp_region_held_drew (S:=fun w' => w'.cell? ⟨w.heap.size + 1 + 1,0,none⟩ = some (.slice (some ⟨w.heap.size + 1,0,none⟩) L L)) (by kernel_rfl) v0 (fun hHeld => ?_)
    refine tk 0 (v:=?_) rfl ?_ (by assumption) ?_
    rotate_left
    ·intro w hSw
     (try dsimp only at hSw)
     go_simp
     (try with_reducible rfl)
    (try go_frame)
    refine tk 1 (v:=?_) rfl ?_ (by assumption) ?_
    rotate_left
    ·intro w hSw
     (try dsimp only at hSw)
     go_simp
     (try with_reducible rfl)
    (try go_frame)
    refine tk 2 (v:=?_) rfl ?_ (by assumption) ?_
    rotate_left
    ·intro w hSw
     (try dsimp only at hSw)
     go_simp
     (try with_reducible rfl)
    (try go_frame)
    refine tk 3 (v:=?_) rfl ?_ (by assumption) ?_
    rotate_left
    ·intro w hSw
     (try dsimp only at hSw)
     go_simp
     (try with_reducible rfl)
    (try go_frame)
    refine wpAnyH_ready (rs:=[4]) (by kernel_rfl) (by simp) ?_
    refine AllReadyH.cons (o:=_) rfl (fun K' hK => ?_) AllReadyH.nil
    go_simp
    refine (reached_any B Tb L j vs0 ts _ (by
     have h1:=hT.out.keep (w':=(wr.alloc (dfB d pa pc ba bc)).drew) (fun k o e hk => HG1.out.block k (lt_of_block hk) (by simp))
     rw [← HL.out] at h1
     exact h1) (by rw [HL.out]; exact hTs) hl' hlt (by rw [HL.out]; exact hTl)).mono ?_
    rintro e w4 ⟨vs,vr,vc,rfl,hg4',q1,q2,q3,w1,w2⟩
    have HFw1:Hid (∀ k,k < j + 1 → (tasksT l ts k).sends.length ≤ 10000000000000 ∧ (tasksT l ts k).recvs.length ≤ 10000000000000):=fun k hk => by
     by_cases e:k = j
     ·rw [e,HTj.out]; exact ⟨w1,w2⟩
     ·exact HFw.out k (by omega)
    clear w1 w2
    have hg4:(wr.alloc (dfB d pa pc ba bc)).grownBy w4 none:=⟨hg4'.os,hg4'.tape,hg4'.output,hg4'.size,hg4'.block⟩
    clear hg4'
    obtain ⟨t,ht⟩:∃ t,t = reached ts j:=⟨_,rfl⟩
    rw [← ht] at q1 q2 q3 HFn
    obtain ⟨sa,sc,hsn⟩:=own_form q1
    obtain ⟨ra,rcc,hrc⟩:=own_form q2
    obtain ⟨ca,ccc,hcl⟩:=own_form q3
    subst hsn hrc hcl
    have HG4:Hid (w.grownBy w4 none):=grown_trans HG1.out hg4
    have HT4:TaAt w.heap.size w4 (w.heap.size + 1) L cs (fun i => if i < j then tasksT l ts i else Tk.none):=HT1.out.keep (fun k o e hk => hg4.block k (lt_of_block hk) (by simp))
    have hsz:w.heap.size ≤ (wr.alloc (dfB d pa pc ba bc)).heap.size:=HG1.out.size
    have HT5:=hid (HT4.put hlt (own_base q1 hsz) (own_base q2 hsz) (own_base q3 hsz))
    rw [HFn.out] at HT5
    obtain ⟨s0,s1,s2,z0,z1,z2,_⟩:=HT4.row j hlt
    have t0:w4.cell? ⟨w.heap.size + 1,j * 3,none⟩ = some s0:=by simp [World.cell?,HT4.blk,z0]
    have t1:w4.cell? ⟨w.heap.size + 1,j * 3 + 1,none⟩ = some s1:=by simp [World.cell?,HT4.blk,z1]
    have t2:w4.cell? ⟨w.heap.size + 1,j * 3 + 2,none⟩ = some s2:=by simp [World.cell?,HT4.blk,z2]
    have y0:w4.frozen? ⟨w.heap.size + 1,j * 3,none⟩ = false:=by simp [World.frozen?,HT4.blk]
    have y1:w4.frozen? ⟨w.heap.size + 1,j * 3 + 1,none⟩ = false:=by simp [World.frozen?,HT4.blk]
    have y2:w4.frozen? ⟨w.heap.size + 1,j * 3 + 2,none⟩ = false:=by simp [World.frozen?,HT4.blk]
    have hg5:w4.grownBy (((w4.setCell ⟨w.heap.size + 1,j * 3,none⟩ (.slice sa t.sends.length sc)).setCell ⟨w.heap.size + 1,j * 3 + 1,none⟩ (.slice ra t.recvs.length rcc)).setCell ⟨w.heap.size + 1,j * 3 + 2,none⟩ (.slice ca t.calls.length ccc)) (some (w.heap.size + 1)):=grown_trans (grown_at _ _ _ _) (grown_trans (grown_at _ _ _ _) (grown_at _ _ _ _))
    have HG5:Hid (w.grownBy (((w4.setCell ⟨w.heap.size + 1,j * 3,none⟩ (.slice sa t.sends.length sc)).setCell ⟨w.heap.size + 1,j * 3 + 1,none⟩ (.slice ra t.recvs.length rcc)).setCell ⟨w.heap.size + 1,j * 3 + 2,none⟩ (.slice ca t.calls.length ccc)) none):=grown_own HG4.out hg5 (by omega)
    have hp4:w4.heap[w.heap.size]? = some (pgB L (some ⟨b,off,none⟩) c M):=(hg4.block _ (lt_of_block HP1.out) (by simp)).trans HP1.out
    have HP5:Hid ((((w4.setCell ⟨w.heap.size + 1,j * 3,none⟩ (.slice sa t.sends.length sc)).setCell ⟨w.heap.size + 1,j * 3 + 1,none⟩ (.slice ra t.recvs.length rcc)).setCell ⟨w.heap.size + 1,j * 3 + 2,none⟩ (.slice ca t.calls.length ccc)).heap[w.heap.size]? = some (pgB L (some ⟨b,off,none⟩) c M)):=(hg5.block _ (lt_of_block hp4) (by simp)).trans hp4
    have hv4:w4.heap[w.heap.size + 1 + 1]? = some (tvO (w.heap.size + 1) L):=(hg4.block _ (lt_of_block HV1.out) (by simp)).trans HV1.out
    have HV5:Hid ((((w4.setCell ⟨w.heap.size + 1,j * 3,none⟩ (.slice sa t.sends.length sc)).setCell ⟨w.heap.size + 1,j * 3 + 1,none⟩ (.slice ra t.recvs.length rcc)).setCell ⟨w.heap.size + 1,j * 3 + 2,none⟩ (.slice ca t.calls.length ccc)).heap[w.heap.size + 1 + 1]? = some (tvO (w.heap.size + 1) L)):=(hg5.block _ (lt_of_block hv4) (by simp)).trans hv4
    have c4:w4.cell? ⟨w.heap.size + 1 + 1,0,none⟩ = some (.slice (some ⟨w.heap.size + 1,0,none⟩) L L):=by simp [World.cell?,hv4]
    have c5:=HV5.out
    have c6:=World.cell?_of_block (a:=⟨w.heap.size + 1 + 1,0,none⟩) (c5.trans hv4.symm)
    rw [c4] at c6
    clear q1 q2 q3 hg4 hg5 hp4 hv4 z0 z1 z2 HT4 c5 ht
    refine hK.out _ _ c4 (fun hHeld => ?_)
    clear hK
    refine tk 5 (v:=?_) rfl ?_ (by assumption) ?_
    rotate_left
    ·intro w hSw
     (try dsimp only at hSw)
     go_simp
     (try with_reducible rfl)
    (try go_frame)
    refine wpAnyH_ready (rs:=[6]) (by kernel_rfl) (by simp) ?_
    refine AllReadyH.cons (o:=_) rfl (fun K' hK => ?_) AllReadyH.nil
    go_simp
    refine hK.out _ _ c6 (fun hHeld => ?_)
    clear hK
    refine wpAnyH_done (by kernel_rfl) ?_ _
    go_wp2
    go_roundw
    case rel => exact ⟨j + 1,_,by go_num,HJ.out,HG5,HP5,HV5,HT5,HFw1⟩
    case measure => have:=HJ.out; simp [intOf]; omega
   ·have e4:(d.kind == 4) = false:=by simpa using h4
    have HFn:Hid ((fun k => if k < j then tasksT l ts k else Tk.none) = (fun k => if k < j + 1 then tasksT l ts k else Tk.none)):=by
     unfold Hid
     funext k
     by_cases e2:k < j
     ·rw [if_pos e2,if_pos (by omega)]
     ·rw [if_neg e2]
      by_cases e:k = j
      ·rw [if_pos (by omega),e,tasksT,hda,if_neg h4]
      ·rw [if_neg (by omega)]
    have HFw1:Hid (∀ k,k < j + 1 → (tasksT l ts k).sends.length ≤ 10000000000000 ∧ (tasksT l ts k).recvs.length ≤ 10000000000000):=fun k hk => by
     by_cases e:k = j
     ·rw [e,tasksT,hda,if_neg h4]; exact ⟨Nat.zero_le _,Nat.zero_le _⟩
     ·exact HFw.out k (by omega)
    have HT2:Hid (TaAt w.heap.size (wr.alloc (dfB d pa pc ba bc)) (w.heap.size + 1) L cs (fun i => if i < j + 1 then tasksT l ts i else Tk.none)):=by
     have h1:=HT1.out
     rw [HFn.out] at h1
     exact h1
    clear h4 hda hd
    go_wp2
    go_roundw
    case rel => exact ⟨j + 1,cs,by go_num,HJ.out,HG1,HP1,HV1,HT2,HFw1⟩
    case measure => have:=HJ.out; simp [intOf]; omega
  ·have hjp:¬ (j:Int) < (L:Int):=by omega
   have HT2:Hid (TaAt w.heap.size wr (w.heap.size + 1) L cs (fun i => if i < L then tasksT l ts i else Tk.none)):=by
    have h1:=HT.out
    rw [show j = L by omega] at h1
    exact h1
   have HFw2:Hid (∀ k,k < L → (tasksT l ts k).sends.length ≤ 10000000000000 ∧ (tasksT l ts k).recvs.length ≤ 10000000000000):=fun k hk => HFw.out k (by omega)
   have HR0:Hid (r = moreO [] (ownersFrom l ts ((List.range l.length).drop 0))):=by unfold Hid; rw [List.drop_zero,hr.out]; cases ownersFrom l ts (List.range l.length) <;> rfl
   obtain ⟨Wl,hWl⟩:∃ Wl,Wl = wr:=⟨_,rfl⟩
   have HG2:Hid (w.grownBy wr none):=HG
   clear HT HFw
   go_wp2
   go_loopw [8,36] (fun v q wi => ∃ (i:Nat) (os:List Ow3),q = .int .i64 i ∧ i ≤ L ∧ os.length ≤ i ∧ Hid (w.grownBy wi none) ∧ Hid (wi.heap[w.heap.size]? = some (pgB L a c M)) ∧ Hid (wi.heap[w.heap.size + 1 + 1]? = some (tvO (w.heap.size + 1) L)) ∧ Hid (TaAt w.heap.size wi (w.heap.size + 1) L cs (fun i => if i < L then tasksT l ts i else Tk.none)) ∧ Hid (wi.ownsRow w.heap.size 54 3 v os.length (ows os)) ∧ Hid (r = moreO os (ownersFrom l ts ((List.range l.length).drop i)))) (fun _ q _ => L - (intOf q).toNat)
   case atStart => exact ⟨0,[],rfl,Nat.zero_le _,Nat.le_refl _,HG2,HP,HV,HT2,World.ownsRow_nil _ _ _ _,HR0⟩
   case round =>
    obtain ⟨i,os,rfl,hi,hos,HGi,HPi,HVi,HTi,HOi,HRi⟩:=hrel
    obtain ⟨p0,p1,_,_⟩:=two_cell HPi.out
    have hPi:=lt_of_block HPi.out
    have hVi:=lt_of_block HVi.out
    by_cases hlt2:i < L
    ·have hi1:i < l.length:=by rw [← HL.out]; exact hlt2
     obtain ⟨d,hd⟩:∃ d,l[i]? = some d:=⟨_,List.getElem?_eq_getElem hi1⟩
     have HDi:Hid (DfsIn B wr l a):=hD.out.same (same_grown HGi.out (by simp) hB)
     obtain ⟨b,off,pa,pc,ba,bc,ha,hb,k0,k1,k2,k3,k4,k5,k6,k7,k8,_⟩:=HDi.out.2 i d hd
     have hda:defAt l i = d:=by simp [defAt,hd]
     have hbw:b < wr.heap.size:=by have:=HGi.out.size; omega
     have HJ:Hid (i + 1 ≤ L):=hlt2
     have hip:(i:Int) < (L:Int):=by omega
     subst ha
     have hdr:(List.range l.length).drop i = i :: (List.range l.length).drop (i + 1):=by rw [List.drop_eq_getElem_cons (by simpa using hi1)]; simp
     by_cases h1:d.kind = 1
     ·have e1:(d.kind == 1) = true:=by simpa using h1
      obtain ⟨_,hdn⟩:=hN.out i d hd
      obtain ⟨oa,oc,rfl⟩:=own_form HOi.out
      obtain ⟨rs,hrs⟩:∃ x,x = Sm.only l (fun t => decide (i ∈ (tasksT l ts t).sends)):=⟨_,rfl⟩
      obtain ⟨rc,hrc⟩:∃ x,x = Sm.only l (fun t => decide (i ∈ (tasksT l ts t).recvs)):=⟨_,rfl⟩
      have HRe:Hid (r = andO rs i fun sn => andO rc i fun rn => moreO (os ++ [(d.name,sn,rn)]) (ownersFrom l ts ((List.range l.length).drop (i + 1)))):=by
       unfold Hid
       rw [HRi.out,hdr]
       exact owners_box hda h1 hrs hrc
      obtain ⟨W1,hW1⟩:∃ W1,W1 = (wr.alloc (ivO i)).alloc (dfB d pa pc ba bc):=⟨_,rfl⟩
      have HW1:Hid (W1 = _):=hW1
      have hg1:wr.grownBy W1 none:=by rw [hW1]; exact grown_a2 _ _
      have HG1:Hid (w.grownBy W1 none):=grown_trans HGi.out hg1
      have HP1:Hid (W1.heap[w.heap.size]? = some (pgB L (some ⟨b,off,none⟩) c M)):=(hg1.block _ hPi (by simp)).trans HPi.out
      have HV1:Hid (W1.heap[w.heap.size + 1 + 1]? = some (tvO (w.heap.size + 1) L)):=(hg1.block _ hVi (by simp)).trans HVi.out
      have HT1:Hid (TaAt w.heap.size W1 (w.heap.size + 1) L cs (fun i => if i < L then tasksT l ts i else Tk.none)):=HTi.out.keep (fun k o e hk => hg1.block _ (lt_of_block hk) (by simp))
      have HI1:Hid (W1.heap[wr.heap.size]? = some (ivO i)):=by rw [hW1]; exact (Below.heap_alloc _ _ _ (by simp)).trans (heap_alloc_new _ _)
      have HE1:Hid (W1.heap[wr.heap.size + 1]? = some (dfB d pa pc ba bc)):=by
       rw [hW1]
       have:=heap_alloc_new (wr.alloc (ivO i)) (dfB d pa pc ba bc)
       rw [World.size_alloc] at this
       exact this
      have HO1:Hid (W1.ownsRow w.heap.size 54 3 (.slice oa os.length oc) os.length (ows os)):=by rw [hW1]; exact (HOi.out.alloc (ivO i)).alloc (dfB d pa pc ba bc)
      have HC:Hid (∀ W',W1.grownBy W' none → W'.cell? ⟨wr.heap.size + 1,1,none⟩ = some (.string d.name) ∧ W'.cell? ⟨w.heap.size,0,none⟩ = some (.slice (some ⟨b,off,none⟩) L c) ∧ W'.cell? ⟨w.heap.size,1,none⟩ = some (.map (some M)) ∧ W'.cell? ⟨wr.heap.size,0,none⟩ = some (.int .i64 (i:Int))):=fun W' hg => by
       have a1:=(hg.block _ (lt_of_block HE1.out) (by simp)).trans HE1.out
       have a2:=(hg.block _ (lt_of_block HP1.out) (by simp)).trans HP1.out
       have a3:=(hg.block _ (lt_of_block HI1.out) (by simp)).trans HI1.out
       refine ⟨?_,?_,?_,?_⟩ <;> simp [World.cell?,a1,a2,a3]
      have HON:Hid (∀ (g:FuncId) (caps:Array Value) (sp:Nat → Bool) (W':World) (rX:Except Int ByteArray),W1.grownBy W' none → (∀ (vs:Array Value) (w:World),(callFunc g vs).run Tryz.prog w = .ok (.enter g vs) w) → (∀ (k:Nat) (w':World),k < L → W'.grownBy w' none → Calls Tryz.prog g (#[.int .i64 (k:Int)] ++ caps) w' fun e w'' => e = .returned (.bool (sp k)) ∧ w'.grownBy w'' none) → rX = Sm.only l sp →
        Calls Tryz.prog 39 #[.agg #[.slice (some ⟨b,off,none⟩) L c,.map (some M),.int .i64 (i:Int)],.func (.func g) #[] caps] W' fun e w'' => W'.grownBy w'' none ∧ e = endO (i:Int) rX):=by
       intro g caps sp W' rX hg hcf hS hrx
       have hgw:=grown_trans HG1.out hg
       have h1:=only_any B l (some ⟨b,off,none⟩) c M i g caps sp W' (ansO rX) (hD.out.same (same_grown hgw (by simp) hB)) (Nat.le_trans hB hgw.size) hN (by rw [← HL.out]; exact hl') hcf (by unfold Hid; rw [← HL.out]; exact hS) (by unfold Hid; subst hrx; rfl)
       rw [← HL.out] at h1
       refine h1.mono ?_
       rintro e w2 ⟨h2,h3⟩
       exact ⟨h2,by rw [h3]; cases rX <;> rfl⟩
      have HSE:Hid (∀ W',W1.grownBy W' none → Calls Tryz.prog 39 #[.agg #[.slice (some ⟨b,off,none⟩) L c,.map (some M),.int .i64 (i:Int)],.func (.func 40) #[] #[.pointer (some ⟨w.heap.size + 1 + 1,0,none⟩),.pointer (some ⟨wr.heap.size,0,none⟩)]] W' fun e w'' => W'.grownBy w'' none ∧ e = endO (i:Int) rs):=fun W' hg =>
       HON.out _ _ (fun t => decide (i ∈ (tasksT l ts t).sends)) W' rs hg (fun _ _ => rfl) (fun k w' hk hg' => by
        have hg2:=grown_trans hg hg'
        have hw:=(HFw2.out k hk).1
        refine (sends_any w.heap.size (w.heap.size + 1) L (w.heap.size + 1 + 1) wr.heap.size k i cs (fun i => if i < L then tasksT l ts i else Tk.none) w' (HT1.out.keep (fun k o e hk => hg2.block _ (lt_of_block hk) (by simp))) ((hg2.block _ (lt_of_block HV1.out) (by simp)).trans HV1.out) ((hg2.block _ (lt_of_block HI1.out) (by simp)).trans HI1.out) hk (by unfold Hid; rw [if_pos hk]; omega)).mono ?_
        rintro e w'' ⟨rfl,h⟩
        exact ⟨by rw [if_pos hk],h⟩) hrs
      have HRC:Hid (∀ W',W1.grownBy W' none → Calls Tryz.prog 39 #[.agg #[.slice (some ⟨b,off,none⟩) L c,.map (some M),.int .i64 (i:Int)],.func (.func 42) #[] #[.pointer (some ⟨w.heap.size + 1 + 1,0,none⟩),.pointer (some ⟨wr.heap.size,0,none⟩)]] W' fun e w'' => W'.grownBy w'' none ∧ e = endO (i:Int) rc):=fun W' hg =>
       HON.out _ _ (fun t => decide (i ∈ (tasksT l ts t).recvs)) W' rc hg (fun _ _ => rfl) (fun k w' hk hg' => by
        have hg2:=grown_trans hg hg'
        have hw:=(HFw2.out k hk).2
        refine (recvs_any w.heap.size (w.heap.size + 1) L (w.heap.size + 1 + 1) wr.heap.size k i cs (fun i => if i < L then tasksT l ts i else Tk.none) w' (HT1.out.keep (fun k o e hk => hg2.block _ (lt_of_block hk) (by simp))) ((hg2.block _ (lt_of_block HV1.out) (by simp)).trans HV1.out) ((hg2.block _ (lt_of_block HI1.out) (by simp)).trans HI1.out) hk (by unfold Hid; rw [if_pos hk]; omega)).mono ?_
        rintro e w'' ⟨rfl,h⟩
        exact ⟨by rw [if_pos hk],h⟩) hrc
      have hdn':d.name.size ≤ 281474976710656:=by omega
      have HN2:Hid (os.length + 1 ≤ i + 1 ∧ os.length ≤ 1000000):=⟨by omega,by omega⟩
      clear h1 hd hda hdr hdn hg1 hrs hrc hW1
      go_wp2_with fail
      rw [← HW1.out]
      refine wp_region_held_drew (S:=fun w' => w'.cell? ⟨wr.heap.size + 1,1,none⟩ = some (.string d.name) ∧ w'.cell? ⟨w.heap.size,0,none⟩ = some (.slice (some ⟨b,off,none⟩) L c) ∧ w'.cell? ⟨w.heap.size,1,none⟩ = some (.map (some M)) ∧ w'.cell? ⟨wr.heap.size,0,none⟩ = some (.int .i64 (i:Int))) (by kernel_rfl) (HC.out _ ⟨rfl,rfl,rfl,Nat.le_refl _,fun _ _ _ => rfl⟩) (fun hHeld => ?_)
      refine tk 0 (v:=?_) rfl ?_ (by assumption) ?_
      rotate_left
      ·intro w hSw
       (try dsimp only at hSw)
       go_simp
       (try with_reducible rfl)
      (try go_frame)
      refine tk 1 (v:=?_) rfl ?_ (by assumption) ?_
      rotate_left
      ·intro w hSw
       (try dsimp only at hSw)
       go_simp
       (try with_reducible rfl)
      (try go_frame)
      refine tk 2 (v:=?_) rfl ?_ (by assumption) ?_
      rotate_left
      ·intro w hSw
       (try dsimp only at hSw)
       go_simp
       (try with_reducible rfl)
      (try go_frame)
      refine tk 4 (v:=?_) rfl ?_ (by assumption) ?_
      rotate_left
      ·intro w hSw
       (try dsimp only at hSw)
       go_simp
       (try with_reducible rfl)
      (try go_frame)
      refine tk 5 (v:=?_) rfl ?_ (by assumption) ?_
      rotate_left
      ·intro w hSw
       (try dsimp only at hSw)
       go_simp
       (try with_reducible rfl)
      (try go_frame)
      refine tk 6 (v:=?_) rfl ?_ (by assumption) ?_
      rotate_left
      ·intro w hSw
       (try dsimp only at hSw)
       go_simp
       (try with_reducible rfl)
      (try go_frame)
      refine tk 7 (v:=?_) rfl ?_ (by assumption) ?_
      rotate_left
      ·intro w hSw
       (try dsimp only at hSw)
       go_simp
       (try with_reducible rfl)
      (try go_frame)
      refine tk 9 (v:=?_) rfl ?_ (by assumption) ?_
      rotate_left
      ·intro w hSw
       (try dsimp only at hSw)
       go_simp
       (try with_reducible rfl)
      (try go_frame)
      refine tk 10 (v:=?_) rfl ?_ (by assumption) ?_
      rotate_left
      ·intro w hSw
       (try dsimp only at hSw)
       go_simp
       (try with_reducible rfl)
      (try go_frame)
      refine tk 11 (v:=?_) rfl ?_ (by assumption) ?_
      rotate_left
      ·intro w hSw
       (try dsimp only at hSw)
       go_simp
       (try with_reducible rfl)
      (try go_frame)
      refine tk 12 (v:=?_) rfl ?_ (by assumption) ?_
      rotate_left
      ·intro w hSw
       (try dsimp only at hSw)
       go_simp
       (try with_reducible rfl)
      (try go_frame)
      refine wpAnyH_ready (rs:=[3]) (by kernel_rfl) (by simp) ?_
      refine AllReadyH.cons (o:=_) rfl (fun K' hK => ?_) AllReadyH.nil
      go_simp
      refine (sclone_any d.name _ hdn').mono ?_
      rintro e w2 ⟨rfl,hg2'⟩
      have HG2:Hid (W1.grownBy w2 none):=⟨hg2'.os,hg2'.tape,hg2'.output,hg2'.size,hg2'.block⟩
      clear hg2'
      refine hK.out _ _ (HC.out _ HG2.out) (fun hHeld => ?_)
      clear hK
      refine wpAnyH_ready (rs:=[8]) (by kernel_rfl) (by simp) ?_
      refine AllReadyH.cons (o:=_) rfl (fun K' hK => ?_) AllReadyH.nil
      go_simp
      refine (HSE.out _ HG2.out).mono ?_
      rintro e w3 ⟨hg3,he3⟩
      have HG3:Hid (W1.grownBy w3 none):=grown_trans HG2.out hg3
      clear hg3
      cases rs with
      | error er =>
       subst he3
       have HEr:Hid (Oo r w (.panicked [fltE er (i:Int)]) w3):=by rw [HRe.out]; exact ⟨grown_trans HG1.out HG3.out,rfl⟩
       exact ⟨rfl,HEr.out⟩
      | ok sn =>
       subst he3
       refine hK.out _ _ (HC.out _ HG3.out) (fun hHeld => ?_)
       clear hK
       refine wpAnyH_ready (rs:=[13]) (by kernel_rfl) (by simp) ?_
       refine AllReadyH.cons (o:=_) rfl (fun K' hK => ?_) AllReadyH.nil
       go_simp
       refine (HRC.out _ HG3.out).mono ?_
       rintro e w4 ⟨hg4,he4⟩
       have HG4:Hid (W1.grownBy w4 none):=grown_trans HG3.out hg4
       clear hg4
       cases rc with
       | error er =>
        subst he4
        have HEr:Hid (Oo r w (.panicked [fltE er (i:Int)]) w4):=by rw [HRe.out]; exact ⟨grown_trans HG1.out HG4.out,rfl⟩
        exact ⟨rfl,HEr.out⟩
       | ok rn =>
        subst he4
        refine hK.out _ _ (HC.out _ HG4.out) (fun hHeld => ?_)
        clear hK
        refine tk 14 (v:=?_) rfl ?_ (by assumption) ?_
        rotate_left
        ·intro w hSw
         (try dsimp only at hSw)
         go_simp
         (try with_reducible rfl)
        (try go_frame)
        refine wpAnyH_ready (rs:=[15]) (by kernel_rfl) (by simp) ?_
        refine AllReadyH.cons (o:=_) rfl (fun K' hK => ?_) AllReadyH.nil
        go_simp
        obtain ⟨N4,hN4⟩:∃ N,N = w4.heap.size:=⟨_,rfl⟩
        obtain ⟨W5,hW5⟩:∃ W5,W5 = w4.alloc (.cells #[.string d.name,.string sn,.string rn] 54):=⟨_,rfl⟩
        have HG5:Hid (W1.grownBy W5 none):=by rw [hW5]; exact grown_trans HG4.out (grown_a _)
        have HNW:Hid (∀ (j:Nat) u',(owC (d.name,sn,rn))[j]? = some u' → W5.cell? ((⟨N4,0,none⟩:Addr).add j) = some u'):=by
         rw [hW5,hN4]
         exact three_news w4 _ _ _ _
        have HO5:Hid (W5.ownsRow w.heap.size 54 3 (.slice oa os.length oc) os.length (ows os)):=own_keep HO1.out (fun k hk => HG5.out.block k (own_lt HO1.out k hk).2.1 (by simp))
        have HB5:Hid (w.heap.size ≤ W5.heap.size):=Nat.le_trans HG1.out.size HG5.out.size
        have HR5:Hid (r = moreO (os ++ [(d.name,sn,rn)]) (ownersFrom l ts ((List.range l.length).drop (i + 1)))):=HRe.out
        rw [← hN4,← hW5]
        clear hN4 hW5 HRe
        refine hK.out _ _ (HC.out _ HG5.out) (fun hHeld => ?_)
        clear hK
        refine wpAnyH_ready (rs:=[16]) (by kernel_rfl) (by simp) ?_
        refine AllReadyH.cons (o:=_) rfl (fun K' hK => ?_) AllReadyH.nil
        refine step_append_ow rfl (.tmp 44) (.tmp 59) rfl w.heap.size (.slice oa os.length oc) os (d.name,sn,rn) (by kernel_rfl) HO5.out ⟨N4,0,none⟩ (by kernel_rfl) HNW.out HN2.out.2 HB5.out ?_
        intro v6 w6 hown6 hg6
        have hb6:∀ (b:Nat) (cs:Array Value) (t:TypeId),W1.heap[b]? = some (.cells cs t (0,0)) → t ≠ 54 → w6.heap[b]? = W1.heap[b]?:=fun b cs t hb hne => by
         have h5:W5.heap[b]? = some (.cells cs t (0,0)):=(HG5.out.block b (lt_of_block hb) (by simp)).trans hb
         refine (hg6.block b (lt_of_block h5) (fun e => ?_)).trans (h5.trans hb.symm)
         obtain ⟨_,_,cur,hc⟩:=own_lt HO5.out b e.symm
         rw [h5] at hc
         cases hc
         exact hne rfl
        have HG6:Hid (w.grownBy w6 none):=grown_row (grown_trans HG1.out HG5.out) hg6 (fun k hk => (own_lt HO5.out k hk).1)
        have HP6:Hid (w6.heap[w.heap.size]? = some (pgB L (some ⟨b,off,none⟩) c M)):=(hb6 _ _ _ HP1.out (by decide)).trans HP1.out
        have HV6:Hid (w6.heap[w.heap.size + 1 + 1]? = some (tvO (w.heap.size + 1) L)):=(hb6 _ _ _ HV1.out (by decide)).trans HV1.out
        have HT6:Hid (TaAt w.heap.size w6 (w.heap.size + 1) L cs (fun i => if i < L then tasksT l ts i else Tk.none)):=HT1.out.keepO (fun k o e hk hne => hb6 k o e hk hne)
        have HO6:Hid (w6.ownsRow w.heap.size 54 3 v6 (os ++ [(d.name,sn,rn)]).length (ows (os ++ [(d.name,sn,rn)]))):=hown6
        have hE6:=(hb6 _ _ _ HE1.out (by decide)).trans HE1.out
        have hI6:=(hb6 _ _ _ HI1.out (by decide)).trans HI1.out
        have hP6:=HP6.out
        refine hK.out _ _ ⟨by simp [World.cell?,hE6],by simp [World.cell?,hP6],by simp [World.cell?,hP6],by simp [World.cell?,hI6]⟩ (fun hHeld => ?_)
        clear hK hown6 hg6 hb6 hE6 hI6 hP6
        refine tk 17 (v:=?_) rfl ?_ (by assumption) ?_
        rotate_left
        ·intro w hSw
         (try dsimp only at hSw)
         go_simp
         (try with_reducible rfl)
        (try go_frame)
        refine wpAnyH_done (by kernel_rfl) ?_ _
        go_wp2
        go_roundw
        case rel => exact ⟨i + 1,os ++ [(d.name,sn,rn)],by go_num,HJ.out,by have:=HN2.out.1; simp; omega,HG6,HP6,HV6,HT6,HO6,HR5⟩
        case measure => have:=HJ.out; simp [intOf]; omega
     ·have e1:(d.kind == 1) = false:=by simpa using h1
      have HRn:Hid (r = moreO os (ownersFrom l ts ((List.range l.length).drop (i + 1)))):=by
       unfold Hid
       rw [HRi.out,hdr,ownersFrom,hda,if_neg h1]
      have HGn:Hid (w.grownBy ((wr.alloc (ivO i)).alloc (dfB d pa pc ba bc)) none):=grown_trans HGi.out (grown_a2 _ _)
      have HPn:Hid (((wr.alloc (ivO i)).alloc (dfB d pa pc ba bc)).heap[w.heap.size]? = some (pgB L (some ⟨b,off,none⟩) c M)):=((grown_a2 (w:=wr) (ivO i) (dfB d pa pc ba bc)).block _ hPi (by simp)).trans HPi.out
      have HVn:Hid (((wr.alloc (ivO i)).alloc (dfB d pa pc ba bc)).heap[w.heap.size + 1 + 1]? = some (tvO (w.heap.size + 1) L)):=((grown_a2 (w:=wr) (ivO i) (dfB d pa pc ba bc)).block _ hVi (by simp)).trans HVi.out
      have HTn:Hid (TaAt w.heap.size ((wr.alloc (ivO i)).alloc (dfB d pa pc ba bc)) (w.heap.size + 1) L cs (fun i => if i < L then tasksT l ts i else Tk.none)):=HTi.out.keep (fun k o e hk => (grown_a2 (w:=wr) (ivO i) (dfB d pa pc ba bc)).block _ (lt_of_block hk) (by simp))
      have HOn:=hid ((HOi.out.alloc (ivO i)).alloc (dfB d pa pc ba bc))
      clear h1 hda hd hdr
      go_wp2
      go_roundw
      case rel => exact ⟨i + 1,os,by go_num,HJ.out,by omega,HGn,HPn,HVn,HTn,HOn,HRn⟩
      case measure => have:=HJ.out; simp [intOf]; omega
    ·have hip:¬ (i:Int) < (L:Int):=by omega
     have HRe:Hid (r = .ok os):=by
      have h1:=HRi.out
      have h2:=HL.out
      rw [List.drop_of_length_le (by simp; omega)] at h1
      unfold Hid
      rw [h1]
      simp [ownersFrom,moreO]
     go_wp2
     go_ret
     exact ⟨HGi.out,by rw [HRe.out]; exact ⟨_,rfl,HOi.out⟩⟩
end Sm
def nodeR (kind most:Int) (d n:Nat):Except Int Nat:=if Sy.nodeW kind most d n ≠ 0 then .error (Sy.nodeW kind most d n) else .ok (n + 1)
theorem node_any (C n d:Nat) (num kind most deep:Int) (r:Except Int Nat) (w:World) (hC:Hid (CK w C num n)) (hn:n ≤ 2000) (hd:deep = 41 - d) (hr:Hid (r = nodeR kind most d n)) :
  Calls Tryz.prog 57 #[.pointer (some ⟨C,0,none⟩),.int .i64 kind,.int .i64 most,.int .i64 deep] w fun e w' => w.grownBy w' (some C) ∧ Fate C num r e w':=by
 have HC1:Hid (CK (w.setCell ⟨C,1,none⟩ (.int .i64 ((n:Int) + 1))) C num (n + 1)):=hC.out.set1 (by omega)
 have HG:Hid (w.grownBy (w.setCell ⟨C,1,none⟩ (.int .i64 ((n:Int) + 1))) (some C)):=grown_at _ _ _ _
 obtain ⟨c0,c1,f0,f1⟩:=hC.out.cells
 by_cases h1:2000 < n + 1
 ·have HR:Hid (r = .error 4):=by
   have:Sy.nodeW kind most d n = 4:=by unfold Sy.nodeW; rw [if_pos (.inl h1)]
   have:=hr.out; unfold nodeR at this; simp_all [Hid]
  have e1:decide ((n:Int) + 1 > 2000) = true:=by simp; omega
  go_enter Tryz.func57,Tryz.ntmps57
  go_wp2_with fail
  refine (fail_any C (n + 1) num 4 _ HC1.out).mono ?_
  rintro e w1 ⟨rfl,rfl⟩
  go_wp2
  exact ⟨rfl,HG.out,by rw [HR.out]; rfl⟩
 ·have e1:(n:Int) + 1 ≤ 2000:=by omega
  by_cases h2:d = 0
  ·have HR:Hid (r = .error 4):=by
    have:Sy.nodeW kind most d n = 4:=by unfold Sy.nodeW; rw [if_pos (.inr h2)]
    have:=hr.out; unfold nodeR at this; simp_all [Hid]
   have e2:40 < deep:=by omega
   clear h2 hd h1 hn
   go_enter Tryz.func57,Tryz.ntmps57
   go_wp2_with fail
   refine (fail_any C (n + 1) num 4 _ HC1.out).mono ?_
   rintro e w1 ⟨rfl,rfl⟩
   go_wp2
   exact ⟨rfl,HG.out,by rw [HR.out]; rfl⟩
  ·have e2:deep ≤ 40:=by omega
   obtain ⟨er,hE⟩:∃ er:Int,er = if kind < 1 ∨ most < kind then 1 else 0:=⟨_,rfl⟩
   have HE:Hid (er = if kind < 1 ∨ most < kind then 1 else 0):=hE
   have HR:Hid (r = if er ≠ 0 then .error er else .ok (n + 1)):=by
    have:Sy.nodeW kind most d n = er:=by unfold Sy.nodeW; rw [if_neg (by omega),hE]
    have h:=hr.out; unfold nodeR at h; rw [this] at h; exact h
   clear h2 hd hE h1 hn
   go_enter Tryz.func57,Tryz.ntmps57
   go_wp2_with fail
   refine (kind_any C (n + 1) num kind most er _ HC1 HE).mono ?_
   rintro e w1 hf
   have HF:Hid (Fate0 num er _ e w1):=hf
   clear hf
   by_cases h0:er = 0
   ·have HR2:Hid (r = .ok (n + 1)):=by have h:=HR.out; rw [if_neg (by simpa using h0)] at h; exact h
    obtain rfl:=fate0_not HF.out h0
    clear h0
    go_wp2
    go_end0
    exact ⟨grown_trans HG.out ⟨HF.out.1.os,HF.out.1.tape,HF.out.1.output,HF.out.1.size,fun k hk _ => HF.out.1.block k hk (by simp)⟩,by rw [HR2.out]; exact ⟨rfl,HC1.out.keep HF.out.1 (by simp)⟩⟩
   ·have HR2:Hid (r = .error er):=by have h:=HR.out; rw [if_pos (by simpa using h0)] at h; exact h
    obtain rfl:=fate0_err HF.out h0
    clear h0
    go_wp2
    exact ⟨rfl,grown_trans HG.out ⟨HF.out.1.os,HF.out.1.tape,HF.out.1.output,HF.out.1.size,fun k hk _ => HF.out.1.block k hk (by simp)⟩,by rw [HR2.out]; rfl⟩
end Go.Proofs.YtbioaoangfiijaaGreatDoor

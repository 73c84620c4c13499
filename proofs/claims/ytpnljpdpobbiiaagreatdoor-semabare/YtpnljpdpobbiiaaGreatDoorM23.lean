/- A block begins and ends: the walks of open and of what it answers. -/
import Derived.Test.YtpnljpdpobbiiaaGreatDoorM22
import Derived.Deep.LoopGhost
set_option maxRecDepth 100000
set_option maxHeartbeats 2000000
namespace Go.Proofs.YtpnljpdpobbiiaaGreatDoor
open Go.RowKit
namespace Sm
abbrev pO (F:Nat):Obj:=.cells #[.pointer (some ⟨F,3,none⟩)] 133 (0,0)
abbrev nO (n:Nat):Obj:=.cells #[.int .i64 (n:Int)] 3 (0,0)
theorem open_any (K:BK) (v:Vars) (t:Tk) (w:World) (h:Hid (BW K w v t)) :
  Calls Tryz.prog 75 #[.pointer (some ⟨K.F,3,none⟩)] w fun e w' => e = .returned (.func (.func 97) #[] #[.pointer (some ⟨w.heap.size,0,none⟩),.pointer (some ⟨w.heap.size + 1,0,none⟩)]) ∧ w' = (w.alloc (pO K.F)).alloc (nO v.length):=by
 obtain ⟨o,s,rr,cc,h4⟩:=h.out.rows
 have hF:=h4.lt
 obtain ⟨oa,oc,hord⟩:=own_form h4.ordO
 subst hord
 obtain ⟨c0,c1,c2,c3,c4,_⟩:=bd_cells ((Below.heap_alloc w (pO K.F) _ hF).trans h4.blk)
 clear h4
 go_enter Tryz.func75,Tryz.ntmps75
 go_wp2
 go_ret
 exact ⟨rfl,rfl⟩
structure ClAt (K:BK) (v:Vars) (n:Nat) (w:World) (j:Nat) (wr:World):Prop where
 le:n + j ≤ v.length
 map:Ms.In wr K.T (vrow (v.take n ++ v.drop (n + j)))
 grown:w.grownBy wr (some K.T)
theorem cl_at {v:Vars} {n j:Nat} {p:ByteArray × Sy.Ty} (ho:(v.map (·.1)).Nodup) (hp:v[n + j]? = some p):Ms.at' (vrow (v.take n ++ v.drop (n + j))) p.1 0 = some (n,tyV p.2) ∧ (vrow (v.take n ++ v.drop (n + j))).eraseIdx n = vrow (v.take n ++ v.drop (n + (j + 1))):=by
 have hlt:=(List.getElem?_eq_some_iff.1 hp).1
 have hd:v.drop (n + j) = p :: v.drop (n + (j + 1)):=by
  have:=List.drop_eq_getElem_cons hlt
  rw [this,(List.getElem?_eq_some_iff.1 hp).2]
  rfl
 have hl:(vrow (v.take n)).length = n:=by simp; omega
 have hne:∀ q ∈ vrow (v.take n),q.1 ≠ p.1:=by
  intro q hq e
  obtain ⟨x,hx,rfl⟩:=List.mem_map.1 hq
  obtain ⟨i,hi,hxi⟩:=List.getElem_of_mem hx
  have hi':i < n:=by simp at hi; omega
  have h1:(v.map (·.1))[i]? = some p.1:=by
   rw [List.getElem?_map]
   have:v[i]? = some x:=by
    rw [← hxi]
    simp [List.getElem_take]
   rw [this]
   simpa using e
  have h2:(v.map (·.1))[n + j]? = some p.1:=by rw [List.getElem?_map,hp]; rfl
  have:=(List.getElem?_inj (by simp; omega) ho).1 (h1.trans h2.symm)
  omega
 have hv:vrow (v.take n ++ v.drop (n + j)) = vrow (v.take n) ++ (p.1,tyV p.2) :: vrow (v.drop (n + (j + 1))):=by rw [hd]; simp
 rw [hv]
 refine ⟨by rw [Ms.at_first hne,hl,Nat.zero_add],?_⟩
 rw [List.eraseIdx_append_of_length_le (by omega),hl,Nat.sub_self]
 simp
theorem close_end {K:BK} {v:Vars} {t:Tk} {n:Nat} {w wr:World} {ord nv sn rc cl:Value} (h:BW K w v t) (h4:Rows4 K w v t ord sn rc cl) (hn:n ≤ v.length) (hown:w.ownsRow K.B 9 1 nv n (strs (v.take n))) (hno:nv.ownBlock = ord.ownBlock)
  (hT:Ms.In wr K.T (vrow (v.take n))) (hg:w.grownBy wr (some K.T)):BW K (wr.setCell ⟨K.F,4,none⟩ nv) (v.take n) t ∧ Kpt K w (wr.setCell ⟨K.F,4,none⟩ nv):=by
 have hFT:=In.far h.vars h4.blk
 have blk:∀ k,k < w.heap.size → k ≠ K.T → wr.heap[k]? = w.heap[k]?:=fun k hk h1 => hg.block k hk (fun e => h1 (by simpa using e))
 have hF4:wr.heap[K.F]? = some (K.obj ord sn rc cl):=(blk _ h4.lt hFT).trans h4.blk
 have hF5:=obj_set4 hF4 nv
 have set:∀ k,k ≠ K.F → (wr.setCell ⟨K.F,4,none⟩ nv).heap[k]? = wr.heap[k]?:=fun k hk => Below.heap_setCell wr ⟨K.F,4,none⟩ nv k hk
 have all:∀ k,k < w.heap.size → k ≠ K.F → k ≠ K.T → (wr.setCell ⟨K.F,4,none⟩ nv).heap[k]? = w.heap[k]?:=fun k hk h1 h2 => (set k h1).trans (blk k hk h2)
 have ints:∀ {x:Value} {m:Nat} {xs:List Value} {e:TypeId},e ≠ 89 → w.ownsRow K.B e 1 x m xs → (wr.setCell ⟨K.F,4,none⟩ nv).ownsRow K.B e 1 x m xs:=fun {x m xs e} he ho => own_keep ho fun k hk => by
  obtain ⟨_,hlt,cur,hc⟩:=own_lt ho k hk
  refine all k hlt (fun e' => ?_) (In.far h.vars hc)
  rw [e',h4.blk] at hc
  simp only [Option.some.injEq,Obj.cells.injEq] at hc
  exact he hc.2.1.symm
 have hlen:(v.take n).length = n:=by simp; omega
 refine ⟨⟨?_,h.base,?_,h.nums,⟨nv,sn,rc,cl,hF5,by rw [hlen]; exact ints (by decide) hown,ints (by decide) h4.snO,ints (by decide) h4.rcO,ints (by decide) h4.clO,h4.far⟩,?_,?_⟩,⟨hg.os,hg.tape,hg.output,?_,fun k hk hf => ?_⟩⟩
 ·refine h.grd.same fun b o hb => World.cell?_of_block (a:=⟨b,o,none⟩) ?_
  have hbase:=h.base
  have:=h4.lt
  exact all b (by omega) (by omega) (by omega)
 ·exact h.mp.keep (all _ h.mp.lt (fun e => (In.far h.mp h4.blk) e.symm) h.base.2.2.2)
 ·exact hT.keep (set _ (fun e => hFT e.symm))
 ·exact (h.once.sublist ((List.take_sublist n v).map _))
 ·have:=hg.size; simp [World.setCell]; omega
 ·obtain ⟨q1,q2,q3⟩:=hf
  obtain ⟨q4,q5,q6,q7⟩:=q3 _ _ _ _ h4.blk
  refine ⟨all k hk q1 q2,q1,q2,fun o s r c ho => ?_⟩
  rw [hF5] at ho
  obtain ⟨rfl,rfl,rfl,rfl⟩:=obj_inj (Option.some.inj ho)
  exact ⟨by rw [hno]; exact q4,q5,q6,q7⟩
theorem close_any (K:BK) (v:Vars) (t:Tk) (n P1 P2:Nat) (u:FrameMode) (w:World) (h:Hid (BW K w v t)) (hn:n ≤ v.length) (h1:Hid (w.heap[P1]? = some (pO K.F))) (h2:Hid (w.heap[P2]? = some (nO n))) (f1:Hid (Free K w P1)) (f2:Hid (Free K w P2)) :
  CallsD Tryz.prog 97 #[.pointer (some ⟨P1,0,none⟩),.pointer (some ⟨P2,0,none⟩)] u w fun e u' w' => u' = u ∧ (e = .returned (.tuple #[]) ∧ BW K w' (v.take n) t ∧ Kpt K w w'):=by
 obtain ⟨o,s,rr,cc,h4⟩:=h.out.rows
 have hF:=h4.lt
 have H4:Hid (Rows4 K w v t o s rr cc):=h4
 obtain ⟨c0,c1,c2,c3,c4,_⟩:=bd_cells h4.blk
 have p1:w.cell? ⟨P1,0,none⟩ = some (.pointer (some ⟨K.F,3,none⟩)):=by simp [World.cell?,h1.out]
 have p2:w.cell? ⟨P2,0,none⟩ = some (.int .i64 (n:Int)):=by simp [World.cell?,h2.out]
 rcases h4.ordO.2 with ⟨ho,h0⟩ | ⟨g,cap,cur,ho,hBg,hg,hcap,hmax,hcur,htake⟩
 ·obtain rfl:v = []:=List.eq_nil_of_length_eq_zero h0
  obtain rfl:n = 0:=by simpa using hn
  subst ho
  have z4:=(bd_frozen h4.blk).1
  have HE:Hid (∀ d,BW K (((w.drewN d).setCell ⟨K.F,4,none⟩ (.slice none 0 0)).drew) ([]:Vars) t ∧ Kpt K w (((w.drewN d).setCell ⟨K.F,4,none⟩ (.slice none 0 0)).drew)):=fun d =>
   close_end (v:=[]) (n:=0) (wr:=(w.drewN d).drew) h.out h4 (Nat.le_refl _) ⟨rfl,.inl ⟨rfl,rfl⟩⟩ rfl (h.out.vars.keep rfl) ⟨rfl,rfl,rfl,Nat.le_refl _,fun _ _ _ => rfl⟩
  clear h4 c0 c1 c2
  go_enter_d Tryz.func97,Tryz.ntmps97
  go_wp2
  go_quiet (fail)
  go_wp2
  go_loopw [11] (fun i wr => i = .int .i64 0 ∧ ∃ d,wr = w.drewN d) (fun _ _ => 0)
  case atStart => exact ⟨rfl,_,rfl⟩
  case round =>
   obtain ⟨rfl,d,rfl⟩:=hrel
   go_wp2
   go_region
   go_wp2
   go_end0
   exact ⟨rfl,HE.out d⟩
 ·subst ho
  have hnames:Hid (∀ i p,v[i]? = some p → w.cell? ⟨g,i,none⟩ = some (.string p.1)):=fun i p hp => by
   have hlt:=(List.getElem?_eq_some_iff.1 hp).1
   have e:cur.toList[i]? = some (.string p.1):=by
    have:=congrArg (fun x => x[i]?) htake
    simp only [List.getElem?_take,List.getElem?_map,hp,Option.map_some] at this
    rw [if_pos (by omega)] at this
    exact this
   simp [World.cell?,hg]
   simpa using e
  have hown:Hid (w.ownsRow K.B 9 1 (.slice (some ⟨g,0,none⟩) n cap) n (strs (v.take n))):=⟨by simp; omega,.inr ⟨g,cap,cur,rfl,hBg,hg,by omega,hmax,hcur,by
   have:=congrArg (List.take n) htake
   rw [List.take_take] at this
   rw [show n * 1 = min n (v.length * 1) by omega,this]
   simp⟩⟩
  have hgT:g ≠ K.T:=In.far h.out.vars hg
  have hglt:g < w.heap.size:=lt_of_block hg
  have hPT1:P1 ≠ K.T:=f1.out.2.1
  have hPT2:P2 ≠ K.T:=f2.out.2.1
  have hPl1:P1 < w.heap.size:=lt_of_block h1.out
  have hPl2:P2 < w.heap.size:=lt_of_block h2.out
  have hFT:K.F ≠ K.T:=In.far h.out.vars h4.blk
  have hv1:v.length ≤ 9223372036854775807:=by unfold maxLen at hmax; omega
  clear h4 hg hcur htake c0 c1 c2
  obtain ⟨L,hL⟩:∃ L,L = v.length:=⟨_,rfl⟩
  rw [← hL] at c4 hcap hn hv1
  have HL:Hid (L = v.length):=hL
  clear hL
  go_enter_d Tryz.func97,Tryz.ntmps97
  go_wp2
  have HBW:=h
  clear h
  go_quiet (fail)
  go_wp2
  ·skip
   obtain ⟨D,hD⟩:∃ D,D = L - n:=⟨_,rfl⟩
   rw [← hD]
   have HD:Hid (D = L - n):=hD
   have hD2:n + D = L:=by omega
   clear hD
   go_loopw [11] (fun i wr => ∃ j:Nat,i = .int .i64 j ∧ Hid (ClAt K v n w j wr)) (fun i _ => D - (intOf i).toNat)
   case atStart => exact ⟨0,rfl,⟨by have:=HL.out; omega,by rw [Nat.add_zero,List.take_append_drop]; exact HBW.out.vars.keep rfl,⟨rfl,rfl,rfl,Nat.le_refl _,fun _ _ _ => rfl⟩⟩⟩
   case round =>
    obtain ⟨j,rfl,HC⟩:=hrel
    have keep:Hid (∀ k,k < w.heap.size → k ≠ K.T → wr.heap[k]? = w.heap[k]?):=fun k hk h1 => HC.out.grown.block k hk (fun e => h1 (by simpa using e))
    have p1':wr.cell? ⟨P1,0,none⟩ = some (.pointer (some ⟨K.F,3,none⟩)):=(World.cell?_of_block (a:=⟨P1,0,none⟩) (keep.out _ hPl1 hPT1)).trans p1
    have p2':wr.cell? ⟨P2,0,none⟩ = some (.int .i64 (n:Int)):=(World.cell?_of_block (a:=⟨P2,0,none⟩) (keep.out _ hPl2 hPT2)).trans p2
    have hb':wr.heap[K.F]? = some (K.obj _ s rr cc):=(keep.out _ hF hFT).trans H4.out.blk
    obtain ⟨_,_,_,c3',c4',_⟩:=bd_cells hb'
    have z4:=(bd_frozen hb').1
    rw [← HL.out] at c4'
    clear hb'
    by_cases hlt:j < D
    ·exfalso
     omega
    ·skip
     have hj:Hid (j = D):=by have:=HC.out.le; have:=HL.out; unfold Hid; omega
     have HT:Hid (Ms.In wr K.T (vrow (v.take n))):=by
      have:=HC.out.map
      rw [hj.out,hD2,HL.out,List.drop_length,List.append_nil] at this
      exact this
     clear p1 p2 c3 c4
     have HE:Hid (BW K (wr.drew.setCell ⟨K.F,4,none⟩ (.slice (some ⟨g,0,none⟩) n cap)) (v.take n) t ∧ Kpt K w (wr.drew.setCell ⟨K.F,4,none⟩ (.slice (some ⟨g,0,none⟩) n cap))):=close_end HBW.out H4.out (by have:=HL.out; omega) hown.out rfl (HT.out.keep rfl) ⟨HC.out.grown.os,HC.out.grown.tape,HC.out.grown.output,HC.out.grown.size,HC.out.grown.block⟩
     go_wp2
     go_region
     go_wp2
     go_end0
     first
      | exact ⟨rfl,HE.out⟩
      | (have e:=HE.out; rw [h] at e; exact ⟨rfl,e⟩)
  ·skip
   obtain ⟨D,hD⟩:∃ D,D = L - n:=⟨_,rfl⟩
   rw [← hD]
   have HD:Hid (D = L - n):=hD
   have hD2:n + D = L:=by omega
   clear hD
   go_loopw [11] (fun i wr => ∃ j:Nat,i = .int .i64 j ∧ Hid (ClAt K v n w j wr)) (fun i _ => D - (intOf i).toNat)
   case atStart => exact ⟨0,rfl,⟨by have:=HL.out; omega,by rw [Nat.add_zero,List.take_append_drop]; exact HBW.out.vars.keep rfl,⟨rfl,rfl,rfl,Nat.le_refl _,fun _ _ _ => rfl⟩⟩⟩
   case round =>
    obtain ⟨j,rfl,HC⟩:=hrel
    have keep:Hid (∀ k,k < w.heap.size → k ≠ K.T → wr.heap[k]? = w.heap[k]?):=fun k hk h1 => HC.out.grown.block k hk (fun e => h1 (by simpa using e))
    have p1':wr.cell? ⟨P1,0,none⟩ = some (.pointer (some ⟨K.F,3,none⟩)):=(World.cell?_of_block (a:=⟨P1,0,none⟩) (keep.out _ hPl1 hPT1)).trans p1
    have p2':wr.cell? ⟨P2,0,none⟩ = some (.int .i64 (n:Int)):=(World.cell?_of_block (a:=⟨P2,0,none⟩) (keep.out _ hPl2 hPT2)).trans p2
    have hb':wr.heap[K.F]? = some (K.obj _ s rr cc):=(keep.out _ hF hFT).trans H4.out.blk
    obtain ⟨_,_,_,c3',c4',_⟩:=bd_cells hb'
    have z4:=(bd_frozen hb').1
    rw [← HL.out] at c4'
    clear hb'
    by_cases hlt:j < D
    ·skip
     obtain ⟨q,hq⟩:∃ q,v[n + j]? = some q:=⟨_,List.getElem?_eq_getElem (by have:=HL.out; omega)⟩
     obtain ⟨k1,k2⟩:=cl_at HBW.out.once hq
     have qn:wr.cell? ⟨g,n + j,none⟩ = some (.string q.1):=(World.cell?_of_block (a:=⟨g,n + j,none⟩) (keep.out _ hglt hgT)).trans (hnames.out _ _ hq)
     obtain ⟨w2,hdel,hin2,hg2⟩:=Ms.run_delete Tryz.underlying85 Tryz.underlying9 (ty:=0) (ts:=#[85,9]) HC.out.map rfl k1
     rw [k2] at hin2
     have HC2:Hid (ClAt K v n w (j + 1) w2):=⟨by have:=HL.out; omega,hin2,⟨hg2.os.trans HC.out.grown.os,hg2.tape.trans HC.out.grown.tape,hg2.output.trans HC.out.grown.output,Nat.le_trans HC.out.grown.size hg2.size,fun k hk hne => (hg2.block k (by have:=HC.out.grown.size; omega) hne).trans (HC.out.grown.block k hk hne)⟩⟩
     obtain ⟨qs,hqs⟩:∃ qs,qs = q.1:=⟨_,rfl⟩
     rw [← hqs] at qn hdel
     clear hq k1 k2 hin2 hg2 hqs p1 p2 c3 c4
     go_wp2
     go_roundw
     case rel => exact ⟨j + 1,by go_num,HC2⟩
     case measure => simp [intOf]; omega
    ·skip
     have hj:Hid (j = D):=by have:=HC.out.le; have:=HL.out; unfold Hid; omega
     have HT:Hid (Ms.In wr K.T (vrow (v.take n))):=by
      have:=HC.out.map
      rw [hj.out,hD2,HL.out,List.drop_length,List.append_nil] at this
      exact this
     clear p1 p2 c3 c4
     have HE:Hid (BW K (wr.drew.setCell ⟨K.F,4,none⟩ (.slice (some ⟨g,0,none⟩) n cap)) (v.take n) t ∧ Kpt K w (wr.drew.setCell ⟨K.F,4,none⟩ (.slice (some ⟨g,0,none⟩) n cap))):=close_end HBW.out H4.out (by have:=HL.out; omega) hown.out rfl (HT.out.keep rfl) ⟨HC.out.grown.os,HC.out.grown.tape,HC.out.grown.output,HC.out.grown.size,HC.out.grown.block⟩
     go_wp2
     go_region
     go_wp2
     go_end0
     first
      | exact ⟨rfl,HE.out⟩
      | (have e:=HE.out; rw [h] at e; exact ⟨rfl,e⟩)
end Sm
namespace Sm
def TkLe (t:Tk) (n:Nat):Prop:=t.sends.length ≤ n ∧ t.recvs.length ≤ n ∧ t.calls.length ≤ n
def CEx (K:BK) (v:Vars) (d:Nat) (ex:Sy.Ex → Tk → Except Int (Sy.Ty × Tk)):Prop :=
 ∀ (x:Sy.Ex) (xa:Option Addr) (xc:Nat) (t:Tk) (n m:Nat) (w:World) (r:Except Int (Value × Vars × Tk)),Hid (BW K w v t) → Hid (∃ h,ExIn K.B w h x xa) → Hid (Sy.exW d x n = .ok m) → Hid (TkLe t n) → n ≤ 2000 →
  Hid (r = andThen (ex x t) fun p => .ok (tyV p.1,v,p.2)) → Calls Tryz.prog 99 #[.pointer (some ⟨K.F,0,none⟩),exV x xa xc] w fun e w' => Bf K w v r e w'
def KsAt (K:BK) (w:World) (ks:List Sy.Ex) (a:Option Addr):Prop :=
 ∀ i k,ks[i]? = some k → ∃ b off a' c',a = some ⟨b,off,none⟩ ∧ b < w.heap.size ∧ Free K w b ∧ w.cell? ⟨b,off + i * 4,none⟩ = some (.int .i64 k.kind) ∧ w.cell? ⟨b,off + i * 4 + 1,none⟩ = some (.int .i64 k.n) ∧ w.cell? ⟨b,off + i * 4 + 2,none⟩ = some (.string k.name) ∧
  w.cell? ⟨b,off + i * 4 + 3,none⟩ = some (.slice a' k.kids.length c') ∧ ∃ h,ExIn K.B w h k a'
theorem BW.low {K:BK} {w:World} {v:Vars} {t:Tk} (h:BW K w v t) {b:Nat} (hb:b < K.B):Free K w b:=by
 obtain ⟨o,s,r,c,h4⟩:=h.rows
 have hB:=h.base
 refine ⟨by omega,by omega,fun o' s' r' c' hb' => ?_⟩
 rw [h4.blk] at hb'
 obtain ⟨rfl,rfl,rfl,rfl⟩:=obj_inj (Option.some.inj hb')
 exact ⟨fun e => by have:=(own_lt h4.ordO b e).1; omega,fun e => by have:=(own_lt h4.snO b e).1; omega,fun e => by have:=(own_lt h4.rcO b e).1; omega,fun e => by have:=(own_lt h4.clO b e).1; omega⟩
theorem BW.same {K:BK} {w w':World} {v:Vars} {t:Tk} (h:BW K w v t) (hk:Kpt K w w'):Same K.B w w':=fun b o hb =>
 World.cell?_of_block (a:=⟨b,o,none⟩) (hk.block b (by have:=h.base; have:=h.lt; omega) (h.low hb)).1
theorem KsAt.kept {K:BK} {w w':World} {v:Vars} {t:Tk} {ks:List Sy.Ex} {a:Option Addr} (h:KsAt K w ks a) (hb:BW K w v t) (hk:Kpt K w w'):KsAt K w' ks a:=fun i k hi => by
 obtain ⟨b,off,a',c',e,hlt,hf,k0,k1,k2,k3,hx,hE⟩:=h i k hi
 obtain ⟨e1,e2⟩:=hk.block b hlt hf
 have c:∀ o,w'.cell? ⟨b,o,none⟩ = w.cell? ⟨b,o,none⟩:=fun o => World.cell?_of_block (a:=⟨b,o,none⟩) e1
 exact ⟨b,off,a',c',e,by have:=hk.size; omega,e2,(c _).trans k0,(c _).trans k1,(c _).trans k2,(c _).trans k3,hx,hE.same (hb.same hk)⟩
theorem Kpt.alloc (K:BK) (w:World) (o:Obj) (hF:K.F < w.heap.size):Kpt K w (w.alloc o):=Kpt.grown (grown_a o) hF
theorem Kpt.drew {K:BK} {w w':World} (h:Kpt K w w'):Kpt K w w'.drew:=⟨h.os,h.tape,h.output,h.size,h.block⟩
theorem Kpt.ofDrew {K:BK} {w w':World} (h:Kpt K w.drew w'):Kpt K w w':=⟨h.os,h.tape,h.output,h.size,h.block⟩
theorem BW.drew {K:BK} {w:World} {v:Vars} {t:Tk} (h:BW K w v t):BW K w.drew v t:=h.grown ⟨rfl,rfl,rfl,Nat.le_refl _,fun _ _ _ => rfl⟩
theorem four_cell {w:World} {b:Nat} {v0 v1 v2 v3:Value} {t:TypeId} (h:w.heap[b]? = some (.cells #[v0,v1,v2,v3] t (0,0))) :
  w.cell? ⟨b,0,none⟩ = some v0 ∧ w.cell? ⟨b,1,none⟩ = some v1 ∧ w.cell? ⟨b,2,none⟩ = some v2 ∧ w.cell? ⟨b,3,none⟩ = some v3:=by simp [World.cell?,h]
theorem must_any (K:BK) (v:Vars) (d:Nat) (ex:Sy.Ex → Tk → Except Int (Sy.Ty × Tk)) (hC:Hid (CEx K v d ex)) (hle:Hid (∀ x t n m y t',Sy.exW d x n = .ok m → TkLe t n → ex x t = .ok (y,t') → TkLe t' m))
  (ks:List Sy.Ex) (a:Option Addr) (c:Nat) (wt:Sy.Ty) (t:Tk) (n m:Nat) (w:World) (r:Except Int (Value × Vars × Tk)) (h:Hid (BW K w v t)) (hk:Hid (KsAt K w ks a)) (hl:ks.length ≤ 9223372036854775807) (hn:Hid (Sy.runs (Sy.exW d) ks n = .ok m)) (ht:Hid (TkLe t n)) (h2:n ≤ 2000)
  (hr:Hid (r = andThen (must ex wt ks t) fun t => .ok (.tuple #[],v,t))) :
  Calls Tryz.prog 100 #[.pointer (some ⟨K.F,0,none⟩),tyV wt,.slice a ks.length c] w fun e w' => Bf K w v r e w':=by
 obtain ⟨wk,wg⟩:=wt
 have hF:=h.out.lt
 obtain ⟨W0,hW0⟩:∃ W0,W0 = w.alloc (.cells #[.int .i64 wk,.string wg] 31):=⟨_,rfl⟩
 have HK0:Hid (Kpt K w W0):=by rw [hW0]; exact Kpt.alloc K w _ hF
 have HB0:Hid (BW K W0 v t):=by rw [hW0]; exact h.out.grown (grown_a _)
 have HKs0:Hid (KsAt K W0 ks a):=hk.out.kept h.out HK0.out
 have HP0:Hid (W0.heap[w.heap.size]? = some (.cells #[.int .i64 wk,.string wg] 31 (0,0)) ∧ Free K W0 w.heap.size):=by rw [hW0]; exact ⟨heap_alloc_new w _,h.out.free (grown_a _) (Nat.le_refl _)⟩
 have hs0:w.heap.size < W0.heap.size:=lt_of_block HP0.out.1
 obtain ⟨P,hP⟩:∃ P,P = w.heap.size:=⟨_,rfl⟩
 have HP:Hid (P = w.heap.size):=hP
 have HW0:Hid (W0 = _):=hW0
 clear hP hW0
 go_enter Tryz.func100,Tryz.ntmps100
 go_wp2
 rw [← HW0.out,← HP.out]
 rw [← HP.out] at HP0 hs0
 go_loopw [10] (fun i wr => ∃ (j:Nat) (t':Tk) (n':Nat),i = .int .i64 j ∧ j ≤ ks.length ∧ n' ≤ 2000 ∧ Hid (BW K wr v t') ∧ Hid (Kpt K W0 wr) ∧ Hid (TkLe t' n') ∧ Hid (Sy.runs (Sy.exW d) (ks.drop j) n' = .ok m) ∧ Hid (r = andThen (must ex ⟨wk,wg⟩ (ks.drop j) t') fun t => .ok (.tuple #[],v,t))) (fun i _ => ks.length - (intOf i).toNat)
 case atStart => exact ⟨0,t,n,rfl,Nat.zero_le _,h2,HB0,Kpt.refl _ _,ht,by rw [List.drop_zero]; exact hn,by rw [List.drop_zero]; exact hr⟩
 case round =>
  obtain ⟨j,t',n',rfl,hj,hn2,HB,HK,HT,HN,HR⟩:=hrel
  by_cases hlt:j < ks.length
  ·obtain ⟨k,hkj⟩:∃ k,ks[j]? = some k:=⟨_,List.getElem?_eq_getElem hlt⟩
   obtain ⟨b,off,a',c',rfl,hbl,hbf,k0,k1,k2,k3,hx⟩:=(HKs0.out.kept HB0.out HK.out) j k hkj
   have hdr:ks.drop j = k :: ks.drop (j + 1):=by
    have:=List.drop_eq_getElem_cons hlt
    rw [this,(List.getElem?_eq_some_iff.1 hkj).2]
   obtain ⟨n1,hx1,hn1⟩:∃ n1,Sy.exW d k n' = .ok n1 ∧ Sy.runs (Sy.exW d) (ks.drop (j + 1)) n1 = .ok m:=by
    have:=HN.out
    rw [hdr,Sy.runs] at this
    cases hq:Sy.exW d k n' with
    | error e => rw [hq] at this; cases this
    | ok n1 => rw [hq] at this; exact ⟨n1,rfl,this⟩
   have hn12:n1 ≤ 2000:=Sy.exW_le d k n' n1 hn2 hx1
   obtain ⟨er,her⟩:∃ er,er = ex k t':=⟨_,rfl⟩
   have HEr:Hid (er = ex k t'):=her
   have HRr:Hid (r = andThen er fun p => if Sm.same p.1 ⟨wk,wg⟩ = true then andThen (must ex ⟨wk,wg⟩ (ks.drop (j + 1)) p.2) (fun t => .ok (.tuple #[],v,t)) else .error 9):=by
    unfold Hid
    rw [HR.out,hdr,must,her]
    cases ex k t' with
    | error e => rfl
    | ok p =>
     rw [andThen_ok,andThen_ok]
     by_cases hs:Sm.same p.1 ⟨wk,wg⟩ = true
     ·rw [if_pos hs,if_pos hs]
     ·rw [if_neg hs,if_neg hs]
      rfl
   have HX1:Hid (Sy.exW d k n' = .ok n1):=hx1
   have HN1:Hid (Sy.runs (Sy.exW d) (ks.drop (j + 1)) n1 = .ok m):=hn1
   obtain ⟨W1,hW1⟩:∃ W1,W1 = wr.alloc (.cells #[.int .i64 k.kind,.int .i64 k.n,.string k.name,.slice a' k.kids.length c'] 92):=⟨_,rfl⟩
   have hFr:=HB.out.lt
   have HK1:Hid (Kpt K wr W1):=by rw [hW1]; exact Kpt.alloc K wr _ hFr
   have HB1:Hid (BW K W1 v t'):=by rw [hW1]; exact HB.out.grown (grown_a _)
   have HX:Hid (W1.heap[wr.heap.size]? = some (.cells #[.int .i64 k.kind,.int .i64 k.n,.string k.name,.slice a' k.kids.length c'] 92 (0,0)) ∧ Free K W1 wr.heap.size):=by rw [hW1]; exact ⟨heap_alloc_new wr _,HB.out.free (grown_a _) (Nat.le_refl _)⟩
   have HPr:=HK.out.block P hs0 HP0.out.2
   have hPr:P < wr.heap.size:=by have:=HK.out.size; omega
   have HP1:Hid (W1.heap[P]? = some (.cells #[.int .i64 wk,.string wg] 31 (0,0)) ∧ Free K W1 P):=by
    obtain ⟨q1,q2⟩:=HK1.out.block P hPr HPr.2
    exact ⟨q1.trans (HPr.1.trans HP0.out.1),q2⟩
   have HE1:Hid (∃ h,ExIn K.B W1 h k a'):=by
    obtain ⟨hh,hE⟩:=hx
    exact ⟨hh,hE.same (HB.out.same HK1.out)⟩
   have HS:Hid (∀ w3,Kpt K W1 w3 → (w3.cell? ⟨wr.heap.size,0,none⟩ = some (.int .i64 k.kind) ∧ w3.cell? ⟨wr.heap.size,1,none⟩ = some (.int .i64 k.n) ∧ w3.cell? ⟨wr.heap.size,2,none⟩ = some (.string k.name) ∧ w3.cell? ⟨wr.heap.size,3,none⟩ = some (.slice a' k.kids.length c') ∧ w3.cell? ⟨P,0,none⟩ = some (.int .i64 wk) ∧ w3.cell? ⟨P,1,none⟩ = some (.string wg))):=fun w3 hk3 => by
    obtain ⟨x0,x1,x2,x3⟩:=four_cell ((hk3.block _ (lt_of_block HX.out.1) HX.out.2).1.trans HX.out.1)
    obtain ⟨y0,y1,_,_⟩:=two_cell ((hk3.block _ (lt_of_block HP1.out.1) HP1.out.2).1.trans HP1.out.1)
    exact ⟨x0,x1,x2,x3,y0,y1⟩
   have HW1:Hid (W1 = _):=hW1
   obtain ⟨kk,hkk⟩:∃ kk,kk = k.kids.length:=⟨_,rfl⟩
   clear hdr hx1 hn1 her hW1 HPr hx hbf
   go_wp2_with fail
   rw [← HW1.out]
   refine wp_region_held_drew (S:=fun w' => w'.cell? ⟨wr.heap.size,0,none⟩ = some (.int .i64 k.kind) ∧ w'.cell? ⟨wr.heap.size,1,none⟩ = some (.int .i64 k.n) ∧ w'.cell? ⟨wr.heap.size,2,none⟩ = some (.string k.name) ∧ w'.cell? ⟨wr.heap.size,3,none⟩ = some (.slice a' k.kids.length c') ∧ w'.cell? ⟨P,0,none⟩ = some (.int .i64 wk) ∧ w'.cell? ⟨P,1,none⟩ = some (.string wg)) (by kernel_rfl) (HS.out _ (Kpt.refl K W1).drew) (fun hHeld => ?_)
   refine wpAnyH_take (i:=0) (oi:=_) (v:=?_) rfl (by kernel_rfl) (by kernel_rfl) (by kernel_rfl) (fun _ _ _ h => h) (Or.inl ⟨by rfl,?_⟩) (by assumption) ?_
   rotate_left
   ·intro w hSw
    (try dsimp only at hSw)
    go_simp
    (try with_reducible rfl)
   (try go_frame)
   refine wpAnyH_take (i:=1) (oi:=_) (v:=?_) rfl (by kernel_rfl) (by kernel_rfl) (by kernel_rfl) (fun _ _ _ h => h) (Or.inl ⟨by rfl,?_⟩) (by assumption) ?_
   rotate_left
   ·intro w hSw
    (try dsimp only at hSw)
    go_simp
    (try with_reducible rfl)
   (try go_frame)
   refine wpAnyH_take (i:=3) (oi:=_) (v:=?_) rfl (by kernel_rfl) (by kernel_rfl) (by kernel_rfl) (fun _ _ _ h => h) (Or.inl ⟨by rfl,?_⟩) (by assumption) ?_
   rotate_left
   ·intro w hSw
    (try dsimp only at hSw)
    go_simp
    (try with_reducible rfl)
   (try go_frame)
   refine wpAnyH_ready (rs:=[2]) (by kernel_rfl) (by simp) ?_
   refine AllReadyH.cons (o:=_) rfl (fun K' hK => ?_) AllReadyH.nil
   go_simp
   refine (hC.out k a' c' t' n' n1 W1.drew _ (by exact HB1.out.drew) (by obtain ⟨hh,hE⟩:=HE1.out; exact ⟨hh,ExIn.same (w:=W1) (w':=W1.drew) (fun _ _ _ => rfl) _ _ _ hE⟩) HX1 HT hn2 (by rw [← HEr.out]; exact rfl)).mono ?_
   rintro e w2 ⟨hk2',he2⟩
   have HK2:Hid (Kpt K W1 w2):=hk2'.ofDrew
   cases er with
   | error x =>
    obtain ⟨rfl,v2,t2,hb2,hp2⟩:=he2
    have HE:Hid (Bf K w v r (.panicked [fltE x K.num]) w2):=by
     rw [HRr.out]
     exact ⟨((HK0.out.trans HK.out).trans HK1.out).trans HK2.out,rfl,v2,t2,hb2,hp2⟩
    clear hK hk2' hb2 hp2
    go_wp2
    exact ⟨rfl,HE.out⟩
   | ok p =>
    obtain ⟨rfl,hb2⟩:=he2
    have HB2:Hid (BW K w2 v p.2):=hb2
    refine hK.out _ _ (HS.out w2 HK2.out) (fun hHeld => ?_)
    clear hK hk2' hb2
    obtain ⟨py,pt⟩:=p
    have HTL:Hid (TkLe pt n1):=hle.out k t' n' n1 py pt HX1.out HT.out HEr.out.symm
    obtain ⟨sb,hsb⟩:∃ sb,sb = Sm.same py ⟨wk,wg⟩:=⟨_,rfl⟩
    have HSB:Hid (sb = Sm.same py ⟨wk,wg⟩):=hsb
    have HRs:Hid (r = if sb = true then andThen (must ex ⟨wk,wg⟩ (ks.drop (j + 1)) pt) (fun t => .ok (.tuple #[],v,t)) else .error 9):=by
     unfold Hid
     rw [HRr.out,hsb]
     rfl
    clear hsb
    refine wpAnyH_ready (rs:=[4]) (by kernel_rfl) (by simp) ?_
    refine AllReadyH.cons (o:=_) rfl (fun K' hK => ?_) AllReadyH.nil
    go_simp
    refine (same_any py ⟨wk,wg⟩ _ sb HSB).mono ?_
    rintro e w3 ⟨rfl,hg3⟩
    have HB3:Hid (BW K w3 v pt):=HB2.out.grown hg3
    have HK3:Hid (Kpt K W1 w3):=HK2.out.trans (Kpt.grown hg3 HB2.out.lt)
    refine hK.out _ _ (HS.out w3 HK3.out) (fun hHeld => ?_)
    clear hK hg3
    refine wpAnyH_take (i:=5) (oi:=_) (v:=?_) rfl (by kernel_rfl) (by kernel_rfl) (by kernel_rfl) (fun _ _ _ h => h) (Or.inl ⟨by rfl,?_⟩) (by assumption) ?_
    rotate_left
    ·intro w hSw
     (try dsimp only at hSw)
     go_simp
     (try with_reducible rfl)
    (try go_frame)
    refine wpAnyH_done (by kernel_rfl) ?_ _
    cases sb with
    | true =>
     have HRn:Hid (r = andThen (must ex ⟨wk,wg⟩ (ks.drop (j + 1)) pt) (fun t => .ok (.tuple #[],v,t))):=HRs.out
     go_wp2
     go_roundw
     case rel => exact ⟨j + 1,pt,n1,by go_num,by omega,hn12,HB3,(HK.out.trans HK1.out).trans HK3.out,HTL,HN1,HRn⟩
     case measure => simp [intOf]; omega
    | false =>
     have HRn:Hid (r = .error 9):=HRs.out
     obtain ⟨o,sn,rr,cc,h4⟩:=HB3.out.rows
     obtain ⟨c0,c1,c2,_⟩:=bd_cells h4.blk
     clear h4
     go_wp2_with fail
     refine (fail_any K.l.length K.a K.c K.M K.num 9 _).mono ?_
     rintro e w5 ⟨rfl,hg5⟩
     have HE:Hid (Bf K w v r (.panicked [fltE 9 K.num]) w5):=by
      rw [HRn.out]
      exact ⟨(((HK0.out.trans HK.out).trans HK1.out).trans HK3.out).trans (Kpt.grown hg5 HB3.out.lt),rfl,v,pt,HB3.out.grown hg5,List.prefix_refl _⟩
     clear hg5
     go_wp2
     exact ⟨rfl,HE.out⟩
  ·have HR2:Hid (r = .ok (.tuple #[],v,t')):=by
    have:=HR.out
    rw [List.drop_of_length_le (by omega)] at this
    exact this
   go_wp2
   go_end0
   refine ⟨HK0.out.trans HK.out,?_⟩
   rw [HR2.out]
   exact ⟨rfl,HB.out⟩
end Sm
end Go.Proofs.YtpnljpdpobbiiaaGreatDoor

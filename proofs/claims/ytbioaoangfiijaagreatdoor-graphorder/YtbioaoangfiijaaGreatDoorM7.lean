/- The walk of alike. -/
import Derived.Test.YtbioaoangfiijaaGreatDoorM6
import Derived.Deep.LoopGhost
set_option maxRecDepth 100000
set_option maxHeartbeats 1000000
namespace Go.Proofs.YtbioaoangfiijaaGreatDoor
open Go.RowKit
namespace Sm
theorem two_of {W w3:World} {k:Nat} {v0 v1:Value} {t:TypeId} (hb:W.heap[k]? = some (.cells #[v0,v1] t (0,0))) (hg:W.grownBy w3 none):w3.heap[k]? = some (.cells #[v0,v1] t (0,0)):=(hg.block _ (lt_of_block hb) (by simp)).trans hb
theorem alike_any (K:BK) (v:Vars) (t:Tk) (a b:Sy.Ty) (w:World) (r:Except Int Value) (h:Hid (BW K w v t)) (hr:Hid (r = match Sm.plain a with | .error e => .error e | .ok _ => if Sm.same a b = true then .ok (.tuple #[]) else .error 9)) :
  Calls Tryz.prog 113 #[.pointer (some ⟨K.F,0,none⟩),tyV a,tyV b] w fun e w' => Fe K.num r w e w':=by
 obtain ⟨o,s,rr,cc,h4⟩:=h.out.rows
 have hF:=h4.lt
 obtain ⟨ak,ag⟩:=a
 obtain ⟨bk,bg⟩:=b
 obtain ⟨W,hW⟩:∃ W,W = (w.alloc (.cells #[.int .i64 ak,.string ag] 35)).alloc (.cells #[.int .i64 bk,.string bg] 35):=⟨_,rfl⟩
 have hWg:w.grownBy W none:=by rw [hW]; exact grown_a2 _ _
 have ha:W.heap[w.heap.size]? = some (.cells #[.int .i64 ak,.string ag] 35 (0,0)):=by rw [hW]; exact (Below.heap_alloc _ _ _ (by simp)).trans (heap_alloc_new w _)
 have hb:W.heap[w.heap.size + 1]? = some (.cells #[.int .i64 bk,.string bg] 35 (0,0)):=by rw [hW]; have:=heap_alloc_new (w.alloc (.cells #[.int .i64 ak,.string ag] 35)) (.cells #[.int .i64 bk,.string bg] 35); simpa using this
 have hf:W.heap[K.F]? = some (K.obj o s rr cc):=(hWg.block _ hF (by simp)).trans h4.blk
 obtain ⟨c0,c1,c2,_⟩:=bd_cells hf
 obtain ⟨a0,a1,_,_⟩:=two_cell ha
 have HA:Hid (W.heap[w.heap.size]? = some (.cells #[.int .i64 ak,.string ag] 35 (0,0))):=ha
 have HB:Hid (W.heap[w.heap.size + 1]? = some (.cells #[.int .i64 bk,.string bg] 35 (0,0))):=hb
 have HF:Hid (W.heap[K.F]? = some (K.obj o s rr cc)):=hf
 have HG:Hid (w.grownBy W none):=hWg
 have HW:Hid (W = _):=hW
 have hFW:K.F < W.heap.size:=lt_of_block hf
 clear ha hb hf hWg h4 hW
 have HS:Hid (∀ w3,W.grownBy w3 none → (w3.cell? ⟨K.F,0,none⟩ = some (.slice K.a K.l.length K.c) ∧ w3.cell? ⟨K.F,1,none⟩ = some (.map (some K.M)) ∧ w3.cell? ⟨K.F,2,none⟩ = some (.int .i64 K.num) ∧ w3.cell? ⟨w.heap.size,0,none⟩ = some (.int .i64 ak) ∧ w3.cell? ⟨w.heap.size,1,none⟩ = some (.string ag))):=fun w3 hg => by
  obtain ⟨e0,e1,_,_⟩:=two_cell (two_of HA.out hg)
  obtain ⟨f0,f1,f2,_⟩:=bd_cells ((hg.block _ hFW (by simp)).trans HF.out)
  exact ⟨f0,f1,f2,e0,e1⟩
 obtain ⟨pr,hpr⟩:∃ pr,pr = (match Sm.plain ⟨ak,ag⟩ with | .ok _ => .ok (.tuple #[]) | .error e => .error e:Except Int Value):=⟨_,rfl⟩
 have HP:Hid (pr = match Sm.plain ⟨ak,ag⟩ with | .ok _ => .ok (.tuple #[]) | .error e => .error e):=hpr
 obtain ⟨sb,hsb⟩:∃ sb,sb = Sm.same ⟨ak,ag⟩ ⟨bk,bg⟩:=⟨_,rfl⟩
 have HSB:Hid (sb = Sm.same ⟨ak,ag⟩ ⟨bk,bg⟩):=hsb
 have HR:Hid (r = andThen pr (fun _ => if sb = true then .ok (.tuple #[]) else .error 9)):=by
  unfold Hid
  rw [hr.out,hpr,hsb]
  cases Sm.plain ⟨ak,ag⟩ <;> rfl
 clear hr hpr hsb
 go_enter Tryz.func113,Tryz.ntmps113
 go_wp2_with fail
 rw [← HW.out]
 refine wp_region_held_drew (S:=fun w' => w'.cell? ⟨K.F,0,none⟩ = some (.slice K.a K.l.length K.c) ∧ w'.cell? ⟨K.F,1,none⟩ = some (.map (some K.M)) ∧ w'.cell? ⟨K.F,2,none⟩ = some (.int .i64 K.num) ∧ w'.cell? ⟨w.heap.size,0,none⟩ = some (.int .i64 ak) ∧ w'.cell? ⟨w.heap.size,1,none⟩ = some (.string ag)) (by kernel_rfl) ⟨c0,c1,c2,a0,a1⟩ (fun hHeld => ?_)
 refine tk 0 (v:=?_) rfl ?_ (by assumption) ?_
 rotate_left
 ·intro w hSw
  (try dsimp only at hSw)
  go_simp
  (try with_reducible rfl)
 (try go_frame)
 refine tk 1 (v:=?_) rfl ?_ (by assumption) ?_
 rotate_left
 ·intro w hSw
  (try dsimp only at hSw)
  go_simp
  (try with_reducible rfl)
 (try go_frame)
 refine tk 2 (v:=?_) rfl ?_ (by assumption) ?_
 rotate_left
 ·intro w hSw
  (try dsimp only at hSw)
  go_simp
  (try with_reducible rfl)
 (try go_frame)
 refine tk 3 (v:=?_) rfl ?_ (by assumption) ?_
 rotate_left
 ·intro w hSw
  (try dsimp only at hSw)
  go_simp
  (try with_reducible rfl)
 (try go_frame)
 refine tk 4 (v:=?_) rfl ?_ (by assumption) ?_
 rotate_left
 ·intro w hSw
  (try dsimp only at hSw)
  go_simp
  (try with_reducible rfl)
 (try go_frame)
 refine wpAnyH_ready (rs:=[5]) (by kernel_rfl) (by simp) ?_
 refine AllReadyH.cons (o:=_) rfl (fun K' hK => ?_) AllReadyH.nil
 go_simp
 refine (plain_any K.l.length K.a K.c K.M K.num ⟨ak,ag⟩ _ pr HP).mono ?_
 rintro e w3 ⟨hg3',he3⟩
 have HG3:Hid (W.grownBy w3 none):=⟨hg3'.os,hg3'.tape,hg3'.output,hg3'.size,hg3'.block⟩
 cases pr with
 | error er =>
  subst he3
  clear hK hg3'
  go_wp2
  exact ⟨rfl,grown_trans HG.out HG3.out,by rw [HR.out]; rfl⟩
 | ok x =>
  have hx:x = .tuple #[]:=by
   have:=HP.out
   cases hq:Sm.plain ⟨ak,ag⟩ with
   | ok u => rw [hq] at this; cases this; rfl
   | error u => rw [hq] at this; cases this
  subst hx
  subst he3
  obtain ⟨e0,e1,_,_⟩:=two_cell (two_of HA.out HG3.out)
  obtain ⟨e2,e3,_,_⟩:=two_cell (two_of HB.out HG3.out)
  refine hK.out _ _ (HS.out w3 HG3.out) (fun hHeld => ?_)
  clear hK hg3' c0 c1 c2 a0 a1
  refine wpAnyH_done (by kernel_rfl) ?_ _
  go_wp2_with fail
  refine (same_any ⟨ak,ag⟩ ⟨bk,bg⟩ _ sb HSB).mono ?_
  rintro e w4 ⟨rfl,hg4⟩
  have HG4:Hid (W.grownBy w4 none):=grown_trans HG3.out hg4
  obtain ⟨f0,f1,f2,_⟩:=bd_cells ((HG4.out.block _ hFW (by simp)).trans HF.out)
  clear hg4 e0 e1 e2 e3
  cases sb with
  | true =>
   go_wp2
   go_end0
   exact ⟨grown_trans HG.out HG4.out,by rw [HR.out]; rfl⟩
  | false =>
   go_wp2_with fail
   refine (fail_any K.l.length K.a K.c K.M K.num 9 _).mono ?_
   rintro e w5 ⟨rfl,hg5⟩
   have HE:Hid (Fe K.num r w (.panicked [fltE 9 K.num]) w5):=(by rw [HR.out]; exact ⟨grown_trans HG.out (grown_trans HG4.out hg5),rfl⟩)
   clear hg5
   go_wp2
   exact ⟨rfl,HE.out⟩
end Sm
namespace Sm
abbrev pO (F:Nat):Obj:=.cells #[.pointer (some ⟨F,3,none⟩)] 143 (0,0)
abbrev nO (n:Nat):Obj:=.cells #[.int .i64 (n:Int)] 3 (0,0)
theorem open_any (K:BK) (v:Vars) (t:Tk) (w:World) (h:Hid (BW K w v t)) :
  Calls Tryz.prog 92 #[.pointer (some ⟨K.F,3,none⟩)] w fun e w' => e = .returned (.func (.func 104) #[] #[.pointer (some ⟨w.heap.size,0,none⟩),.pointer (some ⟨w.heap.size + 1,0,none⟩)]) ∧ w' = (w.alloc (pO K.F)).alloc (nO v.length):=by
 obtain ⟨o,s,rr,cc,h4⟩:=h.out.rows
 have hF:=h4.lt
 obtain ⟨oa,oc,hord⟩:=own_form h4.ordO
 subst hord
 obtain ⟨c0,c1,c2,c3,c4,_⟩:=bd_cells ((Below.heap_alloc w (pO K.F) _ hF).trans h4.blk)
 clear h4
 go_enter Tryz.func92,Tryz.ntmps92
 go_wp2
 go_ret
 exact ⟨rfl,rfl⟩
structure ClAt (K:BK) (v:Vars) (n:Nat) (w:World) (j:Nat) (wr:World):Prop where
 le:n + j ≤ v.length
 map:Ms.In wr K.T (vrow (v.take n ++ v.drop (n + j)))
 grown:w.grownBy wr (some K.T)
theorem cl_at {v:Vars} {n j:Nat} {p:ByteArray × Sy.Ty} (ho:(v.map (·.1)).Nodup) (hp:v[n + j]? = some p):Ms.at' (vrow (v.take n ++ v.drop (n + j))) p.1 0 = some (n,tyV p.2) ∧ (vrow (v.take n ++ v.drop (n + j))).eraseIdx n = vrow (v.take n ++ v.drop (n + (j + 1))):=by
 have hlt:=(List.getElem?_eq_some_iff.1 hp).1
 have hd:v.drop (n + j) = p :: v.drop (n + (j + 1)):=by
  have:=List.drop_eq_getElem_cons hlt
  rw [this,(List.getElem?_eq_some_iff.1 hp).2]
  rfl
 have hl:(vrow (v.take n)).length = n:=by simp; omega
 have hne:∀ q ∈ vrow (v.take n),q.1 ≠ p.1:=by
  intro q hq e
  obtain ⟨x,hx,rfl⟩:=List.mem_map.1 hq
  obtain ⟨i,hi,hxi⟩:=List.getElem_of_mem hx
  have hi':i < n:=by simp at hi; omega
  have h1:(v.map (·.1))[i]? = some p.1:=by
   rw [List.getElem?_map]
   have:v[i]? = some x:=by
    rw [← hxi]
    simp [List.getElem_take]
   rw [this]
   simpa using e
  have h2:(v.map (·.1))[n + j]? = some p.1:=by rw [List.getElem?_map,hp]; rfl
  have:=(List.getElem?_inj (by simp; omega) ho).1 (h1.trans h2.symm)
  omega
 have hv:vrow (v.take n ++ v.drop (n + j)) = vrow (v.take n) ++ (p.1,tyV p.2) :: vrow (v.drop (n + (j + 1))):=by rw [hd]; simp
 rw [hv]
 refine ⟨by rw [Ms.at_first hne,hl,Nat.zero_add],?_⟩
 rw [List.eraseIdx_append_of_length_le (by omega),hl,Nat.sub_self]
 simp
theorem close_end {K:BK} {v:Vars} {t:Tk} {n:Nat} {w wr:World} {ord nv sn rc cl:Value} (h:BW K w v t) (h4:Rows4 K w v t ord sn rc cl) (hn:n ≤ v.length) (hown:w.ownsRow K.B 9 1 nv n (strs (v.take n))) (hno:nv.ownBlock = ord.ownBlock)
  (hT:Ms.In wr K.T (vrow (v.take n))) (hg:w.grownBy wr (some K.T)):BW K (wr.setCell ⟨K.F,4,none⟩ nv) (v.take n) t ∧ Kpt K w (wr.setCell ⟨K.F,4,none⟩ nv):=by
 have hFT:=In.far h.vars h4.blk
 have blk:∀ k,k < w.heap.size → k ≠ K.T → wr.heap[k]? = w.heap[k]?:=fun k hk h1 => hg.block k hk (fun e => h1 (by simpa using e))
 have hF4:wr.heap[K.F]? = some (K.obj ord sn rc cl):=(blk _ h4.lt hFT).trans h4.blk
 have hF5:=obj_set4 hF4 nv
 have set:∀ k,k ≠ K.F → (wr.setCell ⟨K.F,4,none⟩ nv).heap[k]? = wr.heap[k]?:=fun k hk => Below.heap_setCell wr ⟨K.F,4,none⟩ nv k hk
 have all:∀ k,k < w.heap.size → k ≠ K.F → k ≠ K.T → (wr.setCell ⟨K.F,4,none⟩ nv).heap[k]? = w.heap[k]?:=fun k hk h1 h2 => (set k h1).trans (blk k hk h2)
 have ints:∀ {x:Value} {m:Nat} {xs:List Value} {e:TypeId},e ≠ 105 → w.ownsRow K.B e 1 x m xs → (wr.setCell ⟨K.F,4,none⟩ nv).ownsRow K.B e 1 x m xs:=fun {x m xs e} he ho => own_keep ho fun k hk => by
  obtain ⟨_,hlt,cur,hc⟩:=own_lt ho k hk
  refine all k hlt (fun e' => ?_) (In.far h.vars hc)
  rw [e',h4.blk] at hc
  simp only [Option.some.injEq,Obj.cells.injEq] at hc
  exact he hc.2.1.symm
 have hlen:(v.take n).length = n:=by simp; omega
 refine ⟨⟨?_,h.base,?_,h.nums,⟨nv,sn,rc,cl,hF5,by rw [hlen]; exact ints (by decide) hown,ints (by decide) h4.snO,ints (by decide) h4.rcO,ints (by decide) h4.clO,h4.far⟩,?_,?_⟩,⟨hg.os,hg.tape,hg.output,?_,fun k hk hf => ?_⟩⟩
 ·refine h.grd.same fun b o hb => World.cell?_of_block (a:=⟨b,o,none⟩) ?_
  have hbase:=h.base
  have:=h4.lt
  exact all b (by omega) (by omega) (by omega)
 ·exact h.mp.keep (all _ h.mp.lt (fun e => (In.far h.mp h4.blk) e.symm) h.base.2.2.2)
 ·exact hT.keep (set _ (fun e => hFT e.symm))
 ·exact (h.once.sublist ((List.take_sublist n v).map _))
 ·have:=hg.size; simp [World.setCell]; omega
 ·obtain ⟨q1,q2,q3⟩:=hf
  obtain ⟨q4,q5,q6,q7⟩:=q3 _ _ _ _ h4.blk
  refine ⟨all k hk q1 q2,q1,q2,fun o s r c ho => ?_⟩
  rw [hF5] at ho
  obtain ⟨rfl,rfl,rfl,rfl⟩:=obj_inj (Option.some.inj ho)
  exact ⟨by rw [hno]; exact q4,q5,q6,q7⟩
theorem close_any (K:BK) (v:Vars) (t:Tk) (n P1 P2:Nat) (u:FrameMode) (w:World) (h:Hid (BW K w v t)) (hn:n ≤ v.length) (h1:Hid (w.heap[P1]? = some (pO K.F))) (h2:Hid (w.heap[P2]? = some (nO n))) (f1:Hid (Free K w P1)) (f2:Hid (Free K w P2)) :
  CallsD Tryz.prog 104 #[.pointer (some ⟨P1,0,none⟩),.pointer (some ⟨P2,0,none⟩)] u w fun e u' w' => u' = u ∧ (e = .returned (.tuple #[]) ∧ BW K w' (v.take n) t ∧ Kpt K w w'):=by
 obtain ⟨o,s,rr,cc,h4⟩:=h.out.rows
 have hF:=h4.lt
 have H4:Hid (Rows4 K w v t o s rr cc):=h4
 obtain ⟨c0,c1,c2,c3,c4,_⟩:=bd_cells h4.blk
 have p1:w.cell? ⟨P1,0,none⟩ = some (.pointer (some ⟨K.F,3,none⟩)):=by simp [World.cell?,h1.out]
 have p2:w.cell? ⟨P2,0,none⟩ = some (.int .i64 (n:Int)):=by simp [World.cell?,h2.out]
 rcases h4.ordO.2 with ⟨ho,h0⟩ | ⟨g,cap,cur,ho,hBg,hg,hcap,hmax,hcur,htake⟩
 ·obtain rfl:v = []:=List.eq_nil_of_length_eq_zero h0
  obtain rfl:n = 0:=by simpa using hn
  subst ho
  have z4:=(bd_frozen h4.blk).1
  have HE:Hid (∀ d,BW K (((w.drewN d).setCell ⟨K.F,4,none⟩ (.slice none 0 0)).drew) ([]:Vars) t ∧ Kpt K w (((w.drewN d).setCell ⟨K.F,4,none⟩ (.slice none 0 0)).drew)):=fun d =>
   close_end (v:=[]) (n:=0) (wr:=(w.drewN d).drew) h.out h4 (Nat.le_refl _) ⟨rfl,.inl ⟨rfl,rfl⟩⟩ rfl (h.out.vars.keep rfl) ⟨rfl,rfl,rfl,Nat.le_refl _,fun _ _ _ => rfl⟩
  clear h4 c0 c1 c2
  go_enter_d Tryz.func104,Tryz.ntmps104
  go_wp2
  go_quiet (fail)
  go_wp2
  go_loopw [11] (fun i wr => i = .int .i64 0 ∧ ∃ d,wr = w.drewN d) (fun _ _ => 0)
  case atStart => exact ⟨rfl,_,rfl⟩
  case round =>
   obtain ⟨rfl,d,rfl⟩:=hrel
   go_wp2
   go_region
   go_wp2
   go_end0
   exact ⟨rfl,HE.out d⟩
 ·subst ho
  have hnames:Hid (∀ i p,v[i]? = some p → w.cell? ⟨g,i,none⟩ = some (.string p.1)):=fun i p hp => by
   have hlt:=(List.getElem?_eq_some_iff.1 hp).1
   have e:cur.toList[i]? = some (.string p.1):=by
    have:=congrArg (fun x => x[i]?) htake
    simp only [List.getElem?_take,List.getElem?_map,hp,Option.map_some] at this
    rw [if_pos (by omega)] at this
    exact this
   simp [World.cell?,hg]
   simpa using e
  have hown:Hid (w.ownsRow K.B 9 1 (.slice (some ⟨g,0,none⟩) n cap) n (strs (v.take n))):=⟨by simp; omega,.inr ⟨g,cap,cur,rfl,hBg,hg,by omega,hmax,hcur,by
   have:=congrArg (List.take n) htake
   rw [List.take_take] at this
   rw [show n * 1 = min n (v.length * 1) by omega,this]
   simp⟩⟩
  have hgT:g ≠ K.T:=In.far h.out.vars hg
  have hglt:g < w.heap.size:=lt_of_block hg
  have hPT1:P1 ≠ K.T:=f1.out.2.1
  have hPT2:P2 ≠ K.T:=f2.out.2.1
  have hPl1:P1 < w.heap.size:=lt_of_block h1.out
  have hPl2:P2 < w.heap.size:=lt_of_block h2.out
  have hFT:K.F ≠ K.T:=In.far h.out.vars h4.blk
  have hv1:v.length ≤ 9223372036854775807:=by unfold maxLen at hmax; omega
  clear h4 hg hcur htake c0 c1 c2
  obtain ⟨L,hL⟩:∃ L,L = v.length:=⟨_,rfl⟩
  rw [← hL] at c4 hcap hn hv1
  have HL:Hid (L = v.length):=hL
  clear hL
  go_enter_d Tryz.func104,Tryz.ntmps104
  go_wp2
  have HBW:=h
  clear h
  go_quiet (fail)
  go_wp2
  ·skip
   obtain ⟨D,hD⟩:∃ D,D = L - n:=⟨_,rfl⟩
   rw [← hD]
   have HD:Hid (D = L - n):=hD
   have hD2:n + D = L:=by omega
   clear hD
   go_loopw [11] (fun i wr => ∃ j:Nat,i = .int .i64 j ∧ Hid (ClAt K v n w j wr)) (fun i _ => D - (intOf i).toNat)
   case atStart => exact ⟨0,rfl,⟨by have:=HL.out; omega,by rw [Nat.add_zero,List.take_append_drop]; exact HBW.out.vars.keep rfl,⟨rfl,rfl,rfl,Nat.le_refl _,fun _ _ _ => rfl⟩⟩⟩
   case round =>
    obtain ⟨j,rfl,HC⟩:=hrel
    have keep:Hid (∀ k,k < w.heap.size → k ≠ K.T → wr.heap[k]? = w.heap[k]?):=fun k hk h1 => HC.out.grown.block k hk (fun e => h1 (by simpa using e))
    have p1':wr.cell? ⟨P1,0,none⟩ = some (.pointer (some ⟨K.F,3,none⟩)):=(World.cell?_of_block (a:=⟨P1,0,none⟩) (keep.out _ hPl1 hPT1)).trans p1
    have p2':wr.cell? ⟨P2,0,none⟩ = some (.int .i64 (n:Int)):=(World.cell?_of_block (a:=⟨P2,0,none⟩) (keep.out _ hPl2 hPT2)).trans p2
    have hb':wr.heap[K.F]? = some (K.obj _ s rr cc):=(keep.out _ hF hFT).trans H4.out.blk
    obtain ⟨_,_,_,c3',c4',_⟩:=bd_cells hb'
    have z4:=(bd_frozen hb').1
    rw [← HL.out] at c4'
    clear hb'
    by_cases hlt:j < D
    ·exfalso
     omega
    ·skip
     have hj:Hid (j = D):=by have:=HC.out.le; have:=HL.out; unfold Hid; omega
     have HT:Hid (Ms.In wr K.T (vrow (v.take n))):=by
      have:=HC.out.map
      rw [hj.out,hD2,HL.out,List.drop_length,List.append_nil] at this
      exact this
     clear p1 p2 c3 c4
     have HE:Hid (BW K (wr.drew.setCell ⟨K.F,4,none⟩ (.slice (some ⟨g,0,none⟩) n cap)) (v.take n) t ∧ Kpt K w (wr.drew.setCell ⟨K.F,4,none⟩ (.slice (some ⟨g,0,none⟩) n cap))):=close_end HBW.out H4.out (by have:=HL.out; omega) hown.out rfl (HT.out.keep rfl) ⟨HC.out.grown.os,HC.out.grown.tape,HC.out.grown.output,HC.out.grown.size,HC.out.grown.block⟩
     go_wp2
     go_region
     go_wp2
     go_end0
     first
      | exact ⟨rfl,HE.out⟩
      | (have e:=HE.out; rw [h] at e; exact ⟨rfl,e⟩)
  ·skip
   obtain ⟨D,hD⟩:∃ D,D = L - n:=⟨_,rfl⟩
   rw [← hD]
   have HD:Hid (D = L - n):=hD
   have hD2:n + D = L:=by omega
   clear hD
   go_loopw [11] (fun i wr => ∃ j:Nat,i = .int .i64 j ∧ Hid (ClAt K v n w j wr)) (fun i _ => D - (intOf i).toNat)
   case atStart => exact ⟨0,rfl,⟨by have:=HL.out; omega,by rw [Nat.add_zero,List.take_append_drop]; exact HBW.out.vars.keep rfl,⟨rfl,rfl,rfl,Nat.le_refl _,fun _ _ _ => rfl⟩⟩⟩
   case round =>
    obtain ⟨j,rfl,HC⟩:=hrel
    have keep:Hid (∀ k,k < w.heap.size → k ≠ K.T → wr.heap[k]? = w.heap[k]?):=fun k hk h1 => HC.out.grown.block k hk (fun e => h1 (by simpa using e))
    have p1':wr.cell? ⟨P1,0,none⟩ = some (.pointer (some ⟨K.F,3,none⟩)):=(World.cell?_of_block (a:=⟨P1,0,none⟩) (keep.out _ hPl1 hPT1)).trans p1
    have p2':wr.cell? ⟨P2,0,none⟩ = some (.int .i64 (n:Int)):=(World.cell?_of_block (a:=⟨P2,0,none⟩) (keep.out _ hPl2 hPT2)).trans p2
    have hb':wr.heap[K.F]? = some (K.obj _ s rr cc):=(keep.out _ hF hFT).trans H4.out.blk
    obtain ⟨_,_,_,c3',c4',_⟩:=bd_cells hb'
    have z4:=(bd_frozen hb').1
    rw [← HL.out] at c4'
    clear hb'
    by_cases hlt:j < D
    ·skip
     obtain ⟨q,hq⟩:∃ q,v[n + j]? = some q:=⟨_,List.getElem?_eq_getElem (by have:=HL.out; omega)⟩
     obtain ⟨k1,k2⟩:=cl_at HBW.out.once hq
     have qn:wr.cell? ⟨g,n + j,none⟩ = some (.string q.1):=(World.cell?_of_block (a:=⟨g,n + j,none⟩) (keep.out _ hglt hgT)).trans (hnames.out _ _ hq)
     obtain ⟨w2,hdel,hin2,hg2⟩:=Ms.run_delete Tryz.underlying101 Tryz.underlying9 (ty:=0) (ts:=#[101,9]) HC.out.map rfl k1
     rw [k2] at hin2
     have HC2:Hid (ClAt K v n w (j + 1) w2):=⟨by have:=HL.out; omega,hin2,⟨hg2.os.trans HC.out.grown.os,hg2.tape.trans HC.out.grown.tape,hg2.output.trans HC.out.grown.output,Nat.le_trans HC.out.grown.size hg2.size,fun k hk hne => (hg2.block k (by have:=HC.out.grown.size; omega) hne).trans (HC.out.grown.block k hk hne)⟩⟩
     obtain ⟨qs,hqs⟩:∃ qs,qs = q.1:=⟨_,rfl⟩
     rw [← hqs] at qn hdel
     clear hq k1 k2 hin2 hg2 hqs p1 p2 c3 c4
     go_wp2
     go_roundw
     case rel => exact ⟨j + 1,by go_num,HC2⟩
     case measure => simp [intOf]; omega
    ·skip
     have hj:Hid (j = D):=by have:=HC.out.le; have:=HL.out; unfold Hid; omega
     have HT:Hid (Ms.In wr K.T (vrow (v.take n))):=by
      have:=HC.out.map
      rw [hj.out,hD2,HL.out,List.drop_length,List.append_nil] at this
      exact this
     clear p1 p2 c3 c4
     have HE:Hid (BW K (wr.drew.setCell ⟨K.F,4,none⟩ (.slice (some ⟨g,0,none⟩) n cap)) (v.take n) t ∧ Kpt K w (wr.drew.setCell ⟨K.F,4,none⟩ (.slice (some ⟨g,0,none⟩) n cap))):=close_end HBW.out H4.out (by have:=HL.out; omega) hown.out rfl (HT.out.keep rfl) ⟨HC.out.grown.os,HC.out.grown.tape,HC.out.grown.output,HC.out.grown.size,HC.out.grown.block⟩
     go_wp2
     go_region
     go_wp2
     go_end0
     first
      | exact ⟨rfl,HE.out⟩
      | (have e:=HE.out; rw [h] at e; exact ⟨rfl,e⟩)
end Sm
end Go.Proofs.YtbioaoangfiijaaGreatDoor

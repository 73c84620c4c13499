/- The walk of started,given that of expr. -/
import Derived.Test.YtbioaoangfiijaaGreatDoorM8
set_option maxRecDepth 100000
set_option maxHeartbeats 2000000
namespace Go.Proofs.YtbioaoangfiijaaGreatDoor
open Go.RowKit
namespace Sm
def Bd (K:BK) (w:World) (v:Vars) (r:Except Int (Sy.Df × Tk)) (e:Ending) (w':World):Prop :=
 Kpt K w w' ∧ match r with
 | .ok x => (∃ val,e = .returned val ∧ DfV K.B w' x.1 val) ∧ BW K w' v x.2
 | .error er => e = .panicked [fltE er K.num] ∧ ∃ v' t',BW K w' v' t' ∧ v <+: v'
abbrev zD:Obj:=.cells #[.int .i64 0,.string ⟨#[]⟩,.int .i64 0,.string ⟨#[]⟩,.int .i64 0,.string ⟨#[]⟩,.int .i64 0,.slice none 0 0,.slice none 0 0] 39 (0,0)
abbrev nineS (w:World) (N:Nat) (a0 a1 a2 a3 a4 a5 a6 a7 a8:Value):World:=((((((((w.setCell ⟨N,0,none⟩ a0).setCell ⟨N,1,none⟩ a1).setCell ⟨N,2,none⟩ a2).setCell ⟨N,3,none⟩ a3).setCell ⟨N,4,none⟩ a4).setCell ⟨N,5,none⟩ a5).setCell ⟨N,6,none⟩ a6).setCell ⟨N,7,none⟩ a7).setCell ⟨N,8,none⟩ a8
theorem set_at {w:World} {g:Nat} {cs:List Value} {t:TypeId} (h:w.heap[g]? = some (.cells (List.toArray cs) t (0,0))) (i:Nat) (v:Value):(w.setCell ⟨g,i,none⟩ v).heap[g]? = some (.cells (List.toArray (cs.set i v)) t (0,0)):=by
 simp only [World.setCell,Array.getElem?_modify,if_true,h,Option.map_some]
 simp
theorem nine_at {w:World} {N:Nat} {z0 z1 z2 z3 z4 z5 z6 z7 z8 a0 a1 a2 a3 a4 a5 a6 a7 a8:Value} {t:TypeId} (h:w.heap[N]? = some (.cells #[z0,z1,z2,z3,z4,z5,z6,z7,z8] t (0,0))):(nineS w N a0 a1 a2 a3 a4 a5 a6 a7 a8).heap[N]? = some (.cells #[a0,a1,a2,a3,a4,a5,a6,a7,a8] t (0,0)) :=
 set_at (set_at (set_at (set_at (set_at (set_at (set_at (set_at (set_at h 0 a0) 1 a1) 2 a2) 3 a3) 4 a4) 5 a5) 6 a6) 7 a7) 8 a8
theorem nine_grown {w:World} {N:Nat} {a0 a1 a2 a3 a4 a5 a6 a7 a8:Value}:w.grownBy (nineS w N a0 a1 a2 a3 a4 a5 a6 a7 a8) (some N) :=
 grown_trans (grown_at _ _ 0 _) (grown_trans (grown_at _ _ 1 _) (grown_trans (grown_at _ _ 2 _) (grown_trans (grown_at _ _ 3 _) (grown_trans (grown_at _ _ 4 _) (grown_trans (grown_at _ _ 5 _) (grown_trans (grown_at _ _ 6 _) (grown_trans (grown_at _ _ 7 _) (grown_at _ _ 8 _))))))))
theorem Kpt.own {K:BK} {w w5 w9:World} {N:Nat} (h:Kpt K w w5) (hg:w5.grownBy w9 (some N)) (hN:w.heap.size ≤ N) (hNF:K.F ≠ N) (hF:K.F < w5.heap.size):Kpt K w w9 :=
 ⟨hg.os.trans h.os,hg.tape.trans h.tape,hg.output.trans h.output,Nat.le_trans h.size hg.size,fun k hk hf => by
  obtain ⟨h1,h2⟩:=h.block k hk hf
  refine ⟨(hg.block k (by have:=h.size; omega) (by simp; omega)).trans h1,h2.1,h2.2.1,fun o s r c hb => h2.2.2 o s r c ?_⟩
  rw [← hb]
  exact (hg.block _ hF (by simpa using hNF)).symm⟩
theorem BW.own {K:BK} {w5 w9:World} {v:Vars} {t:Tk} {N:Nat} {cs:Array Value} {e:TypeId} {fr:Nat × Nat} (h:BW K w5 v t) (hg:w5.grownBy w9 (some N)) (hf:Free K w5 N) (hc:w5.heap[N]? = some (.cells cs e fr)) (hB:K.B ≤ N):BW K w9 v t:=by
 obtain ⟨o,s,r,c,h4⟩:=h.rows
 obtain ⟨f1,f2,f3⟩:=hf
 obtain ⟨f4,f5,f6,f7⟩:=f3 _ _ _ _ h4.blk
 have blk:∀ k,k < w5.heap.size → k ≠ N → w9.heap[k]? = w5.heap[k]?:=fun k hk hne => hg.block k hk (by simpa using hne)
 have hF:=h4.lt
 have hb:=h.base
 refine ⟨h.grd.same fun b o hb' => World.cell?_of_block (a:=⟨b,o,none⟩) (blk b (by omega) (by omega)),h.base,h.mp.keep (blk _ h.mp.lt (fun e' => In.far h.mp hc e'.symm)),h.nums,⟨o,s,r,c,(blk _ hF (Ne.symm f1)).trans h4.blk,?_,?_,?_,?_,h4.far⟩,h.vars.keep (blk _ h.vars.lt (Ne.symm f2)),h.once⟩
 ·exact own_keep h4.ordO fun k hk => blk k (own_lt h4.ordO k hk).2.1 (fun e' => f4 (by rw [← e']; exact hk))
 ·exact own_keep h4.snO fun k hk => blk k (own_lt h4.snO k hk).2.1 (fun e' => f5 (by rw [← e']; exact hk))
 ·exact own_keep h4.rcO fun k hk => blk k (own_lt h4.rcO k hk).2.1 (fun e' => f6 (by rw [← e']; exact hk))
 ·exact own_keep h4.clO fun k hk => blk k (own_lt h4.clO k hk).2.1 (fun e' => f7 (by rw [← e']; exact hk))
theorem started_any (K:BK) (v:Vars) (d:Nat) (ex:Sy.Ex → Tk → Except Int (Sy.Ty × Tk)) (hC:Hid (CEx K v d ex)) (x:Sy.Ex) (xa:Option Addr) (xc:Nat) (t:Tk) (n m:Nat) (w:World) (r:Except Int (Sy.Df × Tk)) (h:Hid (BW K w v t)) (hx:Hid (∃ h,ExIn K.B w h x xa)) (hn:Hid (Sy.exW d x n = .ok m)) (ht:Hid (TkLe t n)) (h2:n ≤ 2000)
  (hr:Hid (r = started K.l ex x t)) :
  Calls Tryz.prog 114 #[.pointer (some ⟨K.F,0,none⟩),exV x xa xc] w fun e w' => Bd K w v r e w':=by
 have hF:=h.out.lt
 obtain ⟨W0,hW0⟩:∃ W0,W0 = (w.alloc (.cells #[.int .i64 x.kind,.int .i64 x.n,.string x.name,.slice xa x.kids.length xc] 137)).alloc zD:=⟨_,rfl⟩
 have HK0:Hid (Kpt K w W0):=by rw [hW0]; exact Kpt.grown (grown_a2 _ _) hF
 have HB0:Hid (BW K W0 v t):=by rw [hW0]; exact h.out.grown (grown_a2 _ _)
 have HE0:Hid (∃ h,ExIn K.B W0 h x xa):=by
  obtain ⟨hh,hE⟩:=hx.out
  exact ⟨hh,hE.same (h.out.same HK0.out)⟩
 have HZ0:Hid (W0.heap[w.heap.size + 1]? = some zD ∧ Free K W0 (w.heap.size + 1)):=by
  rw [hW0]
  refine ⟨?_,h.out.free (grown_a2 _ _) (by omega)⟩
  have:=heap_alloc_new (w.alloc (.cells #[.int .i64 x.kind,.int .i64 x.n,.string x.name,.slice xa x.kids.length xc] 137)) zD
  simpa using this
 obtain ⟨er,her⟩:∃ er,er = ex x t:=⟨_,rfl⟩
 have HEr:Hid (er = ex x t):=her
 have HRr:Hid (r = andThen er fun p => if p.1.kind ≠ 3 then .error 9 else andThen (Sm.want K.l 3 p.1.gen) fun n => .ok (defAt K.l n,p.2)):=by
  unfold Hid
  rw [hr.out,her,started]
 have HW0:Hid (W0 = _):=hW0
 clear hr her hW0
 go_enter Tryz.func114,Tryz.ntmps114
 go_wp2_with fail
 rw [← HW0.out]
 refine (hC.out x xa xc t n m W0 _ HB0 HE0 hn ht h2 (by rw [← HEr.out]; exact rfl)).mono ?_
 rintro e w2 ⟨hk2',he2⟩
 have HK2:Hid (Kpt K W0 w2):=hk2'
 cases er with
 | error y =>
  obtain ⟨rfl,v2,t2,hb2,hp2⟩:=he2
  have HE:Hid (Bd K w v r (.panicked [fltE y K.num]) w2):=by
   rw [HRr.out]
   exact ⟨HK0.out.trans HK2.out,rfl,v2,t2,hb2,hp2⟩
  clear hk2' hb2 hp2
  go_wp2
  exact ⟨rfl,HE.out⟩
 | ok p =>
  obtain ⟨⟨pk,pg⟩,pt⟩:=p
  obtain ⟨rfl,hb2⟩:=he2
  have HB2:Hid (BW K w2 v pt):=hb2
  obtain ⟨W3,hW3⟩:∃ W3,W3 = w2.alloc (.cells #[.int .i64 pk,.string pg] 35):=⟨_,rfl⟩
  have HK3:Hid (Kpt K w W3):=by rw [hW3]; exact (HK0.out.trans HK2.out).trans (Kpt.alloc K w2 _ hb2.lt)
  have HB3:Hid (BW K W3 v pt):=by rw [hW3]; exact hb2.grown (grown_a _)
  obtain ⟨o,sn,rr,cc,h4⟩:=HB3.out.rows
  obtain ⟨c0,c1,c2,_⟩:=bd_cells h4.blk
  obtain ⟨y0,y1,_,_⟩:=two_cell (w:=W3) (b:=w2.heap.size) (v0:=.int .i64 pk) (v1:=.string pg) (t:=35) (by rw [hW3]; exact heap_alloc_new w2 _)
  have HW3:Hid (W3 = _):=hW3
  clear hk2' hb2 h4 hW3
  by_cases h3:pk = 3
  ·subst h3
   obtain ⟨wr,hwr⟩:∃ wr,wr = Sm.want K.l 3 pg:=⟨_,rfl⟩
   have HRw:Hid (r = andThen wr fun n => .ok (defAt K.l n,pt)):=by
    unfold Hid
    rw [HRr.out,andThen_ok,if_neg (by simp),hwr]
   have HWr:Hid (wr = Sm.want K.l 3 pg):=hwr
   have hB3:K.B ≤ W3.heap.size:=by have:=HB3.out.base; have:=HB3.out.lt; omega
   clear hwr
   cases wr with
   | error y =>
    go_wp2_with fail
    rw [← HW3.out]
    refine wp_region_held_drew (S:=fun w' => w'.cell? ⟨K.F,0,none⟩ = some (.slice K.a K.l.length K.c) ∧ w'.cell? ⟨K.F,1,none⟩ = some (.map (some K.M)) ∧ w'.cell? ⟨K.F,2,none⟩ = some (.int .i64 K.num) ∧ w'.cell? ⟨w2.heap.size,1,none⟩ = some (.string pg)) (by kernel_rfl) ⟨c0,c1,c2,y1⟩ (fun hHeld => ?_)
    refine tk 0 (v:=?_) rfl ?_ (by assumption) ?_
    rotate_left
    ·intro w hSw
     (try dsimp only at hSw)
     go_simp
     (try with_reducible rfl)
    (try go_frame)
    refine tk 1 (v:=?_) rfl ?_ (by assumption) ?_
    rotate_left
    ·intro w hSw
     (try dsimp only at hSw)
     go_simp
     (try with_reducible rfl)
    (try go_frame)
    refine tk 2 (v:=?_) rfl ?_ (by assumption) ?_
    rotate_left
    ·intro w hSw
     (try dsimp only at hSw)
     go_simp
     (try with_reducible rfl)
    (try go_frame)
    refine tk 3 (v:=?_) rfl ?_ (by assumption) ?_
    rotate_left
    ·intro w hSw
     (try dsimp only at hSw)
     go_simp
     (try with_reducible rfl)
    (try go_frame)
    refine tk 4 (v:=?_) rfl ?_ (by assumption) ?_
    rotate_left
    ·intro w hSw
     (try dsimp only at hSw)
     go_simp
     (try with_reducible rfl)
    (try go_frame)
    refine tk 5 (v:=?_) rfl ?_ (by assumption) ?_
    rotate_left
    ·intro w hSw
     (try dsimp only at hSw)
     go_simp
     (try with_reducible rfl)
    (try go_frame)
    refine tk 6 (v:=?_) rfl ?_ (by assumption) ?_
    rotate_left
    ·intro w hSw
     (try dsimp only at hSw)
     go_simp
     (try with_reducible rfl)
    (try go_frame)
    refine tk 7 (v:=?_) rfl ?_ (by assumption) ?_
    rotate_left
    ·intro w hSw
     (try dsimp only at hSw)
     go_simp
     (try with_reducible rfl)
    (try go_frame)
    refine tk 8 (v:=?_) rfl ?_ (by assumption) ?_
    rotate_left
    ·intro w hSw
     (try dsimp only at hSw)
     go_simp
     (try with_reducible rfl)
    (try go_frame)
    refine tk 9 (v:=?_) rfl ?_ (by assumption) ?_
    rotate_left
    ·intro w hSw
     (try dsimp only at hSw)
     go_simp
     (try with_reducible rfl)
    (try go_frame)
    refine tk 10 (v:=?_) rfl ?_ (by assumption) ?_
    rotate_left
    ·intro w hSw
     (try dsimp only at hSw)
     go_simp
     (try with_reducible rfl)
    (try go_frame)
    refine tk 11 (v:=?_) rfl ?_ (by assumption) ?_
    rotate_left
    ·intro w hSw
     (try dsimp only at hSw)
     go_simp
     (try with_reducible rfl)
    (try go_frame)
    refine wpAnyH_ready (rs:=[12]) (by kernel_rfl) (by simp) ?_
    refine AllReadyH.cons (o:=_) rfl (fun K' hK => ?_) AllReadyH.nil
    go_simp
    refine (want_any K.B K.l K.a K.c K.M K.num 3 pg K.R W3.drew (.error y) (by exact HB3.out.drew.dfs) (by exact hB3) (by exact HB3.out.drew.mp) (by exact HB3.out.nums) (by rw [← HWr.out]; exact rfl)).mono ?_
    rintro e w5 ⟨hg5,rfl⟩
    have HE:Hid (Bd K w v r (.panicked [fltE y K.num]) w5):=by
     have hg:W3.grownBy w5 none:=⟨hg5.os,hg5.tape,hg5.output,hg5.size,hg5.block⟩
     rw [HRw.out]
     exact ⟨HK3.out.trans (Kpt.grown hg HB3.out.lt),rfl,v,pt,HB3.out.grown hg,List.prefix_refl _⟩
    clear hg5 hK
    go_wp2
    exact ⟨rfl,HE.out⟩
   | ok i =>
    have hi:i < K.l.length:=by
     have:=HWr.out
     unfold Sm.want at this
     cases hq:numOf K.l pg with
     | none => rw [hq] at this; cases this
     | some i' =>
      rw [hq] at this
      dsimp only at this
      split at this
      ·cases this; exact numOf_lt hq
      ·cases this
    obtain ⟨D,hD⟩:∃ D,D = K.l[i]:=⟨_,rfl⟩
    have hDA:Hid (defAt K.l i = D):=by unfold Hid; rw [hD]; simp [defAt,List.getElem?_eq_getElem hi]
    obtain ⟨b,off,pa,pc,ba,bc,ha,hb,k0,k1,k2,k3,k4,k5,k6,k7,k8,hdf⟩:=HB3.out.dfs.2 i D (by rw [hD]; exact List.getElem?_eq_getElem hi)
    have hml:K.l.length ≤ maxLen:=HB3.out.dfs.1
    obtain ⟨L,hL⟩:∃ L,L = K.l.length:=⟨_,rfl⟩
    have HL:Hid (L = K.l.length):=hL
    rw [← hL] at hi hml c0
    rw [ha] at c0
    have HA:Hid (K.a = some ⟨b,off,none⟩):=ha
    have HDf:Hid (DfIn K.B W3 D pa ba):=hdf
    have hbW:b < W3.heap.size:=by omega
    have hFW:K.F < W3.heap.size:=HB3.out.lt
    have hyW:w2.heap.size < W3.heap.size:=by rw [HW3.out]; simp
    have HS:Hid (∀ w',W3.grownBy w' none → (w'.cell? ⟨K.F,0,none⟩ = some (.slice (some ⟨b,off,none⟩) L K.c) ∧ w'.cell? ⟨K.F,1,none⟩ = some (.map (some K.M)) ∧ w'.cell? ⟨K.F,2,none⟩ = some (.int .i64 K.num) ∧ w'.cell? ⟨w2.heap.size,1,none⟩ = some (.string pg) ∧ w'.cell? ⟨b,off + i * 9,none⟩ = some (.int .i64 D.kind) ∧ w'.cell? ⟨b,off + i * 9 + 1,none⟩ = some (.string D.name) ∧ w'.cell? ⟨b,off + i * 9 + 2,none⟩ = some (.int .i64 D.ty.kind) ∧ w'.cell? ⟨b,off + i * 9 + 3,none⟩ = some (.string D.ty.gen) ∧ w'.cell? ⟨b,off + i * 9 + 4,none⟩ = some (.int .i64 D.takes.kind) ∧ w'.cell? ⟨b,off + i * 9 + 5,none⟩ = some (.string D.takes.gen) ∧ w'.cell? ⟨b,off + i * 9 + 6,none⟩ = some (.int .i64 D.cap) ∧ w'.cell? ⟨b,off + i * 9 + 7,none⟩ = some (.slice pa D.params.length pc) ∧ w'.cell? ⟨b,off + i * 9 + 8,none⟩ = some (.slice ba D.body.length bc))):=fun w' hg => by
     have cF:∀ o,w'.cell? ⟨K.F,o,none⟩ = W3.cell? ⟨K.F,o,none⟩:=fun o => World.cell?_of_block (a:=⟨K.F,o,none⟩) (hg.block _ hFW (by simp))
     have cB:∀ o,w'.cell? ⟨b,o,none⟩ = W3.cell? ⟨b,o,none⟩:=fun o => World.cell?_of_block (a:=⟨b,o,none⟩) (hg.block _ hbW (by simp))
     have cY:∀ o,w'.cell? ⟨w2.heap.size,o,none⟩ = W3.cell? ⟨w2.heap.size,o,none⟩:=fun o => World.cell?_of_block (a:=⟨w2.heap.size,o,none⟩) (hg.block _ hyW (by simp))
     rw [cF,cF,cF,cY,cB,cB,cB,cB,cB,cB,cB,cB,cB]
     exact ⟨c0,c1,c2,y1,k0,k1,k2,k3,k4,k5,k6,k7,k8⟩
    have HZ3:Hid (W3.heap[w.heap.size + 1]? = some zD):=by
     have h1:=(HK2.out.block _ (lt_of_block HZ0.out.1) HZ0.out.2).1.trans HZ0.out.1
     rw [HW3.out]
     exact (Below.heap_alloc _ _ _ (lt_of_block h1)).trans h1
    have hz3:=lt_of_block HZ3.out
    have hnF:K.F ≠ w.heap.size + 1:=by omega
    clear hD ha hdf hL
    go_wp2_with fail
    rw [← HW3.out]
    refine wp_region_held_drew (S:=fun w' => w'.cell? ⟨K.F,0,none⟩ = some (.slice (some ⟨b,off,none⟩) L K.c) ∧ w'.cell? ⟨K.F,1,none⟩ = some (.map (some K.M)) ∧ w'.cell? ⟨K.F,2,none⟩ = some (.int .i64 K.num) ∧ w'.cell? ⟨w2.heap.size,1,none⟩ = some (.string pg) ∧ w'.cell? ⟨b,off + i * 9,none⟩ = some (.int .i64 D.kind) ∧ w'.cell? ⟨b,off + i * 9 + 1,none⟩ = some (.string D.name) ∧ w'.cell? ⟨b,off + i * 9 + 2,none⟩ = some (.int .i64 D.ty.kind) ∧ w'.cell? ⟨b,off + i * 9 + 3,none⟩ = some (.string D.ty.gen) ∧ w'.cell? ⟨b,off + i * 9 + 4,none⟩ = some (.int .i64 D.takes.kind) ∧ w'.cell? ⟨b,off + i * 9 + 5,none⟩ = some (.string D.takes.gen) ∧ w'.cell? ⟨b,off + i * 9 + 6,none⟩ = some (.int .i64 D.cap) ∧ w'.cell? ⟨b,off + i * 9 + 7,none⟩ = some (.slice pa D.params.length pc) ∧ w'.cell? ⟨b,off + i * 9 + 8,none⟩ = some (.slice ba D.body.length bc)) (by kernel_rfl) (HS.out W3.drew ⟨rfl,rfl,rfl,Nat.le_refl _,fun _ _ _ => rfl⟩) (fun hHeld => ?_)
    refine tk 0 (v:=?_) rfl ?_ (by assumption) ?_
    rotate_left
    ·intro w hSw
     (try dsimp only at hSw)
     go_simp
     (try with_reducible rfl)
    (try go_frame)
    refine tk 1 (v:=?_) rfl ?_ (by assumption) ?_
    rotate_left
    ·intro w hSw
     (try dsimp only at hSw)
     go_simp
     (try with_reducible rfl)
    (try go_frame)
    refine tk 2 (v:=?_) rfl ?_ (by assumption) ?_
    rotate_left
    ·intro w hSw
     (try dsimp only at hSw)
     go_simp
     (try with_reducible rfl)
    (try go_frame)
    refine tk 3 (v:=?_) rfl ?_ (by assumption) ?_
    rotate_left
    ·intro w hSw
     (try dsimp only at hSw)
     go_simp
     (try with_reducible rfl)
    (try go_frame)
    refine tk 4 (v:=?_) rfl ?_ (by assumption) ?_
    rotate_left
    ·intro w hSw
     (try dsimp only at hSw)
     go_simp
     (try with_reducible rfl)
    (try go_frame)
    refine tk 5 (v:=?_) rfl ?_ (by assumption) ?_
    rotate_left
    ·intro w hSw
     (try dsimp only at hSw)
     go_simp
     (try with_reducible rfl)
    (try go_frame)
    refine tk 6 (v:=?_) rfl ?_ (by assumption) ?_
    rotate_left
    ·intro w hSw
     (try dsimp only at hSw)
     go_simp
     (try with_reducible rfl)
    (try go_frame)
    refine tk 7 (v:=?_) rfl ?_ (by assumption) ?_
    rotate_left
    ·intro w hSw
     (try dsimp only at hSw)
     go_simp
     (try with_reducible rfl)
    (try go_frame)
    refine tk 8 (v:=?_) rfl ?_ (by assumption) ?_
    rotate_left
    ·intro w hSw
     (try dsimp only at hSw)
     go_simp
     (try with_reducible rfl)
    (try go_frame)
    refine tk 9 (v:=?_) rfl ?_ (by assumption) ?_
    rotate_left
    ·intro w hSw
     (try dsimp only at hSw)
     go_simp
     (try with_reducible rfl)
    (try go_frame)
    refine tk 10 (v:=?_) rfl ?_ (by assumption) ?_
    rotate_left
    ·intro w hSw
     (try dsimp only at hSw)
     go_simp
     (try with_reducible rfl)
    (try go_frame)
    refine tk 11 (v:=?_) rfl ?_ (by assumption) ?_
    rotate_left
    ·intro w hSw
     (try dsimp only at hSw)
     go_simp
     (try with_reducible rfl)
    (try go_frame)
    refine wpAnyH_ready (rs:=[12]) (by kernel_rfl) (by simp) ?_
    refine AllReadyH.cons (o:=_) rfl (fun K' hK => ?_) AllReadyH.nil
    go_simp
    have hwa:=want_any K.B K.l (some ⟨b,off,none⟩) K.c K.M K.num 3 pg K.R W3.drew (.ok (.int .i64 (i:Int))) (by rw [← HA.out]; exact HB3.out.drew.dfs) (by exact hB3) (by exact HB3.out.drew.mp) (by exact HB3.out.nums) (by rw [← HWr.out]; exact rfl)
    rw [← HL.out] at hwa
    refine hwa.mono ?_
    rintro e w5 ⟨hg5',rfl⟩
    have hg:W3.grownBy w5 none:=⟨hg5'.os,hg5'.tape,hg5'.output,hg5'.size,hg5'.block⟩
    have HG5:Hid (W3.grownBy w5 none):=hg
    have hz5:w5.heap[w.heap.size + 1]? = some zD:=(hg.block _ hz3 (by simp)).trans HZ3.out
    have HZ5:Hid (w5.heap[w.heap.size + 1]? = some zD):=hz5
    have zf:w5.frozen? ⟨w.heap.size + 1,0,none⟩ = false ∧ w5.frozen? ⟨w.heap.size + 1,1,none⟩ = false ∧ w5.frozen? ⟨w.heap.size + 1,2,none⟩ = false ∧ w5.frozen? ⟨w.heap.size + 1,3,none⟩ = false ∧ w5.frozen? ⟨w.heap.size + 1,4,none⟩ = false ∧ w5.frozen? ⟨w.heap.size + 1,5,none⟩ = false ∧ w5.frozen? ⟨w.heap.size + 1,6,none⟩ = false ∧ w5.frozen? ⟨w.heap.size + 1,7,none⟩ = false ∧ w5.frozen? ⟨w.heap.size + 1,8,none⟩ = false:=by simp [World.frozen?,hz5]
    have zc:w5.cell? ⟨w.heap.size + 1,0,none⟩ = some (.int .i64 0) ∧ w5.cell? ⟨w.heap.size + 1,1,none⟩ = some (.string ⟨#[]⟩) ∧ w5.cell? ⟨w.heap.size + 1,2,none⟩ = some (.int .i64 0) ∧ w5.cell? ⟨w.heap.size + 1,3,none⟩ = some (.string ⟨#[]⟩) ∧ w5.cell? ⟨w.heap.size + 1,4,none⟩ = some (.int .i64 0) ∧ w5.cell? ⟨w.heap.size + 1,5,none⟩ = some (.string ⟨#[]⟩) ∧ w5.cell? ⟨w.heap.size + 1,6,none⟩ = some (.int .i64 0) ∧ w5.cell? ⟨w.heap.size + 1,7,none⟩ = some (.slice none 0 0) ∧ w5.cell? ⟨w.heap.size + 1,8,none⟩ = some (.slice none 0 0):=by simp [World.cell?,hz5]
    obtain ⟨zf0,zf1,zf2,zf3,zf4,zf5,zf6,zf7,zf8⟩:=zf
    obtain ⟨zc0,zc1,zc2,zc3,zc4,zc5,zc6,zc7,zc8⟩:=zc
    refine hK.out _ _ (HS.out w5 hg) (fun hHeld => ?_)
    clear hK hg5' hg hz5 hwa
    refine tk 13 (v:=?_) rfl ?_ (by assumption) ?_
    rotate_left
    ·intro w hSw
     (try dsimp only at hSw)
     go_simp
     (try with_reducible rfl)
    (try go_frame)
    refine tk 14 (v:=?_) rfl ?_ (by assumption) ?_
    rotate_left
    ·intro w hSw
     (try dsimp only at hSw)
     go_simp
     (try with_reducible rfl)
    (try go_frame)
    refine wpAnyH_ready (rs:=[15]) (by kernel_rfl) (by simp) ?_
    refine AllReadyH.cons (o:=_) rfl (fun K' hK => ?_) AllReadyH.nil
    go_simp
    have hbn:b ≠ w.heap.size + 1:=by have:=HB3.out.base; omega
    have hyn:w2.heap.size ≠ w.heap.size + 1:=by have:=HK2.out.size; have:=lt_of_block HZ0.out.1; omega
    have h5F:K.F < w5.heap.size:=by have:=HG5.out.size; omega
    have HN5:Hid (w5.grownBy (nineS w5 (w.heap.size + 1) (.int .i64 D.kind) (.string D.name) (.int .i64 D.ty.kind) (.string D.ty.gen) (.int .i64 D.takes.kind) (.string D.takes.gen) (.int .i64 D.cap) (.slice pa D.params.length pc) (.slice ba D.body.length bc)) (some (w.heap.size + 1))):=nine_grown
    have HN9:Hid ((nineS w5 (w.heap.size + 1) (.int .i64 D.kind) (.string D.name) (.int .i64 D.ty.kind) (.string D.ty.gen) (.int .i64 D.takes.kind) (.string D.takes.gen) (.int .i64 D.cap) (.slice pa D.params.length pc) (.slice ba D.body.length bc)).heap[w.heap.size + 1]? = some (.cells #[.int .i64 D.kind,.string D.name,.int .i64 D.ty.kind,.string D.ty.gen,.int .i64 D.takes.kind,.string D.takes.gen,.int .i64 D.cap,.slice pa D.params.length pc,.slice ba D.body.length bc] 39 (0,0))):=nine_at HZ5.out
    obtain ⟨W9,hW9⟩:∃ W9,W9 = nineS w5 (w.heap.size + 1) (.int .i64 D.kind) (.string D.name) (.int .i64 D.ty.kind) (.string D.ty.gen) (.int .i64 D.takes.kind) (.string D.takes.gen) (.int .i64 D.cap) (.slice pa D.params.length pc) (.slice ba D.body.length bc):=⟨_,rfl⟩
    rw [← hW9] at HN5 HN9
    have hS9:(fun w' => w'.cell? ⟨K.F,0,none⟩ = some (.slice (some ⟨b,off,none⟩) L K.c) ∧ w'.cell? ⟨K.F,1,none⟩ = some (.map (some K.M)) ∧ w'.cell? ⟨K.F,2,none⟩ = some (.int .i64 K.num) ∧ w'.cell? ⟨w2.heap.size,1,none⟩ = some (.string pg) ∧ w'.cell? ⟨b,off + i * 9,none⟩ = some (.int .i64 D.kind) ∧ w'.cell? ⟨b,off + i * 9 + 1,none⟩ = some (.string D.name) ∧ w'.cell? ⟨b,off + i * 9 + 2,none⟩ = some (.int .i64 D.ty.kind) ∧ w'.cell? ⟨b,off + i * 9 + 3,none⟩ = some (.string D.ty.gen) ∧ w'.cell? ⟨b,off + i * 9 + 4,none⟩ = some (.int .i64 D.takes.kind) ∧ w'.cell? ⟨b,off + i * 9 + 5,none⟩ = some (.string D.takes.gen) ∧ w'.cell? ⟨b,off + i * 9 + 6,none⟩ = some (.int .i64 D.cap) ∧ w'.cell? ⟨b,off + i * 9 + 7,none⟩ = some (.slice pa D.params.length pc) ∧ w'.cell? ⟨b,off + i * 9 + 8,none⟩ = some (.slice ba D.body.length bc)) W9:=by
     have cF:∀ o,W9.cell? ⟨K.F,o,none⟩ = w5.cell? ⟨K.F,o,none⟩:=fun o => World.cell?_of_block (a:=⟨K.F,o,none⟩) (HN5.out.block _ h5F (by simpa using hnF))
     have cB:∀ o,W9.cell? ⟨b,o,none⟩ = w5.cell? ⟨b,o,none⟩:=fun o => World.cell?_of_block (a:=⟨b,o,none⟩) (HN5.out.block b (by have:=HG5.out.size; omega) (by simpa using hbn))
     have cY:∀ o,W9.cell? ⟨w2.heap.size,o,none⟩ = w5.cell? ⟨w2.heap.size,o,none⟩:=fun o => World.cell?_of_block (a:=⟨w2.heap.size,o,none⟩) (HN5.out.block w2.heap.size (by have:=HG5.out.size; omega) (by simpa using hyn))
     dsimp only
     rw [cF,cF,cF,cY,cB,cB,cB,cB,cB,cB,cB,cB,cB]
     exact HS.out w5 HG5.out
    have HE:Hid (Bd K w v r (.returned (dfV D pa pc ba bc)) W9):=by
     have hK5:Kpt K w w5:=HK3.out.trans (Kpt.grown HG5.out HB3.out.lt)
     have hf2:=(HK2.out.block _ (lt_of_block HZ0.out.1) HZ0.out.2).2
     have hf5:Free K w5 (w.heap.size + 1):=by
      have hl2:w.heap.size + 1 < w2.heap.size:=by have:=HK2.out.size; have:=lt_of_block HZ0.out.1; omega
      have hg3:w2.grownBy W3 none:=by rw [HW3.out]; exact grown_a _
      exact ((Kpt.grown (K:=K) (grown_trans hg3 HG5.out) HB2.out.lt).block _ hl2 hf2).2
     have hb5:BW K w5 v pt:=HB3.out.grown HG5.out
     have hB9:K.B ≤ w.heap.size + 1:=by have:=h.out.base; omega
     have hb9:BW K W9 v pt:=hb5.own HN5.out hf5 HZ5.out hB9
     rw [HRw.out,andThen_ok,hDA.out]
     refine ⟨hK5.own HN5.out (by omega) hnF h5F,⟨_,rfl,pa,pc,ba,bc,rfl,?_⟩,hb9⟩
     refine HDf.out.same fun b' o' hb' => World.cell?_of_block (a:=⟨b',o',none⟩) ?_
     exact (HN5.out.block b' (by have:=HG5.out.size; omega) (by simp; omega)).trans (HG5.out.block b' (by omega) (by simp))
    rw [show ((((((((w5.setCell ⟨w.heap.size + 1,0,none⟩ (.int .i64 D.kind)).setCell ⟨w.heap.size + 1,1,none⟩ (.string D.name)).setCell ⟨w.heap.size + 1,2,none⟩ (.int .i64 D.ty.kind)).setCell ⟨w.heap.size + 1,3,none⟩ (.string D.ty.gen)).setCell ⟨w.heap.size + 1,4,none⟩ (.int .i64 D.takes.kind)).setCell ⟨w.heap.size + 1,5,none⟩ (.string D.takes.gen)).setCell ⟨w.heap.size + 1,6,none⟩ (.int .i64 D.cap)).setCell ⟨w.heap.size + 1,7,none⟩ (.slice pa D.params.length pc)).setCell ⟨w.heap.size + 1,8,none⟩ (.slice ba D.body.length bc) = W9 from hW9.symm]
    refine hK.out _ _ hS9 (fun hHeld => ?_)
    have q9:=HN9.out
    clear hK hS9 hW9 zf0 zf1 zf2 zf3 zf4 zf5 zf6 zf7 zf8 zc0 zc1 zc2 zc3 zc4 zc5 zc6 zc7 zc8
    refine wpAnyH_done (by kernel_rfl) ?_ _
    go_wp2
    refine bodyPost_ret (v:=dfV D pa pc ba bc) (by simp [results,Tryz.results114,go_sem,World.cell?,q9]) rfl ?_
    exact HE.out
  ·have HR9:Hid (r = .error 9):=by unfold Hid; rw [HRr.out,andThen_ok,if_pos h3]
   have h3':(pk != 3) = true:=by simpa using h3
   clear h3
   rw [HW3.out] at c0 c1 c2 y0 y1
   go_wp2_with fail
   refine (fail_any K.l.length K.a K.c K.M K.num 9 _).mono ?_
   rintro e w5 ⟨rfl,hg5⟩
   have HE:Hid (Bd K w v r (.panicked [fltE 9 K.num]) w5):=by
    rw [← HW3.out] at hg5
    rw [HR9.out]
    exact ⟨HK3.out.trans (Kpt.grown hg5 HB3.out.lt),rfl,v,pt,HB3.out.grown hg5,List.prefix_refl _⟩
   clear hg5
   go_wp2
   exact ⟨rfl,HE.out⟩
end Sm
namespace Sm
theorem obj_set5 {K:BK} {w:World} {o s r c:Value} (h:w.heap[K.F]? = some (K.obj o s r c)) (v:Value):(w.setCell ⟨K.F,5,none⟩ v).heap[K.F]? = some (K.obj o v r c):=by
 simp only [World.setCell,Array.getElem?_modify,if_true,h,Option.map_some]
 rfl
theorem talk5 {K:BK} {v:Vars} {t:Tk} {w w2 w4:World} {o2:Obj} {ord sn rc cl:Value} {g cap i:Nat} (h:BW K w v t) (h4:Rows4 K w v t ord sn rc cl) (hg2:w.grownBy w2 none) (hg4:(w2.alloc o2).grownBy w4 sn.ownBlock)
  (hown:w4.ownsRow K.B 3 1 (.slice (some ⟨g,0,none⟩) (t.sends.length + 1) cap) (t.sends.length + 1) (nats t.sends ++ [.int .i64 (i:Int)])) (hw:sn.ownBlock = some g ∨ g = (w2.alloc o2).heap.size) :
  BW K (w4.setCell ⟨K.F,5,none⟩ (.slice (some ⟨g,0,none⟩) (t.sends.length + 1) cap)) v ⟨t.sends ++ [i],t.recvs,t.calls⟩ ∧ Kpt K w (w4.setCell ⟨K.F,5,none⟩ (.slice (some ⟨g,0,none⟩) (t.sends.length + 1) cap)):=by
 obtain ⟨nv,hnv⟩:∃ nv,nv = Value.slice (some ⟨g,0,none⟩) (t.sends.length + 1) cap:=⟨_,rfl⟩
 have hno:nv.ownBlock = some g:=by rw [hnv]; rfl
 rw [← hnv] at hown ⊢
 obtain ⟨hx,hy,hz,hxyz⟩:w.ownsRow K.B 3 1 sn t.sends.length (nats t.sends) ∧ w.ownsRow K.B 3 1 rc t.recvs.length (nats t.recvs) ∧ w.ownsRow K.B 3 1 cl t.calls.length (nats t.calls) ∧ ∀ k,sn.ownBlock = some k → rc.ownBlock ≠ some k ∧ cl.ownBlock ≠ some k:=⟨h4.snO,h4.rcO,h4.clO,fun k hk => (h4.far k).1 hk⟩
 have hz2:=hg2.size
 have hz4:w2.heap.size + 1 ≤ w4.heap.size:=by simpa using hg4.size
 have hxF:sn.ownBlock ≠ some K.F:=fun e => by
  obtain ⟨_,_,cur,hc⟩:=own_lt hx _ e
  rw [h4.blk] at hc
  cases hc
 have blk:∀ k,k < w.heap.size → sn.ownBlock ≠ some k → w4.heap[k]? = w.heap[k]?:=fun k hk h2 =>
  ((hg4.block k (by simp; omega) (fun e => h2 e.symm)).trans (Below.heap_alloc _ _ _ (by omega))).trans (hg2.block k hk (by simp))
 have hF4:w4.heap[K.F]? = some (K.obj ord sn rc cl):=(blk _ h4.lt hxF).trans h4.blk
 have hF5:=obj_set5 hF4 nv
 have set:∀ k,k ≠ K.F → (w4.setCell ⟨K.F,5,none⟩ nv).heap[k]? = w4.heap[k]?:=fun k hk => Below.heap_setCell w4 ⟨K.F,5,none⟩ nv k hk
 have all:∀ k,k < w.heap.size → k ≠ K.F → sn.ownBlock ≠ some k → (w4.setCell ⟨K.F,5,none⟩ nv).heap[k]? = w.heap[k]?:=fun k hk h1 h3 => (set k h1).trans (blk k hk h3)
 have others:∀ {e:TypeId} {x:Value} {n:Nat} {xs:List Value},w.ownsRow K.B e 1 x n xs → e ≠ 105 → (∀ k,sn.ownBlock = some k → x.ownBlock ≠ some k) → (w4.setCell ⟨K.F,5,none⟩ nv).ownsRow K.B e 1 x n xs:=fun {e x n xs} ho he hf => own_keep ho fun k hk => by
  obtain ⟨_,hlt,cur,hc⟩:=own_lt ho k hk
  refine all k hlt (fun e' => ?_) (fun e' => hf k e' hk)
  rw [e',h4.blk] at hc
  simp at hc
  exact he hc.2.symm
 have mapFar:∀ {M:Nat} {R:Ms.Row},Ms.In w M R → M ≠ K.F ∧ sn.ownBlock ≠ some M:=fun {M R} hm => ⟨fun e => (In.far hm h4.blk) e.symm,fun e => by
  obtain ⟨_,_,cur',hc'⟩:=own_lt hx _ e
  exact (In.far hm hc') rfl⟩
 have ny:∀ {y:Value} {n:Nat} {xs:List Value},w.ownsRow K.B 3 1 y n xs → (∀ k,sn.ownBlock = some k → y.ownBlock ≠ some k) → ∀ k,y.ownBlock = some k → nv.ownBlock ≠ some k:=fun {y n xs} ho hf k hk e => by
  rw [hno] at e
  cases e
  rcases hw with hw | hw
  ·exact hf _ hw hk
  ·have:=(own_lt ho _ hk).2.1
   simp at hw
   omega
 have hnew:(w4.setCell ⟨K.F,5,none⟩ nv).ownsRow K.B 3 1 nv (t.sends ++ [i]).length (nats (t.sends ++ [i])):=by
  rw [show (t.sends ++ [i]).length = t.sends.length + 1 by simp,show nats (t.sends ++ [i]) = nats t.sends ++ [.int .i64 (i:Int)] by simp]
  exact own_keep hown fun k hk => set k (fun e => by
   obtain ⟨_,_,cur',hc'⟩:=own_lt hown k hk
   rw [e,hF4] at hc'
   cases hc')
 have hord:=others h4.ordO (by decide) (fun k hk hk2 => by
  obtain ⟨_,_,cur,hc⟩:=own_lt hx k hk
  obtain ⟨_,_,cur',hc'⟩:=own_lt h4.ordO k hk2
  rw [hc] at hc'
  cases hc')
 have hy':=others hy (by decide) (fun k hk => (hxyz k hk).1)
 have hz':=others hz (by decide) (fun k hk => (hxyz k hk).2)
 have n1:=ny hy (fun k hk => (hxyz k hk).1)
 have n2:=ny hz (fun k hk => (hxyz k hk).2)
 have fr:=h4.far
 refine ⟨⟨?_,h.base,?_,h.nums,⟨ord,nv,rc,cl,hF5,hord,hnew,hy',hz',?_⟩,?_,h.once⟩,⟨hg4.os.trans hg2.os,hg4.tape.trans hg2.tape,hg4.output.trans hg2.output,?_,fun k hk hf => ?_⟩⟩
 ·refine h.grd.same fun b o hb => World.cell?_of_block (a:=⟨b,o,none⟩) ?_
  have hbase:=h.base
  have:=h4.lt
  exact all b (by omega) (by omega) (fun e => by have:=(own_lt hx b e).1; omega)
 ·exact h.mp.keep (all _ h.mp.lt (mapFar h.mp).1 (mapFar h.mp).2)
 ·intro k
  have f1:=fr k
  have m1:=n1 k
  have m2:=n2 k
  exact ⟨fun e => ⟨fun e2 => m1 e2 e,fun e2 => m2 e2 e⟩,f1.2⟩
 ·exact h.vars.keep (all _ h.vars.lt (mapFar h.vars).1 (mapFar h.vars).2)
 ·simp [World.setCell]; omega
 ·obtain ⟨f1,f2,f3⟩:=hf
  obtain ⟨f4,f5,f6,f7⟩:=f3 _ _ _ _ h4.blk
  refine ⟨all k hk f1 f5,f1,f2,fun o s r c ho => ?_⟩
  rw [hF5] at ho
  obtain ⟨rfl,rfl,rfl,rfl⟩:=obj_inj (Option.some.inj ho)
  have nk:nv.ownBlock ≠ some k:=fun e => by
   rw [hno] at e
   cases e
   rcases hw with hw | hw
   ·exact f5 hw
   ·simp at hw; omega
  exact ⟨f4,nk,f6,f7⟩
theorem obj_set6 {K:BK} {w:World} {o s r c:Value} (h:w.heap[K.F]? = some (K.obj o s r c)) (v:Value):(w.setCell ⟨K.F,6,none⟩ v).heap[K.F]? = some (K.obj o s v c):=by
 simp only [World.setCell,Array.getElem?_modify,if_true,h,Option.map_some]
 rfl
theorem talk6 {K:BK} {v:Vars} {t:Tk} {w w2 w4:World} {o2:Obj} {ord sn rc cl:Value} {g cap i:Nat} (h:BW K w v t) (h4:Rows4 K w v t ord sn rc cl) (hg2:w.grownBy w2 none) (hg4:(w2.alloc o2).grownBy w4 rc.ownBlock)
  (hown:w4.ownsRow K.B 3 1 (.slice (some ⟨g,0,none⟩) (t.recvs.length + 1) cap) (t.recvs.length + 1) (nats t.recvs ++ [.int .i64 (i:Int)])) (hw:rc.ownBlock = some g ∨ g = (w2.alloc o2).heap.size) :
  BW K (w4.setCell ⟨K.F,6,none⟩ (.slice (some ⟨g,0,none⟩) (t.recvs.length + 1) cap)) v ⟨t.sends,t.recvs ++ [i],t.calls⟩ ∧ Kpt K w (w4.setCell ⟨K.F,6,none⟩ (.slice (some ⟨g,0,none⟩) (t.recvs.length + 1) cap)):=by
 obtain ⟨nv,hnv⟩:∃ nv,nv = Value.slice (some ⟨g,0,none⟩) (t.recvs.length + 1) cap:=⟨_,rfl⟩
 have hno:nv.ownBlock = some g:=by rw [hnv]; rfl
 rw [← hnv] at hown ⊢
 obtain ⟨hx,hy,hz,hxyz⟩:w.ownsRow K.B 3 1 rc t.recvs.length (nats t.recvs) ∧ w.ownsRow K.B 3 1 sn t.sends.length (nats t.sends) ∧ w.ownsRow K.B 3 1 cl t.calls.length (nats t.calls) ∧ ∀ k,rc.ownBlock = some k → sn.ownBlock ≠ some k ∧ cl.ownBlock ≠ some k:=⟨h4.rcO,h4.snO,h4.clO,fun k hk => ⟨fun e => ((h4.far k).1 e).1 hk,(h4.far k).2 hk⟩⟩
 have hz2:=hg2.size
 have hz4:w2.heap.size + 1 ≤ w4.heap.size:=by simpa using hg4.size
 have hxF:rc.ownBlock ≠ some K.F:=fun e => by
  obtain ⟨_,_,cur,hc⟩:=own_lt hx _ e
  rw [h4.blk] at hc
  cases hc
 have blk:∀ k,k < w.heap.size → rc.ownBlock ≠ some k → w4.heap[k]? = w.heap[k]?:=fun k hk h2 =>
  ((hg4.block k (by simp; omega) (fun e => h2 e.symm)).trans (Below.heap_alloc _ _ _ (by omega))).trans (hg2.block k hk (by simp))
 have hF4:w4.heap[K.F]? = some (K.obj ord sn rc cl):=(blk _ h4.lt hxF).trans h4.blk
 have hF5:=obj_set6 hF4 nv
 have set:∀ k,k ≠ K.F → (w4.setCell ⟨K.F,6,none⟩ nv).heap[k]? = w4.heap[k]?:=fun k hk => Below.heap_setCell w4 ⟨K.F,6,none⟩ nv k hk
 have all:∀ k,k < w.heap.size → k ≠ K.F → rc.ownBlock ≠ some k → (w4.setCell ⟨K.F,6,none⟩ nv).heap[k]? = w.heap[k]?:=fun k hk h1 h3 => (set k h1).trans (blk k hk h3)
 have others:∀ {e:TypeId} {x:Value} {n:Nat} {xs:List Value},w.ownsRow K.B e 1 x n xs → e ≠ 105 → (∀ k,rc.ownBlock = some k → x.ownBlock ≠ some k) → (w4.setCell ⟨K.F,6,none⟩ nv).ownsRow K.B e 1 x n xs:=fun {e x n xs} ho he hf => own_keep ho fun k hk => by
  obtain ⟨_,hlt,cur,hc⟩:=own_lt ho k hk
  refine all k hlt (fun e' => ?_) (fun e' => hf k e' hk)
  rw [e',h4.blk] at hc
  simp at hc
  exact he hc.2.symm
 have mapFar:∀ {M:Nat} {R:Ms.Row},Ms.In w M R → M ≠ K.F ∧ rc.ownBlock ≠ some M:=fun {M R} hm => ⟨fun e => (In.far hm h4.blk) e.symm,fun e => by
  obtain ⟨_,_,cur',hc'⟩:=own_lt hx _ e
  exact (In.far hm hc') rfl⟩
 have ny:∀ {y:Value} {n:Nat} {xs:List Value},w.ownsRow K.B 3 1 y n xs → (∀ k,rc.ownBlock = some k → y.ownBlock ≠ some k) → ∀ k,y.ownBlock = some k → nv.ownBlock ≠ some k:=fun {y n xs} ho hf k hk e => by
  rw [hno] at e
  cases e
  rcases hw with hw | hw
  ·exact hf _ hw hk
  ·have:=(own_lt ho _ hk).2.1
   simp at hw
   omega
 have hnew:(w4.setCell ⟨K.F,6,none⟩ nv).ownsRow K.B 3 1 nv (t.recvs ++ [i]).length (nats (t.recvs ++ [i])):=by
  rw [show (t.recvs ++ [i]).length = t.recvs.length + 1 by simp,show nats (t.recvs ++ [i]) = nats t.recvs ++ [.int .i64 (i:Int)] by simp]
  exact own_keep hown fun k hk => set k (fun e => by
   obtain ⟨_,_,cur',hc'⟩:=own_lt hown k hk
   rw [e,hF4] at hc'
   cases hc')
 have hord:=others h4.ordO (by decide) (fun k hk hk2 => by
  obtain ⟨_,_,cur,hc⟩:=own_lt hx k hk
  obtain ⟨_,_,cur',hc'⟩:=own_lt h4.ordO k hk2
  rw [hc] at hc'
  cases hc')
 have hy':=others hy (by decide) (fun k hk => (hxyz k hk).1)
 have hz':=others hz (by decide) (fun k hk => (hxyz k hk).2)
 have n1:=ny hy (fun k hk => (hxyz k hk).1)
 have n2:=ny hz (fun k hk => (hxyz k hk).2)
 have fr:=h4.far
 refine ⟨⟨?_,h.base,?_,h.nums,⟨ord,sn,nv,cl,hF5,hord,hy',hnew,hz',?_⟩,?_,h.once⟩,⟨hg4.os.trans hg2.os,hg4.tape.trans hg2.tape,hg4.output.trans hg2.output,?_,fun k hk hf => ?_⟩⟩
 ·refine h.grd.same fun b o hb => World.cell?_of_block (a:=⟨b,o,none⟩) ?_
  have hbase:=h.base
  have:=h4.lt
  exact all b (by omega) (by omega) (fun e => by have:=(own_lt hx b e).1; omega)
 ·exact h.mp.keep (all _ h.mp.lt (mapFar h.mp).1 (mapFar h.mp).2)
 ·intro k
  have f1:=fr k
  have m1:=n1 k
  have m2:=n2 k
  exact ⟨fun e => ⟨m1 e,(f1.1 e).2⟩,fun e e2 => m2 e2 e⟩
 ·exact h.vars.keep (all _ h.vars.lt (mapFar h.vars).1 (mapFar h.vars).2)
 ·simp [World.setCell]; omega
 ·obtain ⟨f1,f2,f3⟩:=hf
  obtain ⟨f4,f5,f6,f7⟩:=f3 _ _ _ _ h4.blk
  refine ⟨all k hk f1 f6,f1,f2,fun o s r c ho => ?_⟩
  rw [hF5] at ho
  obtain ⟨rfl,rfl,rfl,rfl⟩:=obj_inj (Option.some.inj ho)
  have nk:nv.ownBlock ≠ some k:=fun e => by
   rw [hno] at e
   cases e
   rcases hw with hw | hw
   ·exact f6 hw
   ·simp at hw; omega
  exact ⟨f4,f5,nk,f7⟩
theorem obj_set7 {K:BK} {w:World} {o s r c:Value} (h:w.heap[K.F]? = some (K.obj o s r c)) (v:Value):(w.setCell ⟨K.F,7,none⟩ v).heap[K.F]? = some (K.obj o s r v):=by
 simp only [World.setCell,Array.getElem?_modify,if_true,h,Option.map_some]
 rfl
theorem talk7 {K:BK} {v:Vars} {t:Tk} {w w2 w4:World} {o2:Obj} {ord sn rc cl:Value} {g cap i:Nat} (h:BW K w v t) (h4:Rows4 K w v t ord sn rc cl) (hg2:w.grownBy w2 none) (hg4:(w2.alloc o2).grownBy w4 cl.ownBlock)
  (hown:w4.ownsRow K.B 3 1 (.slice (some ⟨g,0,none⟩) (t.calls.length + 1) cap) (t.calls.length + 1) (nats t.calls ++ [.int .i64 (i:Int)])) (hw:cl.ownBlock = some g ∨ g = (w2.alloc o2).heap.size) :
  BW K (w4.setCell ⟨K.F,7,none⟩ (.slice (some ⟨g,0,none⟩) (t.calls.length + 1) cap)) v ⟨t.sends,t.recvs,t.calls ++ [i]⟩ ∧ Kpt K w (w4.setCell ⟨K.F,7,none⟩ (.slice (some ⟨g,0,none⟩) (t.calls.length + 1) cap)):=by
 obtain ⟨nv,hnv⟩:∃ nv,nv = Value.slice (some ⟨g,0,none⟩) (t.calls.length + 1) cap:=⟨_,rfl⟩
 have hno:nv.ownBlock = some g:=by rw [hnv]; rfl
 rw [← hnv] at hown ⊢
 obtain ⟨hx,hy,hz,hxyz⟩:w.ownsRow K.B 3 1 cl t.calls.length (nats t.calls) ∧ w.ownsRow K.B 3 1 sn t.sends.length (nats t.sends) ∧ w.ownsRow K.B 3 1 rc t.recvs.length (nats t.recvs) ∧ ∀ k,cl.ownBlock = some k → sn.ownBlock ≠ some k ∧ rc.ownBlock ≠ some k:=⟨h4.clO,h4.snO,h4.rcO,fun k hk => ⟨fun e => ((h4.far k).1 e).2 hk,fun e => (h4.far k).2 e hk⟩⟩
 have hz2:=hg2.size
 have hz4:w2.heap.size + 1 ≤ w4.heap.size:=by simpa using hg4.size
 have hxF:cl.ownBlock ≠ some K.F:=fun e => by
  obtain ⟨_,_,cur,hc⟩:=own_lt hx _ e
  rw [h4.blk] at hc
  cases hc
 have blk:∀ k,k < w.heap.size → cl.ownBlock ≠ some k → w4.heap[k]? = w.heap[k]?:=fun k hk h2 =>
  ((hg4.block k (by simp; omega) (fun e => h2 e.symm)).trans (Below.heap_alloc _ _ _ (by omega))).trans (hg2.block k hk (by simp))
 have hF4:w4.heap[K.F]? = some (K.obj ord sn rc cl):=(blk _ h4.lt hxF).trans h4.blk
 have hF5:=obj_set7 hF4 nv
 have set:∀ k,k ≠ K.F → (w4.setCell ⟨K.F,7,none⟩ nv).heap[k]? = w4.heap[k]?:=fun k hk => Below.heap_setCell w4 ⟨K.F,7,none⟩ nv k hk
 have all:∀ k,k < w.heap.size → k ≠ K.F → cl.ownBlock ≠ some k → (w4.setCell ⟨K.F,7,none⟩ nv).heap[k]? = w.heap[k]?:=fun k hk h1 h3 => (set k h1).trans (blk k hk h3)
 have others:∀ {e:TypeId} {x:Value} {n:Nat} {xs:List Value},w.ownsRow K.B e 1 x n xs → e ≠ 105 → (∀ k,cl.ownBlock = some k → x.ownBlock ≠ some k) → (w4.setCell ⟨K.F,7,none⟩ nv).ownsRow K.B e 1 x n xs:=fun {e x n xs} ho he hf => own_keep ho fun k hk => by
  obtain ⟨_,hlt,cur,hc⟩:=own_lt ho k hk
  refine all k hlt (fun e' => ?_) (fun e' => hf k e' hk)
  rw [e',h4.blk] at hc
  simp at hc
  exact he hc.2.symm
 have mapFar:∀ {M:Nat} {R:Ms.Row},Ms.In w M R → M ≠ K.F ∧ cl.ownBlock ≠ some M:=fun {M R} hm => ⟨fun e => (In.far hm h4.blk) e.symm,fun e => by
  obtain ⟨_,_,cur',hc'⟩:=own_lt hx _ e
  exact (In.far hm hc') rfl⟩
 have ny:∀ {y:Value} {n:Nat} {xs:List Value},w.ownsRow K.B 3 1 y n xs → (∀ k,cl.ownBlock = some k → y.ownBlock ≠ some k) → ∀ k,y.ownBlock = some k → nv.ownBlock ≠ some k:=fun {y n xs} ho hf k hk e => by
  rw [hno] at e
  cases e
  rcases hw with hw | hw
  ·exact hf _ hw hk
  ·have:=(own_lt ho _ hk).2.1
   simp at hw
   omega
 have hnew:(w4.setCell ⟨K.F,7,none⟩ nv).ownsRow K.B 3 1 nv (t.calls ++ [i]).length (nats (t.calls ++ [i])):=by
  rw [show (t.calls ++ [i]).length = t.calls.length + 1 by simp,show nats (t.calls ++ [i]) = nats t.calls ++ [.int .i64 (i:Int)] by simp]
  exact own_keep hown fun k hk => set k (fun e => by
   obtain ⟨_,_,cur',hc'⟩:=own_lt hown k hk
   rw [e,hF4] at hc'
   cases hc')
 have hord:=others h4.ordO (by decide) (fun k hk hk2 => by
  obtain ⟨_,_,cur,hc⟩:=own_lt hx k hk
  obtain ⟨_,_,cur',hc'⟩:=own_lt h4.ordO k hk2
  rw [hc] at hc'
  cases hc')
 have hy':=others hy (by decide) (fun k hk => (hxyz k hk).1)
 have hz':=others hz (by decide) (fun k hk => (hxyz k hk).2)
 have n1:=ny hy (fun k hk => (hxyz k hk).1)
 have n2:=ny hz (fun k hk => (hxyz k hk).2)
 have fr:=h4.far
 refine ⟨⟨?_,h.base,?_,h.nums,⟨ord,sn,rc,nv,hF5,hord,hy',hz',hnew,?_⟩,?_,h.once⟩,⟨hg4.os.trans hg2.os,hg4.tape.trans hg2.tape,hg4.output.trans hg2.output,?_,fun k hk hf => ?_⟩⟩
 ·refine h.grd.same fun b o hb => World.cell?_of_block (a:=⟨b,o,none⟩) ?_
  have hbase:=h.base
  have:=h4.lt
  exact all b (by omega) (by omega) (fun e => by have:=(own_lt hx b e).1; omega)
 ·exact h.mp.keep (all _ h.mp.lt (mapFar h.mp).1 (mapFar h.mp).2)
 ·intro k
  have f1:=fr k
  have m1:=n1 k
  have m2:=n2 k
  exact ⟨fun e => ⟨(f1.1 e).1,m1 e⟩,fun e => m2 e⟩
 ·exact h.vars.keep (all _ h.vars.lt (mapFar h.vars).1 (mapFar h.vars).2)
 ·simp [World.setCell]; omega
 ·obtain ⟨f1,f2,f3⟩:=hf
  obtain ⟨f4,f5,f6,f7⟩:=f3 _ _ _ _ h4.blk
  refine ⟨all k hk f1 f7,f1,f2,fun o s r c ho => ?_⟩
  rw [hF5] at ho
  obtain ⟨rfl,rfl,rfl,rfl⟩:=obj_inj (Option.some.inj ho)
  have nk:nv.ownBlock ≠ some k:=fun e => by
   rw [hno] at e
   cases e
   rcases hw with hw | hw
   ·exact f7 hw
   ·simp at hw; omega
  exact ⟨f4,f5,f6,nk⟩
end Sm
end Go.Proofs.YtbioaoangfiijaaGreatDoor

/- The walks of naming and alike; what comes of a piece of a body. -/
import Derived.Test.YtpnljpdpobbiiaaGreatDoorM21
import Derived.Deep.RegionHeld3
set_option maxRecDepth 100000
set_option maxHeartbeats 1000000
namespace Go.Proofs.YtpnljpdpobbiiaaGreatDoor
open Go.RowKit
namespace Sm
def Bf (K:BK) (w:World) (v:Vars) (r:Except Int (Value × Vars × Tk)) (e:Ending) (w':World):Prop :=
 Kpt K w w' ∧ match r with
 | .ok x => e = .returned x.1 ∧ BW K w' x.2.1 x.2.2
 | .error er => e = .panicked [fltE er K.num] ∧ ∃ v' t',BW K w' v' t' ∧ v <+: v'
theorem grown_drewN {w w':World} (h:w.grownBy w' none) (n:Nat):w.grownBy (w'.drewN n) none:=⟨h.os,h.tape,h.output,h.size,h.block⟩
theorem BW.drewN {K:BK} {w:World} {v:Vars} {t:Tk} (h:BW K w v t) (n:Nat):BW K (w.drewN n) v t:=h.grown (grown_drewN (World.grownBy.refl _ _) n)
theorem Kpt.drewN {K:BK} {w w':World} (h:Kpt K w w') (n:Nat):Kpt K w (w'.drewN n):=⟨h.os,h.tape,h.output,h.size,h.block⟩
theorem Kpt.ofDrewN {K:BK} {w w':World} {n:Nat} (h:Kpt K (w.drewN n) w'):Kpt K w w':=⟨h.os,h.tape,h.output,h.size,h.block⟩
theorem BW.free {K:BK} {w W:World} {v:Vars} {t:Tk} (h:BW K w v t) (hg:w.grownBy W none) {k:Nat} (hk:w.heap.size ≤ k):Free K W k:=by
 obtain ⟨o,s,r,c,h4⟩:=h.rows
 have hF:=h4.lt
 have hT:=h.vars.lt
 refine ⟨by omega,by omega,fun o' s' r' c' hb => ?_⟩
 rw [hg.block _ hF (by simp),h4.blk] at hb
 obtain ⟨rfl,rfl,rfl,rfl⟩:=obj_inj (Option.some.inj hb)
 exact ⟨fun e => by have:=(own_lt h4.ordO k e).2.1; omega,fun e => by have:=(own_lt h4.snO k e).2.1; omega,fun e => by have:=(own_lt h4.rcO k e).2.1; omega,fun e => by have:=(own_lt h4.clO k e).2.1; omega⟩
theorem Bf.bad {K:BK} {w w':World} {v:Vars} {t:Tk} {r:Except Int (Value × Vars × Tk)} {er:Int} (h:BW K w v t) (hg:w.grownBy w' none) (hr:r = .error er):Bf K w v r (.panicked [fltE er K.num]) w':=by
 rw [hr]
 exact ⟨Kpt.grown hg h.lt,rfl,v,t,h.grown hg,List.prefix_refl _⟩
theorem Bf.good {K:BK} {w w':World} {v:Vars} {t:Tk} {r:Except Int (Value × Vars × Tk)} {x:Value} (h:BW K w v t) (hg:w.grownBy w' none) (hr:r = .ok (x,v,t)):Bf K w v r (.returned x) w':=by
 rw [hr]
 exact ⟨Kpt.grown hg h.lt,rfl,h.grown hg⟩
theorem naming_any (K:BK) (v:Vars) (t:Tk) (name:ByteArray) (ty:Sy.Ty) (w:World) (r:Except Int (Value × Vars × Tk)) (h:Hid (BW K w v t)) (hn:v.length ≤ 100000) (hr:Hid (r = if (Sm.look v name).isSome = true then .error 7 else .ok (.tuple #[],v ++ [(name,ty)],t))) :
  Calls Tryz.prog 98 #[.pointer (some ⟨K.F,0,none⟩),.string name,tyV ty] w fun e w' => Bf K w v r e w':=by
 obtain ⟨o,s,rr,cc,h4⟩:=h.out.rows
 have hF:=h4.lt
 obtain ⟨tk,tg⟩:=ty
 have hz:∀ w',(zeroValue 31).run Tryz.prog w' = .ok (tyV ⟨0,⟨#[]⟩⟩) w':=fun w' => by kernel_rfl
 obtain ⟨W,hW⟩:∃ W,W = w.alloc (.cells #[.int .i64 tk,.string tg] 31):=⟨_,rfl⟩
 have hWg:w.grownBy W none:=by rw [hW]; exact grown_a _
 have hWs:W.heap.size = w.heap.size + 1:=by rw [hW]; simp
 have hL:=(Ms.run_lookup Tryz.underlying85 Tryz.underlying9 (k:=name) (h.out.vars.grow hWg) (hz W)).2
 rw [val_look] at hL
 obtain ⟨c0,c1,c2,c3,_⟩:=bd_cells ((hWg.block _ hF (by simp)).trans h4.blk)
 cases hk:Sm.look v name with
 | some y =>
  have HR:Hid (r = .error 7):=by unfold Hid; rw [hr.out,hk]; rfl
  rw [hk] at hL
  simp only [Option.map_some,Option.getD_some,Option.isSome_some] at hL
  have k:∀ o:Nat,(W.alloc (.cells #[.int .i64 y.kind,.string y.gen] 31)).cell? ⟨K.F,o,none⟩ = W.cell? ⟨K.F,o,none⟩:=fun o => World.cell?_of_block (Below.heap_alloc _ _ _ (by dsimp; omega))
  have d0:=(k 0).trans c0
  have d1:=(k 1).trans c1
  have d2:=(k 2).trans c2
  subst hW
  clear hr hk hz h4 k hWg hWs
  go_enter Tryz.func98,Tryz.ntmps98
  go_wp2_with fail
  refine (fail_any K.l.length K.a K.c K.M K.num 7 _).mono ?_
  rintro e w1 ⟨rfl,hg⟩
  have HE:Hid (Bf K w v r (.panicked [fltE 7 K.num]) w1):=Bf.bad h.out (grown_trans (grown_a2 _ _) hg) HR.out
  clear hg
  go_wp2
  exact ⟨rfl,HE.out⟩
 | none =>
  have HR:Hid (r = .ok (.tuple #[],v ++ [(name,⟨tk,tg⟩)],t)):=by unfold Hid; rw [hr.out,hk]; rfl
  have HL:Hid (Sm.look v name = none):=hk
  rw [hk] at hL
  simp only [Option.map_none,Option.getD_none,Option.isSome_none] at hL
  obtain ⟨W2,hW2⟩:∃ W2,W2 = W.alloc (.cells #[.int .i64 0,.string ⟨#[]⟩] 31):=⟨_,rfl⟩
  have hg2:w.grownBy W2 none:=by rw [hW2]; exact grown_trans hWg (grown_a _)
  have HB2:Hid (BW K W2 v t):=h.out.grown hg2
  have HK2:Hid (Kpt K w W2):=Kpt.grown hg2 hF
  have hbl:W2.heap[w.heap.size]? = some (.cells #[.int .i64 tk,.string tg] 31 (0,0)):=by rw [hW2,hW]; exact (Below.heap_alloc _ _ _ (by simp)).trans (heap_alloc_new w _)
  obtain ⟨b0,b1,_,_⟩:=two_cell hbl
  have HFr:Hid (Free K W2 w.heap.size):=h.out.free hg2 (Nat.le_refl _)
  have hs2:w.heap.size < W2.heap.size:=lt_of_block hbl
  have HBl:Hid (W2.heap[w.heap.size]? = some (.cells #[.int .i64 tk,.string tg] 31 (0,0))):=hbl
  subst hW
  have HW2:Hid (W2 = _):=hW2
  clear hr hk hz h4 hWg hWs hg2 hW2 hbl
  go_enter Tryz.func98,Tryz.ntmps98
  go_wp2_with fail
  rw [← HW2.out]
  clear hL c0 c1 c2 c3
  go_region_held3 (fun w' => w'.cell? ⟨w.heap.size,0,none⟩ = some (.int .i64 tk) ∧ w'.cell? ⟨w.heap.size,1,none⟩ = some (.string tg)) (go_keep) ((go_at_call 57; refine (let_any K v t name ⟨tk,tg⟩ _ (by exact HB2.out.drewN _) HL hn).mono ?_; rintro e w3 ⟨rfl,hb3,hk3⟩; have HE:Hid (Bf K w v r (.returned (.tuple #[])) w3):=(by rw [HR.out]; exact ⟨HK2.out.trans hk3.ofDrewN,rfl,hb3⟩); obtain ⟨e0,e1,_,_⟩:=two_cell (((hk3.ofDrewN.block _ hs2 HFr.out).1).trans HBl.out); clear hb3 hk3))
  go_wp2
  go_end0
  exact HE.out
end Sm
namespace Sm
theorem two_of {W w3:World} {k:Nat} {v0 v1:Value} {t:TypeId} (hb:W.heap[k]? = some (.cells #[v0,v1] t (0,0))) (hg:W.grownBy w3 none):w3.heap[k]? = some (.cells #[v0,v1] t (0,0)):=(hg.block _ (lt_of_block hb) (by simp)).trans hb
theorem alike_any (K:BK) (v:Vars) (t:Tk) (a b:Sy.Ty) (w:World) (r:Except Int Value) (h:Hid (BW K w v t)) (hr:Hid (r = match Sm.plain a with | .error e => .error e | .ok _ => if Sm.same a b = true then .ok (.tuple #[]) else .error 9)) :
  Calls Tryz.prog 112 #[.pointer (some ⟨K.F,0,none⟩),tyV a,tyV b] w fun e w' => Fe K.num r w e w':=by
 obtain ⟨o,s,rr,cc,h4⟩:=h.out.rows
 have hF:=h4.lt
 obtain ⟨ak,ag⟩:=a
 obtain ⟨bk,bg⟩:=b
 obtain ⟨W,hW⟩:∃ W,W = (w.alloc (.cells #[.int .i64 ak,.string ag] 31)).alloc (.cells #[.int .i64 bk,.string bg] 31):=⟨_,rfl⟩
 have hWg:w.grownBy W none:=by rw [hW]; exact grown_a2 _ _
 have ha:W.heap[w.heap.size]? = some (.cells #[.int .i64 ak,.string ag] 31 (0,0)):=by rw [hW]; exact (Below.heap_alloc _ _ _ (by simp)).trans (heap_alloc_new w _)
 have hb:W.heap[w.heap.size + 1]? = some (.cells #[.int .i64 bk,.string bg] 31 (0,0)):=by rw [hW]; have:=heap_alloc_new (w.alloc (.cells #[.int .i64 ak,.string ag] 31)) (.cells #[.int .i64 bk,.string bg] 31); simpa using this
 have hf:W.heap[K.F]? = some (K.obj o s rr cc):=(hWg.block _ hF (by simp)).trans h4.blk
 obtain ⟨c0,c1,c2,_⟩:=bd_cells hf
 obtain ⟨a0,a1,_,_⟩:=two_cell ha
 have HA:Hid (W.heap[w.heap.size]? = some (.cells #[.int .i64 ak,.string ag] 31 (0,0))):=ha
 have HB:Hid (W.heap[w.heap.size + 1]? = some (.cells #[.int .i64 bk,.string bg] 31 (0,0))):=hb
 have HF:Hid (W.heap[K.F]? = some (K.obj o s rr cc)):=hf
 have HG:Hid (w.grownBy W none):=hWg
 have HW:Hid (W = _):=hW
 have hFW:K.F < W.heap.size:=lt_of_block hf
 clear ha hb hf hWg h4 hW
 have HS:Hid (∀ w3,W.grownBy w3 none → (w3.cell? ⟨K.F,0,none⟩ = some (.slice K.a K.l.length K.c) ∧ w3.cell? ⟨K.F,1,none⟩ = some (.map (some K.M)) ∧ w3.cell? ⟨K.F,2,none⟩ = some (.int .i64 K.num) ∧ w3.cell? ⟨w.heap.size,0,none⟩ = some (.int .i64 ak) ∧ w3.cell? ⟨w.heap.size,1,none⟩ = some (.string ag))):=fun w3 hg => by
  obtain ⟨e0,e1,_,_⟩:=two_cell (two_of HA.out hg)
  obtain ⟨f0,f1,f2,_⟩:=bd_cells ((hg.block _ hFW (by simp)).trans HF.out)
  exact ⟨f0,f1,f2,e0,e1⟩
 obtain ⟨pr,hpr⟩:∃ pr,pr = (match Sm.plain ⟨ak,ag⟩ with | .ok _ => .ok (.tuple #[]) | .error e => .error e:Except Int Value):=⟨_,rfl⟩
 have HP:Hid (pr = match Sm.plain ⟨ak,ag⟩ with | .ok _ => .ok (.tuple #[]) | .error e => .error e):=hpr
 obtain ⟨sb,hsb⟩:∃ sb,sb = Sm.same ⟨ak,ag⟩ ⟨bk,bg⟩:=⟨_,rfl⟩
 have HSB:Hid (sb = Sm.same ⟨ak,ag⟩ ⟨bk,bg⟩):=hsb
 have HR:Hid (r = andThen pr (fun _ => if sb = true then .ok (.tuple #[]) else .error 9)):=by
  unfold Hid
  rw [hr.out,hpr,hsb]
  cases Sm.plain ⟨ak,ag⟩ <;> rfl
 clear hr hpr hsb
 go_enter Tryz.func112,Tryz.ntmps112
 go_wp2_with fail
 rw [← HW.out]
 refine wp_region_held_drew (S:=fun w' => w'.cell? ⟨K.F,0,none⟩ = some (.slice K.a K.l.length K.c) ∧ w'.cell? ⟨K.F,1,none⟩ = some (.map (some K.M)) ∧ w'.cell? ⟨K.F,2,none⟩ = some (.int .i64 K.num) ∧ w'.cell? ⟨w.heap.size,0,none⟩ = some (.int .i64 ak) ∧ w'.cell? ⟨w.heap.size,1,none⟩ = some (.string ag)) (by kernel_rfl) ⟨c0,c1,c2,a0,a1⟩ (fun hHeld => ?_)
 refine wpAnyH_take (i:=0) (oi:=_) (v:=?_) rfl (by kernel_rfl) (by kernel_rfl) (by kernel_rfl) (fun _ _ _ h => h) (Or.inl ⟨by rfl,?_⟩) (by assumption) ?_
 rotate_left
 ·intro w hSw
  (try dsimp only at hSw)
  go_simp
  (try with_reducible rfl)
 (try go_frame)
 refine wpAnyH_take (i:=1) (oi:=_) (v:=?_) rfl (by kernel_rfl) (by kernel_rfl) (by kernel_rfl) (fun _ _ _ h => h) (Or.inl ⟨by rfl,?_⟩) (by assumption) ?_
 rotate_left
 ·intro w hSw
  (try dsimp only at hSw)
  go_simp
  (try with_reducible rfl)
 (try go_frame)
 refine wpAnyH_take (i:=2) (oi:=_) (v:=?_) rfl (by kernel_rfl) (by kernel_rfl) (by kernel_rfl) (fun _ _ _ h => h) (Or.inl ⟨by rfl,?_⟩) (by assumption) ?_
 rotate_left
 ·intro w hSw
  (try dsimp only at hSw)
  go_simp
  (try with_reducible rfl)
 (try go_frame)
 refine wpAnyH_take (i:=3) (oi:=_) (v:=?_) rfl (by kernel_rfl) (by kernel_rfl) (by kernel_rfl) (fun _ _ _ h => h) (Or.inl ⟨by rfl,?_⟩) (by assumption) ?_
 rotate_left
 ·intro w hSw
  (try dsimp only at hSw)
  go_simp
  (try with_reducible rfl)
 (try go_frame)
 refine wpAnyH_take (i:=4) (oi:=_) (v:=?_) rfl (by kernel_rfl) (by kernel_rfl) (by kernel_rfl) (fun _ _ _ h => h) (Or.inl ⟨by rfl,?_⟩) (by assumption) ?_
 rotate_left
 ·intro w hSw
  (try dsimp only at hSw)
  go_simp
  (try with_reducible rfl)
 (try go_frame)
 refine wpAnyH_ready (rs:=[5]) (by kernel_rfl) (by simp) ?_
 refine AllReadyH.cons (o:=_) rfl (fun K' hK => ?_) AllReadyH.nil
 go_simp
 refine (plain_any K.l.length K.a K.c K.M K.num ⟨ak,ag⟩ _ pr HP).mono ?_
 rintro e w3 ⟨hg3',he3⟩
 have HG3:Hid (W.grownBy w3 none):=⟨hg3'.os,hg3'.tape,hg3'.output,hg3'.size,hg3'.block⟩
 cases pr with
 | error er =>
  subst he3
  clear hK hg3'
  go_wp2
  exact ⟨rfl,grown_trans HG.out HG3.out,by rw [HR.out]; rfl⟩
 | ok x =>
  have hx:x = .tuple #[]:=by
   have:=HP.out
   cases hq:Sm.plain ⟨ak,ag⟩ with
   | ok u => rw [hq] at this; cases this; rfl
   | error u => rw [hq] at this; cases this
  subst hx
  subst he3
  obtain ⟨e0,e1,_,_⟩:=two_cell (two_of HA.out HG3.out)
  obtain ⟨e2,e3,_,_⟩:=two_cell (two_of HB.out HG3.out)
  refine hK.out _ _ (HS.out w3 HG3.out) (fun hHeld => ?_)
  clear hK hg3' c0 c1 c2 a0 a1
  refine wpAnyH_done (by kernel_rfl) ?_ _
  go_wp2_with fail
  refine (same_any ⟨ak,ag⟩ ⟨bk,bg⟩ _ sb HSB).mono ?_
  rintro e w4 ⟨rfl,hg4⟩
  have HG4:Hid (W.grownBy w4 none):=grown_trans HG3.out hg4
  obtain ⟨f0,f1,f2,_⟩:=bd_cells ((HG4.out.block _ hFW (by simp)).trans HF.out)
  clear hg4 e0 e1 e2 e3
  cases sb with
  | true =>
   go_wp2
   go_end0
   exact ⟨grown_trans HG.out HG4.out,by rw [HR.out]; rfl⟩
  | false =>
   go_wp2_with fail
   refine (fail_any K.l.length K.a K.c K.M K.num 9 _).mono ?_
   rintro e w5 ⟨rfl,hg5⟩
   have HE:Hid (Fe K.num r w (.panicked [fltE 9 K.num]) w5):=(by rw [HR.out]; exact ⟨grown_trans HG.out (grown_trans HG4.out hg5),rfl⟩)
   clear hg5
   go_wp2
   exact ⟨rfl,HE.out⟩
end Sm
end Go.Proofs.YtpnljpdpobbiiaaGreatDoor

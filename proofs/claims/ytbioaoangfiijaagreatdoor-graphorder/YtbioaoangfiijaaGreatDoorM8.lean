/- The walk of must,given that of expr one level below. -/
import Derived.Test.YtbioaoangfiijaaGreatDoorM7
set_option maxRecDepth 100000
set_option maxHeartbeats 2000000
namespace Go.Proofs.YtbioaoangfiijaaGreatDoor
open Go.RowKit
namespace Sm
def TkLe (t:Tk) (n:Nat):Prop:=t.sends.length ≤ n ∧ t.recvs.length ≤ n ∧ t.calls.length ≤ n
def CEx (K:BK) (v:Vars) (d:Nat) (ex:Sy.Ex → Tk → Except Int (Sy.Ty × Tk)):Prop :=
 ∀ (x:Sy.Ex) (xa:Option Addr) (xc:Nat) (t:Tk) (n m:Nat) (w:World) (r:Except Int (Value × Vars × Tk)),Hid (BW K w v t) → Hid (∃ h,ExIn K.B w h x xa) → Hid (Sy.exW d x n = .ok m) → Hid (TkLe t n) → n ≤ 2000 →
  Hid (r = andThen (ex x t) fun p => .ok (tyV p.1,v,p.2)) → Calls Tryz.prog 106 #[.pointer (some ⟨K.F,0,none⟩),exV x xa xc] w fun e w' => Bf K w v r e w'
def KsAt (K:BK) (w:World) (ks:List Sy.Ex) (a:Option Addr):Prop :=
 ∀ i k,ks[i]? = some k → ∃ b off a' c',a = some ⟨b,off,none⟩ ∧ b < w.heap.size ∧ Free K w b ∧ w.cell? ⟨b,off + i * 4,none⟩ = some (.int .i64 k.kind) ∧ w.cell? ⟨b,off + i * 4 + 1,none⟩ = some (.int .i64 k.n) ∧ w.cell? ⟨b,off + i * 4 + 2,none⟩ = some (.string k.name) ∧
  w.cell? ⟨b,off + i * 4 + 3,none⟩ = some (.slice a' k.kids.length c') ∧ ∃ h,ExIn K.B w h k a'
theorem BW.low {K:BK} {w:World} {v:Vars} {t:Tk} (h:BW K w v t) {b:Nat} (hb:b < K.B):Free K w b:=by
 obtain ⟨o,s,r,c,h4⟩:=h.rows
 have hB:=h.base
 refine ⟨by omega,by omega,fun o' s' r' c' hb' => ?_⟩
 rw [h4.blk] at hb'
 obtain ⟨rfl,rfl,rfl,rfl⟩:=obj_inj (Option.some.inj hb')
 exact ⟨fun e => by have:=(own_lt h4.ordO b e).1; omega,fun e => by have:=(own_lt h4.snO b e).1; omega,fun e => by have:=(own_lt h4.rcO b e).1; omega,fun e => by have:=(own_lt h4.clO b e).1; omega⟩
theorem BW.same {K:BK} {w w':World} {v:Vars} {t:Tk} (h:BW K w v t) (hk:Kpt K w w'):Same K.B w w':=fun b o hb =>
 World.cell?_of_block (a:=⟨b,o,none⟩) (hk.block b (by have:=h.base; have:=h.lt; omega) (h.low hb)).1
theorem KsAt.kept {K:BK} {w w':World} {v:Vars} {t:Tk} {ks:List Sy.Ex} {a:Option Addr} (h:KsAt K w ks a) (hb:BW K w v t) (hk:Kpt K w w'):KsAt K w' ks a:=fun i k hi => by
 obtain ⟨b,off,a',c',e,hlt,hf,k0,k1,k2,k3,hx,hE⟩:=h i k hi
 obtain ⟨e1,e2⟩:=hk.block b hlt hf
 have c:∀ o,w'.cell? ⟨b,o,none⟩ = w.cell? ⟨b,o,none⟩:=fun o => World.cell?_of_block (a:=⟨b,o,none⟩) e1
 exact ⟨b,off,a',c',e,by have:=hk.size; omega,e2,(c _).trans k0,(c _).trans k1,(c _).trans k2,(c _).trans k3,hx,hE.same (hb.same hk)⟩
theorem Kpt.alloc (K:BK) (w:World) (o:Obj) (hF:K.F < w.heap.size):Kpt K w (w.alloc o):=Kpt.grown (grown_a o) hF
theorem Kpt.drew {K:BK} {w w':World} (h:Kpt K w w'):Kpt K w w'.drew:=⟨h.os,h.tape,h.output,h.size,h.block⟩
theorem Kpt.ofDrew {K:BK} {w w':World} (h:Kpt K w.drew w'):Kpt K w w':=⟨h.os,h.tape,h.output,h.size,h.block⟩
theorem BW.drew {K:BK} {w:World} {v:Vars} {t:Tk} (h:BW K w v t):BW K w.drew v t:=h.grown ⟨rfl,rfl,rfl,Nat.le_refl _,fun _ _ _ => rfl⟩
theorem four_cell {w:World} {b:Nat} {v0 v1 v2 v3:Value} {t:TypeId} (h:w.heap[b]? = some (.cells #[v0,v1,v2,v3] t (0,0))) :
  w.cell? ⟨b,0,none⟩ = some v0 ∧ w.cell? ⟨b,1,none⟩ = some v1 ∧ w.cell? ⟨b,2,none⟩ = some v2 ∧ w.cell? ⟨b,3,none⟩ = some v3:=by simp [World.cell?,h]
theorem must_any (K:BK) (v:Vars) (d:Nat) (ex:Sy.Ex → Tk → Except Int (Sy.Ty × Tk)) (hC:Hid (CEx K v d ex)) (hle:Hid (∀ x t n m y t',Sy.exW d x n = .ok m → TkLe t n → ex x t = .ok (y,t') → TkLe t' m))
  (ks:List Sy.Ex) (a:Option Addr) (c:Nat) (wt:Sy.Ty) (t:Tk) (n m:Nat) (w:World) (r:Except Int (Value × Vars × Tk)) (h:Hid (BW K w v t)) (hk:Hid (KsAt K w ks a)) (hl:ks.length ≤ 9223372036854775807) (hn:Hid (Sy.runs (Sy.exW d) ks n = .ok m)) (ht:Hid (TkLe t n)) (h2:n ≤ 2000)
  (hr:Hid (r = andThen (must ex wt ks t) fun t => .ok (.tuple #[],v,t))) :
  Calls Tryz.prog 107 #[.pointer (some ⟨K.F,0,none⟩),tyV wt,.slice a ks.length c] w fun e w' => Bf K w v r e w':=by
 obtain ⟨wk,wg⟩:=wt
 have hF:=h.out.lt
 obtain ⟨W0,hW0⟩:∃ W0,W0 = w.alloc (.cells #[.int .i64 wk,.string wg] 35):=⟨_,rfl⟩
 have HK0:Hid (Kpt K w W0):=by rw [hW0]; exact Kpt.alloc K w _ hF
 have HB0:Hid (BW K W0 v t):=by rw [hW0]; exact h.out.grown (grown_a _)
 have HKs0:Hid (KsAt K W0 ks a):=hk.out.kept h.out HK0.out
 have HP0:Hid (W0.heap[w.heap.size]? = some (.cells #[.int .i64 wk,.string wg] 35 (0,0)) ∧ Free K W0 w.heap.size):=by rw [hW0]; exact ⟨heap_alloc_new w _,h.out.free (grown_a _) (Nat.le_refl _)⟩
 have hs0:w.heap.size < W0.heap.size:=lt_of_block HP0.out.1
 obtain ⟨P,hP⟩:∃ P,P = w.heap.size:=⟨_,rfl⟩
 have HP:Hid (P = w.heap.size):=hP
 have HW0:Hid (W0 = _):=hW0
 clear hP hW0
 go_enter Tryz.func107,Tryz.ntmps107
 go_wp2
 rw [← HW0.out,← HP.out]
 rw [← HP.out] at HP0 hs0
 go_loopw [10] (fun i wr => ∃ (j:Nat) (t':Tk) (n':Nat),i = .int .i64 j ∧ j ≤ ks.length ∧ n' ≤ 2000 ∧ Hid (BW K wr v t') ∧ Hid (Kpt K W0 wr) ∧ Hid (TkLe t' n') ∧ Hid (Sy.runs (Sy.exW d) (ks.drop j) n' = .ok m) ∧ Hid (r = andThen (must ex ⟨wk,wg⟩ (ks.drop j) t') fun t => .ok (.tuple #[],v,t))) (fun i _ => ks.length - (intOf i).toNat)
 case atStart => exact ⟨0,t,n,rfl,Nat.zero_le _,h2,HB0,Kpt.refl _ _,ht,by rw [List.drop_zero]; exact hn,by rw [List.drop_zero]; exact hr⟩
 case round =>
  obtain ⟨j,t',n',rfl,hj,hn2,HB,HK,HT,HN,HR⟩:=hrel
  by_cases hlt:j < ks.length
  ·obtain ⟨k,hkj⟩:∃ k,ks[j]? = some k:=⟨_,List.getElem?_eq_getElem hlt⟩
   obtain ⟨b,off,a',c',rfl,hbl,hbf,k0,k1,k2,k3,hx⟩:=(HKs0.out.kept HB0.out HK.out) j k hkj
   have hdr:ks.drop j = k :: ks.drop (j + 1):=by
    have:=List.drop_eq_getElem_cons hlt
    rw [this,(List.getElem?_eq_some_iff.1 hkj).2]
   obtain ⟨n1,hx1,hn1⟩:∃ n1,Sy.exW d k n' = .ok n1 ∧ Sy.runs (Sy.exW d) (ks.drop (j + 1)) n1 = .ok m:=by
    have:=HN.out
    rw [hdr,Sy.runs] at this
    cases hq:Sy.exW d k n' with
    | error e => rw [hq] at this; cases this
    | ok n1 => rw [hq] at this; exact ⟨n1,rfl,this⟩
   have hn12:n1 ≤ 2000:=Sy.exW_le d k n' n1 hn2 hx1
   obtain ⟨er,her⟩:∃ er,er = ex k t':=⟨_,rfl⟩
   have HEr:Hid (er = ex k t'):=her
   have HRr:Hid (r = andThen er fun p => if Sm.same p.1 ⟨wk,wg⟩ = true then andThen (must ex ⟨wk,wg⟩ (ks.drop (j + 1)) p.2) (fun t => .ok (.tuple #[],v,t)) else .error 9):=by
    unfold Hid
    rw [HR.out,hdr,must,her]
    cases ex k t' with
    | error e => rfl
    | ok p =>
     rw [andThen_ok,andThen_ok]
     by_cases hs:Sm.same p.1 ⟨wk,wg⟩ = true
     ·rw [if_pos hs,if_pos hs]
     ·rw [if_neg hs,if_neg hs]
      rfl
   have HX1:Hid (Sy.exW d k n' = .ok n1):=hx1
   have HN1:Hid (Sy.runs (Sy.exW d) (ks.drop (j + 1)) n1 = .ok m):=hn1
   obtain ⟨W1,hW1⟩:∃ W1,W1 = wr.alloc (.cells #[.int .i64 k.kind,.int .i64 k.n,.string k.name,.slice a' k.kids.length c'] 137):=⟨_,rfl⟩
   have hFr:=HB.out.lt
   have HK1:Hid (Kpt K wr W1):=by rw [hW1]; exact Kpt.alloc K wr _ hFr
   have HB1:Hid (BW K W1 v t'):=by rw [hW1]; exact HB.out.grown (grown_a _)
   have HX:Hid (W1.heap[wr.heap.size]? = some (.cells #[.int .i64 k.kind,.int .i64 k.n,.string k.name,.slice a' k.kids.length c'] 137 (0,0)) ∧ Free K W1 wr.heap.size):=by rw [hW1]; exact ⟨heap_alloc_new wr _,HB.out.free (grown_a _) (Nat.le_refl _)⟩
   have HPr:=HK.out.block P hs0 HP0.out.2
   have hPr:P < wr.heap.size:=by have:=HK.out.size; omega
   have HP1:Hid (W1.heap[P]? = some (.cells #[.int .i64 wk,.string wg] 35 (0,0)) ∧ Free K W1 P):=by
    obtain ⟨q1,q2⟩:=HK1.out.block P hPr HPr.2
    exact ⟨q1.trans (HPr.1.trans HP0.out.1),q2⟩
   have HE1:Hid (∃ h,ExIn K.B W1 h k a'):=by
    obtain ⟨hh,hE⟩:=hx
    exact ⟨hh,hE.same (HB.out.same HK1.out)⟩
   have HS:Hid (∀ w3,Kpt K W1 w3 → (w3.cell? ⟨wr.heap.size,0,none⟩ = some (.int .i64 k.kind) ∧ w3.cell? ⟨wr.heap.size,1,none⟩ = some (.int .i64 k.n) ∧ w3.cell? ⟨wr.heap.size,2,none⟩ = some (.string k.name) ∧ w3.cell? ⟨wr.heap.size,3,none⟩ = some (.slice a' k.kids.length c') ∧ w3.cell? ⟨P,0,none⟩ = some (.int .i64 wk) ∧ w3.cell? ⟨P,1,none⟩ = some (.string wg))):=fun w3 hk3 => by
    obtain ⟨x0,x1,x2,x3⟩:=four_cell ((hk3.block _ (lt_of_block HX.out.1) HX.out.2).1.trans HX.out.1)
    obtain ⟨y0,y1,_,_⟩:=two_cell ((hk3.block _ (lt_of_block HP1.out.1) HP1.out.2).1.trans HP1.out.1)
    exact ⟨x0,x1,x2,x3,y0,y1⟩
   have HW1:Hid (W1 = _):=hW1
   obtain ⟨kk,hkk⟩:∃ kk,kk = k.kids.length:=⟨_,rfl⟩
   clear hdr hx1 hn1 her hW1 HPr hx hbf
   go_wp2_with fail
   rw [← HW1.out]
   refine wp_region_held_drew (S:=fun w' => w'.cell? ⟨wr.heap.size,0,none⟩ = some (.int .i64 k.kind) ∧ w'.cell? ⟨wr.heap.size,1,none⟩ = some (.int .i64 k.n) ∧ w'.cell? ⟨wr.heap.size,2,none⟩ = some (.string k.name) ∧ w'.cell? ⟨wr.heap.size,3,none⟩ = some (.slice a' k.kids.length c') ∧ w'.cell? ⟨P,0,none⟩ = some (.int .i64 wk) ∧ w'.cell? ⟨P,1,none⟩ = some (.string wg)) (by kernel_rfl) (HS.out _ (Kpt.refl K W1).drew) (fun hHeld => ?_)
   refine tk 0 (v:=?_) rfl ?_ (by assumption) ?_
   rotate_left
   ·intro w hSw
    (try dsimp only at hSw)
    go_simp
    (try with_reducible rfl)
   (try go_frame)
   refine tk 1 (v:=?_) rfl ?_ (by assumption) ?_
   rotate_left
   ·intro w hSw
    (try dsimp only at hSw)
    go_simp
    (try with_reducible rfl)
   (try go_frame)
   refine tk 3 (v:=?_) rfl ?_ (by assumption) ?_
   rotate_left
   ·intro w hSw
    (try dsimp only at hSw)
    go_simp
    (try with_reducible rfl)
   (try go_frame)
   refine wpAnyH_ready (rs:=[2]) (by kernel_rfl) (by simp) ?_
   refine AllReadyH.cons (o:=_) rfl (fun K' hK => ?_) AllReadyH.nil
   go_simp
   refine (hC.out k a' c' t' n' n1 W1.drew _ (by exact HB1.out.drew) (by obtain ⟨hh,hE⟩:=HE1.out; exact ⟨hh,ExIn.same (w:=W1) (w':=W1.drew) (fun _ _ _ => rfl) _ _ _ hE⟩) HX1 HT hn2 (by rw [← HEr.out]; exact rfl)).mono ?_
   rintro e w2 ⟨hk2',he2⟩
   have HK2:Hid (Kpt K W1 w2):=hk2'.ofDrew
   cases er with
   | error x =>
    obtain ⟨rfl,v2,t2,hb2,hp2⟩:=he2
    have HE:Hid (Bf K w v r (.panicked [fltE x K.num]) w2):=by
     rw [HRr.out]
     exact ⟨((HK0.out.trans HK.out).trans HK1.out).trans HK2.out,rfl,v2,t2,hb2,hp2⟩
    clear hK hk2' hb2 hp2
    go_wp2
    exact ⟨rfl,HE.out⟩
   | ok p =>
    obtain ⟨rfl,hb2⟩:=he2
    have HB2:Hid (BW K w2 v p.2):=hb2
    refine hK.out _ _ (HS.out w2 HK2.out) (fun hHeld => ?_)
    clear hK hk2' hb2
    obtain ⟨py,pt⟩:=p
    have HTL:Hid (TkLe pt n1):=hle.out k t' n' n1 py pt HX1.out HT.out HEr.out.symm
    obtain ⟨sb,hsb⟩:∃ sb,sb = Sm.same py ⟨wk,wg⟩:=⟨_,rfl⟩
    have HSB:Hid (sb = Sm.same py ⟨wk,wg⟩):=hsb
    have HRs:Hid (r = if sb = true then andThen (must ex ⟨wk,wg⟩ (ks.drop (j + 1)) pt) (fun t => .ok (.tuple #[],v,t)) else .error 9):=by
     unfold Hid
     rw [HRr.out,hsb]
     rfl
    clear hsb
    refine wpAnyH_ready (rs:=[4]) (by kernel_rfl) (by simp) ?_
    refine AllReadyH.cons (o:=_) rfl (fun K' hK => ?_) AllReadyH.nil
    go_simp
    refine (same_any py ⟨wk,wg⟩ _ sb HSB).mono ?_
    rintro e w3 ⟨rfl,hg3⟩
    have HB3:Hid (BW K w3 v pt):=HB2.out.grown hg3
    have HK3:Hid (Kpt K W1 w3):=HK2.out.trans (Kpt.grown hg3 HB2.out.lt)
    refine hK.out _ _ (HS.out w3 HK3.out) (fun hHeld => ?_)
    clear hK hg3
    refine tk 5 (v:=?_) rfl ?_ (by assumption) ?_
    rotate_left
    ·intro w hSw
     (try dsimp only at hSw)
     go_simp
     (try with_reducible rfl)
    (try go_frame)
    refine wpAnyH_done (by kernel_rfl) ?_ _
    cases sb with
    | true =>
     have HRn:Hid (r = andThen (must ex ⟨wk,wg⟩ (ks.drop (j + 1)) pt) (fun t => .ok (.tuple #[],v,t))):=HRs.out
     go_wp2
     go_roundw
     case rel => exact ⟨j + 1,pt,n1,by go_num,by omega,hn12,HB3,(HK.out.trans HK1.out).trans HK3.out,HTL,HN1,HRn⟩
     case measure => simp [intOf]; omega
    | false =>
     have HRn:Hid (r = .error 9):=HRs.out
     obtain ⟨o,sn,rr,cc,h4⟩:=HB3.out.rows
     obtain ⟨c0,c1,c2,_⟩:=bd_cells h4.blk
     clear h4
     go_wp2_with fail
     refine (fail_any K.l.length K.a K.c K.M K.num 9 _).mono ?_
     rintro e w5 ⟨rfl,hg5⟩
     have HE:Hid (Bf K w v r (.panicked [fltE 9 K.num]) w5):=by
      rw [HRn.out]
      exact ⟨(((HK0.out.trans HK.out).trans HK1.out).trans HK3.out).trans (Kpt.grown hg5 HB3.out.lt),rfl,v,pt,HB3.out.grown hg5,List.prefix_refl _⟩
     clear hg5
     go_wp2
     exact ⟨rfl,HE.out⟩
  ·have HR2:Hid (r = .ok (.tuple #[],v,t')):=by
    have:=HR.out
    rw [List.drop_of_length_le (by omega)] at this
    exact this
   go_wp2
   go_end0
   refine ⟨HK0.out.trans HK.out,?_⟩
   rw [HR2.out]
   exact ⟨rfl,HB.out⟩
end Sm
end Go.Proofs.YtbioaoangfiijaaGreatDoor
namespace Go.Proofs.YtbioaoangfiijaaGreatDoor
namespace Sm
open Sy
theorem andThen_yes {α β:Type} {r:Except Int α} {f:α → Except Int β} {y:β} (h:andThen r f = .ok y):∃ x,r = .ok x ∧ f x = .ok y:=by
 cases r with
 | error e => cases h
 | ok x => exact ⟨x,rfl,h⟩
theorem TkLe.mono {t:Tk} {n m:Nat} (h:TkLe t n) (hm:n ≤ m):TkLe t m:=⟨Nat.le_trans h.1 hm,Nat.le_trans h.2.1 hm,Nat.le_trans h.2.2 hm⟩
theorem runs_ge {α:Type} {f:α → Nat → Except Int Nat} (hf:∀ a n m,f a n = .ok m → n ≤ m):∀ (l:List α) (n m:Nat),runs f l n = .ok m → n ≤ m
 | [],n,m,h => by simp [runs] at h; omega
 | a :: l,n,m,h => by
  unfold runs at h
  cases ha:f a n with
  | error e => rw [ha] at h; simp at h
  | ok k => rw [ha] at h; exact Nat.le_trans (hf a n k ha) (runs_ge hf l k m h)
theorem exW_open {d:Nat} {x:Ex} {n m:Nat} (h:exW (d + 1) x n = .ok m):1 ≤ x.kind ∧ x.kind ≤ 24 ∧ exHead x = 0 ∧ runs (exW d) x.kids (n + 1) = .ok m:=by
 unfold exW at h
 split at h
 ·simp at h
 ·rename_i h0
  have h1:=nodeW_zero (by simpa using h0:nodeW x.kind 24 (d + 1) n = 0)
  split at h
  ·simp at h
  ·rename_i h2
   exact ⟨h1.2.1,h1.2.2.1,by simpa using h2,h⟩
theorem exW_ge:∀ (d:Nat) (x:Ex) (n m:Nat),exW d x n = .ok m → n ≤ m
 | 0,x,n,m,h => by simp [exW] at h
 | d + 1,x,n,m,h => by
  have:=runs_ge (exW_ge d) _ _ _ (exW_open h).2.2.2
  omega
theorem runs_cons {α:Type} {f:α → Nat → Except Int Nat} {a:α} {l:List α} {n m:Nat} (h:runs f (a :: l) n = .ok m):∃ k,f a n = .ok k ∧ runs f l k = .ok m:=by
 unfold runs at h
 cases ha:f a n with
 | error e => rw [ha] at h; simp at h
 | ok k => rw [ha] at h; exact ⟨k,rfl,h⟩
theorem head_len {x:Ex} (h:exHead x = 0):least x.kind ≤ (x.kids.length:Int) ∧ (x.kids.length:Int) ≤ most x.kind:=by
 unfold exHead at h
 split at h
 ·cases h
 ·split at h
  ·cases h
  ·split at h
   ·cases h
   ·omega
theorem kids_one {x:Ex} (h:exHead x = 0) (hk:x.kind = 4 ∨ x.kind = 5 ∨ x.kind = 21 ∨ x.kind = 24):∃ a,x.kids = [a]:=by
 have:=head_len h
 have h1:least x.kind = 1:=by unfold least; rw [if_neg (by omega),if_pos hk]
 have h2:most x.kind = 1:=by unfold most; rw [if_neg (by omega),if_pos hk]
 exact List.length_eq_one_iff.1 (by omega)
theorem kids_two {x:Ex} (h:exHead x = 0) (hk:6 ≤ x.kind ∧ x.kind ≤ 18 ∨ x.kind = 23):∃ a b,x.kids = [a,b]:=by
 have:=head_len h
 have h1:least x.kind = 2:=by unfold least; rw [if_neg (by omega),if_neg (by omega),if_neg (by omega)]
 have h2:most x.kind = 2:=by unfold most; rw [if_neg (by omega),if_neg (by omega),if_neg (by omega)]
 match hx:x.kids,(by omega:x.kids.length = 2) with
 | [a,b],_ => exact ⟨a,b,rfl⟩
def ExLe (d:Nat) (ex:Ex → Tk → Except Int (Ty × Tk)):Prop:=∀ x t n m y t',exW d x n = .ok m → TkLe t n → ex x t = .ok (y,t') → TkLe t' m
theorem must_le {d:Nat} {ex:Ex → Tk → Except Int (Ty × Tk)} (hex:ExLe d ex) (wt:Ty):∀ (ks:List Ex) (t:Tk) (n m:Nat) (t':Tk),runs (exW d) ks n = .ok m → TkLe t n → must ex wt ks t = .ok t' → TkLe t' m
 | [],t,n,m,t',h,ht,hm => by
  simp [runs] at h
  simp [must] at hm
  subst h; subst hm
  exact ht
 | k :: ks,t,n,m,t',h,ht,hm => by
  obtain ⟨n1,h1,h2⟩:=runs_cons h
  rw [must] at hm
  obtain ⟨p,hp,hm⟩:=andThen_yes hm
  split at hm
  ·exact must_le hex wt ks p.2 n1 m t' h2 (hex k t n n1 p.1 p.2 h1 ht hp) hm
  ·cases hm
theorem args_le {d:Nat} {ex:Ex → Tk → Except Int (Ty × Tk)} (hex:ExLe d ex):∀ (ps:List Pm) (ks:List Ex) (t:Tk) (n m:Nat) (t':Tk),runs (exW d) ks n = .ok m → TkLe t n → args ex ps ks t = .ok t' → TkLe t' m
 | [],ks,t,n,m,t',h,ht,hm => by
  simp [args] at hm
  subst hm
  exact ht.mono (runs_ge (exW_ge d) _ _ _ h)
 | p :: ps,[],t,n,m,t',h,ht,hm => by
  rw [args] at hm
  obtain ⟨t1,h1,hm⟩:=andThen_yes hm
  exact args_le hex ps [] t1 n m t' h (must_le hex p.ty [] t n n t1 rfl ht h1) hm
 | p :: ps,k :: ks,t,n,m,t',h,ht,hm => by
  rw [args] at hm
  obtain ⟨t1,h1,hm⟩:=andThen_yes hm
  obtain ⟨n1,h3,h4⟩:=runs_cons h
  exact args_le hex ps ks t1 n1 m t' h4 (must_le hex p.ty [k] t n n1 t1 (by unfold runs; rw [h3]; rfl) ht h1) hm
theorem call_le {d:Nat} {ex:Ex → Tk → Except Int (Ty × Tk)} (hex:ExLe d ex) {l:List Df} {kind:Int} {x:Ex} {t t':Tk} {n m:Nat} {D:Df} (h:runs (exW d) x.kids (n + 1) = .ok m) (ht:TkLe t n) (hc:call l ex kind x t = .ok (D,t')):TkLe t' m:=by
 unfold call at hc
 obtain ⟨i,_,hc⟩:=andThen_yes hc
 split at hc
 ·cases hc
 ·obtain ⟨t1,h1,hc⟩:=andThen_yes hc
  cases hc
  exact args_le hex _ _ _ _ _ _ h ⟨by have:=ht.1; show t.sends.length ≤ _; omega,by have:=ht.2.1; show t.recvs.length ≤ _; omega,by have:=ht.2.2; simp; omega⟩ h1
theorem started_le {d:Nat} {ex:Ex → Tk → Except Int (Ty × Tk)} (hex:ExLe d ex) {l:List Df} {x:Ex} {t t':Tk} {n m:Nat} {D:Df} (h:exW d x n = .ok m) (ht:TkLe t n) (hc:started l ex x t = .ok (D,t')):TkLe t' m:=by
 unfold started at hc
 obtain ⟨p,hp,hc⟩:=andThen_yes hc
 split at hc
 ·cases hc
 ·obtain ⟨i,_,hc⟩:=andThen_yes hc
  cases hc
  exact hex x t n m p.1 p.2 h ht hp
theorem spoken_le {d:Nat} {ex:Ex → Tk → Except Int (Ty × Tk)} (hex:ExLe d ex) {l:List Df} {me:Df} {x:Ex} {t t':Tk} {n m:Nat} {y:Ty} (hh:exHead x = 0) (hk:19 ≤ x.kind ∧ x.kind ≤ 23) (h:runs (exW d) x.kids (n + 1) = .ok m) (ht:TkLe t n) (hc:spoken l me ex x t = .ok (y,t')):TkLe t' m:=by
 have hnm:=runs_ge (exW_ge d) _ _ _ h
 unfold spoken at hc
 split at hc
 ·obtain ⟨p,hp,hc⟩:=andThen_yes hc
  cases hc
  exact call_le hex h ht hp
 ·split at hc
  ·obtain ⟨p,hp,hc⟩:=andThen_yes hc
   cases hc
   exact call_le hex h ht hp
  ·split at hc
   ·obtain ⟨b,_,hc⟩:=andThen_yes hc
    cases hc
    exact ⟨by have:=ht.1; show t.sends.length ≤ m; omega,by have:=ht.2.1; simp; omega,by have:=ht.2.2; show t.calls.length ≤ m; omega⟩
   ·split at hc
    ·rename_i h21
     obtain ⟨_,_,hc⟩:=andThen_yes hc
     obtain ⟨t1,h1,hc⟩:=andThen_yes hc
     cases hc
     obtain ⟨a,ha⟩:=kids_one hh (by omega)
     have hka:kid x 0 = a:=by simp [kid,ha]
     rw [hka] at h1
     exact must_le hex _ _ _ _ _ _ (by rw [← ha]; exact h) (ht.mono (by omega)) h1
    ·obtain ⟨g,hg,hc⟩:=andThen_yes hc
     obtain ⟨t1,h1,hc⟩:=andThen_yes hc
     cases hc
     obtain ⟨a,b,hab⟩:=kids_two hh (by omega)
     have hka:kid x 0 = a:=by simp [kid,hab]
     have hkb:kid x 1 = b:=by simp [kid,hab]
     rw [hka] at hg
     rw [hkb] at h1
     rw [hab] at h
     obtain ⟨n1,h3,h4⟩:=runs_cons h
     exact must_le hex _ _ _ _ _ _ h4 (started_le hex h3 (ht.mono (by omega)) hg) h1
theorem expr_le (l:List Df) (me:Df) (v:Vars):∀ d,ExLe d (expr l me v d)
 | 0 => fun x t n m y t' h _ _ => by simp [exW] at h
 | d + 1 => fun x t n m y t' h ht hc => by
  have hex:=expr_le l me v d
  obtain ⟨k1,k24,hh,hr⟩:=exW_open h
  have hnm:=runs_ge (exW_ge d) _ _ _ hr
  have up:TkLe t (n + 1):=ht.mono (by omega)
  rw [expr] at hc
  split at hc
  ·cases hc; exact ht.mono (by omega)
  ·split at hc
   ·cases hc; exact ht.mono (by omega)
   ·split at hc
    ·obtain ⟨z,_,hc⟩:=andThen_yes hc
     cases hc; exact ht.mono (by omega)
    ·split at hc
     ·obtain ⟨t1,h1,hc⟩:=andThen_yes hc
      cases hc; exact must_le hex _ _ _ _ _ _ hr up h1
     ·split at hc
      ·obtain ⟨t1,h1,hc⟩:=andThen_yes hc
       cases hc; exact must_le hex _ _ _ _ _ _ hr up h1
      ·split at hc
       ·obtain ⟨t1,h1,hc⟩:=andThen_yes hc
        cases hc; exact must_le hex _ _ _ _ _ _ hr up h1
       ·split at hc
        ·obtain ⟨a,ha,hc⟩:=andThen_yes hc
         obtain ⟨b,hb,hc⟩:=andThen_yes hc
         obtain ⟨_,_,hc⟩:=andThen_yes hc
         split at hc
         ·cases hc
          obtain ⟨p,q,hpq⟩:=kids_two hh (by omega)
          have hka:kid x 0 = p:=by simp [kid,hpq]
          have hkb:kid x 1 = q:=by simp [kid,hpq]
          rw [hka] at ha
          rw [hkb] at hb
          rw [hpq] at hr
          obtain ⟨n1,h3,h4⟩:=runs_cons hr
          obtain ⟨n2,h5,h6⟩:=runs_cons h4
          simp [runs] at h6
          subst h6
          exact hex q a.2 n1 n2 b.1 b.2 h5 (hex p t (n + 1) n1 a.1 a.2 h3 up ha) hb
         ·cases hc
        ·split at hc
         ·obtain ⟨p,hp,hc⟩:=andThen_yes hc
          cases hc
          obtain ⟨a,ha⟩:=kids_one hh (by omega)
          have hka:kid x 0 = a:=by simp [kid,ha]
          rw [hka] at hp
          rw [ha] at hr
          obtain ⟨n1,h3,h4⟩:=runs_cons hr
          simp [runs] at h4
          subst h4
          exact started_le hex h3 up hp
         ·exact spoken_le hex hh (by omega) hr ht hc
end Sm
end Go.Proofs.YtbioaoangfiijaaGreatDoor

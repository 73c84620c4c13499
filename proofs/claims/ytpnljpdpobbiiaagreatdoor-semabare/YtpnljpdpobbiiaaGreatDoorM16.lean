/- The walk of must,given that of expr one level below. -/
import Derived.Test.YtpnljpdpobbiiaaGreatDoorM15
set_option maxRecDepth 100000
set_option maxHeartbeats 2000000
namespace Go.Proofs.YtpnljpdpobbiiaaGreatDoor
open Go.RowKit
namespace Sm
def TkLe (t:Tk) (n:Nat):Prop:=t.sends.length ≤ n ∧ t.recvs.length ≤ n ∧ t.calls.length ≤ n
def CEx (K:BK) (v:Vars) (d:Nat) (ex:Sy.Ex → Tk → Except Int (Sy.Ty × Tk)):Prop :=
 ∀ (x:Sy.Ex) (xa:Option Addr) (xc:Nat) (t:Tk) (n m:Nat) (w:World) (r:Except Int (Value × Vars × Tk)),Hid (BW K w v t) → Hid (∃ h,ExIn K.B w h x xa) → Hid (Sy.exW d x n = .ok m) → Hid (TkLe t n) → n ≤ 2000 →
  Hid (r = andThen (ex x t) fun p => .ok (tyV p.1,v,p.2)) → Calls Tryz.prog 99 #[.pointer (some ⟨K.F,0,none⟩),exV x xa xc] w fun e w' => Bf K w v r e w'
def KsAt (K:BK) (w:World) (ks:List Sy.Ex) (a:Option Addr):Prop :=
 ∀ i k,ks[i]? = some k → ∃ b off a' c',a = some ⟨b,off,none⟩ ∧ b < w.heap.size ∧ Free K w b ∧ w.cell? ⟨b,off + i * 4,none⟩ = some (.int .i64 k.kind) ∧ w.cell? ⟨b,off + i * 4 + 1,none⟩ = some (.int .i64 k.n) ∧ w.cell? ⟨b,off + i * 4 + 2,none⟩ = some (.string k.name) ∧
  w.cell? ⟨b,off + i * 4 + 3,none⟩ = some (.slice a' k.kids.length c') ∧ ∃ h,ExIn K.B w h k a'
theorem BW.low {K:BK} {w:World} {v:Vars} {t:Tk} (h:BW K w v t) {b:Nat} (hb:b < K.B):Free K w b:=by
 obtain ⟨o,s,r,c,h4⟩:=h.rows
 have hB:=h.base
 refine ⟨by omega,by omega,fun o' s' r' c' hb' => ?_⟩
 rw [h4.blk] at hb'
 obtain ⟨rfl,rfl,rfl,rfl⟩:=obj_inj (Option.some.inj hb')
 exact ⟨fun e => by have:=(own_lt h4.ordO b e).1; omega,fun e => by have:=(own_lt h4.snO b e).1; omega,fun e => by have:=(own_lt h4.rcO b e).1; omega,fun e => by have:=(own_lt h4.clO b e).1; omega⟩
theorem BW.same {K:BK} {w w':World} {v:Vars} {t:Tk} (h:BW K w v t) (hk:Kpt K w w'):Same K.B w w':=fun b o hb =>
 World.cell?_of_block (a:=⟨b,o,none⟩) (hk.block b (by have:=h.base; have:=h.lt; omega) (h.low hb)).1
theorem KsAt.kept {K:BK} {w w':World} {v:Vars} {t:Tk} {ks:List Sy.Ex} {a:Option Addr} (h:KsAt K w ks a) (hb:BW K w v t) (hk:Kpt K w w'):KsAt K w' ks a:=fun i k hi => by
 obtain ⟨b,off,a',c',e,hlt,hf,k0,k1,k2,k3,hx,hE⟩:=h i k hi
 obtain ⟨e1,e2⟩:=hk.block b hlt hf
 have c:∀ o,w'.cell? ⟨b,o,none⟩ = w.cell? ⟨b,o,none⟩:=fun o => World.cell?_of_block (a:=⟨b,o,none⟩) e1
 exact ⟨b,off,a',c',e,by have:=hk.size; omega,e2,(c _).trans k0,(c _).trans k1,(c _).trans k2,(c _).trans k3,hx,hE.same (hb.same hk)⟩
theorem Kpt.alloc (K:BK) (w:World) (o:Obj) (hF:K.F < w.heap.size):Kpt K w (w.alloc o):=Kpt.grown (grown_a o) hF
theorem Kpt.drew {K:BK} {w w':World} (h:Kpt K w w'):Kpt K w w'.drew:=⟨h.os,h.tape,h.output,h.size,h.block⟩
theorem Kpt.ofDrew {K:BK} {w w':World} (h:Kpt K w.drew w'):Kpt K w w':=⟨h.os,h.tape,h.output,h.size,h.block⟩
theorem BW.drew {K:BK} {w:World} {v:Vars} {t:Tk} (h:BW K w v t):BW K w.drew v t:=h.grown ⟨rfl,rfl,rfl,Nat.le_refl _,fun _ _ _ => rfl⟩
theorem four_cell {w:World} {b:Nat} {v0 v1 v2 v3:Value} {t:TypeId} (h:w.heap[b]? = some (.cells #[v0,v1,v2,v3] t (0,0))) :
  w.cell? ⟨b,0,none⟩ = some v0 ∧ w.cell? ⟨b,1,none⟩ = some v1 ∧ w.cell? ⟨b,2,none⟩ = some v2 ∧ w.cell? ⟨b,3,none⟩ = some v3:=by simp [World.cell?,h]
theorem must_any (K:BK) (v:Vars) (d:Nat) (ex:Sy.Ex → Tk → Except Int (Sy.Ty × Tk)) (hC:Hid (CEx K v d ex)) (hle:Hid (∀ x t n m y t',Sy.exW d x n = .ok m → TkLe t n → ex x t = .ok (y,t') → TkLe t' m))
  (ks:List Sy.Ex) (a:Option Addr) (c:Nat) (wt:Sy.Ty) (t:Tk) (n m:Nat) (w:World) (r:Except Int (Value × Vars × Tk)) (h:Hid (BW K w v t)) (hk:Hid (KsAt K w ks a)) (hl:ks.length ≤ 9223372036854775807) (hn:Hid (Sy.runs (Sy.exW d) ks n = .ok m)) (ht:Hid (TkLe t n)) (h2:n ≤ 2000)
  (hr:Hid (r = andThen (must ex wt ks t) fun t => .ok (.tuple #[],v,t))) :
  Calls Tryz.prog 100 #[.pointer (some ⟨K.F,0,none⟩),tyV wt,.slice a ks.length c] w fun e w' => Bf K w v r e w':=by
 obtain ⟨wk,wg⟩:=wt
 have hF:=h.out.lt
 obtain ⟨W0,hW0⟩:∃ W0,W0 = w.alloc (.cells #[.int .i64 wk,.string wg] 31):=⟨_,rfl⟩
 have HK0:Hid (Kpt K w W0):=by rw [hW0]; exact Kpt.alloc K w _ hF
 have HB0:Hid (BW K W0 v t):=by rw [hW0]; exact h.out.grown (grown_a _)
 have HKs0:Hid (KsAt K W0 ks a):=hk.out.kept h.out HK0.out
 have HP0:Hid (W0.heap[w.heap.size]? = some (.cells #[.int .i64 wk,.string wg] 31 (0,0)) ∧ Free K W0 w.heap.size):=by rw [hW0]; exact ⟨heap_alloc_new w _,h.out.free (grown_a _) (Nat.le_refl _)⟩
 have hs0:w.heap.size < W0.heap.size:=lt_of_block HP0.out.1
 obtain ⟨P,hP⟩:∃ P,P = w.heap.size:=⟨_,rfl⟩
 have HP:Hid (P = w.heap.size):=hP
 have HW0:Hid (W0 = _):=hW0
 clear hP hW0
 go_enter Tryz.func100,Tryz.ntmps100
 go_wp2
 rw [← HW0.out,← HP.out]
 rw [← HP.out] at HP0 hs0
 go_loopw [10] (fun i wr => ∃ (j:Nat) (t':Tk) (n':Nat),i = .int .i64 j ∧ j ≤ ks.length ∧ n' ≤ 2000 ∧ Hid (BW K wr v t') ∧ Hid (Kpt K W0 wr) ∧ Hid (TkLe t' n') ∧ Hid (Sy.runs (Sy.exW d) (ks.drop j) n' = .ok m) ∧ Hid (r = andThen (must ex ⟨wk,wg⟩ (ks.drop j) t') fun t => .ok (.tuple #[],v,t))) (fun i _ => ks.length - (intOf i).toNat)
 case atStart => exact ⟨0,t,n,rfl,Nat.zero_le _,h2,HB0,Kpt.refl _ _,ht,by rw [List.drop_zero]; exact hn,by rw [List.drop_zero]; exact hr⟩
 case round =>
  obtain ⟨j,t',n',rfl,hj,hn2,HB,HK,HT,HN,HR⟩:=hrel
  by_cases hlt:j < ks.length
  ·obtain ⟨k,hkj⟩:∃ k,ks[j]? = some k:=⟨_,List.getElem?_eq_getElem hlt⟩
   obtain ⟨b,off,a',c',rfl,hbl,hbf,k0,k1,k2,k3,hx⟩:=(HKs0.out.kept HB0.out HK.out) j k hkj
   have hdr:ks.drop j = k :: ks.drop (j + 1):=by
    have:=List.drop_eq_getElem_cons hlt
    rw [this,(List.getElem?_eq_some_iff.1 hkj).2]
   obtain ⟨n1,hx1,hn1⟩:∃ n1,Sy.exW d k n' = .ok n1 ∧ Sy.runs (Sy.exW d) (ks.drop (j + 1)) n1 = .ok m:=by
    have:=HN.out
    rw [hdr,Sy.runs] at this
    cases hq:Sy.exW d k n' with
    | error e => rw [hq] at this; cases this
    | ok n1 => rw [hq] at this; exact ⟨n1,rfl,this⟩
   have hn12:n1 ≤ 2000:=Sy.exW_le d k n' n1 hn2 hx1
   obtain ⟨er,her⟩:∃ er,er = ex k t':=⟨_,rfl⟩
   have HEr:Hid (er = ex k t'):=her
   have HRr:Hid (r = andThen er fun p => if Sm.same p.1 ⟨wk,wg⟩ = true then andThen (must ex ⟨wk,wg⟩ (ks.drop (j + 1)) p.2) (fun t => .ok (.tuple #[],v,t)) else .error 9):=by
    unfold Hid
    rw [HR.out,hdr,must,her]
    cases ex k t' with
    | error e => rfl
    | ok p =>
     rw [andThen_ok,andThen_ok]
     by_cases hs:Sm.same p.1 ⟨wk,wg⟩ = true
     ·rw [if_pos hs,if_pos hs]
     ·rw [if_neg hs,if_neg hs]
      rfl
   have HX1:Hid (Sy.exW d k n' = .ok n1):=hx1
   have HN1:Hid (Sy.runs (Sy.exW d) (ks.drop (j + 1)) n1 = .ok m):=hn1
   obtain ⟨W1,hW1⟩:∃ W1,W1 = wr.alloc (.cells #[.int .i64 k.kind,.int .i64 k.n,.string k.name,.slice a' k.kids.length c'] 92):=⟨_,rfl⟩
   have hFr:=HB.out.lt
   have HK1:Hid (Kpt K wr W1):=by rw [hW1]; exact Kpt.alloc K wr _ hFr
   have HB1:Hid (BW K W1 v t'):=by rw [hW1]; exact HB.out.grown (grown_a _)
   have HX:Hid (W1.heap[wr.heap.size]? = some (.cells #[.int .i64 k.kind,.int .i64 k.n,.string k.name,.slice a' k.kids.length c'] 92 (0,0)) ∧ Free K W1 wr.heap.size):=by rw [hW1]; exact ⟨heap_alloc_new wr _,HB.out.free (grown_a _) (Nat.le_refl _)⟩
   have HPr:=HK.out.block P hs0 HP0.out.2
   have hPr:P < wr.heap.size:=by have:=HK.out.size; omega
   have HP1:Hid (W1.heap[P]? = some (.cells #[.int .i64 wk,.string wg] 31 (0,0)) ∧ Free K W1 P):=by
    obtain ⟨q1,q2⟩:=HK1.out.block P hPr HPr.2
    exact ⟨q1.trans (HPr.1.trans HP0.out.1),q2⟩
   have HE1:Hid (∃ h,ExIn K.B W1 h k a'):=by
    obtain ⟨hh,hE⟩:=hx
    exact ⟨hh,hE.same (HB.out.same HK1.out)⟩
   have HS:Hid (∀ w3,Kpt K W1 w3 → (w3.cell? ⟨wr.heap.size,0,none⟩ = some (.int .i64 k.kind) ∧ w3.cell? ⟨wr.heap.size,1,none⟩ = some (.int .i64 k.n) ∧ w3.cell? ⟨wr.heap.size,2,none⟩ = some (.string k.name) ∧ w3.cell? ⟨wr.heap.size,3,none⟩ = some (.slice a' k.kids.length c') ∧ w3.cell? ⟨P,0,none⟩ = some (.int .i64 wk) ∧ w3.cell? ⟨P,1,none⟩ = some (.string wg))):=fun w3 hk3 => by
    obtain ⟨x0,x1,x2,x3⟩:=four_cell ((hk3.block _ (lt_of_block HX.out.1) HX.out.2).1.trans HX.out.1)
    obtain ⟨y0,y1,_,_⟩:=two_cell ((hk3.block _ (lt_of_block HP1.out.1) HP1.out.2).1.trans HP1.out.1)
    exact ⟨x0,x1,x2,x3,y0,y1⟩
   have HW1:Hid (W1 = _):=hW1
   obtain ⟨kk,hkk⟩:∃ kk,kk = k.kids.length:=⟨_,rfl⟩
   clear hdr hx1 hn1 her hW1 HPr hx hbf
   go_wp2_with fail
   rw [← HW1.out]
   refine wp_region_held_drew (S:=fun w' => w'.cell? ⟨wr.heap.size,0,none⟩ = some (.int .i64 k.kind) ∧ w'.cell? ⟨wr.heap.size,1,none⟩ = some (.int .i64 k.n) ∧ w'.cell? ⟨wr.heap.size,2,none⟩ = some (.string k.name) ∧ w'.cell? ⟨wr.heap.size,3,none⟩ = some (.slice a' k.kids.length c') ∧ w'.cell? ⟨P,0,none⟩ = some (.int .i64 wk) ∧ w'.cell? ⟨P,1,none⟩ = some (.string wg)) (by kernel_rfl) (HS.out _ (Kpt.refl K W1).drew) (fun hHeld => ?_)
   refine tk 0 (v:=?_) rfl ?_ (by assumption) ?_
   rotate_left
   ·intro w hSw
    (try dsimp only at hSw)
    go_simp
    (try with_reducible rfl)
   (try go_frame)
   refine tk 1 (v:=?_) rfl ?_ (by assumption) ?_
   rotate_left
   ·intro w hSw
    (try dsimp only at hSw)
    go_simp
    (try with_reducible rfl)
   (try go_frame)
   refine tk 3 (v:=?_) rfl ?_ (by assumption) ?_
   rotate_left
   ·intro w hSw
    (try dsimp only at hSw)
    go_simp
    (try with_reducible rfl)
   (try go_frame)
   refine wpAnyH_ready (rs:=[2]) (by kernel_rfl) (by simp) ?_
   refine AllReadyH.cons (o:=_) rfl (fun K' hK => ?_) AllReadyH.nil
   go_simp
   refine (hC.out k a' c' t' n' n1 W1.drew _ (by exact HB1.out.drew) (by obtain ⟨hh,hE⟩:=HE1.out; exact ⟨hh,ExIn.same (w:=W1) (w':=W1.drew) (fun _ _ _ => rfl) _ _ _ hE⟩) HX1 HT hn2 (by rw [← HEr.out]; exact rfl)).mono ?_
   rintro e w2 ⟨hk2',he2⟩
   have HK2:Hid (Kpt K W1 w2):=hk2'.ofDrew
   cases er with
   | error x =>
    obtain ⟨rfl,v2,t2,hb2,hp2⟩:=he2
    have HE:Hid (Bf K w v r (.panicked [fltE x K.num]) w2):=by
     rw [HRr.out]
     exact ⟨((HK0.out.trans HK.out).trans HK1.out).trans HK2.out,rfl,v2,t2,hb2,hp2⟩
    clear hK hk2' hb2 hp2
    go_wp2
    exact ⟨rfl,HE.out⟩
   | ok p =>
    obtain ⟨rfl,hb2⟩:=he2
    have HB2:Hid (BW K w2 v p.2):=hb2
    refine hK.out _ _ (HS.out w2 HK2.out) (fun hHeld => ?_)
    clear hK hk2' hb2
    obtain ⟨py,pt⟩:=p
    have HTL:Hid (TkLe pt n1):=hle.out k t' n' n1 py pt HX1.out HT.out HEr.out.symm
    obtain ⟨sb,hsb⟩:∃ sb,sb = Sm.same py ⟨wk,wg⟩:=⟨_,rfl⟩
    have HSB:Hid (sb = Sm.same py ⟨wk,wg⟩):=hsb
    have HRs:Hid (r = if sb = true then andThen (must ex ⟨wk,wg⟩ (ks.drop (j + 1)) pt) (fun t => .ok (.tuple #[],v,t)) else .error 9):=by
     unfold Hid
     rw [HRr.out,hsb]
     rfl
    clear hsb
    refine wpAnyH_ready (rs:=[4]) (by kernel_rfl) (by simp) ?_
    refine AllReadyH.cons (o:=_) rfl (fun K' hK => ?_) AllReadyH.nil
    go_simp
    refine (same_any py ⟨wk,wg⟩ _ sb HSB).mono ?_
    rintro e w3 ⟨rfl,hg3⟩
    have HB3:Hid (BW K w3 v pt):=HB2.out.grown hg3
    have HK3:Hid (Kpt K W1 w3):=HK2.out.trans (Kpt.grown hg3 HB2.out.lt)
    refine hK.out _ _ (HS.out w3 HK3.out) (fun hHeld => ?_)
    clear hK hg3
    refine tk 5 (v:=?_) rfl ?_ (by assumption) ?_
    rotate_left
    ·intro w hSw
     (try dsimp only at hSw)
     go_simp
     (try with_reducible rfl)
    (try go_frame)
    refine wpAnyH_done (by kernel_rfl) ?_ _
    cases sb with
    | true =>
     have HRn:Hid (r = andThen (must ex ⟨wk,wg⟩ (ks.drop (j + 1)) pt) (fun t => .ok (.tuple #[],v,t))):=HRs.out
     go_wp2
     go_roundw
     case rel => exact ⟨j + 1,pt,n1,by go_num,by omega,hn12,HB3,(HK.out.trans HK1.out).trans HK3.out,HTL,HN1,HRn⟩
     case measure => simp [intOf]; omega
    | false =>
     have HRn:Hid (r = .error 9):=HRs.out
     obtain ⟨o,sn,rr,cc,h4⟩:=HB3.out.rows
     obtain ⟨c0,c1,c2,_⟩:=bd_cells h4.blk
     clear h4
     go_wp2_with fail
     refine (fail_any K.l.length K.a K.c K.M K.num 9 _).mono ?_
     rintro e w5 ⟨rfl,hg5⟩
     have HE:Hid (Bf K w v r (.panicked [fltE 9 K.num]) w5):=by
      rw [HRn.out]
      exact ⟨(((HK0.out.trans HK.out).trans HK1.out).trans HK3.out).trans (Kpt.grown hg5 HB3.out.lt),rfl,v,pt,HB3.out.grown hg5,List.prefix_refl _⟩
     clear hg5
     go_wp2
     exact ⟨rfl,HE.out⟩
  ·have HR2:Hid (r = .ok (.tuple #[],v,t')):=by
    have:=HR.out
    rw [List.drop_of_length_le (by omega)] at this
    exact this
   go_wp2
   go_end0
   refine ⟨HK0.out.trans HK.out,?_⟩
   rw [HR2.out]
   exact ⟨rfl,HB.out⟩
end Sm
end Go.Proofs.YtpnljpdpobbiiaaGreatDoor
namespace Go.Proofs.YtpnljpdpobbiiaaGreatDoor
namespace Sm
open Sy
theorem andThen_yes {α β:Type} {r:Except Int α} {f:α → Except Int β} {y:β} (h:andThen r f = .ok y):∃ x,r = .ok x ∧ f x = .ok y:=by
 cases r with
 | error e => cases h
 | ok x => exact ⟨x,rfl,h⟩
theorem TkLe.mono {t:Tk} {n m:Nat} (h:TkLe t n) (hm:n ≤ m):TkLe t m:=⟨Nat.le_trans h.1 hm,Nat.le_trans h.2.1 hm,Nat.le_trans h.2.2 hm⟩
theorem runs_ge {α:Type} {f:α → Nat → Except Int Nat} (hf:∀ a n m,f a n = .ok m → n ≤ m):∀ (l:List α) (n m:Nat),runs f l n = .ok m → n ≤ m
 | [],n,m,h => by simp [runs] at h; omega
 | a :: l,n,m,h => by
  unfold runs at h
  cases ha:f a n with
  | error e => rw [ha] at h; simp at h
  | ok k => rw [ha] at h; exact Nat.le_trans (hf a n k ha) (runs_ge hf l k m h)
theorem exW_open {d:Nat} {x:Ex} {n m:Nat} (h:exW (d + 1) x n = .ok m):1 ≤ x.kind ∧ x.kind ≤ 24 ∧ exHead x = 0 ∧ runs (exW d) x.kids (n + 1) = .ok m:=by
 unfold exW at h
 split at h
 ·simp at h
 ·rename_i h0
  have h1:=nodeW_zero (by simpa using h0:nodeW x.kind 24 (d + 1) n = 0)
  split at h
  ·simp at h
  ·rename_i h2
   exact ⟨h1.2.1,h1.2.2.1,by simpa using h2,h⟩
theorem exW_ge:∀ (d:Nat) (x:Ex) (n m:Nat),exW d x n = .ok m → n ≤ m
 | 0,x,n,m,h => by simp [exW] at h
 | d + 1,x,n,m,h => by
  have:=runs_ge (exW_ge d) _ _ _ (exW_open h).2.2.2
  omega
theorem runs_cons {α:Type} {f:α → Nat → Except Int Nat} {a:α} {l:List α} {n m:Nat} (h:runs f (a :: l) n = .ok m):∃ k,f a n = .ok k ∧ runs f l k = .ok m:=by
 unfold runs at h
 cases ha:f a n with
 | error e => rw [ha] at h; simp at h
 | ok k => rw [ha] at h; exact ⟨k,rfl,h⟩
theorem head_len {x:Ex} (h:exHead x = 0):least x.kind ≤ (x.kids.length:Int) ∧ (x.kids.length:Int) ≤ most x.kind:=by
 unfold exHead at h
 split at h
 ·cases h
 ·split at h
  ·cases h
  ·split at h
   ·cases h
   ·omega
theorem kids_one {x:Ex} (h:exHead x = 0) (hk:x.kind = 4 ∨ x.kind = 5 ∨ x.kind = 21 ∨ x.kind = 24):∃ a,x.kids = [a]:=by
 have:=head_len h
 have h1:least x.kind = 1:=by unfold least; rw [if_neg (by omega),if_pos hk]
 have h2:most x.kind = 1:=by unfold most; rw [if_neg (by omega),if_pos hk]
 exact List.length_eq_one_iff.1 (by omega)
theorem kids_two {x:Ex} (h:exHead x = 0) (hk:6 ≤ x.kind ∧ x.kind ≤ 18 ∨ x.kind = 23):∃ a b,x.kids = [a,b]:=by
 have:=head_len h
 have h1:least x.kind = 2:=by unfold least; rw [if_neg (by omega),if_neg (by omega),if_neg (by omega)]
 have h2:most x.kind = 2:=by unfold most; rw [if_neg (by omega),if_neg (by omega),if_neg (by omega)]
 match hx:x.kids,(by omega:x.kids.length = 2) with
 | [a,b],_ => exact ⟨a,b,rfl⟩
def ExLe (d:Nat) (ex:Ex → Tk → Except Int (Ty × Tk)):Prop:=∀ x t n m y t',exW d x n = .ok m → TkLe t n → ex x t = .ok (y,t') → TkLe t' m
theorem must_le {d:Nat} {ex:Ex → Tk → Except Int (Ty × Tk)} (hex:ExLe d ex) (wt:Ty):∀ (ks:List Ex) (t:Tk) (n m:Nat) (t':Tk),runs (exW d) ks n = .ok m → TkLe t n → must ex wt ks t = .ok t' → TkLe t' m
 | [],t,n,m,t',h,ht,hm => by
  simp [runs] at h
  simp [must] at hm
  subst h; subst hm
  exact ht
 | k :: ks,t,n,m,t',h,ht,hm => by
  obtain ⟨n1,h1,h2⟩:=runs_cons h
  rw [must] at hm
  obtain ⟨p,hp,hm⟩:=andThen_yes hm
  split at hm
  ·exact must_le hex wt ks p.2 n1 m t' h2 (hex k t n n1 p.1 p.2 h1 ht hp) hm
  ·cases hm
theorem args_le {d:Nat} {ex:Ex → Tk → Except Int (Ty × Tk)} (hex:ExLe d ex):∀ (ps:List Pm) (ks:List Ex) (t:Tk) (n m:Nat) (t':Tk),runs (exW d) ks n = .ok m → TkLe t n → args ex ps ks t = .ok t' → TkLe t' m
 | [],ks,t,n,m,t',h,ht,hm => by
  simp [args] at hm
  subst hm
  exact ht.mono (runs_ge (exW_ge d) _ _ _ h)
 | p :: ps,[],t,n,m,t',h,ht,hm => by
  rw [args] at hm
  obtain ⟨t1,h1,hm⟩:=andThen_yes hm
  exact args_le hex ps [] t1 n m t' h (must_le hex p.ty [] t n n t1 rfl ht h1) hm
 | p :: ps,k :: ks,t,n,m,t',h,ht,hm => by
  rw [args] at hm
  obtain ⟨t1,h1,hm⟩:=andThen_yes hm
  obtain ⟨n1,h3,h4⟩:=runs_cons h
  exact args_le hex ps ks t1 n1 m t' h4 (must_le hex p.ty [k] t n n1 t1 (by unfold runs; rw [h3]; rfl) ht h1) hm
theorem call_le {d:Nat} {ex:Ex → Tk → Except Int (Ty × Tk)} (hex:ExLe d ex) {l:List Df} {kind:Int} {x:Ex} {t t':Tk} {n m:Nat} {D:Df} (h:runs (exW d) x.kids (n + 1) = .ok m) (ht:TkLe t n) (hc:call l ex kind x t = .ok (D,t')):TkLe t' m:=by
 unfold call at hc
 obtain ⟨i,_,hc⟩:=andThen_yes hc
 split at hc
 ·cases hc
 ·obtain ⟨t1,h1,hc⟩:=andThen_yes hc
  cases hc
  exact args_le hex _ _ _ _ _ _ h ⟨by have:=ht.1; show t.sends.length ≤ _; omega,by have:=ht.2.1; show t.recvs.length ≤ _; omega,by have:=ht.2.2; simp; omega⟩ h1
theorem started_le {d:Nat} {ex:Ex → Tk → Except Int (Ty × Tk)} (hex:ExLe d ex) {l:List Df} {x:Ex} {t t':Tk} {n m:Nat} {D:Df} (h:exW d x n = .ok m) (ht:TkLe t n) (hc:started l ex x t = .ok (D,t')):TkLe t' m:=by
 unfold started at hc
 obtain ⟨p,hp,hc⟩:=andThen_yes hc
 split at hc
 ·cases hc
 ·obtain ⟨i,_,hc⟩:=andThen_yes hc
  cases hc
  exact hex x t n m p.1 p.2 h ht hp
theorem spoken_le {d:Nat} {ex:Ex → Tk → Except Int (Ty × Tk)} (hex:ExLe d ex) {l:List Df} {me:Df} {x:Ex} {t t':Tk} {n m:Nat} {y:Ty} (hh:exHead x = 0) (hk:19 ≤ x.kind ∧ x.kind ≤ 23) (h:runs (exW d) x.kids (n + 1) = .ok m) (ht:TkLe t n) (hc:spoken l me ex x t = .ok (y,t')):TkLe t' m:=by
 have hnm:=runs_ge (exW_ge d) _ _ _ h
 unfold spoken at hc
 split at hc
 ·obtain ⟨p,hp,hc⟩:=andThen_yes hc
  cases hc
  exact call_le hex h ht hp
 ·split at hc
  ·obtain ⟨p,hp,hc⟩:=andThen_yes hc
   cases hc
   exact call_le hex h ht hp
  ·split at hc
   ·obtain ⟨b,_,hc⟩:=andThen_yes hc
    cases hc
    exact ⟨by have:=ht.1; show t.sends.length ≤ m; omega,by have:=ht.2.1; simp; omega,by have:=ht.2.2; show t.calls.length ≤ m; omega⟩
   ·split at hc
    ·rename_i h21
     obtain ⟨_,_,hc⟩:=andThen_yes hc
     obtain ⟨t1,h1,hc⟩:=andThen_yes hc
     cases hc
     obtain ⟨a,ha⟩:=kids_one hh (by omega)
     have hka:kid x 0 = a:=by simp [kid,ha]
     rw [hka] at h1
     exact must_le hex _ _ _ _ _ _ (by rw [← ha]; exact h) (ht.mono (by omega)) h1
    ·obtain ⟨g,hg,hc⟩:=andThen_yes hc
     obtain ⟨t1,h1,hc⟩:=andThen_yes hc
     cases hc
     obtain ⟨a,b,hab⟩:=kids_two hh (by omega)
     have hka:kid x 0 = a:=by simp [kid,hab]
     have hkb:kid x 1 = b:=by simp [kid,hab]
     rw [hka] at hg
     rw [hkb] at h1
     rw [hab] at h
     obtain ⟨n1,h3,h4⟩:=runs_cons h
     exact must_le hex _ _ _ _ _ _ h4 (started_le hex h3 (ht.mono (by omega)) hg) h1
theorem expr_le (l:List Df) (me:Df) (v:Vars):∀ d,ExLe d (expr l me v d)
 | 0 => fun x t n m y t' h _ _ => by simp [exW] at h
 | d + 1 => fun x t n m y t' h ht hc => by
  have hex:=expr_le l me v d
  obtain ⟨k1,k24,hh,hr⟩:=exW_open h
  have hnm:=runs_ge (exW_ge d) _ _ _ hr
  have up:TkLe t (n + 1):=ht.mono (by omega)
  rw [expr] at hc
  split at hc
  ·cases hc; exact ht.mono (by omega)
  ·split at hc
   ·cases hc; exact ht.mono (by omega)
   ·split at hc
    ·obtain ⟨z,_,hc⟩:=andThen_yes hc
     cases hc; exact ht.mono (by omega)
    ·split at hc
     ·obtain ⟨t1,h1,hc⟩:=andThen_yes hc
      cases hc; exact must_le hex _ _ _ _ _ _ hr up h1
     ·split at hc
      ·obtain ⟨t1,h1,hc⟩:=andThen_yes hc
       cases hc; exact must_le hex _ _ _ _ _ _ hr up h1
      ·split at hc
       ·obtain ⟨t1,h1,hc⟩:=andThen_yes hc
        cases hc; exact must_le hex _ _ _ _ _ _ hr up h1
       ·split at hc
        ·obtain ⟨a,ha,hc⟩:=andThen_yes hc
         obtain ⟨b,hb,hc⟩:=andThen_yes hc
         obtain ⟨_,_,hc⟩:=andThen_yes hc
         split at hc
         ·cases hc
          obtain ⟨p,q,hpq⟩:=kids_two hh (by omega)
          have hka:kid x 0 = p:=by simp [kid,hpq]
          have hkb:kid x 1 = q:=by simp [kid,hpq]
          rw [hka] at ha
          rw [hkb] at hb
          rw [hpq] at hr
          obtain ⟨n1,h3,h4⟩:=runs_cons hr
          obtain ⟨n2,h5,h6⟩:=runs_cons h4
          simp [runs] at h6
          subst h6
          exact hex q a.2 n1 n2 b.1 b.2 h5 (hex p t (n + 1) n1 a.1 a.2 h3 up ha) hb
         ·cases hc
        ·split at hc
         ·obtain ⟨p,hp,hc⟩:=andThen_yes hc
          cases hc
          obtain ⟨a,ha⟩:=kids_one hh (by omega)
          have hka:kid x 0 = a:=by simp [kid,ha]
          rw [hka] at hp
          rw [ha] at hr
          obtain ⟨n1,h3,h4⟩:=runs_cons hr
          simp [runs] at h4
          subst h4
          exact started_le hex h3 up hp
         ·exact spoken_le hex hh (by omega) hr ht hc
end Sm
end Go.Proofs.YtpnljpdpobbiiaaGreatDoor
namespace Go.Proofs.YtpnljpdpobbiiaaGreatDoor
open Go.RowKit
namespace Sm
def Bd (K:BK) (w:World) (v:Vars) (r:Except Int (Sy.Df × Tk)) (e:Ending) (w':World):Prop :=
 Kpt K w w' ∧ match r with
 | .ok x => (∃ val,e = .returned val ∧ DfV K.B w' x.1 val) ∧ BW K w' v x.2
 | .error er => e = .panicked [fltE er K.num] ∧ ∃ v' t',BW K w' v' t' ∧ v <+: v'
abbrev zD:Obj:=.cells #[.int .i64 0,.string ⟨#[]⟩,.int .i64 0,.string ⟨#[]⟩,.int .i64 0,.string ⟨#[]⟩,.int .i64 0,.slice none 0 0,.slice none 0 0] 35 (0,0)
abbrev nineS (w:World) (N:Nat) (a0 a1 a2 a3 a4 a5 a6 a7 a8:Value):World:=((((((((w.setCell ⟨N,0,none⟩ a0).setCell ⟨N,1,none⟩ a1).setCell ⟨N,2,none⟩ a2).setCell ⟨N,3,none⟩ a3).setCell ⟨N,4,none⟩ a4).setCell ⟨N,5,none⟩ a5).setCell ⟨N,6,none⟩ a6).setCell ⟨N,7,none⟩ a7).setCell ⟨N,8,none⟩ a8
theorem set_at {w:World} {g:Nat} {cs:List Value} {t:TypeId} (h:w.heap[g]? = some (.cells (List.toArray cs) t (0,0))) (i:Nat) (v:Value):(w.setCell ⟨g,i,none⟩ v).heap[g]? = some (.cells (List.toArray (cs.set i v)) t (0,0)):=by
 simp only [World.setCell,Array.getElem?_modify,if_true,h,Option.map_some]
 simp
theorem nine_at {w:World} {N:Nat} {z0 z1 z2 z3 z4 z5 z6 z7 z8 a0 a1 a2 a3 a4 a5 a6 a7 a8:Value} {t:TypeId} (h:w.heap[N]? = some (.cells #[z0,z1,z2,z3,z4,z5,z6,z7,z8] t (0,0))):(nineS w N a0 a1 a2 a3 a4 a5 a6 a7 a8).heap[N]? = some (.cells #[a0,a1,a2,a3,a4,a5,a6,a7,a8] t (0,0)) :=
 set_at (set_at (set_at (set_at (set_at (set_at (set_at (set_at (set_at h 0 a0) 1 a1) 2 a2) 3 a3) 4 a4) 5 a5) 6 a6) 7 a7) 8 a8
theorem nine_grown {w:World} {N:Nat} {a0 a1 a2 a3 a4 a5 a6 a7 a8:Value}:w.grownBy (nineS w N a0 a1 a2 a3 a4 a5 a6 a7 a8) (some N) :=
 grown_trans (grown_at _ _ 0 _) (grown_trans (grown_at _ _ 1 _) (grown_trans (grown_at _ _ 2 _) (grown_trans (grown_at _ _ 3 _) (grown_trans (grown_at _ _ 4 _) (grown_trans (grown_at _ _ 5 _) (grown_trans (grown_at _ _ 6 _) (grown_trans (grown_at _ _ 7 _) (grown_at _ _ 8 _))))))))
theorem Kpt.own {K:BK} {w w5 w9:World} {N:Nat} (h:Kpt K w w5) (hg:w5.grownBy w9 (some N)) (hN:w.heap.size ≤ N) (hNF:K.F ≠ N) (hF:K.F < w5.heap.size):Kpt K w w9 :=
 ⟨hg.os.trans h.os,hg.tape.trans h.tape,hg.output.trans h.output,Nat.le_trans h.size hg.size,fun k hk hf => by
  obtain ⟨h1,h2⟩:=h.block k hk hf
  refine ⟨(hg.block k (by have:=h.size; omega) (by simp; omega)).trans h1,h2.1,h2.2.1,fun o s r c hb => h2.2.2 o s r c ?_⟩
  rw [← hb]
  exact (hg.block _ hF (by simpa using hNF)).symm⟩
theorem BW.own {K:BK} {w5 w9:World} {v:Vars} {t:Tk} {N:Nat} {cs:Array Value} {e:TypeId} {fr:Nat × Nat} (h:BW K w5 v t) (hg:w5.grownBy w9 (some N)) (hf:Free K w5 N) (hc:w5.heap[N]? = some (.cells cs e fr)) (hB:K.B ≤ N):BW K w9 v t:=by
 obtain ⟨o,s,r,c,h4⟩:=h.rows
 obtain ⟨f1,f2,f3⟩:=hf
 obtain ⟨f4,f5,f6,f7⟩:=f3 _ _ _ _ h4.blk
 have blk:∀ k,k < w5.heap.size → k ≠ N → w9.heap[k]? = w5.heap[k]?:=fun k hk hne => hg.block k hk (by simpa using hne)
 have hF:=h4.lt
 have hb:=h.base
 refine ⟨h.grd.same fun b o hb' => World.cell?_of_block (a:=⟨b,o,none⟩) (blk b (by omega) (by omega)),h.base,h.mp.keep (blk _ h.mp.lt (fun e' => In.far h.mp hc e'.symm)),h.nums,⟨o,s,r,c,(blk _ hF (Ne.symm f1)).trans h4.blk,?_,?_,?_,?_,h4.far⟩,h.vars.keep (blk _ h.vars.lt (Ne.symm f2)),h.once⟩
 ·exact own_keep h4.ordO fun k hk => blk k (own_lt h4.ordO k hk).2.1 (fun e' => f4 (by rw [← e']; exact hk))
 ·exact own_keep h4.snO fun k hk => blk k (own_lt h4.snO k hk).2.1 (fun e' => f5 (by rw [← e']; exact hk))
 ·exact own_keep h4.rcO fun k hk => blk k (own_lt h4.rcO k hk).2.1 (fun e' => f6 (by rw [← e']; exact hk))
 ·exact own_keep h4.clO fun k hk => blk k (own_lt h4.clO k hk).2.1 (fun e' => f7 (by rw [← e']; exact hk))
theorem started_any (K:BK) (v:Vars) (d:Nat) (ex:Sy.Ex → Tk → Except Int (Sy.Ty × Tk)) (hC:Hid (CEx K v d ex)) (x:Sy.Ex) (xa:Option Addr) (xc:Nat) (t:Tk) (n m:Nat) (w:World) (r:Except Int (Sy.Df × Tk)) (h:Hid (BW K w v t)) (hx:Hid (∃ h,ExIn K.B w h x xa)) (hn:Hid (Sy.exW d x n = .ok m)) (ht:Hid (TkLe t n)) (h2:n ≤ 2000)
  (hr:Hid (r = started K.l ex x t)) :
  Calls Tryz.prog 113 #[.pointer (some ⟨K.F,0,none⟩),exV x xa xc] w fun e w' => Bd K w v r e w':=by
 have hF:=h.out.lt
 obtain ⟨W0,hW0⟩:∃ W0,W0 = (w.alloc (.cells #[.int .i64 x.kind,.int .i64 x.n,.string x.name,.slice xa x.kids.length xc] 92)).alloc zD:=⟨_,rfl⟩
 have HK0:Hid (Kpt K w W0):=by rw [hW0]; exact Kpt.grown (grown_a2 _ _) hF
 have HB0:Hid (BW K W0 v t):=by rw [hW0]; exact h.out.grown (grown_a2 _ _)
 have HE0:Hid (∃ h,ExIn K.B W0 h x xa):=by
  obtain ⟨hh,hE⟩:=hx.out
  exact ⟨hh,hE.same (h.out.same HK0.out)⟩
 have HZ0:Hid (W0.heap[w.heap.size + 1]? = some zD ∧ Free K W0 (w.heap.size + 1)):=by
  rw [hW0]
  refine ⟨?_,h.out.free (grown_a2 _ _) (by omega)⟩
  have:=heap_alloc_new (w.alloc (.cells #[.int .i64 x.kind,.int .i64 x.n,.string x.name,.slice xa x.kids.length xc] 92)) zD
  simpa using this
 obtain ⟨er,her⟩:∃ er,er = ex x t:=⟨_,rfl⟩
 have HEr:Hid (er = ex x t):=her
 have HRr:Hid (r = andThen er fun p => if p.1.kind ≠ 3 then .error 9 else andThen (Sm.want K.l 3 p.1.gen) fun n => .ok (defAt K.l n,p.2)):=by
  unfold Hid
  rw [hr.out,her,started]
 have HW0:Hid (W0 = _):=hW0
 clear hr her hW0
 go_enter Tryz.func113,Tryz.ntmps113
 go_wp2_with fail
 rw [← HW0.out]
 refine (hC.out x xa xc t n m W0 _ HB0 HE0 hn ht h2 (by rw [← HEr.out]; exact rfl)).mono ?_
 rintro e w2 ⟨hk2',he2⟩
 have HK2:Hid (Kpt K W0 w2):=hk2'
 cases er with
 | error y =>
  obtain ⟨rfl,v2,t2,hb2,hp2⟩:=he2
  have HE:Hid (Bd K w v r (.panicked [fltE y K.num]) w2):=by
   rw [HRr.out]
   exact ⟨HK0.out.trans HK2.out,rfl,v2,t2,hb2,hp2⟩
  clear hk2' hb2 hp2
  go_wp2
  exact ⟨rfl,HE.out⟩
 | ok p =>
  obtain ⟨⟨pk,pg⟩,pt⟩:=p
  obtain ⟨rfl,hb2⟩:=he2
  have HB2:Hid (BW K w2 v pt):=hb2
  obtain ⟨W3,hW3⟩:∃ W3,W3 = w2.alloc (.cells #[.int .i64 pk,.string pg] 31):=⟨_,rfl⟩
  have HK3:Hid (Kpt K w W3):=by rw [hW3]; exact (HK0.out.trans HK2.out).trans (Kpt.alloc K w2 _ hb2.lt)
  have HB3:Hid (BW K W3 v pt):=by rw [hW3]; exact hb2.grown (grown_a _)
  obtain ⟨o,sn,rr,cc,h4⟩:=HB3.out.rows
  obtain ⟨c0,c1,c2,_⟩:=bd_cells h4.blk
  obtain ⟨y0,y1,_,_⟩:=two_cell (w:=W3) (b:=w2.heap.size) (v0:=.int .i64 pk) (v1:=.string pg) (t:=31) (by rw [hW3]; exact heap_alloc_new w2 _)
  have HW3:Hid (W3 = _):=hW3
  clear hk2' hb2 h4 hW3
  by_cases h3:pk = 3
  ·subst h3
   obtain ⟨wr,hwr⟩:∃ wr,wr = Sm.want K.l 3 pg:=⟨_,rfl⟩
   have HRw:Hid (r = andThen wr fun n => .ok (defAt K.l n,pt)):=by
    unfold Hid
    rw [HRr.out,andThen_ok,if_neg (by simp),hwr]
   have HWr:Hid (wr = Sm.want K.l 3 pg):=hwr
   have hB3:K.B ≤ W3.heap.size:=by have:=HB3.out.base; have:=HB3.out.lt; omega
   clear hwr
   cases wr with
   | error y =>
    go_wp2_with fail
    rw [← HW3.out]
    refine wp_region_held_drew (S:=fun w' => w'.cell? ⟨K.F,0,none⟩ = some (.slice K.a K.l.length K.c) ∧ w'.cell? ⟨K.F,1,none⟩ = some (.map (some K.M)) ∧ w'.cell? ⟨K.F,2,none⟩ = some (.int .i64 K.num) ∧ w'.cell? ⟨w2.heap.size,1,none⟩ = some (.string pg)) (by kernel_rfl) ⟨c0,c1,c2,y1⟩ (fun hHeld => ?_)
    refine tk 0 (v:=?_) rfl ?_ (by assumption) ?_
    rotate_left
    ·intro w hSw
     (try dsimp only at hSw)
     go_simp
     (try with_reducible rfl)
    (try go_frame)
    refine tk 1 (v:=?_) rfl ?_ (by assumption) ?_
    rotate_left
    ·intro w hSw
     (try dsimp only at hSw)
     go_simp
     (try with_reducible rfl)
    (try go_frame)
    refine tk 2 (v:=?_) rfl ?_ (by assumption) ?_
    rotate_left
    ·intro w hSw
     (try dsimp only at hSw)
     go_simp
     (try with_reducible rfl)
    (try go_frame)
    refine tk 3 (v:=?_) rfl ?_ (by assumption) ?_
    rotate_left
    ·intro w hSw
     (try dsimp only at hSw)
     go_simp
     (try with_reducible rfl)
    (try go_frame)
    refine tk 4 (v:=?_) rfl ?_ (by assumption) ?_
    rotate_left
    ·intro w hSw
     (try dsimp only at hSw)
     go_simp
     (try with_reducible rfl)
    (try go_frame)
    refine tk 5 (v:=?_) rfl ?_ (by assumption) ?_
    rotate_left
    ·intro w hSw
     (try dsimp only at hSw)
     go_simp
     (try with_reducible rfl)
    (try go_frame)
    refine tk 6 (v:=?_) rfl ?_ (by assumption) ?_
    rotate_left
    ·intro w hSw
     (try dsimp only at hSw)
     go_simp
     (try with_reducible rfl)
    (try go_frame)
    refine tk 7 (v:=?_) rfl ?_ (by assumption) ?_
    rotate_left
    ·intro w hSw
     (try dsimp only at hSw)
     go_simp
     (try with_reducible rfl)
    (try go_frame)
    refine tk 8 (v:=?_) rfl ?_ (by assumption) ?_
    rotate_left
    ·intro w hSw
     (try dsimp only at hSw)
     go_simp
     (try with_reducible rfl)
    (try go_frame)
    refine tk 9 (v:=?_) rfl ?_ (by assumption) ?_
    rotate_left
    ·intro w hSw
     (try dsimp only at hSw)
     go_simp
     (try with_reducible rfl)
    (try go_frame)
    refine tk 10 (v:=?_) rfl ?_ (by assumption) ?_
    rotate_left
    ·intro w hSw
     (try dsimp only at hSw)
     go_simp
     (try with_reducible rfl)
    (try go_frame)
    refine tk 11 (v:=?_) rfl ?_ (by assumption) ?_
    rotate_left
    ·intro w hSw
     (try dsimp only at hSw)
     go_simp
     (try with_reducible rfl)
    (try go_frame)
    refine wpAnyH_ready (rs:=[12]) (by kernel_rfl) (by simp) ?_
    refine AllReadyH.cons (o:=_) rfl (fun K' hK => ?_) AllReadyH.nil
    go_simp
    refine (want_any K.B K.l K.a K.c K.M K.num 3 pg K.R W3.drew (.error y) (by exact HB3.out.drew.dfs) (by exact hB3) (by exact HB3.out.drew.mp) (by exact HB3.out.nums) (by rw [← HWr.out]; exact rfl)).mono ?_
    rintro e w5 ⟨hg5,rfl⟩
    have HE:Hid (Bd K w v r (.panicked [fltE y K.num]) w5):=by
     have hg:W3.grownBy w5 none:=⟨hg5.os,hg5.tape,hg5.output,hg5.size,hg5.block⟩
     rw [HRw.out]
     exact ⟨HK3.out.trans (Kpt.grown hg HB3.out.lt),rfl,v,pt,HB3.out.grown hg,List.prefix_refl _⟩
    clear hg5 hK
    go_wp2
    exact ⟨rfl,HE.out⟩
   | ok i =>
    have hi:i < K.l.length:=by
     have:=HWr.out
     unfold Sm.want at this
     cases hq:numOf K.l pg with
     | none => rw [hq] at this; cases this
     | some i' =>
      rw [hq] at this
      dsimp only at this
      split at this
      ·cases this; exact numOf_lt hq
      ·cases this
    obtain ⟨D,hD⟩:∃ D,D = K.l[i]:=⟨_,rfl⟩
    have hDA:Hid (defAt K.l i = D):=by unfold Hid; rw [hD]; simp [defAt,List.getElem?_eq_getElem hi]
    obtain ⟨b,off,pa,pc,ba,bc,ha,hb,k0,k1,k2,k3,k4,k5,k6,k7,k8,hdf⟩:=HB3.out.dfs.2 i D (by rw [hD]; exact List.getElem?_eq_getElem hi)
    have hml:K.l.length ≤ maxLen:=HB3.out.dfs.1
    obtain ⟨L,hL⟩:∃ L,L = K.l.length:=⟨_,rfl⟩
    have HL:Hid (L = K.l.length):=hL
    rw [← hL] at hi hml c0
    rw [ha] at c0
    have HA:Hid (K.a = some ⟨b,off,none⟩):=ha
    have HDf:Hid (DfIn K.B W3 D pa ba):=hdf
    have hbW:b < W3.heap.size:=by omega
    have hFW:K.F < W3.heap.size:=HB3.out.lt
    have hyW:w2.heap.size < W3.heap.size:=by rw [HW3.out]; simp
    have HS:Hid (∀ w',W3.grownBy w' none → (w'.cell? ⟨K.F,0,none⟩ = some (.slice (some ⟨b,off,none⟩) L K.c) ∧ w'.cell? ⟨K.F,1,none⟩ = some (.map (some K.M)) ∧ w'.cell? ⟨K.F,2,none⟩ = some (.int .i64 K.num) ∧ w'.cell? ⟨w2.heap.size,1,none⟩ = some (.string pg) ∧ w'.cell? ⟨b,off + i * 9,none⟩ = some (.int .i64 D.kind) ∧ w'.cell? ⟨b,off + i * 9 + 1,none⟩ = some (.string D.name) ∧ w'.cell? ⟨b,off + i * 9 + 2,none⟩ = some (.int .i64 D.ty.kind) ∧ w'.cell? ⟨b,off + i * 9 + 3,none⟩ = some (.string D.ty.gen) ∧ w'.cell? ⟨b,off + i * 9 + 4,none⟩ = some (.int .i64 D.takes.kind) ∧ w'.cell? ⟨b,off + i * 9 + 5,none⟩ = some (.string D.takes.gen) ∧ w'.cell? ⟨b,off + i * 9 + 6,none⟩ = some (.int .i64 D.cap) ∧ w'.cell? ⟨b,off + i * 9 + 7,none⟩ = some (.slice pa D.params.length pc) ∧ w'.cell? ⟨b,off + i * 9 + 8,none⟩ = some (.slice ba D.body.length bc))):=fun w' hg => by
     have cF:∀ o,w'.cell? ⟨K.F,o,none⟩ = W3.cell? ⟨K.F,o,none⟩:=fun o => World.cell?_of_block (a:=⟨K.F,o,none⟩) (hg.block _ hFW (by simp))
     have cB:∀ o,w'.cell? ⟨b,o,none⟩ = W3.cell? ⟨b,o,none⟩:=fun o => World.cell?_of_block (a:=⟨b,o,none⟩) (hg.block _ hbW (by simp))
     have cY:∀ o,w'.cell? ⟨w2.heap.size,o,none⟩ = W3.cell? ⟨w2.heap.size,o,none⟩:=fun o => World.cell?_of_block (a:=⟨w2.heap.size,o,none⟩) (hg.block _ hyW (by simp))
     rw [cF,cF,cF,cY,cB,cB,cB,cB,cB,cB,cB,cB,cB]
     exact ⟨c0,c1,c2,y1,k0,k1,k2,k3,k4,k5,k6,k7,k8⟩
    have HZ3:Hid (W3.heap[w.heap.size + 1]? = some zD):=by
     have h1:=(HK2.out.block _ (lt_of_block HZ0.out.1) HZ0.out.2).1.trans HZ0.out.1
     rw [HW3.out]
     exact (Below.heap_alloc _ _ _ (lt_of_block h1)).trans h1
    have hz3:=lt_of_block HZ3.out
    have hnF:K.F ≠ w.heap.size + 1:=by omega
    clear hD ha hdf hL
    go_wp2_with fail
    rw [← HW3.out]
    refine wp_region_held_drew (S:=fun w' => w'.cell? ⟨K.F,0,none⟩ = some (.slice (some ⟨b,off,none⟩) L K.c) ∧ w'.cell? ⟨K.F,1,none⟩ = some (.map (some K.M)) ∧ w'.cell? ⟨K.F,2,none⟩ = some (.int .i64 K.num) ∧ w'.cell? ⟨w2.heap.size,1,none⟩ = some (.string pg) ∧ w'.cell? ⟨b,off + i * 9,none⟩ = some (.int .i64 D.kind) ∧ w'.cell? ⟨b,off + i * 9 + 1,none⟩ = some (.string D.name) ∧ w'.cell? ⟨b,off + i * 9 + 2,none⟩ = some (.int .i64 D.ty.kind) ∧ w'.cell? ⟨b,off + i * 9 + 3,none⟩ = some (.string D.ty.gen) ∧ w'.cell? ⟨b,off + i * 9 + 4,none⟩ = some (.int .i64 D.takes.kind) ∧ w'.cell? ⟨b,off + i * 9 + 5,none⟩ = some (.string D.takes.gen) ∧ w'.cell? ⟨b,off + i * 9 + 6,none⟩ = some (.int .i64 D.cap) ∧ w'.cell? ⟨b,off + i * 9 + 7,none⟩ = some (.slice pa D.params.length pc) ∧ w'.cell? ⟨b,off + i * 9 + 8,none⟩ = some (.slice ba D.body.length bc)) (by kernel_rfl) (HS.out W3.drew ⟨rfl,rfl,rfl,Nat.le_refl _,fun _ _ _ => rfl⟩) (fun hHeld => ?_)
    refine tk 0 (v:=?_) rfl ?_ (by assumption) ?_
    rotate_left
    ·intro w hSw
     (try dsimp only at hSw)
     go_simp
     (try with_reducible rfl)
    (try go_frame)
    refine tk 1 (v:=?_) rfl ?_ (by assumption) ?_
    rotate_left
    ·intro w hSw
     (try dsimp only at hSw)
     go_simp
     (try with_reducible rfl)
    (try go_frame)
    refine tk 2 (v:=?_) rfl ?_ (by assumption) ?_
    rotate_left
    ·intro w hSw
     (try dsimp only at hSw)
     go_simp
     (try with_reducible rfl)
    (try go_frame)
    refine tk 3 (v:=?_) rfl ?_ (by assumption) ?_
    rotate_left
    ·intro w hSw
     (try dsimp only at hSw)
     go_simp
     (try with_reducible rfl)
    (try go_frame)
    refine tk 4 (v:=?_) rfl ?_ (by assumption) ?_
    rotate_left
    ·intro w hSw
     (try dsimp only at hSw)
     go_simp
     (try with_reducible rfl)
    (try go_frame)
    refine tk 5 (v:=?_) rfl ?_ (by assumption) ?_
    rotate_left
    ·intro w hSw
     (try dsimp only at hSw)
     go_simp
     (try with_reducible rfl)
    (try go_frame)
    refine tk 6 (v:=?_) rfl ?_ (by assumption) ?_
    rotate_left
    ·intro w hSw
     (try dsimp only at hSw)
     go_simp
     (try with_reducible rfl)
    (try go_frame)
    refine tk 7 (v:=?_) rfl ?_ (by assumption) ?_
    rotate_left
    ·intro w hSw
     (try dsimp only at hSw)
     go_simp
     (try with_reducible rfl)
    (try go_frame)
    refine tk 8 (v:=?_) rfl ?_ (by assumption) ?_
    rotate_left
    ·intro w hSw
     (try dsimp only at hSw)
     go_simp
     (try with_reducible rfl)
    (try go_frame)
    refine tk 9 (v:=?_) rfl ?_ (by assumption) ?_
    rotate_left
    ·intro w hSw
     (try dsimp only at hSw)
     go_simp
     (try with_reducible rfl)
    (try go_frame)
    refine tk 10 (v:=?_) rfl ?_ (by assumption) ?_
    rotate_left
    ·intro w hSw
     (try dsimp only at hSw)
     go_simp
     (try with_reducible rfl)
    (try go_frame)
    refine tk 11 (v:=?_) rfl ?_ (by assumption) ?_
    rotate_left
    ·intro w hSw
     (try dsimp only at hSw)
     go_simp
     (try with_reducible rfl)
    (try go_frame)
    refine wpAnyH_ready (rs:=[12]) (by kernel_rfl) (by simp) ?_
    refine AllReadyH.cons (o:=_) rfl (fun K' hK => ?_) AllReadyH.nil
    go_simp
    have hwa:=want_any K.B K.l (some ⟨b,off,none⟩) K.c K.M K.num 3 pg K.R W3.drew (.ok (.int .i64 (i:Int))) (by rw [← HA.out]; exact HB3.out.drew.dfs) (by exact hB3) (by exact HB3.out.drew.mp) (by exact HB3.out.nums) (by rw [← HWr.out]; exact rfl)
    rw [← HL.out] at hwa
    refine hwa.mono ?_
    rintro e w5 ⟨hg5',rfl⟩
    have hg:W3.grownBy w5 none:=⟨hg5'.os,hg5'.tape,hg5'.output,hg5'.size,hg5'.block⟩
    have HG5:Hid (W3.grownBy w5 none):=hg
    have hz5:w5.heap[w.heap.size + 1]? = some zD:=(hg.block _ hz3 (by simp)).trans HZ3.out
    have HZ5:Hid (w5.heap[w.heap.size + 1]? = some zD):=hz5
    have zf:w5.frozen? ⟨w.heap.size + 1,0,none⟩ = false ∧ w5.frozen? ⟨w.heap.size + 1,1,none⟩ = false ∧ w5.frozen? ⟨w.heap.size + 1,2,none⟩ = false ∧ w5.frozen? ⟨w.heap.size + 1,3,none⟩ = false ∧ w5.frozen? ⟨w.heap.size + 1,4,none⟩ = false ∧ w5.frozen? ⟨w.heap.size + 1,5,none⟩ = false ∧ w5.frozen? ⟨w.heap.size + 1,6,none⟩ = false ∧ w5.frozen? ⟨w.heap.size + 1,7,none⟩ = false ∧ w5.frozen? ⟨w.heap.size + 1,8,none⟩ = false:=by simp [World.frozen?,hz5]
    have zc:w5.cell? ⟨w.heap.size + 1,0,none⟩ = some (.int .i64 0) ∧ w5.cell? ⟨w.heap.size + 1,1,none⟩ = some (.string ⟨#[]⟩) ∧ w5.cell? ⟨w.heap.size + 1,2,none⟩ = some (.int .i64 0) ∧ w5.cell? ⟨w.heap.size + 1,3,none⟩ = some (.string ⟨#[]⟩) ∧ w5.cell? ⟨w.heap.size + 1,4,none⟩ = some (.int .i64 0) ∧ w5.cell? ⟨w.heap.size + 1,5,none⟩ = some (.string ⟨#[]⟩) ∧ w5.cell? ⟨w.heap.size + 1,6,none⟩ = some (.int .i64 0) ∧ w5.cell? ⟨w.heap.size + 1,7,none⟩ = some (.slice none 0 0) ∧ w5.cell? ⟨w.heap.size + 1,8,none⟩ = some (.slice none 0 0):=by simp [World.cell?,hz5]
    obtain ⟨zf0,zf1,zf2,zf3,zf4,zf5,zf6,zf7,zf8⟩:=zf
    obtain ⟨zc0,zc1,zc2,zc3,zc4,zc5,zc6,zc7,zc8⟩:=zc
    refine hK.out _ _ (HS.out w5 hg) (fun hHeld => ?_)
    clear hK hg5' hg hz5 hwa
    refine tk 13 (v:=?_) rfl ?_ (by assumption) ?_
    rotate_left
    ·intro w hSw
     (try dsimp only at hSw)
     go_simp
     (try with_reducible rfl)
    (try go_frame)
    refine tk 14 (v:=?_) rfl ?_ (by assumption) ?_
    rotate_left
    ·intro w hSw
     (try dsimp only at hSw)
     go_simp
     (try with_reducible rfl)
    (try go_frame)
    refine wpAnyH_ready (rs:=[15]) (by kernel_rfl) (by simp) ?_
    refine AllReadyH.cons (o:=_) rfl (fun K' hK => ?_) AllReadyH.nil
    go_simp
    have hbn:b ≠ w.heap.size + 1:=by have:=HB3.out.base; omega
    have hyn:w2.heap.size ≠ w.heap.size + 1:=by have:=HK2.out.size; have:=lt_of_block HZ0.out.1; omega
    have h5F:K.F < w5.heap.size:=by have:=HG5.out.size; omega
    have HN5:Hid (w5.grownBy (nineS w5 (w.heap.size + 1) (.int .i64 D.kind) (.string D.name) (.int .i64 D.ty.kind) (.string D.ty.gen) (.int .i64 D.takes.kind) (.string D.takes.gen) (.int .i64 D.cap) (.slice pa D.params.length pc) (.slice ba D.body.length bc)) (some (w.heap.size + 1))):=nine_grown
    have HN9:Hid ((nineS w5 (w.heap.size + 1) (.int .i64 D.kind) (.string D.name) (.int .i64 D.ty.kind) (.string D.ty.gen) (.int .i64 D.takes.kind) (.string D.takes.gen) (.int .i64 D.cap) (.slice pa D.params.length pc) (.slice ba D.body.length bc)).heap[w.heap.size + 1]? = some (.cells #[.int .i64 D.kind,.string D.name,.int .i64 D.ty.kind,.string D.ty.gen,.int .i64 D.takes.kind,.string D.takes.gen,.int .i64 D.cap,.slice pa D.params.length pc,.slice ba D.body.length bc] 35 (0,0))):=nine_at HZ5.out
    obtain ⟨W9,hW9⟩:∃ W9,W9 = nineS w5 (w.heap.size + 1) (.int .i64 D.kind) (.string D.name) (.int .i64 D.ty.kind) (.string D.ty.gen) (.int .i64 D.takes.kind) (.string D.takes.gen) (.int .i64 D.cap) (.slice pa D.params.length pc) (.slice ba D.body.length bc):=⟨_,rfl⟩
    rw [← hW9] at HN5 HN9
    have hS9:(fun w' => w'.cell? ⟨K.F,0,none⟩ = some (.slice (some ⟨b,off,none⟩) L K.c) ∧ w'.cell? ⟨K.F,1,none⟩ = some (.map (some K.M)) ∧ w'.cell? ⟨K.F,2,none⟩ = some (.int .i64 K.num) ∧ w'.cell? ⟨w2.heap.size,1,none⟩ = some (.string pg) ∧ w'.cell? ⟨b,off + i * 9,none⟩ = some (.int .i64 D.kind) ∧ w'.cell? ⟨b,off + i * 9 + 1,none⟩ = some (.string D.name) ∧ w'.cell? ⟨b,off + i * 9 + 2,none⟩ = some (.int .i64 D.ty.kind) ∧ w'.cell? ⟨b,off + i * 9 + 3,none⟩ = some (.string D.ty.gen) ∧ w'.cell? ⟨b,off + i * 9 + 4,none⟩ = some (.int .i64 D.takes.kind) ∧ w'.cell? ⟨b,off + i * 9 + 5,none⟩ = some (.string D.takes.gen) ∧ w'.cell? ⟨b,off + i * 9 + 6,none⟩ = some (.int .i64 D.cap) ∧ w'.cell? ⟨b,off + i * 9 + 7,none⟩ = some (.slice pa D.params.length pc) ∧ w'.cell? ⟨b,off + i * 9 + 8,none⟩ = some (.slice ba D.body.length bc)) W9:=by
     have cF:∀ o,W9.cell? ⟨K.F,o,none⟩ = w5.cell? ⟨K.F,o,none⟩:=fun o => World.cell?_of_block (a:=⟨K.F,o,none⟩) (HN5.out.block _ h5F (by simpa using hnF))
     have cB:∀ o,W9.cell? ⟨b,o,none⟩ = w5.cell? ⟨b,o,none⟩:=fun o => World.cell?_of_block (a:=⟨b,o,none⟩) (HN5.out.block b (by have:=HG5.out.size; omega) (by simpa using hbn))
     have cY:∀ o,W9.cell? ⟨w2.heap.size,o,none⟩ = w5.cell? ⟨w2.heap.size,o,none⟩:=fun o => World.cell?_of_block (a:=⟨w2.heap.size,o,none⟩) (HN5.out.block w2.heap.size (by have:=HG5.out.size; omega) (by simpa using hyn))
     dsimp only
     rw [cF,cF,cF,cY,cB,cB,cB,cB,cB,cB,cB,cB,cB]
     exact HS.out w5 HG5.out
    have HE:Hid (Bd K w v r (.returned (dfV D pa pc ba bc)) W9):=by
     have hK5:Kpt K w w5:=HK3.out.trans (Kpt.grown HG5.out HB3.out.lt)
     have hf2:=(HK2.out.block _ (lt_of_block HZ0.out.1) HZ0.out.2).2
     have hf5:Free K w5 (w.heap.size + 1):=by
      have hl2:w.heap.size + 1 < w2.heap.size:=by have:=HK2.out.size; have:=lt_of_block HZ0.out.1; omega
      have hg3:w2.grownBy W3 none:=by rw [HW3.out]; exact grown_a _
      exact ((Kpt.grown (K:=K) (grown_trans hg3 HG5.out) HB2.out.lt).block _ hl2 hf2).2
     have hb5:BW K w5 v pt:=HB3.out.grown HG5.out
     have hB9:K.B ≤ w.heap.size + 1:=by have:=h.out.base; omega
     have hb9:BW K W9 v pt:=hb5.own HN5.out hf5 HZ5.out hB9
     rw [HRw.out,andThen_ok,hDA.out]
     refine ⟨hK5.own HN5.out (by omega) hnF h5F,⟨_,rfl,pa,pc,ba,bc,rfl,?_⟩,hb9⟩
     refine HDf.out.same fun b' o' hb' => World.cell?_of_block (a:=⟨b',o',none⟩) ?_
     exact (HN5.out.block b' (by have:=HG5.out.size; omega) (by simp; omega)).trans (HG5.out.block b' (by omega) (by simp))
    rw [show ((((((((w5.setCell ⟨w.heap.size + 1,0,none⟩ (.int .i64 D.kind)).setCell ⟨w.heap.size + 1,1,none⟩ (.string D.name)).setCell ⟨w.heap.size + 1,2,none⟩ (.int .i64 D.ty.kind)).setCell ⟨w.heap.size + 1,3,none⟩ (.string D.ty.gen)).setCell ⟨w.heap.size + 1,4,none⟩ (.int .i64 D.takes.kind)).setCell ⟨w.heap.size + 1,5,none⟩ (.string D.takes.gen)).setCell ⟨w.heap.size + 1,6,none⟩ (.int .i64 D.cap)).setCell ⟨w.heap.size + 1,7,none⟩ (.slice pa D.params.length pc)).setCell ⟨w.heap.size + 1,8,none⟩ (.slice ba D.body.length bc) = W9 from hW9.symm]
    refine hK.out _ _ hS9 (fun hHeld => ?_)
    have q9:=HN9.out
    clear hK hS9 hW9 zf0 zf1 zf2 zf3 zf4 zf5 zf6 zf7 zf8 zc0 zc1 zc2 zc3 zc4 zc5 zc6 zc7 zc8
    refine wpAnyH_done (by kernel_rfl) ?_ _
    go_wp2
    refine bodyPost_ret (v:=dfV D pa pc ba bc) (by simp [results,Tryz.results113,go_sem,World.cell?,q9]) rfl ?_
    exact HE.out
  ·have HR9:Hid (r = .error 9):=by unfold Hid; rw [HRr.out,andThen_ok,if_pos h3]
   have h3':(pk != 3) = true:=by simpa using h3
   clear h3
   rw [HW3.out] at c0 c1 c2 y0 y1
   go_wp2_with fail
   refine (fail_any K.l.length K.a K.c K.M K.num 9 _).mono ?_
   rintro e w5 ⟨rfl,hg5⟩
   have HE:Hid (Bd K w v r (.panicked [fltE 9 K.num]) w5):=by
    rw [← HW3.out] at hg5
    rw [HR9.out]
    exact ⟨HK3.out.trans (Kpt.grown hg5 HB3.out.lt),rfl,v,pt,HB3.out.grown hg5,List.prefix_refl _⟩
   clear hg5
   go_wp2
   exact ⟨rfl,HE.out⟩
end Sm
end Go.Proofs.YtpnljpdpobbiiaaGreatDoor

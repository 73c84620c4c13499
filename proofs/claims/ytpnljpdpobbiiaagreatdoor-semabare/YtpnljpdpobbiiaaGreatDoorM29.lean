/- The walk of block,given that of stat. -/
import Derived.Test.YtpnljpdpobbiiaaGreatDoorM28
set_option maxRecDepth 100000
set_option maxHeartbeats 4000000
namespace Go.Proofs.YtpnljpdpobbiiaaGreatDoor
open Go.RowKit
namespace Sm
abbrev stB (s:Sy.St) (xa:Option Addr) (xc:Nat) (ba:Option Addr) (bc:Nat) (ea:Option Addr) (ec:Nat):Obj:=.cells #[.int .i64 s.kind,.string s.name,.int .i64 s.x.kind,.int .i64 s.x.n,.string s.x.name,.slice xa s.x.kids.length xc,.slice ba s.body.length bc,.slice ea s.els.length ec] 94 (0,0)
def CSt (K:BK) (me:Sy.Df) (d:Nat):Prop :=
 ∀ (s:Sy.St) (xa ba ea:Option Addr) (xc bc ec:Nat) (v:Vars) (t:Tk) (n m:Nat) (w:World) (r:Except Int (Value × Vars × Tk)),Hid (BW K w v t) → Hid (∃ h,StIn K.B w h s xa ba ea) → Hid (Sy.stW d s n = .ok m) → Hid (TkLe t n) → Hid (v.length ≤ n + 10) → n ≤ 2000 →
  Hid (r = andThen (stat K.l me d s v t) fun p => .ok (.tuple #[],p.1,p.2)) → Calls Tryz.prog 76 #[.pointer (some ⟨K.F,0,none⟩),stV s xa xc ba bc ea ec] w fun e w' => Bf K w v r e w'
def CBl (K:BK) (me:Sy.Df) (d:Nat):Prop :=
 ∀ (l:List Sy.St) (a:Option Addr) (c:Nat) (v:Vars) (t:Tk) (n m:Nat) (w:World) (r:Except Int (Value × Vars × Tk)),Hid (BW K w v t) → Hid (∃ h,RowIn K.B w (StIn K.B w h) l a) → Hid (Sy.bodyOf (Sy.stW d) l n = .ok m) → Hid (TkLe t n) → Hid (v.length ≤ n + 10) → n ≤ 2000 →
  Hid (r = andThen (inner (stat K.l me d) l v t) fun t => .ok (.tuple #[],v,t)) → Calls Tryz.prog 58 #[.pointer (some ⟨K.F,0,none⟩),.slice a l.length c] w fun e w' => Bf K w v r e w'
theorem take_pre {v v':Vars} (h:v <+: v'):v'.take v.length = v:=by
 obtain ⟨x,rfl⟩:=h
 simp
theorem block_any (K:BK) (me:Sy.Df) (d:Nat) (hS:Hid (CSt K me d)):CBl K me d:=by
 intro l a c v t n m w r h hrow hn ht hv h2 hr
 have hF:=h.out.lt
 obtain ⟨hl50,hn'⟩:=bodyOf_open hn.out
 obtain ⟨W0,hW0⟩:∃ W0,W0 = (w.alloc (pO K.F)).alloc (nO v.length):=⟨_,rfl⟩
 have HK0:Hid (Kpt K w W0):=by rw [hW0]; exact Kpt.grown (grown_a2 _ _) hF
 have HB0:Hid (BW K W0 v t):=by rw [hW0]; exact h.out.grown (grown_a2 _ _)
 have HP1:Hid (W0.heap[w.heap.size]? = some (pO K.F) ∧ Free K W0 w.heap.size):=by
  rw [hW0]
  exact (Kpt.alloc K _ _ (by simp; omega)).at (h.out.new _)
 have HP2:Hid (W0.heap[w.heap.size + 1]? = some (nO v.length) ∧ Free K W0 (w.heap.size + 1)):=by
  rw [hW0]
  refine ⟨?_,h.out.free (grown_a2 _ _) (by omega)⟩
  have:=heap_alloc_new (w.alloc (pO K.F)) (nO v.length)
  simpa using this
 have HRow:Hid (∃ h,RowIn K.B W0 (StIn K.B W0 h) l a):=by
  obtain ⟨hh,hR⟩:=hrow.out
  have hs:=h.out.same HK0.out
  exact ⟨hh,hR.same hs (fun s x b e => StIn.same hs hh s x b e)⟩
 have HR0:Hid (r = andThen (andThen (block (stat K.l me d) l v t) fun p => .ok p.2) fun t => .ok (.tuple #[],v,t)):=hr.out
 have HN0:Hid (Sy.runs (Sy.stW d) l n = .ok m):=hn'
 have HW0:Hid (W0 = _):=hW0
 obtain ⟨nl,hnl⟩:∃ nl,nl = l.length:=⟨_,rfl⟩
 have HNL:Hid (nl = l.length):=hnl
 have hl:nl ≤ 50:=by rw [hnl]; exact hl50
 rw [← hnl]
 clear hr hn' hW0 hl50 hnl
 go_enter_defers Tryz.func58,Tryz.ntmps58
 go_wp2_with fail
 refine (open_any K v t w h).mono ?_
 rintro e w1 ⟨rfl,hw1⟩
 rw [← HW0.out] at hw1
 have hw2:=hw1.symm
 subst hw2
 go_wp2
 go_loopw [12] (fun q wr => ∃ (j:Nat) (v':Vars) (t':Tk) (n':Nat),q = .int .i64 j ∧ j ≤ nl ∧ n' ≤ 2000 ∧ Hid (BW K wr v' t') ∧ Hid (Kpt K W0 wr) ∧ Hid (TkLe t' n') ∧ Hid (v'.length ≤ n' + 10) ∧ Hid (v <+: v') ∧ Hid (Sy.runs (Sy.stW d) (l.drop j) n' = .ok m) ∧ Hid (r = andThen (andThen (block (stat K.l me d) (l.drop j) v' t') fun p => .ok p.2) fun t => .ok (.tuple #[],v,t))) (fun q _ => nl - (intOf q).toNat)
 case atStart => exact ⟨0,v,t,n,rfl,Nat.zero_le _,h2,HB0,Kpt.refl _ _,ht,hv,List.prefix_refl _,by rw [List.drop_zero]; exact HN0,by rw [List.drop_zero]; exact HR0⟩
 case round =>
  obtain ⟨j,v',t',n',rfl,hj,hn2,HB,HK,HT,HV,HP,HN,HR⟩:=hrel
  have HP1':=hid (HK.out.at HP1.out)
  have HP2':=hid (HK.out.at HP2.out)
  have hFr:=HB.out.lt
  by_cases hlt:j < nl
  ·have hj1:j < l.length:=by rw [← HNL.out]; exact hlt
   obtain ⟨s,hs⟩:∃ s,l[j]? = some s:=⟨_,List.getElem?_eq_getElem hj1⟩
   have hdr:l.drop j = s :: l.drop (j + 1):=by rw [List.drop_eq_getElem_cons hj1,(List.getElem?_eq_some_iff.1 hs).2]
   have hsame:=HB0.out.same HK.out
   obtain ⟨hh,hRow⟩:=HRow.out
   obtain ⟨b,off,xa,xc,ba,bc,ea,ec,ha,hb,k0,k1,k2,k3,k4,k5,k6,k7,hst⟩:=(hRow.same hsame (fun s x b e => StIn.same hsame hh s x b e)) j s hs
   obtain ⟨n1,hx1,hn1⟩:=runs_cons (by have:=HN.out; rw [hdr] at this; exact this)
   have hn12:n1 ≤ 2000:=Sy.stW_le d s n' n1 hn2 hx1
   obtain ⟨er,her⟩:∃ er,er = stat K.l me d s v' t':=⟨_,rfl⟩
   have HEr:Hid (er = stat K.l me d s v' t'):=her
   have HRr:Hid (r = andThen er fun p => andThen (andThen (block (stat K.l me d) (l.drop (j + 1)) p.1 p.2) fun p => .ok p.2) fun t => .ok (.tuple #[],v,t)):=by
    unfold Hid
    rw [HR.out,hdr,block,her]
    cases stat K.l me d s v' t' <;> rfl
   have HX1:Hid (Sy.stW d s n' = .ok n1):=hx1
   have HN1:Hid (Sy.runs (Sy.stW d) (l.drop (j + 1)) n1 = .ok m):=hn1
   obtain ⟨W2,hW2⟩:∃ W2,W2 = wr.alloc (stB s xa xc ba bc ea ec):=⟨_,rfl⟩
   have HW2:Hid (W2 = _):=hW2
   have HK2:Hid (Kpt K wr W2):=by rw [hW2]; exact Kpt.alloc K wr _ hFr
   have HB2:Hid (BW K W2 v' t'):=by rw [hW2]; exact HB.out.grown (grown_a _)
   have HS2:Hid (∃ h,StIn K.B W2 h s xa ba ea):=⟨hh,StIn.same (HB.out.same HK2.out) hh s xa ba ea hst⟩
   have hbw:b < wr.heap.size:=by have:=HB.out.base; omega
   have HJ:Hid (j + 1 ≤ nl):=hlt
   have hjp:(j:Int) < (nl:Int):=by omega
   subst ha
   clear hdr hs hsame hRow hx1 hn1 her hW2 hst
   go_wp2_with fail
   rw [← HW2.out]
   refine (hS.out s xa ba ea xc bc ec v' t' n' n1 W2 _ HB2 HS2 HX1 HT HV hn2 (by rw [← HEr.out]; exact rfl)).mono ?_
   rintro e w3 ⟨hk3,he3⟩
   have HK03:Hid (Kpt K W0 w3):=(HK.out.trans HK2.out).trans hk3
   have HP13:=hid (HK03.out.at HP1.out)
   have HP23:=hid (HK03.out.at HP2.out)
   cases er with
   | error y =>
    obtain ⟨rfl,v2,t2,hb2,hp2⟩:=he3
    have HB3:Hid (BW K w3 v2 t2):=hb2
    have HPP:Hid (v <+: v2):=HP.out.trans hp2
    have HRy:Hid (r = .error y):=HRr.out
    clear hk3 hb2 hp2
    go_wp2
    refine leaves_cons (f:=97) (args:=#[.pointer (some ⟨w.heap.size,0,none⟩),.pointer (some ⟨w.heap.size + 1,0,none⟩)]) (by simp) (by simp [go_sem]) ?_
    refine (close_any K v2 t2 v.length w.heap.size (w.heap.size + 1) _ _ HB3 HPP.out.length_le (hid HP13.out.1) (hid HP23.out.1) (hid HP13.out.2) (hid HP23.out.2)).mono ?_
    rintro e u' w4 ⟨rfl,rfl,hb4,hk4⟩
    rw [take_pre HPP.out] at hb4
    refine ⟨(HK0.out.trans HK03.out).trans hk4,?_⟩
    rw [HRy.out]
    exact ⟨rfl,v,t2,hb4,List.prefix_refl _⟩
   | ok p =>
    obtain ⟨v1,t1⟩:=p
    obtain ⟨rfl,hb3⟩:=he3
    have HB3:Hid (BW K w3 v1 t1):=hb3
    obtain ⟨l1,l2,l3⟩:=stat_le K.l me d s v' t' n' n1 v1 t1 HX1.out HT.out HEr.out.symm
    have HT1:Hid (TkLe t1 n1):=l1
    have HV1:Hid (v1.length ≤ n1 + 10):=by have:=HV.out; unfold Hid; omega
    have HPv:Hid (v <+: v1):=HP.out.trans l3
    have HRn:Hid (r = andThen (andThen (block (stat K.l me d) (l.drop (j + 1)) v1 t1) fun p => .ok p.2) fun t => .ok (.tuple #[],v,t)):=HRr.out
    clear hk3 hb3 l1 l2 l3
    go_wp2
    go_roundw
    case rel => exact ⟨j + 1,v1,t1,n1,by go_num,HJ.out,hn12,HB3,HK03,HT1,HV1,HPv,HN1,HRn⟩
    case measure => have:=HJ.out; simp [intOf]; omega
  ·have HRe:Hid (r = .ok (.tuple #[],v,t')):=by
    have h1:=HR.out
    have h2:=HNL.out
    rw [List.drop_of_length_le (by omega)] at h1
    exact h1
   have hjp:¬ (j:Int) < (nl:Int):=by omega
   go_wp2
   refine leaves_cons (f:=97) (args:=#[.pointer (some ⟨w.heap.size,0,none⟩),.pointer (some ⟨w.heap.size + 1,0,none⟩)]) (by simp) (by simp [go_sem]) ?_
   refine (close_any K v' t' v.length w.heap.size (w.heap.size + 1) _ _ HB HP.out.length_le (hid HP1'.out.1) (hid HP2'.out.1) (hid HP1'.out.2) (hid HP2'.out.2)).mono ?_
   rintro e u' w4 ⟨rfl,rfl,hb4,hk4⟩
   rw [take_pre HP.out] at hb4
   show Leaves _ _ _ _ [] .returning _
   refine ⟨.tuple #[],by simp [results,Tryz.results58,go_sem],(HK0.out.trans HK.out).trans hk4,?_⟩
   rw [HRe.out]
   exact ⟨rfl,hb4⟩
end Sm
namespace Sm
theorem eight_cell {w:World} {b:Nat} {v0 v1 v2 v3 v4 v5 v6 v7:Value} {t:TypeId} (h:w.heap[b]? = some (.cells #[v0,v1,v2,v3,v4,v5,v6,v7] t (0,0))) :
  w.cell? ⟨b,0,none⟩ = some v0 ∧ w.cell? ⟨b,1,none⟩ = some v1 ∧ w.cell? ⟨b,2,none⟩ = some v2 ∧ w.cell? ⟨b,3,none⟩ = some v3 ∧ w.cell? ⟨b,4,none⟩ = some v4 ∧ w.cell? ⟨b,5,none⟩ = some v5 ∧ w.cell? ⟨b,6,none⟩ = some v6 ∧ w.cell? ⟨b,7,none⟩ = some v7:=by simp [World.cell?,h]
theorem st_x {B:Nat} {w:World} {s:Sy.St} {xa ba ea:Option Addr} (h:∃ h,StIn B w h s xa ba ea):∃ h,ExIn B w h s.x xa:=by
 obtain ⟨hh,hs⟩:=h
 cases hh with
 | zero => exact hs.elim
 | succ hh => exact hs.2.1
theorem st_let (K:BK) (me:Sy.Df) (d:Nat) (i:Nat) (hi:Hid (K.num = (i:Int))) (HMe:Hid (K.l[i]? = some me)) (_hB:Hid (CBl K me d)) (s:Sy.St) (xa ba ea:Option Addr) (xc bc ec:Nat) (v:Vars) (t:Tk) (n m m1:Nat) (w:World) (r:Except Int (Value × Vars × Tk)) (h:Hid (BW K w v t)) (hs:Hid (∃ h,StIn K.B w h s xa ba ea)) (hx1:Hid (Sy.exW d s.x (n + 1) = .ok m1)) (_htl:Hid (Sy.stTail (Sy.stW d) s m1 = .ok m)) (ht:Hid (TkLe t n)) (hv:Hid (v.length ≤ n + 10)) (h2:n + 1 ≤ 2000)
  (hr:Hid (r = andThen (stat K.l me (d + 1) s v t) fun p => .ok (.tuple #[],p.1,p.2)))
  (hk:s.kind = 1) :
  Calls Tryz.prog 76 #[.pointer (some ⟨K.F,0,none⟩),stV s xa xc ba bc ea ec] w fun e w' => Bf K w v r e w':=by
 have hF:=h.out.lt
 obtain ⟨W0,hW0⟩:∃ W0,W0 = w.alloc (stB s xa xc ba bc ea ec):=⟨_,rfl⟩
 have HK0:Hid (Kpt K w W0):=by rw [hW0]; exact Kpt.alloc K w _ hF
 have HB0:Hid (BW K W0 v t):=by rw [hW0]; exact h.out.grown (grown_a _)
 have HS0:Hid (W0.heap[w.heap.size]? = some (stB s xa xc ba bc ea ec) ∧ Free K W0 w.heap.size):=by rw [hW0]; exact h.out.new _
 have HE0:Hid (∃ h,ExIn K.B W0 h s.x xa):=by
  obtain ⟨hh,hE⟩:=st_x hs.out
  exact ⟨hh,hE.same (h.out.same HK0.out)⟩
 have HW0:Hid (W0 = _):=hW0
 have hC:=hid (expr_any K v me i hi HMe d)
 have HT1:Hid (TkLe t (n + 1)):=ht.out.mono (by omega)
 clear hW0
 obtain ⟨er,her⟩:∃ er,er = expr K.l me v d s.x t:=⟨_,rfl⟩
 have HEr:Hid (er = expr K.l me v d s.x t):=her
 have HRr:Hid (r = andThen er fun p => if (Sm.look v s.name).isSome = true then .error 7 else .ok (.tuple #[],v ++ [(s.name,p.1)],p.2)):=by
  unfold Hid
  rw [hr.out,stat,if_pos hk,her]
  cases expr K.l me v d s.x t with
  | error e => rfl
  | ok p => rw [andThen_ok,andThen_ok]; split <;> rfl
 have HS:Hid (∀ w',Kpt K W0 w' → w'.cell? ⟨w.heap.size,1,none⟩ = some (.string s.name) ∧ w'.cell? ⟨w.heap.size,2,none⟩ = some (.int .i64 s.x.kind) ∧ w'.cell? ⟨w.heap.size,3,none⟩ = some (.int .i64 s.x.n) ∧ w'.cell? ⟨w.heap.size,4,none⟩ = some (.string s.x.name) ∧ w'.cell? ⟨w.heap.size,5,none⟩ = some (.slice xa s.x.kids.length xc)):=fun w' hk => by
  obtain ⟨_,g1,g2,g3,g4,g5,_,_⟩:=eight_cell (hk.at HS0.out).1
  exact ⟨g1,g2,g3,g4,g5⟩
 have e1:(s.kind == 1) = true:=by rw [hk]; rfl
 clear hr her hk
 go_enter Tryz.func76,Tryz.ntmps76
 go_wp2_with fail
 rw [← HW0.out]
 refine wp_region_held_drew (S:=fun w' => w'.cell? ⟨w.heap.size,1,none⟩ = some (.string s.name) ∧ w'.cell? ⟨w.heap.size,2,none⟩ = some (.int .i64 s.x.kind) ∧ w'.cell? ⟨w.heap.size,3,none⟩ = some (.int .i64 s.x.n) ∧ w'.cell? ⟨w.heap.size,4,none⟩ = some (.string s.x.name) ∧ w'.cell? ⟨w.heap.size,5,none⟩ = some (.slice xa s.x.kids.length xc)) (by kernel_rfl) (HS.out W0 (Kpt.refl _ _)) (fun hHeld => ?_)
 refine wpAnyH_take (i:=0) (oi:=_) (v:=?_) rfl (by kernel_rfl) (by kernel_rfl) (by kernel_rfl) (fun _ _ _ h => h) (Or.inl ⟨by rfl,?_⟩) (by assumption) ?_
 rotate_left
 ·intro w hSw
  (try dsimp only at hSw)
  go_simp
  (try with_reducible rfl)
 (try go_frame)
 refine wpAnyH_take (i:=1) (oi:=_) (v:=?_) rfl (by kernel_rfl) (by kernel_rfl) (by kernel_rfl) (fun _ _ _ h => h) (Or.inl ⟨by rfl,?_⟩) (by assumption) ?_
 rotate_left
 ·intro w hSw
  (try dsimp only at hSw)
  go_simp
  (try with_reducible rfl)
 (try go_frame)
 refine wpAnyH_take (i:=2) (oi:=_) (v:=?_) rfl (by kernel_rfl) (by kernel_rfl) (by kernel_rfl) (fun _ _ _ h => h) (Or.inl ⟨by rfl,?_⟩) (by assumption) ?_
 rotate_left
 ·intro w hSw
  (try dsimp only at hSw)
  go_simp
  (try with_reducible rfl)
 (try go_frame)
 refine wpAnyH_take (i:=3) (oi:=_) (v:=?_) rfl (by kernel_rfl) (by kernel_rfl) (by kernel_rfl) (fun _ _ _ h => h) (Or.inl ⟨by rfl,?_⟩) (by assumption) ?_
 rotate_left
 ·intro w hSw
  (try dsimp only at hSw)
  go_simp
  (try with_reducible rfl)
 (try go_frame)
 refine wpAnyH_take (i:=4) (oi:=_) (v:=?_) rfl (by kernel_rfl) (by kernel_rfl) (by kernel_rfl) (fun _ _ _ h => h) (Or.inl ⟨by rfl,?_⟩) (by assumption) ?_
 rotate_left
 ·intro w hSw
  (try dsimp only at hSw)
  go_simp
  (try with_reducible rfl)
 (try go_frame)
 refine wpAnyH_take (i:=5) (oi:=_) (v:=?_) rfl (by kernel_rfl) (by kernel_rfl) (by kernel_rfl) (fun _ _ _ h => h) (Or.inl ⟨by rfl,?_⟩) (by assumption) ?_
 rotate_left
 ·intro w hSw
  (try dsimp only at hSw)
  go_simp
  (try with_reducible rfl)
 (try go_frame)
 refine wpAnyH_ready (rs:=[6]) (by kernel_rfl) (by simp) ?_
 refine AllReadyH.cons (o:=_) rfl (fun K' hK => ?_) AllReadyH.nil
 go_simp
 refine (hC.out s.x xa xc t (n + 1) m1 W0.drew _ (by exact HB0.out.drew) (by obtain ⟨hh,hE⟩:=HE0.out; exact ⟨hh,ExIn.same (w:=W0) (w':=W0.drew) (fun _ _ _ => rfl) _ _ _ hE⟩) hx1 HT1 h2 (by rw [← HEr.out]; exact rfl)).mono ?_
 rintro e w1 ⟨hk1',he1⟩
 have HK1:Hid (Kpt K W0 w1):=hk1'.ofDrew
 clear hk1'
 cases er with
 | error y =>
  obtain ⟨rfl,v2,t2,hb2,hp2⟩:=he1
  have HE:Hid (Bf K w v r (.panicked [fltE y K.num]) w1):=by
   rw [HRr.out]
   exact ⟨(HK0.out.trans HK1.out),rfl,v2,t2,hb2,hp2⟩
  clear hK hb2 hp2
  go_wp2
  exact ⟨rfl,HE.out⟩
 | ok p =>
  obtain ⟨ty,t1⟩:=p
  obtain ⟨rfl,hb1⟩:=he1
  have HB1:Hid (BW K w1 v t1):=hb1
  have HRn:Hid (r = if (Sm.look v s.name).isSome = true then .error 7 else .ok (.tuple #[],v ++ [(s.name,ty)],t1)):=HRr.out
  refine hK.out _ _ (HS.out w1 HK1.out) (fun hHeld => ?_)
  clear hK hb1
  refine wpAnyH_ready (rs:=[7]) (by kernel_rfl) (by simp) ?_
  refine AllReadyH.cons (o:=_) rfl (fun K' hK => ?_) AllReadyH.nil
  go_simp
  refine (naming_any K v t1 s.name ty w1 r HB1 (by have:=hv.out; omega) HRn).mono ?_
  rintro e w2 ⟨hk2,he2⟩
  have HK2:Hid (Kpt K w w2):=(HK0.out.trans HK1.out).trans hk2
  cases r with
  | error y =>
   obtain ⟨rfl,v2,t2,hb2,hp2⟩:=he2
   have HE:Hid (Bf K w v (.error y) (.panicked [fltE y K.num]) w2):=⟨HK2.out,rfl,v2,t2,hb2,hp2⟩
   clear hK hk2 hb2 hp2
   go_wp2
   exact ⟨rfl,HE.out⟩
  | ok q =>
   obtain ⟨qv,qn,qt⟩:=q
   obtain ⟨rfl,hb2⟩:=he2
   have hqv:qv = .tuple #[]:=by
    have:=HRn.out
    split at this
    ·cases this
    ·cases this; rfl
   subst hqv
   have HE:Hid (Bf K w v (.ok (.tuple #[],qn,qt)) (.returned (.tuple #[])) w2):=⟨HK2.out,rfl,hb2⟩
   refine hK.out _ _ (HS.out w2 (HK1.out.trans hk2)) (fun hHeld => ?_)
   clear hK hk2 hb2
   refine wpAnyH_done (by kernel_rfl) ?_ _
   go_wp2
   go_end0
   exact HE.out
theorem st_stop (K:BK) (me:Sy.Df) (d:Nat) (i:Nat) (hi:Hid (K.num = (i:Int))) (HMe:Hid (K.l[i]? = some me)) (_hB:Hid (CBl K me d)) (s:Sy.St) (xa ba ea:Option Addr) (xc bc ec:Nat) (v:Vars) (t:Tk) (n:Nat) (w:World) (r:Except Int (Value × Vars × Tk)) (h:Hid (BW K w v t)) (hs:Hid (∃ h,StIn K.B w h s xa ba ea)) (ht:Hid (TkLe t n)) (_hv:Hid (v.length ≤ n + 10)) (_h2:n + 1 ≤ 2000)
  (hr:Hid (r = andThen (stat K.l me (d + 1) s v t) fun p => .ok (.tuple #[],p.1,p.2)))
  (hk:s.kind = 6) :
  Calls Tryz.prog 76 #[.pointer (some ⟨K.F,0,none⟩),stV s xa xc ba bc ea ec] w fun e w' => Bf K w v r e w':=by
 have hF:=h.out.lt
 obtain ⟨W0,hW0⟩:∃ W0,W0 = w.alloc (stB s xa xc ba bc ea ec):=⟨_,rfl⟩
 have HK0:Hid (Kpt K w W0):=by rw [hW0]; exact Kpt.alloc K w _ hF
 have HB0:Hid (BW K W0 v t):=by rw [hW0]; exact h.out.grown (grown_a _)
 have HS0:Hid (W0.heap[w.heap.size]? = some (stB s xa xc ba bc ea ec) ∧ Free K W0 w.heap.size):=by rw [hW0]; exact h.out.new _
 have HE0:Hid (∃ h,ExIn K.B W0 h s.x xa):=by
  obtain ⟨hh,hE⟩:=st_x hs.out
  exact ⟨hh,hE.same (h.out.same HK0.out)⟩
 have HW0:Hid (W0 = _):=hW0
 have hC:=hid (expr_any K v me i hi HMe d)
 have HT1:Hid (TkLe t (n + 1)):=ht.out.mono (by omega)
 clear hW0
 have HRr:Hid (r = andThen (fits (me.kind != 2)) fun _ => .ok (.tuple #[],v,t)):=by
  unfold Hid
  rw [hr.out,stat,if_neg (by omega),if_neg (by omega),if_neg (by omega),if_neg (by omega),if_neg (by omega),if_pos hk]
  cases fits (me.kind != 2) <;> rfl
 obtain ⟨o,sn,rr,cc,h4⟩:=h.out.rows
 obtain ⟨c0,c1,c2,_⟩:=bd_cells h4.blk
 rw [hi.out] at c2
 have hB0:K.B ≤ W0.heap.size:=by have:=HB0.out.base; have:=HB0.out.lt; omega
 have HD0:Hid (DfsIn K.B W0 K.l K.a):=HB0.out.dfs
 have e1:(s.kind == 1) = false:=by rw [hk]; rfl
 have e2:(s.kind == 2) = false:=by rw [hk]; rfl
 have e3:(s.kind == 3) = false:=by rw [hk]; rfl
 have e4:(s.kind == 4) = false:=by rw [hk]; rfl
 have e5:(s.kind == 5) = false:=by rw [hk]; rfl
 have e6:(s.kind == 6) = true:=by rw [hk]; rfl
 clear hr h4 hk
 go_enter Tryz.func76,Tryz.ntmps76
 go_wp2_with fail
 rw [← HW0.out]
 refine (def_any K.B K.l K.a K.c K.M i me W0 HD0 hB0 HMe).mono ?_
 rintro e w1 ⟨hg1,val,rfl,pa,pc,ba',bc',rfl,hdf⟩
 have HG1:Hid (W0.grownBy w1 none):=hg1
 have HB1:Hid (BW K w1 v t):=HB0.out.grown hg1
 have hfk:=field_kind me pa pc ba' bc' w1
 obtain ⟨o',sn',rr',cc',h4⟩:=HB1.out.rows
 have H4:Hid (w1.heap[K.F]? = some (K.obj o' sn' rr' cc')):=h4.blk
 obtain ⟨bk,hbk⟩:∃ bk,bk = (me.kind != 2):=⟨_,rfl⟩
 have HBK:Hid (bk = (me.kind != 2)):=hbk
 have hbk':=hbk.symm
 obtain ⟨rf,hrf⟩:∃ rf:Except Int Value,rf = match Sm.fits bk with | .ok _ => .ok (.tuple #[]) | .error e => .error e:=⟨_,rfl⟩
 have HRF:Hid (rf = match Sm.fits bk with | .ok _ => .ok (.tuple #[]) | .error e => .error e):=hrf
 clear hg1 hdf h4 hbk hrf
 go_wp2_with fail
 refine (fits_any K.F K.l.length K.a K.c K.M K.num K.T o' sn' rr' cc' bk w1 rf H4 HRF).mono ?_
 rintro e w2 ⟨hg2,he2⟩
 have HG2:Hid (w1.grownBy w2 none):=hg2
 have HK02:Hid (Kpt K W0 w2):=(Kpt.grown HG1.out HB0.out.lt).trans (Kpt.grown hg2 HB1.out.lt)
 have HK2:Hid (Kpt K w w2):=HK0.out.trans HK02.out
 have HB2:Hid (BW K w2 v t):=HB1.out.grown hg2
 cases bk with
 | false =>
  have hrf:rf = .error 8:=HRF.out
  subst hrf
  obtain rfl:=he2
  have HE:Hid (Bf K w v r (.panicked [fltE 8 K.num]) w2):=by
   rw [HRr.out,← HBK.out]
   exact ⟨HK2.out,rfl,v,t,HB2.out,List.prefix_refl _⟩
  clear hg2
  go_wp2
  exact ⟨rfl,HE.out⟩
 | true =>
  have hrf:rf = .ok (.tuple #[]):=HRF.out
  subst hrf
  obtain rfl:=he2
  have HE:Hid (Bf K w v r (.returned (.tuple #[])) w2):=by
   rw [HRr.out,← HBK.out]
   exact ⟨HK2.out,rfl,HB2.out⟩
  clear hg2
  go_wp2
  go_end0
  exact HE.out
theorem st_do (K:BK) (me:Sy.Df) (d:Nat) (i:Nat) (hi:Hid (K.num = (i:Int))) (HMe:Hid (K.l[i]? = some me)) (_hB:Hid (CBl K me d)) (s:Sy.St) (xa ba ea:Option Addr) (xc bc ec:Nat) (v:Vars) (t:Tk) (n m m1:Nat) (w:World) (r:Except Int (Value × Vars × Tk)) (h:Hid (BW K w v t)) (hs:Hid (∃ h,StIn K.B w h s xa ba ea)) (hx1:Hid (Sy.exW d s.x (n + 1) = .ok m1)) (_htl:Hid (Sy.stTail (Sy.stW d) s m1 = .ok m)) (ht:Hid (TkLe t n)) (_hv:Hid (v.length ≤ n + 10)) (h2:n + 1 ≤ 2000)
  (hr:Hid (r = andThen (stat K.l me (d + 1) s v t) fun p => .ok (.tuple #[],p.1,p.2)))
  (hk:s.kind = 9) :
  Calls Tryz.prog 76 #[.pointer (some ⟨K.F,0,none⟩),stV s xa xc ba bc ea ec] w fun e w' => Bf K w v r e w':=by
 have hF:=h.out.lt
 obtain ⟨W0,hW0⟩:∃ W0,W0 = w.alloc (stB s xa xc ba bc ea ec):=⟨_,rfl⟩
 have HK0:Hid (Kpt K w W0):=by rw [hW0]; exact Kpt.alloc K w _ hF
 have HB0:Hid (BW K W0 v t):=by rw [hW0]; exact h.out.grown (grown_a _)
 have HS0:Hid (W0.heap[w.heap.size]? = some (stB s xa xc ba bc ea ec) ∧ Free K W0 w.heap.size):=by rw [hW0]; exact h.out.new _
 have HE0:Hid (∃ h,ExIn K.B W0 h s.x xa):=by
  obtain ⟨hh,hE⟩:=st_x hs.out
  exact ⟨hh,hE.same (h.out.same HK0.out)⟩
 have HW0:Hid (W0 = _):=hW0
 have hC:=hid (expr_any K v me i hi HMe d)
 have HT1:Hid (TkLe t (n + 1)):=ht.out.mono (by omega)
 clear hW0
 obtain ⟨er,her⟩:∃ er,er = expr K.l me v d s.x t:=⟨_,rfl⟩
 have HEr:Hid (er = expr K.l me v d s.x t):=her
 have HRr:Hid (r = andThen er fun p => .ok (.tuple #[],v,p.2)):=by
  unfold Hid
  rw [hr.out,stat,if_neg (by omega),if_neg (by omega),if_neg (by omega),if_neg (by omega),if_neg (by omega),if_neg (by omega),if_neg (by omega),if_neg (by omega),her]
  cases expr K.l me v d s.x t <;> rfl
 have e1:(s.kind == 1) = false:=by rw [hk]; rfl
 have e2:(s.kind == 2) = false:=by rw [hk]; rfl
 have e3:(s.kind == 3) = false:=by rw [hk]; rfl
 have e4:(s.kind == 4) = false:=by rw [hk]; rfl
 have e5:(s.kind == 5) = false:=by rw [hk]; rfl
 have e6:(s.kind == 6) = false:=by rw [hk]; rfl
 have e7:(s.kind == 7) = false:=by rw [hk]; rfl
 have e8:(s.kind == 8) = false:=by rw [hk]; rfl
 have e9:(s.kind == 9) = true:=by rw [hk]; rfl
 clear hr her hk
 go_enter Tryz.func76,Tryz.ntmps76
 go_wp2_with fail
 rw [← HW0.out]
 refine (hC.out s.x xa xc t (n + 1) m1 W0 _ HB0 HE0 hx1 HT1 h2 (by rw [← HEr.out]; exact rfl)).mono ?_
 rintro e w1 ⟨hk1,he1⟩
 cases er with
 | error y =>
  obtain ⟨rfl,v2,t2,hb2,hp2⟩:=he1
  have HE:Hid (Bf K w v r (.panicked [fltE y K.num]) w1):=by
   rw [HRr.out]
   exact ⟨(HK0.out.trans hk1),rfl,v2,t2,hb2,hp2⟩
  clear hk1 hb2 hp2
  go_wp2
  exact ⟨rfl,HE.out⟩
 | ok p =>
  obtain ⟨ty,t1⟩:=p
  obtain ⟨rfl,hb1⟩:=he1
  have HE:Hid (Bf K w v r (.returned (.tuple #[])) w1):=by
   rw [HRr.out]
   exact ⟨HK0.out.trans hk1,rfl,hb1⟩
  clear hk1 hb1
  go_wp2
  go_end0
  exact HE.out
theorem st_out (K:BK) (me:Sy.Df) (d:Nat) (i:Nat) (hi:Hid (K.num = (i:Int))) (HMe:Hid (K.l[i]? = some me)) (_hB:Hid (CBl K me d)) (s:Sy.St) (xa ba ea:Option Addr) (xc bc ec:Nat) (v:Vars) (t:Tk) (n m m1:Nat) (w:World) (r:Except Int (Value × Vars × Tk)) (h:Hid (BW K w v t)) (hs:Hid (∃ h,StIn K.B w h s xa ba ea)) (hx1:Hid (Sy.exW d s.x (n + 1) = .ok m1)) (_htl:Hid (Sy.stTail (Sy.stW d) s m1 = .ok m)) (ht:Hid (TkLe t n)) (_hv:Hid (v.length ≤ n + 10)) (h2:n + 1 ≤ 2000)
  (hr:Hid (r = andThen (stat K.l me (d + 1) s v t) fun p => .ok (.tuple #[],p.1,p.2)))
  (hk:s.kind = 8) :
  Calls Tryz.prog 76 #[.pointer (some ⟨K.F,0,none⟩),stV s xa xc ba bc ea ec] w fun e w' => Bf K w v r e w':=by
 have hF:=h.out.lt
 obtain ⟨W0,hW0⟩:∃ W0,W0 = w.alloc (stB s xa xc ba bc ea ec):=⟨_,rfl⟩
 have HK0:Hid (Kpt K w W0):=by rw [hW0]; exact Kpt.alloc K w _ hF
 have HB0:Hid (BW K W0 v t):=by rw [hW0]; exact h.out.grown (grown_a _)
 have HS0:Hid (W0.heap[w.heap.size]? = some (stB s xa xc ba bc ea ec) ∧ Free K W0 w.heap.size):=by rw [hW0]; exact h.out.new _
 have HE0:Hid (∃ h,ExIn K.B W0 h s.x xa):=by
  obtain ⟨hh,hE⟩:=st_x hs.out
  exact ⟨hh,hE.same (h.out.same HK0.out)⟩
 have HW0:Hid (W0 = _):=hW0
 have hC:=hid (expr_any K v me i hi HMe d)
 have HT1:Hid (TkLe t (n + 1)):=ht.out.mono (by omega)
 clear hW0
 obtain ⟨er,her⟩:∃ er,er = expr K.l me v d s.x t:=⟨_,rfl⟩
 have HEr:Hid (er = expr K.l me v d s.x t):=her
 have HRr:Hid (r = andThen er fun p => andThen (plain p.1) fun _ => .ok (.tuple #[],v,p.2)):=by
  unfold Hid
  rw [hr.out,stat,if_neg (by omega),if_neg (by omega),if_neg (by omega),if_neg (by omega),if_neg (by omega),if_neg (by omega),if_neg (by omega),if_pos hk,her]
  cases expr K.l me v d s.x t with
  | error e => rfl
  | ok p => rw [andThen_ok,andThen_ok]; cases plain p.1 <;> rfl
 have HS:Hid (∀ w' v' t',Kpt K W0 w' → BW K w' v' t' → w'.cell? ⟨K.F,0,none⟩ = some (.slice K.a K.l.length K.c) ∧ w'.cell? ⟨K.F,1,none⟩ = some (.map (some K.M)) ∧ w'.cell? ⟨K.F,2,none⟩ = some (.int .i64 (i:Int)) ∧ w'.cell? ⟨w.heap.size,2,none⟩ = some (.int .i64 s.x.kind) ∧ w'.cell? ⟨w.heap.size,3,none⟩ = some (.int .i64 s.x.n) ∧ w'.cell? ⟨w.heap.size,4,none⟩ = some (.string s.x.name) ∧ w'.cell? ⟨w.heap.size,5,none⟩ = some (.slice xa s.x.kids.length xc)):=fun w' v' t' hk hb => by
  obtain ⟨_,g1,g2,g3,g4,g5,_,_⟩:=eight_cell (hk.at HS0.out).1
  obtain ⟨o,sn,rr,cc,h4⟩:=hb.rows
  obtain ⟨d0,d1,d2,_⟩:=bd_cells h4.blk
  rw [hi.out] at d2
  exact ⟨d0,d1,d2,g2,g3,g4,g5⟩
 have e1:(s.kind == 1) = false:=by rw [hk]; rfl
 have e2:(s.kind == 2) = false:=by rw [hk]; rfl
 have e3:(s.kind == 3) = false:=by rw [hk]; rfl
 have e4:(s.kind == 4) = false:=by rw [hk]; rfl
 have e5:(s.kind == 5) = false:=by rw [hk]; rfl
 have e6:(s.kind == 6) = false:=by rw [hk]; rfl
 have e7:(s.kind == 7) = false:=by rw [hk]; rfl
 have e8:(s.kind == 8) = true:=by rw [hk]; rfl
 clear hr her hk
 go_enter Tryz.func76,Tryz.ntmps76
 go_wp2_with fail
 rw [← HW0.out]
 refine wp_region_held_drew (S:=fun w' => w'.cell? ⟨K.F,0,none⟩ = some (.slice K.a K.l.length K.c) ∧ w'.cell? ⟨K.F,1,none⟩ = some (.map (some K.M)) ∧ w'.cell? ⟨K.F,2,none⟩ = some (.int .i64 (i:Int)) ∧ w'.cell? ⟨w.heap.size,2,none⟩ = some (.int .i64 s.x.kind) ∧ w'.cell? ⟨w.heap.size,3,none⟩ = some (.int .i64 s.x.n) ∧ w'.cell? ⟨w.heap.size,4,none⟩ = some (.string s.x.name) ∧ w'.cell? ⟨w.heap.size,5,none⟩ = some (.slice xa s.x.kids.length xc)) (by kernel_rfl) (HS.out W0 v t (Kpt.refl _ _) HB0.out) (fun hHeld => ?_)
 refine wpAnyH_take (i:=0) (oi:=_) (v:=?_) rfl (by kernel_rfl) (by kernel_rfl) (by kernel_rfl) (fun _ _ _ h => h) (Or.inl ⟨by rfl,?_⟩) (by assumption) ?_
 rotate_left
 ·intro w hSw
  (try dsimp only at hSw)
  go_simp
  (try with_reducible rfl)
 (try go_frame)
 refine wpAnyH_take (i:=1) (oi:=_) (v:=?_) rfl (by kernel_rfl) (by kernel_rfl) (by kernel_rfl) (fun _ _ _ h => h) (Or.inl ⟨by rfl,?_⟩) (by assumption) ?_
 rotate_left
 ·intro w hSw
  (try dsimp only at hSw)
  go_simp
  (try with_reducible rfl)
 (try go_frame)
 refine wpAnyH_take (i:=2) (oi:=_) (v:=?_) rfl (by kernel_rfl) (by kernel_rfl) (by kernel_rfl) (fun _ _ _ h => h) (Or.inl ⟨by rfl,?_⟩) (by assumption) ?_
 rotate_left
 ·intro w hSw
  (try dsimp only at hSw)
  go_simp
  (try with_reducible rfl)
 (try go_frame)
 refine wpAnyH_take (i:=3) (oi:=_) (v:=?_) rfl (by kernel_rfl) (by kernel_rfl) (by kernel_rfl) (fun _ _ _ h => h) (Or.inl ⟨by rfl,?_⟩) (by assumption) ?_
 rotate_left
 ·intro w hSw
  (try dsimp only at hSw)
  go_simp
  (try with_reducible rfl)
 (try go_frame)
 refine wpAnyH_take (i:=4) (oi:=_) (v:=?_) rfl (by kernel_rfl) (by kernel_rfl) (by kernel_rfl) (fun _ _ _ h => h) (Or.inl ⟨by rfl,?_⟩) (by assumption) ?_
 rotate_left
 ·intro w hSw
  (try dsimp only at hSw)
  go_simp
  (try with_reducible rfl)
 (try go_frame)
 refine wpAnyH_take (i:=5) (oi:=_) (v:=?_) rfl (by kernel_rfl) (by kernel_rfl) (by kernel_rfl) (fun _ _ _ h => h) (Or.inl ⟨by rfl,?_⟩) (by assumption) ?_
 rotate_left
 ·intro w hSw
  (try dsimp only at hSw)
  go_simp
  (try with_reducible rfl)
 (try go_frame)
 refine wpAnyH_take (i:=6) (oi:=_) (v:=?_) rfl (by kernel_rfl) (by kernel_rfl) (by kernel_rfl) (fun _ _ _ h => h) (Or.inl ⟨by rfl,?_⟩) (by assumption) ?_
 rotate_left
 ·intro w hSw
  (try dsimp only at hSw)
  go_simp
  (try with_reducible rfl)
 (try go_frame)
 refine wpAnyH_ready (rs:=[7]) (by kernel_rfl) (by simp) ?_
 refine AllReadyH.cons (o:=_) rfl (fun K' hK => ?_) AllReadyH.nil
 go_simp
 refine (hC.out s.x xa xc t (n + 1) m1 W0.drew _ (by exact HB0.out.drew) (by obtain ⟨hh,hE⟩:=HE0.out; exact ⟨hh,ExIn.same (w:=W0) (w':=W0.drew) (fun _ _ _ => rfl) _ _ _ hE⟩) hx1 HT1 h2 (by rw [← HEr.out]; exact rfl)).mono ?_
 rintro e w1 ⟨hk1',he1⟩
 have HK1:Hid (Kpt K W0 w1):=hk1'.ofDrew
 clear hk1'
 cases er with
 | error y =>
  obtain ⟨rfl,v2,t2,hb2,hp2⟩:=he1
  have HE:Hid (Bf K w v r (.panicked [fltE y K.num]) w1):=by
   rw [HRr.out]
   exact ⟨(HK0.out.trans HK1.out),rfl,v2,t2,hb2,hp2⟩
  clear hK hb2 hp2
  go_wp2
  exact ⟨rfl,HE.out⟩
 | ok p =>
  obtain ⟨ty,t1⟩:=p
  obtain ⟨rfl,hb1⟩:=he1
  have HB1:Hid (BW K w1 v t1):=hb1
  have HRn:Hid (r = andThen (plain ty) fun _ => .ok (.tuple #[],v,t1)):=HRr.out
  obtain ⟨rv,hrv⟩:∃ rv:Except Int Value,rv = match Sm.plain ty with | .ok _ => .ok (.tuple #[]) | .error e => .error e:=⟨_,rfl⟩
  have HRV:Hid (rv = match Sm.plain ty with | .ok _ => .ok (.tuple #[]) | .error e => .error e):=hrv
  refine hK.out _ _ (HS.out w1 v t1 HK1.out HB1.out) (fun hHeld => ?_)
  clear hK hb1 hrv
  refine wpAnyH_ready (rs:=[8]) (by kernel_rfl) (by simp) ?_
  refine AllReadyH.cons (o:=_) rfl (fun K' hK => ?_) AllReadyH.nil
  go_simp
  refine (plain_any K.l.length K.a K.c K.M (i:Int) ty w1 rv HRV).mono ?_
  rintro e w2 ⟨hg2,he2⟩
  have HB2:Hid (BW K w2 v t1):=HB1.out.grown hg2
  have HK02:Hid (Kpt K W0 w2):=HK1.out.trans (Kpt.grown hg2 HB1.out.lt)
  have HK2:Hid (Kpt K w w2):=HK0.out.trans HK02.out
  cases hpl:Sm.plain ty with
  | error y =>
   have hrv:rv = .error y:=by rw [HRV.out,hpl]
   subst hrv
   obtain rfl:=he2
   have HE:Hid (Bf K w v r (.panicked [fltE y K.num]) w2):=by
    rw [HRn.out,hpl]
    exact ⟨HK2.out,rfl,v,t1,HB2.out,List.prefix_refl _⟩
   rw [hi.out] at HE
   clear hK hg2 hpl
   go_wp2
   exact ⟨rfl,HE.out⟩
  | ok u =>
   have hrv:rv = .ok (.tuple #[]):=by rw [HRV.out,hpl]
   subst hrv
   obtain rfl:=he2
   have HE:Hid (Bf K w v r (.returned (.tuple #[])) w2):=by
    rw [HRn.out,hpl]
    exact ⟨HK2.out,rfl,HB2.out⟩
   refine hK.out _ _ (HS.out w2 v t1 HK02.out HB2.out) (fun hHeld => ?_)
   clear hK hg2 hpl
   refine wpAnyH_done (by kernel_rfl) ?_ _
   go_wp2
   go_end0
   exact HE.out
end Sm
end Go.Proofs.YtpnljpdpobbiiaaGreatDoor

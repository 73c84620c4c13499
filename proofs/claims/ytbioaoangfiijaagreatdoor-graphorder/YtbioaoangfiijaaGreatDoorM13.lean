/- Statements,plainly: no more talk and no more names than nodes. -/
import Derived.Test.YtbioaoangfiijaaGreatDoorM12
set_option maxRecDepth 100000
set_option maxHeartbeats 4000000
namespace Go.Proofs.YtbioaoangfiijaaGreatDoor
namespace Sm
open Sy
def StLe (d:Nat) (st:St → Vars → Tk → Except Int (Vars × Tk)):Prop:=∀ s v t n m v' t',stW d s n = .ok m → TkLe t n → st s v t = .ok (v',t') → TkLe t' m ∧ v'.length + n ≤ v.length + m ∧ v <+: v'
theorem stW_open {d:Nat} {s:St} {n m:Nat} (h:stW (d + 1) s n = .ok m):1 ≤ s.kind ∧ s.kind ≤ 9 ∧ n + 1 ≤ 2000 ∧ (s.kind = 6 ∧ m = n + 1 ∨ s.kind ≠ 6 ∧ ∃ m1,exW d s.x (n + 1) = .ok m1 ∧ stTail (stW d) s m1 = .ok m):=by
 unfold stW at h
 by_cases h0:nodeW s.kind 9 (d + 1) n ≠ 0
 ·rw [if_pos h0] at h; cases h
 ·rw [if_neg h0] at h
  have h1:¬ (2000 < n + 1 ∨ d + 1 = 0) ∧ ¬ (s.kind < 1 ∨ 9 < s.kind):=by
   unfold nodeW at h0
   refine ⟨fun hc => h0 (by rw [if_pos hc]; decide),fun hc => h0 ?_⟩
   by_cases hc2:2000 < n + 1 ∨ d + 1 = 0
   ·rw [if_pos hc2]; decide
   ·rw [if_neg hc2,if_pos hc]; decide
  refine ⟨by omega,by omega,by omega,?_⟩
  split at h
  ·cases h
  ·by_cases h6:s.kind = 6
   ·rw [if_pos h6] at h
    cases h
    exact .inl ⟨h6,rfl⟩
   ·rw [if_neg h6] at h
    refine .inr ⟨h6,?_⟩
    cases he:exW d s.x (n + 1) with
    | error e => rw [he] at h; cases h
    | ok m1 => rw [he] at h; exact ⟨m1,rfl,h⟩
theorem tail_plain {f:St → Nat → Except Int Nat} {s:St} {m1 m:Nat} (h:stTail f s m1 = .ok m) (hk:¬ (s.kind = 3 ∨ s.kind = 4)):m = m1:=by
 unfold stTail at h
 rw [if_neg hk] at h
 cases h
 rfl
theorem bodyOf_open {f:St → Nat → Except Int Nat} {l:List St} {n m:Nat} (h:bodyOf f l n = .ok m):l.length ≤ 50 ∧ runs f l n = .ok m:=by
 unfold bodyOf at h
 split at h
 ·cases h
 ·exact ⟨by omega,h⟩
theorem tail_while {f:St → Nat → Except Int Nat} {s:St} {m1 m:Nat} (h:stTail f s m1 = .ok m) (hk:s.kind = 4):bodyOf f s.body m1 = .ok m:=by
 unfold stTail at h
 rw [if_pos (.inr hk)] at h
 cases hb:bodyOf f s.body m1 with
 | error e => rw [hb] at h; cases h
 | ok m2 =>
  rw [hb] at h
  dsimp only at h
  rw [if_neg (by omega)] at h
  exact h
theorem tail_if {f:St → Nat → Except Int Nat} {s:St} {m1 m:Nat} (h:stTail f s m1 = .ok m) (hk:s.kind = 3):∃ m2,bodyOf f s.body m1 = .ok m2 ∧ bodyOf f s.els m2 = .ok m:=by
 unfold stTail at h
 rw [if_pos (.inl hk)] at h
 cases hb:bodyOf f s.body m1 with
 | error e => rw [hb] at h; cases h
 | ok m2 =>
  rw [hb] at h
  dsimp only at h
  rw [if_pos hk] at h
  exact ⟨m2,rfl,h⟩
theorem stW_ge:∀ (d:Nat) (s:St) (n m:Nat),stW d s n = .ok m → n + 1 ≤ m
 | 0,s,n,m,h => by unfold stW at h; cases h
 | d + 1,s,n,m,h => by
  obtain ⟨_,_,_,h1⟩:=stW_open h
  rcases h1 with ⟨_,rfl⟩ | ⟨_,m1,h2,h3⟩
  ·exact Nat.le_refl _
  ·have h4:=exW_ge d s.x (n + 1) m1 h2
   have key:∀ l n m,bodyOf (stW d) l n = .ok m → n ≤ m:=fun l n m hb => runs_ge (fun a n m h => by have:=stW_ge d a n m h; omega) l n m (bodyOf_open hb).2
   by_cases hk3:s.kind = 3
   ·obtain ⟨m2,h5,h6⟩:=tail_if h3 hk3
    have:=key _ _ _ h5
    have:=key _ _ _ h6
    omega
   ·by_cases hk4:s.kind = 4
    ·have:=key _ _ _ (tail_while h3 hk4)
     omega
    ·have:=tail_plain h3 (by omega)
     omega
theorem block_le {d:Nat} {st:St → Vars → Tk → Except Int (Vars × Tk)} (hst:StLe d st):∀ (l:List St) (v:Vars) (t:Tk) (n m:Nat) (v':Vars) (t':Tk),runs (stW d) l n = .ok m → TkLe t n → block st l v t = .ok (v',t') → TkLe t' m ∧ v'.length + n ≤ v.length + m ∧ v <+: v'
 | [],v,t,n,m,v',t',h,ht,hb => by
  cases h
  cases hb
  exact ⟨ht,Nat.le_refl _,List.prefix_refl _⟩
 | s :: l,v,t,n,m,v',t',h,ht,hb => by
  obtain ⟨k,h1,h2⟩:=runs_cons h
  obtain ⟨⟨v1,t1⟩,h3,h4⟩:=andThen_yes (show andThen (st s v t) (fun p => block st l p.1 p.2) = .ok (v',t') from hb)
  obtain ⟨a1,a2,a3⟩:=hst s v t n k v1 t1 h1 ht h3
  obtain ⟨b1,b2,b3⟩:=block_le hst l v1 t1 k m v' t' h2 a1 h4
  exact ⟨b1,by omega,a3.trans b3⟩
theorem inner_le {d:Nat} {st:St → Vars → Tk → Except Int (Vars × Tk)} (hst:StLe d st) {l:List St} {v:Vars} {t:Tk} {n m:Nat} {t':Tk} (h:bodyOf (stW d) l n = .ok m) (ht:TkLe t n) (hb:inner st l v t = .ok t'):TkLe t' m:=by
 obtain ⟨⟨v1,t1⟩,h1,h2⟩:=andThen_yes (show andThen (block st l v t) (fun p => .ok p.2) = .ok t' from hb)
 cases h2
 exact (block_le hst l v t n m v1 t1 (bodyOf_open h).2 ht h1).1
theorem stat_le (l:List Df) (me:Df):∀ d,StLe d (stat l me d)
 | 0 => fun s v t n m v' t' h => by unfold stW at h; cases h
 | d + 1 => fun s v t n m v' t' h ht hs => by
  have ih:=stat_le l me d
  have hge:=stW_ge (d + 1) s n m h
  obtain ⟨k1,k9,h2,h3⟩:=stW_open h
  have same:∀ {t1:Tk},TkLe t1 m → TkLe t1 m ∧ v.length + n ≤ v.length + m ∧ v <+: v:=fun h => ⟨h,by omega,List.prefix_refl _⟩
  unfold stat at hs
  have hex:=expr_le l me v d
  have mono1:TkLe t (n + 1):=ht.mono (by omega)
  have one:∀ {m1:Nat} {y:Ty} {t0 t1:Tk},exW d s.x (n + 1) = .ok m1 → TkLe t0 (n + 1) → must (expr l me v d) y [s.x] t0 = .ok t1 → TkLe t1 m1:=fun {m1 y t0 t1} hx h0 hm => must_le hex y [s.x] t0 (n + 1) m1 t1 (by simp [runs,hx]) h0 hm
  rcases h3 with ⟨h6,rfl⟩ | ⟨h6,m1,hx,htl⟩
  ·rw [if_neg (by omega),if_neg (by omega),if_neg (by omega),if_neg (by omega),if_neg (by omega),if_pos h6] at hs
   obtain ⟨u,_,h5⟩:=andThen_yes hs
   cases h5
   exact same mono1
  ·by_cases e1:s.kind = 1
   ·rw [if_pos e1] at hs
    have hm:=tail_plain htl (by omega)
    subst hm
    obtain ⟨p,h4,h5⟩:=andThen_yes hs
    split at h5
    ·cases h5
    ·cases h5
     exact ⟨hex s.x t (n + 1) _ p.1 p.2 hx mono1 h4,by simp; omega,List.prefix_append _ _⟩
   ·rw [if_neg e1] at hs
    by_cases e2:s.kind = 2
    ·rw [if_pos e2] at hs
     have hm:=tail_plain htl (by omega)
     subst hm
     obtain ⟨y,_,h5⟩:=andThen_yes hs
     obtain ⟨t1,h6,h7⟩:=andThen_yes h5
     cases h7
     exact same (one hx mono1 h6)
    ·rw [if_neg e2] at hs
     by_cases e3:s.kind = 3
     ·rw [if_pos e3] at hs
      obtain ⟨m2,hb1,hb2⟩:=tail_if htl e3
      obtain ⟨t1,h6,h7⟩:=andThen_yes hs
      obtain ⟨t2,h8,h9⟩:=andThen_yes h7
      obtain ⟨t3,h10,h11⟩:=andThen_yes h9
      cases h11
      exact same (inner_le ih hb2 (inner_le ih hb1 (one hx mono1 h6) h8) h10)
     ·rw [if_neg e3] at hs
      by_cases e4:s.kind = 4
      ·rw [if_pos e4] at hs
       obtain ⟨t1,h6,h7⟩:=andThen_yes hs
       obtain ⟨t2,h8,h9⟩:=andThen_yes h7
       cases h9
       exact same (inner_le ih (tail_while htl e4) (one hx mono1 h6) h8)
      ·have hm:=tail_plain htl (by omega)
       subst hm
       rw [if_neg e4] at hs
       by_cases e5:s.kind = 5
       ·rw [if_pos e5] at hs
        obtain ⟨u,_,h5⟩:=andThen_yes hs
        obtain ⟨t1,h7,h8⟩:=andThen_yes h5
        cases h8
        exact same (one hx mono1 h7)
       ·rw [if_neg e5,if_neg h6] at hs
        by_cases e7:s.kind = 7
        ·rw [if_pos e7] at hs
         obtain ⟨b,_,h5⟩:=andThen_yes hs
         obtain ⟨t1,h7,h8⟩:=andThen_yes h5
         cases h8
         exact same (one hx ⟨by have:=ht.1; simp; omega,by have:=ht.2.1; dsimp; omega,by have:=ht.2.2; dsimp; omega⟩ h7)
        ·rw [if_neg e7] at hs
         by_cases e8:s.kind = 8
         ·rw [if_pos e8] at hs
          obtain ⟨p,h4,h5⟩:=andThen_yes hs
          obtain ⟨u,_,h7⟩:=andThen_yes h5
          cases h7
          exact same (hex s.x t (n + 1) _ p.1 p.2 hx mono1 h4)
         ·rw [if_neg e8] at hs
          obtain ⟨p,h4,h5⟩:=andThen_yes hs
          cases h5
          exact same (hex s.x t (n + 1) _ p.1 p.2 hx mono1 h4)
end Sm
end Go.Proofs.YtbioaoangfiijaaGreatDoor
namespace Go.Proofs.YtbioaoangfiijaaGreatDoor
open Go.RowKit
namespace Sm
abbrev stB (s:Sy.St) (xa:Option Addr) (xc:Nat) (ba:Option Addr) (bc:Nat) (ea:Option Addr) (ec:Nat):Obj:=.cells #[.int .i64 s.kind,.string s.name,.int .i64 s.x.kind,.int .i64 s.x.n,.string s.x.name,.slice xa s.x.kids.length xc,.slice ba s.body.length bc,.slice ea s.els.length ec] 139 (0,0)
def CSt (K:BK) (me:Sy.Df) (d:Nat):Prop :=
 ∀ (s:Sy.St) (xa ba ea:Option Addr) (xc bc ec:Nat) (v:Vars) (t:Tk) (n m:Nat) (w:World) (r:Except Int (Value × Vars × Tk)),Hid (BW K w v t) → Hid (∃ h,StIn K.B w h s xa ba ea) → Hid (Sy.stW d s n = .ok m) → Hid (TkLe t n) → Hid (v.length ≤ n + 10) → n ≤ 2000 →
  Hid (r = andThen (stat K.l me d s v t) fun p => .ok (.tuple #[],p.1,p.2)) → Calls Tryz.prog 93 #[.pointer (some ⟨K.F,0,none⟩),stV s xa xc ba bc ea ec] w fun e w' => Bf K w v r e w'
def CBl (K:BK) (me:Sy.Df) (d:Nat):Prop :=
 ∀ (l:List Sy.St) (a:Option Addr) (c:Nat) (v:Vars) (t:Tk) (n m:Nat) (w:World) (r:Except Int (Value × Vars × Tk)),Hid (BW K w v t) → Hid (∃ h,RowIn K.B w (StIn K.B w h) l a) → Hid (Sy.bodyOf (Sy.stW d) l n = .ok m) → Hid (TkLe t n) → Hid (v.length ≤ n + 10) → n ≤ 2000 →
  Hid (r = andThen (inner (stat K.l me d) l v t) fun t => .ok (.tuple #[],v,t)) → Calls Tryz.prog 69 #[.pointer (some ⟨K.F,0,none⟩),.slice a l.length c] w fun e w' => Bf K w v r e w'
theorem take_pre {v v':Vars} (h:v <+: v'):v'.take v.length = v:=by
 obtain ⟨x,rfl⟩:=h
 simp
theorem block_any (K:BK) (me:Sy.Df) (d:Nat) (hS:Hid (CSt K me d)):CBl K me d:=by
 intro l a c v t n m w r h hrow hn ht hv h2 hr
 have hF:=h.out.lt
 obtain ⟨hl50,hn'⟩:=bodyOf_open hn.out
 obtain ⟨W0,hW0⟩:∃ W0,W0 = (w.alloc (pO K.F)).alloc (nO v.length):=⟨_,rfl⟩
 have HK0:Hid (Kpt K w W0):=by rw [hW0]; exact Kpt.grown (grown_a2 _ _) hF
 have HB0:Hid (BW K W0 v t):=by rw [hW0]; exact h.out.grown (grown_a2 _ _)
 have HP1:Hid (W0.heap[w.heap.size]? = some (pO K.F) ∧ Free K W0 w.heap.size):=by
  rw [hW0]
  exact (Kpt.alloc K _ _ (by simp; omega)).at (h.out.new _)
 have HP2:Hid (W0.heap[w.heap.size + 1]? = some (nO v.length) ∧ Free K W0 (w.heap.size + 1)):=by
  rw [hW0]
  refine ⟨?_,h.out.free (grown_a2 _ _) (by omega)⟩
  have:=heap_alloc_new (w.alloc (pO K.F)) (nO v.length)
  simpa using this
 have HRow:Hid (∃ h,RowIn K.B W0 (StIn K.B W0 h) l a):=by
  obtain ⟨hh,hR⟩:=hrow.out
  have hs:=h.out.same HK0.out
  exact ⟨hh,hR.same hs (fun s x b e => StIn.same hs hh s x b e)⟩
 have HR0:Hid (r = andThen (andThen (block (stat K.l me d) l v t) fun p => .ok p.2) fun t => .ok (.tuple #[],v,t)):=hr.out
 have HN0:Hid (Sy.runs (Sy.stW d) l n = .ok m):=hn'
 have HW0:Hid (W0 = _):=hW0
 obtain ⟨nl,hnl⟩:∃ nl,nl = l.length:=⟨_,rfl⟩
 have HNL:Hid (nl = l.length):=hnl
 have hl:nl ≤ 50:=by rw [hnl]; exact hl50
 rw [← hnl]
 clear hr hn' hW0 hl50 hnl
 go_enter_defers Tryz.func69,Tryz.ntmps69
 go_wp2_with fail
 refine (open_any K v t w h).mono ?_
 rintro e w1 ⟨rfl,hw1⟩
 rw [← HW0.out] at hw1
 have hw2:=hw1.symm
 subst hw2
 go_wp2
 go_loopw [12] (fun q wr => ∃ (j:Nat) (v':Vars) (t':Tk) (n':Nat),q = .int .i64 j ∧ j ≤ nl ∧ n' ≤ 2000 ∧ Hid (BW K wr v' t') ∧ Hid (Kpt K W0 wr) ∧ Hid (TkLe t' n') ∧ Hid (v'.length ≤ n' + 10) ∧ Hid (v <+: v') ∧ Hid (Sy.runs (Sy.stW d) (l.drop j) n' = .ok m) ∧ Hid (r = andThen (andThen (block (stat K.l me d) (l.drop j) v' t') fun p => .ok p.2) fun t => .ok (.tuple #[],v,t))) (fun q _ => nl - (intOf q).toNat)
 case atStart => exact ⟨0,v,t,n,rfl,Nat.zero_le _,h2,HB0,Kpt.refl _ _,ht,hv,List.prefix_refl _,by rw [List.drop_zero]; exact HN0,by rw [List.drop_zero]; exact HR0⟩
 case round =>
  obtain ⟨j,v',t',n',rfl,hj,hn2,HB,HK,HT,HV,HP,HN,HR⟩:=hrel
  have HP1':=hid (HK.out.at HP1.out)
  have HP2':=hid (HK.out.at HP2.out)
  have hFr:=HB.out.lt
  by_cases hlt:j < nl
  ·have hj1:j < l.length:=by rw [← HNL.out]; exact hlt
   obtain ⟨s,hs⟩:∃ s,l[j]? = some s:=⟨_,List.getElem?_eq_getElem hj1⟩
   have hdr:l.drop j = s :: l.drop (j + 1):=by rw [List.drop_eq_getElem_cons hj1,(List.getElem?_eq_some_iff.1 hs).2]
   have hsame:=HB0.out.same HK.out
   obtain ⟨hh,hRow⟩:=HRow.out
   obtain ⟨b,off,xa,xc,ba,bc,ea,ec,ha,hb,k0,k1,k2,k3,k4,k5,k6,k7,hst⟩:=(hRow.same hsame (fun s x b e => StIn.same hsame hh s x b e)) j s hs
   obtain ⟨n1,hx1,hn1⟩:=runs_cons (by have:=HN.out; rw [hdr] at this; exact this)
   have hn12:n1 ≤ 2000:=Sy.stW_le d s n' n1 hn2 hx1
   obtain ⟨er,her⟩:∃ er,er = stat K.l me d s v' t':=⟨_,rfl⟩
   have HEr:Hid (er = stat K.l me d s v' t'):=her
   have HRr:Hid (r = andThen er fun p => andThen (andThen (block (stat K.l me d) (l.drop (j + 1)) p.1 p.2) fun p => .ok p.2) fun t => .ok (.tuple #[],v,t)):=by
    unfold Hid
    rw [HR.out,hdr,block,her]
    cases stat K.l me d s v' t' <;> rfl
   have HX1:Hid (Sy.stW d s n' = .ok n1):=hx1
   have HN1:Hid (Sy.runs (Sy.stW d) (l.drop (j + 1)) n1 = .ok m):=hn1
   obtain ⟨W2,hW2⟩:∃ W2,W2 = wr.alloc (stB s xa xc ba bc ea ec):=⟨_,rfl⟩
   have HW2:Hid (W2 = _):=hW2
   have HK2:Hid (Kpt K wr W2):=by rw [hW2]; exact Kpt.alloc K wr _ hFr
   have HB2:Hid (BW K W2 v' t'):=by rw [hW2]; exact HB.out.grown (grown_a _)
   have HS2:Hid (∃ h,StIn K.B W2 h s xa ba ea):=⟨hh,StIn.same (HB.out.same HK2.out) hh s xa ba ea hst⟩
   have hbw:b < wr.heap.size:=by have:=HB.out.base; omega
   have HJ:Hid (j + 1 ≤ nl):=hlt
   have hjp:(j:Int) < (nl:Int):=by omega
   subst ha
   clear hdr hs hsame hRow hx1 hn1 her hW2 hst
   go_wp2_with fail
   rw [← HW2.out]
   refine (hS.out s xa ba ea xc bc ec v' t' n' n1 W2 _ HB2 HS2 HX1 HT HV hn2 (by rw [← HEr.out]; exact rfl)).mono ?_
   rintro e w3 ⟨hk3,he3⟩
   have HK03:Hid (Kpt K W0 w3):=(HK.out.trans HK2.out).trans hk3
   have HP13:=hid (HK03.out.at HP1.out)
   have HP23:=hid (HK03.out.at HP2.out)
   cases er with
   | error y =>
    obtain ⟨rfl,v2,t2,hb2,hp2⟩:=he3
    have HB3:Hid (BW K w3 v2 t2):=hb2
    have HPP:Hid (v <+: v2):=HP.out.trans hp2
    have HRy:Hid (r = .error y):=HRr.out
    clear hk3 hb2 hp2
    go_wp2
    refine leaves_cons (f:=104) (args:=#[.pointer (some ⟨w.heap.size,0,none⟩),.pointer (some ⟨w.heap.size + 1,0,none⟩)]) (by simp) (by simp [go_sem]) ?_
    refine (close_any K v2 t2 v.length w.heap.size (w.heap.size + 1) _ _ HB3 HPP.out.length_le (hid HP13.out.1) (hid HP23.out.1) (hid HP13.out.2) (hid HP23.out.2)).mono ?_
    rintro e u' w4 ⟨rfl,rfl,hb4,hk4⟩
    rw [take_pre HPP.out] at hb4
    refine ⟨(HK0.out.trans HK03.out).trans hk4,?_⟩
    rw [HRy.out]
    exact ⟨rfl,v,t2,hb4,List.prefix_refl _⟩
   | ok p =>
    obtain ⟨v1,t1⟩:=p
    obtain ⟨rfl,hb3⟩:=he3
    have HB3:Hid (BW K w3 v1 t1):=hb3
    obtain ⟨l1,l2,l3⟩:=stat_le K.l me d s v' t' n' n1 v1 t1 HX1.out HT.out HEr.out.symm
    have HT1:Hid (TkLe t1 n1):=l1
    have HV1:Hid (v1.length ≤ n1 + 10):=by have:=HV.out; unfold Hid; omega
    have HPv:Hid (v <+: v1):=HP.out.trans l3
    have HRn:Hid (r = andThen (andThen (block (stat K.l me d) (l.drop (j + 1)) v1 t1) fun p => .ok p.2) fun t => .ok (.tuple #[],v,t)):=HRr.out
    clear hk3 hb3 l1 l2 l3
    go_wp2
    go_roundw
    case rel => exact ⟨j + 1,v1,t1,n1,by go_num,HJ.out,hn12,HB3,HK03,HT1,HV1,HPv,HN1,HRn⟩
    case measure => have:=HJ.out; simp [intOf]; omega
  ·have HRe:Hid (r = .ok (.tuple #[],v,t')):=by
    have h1:=HR.out
    have h2:=HNL.out
    rw [List.drop_of_length_le (by omega)] at h1
    exact h1
   have hjp:¬ (j:Int) < (nl:Int):=by omega
   go_wp2
   refine leaves_cons (f:=104) (args:=#[.pointer (some ⟨w.heap.size,0,none⟩),.pointer (some ⟨w.heap.size + 1,0,none⟩)]) (by simp) (by simp [go_sem]) ?_
   refine (close_any K v' t' v.length w.heap.size (w.heap.size + 1) _ _ HB HP.out.length_le (hid HP1'.out.1) (hid HP2'.out.1) (hid HP1'.out.2) (hid HP2'.out.2)).mono ?_
   rintro e u' w4 ⟨rfl,rfl,hb4,hk4⟩
   rw [take_pre HP.out] at hb4
   show Leaves _ _ _ _ [] .returning _
   refine ⟨.tuple #[],by simp [results,Tryz.results69,go_sem],(HK0.out.trans HK.out).trans hk4,?_⟩
   rw [HRe.out]
   exact ⟨rfl,hb4⟩
end Sm
end Go.Proofs.YtbioaoangfiijaaGreatDoor

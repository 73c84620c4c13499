/- The walks of the checker's valueType,params,kidsOf. -/
import Derived.Test.YtbioaoangfiijaaGreatDoorM24
import Derived.Deep.Cut
import Derived.Deep.DeepCutAuto
import Derived.Deep.CutBlock
set_option maxRecDepth 100000
set_option maxHeartbeats 2000000
namespace Go.Proofs.YtbioaoangfiijaaGreatDoor
open Go.RowKit
theorem Calls.ok0 {f:FuncId} {a:Array Value} {w:World} {num er:Int} (h:Calls Tryz.prog f a w (fun e w' => Fate0 num er w e w')) (h0:er = 0) :
  Calls Tryz.prog f a w fun e w' => e = .returned (.tuple #[]) ∧ w.grownBy w' none:=h.mono (fun _ _ hf => ⟨fate0_not hf h0,hf.1⟩)
theorem Calls.bad0 {f:FuncId} {a:Array Value} {w:World} {num er:Int} (k:Int) (h:Calls Tryz.prog f a w (fun e w' => Fate0 num er w e w')) (h0:er = k) (hk:k ≠ 0) :
  Calls Tryz.prog f a w fun e w' => e = .panicked [fltE k num] ∧ w.grownBy w' none:=h.mono (fun _ _ hf => ⟨by rw [fate0_err hf (by omega),h0],hf.1⟩)
theorem box_in {w w1:World} {o:Obj} {r:Option Nat} (hg:(w.alloc o).grownBy w1 r) (hr:r ≠ some w.heap.size):w1.heap[w.heap.size]? = some o :=
 (hg.block _ (by simp) (fun e => hr e.symm)).trans (heap_alloc_new w o)
theorem box_on {w1 w2:World} {o:Obj} {r:Option Nat} {b:Nat} (h:w1.heap[b]? = some o) (hg:w1.grownBy w2 r) (hr:r ≠ some b):w2.heap[b]? = some o :=
 (hg.block _ (lt_of_block h) (fun e => hr e.symm)).trans h
theorem grown_some {w w':World} (h:w.grownBy w' none) (r:Option Nat):w.grownBy w' r:=⟨h.os,h.tape,h.output,h.size,fun k hk _ => h.block k hk (by simp)⟩
theorem alloc_grown {w w1:World} {o:Obj} {r:Option Nat} (hg:(w.alloc o).grownBy w1 r):w.grownBy w1 r:=grown_trans (World.grownBy_alloc _ _ _) hg
theorem CK.alloc {w:World} {C n:Nat} {num:Int} (h:CK w C num n) (o:Obj):CK (w.alloc o) C num n:=h.keep (World.grownBy_alloc w o none) (by simp)
theorem ret_two {k j:IntKind} {a b c d:Int} (h:a = b) (h2:c = d):Ending.returned (.tuple #[.int k a,.int j c]) = .returned (.tuple #[.int k b,.int j d]):=by rw [h,h2]
theorem ty_any (C n:Nat) (num er:Int) (t:Sy.Ty) (w:World) (hC:Hid (CK w C num n)) (hs:t.gen.size ≤ maxLen) (he:Hid (er = Sy.tyW t)) :
  Calls Tryz.prog 60 #[.pointer (some ⟨C,0,none⟩),tyV t] w fun e w' => Fate0 num er w e w':=by
 have hlt:=hC.out.lt
 by_cases h1:t.kind < 1 ∨ 3 < t.kind
 ·have HE:Hid (er = 1):=by have:=he.out; unfold Sy.tyW at this; rw [if_pos h1] at this; exact this
  have HK:Hid ((1:Int) = if t.kind < 1 ∨ 3 < t.kind then 1 else 0):=by rw [if_pos h1]; rfl
  clear h1
  have HC0:Hid (CK (w.alloc (.cells #[.int .i64 t.kind,.string t.gen] 35)) C num n):=hC.out.alloc _
  go_enter Tryz.func60,Tryz.ntmps60
  go_wp2_with fail
  refine (Calls.bad0 1 (kind_any C n num t.kind 3 1 _ HC0 HK) rfl (by decide)).mono ?_
  rintro e w1 ⟨rfl,hg⟩
  go_wp2
  exact ⟨rfl,fate0_bad (alloc_grown hg) HE.out (by decide)⟩
 ·have HK:Hid ((0:Int) = if t.kind < 1 ∨ 3 < t.kind then 1 else 0):=by rw [if_neg h1]; rfl
  have HX:Hid (er = if t.kind = 3 ∧ Sy.nm t.gen = false then 7 else 0):=by have:=he.out; unfold Sy.tyW at this; rw [if_neg h1] at this; exact this
  clear h1
  by_cases h3:t.kind = 3
  ·have H3:Hid (t.kind = 3):=h3
   obtain ⟨er2,hE2⟩:∃ er2:Int,er2 = if Sy.nm t.gen = false then 7 else 0:=⟨_,rfl⟩
   have HE2:Hid (er2 = if Sy.nm t.gen = false then 7 else 0):=hE2
   have HX2:Hid (er = er2):=by have:=HX.out; simp only [H3.out,true_and] at this; rw [this,hE2]; rfl
   have e3:(t.kind == 3) = true:=by simp [h3]
   clear h3 hE2
   have HC0:Hid (CK (w.alloc (.cells #[.int .i64 t.kind,.string t.gen] 35)) C num n):=hC.out.alloc _
   go_enter Tryz.func60,Tryz.ntmps60
   go_wp2_with fail
   refine (Calls.ok0 (kind_any C n num t.kind 3 0 _ HC0 HK) rfl).mono ?_
   rintro e w1 ⟨rfl,hg⟩
   have hb:=two_cell (box_in hg (by simp))
   obtain ⟨b0,b1,_,_⟩:=hb
   have HC1:Hid (CK w1 C num n):=HC0.out.keep hg (by simp)
   have HG:Hid (w.grownBy w1 none):=alloc_grown hg
   clear hg
   go_wp2_with fail
   refine (cname_any C n num er2 t.gen _ HC1 hs HE2).mono ?_
   rintro e w2 hf
   have HF:Hid (Fate0 num er2 w1 e w2):=hf
   clear hf
   by_cases h0:er2 = 0
   ·obtain rfl:=fate0_not HF.out h0
    have H0:Hid (er2 = 0):=h0
    clear h0
    go_wp2
    go_end0
    exact fate0_ok (grown_trans HG.out HF.out.1) (by rw [HX2.out]; exact H0.out)
   ·obtain rfl:=fate0_err HF.out h0
    have H0:Hid (er2 ≠ 0):=h0
    clear h0
    go_wp2
    exact ⟨rfl,fate0_bad (grown_trans HG.out HF.out.1) HX2.out H0.out⟩
  ·have HE:Hid (er = 0):=by have:=HX.out; rw [if_neg (by simp [h3])] at this; exact this
   have e3:(t.kind == 3) = false:=by simp [h3]
   clear h3
   have HC0:Hid (CK (w.alloc (.cells #[.int .i64 t.kind,.string t.gen] 35)) C num n):=hC.out.alloc _
   go_enter Tryz.func60,Tryz.ntmps60
   go_wp2_with fail
   refine (Calls.ok0 (kind_any C n num t.kind 3 0 _ HC0 HK) rfl).mono ?_
   rintro e w1 ⟨rfl,hg⟩
   have hb:=two_cell (box_in hg (by simp))
   obtain ⟨b0,b1,_,_⟩:=hb
   have HG:Hid (w.grownBy w1 none):=alloc_grown hg
   clear hg
   go_wp2
   go_end0
   exact fate0_ok HG.out HE.out
theorem kidsOf_any (k:Int) (w:World) :
  Calls Tryz.prog 112 #[.int .i64 k] w fun e w' => e = .returned (.tuple #[.int .i64 (Sy.least k),.int .i64 (Sy.most k)]) ∧ w' = w:=by
 obtain ⟨l,hl⟩:∃ l,Sy.least k = l:=⟨_,rfl⟩
 obtain ⟨m,hm⟩:∃ m,Sy.most k = m:=⟨_,rfl⟩
 rw [hl,hm]
 have HL:Hid (Sy.least k = l):=hl
 have HM:Hid (Sy.most k = m):=hm
 clear hl hm
 go_enter Tryz.func112,Tryz.ntmps112
 go_wp2
 all_goals go_ret2
 all_goals refine ⟨ret_two ?_ ?_,rfl⟩
 all_goals first | rw [← HL.out] | rw [← HM.out]
 all_goals
  clear HL HM
  simp only [beq_iff_eq,beq_eq_false_iff_ne,ne_eq] at *
  first | unfold Sy.least | unfold Sy.most
  repeat' split
  all_goals omega
theorem three_cell {w:World} {b:Nat} {v0 v1 v2:Value} {t:TypeId} (h:w.heap[b]? = some (.cells #[v0,v1,v2] t (0,0))) :
  w.cell? ⟨b,0,none⟩ = some v0 ∧ w.cell? ⟨b,1,none⟩ = some v1 ∧ w.cell? ⟨b,2,none⟩ = some v2:=by simp [World.cell?,h]
theorem pmsW_at {l:List Sy.Pm} {k:Nat} {p:Sy.Pm} (h:l[k]? = some p):Sy.pmsW (l.drop k) = if Sy.nm p.name = false then 7 else if Sy.tyW p.ty ≠ 0 then Sy.tyW p.ty else Sy.pmsW (l.drop (k + 1)):=by
 obtain ⟨hk,rfl⟩:=List.getElem?_eq_some_iff.1 h
 rw [List.drop_eq_getElem_cons hk]
 rfl
theorem params_any (C B n:Nat) (num er:Int) (l:List Sy.Pm) (a:Option Addr) (c:Nat) (w:World) (hBC:B ≤ C) (hC:Hid (CK w C num n)) (hP:Hid (PmsIn B w l a)) (he:Hid (er = if 6 < l.length then 5 else Sy.pmsW l)) :
  Calls Tryz.prog 59 #[.pointer (some ⟨C,0,none⟩),.slice a l.length c] w fun e w' => Fate0 num er w e w':=by
 have hlen:=hP.out.1
 unfold maxLen at hlen
 obtain ⟨L,hL⟩:∃ L,l.length = L:=⟨_,rfl⟩
 have HL:Hid (l.length = L):=hL
 rw [hL] at he hlen ⊢
 clear hL
 have hCl:=hC.out.lt
 by_cases h6:6 < L
 ·have HE:Hid (er = 5):=by rw [if_pos h6] at he; exact he
  have HK:Hid ((5:Int) = if (6:Int) < (L:Int) then 5 else 0):=by rw [if_pos (by omega)]; rfl
  clear h6
  go_enter Tryz.func59,Tryz.ntmps59
  go_wp2_with fail
  refine (Calls.bad0 5 (atMost_any C n num L 6 5 _ hC HK) rfl (by decide)).mono ?_
  rintro e w1 ⟨rfl,hg⟩
  go_wp2
  exact ⟨rfl,fate0_bad hg HE.out (by decide)⟩
 ·have HE:Hid (er = Sy.pmsW l):=by rw [if_neg h6] at he; exact he
  have HK:Hid ((0:Int) = if (6:Int) < (L:Int) then 5 else 0):=by rw [if_neg (by omega)]; rfl
  have h6':L ≤ 6:=by omega
  clear h6
  go_enter Tryz.func59,Tryz.ntmps59
  go_wp2_with fail
  refine (Calls.ok0 (atMost_any C n num L 6 0 _ hC HK) rfl).mono ?_
  rintro e w1 ⟨rfl,hg⟩
  have HG:Hid (w.grownBy w1 none):=hg
  clear hg
  go_wp2
  go_loopw [12] (fun i wr => ∃ k:Nat,k ≤ L ∧ i = .int .i64 k ∧ Hid (w.grownBy wr none) ∧ Hid (er = Sy.pmsW (l.drop k))) (fun i _ => L - (intOf i).toNat)
  case atStart => exact ⟨0,Nat.zero_le _,rfl,HG,HE⟩
  case round =>
   obtain ⟨k,hk,rfl,HGr,HEr⟩:=hrel
   by_cases hlt:k < L
   ·obtain ⟨p,hp⟩:∃ p,l[k]? = some p:=⟨_,List.getElem?_eq_getElem (by rw [HL.out]; exact hlt)⟩
    have hPr:=hP.out.same (same_grown (C:=none) HGr.out (by simp) (by omega))
    obtain ⟨b,off,rfl,hb,c0,c1,c2,s0,s1⟩:=hPr.2 k p hp
    have HE2:Hid (er = if Sy.nm p.name = false then 7 else if Sy.tyW p.ty ≠ 0 then Sy.tyW p.ty else Sy.pmsW (l.drop (k + 1))):=HEr.out.trans (pmsW_at hp)
    have HCr:Hid (CK wr C num n):=hC.out.keep HGr.out (by simp)
    clear hPr hp HEr
    obtain ⟨e1,hE1⟩:∃ e1:Int,e1 = if Sy.nm p.name = false then 7 else 0:=⟨_,rfl⟩
    have HE1:Hid (e1 = if Sy.nm p.name = false then 7 else 0):=hE1
    clear hE1
    go_wp2_with fail
    refine (cname_any C n num e1 p.name _ (HCr.out.alloc _) s0 HE1).mono ?_
    rintro e w2 hf
    have HF:Hid (Fate0 num e1 _ e w2):=hf
    clear hf
    by_cases h0:e1 = 0
    ·obtain rfl:=fate0_not HF.out h0
     have HN:Hid (Sy.nm p.name = true):=by
      have:=HE1.out; rw [h0] at this
      cases hh:Sy.nm p.name
      ·rw [if_pos hh] at this; omega
      ·rfl
     have HE3:Hid (er = if Sy.tyW p.ty ≠ 0 then Sy.tyW p.ty else Sy.pmsW (l.drop (k + 1))):=by
      have:=HE2.out; rw [if_neg (by rw [HN.out]; decide)] at this; exact this
     obtain ⟨t0,t1,t2⟩:=three_cell (box_in HF.out.1 (by simp))
     have HC2:Hid (CK w2 C num n):=(HCr.out.alloc _).keep HF.out.1 (by simp)
     have HG2:Hid (w.grownBy w2 none):=grown_trans HGr.out (alloc_grown HF.out.1)
     obtain ⟨e2,hE2⟩:∃ e2:Int,e2 = Sy.tyW p.ty:=⟨_,rfl⟩
     have HE4:Hid (e2 = Sy.tyW p.ty):=hE2
     clear h0 hE2 c0 c1 c2
     go_wp2_with fail
     refine (ty_any C n num e2 p.ty _ HC2 s1 HE4).mono ?_
     rintro e w3 hf
     have HF3:Hid (Fate0 num e2 w2 e w3):=hf
     have HG3:Hid (w.grownBy w3 none):=grown_trans HG2.out hf.1
     clear hf
     by_cases h0:e2 = 0
     ·obtain rfl:=fate0_not HF3.out h0
      have HE5:Hid (er = Sy.pmsW (l.drop (k + 1))):=by
       have:=HE3.out; rw [if_neg (by rw [← HE4.out]; simp [h0])] at this; exact this
      clear h0 t0 t1 t2
      go_wp2
      go_roundw
      case rel => exact ⟨k + 1,by omega,by go_num,HG3,HE5⟩
      case measure => simp [intOf]; omega
     ·obtain rfl:=fate0_err HF3.out h0
      have HE5:Hid (er = e2):=by
       have:=HE3.out; rw [if_pos (by rw [← HE4.out]; exact h0),← HE4.out] at this; exact this
      have H0:Hid (e2 ≠ 0):=h0
      clear h0 t0 t1 t2
      go_wp2
      exact ⟨rfl,fate0_bad HG3.out HE5.out H0.out⟩
    ·obtain rfl:=fate0_err HF.out h0
     have HN:Hid (e1 = 7 ∧ er = 7):=by
      cases hh:Sy.nm p.name
      ·exact ⟨by have:=HE1.out; rw [if_pos hh] at this; exact this,by have:=HE2.out; rw [if_pos hh] at this; exact this⟩
      ·exact absurd (by have:=HE1.out; rw [if_neg (by rw [hh]; decide)] at this; exact this) h0
     have H0:Hid (e1 ≠ 0):=h0
     clear h0 c0 c1 c2
     go_wp2
     exact ⟨rfl,fate0_bad (grown_trans HGr.out (alloc_grown HF.out.1)) (by rw [HN.out.1,HN.out.2]) H0.out⟩
   ·have HE0:Hid (er = 0):=by
     have:=HEr.out
     rw [List.drop_of_length_le (by rw [HL.out]; omega)] at this
     exact this
    go_wp2
    go_end0
    exact fate0_ok HGr.out HE0.out
theorem four_cellC {w:World} {b:Nat} {v0 v1 v2 v3:Value} {t:TypeId} (h:w.heap[b]? = some (.cells #[v0,v1,v2,v3] t (0,0))) :
  w.cell? ⟨b,0,none⟩ = some v0 ∧ w.cell? ⟨b,1,none⟩ = some v1 ∧ w.cell? ⟨b,2,none⟩ = some v2 ∧ w.cell? ⟨b,3,none⟩ = some v3:=by simp [World.cell?,h]
def exTail (x:Sy.Ex):Int:=if (x.kids.length:Int) < Sy.least x.kind ∨ Sy.most x.kind < x.kids.length then 5 else 0
theorem exHead_num {x:Sy.Ex} (h:x.kind = 1):Sy.exHead x = if x.n < 0 ∨ 999999999999999 < x.n then 3 else exTail x:=by
 unfold Sy.exHead exTail
 by_cases hr:x.n < 0 ∨ 999999999999999 < x.n
 ·rw [if_pos (.inl ⟨h,hr⟩),if_pos hr]
 ·rw [if_neg (by rintro (⟨_,h2⟩ | ⟨h2,_⟩) <;> omega),if_neg hr,if_neg (by omega)]
theorem exHead_bool {x:Sy.Ex} (h:x.kind = 2):Sy.exHead x = if x.n < 0 ∨ 1 < x.n then 3 else exTail x:=by
 unfold Sy.exHead exTail
 by_cases hr:x.n < 0 ∨ 1 < x.n
 ·rw [if_pos (.inr ⟨h,hr⟩),if_pos hr]
 ·rw [if_neg (by rintro (⟨h2,_⟩ | ⟨_,h2⟩) <;> omega),if_neg hr,if_neg (by omega)]
theorem exHead_name {x:Sy.Ex} (h:x.kind = 3 ∨ x.kind = 19 ∨ x.kind = 20 ∨ x.kind = 22):Sy.exHead x = if Sy.nm x.name = false then 7 else exTail x:=by
 unfold Sy.exHead exTail
 rw [if_neg (by rintro (⟨h2,_⟩ | ⟨h2,_⟩) <;> omega)]
 cases hn:Sy.nm x.name
 ·rw [if_pos ⟨h,rfl⟩,if_pos rfl]
 ·rw [if_neg (by rintro ⟨_,h2⟩; exact absurd h2 (by decide)),if_neg (show ¬ (true = false) by decide)]
theorem exHead_else {x:Sy.Ex} (h:x.kind ≠ 1 ∧ x.kind ≠ 2 ∧ x.kind ≠ 3 ∧ x.kind ≠ 19 ∧ x.kind ≠ 20 ∧ x.kind ≠ 22):Sy.exHead x = exTail x:=by
 unfold Sy.exHead exTail
 rw [if_neg (by rintro (⟨h2,_⟩ | ⟨h2,_⟩) <;> omega),if_neg (by omega)]
theorem exW_bad {d:Nat} {x:Sy.Ex} {n:Nat} (h:Sy.nodeW x.kind 24 (d + 1) n ≠ 0):Sy.exW (d + 1) x n = .error (Sy.nodeW x.kind 24 (d + 1) n):=by
 unfold Sy.exW; rw [if_pos h]
theorem exW_head {d:Nat} {x:Sy.Ex} {n:Nat} (h:Sy.nodeW x.kind 24 (d + 1) n = 0) (k:Int) (hk:Sy.exHead x = k) (h0:k ≠ 0):Sy.exW (d + 1) x n = .error k:=by
 unfold Sy.exW; rw [if_neg (by simpa using h),if_pos (by rw [hk]; exact h0),hk]
theorem exW_kids {d:Nat} {x:Sy.Ex} {n:Nat} (h:Sy.nodeW x.kind 24 (d + 1) n = 0) (hk:Sy.exHead x = 0):Sy.exW (d + 1) x n = Sy.runs (Sy.exW d) x.kids (n + 1):=by
 conv => lhs; unfold Sy.exW
 rw [if_neg (by simpa using h),if_neg (by simpa using hk)]
def ExMid (w:World) (C:Nat) (num:Int) (x:Sy.Ex) (a:Option Addr) (c n:Nat) (w1:World):Prop :=
 w.grownBy w1 (some C) ∧ CK w1 C num n ∧ w1.heap[w.heap.size]? = some (.cells #[.int .i64 x.kind,.int .i64 x.n,.string x.name,.slice a x.kids.length c] 137 (0,0))
theorem ExMid.on {w:World} {C:Nat} {num:Int} {x:Sy.Ex} {a:Option Addr} {c n:Nat} {w1 w2:World} (h:ExMid w C num x a c n w1) (hg:w1.grownBy w2 none):ExMid w C num x a c n w2 :=
 ⟨grown_trans h.1 (grown_some hg _),h.2.1.keep hg (by simp),box_on h.2.2 hg (by simp)⟩
theorem hideC {p:Prop} (h:p):Hid p:=h
theorem runs_ok {α:Type} {f:α → Nat → Except Int Nat} {l:List α} {k n m:Nat} {a:α} (h:l[k]? = some a) (hf:f a n = .ok m):Sy.runs f (l.drop k) n = Sy.runs f (l.drop (k + 1)) m:=by
 rw [Sy.runs_at h,hf]
theorem runs_err {α:Type} {f:α → Nat → Except Int Nat} {l:List α} {k n:Nat} {a:α} {e:Int} (h:l[k]? = some a) (hf:f a n = .error e):Sy.runs f (l.drop k) n = .error e:=by
 rw [Sy.runs_at h,hf]
theorem expr_zero (C:Nat) (num:Int) (x:Sy.Ex) (a:Option Addr) (c n:Nat) (deep:Int) (r:Except Int Nat) (w:World) (hdeep:deep = 41 - ((0:Nat):Int)) (hC:Hid (CK w C num n)) (hn:n ≤ 2000) (hr:Hid (r = Sy.exW 0 x n)) :
  Calls Tryz.prog 103 #[.pointer (some ⟨C,0,none⟩),exV x a c,.int .i64 deep] w fun e w' => w.grownBy w' (some C) ∧ Fate C num r e w':=by
 have HD:Hid (deep = 41 - ((0:Nat):Int)):=hdeep
 clear hdeep
 have HC0:Hid (CK (w.alloc (.cells #[.int .i64 x.kind,.int .i64 x.n,.string x.name,.slice a x.kids.length c] 137)) C num n):=hC.out.alloc _
 have HR:Hid (r = .error 4):=hr.out
 have HR1:Hid (Except.error 4 = nodeR x.kind 24 0 n):=by
  have h4:Sy.nodeW x.kind 24 0 n = 4:=by unfold Sy.nodeW; rw [if_pos (.inr rfl)]
  unfold nodeR; rw [h4]; rfl
 go_enter Tryz.func103,Tryz.ntmps103
 go_wp2_with fail
 refine (node_any C n 0 num x.kind 24 deep _ _ HC0 hn HD.out HR1).mono ?_
 rintro e w1 ⟨hg,hf⟩
 obtain rfl:e = .panicked [fltE 4 num]:=hf
 go_wp2
 exact ⟨rfl,alloc_grown hg,by rw [HR.out]; rfl⟩
theorem expr_step (C B d:Nat) (num:Int) (hBC:B ≤ C)
  (ih:∀ (h:Nat) (x:Sy.Ex) (a:Option Addr) (c n:Nat) (deep:Int) (r:Except Int Nat) (w:World),deep = 41 - d → d ≤ 41 → Hid (ExIn B w h x a) → Hid (CK w C num n) → n ≤ 2000 → Hid (r = Sy.exW d x n) →
   Calls Tryz.prog 103 #[.pointer (some ⟨C,0,none⟩),exV x a c,.int .i64 deep] w fun e w' => w.grownBy w' (some C) ∧ Fate C num r e w')
  (h:Nat) (x:Sy.Ex) (a:Option Addr) (c n:Nat) (deep:Int) (r:Except Int Nat) (w:World) (hdeep:deep = 41 - ((d + 1:Nat):Int)) (hd:d + 1 ≤ 41) (hX:Hid (ExIn B w (h + 1) x a)) (hC:Hid (CK w C num n)) (hn:n ≤ 2000) (hr:Hid (r = Sy.exW (d + 1) x n)) :
  Calls Tryz.prog 103 #[.pointer (some ⟨C,0,none⟩),exV x a c,.int .i64 deep] w fun e w' => w.grownBy w' (some C) ∧ Fate C num r e w':=by
 have HD:Hid (deep = 41 - ((d + 1:Nat):Int)):=hdeep
 have hdp0:0 ≤ deep:=by omega
 have hdp1:deep ≤ 40:=by omega
 clear hdeep
 have hlen:=hX.out.2.1
 have hname:=hX.out.1
 have hCl:=hC.out.lt
 unfold maxLen at hlen
 have HC0:Hid (CK (w.alloc (.cells #[.int .i64 x.kind,.int .i64 x.n,.string x.name,.slice a x.kids.length c] 137)) C num n):=hC.out.alloc _
 obtain ⟨r1,hr1⟩:∃ r1,r1 = nodeR x.kind 24 (d + 1) n:=⟨_,rfl⟩
 have HR1:Hid (r1 = nodeR x.kind 24 (d + 1) n):=hr1
 by_cases hnode:Sy.nodeW x.kind 24 (d + 1) n = 0
 ·have hr1':r1 = .ok (n + 1):=by rw [hr1]; unfold nodeR; rw [if_neg (by simpa using hnode)]
  obtain ⟨hn1,hk1,hk2,_⟩:=Sy.nodeW_zero hnode
  have HN:Hid (Sy.nodeW x.kind 24 (d + 1) n = 0):=hnode
  clear hnode hr1
  subst hr1'
  have HTO:Hid (Sy.exHead x = exTail x → r = if exTail x ≠ 0 then .error (exTail x) else Sy.runs (Sy.exW d) x.kids (n + 1)):=fun hh => by
   by_cases ht:exTail x = 0
   ·rw [if_neg (by simpa using ht)]; exact hr.out.trans (exW_kids HN.out (by rw [hh,ht]))
   ·rw [if_pos (by simpa using ht)]; exact hr.out.trans (exW_head HN.out _ hh ht)
  go_enter Tryz.func103,Tryz.ntmps103
  go_wp2_with fail
  refine (node_any C n (d + 1) num x.kind 24 deep _ _ HC0 hn HD.out HR1).mono ?_
  rintro e w1 ⟨hg,hf⟩
  obtain ⟨rfl,hck⟩:=hf
  have HM:Hid (ExMid w C num x a c (n + 1) w1):=⟨alloc_grown hg,hck,box_in hg (by simp; omega)⟩
  clear hg hck
  obtain ⟨b0,b1,b2,b3⟩:=four_cellC HM.out.2.2
  go_upto_block 0 with fail
  go_cut [] (fun wx => Hid (ExMid w C num x a c (n + 1) wx) ∧ Hid (r = if exTail x ≠ 0 then .error (exTail x) else Sy.runs (Sy.exW d) x.kids (n + 1)))
  case first =>
   rcases (show x.kind = 1 ∨ x.kind = 2 ∨ (x.kind = 3 ∨ x.kind = 19 ∨ x.kind = 20 ∨ x.kind = 22) ∨ (x.kind ≠ 1 ∧ x.kind ≠ 2 ∧ x.kind ≠ 3 ∧ x.kind ≠ 19 ∧ x.kind ≠ 20 ∧ x.kind ≠ 22) by omega) with h1 | h1 | h1 | h1
   ·have e1:(x.kind == 1) = true:=by simp; omega
    have e2:(x.kind == 2) = false:=by simp; omega
    have hh:=exHead_num h1
    clear h1
    by_cases hr0:x.n < 0 ∨ 999999999999999 < x.n
    ·have HT:Hid (r = .error 3):=hr.out.trans (exW_head HN.out 3 (by rw [hh,if_pos hr0]) (by decide))
     have HK:Hid ((3:Int) = if x.n < 0 ∨ 999999999999999 < x.n then 3 else 0):=by rw [if_pos hr0]; rfl
     clear hh hr0
     go_wp2_with fail
     refine (Calls.bad0 3 (within_any C (n + 1) num x.n 0 999999999999999 3 _ HM.out.2.1 HK) rfl (by decide)).mono ?_
     rintro e w2 ⟨rfl,hg⟩
     go_wp2
     exact ⟨rfl,grown_trans HM.out.1 (grown_some hg _),by rw [HT.out]; rfl⟩
    ·have HT:=hideC (HTO.out (by rw [hh,if_neg hr0]))
     have HK:Hid ((0:Int) = if x.n < 0 ∨ 999999999999999 < x.n then 3 else 0):=by rw [if_neg hr0]; rfl
     clear hh hr0
     go_wp2_with fail
     refine (Calls.ok0 (within_any C (n + 1) num x.n 0 999999999999999 0 _ HM.out.2.1 HK) rfl).mono ?_
     rintro e w2 ⟨rfl,hg⟩
     go_wp2_with fail
     go_meet
     exact ⟨HM.out.on hg,HT⟩
   ·have e1:(x.kind == 1) = false:=by simp; omega
    have e2:(x.kind == 2) = true:=by simp; omega
    have hh:=exHead_bool h1
    clear h1
    by_cases hr0:x.n < 0 ∨ 1 < x.n
    ·have HT:Hid (r = .error 3):=hr.out.trans (exW_head HN.out 3 (by rw [hh,if_pos hr0]) (by decide))
     have HK:Hid ((3:Int) = if x.n < 0 ∨ 1 < x.n then 3 else 0):=by rw [if_pos hr0]; rfl
     clear hh hr0
     go_wp2_with fail
     refine (Calls.bad0 3 (within_any C (n + 1) num x.n 0 1 3 _ HM.out.2.1 HK) rfl (by decide)).mono ?_
     rintro e w2 ⟨rfl,hg⟩
     go_wp2
     exact ⟨rfl,grown_trans HM.out.1 (grown_some hg _),by rw [HT.out]; rfl⟩
    ·have HT:=hideC (HTO.out (by rw [hh,if_neg hr0]))
     have HK:Hid ((0:Int) = if x.n < 0 ∨ 1 < x.n then 3 else 0):=by rw [if_neg hr0]; rfl
     clear hh hr0
     go_wp2_with fail
     refine (Calls.ok0 (within_any C (n + 1) num x.n 0 1 0 _ HM.out.2.1 HK) rfl).mono ?_
     rintro e w2 ⟨rfl,hg⟩
     go_wp2_with fail
     go_meet
     exact ⟨HM.out.on hg,HT⟩
   ·have hh:=exHead_name h1
    have e1:(x.kind == 1) = false:=by simp; omega
    have e2:(x.kind == 2) = false:=by simp; omega
    obtain ⟨b,hb⟩:∃ b,b = Sy.nm x.name:=⟨_,rfl⟩
    obtain ⟨t,ht⟩:∃ t:Int,t = if b = false then 7 else 0:=⟨_,rfl⟩
    have HK:Hid (t = if Sy.nm x.name = false then 7 else 0):=by rw [← hb]; exact ht
    have HB:Hid ((b = false → r = .error 7) ∧ (b = true → r = if exTail x ≠ 0 then .error (exTail x) else Sy.runs (Sy.exW d) x.kids (n + 1))):=by
     refine ⟨fun hf => hr.out.trans (exW_head HN.out 7 (by rw [hh,if_pos (by rw [← hb]; exact hf)]) (by decide)),fun hf => HTO.out (by rw [hh,if_neg (by rw [← hb,hf]; decide)])⟩
    clear hh hb
    rcases h1 with h1 | h1 | h1 | h1
    ·have e3:(x.kind == 3) = true:=by simp; omega
     clear h1
     cases b
     ·obtain rfl:t = 7:=by rw [ht]; rfl
      clear ht
      have HT:=hideC (HB.out.1 rfl)
      go_wp2_with fail
      refine (Calls.bad0 7 (cname_any C (n + 1) num 7 x.name _ HM.out.2.1 hname HK) rfl (by decide)).mono ?_
      rintro e w2 ⟨rfl,hg⟩
      go_wp2
      exact ⟨rfl,grown_trans HM.out.1 (grown_some hg _),by rw [HT.out]; rfl⟩
     ·obtain rfl:t = 0:=by rw [ht]; rfl
      clear ht
      have HT:=hideC (HB.out.2 rfl)
      go_wp2_with fail
      refine (Calls.ok0 (cname_any C (n + 1) num 0 x.name _ HM.out.2.1 hname HK) rfl).mono ?_
      rintro e w2 ⟨rfl,hg⟩
      go_wp2_with fail
      go_meet
      exact ⟨HM.out.on hg,HT⟩
    ·have e3:(x.kind == 3) = false:=by simp; omega
     have e19:(x.kind == 19) = true:=by simp; omega
     clear h1
     cases b
     ·obtain rfl:t = 7:=by rw [ht]; rfl
      clear ht
      have HT:=hideC (HB.out.1 rfl)
      go_wp2_with fail
      refine (Calls.bad0 7 (cname_any C (n + 1) num 7 x.name _ HM.out.2.1 hname HK) rfl (by decide)).mono ?_
      rintro e w2 ⟨rfl,hg⟩
      go_wp2
      exact ⟨rfl,grown_trans HM.out.1 (grown_some hg _),by rw [HT.out]; rfl⟩
     ·obtain rfl:t = 0:=by rw [ht]; rfl
      clear ht
      have HT:=hideC (HB.out.2 rfl)
      go_wp2_with fail
      refine (Calls.ok0 (cname_any C (n + 1) num 0 x.name _ HM.out.2.1 hname HK) rfl).mono ?_
      rintro e w2 ⟨rfl,hg⟩
      go_wp2_with fail
      go_meet
      exact ⟨HM.out.on hg,HT⟩
    ·have e3:(x.kind == 3) = false:=by simp; omega
     have e19:(x.kind == 19) = false:=by simp; omega
     have e20:(x.kind == 20) = true:=by simp; omega
     clear h1
     cases b
     ·obtain rfl:t = 7:=by rw [ht]; rfl
      clear ht
      have HT:=hideC (HB.out.1 rfl)
      go_wp2_with fail
      refine (Calls.bad0 7 (cname_any C (n + 1) num 7 x.name _ HM.out.2.1 hname HK) rfl (by decide)).mono ?_
      rintro e w2 ⟨rfl,hg⟩
      go_wp2
      exact ⟨rfl,grown_trans HM.out.1 (grown_some hg _),by rw [HT.out]; rfl⟩
     ·obtain rfl:t = 0:=by rw [ht]; rfl
      clear ht
      have HT:=hideC (HB.out.2 rfl)
      go_wp2_with fail
      refine (Calls.ok0 (cname_any C (n + 1) num 0 x.name _ HM.out.2.1 hname HK) rfl).mono ?_
      rintro e w2 ⟨rfl,hg⟩
      go_wp2_with fail
      go_meet
      exact ⟨HM.out.on hg,HT⟩
    ·have e3:(x.kind == 3) = false:=by simp; omega
     have e19:(x.kind == 19) = false:=by simp; omega
     have e20:(x.kind == 20) = false:=by simp; omega
     have e22:(x.kind == 22) = true:=by simp; omega
     clear h1
     cases b
     ·obtain rfl:t = 7:=by rw [ht]; rfl
      clear ht
      have HT:=hideC (HB.out.1 rfl)
      go_wp2_with fail
      refine (Calls.bad0 7 (cname_any C (n + 1) num 7 x.name _ HM.out.2.1 hname HK) rfl (by decide)).mono ?_
      rintro e w2 ⟨rfl,hg⟩
      go_wp2
      exact ⟨rfl,grown_trans HM.out.1 (grown_some hg _),by rw [HT.out]; rfl⟩
     ·obtain rfl:t = 0:=by rw [ht]; rfl
      clear ht
      have HT:=hideC (HB.out.2 rfl)
      go_wp2_with fail
      refine (Calls.ok0 (cname_any C (n + 1) num 0 x.name _ HM.out.2.1 hname HK) rfl).mono ?_
      rintro e w2 ⟨rfl,hg⟩
      go_wp2_with fail
      go_meet
      exact ⟨HM.out.on hg,HT⟩
   ·have e1:(x.kind == 1) = false:=by simp; omega
    have e2:(x.kind == 2) = false:=by simp; omega
    have e3:(x.kind == 3) = false:=by simp; omega
    have e19:(x.kind == 19) = false:=by simp; omega
    have e20:(x.kind == 20) = false:=by simp; omega
    have e22:(x.kind == 22) = false:=by simp; omega
    have HT:=hideC (HTO.out (exHead_else h1))
    clear h1
    go_wp2_with fail
    go_meet
    exact ⟨HM,HT⟩
  case rest =>
   clear b0 b1 b2 b3 HM HTO
   obtain ⟨HM,HT⟩:=hcut
   obtain ⟨b0,b1,b2,b3⟩:=four_cellC HM.out.2.2
   go_wp2_with fail
   refine (kidsOf_any x.kind _).mono ?_
   rintro e w2 ⟨rfl,rfl⟩
   by_cases hl:(x.kids.length:Int) < Sy.least x.kind
   ·have HT2:Hid (r = .error 5):=by
     have hx:exTail x = 5:=by unfold exTail; rw [if_pos (.inl hl)]
     have:=HT.out; rw [hx,if_pos (by decide)] at this; exact this
    go_wp2_with fail
    refine (fail_any C (n + 1) num 5 _ HM.out.2.1).mono ?_
    rintro e w2 ⟨rfl,rfl⟩
    go_wp2
    exact ⟨rfl,HM.out.1,by rw [HT2.out]; rfl⟩
   ·by_cases hm:Sy.most x.kind < (x.kids.length:Int)
    ·have HT2:Hid (r = .error 5):=by
      have hx:exTail x = 5:=by unfold exTail; rw [if_pos (.inr hm)]
      have:=HT.out; rw [hx,if_pos (by decide)] at this; exact this
     have HK:Hid ((5:Int) = if Sy.most x.kind < (x.kids.length:Int) then 5 else 0):=by rw [if_pos hm]; rfl
     clear hm
     go_wp2_with fail
     refine (Calls.bad0 5 (atMost_any C (n + 1) num x.kids.length (Sy.most x.kind) 5 _ HM.out.2.1 HK) rfl (by decide)).mono ?_
     rintro e w2 ⟨rfl,hg⟩
     go_wp2
     exact ⟨rfl,grown_trans HM.out.1 (grown_some hg _),by rw [HT2.out]; rfl⟩
    ·have HT2:Hid (r = Sy.runs (Sy.exW d) x.kids (n + 1)):=by
      have hx:exTail x = 0:=by unfold exTail; rw [if_neg (by omega)]
      have:=HT.out; rw [hx,if_neg (by decide)] at this; exact this
     have HK:Hid ((0:Int) = if Sy.most x.kind < (x.kids.length:Int) then 5 else 0):=by rw [if_neg hm]; rfl
     clear hm
     go_wp2_with fail
     refine (Calls.ok0 (atMost_any C (n + 1) num x.kids.length (Sy.most x.kind) 0 _ HM.out.2.1 HK) rfl).mono ?_
     rintro e w2 ⟨rfl,hg⟩
     have HM2:Hid (ExMid w C num x a c (n + 1) w2):=HM.out.on hg
     clear hg b0 b1 b2 b3 hl
     obtain ⟨b0,b1,b2,b3⟩:=four_cellC HM2.out.2.2
     go_wp2
     go_loopw [60] (fun i wr => ∃ k m:Nat,k ≤ x.kids.length ∧ i = .int .i64 k ∧ m ≤ 2000 ∧ Hid (CK wr C num m) ∧ Hid (w.grownBy wr (some C)) ∧ Hid (r = Sy.runs (Sy.exW d) (x.kids.drop k) m)) (fun i _ => x.kids.length - (intOf i).toNat)
     case atStart => exact ⟨0,n + 1,Nat.zero_le _,rfl,hn1,HM2.out.2.1,HM2.out.1,by rw [List.drop_zero]; exact HT2⟩
     case round =>
      obtain ⟨k,m,hk,rfl,hm,HCr,HGr,HRr⟩:=hrel
      clear b0 b1 b2 b3
      by_cases hlt:k < x.kids.length
      ·obtain ⟨kid,hkid⟩:∃ kid,x.kids[k]? = some kid:=⟨_,List.getElem?_eq_getElem hlt⟩
       have HKid:Hid (x.kids[k]? = some kid):=hkid
       obtain ⟨b,off,a',c',rfl,hb,c0,c1,c2,c3,hin⟩:=hX.out.2.2 k kid hkid
       have hsame:=same_grown (B:=B) HGr.out (by intro c e; cases e; exact hBC) (by omega)
       rw [← hsame _ _ hb] at c0 c1 c2 c3
       have HIn:Hid (ExIn B wr h kid a'):=hin.same hsame
       clear hin hsame hkid
       obtain ⟨r2,hr2⟩:∃ r2,r2 = Sy.exW d kid m:=⟨_,rfl⟩
       have HR2:Hid (r2 = Sy.exW d kid m):=hr2
       clear hr2
       go_wp2_with fail
       refine (ih h kid a' c' m (deep + 1) r2 _ (by have:=HD.out; omega) (by omega) (HIn.out.same (same_grown (World.grownBy_alloc _ _ none) (by simp) (by have:=HGr.out.size; omega))) (HCr.out.alloc _) hm HR2).mono ?_
       rintro e w3 ⟨hg,hf⟩
       have HG3:Hid (w.grownBy w3 (some C)):=grown_trans HGr.out (alloc_grown hg)
       cases r2 with
       | ok m2 =>
        obtain ⟨rfl,hck⟩:=hf
        have HC3:Hid (CK w3 C num m2):=hck
        have hm2:m2 ≤ 2000:=Sy.exW_le _ _ _ _ hm HR2.out.symm
        have HR3:Hid (r = Sy.runs (Sy.exW d) (x.kids.drop (k + 1)) m2):=HRr.out.trans (runs_ok HKid.out HR2.out.symm)
        clear hg hck c0 c1 c2 c3
        go_wp2
        go_roundw
        case rel => exact ⟨k + 1,m2,by omega,by go_num,hm2,HC3,HG3,HR3⟩
        case measure => simp [intOf]; omega
       | error er =>
        obtain rfl:e = .panicked [fltE er num]:=hf
        have HR3:Hid (r = .error er):=HRr.out.trans (runs_err HKid.out HR2.out.symm)
        clear hg c0 c1 c2 c3
        go_wp2
        exact ⟨rfl,HG3.out,by rw [HR3.out]; rfl⟩
      ·have HR3:Hid (r = .ok m):=by
        have:=HRr.out
        rw [List.drop_of_length_le (by omega)] at this
        exact this
       go_wp2
       go_end0
       exact ⟨HGr.out,by rw [HR3.out]; exact ⟨rfl,HCr.out⟩⟩
 ·have hr1':r1 = .error (Sy.nodeW x.kind 24 (d + 1) n):=by rw [hr1]; unfold nodeR; rw [if_pos (by simpa using hnode)]
  have HR:Hid (r = .error (Sy.nodeW x.kind 24 (d + 1) n)):=hr.out.trans (exW_bad (by simpa using hnode))
  obtain ⟨er,her⟩:∃ er,er = Sy.nodeW x.kind 24 (d + 1) n:=⟨_,rfl⟩
  rw [← her] at hr1' HR
  clear hr1 hnode her
  subst hr1'
  go_enter Tryz.func103,Tryz.ntmps103
  go_wp2_with fail
  refine (node_any C n (d + 1) num x.kind 24 deep _ _ HC0 hn HD.out HR1).mono ?_
  rintro e w1 ⟨hg,hf⟩
  obtain rfl:e = .panicked [fltE er num]:=hf
  go_wp2
  exact ⟨rfl,alloc_grown hg,by rw [HR.out]; rfl⟩
theorem expr_any (C B:Nat) (num:Int) (hBC:B ≤ C):∀ (d:Nat) (h:Nat) (x:Sy.Ex) (a:Option Addr) (c n:Nat) (deep:Int) (r:Except Int Nat) (w:World),deep = 41 - d → d ≤ 41 → Hid (ExIn B w h x a) → Hid (CK w C num n) → n ≤ 2000 → Hid (r = Sy.exW d x n) →
   Calls Tryz.prog 103 #[.pointer (some ⟨C,0,none⟩),exV x a c,.int .i64 deep] w fun e w' => w.grownBy w' (some C) ∧ Fate C num r e w'
 | _,0,_,_,_,_,_,_,_,_,_,hX,_,_,_ => hX.out.elim
 | d + 1,h + 1,x,a,c,n,deep,r,w,hdeep,hd,hX,hC,hn,hr => expr_step C B d num hBC (expr_any C B num hBC d) h x a c n deep r w hdeep hd hX hC hn hr
 | 0,_ + 1,x,a,c,n,deep,r,w,hdeep,_,_,hC,hn,hr => expr_zero C num x a c n deep r w hdeep hC hn hr
end Go.Proofs.YtbioaoangfiijaaGreatDoor

/- The walk of graph.Order. -/
import Derived.Test.YtbioaoangfiijaaGreatDoorM33
import Derived.Deep.QuietTactic
import Derived.BigQuiet
import Derived.Deep.Cut
import Derived.Test.YtbioaoangfiijaaGreatDoorM31
set_option maxRecDepth 100000
set_option maxHeartbeats 4000000
namespace Go.Proofs.YtbioaoangfiijaaGreatDoor
open Go.RowKit
namespace Gr
abbrev fltZ:Obj:=.cells #[.int .i64 0,.int .i64 0] 27 (0,0)
def entry (w:World):World:=(w.alloc (strO (.slice none 0 0))).alloc fltZ
structure Kq (S:Nat → Prop) (w w':World):Prop where
 os:w'.os = w.os
 tape:w'.tape = w.tape
 output:w'.output = w.output
 size:w.heap.size ≤ w'.heap.size
 block:∀ k,k < w.heap.size → S k → w'.heap[k]? = w.heap[k]?
theorem Kq.trans {S S':Nat → Prop} {a b c:World} (h:Kq S a b) (h2:Kq S' b c) (hs:∀ k,S k → S' k):Kq S a c:=⟨h2.os.trans h.os,h2.tape.trans h.tape,h2.output.trans h.output,Nat.le_trans h.size h2.size,fun k hk hS => (h2.block k (Nat.lt_of_lt_of_le hk h.size) (hs k hS)).trans (h.block k hk hS)⟩
theorem Kq.alloc {S:Nat → Prop} {a b:World} (h:Kq S a b) (o:Obj):Kq S a (b.alloc o):=h.trans (S':=fun _ => True) ⟨rfl,rfl,rfl,(galloc b o).size,fun k hk _ => (galloc b o).block k hk (by simp)⟩ fun _ _ => trivial
theorem Kq.set {S:Nat → Prop} {a b:World} (h:Kq S a b) {g:Nat} (hg:a.heap.size ≤ g) (i:Nat) (v:Value):Kq S a (b.setCell ⟨g,i,none⟩ v):=⟨h.os,h.tape,h.output,Nat.le_trans h.size (gset b g i v).size,fun k hk hS => ((gset b g i v).block k (Nat.lt_of_lt_of_le hk h.size) (by simp; omega)).trans (h.block k hk hS)⟩
theorem Kq.drew {S:Nat → Prop} {a b:World} (h:Kq S a b):Kq S a b.drew:=⟨h.os,h.tape,h.output,h.size,h.block⟩
theorem Kq.below {B:Nat} {a b:World} (h:Kq (· < B) a b) (hB:B ≤ a.heap.size):Below B a b:=⟨h.os,h.tape,h.output,h.size,fun k hk => h.block k (by omega) hk⟩
def EdQ (S:Nat → Prop) (ks:List (Int × ByteArray)) (a:Option Addr) (r:Except (Int × Int) (List Ed)) (w0 W:World) (e:Ending) (w1:World):Prop :=
 Kq (fun k => w0.heap.size ≤ k ∨ S k) W w1 ∧ match r with
 | .error x => x.1 ≠ 0 ∧ e = .returned (.tuple #[.slice none 0 0,.agg #[.int .i64 x.1,.int .i64 x.2]])
 | .ok es => DsAt w1 ks a ∧ ks.length ≤ 1000000 ∧ es.length ≤ 1000000 ∧ ∃ ea ec,e = .returned (.tuple #[.slice ea es.length ec,.agg #[.int .i64 0,.int .i64 0]]) ∧ EsAt (· < w1.heap.size) w1 es ea
def OrQ (S:Nat → Prop) (ks:List (Int × ByteArray)) (r:Except (Int × Int) (List Ed)) (w:World) (e:Ending) (w':World):Prop:=Kq S w w' ∧ match r with
 | .error x => e = .returned (.tuple #[.slice none 0 0,.slice none 0 0,.agg #[.int .i64 x.1,.int .i64 x.2]])
 | .ok es => ∃ vo vl,e = .returned (.tuple #[vo,vl,.agg #[.int .i64 0,.int .i64 0]]) ∧ w'.ownsRow w.heap.size 9 1 vo (order es (tasks ks)).1.length (strs (order es (tasks ks)).1) ∧ w'.ownsRow w.heap.size 9 1 vl (order es (tasks ks)).2.length (strs (order es (tasks ks)).2)
def set2 (w:World) (b:Nat) (x y:Value):World:=(w.setCell ⟨b,0,none⟩ x).setCell ⟨b,1,none⟩ y
theorem set2_other {w:World} {b k:Nat} (h:k ≠ b) (x y:Value):(set2 w b x y).heap[k]? = w.heap[k]?:=(Below.heap_setCell _ ⟨b,1,none⟩ y k h).trans (Below.heap_setCell w ⟨b,0,none⟩ x k h)
theorem set2_at {w:World} {b:Nat} {u v:Value} {t:TypeId} (h:w.heap[b]? = some (.cells #[u,v] t (0,0))) (x y:Value):(set2 w b x y).heap[b]? = some (.cells #[x,y] t (0,0)):=by
 simp only [set2,World.setCell,Array.getElem?_modify,if_true,h,Option.map_some]
 rfl
theorem set2_size (w:World) (b:Nat) (x y:Value):(set2 w b x y).heap.size = w.heap.size:=by simp [set2,World.setCell]
theorem Kq.set2 {S:Nat → Prop} {b:Nat} {a w:World} (h:Kq S a w) (hb:a.heap.size ≤ b) (x y:Value):Kq S a (set2 w b x y):=(h.set hb 0 x).set hb 1 y
theorem two {w:World} {b:Nat} {x y:Value} {t:TypeId} (h:w.heap[b]? = some (.cells #[x,y] t (0,0))):w.cell? ⟨b,0,none⟩ = some x ∧ w.cell? ⟨b,1,none⟩ = some y ∧ w.frozen? ⟨b,0,none⟩ = false ∧ w.frozen? ⟨b,1,none⟩ = false:=by simp [World.cell?,World.frozen?,h]
theorem one {w:World} {b:Nat} {x:Value} {t:TypeId} (h:w.heap[b]? = some (.cells #[x] t (0,0))):w.cell? ⟨b,0,none⟩ = some x ∧ w.frozen? ⟨b,0,none⟩ = false:=by simp [World.cell?,World.frozen?,h]
theorem ends {W:World} {O F:Nat} {u p q:Value} {tO tF:TypeId} (hO:W.heap[O]? = some (.cells #[u] tO (0,0))) (hF:W.heap[F]? = some (.cells #[p,q] tF (0,0))) (hne:O ≠ F) (v x y:Value) :
  (set2 (W.setCell ⟨O,0,none⟩ v) F x y).drew.cell? ⟨O,0,none⟩ = some v ∧ (set2 (W.setCell ⟨O,0,none⟩ v) F x y).drew.cell? ⟨F,0,none⟩ = some x ∧ (set2 (W.setCell ⟨O,0,none⟩ v) F x y).drew.cell? ⟨F,1,none⟩ = some y:=by
 have h3:(set2 (W.setCell ⟨O,0,none⟩ v) F x y).drew.heap[O]? = some (.cells #[v] tO (0,0)):=(set2_other hne x y).trans (heap_set1 hO v)
 have h4:(set2 (W.setCell ⟨O,0,none⟩ v) F x y).drew.heap[F]? = some (.cells #[x,y] tF (0,0)):=set2_at ((Below.heap_setCell W ⟨O,0,none⟩ v F (Ne.symm hne)).trans hF) x y
 generalize (set2 (W.setCell ⟨O,0,none⟩ v) F x y).drew = W' at *
 refine ⟨?_,?_,?_⟩ <;> simp [World.cell?,h3,h4]
theorem beq_bytes (a b:ByteArray):(a.toList == b.toList) = decide (a = b):=by
 rw [Lib.toList_data,Lib.toList_data,Bool.eq_iff_iff]
 simp only [beq_iff_eq,decide_eq_true_eq]
 refine ⟨fun e => ?_,fun e => by rw [e]⟩
 cases a; cases b
 simp only [ByteArray.mk.injEq] at *
 exact Array.toList_inj.1 e
theorem three {w:World} {b:Nat} {x y z:Value} {t:TypeId} (h:w.heap[b]? = some (.cells #[x,y,z] t (0,0))):w.cell? ⟨b,0,none⟩ = some x ∧ w.cell? ⟨b,1,none⟩ = some y ∧ w.cell? ⟨b,2,none⟩ = some z:=by simp [World.cell?,h]
theorem own_got {w:World} {B e n:Nat} {g:Nat} {c:Nat} {l:List ByteArray} (h:w.ownsRow B e 1 (.slice (some ⟨g,0,none⟩) n c) n (strs l)) {i:Nat} (hi:i < n):w.cell? ⟨g,i,none⟩ = some (.string (nm l i)):=by
 obtain ⟨g',e1,h1⟩:=own_at h hi
 cases e1
 exact h1
theorem own_wide {w:World} {B B' e size n:Nat} {v:Value} {xs:List Value} (h:w.ownsRow B e size v n xs) (hB:B' ≤ B):w.ownsRow B' e size v n xs:=by
 refine ⟨h.1,?_⟩
 rcases h.2 with h2 | ⟨g,cap,cur,rfl,hb,hr⟩
 ·exact .inl h2
 ·exact .inr ⟨g,cap,cur,rfl,by omega,hr⟩
theorem own_drew {w:World} {B e size n:Nat} {v:Value} {xs:List Value} (h:w.ownsRow B e size v n xs):w.drew.ownsRow B e size v n xs:=⟨h.1,h.2⟩
theorem own_set2 {w:World} {B e size n b:Nat} {v:Value} {xs:List Value} (h:w.ownsRow B e size v n xs) (hb:b < B) (x y:Value):(set2 w b x y).ownsRow B e size v n xs:=by
 have h2:=h.kept (gset _ b 0 x) (own_ne h hb)
 exact h2.kept (gset _ b 1 y) (own_ne h2 hb)
structure Fin (S:Nat → Prop) (w:World) (o r:List ByteArray) (vo vl:Value) (W:World):Prop where
 z0:W.cell? ⟨w.heap.size,0,none⟩ = some vl
 z1:W.cell? ⟨w.heap.size + 1,0,none⟩ = some (.int .i64 0)
 z2:W.cell? ⟨w.heap.size + 1,1,none⟩ = some (.int .i64 0)
 below:Kq S w W
 order:W.ownsRow w.heap.size 9 1 vo o.length (strs o)
 left:W.ownsRow w.heap.size 9 1 vl r.length (strs r)
theorem St.fault {K:Kx} {L:Lk} {o r:List ByteArray} {vo vl:Value} {w W:World} (h:St K L o r vo vl W) (hLB:K.LB = w.heap.size) (hF:K.W.heap[w.heap.size + 1]? = some fltZ):W.heap[w.heap.size + 1]? = some fltZ:=(h.kp.block _ (low_of hF) (by omega)).trans hF
theorem St.fin {K:Kx} {L:Lk} {o r:List ByteArray} {vo vl:Value} {w W:World} {S:Nat → Prop} (h:St K L o r vo vl W) (hko:K.Ok) (hLB:K.LB = w.heap.size) (hb2:Kq S w K.W) (hF:K.W.heap[w.heap.size + 1]? = some fltZ):Fin S w o r vo vl (set2 (W.setCell ⟨w.heap.size,0,none⟩ vl) (w.heap.size + 1) (.int .i64 0) (.int .i64 0)).drew:=by
 obtain ⟨k1,k2,k3,k4,k5⟩:=hko
 have hl:=low_of hF
 have hf:=h.fault hLB hF
 have hx:=h.box
 rw [hLB] at hx
 obtain ⟨z0,z1,z2⟩:=ends hx hf (by omega) vl (.int .i64 0) (.int .i64 0)
 have hbW:Kq S w W:=⟨h.kp.os.trans hb2.os,h.kp.tape.trans hb2.tape,h.kp.output.trans hb2.output,Nat.le_trans hb2.size h.kp.size,fun k hk hS => (h.kp.block k (by omega) (by omega)).trans (hb2.block k hk hS)⟩
 refine ⟨z0,z1,z2,((hbW.set (Nat.le_refl _) 0 vl).set2 (by omega) _ _).drew,?_,?_⟩
 ·exact own_wide (own_drew (own_set2 (h.order.kept (gset W w.heap.size 0 vl) (own_ne h.order (by omega))) (by omega) _ _)) (by omega)
 ·exact own_wide (own_drew (own_set2 (h.left.kept (gset W w.heap.size 0 vl) (own_ne h.left (by omega))) (by omega) _ _)) (by omega)
theorem order_walk (S:Nat → Prop) (ks:List (Int × ByteArray)) (a:Option Addr) (c:Nat) (r:Except (Int × Int) (List Ed)) (w:World)
  (hE:Calls Tryz.prog 6 #[.slice a ks.length c] (entry w) fun e w1 => EdQ S ks a r w (entry w) e w1) :
  Calls Tryz.prog 5 #[.slice a ks.length c] w fun e w' => OrQ S ks r w e w':=by
 obtain ⟨W0,hW0⟩:∃ W0,W0 = entry w:=⟨_,rfl⟩
 have HW0:Hd (W0 = _):=hW0
 have HB0:Hd (Kq S w W0):=by rw [hW0]; exact (Kq.alloc ⟨rfl,rfl,rfl,Nat.le_refl _,fun _ _ _ => rfl⟩ _).alloc _
 have HS0:Hd (W0.heap.size = w.heap.size + 2):=by rw [hW0]; unfold entry; simp [Hd]
 have HA0:Hd (W0.heap[w.heap.size]? = some (strO (.slice none 0 0))):=by rw [hW0]; exact (Below.heap_alloc _ _ _ (by simp)).trans (heap_alloc_new _ _)
 have HF0:Hd (W0.heap[w.heap.size + 1]? = some fltZ):=by
  rw [hW0]
  have:=heap_alloc_new (w.alloc (strO (.slice none 0 0))) fltZ
  rw [World.size_alloc] at this
  exact this
 unfold entry at HW0
 rw [← hW0] at hE
 clear hW0
 go_enter Tryz.func5,Tryz.ntmps5
 go_wp2_with fail
 rw [← HW0.out]
 refine hE.mono ?_
 rintro e w1 ⟨hb1,hr1⟩
 have hk1:=fun k h1 h2 => hb1.block k h2 (.inl h1)
 have HA1:Hd (w1.heap[w.heap.size]? = some (strO (.slice none 0 0))):=(hk1 _ (by omega) (low_of HA0.out)).trans HA0.out
 have hF1:w1.heap[w.heap.size + 1]? = some fltZ:=(hk1 _ (by omega) (low_of HF0.out)).trans HF0.out
 have HB1:Hd (Kq S w w1):=HB0.out.trans hb1 fun _ => .inr
 obtain ⟨f0,f1,ff0,ff1⟩:=two hF1
 clear hk1 hb1 HB0 HA0 HF0 HS0 HW0 hE
 cases r with
 | error x =>
  obtain ⟨hx,rfl⟩:=hr1
  obtain ⟨x1,x2⟩:=x
  dsimp only at hx ⊢
  have e0:(x1 != 0) = true:=by simpa using hx
  obtain ⟨W2,hW2⟩:∃ W2,W2 = set2 w1 (w.heap.size + 1) (.int .i64 x1) (.int .i64 x2):=⟨_,rfl⟩
  have HB2:Hd (Kq S w W2):=by rw [hW2]; exact HB1.out.set2 (by omega) _ _
  have HA2:Hd (W2.heap[w.heap.size]? = some (strO (.slice none 0 0))):=by rw [hW2]; exact (set2_other (by omega) _ _).trans HA1.out
  have HF2:Hd (W2.heap[w.heap.size + 1]? = some (.cells #[.int .i64 x1,.int .i64 x2] 27 (0,0))):=by rw [hW2]; exact set2_at hF1 _ _
  have HW2:Hd (W2 = _):=hW2
  clear hW2 hF1 HA1 HB1 hx
  go_upto_region 2 with fail
  unfold set2 at HW2
  rw [← HW2.out]
  clear f0 f1 ff0 ff1 HW2
  obtain ⟨f0,f1,ff0,ff1⟩:=two HF2.out
  obtain ⟨o0,of0⟩:=one HA2.out
  have HZ:=hd (ends HA2.out HF2.out (by omega) (.slice none 0 0) (.int .i64 x1) (.int .i64 x2))
  have HB3:Hd (Kq S w (set2 (W2.setCell ⟨w.heap.size,0,none⟩ (.slice none 0 0)) (w.heap.size + 1) (.int .i64 x1) (.int .i64 x2)).drew):=((HB2.out.set (Nat.le_refl _) 0 (.slice none 0 0)).set2 (by omega) _ _).drew
  unfold set2 at HZ HB3
  clear HB2 HA2 HF2
  go_wp2
  go_region
  generalize (((W2.setCell ⟨w.heap.size,0,none⟩ (.slice none 0 0)).setCell ⟨w.heap.size + 1,0,none⟩ (.int .i64 x1)).setCell ⟨w.heap.size + 1,1,none⟩ (.int .i64 x2)).drew = W9 at *
  obtain ⟨z0,z1,z2⟩:=HZ.out
  go_wp2
  exact bodyPost_ret (v:=.tuple #[.slice none 0 0,.slice none 0 0,.agg #[.int .i64 x1,.int .i64 x2]]) (by simp [results,Tryz.results5,go_sem,z0,z1,z2]) rfl ⟨HB3.out,rfl⟩
 | ok es =>
  obtain ⟨hD1,hl,hes,ea,ec,rfl,hE1⟩:=hr1
  have e0:((0:Int) != 0) = false:=rfl
  obtain ⟨W2,hW2⟩:∃ W2,W2 = set2 w1 (w.heap.size + 1) (.int .i64 0) (.int .i64 0):=⟨_,rfl⟩
  have HB2:Hd (Kq S w W2):=by rw [hW2]; exact HB1.out.set2 (by omega) _ _
  have HA2:Hd (W2.heap[w.heap.size]? = some (strO (.slice none 0 0))):=by rw [hW2]; exact (set2_other (by omega) _ _).trans HA1.out
  have HF2:Hd (W2.heap[w.heap.size + 1]? = some fltZ):=by rw [hW2]; exact set2_at hF1 _ _
  have hnf:∀ (o:Nat) (d:ByteArray),w1.cell? ⟨w.heap.size + 1,o,none⟩ ≠ some (.string d):=by
   intro o d h
   rcases o with _ | _ | o <;> simp [World.cell?,hF1] at h
  have hna:∀ (o:Nat) (d:ByteArray),w1.cell? ⟨w.heap.size,o,none⟩ ≠ some (.string d):=by
   intro o d h
   rcases o with _ | o <;> simp [World.cell?,HA1.out] at h
  have HD2:Hd (DsAt W2 ks a):=by
   rw [hW2]
   refine hD1.same (Nat.le_of_eq (set2_size _ _ _ _).symm) fun b _ => ?_
   by_cases e:b = w.heap.size + 1
   ·subst e; exact .inr hnf
   ·exact .inl (set2_other e _ _)
  have HE2:Hd (EsAt (fun b => b < W2.heap.size ∧ b ≠ w.heap.size) W2 es ea):=by
   rw [hW2]
   refine hE1.keep fun b hb ⟨o,d,hd⟩ => ⟨set2_other (fun e => ?_) _ _,by rw [set2_size]; exact hb,fun e => ?_⟩
   ·subst e; exact hnf _ _ hd
   ·subst e; exact hna _ _ hd
  have HW2:Hd (W2 = _):=hW2
  have HES:=hd hes
  clear hW2 hF1 HA1 HB1 hD1 hE1 hnf hna hes
  go_upto_region 2 with fail
  unfold set2 at HW2
  rw [← HW2.out]
  clear f0 f1 ff0 ff1 HW2
  obtain ⟨f0,f1,ff0,ff1⟩:=two HF2.out
  have hmm:∀ w:World,(Instr.makeMap 33 Option.none).run Tryz.prog w = .ok (.map (some w.heap.size)) (w.alloc (.map #[] 0)):=fun _ => rfl
  have hz:∀ w,(zeroValue 3).run Tryz.prog w = .ok (.int .i64 0) w:=fun w => by kernel_rfl
  obtain ⟨W4,hW4⟩:∃ W4,W4 = (W2.alloc (.map #[] 0)).alloc (mapO W2.heap.size):=⟨_,rfl⟩
  have HG4:Hd (W2.grownBy W4 none):=by rw [hW4]; exact gtr (galloc _ _) (galloc _ _)
  have HM4:Hd (MapI W4 W2.heap.size fun _ => 0):=by rw [hW4]; exact (MapI.new W2).grow (galloc _ _) (by simp)
  have HC4:Hd (W4.heap[W2.heap.size + 1]? = some (mapO W2.heap.size)):=by
   rw [hW4]
   have:=heap_alloc_new (W2.alloc (.map #[] 0)) (mapO W2.heap.size)
   rw [World.size_alloc] at this
   exact this
  have HW4:Hd (W4 = _):=hW4
  obtain ⟨N,hN⟩:∃ N,N = es.length:=⟨_,rfl⟩
  have HN:Hd (N = es.length):=hN
  have hN9:N ≤ 1000000:=by rw [hN]; exact HES.out
  rw [← hN]
  clear hW4 hN
  go_upto_region 5 with fail
  rw [← HW4.out]
  clear f0 f1 ff0 ff1 HW4
  go_wp2
  go_loopw [25] (fun q wr => ∃ j:Nat,q = .int .i64 j ∧ j ≤ N ∧ Hd (MapI wr W2.heap.size (adds (es.take j) fun _ => 0)) ∧ Hd (W4.grownBy wr (some W2.heap.size))) (fun q _ => N - (intOf q).toNat)
  case atStart => exact ⟨0,rfl,Nat.zero_le _,HM4.out,grefl _ _⟩
  case round =>
   obtain ⟨j,rfl,hj,HM,HG⟩:=hrel
   have HGw:Hd (W2.grownBy wr none):=gown HG4.out HG.out (Nat.le_refl _)
   have HCw:Hd (wr.heap[W2.heap.size + 1]? = some (mapO W2.heap.size)):=(HG.out.block _ (low_of HC4.out) (by simp)).trans HC4.out
   by_cases hlt:j < N
   ·have hj1:j < es.length:=by rw [← HN.out]; exact hlt
    obtain ⟨e,he⟩:∃ e,es[j]? = some e:=⟨_,List.getElem?_eq_getElem hj1⟩
    obtain ⟨b,off,rfl,⟨hb,_⟩,k0,k1,k2⟩:=(HE2.out.keep (S':=fun _ => True) fun b hb _ => ⟨HGw.out.block b hb.1 (by simp),trivial⟩) j e he
    have hjp:(j:Int) < (N:Int):=by omega
    have HJ:Hd (j + 1 ≤ N):=hlt
    obtain ⟨W5,hW5⟩:∃ W5,W5 = wr.alloc (.cells #[.string e.1,.string e.2.1,.string e.2.2] 41):=⟨_,rfl⟩
    have hG5:W4.grownBy W5 (some W2.heap.size):=by rw [hW5]; exact gtr HG.out (gnone (galloc _ _))
    have hM5:MapI W5 W2.heap.size (adds (es.take j) fun _ => 0):=by rw [hW5]; exact HM.out.grow (galloc _ _) (by simp)
    obtain ⟨c0,_⟩:=one ((hG5.block _ (low_of HC4.out) (by simp)).trans HC4.out)
    obtain ⟨q,hq⟩:∃ q,q = adds (es.take j) (fun _ => 0) e.2.2:=⟨_,rfl⟩
    have hqb:-1000000 ≤ q ∧ q ≤ 1000000:=by
     have h1:=Bnd.adds (m:=0) (es.take j) (L:=fun _ => 0) (fun x => by simp) e.2.2
     have h2:(es.take j).length ≤ N:=by simp; omega
     rw [← hq] at h1
     omega
    have hL:=MapI.look Tryz.underlying33 Tryz.underlying9 hM5 e.2.2 (hz _)
    obtain ⟨w6,hup,hM6,hg6⟩:=MapI.up Tryz.underlying33 Tryz.underlying9 hM5 e.2.2 1
    rw [← hq] at hL hup
    have HM6:Hd (MapI w6 W2.heap.size (adds (es.take (j + 1)) fun _ => 0)):=by rw [adds_more es j e he]; exact hM6
    have HG6:Hd (W4.grownBy w6 (some W2.heap.size)):=gtr hG5 hg6
    subst hW5
    clear hM5 hM6 hg6 hG5 hq he
    go_wp2
    go_roundw
    case rel => exact ⟨j + 1,by go_num,HJ.out,HM6,HG6⟩
    case measure => have:=HJ.out; simp [intOf]; omega
   ·have HM9:Hd (MapI wr W2.heap.size (adds es fun _ => 0)):=by
     have h1:=HM.out
     rw [List.take_of_length_le (by have:=HN.out; omega)] at h1
     exact h1
    have hjp:¬ (j:Int) < (N:Int):=by omega
    have HDw:=hd (HD2.out.grow HGw.out)
    have hmf:∀ (fn:Fn) (first cap:Array Value) (w:World),(Instr.makeFunc fn first cap).run Tryz.prog w = .ok (.func fn first cap) w:=fun _ _ _ _ => rfl
    clear HM HG HM4 HG4 HC4 hlt
    go_wp2_with fail
    refine (tasks_any ks a c wr HDw hl).mono ?_
    rintro e w5 ⟨v,rfl,hg5,ho5⟩
    obtain ⟨T,hT⟩:∃ T,T = tasks ks:=⟨_,rfl⟩
    rw [← hT] at ho5
    have hTl:T.length ≤ 1000000:=by rw [hT]; have:=tasks_le ks; omega
    obtain ⟨hko,hst⟩:=St.begin HM9.out HA2.out HCw.out HGw.out hg5 ho5
    obtain ⟨la,lc,rfl⟩:=own_slice ho5
    obtain ⟨x0,xf0⟩:=one (((hg5.block _ (Nat.lt_of_lt_of_le (low_of HA2.out) HGw.out.size) (by simp)).trans (HGw.out.block _ (low_of HA2.out) (by simp))).trans HA2.out)
    have HT:=hd hT
    have HTl:=hd hTl
    clear hg5 ho5 HDw HD2 HCw HM9 HGw HA2 hT hTl
    obtain ⟨K,hK⟩:∃ K,K = kx W2 w.heap.size wr.heap.size w5.heap.size:=⟨_,rfl⟩
    have HKL:Hd (K.LB = w.heap.size ∧ K.C = W2.heap.size + 1 ∧ K.M = W2.heap.size):=by rw [hK]; exact ⟨rfl,rfl,rfl⟩
    have HKW:Hd (K.W = W2):=by rw [hK]; rfl
    rw [← hK] at hko hst
    have HKO:=hd hko
    have HST:=hd hst
    have hcs:=hst.at HKL.out
    obtain ⟨y0,_,y1⟩:=hcs
    have HMs:=hst.map HKL.out
    have HLs:=hd hst.left
    clear hK hko hst
    go_wp2_with fail
    refine (next_any _ T _ w.heap.size (W2.heap.size + 1) W2.heap.size _ _ HLs y0 y1 HMs HTl.out).mono ?_
    rintro e w6 ⟨rfl,rfl⟩
    generalize w5.setCell ⟨w.heap.size,0,none⟩ (.slice la T.length lc) = W6 at *
    clear y0 y1 HMs HLs x0 xf0
    go_wp2_with fail
    go_loopw [2,10] (fun s q wr => ∃ (f:Nat) (L:Lk) (o r:List ByteArray) (oa la:Option Addr) (oc lc:Nat),s = .slice oa o.length oc ∧ q = .int .i64 (pos (next L r)) ∧ r.length ≤ f ∧ o.length + r.length = T.length ∧ Hd (go es f L o r = order es T) ∧ Hd (Bnd (1000000 * ((o.length:Int) + 1)) L) ∧ Hd (St K L o r (.slice oa o.length oc) (.slice la r.length lc) wr)) (fun s _ _ => T.length - slen s)
    case atStart =>
     refine ⟨T.length,_,[],T,none,la,0,lc,rfl,rfl,Nat.le_refl _,by simp,rfl,?_,HST.out⟩
     have h1:=Bnd.adds (m:=0) es (L:=fun _ => 0) (fun x => by simp)
     have h2:=HES.out
     exact h1.wide (by simp; omega)
    case round =>
     obtain ⟨f,L,o,r,oa,la2,oc,lc2,rfl,rfl,hf,hsum,HGO,HBN,HS⟩:=hrel
     cases hn:next L r with
     | none =>
      have hge:pos none < 0:=by decide
      have HOR:Hd ((o,r) = order es T):=by rw [← HGO.out]; exact (go_none hn).symm
      have hF2:K.W.heap[w.heap.size + 1]? = some fltZ:=by rw [HKW.out]; exact HF2.out
      obtain ⟨y0,yf,_⟩:=HS.out.at HKL.out
      obtain ⟨g0,g1,gf0,gf1⟩:=two (HS.out.fault HKL.out.1 hF2)
      have HFin:=hd (HS.out.fin HKO.out HKL.out.1 (by rw [HKW.out]; exact HB2.out) hF2)
      unfold set2 at HFin
      clear hF2 hn HGO HBN HS
      go_wp2_with fail
      go_region
      generalize (((wr.setCell ⟨w.heap.size,0,none⟩ (.slice la2 r.length lc2)).setCell ⟨w.heap.size + 1,0,none⟩ (.int .i64 0)).setCell ⟨w.heap.size + 1,1,none⟩ (.int .i64 0)).drew = W9 at *
      obtain ⟨z0,z1,z2,zb,zo,zl⟩:=HFin.out
      go_wp2
      refine bodyPost_ret (v:=.tuple #[.slice oa o.length oc,.slice la2 r.length lc2,.agg #[.int .i64 0,.int .i64 0]]) (by simp [results,Tryz.results5,go_sem,z0,z1,z2]) rfl ⟨zb,_,_,rfl,?_⟩
      rw [← HT.out,← HOR.out]
      exact ⟨zo,zl⟩
     | some i =>
      obtain ⟨hi,hL0,hri⟩:=next_some hn
      rw [show pos (some i) = (i:Int) from rfl]
      obtain ⟨y0,yf,y1⟩:=HS.out.at HKL.out
      obtain ⟨g,rfl,hcell⟩:=own_at HS.out.left hi
      have hip:(i:Int) < (r.length:Int):=by omega
      obtain ⟨f',rfl⟩:∃ f',f = f' + 1:=⟨f - 1,by omega⟩
      have HGO2:Hd (go es f' (decs (nm r i) es L) (o ++ [nm r i]) (r.eraseIdx i) = order es T):=by
       have h1:=HGO.out
       rw [go,hn] at h1
       exact h1
      have HO:=hd (HS.out.order.alloc (.cells #[.string (nm r i)] 9))
      have HOl:Hd (o.length ≤ 1000000):=by have:=HTl.out; unfold Hd; omega
      have HBig:=hd (Nat.le_trans HS.out.big (galloc wr (.cells #[.string (nm r i)] 9)).size)
      clear hn hL0 hri
      go_wp2_with (at_builtin; go_loud (refine append_name rfl _ _ rfl K.BO _ o rfl HO.out _ (nm r i) rfl (by simp) HOl.out HBig.out ?_); intro v3 w3 ho3 hg3; have HS3:=hd ((HS.out.grow (galloc _ _)).appd HKO.out ho3 hg3); obtain ⟨oa3,oc3,hv3⟩:=own_slice ho3; subst hv3; clear ho3 hg3)
      have HN2:Hd (nm r i = nm r i):=rfl
      obtain ⟨nn,hnn⟩:∃ nn,nn = nm r i:=⟨_,rfl⟩
      have HNN:Hd (nn = nm r i):=hnn
      rw [← hnn] at HGO2 HS3 hcell
      clear hnn HN2 y0 yf y1
      go_loopw [53] (fun q wr => ∃ j:Nat,q = .int .i64 j ∧ j ≤ N ∧ Hd (St K (decs nn (es.take j) L) (o ++ [nn]) r (.slice oa3 (o ++ [nn]).length oc3) (.slice (some ⟨g,0,none⟩) r.length lc2) wr)) (fun q _ => N - (intOf q).toNat)
      case atStart => exact ⟨0,rfl,Nat.zero_le _,HS3.out⟩
      case round =>
       obtain ⟨j,rfl,hj,HSj⟩:=hrel
       by_cases hlt:j < N
       ·have hj1:j < es.length:=by rw [← HN.out]; exact hlt
        obtain ⟨e,he⟩:∃ e,es[j]? = some e:=⟨_,List.getElem?_eq_getElem hj1⟩
        have hkb:=HSj.out.kp.block
        rw [HKW.out,HKL.out.1] at hkb
        obtain ⟨b,off,rfl,⟨hb,_⟩,k0,k1,k2⟩:=(HE2.out.keep (S':=fun _ => True) fun b hb _ => ⟨hkb b hb.1 hb.2,trivial⟩) j e he
        have hjp:(j:Int) < (N:Int):=by omega
        have HJ:Hd (j + 1 ≤ N):=hlt
        obtain ⟨W7,hW7⟩:∃ W7,W7 = wr.alloc (.cells #[.string e.1,.string e.2.1,.string e.2.2] 41):=⟨_,rfl⟩
        have HS7:Hd (St K (decs nn (es.take j) L) (o ++ [nn]) r (.slice oa3 (o ++ [nn]).length oc3) (.slice (some ⟨g,0,none⟩) r.length lc2) W7):=by rw [hW7]; exact HSj.out.grow (galloc _ _)
        have hE7:W7.heap[wr.heap.size]? = some (.cells #[.string e.1,.string e.2.1,.string e.2.2] 41):=by rw [hW7]; exact heap_alloc_new _ _
        have HDM:Hd (decs nn (es.take (j + 1)) L = if e.2.1 = nn then bump (decs nn (es.take j) L) e.2.2 (-1) else decs nn (es.take j) L):=decs_more nn es j e he L
        have HW7:Hd (W7 = _):=hW7
        clear hW7 he
        go_upto_region 19 with fail
        rw [← HW7.out]
        clear HW7
        obtain ⟨x0,x1,x2⟩:=three hE7
        obtain ⟨y0,yf,y1⟩:=HS7.out.at HKL.out
        have hgi:=own_got HS7.out.left hi
        rw [← HNN.out] at hgi
        clear k0 k1 k2 hkb hE7
        go_region
        have hdr:W7.drew.cell? = W7.cell?:=rfl
        have HS8:=hd HS7.out.drew
        rw [← hdr] at x0 x1 x2 y0 y1 hgi
        generalize W7.drew = W8 at *
        clear hdr HS7 x0 x1 hgi y0 yf
        by_cases hfe:e.2.1 = nn
        ·have ee:(e.2.1.toList == nn.toList) = true:=by rw [beq_bytes]; simp [hfe]
         obtain ⟨q,hq⟩:∃ q,q = decs nn (es.take j) L e.2.2:=⟨_,rfl⟩
         rw [ee]
         have hqb:-10000000000000 ≤ q ∧ q ≤ 10000000000000:=by
          have h1:=Bnd.decs nn (es.take j) HBN.out e.2.2
          have h2:(es.take j).length ≤ N:=by simp; omega
          have h3:=HTl.out
          rw [← hq] at h1
          omega
         have hM8:=HS8.out.map HKL.out
         have hL:=MapI.look Tryz.underlying33 Tryz.underlying9 hM8.out e.2.2 (hz _)
         obtain ⟨w9,hup,hM9,hg9⟩:=MapI.up Tryz.underlying33 Tryz.underlying9 hM8.out e.2.2 (-1)
         rw [← hq] at hL hup
         rw [show q + -1 = q - 1 from rfl] at hup
         have HS9:Hd (St K (decs nn (es.take (j + 1)) L) (o ++ [nn]) r (.slice oa3 (o ++ [nn]).length oc3) (.slice (some ⟨g,0,none⟩) r.length lc2) w9):=by
          rw [HDM.out,if_pos hfe]
          exact HS8.out.mapd HKO.out (by rw [HKL.out.2.2]; exact hM9) (by rw [HKL.out.2.2]; exact hg9)
         clear hM8 hM9 hg9 hq HDM HS8 ee
         go_wp2
         go_roundw
         case rel => exact ⟨j + 1,by go_num,HJ.out,HS9⟩
         case measure => have:=HJ.out; simp [intOf]; omega
        ·have ee:(e.2.1.toList == nn.toList) = false:=by rw [beq_bytes]; simp [hfe]
         rw [ee]
         have HS9:Hd (St K (decs nn (es.take (j + 1)) L) (o ++ [nn]) r (.slice oa3 (o ++ [nn]).length oc3) (.slice (some ⟨g,0,none⟩) r.length lc2) W8):=by
          rw [HDM.out,if_neg hfe]
          exact HS8.out
         clear HDM HS8 ee
         go_wp2
         go_roundw
         case rel => exact ⟨j + 1,by go_num,HJ.out,HS9⟩
         case measure => have:=HJ.out; simp [intOf]; omega
       ·have HS9:Hd (St K (decs nn es L) (o ++ [nn]) r (.slice oa3 (o ++ [nn]).length oc3) (.slice (some ⟨g,0,none⟩) r.length lc2) wr):=by
         have h1:=HSj.out
         rw [List.take_of_length_le (by have:=HN.out; omega)] at h1
         exact h1
        have hjp:¬ (j:Int) < (N:Int):=by omega
        obtain ⟨y0,yf,y1⟩:=HS9.out.at HKL.out
        have hi9:(i:Int) + 1 ≤ 9223372036854775807:=by have:=HTl.out; omega
        have hD9:=del_any K.BL (.slice (some ⟨g,0,none⟩) r.length lc2) r i wr HS9.out.left hi
        clear HSj HS3 HO HS
        go_wp2_with fail
        refine hD9.mono ?_
        rintro e w9 ⟨v9,rfl,hv9,ho9,hg9⟩
        have hSa:=HS9.out.deld HKO.out ho9 hv9 hg9
        rw [HKL.out.1] at hSa
        obtain ⟨la9,lc9,rfl⟩:=own_slice ho9
        have HSa:=hd hSa
        have hx9:=HS9.out.box
        rw [HKL.out.1] at hx9
        have hne:some w.heap.size ≠ (Value.slice (some ⟨g,0,none⟩) r.length lc2).ownBlock:=fun e => by
         have h1:=(HS9.out.left.lt _ e.symm).1
         have h2:=HKO.out
         have h3:=h2.lb
         have h4:=h2.m
         have h5:=h2.c
         have h6:=h2.bl
         rw [HKL.out.1] at h3
         omega
        obtain ⟨x0,xf0⟩:=one ((hg9.block _ (low_of hx9) hne).trans hx9)
        obtain ⟨y0,_,y1⟩:=hSa.at HKL.out
        have HMs:=hSa.map HKL.out
        have HLs:=hd hSa.left
        have HLl:Hd ((r.eraseIdx i).length ≤ 1000000):=by have:=HTl.out; have h1:(r.eraseIdx i).length ≤ r.length:=List.length_eraseIdx_le _ _; unfold Hd; omega
        have hlen:(r.eraseIdx i).length = r.length - 1:=by rw [List.length_eraseIdx,if_pos hi]
        have hsum9:(o ++ [nn]).length + (r.eraseIdx i).length = T.length:=by rw [hlen]; simp; omega
        have hf9:(r.eraseIdx i).length ≤ f':=by omega
        have hlt9:o.length < T.length:=by omega
        have HBN9:Hd (Bnd (1000000 * (((o ++ [nn]).length:Int) + 1)) (decs nn es L)):=by
         have h1:=HBN.out.decs nn es
         have h2:=HES.out
         exact h1.wide (by simp; omega)
        clear hSa ho9 hg9 hne hx9 hD9 hv9 HS9 HBN hsum hf yf hlen
        generalize r.eraseIdx i = R at *
        go_wp2_with fail
        refine (next_any _ R _ w.heap.size (W2.heap.size + 1) W2.heap.size _ _ HLs y0 y1 HMs HLl.out).mono ?_
        rintro e w10 ⟨rfl,rfl⟩
        generalize w9.setCell ⟨w.heap.size,0,none⟩ (.slice la9 R.length lc9) = W10 at *
        clear y0 y1 HMs HLs x0 xf0
        go_wp2_with fail
        go_roundw
        case rel => exact ⟨f',_,o ++ [nn],R,oa3,la9,oc3,lc9,by simp,rfl,hf9,hsum9,HGO2,HBN9,HSa⟩
        case measure => simp [slen]; omega
end Gr
namespace Sm
abbrev mt:ByteArray:=⟨#[]⟩
def edgesOf (os:List Ow3):List Ow3:=os.filter fun o => decide (o.2.1 ≠ mt) && decide (o.2.2 ≠ mt)
theorem edges_more (os:List Ow3) (j:Nat) (o:Ow3) (h:os[j]? = some o):edgesOf (os.take (j + 1)) = if o.2.1 ≠ mt ∧ o.2.2 ≠ mt then edgesOf (os.take j) ++ [o] else edgesOf (os.take j):=by
 unfold edgesOf
 rw [List.take_add_one,h,List.filter_append]
 by_cases h1:o.2.1 = mt <;> by_cases h2:o.2.2 = mt <;> simp [h1,h2]
theorem edges_le (os:List Ow3):(edgesOf os).length ≤ os.length:=List.length_filter_le _ _
theorem Tryz.edInfo:(Tryz.prog.info? 41).map (fun i => (i.zero,i.size,i.bytes)) = some (some (.agg #[.string ⟨#[]⟩,.string ⟨#[]⟩,.string ⟨#[]⟩]),3,48):=by kernel_rfl
theorem append_edge {w:World} {ops:Array Oper} {rest:List Oper} {o:Oper} {a:Act} {Q:Exit → Act → World → Prop} (hgd:o.guard = none) (s x:Operand)
  (ho:o.op = .call { callee:=.builtin .append,args:=#[s,x],argTypes:=#[30,30] }) (base:Nat) (v:Value) (os:List Ow3) (q:Ow3) (hs:a.eval s = v) (hown:w.ownsRow base 41 3 v os.length (ows os)) (ad:Addr) (hx:a.eval x = .slice (some ad) 1 1) (hnews:∀ j u,(owC q)[j]? = some u → w.cell? (ad.add j) = some u) (hn:os.length ≤ 1000000) (hbase:base ≤ w.heap.size)
  (h:∀ v' w',w'.ownsRow base 41 3 v' (os ++ [q]).length (ows (os ++ [q])) → w.grownBy w' v.ownBlock → wpList Tryz.prog ops Q rest (a.put o.dst v') w'):wpList Tryz.prog ops Q (o :: rest) a w:=by
 refine wpList_plain hgd fun K hK => ?_
 obtain ⟨i0,hi,hz0,hz1,hz2⟩:=info_parts Tryz.edInfo
 obtain ⟨v',w',hr,h2,h3,_⟩:=run_append_own (P:=Tryz.prog) w base 30 o.type 41 i0 _ 3 48 Tryz.underlying30 hi hz0 hz1 hz2 rfl (by decide) v os.length (ows os) hown ad 1 1 (owC q) rfl hnews (fun u hu => by simp [owC] at hu; rcases hu with rfl | rfl | rfl <;> rfl) (by unfold maxLen; omega) (by omega) hbase
 unfold Oper.wp
 simp [execOp,ho,resolve,invoke,builtin,hs,hx,hr,Result.andThen]
 refine hK _ _ (h v' w' ?_ h3)
 rw [ows_more,show (os ++ [q]).length = os.length + 1 by simp]
 exact h2
theorem owners_bad {l:List Sy.Df} {x:Int × Nat} (h:owners l = .error x):x.1 ≠ 0:=by
 rw [owners_eq] at h
 split at h
 ·rename_i hn; cases h; exact hn
 ·exact owners2_ne l x h
structure Few (l:List Sy.Df) (os:List Ow3):Prop where
 defs:l.length ≤ 30
 own:os.length ≤ 30
 once:(l.map (·.name)).Nodup
 name:∀ (k:Nat) (d:Sy.Df),l[k]? = some d → d.name ≠ ⟨#[]⟩ ∧ d.name.size ≤ 12
theorem owners_few {l:List Sy.Df} {os:List Ow3} (h:owners l = .ok os):Few l os:=by
 have ht:=owners_told h
 rw [owners_eq] at h
 split at h
 ·cases h
 ·rename_i hw
  have hw:(Sy.wrongL l).1 = 0:=by simpa using hw
  have h30:=(right_fit hw).1
  refine ⟨h30,?_,?_,fun k d hd => right_name hw k d hd⟩
  ·have h1:=congrArg List.length ht.1
   have h2:(boxesOf l).length ≤ l.length:=List.length_filter_le _ _
   simp at h1
   omega
  ·unfold owners2 at h
   split at h
   ·cases h
   ·rename_i hp
    unfold prog at hp
    split at hp
    ·cases hp
    ·rename_i hn
     exact (names_open hn).2
def EdA (l:List Sy.Df) (w:World) (e:Ending) (w':World):Prop:=w.grownBy w' none ∧ match owners l with
 | .error x => e = .returned (.tuple #[.slice none 0 0,.agg #[.int .i64 x.1,.int .i64 (x.2:Int)]])
 | .ok os => ∃ v,e = .returned (.tuple #[v,.agg #[.int .i64 0,.int .i64 0]]) ∧ w'.ownsRow w.heap.size 41 3 v (edgesOf os).length (ows (edgesOf os))
open Gr in
theorem edges_walk (B:Nat) (l:List Sy.Df) (a:Option Addr) (c:Nat) (w:World) (hD:Hid (DfsIn B w l a)) (hB:B ≤ w.heap.size) (hG:Hid (Gl B w)) :
  Calls Tryz.prog 6 #[.slice a l.length c] w fun e w' => EdA l w e w':=by
 obtain ⟨W0,hW0⟩:∃ W0,W0 = w.alloc fltZ:=⟨_,rfl⟩
 have HG0:Hd (w.grownBy W0 none):=by rw [hW0]; exact galloc _ _
 have HF0:Hd (W0.heap[w.heap.size]? = some fltZ):=by rw [hW0]; exact heap_alloc_new _ _
 have HW0:Hd (W0 = _):=hW0
 clear hW0
 have hwk:=owners_walk B l a c W0 (hD.out.same (same_grown HG0.out (by simp) hB)) (Nat.le_trans hB HG0.out.size) (gl_same hG.out (same_grown HG0.out (by simp) hB))
 go_enter Tryz.func6,Tryz.ntmps6
 go_wp2_with fail
 rw [← HW0.out]
 refine hwk.mono ?_
 rintro e w1 ⟨hb1,hr1⟩
 have hg1:=gbelow hb1
 have HG1:Hd (w.grownBy w1 none):=gtr HG0.out hg1
 have hF1:w1.heap[w.heap.size]? = some fltZ:=(hg1.block _ (low_of HF0.out) (by simp)).trans HF0.out
 have hW0s:w.heap.size ≤ W0.heap.size:=HG0.out.size
 clear hb1 hg1 hwk HF0 HW0
 cases ho:owners l with
 | error x =>
  rw [ho] at hr1
  subst hr1
  have hx:=owners_bad ho
  obtain ⟨x1,hx1⟩:∃ n,n = x.1:=⟨_,rfl⟩
  obtain ⟨x2,hx2⟩:∃ n,n = x.2:=⟨_,rfl⟩
  have HX1:=hd hx1
  have HX2:=hd hx2
  have HOX:=hd ho
  rw [← hx1] at hx
  dsimp only
  rw [← hx1,← hx2]
  clear hx1 hx2
  have e0:(x1 != 0) = true:=by simpa using hx
  have HF2:Hd ((w1.alloc (.cells #[.int .i64 x1,.int .i64 (x2:Int)] 27)).heap[w.heap.size]? = some fltZ):=(Below.heap_alloc _ _ _ (low_of hF1)).trans hF1
  have HG2:Hd (w.grownBy (w1.alloc (.cells #[.int .i64 x1,.int .i64 (x2:Int)] 27)) none):=gtr HG1.out (galloc _ _)
  obtain ⟨f0,f1,ff0,ff1⟩:=two HF2.out
  have HNb:Hd ((w1.alloc (.cells #[.int .i64 x1,.int .i64 (x2:Int)] 27)).heap[w1.heap.size]? = some (.cells #[.int .i64 x1,.int .i64 (x2:Int)] 27 (0,0))):=heap_alloc_new _ _
  have hlt:=low_of hF1
  go_upto_region 2 with fail
  generalize w1.alloc (.cells #[.int .i64 x1,.int .i64 (x2:Int)] 27) = W2 at *
  obtain ⟨g0,g1,_,_⟩:=two HNb.out
  have HZ:=hd (two (set2_at HF2.out (.int .i64 x1) (.int .i64 (x2:Int))))
  have HG3:Hd (w.grownBy (set2 W2 w.heap.size (.int .i64 x1) (.int .i64 (x2:Int))).drew none):=by
   have h1:=gown HG2.out (gset W2 w.heap.size 0 (.int .i64 x1)) (Nat.le_refl _)
   have h2:=gown h1 (gset _ w.heap.size 1 (.int .i64 (x2:Int))) (Nat.le_refl _)
   exact ⟨h2.os,h2.tape,h2.output,h2.size,h2.block⟩
  have HZ:Hd ((set2 W2 w.heap.size (.int .i64 x1) (.int .i64 (x2:Int))).drew.cell? ⟨w.heap.size,0,none⟩ = some (.int .i64 x1) ∧ (set2 W2 w.heap.size (.int .i64 x1) (.int .i64 (x2:Int))).drew.cell? ⟨w.heap.size,1,none⟩ = some (.int .i64 (x2:Int))):=⟨HZ.out.1,HZ.out.2.1⟩
  unfold set2 at HZ HG3
  clear HG2 HF2 HNb hx ho
  go_wp2
  go_region
  generalize ((W2.setCell ⟨w.heap.size,0,none⟩ (.int .i64 x1)).setCell ⟨w.heap.size,1,none⟩ (.int .i64 (x2:Int))).drew = W9 at *
  obtain ⟨z1,z2⟩:=HZ.out
  go_wp2
  exact bodyPost_ret (v:=.tuple #[.slice none 0 0,.agg #[.int .i64 x1,.int .i64 (x2:Int)]]) (by simp [results,Tryz.results6,go_sem,z1,z2]) rfl ⟨HG3.out,by rw [HOX.out,HX1.out,HX2.out]⟩
 | ok os =>
  rw [ho] at hr1
  obtain ⟨v,rfl,hown⟩:=hr1
  obtain ⟨oa,oc,rfl⟩:=own_form hown
  have hfew:=owners_few ho
  have HOX:=hd ho
  have e0:((0:Int) != 0) = false:=rfl
  obtain ⟨N,hN⟩:∃ N,N = os.length:=⟨_,rfl⟩
  have HN:Hd (N = os.length):=hN
  have hN9:N ≤ 30:=by rw [hN]; exact hfew.own
  have HOW:=hd hown
  have HF2:Hd ((w1.alloc fltZ).heap[w.heap.size]? = some fltZ):=(Below.heap_alloc _ _ _ (low_of hF1)).trans hF1
  have HG2:Hd (w.grownBy (w1.alloc fltZ) none):=gtr HG1.out (galloc _ _)
  have HB2:Hd (w1.grownBy (w1.alloc fltZ) none):=galloc _ _
  have HW0s:=hd hW0s
  dsimp only
  rw [← hN]
  clear hN hfew hown hF1 ho hW0s
  go_upto_region 5 with fail
  generalize w1.alloc fltZ = W2 at *
  go_wp2
  go_loopw [6,20] (fun s q wr => ∃ (j:Nat) (va:Option Addr) (vn vc:Nat),s = .slice va vn vc ∧ q = .int .i64 j ∧ j ≤ N ∧ Hd (W2.grownBy wr none) ∧ Hd (wr.ownsRow W2.heap.size 41 3 (.slice va vn vc) (edgesOf (os.take j)).length (ows (edgesOf (os.take j))))) (fun _ q _ => N - (intOf q).toNat)
  case atStart => exact ⟨0,none,0,0,rfl,rfl,Nat.zero_le _,grefl _ _,World.ownsRow_nil _ _ _ _⟩
  case round =>
   obtain ⟨j,va,vn,vc,rfl,rfl,hj,HG,HO⟩:=hrel
   have HGw:=hd (gtr HG2.out HG.out)
   by_cases hlt:j < N
   ·have hj1:j < os.length:=by rw [← HN.out]; exact hlt
    obtain ⟨o,ho⟩:∃ o,os[j]? = some o:=⟨_,List.getElem?_eq_getElem hj1⟩
    obtain ⟨x0,x1,x2⟩:=ows_at ho
    have hOw:=own_keep HOW.out (w':=wr) (fun k hk => (gtr HB2.out HG.out).block k (own_lt HOW.out k hk).2.1 (by simp))
    rw [← HN.out] at hOw
    obtain ⟨g,rfl,hg,c0⟩:=own_c hOw x0
    obtain ⟨g',e',_,c1⟩:=own_c hOw x1
    cases e'
    obtain ⟨g',e',_,c2⟩:=own_c hOw x2
    cases e'
    have hjp:(j:Int) < (N:Int):=by omega
    have HJ:Hd (j + 1 ≤ N):=hlt
    have HM:=hd (edges_more os j o ho)
    obtain ⟨W3,hW3⟩:∃ W3,W3 = wr.alloc (.cells #[.string o.1,.string o.2.1,.string o.2.2] 54):=⟨_,rfl⟩
    have HG3:Hd (W2.grownBy W3 none):=by rw [hW3]; exact gtr HG.out (galloc _ _)
    have HO3:Hd (W3.ownsRow W2.heap.size 41 3 (.slice va vn vc) (edgesOf (os.take j)).length (ows (edgesOf (os.take j)))):=by rw [hW3]; exact HO.out.alloc _
    have HX3:Hd (W3.heap[wr.heap.size]? = some (.cells #[.string o.1,.string o.2.1,.string o.2.2] 54)):=by rw [hW3]; exact heap_alloc_new _ _
    have HW3:=hd hW3
    clear ho hOw x0 x1 x2 hW3
    go_upto_region 8 with fail
    rw [← HW3.out]
    obtain ⟨y0,y1,y2⟩:=Gr.three HX3.out
    clear HW3 c0 c1 c2
    have em:∀ s:ByteArray,s.toList.isEmpty = decide (s = mt):=fun s => by
     rw [Lib.toList_data,Bool.eq_iff_iff]
     simp only [List.isEmpty_iff,decide_eq_true_eq]
     refine ⟨fun e => ?_,fun e => by rw [e]⟩
     cases s
     simp only [ByteArray.mk.injEq] at *
     exact Array.toList_eq_nil_iff.1 e
    have e1:=em o.2.1
    have e2:=em o.2.2
    have HG4:Hd (w.grownBy W3 none):=gtr HG2.out HG3.out
    by_cases hn:o.2.1 = mt
    ·have HM2:Hd (edgesOf (os.take (j + 1)) = edgesOf (os.take j)):=by unfold Hd; rw [HM.out,if_neg (fun h => h.1 hn)]
     rw [decide_eq_true hn] at e1
     clear hn em e2 HM
     go_wp2
     go_roundw
     case rel => exact ⟨j + 1,va,vn,vc,rfl,by go_num,HJ.out,HG3,by rw [HM2.out]; exact HO3⟩
     case measure => have:=HJ.out; simp [intOf]; omega
    ·rw [decide_eq_false hn] at e1
     by_cases hn2:o.2.2 = mt
     ·have HM2:Hd (edgesOf (os.take (j + 1)) = edgesOf (os.take j)):=by unfold Hd; rw [HM.out,if_neg (fun h => h.2 hn2)]
      rw [decide_eq_true hn2] at e2
      clear hn hn2 em HM
      go_wp2
      go_roundw
      case rel => exact ⟨j + 1,va,vn,vc,rfl,by go_num,HJ.out,HG3,by rw [HM2.out]; exact HO3⟩
      case measure => have:=HJ.out; simp [intOf]; omega
     ·have HM2:Hd (edgesOf (os.take (j + 1)) = edgesOf (os.take j) ++ [o]):=by unfold Hd; rw [HM.out,if_pos ⟨hn,hn2⟩]
      rw [decide_eq_false hn2] at e2
      have hle:(edgesOf (os.take j)).length ≤ 1000000:=by
       have h1:=edges_le (os.take j)
       have h2:(os.take j).length ≤ N:=by simp; omega
       omega
      have HLe:=hd hle
      clear hn hn2 em HM hle
      go_wp2_with (at_builtin; go_loud (refine append_edge rfl _ _ rfl W2.heap.size _ (edgesOf (os.take j)) o rfl (HO3.out.alloc _) _ rfl (three_news _ _ _ _ _) HLe.out (gtr HG3.out (galloc _ _)).size ?_); intro v5 w5 ho5 hg5; have HG5:=hd (grow_row (gtr HG3.out (galloc _ _)) (HO3.out.alloc _) (Nat.le_refl _) hg5); rw [← HM2.out] at ho5; have HO5:=hd ho5; obtain ⟨va5,vc5,hv5⟩:=own_form ho5; subst hv5; clear ho5 hg5)
      go_roundw
      case rel => exact ⟨j + 1,va5,_,vc5,rfl,by go_num,HJ.out,HG5,HO5⟩
      case measure => have:=HJ.out; simp [intOf]; omega
   ·have hjp:¬ (j:Int) < (N:Int):=by omega
    have HO9:Hd (wr.ownsRow W2.heap.size 41 3 (.slice va vn vc) (edgesOf os).length (ows (edgesOf os))):=by
     have h1:=HO.out
     rw [List.take_of_length_le (by have:=HN.out; omega)] at h1
     exact h1
    obtain ⟨f0,f1,ff0,ff1⟩:=two ((HG.out.block _ (low_of HF2.out) (by simp)).trans HF2.out)
    have hF9:=(HG.out.block _ (low_of HF2.out) (by simp)).trans HF2.out
    have HZ:=hd (two (set2_at hF9 (.int .i64 0) (.int .i64 0)))
    have HG9:Hd (w.grownBy (set2 wr w.heap.size (.int .i64 0) (.int .i64 0)) none):=gown (gown HGw.out (gset wr w.heap.size 0 (.int .i64 0)) (Nat.le_refl _)) (gset _ w.heap.size 1 (.int .i64 0)) (Nat.le_refl _)
    have HOZ:Hd ((set2 wr w.heap.size (.int .i64 0) (.int .i64 0)).ownsRow w.heap.size 41 3 (.slice va vn vc) (edgesOf os).length (ows (edgesOf os))):=own_wide (own_set2 HO9.out (low_of HF2.out) _ _) HG2.out.size
    unfold set2 at HZ HG9 HOZ
    clear hF9 HO9 HO HG
    go_wp2
    generalize (wr.setCell ⟨w.heap.size,0,none⟩ (.int .i64 0)).setCell ⟨w.heap.size,1,none⟩ (.int .i64 0) = W9 at *
    obtain ⟨z1,z2,_,_⟩:=HZ.out
    refine bodyPost_ret (v:=.tuple #[.slice va vn vc,.agg #[.int .i64 0,.int .i64 0]]) (by simp [results,Tryz.results6,go_sem,z1,z2]) rfl ?_
    unfold EdA
    rw [HOX.out]
    exact ⟨HG9.out,_,rfl,HOZ.out⟩
end Sm
end Go.Proofs.YtbioaoangfiijaaGreatDoor

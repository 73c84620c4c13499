/- The walk of opt.shorter: WHAT shorter ANSWERS. -/
import Derived.Test.YtlbihbfgglnfnaaGreatM24
import Derived.Test.YtlbihbfgglnfnaaGreatM1
import Derived.Test.YtlbihbfgglnfnaaGreatM20
set_option maxRecDepth 100000
set_option maxHeartbeats 2000000
namespace Go.Proofs.YtlbihbfgglnfnaaGreat.Ow
open Go.RowKit Vf Vm Ot
def lenAt (w : World) (P : Nat) : Nat := match w.cell? ⟨P, 0, none⟩ with
 | some (.slice _ n _) => n
 | _ => 0
theorem len_at {w : World} {P g n cap R M W n0 : Nat} (h : w.heap[P]? = some (psO g n cap R M W n0)) : lenAt w P = n := by
 unfold lenAt
 rw [(ps_cells h).1]
theorem pch_below {w w1 w' : World} {P g M W : Nat} (h : Below w.heap.size w w1) (hc : Pch (Sg P g M W) w1 w') (hP : w.heap.size ≤ P) (hg : w.heap.size ≤ g) (hM : w.heap.size ≤ M) (hW : w.heap.size ≤ W) : Below w.heap.size w w' :=
 ⟨hc.os.trans h.os, hc.tape.trans h.tape, hc.output.trans h.output, Nat.le_trans h.size hc.size, fun k hk => (hc.block k (Nat.lt_of_lt_of_le hk h.size) (fun e => by rcases e with e | e | e | e <;> omega)).trans (h.block k hk)⟩
theorem code_wide {B C : Nat} {w : World} {l : List Ins} {a : Option Addr} (h : CodeIn B w l a) (hB : B ≤ C) : CodeIn C w l a := fun i x hx => by
 obtain ⟨h1, h2, h3, b, o, e, hb, c0⟩ := h i x hx
 exact ⟨h1, h2, h3, b, o, e, by omega, c0⟩
theorem shorter_any (B : Nat) (l : List Ins) (a : Option Addr) (c : Nat) (w : World) (h : Hid (CodeIn B w l a)) (hB : B ≤ w.heap.size) (hl0 : 0 < l.length) (hl : l.length ≤ 4000) (hj : Hid (Jumps l)) :
  Calls Tryz.prog 11 #[.slice a l.length c] w fun e w' => ∃ g cap, e = .returned (.slice (some ⟨g, 0, none⟩) (short l).length cap) ∧ (short l).length ≤ cap ∧ CodeIn w'.heap.size w' (short l) (some ⟨g, 0, none⟩) ∧ Rowed w' (some ⟨g, 0, none⟩) ∧ Below w.heap.size w w' := by
 go_enter Tryz.func11, Tryz.ntmps11
 go_wp2_with fail
 refine (newPasses_any B l a c w h hB hl0 hl).mono ?_
 rintro e w1 ⟨P, rfl, hNew⟩
 obtain ⟨lo, hi, w0, g, cap, R, M, W, fs, hp, ha, hc, hgB, hc1, hc2, sP, sg, sM, sW⟩ := hNew.all
 have HP1 := hide hp
 have HA := hide ha
 have HC1 := hide hc
 have HB1 := hide hNew.below
 have HGB := hide hgB
 clear hp ha hc hNew hgB
 go_wp2
 go_loopw [] (fun wr => ∃ (l' : List Ins) (f : Nat) (aim : Nat → Bool), short l = shorter (f + 1) l' ∧ l'.length ≤ f + 1 ∧ 0 < l'.length ∧ l'.length ≤ l.length ∧ Jumps l' ∧ PsIn lo hi w0 P g l'.length cap R M W l.length fs aim wr ∧ CdIn g cap W l.length w1.heap.size l' wr ∧ Pch (Sg P g M W) w1 wr) (fun wr => lenAt wr P)
 case atStart => exact ⟨l, l.length - 1, fun _ => false, by unfold short; rw [show l.length - 1 + 1 = l.length by omega], by omega, hl0, Nat.le_refl _, hj.out, HP1.out, HC1.out, Pch.refl _ _⟩
 case round =>
  obtain ⟨l', f, aim, h1, h2, h3, h4, h5, h6, h7, h8⟩ := hrel
  have H1 := hide h1
  have H6 := hide h6
  have H8 := hide h8
  have hov := over_any lo hi w0 P g cap R M W l.length w1.heap.size fs l' aim wr (hide h6) HA (hide h7) h8.size HGB.out h3 h4 hl ⟨hc1, hc2⟩ (hide h5)
  obtain ⟨b, hb⟩ : ∃ b, b = decide ((over l').length < l'.length) := ⟨_, rfl⟩
  rw [← hb] at hov
  have HOV := hide hov
  have HBB := hide hb
  have HJ := hide h5
  clear h1 h5 h6 h7 h8 hov hb
  go_wp2_with fail
  refine HOV.out.mono ?_
  rintro e w2 ⟨rfl, hp2, hc2', hch2⟩
  have HP2 := hide hp2
  have HC2 := hide hc2'
  have HCH2 := hide (H8.out.trans hch2)
  clear hp2 hc2' hch2 HOV
  cases b with
  | true =>
   have hlt : (over l').length < l'.length := of_decide_eq_true HBB.out.symm
   have hpos := over_pos h3
   have HS : Hid (short l = shorter f (over l')) := by
    unfold Hid
    rw [H1.out, shorter, if_pos hlt]
   have HM : Hid (lenAt w2 P < lenAt wr P) := by unfold Hid; rw [len_at HP2.out.ps, len_at H6.out.ps]; exact hlt
   obtain ⟨f', rfl⟩ : ∃ f', f = f' + 1 := ⟨f - 1, by omega⟩
   go_wp2
   go_roundw
   case rel => exact ⟨over l', f', aimed l', HS.out, by omega, hpos, by omega, over_jumps HJ.out, HP2.out, HC2.out, HCH2.out⟩
   case measure => exact HM.out
  | false =>
   have hlt : ¬ (over l').length < l'.length := of_decide_eq_false HBB.out.symm
   have hle := over_le l'
   have HS : Hid (short l = over l') := by
    unfold Hid
    rw [H1.out, shorter, if_neg hlt]
   obtain ⟨q0, _, _, _⟩ := ps_cells HP2.out.ps
   obtain ⟨n, hn⟩ : ∃ n, n = (over l').length := ⟨_, rfl⟩
   rw [← hn] at q0
   have HE : Hid (n ≤ cap ∧ CodeIn w2.heap.size w2 (short l) (some ⟨g, 0, none⟩) ∧ Rowed w2 (some ⟨g, 0, none⟩) ∧ Below w.heap.size w w2 ∧ (short l).length = n) := by
    refine ⟨by omega, by rw [HS.out]; exact code_wide HC2.out.code HCH2.out.size, fun ad ha => (by cases ha; obtain ⟨cur, h1, _⟩ := HC2.out.blk; exact ⟨cur, _, h1, .inr rfl⟩), pch_below HB1.out HCH2.out sP sg sM sW, by rw [HS.out, hn]⟩
   clear hlt hle hn
   go_wp2
   go_ret
   obtain ⟨e1, e2, e3, e4, e5⟩ := HE.out
   exact ⟨g, cap, by rw [e5]; rfl, by rw [e5]; exact e1, e2, e3, e4⟩
end Go.Proofs.YtlbihbfgglnfnaaGreat.Ow
namespace Go.Proofs.YtlbihbfgglnfnaaGreat.Aw
open Go.RowKit
abbrev unO (u : Vf.Un) (al ac : Option Addr) (cl cc : Nat) : Obj := .cells #[.int .i64 u.kind, .int .i64 u.params, .slice al u.locals.length cl, .int .i64 u.result, .int .i64 u.takes, .slice ac u.code.length cc] 45 (0, 0)
theorem un_cells {w : World} {N : Nat} {u : Vf.Un} {al ac : Option Addr} {cl cc : Nat} (h : w.heap[N]? = some (unO u al ac cl cc)) :
  w.cell? ⟨N, 0, none⟩ = some (.int .i64 u.kind) ∧ w.cell? ⟨N, 1, none⟩ = some (.int .i64 u.params) ∧ w.cell? ⟨N, 2, none⟩ = some (.slice al u.locals.length cl) ∧ w.cell? ⟨N, 3, none⟩ = some (.int .i64 u.result) ∧ w.cell? ⟨N, 4, none⟩ = some (.int .i64 u.takes) ∧ w.cell? ⟨N, 5, none⟩ = some (.slice ac u.code.length cc) := by
 simp [World.cell?, h]
theorem md_cells {w : World} {k : Nat} {x y : Value} (h : w.heap[k]? = some (.cells #[x, y] 25 (0, 0))) : w.cell? ⟨k, 0, none⟩ = some x ∧ w.cell? ⟨k, 1, none⟩ = some y := by
 simp [World.cell?, h]
abbrev mdO (m : Vf.Md) (ab au : Option Addr) (cb cu : Nat) : Obj := .cells #[.slice ab m.boxes.length cb, .slice au m.units.length cu] 25 (0, 0)
end Go.Proofs.YtlbihbfgglnfnaaGreat.Aw
namespace Go.Proofs.YtlbihbfgglnfnaaGreat.Ow
open Go.RowKit Vf Vm Ot
theorem grown_belowO {w w' : World} (h : w.grownBy w' Option.none) : Below w.heap.size w w' := ⟨h.os, h.tape, h.output, h.size, fun k hk => h.block k hk (by simp)⟩
theorem un_wideO {B C : Nat} {w : World} {u : Un} {al ac : Option Addr} {cl cc : Nat} (h : UnIn B w u al ac cl cc) (hB : B ≤ C) : UnIn C w u al ac cl cc := by
 refine ⟨h.nums, h.few, h.caps, fun i x hx => ?_, code_wide h.code hB⟩
 obtain ⟨a, b, c, d, f, g⟩ := h.locals i x hx
 exact ⟨a, b, c, d, by omega, g⟩
theorem un_onO {w w' : World} {u : Un} {al ac : Option Addr} {cl cc : Nat} (h : UnIn w.heap.size w u al ac cl cc) (hb : Below w.heap.size w w') : UnIn w'.heap.size w' u al ac cl cc := un_wideO (h.low hb.block) hb.size
structure UnR (w : World) (x : UV) : Prop where
 un : UnIn w.heap.size w x.u x.al x.ac x.cl x.cc
 al : Rowed w x.al
 ac : Rowed w x.ac
theorem UnR.on {w w' : World} {x : UV} (h : UnR w x) (hb : Below w.heap.size w w') : UnR w' x := ⟨un_onO h.un hb, h.al.on hb, h.ac.on hb⟩
theorem rowed_keep {w w' : World} {a : Option Addr} {r : Option Nat} (h : Rowed w a) (hg : w.grownBy w' r) (hr : ∀ k, r = some k → ∃ cs t, w.heap[k]? = some (.cells cs t (0, 0)) ∧ t ≠ 3 ∧ t ≠ 42) : (∀ ad, a = some ad → w'.heap[ad.block]? = w.heap[ad.block]?) ∧ Rowed w' a := by
 have key : ∀ ad, a = some ad → w'.heap[ad.block]? = w.heap[ad.block]? := fun ad ha => by
  obtain ⟨cs, t, h1, h2⟩ := h ad ha
  refine hg.block _ (lt_of_block h1) (fun e => ?_)
  obtain ⟨cs', t', h3, h4, h5⟩ := hr _ e.symm
  rw [h1] at h3
  simp at h3
  rcases h2 with h2 | h2
  ·exact h4 (by rw [← h3.2, h2])
  ·exact h5 (by rw [← h3.2, h2])
 refine ⟨key, fun ad ha => ?_⟩
 obtain ⟨cs, t, h1, h2⟩ := h ad ha
 exact ⟨cs, t, (key ad ha).trans h1, h2⟩
theorem UnR.grown {w w' : World} {x : UV} {r : Option Nat} (h : UnR w x) (hg : w.grownBy w' r) (hr : ∀ k, r = some k → ∃ cs t, w.heap[k]? = some (.cells cs t (0, 0)) ∧ t ≠ 3 ∧ t ≠ 42) : UnR w' x := by
 obtain ⟨k1, r1⟩ := rowed_keep h.al hg hr
 obtain ⟨k2, r2⟩ := rowed_keep h.ac hg hr
 refine ⟨⟨h.un.nums, h.un.few, h.un.caps, fun i y hy => ?_, fun i y hy => ?_⟩, r1, r2⟩
 ·obtain ⟨a, b, o, e, hb, c0⟩ := h.un.locals i y hy
  exact ⟨a, b, o, e, Nat.lt_of_lt_of_le hb hg.size, (cell_eq (k1 _ e) _).trans c0⟩
 ·obtain ⟨a1, a2, a3, b, o, e, hb, c0, c1, c2⟩ := h.un.code i y hy
  exact ⟨a1, a2, a3, b, o, e, Nat.lt_of_lt_of_le hb hg.size, (cell_eq (k2 _ e) _).trans c0, (cell_eq (k2 _ e) _).trans c1, (cell_eq (k2 _ e) _).trans c2⟩
structure MoAt (C : Nat) (us : List UV) (v : Value) (w : World) : Prop where
 own : w.ownsRow C 45 6 v us.length (uvs us)
 each : ∀ x ∈ us, UnR w x
theorem own_ty2 {w : World} {B n size : Nat} {e : TypeId} {v : Value} {xs : List Value} (h : w.ownsRow B e size v n xs) : ∀ k, v.ownBlock = some k → ∃ cs, w.heap[k]? = some (.cells cs e (0, 0)) := fun k hk => by
 rcases h.2 with ⟨rfl, _⟩ | ⟨g, cap, cur, rfl, _, hh, _⟩
 ·cases hk
 ·cases hk
  exact ⟨cur, hh⟩
theorem own_tyU {w : World} {B n : Nat} {v : Value} {xs : List Value} (h : w.ownsRow B 45 6 v n xs) : ∀ k, v.ownBlock = some k → ∃ cs t, w.heap[k]? = some (.cells cs t (0, 0)) ∧ t ≠ 3 ∧ t ≠ 42 := fun k hk => by
 obtain ⟨cs, hcs⟩ := own_ty2 h k hk
 exact ⟨cs, _, hcs, by decide, by decide⟩
theorem MoAt.more {C N5 : Nat} {us : List UV} {v v' : Value} {x : UV} {W5 w6 : World} {a b : Value} {p : Value} (h : MoAt C us v W5) (hx : UnR W5 x) (hown : w6.ownsRow C 45 6 v' (us.length + 1) (uvs us ++ uvC x)) (hgr : W5.grownBy w6 v.ownBlock) (hN5 : N5 < C) (h5 : w6.heap[N5]? = some (.cells #[a, b] 25 (0, 0))) : MoAt C (us ++ [x]) v' (w6.setCell ⟨N5, 1, none⟩ p) := by
 have hset : w6.grownBy (w6.setCell ⟨N5, 1, none⟩ p) (some N5) := gg_set (World.grownBy.refl _ _) _ rfl _
 have key : ∀ y, UnR W5 y → UnR (w6.setCell ⟨N5, 1, none⟩ p) y := fun y hy => (hy.grown hgr (own_tyU h.own)).grown hset (fun k hk => by cases hk; exact ⟨_, _, h5, by decide, by decide⟩)
 refine ⟨?_, fun y hy => ?_⟩
 ·have e : uvs (us ++ [x]) = uvs us ++ uvC x := by simp [uvs]
  rw [e, List.length_append]
  refine ⟨hown.1, ?_⟩
  rcases hown.2 with h1 | ⟨g, cap, cur, h1, h2, h3, h4⟩
  ·exact .inl h1
  ·exact .inr ⟨g, cap, cur, h1, h2, (Below.heap_setCell _ ⟨N5, 1, none⟩ _ _ (by show g ≠ N5; omega)).trans h3, h4⟩
 ·rcases List.mem_append.1 hy with hy | hy
  ·exact key y (h.each y hy)
  ·simp at hy
   subst hy
   exact key _ hx
theorem own_on {w w' : World} {C : Nat} {e : TypeId} {size n : Nat} {v : Value} {xs : List Value} (h : w.ownsRow C e size v n xs) (hb : Below w.heap.size w w') : w'.ownsRow C e size v n xs := own_keep h (below_gm hb none)
theorem MoAt.on {C : Nat} {us : List UV} {v : Value} {w w' : World} (h : MoAt C us v w) (hb : Below w.heap.size w w') : MoAt C us v w' := ⟨own_on h.own hb, fun x hx => (h.each x hx).on hb⟩
theorem MoAt.keep {C j : Nat} {us : List UV} {v : Value} {w w' : World} (h : MoAt C us v w) (hg : w.grownBy w' (some j)) (hj : j < C) {cs : Array Value} {t : TypeId} (ht : w.heap[j]? = some (.cells cs t (0, 0))) (h1 : t ≠ 3) (h2 : t ≠ 42) : MoAt C us v w' := by
 refine ⟨⟨h.own.1, ?_⟩, fun x hx => (h.each x hx).grown hg (fun k hk => by cases hk; exact ⟨_, _, ht, h1, h2⟩)⟩
 rcases h.own.2 with h3 | ⟨g, cap, cur, h3, h4, h5, h6⟩
 ·exact .inl h3
 ·exact .inr ⟨g, cap, cur, h3, h4, (hg.block g (lt_of_block h5) (by intro e; cases e; omega)).trans h5, h6⟩
theorem boxes_keep {B j : Nat} {w w' : World} {bs : List Bx} {a : Option Addr} (h : BoxesIn B w bs a) (hb : ∀ ad, a = some ad → ∃ cs, w.heap[ad.block]? = some (.cells cs 49 (0, 0))) (hg : w.grownBy w' (some j)) {cs : Array Value} {t : TypeId} (ht : w.heap[j]? = some (.cells cs t (0, 0))) (h1 : t ≠ 49) : BoxesIn B w' bs a ∧ ∀ ad, a = some ad → ∃ cs, w'.heap[ad.block]? = some (.cells cs 49 (0, 0)) := by
 have key : ∀ ad, a = some ad → w'.heap[ad.block]? = w.heap[ad.block]? := fun ad ha => by
  obtain ⟨cs', h2⟩ := hb ad ha
  refine hg.block _ (lt_of_block h2) (fun e => ?_)
  cases e
  rw [h2] at ht
  simp at ht
  exact h1 ht.2.symm
 refine ⟨fun i x hx => ?_, fun ad ha => ?_⟩
 ·obtain ⟨a1, a2, b, o, e, hb', c0, c1⟩ := h i x hx
  exact ⟨a1, a2, b, o, e, hb', (cell_eq (key _ e) _).trans c0, (cell_eq (key _ e) _).trans c1⟩
 ·obtain ⟨cs', h2⟩ := hb ad ha
  exact ⟨cs', (key ad ha).trans h2⟩
theorem MoAt.mod {C : Nat} {us : List UV} {v : Value} {w : World} {bs : List Bx} {ab : Option Addr} (h : MoAt C us v w) (hb : BoxesIn w.heap.size w bs ab) (hbl : bs.length ≤ 4000) (hul : us.length ≤ 4000) : ∃ au cu, v = .slice au us.length cu ∧ ModIn w.heap.size w ⟨bs, us.map (·.u)⟩ ab au := by
 obtain ⟨au, cu, rfl, hc, hr⟩ := own_out h.own
 refine ⟨au, cu, rfl, ⟨by simp; omega, by simp; omega⟩, hb, ?_⟩
 by_cases h0 : 0 < us.length
 ·obtain ⟨g, cap, e, _, _, _, hU⟩ := us_own h.own h0 (fun i x hx => (h.each x (List.mem_of_getElem? hx)).un)
  cases e
  exact hU.units (Nat.le_refl _)
 ·obtain rfl : us = [] := List.eq_nil_of_length_eq_zero (by omega)
  exact fun i x hx => by simp at hx
end Go.Proofs.YtlbihbfgglnfnaaGreat.Ow

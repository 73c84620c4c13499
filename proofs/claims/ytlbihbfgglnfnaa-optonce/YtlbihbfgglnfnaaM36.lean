/- The walk of opt.Module: WHAT Module ANSWERS. -/
import Derived.Test.YtlbihbfgglnfnaaM35
import Derived.Test.YtlbihbfgglnfnaaM28
namespace Go.Proofs.Ytlbihbfgglnfnaa.Ow
open Go.RowKit Vf Vm Ot

theorem grown_belowO {w w' : World} (h : w.grownBy w' Option.none) : Below w.heap.size w w' := ⟨h.os, h.tape, h.output, h.size, fun k hk => h.block k hk (by simp)⟩
theorem un_wideO {B C : Nat} {w : World} {u : Un} {al ac : Option Addr} {cl cc : Nat} (h : UnIn B w u al ac cl cc) (hB : B ≤ C) : UnIn C w u al ac cl cc := by
  refine ⟨h.nums, h.few, h.caps, fun i x hx => ?_, code_wide h.code hB⟩
  obtain ⟨a, b, c, d, f, g⟩ := h.locals i x hx
  exact ⟨a, b, c, d, by omega, g⟩
theorem un_onO {w w' : World} {u : Un} {al ac : Option Addr} {cl cc : Nat} (h : UnIn w.heap.size w u al ac cl cc) (hb : Below w.heap.size w w') : UnIn w'.heap.size w' u al ac cl cc := un_wideO (h.low hb.block) hb.size
/-- A unit whose rows are none of units. -/
structure UnR (w : World) (x : UV) : Prop where
  un : UnIn w.heap.size w x.u x.al x.ac x.cl x.cc
  al : Rowed w x.al
  ac : Rowed w x.ac
theorem UnR.on {w w' : World} {x : UV} (h : UnR w x) (hb : Below w.heap.size w w') : UnR w' x := ⟨un_onO h.un hb, h.al.on hb, h.ac.on hb⟩
/-- Kept, where nothing but blocks of units turns. -/
theorem rowed_keep {w w' : World} {a : Option Addr} {r : Option Nat} (h : Rowed w a) (hg : w.grownBy w' r) (hr : ∀ k, r = some k → ∃ cs t, w.heap[k]? = some (.cells cs t (0, 0)) ∧ t ≠ 3 ∧ t ≠ 41) : (∀ ad, a = some ad → w'.heap[ad.block]? = w.heap[ad.block]?) ∧ Rowed w' a := by
  have key : ∀ ad, a = some ad → w'.heap[ad.block]? = w.heap[ad.block]? := fun ad ha => by
    obtain ⟨cs, t, h1, h2⟩ := h ad ha
    refine hg.block _ (lt_of_block h1) (fun e => ?_)
    obtain ⟨cs', t', h3, h4, h5⟩ := hr _ e.symm
    rw [h1] at h3
    simp at h3
    rcases h2 with h2 | h2
    · exact h4 (by rw [← h3.2, h2])
    · exact h5 (by rw [← h3.2, h2])
  refine ⟨key, fun ad ha => ?_⟩
  obtain ⟨cs, t, h1, h2⟩ := h ad ha
  exact ⟨cs, t, (key ad ha).trans h1, h2⟩
theorem UnR.grown {w w' : World} {x : UV} {r : Option Nat} (h : UnR w x) (hg : w.grownBy w' r) (hr : ∀ k, r = some k → ∃ cs t, w.heap[k]? = some (.cells cs t (0, 0)) ∧ t ≠ 3 ∧ t ≠ 41) : UnR w' x := by
  obtain ⟨k1, r1⟩ := rowed_keep h.al hg hr
  obtain ⟨k2, r2⟩ := rowed_keep h.ac hg hr
  refine ⟨⟨h.un.nums, h.un.few, h.un.caps, fun i y hy => ?_, fun i y hy => ?_⟩, r1, r2⟩
  · obtain ⟨a, b, o, e, hb, c0⟩ := h.un.locals i y hy
    exact ⟨a, b, o, e, Nat.lt_of_lt_of_le hb hg.size, (cell_eq (k1 _ e) _).trans c0⟩
  · obtain ⟨a1, a2, a3, b, o, e, hb, c0, c1, c2⟩ := h.un.code i y hy
    exact ⟨a1, a2, a3, b, o, e, Nat.lt_of_lt_of_le hb hg.size, (cell_eq (k2 _ e) _).trans c0, (cell_eq (k2 _ e) _).trans c1, (cell_eq (k2 _ e) _).trans c2⟩
/-- What is gathered of units. -/
structure MoAt (C : Nat) (us : List UV) (v : Value) (w : World) : Prop where
  own : w.ownsRow C 38 6 v us.length (uvs us)
  each : ∀ x ∈ us, UnR w x
theorem own_ty2 {w : World} {B n size : Nat} {e : TypeId} {v : Value} {xs : List Value} (h : w.ownsRow B e size v n xs) : ∀ k, v.ownBlock = some k → ∃ cs, w.heap[k]? = some (.cells cs e (0, 0)) := fun k hk => by
  rcases h.2 with ⟨rfl, _⟩ | ⟨g, cap, cur, rfl, _, hh, _⟩
  · cases hk
  · cases hk
    exact ⟨cur, hh⟩
theorem own_tyU {w : World} {B n : Nat} {v : Value} {xs : List Value} (h : w.ownsRow B 38 6 v n xs) : ∀ k, v.ownBlock = some k → ∃ cs t, w.heap[k]? = some (.cells cs t (0, 0)) ∧ t ≠ 3 ∧ t ≠ 41 := fun k hk => by
  obtain ⟨cs, hcs⟩ := own_ty2 h k hk
  exact ⟨cs, _, hcs, by decide, by decide⟩
/-- One unit more. -/
theorem MoAt.more {C N5 : Nat} {us : List UV} {v v' : Value} {x : UV} {W5 w6 : World} {a b : Value} {p : Value} (h : MoAt C us v W5) (hx : UnR W5 x) (hown : w6.ownsRow C 38 6 v' (us.length + 1) (uvs us ++ uvC x)) (hgr : W5.grownBy w6 v.ownBlock) (hN5 : N5 < C) (h5 : w6.heap[N5]? = some (.cells #[a, b] 25 (0, 0))) : MoAt C (us ++ [x]) v' (w6.setCell ⟨N5, 1, none⟩ p) := by
  have hset : w6.grownBy (w6.setCell ⟨N5, 1, none⟩ p) (some N5) := gg_set (World.grownBy.refl _ _) _ rfl _
  have key : ∀ y, UnR W5 y → UnR (w6.setCell ⟨N5, 1, none⟩ p) y := fun y hy => (hy.grown hgr (own_tyU h.own)).grown hset (fun k hk => by cases hk; exact ⟨_, _, h5, by decide, by decide⟩)
  refine ⟨?_, fun y hy => ?_⟩
  · have e : uvs (us ++ [x]) = uvs us ++ uvC x := by simp [uvs]
    rw [e, List.length_append]
    refine ⟨hown.1, ?_⟩
    rcases hown.2 with h1 | ⟨g, cap, cur, h1, h2, h3, h4⟩
    · exact .inl h1
    · exact .inr ⟨g, cap, cur, h1, h2, (Below.heap_setCell _ ⟨N5, 1, none⟩ _ _ (by show g ≠ N5; omega)).trans h3, h4⟩
  · rcases List.mem_append.1 hy with hy | hy
    · exact key y (h.each y hy)
    · simp at hy
      subst hy
      exact key _ hx
theorem own_on {w w' : World} {C : Nat} {e : TypeId} {size n : Nat} {v : Value} {xs : List Value} (h : w.ownsRow C e size v n xs) (hb : Below w.heap.size w w') : w'.ownsRow C e size v n xs := own_keep h (below_gm hb none)
theorem MoAt.on {C : Nat} {us : List UV} {v : Value} {w w' : World} (h : MoAt C us v w) (hb : Below w.heap.size w w') : MoAt C us v w' := ⟨own_on h.own hb, fun x hx => (h.each x hx).on hb⟩
theorem MoAt.keep {C j : Nat} {us : List UV} {v : Value} {w w' : World} (h : MoAt C us v w) (hg : w.grownBy w' (some j)) (hj : j < C) {cs : Array Value} {t : TypeId} (ht : w.heap[j]? = some (.cells cs t (0, 0))) (h1 : t ≠ 3) (h2 : t ≠ 41) : MoAt C us v w' := by
  refine ⟨⟨h.own.1, ?_⟩, fun x hx => (h.each x hx).grown hg (fun k hk => by cases hk; exact ⟨_, _, ht, h1, h2⟩)⟩
  rcases h.own.2 with h3 | ⟨g, cap, cur, h3, h4, h5, h6⟩
  · exact .inl h3
  · exact .inr ⟨g, cap, cur, h3, h4, (hg.block g (lt_of_block h5) (by intro e; cases e; omega)).trans h5, h6⟩
/-- Boxes, kept where another block turns. -/
theorem boxes_keep {B j : Nat} {w w' : World} {bs : List Bx} {a : Option Addr} (h : BoxesIn B w bs a) (hb : ∀ ad, a = some ad → ∃ cs, w.heap[ad.block]? = some (.cells cs 44 (0, 0))) (hg : w.grownBy w' (some j)) {cs : Array Value} {t : TypeId} (ht : w.heap[j]? = some (.cells cs t (0, 0))) (h1 : t ≠ 44) : BoxesIn B w' bs a ∧ ∀ ad, a = some ad → ∃ cs, w'.heap[ad.block]? = some (.cells cs 44 (0, 0)) := by
  have key : ∀ ad, a = some ad → w'.heap[ad.block]? = w.heap[ad.block]? := fun ad ha => by
    obtain ⟨cs', h2⟩ := hb ad ha
    refine hg.block _ (lt_of_block h2) (fun e => ?_)
    cases e
    rw [h2] at ht
    simp at ht
    exact h1 ht.2.symm
  refine ⟨fun i x hx => ?_, fun ad ha => ?_⟩
  · obtain ⟨a1, a2, b, o, e, hb', c0, c1⟩ := h i x hx
    exact ⟨a1, a2, b, o, e, hb', (cell_eq (key _ e) _).trans c0, (cell_eq (key _ e) _).trans c1⟩
  · obtain ⟨cs', h2⟩ := hb ad ha
    exact ⟨cs', (key ad ha).trans h2⟩
/-- What comes of it, as a module. -/
theorem MoAt.mod {C : Nat} {us : List UV} {v : Value} {w : World} {bs : List Bx} {ab : Option Addr} (h : MoAt C us v w) (hb : BoxesIn w.heap.size w bs ab) (hbl : bs.length ≤ 4000) (hul : us.length ≤ 4000) : ∃ au cu, v = .slice au us.length cu ∧ ModIn w.heap.size w ⟨bs, us.map (·.u)⟩ ab au := by
  obtain ⟨au, cu, rfl, hc, hr⟩ := own_out h.own
  refine ⟨au, cu, rfl, ⟨by simp; omega, by simp; omega⟩, hb, ?_⟩
  by_cases h0 : 0 < us.length
  · obtain ⟨g, cap, e, _, _, _, hU⟩ := us_own h.own h0 (fun i x hx => (h.each x (List.mem_of_getElem? hx)).un)
    cases e
    exact hU.units (Nat.le_refl _)
  · obtain rfl : us = [] := List.eq_nil_of_length_eq_zero (by omega)
    exact fun i x hx => by simp at hx
end Go.Proofs.Ytlbihbfgglnfnaa.Ow

/- The walk of opt.Module: WHAT Module ANSWERS. -/
namespace Go.Proofs.Ytlbihbfgglnfnaa.Ow
open Go.RowKit Vf Vm Ot

abbrev modV (m : Md) (ab au : Option Addr) (cb cu : Nat) : Value := .agg #[.slice ab m.boxes.length cb, .slice au m.units.length cu]
abbrev modO (m : Md) (ab au : Option Addr) (cb cu : Nat) : Obj := .cells #[.slice ab m.boxes.length cb, .slice au m.units.length cu] 25 (0, 0)
abbrev modZ : Obj := .cells #[.slice none 0 0, .slice none 0 0] 25 (0, 0)
abbrev wheZ : Obj := .cells #[.int .i64 0, .int .i64 0, .int .i64 0] 29 (0, 0)
theorem from_zero (m : Md) : ∀ (n k : Nat), (from' m n k).1 = 0 → from' m n k = (0, 0, 0)
  | 0, _, _ => rfl
  | n + 1, k, h => by
    unfold from' at h ⊢
    split
    · rename_i h0
      rw [if_pos h0] at h
      exact from_zero m n (k + 1) h
    · rename_i h0
      rw [if_neg h0] at h
      exact absurd h h0
theorem verify_zero {m : Md} (h : (verify m).1 = 0) : verify m = (0, 0, 0) := from_zero m 6 0 h
/-- What Module answers, plainly. -/
def made (m : Md) : Md := if (verify m).1 = 0 then shortM m else ⟨[], []⟩
/-- What Module answers, in memory. -/
def ModV (m : Md) (w : World) (e : Ending) (w' : World) : Prop := ∃ ab cb au cu, e = .returned (.tuple #[modV (made m) ab au cb cu, whV (verify m).1 (verify m).2.1 (verify m).2.2]) ∧ ModIn w'.heap.size w' (made m) ab au ∧ Below w.heap.size w w'
theorem mod_none (B : Nat) (w : World) : ModIn B w ⟨[], []⟩ none none := ⟨⟨by simp, by simp⟩, fun i x hx => by simp at hx, fun i x hx => by simp at hx⟩
theorem two_cells {w : World} {k : Nat} {x y : Value} {t : TypeId} (h : w.heap[k]? = some (.cells #[x, y] t (0, 0))) : w.cell? ⟨k, 0, none⟩ = some x ∧ w.cell? ⟨k, 1, none⟩ = some y ∧ w.frozen? ⟨k, 0, none⟩ = false ∧ w.frozen? ⟨k, 1, none⟩ = false := by simp [World.cell?, World.frozen?, h]
theorem three_cells {w : World} {k : Nat} {x y z : Value} {t : TypeId} (h : w.heap[k]? = some (.cells #[x, y, z] t (0, 0))) : w.cell? ⟨k, 0, none⟩ = some x ∧ w.cell? ⟨k, 1, none⟩ = some y ∧ w.cell? ⟨k, 2, none⟩ = some z ∧ w.frozen? ⟨k, 0, none⟩ = false ∧ w.frozen? ⟨k, 1, none⟩ = false ∧ w.frozen? ⟨k, 2, none⟩ = false := by simp [World.cell?, World.frozen?, h]
theorem six_cells {w : World} {k : Nat} {a b c d e f : Value} {t : TypeId} (h : w.heap[k]? = some (.cells #[a, b, c, d, e, f] t (0, 0))) : w.cell? ⟨k, 0, none⟩ = some a ∧ w.cell? ⟨k, 1, none⟩ = some b ∧ w.cell? ⟨k, 2, none⟩ = some c ∧ w.cell? ⟨k, 3, none⟩ = some d ∧ w.cell? ⟨k, 4, none⟩ = some e ∧ w.cell? ⟨k, 5, none⟩ = some f ∧ w.frozen? ⟨k, 2, none⟩ = false ∧ w.frozen? ⟨k, 5, none⟩ = false := by simp [World.cell?, World.frozen?, h]
theorem set_six {w : World} {k : Nat} {a b c d e f : Value} {t : TypeId} (h : w.heap[k]? = some (.cells #[a, b, c, d, e, f] t (0, 0))) (x y : Value) : ((w.setCell ⟨k, 2, none⟩ x).setCell ⟨k, 5, none⟩ y).heap[k]? = some (.cells #[a, b, x, d, e, y] t (0, 0)) := by
  simp only [World.setCell, Array.getElem?_modify, if_true, h, Option.map_some]
  rfl
theorem set_two1 {w : World} {k : Nat} {a b : Value} {t : TypeId} (h : w.heap[k]? = some (.cells #[a, b] t (0, 0))) (y : Value) : (w.setCell ⟨k, 1, none⟩ y).heap[k]? = some (.cells #[a, y] t (0, 0)) := by
  simp only [World.setCell, Array.getElem?_modify, if_true, h, Option.map_some]
  rfl
theorem uv_one (x : UV) : ∀ v ∈ uvC x, v.oneCell' = true := by
  intro v hv
  simp at hv
  rcases hv with rfl | rfl | rfl | rfl | rfl | rfl <;> rfl
/-- The five stores of an answer. -/
theorem five_below {B N : Nat} {w W : World} (h : Below B w W) (hN : B ≤ N) (a b c d e : Value) : Below B w (((((W.setCell ⟨N + 1, 0, none⟩ a).setCell ⟨N + 1, 1, none⟩ b).setCell ⟨N + 1 + 1, 0, none⟩ c).setCell ⟨N + 1 + 1, 1, none⟩ d).setCell ⟨N + 1 + 1, 2, none⟩ e) :=
  ((((h.setCell (p := ⟨N + 1, 0, none⟩) (by show B ≤ N + 1; omega) _).setCell (p := ⟨N + 1, 1, none⟩) (by show B ≤ N + 1; omega) _).setCell (p := ⟨N + 1 + 1, 0, none⟩) (by show B ≤ N + 1 + 1; omega) _).setCell (p := ⟨N + 1 + 1, 1, none⟩) (by show B ≤ N + 1 + 1; omega) _).setCell (p := ⟨N + 1 + 1, 2, none⟩) (by show B ≤ N + 1 + 1; omega) _

set_option maxHeartbeats 4000000 in
set_option maxRecDepth 100000 in
theorem module_any (B : Nat) (m : Md) (ab au : Option Addr) (cb cu : Nat) (w : World) (hB : Hid (B ≤ w.heap.size)) (hin : Hid (ModIn B w m ab au)) :
    Calls Try.prog 7 #[modV m ab au cb cu] w fun e w' => ModV m w e w' := by
  obtain ⟨V, hV⟩ : ∃ V, V = ((w.alloc (modO m ab au cb cu)).alloc modZ).alloc wheZ := ⟨_, rfl⟩
  have hbV : Below w.heap.size w V := by rw [hV]; exact three_belowO _ _ _ _
  have hN0 : V.heap[w.heap.size]? = some (modO m ab au cb cu) := by rw [hV, Below.heap_alloc _ _ _ (by simp; omega)]; exact oldO _ _ _
  have hN1 : V.heap[w.heap.size + 1]? = some modZ := by rw [hV, Below.heap_alloc _ _ _ (by simp)]; exact newO _ _ _
  have hN2 : V.heap[w.heap.size + 1 + 1]? = some wheZ := by rw [hV]; exact new2 _ _ _ _
  have hzV : V.heap.size = w.heap.size + 3 := by rw [hV]; simp
  have HV := hide hV.symm
  have HBV := hide hbV
  have HN0 := hide hN0
  have HN1 := hide hN1
  have HN2 := hide hN2
  have HZV := hide hzV
  clear hV hbV hN1 hN2 hzV
  obtain ⟨N, hN⟩ : ∃ N, N = w.heap.size := ⟨_, rfl⟩
  have HNW := hide hN
  have HLOW : Hid (∀ W : World, Below w.heap.size w W → B ≤ W.heap.size ∧ ModIn B W m ab au) := fun W h => ⟨Nat.le_trans hB.out h.size, hin.out.low (fun k hk => h.block k (by have := hB.out; omega))⟩
  obtain ⟨r, hr⟩ : ∃ r, r = verify m := ⟨_, rfl⟩
  have HR := hide hr
  have hver := verify_any m ab au cb cu B V (hide (HLOW.out _ HBV.out).2) (HLOW.out _ HBV.out).1 r HR
  have HVR := hide hver
  clear hr hver
  obtain ⟨a0, a1, _, _⟩ := two_cells hN0
  clear hN0
  go_enter Try.func7, Try.ntmps7
  go_upto_region 1 with fail
  rw [HV.out]
  rw [← hN] at a0 a1 HN0 HN1 HN2 ⊢
  clear hN HV
  go_wp2_with fail
  refine HVR.out.mono ?_
  rintro e w1 ⟨rfl, hg1⟩
  have hb1 := grown_belowO hg1
  obtain ⟨W1, hW1⟩ : ∃ W1, W1 = w1.alloc (.cells #[.int .i64 r.1, .int .i64 r.2.1, .int .i64 r.2.2] 29) := ⟨_, rfl⟩
  have hbW : Below V.heap.size V W1 := by rw [hW1]; exact below_onO hb1 (one_below _ _)
  have hq : W1.heap[w1.heap.size]? = some (.cells #[.int .i64 r.1, .int .i64 r.2.1, .int .i64 r.2.2] 29 (0, 0)) := by rw [hW1]; exact heap_alloc_new _ _
  have HW1 := hide hW1.symm
  have HBW := hide hbW
  have HBT : Hid (Below w.heap.size w W1) := below_onO HBV.out hbW
  have HM0 := hide (keepB hbW HN0.out)
  have HM1 := hide (keepB hbW HN1.out)
  have HM2 := hide (keepB hbW HN2.out)
  have HQ := hide hq
  have hz1 := hb1.size
  clear hg1 hb1 hW1 hbW hq HN0 HN1 HN2 a0 a1 HVR
  go_upto_region 2 with fail
  rw [HW1.out]
  clear HW1
  generalize hN4 : w1.heap.size = N4 at *
  have hN43 : N + 3 ≤ N4 := by have := HNW.out; have := HZV.out; omega
  obtain ⟨b0, b1, b2, _⟩ := three_cells HQ.out
  obtain ⟨x0, x1, y0, y1⟩ := two_cells HM1.out
  obtain ⟨u0, u1, u2, v0, v1, v2⟩ := three_cells HM2.out
  by_cases h0 : r.1 = 0
  · have e1 : (r.1 != 0) = false := by simpa using h0
    have hvz : verify m = (0, 0, 0) := verify_zero (by rw [← HR.out]; exact h0)
    have hmd : made m = shortM m := by unfold made; rw [hvz]; rfl
    have HRZ : Hid (r = (0, 0, 0)) := HR.out.trans hvz
    have hlk := right_iff.1 hvz
    obtain ⟨hRt, hbx30⟩ := rt_of (hlk 0 (by omega)) (hlk 1 (by omega)) (hlk 2 (by omega))
    have HJ : Hid (∀ u ∈ m.units, Jumps u.code ∧ 0 < u.code.length ∧ u.code.length ≤ 4000 ∧ u.locals.length ≤ 200) := fun u hu => by
      obtain ⟨j1, j2, j3⟩ := right_jumps hvz hu
      obtain ⟨k, hk⟩ := List.getElem?_of_mem hu
      obtain ⟨_, h2, _⟩ := headE_zero (hRt.heads k u hk).1
      unfold sized at h2
      simp only [Bool.and_eq_true, decide_eq_true_eq] at h2
      exact ⟨j1, j2, j3, h2.1.1.1.1⟩
    have hu30 := hRt.units
    have HMD := hide hmd
    have HU30 := hide hu30
    have HBX := hide hbx30
    obtain ⟨a0, a1, _, _⟩ := two_cells HM0.out
    have hcp := copied_boxes B m.boxes ab cb W1 (hide (HLOW.out _ HBT.out).2.boxes) (by omega)
    have HCP := hide hcp
    clear h0 hvz hmd hlk hRt hu30 hbx30 hcp
    go_wp2_with fail
    refine HCP.out.mono ?_
    rintro e w2 ⟨ab', cb', rfl, hBx, hBy, hb2⟩
    obtain ⟨W2, hW2⟩ : ∃ W2, W2 = w2.alloc (.cells #[.slice ab' m.boxes.length cb', .slice none 0 0] 25) := ⟨_, rfl⟩
    have hbW2 : Below w2.heap.size w2 W2 := by rw [hW2]; exact one_below _ _
    have hq2 : W2.heap[w2.heap.size]? = some (.cells #[.slice ab' m.boxes.length cb', .slice none 0 0] 25 (0, 0)) := by rw [hW2]; exact heap_alloc_new _ _
    have HW2 := hide hW2.symm
    have HBW2 := hide (below_onO hb2 hbW2)
    have HBX2 : Hid (BoxesIn w2.heap.size W2 m.boxes ab') := hBx.low hbW2.block
    have HBY2 : Hid (∀ ad, ab' = some ad → ∃ cs, W2.heap[ad.block]? = some (.cells cs 44 (0, 0))) := fun ad ha => by
      obtain ⟨cs, h1⟩ := hBy ad ha
      exact ⟨cs, keepB hbW2 h1⟩
    have HQ2 := hide hq2
    have hz2 : N4 < w2.heap.size := by
      have h1 := lt_of_block HQ.out
      have h2 := hb2.size
      omega
    clear hW2 hbW2 hq2 hBx hBy hb2 HCP a0 a1 b0 b1 b2 x0 x1 y0 y1 u0 u1 u2 v0 v1 v2
    go_upto_region 5 with fail
    rw [HW2.out]
    clear HW2
    generalize hN5 : w2.heap.size = N5 at *
    have HM02 := hide (keepB HBW2.out HM0.out)
    have HM12 := hide (keepB HBW2.out HM1.out)
    have HM22 := hide (keepB HBW2.out HM2.out)
    have HBT2 : Hid (Below w.heap.size w W2) := below_onO HBT.out HBW2.out
    obtain ⟨a0, a1, _, _⟩ := two_cells HM02.out
    have hN5z : N5 < W2.heap.size := lt_of_block HQ2.out
    obtain ⟨nu, hnu⟩ : ∃ nu, nu = m.units.length := ⟨_, rfl⟩
    rw [← hnu] at a1
    have HNU := hide hnu
    have nu1 : (nu : Int) ≤ 30 := by have := HU30.out; omega
    clear hnu
    go_wp2
    clear a0 a1
    go_loopw [22] (fun i wr => ∃ (k : Nat) (us : List UV) (v : Value), k ≤ nu ∧ i = .int .i64 k ∧ us.map (·.u) = (m.units.take k).map shortU ∧ MoAt W2.heap.size us v wr ∧ wr.heap[N5]? = some (.cells #[.slice ab' m.boxes.length cb', v] 25 (0, 0)) ∧ Pch (fun j => j = N5) W2 wr) (fun i _ => nu - (intOf i).toNat)
    case atStart => exact ⟨0, [], .slice none 0 0, Nat.zero_le _, rfl, rfl, ⟨own_nil _ _ _ _, fun x hx => by cases hx⟩, HQ2.out, Pch.refl _ _⟩
    case round =>
      obtain ⟨k, us, v, hk, rfl, hus, hMo, h5, hPc⟩ := hrel
      have HUS := hide hus
      have HMO := hide hMo
      have H5 := hide h5
      have HPC := hide hPc
      have hul : us.length = k := by
        have := congrArg List.length hus
        simp at this
        have := HNU.out
        omega
      have HUL := hide hul
      have HBR : Hid (Below w.heap.size w wr) := ⟨hPc.os.trans HBT2.out.os, hPc.tape.trans HBT2.out.tape, hPc.output.trans HBT2.out.output, Nat.le_trans HBT2.out.size hPc.size, fun j hj => (hPc.block j (Nat.lt_of_lt_of_le hj HBT2.out.size) (by have := HNW.out; omega)).trans (HBT2.out.block j hj)⟩
      clear hus hMo h5 hPc hul
      by_cases hlt : k < nu
      · obtain ⟨u, hu⟩ : ∃ u, m.units[k]? = some u := ⟨_, List.getElem?_eq_getElem (by rw [← HNU.out]; exact hlt)⟩
        obtain ⟨hB2, hMr⟩ := HLOW.out _ HBR.out
        obtain ⟨b, off, al, cl, ac, cc, hau, hb, hU, x0, x1, x2, x3, x4, x5⟩ := hMr.units k u hu
        subst hau
        obtain ⟨j1, j2, j3, j4⟩ := HJ.out u (List.mem_of_getElem? hu)
        have HU := hide hU
        have HUU := hide hu
        have HJ1 := hide j1
        have k0 : (0 : Int) ≤ (k : Int) := by omega
        have k1 : (k : Int) < (nu : Int) := by omega
        have hbl : b < wr.heap.size := by omega
        obtain ⟨W3, hW3⟩ : ∃ W3, W3 = wr.alloc (.cells #[.int .i64 u.kind, .int .i64 u.params, .slice al u.locals.length cl, .int .i64 u.result, .int .i64 u.takes, .slice ac u.code.length cc] 38) := ⟨_, rfl⟩
        have hb3 : Below wr.heap.size wr W3 := by rw [hW3]; exact one_below _ _
        have hq3 : W3.heap[wr.heap.size]? = some (.cells #[.int .i64 u.kind, .int .i64 u.params, .slice al u.locals.length cl, .int .i64 u.result, .int .i64 u.takes, .slice ac u.code.length cc] 38 (0, 0)) := by rw [hW3]; exact heap_alloc_new _ _
        have HW3 := hide hW3.symm
        have HB3 := hide hb3
        have HQ3 := hide hq3
        have HC3 : Hid (∀ X : World, Below W3.heap.size W3 X → Calls Try.prog 12 #[.slice al u.locals.length cl] X fun e w' => ∃ a' c', e = .returned (.slice a' u.locals.length c') ∧ u.locals.length ≤ c' ∧ IntsIn w'.heap.size w' u.locals a' ∧ Rowed w' a' ∧ Below X.heap.size X w') := fun X hX => copied_ints B u.locals al cl X (hide ((HU.out.locals.low (fun k hk => HB3.out.block k (by omega))).low (fun k hk => hX.block k (by have := HB3.out.size; omega)))) (by omega)
        have HS3 : Hid (∀ X : World, Below W3.heap.size W3 X → Calls Try.prog 13 #[.slice ac u.code.length cc] X fun e w' => ∃ g cap, e = .returned (.slice (some ⟨g, 0, none⟩) (short u.code).length cap) ∧ (short u.code).length ≤ cap ∧ CodeIn w'.heap.size w' (short u.code) (some ⟨g, 0, none⟩) ∧ Rowed w' (some ⟨g, 0, none⟩) ∧ Below X.heap.size X w') := fun X hX => shorter_any B u.code ac cc X (hide ((HU.out.code.low (fun k hk => HB3.out.block k (by omega))).low (fun k hk => hX.block k (by have := HB3.out.size; omega)))) (by have := HB3.out.size; have := hX.size; omega) j2 j3 HJ1
        clear hW3 hb3 hq3 hu hU hMr j1
        go_upto_region 8 with fail
        rw [HW3.out]
        clear HW3 x0 x1 x2 x3 x4 x5
        generalize hN7 : wr.heap.size = N7 at *
        obtain ⟨z0, z1, z2, z3, z4, z5, f2, f5⟩ := six_cells HQ3.out
        have HD3 : Hid (Below W3.heap.size W3 W3.drew) := Below.drew (Below.refl _ _)
        have hN7l : N7 < W3.heap.size := lt_of_block HQ3.out
        go_region_with (first | (go_at_call 12; refine (HC3.out _ HD3.out).mono ?_; rintro e w4 ⟨al', cl', rfl, hcl, hIl, hRl, hb4⟩; have HX4 : Hid (Below W3.heap.size W3 w4) := below_onO HD3.out hb4; have HIL := hide hIl; have HRL := hide hRl; have HCL := hide hcl; clear hIl hRl hb4 hcl; obtain ⟨z0, z1, z2, z3, z4, z5, f2, f5⟩ := six_cells (keepB HX4.out HQ3.out)) | (go_at_call 13; refine (HS3.out _ HX4.out).mono ?_; rintro e w5 ⟨g, cc', rfl, hcc, hIc, hRc, hb5⟩; have HX5 : Hid (Below W3.heap.size W3 w5) := below_onO HX4.out hb5; have HIC := hide hIc; have HRC := hide hRc; have HCC := hide hcc; have HB5 := hide hb5; clear hIc hRc hb5 hcc; obtain ⟨z0, z1, z2, z3, z4, z5, f2, f5⟩ := six_cells (keepB HX5.out HQ3.out)))
        all_goals (
          obtain ⟨W4, hW4⟩ : ∃ W4, W4 = (w5.setCell ⟨N7, 2, none⟩ (.slice al' u.locals.length cl')).setCell ⟨N7, 5, none⟩ (.slice (some ⟨g, 0, none⟩) (short u.code).length cc') := ⟨_, rfl⟩
          have hb5 : Below N7 wr w5 := HB3.out.trans (HX5.out.mono (Nat.le_of_lt hN7l))
          have hbW4 : Below N7 wr W4 := by rw [hW4]; exact (hb5.setCell (p := ⟨N7, 2, none⟩) (Nat.le_refl _) _).setCell (p := ⟨N7, 5, none⟩) (Nat.le_refl _) _
          have hmo4 : MoAt W2.heap.size us v W4 := HMO.out.on (by rw [hN7]; exact hbW4)
          have hq5 := keepB HX5.out HQ3.out
          have hq4 : W4.heap[N7]? = some (.cells #[.int .i64 u.kind, .int .i64 u.params, .slice al' u.locals.length cl', .int .i64 u.result, .int .i64 u.takes, .slice (some ⟨g, 0, none⟩) (short u.code).length cc'] 38 (0, 0)) := by rw [hW4]; exact set_six hq5 _ _
          have hg4 : w5.grownBy W4 (some N7) := by rw [hW4]; exact gg_set (gg_set (World.grownBy.refl _ _) ⟨N7, 2, none⟩ rfl _) ⟨N7, 5, none⟩ rfl _
          have hx5 : UnR w5 ⟨shortU u, al', some ⟨g, 0, none⟩, cl', cc'⟩ := ⟨⟨HU.out.nums, ⟨by have := HU.out.few.1; exact this, by have := HCC.out; have := (short_len u.code.length u.code).1; show (short u.code).length ≤ _; unfold short; omega⟩, ⟨HCL.out, HCC.out⟩, fun i y hy => (by obtain ⟨a1, b1, o1, e1, hb1, c1⟩ := (HIL.out.low HB5.out.block) i y hy; exact ⟨a1, b1, o1, e1, Nat.lt_of_lt_of_le hb1 HB5.out.size, c1⟩), HIC.out⟩, HRL.out.on HB5.out, HRC.out⟩
          have hx4 : UnR W4 ⟨shortU u, al', some ⟨g, 0, none⟩, cl', cc'⟩ := hx5.grown hg4 (fun k hk => by cases hk; exact ⟨_, _, hq5, by decide, by decide⟩)
          have h54 : W4.heap[N5]? = some (.cells #[.slice ab' m.boxes.length cb', v] 25 (0, 0)) := (hbW4.block N5 (by have := lt_of_block H5.out; omega)).trans H5.out
          have HW4 := hide hW4.symm
          have HBW4 := hide hbW4
          have HMO4 := hide hmo4
          have HX4' := hide hx4
          have H54 := hide h54
          have HQ4 := hide hq4
          clear hW4 hb5 hbW4 hmo4 hq5 hg4 hx5 hx4 h54 hq4 z0 z1 z2 z3 z4 z5 f2 f5
          go_upto_region 9 with fail
          rw [HW4.out]
          clear HW4
          obtain ⟨y0, y1, y2, y3, y4, y5, _, _⟩ := six_cells HQ4.out
          obtain ⟨d0, d1, d2, d3⟩ := two_cells H54.out
          obtain ⟨i0, hi, hz0, hz1, hz2⟩ := info_partsO Try.infounit
          obtain ⟨x, hx⟩ : ∃ x : UV, x = ⟨shortU u, al', some ⟨g, 0, none⟩, cl', cc'⟩ := ⟨_, rfl⟩
          obtain ⟨W5, hW5⟩ : ∃ W5, W5 = W4.alloc (.cells #[.int .i64 u.kind, .int .i64 u.params, .slice al' u.locals.length cl', .int .i64 u.result, .int .i64 u.takes, .slice (some ⟨g, 0, none⟩) (short u.code).length cc'] 38) := ⟨_, rfl⟩
          have hbW5 : Below W4.heap.size W4 W5 := by rw [hW5]; exact one_below _ _
          have HM5 := hide (HMO4.out.on hbW5)
          have HXX : Hid (UnR W5 x) := by unfold Hid; rw [hx]; exact HX4'.out.on hbW5
          have HN5' : Hid (W5.heap[N5]? = some (.cells #[.slice ab' m.boxes.length cb', v] 25 (0, 0))) := keepB hbW5 H54.out
          have HNW5 : Hid (∀ j u', (uvC x)[j]? = some u' → W5.cell? ((⟨W4.heap.size, 0, none⟩ : Addr).add j) = some u') := fun j u' hu' => by
            rw [add_at, Nat.zero_add]
            have h8 : W5.heap[W4.heap.size]? = some (.cells (uvC x).toArray 38 (0, 0)) := by rw [hW5, hx]; exact heap_alloc_new _ _
            simp only [World.cell?, h8]
            simpa using hu'
          have HB45 := hide hbW5
          have HPC5 : Hid (Pch (fun j => j = N5) W2 W5) := (HPC.out.trans ⟨HBW4.out.os, HBW4.out.tape, HBW4.out.output, HBW4.out.size, fun j hj _ => HBW4.out.block j (by omega)⟩).trans (.of hbW5)
          have HW5 := hide hW5.symm
          have HXE := hide hx
          have hlen : us.length + 1 ≤ 31 := by have := HUL.out; omega
          have HUS2 : Hid ((us ++ [x]).map (·.u) = (m.units.take (k + 1)).map shortU) := by
            unfold Hid
            rw [List.map_append, HUS.out, List.take_add_one, HUU.out, hx]
            simp
          clear hW5 hbW5 hx
          go_wp2_with (at_builtin; rw [HW5.out]; refine wpList_append_src rfl _ _ 23 rfl W2.heap.size 38 i0 _ 6 80 Try.underlying23 hi hz0 hz1 hz2 rfl (by decide) v us.length (uvs us) rfl HM5.out.own (some ⟨W4.heap.size, 0, none⟩) 1 1 (uvC x) rfl (fun e => by cases e) rfl (fun ad e => by cases e; exact HNW5.out) (uv_one x) (by unfold maxLen; omega) (by omega) (by have := HPC5.out.size; exact this) ?_; intro v' w6 hown hgr; obtain ⟨a6, c6, hv6, _, _⟩ := own_out hown; subst hv6; have h56 : w6.heap[N5]? = some (.cells #[.slice ab' m.boxes.length cb', v] 25 (0, 0)) := (hgr.block N5 (lt_of_block HN5'.out) (fun e => by have := (HM5.out.own.lt N5 e.symm).1; omega)).trans HN5'.out; obtain ⟨g0, g1, g2, g3⟩ := two_cells h56; have H56 := hide h56; have HOWN := hide hown; have HGR := hide hgr; clear hown hgr h56)
          have HMO7 := hide (HM5.out.more (p := .slice a6 (us.length + 1) c6) HXX.out HOWN.out HGR.out hN5z H56.out)
          have HP7 : Hid (Pch (fun j => j = N5) W2 (w6.setCell ⟨N5, 1, none⟩ (.slice a6 (us.length + 1) c6))) := by
            have h6 : Pch (fun j => j = N5) W2 w6 := ⟨HGR.out.os.trans HPC5.out.os, HGR.out.tape.trans HPC5.out.tape, HGR.out.output.trans HPC5.out.output, Nat.le_trans HPC5.out.size HGR.out.size, fun j h1 h2 => (HGR.out.block j (Nat.lt_of_lt_of_le h1 HPC5.out.size) (fun e => by have := (HM5.out.own.lt j e.symm).1; omega)).trans (HPC5.out.block j h1 h2)⟩
            exact h6.set ⟨N5, 1, none⟩ rfl _
          go_roundw
          case rel => exact ⟨k + 1, us ++ [x], .slice a6 (us.length + 1) c6, by omega, by go_num, HUS2.out, HMO7.out, set_two1 H56.out _, HP7.out⟩
          case measure => simp [intOf]; omega)
      · obtain rfl : k = nu := by omega
        have hN12 : N + 1 + 1 < N5 := by omega
        have hr1 : wr.heap[N + 1]? = some modZ := (HPC.out.block (N + 1) (by omega) (by omega)).trans HM12.out
        have hr2 : wr.heap[N + 1 + 1]? = some wheZ := (HPC.out.block (N + 1 + 1) (by omega) (by omega)).trans HM22.out
        obtain ⟨d0, d1, _, _⟩ := two_cells H5.out
        obtain ⟨x0, x1, y0, y1⟩ := two_cells hr1
        obtain ⟨u0, u1, u2, v0, v1, v2⟩ := three_cells hr2
        have hbx5 : BoxesIn N5 wr m.boxes ab' := HBX2.out.low (fun j hj => HPC.out.block j (by omega) (by omega))
        have hby5 : ∀ ad, ab' = some ad → ∃ cs, wr.heap[ad.block]? = some (.cells cs 44 (0, 0)) := fun ad ha => by
          obtain ⟨cs, h1⟩ := HBY2.out ad ha
          refine ⟨cs, (HPC.out.block _ (lt_of_block h1) (fun e => ?_)).trans h1⟩
          rw [e] at h1
          rw [HQ2.out] at h1
          simp at h1
        obtain ⟨au', cu', hv, _⟩ := HMO.out.mod (bs := m.boxes) (ab := ab') (fun i x hx => (by obtain ⟨h1, h2, b, o, e, hb, c0⟩ := hbx5 i x hx; exact ⟨h1, h2, b, o, e, by have := lt_of_block H5.out; omega, c0⟩)) (by have := HBX.out; omega) (by have := HUL.out; omega)
        subst hv
        have HEND : Hid (∀ a b c d e, ModIn ((((((wr.setCell ⟨N + 1, 0, none⟩ a).setCell ⟨N + 1, 1, none⟩ b).setCell ⟨N + 1 + 1, 0, none⟩ c).setCell ⟨N + 1 + 1, 1, none⟩ d).setCell ⟨N + 1 + 1, 2, none⟩ e)).heap.size (((((wr.setCell ⟨N + 1, 0, none⟩ a).setCell ⟨N + 1, 1, none⟩ b).setCell ⟨N + 1 + 1, 0, none⟩ c).setCell ⟨N + 1 + 1, 1, none⟩ d).setCell ⟨N + 1 + 1, 2, none⟩ e) (shortM m) ab' au') := fun a b c d e => by
          have g1 : wr.grownBy ((wr.setCell ⟨N + 1, 0, none⟩ a).setCell ⟨N + 1, 1, none⟩ b) (some (N + 1)) := gg_set (gg_set (World.grownBy.refl _ _) ⟨N + 1, 0, none⟩ rfl _) ⟨N + 1, 1, none⟩ rfl _
          have t2 : ((wr.setCell ⟨N + 1, 0, none⟩ a).setCell ⟨N + 1, 1, none⟩ b).heap[N + 1 + 1]? = some wheZ := (g1.block _ (lt_of_block hr2) (by simp)).trans hr2
          have g2 : ((wr.setCell ⟨N + 1, 0, none⟩ a).setCell ⟨N + 1, 1, none⟩ b).grownBy (((((wr.setCell ⟨N + 1, 0, none⟩ a).setCell ⟨N + 1, 1, none⟩ b).setCell ⟨N + 1 + 1, 0, none⟩ c).setCell ⟨N + 1 + 1, 1, none⟩ d).setCell ⟨N + 1 + 1, 2, none⟩ e) (some (N + 1 + 1)) := gg_set (gg_set (gg_set (World.grownBy.refl _ _) ⟨N + 1 + 1, 0, none⟩ rfl _) ⟨N + 1 + 1, 1, none⟩ rfl _) ⟨N + 1 + 1, 2, none⟩ rfl _
          have m1 := (HMO.out.keep g1 (by omega) hr1 (by decide) (by decide)).keep g2 (by omega) t2 (by decide) (by decide)
          obtain ⟨b1, b1'⟩ := boxes_keep hbx5 hby5 g1 hr1 (by decide)
          obtain ⟨b2, _⟩ := boxes_keep b1 b1' g2 t2 (by decide)
          obtain ⟨au2, cu2, e2, hM2⟩ := m1.mod (bs := m.boxes) (ab := ab') (fun i x hx => (by obtain ⟨h1, h2, bb, o, e, hb, c0⟩ := b2 i x hx; exact ⟨h1, h2, bb, o, e, by have := lt_of_block H5.out; simp; omega, c0⟩)) (by have := HBX.out; omega) (by have := HUL.out; omega)
          cases e2
          have e3 : us.map (·.u) = m.units.map shortU := by rw [HUS.out, HNU.out, List.take_length]
          rw [e3] at hM2
          exact hM2
        have HLE : Hid ((shortM m).units.length = us.length ∧ (shortM m).boxes.length = m.boxes.length) := by
          refine ⟨?_, rfl⟩
          show (m.units.map shortU).length = _
          rw [List.length_map, HUL.out, HNU.out]
        have HF : Hid (∀ a b c d e, Below w.heap.size w (((((wr.setCell ⟨N + 1, 0, none⟩ a).setCell ⟨N + 1, 1, none⟩ b).setCell ⟨N + 1 + 1, 0, none⟩ c).setCell ⟨N + 1 + 1, 1, none⟩ d).setCell ⟨N + 1 + 1, 2, none⟩ e)) := fun a b c d e => five_below HBR.out (by rw [HNW.out]; exact Nat.le_refl _) _ _ _ _ _
        obtain ⟨ul, hul⟩ : ∃ ul, ul = us.length := ⟨_, rfl⟩
        rw [← hul] at d1
        have HUE := hide hul
        clear hul hr1 hr2 hbx5 hby5 hlt
        go_wp2
        exact bodyPost_ret (v := .tuple #[.agg #[.slice ab' m.boxes.length cb', .slice au' ul cu'], whV 0 0 0]) (by simp [results, Try.results7, go_sem, x0, x1, u0, u1, u2]) rfl ⟨ab', cb', au', cu', by rw [HMD.out, ← HR.out, HRZ.out]; simp only [modV]; rw [HLE.out.1, ← HUE.out]; rfl, by rw [HMD.out]; exact HEND.out _ _ _ _ _, HF.out _ _ _ _ _⟩
  · have e1 : (r.1 != 0) = true := by simpa using h0
    have HMD : Hid (made m = ⟨[], []⟩) := by unfold made Hid; rw [← HR.out, if_neg h0]
    have HF : Hid (∀ W a b c d e, Below w.heap.size w W → Below w.heap.size w (((((W.setCell ⟨N + 1, 0, none⟩ a).setCell ⟨N + 1, 1, none⟩ b).setCell ⟨N + 1 + 1, 0, none⟩ c).setCell ⟨N + 1 + 1, 1, none⟩ d).setCell ⟨N + 1 + 1, 2, none⟩ e)) := fun W a b c d e h => five_below h (by rw [HNW.out]; exact Nat.le_refl _) _ _ _ _ _
    clear h0
    go_wp2
    go_region
    all_goals go_wp2
    all_goals exact bodyPost_ret (v := .tuple #[modV ⟨[], []⟩ none none 0 0, whV r.1 r.2.1 r.2.2]) (by simp [results, Try.results7, go_sem, x0, x1, u0, u1, u2]) rfl ⟨none, 0, none, 0, by rw [HMD.out, HR.out], by rw [HMD.out]; exact mod_none _ _, Below.drew (HF.out _ _ _ _ _ _ HBT.out)⟩
end Go.Proofs.Ytlbihbfgglnfnaa.Ow


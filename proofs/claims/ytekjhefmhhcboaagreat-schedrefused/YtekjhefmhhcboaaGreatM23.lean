/- The map of what is known where; a row that is taken at its front. -/
import Derived.Test.YtekjhefmhhcboaaGreatM1
import Derived.MapKept
import Derived.ArgAppend
import Derived.Test.YtekjhefmhhcboaaGreatM3
import Derived.Maps.RangeWalk
import Derived.LaidEql
set_option maxRecDepth 100000
set_option maxHeartbeats 2000000
namespace Go.Proofs.YtekjhefmhhcboaaGreat
open Go.RowKit
abbrev fnd (l : List MapEntry) (k : Nat) (i : Nat) : Option (Option (Nat × Value)) := Instr.findNow (.int .i64) (.int .i64 (k : Int)) l i
def Keyed' (l : List MapEntry) : Prop := ∀ e ∈ l, ∃ j : Nat, e.key = .int .i64 (j : Int)
theorem Keyed'.modify {k : Nat} {v : Value} : ∀ {l : List MapEntry} (_ : Keyed' l) (j : Nat), Keyed' (l.modify j (fun e => { e with key := .int .i64 (k : Int), val := v }))
 | [], _, j => by intro x hx; cases j <;> simp at hx
 | a :: l, h, 0 => by
  intro x hx
  rw [List.modify_cons, if_pos rfl] at hx
  rcases List.mem_cons.1 hx with rfl | h1
  ·exact ⟨k, rfl⟩
  ·exact h x (List.mem_cons_of_mem _ h1)
 | a :: l, h, j + 1 => by
  intro x hx
  rw [List.modify_cons, if_neg (by omega)] at hx
  rcases List.mem_cons.1 hx with rfl | h1
  ·exact h _ List.mem_cons_self
  ·exact Keyed'.modify (fun y hy => h y (List.mem_cons_of_mem _ hy)) j x h1
abbrev knV (k : Vf.Kn) (top : Option Addr) : Value := .agg #[.pointer top, .int .i64 (k.st.length : Int), bvV k.fl.a, bvV k.fl.b, bvV k.fl.c, bvV k.fl.d]
def ComeIn (w : World) (M : Nat) (come : Nat → Option Vf.Kn) : Prop :=
 ∃ es cl, w.heap[M]? = some (.map es cl) ∧ Keyed' es.toList ∧ ∀ k : Nat, (come k = none → fnd es.toList k 0 = some none) ∧ ∀ kn, come k = some kn → ∃ i top, fnd es.toList k 0 = some (some (i, knV kn top)) ∧ SkIn w top kn.st
theorem ComeIn.keep {w w' : World} {M : Nat} {come : Nat → Option Vf.Kn} (h : ComeIn w M come) (hM : w'.heap[M]? = w.heap[M]?) (hk : ∀ (b : Nat) (cs : Array Value), w.heap[b]? = some (Obj.cells cs 179 (0, 0)) → w'.heap[b]? = some (Obj.cells cs 179 (0, 0))) : ComeIn w' M come := by
 obtain ⟨es, cl, h1, h2, h3⟩ := h
 refine ⟨es, cl, hM.trans h1, h2, fun k => ⟨(h3 k).1, fun kn hkn => ?_⟩⟩
 obtain ⟨i, top, h4, h5⟩ := (h3 k).2 kn hkn
 exact ⟨i, top, h4, h5.keep hk⟩
theorem ComeIn.lt {w : World} {M : Nat} {come : Nat → Option Vf.Kn} (h : ComeIn w M come) : M < w.heap.size := by
 obtain ⟨es, cl, h1, _⟩ := h
 exact lt_of_block h1
theorem ComeIn.new (w : World) : ComeIn (w.alloc (.map #[] 0)) w.heap.size (fun _ => none) :=
 ⟨#[], 0, heap_alloc_new w _, fun _ h => (by cases h), fun _ => ⟨fun _ => rfl, fun _ h => (by cases h)⟩⟩
def QR (w : World) (B : Nat) (v : Value) (ws : List Nat) : Prop :=
 (v = .slice none 0 0 ∧ ws = []) ∨ ∃ g off cap cs, v = .slice (some ⟨g, off, none⟩) ws.length cap ∧ B ≤ g ∧ w.heap[g]? = some (.cells (List.toArray cs) 3 (0, 0)) ∧ off + cap ≤ cs.length ∧ ws.length ≤ cap ∧ ∀ (i x : Nat), ws[i]? = some x → cs[off + i]? = some (Value.int .i64 (x : Int))
theorem QR.nil (w : World) (B : Nat) : QR w B (.slice none 0 0) [] := .inl ⟨rfl, rfl⟩
theorem QR.keep {w w' : World} {B : Nat} {v : Value} {ws : List Nat} (h : QR w B v ws) (hk : ∀ k, v.ownBlock = some k → w'.heap[k]? = w.heap[k]?) : QR w' B v ws := by
 rcases h with h | ⟨g, off, cap, cs, rfl, hB, hh, r⟩
 ·exact .inl h
 ·exact .inr ⟨g, off, cap, cs, rfl, hB, (hk g rfl).trans hh, r⟩
theorem QR.lt {w : World} {B : Nat} {v : Value} {ws : List Nat} (h : QR w B v ws) (k : Nat) (hk : v.ownBlock = some k) : B ≤ k ∧ k < w.heap.size := by
 rcases h with ⟨rfl, _⟩ | ⟨g, off, cap, cs, rfl, hB, hh, r⟩
 ·simp [Value.ownBlock] at hk
 ·simp only [Value.ownBlock, Option.some.injEq] at hk
  subst hk
  exact ⟨hB, lt_of_block hh⟩
theorem QR.alloc {w : World} {B : Nat} {v : Value} {ws : List Nat} (h : QR w B v ws) (o : Obj) : QR (w.alloc o) B v ws := h.keep (fun k hk => Below.heap_alloc _ _ _ (h.lt k hk).2)
theorem QR.ty {w : World} {B k : Nat} {v : Value} {ws : List Nat} {o : Obj} (h : QR w B v ws) (hk : w.heap[k]? = some o) (ht : ∀ cs fr, o ≠ .cells cs 3 fr) : v.ownBlock ≠ some k := by
 rcases h with ⟨rfl, _⟩ | ⟨g, off, cap, cs', rfl, hB, hh, r⟩
 ·simp [Value.ownBlock]
 ·intro e1
  simp only [Value.ownBlock, Option.some.injEq] at e1
  subst e1
  rw [hh] at hk
  simp at hk
  exact ht _ _ hk.symm
theorem QR.form {w : World} {B : Nat} {v : Value} {ws : List Nat} (h : QR w B v ws) : ∃ a c, v = .slice a ws.length c := by
 rcases h with ⟨rfl, rfl⟩ | ⟨g, off, cap, cs, rfl, _⟩
 ·exact ⟨_, _, rfl⟩
 ·exact ⟨_, _, rfl⟩
theorem QR.pop {w : World} {B : Nat} {v : Value} {x : Nat} {ws : List Nat} (h : QR w B v (x :: ws)) :
  ∃ g off cap, v = .slice (some ⟨g, off, none⟩) (ws.length + 1) cap ∧ ws.length + 1 ≤ cap ∧ w.cell? ⟨g, off, none⟩ = some (.int .i64 (x : Int)) ∧
   (cap = 1 → QR w B (.slice (some ⟨g, off, none⟩) 0 0) ws) ∧ (cap ≠ 1 → QR w B (.slice (some ⟨g, off + 1, none⟩) ws.length (cap - 1)) ws) := by
 rcases h with ⟨_, h⟩ | ⟨g, off, cap, cs, rfl, hB, hh, h1, h2, h3⟩
 ·simp at h
 ·simp only [List.length_cons] at h2
  refine ⟨g, off, cap, rfl, h2, ?_, fun hc => ?_, fun hc => ?_⟩
  ·have := h3 0 x rfl
   simp [World.cell?, hh]
   simpa using this
  ·have hw : ws = [] := List.eq_nil_of_length_eq_zero (by omega)
   subst hw
   exact .inr ⟨g, off, 0, cs, rfl, hB, hh, by omega, Nat.le_refl _, fun i x hx => by simp at hx⟩
  ·refine .inr ⟨g, off + 1, cap - 1, cs, rfl, hB, hh, by omega, by omega, fun i y hy => ?_⟩
   have := h3 (i + 1) y (by simpa using hy)
   rw [show off + 1 + i = off + (i + 1) by omega]
   exact this
theorem own_base {w : World} {B C e size n : Nat} {v : Value} {xs : List Value} (h : w.ownsRow C e size v n xs) (hB : B ≤ C) : w.ownsRow B e size v n xs := by
 refine ⟨h.1, ?_⟩
 rcases h.2 with h2 | ⟨g, cap, cur, hv, hg, r⟩
 ·exact .inl h2
 ·exact .inr ⟨g, cap, cur, hv, Nat.le_trans hB hg, r⟩
theorem add_none (g off j : Nat) : (⟨g, off, none⟩ : Addr).add j = ⟨g, off + j, none⟩ := by
 unfold Addr.add
 split
 ·subst_vars; rfl
 ·rfl
theorem set_row {w : World} {g : Nat} {cs : List Value} {t : TypeId} {fr : Nat × Nat} (h : w.heap[g]? = some (.cells (List.toArray cs) t fr)) (i : Nat) (v : Value) : (w.setCell ⟨g, i, none⟩ v).heap[g]? = some (.cells (List.toArray (cs.set i v)) t fr) := by
 simp only [World.setCell, Array.getElem?_modify, if_true, h, Option.map_some]
 simp
abbrev skV (st : List Int) (top : Option Addr) : Value := .agg #[.pointer top, .int .i64 (st.length : Int)]
theorem sk_same {w : World} : ∀ {s t : List Int} {a : Option Addr}, SkIn w a s → SkIn w a t → s = t
 | [], [], _, _, _ => rfl
 | [], _ :: _, _, h1, ⟨b, _, e, _⟩ => by rw [show _ = none from h1] at e; cases e
 | _ :: _, [], _, ⟨b, _, e, _⟩, h2 => by rw [show _ = none from h2] at e; cases e
 | x :: s, y :: t, _, ⟨b, p, e, hb, hr⟩, ⟨b', p', e', hb', hr'⟩ => by
  rw [e] at e'
  cases e'
  rw [hb] at hb'
  simp at hb'
  obtain ⟨rfl, rfl⟩ := hb'
  rw [sk_same hr hr']
def SmAt (b : Bool) (w : World) (k : Nat) (v v' : Value) (W : World) : Prop :=
 w.grownBy W none ∧ ∃ p q s t, v = .pointer p ∧ v' = .pointer q ∧ SkIn W p s ∧ SkIn W q t ∧ s.length = k ∧ t.length = k ∧ b = decide (s = t)
theorem grown0_newA {w w' : World} (h : w.grownBy w' none) (o : Obj) : w.grownBy (w'.alloc o) none :=
 ⟨h.os, h.tape, h.output, by have := h.size; simp; omega, fun k hk hne => (Below.heap_alloc _ _ _ (by have := h.size; omega)).trans (h.block k hk hne)⟩
theorem sk_cell {w : World} {b : Nat} {t : Int} {below : Option Addr} (h : w.heap[b]? = some (.cells #[.int .i64 t, .pointer below] 179 (0, 0))) : w.cell? ⟨b, 0, none⟩ = some (.int .i64 t) ∧ w.cell? ⟨b, 1, none⟩ = some (.pointer below) := by simp [World.cell?, h]
theorem Tryz.infocell : (Tryz.prog.info? 179).map (·.size) = some 2 := by kernel_rfl
theorem neq_same (p : Option Addr) (w : World) : (binOp .neq 110 (.pointer p) (.pointer p)).run Tryz.prog w = .ok (.bool false) w := by
 obtain ⟨j, hj, hj2⟩ := Option.map_eq_some_iff.1 Tryz.infocell
 have h : ∀ d : Nat, (Op.equalIn (d + 1) 110 (.pointer p) (.pointer p)).run Tryz.prog w = .ok true w := fun d => by
  cases p with
  | none => simp [Op.equalIn, run_underlying Tryz.underlying110]
  | some a => simp [Op.equalIn, run_underlying Tryz.underlying110, sizeOf, typeInfo, hj, run_sameAddr_same]
 simp only [binOp]
 simp [Op.equal, Op.maxDepth, h 9999]
theorem neq_other {b c : Nat} {cb cc : Array Value} {tb tc : TypeId} (w : World) (hne : b ≠ c) (hb : w.heap[b]? = some (.cells cb tb (0, 0))) (hc : w.heap[c]? = some (.cells cc tc (0, 0))) : (binOp .neq 110 (.pointer (some ⟨b, 0, none⟩)) (.pointer (some ⟨c, 0, none⟩))).run Tryz.prog w = .ok (.bool true) w := by
 obtain ⟨j, hj, hj2⟩ := Option.map_eq_some_iff.1 Tryz.infocell
 have h1 := run_sameAddr_other (P := Tryz.prog) w (a := ⟨b, 0, none⟩) (b := ⟨c, 0, none⟩) (by intro e; cases e; exact hne rfl) hb hc
 have h : ∀ d : Nat, (Op.equalIn (d + 1) 110 (.pointer (some ⟨b, 0, none⟩)) (.pointer (some ⟨c, 0, none⟩))).run Tryz.prog w = .ok false w := fun d => by
  simp [Op.equalIn, run_underlying Tryz.underlying110, sizeOf, typeInfo, hj, hj2, h1]
 simp only [binOp]
 simp [Op.equal, Op.maxDepth, h 9999]
theorem same_any (s t : List Int) (p q : Option Addr) (w : World) (hs : Hid (SkIn w p s)) (ht : Hid (SkIn w q t)) (b : Bool) (hb : Hid (b = decide (s = t))) :
  Calls Tryz.prog 110 #[skV s p, skV t q] w fun e w' => e = .returned (.bool b) ∧ w.grownBy w' none := by
 by_cases hlen : s.length = t.length
 ·have e0 : ((s.length : Int) != (t.length : Int)) = false := by simp; omega
  have HL := hide hlen
  clear hlen
  go_enter Tryz.func110, Tryz.ntmps110
  go_wp2
  go_quiet (fail)
  go_wp2
  go_loopg [5, 6] s.length (fun k v v' wr => SmAt b w k v v' wr)
  case atStart =>
   have hg : w.grownBy ((w.alloc (.cells #[.pointer p, .int .i64 (s.length : Int)] 112)).alloc (.cells #[.pointer q, .int .i64 (t.length : Int)] 112)) none := grown0_newA (grown0_newA (World.grownBy.refl _ _) _) _
   refine ⟨?_, p, q, s, t, rfl, rfl, ?_, ?_, rfl, HL.out.symm, hb.out⟩
   ·exact ⟨rfl, rfl, rfl, hg.size, hg.block⟩
   ·exact hs.out.keep fun b _ hb => (hg.block b (lt_of_block hb) (by simp)).trans hb
   ·exact ht.out.keep fun b _ hb => (hg.block b (lt_of_block hb) (by simp)).trans hb
  case round =>
   obtain ⟨hg, p1, q1, s1, t1, rfl, rfl, hs1, ht1, hl1, hl2, hb1⟩ := hrel
   have HG := hide hg
   have HB1 := hide hb1
   clear hg hb1 e0
   by_cases hpq : p1 = q1
   ·subst hpq
    have HT : Hid (b = true) := by unfold Hid; rw [HB1.out, sk_same hs1 ht1]; simp
    have hnq := neq_same p1 wr
    clear hs1 ht1 hl1 hl2
    go_wp2
    go_ret
    rw [HT.out]
    exact ⟨rfl, HG.out⟩
   ·cases s1 with
    | nil =>
     exfalso
     obtain rfl : t1 = [] := List.eq_nil_of_length_eq_zero (by rw [hl2, ← hl1]; rfl)
     exact hpq ((show p1 = none from hs1).trans (show q1 = none from ht1).symm)
    | cons x s2 =>
     cases t1 with
     | nil => exfalso; simp at hl1 hl2; omega
     | cons y t2 =>
      obtain ⟨bp, lp, rfl, hbp, hsp⟩ := hs1
      obtain ⟨bq, lq, rfl, hbq, hsq⟩ := ht1
      have hnq := neq_other wr (fun e => hpq (by rw [e])) hbp hbq
      obtain ⟨p0, p1⟩ := sk_cell hbp
      obtain ⟨q0, q1⟩ := sk_cell hbq
      have HSP := hide hsp
      have HSQ := hide hsq
      have HL1 : Hid (s2.length + 1 = gk ∧ t2.length + 1 = gk) := ⟨by simpa using hl1, by simpa using hl2⟩
      clear hbp hbq hsp hsq hpq hl1 hl2
      by_cases hxy : x = y
      ·have e1 : (x != y) = false := by simpa using hxy
       have HB2 : Hid (b = decide (s2 = t2)) := by unfold Hid; rw [HB1.out, hxy]; simp
       clear hxy HB1
       go_wp2
       go_quiet (fail)
       go_wp2
       go_quiet (fail)
       go_wp2
       go_roundg s2.length
       case measure => have := HL1.out; omega
       case rel =>
        refine ⟨⟨HG.out.os, HG.out.tape, HG.out.output, HG.out.size, HG.out.block⟩, lp, lq, s2, t2, rfl, rfl, HSP.out.keep fun _ _ h => h, HSQ.out.keep fun _ _ h => h, rfl, by have := HL1.out; omega, HB2.out⟩
      ·have e1 : (x != y) = true := by simpa using hxy
       have HB2 : Hid (b = false) := by unfold Hid; rw [HB1.out]; simp [hxy]
       clear hxy HB1
       go_wp2
       go_quiet (fail)
       go_wp2
       go_ret
       rw [HB2.out]
       exact ⟨rfl, ⟨HG.out.os, HG.out.tape, HG.out.output, HG.out.size, HG.out.block⟩⟩
 ·have e0 : ((s.length : Int) != (t.length : Int)) = true := by simp; omega
  have HB : Hid (b = false) := by unfold Hid; rw [hb.out]; simp; intro e; exact hlen (by rw [e])
  go_enter Tryz.func110, Tryz.ntmps110
  go_wp2
  go_ret
  rw [HB.out]
  exact ⟨rfl, ⟨rfl, rfl, rfl, by simp; omega, fun k hk _ => (Below.heap_alloc _ _ _ (by simp; omega)).trans (Below.heap_alloc _ _ _ hk)⟩⟩
def KC (w w' : World) : Prop := ∀ (b : Nat) (cs : Array Value), w.heap[b]? = some (Obj.cells cs 179 (0, 0)) → w'.heap[b]? = some (Obj.cells cs 179 (0, 0))
theorem KC.trans {a b c : World} (h : KC a b) (k : KC b c) : KC a c := fun x cs hx => k x cs (h x cs hx)
theorem KC.refl (w : World) : KC w w := fun _ _ h => h
theorem kc_grown {w w' : World} {r : Option Nat} (hg : w.grownBy w' r) (hne : ∀ (b : Nat) (cs : Array Value), w.heap[b]? = some (Obj.cells cs 179 (0, 0)) → r ≠ some b) : KC w w' := fun b cs hb => (hg.block b (lt_of_block hb) (fun e => hne b cs hb e.symm)).trans hb
theorem kc_alloc (w : World) (o : Obj) : KC w (w.alloc o) := fun _ _ hb => (Below.heap_alloc _ _ _ (lt_of_block hb)).trans hb
theorem kc_block {w w' : World} {F : Nat} {o : Obj} (hg : w.grownBy w' (some F)) (ho : w.heap[F]? = some o) (ht : ∀ cs, o ≠ Obj.cells cs 179 (0, 0)) : KC w w' := kc_grown hg fun b cs hb e => by
 simp at e
 subst e
 rw [ho] at hb
 simp at hb
 exact ht _ hb
structure WF (c : FC) (B F : Nat) (w : World) (k : Vf.Kn) (n : Int) (s : Vf.S) : Prop where
 env : Env c B F w
 mB : B ≤ c.M
 fl : ∃ top rv, FlIn c w F top k.st k.fl n rv ∧ QR w B rv s.row
 come : ComeIn w c.M s.come
theorem ComeIn.ne {c : FC} {w : World} {M F : Nat} {come : Nat → Option Vf.Kn} {top : Option Addr} {st : List Int} {f : Vf.Fl} {n : Int} {row : Value} (h : ComeIn w M come) (hF : w.heap[F]? = some (flO c top st f n row)) : M ≠ F := by
 obtain ⟨es, cl, h1, _⟩ := h
 intro e
 subst e
 rw [h1] at hF
 cases hF
theorem WF.own {c : FC} {B F : Nat} {w w' : World} {k k' : Vf.Kn} {n n' : Int} {s : Vf.S} {top : Option Addr} {rv : Value} (h : WF c B F w k n s) (hg : w.grownBy w' (some F)) (hF : FlIn c w' F top k'.st k'.fl n' rv) (hrv : ∀ top rv', FlIn c w F top k.st k.fl n rv' → rv = rv') : WF c B F w' k' n' s := by
 obtain ⟨env, mB, ⟨top0, rv0, hF0, hq⟩, come⟩ := h
 obtain rfl := hrv _ _ hF0
 have hne := come.ne hF0.blk
 have kc := kc_block hg hF0.blk (fun cs e => by cases e)
 exact ⟨env.grown hg, mB, ⟨top, rv, hF, hq.keep fun j hj => hg.block j (hq.lt j hj).2 (fun e => hq.ty hF0.blk (fun cs fr e2 => by cases e2) (by rw [hj, ← e]))⟩, come.keep (hg.block _ come.lt (by simp; omega)) kc⟩
theorem ComeIn.drew {w : World} {M : Nat} {come : Nat → Option Vf.Kn} (h : ComeIn w M come) : ComeIn w.drew M come := h.keep rfl (fun _ _ hb => hb)
theorem ComeIn.alloc {w : World} {M : Nat} {come : Nat → Option Vf.Kn} (h : ComeIn w M come) (o : Obj) : ComeIn (w.alloc o) M come := h.keep (Below.heap_alloc _ _ _ h.lt) (kc_alloc _ _)
theorem SkIn.drew {w : World} {a : Option Addr} {st : List Int} (h : SkIn w a st) : SkIn w.drew a st := h.keep fun _ _ hb => hb
end Go.Proofs.YtekjhefmhhcboaaGreat

/- The walk of ref2.sameExpr, of two that are alike. -/
import Derived.Test.YtlnikpcoejpknaaGreatDoorM2
import Derived.Deep.RegionHeld3
import Derived.Test.YtlnikpcoejpknaaGreatDoorM17
import Derived.Test.YtlnikpcoejpknaaGreatDoorM18
import Derived.Deep.Cut
namespace Go.Proofs.YtlnikpcoejpknaaGreatDoor
open Go.RowKit

theorem sx_str (a : ByteArray) : (a != a) = false := by
  cases a with
  | mk x =>
    have : ((⟨x⟩ : ByteArray) == ⟨x⟩) = (x == x) := rfl
    simp [bne, this]
theorem hideX {p : Prop} (h : p) : Hid p := h
abbrev sxO (x : Sy.Ex) (a : Option Addr) (c : Nat) : Obj := .cells #[.int .i64 x.kind, .int .i64 x.n, .string x.name, .slice a x.kids.length c] 64 (0, 0)

theorem sx_cells {w : World} {b : Nat} {v0 v1 v2 v3 : Value} {t : TypeId} (h : w.heap[b]? = some (.cells #[v0, v1, v2, v3] t (0, 0))) :
    w.cell? ⟨b, 0, none⟩ = some v0 ∧ w.cell? ⟨b, 1, none⟩ = some v1 ∧ w.cell? ⟨b, 2, none⟩ = some v2 ∧ w.cell? ⟨b, 3, none⟩ = some v3 := by simp [World.cell?, h]
theorem sx_at1 (w : World) (o p : Obj) : ((w.alloc o).alloc p).heap[w.heap.size]? = some o := by
  rw [Below.heap_alloc _ _ _ (by simp)]; exact heap_alloc_new w o
theorem sx_at2 (w : World) (o p : Obj) : ((w.alloc o).alloc p).heap[w.heap.size + 1]? = some p := by
  have := heap_alloc_new (w.alloc o) p
  simpa using this
theorem sx_bel2 (w : World) (o p : Obj) : Below w.heap.size w ((w.alloc o).alloc p) := ((Below.refl _ w).alloc (Nat.le_refl _) _).alloc (by simp) _
theorem sx_cell {u v : World} {N o : Nat} {x : Value} (hb : Below u.heap.size u v) (hN : N < u.heap.size) (h : u.cell? ⟨N, o, none⟩ = some x) : v.cell? ⟨N, o, none⟩ = some x := (hb.cell (p := ⟨N, o, none⟩) hN).trans h

set_option maxRecDepth 100000 in
set_option maxHeartbeats 1000000 in
theorem sameExpr_any (B : Nat) : ∀ (h h' : Nat) (x : Sy.Ex) (a1 a2 : Option Addr) (c1 c2 : Nat) (w : World) (_ : B ≤ w.heap.size) (_ : Hid (ExIn B w h x a1)) (_ : Hid (ExIn B w h' x a2)),
    Calls Tryz.prog 48 #[exV x a1 c1, exV x a2 c2] w fun e w' => e = .returned (.bool true) ∧ Below w.heap.size w w'
  | 0, _, x, a1, a2, c1, c2, w, hB, h1, h2 => h1.out.elim
  | _ + 1, 0, x, a1, a2, c1, c2, w, hB, h1, h2 => h2.out.elim
  | h + 1, h' + 1, x, a1, a2, c1, c2, w, hB, h1, h2 => by
    have ih := sameExpr_any B h
    have IH := hideX ih
    clear ih
    have e1 : (x.kind != x.kind) = false := by simp
    have e2 : (x.n != x.n) = false := by simp
    have e3 := sx_str x.name
    have e4 : ((x.kids.length : Int) != (x.kids.length : Int)) = false := by simp
    have hlen : x.kids.length ≤ 9223372036854775807 := h1.out.2.1
    obtain ⟨W0, hW0⟩ : ∃ W0, (w.alloc (sxO x a1 c1)).alloc (sxO x a2 c2) = W0 := ⟨_, rfl⟩
    have HB0 : Hid (Below w.heap.size w W0) := by rw [← hW0]; exact sx_bel2 _ _ _
    have HP : Hid (W0.heap[w.heap.size]? = some (sxO x a1 c1)) := by rw [← hW0]; exact sx_at1 _ _ _
    have HQ : Hid (W0.heap[w.heap.size + 1]? = some (sxO x a2 c2)) := by rw [← hW0]; exact sx_at2 _ _ _
    have hZ0 : w.heap.size + 1 < W0.heap.size := lt_of_block HQ.out
    have HZ := hideX hZ0
    obtain ⟨p0, p1, p2, p3⟩ := sx_cells HP.out
    obtain ⟨q0, q1, q2, q3⟩ := sx_cells HQ.out
    go_enter Tryz.func48, Tryz.ntmps48
    go_wp2
    clear p0 p1 p2 p3 q0 q1 q2 q3 e1 e2 e3 e4
    go_loopw [37] (fun i wr => ∃ k : Nat, k ≤ x.kids.length ∧ i = .int .i64 k ∧ Hid (Below W0.heap.size W0 wr)) (fun i _ => x.kids.length - (intOf i).toNat)
    case atStart => exact ⟨0, Nat.zero_le _, rfl, Below.refl _ _⟩
    case round =>
      obtain ⟨k, hk, rfl, HBr⟩ := hrel
      have HBw : Hid (Below w.heap.size w wr) := HB0.out.trans (HBr.out.mono HB0.out.size)
      obtain ⟨p0, p1, p2, p3⟩ := sx_cells ((HBr.out.block _ (by omega)).trans HP.out)
      obtain ⟨q0, q1, q2, q3⟩ := sx_cells ((HBr.out.block _ (by omega)).trans HQ.out)
      clear p0 p1 p2 q0 q1 q2
      by_cases hlt : k < x.kids.length
      · obtain ⟨kid, hkid⟩ : ∃ kid, x.kids[k]? = some kid := ⟨_, List.getElem?_eq_getElem hlt⟩
        obtain ⟨b1, o1, a1', c1', rfl, hb1, u0, u1, u2, u3, i1⟩ := h1.out.2.2 k kid hkid
        obtain ⟨b2, o2, a2', c2', rfl, hb2, v0, v1, v2, v3, i2⟩ := h2.out.2.2 k kid hkid
        have hs := HBw.out.size
        have hsw := same_below HBw.out
        have l1 : b1 < wr.heap.size := by omega
        have l2 : b2 < wr.heap.size := by omega
        have hPr : w.heap.size + 1 < wr.heap.size := by have := HBr.out.size; omega
        rw [← hsw _ _ (by omega)] at u0 u1 u2 u3 v0 v1 v2 v3
        have HI1 : Hid (ExIn B wr h kid a1') := i1.same (fun b o hb => hsw b o (by omega))
        have HI2 : Hid (ExIn B wr h' kid a2') := i2.same (fun b o hb => hsw b o (by omega))
        have hBr : B ≤ wr.heap.size := by omega
        have m0 : (0 : Int) ≤ (k : Int) := by omega
        have m1 : (k : Int) < (x.kids.length : Int) := by omega
        clear i1 i2 hsw hkid hs hb1 hb2
        go_wp2_with fail
        go_region_held3 (fun w' => w'.cell? ⟨w.heap.size, 3, none⟩ = some (.slice (some ⟨b1, o1, none⟩) x.kids.length c1) ∧ w'.cell? ⟨w.heap.size + 1, 3, none⟩ = some (.slice (some ⟨b2, o2, none⟩) x.kids.length c2) ∧ w'.cell? ⟨b1, o1 + k * 4, none⟩ = some (.int .i64 kid.kind) ∧ w'.cell? ⟨b1, o1 + k * 4 + 1, none⟩ = some (.int .i64 kid.n) ∧ w'.cell? ⟨b1, o1 + k * 4 + 2, none⟩ = some (.string kid.name) ∧ w'.cell? ⟨b1, o1 + k * 4 + 3, none⟩ = some (.slice a1' kid.kids.length c1') ∧ w'.cell? ⟨b2, o2 + k * 4, none⟩ = some (.int .i64 kid.kind) ∧ w'.cell? ⟨b2, o2 + k * 4 + 1, none⟩ = some (.int .i64 kid.n) ∧ w'.cell? ⟨b2, o2 + k * 4 + 2, none⟩ = some (.string kid.name) ∧ w'.cell? ⟨b2, o2 + k * 4 + 3, none⟩ = some (.slice a2' kid.kids.length c2')) (go_keep)
          (first
            | (go_at_call 48; refine (IH.out h' kid a1' a2' c1' c2' wr.drew hBr (ExIn.same (w := wr) (w' := wr.drew) (fun _ _ _ => rfl) h kid a1' HI1.out) (ExIn.same (w := wr) (w' := wr.drew) (fun _ _ _ => rfl) h' kid a2' HI2.out)).mono ?_; rintro e w4 ⟨rfl, hb4'⟩; have hb4 : Below wr.heap.size wr w4 := (Below.refl _ wr).drew.trans hb4'; have HB4 : Hid (Below W0.heap.size W0 w4) := HBr.out.trans (hb4.mono HBr.out.size); have x1 := sx_cell hb4 (by omega) p3; have x2 := sx_cell hb4 hPr q3; have x3 := sx_cell hb4 l1 u0; have x4 := sx_cell hb4 l1 u1; have x5 := sx_cell hb4 l1 u2; have x6 := sx_cell hb4 l1 u3; have x7 := sx_cell hb4 l2 v0; have x8 := sx_cell hb4 l2 v1; have x9 := sx_cell hb4 l2 v2; have x10 := sx_cell hb4 l2 v3; clear hb4 hb4'))
        go_wp2
        go_roundw
        case rel => exact ⟨k + 1, by omega, by go_num, HB4.out⟩
        case measure => simp [intOf]; omega
      · go_wp2
        go_ret
        exact ⟨rfl, HBw.out⟩

end Go.Proofs.YtlnikpcoejpknaaGreatDoor

/- Bare expressions: the row of kids as it grows. -/
namespace Go.Proofs.YtlnikpcoejpknaaGreatDoor
open Go.RowKit

/-- What BareExpr has at the head of its loop: the argument's box, the answer's, the new expression's, and its row. -/
structure BxAt (w : World) (d : Nat) (X : Obj) (k n : Int) (s : ByteArray) (ks : List Sy.Ex) (its : List Itm) (v : Value) (W : World) : Prop where
  bel : Below w.heap.size w W
  xb : W.heap[w.heap.size]? = some X
  rb : W.heap[w.heap.size + 1]? = some ZE
  ob : W.heap[w.heap.size + 1 + 1]? = some (exO k n s v)
  own : W.ownsRow (w.heap.size + 1 + 1 + 1) 64 4 v its.length (cells4 its)
  eq : its.map (·.1) = ks.map (Sy.exB d)
  exq : ∀ it ∈ its, ExQ (fun b => w.heap.size + 1 + 1 + 1 ≤ b ∧ b < W.heap.size ∧ v.ownBlock ≠ some b) W d it.1 it.2.1

theorem exo_set {w : World} {M : Nat} {k n : Int} {s : ByteArray} {v u : Value} (h : w.heap[M]? = some (exO k n s v)) : (w.setCell ⟨M, 3, none⟩ u).heap[M]? = some (exO k n s u) := by
  simp only [World.setCell, Array.getElem?_modify, if_true, h, Option.map_some]
  rfl

/-- One kid more. -/
theorem BxAt.more {w : World} {d : Nat} {X : Obj} {k n : Int} {s : ByteArray} {ks : List Sy.Ex} {its : List Itm} {v : Value} {W W1 w4 : World} {kid y : Sy.Ex} {a' : Option Addr} {c' g cap : Nat} (A : BxAt w d X k n s ks its v W) (hb : Below W.heap.size W W1) (hy : y = Sy.exB d kid) (hq : ExQ (fun b => W.heap.size ≤ b ∧ b < W1.heap.size) W1 d y a')
    (hown : w4.ownsRow (w.heap.size + 1 + 1 + 1) 64 4 (.slice (some ⟨g, 0, none⟩) (its.length + 1) cap) (its.length + 1) (cells4 its ++ cells4 [(y, a', c')])) (hg : (W1.alloc (exO y.kind y.n y.name (.slice a' y.kids.length c'))).grownBy w4 v.ownBlock) (hp : v.ownBlock = some g ∨ g = (W1.alloc (exO y.kind y.n y.name (.slice a' y.kids.length c'))).heap.size) :
    BxAt w d X k n s (ks ++ [kid]) (its ++ [(y, a', c')]) (.slice (some ⟨g, 0, none⟩) (its.length + 1) cap) (w4.setCell ⟨w.heap.size + 1 + 1, 3, none⟩ (.slice (some ⟨g, 0, none⟩) (its.length + 1) cap)) := by
  have hMW : w.heap.size + 1 + 1 < W.heap.size := lt_of_block A.ob
  have hvb := A.own.lt
  have hs1 := hb.size
  have hz : (W1.alloc (exO y.kind y.n y.name (.slice a' y.kids.length c'))).heap.size = W1.heap.size + 1 := by simp
  rw [hz] at hp
  have hgl := hown.lt g rfl
  have hs4 := hg.size
  rw [hz] at hs4
  have hgM : w.heap.size + 1 + 1 ≠ g := by omega
  -- what stays
  have low : ∀ b, b < W.heap.size → v.ownBlock ≠ some b → w4.heap[b]? = W.heap[b]? := fun b h1 h2 => by
    rw [hg.block b (by omega) (fun e => h2 e.symm), Below.heap_alloc _ _ _ (by omega)]
    exact hb.block b h1
  have mid : ∀ b, W.heap.size ≤ b → b < W1.heap.size → w4.heap[b]? = W1.heap[b]? := fun b h1 h2 => by
    rw [hg.block b (by omega) (fun e => by have := (hvb b e.symm).2; omega), Below.heap_alloc _ _ _ h2]
  have far : ∀ b, b ≠ w.heap.size + 1 + 1 → (w4.setCell ⟨w.heap.size + 1 + 1, 3, none⟩ (.slice (some ⟨g, 0, none⟩) (its.length + 1) cap)).heap[b]? = w4.heap[b]? := fun b h => Below.heap_setCell _ _ _ _ h
  have nov : ∀ b, b < w.heap.size + 1 + 1 + 1 → v.ownBlock ≠ some b := fun b h e => by have := (hvb b e).1; omega
  have h4 : Below w.heap.size w w4 := by
    refine ⟨hg.os.trans ?_, hg.tape.trans ?_, hg.output.trans ?_, ?_, fun b hb' => (low b (by have := A.bel.size; omega) (nov b (by omega))).trans (A.bel.block b hb')⟩
    · exact hb.os.trans A.bel.os
    · exact hb.tape.trans A.bel.tape
    · exact hb.output.trans A.bel.output
    · have := A.bel.size; omega
  have hne : g < W.heap.size → v.ownBlock = some g := fun h => by
    rcases hp with hp | hp
    · exact hp
    · omega
  refine ⟨h4.setCell (by show w.heap.size ≤ w.heap.size + 1 + 1; omega) _, ?_, ?_, ?_, ?_, ?_, ?_⟩
  · exact (far _ (by omega)).trans ((low _ (by omega) (nov _ (by omega))).trans A.xb)
  · exact (far _ (by omega)).trans ((low _ (by omega) (nov _ (by omega))).trans A.rb)
  · exact exo_set ((low _ hMW (nov _ (by omega))).trans A.ob)
  · have hl : (its ++ [(y, a', c')]).length = its.length + 1 := by simp
    rw [hl, cells4_app]
    exact hown.kept (grown_cell _ _ _) (.inr (by simp [Value.ownBlock]; omega))
  · rw [List.map_append, A.eq, List.map_append, List.map_cons, List.map_nil, List.map_cons, List.map_nil, hy]
  · intro it hit
    rcases List.mem_append.1 hit with hit | hit
    · exact (A.exq it hit).keep (fun b hb' => ⟨⟨hb'.1, by simp only [World.setCell_size]; omega, fun e => by
        simp only [Value.ownBlock, Option.some.injEq] at e
        exact hb'.2.2 (by rw [← e]; exact hne (by omega))⟩, (far _ (by omega)).trans (low b hb'.2.1 hb'.2.2)⟩)
    · rw [List.mem_singleton.1 hit]
      exact hq.keep (fun b hb' => ⟨⟨by omega, by simp only [World.setCell_size]; omega, fun e => by
        simp only [Value.ownBlock, Option.some.injEq] at e
        rcases hp with hp | hp
        · have := (hvb g hp).2; omega
        · omega⟩, (far _ (by omega)).trans (mid b hb'.1 hb'.2)⟩)

end Go.Proofs.YtlnikpcoejpknaaGreatDoor

/- The walk of ref2.BareExpr. -/
namespace Go.Proofs.YtlnikpcoejpknaaGreatDoor
open Go.RowKit

/-- What BareExpr answers, at d levels. -/
def CBare (d : Nat) : Prop := ∀ (B h : Nat) (x y : Sy.Ex) (a : Option Addr) (c : Nat) (w : World), Hid (Sy.ExOk d x) → B ≤ w.heap.size → Hid (ExIn B w h x a) → Hid (y = Sy.exB d x) →
  Calls Tryz.prog 55 #[exV x a c] w fun e w' => ∃ a' c', e = .returned (exV y a' c') ∧ ExQ (Mad w w') w' d y a' ∧ Below w.heap.size w w'

/-- What lies there ahead of the loop. -/
def HdAt (w : World) (X : Obj) (k n : Int) (s : ByteArray) (W : World) : Prop := Below w.heap.size w W ∧ W.heap[w.heap.size]? = some X ∧ W.heap[w.heap.size + 1]? = some ZE ∧ W.heap[w.heap.size + 1 + 1]? = some (exO k n s (.slice none 0 0)) ∧ W.heap.size = w.heap.size + 1 + 1 + 1

theorem kids_six {x : Sy.Ex} (h : Sy.exHead x = 0) : x.kids.length ≤ 6 := by
  unfold Sy.exHead at h
  split at h
  · omega
  split at h
  · omega
  split at h
  · omega
  rename_i h3
  have : Sy.most x.kind ≤ 6 := by
    unfold Sy.most
    repeat' split
    all_goals omega
  omega
theorem name_small {x : Sy.Ex} (h : Sy.exHead x = 0) : (if x.kind = 3 ∨ x.kind = 19 ∨ x.kind = 20 ∨ x.kind = 22 then x.name else ⟨#[]⟩ : ByteArray).size ≤ 6000 := by
  split
  · rename_i hk
    unfold Sy.exHead at h
    split at h
    · omega
    split at h
    · omega
    rename_i h2
    have hn : Sy.nm x.name = true := by
      cases hn : Sy.nm x.name with
      | true => rfl
      | false => exact absurd ⟨hk, hn⟩ h2
    by_cases h12 : 12 < x.name.size
    · have := named_bad (s := x.name) (.inr h12)
      unfold Sy.nm at hn
      rw [this] at hn
      cases hn
    · omega
  · decide
theorem hd_start (w : World) (X : Obj) (k : Int) : HdAt w X k 0 ⟨#[]⟩ (((w.alloc X).alloc ZE).alloc (exO k 0 ⟨#[]⟩ (.slice none 0 0))) := by
  have h1 : ((w.alloc X).alloc ZE).heap.size = w.heap.size + 1 + 1 := by simp
  refine ⟨(((Below.refl _ w).alloc (Nat.le_refl _) _).alloc (by simp) _).alloc (by simp; omega) _, ?_, ?_, ?_, by simp⟩
  · rw [Below.heap_alloc _ _ _ (by simp; omega)]; exact sx_at1 _ _ _
  · rw [Below.heap_alloc _ _ _ (by simp)]; exact sx_at2 _ _ _
  · have := heap_alloc_new ((w.alloc X).alloc ZE) (exO k 0 ⟨#[]⟩ (.slice none 0 0))
    rw [h1] at this
    exact this
theorem HdAt.set {w : World} {X : Obj} {k n n' : Int} {s s' : ByteArray} {W : World} {o : Nat} {u : Value} (h : HdAt w X k n s W) (ho : (W.setCell ⟨w.heap.size + 1 + 1, o, none⟩ u).heap[w.heap.size + 1 + 1]? = some (exO k n' s' (.slice none 0 0))) : HdAt w X k n' s' (W.setCell ⟨w.heap.size + 1 + 1, o, none⟩ u) :=
  ⟨h.1.setCell (by show w.heap.size ≤ w.heap.size + 1 + 1; omega) _, (Below.heap_setCell _ _ _ _ (by show w.heap.size ≠ w.heap.size + 1 + 1; omega)).trans h.2.1, (Below.heap_setCell _ _ _ _ (by show w.heap.size + 1 ≠ w.heap.size + 1 + 1; omega)).trans h.2.2.1, ho, by simp only [World.setCell_size]; exact h.2.2.2.2⟩
theorem exo_set1 {w : World} {M : Nat} {k n m : Int} {s : ByteArray} {v : Value} (h : w.heap[M]? = some (exO k n s v)) : (w.setCell ⟨M, 1, none⟩ (.int .i64 m)).heap[M]? = some (exO k m s v) := by
  simp only [World.setCell, Array.getElem?_modify, if_true, h, Option.map_some]
  rfl
theorem exo_set2 {w : World} {M : Nat} {k n : Int} {s t : ByteArray} {v : Value} (h : w.heap[M]? = some (exO k n s v)) : (w.setCell ⟨M, 2, none⟩ (.string t)).heap[M]? = some (exO k n t v) := by
  simp only [World.setCell, Array.getElem?_modify, if_true, h, Option.map_some]
  rfl
theorem exo_free {w : World} {M : Nat} {k n : Int} {s : ByteArray} {v : Value} (h : w.heap[M]? = some (exO k n s v)) : w.frozen? ⟨M, 0, none⟩ = false ∧ w.frozen? ⟨M, 1, none⟩ = false ∧ w.frozen? ⟨M, 2, none⟩ = false ∧ w.frozen? ⟨M, 3, none⟩ = false := by simp [World.frozen?, h]
theorem exo_four {w : World} {M : Nat} {k k' n n' : Int} {s s' : ByteArray} {v v' : Value} (h : w.heap[M]? = some (exO k n s v)) : ((((w.setCell ⟨M, 0, none⟩ (.int .i64 k')).setCell ⟨M, 1, none⟩ (.int .i64 n')).setCell ⟨M, 2, none⟩ (.string s')).setCell ⟨M, 3, none⟩ v').heap[M]? = some (exO k' n' s' v') := by
  simp only [World.setCell, Array.getElem?_modify, if_true, h, Option.map_some]
  rfl
theorem HdAt.bx {w : World} {X : Obj} {k n : Int} {s : ByteArray} {W : World} (h : HdAt w X k n s W) (d : Nat) : BxAt w d X k n s [] [] (.slice none 0 0) W :=
  ⟨h.1, h.2.1, h.2.2.1, h.2.2.2.1, World.ownsRow_nil _ _ _ _, rfl, fun it hit => by cases hit⟩




set_option maxRecDepth 100000 in
set_option maxHeartbeats 4000000 in
theorem bareExpr_step (d : Nat) (ih : CBare d) : CBare (d + 1) := by
  intro B h x y0 a c w hok hB hX hy0
  have IH := hideX ih
  obtain ⟨_, _, hh, hkok⟩ := hok.out
  have HKO := hideX hkok
  have h6 := kids_six hh
  have hsz := name_small hh
  obtain ⟨n', hn'⟩ : ∃ n' : Int, n' = if x.kind = 1 ∨ x.kind = 2 then x.n else 0 := ⟨_, rfl⟩
  obtain ⟨s', hs'⟩ : ∃ s' : ByteArray, s' = if x.kind = 3 ∨ x.kind = 19 ∨ x.kind = 20 ∨ x.kind = 22 then x.name else ⟨#[]⟩ := ⟨_, rfl⟩
  obtain ⟨g1, hg1⟩ : ∃ g1 : Bool, g1 = decide (x.kind = 1 ∨ x.kind = 2) := ⟨_, rfl⟩
  obtain ⟨g2, hg2⟩ : ∃ g2 : Bool, g2 = decide (x.kind = 3 ∨ x.kind = 19 ∨ x.kind = 20 ∨ x.kind = 22) := ⟨_, rfl⟩
  rw [← hs'] at hsz
  have HN := hideX hn'
  have HS := hideX hs'
  have HG1 := hideX hg1
  have HG2 := hideX hg2
  have HSZ := hideX hsz
  have HY0 : Hid (y0 = ⟨x.kind, n', s', x.kids.map (Sy.exB d)⟩) := by rw [hy0.out, hn', hs']; rfl
  obtain ⟨i0, hi, hz0, hz1, hz2⟩ := info_parts Tryz.info64
  clear ih hh hkok hn' hs' hg1 hg2 hsz hy0 hok
  obtain ⟨W0, hW0⟩ : ∃ W0, ((w.alloc (exO x.kind x.n x.name (.slice a x.kids.length c))).alloc ZE).alloc (exO x.kind 0 ⟨#[]⟩ (.slice none 0 0)) = W0 := ⟨_, rfl⟩
  have HH0 : Hid (HdAt w (exO x.kind x.n x.name (.slice a x.kids.length c)) x.kind 0 ⟨#[]⟩ W0) := by rw [← hW0]; exact hd_start _ _ _
  have HW0 := hideX hW0
  clear hW0
  obtain ⟨p0, p1, p2, p3⟩ := sx_cells HH0.out.2.1
  obtain ⟨q0, q1, q2, q3⟩ := sx_cells HH0.out.2.2.2.1
  obtain ⟨f0, f1, f2, f3⟩ := exo_free HH0.out.2.2.2.1
  go_enter Tryz.func55, Tryz.ntmps55
  go_upto_region 2 with fail
  rw [HW0.out]
  go_cut [16] (fun v wx => v = .bool g1 ∧ wx = W0)
  case first =>
    by_cases h1 : x.kind = 1
    · have e1 : (x.kind == 1) = true := by simpa using h1
      have E' : g1 = true := by rw [HG1.out]; simp [h1]
      have E := hideX E'
      clear E'
      clear h1
      go_wp2_with fail
      go_meet
      exact ⟨by rw [E.out], rfl⟩
    · have e1 : (x.kind == 1) = false := by simpa using h1
      by_cases h2 : x.kind = 2
      · have e2 : (x.kind == 2) = true := by simpa using h2
        have E' : g1 = true := by rw [HG1.out]; simp [h2]
        have E := hideX E'
        clear E'
        clear h1 h2
        go_wp2_with fail
        go_meet
        exact ⟨by rw [E.out], rfl⟩
      · have e2 : (x.kind == 2) = false := by simpa using h2
        have E' : g1 = false := by rw [HG1.out]; simp [h1, h2]
        have E := hideX E'
        clear E'
        clear h1 h2
        go_wp2_with fail
        go_meet
        exact ⟨by rw [E.out], rfl⟩
  case rest =>
    obtain ⟨rfl, rfl⟩ := hcut
    go_upto_if 16 with fail
    go_cut [] (fun wx => HdAt w (exO x.kind x.n x.name (.slice a x.kids.length c)) x.kind n' ⟨#[]⟩ wx)
    case first =>
      cases g1 with
      | true =>
        have E : n' = x.n := by rw [HN.out, if_pos (of_decide_eq_true HG1.out.symm)]
        have HE := hideX E
        clear E
        go_wp2_with fail
        go_meet
        rw [HE.out]
        exact HH0.out.set (exo_set1 HH0.out.2.2.2.1)
      | false =>
        have E : n' = 0 := by rw [HN.out, if_neg (of_decide_eq_false HG1.out.symm)]
        have HE := hideX E
        clear E
        go_wp2_with fail
        go_meet
        rw [HE.out]
        exact HH0.out
    case rest =>
      have HH1 : Hid (HdAt w (exO x.kind x.n x.name (.slice a x.kids.length c)) x.kind n' ⟨#[]⟩ wc) := hcut
      clear hcut p0 p1 p2 p3 q0 q1 q2 q3 f0 f1 f2 f3 HH0 HW0
      obtain ⟨p0, p1, p2, p3⟩ := sx_cells HH1.out.2.1
      obtain ⟨q0, q1, q2, q3⟩ := sx_cells HH1.out.2.2.2.1
      obtain ⟨f0, f1, f2, f3⟩ := exo_free HH1.out.2.2.2.1
      go_upto_region 4 with fail
      go_cut [37] (fun v wx => v = .bool g2 ∧ wx = wc)
      case first =>
        by_cases h1 : x.kind = 3
        · have e1 : (x.kind == 3) = true := by simpa using h1
          have E' : g2 = true := by rw [HG2.out]; simp [h1]
          have E := hideX E'
          clear E' h1
          go_wp2_with fail
          go_meet
          exact ⟨by rw [E.out], rfl⟩
        have e1 : (x.kind == 3) = false := by simpa using h1
        by_cases h2 : x.kind = 20
        · have e2 : (x.kind == 20) = true := by simpa using h2
          have E' : g2 = true := by rw [HG2.out]; simp [h2]
          have E := hideX E'
          clear E' h1 h2
          go_wp2_with fail
          go_meet
          exact ⟨by rw [E.out], rfl⟩
        have e2 : (x.kind == 20) = false := by simpa using h2
        by_cases h3 : x.kind = 19
        · have e3 : (x.kind == 19) = true := by simpa using h3
          have E' : g2 = true := by rw [HG2.out]; simp [h3]
          have E := hideX E'
          clear E' h1 h2 h3
          go_wp2_with fail
          go_meet
          exact ⟨by rw [E.out], rfl⟩
        have e3 : (x.kind == 19) = false := by simpa using h3
        by_cases h4 : x.kind = 22
        · have e4 : (x.kind == 22) = true := by simpa using h4
          have E' : g2 = true := by rw [HG2.out]; simp [h4]
          have E := hideX E'
          clear E' h1 h2 h3 h4
          go_wp2_with fail
          go_meet
          exact ⟨by rw [E.out], rfl⟩
        have e4 : (x.kind == 22) = false := by simpa using h4
        have E' : g2 = false := by rw [HG2.out]; simp [h1, h2, h3, h4]
        have E := hideX E'
        clear E' h1 h2 h3 h4
        go_wp2_with fail
        go_meet
        exact ⟨by rw [E.out], rfl⟩
      case rest =>
        obtain ⟨rfl, rfl⟩ := hcut
        go_upto_if 37 with fail
        go_cut [] (fun wx => HdAt w (exO x.kind x.n x.name (.slice a x.kids.length c)) x.kind n' s' wx)
        case first =>
          cases g2 with
          | true =>
            have E : s' = x.name := by rw [HS.out, if_pos (of_decide_eq_true HG2.out.symm)]
            have HE := hideX E
            clear E
            go_wp2_with fail
            go_meet
            rw [HE.out]
            exact HH1.out.set (exo_set2 HH1.out.2.2.2.1)
          | false =>
            have E : s' = ⟨#[]⟩ := by rw [HS.out, if_neg (of_decide_eq_false HG2.out.symm)]
            have HE := hideX E
            clear E
            go_wp2_with fail
            go_meet
            rw [HE.out]
            exact HH1.out
        case rest =>
          have HH2 : Hid (HdAt w (exO x.kind x.n x.name (.slice a x.kids.length c)) x.kind n' s' wc) := hcut
          clear hcut p0 p1 p2 p3 q0 q1 q2 q3 f0 f1 f2 f3 HH1
          obtain ⟨p0, p1, p2, p3⟩ := sx_cells HH2.out.2.1
          go_wp2
          clear p0 p1 p2 p3
          go_loopw [44] (fun i wr => ∃ (its : List Itm) (v : Value), its.length ≤ x.kids.length ∧ i = .int .i64 its.length ∧ Hid (BxAt w d (exO x.kind x.n x.name (.slice a x.kids.length c)) x.kind n' s' (x.kids.take its.length) its v wr)) (fun i _ => x.kids.length - (intOf i).toNat)
          case atStart => exact ⟨[], _, Nat.zero_le _, rfl, HH2.out.bx d⟩
          case round =>
            obtain ⟨its, v, hk, rfl, HA⟩ := hrel
            by_cases hlt : its.length < x.kids.length
            · obtain ⟨kid, hkid⟩ : ∃ kid, x.kids[its.length]? = some kid := ⟨_, List.getElem?_eq_getElem hlt⟩
              have HKd := hideX hkid
              have HKo : Hid (Sy.ExOk d kid) := HKO.out kid (List.mem_of_getElem? hkid)
              obtain ⟨b1, o1, a', c', rfl, hb1, u0, u1, u2, u3, i1⟩ : ∃ b off a' c', a = some ⟨b, off, none⟩ ∧ b < B ∧ w.cell? ⟨b, off + its.length * 4, none⟩ = some (.int .i64 kid.kind) ∧ w.cell? ⟨b, off + its.length * 4 + 1, none⟩ = some (.int .i64 kid.n) ∧ w.cell? ⟨b, off + its.length * 4 + 2, none⟩ = some (.string kid.name) ∧ w.cell? ⟨b, off + its.length * 4 + 3, none⟩ = some (.slice a' kid.kids.length c') ∧ ∃ h', ExIn B w h' kid a' := by
                cases h with
                | zero => exact hX.out.elim
                | succ h =>
                  obtain ⟨b, off, a', c', ha, hb, c0, c1, c2, c3, hin⟩ := hX.out.2.2 its.length kid hkid
                  exact ⟨b, off, a', c', ha, hb, c0, c1, c2, c3, h, hin⟩
              obtain ⟨h', i1⟩ := i1
              have hsw := same_below HA.out.bel
              have hwz := HA.out.bel.size
              rw [← hsw _ _ (by omega)] at u0 u1 u2 u3
              have hMr : w.heap.size + 1 + 1 < wr.heap.size := lt_of_block HA.out.ob
              have hbr : b1 < wr.heap.size := by omega
              obtain ⟨y, hy⟩ : ∃ y, y = Sy.exB d kid := ⟨_, rfl⟩
              have HY := hideX hy
              obtain ⟨V, hV⟩ : ∃ V, wr.alloc (exO kid.kind kid.n kid.name (.slice a' kid.kids.length c')) = V := ⟨_, rfl⟩
              have HVb : Hid (Below wr.heap.size wr V) := by rw [← hV]; exact (Below.refl _ wr).alloc (Nat.le_refl _) _
              have hVs : V.heap.size = wr.heap.size + 1 := by rw [← hV]; simp
              have HVs := hideX hVs
              clear hVs
              have hV0 : V.heap[wr.heap.size]? = some (exO kid.kind kid.n kid.name (.slice a' kid.kids.length c')) := by rw [← hV]; exact heap_alloc_new _ _
              obtain ⟨t0, t1, t2, t3⟩ := sx_cells hV0
              obtain ⟨_, _, _, m3⟩ := sx_cells HA.out.ob
              have v3 := sx_cell HVb.out hMr m3
              have HI : Hid (ExIn B V h' kid a') := i1.same (fun b o hb => (same_below HVb.out b o (by omega)).trans (hsw b o (by omega)))
              have m0 : (0 : Int) ≤ (its.length : Int) := by omega
              have m1 : (its.length : Int) < (x.kids.length : Int) := by omega
              have HVe := hideX hV
              clear hkid hsw i1 hy hV0 hb1 hV
              go_upto_region 9 with fail
              rw [HVe.out]
              refine wp_region_any (by kernel_rfl) ?_
              change wpAny _ _ _ _ _ _ _ (World.drew _)
              refine wpAny_take (i := 0) (v := .pointer (some ⟨w.heap.size + 1 + 1, 3, none⟩)) rfl (by kernel_rfl) (by kernel_rfl) (by kernel_rfl) (fun _ _ _ h => h) (Or.inl ⟨by rfl, ?_⟩) ?_
              · intro w; go_simp
              simp only [Act.put]
              refine wpAny_ready (rs := [1, 2]) (by kernel_rfl) (by simp) ?_
              refine AllReady.cons rfl (fun K hK => ?_) ?_
              · go_simp
                refine hK _ _ ?_
                clear hK K
                refine wpAny_ready (rs := [2]) (by kernel_rfl) (by simp) ?_
                refine AllReady.cons rfl (fun K hK => ?_) ?_
                · go_simp
                  refine hK _ _ ?_
                  clear hK K
                  refine wpAny_ready (rs := [3]) (by kernel_rfl) (by simp) ?_
                  refine AllReady.cons rfl (fun K hK => ?_) ?_
                  · go_simp
                    refine (IH.out B h' kid y a' c' V.drew HKo (by have := HVs.out; show B ≤ V.heap.size; omega) (ExIn.same (w := V) (w' := V.drew) (fun _ _ _ => rfl) h' kid a' HI.out) HY).mono ?_
                    rintro e w1 ⟨ya, yc, rfl, hq1, hb1⟩
                    have hb1' : Below V.heap.size V w1 := (Below.refl _ V).drew.trans hb1
                    have HBw : Hid (Below wr.heap.size wr w1) := HVb.out.trans (hb1'.mono HVb.out.size)
                    have HQ1 : Hid (ExQ (fun b => wr.heap.size ≤ b ∧ b < w1.heap.size) w1 d y ya) := hq1.keep (fun b hb => ⟨⟨Nat.le_trans HVb.out.size hb.1, hb.2⟩, rfl⟩)
                    have hw1 : w.heap.size + 1 + 1 < w1.heap.size := by have := HBw.out.size; omega
                    have k3 := sx_cell HBw.out hMr m3
                    have k3a : (w1.alloc (exO y.kind y.n y.name (.slice ya y.kids.length yc))).cell? ⟨w.heap.size + 1 + 1, 3, none⟩ = some v := (World.cell?_of_block (w := w1) (Below.heap_alloc _ _ _ hw1)).trans k3
                    have HO1 : Hid ((w1.alloc (exO y.kind y.n y.name (.slice ya y.kids.length yc))).ownsRow (w.heap.size + 1 + 1 + 1) 64 4 v its.length (cells4 its)) := (HA.out.own.kept (row := none) ⟨HBw.out.os, HBw.out.tape, HBw.out.output, HBw.out.size, fun k hk _ => HBw.out.block k hk⟩ (by cases hv : v.ownBlock with | none => exact .inl rfl | some _ => exact .inr (by simp))).alloc _
                    clear hq1 hb1 hb1'
                    refine hK _ _ ?_
                    clear hK K
                    refine wpAny_ready (rs := [4]) (by kernel_rfl) (by simp) ?_
                    refine AllReady.cons rfl (fun K hK => ?_) ?_
                    · go_simp
                      refine hK _ _ ?_
                      clear hK K
                      refine wpAny_ready (rs := [5]) (by kernel_rfl) (by simp) ?_
                      refine AllReady.cons rfl (fun K hK => ?_) ?_
                      · skip
                        refine step_append_where rfl (.tmp 49) (.tmp 52) 62 rfl (w.heap.size + 1 + 1 + 1) 64 i0 _ 4 56 Tryz.underlying62 hi hz0 hz1 hz2 rfl (by decide) v its.length (cells4 its) rfl HO1.out ⟨_, 0, none⟩ 1 1 (cells4 [(y, ya, yc)]) rfl rfl (ex_news (heap_alloc_new w1 _)) (cells4_one _) (by decide) (by unfold maxLen; omega) (by omega) (by simp; omega) ?_
                        intro g cap w4 hown4 hg4 hw4
                        have HA4 := hideX (HA.out.more (c' := yc) HBw.out HY.out HQ1.out hown4 hg4 hw4)
                        have hM4 : w4.heap[w.heap.size + 1 + 1]? = some (exO x.kind n' s' v) := by
                          have hv := HA.out.own.lt
                          refine (hg4.block _ (by simp; omega) (fun e => by have := (hv _ e.symm).1; omega)).trans ?_
                          exact (Below.heap_alloc _ _ _ hw1).trans ((HBw.out.block _ hMr).trans HA.out.ob)
                        obtain ⟨_, _, _, f3⟩ := exo_free hM4
                        obtain ⟨_, _, _, l3⟩ := sx_cells hM4
                        clear hown4 hg4 hw4 hM4
                        refine hK _ _ ?_
                        clear hK K
                        simp only [Act.put]
                        refine wpAny_take (i := 6) (v := .pointer (some ⟨w.heap.size + 1 + 1, 3, none⟩)) rfl (by kernel_rfl) (by kernel_rfl) (by kernel_rfl) (fun _ _ _ h => h) (Or.inl ⟨by rfl, ?_⟩) ?_
                        · intro w; go_simp
                        simp only [Act.put]
                        refine wpAny_ready (rs := [7]) (by kernel_rfl) (by simp) ?_
                        refine AllReady.cons rfl (fun K hK => ?_) ?_
                        · go_simp
                          refine hK _ _ ?_
                          clear hK K
                          refine wpAny_done (by kernel_rfl) ?_ _
                          go_wp2
                          go_roundw
                          case rel =>
                            refine ⟨its ++ [(y, ya, yc)], .slice (some ⟨g, 0, none⟩) (its.length + 1) cap, by simp; omega, by simp, ?_⟩
                            have ht : x.kids.take (its ++ [(y, ya, yc)]).length = x.kids.take its.length ++ [kid] := by
                              rw [List.length_append, List.length_singleton, List.take_add_one, HKd.out]
                              rfl
                            rw [ht]
                            exact HA4.out
                          case measure => simp [intOf]; omega
                        exact AllReady.nil
                      exact AllReady.nil
                    exact AllReady.nil
                  exact AllReady.nil
                exact AllReady.nil
              refine AllReady.cons rfl (fun K hK => ?_) ?_
              · go_simp
                refine hK _ _ ?_
                clear hK K
                refine wpAny_ready (rs := [1, 3]) (by kernel_rfl) (by simp) ?_
                refine AllReady.cons rfl (fun K hK => ?_) ?_
                · go_simp
                  refine hK _ _ ?_
                  clear hK K
                  refine wpAny_ready (rs := [3]) (by kernel_rfl) (by simp) ?_
                  refine AllReady.cons rfl (fun K hK => ?_) ?_
                  · go_simp
                    refine (IH.out B h' kid y a' c' V.drew HKo (by have := HVs.out; show B ≤ V.heap.size; omega) (ExIn.same (w := V) (w' := V.drew) (fun _ _ _ => rfl) h' kid a' HI.out) HY).mono ?_
                    rintro e w1 ⟨ya, yc, rfl, hq1, hb1⟩
                    have hb1' : Below V.heap.size V w1 := (Below.refl _ V).drew.trans hb1
                    have HBw : Hid (Below wr.heap.size wr w1) := HVb.out.trans (hb1'.mono HVb.out.size)
                    have HQ1 : Hid (ExQ (fun b => wr.heap.size ≤ b ∧ b < w1.heap.size) w1 d y ya) := hq1.keep (fun b hb => ⟨⟨Nat.le_trans HVb.out.size hb.1, hb.2⟩, rfl⟩)
                    have hw1 : w.heap.size + 1 + 1 < w1.heap.size := by have := HBw.out.size; omega
                    have k3 := sx_cell HBw.out hMr m3
                    have k3a : (w1.alloc (exO y.kind y.n y.name (.slice ya y.kids.length yc))).cell? ⟨w.heap.size + 1 + 1, 3, none⟩ = some v := (World.cell?_of_block (w := w1) (Below.heap_alloc _ _ _ hw1)).trans k3
                    have HO1 : Hid ((w1.alloc (exO y.kind y.n y.name (.slice ya y.kids.length yc))).ownsRow (w.heap.size + 1 + 1 + 1) 64 4 v its.length (cells4 its)) := (HA.out.own.kept (row := none) ⟨HBw.out.os, HBw.out.tape, HBw.out.output, HBw.out.size, fun k hk _ => HBw.out.block k hk⟩ (by cases hv : v.ownBlock with | none => exact .inl rfl | some _ => exact .inr (by simp))).alloc _
                    clear hq1 hb1 hb1'
                    refine hK _ _ ?_
                    clear hK K
                    refine wpAny_ready (rs := [4]) (by kernel_rfl) (by simp) ?_
                    refine AllReady.cons rfl (fun K hK => ?_) ?_
                    · go_simp
                      refine hK _ _ ?_
                      clear hK K
                      refine wpAny_ready (rs := [5]) (by kernel_rfl) (by simp) ?_
                      refine AllReady.cons rfl (fun K hK => ?_) ?_
                      · skip
                        refine step_append_where rfl (.tmp 49) (.tmp 52) 62 rfl (w.heap.size + 1 + 1 + 1) 64 i0 _ 4 56 Tryz.underlying62 hi hz0 hz1 hz2 rfl (by decide) v its.length (cells4 its) rfl HO1.out ⟨_, 0, none⟩ 1 1 (cells4 [(y, ya, yc)]) rfl rfl (ex_news (heap_alloc_new w1 _)) (cells4_one _) (by decide) (by unfold maxLen; omega) (by omega) (by simp; omega) ?_
                        intro g cap w4 hown4 hg4 hw4
                        have HA4 := hideX (HA.out.more (c' := yc) HBw.out HY.out HQ1.out hown4 hg4 hw4)
                        have hM4 : w4.heap[w.heap.size + 1 + 1]? = some (exO x.kind n' s' v) := by
                          have hv := HA.out.own.lt
                          refine (hg4.block _ (by simp; omega) (fun e => by have := (hv _ e.symm).1; omega)).trans ?_
                          exact (Below.heap_alloc _ _ _ hw1).trans ((HBw.out.block _ hMr).trans HA.out.ob)
                        obtain ⟨_, _, _, f3⟩ := exo_free hM4
                        obtain ⟨_, _, _, l3⟩ := sx_cells hM4
                        clear hown4 hg4 hw4 hM4
                        refine hK _ _ ?_
                        clear hK K
                        simp only [Act.put]
                        refine wpAny_take (i := 6) (v := .pointer (some ⟨w.heap.size + 1 + 1, 3, none⟩)) rfl (by kernel_rfl) (by kernel_rfl) (by kernel_rfl) (fun _ _ _ h => h) (Or.inl ⟨by rfl, ?_⟩) ?_
                        · intro w; go_simp
                        simp only [Act.put]
                        refine wpAny_ready (rs := [7]) (by kernel_rfl) (by simp) ?_
                        refine AllReady.cons rfl (fun K hK => ?_) ?_
                        · go_simp
                          refine hK _ _ ?_
                          clear hK K
                          refine wpAny_done (by kernel_rfl) ?_ _
                          go_wp2
                          go_roundw
                          case rel =>
                            refine ⟨its ++ [(y, ya, yc)], .slice (some ⟨g, 0, none⟩) (its.length + 1) cap, by simp; omega, by simp, ?_⟩
                            have ht : x.kids.take (its ++ [(y, ya, yc)]).length = x.kids.take its.length ++ [kid] := by
                              rw [List.length_append, List.length_singleton, List.take_add_one, HKd.out]
                              rfl
                            rw [ht]
                            exact HA4.out
                          case measure => simp [intOf]; omega
                        exact AllReady.nil
                      exact AllReady.nil
                    exact AllReady.nil
                  exact AllReady.nil
                refine AllReady.cons rfl (fun K hK => ?_) ?_
                · go_simp
                  refine (IH.out B h' kid y a' c' V.drew HKo (by have := HVs.out; show B ≤ V.heap.size; omega) (ExIn.same (w := V) (w' := V.drew) (fun _ _ _ => rfl) h' kid a' HI.out) HY).mono ?_
                  rintro e w1 ⟨ya, yc, rfl, hq1, hb1⟩
                  have hb1' : Below V.heap.size V w1 := (Below.refl _ V).drew.trans hb1
                  have HBw : Hid (Below wr.heap.size wr w1) := HVb.out.trans (hb1'.mono HVb.out.size)
                  have HQ1 : Hid (ExQ (fun b => wr.heap.size ≤ b ∧ b < w1.heap.size) w1 d y ya) := hq1.keep (fun b hb => ⟨⟨Nat.le_trans HVb.out.size hb.1, hb.2⟩, rfl⟩)
                  have hw1 : w.heap.size + 1 + 1 < w1.heap.size := by have := HBw.out.size; omega
                  have k3 := sx_cell HBw.out hMr m3
                  have k3a : (w1.alloc (exO y.kind y.n y.name (.slice ya y.kids.length yc))).cell? ⟨w.heap.size + 1 + 1, 3, none⟩ = some v := (World.cell?_of_block (w := w1) (Below.heap_alloc _ _ _ hw1)).trans k3
                  have HO1 : Hid ((w1.alloc (exO y.kind y.n y.name (.slice ya y.kids.length yc))).ownsRow (w.heap.size + 1 + 1 + 1) 64 4 v its.length (cells4 its)) := (HA.out.own.kept (row := none) ⟨HBw.out.os, HBw.out.tape, HBw.out.output, HBw.out.size, fun k hk _ => HBw.out.block k hk⟩ (by cases hv : v.ownBlock with | none => exact .inl rfl | some _ => exact .inr (by simp))).alloc _
                  clear hq1 hb1 hb1'
                  refine hK _ _ ?_
                  clear hK K
                  refine wpAny_ready (rs := [1, 4]) (by kernel_rfl) (by simp) ?_
                  refine AllReady.cons rfl (fun K hK => ?_) ?_
                  · go_simp
                    refine hK _ _ ?_
                    clear hK K
                    refine wpAny_ready (rs := [4]) (by kernel_rfl) (by simp) ?_
                    refine AllReady.cons rfl (fun K hK => ?_) ?_
                    · go_simp
                      refine hK _ _ ?_
                      clear hK K
                      refine wpAny_ready (rs := [5]) (by kernel_rfl) (by simp) ?_
                      refine AllReady.cons rfl (fun K hK => ?_) ?_
                      · skip
                        refine step_append_where rfl (.tmp 49) (.tmp 52) 62 rfl (w.heap.size + 1 + 1 + 1) 64 i0 _ 4 56 Tryz.underlying62 hi hz0 hz1 hz2 rfl (by decide) v its.length (cells4 its) rfl HO1.out ⟨_, 0, none⟩ 1 1 (cells4 [(y, ya, yc)]) rfl rfl (ex_news (heap_alloc_new w1 _)) (cells4_one _) (by decide) (by unfold maxLen; omega) (by omega) (by simp; omega) ?_
                        intro g cap w4 hown4 hg4 hw4
                        have HA4 := hideX (HA.out.more (c' := yc) HBw.out HY.out HQ1.out hown4 hg4 hw4)
                        have hM4 : w4.heap[w.heap.size + 1 + 1]? = some (exO x.kind n' s' v) := by
                          have hv := HA.out.own.lt
                          refine (hg4.block _ (by simp; omega) (fun e => by have := (hv _ e.symm).1; omega)).trans ?_
                          exact (Below.heap_alloc _ _ _ hw1).trans ((HBw.out.block _ hMr).trans HA.out.ob)
                        obtain ⟨_, _, _, f3⟩ := exo_free hM4
                        obtain ⟨_, _, _, l3⟩ := sx_cells hM4
                        clear hown4 hg4 hw4 hM4
                        refine hK _ _ ?_
                        clear hK K
                        simp only [Act.put]
                        refine wpAny_take (i := 6) (v := .pointer (some ⟨w.heap.size + 1 + 1, 3, none⟩)) rfl (by kernel_rfl) (by kernel_rfl) (by kernel_rfl) (fun _ _ _ h => h) (Or.inl ⟨by rfl, ?_⟩) ?_
                        · intro w; go_simp
                        simp only [Act.put]
                        refine wpAny_ready (rs := [7]) (by kernel_rfl) (by simp) ?_
                        refine AllReady.cons rfl (fun K hK => ?_) ?_
                        · go_simp
                          refine hK _ _ ?_
                          clear hK K
                          refine wpAny_done (by kernel_rfl) ?_ _
                          go_wp2
                          go_roundw
                          case rel =>
                            refine ⟨its ++ [(y, ya, yc)], .slice (some ⟨g, 0, none⟩) (its.length + 1) cap, by simp; omega, by simp, ?_⟩
                            have ht : x.kids.take (its ++ [(y, ya, yc)]).length = x.kids.take its.length ++ [kid] := by
                              rw [List.length_append, List.length_singleton, List.take_add_one, HKd.out]
                              rfl
                            rw [ht]
                            exact HA4.out
                          case measure => simp [intOf]; omega
                        exact AllReady.nil
                      exact AllReady.nil
                    exact AllReady.nil
                  refine AllReady.cons rfl (fun K hK => ?_) ?_
                  · go_simp
                    refine hK _ _ ?_
                    clear hK K
                    refine wpAny_ready (rs := [1]) (by kernel_rfl) (by simp) ?_
                    refine AllReady.cons rfl (fun K hK => ?_) ?_
                    · go_simp
                      refine hK _ _ ?_
                      clear hK K
                      refine wpAny_ready (rs := [5]) (by kernel_rfl) (by simp) ?_
                      refine AllReady.cons rfl (fun K hK => ?_) ?_
                      · skip
                        refine step_append_where rfl (.tmp 49) (.tmp 52) 62 rfl (w.heap.size + 1 + 1 + 1) 64 i0 _ 4 56 Tryz.underlying62 hi hz0 hz1 hz2 rfl (by decide) v its.length (cells4 its) rfl HO1.out ⟨_, 0, none⟩ 1 1 (cells4 [(y, ya, yc)]) rfl rfl (ex_news (heap_alloc_new w1 _)) (cells4_one _) (by decide) (by unfold maxLen; omega) (by omega) (by simp; omega) ?_
                        intro g cap w4 hown4 hg4 hw4
                        have HA4 := hideX (HA.out.more (c' := yc) HBw.out HY.out HQ1.out hown4 hg4 hw4)
                        have hM4 : w4.heap[w.heap.size + 1 + 1]? = some (exO x.kind n' s' v) := by
                          have hv := HA.out.own.lt
                          refine (hg4.block _ (by simp; omega) (fun e => by have := (hv _ e.symm).1; omega)).trans ?_
                          exact (Below.heap_alloc _ _ _ hw1).trans ((HBw.out.block _ hMr).trans HA.out.ob)
                        obtain ⟨_, _, _, f3⟩ := exo_free hM4
                        obtain ⟨_, _, _, l3⟩ := sx_cells hM4
                        clear hown4 hg4 hw4 hM4
                        refine hK _ _ ?_
                        clear hK K
                        simp only [Act.put]
                        refine wpAny_take (i := 6) (v := .pointer (some ⟨w.heap.size + 1 + 1, 3, none⟩)) rfl (by kernel_rfl) (by kernel_rfl) (by kernel_rfl) (fun _ _ _ h => h) (Or.inl ⟨by rfl, ?_⟩) ?_
                        · intro w; go_simp
                        simp only [Act.put]
                        refine wpAny_ready (rs := [7]) (by kernel_rfl) (by simp) ?_
                        refine AllReady.cons rfl (fun K hK => ?_) ?_
                        · go_simp
                          refine hK _ _ ?_
                          clear hK K
                          refine wpAny_done (by kernel_rfl) ?_ _
                          go_wp2
                          go_roundw
                          case rel =>
                            refine ⟨its ++ [(y, ya, yc)], .slice (some ⟨g, 0, none⟩) (its.length + 1) cap, by simp; omega, by simp, ?_⟩
                            have ht : x.kids.take (its ++ [(y, ya, yc)]).length = x.kids.take its.length ++ [kid] := by
                              rw [List.length_append, List.length_singleton, List.take_add_one, HKd.out]
                              rfl
                            rw [ht]
                            exact HA4.out
                          case measure => simp [intOf]; omega
                        exact AllReady.nil
                      exact AllReady.nil
                    exact AllReady.nil
                  exact AllReady.nil
                exact AllReady.nil
              exact AllReady.nil
            · have hkl : its.length = x.kids.length := by omega
              have hown := HA.out.own
              obtain ⟨va, vc, hv, hq⟩ := own_exq (Q := fun b => w.heap.size + 1 + 1 + 1 ≤ b ∧ b < wr.heap.size) (k := x.kind) (nn := n') (s := s') hown (fun it hit => (HA.out.exq it hit).keep (fun b hb => ⟨⟨hb.1, hb.2.1⟩, rfl⟩)) (fun g hg => hown.lt g hg) (by omega) HSZ.out
              subst hv
              have hq2 : ExQ (fun b => w.heap.size + 1 + 1 + 1 ≤ b ∧ b < wr.heap.size) wr (d + 1) y0 va := by
                rw [HY0.out]
                have e := HA.out.eq
                rw [hkl, List.take_length] at e
                rw [← e]
                exact hq
              have hyl : y0.kids.length = its.length := by rw [HY0.out]; simp [hkl]
              have HQ2 := hideX hq2
              have HYL := hideX hyl
              have HBr := hideX HA.out.bel
              have hNr : w.heap.size + 1 + 1 < wr.heap.size := lt_of_block HA.out.ob
              obtain ⟨q0, q1, q2, q3⟩ := sx_cells HA.out.ob
              obtain ⟨z0, z1, z2, z3⟩ := sx_cells HA.out.rb
              obtain ⟨f0, f1, f2, f3⟩ := exo_free (k := 0) (n := 0) (s := ⟨#[]⟩) HA.out.rb
              have HRb := hideX HA.out.rb
              clear hq hq2 hyl hown HA HKO IH hX hkl
              obtain ⟨W9, hW9⟩ : ∃ W9, (((wr.setCell ⟨w.heap.size + 1, 0, none⟩ (.int .i64 x.kind)).setCell ⟨w.heap.size + 1, 1, none⟩ (.int .i64 n')).setCell ⟨w.heap.size + 1, 2, none⟩ (.string s')).setCell ⟨w.heap.size + 1, 3, none⟩ (.slice va its.length vc) = W9 := ⟨_, rfl⟩
              have h9 : W9.heap[w.heap.size + 1]? = some (exO x.kind n' s' (.slice va its.length vc)) := by rw [← hW9]; exact exo_four HRb.out
              have hB9 : Below w.heap.size w W9 := by
                have h1 : w.heap.size ≤ w.heap.size + 1 := Nat.le_succ _
                rw [← hW9]
                exact (((HBr.out.setCell (p := ⟨w.heap.size + 1, 0, none⟩) h1 _).setCell (p := ⟨w.heap.size + 1, 1, none⟩) h1 _).setCell (p := ⟨w.heap.size + 1, 2, none⟩) h1 _).setCell (p := ⟨w.heap.size + 1, 3, none⟩) h1 _
              have hq9 : ExQ (Mad w W9) W9 (d + 1) y0 va := HQ2.out.keep (fun b hb => by
                have h1 : b ≠ w.heap.size + 1 := by omega
                refine ⟨⟨by omega, by rw [← hW9]; simp only [World.setCell_size]; omega⟩, ?_⟩
                rw [← hW9, Below.heap_setCell _ _ _ _ h1, Below.heap_setCell _ _ _ _ h1, Below.heap_setCell _ _ _ _ h1, Below.heap_setCell _ _ _ _ h1])
              have hv9 : exV y0 va vc = .agg #[.int .i64 x.kind, .int .i64 n', .string s', .slice va its.length vc] := by
                have e := HYL.out
                have e1 : y0.kind = x.kind := by rw [HY0.out]
                have e2 : y0.n = n' := by rw [HY0.out]
                have e3 : y0.name = s' := by rw [HY0.out]
                show Value.agg #[.int .i64 y0.kind, .int .i64 y0.n, .string y0.name, .slice va y0.kids.length vc] = _
                rw [e, e1, e2, e3]
              obtain ⟨r0, r1, r2, r3⟩ := sx_cells h9
              have HB9 := hideX hB9
              have HQ9 := hideX hq9
              have HV9 := hideX hv9
              clear hB9 hq9 hv9 h9
              go_wp2
              refine bodyPost_ret (v := .agg #[.int .i64 x.kind, .int .i64 n', .string s', .slice va its.length vc]) (by simp [results, Tryz.results55, go_sem, r0, r1, r2, r3]) rfl ⟨va, vc, ?_, HQ9.out, HB9.out⟩
              rw [HV9.out]

theorem bareExpr_any : ∀ d, CBare d
  | 0 => fun _ _ _ _ _ _ _ h _ _ _ => h.out.elim
  | d + 1 => bareExpr_step d (bareExpr_any d)

end Go.Proofs.YtlnikpcoejpknaaGreatDoor


/- The walk of ref2.Same, of two programs that are alike. -/
import Derived.Test.YtlnikpcoejpknaaGreatDoorM36
import Derived.BigQuiet
import Derived.Test.YtlnikpcoejpknaaGreatDoorM18
import Derived.Lib.ItoaLen
import Derived.Lib.Join
import Derived.Laws.Concat
namespace Go.Proofs.YtlnikpcoejpknaaGreatDoor
open Go.RowKit

abbrev sdO (d : Sy.Df) (pa : Option Addr) (pc : Nat) (ba : Option Addr) (bc : Nat) : Obj := .cells #[.int .i64 d.kind, .string d.name, .int .i64 d.ty.kind, .string d.ty.gen, .int .i64 d.takes.kind, .string d.takes.gen, .int .i64 d.cap, .slice pa d.params.length pc, .slice ba d.body.length bc] 57 (0, 0)

theorem sd_cells {w : World} {b : Nat} {v0 v1 v2 v3 v4 v5 v6 v7 v8 : Value} {t : TypeId} (h : w.heap[b]? = some (.cells #[v0, v1, v2, v3, v4, v5, v6, v7, v8] t (0, 0))) :
    w.cell? ⟨b, 0, none⟩ = some v0 ∧ w.cell? ⟨b, 1, none⟩ = some v1 ∧ w.cell? ⟨b, 2, none⟩ = some v2 ∧ w.cell? ⟨b, 3, none⟩ = some v3 ∧ w.cell? ⟨b, 4, none⟩ = some v4 ∧ w.cell? ⟨b, 5, none⟩ = some v5 ∧ w.cell? ⟨b, 6, none⟩ = some v6 ∧ w.cell? ⟨b, 7, none⟩ = some v7 ∧ w.cell? ⟨b, 8, none⟩ = some v8 := by simp [World.cell?, h]

theorem ty_eq (x : Int) (y : ByteArray) (w : World) : Sem.run Tryz.prog (binOp BinOp.neq 53 (.agg #[.int .i64 x, .string y]) (.agg #[.int .i64 x, .string y])) w = .ok (.bool false) w := by
  simp [go_sem]
theorem pm_eq (z : ByteArray) (x : Int) (y : ByteArray) (w : World) : Sem.run Tryz.prog (binOp BinOp.neq 61 (.agg #[.string z, .int .i64 x, .string y]) (.agg #[.string z, .int .i64 x, .string y])) w = .ok (.bool false) w := by
  simp [go_sem]


theorem bel_drewX {B : Nat} {a w : World} (h : Below B a w) (n : Nat) : Below B a (w.drewN n) := ⟨h.os, h.tape, h.output, h.size, h.block⟩

set_option maxRecDepth 100000 in
set_option maxHeartbeats 4000000 in
/-- Two programs alike are told so. -/
theorem sameDefs_any (B : Nat) (l : List Sy.Df) (a1 a2 : Option Addr) (c1 c2 : Nat) (w : World) (hB : B ≤ w.heap.size) (h1 : Hid (DfsIn B w l a1)) (h2 : Hid (DfsIn B w l a2)) :
    Calls Tryz.prog 7 #[.slice a1 l.length c1, .slice a2 l.length c2] w fun e w' => e = .returned (.bool true) ∧ Below w.heap.size w w' := by
  have hlen : l.length ≤ 9223372036854775807 := h1.out.1
  have e0 : ((l.length : Int) != (l.length : Int)) = false := by simp
  go_enter Tryz.func7, Tryz.ntmps7
  go_wp2
  clear e0
  go_loopw [16] (fun i wr => ∃ k : Nat, k ≤ l.length ∧ i = .int .i64 k ∧ Hid (Below w.heap.size w wr)) (fun i _ => l.length - (intOf i).toNat)
  case atStart => exact ⟨0, Nat.zero_le _, rfl, Below.refl _ _⟩
  case round =>
    obtain ⟨k, hk, rfl, HBr⟩ := hrel
    by_cases hlt : k < l.length
    · obtain ⟨d, hd⟩ : ∃ d, l[k]? = some d := ⟨_, List.getElem?_eq_getElem hlt⟩
      obtain ⟨b1, o1, pa, pc, ba, bc, rfl, hb1, u0, u1, u2, u3, u4, u5, u6, u7, u8, i1⟩ := h1.out.2 k d hd
      obtain ⟨b2, o2, pa', pc', ba', bc', rfl, hb2, v0, v1, v2, v3, v4, v5, v6, v7, v8, i2⟩ := h2.out.2 k d hd
      have hz := HBr.out.size
      have hsw := same_below HBr.out
      have l1 : b1 < wr.heap.size := by omega
      have l2 : b2 < wr.heap.size := by omega
      have l1' : b1 < wr.heap.size + 1 := by omega
      have l2' : b2 < wr.heap.size + 1 := by omega
      rw [← hsw _ _ (by omega)] at u0 u1 u2 u3 u4 u5 u6 u7 u8 v0 v1 v2 v3 v4 v5 v6 v7 v8
      obtain ⟨hh1, j1⟩ := i1.2.2.2.2
      obtain ⟨hh2, j2⟩ := i2.2.2.2.2
      have HD1 : Hid (BodyIn B wr hh1 d.body ba) := j1.same (fun b o hb => hsw b o (by omega))
      have HD2 : Hid (BodyIn B wr hh2 d.body ba') := j2.same (fun b o hb => hsw b o (by omega))
      have HP1 : Hid (PmsIn B wr d.params pa) := i1.2.2.2.1.same (fun b o hb => hsw b o (by omega))
      have HP2 : Hid (PmsIn B wr d.params pa') := i2.2.2.2.1.same (fun b o hb => hsw b o (by omega))
      have hBr : B ≤ wr.heap.size := by omega
      have m0 : (0 : Int) ≤ (k : Int) := by omega
      have m1 : (k : Int) < (l.length : Int) := by omega
      clear i1 i2 hsw hd hb1 hb2 j1 j2 hz
      go_wp2
      go_region
      · skip
        obtain ⟨W1, hW1⟩ : ∃ W1, W1 = ((wr.alloc (sdO d pa pc ba bc)).alloc (sdO d pa' pc' ba' bc')).drew := ⟨_, rfl⟩
        have HB1 : Hid (Below wr.heap.size wr W1) := by rw [hW1]; exact (sx_bel2 wr _ _).drew
        have hX : W1.heap[wr.heap.size]? = some (sdO d pa pc ba bc) := by rw [hW1]; exact sx_at1 _ _ _
        have hY : W1.heap[(wr.heap.size + 1)]? = some (sdO d pa' pc' ba' bc') := by rw [hW1]; exact sx_at2 _ _ _
        rw [← hW1]
        clear hW1
        have HX := hideX hX
        have HY := hideX hY
        have HBW : Hid (Below w.heap.size w W1) := HBr.out.trans (HB1.out.mono HBr.out.size)
        have HPs : Hid (wr.heap.size < W1.heap.size) := lt_of_block hX
        have HQs : Hid ((wr.heap.size + 1) < W1.heap.size) := lt_of_block hY
        obtain ⟨p0, p1, p2, p3, p4, p5, p6, p7, p8⟩ := sd_cells hX
        obtain ⟨q0, q1, q2, q3, q4, q5, q6, q7, q8⟩ := sd_cells hY
        have k1 : (d.kind != d.kind) = false := by simp
        have k2 := sx_str d.name
        have k3 := ty_eq d.ty.kind d.ty.gen
        have k4 := ty_eq d.takes.kind d.takes.gen
        have k5 : (d.cap != d.cap) = false := by simp
        have k6 : ((d.params.length : Int) != (d.params.length : Int)) = false := by simp
        have hB1 : B ≤ W1.heap.size := by have := HB1.out.size; omega
        have HS1 : Hid (SameB d.body W1 ba ba') := sameStats_any hB1 (HD1.out.same (fun b o hb => same_below HB1.out b o (by omega))) (HD2.out.same (fun b o hb => same_below HB1.out b o (by omega)))
        have HM1 : Hid (PmsIn B W1 d.params pa) := HP1.out.same (fun b o hb => same_below HB1.out b o (by omega))
        have HM2 : Hid (PmsIn B W1 d.params pa') := HP2.out.same (fun b o hb => same_below HB1.out b o (by omega))
        clear hX hY u0 u1 u2 u3 u4 u5 u6 u7 u8 v0 v1 v2 v3 v4 v5 v6 v7 v8 HB1 l1 l2 l1' l2' HD1 HD2 HP1 HP2 HBr
        generalize (wr.heap.size + 1) = Q at *
        generalize wr.heap.size = P at *
        go_wp2_with fail
        refine (HS1.out bc bc').mono ?_
        rintro e w2 ⟨rfl, hb2⟩
        have HB2 := hideX hb2
        obtain ⟨p0, p1, p2, p3, p4, p5, p6, p7, p8⟩ := sd_cells ((hb2.block P HPs.out).trans HX.out)
        obtain ⟨q0, q1, q2, q3, q4, q5, q6, q7, q8⟩ := sd_cells ((hb2.block Q HQs.out).trans HY.out)
        have HN1 : Hid (PmsIn B w2 d.params pa) := HM1.out.same (fun b o hb => same_below hb2 b o (by omega))
        have HN2 : Hid (PmsIn B w2 d.params pa') := HM2.out.same (fun b o hb => same_below hb2 b o (by omega))
        have hpl : d.params.length ≤ 9223372036854775807 := HM1.out.1
        clear hb2 k1 k2 k3 k4 k5 k6 p0 p1 p2 p3 p4 p5 p6 p8 q0 q1 q2 q3 q4 q5 q6 q8 HM1 HM2 HS1
        go_wp2
        go_loopw [80] (fun i wr3 => ∃ j n : Nat, j ≤ d.params.length ∧ i = .int .i64 j ∧ wr3 = w2.drewN n) (fun i _ => d.params.length - (intOf i).toNat)
        case atStart => exact ⟨0, 0, Nat.zero_le _, rfl, rfl⟩
        case round =>
          obtain ⟨j, n, hj, rfl, rfl⟩ := hrel
          by_cases hjl : j < d.params.length
          · obtain ⟨x, hx⟩ : ∃ x, d.params[j]? = some x := ⟨_, List.getElem?_eq_getElem hjl⟩
            obtain ⟨g1, r1, hpa, _, x0, x1, x2, _, _⟩ := HN1.out.2 j x hx
            obtain ⟨g2, r2, hpa', _, y0, y1, y2, _, _⟩ := HN2.out.2 j x hx
            subst hpa hpa'
            have ie := pm_eq x.name x.ty.kind x.ty.gen
            have m0 : (0 : Int) ≤ (j : Int) := by omega
            have m1 : (j : Int) < (d.params.length : Int) := by omega
            clear hx
            go_wp2
            go_quiet (fail)
            go_wp2
            go_roundw
            case rel => exact ⟨j + 1, _, by omega, by go_num, rfl⟩
            case measure => simp [intOf]; omega
          · go_wp2
            go_roundw
            case rel => exact ⟨k + 1, by omega, by go_num, bel_drewX (HBW.out.trans (HB2.out.mono HBW.out.size)) _⟩
            case measure => simp [intOf]; omega
      · skip
        obtain ⟨W1, hW1⟩ : ∃ W1, W1 = ((wr.alloc (sdO d pa' pc' ba' bc')).alloc (sdO d pa pc ba bc)).drew := ⟨_, rfl⟩
        have HB1 : Hid (Below wr.heap.size wr W1) := by rw [hW1]; exact (sx_bel2 wr _ _).drew
        have hX : W1.heap[(wr.heap.size + 1)]? = some (sdO d pa pc ba bc) := by rw [hW1]; exact sx_at2 _ _ _
        have hY : W1.heap[wr.heap.size]? = some (sdO d pa' pc' ba' bc') := by rw [hW1]; exact sx_at1 _ _ _
        rw [← hW1]
        clear hW1
        have HX := hideX hX
        have HY := hideX hY
        have HBW : Hid (Below w.heap.size w W1) := HBr.out.trans (HB1.out.mono HBr.out.size)
        have HPs : Hid ((wr.heap.size + 1) < W1.heap.size) := lt_of_block hX
        have HQs : Hid (wr.heap.size < W1.heap.size) := lt_of_block hY
        obtain ⟨p0, p1, p2, p3, p4, p5, p6, p7, p8⟩ := sd_cells hX
        obtain ⟨q0, q1, q2, q3, q4, q5, q6, q7, q8⟩ := sd_cells hY
        have k1 : (d.kind != d.kind) = false := by simp
        have k2 := sx_str d.name
        have k3 := ty_eq d.ty.kind d.ty.gen
        have k4 := ty_eq d.takes.kind d.takes.gen
        have k5 : (d.cap != d.cap) = false := by simp
        have k6 : ((d.params.length : Int) != (d.params.length : Int)) = false := by simp
        have hB1 : B ≤ W1.heap.size := by have := HB1.out.size; omega
        have HS1 : Hid (SameB d.body W1 ba ba') := sameStats_any hB1 (HD1.out.same (fun b o hb => same_below HB1.out b o (by omega))) (HD2.out.same (fun b o hb => same_below HB1.out b o (by omega)))
        have HM1 : Hid (PmsIn B W1 d.params pa) := HP1.out.same (fun b o hb => same_below HB1.out b o (by omega))
        have HM2 : Hid (PmsIn B W1 d.params pa') := HP2.out.same (fun b o hb => same_below HB1.out b o (by omega))
        clear hX hY u0 u1 u2 u3 u4 u5 u6 u7 u8 v0 v1 v2 v3 v4 v5 v6 v7 v8 HB1 l1 l2 l1' l2' HD1 HD2 HP1 HP2 HBr
        generalize (wr.heap.size + 1) = P at *
        generalize wr.heap.size = Q at *
        go_wp2_with fail
        refine (HS1.out bc bc').mono ?_
        rintro e w2 ⟨rfl, hb2⟩
        have HB2 := hideX hb2
        obtain ⟨p0, p1, p2, p3, p4, p5, p6, p7, p8⟩ := sd_cells ((hb2.block P HPs.out).trans HX.out)
        obtain ⟨q0, q1, q2, q3, q4, q5, q6, q7, q8⟩ := sd_cells ((hb2.block Q HQs.out).trans HY.out)
        have HN1 : Hid (PmsIn B w2 d.params pa) := HM1.out.same (fun b o hb => same_below hb2 b o (by omega))
        have HN2 : Hid (PmsIn B w2 d.params pa') := HM2.out.same (fun b o hb => same_below hb2 b o (by omega))
        have hpl : d.params.length ≤ 9223372036854775807 := HM1.out.1
        clear hb2 k1 k2 k3 k4 k5 k6 p0 p1 p2 p3 p4 p5 p6 p8 q0 q1 q2 q3 q4 q5 q6 q8 HM1 HM2 HS1
        go_wp2
        go_loopw [80] (fun i wr3 => ∃ j n : Nat, j ≤ d.params.length ∧ i = .int .i64 j ∧ wr3 = w2.drewN n) (fun i _ => d.params.length - (intOf i).toNat)
        case atStart => exact ⟨0, 0, Nat.zero_le _, rfl, rfl⟩
        case round =>
          obtain ⟨j, n, hj, rfl, rfl⟩ := hrel
          by_cases hjl : j < d.params.length
          · obtain ⟨x, hx⟩ : ∃ x, d.params[j]? = some x := ⟨_, List.getElem?_eq_getElem hjl⟩
            obtain ⟨g1, r1, hpa, _, x0, x1, x2, _, _⟩ := HN1.out.2 j x hx
            obtain ⟨g2, r2, hpa', _, y0, y1, y2, _, _⟩ := HN2.out.2 j x hx
            subst hpa hpa'
            have ie := pm_eq x.name x.ty.kind x.ty.gen
            have m0 : (0 : Int) ≤ (j : Int) := by omega
            have m1 : (j : Int) < (d.params.length : Int) := by omega
            clear hx
            go_wp2
            go_quiet (fail)
            go_wp2
            go_roundw
            case rel => exact ⟨j + 1, _, by omega, by go_num, rfl⟩
            case measure => simp [intOf]; omega
          · go_wp2
            go_roundw
            case rel => exact ⟨k + 1, by omega, by go_num, bel_drewX (HBW.out.trans (HB2.out.mono HBW.out.size)) _⟩
            case measure => simp [intOf]; omega
    · go_wp2
      go_ret
      exact ⟨rfl, HBr.out⟩

end Go.Proofs.YtlnikpcoejpknaaGreatDoor

/- Words with a blank behind each; how long a program's text is at most. -/
namespace Go.Proofs.YtlnikpcoejpknaaGreatDoor
namespace Sy

/-- Words, a blank behind each. -/
def flat (ws : List ByteArray) : List UInt8 := ws.flatMap fun w => w.data.toList ++ [32]
theorem flat_app (a b : List ByteArray) : flat (a ++ b) = flat a ++ flat b := by simp [flat]
theorem flat_cons (x : ByteArray) (l : List ByteArray) : flat (x :: l) = x.data.toList ++ [32] ++ flat l := by simp [flat]

/-- How many bytes that is. -/
def wt (ws : List ByteArray) : Nat := (flat ws).length
theorem wt_nil : wt [] = 0 := rfl
theorem wt_app (a b : List ByteArray) : wt (a ++ b) = wt a + wt b := by simp [wt, flat_app]
theorem wt_cons (x : ByteArray) (l : List ByteArray) : wt (x :: l) = x.size + 1 + wt l := by
  unfold wt
  rw [flat_cons, List.length_append, List.length_append, Array.length_toList]
  rfl
theorem len_wt : ∀ l : List ByteArray, l.length ≤ wt l
  | [] => Nat.le_refl _
  | x :: l => by have := len_wt l; rw [wt_cons, List.length_cons]; omega

theorem nm_size {s : ByteArray} (h : nm s = true) : s.size ≤ 12 := by
  by_cases h1 : 12 < s.size
  · have := named_bad (.inr h1)
    unfold nm at h
    rw [this] at h
    cases h
  · omega

theorem num_size (n : Int) (h0 : 0 ≤ n) (h1 : n ≤ 999999999999999) : (numT n).size ≤ 21 := by
  have := Go.Lib.itoa_length_le n (by omega) (by omega)
  have e : (numT n).size = (Go.Lib.itoa n).length := List.size_toArray
  omega

theorem truth_size (n : Int) : (truthT n).size ≤ 5 := by unfold truthT; split <;> decide

theorem sign_size (k : Int) : (sign k).size ≤ 3 := by
  unfold sign
  cases h : table.find? (fun p => p.1 == k) with
  | none => exact Nat.zero_le _
  | some p =>
    have hm := List.mem_of_find?_eq_some h
    simp only [Option.map_some, Option.getD_some]
    have : ∀ p ∈ table, p.2.1.size ≤ 3 := by decide
    exact this p hm

/-- A sum over things that are looked at one behind the other. -/
def tot {α : Type} (g : α → Nat) : List α → Nat
  | [] => 0
  | a :: l => g a + tot g l

theorem runs_tot {α : Type} {f : α → Nat → Except Int Nat} {g : α → Nat} (hf : ∀ a i j, f a i = .ok j → g a + 400 * i ≤ 400 * j) : ∀ (l : List α) (n m : Nat), runs f l n = .ok m → tot g l + 400 * n ≤ 400 * m
  | [], n, m, h => by simp [runs] at h; simp [tot]; omega
  | a :: l, n, m, h => by
    unfold runs at h
    cases ha : f a n with
    | error e => rw [ha] at h; simp at h
    | ok k =>
      rw [ha] at h
      have h1 := hf a n k ha
      have h2 := runs_tot hf l k m h
      unfold tot
      omega

theorem wt_list {α : Type} (f : α → List ByteArray) : ∀ (l : List α) (i : Nat), wt (listT f i l) ≤ tot (fun a => wt (f a)) l + 2 * l.length
  | [], i => by simp [listT, wt_nil, tot]
  | a :: l, i => by
    have := wt_list f l (i + 1)
    unfold listT tot
    rw [wt_app, wt_app, List.length_cons]
    split
    · rw [wt_cons, wt_nil]
      have : (⟨#[44]⟩ : ByteArray).size = 1 := rfl
      omega
    · rw [wt_nil]; omega

theorem wt_flat {α : Type} (f : α → List ByteArray) : ∀ (l : List α), wt (l.flatMap f) = tot (fun a => wt (f a)) l
  | [] => rfl
  | a :: l => by rw [List.flatMap_cons, wt_app, wt_flat f l]; rfl

theorem wt_br (f : Ex → List ByteArray) (lv : Int) (x : Ex) : wt (brT f lv x) ≤ wt (f x) + 4 := by
  unfold brT
  split
  · omega
  · rw [wt_app, wt_app, wt_cons, wt_cons, wt_nil]
    have : (⟨#[40]⟩ : ByteArray).size = 1 := rfl
    have : (⟨#[41]⟩ : ByteArray).size = 1 := rfl
    omega

theorem wt_call (f : Ex → List ByteArray) (ah : List ByteArray) (kids : List Ex) : wt (callT f ah kids) ≤ wt ah + 4 + tot (fun a => wt (f a)) kids + 2 * kids.length := by
  unfold callT
  have := wt_list f kids 0
  rw [wt_app, wt_app, wt_app, wt_cons, wt_cons, wt_nil]
  have : (⟨#[40]⟩ : ByteArray).size = 1 := rfl
  have : (⟨#[41]⟩ : ByteArray).size = 1 := rfl
  omega

theorem head_parts {x : Ex} (h : exHead x = 0) :
    (x.kind = 1 → 0 ≤ x.n ∧ x.n ≤ 999999999999999) ∧ ((x.kind = 3 ∨ x.kind = 19 ∨ x.kind = 20 ∨ x.kind = 22) → nm x.name = true) ∧ least x.kind ≤ x.kids.length ∧ (x.kids.length : Int) ≤ most x.kind := by
  unfold exHead at h
  split at h
  · omega
  · rename_i h1
    split at h
    · omega
    · rename_i h2
      split at h
      · omega
      · rename_i h3
        refine ⟨fun hk => ?_, fun hk => ?_, by omega, by omega⟩
        · omega
        · cases hn : nm x.name with
          | true => rfl
          | false => exact absurd ⟨hk, hn⟩ h2

theorem most_le (k : Int) : most k ≤ 6 := by
  unfold most
  repeat' split
  all_goals omega

theorem ex_wt : ∀ (d : Nat) (x : Ex) (n m : Nat), exW d x n = .ok m → wt (exT d x) + 400 * n ≤ 400 * m
  | 0, x, n, m, h => by simp [exW] at h
  | d + 1, x, n, m, h => by
    unfold exW at h
    split at h
    · simp at h
    · rename_i h0
      have hz := nodeW_zero (by simpa using h0 : nodeW x.kind 24 (d + 1) n = 0)
      split at h
      · simp at h
      · rename_i h1
        obtain ⟨p1, p2, p3, p4⟩ := head_parts (by simpa using h1 : exHead x = 0)
        have ht := runs_tot (g := fun a => wt (exT d a)) (fun a i j => ex_wt d a i j) x.kids (n + 1) m h
        have hm6 := most_le x.kind
        obtain ⟨T, hT⟩ : ∃ T, T = tot (fun a => wt (exT d a)) x.kids := ⟨_, rfl⟩
        suffices hs : wt (exT (d + 1) x) ≤ T + 400 by omega
        have call : ∀ ah, wt ah ≤ 200 → wt (callT (exT d) ah x.kids) ≤ T + 400 := by
          rw [hT]
          intro ah hah
          have := wt_call (exT d) ah x.kids
          omega
        have neg : ∀ s : ByteArray, s.size ≤ 5 → x.kind = 4 ∨ x.kind = 5 → wt ([s] ++ brT (exT d) 6 (x.kids.headD ⟨0, 0, ⟨#[]⟩, []⟩)) ≤ T + 400 := by
          rw [hT]
          intro s hs hk
          have hl : x.kids.length = 1 := by
            have : least x.kind = 1 ∧ most x.kind = 1 := by rcases hk with hk | hk <;> rw [hk] <;> decide
            omega
          obtain ⟨k, hk1⟩ := List.length_eq_one_iff.1 hl
          rw [hk1, wt_app, wt_cons, wt_nil]
          have := wt_br (exT d) 6 k
          simp only [List.headD_cons, tot]
          omega
        unfold exT
        by_cases hlev : 0 < lev x.kind
        · rw [if_pos hlev]
          have hl : x.kids.length = 2 := by
            have : least x.kind = 2 ∧ most x.kind = 2 := by
              have : 6 ≤ x.kind ∧ x.kind ≤ 18 := by
                unfold lev at hlev
                repeat' split at hlev
                all_goals omega
              unfold least most
              repeat' split
              all_goals omega
            omega
          obtain ⟨a, b, hab⟩ : ∃ a b, x.kids = [a, b] := by
            match hx : x.kids, hl with
            | [a, b], _ => exact ⟨a, b, rfl⟩
          rw [hab] at hT
          simp only [tot] at hT
          rw [hab, hT]
          clear hT call neg
          show wt (brT (exT d) (if lev x.kind = 3 then 4 else lev x.kind) a ++ [sign x.kind] ++ brT (exT d) (lev x.kind + 1) b) ≤ _
          rw [wt_app, wt_app, wt_cons, wt_nil]
          have := wt_br (exT d) (if lev x.kind = 3 then 4 else lev x.kind) a
          have := wt_br (exT d) (lev x.kind + 1) b
          have := sign_size x.kind
          omega
        rw [if_neg hlev]
        by_cases hk : x.kind = 1
        · rw [if_pos hk]
          have := num_size x.n (p1 hk).1 (p1 hk).2
          rw [wt_cons, wt_nil]; omega
        rw [if_neg hk]
        by_cases hk : x.kind = 2
        · rw [if_pos hk]
          have := truth_size x.n
          rw [wt_cons, wt_nil]; omega
        rw [if_neg hk]
        by_cases hk : x.kind = 3
        · rw [if_pos hk]
          have := nm_size (p2 (.inl hk))
          rw [wt_cons, wt_nil]; omega
        rw [if_neg hk]
        by_cases hk : x.kind = 4
        · rw [if_pos hk]; exact neg _ (by decide) (.inl hk)
        rw [if_neg hk]
        by_cases hk : x.kind = 5
        · rw [if_pos hk]; exact neg _ (by decide) (.inr hk)
        rw [if_neg hk]
        by_cases hk : x.kind = 19
        · rw [if_pos hk]
          have := nm_size (p2 (.inr (.inl hk)))
          exact call _ (by rw [wt_cons, wt_nil]; omega)
        rw [if_neg hk]
        by_cases hk : x.kind = 20
        · rw [if_pos hk]
          have := nm_size (p2 (.inr (.inr (.inl hk))))
          rw [wt_cons, wt_cons, wt_cons, wt_cons, wt_nil]
          have : (⟨#[114, 101, 99, 118]⟩ : ByteArray).size = 4 := rfl
          have : (⟨#[40]⟩ : ByteArray).size = 1 := rfl
          have : (⟨#[41]⟩ : ByteArray).size = 1 := rfl
          omega
        rw [if_neg hk]
        by_cases hk : x.kind = 21
        · rw [if_pos hk]; exact call _ (by decide)
        rw [if_neg hk]
        by_cases hk : x.kind = 22
        · rw [if_pos hk]
          have := nm_size (p2 (.inr (.inr (.inr hk))))
          refine call _ ?_
          rw [wt_cons, wt_cons, wt_nil]
          have : (⟨#[115, 116, 97, 114, 116]⟩ : ByteArray).size = 5 := rfl
          omega
        rw [if_neg hk]
        by_cases hk : x.kind = 23
        · rw [if_pos hk]; exact call _ (by decide)
        rw [if_neg hk]
        exact call _ (by decide)

theorem wt_body (f : St → List ByteArray) (l : List St) : wt (bodyT f l) = tot (fun a => wt (f a)) l + 4 := by
  unfold bodyT
  rw [wt_app, wt_app, wt_flat, wt_cons, wt_cons, wt_nil]
  have : (⟨#[123]⟩ : ByteArray).size = 1 := rfl
  have : (⟨#[125]⟩ : ByteArray).size = 1 := rfl
  omega

theorem bodyOf_tot {f : St → Nat → Except Int Nat} {g : St → Nat} (hf : ∀ a i j, f a i = .ok j → g a + 400 * i ≤ 400 * j) {l : List St} {n m : Nat} (h : bodyOf f l n = .ok m) : tot g l + 400 * n ≤ 400 * m := by
  unfold bodyOf at h
  split at h
  · simp at h
  · exact runs_tot hf l n m h

theorem st_wt : ∀ (d : Nat) (s : St) (n m : Nat), stW d s n = .ok m → wt (stT d s) + 400 * n ≤ 400 * m
  | 0, s, n, m, h => by simp [stW] at h
  | d + 1, s, n, m, h => by
    unfold stW at h
    split at h
    · simp at h
    · rename_i h0
      have hz := nodeW_zero (by simpa using h0 : nodeW s.kind 9 (d + 1) n = 0)
      split at h
      · simp at h
      · rename_i h1
        have hnm : (s.kind = 1 ∨ s.kind = 2 ∨ s.kind = 7) → s.name.size ≤ 12 := fun hk => nm_size (by
          cases hn : nm s.name with
          | true => rfl
          | false => exact absurd ⟨hk, hn⟩ h1)
        split at h
        · rename_i h6
          simp at h
          have : stT (d + 1) s = [⟨#[115, 116, 111, 112]⟩, ⟨#[59]⟩] := by
            unfold stT
            rw [if_neg (by omega), if_neg (by omega), if_neg (by omega), if_neg (by omega), if_neg (by omega), if_pos h6]
          rw [this]
          have : wt [⟨#[115, 116, 111, 112]⟩, ⟨#[59]⟩] = 7 := by decide
          omega
        · rename_i h6
          cases hx : exW d s.x (n + 1) with
          | error e => rw [hx] at h; simp at h
          | ok k =>
            rw [hx] at h
            simp only at h
            have hw := ex_wt d s.x (n + 1) k hx
            have w1 : ∀ a : UInt8, wt [⟨#[a]⟩] = 2 := fun a => rfl
            have end1 : ∀ ah, wt ah ≤ 100 → s.kind ≠ 3 → s.kind ≠ 4 → wt (ah ++ exT d s.x ++ [⟨#[59]⟩]) + 400 * n ≤ 400 * m := by
              intro ah hah h3 h4
              unfold stTail at h
              rw [if_neg (by omega)] at h
              simp at h
              rw [wt_app, wt_app, w1]
              omega
            unfold stT
            split
            · rename_i hk
              refine end1 _ ?_ (by omega) (by omega)
              have := hnm (.inl hk)
              rw [wt_cons, wt_cons, w1]
              have : (⟨#[108, 101, 116]⟩ : ByteArray).size = 3 := rfl
              omega
            · split
              · rename_i hk
                refine end1 _ ?_ (by omega) (by omega)
                have := hnm (.inr (.inl hk))
                rw [wt_cons, w1]
                omega
              · split
                · rename_i hk
                  unfold stTail at h
                  rw [if_pos (.inl hk)] at h
                  cases hb : bodyOf (stW d) s.body k with
                  | error e => rw [hb] at h; simp at h
                  | ok k2 =>
                    rw [hb] at h
                    simp only [hk, if_true] at h
                    have hb1 := bodyOf_tot (g := fun a => wt (stT d a)) (fun a i j => st_wt d a i j) hb
                    have hb2 := bodyOf_tot (g := fun a => wt (stT d a)) (fun a i j => st_wt d a i j) h
                    rw [wt_app, wt_app, wt_app, wt_body]
                    have : wt [⟨#[105, 102]⟩] = 3 := rfl
                    split
                    · rw [wt_nil]; omega
                    · rw [wt_app, wt_body]
                      have : wt [⟨#[101, 108, 115, 101]⟩] = 5 := rfl
                      omega
                · split
                  · rename_i hk3 hk
                    unfold stTail at h
                    rw [if_pos (.inr hk)] at h
                    cases hb : bodyOf (stW d) s.body k with
                    | error e => rw [hb] at h; simp at h
                    | ok k2 =>
                      rw [hb] at h
                      simp only [hk3, if_false] at h
                      have hb1 := bodyOf_tot (g := fun a => wt (stT d a)) (fun a i j => st_wt d a i j) hb
                      simp at h
                      rw [wt_app, wt_app, wt_body]
                      have : wt [⟨#[119, 104, 105, 108, 101]⟩] = 6 := rfl
                      omega
                  · split
                    · exact end1 _ (by decide) (by omega) (by omega)
                    · split
                      · rename_i hk
                        refine end1 _ ?_ (by omega) (by omega)
                        have := hnm (.inr (.inr hk))
                        rw [wt_cons, wt_cons, wt_nil]
                        have : (⟨#[115, 101, 110, 100]⟩ : ByteArray).size = 4 := rfl
                        omega
                      · split
                        · exact end1 _ (by decide) (by omega) (by omega)
                        · exact end1 _ (by decide) (by omega) (by omega)

theorem ty_wt {t : Ty} (h : tyW t = 0) : wt (tyT t) ≤ 13 := by
  unfold tyW at h
  unfold tyT
  rw [wt_cons, wt_nil]
  split at h
  · omega
  · rename_i h1
    split at h
    · omega
    · rename_i h2
      split
      · decide
      · split
        · decide
        · have h3 : t.kind = 3 := by omega
          have : nm t.gen = true := by
            cases hn : nm t.gen with
            | true => rfl
            | false => exact absurd ⟨h3, hn⟩ h2
          have := nm_size this
          omega

theorem pms_tot : ∀ (l : List Pm), pmsW l = 0 → tot (fun a => wt (pmT a)) l ≤ 26 * l.length
  | [], _ => by simp [tot]
  | p :: l, h => by
    unfold pmsW at h
    split at h
    · omega
    · rename_i h1
      split at h
      · rename_i h2; exact absurd h h2
      · rename_i h2
        have := pms_tot l h
        have := ty_wt (by simpa using h2 : tyW p.ty = 0)
        have := nm_size (by simpa using h1 : nm p.name = true)
        unfold tot
        have e : wt (pmT p) = p.name.size + 1 + wt (tyT p.ty) := by unfold pmT; rw [wt_app, wt_cons, wt_nil]
        rw [e, List.length_cons]
        omega

theorem pms_wt {l : List Pm} (h : pmsW l = 0) (h6 : l.length ≤ 6) : wt (pmsT l) ≤ 172 := by
  unfold pmsT
  have := pms_tot l h
  have := wt_list pmT l 0
  rw [wt_app, wt_app, wt_cons, wt_cons, wt_nil]
  have : (⟨#[40]⟩ : ByteArray).size = 1 := rfl
  have : (⟨#[41]⟩ : ByteArray).size = 1 := rfl
  omega

theorem df_wt (d : Df) (n m : Nat) (h : dfW d n = .ok m) : wt (dfT d) + 400 * n ≤ 400 * m := by
  unfold dfW at h
  split at h
  · simp at h
  · rename_i h0
    have h0 : dfHead d n = 0 := by simpa using h0
    unfold dfHead at h0
    split at h0
    · rename_i h1; exact absurd h0 h1
    · rename_i hn
      have hz := nodeW_zero (by simpa using hn : nodeW d.kind 4 40 n = 0)
      split at h0
      · omega
      · rename_i hname
        have hname := nm_size (by simpa using hname : nm d.name = true)
        split at h0
        · omega
        · rename_i h6
          split at h0
          · rename_i h1; exact absurd h0 h1.2
          · rename_i hpm
            split at h0
            · rename_i h1; exact absurd h0 h1.2
            · rename_i htk
              split at h0
              · rename_i h1; exact absurd h0 h1.2
              · rename_i hty
                split at h0
                · omega
                · rename_i hcap
                  have pm : d.kind = 2 ∨ d.kind = 3 → wt (pmsT d.params) ≤ 172 := by
                    intro hk
                    refine pms_wt ?_ ?_
                    · by_cases he : pmsW d.params = 0
                      · exact he
                      · exact absurd ⟨hk, he⟩ hpm
                    · by_cases he : 6 < d.params.length
                      · exact absurd ⟨hk, he⟩ h6
                      · omega
                  have ty : d.kind ≠ 4 → wt (tyT d.ty) ≤ 13 := by
                    intro hk
                    refine ty_wt ?_
                    by_cases he : tyW d.ty = 0
                    · exact he
                    · exact absurd ⟨hk, he⟩ hty
                  have tk : d.kind = 3 → wt (tyT d.takes) ≤ 13 := by
                    intro hk
                    refine ty_wt ?_
                    by_cases he : tyW d.takes = 0
                    · exact he
                    · exact absurd ⟨hk, he⟩ htk
                  clear hpm hty htk h6
                  split at h
                  · rename_i hk
                    simp at h
                    have := ty (by omega)
                    have := num_size d.cap (by omega) (by omega)
                    unfold dfT
                    rw [if_pos hk, wt_app, wt_app, wt_cons, wt_cons, wt_cons, wt_cons, wt_nil]
                    have : (⟨#[98, 111, 120]⟩ : ByteArray).size = 3 := rfl
                    have : (⟨#[59]⟩ : ByteArray).size = 1 := rfl
                    omega
                  · rename_i hk
                    have hb := bodyOf_tot (g := fun a => wt (stT 39 a)) (fun a i j => st_wt 39 a i j) h
                    unfold dfT
                    rw [if_neg hk]
                    split
                    · rename_i hk2
                      have := pm (.inl hk2)
                      have := ty (by omega)
                      rw [wt_app, wt_app, wt_app, wt_body, wt_cons, wt_cons, wt_nil]
                      have : (⟨#[102, 110]⟩ : ByteArray).size = 2 := rfl
                      omega
                    · split
                      · rename_i hk3
                        have := pm (.inr hk3)
                        have := ty (by omega)
                        have := tk hk3
                        rw [wt_app, wt_app, wt_app, wt_app, wt_app, wt_app, wt_body, wt_cons, wt_cons, wt_nil]
                        have : (⟨#[103, 101, 110]⟩ : ByteArray).size = 3 := rfl
                        have : wt [⟨#[116, 97, 107, 101, 115]⟩] = 6 := rfl
                        have : wt [⟨#[121, 105, 101, 108, 100, 115]⟩] = 7 := rfl
                        omega
                      · rw [wt_app, wt_body, wt_cons, wt_cons, wt_nil]
                        have : (⟨#[116, 97, 115, 107]⟩ : ByteArray).size = 4 := rfl
                        omega

theorem dfW_most {d : Df} {n m : Nat} (h : dfW d n = .ok m) : m ≤ 2000 := by
  unfold dfW at h
  split at h
  · simp at h
  · rename_i h0
    have h0 : dfHead d n = 0 := by simpa using h0
    unfold dfHead at h0
    split at h0
    · rename_i h1; exact absurd h0 h1
    · rename_i hn
      have hz := nodeW_zero (by simpa using hn : nodeW d.kind 4 40 n = 0)
      split at h
      · simp at h; omega
      · exact bodyOf_le (stW_le 39) (by omega) h

theorem defs_wt : ∀ (l : List Df) (i n : Nat), (defsW l i n).1 = 0 → n ≤ 2000 → wt (progT l) + 400 * n ≤ 800000
  | [], i, n, _, hn => by simp [progT, wt_nil]; omega
  | d :: l, i, n, h, hn => by
    unfold defsW at h
    cases hd : dfW d n with
    | error e =>
      rw [hd] at h
      simp only at h
      subst h
      exfalso
      exact dfW_ne hd rfl
    | ok m =>
      rw [hd] at h
      have h1 := df_wt d n m hd
      have h2 := defs_wt l (i + 1) m h (dfW_most hd)
      have : progT (d :: l) = dfT d ++ progT l := by simp [progT]
      rw [this, wt_app]
      omega

/-- Words joined by blanks are the words with a blank behind each, without the last byte. -/
theorem join_flat : ∀ (ws : List ByteArray), Lib.join (ws.map (·.data.toList)) [32] = (flat ws).take ((flat ws).length - 1)
  | [] => rfl
  | x :: l => by
    have hj : ∀ (l : List ByteArray), Lib.joinTail [32] (l.map (·.data.toList)) ++ [32] = [32] ++ flat l := by
      intro l
      induction l with
      | nil => rfl
      | cons y l ih =>
        have : Lib.joinTail [32] ((y :: l).map (·.data.toList)) = [32] ++ y.data.toList ++ Lib.joinTail [32] (l.map (·.data.toList)) := by simp [Lib.joinTail]
        rw [this, List.append_assoc, ih, flat_cons]
        simp
    rw [List.map_cons, Lib.join_cons]
    have e : flat (x :: l) = (x.data.toList ++ Lib.joinTail [32] (l.map (·.data.toList))) ++ [32] := by
      rw [flat_cons, List.append_assoc, ← hj l]; simp
    rw [e, List.length_append, List.length_singleton, Nat.add_sub_cancel, List.take_left']
    rfl

end Sy
end Go.Proofs.YtlnikpcoejpknaaGreatDoor

/- Texts of words, and how they grow. -/
namespace Go.Proofs.YtlnikpcoejpknaaGreatDoor
open Go.RowKit
namespace Sy

/-- Nothing is wrong with it, as it stands in some program. -/
def ExS (d : Nat) (x : Ex) : Prop := ∃ n m, n ≤ 2000 ∧ exW d x n = .ok m
def StS (d : Nat) (s : St) : Prop := ∃ n m, n ≤ 2000 ∧ stW d s n = .ok m
def BdS (d : Nat) (l : List St) : Prop := ∃ n m, n ≤ 2000 ∧ bodyOf (stW d) l n = .ok m

theorem runs_mem_le {α : Type} {f : α → Nat → Except Int Nat} (hf : ∀ a n m, n ≤ 2000 → f a n = .ok m → m ≤ 2000) {l : List α} : ∀ {n m : Nat}, n ≤ 2000 → runs f l n = .ok m → ∀ a ∈ l, ∃ i j, i ≤ 2000 ∧ f a i = .ok j := by
  induction l with
  | nil => intro n m _ _ a ha; cases ha
  | cons b l ih =>
    intro n m hn h a ha
    unfold runs at h
    cases hb : f b n with
    | error e => rw [hb] at h; simp at h
    | ok k =>
      rw [hb] at h
      rcases List.mem_cons.1 ha with rfl | ha
      · exact ⟨n, k, hn, hb⟩
      · exact ih (hf b n k hn hb) h a ha

theorem ExS.ok {d : Nat} {x : Ex} (h : ExS d x) : ExOk d x := by
  obtain ⟨n, m, _, h⟩ := h
  exact exOk_of d x n m h

theorem ExS.wt {d : Nat} {x : Ex} (h : ExS d x) : wt (exT d x) ≤ 800000 := by
  obtain ⟨n, m, hn, h⟩ := h
  have h1 := exW_le d x n m hn h
  have h2 := ex_wt d x n m h
  omega

theorem ExS.runs {d : Nat} {x : Ex} (h : ExS (d + 1) x) : ∃ n m, n ≤ 2000 ∧ m ≤ 2000 ∧ Sy.runs (exW d) x.kids n = .ok m := by
  obtain ⟨n, m, hn, h⟩ := h
  have hm := exW_le _ _ _ _ hn h
  unfold exW at h
  split at h
  · simp at h
  · rename_i h0
    have hz := nodeW_zero (by simpa using h0 : nodeW x.kind 24 (d + 1) n = 0)
    split at h
    · simp at h
    · exact ⟨n + 1, m, by omega, hm, h⟩

theorem ExS.kid {d : Nat} {x k : Ex} (h : ExS (d + 1) x) (hk : k ∈ x.kids) : ExS d k := by
  obtain ⟨n, m, hn, _, h⟩ := h.runs
  obtain ⟨i, j, hi, hij⟩ := runs_mem_le (exW_le d) hn h k hk
  exact ⟨i, j, hi, hij⟩

theorem ExS.list {d : Nat} {x : Ex} (h : ExS (d + 1) x) : Sy.wt (listT (exT d) 0 x.kids) ≤ 800100 := by
  have h6 : x.kids.length ≤ 6 := by
    have := (head_parts h.ok.2.2.1).2.2.2
    have := most_le x.kind
    omega
  obtain ⟨n, m, hn, hm, h⟩ := h.runs
  have h1 := runs_tot (g := fun a => Sy.wt (exT d a)) (fun a i j => ex_wt d a i j) x.kids n m h
  have h2 := wt_list (exT d) x.kids 0
  omega

theorem BdS.wt {d : Nat} {l : List St} (h : BdS d l) : Sy.wt (l.flatMap (stT d)) ≤ 800000 := by
  obtain ⟨n, m, hn, h⟩ := h
  have h1 := bodyOf_tot (g := fun a => Sy.wt (stT d a)) (fun a i j => st_wt d a i j) h
  have h2 := bodyOf_le (stW_le d) hn h
  rw [wt_flat]
  omega

theorem StS.kind {d : Nat} {s : St} (h : StS d s) : 1 ≤ s.kind ∧ s.kind ≤ 9 := by
  obtain ⟨n, m, hn, h⟩ := h
  cases d with
  | zero => simp [stW] at h
  | succ d =>
    unfold stW at h
    split at h
    · simp at h
    · rename_i h0
      have hz := nodeW_zero (by simpa using h0 : nodeW s.kind 9 (d + 1) n = 0)
      exact ⟨hz.2.1, hz.2.2.1⟩

theorem StS.name {d : Nat} {s : St} (h : StS d s) (hk : s.kind = 1 ∨ s.kind = 2 ∨ s.kind = 7) : s.name.size ≤ 12 := by
  obtain ⟨n, m, hn, h⟩ := h
  cases d with
  | zero => simp [stW] at h
  | succ d =>
    unfold stW at h
    split at h
    · simp at h
    · split at h
      · simp at h
      · rename_i h1
        refine nm_size ?_
        cases hb : nm s.name with
        | true => rfl
        | false => exact absurd ⟨hk, hb⟩ h1

theorem StS.x {d : Nat} {s : St} (h : StS (d + 1) s) (hk : s.kind ≠ 6) : ExS d s.x := by
  obtain ⟨n, m, hn, h⟩ := h
  unfold stW at h
  split at h
  · simp at h
  · rename_i h0
    have hz := nodeW_zero (by simpa using h0 : nodeW s.kind 9 (d + 1) n = 0)
    split at h
    · simp at h
    · cases hx : exW d s.x (n + 1) with
      | error e => rw [hx] at h; simp at h
      | ok k => exact ⟨n + 1, k, by omega, hx⟩

theorem StS.body {d : Nat} {s : St} (h : StS (d + 1) s) (hk : s.kind = 3 ∨ s.kind = 4) : BdS d s.body ∧ (s.kind = 3 → BdS d s.els) := by
  obtain ⟨n, m, hn, h⟩ := h
  unfold stW at h
  split at h
  · simp at h
  · rename_i h0
    have hz := nodeW_zero (by simpa using h0 : nodeW s.kind 9 (d + 1) n = 0)
    split at h
    · simp at h
    · rw [if_neg (by omega)] at h
      cases hx : exW d s.x (n + 1) with
      | error e => rw [hx] at h; simp at h
      | ok k =>
        rw [hx] at h
        have hk2 := exW_le _ _ _ _ (by omega) hx
        simp only [stTail] at h
        rw [if_pos hk] at h
        cases hb : bodyOf (stW d) s.body k with
        | error e => rw [hb] at h; simp at h
        | ok k2 =>
          rw [hb] at h
          have hk3 := bodyOf_le (stW_le d) hk2 hb
          refine ⟨⟨k, k2, hk2, hb⟩, fun h3 => ?_⟩
          simp only [h3, if_true] at h
          exact ⟨k2, m, hk3, h⟩

end Sy

end Go.Proofs.YtlnikpcoejpknaaGreatDoor


/- The walk of pairsByText. -/
import Derived.Test.YtlnikpcoejpknaaDoorM35
import Derived.Deep.LoopGhost
import Derived.Test.YtlnikpcoejpknaaDoorM28
namespace Go.Proofs.YtlnikpcoejpknaaDoor
open Go.RowKit

theorem upd_runT (M k : Nat) (w : World) (p : Int × ByteArray × Int) (hp : Sy.table[k]? = some p) (h : w.heap[M]? = some (.map (entriesT.take k).toArray k)) :
    (Instr.mapUpdate 73 (.map (some M)) (.string p.2.1) (pairV p)).run Tryd.prog w = .ok () { w with heap := w.heap.setIfInBounds M (.map (entriesT.take (k + 1)).toArray (k + 1)) } := by
  have hg : (getObj M).run Tryd.prog w = .ok (.map (entriesT.take k).toArray k) w := by simp [getObj, Sem.run, h]
  have hc : ∀ b, (Instr.checkKey b 10000 9 (.string p.2.1)).run Tryd.prog w = .ok () w := fun b => MapKept.run_checkKey (n := 9999) Tryd.underlying9 (by simp [MapKept.IsKey]) b
  have hu := run_underlying (w := w) Tryd.underlying73
  have hk13 : k < 13 := by have := (List.getElem?_eq_some_iff.1 hp).1; simpa [Sy.table] using this
  have hf : Instr.findNow .string (.string p.2.1) (entriesT.take k) 0 = some none := by
    rcases (show k = 0 ∨ k = 1 ∨ k = 2 ∨ k = 3 ∨ k = 4 ∨ k = 5 ∨ k = 6 ∨ k = 7 ∨ k = 8 ∨ k = 9 ∨ k = 10 ∨ k = 11 ∨ k = 12 by omega) with rfl | rfl | rfl | rfl | rfl | rfl | rfl | rfl | rfl | rfl | rfl | rfl | rfl <;>
      (simp only [Sy.table, List.getElem?_cons_zero, List.getElem?_cons_succ, Option.some.injEq] at hp; subst hp; rfl)
  have he : (entriesT.take (k + 1)) = entriesT.take k ++ [{ key := .string p.2.1, val := pairV p, born := k }] := by
    rcases (show k = 0 ∨ k = 1 ∨ k = 2 ∨ k = 3 ∨ k = 4 ∨ k = 5 ∨ k = 6 ∨ k = 7 ∨ k = 8 ∨ k = 9 ∨ k = 10 ∨ k = 11 ∨ k = 12 by omega) with rfl | rfl | rfl | rfl | rfl | rfl | rfl | rfl | rfl | rfl | rfl | rfl | rfl <;>
      (simp only [Sy.table, List.getElem?_cons_zero, List.getElem?_cons_succ, Option.some.injEq] at hp; subst hp; rfl)
  have hk := MapKept.run_findKey (P := Tryd.prog) (w := w) (kt := 9) Tryd.underlying9 hf
  have hs := MapKept.run_setObj_map (P := Tryd.prog) (.map (entriesT.take (k + 1)).toArray (k + 1)) h
  rw [he] at hs
  simp [Instr.mapUpdate, hu, hg, hc, hk, hs, he]

set_option maxRecDepth 100000 in
set_option maxHeartbeats 2000000 in
theorem pairsByText_any (w : World) (hT : TabV w 0) :
    Calls Tryd.prog 24 #[] w fun e w' => e = .returned (.map (some w.heap.size)) ∧ w'.heap[w.heap.size]? = some (.map entriesT.toArray 13) ∧ Below w.heap.size w w' := by
  have hmm : ∀ w : World, (Instr.makeMap 73 Option.none).run Tryd.prog w = .ok (.map (some w.heap.size)) (w.alloc (.map #[] 0)) := fun _ => rfl
  have h0 := hT.lt
  obtain ⟨tt, fr, hT1⟩ : TabV (w.alloc (.map #[] 0)) 0 := hT.keep ((Below.refl _ w).alloc (Nat.le_refl _) _) h0
  obtain ⟨cs, hcs⟩ : ∃ cs, cs = tableCells.toArray := ⟨_, rfl⟩
  rw [← hcs] at hT1
  have hI : (Tryd.prog.info? 81).map (·.size) = some 39 := by kernel_rfl
  have HI : Hid ((Tryd.prog.info? 81).map (·.size) = some cs.size) := by rw [hcs]; exact hI
  have HT : Hid ((w.alloc (.map #[] 0)).heap[0]? = some (.cells cs tt fr)) := hT1
  have HX : Hid (∀ (k : Nat) p, Sy.table[k]? = some p → ∀ w : World, (Instr.index 81 (.agg cs) (.int .i64 (k : Int))).run Tryd.prog w = .ok (pairV p) w) := by rw [hcs]; exact fun k p hp w => index_table k p hp w
  clear hT hT1 hcs hI
  go_enter Tryd.func24, Tryd.ntmps24
  go_wp2_with (refine wpList_load_row rfl 81 (.global 0) rfl 0 rfl tt cs fr _ HT.out Tryd.underlying81 rfl HI.out ?_)
  go_loopw [6] (fun i wr => ∃ k : Nat, k ≤ 13 ∧ i = .int .i64 k ∧ Hid (wr.heap[w.heap.size]? = some (.map (entriesT.take k).toArray k)) ∧ Hid (Below w.heap.size w wr)) (fun i _ => 13 - (intOf i).toNat)
  case atStart => exact ⟨0, by omega, rfl, heap_alloc_new w _, (Below.refl _ w).alloc (Nat.le_refl _) _⟩
  case round =>
    obtain ⟨k, hk, rfl, HM, HB⟩ := hrel
    by_cases hk13 : k < 13
    · obtain ⟨p, hp⟩ : ∃ p, Sy.table[k]? = some p := ⟨_, List.getElem?_eq_getElem (by simpa [Sy.table] using hk13)⟩
      have hix := HX.out k p hp
      have HM1 : (wr.alloc (.cells #[.int .i64 p.1, .string p.2.1, .int .i64 p.2.2] 80)).heap[w.heap.size]? = some (.map (entriesT.take k).toArray k) := (Below.heap_alloc _ _ _ (lt_of_block HM.out)).trans HM.out
      have hup := upd_runT w.heap.size k _ p hp HM1
      obtain ⟨W2, hW2⟩ : ∃ W2 : World, W2 = { (wr.alloc (.cells #[.int .i64 p.1, .string p.2.1, .int .i64 p.2.2] 80)) with heap := (wr.alloc (.cells #[.int .i64 p.1, .string p.2.1, .int .i64 p.2.2] 80)).heap.setIfInBounds w.heap.size (.map (entriesT.take (k + 1)).toArray (k + 1)) } := ⟨_, rfl⟩
      rw [← hW2] at hup
      obtain ⟨m1, m2⟩ := map_set (o' := .map (entriesT.take (k + 1)).toArray (k + 1)) HM1 w.heap.size (Nat.le_refl _)
      rw [← hW2] at m1 m2
      have HM2 : Hid (W2.heap[w.heap.size]? = some (.map (entriesT.take (k + 1)).toArray (k + 1))) := m1
      have HB2 : Hid (Below w.heap.size w W2) := (HB.out.alloc (by have := HB.out.size; omega) _).trans m2
      clear hp HM1 hW2 m1 m2
      go_wp2
      go_roundw
      case rel => exact ⟨k + 1, by omega, by go_num, HM2, HB2⟩
      case measure => simp [intOf]; omega
    · go_wp2
      go_ret
      obtain rfl : k = 13 := by omega
      exact ⟨rfl, HM.out, HB.out⟩

end Go.Proofs.YtlnikpcoejpknaaDoor

/- Faults are faults; what tokens a text has. -/
namespace Go.Proofs.YtlnikpcoejpknaaDoor
open Go.RowKit
namespace Rp

/-- What is wrong is no nothing. -/
def NZ {α : Type} (r : Res α) : Prop := ∀ e, r = .error e → e.1 ≠ 0

theorem NZ.ok {α : Type} (x : Nat × α) : NZ (.ok x : Res α) := fun e h => by simp at h
theorem NZ.err {α : Type} {a : Int} {b : Nat} (h : a ≠ 0) : NZ (.error (a, b) : Res α) := fun e he => by simp at he; rw [← he]; exact h
theorem NZ.andThen {α β : Type} {r : Res α} {f : Nat → α → Res β} (h1 : NZ r) (h2 : ∀ q x, NZ (f q x)) : NZ (Rp.andThen r f) := by
  intro e he
  cases r with
  | error e' => simp [Rp.andThen] at he; exact h1 e (by rw [he])
  | ok qx => exact h2 qx.1 qx.2 e he
theorem NZ.ite {α : Type} {c : Prop} [Decidable c] {a b : Res α} (h1 : NZ a) (h2 : NZ b) : NZ (if c then a else b) := by split <;> assumption

theorem want_nz (l : List Lx.Tk) (en : Nat) (s : ByteArray) (p : Nat) : NZ (want l en s p) := by
  unfold want wantL
  split
  · exact NZ.ok _
  · rename_i h
    split at h
    · simp at h
    · simp at h; rw [← h]; exact NZ.err (by decide)
theorem name_nz (l : List Lx.Tk) (en p : Nat) : NZ (name l en p) := by
  unfold name nameL
  split
  · exact NZ.ok _
  · rename_i h
    split at h
    · simp at h; rw [← h]; exact NZ.err (by decide)
    · split at h
      · simp at h; rw [← h]; exact NZ.err (by decide)
      · simp at h
theorem typ_nz (l : List Lx.Tk) (en p : Nat) : NZ (typ l en p) := by
  unfold typ typL
  split
  · exact NZ.ok _
  · rename_i e h
    split at h
    · simp at h
    · split at h
      · simp at h
      · have hn := name_nz l en p
        unfold name at hn
        rw [h] at hn
        exact fun e' he => hn e' (by simpa using he)
theorem places_nz (l : List Lx.Tk) (en p : Nat) : NZ (places l en p) := by
  unfold places placesL
  split
  · exact NZ.ok _
  · rename_i h
    split at h
    · simp at h; rw [← h]; exact NZ.err (by decide)
    · split at h
      · simp at h; rw [← h]; exact NZ.err (by decide)
      · simp at h
theorem limit_nz {bg : Lx.Tk → Bool} {n most : Int} {t : Lx.Tk} {p : Nat} {e : Int × Nat} (h : limitL bg n most t p = .error e) : e.1 ≠ 0 := by
  unfold limitL at h
  split at h
  · simp at h; rw [← h]; show (5 : Int) ≠ 0; decide
  · simp at h

theorem loop_nz {l : List Lx.Tk} {en : Nat} {next : Nat → Res Sy.Ex} (hn : ∀ p, NZ (next p)) (level : Int) : ∀ (f : Nat) (x : Sy.Ex) (p : Nat), NZ (loop l en next level f x p)
  | 0, x, p => NZ.ok _
  | f + 1, x, p => by
    rw [loop]
    exact NZ.ite (NZ.ok _) (NZ.andThen (hn _) (fun q y => NZ.ite (NZ.ok _) (loop_nz hn level f _ _)))
theorem from_nz {l : List Lx.Tk} {en : Nat} {ah : Nat → Res Sy.Ex} (ha : ∀ p, NZ (ah p)) : ∀ k p, NZ (from' l en ah k p)
  | 0, p => ha p
  | k + 1, p => by rw [from']; exact NZ.andThen (from_nz ha k p) (fun q x => loop_nz (from_nz ha k) _ _ _ _)
theorem items_nz {α : Type} {l : List Lx.Tk} {en : Nat} {bg : Lx.Tk → Bool} {one : Nat → Res α} (ho : ∀ p, NZ (one p)) : ∀ (f : Nat) (out : List α) (p : Nat), NZ (items l en bg one f out p)
  | 0, out, p => NZ.ok _
  | f + 1, out, p => by
    rw [items]
    split
    · rename_i h; exact fun e' he => by simp at he; rw [← he]; exact limit_nz h
    · exact NZ.andThen (ho _) (fun q x => NZ.ite (NZ.ok _) (NZ.andThen (want_nz _ _ _ _) (fun _ _ => items_nz ho f _ _)))
theorem list_nz {α : Type} {l : List Lx.Tk} {en : Nat} {bg : Lx.Tk → Bool} {one : Nat → Res α} (ho : ∀ p, NZ (one p)) (p : Nat) : NZ (list l en bg one p) :=
  NZ.andThen (want_nz _ _ _ _) (fun _ _ => NZ.ite (NZ.ok _) (items_nz ho _ _ _))
theorem expr_nz {l : List Lx.Tk} {en d : Nat} {prev : Nat → Res Sy.Ex} (h : d = 0 ∨ ∀ p, NZ (prev p)) (p : Nat) : NZ (expr l en d prev p) := by
  unfold expr
  split
  · exact NZ.err (by decide)
  · rename_i hd; exact from_nz (h.resolve_left hd) _ _
theorem turned_nz {l : List Lx.Tk} {en d : Nat} {prev : Nat → Res Sy.Ex} (h : d = 0 ∨ ∀ p, NZ (prev p)) (k : Int) (p : Nat) : NZ (turned l en d prev k p) := by
  unfold turned
  split
  · exact NZ.err (by decide)
  · rename_i hd; exact NZ.andThen (h.resolve_left hd _) (fun _ _ => NZ.ok _)
theorem kids_nz {l : List Lx.Tk} {en d : Nat} {prev : Nat → Res Sy.Ex} (h : d = 0 ∨ ∀ p, NZ (prev p)) (p : Nat) : NZ (kids l en d prev p) := list_nz (expr_nz h) p
theorem receiving_nz (l : List Lx.Tk) (en p : Nat) : NZ (receiving l en p) := NZ.andThen (want_nz _ _ _ _) (fun _ _ => NZ.andThen (name_nz _ _ _) (fun _ _ => NZ.andThen (want_nz _ _ _ _) (fun _ _ => NZ.ok _)))
theorem named_nz {l : List Lx.Tk} {en d : Nat} {prev : Nat → Res Sy.Ex} (h : d = 0 ∨ ∀ p, NZ (prev p)) (p : Nat) : NZ (named l en d prev p) := NZ.andThen (name_nz _ _ _) (fun _ _ => NZ.ite (NZ.andThen (kids_nz h _) (fun _ _ => NZ.ok _)) (NZ.ok _))
theorem exactly1_nz {l : List Lx.Tk} {en d : Nat} {prev : Nat → Res Sy.Ex} (h : d = 0 ∨ ∀ p, NZ (prev p)) (p : Nat) : NZ (exactly1 l en d prev p) := NZ.andThen (want_nz _ _ _ _) (fun _ _ => NZ.andThen (expr_nz h _) (fun _ _ => NZ.andThen (want_nz _ _ _ _) (fun _ _ => NZ.ok _)))
theorem exactly2_nz {l : List Lx.Tk} {en d : Nat} {prev : Nat → Res Sy.Ex} (h : d = 0 ∨ ∀ p, NZ (prev p)) (p : Nat) : NZ (exactly2 l en d prev p) :=
  NZ.andThen (want_nz _ _ _ _) (fun _ _ => NZ.andThen (expr_nz h _) (fun _ _ => NZ.andThen (want_nz _ _ _ _) (fun _ _ => NZ.andThen (expr_nz h _) (fun _ _ => NZ.andThen (want_nz _ _ _ _) (fun _ _ => NZ.ok _)))))
theorem piece_nz {l : List Lx.Tk} {en d : Nat} {prev : Nat → Res Sy.Ex} (h : d = 0 ∨ ∀ p, NZ (prev p)) (p : Nat) : NZ (piece l en d prev p) := by
  unfold piece
  refine NZ.ite (NZ.ok _) (NZ.ite (NZ.andThen (expr_nz h _) (fun _ _ => NZ.andThen (want_nz _ _ _ _) (fun _ _ => NZ.ok _))) (NZ.ite (NZ.ok _) (NZ.ite (NZ.ok _) (NZ.ite (NZ.andThen (name_nz _ _ _) (fun _ _ => NZ.andThen (kids_nz h _) (fun _ _ => NZ.ok _))) (NZ.ite (receiving_nz _ _ _) (NZ.ite (NZ.andThen (exactly1_nz h _) (fun _ _ => NZ.ok _)) (NZ.ite (NZ.andThen (exactly1_nz h _) (fun _ _ => NZ.ok _)) (NZ.ite (NZ.andThen (exactly2_nz h _) (fun _ _ => NZ.ok _)) (named_nz h _)))))))))
theorem aheadS_nz {l : List Lx.Tk} {en d : Nat} {prev : Nat → Res Sy.Ex} (h : d = 0 ∨ ∀ p, NZ (prev p)) (p : Nat) : NZ (aheadS l en d prev p) := NZ.ite (turned_nz h _ _) (NZ.ite (turned_nz h _ _) (piece_nz h _))
theorem ahead_nz (l : List Lx.Tk) (en : Nat) : ∀ d p, NZ (ahead l en d p)
  | 0, p => aheadS_nz (.inl rfl) p
  | d + 1, p => aheadS_nz (.inr (ahead_nz l en d)) p
theorem ex_nz (l : List Lx.Tk) (en d p : Nat) : NZ (ex l en d p) := expr_nz (by cases d with | zero => exact .inl rfl | succ d => exact .inr (ahead_nz l en d)) p

theorem setting_nz (l : List Lx.Tk) (en d : Nat) (k : Int) (p : Nat) : NZ (setting l en d k p) := NZ.andThen (name_nz _ _ _) (fun _ _ => NZ.andThen (want_nz _ _ _ _) (fun _ _ => NZ.andThen (ex_nz _ _ _ _) (fun _ _ => NZ.andThen (want_nz _ _ _ _) (fun _ _ => NZ.ok _))))
theorem saying_nz (l : List Lx.Tk) (en d : Nat) (k : Int) (p : Nat) : NZ (saying l en d k p) := NZ.andThen (ex_nz _ _ _ _) (fun _ _ => NZ.andThen (want_nz _ _ _ _) (fun _ _ => NZ.ok _))
theorem sending_nz (l : List Lx.Tk) (en d p : Nat) : NZ (sending l en d p) := NZ.andThen (name_nz _ _ _) (fun _ _ => NZ.andThen (ex_nz _ _ _ _) (fun _ _ => NZ.andThen (want_nz _ _ _ _) (fun _ _ => NZ.ok _)))
theorem stopping_nz (l : List Lx.Tk) (en p : Nat) : NZ (stopping l en p) := NZ.andThen (want_nz _ _ _ _) (fun _ _ => NZ.ok _)
theorem looping_nz {l : List Lx.Tk} {en d : Nat} {bd : Nat → Res (List Sy.St)} (hb : ∀ p, NZ (bd p)) (p : Nat) : NZ (looping l en d bd p) := NZ.andThen (ex_nz _ _ _ _) (fun _ _ => NZ.andThen (hb _) (fun _ _ => NZ.ok _))
theorem choice_nz {l : List Lx.Tk} {en d : Nat} {bd : Nat → Res (List Sy.St)} (hb : ∀ p, NZ (bd p)) (p : Nat) : NZ (choice l en d bd p) := NZ.andThen (ex_nz _ _ _ _) (fun _ _ => NZ.andThen (hb _) (fun _ _ => NZ.ite (NZ.andThen (hb _) (fun _ _ => NZ.ok _)) (NZ.ok _)))
theorem stat_nz {l : List Lx.Tk} {en d : Nat} {bd : Nat → Res (List Sy.St)} (hb : ∀ p, NZ (bd p)) (p : Nat) : NZ (stat l en d bd p) :=
  NZ.ite (setting_nz _ _ _ _ _) (NZ.ite (choice_nz hb _) (NZ.ite (looping_nz hb _) (NZ.ite (stopping_nz _ _ _) (NZ.ite (sending_nz _ _ _ _) (NZ.ite (saying_nz _ _ _ _ _) (NZ.ite (saying_nz _ _ _ _ _) (NZ.ite (saying_nz _ _ _ _ _) (setting_nz _ _ _ _ _))))))))
theorem stats_nz {l : List Lx.Tk} {en : Nat} {st : Nat → Res Sy.St} (hs : ∀ p, NZ (st p)) : ∀ (f : Nat) (out : List Sy.St) (p : Nat), NZ (stats l en st f out p)
  | 0, out, p => NZ.ok _
  | f + 1, out, p => by
    rw [stats]
    refine NZ.ite (NZ.ok _) ?_
    split
    · rename_i h; exact fun e' he => by simp at he; rw [← he]; exact limit_nz h
    · exact NZ.andThen (hs _) (fun _ _ => stats_nz hs f _ _)
theorem body_nz (l : List Lx.Tk) (en : Nat) : ∀ d p, NZ (body l en d p)
  | 0, p => NZ.andThen (want_nz _ _ _ _) (fun _ _ => NZ.err (by decide))
  | d + 1, p => NZ.andThen (want_nz _ _ _ _) (fun _ _ => stats_nz (stat_nz (body_nz l en d)) _ _ _)
theorem params_nz (l : List Lx.Tk) (en p : Nat) : NZ (params l en p) := list_nz (fun _ => NZ.andThen (name_nz _ _ _) (fun _ _ => NZ.andThen (typ_nz _ _ _) (fun _ _ => NZ.ok _))) p
theorem df_nz (l : List Lx.Tk) (en p : Nat) : NZ (df l en p) := by
  unfold df
  refine NZ.ite ?_ (NZ.ite ?_ (NZ.ite ?_ ?_))
  · exact NZ.andThen (want_nz _ _ _ _) (fun _ _ => NZ.andThen (name_nz _ _ _) (fun _ _ => NZ.andThen (typ_nz _ _ _) (fun _ _ => NZ.andThen (places_nz _ _ _) (fun _ _ => NZ.andThen (want_nz _ _ _ _) (fun _ _ => NZ.ok _)))))
  · exact NZ.andThen (want_nz _ _ _ _) (fun _ _ => NZ.andThen (name_nz _ _ _) (fun _ _ => NZ.andThen (params_nz _ _ _) (fun _ _ => NZ.andThen (typ_nz _ _ _) (fun _ _ => NZ.andThen (body_nz _ _ _ _) (fun _ _ => NZ.ok _)))))
  · exact NZ.andThen (want_nz _ _ _ _) (fun _ _ => NZ.andThen (name_nz _ _ _) (fun _ _ => NZ.andThen (params_nz _ _ _) (fun _ _ => NZ.andThen (want_nz _ _ _ _) (fun _ _ => NZ.andThen (typ_nz _ _ _) (fun _ _ => NZ.andThen (want_nz _ _ _ _) (fun _ _ => NZ.andThen (typ_nz _ _ _) (fun _ _ => NZ.andThen (body_nz _ _ _ _) (fun _ _ => NZ.ok _))))))))
  · exact NZ.andThen (want_nz _ _ _ _) (fun _ _ => NZ.andThen (name_nz _ _ _) (fun _ _ => NZ.andThen (body_nz _ _ _ _) (fun _ _ => NZ.ok _)))
theorem dfs_nz (l : List Lx.Tk) (en : Nat) : ∀ (f : Nat) (out : List Sy.Df) (p : Nat), NZ (dfs l en f out p)
  | 0, out, p => NZ.ok _
  | f + 1, out, p => by
    rw [dfs]
    refine NZ.ite (NZ.ok _) ?_
    split
    · rename_i h; exact fun e' he => by simp at he; rw [← he]; exact limit_nz h
    · exact NZ.andThen (df_nz _ _ _) (fun _ _ => dfs_nz l en f _ _)
theorem program_nz (l : List Lx.Tk) (en : Nat) : NZ (program l en) := dfs_nz l en _ _ _

end Rp

namespace Lx
theorem firstL_num {l : List UInt8} {K N M : Nat} (h : firstL l = (0, K, N, M)) : M ≤ 1000000000000000 := by
  unfold firstL at h
  split at h
  · simp at h
  · rename_i c r
    split at h
    · simp at h; omega
    · split at h
      · split at h
        · simp at h
        · rename_i hs
          simp only [Prod.mk.injEq] at h
          obtain ⟨_, _, _, rfl⟩ := h
          have h1 := numL_lt ((c :: r).take (span isDig (c :: r))) (take_span_all isDig (c :: r))
          have h2 : ((c :: r).take (span isDig (c :: r))).length ≤ 15 := by simp; omega
          have h3 : 10 ^ ((c :: r).take (span isDig (c :: r))).length ≤ 10 ^ 15 := Nat.pow_le_pow_right (by decide) h2
          omega
      · split at h
        · simp at h
        · simp at h; omega
theorem lexFrom_ok : ∀ (f : Nat) (s : ByteArray) (a : Nat), a ≤ s.size → (lexFrom f s a).1.length + a ≤ s.size ∧ ∀ t ∈ (lexFrom f s a).1, t.text.size ≤ s.size ∧ t.num ≤ 1000000000000000
  | 0, s, a, ha => ⟨by simp [lexFrom]; exact ha, fun t ht => by simp [lexFrom] at ht⟩
  | f + 1, s, a, ha => by
    by_cases he : s.size ≤ place s a
    · rw [lexFrom_end rfl he]; exact ⟨by simpa using ha, fun t ht => by simp at ht⟩
    · obtain ⟨E, K, N, M, hF⟩ : ∃ E K N M, firstL (s.data.toList.drop (place s a)) = (E, K, N, M) := ⟨_, _, _, _, rfl⟩
      by_cases hE : E = 0
      · subst hE
        have hl := firstL_len hF
        have hN := (firstL_pos hF).1
        have hM := firstL_num hF
        have hsz : s.data.size = s.size := rfl
        simp only [List.length_drop, Array.length_toList] at hl
        have hpl : a ≤ place s a := by unfold place; omega
        obtain ⟨i1, i2⟩ := lexFrom_ok f s (place s a + N) (by omega)
        rw [lexFrom_tok rfl he hF]
        refine ⟨by simp; omega, fun t ht => ?_⟩
        rcases List.mem_cons.1 ht with rfl | ht
        · refine ⟨?_, hM⟩
          show (s.extract (place s a) (place s a + N)).size ≤ s.size
          simp [ByteArray.size_extract]
          omega
        · exact i2 t ht
      · rw [lexFrom_err rfl he hF hE]
        exact ⟨by simpa using ha, fun t ht => by simp at ht⟩
theorem lexB_ok (s : ByteArray) : (lexB s).1.length ≤ 6000 ∧ TkOk (lexB s).1 := by
  unfold lexB
  split
  · exact ⟨by simp, fun t ht => by simp at ht⟩
  · rename_i h
    obtain ⟨i1, i2⟩ := lexFrom_ok (s.size + 1) s 0 (Nat.zero_le _)
    split
    · exact ⟨by omega, fun t ht => by have := i2 t ht; omega⟩
    · exact ⟨by simp, fun t ht => by simp at ht⟩
end Lx
end Go.Proofs.YtlnikpcoejpknaaDoor


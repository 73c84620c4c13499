/- Faults are faults; what tokens a text has. -/
import Derived.Test.YtlnikpcoejpknaaGreatDoorM18
import Derived.Test.YtlnikpcoejpknaaGreatDoorM30
import Derived.Test.YtlnikpcoejpknaaGreatDoorM11
import Derived.Test.YtlnikpcoejpknaaGreatDoorM23
namespace Go.Proofs.YtlnikpcoejpknaaGreatDoor
open Go.RowKit
namespace Rp

/-- What is wrong is no nothing. -/
def NZ {α : Type} (r : Res α) : Prop := ∀ e, r = .error e → e.1 ≠ 0

theorem NZ.ok {α : Type} (x : Nat × α) : NZ (.ok x : Res α) := fun e h => by simp at h
theorem NZ.err {α : Type} {a : Int} {b : Nat} (h : a ≠ 0) : NZ (.error (a, b) : Res α) := fun e he => by simp at he; rw [← he]; exact h
theorem NZ.andThen {α β : Type} {r : Res α} {f : Nat → α → Res β} (h1 : NZ r) (h2 : ∀ q x, NZ (f q x)) : NZ (Rp.andThen r f) := by
  intro e he
  cases r with
  | error e' => simp [Rp.andThen] at he; exact h1 e (by rw [he])
  | ok qx => exact h2 qx.1 qx.2 e he
theorem NZ.ite {α : Type} {c : Prop} [Decidable c] {a b : Res α} (h1 : NZ a) (h2 : NZ b) : NZ (if c then a else b) := by split <;> assumption

theorem want_nz (l : List Lx.Tk) (en : Nat) (s : ByteArray) (p : Nat) : NZ (want l en s p) := by
  unfold want wantL
  split
  · exact NZ.ok _
  · rename_i h
    split at h
    · simp at h
    · simp at h; rw [← h]; exact NZ.err (by decide)
theorem name_nz (l : List Lx.Tk) (en p : Nat) : NZ (name l en p) := by
  unfold name nameL
  split
  · exact NZ.ok _
  · rename_i h
    split at h
    · simp at h; rw [← h]; exact NZ.err (by decide)
    · split at h
      · simp at h; rw [← h]; exact NZ.err (by decide)
      · simp at h
theorem typ_nz (l : List Lx.Tk) (en p : Nat) : NZ (typ l en p) := by
  unfold typ typL
  split
  · exact NZ.ok _
  · rename_i e h
    split at h
    · simp at h
    · split at h
      · simp at h
      · have hn := name_nz l en p
        unfold name at hn
        rw [h] at hn
        exact fun e' he => hn e' (by simpa using he)
theorem places_nz (l : List Lx.Tk) (en p : Nat) : NZ (places l en p) := by
  unfold places placesL
  split
  · exact NZ.ok _
  · rename_i h
    split at h
    · simp at h; rw [← h]; exact NZ.err (by decide)
    · split at h
      · simp at h; rw [← h]; exact NZ.err (by decide)
      · simp at h
theorem limit_nz {bg : Lx.Tk → Bool} {n most : Int} {t : Lx.Tk} {p : Nat} {e : Int × Nat} (h : limitL bg n most t p = .error e) : e.1 ≠ 0 := by
  unfold limitL at h
  split at h
  · simp at h; rw [← h]; show (5 : Int) ≠ 0; decide
  · simp at h

theorem loop_nz {l : List Lx.Tk} {en : Nat} {next : Nat → Res Sy.Ex} (hn : ∀ p, NZ (next p)) (level : Int) : ∀ (f : Nat) (x : Sy.Ex) (p : Nat), NZ (loop l en next level f x p)
  | 0, x, p => NZ.ok _
  | f + 1, x, p => by
    rw [loop]
    exact NZ.ite (NZ.ok _) (NZ.andThen (hn _) (fun q y => NZ.ite (NZ.ok _) (loop_nz hn level f _ _)))
theorem from_nz {l : List Lx.Tk} {en : Nat} {ah : Nat → Res Sy.Ex} (ha : ∀ p, NZ (ah p)) : ∀ k p, NZ (from' l en ah k p)
  | 0, p => ha p
  | k + 1, p => by rw [from']; exact NZ.andThen (from_nz ha k p) (fun q x => loop_nz (from_nz ha k) _ _ _ _)
theorem items_nz {α : Type} {l : List Lx.Tk} {en : Nat} {bg : Lx.Tk → Bool} {one : Nat → Res α} (ho : ∀ p, NZ (one p)) : ∀ (f : Nat) (out : List α) (p : Nat), NZ (items l en bg one f out p)
  | 0, out, p => NZ.ok _
  | f + 1, out, p => by
    rw [items]
    split
    · rename_i h; exact fun e' he => by simp at he; rw [← he]; exact limit_nz h
    · exact NZ.andThen (ho _) (fun q x => NZ.ite (NZ.ok _) (NZ.andThen (want_nz _ _ _ _) (fun _ _ => items_nz ho f _ _)))
theorem list_nz {α : Type} {l : List Lx.Tk} {en : Nat} {bg : Lx.Tk → Bool} {one : Nat → Res α} (ho : ∀ p, NZ (one p)) (p : Nat) : NZ (list l en bg one p) :=
  NZ.andThen (want_nz _ _ _ _) (fun _ _ => NZ.ite (NZ.ok _) (items_nz ho _ _ _))
theorem expr_nz {l : List Lx.Tk} {en d : Nat} {prev : Nat → Res Sy.Ex} (h : d = 0 ∨ ∀ p, NZ (prev p)) (p : Nat) : NZ (expr l en d prev p) := by
  unfold expr
  split
  · exact NZ.err (by decide)
  · rename_i hd; exact from_nz (h.resolve_left hd) _ _
theorem turned_nz {l : List Lx.Tk} {en d : Nat} {prev : Nat → Res Sy.Ex} (h : d = 0 ∨ ∀ p, NZ (prev p)) (k : Int) (p : Nat) : NZ (turned l en d prev k p) := by
  unfold turned
  split
  · exact NZ.err (by decide)
  · rename_i hd; exact NZ.andThen (h.resolve_left hd _) (fun _ _ => NZ.ok _)
theorem kids_nz {l : List Lx.Tk} {en d : Nat} {prev : Nat → Res Sy.Ex} (h : d = 0 ∨ ∀ p, NZ (prev p)) (p : Nat) : NZ (kids l en d prev p) := list_nz (expr_nz h) p
theorem receiving_nz (l : List Lx.Tk) (en p : Nat) : NZ (receiving l en p) := NZ.andThen (want_nz _ _ _ _) (fun _ _ => NZ.andThen (name_nz _ _ _) (fun _ _ => NZ.andThen (want_nz _ _ _ _) (fun _ _ => NZ.ok _)))
theorem named_nz {l : List Lx.Tk} {en d : Nat} {prev : Nat → Res Sy.Ex} (h : d = 0 ∨ ∀ p, NZ (prev p)) (p : Nat) : NZ (named l en d prev p) := NZ.andThen (name_nz _ _ _) (fun _ _ => NZ.ite (NZ.andThen (kids_nz h _) (fun _ _ => NZ.ok _)) (NZ.ok _))
theorem exactly1_nz {l : List Lx.Tk} {en d : Nat} {prev : Nat → Res Sy.Ex} (h : d = 0 ∨ ∀ p, NZ (prev p)) (p : Nat) : NZ (exactly1 l en d prev p) := NZ.andThen (want_nz _ _ _ _) (fun _ _ => NZ.andThen (expr_nz h _) (fun _ _ => NZ.andThen (want_nz _ _ _ _) (fun _ _ => NZ.ok _)))
theorem exactly2_nz {l : List Lx.Tk} {en d : Nat} {prev : Nat → Res Sy.Ex} (h : d = 0 ∨ ∀ p, NZ (prev p)) (p : Nat) : NZ (exactly2 l en d prev p) :=
  NZ.andThen (want_nz _ _ _ _) (fun _ _ => NZ.andThen (expr_nz h _) (fun _ _ => NZ.andThen (want_nz _ _ _ _) (fun _ _ => NZ.andThen (expr_nz h _) (fun _ _ => NZ.andThen (want_nz _ _ _ _) (fun _ _ => NZ.ok _)))))
theorem piece_nz {l : List Lx.Tk} {en d : Nat} {prev : Nat → Res Sy.Ex} (h : d = 0 ∨ ∀ p, NZ (prev p)) (p : Nat) : NZ (piece l en d prev p) := by
  unfold piece
  refine NZ.ite (NZ.ok _) (NZ.ite (NZ.andThen (expr_nz h _) (fun _ _ => NZ.andThen (want_nz _ _ _ _) (fun _ _ => NZ.ok _))) (NZ.ite (NZ.ok _) (NZ.ite (NZ.ok _) (NZ.ite (NZ.andThen (name_nz _ _ _) (fun _ _ => NZ.andThen (kids_nz h _) (fun _ _ => NZ.ok _))) (NZ.ite (receiving_nz _ _ _) (NZ.ite (NZ.andThen (exactly1_nz h _) (fun _ _ => NZ.ok _)) (NZ.ite (NZ.andThen (exactly1_nz h _) (fun _ _ => NZ.ok _)) (NZ.ite (NZ.andThen (exactly2_nz h _) (fun _ _ => NZ.ok _)) (named_nz h _)))))))))
theorem aheadS_nz {l : List Lx.Tk} {en d : Nat} {prev : Nat → Res Sy.Ex} (h : d = 0 ∨ ∀ p, NZ (prev p)) (p : Nat) : NZ (aheadS l en d prev p) := NZ.ite (turned_nz h _ _) (NZ.ite (turned_nz h _ _) (piece_nz h _))
theorem ahead_nz (l : List Lx.Tk) (en : Nat) : ∀ d p, NZ (ahead l en d p)
  | 0, p => aheadS_nz (.inl rfl) p
  | d + 1, p => aheadS_nz (.inr (ahead_nz l en d)) p
theorem ex_nz (l : List Lx.Tk) (en d p : Nat) : NZ (ex l en d p) := expr_nz (by cases d with | zero => exact .inl rfl | succ d => exact .inr (ahead_nz l en d)) p

theorem setting_nz (l : List Lx.Tk) (en d : Nat) (k : Int) (p : Nat) : NZ (setting l en d k p) := NZ.andThen (name_nz _ _ _) (fun _ _ => NZ.andThen (want_nz _ _ _ _) (fun _ _ => NZ.andThen (ex_nz _ _ _ _) (fun _ _ => NZ.andThen (want_nz _ _ _ _) (fun _ _ => NZ.ok _))))
theorem saying_nz (l : List Lx.Tk) (en d : Nat) (k : Int) (p : Nat) : NZ (saying l en d k p) := NZ.andThen (ex_nz _ _ _ _) (fun _ _ => NZ.andThen (want_nz _ _ _ _) (fun _ _ => NZ.ok _))
theorem sending_nz (l : List Lx.Tk) (en d p : Nat) : NZ (sending l en d p) := NZ.andThen (name_nz _ _ _) (fun _ _ => NZ.andThen (ex_nz _ _ _ _) (fun _ _ => NZ.andThen (want_nz _ _ _ _) (fun _ _ => NZ.ok _)))
theorem stopping_nz (l : List Lx.Tk) (en p : Nat) : NZ (stopping l en p) := NZ.andThen (want_nz _ _ _ _) (fun _ _ => NZ.ok _)
theorem looping_nz {l : List Lx.Tk} {en d : Nat} {bd : Nat → Res (List Sy.St)} (hb : ∀ p, NZ (bd p)) (p : Nat) : NZ (looping l en d bd p) := NZ.andThen (ex_nz _ _ _ _) (fun _ _ => NZ.andThen (hb _) (fun _ _ => NZ.ok _))
theorem choice_nz {l : List Lx.Tk} {en d : Nat} {bd : Nat → Res (List Sy.St)} (hb : ∀ p, NZ (bd p)) (p : Nat) : NZ (choice l en d bd p) := NZ.andThen (ex_nz _ _ _ _) (fun _ _ => NZ.andThen (hb _) (fun _ _ => NZ.ite (NZ.andThen (hb _) (fun _ _ => NZ.ok _)) (NZ.ok _)))
theorem stat_nz {l : List Lx.Tk} {en d : Nat} {bd : Nat → Res (List Sy.St)} (hb : ∀ p, NZ (bd p)) (p : Nat) : NZ (stat l en d bd p) :=
  NZ.ite (setting_nz _ _ _ _ _) (NZ.ite (choice_nz hb _) (NZ.ite (looping_nz hb _) (NZ.ite (stopping_nz _ _ _) (NZ.ite (sending_nz _ _ _ _) (NZ.ite (saying_nz _ _ _ _ _) (NZ.ite (saying_nz _ _ _ _ _) (NZ.ite (saying_nz _ _ _ _ _) (setting_nz _ _ _ _ _))))))))
theorem stats_nz {l : List Lx.Tk} {en : Nat} {st : Nat → Res Sy.St} (hs : ∀ p, NZ (st p)) : ∀ (f : Nat) (out : List Sy.St) (p : Nat), NZ (stats l en st f out p)
  | 0, out, p => NZ.ok _
  | f + 1, out, p => by
    rw [stats]
    refine NZ.ite (NZ.ok _) ?_
    split
    · rename_i h; exact fun e' he => by simp at he; rw [← he]; exact limit_nz h
    · exact NZ.andThen (hs _) (fun _ _ => stats_nz hs f _ _)
theorem body_nz (l : List Lx.Tk) (en : Nat) : ∀ d p, NZ (body l en d p)
  | 0, p => NZ.andThen (want_nz _ _ _ _) (fun _ _ => NZ.err (by decide))
  | d + 1, p => NZ.andThen (want_nz _ _ _ _) (fun _ _ => stats_nz (stat_nz (body_nz l en d)) _ _ _)
theorem params_nz (l : List Lx.Tk) (en p : Nat) : NZ (params l en p) := list_nz (fun _ => NZ.andThen (name_nz _ _ _) (fun _ _ => NZ.andThen (typ_nz _ _ _) (fun _ _ => NZ.ok _))) p
theorem df_nz (l : List Lx.Tk) (en p : Nat) : NZ (df l en p) := by
  unfold df
  refine NZ.ite ?_ (NZ.ite ?_ (NZ.ite ?_ ?_))
  · exact NZ.andThen (want_nz _ _ _ _) (fun _ _ => NZ.andThen (name_nz _ _ _) (fun _ _ => NZ.andThen (typ_nz _ _ _) (fun _ _ => NZ.andThen (places_nz _ _ _) (fun _ _ => NZ.andThen (want_nz _ _ _ _) (fun _ _ => NZ.ok _)))))
  · exact NZ.andThen (want_nz _ _ _ _) (fun _ _ => NZ.andThen (name_nz _ _ _) (fun _ _ => NZ.andThen (params_nz _ _ _) (fun _ _ => NZ.andThen (typ_nz _ _ _) (fun _ _ => NZ.andThen (body_nz _ _ _ _) (fun _ _ => NZ.ok _)))))
  · exact NZ.andThen (want_nz _ _ _ _) (fun _ _ => NZ.andThen (name_nz _ _ _) (fun _ _ => NZ.andThen (params_nz _ _ _) (fun _ _ => NZ.andThen (want_nz _ _ _ _) (fun _ _ => NZ.andThen (typ_nz _ _ _) (fun _ _ => NZ.andThen (want_nz _ _ _ _) (fun _ _ => NZ.andThen (typ_nz _ _ _) (fun _ _ => NZ.andThen (body_nz _ _ _ _) (fun _ _ => NZ.ok _))))))))
  · exact NZ.andThen (want_nz _ _ _ _) (fun _ _ => NZ.andThen (name_nz _ _ _) (fun _ _ => NZ.andThen (body_nz _ _ _ _) (fun _ _ => NZ.ok _)))
theorem dfs_nz (l : List Lx.Tk) (en : Nat) : ∀ (f : Nat) (out : List Sy.Df) (p : Nat), NZ (dfs l en f out p)
  | 0, out, p => NZ.ok _
  | f + 1, out, p => by
    rw [dfs]
    refine NZ.ite (NZ.ok _) ?_
    split
    · rename_i h; exact fun e' he => by simp at he; rw [← he]; exact limit_nz h
    · exact NZ.andThen (df_nz _ _ _) (fun _ _ => dfs_nz l en f _ _)
theorem program_nz (l : List Lx.Tk) (en : Nat) : NZ (program l en) := dfs_nz l en _ _ _

end Rp

namespace Lx
theorem firstL_num {l : List UInt8} {K N M : Nat} (h : firstL l = (0, K, N, M)) : M ≤ 1000000000000000 := by
  unfold firstL at h
  split at h
  · simp at h
  · rename_i c r
    split at h
    · simp at h; omega
    · split at h
      · split at h
        · simp at h
        · rename_i hs
          simp only [Prod.mk.injEq] at h
          obtain ⟨_, _, _, rfl⟩ := h
          have h1 := numL_lt ((c :: r).take (span isDig (c :: r))) (take_span_all isDig (c :: r))
          have h2 : ((c :: r).take (span isDig (c :: r))).length ≤ 15 := by simp; omega
          have h3 : 10 ^ ((c :: r).take (span isDig (c :: r))).length ≤ 10 ^ 15 := Nat.pow_le_pow_right (by decide) h2
          omega
      · split at h
        · simp at h
        · simp at h; omega
theorem lexFrom_ok : ∀ (f : Nat) (s : ByteArray) (a : Nat), a ≤ s.size → (lexFrom f s a).1.length + a ≤ s.size ∧ ∀ t ∈ (lexFrom f s a).1, t.text.size ≤ s.size ∧ t.num ≤ 1000000000000000
  | 0, s, a, ha => ⟨by simp [lexFrom]; exact ha, fun t ht => by simp [lexFrom] at ht⟩
  | f + 1, s, a, ha => by
    by_cases he : s.size ≤ place s a
    · rw [lexFrom_end rfl he]; exact ⟨by simpa using ha, fun t ht => by simp at ht⟩
    · obtain ⟨E, K, N, M, hF⟩ : ∃ E K N M, firstL (s.data.toList.drop (place s a)) = (E, K, N, M) := ⟨_, _, _, _, rfl⟩
      by_cases hE : E = 0
      · subst hE
        have hl := firstL_len hF
        have hN := (firstL_pos hF).1
        have hM := firstL_num hF
        have hsz : s.data.size = s.size := rfl
        simp only [List.length_drop, Array.length_toList] at hl
        have hpl : a ≤ place s a := by unfold place; omega
        obtain ⟨i1, i2⟩ := lexFrom_ok f s (place s a + N) (by omega)
        rw [lexFrom_tok rfl he hF]
        refine ⟨by simp; omega, fun t ht => ?_⟩
        rcases List.mem_cons.1 ht with rfl | ht
        · refine ⟨?_, hM⟩
          show (s.extract (place s a) (place s a + N)).size ≤ s.size
          simp [ByteArray.size_extract]
          omega
        · exact i2 t ht
      · rw [lexFrom_err rfl he hF hE]
        exact ⟨by simpa using ha, fun t ht => by simp at ht⟩
theorem lexB_ok (s : ByteArray) : (lexB s).1.length ≤ 6000 ∧ TkOk (lexB s).1 := by
  unfold lexB
  split
  · exact ⟨by simp, fun t ht => by simp at ht⟩
  · rename_i h
    obtain ⟨i1, i2⟩ := lexFrom_ok (s.size + 1) s 0 (Nat.zero_le _)
    split
    · exact ⟨by omega, fun t ht => by have := i2 t ht; omega⟩
    · exact ⟨by simp, fun t ht => by simp at ht⟩
end Lx
end Go.Proofs.YtlnikpcoejpknaaGreatDoor

/- What syn.Read answers, as a plain function; the walk of its closure. -/
namespace Go.Proofs.YtlnikpcoejpknaaGreatDoor
open Go.RowKit

/-- What Read answers: the definitions, what is wrong, and where. -/
def readL (s : ByteArray) : List Sy.Df × Int × Int :=
  if (Lx.lexB s).2.1 ≠ 0 then ([], (Lx.lexB s).2.1, (Lx.lexB s).2.2)
  else match Rp.program (Lx.lexB s).1 s.size with
    | .error e => ([], e.1, e.2)
    | .ok x => if (Sy.wrongL x.2).1 ≠ 0 then ([], (Sy.wrongL x.2).1, 0) else (x.2, 0, 0)

abbrev outO (v : Value) : Obj := .cells #[v] 22 (0, 0)

set_option maxRecDepth 100000 in
set_option maxHeartbeats 1000000 in
/-- What comes of the closure: the box at N has the program, or a fault is thrown. -/
theorem read1_f (E : Env) (G : Good E) (N : Nat) (r : Res (List Sy.Df)) (w : World) (h : Hid (Rdy E w 0 0)) (hN : Hid (w.heap[N]? = some (outO (.slice none 0 0)))) (hNR : N < E.R) (hr : Hid (r = Rp.program E.l E.en)) :
    Calls Tryz.prog 15 #[.pointer (some ⟨E.R, 0, none⟩), .pointer (some ⟨N, 0, none⟩)] w fun e w' => match r with
      | .ok (_, l) => e = .returned (.tuple #[]) ∧ ∃ v u, PgV w u l v ∧ w.grownBy u (some E.R) ∧ w' = u.setCell ⟨N, 0, none⟩ v ∧ w'.heap[N]? = some (outO v)
      | .error (er, at') => e = .panicked [fltE er at'] ∧ w.grownBy w' (some E.R) := by
  go_enter Tryz.func15, Tryz.ntmps15
  go_wp2_with fail
  refine (prog_f E G r _ h hr).mono ?_
  rintro e w1 ⟨hg1, hf1⟩
  have HG1 := hide2 hg1
  have hN1 : w1.heap[N]? = some (outO (.slice none 0 0)) := kept_on hg1 (by omega) hN.out
  obtain ⟨c0, f0⟩ := box_cell hN1
  have HN1 := hide2 hN1
  clear hg1 hN1
  cases r with
  | error er =>
    obtain ⟨e1, e2⟩ := er
    obtain ⟨rfl, hd1⟩ := hf1
    clear hd1
    go_wp2
    exact ⟨rfl, rfl, HG1.out⟩
  | ok qx =>
    obtain ⟨q, l⟩ := qx
    obtain ⟨⟨v, rfl, hv⟩, hd1⟩ := hf1
    have HV := hide2 hv
    obtain ⟨a, c, rfl, _, _⟩ := hv
    clear hd1
    go_wp2
    go_end0
    refine ⟨rfl, _, w1, HV.out, HG1.out, rfl, ?_⟩
    have h1 := HN1.out
    simp only [World.setCell, Array.getElem?_modify, if_true, h1, Option.map_some]
    rfl

end Go.Proofs.YtlnikpcoejpknaaGreatDoor

/- All words of a program stand by themselves; WHAT IS WRITTEN IS READ. -/
namespace Go.Proofs.YtlnikpcoejpknaaGreatDoor
open Go.RowKit
namespace Lx

/-- A word, or a sign. -/
def gwB (l : List UInt8) : Bool := match l with
  | [] => false
  | c :: r => (isLet c && r.all isWrd) || (decide (r = []) && one c && !isLet c && !isDig c && !isBlk c && decide (c.toNat ≠ 35)) || (decide (r = [61]) && two c && !isLet c && !isDig c && !isBlk c && decide (c.toNat ≠ 35))
theorem gwB_ok {w : ByteArray} (h : gwB w.data.toList = true) : Gw w := by
  cases hw : w.data.toList with
  | nil => rw [hw] at h; cases h
  | cons c r =>
    rw [hw] at h
    simp only [gwB, Bool.or_eq_true, Bool.and_eq_true, Bool.not_eq_true', decide_eq_true_eq] at h
    have hwe : w = ⟨(c :: r).toArray⟩ := by
      apply ByteArray.ext
      apply Array.toList_inj.1
      rw [hw]
    rcases h with (⟨h1, h2⟩ | ⟨⟨⟨⟨⟨rfl, h1⟩, h2⟩, h3⟩, h4⟩, h5⟩) | ⟨⟨⟨⟨⟨rfl, h1⟩, h2⟩, h3⟩, h4⟩, h5⟩
    · exact (gw_word hw h1 (List.all_eq_true.1 h2)).1
    · rw [hwe]; exact (gw_one c h1 h2 h3 h4 h5).1
    · rw [hwe]; exact (gw_two c h1 h2 h3 h4 h5).1
end Lx

namespace Sy

theorem mem_list {α : Type} {f : α → List ByteArray} {w : ByteArray} : ∀ {ks : List α} {i : Nat}, w ∈ listT f i ks → w = ⟨#[44]⟩ ∨ ∃ k ∈ ks, w ∈ f k
  | [], _, h => by simp [listT] at h
  | a :: ks, i, h => by
    rw [listT] at h
    rcases List.mem_append.1 h with h | h
    · rcases List.mem_append.1 h with h | h
      · split at h
        · exact .inl (by simpa using h)
        · simp at h
      · exact .inr ⟨a, by simp, h⟩
    · rcases mem_list h with h | ⟨k, hk, h⟩
      · exact .inl h
      · exact .inr ⟨k, by simp [hk], h⟩
theorem mem_br {f : Ex → List ByteArray} {L : Int} {x : Ex} {w : ByteArray} (h : w ∈ brT f L x) : w = ⟨#[40]⟩ ∨ w = ⟨#[41]⟩ ∨ w ∈ f x := by
  unfold brT at h
  split at h
  · exact .inr (.inr h)
  · rcases List.mem_append.1 h with h | h
    · rcases List.mem_append.1 h with h | h
      · exact .inl (by simpa using h)
      · exact .inr (.inr h)
    · exact .inr (.inl (by simpa using h))
theorem mem_call {f : Ex → List ByteArray} {ah : List ByteArray} {ks : List Ex} {w : ByteArray} (h : w ∈ callT f ah ks) : w ∈ ah ∨ w = ⟨#[40]⟩ ∨ w = ⟨#[41]⟩ ∨ w = ⟨#[44]⟩ ∨ ∃ k ∈ ks, w ∈ f k := by
  unfold callT at h
  rcases List.mem_append.1 h with h | h
  · rcases List.mem_append.1 h with h | h
    · rcases List.mem_append.1 h with h | h
      · exact .inl h
      · exact .inr (.inl (by simpa using h))
    · rcases mem_list h with h | h
      · exact .inr (.inr (.inr (.inl h)))
      · exact .inr (.inr (.inr (.inr h)))
  · exact .inr (.inr (.inl (by simpa using h)))

theorem gw_lp : Lx.Gw ⟨#[40]⟩ := Lx.gwB_ok (by decide)
theorem gw_rp : Lx.Gw ⟨#[41]⟩ := Lx.gwB_ok (by decide)
theorem gw_cm : Lx.Gw ⟨#[44]⟩ := Lx.gwB_ok (by decide)
theorem gw_sc : Lx.Gw ⟨#[59]⟩ := Lx.gwB_ok (by decide)
theorem gw_sign {k : Int} (h : 0 < lev k) : Lx.Gw (sign k) := by
  have hk := (lev_bin h).1
  have hc : k = 6 ∨ k = 7 ∨ k = 8 ∨ k = 9 ∨ k = 10 ∨ k = 11 ∨ k = 12 ∨ k = 13 ∨ k = 14 ∨ k = 15 ∨ k = 16 ∨ k = 17 ∨ k = 18 := by omega
  rcases hc with rfl | rfl | rfl | rfl | rfl | rfl | rfl | rfl | rfl | rfl | rfl | rfl | rfl <;> exact Lx.gwB_ok (by decide)
theorem gw_br {f : Ex → List ByteArray} {L : Int} {x : Ex} (hf : ∀ w ∈ f x, Lx.Gw w) : ∀ w ∈ brT f L x, Lx.Gw w := fun w hw => by
  rcases mem_br hw with rfl | rfl | h
  · exact gw_lp
  · exact gw_rp
  · exact hf w h
theorem gw_call {f : Ex → List ByteArray} {ah : List ByteArray} {ks : List Ex} (ha : ∀ w ∈ ah, Lx.Gw w) (hf : ∀ k ∈ ks, ∀ w ∈ f k, Lx.Gw w) : ∀ w ∈ callT f ah ks, Lx.Gw w := fun w hw => by
  rcases mem_call hw with h | rfl | rfl | rfl | ⟨k, hk, h⟩
  · exact ha w h
  · exact gw_lp
  · exact gw_rp
  · exact gw_cm
  · exact hf k hk w h

theorem ex_words : ∀ (d : Nat) (x : Ex), ExOk d x → ∀ w ∈ exT d x, Lx.Gw w
  | 0, _, h => h.elim
  | d + 1, x, ⟨h1, h2, h3, h4⟩ => by
    obtain ⟨p1, _, p2⟩ := head_nm h3
    have hK : ∀ k ∈ x.kids, ∀ w ∈ exT d k, Lx.Gw w := fun k hk => ex_words d k (h4 k hk)
    intro w hw
    rcases kind_all h1 h2 with hk | hk | hk | hk | hk | hk | hk | hk | hk | hk | hk | hk
    · obtain ⟨a, b, hab⟩ := two_kids h3 (.inl hk)
      rw [exT_bin hk hab] at hw
      rcases List.mem_append.1 hw with hw | hw
      · rcases List.mem_append.1 hw with hw | hw
        · exact gw_br (hK a (by rw [hab]; simp)) w hw
        · rw [List.mem_singleton.1 hw]; exact gw_sign hk
      · exact gw_br (hK b (by rw [hab]; simp)) w hw
    · rw [exT_1 hk] at hw; rw [List.mem_singleton.1 hw]; exact (num_word (p1 hk).1 (p1 hk).2).1
    · rw [exT_2 hk] at hw
      rw [List.mem_singleton.1 hw]
      unfold truthT
      split <;> exact Lx.gwB_ok (by decide)
    · rw [exT_3 hk] at hw; rw [List.mem_singleton.1 hw]; exact (nm_word (p2 (.inl hk))).1
    · obtain ⟨a, ha⟩ := one_kid h3 (by omega)
      rw [exT_4 hk ha] at hw
      rcases List.mem_append.1 hw with hw | hw
      · rw [List.mem_singleton.1 hw]; exact Lx.gwB_ok (by decide)
      · exact gw_br (hK a (by rw [ha]; simp)) w hw
    · obtain ⟨a, ha⟩ := one_kid h3 (by omega)
      rw [exT_5 hk ha] at hw
      rcases List.mem_append.1 hw with hw | hw
      · rw [List.mem_singleton.1 hw]; exact Lx.gwB_ok (by decide)
      · exact gw_br (hK a (by rw [ha]; simp)) w hw
    · rw [exT_19 hk] at hw
      exact gw_call (fun w hw => by rw [List.mem_singleton.1 hw]; exact (nm_word (p2 (.inr (.inl hk)))).1) hK w hw
    · rw [exT_20 hk] at hw
      simp only [List.mem_cons, List.not_mem_nil, or_false] at hw
      rcases hw with rfl | rfl | rfl | rfl
      · exact Lx.gwB_ok (by decide)
      · exact gw_lp
      · exact (nm_word (p2 (.inr (.inr (.inl hk))))).1
      · exact gw_rp
    · rw [exT_21 hk] at hw
      exact gw_call (fun w hw => by rw [List.mem_singleton.1 hw]; exact Lx.gwB_ok (by decide)) hK w hw
    · rw [exT_22 hk] at hw
      refine gw_call (fun w hw => ?_) hK w hw
      simp only [List.mem_cons, List.not_mem_nil, or_false] at hw
      rcases hw with rfl | rfl
      · exact Lx.gwB_ok (by decide)
      · exact (nm_word (p2 (.inr (.inr (.inr hk))))).1
    · rw [exT_23 hk] at hw
      exact gw_call (fun w hw => by rw [List.mem_singleton.1 hw]; exact Lx.gwB_ok (by decide)) hK w hw
    · rw [exT_24 hk] at hw
      exact gw_call (fun w hw => by rw [List.mem_singleton.1 hw]; exact Lx.gwB_ok (by decide)) hK w hw

theorem mem_body {f : St → List ByteArray} {l : List St} {w : ByteArray} (h : w ∈ bodyT f l) : w = ⟨#[123]⟩ ∨ w = ⟨#[125]⟩ ∨ ∃ s ∈ l, w ∈ f s := by
  unfold bodyT at h
  rcases List.mem_append.1 h with h | h
  · rcases List.mem_append.1 h with h | h
    · exact .inl (by simpa using h)
    · obtain ⟨s, hs, h⟩ := List.mem_flatMap.1 h
      exact .inr (.inr ⟨s, hs, h⟩)
  · exact .inr (.inl (by simpa using h))
theorem gw_body {f : St → List ByteArray} {l : List St} (hf : ∀ s ∈ l, ∀ w ∈ f s, Lx.Gw w) : ∀ w ∈ bodyT f l, Lx.Gw w := fun w hw => by
  rcases mem_body hw with rfl | rfl | ⟨s, hs, h⟩
  · exact Lx.gwB_ok (by decide)
  · exact Lx.gwB_ok (by decide)
  · exact hf s hs w h
theorem gw_end {d : Nat} {x : Ex} (hx : ExOk d x) : ∀ w ∈ exT d x ++ [⟨#[59]⟩], Lx.Gw w := fun w hw => by
  rcases List.mem_append.1 hw with hw | hw
  · exact ex_words d x hx w hw
  · rw [List.mem_singleton.1 hw]; exact gw_sc
theorem gw_cons {a : ByteArray} {l : List ByteArray} (ha : Lx.Gw a) (hl : ∀ w ∈ l, Lx.Gw w) : ∀ w ∈ a :: l, Lx.Gw w := fun w hw => by
  rcases List.mem_cons.1 hw with rfl | hw
  · exact ha
  · exact hl w hw
theorem gw_app {a l : List ByteArray} (ha : ∀ w ∈ a, Lx.Gw w) (hl : ∀ w ∈ l, Lx.Gw w) : ∀ w ∈ a ++ l, Lx.Gw w := fun w hw => by
  rcases List.mem_append.1 hw with hw | hw
  · exact ha w hw
  · exact hl w hw
theorem gw_nil : ∀ w ∈ ([] : List ByteArray), Lx.Gw w := fun w hw => by cases hw

theorem st_words : ∀ (d : Nat) (s : St), StRd d s → ∀ w ∈ stT d s, Lx.Gw w
  | 0, _, h => h.elim
  | d + 1, s, ⟨h1, h2, h3, h4, h5, h6⟩ => by
    have hB : ∀ ls : List St, (∀ t ∈ ls, StRd d t) → ∀ w ∈ bodyT (stT d) ls, Lx.Gw w := fun ls hls => gw_body (fun t ht => st_words d t (hls t ht))
    have hk : s.kind = 1 ∨ s.kind = 2 ∨ s.kind = 3 ∨ s.kind = 4 ∨ s.kind = 5 ∨ s.kind = 6 ∨ s.kind = 7 ∨ s.kind = 8 ∨ s.kind = 9 := by omega
    rcases hk with hk | hk | hk | hk | hk | hk | hk | hk | hk
    · rw [stT_1 hk]; exact gw_cons (Lx.gwB_ok (by decide)) (gw_cons (nm_word (h3 (by omega))).1 (gw_cons (Lx.gwB_ok (by decide)) (gw_end (h4 (by omega)))))
    · rw [stT_2 hk]; exact gw_cons (nm_word (h3 (by omega))).1 (gw_cons (Lx.gwB_ok (by decide)) (gw_end (h4 (by omega))))
    · rw [stT_3 hk]
      refine gw_cons (Lx.gwB_ok (by decide)) (gw_app (ex_words d s.x (h4 (by omega))) (gw_app (hB _ (h5 (.inl hk)).2) ?_))
      split
      · exact gw_nil
      · exact gw_cons (Lx.gwB_ok (by decide)) (hB _ (h6 hk).2)
    · rw [stT_4 hk]; exact gw_cons (Lx.gwB_ok (by decide)) (gw_app (ex_words d s.x (h4 (by omega))) (hB _ (h5 (.inr hk)).2))
    · rw [stT_5 hk]; exact gw_cons (Lx.gwB_ok (by decide)) (gw_end (h4 (by omega)))
    · rw [stT_6 hk]; exact gw_cons (Lx.gwB_ok (by decide)) (gw_cons gw_sc gw_nil)
    · rw [stT_7 hk]; exact gw_cons (Lx.gwB_ok (by decide)) (gw_cons (nm_word (h3 (by omega))).1 (gw_end (h4 (by omega))))
    · rw [stT_8 hk]; exact gw_cons (Lx.gwB_ok (by decide)) (gw_end (h4 (by omega)))
    · rw [stT_9 hk]; exact gw_cons (Lx.gwB_ok (by decide)) (gw_end (h4 (by omega)))

theorem ty_words {t : Ty} (h : TyOk t) : ∀ w ∈ tyT t, Lx.Gw w := by
  unfold tyT
  refine gw_cons ?_ gw_nil
  split
  · exact Lx.gwB_ok (by decide)
  split
  · exact Lx.gwB_ok (by decide)
  · exact (nm_word (h.2.2 (by have := h.1; have := h.2.1; omega))).1
theorem pms_words {ps : List Pm} (h : ∀ p ∈ ps, nm p.name = true ∧ TyOk p.ty) : ∀ w ∈ pmsT ps, Lx.Gw w := by
  unfold pmsT
  refine gw_app (gw_cons gw_lp fun w hw => ?_) (gw_cons gw_rp gw_nil)
  rcases mem_list hw with rfl | ⟨p, hp, hw⟩
  · exact gw_cm
  · exact gw_cons (nm_word (h p hp).1).1 (ty_words (h p hp).2) w hw
theorem df_words {d : Df} (hd : DfOk d) : ∀ w ∈ dfT d, Lx.Gw w := by
  have hk : d.kind = 1 ∨ d.kind = 2 ∨ d.kind = 3 ∨ d.kind = 4 := by have := hd.kind; omega
  have hn := (nm_word hd.name).1
  have hB : d.kind ≠ 1 → ∀ w ∈ bodyT (stT 39) d.body, Lx.Gw w := fun h => gw_body (fun s hs => st_words 39 s ((hd.body h).2 s hs))
  rcases hk with hk | hk | hk | hk
  · rw [dfT_b hk]
    have hc := hd.cap hk
    exact gw_cons (Lx.gwB_ok (by decide)) (gw_cons hn (gw_app (ty_words (hd.ty (by omega))) (gw_cons (num_word (by omega) (by omega)).1 (gw_cons gw_sc gw_nil))))
  · rw [dfT_f hk]
    exact gw_cons (Lx.gwB_ok (by decide)) (gw_cons hn (gw_app (pms_words (hd.pms (.inl hk)).2) (gw_app (ty_words (hd.ty (by omega))) (hB (by omega)))))
  · rw [dfT_g hk]
    exact gw_cons (Lx.gwB_ok (by decide)) (gw_cons hn (gw_app (pms_words (hd.pms (.inr hk)).2) (gw_cons (Lx.gwB_ok (by decide)) (gw_app (ty_words (hd.takes hk)) (gw_cons (Lx.gwB_ok (by decide)) (gw_app (ty_words (hd.ty (by omega))) (hB (by omega))))))))
  · rw [dfT_t hk]
    exact gw_cons (Lx.gwB_ok (by decide)) (gw_cons hn (hB (by omega)))
theorem prog_words {ds : List Df} (h : ∀ d ∈ ds, DfOk d) : ∀ w ∈ progT ds, Lx.Gw w := fun w hw => by
  unfold progT at hw
  obtain ⟨d, hd, hw⟩ := List.mem_flatMap.1 hw
  exact df_words (h d hd) w hw

end Sy
end Go.Proofs.YtlnikpcoejpknaaGreatDoor


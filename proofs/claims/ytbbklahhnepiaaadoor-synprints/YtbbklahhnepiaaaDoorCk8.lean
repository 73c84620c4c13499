/- The walks of Wrong's closure, of caught and of Wrong. -/
import Derived.Test.YtbbklahhnepiaaaDoorCk7
namespace Go.Proofs.YtbbklahhnepiaaaDoor
open Go.RowKit

theorem defs_at {l : List Sy.Df} {k : Nat} {d : Sy.Df} (h : l[k]? = some d) (i n : Nat) :
    Sy.defsW (l.drop k) i n = match Sy.dfW d n with | .error e => (e, i) | .ok m => Sy.defsW (l.drop (k + 1)) (i + 1) m := by
  obtain ⟨hk, rfl⟩ := List.getElem?_eq_some_iff.1 h
  rw [List.drop_eq_getElem_cons hk]
  rfl
theorem defs_ok {l : List Sy.Df} {k i n m : Nat} {d : Sy.Df} (h : l[k]? = some d) (hd : Sy.dfW d n = .ok m) : Sy.defsW (l.drop k) i n = Sy.defsW (l.drop (k + 1)) (i + 1) m := by rw [defs_at h, hd]
theorem defs_err {l : List Sy.Df} {k i n : Nat} {d : Sy.Df} {e : Int} (h : l[k]? = some d) (hd : Sy.dfW d n = .error e) : Sy.defsW (l.drop k) i n = (e, i) := by rw [defs_at h, hd]
theorem dfW_le {d : Sy.Df} {n m : Nat} (h : Sy.dfW d n = .ok m) : m ≤ 2000 := by
  unfold Sy.dfW at h
  split at h
  · simp at h
  · rename_i h0
    have hz : Sy.nodeW d.kind 4 40 n = 0 := by
      have h1 : Sy.dfHead d n = 0 := by simpa using h0
      unfold Sy.dfHead at h1
      split at h1
      · rename_i h2; exact absurd h1 h2
      · rename_i h2; simpa using h2
    have := Sy.nodeW_zero hz
    split at h
    · simp at h; omega
    · exact Sy.bodyOf_le (Sy.stW_le 39) (by omega) h
theorem nodeW_range (kind most : Int) (d n : Nat) : 0 ≤ Sy.nodeW kind most d n := by unfold Sy.nodeW; split <;> (try split) <;> omega

theorem grown_new {w w' : World} {o : Obj} (h : (w.alloc o).grownBy w' (some w.heap.size)) : w.grownBy w' none :=
  ⟨h.os, h.tape, h.output, by have := h.size; simp at this; omega, fun k hk _ => (h.block k (by simp; omega) (by simp; omega)).trans (Below.heap_alloc _ _ _ hk)⟩

/-- What comes of a work that may throw a fault. -/
def Thrown (er num : Int) (e : Ending) : Prop := e = if er = 0 then .returned (.tuple #[]) else .panicked [fltE er num]
theorem thrown_ok {er num : Int} (h : er = 0) : Thrown er num (.returned (.tuple #[])) := by unfold Thrown; rw [if_pos h]
theorem thrown_bad {er num k : Int} (h : er = k) (hk : k ≠ 0) : Thrown er num (.panicked [fltE k num]) := by unfold Thrown; rw [h, if_neg hk]

theorem dfW_ne {d : Sy.Df} {n : Nat} {e : Int} (h : Sy.dfW d n = .error e) : e ≠ 0 := by
  have hr : ∀ {α : Type} (f : α → Nat → Except Int Nat), (∀ a n e, f a n = .error e → e ≠ 0) → ∀ (l : List α) (n : Nat) (e : Int), Sy.runs f l n = .error e → e ≠ 0 := by
    intro α f hf l
    induction l with
    | nil => intro n e h; simp [Sy.runs] at h
    | cons a l ih =>
      intro n e h
      unfold Sy.runs at h
      cases ha : f a n with
      | error e' => rw [ha] at h; simp at h; subst h; exact hf a n e' ha
      | ok m => rw [ha] at h; exact ih m e h
  have hx : ∀ (k : Nat) (x : Sy.Ex) (n : Nat) (e : Int), Sy.exW k x n = .error e → e ≠ 0 := by
    intro k
    induction k with
    | zero => intro x n e h; simp [Sy.exW] at h; omega
    | succ k ih =>
      intro x n e h
      unfold Sy.exW at h
      split at h
      · simp at h; subst h; assumption
      · split at h
        · simp at h; subst h; assumption
        · exact hr _ ih _ _ _ h
  have hb : ∀ (f : Sy.St → Nat → Except Int Nat), (∀ a n e, f a n = .error e → e ≠ 0) → ∀ (l : List Sy.St) (n : Nat) (e : Int), Sy.bodyOf f l n = .error e → e ≠ 0 := by
    intro f hf l n e h
    unfold Sy.bodyOf at h
    split at h
    · simp at h; omega
    · exact hr f hf _ _ _ h
  have hs : ∀ (k : Nat) (s : Sy.St) (n : Nat) (e : Int), Sy.stW k s n = .error e → e ≠ 0 := by
    intro k
    induction k with
    | zero => intro x n e h; simp [Sy.stW] at h; omega
    | succ k ih =>
      intro s n e h
      unfold Sy.stW at h
      split at h
      · simp at h; subst h; assumption
      · split at h
        · simp at h; omega
        · split at h
          · simp at h
          · cases he : Sy.exW k s.x (n + 1) with
            | error e' => rw [he] at h; simp at h; subst h; exact hx _ _ _ _ he
            | ok m =>
              rw [he] at h
              simp only [Sy.stTail] at h
              split at h
              · cases hbb : Sy.bodyOf (Sy.stW k) s.body m with
                | error e' => rw [hbb] at h; simp at h; subst h; exact hb _ ih _ _ _ hbb
                | ok m2 =>
                  rw [hbb] at h
                  simp only at h
                  split at h
                  · exact hb _ ih _ _ _ h
                  · simp at h
              · simp at h
  unfold Sy.dfW at h
  split at h
  · simp at h; subst h; assumption
  · split at h
    · simp at h
    · exact hb _ (hs 39) _ _ _ h

set_option maxRecDepth 100000 in
set_option maxHeartbeats 1000000 in
theorem wrongf_any (B L : Nat) (l : List Sy.Df) (a : Option Addr) (c : Nat) (er : Int) (at' : Nat) (w : World) (hL : w.heap[L]? = some (.cells #[.slice a l.length c] 22 (0, 0))) (hX : Hid (DfsIn B w l a)) (hB : B ≤ w.heap.size) (hr : Hid ((er, at') = Sy.wrongL l)) :
    Calls Tryd.prog 15 #[.pointer (some ⟨L, 0, none⟩)] w fun e w' => w.grownBy w' none ∧ Thrown er at' e := by
  have hLl := lt_of_block hL
  have HL : Hid (w.heap[L]? = some (.cells #[.slice a l.length c] 22 (0, 0))) := hL
  have cL := cell_of_one hL
  have hlen := hX.out.1
  unfold maxLen at hlen
  have HC0 : Hid (CK (w.alloc (.cells #[.int .i64 0, .int .i64 0] 52)) w.heap.size 0 0) := heap_alloc_new w _
  clear hL
  by_cases h30 : 30 < l.length
  · have HT : Hid (er = 5 ∧ at' = 0) := by
      have := hr.out; unfold Sy.wrongL at this; rw [if_pos h30] at this; exact ⟨congrArg Prod.fst this, congrArg Prod.snd this⟩
    have HK : Hid ((5 : Int) = if (30 : Int) < (l.length : Int) then 5 else 0) := by rw [if_pos (by omega)]; rfl
    clear h30
    go_enter Tryd.func15, Tryd.ntmps15
    go_wp2_with fail
    refine (Calls.bad0 5 (atMost_any w.heap.size 0 0 l.length 30 5 _ HC0 HK) rfl (by decide)).mono ?_
    rintro e w2 ⟨rfl, hg⟩
    go_wp2
    exact ⟨rfl, alloc_grown hg, by rw [HT.out.2]; exact thrown_bad HT.out.1 (by decide)⟩
  · have HT : Hid ((er, at') = Sy.defsW l 0 0) := by have := hr.out; unfold Sy.wrongL at this; rw [if_neg h30] at this; exact this
    have HK : Hid ((0 : Int) = if (30 : Int) < (l.length : Int) then 5 else 0) := by rw [if_neg (by omega)]; rfl
    clear h30
    go_enter Tryd.func15, Tryd.ntmps15
    go_wp2_with fail
    refine (Calls.ok0 (atMost_any w.heap.size 0 0 l.length 30 0 _ HC0 HK) rfl).mono ?_
    rintro e w2 ⟨rfl, hg⟩
    have HG2 : Hid (w.grownBy w2 none) := alloc_grown hg
    have HC2 : Hid (CK w2 w.heap.size 0 0) := HC0.out.keep hg (by simp)
    have cL2 := cell_of_one (box_on HL.out HG2.out (by simp))
    clear hg
    go_wp2
    go_loopw [9] (fun i wr => ∃ k m : Nat, k ≤ l.length ∧ i = .int .i64 k ∧ m ≤ 2000 ∧ Hid (∃ num, CK wr w.heap.size num m) ∧ Hid (w.grownBy wr none) ∧ Hid ((er, at') = Sy.defsW (l.drop k) k m)) (fun i _ => l.length - (intOf i).toNat)
    case atStart => exact ⟨0, 0, Nat.zero_le _, rfl, Nat.zero_le _, ⟨0, HC2.out⟩, HG2, by rw [List.drop_zero]; exact HT⟩
    case round =>
      obtain ⟨k, m, hk, rfl, hm, HCr, HGr, HRr⟩ := hrel
      clear cL cL2
      by_cases hlt : k < l.length
      · obtain ⟨d, hd⟩ : ∃ d, l[k]? = some d := ⟨_, List.getElem?_eq_getElem hlt⟩
        have HD : Hid (l[k]? = some d) := hd
        obtain ⟨b, off, pa, pc, ba, bc, rfl, hb, c0, c1, c2, c3, c4, c5, c6, c7, c8, hin⟩ := hX.out.2 k d hd
        have hsame := same_grown (B := B) HGr.out (by simp) (by omega)
        rw [← hsame _ _ hb] at c0 c1 c2 c3 c4 c5 c6 c7 c8
        have HIn : Hid (DfIn B wr d pa ba) := hin.same hsame
        clear hin hsame hd
        obtain ⟨num, hck⟩ := HCr.out
        obtain ⟨r2, hr2⟩ : ∃ r2, r2 = Sy.dfW d m := ⟨_, rfl⟩
        have HR2 : Hid (r2 = Sy.dfW d m) := hr2
        have HCk : Hid (CK wr w.heap.size num m) := hck
        have hnz := CK.cells hck
        obtain ⟨q0, q1, q2, q3⟩ := hnz
        have hwr : w.heap.size < wr.heap.size := hck.lt
        clear hr2 HCr hck
        have HC3 : Hid (CK ((wr.setCell ⟨w.heap.size, 0, none⟩ (.int .i64 (k : Int))).alloc (dfO d pa pc ba bc)) w.heap.size k m) := HCk.out.set0.alloc _
        have HG3 : Hid (wr.grownBy ((wr.setCell ⟨w.heap.size, 0, none⟩ (.int .i64 (k : Int))).alloc (dfO d pa pc ba bc)) (some w.heap.size)) := grown_trans (grown_at _ _ _ _) (World.grownBy_alloc _ _ _)
        go_wp2_with fail
        refine (def_any w.heap.size B k hB d pa pc ba bc m r2 _ (HIn.out.same (same_grown HG3.out (by intro c e; cases e; exact hB) (by omega))) HC3 hm HR2).mono ?_
        rintro e w3 ⟨hg, hf⟩
        have HG4 : Hid (w.grownBy w3 none) := by
          have h1 := grown_trans HG3.out hg
          exact ⟨h1.os.trans HGr.out.os, h1.tape.trans HGr.out.tape, h1.output.trans HGr.out.output, Nat.le_trans HGr.out.size h1.size, fun j hj _ => (h1.block j (by have := HGr.out.size; omega) (by simp; omega)).trans (HGr.out.block j hj (by simp))⟩
        cases r2 with
        | ok m2 =>
          obtain ⟨rfl, hck⟩ := hf
          have HC4 : Hid (∃ num, CK w3 w.heap.size num m2) := ⟨_, hck⟩
          have hm2 : m2 ≤ 2000 := dfW_le HR2.out.symm
          have HR3 : Hid ((er, at') = Sy.defsW (l.drop (k + 1)) (k + 1) m2) := HRr.out.trans (defs_ok HD.out HR2.out.symm)
          clear hg hck c0 c1 c2 c3 c4 c5 c6 c7 c8 q0 q1 q2 q3
          go_wp2
          go_roundw
          case rel => exact ⟨k + 1, m2, by omega, by go_num, hm2, HC4, HG4, HR3⟩
          case measure => simp [intOf]; omega
        | error er2 =>
          obtain rfl : e = .panicked [fltE er2 k] := hf
          have HR3 : Hid (er = er2 ∧ at' = k) := by
            have := HRr.out.trans (defs_err HD.out HR2.out.symm)
            exact ⟨congrArg Prod.fst this, congrArg Prod.snd this⟩
          have hne : Hid (er2 ≠ 0) := dfW_ne HR2.out.symm
          clear hg c0 c1 c2 c3 c4 c5 c6 c7 c8 q0 q1 q2 q3
          go_wp2
          exact ⟨rfl, HG4.out, by rw [HR3.out.2]; exact thrown_bad HR3.out.1 hne.out⟩
      · have HR3 : Hid (er = 0 ∧ at' = 0) := by
          have := HRr.out
          rw [List.drop_of_length_le (by omega)] at this
          exact ⟨congrArg Prod.fst this, congrArg Prod.snd this⟩
        go_wp2
        go_end0
        exact ⟨HGr.out, thrown_ok HR3.out.1⟩

theorem assert_fault (v : Value) (w : World) : (Instr.typeAssert (.iface 25 v) 20 25 false).run Tryd.prog w = .ok v w := by kernel_rfl

set_option maxRecDepth 100000 in
set_option maxHeartbeats 400000 in
theorem catch_thrown (F : Nat) (er num : Int) (older : List PanicEntry) (w : World) (hF : w.heap[F]? = some (.cells #[.int .i64 0, .int .i64 0] 25 (0, 0))) :
    CallsD Tryd.prog 26 #[.pointer (some ⟨F, 0, none⟩)] (.panicking (fltE er num :: older)) w fun e u' w' =>
      e = .returned (.tuple #[]) ∧ u' = .panicking ({ v := .iface 25 (.agg #[.int .i64 er, .int .i64 num]), recovered := true } :: older) ∧ w' = (w.setCell ⟨F, 0, none⟩ (.int .i64 er)).setCell ⟨F, 1, none⟩ (.int .i64 num) := by
  obtain ⟨c0, c1, f0, f1⟩ := two_cell hF
  refine callsD_of_wpS Tryd.func26 rfl fun c₀ cs hu => ?_
  apply wpS_seq
  apply wpS_region
  simp [wpOpsS, go_sem, recoverD, hu, Tryd.ntmps26, Exit.thenS]
  apply wpS_seq
  apply wpS_region
  simp [wpOpsS, go_sem, Exit.thenS]
  refine wpS_cond (t := true) (by simp [Act.eval, Array.replicate]) ?_
  simp only [if_true]
  apply wpS_region
  simp [wpOpsS, go_sem, assert_fault, c0, c1, f0, f1, bodyPostS, results, Tryd.results26]

set_option maxHeartbeats 400000 in
theorem catch_none (F : Nat) (w : World) :
    CallsD Tryd.prog 26 #[.pointer (some ⟨F, 0, none⟩)] .returning w fun e u' w' => e = .returned (.tuple #[]) ∧ u' = .returning ∧ w' = w := by
  refine callsD_of_wpS Tryd.func26 rfl fun c₀ cs hu => ?_
  apply wpS_seq
  apply wpS_region
  simp [wpOpsS, go_sem, recoverD, hu, Tryd.ntmps26, Exit.thenS]
  apply wpS_seq
  apply wpS_region
  simp [wpOpsS, go_sem, Exit.thenS]
  refine wpS_cond (t := false) (by simp [Act.eval, Array.replicate]) ?_
  simp only [Bool.false_eq_true, if_false]
  refine wpS_of_wp (wp_skip ?_)
  cases c₀
  simp_all [bodyPostS, results, Tryd.results26]

end Go.Proofs.YtbbklahhnepiaaaDoor

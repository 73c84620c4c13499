/- A right module without some of its tasks is right, plainly. -/
import Derived.Test.YtbkimpimoclobaaM36
namespace Go.Proofs.Ytbkimpimoclobaa
namespace Vf

/-- A task that puts a number out. -/
def smallU : Un := ⟨4, 0, [], 0, 0, [⟨1, 0, 1⟩, ⟨28, 0, 0⟩, ⟨25, 0, 0⟩]⟩
/-- Right modules. -/
theorem right_iff {m : Md} : verify m = (0, 0, 0) ↔ ∀ k, k < 6 → (looks m k).1 = 0 := by
  have key : ∀ n k, (from' m n k = (0, 0, 0) → ∀ j, k ≤ j → j < k + n → (looks m j).1 = 0) ∧ ((∀ j, k ≤ j → j < k + n → (looks m j).1 = 0) → from' m n k = (0, 0, 0)) := by
    intro n
    induction n with
    | zero => intro k; exact ⟨fun _ j h1 h2 => by omega, fun _ => rfl⟩
    | succ n ih =>
      intro k
      have ih' := ih (k + 1)
      refine ⟨fun h j h1 h2 => ?_, fun h => ?_⟩
      · unfold from' at h
        split at h
        · rename_i h0
          by_cases hj : j = k
          · rw [hj]; exact h0
          · exact ih'.1 h j (by omega) (by omega)
        · rename_i h0
          exact absurd (by rw [h]) h0
      · unfold from'
        rw [if_pos (h k (Nat.le_refl _) (by omega))]
        exact ih'.2 (fun j h1 h2 => h j (by omega) (by omega))
  exact ⟨fun h k hk => (key 6 0).1 h k (Nat.zero_le _) (by omega), fun h => (key 6 0).2 (fun j _ hj => h j (by omega))⟩
theorem each_zero {f : Un → Int × Nat} : ∀ (l : List Un) (k : Nat), (∀ u ∈ l, (f u).1 = 0) → (eachW f l k).1 = 0
  | [], _, _ => rfl
  | u :: l, k, h => by
    unfold eachW
    rw [if_pos (h u List.mem_cons_self)]
    exact each_zero l (k + 1) (fun v hv => h v (List.mem_cons_of_mem _ hv))
theorem first_zero {α : Type} {f : α → Int} : ∀ (l : List α) (k : Nat), (∀ x ∈ l, f x = 0) → (firstE f l k).1 = 0
  | [], _, _ => rfl
  | u :: l, k, h => by
    unfold firstE
    rw [if_pos (h u List.mem_cons_self)]
    exact first_zero l (k + 1) (fun v hv => h v (List.mem_cons_of_mem _ hv))
theorem shape_zero {m : Md} {u : Un} (h : headE m u = 0) (hf : Forms m u) : (shapeF m u).1 = 0 := by
  unfold shapeF
  rw [if_pos h]
  exact first_zero _ _ hf

/-- Modules of which one has tasks more or other ones: all else is the same. -/
structure Like (m n : Md) : Prop where
  boxes : n.boxes = m.boxes
  len : n.units.length = m.units.length
  same : ∀ (k : Nat) (u v : Un), m.units[k]? = some u → n.units[k]? = some v → v = u ∨ (u.kind = 4 ∧ v = smallU)
theorem Like.at {m n : Md} (h : Like m n) {k : Nat} {v : Un} (hv : n.units[k]? = some v) : ∃ u, m.units[k]? = some u ∧ (v = u ∨ (u.kind = 4 ∧ v = smallU)) := by
  have hk : k < m.units.length := by rw [← h.len]; exact (List.getElem?_eq_some_iff.1 hv).1
  exact ⟨_, List.getElem?_eq_getElem hk, h.same k _ v (List.getElem?_eq_getElem hk) hv⟩
theorem Like.is {m n : Md} (h : Like m n) (kd a : Int) : Vf.is n kd a = Vf.is m kd a := by
  unfold Vf.is
  cases hn : n.units[a.toNat]? with
  | none =>
    have : m.units[a.toNat]? = none := by
      rw [List.getElem?_eq_none_iff] at hn ⊢
      rw [← h.len]
      exact hn
    rw [this]
  | some v =>
    obtain ⟨u, hu, h1 | ⟨h1, h2⟩⟩ := h.at hn
    · rw [hu, h1]
    · rw [hu, h2]
      simp [smallU, h1]
theorem Like.unit {m n : Md} (h : Like m n) {kd a : Int} (hk : kd ≠ 4) (hi : Vf.is m kd a = true) : Vf.unit n a = Vf.unit m a := by
  obtain ⟨u, hu, hkd, h0⟩ := is_some hi
  have hi' : Vf.is n kd a = true := by rw [h.is]; exact hi
  obtain ⟨v, hv, hkv, _⟩ := is_some hi'
  unfold Vf.unit
  rw [hu, hv]
  rcases h.same _ u v hu hv with h1 | ⟨h1, _⟩
  · rw [h1]
  · exact absurd (hkd.symm.trans h1) hk
theorem Like.headE {m n : Md} (h : Like m n) (u : Un) : Vf.headE n u = Vf.headE m u := by
  unfold Vf.headE Vf.typed
  have : (fun t => plain t || Vf.is n 3 (t - 10)) = fun t => plain t || Vf.is m 3 (t - 10) := by funext t; rw [h.is]
  rw [this]
theorem Like.ranged {m n : Md} (h : Like m n) (u : Un) (c : Ins) : Vf.ranged n u c = Vf.ranged m u c := by
  unfold Vf.ranged
  rw [h.is, h.is, h.boxes]
theorem Like.formE {m n : Md} (h : Like m n) (u : Un) (c : Ins) : Vf.formE n u c = Vf.formE m u c := by
  unfold Vf.formE
  rw [h.ranged]

/-- Of a right instruction: what is done with the stack is the same. -/
theorem Like.reckS {m n : Md} (h : Like m n) {u : Un} {c : Ins} (hf : Vf.formE m u c = 0) {k : Kn} (hk : Gens m k.st) : Vf.reckS n u c k = Vf.reckS m u c k := by
  obtain ⟨_, _, hrg⟩ := formE_zero hf
  have hsp : Vf.speak n u c k.st = Vf.speak m u c k.st := by
    unfold Vf.speak
    by_cases h23 : c.op = 23
    · have h2 : Vf.is m 2 c.a = true := by
        rw [← hrg]
        unfold Vf.ranged
        rw [if_neg (by omega), if_neg (by omega), if_neg (by omega), if_pos h23]
      rw [if_pos h23, if_pos h23]
      unfold Vf.params
      rw [h.unit (by decide) h2]
    · rw [if_neg h23, if_neg h23]
      by_cases h29 : c.op = 29
      · have h2 : Vf.is m 3 c.a = true := by
          rw [← hrg]
          unfold Vf.ranged
          rw [if_neg (by omega), if_neg (by omega), if_neg (by omega), if_neg (by omega), if_pos h29]
        rw [if_pos h29, if_pos h29]
        unfold Vf.params
        rw [h.unit (by decide) h2]
      · rw [if_neg h29, if_neg h29]
        have hb : Vf.boxTy n c.a = Vf.boxTy m c.a := by unfold Vf.boxTy; rw [h.boxes]
        rw [hb]
        have hres : Vf.resume n k.st = Vf.resume m k.st := by
          unfold Vf.resume
          cases hst : k.st with
          | nil => rfl
          | cons p st1 =>
            show Vf.andThen (popGen st1) _ = Vf.andThen (popGen st1) _
            cases st1 with
            | nil => rfl
            | cons g st2 =>
              unfold popGen pop
              show Vf.andThen (if 10 ≤ g then Except.ok (g, st2) else Except.error 9) _ = Vf.andThen (if 10 ≤ g then Except.ok (g, st2) else Except.error 9) _
              by_cases hg : 10 ≤ g
              · rw [if_pos hg]
                have hgm : g ∈ k.st := by rw [hst]; simp
                rcases hk g hgm with h1 | ⟨_, h1⟩
                · unfold plain at h1; simp at h1; omega
                · show Vf.andThen (Vf.must (p == (Vf.unit n (g - 10)).takes) 9 st2) (Vf.put (Vf.unit n (g - 10)).result) = Vf.andThen (Vf.must (p == (Vf.unit m (g - 10)).takes) 9 st2) (Vf.put (Vf.unit m (g - 10)).result)
                  rw [h.unit (by decide) h1]
              · rw [if_neg hg]
                rfl
        rw [hres]
  unfold Vf.reckS
  rw [hsp]
theorem Like.look {m n : Md} (h : Like m n) {u : Un} (hf : Forms m u) {i : Nat} {s : S} (hI : Inv m u s ∨ ∀ k, s.come i = some k → Gens m k.st) : Vf.look n u i s = Vf.look m u i s := by
  unfold Vf.look
  cases hc : s.come i with
  | none => rfl
  | some k =>
    cases hx : u.code[i]? with
    | none => rfl
    | some c =>
      have hg : Gens m k.st := by
        rcases hI with hI | hI
        · exact (hI.come i k hc).2.1
        · exact hI k hc
      show Vf.andThen (Vf.reck n u c k) _ = Vf.andThen (Vf.reck m u c k) _
      unfold Vf.reck
      rw [h.reckS (hf c (List.mem_of_getElem? hx)) hg]
theorem look_inv {m : Md} {u : Un} (hR : Rt m) (hu : Vf.headE m u = 0) (hf : Forms m u) {i : Nat} {row : List Nat} {come : Nat → Option Kn} {s' : S} (hI : Inv m u ⟨come, i :: row⟩) (h : Vf.look m u i ⟨come, row⟩ = .ok s') : Inv m u s' := by
  have hI2 : Inv m u ⟨come, row⟩ := ⟨hI.come, fun j hj => hI.row j (List.mem_cons_of_mem _ hj)⟩
  unfold Vf.look at h
  split at h
  · rename_i k c hk hc
    unfold Vf.andThen at h
    split at h
    · cases h
    · rename_i k' hk'
      have hok := hI.come i k hk
      have hfm := hf c (List.mem_of_getElem? hc)
      exact goAll_inv (reck_ok hR hu hfm hok.2 hk') hI2 (goes_nn hfm i) h
  · cases h
    exact hI2
theorem Like.flow {m n : Md} (h : Like m n) {u : Un} (hR : Rt m) (hu : Vf.headE m u = 0) (hf : Forms m u) : ∀ (f : Nat) (s : S), Inv m u s → Vf.flow n u f s = Vf.flow m u f s
  | 0, _, _ => rfl
  | f + 1, ⟨come, []⟩, _ => rfl
  | f + 1, ⟨come, i :: row⟩, hI => by
    have hl := h.look hf (i := i) (s := ⟨come, row⟩) (.inr (fun k hk => (hI.come i k hk).2.1))
    unfold Vf.flow
    simp only
    rw [hl]
    cases hr : Vf.look m u i ⟨come, row⟩ with
    | error e => rfl
    | ok s' => exact h.flow hR hu hf f s' (look_inv hR hu hf hI hr)
theorem start_inv {m : Md} {u : Un} (hu : Vf.headE m u = 0) : Inv m u (start u) := by
  obtain ⟨_, _, _, _, h5, _⟩ := sized_true (headE_zero hu).2.1
  exact note_inv ⟨fun i k hk => (by cases hk), fun i hi => (by cases hi)⟩ h5 ⟨fun t ht => (by cases ht), by simp⟩
theorem Like.flowF {m n : Md} (h : Like m n) {u : Un} (hR : Rt m) (hu : Vf.headE m u = 0) (hf : Forms m u) : Vf.flowF n u = Vf.flowF m u := h.flow hR hu hf _ _ (start_inv hu)

/-- The small task's own. -/
theorem small_head (m : Md) : Vf.headE m smallU = 0 := rfl
theorem small_forms (m : Md) : Forms m smallU := by
  intro c hc
  simp [smallU] at hc
  rcases hc with rfl | rfl | rfl <;> rfl
theorem small_gat (m : Md) (f : Nat) (n : Int) (hn : Vf.unit m n = smallU) (l : LL) : gat m f n l = l := by
  cases f with
  | zero => rfl
  | succ f =>
    show gatC (gat m f) (Vf.unit m n).code l = l
    rw [hn]
    rfl

end Vf
end Go.Proofs.Ytbkimpimoclobaa


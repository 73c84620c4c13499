/- WHAT verify.Verify ANSWERS. -/
import Derived.Test.YtekjhefmhhcboaaGreatM27
import Derived.Test.YtekjhefmhhcboaaGreatM11
namespace Go.Proofs.YtekjhefmhhcboaaGreat
open Go.RowKit
namespace Vf
def looks (m : Md) : Nat → Int × Int × Int
 | 0 => (sizesE m, 0, 0)
 | 1 => ((boxesW m).1, 0, ((boxesW m).2 : Int))
 | 2 => eachW (shapeF m) m.units 0
 | 3 => (tasksE m, 0, 0)
 | 4 => eachW (flowF m) m.units 0
 | _ => ((ownersW m).1, 0, ((ownersW m).2 : Int))
def from' (m : Md) : Nat → Nat → Int × Int × Int
 | 0, _ => (0, 0, 0)
 | n + 1, k => if (looks m k).1 = 0 then from' m n (k + 1) else looks m k
def verify (m : Md) : Int × Int × Int := from' m 6 0
theorem each_all (f : Un → Int × Nat) : ∀ (l : List Un) (k : Nat), (eachW f l k).1 = 0 → ∀ u ∈ l, (f u).1 = 0
 | [], _, _, u, hu => by cases hu
 | v :: l, k, h, u, hu => by
  unfold eachW at h
  split at h
  ·rename_i h0
   rcases List.mem_cons.1 hu with rfl | hu
   ·exact h0
   ·exact each_all f l (k + 1) h u hu
  ·rename_i h0
   exact absurd h h0
theorem first_all {α : Type} (f : α → Int) : ∀ (l : List α) (k : Nat), (firstE f l k).1 = 0 → ∀ x ∈ l, f x = 0
 | [], _, _, u, hu => by cases hu
 | v :: l, k, h, u, hu => by
  unfold firstE at h
  split at h
  ·rename_i h0
   rcases List.mem_cons.1 hu with rfl | hu
   ·exact h0
   ·exact first_all f l (k + 1) h u hu
  ·rename_i h0
   exact absurd h h0
theorem shape_right {m : Md} {u : Un} (h : (shapeF m u).1 = 0) : headE m u = 0 ∧ Forms m u := by
 unfold shapeF at h
 split at h
 ·rename_i h0
  exact ⟨h0, fun c hc => first_all _ _ _ h c hc⟩
 ·rename_i h0
  exact absurd h h0
end Vf
theorem rt_of {m : Vf.Md} (h0 : (Vf.looks m 0).1 = 0) (h1 : (Vf.looks m 1).1 = 0) (h2 : (Vf.looks m 2).1 = 0) : Rt m ∧ m.boxes.length ≤ 30 := by
 have h0' : Vf.sizesE m = 0 := h0
 unfold Vf.sizesE at h0'
 split at h0'
 ·cases h0'
 ·rename_i hs
  refine ⟨⟨by omega, fun k b hb => ?_, fun k u hu => Vf.shape_right (Vf.each_all _ _ _ h2 u (List.mem_of_getElem? hu))⟩, by omega⟩
  have := Vf.first_all _ _ _ (show (Vf.firstE Vf.boxE m.boxes 0).1 = 0 from h1) b (List.mem_of_getElem? hb)
  unfold Vf.boxE at this
  split at this
  ·cases this
  ·rename_i hp
   simpa using hp
end Go.Proofs.YtekjhefmhhcboaaGreat
namespace Go.Proofs.YtekjhefmhhcboaaGreat
namespace Vf
def smallU : Un := ⟨4, 0, [], 0, 0, [⟨1, 0, 1⟩, ⟨28, 0, 0⟩, ⟨25, 0, 0⟩]⟩
theorem right_iff {m : Md} : verify m = (0, 0, 0) ↔ ∀ k, k < 6 → (looks m k).1 = 0 := by
 have key : ∀ n k, (from' m n k = (0, 0, 0) → ∀ j, k ≤ j → j < k + n → (looks m j).1 = 0) ∧ ((∀ j, k ≤ j → j < k + n → (looks m j).1 = 0) → from' m n k = (0, 0, 0)) := by
  intro n
  induction n with
  | zero => intro k; exact ⟨fun _ j h1 h2 => by omega, fun _ => rfl⟩
  | succ n ih =>
   intro k
   have ih' := ih (k + 1)
   refine ⟨fun h j h1 h2 => ?_, fun h => ?_⟩
   ·unfold from' at h
    split at h
    ·rename_i h0
     by_cases hj : j = k
     ·rw [hj]; exact h0
     ·exact ih'.1 h j (by omega) (by omega)
    ·rename_i h0
     exact absurd (by rw [h]) h0
   ·unfold from'
    rw [if_pos (h k (Nat.le_refl _) (by omega))]
    exact ih'.2 (fun j h1 h2 => h j (by omega) (by omega))
 exact ⟨fun h k hk => (key 6 0).1 h k (Nat.zero_le _) (by omega), fun h => (key 6 0).2 (fun j _ hj => h j (by omega))⟩
structure Like (m n : Md) : Prop where
 boxes : n.boxes = m.boxes
 len : n.units.length = m.units.length
 same : ∀ (k : Nat) (u v : Un), m.units[k]? = some u → n.units[k]? = some v → v = u ∨ (u.kind = 4 ∧ v = smallU)
theorem Like.at {m n : Md} (h : Like m n) {k : Nat} {v : Un} (hv : n.units[k]? = some v) : ∃ u, m.units[k]? = some u ∧ (v = u ∨ (u.kind = 4 ∧ v = smallU)) := by
 have hk : k < m.units.length := by rw [← h.len]; exact (List.getElem?_eq_some_iff.1 hv).1
 exact ⟨_, List.getElem?_eq_getElem hk, h.same k _ v (List.getElem?_eq_getElem hk) hv⟩
theorem Like.is {m n : Md} (h : Like m n) (kd a : Int) : Vf.is n kd a = Vf.is m kd a := by
 unfold Vf.is
 cases hn : n.units[a.toNat]? with
 | none =>
  have : m.units[a.toNat]? = none := by
   rw [List.getElem?_eq_none_iff] at hn ⊢
   rw [← h.len]
   exact hn
  rw [this]
 | some v =>
  obtain ⟨u, hu, h1 | ⟨h1, h2⟩⟩ := h.at hn
  ·rw [hu, h1]
  ·rw [hu, h2]
   simp [smallU, h1]
theorem Like.unit {m n : Md} (h : Like m n) {kd a : Int} (hk : kd ≠ 4) (hi : Vf.is m kd a = true) : Vf.unit n a = Vf.unit m a := by
 obtain ⟨u, hu, hkd, h0⟩ := is_some hi
 have hi' : Vf.is n kd a = true := by rw [h.is]; exact hi
 obtain ⟨v, hv, hkv, _⟩ := is_some hi'
 unfold Vf.unit
 rw [hu, hv]
 rcases h.same _ u v hu hv with h1 | ⟨h1, _⟩
 ·rw [h1]
 ·exact absurd (hkd.symm.trans h1) hk
theorem Like.headE {m n : Md} (h : Like m n) (u : Un) : Vf.headE n u = Vf.headE m u := by
 unfold Vf.headE Vf.typed
 have : (fun t => plain t || Vf.is n 3 (t - 10)) = fun t => plain t || Vf.is m 3 (t - 10) := by funext t; rw [h.is]
 rw [this]
theorem Like.ranged {m n : Md} (h : Like m n) (u : Un) (c : Ins) : Vf.ranged n u c = Vf.ranged m u c := by
 unfold Vf.ranged
 rw [h.is, h.is, h.boxes]
theorem Like.formE {m n : Md} (h : Like m n) (u : Un) (c : Ins) : Vf.formE n u c = Vf.formE m u c := by
 unfold Vf.formE
 rw [h.ranged]
theorem Like.reckS {m n : Md} (h : Like m n) {u : Un} {c : Ins} (hf : Vf.formE m u c = 0) {k : Kn} (hk : Gens m k.st) : Vf.reckS n u c k = Vf.reckS m u c k := by
 obtain ⟨_, _, hrg⟩ := formE_zero hf
 have hsp : Vf.speak n u c k.st = Vf.speak m u c k.st := by
  unfold Vf.speak
  by_cases h23 : c.op = 23
  ·have h2 : Vf.is m 2 c.a = true := by
    rw [← hrg]
    unfold Vf.ranged
    rw [if_neg (by omega), if_neg (by omega), if_neg (by omega), if_pos h23]
   rw [if_pos h23, if_pos h23]
   unfold Vf.params
   rw [h.unit (by decide) h2]
  ·rw [if_neg h23, if_neg h23]
   by_cases h29 : c.op = 29
   ·have h2 : Vf.is m 3 c.a = true := by
     rw [← hrg]
     unfold Vf.ranged
     rw [if_neg (by omega), if_neg (by omega), if_neg (by omega), if_neg (by omega), if_pos h29]
    rw [if_pos h29, if_pos h29]
    unfold Vf.params
    rw [h.unit (by decide) h2]
   ·rw [if_neg h29, if_neg h29]
    have hb : Vf.boxTy n c.a = Vf.boxTy m c.a := by unfold Vf.boxTy; rw [h.boxes]
    rw [hb]
    have hres : Vf.resume n k.st = Vf.resume m k.st := by
     unfold Vf.resume
     cases hst : k.st with
     | nil => rfl
     | cons p st1 =>
      show Vf.andThen (popGen st1) _ = Vf.andThen (popGen st1) _
      cases st1 with
      | nil => rfl
      | cons g st2 =>
       unfold popGen pop
       show Vf.andThen (if 10 ≤ g then Except.ok (g, st2) else Except.error 9) _ = Vf.andThen (if 10 ≤ g then Except.ok (g, st2) else Except.error 9) _
       by_cases hg : 10 ≤ g
       ·rw [if_pos hg]
        have hgm : g ∈ k.st := by rw [hst]; simp
        rcases hk g hgm with h1 | ⟨_, h1⟩
        ·unfold plain at h1; simp at h1; omega
        ·show Vf.andThen (Vf.must (p == (Vf.unit n (g - 10)).takes) 9 st2) (Vf.put (Vf.unit n (g - 10)).result) = Vf.andThen (Vf.must (p == (Vf.unit m (g - 10)).takes) 9 st2) (Vf.put (Vf.unit m (g - 10)).result)
         rw [h.unit (by decide) h1]
       ·rw [if_neg hg]
        rfl
    rw [hres]
 unfold Vf.reckS
 rw [hsp]
theorem Like.look {m n : Md} (h : Like m n) {u : Un} (hf : Forms m u) {i : Nat} {s : S} (hI : Inv m u s ∨ ∀ k, s.come i = some k → Gens m k.st) : Vf.look n u i s = Vf.look m u i s := by
 unfold Vf.look
 cases hc : s.come i with
 | none => rfl
 | some k =>
  cases hx : u.code[i]? with
  | none => rfl
  | some c =>
   have hg : Gens m k.st := by
    rcases hI with hI | hI
    ·exact (hI.come i k hc).2.1
    ·exact hI k hc
   show Vf.andThen (Vf.reck n u c k) _ = Vf.andThen (Vf.reck m u c k) _
   unfold Vf.reck
   rw [h.reckS (hf c (List.mem_of_getElem? hx)) hg]
theorem look_inv {m : Md} {u : Un} (hR : Rt m) (hu : Vf.headE m u = 0) (hf : Forms m u) {i : Nat} {row : List Nat} {come : Nat → Option Kn} {s' : S} (hI : Inv m u ⟨come, i :: row⟩) (h : Vf.look m u i ⟨come, row⟩ = .ok s') : Inv m u s' := by
 have hI2 : Inv m u ⟨come, row⟩ := ⟨hI.come, fun j hj => hI.row j (List.mem_cons_of_mem _ hj)⟩
 unfold Vf.look at h
 split at h
 ·rename_i k c hk hc
  unfold Vf.andThen at h
  split at h
  ·cases h
  ·rename_i k' hk'
   have hok := hI.come i k hk
   have hfm := hf c (List.mem_of_getElem? hc)
   exact goAll_inv (reck_ok hR hu hfm hok.2 hk') hI2 (goes_nn hfm i) h
 ·cases h
  exact hI2
theorem Like.flow {m n : Md} (h : Like m n) {u : Un} (hR : Rt m) (hu : Vf.headE m u = 0) (hf : Forms m u) : ∀ (f : Nat) (s : S), Inv m u s → Vf.flow n u f s = Vf.flow m u f s
 | 0, _, _ => rfl
 | f + 1, ⟨come, []⟩, _ => rfl
 | f + 1, ⟨come, i :: row⟩, hI => by
  have hl := h.look hf (i := i) (s := ⟨come, row⟩) (.inr (fun k hk => (hI.come i k hk).2.1))
  unfold Vf.flow
  simp only
  rw [hl]
  cases hr : Vf.look m u i ⟨come, row⟩ with
  | error e => rfl
  | ok s' => exact h.flow hR hu hf f s' (look_inv hR hu hf hI hr)
theorem start_inv {m : Md} {u : Un} (hu : Vf.headE m u = 0) : Inv m u (start u) := by
 obtain ⟨_, _, _, _, h5, _⟩ := sized_true (headE_zero hu).2.1
 exact note_inv ⟨fun i k hk => (by cases hk), fun i hi => (by cases hi)⟩ h5 ⟨fun t ht => (by cases ht), by simp⟩
theorem Like.flowF {m n : Md} (h : Like m n) {u : Un} (hR : Rt m) (hu : Vf.headE m u = 0) (hf : Forms m u) : Vf.flowF n u = Vf.flowF m u := h.flow hR hu hf _ _ (start_inv hu)
end Vf
namespace Vm
open Vf
theorem put_out (t : Tk) (v : Int) : (t.put v).out = t.out ∧ ((t.put v).over = t.over ∨ (t.put v).over = 5) := by
 unfold Tk.put
 split
 ·exact ⟨rfl, .inr rfl⟩
 ·exact ⟨rfl, .inl rfl⟩
theorem call_out (m : Md) (t : Tk) (n : Nat) : (t.call m n).out = t.out ∧ ((t.call m n).over = t.over ∨ (t.call m n).over = 5) := by
 unfold Tk.call
 split
 ·exact ⟨rfl, .inr rfl⟩
 ·split
  ·exact ⟨rfl, .inl rfl⟩
  ·exact ⟨rfl, .inr rfl⟩
theorem start_out (m : Md) (t : Tk) (n : Nat) : (t.start m n).out = t.out ∧ ((t.start m n).over = t.over ∨ (t.start m n).over = 5) := by
 unfold Tk.start
 split
 ·exact ⟨rfl, .inr rfl⟩
 ·exact ⟨(put_out _ _).1, (put_out _ _).2⟩
theorem give_out (t : Tk) (s : Nat) (v : Int) : (t.give s v).out = t.out ∧ ((t.give s v).over = t.over ∨ (t.give s v).over = 5) := by
 unfold Tk.give
 exact ⟨(put_out _ _).1, (put_out _ _).2⟩
theorem fin_out (t : Tk) : t.fin.out = t.out ∧ (t.fin.over = t.over ∨ t.fin.over = 4 ∨ t.fin.over = 5) := by
 unfold Tk.fin
 split
 ·exact ⟨rfl, .inr (.inl rfl)⟩
 ·exact ⟨(give_out _ _ _).1, (give_out _ _ _).2.imp id .inr⟩
theorem resume_out (t : Tk) : t.resume.out = t.out ∧ (t.resume.over = t.over ∨ t.resume.over = 5) := by
 unfold Tk.resume
 dsimp only
 split
 ·exact ⟨rfl, .inr rfl⟩
 ·split
  ·exact ⟨rfl, .inr rfl⟩
  ·split
   ·exact ⟨(put_out _ _).1, (put_out _ _).2⟩
   ·exact ⟨rfl, .inl rfl⟩
theorem reckon_out (t : Tk) (op : Int) : (t.reckon op).out = t.out ∧ ((t.reckon op).over = t.over ∨ (t.reckon op).over = 5) := by
 unfold Tk.reckon
 split
 ·exact ⟨rfl, .inr rfl⟩
 ·exact ⟨(put_out _ _).1, (put_out _ _).2⟩
theorem act_out (m : Md) (c : Ins) (t : Tk) (rv : Int) : (t.act m c rv).out = (if c.op = 28 then t.out ++ [t.last] else t.out) ∧ ((t.act m c rv).over = t.over ∨ (t.act m c rv).over = 4 ∨ (t.act m c rv).over = 5) := by
 have p : ∀ {a b : Tk}, b.out = a.out ∧ (b.over = a.over ∨ b.over = 5) → a.out = t.out → a.over = t.over → c.op ≠ 28 → b.out = (if c.op = 28 then t.out ++ [t.last] else t.out) ∧ (b.over = t.over ∨ b.over = 4 ∨ b.over = 5) := fun h e1 e2 e3 => by
  rw [if_neg e3, ← e1, ← e2]
  exact ⟨h.1, h.2.imp id .inr⟩
 unfold Tk.act
 by_cases h1 : c.op = 1
 ·rw [if_pos h1]; exact p (put_out _ _) rfl rfl (by omega)
 rw [if_neg h1]
 by_cases h2 : c.op = 2
 ·rw [if_pos h2]; exact p (put_out _ _) rfl rfl (by omega)
 rw [if_neg h2]
 by_cases h3 : c.op = 3
 ·rw [if_pos h3]; exact p (put_out _ _) rfl rfl (by omega)
 rw [if_neg h3]
 by_cases h4 : c.op = 4
 ·rw [if_pos h4]; exact p (a := t) ⟨rfl, .inl rfl⟩ rfl rfl (by omega)
 rw [if_neg h4]
 by_cases h5 : c.op = 5
 ·rw [if_pos h5]; exact p (a := t) ⟨rfl, .inl rfl⟩ rfl rfl (by omega)
 rw [if_neg h5]
 by_cases h6 : c.op = 6
 ·rw [if_pos h6]; exact p (put_out _ _) rfl rfl (by omega)
 rw [if_neg h6]
 by_cases h7 : c.op = 7
 ·rw [if_pos h7]; exact p (put_out _ _) rfl rfl (by omega)
 rw [if_neg h7]
 by_cases h21 : c.op = 21
 ·rw [if_pos h21]; exact p (a := t) ⟨rfl, .inl rfl⟩ rfl rfl (by omega)
 rw [if_neg h21]
 by_cases h22 : c.op = 22
 ·rw [if_pos h22]
  split
  ·exact p (a := t) ⟨rfl, .inl rfl⟩ rfl rfl (by omega)
  ·exact p (a := t) ⟨rfl, .inl rfl⟩ rfl rfl (by omega)
 rw [if_neg h22]
 by_cases h26 : c.op = 26
 ·rw [if_pos h26]; exact p (a := t) ⟨rfl, .inl rfl⟩ rfl rfl (by omega)
 rw [if_neg h26]
 by_cases h27 : c.op = 27
 ·rw [if_pos h27]; exact p (put_out _ _) rfl rfl (by omega)
 rw [if_neg h27]
 by_cases h28 : c.op = 28
 ·rw [if_pos h28, if_pos h28]; exact ⟨rfl, .inl rfl⟩
 rw [if_neg h28]
 by_cases h23 : c.op = 23
 ·rw [if_pos h23]; exact p (call_out _ _ _) rfl rfl (by omega)
 rw [if_neg h23]
 by_cases h24 : c.op = 24
 ·rw [if_pos h24]; exact p (put_out _ _) rfl rfl (by omega)
 rw [if_neg h24]
 by_cases h29 : c.op = 29
 ·rw [if_pos h29]; exact p (start_out _ _ _) rfl rfl (by omega)
 rw [if_neg h29]
 by_cases h30 : c.op = 30
 ·rw [if_pos h30]; exact p (resume_out _) rfl rfl (by omega)
 rw [if_neg h30]
 by_cases h31 : c.op = 31
 ·rw [if_pos h31]; exact p (give_out _ _ _) rfl rfl (by omega)
 rw [if_neg h31]
 by_cases h25 : c.op = 25
 ·rw [if_pos h25, if_neg (by omega)]; exact fin_out t
 rw [if_neg h25]
 by_cases h32 : c.op = 32
 ·rw [if_pos h32]; exact p (put_out _ _) rfl rfl (by omega)
 rw [if_neg h32]
 exact p (reckon_out _ _) rfl rfl (by omega)
theorem known_of {m : Md} (h : verify m = (0, 0, 0)) : (∃ K, Known m K) ∧ m.boxes.length ≤ 30 := by
 have hl := right_iff.1 h
 obtain ⟨hR, hb⟩ := rt_of (hl 0 (by omega)) (hl 1 (by omega)) (hl 2 (by omega))
 refine ⟨?_, hb⟩
 have key : ∀ n : Nat, ∃ K : Nat → Option Kn, ∀ u, m.units[n]? = some u → Fix m u K := fun n => by
  cases hu : m.units[n]? with
  | none => exact ⟨fun _ => none, fun u e => by cases e⟩
  | some u =>
   obtain ⟨hh, hf⟩ := hR.heads n u hu
   have hz := sized_true (headE_zero hh).2.1
   obtain ⟨K, hK⟩ := fix_of hf (by omega) (each_all _ _ _ (show (eachW (flowF m) m.units 0).1 = 0 from hl 4 (by omega)) u (List.mem_of_getElem? hu))
   exact ⟨K, fun u' e => by cases e; exact hK⟩
 exact ⟨fun n => (key n).choose, hR, fun n u hu => (key n).choose_spec u hu⟩
theorem sent_wt {m : Md} {K : KM} {G : List Nat} {t : Tk} {st : List Int} (hK : Known m K) (hM : Mid m K G t st st) (ho : (t.ins m).op = 26) : WT G (boxTy m (t.ins m).a) (t.goto (t.frame.pc + 1)).last := by
 obtain ⟨h, f, r, u, c, k, k', H⟩ := hM.here hK
 rw [H.ins] at ho ⊢
 rw [H.frame]
 have hN := H.next hM (by omega) (by omega) (by omega) (by omega)
 have hr := H.reck
 unfold reckS speak at hr
 simp only [ho] at hr
 simp at hr
 have e := takeR_inv hr
 rw [H.kst] at e
 rw [e] at hN
 exact hN.cut.2
end Vm
end Go.Proofs.YtekjhefmhhcboaaGreat
namespace Go.Proofs.YtekjhefmhhcboaaGreat.Vw
def truthB (v : Int) : Bool := v == 0 || v == 1
theorem truth_iff {v : Int} : truthB v = true ↔ v = 0 ∨ v = 1 := by simp [truthB]
end Go.Proofs.YtekjhefmhhcboaaGreat.Vw

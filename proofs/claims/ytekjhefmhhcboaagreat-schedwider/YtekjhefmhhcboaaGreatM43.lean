/- KAHN'S THEOREM, plainly, of a right module. -/
import Derived.Test.YtekjhefmhhcboaaGreatM42
import Derived.Test.YtekjhefmhhcboaaGreatM39
import Derived.Test.YtekjhefmhhcboaaGreatM32
namespace Go.Proofs.YtekjhefmhhcboaaGreat.Vw
open Go.RowKit Vf Vm

/-- KAHN'S THEOREM: two ways of settling. -/
theorem kahn_settle {m : Md} (hv : verify m = (0, 0, 0)) (ps qs : List Pk) (q r : Int) (hq : 1 ≤ q ∧ q ≤ 10000) (hr : 1 ≤ r ∧ r ≤ 10000) :
    ((setR m ps q).1 = 0 ∧ (setR m qs r).1 = 0 ∧ SameW (setR m ps q).2 (setR m qs r).2) ∨ ((setR m ps q).1 = 10 ∧ (setR m qs r).1 = 10) := by
  obtain ⟨⟨K, hK⟩, _⟩ := known_of hv
  have hI := wi_first hK hv
  have key : ∀ (ps : List Pk) (q : Int), 1 ≤ q ∧ q ≤ 10000 → ∃ n, (setR m ps q).2.steps = n ∧ Runs (Step1 m) n (firstW m).wx (setR m ps q).2.wx ∧ (((setR m ps q).1 = 0 ∧ Rests (Step1 m) (setR m ps q).2.wx) ∨ ((setR m ps q).1 = 10 ∧ (setR m ps q).2.steps = 20000 ∧ ¬ Rests (Step1 m) (setR m ps q).2.wx)) ∧ n ≤ 20000 := fun ps q hq => by
    obtain ⟨a, e1, h1⟩ := follow_runs m ps (firstW m)
    have hle := (follow_sum m (firstW m) ps).2 hI.steps
    have hlen : (followW m (firstW m) ps).ts.length = (firstW m).ts.length := by
      have : ∀ (ps : List Pk) (W : Wd), (followW m W ps).ts.length = W.ts.length := fun ps => by
        induction ps with
        | nil => intro W; rfl
        | cons p ps ih => intro W; exact (ih (pickW m W p)).trans (pick_steps m W p).2.1
      exact this ps _
    obtain ⟨b, e2, h2, h3⟩ := settle_runs m q hq 20001 (followW m (firstW m) ps) (by rw [hlen]; exact hI.few.1) hle (by omega)
    have e0 : (firstW m).steps = 0 := rfl
    have hst : ∀ (f : Nat) (W : Wd), W.steps ≤ 20000 → (settleW m q f W).2.steps ≤ 20000 := fun f => by
      induction f with
      | zero => intro W hW; exact hW
      | succ f ih =>
        intro W hW
        unfold settleW
        split
        · exact hW
        · split
          · exact ih _ ((pick_steps m W _).2.2.1 hW)
          · exact hW
    have hs := hst 20001 _ hle
    refine ⟨a + b, by show (settleW m q 20001 (followW m (firstW m) ps)).2.steps = _; omega, h1.app h2, h3, by omega⟩
  obtain ⟨n, e1, h1, c1, l1⟩ := key ps q hq
  obtain ⟨k, e2, h2, c2, l2⟩ := key qs r hr
  have hP : ∀ s t, KI m K s → Step1 m s t → KI m K t := fun s t h hs => ki_step hK h hs
  have hD : ∀ s a b, KI m K s → Step1 m s a → Step1 m s b → a = b ∨ ∃ c, Step1 m a c ∧ Step1 m b c := fun s _ _ h ha hb => diamond (ki_kah hK hv h) ha hb
  have hF := ki_first hK hv
  rcases c1 with ⟨z1, r1⟩ | ⟨z1, s1, r1⟩
  · rcases c2 with ⟨z2, r2⟩ | ⟨z2, s2, r2⟩
    · obtain ⟨en, ew⟩ := Runs.one hP hD hF h1 r1 h2 r2
      have ew' := Prod.ext_iff.1 ew
      exact .inl ⟨z1, z2, ew'.1.symm, ew'.2.symm, by omega⟩
    · exfalso
      obtain ⟨j, ej, hj⟩ := Runs.rest hP hD hF h1 r1 h2
      have : j = 0 := by omega
      subst this
      have e : (setR m qs r).2.wx = (setR m ps q).2.wx := hj
      exact r2 (by rw [e]; exact r1)
  · rcases c2 with ⟨z2, r2⟩ | ⟨z2, s2, r2⟩
    · exfalso
      obtain ⟨j, ej, hj⟩ := Runs.rest hP hD hF h2 r2 h1
      have : j = 0 := by omega
      subst this
      have e : (setR m ps q).2.wx = (setR m qs r).2.wx := hj
      exact r1 (by rw [e]; exact r2)
    · exact .inr ⟨z1, z2⟩
end Go.Proofs.YtekjhefmhhcboaaGreat.Vw

/- The walk of SchedKahn: KAHN'S THEOREM. -/
namespace Go.Proofs.YtekjhefmhhcboaaGreat.Vw
open Go.RowKit Vf Vm

theorem setE_zero {m : Md} {ps : List Pk} {q : Int} (h : setE m ps q = 0) : verify m = (0, 0, 0) ∧ (1 ≤ q ∧ q ≤ 10000) ∧ (setR m ps q).1 = 0 := by
  unfold setE at h
  split at h
  · rename_i h1; exact absurd h h1
  · rename_i h1
    have hv := (wrongE_zero (m := m) (n := ps.length) (by simpa using h1)).1
    split at h
    · rename_i h2; exact ⟨hv, h2, h⟩
    · cases h
theorem setE_ten {m : Md} {ps : List Pk} {q : Int} (hv : verify m = (0, 0, 0)) (h : setE m ps q = 10) : (1 ≤ q ∧ q ≤ 10000) ∧ (setR m ps q).1 = 10 := by
  unfold setE at h
  split at h
  · exfalso
    unfold wrongE at h
    rw [hv] at h
    split at h
    · rename_i h3; simp at h3
    · split at h <;> cases h
  · split at h
    · rename_i h2; exact ⟨h2, h⟩
    · cases h
theorem kahn_law {m : Md} (ps qs : List Pk) (q r : Int) : ¬ (setE m ps q = 10 ∧ setE m qs r = 0) ∧ (setE m ps q = 0 → setE m qs r = 0 → SameW (setR m ps q).2 (setR m qs r).2) := by
  refine ⟨fun ⟨h1, h2⟩ => ?_, fun h1 h2 => ?_⟩
  · obtain ⟨hv, hr, e2⟩ := setE_zero h2
    obtain ⟨hq, e1⟩ := setE_ten hv h1
    rcases kahn_settle hv ps qs q r hq hr with ⟨k, _⟩ | ⟨_, k⟩ <;> omega
  · obtain ⟨hv, hq, e1⟩ := setE_zero h1
    obtain ⟨_, hr, e2⟩ := setE_zero h2
    rcases kahn_settle hv ps qs q r hq hr with ⟨_, _, k⟩ | ⟨k, _⟩
    · exact k
    · omega

/-- What Settle answers, in one form. -/
theorem settled {m : Md} {E : Int} {R : Wd} {w2 : World} {e : Ending} (hr : (E ≠ 0 ∧ e = .returned (.tuple #[.agg #[.slice none 0 0, .slice none 0 0, .int .i64 0], .int .i64 E])) ∨ (E = 0 ∧ ∃ vE vB ov bv, e = .returned (.tuple #[.agg #[vE, vB, .int .i64 R.steps], .int .i64 0]) ∧ EnIn m R 0 w2 vE vB R.ts.length m.boxes.length ov bv ∧ ∃ K, Known m K ∧ WI m K R)) :
    ∃ ea na ec ba nb bc, ∃ st : Nat, e = .returned (.tuple #[.agg #[.slice ea na ec, .slice ba nb bc, .int .i64 st], .int .i64 E]) ∧ (E = 0 → st = R.steps ∧ WRd w2 m R.ts R.x (.slice ea na ec) (.slice ba nb bc) ∧ ∃ K, Known m K ∧ WI m K R) := by
  rcases hr with ⟨h0, rfl⟩ | ⟨rfl, vE, vB, ov, bv, rfl, hEN, K, hK, hWI⟩
  · exact ⟨none, 0, 0, none, 0, 0, 0, rfl, fun e => absurd e h0⟩
  · obtain ⟨ea, ec, rfl⟩ := own_slice hEN.ends
    obtain ⟨ba, bc, rfl⟩ := own_slice hEN.bxs
    have hxl : R.x.length = m.boxes.length := by
      obtain ⟨t0, ht0⟩ : ∃ t, R.ts[0]? = some t := ⟨_, List.getElem?_eq_getElem hWI.few.1⟩
      exact (hWI.tasks 0 t0 ht0).len
    exact ⟨_, _, _, _, _, _, _, rfl, fun _ => ⟨rfl, hEN.reads hxl, K, hK, hWI⟩⟩

set_option maxRecDepth 100000 in
set_option maxHeartbeats 4000000 in
theorem kahn_any (m : Md) (ab au : Option Addr) (cb cu : Nat) (ps : List Pk) (a : Option Addr) (cap : Nat) (qs : List Pk) (a2 : Option Addr) (cap2 : Nat) (w : World) (hmd : ModIn w.heap.size w m ab au) (hps : PkIn w.heap.size w ps a) (hqs : PkIn w.heap.size w qs a2) (q r : Int) :
    Calls Tryz.prog 3 #[mdV m ab au cb cu, .slice a ps.length cap, .int .i64 q, .slice a2 qs.length cap2, .int .i64 r] w fun e w' => e = .returned (.bool true) ∧ Below w.heap.size w w' := by
  have HMD := Sb.hide hmd
  have HPS := Sb.hide hps
  have HQS := Sb.hide hqs
  obtain ⟨E, hE⟩ : ∃ E, E = setE m ps q := ⟨_, rfl⟩
  obtain ⟨R, hR⟩ : ∃ R, R = (setR m ps q).2 := ⟨_, rfl⟩
  obtain ⟨F, hF⟩ : ∃ E, E = setE m qs r := ⟨_, rfl⟩
  obtain ⟨S, hS⟩ : ∃ R, R = (setR m qs r).2 := ⟨_, rfl⟩
  have HK : Hid (¬ (E = 10 ∧ F = 0) ∧ ¬ (E = 0 ∧ F = 10) ∧ (E = 0 → F = 0 → SameW R S) ∧ (E = 0 → verify m = (0, 0, 0))) := by
    unfold Hid
    rw [hE, hF, hR, hS]
    exact ⟨(kahn_law ps qs q r).1, fun ⟨h1, h2⟩ => (kahn_law qs ps r q).1 ⟨h2, h1⟩, (kahn_law ps qs q r).2, fun h => (setE_zero h).1⟩
  have HE := Sb.hide hE
  have HRR := Sb.hide hR
  have HF := Sb.hide hF
  have HSS := Sb.hide hS
  have HB0 : Hid (Below w.heap.size w (w.alloc (mdB m ab au cb cu))) := (Below.refl _ w).alloc (Nat.le_refl _) _
  have HM0 : Hid ((w.alloc (mdB m ab au cb cu)).heap[w.heap.size]? = some (mdB m ab au cb cu)) := heap_alloc_new w _
  clear hmd hps hqs hE hR hF hS
  go_enter Tryz.func3, Tryz.ntmps3
  go_wp2_with fail
  generalize w.alloc (mdB m ab au cb cu) = W0 at *
  refine (alive_any _).mono ?_
  rintro e w1 ⟨rfl, hb1⟩
  have HB1 := Sb.hide (HB0.out.trans (hb1.mono HB0.out.size))
  have HM1 := Sb.hide ((hb1.block _ (lt_of_block HM0.out)).trans HM0.out)
  have c1 := md_cells HM1.out
  clear hb1
  go_wp2_with fail
  refine (Settle_any m ab au cb cu w.heap.size ps a cap _ (Sb.hide (HMD.out.low HB1.out.block)) (Sb.hide (HPS.out.low HB1.out.block)) HB1.out.size q E HE R HRR).mono ?_
  rintro e w2 ⟨hb2, hr1⟩
  have HB2 := Sb.hide (HB1.out.trans (hb2.mono HB1.out.size))
  have HM2 := Sb.hide ((hb2.block _ (lt_of_block HM1.out)).trans HM1.out)
  have hm2 := lt_of_block HM2.out
  clear hb2 c1
  obtain ⟨ea, na, ec, ba, nb, bc, st, rfl, hA⟩ := settled hr1
  have HA := Sb.hide hA
  have HBW : Hid (Below w2.heap.size w2 (w2.alloc (woO (.slice ea na ec) (.slice ba nb bc) st))) := (Below.refl _ w2).alloc (Nat.le_refl _) _
  have HOW : Hid ((w2.alloc (woO (.slice ea na ec) (.slice ba nb bc) st)).heap[w2.heap.size]? = some (woO (.slice ea na ec) (.slice ba nb bc) st)) := heap_alloc_new w2 _
  have c2 := md_cells ((HBW.out.block _ hm2).trans HM2.out)
  clear hr1 hA
  go_wp2_with fail
  generalize w2.alloc (woO (.slice ea na ec) (.slice ba nb bc) st) = W3 at *
  have HB3 := Sb.hide (HB2.out.trans (HBW.out.mono HB2.out.size))
  refine (Settle_any m ab au cb cu w.heap.size qs a2 cap2 _ (Sb.hide (HMD.out.low HB3.out.block)) (Sb.hide (HQS.out.low HB3.out.block)) HB3.out.size r F HF S HSS).mono ?_
  rintro e w4 ⟨hb4, hr2⟩
  have HB4 := Sb.hide (HB3.out.trans (hb4.mono HB3.out.size))
  obtain ⟨ea', na', ec', ba', nb', bc', st', rfl, hA'⟩ := settled hr2
  have HA' := Sb.hide hA'
  have HO4 := Sb.hide ((hb4.block _ (lt_of_block HOW.out)).trans HOW.out)
  have HRD : Hid (E = 0 → WRd w4 m R.ts R.x (.slice ea na ec) (.slice ba nb bc)) := fun h => (((HA.out h).2.1.below HBW.out).below hb4)
  have z := (wo_cells HO4.out).1
  have hz := lt_of_block HO4.out
  clear hr2 hA' hb4 c2
  by_cases h1 : E = 0
  · by_cases h2 : F = 0
    · obtain ⟨g1, g2, g3⟩ := HK.out.2.2.1 h1 h2
      obtain ⟨i1, i2, K, _, i3⟩ := HA.out h1
      obtain ⟨j1, j2, _⟩ := HA'.out h2
      obtain ⟨q1, q2, q3, q4, q5⟩ := wi_few i3 (HK.out.2.2.2 h1)
      have hr4 := HRD.out h1
      have HQ := Sb.hide (And.intro q4 q5)
      have hq2 : R.x.length ≤ 1000 := by omega
      rw [← g1, ← g2] at j2
      have est : st' = st := by rw [i1, j1]; exact g3.symm
      subst est
      have HJ2 := Sb.hide j2
      have HR4 := Sb.hide hr4
      have e1 : (E != 0) = false := by simpa using h1
      have e2 : (F != 0) = false := by simpa using h2
      have HBF : Hid (Below w4.heap.size w4 (w4.alloc (woO (.slice ea' na' ec') (.slice ba' nb' bc') st'))) := (Below.refl _ w4).alloc (Nat.le_refl _) _
      clear g1 g2 g3 i1 i2 i3 j1 j2 q2 q3 q4 q5 hr4 h1 h2
      go_wp2_with fail
      refine (sameW_any m R.ts R.x st' _ _ _ _ _ (Sb.hide (HR4.out.below HBF.out)) (Sb.hide (HJ2.out.below HBF.out)) q1 hq2 (Sb.hide HQ.out.1) (Sb.hide HQ.out.2)).mono ?_
      rintro e w6 ⟨rfl, hb6⟩
      have HB6 := Sb.hide ((HB4.out.trans (HBF.out.mono HB4.out.size)).trans (hb6.mono (Nat.le_trans HB4.out.size HBF.out.size)))
      clear hb6
      go_wp2
      go_ret
      exact ⟨rfl, HB6.out⟩
    · have e1 : (E != 0) = false := by simpa using h1
      have e2 : (F != 0) = true := by simpa using h2
      have e3 : (F == 10) = false := by
        have := HK.out.2.1
        simp
        omega
      have e4 : (E == 10) = false := by simp; omega
      have e5 : (F == 0) = false := by simpa using h2
      have e6 : (E == 0) = true := by simpa using h1
      clear h1 h2
      go_wp2
      go_ret
      exact ⟨rfl, HB4.out.alloc HB4.out.size _⟩
  · have e1 : (E != 0) = true := by simpa using h1
    have e6 : (E == 0) = false := by simpa using h1
    by_cases h2 : F = 0
    · have e4 : (E == 10) = false := by
        have := HK.out.1
        simp
        omega
      have e5 : (F == 0) = true := by simpa using h2
      have e3 : (F == 10) = false := by simp; omega
      clear h1 h2
      go_wp2
      go_ret
      exact ⟨rfl, HB4.out.alloc HB4.out.size _⟩
    · have e5 : (F == 0) = false := by simpa using h2
      by_cases h3 : E = 10
      · have e4 : (E == 10) = true := by simpa using h3
        clear h1 h2 h3
        go_wp2
        go_ret
        exact ⟨rfl, HB4.out.alloc HB4.out.size _⟩
      · have e4 : (E == 10) = false := by simpa using h3
        clear h1 h2 h3
        go_wp2
        go_ret
        exact ⟨rfl, HB4.out.alloc HB4.out.size _⟩
end Go.Proofs.YtekjhefmhhcboaaGreat.Vw

/- Two ways meet; what tasks do only grows. -/
namespace Go.Proofs.YtekjhefmhhcboaaGreat.Vw
open Go.RowKit Vf Vm

section
variable {σ : Type} {R : σ → σ → Prop} {P : σ → Prop}
theorem Runs.strip (hP : ∀ s t, P s → R s t → P t) (hD : ∀ s a b, P s → R s a → R s b → a = b ∨ ∃ c, R a c ∧ R b c) : ∀ {n : Nat} {s y a : σ}, P s → Runs R n s y → R s a → ∃ z k, Runs R k a z ∧ (y = z ∨ R y z)
  | 0, s, y, a, _, h, ha => by cases h; exact ⟨a, 0, rfl, .inr ha⟩
  | n + 1, s, y, a, hs, ⟨b, hb, hr⟩, ha => by
    rcases hD s a b hs ha hb with e | ⟨c, hac, hbc⟩
    · subst e; exact ⟨y, n, hr, .inl rfl⟩
    · obtain ⟨z, k, h1, h2⟩ := Runs.strip hP hD (hP _ _ hs hb) hr hbc
      exact ⟨z, k + 1, ⟨c, hac, h1⟩, h2⟩
/-- Two ways meet. -/
theorem Runs.meet (hP : ∀ s t, P s → R s t → P t) (hD : ∀ s a b, P s → R s a → R s b → a = b ∨ ∃ c, R a c ∧ R b c) : ∀ {n k : Nat} {s x y : σ}, P s → Runs R n s x → Runs R k s y → ∃ z i j, Runs R i x z ∧ Runs R j y z
  | 0, k, s, x, y, _, h, h2 => by cases h; exact ⟨y, k, 0, h2, rfl⟩
  | n + 1, k, s, x, y, hs, ⟨a, ha, hr⟩, h2 => by
    obtain ⟨z1, k1, h3, h4⟩ := Runs.strip hP hD hs h2 ha
    obtain ⟨z, i, j, h5, h6⟩ := Runs.meet hP hD (hP _ _ hs ha) hr h3
    rcases h4 with e | e
    · subst e; exact ⟨z, i, j, h5, h6⟩
    · exact ⟨z, i, j + 1, h5, z1, e, h6⟩
end

/-- What a step does. -/
theorem one_did (m : Md) (t : Tk) (x : List Bq) : Acts (t.ins m) t (one mbX m t x).1 (t.goto (t.frame.pc + 1)).last (mbX.head x (t.ins m).a.toNat) :=
  act_did m (t.ins m) (t.goto (t.frame.pc + 1)) (mbX.head x (t.ins m).a.toNat)
/-- What all tasks did only grows. -/
def Grows (s s' : Wx) : Prop := ∀ (o : Nat) t, s.1[o]? = some t → ∃ t', s'.1[o]? = some t' ∧ t.log <+: t'.log ∧ t.out <+: t'.out
theorem step_grows {m : Md} {s s' : Wx} (h : Step1 m s s') : Grows s s' := fun o t ht => by
  obtain ⟨p, u, hu, _, rfl⟩ := h
  show ∃ t', (s.1.set p _)[o]? = some t' ∧ _
  by_cases e : p = o
  · subst e
    rw [ht] at hu
    cases hu
    exact ⟨_, List.getElem?_set_self (List.getElem?_eq_some_iff.1 ht).1, (one_did m t s.2).grows⟩
  · exact ⟨t, by rw [List.getElem?_set_ne e]; exact ht, List.prefix_refl _, List.prefix_refl _⟩
theorem runs_grows {m : Md} : ∀ {n : Nat} {s s' : Wx}, Runs (Step1 m) n s s' → Grows s s'
  | 0, s, s', h => by cases h; exact fun o t ht => ⟨t, ht, List.prefix_refl _, List.prefix_refl _⟩
  | n + 1, s, s', ⟨s1, h1, h2⟩ => fun o t ht => by
    obtain ⟨t1, k1, k2, k3⟩ := step_grows h1 o t ht
    obtain ⟨t2, l1, l2, l3⟩ := runs_grows h2 o t1 k1
    exact ⟨t2, l1, k2.trans l2, k3.trans l3⟩
/-- Two ways of picking: what a task did one way is the beginning of what it did the other way. -/
theorem two_ways {m : Md} (hv : verify m = (0, 0, 0)) (ps qs : List Pk) {o : Nat} {t u : Tk} (ht : (runW m ps).ts[o]? = some t) (hu : (runW m qs).ts[o]? = some u) : t.log <+: u.log ∨ u.log <+: t.log := by
  obtain ⟨⟨K, hK⟩, _⟩ := known_of hv
  obtain ⟨a, _, h1⟩ := follow_runs m ps (firstW m)
  obtain ⟨b, _, h2⟩ := follow_runs m qs (firstW m)
  obtain ⟨z, i, j, h3, h4⟩ := Runs.meet (P := KI m K) (fun s t h hs => ki_step hK h hs) (fun s _ _ h ha hb => diamond (ki_kah hK hv h) ha hb) (ki_first hK hv) h1 h2
  obtain ⟨t', e1, l1, _⟩ := runs_grows h3 o t ht
  obtain ⟨u', e2, l2, _⟩ := runs_grows h4 o u hu
  rw [e1] at e2
  cases e2
  rcases Nat.le_total t.log.length u.log.length with e | e
  · exact .inl (List.prefix_of_prefix_length_le l1 l2 e)
  · exact .inr (List.prefix_of_prefix_length_le l2 l1 e)
end Go.Proofs.YtekjhefmhhcboaaGreat.Vw


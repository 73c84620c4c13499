/- What is gathered from a unit on is what one comes to from there, plainly (for VerifyTells). -/
import Derived.Test.YtpmngjjbhcajfaaGreatM36
namespace Go.Proofs.YtpmngjjbhcajfaaGreat
namespace Vf

def Kops (c : Ins) : Prop := c.op = 23 ∨ c.op = 26 ∨ c.op = 27 ∨ c.op = 29
/-- All that was there is there still; whatever call is new has all of its unit's. -/
structure Cl (m : Md) (l l' : LL) : Prop where
  mono : ∀ q, 1 ≤ cnt q l → 1 ≤ cnt q l'
  done : ∀ op a, op = 23 ∨ op = 29 → ¬ 1 ≤ cnt (op, a) l → 1 ≤ cnt (op, a) l' → ∀ c ∈ (unit m a).code, Kops c → 1 ≤ cnt (c.op, c.a) l'
theorem Cl.refl (m : Md) (l : LL) : Cl m l l := ⟨fun _ h => h, fun _ _ _ hn hy => absurd hy hn⟩
theorem Cl.trans {m : Md} {l l1 l2 : LL} (h : Cl m l l1) (k : Cl m l1 l2) : Cl m l l2 := ⟨fun q hq => k.mono q (h.mono q hq), fun op a ho hn hy c hc hk => by
  by_cases h1 : 1 ≤ cnt (op, a) l1
  · exact k.mono _ (h.done op a ho hn h1 c hc hk)
  · exact k.done op a ho h1 hy c hc hk⟩
theorem bump_in {l : LL} (hl : Wl l) (k : Lk) : 1 ≤ cnt k (bump k l) := by
  rw [cnt_bump, if_pos rfl]
  have := cnt_nn hl k
  omega
theorem bump_mono {l : LL} (hl : Wl l) (k q : Lk) (h : 1 ≤ cnt q l) : 1 ≤ cnt q (bump k l) := by
  rw [cnt_bump]
  split
  · have := cnt_nn hl k; omega
  · exact h
theorem bump_old {l : LL} {k q : Lk} (h : 1 ≤ cnt q (bump k l)) (hn : ¬ 1 ≤ cnt q l) : q = k := by
  rw [cnt_bump] at h
  split at h
  · assumption
  · exact absurd h hn
theorem call_univ {m : Md} {u : Un} {c : Ins} (hR : Rt m) (hf : formE m u c = 0) (h : c.op = 23 ∨ c.op = 29) : (c.op, c.a) ∈ univ := by
  obtain ⟨kd, _, hi⟩ := call_is hf h
  obtain ⟨x, h3, _, h4⟩ := is_some hi
  have := (List.getElem?_eq_some_iff.1 h3).1
  have h5 := hR.units
  obtain ⟨k, hk⟩ : ∃ k : Nat, c.a = k := ⟨c.a.toNat, by omega⟩
  rw [hk]
  exact univ_mem h (by omega)

theorem gstep_cl {m : Md} {u : Un} {c : Ins} {f : Nat} {l : LL} (hR : Rt m) (hf : formE m u c = 0) (hl : Wl l) (hm : mus l ≤ f)
    (ih : ∀ n l, Wl l → mus l + 1 ≤ f → Cl m l (gat m f n l) ∧ ∀ c ∈ (unit m n).code, Kops c → 1 ≤ cnt (c.op, c.a) (gat m f n l)) : Cl m l (gstep (gat m f) c l) ∧ (Kops c → 1 ≤ cnt (c.op, c.a) (gstep (gat m f) c l)) := by
  unfold gstep
  by_cases h1 : c.op = 26 ∨ c.op = 27
  · rw [if_pos h1]
    refine ⟨⟨fun q hq => bump_mono hl _ q hq, fun op a ho hn hy => ?_⟩, fun _ => bump_in hl _⟩
    have e := bump_old hy hn
    simp only [Prod.mk.injEq] at e
    omega
  · rw [if_neg h1]
    by_cases h2 : c.op = 23 ∨ c.op = 29
    · rw [if_pos h2]
      by_cases h0 : cnt (c.op, c.a) l = 0
      · rw [if_pos h0]
        have hn := mus_new hl (call_univ hR hf h2) h0
        obtain ⟨hC, hB⟩ := ih c.a (bump (c.op, c.a) l) (hl.bump _) (by omega)
        refine ⟨⟨fun q hq => hC.mono q (bump_mono hl _ q hq), fun op a ho hno hy => ?_⟩, fun _ => hC.mono _ (bump_in hl _)⟩
        by_cases hb : 1 ≤ cnt (op, a) (bump (c.op, c.a) l)
        · have e := bump_old hb hno
          simp only [Prod.mk.injEq] at e
          rw [e.2]
          exact hB
        · exact hC.done op a ho hb hy
      · rw [if_neg h0]
        have hp : 1 ≤ cnt (c.op, c.a) l := by have := cnt_nn hl (c.op, c.a); omega
        refine ⟨⟨fun q hq => bump_mono hl _ q hq, fun op a ho hno hy => ?_⟩, fun _ => bump_in hl _⟩
        have e := bump_old hy hno
        rw [e] at hno
        exact absurd hp hno
    · rw [if_neg h2]
      refine ⟨Cl.refl m l, fun hk => ?_⟩
      unfold Kops at hk
      omega
theorem gatC_cl {m : Md} {u : Un} {f : Nat} (hR : Rt m) (ih : ∀ n l, Wl l → mus l + 1 ≤ f → Cl m l (gat m f n l) ∧ ∀ c ∈ (unit m n).code, Kops c → 1 ≤ cnt (c.op, c.a) (gat m f n l)) : ∀ (cs : List Ins) (l : LL), (∀ c ∈ cs, formE m u c = 0) → Wl l → mus l ≤ f → Cl m l (gatC (gat m f) cs l) ∧ ∀ c ∈ cs, Kops c → 1 ≤ cnt (c.op, c.a) (gatC (gat m f) cs l)
  | [], l, _, _, _ => ⟨Cl.refl m l, fun c hc => by cases hc⟩
  | c :: cs, l, hf, hl, hm => by
    have h1 := gstep_cl hR (hf c List.mem_cons_self) hl hm ih
    have hg := gstep_gd hR.units (hf c List.mem_cons_self) hl (gat_gd hR f)
    have h2 := gatC_cl hR ih cs (gstep (gat m f) c l) (fun c hc => hf c (List.mem_cons_of_mem _ hc)) hg.wl (Nat.le_trans hg.mus hm)
    have e : gatC (gat m f) (c :: cs) l = gatC (gat m f) cs (gstep (gat m f) c l) := rfl
    rw [e]
    refine ⟨h1.1.trans h2.1, fun c' hc' hk => ?_⟩
    rcases List.mem_cons.1 hc' with rfl | h3
    · exact h2.1.mono _ (h1.2 hk)
    · exact h2.2 c' h3 hk
theorem gat_cl {m : Md} (hR : Rt m) : ∀ (f : Nat) (n : Int) (l : LL), Wl l → mus l + 1 ≤ f → Cl m l (gat m f n l) ∧ ∀ c ∈ (unit m n).code, Kops c → 1 ≤ cnt (c.op, c.a) (gat m f n l)
  | 0, _, _, _, h => by omega
  | f + 1, n, l, hl, h => gatC_cl (u := unit m n) hR (gat_cl hR f) (unit m n).code l (unit_in hR n).2 hl (by omega)

/-- One comes from a unit to a unit. -/
inductive Reach (m : Md) : Int → Int → Prop
  | here (n : Int) : Reach m n n
  | step {n k : Int} {c : Ins} : Reach m n k → c ∈ (unit m k).code → c.op = 23 ∨ c.op = 29 → Reach m n c.a
theorem Reach.head {m : Md} {n k : Int} {c : Ins} (hc : c ∈ (unit m n).code) (ho : c.op = 23 ∨ c.op = 29) (h : Reach m c.a k) : Reach m n k := by
  induction h with
  | here => exact .step (.here n) hc ho
  | step _ h2 h3 ih => exact .step ih h2 h3

theorem gat_sound {m : Md} (q : Lk) : ∀ (f : Nat) (n : Int) (l : LL), 1 ≤ cnt q (gat m f n l) → 1 ≤ cnt q l ∨ ∃ k, Reach m n k ∧ ∃ c ∈ (unit m k).code, (c.op, c.a) = q
  | 0, _, _, h => .inl h
  | f + 1, n, l, h => by
    have key : ∀ (cs : List Ins) (l : LL), (∀ c ∈ cs, c ∈ (unit m n).code) → 1 ≤ cnt q (gatC (gat m f) cs l) → 1 ≤ cnt q l ∨ ∃ k, Reach m n k ∧ ∃ c ∈ (unit m k).code, (c.op, c.a) = q := by
      intro cs
      induction cs with
      | nil => intro l _ h; exact .inl h
      | cons c cs ih =>
        intro l hcs h
        have hc := hcs c List.mem_cons_self
        rcases ih (gstep (gat m f) c l) (fun c hc => hcs c (List.mem_cons_of_mem _ hc)) h with h1 | h1
        · have hb : 1 ≤ cnt q (bump (c.op, c.a) l) → 1 ≤ cnt q l ∨ ∃ k, Reach m n k ∧ ∃ c ∈ (unit m k).code, (c.op, c.a) = q := fun hb => by
            by_cases hq : 1 ≤ cnt q l
            · exact .inl hq
            · exact .inr ⟨n, .here n, c, hc, (bump_old hb hq).symm⟩
          unfold gstep at h1
          split at h1
          · exact hb h1
          · split at h1
            · rename_i h2
              split at h1
              · rcases gat_sound q f c.a _ h1 with h3 | ⟨k, h3, h4⟩
                · exact hb h3
                · exact .inr ⟨k, Reach.head hc h2 h3, h4⟩
              · exact hb h1
            · exact .inl h1
        · exact .inr h1
    exact key _ l (fun c hc => hc) h
/-- WHAT A UNIT COMES TO. -/
theorem comes_iff {m : Md} (hR : Rt m) (i : Nat) {q : Lk} (hq : q.1 = 26 ∨ q.1 = 27) : comes m i q = true ↔ ∃ k, Reach m (i : Int) k ∧ ∃ c ∈ (unit m k).code, (c.op, c.a) = q := by
  unfold comes
  rw [decide_eq_true_iff]
  constructor
  · intro h
    rcases gat_sound q 61 (i : Int) [] h with h1 | h1
    · exfalso
      simp [cnt, idx] at h1
    · exact h1
  · rintro ⟨k, hk, c, hc, rfl⟩
    obtain ⟨hC, hB⟩ := gat_cl hR 61 (i : Int) [] Wl.nil (by rw [mus_nil]; omega)
    have all : ∀ k, Reach m (i : Int) k → ∀ c ∈ (unit m k).code, Kops c → 1 ≤ cnt (c.op, c.a) (gat m 61 (i : Int) []) := by
      intro k hk
      induction hk with
      | here => exact hB
      | step _ h2 h3 ih =>
        refine hC.done _ _ h3 (by simp [cnt, idx]) (ih _ h2 ?_)
        unfold Kops
        omega
    exact all k hk c hc (by unfold Kops; simp at hq; omega)

end Vf
end Go.Proofs.YtpmngjjbhcajfaaGreat

/- Where a task's frames are: in units that its own unit comes to. -/
namespace Go.Proofs.YtpmngjjbhcajfaaGreat.Vw
open Go.RowKit Vf Vm

/-- All frames of all threads are of units of Q. -/
def Inn (Q : Int → Prop) (t : Tk) : Prop := ∀ h ∈ t.ths, ∀ f ∈ h.fs, Q (f.u : Int)
section
variable {Q : Int → Prop} {t : Tk}
theorem Inn.th (h : Inn Q t) (i : Nat) : ∀ f ∈ (t.th i).fs, Q (f.u : Int) := fun f hf => by
  unfold Tk.th at hf
  cases hi : t.ths[i]? with
  | none => rw [hi] at hf; simp [th0] at hf
  | some x => rw [hi] at hf; exact h x (List.mem_of_getElem? hi) f hf
theorem Inn.set (h : Inn Q t) (i : Nat) {x : Th} (hx : ∀ f ∈ x.fs, Q (f.u : Int)) : Inn Q (t.set i x) := fun y hy f hf => by
  rcases List.mem_or_eq_of_mem_set hy with h1 | h1
  · exact h y h1 f hf
  · subst h1; exact hx f hf
theorem Inn.words (h : Inn Q t) (ws : List Int) : Inn Q (t.words ws) := h.set _ (fun f hf => h.th _ f hf)
theorem Inn.cut (h : Inn Q t) : Inn Q t.cut := h.words _
theorem Inn.put (h : Inn Q t) (v : Int) : Inn Q (t.put v) := by
  unfold Tk.put
  split
  · exact h
  · exact h.words _
theorem Inn.frame (h : Inn Q t) (h0 : t.top.fs ≠ []) : Q (t.frame.u : Int) := by
  unfold Tk.frame
  cases hf : t.top.fs with
  | nil => exact absurd hf h0
  | cons f r => exact h.th _ f (by show f ∈ t.top.fs; rw [hf]; exact List.mem_cons_self)
theorem Inn.goto (h : Inn Q t) (h0 : t.top.fs ≠ []) (n : Nat) : Inn Q (t.goto n) := h.set _ (fun f hf => by
  rcases List.mem_cons.1 hf with rfl | hf
  · exact h.frame h0
  · exact h.th _ f (List.mem_of_mem_tail hf))
theorem Inn.leave (h : Inn Q t) : Inn Q t.leave := h.set _ (fun f hf => h.th _ f (List.mem_of_mem_tail hf))
theorem Inn.give (h : Inn Q t) (s : Nat) (v : Int) : Inn Q (t.give s v) := by
  unfold Tk.give
  exact Inn.put (t := { t.set t.hand { t.top with stands := s } with hand := t.top.up.getD 0 }) (h.set _ (fun f hf => h.th _ f hf)) v
theorem Inn.act (h : Inn Q t) (m : Md) (c : Ins) (rv : Int) (h0 : t.top.fs ≠ []) (h1 : c.op = 23 ∨ c.op = 29 → Q (c.a.toNat : Int)) : Inn Q (t.act m c rv) := by
  have hc := h.cut
  have c0 : t.cut.top.fs ≠ [] ∨ t.ths[t.hand]? = none := by
    cases hi : t.ths[t.hand]? with
    | none => exact .inr rfl
    | some x =>
      left
      have hl := (List.getElem?_eq_some_iff.1 hi).1
      have e : t.cut.top.fs = t.top.fs := by
        show ((t.ths.set t.hand { t.top with ws := t.top.ws.dropLast })[t.hand]?.getD th0).fs = t.top.fs
        rw [List.getElem?_set_self hl]
        rfl
      rw [e]
      exact h0
  have c1 : t.cut.top.fs ≠ [] := by
    rcases c0 with e | e
    · exact e
    · exfalso
      apply h0
      show ((t.ths[t.hand]?).getD th0).fs = []
      rw [e]
      rfl
  unfold Tk.act
  by_cases h1' : c.op = 1
  · rw [if_pos h1']; exact h.put _
  rw [if_neg h1']
  by_cases h2 : c.op = 2
  · rw [if_pos h2]; exact h.put _
  rw [if_neg h2]
  by_cases h3 : c.op = 3
  · rw [if_pos h3]; exact h.put _
  rw [if_neg h3]
  by_cases h4 : c.op = 4
  · rw [if_pos h4]; exact h.words _
  rw [if_neg h4]
  by_cases h5 : c.op = 5
  · rw [if_pos h5]; exact hc
  rw [if_neg h5]
  by_cases h6 : c.op = 6
  · rw [if_pos h6]; exact hc.put _
  rw [if_neg h6]
  by_cases h7 : c.op = 7
  · rw [if_pos h7]; exact hc.put _
  rw [if_neg h7]
  by_cases h21 : c.op = 21
  · rw [if_pos h21]; exact h.goto h0 _
  rw [if_neg h21]
  by_cases h22 : c.op = 22
  · rw [if_pos h22]
    split
    · exact hc.goto c1 _
    · exact hc
  rw [if_neg h22]
  by_cases h26 : c.op = 26
  · rw [if_pos h26]; exact hc
  rw [if_neg h26]
  by_cases h27 : c.op = 27
  · rw [if_pos h27]; exact Inn.put (t := t.note _) h _
  rw [if_neg h27]
  by_cases h28 : c.op = 28
  · rw [if_pos h28]; exact hc
  rw [if_neg h28]
  by_cases h23 : c.op = 23
  · rw [if_pos h23]
    unfold Tk.call
    split
    · exact h
    · split
      · exact h.set _ (fun f hf => by
          rcases List.mem_cons.1 hf with rfl | hf
          · exact h1 (.inl h23)
          · exact h.th _ f hf)
      · exact h.words _
  rw [if_neg h23]
  by_cases h24 : c.op = 24
  · rw [if_pos h24]; exact hc.leave.put _
  rw [if_neg h24]
  by_cases h29 : c.op = 29
  · rw [if_pos h29]
    unfold Tk.start
    dsimp only
    split
    · exact h.words _
    · refine Inn.put (t := Tk.note _ _) ?_ _
      intro y hy f hf
      rcases List.mem_append.1 hy with hy | hy
      · exact (h.words _) y hy f hf
      · rw [List.mem_singleton] at hy
        subst hy
        simp [newTh] at hf
        subst hf
        exact h1 (.inr h29)
  rw [if_neg h29]
  by_cases h30 : c.op = 30
  · rw [if_pos h30]
    unfold Tk.resume
    dsimp only
    split
    · exact hc.cut
    · split
      · exact hc.cut
      · split
        · refine Inn.put ?_ _
          exact hc.cut.set _ (fun f hf => hc.cut.th _ f hf)
        · exact hc.cut.set _ (fun f hf => hc.cut.th _ f hf)
  rw [if_neg h30]
  by_cases h31 : c.op = 31
  · rw [if_pos h31]; exact hc.give _ _
  rw [if_neg h31]
  by_cases h25 : c.op = 25
  · rw [if_pos h25]
    unfold Tk.fin
    split
    · exact h
    · exact h.give _ _
  rw [if_neg h25]
  by_cases h32 : c.op = 32
  · rw [if_pos h32]; exact hc.put _
  rw [if_neg h32]
  unfold Tk.reckon
  split
  · exact hc.cut
  · exact hc.cut.put _
end
end Go.Proofs.YtpmngjjbhcajfaaGreat.Vw

/- What is kept, step by step: KAHN's conditions hold of a right module. -/
namespace Go.Proofs.YtpmngjjbhcajfaaGreat.Vw
open Go.RowKit Vf Vm

/-- What is known of boxes. -/
structure BxOk (m : Md) (x : List Bq) : Prop where
  len : x.length = m.boxes.length
  boxes : ∀ (i : Nat) q b, x[i]? = some q → m.boxes[i]? = some b → (q.cap : Int) = b.cap ∧ q.ws.length ≤ q.cap ∧ (b.ty = 2 → q.ws.all truthB = true)
theorem BxOk.fits {m : Md} {x : List Bq} (h : BxOk m x) : Fits x := fun n q hq => by
  obtain ⟨b, hb⟩ : ∃ b, m.boxes[n]? = some b := ⟨_, List.getElem?_eq_getElem (by have := (List.getElem?_eq_some_iff.1 hq).1; have := h.len; omega)⟩
  exact (h.boxes n q b hq hb).2.1
/-- A step keeps what is known of a task and of the boxes. -/
theorem mj_step {m : Md} {K : KM} (hK : Known m K) {t : Tk} {x : List Bq} (hG : Goes m K t) (hov : t.over = 0) (hI : BxOk m x) (hst : (stat mbX m t x).1 = 1) :
    Goes m K (one mbX m t x).1 ∧ ((one mbX m t x).1.over = 0 ∨ (one mbX m t x).1.over = 4 ∨ (one mbX m t x).1.over = 5) ∧ BxOk m (one mbX m t x).2 := by
  have bty : ∀ (n : Nat) b, m.boxes[n]? = some b → boxTy m n = b.ty ∧ ¬ 10 ≤ b.ty := fun n b hb => by
    have := hK.rt.boxes n b hb
    unfold plain at this
    simp at this
    refine ⟨by simp [boxTy, hb], by omega⟩
  have h0 := hov
  rcases hG with hg | ⟨G, st, hM⟩
  · exact absurd h0 hg
  · have hbx : (t.ins m).op = 26 ∨ (t.ins m).op = 27 → ∃ b : Nat, (t.ins m).a = b ∧ b < m.boxes.length := fun ho => by
      obtain ⟨h, f, r, u, i, k, k', H⟩ := hM.here hK
      rw [H.ins] at ho ⊢
      obtain ⟨hp1, hp2, hrg⟩ := H.pos
      unfold ranged at hrg
      rw [if_neg (by omega), if_neg (by omega), if_neg (by omega), if_neg (by omega), if_neg (by omega), if_pos ho] at hrg
      simp at hrg
      exact ⟨i.a.toNat, by omega, by omega⟩
    have hat : ∀ b : Nat, b < m.boxes.length → ∃ q bx, x[b]? = some q ∧ m.boxes[b]? = some bx ∧ (q.cap : Int) = bx.cap ∧ q.ws.length ≤ q.cap ∧ (bx.ty = 2 → q.ws.all truthB = true) := fun b hb => by
      obtain ⟨q, hq⟩ : ∃ q, x[b]? = some q := ⟨_, List.getElem?_eq_getElem (by rw [hI.len]; exact hb)⟩
      obtain ⟨bx, hbx⟩ : ∃ q, m.boxes[b]? = some q := ⟨_, List.getElem?_eq_getElem hb⟩
      exact ⟨q, bx, hq, hbx, hI.boxes b q bx hq hbx⟩
    unfold stat at hst
    rw [if_neg (by omega)] at hst
    have hfull : (t.ins m).op = 26 → mbX.full x (t.ins m).a.toNat = false := fun ho => by
      cases hf : mbX.full x (t.ins m).a.toNat
      · rfl
      · rw [if_pos ⟨ho, hf⟩] at hst; cases hst
    have hemp : (t.ins m).op = 27 → mbX.empty x (t.ins m).a.toNat = false := fun ho => by
      cases hf : mbX.empty x (t.ins m).a.toNat
      · rfl
      · rw [if_neg (by omega), if_pos ⟨ho, hf⟩] at hst; cases hst
    have hrv : (t.ins m).op = 27 → WT G (boxTy m (t.ins m).a) (mbX.head x (t.ins m).a.toNat) := fun ho => by
      obtain ⟨b, e, hb⟩ := hbx (.inr ho)
      obtain ⟨q, bx, hq, hbq, _, _, h3⟩ := hat b hb
      have he := hemp ho
      rw [e, Int.toNat_natCast] at he ⊢
      rw [(bty b bx hbq).1]
      simp only [mbX, hq] at he ⊢
      have hlt : 0 < q.ws.length := by simp at he; exact List.length_pos_iff.2 he
      obtain ⟨u, hu⟩ : ∃ u, q.ws[0]? = some u := ⟨_, List.getElem?_eq_getElem hlt⟩
      rw [hu]
      exact ⟨fun h2 => truth_iff.1 (List.all_eq_true.1 (h3 h2) u (List.mem_of_getElem? hu)), fun h10 => absurd h10 (bty b bx hbq).2⟩
    obtain ⟨_, hgo⟩ := step_goes hK hM _ hrv
    obtain ⟨_, a2⟩ := act_out m (t.ins m) (t.goto (t.frame.pc + 1)) (mbX.head x (t.ins m).a.toNat)
    refine ⟨hgo, ?_, ?_, fun j q bx hq hb => ?_⟩
    · have e : (t.goto (t.frame.pc + 1)).over = t.over := rfl
      rw [e, h0] at a2
      exact a2
    · show (stX mbX (t.ins m) _ x).length = _
      unfold stX
      split
      · rename_i ho
        obtain ⟨b, e, hb⟩ := hbx (.inl ho)
        obtain ⟨q, bx, hq, _⟩ := hat b hb
        rw [e, Int.toNat_natCast]
        simp [mbX, hq, hI.len]
      · split
        · rename_i _ ho
          obtain ⟨b, e, hb⟩ := hbx (.inr ho)
          obtain ⟨q, bx, hq, _⟩ := hat b hb
          rw [e, Int.toNat_natCast]
          simp [mbX, hq, hI.len]
        · exact hI.len
    · change (stX mbX (t.ins m) (t.goto (t.frame.pc + 1)).last x)[j]? = some q at hq
      unfold stX at hq
      split at hq
      · rename_i ho
        obtain ⟨b, e, hb'⟩ := hbx (.inl ho)
        obtain ⟨q0, bx0, hq0, hbx0, k1, k2, k3⟩ := hat b hb'
        have hs := sent_wt hK hM ho
        have hf := hfull ho
        rw [e, Int.toNat_natCast] at hq hf
        simp only [mbX, hq0] at hq hf
        rw [List.getElem?_set] at hq
        split at hq
        · rename_i ej
          subst ej
          split at hq
          · cases hq
            rw [hbx0] at hb
            cases hb
            rw [e, (bty b _ hbx0).1] at hs
            refine ⟨k1, by simp at hf ⊢; omega, fun h2 => ?_⟩
            rw [List.all_append, k3 h2]
            simp [truth_iff.2 (hs.1 h2)]
          · cases hq
        · exact hI.boxes j q bx hq hb
      · split at hq
        · rename_i _ ho
          obtain ⟨b, e, hb'⟩ := hbx (.inr ho)
          obtain ⟨q0, bx0, hq0, hbx0, k1, k2, k3⟩ := hat b hb'
          rw [e, Int.toNat_natCast] at hq
          simp only [mbX, hq0] at hq
          rw [List.getElem?_set] at hq
          split at hq
          · rename_i ej
            subst ej
            split at hq
            · cases hq
              rw [hbx0] at hb
              cases hb
              refine ⟨k1, by simp; omega, fun h2 => ?_⟩
              have := k3 h2
              rw [List.all_eq_true] at this ⊢
              exact fun v hv => this v (List.mem_of_mem_tail hv)
            · cases hq
          · exact hI.boxes j q bx hq hb
        · exact hI.boxes j q bx hq hb
end Go.Proofs.YtpmngjjbhcajfaaGreat.Vw


/- A right module with what nobody comes to is right, plainly. -/
import Derived.Test.YtbkimpimoclobaaM38
namespace Go.Proofs.Ytbkimpimoclobaa
namespace Vf

/-- A unit with instructions more behind. -/
structure Ext (u v : Un) : Prop where
  kind : v.kind = u.kind
  params : v.params = u.params
  locals : v.locals = u.locals
  result : v.result = u.result
  takes : v.takes = u.takes
  code : ∃ t, v.code = u.code ++ t ∧ t.length ≤ 2 ∧ ∀ c ∈ t, c.op = 7 ∨ c.op = 5
theorem Ext.refl (u : Un) : Ext u u := ⟨rfl, rfl, rfl, rfl, rfl, [], by simp, by simp, fun c hc => by cases hc⟩
def addC (u : Un) : Un := ⟨u.kind, u.params, u.locals, u.result, u.takes, u.code ++ [⟨7, 0, 0⟩, ⟨5, 0, 0⟩]⟩
theorem Ext.add (u : Un) : Ext u (addC u) := ⟨rfl, rfl, rfl, rfl, rfl, [⟨7, 0, 0⟩, ⟨5, 0, 0⟩], rfl, by simp, fun c hc => by simp at hc; rcases hc with rfl | rfl <;> simp⟩

structure More (m n : Md) : Prop where
  boxes : n.boxes = m.boxes ++ [⟨2, 1⟩]
  fewb : m.boxes.length < 30
  few : m.units.length < 30
  len : n.units.length = m.units.length + 1
  last : n.units[m.units.length]? = some smallU
  same : ∀ (k : Nat) (u v : Un), m.units[k]? = some u → n.units[k]? = some v → Ext u v ∧ (v = u ∨ v.code.length ≤ 4000)
theorem More.at {m n : Md} (h : More m n) {k : Nat} {v : Un} (hv : n.units[k]? = some v) : (∃ u, m.units[k]? = some u ∧ Ext u v ∧ (v = u ∨ v.code.length ≤ 4000)) ∨ (k = m.units.length ∧ v = smallU) := by
  have hk : k < m.units.length + 1 := by rw [← h.len]; exact (List.getElem?_eq_some_iff.1 hv).1
  by_cases hl : k = m.units.length
  · subst hl
    rw [h.last] at hv
    cases hv
    exact .inr ⟨rfl, rfl⟩
  · have hk' : k < m.units.length := by omega
    exact .inl ⟨_, List.getElem?_eq_getElem hk', h.same k _ v (List.getElem?_eq_getElem hk') hv⟩
theorem More.to {m n : Md} (h : More m n) {k : Nat} {u : Un} (hu : m.units[k]? = some u) : ∃ v, n.units[k]? = some v ∧ Ext u v := by
  have hk : k < n.units.length := by have := (List.getElem?_eq_some_iff.1 hu).1; rw [h.len]; omega
  exact ⟨_, List.getElem?_eq_getElem hk, (h.same k u _ hu (List.getElem?_eq_getElem hk)).1⟩
theorem More.is {m n : Md} (h : More m n) (kd a : Int) (hk : kd ≠ 4 ∨ a < m.units.length) : Vf.is n kd a = Vf.is m kd a := by
  unfold Vf.is
  by_cases h0 : 0 ≤ a
  · cases hn : n.units[a.toNat]? with
    | none =>
      have : m.units[a.toNat]? = none := by
        rw [List.getElem?_eq_none_iff] at hn ⊢
        rw [h.len] at hn
        omega
      rw [this]
    | some v =>
      rcases h.at hn with ⟨u, hu, h1, _⟩ | ⟨h1, h2⟩
      · rw [hu]
        simp [h1.kind]
      · have : m.units[a.toNat]? = none := by rw [List.getElem?_eq_none_iff]; omega
        rw [this, h2]
        rcases hk with hk | hk
        · simp [smallU]
          intro _ e
          exact hk e.symm
        · omega
  · simp [h0]
theorem More.unit {m n : Md} (h : More m n) {kd a : Int} (hi : Vf.is m kd a = true) : Ext (Vf.unit m a) (Vf.unit n a) := by
  obtain ⟨u, hu, hkd, h0⟩ := is_some hi
  obtain ⟨v, hv, hE⟩ := h.to hu
  unfold Vf.unit
  rw [hu, hv]
  exact hE
theorem More.headE {m n : Md} (h : More m n) {u v : Un} (hE : Ext u v) (hl : v = u ∨ v.code.length ≤ 4000) (h0 : Vf.headE m u = 0) : Vf.headE n v = 0 := by
  obtain ⟨h1, h2, h3⟩ := headE_zero h0
  have e1 : kindly v = kindly u := by unfold kindly; rw [hE.kind]
  have e2 : sized v = true := by
    obtain ⟨t, ht, _⟩ := hE.code
    unfold sized at h2 ⊢
    rw [hE.kind, hE.params, hE.locals]
    simp only [Bool.and_eq_true, decide_eq_true_eq] at h2 ⊢
    refine ⟨⟨h2.1.1, ?_⟩, ?_⟩
    · rw [ht]; have := h2.1.2; simp; omega
    · rcases hl with hl | hl
      · rw [hl]; exact h2.2
      · exact hl
  have e3 : typed n v = typed m u := by
    unfold typed heads
    rw [hE.kind, hE.result, hE.takes, hE.locals]
    have : (fun t => plain t || Vf.is n 3 (t - 10)) = fun t => plain t || Vf.is m 3 (t - 10) := by funext t; rw [h.is 3 _ (.inl (by decide))]
    rw [this]
  unfold Vf.headE
  rw [e1, e2, e3, h1, h3]
  rfl
theorem More.ranged {m n : Md} (h : More m n) {u v : Un} (hE : Ext u v) (c : Ins) (hr : Vf.ranged m u c = true) : Vf.ranged n v c = true := by
  unfold Vf.ranged at hr ⊢
  rw [h.is 2 _ (.inl (by decide)), h.is 3 _ (.inl (by decide)), h.boxes, hE.locals]
  obtain ⟨t, ht, _⟩ := hE.code
  rw [ht]
  split at hr
  · rename_i g1; rw [if_pos g1]; exact hr
  · rename_i g1
    rw [if_neg g1]
    split at hr
    · rename_i g2; rw [if_pos g2]; exact hr
    · rename_i g2
      rw [if_neg g2]
      split at hr
      · rename_i g3
        rw [if_pos g3]
        simp only [Bool.and_eq_true, decide_eq_true_eq] at hr ⊢
        refine ⟨hr.1, ?_⟩
        have := hr.2
        simp
        omega
      · rename_i g3
        rw [if_neg g3]
        split at hr
        · rename_i g4; rw [if_pos g4]; exact hr
        · rename_i g4
          rw [if_neg g4]
          split at hr
          · rename_i g5; rw [if_pos g5]; exact hr
          · rename_i g5
            rw [if_neg g5]
            split at hr
            · rename_i g6
              rw [if_pos g6]
              simp only [Bool.and_eq_true, decide_eq_true_eq] at hr ⊢
              refine ⟨hr.1, ?_⟩
              have := hr.2
              simp
              omega
            · rename_i g6
              rw [if_neg g6]
theorem More.formE {m n : Md} (h : More m n) {u v : Un} (hE : Ext u v) (c : Ins) (hr : Vf.formE m u c = 0) : Vf.formE n v c = 0 := by
  obtain ⟨h1, h2, h3⟩ := formE_zero hr
  unfold Vf.formE
  rw [if_neg (by omega), h.ranged hE c h3]
  rfl
theorem More.forms {m n : Md} (h : More m n) {u v : Un} (hE : Ext u v) (hf : Forms m u) : Forms n v := by
  intro c hc
  obtain ⟨t, ht, _, hops⟩ := hE.code
  rw [ht] at hc
  rcases List.mem_append.1 hc with h1 | h1
  · exact h.formE hE c (hf c h1)
  · have h2 := hops c h1
    unfold Vf.formE
    rw [if_neg (by omega)]
    have : Vf.ranged n v c = true := by
      unfold Vf.ranged
      rw [if_neg (by omega), if_neg (by omega), if_neg (by omega), if_neg (by omega), if_neg (by omega), if_neg (by omega)]
    rw [this]
    rfl

theorem More.reckS {m n : Md} (h : More m n) {u v : Un} (hE : Ext u v) {c : Ins} (hf : Vf.formE m u c = 0) {k : Kn} (hk : Gens m k.st) : Vf.reckS n v c k = Vf.reckS m u c k := by
  obtain ⟨_, _, hrg⟩ := formE_zero hf
  have hpar : ∀ {kd a : Int}, Vf.is m kd a = true → Vf.params n a = Vf.params m a := fun hi => by
    have := h.unit hi
    unfold Vf.params
    rw [this.locals, this.params]
  have hsp : Vf.speak n v c k.st = Vf.speak m u c k.st := by
    unfold Vf.speak
    rw [hE.kind, hE.result, hE.takes]
    by_cases h23 : c.op = 23
    · have h2 : Vf.is m 2 c.a = true := by
        rw [← hrg]
        unfold Vf.ranged
        rw [if_neg (by omega), if_neg (by omega), if_neg (by omega), if_pos h23]
      rw [if_pos h23, if_pos h23, hpar h2, (h.unit h2).result]
    · rw [if_neg h23, if_neg h23]
      by_cases h29 : c.op = 29
      · have h2 : Vf.is m 3 c.a = true := by
          rw [← hrg]
          unfold Vf.ranged
          rw [if_neg (by omega), if_neg (by omega), if_neg (by omega), if_neg (by omega), if_pos h29]
        rw [if_pos h29, if_pos h29, hpar h2]
      · rw [if_neg h29, if_neg h29]
        have hb : c.op = 26 ∨ c.op = 27 → Vf.boxTy n c.a = Vf.boxTy m c.a := fun ho => by
          have h2 : (decide (0 ≤ c.a) && decide (c.a < m.boxes.length)) = true := by
            rw [← hrg]
            unfold Vf.ranged
            rw [if_neg (by omega), if_neg (by omega), if_neg (by omega), if_neg (by omega), if_neg (by omega), if_pos ho]
          simp only [Bool.and_eq_true, decide_eq_true_eq] at h2
          unfold Vf.boxTy
          rw [h.boxes, List.getElem?_append_left (by omega)]
        have hres : Vf.resume n k.st = Vf.resume m k.st := by
          unfold Vf.resume
          cases hst : k.st with
          | nil => rfl
          | cons p st1 =>
            show Vf.andThen (popGen st1) _ = Vf.andThen (popGen st1) _
            cases st1 with
            | nil => rfl
            | cons g st2 =>
              unfold popGen pop
              show Vf.andThen (if 10 ≤ g then Except.ok (g, st2) else Except.error 9) _ = Vf.andThen (if 10 ≤ g then Except.ok (g, st2) else Except.error 9) _
              by_cases hg : 10 ≤ g
              · rw [if_pos hg]
                have hgm : g ∈ k.st := by rw [hst]; simp
                rcases hk g hgm with h1 | ⟨_, h1⟩
                · unfold plain at h1; simp at h1; omega
                · show Vf.andThen (Vf.must (p == (Vf.unit n (g - 10)).takes) 9 st2) (Vf.put (Vf.unit n (g - 10)).result) = Vf.andThen (Vf.must (p == (Vf.unit m (g - 10)).takes) 9 st2) (Vf.put (Vf.unit m (g - 10)).result)
                  rw [(h.unit h1).takes, (h.unit h1).result]
              · rw [if_neg hg]
                rfl
        rw [hres]
        by_cases h26 : c.op = 26
        · rw [if_pos h26, if_pos h26, hb (.inl h26)]
        · rw [if_neg h26, if_neg h26]
          by_cases h27 : c.op = 27
          · rw [if_pos h27, if_pos h27, hb (.inr h27)]
          · rw [if_neg h27, if_neg h27]
  unfold Vf.reckS
  rw [hsp]
  have hlt : Vf.localTy v c.a = Vf.localTy u c.a := by unfold Vf.localTy; rw [hE.locals]
  rw [hlt]
theorem goOn_more {l l' : Nat} (hl : l ≤ l') {k : Kn} {t : Int} {s s' : S} (h : goOn l k t s = .ok s') : goOn l' k t s = .ok s' := by
  unfold goOn at h ⊢
  split at h
  · rename_i hlt
    rw [if_pos (by omega)]
    exact h
  · cases h
theorem goAll_more {l l' : Nat} (hl : l ≤ l') {k : Kn} : ∀ {ts : List Int} {s s' : S}, goAll l k ts s = .ok s' → goAll l' k ts s = .ok s'
  | [], _, _, h => h
  | t :: ts, s, s', h => by
    unfold goAll at h ⊢
    cases hg : goOn l k t s with
    | error e => rw [hg] at h; cases h
    | ok s1 =>
      rw [hg] at h
      rw [goOn_more hl hg]
      exact goAll_more hl h
theorem More.look {m n : Md} (h : More m n) {u v : Un} (hE : Ext u v) (hf : Forms m u) {i : Nat} {s s' : S} (hI : ∀ k, s.come i = some k → i < u.code.length ∧ Gens m k.st) (hs : Vf.look m u i s = .ok s') : Vf.look n v i s = .ok s' := by
  obtain ⟨t, ht, _⟩ := hE.code
  unfold Vf.look at hs ⊢
  cases hc : s.come i with
  | none => rw [hc] at hs; exact hs
  | some k =>
    rw [hc] at hs
    obtain ⟨hi, hg⟩ := hI k hc
    have hx : u.code[i]? = some u.code[i] := List.getElem?_eq_getElem hi
    have hx' : v.code[i]? = some u.code[i] := by rw [ht, List.getElem?_append_left hi]; exact hx
    rw [hx] at hs
    rw [hx']
    have hs1 : Vf.andThen (Vf.reck m u u.code[i] k) (fun k' => goAll u.code.length k' (goes u.code[i] i) s) = .ok s' := hs
    show Vf.andThen (Vf.reck n v u.code[i] k) (fun k' => goAll v.code.length k' (goes u.code[i] i) s) = .ok s'
    unfold Vf.reck at hs1 ⊢
    rw [h.reckS hE (hf _ (List.getElem_mem hi)) hg]
    cases hr : Vf.reckS m u u.code[i] k with
    | error e => rw [hr] at hs1; cases hs1
    | ok st =>
      rw [hr] at hs1
      exact goAll_more (by rw [ht]; simp) hs1
theorem More.flow {m n : Md} (h : More m n) {u v : Un} (hE : Ext u v) (hR : Rt m) (hu : Vf.headE m u = 0) (hf : Forms m u) : ∀ (f : Nat) (s : S), Inv m u s → (Vf.flow m u f s).1 = 0 → (Vf.flow n v f s).1 = 0
  | 0, _, _, _ => rfl
  | f + 1, ⟨come, []⟩, _, _ => rfl
  | f + 1, ⟨come, i :: row⟩, hI, h0 => by
    unfold Vf.flow at h0 ⊢
    simp only at h0 ⊢
    cases hr : Vf.look m u i ⟨come, row⟩ with
    | error e =>
      rw [hr] at h0
      exact absurd h0 (look_nz m u i ⟨come, row⟩ e hr)
    | ok s' =>
      rw [hr] at h0
      rw [h.look (s := ⟨come, row⟩) hE hf (fun k hk => ⟨(hI.come i k hk).1, (hI.come i k hk).2.1⟩) hr]
      exact h.flow hE hR hu hf f s' (look_inv hR hu hf hI hr) h0
theorem mu_more {l l' : Nat} (hl : l ≤ l') (s : S) : mu l s ≤ mu l' s := by
  have : sumTo (fun i => wt (s.come i)) l ≤ sumTo (fun i => wt (s.come i)) l' := by
    obtain ⟨d, rfl⟩ : ∃ d, l' = l + d := ⟨l' - l, by omega⟩
    induction d with
    | zero => exact Nat.le_refl _
    | succ d ih => exact Nat.le_trans (ih (by omega)) (Nat.le_add_right _ _)
  unfold mu
  omega
theorem More.flowF {m n : Md} (h : More m n) {u v : Un} (hE : Ext u v) (hR : Rt m) (hu : Vf.headE m u = 0) (hf : Forms m u) (h0 : (Vf.flowF m u).1 = 0) : (Vf.flowF n v).1 = 0 := by
  have hs : start v = start u := by unfold start; rw [hE.params]
  unfold Vf.flowF at h0 ⊢
  rw [hs]
  refine h.flow hE hR hu hf _ _ (start_inv hu) ?_
  obtain ⟨t, ht, _⟩ := hE.code
  have hm : mu u.code.length (start u) ≤ mu v.code.length (start u) := mu_more (by rw [ht]; simp) _
  rw [flow_fuel hf _ (mu u.code.length (start u) + 1) (start u) (by omega) (by omega)]
  exact h0

theorem gatC_app (rec' : Int → LL → LL) (a b : List Ins) (l : LL) : gatC rec' (a ++ b) l = gatC rec' b (gatC rec' a l) := by unfold gatC; rw [List.foldl_append]
theorem gatC_none (rec' : Int → LL → LL) : ∀ (b : List Ins) (l : LL), (∀ c ∈ b, c.op = 7 ∨ c.op = 5) → gatC rec' b l = l
  | [], _, _ => rfl
  | c :: b, l, h => by
    have h1 := h c List.mem_cons_self
    have e : gstep rec' c l = l := by unfold gstep; rw [if_neg (by omega), if_neg (by omega)]
    show gatC rec' b (gstep rec' c l) = l
    rw [e]
    exact gatC_none rec' b l (fun c hc => h c (List.mem_cons_of_mem _ hc))
theorem More.gat {m n : Md} (h : More m n) (hR : Rt m) : ∀ (f : Nat) (a : Int) (l : LL), Ext (Vf.unit m a) (Vf.unit n a) → Vf.gat n f a l = Vf.gat m f a l
  | 0, _, _, _ => rfl
  | f + 1, a, l, he => by
    obtain ⟨t, ht, _, hops⟩ := he.code
    show gatC (Vf.gat n f) (Vf.unit n a).code l = gatC (Vf.gat m f) (Vf.unit m a).code l
    rw [ht, gatC_app, gatC_none _ t _ hops]
    have hu := unit_in hR a
    refine gatC_like _ _ (fun c hc l => ?_)
    unfold gstep
    by_cases h1 : c.op = 26 ∨ c.op = 27
    · rw [if_pos h1, if_pos h1]
    · rw [if_neg h1, if_neg h1]
      by_cases h2 : c.op = 23 ∨ c.op = 29
      · rw [if_pos h2, if_pos h2]
        obtain ⟨kd, _, hi⟩ := call_is (hu.2 c hc) h2
        rw [h.gat hR f c.a _ (h.unit hi)]
      · rw [if_neg h2, if_neg h2]
theorem More.tc {m n : Md} (h : More m n) (hR : Rt m) (q : Lk) : Vf.tc n q n.units.length = Vf.tc m q m.units.length := by
  rw [h.len, tc_succ]
  have e : comes n m.units.length q = false := by
    unfold comes
    rw [small_gat n 61 _ (by unfold Vf.unit; rw [show ((m.units.length : Nat) : Int).toNat = m.units.length by omega, h.last]; rfl)]
    simp [cnt, idx]
  rw [e]
  simp only [Bool.and_false, Bool.false_eq_true, if_false, Nat.add_zero]
  unfold Vf.tc
  refine List.countP_congr (fun i hi => ?_)
  have hil : i < m.units.length := List.mem_range.1 hi
  rw [h.is 4 (i : Int) (.inr (by omega))]
  have hu : m.units[i]? = some m.units[i] := List.getElem?_eq_getElem hil
  obtain ⟨v, hv, hE⟩ := h.to hu
  have huv : Vf.unit m (i : Int) = m.units[i] := by unfold Vf.unit; rw [show ((i : Nat) : Int).toNat = i by omega, hu]; rfl
  have hvv : Vf.unit n (i : Int) = v := by unfold Vf.unit; rw [show ((i : Nat) : Int).toNat = i by omega, hv]; rfl
  unfold comes
  rw [h.gat hR 61 (i : Int) [] (by rw [hvv, huv]; exact hE)]
/-- A box that is not there nobody comes to. -/
theorem gat_none {m : Md} (hR : Rt m) {op : Int} (ho : op = 26 ∨ op = 27) {b : Int} (hb : (m.boxes.length : Int) ≤ b) : ∀ (f : Nat) (a : Int) (l : LL), cnt (op, b) (Vf.gat m f a l) = cnt (op, b) l
  | 0, _, _ => rfl
  | f + 1, a, l => by
    have hu := unit_in hR a
    show cnt (op, b) (gatC (Vf.gat m f) (Vf.unit m a).code l) = _
    have key : ∀ (cs : List Ins) (l : LL), (∀ c ∈ cs, formE m (Vf.unit m a) c = 0) → cnt (op, b) (gatC (Vf.gat m f) cs l) = cnt (op, b) l := by
      intro cs
      induction cs with
      | nil => intro l _; rfl
      | cons c cs ih =>
        intro l hcs
        show cnt (op, b) (gatC (Vf.gat m f) cs (gstep (Vf.gat m f) c l)) = _
        rw [ih _ (fun c hc => hcs c (List.mem_cons_of_mem _ hc))]
        have hfc := hcs c List.mem_cons_self
        obtain ⟨_, _, hrg⟩ := formE_zero hfc
        unfold gstep
        by_cases h1 : c.op = 26 ∨ c.op = 27
        · rw [if_pos h1, cnt_bump, if_neg]
          intro e
          simp only [Prod.mk.injEq] at e
          have h2 : (decide (0 ≤ c.a) && decide (c.a < m.boxes.length)) = true := by
            rw [← hrg]
            unfold Vf.ranged
            rw [if_neg (by omega), if_neg (by omega), if_neg (by omega), if_neg (by omega), if_neg (by omega), if_pos h1]
          simp only [Bool.and_eq_true, decide_eq_true_eq] at h2
          omega
        · rw [if_neg h1]
          by_cases h2 : c.op = 23 ∨ c.op = 29
          · have hne : ((op, b) : Lk) ≠ (c.op, c.a) := fun e => by simp only [Prod.mk.injEq] at e; omega
            rw [if_pos h2]
            split
            · rw [gat_none hR ho hb f c.a, cnt_bump, if_neg hne]
            · rw [cnt_bump, if_neg hne]
          · rw [if_neg h2]
    exact key _ l hu.2
theorem tc_none {m : Md} (hR : Rt m) {op : Int} (ho : op = 26 ∨ op = 27) {b : Int} (hb : (m.boxes.length : Int) ≤ b) (k : Nat) : Vf.tc m (op, b) k = 0 := by
  unfold Vf.tc
  rw [List.countP_eq_zero]
  intro i _
  unfold comes
  rw [gat_none hR ho hb]
  simp [cnt, idx]

/-- WHAT IS RIGHT STAYS RIGHT, with what nobody comes to. -/
theorem more_right {m n : Md} (h : More m n) (hr : verify m = (0, 0, 0)) : verify n = (0, 0, 0) := by
  have hl := right_iff.1 hr
  obtain ⟨hR, hb⟩ := rt_of (hl 0 (by omega)) (hl 1 (by omega)) (hl 2 (by omega))
  have hsh : ∀ v ∈ n.units, headE n v = 0 ∧ Forms n v ∧ (flowF n v).1 = 0 := fun v hv => by
    obtain ⟨k, hk⟩ := List.getElem?_of_mem hv
    rcases h.at hk with ⟨u, hu, hE, hlen⟩ | ⟨_, h1⟩
    · have hm := hR.heads k u hu
      exact ⟨h.headE hE hlen hm.1, h.forms hE hm.2, h.flowF hE hR hm.1 hm.2 (each_all _ _ _ (hl 4 (by omega)) u (List.mem_of_getElem? hu))⟩
    · rw [h1]
      exact ⟨small_head n, small_forms n, small_flow n⟩
  refine right_iff.2 (fun k hk => ?_)
  rcases (by omega : k = 0 ∨ k = 1 ∨ k = 2 ∨ k = 3 ∨ k = 4 ∨ k = 5) with rfl | rfl | rfl | rfl | rfl | rfl
  · show sizesE n = 0
    unfold sizesE
    rw [h.boxes, h.len]
    have h1 := h.fewb
    have h2 := h.few
    rw [if_neg (by simp; omega)]
  · show (firstE boxE n.boxes 0).1 = 0
    rw [h.boxes]
    refine first_zero _ _ (fun x hx => ?_)
    rcases List.mem_append.1 hx with h1 | h1
    · exact first_all _ _ _ (show (firstE boxE m.boxes 0).1 = 0 from hl 1 (by omega)) x h1
    · simp at h1
      subst h1
      rfl
  · exact each_zero _ _ (fun v hv => shape_zero (hsh v hv).1 (hsh v hv).2.1)
  · show tasksE n = 0
    unfold tasksE
    rw [if_pos]
    rw [List.any_eq_true]
    exact ⟨smallU, List.mem_of_getElem? h.last, rfl⟩
  · exact each_zero _ _ (fun v hv => (hsh v hv).2.2)
  · show (ownersW n).1 = 0
    unfold ownersW
    refine first_zero _ _ (fun b hb => ?_)
    have hbl : b < m.boxes.length + 1 := by have := List.mem_range.1 hb; rw [h.boxes] at this; simpa using this
    unfold ownersE
    rw [h.tc hR, h.tc hR]
    by_cases hbm : b < m.boxes.length
    · exact first_all _ _ _ (show (firstE (ownersE m) (List.range m.boxes.length) 0).1 = 0 from hl 5 (by omega)) b (List.mem_range.2 hbm)
    · rw [tc_none hR (.inl rfl) (by omega), tc_none hR (.inr rfl) (by omega)]
      rfl

end Vf
end Go.Proofs.Ytbkimpimoclobaa


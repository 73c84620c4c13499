/- Shorter code: modules, passes until nothing is done, plainly. -/
import Derived.Test.YtlbihbfgglnfnaaM29
import Derived.Test.YtlbihbfgglnfnaaM12
import Derived.ArgAppend
namespace Go.Proofs.Ytlbihbfgglnfnaa
namespace Ot
open Vf Vm

def pass (m : Md) : Md := ⟨m.boxes, m.units.map passU⟩
theorem pass_al (m : Md) : Al m (pass m) := ⟨rfl, by simp [pass], fun k u h => ⟨over u.code, by simp [pass, h, passU]⟩⟩
theorem over_nil : over [] = [] := rfl
theorem pass_unit (m : Md) (a : Int) : unit (pass m) a = passU (unit m a) := by
  unfold unit pass
  simp only [List.getElem?_map]
  cases m.units[a.toNat]? with
  | none => rfl
  | some u => rfl
def talks (c : Ins) : Bool := c.op == 26 || c.op == 27 || c.op == 23 || c.op == 29
theorem talks_no {c : Ins} (h : c.op ≤ 22) : talks c = false := by
  unfold talks
  simp
  omega
theorem gatC_talk (rec' : Int → LL → LL) : ∀ (cs : List Ins) (l : LL), gatC rec' cs l = gatC rec' (cs.filter talks) l
  | [], _ => rfl
  | c :: cs, l => by
    show gatC rec' cs (gstep rec' c l) = _
    rw [gatC_talk rec' cs]
    by_cases h : talks c = true
    · rw [List.filter_cons_of_pos h]
      rfl
    · rw [List.filter_cons_of_neg h]
      have : gstep rec' c l = l := by
        unfold talks at h
        simp at h
        unfold gstep
        rw [if_neg (by omega), if_neg (by omega)]
      rw [this]
theorem drop_cons {l : List Ins} {k : Nat} {a : Ins} (h : l[k]? = some a) : l.drop k = a :: l.drop (k + 1) := by
  obtain ⟨h1, h2⟩ := List.getElem?_eq_some_iff.1 h
  rw [List.drop_eq_getElem_cons h1, h2]
theorem filter_no {c : Ins} {l : List Ins} (h : c.op ≤ 22) : (c :: l).filter talks = l.filter talks := List.filter_cons_of_neg (by rw [talks_no h]; decide)
theorem change_talk (l : List Ins) {k : Nat} (hk : k < l.length) : (l.drop k).filter talks = (change l k).2.filter talks ++ (l.drop (k + (change l k).1)).filter talks := by
  rcases change_form l k with e | ⟨_, e⟩
  · rw [e, List.getElem?_eq_getElem hk, drop_cons (List.getElem?_eq_getElem hk)]
    rw [← List.filter_append]
    rfl
  · rcases e with ⟨a, b, c, hr, e⟩ | ⟨a, b, hr, e⟩ | ⟨a, b, hr, e⟩ | ⟨a, b, hr, e⟩ | ⟨a, b, hr, e⟩ | ⟨a, ha, hop, _, e⟩
    · obtain ⟨hop, _⟩ := kind_of hr.rk
      have hc : c.op ≤ 22 := by
        have := hr.rk
        unfold reckons at this
        split at this
        · simp at this; omega
        · split at this
          · simp at this; omega
          · cases this
      have hd : (comes a b c).op ≤ 22 := by unfold comes; split <;> simp
      rw [e, drop_cons hr.h0, filter_no (by omega), drop_cons hr.h1, filter_no (by have := hr.same; omega), drop_cons hr.h2, filter_no hc, filter_no hd]
      rfl
    · have hop : a.op = 1 ∨ a.op = 2 ∨ a.op = 3 := by simpa using hr.op0
      rw [e, drop_cons hr.h0, filter_no (by omega), drop_cons hr.h1, filter_no (by have := hr.op1; omega)]
      rfl
    · have hop : a.op = 1 := by simpa using hr.op0
      rw [e, drop_cons hr.h0, filter_no (by omega), drop_cons hr.h1, filter_no (by have := hr.op1; omega)]
      rfl
    · have hop : a.op = 2 := by simpa using hr.op0
      rw [e, drop_cons hr.h0, filter_no (by omega), drop_cons hr.h1, filter_no (by have := hr.op1; omega)]
      rfl
    · have hop : a.op = 2 := by simpa using hr.op0
      rw [e, drop_cons hr.h0, filter_no (by omega), drop_cons hr.h1, filter_no (by have := hr.op1; omega)]
      unfold put5
      split <;> rfl
    · rw [e, drop_cons ha, filter_no (by omega)]
      rfl
theorem out_talk (l : List Ins) : ∀ (f k : Nat), l.length ≤ k + f → (out (pieces l f k)).filter talks = (l.drop k).filter talks
  | 0, k, h => by rw [List.drop_eq_nil_of_le (by omega)]; rfl
  | f + 1, k, h => by
    have hp := change_len l k
    by_cases hk : k < l.length
    · have e : pieces l (f + 1) k = (k, change l k) :: pieces l f (k + (change l k).1) := by rw [pieces, if_pos hk]
      have eo : out ((k, change l k) :: pieces l f (k + (change l k).1)) = (change l k).2 ++ out (pieces l f (k + (change l k).1)) := rfl
      rw [e, eo, List.filter_append, out_talk l f _ (by omega), change_talk l hk]
    · rw [pieces, if_neg hk, List.drop_eq_nil_of_le (by omega)]
      rfl
theorem moved_talk (ps : List (Nat × Ch)) : ∀ l : List Ins, (l.map (moved ps)).filter talks = l.filter talks
  | [] => rfl
  | c :: l => by
    rw [List.map_cons]
    by_cases hj : jmp c = true
    · have h1 : c.op ≤ 22 := by simp only [jmp, Bool.or_eq_true, beq_iff_eq] at hj; omega
      have h2 : (moved ps c).op ≤ 22 := by unfold moved; rw [if_pos hj]; exact h1
      rw [filter_no h1, filter_no h2, moved_talk ps l]
    · have : moved ps c = c := by unfold moved; rw [if_neg hj]
      rw [this, List.filter_cons, List.filter_cons, moved_talk ps l]
theorem over_talk (l : List Ins) : (over l).filter talks = l.filter talks := by
  unfold over
  rw [moved_talk]
  have := out_talk l l.length 0 (by omega)
  rw [List.drop_zero] at this
  exact this
theorem pass_gat (m : Md) : ∀ (f : Nat) (a : Int) (l : LL), gat (pass m) f a l = gat m f a l
  | 0, _, _ => rfl
  | f + 1, a, l => by
    show gatC (gat (pass m) f) (unit (pass m) a).code l = gatC (gat m f) (unit m a).code l
    have e : gat (pass m) f = gat m f := funext fun a => funext fun l => pass_gat m f a l
    rw [e, pass_unit, gatC_talk, gatC_talk _ (unit m a).code]
    show gatC _ ((over (unit m a).code).filter talks) l = _
    rw [over_talk]
theorem pass_tc (m : Md) (q : Lk) (k : Nat) : tc (pass m) q k = tc m q k := by
  unfold tc
  congr 1
  funext i
  rw [(pass_al m).is]
  unfold Vf.comes
  rw [pass_gat]
set_option maxHeartbeats 400000 in
/-- WHAT IS RIGHT STAYS RIGHT, behind a pass. -/
theorem pass_right {m : Md} (hr : verify m = (0, 0, 0)) : verify (pass m) = (0, 0, 0) := by
  have hl := right_iff.1 hr
  have h := pass_al m
  obtain ⟨hR, hb⟩ := rt_of (hl 0 (by omega)) (hl 1 (by omega)) (hl 2 (by omega))
  have h4 : (eachW (flowF m) m.units 0).1 = 0 := hl 4 (by omega)
  have hsh : ∀ v ∈ (pass m).units, headE (pass m) v = 0 ∧ Forms (pass m) v ∧ (flowF (pass m) v).1 = 0 := fun v hv => by
    have hv' : v ∈ m.units.map passU := hv
    obtain ⟨u, hu, rfl⟩ := List.mem_map.1 hv'
    obtain ⟨k, hk⟩ := List.getElem?_of_mem hu
    have hm := hR.heads k u hk
    have hfl := each_all _ _ _ h4 u hu
    have hc : 0 < u.code.length := by
      obtain ⟨_, h2, _⟩ := headE_zero hm.1
      unfold sized at h2
      simp only [Bool.and_eq_true, decide_eq_true_eq] at h2
      exact h2.1.2
    obtain ⟨K, hK⟩ := fix_of hm.2 hc hfl
    exact ⟨pass_head h hm.1, pass_forms h hm.2, fix_back (pass_forms h hm.2) (pass_fix h hm.2 hc hK)⟩
  refine right_iff.2 (fun k hk => ?_)
  rcases (by omega : k = 0 ∨ k = 1 ∨ k = 2 ∨ k = 3 ∨ k = 4 ∨ k = 5) with rfl | rfl | rfl | rfl | rfl | rfl
  · show sizesE (pass m) = 0
    have h0 : sizesE m = 0 := hl 0 (by omega)
    unfold sizesE at h0 ⊢
    rw [h.len]
    exact h0
  · have h0 : (firstE boxE m.boxes 0).1 = 0 := hl 1 (by omega)
    show (firstE boxE (pass m).boxes 0).1 = 0
    rw [h.boxes]
    exact h0
  · show (eachW (shapeF (pass m)) (pass m).units 0).1 = 0
    exact each_zero _ _ (fun v hv => shape_zero (hsh v hv).1 (hsh v hv).2.1)
  · show tasksE (pass m) = 0
    have h0 : tasksE m = 0 := hl 3 (by omega)
    have e : (pass m).units.any (fun u => u.kind == 4) = m.units.any (fun u => u.kind == 4) := by
      show (m.units.map passU).any _ = _
      rw [List.any_map]
      have : ((fun u : Un => u.kind == 4) ∘ passU) = fun u => u.kind == 4 := funext fun u => rfl
      rw [this]
    unfold tasksE at h0 ⊢
    rw [e]
    exact h0
  · show (eachW (flowF (pass m)) (pass m).units 0).1 = 0
    exact each_zero _ _ (fun v hv => (hsh v hv).2.2)
  · show (ownersW (pass m)).1 = 0
    have h0 : (ownersW m).1 = 0 := hl 5 (by omega)
    have e : ownersE (pass m) = ownersE m := by
      funext b
      unfold ownersE
      rw [pass_tc, pass_tc, h.len]
    unfold ownersW at h0 ⊢
    rw [e]
    exact h0

theorem put_jump {l : List Ins} {x : Nat} (hx : x < l.length) {d : Ins} (hd : d ∈ (change l x).2) (hj : jmp d = true) : ∃ e ∈ l, jmp e = true ∧ e.a = d.a := by
  rcases change_form l x with h | ⟨_, h⟩
  · rw [h] at hd
    simp only [List.mem_singleton] at hd
    rw [List.getElem?_eq_getElem hx] at hd
    refine ⟨d, ?_, hj, rfl⟩
    rw [hd]
    exact List.getElem_mem hx
  · rcases h with ⟨a, b, c, hr, e⟩ | ⟨a, b, hr, e⟩ | ⟨a, b, hr, e⟩ | ⟨a, b, hr, e⟩ | ⟨a, b, hr, e⟩ | ⟨a, _, _, _, e⟩
    · rw [e] at hd
      simp only [List.mem_singleton] at hd
      subst hd
      unfold comes at hj
      split at hj <;> simp [jmp] at hj
    · rw [e] at hd; cases hd
    · rw [e] at hd
      simp only [put3, List.mem_singleton] at hd
      subst hd
      simp [jmp] at hj
    · rw [e] at hd
      simp only [put4, List.mem_singleton] at hd
      subst hd
      simp [jmp] at hj
    · rw [e] at hd
      simp only [put5] at hd
      split at hd
      · simp only [List.mem_singleton] at hd
        subst hd
        exact ⟨b, mem_at hr.h1, by simp [jmp, hr.op1], rfl⟩
      · cases hd
    · rw [e] at hd; cases hd
theorem out_jump {l : List Ins} (hl : Jumps l) {d : Ins} (hd : d ∈ out (all l)) (hj : jmp d = true) : 0 ≤ d.a ∧ Begins (all l) d.a.toNat := by
  obtain ⟨p, hp, hd⟩ := List.mem_flatMap.1 hd
  obtain ⟨_, h1, h2⟩ := pieces_mem _ _ _ _ hp
  rw [h2] at hd
  obtain ⟨e, he, hej, hea⟩ := put_jump h1 hd hj
  obtain ⟨a0, a1⟩ := hl e he hej
  rw [hea] at a0 a1
  refine ⟨a0, begins_aimed (by omega) ?_⟩
  unfold aimed
  rw [List.any_eq_true]
  refine ⟨e, he, ?_⟩
  rw [hej, hea]
  simp
  omega
theorem over_jumps {l : List Ins} (hl : Jumps l) : Jumps (over l) := fun c hc hj => by
  have hc' : c ∈ (out (all l)).map (moved (all l)) := hc
  obtain ⟨d, hd, rfl⟩ := List.mem_map.1 hc'
  by_cases hjd : jmp d = true
  · obtain ⟨_, hb⟩ := out_jump hl hd hjd
    have e : moved (all l) d = { d with a := (now (all l) d.a.toNat : Nat) } := by unfold moved; rw [if_pos hjd]
    have := now_lt hb
    rw [← over_len] at this
    rw [e]
    exact ⟨by simp, by show ((now (all l) d.a.toNat : Nat) : Int) < _; omega⟩
  · have e : moved (all l) d = d := by unfold moved; rw [if_neg hjd]
    rw [e] at hj
    exact absurd hj hjd
theorem shorter_times : ∀ (f : Nat) {l : List Ins}, Jumps l → l.length ≤ f → ∀ n, l.length ≤ n → shorter f l = times n l
  | 0, l, _, h, n, _ => by
    obtain rfl : l = [] := List.eq_nil_of_length_eq_zero (by omega)
    rw [times_same over_nil]
    rfl
  | f + 1, l, hj, h, n, hn => by
    unfold shorter
    split
    · rename_i hlt
      obtain ⟨n', rfl⟩ : ∃ n', n = n' + 1 := ⟨n - 1, by omega⟩
      rw [shorter_times f (over_jumps hj) (by omega) n' (by omega), times_one, times_succ]
    · rename_i hlt
      have := over_same hj hlt
      rw [times_same this n, this]
theorem short_times {l : List Ins} (hj : Jumps l) {n : Nat} (hn : l.length ≤ n) : short l = times n l := shorter_times _ hj (Nat.le_refl _) n hn
theorem short_over {l : List Ins} (hj : Jumps l) : over (short l) = short l := by
  rw [short_times hj (Nat.le_refl _), ← times_succ, ← short_times hj (Nat.le_succ _), short_times hj (Nat.le_refl _)]
theorem short_same {l : List Ins} (h : over l = l) : short l = l := by
  unfold short
  cases l.length with
  | zero => rfl
  | succ f =>
    unfold shorter
    rw [h, if_neg (by omega)]
theorem short_len : ∀ (f : Nat) (l : List Ins), (shorter f l).length ≤ l.length ∧ (0 < l.length → 0 < (shorter f l).length)
  | 0, l => ⟨Nat.le_refl _, fun h => h⟩
  | f + 1, l => by
    have h1 := over_le l
    unfold shorter
    split
    · have := short_len f (over l)
      exact ⟨by omega, fun h => this.2 (over_pos h)⟩
    · exact ⟨h1, fun h => over_pos h⟩
def shortU (u : Un) : Un := { u with code := short u.code }
def shortM (m : Md) : Md := ⟨m.boxes, m.units.map shortU⟩
def passes (n : Nat) (m : Md) : Md := n.repeat pass m
theorem passes_units (n : Nat) (m : Md) : passes n m = ⟨m.boxes, m.units.map fun u => { u with code := times n u.code }⟩ := by
  induction n with
  | zero =>
    show m = _
    have : (fun u : Un => { u with code := times 0 u.code }) = id := funext fun u => rfl
    rw [this, List.map_id]
  | succ n ih =>
    show pass (passes n m) = _
    rw [ih]
    unfold pass
    simp only [List.map_map]
    rfl
theorem passes_right {m : Md} (h : verify m = (0, 0, 0)) : ∀ n, verify (passes n m) = (0, 0, 0)
  | 0 => h
  | n + 1 => pass_right (passes_right h n)
theorem right_jumps {m : Md} (h : verify m = (0, 0, 0)) {u : Un} (hu : u ∈ m.units) : Jumps u.code ∧ 0 < u.code.length ∧ u.code.length ≤ 4000 := by
  have hl := right_iff.1 h
  obtain ⟨hR, _⟩ := rt_of (hl 0 (by omega)) (hl 1 (by omega)) (hl 2 (by omega))
  obtain ⟨k, hk⟩ := List.getElem?_of_mem hu
  have hm := hR.heads k u hk
  obtain ⟨_, h2, _⟩ := headE_zero hm.1
  unfold sized at h2
  simp only [Bool.and_eq_true, decide_eq_true_eq] at h2
  exact ⟨forms_jumps hm.2, h2.1.2, h2.2⟩
theorem short_passes {m : Md} (h : verify m = (0, 0, 0)) {n : Nat} (hn : 4000 ≤ n) : shortM m = passes n m := by
  rw [passes_units]
  unfold shortM
  congr 1
  refine List.map_congr_left (fun u hu => ?_)
  obtain ⟨h1, _, h3⟩ := right_jumps h hu
  unfold shortU
  rw [short_times h1 (Nat.le_trans h3 hn)]
/-- WHAT IS RIGHT STAYS RIGHT. -/
theorem short_right {m : Md} (h : verify m = (0, 0, 0)) : verify (shortM m) = (0, 0, 0) := by
  obtain ⟨n, hn⟩ : ∃ n, 4000 ≤ n := ⟨_, Nat.le_refl _⟩
  rw [short_passes h hn]
  exact passes_right h n
/-- SHORT IS SHORT. -/
theorem short_once {m : Md} (h : verify m = (0, 0, 0)) : shortM (shortM m) = shortM m := by
  unfold shortM
  simp only [List.map_map]
  congr 1
  refine List.map_congr_left (fun u hu => ?_)
  obtain ⟨h1, _, _⟩ := right_jumps h hu
  show ({ shortU u with code := short (short u.code) } : Un) = shortU u
  rw [short_same (short_over h1)]
  rfl
end Ot
end Go.Proofs.Ytlbihbfgglnfnaa

/- For the walk of opt.over: what is put there is numbers; rows in the same room. -/
namespace Go.Proofs.Ytlbihbfgglnfnaa.Ow
open Go.RowKit Vf Vm Ot

def Is64 (c : Ins) : Prop := I64 c.op ∧ I64 c.a ∧ I64 c.n
theorem wrap_i64 (n : Int) : I64 (wrap n) := by
  unfold Vm.wrap wrap64
  constructor <;> omega
theorem tmod_i64 {a b : Int} (h : I64 a) : I64 (a.tmod b) := by
  have h1 : (a.tmod b).natAbs = a.natAbs % b.natAbs := Int.natAbs_tmod a b
  have h2 := Nat.mod_le a.natAbs b.natAbs
  by_cases h0 : 0 ≤ a
  · have := Int.tmod_nonneg b h0
    constructor <;> omega
  · have h3 : a.tmod b ≤ 0 := by
      have := Int.tmod_nonneg b (show 0 ≤ -a by omega)
      rw [Int.neg_tmod] at this
      omega
    constructor <;> omega
theorem yes_i64 (b : Bool) : I64 (yes b) := by cases b <;> constructor <;> decide
theorem two_i64 {op a b : Int} (ha : I64 a) : I64 (two op a b) := by
  unfold two
  split
  · exact wrap_i64 _
  split
  · exact wrap_i64 _
  split
  · exact wrap_i64 _
  split
  · exact wrap_i64 _
  split
  · exact tmod_i64 ha
  · exact yes_i64 _
theorem word_i64 {c : Ins} (h : Is64 c) : I64 (word c) := by
  unfold word
  split
  · exact h.2.2
  · exact h.2.1
theorem put_i64 {l : List Ins} (hl : ∀ c ∈ l, Is64 c) {x : Nat} (hx : x < l.length) {d : Ins} (hd : d ∈ (change l x).2) : Is64 d := by
  have z : I64 0 := by constructor <;> decide
  have o1 : I64 1 := by constructor <;> decide
  have o2 : I64 2 := by constructor <;> decide
  have o21 : I64 21 := by constructor <;> decide
  rcases change_form l x with h | ⟨_, h⟩
  · rw [h, List.getElem?_eq_getElem hx] at hd
    simp only [List.mem_singleton, Option.getD_some] at hd
    rw [hd]
    exact hl _ (List.getElem_mem hx)
  · rcases h with ⟨a, b, c, hr, e⟩ | ⟨a, b, hr, e⟩ | ⟨a, b, hr, e⟩ | ⟨a, b, hr, e⟩ | ⟨a, b, hr, e⟩ | ⟨a, _, _, _, e⟩
    · rw [e] at hd
      simp only [List.mem_singleton] at hd
      subst hd
      have ha := word_i64 (hl a (List.mem_of_getElem? hr.h0))
      unfold Ot.comes
      split
      · exact ⟨o1, z, two_i64 ha⟩
      · exact ⟨o2, two_i64 ha, z⟩
    · rw [e] at hd; cases hd
    · rw [e] at hd
      simp only [put3, List.mem_singleton] at hd
      subst hd
      exact ⟨o1, z, wrap_i64 _⟩
    · rw [e] at hd
      simp only [put4, List.mem_singleton] at hd
      subst hd
      exact ⟨o2, wrap_i64 _, z⟩
    · rw [e] at hd
      simp only [put5] at hd
      split at hd
      · simp only [List.mem_singleton] at hd
        subst hd
        exact ⟨o21, (hl b (List.mem_of_getElem? hr.h1)).2.1, z⟩
      · cases hd
    · rw [e] at hd; cases hd
theorem code_is64 {B : Nat} {w : World} {l : List Ins} {a : Option Addr} (h : CodeIn B w l a) : ∀ c ∈ l, Is64 c := fun c hc => by
  obtain ⟨i, hi⟩ := List.getElem?_of_mem hc
  obtain ⟨h1, h2, h3, _⟩ := h i c hi
  exact ⟨h1, h2, h3⟩

abbrev inC (c : Ins) : List Value := [.int .i64 c.op, .int .i64 c.a, .int .i64 c.n]
/-- One more instruction, in the same room. -/
theorem code_push {B : Nat} {w : World} {o : List Ins} {g N : Nat} {c : Ins} (h : CodeIn B w o (some ⟨g, 0, none⟩)) (hb : Blk w g 41 N) (hN : o.length * 3 + 3 ≤ N) (hB : g < B) (hc : Is64 c) : CodeIn B (w.setCells g (o.length * 3) (inC c)) (o ++ [c]) (some ⟨g, 0, none⟩) := fun i x hx => by
  by_cases e : i < o.length
  · rw [List.getElem?_append_left e] at hx
    obtain ⟨h1, h2, h3, b, off, e', hb', c0, c1, c2⟩ := h i x hx
    cases e'
    refine ⟨h1, h2, h3, g, 0, rfl, hb', ?_, ?_, ?_⟩
    · rw [World.cell?_setCells_out _ _ _ _ _ (fun _ _ => .inl (by show 0 + i * 3 < o.length * 3; omega))]
      exact c0
    · rw [World.cell?_setCells_out _ _ _ _ _ (fun _ _ => .inl (by show 0 + i * 3 + 1 < o.length * 3; omega))]
      exact c1
    · rw [World.cell?_setCells_out _ _ _ _ _ (fun _ _ => .inl (by show 0 + i * 3 + 2 < o.length * 3; omega))]
      exact c2
  · rw [List.getElem?_append_right (by omega)] at hx
    have hi : i = o.length := by
      have := (List.getElem?_eq_some_iff.1 hx).1
      simp at this
      omega
    subst hi
    simp at hx
    subst hx
    have hin := World.cell?_setCells_in g (inC c) (o.length * 3) w (fun j hj => (hb.cell (by simp at hj; omega)).1)
    refine ⟨hc.1, hc.2.1, hc.2.2, g, 0, rfl, hB, ?_, ?_, ?_⟩
    · have := hin 0 (by simp)
      simpa using this
    · have := hin 1 (by simp)
      simpa using this
    · have := hin 2 (by simp)
      simpa using this
theorem code_behind {B : Nat} {w : World} {r : List Ins} {g k off : Nat} {vs : List Value} (h : CodeIn B w r (some ⟨g, off, none⟩)) (hk : k + vs.length ≤ off) : CodeIn B (w.setCells g k vs) r (some ⟨g, off, none⟩) := fun i x hx => by
  obtain ⟨h1, h2, h3, b, o, e', hb', c0, c1, c2⟩ := h i x hx
  cases e'
  refine ⟨h1, h2, h3, g, off, rfl, hb', ?_, ?_, ?_⟩
  · rw [World.cell?_setCells_out _ _ _ _ _ (fun _ _ => .inr (by show k + vs.length ≤ off + i * 3; omega))]
    exact c0
  · rw [World.cell?_setCells_out _ _ _ _ _ (fun _ _ => .inr (by show k + vs.length ≤ off + i * 3 + 1; omega))]
    exact c1
  · rw [World.cell?_setCells_out _ _ _ _ _ (fun _ _ => .inr (by show k + vs.length ≤ off + i * 3 + 2; omega))]
    exact c2
theorem blk_sets {g N : Nat} {t : TypeId} {b : Nat} : ∀ (vs : List Value) (o : Nat) {w : World}, Blk w g t N → Blk (w.setCells b o vs) g t N
  | [], _, _, h => h
  | v :: r, o, _, h => blk_sets r (o + 1) (h.set _ v)
theorem heap_sets (b : Nat) {k : Nat} (hk : k ≠ b) : ∀ (vs : List Value) (o : Nat) (w : World), (w.setCells b o vs).heap[k]? = w.heap[k]?
  | [], _, _ => rfl
  | v :: r, o, w => (heap_sets b hk r (o + 1) _).trans (Below.heap_setCell w ⟨b, o, none⟩ v k hk)
theorem size_sets (b : Nat) : ∀ (vs : List Value) (o : Nat) (w : World), (w.setCells b o vs).heap.size = w.heap.size
  | [], _, _ => rfl
  | v :: r, o, w => (size_sets b r (o + 1) _).trans (by simp)
theorem os_sets (b : Nat) : ∀ (vs : List Value) (o : Nat) (w : World), (w.setCells b o vs).os = w.os ∧ (w.setCells b o vs).tape = w.tape ∧ (w.setCells b o vs).output = w.output
  | [], _, _ => ⟨rfl, rfl, rfl⟩
  | v :: r, o, w => os_sets b r (o + 1) (w.setCell ⟨b, o, none⟩ v)
/-- Nothing but these blocks has turned. -/
structure Pch (S : Nat → Prop) (w w' : World) : Prop where
  os : w'.os = w.os
  tape : w'.tape = w.tape
  output : w'.output = w.output
  size : w.heap.size ≤ w'.heap.size
  block : ∀ k, k < w.heap.size → ¬ S k → w'.heap[k]? = w.heap[k]?
theorem Pch.refl (S : Nat → Prop) (w : World) : Pch S w w := ⟨rfl, rfl, rfl, Nat.le_refl _, fun _ _ _ => rfl⟩
theorem Pch.trans {S : Nat → Prop} {a b c : World} (h : Pch S a b) (k : Pch S b c) : Pch S a c := ⟨k.os.trans h.os, k.tape.trans h.tape, k.output.trans h.output, Nat.le_trans h.size k.size, fun j h1 h2 => (k.block j (Nat.lt_of_lt_of_le h1 h.size) h2).trans (h.block j h1 h2)⟩
theorem Pch.mono {S T : Nat → Prop} {a b : World} (h : Pch S a b) (hs : ∀ k, S k → T k) : Pch T a b := ⟨h.os, h.tape, h.output, h.size, fun j h1 h2 => h.block j h1 (fun e => h2 (hs j e))⟩
theorem Pch.of {S : Nat → Prop} {a b : World} (h : Below a.heap.size a b) : Pch S a b := ⟨h.os, h.tape, h.output, h.size, fun j h1 _ => h.block j h1⟩
theorem Pch.gm {S : Nat → Prop} {a b : World} {g : Nat} (h : a.grownBy b (some g)) (hg : S g) : Pch S a b := ⟨h.os, h.tape, h.output, h.size, fun j h1 h2 => h.block j h1 (fun e => by cases e; exact h2 hg)⟩
theorem Pch.set {S : Nat → Prop} {a b : World} (h : Pch S a b) (p : Addr) (hp : S p.block) (v : Value) : Pch S a (b.setCell p v) := ⟨h.os, h.tape, h.output, by simpa using h.size, fun j h1 h2 => (Below.heap_setCell _ p _ _ (fun e => h2 (by rw [e]; exact hp))).trans (h.block j h1 h2)⟩
theorem Pch.sets {S : Nat → Prop} {a b : World} (h : Pch S a b) (g : Nat) (hg : S g) (o : Nat) (vs : List Value) : Pch S a (b.setCells g o vs) := ⟨(os_sets g vs o b).1.trans h.os, (os_sets g vs o b).2.1.trans h.tape, (os_sets g vs o b).2.2.trans h.output, by rw [size_sets]; exact h.size, fun j h1 h2 => (heap_sets g (fun e => h2 (by rw [e]; exact hg)) vs o b).trans (h.block j h1 h2)⟩
/-- An append of one instruction, in the same room; of none. -/
theorem run_room {w : World} {g n cap : Nat} {b off cp : Nat} {c : Ins} (hb : Blk w g 41 (cap * 3)) (hn : n + 1 ≤ cap) (h0 : w.cell? ⟨b, off, none⟩ = some (.int .i64 c.op)) (h1 : w.cell? ⟨b, off + 1, none⟩ = some (.int .i64 c.a)) (h2 : w.cell? ⟨b, off + 2, none⟩ = some (.int .i64 c.n)) :
    (Builtin.append_ #[36, 36] 36 #[.slice (some ⟨g, 0, none⟩) n cap, .slice (some ⟨b, off, none⟩) 1 cp]).run Try.prog w = .ok (.slice (some ⟨g, 0, none⟩) (n + 1) cap) (w.setCells g (n * 3) (inC c)) := by
  obtain ⟨i, hi, _, hz1, _⟩ : ∃ i, Try.prog.info? 41 = some i ∧ i.zero = some (.agg #[.int .i64 0, .int .i64 0, .int .i64 0]) ∧ i.size = 3 ∧ i.bytes = 24 := by
    have h : (Try.prog.info? 41).map (fun i => (i.zero, i.size, i.bytes)) = some (some (.agg #[.int .i64 0, .int .i64 0, .int .i64 0]), 3, 24) := by kernel_rfl
    obtain ⟨i, hi, h⟩ := Option.map_eq_some_iff.1 h
    simp only [Prod.mk.injEq] at h
    exact ⟨i, hi, h.1, h.2.1, h.2.2⟩
  have := run_append_room_cells (P := Try.prog) (w := w) 36 36 41 i Try.underlying36 hi g 0 n cap ⟨b, off, none⟩ 1 cp (inC c) (by rw [hz1]; rfl) (fun j u hu => by
    rcases j with _ | _ | _ | j
    · cases hu; exact h0
    · cases hu; exact h1
    · cases hu; exact h2
    · simp at hu) (fun u hu => by
    simp at hu
    rcases hu with rfl | rfl | rfl <;> rfl) hn (fun j hj => (hb.cell (by rw [hz1]; simp at hj; omega)).1) (fun j hj => (hb.cell (by rw [hz1]; simp at hj; omega)).2)
  rw [hz1, Nat.zero_add] at this
  exact this
theorem wpList_append_run {P : Program} {w : World} {ops : Array Oper} {rest : List Oper} {o : Oper} {a : Act} {Q : Exit → Act → World → Prop} (hgd : o.guard = none) (s x : Operand) (t : TypeId)
    (ho : o.op = .call { callee := .builtin .append, args := #[s, x], argTypes := #[t, t] }) (v vx v' : Value) (w' : World) (hs : a.eval s = v) (hx : a.eval x = vx) (hrun : (Builtin.append_ #[t, t] o.type #[v, vx]).run P w = .ok v' w')
    (h : wpList P ops Q rest (a.put o.dst v') w') : wpList P ops Q (o :: rest) a w := by
  refine wpList_plain hgd fun K hK => ?_
  unfold Oper.wp
  simp [execOp, ho, resolve, invoke, builtin, hs, hx, hrun, Result.andThen]
  exact hK _ _ h
theorem run_none {w : World} {g n cap : Nat} (hn : n ≤ cap) : (Builtin.append_ #[36, 36] 36 #[.slice (some ⟨g, 0, none⟩) n cap, .slice none 0 0]).run Try.prog w = .ok (.slice (some ⟨g, 0, none⟩) n cap) w := by
  obtain ⟨i, hi⟩ : ∃ i, Try.prog.info? 41 = some i := by
    have h : (Try.prog.info? 41).isSome = true := by kernel_rfl
    exact Option.isSome_iff_exists.1 h
  simp [Builtin.append_, run_underlying Try.underlying36, sizeOf, typeInfo, hi, Builtin.lenOf, Builtin.firstCells, hn, storeCells]
end Go.Proofs.Ytlbihbfgglnfnaa.Ow


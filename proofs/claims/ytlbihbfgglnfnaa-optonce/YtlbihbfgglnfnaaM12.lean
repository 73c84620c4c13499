/- The walk of opt.moveJumps: jumps go where their places have come to. -/
import Derived.Test.YtlbihbfgglnfnaaM11
import Derived.Laws.IdiomCopy
import Derived.Test.YtlbihbfgglnfnaaM5
namespace Go.Proofs.Ytlbihbfgglnfnaa.Ow
open Go.RowKit Vf Vm Ot

/-- A block of so many cells. -/
def Blk (w : World) (g : Nat) (t : TypeId) (N : Nat) : Prop := ∃ cur : Array Value, w.heap[g]? = some (.cells cur t (0, 0)) ∧ cur.size = N
theorem Blk.lt {w : World} {g N : Nat} {t : TypeId} (h : Blk w g t N) : g < w.heap.size := by
  obtain ⟨cur, h1, _⟩ := h
  exact lt_of_block h1
theorem Blk.keep {w w' : World} {g N : Nat} {t : TypeId} (h : Blk w g t N) (hk : w'.heap[g]? = w.heap[g]?) : Blk w' g t N := by
  obtain ⟨cur, h1, h2⟩ := h
  exact ⟨cur, hk.trans h1, h2⟩
theorem Blk.cell {w : World} {g N i : Nat} {t : TypeId} (h : Blk w g t N) (hi : i < N) : (w.cell? ⟨g, i, none⟩).isSome = true ∧ w.frozen? ⟨g, i, none⟩ = false := by
  obtain ⟨cur, h1, h2⟩ := h
  have : i < cur.size := by omega
  simp [World.cell?, World.frozen?, h1, this]
theorem Blk.set {w : World} {g N : Nat} {t : TypeId} (h : Blk w g t N) (p : Addr) (v : Value) : Blk (w.setCell p v) g t N := by
  obtain ⟨cur, h1, h2⟩ := h
  by_cases e : g = p.block
  · subst e
    obtain ⟨b, o, s⟩ := p
    cases s with
    | none =>
      refine ⟨cur.setIfInBounds o v, ?_, by simpa using h2⟩
      simp only [World.setCell, Array.getElem?_modify, if_true] at h1 ⊢
      rw [h1]
      rfl
    | some k =>
      refine ⟨cur, ?_, h2⟩
      simp only [World.setCell, Array.getElem?_modify, if_true] at h1 ⊢
      rw [h1]
      rfl
  · exact ⟨cur, (Below.heap_setCell _ p _ _ e).trans h1, h2⟩
theorem set_same {w : World} {b o : Nat} {v u : Value} (h : w.cell? ⟨b, o, none⟩ = some u) : (w.setCell ⟨b, o, none⟩ v).cell? ⟨b, o, none⟩ = some v := by
  have := World.cell?_setCells_in b [v] o w (fun j hj => by
    obtain rfl : j = 0 := by simpa using hj
    rw [Nat.add_zero, h]
    rfl) 0 (by simp)
  simpa [World.setCells] using this
theorem set_other {w : World} {b o b' o' : Nat} {v : Value} (h : b' = b → o' ≠ o) : (w.setCell ⟨b, o, none⟩ v).cell? ⟨b', o', none⟩ = w.cell? ⟨b', o', none⟩ := by
  have := World.cell?_setCells_out b [v] o w ⟨b', o', none⟩ (fun e _ => by have := h e; simp; omega)
  simpa [World.setCells] using this
/-- One instruction's number, set. -/
theorem code_set {B : Nat} {w : World} {l : List Ins} {g k : Nat} {c : Ins} (h : CodeIn B w l (some ⟨g, 0, none⟩)) (hc : l[k]? = some c) {v : Int} (hv : I64 v) : CodeIn B (w.setCell ⟨g, k * 3 + 1, none⟩ (.int .i64 v)) (l.set k { c with a := v }) (some ⟨g, 0, none⟩) := fun i x hx => by
  by_cases e : i = k
  · subst e
    have hi := (List.getElem?_eq_some_iff.1 hc).1
    rw [List.getElem?_set_self hi] at hx
    cases hx
    obtain ⟨h1, h2, h3, b, o, e, hb, c0, c1, c2⟩ := h i c hc
    cases e
    refine ⟨h1, hv, h3, g, 0, rfl, hb, (set_other (fun _ => by omega)).trans c0, ?_, (set_other (fun _ => by omega)).trans c2⟩
    rw [Nat.zero_add] at c1 ⊢
    exact set_same c1
  · rw [List.getElem?_set_ne (fun h => e h.symm)] at hx
    obtain ⟨h1, h2, h3, b, o, e', hb, c0, c1, c2⟩ := h i x hx
    cases e'
    exact ⟨h1, h2, h3, g, 0, rfl, hb, (set_other (fun _ => by omega)).trans c0, (set_other (fun _ => by omega)).trans c1, (set_other (fun _ => by omega)).trans c2⟩
theorem code_keep {B : Nat} {w w' : World} {l : List Ins} {g off : Nat} (h : CodeIn B w l (some ⟨g, off, none⟩)) (hk : w'.heap[g]? = w.heap[g]?) : CodeIn B w' l (some ⟨g, off, none⟩) := fun i x hx => by
  obtain ⟨h1, h2, h3, b, o, e, hb, c0, c1, c2⟩ := h i x hx
  cases e
  exact ⟨h1, h2, h3, g, off, rfl, hb, (cell_eq hk _).trans c0, (cell_eq hk _).trans c1, (cell_eq hk _).trans c2⟩
theorem set_self {l : List Ins} {k : Nat} {c : Ins} (h : l[k]? = some c) : l.set k c = l := by
  obtain ⟨h1, h2⟩ := List.getElem?_eq_some_iff.1 h
  rw [← h2]
  exact List.set_getElem_self h1
def half (ps : List (Nat × Ch)) (o : List Ins) (k : Nat) : List Ins := (o.take k).map (moved ps) ++ o.drop k
theorem half_at {ps : List (Nat × Ch)} {o : List Ins} {k : Nat} {c : Ins} (h : o[k]? = some c) : (half ps o k)[k]? = some c ∧ half ps o (k + 1) = (half ps o k).set k (moved ps c) := by
  obtain ⟨hk, hc⟩ := List.getElem?_eq_some_iff.1 h
  have hl : ((o.take k).map (moved ps)).length = k := by simp; omega
  unfold half
  refine ⟨?_, ?_⟩
  · rw [List.getElem?_append_right (by omega), hl, Nat.sub_self, List.getElem?_drop, Nat.add_zero]
    exact h
  · rw [List.set_append_right _ _ (by omega), hl, Nat.sub_self, List.drop_eq_getElem_cons hk, hc, List.set_cons_zero, List.take_add_one, h]
    simp
theorem half_zero (ps : List (Nat × Ch)) (o : List Ins) : half ps o 0 = o := by simp [half]
theorem half_all (ps : List (Nat × Ch)) (o : List Ins) : half ps o o.length = o.map (moved ps) := by simp [half]
theorem gg_set {w w' : World} {g : Nat} (h : w.grownBy w' (some g)) (p : Addr) (hp : p.block = g) (v : Value) : w.grownBy (w'.setCell p v) (some g) :=
  ⟨h.os, h.tape, h.output, by simpa using h.size, fun k hk hne => (Below.heap_setCell _ p _ _ (fun e => hne (by rw [e, hp]))).trans (h.block k hk hne)⟩

set_option maxHeartbeats 2000000 in
set_option maxRecDepth 100000 in
theorem move_any (P g cap R M W n0 B : Nat) (ps : List (Nat × Ch)) (o : List Ins) (w : World) (hP : Hid (w.heap[P]? = some (psO g o.length cap R M W n0))) (hPg : P ≠ g) (hWg : W ≠ g) (hb : Hid (Blk w g 41 (cap * 3))) (hoc : o.length ≤ cap) (hC : Hid (CodeIn B w o (some ⟨g, 0, none⟩))) (hl : o.length ≤ 4000)
    (hj : Hid (∀ c ∈ o, jmp c = true → 0 ≤ c.a ∧ c.a < n0 ∧ now ps c.a.toNat ≤ 4000 ∧ w.cell? ⟨W, c.a.toNat, none⟩ = some (.int .i64 (now ps c.a.toNat : Nat)))) :
    Calls Try.prog 37 #[.pointer (some ⟨P, 0, none⟩)] w fun e w' => e = .returned (.tuple #[]) ∧ CodeIn B w' (o.map (moved ps)) (some ⟨g, 0, none⟩) ∧ Blk w' g 41 (cap * 3) ∧ w.grownBy w' (some g) := by
  obtain ⟨n, hn⟩ : ∃ n, n = o.length := ⟨_, rfl⟩
  rw [← hn] at hP hl hoc
  have HN := hide hn
  have n1 : (n : Int) ≤ 4000 := by omega
  have hPl := lt_of_block hP.out
  have HWl : Hid (∀ c ∈ o, jmp c = true → W < w.heap.size) := fun c hc hjc => World.block_lt_of_cell? w _ (hj.out c hc hjc).2.2.2
  clear hn
  obtain ⟨p0, p1, p2, p3⟩ := ps_cells hP.out
  go_enter Try.func37, Try.ntmps37
  go_wp2
  clear p0 p1 p2 p3
  go_loopw [9] (fun i wr => ∃ k : Nat, k ≤ n ∧ i = .int .i64 k ∧ CodeIn B wr (half ps o k) (some ⟨g, 0, none⟩) ∧ Blk wr g 41 (cap * 3) ∧ w.grownBy wr (some g)) (fun i _ => n - (intOf i).toNat)
  case atStart => exact ⟨0, Nat.zero_le _, rfl, by rw [half_zero]; exact hC.out, hb.out, World.grownBy.refl _ _⟩
  case round =>
    obtain ⟨k, hk, rfl, hCk, hbk, hGk⟩ := hrel
    have HCK := hide hCk
    have HBK := hide hbk
    have HGK := hide hGk
    clear hCk hbk hGk
    by_cases hlt : k < n
    · obtain ⟨c, hc⟩ : ∃ c, o[k]? = some c := ⟨_, List.getElem?_eq_getElem (by rw [← HN.out]; exact hlt)⟩
      obtain ⟨hh, hh2⟩ := half_at (ps := ps) hc
      obtain ⟨_, x0, x1, x2⟩ := code_cells HCK.out hh
      rw [Nat.zero_add] at x0 x1 x2
      have HH2 := hide hh2
      have HH := hide hh
      have HOC := hide hc
      have k0 : (0 : Int) ≤ (k : Int) := by omega
      have k1 : (k : Int) < (n : Int) := by omega
      have hgl : g < wr.heap.size := HBK.out.lt
      obtain ⟨W2, hW2⟩ : ∃ W2, W2 = (wr.alloc (inO c)).alloc (inO c) := ⟨_, rfl⟩
      have hb2 : Below wr.heap.size wr W2 := by rw [hW2]; exact two_belowO _ _ _
      have hq : W2.heap[wr.heap.size]? = some (inO c) := by
        rw [hW2, Below.heap_alloc _ _ _ (by simp)]
        exact heap_alloc_new _ _
      have HW2 := hide hW2.symm
      have HC2 := hide (code_keep HCK.out (hb2.block g hgl))
      have HB2 := hide (HBK.out.keep (hb2.block g hgl))
      have HG2 : Hid (w.grownBy W2 (some g)) := gm_trans HGK.out (below_gm hb2 _)
      have HQ := hide hq
      clear hc hW2 hb2 hq hh hh2
      go_wp2_with fail
      refine (jumps_any c _).mono ?_
      rintro e w3 ⟨rfl, rfl⟩
      rw [HW2.out]
      clear HW2
      cases hjc : jmp c with
      | true =>
        obtain ⟨c0, c1, c4, cw⟩ := hj.out c (List.mem_of_getElem? HOC.out) hjc
        have hWl := HWl.out c (List.mem_of_getElem? HOC.out) hjc
        obtain ⟨q0, q1, q2, q3⟩ := ps_cells ((HG2.out.block P hPl (by intro e; cases e; exact hPg rfl)).trans hP.out)
        have hcw : W2.cell? ⟨W, c.a.toNat, none⟩ = some (.int .i64 (now ps c.a.toNat : Nat)) := (cell_eq (HG2.out.block W hWl (by intro e; cases e; exact hWg rfl)) _).trans cw
        have b1 : W2.cell? ⟨wr.heap.size, 1, none⟩ = some (.int .i64 c.a) := by simp [World.cell?, HQ.out]
        have hgw : ¬ wr.heap.size = g := by omega
        obtain ⟨y, hy⟩ := Option.isSome_iff_exists.1 (HB2.out.cell (i := k * 3 + 1) (by omega)).1
        have hz := (HB2.out.cell (i := k * 3 + 1) (by omega)).2
        have HE : Hid (CodeIn B (W2.setCell ⟨g, k * 3 + 1, none⟩ (.int .i64 (now ps c.a.toNat : Nat))).drew (half ps o (k + 1)) (some ⟨g, 0, none⟩)) := by
          unfold Hid
          rw [HH2.out]
          have : moved ps c = { c with a := (now ps c.a.toNat : Nat) } := by unfold moved; rw [if_pos hjc]
          rw [this]
          exact code_keep (code_set HC2.out HH.out ⟨by omega, by omega⟩) rfl
        have HF : Hid (Blk (W2.setCell ⟨g, k * 3 + 1, none⟩ (.int .i64 (now ps c.a.toNat : Nat))).drew g 41 (cap * 3)) := Blk.keep (Blk.set HB2.out _ _) rfl
        have HGE : Hid (w.grownBy (W2.setCell ⟨g, k * 3 + 1, none⟩ (.int .i64 (now ps c.a.toNat : Nat))).drew (some g)) := by
          have h := gg_set HG2.out ⟨g, k * 3 + 1, none⟩ rfl (.int .i64 (now ps c.a.toNat : Nat))
          exact ⟨h.os, h.tape, h.output, h.size, h.block⟩
        clear hWl cw c4
        go_wp2
        go_region
        go_wp2
        go_roundw
        case rel => exact ⟨k + 1, by omega, by go_num, HE.out, HF.out, HGE.out⟩
        case measure => simp [intOf]; omega
      | false =>
        have HE : Hid (CodeIn B W2 (half ps o (k + 1)) (some ⟨g, 0, none⟩)) := by
          unfold Hid
          rw [HH2.out]
          have : moved ps c = c := by unfold moved; rw [if_neg (by rw [hjc]; decide)]
          rw [this, set_self HH.out]
          exact HC2.out
        go_wp2
        go_roundw
        case rel => exact ⟨k + 1, by omega, by go_num, HE.out, HB2.out, HG2.out⟩
        case measure => simp [intOf]; omega
    · obtain rfl : k = n := by omega
      have HE : Hid (half ps o k = o.map (moved ps)) := by unfold Hid; rw [HN.out, half_all]
      go_wp2
      go_end0
      exact ⟨rfl, by rw [← HE.out]; exact HCK.out, HBK.out, HGK.out⟩
end Go.Proofs.Ytlbihbfgglnfnaa.Ow

/- Where what is known fits everywhere a flow finds nothing wrong. -/
namespace Go.Proofs.Ytlbihbfgglnfnaa
namespace Vf

theorem fill_or (a i : Nat) : ∃ b : Bool, ∀ f : Fl, (f.fill a).has i = (f.has i || b) := by
  by_cases h0 : i / 64 = 0
  · refine ⟨decide (a / 64 = 0) && (BitVec.twoPow 64 (a % 64)).getLsbD (i % 64), fun f => ?_⟩
    by_cases ha : a / 64 = 0
    · simp [Fl.has, Fl.fill, Fl.word, h0, ha]
    · simp [Fl.has, Fl.fill, Fl.word, h0, ha]
  by_cases h1 : i / 64 = 1
  · refine ⟨decide (a / 64 = 1) && (BitVec.twoPow 64 (a % 64)).getLsbD (i % 64), fun f => ?_⟩
    by_cases ha : a / 64 = 1
    · simp [Fl.has, Fl.fill, Fl.word, h1, ha]
    · simp [Fl.has, Fl.fill, Fl.word, h1, ha]
  by_cases h2 : i / 64 = 2
  · refine ⟨decide (a / 64 = 2) && (BitVec.twoPow 64 (a % 64)).getLsbD (i % 64), fun f => ?_⟩
    by_cases ha : a / 64 = 2
    · simp [Fl.has, Fl.fill, Fl.word, h2, ha]
    · simp [Fl.has, Fl.fill, Fl.word, h2, ha]
  · refine ⟨decide (a / 64 = 3) && (BitVec.twoPow 64 (a % 64)).getLsbD (i % 64), fun f => ?_⟩
    by_cases ha : a / 64 = 3
    · simp [Fl.has, Fl.fill, Fl.word, h0, h1, h2, ha]
    · simp [Fl.has, Fl.fill, Fl.word, h0, h1, h2, ha]
theorem FlLe.fill {f g : Fl} (h : FlLe f g) (a : Nat) : FlLe (f.fill a) (g.fill a) := fun i hi => by
  obtain ⟨b, hb⟩ := fill_or a i
  rw [hb] at hi ⊢
  rw [Bool.or_eq_true] at hi ⊢
  exact hi.imp (h i) id
theorem FlLe.reckF {f g : Fl} (h : FlLe f g) (c : Ins) : FlLe (reckF c f) (reckF c g) := by
  unfold Vf.reckF
  split
  · exact h.fill _
  · exact h
theorem FlLe.inter {f g h : Fl} (a : FlLe f g) (b : FlLe f h) : FlLe f (g.both h) := fun i hi => by
  rw [has_both, a i hi, b i hi]
  rfl
/-- More that has something does no harm. -/
theorem reckS_mono {m : Md} {u : Un} {c : Ins} {k k2 : Kn} {st : List Int} (hs : k2.st = k.st) (hf : FlLe k.fl k2.fl) (h : reckS m u c k = .ok st) : reckS m u c k2 = .ok st := by
  have e : ∀ fl, k2 = ⟨k.st, fl⟩ → True := fun _ _ => trivial
  by_cases h3 : c.op = 3
  · have e1 : reckS m u c k = andThen (must (k.fl.has c.a.toNat) 11 k.st) (put (localTy u c.a)) := by
      unfold reckS
      rw [if_neg (by omega), if_neg (by omega), if_pos h3]
    have e2 : reckS m u c k2 = andThen (must (k2.fl.has c.a.toNat) 11 k2.st) (put (localTy u c.a)) := by
      unfold reckS
      rw [if_neg (by omega), if_neg (by omega), if_pos h3]
    rw [e1] at h
    rw [e2]
    cases hh : k.fl.has c.a.toNat with
    | false => rw [hh] at h; simp [must, andThen] at h
    | true => rw [hh] at h; rw [hf _ hh, hs]; exact h
  · have e1 : ∀ k : Kn, reckS m u c k = reckS m u c ⟨k.st, Fl.none⟩ := fun k => by
      unfold reckS
      simp only [if_neg h3]
    rw [e1, hs, ← e1]
    exact h
theorem reck_mono {m : Md} {u : Un} {c : Ins} {k k2 k' : Kn} (hs : k2.st = k.st) (hf : FlLe k.fl k2.fl) (h : reck m u c k = .ok k') : ∃ k2', reck m u c k2 = .ok k2' ∧ k2'.st = k'.st ∧ FlLe k'.fl k2'.fl := by
  unfold reck at h ⊢
  cases hr : reckS m u c k with
  | error e => rw [hr] at h; cases h
  | ok st =>
    rw [hr] at h
    cases h
    rw [reckS_mono hs hf hr]
    exact ⟨_, rfl, rfl, hf.reckF c⟩

/-- What a flow knows is no less than what fits everywhere. -/
def Und (K : Nat → Option Kn) (s : S) : Prop := ∀ n k, s.come n = some k → ∃ k0, K n = some k0 ∧ k.st = k0.st ∧ FlLe k0.fl k.fl
theorem Und.note {K : Nat → Option Kn} {s : S} (h : Und K s) {n : Nat} {k k0 : Kn} (h0 : K n = some k0) (hs : k.st = k0.st) (hf : FlLe k0.fl k.fl) : Und K (s.note n k) := fun i x hx => by
  by_cases e : i = n
  · subst e
    have : some k = some x := by simpa [S.note] using hx
    cases this
    exact ⟨k0, h0, hs, hf⟩
  · exact h i x (by simpa [S.note, e] using hx)
theorem goOn_und {K : Nat → Option Kn} {len : Nat} {k k0 : Kn} {t : Int} {s : S} (h : Und K s) (h0 : 0 ≤ t) (hl : t.toNat < len) (hK : K t.toNat = some k0) (hs : k.st = k0.st) (hf : FlLe k0.fl k.fl) : ∃ s', goOn len k t s = .ok s' ∧ Und K s' := by
  unfold goOn
  rw [if_pos (by omega)]
  cases hc : s.come t.toNat with
  | none => exact ⟨_, rfl, h.note hK hs hf⟩
  | some t0 =>
    obtain ⟨k1, e1, e2, e3⟩ := h _ _ hc
    rw [hK] at e1
    cases e1
    simp only
    rw [if_pos (by rw [e2, hs])]
    split
    · exact ⟨_, rfl, h⟩
    · exact ⟨_, rfl, h.note hK e2 (e3.inter hf)⟩
theorem goAll_und {K : Nat → Option Kn} {len : Nat} {k : Kn} : ∀ (l : List Int) (s : S), Und K s → (∀ t ∈ l, 0 ≤ t ∧ t.toNat < len ∧ ∃ k0, K t.toNat = some k0 ∧ k.st = k0.st ∧ FlLe k0.fl k.fl) → ∃ s', goAll len k l s = .ok s' ∧ Und K s'
  | [], s, h, _ => ⟨s, rfl, h⟩
  | t :: l, s, h, ha => by
    obtain ⟨h0, hl, k0, hK, hs, hf⟩ := ha t List.mem_cons_self
    obtain ⟨s1, e1, u1⟩ := goOn_und h h0 hl hK hs hf
    obtain ⟨s2, e2, u2⟩ := goAll_und l s1 u1 (fun x hx => ha x (List.mem_cons_of_mem _ hx))
    exact ⟨s2, by unfold goAll andThen; rw [e1]; exact e2, u2⟩
theorem look_und {m : Md} {u : Un} {K : Nat → Option Kn} (hf : Forms m u) (hK : Fix m u K) {n : Nat} {s : S} (h : Und K s) : ∃ s', look m u n s = .ok s' ∧ Und K s' := by
  unfold look
  split
  · rename_i k c hk hc
    obtain ⟨k0, e0, es, ef⟩ := h n k hk
    obtain ⟨k', hr, ha⟩ := hK.next n k0 c e0 hc
    obtain ⟨k2, hr2, s2, f2⟩ := reck_mono es ef hr
    rw [hr2]
    refine goAll_und _ s h (fun t ht => ?_)
    obtain ⟨hl, k3, e3, s3, f3⟩ := ha t ht
    exact ⟨goes_nn (hf c (List.mem_of_getElem? hc)) n t ht, hl, k3, e3, by rw [s2, s3], f3.trans f2⟩
  · exact ⟨s, rfl, h⟩
theorem flow_und {m : Md} {u : Un} {K : Nat → Option Kn} (hf : Forms m u) (hK : Fix m u K) : ∀ (f : Nat) (s : S), Und K s → (flow m u f s).1 = 0
  | 0, _, _ => rfl
  | f + 1, ⟨come, row⟩, h => by
    cases row with
    | nil => rfl
    | cons n row =>
      obtain ⟨s', e, h'⟩ := look_und hf hK (n := n) (s := ⟨come, row⟩) h
      show (match look m u n ⟨come, row⟩ with | .error e => (e, n) | .ok s' => flow m u f s').1 = 0
      rw [e]
      exact flow_und hf hK f s' h'
/-- WHERE WHAT IS KNOWN FITS EVERYWHERE NOTHING IS WRONG. -/
theorem fix_back {m : Md} {u : Un} {K : Nat → Option Kn} (hf : Forms m u) (hK : Fix m u K) : (flowF m u).1 = 0 := by
  refine flow_und hf hK _ _ ?_
  obtain ⟨k, h0, hs, hl⟩ := hK.zero
  exact Und.note (s := ⟨fun _ => none, []⟩) (fun n k h => by cases h) h0 (by rw [hs]) hl
end Vf
end Go.Proofs.Ytlbihbfgglnfnaa


/- The places of an instruction's number: the walk of placesOf. -/
import Derived.Test.YtlicfdligldhdaaDoorM20
namespace Go.Proofs.YtlicfdligldhdaaDoor.Aw
open Go.RowKit As

theorem enter_n (args : Array Value) (w : World) : Sem.run Tryd.prog (callFunc 56 args) w = .ok (.enter 56 args) w := by kernel_rfl
set_option maxHeartbeats 400000 in
theorem placeN_any (N Q : Nat) (n : Int) (v : Value) (w : World) (hQ : w.cell? ⟨Q, 0, none⟩ = some (ptI N 0)) (ha : w.cell? ⟨N, 2, none⟩ = some v) (hf : w.frozen? ⟨N, 2, none⟩ = false) :
    Calls Tryd.prog 56 #[.int .i64 n, ptI Q 0] w fun e w' => e = .returned (.tuple #[]) ∧ w' = w.setCell ⟨N, 2, none⟩ (.int .i64 n) := by
  go_enter Tryd.func56, Tryd.ntmps56
  go_wp2
  go_end0
  exact ⟨rfl, rfl⟩

/-- What placesOf answers. -/
def fsI (k : Int) (Q : Nat) : List (Nat × Array Value) := if k = 1 then [(56, #[ptI Q 0])] else if k = 2 then [(57, #[ptI Q 0])] else []
structure PlI (k : Int) (N Q : Nat) (a : Option Addr) (w : World) : Prop where
  one : k = 1 → w.heap[Q]? = some (.cells #[ptI N 0] 89 (0, 0))
  two : k = 2 → w.heap[Q]? = some (.cells #[ptI N 1] 93 (0, 0))
  row : ∀ p, p ∈ fsI k Q → ∃ g, a = some ⟨g, 0, none⟩ ∧ w.heap[g]? = some (.cells #[funV p] 91 (0, 0))
theorem PlI.new {k : Int} {N Q : Nat} {a : Option Addr} {w w' : World} (h : PlI k N Q a w) (hb : Below w.heap.size w w') : PlI k N Q a w' :=
  ⟨fun e => (hb.block _ (lt_of_block (h.one e))).trans (h.one e), fun e => (hb.block _ (lt_of_block (h.two e))).trans (h.two e), fun p hp => by
    obtain ⟨g, e, hg⟩ := h.row p hp
    exact ⟨g, e, (hb.block _ (lt_of_block hg)).trans hg⟩⟩
theorem two_old (w : World) (o p : Obj) : ((w.alloc o).alloc p).heap[w.heap.size]? = some o := (Below.heap_alloc _ _ _ (by simp)).trans (heap_alloc_new _ _)

set_option maxHeartbeats 1000000 in
theorem placesOf_any (N : Nat) (op : Int) (w : World) (hN : Hid (w.cell? ⟨N, 0, none⟩ = some (.int .i64 op))) (hNl : Hid (N < w.heap.size)) (k : Int) (hk : Hid (k = nOf op)) :
    Calls Tryd.prog 40 #[ptI N 0] w fun e w' => ∃ Q a, e = .returned (.slice a (fsI k Q).length (fsI k Q).length) ∧ PlI k N Q a w' ∧ Below w.heap.size w w' := by
  obtain ⟨V, hV⟩ : ∃ V, V = w.alloc (.cells #[ptI N 0] 89) := ⟨_, rfl⟩
  have HBV : Hid (Below w.heap.size w V) := by rw [hV]; exact (Below.refl _ _).alloc (Nat.le_refl _) _
  have HV : Hid (V.heap[w.heap.size]? = some (.cells #[ptI N 0] 89 (0, 0))) := by rw [hV]; exact heap_alloc_new _ _
  have cN : V.cell? ⟨N, 0, none⟩ = some (.int .i64 op) := (HBV.out.cell (p := ⟨N, 0, none⟩) hNl.out).trans hN.out
  have cV := blk1_cell HV.out
  have hV' : w.alloc (.cells #[ptI N 0] 89) = V := hV.symm
  clear hV
  go_enter Tryd.func40, Tryd.ntmps40
  go_wp2_with fail
  refine (numberOf_any op _ k hk).mono ?_
  rintro e w1 ⟨rfl, rfl⟩
  clear hV'
  by_cases h1 : k = 1
  · have e1 : (k == 1) = true := by simp [h1]
    subst h1
    have HP : Hid (PlI 1 N w.heap.size (some ⟨w1.heap.size, 0, none⟩) (w1.alloc (.cells #[.func (.func 56) #[] #[ptI w.heap.size 0]] 91))) := by
      refine ⟨fun _ => (Below.heap_alloc _ _ _ (lt_of_block HV.out)).trans HV.out, fun h => by (exact absurd h (by decide)), fun p hp => ⟨_, rfl, ?_⟩⟩
      simp [fsI] at hp
      subst hp
      exact heap_alloc_new _ _
    go_wp2
    go_ret
    exact ⟨w.heap.size, some ⟨w1.heap.size, 0, none⟩, rfl, HP.out, HBV.out.alloc (by have := HBV.out.size; omega) _⟩
  · have e1 : (k == 1) = false := by simp [h1]
    by_cases h2 : k = 2
    · have e2 : (k == 2) = true := by simp [h2]
      subst h2
      clear h1
      go_wp2_with fail
      refine (toInt_any ⟨N, 1, none⟩ _).mono ?_
      rintro e w2 ⟨rfl, rfl⟩
      have HP : Hid (PlI 2 N w1.heap.size (some ⟨w1.heap.size + 1, 0, none⟩) ((w1.alloc (.cells #[ptI N 1] 93)).alloc (.cells #[toF w1.heap.size] 91))) := by
        refine ⟨fun h => by (exact absurd h (by decide)), fun _ => two_old _ _ _, fun p hp => ⟨_, rfl, ?_⟩⟩
        simp [fsI] at hp
        subst hp
        exact two_new _ _ _
      go_wp2
      go_ret
      exact ⟨w1.heap.size, some ⟨w1.heap.size + 1, 0, none⟩, rfl, HP.out, below_on HBV.out (two_below _ _ _)⟩
    · have e2 : (k == 2) = false := by simp [h2]
      have HP : Hid (PlI k N 0 none w1) := ⟨fun h => absurd h h1, fun h => absurd h h2, fun p hp => by unfold fsI at hp; rw [if_neg h1, if_neg h2] at hp; cases hp⟩
      have HF : Hid (fsI k 0 = []) := by unfold Hid fsI; rw [if_neg h1, if_neg h2]
      clear h1 h2
      go_wp2
      go_ret
      exact ⟨0, none, by rw [HF.out]; rfl, HP.out, HBV.out⟩

/-- An instruction with the first j numbers of its line. -/
def insK (op k : Int) (ws : List By) (j : Nat) : Vf.Ins := ⟨op, if k = 2 then fld ws j 0 else 0, if k = 1 then fld ws j 0 else 0⟩
abbrev inO3 (i : Vf.Ins) : Obj := .cells #[.int .i64 i.op, .int .i64 i.a, .int .i64 i.n] 45 (0, 0)
theorem in3_cells {w : World} {N : Nat} {i : Vf.Ins} (h : w.heap[N]? = some (inO3 i)) : w.cell? ⟨N, 0, none⟩ = some (.int .i64 i.op) ∧ w.cell? ⟨N, 1, none⟩ = some (.int .i64 i.a) ∧ w.cell? ⟨N, 2, none⟩ = some (.int .i64 i.n) ∧ w.frozen? ⟨N, 1, none⟩ = false ∧ w.frozen? ⟨N, 2, none⟩ = false := by
  simp [World.cell?, World.frozen?, h]
theorem setI_1 {w : World} {N : Nat} {i : Vf.Ins} (h : w.heap[N]? = some (inO3 i)) (v : Int) : (w.setCell ⟨N, 1, none⟩ (.int .i64 v)).heap[N]? = some (inO3 ⟨i.op, v, i.n⟩) := by
  simp only [World.setCell, Array.getElem?_modify, if_true, h, Option.map_some]
  rfl
theorem setI_2 {w : World} {N : Nat} {i : Vf.Ins} (h : w.heap[N]? = some (inO3 i)) (v : Int) : (w.setCell ⟨N, 2, none⟩ (.int .i64 v)).heap[N]? = some (inO3 ⟨i.op, i.a, v⟩) := by
  simp only [World.setCell, Array.getElem?_modify, if_true, h, Option.map_some]
  rfl
structure InI (B N : Nat) (w : World) (ws : List By) (op k : Int) (Q : Nat) (a : Option Addr) (j : Nat) (W : World) : Prop where
  le : j ≤ 1
  gv : GV B w
  hB : B ≤ w.heap.size
  hN : w.heap.size ≤ N
  below : Below w.heap.size w W
  size : w.heap.size ≤ W.heap.size
  ins : W.heap[N]? = some (inO3 (insK op k ws j))
  pl : PlI k N Q a W
theorem fsI_at {k : Int} {Q i : Nat} {p : Nat × Array Value} (h : (fsI k Q)[i]? = some p) : i = 0 ∧ ((k = 1 ∧ p = (56, #[ptI Q 0])) ∨ (k = 2 ∧ p = (57, #[ptI Q 0]))) := by
  unfold fsI at h
  split at h
  · rename_i h1
    match i, h with
    | 0, h => simp at h; exact ⟨rfl, .inl ⟨h1, h.symm⟩⟩
  · split at h
    · rename_i _ h2
      match i, h with
      | 0, h => simp at h; exact ⟨rfl, .inr ⟨h2, h.symm⟩⟩
    · simp at h
theorem PlI.set {k : Int} {N Q o : Nat} {a : Option Addr} {w : World} {v : Value} {cs : Array Value} {fr : Nat × Nat} (h : PlI k N Q a w) (hN : w.heap[N]? = some (.cells cs 45 fr)) : PlI k N Q a (w.setCell ⟨N, o, none⟩ v) := by
  have hk := kt_set hN o v
  exact ⟨fun e => hk _ _ _ _ (h.one e) (by decide), fun e => hk _ _ _ _ (h.two e) (by decide), fun p hp => by
    obtain ⟨g, e, hg⟩ := h.row p hp
    exact ⟨g, e, hk _ _ _ _ hg (by decide)⟩⟩
theorem in_places (B N Q : Nat) (w : World) (ws : List By) (op k : Int) (aw a : Option Addr) (hs : StrsW w ws aw) : Places B ws (fsI k Q) aw a (InI B N w ws op k Q a) := by
  refine ⟨fun j W h => ⟨h.gv.below h.below h.hB, by have := h.size; have := h.hB; omega⟩, fun j W W' h hb => ?_, fun j W i x h hx => ?_, fun j W i F caps h hf => ?_, fun i F caps hf args W => ?_, fun j F caps x n W hf hx hn h => ?_⟩
  · exact ⟨h.le, h.gv, h.hB, h.hN, below_on h.below hb, Nat.le_trans h.size hb.size, (hb.block _ (lt_of_block h.ins)).trans h.ins, h.pl.new hb⟩
  · obtain ⟨b, off, e, hb, hc⟩ := hs i x hx
    exact ⟨b, off, e, (h.below.cell (p := ⟨b, off + i, none⟩) hb).trans hc⟩
  · obtain ⟨rfl, _⟩ := fsI_at hf
    obtain ⟨g, e, hg⟩ := h.pl.row _ (List.mem_of_getElem? hf)
    exact ⟨g, 0, e, blk1_cell hg⟩
  · obtain ⟨_, ⟨_, e⟩ | ⟨_, e⟩⟩ := fsI_at hf <;> cases e
    · exact enter_n args W
    · exact enter_to args W
  · obtain ⟨rfl, hp⟩ := fsI_at hf
    obtain ⟨c0, c1, c2, g1, g2⟩ := in3_cells h.ins
    rcases hp with ⟨hk, e⟩ | ⟨hk, e⟩ <;> cases e
    · refine (placeN_any N Q n _ W (blk1_cell (h.pl.one hk)) c2 g2).mono ?_
      rintro e W' ⟨rfl, rfl⟩
      refine ⟨rfl, Nat.le_refl _, h.gv, h.hB, h.hN, h.below.setCell (p := ⟨N, 2, none⟩) h.hN _, by simpa [World.setCell] using h.size, ?_, h.pl.set h.ins⟩
      have := setI_2 h.ins n
      subst hk
      have e1 : insK op 1 ws (0 + 1) = ⟨op, 0, n⟩ := by unfold insK; rw [if_neg (by decide), if_pos rfl, fld_at hx hn]
      rw [e1]
      exact this
    · refine (toInt1_any ⟨N, 1, none⟩ Q n _ W (blk1_cell (h.pl.two hk)) c1 g1).mono ?_
      rintro e W' ⟨rfl, rfl⟩
      refine ⟨rfl, Nat.le_refl _, h.gv, h.hB, h.hN, h.below.setCell (p := ⟨N, 1, none⟩) h.hN _, by simpa [World.setCell] using h.size, ?_, h.pl.set h.ins⟩
      have := setI_1 h.ins n
      subst hk
      have e1 : insK op 2 ws (0 + 1) = ⟨op, n, 0⟩ := by unfold insK; rw [if_pos rfl, if_neg (by decide), fld_at hx hn]
      rw [e1]
      exact this

def instrL (m : Vf.Md) (word : By) (ws : List By) : Option Vf.Md := match opOf word, nums ws with
  | some (op, h), some l => ((mkI op h l).bind (addI m.units)).map (fun us => ⟨m.boxes, us⟩)
  | _, _ => none
theorem instrL_word {m : Vf.Md} {word : By} {ws : List By} (h : opOf word = none) : instrL m word ws = none := by unfold instrL; rw [h]
theorem instrL_units {m : Vf.Md} {word : By} {ws : List By} (h : m.units = []) : instrL m word ws = none := by
  unfold instrL
  split
  · rename_i op h' l _ _
    cases mkI op h' l with
    | none => rfl
    | some i => rw [Option.bind_some, h]; rfl
  · rfl
theorem mkI_len {op : Int} {h : Nat} {l : List Int} {i : Vf.Ins} (e : mkI op h l = some i) (k : Int) (Q : Nat) (hk : (h = 2 ∧ k = 1) ∨ (h = 1 ∧ k = 2) ∨ (h = 0 ∧ k = 0)) : l.length = (fsI k Q).length := by
  unfold mkI at e
  split at e
  · rcases hk with ⟨h1, _⟩ | ⟨h1, _⟩ | ⟨_, rfl⟩
    · cases h1
    · cases h1
    · rfl
  · rcases hk with ⟨h1, _⟩ | ⟨_, rfl⟩ | ⟨h1, _⟩
    · cases h1
    · rfl
    · cases h1
  · rcases hk with ⟨_, rfl⟩ | ⟨h1, _⟩ | ⟨h1, _⟩
    · rfl
    · cases h1
    · cases h1
  · cases e
theorem instrL_no {m : Vf.Md} {word : By} {ws : List By} {op : Int} {h : Nat} {k : Int} {Q : Nat} (ho : opOf word = some (op, h)) (hk : (h = 2 ∧ k = 1) ∨ (h = 1 ∧ k = 2) ∨ (h = 0 ∧ k = 0)) (hn : ws.length ≠ (fsI k Q).length ∨ nums ws = none) : instrL m word ws = none := by
  unfold instrL
  rw [ho]
  cases e : nums ws with
  | none => rfl
  | some l =>
    simp only
    cases e2 : mkI op h l with
    | none => rfl
    | some i =>
      exfalso
      rcases hn with hn | hn
      · have := mkI_len e2 k Q hk
        have h1 := (nums_some e).1
        rw [← h1, List.length_map] at hn
        exact hn this
      · rw [hn] at e; cases e
theorem instrL_yes {m : Vf.Md} {word : By} {ws : List By} {ns : List Int} {op : Int} {h : Nat} {k : Int} {Q : Nat} (ho : opOf word = some (op, h)) (hk : (h = 2 ∧ k = 1) ∨ (h = 1 ∧ k = 2) ∨ (h = 0 ∧ k = 0)) (hl : ws.length = (fsI k Q).length) (hn : nums ws = some ns) : instrL m word ws = (addI m.units (insK op k ws ws.length)).map (fun us => ⟨m.boxes, us⟩) := by
  have hg := nums_guess hn
  unfold instrL
  rw [ho, hn]
  simp only
  have e : mkI op h ns = some (insK op k ws ws.length) := by
    subst hg
    rcases hk with ⟨rfl, rfl⟩ | ⟨rfl, rfl⟩ | ⟨rfl, rfl⟩
    · match ws, hl with
      | [x], _ => simp [mkI, insK, fld]
    · match ws, hl with
      | [x], _ => simp [mkI, insK, fld]
    · match ws, hl with
      | [], _ => simp [mkI, insK]
  rw [e]
  rfl

end Go.Proofs.YtlicfdligldhdaaDoor.Aw


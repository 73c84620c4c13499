/- The listing's words in memory: the walks of unitWords, instrWords, of, kind and numberOf. -/
import Derived.Test.YtbdcmkmeljddmaaGreatDoorM3
import Derived.Test.YtbdcmkmeljddmaaGreatDoorM4
import Derived.Lib.LaidTab
import Derived.Lib.SlicesS
namespace Go.Proofs.YtbdcmkmeljddmaaGreatDoor.Aw
open Go.RowKit As

abbrev sv (l : By) : Value := .string ⟨l.toArray⟩
theorem below_grow (w : World) (k : Nat) (os : Array Obj) : Below w.heap.size w (Go.Sort.grow (w.drewN k) os) :=
  ⟨rfl, rfl, rfl, by show w.heap.size ≤ (w.heap ++ os).size; simp, fun i hi => by show (w.heap ++ os)[i]? = _; rw [Array.getElem?_append_left hi]⟩
theorem below_drewN (w : World) (k : Nat) : Below w.heap.size w (w.drewN k) := ⟨rfl, rfl, rfl, Nat.le_refl _, fun _ _ => rfl⟩
/-- Two steps of which each leaves all that there is. -/
theorem below_on {w w1 w2 : World} (h : Below w.heap.size w w1) (h2 : Below w1.heap.size w1 w2) : Below w.heap.size w w2 := h.trans (h2.mono h.size)

/-- What is asked of the library's variables: all lie below B. -/
structure GV (B : Nat) (w : World) : Prop where
  max : ∃ m, w.var? Tryz.prog "internal/bytealg.MaxLen" = some #[.int .i64 m]
  sp : Lib.TabIs Tryz.prog w "strings.asciiSpace" .u8 Lib.asciiSpaceTab
  pow : Lib.TabIs Tryz.prog w "internal/strconv.uint64pow10" .u64 Lib.pow10Tab
  syn : ∃ tp p, w.var? Tryz.prog "strconv.ErrSyntax" = some #[.iface tp p]
  rng : ∃ tp p, w.var? Tryz.prog "strconv.ErrRange" = some #[.iface tp p]
  base : 11 ≤ B
theorem var_low {B g : Nat} {w w' : World} {n : String} (hg : Tryz.prog.globalNamed n = some g) (hB : g < B) (h : Low B w w') : w'.var? Tryz.prog n = w.var? Tryz.prog n := by
  simp only [World.var?, hg, Option.bind_some, h g hB]
theorem gl_max : Tryz.prog.globalNamed "internal/bytealg.MaxLen" = some 1 := by kernel_rfl
theorem gl_sp : Tryz.prog.globalNamed "strings.asciiSpace" = some 0 := by kernel_rfl
theorem gl_pow : Tryz.prog.globalNamed "internal/strconv.uint64pow10" = some 3 := by kernel_rfl
theorem gl_syn : Tryz.prog.globalNamed "strconv.ErrSyntax" = some 6 := by kernel_rfl
theorem gl_rng : Tryz.prog.globalNamed "strconv.ErrRange" = some 7 := by kernel_rfl
theorem GV.low {B : Nat} {w w' : World} (h : GV B w) (hl : Low B w w') : GV B w' := by
  have hB := h.base
  refine ⟨?_, ?_, ?_, ?_, ?_, hB⟩
  · obtain ⟨m, e⟩ := h.max; exact ⟨m, (var_low gl_max (by omega) hl).trans e⟩
  · exact (var_low gl_sp (by omega) hl).trans h.sp
  · exact (var_low gl_pow (by omega) hl).trans h.pow
  · obtain ⟨t, p, e⟩ := h.syn; exact ⟨t, p, (var_low gl_syn (by omega) hl).trans e⟩
  · obtain ⟨t, p, e⟩ := h.rng; exact ⟨t, p, (var_low gl_rng (by omega) hl).trans e⟩
theorem GV.below {B C : Nat} {w w' : World} (h : GV B w) (hl : Below C w w') (hB : B ≤ C) : GV B w' := h.low fun k hk => hl.block k (by omega)
theorem GV.cell {B : Nat} {w : World} (h : GV B w) : ∃ m, w.cell? ⟨1, 0, none⟩ = some (.int .i64 m) := by
  obtain ⟨m, e⟩ := h.max
  exact ⟨m, World.var?_cell gl_max e 0⟩

def tabW : List By := tab.map (·.1)
def unitW : List By := [fnW, genW, taskW]
abbrev wsO (l : List By) : Obj := .cells (l.map sv).toArray 9 (0, 0)

theorem ascii_of {l : By} (h : l.all (fun b => decide (b.toNat < 128)) = true) : ∀ (j : Nat) b, l[j]? = some b → b.toNat < 128 := fun j b hb => by
  have := List.all_eq_true.1 h b (List.mem_of_getElem? hb)
  simpa using this

abbrev unitT : By := [102, 110, 32, 103, 101, 110, 32, 116, 97, 115, 107]
theorem fields_unit : Lib.fields unitT = unitW := by decide

theorem two_new (w : World) (o p : Obj) : ((w.alloc o).alloc p).heap[w.heap.size + 1]? = some p := by
  have := heap_alloc_new (w.alloc o) p
  simpa using this
theorem two_below (w : World) (o p : Obj) : Below w.heap.size w ((w.alloc o).alloc p) := ((Below.refl w.heap.size w).alloc (Nat.le_refl _) _).alloc (by simp) _

set_option maxHeartbeats 400000 in
theorem unitWords_any (B : Nat) (w : World) (hg : Hid (GV B w)) (hB : Hid (B ≤ w.heap.size)) :
    Calls Tryz.prog 22 #[] w fun e w' => ∃ N, e = .returned (.agg #[.int .i64 2, .slice (some ⟨N, 0, none⟩) 3 3]) ∧ w.heap.size ≤ N ∧ w'.heap[N]? = some (wsO unitW) ∧ Below w.heap.size w w' := by
  have c := Tryz.strings_Fields ⟨#[102, 110, 32, 103, 101, 110, 32, 116, 97, 115, 107]⟩ (w.alloc (.cells #[.int .i64 0, .slice none 0 0] 51)) (by decide) (ascii_of (by decide)) (hg.out.below ((Below.refl w.heap.size w).alloc (Nat.le_refl _) _) hB.out).sp
  have e1 : Lib.fields (⟨#[102, 110, 32, 103, 101, 110, 32, 116, 97, 115, 107]⟩ : ByteArray).data.toList = unitW := fields_unit
  rw [e1] at c
  have HC := hide c
  clear c e1
  go_enter Tryz.func22, Tryz.ntmps22
  go_wp2_with fail
  refine HC.out.mono ?_
  rintro e w1 ⟨rfl, rfl⟩
  go_wp2
  exact bodyPost_ret (v := .agg #[.int .i64 2, .slice (some ⟨w.heap.size + 1, 0, none⟩) 3 3]) (by simp [results, Tryz.results22, go_sem]; rfl) rfl ⟨w.heap.size + 1, rfl, by omega, two_new _ _ _, two_below _ _ _⟩

abbrev instrT : By := [112, 117, 115, 104, 32, 116, 114, 117, 116, 104, 32, 108, 111, 97, 100, 32, 115, 116, 111, 114, 101, 32, 100, 114, 111, 112, 32, 110, 101, 103, 32, 110, 111, 116, 32, 97, 100, 100, 32, 115, 117, 98, 32, 109, 117, 108, 32, 100, 105, 118, 32, 109, 111, 100, 32, 101, 113, 32, 110, 101, 32, 108, 116, 32, 108, 101, 32, 103, 116, 32, 103, 101, 32, 97, 110, 100, 32, 111, 114, 32, 106, 117, 109, 112, 32, 101, 108, 115, 101, 32, 99, 97, 108, 108, 32, 114, 101, 116, 32, 101, 110, 100, 32, 115, 101, 110, 100, 32, 114, 101, 99, 118, 32, 111, 117, 116, 32, 115, 116, 97, 114, 116, 32, 114, 101, 115, 117, 109, 101, 32, 121, 105, 101, 108, 100, 32, 97, 108, 105, 118, 101]
theorem fields_instr : Lib.fields instrT = tabW := by kernel_rfl

set_option maxHeartbeats 400000 in
set_option maxRecDepth 100000 in
theorem instrWords_any (B : Nat) (w : World) (hg : Hid (GV B w)) (hB : Hid (B ≤ w.heap.size)) :
    Calls Tryz.prog 23 #[] w fun e w' => ∃ N, e = .returned (.agg #[.int .i64 1, .slice (some ⟨N, 0, none⟩) 32 32]) ∧ w.heap.size ≤ N ∧ w'.heap[N]? = some (wsO tabW) ∧ Below w.heap.size w w' := by
  have c := Tryz.strings_Fields ⟨instrT.toArray⟩ (w.alloc (.cells #[.int .i64 0, .slice none 0 0] 51)) (by decide) (ascii_of (by decide)) (hg.out.below ((Below.refl w.heap.size w).alloc (Nat.le_refl _) _) hB.out).sp
  have e1 : Lib.fields (⟨instrT.toArray⟩ : ByteArray).data.toList = tabW := fields_instr
  rw [e1] at c
  have HC := hide c
  clear c e1
  go_enter Tryz.func23, Tryz.ntmps23
  go_wp2_with fail
  refine HC.out.mono ?_
  rintro e w1 ⟨rfl, rfl⟩
  go_wp2
  exact bodyPost_ret (v := .agg #[.int .i64 1, .slice (some ⟨w.heap.size + 1, 0, none⟩) 32 32]) (by simp [results, Tryz.results23, go_sem]; rfl) rfl ⟨w.heap.size + 1, rfl, by omega, two_new _ _ _, two_below _ _ _⟩

/-- The word of a kind. -/
def ofW (l : List By) (first k : Int) : Option By := if k < first then none else l[(k - first).toNat]?
theorem of_unit (k : Int) : ofW unitW 2 k = headW k := by
  unfold ofW headW
  by_cases h2 : k = 2
  · subst h2; rfl
  by_cases h3 : k = 3
  · subst h3; rfl
  by_cases h4 : k = 4
  · subst h4; rfl
  rw [if_neg h2, if_neg h3, if_neg h4]
  split
  · rfl
  · exact List.getElem?_eq_none (by simp [unitW]; omega)
theorem of_tab (op : Int) : ofW tabW 1 op = (wordOf op).map (·.1) := by
  unfold ofW wordOf tabW
  by_cases h : 1 ≤ op
  · rw [if_neg (by omega), if_pos h, List.getElem?_map]
  · rw [if_pos (by omega), if_neg h]
    rfl
theorem ws_cell {w : World} {N i : Nat} {l : List By} {x : By} (h : w.heap[N]? = some (wsO l)) (hx : l[i]? = some x) : w.cell? ⟨N, i, none⟩ = some (sv x) := by
  simp [World.cell?, h, hx]

set_option maxHeartbeats 400000 in
theorem of_any (N : Nat) (l : List By) (first k : Int) (hf : 0 ≤ first ∧ first ≤ 2) (hk : I64 k) (_hl : l.length ≤ 32) (w : World) (hN : Hid (w.heap[N]? = some (wsO l))) (r : Option By) (hr : Hid (r = ofW l first k)) :
    Calls Tryz.prog 26 #[.agg #[.int .i64 first, .slice (some ⟨N, 0, none⟩) l.length l.length], .int .i64 k] w fun e w' => e = .returned (.tuple #[sv (r.getD []), .bool r.isSome]) ∧ Below w.heap.size w w' := by
  obtain ⟨hf1, hf2⟩ := hf
  obtain ⟨hk1, hk2⟩ := hk
  by_cases h1 : k < first
  · obtain rfl : r = none := by rw [hr.out]; unfold ofW; rw [if_pos h1]
    go_enter Tryz.func26, Tryz.ntmps26
    go_wp2
    go_ret2
    exact ⟨rfl, (Below.refl _ _).alloc (Nat.le_refl _) _⟩
  · have ew : IntKind.i64.wrap (k - first) = k - first := by simp [IntKind.wrap, IntKind.bits, IntKind.signed]; omega
    by_cases h2 : (l.length : Int) ≤ k - first
    · obtain rfl : r = none := by rw [hr.out]; unfold ofW; rw [if_neg h1]; exact List.getElem?_eq_none (by omega)
      go_enter Tryz.func26, Tryz.ntmps26
      go_wp2
      go_ret2
      exact ⟨rfl, (Below.refl _ _).alloc (Nat.le_refl _) _⟩
    · obtain ⟨i, hi⟩ : ∃ i : Nat, k - first = i := ⟨(k - first).toNat, by omega⟩
      have hlt : i < l.length := by omega
      obtain ⟨x, hx⟩ : ∃ x, l[i]? = some x := ⟨_, List.getElem?_eq_getElem hlt⟩
      obtain rfl : r = some x := by rw [hr.out]; unfold ofW; rw [if_neg h1, hi, Int.toNat_natCast]; exact hx
      have hNl := lt_of_block hN.out
      have cx : (w.alloc (.cells #[.int .i64 first, .slice (some ⟨N, 0, none⟩) l.length l.length] 51)).cell? ⟨N, i, none⟩ = some (sv x) := ws_cell ((Below.heap_alloc _ _ _ hNl).trans hN.out) hx
      rw [hi] at ew h2
      obtain ⟨h3, h4⟩ : ¬ k < first ∧ k - first = i := ⟨h1, hi⟩
      go_enter Tryz.func26, Tryz.ntmps26
      go_wp2
      go_ret2
      exact ⟨rfl, (Below.refl _ _).alloc (Nat.le_refl _) _⟩

end Go.Proofs.YtbdcmkmeljddmaaGreatDoor.Aw

/- The walks of kind, numberOf, numberIn, toInt and fill: a number for each place, brought there by whatever closures. -/
namespace Go.Proofs.YtbdcmkmeljddmaaGreatDoor.Aw
open Go.RowKit As

def idxL (x : By) : List By → Nat → Option Nat
  | [], _ => none
  | y :: l, k => if y = x then some k else idxL x l (k + 1)
def idxO : Option Nat → Int
  | some k => (k : Int)
  | none => -1
def idxI (x : By) (l : List By) : Int := idxO (idxL x l 0)
theorem bs_inj {x y : By} : (⟨x.toArray⟩ : ByteArray) = ⟨y.toArray⟩ ↔ x = y := by simp
theorem idx_from (x : By) : ∀ (l : List By) (k : Nat), Lib.idxFromS (l.map fun y => ⟨y.toArray⟩) ⟨x.toArray⟩ k = idxO (idxL x l k)
  | [], _ => rfl
  | y :: l, k => by
    rw [List.map_cons, Lib.idxFromS, idxL]
    by_cases h : y = x
    · rw [if_pos (bs_inj.2 h), if_pos h]; rfl
    · rw [if_neg (fun e => h (bs_inj.1 e)), if_neg h, idx_from x l (k + 1)]
theorem idx_ge (x : By) (l : List By) : -1 ≤ idxI x l := by
  unfold idxI idxO
  split <;> omega
theorem idxL_lt (x : By) : ∀ (l : List By) (k j : Nat), idxL x l k = some j → j < k + l.length
  | [], _, _, h => by cases h
  | y :: l, k, j, h => by
    unfold idxL at h
    split at h
    · cases h; simp
    · have := idxL_lt x l (k + 1) j h
      simp; omega
theorem idx_lt (x : By) (l : List By) : idxI x l < l.length + 1 := by
  unfold idxI idxO
  split
  · rename_i k h
    have := idxL_lt x l 0 k h
    omega
  · omega
/-- The kind of an instruction's word. -/
theorem idx_tab (w : By) : (opOf w = none ∧ idxI w tabW = -1) ∨ ∃ op h, opOf w = some (op, h) ∧ idxI w tabW = op - 1 ∧ 1 ≤ op := by
  have H : ∀ (t : List (By × Nat)) (k : Nat), (findW w (k + 1) t = none ∧ idxL w (t.map (·.1)) k = none) ∨ ∃ j h, findW w (k + 1) t = some (((j + 1 : Nat) : Int), h) ∧ idxL w (t.map (·.1)) k = some j := by
    intro t
    induction t with
    | nil => intro k; exact .inl ⟨rfl, rfl⟩
    | cons x t ih =>
      intro k
      unfold findW
      rw [List.map_cons, idxL]
      by_cases h : x.1 = w
      · rw [if_pos h, if_pos h]
        exact .inr ⟨k, x.2, rfl, rfl⟩
      · rw [if_neg h, if_neg h]
        exact ih (k + 1)
  rcases H tab 0 with ⟨h1, h2⟩ | ⟨j, h, h1, h2⟩
  · refine .inl ⟨h1, ?_⟩
    unfold idxI
    rw [show tabW = tab.map (·.1) from rfl, h2]
    rfl
  · refine .inr ⟨_, h, h1, ?_, by omega⟩
    unfold idxI
    rw [show tabW = tab.map (·.1) from rfl, h2]
    show ((j : Nat) : Int) = _
    omega
theorem idx_unit (w : By) : (kindOf w = 0 ∧ idxI w unitW = -1) ∨ (2 ≤ kindOf w ∧ kindOf w ≤ 4 ∧ idxI w unitW = kindOf w - 2) := by
  by_cases h1 : w = fnW
  · subst h1; exact .inr (by decide)
  by_cases h2 : w = genW
  · subst h2; exact .inr (by decide)
  by_cases h3 : w = taskW
  · subst h3; exact .inr (by decide)
  refine .inl ⟨by unfold kindOf; rw [if_neg h1, if_neg h2, if_neg h3], ?_⟩
  unfold idxI unitW idxL
  rw [if_neg (fun e => h1 e.symm)]
  unfold idxL
  rw [if_neg (fun e => h2 e.symm)]
  unfold idxL
  rw [if_neg (fun e => h3 e.symm)]
  rfl

set_option maxHeartbeats 400000 in
theorem kind_any (N : Nat) (l : List By) (x : By) (first : Int) (hf : 0 ≤ first ∧ first ≤ 2) (hl : l.length ≤ 32) (w : World) (hN : Hid (w.heap[N]? = some (wsO l))) (i : Int) (hi : Hid (i = idxI x l)) :
    Calls Tryz.prog 50 #[.agg #[.int .i64 first, .slice (some ⟨N, 0, none⟩) l.length l.length], sv x] w fun e w' => e = .returned (.tuple #[.int .i64 (first + i), .bool (decide (0 ≤ i))]) ∧ Below w.heap.size w w' := by
  obtain ⟨hf1, hf2⟩ := hf
  have h1 := idx_ge x l
  have h2 := idx_lt x l
  rw [← hi.out] at h1 h2
  have hNl := lt_of_block hN.out
  have c := Tryz.slices_Index_string N 0 l.length l.length (l.map fun y => ⟨y.toArray⟩) ⟨x.toArray⟩ (w.alloc (.cells #[.int .i64 first, .slice (some ⟨N, 0, none⟩) l.length l.length] 51)) (by simp) (by omega) (fun j hj => by
    rw [List.length_map] at hj
    rw [Nat.zero_add, ws_cell ((Below.heap_alloc _ _ _ hNl).trans hN.out) (List.getElem?_eq_getElem hj)]
    simp [List.getD, hj])
  have e1 : Lib.idxOfS ((l.map fun y => (⟨y.toArray⟩ : ByteArray)).take l.length) ⟨x.toArray⟩ = i := by
    rw [hi.out, List.take_of_length_le (by simp)]
    exact idx_from x l 0
  rw [e1] at c
  have HC := hide c
  clear c e1
  have ew : IntKind.i64.wrap (first + i) = first + i := by simp [IntKind.wrap, IntKind.bits, IntKind.signed]; omega
  go_enter Tryz.func50, Tryz.ntmps50
  go_wp2_with fail
  refine HC.out.mono ?_
  rintro e w1 ⟨rfl, rfl⟩
  go_wp2
  go_ret2
  exact ⟨rfl, (Below.refl _ _).alloc (Nat.le_refl _) _⟩

/-- Which number of an instruction stands in its line, as the program counts them. -/
def nOf (op : Int) : Int := if op = 1 then 1 else if op = 2 ∨ op = 3 ∨ op = 4 ∨ op = 21 ∨ op = 22 ∨ op = 23 ∨ op = 26 ∨ op = 27 ∨ op = 29 then 2 else 0
theorem nOf_word {op : Int} {w : By} {h : Nat} (e : wordOf op = some (w, h)) : (h = 2 ∧ nOf op = 1) ∨ (h = 1 ∧ nOf op = 2) ∨ (h = 0 ∧ nOf op = 0) := by
  have H : ∀ j : Nat, j < 32 → (tab[j]?).all (fun x => decide ((x.2 = 2 ∧ nOf ((j : Int) + 1) = 1) ∨ (x.2 = 1 ∧ nOf ((j : Int) + 1) = 2) ∨ (x.2 = 0 ∧ nOf ((j : Int) + 1) = 0))) = true := by decide
  unfold wordOf at e
  split at e
  · have hl := (List.getElem?_eq_some_iff.1 e).1
    have := H _ hl
    rw [e] at this
    rw [show (((op - 1).toNat : Nat) : Int) + 1 = op by omega] at this
    simpa using this
  · cases e

set_option maxHeartbeats 800000 in
theorem numberOf_any (op : Int) (w : World) (r : Int) (hr : Hid (r = nOf op)) :
    Calls Tryz.prog 46 #[.int .i64 op] w fun e w' => e = .returned (.int .i64 r) ∧ w' = w := by
  have H := hr.out
  clear hr
  by_cases h1 : op = 1
  · subst h1; obtain rfl : r = 1 := H
    go_enter Tryz.func46, Tryz.ntmps46
    go_wp2
    go_ret
    exact ⟨rfl, rfl⟩
  by_cases h2 : op = 2 ∨ op = 3 ∨ op = 4 ∨ op = 21 ∨ op = 22 ∨ op = 23 ∨ op = 26 ∨ op = 27 ∨ op = 29
  · have hr : r = 2 := by rw [H]; unfold nOf; rw [if_neg h1, if_pos h2]
    subst hr
    rcases h2 with h | h | h | h | h | h | h | h | h <;> subst h <;> clear H h1
    all_goals
      go_enter Tryz.func46, Tryz.ntmps46
      go_wp2
      go_ret
      exact ⟨rfl, rfl⟩
  · have hr : r = 0 := by rw [H]; unfold nOf; rw [if_neg h1, if_neg h2]
    subst hr
    clear H
    have b1 : (op == 1) = false := by simp; omega
    have b2 : (op == 2) = false := by simp; omega
    have b3 : (op == 3) = false := by simp; omega
    have b4 : (op == 4) = false := by simp; omega
    have b5 : (op == 21) = false := by simp; omega
    have b6 : (op == 22) = false := by simp; omega
    have b7 : (op == 23) = false := by simp; omega
    have b8 : (op == 26) = false := by simp; omega
    have b9 : (op == 27) = false := by simp; omega
    have b10 : (op == 29) = false := by simp; omega
    clear h1 h2
    go_enter Tryz.func46, Tryz.ntmps46
    go_wp2
    go_ret
    exact ⟨rfl, rfl⟩

/-- What numberIn answers. -/
def NumR (x : By) (n : Int) (b : Bool) : Prop := I64 n ∧ (b = true → numOf x = some n) ∧ (b = false → numOf x = none)
theorem fmt_any (n : Int) (h : I64 n) (B : Nat) (w : World) (hg : GV B w) :
    Calls Tryz.prog 68 #[.int .i64 n, .int .i64 10] w fun e w' => e = .returned (sv (dig n)) ∧ Below w.heap.size w w' :=
  (Tryz.strconv_FormatInt_10 n h.1 h.2 w hg.pow).mono (by rintro e w' ⟨he, k, os, rfl⟩; exact ⟨by rw [he, itoa_dig], below_grow w k os⟩)

set_option maxHeartbeats 800000 in
theorem numberIn_any (B : Nat) (x : By) (hx : x.length ≤ 60000) (w : World) (hg : Hid (GV B w)) (hB : B ≤ w.heap.size) :
    Calls Tryz.prog 78 #[sv x] w fun e w' => ∃ n b, e = .returned (.tuple #[.int .i64 n, .bool b]) ∧ NumR x n b ∧ Below w.heap.size w w' := by
  have hsz : (⟨x.toArray⟩ : ByteArray).size ≤ 60000 := by simpa [ByteArray.size] using hx
  cases hp : Lib.parseIntB 64 x with
  | ok v =>
    have hb := Lib.parseIntB_bounds hp
    have hv : I64 v := by
      have e : (((2 ^ (64 - 1) : Nat)) : Int) = 9223372036854775808 := by decide
      rw [e] at hb
      exact ⟨by omega, by omega⟩
    have hno := num_ok hp
    rw [itoa_dig] at hno
    have HP := hide (Tryz.strconv_ParseInt_10_at64_ok ⟨x.toArray⟩ (by omega) v hp w)
    have HV := hide hv
    have HN := hide hno
    clear hp hno hv hb hx hsz
    go_enter Tryz.func78, Tryz.ntmps78
    go_wp2_with fail
    refine HP.out.mono ?_
    rintro e w1 ⟨rfl, hw1⟩
    have HB1 : Hid (Below w.heap.size w w1) := by
      rcases hw1 with rfl | ⟨t, rfl⟩
      · exact Below.refl _ _
      · exact Lib.bytesWorld_below _ _ _
    clear hw1
    go_wp2_with fail
    refine (fmt_any v HV.out B w1 (hg.out.below HB1.out hB)).mono ?_
    rintro e w2 ⟨rfl, hw2⟩
    have HB2 := hide (below_on HB1.out hw2)
    clear hw2
    have HR : Hid (NumR x v (dig v == x)) := ⟨HV.out, fun h => by rw [HN.out, if_pos (by simpa using h)], fun h => by rw [HN.out, if_neg (by simpa using h)]⟩
    go_wp2
    go_ret2
    exact ⟨v, dig v == x, rfl, HR.out, HB2.out⟩
  | «syntax» =>
    obtain ⟨tp, p, hv⟩ := hg.out.syn
    have HR : Hid (NumR x 0 false) := ⟨⟨by decide, by decide⟩, fun h => by (cases h), fun _ => num_no (fun v h => by rw [hp] at h; cases h)⟩
    have HP := hide (Tryz.strconv_ParseInt_10_at64_syntax_var ⟨x.toArray⟩ (by omega) hp tp p w hv)
    clear hp hx hsz hv
    go_enter Tryz.func78, Tryz.ntmps78
    go_wp2_with fail
    refine HP.out.mono ?_
    rintro e w1 ⟨N, rfl, _, _, hw1⟩
    go_wp2
    go_ret2
    exact ⟨0, false, rfl, HR.out, hw1⟩
  | range =>
    obtain ⟨tp, p, hv⟩ := hg.out.rng
    obtain ⟨v, hvv⟩ : ∃ v, v = Lib.intSat 64 x := ⟨_, rfl⟩
    have hi : I64 v := by rw [hvv]; unfold Lib.intSat; split <;> decide
    have HR : Hid (NumR x v false) := ⟨hi, fun h => by (cases h), fun _ => num_no (fun v h => by rw [hp] at h; cases h)⟩
    have HP := Tryz.strconv_ParseInt_10_at64_range_var ⟨x.toArray⟩ (by omega) hp tp p w hv
    rw [← hvv] at HP
    have HP := hide HP
    clear hp hx hsz hv hvv hi
    go_enter Tryz.func78, Tryz.ntmps78
    go_wp2_with fail
    refine HP.out.mono ?_
    rintro e w1 ⟨N, rfl, _, _, hw1⟩
    go_wp2
    go_ret2
    exact ⟨v, false, rfl, HR.out, hw1⟩

set_option maxHeartbeats 400000 in
theorem toInt_any (a : Addr) (w : World) :
    Calls Tryz.prog 53 #[.pointer (some a)] w fun e w' => e = .returned (.func (.func 80) #[] #[.pointer (some ⟨w.heap.size, 0, none⟩)]) ∧ w' = w.alloc (.cells #[.pointer (some a)] 114) := by
  go_enter Tryz.func53, Tryz.ntmps53
  go_wp2
  go_ret
  exact ⟨rfl, rfl⟩
set_option maxHeartbeats 400000 in
theorem toInt1_any (a : Addr) (N : Nat) (n : Int) (v : Value) (w : World) (hN : w.cell? ⟨N, 0, none⟩ = some (.pointer (some a))) (ha : w.cell? a = some v) (hf : w.frozen? a = false) :
    Calls Tryz.prog 80 #[.int .i64 n, .pointer (some ⟨N, 0, none⟩)] w fun e w' => e = .returned (.tuple #[]) ∧ w' = w.setCell a (.int .i64 n) := by
  go_enter Tryz.func80, Tryz.ntmps80
  go_wp2
  go_end0
  exact ⟨rfl, rfl⟩

/-- Places, as closures: what holds behind k of them is I k. -/
structure Places (B : Nat) (ws : List By) (fs : List (Nat × Array Value)) (aw ap : Option Addr) (I : Nat → World → Prop) : Prop where
  gv : ∀ k w, I k w → GV B w ∧ B ≤ w.heap.size
  new : ∀ k w w', I k w → Below w.heap.size w w' → I k w'
  strs : ∀ (k : Nat) (w : World) (i : Nat) (x : By), I k w → ws[i]? = some x → ∃ b off, aw = some ⟨b, off, none⟩ ∧ w.cell? ⟨b, off + i, none⟩ = some (sv x)
  funs : ∀ (k : Nat) (w : World) (i N : Nat) (caps : Array Value), I k w → fs[i]? = some (N, caps) → ∃ b off, ap = some ⟨b, off, none⟩ ∧ w.cell? ⟨b, off + i, none⟩ = some (.func (.func N) #[] caps)
  enter : ∀ (i N : Nat) (caps : Array Value), fs[i]? = some (N, caps) → ∀ (args : Array Value) (w : World), Sem.run Tryz.prog (callFunc N args) w = .ok (.enter N args) w
  call : ∀ (k N : Nat) (caps : Array Value) (x : By) (n : Int) (w : World), fs[k]? = some (N, caps) → ws[k]? = some x → numOf x = some n → I k w → Calls Tryz.prog N (#[.int .i64 n] ++ caps) w fun e w' => e = .returned (.tuple #[]) ∧ I (k + 1) w'
/-- What comes of fill. -/
def Filled (ws : List By) (n : Nat) (I : Nat → World → Prop) (b : Bool) (w : World) : Prop :=
  (b = true → ws.length = n ∧ (∃ ns, nums ws = some ns) ∧ I n w) ∧ (b = false → (ws.length ≠ n ∨ nums ws = none) ∧ ∃ k, I k w)
theorem nums_none {ws : List By} {k : Nat} {x : By} (h : ws[k]? = some x) (hn : numOf x = none) : nums ws = none := by
  cases e : nums ws with
  | none => rfl
  | some l =>
    obtain ⟨h1, h2⟩ := nums_some e
    rw [← h1, List.getElem?_map] at h
    cases hl : l[k]? with
    | none => rw [hl] at h; cases h
    | some n =>
      rw [hl] at h
      simp at h
      rw [← h, num_dig (h2 n (List.mem_of_getElem? hl))] at hn
      cases hn
theorem nums_all : ∀ {ws : List By}, (∀ (k : Nat) (x : By), ws[k]? = some x → ∃ n, numOf x = some n) → ∃ ns, nums ws = some ns
  | [], _ => ⟨[], rfl⟩
  | x :: ws, h => by
    obtain ⟨n, hn⟩ := h 0 x rfl
    obtain ⟨ns, hs⟩ := nums_all (ws := ws) (fun k y hy => h (k + 1) y (by simpa using hy))
    exact ⟨n :: ns, by rw [nums, hn, hs]⟩

set_option maxHeartbeats 1000000 in
/-- WHAT fill ANSWERS. -/
theorem fill_any (B : Nat) (ws : List By) (fs : List (Nat × Array Value)) (aw ap : Option Addr) (cw cp : Nat) (I : Nat → World → Prop) (hw : ∀ x ∈ ws, x.length ≤ 60000) (hl2 : fs.length ≤ 70000) (H : Hid (Places B ws fs aw ap I)) (w : World) (h0 : Hid (I 0 w)) :
    Calls Tryz.prog 51 #[.slice aw ws.length cw, .slice ap fs.length cp] w fun e w' => ∃ b, e = .returned (.bool b) ∧ Filled ws fs.length I b w' := by
  have HW := hide hw
  clear hw
  by_cases hn : ws.length = fs.length
  · have HN := hide hn
    rw [hn]
    clear hn
    go_enter Tryz.func51, Tryz.ntmps51
    go_wp2
    go_loopw [16] (fun i wr => ∃ k : Nat, i = .int .i64 k ∧ k ≤ fs.length ∧ I k wr ∧ ∀ (j : Nat) (x : By), j < k → ws[j]? = some x → ∃ n, numOf x = some n) (fun i _ => fs.length - (intOf i).toNat)
    case atStart => exact ⟨0, rfl, Nat.zero_le _, h0.out, fun j x h => by omega⟩
    case round =>
      obtain ⟨k, rfl, hk, hI, hJ⟩ := hrel
      have HI := hide hI
      have HJ := hide hJ
      clear hI hJ
      by_cases hlt : k < fs.length
      · obtain ⟨x, hx⟩ : ∃ x, ws[k]? = some x := ⟨_, List.getElem?_eq_getElem (by have := HN.out; omega)⟩
        obtain ⟨⟨N, caps⟩, hfk⟩ : ∃ p, fs[k]? = some p := ⟨_, List.getElem?_eq_getElem hlt⟩
        obtain ⟨b, off, rfl, cx⟩ := H.out.strs k wr k x HI.out hx
        obtain ⟨hg, hB⟩ := H.out.gv k wr HI.out
        have HX := hide hx
        have HF := hide hfk
        have HG := hide hg
        clear hx hfk hg
        go_wp2_with fail
        refine (numberIn_any B x (HW.out x (List.mem_of_getElem? HX.out)) _ HG hB).mono ?_
        rintro e w1 ⟨n, b1, rfl, hN, hb⟩
        have HI1 := hide (H.out.new k _ _ HI.out hb)
        clear hb cx
        cases b1 with
        | false =>
          have HR : Hid (Filled ws fs.length I false w1) := ⟨fun h => by (cases h), fun _ => ⟨.inr (nums_none HX.out (hN.2.2 rfl)), k, HI1.out⟩⟩
          clear hN
          go_wp2
          go_ret
          exact ⟨false, rfl, HR.out⟩
        | true =>
          have HNX := hide (hN.2.1 rfl)
          clear hN
          obtain ⟨b2, off2, rfl, cf⟩ := H.out.funs k w1 k N caps HI1.out HF.out
          have en := H.out.enter k N caps HF.out
          go_wp2_with fail
          refine (H.out.call k N caps x n _ HF.out HX.out HNX.out HI1.out).mono ?_
          rintro e w2 ⟨rfl, hI2⟩
          have HI2 := hide hI2
          have HJ2 : Hid (∀ (j : Nat) (y : By), j < k + 1 → ws[j]? = some y → ∃ n, numOf y = some n) := fun j y hj hy => by
            by_cases hjk : j < k
            · exact HJ.out j y hjk hy
            · obtain rfl : j = k := by omega
              rw [HX.out] at hy
              cases hy
              exact ⟨n, HNX.out⟩
          clear hI2 cf
          go_wp2
          go_roundw
          case rel => exact ⟨k + 1, by go_num, by omega, HI2.out, HJ2.out⟩
          case measure => simp [intOf]; omega
      · obtain rfl : k = fs.length := by omega
        have HR : Hid (Filled ws fs.length I true wr) := ⟨fun _ => ⟨HN.out, nums_all (fun j x hj => HJ.out j x (by have := (List.getElem?_eq_some_iff.1 hj).1; have := HN.out; omega) hj), HI.out⟩, fun h => by (cases h)⟩
        go_wp2
        go_ret
        exact ⟨true, rfl, HR.out⟩
  · have hne : ((ws.length : Int) == (fs.length : Int)) = false := by simp; omega
    have HR : Hid (Filled ws fs.length I false w) := ⟨fun h => by (cases h), fun _ => ⟨.inl hn, 0, h0.out⟩⟩
    clear hn
    go_enter Tryz.func51, Tryz.ntmps51
    go_wp2
    go_ret
    exact ⟨false, rfl, HR.out⟩

end Go.Proofs.YtbdcmkmeljddmaaGreatDoor.Aw


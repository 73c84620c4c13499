/- The listing's words in memory: the walks of unitWords, instrWords, of, kind and numberOf. -/
import Derived.Test.YtlicfdligldhdaaDoorM6
import Derived.Test.YtlicfdligldhdaaDoorM7
import Derived.Test.YtlicfdligldhdaaDoorM8
import Derived.Lib.LaidTab
import Derived.Lib.SlicesS
namespace Go.Proofs.YtlicfdligldhdaaDoor.Aw
open Go.RowKit As

abbrev sv (l : By) : Value := .string ⟨l.toArray⟩
theorem below_grow (w : World) (k : Nat) (os : Array Obj) : Below w.heap.size w (Go.Sort.grow (w.drewN k) os) :=
  ⟨rfl, rfl, rfl, by show w.heap.size ≤ (w.heap ++ os).size; simp, fun i hi => by show (w.heap ++ os)[i]? = _; rw [Array.getElem?_append_left hi]⟩
theorem below_drewN (w : World) (k : Nat) : Below w.heap.size w (w.drewN k) := ⟨rfl, rfl, rfl, Nat.le_refl _, fun _ _ => rfl⟩
/-- Two steps of which each leaves all that there is. -/
theorem below_on {w w1 w2 : World} (h : Below w.heap.size w w1) (h2 : Below w1.heap.size w1 w2) : Below w.heap.size w w2 := h.trans (h2.mono h.size)

/-- What is asked of the library's variables: all lie below B. -/
structure GV (B : Nat) (w : World) : Prop where
  max : ∃ m, w.var? Tryd.prog "internal/bytealg.MaxLen" = some #[.int .i64 m]
  sp : Lib.TabIs Tryd.prog w "strings.asciiSpace" .u8 Lib.asciiSpaceTab
  pow : Lib.TabIs Tryd.prog w "internal/strconv.uint64pow10" .u64 Lib.pow10Tab
  syn : ∃ tp p, w.var? Tryd.prog "strconv.ErrSyntax" = some #[.iface tp p]
  rng : ∃ tp p, w.var? Tryd.prog "strconv.ErrRange" = some #[.iface tp p]
  base : 11 ≤ B
theorem var_low {B g : Nat} {w w' : World} {n : String} (hg : Tryd.prog.globalNamed n = some g) (hB : g < B) (h : Low B w w') : w'.var? Tryd.prog n = w.var? Tryd.prog n := by
  simp only [World.var?, hg, Option.bind_some, h g hB]
theorem gl_max : Tryd.prog.globalNamed "internal/bytealg.MaxLen" = some 1 := by kernel_rfl
theorem gl_sp : Tryd.prog.globalNamed "strings.asciiSpace" = some 0 := by kernel_rfl
theorem gl_pow : Tryd.prog.globalNamed "internal/strconv.uint64pow10" = some 3 := by kernel_rfl
theorem gl_syn : Tryd.prog.globalNamed "strconv.ErrSyntax" = some 6 := by kernel_rfl
theorem gl_rng : Tryd.prog.globalNamed "strconv.ErrRange" = some 7 := by kernel_rfl
theorem GV.low {B : Nat} {w w' : World} (h : GV B w) (hl : Low B w w') : GV B w' := by
  have hB := h.base
  refine ⟨?_, ?_, ?_, ?_, ?_, hB⟩
  · obtain ⟨m, e⟩ := h.max; exact ⟨m, (var_low gl_max (by omega) hl).trans e⟩
  · exact (var_low gl_sp (by omega) hl).trans h.sp
  · exact (var_low gl_pow (by omega) hl).trans h.pow
  · obtain ⟨t, p, e⟩ := h.syn; exact ⟨t, p, (var_low gl_syn (by omega) hl).trans e⟩
  · obtain ⟨t, p, e⟩ := h.rng; exact ⟨t, p, (var_low gl_rng (by omega) hl).trans e⟩
theorem GV.below {B C : Nat} {w w' : World} (h : GV B w) (hl : Below C w w') (hB : B ≤ C) : GV B w' := h.low fun k hk => hl.block k (by omega)
theorem GV.cell {B : Nat} {w : World} (h : GV B w) : ∃ m, w.cell? ⟨1, 0, none⟩ = some (.int .i64 m) := by
  obtain ⟨m, e⟩ := h.max
  exact ⟨m, World.var?_cell gl_max e 0⟩

def tabW : List By := tab.map (·.1)
def unitW : List By := [fnW, genW, taskW]
abbrev wsO (l : List By) : Obj := .cells (l.map sv).toArray 9 (0, 0)

theorem ascii_of {l : By} (h : l.all (fun b => decide (b.toNat < 128)) = true) : ∀ (j : Nat) b, l[j]? = some b → b.toNat < 128 := fun j b hb => by
  have := List.all_eq_true.1 h b (List.mem_of_getElem? hb)
  simpa using this

abbrev unitT : By := [102, 110, 32, 103, 101, 110, 32, 116, 97, 115, 107]
theorem fields_unit : Lib.fields unitT = unitW := by decide

theorem two_new (w : World) (o p : Obj) : ((w.alloc o).alloc p).heap[w.heap.size + 1]? = some p := by
  have := heap_alloc_new (w.alloc o) p
  simpa using this
theorem two_below (w : World) (o p : Obj) : Below w.heap.size w ((w.alloc o).alloc p) := ((Below.refl w.heap.size w).alloc (Nat.le_refl _) _).alloc (by simp) _

set_option maxHeartbeats 400000 in
theorem unitWords_any (B : Nat) (w : World) (hg : Hid (GV B w)) (hB : Hid (B ≤ w.heap.size)) :
    Calls Tryd.prog 19 #[] w fun e w' => ∃ N, e = .returned (.agg #[.int .i64 2, .slice (some ⟨N, 0, none⟩) 3 3]) ∧ w.heap.size ≤ N ∧ w'.heap[N]? = some (wsO unitW) ∧ Below w.heap.size w w' := by
  have c := Tryd.strings_Fields ⟨#[102, 110, 32, 103, 101, 110, 32, 116, 97, 115, 107]⟩ (w.alloc (.cells #[.int .i64 0, .slice none 0 0] 53)) (by decide) (ascii_of (by decide)) (hg.out.below ((Below.refl w.heap.size w).alloc (Nat.le_refl _) _) hB.out).sp
  have e1 : Lib.fields (⟨#[102, 110, 32, 103, 101, 110, 32, 116, 97, 115, 107]⟩ : ByteArray).data.toList = unitW := fields_unit
  rw [e1] at c
  have HC := hide c
  clear c e1
  go_enter Tryd.func19, Tryd.ntmps19
  go_wp2_with fail
  refine HC.out.mono ?_
  rintro e w1 ⟨rfl, rfl⟩
  go_wp2
  exact bodyPost_ret (v := .agg #[.int .i64 2, .slice (some ⟨w.heap.size + 1, 0, none⟩) 3 3]) (by simp [results, Tryd.results19, go_sem]; rfl) rfl ⟨w.heap.size + 1, rfl, by omega, two_new _ _ _, two_below _ _ _⟩

abbrev instrT : By := [112, 117, 115, 104, 32, 116, 114, 117, 116, 104, 32, 108, 111, 97, 100, 32, 115, 116, 111, 114, 101, 32, 100, 114, 111, 112, 32, 110, 101, 103, 32, 110, 111, 116, 32, 97, 100, 100, 32, 115, 117, 98, 32, 109, 117, 108, 32, 100, 105, 118, 32, 109, 111, 100, 32, 101, 113, 32, 110, 101, 32, 108, 116, 32, 108, 101, 32, 103, 116, 32, 103, 101, 32, 97, 110, 100, 32, 111, 114, 32, 106, 117, 109, 112, 32, 101, 108, 115, 101, 32, 99, 97, 108, 108, 32, 114, 101, 116, 32, 101, 110, 100, 32, 115, 101, 110, 100, 32, 114, 101, 99, 118, 32, 111, 117, 116, 32, 115, 116, 97, 114, 116, 32, 114, 101, 115, 117, 109, 101, 32, 121, 105, 101, 108, 100, 32, 97, 108, 105, 118, 101]
theorem fields_instr : Lib.fields instrT = tabW := by kernel_rfl

set_option maxHeartbeats 400000 in
set_option maxRecDepth 100000 in
theorem instrWords_any (B : Nat) (w : World) (hg : Hid (GV B w)) (hB : Hid (B ≤ w.heap.size)) :
    Calls Tryd.prog 20 #[] w fun e w' => ∃ N, e = .returned (.agg #[.int .i64 1, .slice (some ⟨N, 0, none⟩) 32 32]) ∧ w.heap.size ≤ N ∧ w'.heap[N]? = some (wsO tabW) ∧ Below w.heap.size w w' := by
  have c := Tryd.strings_Fields ⟨instrT.toArray⟩ (w.alloc (.cells #[.int .i64 0, .slice none 0 0] 53)) (by decide) (ascii_of (by decide)) (hg.out.below ((Below.refl w.heap.size w).alloc (Nat.le_refl _) _) hB.out).sp
  have e1 : Lib.fields (⟨instrT.toArray⟩ : ByteArray).data.toList = tabW := fields_instr
  rw [e1] at c
  have HC := hide c
  clear c e1
  go_enter Tryd.func20, Tryd.ntmps20
  go_wp2_with fail
  refine HC.out.mono ?_
  rintro e w1 ⟨rfl, rfl⟩
  go_wp2
  exact bodyPost_ret (v := .agg #[.int .i64 1, .slice (some ⟨w.heap.size + 1, 0, none⟩) 32 32]) (by simp [results, Tryd.results20, go_sem]; rfl) rfl ⟨w.heap.size + 1, rfl, by omega, two_new _ _ _, two_below _ _ _⟩

/-- The word of a kind. -/
def ofW (l : List By) (first k : Int) : Option By := if k < first then none else l[(k - first).toNat]?
theorem of_unit (k : Int) : ofW unitW 2 k = headW k := by
  unfold ofW headW
  by_cases h2 : k = 2
  · subst h2; rfl
  by_cases h3 : k = 3
  · subst h3; rfl
  by_cases h4 : k = 4
  · subst h4; rfl
  rw [if_neg h2, if_neg h3, if_neg h4]
  split
  · rfl
  · exact List.getElem?_eq_none (by simp [unitW]; omega)
theorem of_tab (op : Int) : ofW tabW 1 op = (wordOf op).map (·.1) := by
  unfold ofW wordOf tabW
  by_cases h : 1 ≤ op
  · rw [if_neg (by omega), if_pos h, List.getElem?_map]
  · rw [if_pos (by omega), if_neg h]
    rfl
theorem ws_cell {w : World} {N i : Nat} {l : List By} {x : By} (h : w.heap[N]? = some (wsO l)) (hx : l[i]? = some x) : w.cell? ⟨N, i, none⟩ = some (sv x) := by
  simp [World.cell?, h, hx]

set_option maxHeartbeats 400000 in
theorem of_any (N : Nat) (l : List By) (first k : Int) (hf : 0 ≤ first ∧ first ≤ 2) (hk : I64 k) (_hl : l.length ≤ 32) (w : World) (hN : Hid (w.heap[N]? = some (wsO l))) (r : Option By) (hr : Hid (r = ofW l first k)) :
    Calls Tryd.prog 23 #[.agg #[.int .i64 first, .slice (some ⟨N, 0, none⟩) l.length l.length], .int .i64 k] w fun e w' => e = .returned (.tuple #[sv (r.getD []), .bool r.isSome]) ∧ Below w.heap.size w w' := by
  obtain ⟨hf1, hf2⟩ := hf
  obtain ⟨hk1, hk2⟩ := hk
  by_cases h1 : k < first
  · obtain rfl : r = none := by rw [hr.out]; unfold ofW; rw [if_pos h1]
    go_enter Tryd.func23, Tryd.ntmps23
    go_wp2
    go_ret2
    exact ⟨rfl, (Below.refl _ _).alloc (Nat.le_refl _) _⟩
  · have ew : IntKind.i64.wrap (k - first) = k - first := by simp [IntKind.wrap, IntKind.bits, IntKind.signed]; omega
    by_cases h2 : (l.length : Int) ≤ k - first
    · obtain rfl : r = none := by rw [hr.out]; unfold ofW; rw [if_neg h1]; exact List.getElem?_eq_none (by omega)
      go_enter Tryd.func23, Tryd.ntmps23
      go_wp2
      go_ret2
      exact ⟨rfl, (Below.refl _ _).alloc (Nat.le_refl _) _⟩
    · obtain ⟨i, hi⟩ : ∃ i : Nat, k - first = i := ⟨(k - first).toNat, by omega⟩
      have hlt : i < l.length := by omega
      obtain ⟨x, hx⟩ : ∃ x, l[i]? = some x := ⟨_, List.getElem?_eq_getElem hlt⟩
      obtain rfl : r = some x := by rw [hr.out]; unfold ofW; rw [if_neg h1, hi, Int.toNat_natCast]; exact hx
      have hNl := lt_of_block hN.out
      have cx : (w.alloc (.cells #[.int .i64 first, .slice (some ⟨N, 0, none⟩) l.length l.length] 53)).cell? ⟨N, i, none⟩ = some (sv x) := ws_cell ((Below.heap_alloc _ _ _ hNl).trans hN.out) hx
      rw [hi] at ew h2
      obtain ⟨h3, h4⟩ : ¬ k < first ∧ k - first = i := ⟨h1, hi⟩
      go_enter Tryd.func23, Tryd.ntmps23
      go_wp2
      go_ret2
      exact ⟨rfl, (Below.refl _ _).alloc (Nat.le_refl _) _⟩

end Go.Proofs.YtlicfdligldhdaaDoor.Aw


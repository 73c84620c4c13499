/- For the walk of opt.over: what is put there is numbers; rows in the same room. -/
import Derived.Test.YtalofknphhjhnaaM12
import Derived.Test.YtalofknphhjhnaaM26
import Derived.ArgAppend
namespace Go.Proofs.Ytalofknphhjhnaa.Ow
open Go.RowKit Vf Vm Ot

def Is64 (c : Ins) : Prop := I64 c.op ∧ I64 c.a ∧ I64 c.n
theorem wrap_i64 (n : Int) : I64 (wrap n) := by
  unfold Vm.wrap wrap64
  constructor <;> omega
theorem tmod_i64 {a b : Int} (h : I64 a) : I64 (a.tmod b) := by
  have h1 : (a.tmod b).natAbs = a.natAbs % b.natAbs := Int.natAbs_tmod a b
  have h2 := Nat.mod_le a.natAbs b.natAbs
  by_cases h0 : 0 ≤ a
  · have := Int.tmod_nonneg b h0
    constructor <;> omega
  · have h3 : a.tmod b ≤ 0 := by
      have := Int.tmod_nonneg b (show 0 ≤ -a by omega)
      rw [Int.neg_tmod] at this
      omega
    constructor <;> omega
theorem yes_i64 (b : Bool) : I64 (yes b) := by cases b <;> constructor <;> decide
theorem two_i64 {op a b : Int} (ha : I64 a) : I64 (two op a b) := by
  unfold two
  split
  · exact wrap_i64 _
  split
  · exact wrap_i64 _
  split
  · exact wrap_i64 _
  split
  · exact wrap_i64 _
  split
  · exact tmod_i64 ha
  · exact yes_i64 _
theorem word_i64 {c : Ins} (h : Is64 c) : I64 (word c) := by
  unfold word
  split
  · exact h.2.2
  · exact h.2.1
theorem put_i64 {l : List Ins} (hl : ∀ c ∈ l, Is64 c) {x : Nat} (hx : x < l.length) {d : Ins} (hd : d ∈ (change l x).2) : Is64 d := by
  have z : I64 0 := by constructor <;> decide
  have o1 : I64 1 := by constructor <;> decide
  have o2 : I64 2 := by constructor <;> decide
  have o21 : I64 21 := by constructor <;> decide
  rcases change_form l x with h | ⟨_, h⟩
  · rw [h, List.getElem?_eq_getElem hx] at hd
    simp only [List.mem_singleton, Option.getD_some] at hd
    rw [hd]
    exact hl _ (List.getElem_mem hx)
  · rcases h with ⟨a, b, c, hr, e⟩ | ⟨a, b, hr, e⟩ | ⟨a, b, hr, e⟩ | ⟨a, b, hr, e⟩ | ⟨a, b, hr, e⟩ | ⟨a, _, _, _, e⟩
    · rw [e] at hd
      simp only [List.mem_singleton] at hd
      subst hd
      have ha := word_i64 (hl a (List.mem_of_getElem? hr.h0))
      unfold Ot.comes
      split
      · exact ⟨o1, z, two_i64 ha⟩
      · exact ⟨o2, two_i64 ha, z⟩
    · rw [e] at hd; cases hd
    · rw [e] at hd
      simp only [put3, List.mem_singleton] at hd
      subst hd
      exact ⟨o1, z, wrap_i64 _⟩
    · rw [e] at hd
      simp only [put4, List.mem_singleton] at hd
      subst hd
      exact ⟨o2, wrap_i64 _, z⟩
    · rw [e] at hd
      simp only [put5] at hd
      split at hd
      · simp only [List.mem_singleton] at hd
        subst hd
        exact ⟨o21, (hl b (List.mem_of_getElem? hr.h1)).2.1, z⟩
      · cases hd
    · rw [e] at hd; cases hd
theorem code_is64 {B : Nat} {w : World} {l : List Ins} {a : Option Addr} (h : CodeIn B w l a) : ∀ c ∈ l, Is64 c := fun c hc => by
  obtain ⟨i, hi⟩ := List.getElem?_of_mem hc
  obtain ⟨h1, h2, h3, _⟩ := h i c hi
  exact ⟨h1, h2, h3⟩

abbrev inC (c : Ins) : List Value := [.int .i64 c.op, .int .i64 c.a, .int .i64 c.n]
/-- One more instruction, in the same room. -/
theorem code_push {B : Nat} {w : World} {o : List Ins} {g N : Nat} {c : Ins} (h : CodeIn B w o (some ⟨g, 0, none⟩)) (hb : Blk w g 41 N) (hN : o.length * 3 + 3 ≤ N) (hB : g < B) (hc : Is64 c) : CodeIn B (w.setCells g (o.length * 3) (inC c)) (o ++ [c]) (some ⟨g, 0, none⟩) := fun i x hx => by
  by_cases e : i < o.length
  · rw [List.getElem?_append_left e] at hx
    obtain ⟨h1, h2, h3, b, off, e', hb', c0, c1, c2⟩ := h i x hx
    cases e'
    refine ⟨h1, h2, h3, g, 0, rfl, hb', ?_, ?_, ?_⟩
    · rw [World.cell?_setCells_out _ _ _ _ _ (fun _ _ => .inl (by show 0 + i * 3 < o.length * 3; omega))]
      exact c0
    · rw [World.cell?_setCells_out _ _ _ _ _ (fun _ _ => .inl (by show 0 + i * 3 + 1 < o.length * 3; omega))]
      exact c1
    · rw [World.cell?_setCells_out _ _ _ _ _ (fun _ _ => .inl (by show 0 + i * 3 + 2 < o.length * 3; omega))]
      exact c2
  · rw [List.getElem?_append_right (by omega)] at hx
    have hi : i = o.length := by
      have := (List.getElem?_eq_some_iff.1 hx).1
      simp at this
      omega
    subst hi
    simp at hx
    subst hx
    have hin := World.cell?_setCells_in g (inC c) (o.length * 3) w (fun j hj => (hb.cell (by simp at hj; omega)).1)
    refine ⟨hc.1, hc.2.1, hc.2.2, g, 0, rfl, hB, ?_, ?_, ?_⟩
    · have := hin 0 (by simp)
      simpa using this
    · have := hin 1 (by simp)
      simpa using this
    · have := hin 2 (by simp)
      simpa using this
theorem code_behind {B : Nat} {w : World} {r : List Ins} {g k off : Nat} {vs : List Value} (h : CodeIn B w r (some ⟨g, off, none⟩)) (hk : k + vs.length ≤ off) : CodeIn B (w.setCells g k vs) r (some ⟨g, off, none⟩) := fun i x hx => by
  obtain ⟨h1, h2, h3, b, o, e', hb', c0, c1, c2⟩ := h i x hx
  cases e'
  refine ⟨h1, h2, h3, g, off, rfl, hb', ?_, ?_, ?_⟩
  · rw [World.cell?_setCells_out _ _ _ _ _ (fun _ _ => .inr (by show k + vs.length ≤ off + i * 3; omega))]
    exact c0
  · rw [World.cell?_setCells_out _ _ _ _ _ (fun _ _ => .inr (by show k + vs.length ≤ off + i * 3 + 1; omega))]
    exact c1
  · rw [World.cell?_setCells_out _ _ _ _ _ (fun _ _ => .inr (by show k + vs.length ≤ off + i * 3 + 2; omega))]
    exact c2
theorem blk_sets {g N : Nat} {t : TypeId} {b : Nat} : ∀ (vs : List Value) (o : Nat) {w : World}, Blk w g t N → Blk (w.setCells b o vs) g t N
  | [], _, _, h => h
  | v :: r, o, _, h => blk_sets r (o + 1) (h.set _ v)
theorem heap_sets (b : Nat) {k : Nat} (hk : k ≠ b) : ∀ (vs : List Value) (o : Nat) (w : World), (w.setCells b o vs).heap[k]? = w.heap[k]?
  | [], _, _ => rfl
  | v :: r, o, w => (heap_sets b hk r (o + 1) _).trans (Below.heap_setCell w ⟨b, o, none⟩ v k hk)
theorem size_sets (b : Nat) : ∀ (vs : List Value) (o : Nat) (w : World), (w.setCells b o vs).heap.size = w.heap.size
  | [], _, _ => rfl
  | v :: r, o, w => (size_sets b r (o + 1) _).trans (by simp)
theorem os_sets (b : Nat) : ∀ (vs : List Value) (o : Nat) (w : World), (w.setCells b o vs).os = w.os ∧ (w.setCells b o vs).tape = w.tape ∧ (w.setCells b o vs).output = w.output
  | [], _, _ => ⟨rfl, rfl, rfl⟩
  | v :: r, o, w => os_sets b r (o + 1) (w.setCell ⟨b, o, none⟩ v)
/-- Nothing but these blocks has turned. -/
structure Pch (S : Nat → Prop) (w w' : World) : Prop where
  os : w'.os = w.os
  tape : w'.tape = w.tape
  output : w'.output = w.output
  size : w.heap.size ≤ w'.heap.size
  block : ∀ k, k < w.heap.size → ¬ S k → w'.heap[k]? = w.heap[k]?
theorem Pch.refl (S : Nat → Prop) (w : World) : Pch S w w := ⟨rfl, rfl, rfl, Nat.le_refl _, fun _ _ _ => rfl⟩
theorem Pch.trans {S : Nat → Prop} {a b c : World} (h : Pch S a b) (k : Pch S b c) : Pch S a c := ⟨k.os.trans h.os, k.tape.trans h.tape, k.output.trans h.output, Nat.le_trans h.size k.size, fun j h1 h2 => (k.block j (Nat.lt_of_lt_of_le h1 h.size) h2).trans (h.block j h1 h2)⟩
theorem Pch.mono {S T : Nat → Prop} {a b : World} (h : Pch S a b) (hs : ∀ k, S k → T k) : Pch T a b := ⟨h.os, h.tape, h.output, h.size, fun j h1 h2 => h.block j h1 (fun e => h2 (hs j e))⟩
theorem Pch.of {S : Nat → Prop} {a b : World} (h : Below a.heap.size a b) : Pch S a b := ⟨h.os, h.tape, h.output, h.size, fun j h1 _ => h.block j h1⟩
theorem Pch.gm {S : Nat → Prop} {a b : World} {g : Nat} (h : a.grownBy b (some g)) (hg : S g) : Pch S a b := ⟨h.os, h.tape, h.output, h.size, fun j h1 h2 => h.block j h1 (fun e => by cases e; exact h2 hg)⟩
theorem Pch.set {S : Nat → Prop} {a b : World} (h : Pch S a b) (p : Addr) (hp : S p.block) (v : Value) : Pch S a (b.setCell p v) := ⟨h.os, h.tape, h.output, by simpa using h.size, fun j h1 h2 => (Below.heap_setCell _ p _ _ (fun e => h2 (by rw [e]; exact hp))).trans (h.block j h1 h2)⟩
theorem Pch.sets {S : Nat → Prop} {a b : World} (h : Pch S a b) (g : Nat) (hg : S g) (o : Nat) (vs : List Value) : Pch S a (b.setCells g o vs) := ⟨(os_sets g vs o b).1.trans h.os, (os_sets g vs o b).2.1.trans h.tape, (os_sets g vs o b).2.2.trans h.output, by rw [size_sets]; exact h.size, fun j h1 h2 => (heap_sets g (fun e => h2 (by rw [e]; exact hg)) vs o b).trans (h.block j h1 h2)⟩
/-- An append of one instruction, in the same room; of none. -/
theorem run_room {w : World} {g n cap : Nat} {b off cp : Nat} {c : Ins} (hb : Blk w g 41 (cap * 3)) (hn : n + 1 ≤ cap) (h0 : w.cell? ⟨b, off, none⟩ = some (.int .i64 c.op)) (h1 : w.cell? ⟨b, off + 1, none⟩ = some (.int .i64 c.a)) (h2 : w.cell? ⟨b, off + 2, none⟩ = some (.int .i64 c.n)) :
    (Builtin.append_ #[36, 36] 36 #[.slice (some ⟨g, 0, none⟩) n cap, .slice (some ⟨b, off, none⟩) 1 cp]).run Try.prog w = .ok (.slice (some ⟨g, 0, none⟩) (n + 1) cap) (w.setCells g (n * 3) (inC c)) := by
  obtain ⟨i, hi, _, hz1, _⟩ : ∃ i, Try.prog.info? 41 = some i ∧ i.zero = some (.agg #[.int .i64 0, .int .i64 0, .int .i64 0]) ∧ i.size = 3 ∧ i.bytes = 24 := by
    have h : (Try.prog.info? 41).map (fun i => (i.zero, i.size, i.bytes)) = some (some (.agg #[.int .i64 0, .int .i64 0, .int .i64 0]), 3, 24) := by kernel_rfl
    obtain ⟨i, hi, h⟩ := Option.map_eq_some_iff.1 h
    simp only [Prod.mk.injEq] at h
    exact ⟨i, hi, h.1, h.2.1, h.2.2⟩
  have := run_append_room_cells (P := Try.prog) (w := w) 36 36 41 i Try.underlying36 hi g 0 n cap ⟨b, off, none⟩ 1 cp (inC c) (by rw [hz1]; rfl) (fun j u hu => by
    rcases j with _ | _ | _ | j
    · cases hu; exact h0
    · cases hu; exact h1
    · cases hu; exact h2
    · simp at hu) (fun u hu => by
    simp at hu
    rcases hu with rfl | rfl | rfl <;> rfl) hn (fun j hj => (hb.cell (by rw [hz1]; simp at hj; omega)).1) (fun j hj => (hb.cell (by rw [hz1]; simp at hj; omega)).2)
  rw [hz1, Nat.zero_add] at this
  exact this
theorem wpList_append_run {P : Program} {w : World} {ops : Array Oper} {rest : List Oper} {o : Oper} {a : Act} {Q : Exit → Act → World → Prop} (hgd : o.guard = none) (s x : Operand) (t : TypeId)
    (ho : o.op = .call { callee := .builtin .append, args := #[s, x], argTypes := #[t, t] }) (v vx v' : Value) (w' : World) (hs : a.eval s = v) (hx : a.eval x = vx) (hrun : (Builtin.append_ #[t, t] o.type #[v, vx]).run P w = .ok v' w')
    (h : wpList P ops Q rest (a.put o.dst v') w') : wpList P ops Q (o :: rest) a w := by
  refine wpList_plain hgd fun K hK => ?_
  unfold Oper.wp
  simp [execOp, ho, resolve, invoke, builtin, hs, hx, hrun, Result.andThen]
  exact hK _ _ h
theorem run_none {w : World} {g n cap : Nat} (hn : n ≤ cap) : (Builtin.append_ #[36, 36] 36 #[.slice (some ⟨g, 0, none⟩) n cap, .slice none 0 0]).run Try.prog w = .ok (.slice (some ⟨g, 0, none⟩) n cap) w := by
  obtain ⟨i, hi⟩ : ∃ i, Try.prog.info? 41 = some i := by
    have h : (Try.prog.info? 41).isSome = true := by kernel_rfl
    exact Option.isSome_iff_exists.1 h
  simp [Builtin.append_, run_underlying Try.underlying36, sizeOf, typeInfo, hi, Builtin.lenOf, Builtin.firstCells, hn, storeCells]
end Go.Proofs.Ytalofknphhjhnaa.Ow

/- The walk of opt.over: a pass. -/
namespace Go.Proofs.Ytalofknphhjhnaa.Ow
open Go.RowKit Vf Vm Ot

theorem now_all {ps : List (Nat × Ch)} {N : Nat} (h : ∀ p ∈ ps, p.1 < N) : now ps N = (out ps).length := by
  induction ps with
  | nil => rfl
  | cons p ps ih =>
    rw [now, if_pos (h p List.mem_cons_self), ih (fun q hq => h q (List.mem_cons_of_mem _ hq))]
    show _ = (p.2.2 ++ out ps).length
    rw [List.length_append]
theorem now_end (l : List Ins) : now (all l) l.length = (out (all l)).length := now_all (fun _ hp => (pieces_mem l _ _ _ hp).2.1)
theorem pieces_apart (l : List Ins) : ∀ (f k x y : Nat), Begins (pieces l f k) x → Begins (pieces l f k) y → x < y → x + (change l x).1 ≤ y
  | 0, _, _, _, ⟨c, h⟩, _, _ => by cases h
  | f + 1, k, x, y, ⟨c, hx⟩, ⟨d, hy⟩, hlt => by
    have hp := change_len l k
    by_cases hk : k < l.length
    · rw [pieces, if_pos hk] at hx hy
      rcases List.mem_cons.1 hy with h | hy'
      · cases h
        rcases List.mem_cons.1 hx with h | hx'
        · cases h; omega
        · have h1 : k + (change l k).1 ≤ x := (pieces_mem l _ _ _ hx').1
          omega
      · have h1 : k + (change l k).1 ≤ y := (pieces_mem l _ _ _ hy').1
        rcases List.mem_cons.1 hx with h | hx'
        · cases h; exact h1
        · exact pieces_apart l f _ x y ⟨c, hx'⟩ ⟨d, hy'⟩ hlt
    · rw [pieces, if_neg hk] at hx
      cases hx
theorem inside {l : List Ins} {x y : Nat} (hx : Begins (all l) x) (hy : Begins (all l) y) (h1 : x < y) (h2 : y < x + (change l x).1) : False := by
  have := pieces_apart l _ _ x y hx hy h1
  omega
/-- The code of passes, and room for it. -/
structure CdIn (g cap W n0 B : Nat) (l : List Ins) (w : World) : Prop where
  code : CodeIn B w l (some ⟨g, 0, none⟩)
  blk : Blk w g 41 (cap * 3)
  now : Blk w W 3 n0
/-- Where a pass stands. -/
structure OvAt (g cap W n0 B : Nat) (l : List Ins) (x : Nat) (o : List Ins) (w : World) : Prop where
  le : x ≤ l.length
  at' : x = l.length ∨ Begins (all l) x
  len : o.length = now (all l) x
  few : o.length ≤ x
  pre : o = (out (all l)).take o.length
  left : CodeIn B w o (some ⟨g, 0, none⟩)
  rest : CodeIn B w (l.drop x) (some ⟨g, x * 3, none⟩)
  blk : Blk w g 41 (cap * 3)
  nowb : Blk w W 3 n0
  nows : ∀ y, y < x → Begins (all l) y → w.cell? ⟨W, y, none⟩ = some (.int .i64 (now (all l) y : Nat))
theorem OvAt.start {g cap W n0 B : Nat} {l : List Ins} {w : World} (h : CdIn g cap W n0 B l w) (hl : 0 < l.length) : OvAt g cap W n0 B l 0 [] w :=
  ⟨Nat.zero_le _, .inr (begins_zero hl), by rw [now_zero]; rfl, Nat.le_refl _, by simp, fun i x hx => (by simp at hx), by rw [List.drop_zero, Nat.zero_mul]; exact h.code, h.blk, h.now, fun y hy => by omega⟩
theorem OvAt.on {g cap W n0 B : Nat} {l o : List Ins} {x : Nat} {w w' : World} (h : OvAt g cap W n0 B l x o w) (hg : w'.heap[g]? = w.heap[g]?) (hW : w'.heap[W]? = w.heap[W]?) : OvAt g cap W n0 B l x o w' :=
  ⟨h.le, h.at', h.len, h.few, h.pre, code_keep h.left hg, code_keep h.rest hg, h.blk.keep hg, h.nowb.keep hW, fun y hy hb => (cell_eq hW _).trans (h.nows y hy hb)⟩
/-- A piece more: nothing is put there. -/
theorem drop_code {B : Nat} {w : World} {l : List Ins} {g x k : Nat} (h : CodeIn B w (l.drop x) (some ⟨g, x * 3, none⟩)) : CodeIn B w (l.drop (x + k)) (some ⟨g, (x + k) * 3, none⟩) := fun i c hc => by
  rw [List.getElem?_drop] at hc
  obtain ⟨h1, h2, h3, b, o, e, hb, c0, c1, c2⟩ := h (k + i) c (by rw [List.getElem?_drop, ← Nat.add_assoc]; exact hc)
  cases e
  refine ⟨h1, h2, h3, g, (x + k) * 3, rfl, hb, ?_, ?_, ?_⟩
  · rw [show (x + k) * 3 + i * 3 = x * 3 + (k + i) * 3 by omega]; exact c0
  · rw [show (x + k) * 3 + i * 3 + 1 = x * 3 + (k + i) * 3 + 1 by omega]; exact c1
  · rw [show (x + k) * 3 + i * 3 + 2 = x * 3 + (k + i) * 3 + 2 by omega]; exact c2
theorem on_at {l : List Ins} {x : Nat} (hx : x < l.length) : x + (change l x).1 ≤ l.length := by
  rcases (change_len l x).2.2 with e | ⟨_, h, _⟩
  · rw [e]; exact hx
  · omega
/-- Behind a piece. -/
theorem OvAt.next {g cap W n0 B : Nat} {l o : List Ins} {x : Nat} {w w' : World} (h : OvAt g cap W n0 B l x o w) (hx : x < l.length) (hW : x < n0)
    (hleft : CodeIn B w' (o ++ (change l x).2) (some ⟨g, 0, none⟩)) (hrest : CodeIn B w' (l.drop (x + (change l x).1)) (some ⟨g, (x + (change l x).1) * 3, none⟩)) (hblk : Blk w' g 41 (cap * 3)) (hnow : Blk w' W 3 n0) (hc : ∀ y, y ≠ x → w'.cell? ⟨W, y, none⟩ = w.cell? ⟨W, y, none⟩) (hcx : w'.cell? ⟨W, x, none⟩ = some (.int .i64 (o.length : Nat))) : OvAt g cap W n0 B l (x + (change l x).1) (o ++ (change l x).2) w' := by
  have hb : Begins (all l) x := by
    rcases h.at' with e | e
    · omega
    · exact e
  have hlen := (change_len l x)
  have hn := begins_now hb
  refine ⟨on_at hx, ?_, by rw [List.length_append, h.len, hn], ?_, ?_, hleft, hrest, hblk, hnow, fun y hy hby => ?_⟩
  · by_cases e : x + (change l x).1 < l.length
    · exact .inr (begins_next hb e)
    · have := on_at hx
      exact .inl (by omega)
  · have h1 := h.few
    have : (change l x).2.length ≤ (change l x).1 := by omega
    rw [List.length_append]
    omega
  · have h1 := begins_out hb
    rw [← h.len] at h1
    rw [List.length_append]
    conv => lhs; rw [h.pre]
    rw [List.take_add]
    congr 1
    rw [h1, List.take_left]
  · by_cases e : y = x
    · subst e
      rw [hcx, h.len]
    · rw [hc y e]
      refine h.nows y ?_ hby
      -- no piece begins within another one
      refine Classical.byContradiction fun hlt => ?_
      exact inside hb hby (by omega) hy

/-- From where what is put there is read. -/
theorem ch_src {w w' : World} {B g cap W x : Nat} {l : List Ins} {v : Value} (h : ChIs w w' g cap l x v) (hC : CodeIn B w' (l.drop x) (some ⟨g, x * 3, none⟩)) (hB : B ≤ w'.heap.size) (hW : W < w.heap.size) (hgW : g ≠ W) :
    ((change l x).2 = [] ∧ v = .slice none 0 0) ∨ ∃ c b off cp, (change l x).2 = [c] ∧ v = .slice (some ⟨b, off, none⟩) 1 cp ∧ b ≠ W ∧ b < w'.heap.size ∧ w'.cell? ⟨b, off, none⟩ = some (.int .i64 c.op) ∧ w'.cell? ⟨b, off + 1, none⟩ = some (.int .i64 c.a) ∧ w'.cell? ⟨b, off + 2, none⟩ = some (.int .i64 c.n) := by
  rcases h with (h | ⟨c, q, h1, h2, h3, h4⟩) | ⟨h1, c, h2, h3⟩
  · exact .inl h
  · refine .inr ⟨c, q, 0, 1, h1, h2, by omega, lt_of_block h4, ?_, ?_, ?_⟩ <;> simp [World.cell?, h4]
  · obtain ⟨hb, c0, c1, c2⟩ := code_cells hC (i := 0) (x := c) (by rw [List.getElem?_drop, Nat.add_zero]; exact h2)
    rw [Nat.zero_mul, Nat.add_zero] at c0 c1 c2
    exact .inr ⟨c, g, x * 3, _, by rw [h3], h1, hgW, by omega, c0, c1, c2⟩

abbrev Sg (P g M W : Nat) : Nat → Prop := fun k => k = P ∨ k = g ∨ k = M ∨ k = W
theorem PsIn.pch {lo hi : Nat} {w0 : World} {P g n cap R M W n0 : Nat} {fs : List (Nat × Array Value)} {aim : Nat → Bool} {w w' : World} (h : PsIn lo hi w0 P g n cap R M W n0 fs aim w) (ha : Ap lo hi P g M W) {S : Nat → Prop} (hc : Pch S w w') (hS : ∀ k, S k → k = g ∨ k = W) : PsIn lo hi w0 P g n cap R M W n0 fs aim w' := by
  have hP := ha.pg
  have hPW := ha.pw
  have hM := ha.gm
  have hMW := ha.mw
  have o1 := ha.oG
  have o2 := ha.oW
  refine ⟨(hc.block P (lt_of_block h.ps) (fun e => by rcases hS _ e with e | e; exact hP e; exact hPW e)).trans h.ps, h.rls, fun j h1 h2 => (hc.block j (Nat.lt_of_lt_of_le h2 h.his) (fun e => by rcases hS _ e with e | e <;> omega)).trans (h.held j h1 h2), h.aims.keep (hc.block M h.aims.lt (fun e => by rcases hS _ e with e | e; exact hM e.symm; exact hMW e)), Nat.le_trans h.his hc.size⟩

set_option maxHeartbeats 4000000 in
set_option maxRecDepth 100000 in
theorem over_any (lo hi : Nat) (w0 : World) (P g cap R M W n0 B : Nat) (fs : List (Nat × Array Value)) (l : List Ins) (aim0 : Nat → Bool) (w : World) (hP : Hid (PsIn lo hi w0 P g l.length cap R M W n0 fs aim0 w)) (ha : Hid (Ap lo hi P g M W)) (hC : Hid (CdIn g cap W n0 B l w)) (hB : B ≤ w.heap.size) (hgB : g < B) (hl0 : 0 < l.length) (hl : l.length ≤ n0) (hn0 : n0 ≤ 4000) (hcap : n0 ≤ cap ∧ cap ≤ 9223372036854775807) (hj : Hid (Jumps l)) :
    Calls Try.prog 23 #[.pointer (some ⟨P, 0, none⟩)] w fun e w' => e = .returned (.bool (decide ((over l).length < l.length))) ∧ PsIn lo hi w0 P g (over l).length cap R M W n0 fs (aimed l) w' ∧ CdIn g cap W n0 B (over l) w' ∧ Pch (Sg P g M W) w w' := by
  obtain ⟨n, hn⟩ : ∃ n, n = l.length := ⟨_, rfl⟩
  have HN := hide hn
  rw [← hn] at hl hl0
  have n1 : (n : Int) ≤ 4000 := by omega
  have n2 : (n : Int) ≤ (cap : Int) := by omega
  have n3 : (n : Int) ≤ (n0 : Int) := by omega
  clear hn
  go_enter Try.func23, Try.ntmps23
  go_wp2_with fail
  refine (aim_any lo hi w0 P g cap R M W n0 B fs l aim0 w hP ha (hide hC.out.code) hB (by rw [← HN.out]; omega) hj).mono ?_
  rintro e w1 ⟨rfl, hp1, hg1⟩
  have HP1 := hide hp1
  have HC1 : Hid (CdIn g cap W n0 B l w1) := ⟨code_gm hC.out.code hB hg1 ha.out.gm, hC.out.blk.keep (hg1.block g hC.out.blk.lt (by intro e; cases e; exact ha.out.gm rfl)), hC.out.now.keep (hg1.block W hC.out.now.lt (by intro e; cases e; exact ha.out.mw rfl))⟩
  have HW1 : Hid (Pch (Sg P g M W) w w1) := .gm hg1 (.inr (.inr (.inl rfl)))
  have HB1 : Hid (B ≤ w1.heap.size) := Nat.le_trans hB hg1.size
  rw [← HN.out] at HP1
  clear hp1 hg1
  obtain ⟨q0, q1, q2, q3⟩ := ps_cells HP1.out.ps
  go_wp2
  clear q0 q1 q2 q3
  go_loopw [3, 4] (fun v i wr => ∃ (x : Nat) (o : List Ins), v = .slice (some ⟨g, 0, none⟩) o.length cap ∧ i = .int .i64 x ∧ OvAt g cap W n0 B l x o wr ∧ Pch (fun k => k = g ∨ k = W) w1 wr) (fun _ i _ => n - (intOf i).toNat)
  case atStart => exact ⟨0, [], rfl, rfl, OvAt.start HC1.out (by rw [← HN.out]; exact hl0), Pch.refl _ _⟩
  case round =>
    obtain ⟨x, o, rfl, rfl, hO, hCh⟩ := hrel
    have HO := hide hO
    have HCH := hide hCh
    have HPR := hide (HP1.out.pch ha.out hCh (fun _ h => h))
    have hxn : x ≤ n := by rw [HN.out]; exact hO.le
    have hox : o.length ≤ x := hO.few
    clear hO hCh
    obtain ⟨q0, q1, q2, q3⟩ := ps_cells HPR.out.ps
    by_cases hlt : x < n
    · have x1 : (x : Int) < (n : Int) := by omega
      have hxl : x < l.length := by rw [← HN.out]; exact hlt
      have HXL := hide hxl
      have hch := change_any lo hi w0 P g cap R M W n0 B x fs l wr (by rw [← HN.out]; exact HPR) (hide HO.out.rest) (Nat.le_trans HB1.out HCH.out.size) (by rw [← HN.out]; omega) hxl ⟨by rw [← HN.out]; omega, hcap.2⟩
      obtain ⟨gn, hgn⟩ : ∃ gn, gn = (change l x).1 := ⟨_, rfl⟩
      rw [← hgn] at hch
      have HCA := hide hch
      have HGN := hide hgn
      clear hch hxl hgn
      go_wp2_with fail
      refine HCA.out.mono ?_
      rintro e w2 ⟨v, m, c, rfl, hcx, hb2⟩
      have hWl := HO.out.nowb.lt
      have hgl := HO.out.blk.lt
      have hsrc := ch_src hcx (code_keep HO.out.rest (hb2.block g hgl)) (Nat.le_trans HB1.out (Nat.le_trans HCH.out.size hb2.size)) hWl ha.out.gw
      obtain ⟨W3, hW3⟩ : ∃ W3, W3 = w2.alloc (.cells #[.int .i64 gn, .slice v m c] 81) := ⟨_, rfl⟩
      have hb3 : Below wr.heap.size wr W3 := by rw [hW3]; exact below_onO hb2 (one_below _ _)
      have hbx : W3.heap[w2.heap.size]? = some (.cells #[.int .i64 gn, .slice v m c] 81 (0, 0)) := by rw [hW3]; exact heap_alloc_new _ _
      have hb23 : Below w2.heap.size w2 W3 := by rw [hW3]; exact one_below _ _
      have HO3 := hide (HO.out.on (hb3.block g hgl) (hb3.block W hWl))
      have HCH3 : Hid (Pch (fun k => k = g ∨ k = W) w1 W3) := HCH.out.trans (.of hb3)
      have HPS := hide (HP1.out.pch ha.out HCH3.out (fun _ h => h))
      have HBX := hide hbx
      have HW3 := hide hW3.symm
      have hw2W : ¬ w2.heap.size = W := by have := hb2.size; omega
      have hw2W' : ¬ W = w2.heap.size := fun e => hw2W e.symm
      have hw2g : ¬ w2.heap.size = g := by have := hb2.size; omega
      have HB23 := hide hb23
      have HSRC := hide hsrc
      clear hW3 hb3 hbx hcx hb2 hb23 hsrc q0 q1 q2 q3 HCA
      go_upto_region 6 with fail
      rw [HW3.out]
      clear HW3
      obtain ⟨q0, q1, q2, q3⟩ := ps_cells HPS.out.ps
      obtain ⟨a0, a1, _, _⟩ := ch_cells HBX.out
      have x2 : (x : Int) < (n0 : Int) := by omega
      have x0 : (0 : Int) ≤ (x : Int) := by omega
      obtain ⟨y, hy⟩ := Option.isSome_iff_exists.1 (HO3.out.nowb.cell (i := x) (by omega)).1
      have hyf := (HO3.out.nowb.cell (i := x) (by omega)).2
      have g1 : (x : Int) + (gn : Int) ≤ 4000 := by
        have := on_at HXL.out
        rw [← HGN.out, ← HN.out] at this
        omega
      have hoc : o.length ≤ cap := by omega
      obtain ⟨ol, hol⟩ : ∃ ol, ol = o.length := ⟨_, rfl⟩
      rw [← hol]
      have HOL := hide hol
      have HBE : Hid (∀ W4 : World, W4 = W3.setCell ⟨W, x, none⟩ (.int .i64 (ol : Nat)) → Blk W4 g 41 (cap * 3) ∧ Blk W4 W 3 n0 ∧ CodeIn B W4 o (some ⟨g, 0, none⟩) ∧ CodeIn B W4 (l.drop x) (some ⟨g, x * 3, none⟩) ∧ (∀ y, y ≠ x → W4.cell? ⟨W, y, none⟩ = W3.cell? ⟨W, y, none⟩) ∧ W4.cell? ⟨W, x, none⟩ = some (.int .i64 (ol : Nat)) ∧ Pch (fun k => k = g ∨ k = W) w1 W4) := fun W4 e => by
        subst e
        have hgk : (W3.setCell ⟨W, x, none⟩ (.int .i64 (ol : Nat))).heap[g]? = W3.heap[g]? := Below.heap_setCell _ ⟨W, x, none⟩ _ _ ha.out.gw
        exact ⟨HO3.out.blk.keep hgk, HO3.out.nowb.set _ _, code_keep HO3.out.left hgk, code_keep HO3.out.rest hgk, fun y hy => set_other (fun _ => hy), set_same hy, HCH3.out.set _ (.inr rfl) _⟩
      clear hol
      rcases HSRC.out with ⟨hput, hv⟩ | ⟨c', b, off, cp, hput, hv, hbW, hbl, k0, k1, k2⟩
      · cases hv
        have hrun := run_none (w := W3.setCell ⟨W, x, none⟩ (.int .i64 (ol : Nat))) (g := g) (n := ol) (cap := cap) (by rw [HOL.out]; exact hoc)
        have HE : Hid (OvAt g cap W n0 B l (x + gn) o (W3.setCell ⟨W, x, none⟩ (.int .i64 (ol : Nat)))) := by
          obtain ⟨e1, e2, e3, e4, e5, e6, _⟩ := HBE.out _ rfl
          have := HO3.out.next (w' := W3.setCell ⟨W, x, none⟩ (.int .i64 (ol : Nat))) HXL.out (by omega) (by rw [hput, List.append_nil]; exact e3) (drop_code e4) e1 e2 e5 (by rw [e6, HOL.out])
          rw [hput, List.append_nil, ← HGN.out] at this
          exact this
        have HF := hide (HBE.out _ rfl).2.2.2.2.2.2
        have hg0 : 0 < gn := by rw [HGN.out]; exact (change_len l x).1
        have HRUN := hide hrun
        clear hput hoc hrun
        go_wp2_with (at_builtin; refine wpList_append_run rfl _ _ 36 rfl _ _ _ _ rfl rfl HRUN.out ?_)
        go_roundw
        case rel => exact ⟨x + gn, o, by rw [HOL.out], by go_num, HE.out, HF.out⟩
        case measure => simp [intOf]; omega
      · cases hv
        obtain ⟨W4, hW4⟩ : ∃ W4, W4 = W3.setCell ⟨W, x, none⟩ (.int .i64 (ol : Nat)) := ⟨_, rfl⟩
        obtain ⟨e1, e2, e3, e4, e5, e6, e7⟩ := HBE.out W4 hW4
        have kk : ∀ off, W4.cell? ⟨b, off, none⟩ = w2.cell? ⟨b, off, none⟩ := fun off => by
          rw [hW4, set_other (fun e => absurd e hbW)]
          exact cell_eq (HB23.out.block b hbl) off
        have hgn1 := (change_len l x).2.2
        have hrun := run_room (w := W4) (g := g) (n := ol) (cap := cap) (b := b) (off := off) (cp := c) (c := c') e1 (by have := HOL.out; omega) ((kk _).trans k0) ((kk _).trans k1) ((kk _).trans k2)
        have hol3 : o.length * 3 + (inC c').length ≤ (x + gn) * 3 := by
          have h0 : 0 < gn := by rw [HGN.out]; exact (change_len l x).1
          show o.length * 3 + 3 ≤ (x + gn) * 3
          omega
        have HE : Hid (OvAt g cap W n0 B l (x + gn) (o ++ [c']) (W4.setCells g (ol * 3) (inC c'))) := by
          have hl64 := put_i64 (code_is64 hC.out.code) HXL.out (d := c') (by rw [hput]; exact List.mem_singleton.2 rfl)
          have h1 := code_push (c := c') e3 e1 (by omega) hgB hl64
          have h2 : CodeIn B (W4.setCells g (o.length * 3) (inC c')) (l.drop (x + (change l x).1)) (some ⟨g, (x + (change l x).1) * 3, none⟩) := code_behind (drop_code e4) (by rw [← HGN.out]; exact hol3)
          have h3 : ∀ y, (W4.setCells g (o.length * 3) (inC c')).cell? ⟨W, y, none⟩ = W4.cell? ⟨W, y, none⟩ := fun y => cell_eq (heap_sets g (fun e => ha.out.gw e.symm) _ _ _) y
          have := HO3.out.next (w' := W4.setCells g (o.length * 3) (inC c')) HXL.out (by omega) (by rw [hput]; exact h1) h2 (blk_sets _ _ e1) (blk_sets _ _ e2) (fun y hy => (h3 y).trans (e5 y hy)) (by rw [h3, e6, HOL.out])
          rw [hput, ← HGN.out] at this
          rw [HOL.out]
          exact this
        have HF : Hid (Pch (fun k => k = g ∨ k = W) w1 (W4.setCells g (ol * 3) (inC c'))) := e7.sets g (.inl rfl) _ _
        have hg0 : 0 < gn := by rw [HGN.out]; exact (change_len l x).1
        have HRUN := hide hrun
        have HW4 := hide hW4.symm
        have HL2 : Hid (ol + 1 = (o ++ [c']).length) := by unfold Hid; rw [HOL.out, List.length_append]; rfl
        have a1' : W4.cell? ⟨w2.heap.size, 1, none⟩ = some (.slice (some ⟨b, off, none⟩) 1 c) := by
          rw [hW4, set_other (fun e => absurd e hw2W)]
          exact a1
        have a0' : W4.cell? ⟨w2.heap.size, 0, none⟩ = some (.int .i64 gn) := by
          rw [hW4, set_other (fun e => absurd e hw2W)]
          exact a0
        have a0'' : (W4.setCells g (ol * 3) (inC c')).cell? ⟨w2.heap.size, 0, none⟩ = some (.int .i64 gn) := (cell_eq (heap_sets g hw2g _ _ _) 0).trans a0'
        obtain ⟨W5, hW5⟩ : ∃ W5, W5 = W4.setCells g (ol * 3) (inC c') := ⟨_, rfl⟩
        rw [← hW5] at HE HF HRUN a0''
        clear hput hoc hrun e1 e2 e3 e4 e5 e6 e7 kk hgn1 hol3 hW4 hW5 k0 k1 k2
        go_upto_region 7 with fail
        rw [HW4.out]
        clear HW4 a0 a1
        go_wp2_with (at_builtin; refine wpList_append_run rfl _ _ 36 rfl _ _ _ _ rfl rfl HRUN.out ?_)
        go_roundw
        case rel => exact ⟨x + gn, o ++ [c'], by rw [HL2.out], by go_num, HE.out, HF.out⟩
        case measure => simp [intOf]; omega
    · obtain rfl : x = n := by omega
      have hxl : x = l.length := HN.out
      have hlo : o.length = (out (all l)).length := by rw [HO.out.len, hxl, now_end]
      have hoo : o = out (all l) := by
        have := HO.out.pre
        rw [hlo, List.take_length] at this
        exact this
      obtain ⟨ol, hol⟩ : ∃ ol, ol = o.length := ⟨_, rfl⟩
      rw [← hol]
      obtain ⟨W6, hW6⟩ : ∃ W6, W6 = wr.setCell ⟨P, 0, none⟩ (.slice (some ⟨g, 0, none⟩) ol cap) := ⟨_, rfl⟩
      have hP6 : W6.heap[P]? = some (psO g ol cap R M W n0) := by
        rw [hW6]
        have := HPR.out.ps
        simp only [World.setCell, Array.getElem?_modify, if_true, this, Option.map_some]
        rfl
      have hk6 : ∀ k, k ≠ P → W6.heap[k]? = wr.heap[k]? := fun k hk => by rw [hW6]; exact Below.heap_setCell _ ⟨P, 0, none⟩ _ _ hk
      have hz6 : W6.heap.size = wr.heap.size := by rw [hW6]; simp
      have hC6 : CodeIn B W6 o (some ⟨g, 0, none⟩) := code_keep HO.out.left (hk6 g (fun e => ha.out.pg e.symm))
      have hb6 : Blk W6 g 41 (cap * 3) := HO.out.blk.keep (hk6 g (fun e => ha.out.pg e.symm))
      have hj6 : ∀ c ∈ o, jmp c = true → 0 ≤ c.a ∧ c.a < n0 ∧ now (all l) c.a.toNat ≤ 4000 ∧ W6.cell? ⟨W, c.a.toNat, none⟩ = some (.int .i64 (now (all l) c.a.toNat : Nat)) := fun c hc hjc => by
        rw [hoo] at hc
        obtain ⟨h1, h2⟩ := out_jump hj.out hc hjc
        have h3 := begins_lt h2
        have h4 := now_lt h2
        rw [← hlo] at h4
        refine ⟨h1, by omega, by omega, ?_⟩
        rw [cell_eq (hk6 W (fun e => ha.out.pw e.symm))]
        exact HO.out.nows _ (by omega) h2
      have hmv := move_any P g cap R M W n0 B (all l) o W6 (hide (by rw [← hol]; exact hP6)) ha.out.pg (fun e => ha.out.gw e.symm) (hide hb6) (by omega) (hide hC6) (by omega) (hide hj6)
      have hov : o.map (moved (all l)) = over l := by rw [hoo]; rfl
      have hlv : (over l).length = ol := by rw [over_len, ← hlo, hol]
      rw [hov] at hmv
      have HMV := hide hmv
      have HW6 := hide hW6.symm
      have HP6 := hide hP6
      have HK6 := hide hk6
      have HZ6 := hide hz6
      have HLV := hide hlv
      have HOL := hide hol
      have pf : wr.frozen? ⟨P, 0, none⟩ = false := by simp [World.frozen?, HPR.out.ps]
      clear hmv hov hj6 hb6 hC6 hz6 hk6 hP6 hW6 hoo hlo hlv hol hlt hxl
      go_wp2_with fail
      rw [HW6.out]
      refine HMV.out.mono ?_
      rintro e w7 ⟨rfl, hc7, hb7, hg7⟩
      have HPE : Hid (PsIn lo hi w0 P g (over l).length cap R M W n0 fs (aimed l) w7) := by
        unfold Hid
        rw [HLV.out]
        refine ⟨(hg7.block P (lt_of_block HP6.out) (by intro e; cases e; exact ha.out.pg rfl)).trans HP6.out, HPR.out.rls, fun j h1 h2 => ?_, ?_, ?_⟩
        · have h3 : j < W6.heap.size := by rw [HZ6.out]; exact Nat.lt_of_lt_of_le h2 HPR.out.his
          have h4 := ha.out.oG
          have h5 := ha.out.oP
          rw [hg7.block j h3 (by intro e; cases e; omega), HK6.out j (by omega)]
          exact HPR.out.held j h1 h2
        · have h3 : M < W6.heap.size := by rw [HZ6.out]; exact HPR.out.aims.lt
          exact HPR.out.aims.keep ((hg7.block M h3 (by intro e; cases e; exact ha.out.gm rfl)).trans (HK6.out M (fun e => ha.out.pm e.symm)))
        · have h3 := HPR.out.his
          have h4 := hg7.size
          rw [HZ6.out] at h4
          omega
      have HCE : Hid (CdIn g cap W n0 B (over l) w7) := by
        have h3 : W < W6.heap.size := by rw [HZ6.out]; exact HO.out.nowb.lt
        exact ⟨hc7, hb7, HO.out.nowb.keep ((hg7.block W h3 (by intro e; cases e; exact ha.out.gw rfl)).trans (HK6.out W (fun e => ha.out.pw e.symm)))⟩
      have HWE : Hid (Pch (Sg P g M W) w w7) := by
        have h1 : Pch (Sg P g M W) w1 wr := HCH.out.mono (fun k h => by rcases h with rfl | rfl; exact .inr (.inl rfl); exact .inr (.inr (.inr rfl)))
        have h2 : Pch (Sg P g M W) wr W6 := by rw [← HW6.out]; exact (Pch.refl _ wr).set _ (.inl rfl) _
        exact ((HW1.out.trans h1).trans h2).trans (.gm hg7 (.inr (.inl rfl)))
      have HRE : Hid (decide ((over l).length < l.length) = decide (ol < x)) := by
        unfold Hid
        rw [HLV.out, ← HN.out]
      clear hc7 hb7 hg7
      go_wp2
      go_ret
      exact ⟨by rw [HRE.out]; rfl, HPE.out, HCE.out, HWE.out⟩
end Go.Proofs.Ytalofknphhjhnaa.Ow


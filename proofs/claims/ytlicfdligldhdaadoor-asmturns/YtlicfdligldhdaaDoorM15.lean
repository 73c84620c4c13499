/- A reader of listings in memory. -/
import Derived.Test.YtlicfdligldhdaaDoorM12
import Derived.Test.YtlicfdligldhdaaDoorM14
namespace Go.Proofs.YtlicfdligldhdaaDoor.Aw
open Go.RowKit As

theorem infoBox : (Tryd.prog.info? 64).map (fun i => (i.zero, i.size, i.bytes)) = some (some (.agg #[.int .i64 0, .int .i64 0]), 2, 16) := by kernel_rfl
theorem infoIns : (Tryd.prog.info? 45).map (fun i => (i.zero, i.size, i.bytes)) = some (some (.agg #[.int .i64 0, .int .i64 0, .int .i64 0]), 3, 24) := by kernel_rfl
theorem infoInt : (Tryd.prog.info? 3).map (fun i => (i.zero, i.size, i.bytes)) = some (some (.int .i64 0), 1, 8) := by kernel_rfl
theorem infoPlace : (Tryd.prog.info? 91).map (fun i => (i.zero, i.size, i.bytes)) = some (some .nilFunc, 1, 8) := by kernel_rfl

abbrev bxC (b : Vf.Bx) : List Value := [.int .i64 b.ty, .int .i64 b.cap]
abbrev inC (i : Vf.Ins) : List Value := [.int .i64 i.op, .int .i64 i.a, .int .i64 i.n]
def bxs (l : List Vf.Bx) : List Value := l.flatMap bxC
def inss (l : List Vf.Ins) : List Value := l.flatMap inC
abbrev locV (x : UV) : Value := .slice x.al x.u.locals.length x.cl
abbrev codV (x : UV) : Value := .slice x.ac x.u.code.length x.cc

theorem fm_at {α : Type} (f : α → List Value) (k : Nat) (hf : ∀ x, (f x).length = k) : ∀ (l : List α) (i : Nat) (x : α), l[i]? = some x → ∀ j, j < k → (l.flatMap f)[i * k + j]? = (f x)[j]?
  | y :: l, 0, x, h, j, hj => by
    simp at h
    subst h
    rw [List.flatMap_cons, List.getElem?_append_left (by rw [hf]; omega)]
    simp
  | y :: l, i + 1, x, h, j, hj => by
    have := fm_at f k hf l i x (by simpa using h) j hj
    rw [List.flatMap_cons, Nat.succ_mul, List.getElem?_append_right (by rw [hf]; omega), ← this]
    congr 1
    rw [hf]
    omega

/-- What an own row has. -/
theorem own_cell {w : World} {B e size n c : Nat} {a : Option Addr} {xs : List Value} (h : w.ownsRow B e size (.slice a n c) n xs) {j : Nat} {v : Value} (hv : xs[j]? = some v) : ∃ g, a = some ⟨g, 0, none⟩ ∧ B ≤ g ∧ g < w.heap.size ∧ w.cell? ⟨g, j, none⟩ = some v := by
  rcases h.2 with ⟨_, h0⟩ | ⟨g, cap, cur, e1, hg, hh, _, _, _, ht⟩
  · have := h.1
    rw [h0, Nat.zero_mul] at this
    have := List.length_eq_zero_iff.1 this
    subst this
    simp at hv
  · cases e1
    refine ⟨g, rfl, hg, lt_of_block hh, ?_⟩
    rw [← ht] at hv
    have hj := (List.getElem?_eq_some_iff.1 hv).1
    simp [List.getElem?_take] at hv
    simp [World.cell?, hh, hv.2]
theorem own_few {w : World} {B e size n c : Nat} {a : Option Addr} {xs : List Value} (h : w.ownsRow B e size (.slice a n c) n xs) : n ≤ 9223372036854775807 ∧ n ≤ c := by
  rcases h.2 with ⟨e1, h0⟩ | ⟨g, cap, cur, e1, _, _, h1, h2, _⟩
  · cases e1
    exact ⟨by omega, by omega⟩
  · cases e1
    unfold maxLen at h2
    exact ⟨by omega, h1⟩
theorem own_block {w : World} {C e size n : Nat} {v : Value} {xs : List Value} (h : w.ownsRow C e size v n xs) {j : Nat} (hj : v.ownBlock = some j) : C ≤ j ∧ j < w.heap.size ∧ ∃ cur, w.heap[j]? = some (.cells cur e (0, 0)) := by
  rcases h.2 with ⟨rfl, _⟩ | ⟨g, cap, cur, rfl, h2, h3, h4⟩
  · cases hj
  · cases hj
    exact ⟨h2, lt_of_block h3, cur, h3⟩
theorem own_base {w : World} {B C e size n : Nat} {v : Value} {xs : List Value} (h : w.ownsRow C e size v n xs) (hB : B ≤ C) : w.ownsRow B e size v n xs := by
  refine ⟨h.1, ?_⟩
  rcases h.2 with h2 | ⟨g, cap, cur, hv, hg, r⟩
  · exact .inl h2
  · exact .inr ⟨g, cap, cur, hv, Nat.le_trans hB hg, r⟩

/-- Nothing of other types has turned. -/
def KeepT (es : List TypeId) (w w' : World) : Prop := ∀ (k : Nat) (cs : Array Value) (t : TypeId) (fr : Nat × Nat), w.heap[k]? = some (.cells cs t fr) → t ∉ es → w'.heap[k]? = some (.cells cs t fr)
theorem own_kt {es : List TypeId} {w w' : World} {B e size n : Nat} {v : Value} {xs : List Value} (h : w.ownsRow B e size v n xs) (hk : KeepT es w w') (he : e ∉ es) : w'.ownsRow B e size v n xs := by
  refine ⟨h.1, ?_⟩
  rcases h.2 with h2 | ⟨g, cap, cur, hv, hg, hh, r⟩
  · exact .inl h2
  · exact .inr ⟨g, cap, cur, hv, hg, hk _ _ _ _ hh he, r⟩
theorem own_new {w w' : World} {B e size n : Nat} {v : Value} {xs : List Value} (h : w.ownsRow B e size v n xs) (hb : Below w.heap.size w w') : w'.ownsRow B e size v n xs := own_keep h (fun k hk => hb.block k (h.lt k hk).2)

/-- A unit of one's own. -/
structure UOk (B : Nat) (w : World) (x : UV) : Prop where
  nums : I64 x.u.kind ∧ I64 x.u.params ∧ I64 x.u.result ∧ I64 x.u.takes
  l64 : ∀ n ∈ x.u.locals, I64 n
  c64 : ∀ i ∈ x.u.code, I64 i.op ∧ I64 i.a ∧ I64 i.n
  locals : w.ownsRow B 3 1 (locV x) x.u.locals.length (x.u.locals.map (Value.int .i64))
  code : w.ownsRow B 45 3 (codV x) x.u.code.length (inss x.u.code)
theorem UOk.unIn {B : Nat} {w : World} {x : UV} (h : UOk B w x) : UnIn w.heap.size w x.u x.al x.ac x.cl x.cc := by
  refine ⟨h.nums, ⟨(own_few h.locals).1, (own_few h.code).1⟩, ⟨(own_few h.locals).2, (own_few h.code).2⟩, fun i n hn => ?_, fun i c hc => ?_⟩
  · obtain ⟨g, e, _, hg, hc⟩ := own_cell h.locals (j := i) (v := .int .i64 n) (by simp [hn])
    exact ⟨h.l64 n (List.mem_of_getElem? hn), g, 0, e, hg, by rw [Nat.zero_add]; exact hc⟩
  · have at' := fun j (hj : j < 3) => fm_at inC 3 (fun _ => rfl) x.u.code i c hc j hj
    obtain ⟨g, e, _, hg, c0⟩ := own_cell h.code (j := i * 3 + 0) (v := .int .i64 c.op) (at' 0 (by decide))
    obtain ⟨g1, e1, _, _, c1⟩ := own_cell h.code (j := i * 3 + 1) (v := .int .i64 c.a) (at' 1 (by decide))
    obtain ⟨g2, e2, _, _, c2⟩ := own_cell h.code (j := i * 3 + 2) (v := .int .i64 c.n) (at' 2 (by decide))
    rw [e] at e1 e2
    cases e1
    cases e2
    obtain ⟨a1, a2, a3⟩ := h.c64 c (List.mem_of_getElem? hc)
    exact ⟨a1, a2, a3, g, 0, e, hg, by rw [Nat.zero_add]; exact c0, by rw [Nat.zero_add]; exact c1, by rw [Nat.zero_add]; exact c2⟩
theorem UOk.new {B : Nat} {w w' : World} {x : UV} (h : UOk B w x) (hb : Below w.heap.size w w') : UOk B w' x := ⟨h.nums, h.l64, h.c64, own_new h.locals hb, own_new h.code hb⟩

abbrev rdO (vb vu : Value) (U J : Nat) : Obj := .cells #[vb, vu, .int .i64 2, .slice (some ⟨U, 0, none⟩) 3 3, .int .i64 1, .slice (some ⟨J, 0, none⟩) 32 32] 62 (0, 0)
/-- A reader in block R, behind K lines. -/
structure RDx (B R U J K : Nat) (w : World) (m : Vf.Md) (vb vu : Value) (us : List UV) (C : Nat) : Prop where
  blk : w.heap[R]? = some (rdO vb vu U J)
  boxes : w.ownsRow B 64 2 vb m.boxes.length (bxs m.boxes)
  b64 : ∀ b ∈ m.boxes, I64 b.ty ∧ I64 b.cap
  units : w.ownsRow B 43 6 vu us.length (uvs us)
  same : us.map (·.u) = m.units
  each : ∀ x ∈ us, UOk B w x
  early : ∀ (i : Nat) (x : UV), us[i]? = some x → i + 1 < us.length → ∀ g, (codV x).ownBlock = some g → g < C
  last : ∀ x, us[us.length - 1]? = some x → w.ownsRow C 45 3 (codV x) x.u.code.length (inss x.u.code)
  le : B ≤ C ∧ C ≤ w.heap.size
  base : B ≤ R
  wu : w.heap[U]? = some (wsO unitW)
  wj : w.heap[J]? = some (wsO tabW)
  few : m.boxes.length ≤ K ∧ us.length ≤ K ∧ ∀ x ∈ us, x.u.code.length ≤ K
def RD (B R U J K : Nat) (w : World) (m : Vf.Md) : Prop := ∃ vb vu us C, RDx B R U J K w m vb vu us C
theorem RDx.new {B R U J K C : Nat} {w w' : World} {m : Vf.Md} {vb vu : Value} {us : List UV} (h : RDx B R U J K w m vb vu us C) (hb : Below w.heap.size w w') : RDx B R U J K w' m vb vu us C :=
  ⟨(hb.block _ (lt_of_block h.blk)).trans h.blk, own_new h.boxes hb, h.b64, own_new h.units hb, h.same, fun x hx => (h.each x hx).new hb, h.early, fun x hx => own_new (h.last x hx) hb, ⟨h.le.1, Nat.le_trans h.le.2 hb.size⟩, h.base, (hb.block _ (lt_of_block h.wu)).trans h.wu, (hb.block _ (lt_of_block h.wj)).trans h.wj, h.few⟩
theorem RD.new {B R U J K : Nat} {w w' : World} {m : Vf.Md} (h : RD B R U J K w m) (hb : Below w.heap.size w w') : RD B R U J K w' m := by
  obtain ⟨vb, vu, us, C, h⟩ := h
  exact ⟨vb, vu, us, C, h.new hb⟩
theorem rd_cells {w : World} {R U J : Nat} {vb vu : Value} (h : w.heap[R]? = some (rdO vb vu U J)) : w.cell? ⟨R, 0, none⟩ = some vb ∧ w.cell? ⟨R, 1, none⟩ = some vu ∧ w.cell? ⟨R, 2, none⟩ = some (.int .i64 2) ∧ w.cell? ⟨R, 3, none⟩ = some (.slice (some ⟨U, 0, none⟩) 3 3) ∧ w.cell? ⟨R, 4, none⟩ = some (.int .i64 1) ∧ w.cell? ⟨R, 5, none⟩ = some (.slice (some ⟨J, 0, none⟩) 32 32) ∧ w.frozen? ⟨R, 0, none⟩ = false ∧ w.frozen? ⟨R, 1, none⟩ = false := by
  simp [World.cell?, World.frozen?, h]
/-- The module so far, to be read. -/
theorem RDx.mod {B R U J K C : Nat} {w : World} {m : Vf.Md} {vb vu : Value} {us : List UV} (h : RDx B R U J K w m vb vu us C) : ∃ ab cb au cu, vb = .slice ab m.boxes.length cb ∧ vu = .slice au m.units.length cu ∧ ModIn w.heap.size w m ab au ∧ m.units.length ≤ cu := by
  obtain ⟨ab, cb, rfl⟩ := own_form h.boxes
  obtain ⟨au, cu, rfl⟩ := own_form h.units
  have hl : us.length = m.units.length := by rw [← h.same]; simp
  refine ⟨ab, cb, au, cu, rfl, by rw [hl], ⟨⟨(own_few h.boxes).1, by rw [← hl]; exact (own_few h.units).1⟩, fun i b hb => ?_, ?_⟩, by rw [← hl]; exact (own_few h.units).2⟩
  · have at' := fun j (hj : j < 2) => fm_at bxC 2 (fun _ => rfl) m.boxes i b hb j hj
    obtain ⟨g, e, _, hg, c0⟩ := own_cell h.boxes (j := i * 2 + 0) (v := .int .i64 b.ty) (at' 0 (by decide))
    obtain ⟨g1, e1, _, _, c1⟩ := own_cell h.boxes (j := i * 2 + 1) (v := .int .i64 b.cap) (at' 1 (by decide))
    rw [e] at e1
    cases e1
    obtain ⟨a1, a2⟩ := h.b64 b (List.mem_of_getElem? hb)
    exact ⟨a1, a2, g, 0, e, hg, by rw [Nat.zero_add]; exact c0, by rw [Nat.zero_add]; exact c1⟩
  · by_cases h0 : 0 < us.length
    · obtain ⟨g, cap, e, _, hg, _, hU⟩ := us_own (B := w.heap.size) h.units h0 (fun i x hx => (h.each x (List.mem_of_getElem? hx)).unIn)
      cases e
      have := hU.units (Nat.le_refl _)
      rw [h.same] at this
      exact this
    · have : m.units = [] := List.length_eq_zero_iff.1 (by omega)
      rw [this]
      intro i u hu
      simp at hu

end Go.Proofs.YtlicfdligldhdaaDoor.Aw


/- A reader of listings in memory. -/
import Derived.Test.YtbdcmkmeljddmaaGreatDoorM6
import Derived.Test.YtbdcmkmeljddmaaGreatDoorM7
namespace Go.Proofs.YtbdcmkmeljddmaaGreatDoor.Aw
open Go.RowKit As

theorem infoBox : (Tryz.prog.info? 67).map (fun i => (i.zero, i.size, i.bytes)) = some (some (.agg #[.int .i64 0, .int .i64 0]), 2, 16) := by kernel_rfl
theorem infoIns : (Tryz.prog.info? 43).map (fun i => (i.zero, i.size, i.bytes)) = some (some (.agg #[.int .i64 0, .int .i64 0, .int .i64 0]), 3, 24) := by kernel_rfl
theorem infoInt : (Tryz.prog.info? 3).map (fun i => (i.zero, i.size, i.bytes)) = some (some (.int .i64 0), 1, 8) := by kernel_rfl
theorem infoPlace : (Tryz.prog.info? 112).map (fun i => (i.zero, i.size, i.bytes)) = some (some .nilFunc, 1, 8) := by kernel_rfl

abbrev bxC (b : Vf.Bx) : List Value := [.int .i64 b.ty, .int .i64 b.cap]
abbrev inC (i : Vf.Ins) : List Value := [.int .i64 i.op, .int .i64 i.a, .int .i64 i.n]
def bxs (l : List Vf.Bx) : List Value := l.flatMap bxC
def inss (l : List Vf.Ins) : List Value := l.flatMap inC
abbrev locV (x : UV) : Value := .slice x.al x.u.locals.length x.cl
abbrev codV (x : UV) : Value := .slice x.ac x.u.code.length x.cc

theorem fm_at {α : Type} (f : α → List Value) (k : Nat) (hf : ∀ x, (f x).length = k) : ∀ (l : List α) (i : Nat) (x : α), l[i]? = some x → ∀ j, j < k → (l.flatMap f)[i * k + j]? = (f x)[j]?
  | y :: l, 0, x, h, j, hj => by
    simp at h
    subst h
    rw [List.flatMap_cons, List.getElem?_append_left (by rw [hf]; omega)]
    simp
  | y :: l, i + 1, x, h, j, hj => by
    have := fm_at f k hf l i x (by simpa using h) j hj
    rw [List.flatMap_cons, Nat.succ_mul, List.getElem?_append_right (by rw [hf]; omega), ← this]
    congr 1
    rw [hf]
    omega

/-- What an own row has. -/
theorem own_cell {w : World} {B e size n c : Nat} {a : Option Addr} {xs : List Value} (h : w.ownsRow B e size (.slice a n c) n xs) {j : Nat} {v : Value} (hv : xs[j]? = some v) : ∃ g, a = some ⟨g, 0, none⟩ ∧ B ≤ g ∧ g < w.heap.size ∧ w.cell? ⟨g, j, none⟩ = some v := by
  rcases h.2 with ⟨_, h0⟩ | ⟨g, cap, cur, e1, hg, hh, _, _, _, ht⟩
  · have := h.1
    rw [h0, Nat.zero_mul] at this
    have := List.length_eq_zero_iff.1 this
    subst this
    simp at hv
  · cases e1
    refine ⟨g, rfl, hg, lt_of_block hh, ?_⟩
    rw [← ht] at hv
    have hj := (List.getElem?_eq_some_iff.1 hv).1
    simp [List.getElem?_take] at hv
    simp [World.cell?, hh, hv.2]
theorem own_few {w : World} {B e size n c : Nat} {a : Option Addr} {xs : List Value} (h : w.ownsRow B e size (.slice a n c) n xs) : n ≤ 9223372036854775807 ∧ n ≤ c := by
  rcases h.2 with ⟨e1, h0⟩ | ⟨g, cap, cur, e1, _, _, h1, h2, _⟩
  · cases e1
    exact ⟨by omega, by omega⟩
  · cases e1
    unfold maxLen at h2
    exact ⟨by omega, h1⟩
theorem own_block {w : World} {C e size n : Nat} {v : Value} {xs : List Value} (h : w.ownsRow C e size v n xs) {j : Nat} (hj : v.ownBlock = some j) : C ≤ j ∧ j < w.heap.size ∧ ∃ cur, w.heap[j]? = some (.cells cur e (0, 0)) := by
  rcases h.2 with ⟨rfl, _⟩ | ⟨g, cap, cur, rfl, h2, h3, h4⟩
  · cases hj
  · cases hj
    exact ⟨h2, lt_of_block h3, cur, h3⟩
theorem own_base {w : World} {B C e size n : Nat} {v : Value} {xs : List Value} (h : w.ownsRow C e size v n xs) (hB : B ≤ C) : w.ownsRow B e size v n xs := by
  refine ⟨h.1, ?_⟩
  rcases h.2 with h2 | ⟨g, cap, cur, hv, hg, r⟩
  · exact .inl h2
  · exact .inr ⟨g, cap, cur, hv, Nat.le_trans hB hg, r⟩

/-- Nothing of other types has turned. -/
def KeepT (es : List TypeId) (w w' : World) : Prop := ∀ (k : Nat) (cs : Array Value) (t : TypeId) (fr : Nat × Nat), w.heap[k]? = some (.cells cs t fr) → t ∉ es → w'.heap[k]? = some (.cells cs t fr)
theorem own_kt {es : List TypeId} {w w' : World} {B e size n : Nat} {v : Value} {xs : List Value} (h : w.ownsRow B e size v n xs) (hk : KeepT es w w') (he : e ∉ es) : w'.ownsRow B e size v n xs := by
  refine ⟨h.1, ?_⟩
  rcases h.2 with h2 | ⟨g, cap, cur, hv, hg, hh, r⟩
  · exact .inl h2
  · exact .inr ⟨g, cap, cur, hv, hg, hk _ _ _ _ hh he, r⟩
theorem own_new {w w' : World} {B e size n : Nat} {v : Value} {xs : List Value} (h : w.ownsRow B e size v n xs) (hb : Below w.heap.size w w') : w'.ownsRow B e size v n xs := own_keep h (fun k hk => hb.block k (h.lt k hk).2)

/-- A unit of one's own. -/
structure UOk (B : Nat) (w : World) (x : UV) : Prop where
  nums : I64 x.u.kind ∧ I64 x.u.params ∧ I64 x.u.result ∧ I64 x.u.takes
  l64 : ∀ n ∈ x.u.locals, I64 n
  c64 : ∀ i ∈ x.u.code, I64 i.op ∧ I64 i.a ∧ I64 i.n
  locals : w.ownsRow B 3 1 (locV x) x.u.locals.length (x.u.locals.map (Value.int .i64))
  code : w.ownsRow B 43 3 (codV x) x.u.code.length (inss x.u.code)
theorem UOk.unIn {B : Nat} {w : World} {x : UV} (h : UOk B w x) : UnIn w.heap.size w x.u x.al x.ac x.cl x.cc := by
  refine ⟨h.nums, ⟨(own_few h.locals).1, (own_few h.code).1⟩, ⟨(own_few h.locals).2, (own_few h.code).2⟩, fun i n hn => ?_, fun i c hc => ?_⟩
  · obtain ⟨g, e, _, hg, hc⟩ := own_cell h.locals (j := i) (v := .int .i64 n) (by simp [hn])
    exact ⟨h.l64 n (List.mem_of_getElem? hn), g, 0, e, hg, by rw [Nat.zero_add]; exact hc⟩
  · have at' := fun j (hj : j < 3) => fm_at inC 3 (fun _ => rfl) x.u.code i c hc j hj
    obtain ⟨g, e, _, hg, c0⟩ := own_cell h.code (j := i * 3 + 0) (v := .int .i64 c.op) (at' 0 (by decide))
    obtain ⟨g1, e1, _, _, c1⟩ := own_cell h.code (j := i * 3 + 1) (v := .int .i64 c.a) (at' 1 (by decide))
    obtain ⟨g2, e2, _, _, c2⟩ := own_cell h.code (j := i * 3 + 2) (v := .int .i64 c.n) (at' 2 (by decide))
    rw [e] at e1 e2
    cases e1
    cases e2
    obtain ⟨a1, a2, a3⟩ := h.c64 c (List.mem_of_getElem? hc)
    exact ⟨a1, a2, a3, g, 0, e, hg, by rw [Nat.zero_add]; exact c0, by rw [Nat.zero_add]; exact c1, by rw [Nat.zero_add]; exact c2⟩
theorem UOk.new {B : Nat} {w w' : World} {x : UV} (h : UOk B w x) (hb : Below w.heap.size w w') : UOk B w' x := ⟨h.nums, h.l64, h.c64, own_new h.locals hb, own_new h.code hb⟩

abbrev rdO (vb vu : Value) (U J : Nat) : Obj := .cells #[vb, vu, .int .i64 2, .slice (some ⟨U, 0, none⟩) 3 3, .int .i64 1, .slice (some ⟨J, 0, none⟩) 32 32] 60 (0, 0)
/-- A reader in block R, behind K lines. -/
structure RDx (B R U J K : Nat) (w : World) (m : Vf.Md) (vb vu : Value) (us : List UV) (C : Nat) : Prop where
  blk : w.heap[R]? = some (rdO vb vu U J)
  boxes : w.ownsRow B 67 2 vb m.boxes.length (bxs m.boxes)
  b64 : ∀ b ∈ m.boxes, I64 b.ty ∧ I64 b.cap
  units : w.ownsRow B 41 6 vu us.length (uvs us)
  same : us.map (·.u) = m.units
  each : ∀ x ∈ us, UOk B w x
  early : ∀ (i : Nat) (x : UV), us[i]? = some x → i + 1 < us.length → ∀ g, (codV x).ownBlock = some g → g < C
  last : ∀ x, us[us.length - 1]? = some x → w.ownsRow C 43 3 (codV x) x.u.code.length (inss x.u.code)
  le : B ≤ C ∧ C ≤ w.heap.size
  base : B ≤ R
  wu : w.heap[U]? = some (wsO unitW)
  wj : w.heap[J]? = some (wsO tabW)
  few : m.boxes.length ≤ K ∧ us.length ≤ K ∧ ∀ x ∈ us, x.u.code.length ≤ K
def RD (B R U J K : Nat) (w : World) (m : Vf.Md) : Prop := ∃ vb vu us C, RDx B R U J K w m vb vu us C
theorem RDx.new {B R U J K C : Nat} {w w' : World} {m : Vf.Md} {vb vu : Value} {us : List UV} (h : RDx B R U J K w m vb vu us C) (hb : Below w.heap.size w w') : RDx B R U J K w' m vb vu us C :=
  ⟨(hb.block _ (lt_of_block h.blk)).trans h.blk, own_new h.boxes hb, h.b64, own_new h.units hb, h.same, fun x hx => (h.each x hx).new hb, h.early, fun x hx => own_new (h.last x hx) hb, ⟨h.le.1, Nat.le_trans h.le.2 hb.size⟩, h.base, (hb.block _ (lt_of_block h.wu)).trans h.wu, (hb.block _ (lt_of_block h.wj)).trans h.wj, h.few⟩
theorem RD.new {B R U J K : Nat} {w w' : World} {m : Vf.Md} (h : RD B R U J K w m) (hb : Below w.heap.size w w') : RD B R U J K w' m := by
  obtain ⟨vb, vu, us, C, h⟩ := h
  exact ⟨vb, vu, us, C, h.new hb⟩
theorem rd_cells {w : World} {R U J : Nat} {vb vu : Value} (h : w.heap[R]? = some (rdO vb vu U J)) : w.cell? ⟨R, 0, none⟩ = some vb ∧ w.cell? ⟨R, 1, none⟩ = some vu ∧ w.cell? ⟨R, 2, none⟩ = some (.int .i64 2) ∧ w.cell? ⟨R, 3, none⟩ = some (.slice (some ⟨U, 0, none⟩) 3 3) ∧ w.cell? ⟨R, 4, none⟩ = some (.int .i64 1) ∧ w.cell? ⟨R, 5, none⟩ = some (.slice (some ⟨J, 0, none⟩) 32 32) ∧ w.frozen? ⟨R, 0, none⟩ = false ∧ w.frozen? ⟨R, 1, none⟩ = false := by
  simp [World.cell?, World.frozen?, h]
/-- The module so far, to be read. -/
theorem RDx.mod {B R U J K C : Nat} {w : World} {m : Vf.Md} {vb vu : Value} {us : List UV} (h : RDx B R U J K w m vb vu us C) : ∃ ab cb au cu, vb = .slice ab m.boxes.length cb ∧ vu = .slice au m.units.length cu ∧ ModIn w.heap.size w m ab au ∧ m.units.length ≤ cu := by
  obtain ⟨ab, cb, rfl⟩ := own_form h.boxes
  obtain ⟨au, cu, rfl⟩ := own_form h.units
  have hl : us.length = m.units.length := by rw [← h.same]; simp
  refine ⟨ab, cb, au, cu, rfl, by rw [hl], ⟨⟨(own_few h.boxes).1, by rw [← hl]; exact (own_few h.units).1⟩, fun i b hb => ?_, ?_⟩, by rw [← hl]; exact (own_few h.units).2⟩
  · have at' := fun j (hj : j < 2) => fm_at bxC 2 (fun _ => rfl) m.boxes i b hb j hj
    obtain ⟨g, e, _, hg, c0⟩ := own_cell h.boxes (j := i * 2 + 0) (v := .int .i64 b.ty) (at' 0 (by decide))
    obtain ⟨g1, e1, _, _, c1⟩ := own_cell h.boxes (j := i * 2 + 1) (v := .int .i64 b.cap) (at' 1 (by decide))
    rw [e] at e1
    cases e1
    obtain ⟨a1, a2⟩ := h.b64 b (List.mem_of_getElem? hb)
    exact ⟨a1, a2, g, 0, e, hg, by rw [Nat.zero_add]; exact c0, by rw [Nat.zero_add]; exact c1⟩
  · by_cases h0 : 0 < us.length
    · obtain ⟨g, cap, e, _, hg, _, hU⟩ := us_own (B := w.heap.size) h.units h0 (fun i x hx => (h.each x (List.mem_of_getElem? hx)).unIn)
      cases e
      have := hU.units (Nat.le_refl _)
      rw [h.same] at this
      exact this
    · have : m.units = [] := List.length_eq_zero_iff.1 (by omega)
      rw [this]
      intro i u hu
      simp at hu

end Go.Proofs.YtbdcmkmeljddmaaGreatDoor.Aw

/- A reader of listings in memory: behind a box, a unit, an instruction more. -/
namespace Go.Proofs.YtbdcmkmeljddmaaGreatDoor.Aw
open Go.RowKit As

theorem KeepT.trans {es fs : List TypeId} {a b c : World} (h : KeepT es a b) (k : KeepT fs b c) : KeepT (es ++ fs) a c := fun j cs t fr hj ht => k j cs t fr (h j cs t fr hj (fun e => ht (List.mem_append_left _ e))) (fun e => ht (List.mem_append_right _ e))
theorem kt_grow {B e size n : Nat} {w w1 w2 : World} {v : Value} {xs : List Value} (hown : w.ownsRow B e size v n xs) (hb : Below w.heap.size w w1) (hg : w1.grownBy w2 v.ownBlock) : KeepT [e] w w2 := fun j cs t fr hj ht => by
  have hl := lt_of_block hj
  rw [hg.block j (Nat.lt_of_lt_of_le hl hb.size) (fun e' => own_ty hown hj (by simpa using ht) e'.symm), hb.block j hl]
  exact hj
theorem kt_set {w : World} {R : Nat} {cs : Array Value} {t : TypeId} {fr : Nat × Nat} (hR : w.heap[R]? = some (.cells cs t fr)) (o : Nat) (v : Value) : KeepT [t] w (w.setCell ⟨R, o, none⟩ v) := fun j cs' t' fr' hj ht => by
  rw [Below.heap_setCell _ _ _ _ (fun e => by
    have e' : j = R := e
    subst e'
    rw [hR] at hj
    simp at hj
    exact ht (by simp [hj.2.1]))]
  exact hj
theorem below_grow2 {B e size n : Nat} {w w1 w2 : World} {v : Value} {xs : List Value} (hown : w.ownsRow B e size v n xs) (hb : Below w.heap.size w w1) (hg : w1.grownBy w2 v.ownBlock) (hB : B ≤ w.heap.size) : Below B w w2 :=
  (hb.mono hB).grown hg (Nat.le_trans hB hb.size) (fun _ e => (own_block hown e).1)
theorem UOk.kt {es : List TypeId} {B : Nat} {w w' : World} {x : UV} (h : UOk B w x) (hk : KeepT es w w') (h1 : 3 ∉ es) (h2 : 43 ∉ es) : UOk B w' x := ⟨h.nums, h.l64, h.c64, own_kt h.locals hk h1, own_kt h.code hk h2⟩
theorem RDx.lt {B R U J K C : Nat} {w : World} {m : Vf.Md} {vb vu : Value} {us : List UV} (h : RDx B R U J K w m vb vu us C) : B ≤ w.heap.size ∧ R < w.heap.size := ⟨Nat.le_trans h.le.1 h.le.2, lt_of_block h.blk⟩

theorem set_rd0 {w : World} {R U J : Nat} {vb vu : Value} (h : w.heap[R]? = some (rdO vb vu U J)) (v : Value) : (w.setCell ⟨R, 0, none⟩ v).heap[R]? = some (rdO v vu U J) := by
  simp only [World.setCell, Array.getElem?_modify, if_true, h, Option.map_some]
  rfl
theorem set_rd1 {w : World} {R U J : Nat} {vb vu : Value} (h : w.heap[R]? = some (rdO vb vu U J)) (v : Value) : (w.setCell ⟨R, 1, none⟩ v).heap[R]? = some (rdO vb v U J) := by
  simp only [World.setCell, Array.getElem?_modify, if_true, h, Option.map_some]
  rfl
theorem own_set_far {w : World} {B e size n R o : Nat} {v u : Value} {xs : List Value} {cs : Array Value} {t : TypeId} {fr : Nat × Nat} (h : w.ownsRow B e size v n xs) (hR : w.heap[R]? = some (.cells cs t fr)) (ht : t ≠ e) : (w.setCell ⟨R, o, none⟩ u).ownsRow B e size v n xs :=
  own_kt h (kt_set hR o u) (by simp; exact fun e' => ht e'.symm)

/-- Behind a box more. -/
theorem RDx.box {B R U J K C : Nat} {w w1 w2 : World} {m : Vf.Md} {vb vu vb' : Value} {us : List UV} (h : RDx B R U J K w m vb vu us C) {b : Vf.Bx} (h64 : I64 b.ty ∧ I64 b.cap) (hb : Below w.heap.size w w1) (hg : w1.grownBy w2 vb.ownBlock)
    (hown : w2.ownsRow B 67 2 vb' (m.boxes.length + 1) (bxs m.boxes ++ bxC b)) : RDx B R U J (K + 1) (w2.setCell ⟨R, 0, none⟩ vb') ⟨m.boxes ++ [b], m.units⟩ vb' vu us C ∧ Below B w (w2.setCell ⟨R, 0, none⟩ vb') ∧ w2.cell? ⟨R, 0, none⟩ = some vb ∧ w2.frozen? ⟨R, 0, none⟩ = false := by
  have hk2 := kt_grow h.boxes hb hg
  have hR2 := hk2 _ _ _ _ h.blk (by decide)
  have hk := hk2.trans (kt_set hR2 0 vb')
  have hs : w.heap.size ≤ w2.heap.size := Nat.le_trans hb.size hg.size
  obtain ⟨f1, f2, f3⟩ := h.few
  obtain ⟨c0, _, _, _, _, _, g0, _⟩ := rd_cells hR2
  refine ⟨⟨set_rd0 hR2 _, ?_, fun x hx => ?_, own_kt h.units hk (by decide), h.same, fun x hx => (h.each x hx).kt hk (by decide) (by decide), h.early, fun x hx => own_kt (h.last x hx) hk (by decide), ⟨h.le.1, by have := h.le.2; simp [World.setCell]; omega⟩, h.base, hk _ _ _ _ h.wu (by decide), hk _ _ _ _ h.wj (by decide), by simp; omega, by omega, fun x hx => by have := f3 x hx; omega⟩, (below_grow2 h.boxes hb hg h.lt.1).setCell (p := ⟨R, 0, none⟩) h.base _, c0, g0⟩
  · have e : bxs (m.boxes ++ [b]) = bxs m.boxes ++ bxC b := by simp [bxs]
    simp only [List.length_append, List.length_cons, List.length_nil, Nat.zero_add]
    rw [e]
    exact own_set_far hown hR2 (by decide)
  · rcases List.mem_append.1 hx with hx | hx
    · exact h.b64 x hx
    · simp at hx; subst hx; exact h64

/-- Behind a unit more. -/
theorem RDx.unit {B R U J K C : Nat} {w w1 w2 : World} {m : Vf.Md} {vb vu vu' : Value} {us : List UV} (h : RDx B R U J K w m vb vu us C) {x : UV} (hx : UOk B w x) (hxc : x.u.code = []) (hxa : x.ac = none) (hxn : x.cc = 0) (hb : Below w.heap.size w w1) (hg : w1.grownBy w2 vu.ownBlock)
    (hown : w2.ownsRow B 41 6 vu' (us.length + 1) (uvs us ++ uvC x)) : RDx B R U J (K + 1) (w2.setCell ⟨R, 1, none⟩ vu') ⟨m.boxes, m.units ++ [x.u]⟩ vb vu' (us ++ [x]) w2.heap.size ∧ Below B w (w2.setCell ⟨R, 1, none⟩ vu') ∧ w2.cell? ⟨R, 1, none⟩ = some vu ∧ w2.frozen? ⟨R, 1, none⟩ = false := by
  have hk2 := kt_grow h.units hb hg
  have hR2 := hk2 _ _ _ _ h.blk (by decide)
  have hk := hk2.trans (kt_set hR2 1 vu')
  have hs : w.heap.size ≤ w2.heap.size := Nat.le_trans hb.size hg.size
  obtain ⟨f1, f2, f3⟩ := h.few
  obtain ⟨_, c1, _, _, _, _, _, g1⟩ := rd_cells hR2
  refine ⟨⟨set_rd1 hR2 _, own_kt h.boxes hk (by decide), h.b64, ?_, by simp [h.same], fun y hy => ?_, fun i y hy hi g hgb => ?_, fun y hy => ?_, ⟨Nat.le_trans h.lt.1 hs, by simp [World.setCell]⟩, h.base, hk _ _ _ _ h.wu (by decide), hk _ _ _ _ h.wj (by decide), Nat.le_succ_of_le f1, by simp; omega, fun y hy => ?_⟩, (below_grow2 h.units hb hg h.lt.1).setCell (p := ⟨R, 1, none⟩) h.base _, c1, g1⟩
  · have e : uvs (us ++ [x]) = uvs us ++ uvC x := by simp [uvs]
    simp only [List.length_append, List.length_cons, List.length_nil, Nat.zero_add]
    rw [e]
    exact own_set_far hown hR2 (by decide)
  · rcases List.mem_append.1 hy with hy | hy
    · exact (h.each y hy).kt hk (by decide) (by decide)
    · simp at hy; subst hy; exact hx.kt hk (by decide) (by decide)
  · rw [List.length_append, List.length_singleton] at hi
    rw [List.getElem?_append_left (by omega)] at hy
    have := (own_block (h.each y (List.mem_of_getElem? hy)).code hgb).2.1
    omega
  · simp at hy
    subst hy
    refine ⟨by rw [hxc]; simp [inss], .inl ⟨?_, by rw [hxc]; rfl⟩⟩
    unfold codV
    rw [hxc, hxa, hxn]
    rfl
  · rcases List.mem_append.1 hy with hy | hy
    · have := f3 y hy; omega
    · simp at hy; subst hy; rw [hxc]; simp

/-- A cell of an own row is written. -/
theorem own_set {w : World} {B e size n g j : Nat} {v u : Value} {xs : List Value} (h : w.ownsRow B e size v n xs) (hg : v.ownBlock = some g) : (w.setCell ⟨g, j, none⟩ u).ownsRow B e size v n (xs.set j u) := by
  refine ⟨by rw [List.length_set]; exact h.1, ?_⟩
  rcases h.2 with ⟨rfl, _⟩ | ⟨g', cap, cur, rfl, hB, hh, h1, h2, h3, h4⟩
  · cases hg
  · cases hg
    refine .inr ⟨g', cap, cur.setIfInBounds j u, rfl, hB, ?_, h1, h2, by simpa using h3, ?_⟩
    · simp only [World.setCell, Array.getElem?_modify, if_true, hh, Option.map_some]
      rfl
    · rw [Array.toList_setIfInBounds, List.take_set, h4]

theorem uvs_last {x : UV} : ∀ (l : List UV) (k : Nat), l[k]? = some x → ∀ (i : Vf.Ins) (a : Option Addr) (c : Nat), uvs (l.set k ⟨{ x.u with code := x.u.code ++ [i] }, x.al, a, x.cl, c⟩) = (uvs l).set (k * 6 + 5) (.slice a (x.u.code.length + 1) c)
  | z :: l, 0, h, i, a, c => by
    simp at h
    subst h
    simp [uvs]
  | z :: l, k + 1, h, i, a, c => by
    have ih := uvs_last l k (by simpa using h) i a c
    rw [List.set_cons_succ, uvs_cons, ih, uvs_cons]
    have e : (k + 1) * 6 + 5 = k * 6 + 5 + 1 + 1 + 1 + 1 + 1 + 1 := by omega
    rw [e]
    simp only [uvC, List.cons_append, List.nil_append, List.set_cons_succ]
/-- Behind an instruction more. -/
theorem RDx.instr {B R U J K C g : Nat} {w w1 w2 : World} {m : Vf.Md} {vb vu : Value} {us : List UV} (h : RDx B R U J K w m vb vu us C) {x : UV} (hx : us[us.length - 1]? = some x) {i : Vf.Ins} (h64 : I64 i.op ∧ I64 i.a ∧ I64 i.n) (hgv : vu.ownBlock = some g) (hb : Below w.heap.size w w1) (hg : w1.grownBy w2 (codV x).ownBlock) {a : Option Addr} {c : Nat}
    (hown : w2.ownsRow C 43 3 (.slice a (x.u.code.length + 1) c) (x.u.code.length + 1) (inss x.u.code ++ inC i)) :
    RDx B R U J (K + 1) (w2.setCell ⟨g, (us.length - 1) * 6 + 5, none⟩ (.slice a (x.u.code.length + 1) c)) ⟨m.boxes, (us.set (us.length - 1) ⟨{ x.u with code := x.u.code ++ [i] }, x.al, a, x.cl, c⟩).map (·.u)⟩ vb vu (us.set (us.length - 1) ⟨{ x.u with code := x.u.code ++ [i] }, x.al, a, x.cl, c⟩) C ∧ Below B w (w2.setCell ⟨g, (us.length - 1) * 6 + 5, none⟩ (.slice a (x.u.code.length + 1) c))
      ∧ w2.cell? ⟨g, (us.length - 1) * 6 + 5, none⟩ = some (codV x) ∧ w2.frozen? ⟨g, (us.length - 1) * 6 + 5, none⟩ = false := by
  have hlast := h.last x hx
  have hk2 := kt_grow hlast hb hg
  obtain ⟨hBg, hgl, cur, hgb⟩ := own_block h.units hgv
  have hg2 := hk2 _ _ _ _ hgb (by decide)
  have hk := hk2.trans (kt_set hg2 ((us.length - 1) * 6 + 5) (.slice a (x.u.code.length + 1) c))
  have hs : w.heap.size ≤ w2.heap.size := Nat.le_trans hb.size hg.size
  obtain ⟨f1, f2, f3⟩ := h.few
  have hil := (List.getElem?_eq_some_iff.1 hx).1
  have hxm := List.mem_of_getElem? hx
  have hset : ∀ y, (us.set (us.length - 1) ⟨{ x.u with code := x.u.code ++ [i] }, x.al, a, x.cl, c⟩)[us.length - 1]? = some y → y = ⟨{ x.u with code := x.u.code ++ [i] }, x.al, a, x.cl, c⟩ := fun y hy => by
    rw [List.getElem?_set_self hil] at hy
    exact (Option.some.inj hy).symm
  have ecode : inss (x.u.code ++ [i]) = inss x.u.code ++ inC i := by simp [inss]
  have hcode : (w2.setCell ⟨g, (us.length - 1) * 6 + 5, none⟩ (.slice a (x.u.code.length + 1) c)).ownsRow C 43 3 (.slice a (x.u.code ++ [i]).length c) (x.u.code ++ [i]).length (inss (x.u.code ++ [i])) := by
    simp only [List.length_append, List.length_cons, List.length_nil, Nat.zero_add]
    rw [ecode]
    exact own_set_far hown hg2 (by decide)
  refine ⟨⟨hk _ _ _ _ h.blk (by decide), own_kt h.boxes hk (by decide), h.b64, ?_, rfl, fun y hy => ?_, fun j y hy hj g' hgb' => ?_, fun y hy => ?_, ⟨h.le.1, by have := h.le.2; simp [World.setCell]; omega⟩, h.base, hk _ _ _ _ h.wu (by decide), hk _ _ _ _ h.wj (by decide), Nat.le_succ_of_le f1, by simp; omega, fun y hy => ?_⟩, (below_grow2 (own_base hlast h.le.1) hb hg h.lt.1).setCell (p := ⟨g, _, none⟩) hBg _, ?_, ?_⟩
  · have hu2 : w2.ownsRow B 41 6 vu us.length (uvs us) := own_kt h.units hk2 (by decide)
    have := own_set (j := (us.length - 1) * 6 + 5) (u := .slice a (x.u.code.length + 1) c) hu2 hgv
    rw [List.length_set]
    have e : uvs (us.set (us.length - 1) ⟨{ x.u with code := x.u.code ++ [i] }, x.al, a, x.cl, c⟩) = (uvs us).set ((us.length - 1) * 6 + 5) (.slice a (x.u.code.length + 1) c) := by
      have h1 := fun (l : List UV) (k : Nat) (hk : l[k]? = some x) => uvs_last l k hk i a c
      exact h1 us _ hx
    rw [e]
    exact this
  · obtain ⟨j, hj, rfl⟩ := List.getElem_of_mem hy
    rw [List.length_set] at hj
    rw [List.getElem_set]
    split
    · have hx0 := h.each x hxm
      exact ⟨hx0.nums, hx0.l64, fun c' hc' => by
        rcases List.mem_append.1 hc' with h' | h'
        · exact hx0.c64 c' h'
        · simp at h'; subst h'; exact h64, own_kt hx0.locals hk (by decide), own_base hcode h.le.1⟩
    · rename_i hne
      have hj2 : us[j]? = some us[j] := List.getElem?_eq_getElem hj
      have hy0 := h.each us[j] (List.getElem_mem hj)
      refine ⟨hy0.nums, hy0.l64, hy0.c64, own_kt hy0.locals hk (by decide), own_keep hy0.code (fun k hk' => ?_)⟩
      have hkC := h.early j us[j] hj2 (by omega) k hk'
      have hkl := (own_block hy0.code hk').2.1
      obtain ⟨_, _, cur', hcur'⟩ := own_block hy0.code hk'
      rw [Below.heap_setCell _ _ _ _ (fun e => by
        have e' : k = g := e
        subst e'
        rw [hgb] at hcur'
        simp at hcur')]
      rw [hg.block k (Nat.lt_of_lt_of_le hkl hb.size) (fun e => by have := (own_block hlast e.symm).1; omega), hb.block k hkl]
  · rw [List.length_set] at hj
    rw [List.getElem?_set_ne (by omega)] at hy
    exact h.early j y hy hj g' hgb'
  · rw [List.length_set] at hy
    obtain rfl := hset y hy
    exact hcode
  · obtain ⟨j, hj, rfl⟩ := List.getElem_of_mem hy
    rw [List.length_set] at hj
    rw [List.getElem_set]
    split
    · have := f3 x hxm
      simp; omega
    · have := f3 us[j] (List.getElem_mem hj)
      omega
  · obtain ⟨vu1, hvu⟩ := own_form h.units
    have hu2 : w2.ownsRow B 41 6 vu us.length (uvs us) := own_kt h.units hk2 (by decide)
    obtain ⟨cu1, rfl⟩ := hvu
    obtain ⟨g', e1, _, _, hc⟩ := own_cell hu2 (j := (us.length - 1) * 6 + 5) (v := codV x) (by rw [uvs_at us _ x hx 5 (by decide)]; rfl)
    rw [e1] at hgv
    cases hgv
    exact hc
  · simp [World.frozen?, hg2]

end Go.Proofs.YtbdcmkmeljddmaaGreatDoor.Aw


/- A reader of listings in memory: behind a box, a unit, an instruction more. -/
import Derived.Test.YtlicfdligldhdaaDoorM15
namespace Go.Proofs.YtlicfdligldhdaaDoor.Aw
open Go.RowKit As

theorem KeepT.trans {es fs : List TypeId} {a b c : World} (h : KeepT es a b) (k : KeepT fs b c) : KeepT (es ++ fs) a c := fun j cs t fr hj ht => k j cs t fr (h j cs t fr hj (fun e => ht (List.mem_append_left _ e))) (fun e => ht (List.mem_append_right _ e))
theorem kt_grow {B e size n : Nat} {w w1 w2 : World} {v : Value} {xs : List Value} (hown : w.ownsRow B e size v n xs) (hb : Below w.heap.size w w1) (hg : w1.grownBy w2 v.ownBlock) : KeepT [e] w w2 := fun j cs t fr hj ht => by
  have hl := lt_of_block hj
  rw [hg.block j (Nat.lt_of_lt_of_le hl hb.size) (fun e' => own_ty hown hj (by simpa using ht) e'.symm), hb.block j hl]
  exact hj
theorem kt_set {w : World} {R : Nat} {cs : Array Value} {t : TypeId} {fr : Nat × Nat} (hR : w.heap[R]? = some (.cells cs t fr)) (o : Nat) (v : Value) : KeepT [t] w (w.setCell ⟨R, o, none⟩ v) := fun j cs' t' fr' hj ht => by
  rw [Below.heap_setCell _ _ _ _ (fun e => by
    have e' : j = R := e
    subst e'
    rw [hR] at hj
    simp at hj
    exact ht (by simp [hj.2.1]))]
  exact hj
theorem below_grow2 {B e size n : Nat} {w w1 w2 : World} {v : Value} {xs : List Value} (hown : w.ownsRow B e size v n xs) (hb : Below w.heap.size w w1) (hg : w1.grownBy w2 v.ownBlock) (hB : B ≤ w.heap.size) : Below B w w2 :=
  (hb.mono hB).grown hg (Nat.le_trans hB hb.size) (fun _ e => (own_block hown e).1)
theorem UOk.kt {es : List TypeId} {B : Nat} {w w' : World} {x : UV} (h : UOk B w x) (hk : KeepT es w w') (h1 : 3 ∉ es) (h2 : 45 ∉ es) : UOk B w' x := ⟨h.nums, h.l64, h.c64, own_kt h.locals hk h1, own_kt h.code hk h2⟩
theorem RDx.lt {B R U J K C : Nat} {w : World} {m : Vf.Md} {vb vu : Value} {us : List UV} (h : RDx B R U J K w m vb vu us C) : B ≤ w.heap.size ∧ R < w.heap.size := ⟨Nat.le_trans h.le.1 h.le.2, lt_of_block h.blk⟩

theorem set_rd0 {w : World} {R U J : Nat} {vb vu : Value} (h : w.heap[R]? = some (rdO vb vu U J)) (v : Value) : (w.setCell ⟨R, 0, none⟩ v).heap[R]? = some (rdO v vu U J) := by
  simp only [World.setCell, Array.getElem?_modify, if_true, h, Option.map_some]
  rfl
theorem set_rd1 {w : World} {R U J : Nat} {vb vu : Value} (h : w.heap[R]? = some (rdO vb vu U J)) (v : Value) : (w.setCell ⟨R, 1, none⟩ v).heap[R]? = some (rdO vb v U J) := by
  simp only [World.setCell, Array.getElem?_modify, if_true, h, Option.map_some]
  rfl
theorem own_set_far {w : World} {B e size n R o : Nat} {v u : Value} {xs : List Value} {cs : Array Value} {t : TypeId} {fr : Nat × Nat} (h : w.ownsRow B e size v n xs) (hR : w.heap[R]? = some (.cells cs t fr)) (ht : t ≠ e) : (w.setCell ⟨R, o, none⟩ u).ownsRow B e size v n xs :=
  own_kt h (kt_set hR o u) (by simp; exact fun e' => ht e'.symm)

/-- Behind a box more. -/
theorem RDx.box {B R U J K C : Nat} {w w1 w2 : World} {m : Vf.Md} {vb vu vb' : Value} {us : List UV} (h : RDx B R U J K w m vb vu us C) {b : Vf.Bx} (h64 : I64 b.ty ∧ I64 b.cap) (hb : Below w.heap.size w w1) (hg : w1.grownBy w2 vb.ownBlock)
    (hown : w2.ownsRow B 64 2 vb' (m.boxes.length + 1) (bxs m.boxes ++ bxC b)) : RDx B R U J (K + 1) (w2.setCell ⟨R, 0, none⟩ vb') ⟨m.boxes ++ [b], m.units⟩ vb' vu us C ∧ Below B w (w2.setCell ⟨R, 0, none⟩ vb') ∧ w2.cell? ⟨R, 0, none⟩ = some vb ∧ w2.frozen? ⟨R, 0, none⟩ = false := by
  have hk2 := kt_grow h.boxes hb hg
  have hR2 := hk2 _ _ _ _ h.blk (by decide)
  have hk := hk2.trans (kt_set hR2 0 vb')
  have hs : w.heap.size ≤ w2.heap.size := Nat.le_trans hb.size hg.size
  obtain ⟨f1, f2, f3⟩ := h.few
  obtain ⟨c0, _, _, _, _, _, g0, _⟩ := rd_cells hR2
  refine ⟨⟨set_rd0 hR2 _, ?_, fun x hx => ?_, own_kt h.units hk (by decide), h.same, fun x hx => (h.each x hx).kt hk (by decide) (by decide), h.early, fun x hx => own_kt (h.last x hx) hk (by decide), ⟨h.le.1, by have := h.le.2; simp [World.setCell]; omega⟩, h.base, hk _ _ _ _ h.wu (by decide), hk _ _ _ _ h.wj (by decide), by simp; omega, by omega, fun x hx => by have := f3 x hx; omega⟩, (below_grow2 h.boxes hb hg h.lt.1).setCell (p := ⟨R, 0, none⟩) h.base _, c0, g0⟩
  · have e : bxs (m.boxes ++ [b]) = bxs m.boxes ++ bxC b := by simp [bxs]
    simp only [List.length_append, List.length_cons, List.length_nil, Nat.zero_add]
    rw [e]
    exact own_set_far hown hR2 (by decide)
  · rcases List.mem_append.1 hx with hx | hx
    · exact h.b64 x hx
    · simp at hx; subst hx; exact h64

/-- Behind a unit more. -/
theorem RDx.unit {B R U J K C : Nat} {w w1 w2 : World} {m : Vf.Md} {vb vu vu' : Value} {us : List UV} (h : RDx B R U J K w m vb vu us C) {x : UV} (hx : UOk B w x) (hxc : x.u.code = []) (hxa : x.ac = none) (hxn : x.cc = 0) (hb : Below w.heap.size w w1) (hg : w1.grownBy w2 vu.ownBlock)
    (hown : w2.ownsRow B 43 6 vu' (us.length + 1) (uvs us ++ uvC x)) : RDx B R U J (K + 1) (w2.setCell ⟨R, 1, none⟩ vu') ⟨m.boxes, m.units ++ [x.u]⟩ vb vu' (us ++ [x]) w2.heap.size ∧ Below B w (w2.setCell ⟨R, 1, none⟩ vu') ∧ w2.cell? ⟨R, 1, none⟩ = some vu ∧ w2.frozen? ⟨R, 1, none⟩ = false := by
  have hk2 := kt_grow h.units hb hg
  have hR2 := hk2 _ _ _ _ h.blk (by decide)
  have hk := hk2.trans (kt_set hR2 1 vu')
  have hs : w.heap.size ≤ w2.heap.size := Nat.le_trans hb.size hg.size
  obtain ⟨f1, f2, f3⟩ := h.few
  obtain ⟨_, c1, _, _, _, _, _, g1⟩ := rd_cells hR2
  refine ⟨⟨set_rd1 hR2 _, own_kt h.boxes hk (by decide), h.b64, ?_, by simp [h.same], fun y hy => ?_, fun i y hy hi g hgb => ?_, fun y hy => ?_, ⟨Nat.le_trans h.lt.1 hs, by simp [World.setCell]⟩, h.base, hk _ _ _ _ h.wu (by decide), hk _ _ _ _ h.wj (by decide), Nat.le_succ_of_le f1, by simp; omega, fun y hy => ?_⟩, (below_grow2 h.units hb hg h.lt.1).setCell (p := ⟨R, 1, none⟩) h.base _, c1, g1⟩
  · have e : uvs (us ++ [x]) = uvs us ++ uvC x := by simp [uvs]
    simp only [List.length_append, List.length_cons, List.length_nil, Nat.zero_add]
    rw [e]
    exact own_set_far hown hR2 (by decide)
  · rcases List.mem_append.1 hy with hy | hy
    · exact (h.each y hy).kt hk (by decide) (by decide)
    · simp at hy; subst hy; exact hx.kt hk (by decide) (by decide)
  · rw [List.length_append, List.length_singleton] at hi
    rw [List.getElem?_append_left (by omega)] at hy
    have := (own_block (h.each y (List.mem_of_getElem? hy)).code hgb).2.1
    omega
  · simp at hy
    subst hy
    refine ⟨by rw [hxc]; simp [inss], .inl ⟨?_, by rw [hxc]; rfl⟩⟩
    unfold codV
    rw [hxc, hxa, hxn]
    rfl
  · rcases List.mem_append.1 hy with hy | hy
    · have := f3 y hy; omega
    · simp at hy; subst hy; rw [hxc]; simp

/-- A cell of an own row is written. -/
theorem own_set {w : World} {B e size n g j : Nat} {v u : Value} {xs : List Value} (h : w.ownsRow B e size v n xs) (hg : v.ownBlock = some g) : (w.setCell ⟨g, j, none⟩ u).ownsRow B e size v n (xs.set j u) := by
  refine ⟨by rw [List.length_set]; exact h.1, ?_⟩
  rcases h.2 with ⟨rfl, _⟩ | ⟨g', cap, cur, rfl, hB, hh, h1, h2, h3, h4⟩
  · cases hg
  · cases hg
    refine .inr ⟨g', cap, cur.setIfInBounds j u, rfl, hB, ?_, h1, h2, by simpa using h3, ?_⟩
    · simp only [World.setCell, Array.getElem?_modify, if_true, hh, Option.map_some]
      rfl
    · rw [Array.toList_setIfInBounds, List.take_set, h4]

theorem uvs_last {x : UV} : ∀ (l : List UV) (k : Nat), l[k]? = some x → ∀ (i : Vf.Ins) (a : Option Addr) (c : Nat), uvs (l.set k ⟨{ x.u with code := x.u.code ++ [i] }, x.al, a, x.cl, c⟩) = (uvs l).set (k * 6 + 5) (.slice a (x.u.code.length + 1) c)
  | z :: l, 0, h, i, a, c => by
    simp at h
    subst h
    simp [uvs]
  | z :: l, k + 1, h, i, a, c => by
    have ih := uvs_last l k (by simpa using h) i a c
    rw [List.set_cons_succ, uvs_cons, ih, uvs_cons]
    have e : (k + 1) * 6 + 5 = k * 6 + 5 + 1 + 1 + 1 + 1 + 1 + 1 := by omega
    rw [e]
    simp only [uvC, List.cons_append, List.nil_append, List.set_cons_succ]
/-- Behind an instruction more. -/
theorem RDx.instr {B R U J K C g : Nat} {w w1 w2 : World} {m : Vf.Md} {vb vu : Value} {us : List UV} (h : RDx B R U J K w m vb vu us C) {x : UV} (hx : us[us.length - 1]? = some x) {i : Vf.Ins} (h64 : I64 i.op ∧ I64 i.a ∧ I64 i.n) (hgv : vu.ownBlock = some g) (hb : Below w.heap.size w w1) (hg : w1.grownBy w2 (codV x).ownBlock) {a : Option Addr} {c : Nat}
    (hown : w2.ownsRow C 45 3 (.slice a (x.u.code.length + 1) c) (x.u.code.length + 1) (inss x.u.code ++ inC i)) :
    RDx B R U J (K + 1) (w2.setCell ⟨g, (us.length - 1) * 6 + 5, none⟩ (.slice a (x.u.code.length + 1) c)) ⟨m.boxes, (us.set (us.length - 1) ⟨{ x.u with code := x.u.code ++ [i] }, x.al, a, x.cl, c⟩).map (·.u)⟩ vb vu (us.set (us.length - 1) ⟨{ x.u with code := x.u.code ++ [i] }, x.al, a, x.cl, c⟩) C ∧ Below B w (w2.setCell ⟨g, (us.length - 1) * 6 + 5, none⟩ (.slice a (x.u.code.length + 1) c))
      ∧ w2.cell? ⟨g, (us.length - 1) * 6 + 5, none⟩ = some (codV x) ∧ w2.frozen? ⟨g, (us.length - 1) * 6 + 5, none⟩ = false := by
  have hlast := h.last x hx
  have hk2 := kt_grow hlast hb hg
  obtain ⟨hBg, hgl, cur, hgb⟩ := own_block h.units hgv
  have hg2 := hk2 _ _ _ _ hgb (by decide)
  have hk := hk2.trans (kt_set hg2 ((us.length - 1) * 6 + 5) (.slice a (x.u.code.length + 1) c))
  have hs : w.heap.size ≤ w2.heap.size := Nat.le_trans hb.size hg.size
  obtain ⟨f1, f2, f3⟩ := h.few
  have hil := (List.getElem?_eq_some_iff.1 hx).1
  have hxm := List.mem_of_getElem? hx
  have hset : ∀ y, (us.set (us.length - 1) ⟨{ x.u with code := x.u.code ++ [i] }, x.al, a, x.cl, c⟩)[us.length - 1]? = some y → y = ⟨{ x.u with code := x.u.code ++ [i] }, x.al, a, x.cl, c⟩ := fun y hy => by
    rw [List.getElem?_set_self hil] at hy
    exact (Option.some.inj hy).symm
  have ecode : inss (x.u.code ++ [i]) = inss x.u.code ++ inC i := by simp [inss]
  have hcode : (w2.setCell ⟨g, (us.length - 1) * 6 + 5, none⟩ (.slice a (x.u.code.length + 1) c)).ownsRow C 45 3 (.slice a (x.u.code ++ [i]).length c) (x.u.code ++ [i]).length (inss (x.u.code ++ [i])) := by
    simp only [List.length_append, List.length_cons, List.length_nil, Nat.zero_add]
    rw [ecode]
    exact own_set_far hown hg2 (by decide)
  refine ⟨⟨hk _ _ _ _ h.blk (by decide), own_kt h.boxes hk (by decide), h.b64, ?_, rfl, fun y hy => ?_, fun j y hy hj g' hgb' => ?_, fun y hy => ?_, ⟨h.le.1, by have := h.le.2; simp [World.setCell]; omega⟩, h.base, hk _ _ _ _ h.wu (by decide), hk _ _ _ _ h.wj (by decide), Nat.le_succ_of_le f1, by simp; omega, fun y hy => ?_⟩, (below_grow2 (own_base hlast h.le.1) hb hg h.lt.1).setCell (p := ⟨g, _, none⟩) hBg _, ?_, ?_⟩
  · have hu2 : w2.ownsRow B 43 6 vu us.length (uvs us) := own_kt h.units hk2 (by decide)
    have := own_set (j := (us.length - 1) * 6 + 5) (u := .slice a (x.u.code.length + 1) c) hu2 hgv
    rw [List.length_set]
    have e : uvs (us.set (us.length - 1) ⟨{ x.u with code := x.u.code ++ [i] }, x.al, a, x.cl, c⟩) = (uvs us).set ((us.length - 1) * 6 + 5) (.slice a (x.u.code.length + 1) c) := by
      have h1 := fun (l : List UV) (k : Nat) (hk : l[k]? = some x) => uvs_last l k hk i a c
      exact h1 us _ hx
    rw [e]
    exact this
  · obtain ⟨j, hj, rfl⟩ := List.getElem_of_mem hy
    rw [List.length_set] at hj
    rw [List.getElem_set]
    split
    · have hx0 := h.each x hxm
      exact ⟨hx0.nums, hx0.l64, fun c' hc' => by
        rcases List.mem_append.1 hc' with h' | h'
        · exact hx0.c64 c' h'
        · simp at h'; subst h'; exact h64, own_kt hx0.locals hk (by decide), own_base hcode h.le.1⟩
    · rename_i hne
      have hj2 : us[j]? = some us[j] := List.getElem?_eq_getElem hj
      have hy0 := h.each us[j] (List.getElem_mem hj)
      refine ⟨hy0.nums, hy0.l64, hy0.c64, own_kt hy0.locals hk (by decide), own_keep hy0.code (fun k hk' => ?_)⟩
      have hkC := h.early j us[j] hj2 (by omega) k hk'
      have hkl := (own_block hy0.code hk').2.1
      obtain ⟨_, _, cur', hcur'⟩ := own_block hy0.code hk'
      rw [Below.heap_setCell _ _ _ _ (fun e => by
        have e' : k = g := e
        subst e'
        rw [hgb] at hcur'
        simp at hcur')]
      rw [hg.block k (Nat.lt_of_lt_of_le hkl hb.size) (fun e => by have := (own_block hlast e.symm).1; omega), hb.block k hkl]
  · rw [List.length_set] at hj
    rw [List.getElem?_set_ne (by omega)] at hy
    exact h.early j y hy hj g' hgb'
  · rw [List.length_set] at hy
    obtain rfl := hset y hy
    exact hcode
  · obtain ⟨j, hj, rfl⟩ := List.getElem_of_mem hy
    rw [List.length_set] at hj
    rw [List.getElem_set]
    split
    · have := f3 x hxm
      simp; omega
    · have := f3 us[j] (List.getElem_mem hj)
      omega
  · obtain ⟨vu1, hvu⟩ := own_form h.units
    have hu2 : w2.ownsRow B 43 6 vu us.length (uvs us) := own_kt h.units hk2 (by decide)
    obtain ⟨cu1, rfl⟩ := hvu
    obtain ⟨g', e1, _, _, hc⟩ := own_cell hu2 (j := (us.length - 1) * 6 + 5) (v := codV x) (by rw [uvs_at us _ x hx 5 (by decide)]; rfl)
    rw [e1] at hgv
    cases hgv
    exact hc
  · simp [World.frozen?, hg2]

end Go.Proofs.YtlicfdligldhdaaDoor.Aw


/- For SoloGrows: longer feeds, made of two rows each. -/
import Derived.Test.YtnfbfdajdflfgaaM50
import Derived.Test.YtnfbfdajdflfgaaM51
import Derived.Laws.AppendOwnNone
namespace Go.Proofs.Ytnfbfdajdflfgaa.Vw
open Go.RowKit Vf Vm

section
variable {P : Program} {w : World}
theorem run_append_nothing (base : Nat) (t ty e : TypeId) (i : TypeInfo) (size : Nat) (ht : P.underlying t = some (.slice e)) (hi : P.info? e = some i) (v : Value) (n : Nat) (xs : List Value) (hown : w.ownsRow base e size v n xs) (c : Nat) :
    (Builtin.append_ #[t, t] ty #[v, .slice none 0 c]).run P w = .ok v w := by
  rcases hown.2 with ⟨rfl, rfl⟩ | ⟨g, cap, cur, rfl, _, _, hnc, _⟩
  · simp [Builtin.append_, run_underlying ht, sizeOf, typeInfo, hi, Builtin.lenOf, Builtin.firstCells]
  · simp [Builtin.append_, run_underlying ht, sizeOf, typeInfo, hi, Builtin.lenOf, Builtin.firstCells, hnc, storeCells]
/-- Appended: what may be nothing; as a step of a region that draws its order. -/
theorem step_append_src {ops : Array Oper} {o : Oper} {a : Act} {K : Act → World → Prop} {Q : Exit → Act → World → Prop} {F : Prop} (hgd : o.guard = none) (s x : Operand) (t : TypeId)
    (ho : o.op = .call { callee := .builtin .append, args := #[s, x], argTypes := #[t, t] })
    (base : Nat) (e : TypeId) (i : TypeInfo) (z : Value) (size bytes : Nat) (ht : P.underlying t = some (.slice e)) (hi : P.info? e = some i) (hz : i.zero = some z)
    (hsize : i.size = size) (hby : i.bytes = bytes) (hzs : z.cells.size = size) (hsz : 0 < size)
    (v : Value) (n : Nat) (xs : List Value) (hs : a.eval s = v) (hown : w.ownsRow base e size v n xs)
    (ao : Option Addr) (m c : Nat) (news : List Value) (hx : a.eval x = .slice ao m c) (hno : ao = none → m = 0) (hl : news.length = m * size) (hnews : ∀ ad, ao = some ad → ∀ j u, news[j]? = some u → w.cell? (ad.add j) = some u) (h1 : ∀ u ∈ news, u.oneCell' = true)
    (h63 : n + m ≤ maxLen) (hbytes : (n + m) * bytes ≤ 140737488355328) (hbase : base ≤ w.heap.size)
    (h : ∀ v' w', w'.ownsRow base e size v' (n + m) (xs ++ news) → w.grownBy w' v.ownBlock → K (a.put o.dst v') w') :
    if Region.wanted o (yielded ops a.tmps) = true then Oper.wp P o a w K Q else F := by
  have hw : Region.wanted o (yielded ops a.tmps) = true := by simp [Region.wanted, hgd]
  rw [if_pos hw]
  cases ao with
  | none =>
    obtain rfl := hno rfl
    obtain rfl : news = [] := List.eq_nil_of_length_eq_zero (by simpa using hl)
    have hrun := run_append_nothing (P := P) (w := w) base t o.type e i size ht hi v n xs hown c
    unfold Oper.wp
    simp [execOp, ho, resolve, invoke, builtin, hs, hx, hrun, Result.andThen]
    exact h v w (by simpa using hown) (World.grownBy.refl _ _)
  | some ad => exact wp_append_own w s x t ho base e i z size bytes ht hi hz hsize hby hzs hsz v n xs hs hown ad m c news hx hl (hnews ad rfl) h1 h63 hbytes hbase (fun v' w' h2 h3 _ => h v' w' h2 h3)
end

/-- What holds at the head of SoloGrows' first loop. -/
structure GrAt (w : World) (fs gs : List (List Int)) (k : Nat) (vl : Value) (av : Nat → Value) (wr : World) : Prop where
  row : wr.ownsRow w.heap.size 38 1 vl k (svs av k)
  at' : ∀ (i : Nat) f g, i < k → fs[i]? = some f → gs[i]? = some g → wr.ownsRow w.heap.size 2 1 (av i) (f.length + g.length) (ints f ++ ints g)
theorem svs_eq {a b : Nat → Value} {n : Nat} (h : ∀ i, i < n → a i = b i) : svs a n = svs b n := List.map_congr_left (fun i hi => h i (by simpa using hi))
theorem GrAt.more {w wr w3 w5 : World} {fs gs : List (List Int)} {k : Nat} {vl vl' v3 : Value} {av : Nat → Value} (h : GrAt w fs gs k vl av wr) (hz : w.heap.size ≤ wr.heap.size) {f g : List Int} (hf : fs[k]? = some f) (hg : gs[k]? = some g) (hb : Below wr.heap.size wr w3)
    (h3 : w3.ownsRow wr.heap.size 2 1 v3 (f.length + g.length) (ints f ++ ints g)) (h5 : w5.ownsRow w.heap.size 38 1 vl' (k + 1) (svs av k ++ [v3])) (g5 : (w3.alloc (.cells #[v3] 38)).grownBy w5 vl.ownBlock) :
    GrAt w fs gs (k + 1) vl' (fun i => if i = k then v3 else av i) w5 ∧ Below wr.heap.size wr (w3.alloc (.cells #[v3] 38)) := by
  have hz3 := hb.size
  have keep : ∀ {n : Nat} {v : Value} {xs : List Value}, w3.ownsRow w.heap.size 2 1 v n xs → w5.ownsRow w.heap.size 2 1 v n xs := fun ho => own_keep ho (fun b hx => by
    have hl := (ho.lt b hx).2
    refine (g5.block b (by simp; omega) (fun e => ?_)).trans (Below.heap_alloc _ _ _ hl)
    obtain ⟨c1, k1⟩ := own_ty ho hx
    have hbl := (h.row.lt b e.symm).2
    obtain ⟨c2, k2⟩ := own_ty h.row e.symm
    rw [← hb.block b hbl, k1] at k2
    simp at k2)
  refine ⟨⟨?_, fun i f' g' hi hf' hg' => ?_⟩, hb.alloc hb.size _⟩
  · rw [svs_succ, svs_eq (b := av) (fun i hi => if_neg (by omega)), if_pos rfl]
    exact h5
  · by_cases e : i = k
    · subst e
      rw [hf] at hf'; rw [hg] at hg'
      cases hf'; cases hg'
      simp only [if_true]
      exact keep (own_base h3 hz)
    · simp only [if_neg e]
      have ho := h.at' i f' g' (by omega) hf' hg'
      exact keep (own_keep ho (fun b hx => hb.block b (ho.lt b hx).2))

def alls (fs gs : List (List Int)) : List (List Int) := List.zipWith (· ++ ·) fs gs
theorem alls_at {fs gs : List (List Int)} {i : Nat} {l : List Int} (h : (alls fs gs)[i]? = some l) : ∃ f g, fs[i]? = some f ∧ gs[i]? = some g ∧ l = f ++ g := by
  unfold alls at h
  rw [List.getElem?_zipWith] at h
  cases hf : fs[i]? with
  | none => rw [hf] at h; simp at h
  | some f =>
    cases hg : gs[i]? with
    | none => rw [hf, hg] at h; simp at h
    | some g => rw [hf, hg] at h; simp at h; exact ⟨f, g, rfl, rfl, h.symm⟩
/-- Longer feeds, in memory. -/
theorem GrAt.feeds {w wr : World} {fs gs : List (List Int)} {va : Option Addr} {vc : Nat} {av : Nat → Value} (h : GrAt w fs gs fs.length (.slice va fs.length vc) av wr) (hl : gs.length = fs.length) (hn : fs.length ≤ 1048576) (hf : ∀ f ∈ fs, f.length ≤ 1048576) (hg : ∀ g ∈ gs, g.length ≤ 1048576) :
    ∃ fa fc, FdIn wr.heap.size wr (alls fs gs) va fa fc ∧ (alls fs gs).length = fs.length := by
  have hal : (alls fs gs).length = fs.length := by simp [alls, hl]
  have key : ∀ i : Nat, ∃ p : Option Addr × Nat, ∀ f g, fs[i]? = some f → gs[i]? = some g → av i = .slice p.1 (f.length + g.length) p.2 := fun i => by
    cases hfi : fs[i]? with
    | none => exact ⟨(none, 0), fun f g e => by cases e⟩
    | some f =>
      cases hgi : gs[i]? with
      | none => exact ⟨(none, 0), fun f g _ e => by cases e⟩
      | some g =>
        obtain ⟨a, c, e⟩ := own_slice (h.at' i f g (List.getElem?_eq_some_iff.1 hfi).1 hfi hgi)
        exact ⟨(a, c), fun f' g' e1 e2 => by cases e1; cases e2; exact e⟩
  obtain ⟨p, hp⟩ : ∃ p : Nat → Option Addr × Nat, ∀ (i : Nat) f g, fs[i]? = some f → gs[i]? = some g → av i = .slice (p i).1 (f.length + g.length) (p i).2 := ⟨fun i => (key i).choose, fun i => (key i).choose_spec⟩
  refine ⟨fun i => (p i).1, fun i => (p i).2, ⟨by omega, fun i l hi => ?_, fun i l hi => ?_⟩, hal⟩
  · obtain ⟨f, g, h1, h2, rfl⟩ := alls_at hi
    have hi' := (List.getElem?_eq_some_iff.1 h1).1
    obtain ⟨b, e, hc⟩ := own_cell h.row (k := i) (u := av i) (by simp [svs, hi'])
    refine ⟨b, 0, e, World.block_lt_of_cell? wr _ hc, ?_⟩
    rw [Nat.zero_add, hc, hp i f g h1 h2, List.length_append]
  · obtain ⟨f, g, h1, h2, rfl⟩ := alls_at hi
    have hi' := (List.getElem?_eq_some_iff.1 h1).1
    have k1 := hf f (List.mem_of_getElem? h1)
    have k2 := hg g (List.mem_of_getElem? h2)
    refine ⟨by simp; omega, fun j v hv => ?_⟩
    have ho := h.at' i f g hi' h1 h2
    rw [hp i f g h1 h2] at ho
    obtain ⟨b, e, hc⟩ := own_cell ho (k := j) (u := .int .i64 v) (by rw [← List.map_append, List.getElem?_map, hv]; rfl)
    exact ⟨b, 0, e, World.block_lt_of_cell? wr _ hc, by rw [Nat.zero_add]; exact hc⟩
theorem fed_alls {fs gs : List (List Int)} (hl : gs.length = fs.length) : Fed (soloX fs) (soloX (alls fs gs)) := by
  refine ⟨by simp [soloX, alls, hl], fun i q q' hq hq' => ?_⟩
  obtain ⟨f, hf, rfl⟩ := soloX_at hq
  obtain ⟨l, hl2, rfl⟩ := soloX_at hq'
  obtain ⟨f', g, h1, _, rfl⟩ := alls_at hl2
  rw [hf] at h1
  cases h1
  exact ⟨rfl, rfl, List.prefix_append _ _, Nat.zero_le _⟩
end Go.Proofs.Ytnfbfdajdflfgaa.Vw

/- The walk of SoloGrows. -/
namespace Go.Proofs.Ytnfbfdajdflfgaa.Vw
open Go.RowKit Vf Vm

/-- Words of an argument, as an append reads them. -/
theorem fd_news {B : Nat} {w W : World} {fs : List (List Int)} {a : Option Addr} {fa : Nat → Option Addr} {fc : Nat → Nat} (h : FdIn B w fs a fa fc) {k : Nat} {f : List Int} (hf : fs[k]? = some f) (hW : ∀ b, b < B → W.heap[b]? = w.heap[b]?) : ∀ ad, fa k = some ad → ∀ j u, (ints f)[j]? = some u → W.cell? (ad.add j) = some u := fun ad he j u hu => by
  rw [List.getElem?_map] at hu
  cases hv : f[j]? with
  | none => rw [hv] at hu; cases hu
  | some v =>
    rw [hv] at hu
    cases hu
    obtain ⟨b, off, e, hb, hc⟩ := (h.words k f hf).2 j v hv
    rw [he] at e
    cases e
    rw [add_none]
    exact (cell_eq (hW b hb) _).trans hc
theorem fd_none {B : Nat} {w : World} {fs : List (List Int)} {a : Option Addr} {fa : Nat → Option Addr} {fc : Nat → Nat} (h : FdIn B w fs a fa fc) {k : Nat} {f : List Int} (hf : fs[k]? = some f) : fa k = none → f.length = 0 := fun he => by
  cases f with
  | nil => rfl
  | cons v l =>
    obtain ⟨b, off, e, _⟩ := (h.words k _ hf).2 0 v rfl
    rw [he] at e
    cases e

set_option maxRecDepth 100000 in
set_option maxHeartbeats 4000000 in
theorem grows_any (m : Md) (ab au : Option Addr) (cb cu : Nat) (fs gs : List (List Int)) (a : Option Addr) (cap : Nat) (fa : Nat → Option Addr) (fc : Nat → Nat) (ag : Option Addr) (capg : Nat) (ga : Nat → Option Addr) (gc : Nat → Nat) (w : World) (hmd : Hid (ModIn w.heap.size w m ab au)) (hfd : Hid (FdIn w.heap.size w fs a fa fc)) (hgd : Hid (FdIn w.heap.size w gs ag ga gc)) (hfn : fs.length ≤ 1048576) (hff : Hid (∀ f ∈ fs, f.length ≤ 1048576)) (hgf : Hid (∀ g ∈ gs, g.length ≤ 1048576)) (task most : Int) :
    Calls Try.prog 4 #[mdV m ab au cb cu, .int .i64 task, .slice a fs.length cap, .slice ag gs.length capg, .int .i64 most] w fun e w' => e = .returned (.bool true) ∧ Below w.heap.size w w' := by
  obtain ⟨i0, hi, hz0, hz1, hz2⟩ := info_parts Sb.Try.info2
  obtain ⟨i1, hi1, hy0, hy1, hy2⟩ := info_parts Try.info38
  have HM0 : Hid ((w.alloc (mdB m ab au cb cu)).heap[w.heap.size]? = some (mdB m ab au cb cu)) := heap_alloc_new w _
  have HB0 : Hid (Below w.heap.size w (w.alloc (mdB m ab au cb cu))) := (Below.refl _ w).alloc (Nat.le_refl _) _
  have HMD : Hid (∀ W, Below w.heap.size w W → ModIn w.heap.size W m ab au ∧ FdIn w.heap.size W fs a fa fc) := fun W hW => ⟨hmd.out.low hW.block, hfd.out.low hW.block⟩
  have hgl := hgd.out.few
  go_enter Try.func4, Try.ntmps4
  go_wp2_with fail
  generalize w.alloc (mdB m ab au cb cu) = W0 at *
  refine (alive_any _).mono ?_
  rintro e w1 ⟨rfl, hb1⟩
  have HB1 := Sb.hide (HB0.out.trans (hb1.mono HB0.out.size))
  have HM1 := Sb.hide ((hb1.block _ (lt_of_block HM0.out)).trans HM0.out)
  clear hb1
  by_cases hgn : gs.length = fs.length
  · have eg : ((gs.length : Int) != (fs.length : Int)) = false := by simp; omega
    have HGN := Sb.hide hgn
    rw [hgn] at eg hgl ⊢
    clear hgn
    have HST : Hid (GrAt w fs gs 0 (.slice none 0 0) (fun _ => .slice none 0 0) w1) := ⟨⟨rfl, .inl ⟨rfl, rfl⟩⟩, fun i f g hi => by omega⟩
    go_wp2
    go_loopw [11, 27] (fun vl v wr => ∃ k : Nat, v = .int .i64 k ∧ k ≤ fs.length ∧ (∃ av, GrAt w fs gs k vl av wr) ∧ Below w.heap.size w wr ∧ wr.heap[w.heap.size]? = some (mdB m ab au cb cu)) (fun _ v _ => fs.length - (intOf v).toNat)
    case atStart => exact ⟨0, rfl, Nat.zero_le _, ⟨_, HST.out⟩, HB1.out, HM1.out⟩
    case round =>
      obtain ⟨k, rfl, hk, ⟨av, hA⟩, hb, hm⟩ := hrel
      have HA := Sb.hide hA
      have HB := Sb.hide hb
      have HM := Sb.hide hm
      have hbz := hb.size
      clear hA hb hm HST
      by_cases hlt : k < fs.length
      · obtain ⟨f, hf⟩ : ∃ f, fs[k]? = some f := ⟨_, List.getElem?_eq_getElem hlt⟩
        obtain ⟨g, hg⟩ : ∃ g, gs[k]? = some g := ⟨_, List.getElem?_eq_getElem (by have := HGN.out; omega)⟩
        obtain ⟨fb, foff, rfl, hfb, y0⟩ := hfd.out.rows k f hf
        obtain ⟨gb, goff, rfl, hgb, z0⟩ := hgd.out.rows k g hg
        have hfl := hff.out f (List.mem_of_getElem? hf)
        have hgl2 := hgf.out g (List.mem_of_getElem? hg)
        have HX : Hid (∀ W, Below w.heap.size w W → W.cell? ⟨fb, foff + k, none⟩ = some (.slice (fa k) f.length (fc k)) ∧ W.cell? ⟨gb, goff + k, none⟩ = some (.slice (ga k) g.length (gc k))) := fun W hW => ⟨(cell_eq (hW.block fb hfb) _).trans y0, (cell_eq (hW.block gb hgb) _).trans z0⟩
        have s0 := HX.out _ HB.out
        have HF := Sb.hide hf
        have HGG := Sb.hide hg
        have HNF : Hid (∀ W, Below w.heap.size w W → ∀ ad, fa k = some ad → ∀ j u, (ints f)[j]? = some u → W.cell? (ad.add j) = some u) := fun W hW => fd_news hfd.out hf hW.block
        have HNG : Hid (∀ W, Below w.heap.size w W → ∀ ad, ga k = some ad → ∀ j u, (ints g)[j]? = some u → W.cell? (ad.add j) = some u) := fun W hW => fd_news hgd.out hg hW.block
        have HN1 : Hid (fa k = none → f.length = 0) := fd_none hfd.out hf
        have HN2 : Hid (ga k = none → g.length = 0) := fd_none hgd.out hg
        obtain ⟨nf, hnf⟩ : ∃ n, n = f.length := ⟨_, rfl⟩
        obtain ⟨ng, hng⟩ : ∃ n, n = g.length := ⟨_, rfl⟩
        have HLF : Hid ((ints f).length = nf * 1) := by unfold Hid; rw [hnf]; simp
        have HLG : Hid ((ints g).length = ng * 1) := by unfold Hid; rw [hng]; simp
        have HEF := Sb.hide hnf
        have HEG := Sb.hide hng
        rw [← hnf] at hfl HN1 HX s0
        rw [← hng] at hgl2 HN2 HX s0
        obtain ⟨s1, s2⟩ := s0
        obtain ⟨fn, hfn2⟩ : ∃ n, n = fs.length := ⟨_, rfl⟩
        have HFN := Sb.hide hfn2
        rw [← hfn2] at hlt hfn hk hgl ⊢
        have n0 : (0 : Int) ≤ (k : Int) := by omega
        have n1 : (k : Int) < (fn : Int) := by omega
        have HBD : Hid (Below w.heap.size w wr.drew) := HB.out.drew
        clear hf hg y0 z0 hnf hng hfn2
        go_wp2_with fail
        refine wp_region_held_drew (S := fun w' => w'.cell? ⟨fb, foff + k, none⟩ = some (.slice (fa k) nf (fc k)) ∧ w'.cell? ⟨gb, goff + k, none⟩ = some (.slice (ga k) ng (gc k))) (by kernel_rfl) (by exact ⟨s1, s2⟩) (fun hHeld => ?_)
        refine wpAnyH_take (i := 0) (oi := _) (v := ?_) rfl (by kernel_rfl) (by kernel_rfl) (by kernel_rfl) (fun _ _ _ h => h) (Or.inl ⟨by rfl, ?_⟩) (by assumption) ?_
        rotate_left
        · intro w hSw
          (try dsimp only at hSw)
          go_simp
          (try with_reducible rfl)
        (try simp only [Act.put])
        refine wpAnyH_take (i := 2) (oi := _) (v := ?_) rfl (by kernel_rfl) (by kernel_rfl) (by kernel_rfl) (fun _ _ _ h => h) (Or.inl ⟨by rfl, ?_⟩) (by assumption) ?_
        rotate_left
        · intro w hSw
          (try dsimp only at hSw)
          go_simp
          (try with_reducible rfl)
        (try simp only [Act.put])
        refine wpAnyH_take (i := 3) (oi := _) (v := ?_) rfl (by kernel_rfl) (by kernel_rfl) (by kernel_rfl) (fun _ _ _ h => h) (Or.inl ⟨by rfl, ?_⟩) (by assumption) ?_
        rotate_left
        · intro w hSw
          (try dsimp only at hSw)
          go_simp
          (try with_reducible rfl)
        (try simp only [Act.put])
        refine wpAnyH_take (i := 4) (oi := _) (v := ?_) rfl (by kernel_rfl) (by kernel_rfl) (by kernel_rfl) (fun _ _ _ h => h) (Or.inl ⟨by rfl, ?_⟩) (by assumption) ?_
        rotate_left
        · intro w hSw
          (try dsimp only at hSw)
          go_simp
          (try with_reducible rfl)
        (try simp only [Act.put])
        refine wpAnyH_take (i := 5) (oi := _) (v := ?_) rfl (by kernel_rfl) (by kernel_rfl) (by kernel_rfl) (fun _ _ _ h => h) (Or.inl ⟨by rfl, ?_⟩) (by assumption) ?_
        rotate_left
        · intro w hSw
          (try dsimp only at hSw)
          go_simp
          (try with_reducible rfl)
        (try simp only [Act.put])
        refine wpAnyH_take (i := 7) (oi := _) (v := ?_) rfl (by kernel_rfl) (by kernel_rfl) (by kernel_rfl) (fun _ _ _ h => h) (Or.inl ⟨by rfl, ?_⟩) (by assumption) ?_
        rotate_left
        · intro w hSw
          (try dsimp only at hSw)
          go_simp
          (try with_reducible rfl)
        (try simp only [Act.put])
        refine wpAnyH_take (i := 8) (oi := _) (v := ?_) rfl (by kernel_rfl) (by kernel_rfl) (by kernel_rfl) (fun _ _ _ h => h) (Or.inl ⟨by rfl, ?_⟩) (by assumption) ?_
        rotate_left
        · intro w hSw
          (try dsimp only at hSw)
          go_simp
          (try with_reducible rfl)
        (try simp only [Act.put])
        refine wpAnyH_take (i := 9) (oi := _) (v := ?_) rfl (by kernel_rfl) (by kernel_rfl) (by kernel_rfl) (fun _ _ _ h => h) (Or.inl ⟨by rfl, ?_⟩) (by assumption) ?_
        rotate_left
        · intro w hSw
          (try dsimp only at hSw)
          go_simp
          (try with_reducible rfl)
        (try simp only [Act.put])
        refine wpAnyH_take (i := 10) (oi := _) (v := ?_) rfl (by kernel_rfl) (by kernel_rfl) (by kernel_rfl) (fun _ _ _ h => h) (Or.inl ⟨by rfl, ?_⟩) (by assumption) ?_
        rotate_left
        · intro w hSw
          (try dsimp only at hSw)
          go_simp
          (try with_reducible rfl)
        (try simp only [Act.put])
        refine wpAnyH_ready (rs := [1]) (by kernel_rfl) (by simp) ?_
        refine AllReadyH.cons (o := _) rfl (fun K hK => ?_) AllReadyH.nil
        go_simp
        have hb2 : Below w.heap.size w (wr.alloc (.cells #[] 2)).drew := (HB.out.alloc hbz _).drew
        have HB2 := Sb.hide hb2
        clear hb2
        refine hK.out _ _ (HX.out _ HB2.out) (fun hHeld => ?_)
        clear hK K
        have HO : Hid ((wr.alloc (.cells #[] 2)).drew.ownsRow wr.heap.size 2 1 (.slice (some ⟨wr.heap.size, 0, none⟩) 0 0) 0 []) := ⟨rfl, .inr ⟨wr.heap.size, 0, #[], rfl, Nat.le_refl _, heap_alloc_new wr _, Nat.le_refl _, Nat.zero_le _, rfl, rfl⟩⟩
        have hzA : (wr.alloc (.cells #[] 2)).drew.heap.size = wr.heap.size + 1 := by show (wr.alloc (.cells #[] 2)).heap.size = _; simp
        have HWA : Hid (Below wr.heap.size wr (wr.alloc (.cells #[] 2)).drew) := ((Below.refl _ wr).alloc (Nat.le_refl _) _).drew
        generalize (wr.alloc (.cells #[] 2)).drew = WA at *
        refine wpAnyH_ready (rs := [6]) (by kernel_rfl) (by simp) ?_
        refine AllReadyH.cons (o := _) rfl (fun K hK => ?_) AllReadyH.nil
        refine step_append_src rfl (.tmp 31) (.tmp 35) 38 rfl wr.heap.size 2 i0 (.int .i64 0) 1 8 Try.underlying38 hi hz0 hz1 hz2 rfl (by decide) (.slice (some ⟨wr.heap.size, 0, none⟩) 0 0) 0 [] rfl HO.out (fa k) nf (fc k) (ints f) rfl HN1.out HLF.out (HNF.out _ HB2.out) (ints_one f) (by unfold maxLen; omega) (by omega) (by omega) ?_
        intro v2 w2 hown2 hg2
        have H2 : Hid (w2.ownsRow wr.heap.size 2 1 v2 (0 + nf) ([] ++ ints f)) := hown2
        have HW2 : Hid (Below wr.heap.size wr w2) := HWA.out.grown hg2 (by omega) (fun b hb => (HO.out.lt b hb).1)
        have HB3 : Hid (Below w.heap.size w w2) := HB.out.trans (HW2.out.mono hbz)
        clear hown2 hg2
        refine hK.out _ _ (HX.out _ HB3.out) (fun hHeld => ?_)
        clear hK K
        simp only [Act.put]
        refine wpAnyH_ready (rs := [11]) (by kernel_rfl) (by simp) ?_
        refine AllReadyH.cons (o := _) rfl (fun K hK => ?_) AllReadyH.nil
        refine step_append_src rfl (.tmp 36) (.tmp 40) 38 rfl wr.heap.size 2 i0 (.int .i64 0) 1 8 Try.underlying38 hi hz0 hz1 hz2 rfl (by decide) v2 (0 + nf) ([] ++ ints f) rfl H2.out (ga k) ng (gc k) (ints g) rfl HN2.out HLG.out (HNG.out _ HB3.out) (ints_one g) (by unfold maxLen; omega) (by omega) HW2.out.size ?_
        intro v3 w3 hown3 hg3
        obtain ⟨a3, c3, rfl⟩ := own_slice hown3
        have H3 : Hid (w3.ownsRow wr.heap.size 2 1 (.slice a3 (nf + ng) c3) (f.length + g.length) (ints f ++ ints g)) := by
          have := hown3
          unfold Hid
          rw [← HEF.out, ← HEG.out]
          simpa using this
        have HW3 : Hid (Below wr.heap.size wr w3) := HW2.out.grown hg3 HW2.out.size (fun b hb => (H2.out.lt b hb).1)
        have HB4 : Hid (Below w.heap.size w w3) := HB.out.trans (HW3.out.mono hbz)
        clear hown3 hg3
        refine hK.out _ _ (HX.out _ HB4.out) (fun hHeld => ?_)
        clear hK K
        simp only [Act.put]
        refine wpAnyH_ready (rs := [12]) (by kernel_rfl) (by simp) ?_
        refine AllReadyH.cons (o := _) rfl (fun K hK => ?_) AllReadyH.nil
        go_simp
        have HB5 : Hid (Below w.heap.size w (w3.alloc (.cells #[.slice a3 (nf + ng) c3] 38))) := HB4.out.alloc HB4.out.size _
        refine hK.out _ _ (HX.out _ HB5.out) (fun hHeld => ?_)
        clear hK K
        refine wpAnyH_ready (rs := [13]) (by kernel_rfl) (by simp) ?_
        refine AllReadyH.cons (o := _) rfl (fun K hK => ?_) AllReadyH.nil
        have HRW : Hid ((w3.alloc (.cells #[.slice a3 (nf + ng) c3] 38)).ownsRow w.heap.size 38 1 u11 k (svs av k)) := World.ownsRow.alloc (own_keep HA.out.row (fun b hb => HW3.out.block b (HA.out.row.lt b hb).2)) _
        refine step_append_where rfl (.tmp 30) (.tmp 42) 26 rfl w.heap.size 38 i1 (.slice none 0 0) 1 24 Try.underlying26 hi1 hy0 hy1 hy2 rfl (by decide) u11 k (svs av k) rfl HRW.out ⟨w3.heap.size, 0, none⟩ 1 1 [.slice a3 (nf + ng) c3] rfl rfl (news1 w3 _ _) (ones1 rfl) (by decide) (by unfold maxLen; omega) (by omega) (by have := HB5.out.size; exact this) ?_
        intro g5 cap5 w5 hown5 hg5 _
        obtain ⟨hA5, hWA⟩ := HA.out.more hbz HF.out HGG.out HW3.out H3.out hown5 hg5
        have HA5 := Sb.hide hA5
        have HB6 : Hid (Below w.heap.size w w5) := HB5.out.grown hg5 HB5.out.size (fun b hb => (HA.out.row.lt b hb).1)
        have HM5 : Hid (w5.heap[w.heap.size]? = some (mdB m ab au cb cu)) := by
          have hml := lt_of_block HM.out
          refine (hg5.block _ (by have := hWA.size; omega) (fun e => ?_)).trans ((hWA.block _ hml).trans HM.out)
          obtain ⟨cur, hc⟩ := own_ty HA.out.row e.symm
          rw [HM.out] at hc
          simp at hc
        clear hown5 hg5 hA5 hWA
        refine hK.out _ _ (HX.out _ HB6.out) (fun hHeld => ?_)
        clear hK K
        simp only [Act.put]
        refine wpAnyH_ready (rs := [14]) (by kernel_rfl) (by simp) ?_
        refine AllReadyH.cons (o := _) rfl (fun K hK => ?_) AllReadyH.nil
        go_simp
        refine hK.out _ _ (HX.out _ HB6.out) (fun hHeld => ?_)
        clear hK K
        refine wpAnyH_done (by kernel_rfl) ?_ _
        go_wp2
        go_roundw
        case rel => exact ⟨k + 1, by go_num, by have := HFN.out; omega, ⟨_, HA5.out⟩, HB6.out, HM5.out⟩
        case measure => simp [intOf]; omega
      · have ek : k = fs.length := by omega
        subst ek
        obtain ⟨va, vc, hva⟩ := own_slice HA.out.row
        subst hva
        obtain ⟨la, lc, hfd2, hal⟩ := HA.out.feeds HGN.out hfn hff.out hgf.out
        have HFD2 := Sb.hide hfd2
        have HAL := Sb.hide hal
        clear hfd2 hal
        have c1 := md_cells HM.out
        go_wp2_with fail
        refine (solo_some m ab au cb cu w.heap.size fs a cap fa fc _ (Sb.hide (HMD.out _ HB.out).1) (Sb.hide (HMD.out _ HB.out).2) HB.out.size task most _ (Sb.hide rfl)).mono ?_
        rintro e w2 ⟨s, q, tr, st, oa, on, oc, sa, sn, sc, ta, tn, tc, rfl, hb2, hk2⟩
        obtain ⟨E1, hE1⟩ : ∃ E, E = soloE m task most fs := ⟨_, rfl⟩
        rw [← hE1] at hk2 ⊢
        have HE1 := Sb.hide hE1
        have HK2 := Sb.hide hk2
        have HB2 := Sb.hide (HB.out.trans (hb2.mono HB.out.size))
        have HM2 := Sb.hide ((hb2.block _ (lt_of_block HM.out)).trans HM.out)
        have HR2 := Sb.hide hb2
        clear hE1 hk2 hb2 c1
        have c2 := md_cells HM2.out
        have hz2 := lt_of_block HM2.out
        go_wp2_with fail
        have HA3 : Hid ((w2.alloc (repO s q tr (.slice oa on oc) (.slice sa sn sc) (.slice ta tn tc) st)).heap[w2.heap.size]? = some (repO s q tr (.slice oa on oc) (.slice sa sn sc) (.slice ta tn tc) st)) := heap_alloc_new w2 _
        have HBA : Hid (Below w.heap.size w (w2.alloc (repO s q tr (.slice oa on oc) (.slice sa sn sc) (.slice ta tn tc) st))) := HB2.out.alloc HB2.out.size _
        have H2A : Hid (Below w2.heap.size w2 (w2.alloc (repO s q tr (.slice oa on oc) (.slice sa sn sc) (.slice ta tn tc) st))) := (Below.refl _ w2).alloc (Nat.le_refl _) _
        have HWR : Hid (Below wr.heap.size wr (w2.alloc (repO s q tr (.slice oa on oc) (.slice sa sn sc) (.slice ta tn tc) st))) := HR2.out.alloc HR2.out.size _
        generalize w2.alloc (repO s q tr (.slice oa on oc) (.slice sa sn sc) (.slice ta tn tc) st) = W2 at *
        have hsol := solo_some m ab au cb cu wr.heap.size (alls fs gs) va vc la lc W2 (Sb.hide ((HMD.out _ HBA.out).1.mono HB.out.size)) (Sb.hide (HFD2.out.low HWR.out.block)) HWR.out.size task most (soloE m task most (alls fs gs)) (Sb.hide rfl)
        rw [HAL.out] at hsol
        refine hsol.mono ?_
        clear hsol
        rintro e w3 ⟨s', q', tr', st', oa', on', oc', sa', sn', sc', ta', tn', tc', rfl, hb3, hk3⟩
        obtain ⟨E2, hE2⟩ : ∃ E, E = soloE m task most (alls fs gs) := ⟨_, rfl⟩
        rw [← hE2] at hk3 ⊢
        have HE2 := Sb.hide hE2
        have HK3 := Sb.hide hk3
        have HB3 := Sb.hide (HBA.out.trans (hb3.mono HBA.out.size))
        have H23 := Sb.hide (H2A.out.trans (hb3.mono H2A.out.size))
        have HA3' := Sb.hide ((hb3.block _ (lt_of_block HA3.out)).trans HA3.out)
        have HB4 : Hid (Below w.heap.size w (w3.alloc (repO s' q' tr' (.slice oa' on' oc') (.slice sa' sn' sc') (.slice ta' tn' tc') st'))) := HB3.out.alloc HB3.out.size _
        have H24 : Hid (Below w2.heap.size w2 (w3.alloc (repO s' q' tr' (.slice oa' on' oc') (.slice sa' sn' sc') (.slice ta' tn' tc') st'))) := H23.out.alloc H23.out.size _
        have H34 : Hid (Below w3.heap.size w3 (w3.alloc (repO s' q' tr' (.slice oa' on' oc') (.slice sa' sn' sc') (.slice ta' tn' tc') st'))) := (Below.refl _ w3).alloc (Nat.le_refl _) _
        have HA4 : Hid ((w3.alloc (repO s' q' tr' (.slice oa' on' oc') (.slice sa' sn' sc') (.slice ta' tn' tc') st')).heap[w2.heap.size]? = some (repO s q tr (.slice oa on oc) (.slice sa sn sc) (.slice ta tn tc) st)) := (Below.heap_alloc _ _ _ (lt_of_block HA3'.out)).trans HA3'.out
        have HC4 : Hid ((w3.alloc (repO s' q' tr' (.slice oa' on' oc') (.slice sa' sn' sc') (.slice ta' tn' tc') st')).heap[w3.heap.size]? = some (repO s' q' tr' (.slice oa' on' oc') (.slice sa' sn' sc') (.slice ta' tn' tc') st')) := heap_alloc_new w3 _
        clear hE2 hk3 hb3 c2 HM2 hz2
        by_cases h1 : E1 = 0
        · by_cases h2 : E2 = 0
          · have HO1 : Hid (SoOk (w3.alloc (repO s' q' tr' (.slice oa' on' oc') (.slice sa' sn' sc') (.slice ta' tn' tc') st')) m task most fs s q tr st (.slice oa on oc) (.slice sa sn sc) (.slice ta tn tc)) := (HK2.out h1).below H24.out
            have HO2 : Hid (SoOk (w3.alloc (repO s' q' tr' (.slice oa' on' oc') (.slice sa' sn' sc') (.slice ta' tn' tc') st')) m task most (alls fs gs) s' q' tr' st' (.slice oa' on' oc') (.slice sa' sn' sc') (.slice ta' tn' tc')) := (HK3.out h2).below H34.out
            have HF1 := Sb.hide (HO1.out.few (HE1.out.symm.trans h1))
            have HF2 := Sb.hide (HO2.out.few (HE2.out.symm.trans h2))
            have e1 : (E1 != 0) = false := by simpa using h1
            have e2 : (E2 != 0) = false := by simpa using h2
            have HFU : Hid ((soloR m task most fs).1 ≤ (soloR m task most (alls fs gs)).1 ∧ Later (soloR m task most fs).2.1 (soloR m task most fs).2.2 (soloR m task most (alls fs gs)).2.1 (soloR m task most (alls fs gs)).2.2) := go_fed m most.toNat (newTk (unit m (soloU m task)) (soloU m task)) (soloX fs) (soloX (alls fs gs)) (fed_alls HGN.out) (by show (0 : Nat) ≠ 1; decide)
            obtain ⟨R1, hR1⟩ : ∃ R, R = soloR m task most fs := ⟨_, rfl⟩
            obtain ⟨R2, hR2⟩ : ∃ R, R = soloR m task most (alls fs gs) := ⟨_, rfl⟩
            have HD1 : Hid (RpRd (w3.alloc (repO s' q' tr' (.slice oa' on' oc') (.slice sa' sn' sc') (.slice ta' tn' tc') st')) R1.2.1 R1.2.2 (.slice oa on oc) (.slice sa sn sc) (.slice ta tn tc)) := by rw [hR1]; exact HO1.out.rd
            have HD2 : Hid (RpRd (w3.alloc (repO s' q' tr' (.slice oa' on' oc') (.slice sa' sn' sc') (.slice ta' tn' tc') st')) R2.2.1 R2.2.2 (.slice oa' on' oc') (.slice sa' sn' sc') (.slice ta' tn' tc')) := by rw [hR2]; exact HO2.out.rd
            have S1 : Hid ((s, q) = stat lsX m R1.2.1 R1.2.2 ∧ tr = R1.2.1.trap ∧ st = R1.1) := by rw [hR1]; exact ⟨HO1.out.stat, HO1.out.trap, HO1.out.steps⟩
            have S2 : Hid ((s', q') = stat lsX m R2.2.1 R2.2.2 ∧ tr' = R2.2.1.trap ∧ st' = R2.1) := by rw [hR2]; exact ⟨HO2.out.stat, HO2.out.trap, HO2.out.steps⟩
            rw [← hR1] at HF1
            rw [← hR2] at HF2
            rw [← hR1, ← hR2] at HFU
            obtain ⟨ra0, ra1, ra2, ra3, ra4, ra5, ra6⟩ := (rep_cells HA4.out).1
            obtain ⟨rc0, rc1, rc2, rc3, rc4, rc5, rc6⟩ := (rep_cells HC4.out).1
            clear h1 h2 hR1 hR2
            · have hss : decide ((st' : Int) < (st : Int)) = false := by have := HFU.out.1; have := S1.out.2.2; have := S2.out.2.2; simp; omega
              have hss2 : ¬ st' < st := by have := HFU.out.1; have := S1.out.2.2; have := S2.out.2.2; omega
              go_wp2_with fail
              generalize w3.alloc (repO s' q' tr' (.slice oa' on' oc') (.slice sa' sn' sc') (.slice ta' tn' tc') st') = W4 at *
              refine (begins_any _ _ R1.2.1.out R2.2.1.out W4 (Sb.hide HD1.out.out) (Sb.hide HD2.out.out) (by have := HF2.out.1; omega) (Sb.hide HFU.out.2.out)).mono ?_
              rintro e w5 ⟨rfl, d5, rfl⟩
              have HB5 : Hid (Below w.heap.size w (W4.drewN d5)) := below_drewN HB4.out d5
              obtain ⟨sa1, sc1, e3, hr1⟩ := HD1.out.sent.at
              obtain ⟨sa2, sc2, e4, hr2⟩ := HD2.out.sent.at
              simp at e3 e4
              obtain ⟨rfl, hsn, rfl⟩ := e3
              obtain ⟨rfl, hsn', rfl⟩ := e4
              have HR1 := Sb.hide hr1
              have HR2 := Sb.hide hr2
              have HSN := Sb.hide hsn
              have HSN' : Hid (sn = sn') := by unfold Hid; rw [hsn, hsn']; exact HFU.out.2.len
              have ess : ((sn : Int) != (sn' : Int)) = false := by have := HSN'.out; simp; omega
              have hsn30 : sn ≤ 30 := by have := HF1.out.2.1; omega
              clear hr1 hr2 hsn hsn'
              go_wp2
              go_loopw [92] (fun i wr => ∃ k : Nat, k ≤ sn ∧ i = .int .i64 k ∧ Below W4.heap.size W4 wr) (fun i _ => sn - (intOf i).toNat)
              case atStart => exact ⟨0, Nat.zero_le _, rfl, below_drewN (.refl _ _) _⟩
              case round =>
                obtain ⟨k, hk, rfl, hbr⟩ := hrel
                have HBR := Sb.hide hbr
                clear hbr
                by_cases hlt : k < sn
                · obtain ⟨y, hy⟩ : ∃ y, R1.2.2[k]? = some y := ⟨_, List.getElem?_eq_getElem (by have := HSN.out; omega)⟩
                  obtain ⟨y', hy'⟩ : ∃ y, R2.2.2[k]? = some y := ⟨_, List.getElem?_eq_getElem (by have := HSN.out; have := HFU.out.2.len; omega)⟩
                  obtain ⟨b1, o1, u1, rfl, hz1, x1, q1⟩ := HR1.out k y hy
                  obtain ⟨b2, o2, u2, rfl, hz2, x2, q2⟩ := HR2.out k y' hy'
                  have HPF : Hid (y.sent <+: y'.sent) := HFU.out.2.sent k y y' hy hy'
                  have hyl : y'.sent.length ≤ 9223372036854775806 := by have := HF2.out.2.2.1 y' (List.mem_of_getElem? hy'); omega
                  have HQ : Hid (∀ W, Below W4.heap.size W4 W → RI W u1 y.sent ∧ RI W u2 y'.sent) := fun W hW => ⟨q1.below hW, q2.below hW⟩
                  have HX : Hid (∀ W, Below W4.heap.size W4 W → (W.cell? ⟨b1, o1 + k, none⟩ = some u1 ∧ W.cell? ⟨b2, o2 + k, none⟩ = some u2) ∧ (W.cell? ⟨w2.heap.size, 4, none⟩ = some (.slice (some ⟨b1, o1, none⟩) sn sc) ∧ W.cell? ⟨w3.heap.size, 4, none⟩ = some (.slice (some ⟨b2, o2, none⟩) sn' sc'))) := fun W hW => ⟨⟨(cell_eq (hW.block b1 hz1) _).trans x1, (cell_eq (hW.block b2 hz2) _).trans x2⟩, (cell_eq (hW.block _ (lt_of_block HA4.out)) _).trans (rep_cells HA4.out).1.2.2.2.2.1, (cell_eq (hW.block _ (lt_of_block HC4.out)) _).trans (rep_cells HC4.out).1.2.2.2.2.1⟩
                  obtain ⟨⟨y1, y2⟩, y3, y4⟩ := HX.out _ HBR.out
                  have i0 : (0 : Int) ≤ (k : Int) := by omega
                  have i1 : (k : Int) < (sn : Int) := by omega
                  have i2 : (k : Int) < (sn' : Int) := by have := HSN'.out; omega
                  clear hy hy' q1 q2 x1 x2 ra0 ra1 ra2 ra3 ra4 ra5 ra6 rc0 rc1 rc2 rc3 rc4 rc5 rc6
                  go_wp2
                  go_region_held3 (fun w' => (w'.cell? ⟨b1, o1 + k, none⟩ = some u1 ∧ w'.cell? ⟨b2, o2 + k, none⟩ = some u2) ∧ (w'.cell? ⟨w2.heap.size, 4, none⟩ = some (.slice (some ⟨b1, o1, none⟩) sn sc) ∧ w'.cell? ⟨w3.heap.size, 4, none⟩ = some (.slice (some ⟨b2, o2, none⟩) sn' sc'))) (go_keep) ((go_at_call 8; refine (begins_any u1 u2 y.sent y'.sent _ (Sb.hide (HQ.out _ HBR.out.drew).1) (Sb.hide (HQ.out _ HBR.out.drew).2) hyl HPF).mono ?_; rintro e w' ⟨rfl, d2, rfl⟩; have HX2 := HX.out _ (below_drewN HBR.out.drew d2); obtain ⟨⟨y1, y2⟩, y3, y4⟩ := HX2))
                  go_wp2
                  go_roundw
                  case rel => exact ⟨k + 1, by omega, by go_num, below_drewN HBR.out _⟩
                  case measure => simp [intOf]; omega
                · go_wp2
                  go_ret
                  exact ⟨rfl, HB4.out.trans (HBR.out.mono HB4.out.size)⟩
          · have e1 : (E1 != 0) = false := by simpa using h1
            have e2 : (E2 != 0) = true := by simpa using h2
            clear h1 h2
            go_wp2
            go_ret
            exact ⟨rfl, HB4.out⟩
        · have e1 : (E1 != 0) = true := by simpa using h1
          clear h1
          go_wp2
          go_ret
          exact ⟨rfl, HB4.out⟩
  · have eg : ((gs.length : Int) != (fs.length : Int)) = true := by simp; omega
    go_wp2
    go_ret
    exact ⟨rfl, HB1.out⟩
end Go.Proofs.Ytnfbfdajdflfgaa.Vw


/- The walk of AsmJoined. -/
import Derived.Test.YtlicfdligldhdaaDoorM25
import Derived.Test.YtlicfdligldhdaaDoorM27
import Derived.Test.YtlicfdligldhdaaDoorM14
import Derived.Maps.RangeWalk
namespace Go.Proofs.YtlicfdligldhdaaDoor.Aw
open Go.RowKit As

theorem text_ge : ∀ ls : List By, ls.length ≤ (text ls).length
  | [] => Nat.le_refl _
  | l :: ls => by
    have := text_ge ls
    show ls.length + 1 ≤ ((l ++ [10]) ++ text ls).length
    simp
    omega
theorem lines_ge : ∀ us : List Vf.Un, us.length ≤ (us.flatMap linesU).length
  | [] => Nat.le_refl _
  | u :: us => by
    have := lines_ge us
    show us.length + 1 ≤ (linesU u ++ us.flatMap linesU).length
    simp [linesU] at this ⊢
    omega
theorem units_few {s : By} {m : Vf.Md} (h : readA s = ((0, 0), m)) : m.units.length ≤ 60000 := by
  obtain ⟨h1, _, _⟩ := turns_back h
  obtain ⟨_, h2, h3⟩ := print_ok h1
  have h4 := text_ge (lines m)
  have h5 := lines_ge m.units
  rw [← h2] at h4
  unfold lines at h4
  rw [List.length_append] at h4
  omega
theorem bs_app (s t : By) : (⟨s.toArray⟩ : ByteArray) ++ ⟨t.toArray⟩ = ⟨(s ++ t).toArray⟩ := by
  have : ((⟨s.toArray⟩ : ByteArray) ++ ⟨t.toArray⟩).data = (s ++ t).toArray := by
    rw [ByteArray.data_append]
    simp
  cases h : (⟨s.toArray⟩ : ByteArray) ++ ⟨t.toArray⟩ with
  | mk d =>
    rw [h] at this
    exact congrArg ByteArray.mk this
theorem read_nz {s : By} {e k : Nat} {m : Vf.Md} (h : readA s = ((e, k), m)) (h0 : e = 0) : readA s = ((0, 0), m) := by
  subst h0
  have hk : k = 0 := by
    unfold readA at h
    split at h
    · cases h
    · split at h
      · split at h
        · cases h; rfl
        · cases h
      · cases h
  rw [h, hk]

theorem fault_cellJ {w : World} {k : Nat} {x y : Value} (h : w.heap[k]? = some (.cells #[x, y] 33 (0, 0))) : w.cell? ⟨k, 0, none⟩ = some x := by
  simp [World.cell?, h]

section
variable {P : Program} {w : World}
theorem run_append_nothing (base : Nat) (t ty e : TypeId) (i : TypeInfo) (size : Nat) (ht : P.underlying t = some (.slice e)) (hi : P.info? e = some i) (v : Value) (n : Nat) (xs : List Value) (hown : w.ownsRow base e size v n xs) (c : Nat) :
    (Builtin.append_ #[t, t] ty #[v, .slice none 0 c]).run P w = .ok v w := by
  rcases hown.2 with ⟨rfl, rfl⟩ | ⟨g, cap, cur, rfl, _, _, hnc, _⟩
  · simp [Builtin.append_, run_underlying ht, sizeOf, typeInfo, hi, Builtin.lenOf, Builtin.firstCells]
  · simp [Builtin.append_, run_underlying ht, sizeOf, typeInfo, hi, Builtin.lenOf, Builtin.firstCells, hnc, storeCells]
/-- Appended, where its guard says yes: what may be nothing; as a step of a region that draws its order. -/
theorem step_append_srcG {ops : Array Oper} {o : Oper} {a : Act} {K : Act → World → Prop} {Q : Exit → Act → World → Prop} {F : Prop} (hw : Region.wanted o (yielded ops a.tmps) = true) (s x : Operand) (t : TypeId)
    (ho : o.op = .call { callee := .builtin .append, args := #[s, x], argTypes := #[t, t] })
    (base : Nat) (e : TypeId) (i : TypeInfo) (z : Value) (size bytes : Nat) (ht : P.underlying t = some (.slice e)) (hi : P.info? e = some i) (hz : i.zero = some z)
    (hsize : i.size = size) (hby : i.bytes = bytes) (hzs : z.cells.size = size) (hsz : 0 < size)
    (v : Value) (n : Nat) (xs : List Value) (hs : a.eval s = v) (hown : w.ownsRow base e size v n xs)
    (ao : Option Addr) (m c : Nat) (news : List Value) (hx : a.eval x = .slice ao m c) (hno : ao = none → m = 0) (hl : news.length = m * size) (hnews : ∀ ad, ao = some ad → ∀ j u, news[j]? = some u → w.cell? (ad.add j) = some u) (h1 : ∀ u ∈ news, u.oneCell' = true)
    (h63 : n + m ≤ maxLen) (hbytes : (n + m) * bytes ≤ 140737488355328) (hbase : base ≤ w.heap.size)
    (h : ∀ v' w', w'.ownsRow base e size v' (n + m) (xs ++ news) → w.grownBy w' v.ownBlock → K (a.put o.dst v') w') :
    if Region.wanted o (yielded ops a.tmps) = true then Oper.wp P o a w K Q else F := by
  rw [if_pos hw]
  cases ao with
  | none =>
    obtain rfl := hno rfl
    obtain rfl : news = [] := List.eq_nil_of_length_eq_zero (by simpa using hl)
    have hrun := run_append_nothing (P := P) (w := w) base t o.type e i size ht hi v n xs hown c
    unfold Oper.wp
    simp [execOp, ho, resolve, invoke, builtin, hs, hx, hrun, Result.andThen]
    exact h v w (by simpa using hown) (World.grownBy.refl _ _)
  | some ad => exact wp_append_own w s x t ho base e i z size bytes ht hi hz hsize hby hzs hsz v n xs hs hown ad m c news hx hl (hnews ad rfl) h1 h63 hbytes hbase (fun v' w' h2 h3 _ => h v' w' h2 h3)
end
/-- Units of a module, as an append reads them. -/
theorem units_src {B : Nat} {w : World} {us : List Vf.Un} {au : Option Addr} (h : UnitsIn B w us au) : ∃ l : List UV, l.map (·.u) = us ∧ (∀ (i : Nat) x, l[i]? = some x → UnIn B w x.u x.al x.ac x.cl x.cc) ∧ (∀ ad, au = some ad → ad.block < B ∨ us = []) ∧ (au = none → us = []) ∧ ∀ ad, au = some ad → ∀ (j : Nat) v, (uvs l)[j]? = some v → w.cell? (ad.add j) = some v := by
  cases hus : us with
  | nil => exact ⟨[], rfl, fun i x hx => (by simp at hx), fun _ _ => .inr rfl, fun _ => rfl, fun _ _ j v hv => (by simp [uvs] at hv)⟩
  | cons u r =>
    rw [hus] at h
    obtain ⟨b, off, _, _, _, _, rfl, hb, _⟩ := h 0 u rfl
    obtain ⟨l, h1, h2, h3⟩ := uvs_of h
    refine ⟨l, h1, h2, fun ad e => ?_, fun e => (by cases e), fun ad e => ?_⟩
    · cases e; exact .inl hb
    · cases e; exact h3

theorem len_bs (a : ByteArray) : a.data.toList.length = a.size := Array.length_toList
theorem add_block (ad : Addr) (j : Nat) : (ad.add j).block = ad.block := by
  unfold Addr.add
  split <;> rfl
/-- What lies there behind both appends. -/
theorem joined_mod {W W' : World} {bs : List Vf.Bx} {us : List Vf.Un} {ab : Option Addr} {l : List UV} {v : Value} (hb : Below W.heap.size W W') (hbx : BoxesIn W.heap.size W bs ab) (hlen : bs.length ≤ 9223372036854775807) (hl : l.map (·.u) = us) (hu : ∀ (i : Nat) x, l[i]? = some x → UnIn W.heap.size W x.u x.al x.ac x.cl x.cc)
    (ho : W'.ownsRow W.heap.size 43 6 v l.length (uvs l)) (hfew : l.length ≤ 120000) : ∃ g cap, v = .slice g us.length cap ∧ ModIn W'.heap.size W' ⟨bs, us⟩ ab g := by
  have hn : us.length = l.length := by rw [← hl, List.length_map]
  have hbx' : BoxesIn W'.heap.size W' bs ab := fun i x hx => by
    obtain ⟨h1, h2, b, off, e, hs, c0, c1⟩ := hbx.low hb.block i x hx
    exact ⟨h1, h2, b, off, e, Nat.lt_of_lt_of_le hs hb.size, c0, c1⟩
  have hu' : ∀ (i : Nat) x, l[i]? = some x → UnIn W'.heap.size W' x.u x.al x.ac x.cl x.cc := fun i x hx => un_on (hu i x hx) hb
  have hlen' : bs.length ≤ 9223372036854775807 ∧ us.length ≤ 9223372036854775807 := ⟨hlen, by omega⟩
  by_cases h0 : 0 < l.length
  · obtain ⟨g, cap, rfl, _, _, _, hU⟩ := us_own ho h0 hu'
    refine ⟨some ⟨g, 0, none⟩, cap, by rw [hn], hlen', hbx', ?_⟩
    rw [← hl]
    exact hU.units (Nat.le_refl _)
  · have e0 : us = [] := List.eq_nil_of_length_eq_zero (by omega)
    have hl0 : l.length = 0 := by omega
    subst e0
    rcases ho.2 with ⟨rfl, _⟩ | ⟨g, cap, cur, rfl, _⟩
    · exact ⟨none, 0, rfl, hlen', hbx', fun i x hx => by simp at hx⟩
    · exact ⟨some ⟨g, 0, none⟩, cap, by rw [hl0]; rfl, hlen', hbx', fun i x hx => by simp at hx⟩

set_option maxHeartbeats 2000000 in
set_option maxRecDepth 100000 in
theorem joined_any (B : Nat) (s t : By) (w : World) (hB : Hid (B ≤ w.heap.size)) (hg : Hid (GV B w)) (hs : s.length ≤ 140737488355328) (ht : t.length ≤ 140737488355328) :
    Calls Tryd.prog 4 #[sv s, sv t] w fun e w' => e = .returned (.bool true) ∧ Below w.heap.size w w' := by
  have HLOW : Hid (∀ (W : World), Below w.heap.size w W → B ≤ W.heap.size ∧ GV B W) := fun W h => ⟨Nat.le_trans hB.out h.size, hg.out.below h hB.out⟩
  obtain ⟨⟨⟨ea, la⟩, a⟩, hra⟩ : ∃ r, r = readA s := ⟨_, rfl⟩
  obtain ⟨⟨⟨eb, lb⟩, b⟩, hrb⟩ : ∃ r, r = readA t := ⟨_, rfl⟩
  have HRA := hide hra
  have HRB := hide hrb
  clear hra hrb
  go_enter Tryd.func4, Tryd.ntmps4
  go_wp2_with fail
  refine (alive_any B w hB hg).mono ?_
  rintro e w1 ⟨rfl, hb1⟩
  have HB1 := hide hb1
  clear hb1
  have hrd := read_any B s w1 (hide (HLOW.out _ HB1.out).1) (hide (HLOW.out _ HB1.out).2)
  unfold ReadV at hrd
  rw [← HRA.out] at hrd
  have HRD := hide hrd
  clear hrd
  go_wp2_with fail
  refine HRD.out.mono ?_
  rintro e w2 ⟨ab, cab, au, cau, rfl, hMa, hb2⟩
  have HB2 := hide (below_on HB1.out hb2)
  have HMa := hide hMa
  clear hb2 hMa HRD HB1
  obtain ⟨W2, hW2⟩ : ∃ W2, W2 = (w2.alloc (mdO a ab au cab cau)).alloc (.cells #[.int .i64 ea, .int .i64 la] 33) := ⟨_, rfl⟩
  have hbW2 : Below w2.heap.size w2 W2 := by rw [hW2]; exact two_below _ _ _
  have HA2 : Hid (W2.heap[w2.heap.size]? = some (mdO a ab au cab cau)) := by rw [hW2]; exact two_old _ _ _
  have HF2 : Hid (W2.heap[w2.heap.size + 1]? = some (.cells #[.int .i64 ea, .int .i64 la] 33 (0, 0))) := by rw [hW2]; exact two_new _ _ _
  have HM2 : Hid (ModIn W2.heap.size W2 a ab au) := md_on HMa.out hbW2
  have HB3 := hide (below_on HB2.out hbW2)
  have HW2 := hide hW2.symm
  clear hW2 hbW2 HMa HB2
  have hrd := read_any B t W2 (hide (HLOW.out _ HB3.out).1) (hide (HLOW.out _ HB3.out).2)
  unfold ReadV at hrd
  rw [← HRB.out] at hrd
  have HRD := hide hrd
  clear hrd
  go_wp2_with fail
  rw [HW2.out]
  refine HRD.out.mono ?_
  rintro e w3 ⟨bb, cbb, bu, cbu, rfl, hMb, hb3⟩
  have HA3 := hide ((hb3.block _ (lt_of_block HA2.out)).trans HA2.out)
  have HF3 := hide ((hb3.block _ (lt_of_block HF2.out)).trans HF2.out)
  have HMA3 := hide (md_on HM2.out hb3)
  have HB4 := hide (below_on HB3.out hb3)
  have HMb := hide hMb
  clear hb3 hMb HRD HB3 HW2 HA2 HF2 HM2
  obtain ⟨W3, hW3⟩ : ∃ W3, W3 = (w3.alloc (mdO b bb bu cbb cbu)).alloc (.cells #[.int .i64 eb, .int .i64 lb] 33) := ⟨_, rfl⟩
  have hbW3 : Below w3.heap.size w3 W3 := by rw [hW3]; exact two_below _ _ _
  have hB5 : W3.heap[w3.heap.size]? = some (mdO b bb bu cbb cbu) := by rw [hW3]; exact two_old _ _ _
  have hF5 : W3.heap[w3.heap.size + 1]? = some (.cells #[.int .i64 eb, .int .i64 lb] 33 (0, 0)) := by rw [hW3]; exact two_new _ _ _
  have hA5 := (hbW3.block _ (lt_of_block HA3.out)).trans HA3.out
  have hG5 := (hbW3.block _ (lt_of_block HF3.out)).trans HF3.out
  have HMB5 : Hid (ModIn W3.heap.size W3 b bb bu) := md_on HMb.out hbW3
  have HMA5 := hide (md_on HMA3.out hbW3)
  have HB5 := hide (below_on HB4.out hbW3)
  have HW3 := hide hW3.symm
  clear hW3 hbW3 HMb HB4 HA3 HF3 HMA3
  go_upto_region 5 with fail
  rw [HW3.out]
  clear HW3
  generalize w2.heap.size = NA at *
  generalize w3.heap.size = NB at *
  obtain ⟨a0, a1⟩ := md_cells hA5
  obtain ⟨b0, b1⟩ := md_cells hB5
  have f0 := fault_cellJ hG5
  have g0 := fault_cellJ hF5
  have HA5 := hide hA5
  have HBB5 := hide hB5
  clear hA5 hB5 hG5 hF5
  obtain ⟨bx, bus⟩ := b
  by_cases hea : ea = 0
  · by_cases heb : eb = 0
    · cases bx with
      | nil =>
        by_cases hst : s.length + t.length ≤ 60000
        · have e1 : ((ea : Int) != 0) = false := by simp; omega
          have e2 : ((eb : Int) != 0) = false := by simp; omega
          have e4 : ¬ (60000 : Int) < (s.length : Int) + (t.length : Int) := by omega
          have hsz : ¬ 9223372036854775807 < (⟨s.toArray⟩ : ByteArray).size + (⟨t.toArray⟩ : ByteArray).size := by simp only [size_bs]; omega
          have hJ := joined (read_nz HRA.out.symm hea) (read_nz HRB.out.symm heb) rfl hst
          have hfa := units_few (read_nz HRA.out.symm hea)
          have hfb := units_few (read_nz HRB.out.symm heb)
          have hrd := read_any B (s ++ t) W3 (hide (HLOW.out _ HB5.out).1) (hide (HLOW.out _ HB5.out).2)
          unfold ReadV at hrd
          obtain ⟨cus, hcus⟩ : ∃ cus, cus = a.units ++ bus := ⟨_, rfl⟩
          rw [hJ] at hrd
          simp only at hrd
          rw [← hcus] at hrd
          have HCU := hide hcus
          clear hcus
          have HRD := hide hrd
          have HFA := hide hfa
          have HFB := hide hfb
          have HBS := hide (bs_app s t)
          clear hrd hJ hea heb hst hfa hfb
          go_wp2_with fail
          rw [HBS.out]
          refine HRD.out.mono ?_
          rintro e w4 ⟨nb, cnb, nu, cnu, rfl, hMc, hb4⟩
          have HA6 := hide ((hb4.block _ (lt_of_block HA5.out)).trans HA5.out)
          have HBB6 := hide ((hb4.block _ (lt_of_block HBB5.out)).trans HBB5.out)
          have HMA6 := hide (md_on HMA5.out hb4)
          have HMB6 := hide (md_on HMB5.out hb4)
          have HB6 := hide (below_on HB5.out hb4)
          have HMc := hide hMc
          clear hb4 hMc HRD HBS HA5 HBB5 HMA5 HMB5 HB5 a0 a1 b0 b1 f0 g0 hsz e1 e2 e4
          obtain ⟨W4, hW4⟩ : ∃ W4, W4 = (w4.alloc (mdO ⟨a.boxes, cus⟩ nb nu cnb cnu)).alloc (.cells #[.int .i64 0, .int .i64 0] 33) := ⟨_, rfl⟩
          have hbW4 : Below w4.heap.size w4 W4 := by rw [hW4]; exact two_below _ _ _
          have hC7 : W4.heap[w4.heap.size]? = some (mdO ⟨a.boxes, cus⟩ nb nu cnb cnu) := by rw [hW4]; exact two_old _ _ _
          have hF7 : W4.heap[w4.heap.size + 1]? = some (.cells #[.int .i64 0, .int .i64 0] 33 (0, 0)) := by rw [hW4]; exact two_new _ _ _
          have hA7 := (hbW4.block _ (lt_of_block HA6.out)).trans HA6.out
          have hB7 := (hbW4.block _ (lt_of_block HBB6.out)).trans HBB6.out
          have HMC7 := hide (md_on HMc.out hbW4)
          have HMA7 := hide (md_on HMA6.out hbW4)
          have HMB7 := hide (md_on HMB6.out hbW4)
          have HB7 := hide (below_on HB6.out hbW4)
          have HW4 := hide hW4.symm
          clear hW4 hbW4 HA6 HBB6 HMc HMA6 HMB6 HB6
          go_upto_region 8 with fail
          rw [HW4.out]
          clear HW4
          generalize w4.heap.size = NC at *
          obtain ⟨a0, a1⟩ := md_cells hA7
          obtain ⟨b0, b1⟩ := md_cells hB7
          obtain ⟨c0, c1⟩ := md_cells hC7
          have f0 := fault_cellJ hF7
          have hAl := lt_of_block hA7
          have hBl := lt_of_block hB7
          have hCl := lt_of_block hC7
          have hFl := lt_of_block hF7
          obtain ⟨la', hla, hUa, hpa, hna, hca⟩ := units_src HMA7.out.units
          obtain ⟨lb', hlb, hUb, hpb, hnb, hcb⟩ := units_src (us := bus) HMB7.out.units
          have HUA := hide hUa
          have HUB := hide hUb
          have HPA := hide hpa
          have HPB := hide hpb
          have HNA := hide hna
          have HNB := hide hnb
          have HCA := hide hca
          have HCB := hide hcb
          have HLA := hide hla
          have HLB := hide hlb
          clear hUa hUb hpa hpb hna hnb hca hcb hla hlb hA7 hB7 hC7 hF7
          have HX : Hid (∀ W : World, Below W4.heap.size W4 W → W.cell? ⟨NC + 1, 0, none⟩ = some (.int .i64 0) ∧ W.cell? ⟨NC, 0, none⟩ = some (.slice nb a.boxes.length cnb) ∧ W.cell? ⟨NC, 1, none⟩ = some (.slice nu cus.length cnu) ∧ W.cell? ⟨NA, 0, none⟩ = some (.slice ab a.boxes.length cab) ∧ W.cell? ⟨NA, 1, none⟩ = some (.slice au a.units.length cau) ∧ W.cell? ⟨NB, 1, none⟩ = some (.slice bu bus.length cbu)) := fun W h => ⟨(h.cell (p := ⟨NC + 1, 0, none⟩) hFl).trans f0, (h.cell (p := ⟨NC, 0, none⟩) hCl).trans c0, (h.cell (p := ⟨NC, 1, none⟩) hCl).trans c1, (h.cell (p := ⟨NA, 0, none⟩) hAl).trans a0, (h.cell (p := ⟨NA, 1, none⟩) hAl).trans a1, (h.cell (p := ⟨NB, 1, none⟩) hBl).trans b1⟩
          clear a0 a1 b0 b1 c0 c1 f0 hAl hBl hCl hFl
          have hsx := HX.out W4.drew (Below.drew (Below.refl _ _))
          obtain ⟨nab, hnab⟩ : ∃ n, n = a.boxes.length := ⟨_, rfl⟩
          obtain ⟨nau, hnau⟩ : ∃ n, n = a.units.length := ⟨_, rfl⟩
          obtain ⟨nbu, hnbu⟩ : ∃ n, n = bus.length := ⟨_, rfl⟩
          obtain ⟨nab2, hnab2⟩ : ∃ n, n = cus.length := ⟨_, rfl⟩
          rw [← hnab, ← hnau, ← hnbu, ← hnab2] at hsx HX
          have HNAB := hide hnab
          have HNAU := hide hnau
          have HNBU := hide hnbu
          have HNAB2 := hide hnab2
          clear hnab hnau hnbu hnab2
          refine wp_region_held_drew (S := fun w' => w'.cell? ⟨NC + 1, 0, none⟩ = some (.int .i64 0) ∧ w'.cell? ⟨NC, 0, none⟩ = some (.slice nb nab cnb) ∧ w'.cell? ⟨NC, 1, none⟩ = some (.slice nu nab2 cnu) ∧ w'.cell? ⟨NA, 0, none⟩ = some (.slice ab nab cab) ∧ w'.cell? ⟨NA, 1, none⟩ = some (.slice au nau cau) ∧ w'.cell? ⟨NB, 1, none⟩ = some (.slice bu nbu cbu)) (by kernel_rfl) (by exact hsx) (fun hHeld => ?_)
          refine wpAnyH_take (i := 0) (oi := _) (v := ?_) rfl (by kernel_rfl) (by kernel_rfl) (by kernel_rfl) (fun _ _ _ h => h) (Or.inl ⟨by kernel_rfl, ?_⟩) (by assumption) ?_
          rotate_left
          · intro w hSw
            (try dsimp only at hSw)
            go_simp
            (try with_reducible rfl)
          (try simp only [Act.put])
          (try go_frame)
          refine wpAnyH_take (i := 1) (oi := _) (v := ?_) rfl (by kernel_rfl) (by kernel_rfl) (by kernel_rfl) (fun _ _ _ h => h) (Or.inl ⟨by kernel_rfl, ?_⟩) (by assumption) ?_
          rotate_left
          · intro w hSw
            (try dsimp only at hSw)
            go_simp
            (try with_reducible rfl)
          (try simp only [Act.put])
          (try go_frame)
          refine wpAnyH_take (i := 2) (oi := _) (v := ?_) rfl (by kernel_rfl) (by kernel_rfl) (by kernel_rfl) (fun _ _ _ h => h) (Or.inl ⟨by kernel_rfl, ?_⟩) (by assumption) ?_
          rotate_left
          · intro w hSw
            (try dsimp only at hSw)
            go_simp
            (try with_reducible rfl)
          (try simp only [Act.put])
          (try go_frame)
          refine wpAnyH_take (i := 3) (oi := _) (v := ?_) rfl (by kernel_rfl) (by kernel_rfl) (by kernel_rfl) (fun _ _ _ h => h) (Or.inl ⟨by kernel_rfl, ?_⟩) (by assumption) ?_
          rotate_left
          · intro w hSw
            (try dsimp only at hSw)
            go_simp
            (try with_reducible rfl)
          (try simp only [Act.put])
          (try go_frame)
          refine wpAnyH_take (i := 4) (oi := _) (v := ?_) rfl (by kernel_rfl) (by kernel_rfl) (by kernel_rfl) (fun _ _ _ h => h) (Or.inl ⟨by kernel_rfl, ?_⟩) (by assumption) ?_
          rotate_left
          · intro w hSw
            (try dsimp only at hSw)
            go_simp
            (try with_reducible rfl)
          (try simp only [Act.put])
          (try go_frame)
          refine wpAnyH_take (i := 5) (oi := _) (v := ?_) rfl (by kernel_rfl) (by kernel_rfl) (by kernel_rfl) (fun _ _ _ h => h) (Or.inl ⟨by kernel_rfl, ?_⟩) (by assumption) ?_
          rotate_left
          · intro w hSw
            (try dsimp only at hSw)
            go_simp
            (try with_reducible rfl)
          (try simp only [Act.put])
          (try go_frame)
          refine wpAnyH_take (i := 6) (oi := _) (v := ?_) rfl (by kernel_rfl) (by kernel_rfl) (by kernel_rfl) (fun _ _ _ h => h) (Or.inl ⟨by kernel_rfl, ?_⟩) (by assumption) ?_
          rotate_left
          · intro w hSw
            (try dsimp only at hSw)
            go_simp
            (try with_reducible rfl)
          (try simp only [Act.put])
          (try go_frame)
          refine wpAnyH_take (i := 8) (oi := _) (v := ?_) rfl (by kernel_rfl) (by kernel_rfl) (by kernel_rfl) (fun _ _ _ h => h) (Or.inl ⟨by kernel_rfl, ?_⟩) (by assumption) ?_
          rotate_left
          · intro w hSw
            (try dsimp only at hSw)
            go_simp
            (try with_reducible rfl)
          (try simp only [Act.put])
          (try go_frame)
          refine wpAnyH_take (i := 9) (oi := _) (v := ?_) rfl (by kernel_rfl) (by kernel_rfl) (by kernel_rfl) (fun _ _ _ h => h) (Or.inl ⟨by kernel_rfl, ?_⟩) (by assumption) ?_
          rotate_left
          · intro w hSw
            (try dsimp only at hSw)
            go_simp
            (try with_reducible rfl)
          (try simp only [Act.put])
          (try go_frame)
          refine wpAnyH_take (i := 11) (oi := _) (v := ?_) rfl (by kernel_rfl) (by kernel_rfl) (by kernel_rfl) (fun _ _ _ h => h) (Or.inl ⟨by kernel_rfl, ?_⟩) (by assumption) ?_
          rotate_left
          · intro w hSw
            (try dsimp only at hSw)
            go_simp
            (try with_reducible rfl)
          (try simp only [Act.put])
          (try go_frame)
          refine wpAnyH_take (i := 12) (oi := _) (v := ?_) rfl (by kernel_rfl) (by kernel_rfl) (by kernel_rfl) (fun _ _ _ h => h) (Or.inl ⟨by kernel_rfl, ?_⟩) (by assumption) ?_
          rotate_left
          · intro w hSw
            (try dsimp only at hSw)
            go_simp
            (try with_reducible rfl)
          (try simp only [Act.put])
          (try go_frame)
          refine wpAnyH_ready (rs := [7]) (by kernel_rfl) (by simp) ?_
          refine AllReadyH.cons (o := _) rfl (fun K hK => ?_) AllReadyH.nil
          go_simp
          have HWA : Hid (Below W4.heap.size W4 (W4.alloc (.cells #[] 43)).drew) := ((Below.refl _ W4).alloc (Nat.le_refl _) _).drew
          have HO : Hid ((W4.alloc (.cells #[] 43)).drew.ownsRow W4.heap.size 43 6 (.slice (some ⟨W4.heap.size, 0, none⟩) 0 0) 0 []) := own_empty6 W4 43 (Nat.le_refl _) 6
          refine hK.out _ _ (HX.out _ HWA.out) (fun hHeld => ?_)
          clear hK K
          generalize (W4.alloc (.cells #[] 43)).drew = WA at *
          refine wpAnyH_ready (rs := [10]) (by kernel_rfl) (by simp) ?_
          refine AllReadyH.cons (o := _) rfl (fun K hK => ?_) AllReadyH.nil
          obtain ⟨i0, hi, hz0, hz1, hz2⟩ := info_parts Tryd.infounit
          refine step_append_srcG (by kernel_rfl) (.tmp 59) (.tmp 61) 23 rfl W4.heap.size 43 i0 _ 6 80 Tryd.underlying23 hi hz0 hz1 hz2 rfl (by decide) (.slice (some ⟨W4.heap.size, 0, none⟩) 0 0) 0 [] (by kernel_rfl) HO.out au nau cau (uvs la') (by kernel_rfl) (fun e => by rw [HNAU.out, HNA.out e]; rfl) (by rw [uvs_len, HNAU.out, ← HLA.out, List.length_map]) (fun ad e j u hu => ?_) (uvs_one la') (by unfold maxLen; have := HFA.out; have := HNAU.out; omega) (by have := HFA.out; have := HNAU.out; omega) HWA.out.size ?_
          · rcases HPA.out ad e with hlt | hnil
            · rw [← HCA.out ad e j u hu]
              exact HWA.out.cell (p := ad.add j) (by rw [add_block]; exact hlt)
            · have : la' = [] := by
                have := HLA.out
                rw [hnil] at this
                exact List.map_eq_nil_iff.1 this
              rw [this] at hu
              simp [uvs] at hu
          intro v2 w2' hown2 hg2
          have HW2 : Hid (Below W4.heap.size W4 w2') := HWA.out.grown hg2 HWA.out.size (fun b hb => (HO.out.lt b hb).1)
          have H2 : Hid (w2'.ownsRow W4.heap.size 43 6 v2 (0 + nau) ([] ++ uvs la')) := hown2
          clear hown2 hg2
          refine hK.out _ _ (HX.out _ HW2.out) (fun hHeld => ?_)
          clear hK K
          (try simp only [Act.put])
          (try go_frame)
          refine wpAnyH_ready (rs := [13]) (by kernel_rfl) (by simp) ?_
          refine AllReadyH.cons (o := _) rfl (fun K hK => ?_) AllReadyH.nil
          refine step_append_srcG (by kernel_rfl) (.tmp 62) (.tmp 64) 23 rfl W4.heap.size 43 i0 _ 6 80 Tryd.underlying23 hi hz0 hz1 hz2 rfl (by decide) v2 (0 + nau) ([] ++ uvs la') (by kernel_rfl) H2.out bu nbu cbu (uvs lb') (by kernel_rfl) (fun e => by rw [HNBU.out, HNB.out e]; rfl) (by rw [uvs_len, HNBU.out, ← HLB.out, List.length_map]) (fun ad e j u hu => ?_) (uvs_one lb') (by unfold maxLen; have := HFA.out; have := HFB.out; have := HNAU.out; have := HNBU.out; omega) (by have := HFA.out; have := HFB.out; have := HNAU.out; have := HNBU.out; omega) HW2.out.size ?_
          · rcases HPB.out ad e with hlt | hnil
            · rw [← HCB.out ad e j u hu]
              exact HW2.out.cell (p := ad.add j) (by rw [add_block]; exact hlt)
            · have : lb' = [] := by
                have := HLB.out
                rw [hnil] at this
                exact List.map_eq_nil_iff.1 this
              rw [this] at hu
              simp [uvs] at hu
          intro v3 w3' hown3 hg3
          have HW3 : Hid (Below W4.heap.size W4 w3') := HW2.out.grown hg3 HW2.out.size (fun b hb => (H2.out.lt b hb).1)
          have H3 : Hid (w3'.ownsRow W4.heap.size 43 6 v3 (la' ++ lb').length (uvs (la' ++ lb'))) := by
            unfold Hid
            have e1 : (la' ++ lb').length = 0 + nau + nbu := by rw [List.length_append, HNAU.out, HNBU.out, ← HLA.out, ← HLB.out]; simp
            rw [e1]
            simpa [uvs] using hown3
          clear hown3 hg3
          refine hK.out _ _ (HX.out _ HW3.out) (fun hHeld => ?_)
          clear hK K
          (try simp only [Act.put])
          (try go_frame)
          have hcu2 : cus.length = la'.length + lb'.length := by rw [HCU.out, List.length_append, ← HLA.out, ← HLB.out, List.length_map, List.length_map]
          obtain ⟨g3, cap3, hv3, hM3⟩ := joined_mod (us := cus) HW3.out HMA7.out.boxes HMA7.out.few.1 (by rw [List.map_append, HLA.out, HLB.out, HCU.out]) (fun i x hx => by
            by_cases hi' : i < la'.length
            · rw [List.getElem?_append_left hi'] at hx
              exact HUA.out i x hx
            · rw [List.getElem?_append_right (by omega)] at hx
              exact HUB.out _ x hx) H3.out (by have := HFA.out; have := HFB.out; rw [List.length_append]; have e1 : la'.length = a.units.length := by rw [← HLA.out, List.length_map]
                                               have e2 : lb'.length = bus.length := by rw [← HLB.out, List.length_map]
                                               omega)
          rw [← HNAB2.out] at hv3
          subst hv3
          have HSA := hide (same_any ⟨a.boxes, cus⟩ nb nu ab g3 cnb cnu cab cap3 w3' (hide (md_on HMC7.out HW3.out)) (hide hM3))
          clear hM3 hcu2 H3 H2 HO
          have HSB : Hid (Calls Tryd.prog 8 #[.agg #[.slice nb nab cnb, .slice nu nab2 cnu], .agg #[.slice ab nab cab, .slice g3 nab2 cap3]] w3' fun e w' => e = .returned (.bool true) ∧ Below w3'.heap.size w3' w') := by
            rw [HNAB.out, HNAB2.out]
            exact HSA.out
          clear HSA
          refine wpAnyH_take (i := 14) (oi := _) (v := ?_) rfl (by kernel_rfl) (by kernel_rfl) (by kernel_rfl) (fun _ _ _ h => h) (Or.inl ⟨by kernel_rfl, ?_⟩) (by assumption) ?_
          rotate_left
          · intro w hSw
            (try dsimp only at hSw)
            go_simp
            (try with_reducible rfl)
          (try simp only [Act.put])
          (try go_frame)
          refine wpAnyH_ready (rs := [15]) (by kernel_rfl) (by simp) ?_
          refine AllReadyH.cons (o := _) rfl (fun K hK => ?_) AllReadyH.nil
          go_simp
          refine HSB.out.mono ?_
          rintro e w5 ⟨rfl, hb5⟩
          have HW5 : Hid (Below W4.heap.size W4 w5) := below_on HW3.out hb5
          clear hb5 HSB
          refine hK.out _ _ (HX.out _ HW5.out) (fun hHeld => ?_)
          clear hK K
          (try simp only [Act.put])
          (try go_frame)
          refine wpAnyH_take (i := 16) (oi := _) (v := ?_) rfl (by kernel_rfl) (by kernel_rfl) (by kernel_rfl) (fun _ _ _ h => h) (Or.inl ⟨by kernel_rfl, ?_⟩) (by assumption) ?_
          rotate_left
          · intro w hSw
            (try dsimp only at hSw)
            go_simp
            (try with_reducible rfl)
          (try simp only [Act.put])
          (try go_frame)
          refine wpAnyH_ready (rs := [17]) (by kernel_rfl) (by simp) ?_
          refine AllReadyH.cons (o := _) rfl (fun K hK => ?_) AllReadyH.nil
          go_simp
          refine hK.out _ _ (HX.out _ HW5.out) (fun hHeld => ?_)
          clear hK K
          refine wpAnyH_done (by kernel_rfl) ?_ _
          go_wp2
          go_ret
          exact ⟨rfl, below_on HB7.out HW5.out⟩
        · have e1 : ((ea : Int) != 0) = false := by simp; omega
          have e2 : ((eb : Int) != 0) = false := by simp; omega
          have e4 : (60000 : Int) < (s.length : Int) + (t.length : Int) := by omega
          clear hea heb hst
          go_wp2
          go_ret
          exact ⟨rfl, HB5.out⟩
      | cons x r =>
        have e1 : ((ea : Int) != 0) = false := by simp; omega
        have e2 : ((eb : Int) != 0) = false := by simp; omega
        clear hea heb
        go_wp2
        go_ret
        exact ⟨rfl, HB5.out⟩
    · have e1 : ((ea : Int) != 0) = false := by simp; omega
      have e2 : ((eb : Int) != 0) = true := by simp; omega
      clear hea heb
      go_wp2
      go_ret
      exact ⟨rfl, HB5.out⟩
  · have e1 : ((ea : Int) != 0) = true := by simp; omega
    clear hea
    go_wp2
    go_ret
    exact ⟨rfl, HB5.out⟩
end Go.Proofs.YtlicfdligldhdaaDoor.Aw


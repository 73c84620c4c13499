/- The walk of asm.Read: WHAT Read ANSWERS. -/
import Derived.Test.YtlicfdligldhdaaDoorM23
namespace Go.Proofs.YtlicfdligldhdaaDoor.Aw
open Go.RowKit As

set_option maxHeartbeats 400000 in
theorem newReader_any (B : Nat) (w : World) (hg : Hid (GV B w)) (hB : Hid (B ≤ w.heap.size)) :
    Calls Tryd.prog 14 #[] w fun e w' => ∃ R U J, e = .returned (ptI R 0) ∧ RD w.heap.size R U J 0 w' ⟨[], []⟩ ∧ Below w.heap.size w w' := by
  go_enter Tryd.func14, Tryd.ntmps14
  go_wp2_with fail
  refine (unitWords_any B w hg hB).mono ?_
  rintro e w1 ⟨U, rfl, hU, hUb, hb1⟩
  have HU := hide hUb
  have HB1 := hide hb1
  clear hUb hb1 hU
  go_wp2_with fail
  refine (instrWords_any B w1 (hide (hg.out.below HB1.out hB.out)) (hide (Nat.le_trans hB.out HB1.out.size))).mono ?_
  rintro e w2 ⟨J, rfl, hJ, hJb, hb2⟩
  have HJ := hide hJb
  have HB2 := hide hb2
  clear hJb hb2 hJ
  go_wp2
  go_ret
  refine ⟨w2.heap.size, U, J, rfl, ⟨.slice none 0 0, .slice none 0 0, [], w.heap.size, ?_⟩, below_on (below_on HB1.out HB2.out) ((Below.refl _ _).alloc (Nat.le_refl _) _)⟩
  have h2 : w2.heap[U]? = some (wsO unitW) := (HB2.out.block _ (lt_of_block HU.out)).trans HU.out
  have hsz := Nat.le_trans HB1.out.size HB2.out.size
  exact ⟨heap_alloc_new _ _, ⟨rfl, .inl ⟨rfl, rfl⟩⟩, fun b hb => (by cases hb), ⟨rfl, .inl ⟨rfl, rfl⟩⟩, rfl, fun x hx => (by cases hx), fun i x hx => (by simp at hx), fun x hx => (by simp at hx), ⟨Nat.le_refl _, by simp; omega⟩, hsz, (Below.heap_alloc _ _ _ (lt_of_block h2)).trans h2, (Below.heap_alloc _ _ _ (lt_of_block HJ.out)).trans HJ.out, Nat.le_refl _, Nat.le_refl _, fun x hx => by cases hx⟩

def strLen : Value → Nat
  | .string b => b.size
  | _ => 0
theorem RDx.kt {es : List TypeId} {B R U J K C : Nat} {w w' : World} {m : Vf.Md} {vb vu : Value} {us : List UV} (h : RDx B R U J K w m vb vu us C) (hk : KeepT es w w') (hs : w.heap.size ≤ w'.heap.size) (h1 : 62 ∉ es) (h2 : 64 ∉ es) (h3 : 43 ∉ es) (h4 : 3 ∉ es) (h5 : 45 ∉ es) (h6 : 9 ∉ es) : RDx B R U J K w' m vb vu us C :=
  ⟨hk _ _ _ _ h.blk h1, own_kt h.boxes hk h2, h.b64, own_kt h.units hk h3, h.same, fun x hx => (h.each x hx).kt hk h4 h5, h.early, fun x hx => own_kt (h.last x hx) hk h5, ⟨h.le.1, Nat.le_trans h.le.2 hs⟩, h.base, hk _ _ _ _ h.wu h6, hk _ _ _ _ h.wj h6, h.few⟩
theorem kt_set4 {N : Nat} {W : World} {c1 c2 : Array Value} {f1 f2 : Nat × Nat} (h1 : W.heap[N]? = some (.cells c1 25 f1)) (h2 : W.heap[N + 1]? = some (.cells c2 33 f2)) (a b c d : Value) : KeepT [25, 33] W ((((W.setCell ⟨N, 0, none⟩ a).setCell ⟨N, 1, none⟩ b).setCell ⟨N + 1, 0, none⟩ c).setCell ⟨N + 1, 1, none⟩ d) := fun j cs t fr hj ht => by
  have n1 : j ≠ N := fun e => by
    subst e
    rw [h1] at hj
    simp at hj
    exact ht (by simp [hj.2.1])
  have n2 : j ≠ N + 1 := fun e => by
    subst e
    rw [h2] at hj
    simp at hj
    exact ht (by simp [hj.2.1])
  rw [Below.heap_setCell _ ⟨N + 1, 1, none⟩ _ _ n2, Below.heap_setCell _ ⟨N + 1, 0, none⟩ _ _ n2, Below.heap_setCell _ ⟨N, 1, none⟩ _ _ n1, Below.heap_setCell _ ⟨N, 0, none⟩ _ _ n1]
  exact hj
/-- What Read has done so far: k lines, rest to come. -/
structure RdAt (C R U J N : Nat) (s : By) (w : World) (rest : By) (k : Nat) (m : Vf.Md) (W : World) : Prop where
  few : rest.length + k ≤ 60000
  rd : RD C R U J k W m
  below : Below C w W
  m0 : W.heap[N]? = some (.cells #[.slice none 0 0, .slice none 0 0] 25 (0, 0))
  f0 : W.heap[N + 1]? = some (.cells #[.int .i64 0, .int .i64 0] 33 (0, 0))
  fin : readA s = fin m k rest
abbrev mdW (m : Vf.Md) (ab au : Option Addr) (cb cu : Nat) : Value := .agg #[.slice ab m.boxes.length cb, .slice au m.units.length cu]
/-- What Read answers, in memory. -/
def ReadV (s : By) (w : World) (e : Ending) (w' : World) : Prop := ∃ ab cb au cu, e = .returned (.tuple #[mdW (readA s).2 ab au cb cu, .agg #[.int .i64 (readA s).1.1, .int .i64 (readA s).1.2]]) ∧ ModIn w'.heap.size w' (readA s).2 ab au ∧ Below w.heap.size w w'
theorem mod_none (B : Nat) (w : World) : ModIn B w ⟨[], []⟩ none none := ⟨⟨by simp, by simp⟩, fun i x hx => by simp at hx, fun i x hx => by simp at hx⟩
theorem set4_below {B N : Nat} {w W : World} (h : Below B w W) (hN : B ≤ N) (a b c d : Value) : Below B w ((((W.setCell ⟨N, 0, none⟩ a).setCell ⟨N, 1, none⟩ b).setCell ⟨N + 1, 0, none⟩ c).setCell ⟨N + 1, 1, none⟩ d) :=
  (((h.setCell (p := ⟨N, 0, none⟩) hN _).setCell (p := ⟨N, 1, none⟩) hN _).setCell (p := ⟨N + 1, 0, none⟩) (Nat.le_succ_of_le hN) _).setCell (p := ⟨N + 1, 1, none⟩) (Nat.le_succ_of_le hN) _

set_option maxHeartbeats 4000000 in
set_option maxRecDepth 100000 in
theorem read_any (B : Nat) (s : By) (w : World) (hB : Hid (B ≤ w.heap.size)) (hg : Hid (GV B w)) :
    Calls Tryd.prog 7 #[sv s] w fun e w' => ReadV s w e w' := by
  obtain ⟨V, hV⟩ : ∃ V, V = (w.alloc (.cells #[.slice none 0 0, .slice none 0 0] 25)).alloc (.cells #[.int .i64 0, .int .i64 0] 33) := ⟨_, rfl⟩
  have HBV : Hid (Below w.heap.size w V) := by rw [hV]; exact two_below _ _ _
  have HM0 : Hid (V.heap[w.heap.size]? = some (.cells #[.slice none 0 0, .slice none 0 0] 25 (0, 0))) := by rw [hV]; exact two_old _ _ _
  have HF0 : Hid (V.heap[w.heap.size + 1]? = some (.cells #[.int .i64 0, .int .i64 0] 33 (0, 0))) := by rw [hV]; exact two_new _ _ _
  have HVS : Hid (V.heap.size = w.heap.size + 2) := by unfold Hid; rw [hV]; simp
  obtain ⟨N, hN⟩ : ∃ N, N = w.heap.size := ⟨_, rfl⟩
  have HN := hide hN
  by_cases hlen : 60000 < s.length
  · have hra : readA s = ((4, 0), ⟨[], []⟩) := by unfold readA; rw [if_pos hlen]
    have HRA := hide hra
    have e1 : (60000 : Int) < (s.length : Int) := by omega
    have HR : Hid (Below w.heap.size w ((w.alloc (.cells #[.slice none 0 0, .slice none 0 0] 25)).alloc (.cells #[.int .i64 4, .int .i64 0] 33))) := two_below _ _ _
    clear hra hlen hV
    go_enter Tryd.func7, Tryd.ntmps7
    go_wp2
    exact bodyPost_ret (v := .tuple #[mdW ⟨[], []⟩ none none 0 0, .agg #[.int .i64 4, .int .i64 0]]) (by simp [results, Tryd.results7, go_sem]) rfl ⟨none, 0, none, 0, by rw [HRA.out]; rfl, by rw [HRA.out]; exact mod_none _ _, HR.out⟩
  · have e1 : ¬ (60000 : Int) < (s.length : Int) := by omega
    have HLN : Hid (s.length ≤ 60000) := by unfold Hid; omega
    have HFI := hide (fin_first s hlen)
    clear hlen
    go_enter Tryd.func7, Tryd.ntmps7
    go_wp2_with fail
    rw [← hV]
    rw [← hN] at HM0 HF0 ⊢
    clear hV hN
    refine (newReader_any B V (hide (hg.out.below HBV.out hB.out)) (hide (Nat.le_trans hB.out HBV.out.size))).mono ?_
    rintro e w1 ⟨R, U, J, rfl, hRD, hb1⟩
    obtain ⟨C, hC⟩ : ∃ C, C = V.heap.size := ⟨_, rfl⟩
    rw [← hC] at hRD
    have HC : Hid (C = w.heap.size + 2) := hC.trans HVS.out
    have HW1 : Hid (Below w.heap.size w w1) := below_on HBV.out hb1
    have HGC : Hid (GV C w1) := by
      have h1 := (hg.out.below HBV.out hB.out).below hb1 (Nat.le_trans hB.out HBV.out.size)
      exact ⟨h1.max, h1.sp, h1.pow, h1.syn, h1.rng, by have := h1.base; have := hB.out; have := HC.out; omega⟩
    have HA0 : Hid (RdAt C R U J N s w1 s 0 ⟨[], []⟩ w1) := ⟨by have := HLN.out; omega, hRD, Below.refl _ _, (hb1.block _ (lt_of_block HM0.out)).trans HM0.out, (hb1.block _ (lt_of_block HF0.out)).trans HF0.out, HFI.out⟩
    clear hRD hb1 HM0 HF0 HVS hC HBV HFI
    go_wp2
    go_loopw [0, 5] (fun t i wr => ∃ (rest : By) (k : Nat) (m : Vf.Md), t = sv rest ∧ i = .int .i64 k ∧ RdAt C R U J N s w1 rest k m wr) (fun t _ _ => strLen t)
    case atStart => exact ⟨s, 0, ⟨[], []⟩, rfl, rfl, HA0.out⟩
    case round =>
      obtain ⟨rest, k, m, rfl, rfl, hA⟩ := hrel
      have HA := hide hA
      clear hA HA0
      obtain ⟨m0, m1, n0, n1⟩ := blk2_cells HA.out.m0
      obtain ⟨q0, q1, g0, g1⟩ := blk2_cells HA.out.f0
      have HBW : Hid (Below w.heap.size w wr) := HW1.out.trans (HA.out.below.mono (by have := HC.out; omega))
      by_cases hre : rest = []
      · subst hre
        have HRA : Hid (readA s = ((0, 0), m)) := HA.out.fin.trans (fin_nil m k)
        obtain ⟨vb, vu, us, D, hx⟩ := HA.out.rd
        obtain ⟨c0, c1, _⟩ := rd_cells hx.blk
        have HX := hide hx
        obtain ⟨ab, cb, au, cu, hvb, hvu, _, _⟩ := hx.mod
        subst hvb
        subst hvu
        have HM : Hid (∀ a b c d, ModIn (((((wr.setCell ⟨N, 0, none⟩ a).setCell ⟨N, 1, none⟩ b).setCell ⟨N + 1, 0, none⟩ c).setCell ⟨N + 1, 1, none⟩ d)).heap.size ((((wr.setCell ⟨N, 0, none⟩ a).setCell ⟨N, 1, none⟩ b).setCell ⟨N + 1, 0, none⟩ c).setCell ⟨N + 1, 1, none⟩ d) m ab au) := fun a b c d => by
          have h1 := HX.out.kt (kt_set4 HA.out.m0 HA.out.f0 a b c d) (by simp [World.setCell]) (by decide) (by decide) (by decide) (by decide) (by decide) (by decide)
          obtain ⟨ab', cb', au', cu', e1, e2, hm, _⟩ := h1.mod
          cases e1
          cases e2
          exact hm
        clear hx
        go_wp2
        exact bodyPost_ret (v := .tuple #[mdW m ab au cb cu, .agg #[.int .i64 0, .int .i64 0]]) (by simp [results, Tryd.results7, go_sem, m0, m1, q0, q1]) rfl ⟨ab, cb, au, cu, by rw [HRA.out]; rfl, by rw [HRA.out]; exact HM.out _ _ _ _, set4_below HBW.out (by have := HN.out; omega) _ _ _ _⟩
      · have e2 : (rest == []) = false := by rw [beq_eq_false_iff_ne]; exact hre
        have HNE := hide hre
        have HGW : Hid (GV C wr) := HGC.out.below HA.out.below (Nat.le_refl _)
        obtain ⟨mm, hmm⟩ := HGW.out.cell
        have hcut := Tryd.strings_Cut ⟨rest.toArray⟩ ⟨#[10]⟩ mm wr (by rw [size_bs]; have := HA.out.few; omega) hmm
        rw [bs_list] at hcut
        clear hre hmm
        rcases first_of (c := 10) rest with hno | ⟨a, r, hr, ha⟩
        · have e3 : Lib.cut rest (⟨#[10]⟩ : ByteArray).data.toList = (rest, [], false) := cut_no hno
          rw [e3] at hcut
          have HCU := hide hcut
          have HRA : Hid (readA s = ((2, k), ⟨[], []⟩)) := HA.out.fin.trans (fin_open m k hno HNE.out)
          clear hcut e3 hno
          go_wp2_with fail
          refine HCU.out.mono ?_
          rintro e w2 ⟨rfl, nd, rfl⟩
          have HB2 : Hid (Below w.heap.size w (wr.drewN nd)) := HBW.out.trans ⟨rfl, rfl, rfl, Nat.le_refl _, fun _ _ => rfl⟩
          go_wp2
          exact bodyPost_ret (v := .tuple #[mdW ⟨[], []⟩ none none 0 0, .agg #[.int .i64 2, .int .i64 k]]) (by simp [results, Tryd.results7, go_sem, m0, m1, q0, q1]) rfl ⟨none, 0, none, 0, by rw [HRA.out]; rfl, by rw [HRA.out]; exact mod_none _ _, set4_below HB2.out (by have := HN.out; omega) _ _ _ _⟩
        · have e3 : Lib.cut rest (⟨#[10]⟩ : ByteArray).data.toList = (a, r, true) := by rw [hr]; exact cut_at ha
          rw [e3] at hcut
          have HCU := hide hcut
          have HFE : Hid (readA s = fin m k (a ++ 10 :: r)) := by unfold Hid; rw [HA.out.fin, hr]
          have HAA := hide ha
          have HLL : Hid (a.length + r.length + 1 + k ≤ 60000) := by unfold Hid; have := HA.out.few; rw [hr] at this; simp at this; omega
          have HRL : Hid (r.length < rest.length) := by unfold Hid; rw [hr]; simp; omega
          clear hcut e3 ha hr
          go_wp2_with fail
          refine HCU.out.mono ?_
          clear HCU
          rintro e w2 ⟨rfl, nd, rfl⟩
          have HRD2 : Hid (RD C R U J k (wr.drewN nd) m) := HA.out.rd.new (below_drewN _ _)
          have HG2 : Hid (GV C (wr.drewN nd)) := ⟨HGW.out.max, HGW.out.sp, HGW.out.pow, HGW.out.syn, HGW.out.rng, HGW.out.base⟩
          have HB2 : Hid (Below C w1 (wr.drewN nd)) := HA.out.below.trans ⟨rfl, rfl, rfl, Nat.le_refl _, fun _ _ => rfl⟩
          have HM2 : Hid ((wr.drewN nd).heap[N]? = some (.cells #[.slice none 0 0, .slice none 0 0] 25 (0, 0))) := HA.out.m0
          have HF2 : Hid ((wr.drewN nd).heap[N + 1]? = some (.cells #[.int .i64 0, .int .i64 0] 33 (0, 0))) := HA.out.f0
          generalize wr.drewN nd = W at HRD2 HG2 HB2 HM2 HF2 ⊢
          clear m0 m1 n0 n1 q0 q1 g0 g1 HGW HA
          obtain ⟨rr, hrr⟩ : ∃ rr, rr = line m a := ⟨_, rfl⟩
          have HRR := hide hrr
          clear hrr
          go_wp2_with fail
          refine (line_any C R U J k (hide (by have := HLL.out; omega)) a (hide (by have := HLL.out; omega)) W HG2 m HRD2 rr HRR).mono ?_
          rintro e W2 ⟨b, rfl, hbl, hbb, hRD⟩
          have hNC : N + 1 < C := by have := HC.out; have := HN.out; omega
          have HM3 := hide ((hbl.block N (by omega)).trans HM2.out)
          have HF3 := hide ((hbl.block (N + 1) hNC).trans HF2.out)
          have HB3 := hide (HB2.out.trans hbl)
          obtain ⟨m0, m1, n0, n1⟩ := blk2_cells HM3.out
          obtain ⟨q0, q1, g0, g1⟩ := blk2_cells HF3.out
          clear hbl HM2 HF2 HB2 HRD2 HG2 hNC
          cases rr with
          | none =>
            obtain rfl : b = false := hbb
            have HRA : Hid (readA s = ((2, k), ⟨[], []⟩)) := HFE.out.trans (fin_bad m k HAA.out HRR.out.symm)
            have HB4 : Hid (Below w.heap.size w W2) := HW1.out.trans (HB3.out.mono (by have := HC.out; omega))
            clear hRD
            go_wp2
            exact bodyPost_ret (v := .tuple #[mdW ⟨[], []⟩ none none 0 0, .agg #[.int .i64 2, .int .i64 k]]) (by simp [results, Tryd.results7, go_sem, m0, m1, q0, q1]) rfl ⟨none, 0, none, 0, by rw [HRA.out]; rfl, by rw [HRA.out]; exact mod_none _ _, set4_below HB4.out (by have := HN.out; omega) _ _ _ _⟩
          | some m' =>
            obtain rfl : b = true := hbb
            have HA4 : Hid (RdAt C R U J N s w1 r (k + 1) m' W2) := ⟨by have := HLL.out; omega, hRD m' rfl, HB3.out, HM3.out, HF3.out, HFE.out.trans (fin_more k HAA.out HRR.out.symm)⟩
            have hkk : (k : Int) ≤ 60000 := by have := HLL.out; omega
            clear hRD m0 m1 n0 n1 q0 q1 g0 g1
            go_wp2
            go_roundw
            case rel => exact ⟨r, k + 1, m', rfl, by go_num, HA4.out⟩
            case measure => have := HRL.out; simp [strLen, ByteArray.size]; omega

end Go.Proofs.YtlicfdligldhdaaDoor.Aw


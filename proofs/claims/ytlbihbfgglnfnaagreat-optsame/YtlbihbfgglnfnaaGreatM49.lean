/- The walk of OptSame. -/
import Derived.Test.YtlbihbfgglnfnaaGreatM26
import Derived.Test.YtlbihbfgglnfnaaGreatM46
import Derived.Test.YtlbihbfgglnfnaaGreatM48
import Derived.Test.YtlbihbfgglnfnaaGreatM22
import Derived.Test.YtlbihbfgglnfnaaGreatM42
import Derived.SizedLaws
set_option maxRecDepth 100000
set_option maxHeartbeats 2000000
namespace Go.Proofs.YtlbihbfgglnfnaaGreat.Ow
open Go.RowKit Vf Vm Ot
theorem fd_mono {B C : Nat} {w : World} {fs : List (List Int)} {a : Option Addr} {fa : Nat → Option Addr} {fc : Nat → Nat} (h : Vw.FdIn B w fs a fa fc) (hB : B ≤ C) : Vw.FdIn C w fs a fa fc :=
 ⟨h.few, fun i f hf => by
  obtain ⟨b, off, e, hb, hc⟩ := h.rows i f hf
  exact ⟨b, off, e, by omega, hc⟩, fun i f hf => ⟨(h.words i f hf).1, fun j v hv => by
  obtain ⟨b, off, e, hb, hc⟩ := (h.words i f hf).2 j v hv
  exact ⟨b, off, e, by omega, hc⟩⟩⟩
theorem same_walk (m : Md) (ab au : Option Addr) (cb cu : Nat) (fs : List (List Int)) (a : Option Addr) (cap : Nat) (fa : Nat → Option Addr) (fc : Nat → Nat) (w : World) (hin : ModIn w.heap.size w m ab au) (hfd : Vw.FdIn w.heap.size w fs a fa fc) (task most : Int) :
  Calls Tryz.prog 3 #[modV m ab au cb cu, .int .i64 task, .slice a fs.length cap, .int .i64 most] w fun e w' => e = .returned (.bool true) ∧ Below w.heap.size w w' := by
 have HIN := hide hin
 have HFD := hide hfd
 clear hin hfd
 have HLOW : Hid (∀ W : World, Below w.heap.size w W → w.heap.size ≤ W.heap.size ∧ ModIn w.heap.size W m ab au ∧ Vw.FdIn w.heap.size W fs a fa fc) := fun W h => ⟨h.size, HIN.out.low h.block, HFD.out.low h.block⟩
 obtain ⟨V, hV⟩ : ∃ V, V = w.alloc (modO m ab au cb cu) := ⟨_, rfl⟩
 have HBV : Hid (Below w.heap.size w V) := by rw [hV]; exact one_below _ _
 have HN0 : Hid (V.heap[w.heap.size]? = some (modO m ab au cb cu)) := by rw [hV]; exact heap_alloc_new _ _
 have HV := hide hV.symm
 clear hV
 go_enter Tryz.func3, Tryz.ntmps3
 go_wp2_with fail
 rw [HV.out]
 clear HV
 refine (alive_any V).mono ?_
 rintro e w1 ⟨rfl, hb1⟩
 have HB1 : Hid (Below w.heap.size w w1) := below_onO HBV.out hb1
 have HN1 := hide (keepB hb1 HN0.out)
 clear hb1 HBV HN0
 obtain ⟨a0, a1, _, _⟩ := two_cells HN1.out
 have hmd := module_any w.heap.size m ab au cb cu w1 (hide (HLOW.out _ HB1.out).1) (hide (HLOW.out _ HB1.out).2.1)
 unfold ModV at hmd
 obtain ⟨r, hr⟩ : ∃ r, r = verify m := ⟨_, rfl⟩
 obtain ⟨n, hn⟩ : ∃ n, n = made m := ⟨_, rfl⟩
 rw [← hr, ← hn] at hmd
 have HMD := hide hmd
 have HR := hide hr
 have HN := hide hn
 clear hmd hr hn
 go_wp2_with fail
 refine HMD.out.mono ?_
 rintro e w2 ⟨nb, cnb, nu, cnu, rfl, hM, hb2⟩
 obtain ⟨W2, hW2⟩ : ∃ W2, W2 = (w2.alloc (modO n nb nu cnb cnu)).alloc (.cells #[.int .i64 r.1, .int .i64 r.2.1, .int .i64 r.2.2] 30) := ⟨_, rfl⟩
 have hbW : Below w2.heap.size w2 W2 := by rw [hW2]; exact two_belowO _ _ _
 have HB2 : Hid (Below w.heap.size w W2) := below_onO (below_onO HB1.out hb2) hbW
 have HA : Hid (W2.heap[w.heap.size]? = some (modO m ab au cb cu)) := keepB hbW (keepB hb2 HN1.out)
 have HNN : Hid (W2.heap[w2.heap.size]? = some (modO n nb nu cnb cnu)) := by rw [hW2]; exact oldO _ _ _
 have HWW : Hid (W2.heap[w2.heap.size + 1]? = some (.cells #[.int .i64 r.1, .int .i64 r.2.1, .int .i64 r.2.2] 30 (0, 0))) := by rw [hW2]; exact newO _ _ _
 have HMN : Hid (ModIn w2.heap.size W2 n nb nu) := hM.low hbW.block
 have HZ2 := hide hbW.size
 have HZW := hide (below_onO HB1.out hb2).size
 have HW2 := hide hW2.symm
 clear hW2 hbW hb2 hM HMD a0 a1 HN1
 go_upto_region 4 with fail
 rw [HW2.out]
 clear HW2
 generalize hQ : w2.heap.size = Q at *
 have hAl := lt_of_block HA.out
 have hNl := lt_of_block HNN.out
 have hWl := lt_of_block HWW.out
 obtain ⟨a0, a1, _, _⟩ := two_cells HA.out
 obtain ⟨n0, n1, _, _⟩ := two_cells HNN.out
 obtain ⟨w0, w1', w2', _, _, _⟩ := three_cells HWW.out
 by_cases h0 : r.1 = 0
 ·have e1 : (r.1 != 0) = false := by simpa using h0
  have hz : verify m = (0, 0, 0) := verify_zero (by rw [← HR.out]; exact h0)
  have hns : n = shortM m := by rw [HN.out]; unfold made; rw [hz]; rfl
  obtain ⟨E, hE⟩ : ∃ E, E = Vw.soloE m task most fs := ⟨_, rfl⟩
  have HE := hide hE
  have HEN : Hid (E = Vw.soloE n task most fs) := by rw [hns, soloE_short hz]; exact hE
  have HSM : Hid (E = 0 → Sames m n task most fs) := by intro h; rw [hns]; exact solo_short (hE.symm.trans h)
  have hso := Vw.solo_some m ab au cb cu w.heap.size fs a cap fa fc W2 (hide (HLOW.out _ HB2.out).2.1) (hide (HLOW.out _ HB2.out).2.2) HB2.out.size task most E HE
  have HSO := hide hso
  clear hso hE h0 hz hns
  go_wp2_with fail
  refine HSO.out.mono ?_
  rintro e w3 ⟨s, q, tr, st, oa, on, oc, sa, sn, sc, ta, tn, tc, rfl, hb3, hk3⟩
  have HK3 := hide hk3
  have HB3 : Hid (Below w.heap.size w w3) := below_onO HB2.out hb3
  have HN3 := hide (keepB hb3 HNN.out)
  have HM3 : Hid (ModIn Q w3 n nb nu) := HMN.out.low (hb3.mono HZ2.out).block
  have HZ3 : Hid (Q ≤ w3.heap.size) := Nat.le_trans HZ2.out hb3.size
  clear hk3 hb3 HSO a0 a1 n0 n1 w0 w1' w2' hAl hNl hWl HA HNN HWW HMN HZ2 HB2
  obtain ⟨n0, n1, _, _⟩ := two_cells HN3.out
  have hz3 := lt_of_block HN3.out
  go_wp2_with fail
  have HA3 : Hid ((w3.alloc (Vw.repO s q tr (.slice oa on oc) (.slice sa sn sc) (.slice ta tn tc) st)).heap[w3.heap.size]? = some (Vw.repO s q tr (.slice oa on oc) (.slice sa sn sc) (.slice ta tn tc) st)) := heap_alloc_new w3 _
  have HBA : Hid (Below w.heap.size w (w3.alloc (Vw.repO s q tr (.slice oa on oc) (.slice sa sn sc) (.slice ta tn tc) st))) := HB3.out.alloc HB3.out.size _
  have H3A : Hid (Below w3.heap.size w3 (w3.alloc (Vw.repO s q tr (.slice oa on oc) (.slice sa sn sc) (.slice ta tn tc) st))) := one_below _ _
  generalize w3.alloc (Vw.repO s q tr (.slice oa on oc) (.slice sa sn sc) (.slice ta tn tc) st) = W3 at *
  refine (Vw.solo_some n nb nu cnb cnu Q fs a cap fa fc W3 (hide (HM3.out.low (H3A.out.mono HZ3.out).block)) (hide (fd_mono (HLOW.out _ HBA.out).2.2 HZW.out)) (Nat.le_trans HZ3.out H3A.out.size) task most E HEN).mono ?_
  rintro e w4 ⟨s', q', tr', st', oa', on', oc', sa', sn', sc', ta', tn', tc', rfl, hb4, hk4⟩
  have HK4 := hide hk4
  have HB4 : Hid (Below w.heap.size w w4) := below_onO HBA.out hb4
  have H34 : Hid (Below w3.heap.size w3 w4) := below_onO H3A.out hb4
  have HA4 := hide (keepB hb4 HA3.out)
  clear hk4 hb4 n0 n1 hz3 HN3
  obtain ⟨ra0, ra1, ra2, ra3, ra4, ra5, ra6⟩ := (Vw.rep_cells HA4.out).1
  have hz4 := lt_of_block HA4.out
  have ee : (E != E) = false := by simp
  by_cases h1 : E = 0
  ·have HO1 : Hid (Vw.SoOk w4 m task most fs s q tr st (.slice oa on oc) (.slice sa sn sc) (.slice ta tn tc)) := (HK3.out h1).below H34.out
   have HO2 : Hid (Vw.SoOk w4 n task most fs s' q' tr' st' (.slice oa' on' oc') (.slice sa' sn' sc') (.slice ta' tn' tc')) := HK4.out h1
   have HS := hide (HSM.out h1)
   have HF1 := hide (HO1.out.few (HE.out.symm.trans h1))
   have e2 : (E != 0) = false := by simpa using h1
   clear h1
   by_cases hs1 : s = 1
   ·have d1 : ((s : Int) == 1) = true := by simp [hs1]
    clear hs1
    go_wp2
    go_ret
    exact ⟨rfl, HB4.out.alloc HB4.out.size _⟩
   have d1 : ((s : Int) == 1) = false := by simp; omega
   by_cases ht4 : tr = 4
   ·have d2 : ((tr : Int) == 4) = true := by simp [ht4]
    clear ht4
    go_wp2
    go_ret
    exact ⟨rfl, HB4.out.alloc HB4.out.size _⟩
   have d2 : ((tr : Int) == 4) = false := by simp; omega
   have hal : Alk m n task most fs := by
    rcases HS.out with h | h | h
    ·rw [← HO1.out.stat] at h; exact absurd h hs1
    ·exact absurd (HO1.out.trap.trans h.2) ht4
    ·exact h
   have est : (s, q) = (s', q') := HO1.out.stat.trans (hal.stat.symm.trans HO2.out.stat.symm)
   simp only [Prod.mk.injEq] at est
   obtain ⟨rfl, rfl⟩ := est
   obtain rfl : tr = tr' := HO1.out.trap.trans (hal.trap.symm.trans HO2.out.trap.symm)
   have hle : st' ≤ st := by rw [HO1.out.steps, HO2.out.steps]; exact hal.less
   have d3 : decide ((st : Int) < (st' : Int)) = false := by simp; omega
   have d4 : decide (st < st') = false := by simp; omega
   have d5 : ¬ st < st' := by omega
   have HRD : Hid (Vw.RpRd w4 (Vw.soloR m task most fs).2.1 (Vw.soloR m task most fs).2.2 (.slice oa' on' oc') (.slice sa' sn' sc') (.slice ta' tn' tc')) := by
    have h := HO2.out.rd
    exact ⟨by rw [← hal.out]; exact h.out, by rw [← hal.boxes]; exact h.sent, by rw [← hal.boxes]; exact h.took⟩
   have HR1 := hide HO1.out.rd
   clear hal hle hs1 ht4 HS HO1 HO2
   go_wp2_with fail
   have HBN : Hid (Below w4.heap.size w4 (w4.alloc (Vw.repO s q tr (.slice oa' on' oc') (.slice sa' sn' sc') (.slice ta' tn' tc') st))) := one_below _ _
   have HBE : Hid (Below w.heap.size w (w4.alloc (Vw.repO s q tr (.slice oa' on' oc') (.slice sa' sn' sc') (.slice ta' tn' tc') st))) := HB4.out.alloc HB4.out.size _
   obtain ⟨f1, f2, f3, f4⟩ := HF1.out
   refine (Vw.sameReport_any s q tr st _ _ _ _ _ _ _ _ _ (hide (HR1.out.below HBN.out)) (hide (HRD.out.below HBN.out)) (by omega) (by omega) (hide (fun q hq => Nat.le_trans (f3 q hq) (by omega)))).mono ?_
   rintro e w5 ⟨rfl, hb5⟩
   have HB5 := hide (below_onO HBE.out hb5)
   clear hb5 f1 f2 f3 f4
   go_wp2
   go_ret
   exact ⟨rfl, HB5.out⟩
  ·have e2 : (E != 0) = true := by simpa using h1
   clear h1
   go_wp2
   go_ret
   exact ⟨rfl, HB4.out.alloc HB4.out.size _⟩
 ·have e1 : (r.1 != 0) = true := by simpa using h0
  clear h0
  go_wp2
  go_ret
  exact ⟨rfl, HB2.out⟩
end Go.Proofs.YtlbihbfgglnfnaaGreat.Ow
namespace Go.Proofs.YtlbihbfgglnfnaaGreat.Vw
open Go.RowKit Vf Vm
section
variable {H : Type} {enc : TypeId × Value → H} {w : World} {base : Nat} {spare : Nat → Bool} {held : Bool}
theorem slice_list3 {α : Type} {t e : TypeId} {fuel N : Nat} {cs : List Value} {x : DataW H × List MemPlace} (ok1 ok2 : DataW H → Prop) (Q : List Value → α → Prop)
  (ht : Tryz.prog.underlying t = some (.slice e)) (hce : Tryz.prog.cellsOf e = 1) (h1 : ∀ el sp, ok1 (.slice el sp) → el.length ≤ N ∧ ∀ d ∈ el, ok2 d) (hok : ok1 x.1)
  (hQ : ∀ f cs' x', DataW.trod enc Tryz.prog w base spare held f e cs' = some x' → ok2 x'.1 → ∃ y, Q cs' y)
  (h : DataW.trod enc Tryz.prog w base spare held fuel t cs = some x) :
  ∃ (l : List α) (a : Option Addr) (c : Nat), cs = [.slice a l.length c] ∧ l.length ≤ N ∧
   ∀ i y, l[i]? = some y → ∃ b off cs', a = some ⟨b, off, none⟩ ∧ b < w.heap.size ∧ Q cs' y ∧ w.cell? ⟨b, off + i, none⟩ = cs'[0]? := by
 rcases DataW.trod_slice ht h with ⟨rfl, _⟩ | ⟨a, len, cap, elems, rest, k, rfl, rfl, rfl, hb, hl, hm, hlen, hel, _, _⟩
 ·exact ⟨[], none, 0, rfl, Nat.zero_le _, fun i y hy => by simp at hy⟩
 ·obtain ⟨hN, hmem⟩ := h1 _ _ hok
  rw [hce] at hel
  have hall : ∀ i, i < len → ∃ cs' y, w.cells? base (a.add (i * 1)) 1 = some cs' ∧ Q cs' y := by
   intro i hi
   have := hel i hi
   rw [List.getElem?_eq_getElem (by omega)] at this
   obtain ⟨cs', h1, h2⟩ := Option.bind_eq_some_iff.1 this
   obtain ⟨y, hy⟩ := hQ k cs' _ h2 (hmem _ (List.mem_map_of_mem (List.getElem_mem _)))
   exact ⟨cs', y, h1, hy⟩
  obtain ⟨l, hll, hlq⟩ := list_of (p := fun i y => ∃ cs', w.cells? base (a.add (i * 1)) 1 = some cs' ∧ Q cs' y) len (fun i hi => by
   obtain ⟨cs', y, h1, h2⟩ := hall i hi
   exact ⟨y, cs', h1, h2⟩)
  refine ⟨l, some a, cap, by rw [hll], by simp at hN; omega, fun i y hy => ?_⟩
  have hi := (List.getElem?_eq_some_iff.1 hy).1
  have hsp : a.spot = none := by
   obtain ⟨cs0, y0, h1, _⟩ := hall 0 (by omega)
   exact spot_of (by decide) h1
  obtain ⟨cs', h1, h2⟩ := hlq i y hy
  obtain ⟨h3, h4⟩ := cells_at (by decide) h1 hsp
  have := h4 0 (by decide)
  rw [Nat.mul_one] at this
  exact ⟨a.block, a.off, cs', by cases a; simp_all, h3, h2, this⟩
theorem cells_ws : Tryz.prog.cellsOf 33 = 1 := by kernel_rfl
theorem words_open {fuel N : Nat} {cs : List Value} {x : DataW H × List MemPlace} (ok2 : DataW H → Prop) (h2 : ∀ el sp, ok2 (.slice el sp) → el.length ≤ N) (h : DataW.trod enc Tryz.prog w base spare held fuel 33 cs = some x) (hok : ok2 x.1) :
  ∃ (l : List Int) (a : Option Addr) (c : Nat), cs = [.slice a l.length c] ∧ l.length ≤ N ∧ ∀ (i : Nat) v, l[i]? = some v → ∃ b off, a = some ⟨b, off, none⟩ ∧ b < w.heap.size ∧ w.cell? ⟨b, off + i, none⟩ = some (.int .i64 v) := by
 obtain ⟨l, a, c, hcs, hm, hall⟩ := slice_list3 ok2 (fun _ => True) (fun cs' (y : Int) => cs' = [.int .i64 y]) Tryz.underlying33 cells_i64 (fun el sp h => ⟨h2 el sp h, fun _ _ => trivial⟩) hok (fun f cs' x' hx' _ => by
  obtain ⟨n, _, hn⟩ := i64_open hx'
  exact ⟨n, hn⟩) h
 refine ⟨l, a, c, hcs, hm, fun i v hv => ?_⟩
 obtain ⟨b, off, cs', e, hb, rfl, hc⟩ := hall i v hv
 exact ⟨b, off, e, hb, hc⟩
theorem feeds_open {fuel N1 N2 : Nat} {cs : List Value} {x : DataW H × List MemPlace} (ok1 ok2 : DataW H → Prop) (h1 : ∀ el sp, ok1 (.slice el sp) → el.length ≤ N1 ∧ ∀ d ∈ el, ok2 d) (h2 : ∀ el sp, ok2 (.slice el sp) → el.length ≤ N2) (hN1 : N1 ≤ 9223372036854775806) (hN2 : N2 ≤ 9223372036854775806) (h : DataW.trod enc Tryz.prog w base spare held fuel 26 cs = some x) (hok : ok1 x.1) :
  ∃ (fs : List (List Int)) (a : Option Addr) (c : Nat) (fa : Nat → Option Addr) (fc : Nat → Nat), cs = [.slice a fs.length c] ∧ fs.length ≤ N1 ∧ (∀ f ∈ fs, f.length ≤ N2) ∧ FdIn w.heap.size w fs a fa fc := by
 obtain ⟨l, a, c, hcs, hm, hall⟩ := slice_list3 ok1 ok2 (fun cs' (y : List Int × Option Addr × Nat) => cs' = [.slice y.2.1 y.1.length y.2.2] ∧ y.1.length ≤ N2 ∧ ∀ (i : Nat) v, y.1[i]? = some v → ∃ b off, y.2.1 = some ⟨b, off, none⟩ ∧ b < w.heap.size ∧ w.cell? ⟨b, off + i, none⟩ = some (.int .i64 v)) Tryz.underlying26 cells_ws h1 hok (fun f cs' x' hx' hk => by
  obtain ⟨l, a, c, e1, e2, e3⟩ := words_open ok2 h2 hx' hk
  exact ⟨(l, a, c), e1, e2, e3⟩) h
 have at' : ∀ (i : Nat) f, (l.map (·.1))[i]? = some f → ∃ y, l[i]? = some y ∧ y.1 = f := fun i f hf => by
  rw [List.getElem?_map] at hf
  cases hy : l[i]? with
  | none => rw [hy] at hf; cases hf
  | some y => rw [hy] at hf; cases hf; exact ⟨y, rfl, rfl⟩
 refine ⟨l.map (·.1), a, c, fun i => ((l[i]?).map (·.2.1)).getD none, fun i => ((l[i]?).map (·.2.2)).getD 0, by simpa using hcs, by simpa using hm, fun f hf => ?_, by simp; omega, fun i f hf => ?_, fun i f hf => ?_⟩
 ·obtain ⟨y, hy, rfl⟩ := List.mem_map.1 hf
  obtain ⟨i, hi⟩ := List.getElem?_of_mem hy
  obtain ⟨b, off, cs', e, hb, ⟨_, hl, _⟩, _⟩ := hall i y hi
  exact hl
 ·obtain ⟨y, hy, rfl⟩ := at' i f hf
  obtain ⟨b, off, cs', e, hb, ⟨rfl, _, _⟩, hc⟩ := hall i y hy
  exact ⟨b, off, e, hb, by rw [hc, hy]; rfl⟩
 ·obtain ⟨y, hy, rfl⟩ := at' i f hf
  obtain ⟨b, off, cs', e, hb, ⟨_, hl, hw⟩, hc⟩ := hall i y hy
  refine ⟨by omega, fun j v hv => ?_⟩
  obtain ⟨b2, off2, e2, hb2, hc2⟩ := hw j v hv
  exact ⟨b2, off2, by rw [hy]; exact e2, hb2, hc2⟩
def OkW (t : TypeId) (d : DataW H) : Prop := ∀ n ∈ d.weights Tryz.prog t, n ≤ reachBytes
theorem weightsAll_mem {e : TypeId} : ∀ {l : List (DataW H)} {d : DataW H}, d ∈ l → ∀ n ∈ d.weights Tryz.prog e, n ∈ DataW.weightsAll Tryz.prog e l
 | a :: l, d, hd, n, hn => by
  unfold DataW.weightsAll
  rcases List.mem_cons.1 hd with rfl | hd
  ·exact List.mem_append_left _ hn
  ·exact List.mem_append_right _ (weightsAll_mem hd n hn)
theorem ok_slice {t e : TypeId} {elems sp : List (DataW H)} (hu : Tryz.prog.underlying t = some (.slice e)) (h : OkW t (.slice elems sp)) : elems.length * Tryz.prog.bytesOf e ≤ reachBytes ∧ ∀ d ∈ elems, OkW e d := by
 refine ⟨?_, fun d hd n hn => ?_⟩
 ·have := h ((elems.length + sp.length) * Tryz.prog.bytesOf e) (by unfold DataW.weights; rw [hu]; exact List.mem_cons_self)
  exact Nat.le_trans (Nat.mul_le_mul_right _ (Nat.le_add_right _ _)) this
 ·apply h
  unfold DataW.weights
  rw [hu]
  exact List.mem_cons_of_mem _ (List.mem_append_left _ (weightsAll_mem hd n hn))
theorem bytes_ws : Tryz.prog.bytesOf 33 = 24 := by kernel_rfl
theorem bytes_w : Tryz.prog.bytesOf 2 = 8 := by kernel_rfl
theorem feeds_open_w {fuel : Nat} {cs : List Value} {x : DataW H × List MemPlace} (h : DataW.trod enc Tryz.prog w base spare held fuel 26 cs = some x) (hok : OkW 26 x.1) :
  ∃ (fs : List (List Int)) (a : Option Addr) (c : Nat) (fa : Nat → Option Addr) (fc : Nat → Nat), cs = [.slice a fs.length c] ∧ FdIn w.heap.size w fs a fa fc := by
 obtain ⟨fs, a, c, fa, fc, h1, _, _, h2⟩ := feeds_open (N1 := 9223372036854775806) (N2 := 9223372036854775806) (OkW 26) (OkW 33) (fun el sp h => by
  obtain ⟨k1, k2⟩ := ok_slice Tryz.underlying26 h
  rw [bytes_ws] at k1
  simp [reachBytes] at k1
  exact ⟨by omega, k2⟩) (fun el sp h => by
  obtain ⟨k1, _⟩ := ok_slice Tryz.underlying33 h
  rw [bytes_w] at k1
  simp [reachBytes] at k1
  omega) (Nat.le_refl _) (Nat.le_refl _) h hok
 exact ⟨fs, a, c, fa, fc, h1, h2⟩
theorem ok_arg {ts : List TypeId} {ds : List (DataW H)} (h : (DataW.weightsEach Tryz.prog ts ds).all (· ≤ reachBytes) = true) {j : Nat} {t : TypeId} {d : DataW H} (ht : ts[j]? = some t) (hd : ds[j]? = some d) : OkW t d := fun n hn => by
 have := List.all_eq_true.1 h n (DataW.weights_mem_each ht hd n hn)
 simpa using this
end
end Go.Proofs.YtlbihbfgglnfnaaGreat.Vw

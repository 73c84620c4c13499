/- The walk of syn.Print. -/
import Derived.Test.YtlnikpcoejpknaaGreatDoorM42
import Derived.Test.YtlnikpcoejpknaaGreatDoorM30
import Derived.Deep.RegionHeld3
import Derived.Test.YtlnikpcoejpknaaGreatDoorM2
import Derived.ChangeArms
import Derived.DataReads
namespace Go.Proofs.YtlnikpcoejpknaaGreatDoor
open Go.RowKit

theorem fr_below {P Bs B : Nat} {w w' : World} (h : Fr P Bs w w') (hB : B ≤ P) (hP : P < Bs) (hs : B ≤ w.heap.size) : Below B w w' :=
  ⟨h.os, h.tape, h.output, h.size, fun k hk => by
    obtain ⟨x, hx⟩ : ∃ x, w.heap[k]? = some x := ⟨_, Array.getElem?_eq_getElem (by omega)⟩
    rw [h.block k x (by omega) hx (.inl (by omega)), hx]⟩

theorem tab_lt {w : World} (h : Lib.TabIs Tryz.prog w "internal/strconv.uint64pow10" .u64 Lib.pow10Tab) : 1 < w.heap.size := by
  unfold Lib.TabIs World.var? at h
  rw [pow_global] at h
  simp only [Option.bind_some] at h
  cases ho : w.heap[1]? with
  | none => simp [ho] at h
  | some o => exact lt_of_block ho

theorem join_len (ws : List ByteArray) : (Lib.join (ws.map (·.data.toList)) [32]).length ≤ Sy.wt ws := by
  rw [Sy.join_flat]
  unfold Sy.wt
  simp

set_option maxRecDepth 100000 in
set_option maxHeartbeats 4000000 in
theorem print_right (l : List Sy.Df) (a : Option Addr) (c : Nat) (r : ByteArray) (er : Int) (w : World) (hX : Hid (DfsIn w.heap.size w l a)) (HW : Hid (Sy.wrongL l = (0, 0))) (htab : Hid (Lib.TabIs Tryz.prog w "internal/strconv.uint64pow10" .u64 Lib.pow10Tab)) (hTK : Hid (TabV w 0))
    (HR : Hid ((r, er) = if 6000 < (joinT (Sy.progT l)).size then ((⟨#[]⟩ : ByteArray), 4) else (joinT (Sy.progT l), 0))) :
    Calls Tryz.prog 9 #[.slice a l.length c] w fun e w' => e = .returned (.tuple #[.string r, .agg #[.int .i64 er, .int .i64 0]]) ∧ Below w.heap.size w w' := by
  have HA : Hid ((∀ d ∈ l, DfG d) ∧ Sy.wt (Sy.progT l) ≤ 800000) := (right_all (by rw [HW.out])).2
  have hlen : l.length ≤ 30 := (right_all (l := l) (by rw [HW.out])).1
  go_enter Tryz.func9, Tryz.ntmps9
  go_wp2_with fail
  refine (wrong_any l a c _ ((hX.out.same (same_bel ((Below.refl _ w).alloc (Nat.le_refl _) Z2C) (Nat.le_refl _))).wide (by simp))).mono ?_
  rintro e w1 ⟨rfl, hb1⟩
  rw [HW.out]
  obtain ⟨F, hF⟩ : ∃ F, F = w1.alloc Z2C := ⟨_, rfl⟩
  have HFb : Hid (Below w.heap.size w F) := by rw [hF]; exact bel_next (bel_next ((Below.refl _ w).alloc (Nat.le_refl _) Z2C) hb1 (by simp)) ((Below.refl _ w1).alloc (Nat.le_refl _) Z2C) (by have := hb1.size; simp at this; omega)
  have HF0 : Hid (F.heap[w.heap.size]? = some Z2C) := by
    rw [hF]
    unfold Hid
    rw [Below.heap_alloc _ _ _ (by have := hb1.size; simp at this; omega), hb1.block _ (by simp)]
    exact heap_alloc_new w Z2C
  have HFe : Hid (w1.alloc Z2C = F) := hF.symm
  have hFw : w.heap.size < F.heap.size := by rw [hF]; have := hb1.size; simp at this ⊢; omega
  clear hF hb1
  go_wp2_with fail
  rw [HFe.out]
  refine (pairsByKind2_any F (hTK.out.keep HFb.out hTK.out.lt)).mono ?_
  rintro e w2 ⟨rfl, hM, hb2⟩
  have HM : Hid (MpK w2 F.heap.size) := hM
  have HB2 : Hid (Below F.heap.size F w2) := hb2
  have hMlt : F.heap.size < w2.heap.size := lt_of_block hM
  have ht1 := tab_lt htab.out
  have hP1 : w.heap.size < w2.heap.size := by omega
  obtain ⟨Q0, hQ⟩ : ∃ Q0, Q0 = w2.alloc (.cells #[.slice none 0 0, .map (some F.heap.size)] 73) := ⟨_, rfl⟩
  have HBq : Hid (Below w.heap.size w Q0) := by rw [hQ]; exact bel_next (bel_next HFb.out HB2.out (by omega)) ((Below.refl _ w2).alloc (Nat.le_refl _) _) (by omega)
  have HQ0 : Hid (Q0.heap[w.heap.size]? = some Z2C) := by
    rw [hQ]
    unfold Hid
    rw [Below.heap_alloc _ _ _ (by omega), HB2.out.block _ hFw]
    exact HF0.out
  have HMq : Hid (MpT Q0 F.heap.size) := by
    have h1 : MpK Q0 F.heap.size := by unfold MpK; rw [hQ, Below.heap_alloc _ _ _ hMlt]; exact HM.out
    exact ⟨h1, TabW.below htab.out HBq.out⟩
  have HPq : Hid (PR Q0 w2.heap.size (w2.heap.size + 1) [] (.map (some F.heap.size))) := ⟨_, by rw [hQ]; exact heap_alloc_new w2 _, World.ownsRow_nil _ _ _ _⟩
  have hQz : Q0.heap.size = w2.heap.size + 1 := by rw [hQ]; simp
  have HLay : Hid (Lay w.heap.size F.heap.size w2.heap.size (w2.heap.size + 1)) := ⟨by omega, by omega, by omega, by omega, by omega⟩
  have HQe : Hid (w2.alloc (.cells #[.slice none 0 0, .map (some F.heap.size)] 73) = Q0) := hQ.symm
  clear hM hb2 hQ HM HB2
  go_wp2
  rw [HQe.out]
  clear HQe
  generalize w2.heap.size = P at hMlt hP1 HPq hQz HLay ⊢
  generalize F.heap.size = M at hFw hMlt HPq HLay HMq ⊢
  go_loopw [19] (fun i wr => ∃ (k : Nat) (done : List ByteArray), k ≤ l.length ∧ i = .int .i64 k ∧ Hid (PR wr P (P + 1) done (.map (some M))) ∧ Hid (Fr P (P + 1) Q0 wr) ∧ Hid (done ++ Sy.progT (l.drop k) = Sy.progT l)) (fun i _ => l.length - (intOf i).toNat)
  case atStart => exact ⟨0, [], Nat.zero_le _, rfl, HPq, Fr.refl _ _ _, by rw [List.drop_zero]; rfl⟩
  case round =>
    obtain ⟨k, done, hk, rfl, HPr, HFr, HD⟩ := hrel
    have hrz := HFr.out.size
    by_cases hlt : k < l.length
    · obtain ⟨d, hd⟩ : ∃ d, l[k]? = some d := ⟨_, List.getElem?_eq_getElem hlt⟩
      have HDg : Hid (DfOk d) := (HA.out.1 d (List.mem_of_getElem? hd)).ok
      have HDn : Hid ((done ++ Sy.dfT d) ++ Sy.progT (l.drop (k + 1)) = Sy.progT l) := by
        have := HD.out
        rw [prog_at hd, ← List.append_assoc] at this
        exact this
      have hnn : done.length + (Sy.dfT d).length ≤ 1000000 := by
        have h2 := congrArg Sy.wt HDn.out
        rw [Sy.wt_app, Sy.wt_app] at h2
        have h3 := HA.out.2
        have h4 := Sy.len_wt done
        have h5 := Sy.len_wt (Sy.dfT d)
        omega
      have HSm : Hid (Go.Proofs.YtlnikpcoejpknaaGreatDoor.Same w.heap.size w wr) := (same_bel HBq.out (Nat.le_refl _)).trans (HFr.out.same (by omega) (by omega) (by omega))
      obtain ⟨b, off, pa, pc, ba, bc, rfl, hb, q0, q1, q2, q3, q4, q5, q6, q7, q8, hin⟩ := (hX.out.same HSm.out).2 k d hd
      obtain ⟨V, hV⟩ : ∃ V, V = wr.alloc (dfO d pa pc ba bc) := ⟨_, rfl⟩
      have HVb : Hid (Below wr.heap.size wr V) := by rw [hV]; exact (Below.refl _ wr).alloc (Nat.le_refl _) _
      have HIn : Hid (DfIn w.heap.size V d pa ba) := hin.same (same_bel HVb.out (by omega))
      have HPv : Hid (PR V P (P + 1) done (.map (some M))) := by rw [hV]; exact HPr.out.alloc _
      have HFv : Hid (Fr P (P + 1) Q0 V) := by rw [hV]; exact HFr.out.trans (Fr.alloc _ _ _ _)
      have HMv : Hid (MpT V M) := HMq.out.fr HFv.out HLay.out.mb HLay.out.mp HLay.out.gp HLay.out.pb
      have hVz : P + 1 ≤ V.heap.size := by rw [hV]; simp; omega
      have HVe : Hid (wr.alloc (dfO d pa pc ba bc) = V) := hV.symm
      clear hin hd hV
      go_wp2_with fail
      rw [HVe.out]
      refine (pdef_any w.heap.size M P (P + 1) HLay.out d pa pc ba bc done V HDg HIn HPv HMv hVz hnn).mono ?_
      rintro e w4 hp
      have HP4 : Hid (PR w4 P (P + 1) (done ++ Sy.dfT d) (.map (some M))) := hp.2.1
      have HF4 : Hid (Fr P (P + 1) Q0 w4) := HFv.out.trans hp.2.2
      obtain rfl := hp.1
      clear hp q0 q1 q2 q3 q4 q5 q6 q7 q8
      go_wp2
      go_roundw
      case rel => exact ⟨k + 1, _, by omega, by go_num, HP4, HF4, HDn⟩
      case measure => simp [intOf]; omega
    · have HDa : Hid (done = Sy.progT l) := by
        have := HD.out
        rw [List.drop_of_length_le (by omega)] at this
        unfold Hid
        simpa [Sy.progT] using this
      have HBr : Hid (Below w.heap.size w wr) := HBq.out.trans (fr_below HFr.out (by omega) (by omega) (by omega))
      have HZ0 : Hid (wr.heap[w.heap.size]? = some Z2C) := HFr.out.block _ _ (by omega) HQ0.out (.inl (by omega))
      obtain ⟨z, hz⟩ : ∃ z, z = joinT (Sy.progT l) := ⟨_, rfl⟩
      have HZ : Hid (joinT done = z) := by rw [hz, HDa.out]; rfl
      have HR2 : Hid ((r, er) = if 6000 < z.size then ((⟨#[]⟩ : ByteArray), 4) else (z, 0)) := by rw [hz]; exact HR
      have hdl : done.length ≤ 1000000 := by
        rw [HDa.out]
        have h3 := HA.out.2
        have h4 := Sy.len_wt (Sy.progT l)
        omega
      have hjl : (Lib.join (done.map (·.data.toList)) [32]).length ≤ 140737488355328 := by
        rw [HDa.out]
        have h3 := HA.out.2
        have h4 := join_len (Sy.progT l)
        omega
      have hzz : z.size ≤ 800000 := by
        have h3 := HA.out.2
        have h4 := join_len (Sy.progT l)
        have h5 : z.size = (Lib.join ((Sy.progT l).map (·.data.toList)) [32]).length := by rw [hz]; exact List.size_toArray
        omega
      clear hz
      go_wp2_with fail
      refine (text_any P (P + 1) done (.map (some M)) wr HPr hdl hjl).mono ?_
      rintro e w5 ⟨he, hb5⟩
      rw [HZ.out] at he
      subst he
      have HB5 : Hid (Below w.heap.size w w5) := bel_next HBr.out hb5 (by omega)
      obtain ⟨c0, c1, f0, f1⟩ := two_cell ((hb5.block _ (by omega)).trans HZ0.out)
      clear hb5 hjl
      by_cases hz6 : 6000 < z.size
      · have HR3 : Hid (r = ⟨#[]⟩ ∧ er = 4) := by
          have h1 := HR2.out
          rw [if_pos hz6] at h1
          exact ⟨congrArg Prod.fst h1, congrArg Prod.snd h1⟩
        have hz7 : 6000 < (z.size : Int) := by omega
        clear hz6
        go_wp2
        refine bodyPost_ret (v := .tuple #[.string ⟨#[]⟩, .agg #[.int .i64 4, .int .i64 0]]) (by simp [results, Tryz.results9, go_sem, c0, c1]) rfl ⟨by rw [HR3.out.1, HR3.out.2], ?_⟩
        exact (HB5.out.setCell (p := ⟨w.heap.size, 0, none⟩) (Nat.le_refl _) _).setCell (p := ⟨w.heap.size, 1, none⟩) (Nat.le_refl _) _
      · have HR3 : Hid (r = z ∧ er = 0) := by
          have h1 := HR2.out
          rw [if_neg hz6] at h1
          exact ⟨congrArg Prod.fst h1, congrArg Prod.snd h1⟩
        have hz7 : (z.size : Int) ≤ 6000 := by omega
        clear hz6
        go_wp2
        refine bodyPost_ret (v := .tuple #[.string z, .agg #[.int .i64 0, .int .i64 0]]) (by simp [results, Tryz.results9, go_sem, c0, c1]) rfl ⟨by rw [HR3.out.1, HR3.out.2], ?_⟩
        exact (HB5.out.setCell (p := ⟨w.heap.size, 0, none⟩) (Nat.le_refl _) _).setCell (p := ⟨w.heap.size, 1, none⟩) (Nat.le_refl _) _

end Go.Proofs.YtlnikpcoejpknaaGreatDoor

/- The walk of Print, of a program with which something is wrong. -/
namespace Go.Proofs.YtlnikpcoejpknaaGreatDoor
open Go.RowKit

set_option maxRecDepth 100000 in
set_option maxHeartbeats 1000000 in
theorem print_wrong (l : List Sy.Df) (a : Option Addr) (c : Nat) (er : Int) (num : Nat) (w : World) (hX : Hid (DfsIn w.heap.size w l a)) (HW : Hid (Sy.wrongL l = (er, num))) (hne : Hid (er ≠ 0)) :
    Calls Tryz.prog 9 #[.slice a l.length c] w fun e w' => e = .returned (.tuple #[.string ⟨#[]⟩, .agg #[.int .i64 er, .int .i64 num]]) ∧ Below w.heap.size w w' := by
  have e0 : (er != 0) = true := by have := hne.out; simp; exact this
  go_enter Tryz.func9, Tryz.ntmps9
  go_wp2_with fail
  refine (wrong_any l a c _ ((hX.out.same (same_bel (bel_one w Z2C) (Nat.le_refl _))).wide (by simp))).mono ?_
  rintro e w1 ⟨rfl, hb1⟩
  rw [HW.out]
  have HB1 : Hid (Below w.heap.size w w1) := bel_next (bel_one w Z2C) hb1 (by simp)
  have hz := hb1.size
  simp at hz
  obtain ⟨Z, hZ⟩ : ∃ Z, Z = w1.alloc (.cells #[.int .i64 er, .int .i64 num] 25) := ⟨_, rfl⟩
  have hZ0 : Z.heap[w.heap.size]? = some Z2C := by rw [hZ, Below.heap_alloc _ _ _ (by omega)]; exact (hb1.block w.heap.size (by simp)).trans (heap_alloc_new w Z2C)
  obtain ⟨c0, c1, f0, f1⟩ := two_cell hZ0
  have g0 : Z.cell? ⟨w1.heap.size, 0, none⟩ = some (.int .i64 er) := by rw [hZ, World.cell?_alloc_mark]; rfl
  have g1 : Z.cell? ⟨w1.heap.size, 1, none⟩ = some (.int .i64 num) := by rw [hZ, World.cell?_alloc_mark]; rfl
  have HZb : Hid (Below w.heap.size w Z) := by rw [hZ]; exact HB1.out.alloc (by omega) _
  have HZe : Hid (w1.alloc (.cells #[.int .i64 er, .int .i64 num] 25) = Z) := hZ.symm
  clear hb1 hZ hZ0
  go_upto_region 3 with fail
  rw [HZe.out]
  go_region
  all_goals go_wp2
  all_goals refine bodyPost_ret (v := .tuple #[.string ⟨#[]⟩, .agg #[.int .i64 er, .int .i64 num]]) (by simp [results, Tryz.results9, go_sem, c0, c1]) rfl ⟨rfl, ?_⟩
  all_goals exact ((HZb.out.setCell (p := ⟨w.heap.size, 0, none⟩) (Nat.le_refl _) _).setCell (p := ⟨w.heap.size, 1, none⟩) (Nat.le_refl _) _).drew

end Go.Proofs.YtlnikpcoejpknaaGreatDoor

/- Programs in memory, out of what an argument reads as. -/
namespace Go.Proofs.YtlnikpcoejpknaaGreatDoor
open Go.RowKit

section
variable {H : Type} {enc : TypeId × Value → H} {w : World} {base : Nat} {spare : Nat → Bool} {held : Bool}

theorem ExIn.mono {B : Nat} {w : World} : ∀ {h h' : Nat} {x : Sy.Ex} {a : Option Addr}, h ≤ h' → ExIn B w h x a → ExIn B w h' x a
  | 0, _, _, _, _, hx => hx.elim
  | h + 1, 0, _, _, hh, _ => by omega
  | h + 1, h' + 1, x, a, hh, hx => ⟨hx.1, hx.2.1, fun i k hk => by
    obtain ⟨b, off, a', c', e, hb, c0, c1, c2, c3, hin⟩ := hx.2.2 i k hk
    exact ⟨b, off, a', c', e, hb, c0, c1, c2, c3, hin.mono (by omega)⟩⟩

theorem StIn.mono {B : Nat} {w : World} : ∀ {h h' : Nat} {s : Sy.St} {xa ba ea : Option Addr}, h ≤ h' → StIn B w h s xa ba ea → StIn B w h' s xa ba ea
  | 0, _, _, _, _, _, _, hx => hx.elim
  | h + 1, 0, _, _, _, _, hh, _ => by omega
  | h + 1, h' + 1, s, xa, ba, ea, hh, hx => ⟨hx.1, hx.2.1, hx.2.2.1, hx.2.2.2.1,
    fun i k hk => by
      obtain ⟨b, off, xa', xc, ba', bc, ea', ec, e, hb, c0, c1, c2, c3, c4, c5, c6, c7, hin⟩ := hx.2.2.2.2.1 i k hk
      exact ⟨b, off, xa', xc, ba', bc, ea', ec, e, hb, c0, c1, c2, c3, c4, c5, c6, c7, hin.mono (by omega)⟩,
    fun i k hk => by
      obtain ⟨b, off, xa', xc, ba', bc, ea', ec, e, hb, c0, c1, c2, c3, c4, c5, c6, c7, hin⟩ := hx.2.2.2.2.2 i k hk
      exact ⟨b, off, xa', xc, ba', bc, ea', ec, e, hb, c0, c1, c2, c3, c4, c5, c6, c7, hin.mono (by omega)⟩⟩

/-- Cells of an element, at an address of the form that the walks read. -/
theorem cells_at {a : Addr} {i n : Nat} {cs : List Value} (hn : 0 < n) (h : w.cells? base (a.add (i * n)) n = some cs) (h0 : a.spot = none) :
    a.block < w.heap.size ∧ ∀ j, j < n → w.cell? ⟨a.block, a.off + i * n + j, none⟩ = cs[j]? := by
  obtain ⟨hb, hl, hc⟩ := World.cells?_some h
  have hadd : ∀ k, a.add k = ⟨a.block, a.off + k, none⟩ := by
    intro k
    unfold Addr.add
    split
    · subst_vars; cases a; simp_all
    · rfl
  have hcell : ∀ j, j < n → w.cell? ⟨a.block, a.off + i * n + j, none⟩ = cs[j]? := by
    intro j hj
    have := hc j hj
    rw [hadd] at this
    rw [← this]
    congr 1
    unfold Addr.add
    split
    · subst_vars; rfl
    · rfl
  refine ⟨?_, hcell⟩
  have h1 := hcell 0 hn
  rw [List.getElem?_eq_getElem (by omega)] at h1
  cases hh : w.heap[a.block]? with
  | none => simp [World.cell?, hh] at h1
  | some o => exact lt_of_block hh

theorem spot_of {a : Addr} {n : Nat} {cs : List Value} (hn : 0 < n) (h : w.cells? base (a.add (0 * n)) n = some cs) : a.spot = none := by
  obtain ⟨hb, hl, hc⟩ := World.cells?_some h
  have h1 := hc 0 hn
  rw [List.getElem?_eq_getElem (by omega)] at h1
  simp only [Nat.zero_mul, Addr.add, if_true] at h1
  unfold World.cell? at h1
  split at h1
  · split at h1
    · simp at h1
    · rename_i hs; simpa using hs
  · simp at h1

theorem list_of {α : Type} {p : Nat → α → Prop} : ∀ (n : Nat), (∀ i, i < n → ∃ y, p i y) → ∃ l : List α, l.length = n ∧ ∀ i y, l[i]? = some y → p i y
  | 0, _ => ⟨[], rfl, fun i y hy => by simp at hy⟩
  | m + 1, hall => by
    obtain ⟨l, h1, h2⟩ := list_of m (fun i hi => hall i (by omega))
    obtain ⟨y, h3⟩ := hall m (by omega)
    refine ⟨l ++ [y], by simp [h1], fun i z hz => ?_⟩
    by_cases hi : i < l.length
    · rw [List.getElem?_append_left hi] at hz; exact h2 i z hz
    · rw [List.getElem?_append_right (by omega)] at hz
      have hi2 : i - l.length = 0 := by
        have := (List.getElem?_eq_some_iff.1 hz).1
        simp at this; omega
      rw [hi2] at hz
      simp at hz
      subst hz
      obtain rfl : i = m := by omega
      exact h3

/-- A slice of whatever lies in n cells each: as a list of what Q says of them. -/
theorem slice_list {α : Type} {t e : TypeId} {n fuel : Nat} {cs : List Value} {x : DataW H × List MemPlace} (Q : Nat → List Value → α → Prop)
    (ht : Tryz.prog.underlying t = some (.slice e)) (hce : Tryz.prog.cellsOf e = n) (hn : 0 < n)
    (hQ : ∀ f cs' x', f < fuel → DataW.trod enc Tryz.prog w base spare held f e cs' = some x' → ∃ y, Q f cs' y)
    (h : DataW.trod enc Tryz.prog w base spare held fuel t cs = some x) :
    ∃ (l : List α) (a : Option Addr) (c : Nat), cs = [.slice a l.length c] ∧ l.length ≤ maxLen ∧
      ∀ i y, l[i]? = some y → ∃ b off cs' f, a = some ⟨b, off, none⟩ ∧ b < w.heap.size ∧ f < fuel ∧ cs'.length = n ∧ Q f cs' y ∧ ∀ j, j < n → w.cell? ⟨b, off + i * n + j, none⟩ = cs'[j]? := by
  rcases DataW.trod_slice ht h with ⟨rfl, _⟩ | ⟨a, len, cap, elems, rest, k, rfl, rfl, _, hb, hl, hm, hlen, hel, _, _⟩
  · exact ⟨[], none, 0, rfl, Nat.zero_le _, fun i y hy => by simp at hy⟩
  · rw [hce] at hel
    have hall : ∀ i, i < len → ∃ cs' y, w.cells? base (a.add (i * n)) n = some cs' ∧ Q k cs' y := by
      intro i hi
      have := hel i hi
      rw [List.getElem?_eq_getElem (by omega)] at this
      obtain ⟨cs', h1, h2⟩ := Option.bind_eq_some_iff.1 this
      obtain ⟨y, hy⟩ := hQ k cs' _ (by omega) h2
      exact ⟨cs', y, h1, hy⟩
    obtain ⟨l, hll, hlq⟩ := list_of (p := fun i y => ∃ cs', w.cells? base (a.add (i * n)) n = some cs' ∧ Q k cs' y) len (fun i hi => by
      obtain ⟨cs', y, h1, h2⟩ := hall i hi
      exact ⟨y, cs', h1, h2⟩)
    refine ⟨l, some a, cap, by rw [hll], by omega, fun i y hy => ?_⟩
    have hi := (List.getElem?_eq_some_iff.1 hy).1
    have hsp : a.spot = none := by
      obtain ⟨cs0, y0, h1, _⟩ := hall 0 (by omega)
      exact spot_of hn h1
    obtain ⟨cs', h1, h2⟩ := hlq i y hy
    obtain ⟨h3, h4⟩ := cells_at hn h1 hsp
    exact ⟨a.block, a.off, cs', k, by cases a; simp_all, h3, by omega, (World.cells?_some h1).2.1, h2, h4⟩

theorem cells_expr : Tryz.prog.cellsOf 64 = 4 := by kernel_rfl
theorem cells_stat : Tryz.prog.cellsOf 66 = 8 := by kernel_rfl
theorem cells_def : Tryz.prog.cellsOf 57 = 9 := by kernel_rfl
theorem cells_param : Tryz.prog.cellsOf 61 = 3 := by kernel_rfl
theorem cells_type : Tryz.prog.cellsOf 53 = 2 := by kernel_rfl
theorem cells_int : Tryz.prog.cellsOf 3 = 1 := by kernel_rfl
theorem cells_i64 : Tryz.prog.cellsOf 2 = 1 := by kernel_rfl
theorem cells_str : Tryz.prog.cellsOf 9 = 1 := by kernel_rfl
theorem cells_exprs : Tryz.prog.cellsOf 62 = 1 := by kernel_rfl
theorem cells_stats : Tryz.prog.cellsOf 55 = 1 := by kernel_rfl
theorem cells_params : Tryz.prog.cellsOf 54 = 1 := by kernel_rfl

theorem fourOp {cs : List Value} (h : cs.length = 4) : ∃ a b c d, cs = [a, b, c, d] := by
  match cs, h with
  | [a, b, c, d], _ => exact ⟨a, b, c, d, rfl⟩

theorem twoOp {cs : List Value} (h : cs.length = 2) : ∃ a b, cs = [a, b] := by
  match cs, h with
  | [a, b], _ => exact ⟨a, b, rfl⟩

theorem threeOp {cs : List Value} (h : cs.length = 3) : ∃ a b c, cs = [a, b, c] := by
  match cs, h with
  | [a, b, c], _ => exact ⟨a, b, c, rfl⟩

theorem eightOp {cs : List Value} (h : cs.length = 8) : ∃ a b c d e f g i, cs = [a, b, c, d, e, f, g, i] := by
  match cs, h with
  | [a, b, c, d, e, f, g, i], _ => exact ⟨a, b, c, d, e, f, g, i, rfl⟩

theorem nineOp {cs : List Value} (h : cs.length = 9) : ∃ a b c d e f g i j, cs = [a, b, c, d, e, f, g, i, j] := by
  match cs, h with
  | [a, b, c, d, e, f, g, i, j], _ => exact ⟨a, b, c, d, e, f, g, i, j, rfl⟩

/-- A field's reading, if the struct reads. -/
theorem field_some {fs : Array Field} {n : Nat} {cs : List Value} {xs : List (DataW H × List MemPlace)} (hl : xs.length = fs.size)
    (h : ∀ (i : Nat) (f : Field), fs[i]? = some f → DataW.trod enc Tryz.prog w base spare held n f.type ((cs.drop f.offset).take (Tryz.prog.cellsOf f.type)) = xs[i]?)
    (i : Nat) (f : Field) (hf : fs[i]? = some f) : ∃ x, DataW.trod enc Tryz.prog w base spare held n f.type ((cs.drop f.offset).take (Tryz.prog.cellsOf f.type)) = some x := by
  have hi : i < fs.size := (Array.getElem?_eq_some_iff.1 hf).1
  exact ⟨xs[i]'(by omega), by rw [h i f hf, List.getElem?_eq_getElem]⟩

theorem type_open {fuel : Nat} {cs : List Value} {x : DataW H × List MemPlace} (h : DataW.trod enc Tryz.prog w base spare held fuel 53 cs = some x) :
    ∃ t : Sy.Ty, cs = [.int .i64 t.kind, .string t.gen] ∧ t.gen.size ≤ maxLen := by
  obtain ⟨xs, n, rfl, _, hl, hxl, hf⟩ := DataW.trod_struct Tryz.underlying53 h
  rw [cells_type] at hl
  obtain ⟨a, b, rfl⟩ := twoOp hl
  obtain ⟨x0, h0⟩ : ∃ x, DataW.trod enc Tryz.prog w base spare held n 3 (([a, b].drop 0).take (Tryz.prog.cellsOf 3)) = some x := field_some hxl hf 0 _ rfl
  obtain ⟨x1, h1⟩ : ∃ x, DataW.trod enc Tryz.prog w base spare held n 9 (([a, b].drop 1).take (Tryz.prog.cellsOf 9)) = some x := field_some hxl hf 1 _ rfl
  simp only [cells_int, cells_str] at h0 h1
  obtain ⟨k, hk, _, _⟩ := DataW.trod_int Tryz.underlying3 h0
  obtain ⟨s, hs, _, hsz⟩ := DataW.trod_string Tryz.underlying9 h1
  simp at hk hs
  exact ⟨⟨k, s⟩, by rw [hk, hs], hsz⟩

theorem expr_open : ∀ (fuel : Nat) (cs : List Value) (x : DataW H × List MemPlace), DataW.trod enc Tryz.prog w base spare held fuel 64 cs = some x →
    ∃ (e : Sy.Ex) (a : Option Addr) (c : Nat), cs = [.int .i64 e.kind, .int .i64 e.n, .string e.name, .slice a e.kids.length c] ∧ ExIn w.heap.size w fuel e a := by
  intro fuel
  induction fuel using Nat.strongRecOn with
  | ind fuel ih =>
    intro cs x h
    obtain ⟨xs, n, rfl, _, hl, hxl, hf⟩ := DataW.trod_struct Tryz.underlying64 h
    rw [cells_expr] at hl
    obtain ⟨a, b, c, d, rfl⟩ := fourOp hl
    obtain ⟨x0, h0⟩ : ∃ x, DataW.trod enc Tryz.prog w base spare held n 3 (([a, b, c, d].drop 0).take (Tryz.prog.cellsOf 3)) = some x := field_some hxl hf 0 _ rfl
    obtain ⟨x1, h1⟩ : ∃ x, DataW.trod enc Tryz.prog w base spare held n 2 (([a, b, c, d].drop 1).take (Tryz.prog.cellsOf 2)) = some x := field_some hxl hf 1 _ rfl
    obtain ⟨x2, h2⟩ : ∃ x, DataW.trod enc Tryz.prog w base spare held n 9 (([a, b, c, d].drop 2).take (Tryz.prog.cellsOf 9)) = some x := field_some hxl hf 2 _ rfl
    obtain ⟨x3, h3⟩ : ∃ x, DataW.trod enc Tryz.prog w base spare held n 62 (([a, b, c, d].drop 3).take (Tryz.prog.cellsOf 62)) = some x := field_some hxl hf 3 _ rfl
    simp only [cells_int, cells_i64, cells_str, cells_exprs] at h0 h1 h2 h3
    obtain ⟨k, hk, _, _⟩ := DataW.trod_int Tryz.underlying3 h0
    obtain ⟨nn, hnn, _, _⟩ := DataW.trod_int Tryz.underlying2 h1
    obtain ⟨s, hs, _, hsz⟩ := DataW.trod_string Tryz.underlying9 h2
    obtain ⟨l, ad, cp, hsl, hlm, hall⟩ := slice_list (n := 4) (fun f cs' (y : Sy.Ex) => ∃ (a : Option Addr) (c : Nat), cs' = [.int .i64 y.kind, .int .i64 y.n, .string y.name, .slice a y.kids.length c] ∧ ExIn w.heap.size w f y a) Tryz.underlying62 cells_expr (by decide) (fun f cs' x' hlt hx' => ih f (by omega) cs' x' hx') h3
    simp at hk hnn hs hsl
    refine ⟨⟨k, nn, s, l⟩, ad, cp, by rw [hk, hnn, hs, hsl], hsz, hlm, fun i y hy => ?_⟩
    obtain ⟨bb, off, cs', f, he, hb, hflt, _, ⟨a', c', rfl, hin⟩, hc⟩ := hall i y hy
    exact ⟨bb, off, a', c', he, hb, hc 0 (by decide), hc 1 (by decide), hc 2 (by decide), hc 3 (by decide), hin.mono (by omega)⟩

theorem stat_open : ∀ (fuel : Nat) (cs : List Value) (x : DataW H × List MemPlace), DataW.trod enc Tryz.prog w base spare held fuel 66 cs = some x →
    ∃ (s : Sy.St) (xa : Option Addr) (xc : Nat) (ba : Option Addr) (bc : Nat) (ea : Option Addr) (ec : Nat),
      cs = [.int .i64 s.kind, .string s.name, .int .i64 s.x.kind, .int .i64 s.x.n, .string s.x.name, .slice xa s.x.kids.length xc, .slice ba s.body.length bc, .slice ea s.els.length ec] ∧ StIn w.heap.size w fuel s xa ba ea := by
  intro fuel
  induction fuel using Nat.strongRecOn with
  | ind fuel ih =>
    intro cs x h
    obtain ⟨xs, n, rfl, _, hl, hxl, hf⟩ := DataW.trod_struct Tryz.underlying66 h
    rw [cells_stat] at hl
    obtain ⟨v0, v1, v2, v3, v4, v5, v6, v7, rfl⟩ := eightOp hl
    obtain ⟨x0, h0⟩ : ∃ x, DataW.trod enc Tryz.prog w base spare held n 3 (([v0, v1, v2, v3, v4, v5, v6, v7].drop 0).take (Tryz.prog.cellsOf 3)) = some x := field_some hxl hf 0 _ rfl
    obtain ⟨x1, h1⟩ : ∃ x, DataW.trod enc Tryz.prog w base spare held n 9 (([v0, v1, v2, v3, v4, v5, v6, v7].drop 1).take (Tryz.prog.cellsOf 9)) = some x := field_some hxl hf 1 _ rfl
    obtain ⟨x2, h2⟩ : ∃ x, DataW.trod enc Tryz.prog w base spare held n 64 (([v0, v1, v2, v3, v4, v5, v6, v7].drop 2).take (Tryz.prog.cellsOf 64)) = some x := field_some hxl hf 2 _ rfl
    obtain ⟨x3, h3⟩ : ∃ x, DataW.trod enc Tryz.prog w base spare held n 55 (([v0, v1, v2, v3, v4, v5, v6, v7].drop 6).take (Tryz.prog.cellsOf 55)) = some x := field_some hxl hf 3 _ rfl
    obtain ⟨x4, h4⟩ : ∃ x, DataW.trod enc Tryz.prog w base spare held n 55 (([v0, v1, v2, v3, v4, v5, v6, v7].drop 7).take (Tryz.prog.cellsOf 55)) = some x := field_some hxl hf 4 _ rfl
    simp only [cells_int, cells_str, cells_expr, cells_stats] at h0 h1 h2 h3 h4
    obtain ⟨k, hk, _, _⟩ := DataW.trod_int Tryz.underlying3 h0
    obtain ⟨s, hs, _, hsz⟩ := DataW.trod_string Tryz.underlying9 h1
    obtain ⟨e, xa, xc, he, hein⟩ := expr_open _ _ _ h2
    have row := fun (cs : List Value) (x : DataW H × List MemPlace) (hx : DataW.trod enc Tryz.prog w base spare held n 55 cs = some x) => slice_list (n := 8) (fun f cs' (y : Sy.St) => ∃ (xa : Option Addr) (xc : Nat) (ba : Option Addr) (bc : Nat) (ea : Option Addr) (ec : Nat), cs' = [.int .i64 y.kind, .string y.name, .int .i64 y.x.kind, .int .i64 y.x.n, .string y.x.name, .slice xa y.x.kids.length xc, .slice ba y.body.length bc, .slice ea y.els.length ec] ∧ StIn w.heap.size w f y xa ba ea) Tryz.underlying55 cells_stat (by decide) (fun f cs' x' hlt hx' => ih f (by omega) cs' x' hx') hx
    obtain ⟨lb, ba, bc, hbsl, hblm, hball⟩ := row _ _ h3
    obtain ⟨le, ea, ec, hesl, helm, heall⟩ := row _ _ h4
    simp at hk hs he hbsl hesl
    obtain ⟨e2, e3, e4, e5⟩ := he
    refine ⟨⟨k, s, e, lb, le⟩, xa, xc, ba, bc, ea, ec, by rw [hk, hs, e2, e3, e4, e5, hbsl, hesl], hsz, ⟨n, hein⟩, hblm, helm, ?_, ?_⟩
    · intro i y hy
      obtain ⟨bb, off, cs', f, hea, hb, hflt, _, ⟨xa', xc', ba', bc', ea', ec', rfl, hin⟩, hc⟩ := hball i y hy
      exact ⟨bb, off, xa', xc', ba', bc', ea', ec', hea, hb, hc 0 (by decide), hc 1 (by decide), hc 2 (by decide), hc 3 (by decide), hc 4 (by decide), hc 5 (by decide), hc 6 (by decide), hc 7 (by decide), hin.mono (by omega)⟩
    · intro i y hy
      obtain ⟨bb, off, cs', f, hea, hb, hflt, _, ⟨xa', xc', ba', bc', ea', ec', rfl, hin⟩, hc⟩ := heall i y hy
      exact ⟨bb, off, xa', xc', ba', bc', ea', ec', hea, hb, hc 0 (by decide), hc 1 (by decide), hc 2 (by decide), hc 3 (by decide), hc 4 (by decide), hc 5 (by decide), hc 6 (by decide), hc 7 (by decide), hin.mono (by omega)⟩

theorem param_open {fuel : Nat} {cs : List Value} {x : DataW H × List MemPlace} (h : DataW.trod enc Tryz.prog w base spare held fuel 61 cs = some x) :
    ∃ p : Sy.Pm, cs = [.string p.name, .int .i64 p.ty.kind, .string p.ty.gen] ∧ p.name.size ≤ maxLen ∧ p.ty.gen.size ≤ maxLen := by
  obtain ⟨xs, n, rfl, _, hl, hxl, hf⟩ := DataW.trod_struct Tryz.underlying61 h
  rw [cells_param] at hl
  obtain ⟨a, b, c, rfl⟩ := threeOp hl
  obtain ⟨x0, h0⟩ : ∃ x, DataW.trod enc Tryz.prog w base spare held n 9 (([a, b, c].drop 0).take (Tryz.prog.cellsOf 9)) = some x := field_some hxl hf 0 _ rfl
  obtain ⟨x1, h1⟩ : ∃ x, DataW.trod enc Tryz.prog w base spare held n 53 (([a, b, c].drop 1).take (Tryz.prog.cellsOf 53)) = some x := field_some hxl hf 1 _ rfl
  simp only [cells_type, cells_str] at h0 h1
  obtain ⟨s, hs, _, hsz⟩ := DataW.trod_string Tryz.underlying9 h0
  obtain ⟨t, ht, htz⟩ := type_open h1
  simp at hs ht
  obtain ⟨e1, e2⟩ := ht
  exact ⟨⟨s, t⟩, by rw [hs, e1, e2], hsz, htz⟩

theorem def_open {fuel : Nat} {cs : List Value} {x : DataW H × List MemPlace} (h : DataW.trod enc Tryz.prog w base spare held fuel 57 cs = some x) :
    ∃ (d : Sy.Df) (pa : Option Addr) (pc : Nat) (ba : Option Addr) (bc : Nat), cs = [.int .i64 d.kind, .string d.name, .int .i64 d.ty.kind, .string d.ty.gen, .int .i64 d.takes.kind, .string d.takes.gen, .int .i64 d.cap, .slice pa d.params.length pc, .slice ba d.body.length bc] ∧ DfIn w.heap.size w d pa ba := by
  obtain ⟨xs, n, rfl, _, hl, hxl, hf⟩ := DataW.trod_struct Tryz.underlying57 h
  rw [cells_def] at hl
  obtain ⟨v0, v1, v2, v3, v4, v5, v6, v7, v8, rfl⟩ := nineOp hl
  obtain ⟨x0, h0⟩ : ∃ x, DataW.trod enc Tryz.prog w base spare held n 3 (([v0, v1, v2, v3, v4, v5, v6, v7, v8].drop 0).take (Tryz.prog.cellsOf 3)) = some x := field_some hxl hf 0 _ rfl
  obtain ⟨x1, h1⟩ : ∃ x, DataW.trod enc Tryz.prog w base spare held n 9 (([v0, v1, v2, v3, v4, v5, v6, v7, v8].drop 1).take (Tryz.prog.cellsOf 9)) = some x := field_some hxl hf 1 _ rfl
  obtain ⟨x2, h2⟩ : ∃ x, DataW.trod enc Tryz.prog w base spare held n 53 (([v0, v1, v2, v3, v4, v5, v6, v7, v8].drop 2).take (Tryz.prog.cellsOf 53)) = some x := field_some hxl hf 2 _ rfl
  obtain ⟨x3, h3⟩ : ∃ x, DataW.trod enc Tryz.prog w base spare held n 53 (([v0, v1, v2, v3, v4, v5, v6, v7, v8].drop 4).take (Tryz.prog.cellsOf 53)) = some x := field_some hxl hf 3 _ rfl
  obtain ⟨x4, h4⟩ : ∃ x, DataW.trod enc Tryz.prog w base spare held n 3 (([v0, v1, v2, v3, v4, v5, v6, v7, v8].drop 6).take (Tryz.prog.cellsOf 3)) = some x := field_some hxl hf 4 _ rfl
  obtain ⟨x5, h5⟩ : ∃ x, DataW.trod enc Tryz.prog w base spare held n 54 (([v0, v1, v2, v3, v4, v5, v6, v7, v8].drop 7).take (Tryz.prog.cellsOf 54)) = some x := field_some hxl hf 5 _ rfl
  obtain ⟨x6, h6⟩ : ∃ x, DataW.trod enc Tryz.prog w base spare held n 55 (([v0, v1, v2, v3, v4, v5, v6, v7, v8].drop 8).take (Tryz.prog.cellsOf 55)) = some x := field_some hxl hf 6 _ rfl
  simp only [cells_int, cells_str, cells_type, cells_stats, cells_params] at h0 h1 h2 h3 h4 h5 h6
  obtain ⟨k, hk, _, _⟩ := DataW.trod_int Tryz.underlying3 h0
  obtain ⟨s, hs, _, hsz⟩ := DataW.trod_string Tryz.underlying9 h1
  obtain ⟨t, ht, htz⟩ := type_open h2
  obtain ⟨u, hu, huz⟩ := type_open h3
  obtain ⟨cp, hcp, _, _⟩ := DataW.trod_int Tryz.underlying3 h4
  obtain ⟨lp, pa, pc, hpsl, hplm, hpall⟩ := slice_list (n := 3) (fun _ cs' (y : Sy.Pm) => cs' = [.string y.name, .int .i64 y.ty.kind, .string y.ty.gen] ∧ y.name.size ≤ maxLen ∧ y.ty.gen.size ≤ maxLen) Tryz.underlying54 cells_param (by decide) (fun f cs' x' _ hx' => param_open hx') h5
  obtain ⟨lb, ba, bc, hbsl, hblm, hball⟩ := slice_list (n := 8) (fun f cs' (y : Sy.St) => ∃ (xa : Option Addr) (xc : Nat) (ba : Option Addr) (bc : Nat) (ea : Option Addr) (ec : Nat), cs' = [.int .i64 y.kind, .string y.name, .int .i64 y.x.kind, .int .i64 y.x.n, .string y.x.name, .slice xa y.x.kids.length xc, .slice ba y.body.length bc, .slice ea y.els.length ec] ∧ StIn w.heap.size w f y xa ba ea) Tryz.underlying55 cells_stat (by decide) (fun f cs' x' _ hx' => stat_open f cs' x' hx') h6
  simp at hk hs ht hu hcp hpsl hbsl
  obtain ⟨e2, e3⟩ := ht
  obtain ⟨e4, e5⟩ := hu
  refine ⟨⟨k, s, t, u, cp, lp, lb⟩, pa, pc, ba, bc, by rw [hk, hs, e2, e3, e4, e5, hcp, hpsl, hbsl], hsz, htz, huz, ⟨hplm, ?_⟩, n, hblm, ?_⟩
  · intro i y hy
    obtain ⟨bb, off, cs', f, hea, hb, hflt, _, ⟨rfl, h1, h2⟩, hc⟩ := hpall i y hy
    exact ⟨bb, off, hea, hb, hc 0 (by decide), hc 1 (by decide), hc 2 (by decide), h1, h2⟩
  · intro i y hy
    obtain ⟨bb, off, cs', f, hea, hb, hflt, _, ⟨xa', xc', ba', bc', ea', ec', rfl, hin⟩, hc⟩ := hball i y hy
    exact ⟨bb, off, xa', xc', ba', bc', ea', ec', hea, hb, hc 0 (by decide), hc 1 (by decide), hc 2 (by decide), hc 3 (by decide), hc 4 (by decide), hc 5 (by decide), hc 6 (by decide), hc 7 (by decide), hin.mono (by omega)⟩

/-- WHAT AN ARGUMENT []Def IS: definitions in memory. -/
theorem defs_open {fuel : Nat} {cs : List Value} {x : DataW H × List MemPlace} (h : DataW.trod enc Tryz.prog w base spare held fuel 22 cs = some x) :
    ∃ (l : List Sy.Df) (a : Option Addr) (c : Nat), cs = [.slice a l.length c] ∧ DfsIn w.heap.size w l a := by
  obtain ⟨l, a, c, hsl, hlm, hall⟩ := slice_list (n := 9) (fun _ cs' (d : Sy.Df) => ∃ (pa : Option Addr) (pc : Nat) (ba : Option Addr) (bc : Nat), cs' = [.int .i64 d.kind, .string d.name, .int .i64 d.ty.kind, .string d.ty.gen, .int .i64 d.takes.kind, .string d.takes.gen, .int .i64 d.cap, .slice pa d.params.length pc, .slice ba d.body.length bc] ∧ DfIn w.heap.size w d pa ba) Tryz.underlying22 cells_def (by decide) (fun f cs' x' _ hx' => def_open hx') h
  refine ⟨l, a, c, hsl, hlm, fun i d hd => ?_⟩
  obtain ⟨bb, off, cs', f, hea, hb, hflt, _, ⟨pa, pc, ba, bc, rfl, hin⟩, hc⟩ := hall i d hd
  exact ⟨bb, off, pa, pc, ba, bc, hea, hb, hc 0 (by decide), hc 1 (by decide), hc 2 (by decide), hc 3 (by decide), hc 4 (by decide), hc 5 (by decide), hc 6 (by decide), hc 7 (by decide), hc 8 (by decide), hin⟩

end
end Go.Proofs.YtlnikpcoejpknaaGreatDoor


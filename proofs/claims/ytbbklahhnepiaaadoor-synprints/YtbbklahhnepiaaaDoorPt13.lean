/- The walk of syn.Print. -/
import Derived.Test.YtbbklahhnepiaaaDoorDz
import Derived.Test.YtbbklahhnepiaaaDoorTx1
import Derived.Test.YtbbklahhnepiaaaDoorWi
import Derived.Test.YtbbklahhnepiaaaDoorPm2
import Derived.Deep.RegionHeld3
namespace Go.Proofs.YtbbklahhnepiaaaDoor
open Go.RowKit

theorem fr_below {P Bs B : Nat} {w w' : World} (h : Fr P Bs w w') (hB : B ≤ P) (hP : P < Bs) (hs : B ≤ w.heap.size) : Below B w w' :=
  ⟨h.os, h.tape, h.output, h.size, fun k hk => by
    obtain ⟨x, hx⟩ : ∃ x, w.heap[k]? = some x := ⟨_, Array.getElem?_eq_getElem (by omega)⟩
    rw [h.block k x (by omega) hx (.inl (by omega)), hx]⟩

theorem tab_lt {w : World} (h : Lib.TabIs Tryd.prog w "internal/strconv.uint64pow10" .u64 Lib.pow10Tab) : 1 < w.heap.size := by
  unfold Lib.TabIs World.var? at h
  rw [pow_global] at h
  simp only [Option.bind_some] at h
  cases ho : w.heap[1]? with
  | none => simp [ho] at h
  | some o => exact lt_of_block ho

theorem join_len (ws : List ByteArray) : (Lib.join (ws.map (·.data.toList)) [32]).length ≤ Sy.wt ws := by
  rw [Sy.join_flat]
  unfold Sy.wt
  simp

set_option maxRecDepth 100000 in
set_option maxHeartbeats 4000000 in
theorem print_right (l : List Sy.Df) (a : Option Addr) (c : Nat) (r : ByteArray) (er : Int) (w : World) (hX : Hid (DfsIn w.heap.size w l a)) (HW : Hid (Sy.wrongL l = (0, 0))) (htab : Hid (Lib.TabIs Tryd.prog w "internal/strconv.uint64pow10" .u64 Lib.pow10Tab)) (hTK : Hid (TabV w 0))
    (HR : Hid ((r, er) = if 6000 < (joinT (Sy.progT l)).size then ((⟨#[]⟩ : ByteArray), 4) else (joinT (Sy.progT l), 0))) :
    Calls Tryd.prog 4 #[.slice a l.length c] w fun e w' => e = .returned (.tuple #[.string r, .agg #[.int .i64 er, .int .i64 0]]) ∧ Below w.heap.size w w' := by
  have HA : Hid ((∀ d ∈ l, DfG d) ∧ Sy.wt (Sy.progT l) ≤ 800000) := (right_all (by rw [HW.out])).2
  have hlen : l.length ≤ 30 := (right_all (l := l) (by rw [HW.out])).1
  go_enter Tryd.func4, Tryd.ntmps4
  go_wp2_with fail
  refine (wrong_any l a c _ ((hX.out.same (same_bel ((Below.refl _ w).alloc (Nat.le_refl _) Z2) (Nat.le_refl _))).wide (by simp))).mono ?_
  rintro e w1 ⟨rfl, hb1⟩
  rw [HW.out]
  obtain ⟨F, hF⟩ : ∃ F, F = w1.alloc Z2 := ⟨_, rfl⟩
  have HFb : Hid (Below w.heap.size w F) := by rw [hF]; exact bel_next (bel_next ((Below.refl _ w).alloc (Nat.le_refl _) Z2) hb1 (by simp)) ((Below.refl _ w1).alloc (Nat.le_refl _) Z2) (by have := hb1.size; simp at this; omega)
  have HF0 : Hid (F.heap[w.heap.size]? = some Z2) := by
    rw [hF]
    unfold Hid
    rw [Below.heap_alloc _ _ _ (by have := hb1.size; simp at this; omega), hb1.block _ (by simp)]
    exact heap_alloc_new w Z2
  have HFe : Hid (w1.alloc Z2 = F) := hF.symm
  have hFw : w.heap.size < F.heap.size := by rw [hF]; have := hb1.size; simp at this ⊢; omega
  clear hF hb1
  go_wp2_with fail
  rw [HFe.out]
  refine (pairsByKind2_any F (hTK.out.keep HFb.out hTK.out.lt)).mono ?_
  rintro e w2 ⟨rfl, hM, hb2⟩
  have HM : Hid (MpK w2 F.heap.size) := hM
  have HB2 : Hid (Below F.heap.size F w2) := hb2
  have hMlt : F.heap.size < w2.heap.size := lt_of_block hM
  have ht1 := tab_lt htab.out
  have hP1 : w.heap.size < w2.heap.size := by omega
  obtain ⟨Q0, hQ⟩ : ∃ Q0, Q0 = w2.alloc (.cells #[.slice none 0 0, .map (some F.heap.size)] 36) := ⟨_, rfl⟩
  have HBq : Hid (Below w.heap.size w Q0) := by rw [hQ]; exact bel_next (bel_next HFb.out HB2.out (by omega)) ((Below.refl _ w2).alloc (Nat.le_refl _) _) (by omega)
  have HQ0 : Hid (Q0.heap[w.heap.size]? = some Z2) := by
    rw [hQ]
    unfold Hid
    rw [Below.heap_alloc _ _ _ (by omega), HB2.out.block _ hFw]
    exact HF0.out
  have HMq : Hid (MpT Q0 F.heap.size) := by
    have h1 : MpK Q0 F.heap.size := by unfold MpK; rw [hQ, Below.heap_alloc _ _ _ hMlt]; exact HM.out
    exact ⟨h1, TabW.below htab.out HBq.out⟩
  have HPq : Hid (PR Q0 w2.heap.size (w2.heap.size + 1) [] (.map (some F.heap.size))) := ⟨_, by rw [hQ]; exact heap_alloc_new w2 _, World.ownsRow_nil _ _ _ _⟩
  have hQz : Q0.heap.size = w2.heap.size + 1 := by rw [hQ]; simp
  have HLay : Hid (Lay w.heap.size F.heap.size w2.heap.size (w2.heap.size + 1)) := ⟨by omega, by omega, by omega, by omega, by omega⟩
  have HQe : Hid (w2.alloc (.cells #[.slice none 0 0, .map (some F.heap.size)] 36) = Q0) := hQ.symm
  clear hM hb2 hQ HM HB2
  go_wp2
  rw [HQe.out]
  clear HQe
  generalize w2.heap.size = P at hMlt hP1 HPq hQz HLay ⊢
  generalize F.heap.size = M at hFw hMlt HPq HLay HMq ⊢
  go_loopw [19] (fun i wr => ∃ (k : Nat) (done : List ByteArray), k ≤ l.length ∧ i = .int .i64 k ∧ Hid (PR wr P (P + 1) done (.map (some M))) ∧ Hid (Fr P (P + 1) Q0 wr) ∧ Hid (done ++ Sy.progT (l.drop k) = Sy.progT l)) (fun i _ => l.length - (intOf i).toNat)
  case atStart => exact ⟨0, [], Nat.zero_le _, rfl, HPq, Fr.refl _ _ _, by rw [List.drop_zero]; rfl⟩
  case round =>
    obtain ⟨k, done, hk, rfl, HPr, HFr, HD⟩ := hrel
    have hrz := HFr.out.size
    by_cases hlt : k < l.length
    · obtain ⟨d, hd⟩ : ∃ d, l[k]? = some d := ⟨_, List.getElem?_eq_getElem hlt⟩
      have HDg : Hid (DfOk d) := (HA.out.1 d (List.mem_of_getElem? hd)).ok
      have HDn : Hid ((done ++ Sy.dfT d) ++ Sy.progT (l.drop (k + 1)) = Sy.progT l) := by
        have := HD.out
        rw [prog_at hd, ← List.append_assoc] at this
        exact this
      have hnn : done.length + (Sy.dfT d).length ≤ 1000000 := by
        have h2 := congrArg Sy.wt HDn.out
        rw [Sy.wt_app, Sy.wt_app] at h2
        have h3 := HA.out.2
        have h4 := Sy.len_wt done
        have h5 := Sy.len_wt (Sy.dfT d)
        omega
      have HSm : Hid (Go.Proofs.YtbbklahhnepiaaaDoor.Same w.heap.size w wr) := (same_bel HBq.out (Nat.le_refl _)).trans (HFr.out.same (by omega) (by omega) (by omega))
      obtain ⟨b, off, pa, pc, ba, bc, rfl, hb, q0, q1, q2, q3, q4, q5, q6, q7, q8, hin⟩ := (hX.out.same HSm.out).2 k d hd
      obtain ⟨V, hV⟩ : ∃ V, V = wr.alloc (dfO d pa pc ba bc) := ⟨_, rfl⟩
      have HVb : Hid (Below wr.heap.size wr V) := by rw [hV]; exact (Below.refl _ wr).alloc (Nat.le_refl _) _
      have HIn : Hid (DfIn w.heap.size V d pa ba) := hin.same (same_bel HVb.out (by omega))
      have HPv : Hid (PR V P (P + 1) done (.map (some M))) := by rw [hV]; exact HPr.out.alloc _
      have HFv : Hid (Fr P (P + 1) Q0 V) := by rw [hV]; exact HFr.out.trans (Fr.alloc _ _ _ _)
      have HMv : Hid (MpT V M) := HMq.out.fr HFv.out HLay.out.mb HLay.out.mp HLay.out.gp HLay.out.pb
      have hVz : P + 1 ≤ V.heap.size := by rw [hV]; simp; omega
      have HVe : Hid (wr.alloc (dfO d pa pc ba bc) = V) := hV.symm
      clear hin hd hV
      go_wp2_with fail
      rw [HVe.out]
      refine (pdef_any w.heap.size M P (P + 1) HLay.out d pa pc ba bc done V HDg HIn HPv HMv hVz hnn).mono ?_
      rintro e w4 hp
      have HP4 : Hid (PR w4 P (P + 1) (done ++ Sy.dfT d) (.map (some M))) := hp.2.1
      have HF4 : Hid (Fr P (P + 1) Q0 w4) := HFv.out.trans hp.2.2
      obtain rfl := hp.1
      clear hp q0 q1 q2 q3 q4 q5 q6 q7 q8
      go_wp2
      go_roundw
      case rel => exact ⟨k + 1, _, by omega, by go_num, HP4, HF4, HDn⟩
      case measure => simp [intOf]; omega
    · have HDa : Hid (done = Sy.progT l) := by
        have := HD.out
        rw [List.drop_of_length_le (by omega)] at this
        unfold Hid
        simpa [Sy.progT] using this
      have HBr : Hid (Below w.heap.size w wr) := HBq.out.trans (fr_below HFr.out (by omega) (by omega) (by omega))
      have HZ0 : Hid (wr.heap[w.heap.size]? = some Z2) := HFr.out.block _ _ (by omega) HQ0.out (.inl (by omega))
      obtain ⟨z, hz⟩ : ∃ z, z = joinT (Sy.progT l) := ⟨_, rfl⟩
      have HZ : Hid (joinT done = z) := by rw [hz, HDa.out]; rfl
      have HR2 : Hid ((r, er) = if 6000 < z.size then ((⟨#[]⟩ : ByteArray), 4) else (z, 0)) := by rw [hz]; exact HR
      have hdl : done.length ≤ 1000000 := by
        rw [HDa.out]
        have h3 := HA.out.2
        have h4 := Sy.len_wt (Sy.progT l)
        omega
      have hjl : (Lib.join (done.map (·.data.toList)) [32]).length ≤ 140737488355328 := by
        rw [HDa.out]
        have h3 := HA.out.2
        have h4 := join_len (Sy.progT l)
        omega
      have hzz : z.size ≤ 800000 := by
        have h3 := HA.out.2
        have h4 := join_len (Sy.progT l)
        have h5 : z.size = (Lib.join ((Sy.progT l).map (·.data.toList)) [32]).length := by rw [hz]; exact List.size_toArray
        omega
      clear hz
      go_wp2_with fail
      refine (text_any P (P + 1) done (.map (some M)) wr HPr hdl hjl).mono ?_
      rintro e w5 ⟨he, hb5⟩
      rw [HZ.out] at he
      subst he
      have HB5 : Hid (Below w.heap.size w w5) := bel_next HBr.out hb5 (by omega)
      obtain ⟨c0, c1, f0, f1⟩ := two_cell ((hb5.block _ (by omega)).trans HZ0.out)
      clear hb5 hjl
      by_cases hz6 : 6000 < z.size
      · have HR3 : Hid (r = ⟨#[]⟩ ∧ er = 4) := by
          have h1 := HR2.out
          rw [if_pos hz6] at h1
          exact ⟨congrArg Prod.fst h1, congrArg Prod.snd h1⟩
        have hz7 : 6000 < (z.size : Int) := by omega
        clear hz6
        go_wp2
        refine bodyPost_ret (v := .tuple #[.string ⟨#[]⟩, .agg #[.int .i64 4, .int .i64 0]]) (by simp [results, Tryd.results4, go_sem, c0, c1]) rfl ⟨by rw [HR3.out.1, HR3.out.2], ?_⟩
        exact (HB5.out.setCell (p := ⟨w.heap.size, 0, none⟩) (Nat.le_refl _) _).setCell (p := ⟨w.heap.size, 1, none⟩) (Nat.le_refl _) _
      · have HR3 : Hid (r = z ∧ er = 0) := by
          have h1 := HR2.out
          rw [if_neg hz6] at h1
          exact ⟨congrArg Prod.fst h1, congrArg Prod.snd h1⟩
        have hz7 : (z.size : Int) ≤ 6000 := by omega
        clear hz6
        go_wp2
        refine bodyPost_ret (v := .tuple #[.string z, .agg #[.int .i64 0, .int .i64 0]]) (by simp [results, Tryd.results4, go_sem, c0, c1]) rfl ⟨by rw [HR3.out.1, HR3.out.2], ?_⟩
        exact (HB5.out.setCell (p := ⟨w.heap.size, 0, none⟩) (Nat.le_refl _) _).setCell (p := ⟨w.heap.size, 1, none⟩) (Nat.le_refl _) _

end Go.Proofs.YtbbklahhnepiaaaDoor

/- The walk of the document's Wrong. -/
import Derived.Test.YtbbklahhnepiaaaDoorRc4
namespace Go.Proofs.YtbbklahhnepiaaaDoor
open Go.RowKit

/-- A fault's block holds what is answered. -/
theorem set_two {w : World} {b : Nat} {v0 v1 u0 u1 : Value} {t : TypeId} (h : w.heap[b]? = some (.cells #[v0, v1] t (0, 0))) :
    ((w.setCell ⟨b, 0, none⟩ u0).setCell ⟨b, 1, none⟩ u1).cell? ⟨b, 0, none⟩ = some u0 ∧ ((w.setCell ⟨b, 0, none⟩ u0).setCell ⟨b, 1, none⟩ u1).cell? ⟨b, 1, none⟩ = some u1 := by
  have hl := lt_of_block h
  constructor <;> simp [World.cell?, World.setCell, Array.getElem?_modify, h]

set_option maxRecDepth 100000 in
set_option maxHeartbeats 2000000 in
theorem rwrong_any (l : List Sy.Df) (a : Option Addr) (c : Nat) (w : World) (hX : DfsIn w.heap.size w l a) :
    Calls Tryd.prog 7 #[.slice a l.length c] w fun e w' => e = .returned (.agg #[.int .i64 (Sy.wrongL l).1, .int .i64 (Sy.wrongL l).2]) ∧ Below w.heap.size w w' := by
  obtain ⟨er, her⟩ : ∃ er, er = (Sy.wrongL l).1 := ⟨_, rfl⟩
  obtain ⟨num, hnum⟩ : ∃ num, num = (Sy.wrongL l).2 := ⟨_, rfl⟩
  have HR : Hid ((er, num) = Sy.wrongL l) := by rw [her, hnum]; rfl
  rw [← her, ← hnum]
  clear her hnum
  have HX : Hid (DfsIn w.heap.size w l a) := hX
  have hlen := hX.1
  unfold maxLen at hlen
  clear hX
  by_cases h30 : 30 < l.length
  · have HT : Hid (er = 5 ∧ num = 0) := by
      have := HR.out; unfold Sy.wrongL at this; rw [if_pos h30] at this; exact ⟨congrArg Prod.fst this, congrArg Prod.snd this⟩
    have g30 : 30 < (l.length : Int) := by omega
    clear h30
    go_enter Tryd.func7, Tryd.ntmps7
    go_wp2
    refine bodyPost_ret (v := .agg #[.int .i64 5, .int .i64 0]) (by simp [results, Tryd.results7, go_sem]) rfl ⟨by rw [HT.out.1, HT.out.2]; rfl, ?_⟩
    exact (Below.refl _ w).alloc (Nat.le_refl _) _
  · have HT : Hid ((er, num) = Sy.defsW l 0 0) := by have := HR.out; unfold Sy.wrongL at this; rw [if_neg h30] at this; exact this
    have g30 : (l.length : Int) ≤ 30 := by omega
    clear h30
    go_enter Tryd.func7, Tryd.ntmps7
    go_wp2
    go_loopw [14] (fun i wr => ∃ k m : Nat, k ≤ l.length ∧ i = .int .i64 k ∧ m ≤ 2000 ∧ Hid (CT wr (w.heap.size + 1) m) ∧ Hid (wr.heap[w.heap.size]? = some Z2) ∧ Hid (w.grownBy wr none) ∧ Hid ((er, num) = Sy.defsW (l.drop k) k m)) (fun i _ => l.length - (intOf i).toNat)
    case atStart =>
      refine ⟨0, 0, Nat.zero_le _, rfl, Nat.zero_le _, ?_, ?_, ?_, by rw [List.drop_zero]; exact HT⟩
      · have := heap_alloc_new (w.alloc Z2) (.cells #[.int .i64 0] 56)
        simpa [CT, Hid] using this
      · unfold Hid; rw [Below.heap_alloc _ _ _ (by simp)]; exact heap_alloc_new w _
      · exact grown_trans (World.grownBy_alloc _ _ _) (World.grownBy_alloc _ _ _)
    case round =>
      obtain ⟨k, m, hk, rfl, hm, HCr, HFr, HGr, HRr⟩ := hrel
      by_cases hlt : k < l.length
      · obtain ⟨d, hd⟩ : ∃ d, l[k]? = some d := ⟨_, List.getElem?_eq_getElem hlt⟩
        have HD : Hid (l[k]? = some d) := hd
        obtain ⟨b, off, pa, pc, ba, bc, rfl, hb, c0, c1, c2, c3, c4, c5, c6, c7, c8, hin⟩ := HX.out.2 k d hd
        have hsame := same_grown (B := w.heap.size) HGr.out (by simp) (Nat.le_refl _)
        rw [← hsame _ _ hb] at c0 c1 c2 c3 c4 c5 c6 c7 c8
        have HIn : Hid (DfIn w.heap.size wr d pa ba) := hin.same hsame
        clear hin hsame hd
        obtain ⟨r2, hr2⟩ : ∃ r2, r2 = Sy.dfW d m := ⟨_, rfl⟩
        have HR2 : Hid (r2 = Sy.dfW d m) := hr2
        clear hr2
        go_wp2_with fail
        refine (rdef_any (w.heap.size + 1) w.heap.size (by omega) d pa pc ba bc m r2 _ HIn HCr hm HR2).mono ?_
        rintro e w3 ⟨hg, hf⟩
        have HG4 : Hid (w.grownBy w3 none) :=
          ⟨hg.os.trans HGr.out.os, hg.tape.trans HGr.out.tape, hg.output.trans HGr.out.output, Nat.le_trans HGr.out.size hg.size, fun j hj _ => (hg.block j (by have := HGr.out.size; omega) (by simp; omega)).trans (HGr.out.block j hj (by simp))⟩
        have HF3 : Hid (w3.heap[w.heap.size]? = some Z2) := box_on HFr.out hg (by simp)
        cases r2 with
        | ok m2 =>
          obtain ⟨rfl, hck⟩ := hf
          have HC4 : Hid (CT w3 (w.heap.size + 1) m2) := hck
          have hm2 : m2 ≤ 2000 := dfW_le HR2.out.symm
          have HR3 : Hid ((er, num) = Sy.defsW (l.drop (k + 1)) (k + 1) m2) := HRr.out.trans (defs_ok HD.out HR2.out.symm)
          clear hg hck c0 c1 c2 c3 c4 c5 c6 c7 c8
          go_wp2
          go_roundw
          case rel => exact ⟨k + 1, m2, by omega, by go_num, hm2, HC4, HF3, HG4, HR3⟩
          case measure => simp [intOf]; omega
        | error er2 =>
          obtain ⟨rfl, hne⟩ := hf
          have HR3 : Hid (er = er2 ∧ num = k) := by
            have := HRr.out.trans (defs_err HD.out HR2.out.symm)
            exact ⟨congrArg Prod.fst this, congrArg Prod.snd this⟩
          have e0 : (er2 != 0) = true := by simp; exact hne
          obtain ⟨q0, q1, q2, q3⟩ := two_cell HF3.out
          clear hg hne c0 c1 c2 c3 c4 c5 c6 c7 c8
          go_wp2
          refine bodyPost_ret (v := .agg #[.int .i64 er2, .int .i64 k]) (by simp [results, Tryd.results7, go_sem, q0, q1]) rfl ⟨by rw [HR3.out.1, HR3.out.2], ?_⟩
          have hbel : Below w.heap.size w w3 := ⟨HG4.out.os, HG4.out.tape, HG4.out.output, HG4.out.size, fun k hk => HG4.out.block k hk (by simp)⟩
          exact (hbel.setCell (p := ⟨w.heap.size, 0, none⟩) (Nat.le_refl _) _).setCell (p := ⟨w.heap.size, 1, none⟩) (Nat.le_refl _) _
      · have HR3 : Hid (er = 0 ∧ num = 0) := by
          have := HRr.out
          rw [List.drop_of_length_le (by omega)] at this
          exact ⟨congrArg Prod.fst this, congrArg Prod.snd this⟩
        obtain ⟨q0, q1, q2, q3⟩ := two_cell HFr.out
        go_wp2
        refine bodyPost_ret (v := .agg #[.int .i64 0, .int .i64 0]) (by simp [results, Tryd.results7, go_sem, q0, q1]) rfl ⟨by rw [HR3.out.1, HR3.out.2]; rfl, ?_⟩
        have hbel : Below w.heap.size w wr := ⟨HGr.out.os, HGr.out.tape, HGr.out.output, HGr.out.size, fun k hk => HGr.out.block k hk (by simp)⟩
        exact (hbel.setCell (p := ⟨w.heap.size, 0, none⟩) (Nat.le_refl _) _).setCell (p := ⟨w.heap.size, 1, none⟩) (Nat.le_refl _) _

end Go.Proofs.YtbbklahhnepiaaaDoor

/- The walk of program. -/
import Derived.Test.YtlnikpcoejpknaaGreatDoorM29
import Derived.Test.YtlnikpcoejpknaaGreatDoorM12
import Derived.Deep.LoopGhost
namespace Go.Proofs.YtlnikpcoejpknaaGreatDoor
open Go.RowKit

theorem begins_df : Begins 36 Rp.bgDf := fun t u _ => beginsDef_any t u


set_option maxRecDepth 100000 in
set_option maxHeartbeats 2000000 in
theorem program_f (E : Env) (G : Good E) (op : Int) (hT : Hid (CDf E op 37 (Rp.df E.l E.en))) (r : Res (List Sy.Df)) (w : World) (h : Hid (Rdy E w 0 op)) (hr : Hid (r = Rp.program E.l E.en)) :
    Calls Tryz.prog 16 #[.pointer (some ⟨E.R, 0, none⟩)] w fun e w' => Ends E op w r (PgV w) e w' := by
  have hR := h.out.lt
  have hfew := G.few
  obtain ⟨i0, hi, hz0, hz1, hz2⟩ := info_parts Tryz.info57
  have HS0 : Hid (PgAt E op w r [] 0 (E.l.length + 1) (.slice none 0 0) w) := ⟨World.ownsRow_nil _ _ _ _, fun it hit => by simp at hit, h.out, Nat.zero_le _, grown_bel (Below.refl _ w), hr.out, by omega, Nat.zero_le _⟩
  go_enter Tryz.func16, Tryz.ntmps16
  go_wp2
  go_loopw [3] (fun v wr => ∃ its q fu, PgAt E op w r its q fu v wr) (fun v _ => E.l.length + 1 - lenV v)
  case atStart => exact ⟨[], 0, _, HS0.out⟩
  case round =>
    obtain ⟨its, q, fu, hA⟩ := hrel
    clear HS0
    have HA := hide2 hA
    have hq := hA.le
    have HD3 := hide2 hA.rdy
    obtain ⟨av, cv, hv⟩ : ∃ a c, u3 = .slice a its.length c := by
      rcases hA.own.2 with ⟨rfl, h0⟩ | ⟨g, cap, cur, rfl, _⟩
      · rw [h0]; exact ⟨_, _, rfl⟩
      · exact ⟨_, _, rfl⟩
    subst hv
    have hil := hA.few
    obtain ⟨f', hf'⟩ : ∃ f', fu = f' + 1 := ⟨fu - 1, by have := hA.fuel; omega⟩
    subst hf'
    clear hA
    obtain ⟨t, ht⟩ : ∃ t, t = decide (q = E.l.length) := ⟨_, rfl⟩
    have HT := hide2 ht
    have HE3 : Hid (r = if E.l.length ≤ q then .ok (q, its.map (·.1)) else match limitL Rp.bgDf (its.map (·.1)).length 30 (pk E.l q E.en) q with
      | .error e => .error e
      | .ok _ => Rp.andThen (Rp.df E.l E.en q) fun q s => Rp.dfs E.l E.en f' ((its.map (·.1)) ++ [s]) q) := by rw [HA.out.eq]; rfl
    clear ht
    go_wp2_with fail
    refine (atEnd_any E.R E.ta E.tc E.l q E.en _ op t _ (hide2 HD3.out.rd) HT).mono ?_
    rintro e w3 ⟨rfl, hb3⟩
    have HG3 := hide2 (grown_bel (R := E.R) hb3)
    have HD4 := hide2 (HD3.out.on G hb3)
    clear hb3
    cases t with
    | true =>
      have hqe : q = E.l.length := by have := HT.out; simpa using this
      have HRr : Hid (r = .ok (q, its.map (·.1))) := by unfold Hid; rw [HE3.out, if_pos (by omega)]
      clear hqe
      go_wp2
      go_ret
      refine ⟨grown_tr HA.out.grown HG3.out, ?_⟩
      rw [HRr.out]
      exact ⟨⟨_, rfl, HA.out.out hR hfew HG3.out⟩, HD4.out⟩
    | false =>
      have hqe : ¬ E.l.length ≤ q := by have := HT.out; simp at this; omega
      obtain ⟨r4, hr4⟩ : ∃ r4, r4 = atP () (limitL Rp.bgDf its.length 30 (pk E.l q E.en) q) := ⟨_, rfl⟩
      have HR4 := hide2 hr4
      have HE4 : Hid ((∀ e, r4 = .error e → r = .error e) ∧ (∀ x, r4 = .ok x → r = Rp.andThen (Rp.df E.l E.en q) fun q s => Rp.dfs E.l E.en f' ((its.map (·.1)) ++ [s]) q)) := by
        have h3 := HE3.out
        rw [List.length_map, if_neg hqe] at h3
        unfold Hid
        rw [hr4]
        cases hl : limitL Rp.bgDf its.length 30 (pk E.l q E.en) q with
        | error e => rw [hl] at h3; exact ⟨fun e' he => by simp [atP] at he; rw [← he]; exact h3, fun x hx => by simp [atP] at hx⟩
        | ok x => rw [hl] at h3; exact ⟨fun e' he => by simp [atP] at he, fun x hx => h3⟩
      clear hr4 hqe
      go_wp2_with fail
      refine (limit_f E G q _ 36 Rp.bgDf _ 30 r4 _ HD4 hq (fun a w => by simp [go_sem]) (hide2 begins_df) HR4).mono ?_
      rintro e w4 ⟨hg4, hf4⟩
      have HG4 := hide2 (grown_tr HG3.out hg4)
      have HGE : Hid (w.grownBy w4 (some E.R)) := grown_tr HA.out.grown HG4.out
      clear hg4
      cases r4 with
      | error er =>
        obtain ⟨e1, e2⟩ := er
        obtain ⟨rfl, hde⟩ := hf4
        have HDE := hide2 hde
        have HRr : Hid (r = .error (e1, e2)) := (HE4.out.1 _ rfl)
        clear hde
        go_wp2
        exact ⟨rfl, HGE.out, by rw [HRr.out]; exact ⟨rfl, HDE.out⟩⟩
      | ok qx =>
        obtain ⟨q4, u4⟩ := qx
        have hqq : q4 = q := by
          have := HR4.out
          unfold limitL at this
          split at this
          · simp [atP] at this
          · simp [atP] at this; exact this
        obtain ⟨⟨v, rfl, rfl⟩, hd4⟩ := hf4
        rw [hqq] at hd4
        have HD5 := hide2 hd4
        obtain ⟨r5, hr5⟩ : ∃ r5, r5 = Rp.df E.l E.en q := ⟨_, rfl⟩
        have HR5 := hide2 hr5
        have HE5 : Hid (r = Rp.andThen r5 fun q s => Rp.dfs E.l E.en f' ((its.map (·.1)) ++ [s]) q) := by rw [HE4.out.2 _ rfl, hr5]; rfl
        have HA5 : Hid (∀ q' x, r5 = .ok (q', x) → q < q' ∧ q' ≤ E.l.length) := fun q' x hx => Rp.df_adv E.l E.en q q' x hq (by rw [← hr5, hx])
        clear hr5 hd4 hqq HGE
        go_wp2_with fail
        refine (hT.out q r5 _ HD5 hq HR5).mono ?_
        rintro e w5 ⟨hg5, hf5⟩
        have HG5 := hide2 hg5
        have HGE : Hid (w.grownBy w5 (some E.R)) := grown_tr HA.out.grown (grown_tr HG4.out hg5)
        clear hg5
        cases r5 with
        | error er =>
          obtain ⟨e1, e2⟩ := er
          obtain ⟨rfl, hde⟩ := hf5
          have HDE := hide2 hde
          have HRr : Hid (r = .error (e1, e2)) := HE5.out
          clear hde
          go_wp2
          exact ⟨rfl, HGE.out, by rw [HRr.out]; exact ⟨rfl, HDE.out⟩⟩
        | ok qx =>
          obtain ⟨q5, s⟩ := qx
          obtain ⟨⟨v, rfl, pa, pc, ba, bc, rfl, hsq⟩, hd5⟩ := hf5
          have HSQ := hide2 hsq
          have HD6 := hide2 hd5
          have HQ5 := hide2 (HA5.out q5 s rfl)
          have hq5 := HQ5.out.2
          have HOWN := hide2 (HA.out.kept hR (grown_tr HG4.out HG5.out)).1
          have hs5 := HGE.out.size
          clear hsq hd5
          go_wp2_with (at_builtin; refine wpList_append_where rfl _ _ 22 rfl w.heap.size 57 i0 _ 9 128 Tryz.underlying22 hi hz0 hz1 hz2 rfl (by decide) _ its.length (cells9 its) rfl (HOWN.out.alloc _) ⟨w5.heap.size, 0, none⟩ 1 1 (itc9 (s, (pa, pc), (ba, bc))) rfl rfl (itc9_news _ (s, (pa, pc), (ba, bc)) _) (itc9_one _) (by decide) (by unfold maxLen; omega) (by omega) (by simp; omega) ?_; intro g cap w6 hown6 hgr6 hw6)
          have HN := hide2 (HA.out.next (it := (s, (pa, pc), (ba, bc))) G h.out HG4.out HG5.out HD6.out HSQ.out HQ5.out HE5.out hown6 hgr6 hw6)
          clear hown6 hgr6 hw6
          go_wp2
          go_roundw
          case rel => exact ⟨_, q5, f', HN.out⟩
          case measure => simp [lenV]; omega

/-- WHAT reader.program ANSWERS. -/
theorem prog_f (E : Env) (G : Good E) (r : Res (List Sy.Df)) (w : World) (h : Hid (Rdy E w 0 0)) (hr : Hid (r = Rp.program E.l E.en)) : Calls Tryz.prog 16 #[.pointer (some ⟨E.R, 0, none⟩)] w fun e w' => Ends E 0 w r (PgV w) e w' :=
  have hB := hide2 (bd_f E G)
  program_f E G 0 (hide2 (def_f E G 0 hB (hide2 (box_f E G 0)) (hide2 (function_f E G 0 hB)) (hide2 (generator_f E G 0 hB)))) r w h hr

end Go.Proofs.YtlnikpcoejpknaaGreatDoor

/- The walk of pairsByKind, whatever type its variable's block bears. -/
namespace Go.Proofs.YtlnikpcoejpknaaGreatDoor
open Go.RowKit

/-- The package-level variable holds the table. -/
def TabV (w : World) (G : Nat) : Prop := ∃ t fr, w.heap[G]? = some (.cells tableCells.toArray t fr)
theorem TabV.keep {w w' : World} {G B : Nat} (h : TabV w G) (hb : Below B w w') (hG : G < B) : TabV w' G := h.elim fun t h => h.elim fun fr h => ⟨t, fr, (hb.block G hG).trans h⟩
theorem TabV.lt {w : World} {G : Nat} (h : TabV w G) : G < w.heap.size := h.elim fun _ h => h.elim fun _ h => lt_of_block h

set_option maxRecDepth 100000 in
set_option maxHeartbeats 2000000 in
theorem pairsByKind2_any (w : World) (hT : TabV w 0) :
    Calls Tryz.prog 24 #[] w fun e w' => e = .returned (.map (some w.heap.size)) ∧ MpK w' w.heap.size ∧ Below w.heap.size w w' := by
  have hmm : ∀ w : World, (Instr.makeMap 67 Option.none).run Tryz.prog w = .ok (.map (some w.heap.size)) (w.alloc (.map #[] 0)) := fun _ => rfl
  have h0 := hT.lt
  obtain ⟨tt, fr, hT1⟩ : TabV (w.alloc (.map #[] 0)) 0 := hT.keep ((Below.refl _ w).alloc (Nat.le_refl _) _) h0
  obtain ⟨cs, hcs⟩ : ∃ cs, cs = tableCells.toArray := ⟨_, rfl⟩
  rw [← hcs] at hT1
  have hI : (Tryz.prog.info? 88).map (·.size) = some 39 := by kernel_rfl
  have HI : Hid ((Tryz.prog.info? 88).map (·.size) = some cs.size) := by rw [hcs]; exact hI
  have HT : Hid ((w.alloc (.map #[] 0)).heap[0]? = some (.cells cs tt fr)) := hT1
  have HX : Hid (∀ (k : Nat) p, Sy.table[k]? = some p → ∀ w : World, (Instr.index 88 (.agg cs) (.int .i64 (k : Int))).run Tryz.prog w = .ok (pairV p) w) := by rw [hcs]; exact fun k p hp w => index_table k p hp w
  clear hT hT1 hcs hI
  go_enter Tryz.func24, Tryz.ntmps24
  go_wp2_with (refine wpList_load_row rfl 88 (.global 0) rfl 0 rfl tt cs fr _ HT.out Tryz.underlying88 rfl HI.out ?_)
  go_loopw [6] (fun i wr => ∃ k : Nat, k ≤ 13 ∧ i = .int .i64 k ∧ Hid (wr.heap[w.heap.size]? = some (.map (entries.take k).toArray k)) ∧ Hid (Below w.heap.size w wr)) (fun i _ => 13 - (intOf i).toNat)
  case atStart => exact ⟨0, by omega, rfl, heap_alloc_new w _, (Below.refl _ w).alloc (Nat.le_refl _) _⟩
  case round =>
    obtain ⟨k, hk, rfl, HM, HB⟩ := hrel
    by_cases hk13 : k < 13
    · obtain ⟨p, hp⟩ : ∃ p, Sy.table[k]? = some p := ⟨_, List.getElem?_eq_getElem (by simpa [Sy.table] using hk13)⟩
      have hix := HX.out k p hp
      have HM1 : (wr.alloc (.cells #[.int .i64 p.1, .string p.2.1, .int .i64 p.2.2] 87)).heap[w.heap.size]? = some (.map (entries.take k).toArray k) := (Below.heap_alloc _ _ _ (lt_of_block HM.out)).trans HM.out
      have hup := upd_run w.heap.size k _ p hp HM1
      obtain ⟨W2, hW2⟩ : ∃ W2 : World, W2 = { (wr.alloc (.cells #[.int .i64 p.1, .string p.2.1, .int .i64 p.2.2] 87)) with heap := (wr.alloc (.cells #[.int .i64 p.1, .string p.2.1, .int .i64 p.2.2] 87)).heap.setIfInBounds w.heap.size (.map (entries.take (k + 1)).toArray (k + 1)) } := ⟨_, rfl⟩
      rw [← hW2] at hup
      obtain ⟨m1, m2⟩ := map_set (o' := .map (entries.take (k + 1)).toArray (k + 1)) HM1 w.heap.size (Nat.le_refl _)
      rw [← hW2] at m1 m2
      have HM2 : Hid (W2.heap[w.heap.size]? = some (.map (entries.take (k + 1)).toArray (k + 1))) := m1
      have HB2 : Hid (Below w.heap.size w W2) := (HB.out.alloc (by have := HB.out.size; omega) _).trans m2
      clear hp HM1 hW2 m1 m2
      go_wp2
      go_roundw
      case rel => exact ⟨k + 1, by omega, by go_num, HM2, HB2⟩
      case measure => simp [intOf]; omega
    · go_wp2
      go_ret
      obtain rfl : k = 13 := by omega
      exact ⟨rfl, HM.out, HB.out⟩

end Go.Proofs.YtlnikpcoejpknaaGreatDoor

/- The walk of pairsByText. -/
namespace Go.Proofs.YtlnikpcoejpknaaGreatDoor
open Go.RowKit

theorem upd_runT (M k : Nat) (w : World) (p : Int × ByteArray × Int) (hp : Sy.table[k]? = some p) (h : w.heap[M]? = some (.map (entriesT.take k).toArray k)) :
    (Instr.mapUpdate 41 (.map (some M)) (.string p.2.1) (pairV p)).run Tryz.prog w = .ok () { w with heap := w.heap.setIfInBounds M (.map (entriesT.take (k + 1)).toArray (k + 1)) } := by
  have hg : (getObj M).run Tryz.prog w = .ok (.map (entriesT.take k).toArray k) w := by simp [getObj, Sem.run, h]
  have hc : ∀ b, (Instr.checkKey b 10000 9 (.string p.2.1)).run Tryz.prog w = .ok () w := fun b => MapKept.run_checkKey (n := 9999) Tryz.underlying9 (by simp [MapKept.IsKey]) b
  have hu := run_underlying (w := w) Tryz.underlying41
  have hk13 : k < 13 := by have := (List.getElem?_eq_some_iff.1 hp).1; simpa [Sy.table] using this
  have hf : Instr.findNow .string (.string p.2.1) (entriesT.take k) 0 = some none := by
    rcases (show k = 0 ∨ k = 1 ∨ k = 2 ∨ k = 3 ∨ k = 4 ∨ k = 5 ∨ k = 6 ∨ k = 7 ∨ k = 8 ∨ k = 9 ∨ k = 10 ∨ k = 11 ∨ k = 12 by omega) with rfl | rfl | rfl | rfl | rfl | rfl | rfl | rfl | rfl | rfl | rfl | rfl | rfl <;>
      (simp only [Sy.table, List.getElem?_cons_zero, List.getElem?_cons_succ, Option.some.injEq] at hp; subst hp; rfl)
  have he : (entriesT.take (k + 1)) = entriesT.take k ++ [{ key := .string p.2.1, val := pairV p, born := k }] := by
    rcases (show k = 0 ∨ k = 1 ∨ k = 2 ∨ k = 3 ∨ k = 4 ∨ k = 5 ∨ k = 6 ∨ k = 7 ∨ k = 8 ∨ k = 9 ∨ k = 10 ∨ k = 11 ∨ k = 12 by omega) with rfl | rfl | rfl | rfl | rfl | rfl | rfl | rfl | rfl | rfl | rfl | rfl | rfl <;>
      (simp only [Sy.table, List.getElem?_cons_zero, List.getElem?_cons_succ, Option.some.injEq] at hp; subst hp; rfl)
  have hk := MapKept.run_findKey (P := Tryz.prog) (w := w) (kt := 9) Tryz.underlying9 hf
  have hs := MapKept.run_setObj_map (P := Tryz.prog) (.map (entriesT.take (k + 1)).toArray (k + 1)) h
  rw [he] at hs
  simp [Instr.mapUpdate, hu, hg, hc, hk, hs, he]

set_option maxRecDepth 100000 in
set_option maxHeartbeats 2000000 in
theorem pairsByText_any (w : World) (hT : TabV w 0) :
    Calls Tryz.prog 13 #[] w fun e w' => e = .returned (.map (some w.heap.size)) ∧ w'.heap[w.heap.size]? = some (.map entriesT.toArray 13) ∧ Below w.heap.size w w' := by
  have hmm : ∀ w : World, (Instr.makeMap 41 Option.none).run Tryz.prog w = .ok (.map (some w.heap.size)) (w.alloc (.map #[] 0)) := fun _ => rfl
  have h0 := hT.lt
  obtain ⟨tt, fr, hT1⟩ : TabV (w.alloc (.map #[] 0)) 0 := hT.keep ((Below.refl _ w).alloc (Nat.le_refl _) _) h0
  obtain ⟨cs, hcs⟩ : ∃ cs, cs = tableCells.toArray := ⟨_, rfl⟩
  rw [← hcs] at hT1
  have hI : (Tryz.prog.info? 88).map (·.size) = some 39 := by kernel_rfl
  have HI : Hid ((Tryz.prog.info? 88).map (·.size) = some cs.size) := by rw [hcs]; exact hI
  have HT : Hid ((w.alloc (.map #[] 0)).heap[0]? = some (.cells cs tt fr)) := hT1
  have HX : Hid (∀ (k : Nat) p, Sy.table[k]? = some p → ∀ w : World, (Instr.index 88 (.agg cs) (.int .i64 (k : Int))).run Tryz.prog w = .ok (pairV p) w) := by rw [hcs]; exact fun k p hp w => index_table k p hp w
  clear hT hT1 hcs hI
  go_enter Tryz.func13, Tryz.ntmps13
  go_wp2_with (refine wpList_load_row rfl 88 (.global 0) rfl 0 rfl tt cs fr _ HT.out Tryz.underlying88 rfl HI.out ?_)
  go_loopw [6] (fun i wr => ∃ k : Nat, k ≤ 13 ∧ i = .int .i64 k ∧ Hid (wr.heap[w.heap.size]? = some (.map (entriesT.take k).toArray k)) ∧ Hid (Below w.heap.size w wr)) (fun i _ => 13 - (intOf i).toNat)
  case atStart => exact ⟨0, by omega, rfl, heap_alloc_new w _, (Below.refl _ w).alloc (Nat.le_refl _) _⟩
  case round =>
    obtain ⟨k, hk, rfl, HM, HB⟩ := hrel
    by_cases hk13 : k < 13
    · obtain ⟨p, hp⟩ : ∃ p, Sy.table[k]? = some p := ⟨_, List.getElem?_eq_getElem (by simpa [Sy.table] using hk13)⟩
      have hix := HX.out k p hp
      have HM1 : (wr.alloc (.cells #[.int .i64 p.1, .string p.2.1, .int .i64 p.2.2] 87)).heap[w.heap.size]? = some (.map (entriesT.take k).toArray k) := (Below.heap_alloc _ _ _ (lt_of_block HM.out)).trans HM.out
      have hup := upd_runT w.heap.size k _ p hp HM1
      obtain ⟨W2, hW2⟩ : ∃ W2 : World, W2 = { (wr.alloc (.cells #[.int .i64 p.1, .string p.2.1, .int .i64 p.2.2] 87)) with heap := (wr.alloc (.cells #[.int .i64 p.1, .string p.2.1, .int .i64 p.2.2] 87)).heap.setIfInBounds w.heap.size (.map (entriesT.take (k + 1)).toArray (k + 1)) } := ⟨_, rfl⟩
      rw [← hW2] at hup
      obtain ⟨m1, m2⟩ := map_set (o' := .map (entriesT.take (k + 1)).toArray (k + 1)) HM1 w.heap.size (Nat.le_refl _)
      rw [← hW2] at m1 m2
      have HM2 : Hid (W2.heap[w.heap.size]? = some (.map (entriesT.take (k + 1)).toArray (k + 1))) := m1
      have HB2 : Hid (Below w.heap.size w W2) := (HB.out.alloc (by have := HB.out.size; omega) _).trans m2
      clear hp HM1 hW2 m1 m2
      go_wp2
      go_roundw
      case rel => exact ⟨k + 1, by omega, by go_num, HM2, HB2⟩
      case measure => simp [intOf]; omega
    · go_wp2
      go_ret
      obtain rfl : k = 13 := by omega
      exact ⟨rfl, HM.out, HB.out⟩

end Go.Proofs.YtlnikpcoejpknaaGreatDoor


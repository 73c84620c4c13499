/- The walk of reader.line. -/
import Derived.Test.YtlicfdligldhdaaDoorM22
import Derived.Lib.Split
import Derived.Lib.SplitLaws
namespace Go.Proofs.YtlicfdligldhdaaDoor.Aw
open Go.RowKit As

theorem bs_list (x : By) : (⟨x.toArray⟩ : ByteArray).data.toList = x := by simp
theorem split_any (B : Nat) (x : By) (hx : x.length ≤ 60000) (w : World) (hg : GV B w) :
    Calls Tryd.prog 28 #[sv x, .string ⟨#[32]⟩] w fun e w' => e = .returned (.slice (some ⟨w.heap.size, 0, none⟩) (words x).length (words x).length) ∧ w' = w.alloc (wsO (words x)) := by
  obtain ⟨m, hm⟩ := hg.cell
  have hsz := size_bs x
  have h1 := split_words ⟨x.toArray⟩ ⟨#[32]⟩ rfl
  rw [bs_list] at h1
  have hlen := Lib.splitB_all ⟨#[32]⟩ (by decide) 0 _ (⟨x.toArray⟩ : ByteArray) rfl
  refine (Tryd.strings_Split ⟨x.toArray⟩ ⟨#[32]⟩ m w (by omega) hm (by decide)).mono ?_
  rintro e w' ⟨rfl, rfl⟩
  have h2 : (Lib.splitB ⟨#[32]⟩ 0 (Lib.countB ⟨x.toArray⟩ ⟨#[32]⟩) ⟨x.toArray⟩) = (words x).map (fun l => (⟨l.toArray⟩ : ByteArray)) := by
    rw [← h1, List.map_map]
    conv => lhs; rw [← List.map_id (Lib.splitB ⟨#[32]⟩ 0 (Lib.countB ⟨x.toArray⟩ ⟨#[32]⟩) ⟨x.toArray⟩)]
    exact List.map_congr_left (fun b _ => by simp)
  have h3 : Lib.countB ⟨x.toArray⟩ ⟨#[32]⟩ + 1 = (words x).length := by rw [← hlen, h2]; simp
  rw [h3, h2, List.map_map]
  exact ⟨rfl, rfl⟩

theorem infoStr : (Tryd.prog.info? 9).map (fun i => (i.zero, i.size, i.bytes)) = some (some (.string ByteArray.empty), 1, 16) := by kernel_rfl
set_option maxRecDepth 100000 in
/-- The words behind the first one. -/
theorem strs_tail (g n : Nat) : ∃ off, ∀ W : World, (Instr.slice 51 (.slice (some ⟨g, 0, none⟩) (n + 1) (n + 1)) (some (.int .i64 1)) none none).run Tryd.prog W = .ok (.slice (some ⟨g, off, none⟩) n n) W ∧ (0 < n → off = 1) := by
  obtain ⟨i0, hi, z0, z1, z2⟩ := info_parts infoStr
  have hsz : ∀ W : World, (sizeOf 9).run Tryd.prog W = .ok 1 W := fun W => by simp [sizeOf, typeInfo, hi, z1]
  refine ⟨if n = 0 then 0 else 1, fun W => ⟨?_, fun h => if_neg (by omega)⟩⟩
  have := run_slice_l (P := Tryd.prog) W 51 (some ⟨g, 0, none⟩) (n + 1) (n + 1) Tryd.underlying51 .i64 1 (by decide) (by omega)
  rw [this]
  have e : Tryd.prog.elem 51 = 9 := by kernel_rfl
  rw [e, hsz]
  cases n with
  | zero => simp [sliced]
  | succ n => simp [sliced, Addr.add]

theorem line_eq (m : Vf.Md) (s word : By) (ns : List By) (h : words (Lib.trimPrefix s [9]) = word :: ns) : line m s = if Lib.hasPrefix s [9] = true then instrL m word ns else if word = boxW then boxR m ns else unitL m word ns := by
  cases s with
  | nil =>
    have e : Lib.trimPrefix [] [9] = [] := rfl
    rw [e] at h
    cases h
    rw [if_neg (by decide), if_neg (by decide), unitL_kind (by decide)]
    rfl
  | cons c r =>
    by_cases hc : c = 9
    · subst hc
      have e1 : Lib.hasPrefix (9 :: r) [9] = true := by simp [Lib.hasPrefix, List.isPrefixOf]
      have e2 : Lib.trimPrefix (9 :: r) [9] = r := by unfold Lib.trimPrefix; rw [if_pos e1]; rfl
      rw [e2] at h
      rw [if_pos e1, line_tab]
      unfold lineI instrL
      rw [h]
      simp only
      cases opOf word with
      | none => rfl
      | some p =>
        obtain ⟨op, hh⟩ := p
        cases nums ns with
        | none => rfl
        | some l => rfl
    · have e1 : Lib.hasPrefix (c :: r) [9] = false := by simp [Lib.hasPrefix, List.isPrefixOf]; exact fun e => hc e.symm
      have e2 : Lib.trimPrefix (c :: r) [9] = c :: r := by unfold Lib.trimPrefix; rw [if_neg (by rw [e1]; decide)]
      rw [e2] at h
      rw [if_neg (by rw [e1]; decide), line_not m r hc]
      unfold lineU
      rw [h]
      simp only
      by_cases hb : word = boxW
      · rw [if_pos hb]
        unfold boxR
        cases nums ns with
        | none => rfl
        | some l =>
          simp only
          rw [if_pos hb]
          cases hm : m.units with
          | nil => rcases l with _ | ⟨a, _ | ⟨b, _ | ⟨c', l⟩⟩⟩ <;> rfl
          | cons u us => rcases l with _ | ⟨a, _ | ⟨b, _ | ⟨c', l⟩⟩⟩ <;> rfl
      · rw [if_neg hb]
        unfold unitL
        cases nums ns with
        | none => rfl
        | some l =>
          simp only
          rw [if_neg hb]
          rcases l with _ | ⟨a, _ | ⟨b, _ | ⟨c', l⟩⟩⟩ <;> rfl
theorem words_few : ∀ (s : By), (words s).length ≤ s.length + 1 ∧ ∀ x ∈ words s, x.length ≤ s.length
  | [] => ⟨by simp [words], by simp [words]⟩
  | c :: s => by
    obtain ⟨h1, h2⟩ := words_few s
    unfold words
    split
    · refine ⟨by simp; omega, fun x hx => ?_⟩
      rcases List.mem_cons.1 hx with rfl | hx
      · simp
      · have := h2 x hx; simp; omega
    · split
      · refine ⟨by simp, fun x hx => ?_⟩
        simp at hx; subst hx; simp
      · rename_i w ws e
        rw [e] at h1 h2
        refine ⟨by simp at h1 ⊢; omega, fun x hx => ?_⟩
        rcases List.mem_cons.1 hx with rfl | hx
        · have := h2 w List.mem_cons_self; simp; omega
        · have := h2 x (List.mem_cons_of_mem _ hx); simp; omega
theorem trim_le (s : By) : (Lib.trimPrefix s [9]).length ≤ s.length := by
  unfold Lib.trimPrefix
  split
  · simp
  · exact Nat.le_refl _

set_option maxHeartbeats 2000000 in
set_option maxRecDepth 100000 in
theorem line_any (B R U J K : Nat) (hK : Hid (K ≤ 60000)) (s : By) (hs : Hid (s.length ≤ 60000)) (w : World) (hg : Hid (GV B w)) (m : Vf.Md) (h : Hid (RD B R U J K w m)) (r : Option Vf.Md) (hr : Hid (r = line m s)) :
    Calls Tryd.prog 16 #[ptI R 0, sv s] w fun e w' => ∃ b, e = .returned (.bool b) ∧ LineR B R U J K w w' b r := by
  obtain ⟨word, ns, hw⟩ : ∃ word ns, words (Lib.trimPrefix s [9]) = word :: ns := by
    obtain ⟨a, b, h1, _⟩ := join_words (Lib.trimPrefix s [9])
    exact ⟨a, b, h1⟩
  have HL := hide (line_eq m s word ns hw)
  obtain ⟨f1, f2⟩ := words_few (Lib.trimPrefix s [9])
  have f3 := trim_le s
  have HWF : Hid (∀ x ∈ ns, x.length ≤ 60000) := fun x hx => by
    have := f2 x (by rw [hw]; exact List.mem_cons_of_mem _ hx)
    have := hs.out
    omega
  have HWL : Hid (ns.length ≤ 60010) := by
    unfold Hid
    rw [hw] at f1
    have := hs.out
    simp at f1
    omega
  have cC := Tryd.strings_CutPrefix ⟨s.toArray⟩ ⟨#[9]⟩ w
  rw [bs_list] at cC
  have HC := hide cC
  have cS := split_any B (Lib.trimPrefix s [9]) (by have := hs.out; omega) w hg.out
  rw [hw] at cS
  have HS := hide cS
  clear cC cS f1 f2 f3
  generalize Lib.trimPrefix s [9] = code at HC HS hw
  generalize hpb : Lib.hasPrefix s [9] = pb at HC HL
  clear hw hpb
  obtain ⟨off, htail⟩ := strs_tail w.heap.size ns.length
  have HST : Hid (StrsW (w.alloc (wsO (word :: ns))) ns (some ⟨w.heap.size, off, none⟩)) := fun i x hx => by
    have hl := (List.getElem?_eq_some_iff.1 hx).1
    have := (htail w).2 (by omega)
    subst this
    refine ⟨w.heap.size, 1, rfl, by simp, ?_⟩
    rw [Nat.add_comm 1 i]
    exact ws_cell (heap_alloc_new w _) (by simpa using hx)
  have ht : ∀ W : World, (Instr.slice 51 (.slice (some ⟨w.heap.size, 0, none⟩) (ns.length + 1) (ns.length + 1)) (some (.int .i64 1)) none none).run Tryd.prog W = .ok (.slice (some ⟨w.heap.size, off, none⟩) ns.length ns.length) W := fun W => (htail W).1
  clear htail
  go_enter Tryd.func16, Tryd.ntmps16
  go_wp2_with fail
  refine HC.out.mono ?_
  rintro e w1 ⟨rfl, rfl⟩
  go_wp2_with fail
  refine HS.out.mono ?_
  rintro e w2 ⟨rfl, rfl⟩
  clear HC HS
  obtain ⟨V, hV⟩ : ∃ V, V = w1.alloc (wsO (word :: ns)) := ⟨_, rfl⟩
  have hbV : Below w1.heap.size w1 V := by rw [hV]; exact (Below.refl _ _).alloc (Nat.le_refl _) _
  have cw : V.cell? ⟨w1.heap.size, 0, none⟩ = some (sv word) := by rw [hV]; exact ws_cell (heap_alloc_new _ _) rfl
  rw [← hV] at HST ⊢
  have hcl : (word :: ns).length = ns.length + 1 := rfl
  rw [hcl]
  have HRD := hide (h.out.new hbV)
  have HGV : Hid (GV B V) := hg.out.below hbV (by obtain ⟨_, _, _, _, h1⟩ := h.out; exact h1.lt.1)
  have HBV : Hid (Below B w1 V) := hbV.mono (by obtain ⟨_, _, _, _, h1⟩ := h.out; exact h1.lt.1)
  clear hV hbV hcl h hg
  generalize w1.heap.size = N at HST cw ht ⊢
  go_wp2
  go_quiet (fail)
  have HRD2 : Hid (RD B R U J K (V.drewN nq) m) := HRD.out.new (below_drewN _ _)
  have HGV2 : Hid (GV B (V.drewN nq)) := ⟨HGV.out.max, HGV.out.sp, HGV.out.pow, HGV.out.syn, HGV.out.rng, HGV.out.base⟩
  have HST2 : Hid (StrsW (V.drewN nq) ns (some ⟨N, off, none⟩)) := HST.out
  have HBV2 : Hid (Below B w1 (V.drewN nq)) := HBV.out.trans ⟨rfl, rfl, rfl, Nat.le_refl _, fun _ _ => rfl⟩
  generalize V.drewN nq = W at HRD2 HGV2 HST2 HBV2 ⊢
  clear HRD HGV HST HBV cw ht
  cases pb with
  | true =>
    have HRR : Hid (r = instrL m word ns) := by unfold Hid; rw [hr.out, HL.out, if_pos rfl]
    clear HL
    go_wp2_with fail
    refine (instr_r B R U J K hK word ns (some ⟨N, off, none⟩) ns.length HWF W HGV2 m HRD2 HST2 r HRR).mono ?_
    rintro e W' ⟨b, rfl, hl⟩
    have HR : Hid (LineR B R U J K w1 W' b r) := ⟨HBV2.out.trans hl.1, hl.2.1, hl.2.2⟩
    clear hl
    go_wp2
    go_ret
    exact ⟨b, rfl, HR.out⟩
  | false =>
    by_cases hb : word = boxW
    · have HRR : Hid (r = boxR m ns) := by unfold Hid; rw [hr.out, HL.out, if_neg (by decide), if_pos hb]
      have hb' : word = [98, 111, 120] := hb
      subst hb'
      clear HL hb
      go_wp2_with fail
      refine (box_any B R U J K hK ns (some ⟨N, off, none⟩) ns.length HWF W HGV2 m HRD2 HST2 r HRR).mono ?_
      rintro e W' ⟨b, rfl, hl⟩
      have HR : Hid (LineR B R U J K w1 W' b r) := ⟨HBV2.out.trans hl.1, hl.2.1, hl.2.2⟩
      clear hl
      go_wp2
      go_ret
      exact ⟨b, rfl, HR.out⟩
    · have HRR : Hid (r = unitL m word ns) := by unfold Hid; rw [hr.out, HL.out, if_neg (by decide), if_neg hb]
      have e1 : (word == [98, 111, 120]) = false := by
        rw [beq_eq_false_iff_ne]
        exact hb
      clear HL hb
      go_wp2_with fail
      refine (unit_r B R U J K hK word ns (some ⟨N, off, none⟩) ns.length HWF HWL W HGV2 m HRD2 HST2 r HRR).mono ?_
      rintro e W' ⟨b, rfl, hl⟩
      have HR : Hid (LineR B R U J K w1 W' b r) := ⟨HBV2.out.trans hl.1, hl.2.1, hl.2.2⟩
      clear hl
      go_wp2
      go_ret
      exact ⟨b, rfl, HR.out⟩

end Go.Proofs.YtlicfdligldhdaaDoor.Aw


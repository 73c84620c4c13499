/- The walk of reader.line. -/
import Derived.Test.YtbdcmkmeljddmaaGreatDoorM11
import Derived.Lib.Split
import Derived.Lib.SplitLaws
namespace Go.Proofs.YtbdcmkmeljddmaaGreatDoor.Aw
open Go.RowKit As

theorem bs_list (x : By) : (⟨x.toArray⟩ : ByteArray).data.toList = x := by simp
theorem split_any (B : Nat) (x : By) (hx : x.length ≤ 60000) (w : World) (hg : GV B w) :
    Calls Tryz.prog 31 #[sv x, .string ⟨#[32]⟩] w fun e w' => e = .returned (.slice (some ⟨w.heap.size, 0, none⟩) (words x).length (words x).length) ∧ w' = w.alloc (wsO (words x)) := by
  obtain ⟨m, hm⟩ := hg.cell
  have hsz := size_bs x
  have h1 := split_words ⟨x.toArray⟩ ⟨#[32]⟩ rfl
  rw [bs_list] at h1
  have hlen := Lib.splitB_all ⟨#[32]⟩ (by decide) 0 _ (⟨x.toArray⟩ : ByteArray) rfl
  refine (Tryz.strings_Split ⟨x.toArray⟩ ⟨#[32]⟩ m w (by omega) hm (by decide)).mono ?_
  rintro e w' ⟨rfl, rfl⟩
  have h2 : (Lib.splitB ⟨#[32]⟩ 0 (Lib.countB ⟨x.toArray⟩ ⟨#[32]⟩) ⟨x.toArray⟩) = (words x).map (fun l => (⟨l.toArray⟩ : ByteArray)) := by
    rw [← h1, List.map_map]
    conv => lhs; rw [← List.map_id (Lib.splitB ⟨#[32]⟩ 0 (Lib.countB ⟨x.toArray⟩ ⟨#[32]⟩) ⟨x.toArray⟩)]
    exact List.map_congr_left (fun b _ => by simp)
  have h3 : Lib.countB ⟨x.toArray⟩ ⟨#[32]⟩ + 1 = (words x).length := by rw [← hlen, h2]; simp
  rw [h3, h2, List.map_map]
  exact ⟨rfl, rfl⟩

theorem infoStr : (Tryz.prog.info? 9).map (fun i => (i.zero, i.size, i.bytes)) = some (some (.string ByteArray.empty), 1, 16) := by kernel_rfl
set_option maxRecDepth 100000 in
/-- The words behind the first one. -/
theorem strs_tail (g n : Nat) : ∃ off, ∀ W : World, (Instr.slice 49 (.slice (some ⟨g, 0, none⟩) (n + 1) (n + 1)) (some (.int .i64 1)) none none).run Tryz.prog W = .ok (.slice (some ⟨g, off, none⟩) n n) W ∧ (0 < n → off = 1) := by
  obtain ⟨i0, hi, z0, z1, z2⟩ := info_parts infoStr
  have hsz : ∀ W : World, (sizeOf 9).run Tryz.prog W = .ok 1 W := fun W => by simp [sizeOf, typeInfo, hi, z1]
  refine ⟨if n = 0 then 0 else 1, fun W => ⟨?_, fun h => if_neg (by omega)⟩⟩
  have := run_slice_l (P := Tryz.prog) W 49 (some ⟨g, 0, none⟩) (n + 1) (n + 1) Tryz.underlying49 .i64 1 (by decide) (by omega)
  rw [this]
  have e : Tryz.prog.elem 49 = 9 := by kernel_rfl
  rw [e, hsz]
  cases n with
  | zero => simp [sliced]
  | succ n => simp [sliced, Addr.add]

theorem line_eq (m : Vf.Md) (s word : By) (ns : List By) (h : words (Lib.trimPrefix s [9]) = word :: ns) : line m s = if Lib.hasPrefix s [9] = true then instrL m word ns else if word = boxW then boxR m ns else unitL m word ns := by
  cases s with
  | nil =>
    have e : Lib.trimPrefix [] [9] = [] := rfl
    rw [e] at h
    cases h
    rw [if_neg (by decide), if_neg (by decide), unitL_kind (by decide)]
    rfl
  | cons c r =>
    by_cases hc : c = 9
    · subst hc
      have e1 : Lib.hasPrefix (9 :: r) [9] = true := by simp [Lib.hasPrefix, List.isPrefixOf]
      have e2 : Lib.trimPrefix (9 :: r) [9] = r := by unfold Lib.trimPrefix; rw [if_pos e1]; rfl
      rw [e2] at h
      rw [if_pos e1, line_tab]
      unfold lineI instrL
      rw [h]
      simp only
      cases opOf word with
      | none => rfl
      | some p =>
        obtain ⟨op, hh⟩ := p
        cases nums ns with
        | none => rfl
        | some l => rfl
    · have e1 : Lib.hasPrefix (c :: r) [9] = false := by simp [Lib.hasPrefix, List.isPrefixOf]; exact fun e => hc e.symm
      have e2 : Lib.trimPrefix (c :: r) [9] = c :: r := by unfold Lib.trimPrefix; rw [if_neg (by rw [e1]; decide)]
      rw [e2] at h
      rw [if_neg (by rw [e1]; decide), line_not m r hc]
      unfold lineU
      rw [h]
      simp only
      by_cases hb : word = boxW
      · rw [if_pos hb]
        unfold boxR
        cases nums ns with
        | none => rfl
        | some l =>
          simp only
          rw [if_pos hb]
          cases hm : m.units with
          | nil => rcases l with _ | ⟨a, _ | ⟨b, _ | ⟨c', l⟩⟩⟩ <;> rfl
          | cons u us => rcases l with _ | ⟨a, _ | ⟨b, _ | ⟨c', l⟩⟩⟩ <;> rfl
      · rw [if_neg hb]
        unfold unitL
        cases nums ns with
        | none => rfl
        | some l =>
          simp only
          rw [if_neg hb]
          rcases l with _ | ⟨a, _ | ⟨b, _ | ⟨c', l⟩⟩⟩ <;> rfl
theorem words_few : ∀ (s : By), (words s).length ≤ s.length + 1 ∧ ∀ x ∈ words s, x.length ≤ s.length
  | [] => ⟨by simp [words], by simp [words]⟩
  | c :: s => by
    obtain ⟨h1, h2⟩ := words_few s
    unfold words
    split
    · refine ⟨by simp; omega, fun x hx => ?_⟩
      rcases List.mem_cons.1 hx with rfl | hx
      · simp
      · have := h2 x hx; simp; omega
    · split
      · refine ⟨by simp, fun x hx => ?_⟩
        simp at hx; subst hx; simp
      · rename_i w ws e
        rw [e] at h1 h2
        refine ⟨by simp at h1 ⊢; omega, fun x hx => ?_⟩
        rcases List.mem_cons.1 hx with rfl | hx
        · have := h2 w List.mem_cons_self; simp; omega
        · have := h2 x (List.mem_cons_of_mem _ hx); simp; omega
theorem trim_le (s : By) : (Lib.trimPrefix s [9]).length ≤ s.length := by
  unfold Lib.trimPrefix
  split
  · simp
  · exact Nat.le_refl _

set_option maxHeartbeats 2000000 in
set_option maxRecDepth 100000 in
theorem line_any (B R U J K : Nat) (hK : Hid (K ≤ 60000)) (s : By) (hs : Hid (s.length ≤ 60000)) (w : World) (hg : Hid (GV B w)) (m : Vf.Md) (h : Hid (RD B R U J K w m)) (r : Option Vf.Md) (hr : Hid (r = line m s)) :
    Calls Tryz.prog 14 #[ptI R 0, sv s] w fun e w' => ∃ b, e = .returned (.bool b) ∧ LineR B R U J K w w' b r := by
  obtain ⟨word, ns, hw⟩ : ∃ word ns, words (Lib.trimPrefix s [9]) = word :: ns := by
    obtain ⟨a, b, h1, _⟩ := join_words (Lib.trimPrefix s [9])
    exact ⟨a, b, h1⟩
  have HL := hide (line_eq m s word ns hw)
  obtain ⟨f1, f2⟩ := words_few (Lib.trimPrefix s [9])
  have f3 := trim_le s
  have HWF : Hid (∀ x ∈ ns, x.length ≤ 60000) := fun x hx => by
    have := f2 x (by rw [hw]; exact List.mem_cons_of_mem _ hx)
    have := hs.out
    omega
  have HWL : Hid (ns.length ≤ 60010) := by
    unfold Hid
    rw [hw] at f1
    have := hs.out
    simp at f1
    omega
  have cC := Tryz.strings_CutPrefix ⟨s.toArray⟩ ⟨#[9]⟩ w
  rw [bs_list] at cC
  have HC := hide cC
  have cS := split_any B (Lib.trimPrefix s [9]) (by have := hs.out; omega) w hg.out
  rw [hw] at cS
  have HS := hide cS
  clear cC cS f1 f2 f3
  generalize Lib.trimPrefix s [9] = code at HC HS hw
  generalize hpb : Lib.hasPrefix s [9] = pb at HC HL
  clear hw hpb
  obtain ⟨off, htail⟩ := strs_tail w.heap.size ns.length
  have HST : Hid (StrsW (w.alloc (wsO (word :: ns))) ns (some ⟨w.heap.size, off, none⟩)) := fun i x hx => by
    have hl := (List.getElem?_eq_some_iff.1 hx).1
    have := (htail w).2 (by omega)
    subst this
    refine ⟨w.heap.size, 1, rfl, by simp, ?_⟩
    rw [Nat.add_comm 1 i]
    exact ws_cell (heap_alloc_new w _) (by simpa using hx)
  have ht : ∀ W : World, (Instr.slice 49 (.slice (some ⟨w.heap.size, 0, none⟩) (ns.length + 1) (ns.length + 1)) (some (.int .i64 1)) none none).run Tryz.prog W = .ok (.slice (some ⟨w.heap.size, off, none⟩) ns.length ns.length) W := fun W => (htail W).1
  clear htail
  go_enter Tryz.func14, Tryz.ntmps14
  go_wp2_with fail
  refine HC.out.mono ?_
  rintro e w1 ⟨rfl, rfl⟩
  go_wp2_with fail
  refine HS.out.mono ?_
  rintro e w2 ⟨rfl, rfl⟩
  clear HC HS
  obtain ⟨V, hV⟩ : ∃ V, V = w1.alloc (wsO (word :: ns)) := ⟨_, rfl⟩
  have hbV : Below w1.heap.size w1 V := by rw [hV]; exact (Below.refl _ _).alloc (Nat.le_refl _) _
  have cw : V.cell? ⟨w1.heap.size, 0, none⟩ = some (sv word) := by rw [hV]; exact ws_cell (heap_alloc_new _ _) rfl
  rw [← hV] at HST ⊢
  have hcl : (word :: ns).length = ns.length + 1 := rfl
  rw [hcl]
  have HRD := hide (h.out.new hbV)
  have HGV : Hid (GV B V) := hg.out.below hbV (by obtain ⟨_, _, _, _, h1⟩ := h.out; exact h1.lt.1)
  have HBV : Hid (Below B w1 V) := hbV.mono (by obtain ⟨_, _, _, _, h1⟩ := h.out; exact h1.lt.1)
  clear hV hbV hcl h hg
  generalize w1.heap.size = N at HST cw ht ⊢
  go_wp2
  go_quiet (fail)
  have HRD2 : Hid (RD B R U J K (V.drewN nq) m) := HRD.out.new (below_drewN _ _)
  have HGV2 : Hid (GV B (V.drewN nq)) := ⟨HGV.out.max, HGV.out.sp, HGV.out.pow, HGV.out.syn, HGV.out.rng, HGV.out.base⟩
  have HST2 : Hid (StrsW (V.drewN nq) ns (some ⟨N, off, none⟩)) := HST.out
  have HBV2 : Hid (Below B w1 (V.drewN nq)) := HBV.out.trans ⟨rfl, rfl, rfl, Nat.le_refl _, fun _ _ => rfl⟩
  generalize V.drewN nq = W at HRD2 HGV2 HST2 HBV2 ⊢
  clear HRD HGV HST HBV cw ht
  cases pb with
  | true =>
    have HRR : Hid (r = instrL m word ns) := by unfold Hid; rw [hr.out, HL.out, if_pos rfl]
    clear HL
    go_wp2_with fail
    refine (instr_r B R U J K hK word ns (some ⟨N, off, none⟩) ns.length HWF W HGV2 m HRD2 HST2 r HRR).mono ?_
    rintro e W' ⟨b, rfl, hl⟩
    have HR : Hid (LineR B R U J K w1 W' b r) := ⟨HBV2.out.trans hl.1, hl.2.1, hl.2.2⟩
    clear hl
    go_wp2
    go_ret
    exact ⟨b, rfl, HR.out⟩
  | false =>
    by_cases hb : word = boxW
    · have HRR : Hid (r = boxR m ns) := by unfold Hid; rw [hr.out, HL.out, if_neg (by decide), if_pos hb]
      have hb' : word = [98, 111, 120] := hb
      subst hb'
      clear HL hb
      go_wp2_with fail
      refine (box_any B R U J K hK ns (some ⟨N, off, none⟩) ns.length HWF W HGV2 m HRD2 HST2 r HRR).mono ?_
      rintro e W' ⟨b, rfl, hl⟩
      have HR : Hid (LineR B R U J K w1 W' b r) := ⟨HBV2.out.trans hl.1, hl.2.1, hl.2.2⟩
      clear hl
      go_wp2
      go_ret
      exact ⟨b, rfl, HR.out⟩
    · have HRR : Hid (r = unitL m word ns) := by unfold Hid; rw [hr.out, HL.out, if_neg (by decide), if_neg hb]
      have e1 : (word == [98, 111, 120]) = false := by
        rw [beq_eq_false_iff_ne]
        exact hb
      clear HL hb
      go_wp2_with fail
      refine (unit_r B R U J K hK word ns (some ⟨N, off, none⟩) ns.length HWF HWL W HGV2 m HRD2 HST2 r HRR).mono ?_
      rintro e W' ⟨b, rfl, hl⟩
      have HR : Hid (LineR B R U J K w1 W' b r) := ⟨HBV2.out.trans hl.1, hl.2.1, hl.2.2⟩
      clear hl
      go_wp2
      go_ret
      exact ⟨b, rfl, HR.out⟩

end Go.Proofs.YtbdcmkmeljddmaaGreatDoor.Aw

/- The walk of asm.Read: WHAT Read ANSWERS. -/
namespace Go.Proofs.YtbdcmkmeljddmaaGreatDoor.Aw
open Go.RowKit As

set_option maxHeartbeats 400000 in
theorem newReader_any (B : Nat) (w : World) (hg : Hid (GV B w)) (hB : Hid (B ≤ w.heap.size)) :
    Calls Tryz.prog 12 #[] w fun e w' => ∃ R U J, e = .returned (ptI R 0) ∧ RD w.heap.size R U J 0 w' ⟨[], []⟩ ∧ Below w.heap.size w w' := by
  go_enter Tryz.func12, Tryz.ntmps12
  go_wp2_with fail
  refine (unitWords_any B w hg hB).mono ?_
  rintro e w1 ⟨U, rfl, hU, hUb, hb1⟩
  have HU := hide hUb
  have HB1 := hide hb1
  clear hUb hb1 hU
  go_wp2_with fail
  refine (instrWords_any B w1 (hide (hg.out.below HB1.out hB.out)) (hide (Nat.le_trans hB.out HB1.out.size))).mono ?_
  rintro e w2 ⟨J, rfl, hJ, hJb, hb2⟩
  have HJ := hide hJb
  have HB2 := hide hb2
  clear hJb hb2 hJ
  go_wp2
  go_ret
  refine ⟨w2.heap.size, U, J, rfl, ⟨.slice none 0 0, .slice none 0 0, [], w.heap.size, ?_⟩, below_on (below_on HB1.out HB2.out) ((Below.refl _ _).alloc (Nat.le_refl _) _)⟩
  have h2 : w2.heap[U]? = some (wsO unitW) := (HB2.out.block _ (lt_of_block HU.out)).trans HU.out
  have hsz := Nat.le_trans HB1.out.size HB2.out.size
  exact ⟨heap_alloc_new _ _, ⟨rfl, .inl ⟨rfl, rfl⟩⟩, fun b hb => (by cases hb), ⟨rfl, .inl ⟨rfl, rfl⟩⟩, rfl, fun x hx => (by cases hx), fun i x hx => (by simp at hx), fun x hx => (by simp at hx), ⟨Nat.le_refl _, by simp; omega⟩, hsz, (Below.heap_alloc _ _ _ (lt_of_block h2)).trans h2, (Below.heap_alloc _ _ _ (lt_of_block HJ.out)).trans HJ.out, Nat.le_refl _, Nat.le_refl _, fun x hx => by cases hx⟩

def strLen : Value → Nat
  | .string b => b.size
  | _ => 0
theorem RDx.kt {es : List TypeId} {B R U J K C : Nat} {w w' : World} {m : Vf.Md} {vb vu : Value} {us : List UV} (h : RDx B R U J K w m vb vu us C) (hk : KeepT es w w') (hs : w.heap.size ≤ w'.heap.size) (h1 : 60 ∉ es) (h2 : 67 ∉ es) (h3 : 41 ∉ es) (h4 : 3 ∉ es) (h5 : 43 ∉ es) (h6 : 9 ∉ es) : RDx B R U J K w' m vb vu us C :=
  ⟨hk _ _ _ _ h.blk h1, own_kt h.boxes hk h2, h.b64, own_kt h.units hk h3, h.same, fun x hx => (h.each x hx).kt hk h4 h5, h.early, fun x hx => own_kt (h.last x hx) hk h5, ⟨h.le.1, Nat.le_trans h.le.2 hs⟩, h.base, hk _ _ _ _ h.wu h6, hk _ _ _ _ h.wj h6, h.few⟩
theorem kt_set4 {N : Nat} {W : World} {c1 c2 : Array Value} {f1 f2 : Nat × Nat} (h1 : W.heap[N]? = some (.cells c1 25 f1)) (h2 : W.heap[N + 1]? = some (.cells c2 33 f2)) (a b c d : Value) : KeepT [25, 33] W ((((W.setCell ⟨N, 0, none⟩ a).setCell ⟨N, 1, none⟩ b).setCell ⟨N + 1, 0, none⟩ c).setCell ⟨N + 1, 1, none⟩ d) := fun j cs t fr hj ht => by
  have n1 : j ≠ N := fun e => by
    subst e
    rw [h1] at hj
    simp at hj
    exact ht (by simp [hj.2.1])
  have n2 : j ≠ N + 1 := fun e => by
    subst e
    rw [h2] at hj
    simp at hj
    exact ht (by simp [hj.2.1])
  rw [Below.heap_setCell _ ⟨N + 1, 1, none⟩ _ _ n2, Below.heap_setCell _ ⟨N + 1, 0, none⟩ _ _ n2, Below.heap_setCell _ ⟨N, 1, none⟩ _ _ n1, Below.heap_setCell _ ⟨N, 0, none⟩ _ _ n1]
  exact hj
/-- What Read has done so far: k lines, rest to come. -/
structure RdAt (C R U J N : Nat) (s : By) (w : World) (rest : By) (k : Nat) (m : Vf.Md) (W : World) : Prop where
  few : rest.length + k ≤ 60000
  rd : RD C R U J k W m
  below : Below C w W
  m0 : W.heap[N]? = some (.cells #[.slice none 0 0, .slice none 0 0] 25 (0, 0))
  f0 : W.heap[N + 1]? = some (.cells #[.int .i64 0, .int .i64 0] 33 (0, 0))
  fin : readA s = fin m k rest
abbrev mdW (m : Vf.Md) (ab au : Option Addr) (cb cu : Nat) : Value := .agg #[.slice ab m.boxes.length cb, .slice au m.units.length cu]
/-- What Read answers, in memory. -/
def ReadV (s : By) (w : World) (e : Ending) (w' : World) : Prop := ∃ ab cb au cu, e = .returned (.tuple #[mdW (readA s).2 ab au cb cu, .agg #[.int .i64 (readA s).1.1, .int .i64 (readA s).1.2]]) ∧ ModIn w'.heap.size w' (readA s).2 ab au ∧ Below w.heap.size w w'
theorem mod_none (B : Nat) (w : World) : ModIn B w ⟨[], []⟩ none none := ⟨⟨by simp, by simp⟩, fun i x hx => by simp at hx, fun i x hx => by simp at hx⟩
theorem set4_below {B N : Nat} {w W : World} (h : Below B w W) (hN : B ≤ N) (a b c d : Value) : Below B w ((((W.setCell ⟨N, 0, none⟩ a).setCell ⟨N, 1, none⟩ b).setCell ⟨N + 1, 0, none⟩ c).setCell ⟨N + 1, 1, none⟩ d) :=
  (((h.setCell (p := ⟨N, 0, none⟩) hN _).setCell (p := ⟨N, 1, none⟩) hN _).setCell (p := ⟨N + 1, 0, none⟩) (Nat.le_succ_of_le hN) _).setCell (p := ⟨N + 1, 1, none⟩) (Nat.le_succ_of_le hN) _

set_option maxHeartbeats 4000000 in
set_option maxRecDepth 100000 in
theorem read_any (B : Nat) (s : By) (w : World) (hB : Hid (B ≤ w.heap.size)) (hg : Hid (GV B w)) :
    Calls Tryz.prog 6 #[sv s] w fun e w' => ReadV s w e w' := by
  obtain ⟨V, hV⟩ : ∃ V, V = (w.alloc (.cells #[.slice none 0 0, .slice none 0 0] 25)).alloc (.cells #[.int .i64 0, .int .i64 0] 33) := ⟨_, rfl⟩
  have HBV : Hid (Below w.heap.size w V) := by rw [hV]; exact two_below _ _ _
  have HM0 : Hid (V.heap[w.heap.size]? = some (.cells #[.slice none 0 0, .slice none 0 0] 25 (0, 0))) := by rw [hV]; exact two_old _ _ _
  have HF0 : Hid (V.heap[w.heap.size + 1]? = some (.cells #[.int .i64 0, .int .i64 0] 33 (0, 0))) := by rw [hV]; exact two_new _ _ _
  have HVS : Hid (V.heap.size = w.heap.size + 2) := by unfold Hid; rw [hV]; simp
  obtain ⟨N, hN⟩ : ∃ N, N = w.heap.size := ⟨_, rfl⟩
  have HN := hide hN
  by_cases hlen : 60000 < s.length
  · have hra : readA s = ((4, 0), ⟨[], []⟩) := by unfold readA; rw [if_pos hlen]
    have HRA := hide hra
    have e1 : (60000 : Int) < (s.length : Int) := by omega
    have HR : Hid (Below w.heap.size w ((w.alloc (.cells #[.slice none 0 0, .slice none 0 0] 25)).alloc (.cells #[.int .i64 4, .int .i64 0] 33))) := two_below _ _ _
    clear hra hlen hV
    go_enter Tryz.func6, Tryz.ntmps6
    go_wp2
    exact bodyPost_ret (v := .tuple #[mdW ⟨[], []⟩ none none 0 0, .agg #[.int .i64 4, .int .i64 0]]) (by simp [results, Tryz.results6, go_sem]) rfl ⟨none, 0, none, 0, by rw [HRA.out]; rfl, by rw [HRA.out]; exact mod_none _ _, HR.out⟩
  · have e1 : ¬ (60000 : Int) < (s.length : Int) := by omega
    have HLN : Hid (s.length ≤ 60000) := by unfold Hid; omega
    have HFI := hide (fin_first s hlen)
    clear hlen
    go_enter Tryz.func6, Tryz.ntmps6
    go_wp2_with fail
    rw [← hV]
    rw [← hN] at HM0 HF0 ⊢
    clear hV hN
    refine (newReader_any B V (hide (hg.out.below HBV.out hB.out)) (hide (Nat.le_trans hB.out HBV.out.size))).mono ?_
    rintro e w1 ⟨R, U, J, rfl, hRD, hb1⟩
    obtain ⟨C, hC⟩ : ∃ C, C = V.heap.size := ⟨_, rfl⟩
    rw [← hC] at hRD
    have HC : Hid (C = w.heap.size + 2) := hC.trans HVS.out
    have HW1 : Hid (Below w.heap.size w w1) := below_on HBV.out hb1
    have HGC : Hid (GV C w1) := by
      have h1 := (hg.out.below HBV.out hB.out).below hb1 (Nat.le_trans hB.out HBV.out.size)
      exact ⟨h1.max, h1.sp, h1.pow, h1.syn, h1.rng, by have := h1.base; have := hB.out; have := HC.out; omega⟩
    have HA0 : Hid (RdAt C R U J N s w1 s 0 ⟨[], []⟩ w1) := ⟨by have := HLN.out; omega, hRD, Below.refl _ _, (hb1.block _ (lt_of_block HM0.out)).trans HM0.out, (hb1.block _ (lt_of_block HF0.out)).trans HF0.out, HFI.out⟩
    clear hRD hb1 HM0 HF0 HVS hC HBV HFI
    go_wp2
    go_loopw [0, 5] (fun t i wr => ∃ (rest : By) (k : Nat) (m : Vf.Md), t = sv rest ∧ i = .int .i64 k ∧ RdAt C R U J N s w1 rest k m wr) (fun t _ _ => strLen t)
    case atStart => exact ⟨s, 0, ⟨[], []⟩, rfl, rfl, HA0.out⟩
    case round =>
      obtain ⟨rest, k, m, rfl, rfl, hA⟩ := hrel
      have HA := hide hA
      clear hA HA0
      obtain ⟨m0, m1, n0, n1⟩ := blk2_cells HA.out.m0
      obtain ⟨q0, q1, g0, g1⟩ := blk2_cells HA.out.f0
      have HBW : Hid (Below w.heap.size w wr) := HW1.out.trans (HA.out.below.mono (by have := HC.out; omega))
      by_cases hre : rest = []
      · subst hre
        have HRA : Hid (readA s = ((0, 0), m)) := HA.out.fin.trans (fin_nil m k)
        obtain ⟨vb, vu, us, D, hx⟩ := HA.out.rd
        obtain ⟨c0, c1, _⟩ := rd_cells hx.blk
        have HX := hide hx
        obtain ⟨ab, cb, au, cu, hvb, hvu, _, _⟩ := hx.mod
        subst hvb
        subst hvu
        have HM : Hid (∀ a b c d, ModIn (((((wr.setCell ⟨N, 0, none⟩ a).setCell ⟨N, 1, none⟩ b).setCell ⟨N + 1, 0, none⟩ c).setCell ⟨N + 1, 1, none⟩ d)).heap.size ((((wr.setCell ⟨N, 0, none⟩ a).setCell ⟨N, 1, none⟩ b).setCell ⟨N + 1, 0, none⟩ c).setCell ⟨N + 1, 1, none⟩ d) m ab au) := fun a b c d => by
          have h1 := HX.out.kt (kt_set4 HA.out.m0 HA.out.f0 a b c d) (by simp [World.setCell]) (by decide) (by decide) (by decide) (by decide) (by decide) (by decide)
          obtain ⟨ab', cb', au', cu', e1, e2, hm, _⟩ := h1.mod
          cases e1
          cases e2
          exact hm
        clear hx
        go_wp2
        exact bodyPost_ret (v := .tuple #[mdW m ab au cb cu, .agg #[.int .i64 0, .int .i64 0]]) (by simp [results, Tryz.results6, go_sem, m0, m1, q0, q1]) rfl ⟨ab, cb, au, cu, by rw [HRA.out]; rfl, by rw [HRA.out]; exact HM.out _ _ _ _, set4_below HBW.out (by have := HN.out; omega) _ _ _ _⟩
      · have e2 : (rest == []) = false := by rw [beq_eq_false_iff_ne]; exact hre
        have HNE := hide hre
        have HGW : Hid (GV C wr) := HGC.out.below HA.out.below (Nat.le_refl _)
        obtain ⟨mm, hmm⟩ := HGW.out.cell
        have hcut := Tryz.strings_Cut ⟨rest.toArray⟩ ⟨#[10]⟩ mm wr (by rw [size_bs]; have := HA.out.few; omega) hmm
        rw [bs_list] at hcut
        clear hre hmm
        rcases first_of (c := 10) rest with hno | ⟨a, r, hr, ha⟩
        · have e3 : Lib.cut rest (⟨#[10]⟩ : ByteArray).data.toList = (rest, [], false) := cut_no hno
          rw [e3] at hcut
          have HCU := hide hcut
          have HRA : Hid (readA s = ((2, k), ⟨[], []⟩)) := HA.out.fin.trans (fin_open m k hno HNE.out)
          clear hcut e3 hno
          go_wp2_with fail
          refine HCU.out.mono ?_
          rintro e w2 ⟨rfl, nd, rfl⟩
          have HB2 : Hid (Below w.heap.size w (wr.drewN nd)) := HBW.out.trans ⟨rfl, rfl, rfl, Nat.le_refl _, fun _ _ => rfl⟩
          go_wp2
          exact bodyPost_ret (v := .tuple #[mdW ⟨[], []⟩ none none 0 0, .agg #[.int .i64 2, .int .i64 k]]) (by simp [results, Tryz.results6, go_sem, m0, m1, q0, q1]) rfl ⟨none, 0, none, 0, by rw [HRA.out]; rfl, by rw [HRA.out]; exact mod_none _ _, set4_below HB2.out (by have := HN.out; omega) _ _ _ _⟩
        · have e3 : Lib.cut rest (⟨#[10]⟩ : ByteArray).data.toList = (a, r, true) := by rw [hr]; exact cut_at ha
          rw [e3] at hcut
          have HCU := hide hcut
          have HFE : Hid (readA s = fin m k (a ++ 10 :: r)) := by unfold Hid; rw [HA.out.fin, hr]
          have HAA := hide ha
          have HLL : Hid (a.length + r.length + 1 + k ≤ 60000) := by unfold Hid; have := HA.out.few; rw [hr] at this; simp at this; omega
          have HRL : Hid (r.length < rest.length) := by unfold Hid; rw [hr]; simp; omega
          clear hcut e3 ha hr
          go_wp2_with fail
          refine HCU.out.mono ?_
          clear HCU
          rintro e w2 ⟨rfl, nd, rfl⟩
          have HRD2 : Hid (RD C R U J k (wr.drewN nd) m) := HA.out.rd.new (below_drewN _ _)
          have HG2 : Hid (GV C (wr.drewN nd)) := ⟨HGW.out.max, HGW.out.sp, HGW.out.pow, HGW.out.syn, HGW.out.rng, HGW.out.base⟩
          have HB2 : Hid (Below C w1 (wr.drewN nd)) := HA.out.below.trans ⟨rfl, rfl, rfl, Nat.le_refl _, fun _ _ => rfl⟩
          have HM2 : Hid ((wr.drewN nd).heap[N]? = some (.cells #[.slice none 0 0, .slice none 0 0] 25 (0, 0))) := HA.out.m0
          have HF2 : Hid ((wr.drewN nd).heap[N + 1]? = some (.cells #[.int .i64 0, .int .i64 0] 33 (0, 0))) := HA.out.f0
          generalize wr.drewN nd = W at HRD2 HG2 HB2 HM2 HF2 ⊢
          clear m0 m1 n0 n1 q0 q1 g0 g1 HGW HA
          obtain ⟨rr, hrr⟩ : ∃ rr, rr = line m a := ⟨_, rfl⟩
          have HRR := hide hrr
          clear hrr
          go_wp2_with fail
          refine (line_any C R U J k (hide (by have := HLL.out; omega)) a (hide (by have := HLL.out; omega)) W HG2 m HRD2 rr HRR).mono ?_
          rintro e W2 ⟨b, rfl, hbl, hbb, hRD⟩
          have hNC : N + 1 < C := by have := HC.out; have := HN.out; omega
          have HM3 := hide ((hbl.block N (by omega)).trans HM2.out)
          have HF3 := hide ((hbl.block (N + 1) hNC).trans HF2.out)
          have HB3 := hide (HB2.out.trans hbl)
          obtain ⟨m0, m1, n0, n1⟩ := blk2_cells HM3.out
          obtain ⟨q0, q1, g0, g1⟩ := blk2_cells HF3.out
          clear hbl HM2 HF2 HB2 HRD2 HG2 hNC
          cases rr with
          | none =>
            obtain rfl : b = false := hbb
            have HRA : Hid (readA s = ((2, k), ⟨[], []⟩)) := HFE.out.trans (fin_bad m k HAA.out HRR.out.symm)
            have HB4 : Hid (Below w.heap.size w W2) := HW1.out.trans (HB3.out.mono (by have := HC.out; omega))
            clear hRD
            go_wp2
            exact bodyPost_ret (v := .tuple #[mdW ⟨[], []⟩ none none 0 0, .agg #[.int .i64 2, .int .i64 k]]) (by simp [results, Tryz.results6, go_sem, m0, m1, q0, q1]) rfl ⟨none, 0, none, 0, by rw [HRA.out]; rfl, by rw [HRA.out]; exact mod_none _ _, set4_below HB4.out (by have := HN.out; omega) _ _ _ _⟩
          | some m' =>
            obtain rfl : b = true := hbb
            have HA4 : Hid (RdAt C R U J N s w1 r (k + 1) m' W2) := ⟨by have := HLL.out; omega, hRD m' rfl, HB3.out, HM3.out, HF3.out, HFE.out.trans (fin_more k HAA.out HRR.out.symm)⟩
            have hkk : (k : Int) ≤ 60000 := by have := HLL.out; omega
            clear hRD m0 m1 n0 n1 q0 q1 g0 g1
            go_wp2
            go_roundw
            case rel => exact ⟨r, k + 1, m', rfl, by go_num, HA4.out⟩
            case measure => have := HRL.out; simp [strLen, ByteArray.size]; omega

end Go.Proofs.YtbdcmkmeljddmaaGreatDoor.Aw


/- The document's answer, chapter 7, walked: WHAT ITS Comes ANSWERS. -/
import Derived.Test.YtfhombcgdkgcpaaVcS18
namespace Go.Proofs.Ytfhombcgdkgcpaa
open Go.RowKit

structure CmAt (m : Vf.Md) (ab au : Option Addr) (cb cu : Nat) (w W : World) (l : List Bool) : Prop where
  grown : w.grownBy W none
  mb : W.heap[w.heap.size]? = some (amO m ab au cb cu)
  row : BR W (w.heap.size + 1) (.slice (some ⟨w.heap.size + 1, 0, none⟩) m.units.length m.units.length) l
  len : l.length = m.units.length
theorem CmAt.next {m : Vf.Md} {ab au : Option Addr} {cb cu : Nat} {w W W' : World} {l : List Bool} (h : CmAt m ab au cb cu w W l) (hg : W.grownBy W' none) : CmAt m ab au cb cu w W' l :=
  ⟨grown0_tr' h.grown hg, (kept0 hg (lt_of_block h.mb)).trans h.mb, br_grown h.row hg, h.len⟩
theorem CmAt.new {m : Vf.Md} {ab au : Option Addr} {cb cu : Nat} {w W : World} {l : List Bool} (h : CmAt m ab au cb cu w W l) (o : Obj) : CmAt m ab au cb cu w (W.alloc o) l := h.next (grown0_new (World.grownBy.refl _ _) _)
theorem CmAt.set {m : Vf.Md} {ab au : Option Addr} {cb cu : Nat} {w W : World} {l : List Bool} (h : CmAt m ab au cb cu w W l) (x : Nat) : CmAt m ab au cb cu w (W.setCell ⟨w.heap.size + 1, x, none⟩ (.bool true)) (l.set x true) :=
  ⟨grown0_setN h.grown (by omega) _ _, (Below.heap_setCell _ ⟨w.heap.size + 1, x, none⟩ _ _ (by show w.heap.size ≠ w.heap.size + 1; omega)).trans h.mb, br_set2 h.row h.len true, by simpa using h.len⟩
theorem rounds_step {us : List Vf.Un} {n j : Nat} (h : j < n) (l : List Bool) : Vf.rounds us (n - j) l = Vf.rounds us (n - (j + 1)) (Vf.roundF us 0 l) := by
  have e : n - j = (n - (j + 1)) + 1 := by omega
  rw [e]
  rfl
theorem roundF_step {us : List Vf.Un} {k : Nat} {u : Vf.Un} (h : us[k]? = some u) (l : List Bool) : Vf.roundF (us.drop k) k l = Vf.roundF (us.drop (k + 1)) (k + 1) (u.code.foldl (Vf.mark k) l) := by
  obtain ⟨hk, rfl⟩ := List.getElem?_eq_some_iff.1 h
  rw [List.drop_eq_getElem_cons hk]
  rfl
theorem marks_step {cs : List Vf.Ins} {x k : Nat} {c : Vf.Ins} (h : cs[x]? = some c) (l : List Bool) : (cs.drop x).foldl (Vf.mark k) l = (cs.drop (x + 1)).foldl (Vf.mark k) (Vf.mark k l c) := by
  obtain ⟨hk, rfl⟩ := List.getElem?_eq_some_iff.1 h
  rw [List.drop_eq_getElem_cons hk]
  rfl
def cpq (m : Vf.Md) (l : List Bool) (op a : Int) (k : Nat) : Bool := l[k]? == some true && (Vf.unit m (k : Int)).code.any (fun c => c.op == op && c.a == a)
theorem range_step {n k : Nat} (h : k < n) (f : Nat → Bool) : ((List.range n).drop k).any f = (f k || ((List.range n).drop (k + 1)).any f) := by
  have hk : k < (List.range n).length := by simpa using h
  rw [List.drop_eq_getElem_cons hk]
  simp
theorem any_step {cs : List Vf.Ins} {x : Nat} {c : Vf.Ins} (h : cs[x]? = some c) (f : Vf.Ins → Bool) : (cs.drop x).any f = (f c || (cs.drop (x + 1)).any f) := by
  obtain ⟨hk, rfl⟩ := List.getElem?_eq_some_iff.1 h
  rw [List.drop_eq_getElem_cons hk]
  rfl

set_option maxRecDepth 100000 in
set_option maxHeartbeats 8000000 in
theorem rcomes_any (m : Vf.Md) (ab au : Option Addr) (cb cu B : Nat) (i : Nat) (op a : Int) (w : World) (hmd : Hid (ModIn B w m ab au)) (hB : B ≤ w.heap.size) (hR : Hid (Rt m)) (hi : i < m.units.length) (b : Bool) (hb : Hid (b = Vf.comesR m i (op, a))) :
    Calls Try.prog 19 #[mdV m ab au cb cu, .int .i64 (i : Int), .int .i64 op, .int .i64 a] w fun e w' => e = .returned (.bool b) ∧ w.grownBy w' none := by
  have hmu := hR.out.units
  have hmk : ∀ w : World, (Instr.makeSlice 73 (.int .i64 (m.units.length : Int)) (.int .i64 (m.units.length : Int))).run Try.prog w = .ok (.slice (some ⟨w.heap.size, 0, none⟩) m.units.length m.units.length) (w.alloc (haO m.units.length)) := fun w => by
    obtain ⟨i0, hi, z0, z1, z2⟩ := info_parts Try.infobool
    have := run_makeSlice (P := Try.prog) w 73 4 i0 _ Try.underlying73 hi z0 .i64 .i64 (m.units.length : Int) (m.units.length : Int) (by omega) (Int.le_refl _) (by rw [z1]; simp; omega) (by rw [z2]; omega) (by omega)
    rw [z1, Int.toNat_natCast] at this
    exact this
  obtain ⟨W0, hW0⟩ : ∃ W0 : World, (w.alloc (amO m ab au cb cu)).alloc (haO m.units.length) = W0 := ⟨_, rfl⟩
  have HC0 : Hid (CmAt m ab au cb cu w W0 (List.replicate m.units.length false)) := by
    rw [← hW0]
    refine ⟨two_new _ _ _, (Below.heap_alloc _ _ _ (by simp)).trans (heap_alloc_new w _), ?_, by simp⟩
    have := br_start (n := m.units.length) (new1 w (amO m ab au cb cu) (haO m.units.length)) (by omega)
    rw [Vf.bl_none] at this
    exact this
  obtain ⟨m0, m1, _⟩ := am_cells HC0.out.mb
  obtain ⟨c0, f0, _, l0⟩ := br_at HC0.out.row (x := i) (b := false) (by rw [List.getElem?_replicate, if_pos hi])
  have hil : (i : Int) < (m.units.length : Int) := by omega
  have lw := lt_of_block HC0.out.mb
  go_enter Try.func19, Try.ntmps19
  go_wp2_with fail
  go_loopw [28] (fun v wr => ∃ (j : Nat) (l : List Bool), v = .int .i64 j ∧ j ≤ m.units.length ∧ CmAt m ab au cb cu w wr l ∧ Vf.inR m i = Vf.rounds m.units (m.units.length - j) l) (fun v _ => m.units.length - (intOf v).toNat)
  case atStart => exact ⟨0, _, rfl, Nat.zero_le _, HC0.out.set i, rfl⟩
  case round =>
    clear m0 m1 c0 f0 l0 lw HC0
    obtain ⟨j, l, rfl, hj, hA, hin⟩ := hrel
    have HA := hide hA
    have HIN := hide hin
    obtain ⟨m0, m1, _⟩ := am_cells HA.out.mb
    have lw := lt_of_block HA.out.mb
    clear hA hin
    by_cases hjl : j < m.units.length
    · have HIN2 : Hid (Vf.inR m i = Vf.rounds m.units (m.units.length - (j + 1)) (Vf.roundF (m.units.drop 0) 0 l)) := by unfold Hid; rw [HIN.out, rounds_step hjl]; rfl
      have hji : (j : Int) < (m.units.length : Int) := by omega
      clear HIN
      go_wp2_with fail
      go_loopw [33] (fun v wr => ∃ (k : Nat) (l : List Bool), v = .int .i64 k ∧ k ≤ m.units.length ∧ CmAt m ab au cb cu w wr l ∧ Vf.inR m i = Vf.rounds m.units (m.units.length - (j + 1)) (Vf.roundF (m.units.drop k) k l)) (fun v _ => m.units.length - (intOf v).toNat)
      case atStart => exact ⟨0, l, rfl, Nat.zero_le _, HA.out, HIN2.out⟩
      case round =>
        clear m0 m1 lw HA HIN2
        obtain ⟨k, l, rfl, hk, hA, hin⟩ := hrel
        have HA := hide hA
        have HIN := hide hin
        have lw := lt_of_block hA.mb
        clear hA hin
        by_cases hkl : k < m.units.length
        · obtain ⟨u, hu⟩ : ∃ u, m.units[k]? = some u := ⟨_, List.getElem?_eq_getElem hkl⟩
          obtain ⟨bb, off, al, cl, ac, cc, ha, hbb, hui, u0, u1, u2, u3, u4, u5⟩ := (hmd.out.low (low0 HA.out.grown hB)).units k u hu
          have HU := hide hu
          have HUIK : Hid (∀ W, Low B w W → UnIn B W u al ac cl cc) := fun W hW => hui.low (fun j hj => (hW j hj).trans (low0 HA.out.grown hB j hj).symm)
          have HIN2 : Hid (Vf.inR m i = Vf.rounds m.units (m.units.length - (j + 1)) (Vf.roundF (m.units.drop (k + 1)) (k + 1) ((u.code.drop 0).foldl (Vf.mark k) l))) := by unfold Hid; rw [HIN.out, roundF_step hu]; rfl
          have hki : (k : Int) < (m.units.length : Int) := by omega
          have hbw : bb < wr.heap.size := by have := HA.out.grown.size; omega
          have hcl : u.code.length ≤ 9223372036854775807 := hui.few.2
          have HA2 : Hid (CmAt m ab au cb cu w (wr.alloc (unO u al ac cl cc)) l) := HA.out.new _
          have HUB : Hid ((wr.alloc (unO u al ac cl cc)).heap[wr.heap.size]? = some (unO u al ac cl cc)) := heap_alloc_new wr _
          clear hu hui HIN
          subst ha
          go_wp2_with fail
          generalize hN : wr.heap.size = N2 at HUB ⊢
          go_loopw [41] (fun v wr => ∃ (x : Nat) (l : List Bool), v = .int .i64 x ∧ x ≤ u.code.length ∧ CmAt m ab _ cb cu w wr l ∧ Vf.inR m i = Vf.rounds m.units (m.units.length - (j + 1)) (Vf.roundF (m.units.drop (k + 1)) (k + 1) ((u.code.drop x).foldl (Vf.mark k) l))) (fun v _ => u.code.length - (intOf v).toNat)
          case atStart => exact ⟨0, l, rfl, Nat.zero_le _, HA2.out, HIN2.out⟩
          case round =>
            clear lw HA HIN2 HA2 HUB u0 u1 u2 u3 u4 u5 hbw
            obtain ⟨x, l, rfl, hx, hA, hin⟩ := hrel
            have HA := hide hA
            have HIN := hide hin
            have lw := lt_of_block hA.mb
            clear hA hin
            by_cases hxl : x < u.code.length
            · obtain ⟨⟨op', a', n'⟩, hc⟩ : ∃ c, u.code[x]? = some c := ⟨_, List.getElem?_eq_getElem hxl⟩
              obtain ⟨_, _, _, b2, off2, hac, hb2, c0, c1, c2⟩ := (HUIK.out wr (low0 HA.out.grown hB)).code x _ hc
              obtain ⟨bk, hbk⟩ : ∃ bk, l[k]? = some bk := ⟨_, List.getElem?_eq_getElem (by rw [HA.out.len]; exact hkl)⟩
              obtain ⟨d0, f0, _, l0⟩ := br_at HA.out.row hbk
              have HIN2 : Hid (Vf.inR m i = Vf.rounds m.units (m.units.length - (j + 1)) (Vf.roundF (m.units.drop (k + 1)) (k + 1) ((u.code.drop (x + 1)).foldl (Vf.mark k) (Vf.mark k l ⟨op', a', n'⟩)))) := by unfold Hid; rw [HIN.out, marks_step hc]
              have HCI : Hid (Vf.isCall ⟨op', a', n'⟩ = true → 0 ≤ a' ∧ a'.toNat < m.units.length) := fun ho => Vf.calls_in hR.out HU.out (List.mem_of_getElem? hc) ho
              have hxi : (x : Int) < (u.code.length : Int) := by omega
              have hbw : b2 < wr.heap.size := by have := HA.out.grown.size; omega
              have HBK := hide hbk
              clear hc HIN hbk
              subst hac
              cases bk with
              | false =>
                have HM : Hid (Vf.mark k l ⟨op', a', n'⟩ = l) := by unfold Hid Vf.mark; rw [if_neg (fun h => by rw [HBK.out] at h; cases h.1)]
                rw [HM.out] at HIN2
                go_wp2
                go_roundw
                case rel => exact ⟨x + 1, l, by go_num, hxl, HA.out.new _, HIN2.out⟩
                case measure => simp [intOf]; omega
              | true =>
                by_cases hcall : op' = 23 ∨ op' = 29
                · have HIC : Hid (Vf.isCall ⟨op', a', n'⟩ = true) := by unfold Hid Vf.isCall; simpa using hcall
                  obtain ⟨ha0, han⟩ := HCI.out HIC.out
                  obtain ⟨an, rfl⟩ := nn_of ha0
                  have hani : (an : Int) < (m.units.length : Int) := by simp at han; omega
                  have hanl : an < m.units.length := by simpa using han
                  obtain ⟨ba, hba⟩ : ∃ ba, l[an]? = some ba := ⟨_, List.getElem?_eq_getElem (by rw [HA.out.len]; exact hanl)⟩
                  obtain ⟨d1, f1, _, _⟩ := br_at HA.out.row hba
                  have HM : Hid (Vf.mark k l ⟨op', (an : Int), n'⟩ = l.set an true) := by unfold Hid Vf.mark; rw [if_pos ⟨HBK.out, HIC.out⟩]; rfl
                  rw [HM.out] at HIN2
                  clear hba ha0 han
                  by_cases h23 : op' = 23
                  · have e23 : (op' == 23) = true := by simpa using h23
                    clear h23 hcall
                    go_wp2
                    go_roundw
                    case rel => exact ⟨x + 1, l.set an true, by go_num, hxl, (HA.out.set an).new _, HIN2.out⟩
                    case measure => simp [intOf]; omega
                  · have e23 : (op' == 23) = false := by simpa using h23
                    have e29 : (op' == 29) = true := by simpa using hcall.resolve_left h23
                    clear h23 hcall
                    go_wp2
                    go_roundw
                    case rel => exact ⟨x + 1, l.set an true, by go_num, hxl, (HA.out.set an).new _, HIN2.out⟩
                    case measure => simp [intOf]; omega
                · have e23 : (op' == 23) = false := by simp; omega
                  have e29 : (op' == 29) = false := by simp; omega
                  have HM : Hid (Vf.mark k l ⟨op', a', n'⟩ = l) := by unfold Hid Vf.mark; rw [if_neg (fun h => by have := h.2; unfold Vf.isCall at this; simp at this; omega)]
                  rw [HM.out] at HIN2
                  clear hcall
                  go_wp2
                  go_roundw
                  case rel => exact ⟨x + 1, l, by go_num, hxl, HA.out.new _, HIN2.out⟩
                  case measure => simp [intOf]; omega
            · have HIN2 : Hid (Vf.inR m i = Vf.rounds m.units (m.units.length - (j + 1)) (Vf.roundF (m.units.drop (k + 1)) (k + 1) l)) := by
                have h1 := HIN.out
                rw [List.drop_eq_nil_of_le (show u.code.length ≤ x by omega)] at h1
                exact h1
              clear HIN
              go_wp2
              go_roundw
              case rel => exact ⟨k + 1, l, by go_num, hkl, HA.out, HIN2.out⟩
              case measure => simp [intOf]; omega
        · have HIN2 : Hid (Vf.inR m i = Vf.rounds m.units (m.units.length - (j + 1)) l) := by
            have h1 := HIN.out
            rw [List.drop_eq_nil_of_le (by omega)] at h1
            exact h1
          clear HIN
          go_wp2
          go_roundw
          case rel => exact ⟨j + 1, l, by go_num, hjl, HA.out, HIN2.out⟩
          case measure => simp [intOf]; omega
    · have HIL : Hid (Vf.inR m i = l) := by
        have h1 := HIN.out
        rw [show m.units.length - j = 0 by omega] at h1
        exact h1
      have HBB : Hid (b = ((List.range m.units.length).drop 0).any (cpq m l op a)) := by
        unfold Hid
        rw [hb.out]
        unfold Vf.comesR cpq
        rw [HIL.out]
        rfl
      clear HIN
      go_wp2_with fail
      go_loopw [69] (fun v wr => ∃ (k : Nat), v = .int .i64 k ∧ k ≤ m.units.length ∧ CmAt m ab au cb cu w wr l ∧ b = ((List.range m.units.length).drop k).any (cpq m l op a)) (fun v _ => m.units.length - (intOf v).toNat)
      case atStart => exact ⟨0, rfl, Nat.zero_le _, HA.out, HBB.out⟩
      case round =>
        clear m0 m1 lw HA HBB
        obtain ⟨k, rfl, hk, hA, hin⟩ := hrel
        have HA := hide hA
        have HIN := hide hin
        have lw := lt_of_block hA.mb
        clear hA hin
        by_cases hkl : k < m.units.length
        · obtain ⟨u, hu⟩ : ∃ u, m.units[k]? = some u := ⟨_, List.getElem?_eq_getElem hkl⟩
          obtain ⟨bb, off, al, cl, ac, cc, ha, hbb, hui, u0, u1, u2, u3, u4, u5⟩ := (hmd.out.low (low0 HA.out.grown hB)).units k u hu
          have HUIK : Hid (∀ W, Low B w W → UnIn B W u al ac cl cc) := fun W hW => hui.low (fun j hj => (hW j hj).trans (low0 HA.out.grown hB j hj).symm)
          obtain ⟨bk, hbk⟩ : ∃ bk, l[k]? = some bk := ⟨_, List.getElem?_eq_getElem (by rw [HA.out.len]; exact hkl)⟩
          have HBK := hide hbk
          have HIN2 : Hid (b = ((bk && (u.code.drop 0).any (fun c => c.op == op && c.a == a)) || ((List.range m.units.length).drop (k + 1)).any (cpq m l op a))) := by
            unfold Hid
            rw [HIN.out, range_step hkl]
            unfold cpq
            rw [hbk, Vf.unit_at hu]
            cases bk <;> rfl
          have hki : (k : Int) < (m.units.length : Int) := by omega
          have hbw : bb < wr.heap.size := by have := HA.out.grown.size; omega
          have hcl : u.code.length ≤ 9223372036854775807 := hui.few.2
          have HA2 : Hid (CmAt m ab au cb cu w (wr.alloc (unO u al ac cl cc)) l) := HA.out.new _
          clear hu hui HIN hbk
          subst ha
          go_wp2_with fail
          generalize hN : wr.heap.size = N2
          go_loopw [77] (fun v wr => ∃ (x : Nat), v = .int .i64 x ∧ x ≤ u.code.length ∧ CmAt m ab _ cb cu w wr l ∧ b = ((bk && (u.code.drop x).any (fun c => c.op == op && c.a == a)) || ((List.range m.units.length).drop (k + 1)).any (cpq m l op a))) (fun v _ => u.code.length - (intOf v).toNat)
          case atStart => exact ⟨0, rfl, Nat.zero_le _, HA2.out, HIN2.out⟩
          case round =>
            clear lw HA HIN2 HA2 u0 u1 u2 u3 u4 u5 hbw
            obtain ⟨x, rfl, hx, hA, hin⟩ := hrel
            have HA := hide hA
            have HIN := hide hin
            have lw := lt_of_block hA.mb
            clear hA hin
            by_cases hxl : x < u.code.length
            · obtain ⟨⟨op', a', n'⟩, hc⟩ : ∃ c, u.code[x]? = some c := ⟨_, List.getElem?_eq_getElem hxl⟩
              obtain ⟨_, _, _, b2, off2, hac, hb2, c0, c1, c2⟩ := (HUIK.out wr (low0 HA.out.grown hB)).code x _ hc
              obtain ⟨d0, f0, _, l0⟩ := br_at HA.out.row HBK.out
              have HIN2 : Hid (b = ((bk && ((op' == op && a' == a) || (u.code.drop (x + 1)).any (fun c => c.op == op && c.a == a))) || ((List.range m.units.length).drop (k + 1)).any (cpq m l op a))) := by
                unfold Hid
                rw [HIN.out, any_step hc]
              have hxi : (x : Int) < (u.code.length : Int) := by omega
              have hbw : b2 < wr.heap.size := by have := HA.out.grown.size; omega
              clear hc HIN
              subst hac
              cases bk with
              | false =>
                go_wp2
                go_roundw
                case rel => exact ⟨x + 1, by go_num, hxl, HA.out.new _, HIN2.out⟩
                case measure => simp [intOf]; omega
              | true =>
                cases eo : (op' == op) with
                | false =>
                  rw [eo] at HIN2
                  go_wp2
                  go_roundw
                  case rel => exact ⟨x + 1, by go_num, hxl, HA.out.new _, HIN2.out⟩
                  case measure => simp [intOf]; omega
                | true =>
                  cases ea : (a' == a) with
                  | false =>
                    rw [eo, ea] at HIN2
                    go_wp2
                    go_roundw
                    case rel => exact ⟨x + 1, by go_num, hxl, HA.out.new _, HIN2.out⟩
                    case measure => simp [intOf]; omega
                  | true =>
                    have HBT : Hid (b = true) := by have := HIN2.out; rw [eo, ea] at this; exact this
                    clear HIN2
                    go_wp2
                    go_ret
                    rw [HBT.out]
                    exact ⟨rfl, (HA.out.new _).grown⟩
            · have HIN2 : Hid (b = ((List.range m.units.length).drop (k + 1)).any (cpq m l op a)) := by
                have h1 := HIN.out
                rw [List.drop_eq_nil_of_le (show u.code.length ≤ x by omega)] at h1
                unfold Hid
                rw [h1]
                simp
              clear HIN
              go_wp2
              go_roundw
              case rel => exact ⟨k + 1, by go_num, hkl, HA.out, HIN2.out⟩
              case measure => simp [intOf]; omega
        · have HBF : Hid (b = false) := by
            have h1 := HIN.out
            rw [List.drop_eq_nil_of_le (by simp; omega)] at h1
            exact h1
          clear HIN
          go_wp2
          go_ret
          rw [HBF.out]
          exact ⟨rfl, HA.out.grown⟩
end Go.Proofs.Ytfhombcgdkgcpaa

/- The document's answer, chapter 7, walked: WHAT ITS Comes ANSWERS. -/
import Derived.Test.YtbkimpimoclobaaM33
import Derived.Test.YtbkimpimoclobaaM28
import Derived.Test.YtbkimpimoclobaaM39
namespace Go.Proofs.Ytbkimpimoclobaa
open Go.RowKit

structure CmAt (m : Vf.Md) (ab au : Option Addr) (cb cu : Nat) (w W : World) (l : List Bool) : Prop where
  grown : w.grownBy W none
  mb : W.heap[w.heap.size]? = some (amO m ab au cb cu)
  row : BR W (w.heap.size + 1) (.slice (some ⟨w.heap.size + 1, 0, none⟩) m.units.length m.units.length) l
  len : l.length = m.units.length
theorem CmAt.next {m : Vf.Md} {ab au : Option Addr} {cb cu : Nat} {w W W' : World} {l : List Bool} (h : CmAt m ab au cb cu w W l) (hg : W.grownBy W' none) : CmAt m ab au cb cu w W' l :=
  ⟨grown0_tr' h.grown hg, (kept0 hg (lt_of_block h.mb)).trans h.mb, br_grown h.row hg, h.len⟩
theorem CmAt.new {m : Vf.Md} {ab au : Option Addr} {cb cu : Nat} {w W : World} {l : List Bool} (h : CmAt m ab au cb cu w W l) (o : Obj) : CmAt m ab au cb cu w (W.alloc o) l := h.next (grown0_new (World.grownBy.refl _ _) _)
theorem CmAt.set {m : Vf.Md} {ab au : Option Addr} {cb cu : Nat} {w W : World} {l : List Bool} (h : CmAt m ab au cb cu w W l) (x : Nat) : CmAt m ab au cb cu w (W.setCell ⟨w.heap.size + 1, x, none⟩ (.bool true)) (l.set x true) :=
  ⟨grown0_setN h.grown (by omega) _ _, (Below.heap_setCell _ ⟨w.heap.size + 1, x, none⟩ _ _ (by show w.heap.size ≠ w.heap.size + 1; omega)).trans h.mb, br_set2 h.row h.len true, by simpa using h.len⟩
theorem rounds_step {us : List Vf.Un} {n j : Nat} (h : j < n) (l : List Bool) : Vf.rounds us (n - j) l = Vf.rounds us (n - (j + 1)) (Vf.roundF us 0 l) := by
  have e : n - j = (n - (j + 1)) + 1 := by omega
  rw [e]
  rfl
theorem roundF_step {us : List Vf.Un} {k : Nat} {u : Vf.Un} (h : us[k]? = some u) (l : List Bool) : Vf.roundF (us.drop k) k l = Vf.roundF (us.drop (k + 1)) (k + 1) (u.code.foldl (Vf.mark k) l) := by
  obtain ⟨hk, rfl⟩ := List.getElem?_eq_some_iff.1 h
  rw [List.drop_eq_getElem_cons hk]
  rfl
theorem marks_step {cs : List Vf.Ins} {x k : Nat} {c : Vf.Ins} (h : cs[x]? = some c) (l : List Bool) : (cs.drop x).foldl (Vf.mark k) l = (cs.drop (x + 1)).foldl (Vf.mark k) (Vf.mark k l c) := by
  obtain ⟨hk, rfl⟩ := List.getElem?_eq_some_iff.1 h
  rw [List.drop_eq_getElem_cons hk]
  rfl
def cpq (m : Vf.Md) (l : List Bool) (op a : Int) (k : Nat) : Bool := l[k]? == some true && (Vf.unit m (k : Int)).code.any (fun c => c.op == op && c.a == a)
theorem range_step {n k : Nat} (h : k < n) (f : Nat → Bool) : ((List.range n).drop k).any f = (f k || ((List.range n).drop (k + 1)).any f) := by
  have hk : k < (List.range n).length := by simpa using h
  rw [List.drop_eq_getElem_cons hk]
  simp
theorem any_step {cs : List Vf.Ins} {x : Nat} {c : Vf.Ins} (h : cs[x]? = some c) (f : Vf.Ins → Bool) : (cs.drop x).any f = (f c || (cs.drop (x + 1)).any f) := by
  obtain ⟨hk, rfl⟩ := List.getElem?_eq_some_iff.1 h
  rw [List.drop_eq_getElem_cons hk]
  rfl

set_option maxRecDepth 100000 in
set_option maxHeartbeats 8000000 in
theorem rcomes_any (m : Vf.Md) (ab au : Option Addr) (cb cu B : Nat) (i : Nat) (op a : Int) (w : World) (hmd : Hid (ModIn B w m ab au)) (hB : B ≤ w.heap.size) (hR : Hid (Rt m)) (hi : i < m.units.length) (b : Bool) (hb : Hid (b = Vf.comesR m i (op, a))) :
    Calls Try.prog 19 #[mdV m ab au cb cu, .int .i64 (i : Int), .int .i64 op, .int .i64 a] w fun e w' => e = .returned (.bool b) ∧ w.grownBy w' none := by
  have hmu := hR.out.units
  have hmk : ∀ w : World, (Instr.makeSlice 74 (.int .i64 (m.units.length : Int)) (.int .i64 (m.units.length : Int))).run Try.prog w = .ok (.slice (some ⟨w.heap.size, 0, none⟩) m.units.length m.units.length) (w.alloc (haO m.units.length)) := fun w => by
    obtain ⟨i0, hi, z0, z1, z2⟩ := info_parts Try.infobool
    have := run_makeSlice (P := Try.prog) w 74 4 i0 _ Try.underlying74 hi z0 .i64 .i64 (m.units.length : Int) (m.units.length : Int) (by omega) (Int.le_refl _) (by rw [z1]; simp; omega) (by rw [z2]; omega) (by omega)
    rw [z1, Int.toNat_natCast] at this
    exact this
  obtain ⟨W0, hW0⟩ : ∃ W0 : World, (w.alloc (amO m ab au cb cu)).alloc (haO m.units.length) = W0 := ⟨_, rfl⟩
  have HC0 : Hid (CmAt m ab au cb cu w W0 (List.replicate m.units.length false)) := by
    rw [← hW0]
    refine ⟨two_new _ _ _, (Below.heap_alloc _ _ _ (by simp)).trans (heap_alloc_new w _), ?_, by simp⟩
    have := br_start (n := m.units.length) (new1 w (amO m ab au cb cu) (haO m.units.length)) (by omega)
    rw [Vf.bl_none] at this
    exact this
  obtain ⟨m0, m1, _⟩ := am_cells HC0.out.mb
  obtain ⟨c0, f0, _, l0⟩ := br_at HC0.out.row (x := i) (b := false) (by rw [List.getElem?_replicate, if_pos hi])
  have hil : (i : Int) < (m.units.length : Int) := by omega
  have lw := lt_of_block HC0.out.mb
  go_enter Try.func19, Try.ntmps19
  go_wp2_with fail
  go_loopw [28] (fun v wr => ∃ (j : Nat) (l : List Bool), v = .int .i64 j ∧ j ≤ m.units.length ∧ CmAt m ab au cb cu w wr l ∧ Vf.inR m i = Vf.rounds m.units (m.units.length - j) l) (fun v _ => m.units.length - (intOf v).toNat)
  case atStart => exact ⟨0, _, rfl, Nat.zero_le _, HC0.out.set i, rfl⟩
  case round =>
    clear m0 m1 c0 f0 l0 lw HC0
    obtain ⟨j, l, rfl, hj, hA, hin⟩ := hrel
    have HA := hide hA
    have HIN := hide hin
    obtain ⟨m0, m1, _⟩ := am_cells HA.out.mb
    have lw := lt_of_block HA.out.mb
    clear hA hin
    by_cases hjl : j < m.units.length
    · have HIN2 : Hid (Vf.inR m i = Vf.rounds m.units (m.units.length - (j + 1)) (Vf.roundF (m.units.drop 0) 0 l)) := by unfold Hid; rw [HIN.out, rounds_step hjl]; rfl
      have hji : (j : Int) < (m.units.length : Int) := by omega
      clear HIN
      go_wp2_with fail
      go_loopw [33] (fun v wr => ∃ (k : Nat) (l : List Bool), v = .int .i64 k ∧ k ≤ m.units.length ∧ CmAt m ab au cb cu w wr l ∧ Vf.inR m i = Vf.rounds m.units (m.units.length - (j + 1)) (Vf.roundF (m.units.drop k) k l)) (fun v _ => m.units.length - (intOf v).toNat)
      case atStart => exact ⟨0, l, rfl, Nat.zero_le _, HA.out, HIN2.out⟩
      case round =>
        clear m0 m1 lw HA HIN2
        obtain ⟨k, l, rfl, hk, hA, hin⟩ := hrel
        have HA := hide hA
        have HIN := hide hin
        have lw := lt_of_block hA.mb
        clear hA hin
        by_cases hkl : k < m.units.length
        · obtain ⟨u, hu⟩ : ∃ u, m.units[k]? = some u := ⟨_, List.getElem?_eq_getElem hkl⟩
          obtain ⟨bb, off, al, cl, ac, cc, ha, hbb, hui, u0, u1, u2, u3, u4, u5⟩ := (hmd.out.low (low0 HA.out.grown hB)).units k u hu
          have HU := hide hu
          have HUIK : Hid (∀ W, Low B w W → UnIn B W u al ac cl cc) := fun W hW => hui.low (fun j hj => (hW j hj).trans (low0 HA.out.grown hB j hj).symm)
          have HIN2 : Hid (Vf.inR m i = Vf.rounds m.units (m.units.length - (j + 1)) (Vf.roundF (m.units.drop (k + 1)) (k + 1) ((u.code.drop 0).foldl (Vf.mark k) l))) := by unfold Hid; rw [HIN.out, roundF_step hu]; rfl
          have hki : (k : Int) < (m.units.length : Int) := by omega
          have hbw : bb < wr.heap.size := by have := HA.out.grown.size; omega
          have hcl : u.code.length ≤ 9223372036854775807 := hui.few.2
          have HA2 : Hid (CmAt m ab au cb cu w (wr.alloc (unO u al ac cl cc)) l) := HA.out.new _
          have HUB : Hid ((wr.alloc (unO u al ac cl cc)).heap[wr.heap.size]? = some (unO u al ac cl cc)) := heap_alloc_new wr _
          clear hu hui HIN
          subst ha
          go_wp2_with fail
          generalize hN : wr.heap.size = N2 at HUB ⊢
          go_loopw [41] (fun v wr => ∃ (x : Nat) (l : List Bool), v = .int .i64 x ∧ x ≤ u.code.length ∧ CmAt m ab _ cb cu w wr l ∧ Vf.inR m i = Vf.rounds m.units (m.units.length - (j + 1)) (Vf.roundF (m.units.drop (k + 1)) (k + 1) ((u.code.drop x).foldl (Vf.mark k) l))) (fun v _ => u.code.length - (intOf v).toNat)
          case atStart => exact ⟨0, l, rfl, Nat.zero_le _, HA2.out, HIN2.out⟩
          case round =>
            clear lw HA HIN2 HA2 HUB u0 u1 u2 u3 u4 u5 hbw
            obtain ⟨x, l, rfl, hx, hA, hin⟩ := hrel
            have HA := hide hA
            have HIN := hide hin
            have lw := lt_of_block hA.mb
            clear hA hin
            by_cases hxl : x < u.code.length
            · obtain ⟨⟨op', a', n'⟩, hc⟩ : ∃ c, u.code[x]? = some c := ⟨_, List.getElem?_eq_getElem hxl⟩
              obtain ⟨_, _, _, b2, off2, hac, hb2, c0, c1, c2⟩ := (HUIK.out wr (low0 HA.out.grown hB)).code x _ hc
              obtain ⟨bk, hbk⟩ : ∃ bk, l[k]? = some bk := ⟨_, List.getElem?_eq_getElem (by rw [HA.out.len]; exact hkl)⟩
              obtain ⟨d0, f0, _, l0⟩ := br_at HA.out.row hbk
              have HIN2 : Hid (Vf.inR m i = Vf.rounds m.units (m.units.length - (j + 1)) (Vf.roundF (m.units.drop (k + 1)) (k + 1) ((u.code.drop (x + 1)).foldl (Vf.mark k) (Vf.mark k l ⟨op', a', n'⟩)))) := by unfold Hid; rw [HIN.out, marks_step hc]
              have HCI : Hid (Vf.isCall ⟨op', a', n'⟩ = true → 0 ≤ a' ∧ a'.toNat < m.units.length) := fun ho => Vf.calls_in hR.out HU.out (List.mem_of_getElem? hc) ho
              have hxi : (x : Int) < (u.code.length : Int) := by omega
              have hbw : b2 < wr.heap.size := by have := HA.out.grown.size; omega
              have HBK := hide hbk
              clear hc HIN hbk
              subst hac
              cases bk with
              | false =>
                have HM : Hid (Vf.mark k l ⟨op', a', n'⟩ = l) := by unfold Hid Vf.mark; rw [if_neg (fun h => by rw [HBK.out] at h; cases h.1)]
                rw [HM.out] at HIN2
                go_wp2
                go_roundw
                case rel => exact ⟨x + 1, l, by go_num, hxl, HA.out.new _, HIN2.out⟩
                case measure => simp [intOf]; omega
              | true =>
                by_cases hcall : op' = 23 ∨ op' = 29
                · have HIC : Hid (Vf.isCall ⟨op', a', n'⟩ = true) := by unfold Hid Vf.isCall; simpa using hcall
                  obtain ⟨ha0, han⟩ := HCI.out HIC.out
                  obtain ⟨an, rfl⟩ := nn_of ha0
                  have hani : (an : Int) < (m.units.length : Int) := by simp at han; omega
                  have hanl : an < m.units.length := by simpa using han
                  obtain ⟨ba, hba⟩ : ∃ ba, l[an]? = some ba := ⟨_, List.getElem?_eq_getElem (by rw [HA.out.len]; exact hanl)⟩
                  obtain ⟨d1, f1, _, _⟩ := br_at HA.out.row hba
                  have HM : Hid (Vf.mark k l ⟨op', (an : Int), n'⟩ = l.set an true) := by unfold Hid Vf.mark; rw [if_pos ⟨HBK.out, HIC.out⟩]; rfl
                  rw [HM.out] at HIN2
                  clear hba ha0 han
                  by_cases h23 : op' = 23
                  · have e23 : (op' == 23) = true := by simpa using h23
                    clear h23 hcall
                    go_wp2
                    go_roundw
                    case rel => exact ⟨x + 1, l.set an true, by go_num, hxl, (HA.out.set an).new _, HIN2.out⟩
                    case measure => simp [intOf]; omega
                  · have e23 : (op' == 23) = false := by simpa using h23
                    have e29 : (op' == 29) = true := by simpa using hcall.resolve_left h23
                    clear h23 hcall
                    go_wp2
                    go_roundw
                    case rel => exact ⟨x + 1, l.set an true, by go_num, hxl, (HA.out.set an).new _, HIN2.out⟩
                    case measure => simp [intOf]; omega
                · have e23 : (op' == 23) = false := by simp; omega
                  have e29 : (op' == 29) = false := by simp; omega
                  have HM : Hid (Vf.mark k l ⟨op', a', n'⟩ = l) := by unfold Hid Vf.mark; rw [if_neg (fun h => by have := h.2; unfold Vf.isCall at this; simp at this; omega)]
                  rw [HM.out] at HIN2
                  clear hcall
                  go_wp2
                  go_roundw
                  case rel => exact ⟨x + 1, l, by go_num, hxl, HA.out.new _, HIN2.out⟩
                  case measure => simp [intOf]; omega
            · have HIN2 : Hid (Vf.inR m i = Vf.rounds m.units (m.units.length - (j + 1)) (Vf.roundF (m.units.drop (k + 1)) (k + 1) l)) := by
                have h1 := HIN.out
                rw [List.drop_eq_nil_of_le (show u.code.length ≤ x by omega)] at h1
                exact h1
              clear HIN
              go_wp2
              go_roundw
              case rel => exact ⟨k + 1, l, by go_num, hkl, HA.out, HIN2.out⟩
              case measure => simp [intOf]; omega
        · have HIN2 : Hid (Vf.inR m i = Vf.rounds m.units (m.units.length - (j + 1)) l) := by
            have h1 := HIN.out
            rw [List.drop_eq_nil_of_le (by omega)] at h1
            exact h1
          clear HIN
          go_wp2
          go_roundw
          case rel => exact ⟨j + 1, l, by go_num, hjl, HA.out, HIN2.out⟩
          case measure => simp [intOf]; omega
    · have HIL : Hid (Vf.inR m i = l) := by
        have h1 := HIN.out
        rw [show m.units.length - j = 0 by omega] at h1
        exact h1
      have HBB : Hid (b = ((List.range m.units.length).drop 0).any (cpq m l op a)) := by
        unfold Hid
        rw [hb.out]
        unfold Vf.comesR cpq
        rw [HIL.out]
        rfl
      clear HIN
      go_wp2_with fail
      go_loopw [69] (fun v wr => ∃ (k : Nat), v = .int .i64 k ∧ k ≤ m.units.length ∧ CmAt m ab au cb cu w wr l ∧ b = ((List.range m.units.length).drop k).any (cpq m l op a)) (fun v _ => m.units.length - (intOf v).toNat)
      case atStart => exact ⟨0, rfl, Nat.zero_le _, HA.out, HBB.out⟩
      case round =>
        clear m0 m1 lw HA HBB
        obtain ⟨k, rfl, hk, hA, hin⟩ := hrel
        have HA := hide hA
        have HIN := hide hin
        have lw := lt_of_block hA.mb
        clear hA hin
        by_cases hkl : k < m.units.length
        · obtain ⟨u, hu⟩ : ∃ u, m.units[k]? = some u := ⟨_, List.getElem?_eq_getElem hkl⟩
          obtain ⟨bb, off, al, cl, ac, cc, ha, hbb, hui, u0, u1, u2, u3, u4, u5⟩ := (hmd.out.low (low0 HA.out.grown hB)).units k u hu
          have HUIK : Hid (∀ W, Low B w W → UnIn B W u al ac cl cc) := fun W hW => hui.low (fun j hj => (hW j hj).trans (low0 HA.out.grown hB j hj).symm)
          obtain ⟨bk, hbk⟩ : ∃ bk, l[k]? = some bk := ⟨_, List.getElem?_eq_getElem (by rw [HA.out.len]; exact hkl)⟩
          have HBK := hide hbk
          have HIN2 : Hid (b = ((bk && (u.code.drop 0).any (fun c => c.op == op && c.a == a)) || ((List.range m.units.length).drop (k + 1)).any (cpq m l op a))) := by
            unfold Hid
            rw [HIN.out, range_step hkl]
            unfold cpq
            rw [hbk, Vf.unit_at hu]
            cases bk <;> rfl
          have hki : (k : Int) < (m.units.length : Int) := by omega
          have hbw : bb < wr.heap.size := by have := HA.out.grown.size; omega
          have hcl : u.code.length ≤ 9223372036854775807 := hui.few.2
          have HA2 : Hid (CmAt m ab au cb cu w (wr.alloc (unO u al ac cl cc)) l) := HA.out.new _
          clear hu hui HIN hbk
          subst ha
          go_wp2_with fail
          generalize hN : wr.heap.size = N2
          go_loopw [77] (fun v wr => ∃ (x : Nat), v = .int .i64 x ∧ x ≤ u.code.length ∧ CmAt m ab _ cb cu w wr l ∧ b = ((bk && (u.code.drop x).any (fun c => c.op == op && c.a == a)) || ((List.range m.units.length).drop (k + 1)).any (cpq m l op a))) (fun v _ => u.code.length - (intOf v).toNat)
          case atStart => exact ⟨0, rfl, Nat.zero_le _, HA2.out, HIN2.out⟩
          case round =>
            clear lw HA HIN2 HA2 u0 u1 u2 u3 u4 u5 hbw
            obtain ⟨x, rfl, hx, hA, hin⟩ := hrel
            have HA := hide hA
            have HIN := hide hin
            have lw := lt_of_block hA.mb
            clear hA hin
            by_cases hxl : x < u.code.length
            · obtain ⟨⟨op', a', n'⟩, hc⟩ : ∃ c, u.code[x]? = some c := ⟨_, List.getElem?_eq_getElem hxl⟩
              obtain ⟨_, _, _, b2, off2, hac, hb2, c0, c1, c2⟩ := (HUIK.out wr (low0 HA.out.grown hB)).code x _ hc
              obtain ⟨d0, f0, _, l0⟩ := br_at HA.out.row HBK.out
              have HIN2 : Hid (b = ((bk && ((op' == op && a' == a) || (u.code.drop (x + 1)).any (fun c => c.op == op && c.a == a))) || ((List.range m.units.length).drop (k + 1)).any (cpq m l op a))) := by
                unfold Hid
                rw [HIN.out, any_step hc]
              have hxi : (x : Int) < (u.code.length : Int) := by omega
              have hbw : b2 < wr.heap.size := by have := HA.out.grown.size; omega
              clear hc HIN
              subst hac
              cases bk with
              | false =>
                go_wp2
                go_roundw
                case rel => exact ⟨x + 1, by go_num, hxl, HA.out.new _, HIN2.out⟩
                case measure => simp [intOf]; omega
              | true =>
                cases eo : (op' == op) with
                | false =>
                  rw [eo] at HIN2
                  go_wp2
                  go_roundw
                  case rel => exact ⟨x + 1, by go_num, hxl, HA.out.new _, HIN2.out⟩
                  case measure => simp [intOf]; omega
                | true =>
                  cases ea : (a' == a) with
                  | false =>
                    rw [eo, ea] at HIN2
                    go_wp2
                    go_roundw
                    case rel => exact ⟨x + 1, by go_num, hxl, HA.out.new _, HIN2.out⟩
                    case measure => simp [intOf]; omega
                  | true =>
                    have HBT : Hid (b = true) := by have := HIN2.out; rw [eo, ea] at this; exact this
                    clear HIN2
                    go_wp2
                    go_ret
                    rw [HBT.out]
                    exact ⟨rfl, (HA.out.new _).grown⟩
            · have HIN2 : Hid (b = ((List.range m.units.length).drop (k + 1)).any (cpq m l op a)) := by
                have h1 := HIN.out
                rw [List.drop_eq_nil_of_le (show u.code.length ≤ x by omega)] at h1
                unfold Hid
                rw [h1]
                simp
              clear HIN
              go_wp2
              go_roundw
              case rel => exact ⟨k + 1, by go_num, hkl, HA.out, HIN2.out⟩
              case measure => simp [intOf]; omega
        · have HBF : Hid (b = false) := by
            have h1 := HIN.out
            rw [List.drop_eq_nil_of_le (by simp; omega)] at h1
            exact h1
          clear HIN
          go_wp2
          go_ret
          rw [HBF.out]
          exact ⟨rfl, HA.out.grown⟩
end Go.Proofs.Ytbkimpimoclobaa

/- The document's answer, chapter 7, walked: WHAT ITS Verify ANSWERS. -/
namespace Go.Proofs.Ytbkimpimoclobaa
open Go.RowKit
namespace Vf
theorem from_succ (m : Md) (n k : Nat) : from' m (n + 1) k = if (looks m k).1 = 0 then from' m n (k + 1) else looks m k := rfl
theorem from_add (m : Md) : ∀ (a b k : Nat), from' m (a + b) k = if (from' m a k).1 = 0 then from' m b (k + a) else from' m a k
  | 0, b, k => by rw [Nat.zero_add]; rfl
  | a + 1, b, k => by
    rw [show a + 1 + b = (a + b) + 1 by omega, from_succ, from_succ]
    by_cases h : (looks m k).1 = 0
    · rw [if_pos h, if_pos h, from_add m a b (k + 1), show k + 1 + a = k + (a + 1) by omega]
    · rw [if_neg h, if_neg h, if_neg h]
theorem from_zero (m : Md) : ∀ (n k : Nat), (from' m n k).1 = 0 → ∀ j, k ≤ j → j < k + n → (looks m j).1 = 0
  | 0, k, _, j, h1, h2 => by omega
  | n + 1, k, h, j, h1, h2 => by
    unfold from' at h
    by_cases h0 : (looks m k).1 = 0
    · rw [if_pos h0] at h
      by_cases e : j = k
      · rw [e]; exact h0
      · exact from_zero m n (k + 1) h j (by omega) (by omega)
    · rw [if_neg h0] at h
      exact absurd h h0
/-- Of boxes from the b-th on. -/
def fin (m : Md) (b : Nat) : Int × Int × Int := if (firstE (ownersE m) ((List.range m.boxes.length).drop b) b).1 = 0 then (0, 0, 0) else ((firstE (ownersE m) ((List.range m.boxes.length).drop b) b).1, 0, ((firstE (ownersE m) ((List.range m.boxes.length).drop b) b).2 : Int))
/-- Of units from the k-th on. -/
def cods (m : Md) (k : Nat) : Int × Int × Int := if (eachW (flowF m) (m.units.drop k) k).1 = 0 then fin m 0 else eachW (flowF m) (m.units.drop k) k
theorem verify_eq (m : Md) : verify m = if (from' m 4 0).1 = 0 then cods m 0 else from' m 4 0 := by
  unfold verify
  rw [from_add m 4 2 0]
  by_cases h : (from' m 4 0).1 = 0
  · rw [if_pos h, if_pos h]
    unfold cods fin
    show from' m 2 4 = _
    unfold from'
    simp only [looks, List.drop_zero]
    by_cases h4 : (eachW (flowF m) m.units 0).1 = 0
    · rw [if_pos h4, if_pos h4]
      unfold from'
      simp only [looks]
      by_cases h5 : (ownersW m).1 = 0
      · rw [if_pos h5]
        exact (if_pos (show (firstE (ownersE m) (List.range m.boxes.length) 0).1 = 0 from h5)).symm
      · rw [if_neg h5]
        exact (if_neg (show ¬ (firstE (ownersE m) (List.range m.boxes.length) 0).1 = 0 from h5)).symm
    · rw [if_neg h4, if_neg h4]
  · rw [if_neg h, if_neg h]
theorem cods_step {m : Md} {k : Nat} {u : Un} (h : m.units[k]? = some u) : cods m k = if (flowF m u).1 = 0 then cods m (k + 1) else ((flowF m u).1, (k : Int), ((flowF m u).2 : Int)) := by
  obtain ⟨hk, rfl⟩ := List.getElem?_eq_some_iff.1 h
  have e : eachW (flowF m) (m.units.drop k) k = if (flowF m m.units[k]).1 = 0 then eachW (flowF m) (m.units.drop (k + 1)) (k + 1) else ((flowF m m.units[k]).1, (k : Int), ((flowF m m.units[k]).2 : Int)) := by
    rw [List.drop_eq_getElem_cons hk]
    rfl
  unfold cods
  rw [e]
  by_cases h0 : (flowF m m.units[k]).1 = 0
  · rw [if_pos h0, if_pos h0]
  · rw [if_neg h0, if_neg h0, if_neg h0]
theorem cods_end {m : Md} {k : Nat} (h : m.units.length ≤ k) : cods m k = fin m 0 := by
  unfold cods
  rw [List.drop_eq_nil_of_le h]
  rfl
theorem fin_step {m : Md} {b : Nat} (h : b < m.boxes.length) : fin m b = if ownersE m b = 0 then fin m (b + 1) else (ownersE m b, 0, (b : Int)) := by
  have hr : (List.range m.boxes.length)[b]? = some b := by rw [List.getElem?_range h]
  unfold fin
  rw [firstE_drop _ hr]
  by_cases h0 : ownersE m b = 0
  · rw [if_pos h0, if_pos h0]
  · rw [if_neg h0, if_neg h0, if_neg h0]
theorem fin_end {m : Md} {b : Nat} (h : m.boxes.length ≤ b) : fin m b = (0, 0, 0) := by
  unfold fin
  rw [List.drop_eq_nil_of_le (by simpa using h)]
  rfl
end Vf

theorem tc_next {m : Vf.Md} (hR : Rt m) {k : Nat} {u : Vf.Un} (hu : m.units[k]? = some u) {q : Lk} (hq : q.1 = 26 ∨ q.1 = 27) : Vf.tc m q (k + 1) = Vf.tc m q k + if (u.kind == 4 && Vf.comesR m k q) = true then 1 else 0 := by
  rw [Vf.tc_succ, is_in hu, Vf.comesR_eq hR (List.getElem?_eq_some_iff.1 hu).1 hq]

abbrev whO (e u n : Int) : Obj := .cells #[.int .i64 e, .int .i64 u, .int .i64 n] 28 (0, 0)



set_option maxRecDepth 100000 in
set_option maxHeartbeats 8000000 in
theorem rverify_any (m : Vf.Md) (ab au : Option Addr) (cb cu B : Nat) (w : World) (hmd : Hid (ModIn B w m ab au)) (hB : B ≤ w.heap.size) (r : Int × Int × Int) (hr : Hid (r = Vf.verify m)) :
    Calls Try.prog 7 #[mdV m ab au cb cu] w fun e w' => e = .returned (whV r.1 r.2.1 r.2.2) ∧ w.grownBy w' none := by
  obtain ⟨W0, hW0⟩ : ∃ W0 : World, (w.alloc (amO m ab au cb cu)).alloc whZ = W0 := ⟨_, rfl⟩
  have HT : Hid (RfAt m ab au cb cu w W0) := by
    rw [← hW0]
    exact ⟨two_new _ _ _, (Below.heap_alloc _ _ _ (by simp)).trans (heap_alloc_new w _), new1 _ _ _⟩
  obtain ⟨⟨fe, fu, fn⟩, hF⟩ : ∃ F, F = Vf.from' m 4 0 := ⟨_, rfl⟩
  have HF := hide hF
  have HRV : Hid (r = if fe = 0 then Vf.cods m 0 else (fe, fu, fn)) := by
    unfold Hid
    rw [hr.out, Vf.verify_eq, ← hF]
  have HRT : Hid (fe = 0 → Rt m ∧ m.boxes.length ≤ 30) := fun h0 => by
    have h1 : (Vf.from' m 4 0).1 = 0 := by rw [← hF]; exact h0
    have hz := Vf.from_zero m 4 0 h1
    exact rt_of (hz 0 (by omega) (by omega)) (hz 1 (by omega) (by omega)) (hz 2 (by omega) (by omega))
  obtain ⟨m0, m1, _⟩ := am_cells HT.out.mb
  obtain ⟨⟨z0, z1, z2⟩, y0, y1, y2⟩ := wh_cells HT.out.wz
  have hzl := lt_of_block HT.out.wz
  have hzm : w.heap.size < _ := lt_of_block HT.out.mb
  clear hF hr
  go_enter Try.func7, Try.ntmps7
  go_wp2_with fail
  refine (rform_any m ab au cb cu B _ (hide (hmd.out.low (low0 HT.out.grown hB))) (by have := HT.out.grown.size; omega) (fe, fu, fn) HF).mono ?_
  rintro e w2 ⟨rfl, hg2⟩
  have HA2 : Hid (RfAt m ab au cb cu w w2) := HT.out.next hg2
  clear m0 m1 z0 z1 z2 y0 y1 y2 hzl hzm hg2 HT HF
  obtain ⟨m0, m1, _⟩ := am_cells HA2.out.mb
  obtain ⟨⟨z0, z1, z2⟩, y0, y1, y2⟩ := wh_cells HA2.out.wz
  have hzl := lt_of_block HA2.out.wz
  have hzm : w.heap.size < _ := lt_of_block HA2.out.mb
  by_cases h0 : fe = 0
  · have e0 : (fe != 0) = false := by simpa using h0
    obtain ⟨hRt, hnb⟩ := HRT.out h0
    have HR := hide hRt
    have hmu := hRt.units
    have HE0 : Hid (r = Vf.cods m 0) := by have := HRV.out; rw [if_pos h0] at this; exact this
    clear h0 HRV HRT hRt
    go_wp2_with fail
    go_loopw [20] (fun v wr => ∃ k : Nat, v = .int .i64 k ∧ k ≤ m.units.length ∧ RfAt m ab au cb cu w wr ∧ r = Vf.cods m k) (fun v _ => m.units.length - (intOf v).toNat)
    case atStart => exact ⟨0, rfl, Nat.zero_le _, HA2.out.new _, HE0.out⟩
    case round =>
      clear m0 m1 z0 z1 z2 y0 y1 y2 hzl hzm HA2 HE0
      obtain ⟨k, rfl, hk, hA, hby⟩ := hrel
      have HA := hide hA
      have HBY := hide hby
      clear hA hby
      obtain ⟨m0, m1, _⟩ := am_cells HA.out.mb
      obtain ⟨⟨z0, z1, z2⟩, y0, y1, y2⟩ := wh_cells HA.out.wz
      have hzl := lt_of_block HA.out.wz
      have hzm : w.heap.size < _ := lt_of_block HA.out.mb
      by_cases hkl : k < m.units.length
      · obtain ⟨u, hu⟩ : ∃ u, m.units[k]? = some u := ⟨_, List.getElem?_eq_getElem hkl⟩
        have hmw : ModIn B wr m ab au := hmd.out.low (low0 HA.out.grown hB)
        obtain ⟨bb, off, al, cl, ac, cc, ha, hbb, hui, u0, u1, u2, u3, u4, u5⟩ := hmw.units k u hu
        obtain ⟨e1, n1, hen⟩ : ∃ (e1 n1 : Int), (e1, n1) = ((Vf.flowF m u).1, ((Vf.flowF m u).2 : Int)) := ⟨_, _, rfl⟩
        obtain ⟨un, hunn⟩ : ∃ un : Int, un = if e1 = 0 then 0 else (k : Int) := ⟨_, rfl⟩
        have hen1 : e1 = (Vf.flowF m u).1 := congrArg (fun x : Int × Int => x.1) hen
        have hen2 : n1 = ((Vf.flowF m u).2 : Int) := congrArg (fun x : Int × Int => x.2) hen
        have HN : Hid (r = if e1 = 0 then Vf.cods m (k + 1) else (e1, (k : Int), n1)) := by
          unfold Hid
          rw [HBY.out, Vf.cods_step hu, hen1, hen2]
        have HEN := hide hen
        have HUN := hide hunn
        have HU := hide hu
        have HMW := hide hmw
        have HUI := hide hui
        have V0 := hide u0
        have V1 := hide u1
        have V2 := hide u2
        have V3 := hide u3
        have V4 := hide u4
        have V5 := hide u5
        have hki : (k : Int) < (m.units.length : Int) := by omega
        have hBw : B ≤ wr.heap.size := by have := HA.out.grown.size; omega
        clear hu hmw hui hen hen1 hen2 hunn u0 u1 u2 u3 u4 u5 HBY
        subst ha
        go_wp2_with fail
        refine (rcode_any ⟨m, u, ab, some ⟨bb, off, none⟩, al, ac, cb, cu, cl, cc, 0⟩ B k bb off wr HMW hBw HU (hide rfl) hbb HUI V0.out V1.out V2.out V3.out V4.out V5.out HR e1 un n1 HEN HUN).mono ?_
        rintro e w3 ⟨rfl, hg3⟩
        have HA3 : Hid (RfAt m ab _ cb cu w w3) := HA.out.next hg3
        clear m0 m1 z0 z1 z2 y0 y1 y2 hzl hzm hg3 HA HMW HUI V0 V1 V2 V3 V4 V5
        obtain ⟨m0, m1, _⟩ := am_cells HA3.out.mb
        obtain ⟨⟨z0, z1, z2⟩, y0, y1, y2⟩ := wh_cells HA3.out.wz
        have hzl := lt_of_block HA3.out.wz
        have hzm : w.heap.size < _ := lt_of_block HA3.out.mb
        by_cases h1 : e1 = 0
        · have ee : (e1 != 0) = false := by simpa using h1
          have HE : Hid (r = Vf.cods m (k + 1)) := by have := HN.out; rw [if_pos h1] at this; exact this
          clear h1 HN
          go_wp2
          go_roundw
          case rel => exact ⟨k + 1, by go_num, hkl, HA3.out.new _, HE.out⟩
          case measure => simp [intOf]; omega
        · have ee : (e1 != 0) = true := by simpa using h1
          have HE : Hid (r = (e1, un, n1)) := by have h2 := HN.out; rw [if_neg h1] at h2; have h3 := HUN.out; rw [if_neg h1] at h3; rw [h2, h3]; rfl
          clear h1 HN
          go_wp2
          have hX := wh_set HA3.out.wz (.int .i64 e1) (.int .i64 un) (.int .i64 n1)
          obtain ⟨⟨g0, g1, g2⟩, _⟩ := wh_cells ((Below.heap_alloc _ (whO e1 un n1) _ (lt_of_block hX)).trans hX)
          refine bodyPost_ret (v := whV e1 un n1) (by simp [results, Try.results7, go_sem, g0, g1, g2]) rfl ?_
          rw [HE.out]
          exact ⟨rfl, grown0_new (grown0_setN (grown0_setN (grown0_setN HA3.out.grown (by omega) _ _) (by omega) _ _) (by omega) _ _) _⟩
      · have HE1 : Hid (r = Vf.fin m 0) := by unfold Hid; rw [HBY.out, Vf.cods_end (by omega)]
        clear HBY
        go_wp2_with fail
        go_loopw [34] (fun v wr => ∃ b : Nat, v = .int .i64 b ∧ b ≤ m.boxes.length ∧ RfAt m ab au cb cu w wr ∧ r = Vf.fin m b) (fun v _ => m.boxes.length - (intOf v).toNat)
        case atStart => exact ⟨0, rfl, Nat.zero_le _, HA.out, HE1.out⟩
        case round =>
          clear m0 m1 z0 z1 z2 y0 y1 y2 hzl hzm HA HE1
          obtain ⟨b, rfl, hb, hA, hby⟩ := hrel
          have HA := hide hA
          have HBY := hide hby
          clear hA hby
          obtain ⟨m0, m1, _⟩ := am_cells HA.out.mb
          obtain ⟨⟨z0, z1, z2⟩, y0, y1, y2⟩ := wh_cells HA.out.wz
          have hzl := lt_of_block HA.out.wz
          have hzm : w.heap.size < _ := lt_of_block HA.out.mb
          by_cases hbl : b < m.boxes.length
          · have HN : Hid (r = if Vf.ownersE m b = 0 then Vf.fin m (b + 1) else (Vf.ownersE m b, 0, (b : Int))) := by unfold Hid; rw [HBY.out, Vf.fin_step hbl]
            have hbi : (b : Int) < (m.boxes.length : Int) := by omega
            clear HBY
            go_wp2_with fail
            go_loopw [7, 8, 40] (fun v7 v8 v wr => ∃ (k s t : Nat), v = .int .i64 k ∧ v7 = .int .i64 s ∧ v8 = .int .i64 t ∧ k ≤ m.units.length ∧ RfAt m ab au cb cu w wr ∧ s = Vf.tc m (26, (b : Int)) k ∧ t = Vf.tc m (27, (b : Int)) k) (fun _ _ v _ => m.units.length - (intOf v).toNat)
            case atStart => exact ⟨0, 0, 0, rfl, rfl, rfl, Nat.zero_le _, HA.out, rfl, rfl⟩
            case round =>
              clear m0 m1 z0 z1 z2 y0 y1 y2 hzl hzm HA
              obtain ⟨k, s, t, rfl, rfl, rfl, hk2, hA, hs, ht⟩ := hrel
              have HA := hide hA
              have HS := hide hs
              have HTT := hide ht
              have hs30 : s ≤ 30 := by have := Vf.tc_le m (26, (b : Int)) k; omega
              have ht30 : t ≤ 30 := by have := Vf.tc_le m (27, (b : Int)) k; omega
              clear hA hs ht
              obtain ⟨m0, m1, _⟩ := am_cells HA.out.mb
              obtain ⟨⟨z0, z1, z2⟩, y0, y1, y2⟩ := wh_cells HA.out.wz
              have hzl := lt_of_block HA.out.wz
              have hzm : w.heap.size < _ := lt_of_block HA.out.mb
              by_cases hk3 : k < m.units.length
              · obtain ⟨u, hu⟩ : ∃ u, m.units[k]? = some u := ⟨_, List.getElem?_eq_getElem hk3⟩
                have hmw : ModIn B wr m ab au := hmd.out.low (low0 HA.out.grown hB)
                obtain ⟨bb, off, al, cl, ac, cc, ha, hbb, hui, u0, u1, u2, u3, u4, u5⟩ := hmw.units k u hu
                have hki : (k : Int) < (m.units.length : Int) := by omega
                have HS2 : Hid (Vf.tc m (26, (b : Int)) (k + 1) = s + if (u.kind == 4 && Vf.comesR m k (26, (b : Int))) = true then 1 else 0) := by unfold Hid; rw [tc_next HR.out hu (.inl rfl), HS.out]
                have HT2 : Hid (Vf.tc m (27, (b : Int)) (k + 1) = t + if (u.kind == 4 && Vf.comesR m k (27, (b : Int))) = true then 1 else 0) := by unfold Hid; rw [tc_next HR.out hu (.inr rfl), HTT.out]
                have hbw : bb < wr.heap.size := by have := HA.out.grown.size; omega
                clear hu hmw hui HS HTT
                cases e4 : (u.kind == 4) with
                | false =>
                  rw [e4] at HS2 HT2
                  have HS3 : Hid (s = Vf.tc m (26, (b : Int)) (k + 1)) := HS2.out.symm
                  have HT3 : Hid (t = Vf.tc m (27, (b : Int)) (k + 1)) := HT2.out.symm
                  clear HS2 HT2
                  subst ha
                  go_wp2
                  go_roundw
                  case rel => exact ⟨k + 1, s, t, by go_num, rfl, rfl, hk3, HA.out.new _, HS3.out, HT3.out⟩
                  case measure => simp [intOf]; omega
                | true =>
                  rw [e4] at HS2 HT2
                  obtain ⟨c1, hc1⟩ : ∃ c1, c1 = Vf.comesR m k (26, (b : Int)) := ⟨_, rfl⟩
                  obtain ⟨c2, hc2⟩ : ∃ c2, c2 = Vf.comesR m k (27, (b : Int)) := ⟨_, rfl⟩
                  rw [← hc1] at HS2
                  rw [← hc2] at HT2
                  have HC1 := hide hc1
                  have HC2 := hide hc2
                  have HA2 : Hid (RfAt m ab au cb cu w (wr.alloc (unO u al ac cl cc))) := HA.out.new _
                  have HUB : Hid ((wr.alloc (unO u al ac cl cc)).heap[wr.heap.size]? = some (unO u al ac cl cc)) := heap_alloc_new wr _
                  clear hc1 hc2
                  subst ha
                  go_wp2_with fail
                  refine (rcomes_any m ab _ cb cu B k 26 (b : Int) _ (hide (hmd.out.low (low0 HA2.out.grown hB))) (by have := HA2.out.grown.size; omega) HR hk3 c1 HC1).mono ?_
                  rintro e w4 ⟨rfl, hg4⟩
                  have HA4 : Hid (RfAt m ab _ cb cu w w4) := HA2.out.next hg4
                  have HUB4 : Hid (w4.heap[wr.heap.size]? = some (unO u al ac cl cc)) := (kept0 hg4 (lt_of_block HUB.out)).trans HUB.out
                  clear m0 m1 z0 z1 z2 y0 y1 y2 hzl hzm hg4 HA HA2 HUB u0 u1 u2 u3 u4 u5 hbw
                  obtain ⟨m0, m1, _⟩ := am_cells HA4.out.mb
                  obtain ⟨⟨z0, z1, z2⟩, y0, y1, y2⟩ := wh_cells HA4.out.wz
                  have hzl := lt_of_block HA4.out.wz
                  have hzm : w.heap.size < _ := lt_of_block HA4.out.mb
                  have q0 := (un_cells HUB4.out).1
                  have lq := lt_of_block HUB4.out
                  cases c1 with
                  | false =>
                    have HS3 : Hid (s = Vf.tc m (26, (b : Int)) (k + 1)) := HS2.out.symm
                    clear HS2
                    go_wp2_with fail
                    refine (rcomes_any m ab _ cb cu B k 27 (b : Int) _ (hide (hmd.out.low (low0 HA4.out.grown hB))) (by have := HA4.out.grown.size; omega) HR hk3 c2 HC2).mono ?_
                    rintro e w5 ⟨rfl, hg5⟩
                    have HA5 : Hid (RfAt m ab _ cb cu w w5) := HA4.out.next hg5
                    clear m0 m1 z0 z1 z2 y0 y1 y2 hzl hzm hg5 HA4 HUB4 q0 lq
                    cases c2 with
                    | false =>
                      have HT3 : Hid (t = Vf.tc m (27, (b : Int)) (k + 1)) := HT2.out.symm
                      clear HT2
                      go_wp2
                      go_roundw
                      case rel => exact ⟨k + 1, s, t, by go_num, by go_num, by go_num, hk3, HA5.out, HS3.out, HT3.out⟩
                      case measure => simp [intOf]; omega
                    | true =>
                      have HT3 : Hid (t + 1 = Vf.tc m (27, (b : Int)) (k + 1)) := HT2.out.symm
                      clear HT2
                      go_wp2
                      go_roundw
                      case rel => exact ⟨k + 1, s, t + 1, by go_num, by go_num, by go_num, hk3, HA5.out, HS3.out, HT3.out⟩
                      case measure => simp [intOf]; omega
                  | true =>
                    have HS3 : Hid (s + 1 = Vf.tc m (26, (b : Int)) (k + 1)) := HS2.out.symm
                    clear HS2
                    go_wp2_with fail
                    refine (rcomes_any m ab _ cb cu B k 27 (b : Int) _ (hide (hmd.out.low (low0 HA4.out.grown hB))) (by have := HA4.out.grown.size; omega) HR hk3 c2 HC2).mono ?_
                    rintro e w5 ⟨rfl, hg5⟩
                    have HA5 : Hid (RfAt m ab _ cb cu w w5) := HA4.out.next hg5
                    clear m0 m1 z0 z1 z2 y0 y1 y2 hzl hzm hg5 HA4 HUB4 q0 lq
                    cases c2 with
                    | false =>
                      have HT3 : Hid (t = Vf.tc m (27, (b : Int)) (k + 1)) := HT2.out.symm
                      clear HT2
                      go_wp2
                      go_roundw
                      case rel => exact ⟨k + 1, (s + 1), t, by go_num, by go_num, by go_num, hk3, HA5.out, HS3.out, HT3.out⟩
                      case measure => simp [intOf]; omega
                    | true =>
                      have HT3 : Hid (t + 1 = Vf.tc m (27, (b : Int)) (k + 1)) := HT2.out.symm
                      clear HT2
                      go_wp2
                      go_roundw
                      case rel => exact ⟨k + 1, (s + 1), t + 1, by go_num, by go_num, by go_num, hk3, HA5.out, HS3.out, HT3.out⟩
                      case measure => simp [intOf]; omega
              · have hke : k = m.units.length := by omega
                by_cases hown : 1 < s ∨ 1 < t
                · have HE : Hid (r = (8, 0, (b : Int))) := by
                    have h1 := HN.out
                    have h2 : Vf.ownersE m b = 8 := by unfold Vf.ownersE; rw [← hke, ← HS.out, ← HTT.out, if_pos hown]
                    rw [h2, if_neg (by decide)] at h1
                    exact h1
                  clear hke HN HS HTT
                  by_cases h1 : 1 < s
                  · have d1 : decide ((1 : Int) < (s : Int)) = true := by simp; omega
                    clear hown h1
                    go_wp2
                    refine bodyPost_ret (v := whV 8 0 (b : Int)) (by simp [results, Try.results7, go_sem, z0, z1, z2]) rfl ?_
                    rw [HE.out]
                    exact ⟨rfl, grown0_setN (grown0_setN (grown0_setN HA.out.grown (by omega) _ _) (by omega) _ _) (by omega) _ _⟩
                  · have d1 : decide ((1 : Int) < (s : Int)) = false := by simp; omega
                    have d2 : decide ((1 : Int) < (t : Int)) = true := by have := hown.resolve_left h1; simp; omega
                    clear hown h1
                    go_wp2
                    refine bodyPost_ret (v := whV 8 0 (b : Int)) (by simp [results, Try.results7, go_sem, z0, z1, z2]) rfl ?_
                    rw [HE.out]
                    exact ⟨rfl, grown0_setN (grown0_setN (grown0_setN HA.out.grown (by omega) _ _) (by omega) _ _) (by omega) _ _⟩
                · have HE : Hid (r = Vf.fin m (b + 1)) := by
                    have h1 := HN.out
                    have h2 : Vf.ownersE m b = 0 := by unfold Vf.ownersE; rw [← hke, ← HS.out, ← HTT.out, if_neg hown]
                    rw [h2, if_pos rfl] at h1
                    exact h1
                  have d1 : decide ((1 : Int) < (s : Int)) = false := by simp; omega
                  have d2 : decide ((1 : Int) < (t : Int)) = false := by simp; omega
                  clear hke HN HS HTT hown
                  go_wp2
                  go_roundw
                  case rel => exact ⟨b + 1, by go_num, hbl, HA.out, HE.out⟩
                  case measure => simp [intOf]; omega
          · have HE : Hid (r = (0, 0, 0)) := by unfold Hid; rw [HBY.out, Vf.fin_end (by omega)]
            clear HBY
            go_wp2
            refine bodyPost_ret (v := whV 0 0 0) (by simp [results, Try.results7, go_sem, z0, z1, z2]) rfl ?_
            rw [HE.out]
            exact ⟨rfl, grown0_setN (grown0_setN (grown0_setN HA.out.grown (by omega) _ _) (by omega) _ _) (by omega) _ _⟩
  · have e0 : (fe != 0) = true := by simpa using h0
    have HE : Hid (r = (fe, fu, fn)) := by have := HRV.out; rw [if_neg h0] at this; exact this
    clear h0 HRV HRT
    go_wp2
    have hX := wh_set HA2.out.wz (.int .i64 fe) (.int .i64 fu) (.int .i64 fn)
    obtain ⟨⟨g0, g1, g2⟩, _⟩ := wh_cells ((Below.heap_alloc _ (whO fe fu fn) _ (lt_of_block hX)).trans hX)
    refine bodyPost_ret (v := whV fe fu fn) (by simp [results, Try.results7, go_sem, g0, g1, g2]) rfl ?_
    rw [HE.out]
    exact ⟨rfl, grown0_new (grown0_setN (grown0_setN (grown0_setN HA2.out.grown (by omega) _ _) (by omega) _ _) (by omega) _ _) _⟩

end Go.Proofs.Ytbkimpimoclobaa


/- The walk of areTruths. -/
import Derived.Test.YtlpgfgcfkiefnaaM25
namespace Go.Proofs.Ytlpgfgcfkiefnaa.Vw
open Go.RowKit Vf Vm

def truthB (v : Int) : Bool := v == 0 || v == 1
/-- What holds at the head of areTruths' loop: what is left decides. -/
def TrAt (w : World) (l : List Int) (b : Bool) (k : Nat) (wr : World) : Prop := k ≤ l.length ∧ w = wr ∧ b = (l.drop k).all truthB

set_option maxRecDepth 100000 in
set_option maxHeartbeats 1000000 in
theorem areTruths_any (l : List Int) (a : Option Addr) (cap : Nat) (w : World) (hin : Hid (∀ (i : Nat) v, l[i]? = some v → ∃ b off, a = some ⟨b, off, none⟩ ∧ w.cell? ⟨b, off + i, none⟩ = some (.int .i64 v))) (hfew : l.length ≤ 9223372036854775806) (b : Bool) (hb : Hid (b = l.all truthB)) :
    Calls Try.prog 34 #[.slice a l.length cap] w fun e w' => e = .returned (.bool b) ∧ w' = w := by
  have HST : Hid (TrAt w l b 0 w) := ⟨Nat.zero_le _, rfl, hb.out⟩
  go_enter Try.func34, Try.ntmps34
  go_wp2
  go_loopw [7] (fun v wr => ∃ k : Nat, v = .int .i64 k ∧ TrAt w l b k wr) (fun v _ => l.length - (intOf v).toNat)
  case atStart => exact ⟨0, rfl, HST.out⟩
  case round =>
    obtain ⟨k, rfl, hk, rfl, hbk⟩ := hrel
    have HBK := Sb.hide hbk
    clear hbk HST hb
    by_cases hlt : k < l.length
    · obtain ⟨v, hv⟩ : ∃ v, l[k]? = some v := ⟨_, List.getElem?_eq_getElem hlt⟩
      obtain ⟨b0, off, rfl, hc⟩ := hin.out k v hv
      have hdr : l.drop k = v :: l.drop (k + 1) := by
        rw [List.drop_eq_getElem_cons hlt]
        rw [List.getElem?_eq_getElem hlt] at hv
        cases hv; rfl
      have HDR := Sb.hide hdr
      obtain ⟨m, hm⟩ : ∃ m, m = l.length := ⟨_, rfl⟩
      have HM := Sb.hide hm
      rw [← hm] at hlt hfew ⊢
      have n0 : (0 : Int) ≤ (k : Int) := by omega
      have n1 : (k : Int) < (m : Int) := by omega
      clear hdr hv hm
      by_cases h01 : v = 0 ∨ v = 1
      · have HREL : Hid (TrAt w l b (k + 1) w) := ⟨by have := HM.out; omega, rfl, by
          rw [HBK.out, HDR.out, List.all_cons]
          rcases h01 with e | e <;> simp [truthB, e]⟩
        rcases h01 with rfl | rfl
        · go_wp2
          go_roundw
          case rel => exact ⟨k + 1, by go_num, HREL.out⟩
          case measure => simp [intOf]; omega
        · go_wp2
          go_roundw
          case rel => exact ⟨k + 1, by go_num, HREL.out⟩
          case measure => simp [intOf]; omega
      · have e0 : (v == 0) = false := by simp; omega
        have e1 : (v == 1) = false := by simp; omega
        have HF : Hid (b = false) := by
          unfold Hid
          rw [HBK.out, HDR.out, List.all_cons]
          simp [truthB, e0, e1]
        have d0 : (v != 0) = true := by simp; omega
        have d1 : (v != 1) = true := by simp; omega
        clear e0 e1 h01
        go_wp2
        go_ret
        exact ⟨by rw [HF.out]; rfl, rfl⟩
    · have HF : Hid (b = true) := by
        unfold Hid
        rw [HBK.out, List.drop_eq_nil_of_le (by omega)]
        rfl
      have n1 : ¬ (k : Int) < (l.length : Int) := by omega
      go_wp2
      go_ret
      exact ⟨by rw [HF.out]; rfl, rfl⟩
end Go.Proofs.Ytlpgfgcfkiefnaa.Vw

/- The walk of tasks. -/
namespace Go.Proofs.Ytlpgfgcfkiefnaa.Vw
open Go.RowKit Vf Vm

theorem Try.info3 : (Try.prog.info? 3).map (fun i => (i.zero, i.size, i.bytes)) = some (some (.int .i64 0), 1, 8) := by kernel_rfl
/-- Which of the first k units are tasks. -/
def tasksTo (us : List Un) (k : Nat) : List Nat := (List.range k).filter fun i => decide (∃ u, us[i]? = some u ∧ u.kind = 4)
theorem tasksTo_succ {us : List Un} {k : Nat} {u : Un} (h : us[k]? = some u) : tasksTo us (k + 1) = if u.kind = 4 then tasksTo us k ++ [k] else tasksTo us k := by
  unfold tasksTo
  rw [List.range_succ, List.filter_append]
  by_cases e : u.kind = 4
  · simp [h, e]
  · simp [h, e]
theorem tasksTo_len (us : List Un) (k : Nat) : (tasksTo us k).length ≤ k := by
  have := List.length_filter_le (fun i => decide (∃ u, us[i]? = some u ∧ u.kind = 4)) (List.range k)
  simpa [tasksTo] using this
abbrev nats (l : List Nat) : List Value := l.map fun n : Nat => .int .i64 (n : Int)
/-- What holds at the head of tasks' loop. -/
def TsAt (us : List Un) (w : World) (k : Nat) (vl : Value) (wr : World) : Prop := k ≤ us.length ∧ Below w.heap.size w wr ∧ wr.ownsRow w.heap.size 3 1 vl (tasksTo us k).length (nats (tasksTo us k))

set_option maxRecDepth 100000 in
set_option maxHeartbeats 1000000 in
theorem tasks_any (c : Cx) (ab : Option Addr) (cb : Nat) (w : World) (hcx : Hid (CxIn c w)) (hB : c.B ≤ w.heap.size) :
    Calls Try.prog 18 #[.agg #[.slice ab c.m.boxes.length cb, .slice c.au c.m.units.length c.cu]] w fun e w' => ∃ vl, e = .returned vl ∧ TsAt c.m.units w c.m.units.length vl w' := by
  obtain ⟨i0, hi, hz0, hz1, hz2⟩ := info_parts Try.info3
  have hfew := hcx.out.few
  have HST : Hid (TsAt c.m.units w 0 (.slice none 0 0) (w.alloc (.cells #[.slice ab c.m.boxes.length cb, .slice c.au c.m.units.length c.cu] 25))) := ⟨Nat.zero_le _, (Below.refl _ w).alloc (Nat.le_refl _) _, ⟨rfl, .inl ⟨rfl, rfl⟩⟩⟩
  go_enter Try.func18, Try.ntmps18
  go_wp2
  go_loopw [3, 9] (fun vl v wr => ∃ k : Nat, v = .int .i64 k ∧ TsAt c.m.units w k vl wr) (fun _ v _ => c.m.units.length - (intOf v).toNat)
  case atStart => exact ⟨0, rfl, HST.out⟩
  case round =>
    obtain ⟨k, rfl, hk, hb, hown⟩ := hrel
    have HB := Sb.hide hb
    have HO := Sb.hide hown
    have hbz := hb.size
    clear hb hown HST
    by_cases hlt : k < c.m.units.length
    · obtain ⟨u, hu⟩ : ∃ u, c.m.units[k]? = some u := ⟨_, List.getElem?_eq_getElem hlt⟩
      obtain ⟨ub, uoff, al, cl, hau, hub, _, x0, x1, x2, x3, x4, x5⟩ := hcx.out.units k u hu
      have cb' : ∀ j, wr.cell? ⟨ub, j, none⟩ = w.cell? ⟨ub, j, none⟩ := fun j => cell_eq (HB.out.block ub (by omega)) _
      rw [← cb'] at x0 x1 x2 x3 x4 x5
      have HS := Sb.hide (tasksTo_succ hu)
      have htl := tasksTo_len c.m.units k
      obtain ⟨ml, hml⟩ : ∃ m, m = c.m.units.length := ⟨_, rfl⟩
      rw [hau, ← hml]
      rw [← hml] at hlt hfew
      have HML := Sb.hide hml
      have n0 : (0 : Int) ≤ (k : Int) := by omega
      have n1 : (k : Int) < (ml : Int) := by omega
      have hubz : ub < wr.heap.size := by omega
      have hne : ¬ wr.heap.size = ub := by omega
      have hne2 : ¬ ub = wr.heap.size := by omega
      clear hml hau cb' hu
      by_cases h4 : u.kind = 4
      · have e4 : (u.kind == 4) = true := by simpa using h4
        have HS2 : Hid (tasksTo c.m.units (k + 1) = tasksTo c.m.units k ++ [k]) := by unfold Hid; rw [HS.out, if_pos h4]
        have HRW : Hid (((wr.alloc (unO c k u al cl)).alloc (.cells #[.int .i64 (k : Int)] 3)).ownsRow w.heap.size 3 1 u3 (tasksTo c.m.units k).length (nats (tasksTo c.m.units k))) := (HO.out.alloc _).alloc _
        clear h4
        go_wp2_with (at_builtin; refine wpList_append_where rfl (.tmp 17) (.tmp 19) 28 rfl w.heap.size 3 i0 (.int .i64 0) 1 8 Try.underlying28 hi hz0 hz1 hz2 rfl (by decide) u3 (tasksTo c.m.units k).length (nats (tasksTo c.m.units k)) rfl HRW.out ⟨(wr.alloc (unO c k u al cl)).heap.size, 0, none⟩ 1 1 [.int .i64 (k : Int)] (by rw [show (wr.alloc (unO c k u al cl)).heap.size = wr.heap.size + 1 by simp]; rfl) rfl (news1 (wr.alloc (unO c k u al cl)) _ _) (ones1 rfl) (by decide) (by unfold maxLen; omega) (by omega) (by simp; omega) ?_)
        intro R4 cap4 w4 hown4 hg4 hR4
        have HREL : Hid (TsAt c.m.units w (k + 1) (.slice (some ⟨R4, 0, none⟩) ((tasksTo c.m.units k).length + 1) cap4) w4) := by
          refine ⟨by have := HML.out; omega, ((HB.out.alloc hbz _).alloc (by simp; omega) _).grown hg4 (by simp; omega) (fun b hb => (HO.out.lt b hb).1), ?_⟩
          rw [HS2.out, List.length_append, show nats (tasksTo c.m.units k ++ [k]) = nats (tasksTo c.m.units k) ++ [.int .i64 (k : Int)] by simp]
          exact hown4
        clear hown4 hg4 hR4
        go_wp2
        go_roundw
        case rel => exact ⟨k + 1, by go_num, HREL.out⟩
        case measure => simp [intOf]; omega
      · have e4 : (u.kind == 4) = false := by simpa using h4
        have HS2 : Hid (tasksTo c.m.units (k + 1) = tasksTo c.m.units k) := by unfold Hid; rw [HS.out, if_neg h4]
        clear h4
        go_wp2
        go_roundw
        case rel => exact ⟨k + 1, by go_num, by have := HML.out; omega, HB.out.alloc hbz _, by rw [HS2.out]; exact HO.out.alloc _⟩
        case measure => simp [intOf]; omega
    · have n1 : ¬ (k : Int) < (c.m.units.length : Int) := by omega
      have ek : k = c.m.units.length := by omega
      subst ek
      go_wp2
      go_ret
      exact ⟨_, rfl, hk, HB.out, HO.out⟩
end Go.Proofs.Ytlpgfgcfkiefnaa.Vw


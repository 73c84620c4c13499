/- Where the reader stands behind what it has read. -/
import Derived.Test.YtlnikpcoejpknaaGreatDoorM7
import Derived.Test.YtlnikpcoejpknaaGreatDoorM5
namespace Go.Proofs.YtlnikpcoejpknaaGreatDoor
open Go.RowKit

theorem tk_lt {l : List Lx.Tk} {p : Nat} {s : ByteArray} (h : tk l p s = true) : p < l.length := by
  unfold tk at h
  cases hx : l[p]? with
  | none => rw [hx] at h; simp at h
  | some t => exact (List.getElem?_eq_some_iff.1 hx).1

theorem pk_kind {l : List Lx.Tk} {p en : Nat} (h : (pk l p en).kind ≠ 0) : p < l.length := by
  unfold pk at h
  cases hx : l[p]? with
  | none => rw [hx] at h; simp at h
  | some t => exact (List.getElem?_eq_some_iff.1 hx).1

theorem wantL_le {l : List Lx.Tk} {p en q : Nat} {s : ByteArray} (h : wantL l p en s = .ok q) : q = p + 1 ∧ q ≤ l.length := by
  unfold wantL at h
  split at h
  · rename_i ht
    have := tk_lt ht
    simp at h
    omega
  · simp at h

theorem nameL_le {l : List Lx.Tk} {p en q : Nat} (h : nameL l p en = .ok q) : q = p + 1 ∧ q ≤ l.length ∧ Lx.named (pk l p en).text.toList = true := by
  unfold nameL at h
  split at h
  · simp at h
  · rename_i hk
    have := pk_kind (l := l) (p := p) (en := en) (by omega)
    split at h
    · simp at h
    · rename_i hn
      simp at h
      exact ⟨by omega, by omega, by simpa using hn⟩

theorem typL_le {l : List Lx.Tk} {p en q : Nat} (h : typL l p en = .ok q) : q = p + 1 ∧ q ≤ l.length := by
  unfold typL at h
  split at h
  · rename_i ht
    have := tk_lt ht
    simp at h
    omega
  · split at h
    · rename_i ht
      have := tk_lt ht
      simp at h
      omega
    · exact ⟨(nameL_le h).1, (nameL_le h).2.1⟩

theorem placesL_le {l : List Lx.Tk} {p en q : Nat} (h : placesL l p en = .ok q) : q = p + 1 ∧ q ≤ l.length := by
  unfold placesL at h
  split at h
  · simp at h
  · rename_i hk
    have := pk_kind (l := l) (p := p) (en := en) (by omega)
    split at h
    · simp at h
    · simp at h
      omega

/-- What stands in a token is of bounded length. -/
def TkOk (l : List Lx.Tk) : Prop := ∀ t ∈ l, t.text.size ≤ 6000 ∧ t.num ≤ 1000000000000000

theorem TkOk.pk {l : List Lx.Tk} (h : TkOk l) (p en : Nat) : (pk l p en).text.size ≤ 6000 ∧ (pk l p en).num ≤ 1000000000000000 := by
  unfold Go.Proofs.YtlnikpcoejpknaaGreatDoor.pk
  cases hx : l[p]? with
  | none => exact ⟨Nat.zero_le _, Nat.zero_le _⟩
  | some t => exact h t (List.mem_of_getElem? hx)

end Go.Proofs.YtlnikpcoejpknaaGreatDoor

/- The walk of beginsExpr. -/
namespace Go.Proofs.YtlnikpcoejpknaaGreatDoor
open Go.RowKit

def exprW : List ByteArray := [⟨#[45]⟩, ⟨#[110, 111, 116]⟩, ⟨#[40]⟩, ⟨#[116, 114, 117, 101]⟩, ⟨#[102, 97, 108, 115, 101]⟩, ⟨#[115, 116, 97, 114, 116]⟩, ⟨#[114, 101, 99, 118]⟩, ⟨#[121, 105, 101, 108, 100]⟩, ⟨#[97, 108, 105, 118, 101]⟩, ⟨#[114, 101, 115, 117, 109, 101]⟩]

set_option maxRecDepth 100000 in
set_option maxHeartbeats 1000000 in
theorem beginsExpr_any (t : Lx.Tk) (w : World) (hz : t.text.size ≤ maxLen) :
    Calls Tryz.prog 168 #[tkV t] w fun e w' => e = .returned (.bool (decide (t.kind = 2) || (Lx.named t.text.toList || oneOf t.text exprW))) ∧ Below w.heap.size w w' := by
  obtain ⟨b, hb⟩ : ∃ b, b = (decide (t.kind = 2) || (Lx.named t.text.toList || oneOf t.text exprW)) := ⟨_, rfl⟩
  have HB : Hid (b = (decide (t.kind = 2) || (Lx.named t.text.toList || oneOf t.text exprW))) := hb
  rw [← hb]
  clear hb
  by_cases hk : t.kind = 2
  · have e0 : ((t.kind : Int) == 2) = true := by simp; omega
    have HB2 : Hid (b = true) := by rw [HB.out, decide_eq_true hk]; rfl
    clear hk
    go_enter Tryz.func168, Tryz.ntmps168
    go_wp2
    go_ret
    exact ⟨by rw [HB2.out]; rfl, (Below.refl _ w).alloc (Nat.le_refl _) _⟩
  · have e0 : ((t.kind : Int) == 2) = false := by simp; omega
    have HBx : Hid (b = (Lx.named t.text.toList || oneOf t.text exprW)) := by rw [HB.out, decide_eq_false hk]; rfl
    clear hk
    cases hn : Lx.named t.text.toList with
    | true =>
      have HN : Hid (Lx.named t.text.toList = true) := hn
      have HB2 : Hid (b = true) := by rw [HBx.out, hn]; rfl
      clear hn
      go_enter Tryz.func168, Tryz.ntmps168
      go_wp2_with fail
      refine (named_any t.text _ hz).mono ?_
      rintro e w2 ⟨he, rfl⟩
      rw [HN.out] at he
      subst he
      go_wp2
      go_ret
      exact ⟨by rw [HB2.out]; rfl, (Below.refl _ w).alloc (Nat.le_refl _) _⟩
    | false =>
      have HN : Hid (Lx.named t.text.toList = false) := hn
      have HB2 : Hid (b = oneOf t.text exprW) := by rw [HBx.out, hn]; rfl
      clear hn
      have HC := lit_cells (w.alloc (.cells #[.int .i64 t.kind, .string t.text, .int .i64 t.num, .int .i64 t.pos] 84)) exprW
      rw [World.size_alloc] at HC
      have HC2 : Hid (∀ j x, exprW[j]? = some x → ((w.alloc (.cells #[.int .i64 t.kind, .string t.text, .int .i64 t.num, .int .i64 t.pos] 84)).alloc (.cells (exprW.map Value.string).toArray 9)).cell? ⟨w.heap.size + 1, j, none⟩ = some (.string x)) := HC
      clear HC
      go_enter Tryz.func168, Tryz.ntmps168
      go_wp2_with fail
      refine (named_any t.text _ hz).mono ?_
      rintro e w2 ⟨he, rfl⟩
      rw [HN.out] at he
      subst he
      go_wp2_with fail
      refine (isOneOf2_any t.text exprW (w.heap.size + 1) 10 b _ (by decide) HC2 HB2).mono ?_
      rintro e w3 ⟨rfl, rfl⟩
      go_wp2
      go_ret
      exact ⟨rfl, ((Below.refl _ w).alloc (Nat.le_refl _) _).alloc (by simp) _⟩

end Go.Proofs.YtlnikpcoejpknaaGreatDoor

/- The walks of the checker's node, valueType and params. -/
namespace Go.Proofs.YtlnikpcoejpknaaGreatDoor
open Go.RowKit

/-- What comes of a node by itself. -/
def nodeR (kind most : Int) (d n : Nat) : Except Int Nat := if Sy.nodeW kind most d n ≠ 0 then .error (Sy.nodeW kind most d n) else .ok (n + 1)

set_option maxRecDepth 100000 in
set_option maxHeartbeats 400000 in
theorem node_any (C n d : Nat) (num kind most deep : Int) (r : Except Int Nat) (w : World) (hC : Hid (CK w C num n)) (hn : n ≤ 2000) (hd : deep = 41 - d) (hr : Hid (r = nodeR kind most d n)) :
    Calls Tryz.prog 57 #[.pointer (some ⟨C, 0, none⟩), .int .i64 kind, .int .i64 most, .int .i64 deep] w fun e w' => w.grownBy w' (some C) ∧ Fate C num r e w' := by
  have HC1 : Hid (CK (w.setCell ⟨C, 1, none⟩ (.int .i64 ((n : Int) + 1))) C num (n + 1)) := hC.out.set1 (by omega)
  have HG : Hid (w.grownBy (w.setCell ⟨C, 1, none⟩ (.int .i64 ((n : Int) + 1))) (some C)) := grown_at _ _ _ _
  obtain ⟨c0, c1, f0, f1⟩ := hC.out.cells
  by_cases h1 : 2000 < n + 1
  · have HR : Hid (r = .error 4) := by
      have : Sy.nodeW kind most d n = 4 := by unfold Sy.nodeW; rw [if_pos (.inl h1)]
      have := hr.out; unfold nodeR at this; simp_all [Hid]
    have e1 : decide ((n : Int) + 1 > 2000) = true := by simp; omega
    go_enter Tryz.func57, Tryz.ntmps57
    go_wp2_with fail
    refine (fail_any C (n + 1) num 4 _ HC1.out).mono ?_
    rintro e w1 ⟨rfl, rfl⟩
    go_wp2
    exact ⟨rfl, HG.out, by rw [HR.out]; rfl⟩
  · have e1 : (n : Int) + 1 ≤ 2000 := by omega
    by_cases h2 : d = 0
    · have HR : Hid (r = .error 4) := by
        have : Sy.nodeW kind most d n = 4 := by unfold Sy.nodeW; rw [if_pos (.inr h2)]
        have := hr.out; unfold nodeR at this; simp_all [Hid]
      have e2 : 40 < deep := by omega
      clear h2 hd h1 hn
      go_enter Tryz.func57, Tryz.ntmps57
      go_wp2_with fail
      refine (fail_any C (n + 1) num 4 _ HC1.out).mono ?_
      rintro e w1 ⟨rfl, rfl⟩
      go_wp2
      exact ⟨rfl, HG.out, by rw [HR.out]; rfl⟩
    · have e2 : deep ≤ 40 := by omega
      obtain ⟨er, hE⟩ : ∃ er : Int, er = if kind < 1 ∨ most < kind then 1 else 0 := ⟨_, rfl⟩
      have HE : Hid (er = if kind < 1 ∨ most < kind then 1 else 0) := hE
      have HR : Hid (r = if er ≠ 0 then .error er else .ok (n + 1)) := by
        have : Sy.nodeW kind most d n = er := by unfold Sy.nodeW; rw [if_neg (by omega), hE]
        have h := hr.out; unfold nodeR at h; rw [this] at h; exact h
      clear h2 hd hE h1 hn
      go_enter Tryz.func57, Tryz.ntmps57
      go_wp2_with fail
      refine (kind_any C (n + 1) num kind most er _ HC1 HE).mono ?_
      rintro e w1 hf
      have HF : Hid (Fate0 num er _ e w1) := hf
      clear hf
      by_cases h0 : er = 0
      · have HR2 : Hid (r = .ok (n + 1)) := by have h := HR.out; rw [if_neg (by simpa using h0)] at h; exact h
        obtain rfl := fate0_not HF.out h0
        clear h0
        go_wp2
        go_end0
        exact ⟨grown_trans HG.out ⟨HF.out.1.os, HF.out.1.tape, HF.out.1.output, HF.out.1.size, fun k hk _ => HF.out.1.block k hk (by simp)⟩, by rw [HR2.out]; exact ⟨rfl, HC1.out.keep HF.out.1 (by simp)⟩⟩
      · have HR2 : Hid (r = .error er) := by have h := HR.out; rw [if_pos (by simpa using h0)] at h; exact h
        obtain rfl := fate0_err HF.out h0
        clear h0
        go_wp2
        exact ⟨rfl, grown_trans HG.out ⟨HF.out.1.os, HF.out.1.tape, HF.out.1.output, HF.out.1.size, fun k hk _ => HF.out.1.block k hk (by simp)⟩, by rw [HR2.out]; rfl⟩

end Go.Proofs.YtlnikpcoejpknaaGreatDoor


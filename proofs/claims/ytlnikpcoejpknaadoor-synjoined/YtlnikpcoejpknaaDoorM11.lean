/- The walks of beginsStat and of limit. -/
import Derived.Test.YtlnikpcoejpknaaDoorM10
namespace Go.Proofs.YtlnikpcoejpknaaDoor
open Go.RowKit

set_option maxRecDepth 100000 in
set_option maxHeartbeats 1000000 in
theorem beginsStat_any (t : Lx.Tk) (w : World) (hz : t.text.size ≤ maxLen) :
    Calls Tryd.prog 109 #[tkV t] w fun e w' => e = .returned (.bool (Lx.named t.text.toList || oneOf t.text statW)) ∧ Below w.heap.size w w' := by
  obtain ⟨b, hb⟩ : ∃ b, b = (Lx.named t.text.toList || oneOf t.text statW) := ⟨_, rfl⟩
  have HB : Hid (b = (Lx.named t.text.toList || oneOf t.text statW)) := hb
  rw [← hb]
  clear hb
  cases hn : Lx.named t.text.toList with
  | true =>
    have HN : Hid (Lx.named t.text.toList = true) := hn
    have HB2 : Hid (b = true) := by rw [HB.out, hn]; rfl
    clear hn
    go_enter Tryd.func109, Tryd.ntmps109
    go_wp2_with fail
    refine (named_any t.text _ hz).mono ?_
    rintro e w2 ⟨he, rfl⟩
    rw [HN.out] at he
    subst he
    go_wp2
    go_ret
    exact ⟨by rw [HB2.out]; rfl, (Below.refl _ w).alloc (Nat.le_refl _) _⟩
  | false =>
    have HN : Hid (Lx.named t.text.toList = false) := hn
    have HB2 : Hid (b = oneOf t.text statW) := by rw [HB.out, hn]; rfl
    clear hn
    have HC := lit_cells (w.alloc (.cells #[.int .i64 t.kind, .string t.text, .int .i64 t.num, .int .i64 t.pos] 103)) statW
    rw [World.size_alloc] at HC
    have HC2 : Hid (∀ j x, statW[j]? = some x → ((w.alloc (.cells #[.int .i64 t.kind, .string t.text, .int .i64 t.num, .int .i64 t.pos] 103)).alloc (.cells (statW.map Value.string).toArray 9)).cell? ⟨w.heap.size + 1, j, none⟩ = some (.string x)) := HC
    clear HC
    go_enter Tryd.func109, Tryd.ntmps109
    go_wp2_with fail
    refine (named_any t.text _ hz).mono ?_
    rintro e w2 ⟨he, rfl⟩
    rw [HN.out] at he
    subst he
    go_wp2_with fail
    refine (isOneOf2_any t.text statW (w.heap.size + 1) 8 b _ (by decide) HC2 HB2).mono ?_
    rintro e w3 ⟨rfl, rfl⟩
    go_wp2
    go_ret
    exact ⟨rfl, ((Below.refl _ w).alloc (Nat.le_refl _) _).alloc (by simp) _⟩

def limitL (bg : Lx.Tk → Bool) (n most : Int) (t : Lx.Tk) (p : Nat) : Except (Int × Nat) Nat := if n = most ∧ bg t = true then .error (5, t.pos) else .ok p

set_option maxRecDepth 100000 in
set_option maxHeartbeats 1000000 in
theorem limit_any (B R : Nat) (ta : Option Addr) (tc : Nat) (l : List Lx.Tk) (p en : Nat) (mv : Value) (op : Int) (g : FuncId) (bg : Lx.Tk → Bool) (n most : Int) (t : Lx.Tk) (r : Except (Int × Nat) Nat) (w : World) (hR : Hid (RD w R ta tc l p en mv op)) (hT : Hid (TkIn B w l ta)) (hB : B ≤ R) (hp : p ≤ l.length) (ht : Hid (t = pk l p en))
    (hcf : ∀ (a : Value) (w : World), (callFunc g #[a]).run Tryd.prog w = .ok (.enter g #[a]) w) (hg : Hid (∀ u : World, Calls Tryd.prog g #[tkV t] u fun e w' => e = .returned (.bool (bg t)) ∧ Below u.heap.size u w')) (hr : Hid (r = limitL bg n most t p)) :
    Calls Tryd.prog 49 #[.pointer (some ⟨R, 0, none⟩), .int .i64 n, .int .i64 most, .func (.func g) #[] #[]] w fun e w' => RFate R ta tc l en mv op w (.tuple #[]) r e w' := by
  have hRl := hR.out.lt
  by_cases hn : n = most
  · obtain ⟨b, hb⟩ : ∃ b, b = bg t := ⟨_, rfl⟩
    have HBb : Hid (bg t = b) := hb.symm
    have e0 : (n == most) = true := by simp; exact hn
    have HN : Hid (n = most) := hn
    clear hb hn
    go_enter Tryd.func49, Tryd.ntmps49
    go_wp2_with fail
    refine (peek_any B R ta tc l p en mv op t _ hR hT hB hp ht).mono ?_
    rintro e w1 ⟨rfl, hb1⟩
    have HB1 : Hid (Below w.heap.size w w1) := hb1
    have HR1 : Hid (RD w1 R ta tc l p en mv op) := hR.out.on hb1
    have HT1 : Hid (TkIn B w1 l ta) := hT.out.on (below_same hb1 (by omega))
    have hz1 := hb1.size
    clear hb1
    go_wp2_with fail
    refine (hg.out _).mono ?_
    rintro e w2 ⟨he, hb2⟩
    rw [HBb.out] at he
    subst he
    have HB2 : Hid (Below w.heap.size w w2) := HB1.out.trans (hb2.mono hz1)
    have HR2 : Hid (RD w2 R ta tc l p en mv op) := HR1.out.on hb2
    have HT2 : Hid (TkIn B w2 l ta) := HT1.out.on (below_same hb2 (by omega))
    clear hb2
    cases b with
    | true =>
      have HRr : Hid (r = .error (5, t.pos)) := by rw [hr.out]; unfold limitL; rw [if_pos ⟨HN.out, HBb.out⟩]; rfl
      go_wp2_with fail
      refine (cfail_any B R ta tc l p en mv op 5 t _ HR2 HT2 hB hp ht).mono ?_
      rintro e w3 ⟨rfl, hb3⟩
      have HG3 : Hid (w.grownBy w3 (some R)) := grown_on (grown_bel HB2.out) hb3
      have HD : Hid (RD w3 R ta tc l p en mv op) := HR2.out.on hb3
      clear hb3
      go_wp2
      exact ⟨rfl, HG3.out, by rw [HRr.out]; exact ⟨rfl, _, _, HD.out, Int.le_refl _, by omega⟩⟩
    | false =>
      have HRr : Hid (r = .ok p) := by rw [hr.out]; unfold limitL; rw [if_neg (by rw [HBb.out]; simp)]; rfl
      go_wp2
      go_end0
      exact ⟨grown_bel HB2.out, by rw [HRr.out]; exact ⟨rfl, HR2.out⟩⟩
  · have e0 : (n == most) = false := by simp; exact hn
    have HRr : Hid (r = .ok p) := by rw [hr.out]; unfold limitL; rw [if_neg (by intro h; exact hn h.1)]; rfl
    clear hn
    go_enter Tryd.func49, Tryd.ntmps49
    go_wp2
    go_end0
    exact ⟨grown_bel (Below.refl _ _), by rw [HRr.out]; exact ⟨rfl, hR.out⟩⟩

end Go.Proofs.YtlnikpcoejpknaaDoor

/- Where the reader stands behind what it has read. -/
namespace Go.Proofs.YtlnikpcoejpknaaDoor
open Go.RowKit

theorem tk_lt {l : List Lx.Tk} {p : Nat} {s : ByteArray} (h : tk l p s = true) : p < l.length := by
  unfold tk at h
  cases hx : l[p]? with
  | none => rw [hx] at h; simp at h
  | some t => exact (List.getElem?_eq_some_iff.1 hx).1

theorem pk_kind {l : List Lx.Tk} {p en : Nat} (h : (pk l p en).kind ≠ 0) : p < l.length := by
  unfold pk at h
  cases hx : l[p]? with
  | none => rw [hx] at h; simp at h
  | some t => exact (List.getElem?_eq_some_iff.1 hx).1

theorem wantL_le {l : List Lx.Tk} {p en q : Nat} {s : ByteArray} (h : wantL l p en s = .ok q) : q = p + 1 ∧ q ≤ l.length := by
  unfold wantL at h
  split at h
  · rename_i ht
    have := tk_lt ht
    simp at h
    omega
  · simp at h

theorem nameL_le {l : List Lx.Tk} {p en q : Nat} (h : nameL l p en = .ok q) : q = p + 1 ∧ q ≤ l.length ∧ Lx.named (pk l p en).text.toList = true := by
  unfold nameL at h
  split at h
  · simp at h
  · rename_i hk
    have := pk_kind (l := l) (p := p) (en := en) (by omega)
    split at h
    · simp at h
    · rename_i hn
      simp at h
      exact ⟨by omega, by omega, by simpa using hn⟩

theorem typL_le {l : List Lx.Tk} {p en q : Nat} (h : typL l p en = .ok q) : q = p + 1 ∧ q ≤ l.length := by
  unfold typL at h
  split at h
  · rename_i ht
    have := tk_lt ht
    simp at h
    omega
  · split at h
    · rename_i ht
      have := tk_lt ht
      simp at h
      omega
    · exact ⟨(nameL_le h).1, (nameL_le h).2.1⟩

theorem placesL_le {l : List Lx.Tk} {p en q : Nat} (h : placesL l p en = .ok q) : q = p + 1 ∧ q ≤ l.length := by
  unfold placesL at h
  split at h
  · simp at h
  · rename_i hk
    have := pk_kind (l := l) (p := p) (en := en) (by omega)
    split at h
    · simp at h
    · simp at h
      omega

/-- What stands in a token is of bounded length. -/
def TkOk (l : List Lx.Tk) : Prop := ∀ t ∈ l, t.text.size ≤ 6000 ∧ t.num ≤ 1000000000000000

theorem TkOk.pk {l : List Lx.Tk} (h : TkOk l) (p en : Nat) : (pk l p en).text.size ≤ 6000 ∧ (pk l p en).num ≤ 1000000000000000 := by
  unfold Go.Proofs.YtlnikpcoejpknaaDoor.pk
  cases hx : l[p]? with
  | none => exact ⟨Nat.zero_le _, Nat.zero_le _⟩
  | some t => exact h t (List.mem_of_getElem? hx)

end Go.Proofs.YtlnikpcoejpknaaDoor


/- Texts of words, and how they grow; the document's TypeText. -/
import Derived.Test.YtbbklahhnepiaaaDoorDt
import Derived.Laws.Concat
namespace Go.Proofs.YtbbklahhnepiaaaDoor
open Go.RowKit
namespace Sy

/-- The text of words, a blank behind each. -/
def txt (ws : List ByteArray) : ByteArray := ⟨(flat ws).toArray⟩

theorem bytes_ext {a b : ByteArray} (h : a.data.toList = b.data.toList) : a = b := by
  cases a; cases b
  simp only [ByteArray.mk.injEq] at *
  exact Array.toList_inj.1 h

theorem app_list (a b : ByteArray) : (a ++ b).data.toList = a.data.toList ++ b.data.toList := by simp

theorem txt_list (ws : List ByteArray) : (txt ws).data.toList = flat ws := by simp [txt]

theorem txt_size (ws : List ByteArray) : (txt ws).size = wt ws := List.size_toArray

theorem txt_app (a b : List ByteArray) : txt (a ++ b) = txt a ++ txt b := by
  apply bytes_ext
  rw [app_list, txt_list, txt_list, txt_list, flat_app]

/-- Nothing is wrong with it, as it stands in some program. -/
def ExS (d : Nat) (x : Ex) : Prop := ∃ n m, n ≤ 2000 ∧ exW d x n = .ok m
def StS (d : Nat) (s : St) : Prop := ∃ n m, n ≤ 2000 ∧ stW d s n = .ok m
def BdS (d : Nat) (l : List St) : Prop := ∃ n m, n ≤ 2000 ∧ bodyOf (stW d) l n = .ok m

theorem runs_mem_le {α : Type} {f : α → Nat → Except Int Nat} (hf : ∀ a n m, n ≤ 2000 → f a n = .ok m → m ≤ 2000) {l : List α} : ∀ {n m : Nat}, n ≤ 2000 → runs f l n = .ok m → ∀ a ∈ l, ∃ i j, i ≤ 2000 ∧ f a i = .ok j := by
  induction l with
  | nil => intro n m _ _ a ha; cases ha
  | cons b l ih =>
    intro n m hn h a ha
    unfold runs at h
    cases hb : f b n with
    | error e => rw [hb] at h; simp at h
    | ok k =>
      rw [hb] at h
      rcases List.mem_cons.1 ha with rfl | ha
      · exact ⟨n, k, hn, hb⟩
      · exact ih (hf b n k hn hb) h a ha

theorem ExS.ok {d : Nat} {x : Ex} (h : ExS d x) : ExOk d x := by
  obtain ⟨n, m, _, h⟩ := h
  exact exOk_of d x n m h

theorem ExS.wt {d : Nat} {x : Ex} (h : ExS d x) : wt (exT d x) ≤ 800000 := by
  obtain ⟨n, m, hn, h⟩ := h
  have h1 := exW_le d x n m hn h
  have h2 := ex_wt d x n m h
  omega

theorem ExS.runs {d : Nat} {x : Ex} (h : ExS (d + 1) x) : ∃ n m, n ≤ 2000 ∧ m ≤ 2000 ∧ Sy.runs (exW d) x.kids n = .ok m := by
  obtain ⟨n, m, hn, h⟩ := h
  have hm := exW_le _ _ _ _ hn h
  unfold exW at h
  split at h
  · simp at h
  · rename_i h0
    have hz := nodeW_zero (by simpa using h0 : nodeW x.kind 24 (d + 1) n = 0)
    split at h
    · simp at h
    · exact ⟨n + 1, m, by omega, hm, h⟩

theorem ExS.kid {d : Nat} {x k : Ex} (h : ExS (d + 1) x) (hk : k ∈ x.kids) : ExS d k := by
  obtain ⟨n, m, hn, _, h⟩ := h.runs
  obtain ⟨i, j, hi, hij⟩ := runs_mem_le (exW_le d) hn h k hk
  exact ⟨i, j, hi, hij⟩

theorem ExS.list {d : Nat} {x : Ex} (h : ExS (d + 1) x) : Sy.wt (listT (exT d) 0 x.kids) ≤ 800100 := by
  have h6 : x.kids.length ≤ 6 := by
    have := (head_parts h.ok.2.2.1).2.2.2
    have := most_le x.kind
    omega
  obtain ⟨n, m, hn, hm, h⟩ := h.runs
  have h1 := runs_tot (g := fun a => Sy.wt (exT d a)) (fun a i j => ex_wt d a i j) x.kids n m h
  have h2 := wt_list (exT d) x.kids 0
  omega

theorem BdS.mem {d : Nat} {l : List St} {s : St} (h : BdS d l) (hs : s ∈ l) : StS d s := by
  obtain ⟨n, m, hn, h⟩ := h
  unfold bodyOf at h
  split at h
  · simp at h
  · obtain ⟨i, j, hi, hij⟩ := runs_mem_le (stW_le d) hn h s hs
    exact ⟨i, j, hi, hij⟩

theorem BdS.wt {d : Nat} {l : List St} (h : BdS d l) : Sy.wt (l.flatMap (stT d)) ≤ 800000 := by
  obtain ⟨n, m, hn, h⟩ := h
  have h1 := bodyOf_tot (g := fun a => Sy.wt (stT d a)) (fun a i j => st_wt d a i j) h
  have h2 := bodyOf_le (stW_le d) hn h
  rw [wt_flat]
  omega

theorem StS.kind {d : Nat} {s : St} (h : StS d s) : 1 ≤ s.kind ∧ s.kind ≤ 9 := by
  obtain ⟨n, m, hn, h⟩ := h
  cases d with
  | zero => simp [stW] at h
  | succ d =>
    unfold stW at h
    split at h
    · simp at h
    · rename_i h0
      have hz := nodeW_zero (by simpa using h0 : nodeW s.kind 9 (d + 1) n = 0)
      exact ⟨hz.2.1, hz.2.2.1⟩

theorem StS.name {d : Nat} {s : St} (h : StS d s) (hk : s.kind = 1 ∨ s.kind = 2 ∨ s.kind = 7) : s.name.size ≤ 12 := by
  obtain ⟨n, m, hn, h⟩ := h
  cases d with
  | zero => simp [stW] at h
  | succ d =>
    unfold stW at h
    split at h
    · simp at h
    · split at h
      · simp at h
      · rename_i h1
        refine nm_size ?_
        cases hb : nm s.name with
        | true => rfl
        | false => exact absurd ⟨hk, hb⟩ h1

theorem StS.x {d : Nat} {s : St} (h : StS (d + 1) s) (hk : s.kind ≠ 6) : ExS d s.x := by
  obtain ⟨n, m, hn, h⟩ := h
  unfold stW at h
  split at h
  · simp at h
  · rename_i h0
    have hz := nodeW_zero (by simpa using h0 : nodeW s.kind 9 (d + 1) n = 0)
    split at h
    · simp at h
    · cases hx : exW d s.x (n + 1) with
      | error e => rw [hx] at h; simp at h
      | ok k => exact ⟨n + 1, k, by omega, hx⟩

theorem StS.body {d : Nat} {s : St} (h : StS (d + 1) s) (hk : s.kind = 3 ∨ s.kind = 4) : BdS d s.body ∧ (s.kind = 3 → BdS d s.els) := by
  obtain ⟨n, m, hn, h⟩ := h
  unfold stW at h
  split at h
  · simp at h
  · rename_i h0
    have hz := nodeW_zero (by simpa using h0 : nodeW s.kind 9 (d + 1) n = 0)
    split at h
    · simp at h
    · rw [if_neg (by omega)] at h
      cases hx : exW d s.x (n + 1) with
      | error e => rw [hx] at h; simp at h
      | ok k =>
        rw [hx] at h
        have hk2 := exW_le _ _ _ _ (by omega) hx
        simp only [stTail] at h
        rw [if_pos hk] at h
        cases hb : bodyOf (stW d) s.body k with
        | error e => rw [hb] at h; simp at h
        | ok k2 =>
          rw [hb] at h
          have hk3 := bodyOf_le (stW_le d) hk2 hb
          refine ⟨⟨k, k2, hk2, hb⟩, fun h3 => ?_⟩
          simp only [h3, if_true] at h
          exact ⟨k2, m, hk3, h⟩

end Sy

theorem ty_kinds {t : Sy.Ty} (h : Sy.tyW t = 0) : t.kind = 1 ∨ t.kind = 2 ∨ t.kind = 3 := by
  unfold Sy.tyW at h
  split at h
  · omega
  · omega

theorem below_two (w : World) (o1 o2 : Obj) : Below w.heap.size w ((w.alloc o1).alloc o2) := ((Below.refl _ w).alloc (Nat.le_refl _) _).alloc (by simp) _

set_option maxRecDepth 100000 in
set_option maxHeartbeats 400000 in
theorem typeText_any (t : Sy.Ty) (w : World) (ht : Hid (Sy.tyW t = 0)) (hg : t.gen.size ≤ 140737488355328) :
    Calls Tryd.prog 11 #[tyV t] w fun e w' => e = .returned (.string (Sy.txt (Sy.tyT t))) ∧ Below w.heap.size w w' := by
  obtain ⟨r, hr⟩ : ∃ r, r = Sy.txt (Sy.tyT t) := ⟨_, rfl⟩
  rw [← hr]
  rcases ty_kinds ht.out with hk | hk | hk
  · have HR : Hid (r = ⟨#[110, 117, 109, 32]⟩) := by rw [hr]; unfold Sy.tyT; rw [if_pos hk]; rfl
    clear hr
    go_enter Tryd.func11, Tryd.ntmps11
    go_wp2
    go_ret
    exact ⟨by rw [HR.out]; rfl, below_two w _ _⟩
  · have HR : Hid (r = ⟨#[98, 111, 111, 108, 32]⟩) := by rw [hr]; unfold Sy.tyT; rw [if_neg (by omega), if_pos hk]; rfl
    clear hr
    go_enter Tryd.func11, Tryd.ntmps11
    go_wp2
    go_ret
    exact ⟨by rw [HR.out]; rfl, below_two w _ _⟩
  · have HR : Hid (r = t.gen ++ ⟨#[32]⟩) := by
      rw [hr]; unfold Sy.tyT; rw [if_neg (by omega), if_neg (by omega)]
      apply Sy.bytes_ext
      rw [Sy.txt_list, Sy.app_list, Sy.flat_cons, Sy.flat_nil]
      simp
    clear hr
    go_enter Tryd.func11, Tryd.ntmps11
    go_wp2
    go_ret
    exact ⟨by rw [HR.out]; rfl, below_two w _ _⟩

end Go.Proofs.YtbbklahhnepiaaaDoor

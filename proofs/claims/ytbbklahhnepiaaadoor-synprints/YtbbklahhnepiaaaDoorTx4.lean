/- WHAT THE DOCUMENT's Text ANSWERS, at any level. -/
import Derived.Test.YtbbklahhnepiaaaDoorTx3
namespace Go.Proofs.YtbbklahhnepiaaaDoor
open Go.RowKit

theorem table_of {k : Int} (h : 0 < Sy.lev k) : (∃ J : Nat, Sy.table[J]? = some (k, Sy.sign k, Sy.lev k)) ∧ 6 ≤ k ∧ k ≤ 18 ∧ Sy.lev k ≤ 5 := by
  have hk : 6 ≤ k ∧ k ≤ 18 := by
    unfold Sy.lev at h
    repeat' split at h
    all_goals omega
  refine ⟨?_, hk.1, hk.2, (least_pair h).2⟩
  rcases (show k = 6 ∨ k = 7 ∨ k = 8 ∨ k = 9 ∨ k = 10 ∨ k = 11 ∨ k = 12 ∨ k = 13 ∨ k = 14 ∨ k = 15 ∨ k = 16 ∨ k = 17 ∨ k = 18 by omega) with rfl | rfl | rfl | rfl | rfl | rfl | rfl | rfl | rfl | rfl | rfl | rfl | rfl
  · exact ⟨8, rfl⟩
  · exact ⟨9, rfl⟩
  · exact ⟨10, rfl⟩
  · exact ⟨11, rfl⟩
  · exact ⟨12, rfl⟩
  · exact ⟨2, rfl⟩
  · exact ⟨3, rfl⟩
  · exact ⟨4, rfl⟩
  · exact ⟨5, rfl⟩
  · exact ⟨6, rfl⟩
  · exact ⟨7, rfl⟩
  · exact ⟨1, rfl⟩
  · exact ⟨0, rfl⟩

theorem br_size {f : Sy.Ex → List ByteArray} {lv : Int} {x : Sy.Ex} (h : Sy.wt (f x) ≤ 800000) : (Sy.txt (Sy.brT f lv x)).size ≤ 900000 := by
  rw [Sy.txt_size]
  have := Sy.wt_br f lv x
  omega

theorem lev_not {k : Int} (h : k = 1 ∨ k = 2 ∨ k = 3 ∨ k = 4 ∨ k = 5 ∨ k = 19 ∨ k = 20 ∨ k = 21 ∨ k = 22 ∨ k = 23 ∨ k = 24) : ¬ 0 < Sy.lev k := by
  intro hl
  have := table_of hl
  omega

theorem kid_at {B : Nat} {w : World} {h : Nat} {kids : List Sy.Ex} {a : Option Addr} (hX : KidsIn B w h kids a) {i : Nat} {k : Sy.Ex} (hi : kids[i]? = some k) : ∃ b off a' c', a = some ⟨b, off, none⟩ ∧ b < B ∧
      w.cell? ⟨b, off + i * 4, none⟩ = some (.int .i64 k.kind) ∧ w.cell? ⟨b, off + i * 4 + 1, none⟩ = some (.int .i64 k.n) ∧ w.cell? ⟨b, off + i * 4 + 2, none⟩ = some (.string k.name) ∧
      w.cell? ⟨b, off + i * 4 + 3, none⟩ = some (.slice a' k.kids.length c') ∧ ExIn B w h k a' := hX.2 i k hi

/-- args over kids, from wherever it is called. -/
theorem args_at {d : Nat} (hT : TxP d) {B h : Nat} {x : Sy.Ex} {a : Option Addr} {c : Nat} {w : World} (hx : Sy.ExS (d + 1) x) (hX : KidsIn B w h x.kids a) (hB : B ≤ w.heap.size) (htab : TabW w) :
    ∀ u : World, Below w.heap.size w u → Calls Tryd.prog 45 #[.slice a x.kids.length c] u fun e w' => e = .returned (.string (Sy.txt ([⟨#[40]⟩] ++ Sy.listT (Sy.exT d) 0 x.kids ++ [⟨#[41]⟩]))) ∧ Below u.heap.size u w' := by
  intro u hu
  have hl : x.kids.length ≤ 6 := by
    have h4 := (Sy.head_parts hx.ok.2.2.1).2.2.2
    have := Sy.most_le x.kind
    omega
  exact args_of d hT B h x.kids a c _ u hl (fun k hk => hx.kid hk) hx.list (hX.same (same_bel hu hB)) (Nat.le_trans hB hu.size) (htab.below hu) rfl

theorem args_size {d : Nat} {x : Sy.Ex} (hx : Sy.ExS (d + 1) x) : (Sy.txt ([⟨#[40]⟩] ++ Sy.listT (Sy.exT d) 0 x.kids ++ [⟨#[41]⟩])).size ≤ 900000 := by
  rw [Sy.txt_size, Sy.wt_app, Sy.wt_app]
  have := hx.list
  have : Sy.wt [⟨#[40]⟩] = 2 := rfl
  have : Sy.wt [⟨#[41]⟩] = 2 := rfl
  omega

theorem text_of (d : Nat) (hT : TxP d) : TxP (d + 1) := by
  intro B h x a c need w hx hX hB htab hn1 hn6
  cases h with
  | zero => exact hX.out.elim
  | succ h =>
  have hK := hX.out.kidsIn
  obtain ⟨hk1, hk24, hhd, -⟩ := hx.ok
  obtain ⟨p1, p2, p3, p4⟩ := Sy.head_parts hhd
  by_cases hlev : 0 < Sy.lev x.kind
  · obtain ⟨⟨J, hJ⟩, hk6, hk18, hl5⟩ := table_of hlev
    have hl : x.kids.length = 2 := by
      have h1 := (least_pair hlev).1
      have h2 : Sy.most x.kind = 2 := by
        unfold Sy.most
        repeat' split
        all_goals omega
      omega
    obtain ⟨k0, hk0⟩ : ∃ k, x.kids[0]? = some k := ⟨_, List.getElem?_eq_getElem (by omega)⟩
    obtain ⟨k1, hk1'⟩ : ∃ k, x.kids[1]? = some k := ⟨_, List.getElem?_eq_getElem (by omega)⟩
    obtain ⟨b, off, a0, c0, rfl, hb, q0, q1, q2, q3, in0⟩ := kid_at hK hk0
    obtain ⟨b', off', a1, c1, he, hb', q4, q5, q6, q7, in1⟩ := kid_at hK hk1'
    simp only [Option.some.injEq, Addr.mk.injEq, and_true] at he
    obtain ⟨rfl, rfl⟩ := he
    simp only [Nat.zero_mul, Nat.add_zero] at q0 q1 q2 q3
    simp only [Nat.one_mul] at q4 q5 q6 q7
    have s0 := hx.kid (List.mem_of_getElem? hk0)
    have s1 := hx.kid (List.mem_of_getElem? hk1')
    have hR : Sy.txt (Sy.exT (d + 1) x) = Sy.txt (Sy.brT (Sy.exT d) (if Sy.lev x.kind = 3 then 4 else Sy.lev x.kind) k0) ++ Sy.sign x.kind ++ ⟨#[32]⟩ ++ Sy.txt (Sy.brT (Sy.exT d) (Sy.lev x.kind + 1) k1) := by
      rw [exT_pair hlev hk0 hk1']
      apply Sy.bytes_ext
      simp [Sy.txt_list, Sy.flat_app, Sy.flat_cons]
    refine text_pair x k0 k1 b off c a0 c0 a1 c1 need (Sy.lev x.kind) (if Sy.lev x.kind = 3 then 4 else Sy.lev x.kind) J (Sy.sign x.kind) _ _ (Sy.txt (Sy.exT (d + 1) x)) _ w hl (by omega) hJ (by omega) hl5 rfl ⟨hk6, hk18⟩ ⟨q0, q1, q2, q3⟩ ⟨q4, q5, q6, q7⟩ ?_ ?_ (br_size s0.wt) (br_size s1.wt) (Sy.sign_size _) hR ?_ ?_
    · intro u hu
      exact hT B h k0 a0 c0 _ u s0 (in0.same (same_bel hu hB)) (Nat.le_trans hB hu.size) (htab.out.below hu) (by split <;> omega) (by split <;> omega)
    · intro u hu
      exact hT B h k1 a1 c1 _ u s1 (in1.same (same_bel hu hB)) (Nat.le_trans hB hu.size) (htab.out.below hu) (by omega) (by omega)
    · rw [Sy.txt_size]
      have := hx.wt
      omega
    · unfold Hid Sy.brT Sy.levelOf
      rw [if_pos hlev]
      by_cases hc : Sy.lev x.kind < need
      · rw [if_pos hc, if_neg (by omega)]
        apply Sy.bytes_ext
        simp [Sy.txt_list, Sy.flat_app, Sy.flat_cons, Sy.flat_nil]
      · rw [if_neg hc, if_pos (by omega)]
  · have hkk : x.kind = 1 ∨ x.kind = 2 ∨ x.kind = 3 ∨ x.kind = 4 ∨ x.kind = 5 ∨ x.kind = 19 ∨ x.kind = 20 ∨ x.kind = 21 ∨ x.kind = 22 ∨ x.kind = 23 ∨ x.kind = 24 := by
      unfold Sy.lev at hlev
      repeat' split at hlev
      all_goals omega
    rw [br_six _ x need hn6 hlev]
    have ar := args_at (c := c) hT hx hK hB htab.out
    have az := args_size hx
    have neg : ∀ (s : ByteArray), (x.kind = 4 ∨ x.kind = 5) → Sy.exT (d + 1) x = [s] ++ Sy.brT (Sy.exT d) 6 (x.kids.headD ⟨0, 0, ⟨#[]⟩, []⟩) →
        (∀ (k0 : Sy.Ex) (b off : Nat) (a0 : Option Addr) (c0 : Nat), a = some ⟨b, off, none⟩ → x.kids.length = 1 → b < w.heap.size → w.cell? ⟨b, off, none⟩ = some (.int .i64 k0.kind) → w.cell? ⟨b, off + 1, none⟩ = some (.int .i64 k0.n) → w.cell? ⟨b, off + 2, none⟩ = some (.string k0.name) → w.cell? ⟨b, off + 3, none⟩ = some (.slice a0 k0.kids.length c0) →
          (∀ u : World, Below w.heap.size w u → Calls Tryd.prog 25 #[exV k0 a0 c0, .int .i64 6] u fun e w' => e = .returned (.string (Sy.txt (Sy.brT (Sy.exT d) 6 k0))) ∧ Below u.heap.size u w') → (Sy.txt (Sy.brT (Sy.exT d) 6 k0)).size ≤ 900000 → Sy.txt (Sy.exT (d + 1) x) = (s ++ ⟨#[32]⟩) ++ Sy.txt (Sy.brT (Sy.exT d) 6 k0) →
          Calls Tryd.prog 25 #[exV x a c, .int .i64 need] w fun e w' => e = .returned (.string (Sy.txt (Sy.exT (d + 1) x))) ∧ Below w.heap.size w w') →
        Calls Tryd.prog 25 #[exV x a c, .int .i64 need] w fun e w' => e = .returned (.string (Sy.txt (Sy.exT (d + 1) x))) ∧ Below w.heap.size w w' := by
      intro s hk hT4 go
      have hl : x.kids.length = 1 := by
        have : Sy.least x.kind = 1 ∧ Sy.most x.kind = 1 := by rcases hk with hk | hk <;> rw [hk] <;> decide
        omega
      obtain ⟨k0, hk0⟩ : ∃ k, x.kids[0]? = some k := ⟨_, List.getElem?_eq_getElem (by omega)⟩
      obtain ⟨b, off, a0, c0, rfl, hb, q0, q1, q2, q3, in0⟩ := kid_at hK hk0
      simp only [Nat.zero_mul, Nat.add_zero] at q0 q1 q2 q3
      have s0 := hx.kid (List.mem_of_getElem? hk0)
      have hh : x.kids.headD ⟨0, 0, ⟨#[]⟩, []⟩ = k0 := by
        obtain ⟨y, hy⟩ := List.length_eq_one_iff.1 hl
        rw [hy] at hk0 ⊢
        simpa using hk0
      rw [hh] at hT4
      refine go k0 b off a0 c0 rfl hl (by omega) q0 q1 q2 q3 ?_ (br_size s0.wt) ?_
      · intro u hu
        exact hT B h k0 a0 c0 6 u s0 (in0.same (same_bel hu hB)) (Nat.le_trans hB hu.size) (htab.out.below hu) (by decide) (by decide)
      · rw [hT4]
        apply Sy.bytes_ext
        simp [Sy.txt_list, Sy.flat_cons]
    rcases hkk with hk | hk | hk | hk | hk | hk | hk | hk | hk | hk | hk
    · refine text_num x a c need _ w hk (p1 hk).1 (p1 hk).2 htab hn6 ?_
      unfold Hid
      rw [exT_1 hk]
      apply Sy.bytes_ext
      simp [Sy.txt_list, Sy.flat_cons, Sy.flat_nil]
    · have hv : x.n = 0 ∨ x.n = 1 := by
        have h0 := hhd
        unfold Sy.exHead at h0
        split at h0
        · omega
        · omega
      rcases hv with hv | hv
      · refine text_false x a c need _ w hk hv hn6 ?_
        unfold Hid
        rw [exT_2 hk, hv]
        rfl
      · refine text_true x a c need _ w hk hv hn6 ?_
        unfold Hid
        rw [exT_2 hk, hv]
        rfl
    · refine text_var x a c need _ w hk (Sy.nm_size (p2 (.inl hk))) hn6 ?_
      unfold Hid
      rw [exT_3 hk]
      apply Sy.bytes_ext
      simp [Sy.txt_list, Sy.flat_cons, Sy.flat_nil]
    · refine neg ⟨#[45]⟩ (.inl hk) (exT_4 hk) ?_
      rintro k0 b off a0 c0 rfl hl hb q0 q1 q2 q3 hc hz hr
      exact text_neg x k0 b off c a0 c0 need _ _ w hk hl hb q0 q1 q2 q3 hc hz hn6 hr
    · refine neg ⟨#[110, 111, 116]⟩ (.inr hk) (exT_5 hk) ?_
      rintro k0 b off a0 c0 rfl hl hb q0 q1 q2 q3 hc hz hr
      exact text_not x k0 b off c a0 c0 need _ _ w hk hl hb q0 q1 q2 q3 hc hz hn6 hr
    · refine text_call x a c need _ _ w hk (Sy.nm_size (p2 (.inr (.inl hk)))) ar az hn6 ?_
      unfold Hid
      rw [exT_19 hk]
      apply Sy.bytes_ext
      simp [Sy.txt_list, Sy.flat_app, Sy.flat_cons, Sy.callT]
    · refine text_recv x a c need _ w hk (Sy.nm_size (p2 (.inr (.inr (.inl hk))))) hn6 ?_
      unfold Hid
      rw [exT_20 hk]
      apply Sy.bytes_ext
      simp [Sy.txt_list, Sy.flat_cons, Sy.flat_nil]
    · refine text_yield x a c need _ _ w hk ar az hn6 ?_
      unfold Hid
      rw [exT_21 hk]
      apply Sy.bytes_ext
      simp [Sy.txt_list, Sy.flat_app, Sy.flat_cons, Sy.callT]
    · refine text_start x a c need _ _ w hk (Sy.nm_size (p2 (.inr (.inr (.inr hk))))) ar az hn6 ?_
      unfold Hid
      rw [exT_22 hk]
      apply Sy.bytes_ext
      simp [Sy.txt_list, Sy.flat_app, Sy.flat_cons, Sy.callT]
    · refine text_resume x a c need _ _ w hk ar az hn6 ?_
      unfold Hid
      rw [exT_23 hk]
      apply Sy.bytes_ext
      simp [Sy.txt_list, Sy.flat_app, Sy.flat_cons, Sy.callT]
    · refine text_alive x a c need _ _ w hk ar az hn6 ?_
      unfold Hid
      rw [exT_24 hk]
      apply Sy.bytes_ext
      simp [Sy.txt_list, Sy.flat_app, Sy.flat_cons, Sy.callT]

theorem txP_any : ∀ d : Nat, TxP d
  | 0 => fun _ _ x _ _ _ _ hx => by obtain ⟨n, m, _, h⟩ := hx; simp [Sy.exW] at h
  | d + 1 => text_of d (txP_any d)

end Go.Proofs.YtbbklahhnepiaaaDoor

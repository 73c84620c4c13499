/- The walks of cutter and of Tokens. -/
import Derived.Test.YtlnikpcoejpknaaGreatDoorM4
import Derived.Deep.LoopGhost
import Derived.Deep.AppendLies
import Derived.Test.YtlnikpcoejpknaaGreatDoorM2
import Derived.Recover
import Derived.Deep.RegionHeld3
namespace Go.Proofs.YtlnikpcoejpknaaGreatDoor
open Go.RowKit

set_option maxHeartbeats 400000 in
theorem cutter_any (s : ByteArray) (w : World) :
    Calls Tryz.prog 32 #[.string s] w fun e w' => e = .returned (.func (.func 63) #[] #[.pointer (some ⟨w.heap.size + 1, 0, none⟩), .pointer (some ⟨w.heap.size, 0, none⟩)]) ∧
      (w.alloc (.cells #[.string s] 9)).alloc (.cells #[.int .i64 0] 3) = w' := by
  go_enter Tryz.func32, Tryz.ntmps32
  go_wp2
  go_ret
  exact ⟨rfl, rfl⟩

theorem Tryz.info_token : (Tryz.prog.info? 84).map (fun i => (i.zero, i.size, i.bytes)) = some (some (.agg #[.int .i64 0, .string ⟨#[]⟩, .int .i64 0, .int .i64 0]), 4, 40) := by kernel_rfl

set_option maxHeartbeats 400000 in
theorem tokens_much (s : ByteArray) (w : World) (hs : s.size ≤ maxLen) (hm : 6000 < s.size) :
    Calls Tryz.prog 12 #[.string s] w fun e w' => e = .returned (.tuple #[.slice none 0 0, .agg #[.int .i64 4, .int .i64 0]]) ∧ Below w.heap.size w w' := by
  unfold maxLen at hs
  go_enter Tryz.func12, Tryz.ntmps12
  go_wp2
  refine bodyPost_ret (v := .tuple #[.slice none 0 0, .agg #[.int .i64 4, .int .i64 0]]) (by simp [results, Tryz.results12, go_sem]) rfl ⟨rfl, ?_⟩
  exact (Below.refl _ w).alloc (Nat.le_refl _) _

/-- What holds at the head of Tokens' loop: fuel f is left. -/
def TokRel (s : ByteArray) (w : World) (f : Nat) (v : Value) (wr : World) : Prop :=
  ∃ (a : Nat) (done : List Lx.Tk), a ≤ s.size ∧ s.size - a < f ∧ done.length ≤ a ∧ wr.heap[w.heap.size + 1 + 1]? = some (.cells #[.int .i64 a] 3 (0, 0)) ∧ wr.heap[w.heap.size + 1]? = some (.cells #[.string s] 9 (0, 0)) ∧
    wr.heap[w.heap.size]? = some Z2 ∧ wr.ownsRow (w.heap.size + 3) 84 4 v done.length (Lx.cellsOf done) ∧ Below w.heap.size w wr ∧
    (Lx.lexFrom (s.size + 1) s 0).1 = done ++ (Lx.lexFrom f s a).1 ∧ (Lx.lexFrom (s.size + 1) s 0).2 = (Lx.lexFrom f s a).2

theorem tokRel_start (s : ByteArray) (w : World) : TokRel s w (s.size + 1) (.slice none 0 0) (((w.alloc (.cells #[.int .i64 0, .int .i64 0] 25)).alloc (.cells #[.string s] 9)).alloc (.cells #[.int .i64 0] 3)) := by
  refine ⟨0, [], Nat.zero_le _, by omega, by simp, ?_, ?_, ?_, World.ownsRow_nil _ _ _ _, ?_, by simp, rfl⟩
  · have := heap_alloc_new ((w.alloc (.cells #[.int .i64 0, .int .i64 0] 25)).alloc (.cells #[.string s] 9)) (.cells #[.int .i64 0] 3)
    simpa using this
  · rw [Below.heap_alloc _ _ _ (by simp)]
    have := heap_alloc_new (w.alloc (.cells #[.int .i64 0, .int .i64 0] 25)) (.cells #[.string s] 9)
    simpa using this
  · rw [Below.heap_alloc _ _ _ (by simp; omega), Below.heap_alloc _ _ _ (by simp)]
    exact heap_alloc_new w _
  · exact (((Below.refl _ w).alloc (Nat.le_refl _) _).alloc (by simp) _).alloc (by simp; omega) _

theorem own_base {w : World} {B C e size n : Nat} {v : Value} {xs : List Value} (h : w.ownsRow C e size v n xs) (hB : B ≤ C) : w.ownsRow B e size v n xs := by
  refine ⟨h.1, ?_⟩
  rcases h.2 with h2 | ⟨g, cap, cur, hv, hg, r⟩
  · exact .inl h2
  · exact .inr ⟨g, cap, cur, hv, Nat.le_trans hB hg, r⟩

theorem own_ne {w : World} {C e size n A : Nat} {v : Value} {xs : List Value} (h : w.ownsRow C e size v n xs) (hA : A < C) : v.ownBlock = none ∨ v.ownBlock ≠ some A := by
  cases hv : v.ownBlock with
  | none => exact .inl rfl
  | some k => exact .inr (fun e => by cases e; have := (h.lt _ hv).1; omega)

/-- What the rest of Tokens needs of a world: the tokens gathered, and that what was there is there. -/
def TW (w : World) (v : Value) (l : List Lx.Tk) (X : World) : Prop := X.ownsRow (w.heap.size + 3) 84 4 v l.length (Lx.cellsOf l) ∧ Below w.heap.size w X ∧ w.heap.size + 3 ≤ X.heap.size

theorem TW.ga {w X Y : World} {v : Value} {l : List Lx.Tk} {p : Nat} (h : TW w v l X) (hg : GA X (w.heap.size + 1 + 1) p Y) : TW w v l Y :=
  ⟨h.1.kept hg.1 (own_ne h.1 (by omega)), h.2.1.grown hg.1 (by have := h.2.2; omega) (by intro k hk; cases hk; omega), by have := hg.1.size; have := h.2.2; omega⟩
theorem TW.alloc {w X : World} {v : Value} {l : List Lx.Tk} (h : TW w v l X) (o : Obj) : TW w v l (X.alloc o) :=
  ⟨h.1.alloc o, h.2.1.alloc (by have := h.2.2; omega) o, by have := h.2.2; simp; omega⟩
theorem TW.set {w X : World} {v : Value} {l : List Lx.Tk} {o : Nat} (h : TW w v l X) (u : Value) : TW w v l (X.setCell ⟨w.heap.size, o, none⟩ u) :=
  ⟨ownsRow_setCell_below h.1 (by show w.heap.size < w.heap.size + 3; omega) u, below_set h.2.1 (Nat.le_refl _) u, by have := h.2.2; simpa [World.setCell] using this⟩
theorem TW.drew {w X : World} {v : Value} {l : List Lx.Tk} (h : TW w v l X) : TW w v l X.drew := ⟨h.1, h.2.1.drew, h.2.2⟩

theorem lexB_few {s : ByteArray} (hm : s.size ≤ 6000) (h0 : (Lx.lexFrom (s.size + 1) s 0).2.1 = 0) : Lx.lexB s = Lx.lexFrom (s.size + 1) s 0 := by
  unfold Lx.lexB; rw [if_neg (by omega), if_pos h0]
theorem lexB_bad {s : ByteArray} (hm : s.size ≤ 6000) (h0 : ¬ (Lx.lexFrom (s.size + 1) s 0).2.1 = 0) : Lx.lexB s = ([], (Lx.lexFrom (s.size + 1) s 0).2) := by
  unfold Lx.lexB; rw [if_neg (by omega), if_neg h0]

theorem three_more {w : World} {A : Nat} {o : Obj} (h : w.heap[A]? = some o) (o1 o2 o3 : Obj) : (((w.alloc o1).alloc o2).alloc o3).heap[A]? = some o := by
  have := lt_of_block h
  rw [Below.heap_alloc _ _ _ (by simp; omega)]; exact two_more h o1 o2

theorem grown_far {w w' : World} {A C e size n : Nat} {v : Value} {xs : List Value} {o : Obj} (hown : w.ownsRow C e size v n xs) (hg : w.grownBy w' v.ownBlock) (hA : A < C) (h : w.heap[A]? = some o) : w'.heap[A]? = some o := by
  rw [hg.block A (lt_of_block h) ?_]
  · exact h
  · rcases own_ne hown hA with h1 | h1
    · rw [h1]; simp
    · exact fun e => h1 e.symm

theorem tokRel_next {s : ByteArray} {w wr w2 w3 : World} {f a p K N M : Nat} {u4 v : Value} {done : List Lx.Tk} {o1 o2 o3 : Obj}
    (hd : done.length ≤ a) (hap : a ≤ p) (hN : 0 < N) (hle : p + N ≤ s.size) (hf : s.size - a < f + 1)
    (hS : wr.heap[w.heap.size + 1]? = some (.cells #[.string s] 9 (0, 0))) (hR : wr.heap[w.heap.size]? = some Z2)
    (hga : GA wr (w.heap.size + 1 + 1) (p + N) w2) (htw : TW w u4 done w2)
    (hown : w3.ownsRow (w.heap.size + 3) 84 4 v (done.length + 1) (Lx.cellsOf done ++ [.int .i64 K, .string (s.extract p (p + N)), .int .i64 M, .int .i64 p]))
    (hg : (((w2.alloc o1).alloc o2).alloc o3).grownBy w3 u4.ownBlock)
    (h1 : (Lx.lexFrom (s.size + 1) s 0).1 = (done ++ [⟨K, s.extract p (p + N), M, p⟩]) ++ (Lx.lexFrom f s (p + N)).1) (h2 : (Lx.lexFrom (s.size + 1) s 0).2 = (Lx.lexFrom f s (p + N)).2) : TokRel s w f v w3 := by
  have hlS := lt_of_block hS
  have ho := (((htw.alloc o1).alloc o2).alloc o3)
  refine ⟨p + N, done ++ [⟨K, s.extract p (p + N), M, p⟩], hle, by omega, by simp; omega, ?_, ?_, ?_, ?_, ?_, h1, h2⟩
  · exact grown_far ho.1 hg (by omega) (three_more hga.2 o1 o2 o3)
  · exact grown_far ho.1 hg (by omega) (three_more ((hga.1.block _ hlS (by simp)).trans hS) o1 o2 o3)
  · exact grown_far ho.1 hg (by omega) (three_more ((hga.1.block _ (by omega) (by simp; omega)).trans hR) o1 o2 o3)
  · have e : (done ++ [(⟨K, s.extract p (p + N), M, p⟩ : Lx.Tk)]).length = done.length + 1 := by simp
    rw [e, Lx.cellsOf_snoc]; exact hown
  · exact ho.2.1.grown hg (by have := ho.2.2; omega) (by intro k hk; have := (ho.1.lt k hk).1; omega)

theorem one_cells (K M p : Nat) (t : ByteArray) : ∀ u ∈ [Value.int .i64 (K : Int), .string t, .int .i64 (M : Int), .int .i64 (p : Int)], u.oneCell' = true := by
  intro u hu
  simp only [List.mem_cons, List.not_mem_nil, or_false] at hu
  rcases hu with rfl | rfl | rfl | rfl <;> rfl

set_option maxHeartbeats 1000000 in
theorem tokens_few (s : ByteArray) (w : World) (hm : s.size ≤ 6000) :
    Calls Tryz.prog 12 #[.string s] w fun e w' => ∃ v, e = .returned (.tuple #[v, .agg #[.int .i64 (Lx.lexB s).2.1, .int .i64 (Lx.lexB s).2.2]]) ∧ w'.ownsRow w.heap.size 84 4 v (Lx.lexB s).1.length (Lx.cellsOf (Lx.lexB s).1) ∧ Below w.heap.size w w' := by
  have hdec : decide ((6000 : Int) < (s.size : Int)) = false := by simp; omega
  obtain ⟨i0, hi, hz0, hz1, hz2⟩ := info_parts Tryz.info_token
  go_enter Tryz.func12, Tryz.ntmps12
  go_wp2_with fail
  refine (cutter_any _ _).mono ?_
  rintro e w1 ⟨rfl, rfl⟩
  go_wp2
  go_loopg [4] (s.size + 1) (fun f v wr => TokRel s w f v wr)
  case atStart => exact tokRel_start s w
  case round =>
    obtain ⟨a, done, ha, hf, hd, hA, hS, hR, hown, hbel, hl1, hl2⟩ := hrel
    obtain ⟨f, rfl⟩ : ∃ f, gk = f + 1 := ⟨gk - 1, by omega⟩
    have hH : w.heap.size + 1 + 1 < wr.heap.size := lt_of_block hA
    obtain ⟨p, hp⟩ : ∃ p, Lx.place s a = p := ⟨_, rfl⟩
    have hple : p ≤ s.size := hp ▸ Lx.place_le s a ha
    have hc := cut_any s a (Lx.gapL false (s.data.toList.drop a)) p _ _ wr hm hA hS rfl (by rw [← hp]; unfold Lx.place; omega) hp hple
    have HL1 : Hid ((Lx.lexFrom (s.size + 1) s 0).1 = done ++ (Lx.lexFrom (f + 1) s a).1) := hl1
    have HL2 : Hid ((Lx.lexFrom (s.size + 1) s 0).2 = (Lx.lexFrom (f + 1) s a).2) := hl2
    have HPl : Hid (Lx.place s a = p) := hp
    have HA : Hid (wr.heap[w.heap.size + 1 + 1]? = some (.cells #[.int .i64 a] 3 (0, 0))) := hA
    have HS : Hid (wr.heap[w.heap.size + 1]? = some (.cells #[.string s] 9 (0, 0))) := hS
    have HR : Hid (wr.heap[w.heap.size]? = some Z2) := hR
    have HB : Hid (Below w.heap.size w wr) := hbel
    have HO : Hid (wr.ownsRow (w.heap.size + 3) 84 4 u4 done.length (Lx.cellsOf done)) := hown
    clear hl1 hl2 hp hA hS hR hbel hown
    by_cases he : s.size ≤ p
    · rw [cutV_end he] at hc
      have HLX : Hid (Lx.lexB s = (done, 0, 0)) := by
        have e1 := Lx.lexFrom_end (f := f) HPl.out he
        have h1 := HL1.out; have h2 := HL2.out
        rw [e1] at h1 h2
        rw [lexB_few hm (by rw [h2])]
        exact Prod.ext (by simpa using h1) h2
      go_wp2_with fail
      refine hc.mono ?_
      rintro e w2 ⟨rfl, hga⟩
      have hR2 := (hga.1.block w.heap.size (by omega) (by simp; omega)).trans HR.out
      obtain ⟨t0, t1, y0, y1⟩ := two_cell hR2
      have hz := lt_of_block hR2
      clear hR2 hc
      have HGA : Hid (GA wr (w.heap.size + 1 + 1) p w2) := hga
      clear hga
      go_wp2
      refine bodyPost_ret (v := .tuple #[u4, .agg #[.int .i64 0, .int .i64 0]]) (by simp [results, Tryz.results12, go_sem, t0, t1, hz]) rfl ⟨u4, by rw [HLX.out]; rfl, ?_⟩
      have hT : TW w u4 done wr := ⟨HO.out, HB.out, by omega⟩
      have hT2 := ((((hT.ga HGA.out).set (o := 0) (.int .i64 0)).set (o := 1) (.int .i64 0)).alloc (.cells #[.int .i64 0, .string ⟨#[]⟩, .int .i64 0, .int .i64 0] 84)).alloc (.cells #[.int .i64 0, .int .i64 0] 25)
      rw [HLX.out]
      exact ⟨own_base hT2.1 (by omega), hT2.2.1⟩
    · obtain ⟨E, K, N, M, hF⟩ : ∃ E K N M, Lx.firstL (s.data.toList.drop p) = (E, K, N, M) := ⟨_, _, _, _, rfl⟩
      have hlen : N ≤ s.size - p := by simpa using Lx.firstL_len hF
      by_cases hE : E = 0
      · subst hE
        rw [cutV_tok he hF] at hc
        obtain ⟨hN, hK⟩ := Lx.firstL_pos hF
        have e1 := Lx.lexFrom_tok (f := f) HPl.out he hF
        have HX1 : Hid ((Lx.lexFrom (s.size + 1) s 0).1 = (done ++ [⟨K, s.extract p (p + N), M, p⟩]) ++ (Lx.lexFrom f s (p + N)).1) := by
          have h1 := HL1.out
          rw [e1] at h1
          unfold Hid; rw [h1]; simp
        have HX2 : Hid ((Lx.lexFrom (s.size + 1) s 0).2 = (Lx.lexFrom f s (p + N)).2) := by
          have h2 := HL2.out
          rw [e1] at h2
          exact h2
        have hap : a ≤ p := by have := HPl.out; unfold Lx.place at this; omega
        have hK0 : ((K : Int) == 0) = false := by simp; omega
        clear hF e1
        go_wp2_with fail
        refine hc.mono ?_
        rintro e w2 ⟨rfl, hga⟩
        have hR2 := (hga.1.block w.heap.size (by omega) (by simp; omega)).trans HR.out
        have hz := lt_of_block hR2
        have HGA : Hid (GA wr (w.heap.size + 1 + 1) (p + N) w2) := hga
        have HTW : Hid (TW w u4 done w2) := TW.ga ⟨HO.out, HB.out, by omega⟩ hga
        have hlo : done.length ≤ 6000 := by omega
        have HW3 : Hid ((((w2.alloc (.cells #[.int .i64 K, .string (s.extract p (p + N)), .int .i64 M, .int .i64 p] 84)).alloc (.cells #[.int .i64 0, .int .i64 0] 25)).alloc (.cells #[.int .i64 K, .string (s.extract p (p + N)), .int .i64 M, .int .i64 p] 84)).ownsRow (w.heap.size + 3) 84 4 u4 done.length (Lx.cellsOf done)) := (((HTW.out.alloc _).alloc _).alloc _).1
        have HN3 : Hid (∀ j u, [Value.int .i64 (K : Int), .string (s.extract p (p + N)), .int .i64 (M : Int), .int .i64 (p : Int)][j]? = some u → (((w2.alloc (.cells #[.int .i64 K, .string (s.extract p (p + N)), .int .i64 M, .int .i64 p] 84)).alloc (.cells #[.int .i64 0, .int .i64 0] 25)).alloc (.cells #[.int .i64 K, .string (s.extract p (p + N)), .int .i64 M, .int .i64 p] 84)).cell? ((⟨w2.heap.size + 1 + 1, 0, none⟩ : Addr).add j) = some u) := by
          have := World.news_of_block (heap_alloc_new ((w2.alloc (.cells #[.int .i64 K, .string (s.extract p (p + N)), .int .i64 M, .int .i64 p] 84)).alloc (.cells #[.int .i64 0, .int .i64 0] 25)) (.cells #[.int .i64 K, .string (s.extract p (p + N)), .int .i64 M, .int .i64 p] 84))
          unfold Hid
          simpa using this
        have hb3 : w.heap.size + 3 ≤ w2.heap.size := HTW.out.2.2
        clear hR2 hc hga
        go_wp2_with (at_builtin; refine wpList_append_own _ rfl _ _ 36 rfl (w.heap.size + 3) 84 i0 _ 4 40 Tryz.underlying36 hi hz0 hz1 hz2 rfl (by decide) _ _ _ rfl HW3.out ⟨w2.heap.size + 1 + 1, 0, none⟩ 1 1 [.int .i64 K, .string (s.extract p (p + N)), .int .i64 M, .int .i64 p] rfl rfl HN3.out (one_cells K M p _) ?c3 ?c4 ?c5 ?_)
        case c3 => unfold maxLen; omega
        case c4 => omega
        case c5 => simp; omega
        · intro v' w3 hown' hgrow _
          have HO3 : Hid (w3.ownsRow (w.heap.size + 3) 84 4 v' (done.length + 1) (Lx.cellsOf done ++ [.int .i64 K, .string (s.extract p (p + N)), .int .i64 M, .int .i64 p])) := hown'
          clear hown'
          go_wp2
          go_roundg f
          case measure => omega
          case rel => exact tokRel_next hd hap hN (by omega) hf HS.out HR.out HGA.out HTW.out HO3.out hgrow HX1.out HX2.out
      · rw [cutV_err he hF hE] at hc
        have HLX : Hid (Lx.lexB s = ([], E, p)) := by
          have e1 := Lx.lexFrom_err (f := f) HPl.out he hF hE
          have h2 := HL2.out
          rw [e1] at h2
          rw [lexB_bad hm (by rw [h2]; exact hE), h2]
          rfl
        have hE2 : ((E : Int) == 0) = false := by simp; omega
        have hE3 : ((E : Int) != 0) = true := by simp; omega
        clear hF
        go_wp2_with fail
        refine hc.mono ?_
        rintro e w2 ⟨rfl, hga⟩
        have hR2 := (hga.1.block w.heap.size (by omega) (by simp; omega)).trans HR.out
        obtain ⟨t0, t1, y0, y1⟩ := two_cell hR2
        have hz := lt_of_block hR2
        have HTW : Hid (TW w u4 done w2) := TW.ga ⟨HO.out, HB.out, by omega⟩ hga
        clear hR2 hc hga
        go_wp2
        go_region
        all_goals
          go_wp2
          refine bodyPost_ret (v := .tuple #[.slice none 0 0, .agg #[.int .i64 E, .int .i64 p]]) (by simp [results, Tryz.results12, go_sem, t0, t1, hz]) rfl ⟨.slice none 0 0, by rw [HLX.out], ?_⟩
          have hT2 := (((((HTW.out).set (o := 0) (.int .i64 E)).set (o := 1) (.int .i64 p)).alloc (.cells #[.int .i64 0, .string ⟨#[]⟩, .int .i64 0, .int .i64 0] 84)).alloc (.cells #[.int .i64 E, .int .i64 p] 25)).drew
          rw [HLX.out]
          exact ⟨World.ownsRow_nil _ _ _ _, hT2.2.1⟩

/-- Tokens, whatever the text. -/
theorem tokens_any (s : ByteArray) (w : World) (hs : s.size ≤ maxLen) :
    Calls Tryz.prog 12 #[.string s] w fun e w' => ∃ v, e = .returned (.tuple #[v, .agg #[.int .i64 (Lx.lexB s).2.1, .int .i64 (Lx.lexB s).2.2]]) ∧ w'.ownsRow w.heap.size 84 4 v (Lx.lexB s).1.length (Lx.cellsOf (Lx.lexB s).1) ∧ Below w.heap.size w w' := by
  by_cases hm : 6000 < s.size
  · refine (tokens_much s w hs hm).mono ?_
    rintro e w' ⟨rfl, hb⟩
    have e : Lx.lexB s = ([], 4, 0) := by unfold Lx.lexB; rw [if_pos hm]
    rw [e]
    exact ⟨.slice none 0 0, rfl, World.ownsRow_nil _ _ _ _, hb⟩
  · exact tokens_few s w (by omega)

end Go.Proofs.YtlnikpcoejpknaaGreatDoor

/- The walks of the checker's small methods. -/
namespace Go.Proofs.YtlnikpcoejpknaaGreatDoor
open Go.RowKit

theorem fate0_ok {num er : Int} {w w' : World} (hg : w.grownBy w' none) (h : er = 0) : Fate0 num er w (.returned (.tuple #[])) w' := ⟨hg, by rw [if_pos h]⟩
theorem fate0_bad {num er k : Int} {w w' : World} (hg : w.grownBy w' none) (h : er = k) (hk : k ≠ 0) : Fate0 num er w (.panicked [fltE k num]) w' := ⟨hg, by rw [h, if_neg hk]⟩
theorem fate0_not {num er : Int} {w w' : World} {e : Ending} (h : Fate0 num er w e w') (h0 : er = 0) : e = .returned (.tuple #[]) := by rw [h.2, if_pos h0]
theorem fate0_err {num er : Int} {w w' : World} {e : Ending} (h : Fate0 num er w e w') (h0 : er ≠ 0) : e = .panicked [fltE er num] := by rw [h.2, if_neg h0]

set_option maxHeartbeats 400000 in
theorem throw_any (num er : Int) (w : World) :
    Calls Tryz.prog 88 #[.int .i64 er, .int .i64 num] w fun e w' => e = .panicked [fltE er num] ∧ Below w.heap.size w w' ∧ w' = w := by
  go_enter Tryz.func88, Tryz.ntmps88
  go_wp2
  exact ⟨rfl, rfl, Below.refl _ _, rfl⟩

set_option maxHeartbeats 400000 in
theorem fail_any (C n : Nat) (num er : Int) (w : World) (hC : CK w C num n) :
    Calls Tryz.prog 56 #[.pointer (some ⟨C, 0, none⟩), .int .i64 er] w fun e w' => e = .panicked [fltE er num] ∧ w' = w := by
  obtain ⟨c0, c1, f0, f1⟩ := hC.cells
  clear hC
  go_enter Tryz.func56, Tryz.ntmps56
  go_wp2_with fail
  refine (throw_any num er _).mono ?_
  rintro e w1 ⟨rfl, _, rfl⟩
  go_wp2
  exact ⟨rfl, rfl, rfl⟩

set_option maxHeartbeats 400000 in
theorem atMost_any (C n : Nat) (num k most er : Int) (w : World) (hC : Hid (CK w C num n)) (he : Hid (er = if most < k then 5 else 0)) :
    Calls Tryz.prog 30 #[.pointer (some ⟨C, 0, none⟩), .int .i64 k, .int .i64 most] w fun e w' => Fate0 num er w e w' := by
  by_cases h : most < k
  · have HE : Hid (er = 5) := by rw [if_pos h] at he; exact he
    go_enter Tryz.func30, Tryz.ntmps30
    go_wp2_with fail
    refine (fail_any C n num 5 _ hC.out).mono ?_
    rintro e w1 ⟨rfl, rfl⟩
    go_wp2
    exact ⟨rfl, fate0_bad (grown_refl _ _) HE.out (by decide)⟩
  · have HE : Hid (er = 0) := by rw [if_neg h] at he; exact he
    go_enter Tryz.func30, Tryz.ntmps30
    go_wp2
    go_end0
    exact fate0_ok (grown_refl _ _) HE.out

set_option maxHeartbeats 400000 in
theorem kind_any (C n : Nat) (num k most er : Int) (w : World) (hC : Hid (CK w C num n)) (he : Hid (er = if k < 1 ∨ most < k then 1 else 0)) :
    Calls Tryz.prog 89 #[.pointer (some ⟨C, 0, none⟩), .int .i64 k, .int .i64 most] w fun e w' => Fate0 num er w e w' := by
  by_cases h : k < 1
  · have HE : Hid (er = 1) := by rw [if_pos (.inl h)] at he; exact he
    go_enter Tryz.func89, Tryz.ntmps89
    go_wp2_with fail
    refine (fail_any C n num 1 _ hC.out).mono ?_
    rintro e w1 ⟨rfl, rfl⟩
    go_wp2
    exact ⟨rfl, fate0_bad (grown_refl _ _) HE.out (by decide)⟩
  · by_cases h2 : most < k
    · have HE : Hid (er = 1) := by rw [if_pos (.inr h2)] at he; exact he
      go_enter Tryz.func89, Tryz.ntmps89
      go_wp2_with fail
      refine (fail_any C n num 1 _ hC.out).mono ?_
      rintro e w1 ⟨rfl, rfl⟩
      go_wp2
      exact ⟨rfl, fate0_bad (grown_refl _ _) HE.out (by decide)⟩
    · have HE : Hid (er = 0) := by rw [if_neg (by omega)] at he; exact he
      go_enter Tryz.func89, Tryz.ntmps89
      go_wp2
      go_end0
      exact fate0_ok (grown_refl _ _) HE.out

set_option maxHeartbeats 400000 in
theorem within_any (C n : Nat) (num k least most er : Int) (w : World) (hC : Hid (CK w C num n)) (he : Hid (er = if k < least ∨ most < k then 3 else 0)) :
    Calls Tryz.prog 61 #[.pointer (some ⟨C, 0, none⟩), .int .i64 k, .int .i64 least, .int .i64 most] w fun e w' => Fate0 num er w e w' := by
  by_cases h : k < least
  · have HE : Hid (er = 3) := by rw [if_pos (.inl h)] at he; exact he
    go_enter Tryz.func61, Tryz.ntmps61
    go_wp2_with fail
    refine (fail_any C n num 3 _ hC.out).mono ?_
    rintro e w1 ⟨rfl, rfl⟩
    go_wp2
    exact ⟨rfl, fate0_bad (grown_refl _ _) HE.out (by decide)⟩
  · by_cases h2 : most < k
    · have HE : Hid (er = 3) := by rw [if_pos (.inr h2)] at he; exact he
      go_enter Tryz.func61, Tryz.ntmps61
      go_wp2_with fail
      refine (fail_any C n num 3 _ hC.out).mono ?_
      rintro e w1 ⟨rfl, rfl⟩
      go_wp2
      exact ⟨rfl, fate0_bad (grown_refl _ _) HE.out (by decide)⟩
    · have HE : Hid (er = 0) := by rw [if_neg (by omega)] at he; exact he
      go_enter Tryz.func61, Tryz.ntmps61
      go_wp2
      go_end0
      exact fate0_ok (grown_refl _ _) HE.out

set_option maxHeartbeats 400000 in
theorem cname_any (C n : Nat) (num er : Int) (s : ByteArray) (w : World) (hC : Hid (CK w C num n)) (hs : s.size ≤ maxLen) (he : Hid (er = if Sy.nm s = false then 7 else 0)) :
    Calls Tryz.prog 58 #[.pointer (some ⟨C, 0, none⟩), .string s] w fun e w' => Fate0 num er w e w' := by
  cases h : Sy.nm s
  · have HE : Hid (er = 7) := by rw [if_pos h] at he; exact he
    have HN : Hid (Lx.named s.toList = false) := h
    clear h
    go_enter Tryz.func58, Tryz.ntmps58
    go_wp2_with fail
    refine (named_any s _ hs).mono ?_
    rintro e w1 ⟨rfl, rfl⟩
    rw [HN.out]
    go_wp2_with fail
    refine (fail_any C n num 7 _ hC.out).mono ?_
    rintro e w1 ⟨rfl, rfl⟩
    go_wp2
    exact ⟨rfl, fate0_bad (grown_refl _ _) HE.out (by decide)⟩
  · have HE : Hid (er = 0) := by rw [if_neg (by rw [h]; decide)] at he; exact he
    have HN : Hid (Lx.named s.toList = true) := h
    clear h
    go_enter Tryz.func58, Tryz.ntmps58
    go_wp2_with fail
    refine (named_any s _ hs).mono ?_
    rintro e w1 ⟨rfl, rfl⟩
    rw [HN.out]
    go_wp2
    go_end0
    exact fate0_ok (grown_refl _ _) HE.out

end Go.Proofs.YtlnikpcoejpknaaGreatDoor

/- The reader in memory; the walks of the cursor. -/
namespace Go.Proofs.YtlnikpcoejpknaaGreatDoor
open Go.RowKit

/-- The reader lies in block R: its tokens, where it stands, where the text ends, its map, how deep it is. -/
def RD (w : World) (R : Nat) (ta : Option Addr) (tc : Nat) (l : List Lx.Tk) (p en : Nat) (mv : Value) (op : Int) : Prop :=
  w.heap[R]? = some (.cells #[.slice ta l.length tc, .int .i64 p, .int .i64 en, mv, .int .i64 op] 44 (0, 0))

/-- Tokens lie at ta, below B. -/
def TkIn (B : Nat) (w : World) (l : List Lx.Tk) (ta : Option Addr) : Prop :=
  l.length ≤ 6000 ∧ ∀ i t, l[i]? = some t → ∃ b off, ta = some ⟨b, off, none⟩ ∧ b < B ∧ w.cell? ⟨b, off + i * 4, none⟩ = some (.int .i64 t.kind) ∧ w.cell? ⟨b, off + i * 4 + 1, none⟩ = some (.string t.text) ∧
    w.cell? ⟨b, off + i * 4 + 2, none⟩ = some (.int .i64 t.num) ∧ w.cell? ⟨b, off + i * 4 + 3, none⟩ = some (.int .i64 t.pos) ∧ t.text.size ≤ maxLen

abbrev tkV (t : Lx.Tk) : Value := .agg #[.int .i64 t.kind, .string t.text, .int .i64 t.num, .int .i64 t.pos]

/-- What comes next. -/
def pk (l : List Lx.Tk) (p en : Nat) : Lx.Tk := (l[p]?).getD ⟨0, ⟨#[]⟩, 0, en⟩

theorem RD.cells {w : World} {R : Nat} {ta : Option Addr} {tc : Nat} {l : List Lx.Tk} {p en : Nat} {mv : Value} {op : Int} (h : RD w R ta tc l p en mv op) :
    w.cell? ⟨R, 0, none⟩ = some (.slice ta l.length tc) ∧ w.cell? ⟨R, 1, none⟩ = some (.int .i64 p) ∧ w.cell? ⟨R, 2, none⟩ = some (.int .i64 en) ∧ w.frozen? ⟨R, 1, none⟩ = false := by
  unfold RD at h
  simp [World.cell?, World.frozen?, h]

set_option maxRecDepth 100000 in
set_option maxHeartbeats 400000 in
theorem atEnd_any (R : Nat) (ta : Option Addr) (tc : Nat) (l : List Lx.Tk) (p en : Nat) (mv : Value) (op : Int) (b : Bool) (w : World) (hR : Hid (RD w R ta tc l p en mv op)) (hb : Hid (b = decide (p = l.length))) :
    Calls Tryz.prog 34 #[.pointer (some ⟨R, 0, none⟩)] w fun e w' => e = .returned (.bool b) ∧ Below w.heap.size w w' := by
  obtain ⟨c0, c1, c2, f1⟩ := hR.out.cells
  have e1 : ((p : Int) == (l.length : Int)) = b := by
    rw [hb.out, Bool.eq_iff_iff]
    simp
    omega
  go_enter Tryz.func34, Tryz.ntmps34
  go_wp2
  go_region
  all_goals
    go_wp2
    go_ret
    exact ⟨rfl, (Below.refl _ w).drew⟩

theorem RD.on {w w' : World} {R : Nat} {ta : Option Addr} {tc : Nat} {l : List Lx.Tk} {p en : Nat} {mv : Value} {op : Int} (h : RD w R ta tc l p en mv op) (hb : Below w.heap.size w w') : RD w' R ta tc l p en mv op := (hb.block R (lt_of_block h)).trans h
theorem RD.lt {w : World} {R : Nat} {ta : Option Addr} {tc : Nat} {l : List Lx.Tk} {p en : Nat} {mv : Value} {op : Int} (h : RD w R ta tc l p en mv op) : R < w.heap.size := lt_of_block h
theorem RD.set1 {w : World} {R : Nat} {ta : Option Addr} {tc : Nat} {l : List Lx.Tk} {p q en : Nat} {mv : Value} {op : Int} (h : RD w R ta tc l p en mv op) {v : Int} (hv : v = q) : RD (w.setCell ⟨R, 1, none⟩ (.int .i64 v)) R ta tc l q en mv op := by
  subst hv
  unfold RD at *
  simp only [World.setCell, Array.getElem?_modify, if_true, h, Option.map_some]
  rfl

theorem TkIn.on {B : Nat} {w w' : World} {l : List Lx.Tk} {ta : Option Addr} (h : TkIn B w l ta) (hs : Go.Proofs.YtlnikpcoejpknaaGreatDoor.Same B w w') : TkIn B w' l ta :=
  ⟨h.1, fun i t hi => by
    obtain ⟨b, off, e, hb, c0, c1, c2, c3, hz⟩ := h.2 i t hi
    exact ⟨b, off, e, hb, (hs _ _ hb).trans c0, (hs _ _ hb).trans c1, (hs _ _ hb).trans c2, (hs _ _ hb).trans c3, hz⟩⟩

theorem below_same {B : Nat} {w w' : World} (h : Below w.heap.size w w') (hB : B ≤ w.heap.size) : Go.Proofs.YtlnikpcoejpknaaGreatDoor.Same B w w' := fun b o hb => h.cell (p := ⟨b, o, none⟩) (Nat.lt_of_lt_of_le hb hB)

set_option maxRecDepth 100000 in
set_option maxHeartbeats 1000000 in
theorem peek_any (B R : Nat) (ta : Option Addr) (tc : Nat) (l : List Lx.Tk) (p en : Nat) (mv : Value) (op : Int) (t : Lx.Tk) (w : World) (hR : Hid (RD w R ta tc l p en mv op)) (hT : Hid (TkIn B w l ta)) (hB : B ≤ R) (hp : p ≤ l.length) (ht : Hid (t = pk l p en)) :
    Calls Tryz.prog 66 #[.pointer (some ⟨R, 0, none⟩)] w fun e w' => e = .returned (.agg #[.int .i64 t.kind, .string t.text, .int .i64 t.num, .int .i64 t.pos]) ∧ Below w.heap.size w w' := by
  have hRl := hR.out.lt
  have hl6 := hT.out.1
  by_cases he : p = l.length
  · have HT : Hid (t = ⟨0, ⟨#[]⟩, 0, en⟩) := by
      have := ht.out
      unfold pk at this
      rw [List.getElem?_eq_none (by omega)] at this
      exact this
    go_enter Tryz.func66, Tryz.ntmps66
    go_wp2_with fail
    refine (atEnd_any R ta tc l p en mv op true _ (hR.out.on ((Below.refl _ w).alloc (Nat.le_refl _) _)) (by rw [decide_eq_true he]; rfl)).mono ?_
    rintro e w1 ⟨rfl, hb1⟩
    have HB1 : Hid (Below w.heap.size w w1) := ((Below.refl _ w).alloc (Nat.le_refl _) _).trans (hb1.mono (by simp))
    have hZ : w1.heap[w.heap.size]? = some Z4 := (hb1.block _ (by simp)).trans (heap_alloc_new w Z4)
    obtain ⟨z0, z1, z2, z3⟩ := four_cell hZ
    obtain ⟨y0, y1, y2, y3⟩ := four_free hZ
    obtain ⟨c0, c1, c2, f1⟩ := (hR.out.on HB1.out).cells
    clear hb1 hZ
    go_wp2
    refine bodyPost_ret (v := .agg #[.int .i64 0, .string ⟨#[]⟩, .int .i64 0, .int .i64 en]) (by simp [results, Tryz.results66, go_sem, z0, z1, z2, z3]) rfl ⟨by rw [HT.out]; rfl, ?_⟩
    exact ((((HB1.out.setCell (p := ⟨w.heap.size, 0, none⟩) (Nat.le_refl _) _).setCell (p := ⟨w.heap.size, 1, none⟩) (Nat.le_refl _) _).setCell (p := ⟨w.heap.size, 2, none⟩) (Nat.le_refl _) _).setCell (p := ⟨w.heap.size, 3, none⟩) (Nat.le_refl _) _)
  · obtain ⟨x, hx⟩ : ∃ x, l[p]? = some x := ⟨_, List.getElem?_eq_getElem (by omega)⟩
    have HT : Hid (t = x) := by
      have := ht.out
      unfold pk at this
      rw [hx] at this
      exact this
    obtain ⟨b, off, rfl, hb, q0, q1, q2, q3, hz⟩ := hT.out.2 p x hx
    clear hx
    go_enter Tryz.func66, Tryz.ntmps66
    go_wp2_with fail
    refine (atEnd_any R _ tc l p en mv op false _ (hR.out.on ((Below.refl _ w).alloc (Nat.le_refl _) _)) (by rw [decide_eq_false he]; rfl)).mono ?_
    rintro e w1 ⟨rfl, hb1⟩
    have HB1 : Hid (Below w.heap.size w w1) := ((Below.refl _ w).alloc (Nat.le_refl _) _).trans (hb1.mono (by simp))
    have hZ : w1.heap[w.heap.size]? = some Z4 := (hb1.block _ (by simp)).trans (heap_alloc_new w Z4)
    obtain ⟨z0, z1, z2, z3⟩ := four_cell hZ
    obtain ⟨y0, y1, y2, y3⟩ := four_free hZ
    obtain ⟨c0, c1, c2, f1⟩ := (hR.out.on HB1.out).cells
    clear hb1 hZ
    rw [← HB1.out.cell (p := ⟨b, off + p * 4, none⟩) (by show b < _; omega)] at q0
    rw [← HB1.out.cell (p := ⟨b, off + p * 4 + 1, none⟩) (by show b < _; omega)] at q1
    rw [← HB1.out.cell (p := ⟨b, off + p * 4 + 2, none⟩) (by show b < _; omega)] at q2
    rw [← HB1.out.cell (p := ⟨b, off + p * 4 + 3, none⟩) (by show b < _; omega)] at q3
    have hp0 : (0 : Int) ≤ (p : Int) := by omega
    have hp1 : (p : Int) < (l.length : Int) := by omega
    have hne : ¬ w.heap.size = R := by omega
    have hne2 : ¬ w.heap.size = b := by omega
    clear he
    go_upto_region 3 with fail
    go_region_held3 (fun w' => w'.cell? ⟨R, 0, none⟩ = some (.slice (some ⟨b, off, none⟩) l.length tc) ∧ w'.cell? ⟨R, 1, none⟩ = some (.int .i64 p) ∧ w'.cell? ⟨b, off + p * 4, none⟩ = some (.int .i64 x.kind) ∧ w'.cell? ⟨b, off + p * 4 + 1, none⟩ = some (.string x.text) ∧ w'.cell? ⟨b, off + p * 4 + 2, none⟩ = some (.int .i64 x.num) ∧ w'.cell? ⟨b, off + p * 4 + 3, none⟩ = some (.int .i64 x.pos)) (go_keep) (fail)
    all_goals go_wp2
    all_goals refine bodyPost_ret (v := tkV x) (by simp [results, Tryz.results66, go_sem, z0, z1, z2, z3]) rfl ⟨by rw [HT.out], ?_⟩
    all_goals exact ((((HB1.out.setCell (p := ⟨w.heap.size, 0, none⟩) (Nat.le_refl _) _).setCell (p := ⟨w.heap.size, 1, none⟩) (Nat.le_refl _) _).setCell (p := ⟨w.heap.size, 2, none⟩) (Nat.le_refl _) _).setCell (p := ⟨w.heap.size, 3, none⟩) (Nat.le_refl _) _).drew

theorem tok_pos (k n p : Int) (s : ByteArray) (w : World) : (Instr.field 84 (.agg #[.int .i64 k, .string s, .int .i64 n, .int .i64 p]) 3).run Tryz.prog w = .ok (.int .i64 p) w := by kernel_rfl
theorem tok_text (k n p : Int) (s : ByteArray) (w : World) : (Instr.field 84 (.agg #[.int .i64 k, .string s, .int .i64 n, .int .i64 p]) 1).run Tryz.prog w = .ok (.string s) w := by kernel_rfl

set_option maxHeartbeats 400000 in
theorem skip_any (R : Nat) (ta : Option Addr) (tc : Nat) (l : List Lx.Tk) (p en : Nat) (mv : Value) (op : Int) (w : World) (hR : Hid (RD w R ta tc l p en mv op)) (hp : p ≤ 6000) :
    Calls Tryz.prog 105 #[.pointer (some ⟨R, 0, none⟩)] w fun e w' => e = .returned (.tuple #[]) ∧ RD w' R ta tc l (p + 1) en mv op ∧ w.grownBy w' (some R) := by
  obtain ⟨c0, c1, c2, f1⟩ := hR.out.cells
  go_enter Tryz.func105, Tryz.ntmps105
  go_wp2
  go_end0
  exact ⟨rfl, hR.out.set1 (by go_num), grown_at _ _ _ _⟩

set_option maxRecDepth 100000 in
set_option maxHeartbeats 400000 in
theorem cfail_any (B R : Nat) (ta : Option Addr) (tc : Nat) (l : List Lx.Tk) (p en : Nat) (mv : Value) (op er : Int) (t : Lx.Tk) (w : World) (hR : Hid (RD w R ta tc l p en mv op)) (hT : Hid (TkIn B w l ta)) (hB : B ≤ R) (hp : p ≤ l.length) (ht : Hid (t = pk l p en)) :
    Calls Tryz.prog 67 #[.pointer (some ⟨R, 0, none⟩), .int .i64 er] w fun e w' => e = .panicked [fltE er t.pos] ∧ Below w.heap.size w w' := by
  have hf := tok_pos t.kind t.num t.pos t.text
  go_enter Tryz.func67, Tryz.ntmps67
  go_wp2_with fail
  refine (peek_any B R ta tc l p en mv op t _ hR hT hB hp ht).mono ?_
  rintro e w1 ⟨rfl, hb1⟩
  have HB1 : Hid (Below w.heap.size w w1) := hb1
  clear hb1
  go_wp2_with fail
  refine (throw_any t.pos er _).mono ?_
  rintro e w2 ⟨rfl, _, rfl⟩
  go_wp2
  exact ⟨rfl, rfl, HB1.out⟩

/-- What a try to take a text comes to. -/
def tk (l : List Lx.Tk) (p : Nat) (s : ByteArray) : Bool := match l[p]? with
  | some t => decide (t.text = s)
  | none => false

theorem tk_end {l : List Lx.Tk} {p : Nat} {s : ByteArray} (h : p = l.length) : tk l p s = false := by
  unfold tk
  rw [List.getElem?_eq_none (by omega)]

theorem tk_at {l : List Lx.Tk} {p : Nat} {s : ByteArray} {t : Lx.Tk} (h : l[p]? = some t) : tk l p s = decide (t.text = s) := by
  unfold tk
  rw [h]

theorem beq_text {a b : ByteArray} {d : Bool} (h : d = decide (a = b)) : (a.toList == b.toList) = d := by
  rw [h, toList_eq, toList_eq, Bool.eq_iff_iff]
  simp only [beq_iff_eq, decide_eq_true_eq]
  constructor
  · intro e
    cases a; cases b
    simp only [ByteArray.mk.injEq] at *
    exact Array.toList_inj.1 e
  · intro e; rw [e]

set_option maxRecDepth 100000 in
set_option maxHeartbeats 1000000 in
theorem take_any (B R : Nat) (ta : Option Addr) (tc : Nat) (l : List Lx.Tk) (p en : Nat) (mv : Value) (op : Int) (s : ByteArray) (b : Bool) (q : Nat) (w : World) (hR : Hid (RD w R ta tc l p en mv op)) (hT : Hid (TkIn B w l ta)) (hB : B ≤ R) (hp : p ≤ l.length) (hb : Hid (b = tk l p s)) (hq : Hid (q = if b then p + 1 else p)) :
    Calls Tryz.prog 104 #[.pointer (some ⟨R, 0, none⟩), .string s] w fun e w' => e = .returned (.bool b) ∧ RD w' R ta tc l q en mv op ∧ w.grownBy w' (some R) := by
  have hl6 := hT.out.1
  have hRl := hR.out.lt
  by_cases he : p = l.length
  · have HBf : Hid (b = false) := by rw [hb.out]; exact tk_end he
    go_enter Tryz.func104, Tryz.ntmps104
    go_wp2_with fail
    refine (atEnd_any R ta tc l p en mv op true _ hR (by rw [decide_eq_true he]; rfl)).mono ?_
    rintro e w1 ⟨rfl, hb1⟩
    have HB1 : Hid (Below w.heap.size w w1) := hb1
    clear hb1
    go_wp2
    go_ret
    refine ⟨by rw [HBf.out]; rfl, ?_, ⟨HB1.out.os, HB1.out.tape, HB1.out.output, HB1.out.size, fun k hk _ => HB1.out.block k hk⟩⟩
    have e : q = p := by rw [hq.out, HBf.out]; rfl
    rw [e]
    exact hR.out.on HB1.out
  · obtain ⟨x, hx⟩ : ∃ x, l[p]? = some x := ⟨_, List.getElem?_eq_getElem (by omega)⟩
    have HBx : Hid (b = decide (x.text = s)) := by rw [hb.out]; exact tk_at hx
    have HPk : Hid (x = pk l p en) := by unfold Hid pk; rw [hx]; rfl
    have e1 : (x.text.toList == s.toList) = b := beq_text HBx.out
    clear hx
    go_enter Tryz.func104, Tryz.ntmps104
    go_wp2_with fail
    refine (atEnd_any R ta tc l p en mv op false _ hR (by rw [decide_eq_false he]; rfl)).mono ?_
    rintro e w1 ⟨rfl, hb1⟩
    have HB1 : Hid (Below w.heap.size w w1) := hb1
    have HR1 : Hid (RD w1 R ta tc l p en mv op) := hR.out.on hb1
    have HT1 : Hid (TkIn B w1 l ta) := hT.out.on (below_same hb1 (by omega))
    clear hb1
    go_wp2_with fail
    refine (peek_any B R ta tc l p en mv op x _ HR1 HT1 hB hp HPk).mono ?_
    rintro e w2 ⟨rfl, hb2⟩
    have HB2 : Hid (Below w.heap.size w w2) := HB1.out.trans (hb2.mono HB1.out.size)
    have HR2 : Hid (RD w2 R ta tc l p en mv op) := HR1.out.on hb2
    have hf := tok_text x.kind x.num x.pos x.text
    clear hb2
    cases b with
    | false =>
      go_wp2
      go_ret
      refine ⟨rfl, ?_, ⟨HB2.out.os, HB2.out.tape, HB2.out.output, HB2.out.size, fun k hk _ => HB2.out.block k hk⟩⟩
      have e : q = p := hq.out
      rw [e]
      exact HR2.out
    | true =>
      go_wp2_with fail
      refine (skip_any R ta tc l p en mv op _ HR2 (by omega)).mono ?_
      rintro e w3 ⟨rfl, hr3, hg3⟩
      have HR3 : Hid (RD w3 R ta tc l (p + 1) en mv op) := hr3
      have HG3 : Hid (w.grownBy w3 (some R)) := ⟨hg3.os.trans HB2.out.os, hg3.tape.trans HB2.out.tape, hg3.output.trans HB2.out.output, Nat.le_trans HB2.out.size hg3.size, fun k hk hn => (hg3.block k (by have := HB2.out.size; omega) hn).trans (HB2.out.block k hk)⟩
      clear hr3 hg3
      go_wp2
      go_ret
      have e : q = p + 1 := hq.out
      rw [e]
      exact ⟨rfl, HR3.out, HG3.out⟩

end Go.Proofs.YtlnikpcoejpknaaGreatDoor


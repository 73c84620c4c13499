/- The walks of cutter and of Tokens. -/
import Derived.Test.YtlnikpcoejpknaaDoorM6
import Derived.Deep.LoopGhost
import Derived.Deep.AppendLies
import Derived.Test.YtlnikpcoejpknaaDoorM2
import Derived.Recover
namespace Go.Proofs.YtlnikpcoejpknaaDoor
open Go.RowKit

set_option maxHeartbeats 400000 in
theorem cutter_any (s : ByteArray) (w : World) :
    Calls Tryd.prog 47 #[.string s] w fun e w' => e = .returned (.func (.func 69) #[] #[.pointer (some ⟨w.heap.size + 1, 0, none⟩), .pointer (some ⟨w.heap.size, 0, none⟩)]) ∧
      (w.alloc (.cells #[.string s] 9)).alloc (.cells #[.int .i64 0] 3) = w' := by
  go_enter Tryd.func47, Tryd.ntmps47
  go_wp2
  go_ret
  exact ⟨rfl, rfl⟩

theorem Tryd.info_token : (Tryd.prog.info? 103).map (fun i => (i.zero, i.size, i.bytes)) = some (some (.agg #[.int .i64 0, .string ⟨#[]⟩, .int .i64 0, .int .i64 0]), 4, 40) := by kernel_rfl

set_option maxHeartbeats 400000 in
theorem tokens_much (s : ByteArray) (w : World) (hs : s.size ≤ maxLen) (hm : 6000 < s.size) :
    Calls Tryd.prog 23 #[.string s] w fun e w' => e = .returned (.tuple #[.slice none 0 0, .agg #[.int .i64 4, .int .i64 0]]) ∧ Below w.heap.size w w' := by
  unfold maxLen at hs
  go_enter Tryd.func23, Tryd.ntmps23
  go_wp2
  refine bodyPost_ret (v := .tuple #[.slice none 0 0, .agg #[.int .i64 4, .int .i64 0]]) (by simp [results, Tryd.results23, go_sem]) rfl ⟨rfl, ?_⟩
  exact (Below.refl _ w).alloc (Nat.le_refl _) _

/-- What holds at the head of Tokens' loop: fuel f is left. -/
def TokRel (s : ByteArray) (w : World) (f : Nat) (v : Value) (wr : World) : Prop :=
  ∃ (a : Nat) (done : List Lx.Tk), a ≤ s.size ∧ s.size - a < f ∧ done.length ≤ a ∧ wr.heap[w.heap.size + 1 + 1]? = some (.cells #[.int .i64 a] 3 (0, 0)) ∧ wr.heap[w.heap.size + 1]? = some (.cells #[.string s] 9 (0, 0)) ∧
    wr.heap[w.heap.size]? = some Z2 ∧ wr.ownsRow (w.heap.size + 3) 103 4 v done.length (Lx.cellsOf done) ∧ Below w.heap.size w wr ∧
    (Lx.lexFrom (s.size + 1) s 0).1 = done ++ (Lx.lexFrom f s a).1 ∧ (Lx.lexFrom (s.size + 1) s 0).2 = (Lx.lexFrom f s a).2

theorem tokRel_start (s : ByteArray) (w : World) : TokRel s w (s.size + 1) (.slice none 0 0) (((w.alloc (.cells #[.int .i64 0, .int .i64 0] 25)).alloc (.cells #[.string s] 9)).alloc (.cells #[.int .i64 0] 3)) := by
  refine ⟨0, [], Nat.zero_le _, by omega, by simp, ?_, ?_, ?_, World.ownsRow_nil _ _ _ _, ?_, by simp, rfl⟩
  · have := heap_alloc_new ((w.alloc (.cells #[.int .i64 0, .int .i64 0] 25)).alloc (.cells #[.string s] 9)) (.cells #[.int .i64 0] 3)
    simpa using this
  · rw [Below.heap_alloc _ _ _ (by simp)]
    have := heap_alloc_new (w.alloc (.cells #[.int .i64 0, .int .i64 0] 25)) (.cells #[.string s] 9)
    simpa using this
  · rw [Below.heap_alloc _ _ _ (by simp; omega), Below.heap_alloc _ _ _ (by simp)]
    exact heap_alloc_new w _
  · exact (((Below.refl _ w).alloc (Nat.le_refl _) _).alloc (by simp) _).alloc (by simp; omega) _

theorem own_base {w : World} {B C e size n : Nat} {v : Value} {xs : List Value} (h : w.ownsRow C e size v n xs) (hB : B ≤ C) : w.ownsRow B e size v n xs := by
  refine ⟨h.1, ?_⟩
  rcases h.2 with h2 | ⟨g, cap, cur, hv, hg, r⟩
  · exact .inl h2
  · exact .inr ⟨g, cap, cur, hv, Nat.le_trans hB hg, r⟩

theorem own_ne {w : World} {C e size n A : Nat} {v : Value} {xs : List Value} (h : w.ownsRow C e size v n xs) (hA : A < C) : v.ownBlock = none ∨ v.ownBlock ≠ some A := by
  cases hv : v.ownBlock with
  | none => exact .inl rfl
  | some k => exact .inr (fun e => by cases e; have := (h.lt _ hv).1; omega)

/-- What the rest of Tokens needs of a world: the tokens gathered, and that what was there is there. -/
def TW (w : World) (v : Value) (l : List Lx.Tk) (X : World) : Prop := X.ownsRow (w.heap.size + 3) 103 4 v l.length (Lx.cellsOf l) ∧ Below w.heap.size w X ∧ w.heap.size + 3 ≤ X.heap.size

theorem TW.ga {w X Y : World} {v : Value} {l : List Lx.Tk} {p : Nat} (h : TW w v l X) (hg : GA X (w.heap.size + 1 + 1) p Y) : TW w v l Y :=
  ⟨h.1.kept hg.1 (own_ne h.1 (by omega)), h.2.1.grown hg.1 (by have := h.2.2; omega) (by intro k hk; cases hk; omega), by have := hg.1.size; have := h.2.2; omega⟩
theorem TW.alloc {w X : World} {v : Value} {l : List Lx.Tk} (h : TW w v l X) (o : Obj) : TW w v l (X.alloc o) :=
  ⟨h.1.alloc o, h.2.1.alloc (by have := h.2.2; omega) o, by have := h.2.2; simp; omega⟩
theorem TW.set {w X : World} {v : Value} {l : List Lx.Tk} {o : Nat} (h : TW w v l X) (u : Value) : TW w v l (X.setCell ⟨w.heap.size, o, none⟩ u) :=
  ⟨ownsRow_setCell_below h.1 (by show w.heap.size < w.heap.size + 3; omega) u, below_set h.2.1 (Nat.le_refl _) u, by have := h.2.2; simpa [World.setCell] using this⟩
theorem TW.drew {w X : World} {v : Value} {l : List Lx.Tk} (h : TW w v l X) : TW w v l X.drew := ⟨h.1, h.2.1.drew, h.2.2⟩

theorem lexB_few {s : ByteArray} (hm : s.size ≤ 6000) (h0 : (Lx.lexFrom (s.size + 1) s 0).2.1 = 0) : Lx.lexB s = Lx.lexFrom (s.size + 1) s 0 := by
  unfold Lx.lexB; rw [if_neg (by omega), if_pos h0]
theorem lexB_bad {s : ByteArray} (hm : s.size ≤ 6000) (h0 : ¬ (Lx.lexFrom (s.size + 1) s 0).2.1 = 0) : Lx.lexB s = ([], (Lx.lexFrom (s.size + 1) s 0).2) := by
  unfold Lx.lexB; rw [if_neg (by omega), if_neg h0]

theorem three_more {w : World} {A : Nat} {o : Obj} (h : w.heap[A]? = some o) (o1 o2 o3 : Obj) : (((w.alloc o1).alloc o2).alloc o3).heap[A]? = some o := by
  have := lt_of_block h
  rw [Below.heap_alloc _ _ _ (by simp; omega)]; exact two_more h o1 o2

theorem grown_far {w w' : World} {A C e size n : Nat} {v : Value} {xs : List Value} {o : Obj} (hown : w.ownsRow C e size v n xs) (hg : w.grownBy w' v.ownBlock) (hA : A < C) (h : w.heap[A]? = some o) : w'.heap[A]? = some o := by
  rw [hg.block A (lt_of_block h) ?_]
  · exact h
  · rcases own_ne hown hA with h1 | h1
    · rw [h1]; simp
    · exact fun e => h1 e.symm

theorem tokRel_next {s : ByteArray} {w wr w2 w3 : World} {f a p K N M : Nat} {u4 v : Value} {done : List Lx.Tk} {o1 o2 o3 : Obj}
    (hd : done.length ≤ a) (hap : a ≤ p) (hN : 0 < N) (hle : p + N ≤ s.size) (hf : s.size - a < f + 1)
    (hS : wr.heap[w.heap.size + 1]? = some (.cells #[.string s] 9 (0, 0))) (hR : wr.heap[w.heap.size]? = some Z2)
    (hga : GA wr (w.heap.size + 1 + 1) (p + N) w2) (htw : TW w u4 done w2)
    (hown : w3.ownsRow (w.heap.size + 3) 103 4 v (done.length + 1) (Lx.cellsOf done ++ [.int .i64 K, .string (s.extract p (p + N)), .int .i64 M, .int .i64 p]))
    (hg : (((w2.alloc o1).alloc o2).alloc o3).grownBy w3 u4.ownBlock)
    (h1 : (Lx.lexFrom (s.size + 1) s 0).1 = (done ++ [⟨K, s.extract p (p + N), M, p⟩]) ++ (Lx.lexFrom f s (p + N)).1) (h2 : (Lx.lexFrom (s.size + 1) s 0).2 = (Lx.lexFrom f s (p + N)).2) : TokRel s w f v w3 := by
  have hlS := lt_of_block hS
  have ho := (((htw.alloc o1).alloc o2).alloc o3)
  refine ⟨p + N, done ++ [⟨K, s.extract p (p + N), M, p⟩], hle, by omega, by simp; omega, ?_, ?_, ?_, ?_, ?_, h1, h2⟩
  · exact grown_far ho.1 hg (by omega) (three_more hga.2 o1 o2 o3)
  · exact grown_far ho.1 hg (by omega) (three_more ((hga.1.block _ hlS (by simp)).trans hS) o1 o2 o3)
  · exact grown_far ho.1 hg (by omega) (three_more ((hga.1.block _ (by omega) (by simp; omega)).trans hR) o1 o2 o3)
  · have e : (done ++ [(⟨K, s.extract p (p + N), M, p⟩ : Lx.Tk)]).length = done.length + 1 := by simp
    rw [e, Lx.cellsOf_snoc]; exact hown
  · exact ho.2.1.grown hg (by have := ho.2.2; omega) (by intro k hk; have := (ho.1.lt k hk).1; omega)

theorem one_cells (K M p : Nat) (t : ByteArray) : ∀ u ∈ [Value.int .i64 (K : Int), .string t, .int .i64 (M : Int), .int .i64 (p : Int)], u.oneCell' = true := by
  intro u hu
  simp only [List.mem_cons, List.not_mem_nil, or_false] at hu
  rcases hu with rfl | rfl | rfl | rfl <;> rfl

set_option maxHeartbeats 1000000 in
theorem tokens_few (s : ByteArray) (w : World) (hm : s.size ≤ 6000) :
    Calls Tryd.prog 23 #[.string s] w fun e w' => ∃ v, e = .returned (.tuple #[v, .agg #[.int .i64 (Lx.lexB s).2.1, .int .i64 (Lx.lexB s).2.2]]) ∧ w'.ownsRow w.heap.size 103 4 v (Lx.lexB s).1.length (Lx.cellsOf (Lx.lexB s).1) ∧ Below w.heap.size w w' := by
  have hdec : decide ((6000 : Int) < (s.size : Int)) = false := by simp; omega
  obtain ⟨i0, hi, hz0, hz1, hz2⟩ := info_parts Tryd.info_token
  go_enter Tryd.func23, Tryd.ntmps23
  go_wp2_with fail
  refine (cutter_any _ _).mono ?_
  rintro e w1 ⟨rfl, rfl⟩
  go_wp2
  go_loopg [4] (s.size + 1) (fun f v wr => TokRel s w f v wr)
  case atStart => exact tokRel_start s w
  case round =>
    obtain ⟨a, done, ha, hf, hd, hA, hS, hR, hown, hbel, hl1, hl2⟩ := hrel
    obtain ⟨f, rfl⟩ : ∃ f, gk = f + 1 := ⟨gk - 1, by omega⟩
    have hH : w.heap.size + 1 + 1 < wr.heap.size := lt_of_block hA
    obtain ⟨p, hp⟩ : ∃ p, Lx.place s a = p := ⟨_, rfl⟩
    have hple : p ≤ s.size := hp ▸ Lx.place_le s a ha
    have hc := cut_any s a (Lx.gapL false (s.data.toList.drop a)) p _ _ wr hm hA hS rfl (by rw [← hp]; unfold Lx.place; omega) hp hple
    have HL1 : Hid ((Lx.lexFrom (s.size + 1) s 0).1 = done ++ (Lx.lexFrom (f + 1) s a).1) := hl1
    have HL2 : Hid ((Lx.lexFrom (s.size + 1) s 0).2 = (Lx.lexFrom (f + 1) s a).2) := hl2
    have HPl : Hid (Lx.place s a = p) := hp
    have HA : Hid (wr.heap[w.heap.size + 1 + 1]? = some (.cells #[.int .i64 a] 3 (0, 0))) := hA
    have HS : Hid (wr.heap[w.heap.size + 1]? = some (.cells #[.string s] 9 (0, 0))) := hS
    have HR : Hid (wr.heap[w.heap.size]? = some Z2) := hR
    have HB : Hid (Below w.heap.size w wr) := hbel
    have HO : Hid (wr.ownsRow (w.heap.size + 3) 103 4 u4 done.length (Lx.cellsOf done)) := hown
    clear hl1 hl2 hp hA hS hR hbel hown
    by_cases he : s.size ≤ p
    · rw [cutV_end he] at hc
      have HLX : Hid (Lx.lexB s = (done, 0, 0)) := by
        have e1 := Lx.lexFrom_end (f := f) HPl.out he
        have h1 := HL1.out; have h2 := HL2.out
        rw [e1] at h1 h2
        rw [lexB_few hm (by rw [h2])]
        exact Prod.ext (by simpa using h1) h2
      go_wp2_with fail
      refine hc.mono ?_
      rintro e w2 ⟨rfl, hga⟩
      have hR2 := (hga.1.block w.heap.size (by omega) (by simp; omega)).trans HR.out
      obtain ⟨t0, t1, y0, y1⟩ := two_cell hR2
      have hz := lt_of_block hR2
      clear hR2 hc
      have HGA : Hid (GA wr (w.heap.size + 1 + 1) p w2) := hga
      clear hga
      go_wp2
      refine bodyPost_ret (v := .tuple #[u4, .agg #[.int .i64 0, .int .i64 0]]) (by simp [results, Tryd.results23, go_sem, t0, t1, hz]) rfl ⟨u4, by rw [HLX.out]; rfl, ?_⟩
      have hT : TW w u4 done wr := ⟨HO.out, HB.out, by omega⟩
      have hT2 := ((((hT.ga HGA.out).set (o := 0) (.int .i64 0)).set (o := 1) (.int .i64 0)).alloc (.cells #[.int .i64 0, .string ⟨#[]⟩, .int .i64 0, .int .i64 0] 103)).alloc (.cells #[.int .i64 0, .int .i64 0] 25)
      rw [HLX.out]
      exact ⟨own_base hT2.1 (by omega), hT2.2.1⟩
    · obtain ⟨E, K, N, M, hF⟩ : ∃ E K N M, Lx.firstL (s.data.toList.drop p) = (E, K, N, M) := ⟨_, _, _, _, rfl⟩
      have hlen : N ≤ s.size - p := by simpa using Lx.firstL_len hF
      by_cases hE : E = 0
      · subst hE
        rw [cutV_tok he hF] at hc
        obtain ⟨hN, hK⟩ := Lx.firstL_pos hF
        have e1 := Lx.lexFrom_tok (f := f) HPl.out he hF
        have HX1 : Hid ((Lx.lexFrom (s.size + 1) s 0).1 = (done ++ [⟨K, s.extract p (p + N), M, p⟩]) ++ (Lx.lexFrom f s (p + N)).1) := by
          have h1 := HL1.out
          rw [e1] at h1
          unfold Hid; rw [h1]; simp
        have HX2 : Hid ((Lx.lexFrom (s.size + 1) s 0).2 = (Lx.lexFrom f s (p + N)).2) := by
          have h2 := HL2.out
          rw [e1] at h2
          exact h2
        have hap : a ≤ p := by have := HPl.out; unfold Lx.place at this; omega
        have hK0 : ((K : Int) == 0) = false := by simp; omega
        clear hF e1
        go_wp2_with fail
        refine hc.mono ?_
        rintro e w2 ⟨rfl, hga⟩
        have hR2 := (hga.1.block w.heap.size (by omega) (by simp; omega)).trans HR.out
        have hz := lt_of_block hR2
        have HGA : Hid (GA wr (w.heap.size + 1 + 1) (p + N) w2) := hga
        have HTW : Hid (TW w u4 done w2) := TW.ga ⟨HO.out, HB.out, by omega⟩ hga
        have hlo : done.length ≤ 6000 := by omega
        have HW3 : Hid ((((w2.alloc (.cells #[.int .i64 K, .string (s.extract p (p + N)), .int .i64 M, .int .i64 p] 103)).alloc (.cells #[.int .i64 0, .int .i64 0] 25)).alloc (.cells #[.int .i64 K, .string (s.extract p (p + N)), .int .i64 M, .int .i64 p] 103)).ownsRow (w.heap.size + 3) 103 4 u4 done.length (Lx.cellsOf done)) := (((HTW.out.alloc _).alloc _).alloc _).1
        have HN3 : Hid (∀ j u, [Value.int .i64 (K : Int), .string (s.extract p (p + N)), .int .i64 (M : Int), .int .i64 (p : Int)][j]? = some u → (((w2.alloc (.cells #[.int .i64 K, .string (s.extract p (p + N)), .int .i64 M, .int .i64 p] 103)).alloc (.cells #[.int .i64 0, .int .i64 0] 25)).alloc (.cells #[.int .i64 K, .string (s.extract p (p + N)), .int .i64 M, .int .i64 p] 103)).cell? ((⟨w2.heap.size + 1 + 1, 0, none⟩ : Addr).add j) = some u) := by
          have := World.news_of_block (heap_alloc_new ((w2.alloc (.cells #[.int .i64 K, .string (s.extract p (p + N)), .int .i64 M, .int .i64 p] 103)).alloc (.cells #[.int .i64 0, .int .i64 0] 25)) (.cells #[.int .i64 K, .string (s.extract p (p + N)), .int .i64 M, .int .i64 p] 103))
          unfold Hid
          simpa using this
        have hb3 : w.heap.size + 3 ≤ w2.heap.size := HTW.out.2.2
        clear hR2 hc hga
        go_wp2_with (at_builtin; refine wpList_append_own _ rfl _ _ 68 rfl (w.heap.size + 3) 103 i0 _ 4 40 Tryd.underlying68 hi hz0 hz1 hz2 rfl (by decide) _ _ _ rfl HW3.out ⟨w2.heap.size + 1 + 1, 0, none⟩ 1 1 [.int .i64 K, .string (s.extract p (p + N)), .int .i64 M, .int .i64 p] rfl rfl HN3.out (one_cells K M p _) ?c3 ?c4 ?c5 ?_)
        case c3 => unfold maxLen; omega
        case c4 => omega
        case c5 => simp; omega
        · intro v' w3 hown' hgrow _
          have HO3 : Hid (w3.ownsRow (w.heap.size + 3) 103 4 v' (done.length + 1) (Lx.cellsOf done ++ [.int .i64 K, .string (s.extract p (p + N)), .int .i64 M, .int .i64 p])) := hown'
          clear hown'
          go_wp2
          go_roundg f
          case measure => omega
          case rel => exact tokRel_next hd hap hN (by omega) hf HS.out HR.out HGA.out HTW.out HO3.out hgrow HX1.out HX2.out
      · rw [cutV_err he hF hE] at hc
        have HLX : Hid (Lx.lexB s = ([], E, p)) := by
          have e1 := Lx.lexFrom_err (f := f) HPl.out he hF hE
          have h2 := HL2.out
          rw [e1] at h2
          rw [lexB_bad hm (by rw [h2]; exact hE), h2]
          rfl
        have hE2 : ((E : Int) == 0) = false := by simp; omega
        have hE3 : ((E : Int) != 0) = true := by simp; omega
        clear hF
        go_wp2_with fail
        refine hc.mono ?_
        rintro e w2 ⟨rfl, hga⟩
        have hR2 := (hga.1.block w.heap.size (by omega) (by simp; omega)).trans HR.out
        obtain ⟨t0, t1, y0, y1⟩ := two_cell hR2
        have hz := lt_of_block hR2
        have HTW : Hid (TW w u4 done w2) := TW.ga ⟨HO.out, HB.out, by omega⟩ hga
        clear hR2 hc hga
        go_wp2
        go_region
        all_goals
          go_wp2
          refine bodyPost_ret (v := .tuple #[.slice none 0 0, .agg #[.int .i64 E, .int .i64 p]]) (by simp [results, Tryd.results23, go_sem, t0, t1, hz]) rfl ⟨.slice none 0 0, by rw [HLX.out], ?_⟩
          have hT2 := (((((HTW.out).set (o := 0) (.int .i64 E)).set (o := 1) (.int .i64 p)).alloc (.cells #[.int .i64 0, .string ⟨#[]⟩, .int .i64 0, .int .i64 0] 103)).alloc (.cells #[.int .i64 E, .int .i64 p] 25)).drew
          rw [HLX.out]
          exact ⟨World.ownsRow_nil _ _ _ _, hT2.2.1⟩

/-- Tokens, whatever the text. -/
theorem tokens_any (s : ByteArray) (w : World) (hs : s.size ≤ maxLen) :
    Calls Tryd.prog 23 #[.string s] w fun e w' => ∃ v, e = .returned (.tuple #[v, .agg #[.int .i64 (Lx.lexB s).2.1, .int .i64 (Lx.lexB s).2.2]]) ∧ w'.ownsRow w.heap.size 103 4 v (Lx.lexB s).1.length (Lx.cellsOf (Lx.lexB s).1) ∧ Below w.heap.size w w' := by
  by_cases hm : 6000 < s.size
  · refine (tokens_much s w hs hm).mono ?_
    rintro e w' ⟨rfl, hb⟩
    have e : Lx.lexB s = ([], 4, 0) := by unfold Lx.lexB; rw [if_pos hm]
    rw [e]
    exact ⟨.slice none 0 0, rfl, World.ownsRow_nil _ _ _ _, hb⟩
  · exact tokens_few s w (by omega)

end Go.Proofs.YtlnikpcoejpknaaDoor

/- The walks of the checker's small methods. -/
namespace Go.Proofs.YtlnikpcoejpknaaDoor
open Go.RowKit

theorem fate0_ok {num er : Int} {w w' : World} (hg : w.grownBy w' none) (h : er = 0) : Fate0 num er w (.returned (.tuple #[])) w' := ⟨hg, by rw [if_pos h]⟩
theorem fate0_bad {num er k : Int} {w w' : World} (hg : w.grownBy w' none) (h : er = k) (hk : k ≠ 0) : Fate0 num er w (.panicked [fltE k num]) w' := ⟨hg, by rw [h, if_neg hk]⟩
theorem fate0_not {num er : Int} {w w' : World} {e : Ending} (h : Fate0 num er w e w') (h0 : er = 0) : e = .returned (.tuple #[]) := by rw [h.2, if_pos h0]
theorem fate0_err {num er : Int} {w w' : World} {e : Ending} (h : Fate0 num er w e w') (h0 : er ≠ 0) : e = .panicked [fltE er num] := by rw [h.2, if_neg h0]

set_option maxHeartbeats 400000 in
theorem throw_any (num er : Int) (w : World) :
    Calls Tryd.prog 62 #[.int .i64 er, .int .i64 num] w fun e w' => e = .panicked [fltE er num] ∧ Below w.heap.size w w' ∧ w' = w := by
  go_enter Tryd.func62, Tryd.ntmps62
  go_wp2
  exact ⟨rfl, rfl, Below.refl _ _, rfl⟩

set_option maxHeartbeats 400000 in
theorem fail_any (C n : Nat) (num er : Int) (w : World) (hC : CK w C num n) :
    Calls Tryd.prog 36 #[.pointer (some ⟨C, 0, none⟩), .int .i64 er] w fun e w' => e = .panicked [fltE er num] ∧ w' = w := by
  obtain ⟨c0, c1, f0, f1⟩ := hC.cells
  clear hC
  go_enter Tryd.func36, Tryd.ntmps36
  go_wp2_with fail
  refine (throw_any num er _).mono ?_
  rintro e w1 ⟨rfl, _, rfl⟩
  go_wp2
  exact ⟨rfl, rfl, rfl⟩

set_option maxHeartbeats 400000 in
theorem atMost_any (C n : Nat) (num k most er : Int) (w : World) (hC : Hid (CK w C num n)) (he : Hid (er = if most < k then 5 else 0)) :
    Calls Tryd.prog 20 #[.pointer (some ⟨C, 0, none⟩), .int .i64 k, .int .i64 most] w fun e w' => Fate0 num er w e w' := by
  by_cases h : most < k
  · have HE : Hid (er = 5) := by rw [if_pos h] at he; exact he
    go_enter Tryd.func20, Tryd.ntmps20
    go_wp2_with fail
    refine (fail_any C n num 5 _ hC.out).mono ?_
    rintro e w1 ⟨rfl, rfl⟩
    go_wp2
    exact ⟨rfl, fate0_bad (grown_refl _ _) HE.out (by decide)⟩
  · have HE : Hid (er = 0) := by rw [if_neg h] at he; exact he
    go_enter Tryd.func20, Tryd.ntmps20
    go_wp2
    go_end0
    exact fate0_ok (grown_refl _ _) HE.out

set_option maxHeartbeats 400000 in
theorem kind_any (C n : Nat) (num k most er : Int) (w : World) (hC : Hid (CK w C num n)) (he : Hid (er = if k < 1 ∨ most < k then 1 else 0)) :
    Calls Tryd.prog 63 #[.pointer (some ⟨C, 0, none⟩), .int .i64 k, .int .i64 most] w fun e w' => Fate0 num er w e w' := by
  by_cases h : k < 1
  · have HE : Hid (er = 1) := by rw [if_pos (.inl h)] at he; exact he
    go_enter Tryd.func63, Tryd.ntmps63
    go_wp2_with fail
    refine (fail_any C n num 1 _ hC.out).mono ?_
    rintro e w1 ⟨rfl, rfl⟩
    go_wp2
    exact ⟨rfl, fate0_bad (grown_refl _ _) HE.out (by decide)⟩
  · by_cases h2 : most < k
    · have HE : Hid (er = 1) := by rw [if_pos (.inr h2)] at he; exact he
      go_enter Tryd.func63, Tryd.ntmps63
      go_wp2_with fail
      refine (fail_any C n num 1 _ hC.out).mono ?_
      rintro e w1 ⟨rfl, rfl⟩
      go_wp2
      exact ⟨rfl, fate0_bad (grown_refl _ _) HE.out (by decide)⟩
    · have HE : Hid (er = 0) := by rw [if_neg (by omega)] at he; exact he
      go_enter Tryd.func63, Tryd.ntmps63
      go_wp2
      go_end0
      exact fate0_ok (grown_refl _ _) HE.out

set_option maxHeartbeats 400000 in
theorem within_any (C n : Nat) (num k least most er : Int) (w : World) (hC : Hid (CK w C num n)) (he : Hid (er = if k < least ∨ most < k then 3 else 0)) :
    Calls Tryd.prog 41 #[.pointer (some ⟨C, 0, none⟩), .int .i64 k, .int .i64 least, .int .i64 most] w fun e w' => Fate0 num er w e w' := by
  by_cases h : k < least
  · have HE : Hid (er = 3) := by rw [if_pos (.inl h)] at he; exact he
    go_enter Tryd.func41, Tryd.ntmps41
    go_wp2_with fail
    refine (fail_any C n num 3 _ hC.out).mono ?_
    rintro e w1 ⟨rfl, rfl⟩
    go_wp2
    exact ⟨rfl, fate0_bad (grown_refl _ _) HE.out (by decide)⟩
  · by_cases h2 : most < k
    · have HE : Hid (er = 3) := by rw [if_pos (.inr h2)] at he; exact he
      go_enter Tryd.func41, Tryd.ntmps41
      go_wp2_with fail
      refine (fail_any C n num 3 _ hC.out).mono ?_
      rintro e w1 ⟨rfl, rfl⟩
      go_wp2
      exact ⟨rfl, fate0_bad (grown_refl _ _) HE.out (by decide)⟩
    · have HE : Hid (er = 0) := by rw [if_neg (by omega)] at he; exact he
      go_enter Tryd.func41, Tryd.ntmps41
      go_wp2
      go_end0
      exact fate0_ok (grown_refl _ _) HE.out

set_option maxHeartbeats 400000 in
theorem cname_any (C n : Nat) (num er : Int) (s : ByteArray) (w : World) (hC : Hid (CK w C num n)) (hs : s.size ≤ maxLen) (he : Hid (er = if Sy.nm s = false then 7 else 0)) :
    Calls Tryd.prog 38 #[.pointer (some ⟨C, 0, none⟩), .string s] w fun e w' => Fate0 num er w e w' := by
  cases h : Sy.nm s
  · have HE : Hid (er = 7) := by rw [if_pos h] at he; exact he
    have HN : Hid (Lx.named s.toList = false) := h
    clear h
    go_enter Tryd.func38, Tryd.ntmps38
    go_wp2_with fail
    refine (named_any s _ hs).mono ?_
    rintro e w1 ⟨rfl, rfl⟩
    rw [HN.out]
    go_wp2_with fail
    refine (fail_any C n num 7 _ hC.out).mono ?_
    rintro e w1 ⟨rfl, rfl⟩
    go_wp2
    exact ⟨rfl, fate0_bad (grown_refl _ _) HE.out (by decide)⟩
  · have HE : Hid (er = 0) := by rw [if_neg (by rw [h]; decide)] at he; exact he
    have HN : Hid (Lx.named s.toList = true) := h
    clear h
    go_enter Tryd.func38, Tryd.ntmps38
    go_wp2_with fail
    refine (named_any s _ hs).mono ?_
    rintro e w1 ⟨rfl, rfl⟩
    rw [HN.out]
    go_wp2
    go_end0
    exact fate0_ok (grown_refl _ _) HE.out

end Go.Proofs.YtlnikpcoejpknaaDoor


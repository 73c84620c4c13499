/- The walk of image.Bytes. -/
import Derived.Test.YtnfkfgpnojdfoaaIm4
import Derived.Test.YtnfkfgpnojdfoaaIm5
import Derived.Test.YtnfkfgpnojdfoaaIm6
namespace Go.Proofs.Ytnfkfgpnojdfoaa
open Go.RowKit

/-- A row of one's own, to be read. -/
theorem own_bin {w : World} {B n : Nat} {v : Value} {xs : List Nat} (h : w.ownsRow B 5 1 v n (bts xs)) (hx : ∀ c ∈ xs, c < 256) : ∃ a c, v = .slice a xs.length c ∧ BIn w xs a := by
  have hl : xs.length = n := by have := h.1; simpa using this
  subst hl
  rcases h.2 with ⟨rfl, h0⟩ | ⟨g, cap, cur, rfl, hg, hh, h1, h2, h3, h4⟩
  · exact ⟨none, 0, by rw [h0], fun i c hc => by rw [List.eq_nil_of_length_eq_zero h0] at hc; simp at hc⟩
  · refine ⟨_, _, rfl, fun i c hc => ⟨hx c (List.mem_of_getElem? hc), g, 0, rfl, ?_⟩⟩
    have : (bts xs)[i]? = some (.int .u8 c) := by simp [hc]
    rw [← h4, List.getElem?_take] at this
    split at this
    · simp [World.cell?, hh]; simpa using this
    · simp at this

set_option maxHeartbeats 400000 in
theorem bytes1_any (B S N : Nat) (m : Im.Md) (ab au : Option Addr) (cb cu : Nat) (w : World) (hN : w.heap[N]? = some (mdO m ab au cb cu)) (hin : Hid (ModIn B w m ab au)) (h : Hid (WR w B S [])) (nb : List Nat) (hnb : Hid (nb = Im.body m)) :
    Calls Try.prog 16 #[.pointer (some ⟨S, 0, none⟩), .pointer (some ⟨N, 0, none⟩)] w fun e w' => Wrote B S [] nb w e w' := by
  obtain ⟨c0, c1⟩ := md_cells hN
  clear hN
  go_enter Try.func16, Try.ntmps16
  go_wp2_with fail
  refine (module_any B S m ab au cb cu [] _ hin h nb hnb).mono ?_
  rintro e w2 hw2
  have HW := hide hw2
  by_cases hf : ([] ++ nb).length ≤ 59998
  · obtain ⟨rfl, _⟩ := hw2.yes hf
    clear hw2
    go_wp2
    go_end0
    exact HW.out
  · obtain rfl := hw2.no hf
    clear hw2
    go_wp2
    exact ⟨rfl, HW.out⟩

theorem WR.set {w : World} {B S : Nat} {xs : List Nat} (h : WR w B S xs) {F : Nat} {cs : Array Value} {t : TypeId} {fr : Nat × Nat} (hF : w.heap[F]? = some (.cells cs t fr)) (h1 : t ≠ 5) (h2 : t ≠ 40) (o : Nat) (u : Value) : WR (w.setCell ⟨F, o, none⟩ u) B S xs := by
  obtain ⟨v, hS, hown⟩ := h.row
  refine ⟨⟨v, (Below.heap_setCell _ _ _ _ (fun e => ?_)).trans hS, own_keep hown (fun k hk => Below.heap_setCell _ _ _ _ (fun e => ?_))⟩, h.few, h.base⟩
  · subst e
    rw [hF] at hS
    simp at hS
    exact h2 hS.2.1
  · subst e
    exact own_ty hown hF h1 hk

theorem two_news (W : World) (u v : Value) (t : TypeId) : ∀ j u', [u, v][j]? = some u' → (W.alloc (.cells #[u, v] t)).cell? ((⟨W.heap.size, 0, none⟩ : Addr).add j) = some u'
  | 0, u', h => by simp at h; subst h; simp [Addr.add]
  | 1, u', h => by simp at h; subst h; simp [Addr.add]
  | j + 2, u', h => by simp at h
theorem two_cellu (x y : Int) : ∀ u ∈ [Value.int .u8 x, .int .u8 y], u.oneCell' = true := by intro u hu; simp at hu; rcases hu with rfl | rfl <;> rfl
theorem set_two {w : World} {F : Nat} {a b : Int} (h : w.heap[F]? = some (.cells #[.int .i64 0, .int .i64 0] 42 (0, 0))) : ((w.setCell ⟨F, 0, none⟩ (.int .i64 a)).setCell ⟨F, 1, none⟩ (.int .i64 b)).heap[F]? = some (.cells #[.int .i64 a, .int .i64 b] 42 (0, 0)) := by
  simp [World.setCell, Array.getElem?_modify, h]

theorem wrap_u8 (n : Int) : IntKind.u8.wrap n = n % 256 := by simp [IntKind.wrap, IntKind.bits, IntKind.signed]
theorem below_drewN' {B : Nat} {a w : World} (h : Below B a w) (n : Nat) : Below B a (w.drewN n) := h.trans ⟨rfl, rfl, rfl, Nat.le_refl _, fun _ _ => rfl⟩

set_option maxRecDepth 100000 in
set_option maxHeartbeats 2000000 in
/-- WHAT image.Bytes ANSWERS. -/
theorem bytes_any (m : Im.Md) (ab au : Option Addr) (cb cu : Nat) (w : World) (hin : Hid (ModIn w.heap.size w m ab au)) (out : List Nat) (er : Int) (hout : Hid (Im.bytes m = (out, er))) :
    Calls Try.prog 6 #[.agg #[.slice ab m.boxes.length cb, .slice au m.units.length cu]] w fun e w' => ∃ v, e = .returned (.tuple #[v, .int .i64 er]) ∧ w'.ownsRow w.heap.size 5 1 v out.length (bts out) ∧ Below w.heap.size w w' := by
  obtain ⟨i0, hi, hz0, hz1, hz2⟩ := info_parts Try.info5
  have hmf : ∀ (fn : Fn) (first cap : Array Value) (w : World), (Instr.makeFunc fn first cap).run Try.prog w = .ok (.func fn first cap) w := fun _ _ _ _ => rfl
  obtain ⟨nb, hnb⟩ : ∃ nb, nb = Im.body m := ⟨_, rfl⟩
  have HNB := hide hnb
  have HK0 : Hid (Kp w.heap.size w (((w.alloc (mdO m ab au cb cu)).alloc (.cells #[.slice none 0 0] 40)).alloc Z2C)) := (((Kp.refl _ w).alloc (Nat.le_refl _) _).alloc (by simp) _).alloc (by simp; omega) _
  have HWR : Hid (WR (((w.alloc (mdO m ab au cb cu)).alloc (.cells #[.slice none 0 0] 40)).alloc Z2C) w.heap.size (w.heap.size + 1) []) :=
    WR.alloc ⟨⟨_, alloc_at2 _ _ _, World.ownsRow_nil _ _ _ _⟩, by simp, by omega⟩ _
  have HNN : Hid ((((w.alloc (mdO m ab au cb cu)).alloc (.cells #[.slice none 0 0] 40)).alloc Z2C).heap[w.heap.size]? = some (mdO m ab au cb cu)) := by
    unfold Hid
    rw [Below.heap_alloc _ _ _ (by simp; omega)]
    exact alloc_at1 _ _ _
  have HFF : Hid ((((w.alloc (mdO m ab au cb cu)).alloc (.cells #[.slice none 0 0] 40)).alloc Z2C).heap[w.heap.size + 1 + 1]? = some Z2C) := by
    unfold Hid
    have := heap_alloc_new ((w.alloc (mdO m ab au cb cu)).alloc (.cells #[.slice none 0 0] 40)) Z2C
    simpa using this
  obtain ⟨th, hth⟩ : ∃ th : Int, th = if nb.length ≤ 59998 then 0 else 4 := ⟨_, rfl⟩
  have HTH := hide hth
  have HO : Hid ((out, er) = if nb.length ≤ 59998 then (Im.sealed nb, 0) else ([], 4)) := by have := hout.out; unfold Im.bytes at this; rw [← hnb] at this; exact this.symm
  have HLT : Hid (∀ c ∈ nb, c < 256) := by rw [hnb]; exact Im.body_lt m
  clear hnb hth hout
  go_enter Try.func6, Try.ntmps6
  go_wp2_with fail
  refine (caught_any 16 #[.pointer (some ⟨w.heap.size + 1, 0, none⟩), .pointer (some ⟨w.heap.size, 0, none⟩)] th 0 (fun w' => Below w.heap.size w w' ∧ (nb.length ≤ 59998 → WR w' w.heap.size (w.heap.size + 1) nb)) _ (fun _ => rfl) ?_ ?_).mono ?_
  · intro w'
    first | rfl | kernel_rfl | simp [go_sem]
  · refine (bytes1_any w.heap.size (w.heap.size + 1) w.heap.size m ab au cb cu _ HNN.out (hide (hin.out.kp HK0.out)) HWR nb HNB).mono ?_
    intro e w' hw
    refine ⟨⟨(HK0.out.trans hw.kp).below, fun h => (hw.yes (by simpa using h)).2⟩, ?_, ?_⟩
    · have := hw.kp.blk _ _ _ _ HFF.out (by decide) (by decide)
      simpa using this
    · unfold Thrown
      rw [HTH.out]
      by_cases hf : nb.length ≤ 59998
      · rw [if_pos hf, if_pos rfl]; exact (hw.yes (by simpa using hf)).1
      · rw [if_neg hf, if_neg (by decide)]; exact hw.no (by simpa using hf)
  rintro e w1 ⟨rfl, wx, ⟨hb, hwr⟩, hF, hW⟩
  have hF' : wx.heap[w.heap.size + 1 + 1]? = some Z2C := by simpa using hF
  have HB1 : Hid (Below w.heap.size w w1) := by
    rw [hW]
    exact (hb.setCell (p := ⟨_, 0, none⟩) (by simp; omega) _).setCell (p := ⟨_, 1, none⟩) (by simp; omega) _
  have HW1 : Hid (nb.length ≤ 59998 → WR w1 w.heap.size (w.heap.size + 1) nb) := by
    intro hf
    have h1 := (hwr hf).set hF' (by decide) (by decide) 0 (.int .i64 th)
    have h2 := h1.set (F := w.heap.size + 1 + 1) (cs := #[.int .i64 th, .int .i64 0]) (t := 42) (fr := (0, 0)) (by simp [World.setCell, Array.getElem?_modify, hF']) (by decide) (by decide) 1 (.int .i64 0)
    rw [hW]
    simpa using h2
  clear hb hwr hF hF' hW HK0 HWR HNN HFF hin HNB
  have hsz := HB1.out.size
  by_cases hf : nb.length ≤ 59998
  · obtain rfl : th = 0 := by rw [HTH.out, if_pos hf]
    have hO := HO.out
    rw [if_pos hf] at hO
    obtain ⟨rfl, rfl⟩ := Prod.mk.inj hO
    have hw1 := HW1.out hf
    have hw2 := hw1.alloc (.cells #[.int .i64 0, .int .i64 0] 42)
    obtain ⟨v, hS, hown⟩ := hw2.row
    obtain ⟨av, cv, rfl, hbin⟩ := own_bin hown HLT.out
    obtain ⟨c0, f0⟩ := wr_cell hS
    have HOW := hide hown
    have HBI := hide hbin
    obtain ⟨s, hs⟩ : ∃ s, s = Im.sum nb := ⟨_, rfl⟩
    have hs16 : s < 65536 := by rw [hs]; exact Im.sum_lt nb
    have HS := hide hs
    have e1 : IntKind.u8.wrap ((s : Int) / 256) = ((s / 256 : Nat) : Int) := by rw [wrap_u8]; omega
    have e2 : IntKind.u8.wrap (s : Int) = ((s % 256 : Nat) : Int) := by rw [wrap_u8]; omega
    have HSE : Hid (Im.sealed nb = nb ++ [s / 256, s % 256]) := by unfold Hid; rw [hs]; rfl
    obtain ⟨hi', hhi⟩ : ∃ h, h = s / 256 := ⟨_, rfl⟩
    obtain ⟨lo, hlo⟩ : ∃ h, h = s % 256 := ⟨_, rfl⟩
    rw [← hhi, ← hlo] at HSE
    rw [← hhi] at e1
    rw [← hlo] at e2
    clear hs hbin hown hS hw1 hw2 HO hO HTH HW1 hhi hlo
    have hszz : w.heap.size ≤ (w1.alloc (.cells #[.int .i64 0, .int .i64 0] 42)).heap.size := by simp; omega
    have HB2 : Hid (Below w.heap.size w (w1.alloc (.cells #[.int .i64 0, .int .i64 0] 42))) := HB1.out.alloc hsz _
    go_wp2_with fail
    refine (sum_any nb av cv (by omega) _ HBI s HS).mono ?_
    rintro e w3 ⟨rfl, rfl⟩
    generalize hW3 : w1.alloc (.cells #[.int .i64 0, .int .i64 0] 42) = W3 at *
    go_wp2_with (at_builtin; refine wpList_append_own _ rfl _ _ 26 rfl w.heap.size 5 i0 (.int .u8 0) 1 1 Try.underlying26 hi hz0 hz1 hz2 rfl (by decide) _ _ _ rfl (HOW.out.alloc _) ⟨W3.heap.size, 0, none⟩ 2 2 [.int .u8 hi', .int .u8 lo] rfl rfl (two_news _ _ _ _) (two_cellu _ _) (by unfold maxLen; omega) (by omega) (by simp; omega) ?_; intro v' w4 hown' hgrow _)
    have HE : Hid (w4.ownsRow w.heap.size 5 1 v' (Im.sealed nb).length (bts (Im.sealed nb))) := by
      unfold Hid; rw [HSE.out]; simpa using hown'
    have HB4 : Hid (Below w.heap.size w w4) := (HB2.out.alloc hszz _).grown hgrow (by simp; omega) (fun j hj => (HOW.out.lt j hj).1)
    clear hown' hgrow
    go_wp2
    refine bodyPost_ret (v := .tuple #[v', .int .i64 0]) (by simp [results, Try.results6, go_sem]) rfl ?_
    exact ⟨_, rfl, HE.out, HB4.out⟩
  · obtain rfl : th = 4 := by rw [HTH.out, if_neg hf]
    have hO := HO.out
    rw [if_neg hf] at hO
    obtain ⟨rfl, rfl⟩ := Prod.mk.inj hO
    have HB2 : Hid (Below w.heap.size w (w1.alloc (.cells #[.int .i64 4, .int .i64 0] 42))) := HB1.out.alloc hsz _
    clear HO hO HTH HW1
    go_wp2
    go_quiet (fail)
    go_wp2
    refine bodyPost_ret (v := .tuple #[.slice none 0 0, .int .i64 4]) (by simp [results, Try.results6, go_sem]) rfl ?_
    exact ⟨_, rfl, World.ownsRow_nil _ _ _ _, below_drewN' HB2.out _⟩

end Go.Proofs.Ytnfkfgpnojdfoaa

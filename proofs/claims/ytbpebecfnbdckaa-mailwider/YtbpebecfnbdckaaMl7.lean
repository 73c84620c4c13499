/- Rows to be read; the walks of Same and MailPlays. -/
import Derived.Test.YtbpebecfnbdckaaMl6
namespace Go.Proofs.Ytbpebecfnbdckaa.Mb
open Go.RowKit

/-- Words that can be read. -/
def RI (w : World) (v : Value) (l : List Int) : Prop := ∃ a c, v = .slice a l.length c ∧ ∀ i x, l[i]? = some x → ∃ b off, a = some ⟨b, off, none⟩ ∧ w.cell? ⟨b, off + i, none⟩ = some (.int .i64 x)

theorem QR.reads {w : World} {B : Nat} {v : Value} {ws : List Int} (h : QR w B v ws) : RI w v ws := by
  rcases h with ⟨rfl, rfl⟩ | ⟨g, off, cap, cs, rfl, hB, hh, h1, h2, h3⟩
  · exact ⟨_, _, rfl, fun i x hx => by simp at hx⟩
  · exact ⟨_, _, rfl, fun i x hx => ⟨g, off, rfl, by simp [World.cell?, hh, h3 i x hx]⟩⟩
theorem own_reads {w : World} {B n : Nat} {v : Value} {ws : List Int} (h : w.ownsRow B 2 1 v n (ints ws)) : RI w v ws := (qr_own h).reads

/-- What came of doings, to be read. -/
theorem own_gots {w : World} {B n : Nat} {v : Value} {gs : List Ml.Got} (h : w.ownsRow B 30 2 v n (gotCells gs)) :
    ∃ a c, v = .slice a gs.length c ∧ ∀ i g, gs[i]? = some g → ∃ b, a = some ⟨b, 0, none⟩ ∧ b < w.heap.size ∧ w.cell? ⟨b, i * 2, none⟩ = some (.bool g.ok) ∧ w.cell? ⟨b, i * 2 + 1, none⟩ = some (.int .i64 g.v) := by
  have hl : gs.length = n := by have := h.1; rw [gotCells_len] at this; omega
  subst hl
  rcases h.2 with ⟨rfl, h0⟩ | ⟨g, cap, cur, rfl, hg, hh, _, _, _, ht⟩
  · exact ⟨none, 0, by rw [h0], fun i o ho => by have := (List.getElem?_eq_some_iff.1 ho).1; omega⟩
  · refine ⟨_, cap, rfl, fun i o ho => ⟨g, rfl, lt_of_block hh, ?_⟩⟩
    have key : ∀ j, j < 2 → w.cell? ⟨g, i * 2 + j, none⟩ = (gotc o)[j]? := by
      intro j hj
      have hi := (List.getElem?_eq_some_iff.1 ho).1
      have e := gotCells_get gs i o ho j hj
      rw [← ht, List.getElem?_take, if_pos (by omega)] at e
      rw [← e]
      simp [World.cell?, hh]
    exact ⟨key 0 (by decide), key 1 (by decide)⟩

set_option maxHeartbeats 400000 in
theorem same_any (v1 v2 : Value) (l : List Int) (w : World) (h1 : Hid (RI w v1 l)) (h2 : Hid (RI w v2 l)) (hn : l.length ≤ 9223372036854775806) :
    Calls Try.prog 8 #[v1, v2] w fun e w' => e = .returned (.bool true) ∧ ∃ d, w' = w.drewN d := by
  obtain ⟨a1, c1, rfl, r1⟩ := h1.out
  obtain ⟨a2, c2, rfl, r2⟩ := h2.out
  have HR1 := hide r1
  have HR2 := hide r2
  clear r1 r2 h1 h2
  have eq0 : ((l.length : Int) != (l.length : Int)) = false := by simp
  go_enter Try.func8, Try.ntmps8
  go_wp2
  go_loopw [13] (fun i wr => ∃ k d : Nat, k ≤ l.length ∧ i = .int .i64 k ∧ wr = w.drewN d) (fun i _ => l.length - (intOf i).toNat)
  case atStart => exact ⟨0, 0, Nat.zero_le _, rfl, rfl⟩
  case round =>
    obtain ⟨k, d, hk, rfl, rfl⟩ := hrel
    by_cases hlt : k < l.length
    · obtain ⟨x, hx⟩ : ∃ x, l[k]? = some x := ⟨_, List.getElem?_eq_getElem hlt⟩
      obtain ⟨b1, o1, rfl, x1⟩ := HR1.out k x hx
      obtain ⟨b2, o2, rfl, x2⟩ := HR2.out k x hx
      have eqx : (x != x) = false := by simp
      have b0 : (0 : Int) ≤ (k : Int) := by omega
      have b1 : (k : Int) < (l.length : Int) := by omega
      clear hx
      go_wp2
      go_quiet (fail)
      go_wp2
      go_roundw
      case rel => exact ⟨k + 1, _, by omega, by go_num, rfl⟩
      case measure => simp [intOf]; omega
    · go_wp2
      go_ret
      exact ⟨rfl, d, rfl⟩

theorem own_drewN {w : World} {B e size n : Nat} {v : Value} {xs : List Value} (h : w.ownsRow B e size v n xs) (d : Nat) : (w.drewN d).ownsRow B e size v n xs := h
theorem below_drewN' {B : Nat} {a w : World} (h : Below B a w) (n : Nat) : Below B a (w.drewN n) := h.trans ⟨rfl, rfl, rfl, Nat.le_refl _, fun _ _ => rfl⟩

theorem play_count {n : Int} {L : List Ml.Op} {gs : List Ml.Got} {ws : List Int} {E : Nat} (h : Ml.play n L = (gs, ws, E)) : gs.length ≤ L.length := by
  unfold Ml.play at h
  split at h
  · simp only [Prod.mk.injEq] at h; rw [← h.1]; simp
  · simp only [Prod.mk.injEq] at h; rw [← h.1, Ml.upto_len _ (Nat.le_refl _)]; exact Nat.le_refl _

theorem gots_eq (p : Bool) (x : Int) (w : World) : Sem.run Try.prog (binOp BinOp.neq 30 (.agg #[.bool p, .int .i64 x]) (.agg #[.bool p, .int .i64 x])) w = .ok (.bool false) w := by
  simp [go_sem]

set_option maxRecDepth 100000 in
set_option maxHeartbeats 400000 in
theorem mailPlays_any (n : Int) (L : List Ml.Op) (a : Option Addr) (c : Nat) (w : World) (hin : Hid (OpsIn w.heap.size w L a)) (hlen : L.length ≤ 8796093022200) :
    Calls Try.prog 3 #[.int .i64 n, .slice a L.length c] w fun e w' => e = .returned (.bool true) ∧ Below w.heap.size w w' := by
  obtain ⟨gs, ws, E, hgo⟩ : ∃ gs ws E, Ml.play n L = (gs, ws, E) := ⟨_, _, _, rfl⟩
  have HGO := hide hgo
  have hws := Ml.play_few hgo
  have hgs := play_count hgo
  clear hgo
  have e1 : ((E : Int) != (E : Int)) = false := by simp
  have e2 : ((gs.length : Int) != (gs.length : Int)) = false := by simp
  go_enter Try.func3, Try.ntmps3
  go_wp2_with fail
  refine (play_any n L a c w hin hlen gs ws E HGO).mono ?_
  rintro e w1 ⟨v1, v2, rfl, o1, o2, hb1⟩
  have HO1 := hide o1
  have HO2 := hide o2
  have HB1 := hide hb1
  clear o1 o2 hb1
  go_wp2_with fail
  refine (rplay_any n L a c _ ((hin.out.on HB1.out).wide HB1.out.size) hlen gs ws E HGO).mono ?_
  rintro e w2 ⟨v3, v4, rfl, o3, o4, hb2⟩
  have HO1b := hide (own_keep HO1.out (fun k hk => hb2.block k (HO1.out.lt k hk).2))
  have HO2b := hide (own_keep HO2.out (fun k hk => hb2.block k (HO2.out.lt k hk).2))
  have HO3 := hide o3
  have HO4 := hide o4
  have HB2 : Hid (Below w.heap.size w w2) := HB1.out.trans (hb2.mono HB1.out.size)
  obtain ⟨a1, k1, rfl, r1⟩ := own_gots HO1b.out
  obtain ⟨a3, k3, rfl, r3⟩ := own_gots o3
  have HR1 := hide r1
  have HR3 := hide r3
  clear o3 o4 hb2 r1 r3
  go_wp2_with fail
  refine (same_any v2 v4 ws _ (hide (own_reads HO2b.out)) (hide HO4.out.reads) (by omega)).mono ?_
  rintro e w3 ⟨rfl, d, rfl⟩
  go_wp2
  go_loopw [44] (fun i wr => ∃ k d : Nat, k ≤ gs.length ∧ i = .int .i64 k ∧ wr = w2.drewN d) (fun i _ => gs.length - (intOf i).toNat)
  case atStart => exact ⟨0, d, Nat.zero_le _, rfl, rfl⟩
  case round =>
    obtain ⟨k, d, hk, rfl, rfl⟩ := hrel
    by_cases hlt : k < gs.length
    · obtain ⟨x, hx⟩ : ∃ x, gs[k]? = some x := ⟨_, List.getElem?_eq_getElem hlt⟩
      obtain ⟨b1, rfl, _, x1, x2⟩ := HR1.out k x hx
      obtain ⟨b3, rfl, _, x3, x4⟩ := HR3.out k x hx
      have b0 : (0 : Int) ≤ (k : Int) := by omega
      have b1 : (k : Int) < (gs.length : Int) := by omega
      have ge := gots_eq x.ok x.v
      clear hx
      go_wp2
      go_quiet (fail)
      go_wp2
      go_roundw
      case rel => exact ⟨k + 1, _, by omega, by go_num, rfl⟩
      case measure => simp [intOf]; omega
    · go_wp2
      go_ret
      exact ⟨rfl, below_drewN' HB2.out _⟩

end Go.Proofs.Ytbpebecfnbdckaa.Mb

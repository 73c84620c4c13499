/- StacksPlay: the walk of the law. -/
import Derived.Test.YtnoecaapmcidhaaSt9
namespace Go.Proofs.Ytnoecaapmcidhaa
open Go.RowKit

theorem OpsIn.wide {B B' : Nat} {w : World} {L : List Sk.Op} {a : Option Addr} (h : OpsIn B w L a) (hB : B ≤ B') : OpsIn B' w L a := fun i o ho => by
  obtain ⟨b, off, e, hlt, r⟩ := h i o ho
  exact ⟨b, off, e, by omega, r⟩

theorem fault_eq (E P : Int) (w : World) : Sem.run Try.prog (binOp BinOp.eql 27 (.agg #[.int .i64 E, .int .i64 P]) (.agg #[.int .i64 E, .int .i64 P])) w = .ok (.bool true) w := by
  simp [go_sem]

theorem nats_ints (rs : List Nat) : ints (rs.map (fun n : Nat => (n : Int))) = nats rs := by simp [ints, nats, Function.comp_def]
theorem own_drewN {w : World} {B e size n : Nat} {v : Value} {xs : List Value} (h : w.ownsRow B e size v n xs) (d : Nat) : (w.drewN d).ownsRow B e size v n xs := h
theorem below_drewN' {B : Nat} {a w : World} (h : Below B a w) (n : Nat) : Below B a (w.drewN n) := h.trans ⟨rfl, rfl, rfl, Nat.le_refl _, fun _ _ => rfl⟩

set_option maxRecDepth 100000 in
set_option maxHeartbeats 400000 in
theorem stacksPlay_any (mn most : Int) (L : List Sk.Op) (a : Option Addr) (c : Nat) (w : World) (hin : Hid (OpsIn w.heap.size w L a)) (hlen : L.length ≤ 8796093022208) :
    Calls Try.prog 3 #[.int .i64 mn, .int .i64 most, .slice a L.length c] w fun e w' => e = .returned (.bool true) ∧ Below w.heap.size w w' := by
  obtain ⟨ws, rs, E, P, hgo⟩ : ∃ ws rs E P, Sk.play mn most L = (ws, rs, E, P) := ⟨_, _, _, _, rfl⟩
  have HGO := hide hgo
  have hws : ws.length ≤ 400 := by
    have : (Sk.play mn most L).1.length ≤ 400 := by
      unfold Sk.play
      split
      · simp
      · rename_i hc
        have := Sk.go_most (mn := mn.toNat) (most := most.toNat) L 0 [] mn.toNat [] (by unfold Sk.Fits; simp; omega)
        omega
    rw [hgo] at this
    exact this
  have hrs : rs.length ≤ L.length := by
    have : (Sk.play mn most L).2.1.length ≤ L.length := by
      by_cases he : (Sk.play mn most L).2.2.1 = 0
      · unfold Sk.play at *
        split
        · simp
        · rename_i hc
          rw [if_neg hc] at he
          have := Sk.go_count (mn := mn.toNat) (most := most.toNat) L 0 [] mn.toNat [] he
          simp at this
          omega
      · rw [(Sk.play_none he).2]; simp
    rw [hgo] at this
    exact this
  clear hgo
  go_enter Try.func3, Try.ntmps3
  go_wp2_with fail
  refine (play_any mn most L a c w hin hlen ws rs E P HGO).mono ?_
  rintro e w1 ⟨v1, v2, rfl, o1, o2, hb1⟩
  have HO1 := hide o1
  have HO2 := hide o2
  have HB1 := hide hb1
  clear o1 o2 hb1
  go_wp2_with fail
  have HBa : Hid (Below w.heap.size w (w1.alloc (.cells #[.int .i64 E, .int .i64 P] 27))) := HB1.out.alloc HB1.out.size _
  refine (rplay_any mn most L a c _ ((hin.out.on HBa.out).wide HBa.out.size) hlen ws rs E P HGO).mono ?_
  rintro e w2 ⟨v3, v4, rfl, o3, o4, hb2⟩
  have HO3 := hide o3
  have HO4 := hide o4
  have HO1b := hide (own_keep (HO1.out.alloc _) (fun k hk => hb2.block k ((HO1.out.alloc _).lt k hk).2))
  have HO2b := hide (own_keep (HO2.out.alloc _) (fun k hk => hb2.block k ((HO2.out.alloc _).lt k hk).2))
  have HB2 : Hid (Below w.heap.size w w2) := HBa.out.trans (hb2.mono HBa.out.size)
  have hF : w2.heap[w1.heap.size]? = some (.cells #[.int .i64 E, .int .i64 P] 27 (0, 0)) := (hb2.block _ (by simp)).trans (heap_alloc_new w1 _)
  have z0 : w2.cell? ⟨w1.heap.size, 0, none⟩ = some (.int .i64 E) := by simp [World.cell?, hF]
  have z1 : w2.cell? ⟨w1.heap.size, 1, none⟩ = some (.int .i64 P) := by simp [World.cell?, hF]
  have hlt := lt_of_block hF
  clear o3 o4 hb2 hF
  go_wp2_with fail
  refine (same_any v1 v3 ws _ _ ws.length _ (HO1b.out.alloc _) (HO3.out.alloc _) (by omega)).mono ?_
  rintro e w3 ⟨rfl, d, rfl⟩
  go_wp2_with fail
  refine (sameInts_any v2 v4 (rs.map (fun n : Nat => (n : Int))) _ _ rs.length _ (by rw [nats_ints]; exact own_drewN (HO2b.out.alloc _) _) (by rw [nats_ints]; exact own_drewN (HO4.out.alloc _) _) (by omega)).mono ?_
  rintro e w3 ⟨rfl, d', rfl⟩
  go_wp2
  go_ret
  exact ⟨rfl, below_drewN' (HB2.out.alloc HB2.out.size _) _⟩

end Go.Proofs.Ytnoecaapmcidhaa

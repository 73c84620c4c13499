/- StacksRoom: the walk of the law. -/
import Derived.Test.YtnoecaapmcidhaaSt12
namespace Go.Proofs.Ytnoecaapmcidhaa
open Go.RowKit

theorem play_few {mn most : Int} {L : List Sk.Op} {ws : List Int} {rs : List Nat} {E P : Nat} (hgo : Sk.play mn most L = (ws, rs, E, P)) : ws.length ≤ 400 := by
  have : (Sk.play mn most L).1.length ≤ 400 := by
    unfold Sk.play
    split
    · simp
    · rename_i hc
      have := Sk.go_most (mn := mn.toNat) (most := most.toNat) L 0 [] mn.toNat [] (by unfold Sk.Fits; simp; omega)
      omega
  rw [hgo] at this
  exact this


set_option maxRecDepth 100000 in
set_option maxHeartbeats 400000 in
theorem stacksRoom_any (mn ot most : Int) (L : List Sk.Op) (a : Option Addr) (c : Nat) (w : World) (hin : Hid (OpsIn w.heap.size w L a)) (hlen : L.length ≤ 8796093022208) :
    Calls Try.prog 4 #[.int .i64 mn, .int .i64 ot, .int .i64 most, .slice a L.length c] w fun e w' => e = .returned (.bool true) ∧ Below w.heap.size w w' := by
  by_cases h1 : mn < 1
  · skip
    go_enter Try.func4, Try.ntmps4
    go_wp2_with fail
    refine (alive_any w).mono ?_
    rintro e w1 ⟨rfl, hb1⟩
    go_wp2
    go_ret
    exact ⟨rfl, hb1⟩
  by_cases h2 : ot < 1
  · skip
    go_enter Try.func4, Try.ntmps4
    go_wp2_with fail
    refine (alive_any w).mono ?_
    rintro e w1 ⟨rfl, hb1⟩
    go_wp2
    go_ret
    exact ⟨rfl, hb1⟩
  by_cases h3 : most < mn
  · skip
    go_enter Try.func4, Try.ntmps4
    go_wp2_with fail
    refine (alive_any w).mono ?_
    rintro e w1 ⟨rfl, hb1⟩
    go_wp2
    go_ret
    exact ⟨rfl, hb1⟩
  by_cases h4 : most < ot
  · skip
    go_enter Try.func4, Try.ntmps4
    go_wp2_with fail
    refine (alive_any w).mono ?_
    rintro e w1 ⟨rfl, hb1⟩
    go_wp2
    go_ret
    exact ⟨rfl, hb1⟩
  by_cases h5 : 400 < most
  · skip
    go_enter Try.func4, Try.ntmps4
    go_wp2_with fail
    refine (alive_any w).mono ?_
    rintro e w1 ⟨rfl, hb1⟩
    go_wp2
    go_ret
    exact ⟨rfl, hb1⟩
  obtain ⟨ws, rs, E, P, hgo⟩ : ∃ ws rs E P, Sk.play mn most L = (ws, rs, E, P) := ⟨_, _, _, _, rfl⟩
  obtain ⟨rs', hgo'⟩ : ∃ rs', Sk.play ot most L = (ws, rs', E, P) := by
    unfold Sk.play at *
    rw [if_neg (by omega)] at hgo
    rw [if_neg (by omega)]
    have := Sk.go_room (mn := mn.toNat) (mn' := ot.toNat) (most := most.toNat) L 0 [] mn.toNat ot.toNat [] []
    rw [hgo] at this
    refine ⟨(Sk.go ot.toNat most.toNat L 0 [] ot.toNat []).2.1, Prod.ext this.1.symm (Prod.ext rfl this.2.symm)⟩
  have HGO := hide hgo
  have HGO' := hide hgo'
  have hws := play_few hgo
  clear hgo hgo'
  go_enter Try.func4, Try.ntmps4
  go_wp2_with fail
  refine (alive_any w).mono ?_
  rintro e w0 ⟨rfl, hb0⟩
  have HB0 := hide hb0
  clear hb0
  go_wp2_with fail
  refine (play_any mn most L a c _ ((hin.out.on HB0.out).wide HB0.out.size) hlen ws rs E P HGO).mono ?_
  rintro e w1 ⟨v1, v2, rfl, o1, o2, hb1⟩
  have HO1 := hide o1
  have HB1 : Hid (Below w.heap.size w w1) := HB0.out.trans (hb1.mono HB0.out.size)
  clear o1 o2 hb1
  go_wp2_with fail
  have HBa : Hid (Below w.heap.size w (w1.alloc (.cells #[.int .i64 E, .int .i64 P] 27))) := HB1.out.alloc HB1.out.size _
  refine (play_any ot most L a c _ ((hin.out.on HBa.out).wide HBa.out.size) hlen ws rs' E P HGO').mono ?_
  rintro e w2 ⟨v3, v4, rfl, o3, o4, hb2⟩
  have HO3 := hide o3
  have HO1b := hide (own_keep (HO1.out.alloc _) (fun k hk => hb2.block k ((HO1.out.alloc _).lt k hk).2))
  have HB2 : Hid (Below w.heap.size w w2) := HBa.out.trans (hb2.mono HBa.out.size)
  have hF : w2.heap[w1.heap.size]? = some (.cells #[.int .i64 E, .int .i64 P] 27 (0, 0)) := (hb2.block _ (by simp)).trans (heap_alloc_new w1 _)
  have z0 : w2.cell? ⟨w1.heap.size, 0, none⟩ = some (.int .i64 E) := by simp [World.cell?, hF]
  have z1 : w2.cell? ⟨w1.heap.size, 1, none⟩ = some (.int .i64 P) := by simp [World.cell?, hF]
  have hlt := lt_of_block hF
  clear o3 o4 hb2 hF
  go_wp2_with fail
  refine (same_any v1 v3 ws _ _ ws.length _ (HO1b.out.alloc _) (HO3.out.alloc _) (by omega)).mono ?_
  rintro e w3 ⟨rfl, d, rfl⟩
  go_wp2
  go_ret
  exact ⟨rfl, below_drewN' (HB2.out.alloc HB2.out.size _) _⟩

end Go.Proofs.Ytnoecaapmcidhaa

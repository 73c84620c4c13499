/- The walk of stacks.Play. -/
import Derived.Test.YtnoecaapmcidhaaStN
namespace Go.Proofs.Ytnoecaapmcidhaa
open Go.RowKit

/-- Doings lie at a, below B. -/
def OpsIn (B : Nat) (w : World) (L : List Sk.Op) (a : Option Addr) : Prop :=
  ∀ i o, L[i]? = some o → ∃ b off, a = some ⟨b, off, none⟩ ∧ b < B ∧ w.cell? ⟨b, off + i * 3, none⟩ = some (.int .i64 o.kind) ∧ w.cell? ⟨b, off + i * 3 + 1, none⟩ = some (.int .i64 o.n) ∧ w.cell? ⟨b, off + i * 3 + 2, none⟩ = some (.int .i64 o.v)

abbrev nats (l : List Nat) : List Value := l.map fun n : Nat => .int .i64 (n : Int)

theorem OpsIn.on {B : Nat} {w w' : World} {L : List Sk.Op} {a : Option Addr} (h : OpsIn B w L a) (hb : Below B w w') : OpsIn B w' L a := fun i o ho => by
  obtain ⟨b, off, e, hlt, c0, c1, c2⟩ := h i o ho
  exact ⟨b, off, e, hlt, (hb.cell (p := ⟨b, _, none⟩) hlt).trans c0, (hb.cell (p := ⟨b, _, none⟩) hlt).trans c1, (hb.cell (p := ⟨b, _, none⟩) hlt).trans c2⟩

set_option maxHeartbeats 400000 in
theorem play_range (mn most : Int) (L : List Sk.Op) (a : Option Addr) (c : Nat) (w : World) (h : mn < 1 ∨ most < mn ∨ 400 < most) :
    Calls Try.prog 9 #[.int .i64 mn, .int .i64 most, .slice a L.length c] w fun e w' => e = .returned (.tuple #[.slice none 0 0, .slice none 0 0, .agg #[.int .i64 3, .int .i64 0]]) ∧ Below w.heap.size w w' := by
  have H := hide h
  clear h
  go_enter Try.func9, Try.ntmps9
  go_wp2_with fail
  refine (snew_range mn most _ H.out).mono ?_
  rintro e w' ⟨rfl, rfl⟩
  go_wp2
  refine bodyPost_ret (v := .tuple #[.slice none 0 0, .slice none 0 0, .agg #[.int .i64 3, .int .i64 0]]) (by simp [results, Try.results9, go_sem]) rfl ⟨rfl, ?_⟩
  exact (Below.refl _ w).alloc (Nat.le_refl _) _

abbrev Zf : Obj := .cells #[.int .i64 0, .int .i64 0] 27 (0, 0)

/-- What holds at the head of Play's loop. -/
def PlRel (mn most : Nat) (L : List Sk.Op) (w : World) (S : Nat) (v i : Value) (wr : World) : Prop :=
  ∃ (k g : Nat) (ws : List Int) (r : Nat) (rs : List Nat), i = .int .i64 k ∧ k ≤ L.length ∧ SK wr S g ws r mn most ∧ w.heap.size ≤ g ∧ w.heap.size ≤ S ∧ wr.heap[w.heap.size]? = some Zf ∧
    wr.ownsRow w.heap.size 3 1 v rs.length (nats rs) ∧ rs.length = k ∧ Below w.heap.size w wr ∧ Sk.go mn most L 0 [] mn [] = Sk.go mn most (L.drop k) k ws r rs

theorem plRel_start {mn most : Nat} (L : List Sk.Op) {w w1 : World} {S : Nat} (hS : SK w1 S (w.alloc Zf).heap.size [] mn mn most) (hz : (w.alloc Zf).heap.size < S) (hb : Below (w.alloc Zf).heap.size (w.alloc Zf) w1) :
    PlRel mn most L w S (.slice none 0 0) (.int .i64 0) w1 := by
  have hF : w1.heap[w.heap.size]? = some Zf := (hb.block _ (by simp)).trans (heap_alloc_new w Zf)
  have e : (w.alloc Zf).heap.size = w.heap.size + 1 := by simp
  have h2 : Below w.heap.size w w1 := ((Below.refl _ w).alloc (Nat.le_refl _) _).trans (hb.mono (by simp))
  exact ⟨0, _, [], mn, [], rfl, Nat.zero_le _, hS, by omega, by omega, hF, World.ownsRow_nil _ _ _ _, rfl, h2, by simp⟩

theorem own_ty {w : World} {B e size n k : Nat} {v : Value} {xs : List Value} {cs : Array Value} {t : TypeId} {fr : Nat × Nat} (h : w.ownsRow B e size v n xs) (hk : w.heap[k]? = some (.cells cs t fr)) (ht : t ≠ e) : v.ownBlock ≠ some k := by
  rcases h.2 with ⟨rfl, _⟩ | ⟨g', cap, cur, rfl, _, hh, _⟩
  · simp [Value.ownBlock]
  · intro e1
    simp only [Value.ownBlock, Option.some.injEq] at e1
    subst e1
    rw [hh] at hk
    simp at hk
    exact ht hk.2.1.symm

theorem own_base {w : World} {B C e size n : Nat} {v : Value} {xs : List Value} (h : w.ownsRow C e size v n xs) (hB : B ≤ C) : w.ownsRow B e size v n xs := by
  refine ⟨h.1, ?_⟩
  rcases h.2 with h2 | ⟨g, cap, cur, hv, hg, r⟩
  · exact .inl h2
  · exact .inr ⟨g, cap, cur, hv, Nat.le_trans hB hg, r⟩

theorem own_keep {w w' : World} {B e size n : Nat} {v : Value} {xs : List Value} (h : w.ownsRow B e size v n xs) (hk : ∀ k, v.ownBlock = some k → w'.heap[k]? = w.heap[k]?) : w'.ownsRow B e size v n xs := by
  refine ⟨h.1, ?_⟩
  rcases h.2 with h2 | ⟨g', cap, cur, rfl, hB, hh, hr⟩
  · exact .inl h2
  · exact .inr ⟨g', cap, cur, rfl, hB, (hk g' rfl).trans hh, hr⟩

/-- What a doing leaves alone. -/
theorem rest_did {w wr w2 : World} {ob : Obj} {S g r mn most n : Nat} {ws : List Int} {v : Value} {xs : List Value} (hSK : SK wr S g ws r mn most) (hg : w.heap.size ≤ g) (hS : w.heap.size ≤ S) (hF : wr.heap[w.heap.size]? = some Zf) (hO : wr.ownsRow w.heap.size 3 1 v n xs) (hB : Below w.heap.size w wr) (hM : Mv (wr.alloc ob) w2 S g) :
    w2.heap[w.heap.size]? = some Zf ∧ w2.ownsRow w.heap.size 3 1 v n xs ∧ Below w.heap.size w w2 := by
  obtain ⟨cs, hc, _⟩ := hSK.2.1
  have hz := hM.size
  simp at hz
  have hzz := hB.size
  have blk : ∀ k, k < wr.heap.size → k ≠ S → k ≠ g → w2.heap[k]? = wr.heap[k]? := fun k hk h1 h2 => (hM.block k (by simp; omega) h1 h2).trans (Below.heap_alloc _ _ _ hk)
  refine ⟨?_, own_keep hO (fun k hk => ?_), ⟨hM.os.trans hB.os, hM.tape.trans hB.tape, hM.output.trans hB.output, by omega, fun k hk => ?_⟩⟩
  · rw [blk _ (lt_of_block hF) ?_ ?_, hF]
    · intro e; rw [e] at hF; have := hSK.1; rw [hF] at this; simp at this
    · intro e; rw [e] at hF; rw [hF] at hc; simp at hc
  · refine blk k (hO.lt k hk).2 (fun e => ?_) (fun e => ?_)
    · exact own_ty hO (e ▸ hSK.1 : wr.heap[k]? = some (skO g ws.length r mn most)) (by decide) hk
    · exact own_ty hO (e ▸ hc) (by decide) hk
  · rw [blk k (by omega) (by omega) (by omega)]; exact hB.block k hk

/-- What an append to the rooms leaves alone. -/
theorem rest_app {w w2 w3 : World} {ob : Obj} {S g r mn most n : Nat} {ws : List Int} {v : Value} {xs : List Value} (hSK : SK w2 S g ws r mn most) (hF : w2.heap[w.heap.size]? = some Zf) (hO : w2.ownsRow w.heap.size 3 1 v n xs) (hB : Below w.heap.size w w2) (hG : (w2.alloc ob).grownBy w3 v.ownBlock) :
    SK w3 S g ws r mn most ∧ w3.heap[w.heap.size]? = some Zf ∧ Below w.heap.size w w3 := by
  obtain ⟨cs, hc, hr⟩ := hSK.2.1
  have hz := hG.size
  simp at hz
  have hzz := hB.size
  have blk : ∀ k, k < w2.heap.size → v.ownBlock ≠ some k → w3.heap[k]? = w2.heap[k]? := fun k hk h1 => (hG.block k (by simp; omega) (fun e => h1 e.symm)).trans (Below.heap_alloc _ _ _ hk)
  refine ⟨⟨?_, ⟨cs, ?_, hr⟩, hSK.2.2⟩, ?_, ((hB.alloc (by omega) _).grown hG (by simp; omega) (fun k hk => (hO.lt k hk).1))⟩
  · rw [blk _ (lt_of_block hSK.1) (own_ty hO hSK.1 (by decide))]; exact hSK.1
  · rw [blk _ (lt_of_block hc) (own_ty hO hc (by decide))]; exact hc
  · rw [blk _ (lt_of_block hF) (own_ty hO hF (by decide))]; exact hF

theorem zf_cells {w : World} {N : Nat} (h : w.heap[N]? = some Zf) : w.cell? ⟨N, 0, none⟩ = some (.int .i64 0) ∧ w.cell? ⟨N, 1, none⟩ = some (.int .i64 0) ∧ w.frozen? ⟨N, 0, none⟩ = false ∧ w.frozen? ⟨N, 1, none⟩ = false := by
  simp [World.cell?, World.frozen?, h]

set_option maxHeartbeats 1000000 in
theorem play_go (mn most : Nat) (L : List Sk.Op) (a : Option Addr) (c : Nat) (w : World) (hin : Hid (OpsIn w.heap.size w L a)) (hlen : L.length ≤ 8796093022208) (h1 : 1 ≤ mn) (h2 : mn ≤ most) (h3 : most ≤ 400) (ws : List Int) (rs : List Nat) (E P : Nat) (hgo : Hid (Sk.go mn most L 0 [] mn [] = (ws, rs, E, P))) :
    Calls Try.prog 9 #[.int .i64 mn, .int .i64 most, .slice a L.length c] w fun e w' => ∃ v1 v2, e = .returned (.tuple #[v1, v2, .agg #[.int .i64 E, .int .i64 P]]) ∧ w'.ownsRow w.heap.size 2 1 v1 ws.length (ints ws) ∧ w'.ownsRow w.heap.size 3 1 v2 rs.length (nats rs) ∧ Below w.heap.size w w' := by
  obtain ⟨i1, hi1, hy0, hy1, hy2⟩ := info_parts Try.info3
  go_enter Try.func9, Try.ntmps9
  go_wp2_with fail
  refine (snew_any mn most _ h1 h2 h3).mono ?_
  rintro e w1 ⟨S, rfl, hS0, hz0, hb0⟩
  have HS0 := hide (plRel_start L hS0 hz0 hb0)
  clear hS0 hz0 hb0
  go_wp2
  go_loopw [7, 26] (fun v i wr => PlRel mn most L w S v i wr) (fun _ i _ => L.length - (intOf i).toNat)
  case atStart => exact HS0.out
  case round =>
    obtain ⟨k, g, ws1, r, rs1, rfl, hk, hSK, hg, hgS, hF, hown, hrk, hb, hG⟩ := hrel
    clear HS0
    have HSK := hide hSK
    have HF := hide hF
    have HO := hide hown
    have HRK := hide hrk
    have HB := hide hb
    have HGO := hide hG
    clear hSK hF hown hrk hb hG
    by_cases hlt : k < L.length
    · obtain ⟨o, ho⟩ : ∃ o, L[k]? = some o := ⟨_, List.getElem?_eq_getElem hlt⟩
      obtain ⟨b, off, rfl, hbl, c0, c1, c2⟩ := hin.out.on HB.out k o ho
      have HOP := hide ho
      clear ho
      obtain ⟨E1, hE1⟩ : ∃ E1, E1 = Sk.err most ws1.length o := ⟨_, rfl⟩
      obtain ⟨ws2, hws2⟩ : ∃ ws2, ws2 = Sk.wds ws1 o := ⟨_, rfl⟩
      obtain ⟨r2, hr2⟩ : ∃ r2, r2 = Sk.rm mn most r ws1.length o := ⟨_, rfl⟩
      have HE1 := hide hE1
      have HWS2 := hide hws2
      have HR2 := hide hr2
      clear hE1 hws2 hr2
      have hsz := HB.out.size
      go_wp2_with fail
      refine (do_any S g ws1 r mn most o E1 ws2 r2 _ (HSK.out.alloc _) HE1 HWS2 HR2).mono ?_
      rintro e w2 ⟨rfl, hD⟩
      obtain ⟨hF2, hO2, hB2⟩ := rest_did HSK.out hg hgS HF.out HO.out HB.out hD.2
      have HB2 := hide hB2
      have hsz2 := hB2.size
      by_cases hE0 : E1 = 0
      · have e1 : ((E1 : Int) != 0) = false := by simp; omega
        obtain ⟨g2, hSK2, hg2⟩ := hD.1 hE0
        have hgg : w.heap.size ≤ g2 := by rcases hg2 with h | h <;> first | omega | (simp at h; omega)
        have HSK2 := hide hSK2
        have HF2 := hide hF2
        have HO2 := hide hO2
        have HST : Hid (Sk.go mn most L 0 [] mn [] = Sk.go mn most (L.drop (k + 1)) (k + 1) ws2 r2 (rs1 ++ [r2])) := by
          have hh := HE1.out
          unfold Hid
          rw [HGO.out, Sk.go_step HOP.out ws1 r rs1 (by omega), ← HWS2.out, ← HR2.out]
        clear hSK2 hF2 hO2 hB2 hD hg2 c0 c1 c2 hE0
        go_wp2_with fail
        refine (room_any S g2 ws2 r2 mn most _ HSK2).mono ?_
        rintro e w2 ⟨rfl, rfl⟩
        have HOA : Hid ((w2.alloc (.cells #[.int .i64 r2] 3)).ownsRow w.heap.size 3 1 u7 rs1.length (nats rs1)) := HO2.out.alloc _
        have hrk2 : rs1.length < L.length := by have := HRK.out; omega
        go_wp2_with (at_builtin; refine wpList_append_own _ rfl _ _ 24 rfl w.heap.size 3 i1 (.int .i64 0) 1 8 Try.underlying24 hi1 hy0 hy1 hy2 rfl (by decide) _ _ _ rfl HOA.out ⟨w2.heap.size, 0, none⟩ 1 1 [.int .i64 r2] rfl rfl ?c1 ?c2 (by unfold maxLen; omega) (by omega) (by simp; omega) ?_)
        case c1 =>
          intro j u hj
          match j, hj with
          | 0, hj => simp at hj; subst hj; simp [Addr.add]
        case c2 => intro u hu; simp at hu; subst hu; rfl
        intro v' w3 hown' hgrow _
        obtain ⟨hSK3, hF3, hB3⟩ := rest_app HSK2.out HF2.out HO2.out HB2.out hgrow
        have HREL : Hid (PlRel mn most L w S v' (.int .i64 ((k + 1 : Nat) : Int)) w3) := ⟨k + 1, g2, ws2, r2, rs1 ++ [r2], rfl, hlt, hSK3, hgg, hgS, hF3, by simpa using hown', by simp [HRK.out], hB3, HST.out⟩
        clear hown' hgrow hSK3 hF3 hB3
        go_wp2
        go_roundw
        case rel => exact HREL.out
        case measure => simp [intOf]; omega
      · have e1 : ((E1 : Int) != 0) = true := by simp; omega
        have HFIN : Hid (ws = [] ∧ rs = [] ∧ E = E1 ∧ P = k) := by
          have hh := hgo.out
          have hx := HE1.out
          rw [HGO.out, Sk.go_bad HOP.out ws1 r rs1 (by omega)] at hh
          simp only [Prod.mk.injEq] at hh
          exact ⟨hh.1.symm, hh.2.1.symm, by rw [← hh.2.2.1, hx], hh.2.2.2.symm⟩
        obtain ⟨z0, z1, y0, y1⟩ := zf_cells hF2
        clear hF2 hO2 hB2 hD c0 c1 c2
        go_wp2
        refine bodyPost_ret (v := .tuple #[.slice none 0 0, .slice none 0 0, .agg #[.int .i64 E1, .int .i64 k]]) (by simp [results, Try.results9, go_sem, z0, z1]) rfl ?_
        obtain ⟨rfl, rfl, rfl, rfl⟩ := HFIN.out
        exact ⟨_, _, rfl, World.ownsRow_nil _ _ _ _, World.ownsRow_nil _ _ _ _, (HB2.out.setCell (p := ⟨w.heap.size, 0, none⟩) (Nat.le_refl _) _).setCell (p := ⟨w.heap.size, 1, none⟩) (Nat.le_refl _) _⟩
    · have HFIN : Hid (ws = ws1 ∧ rs = rs1 ∧ E = 0 ∧ P = 0) := by
        have hh := hgo.out
        rw [HGO.out, Sk.go_end (by omega)] at hh
        simp only [Prod.mk.injEq] at hh
        exact ⟨hh.1.symm, hh.2.1.symm, hh.2.2.1.symm, hh.2.2.2.symm⟩
      go_wp2_with fail
      refine (words_any S g ws1 r mn most _ HSK).mono ?_
      rintro e w4 ⟨v, rfl, hown4, hb4⟩
      have hF4 : w4.heap[w.heap.size]? = some Zf := (hb4.block _ (lt_of_block HF.out)).trans HF.out
      have HO4 : Hid (w4.ownsRow w.heap.size 3 1 u7 rs1.length (nats rs1)) := own_keep HO.out (fun k hk => hb4.block k (HO.out.lt k hk).2)
      have HV4 : Hid (w4.ownsRow w.heap.size 2 1 v ws1.length (ints ws1)) := own_base hown4 HB.out.size
      have HB4 : Hid (Below w.heap.size w w4) := HB.out.trans (hb4.mono HB.out.size)
      have HN1 : Hid (u7.ownBlock ≠ some w.heap.size) := own_ty HO4.out hF4 (by decide)
      have HN2 : Hid (v.ownBlock ≠ some w.heap.size) := own_ty HV4.out hF4 (by decide)
      obtain ⟨z0, z1, y0, y1⟩ := zf_cells hF4
      clear hown4 hb4 hF4
      go_wp2
      refine bodyPost_ret (v := .tuple #[v, u7, .agg #[.int .i64 0, .int .i64 0]]) (by simp [results, Try.results9, go_sem, z0, z1]) rfl ?_
      obtain ⟨rfl, rfl, rfl, rfl⟩ := HFIN.out
      refine ⟨v, u7, rfl, ?_, ?_, (HB4.out.setCell (p := ⟨w.heap.size, 0, none⟩) (Nat.le_refl _) _).setCell (p := ⟨w.heap.size, 1, none⟩) (Nat.le_refl _) _⟩
      · exact ownsRow_setCell_other (a := ⟨w.heap.size, 1, none⟩) (ownsRow_setCell_other (a := ⟨w.heap.size, 0, none⟩) HV4.out HN2.out _) HN2.out _
      · exact ownsRow_setCell_other (a := ⟨w.heap.size, 1, none⟩) (ownsRow_setCell_other (a := ⟨w.heap.size, 0, none⟩) HO4.out HN1.out _) HN1.out _

/-- WHAT stacks.Play ANSWERS. -/
theorem play_any (mn most : Int) (L : List Sk.Op) (a : Option Addr) (c : Nat) (w : World) (hin : Hid (OpsIn w.heap.size w L a)) (hlen : L.length ≤ 8796093022208) (ws : List Int) (rs : List Nat) (E P : Nat) (hgo : Hid (Sk.play mn most L = (ws, rs, E, P))) :
    Calls Try.prog 9 #[.int .i64 mn, .int .i64 most, .slice a L.length c] w fun e w' => ∃ v1 v2, e = .returned (.tuple #[v1, v2, .agg #[.int .i64 E, .int .i64 P]]) ∧ w'.ownsRow w.heap.size 2 1 v1 ws.length (ints ws) ∧ w'.ownsRow w.heap.size 3 1 v2 rs.length (nats rs) ∧ Below w.heap.size w w' := by
  by_cases h : mn < 1 ∨ most < mn ∨ 400 < most
  · refine (play_range mn most L a c w h).mono ?_
    rintro e w' ⟨rfl, hb⟩
    have hh := hgo.out
    unfold Sk.play at hh
    rw [if_pos h] at hh
    simp only [Prod.mk.injEq] at hh
    obtain ⟨rfl, rfl, rfl, rfl⟩ := hh
    exact ⟨_, _, rfl, World.ownsRow_nil _ _ _ _, World.ownsRow_nil _ _ _ _, hb⟩
  · have hh := hgo.out
    unfold Sk.play at hh
    rw [if_neg h] at hh
    obtain ⟨m, rfl⟩ : ∃ m : Nat, mn = m := ⟨mn.toNat, by omega⟩
    obtain ⟨t, rfl⟩ : ∃ t : Nat, most = t := ⟨most.toNat, by omega⟩
    simp only [Int.toNat_natCast] at hh
    exact play_go m t L a c w hin hlen (by omega) (by omega) (by omega) ws rs E P hh

end Go.Proofs.Ytnoecaapmcidhaa

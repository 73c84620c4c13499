/- What a look that found nothing says of definitions, for the document's Print. -/
import Derived.Test.YtlnikpcoejpknaaGreatDoorM37
import Derived.Test.YtlnikpcoejpknaaGreatDoorM41
import Derived.Test.YtlnikpcoejpknaaGreatDoorM39
import Derived.Test.YtlnikpcoejpknaaGreatDoorM2
namespace Go.Proofs.YtlnikpcoejpknaaGreatDoor
open Go.RowKit

/-- Nothing is wrong with a definition, as it stands in some program. -/
structure DfG (d : Sy.Df) : Prop where
  ok : DfOk d
  name : d.name.size ≤ 12
  pms : d.kind = 2 ∨ d.kind = 3 → d.params.length ≤ 6 ∧ (∀ p ∈ d.params, p.name.size ≤ 12) ∧ Sy.wt (Sy.pmsT d.params) ≤ 172
  body : d.kind ≠ 1 → Sy.BdS 39 d.body

theorem pms_names : ∀ (l : List Sy.Pm), Sy.pmsW l = 0 → ∀ p ∈ l, p.name.size ≤ 12
  | [], _, p, hp => by cases hp
  | q :: l, h, p, hp => by
    unfold Sy.pmsW at h
    split at h
    · omega
    · rename_i h1
      split at h
      · rename_i h2; exact absurd h h2
      · rcases List.mem_cons.1 hp with rfl | hp
        · exact Sy.nm_size (by simpa using h1)
        · exact pms_names l h p hp

theorem dfG_of {d : Sy.Df} {n m : Nat} (h : Sy.dfW d n = .ok m) : DfG d := by
  have hok := dfOk_of h
  unfold Sy.dfW at h
  split at h
  · simp at h
  · rename_i h0
    have h0 : Sy.dfHead d n = 0 := by simpa using h0
    unfold Sy.dfHead at h0
    split at h0
    · rename_i h1; exact absurd h0 h1
    · rename_i hn
      have hz := Sy.nodeW_zero (by simpa using hn : Sy.nodeW d.kind 4 40 n = 0)
      split at h0
      · omega
      · rename_i hname
        have hname := Sy.nm_size (by simpa using hname : Sy.nm d.name = true)
        split at h0
        · omega
        · rename_i h6
          split at h0
          · rename_i h1; exact absurd h0 h1.2
          · rename_i hpm
            refine ⟨hok, hname, fun hk => ?_, fun hk => ?_⟩
            · have e6 : d.params.length ≤ 6 := by
                by_cases he : 6 < d.params.length
                · exact absurd ⟨hk, he⟩ h6
                · omega
              have ep : Sy.pmsW d.params = 0 := by
                by_cases he : Sy.pmsW d.params = 0
                · exact he
                · exact absurd ⟨hk, he⟩ hpm
              exact ⟨e6, pms_names _ ep, Sy.pms_wt ep e6⟩
            · rw [if_neg hk] at h
              exact ⟨n + 1, m, by omega, h⟩

theorem defs_mem : ∀ (l : List Sy.Df) (i n : Nat), (Sy.defsW l i n).1 = 0 → ∀ d ∈ l, DfG d
  | [], _, _, _, d, hd => by cases hd
  | e :: l, i, n, h, d, hd => by
    unfold Sy.defsW at h
    cases hw : Sy.dfW e n with
    | error er => rw [hw] at h; exact absurd h (dfW_ne hw)
    | ok m =>
      rw [hw] at h
      rcases List.mem_cons.1 hd with rfl | hd
      · exact dfG_of hw
      · exact defs_mem l (i + 1) m h d hd

/-- What comes of a program with which nothing is wrong. -/
theorem right_all {l : List Sy.Df} (h : (Sy.wrongL l).1 = 0) : l.length ≤ 30 ∧ (∀ d ∈ l, DfG d) ∧ Sy.wt (Sy.progT l) ≤ 800000 := by
  unfold Sy.wrongL at h
  split at h
  · simp at h
  · exact ⟨by omega, defs_mem l 0 0 h, by have := Sy.defs_wt l 0 0 h (by omega); omega⟩

theorem prog_at {l : List Sy.Df} {k : Nat} {d : Sy.Df} (h : l[k]? = some d) : Sy.progT (l.drop k) = Sy.dfT d ++ Sy.progT (l.drop (k + 1)) := by
  obtain ⟨hk, rfl⟩ := List.getElem?_eq_some_iff.1 h
  unfold Sy.progT
  rw [List.drop_eq_getElem_cons hk, List.flatMap_cons]

end Go.Proofs.YtlnikpcoejpknaaGreatDoor

/- The library's table of powers; small laws. -/
namespace Go.Proofs.YtlnikpcoejpknaaGreatDoor
open Go.RowKit

/-- The library's table of powers lies there. -/
def TabW (w : World) : Prop := Lib.TabIs Tryz.prog w "internal/strconv.uint64pow10" .u64 Lib.pow10Tab

theorem TabW.below {w w' : World} (h : TabW w) (hb : Below w.heap.size w w') : TabW w' := tab_on h (fun _ ho => (hb.block 1 (lt_of_block ho)).trans ho)

theorem levelOf_pos (k : Int) : 1 ≤ Sy.levelOf k := by
  unfold Sy.levelOf
  split <;> omega

theorem same_bel {B : Nat} {w w' : World} (h : Below w.heap.size w w') (hB : B ≤ w.heap.size) : Go.Proofs.YtlnikpcoejpknaaGreatDoor.Same B w w' := fun b o hb => h.cell (p := ⟨b, o, none⟩) (Nat.lt_of_lt_of_le hb hB)

theorem bel_next {w w1 w2 : World} {n : Nat} (h : Below w.heap.size w w1) (k : Below n w1 w2) (hn : w.heap.size ≤ n) : Below w.heap.size w w2 := h.trans (k.mono hn)

theorem bel_one (w : World) (o : Obj) : Below w.heap.size w (w.alloc o) := (Below.refl _ w).alloc (Nat.le_refl _) _

end Go.Proofs.YtlnikpcoejpknaaGreatDoor

/- Programs in memory, with more memory above them. -/
namespace Go.Proofs.YtlnikpcoejpknaaGreatDoor
open Go.RowKit

theorem ExIn.wide {B B' : Nat} {w : World} (hB : B ≤ B') : ∀ {h : Nat} {x : Sy.Ex} {a : Option Addr}, ExIn B w h x a → ExIn B' w h x a
  | 0, _, _, hx => hx.elim
  | h + 1, _, _, hx => ⟨hx.1, hx.2.1, fun i k hk => by
    obtain ⟨b, off, a', c', e, hb, c0, c1, c2, c3, hin⟩ := hx.2.2 i k hk
    exact ⟨b, off, a', c', e, by omega, c0, c1, c2, c3, hin.wide hB⟩⟩

theorem StIn.wide {B B' : Nat} {w : World} (hB : B ≤ B') : ∀ {h : Nat} {s : Sy.St} {xa ba ea : Option Addr}, StIn B w h s xa ba ea → StIn B' w h s xa ba ea
  | 0, _, _, _, _, hx => hx.elim
  | h + 1, _, _, _, _, hx => ⟨hx.1, hx.2.1.elim fun n hn => ⟨n, hn.wide hB⟩, hx.2.2.1, hx.2.2.2.1,
    fun i k hk => by
      obtain ⟨b, off, xa', xc, ba', bc, ea', ec, e, hb, c0, c1, c2, c3, c4, c5, c6, c7, hin⟩ := hx.2.2.2.2.1 i k hk
      exact ⟨b, off, xa', xc, ba', bc, ea', ec, e, by omega, c0, c1, c2, c3, c4, c5, c6, c7, hin.wide hB⟩,
    fun i k hk => by
      obtain ⟨b, off, xa', xc, ba', bc, ea', ec, e, hb, c0, c1, c2, c3, c4, c5, c6, c7, hin⟩ := hx.2.2.2.2.2 i k hk
      exact ⟨b, off, xa', xc, ba', bc, ea', ec, e, by omega, c0, c1, c2, c3, c4, c5, c6, c7, hin.wide hB⟩⟩

theorem BodyIn.wide {B B' : Nat} {w : World} (hB : B ≤ B') {h : Nat} {l : List Sy.St} {a : Option Addr} (hx : BodyIn B w h l a) : BodyIn B' w h l a :=
  ⟨hx.1, fun i k hk => by
    obtain ⟨b, off, xa', xc, ba', bc, ea', ec, e, hb, c0, c1, c2, c3, c4, c5, c6, c7, hin⟩ := hx.2 i k hk
    exact ⟨b, off, xa', xc, ba', bc, ea', ec, e, by omega, c0, c1, c2, c3, c4, c5, c6, c7, hin.wide hB⟩⟩

theorem DfIn.wide {B B' : Nat} {w : World} (hB : B ≤ B') {d : Sy.Df} {pa ba : Option Addr} (hx : DfIn B w d pa ba) : DfIn B' w d pa ba := by
  obtain ⟨h1, h2, h3, ⟨hp, hpm⟩, h, hb⟩ := hx
  refine ⟨h1, h2, h3, ⟨hp, fun i p hi => ?_⟩, h, hb.wide hB⟩
  obtain ⟨b, off, e, hb, c0, c1, c2, z1, z2⟩ := hpm i p hi
  exact ⟨b, off, e, by omega, c0, c1, c2, z1, z2⟩

theorem DfsIn.wide {B B' : Nat} {w : World} (hB : B ≤ B') {l : List Sy.Df} {a : Option Addr} (hx : DfsIn B w l a) : DfsIn B' w l a :=
  ⟨hx.1, fun i d hd => by
    obtain ⟨b, off, pa, pc, ba, bc, ha, hb, c0, c1, c2, c3, c4, c5, c6, c7, c8, hin⟩ := hx.2 i d hd
    exact ⟨b, off, pa, pc, ba, bc, ha, by omega, c0, c1, c2, c3, c4, c5, c6, c7, c8, hin.wide hB⟩⟩

end Go.Proofs.YtlnikpcoejpknaaGreatDoor


/- Programs in memory, with more memory above them. -/
import Derived.Test.YtbbklahhnepiaaaDoorIn
namespace Go.Proofs.YtbbklahhnepiaaaDoor
open Go.RowKit

theorem ExIn.wide {B B' : Nat} {w : World} (hB : B ≤ B') : ∀ {h : Nat} {x : Sy.Ex} {a : Option Addr}, ExIn B w h x a → ExIn B' w h x a
  | 0, _, _, hx => hx.elim
  | h + 1, _, _, hx => ⟨hx.1, hx.2.1, fun i k hk => by
    obtain ⟨b, off, a', c', e, hb, c0, c1, c2, c3, hin⟩ := hx.2.2 i k hk
    exact ⟨b, off, a', c', e, by omega, c0, c1, c2, c3, hin.wide hB⟩⟩

theorem StIn.wide {B B' : Nat} {w : World} (hB : B ≤ B') : ∀ {h : Nat} {s : Sy.St} {xa ba ea : Option Addr}, StIn B w h s xa ba ea → StIn B' w h s xa ba ea
  | 0, _, _, _, _, hx => hx.elim
  | h + 1, _, _, _, _, hx => ⟨hx.1, hx.2.1.elim fun n hn => ⟨n, hn.wide hB⟩, hx.2.2.1, hx.2.2.2.1,
    fun i k hk => by
      obtain ⟨b, off, xa', xc, ba', bc, ea', ec, e, hb, c0, c1, c2, c3, c4, c5, c6, c7, hin⟩ := hx.2.2.2.2.1 i k hk
      exact ⟨b, off, xa', xc, ba', bc, ea', ec, e, by omega, c0, c1, c2, c3, c4, c5, c6, c7, hin.wide hB⟩,
    fun i k hk => by
      obtain ⟨b, off, xa', xc, ba', bc, ea', ec, e, hb, c0, c1, c2, c3, c4, c5, c6, c7, hin⟩ := hx.2.2.2.2.2 i k hk
      exact ⟨b, off, xa', xc, ba', bc, ea', ec, e, by omega, c0, c1, c2, c3, c4, c5, c6, c7, hin.wide hB⟩⟩

theorem BodyIn.wide {B B' : Nat} {w : World} (hB : B ≤ B') {h : Nat} {l : List Sy.St} {a : Option Addr} (hx : BodyIn B w h l a) : BodyIn B' w h l a :=
  ⟨hx.1, fun i k hk => by
    obtain ⟨b, off, xa', xc, ba', bc, ea', ec, e, hb, c0, c1, c2, c3, c4, c5, c6, c7, hin⟩ := hx.2 i k hk
    exact ⟨b, off, xa', xc, ba', bc, ea', ec, e, by omega, c0, c1, c2, c3, c4, c5, c6, c7, hin.wide hB⟩⟩

theorem DfIn.wide {B B' : Nat} {w : World} (hB : B ≤ B') {d : Sy.Df} {pa ba : Option Addr} (hx : DfIn B w d pa ba) : DfIn B' w d pa ba := by
  obtain ⟨h1, h2, h3, ⟨hp, hpm⟩, h, hb⟩ := hx
  refine ⟨h1, h2, h3, ⟨hp, fun i p hi => ?_⟩, h, hb.wide hB⟩
  obtain ⟨b, off, e, hb, c0, c1, c2, z1, z2⟩ := hpm i p hi
  exact ⟨b, off, e, by omega, c0, c1, c2, z1, z2⟩

theorem DfsIn.wide {B B' : Nat} {w : World} (hB : B ≤ B') {l : List Sy.Df} {a : Option Addr} (hx : DfsIn B w l a) : DfsIn B' w l a :=
  ⟨hx.1, fun i d hd => by
    obtain ⟨b, off, pa, pc, ba, bc, ha, hb, c0, c1, c2, c3, c4, c5, c6, c7, c8, hin⟩ := hx.2 i d hd
    exact ⟨b, off, pa, pc, ba, bc, ha, by omega, c0, c1, c2, c3, c4, c5, c6, c7, c8, hin.wide hB⟩⟩

end Go.Proofs.YtbbklahhnepiaaaDoor

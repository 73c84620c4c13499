/-
  No cell of these rows narrows 'for every input' (looked for: loops, veiled, ifaces, maps, wideKeys, modest, calm, conditions, laid).
  DERIVED. THE GIVEN ROWS OF THIS SEAT. 6 by the template 'for every input the law returns true; each argument reads behind the call as it read before'; 0 by the template 'total and deterministic' (their statements: YtekjhefmhhcboaaGreatTotals.lean).
  GIVEN WITH THE SEED: the statements are not yours to turn. If you find one false, say at which input.
  Laid BY PROGRAM, IN A SANDBOX (cutbox-rows.mjs): the forced cells as the released guide's own fill.sh prints them over the translation 54c9f1312e6ddebf… (all of the seat's roots in one cut). By AI agents, Wed Nov 11 2026. No macro, syntax, notation, axiom, sorry.
-/
import Derived.Test.YtekjhefmhhcboaaGreatChecked
import GoSem.Claim
import GoSem.ClaimJoined
import GoSem.ClaimMapViews
import Derived.JoinedTies
import Derived.KernelRfl
namespace Go.Proofs.YtekjhefmhhcboaaGreat
/- THE CELL 'sum', in the pinned program and in every row, IS THE sha256 OF THE DUMP (.gsa) THAT YtekjhefmhhcboaaGreatProg.lean LOADS. Nothing in Lean hashes anything: it is a label: what it is worth is what the hold of that sum in a sandbox is worth. -/
noncomputable def Tryz.pinned : Pinned := { name := "ytekjhefmhhcboaagreat", sum := "54c9f1312e6ddebff3ac523834135cf4271e487c331ece2da416420157113d60", checked := Tryz.checked }
namespace Rows
def none {H : Type} : Left H := { results := [], args := [] }

/-- 'yieldlaw10.SchedKahn': WHATEVER THE INPUT: true; the input reads as it did. -/
def schedKahnSpec : ChangeSpec := { name := "schedKahn", fn := fun _ => fun
  | [d1, d2, d3, d4, d5] => { results := [.lit (.bool true)], args := [d1, d2, d3, d4, d5] }
  | _ => none }
def schedKahnRow : OpenClaim := { program := "ytekjhefmhhcboaagreat", sum := "54c9f1312e6ddebff3ac523834135cf4271e487c331ece2da416420157113d60", func := "yieldshape/yieldlaw10.SchedKahn", spec := "schedKahn", unfollowed := true, recurses := true, plainKeys := false, apart := false }
def SchedKahnSaid : Prop := schedKahnRow.holds Tryz.pinned (OpenSpec.ofChange schedKahnSpec)

/-- ITS FALSE NEIGHBOUR: 'it returns false'. Refute it at one input. -/
def schedKahnWrong : ChangeSpec := { name := "schedKahn", fn := fun _ => fun
  | [d1, d2, d3, d4, d5] => { results := [.lit (.bool false)], args := [d1, d2, d3, d4, d5] }
  | _ => none }
def SchedKahnWrongFalsely : Prop := schedKahnRow.holds Tryz.pinned (OpenSpec.ofChange schedKahnWrong)

/-- 'yieldlaw10.SchedQuantum': WHATEVER THE INPUT: true; the input reads as it did. -/
def schedQuantumSpec : ChangeSpec := { name := "schedQuantum", fn := fun _ => fun
  | [d1, d2, d3, d4, d5] => { results := [.lit (.bool true)], args := [d1, d2, d3, d4, d5] }
  | _ => none }
def schedQuantumRow : OpenClaim := { program := "ytekjhefmhhcboaagreat", sum := "54c9f1312e6ddebff3ac523834135cf4271e487c331ece2da416420157113d60", func := "yieldshape/yieldlaw10.SchedQuantum", spec := "schedQuantum", unfollowed := true, recurses := true, plainKeys := false, apart := false }
def SchedQuantumSaid : Prop := schedQuantumRow.holds Tryz.pinned (OpenSpec.ofChange schedQuantumSpec)

/-- ITS FALSE NEIGHBOUR: 'it returns false'. Refute it at one input. -/
def schedQuantumWrong : ChangeSpec := { name := "schedQuantum", fn := fun _ => fun
  | [d1, d2, d3, d4, d5] => { results := [.lit (.bool false)], args := [d1, d2, d3, d4, d5] }
  | _ => none }
def SchedQuantumWrongFalsely : Prop := schedQuantumRow.holds Tryz.pinned (OpenSpec.ofChange schedQuantumWrong)

/-- 'yieldlaw10.SchedCounts': WHATEVER THE INPUT: true; the input reads as it did. -/
def schedCountsSpec : ChangeSpec := { name := "schedCounts", fn := fun _ => fun
  | [d1, d2] => { results := [.lit (.bool true)], args := [d1, d2] }
  | _ => none }
def schedCountsRow : OpenClaim := { program := "ytekjhefmhhcboaagreat", sum := "54c9f1312e6ddebff3ac523834135cf4271e487c331ece2da416420157113d60", func := "yieldshape/yieldlaw10.SchedCounts", spec := "schedCounts", unfollowed := true, recurses := true, plainKeys := false, apart := false }
def SchedCountsSaid : Prop := schedCountsRow.holds Tryz.pinned (OpenSpec.ofChange schedCountsSpec)

/-- ITS FALSE NEIGHBOUR: 'it returns false'. Refute it at one input. -/
def schedCountsWrong : ChangeSpec := { name := "schedCounts", fn := fun _ => fun
  | [d1, d2] => { results := [.lit (.bool false)], args := [d1, d2] }
  | _ => none }
def SchedCountsWrongFalsely : Prop := schedCountsRow.holds Tryz.pinned (OpenSpec.ofChange schedCountsWrong)

/-- 'yieldlaw10.SchedRefused': WHATEVER THE INPUT: true; the input reads as it did. -/
def schedRefusedSpec : ChangeSpec := { name := "schedRefused", fn := fun _ => fun
  | [d1, d2] => { results := [.lit (.bool true)], args := [d1, d2] }
  | _ => none }
def schedRefusedRow : OpenClaim := { program := "ytekjhefmhhcboaagreat", sum := "54c9f1312e6ddebff3ac523834135cf4271e487c331ece2da416420157113d60", func := "yieldshape/yieldlaw10.SchedRefused", spec := "schedRefused", unfollowed := true, recurses := true, plainKeys := false, apart := false }
def SchedRefusedSaid : Prop := schedRefusedRow.holds Tryz.pinned (OpenSpec.ofChange schedRefusedSpec)

/-- ITS FALSE NEIGHBOUR: 'it returns false'. Refute it at one input. -/
def schedRefusedWrong : ChangeSpec := { name := "schedRefused", fn := fun _ => fun
  | [d1, d2] => { results := [.lit (.bool false)], args := [d1, d2] }
  | _ => none }
def SchedRefusedWrongFalsely : Prop := schedRefusedRow.holds Tryz.pinned (OpenSpec.ofChange schedRefusedWrong)

/-- 'yieldlaw10.SchedRest': WHATEVER THE INPUT: true; the input reads as it did. -/
def schedRestSpec : ChangeSpec := { name := "schedRest", fn := fun _ => fun
  | [d1, d2, d3] => { results := [.lit (.bool true)], args := [d1, d2, d3] }
  | _ => none }
def schedRestRow : OpenClaim := { program := "ytekjhefmhhcboaagreat", sum := "54c9f1312e6ddebff3ac523834135cf4271e487c331ece2da416420157113d60", func := "yieldshape/yieldlaw10.SchedRest", spec := "schedRest", unfollowed := true, recurses := true, plainKeys := false, apart := false }
def SchedRestSaid : Prop := schedRestRow.holds Tryz.pinned (OpenSpec.ofChange schedRestSpec)

/-- ITS FALSE NEIGHBOUR: 'it returns false'. Refute it at one input. -/
def schedRestWrong : ChangeSpec := { name := "schedRest", fn := fun _ => fun
  | [d1, d2, d3] => { results := [.lit (.bool false)], args := [d1, d2, d3] }
  | _ => none }
def SchedRestWrongFalsely : Prop := schedRestRow.holds Tryz.pinned (OpenSpec.ofChange schedRestWrong)

/-- 'yieldlaw10.SchedWider': WHATEVER THE INPUT: true; the input reads as it did. -/
def schedWiderSpec : ChangeSpec := { name := "schedWider", fn := fun _ => fun
  | [d1, d2] => { results := [.lit (.bool true)], args := [d1, d2] }
  | _ => none }
def schedWiderRow : OpenClaim := { program := "ytekjhefmhhcboaagreat", sum := "54c9f1312e6ddebff3ac523834135cf4271e487c331ece2da416420157113d60", func := "yieldshape/yieldlaw10.SchedWider", spec := "schedWider", unfollowed := true, recurses := true, plainKeys := false, apart := false }
def SchedWiderSaid : Prop := schedWiderRow.holds Tryz.pinned (OpenSpec.ofChange schedWiderSpec)

/-- ITS FALSE NEIGHBOUR: 'it returns false'. Refute it at one input. -/
def schedWiderWrong : ChangeSpec := { name := "schedWider", fn := fun _ => fun
  | [d1, d2] => { results := [.lit (.bool false)], args := [d1, d2] }
  | _ => none }
def SchedWiderWrongFalsely : Prop := schedWiderRow.holds Tryz.pinned (OpenSpec.ofChange schedWiderWrong)

/- THE SECOND FORM. 'bulk': how many values and letters a reading holds, each counted each time it is reached (what is shared counts as often as it is met; a slice's spare places count too). A statement '..UptoSaid' is the law's where the arguments, and the package variables that the reading takes, are together of bulk at most 1048576: NARROWER than '..Said'. Prove '..Said' where nothing that the law and all that it calls make is longer than what came in: it says more and counts as full. Else prove '..UptoSaid'. A law counts once. -/
mutual
def uptoBulk {H : Type} : DataW H → Nat
  | .lit (.string bytes) => bytes.length + 1
  | .lit _ => 1
  | .nil => 1
  | .ptr d => uptoBulk d + 1
  | .slice elems spare => uptoBulkAll elems + uptoBulkAll spare + 1
  | .agg parts => uptoBulkAll parts + 1
  | .iface _ d => uptoBulk d + 1
  | .map entries => uptoBulkEntries entries + 1
  | .held _ => 1
def uptoBulkAll {H : Type} : List (DataW H) → Nat
  | [] => 0
  | d :: r => uptoBulk d + uptoBulkAll r
def uptoBulkEntries {H : Type} : List (Lit × DataW H) → Nat
  | [] => 0
  | x :: r => uptoBulkEntry x + uptoBulkEntries r
def uptoBulkEntry {H : Type} : Lit × DataW H → Nat
  | (.string bytes, d) => bytes.length + uptoBulk d + 1
  | (_, d) => uptoBulk d + 1
 end
def uptoSmall : (H : Type) → List (DataW H) → Bool := fun _ ds => decide (uptoBulkAll ds ≤ 1048576)
def OpenSpec.upto (s : _root_.Go.ChangeSpec) : _root_.Go.OpenSpec := { _root_.Go.OpenSpec.ofChange s with cond := some uptoSmall }

/-- 'yieldlaw10.SchedKahn', WHERE WHAT IT READS IS OF BULK AT MOST 1048576: true; the input reads as it did. -/
def schedKahnUptoRow : OpenClaim := { program := "ytekjhefmhhcboaagreat", sum := "54c9f1312e6ddebff3ac523834135cf4271e487c331ece2da416420157113d60", func := "yieldshape/yieldlaw10.SchedKahn", spec := "schedKahn", unfollowed := true, recurses := true, plainKeys := false, apart := false, narrowed := true }
def SchedKahnUptoSaid : Prop := schedKahnUptoRow.holds Tryz.pinned (OpenSpec.upto schedKahnSpec)

/-- 'yieldlaw10.SchedQuantum', WHERE WHAT IT READS IS OF BULK AT MOST 1048576: true; the input reads as it did. -/
def schedQuantumUptoRow : OpenClaim := { program := "ytekjhefmhhcboaagreat", sum := "54c9f1312e6ddebff3ac523834135cf4271e487c331ece2da416420157113d60", func := "yieldshape/yieldlaw10.SchedQuantum", spec := "schedQuantum", unfollowed := true, recurses := true, plainKeys := false, apart := false, narrowed := true }
def SchedQuantumUptoSaid : Prop := schedQuantumUptoRow.holds Tryz.pinned (OpenSpec.upto schedQuantumSpec)

/-- 'yieldlaw10.SchedCounts', WHERE WHAT IT READS IS OF BULK AT MOST 1048576: true; the input reads as it did. -/
def schedCountsUptoRow : OpenClaim := { program := "ytekjhefmhhcboaagreat", sum := "54c9f1312e6ddebff3ac523834135cf4271e487c331ece2da416420157113d60", func := "yieldshape/yieldlaw10.SchedCounts", spec := "schedCounts", unfollowed := true, recurses := true, plainKeys := false, apart := false, narrowed := true }
def SchedCountsUptoSaid : Prop := schedCountsUptoRow.holds Tryz.pinned (OpenSpec.upto schedCountsSpec)

/-- 'yieldlaw10.SchedRefused', WHERE WHAT IT READS IS OF BULK AT MOST 1048576: true; the input reads as it did. -/
def schedRefusedUptoRow : OpenClaim := { program := "ytekjhefmhhcboaagreat", sum := "54c9f1312e6ddebff3ac523834135cf4271e487c331ece2da416420157113d60", func := "yieldshape/yieldlaw10.SchedRefused", spec := "schedRefused", unfollowed := true, recurses := true, plainKeys := false, apart := false, narrowed := true }
def SchedRefusedUptoSaid : Prop := schedRefusedUptoRow.holds Tryz.pinned (OpenSpec.upto schedRefusedSpec)

/-- 'yieldlaw10.SchedRest', WHERE WHAT IT READS IS OF BULK AT MOST 1048576: true; the input reads as it did. -/
def schedRestUptoRow : OpenClaim := { program := "ytekjhefmhhcboaagreat", sum := "54c9f1312e6ddebff3ac523834135cf4271e487c331ece2da416420157113d60", func := "yieldshape/yieldlaw10.SchedRest", spec := "schedRest", unfollowed := true, recurses := true, plainKeys := false, apart := false, narrowed := true }
def SchedRestUptoSaid : Prop := schedRestUptoRow.holds Tryz.pinned (OpenSpec.upto schedRestSpec)

/-- 'yieldlaw10.SchedWider', WHERE WHAT IT READS IS OF BULK AT MOST 1048576: true; the input reads as it did. -/
def schedWiderUptoRow : OpenClaim := { program := "ytekjhefmhhcboaagreat", sum := "54c9f1312e6ddebff3ac523834135cf4271e487c331ece2da416420157113d60", func := "yieldshape/yieldlaw10.SchedWider", spec := "schedWider", unfollowed := true, recurses := true, plainKeys := false, apart := false, narrowed := true }
def SchedWiderUptoSaid : Prop := schedWiderUptoRow.holds Tryz.pinned (OpenSpec.upto schedWiderSpec)

end Rows
end Go.Proofs.YtekjhefmhhcboaaGreat

/-
  NARROWER THAN 'FOR EVERY INPUT', by the rows' own cells (each row's printed sentence says how): ShelfFib: laid · ShelfGcd: laid · ShelfGreatest: laid · ShelfPrime: laid · ShelfAverage: laid · ShelfTurns: laid.
  DERIVED. THE GIVEN ROWS OF THIS SEAT. 6 by the template 'for every input the law returns true; each argument reads behind the call as it read before'; 0 by the template 'total and deterministic' (their statements: YthffafaoobpedaaGreatDoorTotals.lean).
  GIVEN WITH THE SEED: the statements are not yours to turn. If you find one false, say at which input.
  Laid BY PROGRAM, IN A SANDBOX (cutbox-rows.mjs): the forced cells as the released guide's own fill.sh prints them over the translation 2d4a135a74ed3dae… (all of the seat's roots in one cut). By AI agents, Wed Nov 11 2026. No macro, syntax, notation, axiom, sorry.
-/
import Derived.Test.YthffafaoobpedaaGreatDoorChecked
import GoSem.Claim
import GoSem.ClaimJoined
import GoSem.ClaimMapViews
import Derived.JoinedTies
import Derived.KernelRfl
namespace Go.Proofs.YthffafaoobpedaaGreatDoor
/- THE CELL 'sum', in the pinned program and in every row, IS THE sha256 OF THE DUMP (.gsa) THAT YthffafaoobpedaaGreatDoorProg.lean LOADS. Nothing in Lean hashes anything: it is a label: what it is worth is what the hold of that sum in a sandbox is worth. -/
noncomputable def Tryz.pinned : Pinned := { name := "ythffafaoobpedaagreatdoor", sum := "2d4a135a74ed3dae82bd666196213b5847d154801cdac98597d15d91e7cacaa7", checked := Tryz.checked }
namespace Rows
def none {H : Type} : Left H := { results := [], args := [] }

/- WHAT THE LISTED PACKAGE-LEVEL VARIABLES READ AS WHEN THE CALL BEGINS. Each datum BY PROGRAM (the guide's laid-datum.mjs) off the statement by which the dump's own 'gosem.cut.vars' lays the variable. In a bare row this is a premise. The card (YthffafaoobpedaaGreatDoorCards.lean) ties it to the program's text. -/
def laid_yieldshape_syn_pairs {H : Type} : DataW H := .agg [.agg [.lit (.int .i64 18), .lit (.string [111, 114]), .lit (.int .i64 1)], .agg [.lit (.int .i64 17), .lit (.string [97, 110, 100]), .lit (.int .i64 2)], .agg [.lit (.int .i64 11), .lit (.string [61, 61]), .lit (.int .i64 3)], .agg [.lit (.int .i64 12), .lit (.string [33, 61]), .lit (.int .i64 3)], .agg [.lit (.int .i64 13), .lit (.string [60]), .lit (.int .i64 3)], .agg [.lit (.int .i64 14), .lit (.string [60, 61]), .lit (.int .i64 3)], .agg [.lit (.int .i64 15), .lit (.string [62]), .lit (.int .i64 3)], .agg [.lit (.int .i64 16), .lit (.string [62, 61]), .lit (.int .i64 3)], .agg [.lit (.int .i64 6), .lit (.string [43]), .lit (.int .i64 4)], .agg [.lit (.int .i64 7), .lit (.string [45]), .lit (.int .i64 4)], .agg [.lit (.int .i64 8), .lit (.string [42]), .lit (.int .i64 5)], .agg [.lit (.int .i64 9), .lit (.string [47]), .lit (.int .i64 5)], .agg [.lit (.int .i64 10), .lit (.string [37]), .lit (.int .i64 5)]]
def laid_yieldshape_sema_number {H : Type} : DataW H := .agg [.lit (.int .i64 1), .lit (.string [])]
def laid_yieldshape_sema_truth {H : Type} : DataW H := .agg [.lit (.int .i64 2), .lit (.string [])]

/-- 'yieldlaw12.ShelfFib': WHATEVER THE INPUT: true; the input reads as it did. -/
def shelfFibSpec : ChangeSpec := { name := "shelfFib", fn := fun _ => fun
  | [d] => { results := [.lit (.bool true)], args := [d] }
  | _ => none }
def shelfFibRow : OpenClaim := { program := "ythffafaoobpedaagreatdoor", sum := "2d4a135a74ed3dae82bd666196213b5847d154801cdac98597d15d91e7cacaa7", func := "yieldshape/yieldlaw12.ShelfFib", spec := "shelfFib", inPlace := ["internal/bytealg.IndexByteString"], unfollowed := true, recurses := true, named := ["yieldshape/syn.pairs", "yieldshape/sema.truth", "yieldshape/sema.number"], plainKeys := false, apart := false, laid := [("yieldshape/syn.pairs", laid_yieldshape_syn_pairs), ("yieldshape/sema.number", laid_yieldshape_sema_number), ("yieldshape/sema.truth", laid_yieldshape_sema_truth)] }
def ShelfFibSaid : Prop := shelfFibRow.holds Tryz.pinned (OpenSpec.ofChange shelfFibSpec)

/-- ITS FALSE NEIGHBOUR: 'it returns false'. Refute it at one input. -/
def shelfFibWrong : ChangeSpec := { name := "shelfFib", fn := fun _ => fun
  | [d] => { results := [.lit (.bool false)], args := [d] }
  | _ => none }
def ShelfFibWrongFalsely : Prop := shelfFibRow.holds Tryz.pinned (OpenSpec.ofChange shelfFibWrong)

/-- 'yieldlaw12.ShelfGcd': WHATEVER THE INPUT: true; the input reads as it did. -/
def shelfGcdSpec : ChangeSpec := { name := "shelfGcd", fn := fun _ => fun
  | [d] => { results := [.lit (.bool true)], args := [d] }
  | _ => none }
def shelfGcdRow : OpenClaim := { program := "ythffafaoobpedaagreatdoor", sum := "2d4a135a74ed3dae82bd666196213b5847d154801cdac98597d15d91e7cacaa7", func := "yieldshape/yieldlaw12.ShelfGcd", spec := "shelfGcd", inPlace := ["internal/bytealg.IndexByteString"], unfollowed := true, recurses := true, named := ["yieldshape/syn.pairs", "yieldshape/sema.truth", "yieldshape/sema.number"], plainKeys := false, apart := false, laid := [("yieldshape/syn.pairs", laid_yieldshape_syn_pairs), ("yieldshape/sema.number", laid_yieldshape_sema_number), ("yieldshape/sema.truth", laid_yieldshape_sema_truth)] }
def ShelfGcdSaid : Prop := shelfGcdRow.holds Tryz.pinned (OpenSpec.ofChange shelfGcdSpec)

/-- ITS FALSE NEIGHBOUR: 'it returns false'. Refute it at one input. -/
def shelfGcdWrong : ChangeSpec := { name := "shelfGcd", fn := fun _ => fun
  | [d] => { results := [.lit (.bool false)], args := [d] }
  | _ => none }
def ShelfGcdWrongFalsely : Prop := shelfGcdRow.holds Tryz.pinned (OpenSpec.ofChange shelfGcdWrong)

/-- 'yieldlaw12.ShelfGreatest': WHATEVER THE INPUT: true; the input reads as it did. -/
def shelfGreatestSpec : ChangeSpec := { name := "shelfGreatest", fn := fun _ => fun
  | [d] => { results := [.lit (.bool true)], args := [d] }
  | _ => none }
def shelfGreatestRow : OpenClaim := { program := "ythffafaoobpedaagreatdoor", sum := "2d4a135a74ed3dae82bd666196213b5847d154801cdac98597d15d91e7cacaa7", func := "yieldshape/yieldlaw12.ShelfGreatest", spec := "shelfGreatest", inPlace := ["internal/bytealg.IndexByteString"], unfollowed := true, recurses := true, named := ["yieldshape/syn.pairs", "yieldshape/sema.truth", "yieldshape/sema.number"], plainKeys := false, apart := false, laid := [("yieldshape/syn.pairs", laid_yieldshape_syn_pairs), ("yieldshape/sema.number", laid_yieldshape_sema_number), ("yieldshape/sema.truth", laid_yieldshape_sema_truth)] }
def ShelfGreatestSaid : Prop := shelfGreatestRow.holds Tryz.pinned (OpenSpec.ofChange shelfGreatestSpec)

/-- ITS FALSE NEIGHBOUR: 'it returns false'. Refute it at one input. -/
def shelfGreatestWrong : ChangeSpec := { name := "shelfGreatest", fn := fun _ => fun
  | [d] => { results := [.lit (.bool false)], args := [d] }
  | _ => none }
def ShelfGreatestWrongFalsely : Prop := shelfGreatestRow.holds Tryz.pinned (OpenSpec.ofChange shelfGreatestWrong)

/-- 'yieldlaw12.ShelfPrime': WHATEVER THE INPUT: true; the input reads as it did. -/
def shelfPrimeSpec : ChangeSpec := { name := "shelfPrime", fn := fun _ => fun
  | [d] => { results := [.lit (.bool true)], args := [d] }
  | _ => none }
def shelfPrimeRow : OpenClaim := { program := "ythffafaoobpedaagreatdoor", sum := "2d4a135a74ed3dae82bd666196213b5847d154801cdac98597d15d91e7cacaa7", func := "yieldshape/yieldlaw12.ShelfPrime", spec := "shelfPrime", inPlace := ["internal/bytealg.IndexByteString"], unfollowed := true, recurses := true, named := ["yieldshape/syn.pairs", "yieldshape/sema.truth", "yieldshape/sema.number"], plainKeys := false, apart := false, laid := [("yieldshape/syn.pairs", laid_yieldshape_syn_pairs), ("yieldshape/sema.number", laid_yieldshape_sema_number), ("yieldshape/sema.truth", laid_yieldshape_sema_truth)] }
def ShelfPrimeSaid : Prop := shelfPrimeRow.holds Tryz.pinned (OpenSpec.ofChange shelfPrimeSpec)

/-- ITS FALSE NEIGHBOUR: 'it returns false'. Refute it at one input. -/
def shelfPrimeWrong : ChangeSpec := { name := "shelfPrime", fn := fun _ => fun
  | [d] => { results := [.lit (.bool false)], args := [d] }
  | _ => none }
def ShelfPrimeWrongFalsely : Prop := shelfPrimeRow.holds Tryz.pinned (OpenSpec.ofChange shelfPrimeWrong)

/-- 'yieldlaw12.ShelfAverage': WHATEVER THE INPUT: true; the input reads as it did. -/
def shelfAverageSpec : ChangeSpec := { name := "shelfAverage", fn := fun _ => fun
  | [d] => { results := [.lit (.bool true)], args := [d] }
  | _ => none }
def shelfAverageRow : OpenClaim := { program := "ythffafaoobpedaagreatdoor", sum := "2d4a135a74ed3dae82bd666196213b5847d154801cdac98597d15d91e7cacaa7", func := "yieldshape/yieldlaw12.ShelfAverage", spec := "shelfAverage", inPlace := ["internal/bytealg.IndexByteString"], unfollowed := true, recurses := true, named := ["yieldshape/syn.pairs", "yieldshape/sema.truth", "yieldshape/sema.number"], plainKeys := false, apart := false, laid := [("yieldshape/syn.pairs", laid_yieldshape_syn_pairs), ("yieldshape/sema.number", laid_yieldshape_sema_number), ("yieldshape/sema.truth", laid_yieldshape_sema_truth)] }
def ShelfAverageSaid : Prop := shelfAverageRow.holds Tryz.pinned (OpenSpec.ofChange shelfAverageSpec)

/-- ITS FALSE NEIGHBOUR: 'it returns false'. Refute it at one input. -/
def shelfAverageWrong : ChangeSpec := { name := "shelfAverage", fn := fun _ => fun
  | [d] => { results := [.lit (.bool false)], args := [d] }
  | _ => none }
def ShelfAverageWrongFalsely : Prop := shelfAverageRow.holds Tryz.pinned (OpenSpec.ofChange shelfAverageWrong)

/-- 'yieldlaw12.ShelfTurns': WHATEVER THE INPUT: true; the input reads as it did. -/
def shelfTurnsSpec : ChangeSpec := { name := "shelfTurns", fn := fun _ => fun
  | [d] => { results := [.lit (.bool true)], args := [d] }
  | _ => none }
def shelfTurnsRow : OpenClaim := { program := "ythffafaoobpedaagreatdoor", sum := "2d4a135a74ed3dae82bd666196213b5847d154801cdac98597d15d91e7cacaa7", func := "yieldshape/yieldlaw12.ShelfTurns", spec := "shelfTurns", inPlace := ["internal/bytealg.IndexByteString"], unfollowed := true, recurses := true, named := ["yieldshape/syn.pairs", "yieldshape/sema.truth", "yieldshape/sema.number"], plainKeys := false, apart := false, laid := [("yieldshape/syn.pairs", laid_yieldshape_syn_pairs), ("yieldshape/sema.number", laid_yieldshape_sema_number), ("yieldshape/sema.truth", laid_yieldshape_sema_truth)] }
def ShelfTurnsSaid : Prop := shelfTurnsRow.holds Tryz.pinned (OpenSpec.ofChange shelfTurnsSpec)

/-- ITS FALSE NEIGHBOUR: 'it returns false'. Refute it at one input. -/
def shelfTurnsWrong : ChangeSpec := { name := "shelfTurns", fn := fun _ => fun
  | [d] => { results := [.lit (.bool false)], args := [d] }
  | _ => none }
def ShelfTurnsWrongFalsely : Prop := shelfTurnsRow.holds Tryz.pinned (OpenSpec.ofChange shelfTurnsWrong)

/- THE SECOND FORM. 'bulk': how many values and letters a reading holds, each counted each time it is reached (what is shared counts as often as it is met; a slice's spare places count too). A statement '..UptoSaid' is the law's where the arguments, and the package variables that the reading takes, are together of bulk at most 1048576: NARROWER than '..Said'. Prove '..Said' where nothing that the law and all that it calls make is longer than what came in: it says more and counts as full. Else prove '..UptoSaid'. A law counts once. -/
mutual
def uptoBulk {H : Type} : DataW H → Nat
  | .lit (.string bytes) => bytes.length + 1
  | .lit _ => 1
  | .nil => 1
  | .ptr d => uptoBulk d + 1
  | .slice elems spare => uptoBulkAll elems + uptoBulkAll spare + 1
  | .agg parts => uptoBulkAll parts + 1
  | .iface _ d => uptoBulk d + 1
  | .map entries => uptoBulkEntries entries + 1
  | .held _ => 1
def uptoBulkAll {H : Type} : List (DataW H) → Nat
  | [] => 0
  | d :: r => uptoBulk d + uptoBulkAll r
def uptoBulkEntries {H : Type} : List (Lit × DataW H) → Nat
  | [] => 0
  | x :: r => uptoBulkEntry x + uptoBulkEntries r
def uptoBulkEntry {H : Type} : Lit × DataW H → Nat
  | (.string bytes, d) => bytes.length + uptoBulk d + 1
  | (_, d) => uptoBulk d + 1
 end
def uptoSmall : (H : Type) → List (DataW H) → Bool := fun _ ds => decide (uptoBulkAll ds ≤ 1048576)
def OpenSpec.upto (s : _root_.Go.ChangeSpec) : _root_.Go.OpenSpec := { _root_.Go.OpenSpec.ofChange s with cond := some uptoSmall }

/-- 'yieldlaw12.ShelfFib', WHERE WHAT IT READS IS OF BULK AT MOST 1048576: true; the input reads as it did. -/
def shelfFibUptoRow : OpenClaim := { program := "ythffafaoobpedaagreatdoor", sum := "2d4a135a74ed3dae82bd666196213b5847d154801cdac98597d15d91e7cacaa7", func := "yieldshape/yieldlaw12.ShelfFib", spec := "shelfFib", inPlace := ["internal/bytealg.IndexByteString"], unfollowed := true, recurses := true, named := ["yieldshape/syn.pairs", "yieldshape/sema.truth", "yieldshape/sema.number"], plainKeys := false, apart := false, laid := [("yieldshape/syn.pairs", laid_yieldshape_syn_pairs), ("yieldshape/sema.number", laid_yieldshape_sema_number), ("yieldshape/sema.truth", laid_yieldshape_sema_truth)], narrowed := true }
def ShelfFibUptoSaid : Prop := shelfFibUptoRow.holds Tryz.pinned (OpenSpec.upto shelfFibSpec)

/-- 'yieldlaw12.ShelfGcd', WHERE WHAT IT READS IS OF BULK AT MOST 1048576: true; the input reads as it did. -/
def shelfGcdUptoRow : OpenClaim := { program := "ythffafaoobpedaagreatdoor", sum := "2d4a135a74ed3dae82bd666196213b5847d154801cdac98597d15d91e7cacaa7", func := "yieldshape/yieldlaw12.ShelfGcd", spec := "shelfGcd", inPlace := ["internal/bytealg.IndexByteString"], unfollowed := true, recurses := true, named := ["yieldshape/syn.pairs", "yieldshape/sema.truth", "yieldshape/sema.number"], plainKeys := false, apart := false, laid := [("yieldshape/syn.pairs", laid_yieldshape_syn_pairs), ("yieldshape/sema.number", laid_yieldshape_sema_number), ("yieldshape/sema.truth", laid_yieldshape_sema_truth)], narrowed := true }
def ShelfGcdUptoSaid : Prop := shelfGcdUptoRow.holds Tryz.pinned (OpenSpec.upto shelfGcdSpec)

/-- 'yieldlaw12.ShelfGreatest', WHERE WHAT IT READS IS OF BULK AT MOST 1048576: true; the input reads as it did. -/
def shelfGreatestUptoRow : OpenClaim := { program := "ythffafaoobpedaagreatdoor", sum := "2d4a135a74ed3dae82bd666196213b5847d154801cdac98597d15d91e7cacaa7", func := "yieldshape/yieldlaw12.ShelfGreatest", spec := "shelfGreatest", inPlace := ["internal/bytealg.IndexByteString"], unfollowed := true, recurses := true, named := ["yieldshape/syn.pairs", "yieldshape/sema.truth", "yieldshape/sema.number"], plainKeys := false, apart := false, laid := [("yieldshape/syn.pairs", laid_yieldshape_syn_pairs), ("yieldshape/sema.number", laid_yieldshape_sema_number), ("yieldshape/sema.truth", laid_yieldshape_sema_truth)], narrowed := true }
def ShelfGreatestUptoSaid : Prop := shelfGreatestUptoRow.holds Tryz.pinned (OpenSpec.upto shelfGreatestSpec)

/-- 'yieldlaw12.ShelfPrime', WHERE WHAT IT READS IS OF BULK AT MOST 1048576: true; the input reads as it did. -/
def shelfPrimeUptoRow : OpenClaim := { program := "ythffafaoobpedaagreatdoor", sum := "2d4a135a74ed3dae82bd666196213b5847d154801cdac98597d15d91e7cacaa7", func := "yieldshape/yieldlaw12.ShelfPrime", spec := "shelfPrime", inPlace := ["internal/bytealg.IndexByteString"], unfollowed := true, recurses := true, named := ["yieldshape/syn.pairs", "yieldshape/sema.truth", "yieldshape/sema.number"], plainKeys := false, apart := false, laid := [("yieldshape/syn.pairs", laid_yieldshape_syn_pairs), ("yieldshape/sema.number", laid_yieldshape_sema_number), ("yieldshape/sema.truth", laid_yieldshape_sema_truth)], narrowed := true }
def ShelfPrimeUptoSaid : Prop := shelfPrimeUptoRow.holds Tryz.pinned (OpenSpec.upto shelfPrimeSpec)

/-- 'yieldlaw12.ShelfAverage', WHERE WHAT IT READS IS OF BULK AT MOST 1048576: true; the input reads as it did. -/
def shelfAverageUptoRow : OpenClaim := { program := "ythffafaoobpedaagreatdoor", sum := "2d4a135a74ed3dae82bd666196213b5847d154801cdac98597d15d91e7cacaa7", func := "yieldshape/yieldlaw12.ShelfAverage", spec := "shelfAverage", inPlace := ["internal/bytealg.IndexByteString"], unfollowed := true, recurses := true, named := ["yieldshape/syn.pairs", "yieldshape/sema.truth", "yieldshape/sema.number"], plainKeys := false, apart := false, laid := [("yieldshape/syn.pairs", laid_yieldshape_syn_pairs), ("yieldshape/sema.number", laid_yieldshape_sema_number), ("yieldshape/sema.truth", laid_yieldshape_sema_truth)], narrowed := true }
def ShelfAverageUptoSaid : Prop := shelfAverageUptoRow.holds Tryz.pinned (OpenSpec.upto shelfAverageSpec)

/-- 'yieldlaw12.ShelfTurns', WHERE WHAT IT READS IS OF BULK AT MOST 1048576: true; the input reads as it did. -/
def shelfTurnsUptoRow : OpenClaim := { program := "ythffafaoobpedaagreatdoor", sum := "2d4a135a74ed3dae82bd666196213b5847d154801cdac98597d15d91e7cacaa7", func := "yieldshape/yieldlaw12.ShelfTurns", spec := "shelfTurns", inPlace := ["internal/bytealg.IndexByteString"], unfollowed := true, recurses := true, named := ["yieldshape/syn.pairs", "yieldshape/sema.truth", "yieldshape/sema.number"], plainKeys := false, apart := false, laid := [("yieldshape/syn.pairs", laid_yieldshape_syn_pairs), ("yieldshape/sema.number", laid_yieldshape_sema_number), ("yieldshape/sema.truth", laid_yieldshape_sema_truth)], narrowed := true }
def ShelfTurnsUptoSaid : Prop := shelfTurnsUptoRow.holds Tryz.pinned (OpenSpec.upto shelfTurnsSpec)

end Rows
end Go.Proofs.YthffafaoobpedaaGreatDoor

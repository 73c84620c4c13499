/-
  NARROWER THAN 'FOR EVERY INPUT', by the rows' own cells (each row's printed sentence says how): GraphEnds: laid · GraphCircle: laid.
  DERIVED. THE GIVEN ROWS OF THIS SEAT. 2 by the template 'for every input the law returns true; each argument reads behind the call as it read before'; 0 by the template 'total and deterministic' (their statements: YtfcpglhpolpdcaaGreatDoorTotals.lean).
  GIVEN WITH THE SEED: the statements are not yours to turn. If you find one false, say at which input.
  Laid BY PROGRAM, IN A SANDBOX (cutbox-rows.mjs): the forced cells as the released guide's own fill.sh prints them over the translation b8c8595f39c8315c… (all of the seat's roots in one cut). By AI agents, Wed Nov 11 2026. No macro, syntax, notation, axiom, sorry.
-/
import Derived.Test.YtfcpglhpolpdcaaGreatDoorChecked
import GoSem.Claim
import GoSem.ClaimJoined
import GoSem.ClaimMapViews
import Derived.JoinedTies
import Derived.KernelRfl
namespace Go.Proofs.YtfcpglhpolpdcaaGreatDoor
/- THE CELL 'sum', in the pinned program and in every row, IS THE sha256 OF THE DUMP (.gsa) THAT YtfcpglhpolpdcaaGreatDoorProg.lean LOADS. Nothing in Lean hashes anything: it is a label: what it is worth is what the hold of that sum in a sandbox is worth. -/
noncomputable def Tryz.pinned : Pinned := { name := "ytfcpglhpolpdcaagreatdoor", sum := "b8c8595f39c8315c63d8e1f74a9aaf4f5ac1d17e7bb47d283dab838b404df086", checked := Tryz.checked }
namespace Rows
def none {H : Type} : Left H := { results := [], args := [] }

/- WHAT THE LISTED PACKAGE-LEVEL VARIABLES READ AS WHEN THE CALL BEGINS. Each datum BY PROGRAM (the guide's laid-datum.mjs) off the statement by which the dump's own 'gosem.cut.vars' lays the variable. In a bare row this is a premise. The card (YtfcpglhpolpdcaaGreatDoorCards.lean) ties it to the program's text. -/
def laid_yieldshape_syn_pairs {H : Type} : DataW H := .agg [.agg [.lit (.int .i64 18), .lit (.string [111, 114]), .lit (.int .i64 1)], .agg [.lit (.int .i64 17), .lit (.string [97, 110, 100]), .lit (.int .i64 2)], .agg [.lit (.int .i64 11), .lit (.string [61, 61]), .lit (.int .i64 3)], .agg [.lit (.int .i64 12), .lit (.string [33, 61]), .lit (.int .i64 3)], .agg [.lit (.int .i64 13), .lit (.string [60]), .lit (.int .i64 3)], .agg [.lit (.int .i64 14), .lit (.string [60, 61]), .lit (.int .i64 3)], .agg [.lit (.int .i64 15), .lit (.string [62]), .lit (.int .i64 3)], .agg [.lit (.int .i64 16), .lit (.string [62, 61]), .lit (.int .i64 3)], .agg [.lit (.int .i64 6), .lit (.string [43]), .lit (.int .i64 4)], .agg [.lit (.int .i64 7), .lit (.string [45]), .lit (.int .i64 4)], .agg [.lit (.int .i64 8), .lit (.string [42]), .lit (.int .i64 5)], .agg [.lit (.int .i64 9), .lit (.string [47]), .lit (.int .i64 5)], .agg [.lit (.int .i64 10), .lit (.string [37]), .lit (.int .i64 5)]]
def laid_yieldshape_sema_number {H : Type} : DataW H := .agg [.lit (.int .i64 1), .lit (.string [])]
def laid_yieldshape_sema_truth {H : Type} : DataW H := .agg [.lit (.int .i64 2), .lit (.string [])]

/-- 'yieldlaw15.GraphEnds': WHATEVER THE INPUT: true; the input reads as it did. -/
def graphEndsSpec : ChangeSpec := { name := "graphEnds", fn := fun _ => fun
  | [d1, d2, d3, d4] => { results := [.lit (.bool true)], args := [d1, d2, d3, d4] }
  | _ => none }
def graphEndsRow : OpenClaim := { program := "ytfcpglhpolpdcaagreatdoor", sum := "b8c8595f39c8315c63d8e1f74a9aaf4f5ac1d17e7bb47d283dab838b404df086", func := "yieldshape/yieldlaw15.GraphEnds", spec := "graphEnds", inPlace := ["internal/bytealg.IndexByteString"], unfollowed := true, recurses := true, named := ["yieldshape/syn.pairs", "yieldshape/sema.truth", "yieldshape/sema.number"], plainKeys := false, apart := false, laid := [("yieldshape/syn.pairs", laid_yieldshape_syn_pairs), ("yieldshape/sema.number", laid_yieldshape_sema_number), ("yieldshape/sema.truth", laid_yieldshape_sema_truth)] }
def GraphEndsSaid : Prop := graphEndsRow.holds Tryz.pinned (OpenSpec.ofChange graphEndsSpec)

/-- ITS FALSE NEIGHBOUR: 'it returns false'. Refute it at one input. -/
def graphEndsWrong : ChangeSpec := { name := "graphEnds", fn := fun _ => fun
  | [d1, d2, d3, d4] => { results := [.lit (.bool false)], args := [d1, d2, d3, d4] }
  | _ => none }
def GraphEndsWrongFalsely : Prop := graphEndsRow.holds Tryz.pinned (OpenSpec.ofChange graphEndsWrong)

/-- 'yieldlaw15.GraphCircle': WHATEVER THE INPUT: true; the input reads as it did. -/
def graphCircleSpec : ChangeSpec := { name := "graphCircle", fn := fun _ => fun
  | [d1, d2, d3] => { results := [.lit (.bool true)], args := [d1, d2, d3] }
  | _ => none }
def graphCircleRow : OpenClaim := { program := "ytfcpglhpolpdcaagreatdoor", sum := "b8c8595f39c8315c63d8e1f74a9aaf4f5ac1d17e7bb47d283dab838b404df086", func := "yieldshape/yieldlaw15.GraphCircle", spec := "graphCircle", inPlace := ["internal/bytealg.IndexByteString"], unfollowed := true, recurses := true, named := ["yieldshape/syn.pairs", "yieldshape/sema.truth", "yieldshape/sema.number"], plainKeys := false, apart := false, laid := [("yieldshape/syn.pairs", laid_yieldshape_syn_pairs), ("yieldshape/sema.number", laid_yieldshape_sema_number), ("yieldshape/sema.truth", laid_yieldshape_sema_truth)] }
def GraphCircleSaid : Prop := graphCircleRow.holds Tryz.pinned (OpenSpec.ofChange graphCircleSpec)

/-- ITS FALSE NEIGHBOUR: 'it returns false'. Refute it at one input. -/
def graphCircleWrong : ChangeSpec := { name := "graphCircle", fn := fun _ => fun
  | [d1, d2, d3] => { results := [.lit (.bool false)], args := [d1, d2, d3] }
  | _ => none }
def GraphCircleWrongFalsely : Prop := graphCircleRow.holds Tryz.pinned (OpenSpec.ofChange graphCircleWrong)

/- THE SECOND FORM. 'bulk': how many values and letters a reading holds, each counted each time it is reached (what is shared counts as often as it is met; a slice's spare places count too). A statement '..UptoSaid' is the law's where the arguments, and the package variables that the reading takes, are together of bulk at most 1048576: NARROWER than '..Said'. Prove '..Said' where nothing that the law and all that it calls make is longer than what came in: it says more and counts as full. Else prove '..UptoSaid'. A law counts once. -/
mutual
def uptoBulk {H : Type} : DataW H → Nat
  | .lit (.string bytes) => bytes.length + 1
  | .lit _ => 1
  | .nil => 1
  | .ptr d => uptoBulk d + 1
  | .slice elems spare => uptoBulkAll elems + uptoBulkAll spare + 1
  | .agg parts => uptoBulkAll parts + 1
  | .iface _ d => uptoBulk d + 1
  | .map entries => uptoBulkEntries entries + 1
  | .held _ => 1
def uptoBulkAll {H : Type} : List (DataW H) → Nat
  | [] => 0
  | d :: r => uptoBulk d + uptoBulkAll r
def uptoBulkEntries {H : Type} : List (Lit × DataW H) → Nat
  | [] => 0
  | x :: r => uptoBulkEntry x + uptoBulkEntries r
def uptoBulkEntry {H : Type} : Lit × DataW H → Nat
  | (.string bytes, d) => bytes.length + uptoBulk d + 1
  | (_, d) => uptoBulk d + 1
 end
def uptoSmall : (H : Type) → List (DataW H) → Bool := fun _ ds => decide (uptoBulkAll ds ≤ 1048576)
def OpenSpec.upto (s : _root_.Go.ChangeSpec) : _root_.Go.OpenSpec := { _root_.Go.OpenSpec.ofChange s with cond := some uptoSmall }

/-- 'yieldlaw15.GraphEnds', WHERE WHAT IT READS IS OF BULK AT MOST 1048576: true; the input reads as it did. -/
def graphEndsUptoRow : OpenClaim := { program := "ytfcpglhpolpdcaagreatdoor", sum := "b8c8595f39c8315c63d8e1f74a9aaf4f5ac1d17e7bb47d283dab838b404df086", func := "yieldshape/yieldlaw15.GraphEnds", spec := "graphEnds", inPlace := ["internal/bytealg.IndexByteString"], unfollowed := true, recurses := true, named := ["yieldshape/syn.pairs", "yieldshape/sema.truth", "yieldshape/sema.number"], plainKeys := false, apart := false, laid := [("yieldshape/syn.pairs", laid_yieldshape_syn_pairs), ("yieldshape/sema.number", laid_yieldshape_sema_number), ("yieldshape/sema.truth", laid_yieldshape_sema_truth)], narrowed := true }
def GraphEndsUptoSaid : Prop := graphEndsUptoRow.holds Tryz.pinned (OpenSpec.upto graphEndsSpec)

/-- 'yieldlaw15.GraphCircle', WHERE WHAT IT READS IS OF BULK AT MOST 1048576: true; the input reads as it did. -/
def graphCircleUptoRow : OpenClaim := { program := "ytfcpglhpolpdcaagreatdoor", sum := "b8c8595f39c8315c63d8e1f74a9aaf4f5ac1d17e7bb47d283dab838b404df086", func := "yieldshape/yieldlaw15.GraphCircle", spec := "graphCircle", inPlace := ["internal/bytealg.IndexByteString"], unfollowed := true, recurses := true, named := ["yieldshape/syn.pairs", "yieldshape/sema.truth", "yieldshape/sema.number"], plainKeys := false, apart := false, laid := [("yieldshape/syn.pairs", laid_yieldshape_syn_pairs), ("yieldshape/sema.number", laid_yieldshape_sema_number), ("yieldshape/sema.truth", laid_yieldshape_sema_truth)], narrowed := true }
def GraphCircleUptoSaid : Prop := graphCircleUptoRow.holds Tryz.pinned (OpenSpec.upto graphCircleSpec)

end Rows
end Go.Proofs.YtfcpglhpolpdcaaGreatDoor

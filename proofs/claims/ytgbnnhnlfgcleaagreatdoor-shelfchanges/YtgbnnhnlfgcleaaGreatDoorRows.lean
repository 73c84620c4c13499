/-
  NARROWER THAN 'FOR EVERY INPUT', by the rows' own cells (each row's printed sentence says how): ShelfDouble: laid · ShelfSums: laid · ShelfPairs: laid · ShelfEvens: laid · ShelfChanges: laid · ShelfFib: laid.
  DERIVED. THE GIVEN ROWS OF THIS SEAT. 6 by the template 'for every input the law returns true; each argument reads behind the call as it read before'; 0 by the template 'total and deterministic' (their statements: YtgbnnhnlfgcleaaGreatDoorTotals.lean).
  GIVEN WITH THE SEED: the statements are not yours to turn. If you find one false, say at which input.
  Laid BY PROGRAM, IN A SANDBOX (cutbox-rows.mjs): the forced cells as the released guide's own fill.sh prints them over the translation d8cd103fa8f1eecd… (all of the seat's roots in one cut). By AI agents, Wed Nov 11 2026. No macro, syntax, notation, axiom, sorry.
-/
import Derived.Test.YtgbnnhnlfgcleaaGreatDoorChecked
import GoSem.Claim
import GoSem.ClaimJoined
import GoSem.ClaimMapViews
import Derived.JoinedTies
import Derived.KernelRfl
namespace Go.Proofs.YtgbnnhnlfgcleaaGreatDoor
/- THE CELL 'sum', in the pinned program and in every row, IS THE sha256 OF THE DUMP (.gsa) THAT YtgbnnhnlfgcleaaGreatDoorProg.lean LOADS. Nothing in Lean hashes anything: it is a label: what it is worth is what the hold of that sum in a sandbox is worth. -/
noncomputable def Tryz.pinned : Pinned := { name := "ytgbnnhnlfgcleaagreatdoor", sum := "d8cd103fa8f1eecd33dbbe18628a6120ef0720cc97bba2002197ab4f30e87b82", checked := Tryz.checked }
namespace Rows
def none {H : Type} : Left H := { results := [], args := [] }

/- WHAT THE LISTED PACKAGE-LEVEL VARIABLES READ AS WHEN THE CALL BEGINS. Each datum BY PROGRAM (the guide's laid-datum.mjs) off the statement by which the dump's own 'gosem.cut.vars' lays the variable. In a bare row this is a premise. The card (YtgbnnhnlfgcleaaGreatDoorCards.lean) ties it to the program's text. -/
def laid_yieldshape_syn_pairs {H : Type} : DataW H := .agg [.agg [.lit (.int .i64 18), .lit (.string [111, 114]), .lit (.int .i64 1)], .agg [.lit (.int .i64 17), .lit (.string [97, 110, 100]), .lit (.int .i64 2)], .agg [.lit (.int .i64 11), .lit (.string [61, 61]), .lit (.int .i64 3)], .agg [.lit (.int .i64 12), .lit (.string [33, 61]), .lit (.int .i64 3)], .agg [.lit (.int .i64 13), .lit (.string [60]), .lit (.int .i64 3)], .agg [.lit (.int .i64 14), .lit (.string [60, 61]), .lit (.int .i64 3)], .agg [.lit (.int .i64 15), .lit (.string [62]), .lit (.int .i64 3)], .agg [.lit (.int .i64 16), .lit (.string [62, 61]), .lit (.int .i64 3)], .agg [.lit (.int .i64 6), .lit (.string [43]), .lit (.int .i64 4)], .agg [.lit (.int .i64 7), .lit (.string [45]), .lit (.int .i64 4)], .agg [.lit (.int .i64 8), .lit (.string [42]), .lit (.int .i64 5)], .agg [.lit (.int .i64 9), .lit (.string [47]), .lit (.int .i64 5)], .agg [.lit (.int .i64 10), .lit (.string [37]), .lit (.int .i64 5)]]
def laid_yieldshape_sema_number {H : Type} : DataW H := .agg [.lit (.int .i64 1), .lit (.string [])]
def laid_yieldshape_sema_truth {H : Type} : DataW H := .agg [.lit (.int .i64 2), .lit (.string [])]

/-- 'yieldlaw12.ShelfDouble': WHATEVER THE INPUT: true; the input reads as it did. -/
def shelfDoubleSpec : ChangeSpec := { name := "shelfDouble", fn := fun _ => fun
  | [d] => { results := [.lit (.bool true)], args := [d] }
  | _ => none }
def shelfDoubleRow : OpenClaim := { program := "ytgbnnhnlfgcleaagreatdoor", sum := "d8cd103fa8f1eecd33dbbe18628a6120ef0720cc97bba2002197ab4f30e87b82", func := "yieldshape/yieldlaw12.ShelfDouble", spec := "shelfDouble", inPlace := ["internal/bytealg.IndexByteString"], unfollowed := true, recurses := true, named := ["yieldshape/syn.pairs", "yieldshape/sema.truth", "yieldshape/sema.number"], plainKeys := false, apart := false, laid := [("yieldshape/syn.pairs", laid_yieldshape_syn_pairs), ("yieldshape/sema.number", laid_yieldshape_sema_number), ("yieldshape/sema.truth", laid_yieldshape_sema_truth)] }
def ShelfDoubleSaid : Prop := shelfDoubleRow.holds Tryz.pinned (OpenSpec.ofChange shelfDoubleSpec)

/-- ITS FALSE NEIGHBOUR: 'it returns false'. Refute it at one input. -/
def shelfDoubleWrong : ChangeSpec := { name := "shelfDouble", fn := fun _ => fun
  | [d] => { results := [.lit (.bool false)], args := [d] }
  | _ => none }
def ShelfDoubleWrongFalsely : Prop := shelfDoubleRow.holds Tryz.pinned (OpenSpec.ofChange shelfDoubleWrong)

/-- 'yieldlaw12.ShelfSums': WHATEVER THE INPUT: true; the input reads as it did. -/
def shelfSumsSpec : ChangeSpec := { name := "shelfSums", fn := fun _ => fun
  | [d] => { results := [.lit (.bool true)], args := [d] }
  | _ => none }
def shelfSumsRow : OpenClaim := { program := "ytgbnnhnlfgcleaagreatdoor", sum := "d8cd103fa8f1eecd33dbbe18628a6120ef0720cc97bba2002197ab4f30e87b82", func := "yieldshape/yieldlaw12.ShelfSums", spec := "shelfSums", inPlace := ["internal/bytealg.IndexByteString"], unfollowed := true, recurses := true, named := ["yieldshape/syn.pairs", "yieldshape/sema.truth", "yieldshape/sema.number"], plainKeys := false, apart := false, laid := [("yieldshape/syn.pairs", laid_yieldshape_syn_pairs), ("yieldshape/sema.number", laid_yieldshape_sema_number), ("yieldshape/sema.truth", laid_yieldshape_sema_truth)] }
def ShelfSumsSaid : Prop := shelfSumsRow.holds Tryz.pinned (OpenSpec.ofChange shelfSumsSpec)

/-- ITS FALSE NEIGHBOUR: 'it returns false'. Refute it at one input. -/
def shelfSumsWrong : ChangeSpec := { name := "shelfSums", fn := fun _ => fun
  | [d] => { results := [.lit (.bool false)], args := [d] }
  | _ => none }
def ShelfSumsWrongFalsely : Prop := shelfSumsRow.holds Tryz.pinned (OpenSpec.ofChange shelfSumsWrong)

/-- 'yieldlaw12.ShelfPairs': WHATEVER THE INPUT: true; the input reads as it did. -/
def shelfPairsSpec : ChangeSpec := { name := "shelfPairs", fn := fun _ => fun
  | [d] => { results := [.lit (.bool true)], args := [d] }
  | _ => none }
def shelfPairsRow : OpenClaim := { program := "ytgbnnhnlfgcleaagreatdoor", sum := "d8cd103fa8f1eecd33dbbe18628a6120ef0720cc97bba2002197ab4f30e87b82", func := "yieldshape/yieldlaw12.ShelfPairs", spec := "shelfPairs", inPlace := ["internal/bytealg.IndexByteString"], unfollowed := true, recurses := true, named := ["yieldshape/syn.pairs", "yieldshape/sema.truth", "yieldshape/sema.number"], plainKeys := false, apart := false, laid := [("yieldshape/syn.pairs", laid_yieldshape_syn_pairs), ("yieldshape/sema.number", laid_yieldshape_sema_number), ("yieldshape/sema.truth", laid_yieldshape_sema_truth)] }
def ShelfPairsSaid : Prop := shelfPairsRow.holds Tryz.pinned (OpenSpec.ofChange shelfPairsSpec)

/-- ITS FALSE NEIGHBOUR: 'it returns false'. Refute it at one input. -/
def shelfPairsWrong : ChangeSpec := { name := "shelfPairs", fn := fun _ => fun
  | [d] => { results := [.lit (.bool false)], args := [d] }
  | _ => none }
def ShelfPairsWrongFalsely : Prop := shelfPairsRow.holds Tryz.pinned (OpenSpec.ofChange shelfPairsWrong)

/-- 'yieldlaw12.ShelfEvens': WHATEVER THE INPUT: true; the input reads as it did. -/
def shelfEvensSpec : ChangeSpec := { name := "shelfEvens", fn := fun _ => fun
  | [d] => { results := [.lit (.bool true)], args := [d] }
  | _ => none }
def shelfEvensRow : OpenClaim := { program := "ytgbnnhnlfgcleaagreatdoor", sum := "d8cd103fa8f1eecd33dbbe18628a6120ef0720cc97bba2002197ab4f30e87b82", func := "yieldshape/yieldlaw12.ShelfEvens", spec := "shelfEvens", inPlace := ["internal/bytealg.IndexByteString"], unfollowed := true, recurses := true, named := ["yieldshape/syn.pairs", "yieldshape/sema.truth", "yieldshape/sema.number"], plainKeys := false, apart := false, laid := [("yieldshape/syn.pairs", laid_yieldshape_syn_pairs), ("yieldshape/sema.number", laid_yieldshape_sema_number), ("yieldshape/sema.truth", laid_yieldshape_sema_truth)] }
def ShelfEvensSaid : Prop := shelfEvensRow.holds Tryz.pinned (OpenSpec.ofChange shelfEvensSpec)

/-- ITS FALSE NEIGHBOUR: 'it returns false'. Refute it at one input. -/
def shelfEvensWrong : ChangeSpec := { name := "shelfEvens", fn := fun _ => fun
  | [d] => { results := [.lit (.bool false)], args := [d] }
  | _ => none }
def ShelfEvensWrongFalsely : Prop := shelfEvensRow.holds Tryz.pinned (OpenSpec.ofChange shelfEvensWrong)

/-- 'yieldlaw12.ShelfChanges': WHATEVER THE INPUT: true; the input reads as it did. -/
def shelfChangesSpec : ChangeSpec := { name := "shelfChanges", fn := fun _ => fun
  | [d] => { results := [.lit (.bool true)], args := [d] }
  | _ => none }
def shelfChangesRow : OpenClaim := { program := "ytgbnnhnlfgcleaagreatdoor", sum := "d8cd103fa8f1eecd33dbbe18628a6120ef0720cc97bba2002197ab4f30e87b82", func := "yieldshape/yieldlaw12.ShelfChanges", spec := "shelfChanges", inPlace := ["internal/bytealg.IndexByteString"], unfollowed := true, recurses := true, named := ["yieldshape/syn.pairs", "yieldshape/sema.truth", "yieldshape/sema.number"], plainKeys := false, apart := false, laid := [("yieldshape/syn.pairs", laid_yieldshape_syn_pairs), ("yieldshape/sema.number", laid_yieldshape_sema_number), ("yieldshape/sema.truth", laid_yieldshape_sema_truth)] }
def ShelfChangesSaid : Prop := shelfChangesRow.holds Tryz.pinned (OpenSpec.ofChange shelfChangesSpec)

/-- ITS FALSE NEIGHBOUR: 'it returns false'. Refute it at one input. -/
def shelfChangesWrong : ChangeSpec := { name := "shelfChanges", fn := fun _ => fun
  | [d] => { results := [.lit (.bool false)], args := [d] }
  | _ => none }
def ShelfChangesWrongFalsely : Prop := shelfChangesRow.holds Tryz.pinned (OpenSpec.ofChange shelfChangesWrong)

/-- 'yieldlaw12.ShelfFib': WHATEVER THE INPUT: true; the input reads as it did. -/
def shelfFibSpec : ChangeSpec := { name := "shelfFib", fn := fun _ => fun
  | [d] => { results := [.lit (.bool true)], args := [d] }
  | _ => none }
def shelfFibRow : OpenClaim := { program := "ytgbnnhnlfgcleaagreatdoor", sum := "d8cd103fa8f1eecd33dbbe18628a6120ef0720cc97bba2002197ab4f30e87b82", func := "yieldshape/yieldlaw12.ShelfFib", spec := "shelfFib", inPlace := ["internal/bytealg.IndexByteString"], unfollowed := true, recurses := true, named := ["yieldshape/syn.pairs", "yieldshape/sema.truth", "yieldshape/sema.number"], plainKeys := false, apart := false, laid := [("yieldshape/syn.pairs", laid_yieldshape_syn_pairs), ("yieldshape/sema.number", laid_yieldshape_sema_number), ("yieldshape/sema.truth", laid_yieldshape_sema_truth)] }
def ShelfFibSaid : Prop := shelfFibRow.holds Tryz.pinned (OpenSpec.ofChange shelfFibSpec)

/-- ITS FALSE NEIGHBOUR: 'it returns false'. Refute it at one input. -/
def shelfFibWrong : ChangeSpec := { name := "shelfFib", fn := fun _ => fun
  | [d] => { results := [.lit (.bool false)], args := [d] }
  | _ => none }
def ShelfFibWrongFalsely : Prop := shelfFibRow.holds Tryz.pinned (OpenSpec.ofChange shelfFibWrong)

/- THE SECOND FORM. 'bulk': how many values and letters a reading holds, each counted each time it is reached (what is shared counts as often as it is met; a slice's spare places count too). A statement '..UptoSaid' is the law's where the arguments, and the package variables that the reading takes, are together of bulk at most 1048576: NARROWER than '..Said'. Prove '..Said' where nothing that the law and all that it calls make is longer than what came in: it says more and counts as full. Else prove '..UptoSaid'. A law counts once. -/
mutual
def uptoBulk {H : Type} : DataW H → Nat
  | .lit (.string bytes) => bytes.length + 1
  | .lit _ => 1
  | .nil => 1
  | .ptr d => uptoBulk d + 1
  | .slice elems spare => uptoBulkAll elems + uptoBulkAll spare + 1
  | .agg parts => uptoBulkAll parts + 1
  | .iface _ d => uptoBulk d + 1
  | .map entries => uptoBulkEntries entries + 1
  | .held _ => 1
def uptoBulkAll {H : Type} : List (DataW H) → Nat
  | [] => 0
  | d :: r => uptoBulk d + uptoBulkAll r
def uptoBulkEntries {H : Type} : List (Lit × DataW H) → Nat
  | [] => 0
  | x :: r => uptoBulkEntry x + uptoBulkEntries r
def uptoBulkEntry {H : Type} : Lit × DataW H → Nat
  | (.string bytes, d) => bytes.length + uptoBulk d + 1
  | (_, d) => uptoBulk d + 1
 end
def uptoSmall : (H : Type) → List (DataW H) → Bool := fun _ ds => decide (uptoBulkAll ds ≤ 1048576)
def OpenSpec.upto (s : _root_.Go.ChangeSpec) : _root_.Go.OpenSpec := { _root_.Go.OpenSpec.ofChange s with cond := some uptoSmall }

/-- 'yieldlaw12.ShelfDouble', WHERE WHAT IT READS IS OF BULK AT MOST 1048576: true; the input reads as it did. -/
def shelfDoubleUptoRow : OpenClaim := { program := "ytgbnnhnlfgcleaagreatdoor", sum := "d8cd103fa8f1eecd33dbbe18628a6120ef0720cc97bba2002197ab4f30e87b82", func := "yieldshape/yieldlaw12.ShelfDouble", spec := "shelfDouble", inPlace := ["internal/bytealg.IndexByteString"], unfollowed := true, recurses := true, named := ["yieldshape/syn.pairs", "yieldshape/sema.truth", "yieldshape/sema.number"], plainKeys := false, apart := false, laid := [("yieldshape/syn.pairs", laid_yieldshape_syn_pairs), ("yieldshape/sema.number", laid_yieldshape_sema_number), ("yieldshape/sema.truth", laid_yieldshape_sema_truth)], narrowed := true }
def ShelfDoubleUptoSaid : Prop := shelfDoubleUptoRow.holds Tryz.pinned (OpenSpec.upto shelfDoubleSpec)

/-- 'yieldlaw12.ShelfSums', WHERE WHAT IT READS IS OF BULK AT MOST 1048576: true; the input reads as it did. -/
def shelfSumsUptoRow : OpenClaim := { program := "ytgbnnhnlfgcleaagreatdoor", sum := "d8cd103fa8f1eecd33dbbe18628a6120ef0720cc97bba2002197ab4f30e87b82", func := "yieldshape/yieldlaw12.ShelfSums", spec := "shelfSums", inPlace := ["internal/bytealg.IndexByteString"], unfollowed := true, recurses := true, named := ["yieldshape/syn.pairs", "yieldshape/sema.truth", "yieldshape/sema.number"], plainKeys := false, apart := false, laid := [("yieldshape/syn.pairs", laid_yieldshape_syn_pairs), ("yieldshape/sema.number", laid_yieldshape_sema_number), ("yieldshape/sema.truth", laid_yieldshape_sema_truth)], narrowed := true }
def ShelfSumsUptoSaid : Prop := shelfSumsUptoRow.holds Tryz.pinned (OpenSpec.upto shelfSumsSpec)

/-- 'yieldlaw12.ShelfPairs', WHERE WHAT IT READS IS OF BULK AT MOST 1048576: true; the input reads as it did. -/
def shelfPairsUptoRow : OpenClaim := { program := "ytgbnnhnlfgcleaagreatdoor", sum := "d8cd103fa8f1eecd33dbbe18628a6120ef0720cc97bba2002197ab4f30e87b82", func := "yieldshape/yieldlaw12.ShelfPairs", spec := "shelfPairs", inPlace := ["internal/bytealg.IndexByteString"], unfollowed := true, recurses := true, named := ["yieldshape/syn.pairs", "yieldshape/sema.truth", "yieldshape/sema.number"], plainKeys := false, apart := false, laid := [("yieldshape/syn.pairs", laid_yieldshape_syn_pairs), ("yieldshape/sema.number", laid_yieldshape_sema_number), ("yieldshape/sema.truth", laid_yieldshape_sema_truth)], narrowed := true }
def ShelfPairsUptoSaid : Prop := shelfPairsUptoRow.holds Tryz.pinned (OpenSpec.upto shelfPairsSpec)

/-- 'yieldlaw12.ShelfEvens', WHERE WHAT IT READS IS OF BULK AT MOST 1048576: true; the input reads as it did. -/
def shelfEvensUptoRow : OpenClaim := { program := "ytgbnnhnlfgcleaagreatdoor", sum := "d8cd103fa8f1eecd33dbbe18628a6120ef0720cc97bba2002197ab4f30e87b82", func := "yieldshape/yieldlaw12.ShelfEvens", spec := "shelfEvens", inPlace := ["internal/bytealg.IndexByteString"], unfollowed := true, recurses := true, named := ["yieldshape/syn.pairs", "yieldshape/sema.truth", "yieldshape/sema.number"], plainKeys := false, apart := false, laid := [("yieldshape/syn.pairs", laid_yieldshape_syn_pairs), ("yieldshape/sema.number", laid_yieldshape_sema_number), ("yieldshape/sema.truth", laid_yieldshape_sema_truth)], narrowed := true }
def ShelfEvensUptoSaid : Prop := shelfEvensUptoRow.holds Tryz.pinned (OpenSpec.upto shelfEvensSpec)

/-- 'yieldlaw12.ShelfChanges', WHERE WHAT IT READS IS OF BULK AT MOST 1048576: true; the input reads as it did. -/
def shelfChangesUptoRow : OpenClaim := { program := "ytgbnnhnlfgcleaagreatdoor", sum := "d8cd103fa8f1eecd33dbbe18628a6120ef0720cc97bba2002197ab4f30e87b82", func := "yieldshape/yieldlaw12.ShelfChanges", spec := "shelfChanges", inPlace := ["internal/bytealg.IndexByteString"], unfollowed := true, recurses := true, named := ["yieldshape/syn.pairs", "yieldshape/sema.truth", "yieldshape/sema.number"], plainKeys := false, apart := false, laid := [("yieldshape/syn.pairs", laid_yieldshape_syn_pairs), ("yieldshape/sema.number", laid_yieldshape_sema_number), ("yieldshape/sema.truth", laid_yieldshape_sema_truth)], narrowed := true }
def ShelfChangesUptoSaid : Prop := shelfChangesUptoRow.holds Tryz.pinned (OpenSpec.upto shelfChangesSpec)

/-- 'yieldlaw12.ShelfFib', WHERE WHAT IT READS IS OF BULK AT MOST 1048576: true; the input reads as it did. -/
def shelfFibUptoRow : OpenClaim := { program := "ytgbnnhnlfgcleaagreatdoor", sum := "d8cd103fa8f1eecd33dbbe18628a6120ef0720cc97bba2002197ab4f30e87b82", func := "yieldshape/yieldlaw12.ShelfFib", spec := "shelfFib", inPlace := ["internal/bytealg.IndexByteString"], unfollowed := true, recurses := true, named := ["yieldshape/syn.pairs", "yieldshape/sema.truth", "yieldshape/sema.number"], plainKeys := false, apart := false, laid := [("yieldshape/syn.pairs", laid_yieldshape_syn_pairs), ("yieldshape/sema.number", laid_yieldshape_sema_number), ("yieldshape/sema.truth", laid_yieldshape_sema_truth)], narrowed := true }
def ShelfFibUptoSaid : Prop := shelfFibUptoRow.holds Tryz.pinned (OpenSpec.upto shelfFibSpec)

end Rows
end Go.Proofs.YtgbnnhnlfgcleaaGreatDoor

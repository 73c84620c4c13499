/-
  NARROWER THAN 'FOR EVERY INPUT', by the rows' own cells (each row's printed sentence says how): ShelfWindow: laid · ShelfDedupe: laid · ShelfUntil: laid · ShelfBits: laid · ShelfDigits: laid · ShelfPower: laid.
  DERIVED. THE GIVEN ROWS OF THIS SEAT. 6 by the template 'for every input the law returns true; each argument reads behind the call as it read before'; 0 by the template 'total and deterministic' (their statements: YtnkphifgncidaaaGreatDoorTotals.lean).
  GIVEN WITH THE SEED: the statements are not yours to turn. If you find one false, say at which input.
  Laid BY PROGRAM, IN A SANDBOX (cutbox-rows.mjs): the forced cells as the released guide's own fill.sh prints them over the translation 6b6fe0679a26948c… (all of the seat's roots in one cut). By AI agents, Wed Nov 11 2026. No macro, syntax, notation, axiom, sorry.
-/
import Derived.Test.YtnkphifgncidaaaGreatDoorChecked
import GoSem.Claim
import GoSem.ClaimJoined
import GoSem.ClaimMapViews
import Derived.JoinedTies
import Derived.KernelRfl
namespace Go.Proofs.YtnkphifgncidaaaGreatDoor
/- THE CELL 'sum', in the pinned program and in every row, IS THE sha256 OF THE DUMP (.gsa) THAT YtnkphifgncidaaaGreatDoorProg.lean LOADS. Nothing in Lean hashes anything: it is a label: what it is worth is what the hold of that sum in a sandbox is worth. -/
noncomputable def Tryz.pinned : Pinned := { name := "ytnkphifgncidaaagreatdoor", sum := "6b6fe0679a26948c68c0cf68f9c91f92e5edaa9ba7883e9220ff24e9aef88ead", checked := Tryz.checked }
namespace Rows
def none {H : Type} : Left H := { results := [], args := [] }

/- WHAT THE LISTED PACKAGE-LEVEL VARIABLES READ AS WHEN THE CALL BEGINS. Each datum BY PROGRAM (the guide's laid-datum.mjs) off the statement by which the dump's own 'gosem.cut.vars' lays the variable. In a bare row this is a premise. The card (YtnkphifgncidaaaGreatDoorCards.lean) ties it to the program's text. -/
def laid_yieldshape_syn_pairs {H : Type} : DataW H := .agg [.agg [.lit (.int .i64 18), .lit (.string [111, 114]), .lit (.int .i64 1)], .agg [.lit (.int .i64 17), .lit (.string [97, 110, 100]), .lit (.int .i64 2)], .agg [.lit (.int .i64 11), .lit (.string [61, 61]), .lit (.int .i64 3)], .agg [.lit (.int .i64 12), .lit (.string [33, 61]), .lit (.int .i64 3)], .agg [.lit (.int .i64 13), .lit (.string [60]), .lit (.int .i64 3)], .agg [.lit (.int .i64 14), .lit (.string [60, 61]), .lit (.int .i64 3)], .agg [.lit (.int .i64 15), .lit (.string [62]), .lit (.int .i64 3)], .agg [.lit (.int .i64 16), .lit (.string [62, 61]), .lit (.int .i64 3)], .agg [.lit (.int .i64 6), .lit (.string [43]), .lit (.int .i64 4)], .agg [.lit (.int .i64 7), .lit (.string [45]), .lit (.int .i64 4)], .agg [.lit (.int .i64 8), .lit (.string [42]), .lit (.int .i64 5)], .agg [.lit (.int .i64 9), .lit (.string [47]), .lit (.int .i64 5)], .agg [.lit (.int .i64 10), .lit (.string [37]), .lit (.int .i64 5)]]
def laid_yieldshape_sema_number {H : Type} : DataW H := .agg [.lit (.int .i64 1), .lit (.string [])]
def laid_yieldshape_sema_truth {H : Type} : DataW H := .agg [.lit (.int .i64 2), .lit (.string [])]

/-- 'yieldlaw12.ShelfWindow': WHATEVER THE INPUT: true; the input reads as it did. -/
def shelfWindowSpec : ChangeSpec := { name := "shelfWindow", fn := fun _ => fun
  | [d] => { results := [.lit (.bool true)], args := [d] }
  | _ => none }
def shelfWindowRow : OpenClaim := { program := "ytnkphifgncidaaagreatdoor", sum := "6b6fe0679a26948c68c0cf68f9c91f92e5edaa9ba7883e9220ff24e9aef88ead", func := "yieldshape/yieldlaw12.ShelfWindow", spec := "shelfWindow", inPlace := ["internal/bytealg.IndexByteString"], unfollowed := true, recurses := true, named := ["yieldshape/syn.pairs", "yieldshape/sema.truth", "yieldshape/sema.number"], plainKeys := false, apart := false, laid := [("yieldshape/syn.pairs", laid_yieldshape_syn_pairs), ("yieldshape/sema.number", laid_yieldshape_sema_number), ("yieldshape/sema.truth", laid_yieldshape_sema_truth)] }
def ShelfWindowSaid : Prop := shelfWindowRow.holds Tryz.pinned (OpenSpec.ofChange shelfWindowSpec)

/-- ITS FALSE NEIGHBOUR: 'it returns false'. Refute it at one input. -/
def shelfWindowWrong : ChangeSpec := { name := "shelfWindow", fn := fun _ => fun
  | [d] => { results := [.lit (.bool false)], args := [d] }
  | _ => none }
def ShelfWindowWrongFalsely : Prop := shelfWindowRow.holds Tryz.pinned (OpenSpec.ofChange shelfWindowWrong)

/-- 'yieldlaw12.ShelfDedupe': WHATEVER THE INPUT: true; the input reads as it did. -/
def shelfDedupeSpec : ChangeSpec := { name := "shelfDedupe", fn := fun _ => fun
  | [d] => { results := [.lit (.bool true)], args := [d] }
  | _ => none }
def shelfDedupeRow : OpenClaim := { program := "ytnkphifgncidaaagreatdoor", sum := "6b6fe0679a26948c68c0cf68f9c91f92e5edaa9ba7883e9220ff24e9aef88ead", func := "yieldshape/yieldlaw12.ShelfDedupe", spec := "shelfDedupe", inPlace := ["internal/bytealg.IndexByteString"], unfollowed := true, recurses := true, named := ["yieldshape/syn.pairs", "yieldshape/sema.truth", "yieldshape/sema.number"], plainKeys := false, apart := false, laid := [("yieldshape/syn.pairs", laid_yieldshape_syn_pairs), ("yieldshape/sema.number", laid_yieldshape_sema_number), ("yieldshape/sema.truth", laid_yieldshape_sema_truth)] }
def ShelfDedupeSaid : Prop := shelfDedupeRow.holds Tryz.pinned (OpenSpec.ofChange shelfDedupeSpec)

/-- ITS FALSE NEIGHBOUR: 'it returns false'. Refute it at one input. -/
def shelfDedupeWrong : ChangeSpec := { name := "shelfDedupe", fn := fun _ => fun
  | [d] => { results := [.lit (.bool false)], args := [d] }
  | _ => none }
def ShelfDedupeWrongFalsely : Prop := shelfDedupeRow.holds Tryz.pinned (OpenSpec.ofChange shelfDedupeWrong)

/-- 'yieldlaw12.ShelfUntil': WHATEVER THE INPUT: true; the input reads as it did. -/
def shelfUntilSpec : ChangeSpec := { name := "shelfUntil", fn := fun _ => fun
  | [d] => { results := [.lit (.bool true)], args := [d] }
  | _ => none }
def shelfUntilRow : OpenClaim := { program := "ytnkphifgncidaaagreatdoor", sum := "6b6fe0679a26948c68c0cf68f9c91f92e5edaa9ba7883e9220ff24e9aef88ead", func := "yieldshape/yieldlaw12.ShelfUntil", spec := "shelfUntil", inPlace := ["internal/bytealg.IndexByteString"], unfollowed := true, recurses := true, named := ["yieldshape/syn.pairs", "yieldshape/sema.truth", "yieldshape/sema.number"], plainKeys := false, apart := false, laid := [("yieldshape/syn.pairs", laid_yieldshape_syn_pairs), ("yieldshape/sema.number", laid_yieldshape_sema_number), ("yieldshape/sema.truth", laid_yieldshape_sema_truth)] }
def ShelfUntilSaid : Prop := shelfUntilRow.holds Tryz.pinned (OpenSpec.ofChange shelfUntilSpec)

/-- ITS FALSE NEIGHBOUR: 'it returns false'. Refute it at one input. -/
def shelfUntilWrong : ChangeSpec := { name := "shelfUntil", fn := fun _ => fun
  | [d] => { results := [.lit (.bool false)], args := [d] }
  | _ => none }
def ShelfUntilWrongFalsely : Prop := shelfUntilRow.holds Tryz.pinned (OpenSpec.ofChange shelfUntilWrong)

/-- 'yieldlaw12.ShelfBits': WHATEVER THE INPUT: true; the input reads as it did. -/
def shelfBitsSpec : ChangeSpec := { name := "shelfBits", fn := fun _ => fun
  | [d] => { results := [.lit (.bool true)], args := [d] }
  | _ => none }
def shelfBitsRow : OpenClaim := { program := "ytnkphifgncidaaagreatdoor", sum := "6b6fe0679a26948c68c0cf68f9c91f92e5edaa9ba7883e9220ff24e9aef88ead", func := "yieldshape/yieldlaw12.ShelfBits", spec := "shelfBits", inPlace := ["internal/bytealg.IndexByteString"], unfollowed := true, recurses := true, named := ["yieldshape/syn.pairs", "yieldshape/sema.truth", "yieldshape/sema.number"], plainKeys := false, apart := false, laid := [("yieldshape/syn.pairs", laid_yieldshape_syn_pairs), ("yieldshape/sema.number", laid_yieldshape_sema_number), ("yieldshape/sema.truth", laid_yieldshape_sema_truth)] }
def ShelfBitsSaid : Prop := shelfBitsRow.holds Tryz.pinned (OpenSpec.ofChange shelfBitsSpec)

/-- ITS FALSE NEIGHBOUR: 'it returns false'. Refute it at one input. -/
def shelfBitsWrong : ChangeSpec := { name := "shelfBits", fn := fun _ => fun
  | [d] => { results := [.lit (.bool false)], args := [d] }
  | _ => none }
def ShelfBitsWrongFalsely : Prop := shelfBitsRow.holds Tryz.pinned (OpenSpec.ofChange shelfBitsWrong)

/-- 'yieldlaw12.ShelfDigits': WHATEVER THE INPUT: true; the input reads as it did. -/
def shelfDigitsSpec : ChangeSpec := { name := "shelfDigits", fn := fun _ => fun
  | [d] => { results := [.lit (.bool true)], args := [d] }
  | _ => none }
def shelfDigitsRow : OpenClaim := { program := "ytnkphifgncidaaagreatdoor", sum := "6b6fe0679a26948c68c0cf68f9c91f92e5edaa9ba7883e9220ff24e9aef88ead", func := "yieldshape/yieldlaw12.ShelfDigits", spec := "shelfDigits", inPlace := ["internal/bytealg.IndexByteString"], unfollowed := true, recurses := true, named := ["yieldshape/syn.pairs", "yieldshape/sema.truth", "yieldshape/sema.number"], plainKeys := false, apart := false, laid := [("yieldshape/syn.pairs", laid_yieldshape_syn_pairs), ("yieldshape/sema.number", laid_yieldshape_sema_number), ("yieldshape/sema.truth", laid_yieldshape_sema_truth)] }
def ShelfDigitsSaid : Prop := shelfDigitsRow.holds Tryz.pinned (OpenSpec.ofChange shelfDigitsSpec)

/-- ITS FALSE NEIGHBOUR: 'it returns false'. Refute it at one input. -/
def shelfDigitsWrong : ChangeSpec := { name := "shelfDigits", fn := fun _ => fun
  | [d] => { results := [.lit (.bool false)], args := [d] }
  | _ => none }
def ShelfDigitsWrongFalsely : Prop := shelfDigitsRow.holds Tryz.pinned (OpenSpec.ofChange shelfDigitsWrong)

/-- 'yieldlaw12.ShelfPower': WHATEVER THE INPUT: true; the input reads as it did. -/
def shelfPowerSpec : ChangeSpec := { name := "shelfPower", fn := fun _ => fun
  | [d] => { results := [.lit (.bool true)], args := [d] }
  | _ => none }
def shelfPowerRow : OpenClaim := { program := "ytnkphifgncidaaagreatdoor", sum := "6b6fe0679a26948c68c0cf68f9c91f92e5edaa9ba7883e9220ff24e9aef88ead", func := "yieldshape/yieldlaw12.ShelfPower", spec := "shelfPower", inPlace := ["internal/bytealg.IndexByteString"], unfollowed := true, recurses := true, named := ["yieldshape/syn.pairs", "yieldshape/sema.truth", "yieldshape/sema.number"], plainKeys := false, apart := false, laid := [("yieldshape/syn.pairs", laid_yieldshape_syn_pairs), ("yieldshape/sema.number", laid_yieldshape_sema_number), ("yieldshape/sema.truth", laid_yieldshape_sema_truth)] }
def ShelfPowerSaid : Prop := shelfPowerRow.holds Tryz.pinned (OpenSpec.ofChange shelfPowerSpec)

/-- ITS FALSE NEIGHBOUR: 'it returns false'. Refute it at one input. -/
def shelfPowerWrong : ChangeSpec := { name := "shelfPower", fn := fun _ => fun
  | [d] => { results := [.lit (.bool false)], args := [d] }
  | _ => none }
def ShelfPowerWrongFalsely : Prop := shelfPowerRow.holds Tryz.pinned (OpenSpec.ofChange shelfPowerWrong)

/- THE SECOND FORM. 'bulk': how many values and letters a reading holds, each counted each time it is reached (what is shared counts as often as it is met; a slice's spare places count too). A statement '..UptoSaid' is the law's where the arguments, and the package variables that the reading takes, are together of bulk at most 1048576: NARROWER than '..Said'. Prove '..Said' where nothing that the law and all that it calls make is longer than what came in: it says more and counts as full. Else prove '..UptoSaid'. A law counts once. -/
mutual
def uptoBulk {H : Type} : DataW H → Nat
  | .lit (.string bytes) => bytes.length + 1
  | .lit _ => 1
  | .nil => 1
  | .ptr d => uptoBulk d + 1
  | .slice elems spare => uptoBulkAll elems + uptoBulkAll spare + 1
  | .agg parts => uptoBulkAll parts + 1
  | .iface _ d => uptoBulk d + 1
  | .map entries => uptoBulkEntries entries + 1
  | .held _ => 1
def uptoBulkAll {H : Type} : List (DataW H) → Nat
  | [] => 0
  | d :: r => uptoBulk d + uptoBulkAll r
def uptoBulkEntries {H : Type} : List (Lit × DataW H) → Nat
  | [] => 0
  | x :: r => uptoBulkEntry x + uptoBulkEntries r
def uptoBulkEntry {H : Type} : Lit × DataW H → Nat
  | (.string bytes, d) => bytes.length + uptoBulk d + 1
  | (_, d) => uptoBulk d + 1
 end
def uptoSmall : (H : Type) → List (DataW H) → Bool := fun _ ds => decide (uptoBulkAll ds ≤ 1048576)
def OpenSpec.upto (s : _root_.Go.ChangeSpec) : _root_.Go.OpenSpec := { _root_.Go.OpenSpec.ofChange s with cond := some uptoSmall }

/-- 'yieldlaw12.ShelfWindow', WHERE WHAT IT READS IS OF BULK AT MOST 1048576: true; the input reads as it did. -/
def shelfWindowUptoRow : OpenClaim := { program := "ytnkphifgncidaaagreatdoor", sum := "6b6fe0679a26948c68c0cf68f9c91f92e5edaa9ba7883e9220ff24e9aef88ead", func := "yieldshape/yieldlaw12.ShelfWindow", spec := "shelfWindow", inPlace := ["internal/bytealg.IndexByteString"], unfollowed := true, recurses := true, named := ["yieldshape/syn.pairs", "yieldshape/sema.truth", "yieldshape/sema.number"], plainKeys := false, apart := false, laid := [("yieldshape/syn.pairs", laid_yieldshape_syn_pairs), ("yieldshape/sema.number", laid_yieldshape_sema_number), ("yieldshape/sema.truth", laid_yieldshape_sema_truth)], narrowed := true }
def ShelfWindowUptoSaid : Prop := shelfWindowUptoRow.holds Tryz.pinned (OpenSpec.upto shelfWindowSpec)

/-- 'yieldlaw12.ShelfDedupe', WHERE WHAT IT READS IS OF BULK AT MOST 1048576: true; the input reads as it did. -/
def shelfDedupeUptoRow : OpenClaim := { program := "ytnkphifgncidaaagreatdoor", sum := "6b6fe0679a26948c68c0cf68f9c91f92e5edaa9ba7883e9220ff24e9aef88ead", func := "yieldshape/yieldlaw12.ShelfDedupe", spec := "shelfDedupe", inPlace := ["internal/bytealg.IndexByteString"], unfollowed := true, recurses := true, named := ["yieldshape/syn.pairs", "yieldshape/sema.truth", "yieldshape/sema.number"], plainKeys := false, apart := false, laid := [("yieldshape/syn.pairs", laid_yieldshape_syn_pairs), ("yieldshape/sema.number", laid_yieldshape_sema_number), ("yieldshape/sema.truth", laid_yieldshape_sema_truth)], narrowed := true }
def ShelfDedupeUptoSaid : Prop := shelfDedupeUptoRow.holds Tryz.pinned (OpenSpec.upto shelfDedupeSpec)

/-- 'yieldlaw12.ShelfUntil', WHERE WHAT IT READS IS OF BULK AT MOST 1048576: true; the input reads as it did. -/
def shelfUntilUptoRow : OpenClaim := { program := "ytnkphifgncidaaagreatdoor", sum := "6b6fe0679a26948c68c0cf68f9c91f92e5edaa9ba7883e9220ff24e9aef88ead", func := "yieldshape/yieldlaw12.ShelfUntil", spec := "shelfUntil", inPlace := ["internal/bytealg.IndexByteString"], unfollowed := true, recurses := true, named := ["yieldshape/syn.pairs", "yieldshape/sema.truth", "yieldshape/sema.number"], plainKeys := false, apart := false, laid := [("yieldshape/syn.pairs", laid_yieldshape_syn_pairs), ("yieldshape/sema.number", laid_yieldshape_sema_number), ("yieldshape/sema.truth", laid_yieldshape_sema_truth)], narrowed := true }
def ShelfUntilUptoSaid : Prop := shelfUntilUptoRow.holds Tryz.pinned (OpenSpec.upto shelfUntilSpec)

/-- 'yieldlaw12.ShelfBits', WHERE WHAT IT READS IS OF BULK AT MOST 1048576: true; the input reads as it did. -/
def shelfBitsUptoRow : OpenClaim := { program := "ytnkphifgncidaaagreatdoor", sum := "6b6fe0679a26948c68c0cf68f9c91f92e5edaa9ba7883e9220ff24e9aef88ead", func := "yieldshape/yieldlaw12.ShelfBits", spec := "shelfBits", inPlace := ["internal/bytealg.IndexByteString"], unfollowed := true, recurses := true, named := ["yieldshape/syn.pairs", "yieldshape/sema.truth", "yieldshape/sema.number"], plainKeys := false, apart := false, laid := [("yieldshape/syn.pairs", laid_yieldshape_syn_pairs), ("yieldshape/sema.number", laid_yieldshape_sema_number), ("yieldshape/sema.truth", laid_yieldshape_sema_truth)], narrowed := true }
def ShelfBitsUptoSaid : Prop := shelfBitsUptoRow.holds Tryz.pinned (OpenSpec.upto shelfBitsSpec)

/-- 'yieldlaw12.ShelfDigits', WHERE WHAT IT READS IS OF BULK AT MOST 1048576: true; the input reads as it did. -/
def shelfDigitsUptoRow : OpenClaim := { program := "ytnkphifgncidaaagreatdoor", sum := "6b6fe0679a26948c68c0cf68f9c91f92e5edaa9ba7883e9220ff24e9aef88ead", func := "yieldshape/yieldlaw12.ShelfDigits", spec := "shelfDigits", inPlace := ["internal/bytealg.IndexByteString"], unfollowed := true, recurses := true, named := ["yieldshape/syn.pairs", "yieldshape/sema.truth", "yieldshape/sema.number"], plainKeys := false, apart := false, laid := [("yieldshape/syn.pairs", laid_yieldshape_syn_pairs), ("yieldshape/sema.number", laid_yieldshape_sema_number), ("yieldshape/sema.truth", laid_yieldshape_sema_truth)], narrowed := true }
def ShelfDigitsUptoSaid : Prop := shelfDigitsUptoRow.holds Tryz.pinned (OpenSpec.upto shelfDigitsSpec)

/-- 'yieldlaw12.ShelfPower', WHERE WHAT IT READS IS OF BULK AT MOST 1048576: true; the input reads as it did. -/
def shelfPowerUptoRow : OpenClaim := { program := "ytnkphifgncidaaagreatdoor", sum := "6b6fe0679a26948c68c0cf68f9c91f92e5edaa9ba7883e9220ff24e9aef88ead", func := "yieldshape/yieldlaw12.ShelfPower", spec := "shelfPower", inPlace := ["internal/bytealg.IndexByteString"], unfollowed := true, recurses := true, named := ["yieldshape/syn.pairs", "yieldshape/sema.truth", "yieldshape/sema.number"], plainKeys := false, apart := false, laid := [("yieldshape/syn.pairs", laid_yieldshape_syn_pairs), ("yieldshape/sema.number", laid_yieldshape_sema_number), ("yieldshape/sema.truth", laid_yieldshape_sema_truth)], narrowed := true }
def ShelfPowerUptoSaid : Prop := shelfPowerUptoRow.holds Tryz.pinned (OpenSpec.upto shelfPowerSpec)

end Rows
end Go.Proofs.YtnkphifgncidaaaGreatDoor

/-
  No cell of these rows narrows 'for every input' (looked for: loops, veiled, ifaces, maps, wideKeys, modest, calm, conditions, laid).
  DERIVED. THE GIVEN ROWS OF THIS SEAT. 5 by the template 'for every input the law returns true; each argument reads behind the call as it read before'; 0 by the template 'total and deterministic' (their statements: YtiimanoloedbeaaTotals.lean).
  GIVEN WITH THE SEED: the statements are not yours to turn. If you find one false, say at which input.
  Laid BY PROGRAM, IN A SANDBOX (cutbox-rows.mjs): the forced cells as the released guide's own fill.sh prints them over the translation 5d0e26e0d5095aed… (all of the seat's roots in one cut). By AI agents, Wed Nov 11 2026. No macro, syntax, notation, axiom, sorry.
-/
import Derived.Test.YtiimanoloedbeaaChecked
import GoSem.Claim
import GoSem.ClaimJoined
import GoSem.ClaimMapViews
import Derived.JoinedTies
import Derived.KernelRfl
namespace Go.Proofs.Ytiimanoloedbeaa
/- THE CELL 'sum', in the pinned program and in every row, IS THE sha256 OF THE DUMP (.gsa) THAT YtiimanoloedbeaaProg.lean LOADS. Nothing in Lean hashes anything: it is a label: what it is worth is what the hold of that sum in a sandbox is worth. -/
noncomputable def Try.pinned : Pinned := { name := "ytiimanoloedbeaa", sum := "5d0e26e0d5095aed040ba9437ce242001008f49cfc714f46f6974e9f25546ac5", checked := Try.checked }
namespace Rows
def none {H : Type} : Left H := { results := [], args := [] }

/-- 'laminalaw11.HeadPuts': WHATEVER THE INPUT: true; the input reads as it did. -/
def headPutsSpec : ChangeSpec := { name := "headPuts", fn := fun _ => fun
  | [d] => { results := [.lit (.bool true)], args := [d] }
  | _ => none }
def headPutsRow : OpenClaim := { program := "ytiimanoloedbeaa", sum := "5d0e26e0d5095aed040ba9437ce242001008f49cfc714f46f6974e9f25546ac5", func := "lamina/laminalaw11.HeadPuts", spec := "headPuts", unfollowed := true, recurses := true, apart := false }
def HeadPutsSaid : Prop := headPutsRow.holds Try.pinned (OpenSpec.ofChange headPutsSpec)

/-- ITS FALSE NEIGHBOUR: 'it returns false'. Refute it at one input. -/
def headPutsWrong : ChangeSpec := { name := "headPuts", fn := fun _ => fun
  | [d] => { results := [.lit (.bool false)], args := [d] }
  | _ => none }
def HeadPutsWrongFalsely : Prop := headPutsRow.holds Try.pinned (OpenSpec.ofChange headPutsWrong)

/-- 'laminalaw11.HeadTakes': WHATEVER THE INPUT: true; the input reads as it did. -/
def headTakesSpec : ChangeSpec := { name := "headTakes", fn := fun _ => fun
  | [d] => { results := [.lit (.bool true)], args := [d] }
  | _ => none }
def headTakesRow : OpenClaim := { program := "ytiimanoloedbeaa", sum := "5d0e26e0d5095aed040ba9437ce242001008f49cfc714f46f6974e9f25546ac5", func := "lamina/laminalaw11.HeadTakes", spec := "headTakes", unfollowed := true, recurses := true, apart := false }
def HeadTakesSaid : Prop := headTakesRow.holds Try.pinned (OpenSpec.ofChange headTakesSpec)

/-- ITS FALSE NEIGHBOUR: 'it returns false'. Refute it at one input. -/
def headTakesWrong : ChangeSpec := { name := "headTakes", fn := fun _ => fun
  | [d] => { results := [.lit (.bool false)], args := [d] }
  | _ => none }
def HeadTakesWrongFalsely : Prop := headTakesRow.holds Try.pinned (OpenSpec.ofChange headTakesWrong)

/-- 'laminalaw13.RulesGood': WHATEVER THE INPUT: true; the input reads as it did. -/
def rulesGoodSpec : ChangeSpec := { name := "rulesGood", fn := fun _ => fun
  | [d1, d2] => { results := [.lit (.bool true)], args := [d1, d2] }
  | _ => none }
def rulesGoodRow : OpenClaim := { program := "ytiimanoloedbeaa", sum := "5d0e26e0d5095aed040ba9437ce242001008f49cfc714f46f6974e9f25546ac5", func := "lamina/laminalaw13.RulesGood", spec := "rulesGood", inPlace := ["slices.overlaps[string]"], unfollowed := true, recurses := true, apart := false }
def RulesGoodSaid : Prop := rulesGoodRow.holds Try.pinned (OpenSpec.ofChange rulesGoodSpec)

/-- ITS FALSE NEIGHBOUR: 'it returns false'. Refute it at one input. -/
def rulesGoodWrong : ChangeSpec := { name := "rulesGood", fn := fun _ => fun
  | [d1, d2] => { results := [.lit (.bool false)], args := [d1, d2] }
  | _ => none }
def RulesGoodWrongFalsely : Prop := rulesGoodRow.holds Try.pinned (OpenSpec.ofChange rulesGoodWrong)

/-- 'laminalaw13.RulesGuard': WHATEVER THE INPUT: true; the input reads as it did. -/
def rulesGuardSpec : ChangeSpec := { name := "rulesGuard", fn := fun _ => fun
  | [d1, d2] => { results := [.lit (.bool true)], args := [d1, d2] }
  | _ => none }
def rulesGuardRow : OpenClaim := { program := "ytiimanoloedbeaa", sum := "5d0e26e0d5095aed040ba9437ce242001008f49cfc714f46f6974e9f25546ac5", func := "lamina/laminalaw13.RulesGuard", spec := "rulesGuard", inPlace := ["slices.overlaps[string]"], unfollowed := true, recurses := true, apart := false }
def RulesGuardSaid : Prop := rulesGuardRow.holds Try.pinned (OpenSpec.ofChange rulesGuardSpec)

/-- ITS FALSE NEIGHBOUR: 'it returns false'. Refute it at one input. -/
def rulesGuardWrong : ChangeSpec := { name := "rulesGuard", fn := fun _ => fun
  | [d1, d2] => { results := [.lit (.bool false)], args := [d1, d2] }
  | _ => none }
def RulesGuardWrongFalsely : Prop := rulesGuardRow.holds Try.pinned (OpenSpec.ofChange rulesGuardWrong)

/-- 'laminalaw13.RulesUndo': WHATEVER THE INPUT: true; the input reads as it did. -/
def rulesUndoSpec : ChangeSpec := { name := "rulesUndo", fn := fun _ => fun
  | [d] => { results := [.lit (.bool true)], args := [d] }
  | _ => none }
def rulesUndoRow : OpenClaim := { program := "ytiimanoloedbeaa", sum := "5d0e26e0d5095aed040ba9437ce242001008f49cfc714f46f6974e9f25546ac5", func := "lamina/laminalaw13.RulesUndo", spec := "rulesUndo", inPlace := ["slices.overlaps[string]"], unfollowed := true, recurses := true, apart := false }
def RulesUndoSaid : Prop := rulesUndoRow.holds Try.pinned (OpenSpec.ofChange rulesUndoSpec)

/-- ITS FALSE NEIGHBOUR: 'it returns false'. Refute it at one input. -/
def rulesUndoWrong : ChangeSpec := { name := "rulesUndo", fn := fun _ => fun
  | [d] => { results := [.lit (.bool false)], args := [d] }
  | _ => none }
def RulesUndoWrongFalsely : Prop := rulesUndoRow.holds Try.pinned (OpenSpec.ofChange rulesUndoWrong)

/- THE SECOND FORM. 'bulk': how many values and letters a reading holds, each counted each time it is reached (what is shared counts as often as it is met; a slice's spare places count too). A statement '..UptoSaid' is the law's where the arguments, and the package variables that the reading takes, are together of bulk at most 1048576: NARROWER than '..Said'. Prove '..Said' where nothing that the law and all that it calls make is longer than what came in: it says more and counts as full. Else prove '..UptoSaid'. A law counts once. -/
mutual
def uptoBulk {H : Type} : DataW H → Nat
  | .lit (.string bytes) => bytes.length + 1
  | .lit _ => 1
  | .nil => 1
  | .ptr d => uptoBulk d + 1
  | .slice elems spare => uptoBulkAll elems + uptoBulkAll spare + 1
  | .agg parts => uptoBulkAll parts + 1
  | .iface _ d => uptoBulk d + 1
  | .map entries => uptoBulkEntries entries + 1
  | .held _ => 1
def uptoBulkAll {H : Type} : List (DataW H) → Nat
  | [] => 0
  | d :: r => uptoBulk d + uptoBulkAll r
def uptoBulkEntries {H : Type} : List (Lit × DataW H) → Nat
  | [] => 0
  | x :: r => uptoBulkEntry x + uptoBulkEntries r
def uptoBulkEntry {H : Type} : Lit × DataW H → Nat
  | (.string bytes, d) => bytes.length + uptoBulk d + 1
  | (_, d) => uptoBulk d + 1
 end
def uptoSmall : (H : Type) → List (DataW H) → Bool := fun _ ds => decide (uptoBulkAll ds ≤ 1048576)
def OpenSpec.upto (s : _root_.Go.ChangeSpec) : _root_.Go.OpenSpec := { _root_.Go.OpenSpec.ofChange s with cond := some uptoSmall }

/-- 'laminalaw11.HeadPuts', WHERE WHAT IT READS IS OF BULK AT MOST 1048576: true; the input reads as it did. -/
def headPutsUptoRow : OpenClaim := { program := "ytiimanoloedbeaa", sum := "5d0e26e0d5095aed040ba9437ce242001008f49cfc714f46f6974e9f25546ac5", func := "lamina/laminalaw11.HeadPuts", spec := "headPuts", unfollowed := true, recurses := true, apart := false, narrowed := true }
def HeadPutsUptoSaid : Prop := headPutsUptoRow.holds Try.pinned (OpenSpec.upto headPutsSpec)

/-- 'laminalaw11.HeadTakes', WHERE WHAT IT READS IS OF BULK AT MOST 1048576: true; the input reads as it did. -/
def headTakesUptoRow : OpenClaim := { program := "ytiimanoloedbeaa", sum := "5d0e26e0d5095aed040ba9437ce242001008f49cfc714f46f6974e9f25546ac5", func := "lamina/laminalaw11.HeadTakes", spec := "headTakes", unfollowed := true, recurses := true, apart := false, narrowed := true }
def HeadTakesUptoSaid : Prop := headTakesUptoRow.holds Try.pinned (OpenSpec.upto headTakesSpec)

/-- 'laminalaw13.RulesGood', WHERE WHAT IT READS IS OF BULK AT MOST 1048576: true; the input reads as it did. -/
def rulesGoodUptoRow : OpenClaim := { program := "ytiimanoloedbeaa", sum := "5d0e26e0d5095aed040ba9437ce242001008f49cfc714f46f6974e9f25546ac5", func := "lamina/laminalaw13.RulesGood", spec := "rulesGood", inPlace := ["slices.overlaps[string]"], unfollowed := true, recurses := true, apart := false, narrowed := true }
def RulesGoodUptoSaid : Prop := rulesGoodUptoRow.holds Try.pinned (OpenSpec.upto rulesGoodSpec)

/-- 'laminalaw13.RulesGuard', WHERE WHAT IT READS IS OF BULK AT MOST 1048576: true; the input reads as it did. -/
def rulesGuardUptoRow : OpenClaim := { program := "ytiimanoloedbeaa", sum := "5d0e26e0d5095aed040ba9437ce242001008f49cfc714f46f6974e9f25546ac5", func := "lamina/laminalaw13.RulesGuard", spec := "rulesGuard", inPlace := ["slices.overlaps[string]"], unfollowed := true, recurses := true, apart := false, narrowed := true }
def RulesGuardUptoSaid : Prop := rulesGuardUptoRow.holds Try.pinned (OpenSpec.upto rulesGuardSpec)

/-- 'laminalaw13.RulesUndo', WHERE WHAT IT READS IS OF BULK AT MOST 1048576: true; the input reads as it did. -/
def rulesUndoUptoRow : OpenClaim := { program := "ytiimanoloedbeaa", sum := "5d0e26e0d5095aed040ba9437ce242001008f49cfc714f46f6974e9f25546ac5", func := "lamina/laminalaw13.RulesUndo", spec := "rulesUndo", inPlace := ["slices.overlaps[string]"], unfollowed := true, recurses := true, apart := false, narrowed := true }
def RulesUndoUptoSaid : Prop := rulesUndoUptoRow.holds Try.pinned (OpenSpec.upto rulesUndoSpec)

end Rows
end Go.Proofs.Ytiimanoloedbeaa

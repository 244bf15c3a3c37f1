/-
  NARROWER THAN 'FOR EVERY INPUT', by the rows' own cells (each row's printed sentence says how): PoolKeeps: laid · PoolReads: laid · PoolNone: laid · PoolTwins: laid · ImageNumbers: laid · ImageNone: laid · ImageAlone: laid.
  DERIVED. THE GIVEN ROWS OF THIS SEAT. 7 by the template 'for every input the law returns true; each argument reads behind the call as it read before'; 0 by the template 'total and deterministic' (their statements: YtpogpajjemaagaaGreatDoorTotals.lean).
  GIVEN WITH THE SEED: the statements are not yours to turn. If you find one false, say at which input.
  Laid BY PROGRAM, IN A SANDBOX (cutbox-rows.mjs): the forced cells as the released guide's own fill.sh prints them over the translation e6f8a711a758f922… (all of the seat's roots in one cut). By AI agents, Wed Nov 11 2026. No macro, syntax, notation, axiom, sorry.
-/
import Derived.Test.YtpogpajjemaagaaGreatDoorChecked
import GoSem.Claim
import GoSem.ClaimJoined
import GoSem.ClaimMapViews
import Derived.JoinedTies
import Derived.KernelRfl
namespace Go.Proofs.YtpogpajjemaagaaGreatDoor
/- THE CELL 'sum', in the pinned program and in every row, IS THE sha256 OF THE DUMP (.gsa) THAT YtpogpajjemaagaaGreatDoorProg.lean LOADS. Nothing in Lean hashes anything: it is a label: what it is worth is what the hold of that sum in a sandbox is worth. -/
noncomputable def Tryz.pinned : Pinned := { name := "ytpogpajjemaagaagreatdoor", sum := "e6f8a711a758f922766ddd4dffb8642a48d1dfc619cfa7525986590c2602089b", checked := Tryz.checked }
namespace Rows
def none {H : Type} : Left H := { results := [], args := [] }

/- WHAT THE LISTED PACKAGE-LEVEL VARIABLES READ AS WHEN THE CALL BEGINS. Each datum BY PROGRAM (the guide's laid-datum.mjs) off the statement by which the dump's own 'gosem.cut.vars' lays the variable. In a bare row this is a premise. The card (YtpogpajjemaagaaGreatDoorCards.lean) ties it to the program's text. -/
def laid_lamina_crc_halves {H : Type} : DataW H := .agg [.lit (.int .u32 0), .lit (.int .u32 274646895), .lit (.int .u32 549293790), .lit (.int .u32 820201905), .lit (.int .u32 1098587580), .lit (.int .u32 1361435347), .lit (.int .u32 1640403810), .lit (.int .u32 1905808397), .lit (.int .u32 2197175160), .lit (.int .u32 2460548119), .lit (.int .u32 2722870694), .lit (.int .u32 2987750089), .lit (.int .u32 3280807620), .lit (.int .u32 3553878443), .lit (.int .u32 3811616794), .lit (.int .u32 4084100981)]

/-- 'laminalaw08.PoolKeeps': WHATEVER THE INPUT: true; the input reads as it did. -/
def poolKeepsSpec : ChangeSpec := { name := "poolKeeps", fn := fun _ => fun
  | [d1, d2, d3] => { results := [.lit (.bool true)], args := [d1, d2, d3] }
  | _ => none }
def poolKeepsRow : OpenClaim := { program := "ytpogpajjemaagaagreatdoor", sum := "e6f8a711a758f922766ddd4dffb8642a48d1dfc619cfa7525986590c2602089b", func := "lamina/laminalaw08.PoolKeeps", spec := "poolKeeps", inPlace := ["maps.clone"], unfollowed := true, recurses := true, named := ["lamina/crc.halves"], apart := false, laid := [("lamina/crc.halves", laid_lamina_crc_halves)] }
def PoolKeepsSaid : Prop := poolKeepsRow.holds Tryz.pinned (OpenSpec.ofChange poolKeepsSpec)

/-- ITS FALSE NEIGHBOUR: 'it returns false'. Refute it at one input. -/
def poolKeepsWrong : ChangeSpec := { name := "poolKeeps", fn := fun _ => fun
  | [d1, d2, d3] => { results := [.lit (.bool false)], args := [d1, d2, d3] }
  | _ => none }
def PoolKeepsWrongFalsely : Prop := poolKeepsRow.holds Tryz.pinned (OpenSpec.ofChange poolKeepsWrong)

/-- 'laminalaw08.PoolReads': WHATEVER THE INPUT: true; the input reads as it did. -/
def poolReadsSpec : ChangeSpec := { name := "poolReads", fn := fun _ => fun
  | [d1, d2, d3] => { results := [.lit (.bool true)], args := [d1, d2, d3] }
  | _ => none }
def poolReadsRow : OpenClaim := { program := "ytpogpajjemaagaagreatdoor", sum := "e6f8a711a758f922766ddd4dffb8642a48d1dfc619cfa7525986590c2602089b", func := "lamina/laminalaw08.PoolReads", spec := "poolReads", inPlace := ["maps.clone"], unfollowed := true, recurses := true, named := ["lamina/crc.halves"], apart := false, laid := [("lamina/crc.halves", laid_lamina_crc_halves)] }
def PoolReadsSaid : Prop := poolReadsRow.holds Tryz.pinned (OpenSpec.ofChange poolReadsSpec)

/-- ITS FALSE NEIGHBOUR: 'it returns false'. Refute it at one input. -/
def poolReadsWrong : ChangeSpec := { name := "poolReads", fn := fun _ => fun
  | [d1, d2, d3] => { results := [.lit (.bool false)], args := [d1, d2, d3] }
  | _ => none }
def PoolReadsWrongFalsely : Prop := poolReadsRow.holds Tryz.pinned (OpenSpec.ofChange poolReadsWrong)

/-- 'laminalaw08.PoolNone': WHATEVER THE INPUT: true; the input reads as it did. -/
def poolNoneSpec : ChangeSpec := { name := "poolNone", fn := fun _ => fun
  | [d1, d2] => { results := [.lit (.bool true)], args := [d1, d2] }
  | _ => none }
def poolNoneRow : OpenClaim := { program := "ytpogpajjemaagaagreatdoor", sum := "e6f8a711a758f922766ddd4dffb8642a48d1dfc619cfa7525986590c2602089b", func := "lamina/laminalaw08.PoolNone", spec := "poolNone", inPlace := ["maps.clone"], unfollowed := true, recurses := true, named := ["lamina/crc.halves"], apart := false, laid := [("lamina/crc.halves", laid_lamina_crc_halves)] }
def PoolNoneSaid : Prop := poolNoneRow.holds Tryz.pinned (OpenSpec.ofChange poolNoneSpec)

/-- ITS FALSE NEIGHBOUR: 'it returns false'. Refute it at one input. -/
def poolNoneWrong : ChangeSpec := { name := "poolNone", fn := fun _ => fun
  | [d1, d2] => { results := [.lit (.bool false)], args := [d1, d2] }
  | _ => none }
def PoolNoneWrongFalsely : Prop := poolNoneRow.holds Tryz.pinned (OpenSpec.ofChange poolNoneWrong)

/-- 'laminalaw08.PoolTwins': WHATEVER THE INPUT: true; the input reads as it did. -/
def poolTwinsSpec : ChangeSpec := { name := "poolTwins", fn := fun _ => fun
  | [d] => { results := [.lit (.bool true)], args := [d] }
  | _ => none }
def poolTwinsRow : OpenClaim := { program := "ytpogpajjemaagaagreatdoor", sum := "e6f8a711a758f922766ddd4dffb8642a48d1dfc619cfa7525986590c2602089b", func := "lamina/laminalaw08.PoolTwins", spec := "poolTwins", inPlace := ["maps.clone"], unfollowed := true, recurses := true, named := ["lamina/crc.halves"], apart := false, laid := [("lamina/crc.halves", laid_lamina_crc_halves)] }
def PoolTwinsSaid : Prop := poolTwinsRow.holds Tryz.pinned (OpenSpec.ofChange poolTwinsSpec)

/-- ITS FALSE NEIGHBOUR: 'it returns false'. Refute it at one input. -/
def poolTwinsWrong : ChangeSpec := { name := "poolTwins", fn := fun _ => fun
  | [d] => { results := [.lit (.bool false)], args := [d] }
  | _ => none }
def PoolTwinsWrongFalsely : Prop := poolTwinsRow.holds Tryz.pinned (OpenSpec.ofChange poolTwinsWrong)

/-- 'laminalaw15.ImageNumbers': WHATEVER THE INPUT: true; the input reads as it did. -/
def imageNumbersSpec : ChangeSpec := { name := "imageNumbers", fn := fun _ => fun
  | [d1, d2] => { results := [.lit (.bool true)], args := [d1, d2] }
  | _ => none }
def imageNumbersRow : OpenClaim := { program := "ytpogpajjemaagaagreatdoor", sum := "e6f8a711a758f922766ddd4dffb8642a48d1dfc619cfa7525986590c2602089b", func := "lamina/laminalaw15.ImageNumbers", spec := "imageNumbers", inPlace := ["maps.clone"], unfollowed := true, recurses := true, named := ["lamina/crc.halves"], apart := false, laid := [("lamina/crc.halves", laid_lamina_crc_halves)] }
def ImageNumbersSaid : Prop := imageNumbersRow.holds Tryz.pinned (OpenSpec.ofChange imageNumbersSpec)

/-- ITS FALSE NEIGHBOUR: 'it returns false'. Refute it at one input. -/
def imageNumbersWrong : ChangeSpec := { name := "imageNumbers", fn := fun _ => fun
  | [d1, d2] => { results := [.lit (.bool false)], args := [d1, d2] }
  | _ => none }
def ImageNumbersWrongFalsely : Prop := imageNumbersRow.holds Tryz.pinned (OpenSpec.ofChange imageNumbersWrong)

/-- 'laminalaw15.ImageNone': WHATEVER THE INPUT: true; the input reads as it did. -/
def imageNoneSpec : ChangeSpec := { name := "imageNone", fn := fun _ => fun
  | [d1, d2] => { results := [.lit (.bool true)], args := [d1, d2] }
  | _ => none }
def imageNoneRow : OpenClaim := { program := "ytpogpajjemaagaagreatdoor", sum := "e6f8a711a758f922766ddd4dffb8642a48d1dfc619cfa7525986590c2602089b", func := "lamina/laminalaw15.ImageNone", spec := "imageNone", inPlace := ["maps.clone"], unfollowed := true, recurses := true, named := ["lamina/crc.halves"], apart := false, laid := [("lamina/crc.halves", laid_lamina_crc_halves)] }
def ImageNoneSaid : Prop := imageNoneRow.holds Tryz.pinned (OpenSpec.ofChange imageNoneSpec)

/-- ITS FALSE NEIGHBOUR: 'it returns false'. Refute it at one input. -/
def imageNoneWrong : ChangeSpec := { name := "imageNone", fn := fun _ => fun
  | [d1, d2] => { results := [.lit (.bool false)], args := [d1, d2] }
  | _ => none }
def ImageNoneWrongFalsely : Prop := imageNoneRow.holds Tryz.pinned (OpenSpec.ofChange imageNoneWrong)

/-- 'laminalaw15.ImageAlone': WHATEVER THE INPUT: true; the input reads as it did. -/
def imageAloneSpec : ChangeSpec := { name := "imageAlone", fn := fun _ => fun
  | [d1, d2] => { results := [.lit (.bool true)], args := [d1, d2] }
  | _ => none }
def imageAloneRow : OpenClaim := { program := "ytpogpajjemaagaagreatdoor", sum := "e6f8a711a758f922766ddd4dffb8642a48d1dfc619cfa7525986590c2602089b", func := "lamina/laminalaw15.ImageAlone", spec := "imageAlone", inPlace := ["maps.clone"], unfollowed := true, recurses := true, named := ["lamina/crc.halves"], apart := false, laid := [("lamina/crc.halves", laid_lamina_crc_halves)] }
def ImageAloneSaid : Prop := imageAloneRow.holds Tryz.pinned (OpenSpec.ofChange imageAloneSpec)

/-- ITS FALSE NEIGHBOUR: 'it returns false'. Refute it at one input. -/
def imageAloneWrong : ChangeSpec := { name := "imageAlone", fn := fun _ => fun
  | [d1, d2] => { results := [.lit (.bool false)], args := [d1, d2] }
  | _ => none }
def ImageAloneWrongFalsely : Prop := imageAloneRow.holds Tryz.pinned (OpenSpec.ofChange imageAloneWrong)

/- THE SECOND FORM. 'bulk': how many values and letters a reading holds, each counted each time it is reached (what is shared counts as often as it is met; a slice's spare places count too). A statement '..UptoSaid' is the law's where the arguments, and the package variables that the reading takes, are together of bulk at most 1048576: NARROWER than '..Said'. Prove '..Said' where nothing that the law and all that it calls make is longer than what came in: it says more and counts as full. Else prove '..UptoSaid'. A law counts once. -/
mutual
def uptoBulk {H : Type} : DataW H → Nat
  | .lit (.string bytes) => bytes.length + 1
  | .lit _ => 1
  | .nil => 1
  | .ptr d => uptoBulk d + 1
  | .slice elems spare => uptoBulkAll elems + uptoBulkAll spare + 1
  | .agg parts => uptoBulkAll parts + 1
  | .iface _ d => uptoBulk d + 1
  | .map entries => uptoBulkEntries entries + 1
  | .held _ => 1
def uptoBulkAll {H : Type} : List (DataW H) → Nat
  | [] => 0
  | d :: r => uptoBulk d + uptoBulkAll r
def uptoBulkEntries {H : Type} : List (Lit × DataW H) → Nat
  | [] => 0
  | x :: r => uptoBulkEntry x + uptoBulkEntries r
def uptoBulkEntry {H : Type} : Lit × DataW H → Nat
  | (.string bytes, d) => bytes.length + uptoBulk d + 1
  | (_, d) => uptoBulk d + 1
 end
def uptoSmall : (H : Type) → List (DataW H) → Bool := fun _ ds => decide (uptoBulkAll ds ≤ 1048576)
def OpenSpec.upto (s : _root_.Go.ChangeSpec) : _root_.Go.OpenSpec := { _root_.Go.OpenSpec.ofChange s with cond := some uptoSmall }

/-- 'laminalaw08.PoolKeeps', WHERE WHAT IT READS IS OF BULK AT MOST 1048576: true; the input reads as it did. -/
def poolKeepsUptoRow : OpenClaim := { program := "ytpogpajjemaagaagreatdoor", sum := "e6f8a711a758f922766ddd4dffb8642a48d1dfc619cfa7525986590c2602089b", func := "lamina/laminalaw08.PoolKeeps", spec := "poolKeeps", inPlace := ["maps.clone"], unfollowed := true, recurses := true, named := ["lamina/crc.halves"], apart := false, laid := [("lamina/crc.halves", laid_lamina_crc_halves)], narrowed := true }
def PoolKeepsUptoSaid : Prop := poolKeepsUptoRow.holds Tryz.pinned (OpenSpec.upto poolKeepsSpec)

/-- 'laminalaw08.PoolReads', WHERE WHAT IT READS IS OF BULK AT MOST 1048576: true; the input reads as it did. -/
def poolReadsUptoRow : OpenClaim := { program := "ytpogpajjemaagaagreatdoor", sum := "e6f8a711a758f922766ddd4dffb8642a48d1dfc619cfa7525986590c2602089b", func := "lamina/laminalaw08.PoolReads", spec := "poolReads", inPlace := ["maps.clone"], unfollowed := true, recurses := true, named := ["lamina/crc.halves"], apart := false, laid := [("lamina/crc.halves", laid_lamina_crc_halves)], narrowed := true }
def PoolReadsUptoSaid : Prop := poolReadsUptoRow.holds Tryz.pinned (OpenSpec.upto poolReadsSpec)

/-- 'laminalaw08.PoolNone', WHERE WHAT IT READS IS OF BULK AT MOST 1048576: true; the input reads as it did. -/
def poolNoneUptoRow : OpenClaim := { program := "ytpogpajjemaagaagreatdoor", sum := "e6f8a711a758f922766ddd4dffb8642a48d1dfc619cfa7525986590c2602089b", func := "lamina/laminalaw08.PoolNone", spec := "poolNone", inPlace := ["maps.clone"], unfollowed := true, recurses := true, named := ["lamina/crc.halves"], apart := false, laid := [("lamina/crc.halves", laid_lamina_crc_halves)], narrowed := true }
def PoolNoneUptoSaid : Prop := poolNoneUptoRow.holds Tryz.pinned (OpenSpec.upto poolNoneSpec)

/-- 'laminalaw08.PoolTwins', WHERE WHAT IT READS IS OF BULK AT MOST 1048576: true; the input reads as it did. -/
def poolTwinsUptoRow : OpenClaim := { program := "ytpogpajjemaagaagreatdoor", sum := "e6f8a711a758f922766ddd4dffb8642a48d1dfc619cfa7525986590c2602089b", func := "lamina/laminalaw08.PoolTwins", spec := "poolTwins", inPlace := ["maps.clone"], unfollowed := true, recurses := true, named := ["lamina/crc.halves"], apart := false, laid := [("lamina/crc.halves", laid_lamina_crc_halves)], narrowed := true }
def PoolTwinsUptoSaid : Prop := poolTwinsUptoRow.holds Tryz.pinned (OpenSpec.upto poolTwinsSpec)

/-- 'laminalaw15.ImageNumbers', WHERE WHAT IT READS IS OF BULK AT MOST 1048576: true; the input reads as it did. -/
def imageNumbersUptoRow : OpenClaim := { program := "ytpogpajjemaagaagreatdoor", sum := "e6f8a711a758f922766ddd4dffb8642a48d1dfc619cfa7525986590c2602089b", func := "lamina/laminalaw15.ImageNumbers", spec := "imageNumbers", inPlace := ["maps.clone"], unfollowed := true, recurses := true, named := ["lamina/crc.halves"], apart := false, laid := [("lamina/crc.halves", laid_lamina_crc_halves)], narrowed := true }
def ImageNumbersUptoSaid : Prop := imageNumbersUptoRow.holds Tryz.pinned (OpenSpec.upto imageNumbersSpec)

/-- 'laminalaw15.ImageNone', WHERE WHAT IT READS IS OF BULK AT MOST 1048576: true; the input reads as it did. -/
def imageNoneUptoRow : OpenClaim := { program := "ytpogpajjemaagaagreatdoor", sum := "e6f8a711a758f922766ddd4dffb8642a48d1dfc619cfa7525986590c2602089b", func := "lamina/laminalaw15.ImageNone", spec := "imageNone", inPlace := ["maps.clone"], unfollowed := true, recurses := true, named := ["lamina/crc.halves"], apart := false, laid := [("lamina/crc.halves", laid_lamina_crc_halves)], narrowed := true }
def ImageNoneUptoSaid : Prop := imageNoneUptoRow.holds Tryz.pinned (OpenSpec.upto imageNoneSpec)

/-- 'laminalaw15.ImageAlone', WHERE WHAT IT READS IS OF BULK AT MOST 1048576: true; the input reads as it did. -/
def imageAloneUptoRow : OpenClaim := { program := "ytpogpajjemaagaagreatdoor", sum := "e6f8a711a758f922766ddd4dffb8642a48d1dfc619cfa7525986590c2602089b", func := "lamina/laminalaw15.ImageAlone", spec := "imageAlone", inPlace := ["maps.clone"], unfollowed := true, recurses := true, named := ["lamina/crc.halves"], apart := false, laid := [("lamina/crc.halves", laid_lamina_crc_halves)], narrowed := true }
def ImageAloneUptoSaid : Prop := imageAloneUptoRow.holds Tryz.pinned (OpenSpec.upto imageAloneSpec)

end Rows
end Go.Proofs.YtpogpajjemaagaaGreatDoor

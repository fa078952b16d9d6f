/-
  No cell of these rows narrows 'for every input' (looked for: loops, veiled, ifaces, maps, wideKeys, modest, calm, conditions, laid).
  DERIVED. THE GIVEN ROWS OF THIS SEAT. 5 by the template 'for every input the law returns true; each argument reads behind the call as it read before'; 0 by the template 'total and deterministic' (their statements: YtbcacebifpagpaeTotals.lean).
  GIVEN WITH THE SEED: the statements are not yours to turn. If you find one false, say at which input.
  Laid BY PROGRAM, IN A SANDBOX (cutbox-rows.mjs): the forced cells as the released guide's own fill.sh prints them over the translation 42de63064a48ce10… (all of the seat's roots in one cut). By AI agents, Wed Nov 11 2026. No macro, syntax, notation, axiom, sorry.
-/
import Derived.Test.YtbcacebifpagpaeChecked
import GoSem.Claim
import GoSem.ClaimJoined
import GoSem.ClaimMapViews
import Derived.JoinedTies
import Derived.KernelRfl
namespace Go.Proofs.Ytbcacebifpagpae
/- THE CELL 'sum', in the pinned program and in every row, IS THE sha256 OF THE DUMP (.gsa) THAT YtbcacebifpagpaeProg.lean LOADS. Nothing in Lean hashes anything: it is a label: what it is worth is what the hold of that sum in a sandbox is worth. -/
noncomputable def Try.pinned : Pinned := { name := "ytbcacebifpagpae", sum := "42de63064a48ce10116e2eb462a5dbe5f02a0cec4976dbaaf0c7bd09b9e598d4", checked := Try.checked }
namespace Rows
def none {H : Type} : Left H := { results := [], args := [] }

/-- 'weighhouselaw.PickShort': WHATEVER THE INPUT: true; the input reads as it did. -/
def pickShortSpec : ChangeSpec := { name := "pickShort", fn := fun _ => fun
  | [d1, d2, d3, d4, d5, d6] => { results := [.lit (.bool true)], args := [d1, d2, d3, d4, d5, d6] }
  | _ => none }
def pickShortRow : OpenClaim := { program := "ytbcacebifpagpae", sum := "42de63064a48ce10116e2eb462a5dbe5f02a0cec4976dbaaf0c7bd09b9e598d4", func := "weighhouse/weighhouselaw.PickShort", spec := "pickShort", unfollowed := true, recurses := true, plainKeys := false, apart := false }
def PickShortSaid : Prop := pickShortRow.holds Try.pinned (OpenSpec.ofChange pickShortSpec)

/-- ITS FALSE NEIGHBOUR: 'it returns false'. Refute it at one input. -/
def pickShortWrong : ChangeSpec := { name := "pickShort", fn := fun _ => fun
  | [d1, d2, d3, d4, d5, d6] => { results := [.lit (.bool false)], args := [d1, d2, d3, d4, d5, d6] }
  | _ => none }
def PickShortWrongFalsely : Prop := pickShortRow.holds Try.pinned (OpenSpec.ofChange pickShortWrong)

/-- 'weighhouselaw.FillTells': WHATEVER THE INPUT: true; the input reads as it did. -/
def fillTellsSpec : ChangeSpec := { name := "fillTells", fn := fun _ => fun
  | [d1, d2, d3, d4] => { results := [.lit (.bool true)], args := [d1, d2, d3, d4] }
  | _ => none }
def fillTellsRow : OpenClaim := { program := "ytbcacebifpagpae", sum := "42de63064a48ce10116e2eb462a5dbe5f02a0cec4976dbaaf0c7bd09b9e598d4", func := "weighhouse/weighhouselaw.FillTells", spec := "fillTells", unfollowed := true, recurses := true, plainKeys := false, apart := false }
def FillTellsSaid : Prop := fillTellsRow.holds Try.pinned (OpenSpec.ofChange fillTellsSpec)

/-- ITS FALSE NEIGHBOUR: 'it returns false'. Refute it at one input. -/
def fillTellsWrong : ChangeSpec := { name := "fillTells", fn := fun _ => fun
  | [d1, d2, d3, d4] => { results := [.lit (.bool false)], args := [d1, d2, d3, d4] }
  | _ => none }
def FillTellsWrongFalsely : Prop := fillTellsRow.holds Try.pinned (OpenSpec.ofChange fillTellsWrong)

/-- 'weighhouselaw.FillTrue': WHATEVER THE INPUT: true; the input reads as it did. -/
def fillTrueSpec : ChangeSpec := { name := "fillTrue", fn := fun _ => fun
  | [d1, d2, d3, d4, d5] => { results := [.lit (.bool true)], args := [d1, d2, d3, d4, d5] }
  | _ => none }
def fillTrueRow : OpenClaim := { program := "ytbcacebifpagpae", sum := "42de63064a48ce10116e2eb462a5dbe5f02a0cec4976dbaaf0c7bd09b9e598d4", func := "weighhouse/weighhouselaw.FillTrue", spec := "fillTrue", unfollowed := true, recurses := true, plainKeys := false, apart := false }
def FillTrueSaid : Prop := fillTrueRow.holds Try.pinned (OpenSpec.ofChange fillTrueSpec)

/-- ITS FALSE NEIGHBOUR: 'it returns false'. Refute it at one input. -/
def fillTrueWrong : ChangeSpec := { name := "fillTrue", fn := fun _ => fun
  | [d1, d2, d3, d4, d5] => { results := [.lit (.bool false)], args := [d1, d2, d3, d4, d5] }
  | _ => none }
def FillTrueWrongFalsely : Prop := fillTrueRow.holds Try.pinned (OpenSpec.ofChange fillTrueWrong)

/-- 'weighhouselaw.FillHigh': WHATEVER THE INPUT: true; the input reads as it did. -/
def fillHighSpec : ChangeSpec := { name := "fillHigh", fn := fun _ => fun
  | [d1, d2] => { results := [.lit (.bool true)], args := [d1, d2] }
  | _ => none }
def fillHighRow : OpenClaim := { program := "ytbcacebifpagpae", sum := "42de63064a48ce10116e2eb462a5dbe5f02a0cec4976dbaaf0c7bd09b9e598d4", func := "weighhouse/weighhouselaw.FillHigh", spec := "fillHigh", unfollowed := true, recurses := true, plainKeys := false, apart := false }
def FillHighSaid : Prop := fillHighRow.holds Try.pinned (OpenSpec.ofChange fillHighSpec)

/-- ITS FALSE NEIGHBOUR: 'it returns false'. Refute it at one input. -/
def fillHighWrong : ChangeSpec := { name := "fillHigh", fn := fun _ => fun
  | [d1, d2] => { results := [.lit (.bool false)], args := [d1, d2] }
  | _ => none }
def FillHighWrongFalsely : Prop := fillHighRow.holds Try.pinned (OpenSpec.ofChange fillHighWrong)

/-- 'weighhouselaw.CountTrue': WHATEVER THE INPUT: true; the input reads as it did. -/
def countTrueSpec : ChangeSpec := { name := "countTrue", fn := fun _ => fun
  | [d1, d2, d3, d4, d5] => { results := [.lit (.bool true)], args := [d1, d2, d3, d4, d5] }
  | _ => none }
def countTrueRow : OpenClaim := { program := "ytbcacebifpagpae", sum := "42de63064a48ce10116e2eb462a5dbe5f02a0cec4976dbaaf0c7bd09b9e598d4", func := "weighhouse/weighhouselaw.CountTrue", spec := "countTrue", unfollowed := true, recurses := true, plainKeys := false, apart := false }
def CountTrueSaid : Prop := countTrueRow.holds Try.pinned (OpenSpec.ofChange countTrueSpec)

/-- ITS FALSE NEIGHBOUR: 'it returns false'. Refute it at one input. -/
def countTrueWrong : ChangeSpec := { name := "countTrue", fn := fun _ => fun
  | [d1, d2, d3, d4, d5] => { results := [.lit (.bool false)], args := [d1, d2, d3, d4, d5] }
  | _ => none }
def CountTrueWrongFalsely : Prop := countTrueRow.holds Try.pinned (OpenSpec.ofChange countTrueWrong)

/- THE SECOND FORM. 'bulk': how many values and letters a reading holds, each counted each time it is reached (what is shared counts as often as it is met; a slice's spare places count too). A statement '..UptoSaid' is the law's where the arguments, and the package variables that the reading takes, are together of bulk at most 1048576: NARROWER than '..Said'. Prove '..Said' where nothing that the law and all that it calls make is longer than what came in: it says more and counts as full. Else prove '..UptoSaid'. A law counts once. -/
mutual
def uptoBulk {H : Type} : DataW H → Nat
  | .lit (.string bytes) => bytes.length + 1
  | .lit _ => 1
  | .nil => 1
  | .ptr d => uptoBulk d + 1
  | .slice elems spare => uptoBulkAll elems + uptoBulkAll spare + 1
  | .agg parts => uptoBulkAll parts + 1
  | .iface _ d => uptoBulk d + 1
  | .map entries => uptoBulkEntries entries + 1
  | .held _ => 1
def uptoBulkAll {H : Type} : List (DataW H) → Nat
  | [] => 0
  | d :: r => uptoBulk d + uptoBulkAll r
def uptoBulkEntries {H : Type} : List (Lit × DataW H) → Nat
  | [] => 0
  | x :: r => uptoBulkEntry x + uptoBulkEntries r
def uptoBulkEntry {H : Type} : Lit × DataW H → Nat
  | (.string bytes, d) => bytes.length + uptoBulk d + 1
  | (_, d) => uptoBulk d + 1
 end
def uptoSmall : (H : Type) → List (DataW H) → Bool := fun _ ds => decide (uptoBulkAll ds ≤ 1048576)
def OpenSpec.upto (s : _root_.Go.ChangeSpec) : _root_.Go.OpenSpec := { _root_.Go.OpenSpec.ofChange s with cond := some uptoSmall }

/-- 'weighhouselaw.PickShort', WHERE WHAT IT READS IS OF BULK AT MOST 1048576: true; the input reads as it did. -/
def pickShortUptoRow : OpenClaim := { program := "ytbcacebifpagpae", sum := "42de63064a48ce10116e2eb462a5dbe5f02a0cec4976dbaaf0c7bd09b9e598d4", func := "weighhouse/weighhouselaw.PickShort", spec := "pickShort", unfollowed := true, recurses := true, plainKeys := false, apart := false, narrowed := true }
def PickShortUptoSaid : Prop := pickShortUptoRow.holds Try.pinned (OpenSpec.upto pickShortSpec)

/-- 'weighhouselaw.FillTells', WHERE WHAT IT READS IS OF BULK AT MOST 1048576: true; the input reads as it did. -/
def fillTellsUptoRow : OpenClaim := { program := "ytbcacebifpagpae", sum := "42de63064a48ce10116e2eb462a5dbe5f02a0cec4976dbaaf0c7bd09b9e598d4", func := "weighhouse/weighhouselaw.FillTells", spec := "fillTells", unfollowed := true, recurses := true, plainKeys := false, apart := false, narrowed := true }
def FillTellsUptoSaid : Prop := fillTellsUptoRow.holds Try.pinned (OpenSpec.upto fillTellsSpec)

/-- 'weighhouselaw.FillTrue', WHERE WHAT IT READS IS OF BULK AT MOST 1048576: true; the input reads as it did. -/
def fillTrueUptoRow : OpenClaim := { program := "ytbcacebifpagpae", sum := "42de63064a48ce10116e2eb462a5dbe5f02a0cec4976dbaaf0c7bd09b9e598d4", func := "weighhouse/weighhouselaw.FillTrue", spec := "fillTrue", unfollowed := true, recurses := true, plainKeys := false, apart := false, narrowed := true }
def FillTrueUptoSaid : Prop := fillTrueUptoRow.holds Try.pinned (OpenSpec.upto fillTrueSpec)

/-- 'weighhouselaw.FillHigh', WHERE WHAT IT READS IS OF BULK AT MOST 1048576: true; the input reads as it did. -/
def fillHighUptoRow : OpenClaim := { program := "ytbcacebifpagpae", sum := "42de63064a48ce10116e2eb462a5dbe5f02a0cec4976dbaaf0c7bd09b9e598d4", func := "weighhouse/weighhouselaw.FillHigh", spec := "fillHigh", unfollowed := true, recurses := true, plainKeys := false, apart := false, narrowed := true }
def FillHighUptoSaid : Prop := fillHighUptoRow.holds Try.pinned (OpenSpec.upto fillHighSpec)

/-- 'weighhouselaw.CountTrue', WHERE WHAT IT READS IS OF BULK AT MOST 1048576: true; the input reads as it did. -/
def countTrueUptoRow : OpenClaim := { program := "ytbcacebifpagpae", sum := "42de63064a48ce10116e2eb462a5dbe5f02a0cec4976dbaaf0c7bd09b9e598d4", func := "weighhouse/weighhouselaw.CountTrue", spec := "countTrue", unfollowed := true, recurses := true, plainKeys := false, apart := false, narrowed := true }
def CountTrueUptoSaid : Prop := countTrueUptoRow.holds Try.pinned (OpenSpec.upto countTrueSpec)

end Rows
end Go.Proofs.Ytbcacebifpagpae

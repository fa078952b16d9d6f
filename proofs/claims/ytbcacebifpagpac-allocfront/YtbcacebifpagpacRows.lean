/-
  No cell of these rows narrows 'for every input' (looked for: loops, veiled, ifaces, maps, wideKeys, modest, calm, conditions, laid).
  DERIVED. THE GIVEN ROWS OF THIS SEAT. 6 by the template 'for every input the law returns true; each argument reads behind the call as it read before'; 0 by the template 'total and deterministic' (their statements: YtbcacebifpagpacTotals.lean).
  GIVEN WITH THE SEED: the statements are not yours to turn. If you find one false, say at which input.
  Laid BY PROGRAM, IN A SANDBOX (cutbox-rows.mjs): the forced cells as the released guide's own fill.sh prints them over the translation 5723299b25a3491b… (all of the seat's roots in one cut). By AI agents, Wed Nov 11 2026. No macro, syntax, notation, axiom, sorry.
-/
import Derived.Test.YtbcacebifpagpacChecked
import GoSem.Claim
import GoSem.ClaimJoined
import GoSem.ClaimMapViews
import Derived.JoinedTies
import Derived.KernelRfl
namespace Go.Proofs.Ytbcacebifpagpac
/- THE CELL 'sum', in the pinned program and in every row, IS THE sha256 OF THE DUMP (.gsa) THAT YtbcacebifpagpacProg.lean LOADS. Nothing in Lean hashes anything: it is a label: what it is worth is what the hold of that sum in a sandbox is worth. -/
noncomputable def Try.pinned : Pinned := { name := "ytbcacebifpagpac", sum := "5723299b25a3491b37754326e59d18216161131dcd5ea1b8aa14452348ea298e", checked := Try.checked }
namespace Rows
def none {H : Type} : Left H := { results := [], args := [] }

/-- 'weighhouselaw.StateBegin': WHATEVER THE INPUT: true; the input reads as it did. -/
def stateBeginSpec : ChangeSpec := { name := "stateBegin", fn := fun _ => fun
  | [d1, d2, d3] => { results := [.lit (.bool true)], args := [d1, d2, d3] }
  | _ => none }
def stateBeginRow : OpenClaim := { program := "ytbcacebifpagpac", sum := "5723299b25a3491b37754326e59d18216161131dcd5ea1b8aa14452348ea298e", func := "weighhouse/weighhouselaw.StateBegin", spec := "stateBegin", unfollowed := true, recurses := true, apart := false }
def StateBeginSaid : Prop := stateBeginRow.holds Try.pinned (OpenSpec.ofChange stateBeginSpec)

/-- ITS FALSE NEIGHBOUR: 'it returns false'. Refute it at one input. -/
def stateBeginWrong : ChangeSpec := { name := "stateBegin", fn := fun _ => fun
  | [d1, d2, d3] => { results := [.lit (.bool false)], args := [d1, d2, d3] }
  | _ => none }
def StateBeginWrongFalsely : Prop := stateBeginRow.holds Try.pinned (OpenSpec.ofChange stateBeginWrong)

/-- 'weighhouselaw.AllocTakes': WHATEVER THE INPUT: true; the input reads as it did. -/
def allocTakesSpec : ChangeSpec := { name := "allocTakes", fn := fun _ => fun
  | [d1, d2, d3, d4, d5, d6] => { results := [.lit (.bool true)], args := [d1, d2, d3, d4, d5, d6] }
  | _ => none }
def allocTakesRow : OpenClaim := { program := "ytbcacebifpagpac", sum := "5723299b25a3491b37754326e59d18216161131dcd5ea1b8aa14452348ea298e", func := "weighhouse/weighhouselaw.AllocTakes", spec := "allocTakes", unfollowed := true, recurses := true, apart := false }
def AllocTakesSaid : Prop := allocTakesRow.holds Try.pinned (OpenSpec.ofChange allocTakesSpec)

/-- ITS FALSE NEIGHBOUR: 'it returns false'. Refute it at one input. -/
def allocTakesWrong : ChangeSpec := { name := "allocTakes", fn := fun _ => fun
  | [d1, d2, d3, d4, d5, d6] => { results := [.lit (.bool false)], args := [d1, d2, d3, d4, d5, d6] }
  | _ => none }
def AllocTakesWrongFalsely : Prop := allocTakesRow.holds Try.pinned (OpenSpec.ofChange allocTakesWrong)

/-- 'weighhouselaw.AllocTrue': WHATEVER THE INPUT: true; the input reads as it did. -/
def allocTrueSpec : ChangeSpec := { name := "allocTrue", fn := fun _ => fun
  | [d1, d2, d3, d4, d5, d6, d7] => { results := [.lit (.bool true)], args := [d1, d2, d3, d4, d5, d6, d7] }
  | _ => none }
def allocTrueRow : OpenClaim := { program := "ytbcacebifpagpac", sum := "5723299b25a3491b37754326e59d18216161131dcd5ea1b8aa14452348ea298e", func := "weighhouse/weighhouselaw.AllocTrue", spec := "allocTrue", unfollowed := true, recurses := true, apart := false }
def AllocTrueSaid : Prop := allocTrueRow.holds Try.pinned (OpenSpec.ofChange allocTrueSpec)

/-- ITS FALSE NEIGHBOUR: 'it returns false'. Refute it at one input. -/
def allocTrueWrong : ChangeSpec := { name := "allocTrue", fn := fun _ => fun
  | [d1, d2, d3, d4, d5, d6, d7] => { results := [.lit (.bool false)], args := [d1, d2, d3, d4, d5, d6, d7] }
  | _ => none }
def AllocTrueWrongFalsely : Prop := allocTrueRow.holds Try.pinned (OpenSpec.ofChange allocTrueWrong)

/-- 'weighhouselaw.AllocFront': WHATEVER THE INPUT: true; the input reads as it did. -/
def allocFrontSpec : ChangeSpec := { name := "allocFront", fn := fun _ => fun
  | [d1, d2, d3, d4, d5] => { results := [.lit (.bool true)], args := [d1, d2, d3, d4, d5] }
  | _ => none }
def allocFrontRow : OpenClaim := { program := "ytbcacebifpagpac", sum := "5723299b25a3491b37754326e59d18216161131dcd5ea1b8aa14452348ea298e", func := "weighhouse/weighhouselaw.AllocFront", spec := "allocFront", unfollowed := true, recurses := true, apart := false }
def AllocFrontSaid : Prop := allocFrontRow.holds Try.pinned (OpenSpec.ofChange allocFrontSpec)

/-- ITS FALSE NEIGHBOUR: 'it returns false'. Refute it at one input. -/
def allocFrontWrong : ChangeSpec := { name := "allocFront", fn := fun _ => fun
  | [d1, d2, d3, d4, d5] => { results := [.lit (.bool false)], args := [d1, d2, d3, d4, d5] }
  | _ => none }
def AllocFrontWrongFalsely : Prop := allocFrontRow.holds Try.pinned (OpenSpec.ofChange allocFrontWrong)

/-- 'weighhouselaw.RecvReceives': WHATEVER THE INPUT: true; the input reads as it did. -/
def recvReceivesSpec : ChangeSpec := { name := "recvReceives", fn := fun _ => fun
  | [d1, d2, d3, d4, d5] => { results := [.lit (.bool true)], args := [d1, d2, d3, d4, d5] }
  | _ => none }
def recvReceivesRow : OpenClaim := { program := "ytbcacebifpagpac", sum := "5723299b25a3491b37754326e59d18216161131dcd5ea1b8aa14452348ea298e", func := "weighhouse/weighhouselaw.RecvReceives", spec := "recvReceives", unfollowed := true, recurses := true, apart := false }
def RecvReceivesSaid : Prop := recvReceivesRow.holds Try.pinned (OpenSpec.ofChange recvReceivesSpec)

/-- ITS FALSE NEIGHBOUR: 'it returns false'. Refute it at one input. -/
def recvReceivesWrong : ChangeSpec := { name := "recvReceives", fn := fun _ => fun
  | [d1, d2, d3, d4, d5] => { results := [.lit (.bool false)], args := [d1, d2, d3, d4, d5] }
  | _ => none }
def RecvReceivesWrongFalsely : Prop := recvReceivesRow.holds Try.pinned (OpenSpec.ofChange recvReceivesWrong)

/-- 'weighhouselaw.RecvEnters': WHATEVER THE INPUT: true; the input reads as it did. -/
def recvEntersSpec : ChangeSpec := { name := "recvEnters", fn := fun _ => fun
  | [d1, d2, d3] => { results := [.lit (.bool true)], args := [d1, d2, d3] }
  | _ => none }
def recvEntersRow : OpenClaim := { program := "ytbcacebifpagpac", sum := "5723299b25a3491b37754326e59d18216161131dcd5ea1b8aa14452348ea298e", func := "weighhouse/weighhouselaw.RecvEnters", spec := "recvEnters", unfollowed := true, recurses := true, apart := false }
def RecvEntersSaid : Prop := recvEntersRow.holds Try.pinned (OpenSpec.ofChange recvEntersSpec)

/-- ITS FALSE NEIGHBOUR: 'it returns false'. Refute it at one input. -/
def recvEntersWrong : ChangeSpec := { name := "recvEnters", fn := fun _ => fun
  | [d1, d2, d3] => { results := [.lit (.bool false)], args := [d1, d2, d3] }
  | _ => none }
def RecvEntersWrongFalsely : Prop := recvEntersRow.holds Try.pinned (OpenSpec.ofChange recvEntersWrong)

/- THE SECOND FORM. 'bulk': how many values and letters a reading holds, each counted each time it is reached (what is shared counts as often as it is met; a slice's spare places count too). A statement '..UptoSaid' is the law's where the arguments, and the package variables that the reading takes, are together of bulk at most 1048576: NARROWER than '..Said'. Prove '..Said' where nothing that the law and all that it calls make is longer than what came in: it says more and counts as full. Else prove '..UptoSaid'. A law counts once. -/
mutual
def uptoBulk {H : Type} : DataW H → Nat
  | .lit (.string bytes) => bytes.length + 1
  | .lit _ => 1
  | .nil => 1
  | .ptr d => uptoBulk d + 1
  | .slice elems spare => uptoBulkAll elems + uptoBulkAll spare + 1
  | .agg parts => uptoBulkAll parts + 1
  | .iface _ d => uptoBulk d + 1
  | .map entries => uptoBulkEntries entries + 1
  | .held _ => 1
def uptoBulkAll {H : Type} : List (DataW H) → Nat
  | [] => 0
  | d :: r => uptoBulk d + uptoBulkAll r
def uptoBulkEntries {H : Type} : List (Lit × DataW H) → Nat
  | [] => 0
  | x :: r => uptoBulkEntry x + uptoBulkEntries r
def uptoBulkEntry {H : Type} : Lit × DataW H → Nat
  | (.string bytes, d) => bytes.length + uptoBulk d + 1
  | (_, d) => uptoBulk d + 1
 end
def uptoSmall : (H : Type) → List (DataW H) → Bool := fun _ ds => decide (uptoBulkAll ds ≤ 1048576)
def OpenSpec.upto (s : _root_.Go.ChangeSpec) : _root_.Go.OpenSpec := { _root_.Go.OpenSpec.ofChange s with cond := some uptoSmall }

/-- 'weighhouselaw.StateBegin', WHERE WHAT IT READS IS OF BULK AT MOST 1048576: true; the input reads as it did. -/
def stateBeginUptoRow : OpenClaim := { program := "ytbcacebifpagpac", sum := "5723299b25a3491b37754326e59d18216161131dcd5ea1b8aa14452348ea298e", func := "weighhouse/weighhouselaw.StateBegin", spec := "stateBegin", unfollowed := true, recurses := true, apart := false, narrowed := true }
def StateBeginUptoSaid : Prop := stateBeginUptoRow.holds Try.pinned (OpenSpec.upto stateBeginSpec)

/-- 'weighhouselaw.AllocTakes', WHERE WHAT IT READS IS OF BULK AT MOST 1048576: true; the input reads as it did. -/
def allocTakesUptoRow : OpenClaim := { program := "ytbcacebifpagpac", sum := "5723299b25a3491b37754326e59d18216161131dcd5ea1b8aa14452348ea298e", func := "weighhouse/weighhouselaw.AllocTakes", spec := "allocTakes", unfollowed := true, recurses := true, apart := false, narrowed := true }
def AllocTakesUptoSaid : Prop := allocTakesUptoRow.holds Try.pinned (OpenSpec.upto allocTakesSpec)

/-- 'weighhouselaw.AllocTrue', WHERE WHAT IT READS IS OF BULK AT MOST 1048576: true; the input reads as it did. -/
def allocTrueUptoRow : OpenClaim := { program := "ytbcacebifpagpac", sum := "5723299b25a3491b37754326e59d18216161131dcd5ea1b8aa14452348ea298e", func := "weighhouse/weighhouselaw.AllocTrue", spec := "allocTrue", unfollowed := true, recurses := true, apart := false, narrowed := true }
def AllocTrueUptoSaid : Prop := allocTrueUptoRow.holds Try.pinned (OpenSpec.upto allocTrueSpec)

/-- 'weighhouselaw.AllocFront', WHERE WHAT IT READS IS OF BULK AT MOST 1048576: true; the input reads as it did. -/
def allocFrontUptoRow : OpenClaim := { program := "ytbcacebifpagpac", sum := "5723299b25a3491b37754326e59d18216161131dcd5ea1b8aa14452348ea298e", func := "weighhouse/weighhouselaw.AllocFront", spec := "allocFront", unfollowed := true, recurses := true, apart := false, narrowed := true }
def AllocFrontUptoSaid : Prop := allocFrontUptoRow.holds Try.pinned (OpenSpec.upto allocFrontSpec)

/-- 'weighhouselaw.RecvReceives', WHERE WHAT IT READS IS OF BULK AT MOST 1048576: true; the input reads as it did. -/
def recvReceivesUptoRow : OpenClaim := { program := "ytbcacebifpagpac", sum := "5723299b25a3491b37754326e59d18216161131dcd5ea1b8aa14452348ea298e", func := "weighhouse/weighhouselaw.RecvReceives", spec := "recvReceives", unfollowed := true, recurses := true, apart := false, narrowed := true }
def RecvReceivesUptoSaid : Prop := recvReceivesUptoRow.holds Try.pinned (OpenSpec.upto recvReceivesSpec)

/-- 'weighhouselaw.RecvEnters', WHERE WHAT IT READS IS OF BULK AT MOST 1048576: true; the input reads as it did. -/
def recvEntersUptoRow : OpenClaim := { program := "ytbcacebifpagpac", sum := "5723299b25a3491b37754326e59d18216161131dcd5ea1b8aa14452348ea298e", func := "weighhouse/weighhouselaw.RecvEnters", spec := "recvEnters", unfollowed := true, recurses := true, apart := false, narrowed := true }
def RecvEntersUptoSaid : Prop := recvEntersUptoRow.holds Try.pinned (OpenSpec.upto recvEntersSpec)

end Rows
end Go.Proofs.Ytbcacebifpagpac

/-
  No cell of these rows narrows 'for every input' (looked for: loops, veiled, ifaces, maps, wideKeys, modest, calm, conditions, laid).
  DERIVED. THE GIVEN ROWS OF THIS SEAT. 6 by the template 'for every input the law returns true; each argument reads behind the call as it read before'; 0 by the template 'total and deterministic' (their statements: YtbcacebifpagpabTotals.lean).
  GIVEN WITH THE SEED: the statements are not yours to turn. If you find one false, say at which input.
  Laid BY PROGRAM, IN A SANDBOX (cutbox-rows.mjs): the forced cells as the released guide's own fill.sh prints them over the translation 169e83fe58b97590… (all of the seat's roots in one cut). By AI agents, Wed Nov 11 2026. No macro, syntax, notation, axiom, sorry.
-/
import Derived.Test.YtbcacebifpagpabChecked
import GoSem.Claim
import GoSem.ClaimJoined
import GoSem.ClaimMapViews
import Derived.JoinedTies
import Derived.KernelRfl
namespace Go.Proofs.Ytbcacebifpagpab
/- THE CELL 'sum', in the pinned program and in every row, IS THE sha256 OF THE DUMP (.gsa) THAT YtbcacebifpagpabProg.lean LOADS. Nothing in Lean hashes anything: it is a label: what it is worth is what the hold of that sum in a sandbox is worth. -/
noncomputable def Try.pinned : Pinned := { name := "ytbcacebifpagpab", sum := "169e83fe58b97590e28214c5b98f48f7c62e6a0ca41847cbf4ae934e8759492b", checked := Try.checked }
namespace Rows
def none {H : Type} : Left H := { results := [], args := [] }

/-- 'weighhouselaw.HoldsAdds': WHATEVER THE INPUT: true; the input reads as it did. -/
def holdsAddsSpec : ChangeSpec := { name := "holdsAdds", fn := fun _ => fun
  | [d1, d2] => { results := [.lit (.bool true)], args := [d1, d2] }
  | _ => none }
def holdsAddsRow : OpenClaim := { program := "ytbcacebifpagpab", sum := "169e83fe58b97590e28214c5b98f48f7c62e6a0ca41847cbf4ae934e8759492b", func := "weighhouse/weighhouselaw.HoldsAdds", spec := "holdsAdds", unfollowed := true, recurses := true, apart := false }
def HoldsAddsSaid : Prop := holdsAddsRow.holds Try.pinned (OpenSpec.ofChange holdsAddsSpec)

/-- ITS FALSE NEIGHBOUR: 'it returns false'. Refute it at one input. -/
def holdsAddsWrong : ChangeSpec := { name := "holdsAdds", fn := fun _ => fun
  | [d1, d2] => { results := [.lit (.bool false)], args := [d1, d2] }
  | _ => none }
def HoldsAddsWrongFalsely : Prop := holdsAddsRow.holds Try.pinned (OpenSpec.ofChange holdsAddsWrong)

/-- 'weighhouselaw.HoldsTrue': WHATEVER THE INPUT: true; the input reads as it did. -/
def holdsTrueSpec : ChangeSpec := { name := "holdsTrue", fn := fun _ => fun
  | [d1, d2] => { results := [.lit (.bool true)], args := [d1, d2] }
  | _ => none }
def holdsTrueRow : OpenClaim := { program := "ytbcacebifpagpab", sum := "169e83fe58b97590e28214c5b98f48f7c62e6a0ca41847cbf4ae934e8759492b", func := "weighhouse/weighhouselaw.HoldsTrue", spec := "holdsTrue", unfollowed := true, recurses := true, apart := false }
def HoldsTrueSaid : Prop := holdsTrueRow.holds Try.pinned (OpenSpec.ofChange holdsTrueSpec)

/-- ITS FALSE NEIGHBOUR: 'it returns false'. Refute it at one input. -/
def holdsTrueWrong : ChangeSpec := { name := "holdsTrue", fn := fun _ => fun
  | [d1, d2] => { results := [.lit (.bool false)], args := [d1, d2] }
  | _ => none }
def HoldsTrueWrongFalsely : Prop := holdsTrueRow.holds Try.pinned (OpenSpec.ofChange holdsTrueWrong)

/-- 'weighhouselaw.HoldsOrder': WHATEVER THE INPUT: true; the input reads as it did. -/
def holdsOrderSpec : ChangeSpec := { name := "holdsOrder", fn := fun _ => fun
  | [d1, d2, d3] => { results := [.lit (.bool true)], args := [d1, d2, d3] }
  | _ => none }
def holdsOrderRow : OpenClaim := { program := "ytbcacebifpagpab", sum := "169e83fe58b97590e28214c5b98f48f7c62e6a0ca41847cbf4ae934e8759492b", func := "weighhouse/weighhouselaw.HoldsOrder", spec := "holdsOrder", unfollowed := true, recurses := true, apart := false }
def HoldsOrderSaid : Prop := holdsOrderRow.holds Try.pinned (OpenSpec.ofChange holdsOrderSpec)

/-- ITS FALSE NEIGHBOUR: 'it returns false'. Refute it at one input. -/
def holdsOrderWrong : ChangeSpec := { name := "holdsOrder", fn := fun _ => fun
  | [d1, d2, d3] => { results := [.lit (.bool false)], args := [d1, d2, d3] }
  | _ => none }
def HoldsOrderWrongFalsely : Prop := holdsOrderRow.holds Try.pinned (OpenSpec.ofChange holdsOrderWrong)

/-- 'weighhouselaw.StateChecks': WHATEVER THE INPUT: true; the input reads as it did. -/
def stateChecksSpec : ChangeSpec := { name := "stateChecks", fn := fun _ => fun
  | [d1, d2] => { results := [.lit (.bool true)], args := [d1, d2] }
  | _ => none }
def stateChecksRow : OpenClaim := { program := "ytbcacebifpagpab", sum := "169e83fe58b97590e28214c5b98f48f7c62e6a0ca41847cbf4ae934e8759492b", func := "weighhouse/weighhouselaw.StateChecks", spec := "stateChecks", unfollowed := true, recurses := true, apart := false }
def StateChecksSaid : Prop := stateChecksRow.holds Try.pinned (OpenSpec.ofChange stateChecksSpec)

/-- ITS FALSE NEIGHBOUR: 'it returns false'. Refute it at one input. -/
def stateChecksWrong : ChangeSpec := { name := "stateChecks", fn := fun _ => fun
  | [d1, d2] => { results := [.lit (.bool false)], args := [d1, d2] }
  | _ => none }
def StateChecksWrongFalsely : Prop := stateChecksRow.holds Try.pinned (OpenSpec.ofChange stateChecksWrong)

/-- 'weighhouselaw.StateTells': WHATEVER THE INPUT: true; the input reads as it did. -/
def stateTellsSpec : ChangeSpec := { name := "stateTells", fn := fun _ => fun
  | [d1, d2, d3, d4] => { results := [.lit (.bool true)], args := [d1, d2, d3, d4] }
  | _ => none }
def stateTellsRow : OpenClaim := { program := "ytbcacebifpagpab", sum := "169e83fe58b97590e28214c5b98f48f7c62e6a0ca41847cbf4ae934e8759492b", func := "weighhouse/weighhouselaw.StateTells", spec := "stateTells", unfollowed := true, recurses := true, apart := false }
def StateTellsSaid : Prop := stateTellsRow.holds Try.pinned (OpenSpec.ofChange stateTellsSpec)

/-- ITS FALSE NEIGHBOUR: 'it returns false'. Refute it at one input. -/
def stateTellsWrong : ChangeSpec := { name := "stateTells", fn := fun _ => fun
  | [d1, d2, d3, d4] => { results := [.lit (.bool false)], args := [d1, d2, d3, d4] }
  | _ => none }
def StateTellsWrongFalsely : Prop := stateTellsRow.holds Try.pinned (OpenSpec.ofChange stateTellsWrong)

/-- 'weighhouselaw.StateTrue': WHATEVER THE INPUT: true; the input reads as it did. -/
def stateTrueSpec : ChangeSpec := { name := "stateTrue", fn := fun _ => fun
  | [d1, d2, d3, d4] => { results := [.lit (.bool true)], args := [d1, d2, d3, d4] }
  | _ => none }
def stateTrueRow : OpenClaim := { program := "ytbcacebifpagpab", sum := "169e83fe58b97590e28214c5b98f48f7c62e6a0ca41847cbf4ae934e8759492b", func := "weighhouse/weighhouselaw.StateTrue", spec := "stateTrue", unfollowed := true, recurses := true, apart := false }
def StateTrueSaid : Prop := stateTrueRow.holds Try.pinned (OpenSpec.ofChange stateTrueSpec)

/-- ITS FALSE NEIGHBOUR: 'it returns false'. Refute it at one input. -/
def stateTrueWrong : ChangeSpec := { name := "stateTrue", fn := fun _ => fun
  | [d1, d2, d3, d4] => { results := [.lit (.bool false)], args := [d1, d2, d3, d4] }
  | _ => none }
def StateTrueWrongFalsely : Prop := stateTrueRow.holds Try.pinned (OpenSpec.ofChange stateTrueWrong)

/- THE SECOND FORM. 'bulk': how many values and letters a reading holds, each counted each time it is reached (what is shared counts as often as it is met; a slice's spare places count too). A statement '..UptoSaid' is the law's where the arguments, and the package variables that the reading takes, are together of bulk at most 1048576: NARROWER than '..Said'. Prove '..Said' where nothing that the law and all that it calls make is longer than what came in: it says more and counts as full. Else prove '..UptoSaid'. A law counts once. -/
mutual
def uptoBulk {H : Type} : DataW H → Nat
  | .lit (.string bytes) => bytes.length + 1
  | .lit _ => 1
  | .nil => 1
  | .ptr d => uptoBulk d + 1
  | .slice elems spare => uptoBulkAll elems + uptoBulkAll spare + 1
  | .agg parts => uptoBulkAll parts + 1
  | .iface _ d => uptoBulk d + 1
  | .map entries => uptoBulkEntries entries + 1
  | .held _ => 1
def uptoBulkAll {H : Type} : List (DataW H) → Nat
  | [] => 0
  | d :: r => uptoBulk d + uptoBulkAll r
def uptoBulkEntries {H : Type} : List (Lit × DataW H) → Nat
  | [] => 0
  | x :: r => uptoBulkEntry x + uptoBulkEntries r
def uptoBulkEntry {H : Type} : Lit × DataW H → Nat
  | (.string bytes, d) => bytes.length + uptoBulk d + 1
  | (_, d) => uptoBulk d + 1
 end
def uptoSmall : (H : Type) → List (DataW H) → Bool := fun _ ds => decide (uptoBulkAll ds ≤ 1048576)
def OpenSpec.upto (s : _root_.Go.ChangeSpec) : _root_.Go.OpenSpec := { _root_.Go.OpenSpec.ofChange s with cond := some uptoSmall }

/-- 'weighhouselaw.HoldsAdds', WHERE WHAT IT READS IS OF BULK AT MOST 1048576: true; the input reads as it did. -/
def holdsAddsUptoRow : OpenClaim := { program := "ytbcacebifpagpab", sum := "169e83fe58b97590e28214c5b98f48f7c62e6a0ca41847cbf4ae934e8759492b", func := "weighhouse/weighhouselaw.HoldsAdds", spec := "holdsAdds", unfollowed := true, recurses := true, apart := false, narrowed := true }
def HoldsAddsUptoSaid : Prop := holdsAddsUptoRow.holds Try.pinned (OpenSpec.upto holdsAddsSpec)

/-- 'weighhouselaw.HoldsTrue', WHERE WHAT IT READS IS OF BULK AT MOST 1048576: true; the input reads as it did. -/
def holdsTrueUptoRow : OpenClaim := { program := "ytbcacebifpagpab", sum := "169e83fe58b97590e28214c5b98f48f7c62e6a0ca41847cbf4ae934e8759492b", func := "weighhouse/weighhouselaw.HoldsTrue", spec := "holdsTrue", unfollowed := true, recurses := true, apart := false, narrowed := true }
def HoldsTrueUptoSaid : Prop := holdsTrueUptoRow.holds Try.pinned (OpenSpec.upto holdsTrueSpec)

/-- 'weighhouselaw.HoldsOrder', WHERE WHAT IT READS IS OF BULK AT MOST 1048576: true; the input reads as it did. -/
def holdsOrderUptoRow : OpenClaim := { program := "ytbcacebifpagpab", sum := "169e83fe58b97590e28214c5b98f48f7c62e6a0ca41847cbf4ae934e8759492b", func := "weighhouse/weighhouselaw.HoldsOrder", spec := "holdsOrder", unfollowed := true, recurses := true, apart := false, narrowed := true }
def HoldsOrderUptoSaid : Prop := holdsOrderUptoRow.holds Try.pinned (OpenSpec.upto holdsOrderSpec)

/-- 'weighhouselaw.StateChecks', WHERE WHAT IT READS IS OF BULK AT MOST 1048576: true; the input reads as it did. -/
def stateChecksUptoRow : OpenClaim := { program := "ytbcacebifpagpab", sum := "169e83fe58b97590e28214c5b98f48f7c62e6a0ca41847cbf4ae934e8759492b", func := "weighhouse/weighhouselaw.StateChecks", spec := "stateChecks", unfollowed := true, recurses := true, apart := false, narrowed := true }
def StateChecksUptoSaid : Prop := stateChecksUptoRow.holds Try.pinned (OpenSpec.upto stateChecksSpec)

/-- 'weighhouselaw.StateTells', WHERE WHAT IT READS IS OF BULK AT MOST 1048576: true; the input reads as it did. -/
def stateTellsUptoRow : OpenClaim := { program := "ytbcacebifpagpab", sum := "169e83fe58b97590e28214c5b98f48f7c62e6a0ca41847cbf4ae934e8759492b", func := "weighhouse/weighhouselaw.StateTells", spec := "stateTells", unfollowed := true, recurses := true, apart := false, narrowed := true }
def StateTellsUptoSaid : Prop := stateTellsUptoRow.holds Try.pinned (OpenSpec.upto stateTellsSpec)

/-- 'weighhouselaw.StateTrue', WHERE WHAT IT READS IS OF BULK AT MOST 1048576: true; the input reads as it did. -/
def stateTrueUptoRow : OpenClaim := { program := "ytbcacebifpagpab", sum := "169e83fe58b97590e28214c5b98f48f7c62e6a0ca41847cbf4ae934e8759492b", func := "weighhouse/weighhouselaw.StateTrue", spec := "stateTrue", unfollowed := true, recurses := true, apart := false, narrowed := true }
def StateTrueUptoSaid : Prop := stateTrueUptoRow.holds Try.pinned (OpenSpec.upto stateTrueSpec)

end Rows
end Go.Proofs.Ytbcacebifpagpab

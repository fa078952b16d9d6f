/-
  No cell of these rows narrows 'for every input' (looked for: loops, veiled, ifaces, maps, wideKeys, modest, calm, conditions, laid).
  DERIVED. THE GIVEN ROWS OF THIS SEAT. 4 by the template 'for every input the law returns true; each argument reads behind the call as it read before'; 0 by the template 'total and deterministic' (their statements: YtbcacebifpagpadTotals.lean).
  GIVEN WITH THE SEED: the statements are not yours to turn. If you find one false, say at which input.
  Laid BY PROGRAM, IN A SANDBOX (cutbox-rows.mjs): the forced cells as the released guide's own fill.sh prints them over the translation ca00ee9736f43ad3… (all of the seat's roots in one cut). By AI agents, Wed Nov 11 2026. No macro, syntax, notation, axiom, sorry.
-/
import Derived.Test.YtbcacebifpagpadChecked
import GoSem.Claim
import GoSem.ClaimJoined
import GoSem.ClaimMapViews
import Derived.JoinedTies
import Derived.KernelRfl
namespace Go.Proofs.Ytbcacebifpagpad
/- THE CELL 'sum', in the pinned program and in every row, IS THE sha256 OF THE DUMP (.gsa) THAT YtbcacebifpagpadProg.lean LOADS. Nothing in Lean hashes anything: it is a label: what it is worth is what the hold of that sum in a sandbox is worth. -/
noncomputable def Try.pinned : Pinned := { name := "ytbcacebifpagpad", sum := "ca00ee9736f43ad313dad20c675237d530e83eb121bc819860fbe10a4574a443", checked := Try.checked }
namespace Rows
def none {H : Type} : Left H := { results := [], args := [] }

/-- 'weighhouselaw.RecvTrue': WHATEVER THE INPUT: true; the input reads as it did. -/
def recvTrueSpec : ChangeSpec := { name := "recvTrue", fn := fun _ => fun
  | [d1, d2, d3, d4, d5, d6] => { results := [.lit (.bool true)], args := [d1, d2, d3, d4, d5, d6] }
  | _ => none }
def recvTrueRow : OpenClaim := { program := "ytbcacebifpagpad", sum := "ca00ee9736f43ad313dad20c675237d530e83eb121bc819860fbe10a4574a443", func := "weighhouse/weighhouselaw.RecvTrue", spec := "recvTrue", unfollowed := true, recurses := true, apart := false }
def RecvTrueSaid : Prop := recvTrueRow.holds Try.pinned (OpenSpec.ofChange recvTrueSpec)

/-- ITS FALSE NEIGHBOUR: 'it returns false'. Refute it at one input. -/
def recvTrueWrong : ChangeSpec := { name := "recvTrue", fn := fun _ => fun
  | [d1, d2, d3, d4, d5, d6] => { results := [.lit (.bool false)], args := [d1, d2, d3, d4, d5, d6] }
  | _ => none }
def RecvTrueWrongFalsely : Prop := recvTrueRow.holds Try.pinned (OpenSpec.ofChange recvTrueWrong)

/-- 'weighhouselaw.WaveTrue': WHATEVER THE INPUT: true; the input reads as it did. -/
def waveTrueSpec : ChangeSpec := { name := "waveTrue", fn := fun _ => fun
  | [d1, d2, d3, d4] => { results := [.lit (.bool true)], args := [d1, d2, d3, d4] }
  | _ => none }
def waveTrueRow : OpenClaim := { program := "ytbcacebifpagpad", sum := "ca00ee9736f43ad313dad20c675237d530e83eb121bc819860fbe10a4574a443", func := "weighhouse/weighhouselaw.WaveTrue", spec := "waveTrue", unfollowed := true, recurses := true, apart := false }
def WaveTrueSaid : Prop := waveTrueRow.holds Try.pinned (OpenSpec.ofChange waveTrueSpec)

/-- ITS FALSE NEIGHBOUR: 'it returns false'. Refute it at one input. -/
def waveTrueWrong : ChangeSpec := { name := "waveTrue", fn := fun _ => fun
  | [d1, d2, d3, d4] => { results := [.lit (.bool false)], args := [d1, d2, d3, d4] }
  | _ => none }
def WaveTrueWrongFalsely : Prop := waveTrueRow.holds Try.pinned (OpenSpec.ofChange waveTrueWrong)

/-- 'weighhouselaw.WaveFirst': WHATEVER THE INPUT: true; the input reads as it did. -/
def waveFirstSpec : ChangeSpec := { name := "waveFirst", fn := fun _ => fun
  | [d1, d2, d3, d4, d5, d6] => { results := [.lit (.bool true)], args := [d1, d2, d3, d4, d5, d6] }
  | _ => none }
def waveFirstRow : OpenClaim := { program := "ytbcacebifpagpad", sum := "ca00ee9736f43ad313dad20c675237d530e83eb121bc819860fbe10a4574a443", func := "weighhouse/weighhouselaw.WaveFirst", spec := "waveFirst", unfollowed := true, recurses := true, apart := false }
def WaveFirstSaid : Prop := waveFirstRow.holds Try.pinned (OpenSpec.ofChange waveFirstSpec)

/-- ITS FALSE NEIGHBOUR: 'it returns false'. Refute it at one input. -/
def waveFirstWrong : ChangeSpec := { name := "waveFirst", fn := fun _ => fun
  | [d1, d2, d3, d4, d5, d6] => { results := [.lit (.bool false)], args := [d1, d2, d3, d4, d5, d6] }
  | _ => none }
def WaveFirstWrongFalsely : Prop := waveFirstRow.holds Try.pinned (OpenSpec.ofChange waveFirstWrong)

/-- 'weighhouselaw.PickTrue': WHATEVER THE INPUT: true; the input reads as it did. -/
def pickTrueSpec : ChangeSpec := { name := "pickTrue", fn := fun _ => fun
  | [d1, d2, d3, d4, d5, d6] => { results := [.lit (.bool true)], args := [d1, d2, d3, d4, d5, d6] }
  | _ => none }
def pickTrueRow : OpenClaim := { program := "ytbcacebifpagpad", sum := "ca00ee9736f43ad313dad20c675237d530e83eb121bc819860fbe10a4574a443", func := "weighhouse/weighhouselaw.PickTrue", spec := "pickTrue", unfollowed := true, recurses := true, apart := false }
def PickTrueSaid : Prop := pickTrueRow.holds Try.pinned (OpenSpec.ofChange pickTrueSpec)

/-- ITS FALSE NEIGHBOUR: 'it returns false'. Refute it at one input. -/
def pickTrueWrong : ChangeSpec := { name := "pickTrue", fn := fun _ => fun
  | [d1, d2, d3, d4, d5, d6] => { results := [.lit (.bool false)], args := [d1, d2, d3, d4, d5, d6] }
  | _ => none }
def PickTrueWrongFalsely : Prop := pickTrueRow.holds Try.pinned (OpenSpec.ofChange pickTrueWrong)

/- THE SECOND FORM. 'bulk': how many values and letters a reading holds, each counted each time it is reached (what is shared counts as often as it is met; a slice's spare places count too). A statement '..UptoSaid' is the law's where the arguments, and the package variables that the reading takes, are together of bulk at most 1048576: NARROWER than '..Said'. Prove '..Said' where nothing that the law and all that it calls make is longer than what came in: it says more and counts as full. Else prove '..UptoSaid'. A law counts once. -/
mutual
def uptoBulk {H : Type} : DataW H → Nat
  | .lit (.string bytes) => bytes.length + 1
  | .lit _ => 1
  | .nil => 1
  | .ptr d => uptoBulk d + 1
  | .slice elems spare => uptoBulkAll elems + uptoBulkAll spare + 1
  | .agg parts => uptoBulkAll parts + 1
  | .iface _ d => uptoBulk d + 1
  | .map entries => uptoBulkEntries entries + 1
  | .held _ => 1
def uptoBulkAll {H : Type} : List (DataW H) → Nat
  | [] => 0
  | d :: r => uptoBulk d + uptoBulkAll r
def uptoBulkEntries {H : Type} : List (Lit × DataW H) → Nat
  | [] => 0
  | x :: r => uptoBulkEntry x + uptoBulkEntries r
def uptoBulkEntry {H : Type} : Lit × DataW H → Nat
  | (.string bytes, d) => bytes.length + uptoBulk d + 1
  | (_, d) => uptoBulk d + 1
 end
def uptoSmall : (H : Type) → List (DataW H) → Bool := fun _ ds => decide (uptoBulkAll ds ≤ 1048576)
def OpenSpec.upto (s : _root_.Go.ChangeSpec) : _root_.Go.OpenSpec := { _root_.Go.OpenSpec.ofChange s with cond := some uptoSmall }

/-- 'weighhouselaw.RecvTrue', WHERE WHAT IT READS IS OF BULK AT MOST 1048576: true; the input reads as it did. -/
def recvTrueUptoRow : OpenClaim := { program := "ytbcacebifpagpad", sum := "ca00ee9736f43ad313dad20c675237d530e83eb121bc819860fbe10a4574a443", func := "weighhouse/weighhouselaw.RecvTrue", spec := "recvTrue", unfollowed := true, recurses := true, apart := false, narrowed := true }
def RecvTrueUptoSaid : Prop := recvTrueUptoRow.holds Try.pinned (OpenSpec.upto recvTrueSpec)

/-- 'weighhouselaw.WaveTrue', WHERE WHAT IT READS IS OF BULK AT MOST 1048576: true; the input reads as it did. -/
def waveTrueUptoRow : OpenClaim := { program := "ytbcacebifpagpad", sum := "ca00ee9736f43ad313dad20c675237d530e83eb121bc819860fbe10a4574a443", func := "weighhouse/weighhouselaw.WaveTrue", spec := "waveTrue", unfollowed := true, recurses := true, apart := false, narrowed := true }
def WaveTrueUptoSaid : Prop := waveTrueUptoRow.holds Try.pinned (OpenSpec.upto waveTrueSpec)

/-- 'weighhouselaw.WaveFirst', WHERE WHAT IT READS IS OF BULK AT MOST 1048576: true; the input reads as it did. -/
def waveFirstUptoRow : OpenClaim := { program := "ytbcacebifpagpad", sum := "ca00ee9736f43ad313dad20c675237d530e83eb121bc819860fbe10a4574a443", func := "weighhouse/weighhouselaw.WaveFirst", spec := "waveFirst", unfollowed := true, recurses := true, apart := false, narrowed := true }
def WaveFirstUptoSaid : Prop := waveFirstUptoRow.holds Try.pinned (OpenSpec.upto waveFirstSpec)

/-- 'weighhouselaw.PickTrue', WHERE WHAT IT READS IS OF BULK AT MOST 1048576: true; the input reads as it did. -/
def pickTrueUptoRow : OpenClaim := { program := "ytbcacebifpagpad", sum := "ca00ee9736f43ad313dad20c675237d530e83eb121bc819860fbe10a4574a443", func := "weighhouse/weighhouselaw.PickTrue", spec := "pickTrue", unfollowed := true, recurses := true, apart := false, narrowed := true }
def PickTrueUptoSaid : Prop := pickTrueUptoRow.holds Try.pinned (OpenSpec.upto pickTrueSpec)

end Rows
end Go.Proofs.Ytbcacebifpagpad

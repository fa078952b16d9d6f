/- yard. -/
import Derived.Test.YtjiodlbblmbibacW7
namespace Go.Proofs.Ytjiodlbblmbibac
open Go.RowKit Go.Shelf
set_option linter.unusedVariables false

def yardZ : Nat → Bin
  | 0 => ⟨false, 100, 0, 0⟩
  | 1 => ⟨true, 30, 4, 8⟩
  | _ => ⟨false, 60, 0, 0⟩
def yardS : Nat → Int
  | 0 => 2
  | _ => 3
def yardP (g1 g2 : Nat) : Pl := ⟨some ⟨g1, 0, none⟩, 3, 3, yardZ, some ⟨g2, 0, none⟩, 2, 2, yardS⟩
def yardF : Nat → Value := fun j => (#[.bool false, .int .i64 100, .int .i64 0, .int .i64 0, .bool true, .int .i64 30, .int .i64 4, .int .i64 8, .bool false, .int .i64 60, .int .i64 0, .int .i64 0] : Array Value).getD j default
def yardG : Nat → Value := fun j => (#[.int .i64 2, .int .i64 3] : Array Value).getD j default

theorem yardAt {w : World} {g1 g2 : Nat} (h1 : Blk w g1 42 12 yardF) (h2 : Blk w g2 3 2 yardG) : (yardP g1 g2).At w := by
  refine ⟨by simp [yardP], by simp [yardP, maxLen], fun i hi => ?_, by simp [yardP], by simp [yardP, maxLen], fun i hi => ?_⟩
  · have hi' : i < 3 := hi
    refine ⟨g1, 0, rfl, h1.lt, ?_⟩
    match i, hi' with
    | 0, _ => exact ⟨h1.cell (j := 0) (by decide), h1.cell (j := 1) (by decide), h1.cell (j := 2) (by decide), h1.cell (j := 3) (by decide)⟩
    | 1, _ => exact ⟨h1.cell (j := 4) (by decide), h1.cell (j := 5) (by decide), h1.cell (j := 6) (by decide), h1.cell (j := 7) (by decide)⟩
    | 2, _ => exact ⟨h1.cell (j := 8) (by decide), h1.cell (j := 9) (by decide), h1.cell (j := 10) (by decide), h1.cell (j := 11) (by decide)⟩
  · have hi' : i < 2 := hi
    refine ⟨g2, 0, rfl, h2.lt, ?_⟩
    match i, hi' with
    | 0, _ => exact h2.cell (j := 0) (by decide)
    | 1, _ => exact h2.cell (j := 1) (by decide)

set_option maxHeartbeats 1000000 in
theorem yard_any (w : World) :
    Calls Try.prog 28 #[] w fun e w' => ∃ g1 g2, e = .returned (yardP g1 g2).val ∧ w.heap.size ≤ g1 ∧ g1 ≠ g2 ∧ Blk w' g1 42 12 yardF ∧ Blk w' g2 3 2 yardG ∧ Below w.heap.size w w' := by
  go_enter Try.func28, Try.ntmps28
  go_wp2
  refine bodyPost_ret (v := (yardP (w.heap.size + 1) (w.heap.size + 1 + 1)).val) (by simp [results, Try.results28, go_sem, yardP, Pl.val]) rfl ?_
  refine ⟨w.heap.size + 1, w.heap.size + 1 + 1, rfl, by omega, by omega, Blk.alloc (Blk.mk' (by simp) rfl) _, Blk.mk' (by simp) rfl, ?_⟩
  exact (((Below.refl _ _).alloc (Nat.le_refl _) _).alloc (by simp) _).alloc (by simp; omega) _

end Go.Proofs.Ytjiodlbblmbibac

/- Holds: the document's own 'with'. -/
import Derived.Test.YtjiodlbblmbibadHW9
namespace Go.Proofs.Ytjiodlbblmbibad
open Go.RowKit Go.Shelf Go.Sort
set_option linter.unusedVariables false

def rngH (x : Hd) : Prop := (0 ≤ x.o ∧ x.o ≤ 3) ∧ (0 ≤ x.l ∧ x.l ≤ 2) ∧ (0 ≤ x.b ∧ x.b ≤ 5)
theorem rng_of {x : Hd} (h : fineH x = true) : rngH x := ⟨(fineH_true h).1, (fineH_true h).2.1, (fineH_true h).2.2.1⟩

theorem one_news (w : World) (x : Hd) (t : TypeId) : ∀ j u, (hdCells x)[j]? = some u → (w.alloc (.cells #[.int .i64 x.o, .int .i64 x.l, .int .i64 x.b, .int .i64 x.n] t)).cell? ((⟨w.heap.size, 0, none⟩ : Addr).add j) = some u := by
  intro j u hj
  rw [Go.WideShapes.add_plain]
  have hlt : j < 4 := by
    have := (List.getElem?_eq_some_iff.1 hj).1
    simpa [hdCells] using this
  have hb : Blk (w.alloc (.cells #[.int .i64 x.o, .int .i64 x.l, .int .i64 x.b, .int .i64 x.n] t)) w.heap.size t 4 (fun j => (#[.int .i64 x.o, .int .i64 x.l, .int .i64 x.b, .int .i64 x.n] : Array Value).getD j default) := Blk.mk' rfl rfl
  rw [Nat.zero_add, hb.cell hlt]
  have h4 : j = 0 ∨ j = 1 ∨ j = 2 ∨ j = 3 := by omega
  rcases h4 with rfl | rfl | rfl | rfl <;> (simp [hdCells] at hj; rw [← hj]; rfl)
theorem one_cells (x : Hd) : ∀ u ∈ hdCells x, u.oneCell' = true := by
  intro u hu
  simp [hdCells] at hu
  rcases hu with rfl | rfl | rfl | rfl <;> rfl
theorem owns_below {w w' : World} {base : Nat} {e : TypeId} {size : Nat} {v : Value} {n : Nat} {xs : List Value} (h : w.ownsRow base e size v n xs) (hB : Below w.heap.size w w') : w'.ownsRow base e size v n xs :=
  h.kept (row := none) ⟨hB.os, hB.tape, hB.output, hB.size, fun j hj _ => hB.block j hj⟩ (by cases h : v.ownBlock <;> simp)

def lenI (p k : Nat) : Nat := if k ≤ p then k else k + 1
theorem lenI_le {p k : Nat} (h : k ≤ p) : lenI p k = k := by unfold lenI; rw [if_pos h]
theorem lenI_gt {p k : Nat} (h : p < k) : lenI p k = k + 1 := by unfold lenI; rw [if_neg (by omega)]
def lenD (p k : Nat) : Nat := if k ≤ p then k else k - 1
theorem lenD_le {p k : Nat} (h : k ≤ p) : lenD p k = k := by unfold lenD; rw [if_pos h]
theorem lenD_gt {p k : Nat} (h : p < k) : lenD p k = k - 1 := by unfold lenD; rw [if_neg (by omega)]

end Go.Proofs.Ytjiodlbblmbibad

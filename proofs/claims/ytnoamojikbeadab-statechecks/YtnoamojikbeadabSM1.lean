/- What is begun is right. No walk. -/
import Derived.Test.YtnoamojikbeadabSW10
namespace Go.Proofs.Ytnoamojikbeadab
open Go.RowKit
set_option linter.unusedVariables false

theorem anyB_zero {n : Nat} {f : Nat → Bool} (h : n = 0) : anyB n f = false := anyB_no fun j hj => absurd hj (by omega)
theorem sumTo_zero {z : Nat → Int} : ∀ {n : Nat}, (∀ j, j < n → z j = 0) → sumTo z n = 0
  | 0, _ => rfl
  | n + 1, h => by simp only [sumTo]; rw [sumTo_zero (n := n) fun j hj => h j (by omega), h n (by omega)]; rfl
theorem usedTo_zero {z zs : Nat → Int} : ∀ {n : Nat}, (∀ j, j < n → z j = 0) → usedTo z zs n = 0
  | 0, _ => rfl
  | n + 1, h => by simp only [usedTo]; rw [usedTo_zero (n := n) fun j hj => h j (by omega), h n (by omega)]; simp

theorem begun_shelf {p : Pl} {s : St} (h0 : planE p = 0) (b : BegunS p s) : RightS p s.on :=
  ⟨rightP h0, b.1, fun i hi => (b.2.1 i (by have := b.1; omega)).1, fun i hi j hj => by rw [(b.2.1 i (by have := b.1; omega)).2 j hj]; omega⟩
theorem begun_avail {p : Pl} {s : St} (b : BegunS p s) {i j : Nat} (hi : i < p.nb) (hj : j < p.ns) : availZ s i j = 0 := by
  obtain ⟨-, hr, -, hh, hm, -⟩ := b
  unfold availZ
  rw [hh, hm, (hr i hi).2 j hj]
  rfl
theorem begun_sum {p : Pl} {r : Rw} {low : Int} (h : r.n = p.ns ∧ ∀ j, j < p.ns → r.z j = 0) (hl : low ≤ 0) : badSum p r low = false := by
  unfold badSum
  rw [Bool.or_eq_false_iff]
  refine ⟨by simp [h.1], anyB_no fun j hj => ?_⟩
  rw [h.2 j (by rw [← h.1]; exact hj), inB_mk ⟨hl, by omega⟩]
  rfl
theorem begun_state {p : Pl} {s : St} (h0 : planE p = 0) (b : BegunS p s) : stateE p s = 0 := by
  have hS := shelfE_mk h0 (begun_shelf h0 b)
  have hb := b
  obtain ⟨hn, hr, ho, hh, hm, h1, h2, h3⟩ := hb
  have e1 : tooManyB s = false := by unfold tooManyB; rw [ho, hm]; rfl
  have e2 : badOrdersB p s = false := anyB_zero ho
  have e3 : badHoldsB p s = false := by unfold badHoldsB; rw [hh]; rfl
  have e4 : badMovesB p s = false := anyB_zero hm
  have e5 : badSumsB p s = false := by
    unfold badSumsB
    rw [begun_sum h1 (by omega), begun_sum h2 (by omega), begun_sum h3 (by omega)]
    rfl
  have e6 : wrongGoodsB p s = false := anyB_no fun g hg => by
    rw [wrongGood_eq, sumTo_zero (fun i hi => (hr i (by omega)).2 g hg), h1.2 g hg, h2.2 g hg, h3.2 g hg, anyB_no fun i hi => by rw [begun_avail b hi hg]; rfl]
    rfl
  have e7 : wrongOrdersB s = false := anyB_zero ho
  rw [stateE_sum hS e1 e2 e3 e4 e5, e6, e7]
  rfl
theorem begun_free {p : Pl} {s : St} (b : BegunS p s) {i : Nat} (hi : i < p.nb) : freeZ p s i = (p.zb i).room := by
  obtain ⟨-, hr, -, -, hm, -⟩ := b
  unfold freeZ
  rw [hm, usedTo_zero (hr i hi).2]
  simp [takeTo]

end Go.Proofs.Ytnoamojikbeadab

/- Holds: what is kept, by plain sums. No walk. -/
import Derived.Test.YtjiodlbblmbibacH
import Derived.Test.YtjiodlbblmbibacM2
namespace Go.Proofs.Ytjiodlbblmbibac
open Go.RowKit
set_option linter.unusedVariables false

def matchH (x : Hd) (o l b : Int) : Bool := (x.o == o) && (x.l == l) && (x.b == b)
def keptV (n : Nat) (z : Nat → Hd) (o l b : Int) : Int := match (List.range n).find? (fun i => matchH (z i) o l b) with
  | some i => (z i).n
  | none => 0

theorem keptV_none {n : Nat} {z : Nat → Hd} {o l b : Int} (h : ∀ j, j < n → matchH (z j) o l b = false) : keptV n z o l b = 0 := by
  unfold keptV
  have : (List.range n).find? (fun i => matchH (z i) o l b) = none := by
    rw [List.find?_eq_none]
    intro x hx
    simp [h x (List.mem_range.1 hx)]
  rw [this]
theorem keptV_some {n k : Nat} {z : Nat → Hd} {o l b : Int} (hk : k < n) (h : ∀ j, j < k → matchH (z j) o l b = false) (hm : matchH (z k) o l b = true) : keptV n z o l b = (z k).n := by
  unfold keptV
  have e : List.range n = List.range k ++ (k :: (List.range (n - k - 1)).map (fun i => k + 1 + i)) := by
    have := @List.range_add k (n - k)
    rw [show k + (n - k) = n by omega] at this
    rw [this, show n - k = (n - k - 1) + 1 by omega, List.range_succ_eq_map]
    simp [Function.comp_def]
    intro i hi
    omega
  have : (List.range n).find? (fun i => matchH (z i) o l b) = some k := by
    rw [e, List.find?_append]
    have h0 : (List.range k).find? (fun i => matchH (z i) o l b) = none := by
      rw [List.find?_eq_none]
      intro x hx
      simp [h x (List.mem_range.1 hx)]
    rw [h0, List.find?_cons]
    simp [hm]
  rw [this]
/-- Either none is there, or the first one is. -/
theorem keptV_cases (n : Nat) (z : Nat → Hd) (o l b : Int) : (∀ j, j < n → matchH (z j) o l b = false) ∨ ∃ k, k < n ∧ (∀ j, j < k → matchH (z j) o l b = false) ∧ matchH (z k) o l b = true := by
  induction n with
  | zero => exact .inl fun j hj => absurd hj (Nat.not_lt_zero _)
  | succ n ih =>
    rcases ih with h | ⟨k, hk, h1, h2⟩
    · cases hm : matchH (z n) o l b
      · refine .inl fun j hj => ?_
        by_cases hjn : j = n
        · rw [hjn, hm]
        · exact h j (by omega)
      · exact .inr ⟨n, by omega, h, hm⟩
    · exact .inr ⟨k, by omega, h1, h2⟩
theorem matchH_true {x : Hd} {o l b : Int} (h : matchH x o l b = true) : x.o = o ∧ x.l = l ∧ x.b = b := by
  simpa [matchH, and_assoc] using h
theorem matchH_self (x : Hd) : matchH x x.o x.l x.b = true := by simp [matchH]
theorem matchH_key {x y : Hd} {o l b : Int} (hx : matchH x o l b = true) (hy : matchH y o l b = true) : keyH x = keyH y := by
  have a := matchH_true hx
  have c := matchH_true hy
  simp [keyH, a, c]

def keptS (z : Nat → Hd) (o l : Int) : Nat → Int
  | 0 => 0
  | n + 1 => keptS z o l n + if (z n).o = o ∧ (z n).l = l then (z n).n else 0

theorem keptV_succ {n : Nat} {z : Nat → Hd} (hr : anyB (n + 1) (badH z) = false) (o l b : Int) : keptV (n + 1) z o l b = keptV n z o l b + if matchH (z n) o l b then (z n).n else 0 := by
  rcases keptV_cases n z o l b with h | ⟨k, hk, h1, h2⟩
  · cases hm : matchH (z n) o l b
    · rw [keptV_none h, keptV_none fun j hj => by
        by_cases hjn : j = n
        · rw [hjn, hm]
        · exact h j (by omega)]
      simp
    · rw [keptV_none h, keptV_some (Nat.lt_succ_self n) h hm]
      simp
  · have hne : matchH (z n) o l b = false := by
      cases hm : matchH (z n) o l b
      · rfl
      · have := matchH_key h2 hm
        have := right_lt hr k n hk (Nat.lt_succ_self n)
        omega
    rw [keptV_some hk h1 h2, keptV_some (by omega) h1 h2, hne]
    simp

theorem right_pred {n : Nat} {z : Nat → Hd} (hr : anyB (n + 1) (badH z) = false) : anyB n (badH z) = false := anyB_no fun j hj => anyB_false hr j (by omega)

theorem kept_eq (z : Nat → Hd) (o l : Int) : ∀ n, anyB n (badH z) = false → sumTo (fun b => keptV n z o l b) 6 = keptS z o l n
  | 0, _ => by simp [sumTo, keptS, keptV]
  | n + 1, hr => by
    have ih := kept_eq z o l n (right_pred hr)
    have hf := fineH_true (right_fine hr n (Nat.lt_succ_self n))
    by_cases hm : (z n).o = o ∧ (z n).l = l
    · simp only [keptS, hm, and_self, if_true]
      rw [← ih]
      refine sumTo_put (m := (z n).b.toNat) (by omega) fun b hb => ?_
      rw [keptV_succ hr]
      by_cases hbb : b = (z n).b.toNat
      · have : matchH (z n) o l b = true := by
          have e : (b : Int) = (z n).b := by omega
          simp [matchH, hm, e]
        rw [this, if_pos rfl, if_pos hbb]
      · have : matchH (z n) o l b = false := by
          cases hq : matchH (z n) o l b
          · rfl
          · have := matchH_true hq; omega
        simp [this, hbb]
    · simp only [keptS, hm, if_false, Int.add_zero]
      rw [← ih]
      refine sumTo_congr fun b hb => ?_
      rw [keptV_succ hr]
      have : matchH (z n) o l b = false := by
        cases hq : matchH (z n) o l b
        · rfl
        · have := matchH_true hq
          exact absurd ⟨this.1, this.2.1⟩ hm
      simp [this]

theorem keptS_bd {z : Nat → Hd} (o l : Int) : ∀ n, (∀ j, j < n → 1 ≤ (z j).n ∧ (z j).n ≤ 200) → 0 ≤ keptS z o l n ∧ keptS z o l n ≤ 200 * n
  | 0, _ => by simp [keptS]
  | n + 1, h => by
    have ih := keptS_bd (z := z) o l n fun j hj => h j (by omega)
    have := h n (by omega)
    simp only [keptS]
    split <;> omega
theorem keptV_bd {n : Nat} {z : Nat → Hd} (h : ∀ j, j < n → 1 ≤ (z j).n ∧ (z j).n ≤ 200) (o l b : Int) : 0 ≤ keptV n z o l b ∧ keptV n z o l b ≤ 200 := by
  rcases keptV_cases n z o l b with h0 | ⟨k, hk, h1, h2⟩
  · rw [keptV_none h0]; omega
  · rw [keptV_some hk h1 h2]; have := h k hk; omega

end Go.Proofs.Ytjiodlbblmbibac

/- Holds: dropping and adding, as functions. No walk. -/
import Derived.Test.YtjiodlbblmbibacHW7
namespace Go.Proofs.Ytjiodlbblmbibac
open Go.RowKit
set_option linter.unusedVariables false

def dropZ (z : Nat → Hd) (i j : Nat) : Hd := if j < i then z j else z (j + 1)
def dropI (n : Nat) (z : Nat → Hd) (o l b : Int) : Nat := ((List.range n).find? (fun i => matchH (z i) o l b)).getD 0
def dropE (n : Nat) (z : Nat → Hd) (o l b : Int) : Int := if checkH n z = 0 then (if keptV n z o l b = 0 then 4 else 0) else checkH n z
def dropN (n : Nat) (z : Nat → Hd) (o l b : Int) : Int := if checkH n z = 0 then keptV n z o l b else 0

/-- What comes of dropping. -/
def DropOK (n : Nat) (z : Nat → Hd) (o l b : Int) (s' : Hs) : Prop :=
  s'.n = (if dropE n z o l b = 0 then n - 1 else 0) ∧ ∀ j, j < s'.n → s'.z j = dropZ z (dropI n z o l b) j

theorem dropI_some {n k : Nat} {z : Nat → Hd} {o l b : Int} (hk : k < n) (h : ∀ j, j < k → matchH (z j) o l b = false) (hm : matchH (z k) o l b = true) : dropI n z o l b = k := by
  unfold dropI
  have e : List.range n = List.range k ++ (k :: (List.range (n - k - 1)).map (fun i => k + 1 + i)) := by
    have := @List.range_add k (n - k)
    rw [show k + (n - k) = n by omega] at this
    rw [this, show n - k = (n - k - 1) + 1 by omega, List.range_succ_eq_map]
    simp [Function.comp_def]
    intro i hi
    omega
  rw [e, List.find?_append]
  have h0 : (List.range k).find? (fun i => matchH (z i) o l b) = none := by
    rw [List.find?_eq_none]
    intro x hx
    simp [h x (List.mem_range.1 hx)]
  rw [h0, List.find?_cons]
  simp [hm]

theorem match_cmp {x : Hd} {o l b : Int} (t : Hd) (ht : t.o = o ∧ t.l = l ∧ t.b = b) : matchH x o l b = true ↔ cmpH x t = 0 := by
  rw [cmp_zero]
  simp [matchH, ht, and_assoc]
theorem checkH_zero {n : Nat} {z : Nat → Hd} (h : checkH n z = 0) : anyB n (badH z) = false := by
  cases h' : anyB n (badH z)
  · rfl
  · simp [checkH, h'] at h

/-- What the search finds, or does not. -/
theorem found {n : Nat} {z : Nat → Hd} {o l b : Int} {t : Hd} {i : Nat} (hr : anyB n (badH z) = false) (ht : t.o = o ∧ t.l = l ∧ t.b = b) (hp : PosH n z t i) :
    ((decide (i < n) && decide (cmpH (z i) t = 0)) = true → i < n ∧ keptV n z o l b = (z i).n ∧ dropI n z o l b = i ∧ 1 ≤ (z i).n ∧ (z i).n ≤ 200) ∧
    ((decide (i < n) && decide (cmpH (z i) t = 0)) = false → keptV n z o l b = 0 ∧ ∀ j, j < n → matchH (z j) o l b = false) := by
  have lo : ∀ j, j < i → matchH (z j) o l b = false := fun j hj => by
    cases hm : matchH (z j) o l b
    · rfl
    · have := (match_cmp t ht).1 hm
      have := hp.lo j hj
      omega
  constructor
  · intro h
    simp only [Bool.and_eq_true, decide_eq_true_eq] at h
    have hm := (match_cmp (x := z i) t ht).2 h.2
    have hf := (fineH_true (right_fine hr i h.1)).2.2.2
    exact ⟨h.1, keptV_some h.1 lo hm, dropI_some h.1 lo hm, hf⟩
  · intro h
    have no : ∀ j, j < n → matchH (z j) o l b = false := fun j hj => by
      rcases Nat.lt_trichotomy j i with hji | hji | hji
      · exact lo j hji
      · subst hji
        cases hm : matchH (z j) o l b
        · rfl
        · have := (match_cmp t ht).1 hm
          simp [hj, this] at h
      · cases hm : matchH (z j) o l b
        · rfl
        · have h1 := (match_cmp t ht).1 hm
          have h2 := right_cmp hr i j hji hj
          have h3 := hp.hi i (Nat.le_refl _) (by omega)
          rw [cmp_zero] at h1
          rw [cmp_neg] at h2
          have h4 : cmpH (z i) t < 0 := by rw [cmp_neg]; omega
          omega
    exact ⟨keptV_none no, no⟩

theorem flatH_append (z : Nat → Hd) (p : Nat) : ∀ q, flatH (p + q) z = flatH p z ++ flatH q (fun j => z (p + j))
  | 0 => by simp [flatH]
  | q + 1 => by
    rw [← Nat.add_assoc, flatH_succ, flatH_append z p q, flatH_succ, List.append_assoc]

theorem flatH_drop (n : Nat) (z : Nat → Hd) (i : Nat) (hi : i < n) : flatH (n - 1) (dropZ z i) = flatH i z ++ flatH (n - (i + 1)) (fun j => z (i + 1 + j)) := by
  rw [show n - 1 = i + (n - (i + 1)) by omega, flatH_append]
  rw [flatH_congr (n := i) (z := dropZ z i) (z' := z) fun j hj => by simp [dropZ, hj]]
  rw [flatH_congr (n := n - (i + 1)) (z := fun j => dropZ z i (i + j)) (z' := fun j => z (i + 1 + j)) fun j hj => by show dropZ z i (i + j) = _; unfold dropZ; rw [if_neg (by omega), show i + j + 1 = i + 1 + j by omega]]

/-- A part of a slice of holds. -/
theorem HdsAt.cut {w : World} {a : Addr} {n c : Nat} {z : Nat → Hd} (h : HdsAt w (some a) n z) (k : Nat) (hk : k ≤ n) (hn : n ≤ c) : HdsAt w (some (if c = k then a else a.add (k * 4))) (n - k) (fun j => z (k + j)) := by
  intro i hi
  obtain ⟨b, o, ha, hb, h0, h1, h2, h3⟩ := h (k + i) (by omega)
  simp only [Option.some.injEq] at ha
  subst ha
  refine ⟨b, o + k * 4, ?_, hb, ?_, ?_, ?_, ?_⟩
  · rw [if_neg (by omega), Go.WideShapes.add_plain]
  all_goals (rw [show o + k * 4 + i * 4 = o + (k + i) * 4 by omega]; assumption)

end Go.Proofs.Ytjiodlbblmbibac

/- What the document reckons of states: coming, AvailOf, FreeOf. -/
import Derived.Test.YtjiodlbblmbibadRS1
import Derived.Test.YtjiodlbblmbibadSW9
import Derived.Test.YtjiodlbblmbibadM2
namespace Go.Proofs.Ytjiodlbblmbibad
open Go.RowKit Go.Shelf Go.Sort
set_option linter.unusedVariables false

def comingTo (s : St) (b g : Int) : Nat → Int
  | 0 => 0
  | k + 1 => comingTo s b g k + (if (s.ms.z k).b = b ∧ (s.ms.z k).o = g then (s.ms.z k).n else 0)
theorem comingTo_hit {s : St} {b g : Int} {k : Nat} (h1 : (s.ms.z k).b = b) (h2 : (s.ms.z k).o = g) : comingTo s b g (k + 1) = comingTo s b g k + (s.ms.z k).n := by simp only [comingTo]; rw [if_pos ⟨h1, h2⟩]
theorem comingTo_miss {s : St} {b g : Int} {k : Nat} (h : ¬ ((s.ms.z k).b = b ∧ (s.ms.z k).o = g)) : comingTo s b g (k + 1) = comingTo s b g k := by simp only [comingTo]; rw [if_neg h, Int.add_zero]
theorem comingTo_bd {s : St} {b g : Int} : ∀ {n : Nat}, (∀ j, j < n → 1 ≤ (s.ms.z j).n ∧ (s.ms.z j).n ≤ 200) → 0 ≤ comingTo s b g n ∧ comingTo s b g n ≤ 200 * n
  | 0, _ => by simp [comingTo]
  | n + 1, h => by
    have ih := comingTo_bd (b := b) (g := g) (n := n) fun j hj => h j (by omega)
    have := h n (by omega)
    simp only [comingTo]
    split <;> omega
theorem usedTo_put2 {z z' zs : Nat → Int} {m : Nat} {d : Int} : ∀ {n : Nat}, (∀ j, j < n → z' j = z j + if j = m then d else 0) → usedTo z' zs n = usedTo z zs n + if m < n then d * zs m else 0
  | 0, _ => by simp [usedTo]
  | n + 1, h => by
    simp only [usedTo]
    rw [usedTo_put2 (m := m) (d := d) (n := n) fun j hj => h j (by omega), h n (by omega)]
    by_cases h1 : n = m
    · subst h1
      rw [if_pos rfl, if_neg (Nat.lt_irrefl n), if_pos (by omega), Int.add_mul]
      omega
    · rw [if_neg h1, Int.add_zero]
      by_cases h2 : m < n
      · rw [if_pos h2, if_pos (by omega)]; omega
      · rw [if_neg h2, if_neg (by omega)]; omega
theorem come_eq {p : Pl} {s : St} (f : Formed p s) (b : Int) : ∀ n, n ≤ s.ms.n → usedTo (fun g => comingTo s b g n) p.zs p.ns = takeTo p s b n
  | 0, _ => usedTo_zero' fun j hj => rfl
  | n + 1, hn => by
    have hm := badMove_no (f.move n (by omega))
    by_cases hb : (s.ms.z n).b = b
    · rw [takeTo_hit hb, ← come_eq f b n (by omega), usedTo_put2 (z := fun g => comingTo s b g n) (m := (s.ms.z n).o.toNat) (d := (s.ms.z n).n) fun j hj => ?_, if_pos (by omega)]
      by_cases hj2 : j = (s.ms.z n).o.toNat
      · rw [if_pos hj2]; exact comingTo_hit hb (by omega)
      · rw [if_neg hj2, Int.add_zero]; exact comingTo_miss (fun h => hj2 (by omega))
    · rw [takeTo_miss hb, ← come_eq f b n (by omega)]
      exact usedTo_congr fun j hj => comingTo_miss (fun h => hb h.1)
where
  usedTo_zero' {z zs : Nat → Int} : ∀ {n : Nat}, (∀ j, j < n → z j = 0) → usedTo z zs n = 0
    | 0, _ => rfl
    | n + 1, h => by simp only [usedTo]; rw [usedTo_zero' (n := n) fun j hj => h j (by omega), h n (by omega)]; simp
theorem mul_bd2 {a b : Int} (ha : 0 ≤ a ∧ a ≤ 1600) (hb : 1 ≤ b ∧ b ≤ 9) : 0 ≤ a * b ∧ a * b ≤ 14400 := by
  obtain ⟨a0, a1⟩ := ha
  have : b = 1 ∨ b = 2 ∨ b = 3 ∨ b = 4 ∨ b = 5 ∨ b = 6 ∨ b = 7 ∨ b = 8 ∨ b = 9 := by omega
  rcases this with rfl | rfl | rfl | rfl | rfl | rfl | rfl | rfl | rfl <;> omega
theorem usedTo_bd2 {z zs : Nat → Int} {n : Nat} (h : ∀ j, j < n → (0 ≤ z j ∧ z j ≤ 1600) ∧ 1 ≤ zs j ∧ zs j ≤ 9) : ∀ k, k ≤ n → 0 ≤ usedTo z zs k ∧ usedTo z zs k ≤ 14400 * k
  | 0, _ => by simp [usedTo]
  | k + 1, hk => by
    have ih := usedTo_bd2 h k (by omega)
    have := mul_bd2 (h k (by omega)).1 (h k (by omega)).2
    simp only [usedTo]
    omega

end Go.Proofs.Ytjiodlbblmbibad

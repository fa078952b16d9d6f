/- choose. -/
import Derived.Test.YtnoamojikbeadacS
import Derived.Test.YtnoamojikbeadacW1
namespace Go.Proofs.Ytnoamojikbeadac
open Go.RowKit
set_option linter.unusedVariables false

def chooseN (c : Int) (n : Nat) : Nat := ((if c < 0 then -(c + 1) else c) % (n : Int)).toNat
theorem chooseN_pos {c : Int} {n : Nat} (h : ¬ c < 0) (hn : 1 ≤ n) : c % (n : Int) = ((chooseN c n : Nat) : Int) := by
  unfold chooseN
  rw [if_neg h]
  have := Int.emod_nonneg c (b := (n : Int)) (by omega)
  omega
theorem chooseN_neg {c : Int} {n : Nat} (h : c < 0) (hn : 1 ≤ n) : (-(c + 1)) % (n : Int) = ((chooseN c n : Nat) : Int) := by
  unfold chooseN
  rw [if_pos h]
  have := Int.emod_nonneg (-(c + 1)) (b := (n : Int)) (by omega)
  omega
theorem chooseN_lt (c : Int) {n : Nat} (hn : 1 ≤ n) : chooseN c n < n := by
  by_cases h : c < 0
  · have := chooseN_neg h hn
    have := Int.emod_lt_of_pos (-(c + 1)) (b := (n : Int)) (by omega)
    omega
  · have := chooseN_pos h hn
    have := Int.emod_lt_of_pos c (b := (n : Int)) (by omega)
    omega

theorem choose_any (c : Int) (n : Nat) (w : World) (hc : -9223372036854775808 ≤ c ∧ c ≤ 9223372036854775807) (hn : 1 ≤ n) (hm : n ≤ 1000) :
    Calls Try.prog 11 #[.int .i64 c, .int .i64 n] w fun e w' => e = .returned (.int .i64 (chooseN c n : Nat)) ∧ w' = w := by
  by_cases h : c < 0
  · have h1 := chooseN_neg h hn
    have q : (0 : Int) ≤ -(c + 1) := by omega
    have hz : ¬ (n : Int) = 0 := by omega
    go_enter Try.func11, Try.ntmps11
    go_wp2
    go_ret
    exact ⟨by rw [← h1, ← Int.tmod_eq_emod_of_nonneg q, Int.neg_tmod]; rfl, rfl⟩
  · have h1 := chooseN_pos h hn
    have hz : ¬ (n : Int) = 0 := by omega
    have q : (0 : Int) ≤ c := by omega
    go_enter Try.func11, Try.ntmps11
    go_wp2
    go_ret
    exact ⟨by simp [← h1], rfl⟩

theorem choose_b (c : Int) (n : Nat) (w : World) (hc : -9223372036854775808 ≤ c ∧ c ≤ 9223372036854775807) (hn : 1 ≤ n) (hm : n ≤ 1000) :
    Calls Try.prog 11 #[.int .i64 c, .int .i64 n] w fun e w' => e = .returned (.int .i64 (chooseN c n : Nat)) ∧ Below w.heap.size w w' :=
  (choose_any c n w hc hn hm).mono (by rintro e w' ⟨rfl, rfl⟩; exact ⟨rfl, Below.refl _ _⟩)

end Go.Proofs.Ytnoamojikbeadac

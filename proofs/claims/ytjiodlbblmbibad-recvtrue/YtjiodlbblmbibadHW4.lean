/- Holds: keptAt, KeptOf, Kept. -/
import Derived.Test.YtjiodlbblmbibadHW3
import Derived.Test.YtjiodlbblmbibadH2
namespace Go.Proofs.Ytjiodlbblmbibad
open Go.RowKit Go.Shelf
set_option linter.unusedVariables false

set_option maxHeartbeats 1000000 in
theorem Kept_any (s : Hs) (o l : Int) (w : World) (hs : s.At w) :
    Calls Try.prog 19 #[s.val, .int .i64 o, .int .i64 l] w fun e w' => e = .returned (.tuple #[.int .i64 (if checkH s.n s.z = 0 then keptS s.z o l s.n else 0), .int .i64 (checkH s.n s.z)]) ∧ Below w.heap.size w w' := by
  have HS : Hid _ := hs
  obtain ⟨a, n, c, z⟩ := s
  obtain ⟨hn, hc, hz⟩ := hs
  dsimp only at hn hc hz ⊢
  unfold maxLen at hc
  simp only [Hs.val]
  by_cases h0 : checkH n z = 0
  · have hr : anyB n (badH z) = false := by
      cases h : anyB n (badH z)
      · rfl
      · simp [checkH, h] at h0
    have hlen := right_len hr
    have hN : Hid (∀ j, j < n → 1 ≤ (z j).n ∧ (z j).n ≤ 200) := fun j hj => (fineH_true (right_fine hr j hj)).2.2.2
    have hbd : Hid (∀ k, k ≤ n → 0 ≤ keptS z o l k ∧ keptS z o l k ≤ 200 * k) := fun k hk => keptS_bd o l k fun j hj => hN.out j (by omega)
    rw [if_pos h0]
    have H0 : Hid (checkH n z = 0) := h0
    clear hr
    go_enter Try.func19, Try.ntmps19
    go_wp2_with fail
    refine (holdsCheck_any ⟨a, n, c, z⟩ w HS.out).mono ?_
    rintro e w1 ⟨rfl, hB1⟩
    dsimp only
    go_wp2_with fail
    clear h0
    go_loopw [9, 19] (fun u i wk => ∃ k : Nat, k ≤ n ∧ i = .int .i64 k ∧ u = .int .i64 (keptS z o l k) ∧ Below w.heap.size w wk) (fun _ i _ => n - (intOf i).toNat)
    case atStart => exact ⟨0, Nat.zero_le _, rfl, rfl, hB1⟩
    case round =>
      obtain ⟨k, hk, rfl, rfl, hB⟩ := hrel
      have m1 := hbd.out k hk
      by_cases hlt : k < n
      · obtain ⟨b, q, rfl, hb, z0, z1, z2, z3⟩ := (hz.below hB) k hlt
        have m2 := hN.out k hlt
        have H1 : Hid (keptS z o l (k + 1) = keptS z o l k + if (z k).o = o ∧ (z k).l = l then (z k).n else 0) := rfl
        generalize keptS z o l k = U at m1 H1 ⊢
        cases h1 : ((z k).o == o)
        · have hf : ¬ ((z k).o = o ∧ (z k).l = l) := by simp at h1; omega
          have HF : Hid _ := hf
          clear hf
          go_wp2_with fail
          go_roundw
          case rel => exact ⟨k + 1, by omega, by go_num, by rw [H1.out, if_neg HF.out, Int.add_zero], hB.alloc (by have := hB.size; omega) _⟩
          case measure => simp [intOf]; omega
        · cases h2 : ((z k).l == l)
          · have hf : ¬ ((z k).o = o ∧ (z k).l = l) := by simp at h2; omega
            have HF : Hid _ := hf
            clear hf
            go_wp2_with fail
            go_roundw
            case rel => exact ⟨k + 1, by omega, by go_num, by rw [H1.out, if_neg HF.out, Int.add_zero], hB.alloc (by have := hB.size; omega) _⟩
            case measure => simp [intOf]; omega
          · have hf : ((z k).o = o ∧ (z k).l = l) := by simp at h1 h2; exact ⟨h1, h2⟩
            have HF : Hid _ := hf
            clear hf
            go_wp2_with fail
            go_roundw
            case rel => exact ⟨k + 1, by omega, by go_num, by rw [H1.out, if_pos HF.out], hB.alloc (by have := hB.size; omega) _⟩
            case measure => simp [intOf]; omega
      · have hkn : k = n := by omega
        subst hkn
        go_wp2_with fail
        go_ret2
        exact ⟨by rw [H0.out]; rfl, hB⟩
  · rw [if_neg h0]
    go_enter Try.func19, Try.ntmps19
    go_wp2_with fail
    refine (holdsCheck_any ⟨a, n, c, z⟩ w HS.out).mono ?_
    rintro e w1 ⟨rfl, hB1⟩
    dsimp only
    go_wp2_with fail
    go_ret2
    exact ⟨rfl, hB1⟩

end Go.Proofs.Ytjiodlbblmbibad

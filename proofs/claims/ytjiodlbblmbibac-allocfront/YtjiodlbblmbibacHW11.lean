/- Holds: SameHolds, DropOf, AddOf. -/
import Derived.Test.YtjiodlbblmbibacHW10
namespace Go.Proofs.Ytjiodlbblmbibac
open Go.RowKit Go.Shelf
set_option linter.unusedVariables false

set_option maxRecDepth 100000 in
set_option maxHeartbeats 1000000 in
theorem SameHolds_yes (r s : Hs) (w : World) (hr : r.At w) (hs : s.At w) (hn : r.n = s.n) (hz : ∀ j, j < r.n → r.z j = s.z j) :
    Calls Try.prog 52 #[r.val, s.val] w fun e w' => e = .returned (.bool true) ∧ Below w.heap.size w w' := by
  obtain ⟨ra, rn, rc, rz⟩ := r
  obtain ⟨sa, sn, sc, sz⟩ := s
  obtain ⟨rle, rcap, rh, _⟩ := hr
  obtain ⟨sle, scap, sh, _⟩ := hs
  dsimp only at *
  subst hn
  have HZ : Hid (∀ j, j < rn → rz j = sz j) := hz
  clear hz
  unfold maxLen at rcap scap
  simp only [Hs.val]
  go_enter Try.func52, Try.ntmps52
  go_wp2_with fail
  go_loopw [5] (fun i wk => ∃ k : Nat, k ≤ rn ∧ i = .int .i64 k ∧ Below w.heap.size w wk) (fun i _ => rn - (intOf i).toNat)
  case atStart => exact ⟨0, Nat.zero_le _, rfl, Below.refl _ _⟩
  case round =>
    obtain ⟨k, hk, rfl, hB⟩ := hrel
    by_cases hlt : k < rn
    · obtain ⟨b1, o1, rfl, hb1, y0, y1, y2, y3⟩ := (rh.below hB) k hlt
      obtain ⟨b2, o2, rfl, hb2, x0, x1, x2, x3⟩ := (sh.below hB) k hlt
      rw [← HZ.out k hlt] at x0 x1 x2 x3
      generalize rz k = Z at y0 y1 y2 y3 x0 x1 x2 x3
      go_wp2_with fail
      go_quiet (fail)
      go_wp2_with fail
      go_roundw
      case rel => exact ⟨k + 1, by omega, by go_num, below_drewN hB _⟩
      case measure => simp [intOf]; omega
    · go_wp2_with fail
      go_ret
      exact ⟨rfl, hB⟩

/-- Where the one stands that is there. -/
theorem kept_pos {n : Nat} {z : Nat → Hd} {o l b : Int} (hr : anyB n (badH z) = false) (hk : ¬ keptV n z o l b = 0) :
    dropI n z o l b < n ∧ matchH (z (dropI n z o l b)) o l b = true ∧ keptV n z o l b = (z (dropI n z o l b)).n ∧ (∀ j, j < dropI n z o l b → keyH (z j) < keyH (z (dropI n z o l b))) ∧ (∀ j, dropI n z o l b < j → j < n → keyH (z (dropI n z o l b)) < keyH (z j)) := by
  rcases keptV_cases n z o l b with h | ⟨k, hkn, h1, h2⟩
  · exact absurd (keptV_none h) hk
  · rw [dropI_some hkn h1 h2]
    exact ⟨hkn, h2, keptV_some hkn h1 h2, fun j hj => right_lt hr j k hj hkn, fun j hj hjn => right_lt hr k j hj hjn⟩
theorem match_key {x : Hd} {o l b n : Int} (h : matchH x o l b = true) : keyH x = keyH ⟨o, l, b, n⟩ := by
  have a := matchH_true h
  simp [keyH, a]
theorem match_rng {x : Hd} {o l b n : Int} (h : matchH x o l b = true) (hx : fineH x = true) : rngH ⟨o, l, b, n⟩ := by
  have a := matchH_true h
  have r := rng_of hx
  unfold rngH at r ⊢
  rw [a.1, a.2.1, a.2.2] at r
  exact r

end Go.Proofs.Ytjiodlbblmbibac

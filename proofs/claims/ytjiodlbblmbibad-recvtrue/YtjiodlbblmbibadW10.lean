/- SameInts, SameRows: what is the same is told so. -/
import Derived.Test.YtjiodlbblmbibadW9
import Derived.Lib.QuietBelow
namespace Go.Proofs.Ytjiodlbblmbibad
open Go.RowKit Go.Shelf Go.Sort
set_option linter.unusedVariables false

set_option maxRecDepth 100000 in
set_option maxHeartbeats 400000 in
theorem SameInts_yes (r s : Rw) (w : World) (hr : r.At w) (hs : s.At w) (hn : r.n = s.n) (hz : ∀ j, j < r.n → r.z j = s.z j) :
    Calls Try.prog 46 #[r.val, s.val] w fun e w' => e = .returned (.bool true) ∧ Below w.heap.size w w' := by
  obtain ⟨ra, rn, rc, rz⟩ := r
  obtain ⟨sa, sn, sc, sz⟩ := s
  obtain ⟨rle, rcap, rints⟩ := hr
  obtain ⟨sle, scap, sints⟩ := hs
  dsimp only at *
  subst hn
  have HZ : Hid _ := hz
  clear hz
  unfold maxLen at rcap scap
  simp only [Rw.val]
  go_enter Try.func46, Try.ntmps46
  go_wp2_with fail
  go_loopw [5] (fun i wk => ∃ k : Nat, k ≤ rn ∧ i = .int .i64 k ∧ Below w.heap.size w wk) (fun i _ => rn - (intOf i).toNat)
  case atStart => exact ⟨0, Nat.zero_le _, rfl, Below.refl _ _⟩
  case round =>
    obtain ⟨k, hk, rfl, hB⟩ := hrel
    by_cases hlt : k < rn
    · obtain ⟨b1, o1, rfl, hb1, y0⟩ := (rints.below hB) k hlt
      obtain ⟨b2, o2, rfl, hb2, x0⟩ := (sints.below hB) k hlt
      rw [← HZ.out k hlt] at x0
      generalize rz k = Z at y0 x0
      go_wp2_with fail
      go_quiet (fail)
      go_wp2_with fail
      go_roundw
      case rel => exact ⟨k + 1, by omega, by go_num, below_drewN hB _⟩
      case measure => simp [intOf]; omega
    · go_wp2_with fail
      go_ret
      exact ⟨rfl, hB⟩

set_option maxRecDepth 100000 in
set_option maxHeartbeats 1000000 in
theorem SameRows_yes (r s : Sh) (w : World) (hr : r.At w) (hs : s.At w) (hn : r.n = s.n) (hz : ∀ i, i < r.n → (r.r i).n = (s.r i).n ∧ ∀ j, j < (r.r i).n → (r.r i).z j = (s.r i).z j) :
    Calls Try.prog 45 #[r.val, s.val] w fun e w' => e = .returned (.bool true) ∧ Below w.heap.size w w' := by
  obtain ⟨ra, rn, rc, rr⟩ := r
  obtain ⟨sa, sn, sc, sr⟩ := s
  obtain ⟨rle, rcap, rrows⟩ := hr
  obtain ⟨sle, scap, srows⟩ := hs
  dsimp only at *
  subst hn
  have HZ : Hid _ := hz
  clear hz
  unfold maxLen at rcap scap
  simp only [Sh.val]
  go_enter Try.func45, Try.ntmps45
  go_wp2_with fail
  go_loopw [5] (fun i wk => ∃ k : Nat, k ≤ rn ∧ i = .int .i64 k ∧ Below w.heap.size w wk) (fun i _ => rn - (intOf i).toNat)
  case atStart => exact ⟨0, Nat.zero_le _, rfl, Below.refl _ _⟩
  case round =>
    obtain ⟨k, hk, rfl, hB⟩ := hrel
    by_cases hlt : k < rn
    · obtain ⟨b1, o1, rfl, hb1, y0, at1⟩ := (rrows.below hB) k hlt
      obtain ⟨b2, o2, rfl, hb2, x0, at2⟩ := (srows.below hB) k hlt
      have hh := HZ.out k hlt
      have HH : Hid _ := hh
      clear hh
      have y1 : ∀ d os, (grow (redrawn wr d) os).cell? ⟨b1, o1 + k, none⟩ = some (.slice (rr k).a (rr k).n (rr k).c) := fun d os => cell_regrown y0 d os
      have x1 : ∀ d os, (grow (redrawn wr d) os).cell? ⟨b2, o2 + k, none⟩ = some (.slice (sr k).a (sr k).n (sr k).c) := fun d os => cell_regrown x0 d os
      go_wp2_with fail
      refine wp_region_quiet_below (by kernel_rfl) (by kernel_rfl) ?_
      repeat (go_big_quiet_step ((go_at_call 46; exact Calls.regrown_of (SameInts_yes (rr k) (sr k) _ (at1.below (below_regrown _ _ _)) (at2.below (below_regrown _ _ _)) HH.out.1 HH.out.2))))
      refine wpQuiet_nil ?_
      intro _ hw'
      obtain ⟨⟨dq, osq⟩, hw''⟩ := hw'
      subst hw''
      go_wp2_with fail
      go_roundw
      case rel => exact ⟨k + 1, by omega, by go_num, hB.trans ((below_regrown _ _ _).mono hB.size)⟩
      case measure => simp [intOf]; omega
    · go_wp2_with fail
      go_ret
      exact ⟨rfl, hB⟩


theorem Blk.ne {w : World} {g g' : Nat} {e e' : TypeId} {n n' : Nat} {f f' : Nat → Value} (h : Blk w g e n f) (h' : Blk w g' e' n' f') (he : e ≠ e') : g ≠ g' := by
  rintro rfl
  obtain ⟨c, hc, _⟩ := h
  obtain ⟨c', hc', _⟩ := h'
  rw [hc] at hc'
  cases hc'
  exact he rfl

end Go.Proofs.Ytjiodlbblmbibad

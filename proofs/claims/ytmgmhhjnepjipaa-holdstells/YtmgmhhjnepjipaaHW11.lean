/- Holds: SameHolds, DropOf, AddOf. -/
import Derived.Test.YtmgmhhjnepjipaaHW10
namespace Go.Proofs.Ytmgmhhjnepjipaa
open Go.RowKit Go.Shelf
set_option linter.unusedVariables false

set_option maxHeartbeats 1000000 in
theorem SameHolds_yes (r s : Hs) (w : World) (hr : r.At w) (hs : s.At w) (hn : r.n = s.n) (hz : ∀ j, j < r.n → r.z j = s.z j) :
    Calls Try.prog 33 #[r.val, s.val] w fun e w' => e = .returned (.bool true) ∧ Below w.heap.size w w' := by
  obtain ⟨ra, rn, rc, rz⟩ := r
  obtain ⟨sa, sn, sc, sz⟩ := s
  obtain ⟨rle, rcap, rh, _⟩ := hr
  obtain ⟨sle, scap, sh, _⟩ := hs
  dsimp only at *
  subst hn
  have HZ : Hid (∀ j, j < rn → rz j = sz j) := hz
  clear hz
  unfold maxLen at rcap scap
  simp only [Hs.val]
  go_enter Try.func33, Try.ntmps33
  go_wp2_with fail
  go_loopw [5] (fun i wk => ∃ k : Nat, k ≤ rn ∧ i = .int .i64 k ∧ Below w.heap.size w wk) (fun i _ => rn - (intOf i).toNat)
  case atStart => exact ⟨0, Nat.zero_le _, rfl, Below.refl _ _⟩
  case round =>
    obtain ⟨k, hk, rfl, hB⟩ := hrel
    by_cases hlt : k < rn
    · obtain ⟨b1, o1, rfl, hb1, y0, y1, y2, y3⟩ := (rh.below hB) k hlt
      obtain ⟨b2, o2, rfl, hb2, x0, x1, x2, x3⟩ := (sh.below hB) k hlt
      rw [← HZ.out k hlt] at x0 x1 x2 x3
      generalize rz k = Z at y0 y1 y2 y3 x0 x1 x2 x3
      go_wp2_with fail
      go_quiet (fail)
      go_wp2_with fail
      go_roundw
      case rel => exact ⟨k + 1, by omega, by go_num, below_drewN hB _⟩
      case measure => simp [intOf]; omega
    · go_wp2_with fail
      go_ret
      exact ⟨rfl, hB⟩

/-- Where the one stands that is there. -/
theorem kept_pos {n : Nat} {z : Nat → Hd} {o l b : Int} (hr : anyB n (badH z) = false) (hk : ¬ keptV n z o l b = 0) :
    dropI n z o l b < n ∧ matchH (z (dropI n z o l b)) o l b = true ∧ keptV n z o l b = (z (dropI n z o l b)).n ∧ (∀ j, j < dropI n z o l b → keyH (z j) < keyH (z (dropI n z o l b))) ∧ (∀ j, dropI n z o l b < j → j < n → keyH (z (dropI n z o l b)) < keyH (z j)) := by
  rcases keptV_cases n z o l b with h | ⟨k, hkn, h1, h2⟩
  · exact absurd (keptV_none h) hk
  · rw [dropI_some hkn h1 h2]
    exact ⟨hkn, h2, keptV_some hkn h1 h2, fun j hj => right_lt hr j k hj hkn, fun j hj hjn => right_lt hr k j hj hjn⟩
theorem match_key {x : Hd} {o l b n : Int} (h : matchH x o l b = true) : keyH x = keyH ⟨o, l, b, n⟩ := by
  have a := matchH_true h
  simp [keyH, a]
theorem match_rng {x : Hd} {o l b n : Int} (h : matchH x o l b = true) (hx : fineH x = true) : rngH ⟨o, l, b, n⟩ := by
  have a := matchH_true h
  have r := rng_of hx
  unfold rngH at r ⊢
  rw [a.1, a.2.1, a.2.2] at r
  exact r

set_option maxHeartbeats 1000000 in
theorem DropOf_any (s : Hs) (o l b : Int) (w : World) (hs : s.At w) :
    Calls Try.prog 28 #[s.val, .int .i64 o, .int .i64 l, .int .i64 b] w fun e w' => ∃ s' : Hs, e = .returned (.tuple #[s'.val, .int .i64 (dropN s.n s.z o l b), .int .i64 (dropE s.n s.z o l b)]) ∧ s'.At w' ∧ DropOK s.n s.z o l b s' ∧ Below w.heap.size w w' := by
  have HS := hs
  obtain ⟨a, n, c, z⟩ := s
  dsimp only
  simp only [Hs.val]
  have NA : Hid (∀ w', Hs.At w' ⟨none, 0, 0, z⟩) := fun w' => ⟨Nat.le_refl _, Nat.zero_le _, fun i hi => absurd hi (Nat.not_lt_zero _), fun _ => rfl⟩
  go_enter Try.func28, Try.ntmps28
  go_wp2_with fail
  refine (CheckHolds_any ⟨a, n, c, z⟩ w HS).mono ?_
  rintro e w1 ⟨rfl, hB1⟩
  dsimp only
  by_cases h0 : checkH n z = 0
  · have hr := checkH_zero h0
    go_wp2_with fail
    refine calls_to (keptAt_any ⟨a, n, c, z⟩ o l b w1 (HS.below hB1)) ?_
    dsimp only
    by_cases hk : keptV n z o l b = 0
    · have hE : Hid (dropN n z o l b = 0 ∧ dropE n z o l b = 4) := by show _ ∧ _; simp [dropN, dropE, h0, hk]
      go_wp2_with fail
      go_ret3
      exact ⟨⟨none, 0, 0, z⟩, by rw [hE.out.1, hE.out.2]; rfl, NA.out _, ⟨by rw [hE.out.2]; rfl, fun j hj => absurd hj (Nat.not_lt_zero _)⟩, hB1⟩
    · have hE : Hid (dropN n z o l b = keptV n z o l b ∧ dropE n z o l b = 0) := by
        show _ ∧ _
        unfold dropN dropE
        rw [if_pos h0, if_pos h0, if_neg hk]
        exact ⟨rfl, rfl⟩
      obtain ⟨p1, p2, p3, p4, p5⟩ := kept_pos hr hk
      have HP : Hid (dropI n z o l b < n ∧ matchH (z (dropI n z o l b)) o l b = true ∧ (∀ j, j < dropI n z o l b → keyH (z j) < keyH (z (dropI n z o l b))) ∧ (∀ j, dropI n z o l b < j → j < n → keyH (z (dropI n z o l b)) < keyH (z j))) := ⟨p1, p2, p4, p5⟩
      have HR0 : Hid (anyB n (badH z) = false) := hr
      clear p1 p2 p3 p4 p5 hr
      go_wp2_with fail
      refine (with_drop ⟨a, n, c, z⟩ ⟨o, l, b, 0⟩ (dropI n z o l b) w1 (HS.below hB1) HR0.out (match_rng HP.out.2.1 (right_fine HR0.out _ HP.out.1)) HP.out.1 (match_key HP.out.2.1) rfl (fun j hj => by rw [← match_key HP.out.2.1]; exact HP.out.2.2.1 j hj) (fun j hj hjn => by rw [← match_key HP.out.2.1]; exact HP.out.2.2.2 j hj hjn)).mono ?_
      rintro e w2 ⟨s', rfl, e2, e3, e4, hB2⟩
      dsimp only at e3 e4 ⊢
      have HR : Hid (s'.At w2 ∧ s'.n = n - 1 ∧ s'.z = dropZ z (dropI n z o l b)) := ⟨e2, e3, e4⟩
      clear e2 e3 e4
      simp only [Hs.val]
      go_wp2_with fail
      go_ret3
      exact ⟨s', by rw [hE.out.1, hE.out.2]; rfl, HR.out.1, ⟨by rw [hE.out.2]; exact HR.out.2.1, fun j hj => by rw [HR.out.2.2]⟩, hB1.trans (hB2.mono hB1.size)⟩
  · have hE : Hid (dropN n z o l b = 0 ∧ dropE n z o l b = checkH n z) := by show _ ∧ _; simp [dropN, dropE, h0]
    go_wp2_with fail
    go_ret3
    exact ⟨⟨none, 0, 0, z⟩, by rw [hE.out.1, hE.out.2]; rfl, NA.out _, ⟨by rw [hE.out.2, if_neg h0], fun j hj => absurd hj (Nat.not_lt_zero _)⟩, hB1⟩

end Go.Proofs.Ytmgmhhjnepjipaa

/- Holds: Drop. -/
import Derived.Test.YtjiodlbblmbibadH3
namespace Go.Proofs.Ytjiodlbblmbibad
open Go.RowKit Go.Shelf Go.Sort
set_option linter.unusedVariables false

set_option maxRecDepth 100000 in
set_option maxHeartbeats 2000000 in
theorem Drop_any (s : Hs) (o l b : Int) (w : World) (hs : s.At w) :
    Calls Try.prog 51 #[s.val, .int .i64 o, .int .i64 l, .int .i64 b] w fun e w' => ∃ s' : Hs, e = .returned (.tuple #[s'.val, .int .i64 (dropN s.n s.z o l b), .int .i64 (dropE s.n s.z o l b)]) ∧ s'.At w' ∧ DropOK s.n s.z o l b s' ∧ Below w.heap.size w w' := by
  have HS := hs
  obtain ⟨a, n, c, z⟩ := s
  obtain ⟨hn, hc, hz⟩ := hs
  dsimp only at hn hc hz ⊢
  have hc0 := hc
  unfold maxLen at hc
  simp only [Hs.val]
  have nilAt : ∀ w', Hs.At w' ⟨none, 0, 0, z⟩ := fun w' => ⟨Nat.le_refl _, Nat.zero_le _, fun i hi => absurd hi (Nat.not_lt_zero _), fun _ => rfl⟩
  have NA : Hid (∀ w', Hs.At w' ⟨none, 0, 0, z⟩) := nilAt
  clear nilAt
  go_enter Try.func51, Try.ntmps51
  go_wp2_with fail
  refine (holdsCheck_any ⟨a, n, c, z⟩ w HS).mono ?_
  rintro e w1 ⟨rfl, hB1⟩
  dsimp only
  by_cases h0 : checkH n z = 0
  · have hr := checkH_zero h0
    have hlen := right_len hr
    go_wp2_with fail
    refine (Search_any ⟨a, n, c, z⟩ ⟨o, l, b, 0⟩ w1 (HS.below hB1) hr).mono ?_
    rintro e w2 ⟨i, rfl, hp, hB2⟩
    dsimp only at hp ⊢
    have hBz := hB1.trans (hB2.mono hB1.size)
    obtain ⟨fy, fn⟩ := found (o := o) (l := l) (b := b) hr ⟨rfl, rfl, rfl⟩ hp
    have hpl := hp.le
    have HZ := HS.below hBz
    clear hp hz
    cases hf : (decide (i < n) && decide (cmpH (z i) ⟨o, l, b, 0⟩ = 0))
    · obtain ⟨k0, _⟩ := fn hf
      have hE : Hid (dropN n z o l b = 0 ∧ dropE n z o l b = 4) := by show _ ∧ _; simp [dropN, dropE, h0, k0]
      clear fy fn k0
      go_wp2_with fail
      go_ret3
      exact ⟨⟨none, 0, 0, z⟩, by rw [hE.out.1, hE.out.2]; rfl, NA.out _, ⟨by rw [hE.out.2]; rfl, fun j hj => absurd hj (Nat.not_lt_zero _)⟩, hBz⟩
    · obtain ⟨hin, k0, kI, k1, k2⟩ := fy hf
      have hE : Hid (dropN n z o l b = (z i).n ∧ dropE n z o l b = 0 ∧ dropI n z o l b = i) := by
        show _ ∧ _ ∧ _
        refine ⟨by simp [dropN, h0, k0], ?_, kI⟩
        unfold dropE
        rw [if_pos h0, if_neg (by omega)]
      obtain ⟨bb, oo, ha, hb, z0, z1, z2, z3⟩ := HZ.hds i hin
      dsimp only at ha z0 z1 z2 z3
      subst ha
      have r3 : ∀ d os, (grow (redrawn w2 d) os).cell? ⟨bb, oo + i * 4 + 3, none⟩ = some (.int .i64 (z i).n) := fun d os => cell_regrown z3 d os
      have m1 : (0 : Int) ≤ (i : Int) := by omega
      have m2 : (i : Int) < (n : Int) := by omega
      have m3 : (i : Int) + 1 ≤ (n : Int) := by omega
      have m4 : (n : Int) ≤ (c : Int) := by omega
      clear fy fn k0 kI z0 z1 z2
      go_wp2_with fail
      refine wp_region_ordS (fun w' => ∃ p : Regrown, w' = grow (redrawn w2 p.d) p.os)
        ([0, 1, 2, 3, 4, 5, 6, 9, 10, 11, 12, 13].map (fun k => (true, k)) ++ [(false, 7), (false, 8), (true, 14), (true, 15), (false, 16)]) (by kernel_rfl) (by kernel_rfl) (by kernel_rfl) (by kernel_rfl) (regrown_of_below ((Below.refl _ _).drew)) ?_
      refine wpOrdS_first 0 rfl rfl ?_
      go_big_quiet_step (fail)
      refine wpQuiet_nil ?_
      refine wpOrdS_first 1 rfl rfl ?_
      go_big_quiet_step (fail)
      refine wpQuiet_nil ?_
      refine wpOrdS_first 2 rfl rfl ?_
      go_big_quiet_step (fail)
      refine wpQuiet_nil ?_
      refine wpOrdS_first 3 rfl rfl ?_
      go_big_quiet_step (fail)
      refine wpQuiet_nil ?_
      refine wpOrdS_first 4 rfl rfl ?_
      go_big_quiet_step (fail)
      refine wpQuiet_nil ?_
      refine wpOrdS_first 5 rfl rfl ?_
      go_big_quiet_step (fail)
      refine wpQuiet_nil ?_
      refine wpOrdS_first 6 rfl rfl ?_
      go_big_quiet_step (fail)
      refine wpQuiet_nil ?_
      refine wpOrdS_first 9 rfl rfl ?_
      go_big_quiet_step (fail)
      refine wpQuiet_nil ?_
      refine wpOrdS_first 10 rfl rfl ?_
      go_big_quiet_step (fail)
      refine wpQuiet_nil ?_
      refine wpOrdS_first 11 rfl rfl ?_
      go_big_quiet_step (fail)
      refine wpQuiet_nil ?_
      refine wpOrdS_first 12 rfl rfl ?_
      go_big_quiet_step (fail)
      refine wpQuiet_nil ?_
      refine wpOrdS_first 13 rfl rfl ?_
      go_big_quiet_step (fail)
      refine wpQuiet_nil ?_
      refine wpOrdS_one 7 (by decide) ?_
      simp only [List.drop_succ_cons, List.drop_zero, List.take_succ_cons, List.take_zero]
      go_wp2_with fail
      · have hci : c = i + 1 := by assumption
        have A0 : Hs.At w2 ⟨some ⟨bb, oo, none⟩, i, i + 1, z⟩ := ⟨by simp, by show i + 1 ≤ maxLen; unfold maxLen; omega, fun j hj => HZ.hds j (by have : j < i := hj; show j < n; omega), fun h => by cases h⟩
        have A1 : Hs.At w2 ⟨some ⟨bb, oo, none⟩, n - (i + 1), 0, fun j => z (i + 1 + j)⟩ := ⟨by simp; omega, Nat.zero_le _, fun j hj => by have : j < n - (i + 1) := hj; omega, fun h => by cases h⟩
        have hat : Hid (Hs.At w2 ⟨some ⟨bb, oo, none⟩, i, i + 1, z⟩ ∧ Hs.At w2 ⟨some ⟨bb, oo, none⟩, n - (i + 1), 0, fun j => z (i + 1 + j)⟩) := ⟨A0, A1⟩
        clear A0 A1
        have hD : Below w2.heap.size w2 (w2.alloc (.cells #[.slice (some ⟨bb, oo, none⟩) i (i + 1), .slice (some ⟨bb, oo, none⟩) (n - (i + 1)) (0)] 28)).drew := ((Below.refl _ _).alloc (Nat.le_refl _) _).drew
        refine ⟨regrown_of_below hD, ?_⟩
        refine wpOrdS_one 8 (by decide) ?_
        simp only [List.drop_succ_cons, List.drop_zero, List.take_succ_cons, List.take_zero]
        go_wp2_with fail
        refine (Concat_any 2 w2.heap.size 2 (fun k => if k = 0 then ⟨some ⟨bb, oo, none⟩, i, i + 1, z⟩ else ⟨some ⟨bb, oo, none⟩, n - (i + 1), 0, fun j => z (i + 1 + j)⟩) _ (by omega) (Nat.le_refl _) (by unfold maxLen; omega) ?_ ?_ ?_).mono ?_
        · refine Blk.below (Blk.congr (Blk.mk' rfl rfl) (fun j hj => ?_)) ((Below.refl _ _).drew)
          have hj2 : j = 0 ∨ j = 1 := by have : j < 2 := hj; omega
          rcases hj2 with rfl | rfl <;> rfl
        · intro k hk
          have hk2 : k = 0 ∨ k = 1 := by omega
          rcases hk2 with rfl | rfl
          · exact hat.out.1.below hD
          · exact hat.out.2.below hD
        · intro k hk
          have hk2 : k = 0 ∨ k = 1 := by omega
          rcases hk2 with rfl | rfl
          · simp; omega
          · simp; omega
        rintro e w3 ⟨v, rfl, hown, hB3⟩
        have hown' : w3.ownsRow (w2.alloc (.cells #[.slice (some ⟨bb, oo, none⟩) i (i + 1), .slice (some ⟨bb, oo, none⟩) (n - (i + 1)) (0)] 28)).drew.heap.size 76 4 v (n - 1) (flatH (n - 1) (dropZ z i)) := by
          have e1 : sumN (fun k => if k = 0 then (⟨some ⟨bb, oo, none⟩, i, i + 1, z⟩ : Hs) else ⟨some ⟨bb, oo, none⟩, n - (i + 1), 0, fun j => z (i + 1 + j)⟩) 2 = n - 1 := by simp [sumN]; omega
          have e2 : catC (fun k => if k = 0 then (⟨some ⟨bb, oo, none⟩, i, i + 1, z⟩ : Hs) else ⟨some ⟨bb, oo, none⟩, n - (i + 1), 0, fun j => z (i + 1 + j)⟩) 2 = flatH (n - 1) (dropZ z i) := by rw [flatH_drop n z i hin]; simp [catC]
          rw [e1, e2] at hown
          exact hown
        obtain ⟨s', rfl, sat, sn, sz⟩ := Hs.ofOwns hown'
        have hD3 := hD.trans (hB3.mono hD.size)
        have HR : Hid (s'.At w3 ∧ s'.n = n - 1 ∧ s'.z = dropZ z i) := ⟨sat, sn, sz⟩
        clear hown hown' sat sn sz
        simp only [Hs.val]
        go_wp2_with fail
        refine ⟨regrown_of_below hD3, ?_⟩
        refine wpOrdS_first 14 rfl rfl ?_
        go_big_quiet_step (fail)
        refine wpQuiet_nil ?_
        refine wpOrdS_first 15 rfl rfl ?_
        go_big_quiet_step (fail)
        refine wpQuiet_nil ?_
        refine wpOrdS_one 16 (by decide) ?_
        simp only [List.drop_succ_cons, List.drop_zero, List.take_succ_cons, List.take_zero]
        go_wp2_with fail
        refine ⟨regrown_of_below hD3, ?_⟩
        refine NoPanic.normal ?_
        go_wp2_with fail
        go_ret3
        refine ⟨s', by rw [hE.out.1, hE.out.2.1]; rfl, HR.out.1, ⟨by rw [hE.out.2.1]; exact HR.out.2.1, fun j hj => by rw [hE.out.2.2, HR.out.2.2]⟩, hBz.trans (hD3.mono hBz.size)⟩
      · have hci : ¬ c = i + 1 := by assumption
        have A0 : Hs.At w2 ⟨some ⟨bb, oo, none⟩, i, c, z⟩ := ⟨by show i ≤ c; omega, hc0, fun j hj => HZ.hds j (by have : j < i := hj; show j < n; omega), fun h => by cases h⟩
        have A1 : Hs.At w2 ⟨some ⟨bb, oo + (i + 1) * 4, none⟩, n - (i + 1), c - (i + 1), fun j => z (i + 1 + j)⟩ := ⟨by show n - (i + 1) ≤ c - (i + 1); omega, by show c - (i + 1) ≤ maxLen; omega, by
          have := HZ.hds.cut (c := c) (i + 1) (by show i + 1 ≤ n; omega) hn
          rw [if_neg hci, Go.WideShapes.add_plain] at this
          exact this, fun h => by cases h⟩
        have hat : Hid (Hs.At w2 ⟨some ⟨bb, oo, none⟩, i, c, z⟩ ∧ Hs.At w2 ⟨some ⟨bb, oo + (i + 1) * 4, none⟩, n - (i + 1), c - (i + 1), fun j => z (i + 1 + j)⟩) := ⟨A0, A1⟩
        clear A0 A1
        have hD : Below w2.heap.size w2 (w2.alloc (.cells #[.slice (some ⟨bb, oo, none⟩) i (c), .slice (some ⟨bb, oo + (i + 1) * 4, none⟩) (n - (i + 1)) (c - (i + 1))] 28)).drew := ((Below.refl _ _).alloc (Nat.le_refl _) _).drew
        refine ⟨regrown_of_below hD, ?_⟩
        refine wpOrdS_one 8 (by decide) ?_
        simp only [List.drop_succ_cons, List.drop_zero, List.take_succ_cons, List.take_zero]
        go_wp2_with fail
        refine (Concat_any 2 w2.heap.size 2 (fun k => if k = 0 then ⟨some ⟨bb, oo, none⟩, i, c, z⟩ else ⟨some ⟨bb, oo + (i + 1) * 4, none⟩, n - (i + 1), c - (i + 1), fun j => z (i + 1 + j)⟩) _ (by omega) (Nat.le_refl _) (by unfold maxLen; omega) ?_ ?_ ?_).mono ?_
        · refine Blk.below (Blk.congr (Blk.mk' rfl rfl) (fun j hj => ?_)) ((Below.refl _ _).drew)
          have hj2 : j = 0 ∨ j = 1 := by have : j < 2 := hj; omega
          rcases hj2 with rfl | rfl <;> rfl
        · intro k hk
          have hk2 : k = 0 ∨ k = 1 := by omega
          rcases hk2 with rfl | rfl
          · exact hat.out.1.below hD
          · exact hat.out.2.below hD
        · intro k hk
          have hk2 : k = 0 ∨ k = 1 := by omega
          rcases hk2 with rfl | rfl
          · simp; omega
          · simp; omega
        rintro e w3 ⟨v, rfl, hown, hB3⟩
        have hown' : w3.ownsRow (w2.alloc (.cells #[.slice (some ⟨bb, oo, none⟩) i (c), .slice (some ⟨bb, oo + (i + 1) * 4, none⟩) (n - (i + 1)) (c - (i + 1))] 28)).drew.heap.size 76 4 v (n - 1) (flatH (n - 1) (dropZ z i)) := by
          have e1 : sumN (fun k => if k = 0 then (⟨some ⟨bb, oo, none⟩, i, c, z⟩ : Hs) else ⟨some ⟨bb, oo + (i + 1) * 4, none⟩, n - (i + 1), c - (i + 1), fun j => z (i + 1 + j)⟩) 2 = n - 1 := by simp [sumN]; omega
          have e2 : catC (fun k => if k = 0 then (⟨some ⟨bb, oo, none⟩, i, c, z⟩ : Hs) else ⟨some ⟨bb, oo + (i + 1) * 4, none⟩, n - (i + 1), c - (i + 1), fun j => z (i + 1 + j)⟩) 2 = flatH (n - 1) (dropZ z i) := by rw [flatH_drop n z i hin]; simp [catC]
          rw [e1, e2] at hown
          exact hown
        obtain ⟨s', rfl, sat, sn, sz⟩ := Hs.ofOwns hown'
        have hD3 := hD.trans (hB3.mono hD.size)
        have HR : Hid (s'.At w3 ∧ s'.n = n - 1 ∧ s'.z = dropZ z i) := ⟨sat, sn, sz⟩
        clear hown hown' sat sn sz
        simp only [Hs.val]
        go_wp2_with fail
        refine ⟨regrown_of_below hD3, ?_⟩
        refine wpOrdS_first 14 rfl rfl ?_
        go_big_quiet_step (fail)
        refine wpQuiet_nil ?_
        refine wpOrdS_first 15 rfl rfl ?_
        go_big_quiet_step (fail)
        refine wpQuiet_nil ?_
        refine wpOrdS_one 16 (by decide) ?_
        simp only [List.drop_succ_cons, List.drop_zero, List.take_succ_cons, List.take_zero]
        go_wp2_with fail
        refine ⟨regrown_of_below hD3, ?_⟩
        refine NoPanic.normal ?_
        go_wp2_with fail
        go_ret3
        refine ⟨s', by rw [hE.out.1, hE.out.2.1]; rfl, HR.out.1, ⟨by rw [hE.out.2.1]; exact HR.out.2.1, fun j hj => by rw [hE.out.2.2, HR.out.2.2]⟩, hBz.trans (hD3.mono hBz.size)⟩
  · have hE : Hid (dropN n z o l b = 0 ∧ dropE n z o l b = checkH n z) := by show _ ∧ _; simp [dropN, dropE, h0]
    go_wp2_with fail
    go_ret3
    exact ⟨⟨none, 0, 0, z⟩, by rw [hE.out.1, hE.out.2]; rfl, NA.out _, ⟨by rw [hE.out.2, if_neg h0], fun j hj => absurd hj (Nat.not_lt_zero _)⟩, hB1⟩

end Go.Proofs.Ytjiodlbblmbibad

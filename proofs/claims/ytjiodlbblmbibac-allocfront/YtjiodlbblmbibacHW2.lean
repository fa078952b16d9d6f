/- Holds: the checks. -/
import Derived.Test.YtjiodlbblmbibacHW1
namespace Go.Proofs.Ytjiodlbblmbibac
open Go.RowKit Go.Shelf Go.Sort
set_option linter.unusedVariables false

/-- A hold's four cells, in every world grown from this. -/
theorem hd_regrown {w : World} {b q : Nat} {x : Hd} (h0 : w.cell? ⟨b, q, none⟩ = some (.int .i64 x.o)) (h1 : w.cell? ⟨b, q + 1, none⟩ = some (.int .i64 x.l)) (h2 : w.cell? ⟨b, q + 2, none⟩ = some (.int .i64 x.b)) (h3 : w.cell? ⟨b, q + 3, none⟩ = some (.int .i64 x.n)) :
    (∀ d os, (grow (redrawn w d) os).cell? ⟨b, q, none⟩ = some (.int .i64 x.o)) ∧ (∀ d os, (grow (redrawn w d) os).cell? ⟨b, q + 1, none⟩ = some (.int .i64 x.l)) ∧
    (∀ d os, (grow (redrawn w d) os).cell? ⟨b, q + 2, none⟩ = some (.int .i64 x.b)) ∧ (∀ d os, (grow (redrawn w d) os).cell? ⟨b, q + 3, none⟩ = some (.int .i64 x.n)) :=
  ⟨fun d os => cell_regrown h0 d os, fun d os => cell_regrown h1 d os, fun d os => cell_regrown h2 d os, fun d os => cell_regrown h3 d os⟩

set_option maxHeartbeats 1000000 in
theorem holdsCheck1_any (B : Nat) (a : Option Addr) (n c : Nat) (z : Nat → Hd) (i : Nat) (w : World) (hi : i < n) (hn : n ≤ c) (hc : c ≤ maxLen) (hz : HdsAt w a n z) (hB : w.cell? ⟨B, 0, none⟩ = some (.slice a n c)) :
    Calls Try.prog 105 #[.int .i64 i, .pointer (some ⟨B, 0, none⟩)] w fun e w' => e = .returned (.bool (badH z i)) ∧ Below w.heap.size w w' := by
  obtain ⟨b, o, rfl, hb, z0, z1, z2, z3⟩ := hz i hi
  obtain ⟨r0, r1, r2, r3⟩ := hd_regrown z0 z1 z2 z3
  have rB : ∀ d os, (grow (redrawn w d) os).cell? ⟨B, 0, none⟩ = some (.slice (some ⟨b, o, none⟩) n c) := fun d os => cell_regrown hB d os
  have m1 : (0 : Int) ≤ (i : Int) := by omega
  have m2 : (i : Int) < (n : Int) := by omega
  unfold maxLen at hc
  by_cases hi0 : i = 0
  · subst hi0
    simp only [Nat.zero_mul, Nat.add_zero] at r0 r1 r2 r3
    clear z0 z1 z2 z3 hz hB
    cases h1 : fineH (z 0)
    · go_enter Try.func105, Try.ntmps105
      go_wp2_with fail
      refine wp_region_quiet_below (by kernel_rfl) (by kernel_rfl) ?_
      repeat (go_big_quiet_step ((go_at_call 93; exact Calls.regrown_of (rightAlone_any (z 0) _))))
      refine wpQuiet_nil ?_
      intro _ hw'
      obtain ⟨⟨dq, osq⟩, hw''⟩ := hw'
      subst hw''
      go_wp2_with fail
      go_ret
      exact ⟨by simp [badH, h1], below_regrown _ _ _⟩
    · go_enter Try.func105, Try.ntmps105
      go_wp2_with fail
      refine wp_region_quiet_below (by kernel_rfl) (by kernel_rfl) ?_
      repeat (go_big_quiet_step ((go_at_call 93; exact Calls.regrown_of (rightAlone_any (z 0) _))))
      refine wpQuiet_nil ?_
      intro _ hw'
      obtain ⟨⟨dq, osq⟩, hw''⟩ := hw'
      subst hw''
      go_wp2_with fail
      go_ret
      exact ⟨by simp [badH, h1], below_regrown _ _ _⟩
  · obtain ⟨k, rfl⟩ : ∃ k, i = k + 1 := ⟨i - 1, by omega⟩
    obtain ⟨b', o', he, hb', y0, y1, y2, y3⟩ := hz k (by omega)
    simp only [Option.some.injEq, Addr.mk.injEq, and_true] at he
    obtain ⟨rfl, rfl⟩ := he
    obtain ⟨p0, p1, p2, p3⟩ := hd_regrown y0 y1 y2 y3
    have m3 : (0 : Int) ≤ (k : Int) := by omega
    have m4 : (k : Int) < (n : Int) := by omega
    have m5 : (0 : Int) < (k : Int) + 1 := by omega
    clear z0 z1 z2 z3 y0 y1 y2 y3 hz hB hi0
    cases h1 : fineH (z (k + 1))
    · go_enter Try.func105, Try.ntmps105
      go_wp2_with fail
      refine wp_region_quiet_below (by kernel_rfl) (by kernel_rfl) ?_
      repeat (go_big_quiet_step (first | (go_at_call 93; exact Calls.regrown_of (rightAlone_any (z (k + 1)) _)) | (go_at_call 95; exact Calls.regrown_of (compare_any (z k) (z (k + 1)) _))))
      refine wpQuiet_nil ?_
      intro _ hw'
      obtain ⟨⟨dq, osq⟩, hw''⟩ := hw'
      subst hw''
      go_wp2_with fail
      go_ret
      exact ⟨by simp [badH, h1], below_regrown _ _ _⟩
    · cases h2 : decide (0 ≤ cmpH (z k) (z (k + 1)))
      · go_enter Try.func105, Try.ntmps105
        go_wp2_with fail
        refine wp_region_quiet_below (by kernel_rfl) (by kernel_rfl) ?_
        repeat (go_big_quiet_step (first | (go_at_call 93; exact Calls.regrown_of (rightAlone_any (z (k + 1)) _)) | (go_at_call 95; exact Calls.regrown_of (compare_any (z k) (z (k + 1)) _))))
        refine wpQuiet_nil ?_
        intro _ hw'
        obtain ⟨⟨dq, osq⟩, hw''⟩ := hw'
        subst hw''
        go_wp2_with fail
        go_ret
        exact ⟨by simp only [badH, Nat.add_sub_cancel, h1, h2]; simp, below_regrown _ _ _⟩
      · go_enter Try.func105, Try.ntmps105
        go_wp2_with fail
        refine wp_region_quiet_below (by kernel_rfl) (by kernel_rfl) ?_
        repeat (go_big_quiet_step (first | (go_at_call 93; exact Calls.regrown_of (rightAlone_any (z (k + 1)) _)) | (go_at_call 95; exact Calls.regrown_of (compare_any (z k) (z (k + 1)) _))))
        refine wpQuiet_nil ?_
        intro _ hw'
        obtain ⟨⟨dq, osq⟩, hw''⟩ := hw'
        subst hw''
        go_wp2_with fail
        go_ret
        exact ⟨by simp only [badH, Nat.add_sub_cancel, h1, h2]; simp, below_regrown _ _ _⟩

set_option maxHeartbeats 1000000 in
theorem holdsCheck_any (s : Hs) (w : World) (hs : s.At w) :
    Calls Try.prog 54 #[s.val] w fun e w' => e = .returned (.int .i64 (checkH s.n s.z)) ∧ Below w.heap.size w w' := by
  obtain ⟨a, n, c, z⟩ := s
  obtain ⟨hn, hc, hz⟩ := hs
  dsimp only at hn hc hz ⊢
  have hc0 := hc
  unfold maxLen at hc
  simp only [Hs.val]
  go_enter Try.func54, Try.ntmps54
  go_wp2_with fail
  go_loopw [8] (fun i wk => ∃ k : Nat, k ≤ n ∧ i = .int .i64 k ∧ (∀ j, j < k → badH z j = false) ∧ Below (w.heap.size + 1) (w.alloc (.cells #[.slice a n c] 28)) wk) (fun i _ => n - (intOf i).toNat)
  case atStart => exact ⟨0, Nat.zero_le _, rfl, fun j hj => absurd hj (Nat.not_lt_zero _), Below.refl _ _⟩
  case round =>
    obtain ⟨k, hk, rfl, hno, hB⟩ := hrel
    have HN : Hid (∀ j, j < k → badH z j = false) := hno
    clear hno
    have hB' : Below w.heap.size w wr := ((Below.refl w.heap.size w).alloc (Nat.le_refl _) _).trans (hB.mono (by omega))
    have hs : w.heap.size + 1 ≤ wr.heap.size := by have := hB.size; simpa using this
    have c0 : wr.cell? ⟨w.heap.size, 0, none⟩ = some (.slice a n c) := (hB.cell (p := ⟨w.heap.size, 0, none⟩) (by simp)).trans (by simp)
    by_cases hlt : k < n
    · go_wp2_with fail
      refine (holdsCheck1_any w.heap.size a n c z k wr hlt hn hc0 (hz.below hB') c0).mono ?_
      rintro e w1 ⟨rfl, hB1⟩
      cases hb : badH z k
      · go_wp2_with fail
        go_roundw
        case rel =>
          refine ⟨k + 1, by omega, by go_num, ?_, hB.trans (hB1.mono hs)⟩
          intro j hj
          by_cases hjk : j = k
          · rw [hjk, hb]
          · exact HN.out j (by omega)
        case measure => simp [intOf]; omega
      · have h3 : Hid (anyB n (badH z) = true) := anyB_yes hlt hb
        go_wp2_with fail
        go_ret
        exact ⟨by rw [show checkH n z = 1 from by simp [checkH, h3.out]]; rfl, hB'.trans (hB1.mono (by omega))⟩
    · go_wp2_with fail
      go_ret
      have h3 : anyB n (badH z) = false := anyB_no fun j hj => HN.out j (by omega)
      exact ⟨by rw [show checkH n z = 0 from by simp [checkH, h3]]; rfl, hB'⟩

end Go.Proofs.Ytjiodlbblmbibac

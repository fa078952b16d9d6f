/- Holds: the document's own check; keptAt, KeptOf, Kept. -/
import Derived.Test.YtjiodlbblmbibacHW2
namespace Go.Proofs.Ytjiodlbblmbibac
open Go.RowKit Go.Shelf Go.Sort
set_option linter.unusedVariables false

set_option maxHeartbeats 1000000 in
theorem CheckHolds_any (s : Hs) (w : World) (hs : s.At w) :
    Calls Try.prog 119 #[s.val] w fun e w' => e = .returned (.int .i64 (checkH s.n s.z)) ∧ Below w.heap.size w w' := by
  obtain ⟨a, n, c, z⟩ := s
  obtain ⟨hn, hc, hz⟩ := hs
  dsimp only at hn hc hz ⊢
  have hE : Hid (checkH n z = if anyB n (badK z) then 1 else 0) := by show checkH n z = _; rw [bad_eq]; rfl
  unfold maxLen at hc
  simp only [Hs.val]
  generalize checkH n z = E at hE ⊢
  go_enter Try.func119, Try.ntmps119
  go_wp2_with fail
  go_loopw [3] (fun i wk => ∃ k : Nat, k ≤ n ∧ i = .int .i64 k ∧ (∀ j, j < k → badK z j = false) ∧ Below w.heap.size w wk) (fun i _ => n - (intOf i).toNat)
  case atStart => exact ⟨0, Nat.zero_le _, rfl, fun j hj => absurd hj (Nat.not_lt_zero _), Below.refl _ _⟩
  case round =>
    obtain ⟨k, hk, rfl, hno, hB⟩ := hrel
    have HN : Hid (∀ j, j < k → badK z j = false) := hno
    clear hno
    by_cases hlt : k < n
    · have hz1 := hz.below hB
      obtain ⟨b, o, rfl, hb, z0, z1, z2, z3⟩ := hz1 k hlt
      obtain ⟨r0, r1, r2, r3⟩ := hd_regrown z0 z1 z2 z3
      have m1 : (0 : Int) ≤ (k : Int) := by omega
      have m2 : (k : Int) < (n : Int) := by omega
      cases h1 : fineH (z k)
      · have h3 : Hid (anyB n (badK z) = true) := anyB_yes hlt (by simp [badK, h1])
        go_wp2_with fail
        refine wp_region_quiet_below (by kernel_rfl) (by kernel_rfl) ?_
        repeat (go_big_quiet_step ((go_at_call 125; exact Calls.regrown_of (holdFine_any (z k) _))))
        refine wpQuiet_nil ?_
        intro _ hw'
        obtain ⟨⟨dq, osq⟩, hw''⟩ := hw'
        subst hw''
        go_wp2_with fail
        go_ret
        exact ⟨by rw [hE.out, h3.out]; rfl, hB.trans ((below_regrown _ _ _).mono hB.size)⟩
      · by_cases hk0 : k = 0
        · have hb0 : Hid (badK z k = false) := by show badK z k = false; subst hk0; simp [badK, h1]
          subst hk0
          simp only [Nat.zero_mul, Nat.add_zero] at r0 r1 r2 r3
          go_wp2_with fail
          refine wp_region_quiet_below (by kernel_rfl) (by kernel_rfl) ?_
          repeat (go_big_quiet_step ((go_at_call 125; exact Calls.regrown_of (holdFine_any (z 0) _))))
          refine wpQuiet_nil ?_
          intro _ hw'
          obtain ⟨⟨dq, osq⟩, hw''⟩ := hw'
          subst hw''
          go_wp2_with fail
          go_roundw
          case rel =>
            refine ⟨1, by omega, by go_num, ?_, hB.trans ((below_regrown _ _ _).mono hB.size)⟩
            intro j hj
            have : j = 0 := by omega
            rw [this, hb0.out]
          case measure => simp [intOf]; omega
        · obtain ⟨q, rfl⟩ : ∃ q, k = q + 1 := ⟨k - 1, by omega⟩
          have h2 : fineH (z q) = true := by
            have := HN.out q (by omega)
            cases hq : fineH (z q)
            · simp [badK, hq] at this
            · rfl
          obtain ⟨b', o', he, hb', y0, y1, y2, y3⟩ := hz1 q (by omega)
          simp only [Option.some.injEq, Addr.mk.injEq, and_true] at he
          obtain ⟨rfl, rfl⟩ := he
          obtain ⟨p0, p1, p2, p3⟩ := hd_regrown y0 y1 y2 y3
          have m3 : (0 : Int) ≤ (q : Int) := by omega
          have m4 : (q : Int) < (n : Int) := by omega
          have m5 : (0 : Int) < (q : Int) + 1 := by omega
          have HK : Hid _ := And.intro h1 h2
          have hbb : Hid (badK z (q + 1) = decide (keyH (z (q + 1)) ≤ keyH (z q))) := by show badK z (q + 1) = _; simp [badK, h1]
          clear z0 z1 z2 z3 y0 y1 y2 y3 hk0 h2
          cases h4 : decide (keyH (z (q + 1)) ≤ keyH (z q))
          · rw [h4] at hbb
            go_wp2_with fail
            refine wp_region_quiet_below (by kernel_rfl) (by kernel_rfl) ?_
            repeat (go_big_quiet_step (first | (go_at_call 125; exact Calls.regrown_of (holdFine_any (z (q + 1)) _)) | (go_at_call 123; exact Calls.regrown_of (place_any _ _ (by first | exact HK.out.2 | exact HK.out.1)))))
            refine wpQuiet_nil ?_
            intro _ hw'
            obtain ⟨⟨dq, osq⟩, hw''⟩ := hw'
            subst hw''
            go_wp2_with fail
            go_roundw
            case rel =>
              refine ⟨q + 1 + 1, by omega, by go_num, ?_, hB.trans ((below_regrown _ _ _).mono hB.size)⟩
              intro j hj
              by_cases hjk : j = q + 1
              · rw [hjk, hbb.out]
              · exact HN.out j (by omega)
            case measure => simp [intOf]; omega
          · rw [h4] at hbb
            have h3 : Hid (anyB n (badK z) = true) := anyB_yes hlt hbb.out
            go_wp2_with fail
            refine wp_region_quiet_below (by kernel_rfl) (by kernel_rfl) ?_
            repeat (go_big_quiet_step (first | (go_at_call 125; exact Calls.regrown_of (holdFine_any (z (q + 1)) _)) | (go_at_call 123; exact Calls.regrown_of (place_any _ _ (by first | exact HK.out.2 | exact HK.out.1)))))
            refine wpQuiet_nil ?_
            intro _ hw'
            obtain ⟨⟨dq, osq⟩, hw''⟩ := hw'
            subst hw''
            go_wp2_with fail
            go_ret
            exact ⟨by rw [hE.out, h3.out]; rfl, hB.trans ((below_regrown _ _ _).mono hB.size)⟩
    · go_wp2_with fail
      go_ret
      have h3 : anyB n (badK z) = false := anyB_no fun j hj => HN.out j (by omega)
      exact ⟨by rw [hE.out, h3]; rfl, hB⟩

end Go.Proofs.Ytjiodlbblmbibac

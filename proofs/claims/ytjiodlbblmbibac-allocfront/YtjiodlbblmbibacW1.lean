/- The small walks: comparisons of numbers, closures that test one thing. -/
import Derived.Test.YtjiodlbblmbibacRows
import Derived.Test.YtjiodlbblmbibacM
import Derived.WalkKit
import Derived.Laws.EntriesVeiled
import Derived.WalkSpells
import Derived.WalkLawsBesides
import Derived.Deep.QuietTactic
import Derived.BigQuiet
import Derived.Deep.RegionHeld3
namespace Go.Proofs.Ytjiodlbblmbibac
open Go.RowKit
set_option linter.unusedVariables false

set_option maxHeartbeats 400000 in
theorem Within_any (n low high : Int) (w : World) :
    Calls Try.prog 55 #[.int .i64 n, .int .i64 low, .int .i64 high] w fun e w' => e = .returned (.bool (inB n low high)) ∧ w' = w := by
  unfold inB
  go_enter Try.func55, Try.ntmps55
  go_wp2
  all_goals go_ret
  all_goals refine ⟨?_, rfl⟩
  all_goals simp
  all_goals omega

set_option maxHeartbeats 400000 in
theorem within_any (n low high : Int) (w : World) :
    Calls Try.prog 48 #[.int .i64 n, .int .i64 low, .int .i64 high] w fun e w' => e = .returned (.bool (inB n low high)) ∧ w' = w := by
  unfold inB
  go_enter Try.func48, Try.ntmps48
  go_wp2
  all_goals go_ret
  all_goals refine ⟨?_, rfl⟩
  all_goals simp
  all_goals omega

set_option maxHeartbeats 400000 in
theorem planCheck1_any (x : Bin) (w : World) :
    Calls Try.prog 65 #[x.val] w fun e w' => e = .returned (.bool (badBin x)) ∧ Below w.heap.size w w' := by
  unfold badBin Bin.val
  go_enter Try.func65, Try.ntmps65
  go_wp2_with (go_at_call 55; refine calls_to (Within_any _ _ _ _) ?_)
  all_goals go_ret
  all_goals exact ⟨by simp [*], (Below.refl _ _).alloc (Nat.le_refl _) _⟩

set_option maxHeartbeats 400000 in
theorem planCheck2_any (x : Int) (w : World) :
    Calls Try.prog 66 #[.int .i64 x] w fun e w' => e = .returned (.bool (badSize x)) ∧ w' = w := by
  unfold badSize
  go_enter Try.func66, Try.ntmps66
  go_wp2_with (go_at_call 55; refine calls_to (Within_any _ _ _ _) ?_)
  all_goals go_ret
  all_goals exact ⟨rfl, rfl⟩

set_option maxHeartbeats 400000 in
theorem idxI (f : Nat) (caps : Array Value) (bad : Nat → Bool)  (a : Option Addr) (n c : Nat) (w : World) (hn : n ≤ c) (hc : c ≤ maxLen) (z : Nat → Int) (hz : IntsAt w a n z)
    (eg : ∀ args w, (callFunc f args).run Try.prog w = .ok (.enter f args) w)
    (hf : Hid (∀ i w1, i < n → Below w.heap.size w w1 → Calls Try.prog f (#[.int .i64 (z i)] ++ caps) w1 fun e w' => e = .returned (.bool (bad i)) ∧ Below w1.heap.size w1 w')) :
    Calls Try.prog 87 #[.slice a n c, .func (.func f) #[] caps] w fun e w' => ∃ r : Int, e = .returned (.int .i64 r) ∧ decide (0 ≤ r) = anyB n bad ∧ Below w.heap.size w w' := by
  unfold maxLen at hc
  go_enter Try.func87, Try.ntmps87
  go_wp2_with fail
  go_loopw [8] (fun i w1 => ∃ k : Nat, k ≤ n ∧ i = .int .i64 k ∧ (∀ j, j < k → bad j = false) ∧ Below w.heap.size w w1) (fun i _ => n - (intOf i).toNat)
  case atStart => exact ⟨0, Nat.zero_le _, rfl, fun j hj => absurd hj (Nat.not_lt_zero _), Below.refl _ _⟩
  case round =>
    obtain ⟨k, hk, rfl, hno, hB⟩ := hrel
    have HN : Hid (∀ j, j < k → bad j = false) := hno
    clear hno
    by_cases hlt : k < n
    · obtain ⟨b, o, rfl, _, hcell⟩ := (hz.below hB) k hlt
      clear hz
      go_wp2_with fail
      refine (hf.out k wr hlt hB).mono ?_
      rintro e w1 ⟨rfl, hB1⟩
      have hB2 := hB.trans (hB1.mono hB.size)
      cases hbad : bad k
      · go_wp2_with fail
        go_roundw
        case rel =>
          refine ⟨k + 1, by omega, by go_num, ?_, hB2⟩
          intro j hj
          by_cases hjk : j = k
          · rw [hjk, hbad]
          · exact HN.out j (by omega)
        case measure => simp [intOf]; omega
      · go_wp2_with fail
        go_ret
        exact ⟨_, rfl, by rw [anyB_yes hlt hbad]; simp, hB2⟩
    · go_wp2_with fail
      go_ret
      have hkn : k = n := by omega
      subst hkn
      exact ⟨_, rfl, by rw [anyB_no HN.out]; decide, hB⟩

set_option maxHeartbeats 400000 in
theorem idxR (f : Nat) (caps : Array Value) (bad : Nat → Bool)  (a : Option Addr) (n c : Nat) (w : World) (hn : n ≤ c) (hc : c ≤ maxLen) (r : Nat → Rw) (hz : RowsAt w a n r)
    (eg : ∀ args w, (callFunc f args).run Try.prog w = .ok (.enter f args) w)
    (hf : Hid (∀ i w1, i < n → Below w.heap.size w w1 → Calls Try.prog f (#[.slice (r i).a (r i).n (r i).c] ++ caps) w1 fun e w' => e = .returned (.bool (bad i)) ∧ Below w1.heap.size w1 w')) :
    Calls Try.prog 109 #[.slice a n c, .func (.func f) #[] caps] w fun e w' => ∃ r : Int, e = .returned (.int .i64 r) ∧ decide (0 ≤ r) = anyB n bad ∧ Below w.heap.size w w' := by
  unfold maxLen at hc
  go_enter Try.func109, Try.ntmps109
  go_wp2_with fail
  go_loopw [8] (fun i w1 => ∃ k : Nat, k ≤ n ∧ i = .int .i64 k ∧ (∀ j, j < k → bad j = false) ∧ Below w.heap.size w w1) (fun i _ => n - (intOf i).toNat)
  case atStart => exact ⟨0, Nat.zero_le _, rfl, fun j hj => absurd hj (Nat.not_lt_zero _), Below.refl _ _⟩
  case round =>
    obtain ⟨k, hk, rfl, hno, hB⟩ := hrel
    have HN : Hid (∀ j, j < k → bad j = false) := hno
    clear hno
    by_cases hlt : k < n
    · obtain ⟨b, o, rfl, _, hcell, _⟩ := (hz.below hB) k hlt
      clear hz
      go_wp2_with fail
      refine (hf.out k wr hlt hB).mono ?_
      rintro e w1 ⟨rfl, hB1⟩
      have hB2 := hB.trans (hB1.mono hB.size)
      cases hbad : bad k
      · go_wp2_with fail
        go_roundw
        case rel =>
          refine ⟨k + 1, by omega, by go_num, ?_, hB2⟩
          intro j hj
          by_cases hjk : j = k
          · rw [hjk, hbad]
          · exact HN.out j (by omega)
        case measure => simp [intOf]; omega
      · go_wp2_with fail
        go_ret
        exact ⟨_, rfl, by rw [anyB_yes hlt hbad]; simp, hB2⟩
    · go_wp2_with fail
      go_ret
      have hkn : k = n := by omega
      subst hkn
      exact ⟨_, rfl, by rw [anyB_no HN.out]; decide, hB⟩

set_option maxHeartbeats 400000 in
theorem idxB (f : Nat) (caps : Array Value) (bad : Nat → Bool)  (a : Option Addr) (n c : Nat) (w : World) (hn : n ≤ c) (hc : c ≤ maxLen) (z : Nat → Bin) (hz : BinsAt w a n z)
    (eg : ∀ args w, (callFunc f args).run Try.prog w = .ok (.enter f args) w)
    (hf : Hid (∀ i w1, i < n → Below w.heap.size w w1 → Calls Try.prog f (#[(z i).val] ++ caps) w1 fun e w' => e = .returned (.bool (bad i)) ∧ Below w1.heap.size w1 w')) :
    Calls Try.prog 108 #[.slice a n c, .func (.func f) #[] caps] w fun e w' => ∃ r : Int, e = .returned (.int .i64 r) ∧ decide (0 ≤ r) = anyB n bad ∧ Below w.heap.size w w' := by
  unfold maxLen at hc
  go_enter Try.func108, Try.ntmps108
  go_wp2_with fail
  go_loopw [8] (fun i w1 => ∃ k : Nat, k ≤ n ∧ i = .int .i64 k ∧ (∀ j, j < k → bad j = false) ∧ Below w.heap.size w w1) (fun i _ => n - (intOf i).toNat)
  case atStart => exact ⟨0, Nat.zero_le _, rfl, fun j hj => absurd hj (Nat.not_lt_zero _), Below.refl _ _⟩
  case round =>
    obtain ⟨k, hk, rfl, hno, hB⟩ := hrel
    have HN : Hid (∀ j, j < k → bad j = false) := hno
    clear hno
    by_cases hlt : k < n
    · obtain ⟨b, o, rfl, _, hcell0, hcell1, hcell2, hcell3⟩ := (hz.below hB) k hlt
      clear hz
      go_wp2_with fail
      refine (hf.out k wr hlt hB).mono ?_
      rintro e w1 ⟨rfl, hB1⟩
      have hB2 := hB.trans (hB1.mono hB.size)
      cases hbad : bad k
      · go_wp2_with fail
        go_roundw
        case rel =>
          refine ⟨k + 1, by omega, by go_num, ?_, hB2⟩
          intro j hj
          by_cases hjk : j = k
          · rw [hjk, hbad]
          · exact HN.out j (by omega)
        case measure => simp [intOf]; omega
      · go_wp2_with fail
        go_ret
        exact ⟨_, rfl, by rw [anyB_yes hlt hbad]; simp, hB2⟩
    · go_wp2_with fail
      go_ret
      have hkn : k = n := by omega
      subst hkn
      exact ⟨_, rfl, by rw [anyB_no HN.out]; decide, hB⟩

set_option maxHeartbeats 400000 in
theorem anyI (f : Nat) (caps : Array Value) (bad : Nat → Bool) (a : Option Addr) (n c : Nat) (w : World) (hn : n ≤ c) (hc : c ≤ maxLen) (z : Nat → Int) (hz : IntsAt w a n z)
    (eg : ∀ args w, (callFunc f args).run Try.prog w = .ok (.enter f args) w)
    (hf : Hid (∀ i w1, i < n → Below w.heap.size w w1 → Calls Try.prog f (#[.int .i64 (z i)] ++ caps) w1 fun e w' => e = .returned (.bool (bad i)) ∧ Below w1.heap.size w1 w')) :
    Calls Try.prog 68 #[.slice a n c, .func (.func f) #[] caps] w fun e w' => e = .returned (.bool (anyB n bad)) ∧ Below w.heap.size w w' := by
  have hc0 := hc
  unfold maxLen at hc
  go_enter Try.func68, Try.ntmps68
  go_wp2_with fail
  refine (idxI f caps bad a n c w hn hc0 z hz eg hf).mono ?_
  rintro e w1 ⟨r, rfl, hr, hB⟩
  have HR : Hid (decide (0 ≤ r) = anyB n bad) := hr
  clear hr
  go_wp2_with fail
  go_ret
  exact ⟨by rw [← HR.out]; rfl, hB⟩

set_option maxHeartbeats 400000 in
theorem anyR (f : Nat) (caps : Array Value) (bad : Nat → Bool) (a : Option Addr) (n c : Nat) (w : World) (hn : n ≤ c) (hc : c ≤ maxLen) (r : Nat → Rw) (hz : RowsAt w a n r)
    (eg : ∀ args w, (callFunc f args).run Try.prog w = .ok (.enter f args) w)
    (hf : Hid (∀ i w1, i < n → Below w.heap.size w w1 → Calls Try.prog f (#[.slice (r i).a (r i).n (r i).c] ++ caps) w1 fun e w' => e = .returned (.bool (bad i)) ∧ Below w1.heap.size w1 w')) :
    Calls Try.prog 71 #[.slice a n c, .func (.func f) #[] caps] w fun e w' => e = .returned (.bool (anyB n bad)) ∧ Below w.heap.size w w' := by
  have hc0 := hc
  unfold maxLen at hc
  go_enter Try.func71, Try.ntmps71
  go_wp2_with fail
  refine (idxR f caps bad a n c w hn hc0 r hz eg hf).mono ?_
  rintro e w1 ⟨r, rfl, hr, hB⟩
  have HR : Hid (decide (0 ≤ r) = anyB n bad) := hr
  clear hr
  go_wp2_with fail
  go_ret
  exact ⟨by rw [← HR.out]; rfl, hB⟩

set_option maxHeartbeats 400000 in
theorem anyBin (f : Nat) (caps : Array Value) (bad : Nat → Bool) (a : Option Addr) (n c : Nat) (w : World) (hn : n ≤ c) (hc : c ≤ maxLen) (z : Nat → Bin) (hz : BinsAt w a n z)
    (eg : ∀ args w, (callFunc f args).run Try.prog w = .ok (.enter f args) w)
    (hf : Hid (∀ i w1, i < n → Below w.heap.size w w1 → Calls Try.prog f (#[(z i).val] ++ caps) w1 fun e w' => e = .returned (.bool (bad i)) ∧ Below w1.heap.size w1 w')) :
    Calls Try.prog 67 #[.slice a n c, .func (.func f) #[] caps] w fun e w' => e = .returned (.bool (anyB n bad)) ∧ Below w.heap.size w w' := by
  have hc0 := hc
  unfold maxLen at hc
  go_enter Try.func67, Try.ntmps67
  go_wp2_with fail
  refine (idxB f caps bad a n c w hn hc0 z hz eg hf).mono ?_
  rintro e w1 ⟨r, rfl, hr, hB⟩
  have HR : Hid (decide (0 ≤ r) = anyB n bad) := hr
  clear hr
  go_wp2_with fail
  go_ret
  exact ⟨by rw [← HR.out]; rfl, hB⟩

end Go.Proofs.Ytjiodlbblmbibac

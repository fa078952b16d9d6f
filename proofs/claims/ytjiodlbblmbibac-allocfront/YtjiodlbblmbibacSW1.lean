/- The walks of ContainsFunc over orders, lines, holds and moves. -/
import Derived.Test.YtjiodlbblmbibacW5
import Derived.Test.YtjiodlbblmbibacS
namespace Go.Proofs.Ytjiodlbblmbibac
open Go.RowKit Go.Shelf
set_option linter.unusedVariables false

set_option maxHeartbeats 400000 in
theorem idxO4 (f : Nat) (caps : Array Value) (bad : Nat → Bool)  (a : Option Addr) (n c : Nat) (w : World) (hn : n ≤ c) (hc : c ≤ maxLen) (z : Nat → Od) (hz : OdsAt w a n z)
    (eg : ∀ args w, (callFunc f args).run Try.prog w = .ok (.enter f args) w)
    (hf : Hid (∀ i w1, i < n → Below w.heap.size w w1 → Calls Try.prog f (#[(z i).val] ++ caps) w1 fun e w' => e = .returned (.bool (bad i)) ∧ Below w1.heap.size w1 w')) :
    Calls Try.prog 110 #[.slice a n c, .func (.func f) #[] caps] w fun e w' => ∃ r : Int, e = .returned (.int .i64 r) ∧ decide (0 ≤ r) = anyB n bad ∧ Below w.heap.size w w' := by
  unfold maxLen at hc
  go_enter Try.func110, Try.ntmps110
  go_wp2_with fail
  go_loopw [8] (fun i w1 => ∃ k : Nat, k ≤ n ∧ i = .int .i64 k ∧ (∀ j, j < k → bad j = false) ∧ Below w.heap.size w w1) (fun i _ => n - (intOf i).toNat)
  case atStart => exact ⟨0, Nat.zero_le _, rfl, fun j hj => absurd hj (Nat.not_lt_zero _), Below.refl _ _⟩
  case round =>
    obtain ⟨k, hk, rfl, hno, hB⟩ := hrel
    have HN : Hid (∀ j, j < k → bad j = false) := hno
    clear hno
    by_cases hlt : k < n
    · obtain ⟨b, o, rfl, _, hcell0, hcell1, _⟩ := (hz.below hB) k hlt
      clear hz
      go_wp2_with fail
      refine (hf.out k wr hlt hB).mono ?_
      rintro e w1 ⟨rfl, hB1⟩
      have hB2 := hB.trans (hB1.mono hB.size)
      cases hbad : bad k
      · go_wp2_with fail
        go_roundw
        case rel =>
          refine ⟨k + 1, by omega, by go_num, ?_, hB2⟩
          intro j hj
          by_cases hjk : j = k
          · rw [hjk, hbad]
          · exact HN.out j (by omega)
        case measure => simp [intOf]; omega
      · go_wp2_with fail
        go_ret
        exact ⟨_, rfl, by rw [anyB_yes hlt hbad]; simp, hB2⟩
    · go_wp2_with fail
      go_ret
      have hkn : k = n := by omega
      subst hkn
      exact ⟨_, rfl, by rw [anyB_no HN.out]; decide, hB⟩

set_option maxHeartbeats 400000 in
theorem anyO4 (f : Nat) (caps : Array Value) (bad : Nat → Bool) (a : Option Addr) (n c : Nat) (w : World) (hn : n ≤ c) (hc : c ≤ maxLen) (z : Nat → Od) (hz : OdsAt w a n z)
    (eg : ∀ args w, (callFunc f args).run Try.prog w = .ok (.enter f args) w)
    (hf : Hid (∀ i w1, i < n → Below w.heap.size w w1 → Calls Try.prog f (#[(z i).val] ++ caps) w1 fun e w' => e = .returned (.bool (bad i)) ∧ Below w1.heap.size w1 w')) :
    Calls Try.prog 73 #[.slice a n c, .func (.func f) #[] caps] w fun e w' => e = .returned (.bool (anyB n bad)) ∧ Below w.heap.size w w' := by
  have hc0 := hc
  unfold maxLen at hc
  go_enter Try.func73, Try.ntmps73
  go_wp2_with fail
  refine (idxO4 f caps bad a n c w hn hc0 z hz eg hf).mono ?_
  rintro e w1 ⟨r, rfl, hr, hB⟩
  have HR : Hid (decide (0 ≤ r) = anyB n bad) := hr
  clear hr
  go_wp2_with fail
  go_ret
  exact ⟨by rw [← HR.out]; rfl, hB⟩

set_option maxHeartbeats 400000 in
theorem idxL4 (f : Nat) (caps : Array Value) (bad : Nat → Bool)  (a : Option Addr) (n c : Nat) (w : World) (hn : n ≤ c) (hc : c ≤ maxLen) (z : Nat → Hd) (hz : HdsAt w a n z)
    (eg : ∀ args w, (callFunc f args).run Try.prog w = .ok (.enter f args) w)
    (hf : Hid (∀ i w1, i < n → Below w.heap.size w w1 → Calls Try.prog f (#[(z i).val] ++ caps) w1 fun e w' => e = .returned (.bool (bad i)) ∧ Below w1.heap.size w1 w')) :
    Calls Try.prog 107 #[.slice a n c, .func (.func f) #[] caps] w fun e w' => ∃ r : Int, e = .returned (.int .i64 r) ∧ decide (0 ≤ r) = anyB n bad ∧ Below w.heap.size w w' := by
  unfold maxLen at hc
  go_enter Try.func107, Try.ntmps107
  go_wp2_with fail
  go_loopw [8] (fun i w1 => ∃ k : Nat, k ≤ n ∧ i = .int .i64 k ∧ (∀ j, j < k → bad j = false) ∧ Below w.heap.size w w1) (fun i _ => n - (intOf i).toNat)
  case atStart => exact ⟨0, Nat.zero_le _, rfl, fun j hj => absurd hj (Nat.not_lt_zero _), Below.refl _ _⟩
  case round =>
    obtain ⟨k, hk, rfl, hno, hB⟩ := hrel
    have HN : Hid (∀ j, j < k → bad j = false) := hno
    clear hno
    by_cases hlt : k < n
    · obtain ⟨b, o, rfl, _, hcell0, hcell1, hcell2, hcell3⟩ := (hz.below hB) k hlt
      clear hz
      go_wp2_with fail
      refine (hf.out k wr hlt hB).mono ?_
      rintro e w1 ⟨rfl, hB1⟩
      have hB2 := hB.trans (hB1.mono hB.size)
      cases hbad : bad k
      · go_wp2_with fail
        go_roundw
        case rel =>
          refine ⟨k + 1, by omega, by go_num, ?_, hB2⟩
          intro j hj
          by_cases hjk : j = k
          · rw [hjk, hbad]
          · exact HN.out j (by omega)
        case measure => simp [intOf]; omega
      · go_wp2_with fail
        go_ret
        exact ⟨_, rfl, by rw [anyB_yes hlt hbad]; simp, hB2⟩
    · go_wp2_with fail
      go_ret
      have hkn : k = n := by omega
      subst hkn
      exact ⟨_, rfl, by rw [anyB_no HN.out]; decide, hB⟩

set_option maxHeartbeats 400000 in
theorem anyL4 (f : Nat) (caps : Array Value) (bad : Nat → Bool) (a : Option Addr) (n c : Nat) (w : World) (hn : n ≤ c) (hc : c ≤ maxLen) (z : Nat → Hd) (hz : HdsAt w a n z)
    (eg : ∀ args w, (callFunc f args).run Try.prog w = .ok (.enter f args) w)
    (hf : Hid (∀ i w1, i < n → Below w.heap.size w w1 → Calls Try.prog f (#[(z i).val] ++ caps) w1 fun e w' => e = .returned (.bool (bad i)) ∧ Below w1.heap.size w1 w')) :
    Calls Try.prog 63 #[.slice a n c, .func (.func f) #[] caps] w fun e w' => e = .returned (.bool (anyB n bad)) ∧ Below w.heap.size w w' := by
  have hc0 := hc
  unfold maxLen at hc
  go_enter Try.func63, Try.ntmps63
  go_wp2_with fail
  refine (idxL4 f caps bad a n c w hn hc0 z hz eg hf).mono ?_
  rintro e w1 ⟨r, rfl, hr, hB⟩
  have HR : Hid (decide (0 ≤ r) = anyB n bad) := hr
  clear hr
  go_wp2_with fail
  go_ret
  exact ⟨by rw [← HR.out]; rfl, hB⟩

set_option maxHeartbeats 400000 in
theorem idxH4 (f : Nat) (caps : Array Value) (bad : Nat → Bool)  (a : Option Addr) (n c : Nat) (w : World) (hn : n ≤ c) (hc : c ≤ maxLen) (z : Nat → Hd) (hz : HdsAt w a n z)
    (eg : ∀ args w, (callFunc f args).run Try.prog w = .ok (.enter f args) w)
    (hf : Hid (∀ i w1, i < n → Below w.heap.size w w1 → Calls Try.prog f (#[(z i).val] ++ caps) w1 fun e w' => e = .returned (.bool (bad i)) ∧ Below w1.heap.size w1 w')) :
    Calls Try.prog 111 #[.slice a n c, .func (.func f) #[] caps] w fun e w' => ∃ r : Int, e = .returned (.int .i64 r) ∧ decide (0 ≤ r) = anyB n bad ∧ Below w.heap.size w w' := by
  unfold maxLen at hc
  go_enter Try.func111, Try.ntmps111
  go_wp2_with fail
  go_loopw [8] (fun i w1 => ∃ k : Nat, k ≤ n ∧ i = .int .i64 k ∧ (∀ j, j < k → bad j = false) ∧ Below w.heap.size w w1) (fun i _ => n - (intOf i).toNat)
  case atStart => exact ⟨0, Nat.zero_le _, rfl, fun j hj => absurd hj (Nat.not_lt_zero _), Below.refl _ _⟩
  case round =>
    obtain ⟨k, hk, rfl, hno, hB⟩ := hrel
    have HN : Hid (∀ j, j < k → bad j = false) := hno
    clear hno
    by_cases hlt : k < n
    · obtain ⟨b, o, rfl, _, hcell0, hcell1, hcell2, hcell3⟩ := (hz.below hB) k hlt
      clear hz
      go_wp2_with fail
      refine (hf.out k wr hlt hB).mono ?_
      rintro e w1 ⟨rfl, hB1⟩
      have hB2 := hB.trans (hB1.mono hB.size)
      cases hbad : bad k
      · go_wp2_with fail
        go_roundw
        case rel =>
          refine ⟨k + 1, by omega, by go_num, ?_, hB2⟩
          intro j hj
          by_cases hjk : j = k
          · rw [hjk, hbad]
          · exact HN.out j (by omega)
        case measure => simp [intOf]; omega
      · go_wp2_with fail
        go_ret
        exact ⟨_, rfl, by rw [anyB_yes hlt hbad]; simp, hB2⟩
    · go_wp2_with fail
      go_ret
      have hkn : k = n := by omega
      subst hkn
      exact ⟨_, rfl, by rw [anyB_no HN.out]; decide, hB⟩

set_option maxHeartbeats 400000 in
theorem anyH4 (f : Nat) (caps : Array Value) (bad : Nat → Bool) (a : Option Addr) (n c : Nat) (w : World) (hn : n ≤ c) (hc : c ≤ maxLen) (z : Nat → Hd) (hz : HdsAt w a n z)
    (eg : ∀ args w, (callFunc f args).run Try.prog w = .ok (.enter f args) w)
    (hf : Hid (∀ i w1, i < n → Below w.heap.size w w1 → Calls Try.prog f (#[(z i).val] ++ caps) w1 fun e w' => e = .returned (.bool (bad i)) ∧ Below w1.heap.size w1 w')) :
    Calls Try.prog 77 #[.slice a n c, .func (.func f) #[] caps] w fun e w' => e = .returned (.bool (anyB n bad)) ∧ Below w.heap.size w w' := by
  have hc0 := hc
  unfold maxLen at hc
  go_enter Try.func77, Try.ntmps77
  go_wp2_with fail
  refine (idxH4 f caps bad a n c w hn hc0 z hz eg hf).mono ?_
  rintro e w1 ⟨r, rfl, hr, hB⟩
  have HR : Hid (decide (0 ≤ r) = anyB n bad) := hr
  clear hr
  go_wp2_with fail
  go_ret
  exact ⟨by rw [← HR.out]; rfl, hB⟩

set_option maxHeartbeats 400000 in
theorem idxM4 (f : Nat) (caps : Array Value) (bad : Nat → Bool)  (a : Option Addr) (n c : Nat) (w : World) (hn : n ≤ c) (hc : c ≤ maxLen) (z : Nat → Hd) (hz : HdsAt w a n z)
    (eg : ∀ args w, (callFunc f args).run Try.prog w = .ok (.enter f args) w)
    (hf : Hid (∀ i w1, i < n → Below w.heap.size w w1 → Calls Try.prog f (#[(z i).val] ++ caps) w1 fun e w' => e = .returned (.bool (bad i)) ∧ Below w1.heap.size w1 w')) :
    Calls Try.prog 112 #[.slice a n c, .func (.func f) #[] caps] w fun e w' => ∃ r : Int, e = .returned (.int .i64 r) ∧ decide (0 ≤ r) = anyB n bad ∧ Below w.heap.size w w' := by
  unfold maxLen at hc
  go_enter Try.func112, Try.ntmps112
  go_wp2_with fail
  go_loopw [8] (fun i w1 => ∃ k : Nat, k ≤ n ∧ i = .int .i64 k ∧ (∀ j, j < k → bad j = false) ∧ Below w.heap.size w w1) (fun i _ => n - (intOf i).toNat)
  case atStart => exact ⟨0, Nat.zero_le _, rfl, fun j hj => absurd hj (Nat.not_lt_zero _), Below.refl _ _⟩
  case round =>
    obtain ⟨k, hk, rfl, hno, hB⟩ := hrel
    have HN : Hid (∀ j, j < k → bad j = false) := hno
    clear hno
    by_cases hlt : k < n
    · obtain ⟨b, o, rfl, _, hcell0, hcell1, hcell2, hcell3⟩ := (hz.below hB) k hlt
      clear hz
      go_wp2_with fail
      refine (hf.out k wr hlt hB).mono ?_
      rintro e w1 ⟨rfl, hB1⟩
      have hB2 := hB.trans (hB1.mono hB.size)
      cases hbad : bad k
      · go_wp2_with fail
        go_roundw
        case rel =>
          refine ⟨k + 1, by omega, by go_num, ?_, hB2⟩
          intro j hj
          by_cases hjk : j = k
          · rw [hjk, hbad]
          · exact HN.out j (by omega)
        case measure => simp [intOf]; omega
      · go_wp2_with fail
        go_ret
        exact ⟨_, rfl, by rw [anyB_yes hlt hbad]; simp, hB2⟩
    · go_wp2_with fail
      go_ret
      have hkn : k = n := by omega
      subst hkn
      exact ⟨_, rfl, by rw [anyB_no HN.out]; decide, hB⟩

set_option maxHeartbeats 400000 in
theorem anyM4 (f : Nat) (caps : Array Value) (bad : Nat → Bool) (a : Option Addr) (n c : Nat) (w : World) (hn : n ≤ c) (hc : c ≤ maxLen) (z : Nat → Hd) (hz : HdsAt w a n z)
    (eg : ∀ args w, (callFunc f args).run Try.prog w = .ok (.enter f args) w)
    (hf : Hid (∀ i w1, i < n → Below w.heap.size w w1 → Calls Try.prog f (#[(z i).val] ++ caps) w1 fun e w' => e = .returned (.bool (bad i)) ∧ Below w1.heap.size w1 w')) :
    Calls Try.prog 78 #[.slice a n c, .func (.func f) #[] caps] w fun e w' => e = .returned (.bool (anyB n bad)) ∧ Below w.heap.size w w' := by
  have hc0 := hc
  unfold maxLen at hc
  go_enter Try.func78, Try.ntmps78
  go_wp2_with fail
  refine (idxM4 f caps bad a n c w hn hc0 z hz eg hf).mono ?_
  rintro e w1 ⟨r, rfl, hr, hB⟩
  have HR : Hid (decide (0 ≤ r) = anyB n bad) := hr
  clear hr
  go_wp2_with fail
  go_ret
  exact ⟨by rw [← HR.out]; rfl, hB⟩

end Go.Proofs.Ytjiodlbblmbibac

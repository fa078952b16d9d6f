/- What Check of a state asks part by part: the closures, and tooMany, badOrders, badMoves, badSums. -/
import Derived.Test.YtjiodlbblmbibacSW1
import Derived.Test.YtjiodlbblmbibacHW2
namespace Go.Proofs.Ytjiodlbblmbibac
open Go.RowKit Go.Shelf
set_option linter.unusedVariables false

set_option maxHeartbeats 400000 in
theorem tooMany1_any (x : Od) (w : World) :
    Calls Try.prog 72 #[x.val] w fun e w' => e = .returned (.bool (fewLines x)) ∧ Below w.heap.size w w' := by
  unfold fewLines Od.val
  go_enter Try.func72, Try.ntmps72
  go_wp2_with (go_at_call 55; refine calls_to (Within_any _ _ _ _) ?_)
  all_goals go_ret
  all_goals exact ⟨rfl, (Below.refl _ _).alloc (Nat.le_refl _) _⟩

set_option maxHeartbeats 1000000 in
theorem badOrders1_any (B : Nat) (p : Pl) (x : Hd) (w : World) (les : p.ns ≤ p.cs) (caps : p.cs ≤ maxLen) (hB : B < w.heap.size) (c1 : w.cell? ⟨B, 1, none⟩ = some (.slice p.sa p.ns p.cs)) :
    Calls Try.prog 74 #[x.val, .pointer (some ⟨B, 0, none⟩)] w fun e w' => e = .returned (.bool (badLine p x)) ∧ Below w.heap.size w w' := by
  have hns : p.ns ≤ maxLen := Nat.le_trans les caps
  unfold maxLen at caps
  unfold badLine Hd.val
  cases h1 : inB x.o 0 ((p.ns : Int) - 1)
  · go_enter Try.func74, Try.ntmps74
    go_wp2_with (first | (go_at_call 55; refine calls_to (Within_any _ _ _ _) ?_) | (go_at_call 30; refine calls_to (Has_any _ _ _ hns) ?_))
    all_goals go_ret
    all_goals exact ⟨by simp, (Below.refl _ _).alloc (Nat.le_refl _) _⟩
  · cases h2 : inB x.l 1 200
    · go_enter Try.func74, Try.ntmps74
      go_wp2_with (first | (go_at_call 55; refine calls_to (Within_any _ _ _ _) ?_) | (go_at_call 30; refine calls_to (Has_any _ _ _ hns) ?_))
      all_goals go_ret
      all_goals exact ⟨by simp, (Below.refl _ _).alloc (Nat.le_refl _) _⟩
    · cases h3 : inB x.b 0 x.l
      · go_enter Try.func74, Try.ntmps74
        go_wp2_with (first | (go_at_call 55; refine calls_to (Within_any _ _ _ _) ?_) | (go_at_call 30; refine calls_to (Has_any _ _ _ hns) ?_))
        all_goals go_ret
        all_goals exact ⟨by simp, (Below.refl _ _).alloc (Nat.le_refl _) _⟩
      · go_enter Try.func74, Try.ntmps74
        go_wp2_with (first | (go_at_call 55; refine calls_to (Within_any _ _ _ _) ?_) | (go_at_call 30; refine calls_to (Has_any _ _ _ hns) ?_))
        all_goals go_ret
        all_goals exact ⟨by simp, (Below.refl _ _).alloc (Nat.le_refl _) _⟩

set_option maxHeartbeats 1000000 in
theorem badMoves1_any (B : Nat) (p : Pl) (x : Hd) (w : World) (les : p.ns ≤ p.cs) (caps : p.cs ≤ maxLen) (leb : p.nb ≤ p.cb) (capb : p.cb ≤ maxLen) (hB : B < w.heap.size) (c0 : w.cell? ⟨B, 0, none⟩ = some (.slice p.ab p.nb p.cb)) (c1 : w.cell? ⟨B, 1, none⟩ = some (.slice p.sa p.ns p.cs)) :
    Calls Try.prog 79 #[x.val, .pointer (some ⟨B, 0, none⟩)] w fun e w' => e = .returned (.bool (badMove p x)) ∧ Below w.heap.size w w' := by
  have hns : p.ns ≤ maxLen := Nat.le_trans les caps
  have hnb : p.nb ≤ maxLen := Nat.le_trans leb capb
  unfold maxLen at caps capb
  unfold badMove Hd.val
  cases h1 : inB x.o 0 ((p.ns : Int) - 1)
  · go_enter Try.func79, Try.ntmps79
    go_wp2_with (first | (go_at_call 55; refine calls_to (Within_any _ _ _ _) ?_) | (go_at_call 30; first | refine calls_to (Has_any _ _ _ hns) ?_ | refine calls_to (Has_any _ _ _ hnb) ?_))
    all_goals go_ret
    all_goals exact ⟨by simp, (Below.refl _ _).alloc (Nat.le_refl _) _⟩
  cases h2 : inB x.l 0 ((p.nb : Int) - 1)
  · go_enter Try.func79, Try.ntmps79
    go_wp2_with (first | (go_at_call 55; refine calls_to (Within_any _ _ _ _) ?_) | (go_at_call 30; first | refine calls_to (Has_any _ _ _ hns) ?_ | refine calls_to (Has_any _ _ _ hnb) ?_))
    all_goals go_ret
    all_goals exact ⟨by simp, (Below.refl _ _).alloc (Nat.le_refl _) _⟩
  cases h3 : inB x.b 0 ((p.nb : Int) - 1)
  · go_enter Try.func79, Try.ntmps79
    go_wp2_with (first | (go_at_call 55; refine calls_to (Within_any _ _ _ _) ?_) | (go_at_call 30; first | refine calls_to (Has_any _ _ _ hns) ?_ | refine calls_to (Has_any _ _ _ hnb) ?_))
    all_goals go_ret
    all_goals exact ⟨by simp, (Below.refl _ _).alloc (Nat.le_refl _) _⟩
  cases h4 : (x.l == x.b)
  · go_enter Try.func79, Try.ntmps79
    go_wp2_with (first | (go_at_call 55; refine calls_to (Within_any _ _ _ _) ?_) | (go_at_call 30; first | refine calls_to (Has_any _ _ _ hns) ?_ | refine calls_to (Has_any _ _ _ hnb) ?_))
    all_goals go_ret
    all_goals exact ⟨by simp, (Below.refl _ _).alloc (Nat.le_refl _) _⟩
  · go_enter Try.func79, Try.ntmps79
    go_wp2_with (first | (go_at_call 55; refine calls_to (Within_any _ _ _ _) ?_) | (go_at_call 30; first | refine calls_to (Has_any _ _ _ hns) ?_ | refine calls_to (Has_any _ _ _ hnb) ?_))
    all_goals go_ret
    all_goals exact ⟨by simp, (Below.refl _ _).alloc (Nat.le_refl _) _⟩

set_option maxHeartbeats 400000 in
theorem badSums11_any (B : Nat) (x low : Int) (w : World) (c0 : w.cell? ⟨B, 0, none⟩ = some (.int .i64 low)) :
    Calls Try.prog 81 #[.int .i64 x, .pointer (some ⟨B, 0, none⟩)] w fun e w' => e = .returned (.bool (!inB x low 1048576)) ∧ w' = w := by
  go_enter Try.func81, Try.ntmps81
  go_wp2_with (go_at_call 55; refine calls_to (Within_any _ _ _ _) ?_)
  all_goals go_ret
  all_goals exact ⟨rfl, rfl⟩

set_option maxHeartbeats 1000000 in
theorem badSums1_any (B : Nat) (p : Pl) (r : Rw) (low : Int) (w : World) (hr : r.At w) (les : p.ns ≤ p.cs) (caps : p.cs ≤ maxLen) (hB : B < w.heap.size) (c1 : w.cell? ⟨B, 1, none⟩ = some (.slice p.sa p.ns p.cs)) :
    Calls Try.prog 80 #[.slice r.a r.n r.c, .int .i64 low, .pointer (some ⟨B, 0, none⟩)] w fun e w' => e = .returned (.bool (badSum p r low)) ∧ Below w.heap.size w w' := by
  have rcap0 := hr.cap
  have rle := hr.le
  have rcap := rcap0
  unfold maxLen at rcap caps
  have hB1 : Below w.heap.size w (w.alloc (.cells #[.int .i64 low] 3)) := (Below.refl w.heap.size w).alloc (Nat.le_refl _) _
  have ints := (hr.below hB1).ints
  cases h1 : ((r.n : Int) != (p.ns : Int))
  · go_enter Try.func80, Try.ntmps80
    go_wp2_with fail
    refine (anyI 81 #[.pointer (some ⟨w.heap.size, 0, none⟩)] (fun i => !inB (r.z i) low 1048576) _ _ _ _ rle rcap0 r.z ints (enters_of Try.func81 (by kernel_rfl) rfl) (fun i w1 _ h => (badSums11_any w.heap.size _ low w1 ((h.cell (p := ⟨w.heap.size, 0, none⟩) (by simp)).trans (by simp))).mono fun _ _ h => ⟨h.1, h.2 ▸ Below.refl _ _⟩)).mono ?_
    rintro e w1 ⟨rfl, hB2⟩
    go_wp2_with fail
    go_ret
    exact ⟨by simp [badSum, h1], hB1.trans (hB2.mono (by simp))⟩
  · go_enter Try.func80, Try.ntmps80
    go_wp2_with fail
    go_ret
    exact ⟨by simp [badSum, h1], hB1⟩

end Go.Proofs.Ytjiodlbblmbibac

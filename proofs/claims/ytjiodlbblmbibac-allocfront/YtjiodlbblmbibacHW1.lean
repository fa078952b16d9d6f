/- Holds: the small walks. -/
import Derived.Test.YtjiodlbblmbibacW5
import Derived.Test.YtjiodlbblmbibacH
import Derived.Test.YtjiodlbblmbibacR2
import Derived.Lib.QuietBelow
namespace Go.Proofs.Ytjiodlbblmbibac
open Go.RowKit Go.Shelf Go.Sort
set_option linter.unusedVariables false

set_option maxHeartbeats 400000 in
theorem Has_int (n k : Int) (w : World) (hn : 0 ≤ n ∧ n ≤ 1000) :
    Calls Try.prog 30 #[.int .i64 n, .int .i64 k] w fun e w' => e = .returned (.bool (inB k 0 (n - 1))) ∧ w' = w := by
  obtain ⟨m, rfl⟩ := Int.eq_ofNat_of_zero_le hn.1
  exact Has_any m k w (by unfold maxLen; omega)

set_option maxHeartbeats 400000 in
theorem rightAlone_any (x : Hd) (w : World) :
    Calls Try.prog 93 #[x.val] w fun e w' => e = .returned (.bool (fineH x)) ∧ Below w.heap.size w w' := by
  unfold fineH Hd.val
  go_enter Try.func93, Try.ntmps93
  go_wp2_with (first | (go_at_call 30; refine calls_to (Has_int _ _ _ (by omega)) ?_) | (go_at_call 55; refine calls_to (Within_any _ _ _ _) ?_))
  all_goals go_ret
  all_goals exact ⟨by simp [*], (Below.refl _ _).alloc (Nat.le_refl _) _⟩

set_option maxHeartbeats 400000 in
theorem holdFine_any (x : Hd) (w : World) :
    Calls Try.prog 125 #[x.val] w fun e w' => e = .returned (.bool (fineH x)) ∧ Below w.heap.size w w' := by
  unfold fineH Hd.val
  go_enter Try.func125, Try.ntmps125
  go_wp2_with (go_at_call 48; refine calls_to (within_any _ _ _ _) ?_)
  all_goals go_ret
  all_goals exact ⟨by simp [*], (Below.refl _ _).alloc (Nat.le_refl _) _⟩

set_option maxHeartbeats 400000 in
theorem place_any (x : Hd) (w : World) (h : fineH x = true) :
    Calls Try.prog 123 #[x.val] w fun e w' => e = .returned (.int .i64 (keyH x)) ∧ Below w.heap.size w w' := by
  have a := fineH_true h
  unfold keyH Hd.val
  go_enter Try.func123, Try.ntmps123
  go_wp2
  go_ret
  exact ⟨rfl, (Below.refl _ _).alloc (Nat.le_refl _) _⟩

set_option maxHeartbeats 400000 in
theorem Compare_any (x y : Int) (w : World) :
    Calls Try.prog 116 #[.int .i64 x, .int .i64 y] w fun e w' => e = .returned (.int .i64 (cmpI x y)) ∧ w' = w := by
  unfold cmpI
  by_cases h1 : x < y
  · go_enter Try.func116, Try.ntmps116
    go_wp2
    go_ret
    exact ⟨by simp, rfl⟩
  by_cases h2 : y < x
  · go_enter Try.func116, Try.ntmps116
    go_wp2
    go_ret
    exact ⟨by simp, rfl⟩
  · go_enter Try.func116, Try.ntmps116
    go_wp2
    go_ret
    exact ⟨by simp, rfl⟩

set_option maxHeartbeats 400000 in
theorem Or_any (g : Nat) (a b c : Int) (w : World) (h : Blk w g 3 3 (fun j => (#[.int .i64 a, .int .i64 b, .int .i64 c] : Array Value).getD j default)) :
    Calls Try.prog 115 #[.slice (some ⟨g, 0, none⟩) 3 3] w fun e w' => e = .returned (.int .i64 (orI a b c)) ∧ w' = w := by
  have c0 : w.cell? ⟨g, 0, none⟩ = some (.int .i64 a) := h.cell (j := 0) (by decide)
  have c1 : w.cell? ⟨g, 1, none⟩ = some (.int .i64 b) := h.cell (j := 1) (by decide)
  have c2 : w.cell? ⟨g, 2, none⟩ = some (.int .i64 c) := h.cell (j := 2) (by decide)
  clear h
  unfold orI
  go_enter Try.func115, Try.ntmps115
  go_wp2
  go_loop [8] (fun i => ∃ k : Nat, k ≤ 3 ∧ i = .int .i64 k ∧ (1 ≤ k → a = 0) ∧ (2 ≤ k → b = 0) ∧ (3 ≤ k → c = 0)) (fun i => 3 - (intOf i).toNat)
  case atStart => exact ⟨0, by omega, rfl, fun h => by omega, fun h => by omega, fun h => by omega⟩
  case round =>
    obtain ⟨k, hk, rfl, ha, hb, hc⟩ := hrel
    have HA : Hid _ := And.intro ha (And.intro hb hc)
    clear ha hb hc
    have hk4 : k = 0 ∨ k = 1 ∨ k = 2 ∨ k = 3 := by omega
    rcases hk4 with rfl | rfl | rfl | rfl
    · cases h0 : (a != 0)
      · have h0' : a = 0 := by simpa using h0
        have H0 : Hid (a = 0) := h0'
        clear h0'
        go_wp2
        go_round
        case rel => exact ⟨1, by omega, by go_num, fun _ => H0.out, fun h => by omega, fun h => by omega⟩
        case measure => simp [intOf]
      · have h0' : ¬ a = 0 := by simpa using h0
        go_wp2
        go_ret
        exact ⟨by simp, rfl⟩
    · have h1 := HA.out.1 (by omega)
      have H1 : Hid (a = 0) := h1
      clear h1
      cases h0 : (b != 0)
      · have h0' : b = 0 := by simpa using h0
        have H0 : Hid (b = 0) := h0'
        clear h0'
        go_wp2
        go_round
        case rel => exact ⟨2, by omega, by go_num, fun _ => H1.out, fun _ => H0.out, fun h => by omega⟩
        case measure => simp [intOf]
      · have h0' : ¬ b = 0 := by simpa using h0
        go_wp2
        go_ret
        exact ⟨by simp, rfl⟩
    · have H1 : Hid (a = 0) := HA.out.1 (by omega)
      have H2 : Hid (b = 0) := HA.out.2.1 (by omega)
      cases h0 : (c != 0)
      · have h0' : c = 0 := by simpa using h0
        have H0 : Hid (c = 0) := h0'
        clear h0'
        go_wp2
        go_round
        case rel => exact ⟨3, by omega, by go_num, fun _ => H1.out, fun _ => H2.out, fun _ => H0.out⟩
        case measure => simp [intOf]
      · have h0' : ¬ c = 0 := by simpa using h0
        go_wp2
        go_ret
        exact ⟨by simp, rfl⟩
    · have H1 : Hid (a = 0) := HA.out.1 (by omega)
      have H2 : Hid (b = 0) := HA.out.2.1 (by omega)
      have H3 : Hid (c = 0) := HA.out.2.2 (by omega)
      go_wp2
      go_ret
      exact ⟨by simp [H3.out], rfl⟩

set_option maxHeartbeats 1000000 in
theorem compare_any (x y : Hd) (w : World) :
    Calls Try.prog 95 #[x.val, y.val] w fun e w' => e = .returned (.int .i64 (cmpH x y)) ∧ Below w.heap.size w w' := by
  unfold cmpH Hd.val
  have F : ∃ W, (w.alloc (.cells #[.int .i64 x.o, .int .i64 x.l, .int .i64 x.b, .int .i64 x.n] 65)).alloc (.cells #[.int .i64 y.o, .int .i64 y.l, .int .i64 y.b, .int .i64 y.n] 65) = W ∧ Below w.heap.size w W ∧
      (W.cell? ⟨w.heap.size, 0, none⟩ = some (.int .i64 x.o) ∧ W.cell? ⟨w.heap.size, 1, none⟩ = some (.int .i64 x.l) ∧ W.cell? ⟨w.heap.size, 2, none⟩ = some (.int .i64 x.b)) ∧
      (W.cell? ⟨w.heap.size + 1, 0, none⟩ = some (.int .i64 y.o) ∧ W.cell? ⟨w.heap.size + 1, 1, none⟩ = some (.int .i64 y.l) ∧ W.cell? ⟨w.heap.size + 1, 2, none⟩ = some (.int .i64 y.b)) := by
    refine ⟨_, rfl, ((Below.refl _ _).alloc (Nat.le_refl _) _).alloc (by simp) _, ?_, ?_⟩
    · exact ⟨by simp, by simp, by simp⟩
    · exact ⟨by simp, by simp, by simp⟩
  obtain ⟨W, hW, hB0, ⟨x0, x1, x2⟩, y0, y1, y2⟩ := F
  have HW : Hid _ := hW
  clear hW
  go_enter Try.func95, Try.ntmps95
  go_wp2_with fail
  rw [HW.out]
  clear HW
  have e0 : ∀ d os, (grow (redrawn W d) os).cell? ⟨w.heap.size, 0, none⟩ = some (.int .i64 x.o) := fun d os => cell_regrown x0 d os
  have e1 : ∀ d os, (grow (redrawn W d) os).cell? ⟨w.heap.size, 1, none⟩ = some (.int .i64 x.l) := fun d os => cell_regrown x1 d os
  have e2 : ∀ d os, (grow (redrawn W d) os).cell? ⟨w.heap.size, 2, none⟩ = some (.int .i64 x.b) := fun d os => cell_regrown x2 d os
  have f0 : ∀ d os, (grow (redrawn W d) os).cell? ⟨w.heap.size + 1, 0, none⟩ = some (.int .i64 y.o) := fun d os => cell_regrown y0 d os
  have f1 : ∀ d os, (grow (redrawn W d) os).cell? ⟨w.heap.size + 1, 1, none⟩ = some (.int .i64 y.l) := fun d os => cell_regrown y1 d os
  have f2 : ∀ d os, (grow (redrawn W d) os).cell? ⟨w.heap.size + 1, 2, none⟩ = some (.int .i64 y.b) := fun d os => cell_regrown y2 d os
  refine wp_region_ordS (fun w' => ∃ p : Regrown, w' = grow (redrawn W p.d) p.os)
    ([0, 1, 2, 3, 5, 6, 7, 8, 10, 11, 12, 13].map (fun k => (true, k)) ++ [(false, 4), (false, 9), (false, 14), (false, 15), (false, 16), (false, 17)]) (by kernel_rfl) (by kernel_rfl) (by kernel_rfl) (by kernel_rfl) (regrown_of_below ((Below.refl _ _).drew)) ?_
  refine wpOrdS_first 0 rfl rfl ?_
  go_big_quiet_step (fail)
  refine wpQuiet_nil ?_
  refine wpOrdS_first 1 rfl rfl ?_
  go_big_quiet_step (fail)
  refine wpQuiet_nil ?_
  refine wpOrdS_first 2 rfl rfl ?_
  go_big_quiet_step (fail)
  refine wpQuiet_nil ?_
  refine wpOrdS_first 3 rfl rfl ?_
  go_big_quiet_step (fail)
  refine wpQuiet_nil ?_
  refine wpOrdS_first 5 rfl rfl ?_
  go_big_quiet_step (fail)
  refine wpQuiet_nil ?_
  refine wpOrdS_first 6 rfl rfl ?_
  go_big_quiet_step (fail)
  refine wpQuiet_nil ?_
  refine wpOrdS_first 7 rfl rfl ?_
  go_big_quiet_step (fail)
  refine wpQuiet_nil ?_
  refine wpOrdS_first 8 rfl rfl ?_
  go_big_quiet_step (fail)
  refine wpQuiet_nil ?_
  refine wpOrdS_first 10 rfl rfl ?_
  go_big_quiet_step (fail)
  refine wpQuiet_nil ?_
  refine wpOrdS_first 11 rfl rfl ?_
  go_big_quiet_step (fail)
  refine wpQuiet_nil ?_
  refine wpOrdS_first 12 rfl rfl ?_
  go_big_quiet_step (fail)
  refine wpQuiet_nil ?_
  refine wpOrdS_first 13 rfl rfl ?_
  go_big_quiet_step (fail)
  refine wpQuiet_nil ?_
  refine wpOrdS_one 4 (by decide) ?_
  simp only [List.drop_succ_cons, List.drop_zero, List.take_succ_cons, List.take_zero]
  go_wp2_with (go_at_call 116; refine calls_to (Compare_any _ _ _) ?_)
  refine ⟨regrown_of_below ((Below.refl _ _).drew), ?_⟩
  refine wpOrdS_one 9 (by decide) ?_
  simp only [List.drop_succ_cons, List.drop_zero, List.take_succ_cons, List.take_zero]
  go_wp2_with (go_at_call 116; refine calls_to (Compare_any _ _ _) ?_)
  refine ⟨regrown_of_below ((Below.refl _ _).drew), ?_⟩
  refine wpOrdS_one 14 (by decide) ?_
  simp only [List.drop_succ_cons, List.drop_zero, List.take_succ_cons, List.take_zero]
  go_wp2_with (go_at_call 116; refine calls_to (Compare_any _ _ _) ?_)
  refine ⟨regrown_of_below ((Below.refl _ _).drew), ?_⟩
  generalize hA : cmpI x.o y.o = A
  generalize hBB : cmpI x.l y.l = B
  generalize hC : cmpI x.b y.b = C
  have HA : Hid (cmpI x.o y.o = A) := hA
  have HB : Hid (cmpI x.l y.l = B) := hBB
  have HC : Hid (cmpI x.b y.b = C) := hC
  clear hA hBB hC
  refine wpOrdS_one 15 (by decide) ?_
  simp only [List.drop_succ_cons, List.drop_zero, List.take_succ_cons, List.take_zero]
  go_wp2_with fail
  have hD : Below W.heap.size W (W.alloc (.cells #[.int .i64 A, .int .i64 B, .int .i64 C] 3)).drew := ((Below.refl _ _).alloc (Nat.le_refl _) _).drew
  refine ⟨regrown_of_below hD, ?_⟩
  refine wpOrdS_one 16 (by decide) ?_
  simp only [List.drop_succ_cons, List.drop_zero, List.take_succ_cons, List.take_zero]
  go_wp2_with fail
  refine calls_to (Or_any W.heap.size A B C _ (Blk.below (Blk.mk' rfl rfl) ((Below.refl _ _).drew))) ?_
  go_wp2_with fail
  refine ⟨regrown_of_below hD, ?_⟩
  refine wpOrdS_one 17 (by decide) ?_
  simp only [List.drop_succ_cons, List.drop_zero, List.take_succ_cons, List.take_zero]
  go_wp2_with fail
  refine ⟨regrown_of_below hD, ?_⟩
  refine NoPanic.normal ?_
  go_wp2_with fail
  go_ret
  exact ⟨by rw [HA.out, HB.out, HC.out]; rfl, hB0.trans (hD.mono hB0.size)⟩

end Go.Proofs.Ytjiodlbblmbibac

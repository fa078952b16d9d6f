/- ShelfTells: the walk. -/
import Derived.Test.YtklikhcopfhgaaaW9
import Derived.Lib.QuietBelow
namespace Go.Proofs.Ytklikhcopfhgaaa
open Go.RowKit Go.Shelf Go.Sort
set_option linter.unusedVariables false

theorem shelfErr_used {p : Pl} {s : Sh} {bin : Int} : shelfErr p s bin 0 = usedE p s bin := by
  unfold shelfErr usedE
  by_cases h0 : shelfE p s = 0
  · have r := (rightS h0).2
    have h1 : inB 0 0 ((p.ns : Int) - 1) = true := inB_mk (by have := r.pl.ns1; omega)
    simp [h0, h1, r.n]
  · simp [h0]
theorem shelfErr_sum {p : Pl} {s : Sh} {good : Int} : shelfErr p s 0 good = sumE p s good := by
  unfold shelfErr sumE
  by_cases h0 : shelfE p s = 0
  · have r := (rightS h0).2
    have h1 : inB 0 0 ((p.nb : Int) - 1) = true := inB_mk (by have := r.pl.nb1; omega)
    simp [h0, h1]
  · simp [h0]

theorem usedE_zero {p : Pl} {s : Sh} {bin : Int} (h : usedE p s bin = 0) : RightS p s ∧ ∃ m : Nat, bin = m ∧ m < s.n ∧ usedV p s bin = usedTo (s.r m).z p.zs p.ns := by
  have hE := h
  unfold usedE at h
  by_cases h0 : shelfE p s = 0
  · cases h1 : inB bin 0 ((s.n : Int) - 1)
    · simp [h0, h1] at h
    · obtain ⟨m, rfl⟩ := Int.eq_ofNat_of_zero_le (inB_true h1).1
      have := (inB_true h1).2
      exact ⟨(rightS h0).2, m, rfl, by omega, by simp [usedV, hE]⟩
  · simp [h0] at h
theorem sumE_zero {p : Pl} {s : Sh} {good : Int} (h : sumE p s good = 0) : RightS p s ∧ ∃ m : Nat, good = m ∧ m < p.ns ∧ sumV p s good = sumTo (fun i => (s.r i).z m) s.n := by
  have hE := h
  unfold sumE at h
  by_cases h0 : shelfE p s = 0
  · cases h1 : inB good 0 ((p.ns : Int) - 1)
    · simp [h0, h1] at h
    · obtain ⟨m, rfl⟩ := Int.eq_ofNat_of_zero_le (inB_true h1).1
      have := (inB_true h1).2
      exact ⟨(rightS h0).2, m, rfl, by omega, by simp [sumV, hE]⟩
  · simp [h0] at h
theorem UsedOf_law (p : Pl) (s : Sh) (bin : Int) (w : World) (hp : p.At w) (hs : s.At w) (h : usedE p s bin = 0) :
    Calls Try.prog 18 #[p.val, s.val, .int .i64 bin] w fun e w' => e = .returned (.int .i64 (usedV p s bin)) ∧ Below w.heap.size w w' := by
  obtain ⟨r, m, rfl, hm, hv⟩ := usedE_zero h
  rw [hv]
  exact UsedOf_any p s m w hp hs r hm
theorem SumOf_law (p : Pl) (s : Sh) (good : Int) (w : World) (hs : s.At w) (h : sumE p s good = 0) :
    Calls Try.prog 19 #[s.val, .int .i64 good] w fun e w' => e = .returned (.int .i64 (sumV p s good)) ∧ Below w.heap.size w w' := by
  obtain ⟨r, m, rfl, hm, hv⟩ := sumE_zero h
  rw [hv]
  exact SumOf_any p s m w hs r hm

set_option maxHeartbeats 2000000 in
theorem ShelfTells_any (hbeg : Hid (∀ w, Calls Try.prog 20 #[] w fun e w' => e = .returned (.bool true) ∧ Below w.heap.size w w'))
    (p : Pl) (s : Sh) (bin good : Int) (w : World) (hp : p.At w) (hs : s.At w) :
    Calls Try.prog 5 #[p.val, s.val, .int .i64 bin, .int .i64 good] w fun e w' => e = .returned (.bool true) ∧ Below w.heap.size w w' := by
  have hB0 : Below w.heap.size w (w.alloc (.cells #[.slice p.ab p.nb p.cb, .slice p.sa p.ns p.cs] 25)) := (Below.refl w.heap.size w).alloc (Nat.le_refl _) _
  have hBv : Below (w.heap.size + 1) (w.alloc (.cells #[.slice p.ab p.nb p.cb, .slice p.sa p.ns p.cs] 25)) (w.alloc (.cells #[.slice p.ab p.nb p.cb, .slice p.sa p.ns p.cs] 25)) := Below.refl _ _
  have hCell : Hid (∀ w1, Below (w.heap.size + 1) (w.alloc (.cells #[.slice p.ab p.nb p.cb, .slice p.sa p.ns p.cs] 25)) w1 → w1.cell? ⟨w.heap.size, 0, none⟩ = some (.slice p.ab p.nb p.cb) ∧ w1.cell? ⟨w.heap.size, 1, none⟩ = some (.slice p.sa p.ns p.cs) ∧ w.heap.size < w1.heap.size) := fun w1 h => ⟨(h.cell (p := ⟨w.heap.size, 0, none⟩) (by simp)).trans (by simp), (h.cell (p := ⟨w.heap.size, 1, none⟩) (by simp)).trans (by simp), by have := h.size; simp at this; omega⟩
  simp only [Pl.val, Sh.val]
  go_enter Try.func5, Try.ntmps5
  go_wp2_with fail
  refine (Used_any p s bin _ (hp.below hB0) (hs.below hB0)).mono ?_
  rintro e w1 ⟨rfl, hB⟩
  have hBw := hB0.trans (hB.mono (by simp))
  have hBv := hBv.trans (hB.mono (by simp))
  obtain ⟨c0, c1, hsz⟩ := hCell.out w1 hBv
  clear hB
  go_wp2_with fail
  refine (Sum_any p s good _ (hp.below hBw) (hs.below hBw)).mono ?_
  rintro e w2 ⟨rfl, hB⟩
  have hBw := hBw.trans (hB.mono hBw.size)
  have hBv := hBv.trans (hB.mono (by omega))
  obtain ⟨c0, c1, hsz⟩ := hCell.out w2 hBv
  clear hB
  go_wp2_with fail
  refine (ShelfError_any p s bin 0 _ (hp.below hBw) (hs.below hBw)).mono ?_
  rintro e w3 ⟨rfl, hB⟩
  have hBw := hBw.trans (hB.mono hBw.size)
  have hBv := hBv.trans (hB.mono (by omega))
  obtain ⟨c0, c1, hsz⟩ := hCell.out w3 hBv
  clear hB
  go_wp2_with fail
  refine (ShelfError_any p s 0 good _ (hp.below hBw) (hs.below hBw)).mono ?_
  rintro e w4 ⟨rfl, hB⟩
  have hBw := hBw.trans (hB.mono hBw.size)
  have hBv := hBv.trans (hB.mono (by omega))
  obtain ⟨c0, c1, hsz⟩ := hCell.out w4 hBv
  clear hB
  rw [shelfErr_used, shelfErr_sum]
  have hu0 : ¬ usedE p s bin = 0 → usedV p s bin = 0 := fun h => by simp [usedV, h]
  have hv0 : ¬ sumE p s good = 0 → sumV p s good = 0 := fun h => by simp [sumV, h]
  have HU : Hid _ := hu0
  have HV : Hid _ := hv0
  clear hu0 hv0
  by_cases hu : usedE p s bin = 0
  · go_wp2_with fail
    refine (UsedOf_law p s bin _ (hp.below hBw) (hs.below hBw) hu).mono ?_
    rintro e w5 ⟨rfl, hB⟩
    have hBw := hBw.trans (hB.mono hBw.size)
    have hBv := hBv.trans (hB.mono (by omega))
    obtain ⟨c0, c1, hsz⟩ := hCell.out w5 hBv
    clear hB
    by_cases hv : sumE p s good = 0
    · go_wp2_with fail
      refine (SumOf_law p s good _ (hs.below hBw) hv).mono ?_
      rintro e w6 ⟨rfl, hB⟩
      have hBw := hBw.trans (hB.mono hBw.size)
      have hBv := hBv.trans (hB.mono (by omega))
      obtain ⟨c0, c1, hsz⟩ := hCell.out w6 hBv
      clear hB
      go_wp2_with fail
      have hpz := hp.below hBw
      have hsz2 := hs.below hBw
      have r0 : ∀ d os, (grow (redrawn w6 d) os).cell? ⟨w.heap.size, 0, none⟩ = some (.slice p.ab p.nb p.cb) := fun d os => cell_regrown c0 d os
      have r1 : ∀ d os, (grow (redrawn w6 d) os).cell? ⟨w.heap.size, 1, none⟩ = some (.slice p.sa p.ns p.cs) := fun d os => cell_regrown c1 d os
      refine wp_region_quiet_below (by kernel_rfl) (by kernel_rfl) ?_
      repeat (go_big_quiet_step (first | (go_at_call 20; exact Calls.regrown_of (hbeg.out _)) | (go_at_call 21; exact Calls.regrown_of (shelfCheck_any p s _ (hpz.below (below_regrown _ _ _)) (hsz2.below (below_regrown _ _ _)))) | (go_at_call 22; exact Calls.regrown_of (refCheckShelf_any p s _ (hpz.below (below_regrown _ _ _)) (hsz2.below (below_regrown _ _ _))))))
      refine wpQuiet_nil ?_
      intro _ hw'
      obtain ⟨⟨dq, osq⟩, hw''⟩ := hw'
      subst hw''
      go_wp2_with fail
      go_ret
      exact ⟨rfl, hBw.trans ((below_regrown _ _ _).mono hBw.size)⟩
    · have hv1 := HV.out hv
      rw [hv1]
      go_wp2_with fail
      have hpz := hp.below hBw
      have hsz2 := hs.below hBw
      have r0 : ∀ d os, (grow (redrawn w5 d) os).cell? ⟨w.heap.size, 0, none⟩ = some (.slice p.ab p.nb p.cb) := fun d os => cell_regrown c0 d os
      have r1 : ∀ d os, (grow (redrawn w5 d) os).cell? ⟨w.heap.size, 1, none⟩ = some (.slice p.sa p.ns p.cs) := fun d os => cell_regrown c1 d os
      refine wp_region_quiet_below (by kernel_rfl) (by kernel_rfl) ?_
      repeat (go_big_quiet_step (first | (go_at_call 20; exact Calls.regrown_of (hbeg.out _)) | (go_at_call 21; exact Calls.regrown_of (shelfCheck_any p s _ (hpz.below (below_regrown _ _ _)) (hsz2.below (below_regrown _ _ _)))) | (go_at_call 22; exact Calls.regrown_of (refCheckShelf_any p s _ (hpz.below (below_regrown _ _ _)) (hsz2.below (below_regrown _ _ _))))))
      refine wpQuiet_nil ?_
      intro _ hw'
      obtain ⟨⟨dq, osq⟩, hw''⟩ := hw'
      subst hw''
      go_wp2_with fail
      go_ret
      exact ⟨rfl, hBw.trans ((below_regrown _ _ _).mono hBw.size)⟩
  · have hu1 := HU.out hu
    rw [hu1]
    by_cases hv : sumE p s good = 0
    · go_wp2_with fail
      refine (SumOf_law p s good _ (hs.below hBw) hv).mono ?_
      rintro e w6 ⟨rfl, hB⟩
      have hBw := hBw.trans (hB.mono hBw.size)
      have hBv := hBv.trans (hB.mono (by omega))
      obtain ⟨c0, c1, hsz⟩ := hCell.out w6 hBv
      clear hB
      go_wp2_with fail
      have hpz := hp.below hBw
      have hsz2 := hs.below hBw
      have r0 : ∀ d os, (grow (redrawn w6 d) os).cell? ⟨w.heap.size, 0, none⟩ = some (.slice p.ab p.nb p.cb) := fun d os => cell_regrown c0 d os
      have r1 : ∀ d os, (grow (redrawn w6 d) os).cell? ⟨w.heap.size, 1, none⟩ = some (.slice p.sa p.ns p.cs) := fun d os => cell_regrown c1 d os
      refine wp_region_quiet_below (by kernel_rfl) (by kernel_rfl) ?_
      repeat (go_big_quiet_step (first | (go_at_call 20; exact Calls.regrown_of (hbeg.out _)) | (go_at_call 21; exact Calls.regrown_of (shelfCheck_any p s _ (hpz.below (below_regrown _ _ _)) (hsz2.below (below_regrown _ _ _)))) | (go_at_call 22; exact Calls.regrown_of (refCheckShelf_any p s _ (hpz.below (below_regrown _ _ _)) (hsz2.below (below_regrown _ _ _))))))
      refine wpQuiet_nil ?_
      intro _ hw'
      obtain ⟨⟨dq, osq⟩, hw''⟩ := hw'
      subst hw''
      go_wp2_with fail
      go_ret
      exact ⟨rfl, hBw.trans ((below_regrown _ _ _).mono hBw.size)⟩
    · have hv1 := HV.out hv
      rw [hv1]
      go_wp2_with fail
      have hpz := hp.below hBw
      have hsz2 := hs.below hBw
      have r0 : ∀ d os, (grow (redrawn w4 d) os).cell? ⟨w.heap.size, 0, none⟩ = some (.slice p.ab p.nb p.cb) := fun d os => cell_regrown c0 d os
      have r1 : ∀ d os, (grow (redrawn w4 d) os).cell? ⟨w.heap.size, 1, none⟩ = some (.slice p.sa p.ns p.cs) := fun d os => cell_regrown c1 d os
      refine wp_region_quiet_below (by kernel_rfl) (by kernel_rfl) ?_
      repeat (go_big_quiet_step (first | (go_at_call 20; exact Calls.regrown_of (hbeg.out _)) | (go_at_call 21; exact Calls.regrown_of (shelfCheck_any p s _ (hpz.below (below_regrown _ _ _)) (hsz2.below (below_regrown _ _ _)))) | (go_at_call 22; exact Calls.regrown_of (refCheckShelf_any p s _ (hpz.below (below_regrown _ _ _)) (hsz2.below (below_regrown _ _ _))))))
      refine wpQuiet_nil ?_
      intro _ hw'
      obtain ⟨⟨dq, osq⟩, hw''⟩ := hw'
      subst hw''
      go_wp2_with fail
      go_ret
      exact ⟨rfl, hBw.trans ((below_regrown _ _ _).mono hBw.size)⟩

theorem ShelfTells_walk (p : Pl) (s : Sh) (bin good : Int) (w : World) (hp : p.At w) (hs : s.At w) :
    Calls Try.prog 5 #[p.val, s.val, .int .i64 bin, .int .i64 good] w fun e w' => e = .returned (.bool true) ∧ Below w.heap.size w w' :=
  ShelfTells_any shelfBegun_any p s bin good w hp hs

end Go.Proofs.Ytklikhcopfhgaaa

/- StateTrue: the walk. -/
import Derived.Test.YtklikhcopfhgaabSW12
namespace Go.Proofs.Ytklikhcopfhgaab
open Go.RowKit Go.Shelf Go.Sort
set_option linter.unusedVariables false

/-- Of a right state: what is to be had is from 0 to what lies there; the sum is what the sums say. -/
theorem right_good {p : Pl} {s : St} (r : RightT p s) {b g : Nat} (hb : b < p.nb) (hg : g < p.ns) :
    0 ≤ availZ s b g ∧ availZ s b g ≤ (s.on.r b).z g ∧ sumTo (fun i => (s.on.r i).z g) s.on.n = s.si.z g - s.so.z g + s.sf.z g := by
  have h := r.goods g hg
  rw [wrongGood_eq, Bool.or_eq_false_iff] at h
  have h1 : ¬ availZ s b g < 0 := of_decide_eq_false (anyB_false h.2 b hb)
  have h2 : sumTo (fun i => (s.on.r i).z g) s.on.n = s.si.z g - s.so.z g + s.sf.z g := by simpa using h.1
  have h3 := heldTo_bd (s := s) (b := b) (g := g) r.fm.holdN
  have h4 := fromTo_bd (s := s) (b := b) (g := g) r.fm.moveN
  refine ⟨by omega, ?_, h2⟩
  unfold availZ
  omega
theorem availE_zero {p : Pl} {s : St} {bin good : Int} (h0 : stateE p s = 0) (h : availE p s bin good = 0) : ∃ b g : Nat, bin = b ∧ good = g ∧ b < p.nb ∧ g < p.ns ∧ availV p s bin good = availZ s b g := by
  have hE := h
  unfold availE at h
  rw [if_pos h0] at h
  cases h1 : inB bin 0 ((p.nb : Int) - 1)
  · rw [h1] at h; simp at h
  · cases h2 : inB good 0 ((p.ns : Int) - 1)
    · rw [h2] at h; simp at h
    · obtain ⟨b, rfl⟩ := Int.eq_ofNat_of_zero_le (inB_true h1).1
      obtain ⟨g, rfl⟩ := Int.eq_ofNat_of_zero_le (inB_true h2).1
      have := (inB_true h1).2
      have := (inB_true h2).2
      exact ⟨b, g, rfl, rfl, by omega, by omega, by unfold availV; rw [if_pos hE]; rfl⟩

set_option maxRecDepth 100000 in
set_option maxHeartbeats 8000000 in
theorem StateTrue_walk (p : Pl) (s : St) (bin good : Int) (w : World) (hp : p.At w) (hs : s.At w) :
    Calls Try.prog 8 #[p.val, s.val, .int .i64 bin, .int .i64 good] w fun e w' => e = .returned (.bool true) ∧ Below w.heap.size w w' := by
  obtain ⟨W0, hW, hWB, X0⟩ : ∃ W, ((w.alloc (.cells #[.slice p.ab p.nb p.cb, .slice p.sa p.ns p.cs] 40)).alloc (.cells s.cells 45)) = W ∧ Below w.heap.size w W ∧ Boxes W w.heap.size (w.heap.size + 1) p s := ⟨_, rfl, two_below _ _ _, boxes_new w p s _ _⟩
  have HC : Hid (∀ wk, Below W0.heap.size W0 wk → Boxes wk w.heap.size (w.heap.size + 1) p s ∧ p.At wk ∧ s.At wk ∧ Below w.heap.size w wk) := fun wk h => ⟨X0.below h, (hp.below hWB).below h, (hs.below hWB).below h, hWB.trans (h.mono hWB.size)⟩
  have HW : Hid ((w.alloc (.cells #[.slice p.ab p.nb p.cb, .slice p.sa p.ns p.cs] 40)).alloc (.cells #[.slice s.on.a s.on.n s.on.c, .slice s.os.a s.os.n s.os.c, .slice s.hs.a s.hs.n s.hs.c, .slice s.ms.a s.ms.n s.ms.c, .slice s.si.a s.si.n s.si.c, .slice s.so.a s.so.n s.so.c, .slice s.sf.a s.sf.n s.sf.c] 45) = W0) := hW
  clear hW X0
  unfold Pl.val St.val
  go_enter Try.func8, Try.ntmps8
  go_wp2_with fail
  rw [HW.out]
  obtain ⟨X, hpk, hsk, hBw⟩ := HC.out W0 (Below.refl _ _)
  refine (stateCheck_any p s W0 hpk hsk).mono ?_
  rintro e w1 ⟨rfl, hB⟩
  clear X hpk hsk hBw
  obtain ⟨X, hpk, hsk, hBw⟩ := HC.out w1 hB
  obtain ⟨⟨l1, d0, d1⟩, l2, c0, c1, c2, c3, c4, c5, c6⟩ := X
  by_cases h0 : stateE p s = 0
  · have HR : Hid (RightT p s) := rightT h0
    have H0 : Hid (stateE p s = 0) := h0
    rw [h0]
    clear h0
    go_wp2_with fail
    refine (Avail_any p s bin good w1 hpk hsk).mono ?_
    rintro e w2 ⟨rfl, hB2⟩
    have hBn := hB.trans (hB2.mono hB.size)
    clear hB hB2 l1 d0 d1 l2 c0 c1 c2 c3 c4 c5 c6 hpk hsk hBw
    obtain ⟨X, hpk, hsk, hBw⟩ := HC.out w2 hBn
    obtain ⟨⟨l1, d0, d1⟩, l2, c0, c1, c2, c3, c4, c5, c6⟩ := X
    by_cases h1 : availE p s bin good = 0
    · obtain ⟨b, g, rfl, rfl, hb, hg, hv⟩ := availE_zero H0.out h1
      rw [h1, hv]
      obtain ⟨a1, a2, a3⟩ := right_good HR.out hb hg
      obtain ⟨hs0, hsv⟩ := sum_ok HR.out.fm.sh0 hg
      clear h1 hv
      generalize availZ s b g = AV at *
      go_wp2_with fail
      refine (Sum_any p s.on g w2 hpk hsk.on).mono ?_
      rintro e w3 ⟨rfl, hB3⟩
      rw [hs0, hsv, a3]
      have hB := hBn.trans (hB3.mono hBn.size)
      clear hs0 hsv a3 hB3 hBn l1 d0 d1 l2 c0 c1 c2 c3 c4 c5 c6 hpk hsk hBw
      obtain ⟨X, hpk, hsk, hBw⟩ := HC.out w3 hB
      obtain ⟨⟨l1, d0, d1⟩, l2, c0, c1, c2, c3, c4, c5, c6⟩ := X
      have F := HR.out.fm
      obtain ⟨bo, oo, hoa, hbo, y0, hrow⟩ := hsk.on.rows b (by rw [F.sh.n]; exact hb)
      obtain ⟨br, orr, hra, hbr, y1⟩ := hrow.ints g (by rw [F.sh.len b (by rw [F.sh.n]; exact hb)]; exact hg)
      obtain ⟨b1, o1, e1, g1, z1⟩ := hsk.si.ints g (by rw [F.sin]; exact hg)
      obtain ⟨b2, o2, e2, g2, z2⟩ := hsk.so.ints g (by rw [F.son]; exact hg)
      obtain ⟨b3, o3, e3, g3, z3⟩ := hsk.sf.ints g (by rw [F.sfn]; exact hg)
      have v1 := hsk.si.le
      have v2 := hsk.so.le
      have v3 := hsk.sf.le
      have v4 := hsk.si.cap
      have v5 := hsk.so.cap
      have v6 := hsk.sf.cap
      have v7 := hsk.on.le
      have v8 := hsk.on.cap
      have v9 := hrow.le
      have va := hrow.cap
      have u1 := F.sib g hg
      have u2 := F.sob g hg
      have u3 := F.sfb g hg
      unfold maxLen at v4 v5 v6 v8 va
      rw [F.sh.len b (by rw [F.sh.n]; exact hb), hra] at y0
      rw [F.sh.len b (by rw [F.sh.n]; exact hb)] at v9
      rw [hoa, F.sh.n] at c0
      rw [F.sh.n] at v7
      rw [e1, F.sin] at c4
      rw [e2, F.son] at c5
      rw [e3, F.sfn] at c6
      rw [F.sin] at v1
      rw [F.son] at v2
      rw [F.sfn] at v3
      have q1 : (0 : Int) ≤ (b : Int) := by omega
      have q2 : (0 : Int) ≤ (g : Int) := by omega
      clear hoa hra e1 e2 e3 hrow F hpk hsk
      generalize (s.on.r b).z g = ON at *
      generalize (s.on.r b).c = RC at *
      generalize s.si.z g = I1 at *
      generalize s.so.z g = I2 at *
      generalize s.sf.z g = I3 at *
      go_wp2_with fail
      have r0 : ∀ d os, (grow (redrawn w3 d) os).cell? ⟨w.heap.size + 1, 0, none⟩ = some (.slice (some ⟨bo, oo, none⟩) p.nb s.on.c) := fun d os => cell_regrown c0 d os
      have r1 : ∀ d os, (grow (redrawn w3 d) os).cell? ⟨bo, oo + b, none⟩ = some (.slice (some ⟨br, orr, none⟩) p.ns RC) := fun d os => cell_regrown y0 d os
      have r2 : ∀ d os, (grow (redrawn w3 d) os).cell? ⟨br, orr + g, none⟩ = some (.int .i64 ON) := fun d os => cell_regrown y1 d os
      have r4 : ∀ d os, (grow (redrawn w3 d) os).cell? ⟨w.heap.size + 1, 4, none⟩ = some (.slice (some ⟨b1, o1, none⟩) p.ns s.si.c) := fun d os => cell_regrown c4 d os
      have r5 : ∀ d os, (grow (redrawn w3 d) os).cell? ⟨w.heap.size + 1, 5, none⟩ = some (.slice (some ⟨b2, o2, none⟩) p.ns s.so.c) := fun d os => cell_regrown c5 d os
      have r6 : ∀ d os, (grow (redrawn w3 d) os).cell? ⟨w.heap.size + 1, 6, none⟩ = some (.slice (some ⟨b3, o3, none⟩) p.ns s.sf.c) := fun d os => cell_regrown c6 d os
      have r7 : ∀ d os, (grow (redrawn w3 d) os).cell? ⟨b1, o1 + g, none⟩ = some (.int .i64 I1) := fun d os => cell_regrown z1 d os
      have r8 : ∀ d os, (grow (redrawn w3 d) os).cell? ⟨b2, o2 + g, none⟩ = some (.int .i64 I2) := fun d os => cell_regrown z2 d os
      have r9 : ∀ d os, (grow (redrawn w3 d) os).cell? ⟨b3, o3 + g, none⟩ = some (.int .i64 I3) := fun d os => cell_regrown z3 d os
      have t1 : decide (0 ≤ AV) = true := decide_eq_true a1
      have t2 : decide (AV ≤ ON) = true := decide_eq_true a2
      refine wp_region_quiet_below (by kernel_rfl) (by kernel_rfl) ?_
      repeat (go_big_quiet_step ((go_at_call 19; exact Calls.regrown_of (stateBegun_any _))))
      refine wpQuiet_nil ?_
      intro _ hw'
      obtain ⟨⟨dq, osq⟩, hw''⟩ := hw'
      subst hw''
      go_wp2_with fail
      go_ret
      exact ⟨by simp, hBw.trans ((below_regrown _ _ _).mono hBw.size)⟩
    · go_wp2_with fail
      refine (stateBegun_any _).mono ?_
      rintro e w3 ⟨rfl, hB3⟩
      go_wp2_with fail
      go_ret
      exact ⟨rfl, hBw.trans (hB3.mono hBw.size)⟩
  · go_wp2_with fail
    refine (stateBegun_any _).mono ?_
    rintro e w3 ⟨rfl, hB3⟩
    go_wp2_with fail
    go_ret
    exact ⟨rfl, hBw.trans (hB3.mono hBw.size)⟩

end Go.Proofs.Ytklikhcopfhgaab

/- StateBegin: the walk. -/
import Derived.Test.YtnoamojikbeadacSW12
import Derived.Test.YtnoamojikbeadacCH
namespace Go.Proofs.Ytnoamojikbeadac
open Go.RowKit Go.Shelf Go.Sort
set_option linter.unusedVariables false

set_option maxRecDepth 100000 in
set_option maxHeartbeats 8000000 in
theorem StateBegin_walk (p : Pl) (bin good : Int) (w : World) (hp : p.At w) (hbin : -9223372036854775808 ≤ bin ∧ bin ≤ 9223372036854775807) (hgood : -9223372036854775808 ≤ good ∧ good ≤ 9223372036854775807) :
    Calls Try.prog 3 #[p.val, .int .i64 bin, .int .i64 good] w fun e w' => e = .returned (.bool true) ∧ Below w.heap.size w w' := by
  have capb := hp.capb
  have leb := hp.leb
  have caps := hp.caps
  have les := hp.les
  unfold maxLen at capb caps
  obtain ⟨W0, hW, hWB, X0⟩ : ∃ W, w.alloc (.cells #[.slice p.ab p.nb p.cb, .slice p.sa p.ns p.cs] 25) = W ∧ Below w.heap.size w W ∧ Blk W w.heap.size 25 2 (fun j => (#[.slice p.ab p.nb p.cb, .slice p.sa p.ns p.cs] : Array Value).getD j default) := ⟨_, rfl, (Below.refl _ _).alloc (Nat.le_refl _) _, Blk.mk' rfl rfl⟩
  have HW : Hid (w.alloc (.cells #[.slice p.ab p.nb p.cb, .slice p.sa p.ns p.cs] 25) = W0) := hW
  clear hW
  unfold Pl.val
  go_enter Try.func3, Try.ntmps3
  go_wp2_with fail
  rw [HW.out]
  refine (Begin_any p W0 (hp.below hWB)).mono ?_
  rintro e w1 ⟨s, rfl, sat, hok, hB1⟩
  have X1 := X0.below hB1
  have hC1 := hWB.trans (hB1.mono hWB.size)
  clear X0 HW
  simp only [St.val]
  obtain ⟨W2, hW, hB2, K1⟩ : ∃ W, w1.alloc (.cells #[.slice s.on.a s.on.n s.on.c, .slice s.os.a s.os.n s.os.c, .slice s.hs.a s.hs.n s.hs.c, .slice s.ms.a s.ms.n s.ms.c, .slice s.si.a s.si.n s.si.c, .slice s.so.a s.so.n s.so.c, .slice s.sf.a s.sf.n s.sf.c] 31) = W ∧ Below w1.heap.size w1 W ∧ Blk W w1.heap.size 31 7 (fun j => (#[.slice s.on.a s.on.n s.on.c, .slice s.os.a s.os.n s.os.c, .slice s.hs.a s.hs.n s.hs.c, .slice s.ms.a s.ms.n s.ms.c, .slice s.si.a s.si.n s.si.c, .slice s.so.a s.so.n s.so.c, .slice s.sf.a s.sf.n s.sf.c] : Array Value).getD j default) := ⟨_, rfl, (Below.refl _ _).alloc (Nat.le_refl _) _, Blk.mk' rfl rfl⟩
  have HW : Hid (w1.alloc (.cells #[.slice s.on.a s.on.n s.on.c, .slice s.os.a s.os.n s.os.c, .slice s.hs.a s.hs.n s.hs.c, .slice s.ms.a s.ms.n s.ms.c, .slice s.si.a s.si.n s.si.c, .slice s.so.a s.so.n s.so.c, .slice s.sf.a s.sf.n s.sf.c] 31) = W2) := hW
  clear hW
  have X2 := X1.below hB2
  have sat := sat.below hB2
  have hC := hC1.trans (hB2.mono hC1.size)
  have hpz := (hp.below hC)
  have HC : Hid (∀ wk, Below W2.heap.size W2 wk → p.At wk ∧ s.At wk ∧ Below w.heap.size w wk ∧ wk.cell? ⟨w.heap.size, 0, none⟩ = some (.slice p.ab p.nb p.cb) ∧ wk.cell? ⟨w.heap.size, 1, none⟩ = some (.slice p.sa p.ns p.cs) ∧ wk.cell? ⟨w1.heap.size, 0, none⟩ = some (.slice s.on.a s.on.n s.on.c) ∧ wk.cell? ⟨w1.heap.size, 1, none⟩ = some (.slice s.os.a s.os.n s.os.c) ∧ wk.cell? ⟨w1.heap.size, 2, none⟩ = some (.slice s.hs.a s.hs.n s.hs.c) ∧ wk.cell? ⟨w1.heap.size, 3, none⟩ = some (.slice s.ms.a s.ms.n s.ms.c) ∧ wk.cell? ⟨w1.heap.size, 4, none⟩ = some (.slice s.si.a s.si.n s.si.c) ∧ wk.cell? ⟨w1.heap.size, 5, none⟩ = some (.slice s.so.a s.so.n s.so.c) ∧ wk.cell? ⟨w1.heap.size, 6, none⟩ = some (.slice s.sf.a s.sf.n s.sf.c)) :=
    fun wk h => ⟨hpz.below h, sat.below h, hC.trans (h.mono hC.size), (X2.below h).cell (j := 0) (by decide), (X2.below h).cell (j := 1) (by decide), (K1.below h).cell (j := 0) (by decide), (K1.below h).cell (j := 1) (by decide), (K1.below h).cell (j := 2) (by decide), (K1.below h).cell (j := 3) (by decide), (K1.below h).cell (j := 4) (by decide), (K1.below h).cell (j := 5) (by decide), (K1.below h).cell (j := 6) (by decide)⟩
  have l1 := X2.lt
  have l2 := K1.lt
  have d0 := X2.cell (j := 0) (by decide)
  have d1 := X2.cell (j := 1) (by decide)
  clear X1 X2 K1 hB1 hC1 hB2 hC hWB sat hpz
  by_cases h0 : planE p = 0
  · have R := rightP h0
    have nb1 := R.nb1
    have nb6 := R.nb6
    have ns1 := R.ns1
    have ns3 := R.ns3
    have b := hok.1 h0
    have HV : Hid (stateE p s = 0 ∧ availE p s (chooseN bin p.nb) (chooseN good p.ns) = 0 ∧ availV p s (chooseN bin p.nb) (chooseN good p.ns) = 0 ∧ freeE p s (chooseN bin p.nb) = 0 ∧ freeV p s (chooseN bin p.nb) = (p.zb (chooseN bin p.nb)).room) := by
      have e0 := begun_state h0 b
      have i1 := chooseN_lt bin nb1
      have i2 := chooseN_lt good ns1
      have n1 := b.1
      have a1 : availE p s (chooseN bin p.nb) (chooseN good p.ns) = 0 := by
        unfold availE; rw [if_pos e0, inB_mk (by omega), inB_mk (by omega)]; rfl
      have a2 : freeE p s (chooseN bin p.nb) = 0 := by
        unfold freeE usedE; rw [if_pos e0, shelfE_mk h0 (begun_shelf h0 b), inB_mk (by omega)]; rfl
      refine ⟨e0, a1, ?_, a2, ?_⟩
      · unfold availV; rw [if_pos a1]; exact begun_avail b (by omega) (by omega)
      · unfold freeV; rw [if_pos a2]; exact begun_free b (by omega)
    have q1 : ((p.nb : Int) == 0) = false := by simp; omega
    have q2 : ((p.ns : Int) == 0) = false := by simp; omega
    rw [h0]
    clear h0 R hok b
    rw [← HW.out] at d0 d1
    go_wp2_with fail
    rw [HW.out] at d0 d1 ⊢
    have r0 : ∀ d os, (grow (redrawn W2 d) os).cell? ⟨w.heap.size, 0, none⟩ = some (.slice p.ab p.nb p.cb) := fun d os => cell_regrown d0 d os
    have r1 : ∀ d os, (grow (redrawn W2 d) os).cell? ⟨w.heap.size, 1, none⟩ = some (.slice p.sa p.ns p.cs) := fun d os => cell_regrown d1 d os
    have m1 : p.nb ≤ 1000 := by omega
    have m2 : p.ns ≤ 1000 := by omega
    refine wp_region_quiet_below (by kernel_rfl) (by kernel_rfl) ?_
    repeat (go_big_quiet_step ((go_at_call 11; exact Calls.regrown_of (choose_b _ _ _ (by assumption) (by assumption) (by assumption)))))
    refine wpQuiet_nil ?_
    intro _ hw'
    obtain ⟨⟨dq, osq⟩, hw''⟩ := hw'
    subst hw''
    clear r0 r1 d0 d1 l1 l2
    have hX := below_regrown W2 dq osq
    generalize grow (redrawn W2 dq) osq = wa at *
    obtain ⟨hpk, hsk, hBw, d0, d1, c0, c1, c2, c3, c4, c5, c6⟩ := HC.out wa hX
    have i1 := chooseN_lt bin nb1
    have i2 := chooseN_lt good ns1
    generalize chooseN bin p.nb = b at *
    generalize chooseN good p.ns = g at *
    go_wp2_with fail
    refine (Avail_any p s b g wa hpk hsk).mono ?_
    rintro e wb ⟨rfl, hB⟩
    rw [HV.out.2.1, HV.out.2.2.1]
    have hX := hX.trans (hB.mono hX.size)
    clear hpk hsk hBw d0 d1 c0 c1 c2 c3 c4 c5 c6 hB
    obtain ⟨hpk, hsk, hBw, d0, d1, c0, c1, c2, c3, c4, c5, c6⟩ := HC.out wb hX
    go_wp2_with fail
    refine (Free_any p s b wb hpk hsk).mono ?_
    rintro e wc ⟨rfl, hB⟩
    rw [HV.out.2.2.2.1, HV.out.2.2.2.2]
    have hX := hX.trans (hB.mono hX.size)
    clear hpk hsk hBw d0 d1 c0 c1 c2 c3 c4 c5 c6 hB
    go_wp2_with fail
    refine (stateBegun_any _).mono ?_
    rintro e wd ⟨rfl, hB⟩
    have hX := hX.trans (hB.mono hX.size)
    clear hB
    obtain ⟨hpk, hsk, hBw, d0, d1, c0, c1, c2, c3, c4, c5, c6⟩ := HC.out wd hX
    go_wp2_with fail
    refine (stateCheck_any p s wd hpk hsk).mono ?_
    rintro e we ⟨rfl, hB⟩
    rw [HV.out.1]
    have hX := hX.trans (hB.mono hX.size)
    clear hpk hsk hBw d0 d1 c0 c1 c2 c3 c4 c5 c6 hB
    obtain ⟨hpk, hsk, hBw, d0, d1, c0, c1, c2, c3, c4, c5, c6⟩ := HC.out we hX
    obtain ⟨bb, oo, hba, hbb, y0, y1, y2, y3⟩ := hpk.bins b i1
    rw [hba] at d0
    have q3 : (0 : Int) ≤ (b : Int) := by omega
    clear hpk hsk c0 c1 c2 c3 c4 c5 c6 hba HC
    generalize (p.zb b).room = RM at *
    go_wp2_with fail
    go_ret
    exact ⟨by simp, hBw⟩
  · clear hok
    go_wp2_with fail
    rw [HW.out]
    refine (stateBegun_any _).mono ?_
    rintro e w3 ⟨rfl, hB3⟩
    go_wp2_with fail
    go_ret
    exact ⟨rfl, (HC.out w3 hB3).2.2.1⟩

end Go.Proofs.Ytnoamojikbeadac

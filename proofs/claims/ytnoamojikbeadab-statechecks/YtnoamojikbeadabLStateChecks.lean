/- StateChecks: the walk. -/
import Derived.Test.YtnoamojikbeadabSW12
import Derived.Test.YtnoamojikbeadabRS4
import Derived.Test.YtnoamojikbeadabRS6
import Derived.Test.YtnoamojikbeadabRS7
namespace Go.Proofs.Ytnoamojikbeadab
open Go.RowKit Go.Shelf Go.Sort
set_option linter.unusedVariables false

theorem begun_same {p : Pl} {s t : St} (a : BegunS p s) (b : BegunS p t) : SameT s t := by
  obtain ⟨a1, a2, a3, a4, a5, a6, a7, a8⟩ := a
  obtain ⟨b1, b2, b3, b4, b5, b6, b7, b8⟩ := b
  refine ⟨⟨by omega, fun i hi => ?_⟩, ⟨by omega, fun i hi => absurd hi (by omega)⟩, ⟨by omega, fun j hj => absurd hj (by omega)⟩, ⟨by omega, fun j hj => absurd hj (by omega)⟩, ⟨by omega, fun j hj => ?_⟩, ⟨by omega, fun j hj => ?_⟩, ⟨by omega, fun j hj => ?_⟩⟩
  · have x := a2 i (by omega)
    have y := b2 i (by omega)
    exact ⟨by omega, fun j hj => by rw [x.2 j (by omega), y.2 j (by omega)]⟩
  · rw [a6.2 j (by omega), b6.2 j (by omega)]
  · rw [a7.2 j (by omega), b7.2 j (by omega)]
  · rw [a8.2 j (by omega), b8.2 j (by omega)]
theorem none_same {s : St} (a : NoneS s) : SameT s noneS := by
  obtain ⟨a1, a2, a3, a4, a5, a6, a7⟩ := a
  exact ⟨⟨a1, fun i hi => absurd hi (by omega)⟩, ⟨a2, fun i hi => absurd hi (by omega)⟩, ⟨a3, fun j hj => absurd hj (by omega)⟩, ⟨a4, fun j hj => absurd hj (by omega)⟩, ⟨a5, fun j hj => absurd hj (by omega)⟩, ⟨a6, fun j hj => absurd hj (by omega)⟩, ⟨a7, fun j hj => absurd hj (by omega)⟩⟩

theorem Fr.set7 {n : Nat} {w : World} {s : St} (h : Fr n w s) {b : Nat} (hb : b < n) (v0 v1 v2 v3 v4 v5 v6 : Value) : Fr n (Go.Proofs.Ytnoamojikbeadab.set7 w b v0 v1 v2 v3 v4 v5 v6) s :=
  ((((((h.set hb 0 v0).set hb 1 v1).set hb 2 v2).set hb 3 v3).set hb 4 v4).set hb 5 v5).set hb 6 v6

set_option maxRecDepth 100000 in
set_option maxHeartbeats 8000000 in
theorem StateChecks_walk (p : Pl) (s : St) (w : World) (hp : p.At w) (hs : s.At w) :
    Calls Try.prog 6 #[p.val, s.val] w fun e w' => e = .returned (.bool true) ∧ Below w.heap.size w w' := by
  obtain ⟨W0, hW, hWB, X0⟩ : ∃ W, ((w.alloc (.cells #[.slice p.ab p.nb p.cb, .slice p.sa p.ns p.cs] 40)).alloc (.cells s.cells 45)) = W ∧ Below w.heap.size w W ∧ Boxes W w.heap.size (w.heap.size + 1) p s := ⟨_, rfl, two_below _ _ _, boxes_new w p s _ _⟩
  have HC : Hid (∀ wk, Below W0.heap.size W0 wk → Boxes wk w.heap.size (w.heap.size + 1) p s ∧ p.At wk ∧ s.At wk ∧ Below w.heap.size w wk) := fun wk h => ⟨X0.below h, (hp.below hWB).below h, (hs.below hWB).below h, hWB.trans (h.mono hWB.size)⟩
  have HW : Hid ((w.alloc (.cells #[.slice p.ab p.nb p.cb, .slice p.sa p.ns p.cs] 40)).alloc (.cells #[.slice s.on.a s.on.n s.on.c, .slice s.os.a s.os.n s.os.c, .slice s.hs.a s.hs.n s.hs.c, .slice s.ms.a s.ms.n s.ms.c, .slice s.si.a s.si.n s.si.c, .slice s.so.a s.so.n s.so.c, .slice s.sf.a s.sf.n s.sf.c] 45) = W0) := hW
  clear hW X0 hp hs
  unfold Pl.val St.val
  go_enter Try.func6, Try.ntmps6
  go_wp2_with fail
  rw [HW.out]
  obtain ⟨X, hpk, hsk, hBw⟩ := HC.out W0 (Below.refl _ _)
  refine (Begin_any p W0 hpk).mono ?_
  rintro e w1 ⟨b, rfl, bat, bok, hB⟩
  clear X hpk hsk hBw HW
  obtain ⟨W2, hW, hWB2, K1⟩ : ∃ W, w1.alloc (.cells #[.slice b.on.a b.on.n b.on.c, .slice b.os.a b.os.n b.os.c, .slice b.hs.a b.hs.n b.hs.c, .slice b.ms.a b.ms.n b.ms.c, .slice b.si.a b.si.n b.si.c, .slice b.so.a b.so.n b.so.c, .slice b.sf.a b.sf.n b.sf.c] 45) = W ∧ Below w1.heap.size w1 W ∧ Blk W w1.heap.size 45 7 (fun j => b.cells.getD j default) := ⟨_, rfl, (Below.refl _ _).alloc (Nat.le_refl _) _, Blk.mk' rfl rfl⟩
  have HW : Hid (w1.alloc (.cells #[.slice b.on.a b.on.n b.on.c, .slice b.os.a b.os.n b.os.c, .slice b.hs.a b.hs.n b.hs.c, .slice b.ms.a b.ms.n b.ms.c, .slice b.si.a b.si.n b.si.c, .slice b.so.a b.so.n b.so.c, .slice b.sf.a b.sf.n b.sf.c] 45) = W2) := hW
  have bat := bat.below hWB2
  obtain ⟨⟨⟨l1, d0, d1⟩, l2, -⟩, -, -, -⟩ := HC.out w1 hB
  have hB := hB.trans (hWB2.mono hB.size)
  clear hW hWB2
  simp only [St.val]
  go_wp2_with fail
  rw [HW.out]
  obtain ⟨B1, hB1⟩ : ∃ B1, w1.heap.size = B1 := ⟨_, rfl⟩
  rw [hB1] at K1 ⊢
  clear hB1 HW l1 l2 d0 d1
  obtain ⟨X, hpk, hsk, hBw⟩ := HC.out W2 hB
  clear hsk hBw X
  refine (refCheckPlan_any p W2 hpk).mono ?_
  rintro e w2 ⟨rfl, hB2⟩
  clear hpk
  have bat := bat.below hB2
  have K1 := K1.below hB2
  have hB := hB.trans (hB2.mono hB.size)
  clear hB2
  obtain ⟨W3, hW, hWB3, K2⟩ : ∃ W, w2.alloc (.cells #[.slice .none 0 0, .slice .none 0 0, .slice .none 0 0, .slice .none 0 0, .slice .none 0 0, .slice .none 0 0, .slice .none 0 0] 45) = W ∧ Below w2.heap.size w2 W ∧ Blk W w2.heap.size 45 7 (fun _ => .slice .none 0 0) := ⟨_, rfl, (Below.refl _ _).alloc (Nat.le_refl _) _, (Blk.mk' (cur := #[.slice .none 0 0, .slice .none 0 0, .slice .none 0 0, .slice .none 0 0, .slice .none 0 0, .slice .none 0 0, .slice .none 0 0]) rfl rfl).congr (fun j hj => by match j, hj with | 0, _ => rfl | 1, _ => rfl | 2, _ => rfl | 3, _ => rfl | 4, _ => rfl | 5, _ => rfl | 6, _ => rfl)⟩
  have HW : Hid (w2.alloc (.cells #[.slice .none 0 0, .slice .none 0 0, .slice .none 0 0, .slice .none 0 0, .slice .none 0 0, .slice .none 0 0, .slice .none 0 0] 45) = W3) := hW
  have hne : B1 ≠ w2.heap.size := by have := K1.lt; omega
  have hb8 : W0.heap.size ≤ w2.heap.size := hB.size
  have HBA : Hid (∀ wk, Below w2.heap.size w2 wk → b.At wk) := fun wk h => bat.below h
  have HB2 : Hid (Below w2.heap.size w2 W3) := hWB3
  have bat := bat.below hWB3
  have K1 := K1.below hWB3
  obtain ⟨⟨⟨l1, d0, d1⟩, l2, -⟩, -, -, -⟩ := HC.out w2 hB
  have hB := hB.trans (hWB3.mono hB.size)
  obtain ⟨B8, hB8⟩ : ∃ B8, w2.heap.size = B8 := ⟨_, rfl⟩
  rw [hB8] at K2 hne hb8
  have HB8 : Hid (w2.heap.size = B8) := hB8
  clear hW hWB3 hB8
  by_cases h0 : planE p = 0
  · rw [h0]
    go_wp2_with fail
    rw [HW.out, HB8.out]
    clear HW l1 l2 d0 d1
    obtain ⟨X, hpk, hsk, hBw⟩ := HC.out W3 hB
    clear X hsk hBw
    have hl8 : B8 < W3.heap.size := K2.lt
    refine (BeginOf_any p W3 hpk h0).mono ?_
    rintro e w4 ⟨t, rfl, tat, tok, hB4⟩
    have HS : Hid (SameT b t ∧ b.os.n = 0 ∧ b.ms.n = 0) := ⟨begun_same (bok.1 h0) tok, (bok.1 h0).2.2.1, (bok.1 h0).2.2.2.2.1⟩
    have K1 := K1.below hB4
    have K2 := K2.below hB4
    have bat := bat.below hB4
    have hB := hB.trans (hB4.mono hB.size)
    have hB4' := hB4
    clear hB4 tok bok h0 hpk
    have zl := K2.lt
    have zf0 := K2.frozen 0
    have zc0 := K2.cell (j := 0) (by decide)
    have zf1 := K2.frozen 1
    have zc1 := K2.cell (j := 1) (by decide)
    have zf2 := K2.frozen 2
    have zc2 := K2.cell (j := 2) (by decide)
    have zf3 := K2.frozen 3
    have zc3 := K2.cell (j := 3) (by decide)
    have zf4 := K2.frozen 4
    have zc4 := K2.cell (j := 4) (by decide)
    have zf5 := K2.frozen 5
    have zc5 := K2.cell (j := 5) (by decide)
    have zf6 := K2.frozen 6
    have zc6 := K2.cell (j := 6) (by decide)
    simp only [St.val]
    go_wp2_with fail
    have KZ := set7_blk K2 (.slice t.on.a t.on.n t.on.c) (.slice t.os.a t.os.n t.os.c) (.slice t.hs.a t.hs.n t.hs.c) (.slice t.ms.a t.ms.n t.ms.c) (.slice t.si.a t.si.n t.si.c) (.slice t.so.a t.so.n t.so.c) (.slice t.sf.a t.sf.n t.sf.c)
    have hbz := set7_below hB hb8 (.slice t.on.a t.on.n t.on.c) (.slice t.os.a t.os.n t.os.c) (.slice t.hs.a t.hs.n t.hs.c) (.slice t.ms.a t.ms.n t.ms.c) (.slice t.si.a t.si.n t.si.c) (.slice t.so.a t.so.n t.so.c) (.slice t.sf.a t.sf.n t.sf.c)
    have K1z := set7_other K1 hne (.slice t.on.a t.on.n t.on.c) (.slice t.os.a t.os.n t.os.c) (.slice t.hs.a t.hs.n t.hs.c) (.slice t.ms.a t.ms.n t.ms.c) (.slice t.si.a t.si.n t.si.c) (.slice t.so.a t.so.n t.so.c) (.slice t.sf.a t.sf.n t.sf.c)
    have batz := HBA.out _ (set7_below (b := B8) (HB2.out.trans (hB4'.mono HB2.out.size)) (Nat.le_of_eq HB8.out) (.slice t.on.a t.on.n t.on.c) (.slice t.os.a t.os.n t.os.c) (.slice t.hs.a t.hs.n t.hs.c) (.slice t.ms.a t.ms.n t.ms.c) (.slice t.si.a t.si.n t.si.c) (.slice t.so.a t.so.n t.so.c) (.slice t.sf.a t.sf.n t.sf.c))
    have tatz := Fr.set7 tat hl8 (.slice t.on.a t.on.n t.on.c) (.slice t.os.a t.os.n t.os.c) (.slice t.hs.a t.hs.n t.hs.c) (.slice t.ms.a t.ms.n t.ms.c) (.slice t.si.a t.si.n t.si.c) (.slice t.so.a t.so.n t.so.c) (.slice t.sf.a t.sf.n t.sf.c)
    unfold set7 at KZ hbz K1z batz tatz
    generalize (((((((w4.setCell { block := B8, off := 0 } (Value.slice t.on.a t.on.n t.on.c)).setCell { block := B8, off := 1 } (Value.slice t.os.a t.os.n t.os.c)).setCell { block := B8, off := 2 } (Value.slice t.hs.a t.hs.n t.hs.c)).setCell { block := B8, off := 3 } (Value.slice t.ms.a t.ms.n t.ms.c)).setCell { block := B8, off := 4 } (Value.slice t.si.a t.si.n t.si.c)).setCell { block := B8, off := 5 } (Value.slice t.so.a t.so.n t.so.c)).setCell { block := B8, off := 6 } (Value.slice t.sf.a t.sf.n t.sf.c)) = WZ at *
    clear K1 K2 bat tat hB zl zf0 zc0 zf1 zc1 zf2 zc2 zf3 zc3 zf4 zc4 zf5 zc5 zf6 zc6
    have K1 := K1z
    have K2 := KZ
    have bat := batz
    have tat := tatz.at
    have hB := hbz
    clear K1z KZ batz tatz hbz
    obtain ⟨X, hpk, hsk, hBw⟩ := HC.out WZ hB
    obtain ⟨⟨l1, d0, d1⟩, l2, c0, c1, c2, c3, c4, c5, c6⟩ := X
    obtain ⟨m1, p0, p1, p2, p3, p4, p5, p6⟩ := Boxed.of K1
    have r0 : ∀ d os, (grow (redrawn WZ d) os).cell? ⟨w.heap.size, 0, none⟩ = some (.slice p.ab p.nb p.cb) := fun d os => cell_regrown d0 d os
    have r1 : ∀ d os, (grow (redrawn WZ d) os).cell? ⟨w.heap.size, 1, none⟩ = some (.slice p.sa p.ns p.cs) := fun d os => cell_regrown d1 d os
    have s0 : ∀ d os, (grow (redrawn WZ d) os).cell? ⟨w.heap.size + 1, 0, none⟩ = some (.slice s.on.a s.on.n s.on.c) := fun d os => cell_regrown c0 d os
    have s1 : ∀ d os, (grow (redrawn WZ d) os).cell? ⟨w.heap.size + 1, 1, none⟩ = some (.slice s.os.a s.os.n s.os.c) := fun d os => cell_regrown c1 d os
    have s2 : ∀ d os, (grow (redrawn WZ d) os).cell? ⟨w.heap.size + 1, 2, none⟩ = some (.slice s.hs.a s.hs.n s.hs.c) := fun d os => cell_regrown c2 d os
    have s3 : ∀ d os, (grow (redrawn WZ d) os).cell? ⟨w.heap.size + 1, 3, none⟩ = some (.slice s.ms.a s.ms.n s.ms.c) := fun d os => cell_regrown c3 d os
    have s4 : ∀ d os, (grow (redrawn WZ d) os).cell? ⟨w.heap.size + 1, 4, none⟩ = some (.slice s.si.a s.si.n s.si.c) := fun d os => cell_regrown c4 d os
    have s5 : ∀ d os, (grow (redrawn WZ d) os).cell? ⟨w.heap.size + 1, 5, none⟩ = some (.slice s.so.a s.so.n s.so.c) := fun d os => cell_regrown c5 d os
    have s6 : ∀ d os, (grow (redrawn WZ d) os).cell? ⟨w.heap.size + 1, 6, none⟩ = some (.slice s.sf.a s.sf.n s.sf.c) := fun d os => cell_regrown c6 d os
    have b0 : ∀ d os, (grow (redrawn WZ d) os).cell? ⟨B1, 0, none⟩ = some (.slice b.on.a b.on.n b.on.c) := fun d os => cell_regrown p0 d os
    have b1 : ∀ d os, (grow (redrawn WZ d) os).cell? ⟨B1, 1, none⟩ = some (.slice b.os.a b.os.n b.os.c) := fun d os => cell_regrown p1 d os
    have b2 : ∀ d os, (grow (redrawn WZ d) os).cell? ⟨B1, 2, none⟩ = some (.slice b.hs.a b.hs.n b.hs.c) := fun d os => cell_regrown p2 d os
    have b3 : ∀ d os, (grow (redrawn WZ d) os).cell? ⟨B1, 3, none⟩ = some (.slice b.ms.a b.ms.n b.ms.c) := fun d os => cell_regrown p3 d os
    have b4 : ∀ d os, (grow (redrawn WZ d) os).cell? ⟨B1, 4, none⟩ = some (.slice b.si.a b.si.n b.si.c) := fun d os => cell_regrown p4 d os
    have b5 : ∀ d os, (grow (redrawn WZ d) os).cell? ⟨B1, 5, none⟩ = some (.slice b.so.a b.so.n b.so.c) := fun d os => cell_regrown p5 d os
    have b6 : ∀ d os, (grow (redrawn WZ d) os).cell? ⟨B1, 6, none⟩ = some (.slice b.sf.a b.sf.n b.sf.c) := fun d os => cell_regrown p6 d os
    have t0 : ∀ d os, (grow (redrawn WZ d) os).cell? ⟨B8, 0, none⟩ = some (.slice t.on.a t.on.n t.on.c) := fun d os => cell_regrown (K2.cell (j := 0) (by decide)) d os
    have t1 : ∀ d os, (grow (redrawn WZ d) os).cell? ⟨B8, 1, none⟩ = some (.slice t.os.a t.os.n t.os.c) := fun d os => cell_regrown (K2.cell (j := 1) (by decide)) d os
    have t2 : ∀ d os, (grow (redrawn WZ d) os).cell? ⟨B8, 2, none⟩ = some (.slice t.hs.a t.hs.n t.hs.c) := fun d os => cell_regrown (K2.cell (j := 2) (by decide)) d os
    have t3 : ∀ d os, (grow (redrawn WZ d) os).cell? ⟨B8, 3, none⟩ = some (.slice t.ms.a t.ms.n t.ms.c) := fun d os => cell_regrown (K2.cell (j := 3) (by decide)) d os
    have t4 : ∀ d os, (grow (redrawn WZ d) os).cell? ⟨B8, 4, none⟩ = some (.slice t.si.a t.si.n t.si.c) := fun d os => cell_regrown (K2.cell (j := 4) (by decide)) d os
    have t5 : ∀ d os, (grow (redrawn WZ d) os).cell? ⟨B8, 5, none⟩ = some (.slice t.so.a t.so.n t.so.c) := fun d os => cell_regrown (K2.cell (j := 5) (by decide)) d os
    have t6 : ∀ d os, (grow (redrawn WZ d) os).cell? ⟨B8, 6, none⟩ = some (.slice t.sf.a t.sf.n t.sf.c) := fun d os => cell_regrown (K2.cell (j := 6) (by decide)) d os
    have HP : Hid (p.At WZ ∧ s.At WZ ∧ b.At WZ ∧ t.At WZ) := ⟨hpk, hsk, bat, tat⟩
    have hsame : Hid (∀ wk, b.At wk → t.At wk → Calls Try.prog 22 #[.agg #[.slice b.on.a b.on.n b.on.c, .slice b.os.a b.os.n b.os.c, .slice b.hs.a b.hs.n b.hs.c, .slice b.ms.a b.ms.n b.ms.c, .slice b.si.a b.si.n b.si.c, .slice b.so.a b.so.n b.so.c, .slice b.sf.a b.sf.n b.sf.c], .agg #[.slice t.on.a t.on.n t.on.c, .slice t.os.a t.os.n t.os.c, .slice t.hs.a t.hs.n t.hs.c, .slice t.ms.a t.ms.n t.ms.c, .slice t.si.a t.si.n t.si.c, .slice t.so.a t.so.n t.so.c, .slice t.sf.a t.sf.n t.sf.c]] wk fun e w' => e = .returned (.bool true) ∧ Below wk.heap.size wk w') := fun wk h1 h2 => SameStates_yes b t wk h1 h2 HS.out.1 (by rw [HS.out.2.1]; omega) (by rw [HS.out.2.2]; omega) (fun i hi => absurd hi (by rw [HS.out.2.1]; omega))
    clear hpk hsk bat tat K1 K2 l1 d0 d1 l2 c0 c1 c2 c3 c4 c5 c6 m1 p0 p1 p2 p3 p4 p5 p6
    refine wp_region_quiet_below (by kernel_rfl) (by kernel_rfl) ?_
    repeat (go_big_quiet_step (first | (go_at_call 19; exact Calls.regrown_of (stateBegun_any _)) | (go_at_call 20; exact Calls.regrown_of (stateCheck_any p s _ (HP.out.1.below (below_regrown _ _ _)) (HP.out.2.1.below (below_regrown _ _ _)))) | (go_at_call 21; exact Calls.regrown_of (refCheckState_any p s _ (HP.out.1.below (below_regrown _ _ _)) (HP.out.2.1.below (below_regrown _ _ _)))) | (go_at_call 22; exact Calls.regrown_of (hsame.out _ (HP.out.2.2.1.below (below_regrown _ _ _)) (HP.out.2.2.2.below (below_regrown _ _ _))))))
    refine wpQuiet_nil ?_
    intro _ hw'
    obtain ⟨⟨dq, osq⟩, hw''⟩ := hw'
    subst hw''
    go_wp2_with fail
    go_ret
    exact ⟨by simp, hBw.trans ((below_regrown _ _ _).mono hBw.size)⟩
  · have HS : Hid (SameT b noneS ∧ b.os.n = 0 ∧ b.ms.n = 0) := ⟨none_same (bok.2 h0), (bok.2 h0).2.1, (bok.2 h0).2.2.2.1⟩
    clear bok
    go_wp2_with fail
    rw [HW.out, HB8.out]
    clear HB8 HW l1 l2 d0 d1
    obtain ⟨X, hpk, hsk, hBw⟩ := HC.out W3 hB
    obtain ⟨⟨l1, d0, d1⟩, l2, c0, c1, c2, c3, c4, c5, c6⟩ := X
    obtain ⟨m1, p0, p1, p2, p3, p4, p5, p6⟩ := Boxed.of K1
    have r0 : ∀ d os, (grow (redrawn W3 d) os).cell? ⟨w.heap.size, 0, none⟩ = some (.slice p.ab p.nb p.cb) := fun d os => cell_regrown d0 d os
    have r1 : ∀ d os, (grow (redrawn W3 d) os).cell? ⟨w.heap.size, 1, none⟩ = some (.slice p.sa p.ns p.cs) := fun d os => cell_regrown d1 d os
    have s0 : ∀ d os, (grow (redrawn W3 d) os).cell? ⟨w.heap.size + 1, 0, none⟩ = some (.slice s.on.a s.on.n s.on.c) := fun d os => cell_regrown c0 d os
    have s1 : ∀ d os, (grow (redrawn W3 d) os).cell? ⟨w.heap.size + 1, 1, none⟩ = some (.slice s.os.a s.os.n s.os.c) := fun d os => cell_regrown c1 d os
    have s2 : ∀ d os, (grow (redrawn W3 d) os).cell? ⟨w.heap.size + 1, 2, none⟩ = some (.slice s.hs.a s.hs.n s.hs.c) := fun d os => cell_regrown c2 d os
    have s3 : ∀ d os, (grow (redrawn W3 d) os).cell? ⟨w.heap.size + 1, 3, none⟩ = some (.slice s.ms.a s.ms.n s.ms.c) := fun d os => cell_regrown c3 d os
    have s4 : ∀ d os, (grow (redrawn W3 d) os).cell? ⟨w.heap.size + 1, 4, none⟩ = some (.slice s.si.a s.si.n s.si.c) := fun d os => cell_regrown c4 d os
    have s5 : ∀ d os, (grow (redrawn W3 d) os).cell? ⟨w.heap.size + 1, 5, none⟩ = some (.slice s.so.a s.so.n s.so.c) := fun d os => cell_regrown c5 d os
    have s6 : ∀ d os, (grow (redrawn W3 d) os).cell? ⟨w.heap.size + 1, 6, none⟩ = some (.slice s.sf.a s.sf.n s.sf.c) := fun d os => cell_regrown c6 d os
    have b0 : ∀ d os, (grow (redrawn W3 d) os).cell? ⟨B1, 0, none⟩ = some (.slice b.on.a b.on.n b.on.c) := fun d os => cell_regrown p0 d os
    have b1 : ∀ d os, (grow (redrawn W3 d) os).cell? ⟨B1, 1, none⟩ = some (.slice b.os.a b.os.n b.os.c) := fun d os => cell_regrown p1 d os
    have b2 : ∀ d os, (grow (redrawn W3 d) os).cell? ⟨B1, 2, none⟩ = some (.slice b.hs.a b.hs.n b.hs.c) := fun d os => cell_regrown p2 d os
    have b3 : ∀ d os, (grow (redrawn W3 d) os).cell? ⟨B1, 3, none⟩ = some (.slice b.ms.a b.ms.n b.ms.c) := fun d os => cell_regrown p3 d os
    have b4 : ∀ d os, (grow (redrawn W3 d) os).cell? ⟨B1, 4, none⟩ = some (.slice b.si.a b.si.n b.si.c) := fun d os => cell_regrown p4 d os
    have b5 : ∀ d os, (grow (redrawn W3 d) os).cell? ⟨B1, 5, none⟩ = some (.slice b.so.a b.so.n b.so.c) := fun d os => cell_regrown p5 d os
    have b6 : ∀ d os, (grow (redrawn W3 d) os).cell? ⟨B1, 6, none⟩ = some (.slice b.sf.a b.sf.n b.sf.c) := fun d os => cell_regrown p6 d os
    have t0 : ∀ d os, (grow (redrawn W3 d) os).cell? ⟨B8, 0, none⟩ = some (.slice none 0 0) := fun d os => cell_regrown (K2.cell (j := 0) (by decide)) d os
    have t1 : ∀ d os, (grow (redrawn W3 d) os).cell? ⟨B8, 1, none⟩ = some (.slice none 0 0) := fun d os => cell_regrown (K2.cell (j := 1) (by decide)) d os
    have t2 : ∀ d os, (grow (redrawn W3 d) os).cell? ⟨B8, 2, none⟩ = some (.slice none 0 0) := fun d os => cell_regrown (K2.cell (j := 2) (by decide)) d os
    have t3 : ∀ d os, (grow (redrawn W3 d) os).cell? ⟨B8, 3, none⟩ = some (.slice none 0 0) := fun d os => cell_regrown (K2.cell (j := 3) (by decide)) d os
    have t4 : ∀ d os, (grow (redrawn W3 d) os).cell? ⟨B8, 4, none⟩ = some (.slice none 0 0) := fun d os => cell_regrown (K2.cell (j := 4) (by decide)) d os
    have t5 : ∀ d os, (grow (redrawn W3 d) os).cell? ⟨B8, 5, none⟩ = some (.slice none 0 0) := fun d os => cell_regrown (K2.cell (j := 5) (by decide)) d os
    have t6 : ∀ d os, (grow (redrawn W3 d) os).cell? ⟨B8, 6, none⟩ = some (.slice none 0 0) := fun d os => cell_regrown (K2.cell (j := 6) (by decide)) d os
    have HP : Hid (p.At W3 ∧ s.At W3 ∧ b.At W3 ∧ noneS.At W3) := ⟨hpk, hsk, bat, noneS_at _⟩
    have hsame : Hid (∀ wk, b.At wk → noneS.At wk → Calls Try.prog 22 #[.agg #[.slice b.on.a b.on.n b.on.c, .slice b.os.a b.os.n b.os.c, .slice b.hs.a b.hs.n b.hs.c, .slice b.ms.a b.ms.n b.ms.c, .slice b.si.a b.si.n b.si.c, .slice b.so.a b.so.n b.so.c, .slice b.sf.a b.sf.n b.sf.c], .agg #[.slice none 0 0, .slice none 0 0, .slice none 0 0, .slice none 0 0, .slice none 0 0, .slice none 0 0, .slice none 0 0]] wk fun e w' => e = .returned (.bool true) ∧ Below wk.heap.size wk w') := fun wk h1 h2 => SameStates_yes b noneS wk h1 h2 HS.out.1 (by rw [HS.out.2.1]; omega) (by rw [HS.out.2.2]; omega) (fun i hi => absurd hi (by rw [HS.out.2.1]; omega))
    clear hpk hsk bat  K1 K2 l1 d0 d1 l2 c0 c1 c2 c3 c4 c5 c6 m1 p0 p1 p2 p3 p4 p5 p6
    refine wp_region_quiet_below (by kernel_rfl) (by kernel_rfl) ?_
    repeat (go_big_quiet_step (first | (go_at_call 19; exact Calls.regrown_of (stateBegun_any _)) | (go_at_call 20; exact Calls.regrown_of (stateCheck_any p s _ (HP.out.1.below (below_regrown _ _ _)) (HP.out.2.1.below (below_regrown _ _ _)))) | (go_at_call 21; exact Calls.regrown_of (refCheckState_any p s _ (HP.out.1.below (below_regrown _ _ _)) (HP.out.2.1.below (below_regrown _ _ _)))) | (go_at_call 22; exact Calls.regrown_of (hsame.out _ (HP.out.2.2.1.below (below_regrown _ _ _)) (HP.out.2.2.2.below (below_regrown _ _ _))))))
    refine wpQuiet_nil ?_
    intro _ hw'
    obtain ⟨⟨dq, osq⟩, hw''⟩ := hw'
    subst hw''
    go_wp2_with fail
    go_ret
    exact ⟨by simp, hBw.trans ((below_regrown _ _ _).mono hBw.size)⟩

end Go.Proofs.Ytnoamojikbeadab

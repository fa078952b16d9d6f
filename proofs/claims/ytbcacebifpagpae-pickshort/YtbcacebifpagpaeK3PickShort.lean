/- Texts that were built one behind the other, joined; what PickShort does not reach is left out. -/
import Derived.Test.YtbcacebifpagpaeK2PickShort
import Derived.RangeFuncBox
import Derived.RangeFuncLeaves
import Derived.Shelf.Abstract
import Derived.WalkKit
import Derived.OwnWalkIn
import Derived.TacticsInMore
import Derived.LoopNIn
import Derived.LoopIn
import Derived.Maps.AppendAt
import Derived.RangeFuncNested
import Derived.KernelRfl
import Derived.Test.YtbcacebifpagpaeRows
import Derived.ProofKit
import Derived.OpenShut
import Derived.Lib.SmallJoins
import Derived.Deep.Slices
namespace Go.Proofs.Ytbcacebifpagpae
open Go.RowKit Go.Shelf Go.Sort
set_option linter.unusedVariables false
set_option maxRecDepth 100000 in
set_option maxHeartbeats 2000000 in
theorem allocCheck1_any (B1 B2 B3 : Nat) (s : St) (order line : Int) (w : World) (hs : s.os.At w) (h1 : B1 < w.heap.size) (h2 : B2 < w.heap.size) (h3 : B3 < w.heap.size) (c1 : w.cell? ⟨B1, 1, none⟩ = some (.slice s.os.a s.os.n s.os.c)) (c2 : w.cell? ⟨B2, 0, none⟩ = some (.int .i64 order)) (c3 : w.cell? ⟨B3, 0, none⟩ = some (.int .i64 line)) :
    Calls Try.prog 111 #[.pointer (some ⟨B1, 0, none⟩), .pointer (some ⟨B2, 0, none⟩), .pointer (some ⟨B3, 0, none⟩)] w fun e w' => e = .returned (.bool (missL s order line)) ∧ Below w.heap.size w w' := by
  have ole := hs.le
  have ocap0 := hs.cap
  have ocap := ocap0
  unfold maxLen at ocap
  have hon : s.os.n ≤ maxLen := Nat.le_trans ole ocap0
  have r1 : ∀ d os, (grow (redrawn w d) os).cell? ⟨B1, 1, none⟩ = some (.slice s.os.a s.os.n s.os.c) := fun d os => cell_regrown c1 d os
  have r2 : ∀ d os, (grow (redrawn w d) os).cell? ⟨B2, 0, none⟩ = some (.int .i64 order) := fun d os => cell_regrown c2 d os
  have r3 : ∀ d os, (grow (redrawn w d) os).cell? ⟨B3, 0, none⟩ = some (.int .i64 line) := fun d os => cell_regrown c3 d os
  clear c1 c2 c3
  cases k1 : inB order 0 ((s.os.n : Int) - 1)
  · have HM : Hid (missL s order line = true) := by show missL s order line = true; unfold missL; rw [k1]; rfl
    clear hs
    go_enter Try.func111, Try.ntmps111
    go_wp2_with fail
    refine wp_region_quiet_below (by kernel_rfl) (by kernel_rfl) ?_
    repeat (go_big_quiet_step ((go_at_call 34; exact Calls.regrown_of ((Has_any _ _ _ (by assumption)).mono (fun _ _ h => ⟨h.1, h.2 ▸ Below.refl _ _⟩)))))
    refine wpQuiet_nil ?_
    intro _ hw'
    obtain ⟨⟨dq, osq⟩, hw''⟩ := hw'
    subst hw''
    go_wp2_with fail
    go_ret
    exact ⟨by rw [HM.out]; rfl, below_regrown _ _ _⟩
  · obtain ⟨m, rfl⟩ := Int.eq_ofNat_of_zero_le (inB_true k1).1
    have hm : m < s.os.n := by have := (inB_true k1).2; omega
    obtain ⟨b, o, hoa, hb, z0, z1, hl⟩ := hs.ods m hm
    have HM : Hid (missL s (m : Int) line = !(inB line 0 (((s.os.z m).ls.n : Int) - 1))) := by show missL s (m : Int) line = _; unfold missL; rw [k1]; rfl
    have lcap := hl.cap
    have lle := hl.le
    have hln : (s.os.z m).ls.n ≤ maxLen := Nat.le_trans lle lcap
    have r5 : ∀ d os, (grow (redrawn w d) os).cell? ⟨b, o + m * 2 + 1, none⟩ = some (.slice (s.os.z m).ls.a (s.os.z m).ls.n (s.os.z m).ls.c) := fun d os => cell_regrown z1 d os
    have m1 : (0 : Int) ≤ (m : Int) := by omega
    have m2 : (m : Int) < (s.os.n : Int) := by omega
    rw [hoa] at r1
    unfold maxLen at lcap
    clear z0 z1 hl hs hoa
    generalize (s.os.z m).ls.n = LN at *
    generalize (s.os.z m).ls.c = LC at *
    generalize (s.os.z m).ls.a = LA at *
    cases k2 : inB line 0 ((LN : Int) - 1)
    all_goals
      go_enter Try.func111, Try.ntmps111
      go_wp2_with fail
      refine wp_region_quiet_below (by kernel_rfl) (by kernel_rfl) ?_
      repeat (go_big_quiet_step ((go_at_call 34; exact Calls.regrown_of ((Has_any _ _ _ (by assumption)).mono (fun _ _ h => ⟨h.1, h.2 ▸ Below.refl _ _⟩)))))
      refine wpQuiet_nil ?_
      intro _ hw'
      obtain ⟨⟨dq, osq⟩, hw''⟩ := hw'
      subst hw''
      go_wp2_with fail
      go_ret
      exact ⟨by rw [HM.out, k2]; simp, below_regrown _ _ _⟩
set_option maxRecDepth 100000 in
set_option maxHeartbeats 4000000 in
theorem allocCheck_any (p : Pl) (s : St) (order line n but : Int) (w : World) (hp : p.At w) (hs : s.At w) :
    Calls Try.prog 69 #[p.val, s.val, .int .i64 order, .int .i64 line, .int .i64 n, .int .i64 but] w fun e w' => e = .returned (.int .i64 (allocE p s order line n but)) ∧ Below w.heap.size w w' := by
  obtain ⟨W0, hW, hWB, X0, K2, K3⟩ : ∃ W, ((((w.alloc (.cells #[.slice p.ab p.nb p.cb, .slice p.sa p.ns p.cs] 25)).alloc (.cells s.cells 31)).alloc (.cells #[.int .i64 order] 3)).alloc (.cells #[.int .i64 line] 3)) = W ∧ Below w.heap.size w W ∧ Boxes W w.heap.size (w.heap.size + 1) p s ∧ Blk W (w.heap.size + 2) 3 1 (fun _ => .int .i64 order) ∧ Blk W (w.heap.size + 3) 3 1 (fun _ => .int .i64 line) :=
    ⟨_, rfl, ((two_below _ _ _).alloc (by simp; omega) _).alloc (by simp; omega) _, ((boxes_new w p s _ _).below ((Below.refl _ _).alloc (Nat.le_refl _) _)).below ((Below.refl _ _).alloc (Nat.le_refl _) _), ((Blk.mk' (cur := #[.int .i64 order]) (by simp) rfl).congr (fun j hj => by match j, hj with | 0, _ => rfl)).alloc _, (Blk.mk' (cur := #[.int .i64 line]) (by simp) rfl).congr (fun j hj => by match j, hj with | 0, _ => rfl)⟩
  have HC : Hid (∀ wk, Below W0.heap.size W0 wk → Boxes wk w.heap.size (w.heap.size + 1) p s ∧ p.At wk ∧ s.At wk ∧ Below w.heap.size w wk ∧ Blk wk (w.heap.size + 2) 3 1 (fun _ => .int .i64 order) ∧ Blk wk (w.heap.size + 3) 3 1 (fun _ => .int .i64 line)) := fun wk h => ⟨X0.below h, (hp.below hWB).below h, (hs.below hWB).below h, hWB.trans (h.mono hWB.size), K2.below h, K3.below h⟩
  have HW : Hid ((((w.alloc (.cells #[.slice p.ab p.nb p.cb, .slice p.sa p.ns p.cs] 25)).alloc (.cells #[.slice s.on.a s.on.n s.on.c, .slice s.os.a s.os.n s.os.c, .slice s.hs.a s.hs.n s.hs.c, .slice s.ms.a s.ms.n s.ms.c, .slice s.si.a s.si.n s.si.c, .slice s.so.a s.so.n s.so.c, .slice s.sf.a s.sf.n s.sf.c] 31)).alloc (.cells #[.int .i64 order] 3)).alloc (.cells #[.int .i64 line] 3) = W0) := hW
  have leb := hp.leb
  have capb0 := hp.capb
  have capb := capb0
  unfold maxLen at capb
  have hnb : p.nb ≤ maxLen := Nat.le_trans leb capb0
  clear hW X0 K2 K3 hp hs
  unfold Pl.val St.val
  go_enter Try.func69, Try.ntmps69
  go_wp2_with fail
  rw [HW.out]
  obtain ⟨X, hpk, hsk, hBw, -, -⟩ := HC.out W0 (Below.refl _ _)
  refine (stateCheck_any p s W0 hpk hsk).mono ?_
  rintro e w1 ⟨rfl, hB⟩
  clear X hpk hsk hBw HW
  obtain ⟨⟨⟨l1, d0, d1⟩, l2, c0, c1, c2, c3, c4, c5, c6⟩, hpk, hsk, hBw, k2, k3⟩ := HC.out w1 hB
  have HBW : Hid (Below w.heap.size w w1) := hBw
  clear hBw
  by_cases h0 : stateE p s = 0
  · have H0 : Hid (stateE p s = 0) := h0
    have HF : Hid (Formed p s) := (rightT h0).fm
    rw [h0]
    clear h0
    have HCL : Hid (Calls Try.prog 111 #[.pointer (some ⟨w.heap.size + 1, 0, none⟩), .pointer (some ⟨w.heap.size + 1 + 1, 0, none⟩), .pointer (some ⟨w.heap.size + 1 + 1 + 1, 0, none⟩)] w1 fun e w' => e = .returned (.bool (missL s order line)) ∧ Below w1.heap.size w1 w') := allocCheck1_any (w.heap.size + 1) (w.heap.size + 2) (w.heap.size + 3) s order line w1 hsk.os l2 k2.lt k3.lt c1 (k2.cell (j := 0) (by decide)) (k3.cell (j := 0) (by decide))
    have eg := enters_of Try.func111 (by kernel_rfl) rfl
    clear hpk hsk k2 k3 c0 c1 c2 c3 c4 c5 c6 d1
    go_wp2_with fail
    refine HCL.out.mono ?_
    rintro e w2 ⟨rfl, hB2⟩
    have hB3 := hB.trans (hB2.mono hB.size)
    clear l1 d0 l2 hB2 HCL HBW hB eg
    obtain ⟨⟨⟨l1, d0, d1⟩, l2, c0, c1, c2, c3, c4, c5, c6⟩, hpk, hsk, hBw, k2, k3⟩ := HC.out w2 hB3
    have HBW : Hid (Below w.heap.size w w2) := hBw
    clear hBw
    have HR : Hid (∀ a b c d, missL s order line = a → inB n 0 200 = b → (but != -1) = c → inB but 0 ((p.nb : Int) - 1) = d → allocR p s order line n but = (a || !b || (c && !d))) := fun a b c d e1 e2 e3 e4 => by unfold allocR; rw [e1, e2, e3, e4]
    cases m1 : missL s order line
    · have hml := m1
      cases m2 : inB n 0 200
      · have HX : Hid (allocE p s order line n but = 3) := allocE_range H0.out (by rw [HR.out _ _ _ _ m1 m2 rfl rfl]; rfl)
        clear hpk hsk k2 k3 c0 c1 c2 c3 c4 c5 c6 m1 hml
        go_wp2_with (go_at_call 24; refine calls_to (Within_any _ _ _ _) ?_)
        go_ret
        exact ⟨by rw [HX.out]; rfl, HBW.out⟩
      · cases m3 : (but != -1)
        · have HA : Hid (allocR p s order line n but = false) := by show allocR p s order line n but = false; rw [HR.out _ _ _ _ m1 m2 m3 rfl]; rfl
          have hbx := m3
          obtain ⟨a, b, -, -⟩ := allocR_no HA.out
          obtain ⟨o, rfl⟩ := Int.eq_ofNat_of_zero_le a.1
          obtain ⟨l, rfl⟩ := Int.eq_ofNat_of_zero_le b.1
          have ho : o < s.os.n := a.2
          have hl : l < (s.os.z o).ls.n := b.2
          obtain ⟨bo, oo, hoa, hbo, z0, z1, hlk⟩ := hsk.os.ods o ho
          obtain ⟨bl, ol, hla, hbl, y0, y1, y2, y3⟩ := hlk.hds l hl
          have u0 := k2.cell (j := 0) (by decide)
          have u1 := k3.cell (j := 0) (by decide)
          have u2 := k2.lt
          have u3 := k3.lt
          have q0 : (0 : Int) ≤ (o : Int) := by omega
          have q1 : (o : Int) < (s.os.n : Int) := by omega
          have q2 : (0 : Int) ≤ (l : Int) := by omega
          have q3 : (l : Int) < ((s.os.z o).ls.n : Int) := by omega
          have v1 := hsk.os.le
          have v2 := hsk.os.cap
          have v3 := hlk.le
          have v4 := hlk.cap
          unfold maxLen at v2 v4
          have HT6 : Hid (¬ (s.os.z o).k = 1 → allocE p s o l n but = 6) := fun h => allocE_done H0.out HA.out h
          have HT3 : Hid ((s.os.z o).k = 1 → ((s.os.z o).ls.z l).n < n → allocE p s o l n but = 3) := fun h h' => allocE_back H0.out HA.out h h'
          have HT0 : Hid ((s.os.z o).k = 1 → ¬ ((s.os.z o).ls.z l).n < n → allocE p s o l n but = 0) := fun h h' => allocE_ok H0.out HA.out h h'
          rw [hoa] at c1
          rw [hla] at z1
          clear hpk hsk k2 k3 c0 c2 c3 c4 c5 c6 m1 hoa hla hlk y0 y1 y2 a b HR
          generalize (s.os.z o).k = KD at *
          generalize ((s.os.z o).ls.z l).n = LB at *
          generalize (s.os.z o).ls.n = LN at *
          generalize (s.os.z o).ls.c = LC at *
          by_cases g1 : KD = 1
          · have g2 : (KD != 1) = false := by rw [g1]; rfl
            have t1 : ∀ d os, (grow (redrawn w2 d) os).cell? ⟨w.heap.size + 1, 1, none⟩ = some (.slice (some ⟨bo, oo, none⟩) s.os.n s.os.c) := fun d os => cell_regrown c1 d os
            have t2 : ∀ d os, (grow (redrawn w2 d) os).cell? ⟨w.heap.size + 2, 0, none⟩ = some (.int .i64 (o : Int)) := fun d os => cell_regrown u0 d os
            have t3 : ∀ d os, (grow (redrawn w2 d) os).cell? ⟨w.heap.size + 3, 0, none⟩ = some (.int .i64 (l : Int)) := fun d os => cell_regrown u1 d os
            have t4 : ∀ d os, (grow (redrawn w2 d) os).cell? ⟨bo, oo + o * 2 + 1, none⟩ = some (.slice (some ⟨bl, ol, none⟩) LN LC) := fun d os => cell_regrown z1 d os
            have t5 : ∀ d os, (grow (redrawn w2 d) os).cell? ⟨bl, ol + l * 4 + 3, none⟩ = some (.int .i64 LB) := fun d os => cell_regrown y3 d os
            have HTA : Hid (LB < n → allocE p s o l n but = 3) := HT3.out g1
            have HTB : Hid (¬ LB < n → allocE p s o l n but = 0) := HT0.out g1
            clear HT6 HT3 HT0 g1
            cases g3 : decide (LB < n)
            · have HX : Hid (allocE p s o l n but = 0) := HTB.out (of_decide_eq_false g3)
              have g4 : ¬ LB < n := of_decide_eq_false g3
              clear HTA HTB
              go_wp2_with (first | (go_at_call 24; refine calls_to (Within_any _ _ _ _) ?_) | (go_at_call 34; refine calls_to (Has_any _ _ _ hnb) ?_))
              refine wp_region_quiet_below (by kernel_rfl) (by kernel_rfl) ?_
              repeat (go_big_quiet_step (fail))
              refine wpQuiet_nil ?_
              intro _ hw'
              obtain ⟨⟨dq, osq⟩, hw''⟩ := hw'
              subst hw''
              go_wp2_with fail
              go_ret
              exact ⟨by rw [HX.out]; rfl, HBW.out.trans ((below_regrown _ _ _).mono HBW.out.size)⟩
            · have HX : Hid (allocE p s o l n but = 3) := HTA.out (of_decide_eq_true g3)
              have g4 : LB < n := of_decide_eq_true g3
              clear HTA HTB
              go_wp2_with (first | (go_at_call 24; refine calls_to (Within_any _ _ _ _) ?_) | (go_at_call 34; refine calls_to (Has_any _ _ _ hnb) ?_))
              refine wp_region_quiet_below (by kernel_rfl) (by kernel_rfl) ?_
              repeat (go_big_quiet_step (fail))
              refine wpQuiet_nil ?_
              intro _ hw'
              obtain ⟨⟨dq, osq⟩, hw''⟩ := hw'
              subst hw''
              go_wp2_with fail
              go_ret
              exact ⟨by rw [HX.out]; rfl, HBW.out.trans ((below_regrown _ _ _).mono HBW.out.size)⟩
          · have HX : Hid (allocE p s o l n but = 6) := HT6.out g1
            have g2 : (KD != 1) = true := by simpa using g1
            clear HT6 HT3 HT0 g1
            go_wp2_with (first | (go_at_call 24; refine calls_to (Within_any _ _ _ _) ?_) | (go_at_call 34; refine calls_to (Has_any _ _ _ hnb) ?_))
            go_ret
            exact ⟨by rw [HX.out]; rfl, HBW.out⟩
        · cases m4 : inB but 0 ((p.nb : Int) - 1)
          · have HX : Hid (allocE p s order line n but = 3) := allocE_range H0.out (by rw [HR.out _ _ _ _ m1 m2 m3 m4]; rfl)
            clear hpk hsk k2 k3 c0 c1 c2 c3 c4 c5 c6 m1 hml
            go_wp2_with (first | (go_at_call 24; refine calls_to (Within_any _ _ _ _) ?_) | (go_at_call 34; refine calls_to (Has_any _ _ _ hnb) ?_))
            go_ret
            exact ⟨by rw [HX.out]; rfl, HBW.out⟩
          · have HA : Hid (allocR p s order line n but = false) := by show allocR p s order line n but = false; rw [HR.out _ _ _ _ m1 m2 m3 m4]; rfl
            obtain ⟨a, b, -, -⟩ := allocR_no HA.out
            obtain ⟨o, rfl⟩ := Int.eq_ofNat_of_zero_le a.1
            obtain ⟨l, rfl⟩ := Int.eq_ofNat_of_zero_le b.1
            have ho : o < s.os.n := a.2
            have hl : l < (s.os.z o).ls.n := b.2
            obtain ⟨bo, oo, hoa, hbo, z0, z1, hlk⟩ := hsk.os.ods o ho
            obtain ⟨bl, ol, hla, hbl, y0, y1, y2, y3⟩ := hlk.hds l hl
            have u0 := k2.cell (j := 0) (by decide)
            have u1 := k3.cell (j := 0) (by decide)
            have u2 := k2.lt
            have u3 := k3.lt
            have q0 : (0 : Int) ≤ (o : Int) := by omega
            have q1 : (o : Int) < (s.os.n : Int) := by omega
            have q2 : (0 : Int) ≤ (l : Int) := by omega
            have q3 : (l : Int) < ((s.os.z o).ls.n : Int) := by omega
            have v1 := hsk.os.le
            have v2 := hsk.os.cap
            have v3 := hlk.le
            have v4 := hlk.cap
            unfold maxLen at v2 v4
            have HT6 : Hid (¬ (s.os.z o).k = 1 → allocE p s o l n but = 6) := fun h => allocE_done H0.out HA.out h
            have HT3 : Hid ((s.os.z o).k = 1 → ((s.os.z o).ls.z l).n < n → allocE p s o l n but = 3) := fun h h' => allocE_back H0.out HA.out h h'
            have HT0 : Hid ((s.os.z o).k = 1 → ¬ ((s.os.z o).ls.z l).n < n → allocE p s o l n but = 0) := fun h h' => allocE_ok H0.out HA.out h h'
            rw [hoa] at c1
            rw [hla] at z1
            clear hpk hsk k2 k3 c0 c2 c3 c4 c5 c6 m1 hoa hla hlk y0 y1 y2 a b HR
            generalize (s.os.z o).k = KD at *
            generalize ((s.os.z o).ls.z l).n = LB at *
            generalize (s.os.z o).ls.n = LN at *
            generalize (s.os.z o).ls.c = LC at *
            by_cases g1 : KD = 1
            · have g2 : (KD != 1) = false := by rw [g1]; rfl
              have t1 : ∀ d os, (grow (redrawn w2 d) os).cell? ⟨w.heap.size + 1, 1, none⟩ = some (.slice (some ⟨bo, oo, none⟩) s.os.n s.os.c) := fun d os => cell_regrown c1 d os
              have t2 : ∀ d os, (grow (redrawn w2 d) os).cell? ⟨w.heap.size + 2, 0, none⟩ = some (.int .i64 (o : Int)) := fun d os => cell_regrown u0 d os
              have t3 : ∀ d os, (grow (redrawn w2 d) os).cell? ⟨w.heap.size + 3, 0, none⟩ = some (.int .i64 (l : Int)) := fun d os => cell_regrown u1 d os
              have t4 : ∀ d os, (grow (redrawn w2 d) os).cell? ⟨bo, oo + o * 2 + 1, none⟩ = some (.slice (some ⟨bl, ol, none⟩) LN LC) := fun d os => cell_regrown z1 d os
              have t5 : ∀ d os, (grow (redrawn w2 d) os).cell? ⟨bl, ol + l * 4 + 3, none⟩ = some (.int .i64 LB) := fun d os => cell_regrown y3 d os
              have HTA : Hid (LB < n → allocE p s o l n but = 3) := HT3.out g1
              have HTB : Hid (¬ LB < n → allocE p s o l n but = 0) := HT0.out g1
              clear HT6 HT3 HT0 g1
              cases g3 : decide (LB < n)
              · have HX : Hid (allocE p s o l n but = 0) := HTB.out (of_decide_eq_false g3)
                have g4 : ¬ LB < n := of_decide_eq_false g3
                clear HTA HTB
                go_wp2_with (first | (go_at_call 24; refine calls_to (Within_any _ _ _ _) ?_) | (go_at_call 34; refine calls_to (Has_any _ _ _ hnb) ?_))
                refine wp_region_quiet_below (by kernel_rfl) (by kernel_rfl) ?_
                repeat (go_big_quiet_step (fail))
                refine wpQuiet_nil ?_
                intro _ hw'
                obtain ⟨⟨dq, osq⟩, hw''⟩ := hw'
                subst hw''
                go_wp2_with fail
                go_ret
                exact ⟨by rw [HX.out]; rfl, HBW.out.trans ((below_regrown _ _ _).mono HBW.out.size)⟩
              · have HX : Hid (allocE p s o l n but = 3) := HTA.out (of_decide_eq_true g3)
                have g4 : LB < n := of_decide_eq_true g3
                clear HTA HTB
                go_wp2_with (first | (go_at_call 24; refine calls_to (Within_any _ _ _ _) ?_) | (go_at_call 34; refine calls_to (Has_any _ _ _ hnb) ?_))
                refine wp_region_quiet_below (by kernel_rfl) (by kernel_rfl) ?_
                repeat (go_big_quiet_step (fail))
                refine wpQuiet_nil ?_
                intro _ hw'
                obtain ⟨⟨dq, osq⟩, hw''⟩ := hw'
                subst hw''
                go_wp2_with fail
                go_ret
                exact ⟨by rw [HX.out]; rfl, HBW.out.trans ((below_regrown _ _ _).mono HBW.out.size)⟩
            · have HX : Hid (allocE p s o l n but = 6) := HT6.out g1
              have g2 : (KD != 1) = true := by simpa using g1
              clear HT6 HT3 HT0 g1
              go_wp2_with (first | (go_at_call 24; refine calls_to (Within_any _ _ _ _) ?_) | (go_at_call 34; refine calls_to (Has_any _ _ _ hnb) ?_))
              go_ret
              exact ⟨by rw [HX.out]; rfl, HBW.out⟩
    · have HX : Hid (allocE p s order line n but = 3) := allocE_range H0.out (by rw [HR.out _ _ _ _ m1 rfl rfl rfl]; rfl)
      clear hpk hsk k2 k3 c0 c1 c2 c3 c4 c5 c6 m1
      go_wp2_with fail
      go_ret
      exact ⟨by rw [HX.out]; rfl, HBW.out⟩
  · have HX : Hid (allocE p s order line n but = stateE p s) := allocE_state h0
    clear hpk hsk k2 k3 c0 c1 c2 c3 c4 c5 c6
    go_wp2_with fail
    go_ret
    exact ⟨by rw [HX.out]; rfl, HBW.out⟩
end Go.Proofs.Ytbcacebifpagpae
namespace Go.Proofs.Ytbcacebifpagpae
open Go.RowKit Go.Shelf
set_option linter.unusedVariables false
attribute [local go_sem] Oper.semAt_some
theorem frL_prefix (p : Pl) (f : Bool) {k m : Nat} (h : k ≤ m) : frL p f k <+: frL p f m := by
  induction m with
  | zero => rw [show k = 0 by omega]; exact List.prefix_refl _
  | succ m ih =>
    by_cases hk : k = m + 1
    · rw [hk]; exact List.prefix_refl _
    · refine (ih (by omega)).trans ?_
      by_cases hf : (p.zb m).front = f
      · rw [frL_hit hf]; exact List.prefix_append _ _
      · rw [frL_miss hf]; exact List.prefix_refl _
def keepsB (n₀ Bf : Nat) (A B : World) : Prop := Below n₀ A B ∧ (∀ v, A.cell? ⟨Bf, 0, none⟩ = some v → B.cell? ⟨Bf, 0, none⟩ = some v)
set_option maxRecDepth 100000 in
set_option maxHeartbeats 2000000 in
theorem binsOf1_in (F : Fence) (n : Nat) (h6 : F.fn 79) (hro : F.round = none) (hn : 1 ≤ n) (l Bp Bf n₀ : Nat) (p : Pl) (f : Bool) (J Jx : List Int → World → Prop)
    (hY : ∀ pre x W, J pre W → pre.length < p.nb → YieldAt F (n - 1) Try.prog l #[.int .i64 x] W fun e W' =>
      (e = .returned (.bool true) ∧ J (pre ++ [x]) W' ∧ keepsB n₀ Bf W W') ∨ (e = .returned (.bool false) ∧ Jx (pre ++ [x]) W'))
    (W : World) (hJ : AbidesFrom W.heap.size J) (hn₀ : n₀ ≤ W.heap.size) (hBp : W.cell? ⟨Bp, 0, none⟩ = some (.slice p.ab p.nb p.cb)) (hBf : W.cell? ⟨Bf, 0, none⟩ = some (.bool f)) (hle : p.nb ≤ p.cb) (hcap : p.cb ≤ maxLen)
    (hL : ∀ W', Below n₀ W W' → BinsAt W' p.ab p.nb p.zb) (h0 : J [] W) :
    CallsIn F n Try.prog 79 #[.func (.yield l) #[] #[], .pointer (some ⟨Bp, 0, none⟩), .pointer (some ⟨Bf, 0, none⟩)] W fun e W' => (∃ v, e = .returned v) ∧
      ((∃ ys, ys = frL p f p.nb ∧ J ys W') ∨ (∃ pre, pre <+: frL p f p.nb ∧ Jx pre W')) := by
  unfold maxLen at hcap
  have hS : Hid (∀ wr, Below n₀ W wr → W.heap.size ≤ wr.heap.size) := fun wr h => h.size
  have HJA : Hid (∀ pre A o, J pre A → J pre (A.alloc o)) := fun pre A o h => hJ pre A (A.alloc o) none h (World.grownBy_alloc A o none) (fun r e => by cases e)
  refine callsIn_of_wp Try.func79 rfl h6 ?_ hro
  simp only [Try.ntmps79, List.size_toArray, List.length_cons, List.length_nil, Nat.reduceAdd, Nat.reduceSub, Array.replicate_succ, Array.replicate_zero, List.push_toArray, List.append_toArray, List.nil_append, List.cons_append]
  gi_wp2
  gi_loopw [9] (fun i wr => ∃ k : Nat, k ≤ p.nb ∧ i = .int .i64 k ∧ J (frL p f k) wr ∧ Below n₀ W wr ∧ wr.cell? ⟨Bf, 0, none⟩ = some (.bool f)) (fun i _ => p.nb - (intOf i).toNat)
  case atStart => exact ⟨0, Nat.zero_le _, rfl, h0, Below.refl _ _, hBf⟩
  case round =>
    obtain ⟨k, hk, rfl, hJs, hB, hcf⟩ := hrel
    by_cases hlt : k < p.nb
    · obtain ⟨b, o, hab, hb, z0, z1, z2, z3⟩ := hL _ hB k hlt
      have m1 : (0 : Int) ≤ (k : Int) := by omega
      have hltf : Bf < wr.heap.size := World.block_lt_of_cell? wr _ hcf
      have hfl := frL_len p f k
      rw [hab]
      clear hab
      by_cases hf : (p.zb k).front = f
      · rw [hf] at z0
        have hJa := HJA.out _ wr (.cells #[.bool f, .int .i64 (p.zb k).room, .int .i64 (p.zb k).low, .int .i64 (p.zb k).high] 58) hJs
        obtain ⟨fn, tmps, assign, body, hy, hR⟩ := hY (frL p f k) k _ hJa (by omega)
        gi_wp2
        refine hR.mono ?_
        rintro e W3 (⟨rfl, hJ3, hk3⟩ | ⟨rfl, hJx3⟩)
        · have hB3 : Below n₀ W W3 := (hB.alloc (Nat.le_trans hn₀ (hS.out wr hB)) _).trans hk3.1
          have hc3 : W3.cell? ⟨Bf, 0, none⟩ = some (.bool f) := hk3.2 _ ((((Below.refl wr.heap.size wr).alloc (Nat.le_refl _) _).cell (p := ⟨Bf, 0, none⟩) hltf).trans hcf)
          rw [← frL_hit hf] at hJ3
          clear hk3 hR
          gi_wp2
          go_roundw
          case rel => exact ⟨k + 1, by omega, by go_num, hJ3, hB3, hc3⟩
          case measure => simp [intOf]; omega
        · rw [← frL_hit hf] at hJx3
          gi_wp2
          refine bodyPost_ret (results_none rfl _ _ _) rfl ?_
          exact ⟨⟨_, rfl⟩, .inr ⟨frL p f (k + 1), frL_prefix p f (by omega), hJx3⟩⟩
      · have hJa := HJA.out _ wr (.cells #[.bool (p.zb k).front, .int .i64 (p.zb k).room, .int .i64 (p.zb k).low, .int .i64 (p.zb k).high] 58) hJs
        rw [← frL_miss hf] at hJa
        have hBa := hB.alloc (Nat.le_trans hn₀ (hS.out wr hB)) (.cells #[.bool (p.zb k).front, .int .i64 (p.zb k).room, .int .i64 (p.zb k).low, .int .i64 (p.zb k).high] 58)
        have hca := (((Below.refl wr.heap.size wr).alloc (Nat.le_refl _) (.cells #[.bool (p.zb k).front, .int .i64 (p.zb k).room, .int .i64 (p.zb k).low, .int .i64 (p.zb k).high] 58)).cell (p := ⟨Bf, 0, none⟩) hltf).trans hcf
        have HA : Hid (J (frL p f (k + 1)) (wr.alloc (.cells #[.bool (p.zb k).front, .int .i64 (p.zb k).room, .int .i64 (p.zb k).low, .int .i64 (p.zb k).high] 58)) ∧ Below n₀ W (wr.alloc (.cells #[.bool (p.zb k).front, .int .i64 (p.zb k).room, .int .i64 (p.zb k).low, .int .i64 (p.zb k).high] 58)) ∧ (wr.alloc (.cells #[.bool (p.zb k).front, .int .i64 (p.zb k).room, .int .i64 (p.zb k).low, .int .i64 (p.zb k).high] 58)).cell? ⟨Bf, 0, none⟩ = some (.bool f)) := ⟨hJa, hBa, hca⟩
        clear hJa hBa hca
        gi_wp2
        refine ⟨fun _ h => (by cases h), ?_⟩
        gi_wp2
        go_roundw
        case rel => exact ⟨k + 1, by omega, by go_num, HA.out.1, HA.out.2.1, HA.out.2.2⟩
        case measure => simp [intOf]; omega
    · gi_wp2
      go_end0
      have hkn : k = p.nb := by omega
      subst hkn
      exact ⟨⟨_, rfl⟩, .inl ⟨_, rfl, hJs⟩⟩
end Go.Proofs.Ytbcacebifpagpae
namespace Go.Proofs.Ytbcacebifpagpae
open Go.RowKit Go.Shelf
set_option linter.unusedVariables false
attribute [local go_sem] Oper.semAt_some
theorem keepsB_t {n₀ Bf : Nat} {A B C : World} (h : keepsB n₀ Bf A B) (k : keepsB n₀ Bf B C) : keepsB n₀ Bf A C := ⟨h.1.trans k.1, fun v hv => k.2 v (h.2 v hv)⟩
theorem keepsB_b {n₀ Bf : Nat} {w : World} (hn : n₀ ≤ w.heap.size) (hb : Bf < w.heap.size) (W : World) (l : Nat) (o o' : Obj) (hl : w.heap.size ≤ l) (h : W.heap[l]? = some o) (h1 : o.isCells = false) (h2 : o.isWalk = false) : keepsB n₀ Bf W (W.putObj l o') :=
  ⟨belowK_b hn W l o o' hl h h1 h2, fun v hv => ((belowK_b (Nat.le_refl _) W l o o' hl h h1 h2).cell (p := ⟨Bf, 0, none⟩) hb).trans hv⟩
set_option maxRecDepth 100000 in
set_option maxHeartbeats 1000000 in
theorem binsOf_in (F : Fence) (n : Nat) (h5 : F.fn 36) (hro : F.round = none) (p : Pl) (f : Bool) (w : World) :
    CallsIn F n Try.prog 36 #[p.val, .bool f] w fun e w' => e = .returned (.func (.func 79) #[] #[.pointer (some ⟨w.heap.size, 0, none⟩), .pointer (some ⟨w.heap.size + 1, 0, none⟩)]) ∧ w' = (w.alloc (.cells #[.slice p.ab p.nb p.cb, .slice p.sa p.ns p.cs] 25)).alloc (.cells #[.bool f] 4) := by
  unfold Pl.val
  refine callsIn_of_wp Try.func36 rfl h5 ?_ hro
  simp only [Try.ntmps36, List.size_toArray, List.length_cons, List.length_nil, Nat.reduceAdd, Nat.reduceSub, Array.replicate_succ, Array.replicate_zero, List.push_toArray, List.append_toArray, List.nil_append, List.cons_append]
  gi_wp2
  go_ret
  exact ⟨rfl, rfl⟩
theorem binsOf_stops (F : Fence) (n : Nat) (h6 : F.fn 79) (hro : F.round = none) (hn : 1 ≤ n) (Bp Bf n₀ : Nat) (p : Pl) (f : Bool) (w : World) (hBp : Bp < w.heap.size) (hBf : Bf < w.heap.size) (hn₀ : n₀ ≤ w.heap.size)
    (hcp : w.cell? ⟨Bp, 0, none⟩ = some (.slice p.ab p.nb p.cb)) (hcf : w.cell? ⟨Bf, 0, none⟩ = some (.bool f)) (hle : p.nb ≤ p.cb) (hcap : p.cb ≤ maxLen) (hL : ∀ W', Below n₀ w W' → BinsAt W' p.ab p.nb p.zb) :
    SeqStopsK F n Try.prog 79 #[.pointer (some ⟨Bp, 0, none⟩), .pointer (some ⟨Bf, 0, none⟩)] (fun x : Int => #[Value.int .i64 x]) (keepsB n₀ Bf) (fun ys => ys = frL p f p.nb) (fun pre => pre <+: frL p f p.nb) p.nb w := fun l J Jx W hW hJ _ hY h0 =>
  binsOf1_in F n h6 hro hn l Bp Bf n₀ p f J Jx hY W hJ (Nat.le_trans hn₀ hW.size) ((hW.cell (p := ⟨Bp, 0, none⟩) hBp).trans hcp) ((hW.cell (p := ⟨Bf, 0, none⟩) hBf).trans hcf) hle hcap (fun W' h => hL W' ((hW.mono hn₀).trans h)) h0
end Go.Proofs.Ytbcacebifpagpae
namespace Go.Proofs.Ytbcacebifpagpae
open Go.RowKit Go.Shelf
set_option linter.unusedVariables false
attribute [local go_sem] Oper.semAt_some
set_option maxRecDepth 100000 in
set_option maxHeartbeats 2000000 in
theorem WayOwn_any (p : Pl) (w : World) (hp : p.At w) :
    Calls Try.prog 70 #[p.val] w fun e w' => ∃ v, e = .returned (.tuple #[v, .int .i64 (planE p)]) ∧ w'.ownsRow w.heap.size 3 1 v (wayR p).length ((wayR p).map (Value.int .i64)) ∧ Below w.heap.size w w' := by
  have leb := hp.leb
  have capb0 := hp.capb
  have capb := capb0
  unfold maxLen at capb
  have hB0 : Below w.heap.size w (w.alloc (.cells #[.slice p.ab p.nb p.cb, .slice p.sa p.ns p.cs] 25)) := (Below.refl w.heap.size w).alloc (Nat.le_refl _) _
  obtain ⟨i1, hj, hy0, hy1, hy2⟩ := info_parts infoInt
  refine (callsIn_wide (n := 5)).1 ?_
  refine callsIn_of_wp_marks Try.func70 rfl trivial ?_ rfl
  simp only [Pl.val, Try.ntmps70, List.size_toArray, List.length_cons, List.length_nil, Nat.reduceAdd, Nat.reduceSub, Array.replicate_succ, Array.replicate_zero, List.push_toArray, List.append_toArray, List.nil_append, List.cons_append]
  by_cases h0 : planE p = 0
  · have HC : Calls Try.prog 86 #[p.val] (w.alloc (.cells #[.slice p.ab p.nb p.cb, .slice p.sa p.ns p.cs] 25)) fun e w' => e = .returned (.int .i64 0) ∧ Below (w.heap.size + 1) (w.alloc (.cells #[.slice p.ab p.nb p.cb, .slice p.sa p.ns p.cs] 25)) w' := by
      have := planCheck_any p _ (hp.below hB0)
      rw [h0, World.size_alloc] at this
      exact this
    have R := rightP h0
    have hnb := R.nb6
    have H0 : Hid (planE p = 0) := h0
    clear h0 R
    gi_wp2_with (first
      | (refine ⟨trivial, ?_⟩; gi_at_call 86; refine (callsIn_wide.2 HC).mono ?_; rintro e w1 ⟨rfl, hB⟩; have hsz := hB.size; have c0 : w1.cell? ⟨w.heap.size, 0, none⟩ = some (.slice p.ab p.nb p.cb) := (hB.cell (p := ⟨w.heap.size, 0, none⟩) (by simp)).trans (by simp); rw [World.size_alloc] at hsz)
      | (gi_at_make; refine wpListIn_make_own _ rfl _ _ 23 rfl (w.heap.size + 1) 3 i1 (.int .i64 0) 1 Try.underlying23 hj hy0 hy1 .i64 .i64 _ p.nb rfl rfl rfl (by rw [hy2]; omega) (by unfold maxLen; omega) (by omega) ?_; intro w2 hown2 hgrow2; have hB2 : Below (w.heap.size + 1) (w.alloc (.cells #[.slice p.ab p.nb p.cb, .slice p.sa p.ns p.cs] 25)) w2 := hB.grown hgrow2 (by omega) (by intro k hk; cases hk); have hsz2 := hB2.size; rw [World.size_alloc] at hsz2; have c0 : w2.cell? ⟨w.heap.size, 0, none⟩ = some (.slice p.ab p.nb p.cb) := (hB2.cell (p := ⟨w.heap.size, 0, none⟩) (by simp)).trans (by simp); have c1 : w2.cell? ⟨w.heap.size, 1, none⟩ = some (.slice p.sa p.ns p.cs) := (hB2.cell (p := ⟨w.heap.size, 1, none⟩) (by simp)).trans (by simp); have hlt2 : w.heap.size < w2.heap.size := by omega)
      | (refine ⟨trivial, ?_⟩; gi_at_call 36; refine (binsOf_in Fence.wide _ trivial rfl p true _).mono ?_; rintro e w' ⟨rfl, rfl⟩))
    obtain ⟨W3, hW3, s3, bO, hrow0, bF, cP, hB3⟩ : ∃ W3, ((w2.alloc (.cells #[(.slice (some ⟨w1.heap.size, 0, none⟩) 0 p.nb)] 23)).alloc (.cells #[.slice p.ab p.nb p.cb, .slice p.sa p.ns p.cs] 25)).alloc (.cells #[.bool true] 4) = W3 ∧ W3.heap.size = w2.heap.size + 3 ∧ _root_.Go.Boxed W3 w2.heap.size 23 (.slice (some ⟨w1.heap.size, 0, none⟩) 0 p.nb) ∧ W3.ownsRow (w.heap.size + 1) 3 1 (.slice (some ⟨w1.heap.size, 0, none⟩) 0 p.nb) 0 [] ∧ _root_.Go.Boxed W3 (w2.heap.size + 1 + 1) 4 (.bool true) ∧ W3.cell? ⟨w2.heap.size + 1, 0, none⟩ = some (.slice p.ab p.nb p.cb) ∧ Below (w.heap.size + 1) (w.alloc (.cells #[.slice p.ab p.nb p.cb, .slice p.sa p.ns p.cs] 25)) W3 := by
      refine ⟨_, rfl, by simp, ((_root_.Go.Boxed.new w2 23 _).alloc _).alloc _, ((hown2.alloc _).alloc _).alloc _, ?_, ?_, ((hB2.alloc hsz2 _).alloc (by simp; omega) _).alloc (by simp; omega) _⟩
      · have := _root_.Go.Boxed.new ((w2.alloc (.cells #[(.slice (some ⟨w1.heap.size, 0, none⟩) 0 p.nb)] 23)).alloc (.cells #[.slice p.ab p.nb p.cb, .slice p.sa p.ns p.cs] 25)) 4 (.bool true)
        rwa [World.size_alloc, World.size_alloc] at this
      · have := ((Blk.new (w2.alloc (.cells #[(.slice (some ⟨w1.heap.size, 0, none⟩) 0 p.nb)] 23)) #[.slice p.ab p.nb p.cb, .slice p.sa p.ns p.cs] 25).alloc (.cells #[.bool true] 4)).cell (j := 0) (by simp)
        rwa [World.size_alloc] at this
    have HP : Hid (∀ W', Below (w.heap.size + 1) (w.alloc (.cells #[.slice p.ab p.nb p.cb, .slice p.sa p.ns p.cs] 25)) W' → BinsAt W' p.ab p.nb p.zb) := fun W' h => (hp.bins.below hB0).below (by rw [World.size_alloc]; exact h)
    rw [hW3]
    clear hB c0 c1 hown2 hgrow2 hW3
    refine wpIn_rangeFunc_ownG rfl (by decide) (gf := 79) (lb := #[.pointer (some ⟨w2.heap.size + 1, 0, none⟩), .pointer (some ⟨w2.heap.size + 1 + 1, 0, none⟩)]) rfl trivial (enters_of Try.func79 (by kernel_rfl) rfl)
      (binsOf_stops Fence.wide _ trivial rfl (by decide) (w2.heap.size + 1) (w2.heap.size + 1 + 1) (w.heap.size + 1) p true W3 (by omega) (by omega) (by omega) cP bF.cell leb capb0 (fun W' h => HP.out W' (hB3.trans h))) keepsB_t (keepsB_b (by omega) (by omega)) (Below.refl _ _) (fun _ => rfl)
      (fun pre W => (∃ v, _root_.Go.Boxed W w2.heap.size 23 v ∧ W.ownsRow (w.heap.size + 1) 3 1 v pre.length (pre.map (Value.int .i64)) ∧ True) ∧ _root_.Go.Boxed W (w2.heap.size + 1 + 1) 4 (.bool true) ∧ Below (w.heap.size + 1) (w.alloc (.cells #[.slice p.ab p.nb p.cb, .slice p.sa p.ns p.cs] 25)) W)
      (fun _ _ _ => False)
      (OwnFrom.and (Own.from (holdsRow_own (w.heap.size + 1) w2.heap.size 23 3 1 (fun pre : List Int => pre.length) (fun pre => pre.map (Value.int .i64)) (fun _ _ => True)) _) (OwnFrom.and (Own.from (boxed_own _ _ _) _) (ownFrom_below (by simp) (by omega))))
      (fun _ _ _ _ _ hs _ _ => hs)
      ⟨⟨_, bO, hrow0, trivial⟩, bF, hB3⟩
      (fun x => { tmps := #[.agg #[.slice p.ab p.nb p.cb, .slice p.sa p.ns p.cs], .pointer (some ⟨w.heap.size, 0, none⟩), .slice none 0 0, .int .i64 0, .int .i64 0, .pointer (some ⟨w2.heap.size, 0, none⟩), .int .i64 x, undef, .agg #[.slice p.ab p.nb p.cb, .slice p.sa p.ns p.cs], .int .i64 0, .int .i64 0, .bool false, undef, .pointer (some ⟨w.heap.size, 0, none⟩), .slice p.ab p.nb p.cb, .int .i64 p.nb, (.slice (some ⟨w1.heap.size, 0, none⟩) 0 p.nb), .agg #[.slice p.ab p.nb p.cb, .slice p.sa p.ns p.cs], .func (.func 79) #[] #[.pointer (some ⟨w2.heap.size + 1, 0, none⟩), .pointer (some ⟨w2.heap.size + 1 + 1, 0, none⟩)], .int .i64 x, undef, undef, undef, undef, undef, undef, undef, undef, undef, undef, undef, undef], defers := [] }) ?assign ?body ?done ?stop
    case assign =>
      intro l x W K hK
      gi_wp2
      exact hK
    case body =>
      rintro l pre x W ⟨⟨v, hv, hrow, -⟩, hbf, hBB⟩ hlt
      have hc := hv.cell
      gi_wp2_with (gi_at_builtin; refine wpListIn_append_own _ rfl _ _ 23 rfl (w.heap.size + 1) 3 i1 (.int .i64 0) 1 8 Try.underlying23 hj hy0 hy1 hy2 rfl (by decide) _ _ _ rfl (hrow.alloc _) ⟨W.heap.size, 0, none⟩ 1 1 [.int .i64 x] rfl rfl (cell_one_new _ _ _) (by simp [Value.oneCell']) (by unfold maxLen; omega) (by omega) (by have := hBB.size; simp at this ⊢; omega) ?_; intro v' w5 hown' hgrow _; obtain ⟨g', cap', rfl⟩ := ownsRow_succ hown'; obtain ⟨hv1, hv2, hr2, hk2, hb2⟩ := hv.appended (by decide) hrow (by have := hBB.size; simpa using this) hsz2 hown' hgrow; have hc1 := hv1.cell; have hf1 := hv1.frozen; have hF5 := (hbf.alloc _).kept hgrow (hbf.not_row (by decide) hrow))
      refine ⟨hk2.from _, ⟨hb2, fun u hu => ?_⟩, ⟨_, hv2, by simpa using hr2, trivial⟩, hF5.other (by omega) _, hBB.trans hb2⟩
      rw [hbf.cell] at hu
      cases hu
      exact (hF5.other (by omega) _).cell
    case done =>
      rintro D ys W4 hD rfl ⟨⟨v, hv, hrow, -⟩, -, hBB⟩ hK
      have c0 : W4.cell? ⟨w.heap.size, 0, none⟩ = some (.slice p.ab p.nb p.cb) := (hBB.cell (p := ⟨w.heap.size, 0, none⟩) (by simp)).trans (by simp)
      have c1 : W4.cell? ⟨w.heap.size, 1, none⟩ = some (.slice p.sa p.ns p.cs) := (hBB.cell (p := ⟨w.heap.size, 1, none⟩) (by simp)).trans (by simp)
      have hsz4 : w.heap.size < W4.heap.size := by have := hBB.size; simp at this; omega
      gi_wp2_with (refine ⟨trivial, ?_⟩; gi_at_call 36; refine (binsOf_in Fence.wide _ trivial rfl p false _).mono ?_; rintro e w' ⟨rfl, rfl⟩)
      have hsB := hv.lt
      obtain ⟨W5, hW5, s5, bO, hrow5, bF, cP, hB5, hK5⟩ : ∃ W5, (W4.alloc (.cells #[.slice p.ab p.nb p.cb, .slice p.sa p.ns p.cs] 25)).alloc (.cells #[.bool false] 4) = W5 ∧ W5.heap.size = W4.heap.size + 2 ∧ _root_.Go.Boxed W5 w2.heap.size 23 v ∧ W5.ownsRow (w.heap.size + 1) 3 1 v (frL p true p.nb).length ((frL p true p.nb).map (Value.int .i64)) ∧ _root_.Go.Boxed W5 (W4.heap.size + 1) 4 (.bool false) ∧ W5.cell? ⟨W4.heap.size, 0, none⟩ = some (.slice p.ab p.nb p.cb) ∧ Below (w.heap.size + 1) (w.alloc (.cells #[.slice p.ab p.nb p.cb, .slice p.sa p.ns p.cs] 25)) W5 ∧ W5.heap[D]? = some (.deferred (some [])) := by
        refine ⟨_, rfl, by simp, (hv.alloc _).alloc _, (hrow.alloc _).alloc _, ?_, ?_, (hBB.alloc (by omega) _).alloc (by simp; omega) _, ?_⟩
        · have := _root_.Go.Boxed.new (W4.alloc (.cells #[.slice p.ab p.nb p.cb, .slice p.sa p.ns p.cs] 25)) 4 (.bool false)
          rwa [World.size_alloc] at this
        · exact ((Blk.new W4 #[.slice p.ab p.nb p.cb, .slice p.sa p.ns p.cs] 25).alloc (.cells #[.bool false] 4)).cell (j := 0) (by simp)
        · have hD4 := (Array.getElem?_eq_some_iff.1 hK).1
          exact ((((Below.refl W4.heap.size W4).alloc (Nat.le_refl _) _).alloc (by simp) _).block D hD4).trans hK
      have hD4 := (Array.getElem?_eq_some_iff.1 hK).1
      have hfl := frL_two p p.nb
      rw [hW5]
      clear hv hrow hBB hK c0 c1 hW5 hB3
      refine wpIn_rangeFunc_ownG rfl (by decide) (gf := 79) (lb := #[.pointer (some ⟨W4.heap.size, 0, none⟩), .pointer (some ⟨W4.heap.size + 1, 0, none⟩)]) rfl trivial (enters_of Try.func79 (by kernel_rfl) rfl)
        (binsOf_stops Fence.wide _ trivial rfl (by decide) W4.heap.size (W4.heap.size + 1) (w.heap.size + 1) p false W5 (by omega) (by omega) (by omega) cP bF.cell leb capb0 (fun W' h => HP.out W' (hB5.trans h))) keepsB_t (keepsB_b (by omega) (by omega)) (Below.refl _ _) (fun _ => rfl)
        (fun pre W => (∃ v, _root_.Go.Boxed W w2.heap.size 23 v ∧ W.ownsRow (w.heap.size + 1) 3 1 v (frL p true p.nb ++ pre).length ((frL p true p.nb ++ pre).map (Value.int .i64)) ∧ True) ∧ _root_.Go.Boxed W (W4.heap.size + 1) 4 (.bool false) ∧ Below (w.heap.size + 1) (w.alloc (.cells #[.slice p.ab p.nb p.cb, .slice p.sa p.ns p.cs] 25)) W ∧ W.heap[D]? = some (.deferred (some [])))
        (fun _ _ _ => False)
        (OwnFrom.and (Own.from (holdsRow_own (w.heap.size + 1) w2.heap.size 23 3 1 (fun pre : List Int => (frL p true p.nb ++ pre).length) (fun pre => (frL p true p.nb ++ pre).map (Value.int .i64)) (fun _ _ => True)) _) (OwnFrom.and (Own.from (boxed_own _ _ _) _) (OwnFrom.and (ownFrom_below (by simp) (by omega)) (fun s A B row hs hg hr => (hg.block D (Array.getElem?_eq_some_iff.1 hs).1 (fun e => by have := (hr D e.symm).1; omega)).trans hs))))
        (fun _ _ _ _ _ hs _ _ => hs)
        ⟨⟨_, bO, by simpa using hrow5, trivial⟩, bF, hB5, hK5⟩
        (fun x => { tmps := #[.agg #[.slice p.ab p.nb p.cb, .slice p.sa p.ns p.cs], .pointer (some ⟨w.heap.size, 0, none⟩), .slice none 0 0, .int .i64 0, .int .i64 0, .pointer (some ⟨w2.heap.size, 0, none⟩), undef, .int .i64 x, .agg #[.slice p.ab p.nb p.cb, .slice p.sa p.ns p.cs], .int .i64 0, .int .i64 0, .bool false, undef, .pointer (some ⟨w.heap.size, 0, none⟩), .slice p.ab p.nb p.cb, .int .i64 p.nb, (.slice (some ⟨w1.heap.size, 0, none⟩) 0 p.nb), .agg #[.slice p.ab p.nb p.cb, .slice p.sa p.ns p.cs], .func (.func 79) #[] #[.pointer (some ⟨w2.heap.size + 1, 0, none⟩), .pointer (some ⟨w2.heap.size + 1 + 1, 0, none⟩)], undef, undef, undef, undef, undef, .agg #[.slice p.ab p.nb p.cb, .slice p.sa p.ns p.cs], .func (.func 79) #[] #[.pointer (some ⟨W4.heap.size, 0, none⟩), .pointer (some ⟨W4.heap.size + 1, 0, none⟩)], .int .i64 x, undef, undef, undef, undef, undef], defers := [] }) ?assign2 ?body2 ?done2 ?stop2
      case assign2 =>
        intro l x W K hK
        gi_wp2
        exact hK
      case body2 =>
        rintro l pre x W ⟨⟨v, hv, hrow, -⟩, hbf, hBB, hKD⟩ hlt
        have hc := hv.cell
        have hll : (frL p true p.nb ++ pre).length ≤ 2 * p.nb := by rw [List.length_append]; omega
        gi_wp2_with (gi_at_builtin; refine wpListIn_append_own _ rfl _ _ 23 rfl (w.heap.size + 1) 3 i1 (.int .i64 0) 1 8 Try.underlying23 hj hy0 hy1 hy2 rfl (by decide) _ _ _ rfl (hrow.alloc _) ⟨W.heap.size, 0, none⟩ 1 1 [.int .i64 x] rfl rfl (cell_one_new _ _ _) (by simp [Value.oneCell']) (by unfold maxLen; omega) (by omega) (by have := hBB.size; simp at this ⊢; omega) ?_; intro v' w5 hown' hgrow _; obtain ⟨g', cap', rfl⟩ := ownsRow_succ hown'; obtain ⟨hv1, hv2, hr2, hk2, hb2⟩ := hv.appended (by decide) hrow (by have := hBB.size; simpa using this) hsz2 hown' hgrow; have hc1 := hv1.cell; have hf1 := hv1.frozen; have hF5 := (hbf.alloc _).kept hgrow (hbf.not_row (by decide) hrow))
        simp only [List.length_append] at hv2 hr2 hk2 hb2
        refine ⟨hk2.from _, ⟨hb2, fun u hu => ?_⟩, ⟨_, hv2, by simpa [Nat.add_assoc] using hr2, trivial⟩, hF5.other (by omega) _, hBB.trans hb2, hk2.same D _ hKD rfl⟩
        rw [hbf.cell] at hu
        cases hu
        exact (hF5.other (by omega) _).cell
      case done2 =>
        rintro D2 ys W hD2 rfl ⟨⟨v, hv, hrow, -⟩, -, hBB, hK1⟩ hK2
        have hc := hv.cell
        gi_wp2
        refine ⟨by simp, .inl ⟨_, _, rfl, run_takeDeferred hK2, ?_⟩⟩
        have hne : D ≠ D2 := by omega
        have hK1' : (W.putObj D2 (.deferred none)).heap[D]? = some (.deferred (some [])) := ((grownBy_putObj' W D2 (.deferred none)).block D (Array.getElem?_eq_some_iff.1 hK1).1 (fun e => hne (by cases e; rfl))).trans hK1
        refine ⟨by simp, .inl ⟨_, _, rfl, run_takeDeferred hK1', ?_⟩⟩
        have hr2 := ownsRow_putObj (ownsRow_putObj hrow (.deferred none) hK2 rfl) (.deferred none) hK1' rfl
        have hb1 : Below (w.heap.size + 1) (w.alloc (.cells #[.slice p.ab p.nb p.cb, .slice p.sa p.ns p.cs] 25)) (W.putObj D2 (.deferred none)) := hBB.trans (belowK_b (w := W5) (by omega) W D2 _ _ hD2 hK2 rfl rfl)
        have hb2 := hb1.trans (belowK_b (w := W3) (by omega) (W.putObj D2 (.deferred none)) D _ (.deferred none) hD hK1' rfl rfl)
        rw [H0.out, wayR_yes H0.out]
        exact ⟨_, results_tmp2 rfl _ _ _, _, rfl, owns_low hr2 (Nat.le_succ _), hB0.trans (hb2.mono (by omega))⟩
      case stop2 =>
        rintro D c pre W _ _ h _
        exact h.elim
    case stop =>
      rintro D c pre W _ _ h _
      exact h.elim
  · gi_wp2_with (refine ⟨trivial, ?_⟩; gi_at_call 86; refine (callsIn_wide.2 (planCheck_any p _ (hp.below hB0))).mono ?_; rintro e w1 ⟨rfl, hB⟩)
    rw [wayR_no h0]
    exact ⟨_, results_tmp2 rfl _ _ _, _, rfl, World.ownsRow_nil _ _ _ _, hB0.trans (hB.mono (by simp))⟩
end Go.Proofs.Ytbcacebifpagpae
namespace Go.Proofs.Ytbcacebifpagpae
open Go.RowKit Go.Shelf Go.Sort
set_option linter.unusedVariables false
theorem Take1_any (B : Nat) (x but : Int) (w : World) (hB : B < w.heap.size) (c : w.cell? ⟨B, 0, none⟩ = some (.int .i64 but)) :
    Calls Try.prog 72 #[.int .i64 x, .pointer (some ⟨B, 0, none⟩)] w fun e w' => e = .returned (.bool (x == but)) ∧ Below w.heap.size w w' := by
  go_enter Try.func72, Try.ntmps72
  go_wp2_with fail
  go_ret
  exact ⟨rfl, Below.refl _ _⟩
def TakeInv (s : St) (o l : Nat) (n : Int) (av : Int → Int) (F : List Int) (A BX BL g k : Nat) (wk : World) : Prop :=
  ∃ x : St, Took s o l n (Tk.go av n (F.take k)) x ∧ OwnS A wk x ∧ Blk wk BX 31 7 (fun j => x.cells.getD j default) ∧ Blk wk g 3 F.length (fun j => .int .i64 (F.getD j 0)) ∧ (x.os.z o).ls.a = some ⟨BL, 0, none⟩
theorem take_more {F : List Int} {k : Nat} (hk : k < F.length) : F.take (k + 1) = F.take k ++ [F.getD k 0] := by
  rw [List.take_add_one]
  simp [List.getD, List.getElem?_eq_getElem hk]
theorem getD_mem {F : List Int} {k : Nat} (hk : k < F.length) : F.getD k 0 ∈ F := by
  simp [List.getD, List.getElem?_eq_getElem hk]
theorem avail_okA {p : Pl} {s : St} {b g : Nat} (h : stateE p s = 0) (hb : b < p.nb) (hg : g < p.ns) : availE p s b g = 0 ∧ availV p s b g = availZ s b g := by
  have e : availE p s b g = 0 := by unfold availE; rw [if_pos h, inB_mk (by omega), inB_mk (by omega)]; rfl
  exact ⟨e, by unfold availV; rw [if_pos e]; rfl⟩
theorem avail_bdA {p : Pl} {s : St} {b g : Nat} (r : RightT p s) (hb : b < p.nb) (hg : g < p.ns) : 0 ≤ availZ s b g ∧ availZ s b g ≤ 200 := by
  have f := r.fm
  refine ⟨(goods_no (r.goods g hg)).2 b hb, ?_⟩
  have h1 := f.sh.num b (by rw [f.sh.n]; exact hb) g hg
  have h2 := (heldTo_bd (s := s) (b := b) (g := g) f.holdN).1
  have h3 := (fromTo_bd (s := s) (b := b) (g := g) f.moveN).1
  unfold availZ
  omega
set_option maxRecDepth 100000 in
set_option maxHeartbeats 8000000 in
theorem Take_any (p : Pl) (s : St) (order line n but : Int) (w : World) (hp : p.At w) (hs : s.At w) :
    Calls Try.prog 27 #[p.val, s.val, .int .i64 order, .int .i64 line, .int .i64 n, .int .i64 but] w fun e w' => ∃ x : St, e = .returned (.tuple #[x.val, .int .i64 (allocL p s order line n but), .int .i64 (allocE p s order line n but)]) ∧ x.At w' ∧ AllocOK p s order line n but x ∧ (allocE p s order line n but = 0 → OwnS w.heap.size w' x) ∧ Below w.heap.size w w' := by
  obtain ⟨W0, hW, hWB, X0, K0, Z0⟩ : ∃ W, ((((w.alloc (.cells #[.slice p.ab p.nb p.cb, .slice p.sa p.ns p.cs] 25)).alloc (.cells s.cells 31)).alloc (.cells #[.int .i64 but] 3)).alloc (.cells #[.slice .none 0 0, .slice .none 0 0, .slice .none 0 0, .slice .none 0 0, .slice .none 0 0, .slice .none 0 0, .slice .none 0 0] 31)) = W ∧ Below w.heap.size w W ∧ Boxes W w.heap.size (w.heap.size + 1) p s ∧ Blk W (w.heap.size + 2) 3 1 (fun _ => .int .i64 but) ∧ Blk W (w.heap.size + 3) 31 7 (fun _ => .slice .none 0 0) :=
    ⟨_, rfl, ((two_below _ _ _).alloc (by simp; omega) _).alloc (by simp; omega) _, ((boxes_new w p s _ _).below ((Below.refl _ _).alloc (Nat.le_refl _) _)).below ((Below.refl _ _).alloc (Nat.le_refl _) _), ((Blk.mk' (cur := #[.int .i64 but]) (by simp) rfl).congr (fun j hj => by match j, hj with | 0, _ => rfl)).alloc _, (Blk.mk' (cur := #[.slice .none 0 0, .slice .none 0 0, .slice .none 0 0, .slice .none 0 0, .slice .none 0 0, .slice .none 0 0, .slice .none 0 0]) (by simp) rfl).congr (fun j hj => by match j, hj with | 0, _ => rfl | 1, _ => rfl | 2, _ => rfl | 3, _ => rfl | 4, _ => rfl | 5, _ => rfl | 6, _ => rfl)⟩
  have HC : Hid (∀ wk, Below W0.heap.size W0 wk → Boxes wk w.heap.size (w.heap.size + 1) p s ∧ p.At wk ∧ s.At wk ∧ Below w.heap.size w wk ∧ Blk wk (w.heap.size + 3) 31 7 (fun _ => .slice .none 0 0) ∧ Blk wk (w.heap.size + 2) 3 1 (fun _ => .int .i64 but)) := fun wk h => ⟨X0.below h, (hp.below hWB).below h, (hs.below hWB).below h, hWB.trans (h.mono hWB.size), Z0.below h, K0.below h⟩
  have HW : Hid ((((w.alloc (.cells #[.slice p.ab p.nb p.cb, .slice p.sa p.ns p.cs] 25)).alloc (.cells #[.slice s.on.a s.on.n s.on.c, .slice s.os.a s.os.n s.os.c, .slice s.hs.a s.hs.n s.hs.c, .slice s.ms.a s.ms.n s.ms.c, .slice s.si.a s.si.n s.si.c, .slice s.so.a s.so.n s.so.c, .slice s.sf.a s.sf.n s.sf.c] 31)).alloc (.cells #[.int .i64 but] 3)).alloc (.cells #[.slice .none 0 0, .slice .none 0 0, .slice .none 0 0, .slice .none 0 0, .slice .none 0 0, .slice .none 0 0, .slice .none 0 0] 31) = W0) := hW
  have leb := hp.leb
  have capb0 := hp.capb
  have capb := capb0
  have les := hp.les
  have caps := hp.caps
  have zlt0 := Z0.lt
  unfold maxLen at capb caps
  clear hW X0 Z0 K0 hp hs
  unfold Pl.val St.val
  go_enter Try.func27, Try.ntmps27
  go_wp2_with fail
  rw [HW.out]
  obtain ⟨X, hpk, hsk, hBw, hz, kb⟩ := HC.out W0 (Below.refl _ _)
  refine (allocCheck_any p s order line n but W0 hpk hsk).mono ?_
  rintro e w1 ⟨rfl, hB⟩
  clear X hpk hsk hBw hz kb HW
  obtain ⟨⟨⟨l1, d0, d1⟩, l2, c0, c1, c2, c3, c4, c5, c6⟩, hpk, hsk, hBw, hz, kb⟩ := HC.out w1 hB
  by_cases hE : allocE p s order line n but = 0
  · have HE : Hid (allocE p s order line n but = 0) := hE
    have HI : Hid (AllocIn p s order line n but) := allocIn hE
    rw [hE]
    clear hE
    have HRT : Hid (RightT p s) := rightT HI.out.st
    have HP0 : Hid (planE p = 0) := (rightS HRT.out.fm.sh0).1
    obtain ⟨o, rfl⟩ := Int.eq_ofNat_of_zero_le HI.out.o0
    obtain ⟨l, rfl⟩ := Int.eq_ofNat_of_zero_le HI.out.l0
    have ho : o < s.os.n := HI.out.on
    have hl : l < (s.os.z o).ls.n := HI.out.ln
    have nb1 := HRT.out.fm.sh.pl.nb1
    have nb6 := HRT.out.fm.sh.pl.nb6
    have HPK : Hid (p.At w1) := hpk
    clear hpk hsk c0 c1 c2 c3 c4 c5 c6 hBw hz
    go_wp2_with fail
    refine (WayOwn_any p w1 HPK.out).mono ?_
    rintro e w2 ⟨v, rfl, hown, hB2⟩
    clear l1 d0 d1 l2 HPK
    rw [wayR_yes HP0.out] at hown
    have HWL : Hid ((wayL p).length = p.nb) := way_len p
    have hv : v ≠ .slice none 0 0 := by
      rintro rfl
      rcases hown.2 with ⟨_, h0⟩ | ⟨g2, cap2, cur2, h, _⟩
      · have := HWL.out; omega
      · cases h
    obtain ⟨g, c, rfl, hc1, hc2, hg, hk⟩ := Blk.ofOwns hown hv
    have hk2 : Blk w2 g 3 (wayL p).length (fun j => .int .i64 ((wayL p).getD j 0)) := by
      have h := hk.less (m := (wayL p).length) (by omega)
      refine h.congr fun j hj => ?_
      simp [List.getD, List.getElem?_eq_getElem hj]
    have HDF : Hid (Calls Try.prog 71 #[.slice (some ⟨g, 0, none⟩) (wayL p).length c, .func (.func 72) #[] #[.pointer (some ⟨w.heap.size + 1 + 1, 0, none⟩)]] w2 fun e w' => e = .returned (.slice (some ⟨g, 0, none⟩) (wayT p but).length c) ∧ Blk w' g 3 (wayT p but).length (fun j => .int .i64 ((wayT p but).getD j 0)) ∧ Below w1.heap.size w2 w') :=
      DelI_any 72 #[.pointer (some ⟨w.heap.size + 1 + 1, 0, none⟩)] (fun x => x == but) w1.heap.size g c (wayL p) w2 hg hB2.size hc1 hc2 hk2 (enters_of Try.func72 (by kernel_rfl) rfl) (fun x wz hz => by
        have hlt := kb.lt
        exact Take1_any (w.heap.size + 1 + 1) x but wz (Nat.lt_of_lt_of_le hlt (Nat.le_trans hB2.size hz.size)) ((hz.cell (p := ⟨w.heap.size + 2, 0, none⟩) hlt).trans ((hB2.cell (p := ⟨w.heap.size + 2, 0, none⟩) hlt).trans (kb.cell (j := 0) (by decide)))))
    rw [HP0.out]
    clear hown hv hk hk2
    go_wp2_with fail
    refine HDF.out.mono ?_
    rintro e w3 ⟨rfl, hk3, hB3⟩
    have hB13 := hB2.trans hB3
    have hB' := hB.trans (hB13.mono hB.size)
    have q13 := hB13.size
    have glt := hk3.lt
    have HK3 : Hid (Blk w3 g 3 (wayT p but).length (fun j => .int .i64 ((wayT p but).getD j 0))) := hk3
    have hF6 : (wayT p but).length ≤ 6 := by
      have := HWL.out
      have := List.length_filter_le (fun b => !(b == but)) (wayL p)
      unfold wayT
      omega
    have hFc : (wayT p but).length ≤ c := by
      have := List.length_filter_le (fun b => !(b == but)) (wayL p)
      unfold wayT
      omega
    clear HDF hk3 kb hB2 hB3 hB13 hB
    obtain ⟨⟨⟨l1, d0, d1⟩, l2, c0, c1, c2, c3, c4, c5, c6⟩, hpk, hsk, hBw, hz, kb⟩ := HC.out w3 hB'
    have HCS : Hid _ := copyState_any p s w3 hsk HRT.out.fm
    clear hpk hsk hBw hz kb
    go_wp2_with fail
    refine Calls.mono HCS.out ?_
    rintro e w4 ⟨x0, rfl, hsame, hown, hB4⟩
    clear HCS l1 d0 d1 l2 c0 c1 c2 c3 c4 c5 c6
    have q4 := hB4.size
    obtain ⟨W5, hW5, hWB5, K5⟩ : ∃ W, w4.alloc (.cells #[.slice x0.on.a x0.on.n x0.on.c, .slice x0.os.a x0.os.n x0.os.c, .slice x0.hs.a x0.hs.n x0.hs.c, .slice x0.ms.a x0.ms.n x0.ms.c, .slice x0.si.a x0.si.n x0.si.c, .slice x0.so.a x0.so.n x0.so.c, .slice x0.sf.a x0.sf.n x0.sf.c] 31) = W ∧ Below w4.heap.size w4 W ∧ Blk W w4.heap.size 31 7 (fun j => x0.cells.getD j default) := ⟨_, rfl, (Below.refl _ _).alloc (Nat.le_refl _) _, Blk.mk' rfl rfl⟩
    have HW5 : Hid (w4.alloc (.cells #[.slice x0.on.a x0.on.n x0.on.c, .slice x0.os.a x0.os.n x0.os.c, .slice x0.hs.a x0.hs.n x0.hs.c, .slice x0.ms.a x0.ms.n x0.ms.c, .slice x0.si.a x0.si.n x0.si.c, .slice x0.so.a x0.so.n x0.so.c, .slice x0.sf.a x0.sf.n x0.sf.c] 31) = W5) := hW5
    have hB35 := hB4.trans (hWB5.mono hB4.size)
    have hB5 := hB'.trans (hB35.mono hB'.size)
    have hown5 := OwnS.below hown hWB5
    have hkF := HK3.out.below hB35
    have ho0 : o < x0.os.n := by rw [hsame.os.1]; exact ho
    have e0 := hsame.os.2 o ho0
    have hl0 : l < (x0.os.z o).ls.n := by rw [e0.2.1]; exact hl
    obtain ⟨gO, BL, f1, f2, f3, f4, f5, f6, f7, f8, f9, f10, f11, f12, f13, f14⟩ := hown5.lineCell ho0 hl0
    have s1 : W5.cell? ⟨w4.heap.size, 1, none⟩ = some (.slice x0.os.a x0.os.n x0.os.c) := K5.cell (j := 1) (by decide)
    have s2 := K5.lt
    have v1 := hown5.os.le
    have v2 := hown5.os.cap
    rw [f1] at s1
    have HINV : Hid (TakeInv s o l n (fun b => availZ s b.toNat (lineAt s o l).o.toNat) (wayT p but) w3.heap.size w4.heap.size BL g 0 W5) := ⟨x0, by rw [List.take_zero]; exact Took.start HRT.out.fm.hold hsame, hown5, K5, hkF, f5⟩
    have qo : (0 : Int) ≤ (o : Int) := by omega
    have ql : (0 : Int) ≤ (l : Int) := by omega
    have HB5 : Hid (Below W0.heap.size W0 W5 ∧ W0.heap.size ≤ w3.heap.size ∧ w3.heap.size ≤ w4.heap.size ∧ g < w3.heap.size ∧ w3.heap.size ≤ BL) := ⟨hB5, hB'.size, q4, glt, f6⟩
    rw [← HW5.out] at s1 s2 f3 f4 f7
    unfold maxLen at v2 f9
    clear hW5 hown hown5 hkF K5 hB4 hWB5 hB35 hB5 f1 f2 f5 f6 f10 f11 f12 f13 f14 e0 hsame HK3
    simp only [St.val]
    go_wp2_with fail
    rw [HW5.out]
    clear s1 s2 f3 f4 f7 HW5 hB' q4 q13 glt v1 v2 f8 f9
    generalize x0.os.n = XN at *
    go_loopw [4, 56] (fun nv kv wk => ∃ k : Nat, k ≤ (wayT p but).length ∧ kv = .int .i64 k ∧ nv = .int .i64 (Tk.go (fun b => availZ s b.toNat (lineAt s o l).o.toNat) n ((wayT p but).take k)).left ∧ Hid (TakeInv s o l n (fun b => availZ s b.toNat (lineAt s o l).o.toNat) (wayT p but) w3.heap.size w4.heap.size BL g k wk) ∧ Hid (Below W0.heap.size W0 wk)) (fun _ kv _ => (wayT p but).length - (intOf kv).toNat)
    case atStart => exact ⟨0, Nat.zero_le _, rfl, rfl, HINV, HB5.out.1⟩
    case round =>
      clear HINV
      obtain ⟨k, hk, rfl, rfl, HV, HBk⟩ := hrel
      have HTK : Hid (TkOK (fun b => availZ s b.toNat (lineAt s o l).o.toNat) n ((wayT p but).take k) (Tk.go (fun b => availZ s b.toNat (lineAt s o l).o.toNat) n ((wayT p but).take k))) := HI.out.tk ((wayT_apart p but).sublist (List.take_sublist _ _)) (fun x hx => HI.out.way x (List.mem_of_mem_take hx))
      have H31EP : Hid (k < (wayT p but).length → Tk.go (fun b => availZ s b.toNat (lineAt s o l).o.toNat) n ((wayT p but).take (k + 1)) = (Tk.go (fun b => availZ s b.toNat (lineAt s o l).o.toNat) n ((wayT p but).take k)).step (fun b => availZ s b.toNat (lineAt s o l).o.toNat) ((wayT p but).getD k 0)) := fun h => by rw [take_more h, Tk.go_more]
      have HEND : Hid (k = (wayT p but).length → Tk.go (fun b => availZ s b.toNat (lineAt s o l).o.toNat) n ((wayT p but).take k) = tkOf p s (lineAt s o l).o n but) := fun h => by rw [h, List.take_length]; rfl
      obtain ⟨x, hT, hO, hK, hF, hla⟩ := HV.out
      have HX : Hid (Took s o l n (Tk.go (fun b => availZ s b.toNat (lineAt s o l).o.toNat) n ((wayT p but).take k)) x ∧ OwnS w3.heap.size wr x ∧ Blk wr w4.heap.size 31 7 (fun j => x.cells.getD j default) ∧ Blk wr g 3 (wayT p but).length (fun j => .int .i64 ((wayT p but).getD j 0)) ∧ (x.os.z o).ls.a = some ⟨BL, 0, none⟩) := ⟨hT, hO, hK, hF, hla⟩
      obtain ⟨T, hTd⟩ : ∃ T, Tk.go (fun b => availZ s b.toNat (lineAt s o l).o.toNat) n ((wayT p but).take k) = T := ⟨_, rfl⟩
      rw [hTd] at HTK H31EP HEND HX ⊢
      clear hT hO hK hF hla HV hTd
      have tl0 := HTK.out.left0
      have tln := HTK.out.leftn
      have nn2 := HI.out.n2
      by_cases hlt : k < (wayT p but).length
      · have HS1 : Hid _ := H31EP.out hlt
        obtain ⟨hbm0, hbm1⟩ := HI.out.way _ (getD_mem hlt)
        have z0 := HX.out.2.2.2.1.cell (j := k) hlt
        have z1 := HX.out.2.2.2.1.lt
        obtain ⟨bv, hbv⟩ := Int.eq_ofNat_of_zero_le hbm0
        have HBV : Hid ((wayT p but).getD k 0 = (bv : Int)) := hbv
        rw [hbv] at z0 hbm1
        have hbvn : bv < p.nb := by omega
        have hgd := HI.out.good
        obtain ⟨gd, hgv⟩ := Int.eq_ofNat_of_zero_le hgd.1
        have HGV : Hid ((lineAt s o l).o = (gd : Int)) := hgv
        have hgdn : gd < p.ns := by omega
        have HAVL : Hid (∀ w', p.At w' → s.At w' → Calls Try.prog 12 #[p.val, s.val, .int .i64 (bv : Int), .int .i64 (gd : Int)] w' fun e w'' => e = .returned (.tuple #[.int .i64 (availZ s bv gd), .int .i64 0]) ∧ Below w'.heap.size w' w'') := fun w' h1 h2 => by
          have h := Avail_any p s bv gd w' h1 h2
          rw [(avail_okA HI.out.st hbvn hgdn).1, (avail_okA HI.out.st hbvn hgdn).2] at h
          exact h
        have avb := avail_bdA HRT.out hbvn hgdn
        have HAV : Hid ((fun b : Int => availZ s b.toNat (lineAt s o l).o.toNat) ((wayT p but).getD k 0) = availZ s bv gd) := by
          show availZ s ((wayT p but).getD k 0).toNat (lineAt s o l).o.toNat = _
          rw [hbv, hgv]
          rfl
        generalize hAVd : availZ s bv gd = AV at *
        clear hAVd
        have ho1 : o < x.os.n := by rw [HX.out.1.os.1]; exact ho
        have ex := HX.out.1.os.2 o ho1
        have hl1 : l < (x.os.z o).ls.n := by rw [ex.2.1]; exact hl
        obtain ⟨gO, BL', f1, f2, f3, f4, f5, f6, f7, f8, f9, f10, f11, f12, f13, f14⟩ := HX.out.2.1.lineCell ho1 hl1
        rw [HX.out.2.2.2.2] at f5
        simp only [Option.some.injEq, Addr.mk.injEq, and_true] at f5
        subst f5
        have hgx : ((x.os.z o).ls.z l).o = (gd : Int) := by
          rw [ex.2.2 l hl1, if_pos ⟨rfl, rfl⟩]
          exact hgv
        have hbx : ((x.os.z o).ls.z l).n = (lineAt s o l).n - (n - T.left) := by
          rw [ex.2.2 l hl1, if_pos ⟨rfl, rfl⟩]
          rfl
        have HBX : Hid (((x.os.z o).ls.z l).n = (lineAt s o l).n - (n - T.left)) := hbx
        have hbl := badLine_no (HRT.out.fm.line o ho l hl)
        have hbk0 : -1000 ≤ ((x.os.z o).ls.z l).n ∧ ((x.os.z o).ls.z l).n ≤ 1000 := by
          rw [hbx]
          have h1 : (lineAt s o l).n = ((s.os.z o).ls.z l).n := rfl
          rw [h1]
          omega
        rw [hgx] at f11
        obtain ⟨⟨⟨l1, d0, d1⟩, l2, c0, c1, c2, c3, c4, c5, c6⟩, hpk, hsk, hBw, hz, kb⟩ := HC.out wr HBk.out
        have HPS : Hid (p.At wr ∧ s.At wr) := ⟨hpk, hsk⟩
        have r0 : ∀ d os, (grow (redrawn wr d) os).cell? ⟨w.heap.size, 0, none⟩ = some (.slice p.ab p.nb p.cb) := fun d os => cell_regrown d0 d os
        have r1 : ∀ d os, (grow (redrawn wr d) os).cell? ⟨w.heap.size, 1, none⟩ = some (.slice p.sa p.ns p.cs) := fun d os => cell_regrown d1 d os
        have rs0 : ∀ d os, (grow (redrawn wr d) os).cell? ⟨w.heap.size + 1, 0, none⟩ = some (.slice s.on.a s.on.n s.on.c) := fun d os => cell_regrown c0 d os
        have rs1 : ∀ d os, (grow (redrawn wr d) os).cell? ⟨w.heap.size + 1, 1, none⟩ = some (.slice s.os.a s.os.n s.os.c) := fun d os => cell_regrown c1 d os
        have rs2 : ∀ d os, (grow (redrawn wr d) os).cell? ⟨w.heap.size + 1, 2, none⟩ = some (.slice s.hs.a s.hs.n s.hs.c) := fun d os => cell_regrown c2 d os
        have rs3 : ∀ d os, (grow (redrawn wr d) os).cell? ⟨w.heap.size + 1, 3, none⟩ = some (.slice s.ms.a s.ms.n s.ms.c) := fun d os => cell_regrown c3 d os
        have rs4 : ∀ d os, (grow (redrawn wr d) os).cell? ⟨w.heap.size + 1, 4, none⟩ = some (.slice s.si.a s.si.n s.si.c) := fun d os => cell_regrown c4 d os
        have rs5 : ∀ d os, (grow (redrawn wr d) os).cell? ⟨w.heap.size + 1, 5, none⟩ = some (.slice s.so.a s.so.n s.so.c) := fun d os => cell_regrown c5 d os
        have rs6 : ∀ d os, (grow (redrawn wr d) os).cell? ⟨w.heap.size + 1, 6, none⟩ = some (.slice s.sf.a s.sf.n s.sf.c) := fun d os => cell_regrown c6 d os
        have rl : ∀ d os, (grow (redrawn wr d) os).cell? ⟨BL, l * 4, none⟩ = some (.int .i64 (gd : Int)) := fun d os => cell_regrown f11 d os
        clear hbv hgv hgd hpk hsk hBw hz kb d0 d1 c0 c1 c2 c3 c4 c5 c6 l1 l2 f1 f2 f3 f4 f6 f8 f9 f10 f11 f12 f13 f14 ex hgx hbx hbl HEND hbm0 hbm1
        obtain ⟨BK, hBK⟩ : ∃ BK, ((x.os.z o).ls.z l).n = BK := ⟨_, rfl⟩
        have HBK : Hid (((x.os.z o).ls.z l).n = BK) := hBK
        rw [hBK] at hbk0
        clear hBK
        obtain ⟨N, hN⟩ : ∃ N, T.left = N := ⟨_, rfl⟩
        have HN : Hid (T.left = N) := hN
        rw [hN] at tl0 tln ⊢
        clear hN
        have q0 : (0 : Int) ≤ (k : Int) := by omega
        have HMZ : Hid (∀ m, min N AV = m → min T.left ((fun b : Int => availZ s b.toNat (lineAt s o l).o.toNat) ((wayT p but).getD k 0)) = m) := fun m h => by rw [HAV.out, HN.out]; exact h
        go_wp2_with fail
        refine wp_region_quiet_below (by kernel_rfl) (by kernel_rfl) ?_
        repeat (go_big_quiet_step ((go_at_call 12; exact Calls.regrown_of (HAVL.out _ (HPS.out.1.below (below_regrown _ _ _)) (HPS.out.2.below (below_regrown _ _ _))))))
        refine wpQuiet_nil ?_
        intro w9 hw9
        have hB9 : Below wr.heap.size wr w9 := by obtain ⟨⟨dq, osq⟩, hw''⟩ := hw9; subst hw''; exact below_regrown _ _ _
        clear hw9 r0 r1 rs0 rs1 rs2 rs3 rs4 rs5 rs6 rl HPS z0 z1 HAVL
        have HBk9 : Hid (Below W0.heap.size W0 w9) := HBk.out.trans (hB9.mono HBk.out.size)
        have HX9 : Hid (Took s o l n T x ∧ OwnS w3.heap.size w9 x ∧ Blk w9 w4.heap.size 31 7 (fun j => x.cells.getD j default) ∧ Blk w9 g 3 (wayT p but).length (fun j => .int .i64 ((wayT p but).getD j 0)) ∧ (x.os.z o).ls.a = some ⟨BL, 0, none⟩) := ⟨HX.out.1, OwnS.below HX.out.2.1 hB9, HX.out.2.2.1.below hB9, HX.out.2.2.2.1.below hB9, HX.out.2.2.2.2⟩
        clear hB9 HX HBk f7
        by_cases hm0 : min AV N = 0
        · have hm1 : min N AV = 0 := by omega
          have HNX : Hid (TakeInv s o l n (fun b => availZ s b.toNat (lineAt s o l).o.toNat) (wayT p but) w3.heap.size w4.heap.size BL g (k + 1) w9 ∧ (Tk.go (fun b => availZ s b.toNat (lineAt s o l).o.toNat) n ((wayT p but).take (k + 1))).left = N) := by
            refine ⟨⟨x, ?_, HX9.out.2⟩, ?_⟩
            · rw [HS1.out]
              exact HX9.out.1.stepZero (HMZ.out 0 hm1)
            · rw [HS1.out]
              show T.left - min T.left _ = N
              rw [HMZ.out 0 hm1, HN.out]
              omega
          go_wp2_with fail
          go_roundw
          case rel => exact ⟨k + 1, by omega, by go_num, by rw [HNX.out.2], HNX.out.1, HBk9⟩
          case measure => simp [intOf]; omega
        · obtain ⟨MV, hMV⟩ : ∃ MV, min AV N = MV := ⟨_, rfl⟩
          have HMV : Hid (min AV N = MV) := hMV
          have mv0 : 0 < MV := by omega
          have mv1 : MV ≤ N := by omega
          have mvd : (MV == 0) = false := by simp; omega
          have HM1 : Hid (min N AV = MV) := by show min N AV = MV; omega
          have HAE : Hid (addE x.hs.n x.hs.z (tookH o l bv MV) = 0) := by
            have h := HX9.out.1.addE (p := p) (order := o) (line := l) (but := but) HI.out (fun x hx => HI.out.way x (List.mem_of_mem_take hx)) HTK.out (b := (bv : Int)) ⟨by omega, by omega⟩ mv0 (by rw [HN.out]; exact mv1)
            exact h
          have KX := HX9.out.2.2.1
          have y2 : w9.cell? ⟨w4.heap.size, 2, none⟩ = some (.slice x.hs.a x.hs.n x.hs.c) := KX.cell (j := 2) (by decide)
          have y3 := KX.lt
          have HAD : Hid (Calls Try.prog 73 #[.slice x.hs.a x.hs.n x.hs.c, .agg #[.int .i64 (o : Int), .int .i64 (l : Int), .int .i64 (bv : Int), .int .i64 MV]] w9 fun e w' => ∃ s' : Hs, e = .returned (.tuple #[s'.val, .int .i64 0]) ∧ OwnH w9.heap.size 70 w' s' ∧ AddOK x.hs.n x.hs.z (tookH o l bv MV) s' ∧ Below w9.heap.size w9 w') := by
            have h := AddOwn_any x.hs (tookH o l bv MV) w9 HX9.out.2.1.hs.at
            rw [HAE.out] at h
            exact h
          clear KX hm0 HMV
          go_wp2_with fail
          refine HAD.out.mono ?_
          rintro e wa ⟨y, rfl, yown, yok, hBa⟩
          clear y2 y3 HAD hMV
          have q9 := HBk9.out.size
          have qa := hBa.size
          obtain ⟨b1, b2, b3, b4, b5⟩ := HB5.out
          have hOa := OwnS.below HX9.out.2.1 hBa
          have KA := HX9.out.2.2.1.below hBa
          have FA := HX9.out.2.2.2.1.below hBa
          have hBka := HBk9.out.trans (hBa.mono HBk9.out.size)
          have hlt9 := HX9.out.2.2.1.lt
          have ho1 : o < x.os.n := by rw [HX9.out.1.os.1]; exact ho
          have hOb := (hOa.withHolds (yown.mono (by omega))).box KA 2 (.slice y.a y.n y.c)
          have KB := KA.set 2 (.slice y.a y.n y.c)
          have FB := FA.other (a := ⟨w4.heap.size, 2, none⟩) (Blk.ne2 FA KA (by decide)) (.slice y.a y.n y.c)
          have hBb := hBka.setCell (p := ⟨w4.heap.size, 2, none⟩) (by show W0.heap.size ≤ w4.heap.size; omega) (.slice y.a y.n y.c)
          have hl1 : l < (x.os.z o).ls.n := by rw [(HX9.out.1.os.2 o ho1).2.1]; exact hl
          obtain ⟨gO, BL', f1, f2, f3, f4, f5, f6, f7, f8, f9, f10, f11, f12, f13, f14⟩ := hOb.lineCell (o := o) (l := l) ho1 hl1
          have f5' : (x.os.z o).ls.a = some ⟨BL', 0, none⟩ := f5
          rw [HX9.out.2.2.2.2] at f5'
          simp only [Option.some.injEq, Addr.mk.injEq, and_true] at f5'
          subst f5'
          have f14' : (wa.setCell ⟨w4.heap.size, 2, none⟩ (.slice y.a y.n y.c)).cell? ⟨BL, l * 4 + 3, none⟩ = some (.int .i64 ((x.os.z o).ls.z l).n) := f14
          rw [HBK.out] at f14'
          have g14 := f10 (l * 4 + 3)
          obtain ⟨B', hla', -, -, -, hlb⟩ := hOb.os.lines o ho1
          rw [f5] at hla'
          simp only [Option.some.injEq, Addr.mk.injEq, and_true] at hla'
          subst hla'
          have hOc := hOb.setLine (o := o) ho1 f5 l 3 (by decide) (BK - MV)
          have KC := KB.other (a := ⟨BL, l * 4 + 3, none⟩) (Blk.ne2 KB hlb (by decide)) (.int .i64 (BK - MV))
          have FC := FB.other (a := ⟨BL, l * 4 + 3, none⟩) (Blk.ne2 FB hlb (by decide)) (.int .i64 (BK - MV))
          have hBc := hBb.setCell (p := ⟨BL, l * 4 + 3, none⟩) (by show W0.heap.size ≤ BL; omega) (.int .i64 (BK - MV))
          have hTn := HX9.out.1.stepAdd (av := fun b => availZ s b.toNat (lineAt s o l).o.toNat) (order := o) (line := l) (b := (wayT p but).getD k 0) (m := MV) ho hl (HMZ.out MV HM1.out) (by rw [HBV.out]; exact HAE.out) (by rw [HBV.out]; exact yok)
          have HNX : Hid (TakeInv s o l n (fun b => availZ s b.toNat (lineAt s o l).o.toNat) (wayT p but) w3.heap.size w4.heap.size BL g (k + 1) ((wa.setCell ⟨w4.heap.size, 2, none⟩ (.slice y.a y.n y.c)).setCell ⟨BL, l * 4 + 3, none⟩ (.int .i64 (BK - MV))) ∧ (Tk.go (fun b => availZ s b.toNat (lineAt s o l).o.toNat) n ((wayT p but).take (k + 1))).left = N - MV ∧ Below W0.heap.size W0 ((wa.setCell ⟨w4.heap.size, 2, none⟩ (.slice y.a y.n y.c)).setCell ⟨BL, l * 4 + 3, none⟩ (.int .i64 (BK - MV)))) := by
            refine ⟨⟨withHolds (setLine x o l 3 (BK - MV)) y, ?_, hOc, KC.congr (fun j hj => by match j, hj with | 0, _ => rfl | 1, _ => rfl | 2, _ => rfl | 3, _ => rfl | 4, _ => rfl | 5, _ => rfl | 6, _ => rfl), FC, ?_⟩, ?_, hBc⟩
            · rw [HS1.out]
              have h := hTn
              rw [show ((x.os.z ((o : Nat) : Int).toNat).ls.z ((l : Nat) : Int).toNat).n = BK from HBK.out] at h
              exact h
            · exact ((setLine_n (s := x) (o := o) (l := l) (c := 3) (v := BK - MV) o).2.1).trans HX9.out.2.2.2.2
            · rw [HS1.out]
              show T.left - min T.left _ = N - MV
              rw [HMZ.out MV HM1.out, HN.out]
          have z1 := KA.lt
          have z2 := KA.frozen 2
          have z3 := KA.cell (j := 2) (by decide)
          clear hOa KA FA hBka hOb KB FB hBb f1 f2 f3 f4 f5 f6 f8 f9 f10 f11 f12 f13 f14 hlb hOc KC FC hBc hTn yown yok hBa HX9 HBk9 HTK HS1
          simp only [Hs.val]
          go_wp2_with fail
          go_roundw
          case rel => exact ⟨k + 1, by omega, by go_num, by rw [HNX.out.2.1], HNX.out.1, HNX.out.2.2⟩
          case measure => simp [intOf]; omega
      · have hkn : k = (wayT p but).length := by omega
        have HT : Hid (T = tkOf p s (lineAt s o l).o n but) := HEND.out hkn
        clear HEND
        have KX := HX.out.2.2.1
        obtain ⟨m1, p0, p1, p2, p3, p4, p5, p6⟩ := Boxed.of KX
        obtain ⟨-, -, -, hBw, hz, -⟩ := HC.out wr HBk.out
        have HZ : Hid (Below w.heap.size w wr ∧ Blk wr (w.heap.size + 3) 31 7 (fun _ => .slice .none 0 0)) := ⟨hBw, hz⟩
        have zl := hz.lt
        have zf0 := hz.frozen 0
        have zc0 := hz.cell (j := 0) (by decide)
        have zf1 := hz.frozen 1
        have zc1 := hz.cell (j := 1) (by decide)
        have zf2 := hz.frozen 2
        have zc2 := hz.cell (j := 2) (by decide)
        have zf3 := hz.frozen 3
        have zc3 := hz.cell (j := 3) (by decide)
        have zf4 := hz.frozen 4
        have zc4 := hz.cell (j := 4) (by decide)
        have zf5 := hz.frozen 5
        have zc5 := hz.cell (j := 5) (by decide)
        have zf6 := hz.frozen 6
        have zc6 := hz.cell (j := 6) (by decide)
        clear KX hBw hz
        go_wp2_with fail
        have KZ := set7_blk HZ.out.2 (.slice x.on.a x.on.n x.on.c) (.slice x.os.a x.os.n x.os.c) (.slice x.hs.a x.hs.n x.hs.c) (.slice x.ms.a x.ms.n x.ms.c) (.slice x.si.a x.si.n x.si.c) (.slice x.so.a x.so.n x.so.c) (.slice x.sf.a x.sf.n x.sf.c)
        have hbz := set7_below (b := w.heap.size + 3) HZ.out.1 (by omega) (.slice x.on.a x.on.n x.on.c) (.slice x.os.a x.os.n x.os.c) (.slice x.hs.a x.hs.n x.hs.c) (.slice x.ms.a x.ms.n x.ms.c) (.slice x.si.a x.si.n x.si.c) (.slice x.so.a x.so.n x.so.c) (.slice x.sf.a x.sf.n x.sf.c)
        have hOz := OwnS.set7 HX.out.2.1 HZ.out.2 (.slice x.on.a x.on.n x.on.c) (.slice x.os.a x.os.n x.os.c) (.slice x.hs.a x.hs.n x.hs.c) (.slice x.ms.a x.ms.n x.ms.c) (.slice x.si.a x.si.n x.si.c) (.slice x.so.a x.so.n x.so.c) (.slice x.sf.a x.sf.n x.sf.c)
        unfold set7 at KZ hbz hOz
        obtain ⟨c0', c1', c2', c3', c4', c5', c6'⟩ := box_cells KZ
        refine bodyPost_ret (v := .tuple #[x.val, .int .i64 T.left, .int .i64 0]) (by simp [results, Try.results27, go_sem, St.val, c0', c1', c2', c3', c4', c5', c6']) rfl ?_
        have HL : allocL p s o l n but = T.left := by rw [HT.out]; exact if_pos HE.out
        refine ⟨x, by rw [HL, HE.out]; rfl, hOz.at, ⟨fun _ => ?_, fun h => absurd HE.out h⟩, fun _ => hOz.mono ?_, hbz⟩
        · rw [← HT.out]; exact HX.out.1
        · have := (HC.out _ HB5.out.1).2.2.2.1.size
          have := HB5.out.2.1
          omega
  · have HX : Hid (allocL p s order line n but = 0) := if_neg hE
    clear c0 c1 c2 c3 c4 c5 c6 hpk hsk kb
    have zl := hz.lt
    have zf0 := hz.frozen 0
    have zc0 := hz.cell (j := 0) (by decide)
    have zf1 := hz.frozen 1
    have zc1 := hz.cell (j := 1) (by decide)
    have zf2 := hz.frozen 2
    have zc2 := hz.cell (j := 2) (by decide)
    have zf3 := hz.frozen 3
    have zc3 := hz.cell (j := 3) (by decide)
    have zf4 := hz.frozen 4
    have zc4 := hz.cell (j := 4) (by decide)
    have zf5 := hz.frozen 5
    have zc5 := hz.cell (j := 5) (by decide)
    have zf6 := hz.frozen 6
    have zc6 := hz.cell (j := 6) (by decide)
    go_wp2_with fail
    have KZ := set7_blk hz (.slice .none 0 0) (.slice .none 0 0) (.slice .none 0 0) (.slice .none 0 0) (.slice .none 0 0) (.slice .none 0 0) (.slice .none 0 0)
    have hbz := set7_below (b := w.heap.size + 3) hBw (by omega) (.slice .none 0 0) (.slice .none 0 0) (.slice .none 0 0) (.slice .none 0 0) (.slice .none 0 0) (.slice .none 0 0) (.slice .none 0 0)
    unfold set7 at KZ hbz
    obtain ⟨c0', c1', c2', c3', c4', c5', c6'⟩ := box_cells KZ
    refine bodyPost_ret (v := .tuple #[noneS.val, .int .i64 0, .int .i64 (allocE p s order line n but)]) (by simp [results, Try.results27, go_sem, noneS, St.val, c0', c1', c2', c3', c4', c5', c6']) rfl ?_
    exact ⟨noneS, by rw [HX.out]; rfl, noneS_at _, ⟨fun h => absurd h hE, fun _ => ⟨rfl, rfl, rfl, rfl, rfl, rfl, rfl⟩⟩, fun h => absurd h hE, hbz⟩
end Go.Proofs.Ytbcacebifpagpae
namespace Go.Proofs.Ytbcacebifpagpae
open Go.RowKit Go.Shelf Go.Sort
set_option linter.unusedVariables false
theorem allGot1_any (x : Hd) (w : World) :
    Calls Try.prog 68 #[x.val] w fun e w' => e = .returned (.bool (lacksL x)) ∧ Below w.heap.size w w' := by
  have hB2 := (Below.refl w.heap.size w).alloc (Nat.le_refl _) (.cells #[.int .i64 x.o, .int .i64 x.l, .int .i64 x.b, .int .i64 x.n] 40)
  unfold Hd.val
  go_enter Try.func68, Try.ntmps68
  go_wp2_with fail
  go_ret
  exact ⟨rfl, hB2⟩
set_option maxRecDepth 100000 in
theorem allGot_any (h : Hs) (w : World) (hh : h.At w) :
    Calls Try.prog 26 #[.slice h.a h.n h.c] w fun e w' => e = .returned (.bool (!anyB h.n (fun j => lacksL (h.z j)))) ∧ Below w.heap.size w w' := by
  go_enter Try.func26, Try.ntmps26
  go_wp2_with fail
  refine (anyL4 68 #[] (fun j => lacksL (h.z j)) _ _ _ _ hh.le hh.cap h.z hh.hds (enters_of Try.func68 (by kernel_rfl) rfl) (fun i w1 _ _ => allGot1_any (h.z i) w1)).mono ?_
  rintro e w1 ⟨rfl, hB⟩
  go_wp2_with fail
  go_ret
  exact ⟨rfl, hB⟩
set_option maxRecDepth 100000 in
set_option maxHeartbeats 8000000 in
theorem Pick_any (p : Pl) (s : St) (order line bin n : Int) (w : World) (hp : p.At w) (hs : s.At w) :
    Calls Try.prog 8 #[p.val, s.val, .int .i64 order, .int .i64 line, .int .i64 bin, .int .i64 n] w fun e w' => ∃ x : St, e = .returned (.tuple #[x.val, .int .i64 (pickE p s order line bin n)]) ∧ x.At w' ∧ ActOK (pickE p s order line bin n) (pickT p s order.toNat line.toNat bin.toNat n) x ∧ (pickE p s order line bin n = 0 → OwnS w.heap.size w' x) ∧ Below w.heap.size w w' := by
  obtain ⟨W0, hW, hWB, X0, Z0⟩ : ∃ W, (((w.alloc (.cells #[.slice p.ab p.nb p.cb, .slice p.sa p.ns p.cs] 25)).alloc (.cells s.cells 31)).alloc (.cells #[.slice .none 0 0, .slice .none 0 0, .slice .none 0 0, .slice .none 0 0, .slice .none 0 0, .slice .none 0 0, .slice .none 0 0] 31)) = W ∧ Below w.heap.size w W ∧ Boxes W w.heap.size (w.heap.size + 1) p s ∧ Blk W (w.heap.size + 2) 31 7 (fun _ => .slice .none 0 0) :=
    ⟨_, rfl, (two_below _ _ _).alloc (by simp; omega) _, (boxes_new w p s _ _).below ((Below.refl _ _).alloc (Nat.le_refl _) _), (Blk.mk' (cur := #[.slice .none 0 0, .slice .none 0 0, .slice .none 0 0, .slice .none 0 0, .slice .none 0 0, .slice .none 0 0, .slice .none 0 0]) (by simp) rfl).congr (fun j hj => by match j, hj with | 0, _ => rfl | 1, _ => rfl | 2, _ => rfl | 3, _ => rfl | 4, _ => rfl | 5, _ => rfl | 6, _ => rfl)⟩
  have HC : Hid (∀ wk, Below W0.heap.size W0 wk → Boxes wk w.heap.size (w.heap.size + 1) p s ∧ p.At wk ∧ s.At wk ∧ Below w.heap.size w wk ∧ Blk wk (w.heap.size + 2) 31 7 (fun _ => .slice .none 0 0)) := fun wk h => ⟨X0.below h, (hp.below hWB).below h, (hs.below hWB).below h, hWB.trans (h.mono hWB.size), Z0.below h⟩
  have HW : Hid (((w.alloc (.cells #[.slice p.ab p.nb p.cb, .slice p.sa p.ns p.cs] 25)).alloc (.cells #[.slice s.on.a s.on.n s.on.c, .slice s.os.a s.os.n s.os.c, .slice s.hs.a s.hs.n s.hs.c, .slice s.ms.a s.ms.n s.ms.c, .slice s.si.a s.si.n s.si.c, .slice s.so.a s.so.n s.so.c, .slice s.sf.a s.sf.n s.sf.c] 31)).alloc (.cells #[.slice .none 0 0, .slice .none 0 0, .slice .none 0 0, .slice .none 0 0, .slice .none 0 0, .slice .none 0 0, .slice .none 0 0] 31) = W0) := hW
  have leb := hp.leb
  have capb0 := hp.capb
  have les := hp.les
  have caps0 := hp.caps
  have capb := capb0
  have caps := caps0
  have zlt0 := Z0.lt
  unfold maxLen at capb caps
  have osl := hs.os.le
  have osc := hs.os.cap
  unfold maxLen at osc
  clear hW X0 Z0 hp hs
  unfold Pl.val St.val
  go_enter Try.func8, Try.ntmps8
  go_wp2_with fail
  rw [HW.out]
  obtain ⟨X, hpk, hsk, hBw, hz⟩ := HC.out W0 (Below.refl _ _)
  refine (stateCheck_any p s W0 hpk hsk).mono ?_
  rintro e w1 ⟨rfl, hB⟩
  clear X hpk hsk hBw hz HW
  obtain ⟨⟨⟨l1, d0, d1⟩, l2, c0, c1, c2, c3, c4, c5, c6⟩, hpk, hsk, hBw, hz⟩ := HC.out w1 hB
  by_cases h0 : stateE p s = 0
  · have H0 : Hid (stateE p s = 0) := h0
    have HR : Hid (RightT p s) := rightT h0
    rw [h0]
    clear h0
    have HSH : Hid (s.hs.At w1) := hsk.hs
    clear hpk hsk hBw hz
    go_wp2_with fail
    refine (DropOwn_any s.hs order line bin w1 HSH.out).mono ?_
    rintro e w2 ⟨hd, rfl, hdo, hdk, hB2⟩
    clear HSH l1 d0 d1 l2 c0 c1 c2 c3 c4 c5 c6
    rw [dropE_of HR.out.fm.hold, dropN_of HR.out.fm.hold]
    have hB02 := hB.trans (hB2.mono hB.size)
    have A1 : W0.heap.size ≤ w1.heap.size := hB.size
    have A2 : w1.heap.size ≤ w2.heap.size := hB2.size
    have HDO : Hid (OwnH w1.heap.size 70 w2 hd) := hdo
    have HDK : Hid (DropOK s.hs.n s.hs.z order line bin hd) := hdk
    obtain ⟨⟨⟨l1, d0, d1⟩, l2, c0, c1, c2, c3, c4, c5, c6⟩, hpk, hsk, hBw, hz⟩ := HC.out w2 hB02
    clear hdo hdk hB2 hB
    by_cases h1 : keptV s.hs.n s.hs.z order line bin = 0
    · have HX : Hid (pickE p s order line bin n = 4) := pickE_none H0.out h1
      have HNE : Hid (¬ pickE p s order line bin n = 0) := by show ¬ _; rw [HX.out]; decide
      rw [if_pos h1]
      generalize keptV s.hs.n s.hs.z order line bin = KV at *
      simp only [Hs.val]
      clear hpk hsk
      have zl := hz.lt
      have zf0 := hz.frozen 0
      have zc0 := hz.cell (j := 0) (by decide)
      have zf1 := hz.frozen 1
      have zc1 := hz.cell (j := 1) (by decide)
      have zf2 := hz.frozen 2
      have zc2 := hz.cell (j := 2) (by decide)
      have zf3 := hz.frozen 3
      have zc3 := hz.cell (j := 3) (by decide)
      have zf4 := hz.frozen 4
      have zc4 := hz.cell (j := 4) (by decide)
      have zf5 := hz.frozen 5
      have zc5 := hz.cell (j := 5) (by decide)
      have zf6 := hz.frozen 6
      have zc6 := hz.cell (j := 6) (by decide)
      go_wp2_with fail
      have KZ := set7_blk hz (.slice .none 0 0) (.slice .none 0 0) (.slice .none 0 0) (.slice .none 0 0) (.slice .none 0 0) (.slice .none 0 0) (.slice .none 0 0)
      have hbz := set7_below (b := w.heap.size + 2) hBw (by omega) (.slice .none 0 0) (.slice .none 0 0) (.slice .none 0 0) (.slice .none 0 0) (.slice .none 0 0) (.slice .none 0 0) (.slice .none 0 0)
      unfold set7 at KZ hbz
      obtain ⟨c0', c1', c2', c3', c4', c5', c6'⟩ := box_cells KZ
      refine bodyPost_ret (v := .tuple #[noneS.val, .int .i64 4]) (by simp [results, Try.results8, go_sem, noneS, St.val, c0', c1', c2', c3', c4', c5', c6']) rfl ?_
      exact ⟨noneS, by rw [HX.out]; rfl, noneS_at _, ⟨fun h => absurd h (HNE.out), fun _ => ⟨rfl, rfl, rfl, rfl, rfl, rfl, rfl⟩⟩, fun h => absurd h (HNE.out), hbz⟩
    · rw [if_neg h1]
      cases h2 : inB n 0 (keptV s.hs.n s.hs.z order line bin)
      · have HX : Hid (pickE p s order line bin n = 3) := pickE_range H0.out h1 h2
        have HNE : Hid (¬ pickE p s order line bin n = 0) := by show ¬ _; rw [HX.out]; decide
        clear h1
        generalize keptV s.hs.n s.hs.z order line bin = KV at *
        simp only [Hs.val]
        clear hpk hsk
        have zl := hz.lt
        have zf0 := hz.frozen 0
        have zc0 := hz.cell (j := 0) (by decide)
        have zf1 := hz.frozen 1
        have zc1 := hz.cell (j := 1) (by decide)
        have zf2 := hz.frozen 2
        have zc2 := hz.cell (j := 2) (by decide)
        have zf3 := hz.frozen 3
        have zc3 := hz.cell (j := 3) (by decide)
        have zf4 := hz.frozen 4
        have zc4 := hz.cell (j := 4) (by decide)
        have zf5 := hz.frozen 5
        have zc5 := hz.cell (j := 5) (by decide)
        have zf6 := hz.frozen 6
        have zc6 := hz.cell (j := 6) (by decide)
        go_wp2_with (go_at_call 24; refine calls_to (Within_any _ _ _ _) ?_)
        have KZ := set7_blk hz (.slice .none 0 0) (.slice .none 0 0) (.slice .none 0 0) (.slice .none 0 0) (.slice .none 0 0) (.slice .none 0 0) (.slice .none 0 0)
        have hbz := set7_below (b := w.heap.size + 2) hBw (by omega) (.slice .none 0 0) (.slice .none 0 0) (.slice .none 0 0) (.slice .none 0 0) (.slice .none 0 0) (.slice .none 0 0) (.slice .none 0 0)
        unfold set7 at KZ hbz
        obtain ⟨c0', c1', c2', c3', c4', c5', c6'⟩ := box_cells KZ
        refine bodyPost_ret (v := .tuple #[noneS.val, .int .i64 3]) (by simp [results, Try.results8, go_sem, noneS, St.val, c0', c1', c2', c3', c4', c5', c6']) rfl ?_
        exact ⟨noneS, by rw [HX.out]; rfl, noneS_at _, ⟨fun h => absurd h (HNE.out), fun _ => ⟨rfl, rfl, rfl, rfl, rfl, rfl, rfl⟩⟩, fun h => absurd h (HNE.out), hbz⟩
      · obtain ⟨o, l, b, rfl, rfl, rfl, hi⟩ := holdIn HR.out h1
        have HI : Hid (HoldIn p s o l b) := hi
        have gd := HI.out.good
        have bd := HI.out.bd
        have nn := inB_true h2
        have ho := HI.out.on
        have hl := HI.out.ln
        have hb := HI.out.bn
        obtain ⟨g, hg⟩ : ∃ g, lineGood s o l = g := ⟨_, rfl⟩
        have HG : Hid (lineGood s o l = g) := hg
        rw [hg] at gd
        have gl := gd.2
        obtain ⟨bo, oo, hoa, hbo, z0, z1, hlk⟩ := hsk.os.ods o ho
        obtain ⟨bl, ol, hla, hbl, y0, y1, y2, y3⟩ := hlk.hds l hl
        have ll := hlk.le
        have lc := hlk.cap
        unfold maxLen at lc
        have son := HR.out.fm.son
        obtain ⟨bs, os, hsa, hbs, x0c⟩ := hsk.so.ints g (by omega)
        have sol := hsk.so.le
        have soc := hsk.so.cap
        unfold maxLen at soc
        have HSA : Hid (s.so.a = some ⟨bs, os, none⟩) := hsa
        have HOA : Hid (s.os.a = some ⟨bo, oo, none⟩) := hoa
        rw [gd.1] at y0
        rw [hoa] at c1
        rw [hla] at z1
        rw [hsa] at c5
        have q0 : (0 : Int) ≤ (o : Int) := by omega
        have q1 : (o : Int) < (s.os.n : Int) := by omega
        have q2 : (0 : Int) ≤ (l : Int) := by omega
        have q3 : (l : Int) < ((s.os.z o).ls.n : Int) := by omega
        have q4 : (0 : Int) ≤ (g : Int) := by omega
        have sg : g < s.so.n := by omega
        have q5 : (g : Int) < (s.so.n : Int) := by omega
        have sob := HR.out.fm.sob g gl
        have HKV : Hid (heldAt s o l b = keptV s.hs.n s.hs.z o l b) := rfl
        have H1 : Hid (¬ heldAt s o l b = 0) := h1
        have H2 : Hid (inB n 0 (heldAt s o l b) = true) := h2
        have bd' : 1 ≤ keptV s.hs.n s.hs.z o l b ∧ keptV s.hs.n s.hs.z o l b ≤ 200 := ⟨bd.1, bd.2.1⟩
        clear hoa hla hlk hsa y1 y2 y3 z0 gd bd hi hg h1 son
        simp only [Hs.val]
        by_cases h3 : 1048576 < s.so.z g + n
        · have HX : Hid (pickE p s o l b n = 2) := pickE_many H0.out H1.out H2.out (by show 1048576 < s.so.z (lineGood s o l) + n; rw [HG.out]; exact h3)
          have HNE : Hid (¬ pickE p s o l b n = 0) := by show ¬ _; rw [HX.out]; decide
          have h3' : 1048576 - s.so.z g < n := by omega
          generalize keptV s.hs.n s.hs.z o l b = KV at *
          clear h3
          clear hpk hsk
          have zl := hz.lt
          have zf0 := hz.frozen 0
          have zc0 := hz.cell (j := 0) (by decide)
          have zf1 := hz.frozen 1
          have zc1 := hz.cell (j := 1) (by decide)
          have zf2 := hz.frozen 2
          have zc2 := hz.cell (j := 2) (by decide)
          have zf3 := hz.frozen 3
          have zc3 := hz.cell (j := 3) (by decide)
          have zf4 := hz.frozen 4
          have zc4 := hz.cell (j := 4) (by decide)
          have zf5 := hz.frozen 5
          have zc5 := hz.cell (j := 5) (by decide)
          have zf6 := hz.frozen 6
          have zc6 := hz.cell (j := 6) (by decide)
          go_wp2_with (go_at_call 24; refine calls_to (Within_any _ _ _ _) ?_)
          have KZ := set7_blk hz (.slice .none 0 0) (.slice .none 0 0) (.slice .none 0 0) (.slice .none 0 0) (.slice .none 0 0) (.slice .none 0 0) (.slice .none 0 0)
          have hbz := set7_below (b := w.heap.size + 2) hBw (by omega) (.slice .none 0 0) (.slice .none 0 0) (.slice .none 0 0) (.slice .none 0 0) (.slice .none 0 0) (.slice .none 0 0) (.slice .none 0 0)
          unfold set7 at KZ hbz
          obtain ⟨c0', c1', c2', c3', c4', c5', c6'⟩ := box_cells KZ
          refine bodyPost_ret (v := .tuple #[noneS.val, .int .i64 2]) (by simp [results, Try.results8, go_sem, noneS, St.val, c0', c1', c2', c3', c4', c5', c6']) rfl ?_
          exact ⟨noneS, by rw [HX.out]; rfl, noneS_at _, ⟨fun h => absurd h (HNE.out), fun _ => ⟨rfl, rfl, rfl, rfl, rfl, rfl, rfl⟩⟩, fun h => absurd h (HNE.out), hbz⟩
        · have HX : Hid (pickE p s o l b n = 0) := pickE_ok H0.out H1.out H2.out (by show ¬ 1048576 < s.so.z (lineGood s o l) + n; rw [HG.out]; exact h3)
          have HPI : Hid (PickIn p s o l b n) := by
            have h := pickIn HX.out
            obtain ⟨-, o', l', b', e1, e2, e3, h⟩ := h
            have e1' : o' = o := by omega
            have e2' : l' = l := by omega
            have e3' : b' = b := by omega
            rw [e1', e2', e3'] at h
            exact h
          have h3' : ¬ 1048576 - s.so.z g < n := by omega
          have HDN : Hid (hd.n = (dropHs s.hs o l b).n ∧ ∀ j, j < hd.n → hd.z j = (dropHs s.hs o l b).z j) := by
            have k := HDK.out
            unfold DropOK at k
            rw [dropE_of HR.out.fm.hold, if_neg (show ¬ keptV s.hs.n s.hs.z o l b = 0 from H1.out), if_pos rfl] at k
            exact k
          have HCS : Hid (Calls Try.prog 25 #[s.val] w2 fun e w' => ∃ s' : St, e = .returned s'.val ∧ SameT s' s ∧ OwnS w2.heap.size w' s' ∧ Below w2.heap.size w2 w') := copyState_any p s w2 hsk HR.out.fm
          obtain ⟨K, hK⟩ : ∃ K, keptV s.hs.n s.hs.z o l b = K := ⟨_, rfl⟩
          have HK : Hid (heldAt s o l b = K) := hK
          rw [hK] at bd' h2 nn ⊢
          clear hpk hsk hBw hz hK h3 HKV
          go_wp2_with (go_at_call 24; refine calls_to (Within_any _ _ _ _) ?_)
          rw [← HOA.out, ← HSA.out]
          refine Calls.mono HCS.out ?_
          rintro e w4 ⟨x0, rfl, hsame, hown, hB4⟩
          clear HCS l1 d0 d1 l2 c0 c1 c2 c3 c4 c5 c6 z1 hbo hbl hbs y0 x0c h2 h3' HOA HSA
          have x0n : o < x0.os.n := by rw [hsame.os.1]; exact ho
          have xk := hsame.os.2 o x0n
          have x0l : l < (x0.os.z o).ls.n := by rw [xk.2.1]; exact hl
          have x0b : b < x0.on.n := by rw [hsame.on.1, HR.out.fm.sh.n]; exact hb
          have x0g : g < (x0.on.r b).n := by rw [(hsame.on.2 b x0b).1, HR.out.fm.sh.len b (by rw [HR.out.fm.sh.n]; exact hb)]; exact gl
          have x0s : g < x0.so.n := by rw [hsame.so.1]; exact sg
          have HS0 : Hid (SameT x0 s) := hsame
          have HXV : Hid ((0 ≤ (x0.on.r b).z g ∧ (x0.on.r b).z g ≤ 200) ∧ (0 ≤ x0.so.z g ∧ x0.so.z g ≤ 1048576) ∧ (0 ≤ ((x0.os.z o).ls.z l).b ∧ ((x0.os.z o).ls.z l).b ≤ 200) ∧ 0 ≤ ((x0.os.z o).ls.z l).n ∧ ((x0.os.z o).ls.z l).n ≤ 200) := by
            have f := HR.out.fm
            have bl := badLine_no (f.line o ho l hl)
            refine ⟨?_, ?_, ?_⟩
            · rw [hsame.num f hb gl]; exact f.sh.num b (by rw [f.sh.n]; exact hb) g gl
            · rw [hsame.so.2 g x0s]; exact f.sob g gl
            · rw [hsame.line ho hl]; omega
          have v0 := HXV.out
          obtain ⟨W5, hW5, hWB5, K5⟩ : ∃ W, w4.alloc (.cells #[.slice x0.on.a x0.on.n x0.on.c, .slice x0.os.a x0.os.n x0.os.c, .slice hd.a hd.n hd.c, .slice x0.ms.a x0.ms.n x0.ms.c, .slice x0.si.a x0.si.n x0.si.c, .slice x0.so.a x0.so.n x0.so.c, .slice x0.sf.a x0.sf.n x0.sf.c] 31) = W ∧ Below w4.heap.size w4 W ∧ Blk W w4.heap.size 31 7 (fun j => (withHolds x0 hd).cells.getD j default) := ⟨_, rfl, (Below.refl _ _).alloc (Nat.le_refl _) _, Blk.mk' rfl rfl⟩
          have HW5 : Hid (w4.alloc (.cells #[.slice x0.on.a x0.on.n x0.on.c, .slice x0.os.a x0.os.n x0.os.c, .slice hd.a hd.n hd.c, .slice x0.ms.a x0.ms.n x0.ms.c, .slice x0.si.a x0.si.n x0.si.c, .slice x0.so.a x0.so.n x0.so.c, .slice x0.sf.a x0.sf.n x0.sf.c] 31) = W5) := hW5
          have hB25 := hB4.trans (hWB5.mono hB4.size)
          have hB5 := hB02.trans (hB25.mono hB02.size)
          have A3 : w2.heap.size ≤ w4.heap.size := hB4.size
          have HK5 : Hid (RelK w1.heap.size w4.heap.size W0 (withHolds x0 hd) W5) := ⟨((OwnS.below hown hWB5).mono A2).withHolds (HDO.out.below hB25), K5, hB5, by have := hB25.size; omega⟩
          clear hW5 hown K5 hB4 hWB5 hB25 hB5 hsame hB02 xk HXV
          -- what lies there
          obtain ⟨g0, G, a1, a2, a3, a4, a5, a6, a7, a8, a9, a10, a11, a12⟩ := HK5.out.own.onCell x0b x0g
          have u0 : W5.cell? ⟨w4.heap.size, 0, none⟩ = some (.slice x0.on.a x0.on.n x0.on.c) := HK5.out.box.cell (j := 0) (by decide)
          have u00 := HK5.out.box.lt
          have a1' : x0.on.a = some ⟨g0, 0, none⟩ := a1
          have a3' : W5.cell? ⟨g0, b, none⟩ = some (.slice (some ⟨G, 0, none⟩) (x0.on.r b).n (x0.on.r b).c) := a3
          have a7' : (x0.on.r b).n ≤ (x0.on.r b).c := a7
          have a8' : (x0.on.r b).c ≤ maxLen := a8
          have a9' : W5.cell? ⟨G, g, none⟩ = some (.int .i64 ((x0.on.r b).z g)) := a9
          have a11' : x0.on.n ≤ x0.on.c := a11
          have a12' : x0.on.c ≤ maxLen := a12
          have a10g := a10 g
          rw [a1'] at u0
          unfold maxLen at a8' a12'
          have r0 : (0 : Int) ≤ (b : Int) := by omega
          have r1 : (b : Int) < (x0.on.n : Int) := by omega
          have r2 : (g : Int) < ((x0.on.r b).n : Int) := by omega
          have hO6 := HK5.out.own.setOn (b := b) x0b a4 g ((x0.on.r b).z g - n)
          have GB : Blk W5 G 3 (x0.on.r b).n (fun j => .int .i64 ((x0.on.r b).z j)) := by
            obtain ⟨Gq, b1, b2, b3, b4, b5⟩ := HK5.out.own.rows b x0b
            rw [a4] at b1
            simp only [Option.some.injEq, Addr.mk.injEq, and_true] at b1
            subst b1
            exact b5
          have HK6 : Hid (RelK w1.heap.size w4.heap.size W0 (setOn (withHolds x0 hd) b g ((x0.on.r b).z g - n)) (W5.setCell ⟨G, g, none⟩ (.int .i64 ((x0.on.r b).z g - n)))) := ⟨hO6, HK5.out.box.other (a := ⟨G, g, none⟩) (Blk.ne2 HK5.out.box GB (by decide)) _, HK5.out.bel.setCell (p := ⟨G, g, none⟩) (by show W0.heap.size ≤ G; omega) _, by have := HK5.out.le; simpa using this⟩
          clear a1 a1' a3 a4 a5 a7 a8 a9 a10 a11 a12 hO6 GB
          -- what went
          obtain ⟨GS, e1, e2, e3, e4, e5, e6, e7⟩ := HK6.out.own.so.cellAt (g := g) x0s
          have e1' : x0.so.a = some ⟨GS, 0, none⟩ := e1
          have u5 : (W5.setCell ⟨G, g, none⟩ (.int .i64 ((x0.on.r b).z g - n))).cell? ⟨w4.heap.size, 5, none⟩ = some (.slice x0.so.a x0.so.n x0.so.c) := HK6.out.box.cell (j := 5) (by decide)
          have u01 := HK6.out.box.lt
          rw [e1'] at u5
          have e4' : x0.so.n ≤ x0.so.c := e4
          have e5' : x0.so.c ≤ maxLen := e5
          have e6' : (W5.setCell ⟨G, g, none⟩ (.int .i64 ((x0.on.r b).z g - n))).cell? ⟨GS, g, none⟩ = some (.int .i64 (x0.so.z g)) := e6
          unfold maxLen at e5'
          have e7g := e7 g
          have r3 : (g : Int) < (x0.so.n : Int) := by omega
          have GB : Blk (W5.setCell ⟨G, g, none⟩ (.int .i64 ((x0.on.r b).z g - n))) GS 3 x0.so.n (fun j => .int .i64 (x0.so.z j)) := by
            obtain ⟨Gq, b1, b2, b3, b4, b5⟩ := HK6.out.own.so
            have b1' : x0.so.a = some ⟨Gq, 0, none⟩ := b1
            rw [e1'] at b1'
            simp only [Option.some.injEq, Addr.mk.injEq, and_true] at b1'
            subst b1'
            exact b5
          have HK7 : Hid (RelK w1.heap.size w4.heap.size W0 (setOut (setOn (withHolds x0 hd) b g ((x0.on.r b).z g - n)) g (x0.so.z g + n)) ((W5.setCell ⟨G, g, none⟩ (.int .i64 ((x0.on.r b).z g - n))).setCell ⟨GS, g, none⟩ (.int .i64 (x0.so.z g + n)))) := ⟨HK6.out.own.setOut e1 g _, HK6.out.box.other (a := ⟨GS, g, none⟩) (Blk.ne2 HK6.out.box GB (by decide)) _, HK6.out.bel.setCell (p := ⟨GS, g, none⟩) (by show W0.heap.size ≤ GS; omega) _, by have := HK6.out.le; simpa using this⟩
          clear e1 e1' e2 e4 e5 e6 e7 GB HK6
          -- the line
          obtain ⟨gO, BL, f1, f2, f3, f4, f5, f6, f7, f8, f9, f10, f11, f12, f13, f14⟩ := HK7.out.own.lineCell (o := o) (l := l) x0n x0l
          have f1' : x0.os.a = some ⟨gO, 0, none⟩ := f1
          have u1 : ((W5.setCell ⟨G, g, none⟩ (.int .i64 ((x0.on.r b).z g - n))).setCell ⟨GS, g, none⟩ (.int .i64 (x0.so.z g + n))).cell? ⟨w4.heap.size, 1, none⟩ = some (.slice x0.os.a x0.os.n x0.os.c) := HK7.out.box.cell (j := 1) (by decide)
          have u02 := HK7.out.box.lt
          rw [f1'] at u1
          have HF1 : Hid (x0.os.a = some ⟨gO, 0, none⟩) := f1'
          have HF5 : Hid ((x0.os.z o).ls.a = some ⟨BL, 0, none⟩) := f5
          have f4' : ((W5.setCell ⟨G, g, none⟩ (.int .i64 ((x0.on.r b).z g - n))).setCell ⟨GS, g, none⟩ (.int .i64 (x0.so.z g + n))).cell? ⟨gO, o * 2 + 1, none⟩ = some (.slice (some ⟨BL, 0, none⟩) (x0.os.z o).ls.n (x0.os.z o).ls.c) := f4
          have f8' : (x0.os.z o).ls.n ≤ (x0.os.z o).ls.c := f8
          have f9' : (x0.os.z o).ls.c ≤ maxLen := f9
          have f13' : ((W5.setCell ⟨G, g, none⟩ (.int .i64 ((x0.on.r b).z g - n))).setCell ⟨GS, g, none⟩ (.int .i64 (x0.so.z g + n))).cell? ⟨BL, l * 4 + 2, none⟩ = some (.int .i64 ((x0.os.z o).ls.z l).b) := f13
          have ol1 : x0.os.n ≤ x0.os.c := HK7.out.own.os.le
          have oc1 : x0.os.c ≤ maxLen := HK7.out.own.os.cap
          unfold maxLen at f9' oc1
          have f10a := f10 (l * 4 + 2)
          have r4 : (o : Int) < (x0.os.n : Int) := by omega
          have r5 : (l : Int) < ((x0.os.z o).ls.n : Int) := by omega
          obtain ⟨Bq, hla', hAB, -, -, hlb⟩ := HK7.out.own.os.lines o x0n
          have hla2 : (x0.os.z o).ls.a = some ⟨Bq, 0, none⟩ := hla'
          rw [HF5.out] at hla2
          simp only [Option.some.injEq, Addr.mk.injEq, and_true] at hla2
          subst hla2
          have HK8 : Hid (RelK w1.heap.size w4.heap.size W0 (setLine (setOut (setOn (withHolds x0 hd) b g ((x0.on.r b).z g - n)) g (x0.so.z g + n)) o l 2 (((x0.os.z o).ls.z l).b + n)) (((W5.setCell ⟨G, g, none⟩ (.int .i64 ((x0.on.r b).z g - n))).setCell ⟨GS, g, none⟩ (.int .i64 (x0.so.z g + n))).setCell ⟨BL, l * 4 + 2, none⟩ (.int .i64 (((x0.os.z o).ls.z l).b + n)))) := ⟨HK7.out.own.setLine (o := o) x0n HF5.out l 2 (by decide) _, HK7.out.box.other (a := ⟨BL, l * 4 + 2, none⟩) (Blk.ne2 HK7.out.box hlb (by decide)) _, HK7.out.bel.setCell (p := ⟨BL, l * 4 + 2, none⟩) (by show W0.heap.size ≤ BL; omega) _, by have := HK7.out.le; simpa using this⟩
          clear f1 f1' f2 f4 f5 f6 f8 f9 f10 f11 f12 f13 f14 hla' hlb HK7
          have hl8 : l < ((setLine (setOut (setOn (withHolds x0 hd) b g ((x0.on.r b).z g - n)) g (x0.so.z g + n)) o l 2 (((x0.os.z o).ls.z l).b + n)).os.z o).ls.n := by rw [(setLine_n o).1]; exact x0l
          obtain ⟨gO2, BL2, f1, f2, g3, f4, f5, f6, g7, f8, f9, f10, f11, f12, f13, f14⟩ := HK8.out.own.lineCell (o := o) (l := l) x0n hl8
          have f1' : x0.os.a = some ⟨gO2, 0, none⟩ := f1
          rw [HF1.out] at f1'
          simp only [Option.some.injEq, Addr.mk.injEq, and_true] at f1'
          subst f1'
          rw [(setLine_n o).2.1] at f5
          have f5' : (x0.os.z o).ls.a = some ⟨BL2, 0, none⟩ := f5
          rw [HF5.out] at f5'
          simp only [Option.some.injEq, Addr.mk.injEq, and_true] at f5'
          subst f5'
          rw [(setLine_n o).1, (setLine_n o).2.2] at f4
          have g4' : (((W5.setCell ⟨G, g, none⟩ (.int .i64 ((x0.on.r b).z g - n))).setCell ⟨GS, g, none⟩ (.int .i64 (x0.so.z g + n))).setCell ⟨BL, l * 4 + 2, none⟩ (.int .i64 (((x0.os.z o).ls.z l).b + n))).cell? ⟨gO, o * 2 + 1, none⟩ = some (.slice (some ⟨BL, 0, none⟩) (x0.os.z o).ls.n (x0.os.z o).ls.c) := f4
          rw [setLine_at, if_pos ⟨rfl, rfl⟩] at f14
          have f14' : (((W5.setCell ⟨G, g, none⟩ (.int .i64 ((x0.on.r b).z g - n))).setCell ⟨GS, g, none⟩ (.int .i64 (x0.so.z g + n))).setCell ⟨BL, l * 4 + 2, none⟩ (.int .i64 (((x0.os.z o).ls.z l).b + n))).cell? ⟨BL, l * 4 + 3, none⟩ = some (.int .i64 ((x0.os.z o).ls.z l).n) := f14
          have g10a := f10 (l * 4 + 3)
          have HF5b : Hid (((setLine (setOut (setOn (withHolds x0 hd) b g ((x0.on.r b).z g - n)) g (x0.so.z g + n)) o l 2 (((x0.os.z o).ls.z l).b + n)).os.z o).ls.a = some ⟨BL, 0, none⟩) := by show _ = _; rw [(setLine_n o).2.1]; exact HF5.out
          obtain ⟨Bq, hla', hAB, -, -, hlb⟩ := HK8.out.own.os.lines o x0n
          have hla2 := hla'
          rw [HF5b.out] at hla2
          simp only [Option.some.injEq, Addr.mk.injEq, and_true] at hla2
          subst hla2
          have HK9 : Hid (RelK w1.heap.size w4.heap.size W0 (pickW x0 hd o l b g n K) ((((W5.setCell ⟨G, g, none⟩ (.int .i64 ((x0.on.r b).z g - n))).setCell ⟨GS, g, none⟩ (.int .i64 (x0.so.z g + n))).setCell ⟨BL, l * 4 + 2, none⟩ (.int .i64 (((x0.os.z o).ls.z l).b + n))).setCell ⟨BL, l * 4 + 3, none⟩ (.int .i64 (((x0.os.z o).ls.z l).n + (K - n))))) := ⟨HK8.out.own.setLine (o := o) x0n HF5b.out l 3 (by decide) _, HK8.out.box.other (a := ⟨BL, l * 4 + 3, none⟩) (Blk.ne2 HK8.out.box hlb (by decide)) _, HK8.out.bel.setCell (p := ⟨BL, l * 4 + 3, none⟩) (by show W0.heap.size ≤ BL; omega) _, by have := HK8.out.le; simpa using this⟩
          clear f1 f2 f4 f5 f6 f8 f9 f10 f11 f12 f13 f14 hla' hlb HK8
          have HSM : Hid (SameT (pickW x0 hd o l b g n K) (pickS s o l b n)) := by have h := pickW_same (n := n) HS0.out HI.out HDN.out.1 HDN.out.2; rw [HG.out, HK.out] at h; exact h
          have yk : ((pickW x0 hd o l b g n K).os.z o).ls.n = (x0.os.z o).ls.n ∧ ((pickW x0 hd o l b g n K).os.z o).ls.a = (x0.os.z o).ls.a ∧ ((pickW x0 hd o l b g n K).os.z o).ls.c = (x0.os.z o).ls.c := by
            unfold pickW
            rw [(setLine_n o).1, (setLine_n o).1, (setLine_n o).2.1, (setLine_n o).2.1, (setLine_n o).2.2, (setLine_n o).2.2]
            exact ⟨rfl, rfl, rfl⟩
          have HYK : Hid (((pickW x0 hd o l b g n K).os.z o).ls.n = (x0.os.z o).ls.n ∧ ((pickW x0 hd o l b g n K).os.z o).ls.a = (x0.os.z o).ls.a ∧ ((pickW x0 hd o l b g n K).os.z o).ls.c = (x0.os.z o).ls.c) := yk
          obtain ⟨gq, h1, h2', h3, h4, h5, h6⟩ := HK9.out.own.orderCells (o := o) x0n
          have h1' : x0.os.a = some ⟨gq, 0, none⟩ := h1
          rw [HF1.out] at h1'
          simp only [Option.some.injEq, Addr.mk.injEq, and_true] at h1'
          subst h1'
          rw [yk.1, yk.2.1, yk.2.2, HF5.out] at h5
          have HYL : Hid (Hs.At ((((W5.setCell ⟨G, g, none⟩ (.int .i64 ((x0.on.r b).z g - n))).setCell ⟨GS, g, none⟩ (.int .i64 (x0.so.z g + n))).setCell ⟨BL, l * 4 + 2, none⟩ (.int .i64 (((x0.os.z o).ls.z l).b + n))).setCell ⟨BL, l * 4 + 3, none⟩ (.int .i64 (((x0.os.z o).ls.z l).n + (K - n)))) ((pickW x0 hd o l b g n K).os.z o).ls) := by
            obtain ⟨_, _, _, _, _, _, h⟩ := HK9.out.own.at.os.ods o x0n
            exact h
          have HAG : Hid (Calls Try.prog 26 #[.slice (some ⟨BL, 0, none⟩) (x0.os.z o).ls.n (x0.os.z o).ls.c] ((((W5.setCell ⟨G, g, none⟩ (.int .i64 ((x0.on.r b).z g - n))).setCell ⟨GS, g, none⟩ (.int .i64 (x0.so.z g + n))).setCell ⟨BL, l * 4 + 2, none⟩ (.int .i64 (((x0.os.z o).ls.z l).b + n))).setCell ⟨BL, l * 4 + 3, none⟩ (.int .i64 (((x0.os.z o).ls.z l).n + (K - n)))) fun e w' => e = .returned (.bool (gotAll (pickW x0 hd o l b g n K) o)) ∧ Below ((((W5.setCell ⟨G, g, none⟩ (.int .i64 ((x0.on.r b).z g - n))).setCell ⟨GS, g, none⟩ (.int .i64 (x0.so.z g + n))).setCell ⟨BL, l * 4 + 2, none⟩ (.int .i64 (((x0.os.z o).ls.z l).b + n))).setCell ⟨BL, l * 4 + 3, none⟩ (.int .i64 (((x0.os.z o).ls.z l).n + (K - n)))).heap.size ((((W5.setCell ⟨G, g, none⟩ (.int .i64 ((x0.on.r b).z g - n))).setCell ⟨GS, g, none⟩ (.int .i64 (x0.so.z g + n))).setCell ⟨BL, l * 4 + 2, none⟩ (.int .i64 (((x0.os.z o).ls.z l).b + n))).setCell ⟨BL, l * 4 + 3, none⟩ (.int .i64 (((x0.os.z o).ls.z l).n + (K - n)))) w') := by
            have h := allGot_any ((pickW x0 hd o l b g n K).os.z o).ls ((((W5.setCell ⟨G, g, none⟩ (.int .i64 ((x0.on.r b).z g - n))).setCell ⟨GS, g, none⟩ (.int .i64 (x0.so.z g + n))).setCell ⟨BL, l * 4 + 2, none⟩ (.int .i64 (((x0.os.z o).ls.z l).b + n))).setCell ⟨BL, l * 4 + 3, none⟩ (.int .i64 (((x0.os.z o).ls.z l).n + (K - n)))) HYL.out
            rw [HYK.out.1, HYK.out.2.1, HYK.out.2.2, HF5.out] at h
            have e : gotAll (pickW x0 hd o l b g n K) o = !anyB (x0.os.z o).ls.n (fun j => lacksL (((pickW x0 hd o l b g n K).os.z o).ls.z j)) := by unfold gotAll; rw [HYK.out.1]
            rw [e]
            exact h
          clear yk h1 h2' h4 h6 HYL
          rw [← HW5.out] at u0 u00 a2 a3' a6 a9' a10g u5 u01 e3 e6' e7g u1 u02 f3 f4' f7 f13' f10a g3 g4' g7 f14' g10a h3 h5
          simp only [St.val]
          go_wp2_with fail
          rw [HW5.out]
          clear u0 u00 a2 a3' a6 a9' a10g u5 u01 e3 e6' e7g u1 u02 f3 f4' f7 f13' f10a g3 g4' g7 f14' g10a h3 h5 HW5 HK5
          refine Calls.mono HAG.out ?_
          rintro e wx ⟨rfl, hBx⟩
          have HKx : Hid (RelK w1.heap.size w4.heap.size W0 (pickW x0 hd o l b g n K) wx) := HK9.out.below hBx
          clear HAG HK9 hBx
          generalize w4.heap.size = B7 at *
          have HGA : Hid (gotAll (pickW x0 hd o l b g n K) o = gotAll (pickS s o l b n) o) := gotAll_same HSM.out ho
          obtain ⟨y, hy⟩ : ∃ y, pickW x0 hd o l b g n K = y := ⟨_, rfl⟩
          have yo : y.os.a = x0.os.a ∧ y.os.n = x0.os.n ∧ y.os.c = x0.os.c := by rw [← hy]; exact ⟨rfl, rfl, rfl⟩
          have HYO : Hid (y.os.a = some ⟨gO, 0, none⟩) := by show y.os.a = _; rw [yo.1]; exact HF1.out
          have yon : o < y.os.n := by rw [yo.2.1]; exact x0n
          rw [hy] at HKx HSM HGA ⊢
          clear hy yo HYK
          cases hga : gotAll y o
          · have HGF : Hid (gotAll (pickS s o l b n) o = false) := HGA.out.symm.trans hga
            have HST : Hid (StepIn p b y o l (K - n)) := by have h := (HPI.out.stepIn HGF.out).same HSM.out; rw [HK.out] at h; exact h
            have HK1 : Hid ((y.os.z o).k = 1) := (HSM.out.os.2 o yon).1.trans ((pickS_k s o l b n o).1.trans HI.out.kind)
            have HE0 : Hid (allocE p y o l (K - n) b = 0) := by have I := HST.out.allocIn HK1.out; exact I.less ⟨I.n0, Int.le_refl _⟩
            clear hga
            obtain ⟨⟨⟨l1, d0, d1⟩, l2, c0, c1, c2, c3, c4, c5, c6⟩, hpk, hsk, hBw, hz⟩ := HC.out wx HKx.out.bel
            obtain ⟨m1, p0, p1, p2, p3, p4, p5, p6⟩ := Boxed.of HKx.out.box
            have HPK : Hid (p.At wx) := hpk
            clear hpk hsk hBw hz l2 c0 c1 c2 c3 c4 c5 c6
            go_wp2_with fail
            clear l1 d0 d1 m1 p0 p1 p2 p3 p4 p5 p6
            refine (Take_any p y o l (K - n) b wx HPK.out HKx.out.own.at).mono ?_
            rintro e wt ⟨x, rfl, xat, xok, xown, hBt⟩
            have HT : Hid (Step p b y o l (K - n) x) := xok.1 HE0.out
            have HOX : Hid (OwnS w1.heap.size wt x) := (xown HE0.out).mono HKx.out.le
            have HKt : Hid (RelK w1.heap.size B7 W0 y wt) := HKx.out.below hBt
            have hb8 := HKt.out.box
            have bl0 := hb8.lt
            have bf0 := hb8.frozen 0
            have bc0 := hb8.cell (j := 0) (by decide)
            have bf1 := hb8.frozen 1
            have bc1 := hb8.cell (j := 1) (by decide)
            have bf2 := hb8.frozen 2
            have bc2 := hb8.cell (j := 2) (by decide)
            have bf3 := hb8.frozen 3
            have bc3 := hb8.cell (j := 3) (by decide)
            have bf4 := hb8.frozen 4
            have bc4 := hb8.cell (j := 4) (by decide)
            have bf5 := hb8.frozen 5
            have bc5 := hb8.cell (j := 5) (by decide)
            have bf6 := hb8.frozen 6
            have bc6 := hb8.cell (j := 6) (by decide)
            rw [HE0.out]
            clear xat xok xown hBt HPK hb8
            generalize allocL p y o l (K - n) b = LL at *
            obtain ⟨-, -, -, hBw, hz⟩ := HC.out wt HKt.out.bel
            have HZ : Hid (Below w.heap.size w wt ∧ Blk wt (w.heap.size + 2) 31 7 (fun _ => .slice .none 0 0)) := ⟨hBw, hz⟩
            have hlow := (HC.out _ (Below.refl _ _)).2.2.2.1.size
            have bne : B7 ≠ w.heap.size + 2 := by have := HKt.out.box.lt; omega
            have KX := set7_blk HKt.out.box (.slice x.on.a x.on.n x.on.c) (.slice x.os.a x.os.n x.os.c) (.slice x.hs.a x.hs.n x.hs.c) (.slice x.ms.a x.ms.n x.ms.c) (.slice x.si.a x.si.n x.si.c) (.slice x.so.a x.so.n x.so.c) (.slice x.sf.a x.sf.n x.sf.c)
            have hzB := set7_other hz (fun e => bne e.symm) (.slice x.on.a x.on.n x.on.c) (.slice x.os.a x.os.n x.os.c) (.slice x.hs.a x.hs.n x.hs.c) (.slice x.ms.a x.ms.n x.ms.c) (.slice x.si.a x.si.n x.si.c) (.slice x.so.a x.so.n x.so.c) (.slice x.sf.a x.sf.n x.sf.c)
            obtain ⟨x0', x1', x2', x3', x4', x5', x6'⟩ := box_cells KX
            have xm := KX.lt
            have zl := hzB.lt
            have zf0 := hzB.frozen 0
            have zc0 := hzB.cell (j := 0) (by decide)
            have zf1 := hzB.frozen 1
            have zc1 := hzB.cell (j := 1) (by decide)
            have zf2 := hzB.frozen 2
            have zc2 := hzB.cell (j := 2) (by decide)
            have zf3 := hzB.frozen 3
            have zc3 := hzB.cell (j := 3) (by decide)
            have zf4 := hzB.frozen 4
            have zc4 := hzB.cell (j := 4) (by decide)
            have zf5 := hzB.frozen 5
            have zc5 := hzB.cell (j := 5) (by decide)
            have zf6 := hzB.frozen 6
            have zc6 := hzB.cell (j := 6) (by decide)
            have HBS : Hid (Below W0.heap.size W0 (set7 wt B7 (.slice x.on.a x.on.n x.on.c) (.slice x.os.a x.os.n x.os.c) (.slice x.hs.a x.hs.n x.hs.c) (.slice x.ms.a x.ms.n x.ms.c) (.slice x.si.a x.si.n x.si.c) (.slice x.so.a x.so.n x.so.c) (.slice x.sf.a x.sf.n x.sf.c))) := set7_below (b := B7) HKt.out.bel (by omega) (.slice x.on.a x.on.n x.on.c) (.slice x.os.a x.os.n x.os.c) (.slice x.hs.a x.hs.n x.hs.c) (.slice x.ms.a x.ms.n x.ms.c) (.slice x.si.a x.si.n x.si.c) (.slice x.so.a x.so.n x.so.c) (.slice x.sf.a x.sf.n x.sf.c)
            have HOS : Hid (OwnS w1.heap.size (set7 wt B7 (.slice x.on.a x.on.n x.on.c) (.slice x.os.a x.os.n x.os.c) (.slice x.hs.a x.hs.n x.hs.c) (.slice x.ms.a x.ms.n x.ms.c) (.slice x.si.a x.si.n x.si.c) (.slice x.so.a x.so.n x.so.c) (.slice x.sf.a x.sf.n x.sf.c)) x) := OwnS.set7 HOX.out HKt.out.box (.slice x.on.a x.on.n x.on.c) (.slice x.os.a x.os.n x.os.c) (.slice x.hs.a x.hs.n x.hs.c) (.slice x.ms.a x.ms.n x.ms.c) (.slice x.si.a x.si.n x.si.c) (.slice x.so.a x.so.n x.so.c) (.slice x.sf.a x.sf.n x.sf.c)
            have HZB : Hid (Blk (set7 wt B7 (.slice x.on.a x.on.n x.on.c) (.slice x.os.a x.os.n x.os.c) (.slice x.hs.a x.hs.n x.hs.c) (.slice x.ms.a x.ms.n x.ms.c) (.slice x.si.a x.si.n x.si.c) (.slice x.so.a x.so.n x.so.c) (.slice x.sf.a x.sf.n x.sf.c)) (w.heap.size + 2) 31 7 (fun _ => .slice .none 0 0)) := hzB
            have HTS : Hid (SameT x (pickT p s o l b n)) := by
              unfold pickT
              rw [HGF.out, if_neg (by decide)]
              have tk := takeT_step (but := (b : Int)) HPI.out.takeIn
              have T' := HT.out
              rw [← HK.out] at T'
              exact Step.same HPI.out.takeIn HSM.out tk T'
            clear hBw hz KX hzB
            unfold set7 at x0' x1' x2' x3' x4' x5' x6' xm zl zf0 zf1 zf2 zf3 zf4 zf5 zf6 zc0 zc1 zc2 zc3 zc4 zc5 zc6
            simp only [St.val]
            go_wp2_with fail
            have KZ := set7_blk HZB.out (.slice x.on.a x.on.n x.on.c) (.slice x.os.a x.os.n x.os.c) (.slice x.hs.a x.hs.n x.hs.c) (.slice x.ms.a x.ms.n x.ms.c) (.slice x.si.a x.si.n x.si.c) (.slice x.so.a x.so.n x.so.c) (.slice x.sf.a x.sf.n x.sf.c)
            have hbz := set7_below (b := w.heap.size + 2) ((HC.out _ HBS.out).2.2.2.1) (by omega) (.slice x.on.a x.on.n x.on.c) (.slice x.os.a x.os.n x.os.c) (.slice x.hs.a x.hs.n x.hs.c) (.slice x.ms.a x.ms.n x.ms.c) (.slice x.si.a x.si.n x.si.c) (.slice x.so.a x.so.n x.so.c) (.slice x.sf.a x.sf.n x.sf.c)
            have hOz := OwnS.set7 HOS.out HZB.out (.slice x.on.a x.on.n x.on.c) (.slice x.os.a x.os.n x.os.c) (.slice x.hs.a x.hs.n x.hs.c) (.slice x.ms.a x.ms.n x.ms.c) (.slice x.si.a x.si.n x.si.c) (.slice x.so.a x.so.n x.so.c) (.slice x.sf.a x.sf.n x.sf.c)
            unfold set7 at KZ hbz hOz
            obtain ⟨c0', c1', c2', c3', c4', c5', c6'⟩ := box_cells KZ
            refine bodyPost_ret (v := .tuple #[x.val, .int .i64 0]) (by simp [results, Try.results8, go_sem, St.val, c0', c1', c2', c3', c4', c5', c6']) rfl ?_
            exact ⟨x, by rw [HX.out]; rfl, hOz.at, ⟨fun _ => HTS.out, fun h => absurd HX.out h⟩, fun _ => hOz.mono (by omega), hbz⟩
          · have HGT : Hid (gotAll (pickS s o l b n) o = true) := HGA.out.symm.trans hga
            clear hga
            obtain ⟨gq, h1, h2', h3, h4, h5, h6⟩ := HKx.out.own.orderCells (o := o) yon
            rw [HYO.out] at h1
            simp only [Option.some.injEq, Addr.mk.injEq, and_true] at h1
            subst h1
            have h6k := h6 (o * 2)
            obtain ⟨gq, b1, b2, b3⟩ := HKx.out.own.os.list (by omega)
            rw [HYO.out] at b1
            simp only [Option.some.injEq, Addr.mk.injEq, and_true] at b1
            subst b1
            have bneo : gO ≠ B7 := Blk.ne2 b3 HKx.out.box (by decide)
            have HKk : Hid (RelK w1.heap.size B7 W0 (kindS y o 2) (wx.setCell ⟨gO, o * 2, none⟩ (.int .i64 2))) := ⟨HKx.out.own.kind (o := o) yon HYO.out 2, HKx.out.box.other (a := ⟨gO, o * 2, none⟩) bneo.symm _, HKx.out.bel.setCell (p := ⟨gO, o * 2, none⟩) (by show W0.heap.size ≤ gO; omega) _, by have := HKx.out.le; simpa using this⟩
            have HTS : Hid (SameT (kindS y o 2) (pickT p s o l b n)) := by
              unfold pickT
              rw [HGT.out, if_pos rfl]
              exact kindS_same HSM.out o 2
            generalize kindS y o 2 = x at HKk HTS
            obtain ⟨m1, p0, p1, p2, p3, p4, p5, p6⟩ := Boxed.of HKk.out.box
            obtain ⟨-, -, -, hBw, hz⟩ := HC.out _ HKk.out.bel
            have HZ : Hid (Below w.heap.size w (wx.setCell ⟨gO, o * 2, none⟩ (.int .i64 2)) ∧ Blk (wx.setCell ⟨gO, o * 2, none⟩ (.int .i64 2)) (w.heap.size + 2) 31 7 (fun _ => .slice .none 0 0)) := ⟨hBw, hz⟩
            have zl := hz.lt
            have zf0 := hz.frozen 0
            have zc0 := hz.cell (j := 0) (by decide)
            have zf1 := hz.frozen 1
            have zc1 := hz.cell (j := 1) (by decide)
            have zf2 := hz.frozen 2
            have zc2 := hz.cell (j := 2) (by decide)
            have zf3 := hz.frozen 3
            have zc3 := hz.cell (j := 3) (by decide)
            have zf4 := hz.frozen 4
            have zc4 := hz.cell (j := 4) (by decide)
            have zf5 := hz.frozen 5
            have zc5 := hz.cell (j := 5) (by decide)
            have zf6 := hz.frozen 6
            have zc6 := hz.cell (j := 6) (by decide)
            have hlow := (HC.out _ (Below.refl _ _)).2.2.2.1.size
            clear h2' h5 h6 b2 b3 hBw hz HKx
            generalize (y.os.z o).k = KK at *
            go_wp2_with fail
            have KZ := set7_blk HZ.out.2 (.slice x.on.a x.on.n x.on.c) (.slice x.os.a x.os.n x.os.c) (.slice x.hs.a x.hs.n x.hs.c) (.slice x.ms.a x.ms.n x.ms.c) (.slice x.si.a x.si.n x.si.c) (.slice x.so.a x.so.n x.so.c) (.slice x.sf.a x.sf.n x.sf.c)
            have hbz := set7_below (b := w.heap.size + 2) HZ.out.1 (by omega) (.slice x.on.a x.on.n x.on.c) (.slice x.os.a x.os.n x.os.c) (.slice x.hs.a x.hs.n x.hs.c) (.slice x.ms.a x.ms.n x.ms.c) (.slice x.si.a x.si.n x.si.c) (.slice x.so.a x.so.n x.so.c) (.slice x.sf.a x.sf.n x.sf.c)
            have hOz := OwnS.set7 HKk.out.own HZ.out.2 (.slice x.on.a x.on.n x.on.c) (.slice x.os.a x.os.n x.os.c) (.slice x.hs.a x.hs.n x.hs.c) (.slice x.ms.a x.ms.n x.ms.c) (.slice x.si.a x.si.n x.si.c) (.slice x.so.a x.so.n x.so.c) (.slice x.sf.a x.sf.n x.sf.c)
            unfold set7 at KZ hbz hOz
            obtain ⟨c0', c1', c2', c3', c4', c5', c6'⟩ := box_cells KZ
            refine bodyPost_ret (v := .tuple #[x.val, .int .i64 0]) (by simp [results, Try.results8, go_sem, St.val, c0', c1', c2', c3', c4', c5', c6']) rfl ?_
            exact ⟨x, by rw [HX.out]; rfl, hOz.at, ⟨fun _ => HTS.out, fun h => absurd HX.out h⟩, fun _ => hOz.mono (by omega), hbz⟩
  · have HX : Hid (pickE p s order line bin n = stateE p s) := pickE_state h0
    have HNE : Hid (¬ pickE p s order line bin n = 0) := by show ¬ _; rw [pickE_state h0]; exact h0
    have g0 : (stateE p s != 0) = true := by simpa using h0
    clear h0
    clear hpk hsk
    have zl := hz.lt
    have zf0 := hz.frozen 0
    have zc0 := hz.cell (j := 0) (by decide)
    have zf1 := hz.frozen 1
    have zc1 := hz.cell (j := 1) (by decide)
    have zf2 := hz.frozen 2
    have zc2 := hz.cell (j := 2) (by decide)
    have zf3 := hz.frozen 3
    have zc3 := hz.cell (j := 3) (by decide)
    have zf4 := hz.frozen 4
    have zc4 := hz.cell (j := 4) (by decide)
    have zf5 := hz.frozen 5
    have zc5 := hz.cell (j := 5) (by decide)
    have zf6 := hz.frozen 6
    have zc6 := hz.cell (j := 6) (by decide)
    go_wp2_with fail
    have KZ := set7_blk hz (.slice .none 0 0) (.slice .none 0 0) (.slice .none 0 0) (.slice .none 0 0) (.slice .none 0 0) (.slice .none 0 0) (.slice .none 0 0)
    have hbz := set7_below (b := w.heap.size + 2) hBw (by omega) (.slice .none 0 0) (.slice .none 0 0) (.slice .none 0 0) (.slice .none 0 0) (.slice .none 0 0) (.slice .none 0 0) (.slice .none 0 0)
    unfold set7 at KZ hbz
    obtain ⟨c0', c1', c2', c3', c4', c5', c6'⟩ := box_cells KZ
    refine bodyPost_ret (v := .tuple #[noneS.val, .int .i64 (stateE p s)]) (by simp [results, Try.results8, go_sem, noneS, St.val, c0', c1', c2', c3', c4', c5', c6']) rfl ?_
    exact ⟨noneS, by rw [HX.out]; rfl, noneS_at _, ⟨fun h => absurd h (HNE.out), fun _ => ⟨rfl, rfl, rfl, rfl, rfl, rfl, rfl⟩⟩, fun h => absurd h (HNE.out), hbz⟩
end Go.Proofs.Ytbcacebifpagpae
namespace Go.Proofs.Ytbcacebifpagpae
open Go.RowKit Go.Shelf Go.Sort
set_option linter.unusedVariables false
theorem pickBusy (g1 g2 g : Nat) : pickE (yardP g1 g2) (busyS g 2 0) 0 0 1 1 = 0 ∧ pickE (yardP g1 g2) (busyS g 2 0) 0 1 2 6 = 0 ∧ pickE (yardP g1 g2) (busyS g 2 0) 1 0 0 1 = 4 ∧ pickE (yardP g1 g2) (busyS g 2 0) 0 0 1 4 = 3 := ⟨by kernel_rfl, by kernel_rfl, by kernel_rfl, by kernel_rfl⟩
def PickA (x : St) : Prop := 1 < x.on.n ∧ 0 < (x.on.r 1).n ∧ (x.on.r 1).z 0 = 2 ∧ 0 < x.so.n ∧ x.so.z 0 = 2 ∧ 0 < x.os.n ∧ 0 < (x.os.z 0).ls.n ∧ (x.os.z 0).ls.z 0 = ⟨0, 6, 2, 0⟩ ∧ x.hs.n = 2 ∧ 0 < x.hs.n ∧ x.hs.z 0 = ⟨0, 0, 0, 4⟩
theorem PickA_mk {g1 g2 g : Nat} {x : St} (h : ActOK (pickE (yardP g1 g2) (busyS g 2 0) 0 0 1 1) (pickT (yardP g1 g2) (busyS g 2 0) (0 : Int).toNat (0 : Int).toNat (1 : Int).toNat 1) x) : PickA x := by
  have e : SameT x (pickT (yardP g1 g2) (busyS g 2 0) 0 0 1 1) := h.1 (pickBusy g1 g2 g).1
  have a1 : 1 < x.on.n := by rw [e.on.1]; exact of_decide_eq_true (by kernel_rfl)
  have b1 : 0 < (x.on.r 1).n := by rw [(e.on.2 1 a1).1]; exact of_decide_eq_true (by kernel_rfl)
  have c1 : (x.on.r 1).z 0 = 2 := by rw [(e.on.2 1 a1).2 0 b1]; kernel_rfl
  have a2 : 0 < x.so.n := by rw [e.so.1]; exact of_decide_eq_true (by kernel_rfl)
  have b2 : x.so.z 0 = 2 := by rw [e.so.2 0 a2]; kernel_rfl
  have a3 : 0 < x.os.n := by rw [e.os.1]; exact of_decide_eq_true (by kernel_rfl)
  have b3 : 0 < (x.os.z 0).ls.n := by rw [(e.os.2 0 a3).2.1]; exact of_decide_eq_true (by kernel_rfl)
  have c3 : (x.os.z 0).ls.z 0 = ⟨0, 6, 2, 0⟩ := by rw [(e.os.2 0 a3).2.2 0 b3]; kernel_rfl
  have a4 : x.hs.n = 2 := by rw [e.hs.1]; kernel_rfl
  have a5 : 0 < x.hs.n := by rw [e.hs.1]; exact of_decide_eq_true (by kernel_rfl)
  have b5 : x.hs.z 0 = ⟨0, 0, 0, 4⟩ := by rw [e.hs.2 0 a5]; kernel_rfl
  exact ⟨a1, b1, c1, a2, b2, a3, b3, c3, a4, a5, b5⟩
def PickB (y : St) : Prop := 2 < y.on.n ∧ 1 < (y.on.r 2).n ∧ (y.on.r 2).z 1 = 0 ∧ 0 < y.os.n ∧ 1 < (y.os.z 0).ls.n ∧ (y.os.z 0).ls.z 1 = ⟨1, 9, 6, 3⟩
theorem PickB_mk {g1 g2 g : Nat} {y : St} (h : ActOK (pickE (yardP g1 g2) (busyS g 2 0) 0 1 2 6) (pickT (yardP g1 g2) (busyS g 2 0) (0 : Int).toNat (1 : Int).toNat (2 : Int).toNat 6) y) : PickB y := by
  have e : SameT y (pickT (yardP g1 g2) (busyS g 2 0) 0 1 2 6) := h.1 (pickBusy g1 g2 g).2.1
  have a1 : 2 < y.on.n := by rw [e.on.1]; exact of_decide_eq_true (by kernel_rfl)
  have b1 : 1 < (y.on.r 2).n := by rw [(e.on.2 2 a1).1]; exact of_decide_eq_true (by kernel_rfl)
  have c1 : (y.on.r 2).z 1 = 0 := by rw [(e.on.2 2 a1).2 1 b1]; kernel_rfl
  have a2 : 0 < y.os.n := by rw [e.os.1]; exact of_decide_eq_true (by kernel_rfl)
  have b2 : 1 < (y.os.z 0).ls.n := by rw [(e.os.2 0 a2).2.1]; exact of_decide_eq_true (by kernel_rfl)
  have c2 : (y.os.z 0).ls.z 1 = ⟨1, 9, 6, 3⟩ := by rw [(e.os.2 0 a2).2.2 1 b2]; kernel_rfl
  exact ⟨a1, b1, c1, a2, b2, c2⟩
set_option maxRecDepth 100000 in
set_option maxHeartbeats 2000000 in
theorem pickBegun_any (w : World) :
    Calls Try.prog 9 #[] w fun e w' => e = .returned (.bool true) ∧ Below w.heap.size w w' := by
  go_enter Try.func9, Try.ntmps9
  have HB : Hid (Below w.heap.size w w) := Below.refl _ _
  go_wp2_with fail
  refine (yard_any _).mono ?_
  rintro e wa ⟨g1, g2, rfl, -, -, k1, k2, hA⟩
  go_wp2_with fail
  refine (busy_any _).mono ?_
  rintro e wb ⟨g, rfl, -, bb, hB⟩
  have hD := hA.trans (hB.mono hA.size)
  have HAT : Hid ((yardP g1 g2).At wb ∧ (busyS g 2 0).At wb) := ⟨yardAt (k1.below hB) (k2.below hB), busyAt bb⟩
  clear hA hB k1 k2 bb
  simp only [busyS, St.val]
  go_wp2_with fail
  refine (Pick_any (yardP g1 g2) (busyS g 2 0) 0 0 1 1 wb HAT.out.1 HAT.out.2).mono ?_
  rintro e w1 ⟨x, rfl, atx, okx, -, hB⟩
  have hE := hD.trans (hB.mono hD.size)
  rw [(pickBusy g1 g2 g).1]
  have HPx : Hid (PickA x) := PickA_mk okx
  clear hD hB HAT okx
  obtain ⟨V0, hW, hWB, K1⟩ : ∃ W, w1.alloc (.cells #[.slice x.on.a x.on.n x.on.c, .slice x.os.a x.os.n x.os.c, .slice x.hs.a x.hs.n x.hs.c, .slice x.ms.a x.ms.n x.ms.c, .slice x.si.a x.si.n x.si.c, .slice x.so.a x.so.n x.so.c, .slice x.sf.a x.sf.n x.sf.c] 31) = W ∧ Below w1.heap.size w1 W ∧ Blk W w1.heap.size 31 7 (fun j => x.cells.getD j default) := ⟨_, rfl, (Below.refl _ _).alloc (Nat.le_refl _) _, Blk.mk' rfl rfl⟩
  have HW : Hid (w1.alloc (.cells #[.slice x.on.a x.on.n x.on.c, .slice x.os.a x.os.n x.os.c, .slice x.hs.a x.hs.n x.hs.c, .slice x.ms.a x.ms.n x.ms.c, .slice x.si.a x.si.n x.si.c, .slice x.so.a x.so.n x.so.c, .slice x.sf.a x.sf.n x.sf.c] 31) = V0) := hW
  have hE := hE.trans (hWB.mono hE.size)
  have HB : Hid (Below w.heap.size w V0) := HB.out.trans (hE.mono HB.out.size)
  have Hx : Hid (x.At V0 ∧ Blk V0 w1.heap.size 31 7 (fun j => x.cells.getD j default)) := ⟨atx.below hWB, K1⟩
  clear atx
  clear hW K1 hWB hE
  simp only [St.val]
  go_wp2_with fail
  rw [HW.out]
  clear HW
  generalize w1.heap.size = Bx at *
  refine (yard_any _).mono ?_
  rintro e wa ⟨g1, g2, rfl, -, -, k1, k2, hA⟩
  go_wp2_with fail
  refine (busy_any _).mono ?_
  rintro e wb ⟨g, rfl, -, bb, hB⟩
  have hD := hA.trans (hB.mono hA.size)
  have HAT : Hid ((yardP g1 g2).At wb ∧ (busyS g 2 0).At wb) := ⟨yardAt (k1.below hB) (k2.below hB), busyAt bb⟩
  clear hA hB k1 k2 bb
  simp only [busyS, St.val]
  go_wp2_with fail
  refine (Pick_any (yardP g1 g2) (busyS g 2 0) 0 1 2 6 wb HAT.out.1 HAT.out.2).mono ?_
  rintro e w2 ⟨y, rfl, aty, oky, -, hB⟩
  have hE := hD.trans (hB.mono hD.size)
  rw [(pickBusy g1 g2 g).2.1]
  have HPy : Hid (PickB y) := PickB_mk oky
  clear hD hB HAT oky
  obtain ⟨V1, hW, hWB, K1⟩ : ∃ W, w2.alloc (.cells #[.slice y.on.a y.on.n y.on.c, .slice y.os.a y.os.n y.os.c, .slice y.hs.a y.hs.n y.hs.c, .slice y.ms.a y.ms.n y.ms.c, .slice y.si.a y.si.n y.si.c, .slice y.so.a y.so.n y.so.c, .slice y.sf.a y.sf.n y.sf.c] 31) = W ∧ Below w2.heap.size w2 W ∧ Blk W w2.heap.size 31 7 (fun j => y.cells.getD j default) := ⟨_, rfl, (Below.refl _ _).alloc (Nat.le_refl _) _, Blk.mk' rfl rfl⟩
  have HW : Hid (w2.alloc (.cells #[.slice y.on.a y.on.n y.on.c, .slice y.os.a y.os.n y.os.c, .slice y.hs.a y.hs.n y.hs.c, .slice y.ms.a y.ms.n y.ms.c, .slice y.si.a y.si.n y.si.c, .slice y.so.a y.so.n y.so.c, .slice y.sf.a y.sf.n y.sf.c] 31) = V1) := hW
  have hE := hE.trans (hWB.mono hE.size)
  have HB : Hid (Below w.heap.size w V1) := HB.out.trans (hE.mono HB.out.size)
  have Hx : Hid (x.At V1 ∧ Blk V1 Bx 31 7 (fun j => x.cells.getD j default)) := ⟨Hx.out.1.below hE, Hx.out.2.below hE⟩
  have Hy : Hid (y.At V1 ∧ Blk V1 w2.heap.size 31 7 (fun j => y.cells.getD j default)) := ⟨aty.below hWB, K1⟩
  clear aty
  clear hW K1 hWB hE
  simp only [St.val]
  go_wp2_with fail
  rw [HW.out]
  clear HW
  generalize w2.heap.size = By at *
  refine (yard_any _).mono ?_
  rintro e wa ⟨g1, g2, rfl, -, -, k1, k2, hA⟩
  go_wp2_with fail
  refine (busy_any _).mono ?_
  rintro e wb ⟨g, rfl, -, bb, hB⟩
  have hD := hA.trans (hB.mono hA.size)
  have HAT : Hid ((yardP g1 g2).At wb ∧ (busyS g 2 0).At wb) := ⟨yardAt (k1.below hB) (k2.below hB), busyAt bb⟩
  clear hA hB k1 k2 bb
  simp only [busyS, St.val]
  go_wp2_with fail
  refine (Pick_any (yardP g1 g2) (busyS g 2 0) 1 0 0 1 wb HAT.out.1 HAT.out.2).mono ?_
  rintro e w3 ⟨u, rfl, -, -, -, hB⟩
  have hE := hD.trans (hB.mono hD.size)
  rw [(pickBusy g1 g2 g).2.2.1]
  clear hD hB HAT
  obtain ⟨V2, hW, hWB, K1⟩ : ∃ W, w3.alloc (.cells #[.slice u.on.a u.on.n u.on.c, .slice u.os.a u.os.n u.os.c, .slice u.hs.a u.hs.n u.hs.c, .slice u.ms.a u.ms.n u.ms.c, .slice u.si.a u.si.n u.si.c, .slice u.so.a u.so.n u.so.c, .slice u.sf.a u.sf.n u.sf.c] 31) = W ∧ Below w3.heap.size w3 W ∧ Blk W w3.heap.size 31 7 (fun j => u.cells.getD j default) := ⟨_, rfl, (Below.refl _ _).alloc (Nat.le_refl _) _, Blk.mk' rfl rfl⟩
  have HW : Hid (w3.alloc (.cells #[.slice u.on.a u.on.n u.on.c, .slice u.os.a u.os.n u.os.c, .slice u.hs.a u.hs.n u.hs.c, .slice u.ms.a u.ms.n u.ms.c, .slice u.si.a u.si.n u.si.c, .slice u.so.a u.so.n u.so.c, .slice u.sf.a u.sf.n u.sf.c] 31) = V2) := hW
  have hE := hE.trans (hWB.mono hE.size)
  have HB : Hid (Below w.heap.size w V2) := HB.out.trans (hE.mono HB.out.size)
  have Hx : Hid (x.At V2 ∧ Blk V2 Bx 31 7 (fun j => x.cells.getD j default)) := ⟨Hx.out.1.below hE, Hx.out.2.below hE⟩
  have Hy : Hid (y.At V2 ∧ Blk V2 By 31 7 (fun j => y.cells.getD j default)) := ⟨Hy.out.1.below hE, Hy.out.2.below hE⟩
  clear hW K1 hWB hE
  simp only [St.val]
  go_wp2_with fail
  rw [HW.out]
  clear HW
  generalize w3.heap.size = Bu at *
  refine (yard_any _).mono ?_
  rintro e wa ⟨g1, g2, rfl, -, -, k1, k2, hA⟩
  go_wp2_with fail
  refine (busy_any _).mono ?_
  rintro e wb ⟨g, rfl, -, bb, hB⟩
  have hD := hA.trans (hB.mono hA.size)
  have HAT : Hid ((yardP g1 g2).At wb ∧ (busyS g 2 0).At wb) := ⟨yardAt (k1.below hB) (k2.below hB), busyAt bb⟩
  clear hA hB k1 k2 bb
  simp only [busyS, St.val]
  go_wp2_with fail
  refine (Pick_any (yardP g1 g2) (busyS g 2 0) 0 0 1 4 wb HAT.out.1 HAT.out.2).mono ?_
  rintro e w4 ⟨v, rfl, -, -, -, hB⟩
  have hE := hD.trans (hB.mono hD.size)
  rw [(pickBusy g1 g2 g).2.2.2]
  clear hD hB HAT
  obtain ⟨V3, hW, hWB, K1⟩ : ∃ W, w4.alloc (.cells #[.slice v.on.a v.on.n v.on.c, .slice v.os.a v.os.n v.os.c, .slice v.hs.a v.hs.n v.hs.c, .slice v.ms.a v.ms.n v.ms.c, .slice v.si.a v.si.n v.si.c, .slice v.so.a v.so.n v.so.c, .slice v.sf.a v.sf.n v.sf.c] 31) = W ∧ Below w4.heap.size w4 W ∧ Blk W w4.heap.size 31 7 (fun j => v.cells.getD j default) := ⟨_, rfl, (Below.refl _ _).alloc (Nat.le_refl _) _, Blk.mk' rfl rfl⟩
  have HW : Hid (w4.alloc (.cells #[.slice v.on.a v.on.n v.on.c, .slice v.os.a v.os.n v.os.c, .slice v.hs.a v.hs.n v.hs.c, .slice v.ms.a v.ms.n v.ms.c, .slice v.si.a v.si.n v.si.c, .slice v.so.a v.so.n v.so.c, .slice v.sf.a v.sf.n v.sf.c] 31) = V3) := hW
  have hE := hE.trans (hWB.mono hE.size)
  have HB : Hid (Below w.heap.size w V3) := HB.out.trans (hE.mono HB.out.size)
  have Hx : Hid (x.At V3 ∧ Blk V3 Bx 31 7 (fun j => x.cells.getD j default)) := ⟨Hx.out.1.below hE, Hx.out.2.below hE⟩
  have Hy : Hid (y.At V3 ∧ Blk V3 By 31 7 (fun j => y.cells.getD j default)) := ⟨Hy.out.1.below hE, Hy.out.2.below hE⟩
  clear hW K1 hWB hE
  obtain ⟨xm, xc0, xc1, xc2, xc3, xc4, xc5, xc6⟩ := Boxed.of Hx.out.2
  obtain ⟨xh0, xh1, xh2, xh3, xh4, xh5, xh6, xh7, xh8, xh9, xh10⟩ := HPx.out
  obtain ⟨x1b, x1o, x1a, x1l, x1c, x1r⟩ := Hx.out.1.on.rows 1 xh0
  rw [x1a] at xc0
  have x1u := Hx.out.1.on.le
  have x1v := Hx.out.1.on.cap
  unfold maxLen at x1v
  clear x1a
  obtain ⟨x1B, x1O, x1A, x1L, x1C⟩ := x1r.ints 0 xh1
  rw [x1A] at x1c
  rw [xh2] at x1C
  have x1x := x1r.le
  have x1y := x1r.cap
  unfold maxLen at x1y
  have x1N : (0 : Int) < ((x.on.r 1).n : Int) := by omega
  have x1M : (1 : Int) < (x.on.n : Int) := by omega
  clear x1A x1r
  obtain ⟨x2B, x2O, x2A, x2L, x2C⟩ := Hx.out.1.so.ints 0 xh3
  rw [x2A] at xc5
  rw [xh4] at x2C
  have x2x := Hx.out.1.so.le
  have x2y := Hx.out.1.so.cap
  unfold maxLen at x2y
  have x2N : (0 : Int) < (x.so.n : Int) := by omega
  clear x2A
  obtain ⟨x3b, x3o, x3a, x3l, x3k, x3c, x3r⟩ := Hx.out.1.os.ods 0 xh5
  rw [x3a] at xc1
  have x3u := Hx.out.1.os.le
  have x3v := Hx.out.1.os.cap
  unfold maxLen at x3v
  have x3M : (0 : Int) < (x.os.n : Int) := by omega
  clear x3a
  obtain ⟨x3B, x3O, x3A, x3L, x3C0, x3C1, x3C2, x3C3⟩ := x3r.hds 0 xh6
  rw [x3A] at x3c
  rw [xh7] at x3C0 x3C1 x3C2 x3C3
  dsimp only at x3C0 x3C1 x3C2 x3C3
  have x3x := x3r.le
  have x3y := x3r.cap
  unfold maxLen at x3y
  have x3N : (0 : Int) < ((x.os.z 0).ls.n : Int) := by omega
  clear x3A
  obtain ⟨x5B, x5O, x5A, x5L, x5C0, x5C1, x5C2, x5C3⟩ := Hx.out.1.hs.hds 0 xh9
  rw [x5A] at xc2
  rw [xh10] at x5C0 x5C1 x5C2 x5C3
  dsimp only at x5C0 x5C1 x5C2 x5C3
  have x5x := Hx.out.1.hs.le
  have x5y := Hx.out.1.hs.cap
  unfold maxLen at x5y
  have x5N : (0 : Int) < (x.hs.n : Int) := by omega
  clear x5A
  try rw [xh8] at xc2
  try simp only [Nat.zero_mul, Nat.add_zero] at x1l x1c x1L x1C x2L x2C x3l x3k x3c x3L x3C0 x3C1 x3C2 x3C3 x5L x5C0 x5C1 x5C2 x5C3
  clear x3r
  obtain ⟨ym, yc0, yc1, yc2, yc3, yc4, yc5, yc6⟩ := Boxed.of Hy.out.2
  obtain ⟨yh0, yh1, yh2, yh3, yh4, yh5⟩ := HPy.out
  obtain ⟨y1b, y1o, y1a, y1l, y1c, y1r⟩ := Hy.out.1.on.rows 2 yh0
  rw [y1a] at yc0
  have y1u := Hy.out.1.on.le
  have y1v := Hy.out.1.on.cap
  unfold maxLen at y1v
  clear y1a
  obtain ⟨y1B, y1O, y1A, y1L, y1C⟩ := y1r.ints 1 yh1
  rw [y1A] at y1c
  rw [yh2] at y1C
  have y1x := y1r.le
  have y1y := y1r.cap
  unfold maxLen at y1y
  have y1N : (1 : Int) < ((y.on.r 2).n : Int) := by omega
  have y1M : (2 : Int) < (y.on.n : Int) := by omega
  clear y1A y1r
  obtain ⟨y2b, y2o, y2a, y2l, y2k, y2c, y2r⟩ := Hy.out.1.os.ods 0 yh3
  rw [y2a] at yc1
  have y2u := Hy.out.1.os.le
  have y2v := Hy.out.1.os.cap
  unfold maxLen at y2v
  have y2M : (0 : Int) < (y.os.n : Int) := by omega
  clear y2a
  obtain ⟨y2B, y2O, y2A, y2L, y2C0, y2C1, y2C2, y2C3⟩ := y2r.hds 1 yh4
  rw [y2A] at y2c
  rw [yh5] at y2C0 y2C1 y2C2 y2C3
  dsimp only at y2C0 y2C1 y2C2 y2C3
  have y2x := y2r.le
  have y2y := y2r.cap
  unfold maxLen at y2y
  have y2N : (1 : Int) < ((y.os.z 0).ls.n : Int) := by omega
  clear y2A
  try simp only [Nat.zero_mul, Nat.add_zero] at y1l y1c y1L y1C y2l y2k y2c y2L y2C0 y2C1 y2C2 y2C3
  clear y2r
  rw [← HW.out] at xm xc0 xc1 xc2 xc3 xc4 xc5 xc6 x1l x1c x1L x1C x2L x2C x3l x3k x3c x3L x3C0 x3C1 x3C2 x3C3 x5L x5C0 x5C1 x5C2 x5C3 ym yc0 yc1 yc2 yc3 yc4 yc5 yc6 y1l y1c y1L y1C y2l y2k y2c y2L y2C0 y2C1 y2C2 y2C3
  simp only [St.val]
  go_wp2_with fail
  go_ret
  exact ⟨by simp, HW.out ▸ HB.out⟩
end Go.Proofs.Ytbcacebifpagpae
namespace Go.Proofs.Ytbcacebifpagpae
open Go.RowKit Go.Shelf Go.Sort
set_option linter.unusedVariables false
theorem Kept_rightW (s : Hs) (o l : Int) (w : World) (hs : s.At w) (hr : anyB s.n (badH s.z) = false) :
    Calls Try.prog 10 #[.slice s.a s.n s.c, .int .i64 o, .int .i64 l] w fun e w' => e = .returned (.tuple #[.int .i64 (keptS s.z o l s.n), .int .i64 0]) ∧ Below w.heap.size w w' := by
  have h := Kept_any s o l w hs
  have e : checkH s.n s.z = 0 := checkH_right hr
  rw [if_pos e, e] at h
  exact h
theorem Avail_rightW (p : Pl) (s : St) (b g : Nat) (w : World) (hp : p.At w) (hs : s.At w) (h : stateE p s = 0) (hb : b < p.nb) (hg : g < p.ns) :
    Calls Try.prog 12 #[.agg #[.slice p.ab p.nb p.cb, .slice p.sa p.ns p.cs], .agg #[.slice s.on.a s.on.n s.on.c, .slice s.os.a s.os.n s.os.c, .slice s.hs.a s.hs.n s.hs.c, .slice s.ms.a s.ms.n s.ms.c, .slice s.si.a s.si.n s.si.c, .slice s.so.a s.so.n s.so.c, .slice s.sf.a s.sf.n s.sf.c], .int .i64 (b : Int), .int .i64 (g : Int)] w fun e w' => e = .returned (.tuple #[.int .i64 (availZ s b g), .int .i64 0]) ∧ Below w.heap.size w w' := by
  have k := Avail_any p s b g w hp hs
  rw [(avail_okA h hb hg).1, (avail_okA h hb hg).2] at k
  exact k
end Go.Proofs.Ytbcacebifpagpae
namespace Go.Proofs.Ytbcacebifpagpae
open Go.RowKit Go.Shelf Go.Sort
set_option linter.unusedVariables false
set_option maxRecDepth 100000 in
set_option maxHeartbeats 8000000 in
theorem PickShort_walk (p : Pl) (s : St) (order line bin n : Int) (w : World) (hp : p.At w) (hs : s.At w) :
    Calls Try.prog 3 #[p.val, s.val, .int .i64 order, .int .i64 line, .int .i64 bin, .int .i64 n] w fun e w' => e = .returned (.bool true) ∧ Below w.heap.size w w' := by
  obtain ⟨W0, hW, hWB, X0⟩ : ∃ W, ((w.alloc (.cells #[.slice p.ab p.nb p.cb, .slice p.sa p.ns p.cs] 25)).alloc (.cells s.cells 31)) = W ∧ Below w.heap.size w W ∧ Boxes W w.heap.size (w.heap.size + 1) p s := ⟨_, rfl, two_below _ _ _, boxes_new w p s _ _⟩
  have HC : Hid (∀ wk, Below W0.heap.size W0 wk → Boxes wk w.heap.size (w.heap.size + 1) p s ∧ p.At wk ∧ s.At wk ∧ Below w.heap.size w wk) := fun wk h => ⟨X0.below h, (hp.below hWB).below h, (hs.below hWB).below h, hWB.trans (h.mono hWB.size)⟩
  have HW : Hid ((w.alloc (.cells #[.slice p.ab p.nb p.cb, .slice p.sa p.ns p.cs] 25)).alloc (.cells #[.slice s.on.a s.on.n s.on.c, .slice s.os.a s.os.n s.os.c, .slice s.hs.a s.hs.n s.hs.c, .slice s.ms.a s.ms.n s.ms.c, .slice s.si.a s.si.n s.si.c, .slice s.so.a s.so.n s.so.c, .slice s.sf.a s.sf.n s.sf.c] 31) = W0) := hW
  have HB : Hid (Below W0.heap.size W0 W0) := Below.refl _ _
  have leb := hp.leb
  have capb0 := hp.capb
  have capb := capb0
  unfold maxLen at capb
  have osl := hs.os.le
  have osc := hs.os.cap
  unfold maxLen at osc
  clear hW X0 hp hs
  unfold Pl.val St.val
  go_enter Try.func3, Try.ntmps3
  go_wp2_with fail
  rw [HW.out]
  clear HW
  refine Calls.mono (Pick_any p s order line bin n W0 (HC.out W0 HB.out).2.1 (HC.out W0 HB.out).2.2.1) ?_
  rintro e w1 ⟨x, rfl, xat, xok, -, hB⟩
  have HXOK : Hid (ActOK (pickE p s order line bin n) (pickT p s order.toNat line.toNat bin.toNat n) x) := xok
  clear xok
  have HB : Hid (Below W0.heap.size W0 w1) := HB.out.trans (hB.mono HB.out.size)
  clear hB
  have xol := xat.os.le
  have xoc := xat.os.cap
  unfold maxLen at xoc
  obtain ⟨W2, hW, hWB, K1⟩ : ∃ W, w1.alloc (.cells #[.slice x.on.a x.on.n x.on.c, .slice x.os.a x.os.n x.os.c, .slice x.hs.a x.hs.n x.hs.c, .slice x.ms.a x.ms.n x.ms.c, .slice x.si.a x.si.n x.si.c, .slice x.so.a x.so.n x.so.c, .slice x.sf.a x.sf.n x.sf.c] 31) = W ∧ Below w1.heap.size w1 W ∧ Blk W w1.heap.size 31 7 (fun j => x.cells.getD j default) := ⟨_, rfl, (Below.refl _ _).alloc (Nat.le_refl _) _, Blk.mk' rfl rfl⟩
  have HW : Hid (w1.alloc (.cells #[.slice x.on.a x.on.n x.on.c, .slice x.os.a x.os.n x.os.c, .slice x.hs.a x.hs.n x.hs.c, .slice x.ms.a x.ms.n x.ms.c, .slice x.si.a x.si.n x.si.c, .slice x.so.a x.so.n x.so.c, .slice x.sf.a x.sf.n x.sf.c] 31) = W2) := hW
  have Hx : Hid (x.At W2 ∧ Blk W2 w1.heap.size 31 7 (fun j => x.cells.getD j default)) := ⟨xat.below hWB, K1⟩
  clear hW K1 xat
  have HB : Hid (Below W0.heap.size W0 W2) := HB.out.trans (hWB.mono HB.out.size)
  clear hWB
  by_cases h0 : pickE p s order line bin n = 0
  · obtain ⟨hse, o, l, b, rfl, rfl, rfl, hi⟩ := pickIn h0
    have HE : Hid (PickEnd p s x o l b n) := hi.ends.same (HXOK.out.1 h0) hi.hd.on hi.hd.ln hi.hd.good.2
    have HR : Hid (RightT p s) := hi.hd.r
    have HEX : Hid (stateE p x = 0) := stateE_of HE.out.r
    have HHX : Hid (anyB x.hs.n (badH x.hs.z) = false) := HE.out.r.fm.hold
    have hon : o < s.os.n := hi.hd.on
    have hln : l < (s.os.z o).ls.n := hi.hd.ln
    have os4 : s.os.n ≤ 4 := HR.out.fm.os4
    have oxn : o < x.os.n := by rw [HE.out.osn]; exact hon
    have lxn : l < (x.os.z o).ls.n := by rw [HE.out.lns o hon]; exact hln
    have ls3 : (s.os.z o).ls.n ≤ 3 := (HR.out.fm.lns o hon).2
    have lx3 : (x.os.z o).ls.n ≤ 3 := (HE.out.r.fm.lns o oxn).2
    have nb1 := HR.out.fm.sh.pl.nb1
    have nb6 := HR.out.fm.sh.pl.nb6
    have hbn : b < p.nb := hi.hd.bn
    obtain ⟨gd, hgd⟩ : ∃ g, lineGood s o l = g := ⟨_, rfl⟩
    have hgl : gd < p.ns := by rw [← hgd]; exact hi.hd.good.2
    have hgo : ((x.os.z o).ls.z l).o = (gd : Int) := by rw [HE.out.mine.2, hi.hd.good.1, hgd]
    have HSH : Hid (((s.os.z o).ls.z l).n < ((x.os.z o).ls.z l).n → ∀ c : Nat, c < p.nb → ¬ c = b → availZ x c gd = 0) := by rw [← hgd]; exact HE.out.short
    have HSU : Hid (((x.os.z o).ls.z l).b + ((x.os.z o).ls.z l).n + keptS x.hs.z o l x.hs.n = ((x.os.z o).ls.z l).l) := HE.out.sum oxn lxn
    have HDE : Hid (dropE x.hs.n x.hs.z o l b = 4) := by
      show dropE x.hs.n x.hs.z o l b = 4
      unfold dropE
      rw [if_pos (checkH_right HHX.out), if_pos HE.out.gone]
    obtain ⟨⟨zo1, zo2⟩, ⟨zl1, zl2⟩, ⟨zb1, zb2⟩, zn1, zn2⟩ := badLine_no (HE.out.r.fm.line o oxn l lxn)
    have zn3 := (badLine_no (HR.out.fm.line o hon l hln)).2.2.2
    rw [h0]
    clear h0 HXOK hi hse hgd
    have ka1 : decide (x.os.n ≤ o) = false := decide_eq_false (by omega)
    have ka2 : decide ((x.os.n : Int) ≤ (o : Int)) = false := decide_eq_false (by omega)
    have ka3 : ¬ x.os.n ≤ o := by omega
    have ka4 : decide ((o : Int) < 0) = false := decide_eq_false (by omega)
    have ka5 : (0 : Int) ≤ (o : Int) := by omega
    have ka6 : (o : Int) < (x.os.n : Int) := by omega
    have kb1 : decide ((x.os.z o).ls.n ≤ l) = false := decide_eq_false (by omega)
    have kb2 : decide (((x.os.z o).ls.n : Int) ≤ (l : Int)) = false := decide_eq_false (by omega)
    have kb3 : ¬ (x.os.z o).ls.n ≤ l := by omega
    have kb4 : decide ((l : Int) < 0) = false := decide_eq_false (by omega)
    have kb5 : (0 : Int) ≤ (l : Int) := by omega
    have kb6 : (l : Int) < ((x.os.z o).ls.n : Int) := by omega
    have kc1 : decide (s.os.n ≤ o) = false := decide_eq_false (by omega)
    have kc2 : decide ((s.os.n : Int) ≤ (o : Int)) = false := decide_eq_false (by omega)
    have kc3 : ¬ s.os.n ≤ o := by omega
    have kc4 : decide ((o : Int) < 0) = false := decide_eq_false (by omega)
    have kc5 : (0 : Int) ≤ (o : Int) := by omega
    have kc6 : (o : Int) < (s.os.n : Int) := by omega
    have kd1 : decide ((s.os.z o).ls.n ≤ l) = false := decide_eq_false (by omega)
    have kd2 : decide (((s.os.z o).ls.n : Int) ≤ (l : Int)) = false := decide_eq_false (by omega)
    have kd3 : ¬ (s.os.z o).ls.n ≤ l := by omega
    have kd4 : decide ((l : Int) < 0) = false := decide_eq_false (by omega)
    have kd5 : (0 : Int) ≤ (l : Int) := by omega
    have kd6 : (l : Int) < ((s.os.z o).ls.n : Int) := by omega
    obtain ⟨⟨⟨l1, d0, d1⟩, l2, c0, c1, c2, c3, c4, c5, c6⟩, -, -, -⟩ := HC.out W2 HB.out
    obtain ⟨xm, xc0, xc1, xc2, xc3, xc4, xc5, xc6⟩ := Boxed.of Hx.out.2
    obtain ⟨b1, o1, ha1, hb1, e10, e11, k1⟩ := (HC.out W2 HB.out).2.2.1.os.ods o hon
    obtain ⟨b3, o3, ha3, hb3, e30, e31, k3⟩ := Hx.out.1.os.ods o oxn
    obtain ⟨b5, o5, ha5, hb5, y50, y51, y52, y53⟩ := k1.hds l hln
    obtain ⟨b6, o6, ha6, hb6, y60, y61, y62, y63⟩ := k3.hds l lxn
    have le1 := k1.le
    have cp1 := k1.cap
    have le3 := k3.le
    have cp3 := k3.cap
    unfold maxLen at cp1 cp3
    rw [ha1] at c1
    rw [ha3] at xc1
    rw [ha5] at e11
    rw [ha6] at e31
    clear ha1 k1 ha3 k3 ha5 ha6
    obtain ⟨ZS, hZS⟩ : ∃ z, (s.os.z o).ls.z l = z := ⟨_, rfl⟩
    have HZS : Hid ((s.os.z o).ls.z l = ZS) := hZS
    rw [hZS] at HSH zn3 y50 y51 y52 y53
    clear hZS
    generalize (x.os.z o).ls.z l = ZX at *
    rw [hgo] at y60
    have HWX := HW
    clear HW
    obtain ⟨W3, hW, hWB, K1⟩ : ∃ W, W2.alloc (.cells #[.int .i64 (gd : Int), .int .i64 ZX.l, .int .i64 ZX.b, .int .i64 ZX.n] 40) = W ∧ Below W2.heap.size W2 W ∧ Blk W W2.heap.size 40 4 (fun j => (#[.int .i64 (gd : Int), .int .i64 ZX.l, .int .i64 ZX.b, .int .i64 ZX.n] : Array Value).getD j default) := ⟨_, rfl, (Below.refl _ _).alloc (Nat.le_refl _) _, Blk.mk' rfl rfl⟩
    have HW : Hid (W2.alloc (.cells #[.int .i64 (gd : Int), .int .i64 ZX.l, .int .i64 ZX.b, .int .i64 ZX.n] 40) = W3) := hW
    have HLB : Hid (Blk W3 W2.heap.size 40 4 (fun j => (#[.int .i64 (gd : Int), .int .i64 ZX.l, .int .i64 ZX.b, .int .i64 ZX.n] : Array Value).getD j default)) := K1
    clear hW K1
    have Hx : Hid (x.At W3 ∧ Blk W3 w1.heap.size 31 7 (fun j => x.cells.getD j default)) := ⟨Hx.out.1.below hWB, Hx.out.2.below hWB⟩
    have HB : Hid (Below W0.heap.size W0 W3) := HB.out.trans (hWB.mono HB.out.size)
    clear hWB
    obtain ⟨xm', xd0, xd1, xd2, xd3, xd4, xd5, xd6⟩ := Boxed.of Hx.out.2
    have lb := HLB.out.lt
    rw [← HW.out] at xm' xd0 xd1 xd2 xd3 xd4 xd5 xd6
    rw [← HWX.out] at xm' xd0 xd1 xd2 xd3 xd4 xd5 xd6 l1 d0 d1 l2 c0 c1 c2 c3 c4 c5 c6 xm xc0 xc1 xc2 xc3 xc4 xc5 xc6 hb1 e10 e11 hb3 e30 e31 hb5 y50 y51 y52 y53 hb6 y60 y61 y62 y63
    have hsz : w1.heap.size + 1 = W2.heap.size := by rw [← HWX.out]; simp
    simp only [St.val]
    go_wp2_with fail
    rw [HWX.out, HW.out]
    clear hsz HW HWX xm' xd0 xd1 xd2 xd3 xd4 xd5 xd6 l1 d0 d1 l2 c0 c1 c2 c3 c4 c5 c6 xm xc0 xc1 xc2 xc3 xc4 xc5 xc6 hb1 e10 e11 hb3 e30 e31 hb5 y50 y51 y52 y53 hb6 y60 y61 y62 y63
    generalize w1.heap.size = Bx at *
    generalize W2.heap.size = BL at *
    refine Calls.mono (Kept_rightW x.hs o l W3 Hx.out.1.hs HHX.out) ?_
    rintro e w4 ⟨rfl, hB⟩
    have Hx : Hid (x.At w4 ∧ Blk w4 Bx 31 7 (fun j => x.cells.getD j default)) := ⟨Hx.out.1.below hB, Hx.out.2.below hB⟩
    have HLB : Hid (Blk w4 BL 40 4 (fun j => (#[.int .i64 (gd : Int), .int .i64 ZX.l, .int .i64 ZX.b, .int .i64 ZX.n] : Array Value).getD j default)) := HLB.out.below hB
    have HB : Hid (Below W0.heap.size W0 w4) := HB.out.trans (hB.mono HB.out.size)
    clear hB
    obtain ⟨xm, xc0, xc1, xc2, xc3, xc4, xc5, xc6⟩ := Boxed.of Hx.out.2
    go_wp2_with fail
    clear xm xc0 xc1 xc2 xc3 xc4 xc5 xc6
    refine Calls.mono (Drop_any x.hs o l b w4 Hx.out.1.hs) ?_
    rintro e w5 ⟨dh, rfl, -, -, hB⟩
    rw [HDE.out]
    clear HDE
    have Hx : Hid (x.At w5 ∧ Blk w5 Bx 31 7 (fun j => x.cells.getD j default)) := ⟨Hx.out.1.below hB, Hx.out.2.below hB⟩
    have HLB : Hid (Blk w5 BL 40 4 (fun j => (#[.int .i64 (gd : Int), .int .i64 ZX.l, .int .i64 ZX.b, .int .i64 ZX.n] : Array Value).getD j default)) := HLB.out.below hB
    have HB : Hid (Below W0.heap.size W0 w5) := HB.out.trans (hB.mono HB.out.size)
    clear hB
    have a1 : w5.cell? ⟨BL, 1, none⟩ = some (.int .i64 ZX.l) := HLB.out.cell (j := 1) (by decide)
    have a2 : w5.cell? ⟨BL, 2, none⟩ = some (.int .i64 ZX.b) := HLB.out.cell (j := 2) (by decide)
    have a3 : w5.cell? ⟨BL, 3, none⟩ = some (.int .i64 ZX.n) := HLB.out.cell (j := 3) (by decide)
    have a4 := HLB.out.lt
    have k0 := (keptS_bd (z := x.hs.z) o l x.hs.n fun j hj => (fineH_true (right_fine HHX.out j hj)).2.2.2).1
    have HSU2 := HSU.out
    generalize keptS x.hs.z o l x.hs.n = KX at *
    have k1 : KX ≤ 200 := by omega
    have k2 : (ZX.b + ZX.n + KX != ZX.l) = false := by rw [HSU2]; simp
    have k3 : ZX.b + ZX.n + KX ≤ 200 := by omega
    have k4 : 0 ≤ ZX.b + ZX.n + KX := by omega
    have k5 : ZX.b + ZX.n ≤ 200 := by omega
    have k6 : 0 ≤ ZX.b + ZX.n := by omega
    clear HSU2 HSU
    go_wp2_with fail
    clear a1 a2 a3 a4 k0 k1 k2 k3 k4 k5 k6
    go_loopw [21] (fun kv wk => ∃ i : Nat, i ≤ p.nb ∧ kv = .int .i64 i ∧ Hid (x.At wk ∧ Blk wk Bx 31 7 (fun j => x.cells.getD j default)) ∧ Hid (Blk wk BL 40 4 (fun j => (#[.int .i64 (gd : Int), .int .i64 ZX.l, .int .i64 ZX.b, .int .i64 ZX.n] : Array Value).getD j default)) ∧ Hid (Below W0.heap.size W0 wk)) (fun kv _ => p.nb - (intOf kv).toNat)
    case atStart => exact ⟨0, Nat.zero_le _, rfl, Hx, HLB, HB⟩
    case round =>
      clear Hx HLB HB
      obtain ⟨i, hi, rfl, Hx, HLB, HB⟩ := hrel
      by_cases hlt : i < p.nb
      · have q0 : (0 : Int) ≤ (i : Int) := by omega
        have q1 : (i : Int) < (p.nb : Int) := by omega
        have q2 : decide ((i : Int) < (p.nb : Int)) = true := decide_eq_true q1
        have q3 : decide (i < p.nb) = true := decide_eq_true hlt
        by_cases hsh : ZS.n < ZX.n
        · have q4 : decide (ZS.n < ZX.n) = true := decide_eq_true hsh
          obtain ⟨⟨⟨l1, d0, d1⟩, l2, c0, c1, c2, c3, c4, c5, c6⟩, -, -, -⟩ := HC.out wr HB.out
          obtain ⟨b1, o1, ha1, hb1, e10, e11, k1⟩ := (HC.out wr HB.out).2.2.1.os.ods o hon
          obtain ⟨b5, o5, ha5, hb5, y50, y51, y52, y53⟩ := k1.hds l hln
          rw [ha1] at c1
          rw [ha5] at e11
          clear ha1 ha5 k1 y50 y51 y52 e10
          have HY : Hid (((s.os.z o).ls.z l) = ZS) := HZS.out
          rw [HZS.out] at y53
          have a3 : wr.cell? ⟨BL, 3, none⟩ = some (.int .i64 ZX.n) := HLB.out.cell (j := 3) (by decide)
          have a0 : wr.cell? ⟨BL, 0, none⟩ = some (.int .i64 (gd : Int)) := HLB.out.cell (j := 0) (by decide)
          have a4 := HLB.out.lt
          have rd0 := fun d os => cell_regrown d0 d os
          have rc1 := fun d os => cell_regrown c1 d os
          have re11 := fun d os => cell_regrown e11 d os
          have ry53 := fun d os => cell_regrown y53 d os
          have ra3 := fun d os => cell_regrown a3 d os
          go_wp2_with fail
          refine wp_region_quiet_below (by kernel_rfl) (by kernel_rfl) ?_
          repeat (go_big_quiet_step ((fail)))
          refine wpQuiet_nil ?_
          intro w6 hwq
          have hB := below_of_regrown hwq
          clear hwq rd0 rc1 re11 ry53 ra3
          have Hx : Hid (x.At w6 ∧ Blk w6 Bx 31 7 (fun j => x.cells.getD j default)) := ⟨Hx.out.1.below hB, Hx.out.2.below hB⟩
          have HLB : Hid (Blk w6 BL 40 4 (fun j => (#[.int .i64 (gd : Int), .int .i64 ZX.l, .int .i64 ZX.b, .int .i64 ZX.n] : Array Value).getD j default)) := HLB.out.below hB
          have HB : Hid (Below W0.heap.size W0 w6) := HB.out.trans (hB.mono HB.out.size)
          clear hB
          clear l1 d0 d1 l2 c0 c1 c2 c3 c4 c5 c6 hb1 e11 hb5 y53 a3 a0 a4 HY
          have a0 : w6.cell? ⟨BL, 0, none⟩ = some (.int .i64 (gd : Int)) := HLB.out.cell (j := 0) (by decide)
          have a4 := HLB.out.lt
          obtain ⟨⟨⟨l1, d0, d1⟩, l2, c0, c1, c2, c3, c4, c5, c6⟩, -, -, -⟩ := HC.out w6 HB.out
          obtain ⟨xm, xc0, xc1, xc2, xc3, xc4, xc5, xc6⟩ := Boxed.of Hx.out.2
          go_wp2_with fail
          clear l1 d0 d1 l2 c0 c1 c2 c3 c4 c5 c6 xm xc0 xc1 xc2 xc3 xc4 xc5 xc6 a0 a4
          refine Calls.mono (Avail_rightW p x i gd w6 (HC.out w6 HB.out).2.1 Hx.out.1 HEX.out hlt hgl) ?_
          rintro e w7 ⟨rfl, hB⟩
          have Hx : Hid (x.At w7 ∧ Blk w7 Bx 31 7 (fun j => x.cells.getD j default)) := ⟨Hx.out.1.below hB, Hx.out.2.below hB⟩
          have HLB : Hid (Blk w7 BL 40 4 (fun j => (#[.int .i64 (gd : Int), .int .i64 ZX.l, .int .i64 ZX.b, .int .i64 ZX.n] : Array Value).getD j default)) := HLB.out.below hB
          have HB : Hid (Below W0.heap.size W0 w7) := HB.out.trans (hB.mono HB.out.size)
          clear hB
          by_cases ib : i = b
          · have e1 : ((i : Int) != (b : Int)) = false := by rw [show (i : Int) = (b : Int) by omega]; simp
            generalize availZ x i gd = AZ at *
            go_wp2_with fail
            go_roundw
            case rel => exact ⟨i + 1, by omega, by go_num, Hx, HLB, HB⟩
            case measure => simp [intOf]; omega
          · have e1 : ((i : Int) != (b : Int)) = true := by unfold bne; rw [beq_eq_false_iff_ne.2 (by omega)]; rfl
            rw [HSH.out hsh i hlt ib]
            go_wp2_with fail
            go_roundw
            case rel => exact ⟨i + 1, by omega, by go_num, Hx, HLB, HB⟩
            case measure => simp [intOf]; omega
        · have q4 : decide (ZS.n < ZX.n) = false := decide_eq_false hsh
          obtain ⟨⟨⟨l1, d0, d1⟩, l2, c0, c1, c2, c3, c4, c5, c6⟩, -, -, -⟩ := HC.out wr HB.out
          obtain ⟨b1, o1, ha1, hb1, e10, e11, k1⟩ := (HC.out wr HB.out).2.2.1.os.ods o hon
          obtain ⟨b5, o5, ha5, hb5, y50, y51, y52, y53⟩ := k1.hds l hln
          rw [ha1] at c1
          rw [ha5] at e11
          clear ha1 ha5 k1 y50 y51 y52 e10
          have HY : Hid (((s.os.z o).ls.z l) = ZS) := HZS.out
          rw [HZS.out] at y53
          have a3 : wr.cell? ⟨BL, 3, none⟩ = some (.int .i64 ZX.n) := HLB.out.cell (j := 3) (by decide)
          have a0 : wr.cell? ⟨BL, 0, none⟩ = some (.int .i64 (gd : Int)) := HLB.out.cell (j := 0) (by decide)
          have a4 := HLB.out.lt
          have rd0 := fun d os => cell_regrown d0 d os
          have rc1 := fun d os => cell_regrown c1 d os
          have re11 := fun d os => cell_regrown e11 d os
          have ry53 := fun d os => cell_regrown y53 d os
          have ra3 := fun d os => cell_regrown a3 d os
          go_wp2_with fail
          refine wp_region_quiet_below (by kernel_rfl) (by kernel_rfl) ?_
          repeat (go_big_quiet_step ((fail)))
          refine wpQuiet_nil ?_
          intro w6 hwq
          have hB := below_of_regrown hwq
          clear hwq rd0 rc1 re11 ry53 ra3
          have Hx : Hid (x.At w6 ∧ Blk w6 Bx 31 7 (fun j => x.cells.getD j default)) := ⟨Hx.out.1.below hB, Hx.out.2.below hB⟩
          have HLB : Hid (Blk w6 BL 40 4 (fun j => (#[.int .i64 (gd : Int), .int .i64 ZX.l, .int .i64 ZX.b, .int .i64 ZX.n] : Array Value).getD j default)) := HLB.out.below hB
          have HB : Hid (Below W0.heap.size W0 w6) := HB.out.trans (hB.mono HB.out.size)
          clear hB
          clear l1 d0 d1 l2 c0 c1 c2 c3 c4 c5 c6 hb1 e11 hb5 y53 a3 a0 a4 HY
          go_wp2_with fail
          refine Calls.mono (pickBegun_any w6) ?_
          rintro e w8 ⟨rfl, hB⟩
          have Hx : Hid (x.At w8 ∧ Blk w8 Bx 31 7 (fun j => x.cells.getD j default)) := ⟨Hx.out.1.below hB, Hx.out.2.below hB⟩
          have HLB : Hid (Blk w8 BL 40 4 (fun j => (#[.int .i64 (gd : Int), .int .i64 ZX.l, .int .i64 ZX.b, .int .i64 ZX.n] : Array Value).getD j default)) := HLB.out.below hB
          have HB : Hid (Below W0.heap.size W0 w8) := HB.out.trans (hB.mono HB.out.size)
          clear hB
          go_wp2_with fail
          go_ret
          exact ⟨rfl, (HC.out w8 HB.out).2.2.2⟩
      · have q1 : (p.nb : Int) ≤ (i : Int) := by omega
        have q2 : decide ((i : Int) < (p.nb : Int)) = false := decide_eq_false (by omega)
        have q3 : decide (i < p.nb) = false := decide_eq_false (by omega)
        obtain ⟨⟨⟨l1, d0, d1⟩, l2, c0, c1, c2, c3, c4, c5, c6⟩, -, -, -⟩ := HC.out wr HB.out
        have rd0 := fun d os => cell_regrown d0 d os
        go_wp2_with fail
        refine wp_region_quiet_below (by kernel_rfl) (by kernel_rfl) ?_
        repeat (go_big_quiet_step ((fail)))
        refine wpQuiet_nil ?_
        intro w6 hwq
        have hB := below_of_regrown hwq
        clear hwq rd0
        have Hx : Hid (x.At w6 ∧ Blk w6 Bx 31 7 (fun j => x.cells.getD j default)) := ⟨Hx.out.1.below hB, Hx.out.2.below hB⟩
        have HLB : Hid (Blk w6 BL 40 4 (fun j => (#[.int .i64 (gd : Int), .int .i64 ZX.l, .int .i64 ZX.b, .int .i64 ZX.n] : Array Value).getD j default)) := HLB.out.below hB
        have HB : Hid (Below W0.heap.size W0 w6) := HB.out.trans (hB.mono HB.out.size)
        clear hB
        clear l1 d0 d1 l2 c0 c1 c2 c3 c4 c5 c6
        go_wp2_with fail
        refine Calls.mono (pickBegun_any w6) ?_
        rintro e w8 ⟨rfl, hB⟩
        have Hx : Hid (x.At w8 ∧ Blk w8 Bx 31 7 (fun j => x.cells.getD j default)) := ⟨Hx.out.1.below hB, Hx.out.2.below hB⟩
        have HLB : Hid (Blk w8 BL 40 4 (fun j => (#[.int .i64 (gd : Int), .int .i64 ZX.l, .int .i64 ZX.b, .int .i64 ZX.n] : Array Value).getD j default)) := HLB.out.below hB
        have HB : Hid (Below W0.heap.size W0 w8) := HB.out.trans (hB.mono HB.out.size)
        clear hB
        go_wp2_with fail
        go_ret
        exact ⟨rfl, (HC.out w8 HB.out).2.2.2⟩
  · have g0 : (pickE p s order line bin n != 0) = true := by simpa using h0
    clear h0 HXOK
    generalize pickE p s order line bin n = EE at *
    simp only [St.val]
    go_wp2_with fail
    rw [HW.out]
    clear HW
    generalize w1.heap.size = Bx at *
    refine Calls.mono (pickBegun_any W2) ?_
    rintro e w3 ⟨rfl, hB⟩
    have Hx : Hid (x.At w3 ∧ Blk w3 Bx 31 7 (fun j => x.cells.getD j default)) := ⟨Hx.out.1.below hB, Hx.out.2.below hB⟩
    have HB : Hid (Below W0.heap.size W0 w3) := HB.out.trans (hB.mono HB.out.size)
    clear hB
    go_wp2_with fail
    go_ret
    exact ⟨rfl, (HC.out w3 HB.out).2.2.2⟩
end Go.Proofs.Ytbcacebifpagpae
namespace Go.Proofs.Ytbcacebifpagpae
open Go.ChangeShapes Go.WideShapes Go.ChangeAt Go.RowKit Go.Joins Go.Deep
set_option linter.unusedVariables false
set_option maxRecDepth 100000
theorem own : ownKnob Try.prog.godebug = none := by kernel_rfl
theorem laidOut : laidOutB Try.prog = true := by kernel_rfl
theorem cellsInt : Try.prog.cellsOf 3 = 1 := by kernel_rfl
theorem cellsInts : Try.prog.cellsOf 23 = 1 := by kernel_rfl
theorem cellsBin : Try.prog.cellsOf 58 = 4 := by kernel_rfl
theorem cellsPlan : Try.prog.cellsOf 25 = 2 := by kernel_rfl
theorem cellsBool : Try.prog.cellsOf 4 = 1 := by kernel_rfl
section
variable {H : Type} {enc : TypeId × Value → H} {w : World} {held : Bool} {spare : Nat → Bool}
theorem addrOf {a : Addr} {i : Nat} {v : Value} (h : w.cell? (a.add i) = some v) (h0 : ∃ v0, w.cell? a = some v0) : ∃ b o, a = ⟨b, o, none⟩ ∧ b < w.heap.size ∧ w.cell? ⟨b, o + i, none⟩ = some v := by
  obtain ⟨b, off, spot⟩ := a
  obtain ⟨v0, h0⟩ := h0
  have hspot : spot = none := World.cell?_spot h0
  subst hspot
  refine ⟨b, off, rfl, World.block_lt_of_cell? w _ h0, ?_⟩
  rw [← Go.WideShapes.add_plain]
  exact h
theorem readInts {fuel : Nat} {cs : List Value} {x : DataW H × List MemPlace} (h : DataW.trod enc Try.prog w 0 spare held fuel 23 cs = some x) : ∃ r : Rw, cs = [r.val] ∧ r.At w := by
  rcases open_slice1 Try.underlying23 cellsInt h with ⟨rfl, _⟩ | ⟨a, len, cap, m, n, V, D, Pl, rfl, hb, hl, hm, hmm, _, hx⟩
  · exact ⟨⟨none, 0, 0, fun _ => 0⟩, rfl, Nat.le_refl _, Nat.zero_le _, fun i hi => absurd hi (Nat.not_lt_zero _)⟩
  · have hlm : len ≤ m := by rw [hmm]; split <;> omega
    obtain ⟨z, hz⟩ := choose_lt (α := Int) (n := len) (p := fun i y => V i = .int .i64 y) (fun i hi => by
      obtain ⟨y, hy, _⟩ := DataW.trod_int Try.underlying3 (hx i (by omega)).2
      simp only [List.cons.injEq, and_true] at hy
      exact ⟨y, hy⟩)
    refine ⟨⟨some a, len, cap, z⟩, rfl, hl, hm, fun i hi => ?_⟩
    have hi' : i < len := hi
    have h0 : ∃ v0, w.cell? a = some v0 := ⟨_, by have := (hx 0 (by omega)).1; simpa [Addr.add] using this⟩
    obtain ⟨b, o, rfl, hb', hc⟩ := addrOf (hx i (by omega)).1 h0
    exact ⟨b, o, rfl, hb', by rw [hc, hz i hi']⟩
theorem readRows {fuel : Nat} {cs : List Value} {x : DataW H × List MemPlace} (h : DataW.trod enc Try.prog w 0 spare held fuel 26 cs = some x) : ∃ s : Sh, cs = [s.val] ∧ s.At w := by
  rcases open_slice1 Try.underlying26 cellsInts h with ⟨rfl, _⟩ | ⟨a, len, cap, m, n, V, D, Pl, rfl, hb, hl, hm, hmm, _, hx⟩
  · exact ⟨⟨none, 0, 0, fun _ => ⟨none, 0, 0, fun _ => 0⟩⟩, rfl, Nat.le_refl _, Nat.zero_le _, fun i hi => absurd hi (Nat.not_lt_zero _)⟩
  · have hlm : len ≤ m := by rw [hmm]; split <;> omega
    haveI : Inhabited Rw := ⟨⟨none, 0, 0, fun _ => 0⟩⟩
    obtain ⟨z, hz⟩ := choose_lt (α := Rw) (n := len) (p := fun i y => V i = y.val ∧ y.At w) (fun i hi => by
      obtain ⟨y, hy, hat⟩ := readInts (hx i (by omega)).2
      simp only [List.cons.injEq, and_true] at hy
      exact ⟨y, hy, hat⟩)
    refine ⟨⟨some a, len, cap, z⟩, rfl, hl, hm, fun i hi => ?_⟩
    have hi' : i < len := hi
    have h0 : ∃ v0, w.cell? a = some v0 := ⟨_, by have := (hx 0 (by omega)).1; simpa [Addr.add] using this⟩
    obtain ⟨b, o, rfl, hb', hc⟩ := addrOf (hx i (by omega)).1 h0
    exact ⟨b, o, rfl, hb', by rw [hc, (hz i hi').1]; rfl, (hz i hi').2⟩
theorem readBin {fuel : Nat} {c0 c1 c2 c3 : Value} {x : DataW H × List MemPlace} (h : DataW.trod enc Try.prog w 0 spare held fuel 58 [c0, c1, c2, c3] = some x) : ∃ y : Bin, c0 = .bool y.front ∧ c1 = .int .i64 y.room ∧ c2 = .int .i64 y.low ∧ c3 = .int .i64 y.high := by
  obtain ⟨y0, y1, y2, y3, n, hx, hl, h0, h1, h2, h3⟩ := trod_struct4 Try.underlying58 h
  simp only [cellsBool, cellsInt, List.drop_succ_cons, List.drop_zero, List.take_succ_cons, List.take_zero] at h0 h1 h2 h3
  obtain ⟨b, e0, _⟩ := DataW.trod_bool Try.underlying4 h0
  obtain ⟨n1, e1, _⟩ := DataW.trod_int Try.underlying3 h1
  obtain ⟨n2, e2, _⟩ := DataW.trod_int Try.underlying3 h2
  obtain ⟨n3, e3, _⟩ := DataW.trod_int Try.underlying3 h3
  simp only [List.cons.injEq, and_true] at e0 e1 e2 e3
  exact ⟨⟨b, n1, n2, n3⟩, e0, e1, e2, e3⟩
theorem cells4 {base : Nat} {a : Addr} {cs : List Value} (h : w.cells? base a 4 = some cs) : ∃ c0 c1 c2 c3, cs = [c0, c1, c2, c3] ∧ w.cell? a = some c0 ∧ w.cell? (a.add 1) = some c1 ∧ w.cell? (a.add 2) = some c2 ∧ w.cell? (a.add 3) = some c3 := by
  obtain ⟨_, hlen, hc⟩ := World.cells?_some h
  match cs, hlen with
  | [c0, c1, c2, c3], _ =>
    refine ⟨c0, c1, c2, c3, rfl, ?_, ?_, ?_, ?_⟩
    · simpa [Addr.add] using hc 0 (by decide)
    · simpa using hc 1 (by decide)
    · simpa using hc 2 (by decide)
    · simpa using hc 3 (by decide)
theorem readBins {fuel : Nat} {cs : List Value} {x : DataW H × List MemPlace} (h : DataW.trod enc Try.prog w 0 spare held fuel 22 cs = some x) : ∃ a n c z, cs = [.slice a n c] ∧ n ≤ c ∧ c ≤ maxLen ∧ BinsAt w a n z := by
  rcases open_slice Try.underlying22 h with ⟨rfl, _⟩ | ⟨a, len, cap, m, n, D, Pl, rfl, hb, hl, hm, hmm, _, hx⟩
  · exact ⟨none, 0, 0, fun _ => ⟨false, 0, 0, 0⟩, rfl, Nat.le_refl _, Nat.zero_le _, fun i hi => absurd hi (Nat.not_lt_zero _)⟩
  · have hlm : len ≤ m := by rw [hmm]; split <;> omega
    rw [cellsBin] at hx
    haveI : Inhabited Bin := ⟨⟨false, 0, 0, 0⟩⟩
    obtain ⟨z, hz⟩ := choose_lt (α := Bin) (n := len) (p := fun i y => w.cell? (a.add (i * 4)) = some (.bool y.front) ∧ w.cell? (a.add (i * 4 + 1)) = some (.int .i64 y.room) ∧ w.cell? (a.add (i * 4 + 2)) = some (.int .i64 y.low) ∧ w.cell? (a.add (i * 4 + 3)) = some (.int .i64 y.high)) (fun i hi => by
      obtain ⟨cs', hc, ht⟩ := hx i (by omega)
      obtain ⟨c0, c1, c2, c3, rfl, k0, k1, k2, k3⟩ := cells4 hc
      obtain ⟨y, rfl, rfl, rfl, rfl⟩ := readBin ht
      rw [add_add] at k1 k2 k3
      exact ⟨y, k0, k1, k2, k3⟩)
    refine ⟨some a, len, cap, z, rfl, hl, hm, fun i hi => ?_⟩
    have h0 : ∃ v0, w.cell? a = some v0 := ⟨_, by have := (hz 0 (by omega)).1; simpa [Addr.add] using this⟩
    obtain ⟨k0, k1, k2, k3⟩ := hz i hi
    obtain ⟨b, o, rfl, hb', e0⟩ := addrOf k0 h0
    rw [Go.WideShapes.add_plain] at k1 k2 k3
    exact ⟨b, o, rfl, hb', e0, by rw [Nat.add_assoc]; exact k1, by rw [Nat.add_assoc]; exact k2, by rw [Nat.add_assoc]; exact k3⟩
theorem openPlan {r : Reach} {b0 : Nat} {v : Value} {d : DataW H} {ps : List MemPlace} (hv : Value.okWide Try.prog w r b0 25 v) (h : DataW.Trod enc Try.prog w 0 spare held 25 v d ps) : ∃ p : Pl, v = p.val ∧ p.At w := by
  obtain ⟨c0, c1, y0, y1, m, rfl, rfl, rfl, hy0, hy1⟩ := open_agg2 Try.underlying25 (by kernel_rfl) cellsPlan hv h
  obtain ⟨a, n, c, z, e0, h1, h2, h3⟩ := readBins hy0
  obtain ⟨rr, e1, hr⟩ := readInts hy1
  simp only [List.cons.injEq, and_true] at e0 e1
  subst e0 e1
  exact ⟨⟨a, n, c, z, rr.a, rr.n, rr.c, rr.z⟩, rfl, h1, h2, h3, hr.le, hr.cap, hr.ints⟩
end
end Go.Proofs.Ytbcacebifpagpae
namespace Go.Proofs.Ytbcacebifpagpae
open Go.ChangeShapes Go.WideShapes Go.ChangeAt Go.RowKit Go.Joins Go.Deep
set_option linter.unusedVariables false
set_option maxRecDepth 100000
namespace HoldsFrames
theorem own : ownKnob Try.prog.godebug = none := by kernel_rfl
theorem laidOut : laidOutB Try.prog = true := by kernel_rfl
theorem cellsInt : Try.prog.cellsOf 3 = 1 := by kernel_rfl
theorem cellsHold : Try.prog.cellsOf 70 = 4 := by kernel_rfl
section
variable {H : Type} {enc : TypeId × Value → H} {w : World} {held : Bool} {spare : Nat → Bool}
theorem addrOf {a : Addr} {i : Nat} {v : Value} (h : w.cell? (a.add i) = some v) (h0 : ∃ v0, w.cell? a = some v0) : ∃ b o, a = ⟨b, o, none⟩ ∧ b < w.heap.size ∧ w.cell? ⟨b, o + i, none⟩ = some v := by
  obtain ⟨b, off, spot⟩ := a
  obtain ⟨v0, h0⟩ := h0
  have hspot : spot = none := World.cell?_spot h0
  subst hspot
  refine ⟨b, off, rfl, World.block_lt_of_cell? w _ h0, ?_⟩
  rw [← Go.WideShapes.add_plain]
  exact h
theorem cells4 {base : Nat} {a : Addr} {cs : List Value} (h : w.cells? base a 4 = some cs) : ∃ c0 c1 c2 c3, cs = [c0, c1, c2, c3] ∧ w.cell? a = some c0 ∧ w.cell? (a.add 1) = some c1 ∧ w.cell? (a.add 2) = some c2 ∧ w.cell? (a.add 3) = some c3 := by
  obtain ⟨_, hlen, hc⟩ := World.cells?_some h
  match cs, hlen with
  | [c0, c1, c2, c3], _ =>
    refine ⟨c0, c1, c2, c3, rfl, ?_, ?_, ?_, ?_⟩
    · simpa [Addr.add] using hc 0 (by decide)
    · simpa using hc 1 (by decide)
    · simpa using hc 2 (by decide)
    · simpa using hc 3 (by decide)
theorem readHold {fuel : Nat} {c0 c1 c2 c3 : Value} {x : DataW H × List MemPlace} (h : DataW.trod enc Try.prog w 0 spare held fuel 70 [c0, c1, c2, c3] = some x) : ∃ y : Hd, c0 = .int .i64 y.o ∧ c1 = .int .i64 y.l ∧ c2 = .int .i64 y.b ∧ c3 = .int .i64 y.n := by
  obtain ⟨y0, y1, y2, y3, n, hx, hl, h0, h1, h2, h3⟩ := trod_struct4 Try.underlying70 h
  simp only [cellsInt, List.drop_succ_cons, List.drop_zero, List.take_succ_cons, List.take_zero] at h0 h1 h2 h3
  obtain ⟨n0, e0, _⟩ := DataW.trod_int Try.underlying3 h0
  obtain ⟨n1, e1, _⟩ := DataW.trod_int Try.underlying3 h1
  obtain ⟨n2, e2, _⟩ := DataW.trod_int Try.underlying3 h2
  obtain ⟨n3, e3, _⟩ := DataW.trod_int Try.underlying3 h3
  simp only [List.cons.injEq, and_true] at e0 e1 e2 e3
  exact ⟨⟨n0, n1, n2, n3⟩, e0, e1, e2, e3⟩
theorem readHolds {fuel : Nat} {cs : List Value} {x : DataW H × List MemPlace} (h : DataW.trod enc Try.prog w 0 spare held fuel 28 cs = some x) : ∃ s : Hs, cs = [s.val] ∧ s.At w := by
  rcases open_slice Try.underlying28 h with ⟨rfl, _⟩ | ⟨a, len, cap, m, n, D, Pl, rfl, hb, hl, hm, hmm, _, hx⟩
  · exact ⟨⟨none, 0, 0, fun _ => ⟨0, 0, 0, 0⟩⟩, rfl, Nat.le_refl _, Nat.zero_le _, fun i hi => absurd hi (Nat.not_lt_zero _), fun _ => rfl⟩
  · have hlm : len ≤ m := by rw [hmm]; split <;> omega
    rw [cellsHold] at hx
    haveI : Inhabited Hd := ⟨⟨0, 0, 0, 0⟩⟩
    obtain ⟨z, hz⟩ := choose_lt (α := Hd) (n := len) (p := fun i y => w.cell? (a.add (i * 4)) = some (.int .i64 y.o) ∧ w.cell? (a.add (i * 4 + 1)) = some (.int .i64 y.l) ∧ w.cell? (a.add (i * 4 + 2)) = some (.int .i64 y.b) ∧ w.cell? (a.add (i * 4 + 3)) = some (.int .i64 y.n)) (fun i hi => by
      obtain ⟨cs', hc, ht⟩ := hx i (by omega)
      obtain ⟨c0, c1, c2, c3, rfl, k0, k1, k2, k3⟩ := cells4 hc
      obtain ⟨y, rfl, rfl, rfl, rfl⟩ := readHold ht
      rw [add_add] at k1 k2 k3
      exact ⟨y, k0, k1, k2, k3⟩)
    refine ⟨⟨some a, len, cap, z⟩, rfl, hl, hm, fun i hi => ?_, fun h => by cases h⟩
    have hi' : i < len := hi
    have h0 : ∃ v0, w.cell? a = some v0 := ⟨_, by have := (hz 0 (by omega)).1; simpa [Addr.add] using this⟩
    obtain ⟨k0, k1, k2, k3⟩ := hz i hi'
    obtain ⟨b, o, rfl, hb', e0⟩ := addrOf k0 h0
    rw [Go.WideShapes.add_plain] at k1 k2 k3
    exact ⟨b, o, rfl, hb', e0, by rw [Nat.add_assoc]; exact k1, by rw [Nat.add_assoc]; exact k2, by rw [Nat.add_assoc]; exact k3⟩
end
end HoldsFrames
end Go.Proofs.Ytbcacebifpagpae
namespace Go.Proofs.Ytbcacebifpagpae
open Go.ChangeShapes Go.WideShapes Go.ChangeAt Go.RowKit Go.Joins Go.Deep
set_option linter.unusedVariables false
set_option maxRecDepth 100000
theorem cellsLine : Try.prog.cellsOf 40 = 4 := by kernel_rfl
theorem cellsMove : Try.prog.cellsOf 55 = 4 := by kernel_rfl
theorem cellsOrder : Try.prog.cellsOf 38 = 2 := by kernel_rfl
theorem cellsState : Try.prog.cellsOf 31 = 7 := by kernel_rfl
theorem cellsLines : Try.prog.cellsOf 36 = 1 := by kernel_rfl
theorem cellsMoves : Try.prog.cellsOf 29 = 1 := by kernel_rfl
theorem cellsOrders : Try.prog.cellsOf 27 = 1 := by kernel_rfl
theorem cellsHolds : Try.prog.cellsOf 28 = 1 := by kernel_rfl
theorem cellsRows : Try.prog.cellsOf 26 = 1 := by kernel_rfl
section
variable {H : Type} {enc : TypeId × Value → H} {w : World} {held : Bool} {spare : Nat → Bool}
theorem readLine {fuel : Nat} {c0 c1 c2 c3 : Value} {x : DataW H × List MemPlace} (h : DataW.trod enc Try.prog w 0 spare held fuel 40 [c0, c1, c2, c3] = some x) : ∃ y : Hd, c0 = .int .i64 y.o ∧ c1 = .int .i64 y.l ∧ c2 = .int .i64 y.b ∧ c3 = .int .i64 y.n := by
  obtain ⟨y0, y1, y2, y3, n, hx, hl, h0, h1, h2, h3⟩ := trod_struct4 Try.underlying40 h
  simp only [cellsInt, List.drop_succ_cons, List.drop_zero, List.take_succ_cons, List.take_zero] at h0 h1 h2 h3
  obtain ⟨n0, e0, _⟩ := DataW.trod_int Try.underlying3 h0
  obtain ⟨n1, e1, _⟩ := DataW.trod_int Try.underlying3 h1
  obtain ⟨n2, e2, _⟩ := DataW.trod_int Try.underlying3 h2
  obtain ⟨n3, e3, _⟩ := DataW.trod_int Try.underlying3 h3
  simp only [List.cons.injEq, and_true] at e0 e1 e2 e3
  exact ⟨⟨n0, n1, n2, n3⟩, e0, e1, e2, e3⟩
theorem readLines {fuel : Nat} {cs : List Value} {x : DataW H × List MemPlace} (h : DataW.trod enc Try.prog w 0 spare held fuel 36 cs = some x) : ∃ s : Hs, cs = [s.val] ∧ s.At w := by
  rcases open_slice Try.underlying36 h with ⟨rfl, _⟩ | ⟨a, len, cap, m, n, D, Pl, rfl, hb, hl, hm, hmm, _, hx⟩
  · exact ⟨⟨none, 0, 0, fun _ => ⟨0, 0, 0, 0⟩⟩, rfl, Nat.le_refl _, Nat.zero_le _, fun i hi => absurd hi (Nat.not_lt_zero _), fun _ => rfl⟩
  · have hlm : len ≤ m := by rw [hmm]; split <;> omega
    rw [cellsLine] at hx
    haveI : Inhabited Hd := ⟨⟨0, 0, 0, 0⟩⟩
    obtain ⟨z, hz⟩ := choose_lt (α := Hd) (n := len) (p := fun i y => w.cell? (a.add (i * 4)) = some (.int .i64 y.o) ∧ w.cell? (a.add (i * 4 + 1)) = some (.int .i64 y.l) ∧ w.cell? (a.add (i * 4 + 2)) = some (.int .i64 y.b) ∧ w.cell? (a.add (i * 4 + 3)) = some (.int .i64 y.n)) (fun i hi => by
      obtain ⟨cs', hc, ht⟩ := hx i (by omega)
      obtain ⟨c0, c1, c2, c3, rfl, k0, k1, k2, k3⟩ := cells4 hc
      obtain ⟨y, rfl, rfl, rfl, rfl⟩ := readLine ht
      rw [add_add] at k1 k2 k3
      exact ⟨y, k0, k1, k2, k3⟩)
    refine ⟨⟨some a, len, cap, z⟩, rfl, hl, hm, fun i hi => ?_, fun h => by cases h⟩
    have hi' : i < len := hi
    have h0 : ∃ v0, w.cell? a = some v0 := ⟨_, by have := (hz 0 (by omega)).1; simpa [Addr.add] using this⟩
    obtain ⟨k0, k1, k2, k3⟩ := hz i hi'
    obtain ⟨b, o, rfl, hb', e0⟩ := addrOf k0 h0
    rw [Go.WideShapes.add_plain] at k1 k2 k3
    exact ⟨b, o, rfl, hb', e0, by rw [Nat.add_assoc]; exact k1, by rw [Nat.add_assoc]; exact k2, by rw [Nat.add_assoc]; exact k3⟩
theorem readMove {fuel : Nat} {c0 c1 c2 c3 : Value} {x : DataW H × List MemPlace} (h : DataW.trod enc Try.prog w 0 spare held fuel 55 [c0, c1, c2, c3] = some x) : ∃ y : Hd, c0 = .int .i64 y.o ∧ c1 = .int .i64 y.l ∧ c2 = .int .i64 y.b ∧ c3 = .int .i64 y.n := by
  obtain ⟨y0, y1, y2, y3, n, hx, hl, h0, h1, h2, h3⟩ := trod_struct4 Try.underlying55 h
  simp only [cellsInt, List.drop_succ_cons, List.drop_zero, List.take_succ_cons, List.take_zero] at h0 h1 h2 h3
  obtain ⟨n0, e0, _⟩ := DataW.trod_int Try.underlying3 h0
  obtain ⟨n1, e1, _⟩ := DataW.trod_int Try.underlying3 h1
  obtain ⟨n2, e2, _⟩ := DataW.trod_int Try.underlying3 h2
  obtain ⟨n3, e3, _⟩ := DataW.trod_int Try.underlying3 h3
  simp only [List.cons.injEq, and_true] at e0 e1 e2 e3
  exact ⟨⟨n0, n1, n2, n3⟩, e0, e1, e2, e3⟩
theorem readMoves {fuel : Nat} {cs : List Value} {x : DataW H × List MemPlace} (h : DataW.trod enc Try.prog w 0 spare held fuel 29 cs = some x) : ∃ s : Hs, cs = [s.val] ∧ s.At w := by
  rcases open_slice Try.underlying29 h with ⟨rfl, _⟩ | ⟨a, len, cap, m, n, D, Pl, rfl, hb, hl, hm, hmm, _, hx⟩
  · exact ⟨⟨none, 0, 0, fun _ => ⟨0, 0, 0, 0⟩⟩, rfl, Nat.le_refl _, Nat.zero_le _, fun i hi => absurd hi (Nat.not_lt_zero _), fun _ => rfl⟩
  · have hlm : len ≤ m := by rw [hmm]; split <;> omega
    rw [cellsMove] at hx
    haveI : Inhabited Hd := ⟨⟨0, 0, 0, 0⟩⟩
    obtain ⟨z, hz⟩ := choose_lt (α := Hd) (n := len) (p := fun i y => w.cell? (a.add (i * 4)) = some (.int .i64 y.o) ∧ w.cell? (a.add (i * 4 + 1)) = some (.int .i64 y.l) ∧ w.cell? (a.add (i * 4 + 2)) = some (.int .i64 y.b) ∧ w.cell? (a.add (i * 4 + 3)) = some (.int .i64 y.n)) (fun i hi => by
      obtain ⟨cs', hc, ht⟩ := hx i (by omega)
      obtain ⟨c0, c1, c2, c3, rfl, k0, k1, k2, k3⟩ := cells4 hc
      obtain ⟨y, rfl, rfl, rfl, rfl⟩ := readMove ht
      rw [add_add] at k1 k2 k3
      exact ⟨y, k0, k1, k2, k3⟩)
    refine ⟨⟨some a, len, cap, z⟩, rfl, hl, hm, fun i hi => ?_, fun h => by cases h⟩
    have hi' : i < len := hi
    have h0 : ∃ v0, w.cell? a = some v0 := ⟨_, by have := (hz 0 (by omega)).1; simpa [Addr.add] using this⟩
    obtain ⟨k0, k1, k2, k3⟩ := hz i hi'
    obtain ⟨b, o, rfl, hb', e0⟩ := addrOf k0 h0
    rw [Go.WideShapes.add_plain] at k1 k2 k3
    exact ⟨b, o, rfl, hb', e0, by rw [Nat.add_assoc]; exact k1, by rw [Nat.add_assoc]; exact k2, by rw [Nat.add_assoc]; exact k3⟩
theorem cells2 {base : Nat} {a : Addr} {cs : List Value} (h : w.cells? base a 2 = some cs) : ∃ c0 c1, cs = [c0, c1] ∧ w.cell? a = some c0 ∧ w.cell? (a.add 1) = some c1 := by
  obtain ⟨_, hlen, hc⟩ := World.cells?_some h
  match cs, hlen with
  | [c0, c1], _ =>
    refine ⟨c0, c1, rfl, ?_, ?_⟩
    · simpa [Addr.add] using hc 0 (by decide)
    · simpa using hc 1 (by decide)
theorem readOrder {fuel : Nat} {c0 c1 : Value} {x : DataW H × List MemPlace} (h : DataW.trod enc Try.prog w 0 spare held fuel 38 [c0, c1] = some x) : ∃ y : Od, c0 = .int .i64 y.k ∧ c1 = .slice y.ls.a y.ls.n y.ls.c ∧ y.ls.At w := by
  obtain ⟨y0, y1, n, hx, hl, h0, h1⟩ := trod_struct2 Try.underlying38 h
  simp only [cellsInt, cellsLines, List.drop_succ_cons, List.drop_zero, List.take_succ_cons, List.take_zero] at h0 h1
  obtain ⟨n0, e0, _⟩ := DataW.trod_int Try.underlying3 h0
  obtain ⟨s, e1, hs⟩ := readLines h1
  simp only [List.cons.injEq, and_true] at e0 e1
  exact ⟨⟨n0, s⟩, e0, e1, hs⟩
theorem readOrders {fuel : Nat} {cs : List Value} {x : DataW H × List MemPlace} (h : DataW.trod enc Try.prog w 0 spare held fuel 27 cs = some x) : ∃ s : Go.Proofs.Ytbcacebifpagpae.Os, cs = [s.val] ∧ s.At w := by
  rcases open_slice Try.underlying27 h with ⟨rfl, _⟩ | ⟨a, len, cap, m, n, D, Pl, rfl, hb, hl, hm, hmm, _, hx⟩
  · exact ⟨⟨none, 0, 0, fun _ => ⟨0, ⟨none, 0, 0, fun _ => ⟨0, 0, 0, 0⟩⟩⟩⟩, rfl, Nat.le_refl _, Nat.zero_le _, fun i hi => absurd hi (Nat.not_lt_zero _)⟩
  · have hlm : len ≤ m := by rw [hmm]; split <;> omega
    rw [cellsOrder] at hx
    haveI : Inhabited Od := ⟨⟨0, ⟨none, 0, 0, fun _ => ⟨0, 0, 0, 0⟩⟩⟩⟩
    obtain ⟨z, hz⟩ := choose_lt (α := Od) (n := len) (p := fun i y => w.cell? (a.add (i * 2)) = some (.int .i64 y.k) ∧ w.cell? (a.add (i * 2 + 1)) = some (.slice y.ls.a y.ls.n y.ls.c) ∧ y.ls.At w) (fun i hi => by
      obtain ⟨cs', hc, ht⟩ := hx i (by omega)
      obtain ⟨c0, c1, rfl, k0, k1⟩ := cells2 hc
      obtain ⟨y, rfl, rfl, hy⟩ := readOrder ht
      rw [add_add] at k1
      exact ⟨y, k0, k1, hy⟩)
    refine ⟨⟨some a, len, cap, z⟩, rfl, hl, hm, fun i hi => ?_⟩
    have hi' : i < len := hi
    have h0 : ∃ v0, w.cell? a = some v0 := ⟨_, by have := (hz 0 (by omega)).1; simpa [Addr.add] using this⟩
    obtain ⟨k0, k1, hy⟩ := hz i hi'
    obtain ⟨b, o, rfl, hb', e0⟩ := addrOf k0 h0
    rw [Go.WideShapes.add_plain] at k1
    exact ⟨b, o, rfl, hb', e0, by rw [Nat.add_assoc]; exact k1, hy⟩
theorem array7 {α : Type} {cs : Array α} (h : cs.size = 7) : ∃ c0 c1 c2 c3 c4 c5 c6, cs = #[c0, c1, c2, c3, c4, c5, c6] := by
  obtain ⟨l⟩ := cs
  match l, h with
  | [c0, c1, c2, c3, c4, c5, c6], _ => exact ⟨c0, c1, c2, c3, c4, c5, c6, rfl⟩
theorem openState {r : Reach} {b0 : Nat} {v : Value} {d : DataW H} {ps : List MemPlace} (hv : Value.okWide Try.prog w r b0 31 v) (h : DataW.Trod enc Try.prog w 0 spare held 31 v d ps) : ∃ s : St, v = s.val ∧ s.At w := by
  obtain ⟨cs, rfl, hsz⟩ := okWide_struct Try.underlying31 hv
  obtain ⟨c0, c1, c2, c3, c4, c5, c6, rfl⟩ := array7 (hsz.trans cellsState)
  obtain ⟨fuel, hf⟩ := h
  obtain ⟨xs, n, _, hx, hl, hlen, hg⟩ := DataW.trod_struct Try.underlying31 hf
  match xs, hlen with
  | [y0, y1, y2, y3, y4, y5, y6], _ =>
    have k0 := hg 0 _ rfl
    have k1 := hg 1 _ rfl
    have k2 := hg 2 _ rfl
    have k3 := hg 3 _ rfl
    have k4 := hg 4 _ rfl
    have k5 := hg 5 _ rfl
    have k6 := hg 6 _ rfl
    simp [cellsRows, cellsOrders, cellsHolds, cellsMoves, cellsInts, Value.cells] at k0 k1 k2 k3 k4 k5 k6
    obtain ⟨on, e0, h0⟩ := readRows k0
    obtain ⟨os, e1, h1⟩ := readOrders k1
    obtain ⟨hs, e2, h2⟩ := HoldsFrames.readHolds k2
    obtain ⟨ms, e3, h3⟩ := readMoves k3
    obtain ⟨si, e4, h4⟩ := readInts k4
    obtain ⟨so, e5, h5⟩ := readInts k5
    obtain ⟨sf, e6, h6⟩ := readInts k6
    simp only [List.cons.injEq, and_true] at e0 e1 e2 e3 e4 e5 e6
    subst e0 e1 e2 e3 e4 e5 e6
    exact ⟨⟨on, os, hs, ms, si, so, sf⟩, rfl, h0, h1, h2, h3, h4, h5, h6⟩
end
end Go.Proofs.Ytbcacebifpagpae

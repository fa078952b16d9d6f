/- What Check of a state asks part by part: badMoves, badSums, badHolds. -/
import Derived.Test.YtjiodlbblmbibacSW3
namespace Go.Proofs.Ytjiodlbblmbibac
open Go.RowKit Go.Shelf Go.Sort
set_option linter.unusedVariables false

set_option maxHeartbeats 1000000 in
theorem badMoves_any (p : Pl) (s : St) (w : World) (hp : p.At w) (hs : s.At w) :
    Calls Try.prog 37 #[p.val, s.val] w fun e w' => e = .returned (.bool (badMovesB p s)) ∧ Below w.heap.size w w' := by
  have X := boxes_new w p s 25 31
  have hB1 := two_below w (.cells #[.slice p.ab p.nb p.cb, .slice p.sa p.ns p.cs] 25) (.cells s.cells 31)
  have hm1 := (hs.ms.below hB1).hds
  unfold St.cells at X hB1 hm1
  have mcap0 := hs.ms.cap
  have mle := hs.ms.le
  unfold Pl.val St.val
  go_enter Try.func37, Try.ntmps37
  go_wp2_with fail
  refine (anyM4 79 #[.pointer (some ⟨w.heap.size, 0, none⟩)] (fun i => badMove p (s.ms.z i)) _ _ _ _ mle mcap0 s.ms.z hm1 (enters_of Try.func79 (by kernel_rfl) rfl) (fun i w1 hi h => ?_)).mono ?_
  · have X3 := X.below h
    exact badMoves1_any w.heap.size p _ w1 hp.les hp.caps hp.leb hp.capb X3.1.1 X3.1.2.1 X3.1.2.2
  · rintro e w1 ⟨rfl, hB3⟩
    go_wp2_with fail
    go_ret
    exact ⟨rfl, hB1.trans (hB3.mono hB1.size)⟩

set_option maxHeartbeats 2000000 in
theorem badSums_any (p : Pl) (s : St) (w : World) (hp : p.At w) (hs : s.At w) :
    Calls Try.prog 38 #[p.val, s.val] w fun e w' => e = .returned (.bool (badSumsB p s)) ∧ Below w.heap.size w w' := by
  have X := boxes_new w p s 25 31
  have hB1 := two_below w (.cells #[.slice p.ab p.nb p.cb, .slice p.sa p.ns p.cs] 25) (.cells s.cells 31)
  have eg := enters_of Try.func80 (by kernel_rfl) rfl
  unfold Pl.val St.val
  go_enter Try.func38, Try.ntmps38
  go_wp2_with fail
  obtain ⟨W, hW⟩ : ∃ W, ((w.alloc (.cells #[.slice p.ab p.nb p.cb, .slice p.sa p.ns p.cs] 25)).alloc (.cells s.cells 31)) = W := ⟨_, rfl⟩
  rw [hW] at X hB1
  unfold St.cells at hW
  rw [hW]
  clear hW
  refine (badSums1_any w.heap.size p s.si 0 W (hs.si.below hB1) hp.les hp.caps X.1.1 X.1.2.2).mono ?_
  rintro e w1 ⟨rfl, hB2⟩
  have X1 := X.below hB2
  have hC1 := hB1.trans (hB2.mono hB1.size)
  clear X hB1 hB2
  cases h1 : badSum p s.si 0
  · have Y1 := X1
    obtain ⟨-, hlt, -, -, -, -, -, e5, -⟩ := Y1
    go_wp2_with fail
    refine (badSums1_any w.heap.size p s.so 0 w1 (hs.so.below hC1) hp.les hp.caps X1.1.1 X1.1.2.2).mono ?_
    rintro e w2 ⟨rfl, hB2⟩
    have X2 := X1.below hB2
    have hC2 := hC1.trans (hB2.mono hC1.size)
    clear X1 hC1 hB2 e5 hlt
    cases h2 : badSum p s.so 0
    · have Y2 := X2
      obtain ⟨-, hlt, -, -, -, -, -, -, e6⟩ := Y2
      go_wp2_with fail
      refine (badSums1_any w.heap.size p s.sf (-1048576) w2 (hs.sf.below hC2) hp.les hp.caps X2.1.1 X2.1.2.2).mono ?_
      rintro e w3 ⟨rfl, hB2⟩
      go_wp2_with fail
      go_ret
      exact ⟨by simp [badSumsB, h1, h2], hC2.trans (hB2.mono hC2.size)⟩
    · go_wp2_with fail
      go_ret
      exact ⟨by simp [badSumsB, h2], hC2⟩
  · go_wp2_with fail
    go_ret
    exact ⟨by simp [badSumsB, h1], hC1⟩

set_option maxHeartbeats 2000000 in
theorem badHolds1_any (Bp Bs : Nat) (p : Pl) (s : St) (x : Hd) (w : World) (hp : p.At w) (hs : s.os.At w) (X : Boxes w Bp Bs p s) :
    Calls Try.prog 76 #[x.val, .pointer (some ⟨Bs, 0, none⟩), .pointer (some ⟨Bp, 0, none⟩)] w fun e w' => e = .returned (.bool (homeless p s x)) ∧ Below w.heap.size w w' := by
  obtain ⟨W, hW, hWB, hX⟩ : ∃ W, w.alloc (.cells #[.int .i64 x.o, .int .i64 x.l, .int .i64 x.b, .int .i64 x.n] 65) = W ∧ Below w.heap.size w W ∧ Blk W w.heap.size 65 4 (fun j => (#[.int .i64 x.o, .int .i64 x.l, .int .i64 x.b, .int .i64 x.n] : Array Value).getD j default) := ⟨_, rfl, (Below.refl w.heap.size w).alloc (Nat.le_refl _) _, Blk.mk' rfl rfl⟩
  have HW : Hid (w.alloc (.cells #[.int .i64 x.o, .int .i64 x.l, .int .i64 x.b, .int .i64 x.n] 65) = W) := hW
  have X1 := X.below hWB
  have os := hs.below hWB
  have ole := os.le
  have ocap0 := os.cap
  have hn0 : s.os.n ≤ maxLen := Nat.le_trans ole ocap0
  have hnb : p.nb ≤ maxLen := Nat.le_trans hp.leb hp.capb
  have pcap := hp.capb
  have ple := hp.leb
  have ocap := ocap0
  unfold maxLen at ocap pcap
  have r0 : ∀ d os, (grow (redrawn W d) os).cell? ⟨w.heap.size, 0, none⟩ = some (.int .i64 x.o) := fun d os => cell_regrown (hX.cell (j := 0) (by decide)) d os
  have r1 : ∀ d os, (grow (redrawn W d) os).cell? ⟨w.heap.size, 1, none⟩ = some (.int .i64 x.l) := fun d os => cell_regrown (hX.cell (j := 1) (by decide)) d os
  have r2 : ∀ d os, (grow (redrawn W d) os).cell? ⟨w.heap.size, 2, none⟩ = some (.int .i64 x.b) := fun d os => cell_regrown (hX.cell (j := 2) (by decide)) d os
  have r3 : ∀ d os, (grow (redrawn W d) os).cell? ⟨Bs, 1, none⟩ = some (.slice s.os.a s.os.n s.os.c) := fun d os => cell_regrown X1.2.2.2.1 d os
  have r4 : ∀ d os, (grow (redrawn W d) os).cell? ⟨Bp, 0, none⟩ = some (.slice p.ab p.nb p.cb) := fun d os => cell_regrown X1.1.2.1 d os
  clear hW
  unfold Hd.val
  cases h1 : inB x.o 0 ((s.os.n : Int) - 1)
  · go_enter Try.func76, Try.ntmps76
    go_wp2_with fail
    rw [HW.out]
    refine wp_region_quiet_below (by kernel_rfl) (by kernel_rfl) ?_
    repeat (go_big_quiet_step ((go_at_call 30; exact Calls.regrown_of ((Has_any _ _ _ (by assumption)).mono (fun _ _ h => ⟨h.1, h.2 ▸ Below.refl _ _⟩)))))
    refine wpQuiet_nil ?_
    intro _ hw'
    obtain ⟨⟨dq, osq⟩, hw''⟩ := hw'
    subst hw''
    go_wp2_with fail
    go_ret
    exact ⟨by simp [homeless, h1], hWB.trans ((below_regrown _ _ _).mono hWB.size)⟩
  · obtain ⟨m, hm⟩ := Int.eq_ofNat_of_zero_le (inB_true h1).1
    have hmn : m < s.os.n := by have := (inB_true h1).2; omega
    obtain ⟨b, o, hab, hb, -, z1, hl⟩ := os.ods m hmn
    have hln0 : (s.os.z m).ls.n ≤ maxLen := Nat.le_trans hl.le hl.cap
    have HA : Hid (homeless p s x = (!inB x.l 0 (((s.os.z m).ls.n : Int) - 1) || !inB x.b 0 ((p.nb : Int) - 1))) := by
      show homeless p s x = _
      unfold homeless
      rw [h1, hm, Int.toNat_natCast]
      rfl
    rw [hm] at r0 h1
    simp only [hab] at r3
    have r5 : ∀ d os, (grow (redrawn W d) os).cell? ⟨b, o + m * 2 + 1, none⟩ = some (.slice (s.os.z m).ls.a (s.os.z m).ls.n (s.os.z m).ls.c) := fun d os => cell_regrown z1 d os
    have m1 : (0 : Int) ≤ (m : Int) := by omega
    have m2 : (m : Int) < (s.os.n : Int) := by omega
    have HO : Hid (x.o = (m : Int)) := hm
    clear hm hab z1 os X1 X hX
    generalize (s.os.z m).ls = L at *
    cases h2 : inB x.l 0 ((L.n : Int) - 1)
    · go_enter Try.func76, Try.ntmps76
      go_wp2_with fail
      rw [HW.out, HO.out]
      refine wp_region_quiet_below (by kernel_rfl) (by kernel_rfl) ?_
      repeat (go_big_quiet_step ((go_at_call 30; exact Calls.regrown_of ((Has_any _ _ _ (by assumption)).mono (fun _ _ h => ⟨h.1, h.2 ▸ Below.refl _ _⟩)))))
      refine wpQuiet_nil ?_
      intro _ hw'
      obtain ⟨⟨dq, osq⟩, hw''⟩ := hw'
      subst hw''
      go_wp2_with fail
      go_ret
      exact ⟨by rw [HA.out, h2]; simp, hWB.trans ((below_regrown _ _ _).mono hWB.size)⟩
    · go_enter Try.func76, Try.ntmps76
      go_wp2_with fail
      rw [HW.out, HO.out]
      refine wp_region_quiet_below (by kernel_rfl) (by kernel_rfl) ?_
      repeat (go_big_quiet_step ((go_at_call 30; exact Calls.regrown_of ((Has_any _ _ _ (by assumption)).mono (fun _ _ h => ⟨h.1, h.2 ▸ Below.refl _ _⟩)))))
      refine wpQuiet_nil ?_
      intro _ hw'
      obtain ⟨⟨dq, osq⟩, hw''⟩ := hw'
      subst hw''
      go_wp2_with fail
      go_ret
      exact ⟨by rw [HA.out, h2]; simp, hWB.trans ((below_regrown _ _ _).mono hWB.size)⟩

end Go.Proofs.Ytjiodlbblmbibac

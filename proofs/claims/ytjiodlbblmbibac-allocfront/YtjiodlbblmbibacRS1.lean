/- What the document reckons of states: bound. -/
import Derived.Test.YtjiodlbblmbibacSW6
namespace Go.Proofs.Ytjiodlbblmbibac
open Go.RowKit Go.Shelf Go.Sort
set_option linter.unusedVariables false

set_option maxHeartbeats 4000000 in
theorem bound_any (p : Pl) (s : St) (bin good : Nat) (w : World) (hs : s.At w) (f : Formed p s) :
    Calls Try.prog 121 #[s.val, .int .i64 bin, .int .i64 good] w fun e w' => e = .returned (.int .i64 (heldTo s bin good s.hs.n + fromTo s bin good s.ms.n)) ∧ Below w.heap.size w w' := by
  obtain ⟨W0, hW0, hWB, hX⟩ : ∃ W0, w.alloc (.cells s.cells 31) = W0 ∧ Below w.heap.size w W0 ∧ Blk W0 w.heap.size 31 7 (fun j => s.cells.getD j default) := ⟨_, rfl, (Below.refl w.heap.size w).alloc (Nat.le_refl _) _, Blk.mk' rfl rfl⟩
  have hs0 := hs.below hWB
  have hsz0 : w.heap.size < W0.heap.size := hX.lt
  have HC : Hid (∀ wk, Below W0.heap.size W0 wk → s.At wk ∧ wk.cell? ⟨w.heap.size, 1, none⟩ = some (.slice s.os.a s.os.n s.os.c) ∧ wk.cell? ⟨w.heap.size, 2, none⟩ = some (.slice s.hs.a s.hs.n s.hs.c) ∧ wk.cell? ⟨w.heap.size, 3, none⟩ = some (.slice s.ms.a s.ms.n s.ms.c) ∧ w.heap.size < wk.heap.size) :=
    fun wk h => ⟨hs0.below h, (hX.below h).cell (j := 1) (by decide), (hX.below h).cell (j := 2) (by decide), (hX.below h).cell (j := 3) (by decide), (hX.below h).lt⟩
  have hhle := hs0.hs.le
  have hhcap := hs0.hs.cap
  have hmle := hs0.ms.le
  have hmcap := hs0.ms.cap
  have hosle := hs0.os.le
  have hoscap := hs0.os.cap
  unfold maxLen at hhcap hmcap hoscap
  have h72 := f.hs72
  have m8 := f.ms8
  have HB : Hid (∀ k, k ≤ s.hs.n → 0 ≤ heldTo s bin good k ∧ heldTo s bin good k ≤ 200 * k) := fun k hk => heldTo_bd fun j hj => f.holdN j (by omega)
  have MB : Hid (∀ k, k ≤ s.ms.n → 0 ≤ fromTo s bin good k ∧ fromTo s bin good k ≤ 200 * k) := fun k hk => fromTo_bd fun j hj => f.moveN j (by omega)
  have HW : Hid (w.alloc (.cells #[.slice s.on.a s.on.n s.on.c, .slice s.os.a s.os.n s.os.c, .slice s.hs.a s.hs.n s.hs.c, .slice s.ms.a s.ms.n s.ms.c, .slice s.si.a s.si.n s.si.c, .slice s.so.a s.so.n s.so.c, .slice s.sf.a s.sf.n s.sf.c] 31) = W0) := hW0
  simp only [St.val]
  clear hX hW0
  go_enter Try.func121, Try.ntmps121
  go_wp2_with fail
  rw [HW.out]
  go_loopw [7, 8] (fun u i wk => ∃ k : Nat, k ≤ s.hs.n ∧ i = .int .i64 k ∧ u = .int .i64 (heldTo s bin good k) ∧ Below W0.heap.size W0 wk) (fun _ i _ => s.hs.n - (intOf i).toNat)
  case atStart => exact ⟨0, Nat.zero_le _, rfl, by simp [heldTo], Below.refl _ _⟩
  case round =>
    obtain ⟨k, hk, rfl, rfl, hB⟩ := hrel
    have m1 := HB.out k hk
    obtain ⟨hsk, c1, c2, c3, hlt0⟩ := HC.out wr hB
    by_cases hlt : k < s.hs.n
    · obtain ⟨b, q, hha, hb, z0, z1, z2, z3⟩ := hsk.hs.hds k hlt
      have m2 := f.holdN k hlt
      obtain ⟨mo, ml, b1, o1, b2, o2, N, C, hmo, hml, g1, g2, g3, g4, hosa, g5, g6, g7, g8⟩ := goodAt f hsk.os hlt
      have HG : Hid (s.hs.a = some ⟨b, q, none⟩ ∧ s.os.a = some ⟨b1, o1, none⟩ ∧ (s.hs.z k).o = (mo : Int) ∧ (s.hs.z k).l = (ml : Int)) := ⟨hha, hosa, hmo, hml⟩
      obtain ⟨W1, hW1, hB1, hY⟩ : ∃ W1, wr.alloc (.cells #[.int .i64 mo, .int .i64 ml, .int .i64 (s.hs.z k).b, .int .i64 (s.hs.z k).n] 65) = W1 ∧ Below W0.heap.size W0 W1 ∧ Blk W1 wr.heap.size 65 4 (fun j => (#[.int .i64 mo, .int .i64 ml, .int .i64 (s.hs.z k).b, .int .i64 (s.hs.z k).n] : Array Value).getD j default) := ⟨_, rfl, hB.alloc hB.size _, Blk.mk' rfl rfl⟩
      have hBa : Below wr.heap.size wr W1 := by rw [← hW1]; exact (Below.refl _ _).alloc (Nat.le_refl _) _
      have r0 : ∀ d os, (grow (redrawn W1 d) os).cell? ⟨wr.heap.size, 0, none⟩ = some (.int .i64 mo) := fun d os => cell_regrown (hY.cell (j := 0) (by decide)) d os
      have r1 : ∀ d os, (grow (redrawn W1 d) os).cell? ⟨wr.heap.size, 1, none⟩ = some (.int .i64 ml) := fun d os => cell_regrown (hY.cell (j := 1) (by decide)) d os
      have r2 : ∀ d os, (grow (redrawn W1 d) os).cell? ⟨wr.heap.size, 2, none⟩ = some (.int .i64 (s.hs.z k).b) := fun d os => cell_regrown (hY.cell (j := 2) (by decide)) d os
      have r3 : ∀ d os, (grow (redrawn W1 d) os).cell? ⟨wr.heap.size, 3, none⟩ = some (.int .i64 (s.hs.z k).n) := fun d os => cell_regrown (hY.cell (j := 3) (by decide)) d os
      rw [hosa] at c1
      rw [hmo] at z0
      rw [hml] at z1
      have r4 : ∀ d os, (grow (redrawn W1 d) os).cell? ⟨w.heap.size, 1, none⟩ = some (.slice (some ⟨b1, o1, none⟩) s.os.n s.os.c) := fun d os => cell_regrown ((hBa.cell (p := ⟨w.heap.size, 1, none⟩) hlt0).trans c1) d os
      have r5 : ∀ d os, (grow (redrawn W1 d) os).cell? ⟨b1, o1 + mo * 2 + 1, none⟩ = some (.slice (some ⟨b2, o2, none⟩) N C) := fun d os => cell_regrown ((hBa.cell (p := ⟨b1, o1 + mo * 2 + 1, none⟩) g5).trans g7) d os
      have r6 : ∀ d os, (grow (redrawn W1 d) os).cell? ⟨b2, o2 + ml * 4, none⟩ = some (.int .i64 (goodH s (s.hs.z k))) := fun d os => cell_regrown ((hBa.cell (p := ⟨b2, o2 + ml * 4, none⟩) g6).trans g8) d os
      have HV : Hid (wr.alloc (.cells #[.int .i64 mo, .int .i64 ml, .int .i64 (s.hs.z k).b, .int .i64 (s.hs.z k).n] 65) = W1) := hW1
      have q2 : (0 : Int) ≤ (mo : Int) := by omega
      have q3 : (0 : Int) ≤ (ml : Int) := by omega
      have q4 : (0 : Int) ≤ (k : Int) := by omega
      have H1 : Hid (((s.hs.z k).b = bin ∧ goodH s (s.hs.z k) = good → heldTo s bin good (k + 1) = heldTo s bin good k + (s.hs.z k).n) ∧ (¬ ((s.hs.z k).b = bin ∧ goodH s (s.hs.z k) = good) → heldTo s bin good (k + 1) = heldTo s bin good k)) := ⟨fun h => heldTo_hit h.1 h.2, heldTo_miss⟩
      rw [hha] at c2
      unfold maxLen at g4
      clear hmo hml hosa hha hW1 c1 c3 hsk hBa
      generalize goodH s (s.hs.z k) = GD at *
      generalize heldTo s bin good k = U at *
      generalize (s.hs.z k).b = BB at *
      generalize (s.hs.z k).n = NN at *
      cases h1 : (BB == (bin : Int))
      · have hm := H1.out.2 (by simp at h1; omega)
        have HM : Hid (heldTo s bin good (k + 1) = U) := hm
        clear hm H1
        go_wp2_with fail
        rw [HV.out]
        refine wp_region_quiet_below (by kernel_rfl) (by kernel_rfl) ?_
        repeat (go_big_quiet_step (fail))
        refine wpQuiet_nil ?_
        intro _ hw'
        obtain ⟨⟨dq, osq⟩, hw''⟩ := hw'
        subst hw''
        have hC := hB1.trans ((below_regrown W1 dq osq).mono hB1.size)
        have hn3 := r3 dq osq
        have hlw : wr.heap.size < (grow (redrawn W1 dq) osq).heap.size := Nat.lt_of_lt_of_le hY.lt (below_regrown W1 dq osq).size
        clear r0 r1 r2 r3 r4 r5 r6 hY hB1 HV
        generalize grow (redrawn W1 dq) osq = wz at *
        go_wp2_with fail
        go_roundw
        case rel => exact ⟨k + 1, by omega, by go_num, by rw [HM.out], hC⟩
        case measure => simp [intOf]; omega
      · cases h2 : (GD == (good : Int))
        · have hm := H1.out.2 (by simp at h2; omega)
          have HM : Hid (heldTo s bin good (k + 1) = U) := hm
          clear hm H1
          go_wp2_with fail
          rw [HV.out]
          refine wp_region_quiet_below (by kernel_rfl) (by kernel_rfl) ?_
          repeat (go_big_quiet_step (fail))
          refine wpQuiet_nil ?_
          intro _ hw'
          obtain ⟨⟨dq, osq⟩, hw''⟩ := hw'
          subst hw''
          have hC := hB1.trans ((below_regrown W1 dq osq).mono hB1.size)
          have hn3 := r3 dq osq
          have hlw : wr.heap.size < (grow (redrawn W1 dq) osq).heap.size := Nat.lt_of_lt_of_le hY.lt (below_regrown W1 dq osq).size
          clear r0 r1 r2 r3 r4 r5 r6 hY hB1 HV
          generalize grow (redrawn W1 dq) osq = wz at *
          go_wp2_with fail
          go_roundw
          case rel => exact ⟨k + 1, by omega, by go_num, by rw [HM.out], hC⟩
          case measure => simp [intOf]; omega
        · have hm := H1.out.1 ⟨by simpa using h1, by simpa using h2⟩
          have HM : Hid (heldTo s bin good (k + 1) = U + NN) := hm
          clear hm H1
          go_wp2_with fail
          rw [HV.out]
          refine wp_region_quiet_below (by kernel_rfl) (by kernel_rfl) ?_
          repeat (go_big_quiet_step (fail))
          refine wpQuiet_nil ?_
          intro _ hw'
          obtain ⟨⟨dq, osq⟩, hw''⟩ := hw'
          subst hw''
          have hC := hB1.trans ((below_regrown W1 dq osq).mono hB1.size)
          have hn3 := r3 dq osq
          have hlw : wr.heap.size < (grow (redrawn W1 dq) osq).heap.size := Nat.lt_of_lt_of_le hY.lt (below_regrown W1 dq osq).size
          clear r0 r1 r2 r3 r4 r5 r6 hY hB1 HV
          generalize grow (redrawn W1 dq) osq = wz at *
          go_wp2_with fail
          go_roundw
          case rel => exact ⟨k + 1, by omega, by go_num, by rw [HM.out], hC⟩
          case measure => simp [intOf]; omega
    · have hkn : k = s.hs.n := by omega
      subst hkn
      generalize hHH : heldTo s bin good s.hs.n = HH at *
      have HHH : Hid (heldTo s bin good s.hs.n = HH) := hHH
      clear hHH hsk
      go_wp2_with fail
      go_loopw [7, 10] (fun u i wk => ∃ k : Nat, k ≤ s.ms.n ∧ i = .int .i64 k ∧ u = .int .i64 (HH + fromTo s bin good k) ∧ Below W0.heap.size W0 wk) (fun _ i _ => s.ms.n - (intOf i).toNat)
      case atStart => exact ⟨0, Nat.zero_le _, rfl, by simp [fromTo], hB⟩
      case round =>
        clear hB c1 c2 c3 hlt0
        obtain ⟨k, hk, rfl, rfl, hB⟩ := hrel
        have m2 := MB.out k hk
        by_cases hlt2 : k < s.ms.n
        · obtain ⟨hsk, c1, c2, c3, hlt0⟩ := HC.out wr hB
          obtain ⟨b, q, hma, hb, z0, z1, z2, z3⟩ := hsk.ms.hds k hlt2
          have m3 := f.moveN k hlt2
          have H1 : Hid (((s.ms.z k).l = bin ∧ (s.ms.z k).o = good → fromTo s bin good (k + 1) = fromTo s bin good k + (s.ms.z k).n) ∧ (¬ ((s.ms.z k).l = bin ∧ (s.ms.z k).o = good) → fromTo s bin good (k + 1) = fromTo s bin good k)) := ⟨fun h => fromTo_hit h.1 h.2, fromTo_miss⟩
          have q4 : (0 : Int) ≤ (k : Int) := by omega
          have hBa := hB
          have HBa : Hid (Below W0.heap.size W0 wr) := hBa
          rw [hma] at c3
          clear hma c1 c2 hsk hBa
          generalize fromTo s bin good k = U at *
          generalize (s.ms.z k).l = BB at *
          generalize (s.ms.z k).n = NN at *
          generalize (s.ms.z k).o = GD at *
          cases h1 : (BB == (bin : Int))
          · have hm := H1.out.2 (by simp at h1; omega)
            have HM : Hid (fromTo s bin good (k + 1) = U) := hm
            clear hm H1
            go_wp2_with fail
            go_roundw
            case rel => exact ⟨k + 1, by omega, by go_num, by rw [HM.out], HBa.out⟩
            case measure => simp [intOf]; omega
          · cases h2 : (GD == (good : Int))
            · have hm := H1.out.2 (by simp at h2; omega)
              have HM : Hid (fromTo s bin good (k + 1) = U) := hm
              clear hm H1
              go_wp2_with fail
              go_roundw
              case rel => exact ⟨k + 1, by omega, by go_num, by rw [HM.out], HBa.out⟩
              case measure => simp [intOf]; omega
            · have hm := H1.out.1 ⟨by simpa using h1, by simpa using h2⟩
              have HM : Hid (fromTo s bin good (k + 1) = U + NN) := hm
              clear hm H1
              go_wp2_with fail
              go_roundw
              case rel => exact ⟨k + 1, by omega, by go_num, by rw [HM.out, Int.add_assoc], HBa.out⟩
              case measure => simp [intOf]; omega
        · have hkn : k = s.ms.n := by omega
          subst hkn
          obtain ⟨hsk, c1, c2, c3, hlt0⟩ := HC.out wr hB
          clear hsk c1 c2
          go_wp2_with fail
          go_ret
          exact ⟨by rw [← HHH.out]; rfl, hWB.trans (hB.mono hWB.size)⟩

end Go.Proofs.Ytjiodlbblmbibac

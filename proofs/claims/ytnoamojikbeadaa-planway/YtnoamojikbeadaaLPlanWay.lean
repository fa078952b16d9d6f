/- PlanWay: the walk. -/
import Derived.Test.YtnoamojikbeadaaPW5
import Derived.Lib.QuietBelow
namespace Go.Proofs.Ytnoamojikbeadaa
open Go.RowKit Go.Shelf Go.Sort
set_option linter.unusedVariables false

set_option maxRecDepth 100000 in
set_option maxHeartbeats 10000000 in
theorem PlanWay_walk (p : Pl) (w : World) (hp : p.At w) :
    Calls Try.prog 4 #[p.val] w fun e w' => e = .returned (.bool true) ∧ Below w.heap.size w w' := by
  have hB0 : Below w.heap.size w (w.alloc (.cells #[.slice p.ab p.nb p.cb, .slice p.sa p.ns p.cs] 25)) := (Below.refl w.heap.size w).alloc (Nat.le_refl _) _
  have leb := hp.leb
  have capb := hp.capb
  unfold maxLen at capb
  simp only [Pl.val]
  go_enter Try.func4, Try.ntmps4
  go_wp2_with fail
  refine (Way_any p _ (hp.below hB0)).mono ?_
  rintro e w1 ⟨r, rfl, rat, rn, rz, hB⟩
  have hBw := hB0.trans (hB.mono (by simp))
  have hsz : w.heap.size < w1.heap.size := by have := hB.size; simp at this; omega
  have c0 : w1.cell? ⟨w.heap.size, 0, none⟩ = some (.slice p.ab p.nb p.cb) := (hB.cell (p := ⟨w.heap.size, 0, none⟩) (by simp)).trans (by simp)
  clear hB
  by_cases h0 : planE p = 0
  · rw [wayR_yes h0] at rn rz
    have hlen := way_len p
    obtain ⟨ra, n, rc, rzz⟩ := r
    dsimp only at rn rz
    have hnn : n = p.nb := by omega
    have LK : Hid (∀ k, k < p.nb → ∃ m : Nat, m < p.nb ∧ rzz k = (m : Int)) := fun k hk => by
      have := way_in (p := p) (i := k) (by omega)
      rw [← rz k (by omega)] at this
      obtain ⟨m, hm⟩ := Int.eq_ofNat_of_zero_le this.1
      exact ⟨m, by omega, hm⟩
    have PW : Hid (∀ i k, i < k → k < p.nb → ¬ rzz i = rzz k ∧ (wayB p (rzz k) = true → wayB p (rzz i) = true) ∧ (wayB p (rzz i) = wayB p (rzz k) → rzz i < rzz k)) := fun i k hik hk => by
      have := way_at (p := p) hik (by omega)
      rwa [← rz i (by omega), ← rz k (by omega)] at this
    have hle := rat.le
    have hcap := rat.cap
    have hints := rat.ints
    clear rn rz hlen rat
    dsimp only at hle hcap hints
    unfold maxLen at hcap
    subst hnn
    have HE : Hid (planE p = 0) := h0
    have HBn : Hid (∀ wk, Below w1.heap.size w1 wk → BinsAt wk p.ab p.nb p.zb ∧ IntsAt wk ra p.nb rzz ∧ wk.cell? ⟨w.heap.size, 0, none⟩ = some (.slice p.ab p.nb p.cb) ∧ w.heap.size < wk.heap.size) := fun wk h => ⟨(hp.bins.below hBw).below h, hints.below h, (h.cell (p := ⟨w.heap.size, 0, none⟩) hsz).trans c0, Nat.lt_of_lt_of_le hsz h.size⟩
    clear h0 c0 hints
    rw [HE.out]
    simp only [Rw.val]
    obtain ⟨bi0, ii0, c0, hs0⟩ := HBn.out w1 (Below.refl _ _)
    clear bi0 ii0
    go_wp2_with fail
    go_loopw [5] (fun i wk => ∃ k : Nat, k ≤ p.nb ∧ i = .int .i64 k ∧ Below w1.heap.size w1 wk) (fun i _ => p.nb - (intOf i).toNat)
    case atStart => exact ⟨0, Nat.zero_le _, rfl, Below.refl _ _⟩
    case round =>
      clear c0 hs0
      obtain ⟨k, hk, rfl, hB⟩ := hrel
      obtain ⟨bins, ints, c0, hs0⟩ := HBn.out wr hB
      by_cases hlt : k < p.nb
      · obtain ⟨b, o, rfl, hb, y0⟩ := ints k hlt
        obtain ⟨m, hm, hmk⟩ := LK.out k hlt
        rw [hmk] at y0
        have m0 : (0 : Int) ≤ (k : Int) := by omega
        have m1 : (0 : Int) ≤ (m : Int) := by omega
        have HM : Hid (rzz k = (m : Int)) := hmk
        clear hmk bins
        go_wp2_with fail
        go_quiet (fail)
        go_wp2_with fail
        have hB1 := below_drewN hB nq
        clear hB c0 hs0 y0 hb ints
        have d1 : decide (p.nb ≤ m) = false := by simpa using hm
        have d2 : decide ((m : Int) < 0) = false := by simp
        simp only [d1, d2, Bool.or_self]
        clear d1 d2
        go_loopw [6] (fun i wk => ∃ i' : Nat, i' ≤ k ∧ i = .int .i64 i' ∧ Below w1.heap.size w1 wk) (fun i _ => k - (intOf i).toNat)
        case atStart => exact ⟨0, Nat.zero_le _, rfl, hB1⟩
        case round =>
          clear hB1
          obtain ⟨i, hi, rfl, hB⟩ := hrel
          by_cases hlt2 : i < k
          · obtain ⟨bins, ints, c0, hs0⟩ := HBn.out wr hB
            obtain ⟨b', o', hbo, hb, y0⟩ := ints k hlt
            simp only [Option.some.injEq, Addr.mk.injEq, and_true] at hbo
            obtain ⟨rfl, rfl⟩ := hbo
            obtain ⟨b', o', hbo, hb', y1⟩ := ints i (by omega)
            simp only [Option.some.injEq, Addr.mk.injEq, and_true] at hbo
            obtain ⟨rfl, rfl⟩ := hbo
            obtain ⟨q, hq, hqi⟩ := LK.out i (by omega)
            have hpw := PW.out i k hlt2 hlt
            rw [HM.out, hqi] at hpw
            rw [HM.out] at y0
            rw [hqi] at y1
            obtain ⟨B, O, hab, hB', x0, -⟩ := bins m hm
            obtain ⟨B2, O2, hab2, hB2', x1, -⟩ := bins q hq
            rw [hab] at hab2
            simp only [Option.some.injEq, Addr.mk.injEq, and_true] at hab2
            obtain ⟨rfl, rfl⟩ := hab2
            rw [hab] at c0
            have hne : ¬ (q : Int) = (m : Int) := hpw.1
            have hw2 : (p.zb m).front = true → (p.zb q).front = true := by simpa [wayB] using hpw.2.1
            have hw3 : (p.zb q).front = (p.zb m).front → (q : Int) < (m : Int) := by simpa [wayB] using hpw.2.2
            have n0 : (0 : Int) ≤ (i : Int) := by omega
            have n1 : (0 : Int) ≤ (q : Int) := by omega
            have hne2 : ¬ q = m := by omega
            have HQ : Hid ((p.zb q).front = (p.zb m).front → (q : Int) < (m : Int)) := hw3
            have HR : Hid ((p.zb m).front = true → (p.zb q).front = true) := hw2
            clear hpw hw2 hw3 hab ints bins hqi
            generalize hfm : (p.zb m).front = fm at *
            generalize hfq : (p.zb q).front = fq at *
            clear hfm hfq
            have hik : i < p.nb := by omega
            have hqm : ((q : Int) == (m : Int)) = false := beq_eq_false_iff_ne.2 hne
            cases fm
            · cases fq
              · have hlt3 : (q : Int) < m := HQ.out rfl
                have hng : ¬ (m : Int) < (q : Int) := by omega
                have hng2 : ¬ m < q := by omega
                clear HQ HR
                go_wp2_with fail
                go_quiet (fail)
                have e0 : (wr.drewN nq).cell? ⟨b, o + k, none⟩ = some (.int .i64 m) := by simpa using y0
                have e1 : (wr.drewN nq).cell? ⟨b, o + i, none⟩ = some (.int .i64 q) := by simpa using y1
                have hBd := below_drewN hB nq
                have hbd : b < (wr.drewN nq).heap.size := by simpa using hb
                generalize wr.drewN nq = wv at *
                clear y0 y1 hB hb hb' c0 x0 x1
                go_wp2_with fail
                have E0 : ∀ d os, (grow (redrawn wv d) os).cell? ⟨b, o + k, none⟩ = some (.int .i64 m) := fun d os => cell_regrown e0 d os
                have E1 : ∀ d os, (grow (redrawn wv d) os).cell? ⟨b, o + i, none⟩ = some (.int .i64 q) := fun d os => cell_regrown e1 d os
                refine wp_region_quiet_below (by kernel_rfl) (by kernel_rfl) ?_
                repeat (go_big_quiet_step (fail))
                refine wpQuiet_nil ?_
                intro _ hw'
                obtain ⟨⟨dq, osq⟩, hw''⟩ := hw'
                subst hw''
                clear E0 E1
                go_wp2_with fail
                go_roundw
                case rel => exact ⟨i + 1, by omega, by go_num, hBd.trans ((below_regrown _ _ _).mono hBd.size)⟩
                case measure => simp [intOf]; omega
              · clear HQ HR
                go_wp2_with fail
                go_quiet (fail)
                have e0 : (wr.drewN nq).cell? ⟨b, o + k, none⟩ = some (.int .i64 m) := by simpa using y0
                have e1 : (wr.drewN nq).cell? ⟨b, o + i, none⟩ = some (.int .i64 q) := by simpa using y1
                have hBd := below_drewN hB nq
                have hbd : b < (wr.drewN nq).heap.size := by simpa using hb
                generalize wr.drewN nq = wv at *
                clear y0 y1 hB hb hb' c0 x0 x1
                go_wp2_with fail
                have E0 : ∀ d os, (grow (redrawn wv d) os).cell? ⟨b, o + k, none⟩ = some (.int .i64 m) := fun d os => cell_regrown e0 d os
                have E1 : ∀ d os, (grow (redrawn wv d) os).cell? ⟨b, o + i, none⟩ = some (.int .i64 q) := fun d os => cell_regrown e1 d os
                refine wp_region_quiet_below (by kernel_rfl) (by kernel_rfl) ?_
                repeat (go_big_quiet_step (fail))
                refine wpQuiet_nil ?_
                intro _ hw'
                obtain ⟨⟨dq, osq⟩, hw''⟩ := hw'
                subst hw''
                clear E0 E1
                go_wp2_with fail
                go_roundw
                case rel => exact ⟨i + 1, by omega, by go_num, hBd.trans ((below_regrown _ _ _).mono hBd.size)⟩
                case measure => simp [intOf]; omega
            · cases fq
              · exact absurd (HR.out rfl) (by decide)
              · have hlt3 : (q : Int) < m := HQ.out rfl
                have hng : ¬ (m : Int) < (q : Int) := by omega
                have hng2 : ¬ m < q := by omega
                clear HQ HR
                go_wp2_with fail
                go_quiet (fail)
                have e0 : (wr.drewN nq).cell? ⟨b, o + k, none⟩ = some (.int .i64 m) := by simpa using y0
                have e1 : (wr.drewN nq).cell? ⟨b, o + i, none⟩ = some (.int .i64 q) := by simpa using y1
                have hBd := below_drewN hB nq
                have hbd : b < (wr.drewN nq).heap.size := by simpa using hb
                generalize wr.drewN nq = wv at *
                clear y0 y1 hB hb hb' c0 x0 x1
                go_wp2_with fail
                have E0 : ∀ d os, (grow (redrawn wv d) os).cell? ⟨b, o + k, none⟩ = some (.int .i64 m) := fun d os => cell_regrown e0 d os
                have E1 : ∀ d os, (grow (redrawn wv d) os).cell? ⟨b, o + i, none⟩ = some (.int .i64 q) := fun d os => cell_regrown e1 d os
                refine wp_region_quiet_below (by kernel_rfl) (by kernel_rfl) ?_
                repeat (go_big_quiet_step (fail))
                refine wpQuiet_nil ?_
                intro _ hw'
                obtain ⟨⟨dq, osq⟩, hw''⟩ := hw'
                subst hw''
                clear E0 E1
                go_wp2_with fail
                go_roundw
                case rel => exact ⟨i + 1, by omega, by go_num, hBd.trans ((below_regrown _ _ _).mono hBd.size)⟩
                case measure => simp [intOf]; omega
          · go_wp2_with fail
            go_roundw
            case rel => exact ⟨k + 1, by omega, by go_num, hB⟩
            case measure => simp [intOf]; omega
      · go_wp2_with fail
        refine (planBegun_any _).mono ?_
        rintro e w2 ⟨rfl, hB2⟩
        go_wp2_with fail
        go_ret
        exact ⟨rfl, hBw.trans ((hB.trans (hB2.mono hB.size)).mono hBw.size)⟩
  · have rn0 : r.n = 0 := by rw [wayR_no h0] at rn; exact rn
    simp only [Rw.val]
    go_wp2_with fail
    refine (planBegun_any _).mono ?_
    rintro e w2 ⟨rfl, hB⟩
    go_wp2_with fail
    go_ret
    exact ⟨rfl, hBw.trans (hB.mono hBw.size)⟩

end Go.Proofs.Ytnoamojikbeadaa

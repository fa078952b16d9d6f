/- AddOf. -/
import Derived.Test.YtmgmhhjnepjipabHW12
import Derived.Test.YtmgmhhjnepjipabH5
import Derived.Lib.QuietBelow
namespace Go.Proofs.Ytmgmhhjnepjipab
open Go.RowKit Go.Shelf Go.Sort
set_option linter.unusedVariables false

/-- What 'with' comes to when something is added. -/
theorem with_add (s : Hs) (h : Hd) (w : World) (hs : s.At w) (hr : anyB s.n (badH s.z) = false) (hf : fineH h = true) :
    Calls Try.prog 20 #[s.val, .int .i64 h.o, .int .i64 h.l, .int .i64 h.b, .int .i64 (keptV s.n s.z h.o h.l h.b + h.n)] w fun e w' => ∃ s' : Hs, e = .returned s'.val ∧ s'.At w' ∧ s'.n = addLen s.n s.z h ∧ s'.z = addZ s.n s.z h ∧ Below w.heap.size w w' := by
  obtain ⟨p1, p2, p3⟩ := pos_key hr hf
  have hfh := fineH_true hf
  by_cases h0 : keptV s.n s.z h.o h.l h.b = 0
  · have no := kept_no hr h0
    have hst : ∀ j, addPos s.n s.z h ≤ j → j < s.n → keyH h < keyH (s.z j) := fun j hj hjn => by
      have a := p3 j hj hjn
      have b : ¬ keyH (s.z j) = keyH h := fun e => by
        have := key_match (right_fine hr j hjn) hf e
        rw [no j hjn] at this
        cases this
      omega
    rw [h0, Int.zero_add]
    have e1 : addLen s.n s.z h = s.n + 1 := if_pos h0
    have e2 : addZ s.n s.z h = insZ s.z (addPos s.n s.z h) h := if_pos h0
    rw [e1, e2]
    exact with_ins s h (addPos s.n s.z h) w hs hr (rng_of hf) p1 (fun hlt => hst _ (Nat.le_refl _) hlt) (by omega) p2 (fun j hj hjn => hst j (by omega) hjn)
  · obtain ⟨q1, q2, q3, q4, q5⟩ := kept_pos hr h0
    have hkey : keyH (s.z (dropI s.n s.z h.o h.l h.b)) = keyH h := match_key (n := h.n) q2
    have hp : dropI s.n s.z h.o h.l h.b = addPos s.n s.z h := by
      rcases Nat.lt_trichotomy (dropI s.n s.z h.o h.l h.b) (addPos s.n s.z h) with c | c | c
      · have := p2 _ c; omega
      · exact c
      · have := q4 _ c
        have := p3 _ (Nat.le_refl _) (by omega)
        omega
    rw [hp] at q1 q2 q3 q4 q5 hkey
    have hz := fineH_true (right_fine hr _ q1)
    have e1 : addLen s.n s.z h = s.n := if_neg h0
    have e2 : addZ s.n s.z h = setZ s.z (addPos s.n s.z h) ⟨h.o, h.l, h.b, keptV s.n s.z h.o h.l h.b + h.n⟩ := if_neg h0
    rw [e1, e2]
    exact with_set s ⟨h.o, h.l, h.b, keptV s.n s.z h.o h.l h.b + h.n⟩ (addPos s.n s.z h) w hs hr ⟨hfh.1, hfh.2.1, hfh.2.2.1⟩ q1 hkey (by show ¬ keptV s.n s.z h.o h.l h.b + h.n = 0; omega) (fun j hj => by have := q4 j hj; rw [hkey] at this; exact this) (fun j hj hjn => by have := q5 j hj hjn; rw [hkey] at this; exact this)

theorem keptAt_b (s : Hs) (o l b : Int) (w : World) (hs : s.At w) :
    Calls Try.prog 19 #[s.val, .int .i64 o, .int .i64 l, .int .i64 b] w fun e w' => e = .returned (.int .i64 (keptV s.n s.z o l b)) ∧ Below w.heap.size w w' :=
  (keptAt_any s o l b w hs).mono fun e w' h => ⟨h.1, by rw [h.2]; exact Below.refl _ _⟩

set_option maxHeartbeats 1000000 in
theorem AddOf_any (s : Hs) (h : Hd) (w : World) (hs : s.At w) :
    Calls Try.prog 7 #[s.val, h.val] w fun e w' => ∃ s' : Hs, e = .returned (.tuple #[s'.val, .int .i64 (addE s.n s.z h)]) ∧ s'.At w' ∧ AddOK s.n s.z h s' ∧ Below w.heap.size w w' := by
  have HA : Hid (∀ w', Hs.At w' ⟨none, 0, 0, s.z⟩) := fun w' => ⟨Nat.le_refl _, Nat.zero_le _, fun i hi => absurd hi (Nat.not_lt_zero _), fun _ => rfl⟩
  have HV : Hid (∀ x : Hs, x.val = .slice x.a x.n x.c) := fun _ => rfl
  have bd : anyB s.n (badH s.z) = false → ∀ o l b, 0 ≤ keptV s.n s.z o l b ∧ keptV s.n s.z o l b ≤ 200 := fun hr o l b => keptV_bd (fun j hj => (fineH_true (right_fine hr j hj)).2.2.2) o l b
  have HB : Hid (anyB s.n (badH s.z) = false → ∀ o l b, 0 ≤ keptV s.n s.z o l b ∧ keptV s.n s.z o l b ≤ 200) := bd
  clear bd
  have hB0 : Below w.heap.size w (w.alloc (.cells #[.int .i64 h.o, .int .i64 h.l, .int .i64 h.b, .int .i64 h.n] 24)) := (Below.refl w.heap.size w).alloc (Nat.le_refl _) _
  have hCell : Hid (∀ w1, Below (w.heap.size + 1) (w.alloc (.cells #[.int .i64 h.o, .int .i64 h.l, .int .i64 h.b, .int .i64 h.n] 24)) w1 → w1.cell? ⟨w.heap.size, 0, none⟩ = some (.int .i64 h.o) ∧ w1.cell? ⟨w.heap.size, 1, none⟩ = some (.int .i64 h.l) ∧ w1.cell? ⟨w.heap.size, 2, none⟩ = some (.int .i64 h.b) ∧ w1.cell? ⟨w.heap.size, 3, none⟩ = some (.int .i64 h.n) ∧ w.heap.size < w1.heap.size) := fun w1 h => ⟨(h.cell (p := ⟨w.heap.size, 0, none⟩) (by simp)).trans (by simp), (h.cell (p := ⟨w.heap.size, 1, none⟩) (by simp)).trans (by simp), (h.cell (p := ⟨w.heap.size, 2, none⟩) (by simp)).trans (by simp), (h.cell (p := ⟨w.heap.size, 3, none⟩) (by simp)).trans (by simp), by have := h.size; simp at this; omega⟩
  rw [HV.out s]
  simp only [Hd.val]
  go_enter Try.func7, Try.ntmps7
  go_wp2_with fail
  refine (CheckHolds_any s _ (hs.below hB0)).mono ?_
  rintro e w1 ⟨rfl, hB1⟩
  have hBw := hB0.trans (hB1.mono (by simp))
  have hBv : Below (w.heap.size + 1) _ w1 := hB1.mono (by simp)
  obtain ⟨c0, c1, c2, c3, hsz⟩ := hCell.out w1 hBv
  by_cases h0 : checkH s.n s.z = 0
  · have HR0 : Hid (anyB s.n (badH s.z) = false) := checkH_zero h0
    go_wp2_with fail
    refine (holdFine_any h w1).mono ?_
    rintro e w2 ⟨rfl, hB2⟩
    have hBw := hBw.trans (hB2.mono hBw.size)
    have hBv := hBv.trans (hB2.mono (by omega))
    obtain ⟨c0, c1, c2, c3, hsz⟩ := hCell.out w2 hBv
    cases hf : fineH h
    · have hE : Hid (addE s.n s.z h = 1) := by show _ = _; simp [addE, h0, hf]
      go_wp2_with fail
      go_ret2
      exact ⟨⟨none, 0, 0, s.z⟩, by rw [hE.out]; rfl, HA.out _, ⟨by rw [hE.out]; rfl, fun j hj => absurd hj (Nat.not_lt_zero _)⟩, hBw⟩
    · have hfh := fineH_true hf
      go_wp2_with fail
      have hsz2 := hs.below hBw
      have r0 : ∀ d os, (grow (redrawn w2 d) os).cell? ⟨w.heap.size, 0, none⟩ = some (.int .i64 h.o) := fun d os => cell_regrown c0 d os
      have r1 : ∀ d os, (grow (redrawn w2 d) os).cell? ⟨w.heap.size, 1, none⟩ = some (.int .i64 h.l) := fun d os => cell_regrown c1 d os
      have r2 : ∀ d os, (grow (redrawn w2 d) os).cell? ⟨w.heap.size, 2, none⟩ = some (.int .i64 h.b) := fun d os => cell_regrown c2 d os
      have r3 : ∀ d os, (grow (redrawn w2 d) os).cell? ⟨w.heap.size, 3, none⟩ = some (.int .i64 h.n) := fun d os => cell_regrown c3 d os
      have hbd := HB.out HR0.out h.o h.l h.b
      refine wp_region_quiet_below (by kernel_rfl) (by kernel_rfl) ?_
      repeat (go_big_quiet_step ((go_at_call 19; exact Calls.regrown_of (keptAt_b s h.o h.l h.b _ (hsz2.below (below_regrown _ _ _))))))
      refine wpQuiet_nil ?_
      intro _ hw'
      obtain ⟨⟨dq, osq⟩, hw''⟩ := hw'
      subst hw''
      have hB3 : Below w2.heap.size w2 (grow (redrawn w2 dq) osq) := below_regrown _ _ _
      have hBw := hBw.trans (hB3.mono hBw.size)
      have hBv := hBv.trans (hB3.mono (by omega))
      generalize grow (redrawn w2 dq) osq = w3 at hB3 hBw hBv ⊢
      obtain ⟨c0, c1, c2, c3, hsz⟩ := hCell.out w3 hBv
      clear r0 r1 r2 r3 hsz2
      by_cases h2 : 200 < keptV s.n s.z h.o h.l h.b + h.n
      · have hE : Hid (addE s.n s.z h = 3) := by show _ = _; simp [addE, h0, hf, h2]
        go_wp2_with fail
        go_ret2
        exact ⟨⟨none, 0, 0, s.z⟩, by rw [hE.out]; rfl, HA.out _, ⟨by rw [hE.out]; rfl, fun j hj => absurd hj (Nat.not_lt_zero _)⟩, hBw⟩
      · have hE : Hid (addE s.n s.z h = 0) := by show _ = _; simp [addE, h0, hf, h2]
        have HF : Hid (fineH h = true) := hf
        go_wp2_with fail
        refine (with_add s h w3 (hs.below hBw) HR0.out HF.out).mono ?_
        rintro e w4 ⟨s', rfl, e2, e3, e4, hB4⟩
        have HRR : Hid (s'.At w4 ∧ s'.n = addLen s.n s.z h ∧ s'.z = addZ s.n s.z h) := ⟨e2, e3, e4⟩
        clear e2 e3 e4
        rw [HV.out s']
        go_wp2_with fail
        go_ret2
        exact ⟨s', by rw [hE.out]; rfl, HRR.out.1, ⟨by rw [hE.out]; exact HRR.out.2.1, fun j hj => by rw [HRR.out.2.2]⟩, hBw.trans (hB4.mono hBw.size)⟩
  · have hE : Hid (addE s.n s.z h = checkH s.n s.z) := by show _ = _; simp [addE, h0]
    go_wp2_with fail
    go_ret2
    exact ⟨⟨none, 0, 0, s.z⟩, by rw [hE.out]; rfl, HA.out _, ⟨by rw [hE.out, if_neg h0], fun j hj => absurd hj (Nat.not_lt_zero _)⟩, hBw⟩

end Go.Proofs.Ytmgmhhjnepjipab

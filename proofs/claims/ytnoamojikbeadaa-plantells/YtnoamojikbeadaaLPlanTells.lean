/- PlanTells: the walk. -/
import Derived.Test.YtnoamojikbeadaaPW5
namespace Go.Proofs.Ytnoamojikbeadaa
open Go.RowKit Go.Shelf
set_option linter.unusedVariables false

set_option maxRecDepth 100000 in
set_option maxHeartbeats 1000000 in
theorem PlanTells_walk (p : Pl) (w : World) (hp : p.At w) :
    Calls Try.prog 3 #[p.val] w fun e w' => e = .returned (.bool true) ∧ Below w.heap.size w w' := by
  have hB0 : Below w.heap.size w (w.alloc (.cells #[.slice p.ab p.nb p.cb, .slice p.sa p.ns p.cs] 25)) := (Below.refl w.heap.size w).alloc (Nat.le_refl _) _
  have hBv : Below (w.heap.size + 1) (w.alloc (.cells #[.slice p.ab p.nb p.cb, .slice p.sa p.ns p.cs] 25)) (w.alloc (.cells #[.slice p.ab p.nb p.cb, .slice p.sa p.ns p.cs] 25)) := Below.refl _ _
  have hCell : Hid (∀ w1, Below (w.heap.size + 1) (w.alloc (.cells #[.slice p.ab p.nb p.cb, .slice p.sa p.ns p.cs] 25)) w1 → w1.cell? ⟨w.heap.size, 0, none⟩ = some (.slice p.ab p.nb p.cb) ∧ w1.cell? ⟨w.heap.size, 1, none⟩ = some (.slice p.sa p.ns p.cs) ∧ w.heap.size < w1.heap.size) := fun w1 h => ⟨(h.cell (p := ⟨w.heap.size, 0, none⟩) (by simp)).trans (by simp), (h.cell (p := ⟨w.heap.size, 1, none⟩) (by simp)).trans (by simp), by have := h.size; simp at this; omega⟩
  simp only [Pl.val]
  go_enter Try.func3, Try.ntmps3
  go_wp2_with fail
  refine (Way_any p _ (hp.below hB0)).mono ?_
  rintro e w1 ⟨r, rfl, rat, rn, rz, hB⟩
  have hBw := hB0.trans (hB.mono (by simp))
  have hBv := hBv.trans (hB.mono (by simp))
  obtain ⟨c0, c1, hsz⟩ := hCell.out w1 hBv
  clear hB
  simp only [Rw.val]
  have RN : Hid (r.n = (wayR p).length ∧ (∀ j, j < r.n → r.z j = (wayR p).getD j 0)) := ⟨rn, rz⟩
  clear rn rz
  go_wp2_with fail
  refine (refCheckPlan_any p _ (hp.below hBw)).mono ?_
  rintro e w2 ⟨rfl, hB⟩
  have rat := rat.below hB
  have hBw := hBw.trans (hB.mono hBw.size)
  have hBv := hBv.trans (hB.mono (by omega))
  obtain ⟨c0, c1, hsz⟩ := hCell.out w2 hBv
  clear hB
  by_cases h0 : planE p = 0
  · have hnb := (rightP h0).nb6
    go_wp2_with fail
    refine (WayOf_any p _ (hp.below hBw) hnb).mono ?_
    rintro e w3 ⟨s, rfl, sat, sn, sz, hB⟩
    have rat := rat.below hB
    have hBw := hBw.trans (hB.mono hBw.size)
    have hBv := hBv.trans (hB.mono (by omega))
    obtain ⟨c0, c1, hsz⟩ := hCell.out w3 hBv
    clear hB
    have SN : Hid (r.n = s.n ∧ ∀ j, j < r.n → r.z j = s.z j) := by
      have := RN.out
      rw [wayR_yes h0, ← sn] at this
      exact ⟨this.1, fun j hj => by rw [this.2 j hj, sz j (by omega)]⟩
    clear sn sz RN
    simp only [Rw.val]
    go_wp2_with fail
    refine (planBegun_any _).mono ?_
    rintro e w4 ⟨rfl, hB⟩
    have rat := rat.below hB
    have sat := sat.below hB
    have hBw := hBw.trans (hB.mono hBw.size)
    have hBv := hBv.trans (hB.mono (by omega))
    obtain ⟨c0, c1, hsz⟩ := hCell.out w4 hBv
    clear hB
    go_wp2_with fail
    refine (planCheck_any p _ (hp.below hBw)).mono ?_
    rintro e w5 ⟨rfl, hB⟩
    have rat := rat.below hB
    have sat := sat.below hB
    have hBw := hBw.trans (hB.mono hBw.size)
    clear hB
    go_wp2_with fail
    refine (SameInts_yes r s _ rat sat SN.out.1 SN.out.2).mono ?_
    rintro e w6 ⟨rfl, hB⟩
    have hBw := hBw.trans (hB.mono hBw.size)
    go_wp2_with fail
    go_ret
    exact ⟨rfl, hBw⟩
  · go_wp2_with fail
    refine (planBegun_any _).mono ?_
    rintro e w4 ⟨rfl, hB⟩
    have rat := rat.below hB
    have hBw := hBw.trans (hB.mono hBw.size)
    have hBv := hBv.trans (hB.mono (by omega))
    obtain ⟨c0, c1, hsz⟩ := hCell.out w4 hBv
    clear hB
    have SN : Hid (r.n = 0) := by
      have := RN.out
      rw [wayR_no h0] at this
      exact this.1
    go_wp2_with fail
    refine (planCheck_any p _ (hp.below hBw)).mono ?_
    rintro e w5 ⟨rfl, hB⟩
    have rat := rat.below hB
    have hBw := hBw.trans (hB.mono hBw.size)
    clear hB
    go_wp2_with fail
    refine (SameInts_yes r ⟨none, 0, 0, fun _ => 0⟩ _ rat ⟨Nat.le_refl _, Nat.zero_le _, fun i hi => absurd hi (Nat.not_lt_zero _)⟩ SN.out (fun j hj => absurd hj (by rw [SN.out]; exact Nat.not_lt_zero _))).mono ?_
    rintro e w6 ⟨rfl, hB⟩
    have hBw := hBw.trans (hB.mono hBw.size)
    go_wp2_with fail
    go_ret
    exact ⟨rfl, hBw⟩

end Go.Proofs.Ytnoamojikbeadaa

/- ShelfTrue: the walk. -/
import Derived.Test.YtklikhcopfhgaaaLShelfPuts
import Derived.Test.YtklikhcopfhgaaaM2
namespace Go.Proofs.Ytklikhcopfhgaaa
open Go.RowKit Go.Shelf
set_option linter.unusedVariables false

theorem PutRes.ok {p : Pl} {s : Sh} {bin good n : Int} {w : World} {v : Value} (h : PutRes p s bin good n w v) (h0 : putE p s bin good n = 0) :
    ∃ s' : Sh, v = s'.val ∧ s'.At w ∧ s'.n = s.n ∧ ∀ i, i < s.n → (s'.r i).n = (s.r i).n ∧ ∀ j, j < (s.r i).n → (s'.r i).z j = putZ s bin good n i j := by
  unfold PutRes at h
  rwa [if_pos h0] at h

set_option maxHeartbeats 2000000 in
theorem ShelfTrue_walk (p : Pl) (s : Sh) (bin good n other : Int) (w : World) (hp : p.At w) (hs : s.At w) :
    Calls Try.prog 7 #[p.val, s.val, .int .i64 bin, .int .i64 good, .int .i64 n, .int .i64 other] w fun e w' => e = .returned (.bool true) ∧ Below w.heap.size w w' := by
  have hB0 : Below w.heap.size w (w.alloc (.cells #[.slice p.ab p.nb p.cb, .slice p.sa p.ns p.cs] 25)) := (Below.refl w.heap.size w).alloc (Nat.le_refl _) _
  have hBv : Below (w.heap.size + 1) (w.alloc (.cells #[.slice p.ab p.nb p.cb, .slice p.sa p.ns p.cs] 25)) (w.alloc (.cells #[.slice p.ab p.nb p.cb, .slice p.sa p.ns p.cs] 25)) := Below.refl _ _
  have hCell : Hid (∀ w1, Below (w.heap.size + 1) (w.alloc (.cells #[.slice p.ab p.nb p.cb, .slice p.sa p.ns p.cs] 25)) w1 → w1.cell? ⟨w.heap.size, 0, none⟩ = some (.slice p.ab p.nb p.cb) ∧ w1.cell? ⟨w.heap.size, 1, none⟩ = some (.slice p.sa p.ns p.cs) ∧ w.heap.size < w1.heap.size) := fun w1 h => ⟨(h.cell (p := ⟨w.heap.size, 0, none⟩) (by simp)).trans (by simp), (h.cell (p := ⟨w.heap.size, 1, none⟩) (by simp)).trans (by simp), by have := h.size; simp at this; omega⟩
  simp only [Pl.val, Sh.val]
  go_enter Try.func7, Try.ntmps7
  go_wp2_with fail
  refine (Put_any p s bin good n _ (hp.below hB0) (hs.below hB0)).mono ?_
  rintro e w1 ⟨v1, rfl, hr1, hB⟩
  have hBw := hB0.trans (hB.mono (by simp))
  have hBv := hBv.trans (hB.mono (by simp))
  obtain ⟨c0, c1, hsz⟩ := hCell.out w1 hBv
  clear hB
  by_cases hE : putE p s bin good n = 0
  · obtain ⟨x, rfl, xat, xn, xz⟩ := hr1.ok hE
    obtain ⟨h0, m, q, rfl, rfl, hm, hq, hn⟩ := putE_zero hE
    have PA : PutAt p s x m q n := ⟨xn, fun i hi => (xz i hi).1, fun i hi j hj => by rw [(xz i hi).2 j hj]; simp [putZ]⟩
    obtain ⟨f1, ⟨f2, f3, f4, f5, f6⟩, f7, f8, f9⟩ := put_facts h0 hm hq hn PA
    have f7a := (f7 other).1
    have f7b := (f7 other).2
    have hnum := (rightS h0).2.num m hm q hq
    have hn2 : -200 ≤ n ∧ n ≤ 200 := by omega
    have HF : Hid _ := And.intro f1 (And.intro f2 (And.intro f3 (And.intro f4 (And.intro f7a (And.intro f7b (And.intro f8 f9))))))
    have XL : Hid (∀ i, i < s.n → (x.r i).n = (s.r i).n) := fun i hi => (xz i hi).1
    clear hr1 xz PA f1 f2 f3 f4 f7 f7a f7b f8 f9 hn hnum h0
    go_wp2_with fail
    refine (Sum_any p s q _ (hp.below hBw) (hs.below hBw)).mono ?_
    rintro e w2 ⟨rfl, hB⟩
    have hBw := hBw.trans (hB.mono hBw.size)
    have hBv := hBv.trans (hB.mono (by omega))
    obtain ⟨c0, c1, hsz⟩ := hCell.out w2 hBv
    have xat := xat.below hB
    clear hB
    rw [HF.out.2.1]
    go_wp2_with fail
    refine (Sum_any p x q _ (hp.below hBw) xat).mono ?_
    rintro e w3 ⟨rfl, hB⟩
    have hBw := hBw.trans (hB.mono hBw.size)
    have hBv := hBv.trans (hB.mono (by omega))
    obtain ⟨c0, c1, hsz⟩ := hCell.out w3 hBv
    have xat := xat.below hB
    clear hB
    rw [HF.out.2.2.1, HF.out.2.2.2.1]
    go_wp2_with fail
    refine (Used_any p s other _ (hp.below hBw) (hs.below hBw)).mono ?_
    rintro e w4 ⟨rfl, hB⟩
    have hBw := hBw.trans (hB.mono hBw.size)
    have hBv := hBv.trans (hB.mono (by omega))
    obtain ⟨c0, c1, hsz⟩ := hCell.out w4 hBv
    have xat := xat.below hB
    clear hB
    go_wp2_with fail
    refine (Used_any p x other _ (hp.below hBw) xat).mono ?_
    rintro e w5 ⟨rfl, hB⟩
    have hBw := hBw.trans (hB.mono hBw.size)
    have hBv := hBv.trans (hB.mono (by omega))
    obtain ⟨c0, c1, hsz⟩ := hCell.out w5 hBv
    have xat := xat.below hB
    clear hB
    rw [HF.out.2.2.2.2.1]
    go_wp2_with fail
    refine (Put_any p x m q (-n) _ (hp.below hBw) xat).mono ?_
    rintro e w6 ⟨v6, rfl, hr6, hB⟩
    have hBw := hBw.trans (hB.mono hBw.size)
    have hBv := hBv.trans (hB.mono (by omega))
    obtain ⟨c0, c1, hsz⟩ := hCell.out w6 hBv
    have xat := xat.below hB
    clear hB
    obtain ⟨y, rfl, yat, yn, yz⟩ := hr6.ok HF.out.2.2.2.2.2.2.1
    rw [HF.out.2.2.2.2.2.2.1]
    have HY : Hid (y.n = s.n ∧ ∀ i, i < y.n → (y.r i).n = (s.r i).n ∧ ∀ j, j < (y.r i).n → (y.r i).z j = (s.r i).z j) := by
      refine ⟨yn.trans xn, fun i hi => ?_⟩
      have hi2 : i < s.n := by rw [yn, xn] at hi; exact hi
      have a := yz i (by rw [xn]; exact hi2)
      have b := XL.out i hi2
      refine ⟨a.1.trans b, fun j hj => ?_⟩
      rw [a.1] at hj
      rw [a.2 j hj]
      exact HF.out.2.2.2.2.2.2.2 i hi2 j (by rw [← b]; exact hj)
    clear hr6 yn yz
    go_wp2_with fail
    refine (shelfBegun_any _).mono ?_
    rintro e w7 ⟨rfl, hB⟩
    have hBw := hBw.trans (hB.mono hBw.size)
    have hBv := hBv.trans (hB.mono (by omega))
    obtain ⟨c0, c1, hsz⟩ := hCell.out w7 hBv
    have xat := xat.below hB
    have yat := yat.below hB
    clear hB
    go_wp2_with fail
    refine (shelfCheck_any p x _ (hp.below hBw) xat).mono ?_
    rintro e w8 ⟨rfl, hB⟩
    have hBw := hBw.trans (hB.mono hBw.size)
    have yat := yat.below hB
    clear hB
    rw [HF.out.1]
    by_cases hob : other = (m : Int)
    · subst hob
      go_wp2_with fail
      refine (SameRows_yes y s _ yat (hs.below hBw) HY.out.1 HY.out.2).mono ?_
      rintro e w9 ⟨rfl, hB⟩
      go_wp2_with fail
      go_ret
      exact ⟨rfl, hBw.trans (hB.mono hBw.size)⟩
    · rw [HF.out.2.2.2.2.2.1 hob]
      go_wp2_with fail
      refine (SameRows_yes y s _ yat (hs.below hBw) HY.out.1 HY.out.2).mono ?_
      rintro e w9 ⟨rfl, hB⟩
      go_wp2_with fail
      go_ret
      exact ⟨rfl, hBw.trans (hB.mono hBw.size)⟩
  · go_wp2_with fail
    refine (shelfBegun_any _).mono ?_
    rintro e w2 ⟨rfl, hB⟩
    go_wp2_with fail
    go_ret
    exact ⟨rfl, hBw.trans (hB.mono hBw.size)⟩

end Go.Proofs.Ytklikhcopfhgaaa

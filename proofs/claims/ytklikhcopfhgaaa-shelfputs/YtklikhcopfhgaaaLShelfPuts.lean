/- ShelfPuts: the walk. -/
import Derived.Test.YtklikhcopfhgaaaW11
namespace Go.Proofs.Ytklikhcopfhgaaa
open Go.RowKit Go.Shelf Go.Sort
set_option linter.unusedVariables false

theorem PutRes.sh {p : Pl} {s : Sh} {bin good n : Int} {w : World} {v : Value} (h : PutRes p s bin good n w v) :
    ∃ s' : Sh, v = s'.val ∧ s'.At w ∧ s'.n = (if putE p s bin good n = 0 then s.n else 0) ∧ ∀ i, i < s'.n → (s'.r i).n = (s.r i).n ∧ ∀ j, j < (s.r i).n → (s'.r i).z j = putZ s bin good n i j := by
  unfold PutRes at h
  by_cases h0 : putE p s bin good n = 0
  · rw [if_pos h0] at h
    obtain ⟨s', h1, h2, h3, h4⟩ := h
    exact ⟨s', h1, h2, by rw [if_pos h0]; exact h3, fun i hi => h4 i (by omega)⟩
  · rw [if_neg h0] at h
    exact ⟨⟨none, 0, 0, fun _ => ⟨none, 0, 0, fun _ => 0⟩⟩, h, ⟨Nat.le_refl _, Nat.zero_le _, fun i hi => absurd hi (Nat.not_lt_zero _)⟩, by rw [if_neg h0], fun i hi => absurd hi (Nat.not_lt_zero _)⟩

set_option maxHeartbeats 1000000 in
theorem ShelfPuts_walk (p : Pl) (s : Sh) (bin good n : Int) (w : World) (hp : p.At w) (hs : s.At w) :
    Calls Try.prog 6 #[p.val, s.val, .int .i64 bin, .int .i64 good, .int .i64 n] w fun e w' => e = .returned (.bool true) ∧ Below w.heap.size w w' := by
  have hB0 : Below w.heap.size w (w.alloc (.cells #[.slice p.ab p.nb p.cb, .slice p.sa p.ns p.cs] 25)) := (Below.refl w.heap.size w).alloc (Nat.le_refl _) _
  simp only [Pl.val, Sh.val]
  go_enter Try.func6, Try.ntmps6
  go_wp2_with fail
  refine (Put_any p s bin good n _ (hp.below hB0) (hs.below hB0)).mono ?_
  rintro e w1 ⟨v1, rfl, hr1, hB⟩
  have hBw := hB0.trans (hB.mono (by simp))
  have hsz : w.heap.size < w1.heap.size := by have := hB.size; simp at this; omega
  have c0 : w1.cell? ⟨w.heap.size, 0, none⟩ = some (.slice p.ab p.nb p.cb) := (hB.cell (p := ⟨w.heap.size, 0, none⟩) (by simp)).trans (by simp)
  have c1 : w1.cell? ⟨w.heap.size, 1, none⟩ = some (.slice p.sa p.ns p.cs) := (hB.cell (p := ⟨w.heap.size, 1, none⟩) (by simp)).trans (by simp)
  obtain ⟨x, rfl, xat, xn, xz⟩ := hr1.sh
  go_wp2_with fail
  refine (PutOf_any p s bin good n _ (hp.below hBw) (hs.below hBw)).mono ?_
  rintro e w2 ⟨v2, rfl, hr2, hB2⟩
  obtain ⟨y, rfl, yat, yn, yz⟩ := hr2.sh
  have xat2 := xat.below hB2
  have hn : x.n = y.n := by rw [xn, yn]
  have HZ : Hid (∀ i, i < x.n → (x.r i).n = (y.r i).n ∧ ∀ j, j < (x.r i).n → (x.r i).z j = (y.r i).z j) := fun i hi => by
    have a := xz i hi
    have b := yz i (by omega)
    exact ⟨a.1.trans b.1.symm, fun j hj => (a.2 j (by rw [← a.1]; exact hj)).trans (b.2 j (by rw [← a.1]; exact hj)).symm⟩
  have HN : Hid (x.n = y.n) := hn
  have hBz := hBw.trans (hB2.mono hBw.size)
  clear xn yn xz yz hn hr1 hr2 xat c0 c1
  generalize putE p s bin good n = E
  simp only [Sh.val]
  go_wp2_with fail
  refine (shelfBegun_any _).mono ?_
  rintro e w3 ⟨rfl, hB3⟩
  have hBz := hBz.trans (hB3.mono hBz.size)
  go_wp2_with fail
  refine (SameRows_yes x y _ (xat2.below hB3) (yat.below hB3) HN.out HZ.out).mono ?_
  rintro e w4 ⟨rfl, hB4⟩
  go_wp2_with fail
  go_ret
  exact ⟨rfl, hBz.trans (hB4.mono hBz.size)⟩

end Go.Proofs.Ytklikhcopfhgaaa

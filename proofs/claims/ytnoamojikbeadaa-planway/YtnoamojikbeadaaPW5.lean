/- planBegun. -/
import Derived.Test.YtnoamojikbeadaaPW4
namespace Go.Proofs.Ytnoamojikbeadaa
open Go.RowKit Go.Shelf
set_option linter.unusedVariables false

def yardZ9 : Nat → Bin
  | 0 => ⟨false, 100, 0, 0⟩
  | 1 => ⟨true, 30, 9, 8⟩
  | _ => ⟨false, 60, 0, 0⟩
def yardP9 (g1 g2 : Nat) : Pl := ⟨some ⟨g1, 0, none⟩, 3, 3, yardZ9, some ⟨g2, 0, none⟩, 2, 2, yardS⟩
theorem yardAt9 {w : World} {g1 g2 : Nat} (h1 : Blk w g1 35 12 (fun i => if i = 6 then .int .i64 9 else yardF i)) (h2 : Blk w g2 3 2 yardG) : (yardP9 g1 g2).At w := by
  refine ⟨by simp [yardP9], by simp [yardP9, maxLen], fun i hi => ?_, by simp [yardP9], by simp [yardP9, maxLen], fun i hi => ?_⟩
  · have hi' : i < 3 := hi
    refine ⟨g1, 0, rfl, h1.lt, ?_⟩
    match i, hi' with
    | 0, _ => exact ⟨h1.cell (j := 0) (by decide), h1.cell (j := 1) (by decide), h1.cell (j := 2) (by decide), h1.cell (j := 3) (by decide)⟩
    | 1, _ => exact ⟨h1.cell (j := 4) (by decide), h1.cell (j := 5) (by decide), h1.cell (j := 6) (by decide), h1.cell (j := 7) (by decide)⟩
    | 2, _ => exact ⟨h1.cell (j := 8) (by decide), h1.cell (j := 9) (by decide), h1.cell (j := 10) (by decide), h1.cell (j := 11) (by decide)⟩
  · have hi' : i < 2 := hi
    refine ⟨g2, 0, rfl, h2.lt, ?_⟩
    match i, hi' with
    | 0, _ => exact h2.cell (j := 0) (by decide)
    | 1, _ => exact h2.cell (j := 1) (by decide)
theorem begun_plan (g1 g2 : Nat) : planE (yardP g1 g2) = 0 ∧ planE (yardP9 g1 g2) = 3 ∧ wayR (yardP g1 g2) = [1, 0, 2] := ⟨by rfl, by rfl, by rfl⟩
theorem begunWay {w : World} {g1 g2 : Nat} (hp : (yardP g1 g2).At w) :
    Calls Try.prog 9 #[(yardP g1 g2).val] w fun e w' => ∃ r : Rw, e = .returned (.tuple #[r.val, .int .i64 0]) ∧ r.At w' ∧ r.n = 3 ∧ (∀ j, j < r.n → r.z j = [1, 0, 2].getD j 0) ∧ Below w.heap.size w w' := by
  have := Way_any _ w hp
  rwa [(begun_plan g1 g2).1, (begun_plan g1 g2).2.2] at this
theorem begunPlan {w : World} {g1 g2 : Nat} (hp : (yardP g1 g2).At w) : Calls Try.prog 13 #[(yardP g1 g2).val] w fun e w' => e = .returned (.int .i64 0) ∧ Below w.heap.size w w' := by
  have := planCheck_any _ w hp
  rwa [(begun_plan g1 g2).1] at this
theorem begunPlan9 {w : World} {g1 g2 : Nat} (hp : (yardP9 g1 g2).At w) : Calls Try.prog 13 #[(yardP9 g1 g2).val] w fun e w' => e = .returned (.int .i64 3) ∧ Below w.heap.size w w' := by
  have := planCheck_any _ w hp
  rwa [(begun_plan g1 g2).2.1] at this
theorem begunPlan0 {w : World} : Calls Try.prog 13 #[.agg #[.slice none 0 0, .slice none 0 0]] w fun e w' => e = .returned (.int .i64 2) ∧ Below w.heap.size w w' :=
  planCheck_any ⟨none, 0, 0, fun _ => ⟨false, 0, 0, 0⟩, none, 0, 0, fun _ => 0⟩ w ⟨Nat.le_refl _, Nat.zero_le _, fun i hi => absurd hi (Nat.not_lt_zero _), Nat.le_refl _, Nat.zero_le _, fun i hi => absurd hi (Nat.not_lt_zero _)⟩

set_option maxRecDepth 100000 in
set_option maxHeartbeats 1000000 in
theorem planBegun_any (w : World) :
    Calls Try.prog 12 #[] w fun e w' => e = .returned (.bool true) ∧ Below w.heap.size w w' := by
  go_enter Try.func12, Try.ntmps12
  go_wp2_with fail
  refine (yard_any _).mono ?_
  rintro e w1 ⟨g1, g2, rfl, -, -, k1, k2, hB1⟩
  go_wp2_with fail
  refine (begunWay (yardAt k1 k2)).mono ?_
  rintro e w2 ⟨r, rfl, rat, rn, rz, hB2⟩
  have hC2 := hB1.trans (hB2.mono hB1.size)
  clear k1 k2 hB1 hB2
  obtain ⟨ra, r3, rc, rz0⟩ := r
  dsimp only at rn rz
  subst rn
  simp only [Rw.val]
  go_wp2_with fail
  refine (yard_any _).mono ?_
  rintro e w3 ⟨h1, h2, rfl, hge, hne, k1, k2, hB1⟩
  have f6 := k1.frozen 6
  have c6 := k1.cell (j := 6) (by decide)
  have hlt1 := k1.lt
  have hlt2 := k2.lt
  simp only [yardP, Pl.val]
  go_wp2_with fail
  obtain ⟨w4, hw4, K1, K2, hX, p0, p1, hs4⟩ : ∃ w4, (w3.setCell ⟨h1, 6, none⟩ (.int .i64 9)).alloc (.cells #[.slice (some ⟨h1, 0, none⟩) 3 3, .slice (some ⟨h2, 0, none⟩) 2 2] 25) = w4 ∧ Blk w4 h1 35 12 (fun i => if i = 6 then .int .i64 9 else yardF i) ∧ Blk w4 h2 3 2 yardG ∧ Below w2.heap.size w2 w4 ∧ w4.cell? ⟨w3.heap.size, 0, none⟩ = some (.slice (some ⟨h1, 0, none⟩) 3 3) ∧ w4.cell? ⟨w3.heap.size, 1, none⟩ = some (.slice (some ⟨h2, 0, none⟩) 2 2) ∧ w3.heap.size < w4.heap.size := by
    refine ⟨_, rfl, (k1.set 6 _).alloc _, (k2.other (fun e => hne e.symm) _).alloc _, (hB1.setCell (p := ⟨h1, 6, none⟩) hge _).alloc (by simpa using hB1.size) _, ?_, ?_, by simp⟩
    · have := (Blk.new (w3.setCell ⟨h1, 6, none⟩ (.int .i64 9)) #[.slice (some ⟨h1, 0, none⟩) 3 3, .slice (some ⟨h2, 0, none⟩) 2 2] 25).cell (j := 0) (by simp)
      simpa using this
    · have := (Blk.new (w3.setCell ⟨h1, 6, none⟩ (.int .i64 9)) #[.slice (some ⟨h1, 0, none⟩) 3 3, .slice (some ⟨h2, 0, none⟩) 2 2] 25).cell (j := 1) (by simp)
      simpa using this
  rw [hw4]
  have hC4 := hC2.trans (hX.mono hC2.size)
  have rat4 := rat.below hX
  clear hw4 k1 k2 hB1 f6 c6 hlt1 hlt2 hX rat
  refine (yard_any _).mono ?_
  rintro e w5 ⟨g3, g4, rfl, -, -, k1, k2, hB5⟩
  go_wp2_with fail
  refine (begunPlan (yardAt k1 k2)).mono ?_
  rintro e w6 ⟨rfl, hB6⟩
  have hD := hB5.trans (hB6.mono hB5.size)
  have p0' := (hD.cell (p := ⟨w3.heap.size, 0, none⟩) hs4).trans p0
  have p1' := (hD.cell (p := ⟨w3.heap.size, 1, none⟩) hs4).trans p1
  clear p0 p1 k1 k2 hB5 hB6
  go_wp2_with fail
  refine (begunPlan9 (yardAt9 (K1.below hD) (K2.below hD))).mono ?_
  rintro e w7 ⟨rfl, hB7⟩
  have hD7 := hD.trans (hB7.mono hD.size)
  clear hD hB7 p0' p1' K1 K2
  go_wp2_with fail
  refine (begunPlan0).mono ?_
  rintro e w8 ⟨rfl, hB8⟩
  have hD8 := hD7.trans (hB8.mono hD7.size)
  clear hD7 hB8
  go_wp2_with fail
  have hb := Blk.new w8 #[.int .i64 1, .int .i64 0, .int .i64 2] 3
  have hBn : Below w8.heap.size w8 (w8.alloc (.cells #[.int .i64 1, .int .i64 0, .int .i64 2] 3)) := (Below.refl _ _).alloc (Nat.le_refl _) _
  have hs : Rw.At (w8.alloc (.cells #[.int .i64 1, .int .i64 0, .int .i64 2] 3)) ⟨some ⟨w8.heap.size, 0, none⟩, 3, 3, fun j => [1, 0, 2].getD j 0⟩ := by
    refine ⟨Nat.le_refl _, by show 3 ≤ maxLen; unfold maxLen; omega, fun i hi => ?_⟩
    have hi' : i < 3 := hi
    refine ⟨w8.heap.size, 0, rfl, hb.lt, ?_⟩
    match i, hi' with
    | 0, _ => exact hb.cell (j := 0) (by decide)
    | 1, _ => exact hb.cell (j := 1) (by decide)
    | 2, _ => exact hb.cell (j := 2) (by decide)
  refine (SameInts_yes ⟨ra, 3, rc, rz0⟩ ⟨some ⟨w8.heap.size, 0, none⟩, 3, 3, fun j => [1, 0, 2].getD j 0⟩ _ ((rat4.below hD8).below hBn) hs rfl rz).mono ?_
  rintro e w9 ⟨rfl, hB9⟩
  have hE := hD8.trans ((hBn.trans (hB9.mono hBn.size)).mono hD8.size)
  go_wp2_with fail
  go_ret
  exact ⟨rfl, hC4.trans (hE.mono hC4.size)⟩

end Go.Proofs.Ytnoamojikbeadaa

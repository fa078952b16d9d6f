/- Texts that were built one behind the other, joined. -/
import Derived.Test.YtjiodlbblmbibacSW10
import Derived.Test.YtjiodlbblmbibacW7J
/- busy. -/
namespace Go.Proofs.Ytjiodlbblmbibac
open Go.RowKit Go.Shelf Go.Sort
set_option linter.unusedVariables false

/-- The blocks of a state of the yard; a: how many the first hold has; k: the second order's kind. -/
structure BusyB (w : World) (g : Nat) (a k : Int) : Prop where
  b0 : Blk w (g) 3 2 (fun j => (#[.int .i64 9, .int .i64 0] : Array Value).getD j default)
  b1 : Blk w (g + 1) 3 2 (fun j => (#[.int .i64 3, .int .i64 0] : Array Value).getD j default)
  b2 : Blk w (g + 2) 3 2 (fun j => (#[.int .i64 0, .int .i64 6] : Array Value).getD j default)
  b3 : Blk w (g + 3) 23 3 (fun j => (#[.slice (some ⟨g, 0, none⟩) 2 2, .slice (some ⟨g + 1, 0, none⟩) 2 2, .slice (some ⟨g + 2, 0, none⟩) 2 2] : Array Value).getD j default)
  b4 : Blk w (g + 4) 53 8 (fun j => (#[.int .i64 0, .int .i64 6, .int .i64 1, .int .i64 0, .int .i64 1, .int .i64 9, .int .i64 0, .int .i64 3] : Array Value).getD j default)
  b5 : Blk w (g + 5) 53 4 (fun j => (#[.int .i64 0, .int .i64 4, .int .i64 0, .int .i64 0] : Array Value).getD j default)
  b6 : Blk w (g + 6) 51 4 (fun j => (#[.int .i64 1, .slice (some ⟨g + 4, 0, none⟩) 2 2, .int .i64 k, .slice (some ⟨g + 5, 0, none⟩) 1 1] : Array Value).getD j default)
  b7 : Blk w (g + 7) 65 12 (fun j => (#[.int .i64 0, .int .i64 0, .int .i64 0, .int .i64 a, .int .i64 0, .int .i64 0, .int .i64 1, .int .i64 3, .int .i64 0, .int .i64 1, .int .i64 2, .int .i64 6] : Array Value).getD j default)
  b8 : Blk w (g + 8) 70 4 (fun j => (#[.int .i64 0, .int .i64 0, .int .i64 1, .int .i64 5] : Array Value).getD j default)
  b9 : Blk w (g + 9) 3 2 (fun j => (#[.int .i64 13, .int .i64 6] : Array Value).getD j default)
  b10 : Blk w (g + 10) 3 2 (fun j => (#[.int .i64 1, .int .i64 0] : Array Value).getD j default)
  b11 : Blk w (g + 11) 3 2 (fun j => (#[.int .i64 0, .int .i64 0] : Array Value).getD j default)
theorem BusyB.below {w w' : World} {g : Nat} {a k : Int} (h : BusyB w g a k) (hB : Below w.heap.size w w') : BusyB w' g a k := ⟨h.b0.below hB, h.b1.below hB, h.b2.below hB, h.b3.below hB, h.b4.below hB, h.b5.below hB, h.b6.below hB, h.b7.below hB, h.b8.below hB, h.b9.below hB, h.b10.below hB, h.b11.below hB⟩
def bz0 : Nat → Int
  | 0 => 9
  | _ => 0
def bz1 : Nat → Int
  | 0 => 3
  | _ => 0
def bz2 : Nat → Int
  | 0 => 0
  | _ => 6
def bzi : Nat → Int
  | 0 => 13
  | _ => 6
def bzo : Nat → Int
  | 0 => 1
  | _ => 0
def bl0 : Nat → Hd
  | 0 => ⟨0, 6, 1, 0⟩
  | _ => ⟨1, 9, 0, 3⟩
def bhs (a : Int) : Nat → Hd
  | 0 => ⟨0, 0, 0, a⟩
  | 1 => ⟨0, 0, 1, 3⟩
  | _ => ⟨0, 1, 2, 6⟩
def bon (g : Nat) : Nat → Rw
  | 0 => ⟨some ⟨g, 0, none⟩, 2, 2, bz0⟩
  | 1 => ⟨some ⟨g + 1, 0, none⟩, 2, 2, bz1⟩
  | _ => ⟨some ⟨g + 2, 0, none⟩, 2, 2, bz2⟩
def bos (g : Nat) (k : Int) : Nat → Od
  | 0 => ⟨1, ⟨some ⟨g + 4, 0, none⟩, 2, 2, bl0⟩⟩
  | _ => ⟨k, ⟨some ⟨g + 5, 0, none⟩, 1, 1, fun _ => ⟨0, 4, 0, 0⟩⟩⟩
def busyS (g : Nat) (a k : Int) : St := ⟨⟨some ⟨g + 3, 0, none⟩, 3, 3, bon g⟩, ⟨some ⟨g + 6, 0, none⟩, 2, 2, bos g k⟩, ⟨some ⟨g + 7, 0, none⟩, 3, 3, bhs a⟩, ⟨some ⟨g + 8, 0, none⟩, 1, 1, fun _ => ⟨0, 0, 1, 5⟩⟩, ⟨some ⟨g + 9, 0, none⟩, 2, 2, bzi⟩, ⟨some ⟨g + 10, 0, none⟩, 2, 2, bzo⟩, ⟨some ⟨g + 11, 0, none⟩, 2, 2, fun _ => 0⟩⟩

theorem le_max {n : Nat} (h : n ≤ 100) : n ≤ maxLen := by unfold maxLen; omega
theorem two_at {w : World} {g : Nat} {e : TypeId} {x y : Int} {z : Nat → Int} (h : Blk w g e 2 (fun j => (#[.int .i64 x, .int .i64 y] : Array Value).getD j default)) (h0 : z 0 = x) (h1 : z 1 = y) : Rw.At w ⟨some ⟨g, 0, none⟩, 2, 2, z⟩ := by
  refine ⟨Nat.le_refl _, le_max (n := 2) (by decide), fun i hi => ?_⟩
  have hi' : i < 2 := hi
  refine ⟨g, 0, rfl, h.lt, ?_⟩
  match i, hi' with
  | 0, _ => show w.cell? ⟨g, 0 + 0, none⟩ = some (.int .i64 (z 0)); rw [h0]; exact h.cell (j := 0) (by decide)
  | 1, _ => show w.cell? ⟨g, 0 + 1, none⟩ = some (.int .i64 (z 1)); rw [h1]; exact h.cell (j := 1) (by decide)
theorem busyAt {w : World} {g : Nat} {a k : Int} (h : BusyB w g a k) : (busyS g a k).At w := by
  refine ⟨⟨Nat.le_refl _, le_max (n := 3) (by decide), fun i hi => ?_⟩, ⟨Nat.le_refl _, le_max (n := 2) (by decide), fun i hi => ?_⟩, ⟨Nat.le_refl _, le_max (n := 3) (by decide), fun i hi => ?_, fun e => by cases e⟩, ⟨Nat.le_refl _, le_max (n := 1) (by decide), fun i hi => ?_, fun e => by cases e⟩, two_at h.b9 rfl rfl, two_at h.b10 rfl rfl, two_at h.b11 rfl rfl⟩
  · have hi' : i < 3 := hi
    refine ⟨g + 3, 0, rfl, h.b3.lt, ?_⟩
    match i, hi' with
    | 0, _ => exact ⟨h.b3.cell (j := 0) (by decide), two_at h.b0 rfl rfl⟩
    | 1, _ => exact ⟨h.b3.cell (j := 1) (by decide), two_at h.b1 rfl rfl⟩
    | 2, _ => exact ⟨h.b3.cell (j := 2) (by decide), two_at h.b2 rfl rfl⟩
  · have hi' : i < 2 := hi
    refine ⟨g + 6, 0, rfl, h.b6.lt, ?_⟩
    match i, hi' with
    | 0, _ =>
      refine ⟨h.b6.cell (j := 0) (by decide), h.b6.cell (j := 1) (by decide), Nat.le_refl _, le_max (n := 2) (by decide), fun j hj => ?_, fun e => by cases e⟩
      have hj' : j < 2 := hj
      refine ⟨g + 4, 0, rfl, h.b4.lt, ?_⟩
      match j, hj' with
      | 0, _ => exact ⟨h.b4.cell (j := 0) (by decide), h.b4.cell (j := 1) (by decide), h.b4.cell (j := 2) (by decide), h.b4.cell (j := 3) (by decide)⟩
      | 1, _ => exact ⟨h.b4.cell (j := 4) (by decide), h.b4.cell (j := 5) (by decide), h.b4.cell (j := 6) (by decide), h.b4.cell (j := 7) (by decide)⟩
    | 1, _ =>
      refine ⟨h.b6.cell (j := 2) (by decide), h.b6.cell (j := 3) (by decide), Nat.le_refl _, le_max (n := 1) (by decide), fun j hj => ?_, fun e => by cases e⟩
      have hj' : j < 1 := hj
      refine ⟨g + 5, 0, rfl, h.b5.lt, ?_⟩
      match j, hj' with
      | 0, _ => exact ⟨h.b5.cell (j := 0) (by decide), h.b5.cell (j := 1) (by decide), h.b5.cell (j := 2) (by decide), h.b5.cell (j := 3) (by decide)⟩
  · have hi' : i < 3 := hi
    refine ⟨g + 7, 0, rfl, h.b7.lt, ?_⟩
    match i, hi' with
    | 0, _ => exact ⟨h.b7.cell (j := 0) (by decide), h.b7.cell (j := 1) (by decide), h.b7.cell (j := 2) (by decide), h.b7.cell (j := 3) (by decide)⟩
    | 1, _ => exact ⟨h.b7.cell (j := 4) (by decide), h.b7.cell (j := 5) (by decide), h.b7.cell (j := 6) (by decide), h.b7.cell (j := 7) (by decide)⟩
    | 2, _ => exact ⟨h.b7.cell (j := 8) (by decide), h.b7.cell (j := 9) (by decide), h.b7.cell (j := 10) (by decide), h.b7.cell (j := 11) (by decide)⟩
  · have hi' : i < 1 := hi
    refine ⟨g + 8, 0, rfl, h.b8.lt, ?_⟩
    match i, hi' with
    | 0, _ => exact ⟨h.b8.cell (j := 0) (by decide), h.b8.cell (j := 1) (by decide), h.b8.cell (j := 2) (by decide), h.b8.cell (j := 3) (by decide)⟩

theorem busyE (g1 g2 g : Nat) : stateE (yardP g1 g2) (busyS g 2 0) = 0 ∧ stateE (yardP g1 g2) (busyS g 5 0) = 7 ∧ stateE (yardP g1 g2) (busyS g 2 3) = 1 := ⟨by rfl, by rfl, by rfl⟩
theorem busyV (g1 g2 g : Nat) : availE (yardP g1 g2) (busyS g 2 0) 0 0 = 0 ∧ availV (yardP g1 g2) (busyS g 2 0) 0 0 = 2 ∧ freeE (yardP g1 g2) (busyS g 2 0) 1 = 0 ∧ freeV (yardP g1 g2) (busyS g 2 0) 1 = 14 := ⟨by rfl, by rfl, by rfl, by rfl⟩

set_option maxRecDepth 100000 in
set_option maxHeartbeats 4000000 in
theorem busy_any (w : World) :
    Calls Try.prog 29 #[] w fun e w' => ∃ g, e = .returned (busyS g 2 0).val ∧ w.heap.size < g ∧ BusyB w' g 2 0 ∧ Below w.heap.size w w' := by
  go_enter Try.func29, Try.ntmps29
  go_wp2
  refine bodyPost_ret (v := (busyS (w.heap.size + 1) 2 0).val) (by simp [results, Try.results29, go_sem, busyS, St.val]) rfl ?_
  refine ⟨w.heap.size + 1, rfl, by omega, ⟨Blk.alloc (Blk.alloc (Blk.alloc (Blk.alloc (Blk.alloc (Blk.alloc (Blk.alloc (Blk.alloc (Blk.alloc (Blk.alloc (Blk.alloc (Blk.mk' (by simp <;> omega) rfl) _) _) _) _) _) _) _) _) _) _) _, Blk.alloc (Blk.alloc (Blk.alloc (Blk.alloc (Blk.alloc (Blk.alloc (Blk.alloc (Blk.alloc (Blk.alloc (Blk.alloc (Blk.mk' (by simp <;> omega) rfl) _) _) _) _) _) _) _) _) _) _, Blk.alloc (Blk.alloc (Blk.alloc (Blk.alloc (Blk.alloc (Blk.alloc (Blk.alloc (Blk.alloc (Blk.alloc (Blk.mk' (by simp <;> omega) rfl) _) _) _) _) _) _) _) _) _, Blk.alloc (Blk.alloc (Blk.alloc (Blk.alloc (Blk.alloc (Blk.alloc (Blk.alloc (Blk.alloc (Blk.mk' (by simp <;> omega) rfl) _) _) _) _) _) _) _) _, Blk.alloc (Blk.alloc (Blk.alloc (Blk.alloc (Blk.alloc (Blk.alloc (Blk.alloc (Blk.mk' (by simp <;> omega) rfl) _) _) _) _) _) _) _, Blk.alloc (Blk.alloc (Blk.alloc (Blk.alloc (Blk.alloc (Blk.alloc (Blk.mk' (by simp <;> omega) rfl) _) _) _) _) _) _, Blk.alloc (Blk.alloc (Blk.alloc (Blk.alloc (Blk.alloc (Blk.mk' (by simp <;> omega) rfl) _) _) _) _) _, Blk.alloc (Blk.alloc (Blk.alloc (Blk.alloc (Blk.mk' (by simp <;> omega) rfl) _) _) _) _, Blk.alloc (Blk.alloc (Blk.alloc (Blk.mk' (by simp <;> omega) rfl) _) _) _, Blk.alloc (Blk.alloc (Blk.mk' (by simp <;> omega) rfl) _) _, Blk.alloc (Blk.mk' (by simp <;> omega) rfl) _, Blk.mk' (by simp <;> omega) rfl⟩, ?_⟩
  exact (((((((((((((Below.refl _ _).alloc (Nat.le_refl _) _).alloc (by simp <;> omega) _).alloc (by simp <;> omega) _).alloc (by simp <;> omega) _).alloc (by simp <;> omega) _).alloc (by simp <;> omega) _).alloc (by simp <;> omega) _).alloc (by simp <;> omega) _).alloc (by simp <;> omega) _).alloc (by simp <;> omega) _).alloc (by simp <;> omega) _).alloc (by simp <;> omega) _).alloc (by simp <;> omega) _

end Go.Proofs.Ytjiodlbblmbibac
/- What is begun is right. No walk. -/
namespace Go.Proofs.Ytjiodlbblmbibac
open Go.RowKit
set_option linter.unusedVariables false

theorem anyB_zero {n : Nat} {f : Nat → Bool} (h : n = 0) : anyB n f = false := anyB_no fun j hj => absurd hj (by omega)
theorem sumTo_zero {z : Nat → Int} : ∀ {n : Nat}, (∀ j, j < n → z j = 0) → sumTo z n = 0
  | 0, _ => rfl
  | n + 1, h => by simp only [sumTo]; rw [sumTo_zero (n := n) fun j hj => h j (by omega), h n (by omega)]; rfl
theorem usedTo_zero {z zs : Nat → Int} : ∀ {n : Nat}, (∀ j, j < n → z j = 0) → usedTo z zs n = 0
  | 0, _ => rfl
  | n + 1, h => by simp only [usedTo]; rw [usedTo_zero (n := n) fun j hj => h j (by omega), h n (by omega)]; simp

theorem begun_shelf {p : Pl} {s : St} (h0 : planE p = 0) (b : BegunS p s) : RightS p s.on :=
  ⟨rightP h0, b.1, fun i hi => (b.2.1 i (by have := b.1; omega)).1, fun i hi j hj => by rw [(b.2.1 i (by have := b.1; omega)).2 j hj]; omega⟩
theorem begun_avail {p : Pl} {s : St} (b : BegunS p s) {i j : Nat} (hi : i < p.nb) (hj : j < p.ns) : availZ s i j = 0 := by
  obtain ⟨-, hr, -, hh, hm, -⟩ := b
  unfold availZ
  rw [hh, hm, (hr i hi).2 j hj]
  rfl
theorem begun_sum {p : Pl} {r : Rw} {low : Int} (h : r.n = p.ns ∧ ∀ j, j < p.ns → r.z j = 0) (hl : low ≤ 0) : badSum p r low = false := by
  unfold badSum
  rw [Bool.or_eq_false_iff]
  refine ⟨by simp [h.1], anyB_no fun j hj => ?_⟩
  rw [h.2 j (by rw [← h.1]; exact hj), inB_mk ⟨hl, by omega⟩]
  rfl
theorem begun_state {p : Pl} {s : St} (h0 : planE p = 0) (b : BegunS p s) : stateE p s = 0 := by
  have hS := shelfE_mk h0 (begun_shelf h0 b)
  have hb := b
  obtain ⟨hn, hr, ho, hh, hm, h1, h2, h3⟩ := hb
  have e1 : tooManyB s = false := by unfold tooManyB; rw [ho, hm]; rfl
  have e2 : badOrdersB p s = false := anyB_zero ho
  have e3 : badHoldsB p s = false := by unfold badHoldsB; rw [hh]; rfl
  have e4 : badMovesB p s = false := anyB_zero hm
  have e5 : badSumsB p s = false := by
    unfold badSumsB
    rw [begun_sum h1 (by omega), begun_sum h2 (by omega), begun_sum h3 (by omega)]
    rfl
  have e6 : wrongGoodsB p s = false := anyB_no fun g hg => by
    rw [wrongGood_eq, sumTo_zero (fun i hi => (hr i (by omega)).2 g hg), h1.2 g hg, h2.2 g hg, h3.2 g hg, anyB_no fun i hi => by rw [begun_avail b hi hg]; rfl]
    rfl
  have e7 : wrongOrdersB s = false := anyB_zero ho
  rw [stateE_sum hS e1 e2 e3 e4 e5, e6, e7]
  rfl
theorem begun_free {p : Pl} {s : St} (b : BegunS p s) {i : Nat} (hi : i < p.nb) : freeZ p s i = (p.zb i).room := by
  obtain ⟨-, hr, -, -, hm, -⟩ := b
  unfold freeZ
  rw [hm, usedTo_zero (hr i hi).2]
  simp [takeTo]

end Go.Proofs.Ytjiodlbblmbibac

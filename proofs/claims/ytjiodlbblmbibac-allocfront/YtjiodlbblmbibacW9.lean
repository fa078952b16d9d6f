/- shelfBegun. -/
import Derived.Test.YtjiodlbblmbibacW8
import Derived.Test.YtjiodlbblmbibacR
namespace Go.Proofs.Ytjiodlbblmbibac
open Go.RowKit Go.Shelf
set_option linter.unusedVariables false

def onZ : Nat → Nat → Int
  | 0, 0 => 5
  | 1, 0 => 1
  | 1, 1 => 2
  | _, _ => 0
def onS (g : Nat) (n : Nat) : Sh := ⟨some ⟨g + 3, 0, none⟩, n, 3, fun i => ⟨some ⟨g + i, 0, none⟩, 2, 2, onZ i⟩⟩

theorem onAt {w : World} {g n : Nat} (hn : n ≤ 3) (h0 : Blk w g 3 2 (fun j => (#[.int .i64 5, .int .i64 0] : Array Value).getD j default)) (h1 : Blk w (g + 1) 3 2 (fun j => (#[.int .i64 1, .int .i64 2] : Array Value).getD j default))
    (h2 : Blk w (g + 2) 3 2 (fun j => (#[.int .i64 0, .int .i64 0] : Array Value).getD j default))
    (h3 : Blk w (g + 3) 23 3 (fun j => (#[.slice (some ⟨g, 0, none⟩) 2 2, .slice (some ⟨g + 1, 0, none⟩) 2 2, .slice (some ⟨g + 2, 0, none⟩) 2 2] : Array Value).getD j default)) : (onS g n).At w := by
  refine ⟨hn, by simp [onS, maxLen], fun i hi => ?_⟩
  have hi' : i < 3 := Nat.lt_of_lt_of_le hi hn
  refine ⟨g + 3, 0, rfl, h3.lt, ?_, by simp [onS], by simp [onS, maxLen], fun j hj => ?_⟩
  · match i, hi' with
    | 0, _ => exact h3.cell (j := 0) (by decide)
    | 1, _ => exact h3.cell (j := 1) (by decide)
    | 2, _ => exact h3.cell (j := 2) (by decide)
  · have hj' : j < 2 := hj
    match i, hi' with
    | 0, _ =>
      refine ⟨g, 0, rfl, h0.lt, ?_⟩
      match j, hj' with
      | 0, _ => exact h0.cell (j := 0) (by decide)
      | 1, _ => exact h0.cell (j := 1) (by decide)
    | 1, _ =>
      refine ⟨g + 1, 0, rfl, h1.lt, ?_⟩
      match j, hj' with
      | 0, _ => exact h1.cell (j := 0) (by decide)
      | 1, _ => exact h1.cell (j := 1) (by decide)
    | 2, _ =>
      refine ⟨g + 2, 0, rfl, h2.lt, ?_⟩
      match j, hj' with
      | 0, _ => exact h2.cell (j := 0) (by decide)
      | 1, _ => exact h2.cell (j := 1) (by decide)

theorem begun_used (g1 g2 g : Nat) : usedV (yardP g1 g2) (onS g 3) 1 = 8 ∧ usedE (yardP g1 g2) (onS g 3) 1 = 0 := ⟨by rfl, by rfl⟩
theorem begun_sumW (g1 g2 g : Nat) : sumV (yardP g1 g2) (onS g 3) 0 = 6 ∧ sumE (yardP g1 g2) (onS g 3) 0 = 0 := ⟨by rfl, by rfl⟩
theorem begun_put (g1 g2 g : Nat) : putE (yardP g1 g2) (onS g 3) 0 0 (-5) = 0 ∧ putE (yardP g1 g2) (onS g 3) 0 0 (-6) = 3 := ⟨by rfl, by rfl⟩
theorem begun_check (g1 g2 g : Nat) : shelfE (yardP g1 g2) (onS g 3) = 0 ∧ shelfE (yardP g1 g2) (onS g 2) = 1 := ⟨by rfl, by rfl⟩

theorem begunUsed {w : World} {g1 g2 g : Nat} (hp : (yardP g1 g2).At w) (hs : (onS g 3).At w) :
    Calls Try.prog 32 #[(yardP g1 g2).val, (onS g 3).val, .int .i64 1] w fun e w' => e = .returned (.tuple #[.int .i64 8, .int .i64 0]) ∧ Below w.heap.size w w' := by
  have := Used_any _ _ 1 w hp hs
  rwa [(begun_used g1 g2 g).1, (begun_used g1 g2 g).2] at this
theorem begunSum {w : World} {g1 g2 g : Nat} (hp : (yardP g1 g2).At w) (hs : (onS g 3).At w) :
    Calls Try.prog 82 #[(yardP g1 g2).val, (onS g 3).val, .int .i64 0] w fun e w' => e = .returned (.tuple #[.int .i64 6, .int .i64 0]) ∧ Below w.heap.size w w' := by
  have := Sum_any _ _ 0 w hp hs
  rwa [(begun_sumW g1 g2 g).1, (begun_sumW g1 g2 g).2] at this
theorem begunPut {w : World} {g1 g2 g : Nat} (hp : (yardP g1 g2).At w) (hs : (onS g 3).At w) :
    Calls Try.prog 57 #[(yardP g1 g2).val, (onS g 3).val, .int .i64 0, .int .i64 0, .int .i64 (-5)] w fun e w' => ∃ a c b o b0 o0 c0 b1 o1 c1, e = .returned (.tuple #[.slice a 3 c, .int .i64 0]) ∧ a = some ⟨b, o, none⟩ ∧ 3 ≤ c ∧ c ≤ maxLen ∧ b < w'.heap.size ∧ b0 < w'.heap.size ∧ b1 < w'.heap.size ∧
      w'.cell? ⟨b, o, none⟩ = some (.slice (some ⟨b0, o0, none⟩) 2 c0) ∧ w'.cell? ⟨b0, o0, none⟩ = some (.int .i64 0) ∧
      w'.cell? ⟨b, o + 1, none⟩ = some (.slice (some ⟨b1, o1, none⟩) 2 c1) ∧ w'.cell? ⟨b1, o1 + 1, none⟩ = some (.int .i64 2) ∧ Below w.heap.size w w' := by
  refine (Put_any _ _ 0 0 (-5) w hp hs).mono ?_
  rintro e w' ⟨v, rfl, hr, hB⟩
  unfold PutRes at hr
  rw [if_pos (begun_put g1 g2 g).1] at hr
  obtain ⟨s', rfl, hat, hn, hrow⟩ := hr
  obtain ⟨a, n, c, r⟩ := s'
  dsimp only at hn hrow
  subst hn
  obtain ⟨b, o, rfl, hb, z0, h0⟩ := hat.rows 0 (show 0 < 3 by decide)
  obtain ⟨b', o', he, hb', z1, h1⟩ := hat.rows 1 (show 1 < 3 by decide)
  dsimp only at he z0 z1 h0 h1
  simp only [Option.some.injEq, Addr.mk.injEq, and_true] at he
  obtain ⟨rfl, rfl⟩ := he
  have n0 : (r 0).n = 2 := (hrow 0 (show 0 < 3 by decide)).1
  have n1 : (r 1).n = 2 := (hrow 1 (show 1 < 3 by decide)).1
  obtain ⟨b0, o0, a0, hb0, y0⟩ := h0.ints 0 (by rw [n0]; decide)
  obtain ⟨b1, o1, a1, hb1, y1⟩ := h1.ints 1 (by rw [n1]; decide)
  have v0 : (r 0).z 0 = 0 := (hrow 0 (show 0 < 3 by decide)).2 0 (show 0 < 2 by decide)
  have v1 : (r 1).z 1 = 2 := (hrow 1 (show 1 < 3 by decide)).2 1 (show 1 < 2 by decide)
  rw [n0, a0] at z0
  rw [n1, a1] at z1
  rw [v0] at y0
  rw [v1] at y1
  refine ⟨some ⟨b, o, none⟩, c, b, o, b0, o0, _, b1, o1, _, ?_, rfl, hat.le, hat.cap, hb, hb0, hb1, z0, y0, z1, y1, hB⟩
  rw [(begun_put g1 g2 g).1]
  rfl
theorem begunPut2 {w : World} {g1 g2 g : Nat} (hp : (yardP g1 g2).At w) (hs : (onS g 3).At w) :
    Calls Try.prog 57 #[(yardP g1 g2).val, (onS g 3).val, .int .i64 0, .int .i64 0, .int .i64 (-6)] w fun e w' => e = .returned (.tuple #[.slice none 0 0, .int .i64 3]) ∧ Below w.heap.size w w' := by
  refine (Put_any _ _ 0 0 (-6) w hp hs).mono ?_
  rintro e w' ⟨v, rfl, hr, hB⟩
  unfold PutRes at hr
  rw [if_neg (by rw [(begun_put g1 g2 g).2]; decide)] at hr
  rw [hr, (begun_put g1 g2 g).2]
  exact ⟨rfl, hB⟩
theorem begunCheck {w : World} {g1 g2 g n : Nat} (hp : (yardP g1 g2).At w) (hs : (onS g n).At w) (hn : n = 3 ∨ n = 2) :
    Calls Try.prog 33 #[(yardP g1 g2).val, (onS g n).val] w fun e w' => e = .returned (.int .i64 (if n = 3 then 0 else 1)) ∧ Below w.heap.size w w' := by
  have := shelfCheck_any _ _ w hp hs
  rcases hn with rfl | rfl
  · rwa [(begun_check g1 g2 g).1] at this
  · rwa [(begun_check g1 g2 g).2] at this

end Go.Proofs.Ytjiodlbblmbibac

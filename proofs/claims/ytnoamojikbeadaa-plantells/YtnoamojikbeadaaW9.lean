/- shelfBegun. -/
import Derived.Test.YtnoamojikbeadaaW8
import Derived.Test.YtnoamojikbeadaaR
namespace Go.Proofs.Ytnoamojikbeadaa
open Go.RowKit Go.Shelf
set_option linter.unusedVariables false

def onZ : Nat → Nat → Int
  | 0, 0 => 5
  | 1, 0 => 1
  | 1, 1 => 2
  | _, _ => 0
def onS (g : Nat) (n : Nat) : Sh := ⟨some ⟨g + 3, 0, none⟩, n, 3, fun i => ⟨some ⟨g + i, 0, none⟩, 2, 2, onZ i⟩⟩

theorem onAt {w : World} {g n : Nat} (hn : n ≤ 3) (h0 : Blk w g 3 2 (fun j => (#[.int .i64 5, .int .i64 0] : Array Value).getD j default)) (h1 : Blk w (g + 1) 3 2 (fun j => (#[.int .i64 1, .int .i64 2] : Array Value).getD j default))
    (h2 : Blk w (g + 2) 3 2 (fun j => (#[.int .i64 0, .int .i64 0] : Array Value).getD j default))
    (h3 : Blk w (g + 3) 23 3 (fun j => (#[.slice (some ⟨g, 0, none⟩) 2 2, .slice (some ⟨g + 1, 0, none⟩) 2 2, .slice (some ⟨g + 2, 0, none⟩) 2 2] : Array Value).getD j default)) : (onS g n).At w := by
  refine ⟨hn, by simp [onS, maxLen], fun i hi => ?_⟩
  have hi' : i < 3 := Nat.lt_of_lt_of_le hi hn
  refine ⟨g + 3, 0, rfl, h3.lt, ?_, by simp [onS], by simp [onS, maxLen], fun j hj => ?_⟩
  · match i, hi' with
    | 0, _ => exact h3.cell (j := 0) (by decide)
    | 1, _ => exact h3.cell (j := 1) (by decide)
    | 2, _ => exact h3.cell (j := 2) (by decide)
  · have hj' : j < 2 := hj
    match i, hi' with
    | 0, _ =>
      refine ⟨g, 0, rfl, h0.lt, ?_⟩
      match j, hj' with
      | 0, _ => exact h0.cell (j := 0) (by decide)
      | 1, _ => exact h0.cell (j := 1) (by decide)
    | 1, _ =>
      refine ⟨g + 1, 0, rfl, h1.lt, ?_⟩
      match j, hj' with
      | 0, _ => exact h1.cell (j := 0) (by decide)
      | 1, _ => exact h1.cell (j := 1) (by decide)
    | 2, _ =>
      refine ⟨g + 2, 0, rfl, h2.lt, ?_⟩
      match j, hj' with
      | 0, _ => exact h2.cell (j := 0) (by decide)
      | 1, _ => exact h2.cell (j := 1) (by decide)

theorem begun_used (g1 g2 g : Nat) : usedV (yardP g1 g2) (onS g 3) 1 = 8 ∧ usedE (yardP g1 g2) (onS g 3) 1 = 0 := ⟨by rfl, by rfl⟩
theorem begun_sumW (g1 g2 g : Nat) : sumV (yardP g1 g2) (onS g 3) 0 = 6 ∧ sumE (yardP g1 g2) (onS g 3) 0 = 0 := ⟨by rfl, by rfl⟩
theorem begun_put (g1 g2 g : Nat) : putE (yardP g1 g2) (onS g 3) 0 0 (-5) = 0 ∧ putE (yardP g1 g2) (onS g 3) 0 0 (-6) = 3 := ⟨by rfl, by rfl⟩
theorem begun_check (g1 g2 g : Nat) : shelfE (yardP g1 g2) (onS g 3) = 0 ∧ shelfE (yardP g1 g2) (onS g 2) = 1 := ⟨by rfl, by rfl⟩

theorem begunUsed {w : World} {g1 g2 g : Nat} (hp : (yardP g1 g2).At w) (hs : (onS g 3).At w) :
    Calls Try.prog 15 #[(yardP g1 g2).val, (onS g 3).val, .int .i64 1] w fun e w' => e = .returned (.tuple #[.int .i64 8, .int .i64 0]) ∧ Below w.heap.size w w' := by
  have := Used_any _ _ 1 w hp hs
  rwa [(begun_used g1 g2 g).1, (begun_used g1 g2 g).2] at this
theorem begunSum {w : World} {g1 g2 g : Nat} (hp : (yardP g1 g2).At w) (hs : (onS g 3).At w) :
    Calls Try.prog 16 #[(yardP g1 g2).val, (onS g 3).val, .int .i64 0] w fun e w' => e = .returned (.tuple #[.int .i64 6, .int .i64 0]) ∧ Below w.heap.size w w' := by
  have := Sum_any _ _ 0 w hp hs
  rwa [(begun_sumW g1 g2 g).1, (begun_sumW g1 g2 g).2] at this
theorem begunPut {w : World} {g1 g2 g : Nat} (hp : (yardP g1 g2).At w) (hs : (onS g 3).At w) :
    Calls Try.prog 23 #[(yardP g1 g2).val, (onS g 3).val, .int .i64 0, .int .i64 0, .int .i64 (-5)] w fun e w' => ∃ a c b o b0 o0 c0 b1 o1 c1, e = .returned (.tuple #[.slice a 3 c, .int .i64 0]) ∧ a = some ⟨b, o, none⟩ ∧ 3 ≤ c ∧ c ≤ maxLen ∧ b < w'.heap.size ∧ b0 < w'.heap.size ∧ b1 < w'.heap.size ∧
      w'.cell? ⟨b, o, none⟩ = some (.slice (some ⟨b0, o0, none⟩) 2 c0) ∧ w'.cell? ⟨b0, o0, none⟩ = some (.int .i64 0) ∧
      w'.cell? ⟨b, o + 1, none⟩ = some (.slice (some ⟨b1, o1, none⟩) 2 c1) ∧ w'.cell? ⟨b1, o1 + 1, none⟩ = some (.int .i64 2) ∧ Below w.heap.size w w' := by
  refine (Put_any _ _ 0 0 (-5) w hp hs).mono ?_
  rintro e w' ⟨v, rfl, hr, hB⟩
  unfold PutRes at hr
  rw [if_pos (begun_put g1 g2 g).1] at hr
  obtain ⟨s', rfl, hat, hn, hrow⟩ := hr
  obtain ⟨a, n, c, r⟩ := s'
  dsimp only at hn hrow
  subst hn
  obtain ⟨b, o, rfl, hb, z0, h0⟩ := hat.rows 0 (show 0 < 3 by decide)
  obtain ⟨b', o', he, hb', z1, h1⟩ := hat.rows 1 (show 1 < 3 by decide)
  dsimp only at he z0 z1 h0 h1
  simp only [Option.some.injEq, Addr.mk.injEq, and_true] at he
  obtain ⟨rfl, rfl⟩ := he
  have n0 : (r 0).n = 2 := (hrow 0 (show 0 < 3 by decide)).1
  have n1 : (r 1).n = 2 := (hrow 1 (show 1 < 3 by decide)).1
  obtain ⟨b0, o0, a0, hb0, y0⟩ := h0.ints 0 (by rw [n0]; decide)
  obtain ⟨b1, o1, a1, hb1, y1⟩ := h1.ints 1 (by rw [n1]; decide)
  have v0 : (r 0).z 0 = 0 := (hrow 0 (show 0 < 3 by decide)).2 0 (show 0 < 2 by decide)
  have v1 : (r 1).z 1 = 2 := (hrow 1 (show 1 < 3 by decide)).2 1 (show 1 < 2 by decide)
  rw [n0, a0] at z0
  rw [n1, a1] at z1
  rw [v0] at y0
  rw [v1] at y1
  refine ⟨some ⟨b, o, none⟩, c, b, o, b0, o0, _, b1, o1, _, ?_, rfl, hat.le, hat.cap, hb, hb0, hb1, z0, y0, z1, y1, hB⟩
  rw [(begun_put g1 g2 g).1]
  rfl
theorem begunPut2 {w : World} {g1 g2 g : Nat} (hp : (yardP g1 g2).At w) (hs : (onS g 3).At w) :
    Calls Try.prog 23 #[(yardP g1 g2).val, (onS g 3).val, .int .i64 0, .int .i64 0, .int .i64 (-6)] w fun e w' => e = .returned (.tuple #[.slice none 0 0, .int .i64 3]) ∧ Below w.heap.size w w' := by
  refine (Put_any _ _ 0 0 (-6) w hp hs).mono ?_
  rintro e w' ⟨v, rfl, hr, hB⟩
  unfold PutRes at hr
  rw [if_neg (by rw [(begun_put g1 g2 g).2]; decide)] at hr
  rw [hr, (begun_put g1 g2 g).2]
  exact ⟨rfl, hB⟩
theorem begunCheck {w : World} {g1 g2 g n : Nat} (hp : (yardP g1 g2).At w) (hs : (onS g n).At w) (hn : n = 3 ∨ n = 2) :
    Calls Try.prog 21 #[(yardP g1 g2).val, (onS g n).val] w fun e w' => e = .returned (.int .i64 (if n = 3 then 0 else 1)) ∧ Below w.heap.size w w' := by
  have := shelfCheck_any _ _ w hp hs
  rcases hn with rfl | rfl
  · rwa [(begun_check g1 g2 g).1] at this
  · rwa [(begun_check g1 g2 g).2] at this

set_option maxHeartbeats 1000000 in
theorem shelfBegun_any (w : World) :
    Calls Try.prog 20 #[] w fun e w' => e = .returned (.bool true) ∧ Below w.heap.size w w' := by
  have F : ∃ W0, ((((w.alloc (.cells #[.int .i64 5, .int .i64 0] 3)).alloc (.cells #[.int .i64 1, .int .i64 2] 3)).alloc (.cells #[.int .i64 0, .int .i64 0] 3)).alloc (.cells #[.slice (some ⟨w.heap.size, 0, none⟩) 2 2, .slice (some ⟨w.heap.size + 1, 0, none⟩) 2 2, .slice (some ⟨w.heap.size + 1 + 1, 0, none⟩) 2 2] 23)) = W0 ∧ Below w.heap.size w W0 ∧ (onS w.heap.size 3).At W0 ∧ (onS w.heap.size 2).At W0 := by
    refine ⟨_, rfl, ((((Below.refl _ _).alloc (Nat.le_refl _) _).alloc (by simp) _).alloc (by simp; omega) _).alloc (by simp; omega) _, ?_, ?_⟩
    all_goals exact onAt (by decide) (Blk.alloc (Blk.alloc (Blk.alloc (Blk.mk' rfl rfl) _) _) _) (Blk.alloc (Blk.alloc (Blk.mk' (by simp) rfl) _) _) (Blk.alloc (Blk.mk' (by simp) rfl) _) (Blk.mk' (by simp) rfl)
  obtain ⟨W0, hW, hB0, hon, hon2⟩ := F
  have HW : Hid _ := hW
  clear hW
  go_enter Try.func20, Try.ntmps20
  go_wp2_with fail
  rw [HW.out]
  clear HW
  refine (yard_any _).mono ?_
  rintro e w1 ⟨g1, g2, rfl, -, -, k1, k2, hB1⟩
  go_wp2_with fail
  refine (begunUsed (yardAt k1 k2) (hon.below hB1)).mono ?_
  rintro e w2 ⟨rfl, hB2⟩
  have hC2 := hB1.trans (hB2.mono hB1.size)
  clear k1 k2 hB1 hB2
  go_wp2_with fail
  refine (yard_any _).mono ?_
  rintro e w3 ⟨g1, g2, rfl, -, -, k1, k2, hB1⟩
  have hC3 := hC2.trans (hB1.mono hC2.size)
  go_wp2_with fail
  refine (begunSum (yardAt k1 k2) (hon.below hC3)).mono ?_
  rintro e w4 ⟨rfl, hB2⟩
  have hC4 := hC3.trans (hB2.mono hC3.size)
  clear k1 k2 hB1 hB2 hC2 hC3
  go_wp2_with fail
  refine (yard_any _).mono ?_
  rintro e w5 ⟨g1, g2, rfl, -, -, k1, k2, hB1⟩
  have hC5 := hC4.trans (hB1.mono hC4.size)
  go_wp2_with fail
  refine (begunPut (yardAt k1 k2) (hon.below hC5)).mono ?_
  rintro e w6 ⟨a, c, b, o, b0, o0, c0, b1, o1, c1, rfl, rfl, hc3, hcm, hb, hb0, hb1, z0, y0, z1, y1, hB2⟩
  have hC6 := hC5.trans (hB2.mono hC5.size)
  clear k1 k2 hB1 hB2 hC4 hC5
  go_wp2_with fail
  refine (yard_any _).mono ?_
  rintro e w7 ⟨g1, g2, rfl, -, -, k1, k2, hB1⟩
  have hC7 := hC6.trans (hB1.mono hC6.size)
  go_wp2_with fail
  refine (begunPut2 (yardAt k1 k2) (hon.below hC7)).mono ?_
  rintro e w8 ⟨rfl, hB2⟩
  have hC8 := hC7.trans (hB2.mono hC7.size)
  have hD := hB1.trans (hB2.mono hB1.size)
  have z0' := (hD.cell (p := ⟨b, o, none⟩) hb).trans z0
  have z1' := (hD.cell (p := ⟨b, o + 1, none⟩) hb).trans z1
  have y0' := (hD.cell (p := ⟨b0, o0, none⟩) hb0).trans y0
  have y1' := (hD.cell (p := ⟨b1, o1 + 1, none⟩) hb1).trans y1
  have lb := Nat.lt_of_lt_of_le hb hD.size
  have lb0 := Nat.lt_of_lt_of_le hb0 hD.size
  have lb1 := Nat.lt_of_lt_of_le hb1 hD.size
  clear k1 k2 hB1 hB2 hC6 hC7 z0 z1 y0 y1 hD hb hb0 hb1
  unfold maxLen at hcm
  go_wp2_with fail
  have q0 : w8.cell? ⟨w.heap.size + 1 + 1 + 1, 0, none⟩ = some (.slice (some ⟨w.heap.size, 0, none⟩) 2 2) := by
    obtain ⟨b', o', he, _, hc', _⟩ := (hon.below hC8).rows 0 (show 0 < 3 by decide)
    simp only [onS, Option.some.injEq, Addr.mk.injEq, and_true] at he
    obtain ⟨rfl, rfl⟩ := he
    exact hc'
  have q1 : w8.cell? ⟨w.heap.size, 0, none⟩ = some (.int .i64 5) := by
    obtain ⟨_, _, _, _, _, hr⟩ := (hon.below hC8).rows 0 (show 0 < 3 by decide)
    obtain ⟨b', o', he, _, hc'⟩ := hr.ints 0 (show 0 < 2 by decide)
    simp only [onS, Option.some.injEq, Addr.mk.injEq, and_true] at he
    obtain ⟨rfl, rfl⟩ := he
    exact hc'
  have l0 : w.heap.size + 1 + 1 + 1 < w8.heap.size := by
    obtain ⟨b', o', he, hb', hc', _⟩ := (hon.below hC8).rows 0 (show 0 < 3 by decide)
    simp only [onS, Option.some.injEq, Addr.mk.injEq, and_true] at he
    obtain ⟨rfl, rfl⟩ := he
    exact hb'
  have l1 : w.heap.size < w8.heap.size := by omega
  have hon8 := hon.below hC8
  have hon28 := hon2.below hC8
  have HON : Hid (∀ n, (n = 3 ∨ n = 2) → (onS w.heap.size n).At w8) := fun n hn => by
    rcases hn with rfl | rfl
    · exact hon8
    · exact hon28
  have hBw := hB0.trans (hC8.mono hB0.size)
  have hX : Below w8.heap.size w8 w8.drew := (Below.refl _ _).drew
  have QQ : Hid _ := And.intro z0' (And.intro z1' (And.intro y0' (And.intro y1' (And.intro q0 q1))))
  clear z0' z1' y0' y1' q0 q1 hC8 hon hon2 hon8 hon28
  refine wp_region_ord ([(true, 1)] ++ (List.range' 0 1).map (fun i => (false, i)) ++ (List.range' 2 3).map (fun i => (false, i)) ++ [(true, 6), (true, 7), (false, 5)] ++ (List.range' 8 52).map (fun i => (false, i))) (by kernel_rfl) (by kernel_rfl) (by kernel_rfl) (by kernel_rfl) ?_
  refine wpOrd_first 1 rfl rfl ?_
  go_big_quiet_step (fail)
  refine wpQuiet_nil ?_
  refine wpOrd_from 0 1 (by decide) ?_
  simp only [List.drop_zero, List.take_succ_cons, List.take_zero]
  go_wp2_with fail
  refine (yard_any _).mono ?_
  rintro e wy ⟨g1, g2, rfl, -, -, k1, k2, hB1⟩
  have hX := hX.trans (hB1.mono hX.size)
  clear hB1
  go_wp2_with fail
  refine wpOrd_from 2 3 (by decide) ?_
  simp only [List.drop_succ_cons, List.drop_zero, List.take_succ_cons, List.take_zero]
  go_wp2_with fail
  refine (begunCheck (n := 3) (yardAt k1 k2) ((HON.out _ (by decide)).below hX) (by decide)).mono ?_
  rintro e wc ⟨rfl, hB2⟩
  have hX := hX.trans (hB2.mono hX.size)
  clear hB2 k1 k2
  go_wp2_with fail
  refine wpOrd_first 6 rfl rfl ?_
  go_big_quiet_step (fail)
  refine wpQuiet_nil ?_
  refine wpOrd_first 7 rfl rfl ?_
  go_big_quiet_step (fail)
  refine wpQuiet_nil ?_
  refine wpOrd_from 5 1 (by decide) ?_
  simp only [List.drop_succ_cons, List.drop_zero, List.take_succ_cons, List.take_zero]
  go_wp2_with fail
  refine (yard_any _).mono ?_
  rintro e wy ⟨g1, g2, rfl, -, -, k1, k2, hB1⟩
  have hX := hX.trans (hB1.mono hX.size)
  clear hB1
  go_wp2_with fail
  refine wpOrd_from (r := []) 8 52 (by decide) ?_
  simp only [List.drop_succ_cons, List.drop_zero, List.take_succ_cons, List.take_zero]
  go_wp2_with fail
  refine (begunCheck (n := 2) (yardAt k1 k2) ((HON.out _ (by decide)).below hX) (by decide)).mono ?_
  rintro e wc ⟨rfl, hB2⟩
  have hX := hX.trans (hB2.mono hX.size)
  clear hB2 k1 k2
  have z0 := (hX.cell (p := ⟨b, o, none⟩) lb).trans QQ.out.1
  have z1 := (hX.cell (p := ⟨b, o + 1, none⟩) lb).trans QQ.out.2.1
  have y0 := (hX.cell (p := ⟨b0, o0, none⟩) lb0).trans QQ.out.2.2.1
  have y1 := (hX.cell (p := ⟨b1, o1 + 1, none⟩) lb1).trans QQ.out.2.2.2.1
  have q0 := (hX.cell (p := ⟨w.heap.size + 1 + 1 + 1, 0, none⟩) l0).trans QQ.out.2.2.2.2.1
  have q1 := (hX.cell (p := ⟨w.heap.size, 0, none⟩) l1).trans QQ.out.2.2.2.2.2
  go_wp2_with fail
  refine NoPanic.normal ?_
  go_wp2_with fail
  go_ret
  exact ⟨rfl, hBw.trans (hX.mono hBw.size)⟩

end Go.Proofs.Ytnoamojikbeadaa

/- holdsBegun. -/
import Derived.Test.YtmgmhhjnepjipabHW11
namespace Go.Proofs.Ytmgmhhjnepjipab
open Go.RowKit Go.Shelf
set_option linter.unusedVariables false

def begL : Nat → Hd
  | 0 => ⟨0, 1, 2, 5⟩
  | _ => ⟨1, 0, 0, 3⟩
def begA : Nat → Hd := addZ 2 begL ⟨0, 1, 1, 4⟩
def begB : Nat → Hd := addZ 3 begA ⟨0, 1, 2, 2⟩

theorem Hs.At.congr {w : World} {s : Hs} {z' : Nat → Hd} {n : Nat} (h : s.At w) (hn : s.n = n) (hz : ∀ j, j < s.n → s.z j = z' j) : Hs.At w ⟨s.a, n, s.c, z'⟩ := by
  subst hn
  refine ⟨h.le, h.cap, fun i hi => ?_, h.nilc⟩
  have := h.hds i hi
  rw [hz i hi] at this
  exact this

theorem beg1 : addE 2 begL ⟨0, 1, 1, 4⟩ = 0 ∧ addLen 2 begL ⟨0, 1, 1, 4⟩ = 3 ∧ checkH 2 begL = 0 := ⟨by rfl, by rfl, by rfl⟩
theorem beg2 : addE 3 begA ⟨0, 1, 2, 2⟩ = 0 ∧ addLen 3 begA ⟨0, 1, 2, 2⟩ = 3 := ⟨by rfl, by rfl⟩
theorem beg3 : dropE 3 begB 1 0 0 = 0 ∧ dropN 3 begB 1 0 0 = 3 ∧ dropE 3 begB 1 1 0 = 4 ∧ dropN 3 begB 1 1 0 = 0 := ⟨by rfl, by rfl, by rfl, by rfl⟩
theorem beg4 : checkH 3 begB = 0 ∧ keptS begB 0 1 3 = 11 := ⟨by rfl, by rfl⟩
theorem beg5 : (begA 0).b = 1 ∧ (begB 1).n = 7 := ⟨by rfl, by rfl⟩

set_option maxHeartbeats 2000000 in
theorem holdsBegun_any (w : World) :
    Calls Try.prog 8 #[] w fun e w' => e = .returned (.bool true) ∧ Below w.heap.size w w' := by
  have F : ∃ W0, w.alloc (.cells #[.int .i64 0, .int .i64 1, .int .i64 2, .int .i64 5, .int .i64 1, .int .i64 0, .int .i64 0, .int .i64 3] 24) = W0 ∧ Below w.heap.size w W0 ∧ Hs.At W0 ⟨some ⟨w.heap.size, 0, none⟩, 2, 2, begL⟩ := by
    refine ⟨_, rfl, (Below.refl _ _).alloc (Nat.le_refl _) _, ⟨Nat.le_refl _, by show 2 ≤ maxLen; unfold maxLen; omega, fun i hi => ?_, fun h => by cases h⟩⟩
    have hb : Blk (w.alloc (.cells #[.int .i64 0, .int .i64 1, .int .i64 2, .int .i64 5, .int .i64 1, .int .i64 0, .int .i64 0, .int .i64 3] 24)) w.heap.size 24 8 (fun j => (#[.int .i64 0, .int .i64 1, .int .i64 2, .int .i64 5, .int .i64 1, .int .i64 0, .int .i64 0, .int .i64 3] : Array Value).getD j default) := Blk.mk' rfl rfl
    have hi2 : i = 0 ∨ i = 1 := by have : i < 2 := hi; omega
    refine ⟨w.heap.size, 0, rfl, hb.lt, ?_⟩
    rcases hi2 with rfl | rfl
    · exact ⟨hb.cell (j := 0) (by decide), hb.cell (j := 1) (by decide), hb.cell (j := 2) (by decide), hb.cell (j := 3) (by decide)⟩
    · exact ⟨hb.cell (j := 4) (by decide), hb.cell (j := 5) (by decide), hb.cell (j := 6) (by decide), hb.cell (j := 7) (by decide)⟩
  obtain ⟨W0, hW, hB0, hL⟩ := F
  have HW : Hid (w.alloc (.cells #[.int .i64 0, .int .i64 1, .int .i64 2, .int .i64 5, .int .i64 1, .int .i64 0, .int .i64 0, .int .i64 3] 24) = W0) := hW
  clear hW
  go_enter Try.func8, Try.ntmps8
  go_wp2_with fail
  rw [HW.out]
  clear HW
  refine (Add_any ⟨some ⟨w.heap.size, 0, none⟩, 2, 2, begL⟩ ⟨0, 1, 1, 4⟩ W0 hL).mono ?_
  rintro e w1 ⟨a, rfl, aat, aok, hB1⟩
  dsimp only at aok ⊢
  rw [beg1.1]
  have an : a.n = 3 := by have := aok.1; rw [beg1.1] at this; exact this
  have aat' := aat.congr (z' := begA) an aok.2
  obtain ⟨aa, n1, ac, az⟩ := a
  dsimp only at an aat'
  subst an
  have ale : 3 ≤ ac := aat.le
  have acap := aat.cap
  dsimp only at acap
  unfold maxLen at acap
  obtain ⟨ab, ao, hae, hab, _, _, a2, _⟩ := aat'.hds 0 (show 0 < 3 by decide)
  dsimp only at hae
  subst hae
  simp only [Nat.zero_mul, Nat.add_zero, beg5.1] at a2
  clear aat aok
  simp only [Hs.val]
  go_wp2_with fail
  refine (Add_any ⟨some ⟨ab, ao, none⟩, 3, ac, begA⟩ ⟨0, 1, 2, 2⟩ w1 aat').mono ?_
  rintro e w2 ⟨b, rfl, bat, bok, hB2⟩
  dsimp only at bok ⊢
  rw [beg2.1]
  have bn : b.n = 3 := by have := bok.1; rw [beg2.1] at this; exact this
  have bat' := bat.congr (z' := begB) bn bok.2
  obtain ⟨ba, n2, bc, bz⟩ := b
  dsimp only at bn bat'
  subst bn
  have ble : 3 ≤ bc := bat.le
  have bcap := bat.cap
  dsimp only at bcap
  unfold maxLen at bcap
  obtain ⟨bb, bo, hbe, hbb, _, _, _, b3⟩ := bat'.hds 1 (show 1 < 3 by decide)
  dsimp only at hbe
  subst hbe
  simp only [Nat.one_mul, beg5.2] at b3
  clear bat bok
  have hC2 := hB0.trans ((hB1.trans (hB2.mono hB1.size)).mono hB0.size)
  have HA2 : Hid (w2.cell? ⟨ab, ao + 2, none⟩ = some (.int .i64 1)) := (hB2.cell (p := ⟨ab, ao + 2, none⟩) hab).trans a2
  have lab := Nat.lt_of_lt_of_le hab hB2.size
  have hL2 := hL.below (hB1.trans (hB2.mono hB1.size))
  clear a2 aat'
  simp only [Hs.val]
  go_wp2_with fail
  refine (Drop_any ⟨some ⟨bb, bo, none⟩, 3, bc, begB⟩ 1 0 0 w2 bat').mono ?_
  rintro e w3 ⟨c, rfl, cat, cok, hB3⟩
  dsimp only at cok ⊢
  rw [beg3.1, beg3.2.1]
  have cn : c.n = 2 := by have := cok.1; rw [beg3.1] at this; exact this
  obtain ⟨ca, n3, cc, cz⟩ := c
  dsimp only at cn
  subst cn
  have cle : 2 ≤ cc := cat.le
  have ccap := cat.cap
  dsimp only at ccap
  unfold maxLen at ccap
  clear cat cok
  simp only [Hs.val]
  go_wp2_with fail
  refine (Kept_any ⟨some ⟨bb, bo, none⟩, 3, bc, begB⟩ 0 1 w3 (bat'.below hB3)).mono ?_
  rintro e w4 ⟨rfl, hB4⟩
  dsimp only
  rw [beg4.1, if_pos rfl, beg4.2]
  have hD4 := hB3.trans (hB4.mono hB3.size)
  go_wp2_with fail
  refine (Drop_any ⟨some ⟨bb, bo, none⟩, 3, bc, begB⟩ 1 1 0 w4 (bat'.below hD4)).mono ?_
  rintro e w5 ⟨d, rfl, dat, dok, hB5⟩
  dsimp only
  rw [beg3.2.2.1, beg3.2.2.2]
  have hD5 := hD4.trans (hB5.mono hD4.size)
  clear dat dok
  simp only [Hs.val]
  go_wp2_with fail
  refine (holdsCheck_any ⟨some ⟨w.heap.size, 0, none⟩, 2, 2, begL⟩ w5 (hL2.below hD5)).mono ?_
  rintro e w6 ⟨rfl, hB6⟩
  dsimp only
  rw [beg1.2.2]
  have hD6 := hD5.trans (hB6.mono hD5.size)
  have q1 := (hD6.cell (p := ⟨ab, ao + 2, none⟩) lab).trans HA2.out
  have q2 := (hD6.cell (p := ⟨bb, bo + 4 + 3, none⟩) hbb).trans b3
  go_wp2_with fail
  go_ret
  exact ⟨rfl, hC2.trans (hD6.mono hC2.size)⟩

end Go.Proofs.Ytmgmhhjnepjipab

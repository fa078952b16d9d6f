/- The document's own CheckShelf. -/
import Derived.Test.YtjiodlbblmbibacW3
namespace Go.Proofs.Ytjiodlbblmbibac
open Go.RowKit Go.Shelf
set_option linter.unusedVariables false

set_option maxHeartbeats 1000000 in
theorem refCheckShelf_any (p : Pl) (s : Sh) (w : World) (hp : p.At w) (hs : s.At w) :
    Calls Try.prog 97 #[p.val, s.val] w fun e w' => e = .returned (.int .i64 (shelfE p s)) ∧ Below w.heap.size w w' := by
  obtain ⟨sa, sn, sc, sr⟩ := s
  obtain ⟨sle, scap, rows⟩ := hs
  dsimp only at sle scap rows
  unfold maxLen at scap
  have leb := hp.leb
  have capb := hp.capb
  have les := hp.les
  have caps := hp.caps
  unfold maxLen at capb caps
  have hB0 : Below w.heap.size w (w.alloc (.cells #[.slice p.ab p.nb p.cb, .slice p.sa p.ns p.cs] 25)) := (Below.refl w.heap.size w).alloc (Nat.le_refl _) _
  simp only [Pl.val, Sh.val]
  go_enter Try.func97, Try.ntmps97
  go_wp2_with fail
  refine (refCheckPlan_any p _ (hp.below hB0)).mono ?_
  rintro e w1 ⟨rfl, hB⟩
  have hBw := hB0.trans (hB.mono (by simp))
  have hsz : w.heap.size < w1.heap.size := by have := hB.size; simp at this; omega
  have c0 : w1.cell? ⟨w.heap.size, 0, none⟩ = some (.slice p.ab p.nb p.cb) := (hB.cell (p := ⟨w.heap.size, 0, none⟩) (by simp)).trans (by simp)
  have c1 : w1.cell? ⟨w.heap.size, 1, none⟩ = some (.slice p.sa p.ns p.cs) := (hB.cell (p := ⟨w.heap.size, 1, none⟩) (by simp)).trans (by simp)
  have rows1 := rows.below hBw
  clear hB hB0 rows hp
  by_cases h0 : planE p = 0
  · cases h1 : ((sn : Int) != (p.nb : Int))
    · have H01 : Hid (planE p = 0 ∧ ((sn : Int) != (p.nb : Int)) = false) := ⟨h0, h1⟩
      go_wp2_with fail
      clear h0 h1
      go_loopw [6] (fun i wk => ∃ k : Nat, k ≤ sn ∧ i = .int .i64 k ∧ (∀ j, j < k → badRow p (sr j) = false) ∧ Below w1.heap.size w1 wk) (fun i _ => sn - (intOf i).toNat)
      case atStart => exact ⟨0, Nat.zero_le _, rfl, fun j hj => absurd hj (Nat.not_lt_zero _), Below.refl _ _⟩
      case round =>
        obtain ⟨k, hk, rfl, hno, hB1⟩ := hrel
        have HN : Hid (∀ j, j < k → badRow p (sr j) = false) := hno
        have d1 : wr.cell? ⟨w.heap.size, 1, none⟩ = some (.slice p.sa p.ns p.cs) := (hB1.cell (p := ⟨w.heap.size, 1, none⟩) hsz).trans c1
        clear hno
        by_cases hlt : k < sn
        · obtain ⟨b, o, rfl, hb, z0, hat⟩ := rows1 k hlt
          obtain ⟨rle, rcap, ints⟩ := hat
          unfold maxLen at rcap
          obtain ⟨R, hR⟩ : ∃ R, R = sr k := ⟨_, rfl⟩
          rw [← hR] at z0 rle rcap ints
          have HR : Hid (R = sr k) := hR
          obtain ⟨ra, rn, rc, rz⟩ := R
          dsimp only at z0 rle rcap ints
          have z1 := (hB1.cell (p := ⟨b, o + k, none⟩) hb).trans z0
          have Z0 : Hid (w1.cell? ⟨b, o + k, none⟩ = some (.slice ra rn rc)) := z0
          clear z0 hR
          cases h2 : ((rn : Int) != (p.ns : Int))
          · have H2 : Hid (((rn : Int) != (p.ns : Int)) = false) := h2
            go_wp2_with fail
            go_quiet (fail)
            go_wp2_with fail
            have hB2 := below_drewN hB1 nq
            clear h2
            go_loopw [7] (fun i wk => ∃ g : Nat, g ≤ rn ∧ i = .int .i64 g ∧ (∀ j, j < g → badNum (rz j) = false) ∧ Below w1.heap.size w1 wk) (fun i _ => rn - (intOf i).toNat)
            case atStart => exact ⟨0, Nat.zero_le _, rfl, fun j hj => absurd hj (Nat.not_lt_zero _), hB2⟩
            case round =>
              clear hB1 hB2 z1 d1
              obtain ⟨g, hg, rfl, hno, hB1⟩ := hrel
              have HM : Hid (∀ j, j < g → badNum (rz j) = false) := hno
              clear hno
              have z2 := (hB1.cell (p := ⟨b, o + k, none⟩) hb).trans Z0.out
              by_cases hgt : g < rn
              · obtain ⟨b', o', rfl, hb', y0⟩ := ints g hgt
                have y1 := (hB1.cell (p := ⟨b', o' + g, none⟩) hb').trans y0
                clear y0
                cases i1 : inB (rz g) 0 200
                · have hh : Hid (badNum (rz g) = true) := by show badNum (rz g) = true; simp [badNum, i1]
                  go_wp2_with (go_at_call 48; refine calls_to (within_any _ _ _ _) ?_)
                  go_ret
                  have h3 : anyB sn (fun i => badRow p (sr i)) = true := anyB_yes hlt (by rw [← HR.out]; simp [badRow, anyB_yes (bad := fun i => badNum (rz i)) hgt hh.out])
                  exact ⟨by simp [shelfE, H01.out.1, H01.out.2, h3], hBw.trans (hB1.mono hBw.size)⟩
                · have hh : Hid (badNum (rz g) = false) := by show badNum (rz g) = false; simp [badNum, i1]
                  go_wp2_with (go_at_call 48; refine calls_to (within_any _ _ _ _) ?_)
                  go_roundw
                  case rel =>
                    refine ⟨g + 1, by omega, by go_num, ?_, hB1⟩
                    intro j hj
                    by_cases hjk : j = g
                    · rw [hjk, hh.out]
                    · exact HM.out j (by omega)
                  case measure => simp [intOf]; omega
              · have hh : Hid (badRow p (sr k) = false) := by
                  show badRow p (sr k) = false
                  rw [← HR.out]
                  simp [badRow, H2.out, anyB_no (n := rn) (bad := fun i => badNum (rz i)) fun j hj => HM.out j (by omega)]
                go_wp2_with fail
                go_roundw
                case rel =>
                  refine ⟨k + 1, by omega, by go_num, ?_, hB1⟩
                  intro j hj
                  by_cases hjk : j = k
                  · rw [hjk, hh.out]
                  · exact HN.out j (by omega)
                case measure => simp [intOf]; omega
          · go_wp2_with fail
            go_quiet (fail)
            go_wp2_with fail
            go_ret
            have h3 : anyB sn (fun i => badRow p (sr i)) = true := anyB_yes hlt (by rw [← HR.out]; simp [badRow, h2])
            exact ⟨by simp [shelfE, H01.out.1, H01.out.2, h3], below_drewN (hBw.trans (hB1.mono hBw.size)) _⟩
        · go_wp2_with fail
          go_ret
          have h3 : anyB sn (fun i => badRow p (sr i)) = false := anyB_no fun j hj => HN.out j (by omega)
          exact ⟨by simp [shelfE, H01.out.1, H01.out.2, h3], hBw.trans (hB1.mono hBw.size)⟩
    · go_wp2_with fail
      go_ret
      exact ⟨by simp [shelfE, h0, h1], hBw⟩
  · go_wp2_with fail
    go_ret
    exact ⟨by simp [shelfE, h0], hBw⟩

end Go.Proofs.Ytjiodlbblmbibac

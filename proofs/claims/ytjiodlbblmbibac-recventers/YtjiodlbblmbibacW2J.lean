/- Texts that were built one behind the other, joined. -/
import Derived.Test.YtjiodlbblmbibacW1
import Derived.Shelf.Abstract
/- The walks of the checks of plans and shelves. -/
namespace Go.Proofs.Ytjiodlbblmbibac
open Go.RowKit Go.Shelf
set_option linter.unusedVariables false

theorem bcell {W w1 : World} (hb : Below W.heap.size W w1) : (∀ b o, b < W.heap.size → w1.cell? ⟨b, o, none⟩ = W.cell? ⟨b, o, none⟩) ∧ (∀ b o, b < W.heap.size → w1.frozen? ⟨b, o, none⟩ = W.frozen? ⟨b, o, none⟩) :=
  ⟨fun b o h => hb.cell (p := ⟨b, o, none⟩) h, fun b o h => hb.frozen (p := ⟨b, o, none⟩) h⟩

set_option maxHeartbeats 400000 in
theorem planCheck_any (p : Pl) (w : World) (hp : p.At w) :
    Calls Try.prog 26 #[p.val] w fun e w' => e = .returned (.int .i64 (planE p)) ∧ Below w.heap.size w w' := by
  obtain ⟨leb, capb, bins, les, caps, sizes⟩ := hp
  have capb0 := capb
  have caps0 := caps
  unfold Pl.val
  unfold maxLen at capb caps
  have b1 := bins.below ((Below.refl w.heap.size w).alloc (Nat.le_refl _) (.cells #[.slice p.ab p.nb p.cb, .slice p.sa p.ns p.cs] 25))
  cases h1 : inB p.nb 1 6
  · go_enter Try.func26, Try.ntmps26
    go_wp2_with (go_at_call 55; refine calls_to (Within_any _ _ _ _) ?_)
    go_ret
    exact ⟨by simp [planE, h1], (Below.refl _ _).alloc (Nat.le_refl _) _⟩
  cases h2 : inB p.ns 1 3
  · go_enter Try.func26, Try.ntmps26
    go_wp2_with (go_at_call 55; refine calls_to (Within_any _ _ _ _) ?_)
    go_ret
    exact ⟨by simp [planE, h2], (Below.refl _ _).alloc (Nat.le_refl _) _⟩
  go_enter Try.func26, Try.ntmps26
  go_wp2_with (go_at_call 55; refine calls_to (Within_any _ _ _ _) ?_)
  refine (anyBin 65 #[] (fun i => badBin (p.zb i)) _ _ _ _ leb capb0 p.zb b1 (enters_of Try.func65 (by kernel_rfl) rfl) (fun i w1 _ _ => by rw [Array.append_empty]; exact planCheck1_any _ _)).mono ?_
  rintro e w1 ⟨rfl, hB⟩
  obtain ⟨hc, hfz⟩ := bcell hB
  have hB0 : Below w.heap.size w w1 := ((Below.refl w.heap.size w).alloc (Nat.le_refl _) _).trans (hB.mono (by simp))
  have s1 := sizes.below hB0
  cases h3 : anyB p.nb (fun i => badBin (p.zb i))
  · go_wp2_with fail
    refine (anyI 66 #[] (fun i => badSize (p.zs i)) _ _ _ _ les caps0 p.zs s1 (enters_of Try.func66 (by kernel_rfl) rfl) (fun i w2 _ _ => by rw [Array.append_empty]; exact (planCheck2_any _ _).mono fun _ _ h => ⟨h.1, h.2 ▸ Below.refl _ _⟩)).mono ?_
    rintro e w2 ⟨rfl, hB2⟩
    have hB3 := hB0.trans (hB2.mono hB0.size)
    cases h4 : anyB p.ns (fun i => badSize (p.zs i))
    · go_wp2_with fail
      go_ret
      exact ⟨by simp [planE, h1, h2, h3, h4], hB3⟩
    · go_wp2_with fail
      go_ret
      exact ⟨by simp [planE, h1, h2, h4], hB3⟩
  · go_wp2_with fail
    go_ret
    exact ⟨by simp [planE, h1, h2, h3], hB0⟩

set_option maxHeartbeats 1000000 in
theorem refCheckPlan_any (p : Pl) (w : World) (hp : p.At w) :
    Calls Try.prog 118 #[p.val] w fun e w' => e = .returned (.int .i64 (planE p)) ∧ Below w.heap.size w w' := by
  obtain ⟨ab, nb, cb, zb, sa, ns, cs, zs⟩ := p
  obtain ⟨leb, capb, bins, les, caps, sizes⟩ := hp
  dsimp only at leb capb bins les caps sizes
  simp only [Pl.val]
  unfold maxLen at capb caps
  cases h1 : inB nb 1 6
  · go_enter Try.func118, Try.ntmps118
    go_wp2_with (go_at_call 48; refine calls_to (within_any _ _ _ _) ?_)
    go_ret
    exact ⟨by simp [planE, h1], (Below.refl _ _).alloc (Nat.le_refl _) _⟩
  cases h2 : inB ns 1 3
  · go_enter Try.func118, Try.ntmps118
    go_wp2_with (go_at_call 48; refine calls_to (within_any _ _ _ _) ?_)
    go_ret
    exact ⟨by simp [planE, h2], (Below.refl _ _).alloc (Nat.le_refl _) _⟩
  have H12 : Hid (inB nb 1 6 = true ∧ inB ns 1 3 = true) := ⟨h1, h2⟩
  go_enter Try.func118, Try.ntmps118
  go_wp2_with (go_at_call 48; refine calls_to (within_any _ _ _ _) ?_)
  clear h1 h2
  go_loopw [3] (fun i w1 => ∃ k : Nat, k ≤ nb ∧ i = .int .i64 k ∧ (∀ j, j < k → badBin (zb j) = false) ∧ Below (w.heap.size + 1) (w.alloc (.cells #[.slice ab nb cb, .slice sa ns cs] 25)) w1) (fun i _ => nb - (intOf i).toNat)
  case atStart => exact ⟨0, Nat.zero_le _, rfl, fun j hj => absurd hj (Nat.not_lt_zero _), Below.refl _ _⟩
  case round =>
    obtain ⟨k, hk, rfl, hno, hB⟩ := hrel
    have HN : Hid (∀ j, j < k → badBin (zb j) = false) := hno
    clear hno
    have hB' : Below w.heap.size w wr := ((Below.refl w.heap.size w).alloc (Nat.le_refl _) _).trans (hB.mono (by omega))
    have hs : w.heap.size + 1 ≤ wr.heap.size := by have := hB.size; simpa using this
    have c0 : wr.cell? ⟨w.heap.size, 0, none⟩ = some (.slice ab nb cb) := (hB.cell (p := ⟨w.heap.size, 0, none⟩) (by simp)).trans (by simp)
    have c1 : wr.cell? ⟨w.heap.size, 1, none⟩ = some (.slice sa ns cs) := (hB.cell (p := ⟨w.heap.size, 1, none⟩) (by simp)).trans (by simp)
    by_cases hlt : k < nb
    · obtain ⟨b, o, rfl, hb, z0, z1, z2, z3⟩ := (bins.below hB') k hlt
      have HB := badBin_eq (zb k)
      cases hbad : badBin (zb k)
      · rw [hbad] at HB
        have hh : inB (zb k).room 0 1000 = true ∧ inB (zb k).high 0 200 = true ∧ inB (zb k).low 0 (zb k).high = true := by simpa [and_assoc] using HB.symm
        obtain ⟨i1, i2, i3⟩ := hh
        clear HB
        go_wp2_with (go_at_call 48; refine calls_to (within_any _ _ _ _) ?_)
        go_roundw
        case rel =>
          refine ⟨k + 1, by omega, by go_num, ?_, hB.alloc (by simpa using hs) _⟩
          intro j hj
          by_cases hjk : j = k
          · rw [hjk, hbad]
          · exact HN.out j (by omega)
        case measure => simp [intOf]; omega
      · rw [hbad] at HB
        have h3 : Hid (anyB nb (fun i => badBin (zb i)) = true) := anyB_yes hlt hbad
        cases i1 : inB (zb k).room 0 1000
        · clear HB
          go_wp2_with (go_at_call 48; refine calls_to (within_any _ _ _ _) ?_)
          go_ret
          exact ⟨by simp [planE, H12.out.1, H12.out.2, h3.out], hB'.alloc (by omega) _⟩
        · cases i2 : inB (zb k).high 0 200
          · clear HB
            go_wp2_with (go_at_call 48; refine calls_to (within_any _ _ _ _) ?_)
            go_ret
            exact ⟨by simp [planE, H12.out.1, H12.out.2, h3.out], hB'.alloc (by omega) _⟩
          · have i3 : inB (zb k).low 0 (zb k).high = false := by simpa [i1, i2] using HB.symm
            clear HB
            go_wp2_with (go_at_call 48; refine calls_to (within_any _ _ _ _) ?_)
            go_ret
            exact ⟨by simp [planE, H12.out.1, H12.out.2, h3.out], hB'.alloc (by omega) _⟩
    · go_wp2_with fail
      have h3 : anyB nb (fun i => badBin (zb i)) = false := anyB_no fun j hj => HN.out j (by omega)
      have H3 : Hid (anyB nb (fun i => badBin (zb i)) = false) := h3
      clear h3 hlt HN bins
      go_loopw [5] (fun i w1 => ∃ k : Nat, k ≤ ns ∧ i = .int .i64 k ∧ (∀ j, j < k → badSize (zs j) = false) ∧ Below (w.heap.size + 1) (w.alloc (.cells #[.slice ab nb cb, .slice sa ns cs] 25)) w1) (fun i _ => ns - (intOf i).toNat)
      case atStart => exact ⟨0, Nat.zero_le _, rfl, fun j hj => absurd hj (Nat.not_lt_zero _), hB⟩
      case round =>
        clear hB hB' hs c0 c1
        obtain ⟨k, hk, rfl, hno, hB⟩ := hrel
        have HN : Hid (∀ j, j < k → badSize (zs j) = false) := hno
        clear hno
        have hB' : Below w.heap.size w wr := ((Below.refl w.heap.size w).alloc (Nat.le_refl _) _).trans (hB.mono (by omega))
        have c1 : wr.cell? ⟨w.heap.size, 1, none⟩ = some (.slice sa ns cs) := (hB.cell (p := ⟨w.heap.size, 1, none⟩) (by simp)).trans (by simp)
        by_cases hlt : k < ns
        · obtain ⟨b, o, rfl, hb, z0⟩ := (sizes.below hB') k hlt
          cases i1 : inB (zs k) 1 9
          · have h4 : Hid (anyB ns (fun i => badSize (zs i)) = true) := anyB_yes hlt (by simp [badSize, i1])
            go_wp2_with (go_at_call 48; refine calls_to (within_any _ _ _ _) ?_)
            go_ret
            exact ⟨by simp [planE, H12.out.1, H12.out.2, h4.out], hB'⟩
          · have hbad : Hid (badSize (zs k) = false) := by show badSize (zs k) = false; simp [badSize, i1]
            go_wp2_with (go_at_call 48; refine calls_to (within_any _ _ _ _) ?_)
            go_roundw
            case rel =>
              refine ⟨k + 1, by omega, by go_num, ?_, hB⟩
              intro j hj
              by_cases hjk : j = k
              · rw [hjk, hbad.out]
              · exact HN.out j (by omega)
            case measure => simp [intOf]; omega
        · go_wp2_with fail
          go_ret
          have h4 : anyB ns (fun i => badSize (zs i)) = false := anyB_no fun j hj => HN.out j (by omega)
          exact ⟨by simp [planE, H12.out.1, H12.out.2, H3.out, h4], hB'⟩

end Go.Proofs.Ytjiodlbblmbibac
/- The walks of the checks of shelves. -/
namespace Go.Proofs.Ytjiodlbblmbibac
open Go.RowKit Go.Shelf
set_option linter.unusedVariables false

set_option maxHeartbeats 400000 in
theorem shelfCheck1_any (x : Int) (w : World) :
    Calls Try.prog 69 #[.int .i64 x] w fun e w' => e = .returned (.bool (badNum x)) ∧ w' = w := by
  unfold badNum
  go_enter Try.func69, Try.ntmps69
  go_wp2_with (go_at_call 55; refine calls_to (Within_any _ _ _ _) ?_)
  all_goals go_ret
  all_goals exact ⟨rfl, rfl⟩

set_option maxHeartbeats 400000 in
theorem shelfCheck2_any (B B2 : Nat) (p : Pl) (r : Rw) (w : World) (hr : r.At w) (les : p.ns ≤ p.cs) (caps : p.cs ≤ maxLen)
    (c1 : w.cell? ⟨B, 1, none⟩ = some (.slice p.sa p.ns p.cs)) (c2 : w.cell? ⟨B2, 0, none⟩ = some (.func (.func 69) #[] #[])) :
    Calls Try.prog 70 #[.slice r.a r.n r.c, .pointer (some ⟨B, 0, none⟩), .pointer (some ⟨B2, 0, none⟩)] w fun e w' => e = .returned (.bool (badRow p r)) ∧ Below w.heap.size w w' := by
  obtain ⟨rle, rcap, ints⟩ := hr
  have rcap0 := rcap
  unfold maxLen at rcap caps
  cases h1 : ((r.n : Int) != (p.ns : Int))
  · go_enter Try.func70, Try.ntmps70
    go_wp2_with fail
    refine (anyI 69 #[] (fun i => badNum (r.z i)) _ _ _ _ rle rcap0 r.z ints (enters_of Try.func69 (by kernel_rfl) rfl) (fun i w1 _ _ => by rw [Array.append_empty]; exact (shelfCheck1_any _ _).mono fun _ _ h => ⟨h.1, h.2 ▸ Below.refl _ _⟩)).mono ?_
    rintro e w1 ⟨rfl, hB⟩
    go_wp2_with fail
    go_ret
    exact ⟨by simp [badRow, h1], hB⟩
  · go_enter Try.func70, Try.ntmps70
    go_wp2_with fail
    go_ret
    exact ⟨by simp [badRow, h1], Below.refl _ _⟩

set_option maxHeartbeats 400000 in
theorem shelfCheck_any (p : Pl) (s : Sh) (w : World) (hp : p.At w) (hs : s.At w) :
    Calls Try.prog 33 #[p.val, s.val] w fun e w' => e = .returned (.int .i64 (shelfE p s)) ∧ Below w.heap.size w w' := by
  obtain ⟨sle, scap, rows⟩ := hs
  have scap0 := scap
  unfold maxLen at scap
  have leb := hp.leb
  have capb := hp.capb
  unfold maxLen at capb
  have hB0 : Below w.heap.size w (w.alloc (.cells #[.slice p.ab p.nb p.cb, .slice p.sa p.ns p.cs] 25)) := (Below.refl w.heap.size w).alloc (Nat.le_refl _) _
  simp only [Pl.val, Sh.val]
  go_enter Try.func33, Try.ntmps33
  go_wp2_with fail
  refine (planCheck_any p _ (hp.below hB0)).mono ?_
  rintro e w1 ⟨rfl, hB⟩
  have hBw := hB0.trans (hB.mono (by simp))
  have hsz : w.heap.size < w1.heap.size := by have := hB.size; simp at this; omega
  have c0 : w1.cell? ⟨w.heap.size, 0, none⟩ = some (.slice p.ab p.nb p.cb) := (hB.cell (p := ⟨w.heap.size, 0, none⟩) (by simp)).trans (by simp)
  have c1 : w1.cell? ⟨w.heap.size, 1, none⟩ = some (.slice p.sa p.ns p.cs) := (hB.cell (p := ⟨w.heap.size, 1, none⟩) (by simp)).trans (by simp)
  by_cases h0 : planE p = 0
  · cases h1 : ((s.n : Int) != (p.nb : Int))
    · go_wp2_with fail
      have hBa := hBw.alloc (by omega) (.cells #[Value.func (Fn.func 69) #[] #[]] 78)
      have hrow := rows.below hBa
      refine (anyR 70 #[.pointer (some ⟨w.heap.size, 0, none⟩), .pointer (some ⟨w1.heap.size, 0, none⟩)] (fun i => badRow p (s.r i)) _ _ _ _ sle scap0 s.r hrow (enters_of Try.func70 (by kernel_rfl) rfl) ?_).mono ?_
      · intro i w2 hi hB2
        obtain ⟨_, _, _, _, _, hat⟩ := (hrow.below hB2) i hi
        have d1 : w2.cell? ⟨w.heap.size, 1, none⟩ = some (.slice p.sa p.ns p.cs) := (hB2.cell (p := ⟨w.heap.size, 1, none⟩) (by simp; omega)).trans (by simp [World.cell?_alloc_past, hsz, c1])
        have d2 : w2.cell? ⟨w1.heap.size, 0, none⟩ = some (.func (.func 69) #[] #[]) := (hB2.cell (p := ⟨w1.heap.size, 0, none⟩) (by simp)).trans (by simp)
        exact shelfCheck2_any _ _ p (s.r i) w2 hat hp.les hp.caps d1 d2
      rintro e w2 ⟨rfl, hB2⟩
      have hBz := hBa.trans (hB2.mono (by simp; omega))
      cases h2 : anyB s.n (fun i => badRow p (s.r i))
      · go_wp2_with fail
        go_ret
        exact ⟨by simp [shelfE, h0, h1, h2], hBz⟩
      · go_wp2_with fail
        go_ret
        exact ⟨by simp [shelfE, h0, h2], hBz⟩
    · go_wp2_with fail
      go_ret
      exact ⟨by simp [shelfE, h0, h1], hBw.alloc (by omega) _⟩
  · go_wp2_with fail
    go_ret
    exact ⟨by simp [shelfE, h0], hBw⟩

end Go.Proofs.Ytjiodlbblmbibac
/- The document's own CheckShelf. -/
namespace Go.Proofs.Ytjiodlbblmbibac
open Go.RowKit Go.Shelf
set_option linter.unusedVariables false

set_option maxHeartbeats 1000000 in
theorem refCheckShelf_any (p : Pl) (s : Sh) (w : World) (hp : p.At w) (hs : s.At w) :
    Calls Try.prog 97 #[p.val, s.val] w fun e w' => e = .returned (.int .i64 (shelfE p s)) ∧ Below w.heap.size w w' := by
  obtain ⟨sa, sn, sc, sr⟩ := s
  obtain ⟨sle, scap, rows⟩ := hs
  dsimp only at sle scap rows
  unfold maxLen at scap
  have leb := hp.leb
  have capb := hp.capb
  have les := hp.les
  have caps := hp.caps
  unfold maxLen at capb caps
  have hB0 : Below w.heap.size w (w.alloc (.cells #[.slice p.ab p.nb p.cb, .slice p.sa p.ns p.cs] 25)) := (Below.refl w.heap.size w).alloc (Nat.le_refl _) _
  simp only [Pl.val, Sh.val]
  go_enter Try.func97, Try.ntmps97
  go_wp2_with fail
  refine (refCheckPlan_any p _ (hp.below hB0)).mono ?_
  rintro e w1 ⟨rfl, hB⟩
  have hBw := hB0.trans (hB.mono (by simp))
  have hsz : w.heap.size < w1.heap.size := by have := hB.size; simp at this; omega
  have c0 : w1.cell? ⟨w.heap.size, 0, none⟩ = some (.slice p.ab p.nb p.cb) := (hB.cell (p := ⟨w.heap.size, 0, none⟩) (by simp)).trans (by simp)
  have c1 : w1.cell? ⟨w.heap.size, 1, none⟩ = some (.slice p.sa p.ns p.cs) := (hB.cell (p := ⟨w.heap.size, 1, none⟩) (by simp)).trans (by simp)
  have rows1 := rows.below hBw
  clear hB hB0 rows hp
  by_cases h0 : planE p = 0
  · cases h1 : ((sn : Int) != (p.nb : Int))
    · have H01 : Hid (planE p = 0 ∧ ((sn : Int) != (p.nb : Int)) = false) := ⟨h0, h1⟩
      go_wp2_with fail
      clear h0 h1
      go_loopw [6] (fun i wk => ∃ k : Nat, k ≤ sn ∧ i = .int .i64 k ∧ (∀ j, j < k → badRow p (sr j) = false) ∧ Below w1.heap.size w1 wk) (fun i _ => sn - (intOf i).toNat)
      case atStart => exact ⟨0, Nat.zero_le _, rfl, fun j hj => absurd hj (Nat.not_lt_zero _), Below.refl _ _⟩
      case round =>
        obtain ⟨k, hk, rfl, hno, hB1⟩ := hrel
        have HN : Hid (∀ j, j < k → badRow p (sr j) = false) := hno
        have d1 : wr.cell? ⟨w.heap.size, 1, none⟩ = some (.slice p.sa p.ns p.cs) := (hB1.cell (p := ⟨w.heap.size, 1, none⟩) hsz).trans c1
        clear hno
        by_cases hlt : k < sn
        · obtain ⟨b, o, rfl, hb, z0, hat⟩ := rows1 k hlt
          obtain ⟨rle, rcap, ints⟩ := hat
          unfold maxLen at rcap
          obtain ⟨R, hR⟩ : ∃ R, R = sr k := ⟨_, rfl⟩
          rw [← hR] at z0 rle rcap ints
          have HR : Hid (R = sr k) := hR
          obtain ⟨ra, rn, rc, rz⟩ := R
          dsimp only at z0 rle rcap ints
          have z1 := (hB1.cell (p := ⟨b, o + k, none⟩) hb).trans z0
          have Z0 : Hid (w1.cell? ⟨b, o + k, none⟩ = some (.slice ra rn rc)) := z0
          clear z0 hR
          cases h2 : ((rn : Int) != (p.ns : Int))
          · have H2 : Hid (((rn : Int) != (p.ns : Int)) = false) := h2
            go_wp2_with fail
            go_quiet (fail)
            go_wp2_with fail
            have hB2 := below_drewN hB1 nq
            clear h2
            go_loopw [7] (fun i wk => ∃ g : Nat, g ≤ rn ∧ i = .int .i64 g ∧ (∀ j, j < g → badNum (rz j) = false) ∧ Below w1.heap.size w1 wk) (fun i _ => rn - (intOf i).toNat)
            case atStart => exact ⟨0, Nat.zero_le _, rfl, fun j hj => absurd hj (Nat.not_lt_zero _), hB2⟩
            case round =>
              clear hB1 hB2 z1 d1
              obtain ⟨g, hg, rfl, hno, hB1⟩ := hrel
              have HM : Hid (∀ j, j < g → badNum (rz j) = false) := hno
              clear hno
              have z2 := (hB1.cell (p := ⟨b, o + k, none⟩) hb).trans Z0.out
              by_cases hgt : g < rn
              · obtain ⟨b', o', rfl, hb', y0⟩ := ints g hgt
                have y1 := (hB1.cell (p := ⟨b', o' + g, none⟩) hb').trans y0
                clear y0
                cases i1 : inB (rz g) 0 200
                · have hh : Hid (badNum (rz g) = true) := by show badNum (rz g) = true; simp [badNum, i1]
                  go_wp2_with (go_at_call 48; refine calls_to (within_any _ _ _ _) ?_)
                  go_ret
                  have h3 : anyB sn (fun i => badRow p (sr i)) = true := anyB_yes hlt (by rw [← HR.out]; simp [badRow, anyB_yes (bad := fun i => badNum (rz i)) hgt hh.out])
                  exact ⟨by simp [shelfE, H01.out.1, H01.out.2, h3], hBw.trans (hB1.mono hBw.size)⟩
                · have hh : Hid (badNum (rz g) = false) := by show badNum (rz g) = false; simp [badNum, i1]
                  go_wp2_with (go_at_call 48; refine calls_to (within_any _ _ _ _) ?_)
                  go_roundw
                  case rel =>
                    refine ⟨g + 1, by omega, by go_num, ?_, hB1⟩
                    intro j hj
                    by_cases hjk : j = g
                    · rw [hjk, hh.out]
                    · exact HM.out j (by omega)
                  case measure => simp [intOf]; omega
              · have hh : Hid (badRow p (sr k) = false) := by
                  show badRow p (sr k) = false
                  rw [← HR.out]
                  simp [badRow, H2.out, anyB_no (n := rn) (bad := fun i => badNum (rz i)) fun j hj => HM.out j (by omega)]
                go_wp2_with fail
                go_roundw
                case rel =>
                  refine ⟨k + 1, by omega, by go_num, ?_, hB1⟩
                  intro j hj
                  by_cases hjk : j = k
                  · rw [hjk, hh.out]
                  · exact HN.out j (by omega)
                case measure => simp [intOf]; omega
          · go_wp2_with fail
            go_quiet (fail)
            go_wp2_with fail
            go_ret
            have h3 : anyB sn (fun i => badRow p (sr i)) = true := anyB_yes hlt (by rw [← HR.out]; simp [badRow, h2])
            exact ⟨by simp [shelfE, H01.out.1, H01.out.2, h3], below_drewN (hBw.trans (hB1.mono hBw.size)) _⟩
        · go_wp2_with fail
          go_ret
          have h3 : anyB sn (fun i => badRow p (sr i)) = false := anyB_no fun j hj => HN.out j (by omega)
          exact ⟨by simp [shelfE, H01.out.1, H01.out.2, h3], hBw.trans (hB1.mono hBw.size)⟩
    · go_wp2_with fail
      go_ret
      exact ⟨by simp [shelfE, h0, h1], hBw⟩
  · go_wp2_with fail
    go_ret
    exact ⟨by simp [shelfE, h0], hBw⟩

end Go.Proofs.Ytjiodlbblmbibac

/- The walks of the checks of plans and shelves. -/
import Derived.Test.YtjiodlbblmbibacW1
import Derived.Shelf.Abstract
namespace Go.Proofs.Ytjiodlbblmbibac
open Go.RowKit Go.Shelf
set_option linter.unusedVariables false

theorem bcell {W w1 : World} (hb : Below W.heap.size W w1) : (∀ b o, b < W.heap.size → w1.cell? ⟨b, o, none⟩ = W.cell? ⟨b, o, none⟩) ∧ (∀ b o, b < W.heap.size → w1.frozen? ⟨b, o, none⟩ = W.frozen? ⟨b, o, none⟩) :=
  ⟨fun b o h => hb.cell (p := ⟨b, o, none⟩) h, fun b o h => hb.frozen (p := ⟨b, o, none⟩) h⟩

set_option maxHeartbeats 400000 in
theorem planCheck_any (p : Pl) (w : World) (hp : p.At w) :
    Calls Try.prog 26 #[p.val] w fun e w' => e = .returned (.int .i64 (planE p)) ∧ Below w.heap.size w w' := by
  obtain ⟨leb, capb, bins, les, caps, sizes⟩ := hp
  have capb0 := capb
  have caps0 := caps
  unfold Pl.val
  unfold maxLen at capb caps
  have b1 := bins.below ((Below.refl w.heap.size w).alloc (Nat.le_refl _) (.cells #[.slice p.ab p.nb p.cb, .slice p.sa p.ns p.cs] 25))
  cases h1 : inB p.nb 1 6
  · go_enter Try.func26, Try.ntmps26
    go_wp2_with (go_at_call 55; refine calls_to (Within_any _ _ _ _) ?_)
    go_ret
    exact ⟨by simp [planE, h1], (Below.refl _ _).alloc (Nat.le_refl _) _⟩
  cases h2 : inB p.ns 1 3
  · go_enter Try.func26, Try.ntmps26
    go_wp2_with (go_at_call 55; refine calls_to (Within_any _ _ _ _) ?_)
    go_ret
    exact ⟨by simp [planE, h2], (Below.refl _ _).alloc (Nat.le_refl _) _⟩
  go_enter Try.func26, Try.ntmps26
  go_wp2_with (go_at_call 55; refine calls_to (Within_any _ _ _ _) ?_)
  refine (anyBin 65 #[] (fun i => badBin (p.zb i)) _ _ _ _ leb capb0 p.zb b1 (enters_of Try.func65 (by kernel_rfl) rfl) (fun i w1 _ _ => by rw [Array.append_empty]; exact planCheck1_any _ _)).mono ?_
  rintro e w1 ⟨rfl, hB⟩
  obtain ⟨hc, hfz⟩ := bcell hB
  have hB0 : Below w.heap.size w w1 := ((Below.refl w.heap.size w).alloc (Nat.le_refl _) _).trans (hB.mono (by simp))
  have s1 := sizes.below hB0
  cases h3 : anyB p.nb (fun i => badBin (p.zb i))
  · go_wp2_with fail
    refine (anyI 66 #[] (fun i => badSize (p.zs i)) _ _ _ _ les caps0 p.zs s1 (enters_of Try.func66 (by kernel_rfl) rfl) (fun i w2 _ _ => by rw [Array.append_empty]; exact (planCheck2_any _ _).mono fun _ _ h => ⟨h.1, h.2 ▸ Below.refl _ _⟩)).mono ?_
    rintro e w2 ⟨rfl, hB2⟩
    have hB3 := hB0.trans (hB2.mono hB0.size)
    cases h4 : anyB p.ns (fun i => badSize (p.zs i))
    · go_wp2_with fail
      go_ret
      exact ⟨by simp [planE, h1, h2, h3, h4], hB3⟩
    · go_wp2_with fail
      go_ret
      exact ⟨by simp [planE, h1, h2, h4], hB3⟩
  · go_wp2_with fail
    go_ret
    exact ⟨by simp [planE, h1, h2, h3], hB0⟩

set_option maxHeartbeats 1000000 in
theorem refCheckPlan_any (p : Pl) (w : World) (hp : p.At w) :
    Calls Try.prog 118 #[p.val] w fun e w' => e = .returned (.int .i64 (planE p)) ∧ Below w.heap.size w w' := by
  obtain ⟨ab, nb, cb, zb, sa, ns, cs, zs⟩ := p
  obtain ⟨leb, capb, bins, les, caps, sizes⟩ := hp
  dsimp only at leb capb bins les caps sizes
  simp only [Pl.val]
  unfold maxLen at capb caps
  cases h1 : inB nb 1 6
  · go_enter Try.func118, Try.ntmps118
    go_wp2_with (go_at_call 48; refine calls_to (within_any _ _ _ _) ?_)
    go_ret
    exact ⟨by simp [planE, h1], (Below.refl _ _).alloc (Nat.le_refl _) _⟩
  cases h2 : inB ns 1 3
  · go_enter Try.func118, Try.ntmps118
    go_wp2_with (go_at_call 48; refine calls_to (within_any _ _ _ _) ?_)
    go_ret
    exact ⟨by simp [planE, h2], (Below.refl _ _).alloc (Nat.le_refl _) _⟩
  have H12 : Hid (inB nb 1 6 = true ∧ inB ns 1 3 = true) := ⟨h1, h2⟩
  go_enter Try.func118, Try.ntmps118
  go_wp2_with (go_at_call 48; refine calls_to (within_any _ _ _ _) ?_)
  clear h1 h2
  go_loopw [3] (fun i w1 => ∃ k : Nat, k ≤ nb ∧ i = .int .i64 k ∧ (∀ j, j < k → badBin (zb j) = false) ∧ Below (w.heap.size + 1) (w.alloc (.cells #[.slice ab nb cb, .slice sa ns cs] 25)) w1) (fun i _ => nb - (intOf i).toNat)
  case atStart => exact ⟨0, Nat.zero_le _, rfl, fun j hj => absurd hj (Nat.not_lt_zero _), Below.refl _ _⟩
  case round =>
    obtain ⟨k, hk, rfl, hno, hB⟩ := hrel
    have HN : Hid (∀ j, j < k → badBin (zb j) = false) := hno
    clear hno
    have hB' : Below w.heap.size w wr := ((Below.refl w.heap.size w).alloc (Nat.le_refl _) _).trans (hB.mono (by omega))
    have hs : w.heap.size + 1 ≤ wr.heap.size := by have := hB.size; simpa using this
    have c0 : wr.cell? ⟨w.heap.size, 0, none⟩ = some (.slice ab nb cb) := (hB.cell (p := ⟨w.heap.size, 0, none⟩) (by simp)).trans (by simp)
    have c1 : wr.cell? ⟨w.heap.size, 1, none⟩ = some (.slice sa ns cs) := (hB.cell (p := ⟨w.heap.size, 1, none⟩) (by simp)).trans (by simp)
    by_cases hlt : k < nb
    · obtain ⟨b, o, rfl, hb, z0, z1, z2, z3⟩ := (bins.below hB') k hlt
      have HB := badBin_eq (zb k)
      cases hbad : badBin (zb k)
      · rw [hbad] at HB
        have hh : inB (zb k).room 0 1000 = true ∧ inB (zb k).high 0 200 = true ∧ inB (zb k).low 0 (zb k).high = true := by simpa [and_assoc] using HB.symm
        obtain ⟨i1, i2, i3⟩ := hh
        clear HB
        go_wp2_with (go_at_call 48; refine calls_to (within_any _ _ _ _) ?_)
        go_roundw
        case rel =>
          refine ⟨k + 1, by omega, by go_num, ?_, hB.alloc (by simpa using hs) _⟩
          intro j hj
          by_cases hjk : j = k
          · rw [hjk, hbad]
          · exact HN.out j (by omega)
        case measure => simp [intOf]; omega
      · rw [hbad] at HB
        have h3 : Hid (anyB nb (fun i => badBin (zb i)) = true) := anyB_yes hlt hbad
        cases i1 : inB (zb k).room 0 1000
        · clear HB
          go_wp2_with (go_at_call 48; refine calls_to (within_any _ _ _ _) ?_)
          go_ret
          exact ⟨by simp [planE, H12.out.1, H12.out.2, h3.out], hB'.alloc (by omega) _⟩
        · cases i2 : inB (zb k).high 0 200
          · clear HB
            go_wp2_with (go_at_call 48; refine calls_to (within_any _ _ _ _) ?_)
            go_ret
            exact ⟨by simp [planE, H12.out.1, H12.out.2, h3.out], hB'.alloc (by omega) _⟩
          · have i3 : inB (zb k).low 0 (zb k).high = false := by simpa [i1, i2] using HB.symm
            clear HB
            go_wp2_with (go_at_call 48; refine calls_to (within_any _ _ _ _) ?_)
            go_ret
            exact ⟨by simp [planE, H12.out.1, H12.out.2, h3.out], hB'.alloc (by omega) _⟩
    · go_wp2_with fail
      have h3 : anyB nb (fun i => badBin (zb i)) = false := anyB_no fun j hj => HN.out j (by omega)
      have H3 : Hid (anyB nb (fun i => badBin (zb i)) = false) := h3
      clear h3 hlt HN bins
      go_loopw [5] (fun i w1 => ∃ k : Nat, k ≤ ns ∧ i = .int .i64 k ∧ (∀ j, j < k → badSize (zs j) = false) ∧ Below (w.heap.size + 1) (w.alloc (.cells #[.slice ab nb cb, .slice sa ns cs] 25)) w1) (fun i _ => ns - (intOf i).toNat)
      case atStart => exact ⟨0, Nat.zero_le _, rfl, fun j hj => absurd hj (Nat.not_lt_zero _), hB⟩
      case round =>
        clear hB hB' hs c0 c1
        obtain ⟨k, hk, rfl, hno, hB⟩ := hrel
        have HN : Hid (∀ j, j < k → badSize (zs j) = false) := hno
        clear hno
        have hB' : Below w.heap.size w wr := ((Below.refl w.heap.size w).alloc (Nat.le_refl _) _).trans (hB.mono (by omega))
        have c1 : wr.cell? ⟨w.heap.size, 1, none⟩ = some (.slice sa ns cs) := (hB.cell (p := ⟨w.heap.size, 1, none⟩) (by simp)).trans (by simp)
        by_cases hlt : k < ns
        · obtain ⟨b, o, rfl, hb, z0⟩ := (sizes.below hB') k hlt
          cases i1 : inB (zs k) 1 9
          · have h4 : Hid (anyB ns (fun i => badSize (zs i)) = true) := anyB_yes hlt (by simp [badSize, i1])
            go_wp2_with (go_at_call 48; refine calls_to (within_any _ _ _ _) ?_)
            go_ret
            exact ⟨by simp [planE, H12.out.1, H12.out.2, h4.out], hB'⟩
          · have hbad : Hid (badSize (zs k) = false) := by show badSize (zs k) = false; simp [badSize, i1]
            go_wp2_with (go_at_call 48; refine calls_to (within_any _ _ _ _) ?_)
            go_roundw
            case rel =>
              refine ⟨k + 1, by omega, by go_num, ?_, hB⟩
              intro j hj
              by_cases hjk : j = k
              · rw [hjk, hbad.out]
              · exact HN.out j (by omega)
            case measure => simp [intOf]; omega
        · go_wp2_with fail
          go_ret
          have h4 : anyB ns (fun i => badSize (zs i)) = false := anyB_no fun j hj => HN.out j (by omega)
          exact ⟨by simp [planE, H12.out.1, H12.out.2, H3.out, h4], hB'⟩

end Go.Proofs.Ytjiodlbblmbibac

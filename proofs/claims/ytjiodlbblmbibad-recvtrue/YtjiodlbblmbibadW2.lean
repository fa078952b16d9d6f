/- The walks of the checks of plans and shelves. -/
import Derived.Test.YtjiodlbblmbibadW1
import Derived.Shelf.Abstract
namespace Go.Proofs.Ytjiodlbblmbibad
open Go.RowKit Go.Shelf
set_option linter.unusedVariables false

theorem bcell {W w1 : World} (hb : Below W.heap.size W w1) : (∀ b o, b < W.heap.size → w1.cell? ⟨b, o, none⟩ = W.cell? ⟨b, o, none⟩) ∧ (∀ b o, b < W.heap.size → w1.frozen? ⟨b, o, none⟩ = W.frozen? ⟨b, o, none⟩) :=
  ⟨fun b o h => hb.cell (p := ⟨b, o, none⟩) h, fun b o h => hb.frozen (p := ⟨b, o, none⟩) h⟩

set_option maxHeartbeats 400000 in
theorem planCheck_any (p : Pl) (w : World) (hp : p.At w) :
    Calls Try.prog 58 #[p.val] w fun e w' => e = .returned (.int .i64 (planE p)) ∧ Below w.heap.size w w' := by
  obtain ⟨leb, capb, bins, les, caps, sizes⟩ := hp
  have capb0 := capb
  have caps0 := caps
  unfold Pl.val
  unfold maxLen at capb caps
  have b1 := bins.below ((Below.refl w.heap.size w).alloc (Nat.le_refl _) (.cells #[.slice p.ab p.nb p.cb, .slice p.sa p.ns p.cs] 25))
  cases h1 : inB p.nb 1 6
  · go_enter Try.func58, Try.ntmps58
    go_wp2_with (go_at_call 23; refine calls_to (Within_any _ _ _ _) ?_)
    go_ret
    exact ⟨by simp [planE, h1], (Below.refl _ _).alloc (Nat.le_refl _) _⟩
  cases h2 : inB p.ns 1 3
  · go_enter Try.func58, Try.ntmps58
    go_wp2_with (go_at_call 23; refine calls_to (Within_any _ _ _ _) ?_)
    go_ret
    exact ⟨by simp [planE, h2], (Below.refl _ _).alloc (Nat.le_refl _) _⟩
  go_enter Try.func58, Try.ntmps58
  go_wp2_with (go_at_call 23; refine calls_to (Within_any _ _ _ _) ?_)
  refine (anyBin 90 #[] (fun i => badBin (p.zb i)) _ _ _ _ leb capb0 p.zb b1 (enters_of Try.func90 (by kernel_rfl) rfl) (fun i w1 _ _ => by rw [Array.append_empty]; exact planCheck1_any _ _)).mono ?_
  rintro e w1 ⟨rfl, hB⟩
  obtain ⟨hc, hfz⟩ := bcell hB
  have hB0 : Below w.heap.size w w1 := ((Below.refl w.heap.size w).alloc (Nat.le_refl _) _).trans (hB.mono (by simp))
  have s1 := sizes.below hB0
  cases h3 : anyB p.nb (fun i => badBin (p.zb i))
  · go_wp2_with fail
    refine (anyI 91 #[] (fun i => badSize (p.zs i)) _ _ _ _ les caps0 p.zs s1 (enters_of Try.func91 (by kernel_rfl) rfl) (fun i w2 _ _ => by rw [Array.append_empty]; exact (planCheck2_any _ _).mono fun _ _ h => ⟨h.1, h.2 ▸ Below.refl _ _⟩)).mono ?_
    rintro e w2 ⟨rfl, hB2⟩
    have hB3 := hB0.trans (hB2.mono hB0.size)
    cases h4 : anyB p.ns (fun i => badSize (p.zs i))
    · go_wp2_with fail
      go_ret
      exact ⟨by simp [planE, h1, h2, h3, h4], hB3⟩
    · go_wp2_with fail
      go_ret
      exact ⟨by simp [planE, h1, h2, h4], hB3⟩
  · go_wp2_with fail
    go_ret
    exact ⟨by simp [planE, h1, h2, h3], hB0⟩

end Go.Proofs.Ytjiodlbblmbibad

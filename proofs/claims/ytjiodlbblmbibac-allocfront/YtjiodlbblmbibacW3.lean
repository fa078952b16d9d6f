/- The walks of the checks of shelves. -/
import Derived.Test.YtjiodlbblmbibacW2
namespace Go.Proofs.Ytjiodlbblmbibac
open Go.RowKit Go.Shelf
set_option linter.unusedVariables false

set_option maxHeartbeats 400000 in
theorem shelfCheck1_any (x : Int) (w : World) :
    Calls Try.prog 69 #[.int .i64 x] w fun e w' => e = .returned (.bool (badNum x)) ∧ w' = w := by
  unfold badNum
  go_enter Try.func69, Try.ntmps69
  go_wp2_with (go_at_call 55; refine calls_to (Within_any _ _ _ _) ?_)
  all_goals go_ret
  all_goals exact ⟨rfl, rfl⟩

set_option maxHeartbeats 400000 in
theorem shelfCheck2_any (B B2 : Nat) (p : Pl) (r : Rw) (w : World) (hr : r.At w) (les : p.ns ≤ p.cs) (caps : p.cs ≤ maxLen)
    (c1 : w.cell? ⟨B, 1, none⟩ = some (.slice p.sa p.ns p.cs)) (c2 : w.cell? ⟨B2, 0, none⟩ = some (.func (.func 69) #[] #[])) :
    Calls Try.prog 70 #[.slice r.a r.n r.c, .pointer (some ⟨B, 0, none⟩), .pointer (some ⟨B2, 0, none⟩)] w fun e w' => e = .returned (.bool (badRow p r)) ∧ Below w.heap.size w w' := by
  obtain ⟨rle, rcap, ints⟩ := hr
  have rcap0 := rcap
  unfold maxLen at rcap caps
  cases h1 : ((r.n : Int) != (p.ns : Int))
  · go_enter Try.func70, Try.ntmps70
    go_wp2_with fail
    refine (anyI 69 #[] (fun i => badNum (r.z i)) _ _ _ _ rle rcap0 r.z ints (enters_of Try.func69 (by kernel_rfl) rfl) (fun i w1 _ _ => by rw [Array.append_empty]; exact (shelfCheck1_any _ _).mono fun _ _ h => ⟨h.1, h.2 ▸ Below.refl _ _⟩)).mono ?_
    rintro e w1 ⟨rfl, hB⟩
    go_wp2_with fail
    go_ret
    exact ⟨by simp [badRow, h1], hB⟩
  · go_enter Try.func70, Try.ntmps70
    go_wp2_with fail
    go_ret
    exact ⟨by simp [badRow, h1], Below.refl _ _⟩

set_option maxHeartbeats 400000 in
theorem shelfCheck_any (p : Pl) (s : Sh) (w : World) (hp : p.At w) (hs : s.At w) :
    Calls Try.prog 33 #[p.val, s.val] w fun e w' => e = .returned (.int .i64 (shelfE p s)) ∧ Below w.heap.size w w' := by
  obtain ⟨sle, scap, rows⟩ := hs
  have scap0 := scap
  unfold maxLen at scap
  have leb := hp.leb
  have capb := hp.capb
  unfold maxLen at capb
  have hB0 : Below w.heap.size w (w.alloc (.cells #[.slice p.ab p.nb p.cb, .slice p.sa p.ns p.cs] 25)) := (Below.refl w.heap.size w).alloc (Nat.le_refl _) _
  simp only [Pl.val, Sh.val]
  go_enter Try.func33, Try.ntmps33
  go_wp2_with fail
  refine (planCheck_any p _ (hp.below hB0)).mono ?_
  rintro e w1 ⟨rfl, hB⟩
  have hBw := hB0.trans (hB.mono (by simp))
  have hsz : w.heap.size < w1.heap.size := by have := hB.size; simp at this; omega
  have c0 : w1.cell? ⟨w.heap.size, 0, none⟩ = some (.slice p.ab p.nb p.cb) := (hB.cell (p := ⟨w.heap.size, 0, none⟩) (by simp)).trans (by simp)
  have c1 : w1.cell? ⟨w.heap.size, 1, none⟩ = some (.slice p.sa p.ns p.cs) := (hB.cell (p := ⟨w.heap.size, 1, none⟩) (by simp)).trans (by simp)
  by_cases h0 : planE p = 0
  · cases h1 : ((s.n : Int) != (p.nb : Int))
    · go_wp2_with fail
      have hBa := hBw.alloc (by omega) (.cells #[Value.func (Fn.func 69) #[] #[]] 78)
      have hrow := rows.below hBa
      refine (anyR 70 #[.pointer (some ⟨w.heap.size, 0, none⟩), .pointer (some ⟨w1.heap.size, 0, none⟩)] (fun i => badRow p (s.r i)) _ _ _ _ sle scap0 s.r hrow (enters_of Try.func70 (by kernel_rfl) rfl) ?_).mono ?_
      · intro i w2 hi hB2
        obtain ⟨_, _, _, _, _, hat⟩ := (hrow.below hB2) i hi
        have d1 : w2.cell? ⟨w.heap.size, 1, none⟩ = some (.slice p.sa p.ns p.cs) := (hB2.cell (p := ⟨w.heap.size, 1, none⟩) (by simp; omega)).trans (by simp [World.cell?_alloc_past, hsz, c1])
        have d2 : w2.cell? ⟨w1.heap.size, 0, none⟩ = some (.func (.func 69) #[] #[]) := (hB2.cell (p := ⟨w1.heap.size, 0, none⟩) (by simp)).trans (by simp)
        exact shelfCheck2_any _ _ p (s.r i) w2 hat hp.les hp.caps d1 d2
      rintro e w2 ⟨rfl, hB2⟩
      have hBz := hBa.trans (hB2.mono (by simp; omega))
      cases h2 : anyB s.n (fun i => badRow p (s.r i))
      · go_wp2_with fail
        go_ret
        exact ⟨by simp [shelfE, h0, h1, h2], hBz⟩
      · go_wp2_with fail
        go_ret
        exact ⟨by simp [shelfE, h0, h2], hBz⟩
    · go_wp2_with fail
      go_ret
      exact ⟨by simp [shelfE, h0, h1], hBw.alloc (by omega) _⟩
  · go_wp2_with fail
    go_ret
    exact ⟨by simp [shelfE, h0], hBw⟩

end Go.Proofs.Ytjiodlbblmbibac

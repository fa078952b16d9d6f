/- What Check of a state asks part by part: badHolds, lacks, wrongLine, avail. -/
import Derived.Test.YtjiodlbblmbibacSW4
namespace Go.Proofs.Ytjiodlbblmbibac
open Go.RowKit Go.Shelf Go.Sort
set_option linter.unusedVariables false

set_option maxHeartbeats 2000000 in
theorem badHolds_any (p : Pl) (s : St) (w : World) (hp : p.At w) (hs : s.At w) :
    Calls Try.prog 36 #[p.val, s.val] w fun e w' => e = .returned (.bool (badHoldsB p s)) ∧ Below w.heap.size w w' := by
  have X := boxes_new w p s 25 31
  have hB1 := two_below w (.cells #[.slice p.ab p.nb p.cb, .slice p.sa p.ns p.cs] 25) (.cells s.cells 31)
  have mcap0 := hs.hs.cap
  have mle := hs.hs.le
  have hp1 := hp.below hB1
  have hs1 := hs.below hB1
  unfold Pl.val St.val
  go_enter Try.func36, Try.ntmps36
  go_wp2_with fail
  obtain ⟨W, hW⟩ : ∃ W, ((w.alloc (.cells #[.slice p.ab p.nb p.cb, .slice p.sa p.ns p.cs] 25)).alloc (.cells s.cells 31)) = W := ⟨_, rfl⟩
  rw [hW] at X hB1 hp1 hs1
  unfold St.cells at hW
  rw [hW]
  clear hW
  refine (holdsCheck_any s.hs W hs1.hs).mono ?_
  rintro e w1 ⟨rfl, hB2⟩
  have X1 := X.below hB2
  have hC1 := hB1.trans (hB2.mono hB1.size)
  have hp2 := hp1.below hB2
  have hs2 := hs1.below hB2
  clear X hB1 hB2 hp1 hs1
  by_cases h0 : checkH s.hs.n s.hs.z = 0
  · have Y1 := X1
    obtain ⟨-, hlt, -, -, e2, -⟩ := Y1
    go_wp2_with fail
    refine (anyH4 76 #[.pointer (some ⟨w.heap.size + 1, 0, none⟩), .pointer (some ⟨w.heap.size, 0, none⟩)] (fun i => homeless p s (s.hs.z i)) _ _ _ _ mle mcap0 s.hs.z hs2.hs.hds (enters_of Try.func76 (by kernel_rfl) rfl) (fun i w2 hi h => ?_)).mono ?_
    · exact badHolds1_any w.heap.size (w.heap.size + 1) p s _ w2 (hp2.below h) (hs2.os.below h) (X1.below h)
    · rintro e w2 ⟨rfl, hB3⟩
      go_wp2_with fail
      go_ret
      exact ⟨by simp [badHoldsB, h0], hC1.trans (hB3.mono hC1.size)⟩
  · go_wp2_with fail
    go_ret
    exact ⟨by simp [badHoldsB, h0], hC1⟩

set_option maxHeartbeats 400000 in
theorem lacks_any (x : Hd) (w : World) :
    Calls Try.prog 83 #[x.val] w fun e w' => e = .returned (.bool (lacksL x)) ∧ Below w.heap.size w w' := by
  unfold lacksL Hd.val
  go_enter Try.func83, Try.ntmps83
  go_wp2_with fail
  go_ret
  exact ⟨rfl, (Below.refl _ _).alloc (Nat.le_refl _) _⟩

set_option maxHeartbeats 1000000 in
theorem wrongLine_any (k : Int) (x : Hd) (kept : Int) (w : World) (h1 : 0 ≤ x.b ∧ x.b ≤ 200) (h2 : 0 ≤ x.n ∧ x.n ≤ 200) (h3 : 0 ≤ kept ∧ kept ≤ 14400) :
    Calls Try.prog 84 #[.int .i64 k, x.val, .int .i64 kept] w fun e w' => e = .returned (.bool (wrongL k x kept)) ∧ Below w.heap.size w w' := by
  unfold Hd.val
  by_cases hk : k = 0
  · have HK : Hid (wrongL k x kept = (!(x.b == 0) || !(x.n == 0) || !(kept == 0))) := by show wrongL k x kept = _; simp only [wrongL, if_pos hk]
    rw [HK.out]
    subst hk
    clear HK
    cases h4 : (x.b == 0)
    · go_enter Try.func84, Try.ntmps84
      go_wp2_with fail
      all_goals go_ret
      all_goals exact ⟨by first | rfl | simp_all, (Below.refl _ _).alloc (Nat.le_refl _) _⟩
    · cases h5 : (x.n == 0)
      · go_enter Try.func84, Try.ntmps84
        go_wp2_with fail
        all_goals go_ret
        all_goals exact ⟨by first | rfl | simp_all, (Below.refl _ _).alloc (Nat.le_refl _) _⟩
      · go_enter Try.func84, Try.ntmps84
        go_wp2_with fail
        all_goals go_ret
        all_goals exact ⟨by first | rfl | simp_all, (Below.refl _ _).alloc (Nat.le_refl _) _⟩
  · by_cases hk2 : k = 2
    · have HK : Hid (wrongL k x kept = (!(x.b + x.n == x.l) || !(kept == 0))) := by show wrongL k x kept = _; simp only [wrongL, if_neg hk, if_pos hk2]
      rw [HK.out]
      subst hk2
      clear HK hk
      cases h4 : (x.b + x.n == x.l)
      · go_enter Try.func84, Try.ntmps84
        go_wp2_with fail
        all_goals go_ret
        all_goals exact ⟨by first | rfl | simp_all, (Below.refl _ _).alloc (Nat.le_refl _) _⟩
      · go_enter Try.func84, Try.ntmps84
        go_wp2_with fail
        all_goals go_ret
        all_goals exact ⟨by first | rfl | simp_all, (Below.refl _ _).alloc (Nat.le_refl _) _⟩
    · have HK : Hid (wrongL k x kept = !(x.b + x.n + kept == x.l)) := by show wrongL k x kept = _; simp only [wrongL, if_neg hk, if_neg hk2]
      rw [HK.out]
      clear HK
      go_enter Try.func84, Try.ntmps84
      go_wp2_with fail
      all_goals go_ret
      all_goals exact ⟨rfl, (Below.refl _ _).alloc (Nat.le_refl _) _⟩

end Go.Proofs.Ytjiodlbblmbibac

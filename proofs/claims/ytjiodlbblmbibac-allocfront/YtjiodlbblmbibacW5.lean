/- Small ones over right shelves. -/
import Derived.Test.YtjiodlbblmbibacW4
namespace Go.Proofs.Ytjiodlbblmbibac
open Go.RowKit Go.Shelf
set_option linter.unusedVariables false

set_option maxHeartbeats 400000 in
theorem Has_any (n : Nat) (k : Int) (w : World) (hn : n ≤ maxLen) :
    Calls Try.prog 30 #[.int .i64 n, .int .i64 k] w fun e w' => e = .returned (.bool (inB k 0 ((n : Int) - 1))) ∧ w' = w := by
  unfold maxLen at hn
  go_enter Try.func30, Try.ntmps30
  go_wp2_with (go_at_call 55; refine calls_to (Within_any _ _ _ _) ?_)
  go_ret
  exact ⟨rfl, rfl⟩

set_option maxHeartbeats 400000 in
theorem isBin_any (p : Pl) (k : Int) (w : World) (h1 : p.nb ≤ p.cb) (h2 : p.cb ≤ maxLen) :
    Calls Try.prog 49 #[p.val, .int .i64 k] w fun e w' => e = .returned (.bool (inB k 0 ((p.nb : Int) - 1))) ∧ Below w.heap.size w w' := by
  unfold maxLen at h2
  simp only [Pl.val]
  go_enter Try.func49, Try.ntmps49
  go_wp2_with (go_at_call 48; refine calls_to (within_any _ _ _ _) ?_)
  go_ret
  exact ⟨rfl, (Below.refl _ _).alloc (Nat.le_refl _) _⟩

set_option maxHeartbeats 400000 in
theorem isGood_any (p : Pl) (k : Int) (w : World) (h1 : p.ns ≤ p.cs) (h2 : p.cs ≤ maxLen) :
    Calls Try.prog 58 #[p.val, .int .i64 k] w fun e w' => e = .returned (.bool (inB k 0 ((p.ns : Int) - 1))) ∧ Below w.heap.size w w' := by
  unfold maxLen at h2
  simp only [Pl.val]
  go_enter Try.func58, Try.ntmps58
  go_wp2_with (go_at_call 48; refine calls_to (within_any _ _ _ _) ?_)
  go_ret
  exact ⟨rfl, (Below.refl _ _).alloc (Nat.le_refl _) _⟩

set_option maxHeartbeats 1000000 in
theorem UsedOf_any (p : Pl) (s : Sh) (bin : Nat) (w : World) (hp : p.At w) (hs : s.At w) (hr : RightS p s) (hbin : bin < s.n) :
    Calls Try.prog 106 #[p.val, s.val, .int .i64 bin] w fun e w' => e = .returned (.int .i64 (usedTo (s.r bin).z p.zs p.ns)) ∧ Below w.heap.size w w' := by
  obtain ⟨pl, hn, hlen, hnum⟩ := hr
  have hl := hlen bin hbin
  have hbd : Hid (∀ j, j < p.ns → (0 ≤ (s.r bin).z j ∧ (s.r bin).z j ≤ 200) ∧ 1 ≤ p.zs j ∧ p.zs j ≤ 9) := fun j hj => ⟨hnum bin hbin j hj, pl.sizes j hj⟩
  have hns := pl.ns3
  obtain ⟨ab, nb, cb, zb, sa, ns, cs, zs⟩ := p
  obtain ⟨_, _, _, les, caps, sizes⟩ := hp
  obtain ⟨s0, sn, sc, sr⟩ := s
  obtain ⟨sle, scap, rows⟩ := hs
  dsimp only at hl hbd les caps sizes sle scap rows hbin hns
  obtain ⟨b, o, rfl, hb, z0, hat⟩ := rows bin hbin
  obtain ⟨rle, rcap, ints⟩ := hat
  generalize hR : sr bin = R at z0 rle rcap ints hl hbd
  obtain ⟨ra, rn, rc, rz⟩ := R
  dsimp only at z0 rle rcap ints hl hbd
  subst hl
  have HR : Hid (sr bin = ⟨ra, rn, rc, rz⟩) := hR
  clear hR hlen hnum pl hn rows
  unfold maxLen at scap rcap caps
  simp only [Pl.val, Sh.val]
  go_enter Try.func106, Try.ntmps106
  go_wp2_with fail
  go_loopw [7, 8] (fun u i wk => ∃ k : Nat, k ≤ rn ∧ i = .int .i64 k ∧ u = .int .i64 (usedTo rz zs k) ∧ Below (w.heap.size + 1) (w.alloc (.cells #[.slice ab nb cb, .slice sa rn cs] 25)) wk) (fun _ i _ => rn - (intOf i).toNat)
  case atStart => exact ⟨0, Nat.zero_le _, rfl, rfl, Below.refl _ _⟩
  case round =>
    obtain ⟨k, hk, rfl, rfl, hB⟩ := hrel
    have hB' : Below w.heap.size w wr := ((Below.refl w.heap.size w).alloc (Nat.le_refl _) _).trans (hB.mono (by omega))
    have c1 : wr.cell? ⟨w.heap.size, 1, none⟩ = some (.slice sa rn cs) := (hB.cell (p := ⟨w.heap.size, 1, none⟩) (by simp)).trans (by simp)
    have z1 := (hB'.cell (p := ⟨b, o + bin, none⟩) hb).trans z0
    by_cases hlt : k < rn
    · obtain ⟨b1, o1, rfl, hb1, y0⟩ := (ints.below hB') k hlt
      obtain ⟨b2, o2, rfl, hb2, x0⟩ := (sizes.below hB') k hlt
      have m1 := usedTo_bd hbd.out k hk
      have m2 := mul_bd (hbd.out k hlt).1 (hbd.out k hlt).2
      have HS : Hid (usedTo rz zs (k + 1) = usedTo rz zs k + rz k * zs k) := rfl
      have m3 : (0 : Int) ≤ (bin : Int) := by omega
      generalize usedTo rz zs k = U at m1 HS ⊢
      go_wp2_with fail
      go_quiet (fail)
      go_wp2_with fail
      go_roundw
      case rel => exact ⟨k + 1, by omega, by go_num, by rw [HS.out], below_drewN hB _⟩
      case measure => simp [intOf]; omega
    · go_wp2_with fail
      go_ret
      have hkn : k = rn := by omega
      subst hkn
      exact ⟨by rw [HR.out]; rfl, hB'⟩

set_option maxHeartbeats 1000000 in
theorem SumOf_any (p : Pl) (s : Sh) (good : Nat) (w : World) (hs : s.At w) (hr : RightS p s) (hg : good < p.ns) :
    Calls Try.prog 120 #[s.val, .int .i64 good] w fun e w' => e = .returned (.int .i64 (sumTo (fun i => (s.r i).z good) s.n)) ∧ Below w.heap.size w w' := by
  obtain ⟨pl, hn, hlen, hnum⟩ := hr
  have hbd : Hid (∀ j, j < s.n → 0 ≤ (s.r j).z good ∧ (s.r j).z good ≤ 200) := fun j hj => hnum j hj good hg
  have hl : Hid (∀ j, j < s.n → good < (s.r j).n) := fun j hj => by rw [hlen j hj]; exact hg
  have h6 := pl.nb6
  rw [← hn] at h6
  clear hn hlen hnum pl hg
  obtain ⟨s0, sn, sc, sr⟩ := s
  obtain ⟨sle, scap, rows⟩ := hs
  dsimp only at hbd hl sle scap rows h6
  unfold maxLen at scap
  simp only [Sh.val]
  go_enter Try.func120, Try.ntmps120
  go_wp2_with fail
  go_loopw [5, 6] (fun u i wk => ∃ k : Nat, k ≤ sn ∧ i = .int .i64 k ∧ u = .int .i64 (sumTo (fun i => (sr i).z good) k) ∧ Below w.heap.size w wk) (fun _ i _ => sn - (intOf i).toNat)
  case atStart => exact ⟨0, Nat.zero_le _, rfl, rfl, Below.refl _ _⟩
  case round =>
    obtain ⟨k, hk, rfl, rfl, hB⟩ := hrel
    by_cases hlt : k < sn
    · obtain ⟨b, o, rfl, hb, z0, hat⟩ := (rows.below hB) k hlt
      obtain ⟨rle, rcap, ints⟩ := hat
      have hgl := hl.out k hlt
      obtain ⟨b1, o1, ha, hb1, y0⟩ := ints good hgl
      rw [ha] at z0
      clear ha
      have m1 := sumTo_bd (z := fun i => (sr i).z good) hbd.out k hk
      have m2 := hbd.out k hlt
      have HS : Hid (sumTo (fun i => (sr i).z good) (k + 1) = sumTo (fun i => (sr i).z good) k + (sr k).z good) := rfl
      have m3 : (0 : Int) ≤ (good : Int) := by omega
      generalize sumTo (fun i => (sr i).z good) k = U at m1 HS ⊢
      unfold maxLen at rcap
      go_wp2_with fail
      go_roundw
      case rel => exact ⟨k + 1, by omega, by go_num, by rw [HS.out], hB⟩
      case measure => simp [intOf]; omega
    · go_wp2_with fail
      go_ret
      have hkn : k = sn := by omega
      subst hkn
      exact ⟨rfl, hB⟩

set_option maxHeartbeats 1000000 in
theorem Used_any (p : Pl) (s : Sh) (bin : Int) (w : World) (hp : p.At w) (hs : s.At w) :
    Calls Try.prog 32 #[p.val, s.val, .int .i64 bin] w fun e w' => e = .returned (.tuple #[.int .i64 (usedV p s bin), .int .i64 (usedE p s bin)]) ∧ Below w.heap.size w w' := by
  have hB0 : Below w.heap.size w (w.alloc (.cells #[.slice p.ab p.nb p.cb, .slice p.sa p.ns p.cs] 25)) := (Below.refl w.heap.size w).alloc (Nat.le_refl _) _
  simp only [Pl.val, Sh.val]
  have sle := hs.le
  have scap0 := hs.cap
  have scap := scap0
  unfold maxLen at scap
  have hn0 : s.n ≤ maxLen := Nat.le_trans sle scap0
  go_enter Try.func32, Try.ntmps32
  go_wp2_with fail
  refine (shelfCheck_any p s _ (hp.below hB0) (hs.below hB0)).mono ?_
  rintro e w1 ⟨rfl, hB⟩
  have hBw := hB0.trans (hB.mono (by simp))
  have hsz : w.heap.size < w1.heap.size := by have := hB.size; simp at this; omega
  have c1 : w1.cell? ⟨w.heap.size, 1, none⟩ = some (.slice p.sa p.ns p.cs) := (hB.cell (p := ⟨w.heap.size, 1, none⟩) (by simp)).trans (by simp)
  by_cases h0 : shelfE p s = 0
  · cases h1 : inB bin 0 ((s.n : Int) - 1)
    · go_wp2_with (go_at_call 30; refine calls_to (Has_any _ _ _ hn0) ?_)
      go_ret2
      exact ⟨by simp [usedV, usedE, h0, h1], hBw⟩
    · have H0 : Hid (shelfE p s = 0) := h0
      have H1 : Hid (inB bin 0 ((s.n : Int) - 1) = true) := h1
      obtain ⟨m, rfl⟩ := Int.eq_ofNat_of_zero_le (inB_true h1).1
      have hm : m < s.n := by have := (inB_true h1).2; omega
      have hV : Hid (usedV p s (m : Int) = usedTo (s.r m).z p.zs p.ns ∧ usedE p s (m : Int) = 0) := by
        show _ ∧ _
        simp [usedV, usedE, h0, h1]
      obtain ⟨pl, hn, hlen, hnum⟩ := (rightS h0).2
      have hl := hlen m hm
      have hbd : Hid (∀ j, j < p.ns → (0 ≤ (s.r m).z j ∧ (s.r m).z j ≤ 200) ∧ 1 ≤ p.zs j ∧ p.zs j ≤ 9) := fun j hj => ⟨hnum m hm j hj, pl.sizes j hj⟩
      have hns := pl.ns3
      have hp1 := hp.below hBw
      have hs1 := hs.below hBw
      clear hp hs hB hB0 hlen hnum pl hn
      obtain ⟨ab, nb, cb, zb, sa, ns, cs, zs⟩ := p
      obtain ⟨_, _, _, les, caps, sizes⟩ := hp1
      obtain ⟨s0, sn, sc, sr⟩ := s
      obtain ⟨_, _, rows⟩ := hs1
      dsimp only at *
      obtain ⟨b, o, rfl, hb, z0, hat⟩ := rows m hm
      obtain ⟨rle, rcap, ints⟩ := hat
      generalize hR : sr m = R at z0 rle rcap ints hl hbd
      obtain ⟨ra, rn, rc, rz⟩ := R
      dsimp only at z0 rle rcap ints hl hbd
      subst hl
      have HR : Hid (sr m = ⟨ra, rn, rc, rz⟩) := hR
      clear hR rows
      unfold maxLen at rcap caps
      have m3 : (0 : Int) ≤ (m : Int) := by omega
      go_wp2_with (go_at_call 30; refine calls_to (Has_any _ _ _ hn0) ?_)
      clear h0 h1
      go_loopw [9, 28] (fun u i wk => ∃ k : Nat, k ≤ rn ∧ i = .int .i64 k ∧ u = .int .i64 (usedTo rz zs k) ∧ Below w1.heap.size w1 wk) (fun _ i _ => rn - (intOf i).toNat)
      case atStart => exact ⟨0, Nat.zero_le _, rfl, rfl, Below.refl _ _⟩
      case round =>
        obtain ⟨k, hk, rfl, rfl, hB⟩ := hrel
        obtain ⟨hc, hf⟩ := bcell hB
        by_cases hlt : k < rn
        · obtain ⟨b1, o1, rfl, hb1, y0⟩ := (ints.below hB) k hlt
          obtain ⟨b2, o2, rfl, hb2, x0⟩ := (sizes.below hB) k hlt
          have m1 := usedTo_bd hbd.out k hk
          have m2 := mul_bd (hbd.out k hlt).1 (hbd.out k hlt).2
          have HS : Hid (usedTo rz zs (k + 1) = usedTo rz zs k + rz k * zs k) := rfl
          generalize usedTo rz zs k = U at m1 HS ⊢
          go_wp2_with fail
          go_roundw
          case rel => exact ⟨k + 1, by omega, by go_num, by rw [HS.out], hB⟩
          case measure => simp [intOf]; omega
        · go_wp2_with fail
          go_ret2
          have hkn : k = rn := by omega
          subst hkn
          exact ⟨by rw [hV.out.1, hV.out.2, HR.out]; rfl, hBw.trans (hB.mono hBw.size)⟩
  · go_wp2_with fail
    go_ret2
    exact ⟨by simp [usedV, usedE, h0], hBw⟩

set_option maxHeartbeats 1000000 in
theorem Sum_any (p : Pl) (s : Sh) (good : Int) (w : World) (hp : p.At w) (hs : s.At w) :
    Calls Try.prog 82 #[p.val, s.val, .int .i64 good] w fun e w' => e = .returned (.tuple #[.int .i64 (sumV p s good), .int .i64 (sumE p s good)]) ∧ Below w.heap.size w w' := by
  have hB0 : Below w.heap.size w (w.alloc (.cells #[.slice p.ab p.nb p.cb, .slice p.sa p.ns p.cs] 25)) := (Below.refl w.heap.size w).alloc (Nat.le_refl _) _
  simp only [Pl.val, Sh.val]
  have sle := hs.le
  have scap := hs.cap
  unfold maxLen at scap
  have les := hp.les
  have caps0 := hp.caps
  have hn0 : p.ns ≤ maxLen := Nat.le_trans les caps0
  have caps := caps0
  unfold maxLen at caps
  go_enter Try.func82, Try.ntmps82
  go_wp2_with fail
  refine (shelfCheck_any p s _ (hp.below hB0) (hs.below hB0)).mono ?_
  rintro e w1 ⟨rfl, hB⟩
  have hBw := hB0.trans (hB.mono (by simp))
  have hsz : w.heap.size < w1.heap.size := by have := hB.size; simp at this; omega
  have c1 : w1.cell? ⟨w.heap.size, 1, none⟩ = some (.slice p.sa p.ns p.cs) := (hB.cell (p := ⟨w.heap.size, 1, none⟩) (by simp)).trans (by simp)
  by_cases h0 : shelfE p s = 0
  · cases h1 : inB good 0 ((p.ns : Int) - 1)
    · go_wp2_with (go_at_call 30; refine calls_to (Has_any _ _ _ hn0) ?_)
      go_ret2
      exact ⟨by simp [sumV, sumE, h0, h1], hBw⟩
    · obtain ⟨m, rfl⟩ := Int.eq_ofNat_of_zero_le (inB_true h1).1
      have hm : m < p.ns := by have := (inB_true h1).2; omega
      have hV : Hid (sumV p s (m : Int) = sumTo (fun i => (s.r i).z m) s.n ∧ sumE p s (m : Int) = 0) := by
        show _ ∧ _
        simp [sumV, sumE, h0, h1]
      obtain ⟨pl, hn, hlen, hnum⟩ := (rightS h0).2
      have hl : Hid (∀ j, j < s.n → m < (s.r j).n) := fun j hj => by rw [hlen j hj]; exact hm
      have hbd : Hid (∀ j, j < s.n → 0 ≤ (s.r j).z m ∧ (s.r j).z m ≤ 200) := fun j hj => hnum j hj m hm
      have h6 := pl.nb6
      rw [← hn] at h6
      have rows := (hs.below hBw).rows
      clear hp hs hB hB0 hlen hnum pl hn
      have m3 : (0 : Int) ≤ (m : Int) := by omega
      go_wp2_with (go_at_call 30; refine calls_to (Has_any _ _ _ hn0) ?_)
      clear h0 h1 c1
      obtain ⟨s0, sn, sc, sr⟩ := s
      dsimp only at *
      go_loopw [9, 26] (fun u i wk => ∃ k : Nat, k ≤ sn ∧ i = .int .i64 k ∧ u = .int .i64 (sumTo (fun i => (sr i).z m) k) ∧ Below w1.heap.size w1 wk) (fun _ i _ => sn - (intOf i).toNat)
      case atStart => exact ⟨0, Nat.zero_le _, rfl, rfl, Below.refl _ _⟩
      case round =>
        obtain ⟨k, hk, rfl, rfl, hB⟩ := hrel
        obtain ⟨hc, hf⟩ := bcell hB
        by_cases hlt : k < sn
        · obtain ⟨b, o, rfl, hb, z0, hat⟩ := (rows.below hB) k hlt
          obtain ⟨rle, rcap, ints⟩ := hat
          have hgl := hl.out k hlt
          obtain ⟨b1, o1, ha, hb1, y0⟩ := ints m hgl
          rw [ha] at z0
          clear ha
          have m1 := sumTo_bd (z := fun i => (sr i).z m) hbd.out k hk
          have m2 := hbd.out k hlt
          have HS : Hid (sumTo (fun i => (sr i).z m) (k + 1) = sumTo (fun i => (sr i).z m) k + (sr k).z m) := rfl
          generalize sumTo (fun i => (sr i).z m) k = U at m1 HS ⊢
          unfold maxLen at rcap
          go_wp2_with fail
          go_roundw
          case rel => exact ⟨k + 1, by omega, by go_num, by rw [HS.out], hB⟩
          case measure => simp [intOf]; omega
        · go_wp2_with fail
          go_ret2
          have hkn : k = sn := by omega
          subst hkn
          exact ⟨by rw [hV.out.1, hV.out.2]; rfl, hBw.trans (hB.mono hBw.size)⟩
  · go_wp2_with fail
    go_ret2
    exact ⟨by simp [sumV, sumE, h0], hBw⟩

end Go.Proofs.Ytjiodlbblmbibac

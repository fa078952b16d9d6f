/- Holds: keptAt, KeptOf, Kept. -/
import Derived.Test.YtjiodlbblmbibacHW3
import Derived.Test.YtjiodlbblmbibacH2
namespace Go.Proofs.Ytjiodlbblmbibac
open Go.RowKit Go.Shelf
set_option linter.unusedVariables false

set_option maxHeartbeats 1000000 in
theorem keptAt_any (s : Hs) (o l b : Int) (w : World) (hs : s.At w) :
    Calls Try.prog 103 #[s.val, .int .i64 o, .int .i64 l, .int .i64 b] w fun e w' => e = .returned (.int .i64 (keptV s.n s.z o l b)) ∧ w' = w := by
  obtain ⟨a, n, c, z⟩ := s
  obtain ⟨hn, hc, hz⟩ := hs
  dsimp only at hn hc hz ⊢
  unfold maxLen at hc
  simp only [Hs.val]
  generalize hV : keptV n z o l b = V
  have HV : Hid (keptV n z o l b = V) := hV
  clear hV
  go_enter Try.func103, Try.ntmps103
  go_wp2_with fail
  go_loop [9] (fun i => ∃ k : Nat, k ≤ n ∧ i = .int .i64 k ∧ (∀ j, j < k → matchH (z j) o l b = false)) (fun i => n - (intOf i).toNat)
  case atStart => exact ⟨0, Nat.zero_le _, rfl, fun j hj => absurd hj (Nat.not_lt_zero _)⟩
  case round =>
    obtain ⟨k, hk, rfl, hno⟩ := hrel
    have HN : Hid (∀ j, j < k → matchH (z j) o l b = false) := hno
    clear hno
    by_cases hlt : k < n
    · obtain ⟨bb, oo, rfl, hb, z0, z1, z2, z3⟩ := hz k hlt
      cases hm : matchH (z k) o l b
      · have HM : Hid (matchH (z k) o l b = false) := hm
        unfold matchH at hm
        cases h1 : ((z k).o == o)
        · clear hm
          go_wp2_with fail
          go_round
          case rel => exact ⟨k + 1, by omega, by go_num, fun j hj => by
            by_cases hjk : j = k
            · rw [hjk, HM.out]
            · exact HN.out j (by omega)⟩
          case measure => simp [intOf]; omega
        · cases h2 : ((z k).l == l)
          · clear hm
            go_wp2_with fail
            go_round
            case rel => exact ⟨k + 1, by omega, by go_num, fun j hj => by
              by_cases hjk : j = k
              · rw [hjk, HM.out]
              · exact HN.out j (by omega)⟩
            case measure => simp [intOf]; omega
          · have h3 : ((z k).b == b) = false := by simpa [h1, h2] using hm
            clear hm
            go_wp2_with fail
            go_round
            case rel => exact ⟨k + 1, by omega, by go_num, fun j hj => by
              by_cases hjk : j = k
              · rw [hjk, HM.out]
              · exact HN.out j (by omega)⟩
            case measure => simp [intOf]; omega
      · have hV2 : Hid ((z k).n = V) := (keptV_some hlt HN.out hm).symm.trans HV.out
        unfold matchH at hm
        simp only [Bool.and_eq_true] at hm
        obtain ⟨⟨h1, h2⟩, h3⟩ := hm
        go_wp2_with fail
        go_ret
        exact ⟨by rw [← hV2.out]; rfl, rfl⟩
    · have hV2 : Hid (0 = V) := (keptV_none fun j hj => HN.out j (by omega)).symm.trans HV.out
      go_wp2_with fail
      go_ret
      exact ⟨by rw [← hV2.out]; rfl, rfl⟩

set_option maxHeartbeats 1000000 in
theorem KeptOf_any (s : Hs) (o l : Int) (w : World) (hs : s.At w) (hr : anyB s.n (badH s.z) = false) :
    Calls Try.prog 122 #[s.val, .int .i64 o, .int .i64 l] w fun e w' => e = .returned (.int .i64 (keptS s.z o l s.n)) ∧ w' = w := by
  have hbd : Hid (∀ b : Int, 0 ≤ keptV s.n s.z o l b ∧ keptV s.n s.z o l b ≤ 200) := fun b => keptV_bd (fun j hj => (fineH_true (right_fine hr j hj)).2.2.2) o l b
  have hE := kept_eq s.z o l s.n hr
  have HE : Hid (sumTo (fun b => keptV s.n s.z o l b) 6 = keptS s.z o l s.n) := hE
  have HS : Hid _ := hs
  clear hE hr hs
  have sbd : Hid (∀ k : Nat, k ≤ 6 → 0 ≤ sumTo (fun b => keptV s.n s.z o l b) k ∧ sumTo (fun b => keptV s.n s.z o l b) k ≤ 200 * k) := fun k hk => sumTo_bd (n := 6) (fun j _ => hbd.out j) k hk
  generalize keptS s.z o l s.n = E at HE ⊢
  simp only [Hs.val]
  go_enter Try.func122, Try.ntmps122
  go_wp2_with fail
  go_loopw [7, 8] (fun u i wk => ∃ k : Nat, k ≤ 6 ∧ i = .int .i64 k ∧ u = .int .i64 (sumTo (fun b => keptV s.n s.z o l b) k) ∧ wk = w) (fun _ i _ => 6 - (intOf i).toNat)
  case atStart => exact ⟨0, by omega, rfl, rfl, rfl⟩
  case round =>
    obtain ⟨k, hk, rfl, rfl, hw⟩ := hrel
    have HW : Hid (wr = w) := hw
    clear hw
    have m1 := sbd.out k hk
    have m2 := hbd.out k
    have H1 : Hid (sumTo (fun b => keptV s.n s.z o l b) (k + 1) = sumTo (fun b => keptV s.n s.z o l b) k + keptV s.n s.z o l k) := rfl
    by_cases hlt : k < 6
    · generalize sumTo (fun b => keptV s.n s.z o l b) k = U at m1 H1 ⊢
      go_wp2_with fail
      refine calls_to (keptAt_any s o l k wr (by rw [HW.out]; exact HS.out)) ?_
      generalize keptV s.n s.z o l k = V at m2 H1 ⊢
      go_wp2_with fail
      go_roundw
      case rel => exact ⟨k + 1, by omega, by go_num, by rw [H1.out], HW.out⟩
      case measure => simp [intOf]; omega
    · have hk6 : k = 6 := by omega
      subst hk6
      rw [HE.out]
      go_wp2_with fail
      go_ret
      exact ⟨rfl, HW.out⟩

set_option maxHeartbeats 1000000 in
theorem Kept_any (s : Hs) (o l : Int) (w : World) (hs : s.At w) :
    Calls Try.prog 20 #[s.val, .int .i64 o, .int .i64 l] w fun e w' => e = .returned (.tuple #[.int .i64 (if checkH s.n s.z = 0 then keptS s.z o l s.n else 0), .int .i64 (checkH s.n s.z)]) ∧ Below w.heap.size w w' := by
  have HS : Hid _ := hs
  obtain ⟨a, n, c, z⟩ := s
  obtain ⟨hn, hc, hz⟩ := hs
  dsimp only at hn hc hz ⊢
  unfold maxLen at hc
  simp only [Hs.val]
  by_cases h0 : checkH n z = 0
  · have hr : anyB n (badH z) = false := by
      cases h : anyB n (badH z)
      · rfl
      · simp [checkH, h] at h0
    have hlen := right_len hr
    have hN : Hid (∀ j, j < n → 1 ≤ (z j).n ∧ (z j).n ≤ 200) := fun j hj => (fineH_true (right_fine hr j hj)).2.2.2
    have hbd : Hid (∀ k, k ≤ n → 0 ≤ keptS z o l k ∧ keptS z o l k ≤ 200 * k) := fun k hk => keptS_bd o l k fun j hj => hN.out j (by omega)
    rw [if_pos h0]
    have H0 : Hid (checkH n z = 0) := h0
    clear hr
    go_enter Try.func20, Try.ntmps20
    go_wp2_with fail
    refine (holdsCheck_any ⟨a, n, c, z⟩ w HS.out).mono ?_
    rintro e w1 ⟨rfl, hB1⟩
    dsimp only
    go_wp2_with fail
    clear h0
    go_loopw [9, 19] (fun u i wk => ∃ k : Nat, k ≤ n ∧ i = .int .i64 k ∧ u = .int .i64 (keptS z o l k) ∧ Below w.heap.size w wk) (fun _ i _ => n - (intOf i).toNat)
    case atStart => exact ⟨0, Nat.zero_le _, rfl, rfl, hB1⟩
    case round =>
      obtain ⟨k, hk, rfl, rfl, hB⟩ := hrel
      have m1 := hbd.out k hk
      by_cases hlt : k < n
      · obtain ⟨b, q, rfl, hb, z0, z1, z2, z3⟩ := (hz.below hB) k hlt
        have m2 := hN.out k hlt
        have H1 : Hid (keptS z o l (k + 1) = keptS z o l k + if (z k).o = o ∧ (z k).l = l then (z k).n else 0) := rfl
        generalize keptS z o l k = U at m1 H1 ⊢
        cases h1 : ((z k).o == o)
        · have hf : ¬ ((z k).o = o ∧ (z k).l = l) := by simp at h1; omega
          have HF : Hid _ := hf
          clear hf
          go_wp2_with fail
          go_roundw
          case rel => exact ⟨k + 1, by omega, by go_num, by rw [H1.out, if_neg HF.out, Int.add_zero], hB.alloc (by have := hB.size; omega) _⟩
          case measure => simp [intOf]; omega
        · cases h2 : ((z k).l == l)
          · have hf : ¬ ((z k).o = o ∧ (z k).l = l) := by simp at h2; omega
            have HF : Hid _ := hf
            clear hf
            go_wp2_with fail
            go_roundw
            case rel => exact ⟨k + 1, by omega, by go_num, by rw [H1.out, if_neg HF.out, Int.add_zero], hB.alloc (by have := hB.size; omega) _⟩
            case measure => simp [intOf]; omega
          · have hf : ((z k).o = o ∧ (z k).l = l) := by simp at h1 h2; exact ⟨h1, h2⟩
            have HF : Hid _ := hf
            clear hf
            go_wp2_with fail
            go_roundw
            case rel => exact ⟨k + 1, by omega, by go_num, by rw [H1.out, if_pos HF.out], hB.alloc (by have := hB.size; omega) _⟩
            case measure => simp [intOf]; omega
      · have hkn : k = n := by omega
        subst hkn
        go_wp2_with fail
        go_ret2
        exact ⟨by rw [H0.out]; rfl, hB⟩
  · rw [if_neg h0]
    go_enter Try.func20, Try.ntmps20
    go_wp2_with fail
    refine (holdsCheck_any ⟨a, n, c, z⟩ w HS.out).mono ?_
    rintro e w1 ⟨rfl, hB1⟩
    dsimp only
    go_wp2_with fail
    go_ret2
    exact ⟨rfl, hB1⟩

end Go.Proofs.Ytjiodlbblmbibac

/- Holds: slices.Concat. -/
import Derived.Test.YtjiodlbblmbibacHW6
namespace Go.Proofs.Ytjiodlbblmbibac
open Go.RowKit Go.Shelf
set_option linter.unusedVariables false

def sumN (S : Nat → Hs) : Nat → Nat
  | 0 => 0
  | k + 1 => sumN S k + (S k).n
def catC (S : Nat → Hs) : Nat → List Value
  | 0 => []
  | k + 1 => catC S k ++ flatH (S k).n (S k).z
theorem sumN_le {S : Nat → Hs} {m : Nat} (h : ∀ i, i < m → (S i).n ≤ 100) : ∀ k, k ≤ m → sumN S k ≤ 100 * k
  | 0, _ => by simp [sumN]
  | k + 1, hk => by
    have := sumN_le h k (by omega)
    have := h k (by omega)
    simp only [sumN]
    omega

set_option maxRecDepth 100000 in
set_option maxHeartbeats 2000000 in
theorem Concat_any (m g c0 : Nat) (S : Nat → Hs) (w : World) (hm : m ≤ 3) (hc0 : m ≤ c0) (hc1 : c0 ≤ maxLen) (hg : Blk w g 28 m (fun i => .slice (S i).a (S i).n (S i).c)) (hat : ∀ i, i < m → (S i).At w) (hn : ∀ i, i < m → (S i).n ≤ 100) :
    Calls Try.prog 96 #[.slice (some ⟨g, 0, none⟩) m c0] w fun e w' => ∃ v, e = .returned v ∧ w'.ownsRow w.heap.size 65 4 v (sumN S m) (catC S m) ∧ Below w.heap.size w w' := by
  obtain ⟨i0, hi, hz0, hz1, hz2⟩ := info_parts infoHold
  have HA : Hid (∀ i, i < m → (S i).At w) := hat
  have HN : Hid (∀ i, i < m → (S i).n ≤ 100) := hn
  clear hat hn
  unfold maxLen at hc1
  go_enter Try.func96, Try.ntmps96
  go_wp2_with fail
  go_loop [3, 11] (fun u i => ∃ k : Nat, k ≤ m ∧ i = .int .i64 k ∧ u = .int .i64 (sumN S k : Nat)) (fun _ i => m - (intOf i).toNat)
  case atStart => exact ⟨0, Nat.zero_le _, rfl, rfl⟩
  case round =>
    obtain ⟨k, hk, rfl, rfl⟩ := hrel
    have b1 := sumN_le HN.out k hk
    by_cases hlt : k < m
    · have b2 := HN.out k hlt
      have z0 := hg.cell hlt
      have le := (HA.out k hlt).le
      have cap := (HA.out k hlt).cap
      unfold maxLen at cap
      have H1 : Hid (sumN S (k + 1) = sumN S k + (S k).n) := rfl
      generalize sumN S k = U at b1 H1 ⊢
      go_wp2_with fail
      go_round
      case rel => exact ⟨k + 1, by omega, by go_num, by rw [H1.out]; go_num⟩
      case measure => simp [intOf]; omega
    · have hkm : k = m := by omega
      subst hkm
      go_wp2_with fail
      refine (Grow_nil (sumN S k) w (by omega)).mono ?_
      rintro e w1 ⟨v0, rfl, hown, hB1⟩
      go_wp2_with fail
      go_loopw [6, 27] (fun v i wk => ∃ j : Nat, j ≤ k ∧ i = .int .i64 j ∧ wk.ownsRow w.heap.size 65 4 v (sumN S j) (catC S j) ∧ Below w.heap.size w wk) (fun _ i _ => k - (intOf i).toNat)
      case atStart => exact ⟨0, Nat.zero_le _, rfl, hown, hB1⟩
      case round =>
        obtain ⟨j, hj, rfl, hown, hB⟩ := hrel
        by_cases hjk : j < k
        · have z0 := (hg.below hB).cell hjk
          have hs := (HA.out j hjk).below hB
          have b2 := HN.out j hjk
          have b3 := sumN_le HN.out j (by omega)
          cases ha : (S j).a with
          | none =>
            have hn0 : (S j).n = 0 := by
              rcases Nat.eq_zero_or_pos (S j).n with h | h
              · exact h
              · obtain ⟨_, _, he, _⟩ := hs.hds 0 h
                rw [ha] at he
                cases he
            rw [ha, hn0, hs.nilc ha] at z0
            have H1 : Hid (sumN S (j + 1) = sumN S j ∧ catC S (j + 1) = catC S j) := by
              show _ ∧ _
              simp [sumN, catC, hn0, flatH]
            go_wp2_with (at_builtin; refine wpList_append_own_none rfl (.tmp 31) (.tmp 32) 28 rfl w.heap.size 65 i0 4 Try.underlying28 hi _ _ _ rfl hown rfl ?_)
            go_roundw
            case rel => exact ⟨j + 1, by omega, by go_num, by rw [H1.out.1, H1.out.2]; exact hown, hB⟩
            case measure => simp [intOf]; omega
          | some ad =>
            have hnews := hs.hds
            rw [ha] at z0 hnews
            go_wp2_with (at_builtin; refine wpList_append_own _ rfl (.tmp 31) (.tmp 32) 28 rfl w.heap.size 65 i0 (.agg #[.int .i64 0, .int .i64 0, .int .i64 0, .int .i64 0]) 4 32 Try.underlying28 hi hz0 hz1 hz2 rfl (by decide) _ _ _ rfl hown ad (S j).n (S j).c (flatH (S j).n (S j).z) rfl ?c1 ?c2 ?c3 ?c4 ?c5 ?c6 ?_)
            case c1 => exact flatH_len _ _
            case c2 =>
              intro q u hq
              have hpos : 0 < (S j).n := by
                have := (List.getElem?_eq_some_iff.1 hq).1
                rw [flatH_len] at this
                omega
              obtain ⟨b, o, he, _⟩ := hnews 0 hpos
              simp only [Option.some.injEq] at he
              subst he
              exact hnews.news q u hq
            case c3 => exact flatH_one _ _
            case c4 => unfold maxLen; omega
            case c5 => omega
            case c6 => exact hB.size
            intro v' w2 hown2 hgrow2 hnil2
            have hlt2 := hown.lt
            have hB2 : Below w.heap.size w w2 := hB.grown hgrow2 hB.size (fun q hq => (hlt2 q hq).1)
            clear hgrow2 hnil2 hlt2 hnews
            go_wp2_with fail
            go_roundw
            case rel => exact ⟨j + 1, by omega, by go_num, hown2, hB2⟩
            case measure => simp [intOf]; omega
        · have hjk' : j = k := by omega
          subst hjk'
          go_wp2_with fail
          go_ret
          exact ⟨_, rfl, hown, hB⟩

end Go.Proofs.Ytjiodlbblmbibac

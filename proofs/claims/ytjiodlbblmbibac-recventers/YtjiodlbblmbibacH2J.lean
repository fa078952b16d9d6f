/- Texts that were built one behind the other, joined. -/
import Derived.Test.YtjiodlbblmbibacKJ
import Derived.Test.YtjiodlbblmbibacHW3J
/- Holds: what is kept, by plain sums. No walk. -/
namespace Go.Proofs.Ytjiodlbblmbibac
open Go.RowKit
set_option linter.unusedVariables false

def matchH (x : Hd) (o l b : Int) : Bool := (x.o == o) && (x.l == l) && (x.b == b)
def keptV (n : Nat) (z : Nat → Hd) (o l b : Int) : Int := match (List.range n).find? (fun i => matchH (z i) o l b) with
  | some i => (z i).n
  | none => 0

theorem keptV_none {n : Nat} {z : Nat → Hd} {o l b : Int} (h : ∀ j, j < n → matchH (z j) o l b = false) : keptV n z o l b = 0 := by
  unfold keptV
  have : (List.range n).find? (fun i => matchH (z i) o l b) = none := by
    rw [List.find?_eq_none]
    intro x hx
    simp [h x (List.mem_range.1 hx)]
  rw [this]
theorem keptV_some {n k : Nat} {z : Nat → Hd} {o l b : Int} (hk : k < n) (h : ∀ j, j < k → matchH (z j) o l b = false) (hm : matchH (z k) o l b = true) : keptV n z o l b = (z k).n := by
  unfold keptV
  have e : List.range n = List.range k ++ (k :: (List.range (n - k - 1)).map (fun i => k + 1 + i)) := by
    have := @List.range_add k (n - k)
    rw [show k + (n - k) = n by omega] at this
    rw [this, show n - k = (n - k - 1) + 1 by omega, List.range_succ_eq_map]
    simp [Function.comp_def]
    intro i hi
    omega
  have : (List.range n).find? (fun i => matchH (z i) o l b) = some k := by
    rw [e, List.find?_append]
    have h0 : (List.range k).find? (fun i => matchH (z i) o l b) = none := by
      rw [List.find?_eq_none]
      intro x hx
      simp [h x (List.mem_range.1 hx)]
    rw [h0, List.find?_cons]
    simp [hm]
  rw [this]
/-- Either none is there, or the first one is. -/
theorem keptV_cases (n : Nat) (z : Nat → Hd) (o l b : Int) : (∀ j, j < n → matchH (z j) o l b = false) ∨ ∃ k, k < n ∧ (∀ j, j < k → matchH (z j) o l b = false) ∧ matchH (z k) o l b = true := by
  induction n with
  | zero => exact .inl fun j hj => absurd hj (Nat.not_lt_zero _)
  | succ n ih =>
    rcases ih with h | ⟨k, hk, h1, h2⟩
    · cases hm : matchH (z n) o l b
      · refine .inl fun j hj => ?_
        by_cases hjn : j = n
        · rw [hjn, hm]
        · exact h j (by omega)
      · exact .inr ⟨n, by omega, h, hm⟩
    · exact .inr ⟨k, by omega, h1, h2⟩
theorem matchH_true {x : Hd} {o l b : Int} (h : matchH x o l b = true) : x.o = o ∧ x.l = l ∧ x.b = b := by
  simpa [matchH, and_assoc] using h
theorem matchH_self (x : Hd) : matchH x x.o x.l x.b = true := by simp [matchH]
theorem matchH_key {x y : Hd} {o l b : Int} (hx : matchH x o l b = true) (hy : matchH y o l b = true) : keyH x = keyH y := by
  have a := matchH_true hx
  have c := matchH_true hy
  simp [keyH, a, c]

def keptS (z : Nat → Hd) (o l : Int) : Nat → Int
  | 0 => 0
  | n + 1 => keptS z o l n + if (z n).o = o ∧ (z n).l = l then (z n).n else 0

theorem keptV_succ {n : Nat} {z : Nat → Hd} (hr : anyB (n + 1) (badH z) = false) (o l b : Int) : keptV (n + 1) z o l b = keptV n z o l b + if matchH (z n) o l b then (z n).n else 0 := by
  rcases keptV_cases n z o l b with h | ⟨k, hk, h1, h2⟩
  · cases hm : matchH (z n) o l b
    · rw [keptV_none h, keptV_none fun j hj => by
        by_cases hjn : j = n
        · rw [hjn, hm]
        · exact h j (by omega)]
      simp
    · rw [keptV_none h, keptV_some (Nat.lt_succ_self n) h hm]
      simp
  · have hne : matchH (z n) o l b = false := by
      cases hm : matchH (z n) o l b
      · rfl
      · have := matchH_key h2 hm
        have := right_lt hr k n hk (Nat.lt_succ_self n)
        omega
    rw [keptV_some hk h1 h2, keptV_some (by omega) h1 h2, hne]
    simp

theorem right_pred {n : Nat} {z : Nat → Hd} (hr : anyB (n + 1) (badH z) = false) : anyB n (badH z) = false := anyB_no fun j hj => anyB_false hr j (by omega)

theorem kept_eq (z : Nat → Hd) (o l : Int) : ∀ n, anyB n (badH z) = false → sumTo (fun b => keptV n z o l b) 6 = keptS z o l n
  | 0, _ => by simp [sumTo, keptS, keptV]
  | n + 1, hr => by
    have ih := kept_eq z o l n (right_pred hr)
    have hf := fineH_true (right_fine hr n (Nat.lt_succ_self n))
    by_cases hm : (z n).o = o ∧ (z n).l = l
    · simp only [keptS, hm, and_self, if_true]
      rw [← ih]
      refine sumTo_put (m := (z n).b.toNat) (by omega) fun b hb => ?_
      rw [keptV_succ hr]
      by_cases hbb : b = (z n).b.toNat
      · have : matchH (z n) o l b = true := by
          have e : (b : Int) = (z n).b := by omega
          simp [matchH, hm, e]
        rw [this, if_pos rfl, if_pos hbb]
      · have : matchH (z n) o l b = false := by
          cases hq : matchH (z n) o l b
          · rfl
          · have := matchH_true hq; omega
        simp [this, hbb]
    · simp only [keptS, hm, if_false, Int.add_zero]
      rw [← ih]
      refine sumTo_congr fun b hb => ?_
      rw [keptV_succ hr]
      have : matchH (z n) o l b = false := by
        cases hq : matchH (z n) o l b
        · rfl
        · have := matchH_true hq
          exact absurd ⟨this.1, this.2.1⟩ hm
      simp [this]

theorem keptS_bd {z : Nat → Hd} (o l : Int) : ∀ n, (∀ j, j < n → 1 ≤ (z j).n ∧ (z j).n ≤ 200) → 0 ≤ keptS z o l n ∧ keptS z o l n ≤ 200 * n
  | 0, _ => by simp [keptS]
  | n + 1, h => by
    have ih := keptS_bd (z := z) o l n fun j hj => h j (by omega)
    have := h n (by omega)
    simp only [keptS]
    split <;> omega
theorem keptV_bd {n : Nat} {z : Nat → Hd} (h : ∀ j, j < n → 1 ≤ (z j).n ∧ (z j).n ≤ 200) (o l b : Int) : 0 ≤ keptV n z o l b ∧ keptV n z o l b ≤ 200 := by
  rcases keptV_cases n z o l b with h0 | ⟨k, hk, h1, h2⟩
  · rw [keptV_none h0]; omega
  · rw [keptV_some hk h1 h2]; have := h k hk; omega

end Go.Proofs.Ytjiodlbblmbibac
/- Holds: keptAt, KeptOf, Kept. -/
namespace Go.Proofs.Ytjiodlbblmbibac
open Go.RowKit Go.Shelf
set_option linter.unusedVariables false

set_option maxHeartbeats 1000000 in
theorem keptAt_any (s : Hs) (o l b : Int) (w : World) (hs : s.At w) :
    Calls Try.prog 103 #[s.val, .int .i64 o, .int .i64 l, .int .i64 b] w fun e w' => e = .returned (.int .i64 (keptV s.n s.z o l b)) ∧ w' = w := by
  obtain ⟨a, n, c, z⟩ := s
  obtain ⟨hn, hc, hz⟩ := hs
  dsimp only at hn hc hz ⊢
  unfold maxLen at hc
  simp only [Hs.val]
  generalize hV : keptV n z o l b = V
  have HV : Hid (keptV n z o l b = V) := hV
  clear hV
  go_enter Try.func103, Try.ntmps103
  go_wp2_with fail
  go_loop [9] (fun i => ∃ k : Nat, k ≤ n ∧ i = .int .i64 k ∧ (∀ j, j < k → matchH (z j) o l b = false)) (fun i => n - (intOf i).toNat)
  case atStart => exact ⟨0, Nat.zero_le _, rfl, fun j hj => absurd hj (Nat.not_lt_zero _)⟩
  case round =>
    obtain ⟨k, hk, rfl, hno⟩ := hrel
    have HN : Hid (∀ j, j < k → matchH (z j) o l b = false) := hno
    clear hno
    by_cases hlt : k < n
    · obtain ⟨bb, oo, rfl, hb, z0, z1, z2, z3⟩ := hz k hlt
      cases hm : matchH (z k) o l b
      · have HM : Hid (matchH (z k) o l b = false) := hm
        unfold matchH at hm
        cases h1 : ((z k).o == o)
        · clear hm
          go_wp2_with fail
          go_round
          case rel => exact ⟨k + 1, by omega, by go_num, fun j hj => by
            by_cases hjk : j = k
            · rw [hjk, HM.out]
            · exact HN.out j (by omega)⟩
          case measure => simp [intOf]; omega
        · cases h2 : ((z k).l == l)
          · clear hm
            go_wp2_with fail
            go_round
            case rel => exact ⟨k + 1, by omega, by go_num, fun j hj => by
              by_cases hjk : j = k
              · rw [hjk, HM.out]
              · exact HN.out j (by omega)⟩
            case measure => simp [intOf]; omega
          · have h3 : ((z k).b == b) = false := by simpa [h1, h2] using hm
            clear hm
            go_wp2_with fail
            go_round
            case rel => exact ⟨k + 1, by omega, by go_num, fun j hj => by
              by_cases hjk : j = k
              · rw [hjk, HM.out]
              · exact HN.out j (by omega)⟩
            case measure => simp [intOf]; omega
      · have hV2 : Hid ((z k).n = V) := (keptV_some hlt HN.out hm).symm.trans HV.out
        unfold matchH at hm
        simp only [Bool.and_eq_true] at hm
        obtain ⟨⟨h1, h2⟩, h3⟩ := hm
        go_wp2_with fail
        go_ret
        exact ⟨by rw [← hV2.out]; rfl, rfl⟩
    · have hV2 : Hid (0 = V) := (keptV_none fun j hj => HN.out j (by omega)).symm.trans HV.out
      go_wp2_with fail
      go_ret
      exact ⟨by rw [← hV2.out]; rfl, rfl⟩

set_option maxHeartbeats 1000000 in
theorem KeptOf_any (s : Hs) (o l : Int) (w : World) (hs : s.At w) (hr : anyB s.n (badH s.z) = false) :
    Calls Try.prog 122 #[s.val, .int .i64 o, .int .i64 l] w fun e w' => e = .returned (.int .i64 (keptS s.z o l s.n)) ∧ w' = w := by
  have hbd : Hid (∀ b : Int, 0 ≤ keptV s.n s.z o l b ∧ keptV s.n s.z o l b ≤ 200) := fun b => keptV_bd (fun j hj => (fineH_true (right_fine hr j hj)).2.2.2) o l b
  have hE := kept_eq s.z o l s.n hr
  have HE : Hid (sumTo (fun b => keptV s.n s.z o l b) 6 = keptS s.z o l s.n) := hE
  have HS : Hid _ := hs
  clear hE hr hs
  have sbd : Hid (∀ k : Nat, k ≤ 6 → 0 ≤ sumTo (fun b => keptV s.n s.z o l b) k ∧ sumTo (fun b => keptV s.n s.z o l b) k ≤ 200 * k) := fun k hk => sumTo_bd (n := 6) (fun j _ => hbd.out j) k hk
  generalize keptS s.z o l s.n = E at HE ⊢
  simp only [Hs.val]
  go_enter Try.func122, Try.ntmps122
  go_wp2_with fail
  go_loopw [7, 8] (fun u i wk => ∃ k : Nat, k ≤ 6 ∧ i = .int .i64 k ∧ u = .int .i64 (sumTo (fun b => keptV s.n s.z o l b) k) ∧ wk = w) (fun _ i _ => 6 - (intOf i).toNat)
  case atStart => exact ⟨0, by omega, rfl, rfl, rfl⟩
  case round =>
    obtain ⟨k, hk, rfl, rfl, hw⟩ := hrel
    have HW : Hid (wr = w) := hw
    clear hw
    have m1 := sbd.out k hk
    have m2 := hbd.out k
    have H1 : Hid (sumTo (fun b => keptV s.n s.z o l b) (k + 1) = sumTo (fun b => keptV s.n s.z o l b) k + keptV s.n s.z o l k) := rfl
    by_cases hlt : k < 6
    · generalize sumTo (fun b => keptV s.n s.z o l b) k = U at m1 H1 ⊢
      go_wp2_with fail
      refine calls_to (keptAt_any s o l k wr (by rw [HW.out]; exact HS.out)) ?_
      generalize keptV s.n s.z o l k = V at m2 H1 ⊢
      go_wp2_with fail
      go_roundw
      case rel => exact ⟨k + 1, by omega, by go_num, by rw [H1.out], HW.out⟩
      case measure => simp [intOf]; omega
    · have hk6 : k = 6 := by omega
      subst hk6
      rw [HE.out]
      go_wp2_with fail
      go_ret
      exact ⟨rfl, HW.out⟩

set_option maxHeartbeats 1000000 in
theorem Kept_any (s : Hs) (o l : Int) (w : World) (hs : s.At w) :
    Calls Try.prog 20 #[s.val, .int .i64 o, .int .i64 l] w fun e w' => e = .returned (.tuple #[.int .i64 (if checkH s.n s.z = 0 then keptS s.z o l s.n else 0), .int .i64 (checkH s.n s.z)]) ∧ Below w.heap.size w w' := by
  have HS : Hid _ := hs
  obtain ⟨a, n, c, z⟩ := s
  obtain ⟨hn, hc, hz⟩ := hs
  dsimp only at hn hc hz ⊢
  unfold maxLen at hc
  simp only [Hs.val]
  by_cases h0 : checkH n z = 0
  · have hr : anyB n (badH z) = false := by
      cases h : anyB n (badH z)
      · rfl
      · simp [checkH, h] at h0
    have hlen := right_len hr
    have hN : Hid (∀ j, j < n → 1 ≤ (z j).n ∧ (z j).n ≤ 200) := fun j hj => (fineH_true (right_fine hr j hj)).2.2.2
    have hbd : Hid (∀ k, k ≤ n → 0 ≤ keptS z o l k ∧ keptS z o l k ≤ 200 * k) := fun k hk => keptS_bd o l k fun j hj => hN.out j (by omega)
    rw [if_pos h0]
    have H0 : Hid (checkH n z = 0) := h0
    clear hr
    go_enter Try.func20, Try.ntmps20
    go_wp2_with fail
    refine (holdsCheck_any ⟨a, n, c, z⟩ w HS.out).mono ?_
    rintro e w1 ⟨rfl, hB1⟩
    dsimp only
    go_wp2_with fail
    clear h0
    go_loopw [9, 19] (fun u i wk => ∃ k : Nat, k ≤ n ∧ i = .int .i64 k ∧ u = .int .i64 (keptS z o l k) ∧ Below w.heap.size w wk) (fun _ i _ => n - (intOf i).toNat)
    case atStart => exact ⟨0, Nat.zero_le _, rfl, rfl, hB1⟩
    case round =>
      obtain ⟨k, hk, rfl, rfl, hB⟩ := hrel
      have m1 := hbd.out k hk
      by_cases hlt : k < n
      · obtain ⟨b, q, rfl, hb, z0, z1, z2, z3⟩ := (hz.below hB) k hlt
        have m2 := hN.out k hlt
        have H1 : Hid (keptS z o l (k + 1) = keptS z o l k + if (z k).o = o ∧ (z k).l = l then (z k).n else 0) := rfl
        generalize keptS z o l k = U at m1 H1 ⊢
        cases h1 : ((z k).o == o)
        · have hf : ¬ ((z k).o = o ∧ (z k).l = l) := by simp at h1; omega
          have HF : Hid _ := hf
          clear hf
          go_wp2_with fail
          go_roundw
          case rel => exact ⟨k + 1, by omega, by go_num, by rw [H1.out, if_neg HF.out, Int.add_zero], hB.alloc (by have := hB.size; omega) _⟩
          case measure => simp [intOf]; omega
        · cases h2 : ((z k).l == l)
          · have hf : ¬ ((z k).o = o ∧ (z k).l = l) := by simp at h2; omega
            have HF : Hid _ := hf
            clear hf
            go_wp2_with fail
            go_roundw
            case rel => exact ⟨k + 1, by omega, by go_num, by rw [H1.out, if_neg HF.out, Int.add_zero], hB.alloc (by have := hB.size; omega) _⟩
            case measure => simp [intOf]; omega
          · have hf : ((z k).o = o ∧ (z k).l = l) := by simp at h1 h2; exact ⟨h1, h2⟩
            have HF : Hid _ := hf
            clear hf
            go_wp2_with fail
            go_roundw
            case rel => exact ⟨k + 1, by omega, by go_num, by rw [H1.out, if_pos HF.out], hB.alloc (by have := hB.size; omega) _⟩
            case measure => simp [intOf]; omega
      · have hkn : k = n := by omega
        subst hkn
        go_wp2_with fail
        go_ret2
        exact ⟨by rw [H0.out]; rfl, hB⟩
  · rw [if_neg h0]
    go_enter Try.func20, Try.ntmps20
    go_wp2_with fail
    refine (holdsCheck_any ⟨a, n, c, z⟩ w HS.out).mono ?_
    rintro e w1 ⟨rfl, hB1⟩
    dsimp only
    go_wp2_with fail
    go_ret2
    exact ⟨rfl, hB1⟩

end Go.Proofs.Ytjiodlbblmbibac

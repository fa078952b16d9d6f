/- What a Put that is well comes to. No walk. -/
import Derived.Test.YtjiodlbblmbibacM
namespace Go.Proofs.Ytjiodlbblmbibac
open Go.RowKit
set_option linter.unusedVariables false

theorem putE_zero {p : Pl} {s : Sh} {bin good n : Int} (h : putE p s bin good n = 0) :
    shelfE p s = 0 ∧ ∃ m q : Nat, bin = m ∧ good = q ∧ m < s.n ∧ q < p.ns ∧ -((s.r m).z q) ≤ n ∧ n ≤ 200 - (s.r m).z q := by
  unfold putE at h
  by_cases hE : shelfErr p s bin good = 0
  · have h0 : shelfE p s = 0 := by
      by_cases h : shelfE p s = 0
      · exact h
      · unfold shelfErr at hE; simp [h] at hE
    have hE2 := shelfErr_eq (bin := bin) (good := good) h0
    rw [hE] at hE2
    have h12 : inB bin 0 ((s.n : Int) - 1) = true ∧ inB good 0 ((p.ns : Int) - 1) = true := by
      cases h1 : inB bin 0 ((s.n : Int) - 1) <;> cases h2 : inB good 0 ((p.ns : Int) - 1) <;> simp [h1, h2] at hE2 ⊢
    obtain ⟨h1, h2⟩ := h12
    obtain ⟨m, rfl⟩ := Int.eq_ofNat_of_zero_le (inB_true h1).1
    obtain ⟨q, rfl⟩ := Int.eq_ofNat_of_zero_le (inB_true h2).1
    simp only [hE, beq_self_eq_true, if_true, Int.toNat_natCast] at h
    cases h3 : inB n (-((s.r m).z q)) (200 - (s.r m).z q)
    · simp [h3] at h
    · have a := inB_true h1
      have b := inB_true h2
      exact ⟨h0, m, q, rfl, rfl, by omega, by omega, inB_true h3⟩
  · simp [hE] at h

/-- s' is s with n more pieces of good q in bin m. -/
structure PutAt (p : Pl) (s s' : Sh) (m q : Nat) (n : Int) : Prop where
  sn : s'.n = s.n
  len : ∀ i, i < s.n → (s'.r i).n = (s.r i).n
  z : ∀ i, i < s.n → ∀ j, j < (s.r i).n → (s'.r i).z j = if i = m ∧ j = q then (s.r i).z j + n else (s.r i).z j

theorem shelfE_mk {p : Pl} {s : Sh} (h0 : planE p = 0) (r : RightS p s) : shelfE p s = 0 := by
  unfold shelfE
  have h2 : anyB s.n (fun i => badRow p (s.r i)) = false := anyB_no fun i hi => by
    have h3 : anyB (s.r i).n (fun j => badNum ((s.r i).z j)) = false := anyB_no fun j hj => by
      have := r.num i hi j (by rw [← r.len i hi]; exact hj)
      simp [badNum, inB_mk this]
    rw [badRow, h3, Bool.or_false]
    simp [r.len i hi]
  rw [h2, Bool.or_false]
  simp [h0, r.n]

theorem sumTo_put {z z' : Nat → Int} {m : Nat} {n : Int} : ∀ {k : Nat}, m < k → (∀ i, i < k → z' i = if i = m then z i + n else z i) → sumTo z' k = sumTo z k + n
  | k + 1, hm, h => by
    simp only [sumTo]
    by_cases hk : m = k
    · subst hk
      rw [h m (by omega), if_pos rfl, sumTo_congr (z := z') (z' := z) fun j hj => by rw [h j (by omega), if_neg (by omega)]]
      omega
    · rw [sumTo_put (k := k) (by omega) fun i hi => h i (by omega), h k (by omega), if_neg (by omega)]
      omega

theorem put_facts {p : Pl} {s s' : Sh} {m q : Nat} {n : Int} (h0 : shelfE p s = 0) (hm : m < s.n) (hq : q < p.ns) (hn : -((s.r m).z q) ≤ n ∧ n ≤ 200 - (s.r m).z q) (P : PutAt p s s' m q n) :
    shelfE p s' = 0 ∧ (sumE p s q = 0 ∧ sumE p s' q = 0 ∧ sumV p s' q = sumV p s q + n ∧ 0 ≤ sumV p s q ∧ sumV p s q ≤ 1200) ∧
    (∀ other, usedE p s' other = usedE p s other ∧ (¬ other = (m : Int) → usedV p s' other = usedV p s other)) ∧
    putE p s' m q (-n) = 0 ∧ ∀ i, i < s.n → ∀ j, j < (s.r i).n → putZ s' m q (-n) i j = (s.r i).z j := by
  obtain ⟨hpl, r⟩ := rightS h0
  have hlen : ∀ i, i < s.n → (s.r i).n = p.ns := r.len
  have r' : RightS p s' := by
    refine ⟨r.pl, P.sn.trans r.n, fun i hi => ?_, fun i hi j hj => ?_⟩
    · rw [P.sn] at hi
      rw [P.len i hi, r.len i hi]
    · rw [P.sn] at hi
      rw [P.z i hi j (by rw [hlen i hi]; exact hj)]
      have := r.num i hi j hj
      by_cases hij : i = m ∧ j = q
      · obtain ⟨rfl, rfl⟩ := hij
        simp only [and_self, if_true]
        omega
      · rw [if_neg hij]
        exact this
  have h0' := shelfE_mk hpl r'
  have hqb : inB (q : Int) 0 ((p.ns : Int) - 1) = true := inB_mk (by omega)
  have e1 : sumE p s q = 0 := by simp [sumE, h0, hqb]
  have e2 : sumE p s' q = 0 := by simp [sumE, h0', hqb]
  have hsum : sumTo (fun i => (s'.r i).z q) s.n = sumTo (fun i => (s.r i).z q) s.n + n := by
    refine sumTo_put (m := m) hm fun i hi => ?_
    rw [P.z i hi q (by rw [hlen i hi]; exact hq)]
    by_cases him : i = m
    · simp [him]
    · simp [him]
  have hbd := sumTo_bd (z := fun i => (s.r i).z q) (n := s.n) (fun j hj => r.num j hj q hq) s.n (Nat.le_refl _)
  have hs6 : s.n ≤ 6 := by have := r.pl.nb6; have := r.n; omega
  refine ⟨h0', ⟨e1, e2, ?_, ?_, ?_⟩, fun other => ?_, ?_, fun i hi j hj => ?_⟩
  · simp only [sumV, e1, e2, beq_self_eq_true, if_true, Int.toNat_natCast]
    rw [P.sn]
    exact hsum
  · simp only [sumV, e1, beq_self_eq_true, if_true, Int.toNat_natCast]
    omega
  · simp only [sumV, e1, beq_self_eq_true, if_true, Int.toNat_natCast]
    omega
  · have hu : usedE p s' other = usedE p s other := by simp [usedE, h0, h0', P.sn]
    refine ⟨hu, fun hne => ?_⟩
    unfold usedV
    rw [hu]
    by_cases hz : usedE p s other = 0
    · simp only [hz, beq_self_eq_true, if_true]
      have hb : inB other 0 ((s.n : Int) - 1) = true := by
        cases hb : inB other 0 ((s.n : Int) - 1)
        · simp [usedE, h0, hb] at hz
        · rfl
      have hb' := inB_true hb
      refine usedTo_congr fun j hj => ?_
      have hi : other.toNat < s.n := by omega
      rw [P.z _ hi j (by rw [hlen _ hi]; exact hj), if_neg (by omega)]
    · simp [hz]
  · have hmb : inB (m : Int) 0 ((s'.n : Int) - 1) = true := inB_mk (by have := P.sn; omega)
    have hE : shelfErr p s' m q = 0 := by rw [shelfErr_eq h0']; simp [hmb, hqb]
    have hzz : (s'.r m).z q = (s.r m).z q + n := by rw [P.z m hm q (by rw [hlen m hm]; exact hq)]; simp
    have hnum := r.num m hm q hq
    have h3 : inB (-n) (-((s'.r m).z q)) (200 - (s'.r m).z q) = true := inB_mk (by rw [hzz]; omega)
    simp [putE, hE, h3]
  · simp only [putZ, Int.toNat_natCast]
    rw [P.z i hi j hj]
    by_cases hij : i = m ∧ j = q
    · simp only [hij, and_self, if_true]
      omega
    · simp only [hij, if_false]

end Go.Proofs.Ytjiodlbblmbibac

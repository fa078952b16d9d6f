/- Texts that were built one behind the other, joined. -/
import Derived.Test.YtjiodlbblmbibacHW1J
import Derived.Test.YtjiodlbblmbibacM
/- Holds: the document's own check; keptAt, KeptOf, Kept. -/
namespace Go.Proofs.Ytjiodlbblmbibac
open Go.RowKit Go.Shelf Go.Sort
set_option linter.unusedVariables false

set_option maxHeartbeats 1000000 in
theorem CheckHolds_any (s : Hs) (w : World) (hs : s.At w) :
    Calls Try.prog 119 #[s.val] w fun e w' => e = .returned (.int .i64 (checkH s.n s.z)) ∧ Below w.heap.size w w' := by
  obtain ⟨a, n, c, z⟩ := s
  obtain ⟨hn, hc, hz⟩ := hs
  dsimp only at hn hc hz ⊢
  have hE : Hid (checkH n z = if anyB n (badK z) then 1 else 0) := by show checkH n z = _; rw [bad_eq]; rfl
  unfold maxLen at hc
  simp only [Hs.val]
  generalize checkH n z = E at hE ⊢
  go_enter Try.func119, Try.ntmps119
  go_wp2_with fail
  go_loopw [3] (fun i wk => ∃ k : Nat, k ≤ n ∧ i = .int .i64 k ∧ (∀ j, j < k → badK z j = false) ∧ Below w.heap.size w wk) (fun i _ => n - (intOf i).toNat)
  case atStart => exact ⟨0, Nat.zero_le _, rfl, fun j hj => absurd hj (Nat.not_lt_zero _), Below.refl _ _⟩
  case round =>
    obtain ⟨k, hk, rfl, hno, hB⟩ := hrel
    have HN : Hid (∀ j, j < k → badK z j = false) := hno
    clear hno
    by_cases hlt : k < n
    · have hz1 := hz.below hB
      obtain ⟨b, o, rfl, hb, z0, z1, z2, z3⟩ := hz1 k hlt
      obtain ⟨r0, r1, r2, r3⟩ := hd_regrown z0 z1 z2 z3
      have m1 : (0 : Int) ≤ (k : Int) := by omega
      have m2 : (k : Int) < (n : Int) := by omega
      cases h1 : fineH (z k)
      · have h3 : Hid (anyB n (badK z) = true) := anyB_yes hlt (by simp [badK, h1])
        go_wp2_with fail
        refine wp_region_quiet_below (by kernel_rfl) (by kernel_rfl) ?_
        repeat (go_big_quiet_step ((go_at_call 125; exact Calls.regrown_of (holdFine_any (z k) _))))
        refine wpQuiet_nil ?_
        intro _ hw'
        obtain ⟨⟨dq, osq⟩, hw''⟩ := hw'
        subst hw''
        go_wp2_with fail
        go_ret
        exact ⟨by rw [hE.out, h3.out]; rfl, hB.trans ((below_regrown _ _ _).mono hB.size)⟩
      · by_cases hk0 : k = 0
        · have hb0 : Hid (badK z k = false) := by show badK z k = false; subst hk0; simp [badK, h1]
          subst hk0
          simp only [Nat.zero_mul, Nat.add_zero] at r0 r1 r2 r3
          go_wp2_with fail
          refine wp_region_quiet_below (by kernel_rfl) (by kernel_rfl) ?_
          repeat (go_big_quiet_step ((go_at_call 125; exact Calls.regrown_of (holdFine_any (z 0) _))))
          refine wpQuiet_nil ?_
          intro _ hw'
          obtain ⟨⟨dq, osq⟩, hw''⟩ := hw'
          subst hw''
          go_wp2_with fail
          go_roundw
          case rel =>
            refine ⟨1, by omega, by go_num, ?_, hB.trans ((below_regrown _ _ _).mono hB.size)⟩
            intro j hj
            have : j = 0 := by omega
            rw [this, hb0.out]
          case measure => simp [intOf]; omega
        · obtain ⟨q, rfl⟩ : ∃ q, k = q + 1 := ⟨k - 1, by omega⟩
          have h2 : fineH (z q) = true := by
            have := HN.out q (by omega)
            cases hq : fineH (z q)
            · simp [badK, hq] at this
            · rfl
          obtain ⟨b', o', he, hb', y0, y1, y2, y3⟩ := hz1 q (by omega)
          simp only [Option.some.injEq, Addr.mk.injEq, and_true] at he
          obtain ⟨rfl, rfl⟩ := he
          obtain ⟨p0, p1, p2, p3⟩ := hd_regrown y0 y1 y2 y3
          have m3 : (0 : Int) ≤ (q : Int) := by omega
          have m4 : (q : Int) < (n : Int) := by omega
          have m5 : (0 : Int) < (q : Int) + 1 := by omega
          have HK : Hid _ := And.intro h1 h2
          have hbb : Hid (badK z (q + 1) = decide (keyH (z (q + 1)) ≤ keyH (z q))) := by show badK z (q + 1) = _; simp [badK, h1]
          clear z0 z1 z2 z3 y0 y1 y2 y3 hk0 h2
          cases h4 : decide (keyH (z (q + 1)) ≤ keyH (z q))
          · rw [h4] at hbb
            go_wp2_with fail
            refine wp_region_quiet_below (by kernel_rfl) (by kernel_rfl) ?_
            repeat (go_big_quiet_step (first | (go_at_call 125; exact Calls.regrown_of (holdFine_any (z (q + 1)) _)) | (go_at_call 123; exact Calls.regrown_of (place_any _ _ (by first | exact HK.out.2 | exact HK.out.1)))))
            refine wpQuiet_nil ?_
            intro _ hw'
            obtain ⟨⟨dq, osq⟩, hw''⟩ := hw'
            subst hw''
            go_wp2_with fail
            go_roundw
            case rel =>
              refine ⟨q + 1 + 1, by omega, by go_num, ?_, hB.trans ((below_regrown _ _ _).mono hB.size)⟩
              intro j hj
              by_cases hjk : j = q + 1
              · rw [hjk, hbb.out]
              · exact HN.out j (by omega)
            case measure => simp [intOf]; omega
          · rw [h4] at hbb
            have h3 : Hid (anyB n (badK z) = true) := anyB_yes hlt hbb.out
            go_wp2_with fail
            refine wp_region_quiet_below (by kernel_rfl) (by kernel_rfl) ?_
            repeat (go_big_quiet_step (first | (go_at_call 125; exact Calls.regrown_of (holdFine_any (z (q + 1)) _)) | (go_at_call 123; exact Calls.regrown_of (place_any _ _ (by first | exact HK.out.2 | exact HK.out.1)))))
            refine wpQuiet_nil ?_
            intro _ hw'
            obtain ⟨⟨dq, osq⟩, hw''⟩ := hw'
            subst hw''
            go_wp2_with fail
            go_ret
            exact ⟨by rw [hE.out, h3.out]; rfl, hB.trans ((below_regrown _ _ _).mono hB.size)⟩
    · go_wp2_with fail
      go_ret
      have h3 : anyB n (badK z) = false := anyB_no fun j hj => HN.out j (by omega)
      exact ⟨by rw [hE.out, h3]; rfl, hB⟩

end Go.Proofs.Ytjiodlbblmbibac
/- What a Put that is well comes to. No walk. -/
namespace Go.Proofs.Ytjiodlbblmbibac
open Go.RowKit
set_option linter.unusedVariables false

theorem putE_zero {p : Pl} {s : Sh} {bin good n : Int} (h : putE p s bin good n = 0) :
    shelfE p s = 0 ∧ ∃ m q : Nat, bin = m ∧ good = q ∧ m < s.n ∧ q < p.ns ∧ -((s.r m).z q) ≤ n ∧ n ≤ 200 - (s.r m).z q := by
  unfold putE at h
  by_cases hE : shelfErr p s bin good = 0
  · have h0 : shelfE p s = 0 := by
      by_cases h : shelfE p s = 0
      · exact h
      · unfold shelfErr at hE; simp [h] at hE
    have hE2 := shelfErr_eq (bin := bin) (good := good) h0
    rw [hE] at hE2
    have h12 : inB bin 0 ((s.n : Int) - 1) = true ∧ inB good 0 ((p.ns : Int) - 1) = true := by
      cases h1 : inB bin 0 ((s.n : Int) - 1) <;> cases h2 : inB good 0 ((p.ns : Int) - 1) <;> simp [h1, h2] at hE2 ⊢
    obtain ⟨h1, h2⟩ := h12
    obtain ⟨m, rfl⟩ := Int.eq_ofNat_of_zero_le (inB_true h1).1
    obtain ⟨q, rfl⟩ := Int.eq_ofNat_of_zero_le (inB_true h2).1
    simp only [hE, beq_self_eq_true, if_true, Int.toNat_natCast] at h
    cases h3 : inB n (-((s.r m).z q)) (200 - (s.r m).z q)
    · simp [h3] at h
    · have a := inB_true h1
      have b := inB_true h2
      exact ⟨h0, m, q, rfl, rfl, by omega, by omega, inB_true h3⟩
  · simp [hE] at h

/-- s' is s with n more pieces of good q in bin m. -/
structure PutAt (p : Pl) (s s' : Sh) (m q : Nat) (n : Int) : Prop where
  sn : s'.n = s.n
  len : ∀ i, i < s.n → (s'.r i).n = (s.r i).n
  z : ∀ i, i < s.n → ∀ j, j < (s.r i).n → (s'.r i).z j = if i = m ∧ j = q then (s.r i).z j + n else (s.r i).z j

theorem shelfE_mk {p : Pl} {s : Sh} (h0 : planE p = 0) (r : RightS p s) : shelfE p s = 0 := by
  unfold shelfE
  have h2 : anyB s.n (fun i => badRow p (s.r i)) = false := anyB_no fun i hi => by
    have h3 : anyB (s.r i).n (fun j => badNum ((s.r i).z j)) = false := anyB_no fun j hj => by
      have := r.num i hi j (by rw [← r.len i hi]; exact hj)
      simp [badNum, inB_mk this]
    rw [badRow, h3, Bool.or_false]
    simp [r.len i hi]
  rw [h2, Bool.or_false]
  simp [h0, r.n]

theorem sumTo_put {z z' : Nat → Int} {m : Nat} {n : Int} : ∀ {k : Nat}, m < k → (∀ i, i < k → z' i = if i = m then z i + n else z i) → sumTo z' k = sumTo z k + n
  | k + 1, hm, h => by
    simp only [sumTo]
    by_cases hk : m = k
    · subst hk
      rw [h m (by omega), if_pos rfl, sumTo_congr (z := z') (z' := z) fun j hj => by rw [h j (by omega), if_neg (by omega)]]
      omega
    · rw [sumTo_put (k := k) (by omega) fun i hi => h i (by omega), h k (by omega), if_neg (by omega)]
      omega

theorem put_facts {p : Pl} {s s' : Sh} {m q : Nat} {n : Int} (h0 : shelfE p s = 0) (hm : m < s.n) (hq : q < p.ns) (hn : -((s.r m).z q) ≤ n ∧ n ≤ 200 - (s.r m).z q) (P : PutAt p s s' m q n) :
    shelfE p s' = 0 ∧ (sumE p s q = 0 ∧ sumE p s' q = 0 ∧ sumV p s' q = sumV p s q + n ∧ 0 ≤ sumV p s q ∧ sumV p s q ≤ 1200) ∧
    (∀ other, usedE p s' other = usedE p s other ∧ (¬ other = (m : Int) → usedV p s' other = usedV p s other)) ∧
    putE p s' m q (-n) = 0 ∧ ∀ i, i < s.n → ∀ j, j < (s.r i).n → putZ s' m q (-n) i j = (s.r i).z j := by
  obtain ⟨hpl, r⟩ := rightS h0
  have hlen : ∀ i, i < s.n → (s.r i).n = p.ns := r.len
  have r' : RightS p s' := by
    refine ⟨r.pl, P.sn.trans r.n, fun i hi => ?_, fun i hi j hj => ?_⟩
    · rw [P.sn] at hi
      rw [P.len i hi, r.len i hi]
    · rw [P.sn] at hi
      rw [P.z i hi j (by rw [hlen i hi]; exact hj)]
      have := r.num i hi j hj
      by_cases hij : i = m ∧ j = q
      · obtain ⟨rfl, rfl⟩ := hij
        simp only [and_self, if_true]
        omega
      · rw [if_neg hij]
        exact this
  have h0' := shelfE_mk hpl r'
  have hqb : inB (q : Int) 0 ((p.ns : Int) - 1) = true := inB_mk (by omega)
  have e1 : sumE p s q = 0 := by simp [sumE, h0, hqb]
  have e2 : sumE p s' q = 0 := by simp [sumE, h0', hqb]
  have hsum : sumTo (fun i => (s'.r i).z q) s.n = sumTo (fun i => (s.r i).z q) s.n + n := by
    refine sumTo_put (m := m) hm fun i hi => ?_
    rw [P.z i hi q (by rw [hlen i hi]; exact hq)]
    by_cases him : i = m
    · simp [him]
    · simp [him]
  have hbd := sumTo_bd (z := fun i => (s.r i).z q) (n := s.n) (fun j hj => r.num j hj q hq) s.n (Nat.le_refl _)
  have hs6 : s.n ≤ 6 := by have := r.pl.nb6; have := r.n; omega
  refine ⟨h0', ⟨e1, e2, ?_, ?_, ?_⟩, fun other => ?_, ?_, fun i hi j hj => ?_⟩
  · simp only [sumV, e1, e2, beq_self_eq_true, if_true, Int.toNat_natCast]
    rw [P.sn]
    exact hsum
  · simp only [sumV, e1, beq_self_eq_true, if_true, Int.toNat_natCast]
    omega
  · simp only [sumV, e1, beq_self_eq_true, if_true, Int.toNat_natCast]
    omega
  · have hu : usedE p s' other = usedE p s other := by simp [usedE, h0, h0', P.sn]
    refine ⟨hu, fun hne => ?_⟩
    unfold usedV
    rw [hu]
    by_cases hz : usedE p s other = 0
    · simp only [hz, beq_self_eq_true, if_true]
      have hb : inB other 0 ((s.n : Int) - 1) = true := by
        cases hb : inB other 0 ((s.n : Int) - 1)
        · simp [usedE, h0, hb] at hz
        · rfl
      have hb' := inB_true hb
      refine usedTo_congr fun j hj => ?_
      have hi : other.toNat < s.n := by omega
      rw [P.z _ hi j (by rw [hlen _ hi]; exact hj), if_neg (by omega)]
    · simp [hz]
  · have hmb : inB (m : Int) 0 ((s'.n : Int) - 1) = true := inB_mk (by have := P.sn; omega)
    have hE : shelfErr p s' m q = 0 := by rw [shelfErr_eq h0']; simp [hmb, hqb]
    have hzz : (s'.r m).z q = (s.r m).z q + n := by rw [P.z m hm q (by rw [hlen m hm]; exact hq)]; simp
    have hnum := r.num m hm q hq
    have h3 : inB (-n) (-((s'.r m).z q)) (200 - (s'.r m).z q) = true := inB_mk (by rw [hzz]; omega)
    simp [putE, hE, h3]
  · simp only [putZ, Int.toNat_natCast]
    rw [P.z i hi j hj]
    by_cases hij : i = m ∧ j = q
    · simp only [hij, and_self, if_true]
      omega
    · simp only [hij, if_false]

end Go.Proofs.Ytjiodlbblmbibac

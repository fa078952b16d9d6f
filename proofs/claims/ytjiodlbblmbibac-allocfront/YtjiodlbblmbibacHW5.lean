/- Holds: the binary search. -/
import Derived.Test.YtjiodlbblmbibacHW4
namespace Go.Proofs.Ytjiodlbblmbibac
open Go.RowKit Go.Shelf Go.Sort
set_option linter.unusedVariables false

/-- Where a hold stands, or would. -/
structure PosH (n : Nat) (z : Nat → Hd) (t : Hd) (i : Nat) : Prop where
  le : i ≤ n
  lo : ∀ q, q < i → cmpH (z q) t < 0
  hi : ∀ q, i ≤ q → q < n → 0 ≤ cmpH (z q) t

theorem right_cmp {n : Nat} {z : Nat → Hd} (h : anyB n (badH z) = false) (p q : Nat) (hpq : p < q) (hq : q < n) : cmpH (z p) (z q) < 0 := by
  have f1 := right_fine h p (by omega)
  have f2 := right_fine h q hq
  have := (cmp_key f1 f2).1
  have := right_lt h p q hpq hq
  omega

set_option maxHeartbeats 1000000 in
theorem Search_any (s : Hs) (t : Hd) (w : World) (hs : s.At w) (hr : anyB s.n (badH s.z) = false) :
    Calls Try.prog 94 #[s.val, t.val, .func (.func 95) #[] #[]] w fun e w' => ∃ i : Nat, e = .returned (.tuple #[.int .i64 i, .bool (decide (i < s.n) && decide (cmpH (s.z i) t = 0))]) ∧ PosH s.n s.z t i ∧ Below w.heap.size w w' := by
  have hlen := right_len hr
  have HC : Hid (∀ p q, p < q → q < s.n → cmpH (s.z p) (s.z q) < 0) := fun p q h1 h2 => right_cmp hr p q h1 h2
  clear hr
  obtain ⟨a, n, c, z⟩ := s
  obtain ⟨hn, hc, hz⟩ := hs
  dsimp only at hn hc hz hlen HC ⊢
  unfold maxLen at hc
  have hB0 : Below w.heap.size w (w.alloc (.cells #[.int .i64 t.o, .int .i64 t.l, .int .i64 t.b, .int .i64 t.n] 65)) := (Below.refl _ _).alloc (Nat.le_refl _) _
  have hT : Hid (∀ w1, Below (w.heap.size + 1) (w.alloc (.cells #[.int .i64 t.o, .int .i64 t.l, .int .i64 t.b, .int .i64 t.n] 65)) w1 → w1.cell? ⟨w.heap.size, 0, none⟩ = some (.int .i64 t.o) ∧ w1.cell? ⟨w.heap.size, 0 + 1, none⟩ = some (.int .i64 t.l) ∧ w1.cell? ⟨w.heap.size, 0 + 2, none⟩ = some (.int .i64 t.b) ∧ w1.cell? ⟨w.heap.size, 0 + 3, none⟩ = some (.int .i64 t.n)) := fun w1 h =>
    ⟨(h.cell (p := ⟨w.heap.size, 0, none⟩) (by simp)).trans (by simp), (h.cell (p := ⟨w.heap.size, 1, none⟩) (by simp)).trans (by simp), (h.cell (p := ⟨w.heap.size, 2, none⟩) (by simp)).trans (by simp), (h.cell (p := ⟨w.heap.size, 3, none⟩) (by simp)).trans (by simp)⟩
  simp only [Hs.val, Hd.val]
  go_enter Try.func94, Try.ntmps94
  go_wp2_with fail
  go_loopw [9, 10] (fun u v wk => ∃ i j : Nat, i ≤ j ∧ j ≤ n ∧ u = .int .i64 i ∧ v = .int .i64 j ∧ (∀ q, q < i → cmpH (z q) t < 0) ∧ (∀ q, j ≤ q → q < n → 0 ≤ cmpH (z q) t) ∧ Below (w.heap.size + 1) (w.alloc (.cells #[.int .i64 t.o, .int .i64 t.l, .int .i64 t.b, .int .i64 t.n] 65)) wk) (fun u v _ => (intOf v).toNat - (intOf u).toNat)
  case atStart => exact ⟨0, n, Nat.zero_le _, Nat.le_refl _, rfl, rfl, fun q hq => absurd hq (Nat.not_lt_zero _), fun q h1 h2 => by omega, Below.refl _ _⟩
  case round =>
    obtain ⟨i, j, hij, hj, rfl, rfl, hlo, hhi, hB⟩ := hrel
    have HL : Hid _ := And.intro hlo hhi
    clear hlo hhi
    have hB' : Below w.heap.size w wr := hB0.trans (hB.mono (by omega))
    have hsz : w.heap.size + 1 ≤ wr.heap.size := by have := hB.size; simpa using this
    obtain ⟨t0, t1, t2, t3⟩ := hT.out wr hB
    obtain ⟨p0, p1, p2, p3⟩ := hd_regrown t0 t1 t2 t3
    simp only [Nat.zero_add] at p1 p2 p3
    clear t0 t1 t2 t3
    by_cases hlt : i < j
    · obtain ⟨m, hm⟩ : ∃ m, m = (i + j) / 2 := ⟨_, rfl⟩
      have hm1 : i ≤ m ∧ m < j := by omega
      have hm2 : Hid (((i : Int) + (j : Int)) / 2 = (m : Int)) := by show ((i : Int) + (j : Int)) / 2 = (m : Int); omega
      clear hm
      have hh : m < n := by omega
      obtain ⟨b, o, rfl, hb, z0, z1, z2, z3⟩ := (hz.below hB') _ hh
      obtain ⟨r0, r1, r2, r3⟩ := hd_regrown z0 z1 z2 z3
      clear z0 z1 z2 z3
      have m3 : (0 : Int) ≤ (m : Int) := by omega
      have m4 : (m : Int) < (n : Int) := by omega
      go_wp2_with fail
      rw [hm2.out]
      cases h1 : decide (cmpH (z m) t < 0)
      · have h2 : ¬ cmpH (z m) t < 0 := by simpa using h1
        have H2 : Hid _ := h2
        clear h2
        refine wp_region_quiet_below (by kernel_rfl) (by kernel_rfl) ?_
        repeat (go_big_quiet_step ((go_at_call 95; exact Calls.regrown_of (compare_any (z m) t _))))
        refine wpQuiet_nil ?_
        intro _ hw'
        obtain ⟨⟨dq, osq⟩, hw''⟩ := hw'
        subst hw''
        go_wp2_with fail
        go_roundw
        case rel =>
          refine ⟨i, m, hm1.1, by omega, by go_num, by go_num, HL.out.1, fun q h1 h2 => ?_, hB.trans ((below_regrown _ _ _).mono hsz)⟩
          by_cases hqm : q = m
          · rw [hqm]; exact Int.not_lt.1 H2.out
          · rcases Int.lt_or_le (cmpH (z q) t) 0 with h | h
            · exact absurd (cmp_trans (HC.out m q (by omega) h2) h) H2.out
            · exact h
        case measure => simp [intOf]; omega
      · have h2 : cmpH (z m) t < 0 := by simpa using h1
        have H2 : Hid _ := h2
        clear h2
        refine wp_region_quiet_below (by kernel_rfl) (by kernel_rfl) ?_
        repeat (go_big_quiet_step ((go_at_call 95; exact Calls.regrown_of (compare_any (z m) t _))))
        refine wpQuiet_nil ?_
        intro _ hw'
        obtain ⟨⟨dq, osq⟩, hw''⟩ := hw'
        subst hw''
        go_wp2_with fail
        go_roundw
        case rel =>
          refine ⟨m + 1, j, by omega, hj, by go_num, by go_num, fun q hq => ?_, HL.out.2, hB.trans ((below_regrown _ _ _).mono hsz)⟩
          by_cases hqm : q = m
          · rw [hqm]; exact H2.out
          · exact cmp_trans (HC.out q m (by omega) (by omega)) H2.out
        case measure => simp [intOf]; omega
    · have hij' : i = j := by omega
      subst hij'
      have HP : Hid (PosH n z t i) := ⟨hj, HL.out.1, HL.out.2⟩
      by_cases hin : i < n
      · obtain ⟨b, o, rfl, hb, z0, z1, z2, z3⟩ := (hz.below hB') _ hin
        obtain ⟨r0, r1, r2, r3⟩ := hd_regrown z0 z1 z2 z3
        clear z0 z1 z2 z3
        have m3 : (0 : Int) ≤ (i : Int) := by omega
        have m4 : (i : Int) < (n : Int) := by omega
        have hd : decide ((i : Int) < (n : Int)) = true := by simp; omega
        go_wp2_with fail
        refine wp_region_quiet_below (by kernel_rfl) (by kernel_rfl) ?_
        repeat (go_big_quiet_step ((go_at_call 95; exact Calls.regrown_of (compare_any (z i) t _))))
        refine wpQuiet_nil ?_
        intro _ hw'
        obtain ⟨⟨dq, osq⟩, hw''⟩ := hw'
        subst hw''
        go_wp2_with fail
        go_ret2
        refine ⟨i, ?_, HP.out, hB'.trans ((below_regrown _ _ _).mono hB'.size)⟩
        simp [hin]
        rfl
      · have hd : decide ((i : Int) < (n : Int)) = false := by simp; omega
        go_wp2_with fail
        refine wp_region_quiet_below (by kernel_rfl) (by kernel_rfl) ?_
        repeat (go_big_quiet_step ((go_at_call 95; exact Calls.regrown_of (compare_any (z i) t _))))
        refine wpQuiet_nil ?_
        intro _ hw'
        obtain ⟨⟨dq, osq⟩, hw''⟩ := hw'
        subst hw''
        go_wp2_with fail
        go_ret2
        refine ⟨i, ?_, HP.out, hB'.trans ((below_regrown _ _ _).mono hB'.size)⟩
        simp [hin]

end Go.Proofs.Ytjiodlbblmbibac

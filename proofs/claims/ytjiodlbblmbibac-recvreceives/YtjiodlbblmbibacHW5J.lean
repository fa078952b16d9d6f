/- Texts that were built one behind the other, joined. -/
import Derived.Test.YtjiodlbblmbibacH2J
import Derived.Lib.AppendZerosOnto
import Derived.Lib.Walk
import Derived.Lib.SliceRun
import Derived.Laws.AppendOwnNone
/- Holds: the binary search. -/
namespace Go.Proofs.Ytjiodlbblmbibac
open Go.RowKit Go.Shelf Go.Sort
set_option linter.unusedVariables false

/-- Where a hold stands, or would. -/
structure PosH (n : Nat) (z : Nat → Hd) (t : Hd) (i : Nat) : Prop where
  le : i ≤ n
  lo : ∀ q, q < i → cmpH (z q) t < 0
  hi : ∀ q, i ≤ q → q < n → 0 ≤ cmpH (z q) t

theorem right_cmp {n : Nat} {z : Nat → Hd} (h : anyB n (badH z) = false) (p q : Nat) (hpq : p < q) (hq : q < n) : cmpH (z p) (z q) < 0 := by
  have f1 := right_fine h p (by omega)
  have f2 := right_fine h q hq
  have := (cmp_key f1 f2).1
  have := right_lt h p q hpq hq
  omega

set_option maxHeartbeats 1000000 in
theorem Search_any (s : Hs) (t : Hd) (w : World) (hs : s.At w) (hr : anyB s.n (badH s.z) = false) :
    Calls Try.prog 94 #[s.val, t.val, .func (.func 95) #[] #[]] w fun e w' => ∃ i : Nat, e = .returned (.tuple #[.int .i64 i, .bool (decide (i < s.n) && decide (cmpH (s.z i) t = 0))]) ∧ PosH s.n s.z t i ∧ Below w.heap.size w w' := by
  have hlen := right_len hr
  have HC : Hid (∀ p q, p < q → q < s.n → cmpH (s.z p) (s.z q) < 0) := fun p q h1 h2 => right_cmp hr p q h1 h2
  clear hr
  obtain ⟨a, n, c, z⟩ := s
  obtain ⟨hn, hc, hz⟩ := hs
  dsimp only at hn hc hz hlen HC ⊢
  unfold maxLen at hc
  have hB0 : Below w.heap.size w (w.alloc (.cells #[.int .i64 t.o, .int .i64 t.l, .int .i64 t.b, .int .i64 t.n] 65)) := (Below.refl _ _).alloc (Nat.le_refl _) _
  have hT : Hid (∀ w1, Below (w.heap.size + 1) (w.alloc (.cells #[.int .i64 t.o, .int .i64 t.l, .int .i64 t.b, .int .i64 t.n] 65)) w1 → w1.cell? ⟨w.heap.size, 0, none⟩ = some (.int .i64 t.o) ∧ w1.cell? ⟨w.heap.size, 0 + 1, none⟩ = some (.int .i64 t.l) ∧ w1.cell? ⟨w.heap.size, 0 + 2, none⟩ = some (.int .i64 t.b) ∧ w1.cell? ⟨w.heap.size, 0 + 3, none⟩ = some (.int .i64 t.n)) := fun w1 h =>
    ⟨(h.cell (p := ⟨w.heap.size, 0, none⟩) (by simp)).trans (by simp), (h.cell (p := ⟨w.heap.size, 1, none⟩) (by simp)).trans (by simp), (h.cell (p := ⟨w.heap.size, 2, none⟩) (by simp)).trans (by simp), (h.cell (p := ⟨w.heap.size, 3, none⟩) (by simp)).trans (by simp)⟩
  simp only [Hs.val, Hd.val]
  go_enter Try.func94, Try.ntmps94
  go_wp2_with fail
  go_loopw [9, 10] (fun u v wk => ∃ i j : Nat, i ≤ j ∧ j ≤ n ∧ u = .int .i64 i ∧ v = .int .i64 j ∧ (∀ q, q < i → cmpH (z q) t < 0) ∧ (∀ q, j ≤ q → q < n → 0 ≤ cmpH (z q) t) ∧ Below (w.heap.size + 1) (w.alloc (.cells #[.int .i64 t.o, .int .i64 t.l, .int .i64 t.b, .int .i64 t.n] 65)) wk) (fun u v _ => (intOf v).toNat - (intOf u).toNat)
  case atStart => exact ⟨0, n, Nat.zero_le _, Nat.le_refl _, rfl, rfl, fun q hq => absurd hq (Nat.not_lt_zero _), fun q h1 h2 => by omega, Below.refl _ _⟩
  case round =>
    obtain ⟨i, j, hij, hj, rfl, rfl, hlo, hhi, hB⟩ := hrel
    have HL : Hid _ := And.intro hlo hhi
    clear hlo hhi
    have hB' : Below w.heap.size w wr := hB0.trans (hB.mono (by omega))
    have hsz : w.heap.size + 1 ≤ wr.heap.size := by have := hB.size; simpa using this
    obtain ⟨t0, t1, t2, t3⟩ := hT.out wr hB
    obtain ⟨p0, p1, p2, p3⟩ := hd_regrown t0 t1 t2 t3
    simp only [Nat.zero_add] at p1 p2 p3
    clear t0 t1 t2 t3
    by_cases hlt : i < j
    · obtain ⟨m, hm⟩ : ∃ m, m = (i + j) / 2 := ⟨_, rfl⟩
      have hm1 : i ≤ m ∧ m < j := by omega
      have hm2 : Hid (((i : Int) + (j : Int)) / 2 = (m : Int)) := by show ((i : Int) + (j : Int)) / 2 = (m : Int); omega
      clear hm
      have hh : m < n := by omega
      obtain ⟨b, o, rfl, hb, z0, z1, z2, z3⟩ := (hz.below hB') _ hh
      obtain ⟨r0, r1, r2, r3⟩ := hd_regrown z0 z1 z2 z3
      clear z0 z1 z2 z3
      have m3 : (0 : Int) ≤ (m : Int) := by omega
      have m4 : (m : Int) < (n : Int) := by omega
      go_wp2_with fail
      rw [hm2.out]
      cases h1 : decide (cmpH (z m) t < 0)
      · have h2 : ¬ cmpH (z m) t < 0 := by simpa using h1
        have H2 : Hid _ := h2
        clear h2
        refine wp_region_quiet_below (by kernel_rfl) (by kernel_rfl) ?_
        repeat (go_big_quiet_step ((go_at_call 95; exact Calls.regrown_of (compare_any (z m) t _))))
        refine wpQuiet_nil ?_
        intro _ hw'
        obtain ⟨⟨dq, osq⟩, hw''⟩ := hw'
        subst hw''
        go_wp2_with fail
        go_roundw
        case rel =>
          refine ⟨i, m, hm1.1, by omega, by go_num, by go_num, HL.out.1, fun q h1 h2 => ?_, hB.trans ((below_regrown _ _ _).mono hsz)⟩
          by_cases hqm : q = m
          · rw [hqm]; exact Int.not_lt.1 H2.out
          · rcases Int.lt_or_le (cmpH (z q) t) 0 with h | h
            · exact absurd (cmp_trans (HC.out m q (by omega) h2) h) H2.out
            · exact h
        case measure => simp [intOf]; omega
      · have h2 : cmpH (z m) t < 0 := by simpa using h1
        have H2 : Hid _ := h2
        clear h2
        refine wp_region_quiet_below (by kernel_rfl) (by kernel_rfl) ?_
        repeat (go_big_quiet_step ((go_at_call 95; exact Calls.regrown_of (compare_any (z m) t _))))
        refine wpQuiet_nil ?_
        intro _ hw'
        obtain ⟨⟨dq, osq⟩, hw''⟩ := hw'
        subst hw''
        go_wp2_with fail
        go_roundw
        case rel =>
          refine ⟨m + 1, j, by omega, hj, by go_num, by go_num, fun q hq => ?_, HL.out.2, hB.trans ((below_regrown _ _ _).mono hsz)⟩
          by_cases hqm : q = m
          · rw [hqm]; exact H2.out
          · exact cmp_trans (HC.out q m (by omega) (by omega)) H2.out
        case measure => simp [intOf]; omega
    · have hij' : i = j := by omega
      subst hij'
      have HP : Hid (PosH n z t i) := ⟨hj, HL.out.1, HL.out.2⟩
      by_cases hin : i < n
      · obtain ⟨b, o, rfl, hb, z0, z1, z2, z3⟩ := (hz.below hB') _ hin
        obtain ⟨r0, r1, r2, r3⟩ := hd_regrown z0 z1 z2 z3
        clear z0 z1 z2 z3
        have m3 : (0 : Int) ≤ (i : Int) := by omega
        have m4 : (i : Int) < (n : Int) := by omega
        have hd : decide ((i : Int) < (n : Int)) = true := by simp; omega
        go_wp2_with fail
        refine wp_region_quiet_below (by kernel_rfl) (by kernel_rfl) ?_
        repeat (go_big_quiet_step ((go_at_call 95; exact Calls.regrown_of (compare_any (z i) t _))))
        refine wpQuiet_nil ?_
        intro _ hw'
        obtain ⟨⟨dq, osq⟩, hw''⟩ := hw'
        subst hw''
        go_wp2_with fail
        go_ret2
        refine ⟨i, ?_, HP.out, hB'.trans ((below_regrown _ _ _).mono hB'.size)⟩
        simp [hin]
        rfl
      · have hd : decide ((i : Int) < (n : Int)) = false := by simp; omega
        go_wp2_with fail
        refine wp_region_quiet_below (by kernel_rfl) (by kernel_rfl) ?_
        repeat (go_big_quiet_step ((go_at_call 95; exact Calls.regrown_of (compare_any (z i) t _))))
        refine wpQuiet_nil ?_
        intro _ hw'
        obtain ⟨⟨dq, osq⟩, hw''⟩ := hw'
        subst hw''
        go_wp2_with fail
        go_ret2
        refine ⟨i, ?_, HP.out, hB'.trans ((below_regrown _ _ _).mono hB'.size)⟩
        simp [hin]

end Go.Proofs.Ytjiodlbblmbibac
/- Holds: slices.Grow of nothing, slices.Concat. -/
namespace Go.Proofs.Ytjiodlbblmbibac
open Go.RowKit Go.Shelf Go.Lib
set_option linter.unusedVariables false

theorem infoHold : (Try.prog.info? 65).map (fun i => (i.zero, i.size, i.bytes)) = some (some (.agg #[.int .i64 0, .int .i64 0, .int .i64 0, .int .i64 0]), 4, 32) := by kernel_rfl

set_option maxHeartbeats 2000000 in
set_option maxRecDepth 100000 in
theorem Grow_nil (n : Nat) (w : World) (hn : n ≤ 1000) :
    Calls Try.prog 117 #[.slice none 0 0, .int .i64 n] w fun e w' => ∃ v, e = .returned v ∧ w'.ownsRow w.heap.size 65 4 v 0 [] ∧ Below w.heap.size w w' := by
  obtain ⟨i0, hi, hz0, hz1, hz2⟩ := info_parts infoHold
  by_cases h0 : n = 0
  · subst h0
    go_enter Try.func117, Try.ntmps117
    go_wp2
    go_ret
    exact ⟨_, rfl, World.ownsRow_nil _ _ _ _, Below.refl _ _⟩
  · have hold : (Builtin.firstCells i0.size 0 (.slice none 0 0)).run Try.prog w.drew = .ok (#[] : Array Value) w.drew := run_firstCells_none w.drew i0.size 0 0 0
    have hrz : ∀ ty, (Builtin.append_ #[28, 3] ty #[.slice none 0 0, .int .i64 (n : Int)]).run Try.prog w =
        .ok (.slice (some ⟨w.heap.size, 0, none⟩) n (grownCap w n 0 65)) (w.drew.alloc (.cells (#[] ++ Builtin.zeroCells (Value.agg #[.int .i64 0, .int .i64 0, .int .i64 0, .int .i64 0]).cells n ++ Builtin.zeroCells (Value.agg #[.int .i64 0, .int .i64 0, .int .i64 0, .int .i64 0]).cells (grownCap w n 0 65 - n)) 65)) := fun ty => by
      have h := Lib.run_append_grow_zeros w 28 3 ty 65 i0 (.agg #[.int .i64 0, .int .i64 0, .int .i64 0, .int .i64 0]) .i64 .i64 Try.underlying28 Try.underlying3 hi hz0 none 0 0 [] hold n (by omega) (by omega) (by omega) (by omega)
        (by rw [hz2]; omega)
        (by rw [Nat.zero_add]; exact growslice_fits (by omega) (by rw [hz2]; omega))
      rw [Nat.zero_add] at h
      exact h
    have hGn : n ≤ grownCap w n 0 65 := grownCap_ge w _ _ _
    have hG63 := grownCap_le_maxLen w n 0 65 (by unfold maxLen; omega)
    obtain ⟨G, hG⟩ : ∃ G, G = grownCap w n 0 65 := ⟨_, rfl⟩
    rw [← hG] at hrz hGn hG63
    have HM : Hid (G ≤ maxLen) := hG63
    unfold maxLen at hG63
    have hn1 : (0 : Int) < (n : Int) := by omega
    clear hold hG
    go_enter Try.func117, Try.ntmps117
    go_wp2_with (at_builtin; refine Lib.wpList_append_run _ rfl _ _ _ _ rfl _ _ rfl rfl _ _ (hrz _) ?_)
    go_ret
    refine ⟨_, rfl, ?_, ((Below.refl _ _).alloc (Nat.le_refl _) _).drew⟩
    exact (World.ownsRow_made (base := w.heap.size) (e := 65) (size := 4) w (Builtin.zeroCells #[.int .i64 0, .int .i64 0, .int .i64 0, .int .i64 0] n ++ Builtin.zeroCells #[.int .i64 0, .int .i64 0, .int .i64 0, .int .i64 0] (G - n)) G (Nat.le_refl _) HM.out (by
      simp [Builtin.zeroCells]; omega)).drew

/-- The cells of holds, one behind the other. -/
def flatH (n : Nat) (z : Nat → Hd) : List Value := (List.range n).flatMap fun i => hdCells (z i)
theorem flatH_len : ∀ (n : Nat) (z : Nat → Hd), (flatH n z).length = n * 4
  | 0, _ => rfl
  | n + 1, z => by
    have := flatH_len n z
    unfold flatH at *
    rw [List.range_succ, List.flatMap_append, List.length_append, this]
    simp [hdCells]
    omega
theorem flatH_succ (n : Nat) (z : Nat → Hd) : flatH (n + 1) z = flatH n z ++ hdCells (z n) := by
  unfold flatH
  rw [List.range_succ, List.flatMap_append]
  simp
theorem flatH_get : ∀ (n : Nat) (z : Nat → Hd) (i c : Nat), i < n → c < 4 → (flatH n z)[i * 4 + c]? = (hdCells (z i))[c]?
  | n + 1, z, i, c, hi, hc => by
    rw [flatH_succ]
    by_cases hin : i = n
    · subst hin
      rw [List.getElem?_append_right (by rw [flatH_len]; omega), flatH_len]
      congr 1
      omega
    · rw [List.getElem?_append_left (by rw [flatH_len]; omega)]
      exact flatH_get n z i c (by omega) hc
theorem flatH_congr {n : Nat} {z z' : Nat → Hd} (h : ∀ i, i < n → z i = z' i) : flatH n z = flatH n z' := by
  unfold flatH
  rw [List.flatMap_def, List.flatMap_def]
  rw [List.map_congr_left fun i hi => by rw [h i (List.mem_range.1 hi)]]
theorem flatH_one (n : Nat) (z : Nat → Hd) : ∀ u ∈ flatH n z, u.oneCell' = true := by
  intro u hu
  unfold flatH at hu
  rw [List.mem_flatMap] at hu
  obtain ⟨i, _, hi⟩ := hu
  simp [hdCells] at hi
  rcases hi with rfl | rfl | rfl | rfl <;> rfl

/-- What is appended lies there. -/
theorem HdsAt.news {w : World} {b o n : Nat} {z : Nat → Hd} (h : HdsAt w (some ⟨b, o, none⟩) n z) : ∀ j u, (flatH n z)[j]? = some u → w.cell? ((⟨b, o, none⟩ : Addr).add j) = some u := by
  intro j u hj
  have hlt : j < n * 4 := by
    have := (List.getElem?_eq_some_iff.1 hj).1
    rwa [flatH_len] at this
  have hjd : j = (j / 4) * 4 + j % 4 := by omega
  have hq : j / 4 < n := by omega
  obtain ⟨b', o', he, _, h0, h1, h2, h3⟩ := h (j / 4) hq
  simp only [Option.some.injEq, Addr.mk.injEq, and_true] at he
  obtain ⟨rfl, rfl⟩ := he
  rw [hjd, flatH_get n z _ _ hq (by omega)] at hj
  rw [Go.WideShapes.add_plain]
  have hc : j % 4 = 0 ∨ j % 4 = 1 ∨ j % 4 = 2 ∨ j % 4 = 3 := by omega
  rcases hc with hc | hc | hc | hc
  · rw [hc] at hj; simp [hdCells] at hj; rw [← hj, ← h0]; congr 2; omega
  · rw [hc] at hj; simp [hdCells] at hj; rw [← hj, ← h1]; congr 2; omega
  · rw [hc] at hj; simp [hdCells] at hj; rw [← hj, ← h2]; congr 2; omega
  · rw [hc] at hj; simp [hdCells] at hj; rw [← hj, ← h3]; congr 2; omega

/-- What the call itself has made, read as holds. -/
theorem Hs.ofOwns {w : World} {base : Nat} {e : TypeId} {v : Value} {n : Nat} {z : Nat → Hd} (h : w.ownsRow base e 4 v n (flatH n z)) : ∃ s : Hs, v = s.val ∧ s.At w ∧ s.n = n ∧ s.z = z := by
  by_cases hv : v = .slice none 0 0
  · have hn : n = 0 := by
      rcases h.2 with ⟨_, h0⟩ | ⟨g, cap, cur, hv', _⟩
      · exact h0
      · rw [hv] at hv'; cases hv'
    subst hn
    exact ⟨⟨none, 0, 0, z⟩, hv, ⟨Nat.le_refl _, Nat.zero_le _, fun i hi => absurd hi (Nat.not_lt_zero _), fun _ => rfl⟩, rfl, rfl⟩
  · obtain ⟨g, c, rfl, h1, h2, h3, h4⟩ := Blk.ofOwns h hv
    refine ⟨⟨some ⟨g, 0, none⟩, n, c, z⟩, rfl, ⟨h1, h2, fun i hi => ?_, fun h => by cases h⟩, rfl, rfl⟩
    have hi' : i < n := hi
    have k : ∀ q, q < 4 → w.cell? ⟨g, 0 + i * 4 + q, none⟩ = some ((flatH n z).getD (i * 4 + q) default) := fun q hq => by
      rw [Nat.zero_add]
      exact h4.cell (by omega)
    have e : ∀ q, q < 4 → (flatH n z).getD (i * 4 + q) default = (hdCells (z i)).getD q default := fun q hq => by
      simp only [List.getD, flatH_get n z i q hi' hq]
    refine ⟨g, 0, rfl, h4.lt, ?_, ?_, ?_, ?_⟩
    · have := k 0 (by omega); rw [e 0 (by omega)] at this; simpa [hdCells] using this
    · have := k 1 (by omega); rw [e 1 (by omega)] at this; simpa [hdCells] using this
    · have := k 2 (by omega); rw [e 2 (by omega)] at this; simpa [hdCells] using this
    · have := k 3 (by omega); rw [e 3 (by omega)] at this; simpa [hdCells] using this

end Go.Proofs.Ytjiodlbblmbibac
/- Holds: slices.Concat. -/
namespace Go.Proofs.Ytjiodlbblmbibac
open Go.RowKit Go.Shelf
set_option linter.unusedVariables false

def sumN (S : Nat → Hs) : Nat → Nat
  | 0 => 0
  | k + 1 => sumN S k + (S k).n
def catC (S : Nat → Hs) : Nat → List Value
  | 0 => []
  | k + 1 => catC S k ++ flatH (S k).n (S k).z
theorem sumN_le {S : Nat → Hs} {m : Nat} (h : ∀ i, i < m → (S i).n ≤ 100) : ∀ k, k ≤ m → sumN S k ≤ 100 * k
  | 0, _ => by simp [sumN]
  | k + 1, hk => by
    have := sumN_le h k (by omega)
    have := h k (by omega)
    simp only [sumN]
    omega

set_option maxRecDepth 100000 in
set_option maxHeartbeats 2000000 in
theorem Concat_any (m g c0 : Nat) (S : Nat → Hs) (w : World) (hm : m ≤ 3) (hc0 : m ≤ c0) (hc1 : c0 ≤ maxLen) (hg : Blk w g 28 m (fun i => .slice (S i).a (S i).n (S i).c)) (hat : ∀ i, i < m → (S i).At w) (hn : ∀ i, i < m → (S i).n ≤ 100) :
    Calls Try.prog 96 #[.slice (some ⟨g, 0, none⟩) m c0] w fun e w' => ∃ v, e = .returned v ∧ w'.ownsRow w.heap.size 65 4 v (sumN S m) (catC S m) ∧ Below w.heap.size w w' := by
  obtain ⟨i0, hi, hz0, hz1, hz2⟩ := info_parts infoHold
  have HA : Hid (∀ i, i < m → (S i).At w) := hat
  have HN : Hid (∀ i, i < m → (S i).n ≤ 100) := hn
  clear hat hn
  unfold maxLen at hc1
  go_enter Try.func96, Try.ntmps96
  go_wp2_with fail
  go_loop [3, 11] (fun u i => ∃ k : Nat, k ≤ m ∧ i = .int .i64 k ∧ u = .int .i64 (sumN S k : Nat)) (fun _ i => m - (intOf i).toNat)
  case atStart => exact ⟨0, Nat.zero_le _, rfl, rfl⟩
  case round =>
    obtain ⟨k, hk, rfl, rfl⟩ := hrel
    have b1 := sumN_le HN.out k hk
    by_cases hlt : k < m
    · have b2 := HN.out k hlt
      have z0 := hg.cell hlt
      have le := (HA.out k hlt).le
      have cap := (HA.out k hlt).cap
      unfold maxLen at cap
      have H1 : Hid (sumN S (k + 1) = sumN S k + (S k).n) := rfl
      generalize sumN S k = U at b1 H1 ⊢
      go_wp2_with fail
      go_round
      case rel => exact ⟨k + 1, by omega, by go_num, by rw [H1.out]; go_num⟩
      case measure => simp [intOf]; omega
    · have hkm : k = m := by omega
      subst hkm
      go_wp2_with fail
      refine (Grow_nil (sumN S k) w (by omega)).mono ?_
      rintro e w1 ⟨v0, rfl, hown, hB1⟩
      go_wp2_with fail
      go_loopw [6, 27] (fun v i wk => ∃ j : Nat, j ≤ k ∧ i = .int .i64 j ∧ wk.ownsRow w.heap.size 65 4 v (sumN S j) (catC S j) ∧ Below w.heap.size w wk) (fun _ i _ => k - (intOf i).toNat)
      case atStart => exact ⟨0, Nat.zero_le _, rfl, hown, hB1⟩
      case round =>
        obtain ⟨j, hj, rfl, hown, hB⟩ := hrel
        by_cases hjk : j < k
        · have z0 := (hg.below hB).cell hjk
          have hs := (HA.out j hjk).below hB
          have b2 := HN.out j hjk
          have b3 := sumN_le HN.out j (by omega)
          cases ha : (S j).a with
          | none =>
            have hn0 : (S j).n = 0 := by
              rcases Nat.eq_zero_or_pos (S j).n with h | h
              · exact h
              · obtain ⟨_, _, he, _⟩ := hs.hds 0 h
                rw [ha] at he
                cases he
            rw [ha, hn0, hs.nilc ha] at z0
            have H1 : Hid (sumN S (j + 1) = sumN S j ∧ catC S (j + 1) = catC S j) := by
              show _ ∧ _
              simp [sumN, catC, hn0, flatH]
            go_wp2_with (at_builtin; refine wpList_append_own_none rfl (.tmp 31) (.tmp 32) 28 rfl w.heap.size 65 i0 4 Try.underlying28 hi _ _ _ rfl hown rfl ?_)
            go_roundw
            case rel => exact ⟨j + 1, by omega, by go_num, by rw [H1.out.1, H1.out.2]; exact hown, hB⟩
            case measure => simp [intOf]; omega
          | some ad =>
            have hnews := hs.hds
            rw [ha] at z0 hnews
            go_wp2_with (at_builtin; refine wpList_append_own _ rfl (.tmp 31) (.tmp 32) 28 rfl w.heap.size 65 i0 (.agg #[.int .i64 0, .int .i64 0, .int .i64 0, .int .i64 0]) 4 32 Try.underlying28 hi hz0 hz1 hz2 rfl (by decide) _ _ _ rfl hown ad (S j).n (S j).c (flatH (S j).n (S j).z) rfl ?c1 ?c2 ?c3 ?c4 ?c5 ?c6 ?_)
            case c1 => exact flatH_len _ _
            case c2 =>
              intro q u hq
              have hpos : 0 < (S j).n := by
                have := (List.getElem?_eq_some_iff.1 hq).1
                rw [flatH_len] at this
                omega
              obtain ⟨b, o, he, _⟩ := hnews 0 hpos
              simp only [Option.some.injEq] at he
              subst he
              exact hnews.news q u hq
            case c3 => exact flatH_one _ _
            case c4 => unfold maxLen; omega
            case c5 => omega
            case c6 => exact hB.size
            intro v' w2 hown2 hgrow2 hnil2
            have hlt2 := hown.lt
            have hB2 : Below w.heap.size w w2 := hB.grown hgrow2 hB.size (fun q hq => (hlt2 q hq).1)
            clear hgrow2 hnil2 hlt2 hnews
            go_wp2_with fail
            go_roundw
            case rel => exact ⟨j + 1, by omega, by go_num, hown2, hB2⟩
            case measure => simp [intOf]; omega
        · have hjk' : j = k := by omega
          subst hjk'
          go_wp2_with fail
          go_ret
          exact ⟨_, rfl, hown, hB⟩

end Go.Proofs.Ytjiodlbblmbibac

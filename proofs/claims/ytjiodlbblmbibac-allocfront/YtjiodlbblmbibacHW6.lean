/- Holds: slices.Grow of nothing, slices.Concat. -/
import Derived.Test.YtjiodlbblmbibacHW5
import Derived.Lib.AppendZerosOnto
import Derived.Lib.Walk
import Derived.Lib.SliceRun
import Derived.Laws.AppendOwnNone
namespace Go.Proofs.Ytjiodlbblmbibac
open Go.RowKit Go.Shelf Go.Lib
set_option linter.unusedVariables false

theorem infoHold : (Try.prog.info? 65).map (fun i => (i.zero, i.size, i.bytes)) = some (some (.agg #[.int .i64 0, .int .i64 0, .int .i64 0, .int .i64 0]), 4, 32) := by kernel_rfl

set_option maxHeartbeats 2000000 in
set_option maxRecDepth 100000 in
theorem Grow_nil (n : Nat) (w : World) (hn : n ≤ 1000) :
    Calls Try.prog 117 #[.slice none 0 0, .int .i64 n] w fun e w' => ∃ v, e = .returned v ∧ w'.ownsRow w.heap.size 65 4 v 0 [] ∧ Below w.heap.size w w' := by
  obtain ⟨i0, hi, hz0, hz1, hz2⟩ := info_parts infoHold
  by_cases h0 : n = 0
  · subst h0
    go_enter Try.func117, Try.ntmps117
    go_wp2
    go_ret
    exact ⟨_, rfl, World.ownsRow_nil _ _ _ _, Below.refl _ _⟩
  · have hold : (Builtin.firstCells i0.size 0 (.slice none 0 0)).run Try.prog w.drew = .ok (#[] : Array Value) w.drew := run_firstCells_none w.drew i0.size 0 0 0
    have hrz : ∀ ty, (Builtin.append_ #[28, 3] ty #[.slice none 0 0, .int .i64 (n : Int)]).run Try.prog w =
        .ok (.slice (some ⟨w.heap.size, 0, none⟩) n (grownCap w n 0 65)) (w.drew.alloc (.cells (#[] ++ Builtin.zeroCells (Value.agg #[.int .i64 0, .int .i64 0, .int .i64 0, .int .i64 0]).cells n ++ Builtin.zeroCells (Value.agg #[.int .i64 0, .int .i64 0, .int .i64 0, .int .i64 0]).cells (grownCap w n 0 65 - n)) 65)) := fun ty => by
      have h := Lib.run_append_grow_zeros w 28 3 ty 65 i0 (.agg #[.int .i64 0, .int .i64 0, .int .i64 0, .int .i64 0]) .i64 .i64 Try.underlying28 Try.underlying3 hi hz0 none 0 0 [] hold n (by omega) (by omega) (by omega) (by omega)
        (by rw [hz2]; omega)
        (by rw [Nat.zero_add]; exact growslice_fits (by omega) (by rw [hz2]; omega))
      rw [Nat.zero_add] at h
      exact h
    have hGn : n ≤ grownCap w n 0 65 := grownCap_ge w _ _ _
    have hG63 := grownCap_le_maxLen w n 0 65 (by unfold maxLen; omega)
    obtain ⟨G, hG⟩ : ∃ G, G = grownCap w n 0 65 := ⟨_, rfl⟩
    rw [← hG] at hrz hGn hG63
    have HM : Hid (G ≤ maxLen) := hG63
    unfold maxLen at hG63
    have hn1 : (0 : Int) < (n : Int) := by omega
    clear hold hG
    go_enter Try.func117, Try.ntmps117
    go_wp2_with (at_builtin; refine Lib.wpList_append_run _ rfl _ _ _ _ rfl _ _ rfl rfl _ _ (hrz _) ?_)
    go_ret
    refine ⟨_, rfl, ?_, ((Below.refl _ _).alloc (Nat.le_refl _) _).drew⟩
    exact (World.ownsRow_made (base := w.heap.size) (e := 65) (size := 4) w (Builtin.zeroCells #[.int .i64 0, .int .i64 0, .int .i64 0, .int .i64 0] n ++ Builtin.zeroCells #[.int .i64 0, .int .i64 0, .int .i64 0, .int .i64 0] (G - n)) G (Nat.le_refl _) HM.out (by
      simp [Builtin.zeroCells]; omega)).drew

/-- The cells of holds, one behind the other. -/
def flatH (n : Nat) (z : Nat → Hd) : List Value := (List.range n).flatMap fun i => hdCells (z i)
theorem flatH_len : ∀ (n : Nat) (z : Nat → Hd), (flatH n z).length = n * 4
  | 0, _ => rfl
  | n + 1, z => by
    have := flatH_len n z
    unfold flatH at *
    rw [List.range_succ, List.flatMap_append, List.length_append, this]
    simp [hdCells]
    omega
theorem flatH_succ (n : Nat) (z : Nat → Hd) : flatH (n + 1) z = flatH n z ++ hdCells (z n) := by
  unfold flatH
  rw [List.range_succ, List.flatMap_append]
  simp
theorem flatH_get : ∀ (n : Nat) (z : Nat → Hd) (i c : Nat), i < n → c < 4 → (flatH n z)[i * 4 + c]? = (hdCells (z i))[c]?
  | n + 1, z, i, c, hi, hc => by
    rw [flatH_succ]
    by_cases hin : i = n
    · subst hin
      rw [List.getElem?_append_right (by rw [flatH_len]; omega), flatH_len]
      congr 1
      omega
    · rw [List.getElem?_append_left (by rw [flatH_len]; omega)]
      exact flatH_get n z i c (by omega) hc
theorem flatH_congr {n : Nat} {z z' : Nat → Hd} (h : ∀ i, i < n → z i = z' i) : flatH n z = flatH n z' := by
  unfold flatH
  rw [List.flatMap_def, List.flatMap_def]
  rw [List.map_congr_left fun i hi => by rw [h i (List.mem_range.1 hi)]]
theorem flatH_one (n : Nat) (z : Nat → Hd) : ∀ u ∈ flatH n z, u.oneCell' = true := by
  intro u hu
  unfold flatH at hu
  rw [List.mem_flatMap] at hu
  obtain ⟨i, _, hi⟩ := hu
  simp [hdCells] at hi
  rcases hi with rfl | rfl | rfl | rfl <;> rfl

/-- What is appended lies there. -/
theorem HdsAt.news {w : World} {b o n : Nat} {z : Nat → Hd} (h : HdsAt w (some ⟨b, o, none⟩) n z) : ∀ j u, (flatH n z)[j]? = some u → w.cell? ((⟨b, o, none⟩ : Addr).add j) = some u := by
  intro j u hj
  have hlt : j < n * 4 := by
    have := (List.getElem?_eq_some_iff.1 hj).1
    rwa [flatH_len] at this
  have hjd : j = (j / 4) * 4 + j % 4 := by omega
  have hq : j / 4 < n := by omega
  obtain ⟨b', o', he, _, h0, h1, h2, h3⟩ := h (j / 4) hq
  simp only [Option.some.injEq, Addr.mk.injEq, and_true] at he
  obtain ⟨rfl, rfl⟩ := he
  rw [hjd, flatH_get n z _ _ hq (by omega)] at hj
  rw [Go.WideShapes.add_plain]
  have hc : j % 4 = 0 ∨ j % 4 = 1 ∨ j % 4 = 2 ∨ j % 4 = 3 := by omega
  rcases hc with hc | hc | hc | hc
  · rw [hc] at hj; simp [hdCells] at hj; rw [← hj, ← h0]; congr 2; omega
  · rw [hc] at hj; simp [hdCells] at hj; rw [← hj, ← h1]; congr 2; omega
  · rw [hc] at hj; simp [hdCells] at hj; rw [← hj, ← h2]; congr 2; omega
  · rw [hc] at hj; simp [hdCells] at hj; rw [← hj, ← h3]; congr 2; omega

/-- What the call itself has made, read as holds. -/
theorem Hs.ofOwns {w : World} {base : Nat} {e : TypeId} {v : Value} {n : Nat} {z : Nat → Hd} (h : w.ownsRow base e 4 v n (flatH n z)) : ∃ s : Hs, v = s.val ∧ s.At w ∧ s.n = n ∧ s.z = z := by
  by_cases hv : v = .slice none 0 0
  · have hn : n = 0 := by
      rcases h.2 with ⟨_, h0⟩ | ⟨g, cap, cur, hv', _⟩
      · exact h0
      · rw [hv] at hv'; cases hv'
    subst hn
    exact ⟨⟨none, 0, 0, z⟩, hv, ⟨Nat.le_refl _, Nat.zero_le _, fun i hi => absurd hi (Nat.not_lt_zero _), fun _ => rfl⟩, rfl, rfl⟩
  · obtain ⟨g, c, rfl, h1, h2, h3, h4⟩ := Blk.ofOwns h hv
    refine ⟨⟨some ⟨g, 0, none⟩, n, c, z⟩, rfl, ⟨h1, h2, fun i hi => ?_, fun h => by cases h⟩, rfl, rfl⟩
    have hi' : i < n := hi
    have k : ∀ q, q < 4 → w.cell? ⟨g, 0 + i * 4 + q, none⟩ = some ((flatH n z).getD (i * 4 + q) default) := fun q hq => by
      rw [Nat.zero_add]
      exact h4.cell (by omega)
    have e : ∀ q, q < 4 → (flatH n z).getD (i * 4 + q) default = (hdCells (z i)).getD q default := fun q hq => by
      simp only [List.getD, flatH_get n z i q hi' hq]
    refine ⟨g, 0, rfl, h4.lt, ?_, ?_, ?_, ?_⟩
    · have := k 0 (by omega); rw [e 0 (by omega)] at this; simpa [hdCells] using this
    · have := k 1 (by omega); rw [e 1 (by omega)] at this; simpa [hdCells] using this
    · have := k 2 (by omega); rw [e 2 (by omega)] at this; simpa [hdCells] using this
    · have := k 3 (by omega); rw [e 3 (by omega)] at this; simpa [hdCells] using this

end Go.Proofs.Ytjiodlbblmbibac

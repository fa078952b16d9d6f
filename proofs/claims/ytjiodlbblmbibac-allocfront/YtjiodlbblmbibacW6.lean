/- Rows that are copied: slices.Clone, copyRows, the document's ownOn. -/
import Derived.Test.YtjiodlbblmbibacW5
import Derived.Test.YtjiodlbblmbibacK
import Derived.Deep.OwnRows
import Derived.Lib.SliceRun
namespace Go.Proofs.Ytjiodlbblmbibac
open Go.RowKit Go.Shelf
set_option linter.unusedVariables false

theorem infoInt : (Try.prog.info? 3).map (fun i => (i.zero, i.size, i.bytes)) = some (some (.int .i64 0), 1, 8) := by kernel_rfl
theorem infoInts : (Try.prog.info? 23).map (fun i => (i.zero, i.size, i.bytes)) = some (some (.slice none 0 0), 1, 24) := by kernel_rfl

set_option maxHeartbeats 1000000 in
theorem Clone_any (b o n c : Nat) (z : Nat → Int) (w : World) (hbig : n * 8 ≤ 140737488355328) (hn : 0 < n)
    (hc : IntsAt w (some ⟨b, o, none⟩) n z) :
    Calls Try.prog 92 #[.slice (some ⟨b, o, none⟩) n c] w fun e w' => ∃ g c', e = .returned (.slice (some ⟨g, 0, none⟩) n c') ∧ n ≤ c' ∧ c' ≤ maxLen ∧ w.heap.size ≤ g ∧ Blk w' g 3 n (fun j => .int .i64 (z j)) ∧ Below w.heap.size w w' := by
  obtain ⟨i0, hi, hz0, hz1, hz2⟩ := info_parts infoInt
  have q22 : ∀ (w : World) (a : Option Addr) (n c n' c' : Nat), (binOp .eql 23 (.slice a n c) (.slice none n' c')).run Try.prog w = .ok (.bool a.isNone) w := fun w a n c n' c' => Lib.run_eql_slice_nil w _ _ a n c n' c' Try.underlying23
  go_enter Try.func92, Try.ntmps92
  go_wp2_with (at_builtin; refine wpList_append_own _ rfl _ _ 23 rfl w.heap.size 3 i0 (.int .i64 0) 1 8 Try.underlying23 hi hz0 hz1 hz2 rfl (by decide) _ _ _ rfl (World.ownsRow_made w #[] 0 (Nat.le_refl _) (Nat.zero_le _) rfl) ⟨b, o, none⟩ n c ((List.range n).map fun j => Value.int .i64 (z j)) rfl ?qc1 ?qc2 ?qc3 ?qc4 ?qc5 ?qc6 ?_)
  case qc1 => simp
  case qc2 =>
    intro j u hj
    have hjn : j < n := by
      have := (List.getElem?_eq_some_iff.1 hj).1
      simpa using this
    obtain ⟨b', o', he, hb, hcell⟩ := hc j hjn
    simp only [Option.some.injEq, Addr.mk.injEq, and_true] at he
    obtain ⟨rfl, rfl⟩ := he
    rw [Go.WideShapes.add_plain]
    rw [((Below.refl w.heap.size w).alloc (Nat.le_refl _) _).cell (p := ⟨b, o + j, none⟩) hb, hcell]
    simp [hjn] at hj
    rw [hj]
  case qc3 => intro u hu; obtain ⟨x, _, rfl⟩ := List.mem_map.1 hu; rfl
  case qc4 => unfold maxLen; omega
  case qc5 => omega
  case qc6 => simp
  intro v' w1 hown hgrow hnil
  have hv : v' ≠ .slice none 0 0 := hnil
  obtain ⟨g, c', rfl, h1, h2, h3, h4⟩ := Blk.ofOwns hown hv
  rw [Nat.mul_one] at h4
  have hB : Below w.heap.size w w1 := ((Below.refl _ w).alloc (Nat.le_refl _) _).grown hgrow (by simp) (by intro k hk; simp [Value.ownBlock] at hk; omega)
  clear hown hgrow hnil hc
  go_wp2
  go_ret
  exact ⟨g, c', rfl, h1, h2, h3, h4.congr (fun j hj => by simp [hj]), hB⟩

theorem made_slice {j n : Nat} (hj : j < n) : (madeCells (Value.slice none 0 0).cells n).toList.getD j default = .slice none 0 0 := by
  simp [madeCells, Value.cells, hj, Nat.mod_one]

set_option maxHeartbeats 1000000 in
theorem copyRows_any (s : Sh) (w : World) (hs : s.At w) (hn : s.n ≤ 6) (hr : ∀ i, i < s.n → 1 ≤ (s.r i).n ∧ (s.r i).n ≤ 3) :
    Calls Try.prog 88 #[s.val] w fun e w' => ∃ (g : Nat) (G C : Nat → Nat), e = .returned (.slice (some ⟨g, 0, none⟩) s.n s.n) ∧ w.heap.size ≤ g ∧
      Blk w' g 23 s.n (fun i => .slice (some ⟨G i, 0, none⟩) (s.r i).n (C i)) ∧
      (∀ i, i < s.n → g < G i ∧ (s.r i).n ≤ C i ∧ C i ≤ maxLen ∧ Blk w' (G i) 3 (s.r i).n (fun j => .int .i64 ((s.r i).z j))) ∧
      (∀ i j, i < j → j < s.n → G i < G j) ∧ Below w.heap.size w w' := by
  obtain ⟨sle, scap, rows⟩ := hs
  obtain ⟨s0, sn, sc, sr⟩ := s
  dsimp only at sle scap rows hn hr
  unfold maxLen at scap
  simp only [Sh.val]
  obtain ⟨i0, hi, hz0, hz1, hz2⟩ := info_parts infoInts
  go_enter Try.func88, Try.ntmps88
  go_wp2_with (at_make; refine wpList_make_full _ rfl _ _ 26 rfl w.heap.size 23 i0 (.slice none 0 0) 1 Try.underlying26 hi hz0 hz1 .i64 .i64 _ _ sn rfl rfl rfl rfl (by rw [hz2]; omega) (by unfold maxLen; omega) (Nat.le_refl _) ?_; intro w1 hown hgrow)
  obtain ⟨g, c', hv, _, _, _, hblk⟩ := Blk.ofOwns hown (by simp)
  simp only [Value.slice.injEq, Option.some.injEq, Addr.mk.injEq, and_true] at hv
  obtain ⟨rfl, -, -⟩ := hv
  rw [Nat.mul_one] at hblk
  have hB1 : Below w.heap.size w w1 := (Below.refl _ w).grown hgrow (Nat.le_refl _) (by intro k hk; cases hk)
  clear hown hgrow
  go_loopw [11] (fun i wk => ∃ k : Nat, k ≤ sn ∧ i = .int .i64 k ∧ (∃ (G C : Nat → Nat), Blk wk w.heap.size 23 sn (fun i => if i < k then .slice (some ⟨G i, 0, none⟩) (sr i).n (C i) else .slice none 0 0) ∧
      (∀ i, i < k → w.heap.size < G i ∧ (sr i).n ≤ C i ∧ C i ≤ maxLen ∧ Blk wk (G i) 3 (sr i).n (fun j => .int .i64 ((sr i).z j))) ∧
      (∀ i j, i < j → j < k → G i < G j)) ∧ Below w.heap.size w wk) (fun i _ => sn - (intOf i).toNat)
  case atStart => exact ⟨0, Nat.zero_le _, rfl, ⟨fun _ => 0, fun _ => 0, hblk.congr (fun j hj => by rw [made_slice hj]; simp), fun i hi => absurd hi (Nat.not_lt_zero _), fun i j _ hj => absurd hj (Nat.not_lt_zero _)⟩, hB1⟩
  case round =>
    obtain ⟨k, hk, rfl, hgs, hB⟩ := hrel
    by_cases hlt : k < sn
    · obtain ⟨b, o, rfl, hb, z0, hat⟩ := (rows.below hB) k hlt
      have hr1 := hr k hlt
      obtain ⟨rle, rcap, ints⟩ := hat
      obtain ⟨b1, o1, ha, hb1, y0⟩ := ints 0 (by omega)
      rw [ha] at z0 ints
      clear y0
      have HG : Hid _ := hgs
      clear hgs ha
      have m1 : (0 : Int) ≤ (k : Int) := by omega
      go_wp2_with fail
      refine (Clone_any b1 o1 _ _ (sr k).z _ (by omega) (by omega) ints).mono ?_
      rintro e w2 ⟨g, c2, rfl, h1, h2, h3, h4, hB2⟩
      obtain ⟨G, C, gb, gr, gm⟩ := HG.out
      have hb0 := gb.lt
      have gb2 := gb.below hB2
      have hf0 := gb2.frozen k
      have hc0 := gb2.cell hlt
      simp only [Nat.lt_irrefl, if_false] at hc0
      have hB3 := hB.trans (hB2.mono hB.size)
      have st := hB3.setCell (p := ⟨w.heap.size, k, none⟩) (Nat.le_refl _) (.slice (some ⟨g, 0, none⟩) (sr k).n c2)
      have KB := gb2.set k (.slice (some ⟨g, 0, none⟩) (sr k).n c2)
      have KO : ∀ i, i < k → Blk (w2.setCell ⟨w.heap.size, k, none⟩ (.slice (some ⟨g, 0, none⟩) (sr k).n c2)) (G i) 3 (sr i).n (fun j => .int .i64 ((sr i).z j)) := fun i hi => ((gr i hi).2.2.2.below hB2).other (by have := (gr i hi).1; show _ ≠ w.heap.size; omega) _
      have KN : Blk (w2.setCell ⟨w.heap.size, k, none⟩ (.slice (some ⟨g, 0, none⟩) (sr k).n c2)) g 3 (sr k).n (fun j => .int .i64 ((sr k).z j)) := h4.other (by show _ ≠ w.heap.size; omega) _
      have GK : ∀ i, i < k → G i < g := fun i hi => by have := (gr i hi).2.2.2.lt; omega
      have H : Hid _ := And.intro KB (And.intro KO (And.intro KN (And.intro GK (And.intro gr gm))))
      clear KB KO KN GK gb gb2 gm h4 gr
      go_wp2_with fail
      go_roundw
      case rel =>
        obtain ⟨KB, KO, KN, GK, gr, gm⟩ := H.out
        refine ⟨k + 1, by omega, by go_num, ⟨fun i => if i = k then g else G i, fun i => if i = k then c2 else C i, KB.congr ?_, ?_, ?_⟩, st⟩
        · intro j hj
          by_cases hjk : j = k
          · subst hjk; simp
          · by_cases hj2 : j < k
            · simp [hjk, hj2, show j < k + 1 by omega]
            · simp [hjk, hj2, show ¬ j < k + 1 by omega]
        · intro i hi
          by_cases hik : i = k
          · subst hik
            simp only [if_true]
            exact ⟨by omega, h1, h2, KN⟩
          · simp only [hik, if_false]
            have hi2 : i < k := by omega
            exact ⟨(gr i hi2).1, (gr i hi2).2.1, (gr i hi2).2.2.1, KO i hi2⟩
        · intro i j hij hj
          by_cases hjk : j = k
          · subst hjk
            simp [show ¬ i = j by omega, GK i hij]
          · simp [hjk, show ¬ i = k by omega, gm i j hij (by omega)]
      case measure => simp [intOf]; omega
    · go_wp2_with fail
      go_ret
      have hkn : k = sn := by omega
      subst hkn
      obtain ⟨G, C, gb, gr, gm⟩ := hgs
      exact ⟨w.heap.size, G, C, rfl, Nat.le_refl _, gb.congr (fun j hj => by simp [hj]), gr, gm, hB⟩

end Go.Proofs.Ytjiodlbblmbibac

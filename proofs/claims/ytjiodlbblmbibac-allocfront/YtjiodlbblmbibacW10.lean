/- SameInts, SameRows: what is the same is told so. -/
import Derived.Test.YtjiodlbblmbibacW9
import Derived.Lib.QuietBelow
namespace Go.Proofs.Ytjiodlbblmbibac
open Go.RowKit Go.Shelf Go.Sort
set_option linter.unusedVariables false

set_option maxRecDepth 100000 in
set_option maxHeartbeats 400000 in
theorem SameInts_yes (r s : Rw) (w : World) (hr : r.At w) (hs : s.At w) (hn : r.n = s.n) (hz : ∀ j, j < r.n → r.z j = s.z j) :
    Calls Try.prog 53 #[r.val, s.val] w fun e w' => e = .returned (.bool true) ∧ Below w.heap.size w w' := by
  obtain ⟨ra, rn, rc, rz⟩ := r
  obtain ⟨sa, sn, sc, sz⟩ := s
  obtain ⟨rle, rcap, rints⟩ := hr
  obtain ⟨sle, scap, sints⟩ := hs
  dsimp only at *
  subst hn
  have HZ : Hid _ := hz
  clear hz
  unfold maxLen at rcap scap
  simp only [Rw.val]
  go_enter Try.func53, Try.ntmps53
  go_wp2_with fail
  go_loopw [5] (fun i wk => ∃ k : Nat, k ≤ rn ∧ i = .int .i64 k ∧ Below w.heap.size w wk) (fun i _ => rn - (intOf i).toNat)
  case atStart => exact ⟨0, Nat.zero_le _, rfl, Below.refl _ _⟩
  case round =>
    obtain ⟨k, hk, rfl, hB⟩ := hrel
    by_cases hlt : k < rn
    · obtain ⟨b1, o1, rfl, hb1, y0⟩ := (rints.below hB) k hlt
      obtain ⟨b2, o2, rfl, hb2, x0⟩ := (sints.below hB) k hlt
      rw [← HZ.out k hlt] at x0
      generalize rz k = Z at y0 x0
      go_wp2_with fail
      go_quiet (fail)
      go_wp2_with fail
      go_roundw
      case rel => exact ⟨k + 1, by omega, by go_num, below_drewN hB _⟩
      case measure => simp [intOf]; omega
    · go_wp2_with fail
      go_ret
      exact ⟨rfl, hB⟩

set_option maxRecDepth 100000 in
set_option maxHeartbeats 1000000 in
theorem SameRows_yes (r s : Sh) (w : World) (hr : r.At w) (hs : s.At w) (hn : r.n = s.n) (hz : ∀ i, i < r.n → (r.r i).n = (s.r i).n ∧ ∀ j, j < (r.r i).n → (r.r i).z j = (s.r i).z j) :
    Calls Try.prog 19 #[r.val, s.val] w fun e w' => e = .returned (.bool true) ∧ Below w.heap.size w w' := by
  obtain ⟨ra, rn, rc, rr⟩ := r
  obtain ⟨sa, sn, sc, sr⟩ := s
  obtain ⟨rle, rcap, rrows⟩ := hr
  obtain ⟨sle, scap, srows⟩ := hs
  dsimp only at *
  subst hn
  have HZ : Hid _ := hz
  clear hz
  unfold maxLen at rcap scap
  simp only [Sh.val]
  go_enter Try.func19, Try.ntmps19
  go_wp2_with fail
  go_loopw [5] (fun i wk => ∃ k : Nat, k ≤ rn ∧ i = .int .i64 k ∧ Below w.heap.size w wk) (fun i _ => rn - (intOf i).toNat)
  case atStart => exact ⟨0, Nat.zero_le _, rfl, Below.refl _ _⟩
  case round =>
    obtain ⟨k, hk, rfl, hB⟩ := hrel
    by_cases hlt : k < rn
    · obtain ⟨b1, o1, rfl, hb1, y0, at1⟩ := (rrows.below hB) k hlt
      obtain ⟨b2, o2, rfl, hb2, x0, at2⟩ := (srows.below hB) k hlt
      have hh := HZ.out k hlt
      have HH : Hid _ := hh
      clear hh
      have y1 : ∀ d os, (grow (redrawn wr d) os).cell? ⟨b1, o1 + k, none⟩ = some (.slice (rr k).a (rr k).n (rr k).c) := fun d os => cell_regrown y0 d os
      have x1 : ∀ d os, (grow (redrawn wr d) os).cell? ⟨b2, o2 + k, none⟩ = some (.slice (sr k).a (sr k).n (sr k).c) := fun d os => cell_regrown x0 d os
      go_wp2_with fail
      refine wp_region_quiet_below (by kernel_rfl) (by kernel_rfl) ?_
      repeat (go_big_quiet_step ((go_at_call 53; exact Calls.regrown_of (SameInts_yes (rr k) (sr k) _ (at1.below (below_regrown _ _ _)) (at2.below (below_regrown _ _ _)) HH.out.1 HH.out.2))))
      refine wpQuiet_nil ?_
      intro _ hw'
      obtain ⟨⟨dq, osq⟩, hw''⟩ := hw'
      subst hw''
      go_wp2_with fail
      go_roundw
      case rel => exact ⟨k + 1, by omega, by go_num, hB.trans ((below_regrown _ _ _).mono hB.size)⟩
      case measure => simp [intOf]; omega
    · go_wp2_with fail
      go_ret
      exact ⟨rfl, hB⟩


theorem Blk.ne {w : World} {g g' : Nat} {e e' : TypeId} {n n' : Nat} {f f' : Nat → Value} (h : Blk w g e n f) (h' : Blk w g' e' n' f') (he : e ≠ e') : g ≠ g' := by
  rintro rfl
  obtain ⟨c, hc, _⟩ := h
  obtain ⟨c', hc', _⟩ := h'
  rw [hc] at hc'
  cases hc'
  exact he rfl

set_option maxRecDepth 100000 in
set_option maxHeartbeats 1000000 in
theorem ownOn_any (s : Sh) (w : World) (hs : s.At w) (hn : s.n ≤ 6) (hn1 : 1 ≤ s.n) (hr : ∀ i, i < s.n → 1 ≤ (s.r i).n ∧ (s.r i).n ≤ 3) :
    Calls Try.prog 104 #[s.val] w fun e w' => ∃ (g c : Nat) (G C : Nat → Nat), e = .returned (.slice (some ⟨g, 0, none⟩) s.n c) ∧ w.heap.size ≤ g ∧ s.n ≤ c ∧ c ≤ maxLen ∧
      Blk w' g 23 s.n (fun i => .slice (some ⟨G i, 0, none⟩) (s.r i).n (C i)) ∧
      (∀ i, i < s.n → w.heap.size ≤ G i ∧ (s.r i).n ≤ C i ∧ C i ≤ maxLen ∧ Blk w' (G i) 3 (s.r i).n (fun j => .int .i64 ((s.r i).z j))) ∧
      (∀ i j, i < j → j < s.n → G i < G j) ∧ Below w.heap.size w w' := by
  obtain ⟨sle, scap, rows⟩ := hs
  obtain ⟨s0, sn, sc, sr⟩ := s
  dsimp only at sle scap rows hn hr hn1
  unfold maxLen at scap
  simp only [Sh.val]
  obtain ⟨i0, hi, hz0, hz1, hz2⟩ := info_parts infoInts
  obtain ⟨i1, hj, hy0, hy1, hy2⟩ := info_parts infoInt
  go_enter Try.func104, Try.ntmps104
  go_wp2_with fail
  go_loopw [3, 4] (fun v i wk => ∃ k : Nat, k ≤ sn ∧ i = .int .i64 k ∧ (∃ (G C : Nat → Nat), wk.ownsRow w.heap.size 23 1 v k ((List.range k).map fun i => Value.slice (some ⟨G i, 0, none⟩) (sr i).n (C i)) ∧
      (∀ i, i < k → w.heap.size ≤ G i ∧ (sr i).n ≤ C i ∧ C i ≤ maxLen ∧ Blk wk (G i) 3 (sr i).n (fun j => .int .i64 ((sr i).z j))) ∧
      (∀ i j, i < j → j < k → G i < G j)) ∧ Below w.heap.size w wk) (fun _ i _ => sn - (intOf i).toNat)
  case atStart => exact ⟨0, Nat.zero_le _, rfl, ⟨fun _ => 0, fun _ => 0, World.ownsRow_nil _ _ _ _, fun i hi => absurd hi (Nat.not_lt_zero _), fun i j _ hj => absurd hj (Nat.not_lt_zero _)⟩, Below.refl _ _⟩
  case round =>
    obtain ⟨k, hk, rfl, hgs, hB⟩ := hrel
    by_cases hlt : k < sn
    · obtain ⟨b, o, rfl, hb, z0, hat⟩ := (rows.below hB) k hlt
      have hr1 := hr k hlt
      obtain ⟨rle, rcap, ints⟩ := hat
      obtain ⟨b1, o1, ha, hb1, y0⟩ := ints 0 (by omega)
      rw [ha] at z0 ints
      clear y0 ha
      have HG : Hid _ := hgs
      clear hgs
      have m1 : (0 : Int) ≤ (k : Int) := by omega
      go_wp2_with (at_builtin; refine wpList_append_own _ rfl (.tmp 12) (.tmp 16) 23 rfl wr.heap.size 3 i1 (.int .i64 0) 1 8 Try.underlying23 hj hy0 hy1 hy2 rfl (by decide) _ _ _ rfl (World.ownsRow_made wr #[] 0 (Nat.le_refl _) (Nat.zero_le _) rfl) ⟨b1, o1, none⟩ (sr k).n (sr k).c ((List.range (sr k).n).map fun j => Value.int .i64 ((sr k).z j)) rfl ?qc1 ?qc2 ?qc3 ?qc4 ?qc5 ?qc6 ?_)
      case qc1 => simp
      case qc2 =>
        intro j u hj
        have hjn : j < (sr k).n := by
          have := (List.getElem?_eq_some_iff.1 hj).1
          simpa using this
        obtain ⟨b', o', he, hb', hcell⟩ := ints j hjn
        simp only [Option.some.injEq, Addr.mk.injEq, and_true] at he
        obtain ⟨rfl, rfl⟩ := he
        rw [Go.WideShapes.add_plain]
        rw [((Below.refl wr.heap.size wr).alloc (Nat.le_refl _) _).cell (p := ⟨b1, o1 + j, none⟩) hb', hcell]
        simp [hjn] at hj
        rw [hj]
      case qc3 => intro u hu; obtain ⟨x, _, rfl⟩ := List.mem_map.1 hu; rfl
      case qc4 => unfold maxLen; omega
      case qc5 => omega
      case qc6 => simp
      intro v' w1 hown hgrow hnil
      obtain ⟨g, c', rfl, h1, h2, h3, h4⟩ := Blk.ofOwns hown hnil
      rw [Nat.mul_one] at h4
      have hB1 : Below wr.heap.size wr w1 := ((Below.refl _ wr).alloc (Nat.le_refl _) _).grown hgrow (by simp) (by intro k hk; simp [Value.ownBlock] at hk; omega)
      have h5 : Blk w1 g 3 (sr k).n (fun j => .int .i64 ((sr k).z j)) := h4.congr (fun j hj => by simp [hj])
      clear hown hgrow hnil ints z0 h4
      obtain ⟨G, C, ho, gr, gm⟩ := HG.out
      have ho1 : w1.ownsRow w.heap.size 23 1 u3 k ((List.range k).map fun i => Value.slice (some ⟨G i, 0, none⟩) (sr i).n (C i)) := ho.kept (row := none) ⟨hB1.os, hB1.tape, hB1.output, hB1.size, fun j hj _ => hB1.block j hj⟩ (by cases h : u3.ownBlock <;> simp)
      have HR : Hid _ := And.intro gr gm
      clear ho gr gm HG
      go_wp2_with (at_builtin; refine wpList_append_own _ rfl (.tmp 11) (.tmp 18) 26 rfl w.heap.size 23 i0 (.slice none 0 0) 1 24 Try.underlying26 hi hz0 hz1 hz2 rfl (by decide) _ _ _ rfl (ho1.alloc _) ⟨w1.heap.size, 0, none⟩ 1 1 [.slice (some ⟨g, 0, none⟩) (sr k).n c'] rfl rfl ?c1 ?c2 ?c3 ?c4 ?c5 ?_)
      case c1 =>
        intro j u hj
        match j, hj with
        | 0, hj => simp at hj; subst hj; simp [Addr.add]
      case c2 => intro u hu; simp at hu; subst hu; rfl
      case c3 => unfold maxLen; omega
      case c4 => omega
      case c5 => have := hB.size; have := hB1.size; simp; omega
      intro v2 w2 hown2 hgrow2 hnil2
      have hB12 := hB.trans (hB1.mono hB.size)
      have hlt2 := ho1.lt
      have hB2 : Below w.heap.size w w2 := (hB12.alloc (by have := hB12.size; omega) _).grown hgrow2 (by have := hB12.size; simp; omega) (fun q hq => (hlt2 q hq).1)
      have keep : ∀ q f n', Blk w1 q 3 n' f → Blk w2 q 3 n' f := fun q f n' hb => by
        refine (hb.alloc _).grown hgrow2 ?_
        intro hq
        rcases ho1.2 with ⟨rfl, _⟩ | ⟨g2, cap2, cur2, rfl, _, hh2, hrest⟩
        · simp [Value.ownBlock] at hq
        · simp only [Value.ownBlock, Option.some.injEq] at hq
          subst hq
          obtain ⟨c3, hc3, _⟩ := hb
          rw [hc3] at hh2
          cases hh2
      have KN := keep _ _ _ h5
      have HK : Hid _ := And.intro hown2 (And.intro KN keep)
      clear hown2 hgrow2 hnil2 KN keep ho1 h5 hlt2
      go_wp2_with fail
      go_roundw
      case rel =>
        obtain ⟨hown2, KN, keep⟩ := HK.out
        obtain ⟨gr, gm⟩ := HR.out
        refine ⟨k + 1, by omega, by go_num, ⟨fun i => if i = k then g else G i, fun i => if i = k then c' else C i, ?_, ?_, ?_⟩, hB2⟩
        · have e : (List.range (k + 1)).map (fun i => Value.slice (some ⟨if i = k then g else G i, 0, none⟩) (sr i).n (if i = k then c' else C i)) = ((List.range k).map fun i => Value.slice (some ⟨G i, 0, none⟩) (sr i).n (C i)) ++ [.slice (some ⟨g, 0, none⟩) (sr k).n c'] := by
            rw [List.range_succ, List.map_append]
            congr 1
            · exact List.map_congr_left fun i hi => by have := List.mem_range.1 hi; simp [show ¬ i = k by omega]
            · simp
          rw [e]
          exact hown2
        · intro i hi
          by_cases hik : i = k
          · subst hik
            simp only [if_true]
            exact ⟨by have := hB.size; omega, h1, h2, KN⟩
          · simp only [hik, if_false]
            have hi2 : i < k := by omega
            exact ⟨(gr i hi2).1, (gr i hi2).2.1, (gr i hi2).2.2.1, keep _ _ _ ((gr i hi2).2.2.2.below hB1)⟩
        · intro i j hij hj
          by_cases hjk : j = k
          · subst hjk
            have := (gr i hij).2.2.2.lt
            simp [show ¬ i = j by omega]
            omega
          · simp [hjk, show ¬ i = k by omega, gm i j hij (by omega)]
      case measure => simp [intOf]; omega
    · go_wp2_with fail
      go_ret
      have hkn : k = sn := by omega
      subst hkn
      obtain ⟨G, C, ho, gr, gm⟩ := hgs
      have hv : ∃ g c, u3 = .slice (some ⟨g, 0, none⟩) k c := by
        rcases ho.2 with ⟨_, h0⟩ | ⟨g2, cap2, cur2, rfl, _⟩
        · omega
        · exact ⟨g2, cap2, rfl⟩
      obtain ⟨g', c'', rfl⟩ := hv
      obtain ⟨g, c, hvv, h1, h2, h3, h4⟩ := Blk.ofOwns ho (by simp)
      rw [Nat.mul_one] at h4
      simp only [Value.slice.injEq, Option.some.injEq, Addr.mk.injEq, and_true, true_and] at hvv
      obtain ⟨rfl, rfl⟩ := hvv
      exact ⟨g', c'', G, C, rfl, h3, h1, h2, h4.congr (fun j hj => by simp [hj]), gr, gm, hB⟩

end Go.Proofs.Ytjiodlbblmbibac

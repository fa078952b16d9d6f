/- Texts that were built one behind the other, joined. -/
import Derived.Test.YtjiodlbblmbibacW7J
import Derived.Lib.QuietBelow
import Derived.Test.YtjiodlbblmbibacHW5J
/- SameInts, SameRows: what is the same is told so. -/
namespace Go.Proofs.Ytjiodlbblmbibac
open Go.RowKit Go.Shelf Go.Sort
set_option linter.unusedVariables false

set_option maxRecDepth 100000 in
set_option maxHeartbeats 400000 in
theorem SameInts_yes (r s : Rw) (w : World) (hr : r.At w) (hs : s.At w) (hn : r.n = s.n) (hz : ∀ j, j < r.n → r.z j = s.z j) :
    Calls Try.prog 53 #[r.val, s.val] w fun e w' => e = .returned (.bool true) ∧ Below w.heap.size w w' := by
  obtain ⟨ra, rn, rc, rz⟩ := r
  obtain ⟨sa, sn, sc, sz⟩ := s
  obtain ⟨rle, rcap, rints⟩ := hr
  obtain ⟨sle, scap, sints⟩ := hs
  dsimp only at *
  subst hn
  have HZ : Hid _ := hz
  clear hz
  unfold maxLen at rcap scap
  simp only [Rw.val]
  go_enter Try.func53, Try.ntmps53
  go_wp2_with fail
  go_loopw [5] (fun i wk => ∃ k : Nat, k ≤ rn ∧ i = .int .i64 k ∧ Below w.heap.size w wk) (fun i _ => rn - (intOf i).toNat)
  case atStart => exact ⟨0, Nat.zero_le _, rfl, Below.refl _ _⟩
  case round =>
    obtain ⟨k, hk, rfl, hB⟩ := hrel
    by_cases hlt : k < rn
    · obtain ⟨b1, o1, rfl, hb1, y0⟩ := (rints.below hB) k hlt
      obtain ⟨b2, o2, rfl, hb2, x0⟩ := (sints.below hB) k hlt
      rw [← HZ.out k hlt] at x0
      generalize rz k = Z at y0 x0
      go_wp2_with fail
      go_quiet (fail)
      go_wp2_with fail
      go_roundw
      case rel => exact ⟨k + 1, by omega, by go_num, below_drewN hB _⟩
      case measure => simp [intOf]; omega
    · go_wp2_with fail
      go_ret
      exact ⟨rfl, hB⟩

set_option maxRecDepth 100000 in
set_option maxHeartbeats 1000000 in
theorem SameRows_yes (r s : Sh) (w : World) (hr : r.At w) (hs : s.At w) (hn : r.n = s.n) (hz : ∀ i, i < r.n → (r.r i).n = (s.r i).n ∧ ∀ j, j < (r.r i).n → (r.r i).z j = (s.r i).z j) :
    Calls Try.prog 19 #[r.val, s.val] w fun e w' => e = .returned (.bool true) ∧ Below w.heap.size w w' := by
  obtain ⟨ra, rn, rc, rr⟩ := r
  obtain ⟨sa, sn, sc, sr⟩ := s
  obtain ⟨rle, rcap, rrows⟩ := hr
  obtain ⟨sle, scap, srows⟩ := hs
  dsimp only at *
  subst hn
  have HZ : Hid _ := hz
  clear hz
  unfold maxLen at rcap scap
  simp only [Sh.val]
  go_enter Try.func19, Try.ntmps19
  go_wp2_with fail
  go_loopw [5] (fun i wk => ∃ k : Nat, k ≤ rn ∧ i = .int .i64 k ∧ Below w.heap.size w wk) (fun i _ => rn - (intOf i).toNat)
  case atStart => exact ⟨0, Nat.zero_le _, rfl, Below.refl _ _⟩
  case round =>
    obtain ⟨k, hk, rfl, hB⟩ := hrel
    by_cases hlt : k < rn
    · obtain ⟨b1, o1, rfl, hb1, y0, at1⟩ := (rrows.below hB) k hlt
      obtain ⟨b2, o2, rfl, hb2, x0, at2⟩ := (srows.below hB) k hlt
      have hh := HZ.out k hlt
      have HH : Hid _ := hh
      clear hh
      have y1 : ∀ d os, (grow (redrawn wr d) os).cell? ⟨b1, o1 + k, none⟩ = some (.slice (rr k).a (rr k).n (rr k).c) := fun d os => cell_regrown y0 d os
      have x1 : ∀ d os, (grow (redrawn wr d) os).cell? ⟨b2, o2 + k, none⟩ = some (.slice (sr k).a (sr k).n (sr k).c) := fun d os => cell_regrown x0 d os
      go_wp2_with fail
      refine wp_region_quiet_below (by kernel_rfl) (by kernel_rfl) ?_
      repeat (go_big_quiet_step ((go_at_call 53; exact Calls.regrown_of (SameInts_yes (rr k) (sr k) _ (at1.below (below_regrown _ _ _)) (at2.below (below_regrown _ _ _)) HH.out.1 HH.out.2))))
      refine wpQuiet_nil ?_
      intro _ hw'
      obtain ⟨⟨dq, osq⟩, hw''⟩ := hw'
      subst hw''
      go_wp2_with fail
      go_roundw
      case rel => exact ⟨k + 1, by omega, by go_num, hB.trans ((below_regrown _ _ _).mono hB.size)⟩
      case measure => simp [intOf]; omega
    · go_wp2_with fail
      go_ret
      exact ⟨rfl, hB⟩


theorem Blk.ne {w : World} {g g' : Nat} {e e' : TypeId} {n n' : Nat} {f f' : Nat → Value} (h : Blk w g e n f) (h' : Blk w g' e' n' f') (he : e ≠ e') : g ≠ g' := by
  rintro rfl
  obtain ⟨c, hc, _⟩ := h
  obtain ⟨c', hc', _⟩ := h'
  rw [hc] at hc'
  cases hc'
  exact he rfl

set_option maxRecDepth 100000 in
set_option maxHeartbeats 1000000 in
theorem ownOn_any (s : Sh) (w : World) (hs : s.At w) (hn : s.n ≤ 6) (hn1 : 1 ≤ s.n) (hr : ∀ i, i < s.n → 1 ≤ (s.r i).n ∧ (s.r i).n ≤ 3) :
    Calls Try.prog 104 #[s.val] w fun e w' => ∃ (g c : Nat) (G C : Nat → Nat), e = .returned (.slice (some ⟨g, 0, none⟩) s.n c) ∧ w.heap.size ≤ g ∧ s.n ≤ c ∧ c ≤ maxLen ∧
      Blk w' g 23 s.n (fun i => .slice (some ⟨G i, 0, none⟩) (s.r i).n (C i)) ∧
      (∀ i, i < s.n → w.heap.size ≤ G i ∧ (s.r i).n ≤ C i ∧ C i ≤ maxLen ∧ Blk w' (G i) 3 (s.r i).n (fun j => .int .i64 ((s.r i).z j))) ∧
      (∀ i j, i < j → j < s.n → G i < G j) ∧ Below w.heap.size w w' := by
  obtain ⟨sle, scap, rows⟩ := hs
  obtain ⟨s0, sn, sc, sr⟩ := s
  dsimp only at sle scap rows hn hr hn1
  unfold maxLen at scap
  simp only [Sh.val]
  obtain ⟨i0, hi, hz0, hz1, hz2⟩ := info_parts infoInts
  obtain ⟨i1, hj, hy0, hy1, hy2⟩ := info_parts infoInt
  go_enter Try.func104, Try.ntmps104
  go_wp2_with fail
  go_loopw [3, 4] (fun v i wk => ∃ k : Nat, k ≤ sn ∧ i = .int .i64 k ∧ (∃ (G C : Nat → Nat), wk.ownsRow w.heap.size 23 1 v k ((List.range k).map fun i => Value.slice (some ⟨G i, 0, none⟩) (sr i).n (C i)) ∧
      (∀ i, i < k → w.heap.size ≤ G i ∧ (sr i).n ≤ C i ∧ C i ≤ maxLen ∧ Blk wk (G i) 3 (sr i).n (fun j => .int .i64 ((sr i).z j))) ∧
      (∀ i j, i < j → j < k → G i < G j)) ∧ Below w.heap.size w wk) (fun _ i _ => sn - (intOf i).toNat)
  case atStart => exact ⟨0, Nat.zero_le _, rfl, ⟨fun _ => 0, fun _ => 0, World.ownsRow_nil _ _ _ _, fun i hi => absurd hi (Nat.not_lt_zero _), fun i j _ hj => absurd hj (Nat.not_lt_zero _)⟩, Below.refl _ _⟩
  case round =>
    obtain ⟨k, hk, rfl, hgs, hB⟩ := hrel
    by_cases hlt : k < sn
    · obtain ⟨b, o, rfl, hb, z0, hat⟩ := (rows.below hB) k hlt
      have hr1 := hr k hlt
      obtain ⟨rle, rcap, ints⟩ := hat
      obtain ⟨b1, o1, ha, hb1, y0⟩ := ints 0 (by omega)
      rw [ha] at z0 ints
      clear y0 ha
      have HG : Hid _ := hgs
      clear hgs
      have m1 : (0 : Int) ≤ (k : Int) := by omega
      go_wp2_with (at_builtin; refine wpList_append_own _ rfl (.tmp 12) (.tmp 16) 23 rfl wr.heap.size 3 i1 (.int .i64 0) 1 8 Try.underlying23 hj hy0 hy1 hy2 rfl (by decide) _ _ _ rfl (World.ownsRow_made wr #[] 0 (Nat.le_refl _) (Nat.zero_le _) rfl) ⟨b1, o1, none⟩ (sr k).n (sr k).c ((List.range (sr k).n).map fun j => Value.int .i64 ((sr k).z j)) rfl ?qc1 ?qc2 ?qc3 ?qc4 ?qc5 ?qc6 ?_)
      case qc1 => simp
      case qc2 =>
        intro j u hj
        have hjn : j < (sr k).n := by
          have := (List.getElem?_eq_some_iff.1 hj).1
          simpa using this
        obtain ⟨b', o', he, hb', hcell⟩ := ints j hjn
        simp only [Option.some.injEq, Addr.mk.injEq, and_true] at he
        obtain ⟨rfl, rfl⟩ := he
        rw [Go.WideShapes.add_plain]
        rw [((Below.refl wr.heap.size wr).alloc (Nat.le_refl _) _).cell (p := ⟨b1, o1 + j, none⟩) hb', hcell]
        simp [hjn] at hj
        rw [hj]
      case qc3 => intro u hu; obtain ⟨x, _, rfl⟩ := List.mem_map.1 hu; rfl
      case qc4 => unfold maxLen; omega
      case qc5 => omega
      case qc6 => simp
      intro v' w1 hown hgrow hnil
      obtain ⟨g, c', rfl, h1, h2, h3, h4⟩ := Blk.ofOwns hown hnil
      rw [Nat.mul_one] at h4
      have hB1 : Below wr.heap.size wr w1 := ((Below.refl _ wr).alloc (Nat.le_refl _) _).grown hgrow (by simp) (by intro k hk; simp [Value.ownBlock] at hk; omega)
      have h5 : Blk w1 g 3 (sr k).n (fun j => .int .i64 ((sr k).z j)) := h4.congr (fun j hj => by simp [hj])
      clear hown hgrow hnil ints z0 h4
      obtain ⟨G, C, ho, gr, gm⟩ := HG.out
      have ho1 : w1.ownsRow w.heap.size 23 1 u3 k ((List.range k).map fun i => Value.slice (some ⟨G i, 0, none⟩) (sr i).n (C i)) := ho.kept (row := none) ⟨hB1.os, hB1.tape, hB1.output, hB1.size, fun j hj _ => hB1.block j hj⟩ (by cases h : u3.ownBlock <;> simp)
      have HR : Hid _ := And.intro gr gm
      clear ho gr gm HG
      go_wp2_with (at_builtin; refine wpList_append_own _ rfl (.tmp 11) (.tmp 18) 26 rfl w.heap.size 23 i0 (.slice none 0 0) 1 24 Try.underlying26 hi hz0 hz1 hz2 rfl (by decide) _ _ _ rfl (ho1.alloc _) ⟨w1.heap.size, 0, none⟩ 1 1 [.slice (some ⟨g, 0, none⟩) (sr k).n c'] rfl rfl ?c1 ?c2 ?c3 ?c4 ?c5 ?_)
      case c1 =>
        intro j u hj
        match j, hj with
        | 0, hj => simp at hj; subst hj; simp [Addr.add]
      case c2 => intro u hu; simp at hu; subst hu; rfl
      case c3 => unfold maxLen; omega
      case c4 => omega
      case c5 => have := hB.size; have := hB1.size; simp; omega
      intro v2 w2 hown2 hgrow2 hnil2
      have hB12 := hB.trans (hB1.mono hB.size)
      have hlt2 := ho1.lt
      have hB2 : Below w.heap.size w w2 := (hB12.alloc (by have := hB12.size; omega) _).grown hgrow2 (by have := hB12.size; simp; omega) (fun q hq => (hlt2 q hq).1)
      have keep : ∀ q f n', Blk w1 q 3 n' f → Blk w2 q 3 n' f := fun q f n' hb => by
        refine (hb.alloc _).grown hgrow2 ?_
        intro hq
        rcases ho1.2 with ⟨rfl, _⟩ | ⟨g2, cap2, cur2, rfl, _, hh2, hrest⟩
        · simp [Value.ownBlock] at hq
        · simp only [Value.ownBlock, Option.some.injEq] at hq
          subst hq
          obtain ⟨c3, hc3, _⟩ := hb
          rw [hc3] at hh2
          cases hh2
      have KN := keep _ _ _ h5
      have HK : Hid _ := And.intro hown2 (And.intro KN keep)
      clear hown2 hgrow2 hnil2 KN keep ho1 h5 hlt2
      go_wp2_with fail
      go_roundw
      case rel =>
        obtain ⟨hown2, KN, keep⟩ := HK.out
        obtain ⟨gr, gm⟩ := HR.out
        refine ⟨k + 1, by omega, by go_num, ⟨fun i => if i = k then g else G i, fun i => if i = k then c' else C i, ?_, ?_, ?_⟩, hB2⟩
        · have e : (List.range (k + 1)).map (fun i => Value.slice (some ⟨if i = k then g else G i, 0, none⟩) (sr i).n (if i = k then c' else C i)) = ((List.range k).map fun i => Value.slice (some ⟨G i, 0, none⟩) (sr i).n (C i)) ++ [.slice (some ⟨g, 0, none⟩) (sr k).n c'] := by
            rw [List.range_succ, List.map_append]
            congr 1
            · exact List.map_congr_left fun i hi => by have := List.mem_range.1 hi; simp [show ¬ i = k by omega]
            · simp
          rw [e]
          exact hown2
        · intro i hi
          by_cases hik : i = k
          · subst hik
            simp only [if_true]
            exact ⟨by have := hB.size; omega, h1, h2, KN⟩
          · simp only [hik, if_false]
            have hi2 : i < k := by omega
            exact ⟨(gr i hi2).1, (gr i hi2).2.1, (gr i hi2).2.2.1, keep _ _ _ ((gr i hi2).2.2.2.below hB1)⟩
        · intro i j hij hj
          by_cases hjk : j = k
          · subst hjk
            have := (gr i hij).2.2.2.lt
            simp [show ¬ i = j by omega]
            omega
          · simp [hjk, show ¬ i = k by omega, gm i j hij (by omega)]
      case measure => simp [intOf]; omega
    · go_wp2_with fail
      go_ret
      have hkn : k = sn := by omega
      subst hkn
      obtain ⟨G, C, ho, gr, gm⟩ := hgs
      have hv : ∃ g c, u3 = .slice (some ⟨g, 0, none⟩) k c := by
        rcases ho.2 with ⟨_, h0⟩ | ⟨g2, cap2, cur2, rfl, _⟩
        · omega
        · exact ⟨g2, cap2, rfl⟩
      obtain ⟨g', c'', rfl⟩ := hv
      obtain ⟨g, c, hvv, h1, h2, h3, h4⟩ := Blk.ofOwns ho (by simp)
      rw [Nat.mul_one] at h4
      simp only [Value.slice.injEq, Option.some.injEq, Addr.mk.injEq, and_true, true_and] at hvv
      obtain ⟨rfl, rfl⟩ := hvv
      exact ⟨g', c'', G, C, rfl, h3, h1, h2, h4.congr (fun j hj => by simp [hj]), gr, gm, hB⟩

end Go.Proofs.Ytjiodlbblmbibac
/- Holds: dropping and adding, as functions. No walk. -/
namespace Go.Proofs.Ytjiodlbblmbibac
open Go.RowKit
set_option linter.unusedVariables false

def dropZ (z : Nat → Hd) (i j : Nat) : Hd := if j < i then z j else z (j + 1)
def dropI (n : Nat) (z : Nat → Hd) (o l b : Int) : Nat := ((List.range n).find? (fun i => matchH (z i) o l b)).getD 0
def dropE (n : Nat) (z : Nat → Hd) (o l b : Int) : Int := if checkH n z = 0 then (if keptV n z o l b = 0 then 4 else 0) else checkH n z
def dropN (n : Nat) (z : Nat → Hd) (o l b : Int) : Int := if checkH n z = 0 then keptV n z o l b else 0

/-- What comes of dropping. -/
def DropOK (n : Nat) (z : Nat → Hd) (o l b : Int) (s' : Hs) : Prop :=
  s'.n = (if dropE n z o l b = 0 then n - 1 else 0) ∧ ∀ j, j < s'.n → s'.z j = dropZ z (dropI n z o l b) j

theorem dropI_some {n k : Nat} {z : Nat → Hd} {o l b : Int} (hk : k < n) (h : ∀ j, j < k → matchH (z j) o l b = false) (hm : matchH (z k) o l b = true) : dropI n z o l b = k := by
  unfold dropI
  have e : List.range n = List.range k ++ (k :: (List.range (n - k - 1)).map (fun i => k + 1 + i)) := by
    have := @List.range_add k (n - k)
    rw [show k + (n - k) = n by omega] at this
    rw [this, show n - k = (n - k - 1) + 1 by omega, List.range_succ_eq_map]
    simp [Function.comp_def]
    intro i hi
    omega
  rw [e, List.find?_append]
  have h0 : (List.range k).find? (fun i => matchH (z i) o l b) = none := by
    rw [List.find?_eq_none]
    intro x hx
    simp [h x (List.mem_range.1 hx)]
  rw [h0, List.find?_cons]
  simp [hm]

theorem match_cmp {x : Hd} {o l b : Int} (t : Hd) (ht : t.o = o ∧ t.l = l ∧ t.b = b) : matchH x o l b = true ↔ cmpH x t = 0 := by
  rw [cmp_zero]
  simp [matchH, ht, and_assoc]
theorem checkH_zero {n : Nat} {z : Nat → Hd} (h : checkH n z = 0) : anyB n (badH z) = false := by
  cases h' : anyB n (badH z)
  · rfl
  · simp [checkH, h'] at h

/-- What the search finds, or does not. -/
theorem found {n : Nat} {z : Nat → Hd} {o l b : Int} {t : Hd} {i : Nat} (hr : anyB n (badH z) = false) (ht : t.o = o ∧ t.l = l ∧ t.b = b) (hp : PosH n z t i) :
    ((decide (i < n) && decide (cmpH (z i) t = 0)) = true → i < n ∧ keptV n z o l b = (z i).n ∧ dropI n z o l b = i ∧ 1 ≤ (z i).n ∧ (z i).n ≤ 200) ∧
    ((decide (i < n) && decide (cmpH (z i) t = 0)) = false → keptV n z o l b = 0 ∧ ∀ j, j < n → matchH (z j) o l b = false) := by
  have lo : ∀ j, j < i → matchH (z j) o l b = false := fun j hj => by
    cases hm : matchH (z j) o l b
    · rfl
    · have := (match_cmp t ht).1 hm
      have := hp.lo j hj
      omega
  constructor
  · intro h
    simp only [Bool.and_eq_true, decide_eq_true_eq] at h
    have hm := (match_cmp (x := z i) t ht).2 h.2
    have hf := (fineH_true (right_fine hr i h.1)).2.2.2
    exact ⟨h.1, keptV_some h.1 lo hm, dropI_some h.1 lo hm, hf⟩
  · intro h
    have no : ∀ j, j < n → matchH (z j) o l b = false := fun j hj => by
      rcases Nat.lt_trichotomy j i with hji | hji | hji
      · exact lo j hji
      · subst hji
        cases hm : matchH (z j) o l b
        · rfl
        · have := (match_cmp t ht).1 hm
          simp [hj, this] at h
      · cases hm : matchH (z j) o l b
        · rfl
        · have h1 := (match_cmp t ht).1 hm
          have h2 := right_cmp hr i j hji hj
          have h3 := hp.hi i (Nat.le_refl _) (by omega)
          rw [cmp_zero] at h1
          rw [cmp_neg] at h2
          have h4 : cmpH (z i) t < 0 := by rw [cmp_neg]; omega
          omega
    exact ⟨keptV_none no, no⟩

theorem flatH_append (z : Nat → Hd) (p : Nat) : ∀ q, flatH (p + q) z = flatH p z ++ flatH q (fun j => z (p + j))
  | 0 => by simp [flatH]
  | q + 1 => by
    rw [← Nat.add_assoc, flatH_succ, flatH_append z p q, flatH_succ, List.append_assoc]

theorem flatH_drop (n : Nat) (z : Nat → Hd) (i : Nat) (hi : i < n) : flatH (n - 1) (dropZ z i) = flatH i z ++ flatH (n - (i + 1)) (fun j => z (i + 1 + j)) := by
  rw [show n - 1 = i + (n - (i + 1)) by omega, flatH_append]
  rw [flatH_congr (n := i) (z := dropZ z i) (z' := z) fun j hj => by simp [dropZ, hj]]
  rw [flatH_congr (n := n - (i + 1)) (z := fun j => dropZ z i (i + j)) (z' := fun j => z (i + 1 + j)) fun j hj => by show dropZ z i (i + j) = _; unfold dropZ; rw [if_neg (by omega), show i + j + 1 = i + 1 + j by omega]]

/-- A part of a slice of holds. -/
theorem HdsAt.cut {w : World} {a : Addr} {n c : Nat} {z : Nat → Hd} (h : HdsAt w (some a) n z) (k : Nat) (hk : k ≤ n) (hn : n ≤ c) : HdsAt w (some (if c = k then a else a.add (k * 4))) (n - k) (fun j => z (k + j)) := by
  intro i hi
  obtain ⟨b, o, ha, hb, h0, h1, h2, h3⟩ := h (k + i) (by omega)
  simp only [Option.some.injEq] at ha
  subst ha
  refine ⟨b, o + k * 4, ?_, hb, ?_, ?_, ?_, ?_⟩
  · rw [if_neg (by omega), Go.WideShapes.add_plain]
  all_goals (rw [show o + k * 4 + i * 4 = o + (k + i) * 4 by omega]; assumption)

end Go.Proofs.Ytjiodlbblmbibac
/- Holds: Drop. -/
namespace Go.Proofs.Ytjiodlbblmbibac
open Go.RowKit Go.Shelf Go.Sort
set_option linter.unusedVariables false

end Go.Proofs.Ytjiodlbblmbibac
/- Holds: adding, as functions. No walk. -/
namespace Go.Proofs.Ytjiodlbblmbibac
open Go.RowKit
set_option linter.unusedVariables false

def addPos (n : Nat) (z : Nat → Hd) (h : Hd) : Nat := ((List.range n).find? (fun i => decide (0 ≤ cmpH (z i) h))).getD n
def addE (n : Nat) (z : Nat → Hd) (h : Hd) : Int := if checkH n z = 0 then (if fineH h then (if 200 < keptV n z h.o h.l h.b + h.n then 3 else 0) else 1) else checkH n z
def insZ (z : Nat → Hd) (i : Nat) (h : Hd) (j : Nat) : Hd := if j < i then z j else if j = i then h else z (j - 1)
def setZ (z : Nat → Hd) (i : Nat) (h : Hd) (j : Nat) : Hd := if j = i then h else z j
def addZ (n : Nat) (z : Nat → Hd) (h : Hd) : Nat → Hd := if keptV n z h.o h.l h.b = 0 then insZ z (addPos n z h) h else setZ z (addPos n z h) ⟨h.o, h.l, h.b, keptV n z h.o h.l h.b + h.n⟩
def addLen (n : Nat) (z : Nat → Hd) (h : Hd) : Nat := if keptV n z h.o h.l h.b = 0 then n + 1 else n
/-- What comes of adding. -/
def AddOK (n : Nat) (z : Nat → Hd) (h : Hd) (s' : Hs) : Prop :=
  s'.n = (if addE n z h = 0 then addLen n z h else 0) ∧ ∀ j, j < s'.n → s'.z j = addZ n z h j

theorem addPos_eq {n : Nat} {z : Nat → Hd} {h : Hd} {i : Nat} (hp : PosH n z h i) : addPos n z h = i := by
  unfold addPos
  by_cases hi : i < n
  · have e : List.range n = List.range i ++ (i :: (List.range (n - i - 1)).map (fun q => i + 1 + q)) := by
      have := @List.range_add i (n - i)
      rw [show i + (n - i) = n by omega] at this
      rw [this, show n - i = (n - i - 1) + 1 by omega, List.range_succ_eq_map]
      simp [Function.comp_def]
      intro q hq
      omega
    rw [e, List.find?_append]
    have h0 : (List.range i).find? (fun q => decide (0 ≤ cmpH (z q) h)) = none := by
      rw [List.find?_eq_none]
      intro x hx
      have := hp.lo x (List.mem_range.1 hx)
      simp; omega
    rw [h0, List.find?_cons]
    have := hp.hi i (Nat.le_refl _) hi
    simp [this]
  · have hin : i = n := by have := hp.le; omega
    subst hin
    have h0 : (List.range i).find? (fun q => decide (0 ≤ cmpH (z q) h)) = none := by
      rw [List.find?_eq_none]
      intro x hx
      have := hp.lo x (List.mem_range.1 hx)
      simp; omega
    rw [h0]
    rfl

theorem flatH_ins (n : Nat) (z : Nat → Hd) (i : Nat) (h : Hd) (hi : i ≤ n) : flatH (n + 1) (insZ z i h) = flatH i z ++ flatH 1 (fun _ => h) ++ flatH (n - i) (fun j => z (i + j)) := by
  rw [show n + 1 = (i + 1) + (n - i) by omega, flatH_append, flatH_append (insZ z i h) i 1]
  congr 1
  · congr 1
    · exact flatH_congr fun j hj => by unfold insZ; rw [if_pos hj]
    · exact flatH_congr fun j hj => by
        have : j = 0 := by omega
        subst this
        simp [insZ]
  · exact flatH_congr fun j hj => by
      show insZ z i h (i + 1 + j) = _
      unfold insZ
      rw [if_neg (by omega), if_neg (by omega), show i + 1 + j - 1 = i + j by omega]

theorem flatH_set (n : Nat) (z : Nat → Hd) (i : Nat) (h : Hd) (hi : i < n) : flatH n (setZ z i h) = flatH i z ++ flatH 1 (fun _ => h) ++ flatH (n - (i + 1)) (fun j => z (i + 1 + j)) := by
  rw [show flatH n (setZ z i h) = flatH ((i + 1) + (n - (i + 1))) (setZ z i h) by rw [show (i + 1) + (n - (i + 1)) = n by omega], flatH_append, flatH_append (setZ z i h) i 1]
  congr 1
  · congr 1
    · exact flatH_congr fun j hj => by unfold setZ; rw [if_neg (by omega)]
    · exact flatH_congr fun j hj => by
        have : j = 0 := by omega
        subst this
        simp [setZ]
  · exact flatH_congr fun j hj => by
      show setZ z i h (i + 1 + j) = _
      unfold setZ
      rw [if_neg (by omega)]

theorem Hs.one {w : World} {g : Nat} {h : Hd} {e : TypeId} (hb : Blk w g e 4 (fun j => (#[.int .i64 h.o, .int .i64 h.l, .int .i64 h.b, .int .i64 h.n] : Array Value).getD j default)) : Hs.At w ⟨some ⟨g, 0, none⟩, 1, 1, fun _ => h⟩ := by
  refine ⟨Nat.le_refl _, by show 1 ≤ maxLen; unfold maxLen; omega, fun i hi => ?_, fun h => by cases h⟩
  have hi0 : i = 0 := by have : i < 1 := hi; omega
  subst hi0
  exact ⟨g, 0, rfl, hb.lt, hb.cell (j := 0) (by decide), hb.cell (j := 1) (by decide), hb.cell (j := 2) (by decide), hb.cell (j := 3) (by decide)⟩

end Go.Proofs.Ytjiodlbblmbibac

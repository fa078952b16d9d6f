/- Begin. -/
import Derived.Test.YtjiodlbblmbibacSW9
import Derived.Maps.AppendAt
namespace Go.Proofs.Ytjiodlbblmbibac
open Go.RowKit Go.Shelf Go.Sort
set_option linter.unusedVariables false

/-- What Begin answers. -/
def BegunS (p : Pl) (s : St) : Prop := s.on.n = p.nb ∧ (∀ i, i < p.nb → (s.on.r i).n = p.ns ∧ ∀ j, j < p.ns → (s.on.r i).z j = 0) ∧ s.os.n = 0 ∧ s.hs.n = 0 ∧ s.ms.n = 0 ∧
  (s.si.n = p.ns ∧ ∀ j, j < p.ns → s.si.z j = 0) ∧ (s.so.n = p.ns ∧ ∀ j, j < p.ns → s.so.z j = 0) ∧ (s.sf.n = p.ns ∧ ∀ j, j < p.ns → s.sf.z j = 0)
def NoneS (s : St) : Prop := s.on.n = 0 ∧ s.os.n = 0 ∧ s.hs.n = 0 ∧ s.ms.n = 0 ∧ s.si.n = 0 ∧ s.so.n = 0 ∧ s.sf.n = 0
def BeginOK (p : Pl) (s : St) : Prop := (planE p = 0 → BegunS p s) ∧ (¬ planE p = 0 → NoneS s)
def noneS : St := ⟨⟨none, 0, 0, fun _ => ⟨none, 0, 0, fun _ => 0⟩⟩, ⟨none, 0, 0, fun _ => ⟨0, ⟨none, 0, 0, fun _ => ⟨0, 0, 0, 0⟩⟩⟩⟩, ⟨none, 0, 0, fun _ => ⟨0, 0, 0, 0⟩⟩, ⟨none, 0, 0, fun _ => ⟨0, 0, 0, 0⟩⟩, ⟨none, 0, 0, fun _ => 0⟩, ⟨none, 0, 0, fun _ => 0⟩, ⟨none, 0, 0, fun _ => 0⟩⟩
theorem Rw.none (w : World) : Rw.At w ⟨.none, 0, 0, fun _ => 0⟩ := ⟨Nat.le_refl _, Nat.zero_le _, fun i hi => absurd hi (Nat.not_lt_zero _)⟩
theorem Hs.none (w : World) : Hs.At w ⟨.none, 0, 0, fun _ => ⟨0, 0, 0, 0⟩⟩ := ⟨Nat.le_refl _, Nat.zero_le _, fun i hi => absurd hi (Nat.not_lt_zero _), fun _ => rfl⟩
theorem noneS_at (w : World) : noneS.At w :=
  ⟨⟨Nat.le_refl _, Nat.zero_le _, fun i hi => absurd hi (Nat.not_lt_zero _)⟩, ⟨Nat.le_refl _, Nat.zero_le _, fun i hi => absurd hi (Nat.not_lt_zero _)⟩, Hs.none w, Hs.none w, Rw.none w, Rw.none w, Rw.none w⟩

theorem madeI {j n : Nat} (hj : j < n) : (madeCells (Value.int .i64 0).cells n).toList.getD j default = .int .i64 0 := by
  simp [madeCells, Value.cells, hj, Nat.mod_one]
theorem madeS {j n : Nat} (hj : j < n) : (madeCells (Value.slice .none 0 0).cells n).toList.getD j default = .slice .none 0 0 := by
  simp [madeCells, Value.cells, hj, Nat.mod_one]
theorem infoI2 : (Try.prog.info? 3).map (fun i => (i.zero, i.size, i.bytes)) = some (some (.int .i64 0), 1, 8) := by kernel_rfl
theorem infoS2 : (Try.prog.info? 23).map (fun i => (i.zero, i.size, i.bytes)) = some (some (.slice .none 0 0), 1, 24) := by kernel_rfl

set_option maxHeartbeats 1000000 in
theorem Begin1_any (B : Nat) (p : Pl) (w : World) (ns3 : p.ns ≤ 3) (hB : B < w.heap.size) (c1 : w.cell? ⟨B, 1, none⟩ = some (.slice p.sa p.ns p.cs)) :
    Calls Try.prog 27 #[.pointer (some ⟨B, 0, none⟩)] w fun e w' => e = .returned (.slice (some ⟨w.heap.size, 0, none⟩) p.ns p.ns) ∧ Blk w' w.heap.size 3 p.ns (fun _ => .int .i64 0) ∧ Below w.heap.size w w' := by
  obtain ⟨i0, hi, hz0, hz1, hz2⟩ := info_parts infoI2
  go_enter Try.func27, Try.ntmps27
  go_wp2_with (at_make; refine wpList_make_full _ rfl _ _ 23 rfl w.heap.size 3 i0 (.int .i64 0) 1 Try.underlying23 hi hz0 hz1 .i64 .i64 _ _ p.ns rfl rfl rfl rfl (by rw [hz2]; omega) (by unfold maxLen; omega) (Nat.le_refl _) ?_; intro w1 hown hgrow)
  go_ret
  obtain ⟨g, c', hv, _, _, _, hblk⟩ := Blk.ofOwns hown (by simp)
  simp only [Value.slice.injEq, Option.some.injEq, Addr.mk.injEq, and_true] at hv
  obtain ⟨rfl, -, -⟩ := hv
  rw [Nat.mul_one] at hblk
  exact ⟨rfl, hblk.congr (fun j hj => madeI hj), (Below.refl _ w).grown hgrow (Nat.le_refl _) (by intro k hk; cases hk)⟩

/-- A row of noughts. -/
theorem zeroRw {w : World} {g n : Nat} {e : TypeId} (h : Blk w g e n (fun _ => .int .i64 0)) (hn : n ≤ 3) : Rw.At w ⟨some ⟨g, 0, .none⟩, n, n, fun _ => 0⟩ :=
  ⟨Nat.le_refl _, by show n ≤ maxLen; unfold maxLen; omega, fun i hi => ⟨g, 0, rfl, h.lt, by rw [Nat.zero_add]; exact h.cell hi⟩⟩

/-- A state that is stored into a box. -/
def set7 (w : World) (b : Nat) (v0 v1 v2 v3 v4 v5 v6 : Value) : World :=
  ((((((w.setCell ⟨b, 0, none⟩ v0).setCell ⟨b, 1, none⟩ v1).setCell ⟨b, 2, none⟩ v2).setCell ⟨b, 3, none⟩ v3).setCell ⟨b, 4, none⟩ v4).setCell ⟨b, 5, none⟩ v5).setCell ⟨b, 6, none⟩ v6
theorem set7_blk {w : World} {b : Nat} {e : TypeId} {f : Nat → Value} (h : Blk w b e 7 f) (v0 v1 v2 v3 v4 v5 v6 : Value) : Blk (set7 w b v0 v1 v2 v3 v4 v5 v6) b e 7 (fun j => (#[v0, v1, v2, v3, v4, v5, v6] : Array Value).getD j default) :=
  (((((((h.set 0 v0).set 1 v1).set 2 v2).set 3 v3).set 4 v4).set 5 v5).set 6 v6).congr fun j hj => by match j, hj with | 0, _ => rfl | 1, _ => rfl | 2, _ => rfl | 3, _ => rfl | 4, _ => rfl | 5, _ => rfl | 6, _ => rfl
theorem set7_other {w : World} {b g : Nat} {e : TypeId} {n : Nat} {f : Nat → Value} (h : Blk w g e n f) (hne : g ≠ b) (v0 v1 v2 v3 v4 v5 v6 : Value) : Blk (set7 w b v0 v1 v2 v3 v4 v5 v6) g e n f :=
  ((((((h.other (a := ⟨b, 0, none⟩) hne v0).other (a := ⟨b, 1, none⟩) hne v1).other (a := ⟨b, 2, none⟩) hne v2).other (a := ⟨b, 3, none⟩) hne v3).other (a := ⟨b, 4, none⟩) hne v4).other (a := ⟨b, 5, none⟩) hne v5).other (a := ⟨b, 6, none⟩) hne v6
theorem set7_below {n : Nat} {A w : World} {b : Nat} (h : Below n A w) (hb : n ≤ b) (v0 v1 v2 v3 v4 v5 v6 : Value) : Below n A (set7 w b v0 v1 v2 v3 v4 v5 v6) :=
  ((((((h.setCell (p := ⟨b, 0, none⟩) hb v0).setCell (p := ⟨b, 1, none⟩) hb v1).setCell (p := ⟨b, 2, none⟩) hb v2).setCell (p := ⟨b, 3, none⟩) hb v3).setCell (p := ⟨b, 4, none⟩) hb v4).setCell (p := ⟨b, 5, none⟩) hb v5).setCell (p := ⟨b, 6, none⟩) hb v6
/-- A box that holds a state, read as a result. -/
theorem box_cells {w : World} {b : Nat} {e : TypeId} {v0 v1 v2 v3 v4 v5 v6 : Value} (h : Blk w b e 7 (fun j => (#[v0, v1, v2, v3, v4, v5, v6] : Array Value).getD j default)) :
    w.cell? ⟨b, 0, none⟩ = some v0 ∧ w.cell? ⟨b, 1, none⟩ = some v1 ∧ w.cell? ⟨b, 2, none⟩ = some v2 ∧ w.cell? ⟨b, 3, none⟩ = some v3 ∧ w.cell? ⟨b, 4, none⟩ = some v4 ∧ w.cell? ⟨b, 5, none⟩ = some v5 ∧ w.cell? ⟨b, 6, none⟩ = some v6 :=
  ⟨h.cell (j := 0) (by decide), h.cell (j := 1) (by decide), h.cell (j := 2) (by decide), h.cell (j := 3) (by decide), h.cell (j := 4) (by decide), h.cell (j := 5) (by decide), h.cell (j := 6) (by decide)⟩

set_option maxRecDepth 100000 in
set_option maxHeartbeats 4000000 in
theorem Begin_any (p : Pl) (w : World) (hp : p.At w) :
    Calls Try.prog 9 #[p.val] w fun e w' => ∃ s : St, e = .returned (.tuple #[s.val, .int .i64 (planE p)]) ∧ s.At w' ∧ BeginOK p s ∧ Below w.heap.size w w' := by
  have capb := hp.capb
  have leb := hp.leb
  unfold maxLen at capb
  obtain ⟨W0, hW, hWB, X0, Z0⟩ : ∃ W, ((w.alloc (.cells #[.slice p.ab p.nb p.cb, .slice p.sa p.ns p.cs] 25)).alloc (.cells #[.slice .none 0 0, .slice .none 0 0, .slice .none 0 0, .slice .none 0 0, .slice .none 0 0, .slice .none 0 0, .slice .none 0 0] 31)) = W ∧ Below w.heap.size w W ∧ Blk W w.heap.size 25 2 (fun j => (#[.slice p.ab p.nb p.cb, .slice p.sa p.ns p.cs] : Array Value).getD j default) ∧ Blk W (w.heap.size + 1) 31 7 (fun _ => .slice .none 0 0) :=
    ⟨_, rfl, two_below _ _ _, (Blk.mk' rfl rfl).alloc _, (Blk.mk' (cur := #[.slice .none 0 0, .slice .none 0 0, .slice .none 0 0, .slice .none 0 0, .slice .none 0 0, .slice .none 0 0, .slice .none 0 0]) (by simp) rfl).congr (fun j hj => by match j, hj with | 0, _ => rfl | 1, _ => rfl | 2, _ => rfl | 3, _ => rfl | 4, _ => rfl | 5, _ => rfl | 6, _ => rfl)⟩
  have HW : Hid ((w.alloc (.cells #[.slice p.ab p.nb p.cb, .slice p.sa p.ns p.cs] 25)).alloc (.cells #[.slice .none 0 0, .slice .none 0 0, .slice .none 0 0, .slice .none 0 0, .slice .none 0 0, .slice .none 0 0, .slice .none 0 0] 31) = W0) := hW
  clear hW
  unfold Pl.val
  go_enter Try.func9, Try.ntmps9
  go_wp2_with fail
  rw [HW.out]
  refine (planCheck_any p W0 (hp.below hWB)).mono ?_
  rintro e w1 ⟨rfl, hB1⟩
  have X1 := X0.below hB1
  have Z1 := Z0.below hB1
  have hC1 := hWB.trans (hB1.mono hWB.size)
  clear X0 Z0 hB1
  by_cases h0 : planE p = 0
  · have R := rightP h0
    have hns3 := R.ns3
    have hnb6 := R.nb6
    have hns1 := R.ns1
    have H0 : Hid (planE p = 0) := h0
    rw [h0]
    clear h0 R
    obtain ⟨i0, hi, hz0, hz1, hz2⟩ := info_parts infoS2
    have d0 : w1.cell? ⟨w.heap.size, 0, none⟩ = some (.slice p.ab p.nb p.cb) := X1.cell (j := 0) (by decide)
    have l1 := X1.lt
    go_wp2_with (at_make; refine wpList_make_full _ rfl _ _ 26 rfl w1.heap.size 23 i0 (.slice .none 0 0) 1 Try.underlying26 hi hz0 hz1 .i64 .i64 _ _ p.nb rfl rfl rfl rfl (by rw [hz2]; omega) (by unfold maxLen; omega) (Nat.le_refl _) ?_; intro w2 hown hgrow)
    obtain ⟨g, c', hv, _, _, _, hblk⟩ := Blk.ofOwns hown (by simp)
    simp only [Value.slice.injEq, Option.some.injEq, Addr.mk.injEq, and_true] at hv
    obtain ⟨rfl, -, -⟩ := hv
    rw [Nat.mul_one] at hblk
    have hB2 : Below w1.heap.size w1 w2 := (Below.refl _ w1).grown hgrow (Nat.le_refl _) (by intro k hk; cases hk)
    clear hown hgrow d0
    have eg := enters_of Try.func27 (by kernel_rfl) rfl
    go_loopw [21] (fun i wk => ∃ k : Nat, k ≤ p.nb ∧ i = .int .i64 k ∧ (∃ (G : Nat → Nat), Blk wk w1.heap.size 23 p.nb (fun i => if i < k then .slice (some ⟨G i, 0, none⟩) p.ns p.ns else .slice none 0 0) ∧ (∀ i, i < k → w1.heap.size < G i ∧ Blk wk (G i) 3 p.ns (fun _ => .int .i64 0))) ∧ Below w1.heap.size w1 wk) (fun i _ => p.nb - (intOf i).toNat)
    case atStart => exact ⟨0, Nat.zero_le _, rfl, ⟨fun _ => 0, hblk.congr (fun j hj => by rw [madeS hj]; simp), fun i hi => absurd hi (Nat.not_lt_zero _)⟩, hB2⟩
    case round =>
      clear hblk hB2
      obtain ⟨k, hk, rfl, hgs, hB⟩ := hrel
      have X2 := X1.below hB
      have hl := X2.lt
      by_cases hlt : k < p.nb
      · have HG : Hid (∃ (G : Nat → Nat), Blk wr w1.heap.size 23 p.nb (fun i => if i < k then .slice (some ⟨G i, 0, none⟩) p.ns p.ns else .slice none 0 0) ∧ (∀ i, i < k → w1.heap.size < G i ∧ Blk wr (G i) 3 p.ns (fun _ => .int .i64 0))) := hgs
        clear hgs
        have m1 : (0 : Int) ≤ (k : Int) := by omega
        go_wp2_with fail
        refine (Begin1_any w.heap.size p wr hns3 hl (X2.cell (j := 1) (by decide))).mono ?_
        rintro e w3 ⟨rfl, hbk, hB3⟩
        obtain ⟨G, gb, gr⟩ := HG.out
        have hb0 := gb.lt
        have gb2 := gb.below hB3
        have hf0 := gb2.frozen k
        have hc0 := gb2.cell hlt
        simp only [Nat.lt_irrefl, if_false] at hc0
        have hB4 := hB.trans (hB3.mono hB.size)
        have st := hB4.setCell (p := ⟨w1.heap.size, k, none⟩) (Nat.le_refl _) (.slice (some ⟨wr.heap.size, 0, none⟩) p.ns p.ns)
        have KB := gb2.set k (.slice (some ⟨wr.heap.size, 0, none⟩) p.ns p.ns)
        have KO : ∀ i, i < k → Blk (w3.setCell ⟨w1.heap.size, k, none⟩ (.slice (some ⟨wr.heap.size, 0, none⟩) p.ns p.ns)) (G i) 3 p.ns (fun _ => .int .i64 0) := fun i hi => ((gr i hi).2.below hB3).other (by have := (gr i hi).1; show _ ≠ w1.heap.size; omega) _
        have KN : Blk (w3.setCell ⟨w1.heap.size, k, none⟩ (.slice (some ⟨wr.heap.size, 0, none⟩) p.ns p.ns)) wr.heap.size 3 p.ns (fun _ => .int .i64 0) := hbk.other (by show _ ≠ w1.heap.size; omega) _
        have HH : Hid _ := And.intro KB (And.intro KO (And.intro KN gr))
        clear KB KO KN gb gb2 gr hbk X2 HG
        go_wp2_with fail
        go_roundw
        case rel =>
          obtain ⟨KB, KO, KN, gr⟩ := HH.out
          refine ⟨k + 1, by omega, by go_num, ⟨fun i => if i = k then wr.heap.size else G i, KB.congr ?_, ?_⟩, st⟩
          · intro j hj
            by_cases hjk : j = k
            · subst hjk; simp
            · by_cases h2 : j < k
              · simp [hjk, h2, show j < k + 1 by omega]
              · simp [hjk, h2, show ¬ j < k + 1 by omega]
          · intro j hj
            by_cases hjk : j = k
            · subst hjk; simp only [if_true]; exact ⟨by omega, KN⟩
            · simp only [if_neg hjk]; exact ⟨(gr j (by omega)).1, KO j (by omega)⟩
        case measure => simp [intOf]; omega
      · have hkn : k = p.nb := by omega
        subst hkn
        have HG : Hid (∃ (G : Nat → Nat), Blk wr w1.heap.size 23 p.nb (fun i => if i < p.nb then .slice (some ⟨G i, 0, none⟩) p.ns p.ns else .slice none 0 0) ∧ (∀ i, i < p.nb → w1.heap.size < G i ∧ Blk wr (G i) 3 p.ns (fun _ => .int .i64 0))) := hgs
        clear hgs
        go_wp2_with fail
        refine (Begin1_any w.heap.size p wr hns3 hl (X2.cell (j := 1) (by decide))).mono ?_
        rintro e w3 ⟨rfl, k3, hB3⟩
        have hB4 := hB.trans (hB3.mono hB.size)
        go_wp2_with fail
        refine (Begin1_any w.heap.size p w3 hns3 (X1.below hB4).lt ((X1.below hB4).cell (j := 1) (by decide))).mono ?_
        rintro e w4 ⟨rfl, k4, hB5⟩
        have hB6 := hB4.trans (hB5.mono hB4.size)
        go_wp2_with fail
        refine (Begin1_any w.heap.size p w4 hns3 (X1.below hB6).lt ((X1.below hB6).cell (j := 1) (by decide))).mono ?_
        rintro e w5 ⟨rfl, k5, hB7⟩
        have hB8 := hB6.trans (hB7.mono hB6.size)
        have Z5 := Z1.below hB8
        have zl := Z5.lt
        have zf0 := Z5.frozen 0
        have zc0 := Z5.cell (j := 0) (by decide)
        have zf1 := Z5.frozen 1
        have zc1 := Z5.cell (j := 1) (by decide)
        have zf2 := Z5.frozen 2
        have zc2 := Z5.cell (j := 2) (by decide)
        have zf3 := Z5.frozen 3
        have zc3 := Z5.cell (j := 3) (by decide)
        have zf4 := Z5.frozen 4
        have zc4 := Z5.cell (j := 4) (by decide)
        have zf5 := Z5.frozen 5
        have zc5 := Z5.cell (j := 5) (by decide)
        have zf6 := Z5.frozen 6
        have zc6 := Z5.cell (j := 6) (by decide)
        go_wp2_with fail
        have KZ := set7_blk Z5 (.slice (some ⟨w1.heap.size, 0, none⟩) p.nb p.nb) (.slice .none 0 0) (.slice .none 0 0) (.slice .none 0 0) (.slice (some ⟨wr.heap.size, 0, none⟩) p.ns p.ns) (.slice (some ⟨w3.heap.size, 0, none⟩) p.ns p.ns) (.slice (some ⟨w4.heap.size, 0, none⟩) p.ns p.ns)
        obtain ⟨G, gb, gr⟩ := HG.out
        have hd35 := hB5.trans (hB7.mono hB5.size)
        have hdr5 := hB3.trans (hd35.mono hB3.size)
        have s1 := Z1.lt
        have sr := hB.size
        have s3 := hB3.size
        have s4 := hB5.size
        have kon := set7_other (b := w.heap.size + 1) (gb.below hdr5) (by omega) (.slice (some ⟨w1.heap.size, 0, none⟩) p.nb p.nb) (.slice .none 0 0) (.slice .none 0 0) (.slice .none 0 0) (.slice (some ⟨wr.heap.size, 0, none⟩) p.ns p.ns) (.slice (some ⟨w3.heap.size, 0, none⟩) p.ns p.ns) (.slice (some ⟨w4.heap.size, 0, none⟩) p.ns p.ns)
        have krw := fun i (hi : i < p.nb) => set7_other (b := w.heap.size + 1) ((gr i hi).2.below hdr5) (by have := (gr i hi).1; omega) (.slice (some ⟨w1.heap.size, 0, none⟩) p.nb p.nb) (.slice .none 0 0) (.slice .none 0 0) (.slice .none 0 0) (.slice (some ⟨wr.heap.size, 0, none⟩) p.ns p.ns) (.slice (some ⟨w3.heap.size, 0, none⟩) p.ns p.ns) (.slice (some ⟨w4.heap.size, 0, none⟩) p.ns p.ns)
        have k3' := set7_other (b := w.heap.size + 1) (k3.below hd35) (by omega) (.slice (some ⟨w1.heap.size, 0, none⟩) p.nb p.nb) (.slice .none 0 0) (.slice .none 0 0) (.slice .none 0 0) (.slice (some ⟨wr.heap.size, 0, none⟩) p.ns p.ns) (.slice (some ⟨w3.heap.size, 0, none⟩) p.ns p.ns) (.slice (some ⟨w4.heap.size, 0, none⟩) p.ns p.ns)
        have k4' := set7_other (b := w.heap.size + 1) (k4.below hB7) (by omega) (.slice (some ⟨w1.heap.size, 0, none⟩) p.nb p.nb) (.slice .none 0 0) (.slice .none 0 0) (.slice .none 0 0) (.slice (some ⟨wr.heap.size, 0, none⟩) p.ns p.ns) (.slice (some ⟨w3.heap.size, 0, none⟩) p.ns p.ns) (.slice (some ⟨w4.heap.size, 0, none⟩) p.ns p.ns)
        have k5' := set7_other (b := w.heap.size + 1) k5 (by omega) (.slice (some ⟨w1.heap.size, 0, none⟩) p.nb p.nb) (.slice .none 0 0) (.slice .none 0 0) (.slice .none 0 0) (.slice (some ⟨wr.heap.size, 0, none⟩) p.ns p.ns) (.slice (some ⟨w3.heap.size, 0, none⟩) p.ns p.ns) (.slice (some ⟨w4.heap.size, 0, none⟩) p.ns p.ns)
        have hbz := set7_below (b := w.heap.size + 1) (hC1.trans (hB8.mono hC1.size)) (by omega) (.slice (some ⟨w1.heap.size, 0, none⟩) p.nb p.nb) (.slice .none 0 0) (.slice .none 0 0) (.slice .none 0 0) (.slice (some ⟨wr.heap.size, 0, none⟩) p.ns p.ns) (.slice (some ⟨w3.heap.size, 0, none⟩) p.ns p.ns) (.slice (some ⟨w4.heap.size, 0, none⟩) p.ns p.ns)
        unfold set7 at KZ kon krw k3' k4' k5' hbz
        generalize (((((((w5.setCell { block := w.heap.size + 1, off := 0 } (Value.slice (some { block := w1.heap.size, off := 0 }) p.nb p.nb)).setCell { block := w.heap.size + 1, off := 1 } (Value.slice none 0 0)).setCell { block := w.heap.size + 1, off := 2 } (Value.slice none 0 0)).setCell { block := w.heap.size + 1, off := 3 } (Value.slice none 0 0)).setCell { block := w.heap.size + 1, off := 4 } (Value.slice (some { block := wr.heap.size, off := 0 }) p.ns p.ns)).setCell { block := w.heap.size + 1, off := 5 } (Value.slice (some { block := w3.heap.size, off := 0 }) p.ns p.ns)).setCell { block := w.heap.size + 1, off := 6 } (Value.slice (some { block := w4.heap.size, off := 0 }) p.ns p.ns)) = WZ at *
        obtain ⟨c0, c1, c2, c3, c4, c5, c6⟩ := box_cells KZ
        refine bodyPost_ret (v := .tuple #[(⟨⟨some ⟨w1.heap.size, 0, none⟩, p.nb, p.nb, fun i => ⟨some ⟨G i, 0, none⟩, p.ns, p.ns, fun _ => 0⟩⟩, ⟨none, 0, 0, fun _ => ⟨0, ⟨none, 0, 0, fun _ => ⟨0, 0, 0, 0⟩⟩⟩⟩, ⟨none, 0, 0, fun _ => ⟨0, 0, 0, 0⟩⟩, ⟨none, 0, 0, fun _ => ⟨0, 0, 0, 0⟩⟩, ⟨some ⟨wr.heap.size, 0, none⟩, p.ns, p.ns, fun _ => 0⟩, ⟨some ⟨w3.heap.size, 0, none⟩, p.ns, p.ns, fun _ => 0⟩, ⟨some ⟨w4.heap.size, 0, none⟩, p.ns, p.ns, fun _ => 0⟩⟩ : St).val, .int .i64 0]) (by simp [results, Try.results9, go_sem, St.val, c0, c1, c2, c3, c4, c5, c6]) rfl ?_
        refine ⟨_, by rw [H0.out], ⟨⟨Nat.le_refl _, by show p.nb ≤ maxLen; unfold maxLen; omega, fun i hi => ?_⟩, ⟨Nat.le_refl _, Nat.zero_le _, fun i hi => absurd hi (Nat.not_lt_zero _)⟩, Hs.none _, Hs.none _, zeroRw k3' hns3, zeroRw k4' hns3, zeroRw k5' hns3⟩, ⟨fun _ => ⟨rfl, fun i hi => ⟨rfl, fun j hj => rfl⟩, rfl, rfl, rfl, ⟨rfl, fun j hj => rfl⟩, ⟨rfl, fun j hj => rfl⟩, ⟨rfl, fun j hj => rfl⟩⟩, fun h => absurd H0.out h⟩, hbz⟩
        have hi' : i < p.nb := hi
        refine ⟨w1.heap.size, 0, rfl, kon.lt, ?_, zeroRw (krw i hi') hns3⟩
        have := kon.cell hi'
        rw [if_pos hi'] at this
        rw [Nat.zero_add]
        exact this
  · have zl := Z1.lt
    have zf0 := Z1.frozen 0
    have zc0 := Z1.cell (j := 0) (by decide)
    have zf1 := Z1.frozen 1
    have zc1 := Z1.cell (j := 1) (by decide)
    have zf2 := Z1.frozen 2
    have zc2 := Z1.cell (j := 2) (by decide)
    have zf3 := Z1.frozen 3
    have zc3 := Z1.cell (j := 3) (by decide)
    have zf4 := Z1.frozen 4
    have zc4 := Z1.cell (j := 4) (by decide)
    have zf5 := Z1.frozen 5
    have zc5 := Z1.cell (j := 5) (by decide)
    have zf6 := Z1.frozen 6
    have zc6 := Z1.cell (j := 6) (by decide)
    go_wp2_with fail
    have KZ := set7_blk Z1 (.slice .none 0 0) (.slice .none 0 0) (.slice .none 0 0) (.slice .none 0 0) (.slice .none 0 0) (.slice .none 0 0) (.slice .none 0 0)
    have hbz := set7_below (b := w.heap.size + 1) hC1 (by omega) (.slice .none 0 0) (.slice .none 0 0) (.slice .none 0 0) (.slice .none 0 0) (.slice .none 0 0) (.slice .none 0 0) (.slice .none 0 0)
    unfold set7 at KZ hbz
    obtain ⟨c0, c1, c2, c3, c4, c5, c6⟩ := box_cells KZ
    refine bodyPost_ret (v := .tuple #[noneS.val, .int .i64 (planE p)]) (by simp [results, Try.results9, go_sem, noneS, St.val, c0, c1, c2, c3, c4, c5, c6]) rfl ?_
    exact ⟨noneS, rfl, noneS_at _, ⟨fun h => absurd h h0, fun _ => ⟨rfl, rfl, rfl, rfl, rfl, rfl, rfl⟩⟩, hbz⟩

end Go.Proofs.Ytjiodlbblmbibac

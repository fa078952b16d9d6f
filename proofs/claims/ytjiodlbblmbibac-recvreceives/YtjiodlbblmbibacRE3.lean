/- What the document enters: EnterOf. -/
import Derived.Test.YtjiodlbblmbibacRE2
import Derived.Test.YtjiodlbblmbibacRV2
namespace Go.Proofs.Ytjiodlbblmbibac
open Go.RowKit Go.Shelf Go.Sort
set_option linter.unusedVariables false

set_option maxRecDepth 100000 in
set_option maxHeartbeats 8000000 in
theorem EnterOf_any (p : Pl) (s : St) (l : Hs) (w : World) (hp : p.At w) (hs : s.At w) (hl : l.At w) :
    Calls Try.prog 25 #[p.val, s.val, l.val] w fun e w' => ∃ s' : St, e = .returned (.tuple #[s'.val, .int .i64 (enterE p s l)]) ∧ s'.At w' ∧ ActOK (enterE p s l) (enterT s l) s' ∧ Below w.heap.size w w' := by
  obtain ⟨W0, hW, hWB, X0, Z0⟩ : ∃ W, (((w.alloc (.cells #[.slice p.ab p.nb p.cb, .slice p.sa p.ns p.cs] 25)).alloc (.cells s.cells 31)).alloc (.cells #[.slice .none 0 0, .slice .none 0 0, .slice .none 0 0, .slice .none 0 0, .slice .none 0 0, .slice .none 0 0, .slice .none 0 0] 31)) = W ∧ Below w.heap.size w W ∧ Boxes W w.heap.size (w.heap.size + 1) p s ∧ Blk W (w.heap.size + 2) 31 7 (fun _ => .slice .none 0 0) :=
    ⟨_, rfl, (two_below _ _ _).alloc (by simp; omega) _, (boxes_new w p s _ _).below ((Below.refl _ _).alloc (Nat.le_refl _) _), (Blk.mk' (cur := #[.slice .none 0 0, .slice .none 0 0, .slice .none 0 0, .slice .none 0 0, .slice .none 0 0, .slice .none 0 0, .slice .none 0 0]) (by simp) rfl).congr (fun j hj => by match j, hj with | 0, _ => rfl | 1, _ => rfl | 2, _ => rfl | 3, _ => rfl | 4, _ => rfl | 5, _ => rfl | 6, _ => rfl)⟩
  have HC : Hid (∀ wk, Below W0.heap.size W0 wk → Boxes wk w.heap.size (w.heap.size + 1) p s ∧ p.At wk ∧ s.At wk ∧ Below w.heap.size w wk ∧ Blk wk (w.heap.size + 2) 31 7 (fun _ => .slice .none 0 0) ∧ l.At wk) := fun wk h => ⟨X0.below h, (hp.below hWB).below h, (hs.below hWB).below h, hWB.trans (h.mono hWB.size), Z0.below h, (hl.below hWB).below h⟩
  have HW : Hid (((w.alloc (.cells #[.slice p.ab p.nb p.cb, .slice p.sa p.ns p.cs] 25)).alloc (.cells #[.slice s.on.a s.on.n s.on.c, .slice s.os.a s.os.n s.os.c, .slice s.hs.a s.hs.n s.hs.c, .slice s.ms.a s.ms.n s.ms.c, .slice s.si.a s.si.n s.si.c, .slice s.so.a s.so.n s.so.c, .slice s.sf.a s.sf.n s.sf.c] 31)).alloc (.cells #[.slice .none 0 0, .slice .none 0 0, .slice .none 0 0, .slice .none 0 0, .slice .none 0 0, .slice .none 0 0, .slice .none 0 0] 31) = W0) := hW
  have leb := hp.leb
  have capb0 := hp.capb
  have les := hp.les
  have caps0 := hp.caps
  have capb := capb0
  have caps := caps0
  have zlt0 := Z0.lt
  unfold maxLen at capb caps
  have lle := hl.le
  have lcap0 := hl.cap
  have lcap := lcap0
  unfold maxLen at lcap
  clear hW X0 Z0 hp hs hl
  unfold Pl.val St.val Hs.val
  go_enter Try.func25, Try.ntmps25
  go_wp2_with fail
  rw [HW.out]
  obtain ⟨X, hpk, hsk, hBw, hz, hlk⟩ := HC.out W0 (Below.refl _ _)
  refine (refCheckState_any p s W0 hpk hsk).mono ?_
  rintro e w1 ⟨rfl, hB⟩
  clear X hpk hsk hBw hz hlk HW
  obtain ⟨⟨⟨l1, d0, d1⟩, l2, c0, c1, c2, c3, c4, c5, c6⟩, hpk, hsk, hBw, hz, hlk⟩ := HC.out w1 hB
  by_cases h0 : stateE p s = 0
  · have H0 : Hid (stateE p s = 0) := h0
    have HF : Hid (Formed p s) := (rightT h0).fm
    rw [h0]
    clear h0
    have os4 := HF.out.os4
    by_cases k1 : s.os.n = 4
    · have HX : Hid (enterE p s l = 2) := enterE_many H0.out (Or.inl k1)
      have g1 : (4 : Int) ≤ (s.os.n : Int) := by omega
      have g2 : 4 ≤ s.os.n := by omega
      have g3 : decide ((4 : Int) ≤ (s.os.n : Int)) = true := decide_eq_true g1
      have g4 : decide (4 ≤ s.os.n) = true := decide_eq_true g2
      clear k1 os4
      clear hpk hsk hlk
      have zl := hz.lt
      have zf0 := hz.frozen 0
      have zc0 := hz.cell (j := 0) (by decide)
      have zf1 := hz.frozen 1
      have zc1 := hz.cell (j := 1) (by decide)
      have zf2 := hz.frozen 2
      have zc2 := hz.cell (j := 2) (by decide)
      have zf3 := hz.frozen 3
      have zc3 := hz.cell (j := 3) (by decide)
      have zf4 := hz.frozen 4
      have zc4 := hz.cell (j := 4) (by decide)
      have zf5 := hz.frozen 5
      have zc5 := hz.cell (j := 5) (by decide)
      have zf6 := hz.frozen 6
      have zc6 := hz.cell (j := 6) (by decide)
      go_wp2_with (go_at_call 48; refine calls_to (within_any _ _ _ _) ?_)
      have KZ := set7_blk hz (.slice .none 0 0) (.slice .none 0 0) (.slice .none 0 0) (.slice .none 0 0) (.slice .none 0 0) (.slice .none 0 0) (.slice .none 0 0)
      have hbz := set7_below (b := w.heap.size + 2) hBw (by omega) (.slice .none 0 0) (.slice .none 0 0) (.slice .none 0 0) (.slice .none 0 0) (.slice .none 0 0) (.slice .none 0 0) (.slice .none 0 0)
      unfold set7 at KZ hbz
      obtain ⟨c0', c1', c2', c3', c4', c5', c6'⟩ := box_cells KZ
      refine bodyPost_ret (v := .tuple #[noneS.val, .int .i64 2]) (by simp [results, Try.results25, go_sem, noneS, St.val, c0', c1', c2', c3', c4', c5', c6']) rfl ?_
      exact ⟨noneS, by rw [HX.out]; rfl, noneS_at _, ⟨fun h => absurd h (by rw [HX.out]; decide), fun _ => ⟨rfl, rfl, rfl, rfl, rfl, rfl, rfl⟩⟩, hbz⟩
    have g1 : ¬ (4 : Int) ≤ (s.os.n : Int) := by omega
    have g2 : ¬ 4 ≤ s.os.n := by omega
    have g3 : decide ((4 : Int) ≤ (s.os.n : Int)) = false := decide_eq_false g1
    have g4 : decide (4 ≤ s.os.n) = false := decide_eq_false g2
    cases k2 : inB l.n 1 3
    · have HX : Hid (enterE p s l = 2) := enterE_many H0.out (Or.inr (by have := inB_false k2; omega))
      clear k1 os4
      clear hpk hsk hlk
      have zl := hz.lt
      have zf0 := hz.frozen 0
      have zc0 := hz.cell (j := 0) (by decide)
      have zf1 := hz.frozen 1
      have zc1 := hz.cell (j := 1) (by decide)
      have zf2 := hz.frozen 2
      have zc2 := hz.cell (j := 2) (by decide)
      have zf3 := hz.frozen 3
      have zc3 := hz.cell (j := 3) (by decide)
      have zf4 := hz.frozen 4
      have zc4 := hz.cell (j := 4) (by decide)
      have zf5 := hz.frozen 5
      have zc5 := hz.cell (j := 5) (by decide)
      have zf6 := hz.frozen 6
      have zc6 := hz.cell (j := 6) (by decide)
      go_wp2_with (go_at_call 48; refine calls_to (within_any _ _ _ _) ?_)
      have KZ := set7_blk hz (.slice .none 0 0) (.slice .none 0 0) (.slice .none 0 0) (.slice .none 0 0) (.slice .none 0 0) (.slice .none 0 0) (.slice .none 0 0)
      have hbz := set7_below (b := w.heap.size + 2) hBw (by omega) (.slice .none 0 0) (.slice .none 0 0) (.slice .none 0 0) (.slice .none 0 0) (.slice .none 0 0) (.slice .none 0 0) (.slice .none 0 0)
      unfold set7 at KZ hbz
      obtain ⟨c0', c1', c2', c3', c4', c5', c6'⟩ := box_cells KZ
      refine bodyPost_ret (v := .tuple #[noneS.val, .int .i64 2]) (by simp [results, Try.results25, go_sem, noneS, St.val, c0', c1', c2', c3', c4', c5', c6']) rfl ?_
      exact ⟨noneS, by rw [HX.out]; rfl, noneS_at _, ⟨fun h => absurd h (by rw [HX.out]; decide), fun _ => ⟨rfl, rfl, rfl, rfl, rfl, rfl, rfl⟩⟩, hbz⟩
    have hl3 := inB_true k2
    have HM : Hid (¬ (s.os.n = 4 ∨ ¬ (1 ≤ l.n ∧ l.n ≤ 3))) := by show ¬ _; omega
    clear k1
    obtain ⟨bl, ol, hla, -⟩ := hlk.hds 0 (by omega)
    have HLA : Hid (l.a = some ⟨bl, ol, none⟩) := hla
    clear hz hpk hsk hlk hBw
    rw [hla]
    clear hla
    go_wp2_with (go_at_call 48; refine calls_to (within_any _ _ _ _) ?_)
    clear l1 d0 d1 l2 c0 c1 c2 c3 c4 c5 c6 g1 g2 g3 g4 k2 os4
    go_loopw [9] (fun i wk => ∃ k : Nat, k ≤ l.n ∧ i = .int .i64 k ∧ (∀ j, j < k → outL p (l.z j) = false) ∧ Below W0.heap.size W0 wk) (fun i _ => l.n - (intOf i).toNat)
    case atStart => exact ⟨0, Nat.zero_le _, rfl, fun j hj => absurd hj (Nat.not_lt_zero _), hB⟩
    case round =>
      clear hB
      obtain ⟨k, hk, rfl, hno, hB⟩ := hrel
      have HN : Hid (∀ j, j < k → outL p (l.z j) = false) := hno
      clear hno
      obtain ⟨⟨⟨l1, d0, d1⟩, l2, c0, c1, c2, c3, c4, c5, c6⟩, hpk, hsk, hBw, hz, hlk⟩ := HC.out wr hB
      by_cases hlt : k < l.n
      · obtain ⟨b2, o2, hla, hb2, y0, y1, y2, y3⟩ := hlk.hds k hlt
        rw [HLA.out] at hla
        simp only [Option.some.injEq, Addr.mk.injEq, and_true] at hla
        obtain ⟨rfl, rfl⟩ := hla
        have HOL : Hid (outL p (l.z k) = (!(inB (l.z k).o 0 ((p.ns : Int) - 1)) || !(inB (l.z k).l 1 200))) := rfl
        have HT1 : Hid (outL p (l.z k) = true → enterE p s l = 3) := fun h => enterE_range H0.out HM.out (anyB_yes hlt h)
        have HT2 : Hid (outL p (l.z k) = false → ∀ j, j < k + 1 → outL p (l.z j) = false) := fun h => all_succ HN.out h
        have qk : (0 : Int) ≤ (k : Int) := by omega
        generalize outL p (l.z k) = OL at *
        generalize l.z k = LZ at *
        have v0 : ∀ d os, (grow (redrawn wr d) os).cell? ⟨bl, ol + k * 4, none⟩ = some (.int .i64 LZ.o) := fun d os => cell_regrown y0 d os
        have v1 : ∀ d os, (grow (redrawn wr d) os).cell? ⟨bl, ol + k * 4 + 1, none⟩ = some (.int .i64 LZ.l) := fun d os => cell_regrown y1 d os
        have v2 : ∀ d os, (grow (redrawn wr d) os).cell? ⟨w.heap.size, 0, none⟩ = some (.slice p.ab p.nb p.cb) := fun d os => cell_regrown d0 d os
        have v3 : ∀ d os, (grow (redrawn wr d) os).cell? ⟨w.heap.size, 1, none⟩ = some (.slice p.sa p.ns p.cs) := fun d os => cell_regrown d1 d os
        clear y0 y1 y2 y3 d0 d1 c0 c1 c2 c3 c4 c5 c6 hpk hsk hlk hBw hz l1 l2 HN
        cases m1 : inB LZ.o 0 ((p.ns : Int) - 1)
        · have HX : Hid (enterE p s l = 3) := HT1.out (by rw [HOL.out, m1]; rfl)
          clear HT1 HT2 HOL
          go_wp2_with fail
          refine wp_region_quiet_below (by kernel_rfl) (by kernel_rfl) ?_
          repeat (go_big_quiet_step (first | (go_at_call 58; exact Calls.regrown_of (isGood_any p _ _ les caps0)) | (go_at_call 48; exact Calls.regrown_of ((within_any _ _ _ _).mono (fun _ _ h => ⟨h.1, h.2 ▸ Below.refl _ _⟩)))))
          refine wpQuiet_nil ?_
          intro w9 hw9
          have hB9 : Below W0.heap.size W0 w9 := by obtain ⟨⟨dq, osq⟩, hw''⟩ := hw9; subst hw''; exact hB.trans ((below_regrown _ _ _).mono hB.size)
          clear hw9 v0 v1 v2 v3 hB
          obtain ⟨⟨⟨l1, d0, d1⟩, l2, c0, c1, c2, c3, c4, c5, c6⟩, hpk, hsk, hBw, hz, hlk⟩ := HC.out w9 hB9
          clear hpk hsk hlk
          have zl := hz.lt
          have zf0 := hz.frozen 0
          have zc0 := hz.cell (j := 0) (by decide)
          have zf1 := hz.frozen 1
          have zc1 := hz.cell (j := 1) (by decide)
          have zf2 := hz.frozen 2
          have zc2 := hz.cell (j := 2) (by decide)
          have zf3 := hz.frozen 3
          have zc3 := hz.cell (j := 3) (by decide)
          have zf4 := hz.frozen 4
          have zc4 := hz.cell (j := 4) (by decide)
          have zf5 := hz.frozen 5
          have zc5 := hz.cell (j := 5) (by decide)
          have zf6 := hz.frozen 6
          have zc6 := hz.cell (j := 6) (by decide)
          go_wp2_with fail
          have KZ := set7_blk hz (.slice .none 0 0) (.slice .none 0 0) (.slice .none 0 0) (.slice .none 0 0) (.slice .none 0 0) (.slice .none 0 0) (.slice .none 0 0)
          have hbz := set7_below (b := w.heap.size + 2) hBw (by omega) (.slice .none 0 0) (.slice .none 0 0) (.slice .none 0 0) (.slice .none 0 0) (.slice .none 0 0) (.slice .none 0 0) (.slice .none 0 0)
          unfold set7 at KZ hbz
          obtain ⟨c0', c1', c2', c3', c4', c5', c6'⟩ := box_cells KZ
          refine bodyPost_ret (v := .tuple #[noneS.val, .int .i64 3]) (by simp [results, Try.results25, go_sem, noneS, St.val, c0', c1', c2', c3', c4', c5', c6']) rfl ?_
          exact ⟨noneS, by rw [HX.out]; rfl, noneS_at _, ⟨fun h => absurd h (by rw [HX.out]; decide), fun _ => ⟨rfl, rfl, rfl, rfl, rfl, rfl, rfl⟩⟩, hbz⟩
        · cases m2 : inB LZ.l 1 200
          · have HX : Hid (enterE p s l = 3) := HT1.out (by rw [HOL.out, m1, m2]; rfl)
            clear HT1 HT2 HOL
            go_wp2_with fail
            refine wp_region_quiet_below (by kernel_rfl) (by kernel_rfl) ?_
            repeat (go_big_quiet_step (first | (go_at_call 58; exact Calls.regrown_of (isGood_any p _ _ les caps0)) | (go_at_call 48; exact Calls.regrown_of ((within_any _ _ _ _).mono (fun _ _ h => ⟨h.1, h.2 ▸ Below.refl _ _⟩)))))
            refine wpQuiet_nil ?_
            intro w9 hw9
            have hB9 : Below W0.heap.size W0 w9 := by obtain ⟨⟨dq, osq⟩, hw''⟩ := hw9; subst hw''; exact hB.trans ((below_regrown _ _ _).mono hB.size)
            clear hw9 v0 v1 v2 v3 hB
            obtain ⟨⟨⟨l1, d0, d1⟩, l2, c0, c1, c2, c3, c4, c5, c6⟩, hpk, hsk, hBw, hz, hlk⟩ := HC.out w9 hB9
            clear hpk hsk hlk
            have zl := hz.lt
            have zf0 := hz.frozen 0
            have zc0 := hz.cell (j := 0) (by decide)
            have zf1 := hz.frozen 1
            have zc1 := hz.cell (j := 1) (by decide)
            have zf2 := hz.frozen 2
            have zc2 := hz.cell (j := 2) (by decide)
            have zf3 := hz.frozen 3
            have zc3 := hz.cell (j := 3) (by decide)
            have zf4 := hz.frozen 4
            have zc4 := hz.cell (j := 4) (by decide)
            have zf5 := hz.frozen 5
            have zc5 := hz.cell (j := 5) (by decide)
            have zf6 := hz.frozen 6
            have zc6 := hz.cell (j := 6) (by decide)
            go_wp2_with fail
            have KZ := set7_blk hz (.slice .none 0 0) (.slice .none 0 0) (.slice .none 0 0) (.slice .none 0 0) (.slice .none 0 0) (.slice .none 0 0) (.slice .none 0 0)
            have hbz := set7_below (b := w.heap.size + 2) hBw (by omega) (.slice .none 0 0) (.slice .none 0 0) (.slice .none 0 0) (.slice .none 0 0) (.slice .none 0 0) (.slice .none 0 0) (.slice .none 0 0)
            unfold set7 at KZ hbz
            obtain ⟨c0', c1', c2', c3', c4', c5', c6'⟩ := box_cells KZ
            refine bodyPost_ret (v := .tuple #[noneS.val, .int .i64 3]) (by simp [results, Try.results25, go_sem, noneS, St.val, c0', c1', c2', c3', c4', c5', c6']) rfl ?_
            exact ⟨noneS, by rw [HX.out]; rfl, noneS_at _, ⟨fun h => absurd h (by rw [HX.out]; decide), fun _ => ⟨rfl, rfl, rfl, rfl, rfl, rfl, rfl⟩⟩, hbz⟩
          · have HX2 : Hid _ := HT2.out (by rw [HOL.out, m1, m2]; rfl)
            clear HT1 HT2 HOL
            go_wp2_with fail
            refine wp_region_quiet_below (by kernel_rfl) (by kernel_rfl) ?_
            repeat (go_big_quiet_step (first | (go_at_call 58; exact Calls.regrown_of (isGood_any p _ _ les caps0)) | (go_at_call 48; exact Calls.regrown_of ((within_any _ _ _ _).mono (fun _ _ h => ⟨h.1, h.2 ▸ Below.refl _ _⟩)))))
            refine wpQuiet_nil ?_
            intro w9 hw9
            have hB9 : Below W0.heap.size W0 w9 := by obtain ⟨⟨dq, osq⟩, hw''⟩ := hw9; subst hw''; exact hB.trans ((below_regrown _ _ _).mono hB.size)
            clear hw9 v0 v1 v2 v3 hB
            go_wp2_with fail
            go_roundw
            case rel => exact ⟨k + 1, by omega, by go_num, HX2.out, hB9⟩
            case measure => simp [intOf]; omega
      · have K3 : Hid (¬ anyB l.n (fun j => outL p (l.z j)) = true) := by show ¬ _; rw [anyB_no fun j hj => HN.out j (by omega)]; decide
        clear HN hpk hsk hlk hBw hz l1 d0 d1 l2 c0 c1 c2 c3 c4 c5 c6
        go_wp2_with fail
        clear hk hlt
        go_loopw [10] (fun i wk => ∃ k : Nat, k ≤ l.n ∧ i = .int .i64 k ∧ (∀ j, j < k → begunL (l.z j) = false) ∧ Below W0.heap.size W0 wk) (fun i _ => l.n - (intOf i).toNat)
        case atStart => exact ⟨0, Nat.zero_le _, rfl, fun j hj => absurd hj (Nat.not_lt_zero _), hB⟩
        case round =>
          clear hB
          obtain ⟨k, hk, rfl, hno, hB⟩ := hrel
          have HN : Hid (∀ j, j < k → begunL (l.z j) = false) := hno
          clear hno
          obtain ⟨⟨⟨l1, d0, d1⟩, l2, c0, c1, c2, c3, c4, c5, c6⟩, hpk, hsk, hBw, hz, hlk⟩ := HC.out wr hB
          by_cases hlt : k < l.n
          · obtain ⟨b2, o2, hla, hb2, y0, y1, y2, y3⟩ := hlk.hds k hlt
            rw [HLA.out] at hla
            simp only [Option.some.injEq, Addr.mk.injEq, and_true] at hla
            obtain ⟨rfl, rfl⟩ := hla
            have HOL : Hid (begunL (l.z k) = ((l.z k).b != 0 || (l.z k).n != 0)) := rfl
            have HT1 : Hid (begunL (l.z k) = true → enterE p s l = 1) := fun h => enterE_form H0.out HM.out K3.out (anyB_yes hlt h)
            have HT2 : Hid (begunL (l.z k) = false → ∀ j, j < k + 1 → begunL (l.z j) = false) := fun h => all_succ HN.out h
            have qk : (0 : Int) ≤ (k : Int) := by omega
            generalize begunL (l.z k) = OL at *
            generalize l.z k = LZ at *
            clear c0 c1 c2 c3 c4 c5 c6 hpk hsk hlk HN
            cases m1 : (LZ.b != 0)
            · cases m2 : (LZ.n != 0)
              · have HX2 : Hid _ := HT2.out (by rw [HOL.out, m1, m2]; rfl)
                clear HT1 HT2 HOL hz hBw
                go_wp2_with fail
                go_roundw
                case rel => exact ⟨k + 1, by omega, by go_num, HX2.out, hB⟩
                case measure => simp [intOf]; omega
              · have HX : Hid (enterE p s l = 1) := HT1.out (by rw [HOL.out, m1, m2]; rfl)
                clear HT1 HT2 HOL
                have zl := hz.lt
                have zf0 := hz.frozen 0
                have zc0 := hz.cell (j := 0) (by decide)
                have zf1 := hz.frozen 1
                have zc1 := hz.cell (j := 1) (by decide)
                have zf2 := hz.frozen 2
                have zc2 := hz.cell (j := 2) (by decide)
                have zf3 := hz.frozen 3
                have zc3 := hz.cell (j := 3) (by decide)
                have zf4 := hz.frozen 4
                have zc4 := hz.cell (j := 4) (by decide)
                have zf5 := hz.frozen 5
                have zc5 := hz.cell (j := 5) (by decide)
                have zf6 := hz.frozen 6
                have zc6 := hz.cell (j := 6) (by decide)
                go_wp2_with fail
                have KZ := set7_blk hz (.slice .none 0 0) (.slice .none 0 0) (.slice .none 0 0) (.slice .none 0 0) (.slice .none 0 0) (.slice .none 0 0) (.slice .none 0 0)
                have hbz := set7_below (b := w.heap.size + 2) hBw (by omega) (.slice .none 0 0) (.slice .none 0 0) (.slice .none 0 0) (.slice .none 0 0) (.slice .none 0 0) (.slice .none 0 0) (.slice .none 0 0)
                unfold set7 at KZ hbz
                obtain ⟨c0', c1', c2', c3', c4', c5', c6'⟩ := box_cells KZ
                refine bodyPost_ret (v := .tuple #[noneS.val, .int .i64 1]) (by simp [results, Try.results25, go_sem, noneS, St.val, c0', c1', c2', c3', c4', c5', c6']) rfl ?_
                exact ⟨noneS, by rw [HX.out]; rfl, noneS_at _, ⟨fun h => absurd h (by rw [HX.out]; decide), fun _ => ⟨rfl, rfl, rfl, rfl, rfl, rfl, rfl⟩⟩, hbz⟩
            · have HX : Hid (enterE p s l = 1) := HT1.out (by rw [HOL.out, m1]; rfl)
              clear HT1 HT2 HOL
              have zl := hz.lt
              have zf0 := hz.frozen 0
              have zc0 := hz.cell (j := 0) (by decide)
              have zf1 := hz.frozen 1
              have zc1 := hz.cell (j := 1) (by decide)
              have zf2 := hz.frozen 2
              have zc2 := hz.cell (j := 2) (by decide)
              have zf3 := hz.frozen 3
              have zc3 := hz.cell (j := 3) (by decide)
              have zf4 := hz.frozen 4
              have zc4 := hz.cell (j := 4) (by decide)
              have zf5 := hz.frozen 5
              have zc5 := hz.cell (j := 5) (by decide)
              have zf6 := hz.frozen 6
              have zc6 := hz.cell (j := 6) (by decide)
              go_wp2_with fail
              have KZ := set7_blk hz (.slice .none 0 0) (.slice .none 0 0) (.slice .none 0 0) (.slice .none 0 0) (.slice .none 0 0) (.slice .none 0 0) (.slice .none 0 0)
              have hbz := set7_below (b := w.heap.size + 2) hBw (by omega) (.slice .none 0 0) (.slice .none 0 0) (.slice .none 0 0) (.slice .none 0 0) (.slice .none 0 0) (.slice .none 0 0) (.slice .none 0 0)
              unfold set7 at KZ hbz
              obtain ⟨c0', c1', c2', c3', c4', c5', c6'⟩ := box_cells KZ
              refine bodyPost_ret (v := .tuple #[noneS.val, .int .i64 1]) (by simp [results, Try.results25, go_sem, noneS, St.val, c0', c1', c2', c3', c4', c5', c6']) rfl ?_
              exact ⟨noneS, by rw [HX.out]; rfl, noneS_at _, ⟨fun h => absurd h (by rw [HX.out]; decide), fun _ => ⟨rfl, rfl, rfl, rfl, rfl, rfl, rfl⟩⟩, hbz⟩
          · have HX : Hid (enterE p s l = 0) := enterE_ok H0.out HM.out K3.out (by rw [anyB_no fun j hj => HN.out j (by omega)]; decide)
            clear K3 HM HN
            have hz0 := hz.lt
            have hcs := OwnState_any p s wr hsk HF.out
            have HCS : Hid _ := hcs
            have HLK : Hid (l.At wr) := hlk
            clear hcs hz hlk hpk hsk
            go_wp2_with fail
            refine Calls.mono HCS.out ?_
            rintro e w4 ⟨o, rfl, hsame, hown, hB2⟩
            clear HCS
            have hB4 := hB.trans (hB2.mono hB.size)
            have q3 := hB.size
            have q4 := hB2.size
            obtain ⟨W5, hW5, hBW5, KW5⟩ : ∃ W, w4.alloc (.cells #[.slice o.on.a o.on.n o.on.c, .slice o.os.a o.os.n o.os.c, .slice o.hs.a o.hs.n o.hs.c, .slice o.ms.a o.ms.n o.ms.c, .slice o.si.a o.si.n o.si.c, .slice o.so.a o.so.n o.so.c, .slice o.sf.a o.sf.n o.sf.c] 31) = W ∧ Below w4.heap.size w4 W ∧ Blk W w4.heap.size 31 7 (fun j => o.cells.getD j default) := ⟨_, rfl, (Below.refl _ _).alloc (Nat.le_refl _) _, Blk.mk' rfl rfl⟩
            have HW5 : Hid (w4.alloc (.cells #[.slice o.on.a o.on.n o.on.c, .slice o.os.a o.os.n o.os.c, .slice o.hs.a o.hs.n o.hs.c, .slice o.ms.a o.ms.n o.ms.c, .slice o.si.a o.si.n o.si.c, .slice o.so.a o.so.n o.so.c, .slice o.sf.a o.sf.n o.sf.c] 31) = W5) := hW5
            have hB5 := hB4.trans (hBW5.mono hB4.size)
            have hown5 := OwnS.below hown hBW5
            have hlk5 := (HLK.out.below hB2).below hBW5
            have q5 := hBW5.size
            have on4 : o.os.n ≤ 4 := by have := HF.out.os4; have : o.os.n = s.os.n := hsame.os.1; omega
            clear l1 d0 d1 l2 c0 c1 c2 c3 c4 c5 c6 hBw hz0 hW5
            simp only [St.val]
            go_wp2_with fail
            rw [HW5.out]
            have HOW : Hid (OwnS wr.heap.size W5 o ∧ Blk W5 w4.heap.size 31 7 (fun j => o.cells.getD j default) ∧ SameT o s) := ⟨hown5, KW5, hsame⟩
            have HL5 : Hid (l.At W5) := hlk5
            have r0 : ∀ d os, (grow (redrawn W5 d) os).cell? ⟨w4.heap.size, 1, none⟩ = some (.slice o.os.a o.os.n o.os.c) := fun d os => cell_regrown (KW5.cell (j := 1) (by decide)) d os
            have xl5 : w4.heap.size < W5.heap.size := KW5.lt
            clear hown hown5 KW5 hsame hlk5 HLK HW5 hBW5 hB2
            obtain ⟨iO, hO, hO0, hO1, hO2⟩ := info_parts infoOrderC
            obtain ⟨iL, hL, hL0, hL1, hL2⟩ := info_parts infoLineC
            refine wp_region_made6 (fun w' => ∃ p : Regrown, w' = grow (redrawn W5 p.d) p.os) [0, 1, 3] [2, 4, 5, 6] [(true, 7), (true, 8), (true, 9)] (by kernel_rfl) (by kernel_rfl) (by kernel_rfl) (by kernel_rfl) (by kernel_rfl) (by kernel_rfl) (by kernel_rfl) (by kernel_rfl) (by kernel_rfl) (regrown_of_below ((Below.refl _ _).drew)) ?_
            simp only [picks, List.drop_succ_cons, List.drop_zero, List.take_succ_cons, List.take_zero, List.cons_append, List.nil_append]
            repeat (go_big_quiet_step (fail))
            refine wpQuiet_nil ?_
            clear r0
            refine ⟨fun j v g wk => match j with | 4 => DHs W5.heap.size 53 l v g wk | 5 => D16 W5.heap.size ⟨0, l⟩ v g wk | 6 => D17 W5.heap.size ⟨0, l⟩ v g wk | _ => DE v g,
              List.forall_mem_cons.2 ⟨fun v g w w' _ h => h, List.forall_mem_cons.2 ⟨fun v g w w' hB h => DHs.below h hB, List.forall_mem_cons.2 ⟨fun v g w w' hB h => D16.below h hB, List.forall_mem_cons.2 ⟨fun v g w w' hB h => D17.below h hB, List.forall_mem_nil _⟩⟩⟩⟩,
              List.forall_mem_cons.2 ⟨fun v g w h => by obtain ⟨_, h1, _⟩ := h; rw [h1]; intro x hx; simp at hx, List.forall_mem_cons.2 ⟨fun v g w h => by obtain ⟨_, h1, _⟩ := h; rw [h1]; intro x hx; simp at hx, List.forall_mem_cons.2 ⟨fun v g w h => by obtain ⟨_, h1, _⟩ := h; rw [h1]; intro x hx; simp at hx, List.forall_mem_cons.2 ⟨fun v g w h => by obtain ⟨_, _, h1, _⟩ := h; rw [h1]; intro x hx; simp at hx, List.forall_mem_nil _⟩⟩⟩⟩,
              List.forall_mem_cons.2 ⟨?zt2, List.forall_mem_cons.2 ⟨?zt3, List.forall_mem_cons.2 ⟨?zt4, List.forall_mem_cons.2 ⟨?zt5, List.forall_mem_nil _⟩⟩⟩⟩, ?ztdone⟩
            case zt2 =>
              intro V G wk K hS hd hA hK
              have hX := below_of_regrown hS
              refine wpOp_list 2 rfl ?_
              simp only [putAll, dstOf, List.getElem?_toArray, List.getElem?_cons_succ, List.getElem?_cons_zero, Act.put, List.setIfInBounds_toArray, List.set_cons_succ, List.set_cons_zero] at hK ⊢
              go_wp2_with fail
              exact hK _ [] _ (regrown_of_below (hX.alloc hX.size _)) ((Below.refl _ _).alloc (Nat.le_refl _) _) (fun x hx => by simp at hx) ⟨wk.heap.size, rfl, rfl⟩
            case zt3 =>
              intro V G wk K hS hd hA hK
              have hX := below_of_regrown hS
              have q := hX.size
              obtain ⟨B, -, h3⟩ : DE (V 2) (G 2) := hd 2 (List.contains_iff_mem.1 (by kernel_rfl)) (by simp)
              refine wpOp_list 4 rfl ?_
              simp only [putAll, dstOf, List.getElem?_toArray, List.getElem?_cons_succ, List.getElem?_cons_zero, Act.put, List.setIfInBounds_toArray, List.set_cons_succ, List.set_cons_zero, h3] at hK ⊢
              go_wp2_with (at_builtin; refine wp_append_empty wk rfl (.tmp 79) (.tmp 80) 49 rfl 53 iL (.agg #[.int .i64 0, .int .i64 0, .int .i64 0, .int .i64 0]) 4 32 Try.underlying49 hL hL0 hL1 hL2 rfl (by decide) B rfl (some ⟨bl, ol, none⟩) l.n l.c (flatH l.n l.z) rfl (by rw [flatH_len]) (fun ad ha => hs_news (HL5.out.below hX) ad (HLA.out.trans ha)) (flatH_one _ _) (fun h => by cases h) (by unfold maxLen; omega) (by omega) ?_ ?_)
              · intro h0
                exact absurd h0 (by omega)
              · intro h0 v' w1 hown hgrow
                have hB1 : Below wk.heap.size wk w1 := (Below.refl _ wk).grown hgrow (Nat.le_refl _) (by intro k hk; cases hk)
                obtain ⟨s', rfl, hc⟩ := cloned_grow (A := W5.heap.size) h0 hown (by omega)
                exact wpList_end (hK _ [] _ (regrown_of_below (hX.trans (hB1.mono hX.size))) hB1 (fun x hx => by simp at hx) ⟨s', rfl, rfl, hc⟩)
            case zt4 =>
              intro V G wk K hS hd hA hK
              obtain ⟨s', -, h15, hc⟩ : DHs W5.heap.size 53 l (V 4) (G 4) wk := hd 4 (List.contains_iff_mem.1 (by kernel_rfl)) (by simp)
              have HCL : Hid (Cloned W5.heap.size 53 l wk s') := hc
              clear hc
              refine wpOp_list 5 rfl ?_
              simp only [putAll, dstOf, List.getElem?_toArray, List.getElem?_cons_succ, List.getElem?_cons_zero, Act.put, List.setIfInBounds_toArray, List.set_cons_succ, List.set_cons_zero, h15] at hK ⊢
              go_wp2_with fail
              exact hK _ [] _ hS (Below.refl _ _) (fun x hx => by simp at hx) ⟨s', rfl, rfl, HCL.out⟩
            case zt5 =>
              intro V G wk K hS hd hA hK
              have hX := below_of_regrown hS
              obtain ⟨s', -, h16, hc⟩ : D16 W5.heap.size ⟨0, l⟩ (V 5) (G 5) wk := hd 5 (List.contains_iff_mem.1 (by kernel_rfl)) (by simp)
              have HCL : Hid (Cloned W5.heap.size 53 l wk s') := hc
              clear hc
              refine wpOp_list 6 rfl ?_
              simp only [putAll, dstOf, List.getElem?_toArray, List.getElem?_cons_succ, List.getElem?_cons_zero, Act.put, List.setIfInBounds_toArray, List.set_cons_succ, List.set_cons_zero, h16] at hK ⊢
              go_wp2_with fail
              have hBa := (Below.refl wk.heap.size wk).alloc (Nat.le_refl _) (.cells #[.int .i64 0, .slice s'.a s'.n s'.c] 51)
              exact hK _ [] _ (regrown_of_below (hX.alloc hX.size _)) ((Below.refl _ _).alloc (Nat.le_refl _) _) (fun x hx => by simp at hx) ⟨wk.heap.size, s', rfl, rfl, hX.size, Blk.mk' rfl rfl, HCL.out.1, HCL.out.2.1, HCL.out.2.2.1.below hBa, HCL.out.2.2.2.below hBa⟩
            case ztdone =>
              intro V G' wk hS hD hA
              obtain ⟨BO, s', -, h17, m17, k17, e1, e2, ⟨o1, o2, o3, o4⟩, -⟩ : D17 W5.heap.size ⟨0, l⟩ (V 6) (G' 6) wk := hD 6 (by simp)
              have hX := below_of_regrown hS
              have q1 := hX.size
              obtain ⟨gB, ea, hgB, kB⟩ := o4 (by rw [e1]; show 0 < l.n; omega)
              obtain ⟨hO5, K5, hsame⟩ := HOW.out
              have hO6 := OwnS.below hO5 hX
              have K6 := K5.below hX
              have hBk := hB5.trans (hX.mono hB5.size)
              have HE : Hid (s'.n = l.n ∧ (∀ j, j < l.n → s'.z j = l.z j) ∧ s'.a = some ⟨gB, 0, none⟩ ∧ s'.n ≤ s'.c ∧ s'.c ≤ maxLen ∧ Blk wk gB 53 (s'.n * 4) (fun j => (flatH s'.n s'.z).getD j default) ∧ SameT o s ∧ W5.heap.size ≤ gB) := ⟨e1, e2, ea, o1, o2, kB, hsame, hgB⟩
              have HOK : Hid (OwnS wr.heap.size wk o ∧ OwnS wr.heap.size W5 o) := ⟨hO6, hO5⟩
              have HK6 : Hid (Blk wk w4.heap.size 31 7 (fun j => o.cells.getD j default)) := K6
              have HBk : Hid (Below W0.heap.size W0 wk) := hBk
              have HK17 : Hid (Blk wk BO 51 2 (fun j => (#[.int .i64 0, .slice s'.a s'.n s'.c] : Array Value).getD j default)) := k17
              clear hS hD hA e1 e2 ea o1 o2 o3 o4 kB hO5 K5 hsame hO6 K6 hBk k17 hB5
              simp only [putAll, dstOf, List.getElem?_toArray, List.getElem?_cons_succ, List.getElem?_cons_zero, Act.put, List.setIfInBounds_toArray, List.set_cons_succ, List.set_cons_zero, h17]
              refine wpSeq_one 7 rfl ?_
              go_wp2_with (at_builtin; refine wpList_append_room wk rfl (.tmp 78) (.tmp 83) 27 rfl wr.heap.size 51 iO (.agg #[.int .i64 0, .slice none 0 0]) 2 32 Try.underlying27 hO hO0 hO1 hO2 rfl (by decide) o.os.a o.os.n o.os.c (flatO o.os.n o.os.z) rfl HOK.out.1.os.room HOK.out.1.os.le HOK.out.1.os.cap (flatO_len _ _) HOK.out.1.os.list ⟨BO, 0, none⟩ 1 1 [.int .i64 0, .slice s'.a s'.n s'.c] rfl rfl ?zc1 ?zc2 (by decide) ?zc3 ?zc4 ?zc5 ?_)
              case zc1 =>
                intro j u hj
                match j, hj with
                | 0, hj => simp at hj; subst hj; exact HK17.out.cell (j := 0) (by decide)
                | 1, hj => simp at hj; subst hj; exact HK17.out.cell (j := 1) (by decide)
              case zc2 => intro u hu; simp at hu; rcases hu with rfl | rfl <;> rfl
              case zc3 => unfold maxLen; omega
              case zc4 => omega
              case zc5 => omega
              intro v2 w2 hown2 hgrow2
              obtain ⟨e1, e2, ea, o1, o2, kB, hsame, hgB⟩ := HE.out
              obtain ⟨va, vc, rfl, hOO⟩ := OwnO.more (x := ⟨0, s'⟩) HOK.out.1.os hown2 hgrow2 ea (by omega) o1 o2 kB (fun i hi e => by
                obtain ⟨B, x1, x2, x3, x4, x5⟩ := HOK.out.2.os.lines i hi
                rw [x1] at e
                have e' := e.trans ea
                simp only [Option.some.injEq, Addr.mk.injEq, and_true] at e'
                have := x5.lt
                omega)
              have hOS2 := HOK.out.1.orders hgrow2 hOO
              have hB7 := hgrow2.below HBk.out (by omega) (by have := HBk.out.size; omega)
              have K7 := hgrow2.blk HK6.out (by decide)
              have xl := K7.lt
              have zf9 := K7.frozen 1
              have zc9 := K7.cell (j := 1) (by decide)
              have K8 := K7.set 1 (.slice va (o.os.n + 1) vc)
              have hO8 := hOS2.box K7 1 (.slice va (o.os.n + 1) vc)
              have hB8 := hB7.setCell (p := ⟨w4.heap.size, 1, none⟩) (by show W0.heap.size ≤ w4.heap.size; omega) (.slice va (o.os.n + 1) vc)
              have HSM : Hid (SameT ⟨o.on, ⟨va, o.os.n + 1, vc, moreO o.os ⟨0, s'⟩⟩, o.hs, o.ms, o.si, o.so, o.sf⟩ (enterT s l)) := enter_same hsame e1 e2
              obtain ⟨-, -, -, hBw8, hz8, -⟩ := HC.out _ hB8
              have HEND : Hid (OwnS wr.heap.size (w2.setCell ⟨w4.heap.size, 1, none⟩ (.slice va (o.os.n + 1) vc)) ⟨o.on, ⟨va, o.os.n + 1, vc, moreO o.os ⟨0, s'⟩⟩, o.hs, o.ms, o.si, o.so, o.sf⟩ ∧ Below w.heap.size w (w2.setCell ⟨w4.heap.size, 1, none⟩ (.slice va (o.os.n + 1) vc)) ∧ Blk (w2.setCell ⟨w4.heap.size, 1, none⟩ (.slice va (o.os.n + 1) vc)) (w.heap.size + 2) 31 7 (fun _ => .slice .none 0 0)) := ⟨hO8, hBw8, hz8⟩
              have m8 := K8.lt
              have e0' : (w2.setCell ⟨w4.heap.size, 1, none⟩ (.slice va (o.os.n + 1) vc)).cell? ⟨w4.heap.size, 0, none⟩ = some (.slice o.on.a o.on.n o.on.c) := K8.cell (j := 0) (by decide)
              have e1' : (w2.setCell ⟨w4.heap.size, 1, none⟩ (.slice va (o.os.n + 1) vc)).cell? ⟨w4.heap.size, 1, none⟩ = some (.slice va (o.os.n + 1) vc) := K8.cell (j := 1) (by decide)
              have e2' : (w2.setCell ⟨w4.heap.size, 1, none⟩ (.slice va (o.os.n + 1) vc)).cell? ⟨w4.heap.size, 2, none⟩ = some (.slice o.hs.a o.hs.n o.hs.c) := K8.cell (j := 2) (by decide)
              have e3' : (w2.setCell ⟨w4.heap.size, 1, none⟩ (.slice va (o.os.n + 1) vc)).cell? ⟨w4.heap.size, 3, none⟩ = some (.slice o.ms.a o.ms.n o.ms.c) := K8.cell (j := 3) (by decide)
              have e4' : (w2.setCell ⟨w4.heap.size, 1, none⟩ (.slice va (o.os.n + 1) vc)).cell? ⟨w4.heap.size, 4, none⟩ = some (.slice o.si.a o.si.n o.si.c) := K8.cell (j := 4) (by decide)
              have e5' : (w2.setCell ⟨w4.heap.size, 1, none⟩ (.slice va (o.os.n + 1) vc)).cell? ⟨w4.heap.size, 5, none⟩ = some (.slice o.so.a o.so.n o.so.c) := K8.cell (j := 5) (by decide)
              have e6' : (w2.setCell ⟨w4.heap.size, 1, none⟩ (.slice va (o.os.n + 1) vc)).cell? ⟨w4.heap.size, 6, none⟩ = some (.slice o.sf.a o.sf.n o.sf.c) := K8.cell (j := 6) (by decide)
              have zl := hz8.lt
              have zf0 := hz8.frozen 0
              have zc0 := hz8.cell (j := 0) (by decide)
              have zf1 := hz8.frozen 1
              have zc1 := hz8.cell (j := 1) (by decide)
              have zf2 := hz8.frozen 2
              have zc2 := hz8.cell (j := 2) (by decide)
              have zf3 := hz8.frozen 3
              have zc3 := hz8.cell (j := 3) (by decide)
              have zf4 := hz8.frozen 4
              have zc4 := hz8.cell (j := 4) (by decide)
              have zf5 := hz8.frozen 5
              have zc5 := hz8.cell (j := 5) (by decide)
              have zf6 := hz8.frozen 6
              have zc6 := hz8.cell (j := 6) (by decide)
              clear hown2 hgrow2 hOO hOS2 hB7 K7 K8 hO8 hB8 hBw8 hz8 HE HOK HK6 HBk HK17 kB hsame e1 e2 ea o1 o2 hgB hX
              refine wpList_end ⟨Late.yes, ?_⟩
              refine wpSeq_one 8 rfl ?_
              go_wp2_with fail
              refine ⟨Late.yes, ?_⟩
              refine wpSeq_one 9 rfl ?_
              go_wp2_with fail
              refine ⟨Late.yes, ?_⟩
              refine NoPanic.normal ?_
              go_wp2_with fail
              obtain ⟨hOt, hBw, hz⟩ := HEND.out
              have KZ := set7_blk hz (.slice o.on.a o.on.n o.on.c) (.slice va (o.os.n + 1) vc) (.slice o.hs.a o.hs.n o.hs.c) (.slice o.ms.a o.ms.n o.ms.c) (.slice o.si.a o.si.n o.si.c) (.slice o.so.a o.so.n o.so.c) (.slice o.sf.a o.sf.n o.sf.c)
              have hbz := set7_below (b := w.heap.size + 2) hBw (by omega) (.slice o.on.a o.on.n o.on.c) (.slice va (o.os.n + 1) vc) (.slice o.hs.a o.hs.n o.hs.c) (.slice o.ms.a o.ms.n o.ms.c) (.slice o.si.a o.si.n o.si.c) (.slice o.so.a o.so.n o.so.c) (.slice o.sf.a o.sf.n o.sf.c)
              have hOz := OwnS.set7 hOt hz (.slice o.on.a o.on.n o.on.c) (.slice va (o.os.n + 1) vc) (.slice o.hs.a o.hs.n o.hs.c) (.slice o.ms.a o.ms.n o.ms.c) (.slice o.si.a o.si.n o.si.c) (.slice o.so.a o.so.n o.so.c) (.slice o.sf.a o.sf.n o.sf.c)
              unfold set7 at KZ hbz hOz
              obtain ⟨c0', c1', c2', c3', c4', c5', c6'⟩ := box_cells KZ
              refine bodyPost_ret (v := .tuple #[(⟨o.on, ⟨va, o.os.n + 1, vc, moreO o.os ⟨0, s'⟩⟩, o.hs, o.ms, o.si, o.so, o.sf⟩ : St).val, .int .i64 0]) (by simp [results, Try.results25, go_sem, St.val, c0', c1', c2', c3', c4', c5', c6']) rfl ?_
              exact ⟨⟨o.on, ⟨va, o.os.n + 1, vc, moreO o.os ⟨0, s'⟩⟩, o.hs, o.ms, o.si, o.so, o.sf⟩, by rw [HX.out]; rfl, hOz.at, ⟨fun _ => HSM.out, fun h => absurd HX.out h⟩, hbz⟩
  · have HX : Hid (enterE p s l = stateE p s) := enterE_state h0
    clear hpk hsk hlk c0 c1 c2 c3 c4 c5 c6
    have zl := hz.lt
    have zf0 := hz.frozen 0
    have zc0 := hz.cell (j := 0) (by decide)
    have zf1 := hz.frozen 1
    have zc1 := hz.cell (j := 1) (by decide)
    have zf2 := hz.frozen 2
    have zc2 := hz.cell (j := 2) (by decide)
    have zf3 := hz.frozen 3
    have zc3 := hz.cell (j := 3) (by decide)
    have zf4 := hz.frozen 4
    have zc4 := hz.cell (j := 4) (by decide)
    have zf5 := hz.frozen 5
    have zc5 := hz.cell (j := 5) (by decide)
    have zf6 := hz.frozen 6
    have zc6 := hz.cell (j := 6) (by decide)
    go_wp2_with fail
    have KZ := set7_blk hz (.slice .none 0 0) (.slice .none 0 0) (.slice .none 0 0) (.slice .none 0 0) (.slice .none 0 0) (.slice .none 0 0) (.slice .none 0 0)
    have hbz := set7_below (b := w.heap.size + 2) hBw (by omega) (.slice .none 0 0) (.slice .none 0 0) (.slice .none 0 0) (.slice .none 0 0) (.slice .none 0 0) (.slice .none 0 0) (.slice .none 0 0)
    unfold set7 at KZ hbz
    obtain ⟨c0', c1', c2', c3', c4', c5', c6'⟩ := box_cells KZ
    refine bodyPost_ret (v := .tuple #[noneS.val, .int .i64 (stateE p s)]) (by simp [results, Try.results25, go_sem, noneS, St.val, c0', c1', c2', c3', c4', c5', c6']) rfl ?_
    exact ⟨noneS, by rw [HX.out]; rfl, noneS_at _, ⟨fun h => absurd h (by rw [HX.out]; exact h0), fun _ => ⟨rfl, rfl, rfl, rfl, rfl, rfl, rfl⟩⟩, hbz⟩

end Go.Proofs.Ytjiodlbblmbibac

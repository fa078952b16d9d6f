/- Texts that were built one behind the other, joined. -/
import Derived.Test.YtjiodlbblmbibacR6J
import Derived.Test.YtjiodlbblmbibacSW10
import Derived.Test.YtjiodlbblmbibacW8
import Derived.Test.YtjiodlbblmbibacR2
import Derived.Test.YtjiodlbblmbibacH4
import Derived.Test.YtjiodlbblmbibacRows
import Derived.Test.YtjiodlbblmbibacM
import Derived.ProofKit
import Derived.OpenShut
import Derived.Lib.SmallJoins
import Derived.Deep.Slices
import Derived.Test.YtjiodlbblmbibacH
import Derived.Test.YtjiodlbblmbibacS
/- What the document enters: EnterOf. -/
namespace Go.Proofs.Ytjiodlbblmbibac
open Go.RowKit Go.Shelf Go.Sort
set_option linter.unusedVariables false

set_option maxRecDepth 100000 in
set_option maxHeartbeats 8000000 in
theorem EnterOf_any (p : Pl) (s : St) (l : Hs) (w : World) (hp : p.At w) (hs : s.At w) (hl : l.At w) :
    Calls Try.prog 25 #[p.val, s.val, l.val] w fun e w' => ∃ s' : St, e = .returned (.tuple #[s'.val, .int .i64 (enterE p s l)]) ∧ s'.At w' ∧ ActOK (enterE p s l) (enterT s l) s' ∧ Below w.heap.size w w' := by
  obtain ⟨W0, hW, hWB, X0, Z0⟩ : ∃ W, (((w.alloc (.cells #[.slice p.ab p.nb p.cb, .slice p.sa p.ns p.cs] 25)).alloc (.cells s.cells 31)).alloc (.cells #[.slice .none 0 0, .slice .none 0 0, .slice .none 0 0, .slice .none 0 0, .slice .none 0 0, .slice .none 0 0, .slice .none 0 0] 31)) = W ∧ Below w.heap.size w W ∧ Boxes W w.heap.size (w.heap.size + 1) p s ∧ Blk W (w.heap.size + 2) 31 7 (fun _ => .slice .none 0 0) :=
    ⟨_, rfl, (two_below _ _ _).alloc (by simp; omega) _, (boxes_new w p s _ _).below ((Below.refl _ _).alloc (Nat.le_refl _) _), (Blk.mk' (cur := #[.slice .none 0 0, .slice .none 0 0, .slice .none 0 0, .slice .none 0 0, .slice .none 0 0, .slice .none 0 0, .slice .none 0 0]) (by simp) rfl).congr (fun j hj => by match j, hj with | 0, _ => rfl | 1, _ => rfl | 2, _ => rfl | 3, _ => rfl | 4, _ => rfl | 5, _ => rfl | 6, _ => rfl)⟩
  have HC : Hid (∀ wk, Below W0.heap.size W0 wk → Boxes wk w.heap.size (w.heap.size + 1) p s ∧ p.At wk ∧ s.At wk ∧ Below w.heap.size w wk ∧ Blk wk (w.heap.size + 2) 31 7 (fun _ => .slice .none 0 0) ∧ l.At wk) := fun wk h => ⟨X0.below h, (hp.below hWB).below h, (hs.below hWB).below h, hWB.trans (h.mono hWB.size), Z0.below h, (hl.below hWB).below h⟩
  have HW : Hid (((w.alloc (.cells #[.slice p.ab p.nb p.cb, .slice p.sa p.ns p.cs] 25)).alloc (.cells #[.slice s.on.a s.on.n s.on.c, .slice s.os.a s.os.n s.os.c, .slice s.hs.a s.hs.n s.hs.c, .slice s.ms.a s.ms.n s.ms.c, .slice s.si.a s.si.n s.si.c, .slice s.so.a s.so.n s.so.c, .slice s.sf.a s.sf.n s.sf.c] 31)).alloc (.cells #[.slice .none 0 0, .slice .none 0 0, .slice .none 0 0, .slice .none 0 0, .slice .none 0 0, .slice .none 0 0, .slice .none 0 0] 31) = W0) := hW
  have leb := hp.leb
  have capb0 := hp.capb
  have les := hp.les
  have caps0 := hp.caps
  have capb := capb0
  have caps := caps0
  have zlt0 := Z0.lt
  unfold maxLen at capb caps
  have lle := hl.le
  have lcap0 := hl.cap
  have lcap := lcap0
  unfold maxLen at lcap
  clear hW X0 Z0 hp hs hl
  unfold Pl.val St.val Hs.val
  go_enter Try.func25, Try.ntmps25
  go_wp2_with fail
  rw [HW.out]
  obtain ⟨X, hpk, hsk, hBw, hz, hlk⟩ := HC.out W0 (Below.refl _ _)
  refine (refCheckState_any p s W0 hpk hsk).mono ?_
  rintro e w1 ⟨rfl, hB⟩
  clear X hpk hsk hBw hz hlk HW
  obtain ⟨⟨⟨l1, d0, d1⟩, l2, c0, c1, c2, c3, c4, c5, c6⟩, hpk, hsk, hBw, hz, hlk⟩ := HC.out w1 hB
  by_cases h0 : stateE p s = 0
  · have H0 : Hid (stateE p s = 0) := h0
    have HF : Hid (Formed p s) := (rightT h0).fm
    rw [h0]
    clear h0
    have os4 := HF.out.os4
    by_cases k1 : s.os.n = 4
    · have HX : Hid (enterE p s l = 2) := enterE_many H0.out (Or.inl k1)
      have g1 : (4 : Int) ≤ (s.os.n : Int) := by omega
      have g2 : 4 ≤ s.os.n := by omega
      have g3 : decide ((4 : Int) ≤ (s.os.n : Int)) = true := decide_eq_true g1
      have g4 : decide (4 ≤ s.os.n) = true := decide_eq_true g2
      clear k1 os4
      clear hpk hsk hlk
      have zl := hz.lt
      have zf0 := hz.frozen 0
      have zc0 := hz.cell (j := 0) (by decide)
      have zf1 := hz.frozen 1
      have zc1 := hz.cell (j := 1) (by decide)
      have zf2 := hz.frozen 2
      have zc2 := hz.cell (j := 2) (by decide)
      have zf3 := hz.frozen 3
      have zc3 := hz.cell (j := 3) (by decide)
      have zf4 := hz.frozen 4
      have zc4 := hz.cell (j := 4) (by decide)
      have zf5 := hz.frozen 5
      have zc5 := hz.cell (j := 5) (by decide)
      have zf6 := hz.frozen 6
      have zc6 := hz.cell (j := 6) (by decide)
      go_wp2_with (go_at_call 48; refine calls_to (within_any _ _ _ _) ?_)
      have KZ := set7_blk hz (.slice .none 0 0) (.slice .none 0 0) (.slice .none 0 0) (.slice .none 0 0) (.slice .none 0 0) (.slice .none 0 0) (.slice .none 0 0)
      have hbz := set7_below (b := w.heap.size + 2) hBw (by omega) (.slice .none 0 0) (.slice .none 0 0) (.slice .none 0 0) (.slice .none 0 0) (.slice .none 0 0) (.slice .none 0 0) (.slice .none 0 0)
      unfold set7 at KZ hbz
      obtain ⟨c0', c1', c2', c3', c4', c5', c6'⟩ := box_cells KZ
      refine bodyPost_ret (v := .tuple #[noneS.val, .int .i64 2]) (by simp [results, Try.results25, go_sem, noneS, St.val, c0', c1', c2', c3', c4', c5', c6']) rfl ?_
      exact ⟨noneS, by rw [HX.out]; rfl, noneS_at _, ⟨fun h => absurd h (by rw [HX.out]; decide), fun _ => ⟨rfl, rfl, rfl, rfl, rfl, rfl, rfl⟩⟩, hbz⟩
    have g1 : ¬ (4 : Int) ≤ (s.os.n : Int) := by omega
    have g2 : ¬ 4 ≤ s.os.n := by omega
    have g3 : decide ((4 : Int) ≤ (s.os.n : Int)) = false := decide_eq_false g1
    have g4 : decide (4 ≤ s.os.n) = false := decide_eq_false g2
    cases k2 : inB l.n 1 3
    · have HX : Hid (enterE p s l = 2) := enterE_many H0.out (Or.inr (by have := inB_false k2; omega))
      clear k1 os4
      clear hpk hsk hlk
      have zl := hz.lt
      have zf0 := hz.frozen 0
      have zc0 := hz.cell (j := 0) (by decide)
      have zf1 := hz.frozen 1
      have zc1 := hz.cell (j := 1) (by decide)
      have zf2 := hz.frozen 2
      have zc2 := hz.cell (j := 2) (by decide)
      have zf3 := hz.frozen 3
      have zc3 := hz.cell (j := 3) (by decide)
      have zf4 := hz.frozen 4
      have zc4 := hz.cell (j := 4) (by decide)
      have zf5 := hz.frozen 5
      have zc5 := hz.cell (j := 5) (by decide)
      have zf6 := hz.frozen 6
      have zc6 := hz.cell (j := 6) (by decide)
      go_wp2_with (go_at_call 48; refine calls_to (within_any _ _ _ _) ?_)
      have KZ := set7_blk hz (.slice .none 0 0) (.slice .none 0 0) (.slice .none 0 0) (.slice .none 0 0) (.slice .none 0 0) (.slice .none 0 0) (.slice .none 0 0)
      have hbz := set7_below (b := w.heap.size + 2) hBw (by omega) (.slice .none 0 0) (.slice .none 0 0) (.slice .none 0 0) (.slice .none 0 0) (.slice .none 0 0) (.slice .none 0 0) (.slice .none 0 0)
      unfold set7 at KZ hbz
      obtain ⟨c0', c1', c2', c3', c4', c5', c6'⟩ := box_cells KZ
      refine bodyPost_ret (v := .tuple #[noneS.val, .int .i64 2]) (by simp [results, Try.results25, go_sem, noneS, St.val, c0', c1', c2', c3', c4', c5', c6']) rfl ?_
      exact ⟨noneS, by rw [HX.out]; rfl, noneS_at _, ⟨fun h => absurd h (by rw [HX.out]; decide), fun _ => ⟨rfl, rfl, rfl, rfl, rfl, rfl, rfl⟩⟩, hbz⟩
    have hl3 := inB_true k2
    have HM : Hid (¬ (s.os.n = 4 ∨ ¬ (1 ≤ l.n ∧ l.n ≤ 3))) := by show ¬ _; omega
    clear k1
    obtain ⟨bl, ol, hla, -⟩ := hlk.hds 0 (by omega)
    have HLA : Hid (l.a = some ⟨bl, ol, none⟩) := hla
    clear hz hpk hsk hlk hBw
    rw [hla]
    clear hla
    go_wp2_with (go_at_call 48; refine calls_to (within_any _ _ _ _) ?_)
    clear l1 d0 d1 l2 c0 c1 c2 c3 c4 c5 c6 g1 g2 g3 g4 k2 os4
    go_loopw [9] (fun i wk => ∃ k : Nat, k ≤ l.n ∧ i = .int .i64 k ∧ (∀ j, j < k → outL p (l.z j) = false) ∧ Below W0.heap.size W0 wk) (fun i _ => l.n - (intOf i).toNat)
    case atStart => exact ⟨0, Nat.zero_le _, rfl, fun j hj => absurd hj (Nat.not_lt_zero _), hB⟩
    case round =>
      clear hB
      obtain ⟨k, hk, rfl, hno, hB⟩ := hrel
      have HN : Hid (∀ j, j < k → outL p (l.z j) = false) := hno
      clear hno
      obtain ⟨⟨⟨l1, d0, d1⟩, l2, c0, c1, c2, c3, c4, c5, c6⟩, hpk, hsk, hBw, hz, hlk⟩ := HC.out wr hB
      by_cases hlt : k < l.n
      · obtain ⟨b2, o2, hla, hb2, y0, y1, y2, y3⟩ := hlk.hds k hlt
        rw [HLA.out] at hla
        simp only [Option.some.injEq, Addr.mk.injEq, and_true] at hla
        obtain ⟨rfl, rfl⟩ := hla
        have HOL : Hid (outL p (l.z k) = (!(inB (l.z k).o 0 ((p.ns : Int) - 1)) || !(inB (l.z k).l 1 200))) := rfl
        have HT1 : Hid (outL p (l.z k) = true → enterE p s l = 3) := fun h => enterE_range H0.out HM.out (anyB_yes hlt h)
        have HT2 : Hid (outL p (l.z k) = false → ∀ j, j < k + 1 → outL p (l.z j) = false) := fun h => all_succ HN.out h
        have qk : (0 : Int) ≤ (k : Int) := by omega
        generalize outL p (l.z k) = OL at *
        generalize l.z k = LZ at *
        have v0 : ∀ d os, (grow (redrawn wr d) os).cell? ⟨bl, ol + k * 4, none⟩ = some (.int .i64 LZ.o) := fun d os => cell_regrown y0 d os
        have v1 : ∀ d os, (grow (redrawn wr d) os).cell? ⟨bl, ol + k * 4 + 1, none⟩ = some (.int .i64 LZ.l) := fun d os => cell_regrown y1 d os
        have v2 : ∀ d os, (grow (redrawn wr d) os).cell? ⟨w.heap.size, 0, none⟩ = some (.slice p.ab p.nb p.cb) := fun d os => cell_regrown d0 d os
        have v3 : ∀ d os, (grow (redrawn wr d) os).cell? ⟨w.heap.size, 1, none⟩ = some (.slice p.sa p.ns p.cs) := fun d os => cell_regrown d1 d os
        clear y0 y1 y2 y3 d0 d1 c0 c1 c2 c3 c4 c5 c6 hpk hsk hlk hBw hz l1 l2 HN
        cases m1 : inB LZ.o 0 ((p.ns : Int) - 1)
        · have HX : Hid (enterE p s l = 3) := HT1.out (by rw [HOL.out, m1]; rfl)
          clear HT1 HT2 HOL
          go_wp2_with fail
          refine wp_region_quiet_below (by kernel_rfl) (by kernel_rfl) ?_
          repeat (go_big_quiet_step (first | (go_at_call 58; exact Calls.regrown_of (isGood_any p _ _ les caps0)) | (go_at_call 48; exact Calls.regrown_of ((within_any _ _ _ _).mono (fun _ _ h => ⟨h.1, h.2 ▸ Below.refl _ _⟩)))))
          refine wpQuiet_nil ?_
          intro w9 hw9
          have hB9 : Below W0.heap.size W0 w9 := by obtain ⟨⟨dq, osq⟩, hw''⟩ := hw9; subst hw''; exact hB.trans ((below_regrown _ _ _).mono hB.size)
          clear hw9 v0 v1 v2 v3 hB
          obtain ⟨⟨⟨l1, d0, d1⟩, l2, c0, c1, c2, c3, c4, c5, c6⟩, hpk, hsk, hBw, hz, hlk⟩ := HC.out w9 hB9
          clear hpk hsk hlk
          have zl := hz.lt
          have zf0 := hz.frozen 0
          have zc0 := hz.cell (j := 0) (by decide)
          have zf1 := hz.frozen 1
          have zc1 := hz.cell (j := 1) (by decide)
          have zf2 := hz.frozen 2
          have zc2 := hz.cell (j := 2) (by decide)
          have zf3 := hz.frozen 3
          have zc3 := hz.cell (j := 3) (by decide)
          have zf4 := hz.frozen 4
          have zc4 := hz.cell (j := 4) (by decide)
          have zf5 := hz.frozen 5
          have zc5 := hz.cell (j := 5) (by decide)
          have zf6 := hz.frozen 6
          have zc6 := hz.cell (j := 6) (by decide)
          go_wp2_with fail
          have KZ := set7_blk hz (.slice .none 0 0) (.slice .none 0 0) (.slice .none 0 0) (.slice .none 0 0) (.slice .none 0 0) (.slice .none 0 0) (.slice .none 0 0)
          have hbz := set7_below (b := w.heap.size + 2) hBw (by omega) (.slice .none 0 0) (.slice .none 0 0) (.slice .none 0 0) (.slice .none 0 0) (.slice .none 0 0) (.slice .none 0 0) (.slice .none 0 0)
          unfold set7 at KZ hbz
          obtain ⟨c0', c1', c2', c3', c4', c5', c6'⟩ := box_cells KZ
          refine bodyPost_ret (v := .tuple #[noneS.val, .int .i64 3]) (by simp [results, Try.results25, go_sem, noneS, St.val, c0', c1', c2', c3', c4', c5', c6']) rfl ?_
          exact ⟨noneS, by rw [HX.out]; rfl, noneS_at _, ⟨fun h => absurd h (by rw [HX.out]; decide), fun _ => ⟨rfl, rfl, rfl, rfl, rfl, rfl, rfl⟩⟩, hbz⟩
        · cases m2 : inB LZ.l 1 200
          · have HX : Hid (enterE p s l = 3) := HT1.out (by rw [HOL.out, m1, m2]; rfl)
            clear HT1 HT2 HOL
            go_wp2_with fail
            refine wp_region_quiet_below (by kernel_rfl) (by kernel_rfl) ?_
            repeat (go_big_quiet_step (first | (go_at_call 58; exact Calls.regrown_of (isGood_any p _ _ les caps0)) | (go_at_call 48; exact Calls.regrown_of ((within_any _ _ _ _).mono (fun _ _ h => ⟨h.1, h.2 ▸ Below.refl _ _⟩)))))
            refine wpQuiet_nil ?_
            intro w9 hw9
            have hB9 : Below W0.heap.size W0 w9 := by obtain ⟨⟨dq, osq⟩, hw''⟩ := hw9; subst hw''; exact hB.trans ((below_regrown _ _ _).mono hB.size)
            clear hw9 v0 v1 v2 v3 hB
            obtain ⟨⟨⟨l1, d0, d1⟩, l2, c0, c1, c2, c3, c4, c5, c6⟩, hpk, hsk, hBw, hz, hlk⟩ := HC.out w9 hB9
            clear hpk hsk hlk
            have zl := hz.lt
            have zf0 := hz.frozen 0
            have zc0 := hz.cell (j := 0) (by decide)
            have zf1 := hz.frozen 1
            have zc1 := hz.cell (j := 1) (by decide)
            have zf2 := hz.frozen 2
            have zc2 := hz.cell (j := 2) (by decide)
            have zf3 := hz.frozen 3
            have zc3 := hz.cell (j := 3) (by decide)
            have zf4 := hz.frozen 4
            have zc4 := hz.cell (j := 4) (by decide)
            have zf5 := hz.frozen 5
            have zc5 := hz.cell (j := 5) (by decide)
            have zf6 := hz.frozen 6
            have zc6 := hz.cell (j := 6) (by decide)
            go_wp2_with fail
            have KZ := set7_blk hz (.slice .none 0 0) (.slice .none 0 0) (.slice .none 0 0) (.slice .none 0 0) (.slice .none 0 0) (.slice .none 0 0) (.slice .none 0 0)
            have hbz := set7_below (b := w.heap.size + 2) hBw (by omega) (.slice .none 0 0) (.slice .none 0 0) (.slice .none 0 0) (.slice .none 0 0) (.slice .none 0 0) (.slice .none 0 0) (.slice .none 0 0)
            unfold set7 at KZ hbz
            obtain ⟨c0', c1', c2', c3', c4', c5', c6'⟩ := box_cells KZ
            refine bodyPost_ret (v := .tuple #[noneS.val, .int .i64 3]) (by simp [results, Try.results25, go_sem, noneS, St.val, c0', c1', c2', c3', c4', c5', c6']) rfl ?_
            exact ⟨noneS, by rw [HX.out]; rfl, noneS_at _, ⟨fun h => absurd h (by rw [HX.out]; decide), fun _ => ⟨rfl, rfl, rfl, rfl, rfl, rfl, rfl⟩⟩, hbz⟩
          · have HX2 : Hid _ := HT2.out (by rw [HOL.out, m1, m2]; rfl)
            clear HT1 HT2 HOL
            go_wp2_with fail
            refine wp_region_quiet_below (by kernel_rfl) (by kernel_rfl) ?_
            repeat (go_big_quiet_step (first | (go_at_call 58; exact Calls.regrown_of (isGood_any p _ _ les caps0)) | (go_at_call 48; exact Calls.regrown_of ((within_any _ _ _ _).mono (fun _ _ h => ⟨h.1, h.2 ▸ Below.refl _ _⟩)))))
            refine wpQuiet_nil ?_
            intro w9 hw9
            have hB9 : Below W0.heap.size W0 w9 := by obtain ⟨⟨dq, osq⟩, hw''⟩ := hw9; subst hw''; exact hB.trans ((below_regrown _ _ _).mono hB.size)
            clear hw9 v0 v1 v2 v3 hB
            go_wp2_with fail
            go_roundw
            case rel => exact ⟨k + 1, by omega, by go_num, HX2.out, hB9⟩
            case measure => simp [intOf]; omega
      · have K3 : Hid (¬ anyB l.n (fun j => outL p (l.z j)) = true) := by show ¬ _; rw [anyB_no fun j hj => HN.out j (by omega)]; decide
        clear HN hpk hsk hlk hBw hz l1 d0 d1 l2 c0 c1 c2 c3 c4 c5 c6
        go_wp2_with fail
        clear hk hlt
        go_loopw [10] (fun i wk => ∃ k : Nat, k ≤ l.n ∧ i = .int .i64 k ∧ (∀ j, j < k → begunL (l.z j) = false) ∧ Below W0.heap.size W0 wk) (fun i _ => l.n - (intOf i).toNat)
        case atStart => exact ⟨0, Nat.zero_le _, rfl, fun j hj => absurd hj (Nat.not_lt_zero _), hB⟩
        case round =>
          clear hB
          obtain ⟨k, hk, rfl, hno, hB⟩ := hrel
          have HN : Hid (∀ j, j < k → begunL (l.z j) = false) := hno
          clear hno
          obtain ⟨⟨⟨l1, d0, d1⟩, l2, c0, c1, c2, c3, c4, c5, c6⟩, hpk, hsk, hBw, hz, hlk⟩ := HC.out wr hB
          by_cases hlt : k < l.n
          · obtain ⟨b2, o2, hla, hb2, y0, y1, y2, y3⟩ := hlk.hds k hlt
            rw [HLA.out] at hla
            simp only [Option.some.injEq, Addr.mk.injEq, and_true] at hla
            obtain ⟨rfl, rfl⟩ := hla
            have HOL : Hid (begunL (l.z k) = ((l.z k).b != 0 || (l.z k).n != 0)) := rfl
            have HT1 : Hid (begunL (l.z k) = true → enterE p s l = 1) := fun h => enterE_form H0.out HM.out K3.out (anyB_yes hlt h)
            have HT2 : Hid (begunL (l.z k) = false → ∀ j, j < k + 1 → begunL (l.z j) = false) := fun h => all_succ HN.out h
            have qk : (0 : Int) ≤ (k : Int) := by omega
            generalize begunL (l.z k) = OL at *
            generalize l.z k = LZ at *
            clear c0 c1 c2 c3 c4 c5 c6 hpk hsk hlk HN
            cases m1 : (LZ.b != 0)
            · cases m2 : (LZ.n != 0)
              · have HX2 : Hid _ := HT2.out (by rw [HOL.out, m1, m2]; rfl)
                clear HT1 HT2 HOL hz hBw
                go_wp2_with fail
                go_roundw
                case rel => exact ⟨k + 1, by omega, by go_num, HX2.out, hB⟩
                case measure => simp [intOf]; omega
              · have HX : Hid (enterE p s l = 1) := HT1.out (by rw [HOL.out, m1, m2]; rfl)
                clear HT1 HT2 HOL
                have zl := hz.lt
                have zf0 := hz.frozen 0
                have zc0 := hz.cell (j := 0) (by decide)
                have zf1 := hz.frozen 1
                have zc1 := hz.cell (j := 1) (by decide)
                have zf2 := hz.frozen 2
                have zc2 := hz.cell (j := 2) (by decide)
                have zf3 := hz.frozen 3
                have zc3 := hz.cell (j := 3) (by decide)
                have zf4 := hz.frozen 4
                have zc4 := hz.cell (j := 4) (by decide)
                have zf5 := hz.frozen 5
                have zc5 := hz.cell (j := 5) (by decide)
                have zf6 := hz.frozen 6
                have zc6 := hz.cell (j := 6) (by decide)
                go_wp2_with fail
                have KZ := set7_blk hz (.slice .none 0 0) (.slice .none 0 0) (.slice .none 0 0) (.slice .none 0 0) (.slice .none 0 0) (.slice .none 0 0) (.slice .none 0 0)
                have hbz := set7_below (b := w.heap.size + 2) hBw (by omega) (.slice .none 0 0) (.slice .none 0 0) (.slice .none 0 0) (.slice .none 0 0) (.slice .none 0 0) (.slice .none 0 0) (.slice .none 0 0)
                unfold set7 at KZ hbz
                obtain ⟨c0', c1', c2', c3', c4', c5', c6'⟩ := box_cells KZ
                refine bodyPost_ret (v := .tuple #[noneS.val, .int .i64 1]) (by simp [results, Try.results25, go_sem, noneS, St.val, c0', c1', c2', c3', c4', c5', c6']) rfl ?_
                exact ⟨noneS, by rw [HX.out]; rfl, noneS_at _, ⟨fun h => absurd h (by rw [HX.out]; decide), fun _ => ⟨rfl, rfl, rfl, rfl, rfl, rfl, rfl⟩⟩, hbz⟩
            · have HX : Hid (enterE p s l = 1) := HT1.out (by rw [HOL.out, m1]; rfl)
              clear HT1 HT2 HOL
              have zl := hz.lt
              have zf0 := hz.frozen 0
              have zc0 := hz.cell (j := 0) (by decide)
              have zf1 := hz.frozen 1
              have zc1 := hz.cell (j := 1) (by decide)
              have zf2 := hz.frozen 2
              have zc2 := hz.cell (j := 2) (by decide)
              have zf3 := hz.frozen 3
              have zc3 := hz.cell (j := 3) (by decide)
              have zf4 := hz.frozen 4
              have zc4 := hz.cell (j := 4) (by decide)
              have zf5 := hz.frozen 5
              have zc5 := hz.cell (j := 5) (by decide)
              have zf6 := hz.frozen 6
              have zc6 := hz.cell (j := 6) (by decide)
              go_wp2_with fail
              have KZ := set7_blk hz (.slice .none 0 0) (.slice .none 0 0) (.slice .none 0 0) (.slice .none 0 0) (.slice .none 0 0) (.slice .none 0 0) (.slice .none 0 0)
              have hbz := set7_below (b := w.heap.size + 2) hBw (by omega) (.slice .none 0 0) (.slice .none 0 0) (.slice .none 0 0) (.slice .none 0 0) (.slice .none 0 0) (.slice .none 0 0) (.slice .none 0 0)
              unfold set7 at KZ hbz
              obtain ⟨c0', c1', c2', c3', c4', c5', c6'⟩ := box_cells KZ
              refine bodyPost_ret (v := .tuple #[noneS.val, .int .i64 1]) (by simp [results, Try.results25, go_sem, noneS, St.val, c0', c1', c2', c3', c4', c5', c6']) rfl ?_
              exact ⟨noneS, by rw [HX.out]; rfl, noneS_at _, ⟨fun h => absurd h (by rw [HX.out]; decide), fun _ => ⟨rfl, rfl, rfl, rfl, rfl, rfl, rfl⟩⟩, hbz⟩
          · have HX : Hid (enterE p s l = 0) := enterE_ok H0.out HM.out K3.out (by rw [anyB_no fun j hj => HN.out j (by omega)]; decide)
            clear K3 HM HN
            have hz0 := hz.lt
            have hcs := OwnState_any p s wr hsk HF.out
            have HCS : Hid _ := hcs
            have HLK : Hid (l.At wr) := hlk
            clear hcs hz hlk hpk hsk
            go_wp2_with fail
            refine Calls.mono HCS.out ?_
            rintro e w4 ⟨o, rfl, hsame, hown, hB2⟩
            clear HCS
            have hB4 := hB.trans (hB2.mono hB.size)
            have q3 := hB.size
            have q4 := hB2.size
            obtain ⟨W5, hW5, hBW5, KW5⟩ : ∃ W, w4.alloc (.cells #[.slice o.on.a o.on.n o.on.c, .slice o.os.a o.os.n o.os.c, .slice o.hs.a o.hs.n o.hs.c, .slice o.ms.a o.ms.n o.ms.c, .slice o.si.a o.si.n o.si.c, .slice o.so.a o.so.n o.so.c, .slice o.sf.a o.sf.n o.sf.c] 31) = W ∧ Below w4.heap.size w4 W ∧ Blk W w4.heap.size 31 7 (fun j => o.cells.getD j default) := ⟨_, rfl, (Below.refl _ _).alloc (Nat.le_refl _) _, Blk.mk' rfl rfl⟩
            have HW5 : Hid (w4.alloc (.cells #[.slice o.on.a o.on.n o.on.c, .slice o.os.a o.os.n o.os.c, .slice o.hs.a o.hs.n o.hs.c, .slice o.ms.a o.ms.n o.ms.c, .slice o.si.a o.si.n o.si.c, .slice o.so.a o.so.n o.so.c, .slice o.sf.a o.sf.n o.sf.c] 31) = W5) := hW5
            have hB5 := hB4.trans (hBW5.mono hB4.size)
            have hown5 := OwnS.below hown hBW5
            have hlk5 := (HLK.out.below hB2).below hBW5
            have q5 := hBW5.size
            have on4 : o.os.n ≤ 4 := by have := HF.out.os4; have : o.os.n = s.os.n := hsame.os.1; omega
            clear l1 d0 d1 l2 c0 c1 c2 c3 c4 c5 c6 hBw hz0 hW5
            simp only [St.val]
            go_wp2_with fail
            rw [HW5.out]
            have HOW : Hid (OwnS wr.heap.size W5 o ∧ Blk W5 w4.heap.size 31 7 (fun j => o.cells.getD j default) ∧ SameT o s) := ⟨hown5, KW5, hsame⟩
            have HL5 : Hid (l.At W5) := hlk5
            have r0 : ∀ d os, (grow (redrawn W5 d) os).cell? ⟨w4.heap.size, 1, none⟩ = some (.slice o.os.a o.os.n o.os.c) := fun d os => cell_regrown (KW5.cell (j := 1) (by decide)) d os
            have xl5 : w4.heap.size < W5.heap.size := KW5.lt
            clear hown hown5 KW5 hsame hlk5 HLK HW5 hBW5 hB2
            obtain ⟨iO, hO, hO0, hO1, hO2⟩ := info_parts infoOrderC
            obtain ⟨iL, hL, hL0, hL1, hL2⟩ := info_parts infoLineC
            refine wp_region_made6 (fun w' => ∃ p : Regrown, w' = grow (redrawn W5 p.d) p.os) [0, 1, 3] [2, 4, 5, 6] [(true, 7), (true, 8), (true, 9)] (by kernel_rfl) (by kernel_rfl) (by kernel_rfl) (by kernel_rfl) (by kernel_rfl) (by kernel_rfl) (by kernel_rfl) (by kernel_rfl) (by kernel_rfl) (regrown_of_below ((Below.refl _ _).drew)) ?_
            simp only [picks, List.drop_succ_cons, List.drop_zero, List.take_succ_cons, List.take_zero, List.cons_append, List.nil_append]
            repeat (go_big_quiet_step (fail))
            refine wpQuiet_nil ?_
            clear r0
            refine ⟨fun j v g wk => match j with | 4 => DHs W5.heap.size 53 l v g wk | 5 => D16 W5.heap.size ⟨0, l⟩ v g wk | 6 => D17 W5.heap.size ⟨0, l⟩ v g wk | _ => DE v g,
              List.forall_mem_cons.2 ⟨fun v g w w' _ h => h, List.forall_mem_cons.2 ⟨fun v g w w' hB h => DHs.below h hB, List.forall_mem_cons.2 ⟨fun v g w w' hB h => D16.below h hB, List.forall_mem_cons.2 ⟨fun v g w w' hB h => D17.below h hB, List.forall_mem_nil _⟩⟩⟩⟩,
              List.forall_mem_cons.2 ⟨fun v g w h => by obtain ⟨_, h1, _⟩ := h; rw [h1]; intro x hx; simp at hx, List.forall_mem_cons.2 ⟨fun v g w h => by obtain ⟨_, h1, _⟩ := h; rw [h1]; intro x hx; simp at hx, List.forall_mem_cons.2 ⟨fun v g w h => by obtain ⟨_, h1, _⟩ := h; rw [h1]; intro x hx; simp at hx, List.forall_mem_cons.2 ⟨fun v g w h => by obtain ⟨_, _, h1, _⟩ := h; rw [h1]; intro x hx; simp at hx, List.forall_mem_nil _⟩⟩⟩⟩,
              List.forall_mem_cons.2 ⟨?zt2, List.forall_mem_cons.2 ⟨?zt3, List.forall_mem_cons.2 ⟨?zt4, List.forall_mem_cons.2 ⟨?zt5, List.forall_mem_nil _⟩⟩⟩⟩, ?ztdone⟩
            case zt2 =>
              intro V G wk K hS hd hA hK
              have hX := below_of_regrown hS
              refine wpOp_list 2 rfl ?_
              simp only [putAll, dstOf, List.getElem?_toArray, List.getElem?_cons_succ, List.getElem?_cons_zero, Act.put, List.setIfInBounds_toArray, List.set_cons_succ, List.set_cons_zero] at hK ⊢
              go_wp2_with fail
              exact hK _ [] _ (regrown_of_below (hX.alloc hX.size _)) ((Below.refl _ _).alloc (Nat.le_refl _) _) (fun x hx => by simp at hx) ⟨wk.heap.size, rfl, rfl⟩
            case zt3 =>
              intro V G wk K hS hd hA hK
              have hX := below_of_regrown hS
              have q := hX.size
              obtain ⟨B, -, h3⟩ : DE (V 2) (G 2) := hd 2 (List.contains_iff_mem.1 (by kernel_rfl)) (by simp)
              refine wpOp_list 4 rfl ?_
              simp only [putAll, dstOf, List.getElem?_toArray, List.getElem?_cons_succ, List.getElem?_cons_zero, Act.put, List.setIfInBounds_toArray, List.set_cons_succ, List.set_cons_zero, h3] at hK ⊢
              go_wp2_with (at_builtin; refine wp_append_empty wk rfl (.tmp 79) (.tmp 80) 49 rfl 53 iL (.agg #[.int .i64 0, .int .i64 0, .int .i64 0, .int .i64 0]) 4 32 Try.underlying49 hL hL0 hL1 hL2 rfl (by decide) B rfl (some ⟨bl, ol, none⟩) l.n l.c (flatH l.n l.z) rfl (by rw [flatH_len]) (fun ad ha => hs_news (HL5.out.below hX) ad (HLA.out.trans ha)) (flatH_one _ _) (fun h => by cases h) (by unfold maxLen; omega) (by omega) ?_ ?_)
              · intro h0
                exact absurd h0 (by omega)
              · intro h0 v' w1 hown hgrow
                have hB1 : Below wk.heap.size wk w1 := (Below.refl _ wk).grown hgrow (Nat.le_refl _) (by intro k hk; cases hk)
                obtain ⟨s', rfl, hc⟩ := cloned_grow (A := W5.heap.size) h0 hown (by omega)
                exact wpList_end (hK _ [] _ (regrown_of_below (hX.trans (hB1.mono hX.size))) hB1 (fun x hx => by simp at hx) ⟨s', rfl, rfl, hc⟩)
            case zt4 =>
              intro V G wk K hS hd hA hK
              obtain ⟨s', -, h15, hc⟩ : DHs W5.heap.size 53 l (V 4) (G 4) wk := hd 4 (List.contains_iff_mem.1 (by kernel_rfl)) (by simp)
              have HCL : Hid (Cloned W5.heap.size 53 l wk s') := hc
              clear hc
              refine wpOp_list 5 rfl ?_
              simp only [putAll, dstOf, List.getElem?_toArray, List.getElem?_cons_succ, List.getElem?_cons_zero, Act.put, List.setIfInBounds_toArray, List.set_cons_succ, List.set_cons_zero, h15] at hK ⊢
              go_wp2_with fail
              exact hK _ [] _ hS (Below.refl _ _) (fun x hx => by simp at hx) ⟨s', rfl, rfl, HCL.out⟩
            case zt5 =>
              intro V G wk K hS hd hA hK
              have hX := below_of_regrown hS
              obtain ⟨s', -, h16, hc⟩ : D16 W5.heap.size ⟨0, l⟩ (V 5) (G 5) wk := hd 5 (List.contains_iff_mem.1 (by kernel_rfl)) (by simp)
              have HCL : Hid (Cloned W5.heap.size 53 l wk s') := hc
              clear hc
              refine wpOp_list 6 rfl ?_
              simp only [putAll, dstOf, List.getElem?_toArray, List.getElem?_cons_succ, List.getElem?_cons_zero, Act.put, List.setIfInBounds_toArray, List.set_cons_succ, List.set_cons_zero, h16] at hK ⊢
              go_wp2_with fail
              have hBa := (Below.refl wk.heap.size wk).alloc (Nat.le_refl _) (.cells #[.int .i64 0, .slice s'.a s'.n s'.c] 51)
              exact hK _ [] _ (regrown_of_below (hX.alloc hX.size _)) ((Below.refl _ _).alloc (Nat.le_refl _) _) (fun x hx => by simp at hx) ⟨wk.heap.size, s', rfl, rfl, hX.size, Blk.mk' rfl rfl, HCL.out.1, HCL.out.2.1, HCL.out.2.2.1.below hBa, HCL.out.2.2.2.below hBa⟩
            case ztdone =>
              intro V G' wk hS hD hA
              obtain ⟨BO, s', -, h17, m17, k17, e1, e2, ⟨o1, o2, o3, o4⟩, -⟩ : D17 W5.heap.size ⟨0, l⟩ (V 6) (G' 6) wk := hD 6 (by simp)
              have hX := below_of_regrown hS
              have q1 := hX.size
              obtain ⟨gB, ea, hgB, kB⟩ := o4 (by rw [e1]; show 0 < l.n; omega)
              obtain ⟨hO5, K5, hsame⟩ := HOW.out
              have hO6 := OwnS.below hO5 hX
              have K6 := K5.below hX
              have hBk := hB5.trans (hX.mono hB5.size)
              have HE : Hid (s'.n = l.n ∧ (∀ j, j < l.n → s'.z j = l.z j) ∧ s'.a = some ⟨gB, 0, none⟩ ∧ s'.n ≤ s'.c ∧ s'.c ≤ maxLen ∧ Blk wk gB 53 (s'.n * 4) (fun j => (flatH s'.n s'.z).getD j default) ∧ SameT o s ∧ W5.heap.size ≤ gB) := ⟨e1, e2, ea, o1, o2, kB, hsame, hgB⟩
              have HOK : Hid (OwnS wr.heap.size wk o ∧ OwnS wr.heap.size W5 o) := ⟨hO6, hO5⟩
              have HK6 : Hid (Blk wk w4.heap.size 31 7 (fun j => o.cells.getD j default)) := K6
              have HBk : Hid (Below W0.heap.size W0 wk) := hBk
              have HK17 : Hid (Blk wk BO 51 2 (fun j => (#[.int .i64 0, .slice s'.a s'.n s'.c] : Array Value).getD j default)) := k17
              clear hS hD hA e1 e2 ea o1 o2 o3 o4 kB hO5 K5 hsame hO6 K6 hBk k17 hB5
              simp only [putAll, dstOf, List.getElem?_toArray, List.getElem?_cons_succ, List.getElem?_cons_zero, Act.put, List.setIfInBounds_toArray, List.set_cons_succ, List.set_cons_zero, h17]
              refine wpSeq_one 7 rfl ?_
              go_wp2_with (at_builtin; refine wpList_append_room wk rfl (.tmp 78) (.tmp 83) 27 rfl wr.heap.size 51 iO (.agg #[.int .i64 0, .slice none 0 0]) 2 32 Try.underlying27 hO hO0 hO1 hO2 rfl (by decide) o.os.a o.os.n o.os.c (flatO o.os.n o.os.z) rfl HOK.out.1.os.room HOK.out.1.os.le HOK.out.1.os.cap (flatO_len _ _) HOK.out.1.os.list ⟨BO, 0, none⟩ 1 1 [.int .i64 0, .slice s'.a s'.n s'.c] rfl rfl ?zc1 ?zc2 (by decide) ?zc3 ?zc4 ?zc5 ?_)
              case zc1 =>
                intro j u hj
                match j, hj with
                | 0, hj => simp at hj; subst hj; exact HK17.out.cell (j := 0) (by decide)
                | 1, hj => simp at hj; subst hj; exact HK17.out.cell (j := 1) (by decide)
              case zc2 => intro u hu; simp at hu; rcases hu with rfl | rfl <;> rfl
              case zc3 => unfold maxLen; omega
              case zc4 => omega
              case zc5 => omega
              intro v2 w2 hown2 hgrow2
              obtain ⟨e1, e2, ea, o1, o2, kB, hsame, hgB⟩ := HE.out
              obtain ⟨va, vc, rfl, hOO⟩ := OwnO.more (x := ⟨0, s'⟩) HOK.out.1.os hown2 hgrow2 ea (by omega) o1 o2 kB (fun i hi e => by
                obtain ⟨B, x1, x2, x3, x4, x5⟩ := HOK.out.2.os.lines i hi
                rw [x1] at e
                have e' := e.trans ea
                simp only [Option.some.injEq, Addr.mk.injEq, and_true] at e'
                have := x5.lt
                omega)
              have hOS2 := HOK.out.1.orders hgrow2 hOO
              have hB7 := hgrow2.below HBk.out (by omega) (by have := HBk.out.size; omega)
              have K7 := hgrow2.blk HK6.out (by decide)
              have xl := K7.lt
              have zf9 := K7.frozen 1
              have zc9 := K7.cell (j := 1) (by decide)
              have K8 := K7.set 1 (.slice va (o.os.n + 1) vc)
              have hO8 := hOS2.box K7 1 (.slice va (o.os.n + 1) vc)
              have hB8 := hB7.setCell (p := ⟨w4.heap.size, 1, none⟩) (by show W0.heap.size ≤ w4.heap.size; omega) (.slice va (o.os.n + 1) vc)
              have HSM : Hid (SameT ⟨o.on, ⟨va, o.os.n + 1, vc, moreO o.os ⟨0, s'⟩⟩, o.hs, o.ms, o.si, o.so, o.sf⟩ (enterT s l)) := enter_same hsame e1 e2
              obtain ⟨-, -, -, hBw8, hz8, -⟩ := HC.out _ hB8
              have HEND : Hid (OwnS wr.heap.size (w2.setCell ⟨w4.heap.size, 1, none⟩ (.slice va (o.os.n + 1) vc)) ⟨o.on, ⟨va, o.os.n + 1, vc, moreO o.os ⟨0, s'⟩⟩, o.hs, o.ms, o.si, o.so, o.sf⟩ ∧ Below w.heap.size w (w2.setCell ⟨w4.heap.size, 1, none⟩ (.slice va (o.os.n + 1) vc)) ∧ Blk (w2.setCell ⟨w4.heap.size, 1, none⟩ (.slice va (o.os.n + 1) vc)) (w.heap.size + 2) 31 7 (fun _ => .slice .none 0 0)) := ⟨hO8, hBw8, hz8⟩
              have m8 := K8.lt
              have e0' : (w2.setCell ⟨w4.heap.size, 1, none⟩ (.slice va (o.os.n + 1) vc)).cell? ⟨w4.heap.size, 0, none⟩ = some (.slice o.on.a o.on.n o.on.c) := K8.cell (j := 0) (by decide)
              have e1' : (w2.setCell ⟨w4.heap.size, 1, none⟩ (.slice va (o.os.n + 1) vc)).cell? ⟨w4.heap.size, 1, none⟩ = some (.slice va (o.os.n + 1) vc) := K8.cell (j := 1) (by decide)
              have e2' : (w2.setCell ⟨w4.heap.size, 1, none⟩ (.slice va (o.os.n + 1) vc)).cell? ⟨w4.heap.size, 2, none⟩ = some (.slice o.hs.a o.hs.n o.hs.c) := K8.cell (j := 2) (by decide)
              have e3' : (w2.setCell ⟨w4.heap.size, 1, none⟩ (.slice va (o.os.n + 1) vc)).cell? ⟨w4.heap.size, 3, none⟩ = some (.slice o.ms.a o.ms.n o.ms.c) := K8.cell (j := 3) (by decide)
              have e4' : (w2.setCell ⟨w4.heap.size, 1, none⟩ (.slice va (o.os.n + 1) vc)).cell? ⟨w4.heap.size, 4, none⟩ = some (.slice o.si.a o.si.n o.si.c) := K8.cell (j := 4) (by decide)
              have e5' : (w2.setCell ⟨w4.heap.size, 1, none⟩ (.slice va (o.os.n + 1) vc)).cell? ⟨w4.heap.size, 5, none⟩ = some (.slice o.so.a o.so.n o.so.c) := K8.cell (j := 5) (by decide)
              have e6' : (w2.setCell ⟨w4.heap.size, 1, none⟩ (.slice va (o.os.n + 1) vc)).cell? ⟨w4.heap.size, 6, none⟩ = some (.slice o.sf.a o.sf.n o.sf.c) := K8.cell (j := 6) (by decide)
              have zl := hz8.lt
              have zf0 := hz8.frozen 0
              have zc0 := hz8.cell (j := 0) (by decide)
              have zf1 := hz8.frozen 1
              have zc1 := hz8.cell (j := 1) (by decide)
              have zf2 := hz8.frozen 2
              have zc2 := hz8.cell (j := 2) (by decide)
              have zf3 := hz8.frozen 3
              have zc3 := hz8.cell (j := 3) (by decide)
              have zf4 := hz8.frozen 4
              have zc4 := hz8.cell (j := 4) (by decide)
              have zf5 := hz8.frozen 5
              have zc5 := hz8.cell (j := 5) (by decide)
              have zf6 := hz8.frozen 6
              have zc6 := hz8.cell (j := 6) (by decide)
              clear hown2 hgrow2 hOO hOS2 hB7 K7 K8 hO8 hB8 hBw8 hz8 HE HOK HK6 HBk HK17 kB hsame e1 e2 ea o1 o2 hgB hX
              refine wpList_end ⟨Late.yes, ?_⟩
              refine wpSeq_one 8 rfl ?_
              go_wp2_with fail
              refine ⟨Late.yes, ?_⟩
              refine wpSeq_one 9 rfl ?_
              go_wp2_with fail
              refine ⟨Late.yes, ?_⟩
              refine NoPanic.normal ?_
              go_wp2_with fail
              obtain ⟨hOt, hBw, hz⟩ := HEND.out
              have KZ := set7_blk hz (.slice o.on.a o.on.n o.on.c) (.slice va (o.os.n + 1) vc) (.slice o.hs.a o.hs.n o.hs.c) (.slice o.ms.a o.ms.n o.ms.c) (.slice o.si.a o.si.n o.si.c) (.slice o.so.a o.so.n o.so.c) (.slice o.sf.a o.sf.n o.sf.c)
              have hbz := set7_below (b := w.heap.size + 2) hBw (by omega) (.slice o.on.a o.on.n o.on.c) (.slice va (o.os.n + 1) vc) (.slice o.hs.a o.hs.n o.hs.c) (.slice o.ms.a o.ms.n o.ms.c) (.slice o.si.a o.si.n o.si.c) (.slice o.so.a o.so.n o.so.c) (.slice o.sf.a o.sf.n o.sf.c)
              have hOz := OwnS.set7 hOt hz (.slice o.on.a o.on.n o.on.c) (.slice va (o.os.n + 1) vc) (.slice o.hs.a o.hs.n o.hs.c) (.slice o.ms.a o.ms.n o.ms.c) (.slice o.si.a o.si.n o.si.c) (.slice o.so.a o.so.n o.so.c) (.slice o.sf.a o.sf.n o.sf.c)
              unfold set7 at KZ hbz hOz
              obtain ⟨c0', c1', c2', c3', c4', c5', c6'⟩ := box_cells KZ
              refine bodyPost_ret (v := .tuple #[(⟨o.on, ⟨va, o.os.n + 1, vc, moreO o.os ⟨0, s'⟩⟩, o.hs, o.ms, o.si, o.so, o.sf⟩ : St).val, .int .i64 0]) (by simp [results, Try.results25, go_sem, St.val, c0', c1', c2', c3', c4', c5', c6']) rfl ?_
              exact ⟨⟨o.on, ⟨va, o.os.n + 1, vc, moreO o.os ⟨0, s'⟩⟩, o.hs, o.ms, o.si, o.so, o.sf⟩, by rw [HX.out]; rfl, hOz.at, ⟨fun _ => HSM.out, fun h => absurd HX.out h⟩, hbz⟩
  · have HX : Hid (enterE p s l = stateE p s) := enterE_state h0
    clear hpk hsk hlk c0 c1 c2 c3 c4 c5 c6
    have zl := hz.lt
    have zf0 := hz.frozen 0
    have zc0 := hz.cell (j := 0) (by decide)
    have zf1 := hz.frozen 1
    have zc1 := hz.cell (j := 1) (by decide)
    have zf2 := hz.frozen 2
    have zc2 := hz.cell (j := 2) (by decide)
    have zf3 := hz.frozen 3
    have zc3 := hz.cell (j := 3) (by decide)
    have zf4 := hz.frozen 4
    have zc4 := hz.cell (j := 4) (by decide)
    have zf5 := hz.frozen 5
    have zc5 := hz.cell (j := 5) (by decide)
    have zf6 := hz.frozen 6
    have zc6 := hz.cell (j := 6) (by decide)
    go_wp2_with fail
    have KZ := set7_blk hz (.slice .none 0 0) (.slice .none 0 0) (.slice .none 0 0) (.slice .none 0 0) (.slice .none 0 0) (.slice .none 0 0) (.slice .none 0 0)
    have hbz := set7_below (b := w.heap.size + 2) hBw (by omega) (.slice .none 0 0) (.slice .none 0 0) (.slice .none 0 0) (.slice .none 0 0) (.slice .none 0 0) (.slice .none 0 0) (.slice .none 0 0)
    unfold set7 at KZ hbz
    obtain ⟨c0', c1', c2', c3', c4', c5', c6'⟩ := box_cells KZ
    refine bodyPost_ret (v := .tuple #[noneS.val, .int .i64 (stateE p s)]) (by simp [results, Try.results25, go_sem, noneS, St.val, c0', c1', c2', c3', c4', c5', c6']) rfl ?_
    exact ⟨noneS, by rw [HX.out]; rfl, noneS_at _, ⟨fun h => absurd h (by rw [HX.out]; exact h0), fun _ => ⟨rfl, rfl, rfl, rfl, rfl, rfl, rfl⟩⟩, hbz⟩

end Go.Proofs.Ytjiodlbblmbibac
/- busy. -/
namespace Go.Proofs.Ytjiodlbblmbibac
open Go.RowKit Go.Shelf Go.Sort
set_option linter.unusedVariables false

/-- The blocks of a state of the yard; a: how many the first hold has; k: the second order's kind. -/
structure BusyB (w : World) (g : Nat) (a k : Int) : Prop where
  b0 : Blk w (g) 3 2 (fun j => (#[.int .i64 9, .int .i64 0] : Array Value).getD j default)
  b1 : Blk w (g + 1) 3 2 (fun j => (#[.int .i64 3, .int .i64 0] : Array Value).getD j default)
  b2 : Blk w (g + 2) 3 2 (fun j => (#[.int .i64 0, .int .i64 6] : Array Value).getD j default)
  b3 : Blk w (g + 3) 23 3 (fun j => (#[.slice (some ⟨g, 0, none⟩) 2 2, .slice (some ⟨g + 1, 0, none⟩) 2 2, .slice (some ⟨g + 2, 0, none⟩) 2 2] : Array Value).getD j default)
  b4 : Blk w (g + 4) 53 8 (fun j => (#[.int .i64 0, .int .i64 6, .int .i64 1, .int .i64 0, .int .i64 1, .int .i64 9, .int .i64 0, .int .i64 3] : Array Value).getD j default)
  b5 : Blk w (g + 5) 53 4 (fun j => (#[.int .i64 0, .int .i64 4, .int .i64 0, .int .i64 0] : Array Value).getD j default)
  b6 : Blk w (g + 6) 51 4 (fun j => (#[.int .i64 1, .slice (some ⟨g + 4, 0, none⟩) 2 2, .int .i64 k, .slice (some ⟨g + 5, 0, none⟩) 1 1] : Array Value).getD j default)
  b7 : Blk w (g + 7) 65 12 (fun j => (#[.int .i64 0, .int .i64 0, .int .i64 0, .int .i64 a, .int .i64 0, .int .i64 0, .int .i64 1, .int .i64 3, .int .i64 0, .int .i64 1, .int .i64 2, .int .i64 6] : Array Value).getD j default)
  b8 : Blk w (g + 8) 70 4 (fun j => (#[.int .i64 0, .int .i64 0, .int .i64 1, .int .i64 5] : Array Value).getD j default)
  b9 : Blk w (g + 9) 3 2 (fun j => (#[.int .i64 13, .int .i64 6] : Array Value).getD j default)
  b10 : Blk w (g + 10) 3 2 (fun j => (#[.int .i64 1, .int .i64 0] : Array Value).getD j default)
  b11 : Blk w (g + 11) 3 2 (fun j => (#[.int .i64 0, .int .i64 0] : Array Value).getD j default)
theorem BusyB.below {w w' : World} {g : Nat} {a k : Int} (h : BusyB w g a k) (hB : Below w.heap.size w w') : BusyB w' g a k := ⟨h.b0.below hB, h.b1.below hB, h.b2.below hB, h.b3.below hB, h.b4.below hB, h.b5.below hB, h.b6.below hB, h.b7.below hB, h.b8.below hB, h.b9.below hB, h.b10.below hB, h.b11.below hB⟩
def bz0 : Nat → Int
  | 0 => 9
  | _ => 0
def bz1 : Nat → Int
  | 0 => 3
  | _ => 0
def bz2 : Nat → Int
  | 0 => 0
  | _ => 6
def bzi : Nat → Int
  | 0 => 13
  | _ => 6
def bzo : Nat → Int
  | 0 => 1
  | _ => 0
def bl0 : Nat → Hd
  | 0 => ⟨0, 6, 1, 0⟩
  | _ => ⟨1, 9, 0, 3⟩
def bhs (a : Int) : Nat → Hd
  | 0 => ⟨0, 0, 0, a⟩
  | 1 => ⟨0, 0, 1, 3⟩
  | _ => ⟨0, 1, 2, 6⟩
def bon (g : Nat) : Nat → Rw
  | 0 => ⟨some ⟨g, 0, none⟩, 2, 2, bz0⟩
  | 1 => ⟨some ⟨g + 1, 0, none⟩, 2, 2, bz1⟩
  | _ => ⟨some ⟨g + 2, 0, none⟩, 2, 2, bz2⟩
def bos (g : Nat) (k : Int) : Nat → Od
  | 0 => ⟨1, ⟨some ⟨g + 4, 0, none⟩, 2, 2, bl0⟩⟩
  | _ => ⟨k, ⟨some ⟨g + 5, 0, none⟩, 1, 1, fun _ => ⟨0, 4, 0, 0⟩⟩⟩
def busyS (g : Nat) (a k : Int) : St := ⟨⟨some ⟨g + 3, 0, none⟩, 3, 3, bon g⟩, ⟨some ⟨g + 6, 0, none⟩, 2, 2, bos g k⟩, ⟨some ⟨g + 7, 0, none⟩, 3, 3, bhs a⟩, ⟨some ⟨g + 8, 0, none⟩, 1, 1, fun _ => ⟨0, 0, 1, 5⟩⟩, ⟨some ⟨g + 9, 0, none⟩, 2, 2, bzi⟩, ⟨some ⟨g + 10, 0, none⟩, 2, 2, bzo⟩, ⟨some ⟨g + 11, 0, none⟩, 2, 2, fun _ => 0⟩⟩

theorem le_max {n : Nat} (h : n ≤ 100) : n ≤ maxLen := by unfold maxLen; omega
theorem two_at {w : World} {g : Nat} {e : TypeId} {x y : Int} {z : Nat → Int} (h : Blk w g e 2 (fun j => (#[.int .i64 x, .int .i64 y] : Array Value).getD j default)) (h0 : z 0 = x) (h1 : z 1 = y) : Rw.At w ⟨some ⟨g, 0, none⟩, 2, 2, z⟩ := by
  refine ⟨Nat.le_refl _, le_max (n := 2) (by decide), fun i hi => ?_⟩
  have hi' : i < 2 := hi
  refine ⟨g, 0, rfl, h.lt, ?_⟩
  match i, hi' with
  | 0, _ => show w.cell? ⟨g, 0 + 0, none⟩ = some (.int .i64 (z 0)); rw [h0]; exact h.cell (j := 0) (by decide)
  | 1, _ => show w.cell? ⟨g, 0 + 1, none⟩ = some (.int .i64 (z 1)); rw [h1]; exact h.cell (j := 1) (by decide)
theorem busyAt {w : World} {g : Nat} {a k : Int} (h : BusyB w g a k) : (busyS g a k).At w := by
  refine ⟨⟨Nat.le_refl _, le_max (n := 3) (by decide), fun i hi => ?_⟩, ⟨Nat.le_refl _, le_max (n := 2) (by decide), fun i hi => ?_⟩, ⟨Nat.le_refl _, le_max (n := 3) (by decide), fun i hi => ?_, fun e => by cases e⟩, ⟨Nat.le_refl _, le_max (n := 1) (by decide), fun i hi => ?_, fun e => by cases e⟩, two_at h.b9 rfl rfl, two_at h.b10 rfl rfl, two_at h.b11 rfl rfl⟩
  · have hi' : i < 3 := hi
    refine ⟨g + 3, 0, rfl, h.b3.lt, ?_⟩
    match i, hi' with
    | 0, _ => exact ⟨h.b3.cell (j := 0) (by decide), two_at h.b0 rfl rfl⟩
    | 1, _ => exact ⟨h.b3.cell (j := 1) (by decide), two_at h.b1 rfl rfl⟩
    | 2, _ => exact ⟨h.b3.cell (j := 2) (by decide), two_at h.b2 rfl rfl⟩
  · have hi' : i < 2 := hi
    refine ⟨g + 6, 0, rfl, h.b6.lt, ?_⟩
    match i, hi' with
    | 0, _ =>
      refine ⟨h.b6.cell (j := 0) (by decide), h.b6.cell (j := 1) (by decide), Nat.le_refl _, le_max (n := 2) (by decide), fun j hj => ?_, fun e => by cases e⟩
      have hj' : j < 2 := hj
      refine ⟨g + 4, 0, rfl, h.b4.lt, ?_⟩
      match j, hj' with
      | 0, _ => exact ⟨h.b4.cell (j := 0) (by decide), h.b4.cell (j := 1) (by decide), h.b4.cell (j := 2) (by decide), h.b4.cell (j := 3) (by decide)⟩
      | 1, _ => exact ⟨h.b4.cell (j := 4) (by decide), h.b4.cell (j := 5) (by decide), h.b4.cell (j := 6) (by decide), h.b4.cell (j := 7) (by decide)⟩
    | 1, _ =>
      refine ⟨h.b6.cell (j := 2) (by decide), h.b6.cell (j := 3) (by decide), Nat.le_refl _, le_max (n := 1) (by decide), fun j hj => ?_, fun e => by cases e⟩
      have hj' : j < 1 := hj
      refine ⟨g + 5, 0, rfl, h.b5.lt, ?_⟩
      match j, hj' with
      | 0, _ => exact ⟨h.b5.cell (j := 0) (by decide), h.b5.cell (j := 1) (by decide), h.b5.cell (j := 2) (by decide), h.b5.cell (j := 3) (by decide)⟩
  · have hi' : i < 3 := hi
    refine ⟨g + 7, 0, rfl, h.b7.lt, ?_⟩
    match i, hi' with
    | 0, _ => exact ⟨h.b7.cell (j := 0) (by decide), h.b7.cell (j := 1) (by decide), h.b7.cell (j := 2) (by decide), h.b7.cell (j := 3) (by decide)⟩
    | 1, _ => exact ⟨h.b7.cell (j := 4) (by decide), h.b7.cell (j := 5) (by decide), h.b7.cell (j := 6) (by decide), h.b7.cell (j := 7) (by decide)⟩
    | 2, _ => exact ⟨h.b7.cell (j := 8) (by decide), h.b7.cell (j := 9) (by decide), h.b7.cell (j := 10) (by decide), h.b7.cell (j := 11) (by decide)⟩
  · have hi' : i < 1 := hi
    refine ⟨g + 8, 0, rfl, h.b8.lt, ?_⟩
    match i, hi' with
    | 0, _ => exact ⟨h.b8.cell (j := 0) (by decide), h.b8.cell (j := 1) (by decide), h.b8.cell (j := 2) (by decide), h.b8.cell (j := 3) (by decide)⟩

theorem busyE (g1 g2 g : Nat) : stateE (yardP g1 g2) (busyS g 2 0) = 0 ∧ stateE (yardP g1 g2) (busyS g 5 0) = 7 ∧ stateE (yardP g1 g2) (busyS g 2 3) = 1 := ⟨by rfl, by rfl, by rfl⟩
theorem busyV (g1 g2 g : Nat) : availE (yardP g1 g2) (busyS g 2 0) 0 0 = 0 ∧ availV (yardP g1 g2) (busyS g 2 0) 0 0 = 2 ∧ freeE (yardP g1 g2) (busyS g 2 0) 1 = 0 ∧ freeV (yardP g1 g2) (busyS g 2 0) 1 = 14 := ⟨by rfl, by rfl, by rfl, by rfl⟩

set_option maxRecDepth 100000 in
set_option maxHeartbeats 4000000 in
theorem busy_any (w : World) :
    Calls Try.prog 29 #[] w fun e w' => ∃ g, e = .returned (busyS g 2 0).val ∧ w.heap.size < g ∧ BusyB w' g 2 0 ∧ Below w.heap.size w w' := by
  go_enter Try.func29, Try.ntmps29
  go_wp2
  refine bodyPost_ret (v := (busyS (w.heap.size + 1) 2 0).val) (by simp [results, Try.results29, go_sem, busyS, St.val]) rfl ?_
  refine ⟨w.heap.size + 1, rfl, by omega, ⟨Blk.alloc (Blk.alloc (Blk.alloc (Blk.alloc (Blk.alloc (Blk.alloc (Blk.alloc (Blk.alloc (Blk.alloc (Blk.alloc (Blk.alloc (Blk.mk' (by simp <;> omega) rfl) _) _) _) _) _) _) _) _) _) _) _, Blk.alloc (Blk.alloc (Blk.alloc (Blk.alloc (Blk.alloc (Blk.alloc (Blk.alloc (Blk.alloc (Blk.alloc (Blk.alloc (Blk.mk' (by simp <;> omega) rfl) _) _) _) _) _) _) _) _) _) _, Blk.alloc (Blk.alloc (Blk.alloc (Blk.alloc (Blk.alloc (Blk.alloc (Blk.alloc (Blk.alloc (Blk.alloc (Blk.mk' (by simp <;> omega) rfl) _) _) _) _) _) _) _) _) _, Blk.alloc (Blk.alloc (Blk.alloc (Blk.alloc (Blk.alloc (Blk.alloc (Blk.alloc (Blk.alloc (Blk.mk' (by simp <;> omega) rfl) _) _) _) _) _) _) _) _, Blk.alloc (Blk.alloc (Blk.alloc (Blk.alloc (Blk.alloc (Blk.alloc (Blk.alloc (Blk.mk' (by simp <;> omega) rfl) _) _) _) _) _) _) _, Blk.alloc (Blk.alloc (Blk.alloc (Blk.alloc (Blk.alloc (Blk.alloc (Blk.mk' (by simp <;> omega) rfl) _) _) _) _) _) _, Blk.alloc (Blk.alloc (Blk.alloc (Blk.alloc (Blk.alloc (Blk.mk' (by simp <;> omega) rfl) _) _) _) _) _, Blk.alloc (Blk.alloc (Blk.alloc (Blk.alloc (Blk.mk' (by simp <;> omega) rfl) _) _) _) _, Blk.alloc (Blk.alloc (Blk.alloc (Blk.mk' (by simp <;> omega) rfl) _) _) _, Blk.alloc (Blk.alloc (Blk.mk' (by simp <;> omega) rfl) _) _, Blk.alloc (Blk.mk' (by simp <;> omega) rfl) _, Blk.mk' (by simp <;> omega) rfl⟩, ?_⟩
  exact (((((((((((((Below.refl _ _).alloc (Nat.le_refl _) _).alloc (by simp <;> omega) _).alloc (by simp <;> omega) _).alloc (by simp <;> omega) _).alloc (by simp <;> omega) _).alloc (by simp <;> omega) _).alloc (by simp <;> omega) _).alloc (by simp <;> omega) _).alloc (by simp <;> omega) _).alloc (by simp <;> omega) _).alloc (by simp <;> omega) _).alloc (by simp <;> omega) _).alloc (by simp <;> omega) _

end Go.Proofs.Ytjiodlbblmbibac
/- What is begun is right. No walk. -/
namespace Go.Proofs.Ytjiodlbblmbibac
open Go.RowKit
set_option linter.unusedVariables false

theorem anyB_zero {n : Nat} {f : Nat → Bool} (h : n = 0) : anyB n f = false := anyB_no fun j hj => absurd hj (by omega)
theorem sumTo_zero {z : Nat → Int} : ∀ {n : Nat}, (∀ j, j < n → z j = 0) → sumTo z n = 0
  | 0, _ => rfl
  | n + 1, h => by simp only [sumTo]; rw [sumTo_zero (n := n) fun j hj => h j (by omega), h n (by omega)]; rfl
theorem usedTo_zero {z zs : Nat → Int} : ∀ {n : Nat}, (∀ j, j < n → z j = 0) → usedTo z zs n = 0
  | 0, _ => rfl
  | n + 1, h => by simp only [usedTo]; rw [usedTo_zero (n := n) fun j hj => h j (by omega), h n (by omega)]; simp

theorem begun_shelf {p : Pl} {s : St} (h0 : planE p = 0) (b : BegunS p s) : RightS p s.on :=
  ⟨rightP h0, b.1, fun i hi => (b.2.1 i (by have := b.1; omega)).1, fun i hi j hj => by rw [(b.2.1 i (by have := b.1; omega)).2 j hj]; omega⟩
theorem begun_avail {p : Pl} {s : St} (b : BegunS p s) {i j : Nat} (hi : i < p.nb) (hj : j < p.ns) : availZ s i j = 0 := by
  obtain ⟨-, hr, -, hh, hm, -⟩ := b
  unfold availZ
  rw [hh, hm, (hr i hi).2 j hj]
  rfl
theorem begun_sum {p : Pl} {r : Rw} {low : Int} (h : r.n = p.ns ∧ ∀ j, j < p.ns → r.z j = 0) (hl : low ≤ 0) : badSum p r low = false := by
  unfold badSum
  rw [Bool.or_eq_false_iff]
  refine ⟨by simp [h.1], anyB_no fun j hj => ?_⟩
  rw [h.2 j (by rw [← h.1]; exact hj), inB_mk ⟨hl, by omega⟩]
  rfl
theorem begun_state {p : Pl} {s : St} (h0 : planE p = 0) (b : BegunS p s) : stateE p s = 0 := by
  have hS := shelfE_mk h0 (begun_shelf h0 b)
  have hb := b
  obtain ⟨hn, hr, ho, hh, hm, h1, h2, h3⟩ := hb
  have e1 : tooManyB s = false := by unfold tooManyB; rw [ho, hm]; rfl
  have e2 : badOrdersB p s = false := anyB_zero ho
  have e3 : badHoldsB p s = false := by unfold badHoldsB; rw [hh]; rfl
  have e4 : badMovesB p s = false := anyB_zero hm
  have e5 : badSumsB p s = false := by
    unfold badSumsB
    rw [begun_sum h1 (by omega), begun_sum h2 (by omega), begun_sum h3 (by omega)]
    rfl
  have e6 : wrongGoodsB p s = false := anyB_no fun g hg => by
    rw [wrongGood_eq, sumTo_zero (fun i hi => (hr i (by omega)).2 g hg), h1.2 g hg, h2.2 g hg, h3.2 g hg, anyB_no fun i hi => by rw [begun_avail b hi hg]; rfl]
    rfl
  have e7 : wrongOrdersB s = false := anyB_zero ho
  rw [stateE_sum hS e1 e2 e3 e4 e5, e6, e7]
  rfl
theorem begun_free {p : Pl} {s : St} (b : BegunS p s) {i : Nat} (hi : i < p.nb) : freeZ p s i = (p.zb i).room := by
  obtain ⟨-, hr, -, -, hm, -⟩ := b
  unfold freeZ
  rw [hm, usedTo_zero (hr i hi).2]
  simp [takeTo]

end Go.Proofs.Ytjiodlbblmbibac
/- stateBegun. -/
namespace Go.Proofs.Ytjiodlbblmbibac
open Go.RowKit Go.Shelf Go.Sort
set_option linter.unusedVariables false

theorem begunBegin {w : World} {g1 g2 : Nat} (hp : (yardP g1 g2).At w) :
    Calls Try.prog 9 #[(yardP g1 g2).val] w fun e w' => ∃ s : St, e = .returned (.tuple #[s.val, .int .i64 0]) ∧ s.At w' ∧ BegunS (yardP 0 0) s ∧ Below w.heap.size w w' := by
  refine (Begin_any _ w hp).mono ?_
  rintro e w' ⟨s, rfl, hs, hok, hB⟩
  exact ⟨s, rfl, hs, hok.1 rfl, hB⟩
theorem begunAvail {w : World} {g1 g2 g : Nat} (hp : (yardP g1 g2).At w) (hs : BusyB w g 2 0) :
    Calls Try.prog 12 #[(yardP g1 g2).val, (busyS g 2 0).val, .int .i64 0, .int .i64 0] w fun e w' => e = .returned (.tuple #[.int .i64 2, .int .i64 0]) ∧ Below w.heap.size w w' := by
  have := Avail_any _ _ 0 0 w hp (busyAt hs)
  rwa [(busyV g1 g2 g).1, (busyV g1 g2 g).2.1] at this
theorem begunFree {w : World} {g1 g2 g : Nat} (hp : (yardP g1 g2).At w) (hs : BusyB w g 2 0) :
    Calls Try.prog 13 #[(yardP g1 g2).val, (busyS g 2 0).val, .int .i64 1] w fun e w' => e = .returned (.tuple #[.int .i64 14, .int .i64 0]) ∧ Below w.heap.size w w' := by
  have := Free_any _ _ 1 w hp (busyAt hs)
  rwa [(busyV g1 g2 g).2.2.1, (busyV g1 g2 g).2.2.2] at this
theorem begunChk {w : World} {g1 g2 : Nat} {s : St} (hp : (yardP g1 g2).At w) (hs : s.At w) (e : Int) (he : stateE (yardP g1 g2) s = e) :
    Calls Try.prog 14 #[(yardP g1 g2).val, s.val] w fun e' w' => e' = .returned (.int .i64 e) ∧ Below w.heap.size w w' := by
  have := stateCheck_any _ _ w hp hs
  rwa [he] at this
theorem begunOK {g1 g2 : Nat} {s : St} (h : BegunS (yardP 0 0) s) : stateE (yardP g1 g2) s = 0 := begun_state (p := yardP g1 g2) rfl h
theorem BusyB.set5 {w : World} {g : Nat} (h : BusyB w g 2 0) : BusyB (w.setCell ⟨g + 7, 3, none⟩ (.int .i64 5)) g 5 0 :=
  ⟨h.b0.other (by simp) _, h.b1.other (by simp) _, h.b2.other (by simp) _, h.b3.other (by simp) _, h.b4.other (by simp) _, h.b5.other (by simp) _, h.b6.other (by simp) _, (h.b7.set 3 _).congr (fun j hj => by match j, hj with | 0, _ => rfl | 1, _ => rfl | 2, _ => rfl | 3, _ => rfl | 4, _ => rfl | 5, _ => rfl | 6, _ => rfl | 7, _ => rfl | 8, _ => rfl | 9, _ => rfl | 10, _ => rfl | 11, _ => rfl), h.b8.other (by simp) _, h.b9.other (by simp) _, h.b10.other (by simp) _, h.b11.other (by simp) _⟩
theorem BusyB.set3 {w : World} {g : Nat} (h : BusyB w g 2 0) : BusyB (w.setCell ⟨g + 6, 2, none⟩ (.int .i64 3)) g 2 3 :=
  ⟨h.b0.other (by simp) _, h.b1.other (by simp) _, h.b2.other (by simp) _, h.b3.other (by simp) _, h.b4.other (by simp) _, h.b5.other (by simp) _, (h.b6.set 2 _).congr (fun j hj => by match j, hj with | 0, _ => rfl | 1, _ => rfl | 2, _ => rfl | 3, _ => rfl), h.b7.other (by simp) _, h.b8.other (by simp) _, h.b9.other (by simp) _, h.b10.other (by simp) _, h.b11.other (by simp) _⟩

set_option maxRecDepth 100000 in
set_option maxHeartbeats 8000000 in
theorem stateBegun_any (w : World) :
    Calls Try.prog 10 #[] w fun e w' => e = .returned (.bool true) ∧ Below w.heap.size w w' := by
  go_enter Try.func10, Try.ntmps10
  go_wp2_with fail
  refine (yard_any _).mono ?_
  rintro e w1 ⟨g1, g2, rfl, -, -, k1, k2, hA⟩
  go_wp2_with fail
  refine (begunBegin (yardAt k1 k2)).mono ?_
  rintro e w2 ⟨s, rfl, sat, sbe, hB⟩
  have hC := hA.trans (hB.mono hA.size)
  clear hA hB k1 k2
  simp only [St.val]
  go_wp2_with fail
  obtain ⟨W, hW, hWB, K1⟩ : ∃ W, w2.alloc (.cells #[.slice s.on.a s.on.n s.on.c, .slice s.os.a s.os.n s.os.c, .slice s.hs.a s.hs.n s.hs.c, .slice s.ms.a s.ms.n s.ms.c, .slice s.si.a s.si.n s.si.c, .slice s.so.a s.so.n s.so.c, .slice s.sf.a s.sf.n s.sf.c] 31) = W ∧ Below w2.heap.size w2 W ∧ Blk W w2.heap.size 31 7 (fun j => (#[.slice s.on.a s.on.n s.on.c, .slice s.os.a s.os.n s.os.c, .slice s.hs.a s.hs.n s.hs.c, .slice s.ms.a s.ms.n s.ms.c, .slice s.si.a s.si.n s.si.c, .slice s.so.a s.so.n s.so.c, .slice s.sf.a s.sf.n s.sf.c] : Array Value).getD j default) := ⟨_, rfl, (Below.refl _ _).alloc (Nat.le_refl _) _, Blk.mk' rfl rfl⟩
  rw [hW]
  have sat := sat.below hWB
  have hC := hC.trans (hWB.mono hC.size)
  clear hW hWB
  generalize w2.heap.size = B1 at *
  refine (yard_any _).mono ?_
  rintro e w3 ⟨g1, g2, rfl, -, -, k1, k2, hA⟩
  go_wp2_with fail
  refine (busy_any _).mono ?_
  rintro e w4 ⟨g, rfl, -, bb, hB⟩
  have k1 := k1.below hB
  have k2 := k2.below hB
  have hD := hA.trans (hB.mono hA.size)
  clear hA hB
  simp only [busyS, St.val]
  go_wp2_with fail
  refine (begunAvail (yardAt k1 k2) bb).mono ?_
  rintro e w5 ⟨rfl, hB⟩
  have hD := hD.trans (hB.mono hD.size)
  have hC := hC.trans (hD.mono hC.size)
  have sat := sat.below hD
  have K1 := K1.below hD
  clear hD hB k1 k2 bb
  go_wp2_with fail
  refine (yard_any _).mono ?_
  rintro e w6 ⟨g1, g2, rfl, -, -, k1, k2, hA⟩
  go_wp2_with fail
  refine (busy_any _).mono ?_
  rintro e w7 ⟨g, rfl, -, bb, hB⟩
  have k1 := k1.below hB
  have k2 := k2.below hB
  have hD := hA.trans (hB.mono hA.size)
  clear hA hB
  simp only [busyS, St.val]
  go_wp2_with fail
  refine (begunFree (yardAt k1 k2) bb).mono ?_
  rintro e w8 ⟨rfl, hB⟩
  have hD := hD.trans (hB.mono hD.size)
  have hC := hC.trans (hD.mono hC.size)
  have sat := sat.below hD
  have K1 := K1.below hD
  clear hD hB k1 k2 bb
  go_wp2_with fail
  refine (busy_any _).mono ?_
  rintro e w9 ⟨ga, rfl, hgt, bb, hB⟩
  have hf := bb.b7.frozen 3
  have hc := bb.b7.cell (j := 3) (by decide)
  have hl := bb.b7.lt
  simp only [busyS, St.val]
  go_wp2_with fail
  obtain ⟨W2, hW, hWB, K2, bx⟩ : ∃ W, (w9.setCell ⟨ga + 7, 3, none⟩ (.int .i64 5)).alloc (.cells #[.slice (some ⟨ga + 3, 0, none⟩) 3 3, .slice (some ⟨ga + 6, 0, none⟩) 2 2, .slice (some ⟨ga + 7, 0, none⟩) 3 3, .slice (some ⟨ga + 8, 0, none⟩) 1 1, .slice (some ⟨ga + 9, 0, none⟩) 2 2, .slice (some ⟨ga + 10, 0, none⟩) 2 2, .slice (some ⟨ga + 11, 0, none⟩) 2 2] 31) = W ∧ Below w8.heap.size w8 W ∧ Blk W w9.heap.size 31 7 (fun j => (#[.slice (some ⟨ga + 3, 0, none⟩) 3 3, .slice (some ⟨ga + 6, 0, none⟩) 2 2, .slice (some ⟨ga + 7, 0, none⟩) 3 3, .slice (some ⟨ga + 8, 0, none⟩) 1 1, .slice (some ⟨ga + 9, 0, none⟩) 2 2, .slice (some ⟨ga + 10, 0, none⟩) 2 2, .slice (some ⟨ga + 11, 0, none⟩) 2 2] : Array Value).getD j default) ∧ BusyB W ga 5 0 := ⟨_, rfl, (hB.setCell (p := ⟨ga + 7, 3, none⟩) (by show w8.heap.size ≤ ga + 7; omega) _).alloc (by simpa using hB.size) _, Blk.mk' (by simp) rfl, (bb.set5).below ((Below.refl _ _).alloc (Nat.le_refl _) _)⟩
  rw [hW]
  generalize w9.heap.size = B2 at *
  have hC := hC.trans (hWB.mono hC.size)
  have sat := sat.below hWB
  have K1 := K1.below hWB
  clear hW hWB hB hgt bb hf hc hl
  clear w9
  refine (busy_any _).mono ?_
  rintro e w10 ⟨gb, rfl, hgt, bb, hB⟩
  have hf := bb.b6.frozen 2
  have hc := bb.b6.cell (j := 2) (by decide)
  have hl := bb.b6.lt
  simp only [busyS, St.val]
  go_wp2_with fail
  obtain ⟨WZ, hW, hWB, K3, by_⟩ : ∃ W, (w10.setCell ⟨gb + 6, 2, none⟩ (.int .i64 3)).alloc (.cells #[.slice (some ⟨gb + 3, 0, none⟩) 3 3, .slice (some ⟨gb + 6, 0, none⟩) 2 2, .slice (some ⟨gb + 7, 0, none⟩) 3 3, .slice (some ⟨gb + 8, 0, none⟩) 1 1, .slice (some ⟨gb + 9, 0, none⟩) 2 2, .slice (some ⟨gb + 10, 0, none⟩) 2 2, .slice (some ⟨gb + 11, 0, none⟩) 2 2] 31) = W ∧ Below W2.heap.size W2 W ∧ Blk W w10.heap.size 31 7 (fun j => (#[.slice (some ⟨gb + 3, 0, none⟩) 3 3, .slice (some ⟨gb + 6, 0, none⟩) 2 2, .slice (some ⟨gb + 7, 0, none⟩) 3 3, .slice (some ⟨gb + 8, 0, none⟩) 1 1, .slice (some ⟨gb + 9, 0, none⟩) 2 2, .slice (some ⟨gb + 10, 0, none⟩) 2 2, .slice (some ⟨gb + 11, 0, none⟩) 2 2] : Array Value).getD j default) ∧ BusyB W gb 2 3 := ⟨_, rfl, (hB.setCell (p := ⟨gb + 6, 2, none⟩) (by show W2.heap.size ≤ gb + 6; omega) _).alloc (by simpa using hB.size) _, Blk.mk' (by simp) rfl, (bb.set3).below ((Below.refl _ _).alloc (Nat.le_refl _) _)⟩
  rw [hW]
  generalize w10.heap.size = B3 at *
  have hC := hC.trans (hWB.mono hC.size)
  have sat := sat.below hWB
  have K1 := K1.below hWB
  have K2 := K2.below hWB
  have bx := bx.below hWB
  clear hW hWB hB hgt bb hf hc hl
  clear w10
  have p0 : ∀ d os, (grow (redrawn WZ d) os).cell? ⟨B1, 0, none⟩ = some (.slice s.on.a s.on.n s.on.c) := fun d os => cell_regrown (K1.cell (j := 0) (by simp)) d os
  have p1 : ∀ d os, (grow (redrawn WZ d) os).cell? ⟨B1, 1, none⟩ = some (.slice s.os.a s.os.n s.os.c) := fun d os => cell_regrown (K1.cell (j := 1) (by simp)) d os
  have p2 : ∀ d os, (grow (redrawn WZ d) os).cell? ⟨B1, 2, none⟩ = some (.slice s.hs.a s.hs.n s.hs.c) := fun d os => cell_regrown (K1.cell (j := 2) (by simp)) d os
  have p3 : ∀ d os, (grow (redrawn WZ d) os).cell? ⟨B1, 3, none⟩ = some (.slice s.ms.a s.ms.n s.ms.c) := fun d os => cell_regrown (K1.cell (j := 3) (by simp)) d os
  have p4 : ∀ d os, (grow (redrawn WZ d) os).cell? ⟨B1, 4, none⟩ = some (.slice s.si.a s.si.n s.si.c) := fun d os => cell_regrown (K1.cell (j := 4) (by simp)) d os
  have p5 : ∀ d os, (grow (redrawn WZ d) os).cell? ⟨B1, 5, none⟩ = some (.slice s.so.a s.so.n s.so.c) := fun d os => cell_regrown (K1.cell (j := 5) (by simp)) d os
  have p6 : ∀ d os, (grow (redrawn WZ d) os).cell? ⟨B1, 6, none⟩ = some (.slice s.sf.a s.sf.n s.sf.c) := fun d os => cell_regrown (K1.cell (j := 6) (by simp)) d os
  have q0 : ∀ d os, (grow (redrawn WZ d) os).cell? ⟨B2, 0, none⟩ = some (.slice (some ⟨ga + 3, 0, none⟩) 3 3) := fun d os => cell_regrown (K2.cell (j := 0) (by simp)) d os
  have q1 : ∀ d os, (grow (redrawn WZ d) os).cell? ⟨B2, 1, none⟩ = some (.slice (some ⟨ga + 6, 0, none⟩) 2 2) := fun d os => cell_regrown (K2.cell (j := 1) (by simp)) d os
  have q2 : ∀ d os, (grow (redrawn WZ d) os).cell? ⟨B2, 2, none⟩ = some (.slice (some ⟨ga + 7, 0, none⟩) 3 3) := fun d os => cell_regrown (K2.cell (j := 2) (by simp)) d os
  have q3 : ∀ d os, (grow (redrawn WZ d) os).cell? ⟨B2, 3, none⟩ = some (.slice (some ⟨ga + 8, 0, none⟩) 1 1) := fun d os => cell_regrown (K2.cell (j := 3) (by simp)) d os
  have q4 : ∀ d os, (grow (redrawn WZ d) os).cell? ⟨B2, 4, none⟩ = some (.slice (some ⟨ga + 9, 0, none⟩) 2 2) := fun d os => cell_regrown (K2.cell (j := 4) (by simp)) d os
  have q5 : ∀ d os, (grow (redrawn WZ d) os).cell? ⟨B2, 5, none⟩ = some (.slice (some ⟨ga + 10, 0, none⟩) 2 2) := fun d os => cell_regrown (K2.cell (j := 5) (by simp)) d os
  have q6 : ∀ d os, (grow (redrawn WZ d) os).cell? ⟨B2, 6, none⟩ = some (.slice (some ⟨ga + 11, 0, none⟩) 2 2) := fun d os => cell_regrown (K2.cell (j := 6) (by simp)) d os
  have r0 : ∀ d os, (grow (redrawn WZ d) os).cell? ⟨B3, 0, none⟩ = some (.slice (some ⟨gb + 3, 0, none⟩) 3 3) := fun d os => cell_regrown (K3.cell (j := 0) (by simp)) d os
  have r1 : ∀ d os, (grow (redrawn WZ d) os).cell? ⟨B3, 1, none⟩ = some (.slice (some ⟨gb + 6, 0, none⟩) 2 2) := fun d os => cell_regrown (K3.cell (j := 1) (by simp)) d os
  have r2 : ∀ d os, (grow (redrawn WZ d) os).cell? ⟨B3, 2, none⟩ = some (.slice (some ⟨gb + 7, 0, none⟩) 3 3) := fun d os => cell_regrown (K3.cell (j := 2) (by simp)) d os
  have r3 : ∀ d os, (grow (redrawn WZ d) os).cell? ⟨B3, 3, none⟩ = some (.slice (some ⟨gb + 8, 0, none⟩) 1 1) := fun d os => cell_regrown (K3.cell (j := 3) (by simp)) d os
  have r4 : ∀ d os, (grow (redrawn WZ d) os).cell? ⟨B3, 4, none⟩ = some (.slice (some ⟨gb + 9, 0, none⟩) 2 2) := fun d os => cell_regrown (K3.cell (j := 4) (by simp)) d os
  have r5 : ∀ d os, (grow (redrawn WZ d) os).cell? ⟨B3, 5, none⟩ = some (.slice (some ⟨gb + 10, 0, none⟩) 2 2) := fun d os => cell_regrown (K3.cell (j := 5) (by simp)) d os
  have r6 : ∀ d os, (grow (redrawn WZ d) os).cell? ⟨B3, 6, none⟩ = some (.slice (some ⟨gb + 11, 0, none⟩) 2 2) := fun d os => cell_regrown (K3.cell (j := 6) (by simp)) d os
  have hX : Below WZ.heap.size WZ WZ.drew := (Below.refl _ _).drew
  clear K1 K2 K3
  refine wp_region_ordS (fun w' => ∃ p : Regrown, w' = grow (redrawn WZ p.d) p.os) ((List.range' 0 5).map (fun i => (false, i)) ++ [(true, 6), (false, 5)] ++ (List.range' 7 4).map (fun i => (false, i)) ++ [(true, 12), (false, 11)] ++ (List.range' 13 4).map (fun i => (false, i)) ++ [(true, 18), (false, 17)] ++ (List.range' 19 24).map (fun i => (false, i))) (by kernel_rfl) (by kernel_rfl) (by kernel_rfl) (by kernel_rfl) (regrown_of_below hX) ?_
  refine wpOrdS_one 0 (by decide) ?_
  simp only [List.drop_zero, List.take_succ_cons, List.take_zero]
  go_wp2_with fail
  refine (yard_any _).mono ?_
  rintro e wy ⟨g1, g2, rfl, -, -, k1, k2, hB⟩
  have hX := hX.trans (hB.mono hX.size)
  clear hB
  go_wp2_with fail
  refine ⟨regrown_of_below hX, ?_⟩
  refine wpOrdS_one 1 (by decide) ?_
  simp only [List.drop_succ_cons, List.drop_zero, List.take_succ_cons, List.take_zero]
  go_wp2_with fail
  refine (busy_any _).mono ?_
  rintro e wb ⟨gz, rfl, -, bz, hB⟩
  have k1 := k1.below hB
  have k2 := k2.below hB
  have hX := hX.trans (hB.mono hX.size)
  clear hB
  simp only [busyS, St.val]
  go_wp2_with fail
  refine ⟨regrown_of_below hX, ?_⟩
  refine wpOrdS_one 2 (by decide) ?_
  simp only [List.drop_succ_cons, List.drop_zero, List.take_succ_cons, List.take_zero]
  go_wp2_with fail
  refine (begunChk (s := busyS gz 2 0) (yardAt k1 k2) (busyAt bz) 0 ((busyE _ _ _).1)).mono ?_
  rintro e wc ⟨rfl, hB⟩
  have hX := hX.trans (hB.mono hX.size)
  clear hB k1 k2
  go_wp2_with fail
  refine ⟨regrown_of_below hX, ?_⟩
  refine wpOrdS_one 3 (by decide) ?_
  simp only [List.drop_succ_cons, List.drop_zero, List.take_succ_cons, List.take_zero]
  go_wp2_with fail
  refine ⟨regrown_of_below hX, ?_⟩
  refine wpOrdS_one 4 (by decide) ?_
  simp only [List.drop_succ_cons, List.drop_zero, List.take_succ_cons, List.take_zero]
  go_wp2_with fail
  refine ⟨regrown_of_below hX, ?_⟩
  refine wpOrdS_first 6 rfl rfl ?_
  go_big_quiet_step (fail)
  refine wpQuiet_nil ?_
  refine wpOrdS_one 5 (by decide) ?_
  simp only [List.drop_succ_cons, List.drop_zero, List.take_succ_cons, List.take_zero]
  go_wp2_with fail
  refine (yard_any _).mono ?_
  rintro e wy ⟨g1, g2, rfl, -, -, k1, k2, hB⟩
  have hX := hX.trans (hB.mono hX.size)
  clear hB
  go_wp2_with fail
  refine ⟨regrown_of_below hX, ?_⟩
  refine wpOrdS_one 7 (by decide) ?_
  simp only [List.drop_succ_cons, List.drop_zero, List.take_succ_cons, List.take_zero]
  go_wp2_with fail
  refine (begunChk (s := s) (yardAt k1 k2) (sat.below hX) 0 (begunOK sbe)).mono ?_
  rintro e wc ⟨rfl, hB⟩
  have hX := hX.trans (hB.mono hX.size)
  clear hB k1 k2
  go_wp2_with fail
  refine ⟨regrown_of_below hX, ?_⟩
  refine wpOrdS_one 8 (by decide) ?_
  simp only [List.drop_succ_cons, List.drop_zero, List.take_succ_cons, List.take_zero]
  go_wp2_with fail
  refine ⟨regrown_of_below hX, ?_⟩
  refine wpOrdS_one 9 (by decide) ?_
  simp only [List.drop_succ_cons, List.drop_zero, List.take_succ_cons, List.take_zero]
  go_wp2_with fail
  refine ⟨regrown_of_below hX, ?_⟩
  refine wpOrdS_one 10 (by decide) ?_
  simp only [List.drop_succ_cons, List.drop_zero, List.take_succ_cons, List.take_zero]
  go_wp2_with fail
  refine ⟨regrown_of_below hX, ?_⟩
  refine wpOrdS_first 12 rfl rfl ?_
  go_big_quiet_step (fail)
  refine wpQuiet_nil ?_
  refine wpOrdS_one 11 (by decide) ?_
  simp only [List.drop_succ_cons, List.drop_zero, List.take_succ_cons, List.take_zero]
  go_wp2_with fail
  refine (yard_any _).mono ?_
  rintro e wy ⟨g1, g2, rfl, -, -, k1, k2, hB⟩
  have hX := hX.trans (hB.mono hX.size)
  clear hB
  go_wp2_with fail
  refine ⟨regrown_of_below hX, ?_⟩
  refine wpOrdS_one 13 (by decide) ?_
  simp only [List.drop_succ_cons, List.drop_zero, List.take_succ_cons, List.take_zero]
  go_wp2_with fail
  refine (begunChk (s := busyS ga 5 0) (yardAt k1 k2) (busyAt (bx.below hX)) 7 ((busyE _ _ _).2.1)).mono ?_
  rintro e wc ⟨rfl, hB⟩
  have hX := hX.trans (hB.mono hX.size)
  clear hB k1 k2
  go_wp2_with fail
  refine ⟨regrown_of_below hX, ?_⟩
  refine wpOrdS_one 14 (by decide) ?_
  simp only [List.drop_succ_cons, List.drop_zero, List.take_succ_cons, List.take_zero]
  go_wp2_with fail
  refine ⟨regrown_of_below hX, ?_⟩
  refine wpOrdS_one 15 (by decide) ?_
  simp only [List.drop_succ_cons, List.drop_zero, List.take_succ_cons, List.take_zero]
  go_wp2_with fail
  refine ⟨regrown_of_below hX, ?_⟩
  refine wpOrdS_one 16 (by decide) ?_
  simp only [List.drop_succ_cons, List.drop_zero, List.take_succ_cons, List.take_zero]
  go_wp2_with fail
  refine ⟨regrown_of_below hX, ?_⟩
  refine wpOrdS_first 18 rfl rfl ?_
  go_big_quiet_step (fail)
  refine wpQuiet_nil ?_
  refine wpOrdS_one 17 (by decide) ?_
  simp only [List.drop_succ_cons, List.drop_zero, List.take_succ_cons, List.take_zero]
  go_wp2_with fail
  refine (yard_any _).mono ?_
  rintro e wy ⟨g1, g2, rfl, -, -, k1, k2, hB⟩
  have hX := hX.trans (hB.mono hX.size)
  clear hB
  go_wp2_with fail
  refine ⟨regrown_of_below hX, ?_⟩
  refine wpOrdS_one 19 (by decide) ?_
  simp only [List.drop_succ_cons, List.drop_zero, List.take_succ_cons, List.take_zero]
  go_wp2_with fail
  refine (begunChk (s := busyS gb 2 3) (yardAt k1 k2) (busyAt (by_.below hX)) 1 ((busyE _ _ _).2.2)).mono ?_
  rintro e wc ⟨rfl, hB⟩
  have hX := hX.trans (hB.mono hX.size)
  clear hB k1 k2
  go_wp2_with fail
  refine ⟨regrown_of_below hX, ?_⟩
  refine wpOrdS_one 20 (by decide) ?_
  simp only [List.drop_succ_cons, List.drop_zero, List.take_succ_cons, List.take_zero]
  go_wp2_with fail
  refine ⟨regrown_of_below hX, ?_⟩
  refine wpOrdS_one 21 (by decide) ?_
  simp only [List.drop_succ_cons, List.drop_zero, List.take_succ_cons, List.take_zero]
  go_wp2_with fail
  refine ⟨regrown_of_below hX, ?_⟩
  refine wpOrdS_one 22 (by decide) ?_
  simp only [List.drop_succ_cons, List.drop_zero, List.take_succ_cons, List.take_zero]
  go_wp2_with fail
  refine ⟨regrown_of_below hX, ?_⟩
  refine wpOrdS_one 23 (by decide) ?_
  simp only [List.drop_succ_cons, List.drop_zero, List.take_succ_cons, List.take_zero]
  go_wp2_with fail
  refine ⟨regrown_of_below hX, ?_⟩
  refine wpOrdS_one 24 (by decide) ?_
  simp only [List.drop_succ_cons, List.drop_zero, List.take_succ_cons, List.take_zero]
  go_wp2_with fail
  refine ⟨regrown_of_below hX, ?_⟩
  refine wpOrdS_one 25 (by decide) ?_
  simp only [List.drop_succ_cons, List.drop_zero, List.take_succ_cons, List.take_zero]
  go_wp2_with fail
  refine ⟨regrown_of_below hX, ?_⟩
  refine wpOrdS_one 26 (by decide) ?_
  simp only [List.drop_succ_cons, List.drop_zero, List.take_succ_cons, List.take_zero]
  go_wp2_with fail
  refine ⟨regrown_of_below hX, ?_⟩
  refine wpOrdS_one 27 (by decide) ?_
  simp only [List.drop_succ_cons, List.drop_zero, List.take_succ_cons, List.take_zero]
  go_wp2_with fail
  refine ⟨regrown_of_below hX, ?_⟩
  refine wpOrdS_one 28 (by decide) ?_
  simp only [List.drop_succ_cons, List.drop_zero, List.take_succ_cons, List.take_zero]
  go_wp2_with fail
  refine ⟨regrown_of_below hX, ?_⟩
  refine wpOrdS_one 29 (by decide) ?_
  simp only [List.drop_succ_cons, List.drop_zero, List.take_succ_cons, List.take_zero]
  go_wp2_with fail
  refine ⟨regrown_of_below hX, ?_⟩
  refine wpOrdS_one 30 (by decide) ?_
  simp only [List.drop_succ_cons, List.drop_zero, List.take_succ_cons, List.take_zero]
  go_wp2_with fail
  refine ⟨regrown_of_below hX, ?_⟩
  refine wpOrdS_one 31 (by decide) ?_
  simp only [List.drop_succ_cons, List.drop_zero, List.take_succ_cons, List.take_zero]
  go_wp2_with fail
  refine ⟨regrown_of_below hX, ?_⟩
  refine wpOrdS_one 32 (by decide) ?_
  simp only [List.drop_succ_cons, List.drop_zero, List.take_succ_cons, List.take_zero]
  go_wp2_with fail
  refine ⟨regrown_of_below hX, ?_⟩
  refine wpOrdS_one 33 (by decide) ?_
  simp only [List.drop_succ_cons, List.drop_zero, List.take_succ_cons, List.take_zero]
  go_wp2_with fail
  refine ⟨regrown_of_below hX, ?_⟩
  refine wpOrdS_one 34 (by decide) ?_
  simp only [List.drop_succ_cons, List.drop_zero, List.take_succ_cons, List.take_zero]
  go_wp2_with fail
  refine ⟨regrown_of_below hX, ?_⟩
  refine wpOrdS_one 35 (by decide) ?_
  simp only [List.drop_succ_cons, List.drop_zero, List.take_succ_cons, List.take_zero]
  go_wp2_with fail
  refine ⟨regrown_of_below hX, ?_⟩
  refine wpOrdS_one 36 (by decide) ?_
  simp only [List.drop_succ_cons, List.drop_zero, List.take_succ_cons, List.take_zero]
  go_wp2_with fail
  refine ⟨regrown_of_below hX, ?_⟩
  refine wpOrdS_one 37 (by decide) ?_
  simp only [List.drop_succ_cons, List.drop_zero, List.take_succ_cons, List.take_zero]
  go_wp2_with fail
  refine ⟨regrown_of_below hX, ?_⟩
  refine wpOrdS_one 38 (by decide) ?_
  simp only [List.drop_succ_cons, List.drop_zero, List.take_succ_cons, List.take_zero]
  go_wp2_with fail
  refine ⟨regrown_of_below hX, ?_⟩
  refine wpOrdS_one 39 (by decide) ?_
  simp only [List.drop_succ_cons, List.drop_zero, List.take_succ_cons, List.take_zero]
  go_wp2_with fail
  refine ⟨regrown_of_below hX, ?_⟩
  refine wpOrdS_one 40 (by decide) ?_
  simp only [List.drop_succ_cons, List.drop_zero, List.take_succ_cons, List.take_zero]
  go_wp2_with fail
  refine ⟨regrown_of_below hX, ?_⟩
  refine wpOrdS_one 41 (by decide) ?_
  simp only [List.drop_succ_cons, List.drop_zero, List.take_succ_cons, List.take_zero]
  go_wp2_with fail
  refine ⟨regrown_of_below hX, ?_⟩
  refine wpOrdS_one 42 (by decide) ?_
  simp only [List.drop_succ_cons, List.drop_zero, List.take_succ_cons, List.take_zero]
  go_wp2_with fail
  refine ⟨regrown_of_below hX, ?_⟩
  refine NoPanic.normal ?_
  go_wp2_with fail
  go_ret
  exact ⟨rfl, hC.trans (hX.mono hC.size)⟩

end Go.Proofs.Ytjiodlbblmbibac
/- recvBegun. -/
namespace Go.Proofs.Ytjiodlbblmbibac
open Go.RowKit Go.Shelf Go.Sort
set_option linter.unusedVariables false

theorem enterE_zero {p : Pl} {s : St} {l : Hs} (h : enterE p s l = 0) : stateE p s = 0 ∧ 1 ≤ l.n ∧ l.n ≤ 3 ∧ ¬ s.os.n = 4 ∧ anyB l.n (fun j => outL p (l.z j)) = false ∧ anyB l.n (fun j => begunL (l.z j)) = false := by
  by_cases h0 : stateE p s = 0
  · by_cases h1 : s.os.n = 4 ∨ ¬ (1 ≤ l.n ∧ l.n ≤ 3)
    · rw [enterE_many h0 h1] at h; exact absurd h (by decide)
    · cases h2 : anyB l.n (fun j => outL p (l.z j))
      · cases h3 : anyB l.n (fun j => begunL (l.z j))
        · exact ⟨h0, by omega, by omega, by omega, rfl, rfl⟩
        · rw [enterE_form h0 h1 (by rw [h2]; decide) h3] at h; exact absurd h (by decide)
      · rw [enterE_range h0 h1 h2] at h; exact absurd h (by decide)
  · rw [enterE_state h0] at h; exact absurd h h0
theorem enter_bound {p : Pl} {s : St} {l : Hs} (h : enterE p s l = 0) : (enterT s l).os.n ≤ 1000 ∧ (enterT s l).ms.n ≤ 1000 ∧ ∀ i, i < (enterT s l).os.n → ((enterT s l).os.z i).ls.n ≤ 1000 := by
  obtain ⟨h0, h1, h2, -⟩ := enterE_zero h
  have f := (rightT h0).fm
  have o4 := f.os4
  have m8 := f.ms8
  refine ⟨by show s.os.n + 1 ≤ 1000; omega, by show s.ms.n ≤ 1000; omega, fun i hi => ?_⟩
  have hi' : i < s.os.n + 1 := hi
  show (if i = s.os.n then (⟨0, l⟩ : Od) else s.os.z i).ls.n ≤ 1000
  by_cases hin : i = s.os.n
  · rw [if_pos hin]; show l.n ≤ 1000; omega
  · rw [if_neg hin]; have := f.lns i (by omega); omega

theorem recvBeg7 {w : World} {g1 g2 g : Nat} (hp : (yardP g1 g2).At w) (hs : BusyB w g 2 0) :
    Calls Try.prog 21 #[(yardP g1 g2).val, (busyS g 2 0).val, .int .i64 1, .int .i64 0, .int .i64 7] w fun e w' => ∃ s' : St, e = .returned (.tuple #[s'.val, .int .i64 0]) ∧ s'.At w' ∧ (s'.on.n = 3 ∧ (s'.on.r 1).n = 2 ∧ (s'.on.r 1).z 0 = 10 ∧ s'.si.n = 2 ∧ s'.si.z 0 = 20) ∧ Below w.heap.size w w' := by
  refine (Receive_any _ _ 1 0 7 w hp (busyAt hs)).mono ?_
  rintro e w' ⟨s', rfl, hat, hok, hB⟩
  have hE : recvE (yardP g1 g2) (busyS g 2 0) 1 0 7 = 0 := by rfl
  have h := hok.1 hE
  have n1 : s'.on.n = 3 := h.on.1
  have r1 := h.on.2 1 (by omega)
  have n2 : (s'.on.r 1).n = 2 := r1.1
  have z : (s'.on.r 1).z 0 = 10 := r1.2 0 (by omega)
  have n3 : s'.si.n = 2 := h.si.1
  have z2 : s'.si.z 0 = 20 := h.si.2 0 (by omega)
  rw [hE]
  exact ⟨s', rfl, hat, ⟨n1, n2, z, n3, z2⟩, hB⟩
theorem recvBeg8 {w : World} {g1 g2 g : Nat} (hp : (yardP g1 g2).At w) (hs : BusyB w g 2 0) :
    Calls Try.prog 21 #[(yardP g1 g2).val, (busyS g 2 0).val, .int .i64 1, .int .i64 0, .int .i64 8] w fun e w' => ∃ s' : St, e = .returned (.tuple #[s'.val, .int .i64 5]) ∧ Below w.heap.size w w' := by
  refine (Receive_any _ _ 1 0 8 w hp (busyAt hs)).mono ?_
  rintro e w' ⟨s', rfl, hat, hok, hB⟩
  rw [show recvE (yardP g1 g2) (busyS g 2 0) 1 0 8 = 5 by rfl]
  exact ⟨s', rfl, hB⟩
theorem entBeg1 {w : World} {g1 g2 g G : Nat} (hp : (yardP g1 g2).At w) (hs : BusyB w g 2 0) (hl : Hs.At w ⟨some ⟨G, 0, none⟩, 1, 1, fun _ => ⟨1, 2, 0, 0⟩⟩) :
    Calls Try.prog 24 #[(yardP g1 g2).val, (busyS g 2 0).val, .slice (some ⟨G, 0, none⟩) 1 1] w fun e w' => ∃ s' : St, e = .returned (.tuple #[s'.val, .int .i64 0]) ∧ s'.At w' ∧ (s'.os.n = 3 ∧ (s'.os.z 2).ls.n = 1 ∧ ((s'.os.z 2).ls.z 0).l = 2) ∧ Below w.heap.size w w' := by
  refine (Enter_any _ _ ⟨some ⟨G, 0, none⟩, 1, 1, fun _ => ⟨1, 2, 0, 0⟩⟩ w hp (busyAt hs) hl).mono ?_
  rintro e w' ⟨s', rfl, hat, hok, hB⟩
  have hE : enterE (yardP g1 g2) (busyS g 2 0) ⟨some ⟨G, 0, none⟩, 1, 1, fun _ => ⟨1, 2, 0, 0⟩⟩ = 0 := by rfl
  have h := hok.1 hE
  have n1 : s'.os.n = 3 := h.os.1
  have r1 := h.os.2 2 (by omega)
  have n2 : (s'.os.z 2).ls.n = 1 := r1.2.1
  have z : (s'.os.z 2).ls.z 0 = ⟨1, 2, 0, 0⟩ := r1.2.2 0 (by omega)
  rw [hE]
  exact ⟨s', rfl, hat, ⟨n1, n2, by rw [z]⟩, hB⟩
theorem entBeg2 {w : World} {g1 g2 g G : Nat} (hp : (yardP g1 g2).At w) (hs : BusyB w g 2 0) (hl : Hs.At w ⟨some ⟨G, 0, none⟩, 1, 1, fun _ => ⟨2, 2, 0, 0⟩⟩) :
    Calls Try.prog 24 #[(yardP g1 g2).val, (busyS g 2 0).val, .slice (some ⟨G, 0, none⟩) 1 1] w fun e w' => ∃ s' : St, e = .returned (.tuple #[s'.val, .int .i64 3]) ∧ Below w.heap.size w w' := by
  refine (Enter_any _ _ ⟨some ⟨G, 0, none⟩, 1, 1, fun _ => ⟨2, 2, 0, 0⟩⟩ w hp (busyAt hs) hl).mono ?_
  rintro e w' ⟨s', rfl, hat, hok, hB⟩
  rw [show enterE (yardP g1 g2) (busyS g 2 0) ⟨some ⟨G, 0, none⟩, 1, 1, fun _ => ⟨2, 2, 0, 0⟩⟩ = 3 by rfl]
  exact ⟨s', rfl, hB⟩

set_option maxRecDepth 100000 in
set_option maxHeartbeats 8000000 in
theorem recvBegun_any (w : World) :
    Calls Try.prog 23 #[] w fun e w' => e = .returned (.bool true) ∧ Below w.heap.size w w' := by
  go_enter Try.func23, Try.ntmps23
  go_wp2_with fail
  refine (yard_any _).mono ?_
  rintro e w1 ⟨g1, g2, rfl, -, -, k1, k2, hA⟩
  go_wp2_with fail
  refine (busy_any _).mono ?_
  rintro e w2 ⟨g, rfl, -, bb, hB⟩
  have k1 := k1.below hB
  have k2 := k2.below hB
  have hC := hA.trans (hB.mono hA.size)
  clear hA hB
  simp only [busyS, St.val]
  go_wp2_with fail
  refine (recvBeg7 (yardAt k1 k2) bb).mono ?_
  rintro e w3 ⟨x, rfl, xat, xf, hB⟩
  have hC := hC.trans (hB.mono hC.size)
  clear hB k1 k2 bb
  have HXF : Hid (x.on.n = 3 ∧ (x.on.r 1).n = 2 ∧ (x.on.r 1).z 0 = 10 ∧ x.si.n = 2 ∧ x.si.z 0 = 20) := xf
  clear xf
  simp only [St.val]
  go_wp2_with fail
  obtain ⟨W3, hW, hWB, K1⟩ : ∃ W, w3.alloc (.cells #[.slice x.on.a x.on.n x.on.c, .slice x.os.a x.os.n x.os.c, .slice x.hs.a x.hs.n x.hs.c, .slice x.ms.a x.ms.n x.ms.c, .slice x.si.a x.si.n x.si.c, .slice x.so.a x.so.n x.so.c, .slice x.sf.a x.sf.n x.sf.c] 31) = W ∧ Below w3.heap.size w3 W ∧ Blk W w3.heap.size 31 7 (fun j => x.cells.getD j default) := ⟨_, rfl, (Below.refl _ _).alloc (Nat.le_refl _) _, Blk.mk' rfl rfl⟩
  rw [hW]
  have xat := xat.below hWB
  have hC := hC.trans (hWB.mono hC.size)
  clear hW hWB
  generalize w3.heap.size = B1 at *
  refine (yard_any _).mono ?_
  rintro e w4 ⟨g1, g2, rfl, -, -, k1, k2, hA⟩
  go_wp2_with fail
  refine (busy_any _).mono ?_
  rintro e w5 ⟨g, rfl, -, bb, hB⟩
  have k1 := k1.below hB
  have k2 := k2.below hB
  have hD := hA.trans (hB.mono hA.size)
  clear hA hB
  simp only [busyS, St.val]
  go_wp2_with fail
  refine (recvBeg8 (yardAt k1 k2) bb).mono ?_
  rintro e w6 ⟨y, rfl, hB⟩
  have hD := hD.trans (hB.mono hD.size)
  have hC := hC.trans (hD.mono hC.size)
  have xat := xat.below hD
  have K1 := K1.below hD
  clear hD hB k1 k2 bb
  simp only [St.val]
  go_wp2_with fail
  obtain ⟨W6, hW, hWB⟩ : ∃ W, w6.alloc (.cells #[.slice y.on.a y.on.n y.on.c, .slice y.os.a y.os.n y.os.c, .slice y.hs.a y.hs.n y.hs.c, .slice y.ms.a y.ms.n y.ms.c, .slice y.si.a y.si.n y.si.c, .slice y.so.a y.so.n y.so.c, .slice y.sf.a y.sf.n y.sf.c] 31) = W ∧ Below w6.heap.size w6 W := ⟨_, rfl, (Below.refl _ _).alloc (Nat.le_refl _) _⟩
  rw [hW]
  have hC := hC.trans (hWB.mono hC.size)
  have xat := xat.below hWB
  have K1 := K1.below hWB
  clear hW hWB
  generalize w6.heap.size = B2 at *
  refine (yard_any _).mono ?_
  rintro e w7 ⟨g1, g2, rfl, -, -, k1, k2, hA⟩
  go_wp2_with fail
  refine (busy_any _).mono ?_
  rintro e w8 ⟨g, rfl, -, bb, hB⟩
  have k1 := k1.below hB
  have k2 := k2.below hB
  have hD := hA.trans (hB.mono hA.size)
  clear hA hB
  simp only [busyS, St.val]
  go_wp2_with fail
  obtain ⟨W8, hW, hWB, L8⟩ : ∃ W, w8.alloc (.cells #[.int .i64 1, .int .i64 2, .int .i64 0, .int .i64 0] 53) = W ∧ Below w8.heap.size w8 W ∧ Hs.At W ⟨some ⟨w8.heap.size, 0, none⟩, 1, 1, fun _ => ⟨1, 2, 0, 0⟩⟩ := ⟨_, rfl, (Below.refl _ _).alloc (Nat.le_refl _) _, Hs.one (Blk.mk' rfl rfl)⟩
  rw [hW]
  have k1 := k1.below hWB
  have k2 := k2.below hWB
  have bb := bb.below hWB
  have hD := hD.trans (hWB.mono hD.size)
  clear hW hWB
  refine (entBeg1 (yardAt k1 k2) bb L8).mono ?_
  rintro e w9 ⟨z, rfl, zat, zf, hB⟩
  have HZF : Hid (z.os.n = 3 ∧ (z.os.z 2).ls.n = 1 ∧ ((z.os.z 2).ls.z 0).l = 2) := zf
  have hD := hD.trans (hB.mono hD.size)
  have hC := hC.trans (hD.mono hC.size)
  have xat := xat.below hD
  have K1 := K1.below hD
  clear hD hB k1 k2 bb L8 zf
  simp only [St.val]
  go_wp2_with fail
  obtain ⟨W9, hW, hWB, K2⟩ : ∃ W, w9.alloc (.cells #[.slice z.on.a z.on.n z.on.c, .slice z.os.a z.os.n z.os.c, .slice z.hs.a z.hs.n z.hs.c, .slice z.ms.a z.ms.n z.ms.c, .slice z.si.a z.si.n z.si.c, .slice z.so.a z.so.n z.so.c, .slice z.sf.a z.sf.n z.sf.c] 31) = W ∧ Below w9.heap.size w9 W ∧ Blk W w9.heap.size 31 7 (fun j => z.cells.getD j default) := ⟨_, rfl, (Below.refl _ _).alloc (Nat.le_refl _) _, Blk.mk' rfl rfl⟩
  rw [hW]
  have hC := hC.trans (hWB.mono hC.size)
  have xat := xat.below hWB
  have zat := zat.below hWB
  have K1 := K1.below hWB
  clear hW hWB
  generalize w9.heap.size = B3 at *
  refine (yard_any _).mono ?_
  rintro e wa ⟨g1, g2, rfl, -, -, k1, k2, hA⟩
  go_wp2_with fail
  refine (busy_any _).mono ?_
  rintro e wb ⟨g, rfl, -, bb, hB⟩
  have k1 := k1.below hB
  have k2 := k2.below hB
  have hD := hA.trans (hB.mono hA.size)
  clear hA hB
  simp only [busyS, St.val]
  go_wp2_with fail
  obtain ⟨Wb, hW, hWB, L8⟩ : ∃ W, wb.alloc (.cells #[.int .i64 2, .int .i64 2, .int .i64 0, .int .i64 0] 53) = W ∧ Below wb.heap.size wb W ∧ Hs.At W ⟨some ⟨wb.heap.size, 0, none⟩, 1, 1, fun _ => ⟨2, 2, 0, 0⟩⟩ := ⟨_, rfl, (Below.refl _ _).alloc (Nat.le_refl _) _, Hs.one (Blk.mk' rfl rfl)⟩
  rw [hW]
  have k1 := k1.below hWB
  have k2 := k2.below hWB
  have bb := bb.below hWB
  have hD := hD.trans (hWB.mono hD.size)
  clear hW hWB
  refine (entBeg2 (yardAt k1 k2) bb L8).mono ?_
  rintro e wc ⟨y2, rfl, hB⟩
  have hD := hD.trans (hB.mono hD.size)
  have hC := hC.trans (hD.mono hC.size)
  have xat := xat.below hD
  have zat := zat.below hD
  have K1 := K1.below hD
  have K2 := K2.below hD
  clear hD hB k1 k2 bb L8
  obtain ⟨Wc, hW, hWB⟩ : ∃ W, wc.alloc (.cells #[.slice y2.on.a y2.on.n y2.on.c, .slice y2.os.a y2.os.n y2.os.c, .slice y2.hs.a y2.hs.n y2.hs.c, .slice y2.ms.a y2.ms.n y2.ms.c, .slice y2.si.a y2.si.n y2.si.c, .slice y2.so.a y2.so.n y2.so.c, .slice y2.sf.a y2.sf.n y2.sf.c] 31) = W ∧ Below wc.heap.size wc W := ⟨_, rfl, (Below.refl _ _).alloc (Nat.le_refl _) _⟩
  have HW : Hid (wc.alloc (.cells #[.slice y2.on.a y2.on.n y2.on.c, .slice y2.os.a y2.os.n y2.os.c, .slice y2.hs.a y2.hs.n y2.hs.c, .slice y2.ms.a y2.ms.n y2.ms.c, .slice y2.si.a y2.si.n y2.si.c, .slice y2.so.a y2.so.n y2.so.c, .slice y2.sf.a y2.sf.n y2.sf.c] 31) = Wc) := hW
  have hC := hC.trans (hWB.mono hC.size)
  have xat := xat.below hWB
  have zat := zat.below hWB
  have K1 := K1.below hWB
  have K2 := K2.below hWB
  have HCC : Hid (Below w.heap.size w Wc) := hC
  obtain ⟨b1, o1, ha1, hb1, t1, hr1⟩ := xat.on.rows 1 (by rw [HXF.out.1]; decide)
  obtain ⟨b2, o2, ha2, hb2, t2⟩ := hr1.ints 0 (by rw [HXF.out.2.1]; decide)
  obtain ⟨b3, o3, ha3, hb3, t3⟩ := xat.si.ints 0 (by rw [HXF.out.2.2.2.1]; decide)
  obtain ⟨b4, o4, ha4, hb4, t4, t5, hl4⟩ := zat.os.ods 2 (by rw [HZF.out.1]; decide)
  obtain ⟨b5, o5, ha5, hb5, t6, t7, t8, t9⟩ := hl4.hds 0 (by rw [HZF.out.2.1]; decide)
  have s0 : Wc.cell? ⟨B1, 0, none⟩ = some (.slice x.on.a x.on.n x.on.c) := K1.cell (j := 0) (by decide)
  have s4 : Wc.cell? ⟨B1, 4, none⟩ = some (.slice x.si.a x.si.n x.si.c) := K1.cell (j := 4) (by decide)
  have s1 : Wc.cell? ⟨B3, 1, none⟩ = some (.slice z.os.a z.os.n z.os.c) := K2.cell (j := 1) (by decide)
  have m1 := K1.lt
  have m2 := K2.lt
  have v1 := xat.on.le
  have v2 := xat.on.cap
  have v3 := hr1.le
  have v4 := hr1.cap
  have v5 := xat.si.le
  have v6 := xat.si.cap
  have v7 := zat.os.le
  have v8 := zat.os.cap
  have v9 := hl4.le
  have v10 := hl4.cap
  rw [ha1, HXF.out.1] at s0
  rw [ha3, HXF.out.2.2.2.1] at s4
  rw [ha4, HZF.out.1] at s1
  rw [ha2, HXF.out.2.1] at t1
  rw [HXF.out.2.2.1] at t2
  rw [HXF.out.2.2.2.2] at t3
  rw [ha5, HZF.out.2.1] at t5
  rw [HZF.out.2.2] at t7
  rw [HXF.out.1] at v1
  rw [HXF.out.2.1] at v3
  rw [HXF.out.2.2.2.1] at v5
  rw [HZF.out.1] at v7
  rw [HZF.out.2.1] at v9
  unfold maxLen at v2 v4 v6 v8 v10
  simp only [Nat.add_zero, Nat.zero_mul] at t2 t3 t7
  have t5a : Wc.cell? ⟨b4, o4 + 4 + 1, none⟩ = _ := t5
  have t5b : Wc.cell? ⟨b4, o4 + 5, none⟩ = _ := t5
  clear hW xat zat K1 K2 hr1 hl4 ha1 ha2 ha3 ha4 ha5 HXF HZF hWB hC
  simp only [St.val]
  have m1e := m1
  rw [← HW.out] at m1 m2 s0 s1 s4 t1 t2 t3 t5 t5a t5b t7 hb1 hb2 hb3 hb4 hb5
  go_wp2_with fail
  go_ret
  rw [HW.out]
  exact ⟨by simp, HCC.out⟩

end Go.Proofs.Ytjiodlbblmbibac
/- What two acts answer that are the same. No walk. -/
namespace Go.Proofs.Ytjiodlbblmbibac
open Go.RowKit Go.Shelf Go.Sort
set_option linter.unusedVariables false

theorem recvE_zero {p : Pl} {s : St} {bin good n : Int} (h : recvE p s bin good n = 0) : stateE p s = 0 := by
  apply Classical.byContradiction
  intro h0
  rw [recvE_state h0] at h
  exact h0 h
theorem none_same2 {s t : St} (a : NoneS s) (b : NoneS t) : SameT s t := by
  obtain ⟨a1, a2, a3, a4, a5, a6, a7⟩ := a
  obtain ⟨b1, b2, b3, b4, b5, b6, b7⟩ := b
  exact ⟨⟨by omega, fun i hi => absurd hi (by omega)⟩, ⟨by omega, fun i hi => absurd hi (by omega)⟩, ⟨by omega, fun j hj => absurd hj (by omega)⟩, ⟨by omega, fun j hj => absurd hj (by omega)⟩, ⟨by omega, fun j hj => absurd hj (by omega)⟩, ⟨by omega, fun j hj => absurd hj (by omega)⟩, ⟨by omega, fun j hj => absurd hj (by omega)⟩⟩
theorem ActOK.same {E : Int} {t x y : St} (a : ActOK E t x) (b : ActOK E t y) : SameT x y := by
  by_cases h : E = 0
  · exact (a.1 h).trans (b.1 h).symm
  · exact none_same2 (a.2 h) (b.2 h)

/-- What an act answers is not too long to be compared. -/
theorem ActOK.bound {E : Int} {p : Pl} {s t x : St} (h : ActOK E t x) (f : E = 0 → t.os.n ≤ 1000 ∧ t.ms.n ≤ 1000 ∧ ∀ i, i < t.os.n → (t.os.z i).ls.n ≤ 1000) : x.os.n ≤ 1000 ∧ x.ms.n ≤ 1000 ∧ ∀ i, i < x.os.n → (x.os.z i).ls.n ≤ 1000 := by
  by_cases hE : E = 0
  · obtain ⟨f1, f2, f3⟩ := f hE
    have a := h.1 hE
    have e1 : x.os.n = t.os.n := a.os.1
    have e2 : x.ms.n = t.ms.n := a.ms.1
    refine ⟨by omega, by omega, fun i hi => ?_⟩
    have e3 : (x.os.z i).ls.n = (t.os.z i).ls.n := (a.os.2 i hi).2.1
    have := f3 i (by omega)
    omega
  · obtain ⟨a1, a2, a3, a4, a5, a6, a7⟩ := h.2 hE
    exact ⟨by omega, by omega, fun i hi => absurd hi (by omega)⟩

end Go.Proofs.Ytjiodlbblmbibac
/- RecvEnters: the walk. -/
namespace Go.Proofs.Ytjiodlbblmbibac
open Go.RowKit Go.Shelf Go.Sort
set_option linter.unusedVariables false

set_option maxRecDepth 100000 in
set_option maxHeartbeats 8000000 in
theorem RecvEnters_walk (p : Pl) (s : St) (l : Hs) (w : World) (hp : p.At w) (hs : s.At w) (hl : l.At w) :
    Calls Try.prog 8 #[p.val, s.val, l.val] w fun e w' => e = .returned (.bool true) ∧ Below w.heap.size w w' := by
  obtain ⟨W0, hW, hWB, X0⟩ : ∃ W, ((w.alloc (.cells #[.slice p.ab p.nb p.cb, .slice p.sa p.ns p.cs] 25)).alloc (.cells s.cells 31)) = W ∧ Below w.heap.size w W ∧ Boxes W w.heap.size (w.heap.size + 1) p s := ⟨_, rfl, two_below _ _ _, boxes_new w p s _ _⟩
  have HC : Hid (∀ wk, Below W0.heap.size W0 wk → Boxes wk w.heap.size (w.heap.size + 1) p s ∧ p.At wk ∧ s.At wk ∧ Below w.heap.size w wk ∧ l.At wk) := fun wk h => ⟨X0.below h, (hp.below hWB).below h, (hs.below hWB).below h, hWB.trans (h.mono hWB.size), (hl.below hWB).below h⟩
  have HW : Hid ((w.alloc (.cells #[.slice p.ab p.nb p.cb, .slice p.sa p.ns p.cs] 25)).alloc (.cells #[.slice s.on.a s.on.n s.on.c, .slice s.os.a s.os.n s.os.c, .slice s.hs.a s.hs.n s.hs.c, .slice s.ms.a s.ms.n s.ms.c, .slice s.si.a s.si.n s.si.c, .slice s.so.a s.so.n s.so.c, .slice s.sf.a s.sf.n s.sf.c] 31) = W0) := hW
  clear hW X0 hp hs hl
  unfold Pl.val St.val Hs.val
  go_enter Try.func8, Try.ntmps8
  go_wp2_with fail
  rw [HW.out]
  obtain ⟨X, hpk, hsk, hBw, hlk⟩ := HC.out W0 (Below.refl _ _)
  refine (Enter_any p s l W0 hpk hsk hlk).mono ?_
  rintro e w1 ⟨x, rfl, xat, xok, hB⟩
  clear X hpk hsk hBw hlk HW
  obtain ⟨⟨⟨l1, d0, d1⟩, l2, c0, c1, c2, c3, c4, c5, c6⟩, hpk, hsk, hBw, hlk⟩ := HC.out w1 hB
  obtain ⟨W2, hW, hWB2, K1⟩ : ∃ W, w1.alloc (.cells #[.slice x.on.a x.on.n x.on.c, .slice x.os.a x.os.n x.os.c, .slice x.hs.a x.hs.n x.hs.c, .slice x.ms.a x.ms.n x.ms.c, .slice x.si.a x.si.n x.si.c, .slice x.so.a x.so.n x.so.c, .slice x.sf.a x.sf.n x.sf.c] 31) = W ∧ Below w1.heap.size w1 W ∧ Blk W w1.heap.size 31 7 (fun j => x.cells.getD j default) := ⟨_, rfl, (Below.refl _ _).alloc (Nat.le_refl _) _, Blk.mk' rfl rfl⟩
  have HW : Hid (w1.alloc (.cells #[.slice x.on.a x.on.n x.on.c, .slice x.os.a x.os.n x.os.c, .slice x.hs.a x.hs.n x.hs.c, .slice x.ms.a x.ms.n x.ms.c, .slice x.si.a x.si.n x.si.c, .slice x.so.a x.so.n x.so.c, .slice x.sf.a x.sf.n x.sf.c] 31) = W2) := hW
  have HSM : Hid (∀ y, ActOK (enterE p s l) (enterT s l) y → SameT x y) := fun y h => ActOK.same xok h
  have HBD : Hid (x.os.n ≤ 1000 ∧ x.ms.n ≤ 1000 ∧ ∀ i, i < x.os.n → (x.os.z i).ls.n ≤ 1000) := ActOK.bound (p := p) (s := s) xok (fun h => enter_bound h)
  have xat := xat.below hWB2
  have hB2 := hB.trans (hWB2.mono hB.size)
  simp only [St.val]
  clear hW hlk
  go_wp2_with fail
  rw [HW.out]
  clear l1 d0 d1 l2 c0 c1 c2 c3 c4 c5 c6 hpk hsk hBw HW hWB2 hB xok
  generalize w1.heap.size = B1 at *
  obtain ⟨X, hpk, hsk, hBw, hlk⟩ := HC.out W2 hB2
  refine (EnterOf_any p s l W2 hpk hsk hlk).mono ?_
  rintro e w3 ⟨y, rfl, yat, yok, hB3⟩
  have xat := xat.below hB3
  have K1 := K1.below hB3
  have hB3 := hB2.trans (hB3.mono hB2.size)
  clear X hpk hsk hBw hlk hB2
  obtain ⟨W4, hW, hWB4, K2⟩ : ∃ W, w3.alloc (.cells #[.slice y.on.a y.on.n y.on.c, .slice y.os.a y.os.n y.os.c, .slice y.hs.a y.hs.n y.hs.c, .slice y.ms.a y.ms.n y.ms.c, .slice y.si.a y.si.n y.si.c, .slice y.so.a y.so.n y.so.c, .slice y.sf.a y.sf.n y.sf.c] 31) = W ∧ Below w3.heap.size w3 W ∧ Blk W w3.heap.size 31 7 (fun j => y.cells.getD j default) := ⟨_, rfl, (Below.refl _ _).alloc (Nat.le_refl _) _, Blk.mk' rfl rfl⟩
  have HW : Hid (w3.alloc (.cells #[.slice y.on.a y.on.n y.on.c, .slice y.os.a y.os.n y.os.c, .slice y.hs.a y.hs.n y.hs.c, .slice y.ms.a y.ms.n y.ms.c, .slice y.si.a y.si.n y.si.c, .slice y.so.a y.so.n y.so.c, .slice y.sf.a y.sf.n y.sf.c] 31) = W4) := hW
  have HS : Hid (SameT x y) := HSM.out y yok
  have xat := xat.below hWB4
  have yat := yat.below hWB4
  have K1 := K1.below hWB4
  have hB4 := hB3.trans (hWB4.mono hB3.size)
  simp only [St.val]
  clear hW
  go_wp2_with fail
  rw [HW.out]
  clear HW hWB4 hB3 yok
  generalize w3.heap.size = B2 at *
  refine (recvBegun_any W4).mono ?_
  rintro e w5 ⟨rfl, hB5⟩
  have xat := xat.below hB5
  have yat := yat.below hB5
  have K1 := K1.below hB5
  have K2 := K2.below hB5
  have hB5 := hB4.trans (hB5.mono hB4.size)
  clear hB4
  obtain ⟨m1, p0, p1, p2, p3, p4, p5, p6⟩ := Boxed.of K1
  obtain ⟨m2, t0, t1, t2, t3, t4, t5, t6⟩ := Boxed.of K2
  clear K1 K2
  have HXY : Hid (x.At w5 ∧ y.At w5) := ⟨xat, yat⟩
  clear xat yat
  go_wp2_with fail
  refine (SameStates_yes x y w5 HXY.out.1 HXY.out.2 HS.out HBD.out.1 HBD.out.2.1 HBD.out.2.2).mono ?_
  rintro e w6 ⟨rfl, hB6⟩
  have hB6 := hB5.trans (hB6.mono hB5.size)
  clear m1 p0 p1 p2 p3 p4 p5 p6 m2 t0 t1 t2 t3 t4 t5 t6
  go_wp2_with fail
  go_ret
  exact ⟨by simp, (HC.out w6 hB6).2.2.2.1⟩

end Go.Proofs.Ytjiodlbblmbibac
/- Arguments, opened: plans, shelves. -/
namespace Go.Proofs.Ytjiodlbblmbibac
open Go.ChangeShapes Go.WideShapes Go.ChangeAt Go.RowKit Go.Joins Go.Deep
set_option linter.unusedVariables false
set_option maxRecDepth 100000

theorem own : ownKnob Try.prog.godebug = none := by kernel_rfl
theorem laidOut : laidOutB Try.prog = true := by kernel_rfl
theorem cellsInt : Try.prog.cellsOf 3 = 1 := by kernel_rfl
theorem cellsInts : Try.prog.cellsOf 23 = 1 := by kernel_rfl
theorem cellsBin : Try.prog.cellsOf 42 = 4 := by kernel_rfl
theorem cellsPlan : Try.prog.cellsOf 25 = 2 := by kernel_rfl

theorem cellsBool : Try.prog.cellsOf 4 = 1 := by kernel_rfl
theorem cellsBins : Try.prog.cellsOf 22 = 1 := by kernel_rfl

section
variable {H : Type} {enc : TypeId × Value → H} {w : World} {held : Bool} {spare : Nat → Bool}

theorem addrOf {a : Addr} {i : Nat} {v : Value} (h : w.cell? (a.add i) = some v) (h0 : ∃ v0, w.cell? a = some v0) : ∃ b o, a = ⟨b, o, none⟩ ∧ b < w.heap.size ∧ w.cell? ⟨b, o + i, none⟩ = some v := by
  obtain ⟨b, off, spot⟩ := a
  obtain ⟨v0, h0⟩ := h0
  have hspot : spot = none := World.cell?_spot h0
  subst hspot
  refine ⟨b, off, rfl, World.block_lt_of_cell? w _ h0, ?_⟩
  rw [← Go.WideShapes.add_plain]
  exact h

theorem readInts {fuel : Nat} {cs : List Value} {x : DataW H × List MemPlace} (h : DataW.trod enc Try.prog w 0 spare held fuel 23 cs = some x) : ∃ r : Rw, cs = [r.val] ∧ r.At w := by
  rcases open_slice1 Try.underlying23 cellsInt h with ⟨rfl, _⟩ | ⟨a, len, cap, m, n, V, D, Pl, rfl, hb, hl, hm, hmm, _, hx⟩
  · exact ⟨⟨none, 0, 0, fun _ => 0⟩, rfl, Nat.le_refl _, Nat.zero_le _, fun i hi => absurd hi (Nat.not_lt_zero _)⟩
  · have hlm : len ≤ m := by rw [hmm]; split <;> omega
    obtain ⟨z, hz⟩ := choose_lt (α := Int) (n := len) (p := fun i y => V i = .int .i64 y) (fun i hi => by
      obtain ⟨y, hy, _⟩ := DataW.trod_int Try.underlying3 (hx i (by omega)).2
      simp only [List.cons.injEq, and_true] at hy
      exact ⟨y, hy⟩)
    refine ⟨⟨some a, len, cap, z⟩, rfl, hl, hm, fun i hi => ?_⟩
    have hi' : i < len := hi
    have h0 : ∃ v0, w.cell? a = some v0 := ⟨_, by have := (hx 0 (by omega)).1; simpa [Addr.add] using this⟩
    obtain ⟨b, o, rfl, hb', hc⟩ := addrOf (hx i (by omega)).1 h0
    exact ⟨b, o, rfl, hb', by rw [hc, hz i hi']⟩

theorem readRows {fuel : Nat} {cs : List Value} {x : DataW H × List MemPlace} (h : DataW.trod enc Try.prog w 0 spare held fuel 26 cs = some x) : ∃ s : Sh, cs = [s.val] ∧ s.At w := by
  rcases open_slice1 Try.underlying26 cellsInts h with ⟨rfl, _⟩ | ⟨a, len, cap, m, n, V, D, Pl, rfl, hb, hl, hm, hmm, _, hx⟩
  · exact ⟨⟨none, 0, 0, fun _ => ⟨none, 0, 0, fun _ => 0⟩⟩, rfl, Nat.le_refl _, Nat.zero_le _, fun i hi => absurd hi (Nat.not_lt_zero _)⟩
  · have hlm : len ≤ m := by rw [hmm]; split <;> omega
    haveI : Inhabited Rw := ⟨⟨none, 0, 0, fun _ => 0⟩⟩
    obtain ⟨z, hz⟩ := choose_lt (α := Rw) (n := len) (p := fun i y => V i = y.val ∧ y.At w) (fun i hi => by
      obtain ⟨y, hy, hat⟩ := readInts (hx i (by omega)).2
      simp only [List.cons.injEq, and_true] at hy
      exact ⟨y, hy, hat⟩)
    refine ⟨⟨some a, len, cap, z⟩, rfl, hl, hm, fun i hi => ?_⟩
    have hi' : i < len := hi
    have h0 : ∃ v0, w.cell? a = some v0 := ⟨_, by have := (hx 0 (by omega)).1; simpa [Addr.add] using this⟩
    obtain ⟨b, o, rfl, hb', hc⟩ := addrOf (hx i (by omega)).1 h0
    exact ⟨b, o, rfl, hb', by rw [hc, (hz i hi').1]; rfl, (hz i hi').2⟩

theorem readBin {fuel : Nat} {c0 c1 c2 c3 : Value} {x : DataW H × List MemPlace} (h : DataW.trod enc Try.prog w 0 spare held fuel 42 [c0, c1, c2, c3] = some x) : ∃ y : Bin, c0 = .bool y.front ∧ c1 = .int .i64 y.room ∧ c2 = .int .i64 y.low ∧ c3 = .int .i64 y.high := by
  obtain ⟨y0, y1, y2, y3, n, hx, hl, h0, h1, h2, h3⟩ := trod_struct4 Try.underlying42 h
  simp only [cellsBool, cellsInt, List.drop_succ_cons, List.drop_zero, List.take_succ_cons, List.take_zero] at h0 h1 h2 h3
  obtain ⟨b, e0, _⟩ := DataW.trod_bool Try.underlying4 h0
  obtain ⟨n1, e1, _⟩ := DataW.trod_int Try.underlying3 h1
  obtain ⟨n2, e2, _⟩ := DataW.trod_int Try.underlying3 h2
  obtain ⟨n3, e3, _⟩ := DataW.trod_int Try.underlying3 h3
  simp only [List.cons.injEq, and_true] at e0 e1 e2 e3
  exact ⟨⟨b, n1, n2, n3⟩, e0, e1, e2, e3⟩

theorem cells4 {base : Nat} {a : Addr} {cs : List Value} (h : w.cells? base a 4 = some cs) : ∃ c0 c1 c2 c3, cs = [c0, c1, c2, c3] ∧ w.cell? a = some c0 ∧ w.cell? (a.add 1) = some c1 ∧ w.cell? (a.add 2) = some c2 ∧ w.cell? (a.add 3) = some c3 := by
  obtain ⟨_, hlen, hc⟩ := World.cells?_some h
  match cs, hlen with
  | [c0, c1, c2, c3], _ =>
    refine ⟨c0, c1, c2, c3, rfl, ?_, ?_, ?_, ?_⟩
    · simpa [Addr.add] using hc 0 (by decide)
    · simpa using hc 1 (by decide)
    · simpa using hc 2 (by decide)
    · simpa using hc 3 (by decide)

theorem readBins {fuel : Nat} {cs : List Value} {x : DataW H × List MemPlace} (h : DataW.trod enc Try.prog w 0 spare held fuel 22 cs = some x) : ∃ a n c z, cs = [.slice a n c] ∧ n ≤ c ∧ c ≤ maxLen ∧ BinsAt w a n z := by
  rcases open_slice Try.underlying22 h with ⟨rfl, _⟩ | ⟨a, len, cap, m, n, D, Pl, rfl, hb, hl, hm, hmm, _, hx⟩
  · exact ⟨none, 0, 0, fun _ => ⟨false, 0, 0, 0⟩, rfl, Nat.le_refl _, Nat.zero_le _, fun i hi => absurd hi (Nat.not_lt_zero _)⟩
  · have hlm : len ≤ m := by rw [hmm]; split <;> omega
    rw [cellsBin] at hx
    haveI : Inhabited Bin := ⟨⟨false, 0, 0, 0⟩⟩
    obtain ⟨z, hz⟩ := choose_lt (α := Bin) (n := len) (p := fun i y => w.cell? (a.add (i * 4)) = some (.bool y.front) ∧ w.cell? (a.add (i * 4 + 1)) = some (.int .i64 y.room) ∧ w.cell? (a.add (i * 4 + 2)) = some (.int .i64 y.low) ∧ w.cell? (a.add (i * 4 + 3)) = some (.int .i64 y.high)) (fun i hi => by
      obtain ⟨cs', hc, ht⟩ := hx i (by omega)
      obtain ⟨c0, c1, c2, c3, rfl, k0, k1, k2, k3⟩ := cells4 hc
      obtain ⟨y, rfl, rfl, rfl, rfl⟩ := readBin ht
      rw [add_add] at k1 k2 k3
      exact ⟨y, k0, k1, k2, k3⟩)
    refine ⟨some a, len, cap, z, rfl, hl, hm, fun i hi => ?_⟩
    have h0 : ∃ v0, w.cell? a = some v0 := ⟨_, by have := (hz 0 (by omega)).1; simpa [Addr.add] using this⟩
    obtain ⟨k0, k1, k2, k3⟩ := hz i hi
    obtain ⟨b, o, rfl, hb', e0⟩ := addrOf k0 h0
    rw [Go.WideShapes.add_plain] at k1 k2 k3
    exact ⟨b, o, rfl, hb', e0, by rw [Nat.add_assoc]; exact k1, by rw [Nat.add_assoc]; exact k2, by rw [Nat.add_assoc]; exact k3⟩

theorem openPlan {r : Reach} {b0 : Nat} {v : Value} {d : DataW H} {ps : List MemPlace} (hv : Value.okWide Try.prog w r b0 25 v) (h : DataW.Trod enc Try.prog w 0 spare held 25 v d ps) : ∃ p : Pl, v = p.val ∧ p.At w := by
  obtain ⟨c0, c1, y0, y1, m, rfl, rfl, rfl, hy0, hy1⟩ := open_agg2 Try.underlying25 (by kernel_rfl) cellsPlan hv h
  obtain ⟨a, n, c, z, e0, h1, h2, h3⟩ := readBins hy0
  obtain ⟨rr, e1, hr⟩ := readInts hy1
  simp only [List.cons.injEq, and_true] at e0 e1
  subst e0 e1
  exact ⟨⟨a, n, c, z, rr.a, rr.n, rr.c, rr.z⟩, rfl, h1, h2, h3, hr.le, hr.cap, hr.ints⟩

theorem openShelf {r : Reach} {b0 : Nat} {v : Value} {d : DataW H} {ps : List MemPlace} (hv : Value.okWide Try.prog w r b0 26 v) (h : DataW.Trod enc Try.prog w 0 spare held 26 v d ps) : ∃ s : Sh, v = s.val ∧ s.At w := by
  obtain ⟨a0, len, cap, rfl⟩ := okWide_slice Try.underlying26 hv
  obtain ⟨fuel, hf⟩ := h
  obtain ⟨s, e, hs⟩ := readRows hf
  simp only [Value.cells, List.cons.injEq, and_true] at e
  exact ⟨s, e, hs⟩

end
end Go.Proofs.Ytjiodlbblmbibac
/- Arguments, opened: holds, a hold. -/
namespace Go.Proofs.Ytjiodlbblmbibac
open Go.ChangeShapes Go.WideShapes Go.ChangeAt Go.RowKit Go.Joins Go.Deep
set_option linter.unusedVariables false
set_option maxRecDepth 100000

namespace HoldsFrames
theorem own : ownKnob Try.prog.godebug = none := by kernel_rfl
theorem laidOut : laidOutB Try.prog = true := by kernel_rfl
theorem cellsInt : Try.prog.cellsOf 3 = 1 := by kernel_rfl
theorem cellsHold : Try.prog.cellsOf 65 = 4 := by kernel_rfl

section
variable {H : Type} {enc : TypeId × Value → H} {w : World} {held : Bool} {spare : Nat → Bool}

theorem addrOf {a : Addr} {i : Nat} {v : Value} (h : w.cell? (a.add i) = some v) (h0 : ∃ v0, w.cell? a = some v0) : ∃ b o, a = ⟨b, o, none⟩ ∧ b < w.heap.size ∧ w.cell? ⟨b, o + i, none⟩ = some v := by
  obtain ⟨b, off, spot⟩ := a
  obtain ⟨v0, h0⟩ := h0
  have hspot : spot = none := World.cell?_spot h0
  subst hspot
  refine ⟨b, off, rfl, World.block_lt_of_cell? w _ h0, ?_⟩
  rw [← Go.WideShapes.add_plain]
  exact h

theorem cells4 {base : Nat} {a : Addr} {cs : List Value} (h : w.cells? base a 4 = some cs) : ∃ c0 c1 c2 c3, cs = [c0, c1, c2, c3] ∧ w.cell? a = some c0 ∧ w.cell? (a.add 1) = some c1 ∧ w.cell? (a.add 2) = some c2 ∧ w.cell? (a.add 3) = some c3 := by
  obtain ⟨_, hlen, hc⟩ := World.cells?_some h
  match cs, hlen with
  | [c0, c1, c2, c3], _ =>
    refine ⟨c0, c1, c2, c3, rfl, ?_, ?_, ?_, ?_⟩
    · simpa [Addr.add] using hc 0 (by decide)
    · simpa using hc 1 (by decide)
    · simpa using hc 2 (by decide)
    · simpa using hc 3 (by decide)

theorem readHold {fuel : Nat} {c0 c1 c2 c3 : Value} {x : DataW H × List MemPlace} (h : DataW.trod enc Try.prog w 0 spare held fuel 65 [c0, c1, c2, c3] = some x) : ∃ y : Hd, c0 = .int .i64 y.o ∧ c1 = .int .i64 y.l ∧ c2 = .int .i64 y.b ∧ c3 = .int .i64 y.n := by
  obtain ⟨y0, y1, y2, y3, n, hx, hl, h0, h1, h2, h3⟩ := trod_struct4 Try.underlying65 h
  simp only [cellsInt, List.drop_succ_cons, List.drop_zero, List.take_succ_cons, List.take_zero] at h0 h1 h2 h3
  obtain ⟨n0, e0, _⟩ := DataW.trod_int Try.underlying3 h0
  obtain ⟨n1, e1, _⟩ := DataW.trod_int Try.underlying3 h1
  obtain ⟨n2, e2, _⟩ := DataW.trod_int Try.underlying3 h2
  obtain ⟨n3, e3, _⟩ := DataW.trod_int Try.underlying3 h3
  simp only [List.cons.injEq, and_true] at e0 e1 e2 e3
  exact ⟨⟨n0, n1, n2, n3⟩, e0, e1, e2, e3⟩

theorem readHolds {fuel : Nat} {cs : List Value} {x : DataW H × List MemPlace} (h : DataW.trod enc Try.prog w 0 spare held fuel 28 cs = some x) : ∃ s : Hs, cs = [s.val] ∧ s.At w := by
  rcases open_slice Try.underlying28 h with ⟨rfl, _⟩ | ⟨a, len, cap, m, n, D, Pl, rfl, hb, hl, hm, hmm, _, hx⟩
  · exact ⟨⟨none, 0, 0, fun _ => ⟨0, 0, 0, 0⟩⟩, rfl, Nat.le_refl _, Nat.zero_le _, fun i hi => absurd hi (Nat.not_lt_zero _), fun _ => rfl⟩
  · have hlm : len ≤ m := by rw [hmm]; split <;> omega
    rw [cellsHold] at hx
    haveI : Inhabited Hd := ⟨⟨0, 0, 0, 0⟩⟩
    obtain ⟨z, hz⟩ := choose_lt (α := Hd) (n := len) (p := fun i y => w.cell? (a.add (i * 4)) = some (.int .i64 y.o) ∧ w.cell? (a.add (i * 4 + 1)) = some (.int .i64 y.l) ∧ w.cell? (a.add (i * 4 + 2)) = some (.int .i64 y.b) ∧ w.cell? (a.add (i * 4 + 3)) = some (.int .i64 y.n)) (fun i hi => by
      obtain ⟨cs', hc, ht⟩ := hx i (by omega)
      obtain ⟨c0, c1, c2, c3, rfl, k0, k1, k2, k3⟩ := cells4 hc
      obtain ⟨y, rfl, rfl, rfl, rfl⟩ := readHold ht
      rw [add_add] at k1 k2 k3
      exact ⟨y, k0, k1, k2, k3⟩)
    refine ⟨⟨some a, len, cap, z⟩, rfl, hl, hm, fun i hi => ?_, fun h => by cases h⟩
    have hi' : i < len := hi
    have h0 : ∃ v0, w.cell? a = some v0 := ⟨_, by have := (hz 0 (by omega)).1; simpa [Addr.add] using this⟩
    obtain ⟨k0, k1, k2, k3⟩ := hz i hi'
    obtain ⟨b, o, rfl, hb', e0⟩ := addrOf k0 h0
    rw [Go.WideShapes.add_plain] at k1 k2 k3
    exact ⟨b, o, rfl, hb', e0, by rw [Nat.add_assoc]; exact k1, by rw [Nat.add_assoc]; exact k2, by rw [Nat.add_assoc]; exact k3⟩

theorem openHolds {r : Reach} {b0 : Nat} {v : Value} {d : DataW H} {ps : List MemPlace} (hv : Value.okWide Try.prog w r b0 28 v) (h : DataW.Trod enc Try.prog w 0 spare held 28 v d ps) : ∃ s : Hs, v = s.val ∧ s.At w := by
  obtain ⟨a0, len, cap, rfl⟩ := okWide_slice Try.underlying28 hv
  obtain ⟨fuel, hf⟩ := h
  obtain ⟨s, e, hs⟩ := readHolds hf
  simp only [Value.cells, List.cons.injEq, and_true] at e
  exact ⟨s, e, hs⟩

theorem openHold {r : Reach} {b0 : Nat} {v : Value} {d : DataW H} {ps : List MemPlace} (hv : Value.okWide Try.prog w r b0 65 v) (h : DataW.Trod enc Try.prog w 0 spare held 65 v d ps) : ∃ x : Hd, v = x.val := by
  obtain ⟨c0, c1, c2, c3, y0, y1, y2, y3, m, rfl, rfl, rfl, hy0, hy1, hy2, hy3⟩ := open_agg4 Try.underlying65 (by kernel_rfl) cellsHold hv h
  obtain ⟨n0, e0, _⟩ := DataW.trod_int Try.underlying3 hy0
  obtain ⟨n1, e1, _⟩ := DataW.trod_int Try.underlying3 hy1
  obtain ⟨n2, e2, _⟩ := DataW.trod_int Try.underlying3 hy2
  obtain ⟨n3, e3, _⟩ := DataW.trod_int Try.underlying3 hy3
  simp only [List.cons.injEq, and_true] at e0 e1 e2 e3
  subst e0 e1 e2 e3
  exact ⟨⟨n0, n1, n2, n3⟩, rfl⟩

end
end HoldsFrames
end Go.Proofs.Ytjiodlbblmbibac
/- Arguments, opened: states, lines. -/
namespace Go.Proofs.Ytjiodlbblmbibac
open Go.ChangeShapes Go.WideShapes Go.ChangeAt Go.RowKit Go.Joins Go.Deep
set_option linter.unusedVariables false
set_option maxRecDepth 100000

theorem cellsLine : Try.prog.cellsOf 53 = 4 := by kernel_rfl
theorem cellsMove : Try.prog.cellsOf 70 = 4 := by kernel_rfl
theorem cellsOrder : Try.prog.cellsOf 51 = 2 := by kernel_rfl
theorem cellsState : Try.prog.cellsOf 31 = 7 := by kernel_rfl
theorem cellsLines : Try.prog.cellsOf 49 = 1 := by kernel_rfl
theorem cellsMoves : Try.prog.cellsOf 29 = 1 := by kernel_rfl
theorem cellsOrders : Try.prog.cellsOf 27 = 1 := by kernel_rfl
theorem cellsHolds : Try.prog.cellsOf 28 = 1 := by kernel_rfl
theorem cellsRows : Try.prog.cellsOf 26 = 1 := by kernel_rfl

section
variable {H : Type} {enc : TypeId × Value → H} {w : World} {held : Bool} {spare : Nat → Bool}

theorem readLine {fuel : Nat} {c0 c1 c2 c3 : Value} {x : DataW H × List MemPlace} (h : DataW.trod enc Try.prog w 0 spare held fuel 53 [c0, c1, c2, c3] = some x) : ∃ y : Hd, c0 = .int .i64 y.o ∧ c1 = .int .i64 y.l ∧ c2 = .int .i64 y.b ∧ c3 = .int .i64 y.n := by
  obtain ⟨y0, y1, y2, y3, n, hx, hl, h0, h1, h2, h3⟩ := trod_struct4 Try.underlying53 h
  simp only [cellsInt, List.drop_succ_cons, List.drop_zero, List.take_succ_cons, List.take_zero] at h0 h1 h2 h3
  obtain ⟨n0, e0, _⟩ := DataW.trod_int Try.underlying3 h0
  obtain ⟨n1, e1, _⟩ := DataW.trod_int Try.underlying3 h1
  obtain ⟨n2, e2, _⟩ := DataW.trod_int Try.underlying3 h2
  obtain ⟨n3, e3, _⟩ := DataW.trod_int Try.underlying3 h3
  simp only [List.cons.injEq, and_true] at e0 e1 e2 e3
  exact ⟨⟨n0, n1, n2, n3⟩, e0, e1, e2, e3⟩

theorem readLines {fuel : Nat} {cs : List Value} {x : DataW H × List MemPlace} (h : DataW.trod enc Try.prog w 0 spare held fuel 49 cs = some x) : ∃ s : Hs, cs = [s.val] ∧ s.At w := by
  rcases open_slice Try.underlying49 h with ⟨rfl, _⟩ | ⟨a, len, cap, m, n, D, Pl, rfl, hb, hl, hm, hmm, _, hx⟩
  · exact ⟨⟨none, 0, 0, fun _ => ⟨0, 0, 0, 0⟩⟩, rfl, Nat.le_refl _, Nat.zero_le _, fun i hi => absurd hi (Nat.not_lt_zero _), fun _ => rfl⟩
  · have hlm : len ≤ m := by rw [hmm]; split <;> omega
    rw [cellsLine] at hx
    haveI : Inhabited Hd := ⟨⟨0, 0, 0, 0⟩⟩
    obtain ⟨z, hz⟩ := choose_lt (α := Hd) (n := len) (p := fun i y => w.cell? (a.add (i * 4)) = some (.int .i64 y.o) ∧ w.cell? (a.add (i * 4 + 1)) = some (.int .i64 y.l) ∧ w.cell? (a.add (i * 4 + 2)) = some (.int .i64 y.b) ∧ w.cell? (a.add (i * 4 + 3)) = some (.int .i64 y.n)) (fun i hi => by
      obtain ⟨cs', hc, ht⟩ := hx i (by omega)
      obtain ⟨c0, c1, c2, c3, rfl, k0, k1, k2, k3⟩ := cells4 hc
      obtain ⟨y, rfl, rfl, rfl, rfl⟩ := readLine ht
      rw [add_add] at k1 k2 k3
      exact ⟨y, k0, k1, k2, k3⟩)
    refine ⟨⟨some a, len, cap, z⟩, rfl, hl, hm, fun i hi => ?_, fun h => by cases h⟩
    have hi' : i < len := hi
    have h0 : ∃ v0, w.cell? a = some v0 := ⟨_, by have := (hz 0 (by omega)).1; simpa [Addr.add] using this⟩
    obtain ⟨k0, k1, k2, k3⟩ := hz i hi'
    obtain ⟨b, o, rfl, hb', e0⟩ := addrOf k0 h0
    rw [Go.WideShapes.add_plain] at k1 k2 k3
    exact ⟨b, o, rfl, hb', e0, by rw [Nat.add_assoc]; exact k1, by rw [Nat.add_assoc]; exact k2, by rw [Nat.add_assoc]; exact k3⟩

theorem readMove {fuel : Nat} {c0 c1 c2 c3 : Value} {x : DataW H × List MemPlace} (h : DataW.trod enc Try.prog w 0 spare held fuel 70 [c0, c1, c2, c3] = some x) : ∃ y : Hd, c0 = .int .i64 y.o ∧ c1 = .int .i64 y.l ∧ c2 = .int .i64 y.b ∧ c3 = .int .i64 y.n := by
  obtain ⟨y0, y1, y2, y3, n, hx, hl, h0, h1, h2, h3⟩ := trod_struct4 Try.underlying70 h
  simp only [cellsInt, List.drop_succ_cons, List.drop_zero, List.take_succ_cons, List.take_zero] at h0 h1 h2 h3
  obtain ⟨n0, e0, _⟩ := DataW.trod_int Try.underlying3 h0
  obtain ⟨n1, e1, _⟩ := DataW.trod_int Try.underlying3 h1
  obtain ⟨n2, e2, _⟩ := DataW.trod_int Try.underlying3 h2
  obtain ⟨n3, e3, _⟩ := DataW.trod_int Try.underlying3 h3
  simp only [List.cons.injEq, and_true] at e0 e1 e2 e3
  exact ⟨⟨n0, n1, n2, n3⟩, e0, e1, e2, e3⟩

theorem readMoves {fuel : Nat} {cs : List Value} {x : DataW H × List MemPlace} (h : DataW.trod enc Try.prog w 0 spare held fuel 29 cs = some x) : ∃ s : Hs, cs = [s.val] ∧ s.At w := by
  rcases open_slice Try.underlying29 h with ⟨rfl, _⟩ | ⟨a, len, cap, m, n, D, Pl, rfl, hb, hl, hm, hmm, _, hx⟩
  · exact ⟨⟨none, 0, 0, fun _ => ⟨0, 0, 0, 0⟩⟩, rfl, Nat.le_refl _, Nat.zero_le _, fun i hi => absurd hi (Nat.not_lt_zero _), fun _ => rfl⟩
  · have hlm : len ≤ m := by rw [hmm]; split <;> omega
    rw [cellsMove] at hx
    haveI : Inhabited Hd := ⟨⟨0, 0, 0, 0⟩⟩
    obtain ⟨z, hz⟩ := choose_lt (α := Hd) (n := len) (p := fun i y => w.cell? (a.add (i * 4)) = some (.int .i64 y.o) ∧ w.cell? (a.add (i * 4 + 1)) = some (.int .i64 y.l) ∧ w.cell? (a.add (i * 4 + 2)) = some (.int .i64 y.b) ∧ w.cell? (a.add (i * 4 + 3)) = some (.int .i64 y.n)) (fun i hi => by
      obtain ⟨cs', hc, ht⟩ := hx i (by omega)
      obtain ⟨c0, c1, c2, c3, rfl, k0, k1, k2, k3⟩ := cells4 hc
      obtain ⟨y, rfl, rfl, rfl, rfl⟩ := readMove ht
      rw [add_add] at k1 k2 k3
      exact ⟨y, k0, k1, k2, k3⟩)
    refine ⟨⟨some a, len, cap, z⟩, rfl, hl, hm, fun i hi => ?_, fun h => by cases h⟩
    have hi' : i < len := hi
    have h0 : ∃ v0, w.cell? a = some v0 := ⟨_, by have := (hz 0 (by omega)).1; simpa [Addr.add] using this⟩
    obtain ⟨k0, k1, k2, k3⟩ := hz i hi'
    obtain ⟨b, o, rfl, hb', e0⟩ := addrOf k0 h0
    rw [Go.WideShapes.add_plain] at k1 k2 k3
    exact ⟨b, o, rfl, hb', e0, by rw [Nat.add_assoc]; exact k1, by rw [Nat.add_assoc]; exact k2, by rw [Nat.add_assoc]; exact k3⟩

theorem cells2 {base : Nat} {a : Addr} {cs : List Value} (h : w.cells? base a 2 = some cs) : ∃ c0 c1, cs = [c0, c1] ∧ w.cell? a = some c0 ∧ w.cell? (a.add 1) = some c1 := by
  obtain ⟨_, hlen, hc⟩ := World.cells?_some h
  match cs, hlen with
  | [c0, c1], _ =>
    refine ⟨c0, c1, rfl, ?_, ?_⟩
    · simpa [Addr.add] using hc 0 (by decide)
    · simpa using hc 1 (by decide)

theorem readOrder {fuel : Nat} {c0 c1 : Value} {x : DataW H × List MemPlace} (h : DataW.trod enc Try.prog w 0 spare held fuel 51 [c0, c1] = some x) : ∃ y : Od, c0 = .int .i64 y.k ∧ c1 = .slice y.ls.a y.ls.n y.ls.c ∧ y.ls.At w := by
  obtain ⟨y0, y1, n, hx, hl, h0, h1⟩ := trod_struct2 Try.underlying51 h
  simp only [cellsInt, cellsLines, List.drop_succ_cons, List.drop_zero, List.take_succ_cons, List.take_zero] at h0 h1
  obtain ⟨n0, e0, _⟩ := DataW.trod_int Try.underlying3 h0
  obtain ⟨s, e1, hs⟩ := readLines h1
  simp only [List.cons.injEq, and_true] at e0 e1
  exact ⟨⟨n0, s⟩, e0, e1, hs⟩

theorem readOrders {fuel : Nat} {cs : List Value} {x : DataW H × List MemPlace} (h : DataW.trod enc Try.prog w 0 spare held fuel 27 cs = some x) : ∃ s : Go.Proofs.Ytjiodlbblmbibac.Os, cs = [s.val] ∧ s.At w := by
  rcases open_slice Try.underlying27 h with ⟨rfl, _⟩ | ⟨a, len, cap, m, n, D, Pl, rfl, hb, hl, hm, hmm, _, hx⟩
  · exact ⟨⟨none, 0, 0, fun _ => ⟨0, ⟨none, 0, 0, fun _ => ⟨0, 0, 0, 0⟩⟩⟩⟩, rfl, Nat.le_refl _, Nat.zero_le _, fun i hi => absurd hi (Nat.not_lt_zero _)⟩
  · have hlm : len ≤ m := by rw [hmm]; split <;> omega
    rw [cellsOrder] at hx
    haveI : Inhabited Od := ⟨⟨0, ⟨none, 0, 0, fun _ => ⟨0, 0, 0, 0⟩⟩⟩⟩
    obtain ⟨z, hz⟩ := choose_lt (α := Od) (n := len) (p := fun i y => w.cell? (a.add (i * 2)) = some (.int .i64 y.k) ∧ w.cell? (a.add (i * 2 + 1)) = some (.slice y.ls.a y.ls.n y.ls.c) ∧ y.ls.At w) (fun i hi => by
      obtain ⟨cs', hc, ht⟩ := hx i (by omega)
      obtain ⟨c0, c1, rfl, k0, k1⟩ := cells2 hc
      obtain ⟨y, rfl, rfl, hy⟩ := readOrder ht
      rw [add_add] at k1
      exact ⟨y, k0, k1, hy⟩)
    refine ⟨⟨some a, len, cap, z⟩, rfl, hl, hm, fun i hi => ?_⟩
    have hi' : i < len := hi
    have h0 : ∃ v0, w.cell? a = some v0 := ⟨_, by have := (hz 0 (by omega)).1; simpa [Addr.add] using this⟩
    obtain ⟨k0, k1, hy⟩ := hz i hi'
    obtain ⟨b, o, rfl, hb', e0⟩ := addrOf k0 h0
    rw [Go.WideShapes.add_plain] at k1
    exact ⟨b, o, rfl, hb', e0, by rw [Nat.add_assoc]; exact k1, hy⟩

theorem array7 {α : Type} {cs : Array α} (h : cs.size = 7) : ∃ c0 c1 c2 c3 c4 c5 c6, cs = #[c0, c1, c2, c3, c4, c5, c6] := by
  obtain ⟨l⟩ := cs
  match l, h with
  | [c0, c1, c2, c3, c4, c5, c6], _ => exact ⟨c0, c1, c2, c3, c4, c5, c6, rfl⟩

theorem openState {r : Reach} {b0 : Nat} {v : Value} {d : DataW H} {ps : List MemPlace} (hv : Value.okWide Try.prog w r b0 31 v) (h : DataW.Trod enc Try.prog w 0 spare held 31 v d ps) : ∃ s : St, v = s.val ∧ s.At w := by
  obtain ⟨cs, rfl, hsz⟩ := okWide_struct Try.underlying31 hv
  obtain ⟨c0, c1, c2, c3, c4, c5, c6, rfl⟩ := array7 (hsz.trans cellsState)
  obtain ⟨fuel, hf⟩ := h
  obtain ⟨xs, n, _, hx, hl, hlen, hg⟩ := DataW.trod_struct Try.underlying31 hf
  match xs, hlen with
  | [y0, y1, y2, y3, y4, y5, y6], _ =>
    have k0 := hg 0 _ rfl
    have k1 := hg 1 _ rfl
    have k2 := hg 2 _ rfl
    have k3 := hg 3 _ rfl
    have k4 := hg 4 _ rfl
    have k5 := hg 5 _ rfl
    have k6 := hg 6 _ rfl
    simp [cellsRows, cellsOrders, cellsHolds, cellsMoves, cellsInts, Value.cells] at k0 k1 k2 k3 k4 k5 k6
    obtain ⟨on, e0, h0⟩ := readRows k0
    obtain ⟨os, e1, h1⟩ := readOrders k1
    obtain ⟨hs, e2, h2⟩ := HoldsFrames.readHolds k2
    obtain ⟨ms, e3, h3⟩ := readMoves k3
    obtain ⟨si, e4, h4⟩ := readInts k4
    obtain ⟨so, e5, h5⟩ := readInts k5
    obtain ⟨sf, e6, h6⟩ := readInts k6
    simp only [List.cons.injEq, and_true] at e0 e1 e2 e3 e4 e5 e6
    subst e0 e1 e2 e3 e4 e5 e6
    exact ⟨⟨on, os, hs, ms, si, so, sf⟩, rfl, h0, h1, h2, h3, h4, h5, h6⟩

theorem openLines {r : Reach} {b0 : Nat} {v : Value} {d : DataW H} {ps : List MemPlace} (hv : Value.okWide Try.prog w r b0 49 v) (h : DataW.Trod enc Try.prog w 0 spare held 49 v d ps) : ∃ s : Hs, v = s.val ∧ s.At w := by
  obtain ⟨a0, len, cap, rfl⟩ := okWide_slice Try.underlying49 hv
  obtain ⟨fuel, hf⟩ := h
  obtain ⟨s, e, hs⟩ := readLines hf
  simp only [Value.cells, List.cons.injEq, and_true] at e
  exact ⟨s, e, hs⟩

end
end Go.Proofs.Ytjiodlbblmbibac

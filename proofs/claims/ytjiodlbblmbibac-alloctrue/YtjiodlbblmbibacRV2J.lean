/- Texts that were built one behind the other, joined. -/
import Derived.Test.YtjiodlbblmbibacPMJ
import Derived.Test.YtjiodlbblmbibacW6
import Derived.Test.YtjiodlbblmbibacSW2
import Derived.Test.YtjiodlbblmbibacW8
import Derived.Test.YtjiodlbblmbibacR2
import Derived.Test.YtjiodlbblmbibacH4
import Derived.Test.YtjiodlbblmbibacSR
import Derived.Test.YtjiodlbblmbibacSW8
/- What the document receives: ReceiveOf. -/
namespace Go.Proofs.Ytjiodlbblmbibac
open Go.RowKit Go.Shelf Go.Sort
set_option linter.unusedVariables false

theorem recvE_state {p : Pl} {s : St} {bin good n : Int} (h : ¬ stateE p s = 0) : recvE p s bin good n = stateE p s := by unfold recvE; rw [if_neg h]
theorem recvE_range {p : Pl} {s : St} {bin good n : Int} (h : stateE p s = 0) (h2 : (inB bin 0 ((p.nb : Int) - 1) && inB good 0 ((p.ns : Int) - 1) && inB n 1 200) = false) : recvE p s bin good n = 3 := by unfold recvE; rw [if_pos h, h2]; rfl
theorem recvE_full {p : Pl} {s : St} {b g : Nat} {n : Int} (h : stateE p s = 0) (h1 : b < p.nb) (h2 : g < p.ns) (h3 : inB n 1 200 = true) (h4 : freeZ p s b < n * p.zs g) : recvE p s b g n = 5 := by
  unfold recvE; simp only [Int.toNat_natCast]; rw [if_pos h, inB_mk (by omega), inB_mk (by omega), h3, if_pos (by decide), if_pos h4]
theorem recvE_many {p : Pl} {s : St} {b g : Nat} {n : Int} (h : stateE p s = 0) (h1 : b < p.nb) (h2 : g < p.ns) (h3 : inB n 1 200 = true) (h4 : ¬ freeZ p s b < n * p.zs g) (h5 : 200 < lyingZ s b g + n ∨ 1048576 < s.si.z g + n) : recvE p s b g n = 2 := by
  unfold recvE; simp only [Int.toNat_natCast]; rw [if_pos h, inB_mk (by omega), inB_mk (by omega), h3, if_pos (by decide), if_neg h4, if_pos h5]
theorem recvE_ok {p : Pl} {s : St} {b g : Nat} {n : Int} (h : stateE p s = 0) (h1 : b < p.nb) (h2 : g < p.ns) (h3 : inB n 1 200 = true) (h4 : ¬ freeZ p s b < n * p.zs g) (h5 : ¬ (200 < lyingZ s b g + n ∨ 1048576 < s.si.z g + n)) : recvE p s b g n = 0 := by
  unfold recvE; simp only [Int.toNat_natCast]; rw [if_pos h, inB_mk (by omega), inB_mk (by omega), h3, if_pos (by decide), if_neg h4, if_neg h5]
theorem freeZ_bd {p : Pl} {s : St} (f : Formed p s) {b : Nat} (hb : b < p.nb) : -30000 ≤ freeZ p s b ∧ freeZ p s b ≤ 1000 := by
  have hon : b < s.on.n := by rw [f.sh.n]; exact hb
  have ub := usedTo_bd (z := (s.on.r b).z) (zs := p.zs) (n := p.ns) (fun j hj => ⟨f.sh.num b hon j hj, f.sh.pl.sizes j hj⟩) p.ns (Nat.le_refl _)
  have tb := takeTo_bd f (b : Int) s.ms.n (Nat.le_refl _)
  have room : 0 ≤ (p.zb b).room ∧ (p.zb b).room ≤ 1000 := by
    have := f.sh.pl.bins b hb
    simp only [badBin, Bool.or_eq_false_iff, Bool.not_eq_false'] at this
    exact inB_true this.1.1
  have := f.ms8
  have := f.sh.pl.ns3
  unfold freeZ
  omega

set_option maxRecDepth 100000 in
set_option maxHeartbeats 8000000 in
theorem ReceiveOf_any (p : Pl) (s : St) (bin good n : Int) (w : World) (hp : p.At w) (hs : s.At w) :
    Calls Try.prog 22 #[p.val, s.val, .int .i64 bin, .int .i64 good, .int .i64 n] w fun e w' => ∃ s' : St, e = .returned (.tuple #[s'.val, .int .i64 (recvE p s bin good n)]) ∧ s'.At w' ∧ ActOK (recvE p s bin good n) (recvT s bin.toNat good.toNat n) s' ∧ Below w.heap.size w w' := by
  obtain ⟨W0, hW, hWB, X0, Z0⟩ : ∃ W, (((w.alloc (.cells #[.slice p.ab p.nb p.cb, .slice p.sa p.ns p.cs] 25)).alloc (.cells s.cells 31)).alloc (.cells #[.slice .none 0 0, .slice .none 0 0, .slice .none 0 0, .slice .none 0 0, .slice .none 0 0, .slice .none 0 0, .slice .none 0 0] 31)) = W ∧ Below w.heap.size w W ∧ Boxes W w.heap.size (w.heap.size + 1) p s ∧ Blk W (w.heap.size + 2) 31 7 (fun _ => .slice .none 0 0) :=
    ⟨_, rfl, (two_below _ _ _).alloc (by simp; omega) _, (boxes_new w p s _ _).below ((Below.refl _ _).alloc (Nat.le_refl _) _), (Blk.mk' (cur := #[.slice .none 0 0, .slice .none 0 0, .slice .none 0 0, .slice .none 0 0, .slice .none 0 0, .slice .none 0 0, .slice .none 0 0]) (by simp) rfl).congr (fun j hj => by match j, hj with | 0, _ => rfl | 1, _ => rfl | 2, _ => rfl | 3, _ => rfl | 4, _ => rfl | 5, _ => rfl | 6, _ => rfl)⟩
  have HC : Hid (∀ wk, Below W0.heap.size W0 wk → Boxes wk w.heap.size (w.heap.size + 1) p s ∧ p.At wk ∧ s.At wk ∧ Below w.heap.size w wk ∧ Blk wk (w.heap.size + 2) 31 7 (fun _ => .slice .none 0 0)) := fun wk h => ⟨X0.below h, (hp.below hWB).below h, (hs.below hWB).below h, hWB.trans (h.mono hWB.size), Z0.below h⟩
  have HW : Hid (((w.alloc (.cells #[.slice p.ab p.nb p.cb, .slice p.sa p.ns p.cs] 25)).alloc (.cells #[.slice s.on.a s.on.n s.on.c, .slice s.os.a s.os.n s.os.c, .slice s.hs.a s.hs.n s.hs.c, .slice s.ms.a s.ms.n s.ms.c, .slice s.si.a s.si.n s.si.c, .slice s.so.a s.so.n s.so.c, .slice s.sf.a s.sf.n s.sf.c] 31)).alloc (.cells #[.slice .none 0 0, .slice .none 0 0, .slice .none 0 0, .slice .none 0 0, .slice .none 0 0, .slice .none 0 0, .slice .none 0 0] 31) = W0) := hW
  have leb := hp.leb
  have capb0 := hp.capb
  have les := hp.les
  have caps0 := hp.caps
  have capb := capb0
  have caps := caps0
  have zlt0 := Z0.lt
  unfold maxLen at capb caps
  clear hW X0 Z0 hp hs
  unfold Pl.val St.val
  go_enter Try.func22, Try.ntmps22
  go_wp2_with fail
  rw [HW.out]
  obtain ⟨X, hpk, hsk, hBw, hz⟩ := HC.out W0 (Below.refl _ _)
  refine (refCheckState_any p s W0 hpk hsk).mono ?_
  rintro e w1 ⟨rfl, hB⟩
  clear X hpk hsk hBw hz HW
  obtain ⟨⟨⟨l1, d0, d1⟩, l2, c0, c1, c2, c3, c4, c5, c6⟩, hpk, hsk, hBw, hz⟩ := HC.out w1 hB
  by_cases h0 : stateE p s = 0
  · have H0 : Hid (stateE p s = 0) := h0
    have HF : Hid (Formed p s) := (rightT h0).fm
    rw [h0]
    clear h0 c0 c1 c2 c3 c4 c5 c6 hsk
    go_wp2_with fail
    refine (isBin_any p bin w1 leb capb0).mono ?_
    rintro e w2 ⟨rfl, hB2⟩
    have hB := hB.trans (hB2.mono hB.size)
    clear l1 d0 d1 l2 hpk hBw hz hB2
    obtain ⟨⟨⟨l1, d0, d1⟩, l2, c0, c1, c2, c3, c4, c5, c6⟩, hpk, hsk, hBw, hz⟩ := HC.out w2 hB
    clear c0 c1 c2 c3 c4 c5 c6 hsk
    cases k1 : inB bin 0 ((p.nb : Int) - 1)
    · have HX : Hid (recvE p s bin good n = 3) := recvE_range H0.out (by rw [k1]; rfl)
      clear k1
      have zl := hz.lt
      have zf0 := hz.frozen 0
      have zc0 := hz.cell (j := 0) (by decide)
      have zf1 := hz.frozen 1
      have zc1 := hz.cell (j := 1) (by decide)
      have zf2 := hz.frozen 2
      have zc2 := hz.cell (j := 2) (by decide)
      have zf3 := hz.frozen 3
      have zc3 := hz.cell (j := 3) (by decide)
      have zf4 := hz.frozen 4
      have zc4 := hz.cell (j := 4) (by decide)
      have zf5 := hz.frozen 5
      have zc5 := hz.cell (j := 5) (by decide)
      have zf6 := hz.frozen 6
      have zc6 := hz.cell (j := 6) (by decide)
      go_wp2_with fail
      have KZ := set7_blk hz (.slice .none 0 0) (.slice .none 0 0) (.slice .none 0 0) (.slice .none 0 0) (.slice .none 0 0) (.slice .none 0 0) (.slice .none 0 0)
      have hbz := set7_below (b := w.heap.size + 2) hBw (by omega) (.slice .none 0 0) (.slice .none 0 0) (.slice .none 0 0) (.slice .none 0 0) (.slice .none 0 0) (.slice .none 0 0) (.slice .none 0 0)
      unfold set7 at KZ hbz
      obtain ⟨c0', c1', c2', c3', c4', c5', c6'⟩ := box_cells KZ
      refine bodyPost_ret (v := .tuple #[noneS.val, .int .i64 3]) (by simp [results, Try.results22, go_sem, noneS, St.val, c0', c1', c2', c3', c4', c5', c6']) rfl ?_
      exact ⟨noneS, by rw [HX.out]; rfl, noneS_at _, ⟨fun h => absurd h (by rw [HX.out]; decide), fun _ => ⟨rfl, rfl, rfl, rfl, rfl, rfl, rfl⟩⟩, hbz⟩
    · go_wp2_with fail
      refine (isGood_any p good w2 les caps0).mono ?_
      rintro e w3 ⟨rfl, hB2⟩
      have hB := hB.trans (hB2.mono hB.size)
      clear l1 d0 d1 l2 hpk hBw hz hB2
      obtain ⟨⟨⟨l1, d0, d1⟩, l2, c0, c1, c2, c3, c4, c5, c6⟩, hpk, hsk, hBw, hz⟩ := HC.out w3 hB
      cases k2 : inB good 0 ((p.ns : Int) - 1)
      · have HX : Hid (recvE p s bin good n = 3) := recvE_range H0.out (by rw [k1, k2]; rfl)
        clear k1 k2 c0 c1 c2 c3 c4 c5 c6 hsk
        have zl := hz.lt
        have zf0 := hz.frozen 0
        have zc0 := hz.cell (j := 0) (by decide)
        have zf1 := hz.frozen 1
        have zc1 := hz.cell (j := 1) (by decide)
        have zf2 := hz.frozen 2
        have zc2 := hz.cell (j := 2) (by decide)
        have zf3 := hz.frozen 3
        have zc3 := hz.cell (j := 3) (by decide)
        have zf4 := hz.frozen 4
        have zc4 := hz.cell (j := 4) (by decide)
        have zf5 := hz.frozen 5
        have zc5 := hz.cell (j := 5) (by decide)
        have zf6 := hz.frozen 6
        have zc6 := hz.cell (j := 6) (by decide)
        go_wp2_with fail
        have KZ := set7_blk hz (.slice .none 0 0) (.slice .none 0 0) (.slice .none 0 0) (.slice .none 0 0) (.slice .none 0 0) (.slice .none 0 0) (.slice .none 0 0)
        have hbz := set7_below (b := w.heap.size + 2) hBw (by omega) (.slice .none 0 0) (.slice .none 0 0) (.slice .none 0 0) (.slice .none 0 0) (.slice .none 0 0) (.slice .none 0 0) (.slice .none 0 0)
        unfold set7 at KZ hbz
        obtain ⟨c0', c1', c2', c3', c4', c5', c6'⟩ := box_cells KZ
        refine bodyPost_ret (v := .tuple #[noneS.val, .int .i64 3]) (by simp [results, Try.results22, go_sem, noneS, St.val, c0', c1', c2', c3', c4', c5', c6']) rfl ?_
        exact ⟨noneS, by rw [HX.out]; rfl, noneS_at _, ⟨fun h => absurd h (by rw [HX.out]; decide), fun _ => ⟨rfl, rfl, rfl, rfl, rfl, rfl, rfl⟩⟩, hbz⟩
      · cases k3 : inB n 1 200
        · have HX : Hid (recvE p s bin good n = 3) := recvE_range H0.out (by rw [k1, k2, k3]; rfl)
          clear k1 k2 c0 c1 c2 c3 c4 c5 c6 hsk
          have zl := hz.lt
          have zf0 := hz.frozen 0
          have zc0 := hz.cell (j := 0) (by decide)
          have zf1 := hz.frozen 1
          have zc1 := hz.cell (j := 1) (by decide)
          have zf2 := hz.frozen 2
          have zc2 := hz.cell (j := 2) (by decide)
          have zf3 := hz.frozen 3
          have zc3 := hz.cell (j := 3) (by decide)
          have zf4 := hz.frozen 4
          have zc4 := hz.cell (j := 4) (by decide)
          have zf5 := hz.frozen 5
          have zc5 := hz.cell (j := 5) (by decide)
          have zf6 := hz.frozen 6
          have zc6 := hz.cell (j := 6) (by decide)
          go_wp2_with (go_at_call 48; refine calls_to (within_any _ _ _ _) ?_)
          have KZ := set7_blk hz (.slice .none 0 0) (.slice .none 0 0) (.slice .none 0 0) (.slice .none 0 0) (.slice .none 0 0) (.slice .none 0 0) (.slice .none 0 0)
          have hbz := set7_below (b := w.heap.size + 2) hBw (by omega) (.slice .none 0 0) (.slice .none 0 0) (.slice .none 0 0) (.slice .none 0 0) (.slice .none 0 0) (.slice .none 0 0) (.slice .none 0 0)
          unfold set7 at KZ hbz
          obtain ⟨c0', c1', c2', c3', c4', c5', c6'⟩ := box_cells KZ
          refine bodyPost_ret (v := .tuple #[noneS.val, .int .i64 3]) (by simp [results, Try.results22, go_sem, noneS, St.val, c0', c1', c2', c3', c4', c5', c6']) rfl ?_
          exact ⟨noneS, by rw [HX.out]; rfl, noneS_at _, ⟨fun h => absurd h (by rw [HX.out]; decide), fun _ => ⟨rfl, rfl, rfl, rfl, rfl, rfl, rfl⟩⟩, hbz⟩
        · obtain ⟨b, rfl⟩ := Int.eq_ofNat_of_zero_le (inB_true k1).1
          obtain ⟨g, rfl⟩ := Int.eq_ofNat_of_zero_le (inB_true k2).1
          have hb : b < p.nb := by have := (inB_true k1).2; omega
          have hg : g < p.ns := by have := (inB_true k2).2; omega
          have hn := inB_true k3
          have K3 : Hid (inB n 1 200 = true) := k3
          have pz := HF.out.sh.pl.sizes g hg
          have fb := freeZ_bd HF.out hb
          have mb := mul_bd (a := n) (b := p.zs g) ⟨by omega, hn.2⟩ pz
          have qb : (0 : Int) ≤ (b : Int) := by omega
          have qg : (0 : Int) ≤ (g : Int) := by omega
          obtain ⟨bz, oz, hsa, hbz, y0⟩ := hpk.sizes g hg
          have HSA : Hid (p.sa = some ⟨bz, oz, none⟩ ∧ p.At w3 ∧ s.At w3) := ⟨hsa, hpk, hsk⟩
          rw [hsa] at d1
          have r0 : ∀ d os, (grow (redrawn w3 d) os).cell? ⟨w.heap.size, 0, none⟩ = some (.slice p.ab p.nb p.cb) := fun d os => cell_regrown d0 d os
          have r1 : ∀ d os, (grow (redrawn w3 d) os).cell? ⟨w.heap.size, 1, none⟩ = some (.slice (some ⟨bz, oz, none⟩) p.ns p.cs) := fun d os => cell_regrown d1 d os
          have r2 : ∀ d os, (grow (redrawn w3 d) os).cell? ⟨bz, oz + g, none⟩ = some (.int .i64 (p.zs g)) := fun d os => cell_regrown y0 d os
          have s0 : ∀ d os, (grow (redrawn w3 d) os).cell? ⟨w.heap.size + 1, 0, none⟩ = some (.slice s.on.a s.on.n s.on.c) := fun d os => cell_regrown c0 d os
          have s1 : ∀ d os, (grow (redrawn w3 d) os).cell? ⟨w.heap.size + 1, 1, none⟩ = some (.slice s.os.a s.os.n s.os.c) := fun d os => cell_regrown c1 d os
          have s2 : ∀ d os, (grow (redrawn w3 d) os).cell? ⟨w.heap.size + 1, 2, none⟩ = some (.slice s.hs.a s.hs.n s.hs.c) := fun d os => cell_regrown c2 d os
          have s3 : ∀ d os, (grow (redrawn w3 d) os).cell? ⟨w.heap.size + 1, 3, none⟩ = some (.slice s.ms.a s.ms.n s.ms.c) := fun d os => cell_regrown c3 d os
          have s4 : ∀ d os, (grow (redrawn w3 d) os).cell? ⟨w.heap.size + 1, 4, none⟩ = some (.slice s.si.a s.si.n s.si.c) := fun d os => cell_regrown c4 d os
          have s5 : ∀ d os, (grow (redrawn w3 d) os).cell? ⟨w.heap.size + 1, 5, none⟩ = some (.slice s.so.a s.so.n s.so.c) := fun d os => cell_regrown c5 d os
          have s6 : ∀ d os, (grow (redrawn w3 d) os).cell? ⟨w.heap.size + 1, 6, none⟩ = some (.slice s.sf.a s.sf.n s.sf.c) := fun d os => cell_regrown c6 d os
          have hfr : Hid (∀ wk, p.At wk → s.At wk → Calls Try.prog 59 #[.agg #[.slice p.ab p.nb p.cb, .slice (some ⟨bz, oz, none⟩) p.ns p.cs], .agg #[.slice s.on.a s.on.n s.on.c, .slice s.os.a s.os.n s.os.c, .slice s.hs.a s.hs.n s.hs.c, .slice s.ms.a s.ms.n s.ms.c, .slice s.si.a s.si.n s.si.c, .slice s.so.a s.so.n s.so.c, .slice s.sf.a s.sf.n s.sf.c], .int .i64 b] wk fun e w' => e = .returned (.int .i64 (freeZ p s b)) ∧ Below wk.heap.size wk w') := fun wk h1 h2 => by
            have := FreeOf_any p s b wk h1 h2 HF.out hb
            rw [Pl.val, HSA.out.1] at this
            exact this
          have HT5 : Hid (freeZ p s b < n * p.zs g → recvE p s b g n = 5) := fun h => recvE_full H0.out hb hg K3.out h
          have HT2 : Hid (¬ freeZ p s b < n * p.zs g → (200 < lyingZ s b g + n ∨ 1048576 < s.si.z g + n) → recvE p s b g n = 2) := fun h h2 => recvE_many H0.out hb hg K3.out h h2
          have HT0 : Hid (¬ freeZ p s b < n * p.zs g → ¬ (200 < lyingZ s b g + n ∨ 1048576 < s.si.z g + n) → recvE p s b g n = 0) := fun h h2 => recvE_ok H0.out hb hg K3.out h h2
          clear k1 k2 hsa hpk hsk c0 c1 c2 c3 c4 c5 c6 d0 d1 y0
          generalize freeZ p s b = FR at *
          generalize p.zs g = PZ at *
          go_wp2_with (go_at_call 48; refine calls_to (within_any _ _ _ _) ?_)
          refine wp_region_quiet_below (by kernel_rfl) (by kernel_rfl) ?_
          repeat (go_big_quiet_step ((go_at_call 59; exact Calls.regrown_of (hfr.out _ (HSA.out.2.1.below (below_regrown _ _ _)) (HSA.out.2.2.below (below_regrown _ _ _))))))
          refine wpQuiet_nil ?_
          intro _ hw'
          obtain ⟨⟨dq, osq⟩, hw''⟩ := hw'
          subst hw''
          have hB := hB.trans ((below_regrown w3 dq osq).mono hB.size)
          clear r0 r1 r2 s0 s1 s2 s3 s4 s5 s6 hfr HSA hBw hz l1 l2 hbz
          generalize grow (redrawn w3 dq) osq = w4 at *
          obtain ⟨⟨⟨l1, d0, d1⟩, l2, c0, c1, c2, c3, c4, c5, c6⟩, hpk, hsk, hBw, hz⟩ := HC.out w4 hB
          by_cases h5 : FR < n * PZ
          · have HX : Hid (recvE p s b g n = 5) := HT5.out h5
            clear hpk hsk c0 c1 c2 c3 c4 c5 c6
            have zl := hz.lt
            have zf0 := hz.frozen 0
            have zc0 := hz.cell (j := 0) (by decide)
            have zf1 := hz.frozen 1
            have zc1 := hz.cell (j := 1) (by decide)
            have zf2 := hz.frozen 2
            have zc2 := hz.cell (j := 2) (by decide)
            have zf3 := hz.frozen 3
            have zc3 := hz.cell (j := 3) (by decide)
            have zf4 := hz.frozen 4
            have zc4 := hz.cell (j := 4) (by decide)
            have zf5 := hz.frozen 5
            have zc5 := hz.cell (j := 5) (by decide)
            have zf6 := hz.frozen 6
            have zc6 := hz.cell (j := 6) (by decide)
            go_wp2_with fail
            have KZ := set7_blk hz (.slice .none 0 0) (.slice .none 0 0) (.slice .none 0 0) (.slice .none 0 0) (.slice .none 0 0) (.slice .none 0 0) (.slice .none 0 0)
            have hbz := set7_below (b := w.heap.size + 2) hBw (by omega) (.slice .none 0 0) (.slice .none 0 0) (.slice .none 0 0) (.slice .none 0 0) (.slice .none 0 0) (.slice .none 0 0) (.slice .none 0 0)
            unfold set7 at KZ hbz
            obtain ⟨c0', c1', c2', c3', c4', c5', c6'⟩ := box_cells KZ
            refine bodyPost_ret (v := .tuple #[noneS.val, .int .i64 5]) (by simp [results, Try.results22, go_sem, noneS, St.val, c0', c1', c2', c3', c4', c5', c6']) rfl ?_
            exact ⟨noneS, by rw [HX.out]; rfl, noneS_at _, ⟨fun h => absurd h (by rw [HX.out]; decide), fun _ => ⟨rfl, rfl, rfl, rfl, rfl, rfl, rfl⟩⟩, hbz⟩
          · have hon : b < s.on.n := by rw [HF.out.sh.n]; exact hb
            obtain ⟨bo, oo, hoa, hbo, y0, hrow⟩ := hsk.on.rows b hon
            have hrn := HF.out.sh.len b hon
            obtain ⟨br, orr, hra, hbr, y1⟩ := hrow.ints g (by rw [hrn]; exact hg)
            obtain ⟨bi, oi, hia, hbi, y2⟩ := hsk.si.ints g (by rw [HF.out.sin]; exact hg)
            have v1 := hrow.le
            have v2 := hrow.cap
            have v3 := hsk.on.le
            have v4 := hsk.on.cap
            have v5 := hsk.si.le
            have v6 := hsk.si.cap
            have u1 := HF.out.sh.num b hon g hg
            have u2 := comingTo_bd (s := s) (b := b) (g := g) HF.out.moveN
            have u3 := HF.out.sib g hg
            have ms8 := HF.out.ms8
            have si1 : g < s.si.n := by rw [HF.out.sin]; exact hg
            unfold maxLen at v2 v4 v6
            have HSA : Hid (s.At w4 ∧ s.on.a = some ⟨bo, oo, none⟩ ∧ s.si.a = some ⟨bi, oi, none⟩) := ⟨hsk, hoa, hia⟩
            rw [hra, hrn] at y0
            rw [hrn] at v1
            rw [hoa] at c0
            rw [hia] at c4
            have s0 : ∀ d os, (grow (redrawn w4 d) os).cell? ⟨w.heap.size + 1, 0, none⟩ = some (.slice (some ⟨bo, oo, none⟩) s.on.n s.on.c) := fun d os => cell_regrown c0 d os
            have s1 : ∀ d os, (grow (redrawn w4 d) os).cell? ⟨w.heap.size + 1, 1, none⟩ = some (.slice s.os.a s.os.n s.os.c) := fun d os => cell_regrown c1 d os
            have s2 : ∀ d os, (grow (redrawn w4 d) os).cell? ⟨w.heap.size + 1, 2, none⟩ = some (.slice s.hs.a s.hs.n s.hs.c) := fun d os => cell_regrown c2 d os
            have s3 : ∀ d os, (grow (redrawn w4 d) os).cell? ⟨w.heap.size + 1, 3, none⟩ = some (.slice s.ms.a s.ms.n s.ms.c) := fun d os => cell_regrown c3 d os
            have s4 : ∀ d os, (grow (redrawn w4 d) os).cell? ⟨w.heap.size + 1, 4, none⟩ = some (.slice (some ⟨bi, oi, none⟩) s.si.n s.si.c) := fun d os => cell_regrown c4 d os
            have s5 : ∀ d os, (grow (redrawn w4 d) os).cell? ⟨w.heap.size + 1, 5, none⟩ = some (.slice s.so.a s.so.n s.so.c) := fun d os => cell_regrown c5 d os
            have s6 : ∀ d os, (grow (redrawn w4 d) os).cell? ⟨w.heap.size + 1, 6, none⟩ = some (.slice s.sf.a s.sf.n s.sf.c) := fun d os => cell_regrown c6 d os
            have r1 : ∀ d os, (grow (redrawn w4 d) os).cell? ⟨bo, oo + b, none⟩ = some (.slice (some ⟨br, orr, none⟩) p.ns (s.on.r b).c) := fun d os => cell_regrown y0 d os
            have r2 : ∀ d os, (grow (redrawn w4 d) os).cell? ⟨br, orr + g, none⟩ = some (.int .i64 ((s.on.r b).z g)) := fun d os => cell_regrown y1 d os
            have r3 : ∀ d os, (grow (redrawn w4 d) os).cell? ⟨bi, oi + g, none⟩ = some (.int .i64 (s.si.z g)) := fun d os => cell_regrown y2 d os
            have hco : Hid (∀ wk, s.At wk → Calls Try.prog 60 #[.agg #[.slice (some ⟨bo, oo, none⟩) s.on.n s.on.c, .slice s.os.a s.os.n s.os.c, .slice s.hs.a s.hs.n s.hs.c, .slice s.ms.a s.ms.n s.ms.c, .slice (some ⟨bi, oi, none⟩) s.si.n s.si.c, .slice s.so.a s.so.n s.so.c, .slice s.sf.a s.sf.n s.sf.c], .int .i64 b, .int .i64 g] wk fun e w' => e = .returned (.int .i64 (comingTo s b g s.ms.n)) ∧ Below wk.heap.size wk w') := fun wk h => by
              have := coming_any p s b g wk h HF.out
              rw [St.val, HSA.out.2.1, HSA.out.2.2] at this
              exact this
            have HLY : Hid (lyingZ s b g = (s.on.r b).z g + comingTo s b g s.ms.n) := rfl
            have cm : 0 ≤ comingTo s b g s.ms.n ∧ comingTo s b g s.ms.n ≤ 1600 := by omega
            have HRT : Hid (recvT s b g n = setIn (setOn s b g ((s.on.r b).z g + n)) g (s.si.z g + n)) := rfl
            clear hoa hra hia hrow hrn hpk hsk c0 c1 c2 c3 c4 c5 c6 y0 y1 y2 d0 d1 u2
            generalize comingTo s b g s.ms.n = CM at *
            generalize hON : (s.on.r b).z g = ON at *
            have HON : Hid ((s.on.r b).z g = ON) := hON
            clear hON
            generalize (s.on.r b).c = RC at *
            generalize hSI : s.si.z g = SI at *
            have HSI : Hid (s.si.z g = SI) := hSI
            clear hSI
            by_cases h6 : 200 < ON + CM + n
            · have HX : Hid (recvE p s b g n = 2) := HT2.out (by omega) (.inl (by rw [HLY.out]; exact h6))
              have d6 : decide (200 < ON + CM + n) = true := decide_eq_true h6
              go_wp2_with fail
              refine wp_region_quiet_below (by kernel_rfl) (by kernel_rfl) ?_
              repeat (go_big_quiet_step ((go_at_call 60; exact Calls.regrown_of (hco.out _ (HSA.out.1.below (below_regrown _ _ _))))))
              refine wpQuiet_nil ?_
              intro _ hw'
              obtain ⟨⟨dq, osq⟩, hw''⟩ := hw'
              subst hw''
              have hB := hB.trans ((below_regrown w4 dq osq).mono hB.size)
              clear r1 r2 r3 s0 s1 s2 s3 s4 s5 s6 hco HSA hBw hz l1 l2
              generalize grow (redrawn w4 dq) osq = w5 at *
              obtain ⟨-, -, -, hBw, hz⟩ := HC.out w5 hB
              have zl := hz.lt
              have zf0 := hz.frozen 0
              have zc0 := hz.cell (j := 0) (by decide)
              have zf1 := hz.frozen 1
              have zc1 := hz.cell (j := 1) (by decide)
              have zf2 := hz.frozen 2
              have zc2 := hz.cell (j := 2) (by decide)
              have zf3 := hz.frozen 3
              have zc3 := hz.cell (j := 3) (by decide)
              have zf4 := hz.frozen 4
              have zc4 := hz.cell (j := 4) (by decide)
              have zf5 := hz.frozen 5
              have zc5 := hz.cell (j := 5) (by decide)
              have zf6 := hz.frozen 6
              have zc6 := hz.cell (j := 6) (by decide)
              go_wp2_with fail
              have KZ := set7_blk hz (.slice .none 0 0) (.slice .none 0 0) (.slice .none 0 0) (.slice .none 0 0) (.slice .none 0 0) (.slice .none 0 0) (.slice .none 0 0)
              have hbz := set7_below (b := w.heap.size + 2) hBw (by omega) (.slice .none 0 0) (.slice .none 0 0) (.slice .none 0 0) (.slice .none 0 0) (.slice .none 0 0) (.slice .none 0 0) (.slice .none 0 0)
              unfold set7 at KZ hbz
              obtain ⟨c0', c1', c2', c3', c4', c5', c6'⟩ := box_cells KZ
              refine bodyPost_ret (v := .tuple #[noneS.val, .int .i64 2]) (by simp [results, Try.results22, go_sem, noneS, St.val, c0', c1', c2', c3', c4', c5', c6']) rfl ?_
              exact ⟨noneS, by rw [HX.out]; rfl, noneS_at _, ⟨fun h => absurd h (by rw [HX.out]; decide), fun _ => ⟨rfl, rfl, rfl, rfl, rfl, rfl, rfl⟩⟩, hbz⟩
            · by_cases h7 : 1048576 < SI + n
              · have HX : Hid (recvE p s b g n = 2) := HT2.out (by omega) (.inr h7)
                have d6 : decide (200 < ON + CM + n) = false := decide_eq_false h6
                have d7 : decide (1048576 < SI + n) = true := decide_eq_true h7
                go_wp2_with fail
                refine wp_region_quiet_below (by kernel_rfl) (by kernel_rfl) ?_
                repeat (go_big_quiet_step ((go_at_call 60; exact Calls.regrown_of (hco.out _ (HSA.out.1.below (below_regrown _ _ _))))))
                refine wpQuiet_nil ?_
                intro _ hw'
                obtain ⟨⟨dq, osq⟩, hw''⟩ := hw'
                subst hw''
                have hB := hB.trans ((below_regrown w4 dq osq).mono hB.size)
                clear r1 r2 r3 s0 s1 s2 s3 s4 s5 s6 hco HSA hBw hz l1 l2
                generalize grow (redrawn w4 dq) osq = w5 at *
                obtain ⟨-, -, -, hBw, hz⟩ := HC.out w5 hB
                have zl := hz.lt
                have zf0 := hz.frozen 0
                have zc0 := hz.cell (j := 0) (by decide)
                have zf1 := hz.frozen 1
                have zc1 := hz.cell (j := 1) (by decide)
                have zf2 := hz.frozen 2
                have zc2 := hz.cell (j := 2) (by decide)
                have zf3 := hz.frozen 3
                have zc3 := hz.cell (j := 3) (by decide)
                have zf4 := hz.frozen 4
                have zc4 := hz.cell (j := 4) (by decide)
                have zf5 := hz.frozen 5
                have zc5 := hz.cell (j := 5) (by decide)
                have zf6 := hz.frozen 6
                have zc6 := hz.cell (j := 6) (by decide)
                go_wp2_with fail
                have KZ := set7_blk hz (.slice .none 0 0) (.slice .none 0 0) (.slice .none 0 0) (.slice .none 0 0) (.slice .none 0 0) (.slice .none 0 0) (.slice .none 0 0)
                have hbz := set7_below (b := w.heap.size + 2) hBw (by omega) (.slice .none 0 0) (.slice .none 0 0) (.slice .none 0 0) (.slice .none 0 0) (.slice .none 0 0) (.slice .none 0 0) (.slice .none 0 0)
                unfold set7 at KZ hbz
                obtain ⟨c0', c1', c2', c3', c4', c5', c6'⟩ := box_cells KZ
                refine bodyPost_ret (v := .tuple #[noneS.val, .int .i64 2]) (by simp [results, Try.results22, go_sem, noneS, St.val, c0', c1', c2', c3', c4', c5', c6']) rfl ?_
                exact ⟨noneS, by rw [HX.out]; rfl, noneS_at _, ⟨fun h => absurd h (by rw [HX.out]; decide), fun _ => ⟨rfl, rfl, rfl, rfl, rfl, rfl, rfl⟩⟩, hbz⟩
              · have HX : Hid (recvE p s b g n = 0) := HT0.out (by omega) (by rw [HLY.out]; omega)
                have d6 : decide (200 < ON + CM + n) = false := decide_eq_false h6
                have d7 : decide (1048576 < SI + n) = false := decide_eq_false h7
                go_wp2_with fail
                refine wp_region_quiet_below (by kernel_rfl) (by kernel_rfl) ?_
                repeat (go_big_quiet_step ((go_at_call 60; exact Calls.regrown_of (hco.out _ (HSA.out.1.below (below_regrown _ _ _))))))
                refine wpQuiet_nil ?_
                intro _ hw'
                obtain ⟨⟨dq, osq⟩, hw''⟩ := hw'
                subst hw''
                have hB := hB.trans ((below_regrown w4 dq osq).mono hB.size)
                clear r1 r2 r3 s0 s1 s2 s3 s4 s5 s6 hco HSA hBw hz l1 l2
                generalize grow (redrawn w4 dq) osq = w5 at *
                obtain ⟨⟨⟨l1, d0, d1⟩, l2, c0, c1, c2, c3, c4, c5, c6⟩, hpk, hsk, hBw, hz⟩ := HC.out w5 hB
                go_wp2_with fail
                refine (OwnState_any p s w5 hsk HF.out).mono ?_
                rintro e w6 ⟨o, rfl, hsame, hown, hB2⟩
                have hn1 : b < o.on.n := by rw [hsame.on.1]; exact hon
                obtain ⟨x1, x2⟩ := hsame.on.2 b hn1
                have hrn : (o.on.r b).n = p.ns := by rw [x1]; exact HF.out.sh.len b hon
                have hON : (o.on.r b).z g = ON := by rw [x2 g (by rw [hrn]; exact hg)]; exact HON.out
                have hin : o.si.n = p.ns := by rw [hsame.si.1]; exact HF.out.sin
                have hSI : o.si.z g = SI := by rw [hsame.si.2 g (by rw [hin]; exact hg)]; exact HSI.out
                have HIN : Hid (o.si.n = p.ns) := hin
                have HSM0 : Hid (SameT o s) := hsame
                have HSM : Hid (SameT (setIn (setOn o b g (ON + n)) g (SI + n)) (recvT s b g n)) := by
                  show SameT _ (recvT s b g n)
                  rw [HRT.out]
                  exact setIn_same (setOn_same hsame _ _ _) _ _
                obtain ⟨W7, hW7, hWB7, K7⟩ : ∃ W, w6.alloc (.cells #[.slice o.on.a o.on.n o.on.c, .slice o.os.a o.os.n o.os.c, .slice o.hs.a o.hs.n o.hs.c, .slice o.ms.a o.ms.n o.ms.c, .slice o.si.a o.si.n o.si.c, .slice o.so.a o.so.n o.so.c, .slice o.sf.a o.sf.n o.sf.c] 31) = W ∧ Below w6.heap.size w6 W ∧ Blk W w6.heap.size 31 7 (fun j => o.cells.getD j default) := ⟨_, rfl, (Below.refl _ _).alloc (Nat.le_refl _) _, Blk.mk' rfl rfl⟩
                have HW7 : Hid (w6.alloc (.cells #[.slice o.on.a o.on.n o.on.c, .slice o.os.a o.os.n o.os.c, .slice o.hs.a o.hs.n o.hs.c, .slice o.ms.a o.ms.n o.ms.c, .slice o.si.a o.si.n o.si.c, .slice o.so.a o.so.n o.so.c, .slice o.sf.a o.sf.n o.sf.c] 31) = W7) := hW7
                obtain ⟨B13, hB13⟩ : ∃ B, w6.heap.size = B := ⟨_, rfl⟩
                have q6 := hB.size
                have q7 := hB2.size
                have hge : W0.heap.size ≤ B13 := by omega
                rw [hB13] at K7
                have HB13 : Hid (w6.heap.size = B13) := hB13
                have hB7 := (hB.trans (hB2.mono hB.size)).trans (hWB7.mono (hB.trans (hB2.mono hB.size)).size)
                have hown7 := OwnS.below hown hWB7
                obtain ⟨gg, ga, gA, g1, g2, gk⟩ := hown7.on
                obtain ⟨Gb, ra, rA, r1', r2', rk⟩ := hown7.rows b hn1
                obtain ⟨Gi, ia, iA, i1', i2', ik⟩ := hown7.si
                have HOW : Hid (OwnS w5.heap.size W7 o ∧ o.on.a = some ⟨gg, 0, none⟩ ∧ (o.on.r b).a = some ⟨Gb, 0, none⟩ ∧ o.si.a = some ⟨Gi, 0, none⟩ ∧ w5.heap.size ≤ Gb ∧ w5.heap.size ≤ Gi ∧ Blk W7 B13 31 7 (fun j => o.cells.getD j default)) := ⟨hown7, ga, ra, ia, rA, iA, K7⟩
                obtain ⟨m7, p0, p1, p2, p3, p4, p5, p6⟩ := Boxed.of K7
                rw [ga] at p0
                rw [ia] at p4
                have y0 := gk.cell (j := b) hn1
                rw [ra, hrn] at y0
                have y1 := rk.cell (j := g) (by rw [hrn]; exact hg)
                rw [hON] at y1
                have y2 := ik.cell (j := g) (by rw [hin]; exact hg)
                rw [hSI] at y2
                have t0 : ∀ d os, (grow (redrawn W7 d) os).cell? ⟨B13, 0, none⟩ = some (.slice (some ⟨gg, 0, none⟩) o.on.n o.on.c) := fun d os => cell_regrown p0 d os
                have t1 : ∀ d os, (grow (redrawn W7 d) os).cell? ⟨gg, b, none⟩ = some (.slice (some ⟨Gb, 0, none⟩) p.ns (o.on.r b).c) := fun d os => cell_regrown y0 d os
                have t2 : ∀ d os, (grow (redrawn W7 d) os).cell? ⟨Gb, g, none⟩ = some (.int .i64 ON) := fun d os => cell_regrown y1 d os
                have v1 := g1
                have v2 := g2
                have v3 := r1'
                have v4 := r2'
                rw [hrn] at v3
                unfold maxLen at v2 v4
                unfold maxLen at i2'
                rw [hin] at i1'
                clear hown7 hown gk rk ik K7 hWB7 hW7 hB13 p0 p1 p2 p3 p4 p5 p6 y0 y1 y2 ga ra ia hpk hsk c0 c1 c2 c3 c4 c5 c6 x1 x2 hB2 hz hBw hON hSI hsame hrn hin
                simp only [St.val]
                go_wp2_with fail
                rw [HW7.out, HB13.out]
                clear HW7 HB13
                refine wp_region_made5 (fun w' => ∃ p : Regrown, w' = grow (redrawn W7 p.d) p.os) (List.range 17) [] [(true, 17)] (by kernel_rfl) (by kernel_rfl) (by kernel_rfl) (by kernel_rfl) (by kernel_rfl) (by kernel_rfl) (by kernel_rfl) (by kernel_rfl) (by kernel_rfl) (regrown_of_below ((Below.refl _ _).drew)) ?_
                rw [show List.range 17 = [0, 1, 2, 3, 4, 5, 6, 7, 8, 9, 10, 11, 12, 13, 14, 15, 16] from rfl]
                simp only [picks, List.drop_succ_cons, List.drop_zero, List.take_succ_cons, List.take_zero, List.cons_append, List.nil_append]
                repeat (go_big_quiet_step (fail))
                refine wpQuiet_nil ?_
                clear t0 t1 t2
                refine ⟨fun _ _ _ _ => True, List.forall_mem_nil _, List.forall_mem_nil _, List.forall_mem_nil _, fun V G wk hS _ _ => ?_⟩
                have hX := below_of_regrown hS
                obtain ⟨hO, hOa, hOb, hOi, hA1, hA2, hK⟩ := HOW.out
                have hO := OwnS.below hO hX
                have hK := hK.below hX
                obtain ⟨Gq, hGq, _, _, _, rk⟩ := hO.rows b hn1
                rw [hOb] at hGq
                simp only [Option.some.injEq, Addr.mk.injEq, and_true] at hGq
                subst hGq
                have zl := rk.lt
                have zf := rk.frozen g
                have HRN : Hid ((o.on.r b).n = p.ns) := (HSM0.out.on.2 b hn1).1.trans (HF.out.sh.len b hon)
                have zc := rk.cell (j := g) (by rw [HRN.out]; exact hg)
                have q8 := hX.size
                have hB8 := hB7.trans (hX.mono hB7.size)
                have q9 := hB.size
                have hst := hB8.setCell (p := ⟨Gb, g, none⟩) (by show W0.heap.size ≤ Gb; omega) (.int .i64 (ON + n))
                have hO2 := OwnS.setOn hO hn1 hOb g (ON + n)
                have hK2 := hK.other (a := ⟨Gb, g, none⟩) (Blk.ne2 hK rk (by decide)) (.int .i64 (ON + n))
                have HST : Hid (Below W0.heap.size W0 (wk.setCell ⟨Gb, g, none⟩ (.int .i64 (ON + n))) ∧ OwnS w5.heap.size (wk.setCell ⟨Gb, g, none⟩ (.int .i64 (ON + n))) (setOn o b g (ON + n)) ∧ Blk (wk.setCell ⟨Gb, g, none⟩ (.int .i64 (ON + n))) B13 31 7 (fun j => o.cells.getD j default)) := ⟨hst, hO2, hK2⟩
                clear hst hO2 hK2 hO hK rk hX hB8 hS
                simp only [putAll]
                refine wpSeq_one 17 rfl ?_
                go_wp2_with fail
                refine ⟨Late.yes, ?_⟩
                refine NoPanic.normal ?_
                generalize wk.setCell { block := Gb, off := g } (Value.int IntKind.i64 (ON + n)) = W9 at *
                clear zl zf zc
                obtain ⟨hB9, hO9, hK9⟩ := HST.out
                obtain ⟨Gq, hGq, _, _, _, ik⟩ := hO9.si
                rw [show (setOn o b g (ON + n)).si.a = some ⟨Gi, 0, none⟩ from hOi] at hGq
                simp only [Option.some.injEq, Addr.mk.injEq, and_true] at hGq
                subst hGq
                have y2 := ik.cell (j := g) (by show g < o.si.n; rw [HIN.out]; exact hg)
                have p4 := hK9.cell (j := 4) (by decide)
                have p4' : W9.cell? ⟨B13, 4, none⟩ = some (.slice o.si.a o.si.n o.si.c) := p4
                rw [hOi, HIN.out] at p4'
                have HSQ : Hid (o.si.z g = SI) := (HSM0.out.si.2 g (by rw [HIN.out]; exact hg)).trans HSI.out
                have y2' : W9.cell? ⟨Gi, g, none⟩ = some (.int .i64 (o.si.z g)) := y2
                rw [HSQ.out] at y2'
                have t0 : ∀ d os, (grow (redrawn W9 d) os).cell? ⟨B13, 4, none⟩ = some (.slice (some ⟨Gi, 0, none⟩) p.ns o.si.c) := fun d os => cell_regrown p4' d os
                have t1 : ∀ d os, (grow (redrawn W9 d) os).cell? ⟨Gi, g, none⟩ = some (.int .i64 SI) := fun d os => cell_regrown y2' d os
                clear hB9 hO9 hK9 ik y2 p4 p4' y2'
                go_wp2_with fail
                refine wp_region_made5 (fun w' => ∃ p : Regrown, w' = grow (redrawn W9 p.d) p.os) (List.range 11) [] [(true, 11)] (by kernel_rfl) (by kernel_rfl) (by kernel_rfl) (by kernel_rfl) (by kernel_rfl) (by kernel_rfl) (by kernel_rfl) (by kernel_rfl) (by kernel_rfl) (regrown_of_below ((Below.refl _ _).drew)) ?_
                rw [show List.range 11 = [0, 1, 2, 3, 4, 5, 6, 7, 8, 9, 10] from rfl]
                simp only [picks, List.drop_succ_cons, List.drop_zero, List.take_succ_cons, List.take_zero, List.cons_append, List.nil_append]
                repeat (go_big_quiet_step (fail))
                refine wpQuiet_nil ?_
                clear t0 t1
                refine ⟨fun _ _ _ _ => True, List.forall_mem_nil _, List.forall_mem_nil _, List.forall_mem_nil _, fun V G wk2 hS _ _ => ?_⟩
                have hX := below_of_regrown hS
                obtain ⟨hB9, hO9, hK9⟩ := HST.out
                have hO := OwnS.below hO9 hX
                have hK := hK9.below hX
                have hB10 := hB9.trans (hX.mono hB9.size)
                obtain ⟨Gq, hGq, _, _, _, ik⟩ := hO.si
                rw [show (setOn o b g (ON + n)).si.a = some ⟨Gi, 0, none⟩ from hOi] at hGq
                simp only [Option.some.injEq, Addr.mk.injEq, and_true] at hGq
                subst hGq
                have zl := ik.lt
                have zf := ik.frozen g
                have zc := ik.cell (j := g) (by show g < o.si.n; rw [HIN.out]; exact hg)
                have hst := hB10.setCell (p := ⟨Gi, g, none⟩) (by show W0.heap.size ≤ Gi; omega) (.int .i64 (SI + n))
                have hO2 := OwnS.setIn hO (show (setOn o b g (ON + n)).si.a = some ⟨Gi, 0, none⟩ from hOi) g (SI + n)
                have hK2 := hK.other (a := ⟨Gi, g, none⟩) (Blk.ne2 hK ik (by decide)) (.int .i64 (SI + n))
                have HS2 : Hid (Below W0.heap.size W0 (wk2.setCell ⟨Gi, g, none⟩ (.int .i64 (SI + n))) ∧ OwnS w5.heap.size (wk2.setCell ⟨Gi, g, none⟩ (.int .i64 (SI + n))) (setIn (setOn o b g (ON + n)) g (SI + n)) ∧ Blk (wk2.setCell ⟨Gi, g, none⟩ (.int .i64 (SI + n))) B13 31 7 (fun j => o.cells.getD j default)) := ⟨hst, hO2, hK2⟩
                clear hst hO2 hK2 hO hK ik hX hB10 hS hB9 hO9 hK9 HST
                simp only [putAll]
                refine wpSeq_one 11 rfl ?_
                go_wp2_with fail
                refine ⟨Late.yes, ?_⟩
                refine NoPanic.normal ?_
                generalize wk2.setCell { block := Gi, off := g } (Value.int IntKind.i64 (SI + n)) = W10 at *
                clear zl zf zc
                obtain ⟨hBt, hOt, hKt⟩ := HS2.out
                obtain ⟨_, _, _, hBw, hz⟩ := HC.out W10 hBt
                obtain ⟨m8, p0, p1, p2, p3, p4, p5, p6⟩ := Boxed.of hKt
                have zl := hz.lt
                have zf0 := hz.frozen 0
                have zc0 := hz.cell (j := 0) (by decide)
                have zf1 := hz.frozen 1
                have zc1 := hz.cell (j := 1) (by decide)
                have zf2 := hz.frozen 2
                have zc2 := hz.cell (j := 2) (by decide)
                have zf3 := hz.frozen 3
                have zc3 := hz.cell (j := 3) (by decide)
                have zf4 := hz.frozen 4
                have zc4 := hz.cell (j := 4) (by decide)
                have zf5 := hz.frozen 5
                have zc5 := hz.cell (j := 5) (by decide)
                have zf6 := hz.frozen 6
                have zc6 := hz.cell (j := 6) (by decide)
                clear hBt hOt hKt hBw hz hOa hOb hOi hO hK
                go_wp2_with fail
                obtain ⟨hBt, hOt, hKt⟩ := HS2.out
                obtain ⟨_, _, _, hBw, hz⟩ := HC.out W10 hBt
                have KZ := set7_blk hz (.slice o.on.a o.on.n o.on.c) (.slice o.os.a o.os.n o.os.c) (.slice o.hs.a o.hs.n o.hs.c) (.slice o.ms.a o.ms.n o.ms.c) (.slice o.si.a o.si.n o.si.c) (.slice o.so.a o.so.n o.so.c) (.slice o.sf.a o.sf.n o.sf.c)
                have hbz := set7_below (b := w.heap.size + 2) hBw (by omega) (.slice o.on.a o.on.n o.on.c) (.slice o.os.a o.os.n o.os.c) (.slice o.hs.a o.hs.n o.hs.c) (.slice o.ms.a o.ms.n o.ms.c) (.slice o.si.a o.si.n o.si.c) (.slice o.so.a o.so.n o.so.c) (.slice o.sf.a o.sf.n o.sf.c)
                have hOz := OwnS.set7 hOt hz (.slice o.on.a o.on.n o.on.c) (.slice o.os.a o.os.n o.os.c) (.slice o.hs.a o.hs.n o.hs.c) (.slice o.ms.a o.ms.n o.ms.c) (.slice o.si.a o.si.n o.si.c) (.slice o.so.a o.so.n o.so.c) (.slice o.sf.a o.sf.n o.sf.c)
                unfold set7 at KZ hbz hOz
                obtain ⟨c0', c1', c2', c3', c4', c5', c6'⟩ := box_cells KZ
                refine bodyPost_ret (v := .tuple #[(setIn (setOn o b g (ON + n)) g (SI + n)).val, .int .i64 0]) (by simp [results, Try.results22, go_sem, setIn, setOn, setRw, St.val, c0', c1', c2', c3', c4', c5', c6']) rfl ?_
                exact ⟨setIn (setOn o b g (ON + n)) g (SI + n), by rw [HX.out]; rfl, hOz.at, ⟨fun _ => HSM.out, fun h => absurd HX.out h⟩, hbz⟩
  · have HX : Hid (recvE p s bin good n = stateE p s) := recvE_state h0
    clear hpk hsk c0 c1 c2 c3 c4 c5 c6
    have zl := hz.lt
    have zf0 := hz.frozen 0
    have zc0 := hz.cell (j := 0) (by decide)
    have zf1 := hz.frozen 1
    have zc1 := hz.cell (j := 1) (by decide)
    have zf2 := hz.frozen 2
    have zc2 := hz.cell (j := 2) (by decide)
    have zf3 := hz.frozen 3
    have zc3 := hz.cell (j := 3) (by decide)
    have zf4 := hz.frozen 4
    have zc4 := hz.cell (j := 4) (by decide)
    have zf5 := hz.frozen 5
    have zc5 := hz.cell (j := 5) (by decide)
    have zf6 := hz.frozen 6
    have zc6 := hz.cell (j := 6) (by decide)
    go_wp2_with fail
    have KZ := set7_blk hz (.slice .none 0 0) (.slice .none 0 0) (.slice .none 0 0) (.slice .none 0 0) (.slice .none 0 0) (.slice .none 0 0) (.slice .none 0 0)
    have hbz := set7_below (b := w.heap.size + 2) hBw (by omega) (.slice .none 0 0) (.slice .none 0 0) (.slice .none 0 0) (.slice .none 0 0) (.slice .none 0 0) (.slice .none 0 0) (.slice .none 0 0)
    unfold set7 at KZ hbz
    obtain ⟨c0', c1', c2', c3', c4', c5', c6'⟩ := box_cells KZ
    refine bodyPost_ret (v := .tuple #[noneS.val, .int .i64 (stateE p s)]) (by simp [results, Try.results22, go_sem, noneS, St.val, c0', c1', c2', c3', c4', c5', c6']) rfl ?_
    exact ⟨noneS, by rw [HX.out]; rfl, noneS_at _, ⟨fun h => absurd h (by rw [HX.out]; exact h0), fun _ => ⟨rfl, rfl, rfl, rfl, rfl, rfl, rfl⟩⟩, hbz⟩

end Go.Proofs.Ytjiodlbblmbibac
/- Put, where it puts: its answer is new since the call. -/
namespace Go.Proofs.Ytjiodlbblmbibac
open Go.RowKit Go.Shelf
set_option linter.unusedVariables false

/-- Rows of the call's own, new since A, no two in one block. -/
structure OwnR (A : Nat) (w : World) (s : Sh) : Prop where
  on : ∃ g, s.a = some ⟨g, 0, none⟩ ∧ A ≤ g ∧ s.n ≤ s.c ∧ s.c ≤ maxLen ∧ Blk w g 23 s.n (fun i => .slice (s.r i).a (s.r i).n (s.r i).c)
  rows : ∀ i, i < s.n → OwnI A w (s.r i)
  rapart : ∀ i j, i < j → j < s.n → (s.r i).a ≠ (s.r j).a

set_option maxHeartbeats 1000000 in
theorem PutOwn_any (p : Pl) (s : Sh) (bin good n : Int) (w : World) (hp : p.At w) (hs : s.At w) (hput : putE p s bin good n = 0) :
    Calls Try.prog 57 #[p.val, s.val, .int .i64 bin, .int .i64 good, .int .i64 n] w fun e w' => ∃ s' : Sh, e = .returned (.tuple #[s'.val, .int .i64 0]) ∧ OwnR w.heap.size w' s' ∧ s'.n = s.n ∧ (∀ i, i < s.n → (s'.r i).n = (s.r i).n ∧ ∀ j, j < (s.r i).n → (s'.r i).z j = putZ s bin good n i j) ∧ Below w.heap.size w w' := by
  have hB0 : Below w.heap.size w (w.alloc (.cells #[.slice p.ab p.nb p.cb, .slice p.sa p.ns p.cs] 25)) := (Below.refl w.heap.size w).alloc (Nat.le_refl _) _
  simp only [Pl.val, Sh.val]
  have sle := hs.le
  have scap0 := hs.cap
  have scap := scap0
  unfold maxLen at scap
  have hn0 : s.n ≤ maxLen := Nat.le_trans sle scap0
  have les := hp.les
  have caps0 := hp.caps
  have hn1 : p.ns ≤ maxLen := Nat.le_trans les caps0
  have caps := caps0
  unfold maxLen at caps
  go_enter Try.func57, Try.ntmps57
  go_wp2_with fail
  refine (shelfCheck_any p s _ (hp.below hB0) (hs.below hB0)).mono ?_
  rintro e w1 ⟨rfl, hB⟩
  have hBw := hB0.trans (hB.mono (by simp))
  have hsz : w.heap.size < w1.heap.size := by have := hB.size; simp at this; omega
  have c1 : w1.cell? ⟨w.heap.size, 1, none⟩ = some (.slice p.sa p.ns p.cs) := (hB.cell (p := ⟨w.heap.size, 1, none⟩) (by simp)).trans (by simp)
  have h0 : shelfE p s = 0 := by
    apply Classical.byContradiction
    intro h0
    have hE : shelfErr p s bin good = shelfE p s := by simp [shelfErr, h0]
    simp [putE, hE, h0] at hput
  have hE := shelfErr_eq (bin := bin) (good := good) h0
  have h1 : inB bin 0 ((s.n : Int) - 1) = true := by
    cases h1 : inB bin 0 ((s.n : Int) - 1)
    · simp [putE, hE, h1] at hput
    · rfl
  have h2 : inB good 0 ((p.ns : Int) - 1) = true := by
    cases h2 : inB good 0 ((p.ns : Int) - 1)
    · simp [putE, hE, h1, h2] at hput
    · rfl
  have hE0 : shelfErr p s bin good = 0 := by simp [hE, h1, h2]
  clear hE
  obtain ⟨m, rfl⟩ := Int.eq_ofNat_of_zero_le (inB_true h1).1
  obtain ⟨q, rfl⟩ := Int.eq_ofNat_of_zero_le (inB_true h2).1
  have hm : m < s.n := by have := (inB_true h1).2; omega
  have hq : q < p.ns := by have := (inB_true h2).2; omega
  obtain ⟨pl, hn, hlen, hnum⟩ := (rightS h0).2
  have hz := hnum m hm q hq
  have hl := hlen m hm
  have h6 := pl.nb6
  rw [← hn] at h6
  have hr3 : Hid (∀ i, i < s.n → 1 ≤ (s.r i).n ∧ (s.r i).n ≤ 3) := fun i hi => by rw [hlen i hi]; exact ⟨pl.ns1, pl.ns3⟩
  have hs1 := hs.below hBw
  have m1 : (0 : Int) ≤ (m : Int) := by omega
  have m2 : (0 : Int) ≤ (q : Int) := by omega
  obtain ⟨b, o, ha, hb, z0, hat⟩ := hs1.rows m hm
  obtain ⟨b1, o1, ha1, hb1, y0⟩ := hat.ints q (by omega)
  rw [ha1] at z0
  have hql : q < (s.r m).n := by omega
  have rle := hat.le
  have rcap := hat.cap
  unfold maxLen at rcap
  have h3 : inB n (-((s.r m).z q)) (200 - (s.r m).z q) = true := by
    cases h3 : inB n (-((s.r m).z q)) (200 - (s.r m).z q)
    · simp [putE, hE0, h3] at hput
    · rfl
  clear hput
  clear pl hn hlen hnum ha1 hat hE0 hl
  obtain ⟨s0, sn, sc, sr⟩ := s
  dsimp only at *
  subst ha
  go_wp2_with (first | (go_at_call_of 30 (Value.int .i64 (m : Int)); refine calls_to (Has_any _ _ _ hn0) ?_) | (go_at_call_of 30 (Value.int .i64 (q : Int)); refine calls_to (Has_any _ _ _ hn1) ?_) | (go_at_call 55; refine calls_to (Within_any _ _ _ _) ?_))
  refine (copyRows_any ⟨some ⟨b, o, none⟩, sn, sc, sr⟩ w1 hs1 h6 hr3.out).mono ?_
  rintro e w2 ⟨g, G, C, rfl, hg, gb, gr, gm, hB2⟩
  dsimp only at gb gr gm ⊢
  obtain ⟨g1, g2, g3, g4⟩ := gr m hm
  have d0 := gb.cell hm
  have d1 := g4.cell hql
  have d2 := g4.frozen q
  have hnn := inB_true h3
  unfold maxLen at g3
  have hB3 := hBw.trans (hB2.mono hBw.size)
  have hge : w.heap.size ≤ G m := by have := hBw.size; omega
  have st := hB3.setCell (p := ⟨G m, q, none⟩) hge (.int .i64 ((sr m).z q + n))
  have HH : Hid _ := And.intro gb (And.intro gr gm)
  clear gb gr gm c1 y0 z0
  go_wp2_with fail
  go_ret2
  obtain ⟨gb, gr, gm⟩ := HH.out
  refine ⟨⟨some ⟨g, 0, none⟩, sn, sn, fun i => ⟨some ⟨G i, 0, none⟩, (sr i).n, C i, fun j => putZ ⟨some ⟨b, o, none⟩, sn, sc, sr⟩ m q n i j⟩⟩, rfl, ⟨⟨g, rfl, ?_, Nat.le_refl _, hn0, ?_⟩, ?_, ?_⟩, rfl, fun i hi => ⟨rfl, fun j hj => rfl⟩, st⟩
  · have := hBw.size; omega
  · exact gb.other (a := ⟨G m, q, none⟩) (by show g ≠ G m; omega) (.int .i64 ((sr m).z q + n))
  · intro i hi
    have gi := gr i hi
    refine ⟨G i, rfl, ?_, gi.2.1, gi.2.2.1, ?_⟩
    · have := hBw.size; omega
    · by_cases him : i = m
      · subst him
        refine (gi.2.2.2.set q (.int .i64 ((sr i).z q + n))).congr fun j hj => ?_
        by_cases hjq : j = q
        · subst hjq; simp [putZ]
        · simp [putZ, hjq]
      · have hGne : G i ≠ G m := by
          rcases Nat.lt_or_gt_of_ne him with h | h
          · have := gm i m h hm; omega
          · have := gm m i h hi; omega
        refine (gi.2.2.2.other (a := ⟨G m, q, none⟩) hGne (.int .i64 ((sr m).z q + n))).congr fun j hj => ?_
        simp [putZ, him]
  · intro i j hij hj h
    have := gm i j hij hj
    simp only [Option.some.injEq, Addr.mk.injEq, and_true] at h
    omega

end Go.Proofs.Ytjiodlbblmbibac
/- How many lie in a bin, with those that are to move there: bins.Lying. -/
namespace Go.Proofs.Ytjiodlbblmbibac
open Go.RowKit Go.Shelf Go.Sort
set_option linter.unusedVariables false

set_option maxHeartbeats 4000000 in
theorem Lying_any (p : Pl) (s : St) (bin good : Nat) (w : World) (hs : s.At w) (f : Formed p s) (hbin : bin < p.nb) (hgood : good < p.ns) :
    Calls Try.prog 56 #[s.val, .int .i64 bin, .int .i64 good] w fun e w' => e = .returned (.int .i64 (lyingZ s bin good)) ∧ Below w.heap.size w w' := by
  obtain ⟨W0, hW0, hWB, hX⟩ : ∃ W0, w.alloc (.cells s.cells 31) = W0 ∧ Below w.heap.size w W0 ∧ Blk W0 w.heap.size 31 7 (fun j => s.cells.getD j default) := ⟨_, rfl, (Below.refl w.heap.size w).alloc (Nat.le_refl _) _, Blk.mk' rfl rfl⟩
  have hs0 := hs.below hWB
  have hon : bin < s.on.n := by rw [f.sh.n]; exact hbin
  obtain ⟨bo, oo, hoa, hbo, y0, hrow⟩ := hs0.on.rows bin hon
  have hrn := f.sh.len bin hon
  have hnum := f.sh.num bin hon good hgood
  obtain ⟨br, orr, hra, hbr, y1⟩ := hrow.ints good (by omega)
  have hrle := hrow.le
  have hrcap := hrow.cap
  have hole := hs0.on.le
  have hocap := hs0.on.cap
  unfold maxLen at hrcap hocap
  rw [hra, hrn] at y0
  rw [hrn] at hrle
  have c0 : W0.cell? ⟨w.heap.size, 0, none⟩ = some (.slice s.on.a s.on.n s.on.c) := hX.cell (j := 0) (by decide)
  rw [hoa] at c0
  have l0 := hX.lt
  have HOA : Hid (s.on.a = some ⟨bo, oo, none⟩) := hoa
  have b0 : (0 : Int) ≤ (bin : Int) := by omega
  have g0 : (0 : Int) ≤ (good : Int) := by omega
  have HLY : Hid (∀ k, k = s.ms.n → lyingZ s bin good = (s.on.r bin).z good + comingTo s bin good k) := fun k hk => by subst hk; rfl
  have HC : Hid (∀ wk, Below W0.heap.size W0 wk → s.At wk ∧ wk.cell? ⟨w.heap.size, 3, none⟩ = some (.slice s.ms.a s.ms.n s.ms.c) ∧ w.heap.size < wk.heap.size) :=
    fun wk h => ⟨hs0.below h, (hX.below h).cell (j := 3) (by decide), (hX.below h).lt⟩
  have hmle := hs0.ms.le
  have hmcap := hs0.ms.cap
  unfold maxLen at hmcap
  have m8 := f.ms8
  have MB : Hid (∀ k, k ≤ s.ms.n → 0 ≤ comingTo s bin good k ∧ comingTo s bin good k ≤ 200 * k) := fun k hk => comingTo_bd fun j hj => f.moveN j (by omega)
  have HW : Hid (w.alloc (.cells #[.slice (some ⟨bo, oo, none⟩) s.on.n s.on.c, .slice s.os.a s.os.n s.os.c, .slice s.hs.a s.hs.n s.hs.c, .slice s.ms.a s.ms.n s.ms.c, .slice s.si.a s.si.n s.si.c, .slice s.so.a s.so.n s.so.c, .slice s.sf.a s.sf.n s.sf.c] 31) = W0) := by show _ = W0; rw [← hW0, St.cells, hoa]
  have y0e := y0
  have y1e := y1
  have hboe := hbo
  have hbre := hbr
  rw [← HW.out] at y0e y1e hboe hbre
  simp only [St.val, hoa]
  clear hX hW0 hrow hs hs0
  clear hoa hra c0 l0 y0 y1 hbo hbr hrn
  generalize (s.on.r bin).z good = ON at *
  go_enter Try.func56, Try.ntmps56
  go_wp2_with fail
  rw [HW.out]
  clear y0e y1e hboe hbre
  go_loopw [7, 21] (fun u i wk => ∃ k : Nat, k ≤ s.ms.n ∧ i = .int .i64 k ∧ u = .int .i64 (ON + comingTo s bin good k) ∧ Below W0.heap.size W0 wk) (fun _ i _ => s.ms.n - (intOf i).toNat)
  case atStart => exact ⟨0, Nat.zero_le _, rfl, by simp [comingTo], Below.refl _ _⟩
  case round =>
    obtain ⟨k, hk, rfl, rfl, hB⟩ := hrel
    have m2 := MB.out k hk
    obtain ⟨hsk, c3, hlt0⟩ := HC.out wr hB
    by_cases hlt2 : k < s.ms.n
    · obtain ⟨b, q, hma, hb, z0, z1, z2, z3⟩ := hsk.ms.hds k hlt2
      have m3 := f.moveN k hlt2
      have H1 : Hid (((s.ms.z k).b = bin ∧ (s.ms.z k).o = good → comingTo s bin good (k + 1) = comingTo s bin good k + (s.ms.z k).n) ∧ (¬ ((s.ms.z k).b = bin ∧ (s.ms.z k).o = good) → comingTo s bin good (k + 1) = comingTo s bin good k)) := ⟨fun h => comingTo_hit h.1 h.2, comingTo_miss⟩
      have q4 : (0 : Int) ≤ (k : Int) := by omega
      rw [hma]
      obtain ⟨W1, hW1, hB1⟩ : ∃ W1, wr.alloc (.cells #[.int .i64 (s.ms.z k).o, .int .i64 (s.ms.z k).l, .int .i64 (s.ms.z k).b, .int .i64 (s.ms.z k).n] 70) = W1 ∧ Below W0.heap.size W0 W1 := ⟨_, rfl, hB.alloc hB.size _⟩
      have HV : Hid (wr.alloc (.cells #[.int .i64 (s.ms.z k).o, .int .i64 (s.ms.z k).l, .int .i64 (s.ms.z k).b, .int .i64 (s.ms.z k).n] 70) = W1) := hW1
      clear hma hsk hW1 c3 hlt0
      generalize comingTo s bin good k = U at *
      generalize (s.ms.z k).b = BB at *
      generalize (s.ms.z k).n = NN at *
      generalize (s.ms.z k).l = LL at *
      generalize (s.ms.z k).o = GD at *
      cases h1 : (BB == (bin : Int))
      · have hm := H1.out.2 (by simp at h1; omega)
        have HM : Hid (comingTo s bin good (k + 1) = U) := hm
        clear hm H1
        go_wp2_with fail
        rw [HV.out]
        go_roundw
        case rel => exact ⟨k + 1, by omega, by go_num, by rw [HM.out], hB1⟩
        case measure => simp [intOf]; omega
      · cases h2 : (GD == (good : Int))
        · have hm := H1.out.2 (by simp at h2; omega)
          have HM : Hid (comingTo s bin good (k + 1) = U) := hm
          clear hm H1
          go_wp2_with fail
          rw [HV.out]
          go_roundw
          case rel => exact ⟨k + 1, by omega, by go_num, by rw [HM.out], hB1⟩
          case measure => simp [intOf]; omega
        · have hm := H1.out.1 ⟨by simpa using h1, by simpa using h2⟩
          have HM : Hid (comingTo s bin good (k + 1) = U + NN) := hm
          clear hm H1
          go_wp2_with fail
          rw [HV.out]
          go_roundw
          case rel => exact ⟨k + 1, by omega, by go_num, by rw [HM.out]; congr 1; omega, hB1⟩
          case measure => simp [intOf]; omega
    · have hkn : k = s.ms.n := by omega
      subst hkn
      go_wp2_with fail
      go_ret
      exact ⟨by rw [HLY.out _ rfl]; rfl, hWB.trans (hB.mono hWB.size)⟩

end Go.Proofs.Ytjiodlbblmbibac
/- What the code receives: recv.Receive. -/
namespace Go.Proofs.Ytjiodlbblmbibac
open Go.RowKit Go.Shelf Go.Sort
set_option linter.unusedVariables false

theorem OwnS.swap {A B : Nat} {w0 w : World} {o : St} {r : Sh} (h : OwnS A w0 o) (hB : Below w0.heap.size w0 w) (hR : OwnR B w r) (hw : w0.heap.size ≤ B) (hA : A ≤ B) : OwnS A w ⟨r, o.os, o.hs, o.ms, o.si, o.so, o.sf⟩ := by
  have k := OwnS.below h hB
  obtain ⟨G1, a1, -, -, -, k1⟩ := h.si
  obtain ⟨G2, a2, -, -, -, k2⟩ := h.so
  obtain ⟨G3, a3, -, -, -, k3⟩ := h.sf
  have l1 := k1.lt
  have l2 := k2.lt
  have l3 := k3.lt
  refine ⟨?_, fun i hi => ?_, hR.rapart, k.os, k.hs, k.ms, k.msr, k.si, k.so, k.sf, k.aio, k.aif, k.aof, fun i hi => ?_⟩
  · obtain ⟨g, h1, h2, h3⟩ := hR.on
    exact ⟨g, h1, by omega, h3⟩
  · obtain ⟨g, h1, h2, h3⟩ := hR.rows i hi
    exact ⟨g, h1, by omega, h3⟩
  · obtain ⟨g, h1, h2, h3⟩ := hR.rows i hi
    show (r.r i).a ≠ o.si.a ∧ (r.r i).a ≠ o.so.a ∧ (r.r i).a ≠ o.sf.a
    rw [h1, a1, a2, a3]
    simp only [ne_eq, Option.some.injEq, Addr.mk.injEq, and_true]
    omega

set_option maxRecDepth 100000 in
set_option maxHeartbeats 8000000 in
theorem Receive_any (p : Pl) (s : St) (bin good n : Int) (w : World) (hp : p.At w) (hs : s.At w) :
    Calls Try.prog 21 #[p.val, s.val, .int .i64 bin, .int .i64 good, .int .i64 n] w fun e w' => ∃ s' : St, e = .returned (.tuple #[s'.val, .int .i64 (recvE p s bin good n)]) ∧ s'.At w' ∧ ActOK (recvE p s bin good n) (recvT s bin.toNat good.toNat n) s' ∧ Below w.heap.size w w' := by
  obtain ⟨W0, hW, hWB, X0, Z0⟩ : ∃ W, (((w.alloc (.cells #[.slice p.ab p.nb p.cb, .slice p.sa p.ns p.cs] 25)).alloc (.cells s.cells 31)).alloc (.cells #[.slice .none 0 0, .slice .none 0 0, .slice .none 0 0, .slice .none 0 0, .slice .none 0 0, .slice .none 0 0, .slice .none 0 0] 31)) = W ∧ Below w.heap.size w W ∧ Boxes W w.heap.size (w.heap.size + 1) p s ∧ Blk W (w.heap.size + 2) 31 7 (fun _ => .slice .none 0 0) :=
    ⟨_, rfl, (two_below _ _ _).alloc (by simp; omega) _, (boxes_new w p s _ _).below ((Below.refl _ _).alloc (Nat.le_refl _) _), (Blk.mk' (cur := #[.slice .none 0 0, .slice .none 0 0, .slice .none 0 0, .slice .none 0 0, .slice .none 0 0, .slice .none 0 0, .slice .none 0 0]) (by simp) rfl).congr (fun j hj => by match j, hj with | 0, _ => rfl | 1, _ => rfl | 2, _ => rfl | 3, _ => rfl | 4, _ => rfl | 5, _ => rfl | 6, _ => rfl)⟩
  have HC : Hid (∀ wk, Below W0.heap.size W0 wk → Boxes wk w.heap.size (w.heap.size + 1) p s ∧ p.At wk ∧ s.At wk ∧ Below w.heap.size w wk ∧ Blk wk (w.heap.size + 2) 31 7 (fun _ => .slice .none 0 0)) := fun wk h => ⟨X0.below h, (hp.below hWB).below h, (hs.below hWB).below h, hWB.trans (h.mono hWB.size), Z0.below h⟩
  have HW : Hid (((w.alloc (.cells #[.slice p.ab p.nb p.cb, .slice p.sa p.ns p.cs] 25)).alloc (.cells #[.slice s.on.a s.on.n s.on.c, .slice s.os.a s.os.n s.os.c, .slice s.hs.a s.hs.n s.hs.c, .slice s.ms.a s.ms.n s.ms.c, .slice s.si.a s.si.n s.si.c, .slice s.so.a s.so.n s.so.c, .slice s.sf.a s.sf.n s.sf.c] 31)).alloc (.cells #[.slice .none 0 0, .slice .none 0 0, .slice .none 0 0, .slice .none 0 0, .slice .none 0 0, .slice .none 0 0, .slice .none 0 0] 31) = W0) := hW
  have leb := hp.leb
  have capb0 := hp.capb
  have les := hp.les
  have caps0 := hp.caps
  have capb := capb0
  have caps := caps0
  have zlt0 := Z0.lt
  unfold maxLen at capb caps
  clear hW X0 Z0 hp hs
  unfold Pl.val St.val
  go_enter Try.func21, Try.ntmps21
  go_wp2_with fail
  rw [HW.out]
  obtain ⟨X, hpk, hsk, hBw, hz⟩ := HC.out W0 (Below.refl _ _)
  refine (stateCheck_any p s W0 hpk hsk).mono ?_
  rintro e w1 ⟨rfl, hB⟩
  clear X hpk hsk hBw hz HW
  obtain ⟨⟨⟨l1, d0, d1⟩, l2, c0, c1, c2, c3, c4, c5, c6⟩, hpk, hsk, hBw, hz⟩ := HC.out w1 hB
  have hnb : p.nb ≤ maxLen := Nat.le_trans leb capb0
  have hns : p.ns ≤ maxLen := Nat.le_trans les caps0
  by_cases h0 : stateE p s = 0
  · have H0 : Hid (stateE p s = 0) := h0
    have HF : Hid (Formed p s) := (rightT h0).fm
    rw [h0]
    clear h0
    cases k1 : inB bin 0 ((p.nb : Int) - 1)
    · have HX : Hid (recvE p s bin good n = 3) := recvE_range H0.out (by rw [k1]; rfl)
      clear c0 c1 c2 c3 c4 c5 c6 hpk hsk
      have zl := hz.lt
      have zf0 := hz.frozen 0
      have zc0 := hz.cell (j := 0) (by decide)
      have zf1 := hz.frozen 1
      have zc1 := hz.cell (j := 1) (by decide)
      have zf2 := hz.frozen 2
      have zc2 := hz.cell (j := 2) (by decide)
      have zf3 := hz.frozen 3
      have zc3 := hz.cell (j := 3) (by decide)
      have zf4 := hz.frozen 4
      have zc4 := hz.cell (j := 4) (by decide)
      have zf5 := hz.frozen 5
      have zc5 := hz.cell (j := 5) (by decide)
      have zf6 := hz.frozen 6
      have zc6 := hz.cell (j := 6) (by decide)
      go_wp2_with (first | (go_at_call_of 30 (Value.int .i64 bin); refine calls_to (Has_any _ _ _ hnb) ?_) | (go_at_call_of 30 (Value.int .i64 good); refine calls_to (Has_any _ _ _ hns) ?_) | (go_at_call 55; refine calls_to (Within_any _ _ _ _) ?_))
      have KZ := set7_blk hz (.slice .none 0 0) (.slice .none 0 0) (.slice .none 0 0) (.slice .none 0 0) (.slice .none 0 0) (.slice .none 0 0) (.slice .none 0 0)
      have hbz := set7_below (b := w.heap.size + 2) hBw (by omega) (.slice .none 0 0) (.slice .none 0 0) (.slice .none 0 0) (.slice .none 0 0) (.slice .none 0 0) (.slice .none 0 0) (.slice .none 0 0)
      unfold set7 at KZ hbz
      obtain ⟨c0', c1', c2', c3', c4', c5', c6'⟩ := box_cells KZ
      refine bodyPost_ret (v := .tuple #[noneS.val, .int .i64 3]) (by simp [results, Try.results21, go_sem, noneS, St.val, c0', c1', c2', c3', c4', c5', c6']) rfl ?_
      exact ⟨noneS, by rw [HX.out]; rfl, noneS_at _, ⟨fun h => absurd h (by rw [HX.out]; decide), fun _ => ⟨rfl, rfl, rfl, rfl, rfl, rfl, rfl⟩⟩, hbz⟩
    cases k2 : inB good 0 ((p.ns : Int) - 1)
    · have HX : Hid (recvE p s bin good n = 3) := recvE_range H0.out (by rw [k1, k2]; rfl)
      clear c0 c1 c2 c3 c4 c5 c6 hpk hsk
      have zl := hz.lt
      have zf0 := hz.frozen 0
      have zc0 := hz.cell (j := 0) (by decide)
      have zf1 := hz.frozen 1
      have zc1 := hz.cell (j := 1) (by decide)
      have zf2 := hz.frozen 2
      have zc2 := hz.cell (j := 2) (by decide)
      have zf3 := hz.frozen 3
      have zc3 := hz.cell (j := 3) (by decide)
      have zf4 := hz.frozen 4
      have zc4 := hz.cell (j := 4) (by decide)
      have zf5 := hz.frozen 5
      have zc5 := hz.cell (j := 5) (by decide)
      have zf6 := hz.frozen 6
      have zc6 := hz.cell (j := 6) (by decide)
      go_wp2_with (first | (go_at_call_of 30 (Value.int .i64 bin); refine calls_to (Has_any _ _ _ hnb) ?_) | (go_at_call_of 30 (Value.int .i64 good); refine calls_to (Has_any _ _ _ hns) ?_) | (go_at_call 55; refine calls_to (Within_any _ _ _ _) ?_))
      have KZ := set7_blk hz (.slice .none 0 0) (.slice .none 0 0) (.slice .none 0 0) (.slice .none 0 0) (.slice .none 0 0) (.slice .none 0 0) (.slice .none 0 0)
      have hbz := set7_below (b := w.heap.size + 2) hBw (by omega) (.slice .none 0 0) (.slice .none 0 0) (.slice .none 0 0) (.slice .none 0 0) (.slice .none 0 0) (.slice .none 0 0) (.slice .none 0 0)
      unfold set7 at KZ hbz
      obtain ⟨c0', c1', c2', c3', c4', c5', c6'⟩ := box_cells KZ
      refine bodyPost_ret (v := .tuple #[noneS.val, .int .i64 3]) (by simp [results, Try.results21, go_sem, noneS, St.val, c0', c1', c2', c3', c4', c5', c6']) rfl ?_
      exact ⟨noneS, by rw [HX.out]; rfl, noneS_at _, ⟨fun h => absurd h (by rw [HX.out]; decide), fun _ => ⟨rfl, rfl, rfl, rfl, rfl, rfl, rfl⟩⟩, hbz⟩
    cases k3 : inB n 1 200
    · have HX : Hid (recvE p s bin good n = 3) := recvE_range H0.out (by rw [k1, k2, k3]; rfl)
      clear c0 c1 c2 c3 c4 c5 c6 hpk hsk
      have zl := hz.lt
      have zf0 := hz.frozen 0
      have zc0 := hz.cell (j := 0) (by decide)
      have zf1 := hz.frozen 1
      have zc1 := hz.cell (j := 1) (by decide)
      have zf2 := hz.frozen 2
      have zc2 := hz.cell (j := 2) (by decide)
      have zf3 := hz.frozen 3
      have zc3 := hz.cell (j := 3) (by decide)
      have zf4 := hz.frozen 4
      have zc4 := hz.cell (j := 4) (by decide)
      have zf5 := hz.frozen 5
      have zc5 := hz.cell (j := 5) (by decide)
      have zf6 := hz.frozen 6
      have zc6 := hz.cell (j := 6) (by decide)
      go_wp2_with (first | (go_at_call_of 30 (Value.int .i64 bin); refine calls_to (Has_any _ _ _ hnb) ?_) | (go_at_call_of 30 (Value.int .i64 good); refine calls_to (Has_any _ _ _ hns) ?_) | (go_at_call 55; refine calls_to (Within_any _ _ _ _) ?_))
      have KZ := set7_blk hz (.slice .none 0 0) (.slice .none 0 0) (.slice .none 0 0) (.slice .none 0 0) (.slice .none 0 0) (.slice .none 0 0) (.slice .none 0 0)
      have hbz := set7_below (b := w.heap.size + 2) hBw (by omega) (.slice .none 0 0) (.slice .none 0 0) (.slice .none 0 0) (.slice .none 0 0) (.slice .none 0 0) (.slice .none 0 0) (.slice .none 0 0)
      unfold set7 at KZ hbz
      obtain ⟨c0', c1', c2', c3', c4', c5', c6'⟩ := box_cells KZ
      refine bodyPost_ret (v := .tuple #[noneS.val, .int .i64 3]) (by simp [results, Try.results21, go_sem, noneS, St.val, c0', c1', c2', c3', c4', c5', c6']) rfl ?_
      exact ⟨noneS, by rw [HX.out]; rfl, noneS_at _, ⟨fun h => absurd h (by rw [HX.out]; decide), fun _ => ⟨rfl, rfl, rfl, rfl, rfl, rfl, rfl⟩⟩, hbz⟩
    obtain ⟨b, rfl⟩ := Int.eq_ofNat_of_zero_le (inB_true k1).1
    obtain ⟨g, rfl⟩ := Int.eq_ofNat_of_zero_le (inB_true k2).1
    have hb : b < p.nb := by have := (inB_true k1).2; omega
    have hg : g < p.ns := by have := (inB_true k2).2; omega
    have hn := inB_true k3
    have K3 : Hid (inB n 1 200 = true) := k3
    have pz := HF.out.sh.pl.sizes g hg
    have fb := freeZ_bd HF.out hb
    have mb := mul_bd (a := n) (b := p.zs g) ⟨by omega, hn.2⟩ pz
    have qb : (0 : Int) ≤ (b : Int) := by omega
    have qg : (0 : Int) ≤ (g : Int) := by omega
    have HPS : Hid (p.At w1 ∧ s.At w1) := ⟨hpk, hsk⟩
    clear hpk hsk
    go_wp2_with (first | (go_at_call_of 30 (Value.int .i64 (b : Int)); refine calls_to (Has_any _ _ _ hnb) ?_) | (go_at_call_of 30 (Value.int .i64 (g : Int)); refine calls_to (Has_any _ _ _ hns) ?_) | (go_at_call 55; refine calls_to (Within_any _ _ _ _) ?_))
    refine (Free_any p s b w1 HPS.out.1 HPS.out.2).mono ?_
    rintro e w2 ⟨rfl, hB2⟩
    have hB := hB.trans (hB2.mono hB.size)
    clear l1 d0 d1 l2 c0 c1 c2 c3 c4 c5 c6 hBw hz hB2 HPS
    obtain ⟨⟨⟨l1, d0, d1⟩, l2, c0, c1, c2, c3, c4, c5, c6⟩, hpk, hsk, hBw, hz⟩ := HC.out w2 hB
    obtain ⟨bz, oz, hsa, hbz, y0⟩ := hpk.sizes g hg
    have HSA : Hid (p.sa = some ⟨bz, oz, none⟩ ∧ p.At w2 ∧ s.At w2) := ⟨hsa, hpk, hsk⟩
    rw [hsa] at d1
    have HFV : Hid (freeV p s b = freeZ p s b ∧ freeE p s b = 0) := by
      have hu : usedE p s.on b = 0 := by unfold usedE; rw [HF.out.sh0]; simp only [beq_self_eq_true, if_true]; rw [inB_mk (by have := HF.out.sh.n; omega)]; rfl
      have e : freeE p s b = 0 := by unfold freeE; rw [if_pos H0.out, hu]
      exact ⟨by unfold freeV; rw [e, if_pos rfl]; rfl, e⟩
    rw [HFV.out.1, HFV.out.2]
    have HT5 : Hid (freeZ p s b < n * p.zs g → recvE p s b g n = 5) := fun h => recvE_full H0.out hb hg K3.out h
    have HT2 : Hid (¬ freeZ p s b < n * p.zs g → (200 < lyingZ s b g + n ∨ 1048576 < s.si.z g + n) → recvE p s b g n = 2) := fun h h2 => recvE_many H0.out hb hg K3.out h h2
    have HT0 : Hid (¬ freeZ p s b < n * p.zs g → ¬ (200 < lyingZ s b g + n ∨ 1048576 < s.si.z g + n) → recvE p s b g n = 0) := fun h h2 => recvE_ok H0.out hb hg K3.out h h2
    clear HFV k1 k2 hsa hpk hsk
    generalize freeZ p s b = FR at *
    generalize p.zs g = PZ at *
    by_cases h5 : FR < n * PZ
    · have HX : Hid (recvE p s b g n = 5) := HT5.out h5
      clear c0 c1 c2 c3 c4 c5 c6
      have zl := hz.lt
      have zf0 := hz.frozen 0
      have zc0 := hz.cell (j := 0) (by decide)
      have zf1 := hz.frozen 1
      have zc1 := hz.cell (j := 1) (by decide)
      have zf2 := hz.frozen 2
      have zc2 := hz.cell (j := 2) (by decide)
      have zf3 := hz.frozen 3
      have zc3 := hz.cell (j := 3) (by decide)
      have zf4 := hz.frozen 4
      have zc4 := hz.cell (j := 4) (by decide)
      have zf5 := hz.frozen 5
      have zc5 := hz.cell (j := 5) (by decide)
      have zf6 := hz.frozen 6
      have zc6 := hz.cell (j := 6) (by decide)
      go_wp2_with fail
      have KZ := set7_blk hz (.slice .none 0 0) (.slice .none 0 0) (.slice .none 0 0) (.slice .none 0 0) (.slice .none 0 0) (.slice .none 0 0) (.slice .none 0 0)
      have hbz := set7_below (b := w.heap.size + 2) hBw (by omega) (.slice .none 0 0) (.slice .none 0 0) (.slice .none 0 0) (.slice .none 0 0) (.slice .none 0 0) (.slice .none 0 0) (.slice .none 0 0)
      unfold set7 at KZ hbz
      obtain ⟨c0', c1', c2', c3', c4', c5', c6'⟩ := box_cells KZ
      refine bodyPost_ret (v := .tuple #[noneS.val, .int .i64 5]) (by simp [results, Try.results21, go_sem, noneS, St.val, c0', c1', c2', c3', c4', c5', c6']) rfl ?_
      exact ⟨noneS, by rw [HX.out]; rfl, noneS_at _, ⟨fun h => absurd h (by rw [HX.out]; decide), fun _ => ⟨rfl, rfl, rfl, rfl, rfl, rfl, rfl⟩⟩, hbz⟩
    · have d5 : decide (FR < n * PZ) = false := by simp; omega
      have hz0 := hz.lt
      clear hz
      go_wp2_with fail
      refine (Lying_any p s b g w2 HSA.out.2.2 HF.out hb hg).mono ?_
      rintro e w3 ⟨rfl, hB2⟩
      have hB := hB.trans (hB2.mono hB.size)
      clear l1 d0 d1 l2 c0 c1 c2 c3 c4 c5 c6 hBw hB2 HSA y0 hz0 hbz d5
      obtain ⟨⟨⟨l1, d0, d1⟩, l2, c0, c1, c2, c3, c4, c5, c6⟩, hpk, hsk, hBw, hz⟩ := HC.out w3 hB
      obtain ⟨bi, oi, hia, hbi, y2⟩ := hsk.si.ints g (by rw [HF.out.sin]; exact hg)
      have v5 := hsk.si.le
      have v6 := hsk.si.cap
      unfold maxLen at v6
      have u3 := HF.out.sib g hg
      have si1 : g < s.si.n := by rw [HF.out.sin]; exact hg
      have ly : 0 ≤ lyingZ s b g ∧ lyingZ s b g ≤ 1800 := by
        have hon : b < s.on.n := by rw [HF.out.sh.n]; exact hb
        have u1 := HF.out.sh.num b hon g hg
        have u2 := comingTo_bd (s := s) (b := b) (g := g) HF.out.moveN
        have ms8 := HF.out.ms8
        unfold lyingZ
        omega
      have HSA : Hid (p.At w3 ∧ s.At w3 ∧ s.si.a = some ⟨bi, oi, none⟩) := ⟨hpk, hsk, hia⟩
      have HT2' := HT2.out h5
      have HT0' := HT0.out h5
      have HRE : Hid (recvT s b g n = setIn (setOn s b g ((s.on.r b).z g + n)) g (s.si.z g + n)) := rfl
      clear HT2 HT0
      have HLY : Hid (lyingZ s b g = (s.on.r b).z g + comingTo s b g s.ms.n) := rfl
      clear hpk hsk
      generalize lyingZ s b g = LY at *
      generalize hSI : s.si.z g = SI at *
      have HSI : Hid (s.si.z g = SI) := hSI
      clear hSI
      rw [hia] at c4
      clear hia
      cases d6 : decide (200 - LY < n)
      · cases d7 : decide (1048576 - SI < n)
        · have HX : Hid (recvE p s b g n = 0) := HT0' (by simp at d6 d7; omega)
          have hput : putE p s.on b g n = 0 := by
            have hon : b < s.on.n := by rw [HF.out.sh.n]; exact hb
            have hu : shelfErr p s.on b g = 0 := by rw [shelfErr_eq HF.out.sh0, inB_mk (by omega), inB_mk (by omega)]; rfl
            have u1 := HF.out.sh.num b hon g hg
            have u2 := (comingTo_bd (s := s) (b := b) (g := g) HF.out.moveN).1
            have ee := HLY.out
            have hi : inB n (-((s.on.r b).z g)) (200 - (s.on.r b).z g) = true := inB_mk (by simp at d6; omega)
            simp [putE, hu, hi]
          have HPUT : Hid (putE p s.on b g n = 0) := hput
          have hz0 := hz.lt
          have hcs := copyState_any p s w3 HSA.out.2.1 HF.out
          rw [St.val, HSA.out.2.2] at hcs
          have HCS : Hid _ := hcs
          clear HT2' HT0' hput hcs hz
          go_wp2_with fail
          refine Calls.mono HCS.out ?_
          rintro e w4 ⟨o, rfl, hsame, hown, hB2⟩
          clear HCS
          have hB4 := hB.trans (hB2.mono hB.size)
          have q3 := hB.size
          have q4 := hB2.size
          have HIN : Hid (o.si.n = p.ns) := hsame.si.1.trans HF.out.sin
          have HSQ : Hid (o.si.z g = SI) := (hsame.si.2 g (by rw [HIN.out]; exact hg)).trans HSI.out
          obtain ⟨W5, hW5, hWB5, K5⟩ : ∃ W, w4.alloc (.cells #[.slice o.on.a o.on.n o.on.c, .slice o.os.a o.os.n o.os.c, .slice o.hs.a o.hs.n o.hs.c, .slice o.ms.a o.ms.n o.ms.c, .slice o.si.a o.si.n o.si.c, .slice o.so.a o.so.n o.so.c, .slice o.sf.a o.sf.n o.sf.c] 31) = W ∧ Below w4.heap.size w4 W ∧ Blk W w4.heap.size 31 7 (fun j => o.cells.getD j default) := ⟨_, rfl, (Below.refl _ _).alloc (Nat.le_refl _) _, Blk.mk' rfl rfl⟩
          have HW5 : Hid (w4.alloc (.cells #[.slice o.on.a o.on.n o.on.c, .slice o.os.a o.os.n o.os.c, .slice o.hs.a o.hs.n o.hs.c, .slice o.ms.a o.ms.n o.ms.c, .slice o.si.a o.si.n o.si.c, .slice o.so.a o.so.n o.so.c, .slice o.sf.a o.sf.n o.sf.c] 31) = W5) := hW5
          have hB5 := hB4.trans (hWB5.mono hB4.size)
          have hown5 := OwnS.below hown hWB5
          clear l1 d0 d1 l2 c0 c1 c2 c3 c4 c5 c6 hBw HSA hz0 hbi y2
          obtain ⟨⟨⟨l1, d0, d1⟩, l2, c0, -⟩, hpk, hsk, hBw, -⟩ := HC.out W5 hB5
          have HAT : Hid (p.At W5 ∧ s.At W5) := ⟨hpk, hsk⟩
          have HOW : Hid (OwnS w3.heap.size W5 o ∧ Blk W5 w4.heap.size 31 7 (fun j => o.cells.getD j default) ∧ SameT o s) := ⟨hown5, K5, hsame⟩
          have l1e := l1
          have l2e := l2
          have d0e := d0
          have d1e := d1
          have c0e := c0
          rw [← HW5.out] at l1e l2e d0e d1e c0e
          clear hown hown5 K5 hsame hpk hsk hBw l1 l2 d0 d1 c0 hW5
          simp only [St.val]
          go_wp2_with fail
          rw [HW5.out]
          clear l1e l2e d0e d1e c0e HW5
          refine (PutOwn_any p s.on b g n W5 HAT.out.1 HAT.out.2.on HPUT.out).mono ?_
          rintro e w6 ⟨r, rfl, hR, hrn, hrz, hB6⟩
          obtain ⟨hO5, K5, hsame⟩ := HOW.out
          have q5 := hWB5.size
          have q6 := hB6.size
          have hB6' := hB5.trans (hB6.mono hB5.size)
          have hOa := OwnS.swap hO5 hB6 hR (Nat.le_refl _) (by omega)
          have K6 := K5.below hB6
          obtain ⟨Gi, hia, iA, i1, i2, ik⟩ := hOa.si
          have hOb := hOa.box K6 0 (.slice r.a r.n r.c)
          have K7 := K6.set 0 (.slice r.a r.n r.c)
          have hB7 := hB6'.setCell (p := ⟨w4.heap.size, 0, none⟩) (by show W0.heap.size ≤ w4.heap.size; omega) (.slice r.a r.n r.c)
          obtain ⟨Gi', hia', -, -, -, jk⟩ := hOb.si
          rw [show (⟨r, o.os, o.hs, o.ms, o.si, o.so, o.sf⟩ : St).si = o.si from rfl] at hia hia' jk i1 i2
          rw [hia] at hia'
          simp only [Option.some.injEq, Addr.mk.injEq, and_true] at hia'
          subst hia'
          have hOc := hOb.setIn (show (⟨r, o.os, o.hs, o.ms, o.si, o.so, o.sf⟩ : St).si.a = some ⟨Gi, 0, none⟩ from hia) g (SI + n)
          have K8 := K7.other (a := ⟨Gi, g, none⟩) (Blk.ne2 K7 jk (by decide)) (.int .i64 (SI + n))
          have hB8 := hB7.setCell (p := ⟨Gi, g, none⟩) (by show W0.heap.size ≤ Gi; omega) (.int .i64 (SI + n))
          have HEND : Hid (Below W0.heap.size W0 ((w6.setCell ⟨w4.heap.size, 0, none⟩ (.slice r.a r.n r.c)).setCell ⟨Gi, g, none⟩ (.int .i64 (SI + n))) ∧ OwnS w3.heap.size ((w6.setCell ⟨w4.heap.size, 0, none⟩ (.slice r.a r.n r.c)).setCell ⟨Gi, g, none⟩ (.int .i64 (SI + n))) (setIn ⟨r, o.os, o.hs, o.ms, o.si, o.so, o.sf⟩ g (SI + n)) ∧ Blk ((w6.setCell ⟨w4.heap.size, 0, none⟩ (.slice r.a r.n r.c)).setCell ⟨Gi, g, none⟩ (.int .i64 (SI + n))) w4.heap.size 31 7 (fun i => if i = 0 then .slice r.a r.n r.c else o.cells.getD i default)) := ⟨hB8, hOc, K8⟩
          have HSM : Hid (SameT (setIn ⟨r, o.os, o.hs, o.ms, o.si, o.so, o.sf⟩ g (SI + n)) (recvT s b g n)) := by
            show SameT _ (recvT s b g n)
            rw [HRE.out]
            refine setIn_same (s := ⟨r, o.os, o.hs, o.ms, o.si, o.so, o.sf⟩) (t := setOn s b g ((s.on.r b).z g + n)) ⟨⟨hrn, fun i hi => ?_⟩, hsame.os, hsame.hs, hsame.ms, hsame.si, hsame.so, hsame.sf⟩ _ _
            have hi' : i < s.on.n := by rw [← hrn]; exact hi
            have y := hrz i hi'
            show (r.r i).n = (if i = b then setRw (s.on.r i) g ((s.on.r b).z g + n) else s.on.r i).n ∧ ∀ j, j < (r.r i).n → (r.r i).z j = (if i = b then setRw (s.on.r i) g ((s.on.r b).z g + n) else s.on.r i).z j
            by_cases hib : i = b
            · subst hib
              rw [if_pos rfl]
              refine ⟨y.1, fun j hj => ?_⟩
              rw [y.2 j (by rw [← y.1]; exact hj)]
              show putZ s.on i g n i j = if j = g then (s.on.r i).z g + n else (s.on.r i).z j
              unfold putZ
              by_cases hjg : j = g
              · subst hjg; simp
              · simp [hjg]
            · rw [if_neg hib]
              refine ⟨y.1, fun j hj => ?_⟩
              rw [y.2 j (by rw [← y.1]; exact hj)]
              unfold putZ
              simp [hib]
          have z1 := K6.lt
          have z2 := K6.frozen 0
          have z3 := K6.cell (j := 0) (by decide)
          have y4 : (w6.setCell ⟨w4.heap.size, 0, none⟩ (.slice r.a r.n r.c)).cell? ⟨w4.heap.size, 4, none⟩ = some (.slice o.si.a o.si.n o.si.c) := K7.cell (j := 4) (by decide)
          rw [hia, HIN.out] at y4
          have y5 : (w6.setCell ⟨w4.heap.size, 0, none⟩ (.slice r.a r.n r.c)).cell? ⟨Gi, g, none⟩ = some (.int .i64 (o.si.z g)) := jk.cell (j := g) (by rw [HIN.out]; exact hg)
          rw [HSQ.out] at y5
          have y6 := jk.lt
          have y7 := jk.frozen g
          have y8 := K7.lt
          have HIA : Hid (o.si.a = some ⟨Gi, 0, none⟩) := hia
          rw [HIN.out] at i1
          unfold maxLen at i2
          obtain ⟨-, -, -, hBw8, hz8⟩ := HC.out _ hB8
          have m8 := K8.lt
          have e0 : ((w6.setCell ⟨w4.heap.size, 0, none⟩ (.slice r.a r.n r.c)).setCell ⟨Gi, g, none⟩ (.int .i64 (SI + n))).cell? ⟨w4.heap.size, 0, none⟩ = some (.slice r.a r.n r.c) := K8.cell (j := 0) (by decide)
          have e1 : ((w6.setCell ⟨w4.heap.size, 0, none⟩ (.slice r.a r.n r.c)).setCell ⟨Gi, g, none⟩ (.int .i64 (SI + n))).cell? ⟨w4.heap.size, 1, none⟩ = some (.slice o.os.a o.os.n o.os.c) := K8.cell (j := 1) (by decide)
          have e2 : ((w6.setCell ⟨w4.heap.size, 0, none⟩ (.slice r.a r.n r.c)).setCell ⟨Gi, g, none⟩ (.int .i64 (SI + n))).cell? ⟨w4.heap.size, 2, none⟩ = some (.slice o.hs.a o.hs.n o.hs.c) := K8.cell (j := 2) (by decide)
          have e3 : ((w6.setCell ⟨w4.heap.size, 0, none⟩ (.slice r.a r.n r.c)).setCell ⟨Gi, g, none⟩ (.int .i64 (SI + n))).cell? ⟨w4.heap.size, 3, none⟩ = some (.slice o.ms.a o.ms.n o.ms.c) := K8.cell (j := 3) (by decide)
          have e4 : ((w6.setCell ⟨w4.heap.size, 0, none⟩ (.slice r.a r.n r.c)).setCell ⟨Gi, g, none⟩ (.int .i64 (SI + n))).cell? ⟨w4.heap.size, 4, none⟩ = some (.slice o.si.a o.si.n o.si.c) := K8.cell (j := 4) (by decide)
          have e5 : ((w6.setCell ⟨w4.heap.size, 0, none⟩ (.slice r.a r.n r.c)).setCell ⟨Gi, g, none⟩ (.int .i64 (SI + n))).cell? ⟨w4.heap.size, 5, none⟩ = some (.slice o.so.a o.so.n o.so.c) := K8.cell (j := 5) (by decide)
          have e6 : ((w6.setCell ⟨w4.heap.size, 0, none⟩ (.slice r.a r.n r.c)).setCell ⟨Gi, g, none⟩ (.int .i64 (SI + n))).cell? ⟨w4.heap.size, 6, none⟩ = some (.slice o.sf.a o.sf.n o.sf.c) := K8.cell (j := 6) (by decide)
          have zl := hz8.lt
          have zf0 := hz8.frozen 0
          have zc0 := hz8.cell (j := 0) (by decide)
          have zf1 := hz8.frozen 1
          have zc1 := hz8.cell (j := 1) (by decide)
          have zf2 := hz8.frozen 2
          have zc2 := hz8.cell (j := 2) (by decide)
          have zf3 := hz8.frozen 3
          have zc3 := hz8.cell (j := 3) (by decide)
          have zf4 := hz8.frozen 4
          have zc4 := hz8.cell (j := 4) (by decide)
          have zf5 := hz8.frozen 5
          have zc5 := hz8.cell (j := 5) (by decide)
          have zf6 := hz8.frozen 6
          have zc6 := hz8.cell (j := 6) (by decide)
          clear hR hrn hrz hO5 K5 K6 K7 K8 hOa hOb hOc hB7 hB8 hB6 hB6' ik jk hsame hia hB5 hWB5 hBw8 hz8
          simp only [Sh.val]
          go_wp2_with fail
          obtain ⟨hBt, hOt, hKt⟩ := HEND.out
          obtain ⟨_, _, _, hBw, hz⟩ := HC.out _ hBt
          have KZ := set7_blk hz (.slice r.a r.n r.c) (.slice o.os.a o.os.n o.os.c) (.slice o.hs.a o.hs.n o.hs.c) (.slice o.ms.a o.ms.n o.ms.c) (.slice o.si.a o.si.n o.si.c) (.slice o.so.a o.so.n o.so.c) (.slice o.sf.a o.sf.n o.sf.c)
          have hbz := set7_below (b := w.heap.size + 2) hBw (by omega) (.slice r.a r.n r.c) (.slice o.os.a o.os.n o.os.c) (.slice o.hs.a o.hs.n o.hs.c) (.slice o.ms.a o.ms.n o.ms.c) (.slice o.si.a o.si.n o.si.c) (.slice o.so.a o.so.n o.so.c) (.slice o.sf.a o.sf.n o.sf.c)
          have hOz := OwnS.set7 hOt hz (.slice r.a r.n r.c) (.slice o.os.a o.os.n o.os.c) (.slice o.hs.a o.hs.n o.hs.c) (.slice o.ms.a o.ms.n o.ms.c) (.slice o.si.a o.si.n o.si.c) (.slice o.so.a o.so.n o.so.c) (.slice o.sf.a o.sf.n o.sf.c)
          unfold set7 at KZ hbz hOz
          obtain ⟨c0', c1', c2', c3', c4', c5', c6'⟩ := box_cells KZ
          refine bodyPost_ret (v := .tuple #[(setIn ⟨r, o.os, o.hs, o.ms, o.si, o.so, o.sf⟩ g (SI + n)).val, .int .i64 0]) (by simp [results, Try.results21, go_sem, setIn, setRw, St.val, c0', c1', c2', c3', c4', c5', c6']) rfl ?_
          exact ⟨setIn ⟨r, o.os, o.hs, o.ms, o.si, o.so, o.sf⟩ g (SI + n), by rw [HX.out]; rfl, hOz.at, ⟨fun _ => HSM.out, fun h => absurd HX.out h⟩, hbz⟩
        · have HX : Hid (recvE p s b g n = 2) := HT2' (Or.inr (by simp at d7; omega))
          clear HT2' HT0'
          have zl := hz.lt
          have zf0 := hz.frozen 0
          have zc0 := hz.cell (j := 0) (by decide)
          have zf1 := hz.frozen 1
          have zc1 := hz.cell (j := 1) (by decide)
          have zf2 := hz.frozen 2
          have zc2 := hz.cell (j := 2) (by decide)
          have zf3 := hz.frozen 3
          have zc3 := hz.cell (j := 3) (by decide)
          have zf4 := hz.frozen 4
          have zc4 := hz.cell (j := 4) (by decide)
          have zf5 := hz.frozen 5
          have zc5 := hz.cell (j := 5) (by decide)
          have zf6 := hz.frozen 6
          have zc6 := hz.cell (j := 6) (by decide)
          go_wp2_with fail
          have KZ := set7_blk hz (.slice .none 0 0) (.slice .none 0 0) (.slice .none 0 0) (.slice .none 0 0) (.slice .none 0 0) (.slice .none 0 0) (.slice .none 0 0)
          have hbz := set7_below (b := w.heap.size + 2) hBw (by omega) (.slice .none 0 0) (.slice .none 0 0) (.slice .none 0 0) (.slice .none 0 0) (.slice .none 0 0) (.slice .none 0 0) (.slice .none 0 0)
          unfold set7 at KZ hbz
          obtain ⟨c0', c1', c2', c3', c4', c5', c6'⟩ := box_cells KZ
          refine bodyPost_ret (v := .tuple #[noneS.val, .int .i64 2]) (by simp [results, Try.results21, go_sem, noneS, St.val, c0', c1', c2', c3', c4', c5', c6']) rfl ?_
          exact ⟨noneS, by rw [HX.out]; rfl, noneS_at _, ⟨fun h => absurd h (by rw [HX.out]; decide), fun _ => ⟨rfl, rfl, rfl, rfl, rfl, rfl, rfl⟩⟩, hbz⟩
      · have HX : Hid (recvE p s b g n = 2) := HT2' (Or.inl (by simp at d6; omega))
        clear HT2' HT0'
        have zl := hz.lt
        have zf0 := hz.frozen 0
        have zc0 := hz.cell (j := 0) (by decide)
        have zf1 := hz.frozen 1
        have zc1 := hz.cell (j := 1) (by decide)
        have zf2 := hz.frozen 2
        have zc2 := hz.cell (j := 2) (by decide)
        have zf3 := hz.frozen 3
        have zc3 := hz.cell (j := 3) (by decide)
        have zf4 := hz.frozen 4
        have zc4 := hz.cell (j := 4) (by decide)
        have zf5 := hz.frozen 5
        have zc5 := hz.cell (j := 5) (by decide)
        have zf6 := hz.frozen 6
        have zc6 := hz.cell (j := 6) (by decide)
        go_wp2_with fail
        have KZ := set7_blk hz (.slice .none 0 0) (.slice .none 0 0) (.slice .none 0 0) (.slice .none 0 0) (.slice .none 0 0) (.slice .none 0 0) (.slice .none 0 0)
        have hbz := set7_below (b := w.heap.size + 2) hBw (by omega) (.slice .none 0 0) (.slice .none 0 0) (.slice .none 0 0) (.slice .none 0 0) (.slice .none 0 0) (.slice .none 0 0) (.slice .none 0 0)
        unfold set7 at KZ hbz
        obtain ⟨c0', c1', c2', c3', c4', c5', c6'⟩ := box_cells KZ
        refine bodyPost_ret (v := .tuple #[noneS.val, .int .i64 2]) (by simp [results, Try.results21, go_sem, noneS, St.val, c0', c1', c2', c3', c4', c5', c6']) rfl ?_
        exact ⟨noneS, by rw [HX.out]; rfl, noneS_at _, ⟨fun h => absurd h (by rw [HX.out]; decide), fun _ => ⟨rfl, rfl, rfl, rfl, rfl, rfl, rfl⟩⟩, hbz⟩
  · have HX : Hid (recvE p s bin good n = stateE p s) := recvE_state h0
    clear hpk hsk c0 c1 c2 c3 c4 c5 c6
    have zl := hz.lt
    have zf0 := hz.frozen 0
    have zc0 := hz.cell (j := 0) (by decide)
    have zf1 := hz.frozen 1
    have zc1 := hz.cell (j := 1) (by decide)
    have zf2 := hz.frozen 2
    have zc2 := hz.cell (j := 2) (by decide)
    have zf3 := hz.frozen 3
    have zc3 := hz.cell (j := 3) (by decide)
    have zf4 := hz.frozen 4
    have zc4 := hz.cell (j := 4) (by decide)
    have zf5 := hz.frozen 5
    have zc5 := hz.cell (j := 5) (by decide)
    have zf6 := hz.frozen 6
    have zc6 := hz.cell (j := 6) (by decide)
    go_wp2_with fail
    have KZ := set7_blk hz (.slice .none 0 0) (.slice .none 0 0) (.slice .none 0 0) (.slice .none 0 0) (.slice .none 0 0) (.slice .none 0 0) (.slice .none 0 0)
    have hbz := set7_below (b := w.heap.size + 2) hBw (by omega) (.slice .none 0 0) (.slice .none 0 0) (.slice .none 0 0) (.slice .none 0 0) (.slice .none 0 0) (.slice .none 0 0) (.slice .none 0 0)
    unfold set7 at KZ hbz
    obtain ⟨c0', c1', c2', c3', c4', c5', c6'⟩ := box_cells KZ
    refine bodyPost_ret (v := .tuple #[noneS.val, .int .i64 (stateE p s)]) (by simp [results, Try.results21, go_sem, noneS, St.val, c0', c1', c2', c3', c4', c5', c6']) rfl ?_
    exact ⟨noneS, by rw [HX.out]; rfl, noneS_at _, ⟨fun h => absurd h (by rw [HX.out]; exact h0), fun _ => ⟨rfl, rfl, rfl, rfl, rfl, rfl, rfl⟩⟩, hbz⟩

end Go.Proofs.Ytjiodlbblmbibac
/- What is entered, in plain words; the two questions that recv.Enter asks of each line. -/
namespace Go.Proofs.Ytjiodlbblmbibac
open Go.RowKit Go.Shelf Go.Sort
set_option linter.unusedVariables false

def outL (p : Pl) (x : Hd) : Bool := !(inB x.o 0 ((p.ns : Int) - 1)) || !(inB x.l 1 200)
def begunL (x : Hd) : Bool := x.b != 0 || x.n != 0
/-- What Enter answers for an error: of a state and of lines. -/
def enterE (p : Pl) (s : St) (l : Hs) : Int :=
  if stateE p s = 0 then (if s.os.n = 4 ∨ ¬ (1 ≤ l.n ∧ l.n ≤ 3) then 2 else if anyB l.n (fun j => outL p (l.z j)) then 3 else if anyB l.n (fun j => begunL (l.z j)) then 1 else 0) else stateE p s
/-- And what comes, but for where it lies. -/
def enterT (s : St) (l : Hs) : St := ⟨s.on, ⟨s.os.a, s.os.n + 1, s.os.c, fun i => if i = s.os.n then ⟨0, l⟩ else s.os.z i⟩, s.hs, s.ms, s.si, s.so, s.sf⟩

theorem enterE_state {p : Pl} {s : St} {l : Hs} (h : ¬ stateE p s = 0) : enterE p s l = stateE p s := by unfold enterE; rw [if_neg h]
theorem enterE_many {p : Pl} {s : St} {l : Hs} (h : stateE p s = 0) (h1 : s.os.n = 4 ∨ ¬ (1 ≤ l.n ∧ l.n ≤ 3)) : enterE p s l = 2 := by unfold enterE; rw [if_pos h, if_pos h1]
theorem enterE_range {p : Pl} {s : St} {l : Hs} (h : stateE p s = 0) (h1 : ¬ (s.os.n = 4 ∨ ¬ (1 ≤ l.n ∧ l.n ≤ 3))) (h2 : anyB l.n (fun j => outL p (l.z j)) = true) : enterE p s l = 3 := by unfold enterE; rw [if_pos h, if_neg h1, if_pos h2]
theorem enterE_form {p : Pl} {s : St} {l : Hs} (h : stateE p s = 0) (h1 : ¬ (s.os.n = 4 ∨ ¬ (1 ≤ l.n ∧ l.n ≤ 3))) (h2 : ¬ anyB l.n (fun j => outL p (l.z j)) = true) (h3 : anyB l.n (fun j => begunL (l.z j)) = true) : enterE p s l = 1 := by unfold enterE; rw [if_pos h, if_neg h1, if_neg h2, if_pos h3]
theorem enterE_ok {p : Pl} {s : St} {l : Hs} (h : stateE p s = 0) (h1 : ¬ (s.os.n = 4 ∨ ¬ (1 ≤ l.n ∧ l.n ≤ 3))) (h2 : ¬ anyB l.n (fun j => outL p (l.z j)) = true) (h3 : ¬ anyB l.n (fun j => begunL (l.z j)) = true) : enterE p s l = 0 := by unfold enterE; rw [if_pos h, if_neg h1, if_neg h2, if_neg h3]

set_option maxHeartbeats 1000000 in
theorem Enter1_any (B : Nat) (p : Pl) (x : Hd) (w : World) (les : p.ns ≤ p.cs) (caps : p.cs ≤ maxLen) (hB : B < w.heap.size) (c1 : w.cell? ⟨B, 1, none⟩ = some (.slice p.sa p.ns p.cs)) :
    Calls Try.prog 61 #[x.val, .pointer (some ⟨B, 0, none⟩)] w fun e w' => e = .returned (.bool (outL p x)) ∧ Below w.heap.size w w' := by
  have hns : p.ns ≤ maxLen := Nat.le_trans les caps
  have hB0 : Below w.heap.size w (w.alloc (.cells #[.int .i64 x.o, .int .i64 x.l, .int .i64 x.b, .int .i64 x.n] 53)) := (Below.refl w.heap.size w).alloc (Nat.le_refl _) _
  have c1e := (hB0.cell (p := ⟨B, 1, none⟩) hB).trans c1
  have hBe : B < (w.alloc (.cells #[.int .i64 x.o, .int .i64 x.l, .int .i64 x.b, .int .i64 x.n] 53)).heap.size := by have := hB0.size; omega
  unfold outL Hd.val
  clear c1
  unfold maxLen at caps
  cases h1 : inB x.o 0 ((p.ns : Int) - 1)
  all_goals
    go_enter Try.func61, Try.ntmps61
    go_wp2_with (first | (go_at_call 30; refine calls_to (Has_any _ _ _ hns) ?_) | (go_at_call 55; refine calls_to (Within_any _ _ _ _) ?_))
    go_ret
    exact ⟨by simp, hB0⟩

set_option maxHeartbeats 1000000 in
theorem Enter2_any (x : Hd) (w : World) :
    Calls Try.prog 62 #[x.val] w fun e w' => e = .returned (.bool (begunL x)) ∧ Below w.heap.size w w' := by
  have hB0 : Below w.heap.size w (w.alloc (.cells #[.int .i64 x.o, .int .i64 x.l, .int .i64 x.b, .int .i64 x.n] 53)) := (Below.refl w.heap.size w).alloc (Nat.le_refl _) _
  unfold begunL Hd.val
  cases h1 : (x.b != 0)
  all_goals
    go_enter Try.func62, Try.ntmps62
    go_wp2_with fail
    go_ret
    exact ⟨by simp, hB0⟩

end Go.Proofs.Ytjiodlbblmbibac
/- Appending to a list of the call's own, whether it has room or none. -/
namespace Go.Proofs.Ytjiodlbblmbibac
open Go.RowKit Go.Shelf
set_option linter.unusedVariables false

/-- The world grew, and of what was there at most one block of the type e changed, new since A. -/
def Grew (A : Nat) (e : TypeId) (w w' : World) : Prop := ∃ row, w.grownBy w' row ∧ ∀ k, row = some k → A ≤ k ∧ ∃ cur, w.heap[k]? = some (.cells cur e (0, 0))
theorem Grew.blk {A : Nat} {e : TypeId} {w w' : World} (h : Grew A e w w') {q : Nat} {t : TypeId} {m : Nat} {f : Nat → Value} (hb : Blk w q t m f) (hne : t ≠ e) : Blk w' q t m f := by
  obtain ⟨row, hg, hr⟩ := h
  refine hb.grown hg fun hq => ?_
  obtain ⟨_, c2, hc2⟩ := hr q hq.symm
  obtain ⟨c3, hc3, _⟩ := hb
  rw [hc3] at hc2
  cases hc2
  exact hne rfl
theorem Grew.low {A : Nat} {e : TypeId} {w w' : World} (h : Grew A e w w') {q : Nat} {t : TypeId} {m : Nat} {f : Nat → Value} (hb : Blk w q t m f) (hq : q < A) : Blk w' q t m f := by
  obtain ⟨row, hg, hr⟩ := h
  exact hb.grown hg fun hq' => by have := (hr q hq'.symm).1; omega
theorem Grew.below {A A' : Nat} {e : TypeId} {w0 w w' : World} (h : Grew A e w w') (hB : Below A' w0 w) (hA : A' ≤ A) (hs : A' ≤ w.heap.size) : Below A' w0 w' := by
  obtain ⟨row, hg, hr⟩ := h
  exact hB.grown hg hs fun k hk => by have := (hr k hk).1; omega
theorem Room.grew {A B : Nat} {t : TypeId} {w w2 : World} {sz c : Nat} {a : Option Addr} {e : TypeId} (h : Room A w t sz a c) (hg : Grew B e w w2) (hne : t ≠ e) : Room A w2 t sz a c := by
  obtain ⟨row, hg, hr⟩ := hg
  refine h.same fun g cur hgc => hg.block g (Array.getElem?_eq_some_iff.1 hgc).1 fun hq => ?_
  obtain ⟨_, c2, hc2⟩ := hr g hq.symm
  rw [hgc] at hc2
  cases hc2
  exact hne rfl
theorem OwnI.grew {A B : Nat} {w w2 : World} {r : Rw} {e : TypeId} (h : OwnI A w r) (hg : Grew B e w w2) (hne : 3 ≠ e) : OwnI A w2 r := by
  obtain ⟨g, ha, h0, h1, h2, hb⟩ := h
  exact ⟨g, ha, h0, h1, h2, hg.blk hb hne⟩
theorem OwnH.grew {A B : Nat} {t : TypeId} {w w2 : World} {s : Hs} {e : TypeId} (h : OwnH A t w s) (hg : Grew B e w w2) (hne : t ≠ e) : OwnH A t w2 s := by
  obtain ⟨h1, h2, h3, h4⟩ := h
  refine ⟨h1, h2, h3, fun hn => ?_⟩
  obtain ⟨g, ha, hA, hb⟩ := h4 hn
  exact ⟨g, ha, hA, hg.blk hb hne⟩

theorem owns_mono {A A' : Nat} {w : World} {e : TypeId} {size : Nat} {v : Value} {n : Nat} {xs : List Value} (h : w.ownsRow A e size v n xs) (hA : A' ≤ A) : w.ownsRow A' e size v n xs :=
  ⟨h.1, h.2.imp_right fun ⟨g, cap, cur, h1, h2, h3⟩ => ⟨g, cap, cur, h1, Nat.le_trans hA h2, h3⟩⟩

/-- A list of the call's own, its room too, is owned as the library says it. -/
theorem owns_of {A : Nat} {w : World} {e : TypeId} {size g c n : Nat} {cur : Array Value} {xs : List Value} (hA : A ≤ g) (hg : w.heap[g]? = some (.cells cur e (0, 0))) (hsz : cur.size = c * size) (hle : n ≤ c) (hcap : c ≤ maxLen) (hl : xs.length = n * size)
    (hb : 0 < n → Blk w g e (n * size) (fun j => xs.getD j default)) : w.ownsRow A e size (.slice (some ⟨g, 0, none⟩) n c) n xs := by
  refine ⟨hl, Or.inr ⟨g, c, cur, rfl, hA, hg, hle, hcap, hsz, ?_⟩⟩
  apply List.ext_getElem?
  intro j
  rw [List.getElem?_take]
  by_cases hj : j < n * size
  · rw [if_pos hj]
    have hn : 0 < n := by
      rcases Nat.eq_zero_or_pos n with h | h
      · subst h; simp at hj
      · exact h
    obtain ⟨cur', hc, _, hf⟩ := hb hn
    rw [hg] at hc
    cases hc
    have h1 := hf j hj
    have h2 : j < xs.length := by omega
    rw [List.getElem?_eq_getElem h2]
    simp only [List.getD, List.getElem?_eq_getElem h2, Option.getD_some] at h1
    simpa using h1
  · rw [if_neg hj, List.getElem?_eq_none (by omega)]

theorem wpList_append_room {P : Program} (w : World) {ops : Array Oper} {rest : List Oper} {o : Oper} {a : Act} {Q : Exit → Act → World → Prop}
    (hg : o.guard = none) (s x : Operand) (t : TypeId) (hop : o.op = Op.call { callee := Callee.builtin Builtin.append, args := #[s, x], argTypes := #[t, t] })
    (A : Nat) (e : TypeId) (i : TypeInfo) (z : Value) (size bytes : Nat) (h1 : P.underlying t = some (.slice e)) (h2 : P.info? e = some i) (h3 : i.zero = some z) (h4 : i.size = size) (h5 : i.bytes = bytes) (h6 : z.cells.size = size) (h7 : 0 < size)
    (ao : Option Addr) (n c : Nat) (xs : List Value) (hs : a.eval s = .slice ao n c) (hroom : Room A w e size ao c) (hle : n ≤ c) (hcap : c ≤ maxLen) (hlo : xs.length = n * size) (hblk : 0 < n → ∃ g, ao = some ⟨g, 0, none⟩ ∧ A ≤ g ∧ Blk w g e (n * size) (fun j => xs.getD j default))
    (ad : Addr) (m c' : Nat) (news : List Value) (hx : a.eval x = .slice (some ad) m c') (hn : news.length = m * size) (hc : ∀ j u, news[j]? = some u → w.cell? (ad.add j) = some u) (h1c : ∀ u ∈ news, u.oneCell' = true)
    (hm : 0 < m) (b1 : n + m ≤ maxLen) (b2 : (n + m) * bytes ≤ 140737488355328) (hA : A ≤ w.heap.size)
    (hK : ∀ v' w', w'.ownsRow A e size v' (n + m) (xs ++ news) → Grew A e w w' → wpList P ops Q rest (a.put o.dst v') w') :
    wpList P ops Q (o :: rest) a w := by
  rcases hroom with h0 | ⟨g, cur, ha, hA', hgc, hsz⟩
  · subst h0
    have hn0 : n = 0 := by omega
    subst hn0
    obtain rfl : xs = [] := List.eq_nil_of_length_eq_zero (by simpa using hlo)
    refine wpList_append_grows w hg s x t hop e i z size bytes h1 h2 h3 h4 h5 h6 h7 ao 0 0 [] hs (fun _ => ⟨rfl, rfl⟩) (by simp) (fun b _ j u hj => by simp at hj) ad m c' news hx hn hc h1c (by omega) b1 b2 fun v' w' r1 r2 => ?_
    exact hK v' w' (owns_mono r1 hA) ⟨none, r2, fun k hk => by cases hk⟩
  · subst ha
    have hown := owns_of (w := w) (e := e) hA' hgc hsz hle hcap hlo (fun h => by
      obtain ⟨g', e1, _, hb⟩ := hblk h
      simp only [Option.some.injEq, Addr.mk.injEq, and_true] at e1
      subst e1
      exact hb)
    refine wpList_append_own w hg s x t hop A e i z size bytes h1 h2 h3 h4 h5 h6 h7 _ n xs hs hown ad m c' news hx hn hc h1c b1 b2 hA fun v' w' r1 r2 _ => ?_
    refine hK v' w' r1 ⟨_, r2, fun k hk => ?_⟩
    simp only [Value.ownBlock, Option.some.injEq] at hk
    subst hk
    exact ⟨hA', cur, hgc⟩

/-- One more order. -/
def moreO (s : Os) (x : Od) (i : Nat) : Od := if i = s.n then x else s.z i
theorem flatO_more (s : Os) (x : Od) : flatO s.n s.z ++ odCells x = flatO (s.n + 1) (moreO s x) := by
  rw [flatO, flatO_congr (z' := moreO s x) fun i hi => by unfold moreO; rw [if_neg (by omega)]]
  congr 1
  unfold moreO
  rw [if_pos rfl]
theorem OwnO.more {A : Nat} {w w' : World} {s : Os} {x : Od} {v : Value} (h : OwnO A w s) (ho : w'.ownsRow A 51 2 v (s.n + 1) (flatO s.n s.z ++ odCells x)) (hg : Grew A 51 w w')
    {B : Nat} (ha : x.ls.a = some ⟨B, 0, none⟩) (hB : A ≤ B) (hl : x.ls.n ≤ x.ls.c) (hc : x.ls.c ≤ maxLen) (hk : Blk w B 53 (x.ls.n * 4) (fun j => (flatH x.ls.n x.ls.z).getD j default)) (hap : ∀ i, i < s.n → (s.z i).ls.a ≠ x.ls.a) :
    ∃ va vc, v = .slice va (s.n + 1) vc ∧ OwnO A w' ⟨va, s.n + 1, vc, moreO s x⟩ := by
  have hv : v ≠ .slice none 0 0 := by
    rintro rfl
    rcases ho.2 with ⟨_, h0⟩ | ⟨g2, cap2, cur2, h, _⟩
    · omega
    · cases h
  have ho' := ho
  rw [flatO_more] at ho'
  obtain ⟨g, c, rfl, h1, h2, h3, h4⟩ := Blk.ofOwns ho' hv
  refine ⟨some ⟨g, 0, none⟩, c, rfl, h1, h2, fun _ => ⟨g, rfl, h3, h4⟩, fun i hi => ?_, fun i j hij hj => ?_, Room.ofOwns ho (Nat.le_refl _)⟩
  · show ∃ B, (moreO s x i).ls.a = _ ∧ A ≤ B ∧ (moreO s x i).ls.n ≤ (moreO s x i).ls.c ∧ (moreO s x i).ls.c ≤ maxLen ∧ Blk w' B 53 ((moreO s x i).ls.n * 4) (fun j => (flatH (moreO s x i).ls.n (moreO s x i).ls.z).getD j default)
    have hi' : i < s.n + 1 := hi
    unfold moreO
    by_cases hin : i = s.n
    · rw [if_pos hin]
      exact ⟨B, ha, hB, hl, hc, hg.blk hk (by decide)⟩
    · rw [if_neg hin]
      obtain ⟨B', a1, a2, a3, a4, a5⟩ := h.lines i (by omega)
      exact ⟨B', a1, a2, a3, a4, hg.blk a5 (by decide)⟩
  · have hj' : j < s.n + 1 := hj
    show (moreO s x i).ls.a ≠ (moreO s x j).ls.a
    unfold moreO
    rw [if_neg (by omega)]
    by_cases hjn : j = s.n
    · rw [if_pos hjn]
      exact hap i (by omega)
    · rw [if_neg hjn]
      exact h.apart i j hij (by omega)

end Go.Proofs.Ytjiodlbblmbibac
/- What the code enters: recv.Enter. -/
namespace Go.Proofs.Ytjiodlbblmbibac
open Go.RowKit Go.Shelf Go.Sort
set_option linter.unusedVariables false

theorem OwnS.mono {A A' : Nat} {w : World} {s : St} (h : OwnS A w s) (hA : A' ≤ A) : OwnS A' w s := by
  have i : ∀ {r : Rw}, OwnI A w r → OwnI A' w r := fun ⟨g, a, b, c⟩ => ⟨g, a, Nat.le_trans hA b, c⟩
  refine ⟨?_, fun j hj => i (h.rows j hj), h.rapart, h.os.mono hA, h.hs.mono hA, h.ms.mono hA, h.msr.mono hA, i h.si, i h.so, i h.sf, h.aio, h.aif, h.aof, h.ari⟩
  obtain ⟨g, a, b, c⟩ := h.on
  exact ⟨g, a, Nat.le_trans hA b, c⟩
/-- A state whose orders are others now. -/
theorem OwnS.orders {A B : Nat} {w w' : World} {s : St} {os : Os} (h : OwnS A w s) (hg : Grew B 51 w w') (ho : OwnO A w' os) : OwnS A w' ⟨s.on, os, s.hs, s.ms, s.si, s.so, s.sf⟩ := by
  refine ⟨?_, fun i hi => (h.rows i hi).grew hg (by decide), h.rapart, ho, h.hs.grew hg (by decide), h.ms.grew hg (by decide), h.msr.grew hg (by decide), h.si.grew hg (by decide), h.so.grew hg (by decide), h.sf.grew hg (by decide), h.aio, h.aif, h.aof, h.ari⟩
  obtain ⟨g, a, b, c, d, e⟩ := h.on
  exact ⟨g, a, b, c, d, hg.blk e (by decide)⟩
theorem enter_same {o s : St} {l l' : Hs} {a : Option Addr} {c : Nat} (h : SameT o s) (hn : l'.n = l.n) (hz : ∀ j, j < l.n → l'.z j = l.z j) : SameT ⟨o.on, ⟨a, o.os.n + 1, c, moreO o.os ⟨0, l'⟩⟩, o.hs, o.ms, o.si, o.so, o.sf⟩ (enterT s l) := by
  have hon : o.os.n = s.os.n := h.os.1
  refine ⟨h.on, ⟨by show o.os.n + 1 = s.os.n + 1; omega, fun i hi => ?_⟩, h.hs, h.ms, h.si, h.so, h.sf⟩
  have hi' : i < o.os.n + 1 := hi
  show (moreO o.os ⟨0, l'⟩ i).k = (if i = s.os.n then (⟨0, l⟩ : Od) else s.os.z i).k ∧ (moreO o.os ⟨0, l'⟩ i).ls.n = (if i = s.os.n then (⟨0, l⟩ : Od) else s.os.z i).ls.n ∧ ∀ j, j < (moreO o.os ⟨0, l'⟩ i).ls.n → (moreO o.os ⟨0, l'⟩ i).ls.z j = (if i = s.os.n then (⟨0, l⟩ : Od) else s.os.z i).ls.z j
  unfold moreO
  by_cases hin : i = s.os.n
  · rw [if_pos (by omega), if_pos hin]
    exact ⟨rfl, hn, fun j hj => hz j (by rw [← hn]; exact hj)⟩
  · rw [if_neg (by omega), if_neg hin]
    exact h.os.2 i (by omega)

set_option maxRecDepth 100000 in
set_option maxHeartbeats 8000000 in
theorem Enter_any (p : Pl) (s : St) (l : Hs) (w : World) (hp : p.At w) (hs : s.At w) (hl : l.At w) :
    Calls Try.prog 24 #[p.val, s.val, l.val] w fun e w' => ∃ s' : St, e = .returned (.tuple #[s'.val, .int .i64 (enterE p s l)]) ∧ s'.At w' ∧ ActOK (enterE p s l) (enterT s l) s' ∧ Below w.heap.size w w' := by
  obtain ⟨W0, hW, hWB, X0, Z0⟩ : ∃ W, (((w.alloc (.cells #[.slice p.ab p.nb p.cb, .slice p.sa p.ns p.cs] 25)).alloc (.cells s.cells 31)).alloc (.cells #[.slice .none 0 0, .slice .none 0 0, .slice .none 0 0, .slice .none 0 0, .slice .none 0 0, .slice .none 0 0, .slice .none 0 0] 31)) = W ∧ Below w.heap.size w W ∧ Boxes W w.heap.size (w.heap.size + 1) p s ∧ Blk W (w.heap.size + 2) 31 7 (fun _ => .slice .none 0 0) :=
    ⟨_, rfl, (two_below _ _ _).alloc (by simp; omega) _, (boxes_new w p s _ _).below ((Below.refl _ _).alloc (Nat.le_refl _) _), (Blk.mk' (cur := #[.slice .none 0 0, .slice .none 0 0, .slice .none 0 0, .slice .none 0 0, .slice .none 0 0, .slice .none 0 0, .slice .none 0 0]) (by simp) rfl).congr (fun j hj => by match j, hj with | 0, _ => rfl | 1, _ => rfl | 2, _ => rfl | 3, _ => rfl | 4, _ => rfl | 5, _ => rfl | 6, _ => rfl)⟩
  have HC : Hid (∀ wk, Below W0.heap.size W0 wk → Boxes wk w.heap.size (w.heap.size + 1) p s ∧ p.At wk ∧ s.At wk ∧ Below w.heap.size w wk ∧ Blk wk (w.heap.size + 2) 31 7 (fun _ => .slice .none 0 0) ∧ l.At wk) := fun wk h => ⟨X0.below h, (hp.below hWB).below h, (hs.below hWB).below h, hWB.trans (h.mono hWB.size), Z0.below h, (hl.below hWB).below h⟩
  have HW : Hid (((w.alloc (.cells #[.slice p.ab p.nb p.cb, .slice p.sa p.ns p.cs] 25)).alloc (.cells #[.slice s.on.a s.on.n s.on.c, .slice s.os.a s.os.n s.os.c, .slice s.hs.a s.hs.n s.hs.c, .slice s.ms.a s.ms.n s.ms.c, .slice s.si.a s.si.n s.si.c, .slice s.so.a s.so.n s.so.c, .slice s.sf.a s.sf.n s.sf.c] 31)).alloc (.cells #[.slice .none 0 0, .slice .none 0 0, .slice .none 0 0, .slice .none 0 0, .slice .none 0 0, .slice .none 0 0, .slice .none 0 0] 31) = W0) := hW
  have leb := hp.leb
  have capb0 := hp.capb
  have les := hp.les
  have caps0 := hp.caps
  have capb := capb0
  have caps := caps0
  have zlt0 := Z0.lt
  unfold maxLen at capb caps
  have lle := hl.le
  have lcap0 := hl.cap
  have lcap := lcap0
  unfold maxLen at lcap
  clear hW X0 Z0 hp hs hl
  unfold Pl.val St.val Hs.val
  go_enter Try.func24, Try.ntmps24
  go_wp2_with fail
  rw [HW.out]
  obtain ⟨X, hpk, hsk, hBw, hz, hlk⟩ := HC.out W0 (Below.refl _ _)
  refine (stateCheck_any p s W0 hpk hsk).mono ?_
  rintro e w1 ⟨rfl, hB⟩
  clear X hpk hsk hBw hz hlk HW
  obtain ⟨⟨⟨l1, d0, d1⟩, l2, c0, c1, c2, c3, c4, c5, c6⟩, hpk, hsk, hBw, hz, hlk⟩ := HC.out w1 hB
  by_cases h0 : stateE p s = 0
  · have H0 : Hid (stateE p s = 0) := h0
    have HF : Hid (Formed p s) := (rightT h0).fm
    rw [h0]
    clear h0
    by_cases k1 : s.os.n = 4
    · have HX : Hid (enterE p s l = 2) := enterE_many H0.out (Or.inl k1)
      have q1 : ((s.os.n : Int) == 4) = true := by rw [k1]; rfl
      clear k1
      clear hpk hsk hlk
      have zl := hz.lt
      have zf0 := hz.frozen 0
      have zc0 := hz.cell (j := 0) (by decide)
      have zf1 := hz.frozen 1
      have zc1 := hz.cell (j := 1) (by decide)
      have zf2 := hz.frozen 2
      have zc2 := hz.cell (j := 2) (by decide)
      have zf3 := hz.frozen 3
      have zc3 := hz.cell (j := 3) (by decide)
      have zf4 := hz.frozen 4
      have zc4 := hz.cell (j := 4) (by decide)
      have zf5 := hz.frozen 5
      have zc5 := hz.cell (j := 5) (by decide)
      have zf6 := hz.frozen 6
      have zc6 := hz.cell (j := 6) (by decide)
      go_wp2_with (go_at_call 55; refine calls_to (Within_any _ _ _ _) ?_)
      have KZ := set7_blk hz (.slice .none 0 0) (.slice .none 0 0) (.slice .none 0 0) (.slice .none 0 0) (.slice .none 0 0) (.slice .none 0 0) (.slice .none 0 0)
      have hbz := set7_below (b := w.heap.size + 2) hBw (by omega) (.slice .none 0 0) (.slice .none 0 0) (.slice .none 0 0) (.slice .none 0 0) (.slice .none 0 0) (.slice .none 0 0) (.slice .none 0 0)
      unfold set7 at KZ hbz
      obtain ⟨c0', c1', c2', c3', c4', c5', c6'⟩ := box_cells KZ
      refine bodyPost_ret (v := .tuple #[noneS.val, .int .i64 2]) (by simp [results, Try.results24, go_sem, noneS, St.val, c0', c1', c2', c3', c4', c5', c6']) rfl ?_
      exact ⟨noneS, by rw [HX.out]; rfl, noneS_at _, ⟨fun h => absurd h (by rw [HX.out]; decide), fun _ => ⟨rfl, rfl, rfl, rfl, rfl, rfl, rfl⟩⟩, hbz⟩
    have q1 : ((s.os.n : Int) == 4) = false := by simp; omega
    cases k2 : inB l.n 1 3
    · have HX : Hid (enterE p s l = 2) := enterE_many H0.out (Or.inr (by have := inB_false k2; omega))
      clear k1
      clear hpk hsk hlk
      have zl := hz.lt
      have zf0 := hz.frozen 0
      have zc0 := hz.cell (j := 0) (by decide)
      have zf1 := hz.frozen 1
      have zc1 := hz.cell (j := 1) (by decide)
      have zf2 := hz.frozen 2
      have zc2 := hz.cell (j := 2) (by decide)
      have zf3 := hz.frozen 3
      have zc3 := hz.cell (j := 3) (by decide)
      have zf4 := hz.frozen 4
      have zc4 := hz.cell (j := 4) (by decide)
      have zf5 := hz.frozen 5
      have zc5 := hz.cell (j := 5) (by decide)
      have zf6 := hz.frozen 6
      have zc6 := hz.cell (j := 6) (by decide)
      go_wp2_with (go_at_call 55; refine calls_to (Within_any _ _ _ _) ?_)
      have KZ := set7_blk hz (.slice .none 0 0) (.slice .none 0 0) (.slice .none 0 0) (.slice .none 0 0) (.slice .none 0 0) (.slice .none 0 0) (.slice .none 0 0)
      have hbz := set7_below (b := w.heap.size + 2) hBw (by omega) (.slice .none 0 0) (.slice .none 0 0) (.slice .none 0 0) (.slice .none 0 0) (.slice .none 0 0) (.slice .none 0 0) (.slice .none 0 0)
      unfold set7 at KZ hbz
      obtain ⟨c0', c1', c2', c3', c4', c5', c6'⟩ := box_cells KZ
      refine bodyPost_ret (v := .tuple #[noneS.val, .int .i64 2]) (by simp [results, Try.results24, go_sem, noneS, St.val, c0', c1', c2', c3', c4', c5', c6']) rfl ?_
      exact ⟨noneS, by rw [HX.out]; rfl, noneS_at _, ⟨fun h => absurd h (by rw [HX.out]; decide), fun _ => ⟨rfl, rfl, rfl, rfl, rfl, rfl, rfl⟩⟩, hbz⟩
    have hl3 := inB_true k2
    have HM : Hid (¬ (s.os.n = 4 ∨ ¬ (1 ≤ l.n ∧ l.n ≤ 3))) := by show ¬ _; omega
    clear k1
    have HLK : Hid (l.At w1) := hlk
    clear hz hpk hsk hlk
    go_wp2_with (go_at_call 55; refine calls_to (Within_any _ _ _ _) ?_)
    refine (anyL4 61 #[.pointer (some ⟨w.heap.size, 0, none⟩)] (fun j => outL p (l.z j)) _ _ _ _ lle lcap0 l.z HLK.out.hds (enters_of Try.func61 (by kernel_rfl) rfl) (fun i w2 _ h => Enter1_any w.heap.size p _ w2 les caps0 (Nat.lt_of_lt_of_le l1 h.size) ((h.cell (p := ⟨w.heap.size, 1, none⟩) l1).trans d1))).mono ?_
    rintro e w2 ⟨rfl, hB2⟩
    have hB := hB.trans (hB2.mono hB.size)
    clear l1 d0 d1 l2 c0 c1 c2 c3 c4 c5 c6 hBw hB2 HLK q1 k2
    obtain ⟨⟨⟨l1, d0, d1⟩, l2, c0, c1, c2, c3, c4, c5, c6⟩, hpk, hsk, hBw, hz, hlk⟩ := HC.out w2 hB
    cases k3 : anyB l.n (fun j => outL p (l.z j))
    rotate_left
    · have HX : Hid (enterE p s l = 3) := enterE_range H0.out HM.out k3
      clear k3
      clear hpk hsk hlk
      have zl := hz.lt
      have zf0 := hz.frozen 0
      have zc0 := hz.cell (j := 0) (by decide)
      have zf1 := hz.frozen 1
      have zc1 := hz.cell (j := 1) (by decide)
      have zf2 := hz.frozen 2
      have zc2 := hz.cell (j := 2) (by decide)
      have zf3 := hz.frozen 3
      have zc3 := hz.cell (j := 3) (by decide)
      have zf4 := hz.frozen 4
      have zc4 := hz.cell (j := 4) (by decide)
      have zf5 := hz.frozen 5
      have zc5 := hz.cell (j := 5) (by decide)
      have zf6 := hz.frozen 6
      have zc6 := hz.cell (j := 6) (by decide)
      go_wp2_with fail
      have KZ := set7_blk hz (.slice .none 0 0) (.slice .none 0 0) (.slice .none 0 0) (.slice .none 0 0) (.slice .none 0 0) (.slice .none 0 0) (.slice .none 0 0)
      have hbz := set7_below (b := w.heap.size + 2) hBw (by omega) (.slice .none 0 0) (.slice .none 0 0) (.slice .none 0 0) (.slice .none 0 0) (.slice .none 0 0) (.slice .none 0 0) (.slice .none 0 0)
      unfold set7 at KZ hbz
      obtain ⟨c0', c1', c2', c3', c4', c5', c6'⟩ := box_cells KZ
      refine bodyPost_ret (v := .tuple #[noneS.val, .int .i64 3]) (by simp [results, Try.results24, go_sem, noneS, St.val, c0', c1', c2', c3', c4', c5', c6']) rfl ?_
      exact ⟨noneS, by rw [HX.out]; rfl, noneS_at _, ⟨fun h => absurd h (by rw [HX.out]; decide), fun _ => ⟨rfl, rfl, rfl, rfl, rfl, rfl, rfl⟩⟩, hbz⟩
    have K3 : Hid (¬ anyB l.n (fun j => outL p (l.z j)) = true) := by show ¬ _; rw [k3]; decide
    clear k3
    have HLK : Hid (l.At w2) := hlk
    clear hz hpk hsk hlk
    go_wp2_with fail
    refine (anyL4 62 #[] (fun j => begunL (l.z j)) _ _ _ _ lle lcap0 l.z HLK.out.hds (enters_of Try.func62 (by kernel_rfl) rfl) (fun i w2 _ h => by rw [Array.append_empty]; exact Enter2_any _ _)).mono ?_
    rintro e w3 ⟨rfl, hB2⟩
    have hB := hB.trans (hB2.mono hB.size)
    clear l1 d0 d1 l2 c0 c1 c2 c3 c4 c5 c6 hBw hB2 HLK
    obtain ⟨⟨⟨l1, d0, d1⟩, l2, c0, c1, c2, c3, c4, c5, c6⟩, hpk, hsk, hBw, hz, hlk⟩ := HC.out w3 hB
    cases k4 : anyB l.n (fun j => begunL (l.z j))
    rotate_left
    · have HX : Hid (enterE p s l = 1) := enterE_form H0.out HM.out K3.out k4
      clear k4
      clear hpk hsk hlk
      have zl := hz.lt
      have zf0 := hz.frozen 0
      have zc0 := hz.cell (j := 0) (by decide)
      have zf1 := hz.frozen 1
      have zc1 := hz.cell (j := 1) (by decide)
      have zf2 := hz.frozen 2
      have zc2 := hz.cell (j := 2) (by decide)
      have zf3 := hz.frozen 3
      have zc3 := hz.cell (j := 3) (by decide)
      have zf4 := hz.frozen 4
      have zc4 := hz.cell (j := 4) (by decide)
      have zf5 := hz.frozen 5
      have zc5 := hz.cell (j := 5) (by decide)
      have zf6 := hz.frozen 6
      have zc6 := hz.cell (j := 6) (by decide)
      go_wp2_with fail
      have KZ := set7_blk hz (.slice .none 0 0) (.slice .none 0 0) (.slice .none 0 0) (.slice .none 0 0) (.slice .none 0 0) (.slice .none 0 0) (.slice .none 0 0)
      have hbz := set7_below (b := w.heap.size + 2) hBw (by omega) (.slice .none 0 0) (.slice .none 0 0) (.slice .none 0 0) (.slice .none 0 0) (.slice .none 0 0) (.slice .none 0 0) (.slice .none 0 0)
      unfold set7 at KZ hbz
      obtain ⟨c0', c1', c2', c3', c4', c5', c6'⟩ := box_cells KZ
      refine bodyPost_ret (v := .tuple #[noneS.val, .int .i64 1]) (by simp [results, Try.results24, go_sem, noneS, St.val, c0', c1', c2', c3', c4', c5', c6']) rfl ?_
      exact ⟨noneS, by rw [HX.out]; rfl, noneS_at _, ⟨fun h => absurd h (by rw [HX.out]; decide), fun _ => ⟨rfl, rfl, rfl, rfl, rfl, rfl, rfl⟩⟩, hbz⟩
    have HX : Hid (enterE p s l = 0) := enterE_ok H0.out HM.out K3.out (by rw [k4]; decide)
    clear k4 K3 HM
    have hz0 := hz.lt
    have hcs := copyState_any p s w3 hsk HF.out
    have HCS : Hid _ := hcs
    have HLK : Hid (l.At w3) := hlk
    clear hcs hz hlk hpk hsk
    go_wp2_with fail
    refine Calls.mono HCS.out ?_
    rintro e w4 ⟨o, rfl, hsame, hown, hB2⟩
    clear HCS
    have hB4 := hB.trans (hB2.mono hB.size)
    have q3 := hB.size
    have q4 := hB2.size
    obtain ⟨W5, hW5, hBW5, KW5⟩ : ∃ W, w4.alloc (.cells #[.slice o.on.a o.on.n o.on.c, .slice o.os.a o.os.n o.os.c, .slice o.hs.a o.hs.n o.hs.c, .slice o.ms.a o.ms.n o.ms.c, .slice o.si.a o.si.n o.si.c, .slice o.so.a o.so.n o.so.c, .slice o.sf.a o.sf.n o.sf.c] 31) = W ∧ Below w4.heap.size w4 W ∧ Blk W w4.heap.size 31 7 (fun j => o.cells.getD j default) := ⟨_, rfl, (Below.refl _ _).alloc (Nat.le_refl _) _, Blk.mk' rfl rfl⟩
    have HW5 : Hid (w4.alloc (.cells #[.slice o.on.a o.on.n o.on.c, .slice o.os.a o.os.n o.os.c, .slice o.hs.a o.hs.n o.hs.c, .slice o.ms.a o.ms.n o.ms.c, .slice o.si.a o.si.n o.si.c, .slice o.so.a o.so.n o.so.c, .slice o.sf.a o.sf.n o.sf.c] 31) = W5) := hW5
    have hB5 := hB4.trans (hBW5.mono hB4.size)
    have hown5 := OwnS.below hown hBW5
    have hlk5 := (HLK.out.below hB2).below hBW5
    have q5 := hBW5.size
    have on4 : o.os.n ≤ 4 := by have := HF.out.os4; have : o.os.n = s.os.n := hsame.os.1; omega
    clear l1 d0 d1 l2 c0 c1 c2 c3 c4 c5 c6 hBw hz0 hW5
    simp only [St.val]
    go_wp2_with fail
    rw [HW5.out]
    have HOW : Hid (OwnS w3.heap.size W5 o ∧ Blk W5 w4.heap.size 31 7 (fun j => o.cells.getD j default) ∧ SameT o s) := ⟨hown5, KW5, hsame⟩
    have HL5 : Hid (l.At W5) := hlk5
    have r0 : ∀ d os, (grow (redrawn W5 d) os).cell? ⟨w4.heap.size, 1, none⟩ = some (.slice o.os.a o.os.n o.os.c) := fun d os => cell_regrown (KW5.cell (j := 1) (by decide)) d os
    have xl5 : w4.heap.size < W5.heap.size := KW5.lt
    clear hown hown5 KW5 hsame hlk5 HLK HW5 hBW5 hB2
    obtain ⟨iO, hO, hO0, hO1, hO2⟩ := info_parts infoOrderC
    refine wp_region_made6 (fun w' => ∃ p : Regrown, w' = grow (redrawn W5 p.d) p.os) [0, 1, 2] [3, 4, 5] [(true, 6), (true, 7), (true, 8)] (by kernel_rfl) (by kernel_rfl) (by kernel_rfl) (by kernel_rfl) (by kernel_rfl) (by kernel_rfl) (by kernel_rfl) (by kernel_rfl) (by kernel_rfl) (regrown_of_below ((Below.refl _ _).drew)) ?_
    simp only [picks, List.drop_succ_cons, List.drop_zero, List.take_succ_cons, List.take_zero, List.cons_append, List.nil_append]
    repeat (go_big_quiet_step (fail))
    refine wpQuiet_nil ?_
    clear r0
    refine ⟨fun j v g wk => match j with | 3 => DHs W5.heap.size 53 l v g wk | 4 => D16 W5.heap.size ⟨0, l⟩ v g wk | 5 => D17 W5.heap.size ⟨0, l⟩ v g wk | _ => True,
      List.forall_mem_cons.2 ⟨fun v g w w' hB h => DHs.below h hB, List.forall_mem_cons.2 ⟨fun v g w w' hB h => D16.below h hB, List.forall_mem_cons.2 ⟨fun v g w w' hB h => D17.below h hB, List.forall_mem_nil _⟩⟩⟩,
      List.forall_mem_cons.2 ⟨fun v g w h => by obtain ⟨_, h1, _⟩ := h; rw [h1]; intro x hx; simp at hx, List.forall_mem_cons.2 ⟨fun v g w h => by obtain ⟨_, h1, _⟩ := h; rw [h1]; intro x hx; simp at hx, List.forall_mem_cons.2 ⟨fun v g w h => by obtain ⟨_, _, h1, _⟩ := h; rw [h1]; intro x hx; simp at hx, List.forall_mem_nil _⟩⟩⟩,
      List.forall_mem_cons.2 ⟨?zt3, List.forall_mem_cons.2 ⟨?zt4, List.forall_mem_cons.2 ⟨?zt5, List.forall_mem_nil _⟩⟩⟩, ?ztdone⟩
    case zt3 =>
      intro V G wk K hS hd hA hK
      have hX := below_of_regrown hS
      have q := hX.size
      refine wpOp_list 3 rfl ?_
      simp only [putAll, dstOf, List.getElem?_toArray, List.getElem?_cons_succ, List.getElem?_cons_zero, Act.put, List.setIfInBounds_toArray, List.set_cons_succ, List.set_cons_zero] at hK ⊢
      go_wp2_with fail
      refine (CloneLine_any l wk (HL5.out.below hX) (by omega)).mono ?_
      rintro e w2 ⟨s', rfl, hc, hB2⟩
      have HR : Hid (Cloned W5.heap.size 53 l w2 s') := ⟨hc.1, hc.2.1, hc.2.2.1.mono (by omega), hc.2.2.2.mono (by omega)⟩
      clear hc
      simp only [Hs.val]
      go_wp2_with fail
      exact hK _ [] _ (regrown_of_below (hX.trans (hB2.mono hX.size))) hB2 (fun x hx => by simp at hx) ⟨s', rfl, rfl, HR.out⟩
    case zt4 =>
      intro V G wk K hS hd hA hK
      obtain ⟨s', -, h15, hc⟩ : DHs W5.heap.size 53 l (V 3) (G 3) wk := hd 3 (List.contains_iff_mem.1 (by kernel_rfl)) (by simp)
      have HCL : Hid (Cloned W5.heap.size 53 l wk s') := hc
      clear hc
      refine wpOp_list 4 rfl ?_
      simp only [putAll, dstOf, List.getElem?_toArray, List.getElem?_cons_succ, List.getElem?_cons_zero, Act.put, List.setIfInBounds_toArray, List.set_cons_succ, List.set_cons_zero, h15] at hK ⊢
      go_wp2_with fail
      exact hK _ [] _ hS (Below.refl _ _) (fun x hx => by simp at hx) ⟨s', rfl, rfl, HCL.out⟩
    case zt5 =>
      intro V G wk K hS hd hA hK
      have hX := below_of_regrown hS
      obtain ⟨s', -, h16, hc⟩ : D16 W5.heap.size ⟨0, l⟩ (V 4) (G 4) wk := hd 4 (List.contains_iff_mem.1 (by kernel_rfl)) (by simp)
      have HCL : Hid (Cloned W5.heap.size 53 l wk s') := hc
      clear hc
      refine wpOp_list 5 rfl ?_
      simp only [putAll, dstOf, List.getElem?_toArray, List.getElem?_cons_succ, List.getElem?_cons_zero, Act.put, List.setIfInBounds_toArray, List.set_cons_succ, List.set_cons_zero, h16] at hK ⊢
      go_wp2_with fail
      have hBa := (Below.refl wk.heap.size wk).alloc (Nat.le_refl _) (.cells #[.int .i64 0, .slice s'.a s'.n s'.c] 51)
      exact hK _ [] _ (regrown_of_below (hX.alloc hX.size _)) ((Below.refl _ _).alloc (Nat.le_refl _) _) (fun x hx => by simp at hx) ⟨wk.heap.size, s', rfl, rfl, hX.size, Blk.mk' rfl rfl, HCL.out.1, HCL.out.2.1, HCL.out.2.2.1.below hBa, HCL.out.2.2.2.below hBa⟩
    case ztdone =>
      intro V G' wk hS hD hA
      obtain ⟨BO, s', -, h17, m17, k17, e1, e2, ⟨o1, o2, o3, o4⟩, -⟩ : D17 W5.heap.size ⟨0, l⟩ (V 5) (G' 5) wk := hD 5 (by simp)
      have hX := below_of_regrown hS
      have q1 := hX.size
      obtain ⟨gB, ea, hgB, kB⟩ := o4 (by rw [e1]; show 0 < l.n; omega)
      obtain ⟨hO5, K5, hsame⟩ := HOW.out
      have hO6 := OwnS.below hO5 hX
      have K6 := K5.below hX
      have hBk := hB5.trans (hX.mono hB5.size)
      have HE : Hid (s'.n = l.n ∧ (∀ j, j < l.n → s'.z j = l.z j) ∧ s'.a = some ⟨gB, 0, none⟩ ∧ s'.n ≤ s'.c ∧ s'.c ≤ maxLen ∧ Blk wk gB 53 (s'.n * 4) (fun j => (flatH s'.n s'.z).getD j default) ∧ SameT o s ∧ W5.heap.size ≤ gB) := ⟨e1, e2, ea, o1, o2, kB, hsame, hgB⟩
      have HOK : Hid (OwnS w3.heap.size wk o ∧ OwnS w3.heap.size W5 o) := ⟨hO6, hO5⟩
      have HK6 : Hid (Blk wk w4.heap.size 31 7 (fun j => o.cells.getD j default)) := K6
      have HBk : Hid (Below W0.heap.size W0 wk) := hBk
      have HK17 : Hid (Blk wk BO 51 2 (fun j => (#[.int .i64 0, .slice s'.a s'.n s'.c] : Array Value).getD j default)) := k17
      clear hS hD hA e1 e2 ea o1 o2 o3 o4 kB hO5 K5 hsame hO6 K6 hBk k17 hB5
      simp only [putAll, dstOf, List.getElem?_toArray, List.getElem?_cons_succ, List.getElem?_cons_zero, Act.put, List.setIfInBounds_toArray, List.set_cons_succ, List.set_cons_zero, h17]
      refine wpSeq_one 6 rfl ?_
      go_wp2_with (at_builtin; refine wpList_append_room wk rfl (.tmp 45) (.tmp 49) 27 rfl w3.heap.size 51 iO (.agg #[.int .i64 0, .slice none 0 0]) 2 32 Try.underlying27 hO hO0 hO1 hO2 rfl (by decide) o.os.a o.os.n o.os.c (flatO o.os.n o.os.z) rfl HOK.out.1.os.room HOK.out.1.os.le HOK.out.1.os.cap (flatO_len _ _) HOK.out.1.os.list ⟨BO, 0, none⟩ 1 1 [.int .i64 0, .slice s'.a s'.n s'.c] rfl rfl ?zc1 ?zc2 (by decide) ?zc3 ?zc4 ?zc5 ?_)
      case zc1 =>
        intro j u hj
        match j, hj with
        | 0, hj => simp at hj; subst hj; exact HK17.out.cell (j := 0) (by decide)
        | 1, hj => simp at hj; subst hj; exact HK17.out.cell (j := 1) (by decide)
      case zc2 => intro u hu; simp at hu; rcases hu with rfl | rfl <;> rfl
      case zc3 => unfold maxLen; omega
      case zc4 => omega
      case zc5 => omega
      intro v2 w2 hown2 hgrow2
      obtain ⟨e1, e2, ea, o1, o2, kB, hsame, hgB⟩ := HE.out
      obtain ⟨va, vc, rfl, hOO⟩ := OwnO.more (x := ⟨0, s'⟩) HOK.out.1.os hown2 hgrow2 ea (by omega) o1 o2 kB (fun i hi e => by
        obtain ⟨B, x1, x2, x3, x4, x5⟩ := HOK.out.2.os.lines i hi
        rw [x1] at e
        have e' := e.trans ea
        simp only [Option.some.injEq, Addr.mk.injEq, and_true] at e'
        have := x5.lt
        omega)
      have hOS2 := HOK.out.1.orders hgrow2 hOO
      have hB7 := hgrow2.below HBk.out (by omega) (by have := HBk.out.size; omega)
      have K7 := hgrow2.blk HK6.out (by decide)
      have xl := K7.lt
      have zf9 := K7.frozen 1
      have zc9 := K7.cell (j := 1) (by decide)
      have K8 := K7.set 1 (.slice va (o.os.n + 1) vc)
      have hO8 := hOS2.box K7 1 (.slice va (o.os.n + 1) vc)
      have hB8 := hB7.setCell (p := ⟨w4.heap.size, 1, none⟩) (by show W0.heap.size ≤ w4.heap.size; omega) (.slice va (o.os.n + 1) vc)
      have HSM : Hid (SameT ⟨o.on, ⟨va, o.os.n + 1, vc, moreO o.os ⟨0, s'⟩⟩, o.hs, o.ms, o.si, o.so, o.sf⟩ (enterT s l)) := enter_same hsame e1 e2
      obtain ⟨-, -, -, hBw8, hz8, -⟩ := HC.out _ hB8
      have HEND : Hid (OwnS w3.heap.size (w2.setCell ⟨w4.heap.size, 1, none⟩ (.slice va (o.os.n + 1) vc)) ⟨o.on, ⟨va, o.os.n + 1, vc, moreO o.os ⟨0, s'⟩⟩, o.hs, o.ms, o.si, o.so, o.sf⟩ ∧ Below w.heap.size w (w2.setCell ⟨w4.heap.size, 1, none⟩ (.slice va (o.os.n + 1) vc)) ∧ Blk (w2.setCell ⟨w4.heap.size, 1, none⟩ (.slice va (o.os.n + 1) vc)) (w.heap.size + 2) 31 7 (fun _ => .slice .none 0 0)) := ⟨hO8, hBw8, hz8⟩
      have m8 := K8.lt
      have e0' : (w2.setCell ⟨w4.heap.size, 1, none⟩ (.slice va (o.os.n + 1) vc)).cell? ⟨w4.heap.size, 0, none⟩ = some (.slice o.on.a o.on.n o.on.c) := K8.cell (j := 0) (by decide)
      have e1' : (w2.setCell ⟨w4.heap.size, 1, none⟩ (.slice va (o.os.n + 1) vc)).cell? ⟨w4.heap.size, 1, none⟩ = some (.slice va (o.os.n + 1) vc) := K8.cell (j := 1) (by decide)
      have e2' : (w2.setCell ⟨w4.heap.size, 1, none⟩ (.slice va (o.os.n + 1) vc)).cell? ⟨w4.heap.size, 2, none⟩ = some (.slice o.hs.a o.hs.n o.hs.c) := K8.cell (j := 2) (by decide)
      have e3' : (w2.setCell ⟨w4.heap.size, 1, none⟩ (.slice va (o.os.n + 1) vc)).cell? ⟨w4.heap.size, 3, none⟩ = some (.slice o.ms.a o.ms.n o.ms.c) := K8.cell (j := 3) (by decide)
      have e4' : (w2.setCell ⟨w4.heap.size, 1, none⟩ (.slice va (o.os.n + 1) vc)).cell? ⟨w4.heap.size, 4, none⟩ = some (.slice o.si.a o.si.n o.si.c) := K8.cell (j := 4) (by decide)
      have e5' : (w2.setCell ⟨w4.heap.size, 1, none⟩ (.slice va (o.os.n + 1) vc)).cell? ⟨w4.heap.size, 5, none⟩ = some (.slice o.so.a o.so.n o.so.c) := K8.cell (j := 5) (by decide)
      have e6' : (w2.setCell ⟨w4.heap.size, 1, none⟩ (.slice va (o.os.n + 1) vc)).cell? ⟨w4.heap.size, 6, none⟩ = some (.slice o.sf.a o.sf.n o.sf.c) := K8.cell (j := 6) (by decide)
      have zl := hz8.lt
      have zf0 := hz8.frozen 0
      have zc0 := hz8.cell (j := 0) (by decide)
      have zf1 := hz8.frozen 1
      have zc1 := hz8.cell (j := 1) (by decide)
      have zf2 := hz8.frozen 2
      have zc2 := hz8.cell (j := 2) (by decide)
      have zf3 := hz8.frozen 3
      have zc3 := hz8.cell (j := 3) (by decide)
      have zf4 := hz8.frozen 4
      have zc4 := hz8.cell (j := 4) (by decide)
      have zf5 := hz8.frozen 5
      have zc5 := hz8.cell (j := 5) (by decide)
      have zf6 := hz8.frozen 6
      have zc6 := hz8.cell (j := 6) (by decide)
      clear hown2 hgrow2 hOO hOS2 hB7 K7 K8 hO8 hB8 hBw8 hz8 HE HOK HK6 HBk HK17 kB hsame e1 e2 ea o1 o2 hgB hX
      refine wpList_end ⟨Late.yes, ?_⟩
      refine wpSeq_one 7 rfl ?_
      go_wp2_with fail
      refine ⟨Late.yes, ?_⟩
      refine wpSeq_one 8 rfl ?_
      go_wp2_with fail
      refine ⟨Late.yes, ?_⟩
      refine NoPanic.normal ?_
      go_wp2_with fail
      obtain ⟨hOt, hBw, hz⟩ := HEND.out
      have KZ := set7_blk hz (.slice o.on.a o.on.n o.on.c) (.slice va (o.os.n + 1) vc) (.slice o.hs.a o.hs.n o.hs.c) (.slice o.ms.a o.ms.n o.ms.c) (.slice o.si.a o.si.n o.si.c) (.slice o.so.a o.so.n o.so.c) (.slice o.sf.a o.sf.n o.sf.c)
      have hbz := set7_below (b := w.heap.size + 2) hBw (by omega) (.slice o.on.a o.on.n o.on.c) (.slice va (o.os.n + 1) vc) (.slice o.hs.a o.hs.n o.hs.c) (.slice o.ms.a o.ms.n o.ms.c) (.slice o.si.a o.si.n o.si.c) (.slice o.so.a o.so.n o.so.c) (.slice o.sf.a o.sf.n o.sf.c)
      have hOz := OwnS.set7 hOt hz (.slice o.on.a o.on.n o.on.c) (.slice va (o.os.n + 1) vc) (.slice o.hs.a o.hs.n o.hs.c) (.slice o.ms.a o.ms.n o.ms.c) (.slice o.si.a o.si.n o.si.c) (.slice o.so.a o.so.n o.so.c) (.slice o.sf.a o.sf.n o.sf.c)
      unfold set7 at KZ hbz hOz
      obtain ⟨c0', c1', c2', c3', c4', c5', c6'⟩ := box_cells KZ
      refine bodyPost_ret (v := .tuple #[(⟨o.on, ⟨va, o.os.n + 1, vc, moreO o.os ⟨0, s'⟩⟩, o.hs, o.ms, o.si, o.so, o.sf⟩ : St).val, .int .i64 0]) (by simp [results, Try.results24, go_sem, St.val, c0', c1', c2', c3', c4', c5', c6']) rfl ?_
      exact ⟨⟨o.on, ⟨va, o.os.n + 1, vc, moreO o.os ⟨0, s'⟩⟩, o.hs, o.ms, o.si, o.so, o.sf⟩, by rw [HX.out]; rfl, hOz.at, ⟨fun _ => HSM.out, fun h => absurd HX.out h⟩, hbz⟩
  · have HX : Hid (enterE p s l = stateE p s) := enterE_state h0
    clear hpk hsk hlk c0 c1 c2 c3 c4 c5 c6
    have zl := hz.lt
    have zf0 := hz.frozen 0
    have zc0 := hz.cell (j := 0) (by decide)
    have zf1 := hz.frozen 1
    have zc1 := hz.cell (j := 1) (by decide)
    have zf2 := hz.frozen 2
    have zc2 := hz.cell (j := 2) (by decide)
    have zf3 := hz.frozen 3
    have zc3 := hz.cell (j := 3) (by decide)
    have zf4 := hz.frozen 4
    have zc4 := hz.cell (j := 4) (by decide)
    have zf5 := hz.frozen 5
    have zc5 := hz.cell (j := 5) (by decide)
    have zf6 := hz.frozen 6
    have zc6 := hz.cell (j := 6) (by decide)
    go_wp2_with fail
    have KZ := set7_blk hz (.slice .none 0 0) (.slice .none 0 0) (.slice .none 0 0) (.slice .none 0 0) (.slice .none 0 0) (.slice .none 0 0) (.slice .none 0 0)
    have hbz := set7_below (b := w.heap.size + 2) hBw (by omega) (.slice .none 0 0) (.slice .none 0 0) (.slice .none 0 0) (.slice .none 0 0) (.slice .none 0 0) (.slice .none 0 0) (.slice .none 0 0)
    unfold set7 at KZ hbz
    obtain ⟨c0', c1', c2', c3', c4', c5', c6'⟩ := box_cells KZ
    refine bodyPost_ret (v := .tuple #[noneS.val, .int .i64 (stateE p s)]) (by simp [results, Try.results24, go_sem, noneS, St.val, c0', c1', c2', c3', c4', c5', c6']) rfl ?_
    exact ⟨noneS, by rw [HX.out]; rfl, noneS_at _, ⟨fun h => absurd h (by rw [HX.out]; exact h0), fun _ => ⟨rfl, rfl, rfl, rfl, rfl, rfl, rfl⟩⟩, hbz⟩

end Go.Proofs.Ytjiodlbblmbibac
/- What the document enters: EnterOf. -/
namespace Go.Proofs.Ytjiodlbblmbibac
open Go.RowKit Go.Shelf Go.Sort
set_option linter.unusedVariables false

set_option maxRecDepth 100000 in
set_option maxHeartbeats 8000000 in
theorem EnterOf_any (p : Pl) (s : St) (l : Hs) (w : World) (hp : p.At w) (hs : s.At w) (hl : l.At w) :
    Calls Try.prog 25 #[p.val, s.val, l.val] w fun e w' => ∃ s' : St, e = .returned (.tuple #[s'.val, .int .i64 (enterE p s l)]) ∧ s'.At w' ∧ ActOK (enterE p s l) (enterT s l) s' ∧ Below w.heap.size w w' := by
  obtain ⟨W0, hW, hWB, X0, Z0⟩ : ∃ W, (((w.alloc (.cells #[.slice p.ab p.nb p.cb, .slice p.sa p.ns p.cs] 25)).alloc (.cells s.cells 31)).alloc (.cells #[.slice .none 0 0, .slice .none 0 0, .slice .none 0 0, .slice .none 0 0, .slice .none 0 0, .slice .none 0 0, .slice .none 0 0] 31)) = W ∧ Below w.heap.size w W ∧ Boxes W w.heap.size (w.heap.size + 1) p s ∧ Blk W (w.heap.size + 2) 31 7 (fun _ => .slice .none 0 0) :=
    ⟨_, rfl, (two_below _ _ _).alloc (by simp; omega) _, (boxes_new w p s _ _).below ((Below.refl _ _).alloc (Nat.le_refl _) _), (Blk.mk' (cur := #[.slice .none 0 0, .slice .none 0 0, .slice .none 0 0, .slice .none 0 0, .slice .none 0 0, .slice .none 0 0, .slice .none 0 0]) (by simp) rfl).congr (fun j hj => by match j, hj with | 0, _ => rfl | 1, _ => rfl | 2, _ => rfl | 3, _ => rfl | 4, _ => rfl | 5, _ => rfl | 6, _ => rfl)⟩
  have HC : Hid (∀ wk, Below W0.heap.size W0 wk → Boxes wk w.heap.size (w.heap.size + 1) p s ∧ p.At wk ∧ s.At wk ∧ Below w.heap.size w wk ∧ Blk wk (w.heap.size + 2) 31 7 (fun _ => .slice .none 0 0) ∧ l.At wk) := fun wk h => ⟨X0.below h, (hp.below hWB).below h, (hs.below hWB).below h, hWB.trans (h.mono hWB.size), Z0.below h, (hl.below hWB).below h⟩
  have HW : Hid (((w.alloc (.cells #[.slice p.ab p.nb p.cb, .slice p.sa p.ns p.cs] 25)).alloc (.cells #[.slice s.on.a s.on.n s.on.c, .slice s.os.a s.os.n s.os.c, .slice s.hs.a s.hs.n s.hs.c, .slice s.ms.a s.ms.n s.ms.c, .slice s.si.a s.si.n s.si.c, .slice s.so.a s.so.n s.so.c, .slice s.sf.a s.sf.n s.sf.c] 31)).alloc (.cells #[.slice .none 0 0, .slice .none 0 0, .slice .none 0 0, .slice .none 0 0, .slice .none 0 0, .slice .none 0 0, .slice .none 0 0] 31) = W0) := hW
  have leb := hp.leb
  have capb0 := hp.capb
  have les := hp.les
  have caps0 := hp.caps
  have capb := capb0
  have caps := caps0
  have zlt0 := Z0.lt
  unfold maxLen at capb caps
  have lle := hl.le
  have lcap0 := hl.cap
  have lcap := lcap0
  unfold maxLen at lcap
  clear hW X0 Z0 hp hs hl
  unfold Pl.val St.val Hs.val
  go_enter Try.func25, Try.ntmps25
  go_wp2_with fail
  rw [HW.out]
  obtain ⟨X, hpk, hsk, hBw, hz, hlk⟩ := HC.out W0 (Below.refl _ _)
  refine (refCheckState_any p s W0 hpk hsk).mono ?_
  rintro e w1 ⟨rfl, hB⟩
  clear X hpk hsk hBw hz hlk HW
  obtain ⟨⟨⟨l1, d0, d1⟩, l2, c0, c1, c2, c3, c4, c5, c6⟩, hpk, hsk, hBw, hz, hlk⟩ := HC.out w1 hB
  by_cases h0 : stateE p s = 0
  · have H0 : Hid (stateE p s = 0) := h0
    have HF : Hid (Formed p s) := (rightT h0).fm
    rw [h0]
    clear h0
    have os4 := HF.out.os4
    by_cases k1 : s.os.n = 4
    · have HX : Hid (enterE p s l = 2) := enterE_many H0.out (Or.inl k1)
      have g1 : (4 : Int) ≤ (s.os.n : Int) := by omega
      have g2 : 4 ≤ s.os.n := by omega
      have g3 : decide ((4 : Int) ≤ (s.os.n : Int)) = true := decide_eq_true g1
      have g4 : decide (4 ≤ s.os.n) = true := decide_eq_true g2
      clear k1 os4
      clear hpk hsk hlk
      have zl := hz.lt
      have zf0 := hz.frozen 0
      have zc0 := hz.cell (j := 0) (by decide)
      have zf1 := hz.frozen 1
      have zc1 := hz.cell (j := 1) (by decide)
      have zf2 := hz.frozen 2
      have zc2 := hz.cell (j := 2) (by decide)
      have zf3 := hz.frozen 3
      have zc3 := hz.cell (j := 3) (by decide)
      have zf4 := hz.frozen 4
      have zc4 := hz.cell (j := 4) (by decide)
      have zf5 := hz.frozen 5
      have zc5 := hz.cell (j := 5) (by decide)
      have zf6 := hz.frozen 6
      have zc6 := hz.cell (j := 6) (by decide)
      go_wp2_with (go_at_call 48; refine calls_to (within_any _ _ _ _) ?_)
      have KZ := set7_blk hz (.slice .none 0 0) (.slice .none 0 0) (.slice .none 0 0) (.slice .none 0 0) (.slice .none 0 0) (.slice .none 0 0) (.slice .none 0 0)
      have hbz := set7_below (b := w.heap.size + 2) hBw (by omega) (.slice .none 0 0) (.slice .none 0 0) (.slice .none 0 0) (.slice .none 0 0) (.slice .none 0 0) (.slice .none 0 0) (.slice .none 0 0)
      unfold set7 at KZ hbz
      obtain ⟨c0', c1', c2', c3', c4', c5', c6'⟩ := box_cells KZ
      refine bodyPost_ret (v := .tuple #[noneS.val, .int .i64 2]) (by simp [results, Try.results25, go_sem, noneS, St.val, c0', c1', c2', c3', c4', c5', c6']) rfl ?_
      exact ⟨noneS, by rw [HX.out]; rfl, noneS_at _, ⟨fun h => absurd h (by rw [HX.out]; decide), fun _ => ⟨rfl, rfl, rfl, rfl, rfl, rfl, rfl⟩⟩, hbz⟩
    have g1 : ¬ (4 : Int) ≤ (s.os.n : Int) := by omega
    have g2 : ¬ 4 ≤ s.os.n := by omega
    have g3 : decide ((4 : Int) ≤ (s.os.n : Int)) = false := decide_eq_false g1
    have g4 : decide (4 ≤ s.os.n) = false := decide_eq_false g2
    cases k2 : inB l.n 1 3
    · have HX : Hid (enterE p s l = 2) := enterE_many H0.out (Or.inr (by have := inB_false k2; omega))
      clear k1 os4
      clear hpk hsk hlk
      have zl := hz.lt
      have zf0 := hz.frozen 0
      have zc0 := hz.cell (j := 0) (by decide)
      have zf1 := hz.frozen 1
      have zc1 := hz.cell (j := 1) (by decide)
      have zf2 := hz.frozen 2
      have zc2 := hz.cell (j := 2) (by decide)
      have zf3 := hz.frozen 3
      have zc3 := hz.cell (j := 3) (by decide)
      have zf4 := hz.frozen 4
      have zc4 := hz.cell (j := 4) (by decide)
      have zf5 := hz.frozen 5
      have zc5 := hz.cell (j := 5) (by decide)
      have zf6 := hz.frozen 6
      have zc6 := hz.cell (j := 6) (by decide)
      go_wp2_with (go_at_call 48; refine calls_to (within_any _ _ _ _) ?_)
      have KZ := set7_blk hz (.slice .none 0 0) (.slice .none 0 0) (.slice .none 0 0) (.slice .none 0 0) (.slice .none 0 0) (.slice .none 0 0) (.slice .none 0 0)
      have hbz := set7_below (b := w.heap.size + 2) hBw (by omega) (.slice .none 0 0) (.slice .none 0 0) (.slice .none 0 0) (.slice .none 0 0) (.slice .none 0 0) (.slice .none 0 0) (.slice .none 0 0)
      unfold set7 at KZ hbz
      obtain ⟨c0', c1', c2', c3', c4', c5', c6'⟩ := box_cells KZ
      refine bodyPost_ret (v := .tuple #[noneS.val, .int .i64 2]) (by simp [results, Try.results25, go_sem, noneS, St.val, c0', c1', c2', c3', c4', c5', c6']) rfl ?_
      exact ⟨noneS, by rw [HX.out]; rfl, noneS_at _, ⟨fun h => absurd h (by rw [HX.out]; decide), fun _ => ⟨rfl, rfl, rfl, rfl, rfl, rfl, rfl⟩⟩, hbz⟩
    have hl3 := inB_true k2
    have HM : Hid (¬ (s.os.n = 4 ∨ ¬ (1 ≤ l.n ∧ l.n ≤ 3))) := by show ¬ _; omega
    clear k1
    obtain ⟨bl, ol, hla, -⟩ := hlk.hds 0 (by omega)
    have HLA : Hid (l.a = some ⟨bl, ol, none⟩) := hla
    clear hz hpk hsk hlk hBw
    rw [hla]
    clear hla
    go_wp2_with (go_at_call 48; refine calls_to (within_any _ _ _ _) ?_)
    clear l1 d0 d1 l2 c0 c1 c2 c3 c4 c5 c6 g1 g2 g3 g4 k2 os4
    go_loopw [9] (fun i wk => ∃ k : Nat, k ≤ l.n ∧ i = .int .i64 k ∧ (∀ j, j < k → outL p (l.z j) = false) ∧ Below W0.heap.size W0 wk) (fun i _ => l.n - (intOf i).toNat)
    case atStart => exact ⟨0, Nat.zero_le _, rfl, fun j hj => absurd hj (Nat.not_lt_zero _), hB⟩
    case round =>
      clear hB
      obtain ⟨k, hk, rfl, hno, hB⟩ := hrel
      have HN : Hid (∀ j, j < k → outL p (l.z j) = false) := hno
      clear hno
      obtain ⟨⟨⟨l1, d0, d1⟩, l2, c0, c1, c2, c3, c4, c5, c6⟩, hpk, hsk, hBw, hz, hlk⟩ := HC.out wr hB
      by_cases hlt : k < l.n
      · obtain ⟨b2, o2, hla, hb2, y0, y1, y2, y3⟩ := hlk.hds k hlt
        rw [HLA.out] at hla
        simp only [Option.some.injEq, Addr.mk.injEq, and_true] at hla
        obtain ⟨rfl, rfl⟩ := hla
        have HOL : Hid (outL p (l.z k) = (!(inB (l.z k).o 0 ((p.ns : Int) - 1)) || !(inB (l.z k).l 1 200))) := rfl
        have HT1 : Hid (outL p (l.z k) = true → enterE p s l = 3) := fun h => enterE_range H0.out HM.out (anyB_yes hlt h)
        have HT2 : Hid (outL p (l.z k) = false → ∀ j, j < k + 1 → outL p (l.z j) = false) := fun h => all_succ HN.out h
        have qk : (0 : Int) ≤ (k : Int) := by omega
        generalize outL p (l.z k) = OL at *
        generalize l.z k = LZ at *
        have v0 : ∀ d os, (grow (redrawn wr d) os).cell? ⟨bl, ol + k * 4, none⟩ = some (.int .i64 LZ.o) := fun d os => cell_regrown y0 d os
        have v1 : ∀ d os, (grow (redrawn wr d) os).cell? ⟨bl, ol + k * 4 + 1, none⟩ = some (.int .i64 LZ.l) := fun d os => cell_regrown y1 d os
        have v2 : ∀ d os, (grow (redrawn wr d) os).cell? ⟨w.heap.size, 0, none⟩ = some (.slice p.ab p.nb p.cb) := fun d os => cell_regrown d0 d os
        have v3 : ∀ d os, (grow (redrawn wr d) os).cell? ⟨w.heap.size, 1, none⟩ = some (.slice p.sa p.ns p.cs) := fun d os => cell_regrown d1 d os
        clear y0 y1 y2 y3 d0 d1 c0 c1 c2 c3 c4 c5 c6 hpk hsk hlk hBw hz l1 l2 HN
        cases m1 : inB LZ.o 0 ((p.ns : Int) - 1)
        · have HX : Hid (enterE p s l = 3) := HT1.out (by rw [HOL.out, m1]; rfl)
          clear HT1 HT2 HOL
          go_wp2_with fail
          refine wp_region_quiet_below (by kernel_rfl) (by kernel_rfl) ?_
          repeat (go_big_quiet_step (first | (go_at_call 58; exact Calls.regrown_of (isGood_any p _ _ les caps0)) | (go_at_call 48; exact Calls.regrown_of ((within_any _ _ _ _).mono (fun _ _ h => ⟨h.1, h.2 ▸ Below.refl _ _⟩)))))
          refine wpQuiet_nil ?_
          intro w9 hw9
          have hB9 : Below W0.heap.size W0 w9 := by obtain ⟨⟨dq, osq⟩, hw''⟩ := hw9; subst hw''; exact hB.trans ((below_regrown _ _ _).mono hB.size)
          clear hw9 v0 v1 v2 v3 hB
          obtain ⟨⟨⟨l1, d0, d1⟩, l2, c0, c1, c2, c3, c4, c5, c6⟩, hpk, hsk, hBw, hz, hlk⟩ := HC.out w9 hB9
          clear hpk hsk hlk
          have zl := hz.lt
          have zf0 := hz.frozen 0
          have zc0 := hz.cell (j := 0) (by decide)
          have zf1 := hz.frozen 1
          have zc1 := hz.cell (j := 1) (by decide)
          have zf2 := hz.frozen 2
          have zc2 := hz.cell (j := 2) (by decide)
          have zf3 := hz.frozen 3
          have zc3 := hz.cell (j := 3) (by decide)
          have zf4 := hz.frozen 4
          have zc4 := hz.cell (j := 4) (by decide)
          have zf5 := hz.frozen 5
          have zc5 := hz.cell (j := 5) (by decide)
          have zf6 := hz.frozen 6
          have zc6 := hz.cell (j := 6) (by decide)
          go_wp2_with fail
          have KZ := set7_blk hz (.slice .none 0 0) (.slice .none 0 0) (.slice .none 0 0) (.slice .none 0 0) (.slice .none 0 0) (.slice .none 0 0) (.slice .none 0 0)
          have hbz := set7_below (b := w.heap.size + 2) hBw (by omega) (.slice .none 0 0) (.slice .none 0 0) (.slice .none 0 0) (.slice .none 0 0) (.slice .none 0 0) (.slice .none 0 0) (.slice .none 0 0)
          unfold set7 at KZ hbz
          obtain ⟨c0', c1', c2', c3', c4', c5', c6'⟩ := box_cells KZ
          refine bodyPost_ret (v := .tuple #[noneS.val, .int .i64 3]) (by simp [results, Try.results25, go_sem, noneS, St.val, c0', c1', c2', c3', c4', c5', c6']) rfl ?_
          exact ⟨noneS, by rw [HX.out]; rfl, noneS_at _, ⟨fun h => absurd h (by rw [HX.out]; decide), fun _ => ⟨rfl, rfl, rfl, rfl, rfl, rfl, rfl⟩⟩, hbz⟩
        · cases m2 : inB LZ.l 1 200
          · have HX : Hid (enterE p s l = 3) := HT1.out (by rw [HOL.out, m1, m2]; rfl)
            clear HT1 HT2 HOL
            go_wp2_with fail
            refine wp_region_quiet_below (by kernel_rfl) (by kernel_rfl) ?_
            repeat (go_big_quiet_step (first | (go_at_call 58; exact Calls.regrown_of (isGood_any p _ _ les caps0)) | (go_at_call 48; exact Calls.regrown_of ((within_any _ _ _ _).mono (fun _ _ h => ⟨h.1, h.2 ▸ Below.refl _ _⟩)))))
            refine wpQuiet_nil ?_
            intro w9 hw9
            have hB9 : Below W0.heap.size W0 w9 := by obtain ⟨⟨dq, osq⟩, hw''⟩ := hw9; subst hw''; exact hB.trans ((below_regrown _ _ _).mono hB.size)
            clear hw9 v0 v1 v2 v3 hB
            obtain ⟨⟨⟨l1, d0, d1⟩, l2, c0, c1, c2, c3, c4, c5, c6⟩, hpk, hsk, hBw, hz, hlk⟩ := HC.out w9 hB9
            clear hpk hsk hlk
            have zl := hz.lt
            have zf0 := hz.frozen 0
            have zc0 := hz.cell (j := 0) (by decide)
            have zf1 := hz.frozen 1
            have zc1 := hz.cell (j := 1) (by decide)
            have zf2 := hz.frozen 2
            have zc2 := hz.cell (j := 2) (by decide)
            have zf3 := hz.frozen 3
            have zc3 := hz.cell (j := 3) (by decide)
            have zf4 := hz.frozen 4
            have zc4 := hz.cell (j := 4) (by decide)
            have zf5 := hz.frozen 5
            have zc5 := hz.cell (j := 5) (by decide)
            have zf6 := hz.frozen 6
            have zc6 := hz.cell (j := 6) (by decide)
            go_wp2_with fail
            have KZ := set7_blk hz (.slice .none 0 0) (.slice .none 0 0) (.slice .none 0 0) (.slice .none 0 0) (.slice .none 0 0) (.slice .none 0 0) (.slice .none 0 0)
            have hbz := set7_below (b := w.heap.size + 2) hBw (by omega) (.slice .none 0 0) (.slice .none 0 0) (.slice .none 0 0) (.slice .none 0 0) (.slice .none 0 0) (.slice .none 0 0) (.slice .none 0 0)
            unfold set7 at KZ hbz
            obtain ⟨c0', c1', c2', c3', c4', c5', c6'⟩ := box_cells KZ
            refine bodyPost_ret (v := .tuple #[noneS.val, .int .i64 3]) (by simp [results, Try.results25, go_sem, noneS, St.val, c0', c1', c2', c3', c4', c5', c6']) rfl ?_
            exact ⟨noneS, by rw [HX.out]; rfl, noneS_at _, ⟨fun h => absurd h (by rw [HX.out]; decide), fun _ => ⟨rfl, rfl, rfl, rfl, rfl, rfl, rfl⟩⟩, hbz⟩
          · have HX2 : Hid _ := HT2.out (by rw [HOL.out, m1, m2]; rfl)
            clear HT1 HT2 HOL
            go_wp2_with fail
            refine wp_region_quiet_below (by kernel_rfl) (by kernel_rfl) ?_
            repeat (go_big_quiet_step (first | (go_at_call 58; exact Calls.regrown_of (isGood_any p _ _ les caps0)) | (go_at_call 48; exact Calls.regrown_of ((within_any _ _ _ _).mono (fun _ _ h => ⟨h.1, h.2 ▸ Below.refl _ _⟩)))))
            refine wpQuiet_nil ?_
            intro w9 hw9
            have hB9 : Below W0.heap.size W0 w9 := by obtain ⟨⟨dq, osq⟩, hw''⟩ := hw9; subst hw''; exact hB.trans ((below_regrown _ _ _).mono hB.size)
            clear hw9 v0 v1 v2 v3 hB
            go_wp2_with fail
            go_roundw
            case rel => exact ⟨k + 1, by omega, by go_num, HX2.out, hB9⟩
            case measure => simp [intOf]; omega
      · have K3 : Hid (¬ anyB l.n (fun j => outL p (l.z j)) = true) := by show ¬ _; rw [anyB_no fun j hj => HN.out j (by omega)]; decide
        clear HN hpk hsk hlk hBw hz l1 d0 d1 l2 c0 c1 c2 c3 c4 c5 c6
        go_wp2_with fail
        clear hk hlt
        go_loopw [10] (fun i wk => ∃ k : Nat, k ≤ l.n ∧ i = .int .i64 k ∧ (∀ j, j < k → begunL (l.z j) = false) ∧ Below W0.heap.size W0 wk) (fun i _ => l.n - (intOf i).toNat)
        case atStart => exact ⟨0, Nat.zero_le _, rfl, fun j hj => absurd hj (Nat.not_lt_zero _), hB⟩
        case round =>
          clear hB
          obtain ⟨k, hk, rfl, hno, hB⟩ := hrel
          have HN : Hid (∀ j, j < k → begunL (l.z j) = false) := hno
          clear hno
          obtain ⟨⟨⟨l1, d0, d1⟩, l2, c0, c1, c2, c3, c4, c5, c6⟩, hpk, hsk, hBw, hz, hlk⟩ := HC.out wr hB
          by_cases hlt : k < l.n
          · obtain ⟨b2, o2, hla, hb2, y0, y1, y2, y3⟩ := hlk.hds k hlt
            rw [HLA.out] at hla
            simp only [Option.some.injEq, Addr.mk.injEq, and_true] at hla
            obtain ⟨rfl, rfl⟩ := hla
            have HOL : Hid (begunL (l.z k) = ((l.z k).b != 0 || (l.z k).n != 0)) := rfl
            have HT1 : Hid (begunL (l.z k) = true → enterE p s l = 1) := fun h => enterE_form H0.out HM.out K3.out (anyB_yes hlt h)
            have HT2 : Hid (begunL (l.z k) = false → ∀ j, j < k + 1 → begunL (l.z j) = false) := fun h => all_succ HN.out h
            have qk : (0 : Int) ≤ (k : Int) := by omega
            generalize begunL (l.z k) = OL at *
            generalize l.z k = LZ at *
            clear c0 c1 c2 c3 c4 c5 c6 hpk hsk hlk HN
            cases m1 : (LZ.b != 0)
            · cases m2 : (LZ.n != 0)
              · have HX2 : Hid _ := HT2.out (by rw [HOL.out, m1, m2]; rfl)
                clear HT1 HT2 HOL hz hBw
                go_wp2_with fail
                go_roundw
                case rel => exact ⟨k + 1, by omega, by go_num, HX2.out, hB⟩
                case measure => simp [intOf]; omega
              · have HX : Hid (enterE p s l = 1) := HT1.out (by rw [HOL.out, m1, m2]; rfl)
                clear HT1 HT2 HOL
                have zl := hz.lt
                have zf0 := hz.frozen 0
                have zc0 := hz.cell (j := 0) (by decide)
                have zf1 := hz.frozen 1
                have zc1 := hz.cell (j := 1) (by decide)
                have zf2 := hz.frozen 2
                have zc2 := hz.cell (j := 2) (by decide)
                have zf3 := hz.frozen 3
                have zc3 := hz.cell (j := 3) (by decide)
                have zf4 := hz.frozen 4
                have zc4 := hz.cell (j := 4) (by decide)
                have zf5 := hz.frozen 5
                have zc5 := hz.cell (j := 5) (by decide)
                have zf6 := hz.frozen 6
                have zc6 := hz.cell (j := 6) (by decide)
                go_wp2_with fail
                have KZ := set7_blk hz (.slice .none 0 0) (.slice .none 0 0) (.slice .none 0 0) (.slice .none 0 0) (.slice .none 0 0) (.slice .none 0 0) (.slice .none 0 0)
                have hbz := set7_below (b := w.heap.size + 2) hBw (by omega) (.slice .none 0 0) (.slice .none 0 0) (.slice .none 0 0) (.slice .none 0 0) (.slice .none 0 0) (.slice .none 0 0) (.slice .none 0 0)
                unfold set7 at KZ hbz
                obtain ⟨c0', c1', c2', c3', c4', c5', c6'⟩ := box_cells KZ
                refine bodyPost_ret (v := .tuple #[noneS.val, .int .i64 1]) (by simp [results, Try.results25, go_sem, noneS, St.val, c0', c1', c2', c3', c4', c5', c6']) rfl ?_
                exact ⟨noneS, by rw [HX.out]; rfl, noneS_at _, ⟨fun h => absurd h (by rw [HX.out]; decide), fun _ => ⟨rfl, rfl, rfl, rfl, rfl, rfl, rfl⟩⟩, hbz⟩
            · have HX : Hid (enterE p s l = 1) := HT1.out (by rw [HOL.out, m1]; rfl)
              clear HT1 HT2 HOL
              have zl := hz.lt
              have zf0 := hz.frozen 0
              have zc0 := hz.cell (j := 0) (by decide)
              have zf1 := hz.frozen 1
              have zc1 := hz.cell (j := 1) (by decide)
              have zf2 := hz.frozen 2
              have zc2 := hz.cell (j := 2) (by decide)
              have zf3 := hz.frozen 3
              have zc3 := hz.cell (j := 3) (by decide)
              have zf4 := hz.frozen 4
              have zc4 := hz.cell (j := 4) (by decide)
              have zf5 := hz.frozen 5
              have zc5 := hz.cell (j := 5) (by decide)
              have zf6 := hz.frozen 6
              have zc6 := hz.cell (j := 6) (by decide)
              go_wp2_with fail
              have KZ := set7_blk hz (.slice .none 0 0) (.slice .none 0 0) (.slice .none 0 0) (.slice .none 0 0) (.slice .none 0 0) (.slice .none 0 0) (.slice .none 0 0)
              have hbz := set7_below (b := w.heap.size + 2) hBw (by omega) (.slice .none 0 0) (.slice .none 0 0) (.slice .none 0 0) (.slice .none 0 0) (.slice .none 0 0) (.slice .none 0 0) (.slice .none 0 0)
              unfold set7 at KZ hbz
              obtain ⟨c0', c1', c2', c3', c4', c5', c6'⟩ := box_cells KZ
              refine bodyPost_ret (v := .tuple #[noneS.val, .int .i64 1]) (by simp [results, Try.results25, go_sem, noneS, St.val, c0', c1', c2', c3', c4', c5', c6']) rfl ?_
              exact ⟨noneS, by rw [HX.out]; rfl, noneS_at _, ⟨fun h => absurd h (by rw [HX.out]; decide), fun _ => ⟨rfl, rfl, rfl, rfl, rfl, rfl, rfl⟩⟩, hbz⟩
          · have HX : Hid (enterE p s l = 0) := enterE_ok H0.out HM.out K3.out (by rw [anyB_no fun j hj => HN.out j (by omega)]; decide)
            clear K3 HM HN
            have hz0 := hz.lt
            have hcs := OwnState_any p s wr hsk HF.out
            have HCS : Hid _ := hcs
            have HLK : Hid (l.At wr) := hlk
            clear hcs hz hlk hpk hsk
            go_wp2_with fail
            refine Calls.mono HCS.out ?_
            rintro e w4 ⟨o, rfl, hsame, hown, hB2⟩
            clear HCS
            have hB4 := hB.trans (hB2.mono hB.size)
            have q3 := hB.size
            have q4 := hB2.size
            obtain ⟨W5, hW5, hBW5, KW5⟩ : ∃ W, w4.alloc (.cells #[.slice o.on.a o.on.n o.on.c, .slice o.os.a o.os.n o.os.c, .slice o.hs.a o.hs.n o.hs.c, .slice o.ms.a o.ms.n o.ms.c, .slice o.si.a o.si.n o.si.c, .slice o.so.a o.so.n o.so.c, .slice o.sf.a o.sf.n o.sf.c] 31) = W ∧ Below w4.heap.size w4 W ∧ Blk W w4.heap.size 31 7 (fun j => o.cells.getD j default) := ⟨_, rfl, (Below.refl _ _).alloc (Nat.le_refl _) _, Blk.mk' rfl rfl⟩
            have HW5 : Hid (w4.alloc (.cells #[.slice o.on.a o.on.n o.on.c, .slice o.os.a o.os.n o.os.c, .slice o.hs.a o.hs.n o.hs.c, .slice o.ms.a o.ms.n o.ms.c, .slice o.si.a o.si.n o.si.c, .slice o.so.a o.so.n o.so.c, .slice o.sf.a o.sf.n o.sf.c] 31) = W5) := hW5
            have hB5 := hB4.trans (hBW5.mono hB4.size)
            have hown5 := OwnS.below hown hBW5
            have hlk5 := (HLK.out.below hB2).below hBW5
            have q5 := hBW5.size
            have on4 : o.os.n ≤ 4 := by have := HF.out.os4; have : o.os.n = s.os.n := hsame.os.1; omega
            clear l1 d0 d1 l2 c0 c1 c2 c3 c4 c5 c6 hBw hz0 hW5
            simp only [St.val]
            go_wp2_with fail
            rw [HW5.out]
            have HOW : Hid (OwnS wr.heap.size W5 o ∧ Blk W5 w4.heap.size 31 7 (fun j => o.cells.getD j default) ∧ SameT o s) := ⟨hown5, KW5, hsame⟩
            have HL5 : Hid (l.At W5) := hlk5
            have r0 : ∀ d os, (grow (redrawn W5 d) os).cell? ⟨w4.heap.size, 1, none⟩ = some (.slice o.os.a o.os.n o.os.c) := fun d os => cell_regrown (KW5.cell (j := 1) (by decide)) d os
            have xl5 : w4.heap.size < W5.heap.size := KW5.lt
            clear hown hown5 KW5 hsame hlk5 HLK HW5 hBW5 hB2
            obtain ⟨iO, hO, hO0, hO1, hO2⟩ := info_parts infoOrderC
            obtain ⟨iL, hL, hL0, hL1, hL2⟩ := info_parts infoLineC
            refine wp_region_made6 (fun w' => ∃ p : Regrown, w' = grow (redrawn W5 p.d) p.os) [0, 1, 3] [2, 4, 5, 6] [(true, 7), (true, 8), (true, 9)] (by kernel_rfl) (by kernel_rfl) (by kernel_rfl) (by kernel_rfl) (by kernel_rfl) (by kernel_rfl) (by kernel_rfl) (by kernel_rfl) (by kernel_rfl) (regrown_of_below ((Below.refl _ _).drew)) ?_
            simp only [picks, List.drop_succ_cons, List.drop_zero, List.take_succ_cons, List.take_zero, List.cons_append, List.nil_append]
            repeat (go_big_quiet_step (fail))
            refine wpQuiet_nil ?_
            clear r0
            refine ⟨fun j v g wk => match j with | 4 => DHs W5.heap.size 53 l v g wk | 5 => D16 W5.heap.size ⟨0, l⟩ v g wk | 6 => D17 W5.heap.size ⟨0, l⟩ v g wk | _ => DE v g,
              List.forall_mem_cons.2 ⟨fun v g w w' _ h => h, List.forall_mem_cons.2 ⟨fun v g w w' hB h => DHs.below h hB, List.forall_mem_cons.2 ⟨fun v g w w' hB h => D16.below h hB, List.forall_mem_cons.2 ⟨fun v g w w' hB h => D17.below h hB, List.forall_mem_nil _⟩⟩⟩⟩,
              List.forall_mem_cons.2 ⟨fun v g w h => by obtain ⟨_, h1, _⟩ := h; rw [h1]; intro x hx; simp at hx, List.forall_mem_cons.2 ⟨fun v g w h => by obtain ⟨_, h1, _⟩ := h; rw [h1]; intro x hx; simp at hx, List.forall_mem_cons.2 ⟨fun v g w h => by obtain ⟨_, h1, _⟩ := h; rw [h1]; intro x hx; simp at hx, List.forall_mem_cons.2 ⟨fun v g w h => by obtain ⟨_, _, h1, _⟩ := h; rw [h1]; intro x hx; simp at hx, List.forall_mem_nil _⟩⟩⟩⟩,
              List.forall_mem_cons.2 ⟨?zt2, List.forall_mem_cons.2 ⟨?zt3, List.forall_mem_cons.2 ⟨?zt4, List.forall_mem_cons.2 ⟨?zt5, List.forall_mem_nil _⟩⟩⟩⟩, ?ztdone⟩
            case zt2 =>
              intro V G wk K hS hd hA hK
              have hX := below_of_regrown hS
              refine wpOp_list 2 rfl ?_
              simp only [putAll, dstOf, List.getElem?_toArray, List.getElem?_cons_succ, List.getElem?_cons_zero, Act.put, List.setIfInBounds_toArray, List.set_cons_succ, List.set_cons_zero] at hK ⊢
              go_wp2_with fail
              exact hK _ [] _ (regrown_of_below (hX.alloc hX.size _)) ((Below.refl _ _).alloc (Nat.le_refl _) _) (fun x hx => by simp at hx) ⟨wk.heap.size, rfl, rfl⟩
            case zt3 =>
              intro V G wk K hS hd hA hK
              have hX := below_of_regrown hS
              have q := hX.size
              obtain ⟨B, -, h3⟩ : DE (V 2) (G 2) := hd 2 (List.contains_iff_mem.1 (by kernel_rfl)) (by simp)
              refine wpOp_list 4 rfl ?_
              simp only [putAll, dstOf, List.getElem?_toArray, List.getElem?_cons_succ, List.getElem?_cons_zero, Act.put, List.setIfInBounds_toArray, List.set_cons_succ, List.set_cons_zero, h3] at hK ⊢
              go_wp2_with (at_builtin; refine wp_append_empty wk rfl (.tmp 79) (.tmp 80) 49 rfl 53 iL (.agg #[.int .i64 0, .int .i64 0, .int .i64 0, .int .i64 0]) 4 32 Try.underlying49 hL hL0 hL1 hL2 rfl (by decide) B rfl (some ⟨bl, ol, none⟩) l.n l.c (flatH l.n l.z) rfl (by rw [flatH_len]) (fun ad ha => hs_news (HL5.out.below hX) ad (HLA.out.trans ha)) (flatH_one _ _) (fun h => by cases h) (by unfold maxLen; omega) (by omega) ?_ ?_)
              · intro h0
                exact absurd h0 (by omega)
              · intro h0 v' w1 hown hgrow
                have hB1 : Below wk.heap.size wk w1 := (Below.refl _ wk).grown hgrow (Nat.le_refl _) (by intro k hk; cases hk)
                obtain ⟨s', rfl, hc⟩ := cloned_grow (A := W5.heap.size) h0 hown (by omega)
                exact wpList_end (hK _ [] _ (regrown_of_below (hX.trans (hB1.mono hX.size))) hB1 (fun x hx => by simp at hx) ⟨s', rfl, rfl, hc⟩)
            case zt4 =>
              intro V G wk K hS hd hA hK
              obtain ⟨s', -, h15, hc⟩ : DHs W5.heap.size 53 l (V 4) (G 4) wk := hd 4 (List.contains_iff_mem.1 (by kernel_rfl)) (by simp)
              have HCL : Hid (Cloned W5.heap.size 53 l wk s') := hc
              clear hc
              refine wpOp_list 5 rfl ?_
              simp only [putAll, dstOf, List.getElem?_toArray, List.getElem?_cons_succ, List.getElem?_cons_zero, Act.put, List.setIfInBounds_toArray, List.set_cons_succ, List.set_cons_zero, h15] at hK ⊢
              go_wp2_with fail
              exact hK _ [] _ hS (Below.refl _ _) (fun x hx => by simp at hx) ⟨s', rfl, rfl, HCL.out⟩
            case zt5 =>
              intro V G wk K hS hd hA hK
              have hX := below_of_regrown hS
              obtain ⟨s', -, h16, hc⟩ : D16 W5.heap.size ⟨0, l⟩ (V 5) (G 5) wk := hd 5 (List.contains_iff_mem.1 (by kernel_rfl)) (by simp)
              have HCL : Hid (Cloned W5.heap.size 53 l wk s') := hc
              clear hc
              refine wpOp_list 6 rfl ?_
              simp only [putAll, dstOf, List.getElem?_toArray, List.getElem?_cons_succ, List.getElem?_cons_zero, Act.put, List.setIfInBounds_toArray, List.set_cons_succ, List.set_cons_zero, h16] at hK ⊢
              go_wp2_with fail
              have hBa := (Below.refl wk.heap.size wk).alloc (Nat.le_refl _) (.cells #[.int .i64 0, .slice s'.a s'.n s'.c] 51)
              exact hK _ [] _ (regrown_of_below (hX.alloc hX.size _)) ((Below.refl _ _).alloc (Nat.le_refl _) _) (fun x hx => by simp at hx) ⟨wk.heap.size, s', rfl, rfl, hX.size, Blk.mk' rfl rfl, HCL.out.1, HCL.out.2.1, HCL.out.2.2.1.below hBa, HCL.out.2.2.2.below hBa⟩
            case ztdone =>
              intro V G' wk hS hD hA
              obtain ⟨BO, s', -, h17, m17, k17, e1, e2, ⟨o1, o2, o3, o4⟩, -⟩ : D17 W5.heap.size ⟨0, l⟩ (V 6) (G' 6) wk := hD 6 (by simp)
              have hX := below_of_regrown hS
              have q1 := hX.size
              obtain ⟨gB, ea, hgB, kB⟩ := o4 (by rw [e1]; show 0 < l.n; omega)
              obtain ⟨hO5, K5, hsame⟩ := HOW.out
              have hO6 := OwnS.below hO5 hX
              have K6 := K5.below hX
              have hBk := hB5.trans (hX.mono hB5.size)
              have HE : Hid (s'.n = l.n ∧ (∀ j, j < l.n → s'.z j = l.z j) ∧ s'.a = some ⟨gB, 0, none⟩ ∧ s'.n ≤ s'.c ∧ s'.c ≤ maxLen ∧ Blk wk gB 53 (s'.n * 4) (fun j => (flatH s'.n s'.z).getD j default) ∧ SameT o s ∧ W5.heap.size ≤ gB) := ⟨e1, e2, ea, o1, o2, kB, hsame, hgB⟩
              have HOK : Hid (OwnS wr.heap.size wk o ∧ OwnS wr.heap.size W5 o) := ⟨hO6, hO5⟩
              have HK6 : Hid (Blk wk w4.heap.size 31 7 (fun j => o.cells.getD j default)) := K6
              have HBk : Hid (Below W0.heap.size W0 wk) := hBk
              have HK17 : Hid (Blk wk BO 51 2 (fun j => (#[.int .i64 0, .slice s'.a s'.n s'.c] : Array Value).getD j default)) := k17
              clear hS hD hA e1 e2 ea o1 o2 o3 o4 kB hO5 K5 hsame hO6 K6 hBk k17 hB5
              simp only [putAll, dstOf, List.getElem?_toArray, List.getElem?_cons_succ, List.getElem?_cons_zero, Act.put, List.setIfInBounds_toArray, List.set_cons_succ, List.set_cons_zero, h17]
              refine wpSeq_one 7 rfl ?_
              go_wp2_with (at_builtin; refine wpList_append_room wk rfl (.tmp 78) (.tmp 83) 27 rfl wr.heap.size 51 iO (.agg #[.int .i64 0, .slice none 0 0]) 2 32 Try.underlying27 hO hO0 hO1 hO2 rfl (by decide) o.os.a o.os.n o.os.c (flatO o.os.n o.os.z) rfl HOK.out.1.os.room HOK.out.1.os.le HOK.out.1.os.cap (flatO_len _ _) HOK.out.1.os.list ⟨BO, 0, none⟩ 1 1 [.int .i64 0, .slice s'.a s'.n s'.c] rfl rfl ?zc1 ?zc2 (by decide) ?zc3 ?zc4 ?zc5 ?_)
              case zc1 =>
                intro j u hj
                match j, hj with
                | 0, hj => simp at hj; subst hj; exact HK17.out.cell (j := 0) (by decide)
                | 1, hj => simp at hj; subst hj; exact HK17.out.cell (j := 1) (by decide)
              case zc2 => intro u hu; simp at hu; rcases hu with rfl | rfl <;> rfl
              case zc3 => unfold maxLen; omega
              case zc4 => omega
              case zc5 => omega
              intro v2 w2 hown2 hgrow2
              obtain ⟨e1, e2, ea, o1, o2, kB, hsame, hgB⟩ := HE.out
              obtain ⟨va, vc, rfl, hOO⟩ := OwnO.more (x := ⟨0, s'⟩) HOK.out.1.os hown2 hgrow2 ea (by omega) o1 o2 kB (fun i hi e => by
                obtain ⟨B, x1, x2, x3, x4, x5⟩ := HOK.out.2.os.lines i hi
                rw [x1] at e
                have e' := e.trans ea
                simp only [Option.some.injEq, Addr.mk.injEq, and_true] at e'
                have := x5.lt
                omega)
              have hOS2 := HOK.out.1.orders hgrow2 hOO
              have hB7 := hgrow2.below HBk.out (by omega) (by have := HBk.out.size; omega)
              have K7 := hgrow2.blk HK6.out (by decide)
              have xl := K7.lt
              have zf9 := K7.frozen 1
              have zc9 := K7.cell (j := 1) (by decide)
              have K8 := K7.set 1 (.slice va (o.os.n + 1) vc)
              have hO8 := hOS2.box K7 1 (.slice va (o.os.n + 1) vc)
              have hB8 := hB7.setCell (p := ⟨w4.heap.size, 1, none⟩) (by show W0.heap.size ≤ w4.heap.size; omega) (.slice va (o.os.n + 1) vc)
              have HSM : Hid (SameT ⟨o.on, ⟨va, o.os.n + 1, vc, moreO o.os ⟨0, s'⟩⟩, o.hs, o.ms, o.si, o.so, o.sf⟩ (enterT s l)) := enter_same hsame e1 e2
              obtain ⟨-, -, -, hBw8, hz8, -⟩ := HC.out _ hB8
              have HEND : Hid (OwnS wr.heap.size (w2.setCell ⟨w4.heap.size, 1, none⟩ (.slice va (o.os.n + 1) vc)) ⟨o.on, ⟨va, o.os.n + 1, vc, moreO o.os ⟨0, s'⟩⟩, o.hs, o.ms, o.si, o.so, o.sf⟩ ∧ Below w.heap.size w (w2.setCell ⟨w4.heap.size, 1, none⟩ (.slice va (o.os.n + 1) vc)) ∧ Blk (w2.setCell ⟨w4.heap.size, 1, none⟩ (.slice va (o.os.n + 1) vc)) (w.heap.size + 2) 31 7 (fun _ => .slice .none 0 0)) := ⟨hO8, hBw8, hz8⟩
              have m8 := K8.lt
              have e0' : (w2.setCell ⟨w4.heap.size, 1, none⟩ (.slice va (o.os.n + 1) vc)).cell? ⟨w4.heap.size, 0, none⟩ = some (.slice o.on.a o.on.n o.on.c) := K8.cell (j := 0) (by decide)
              have e1' : (w2.setCell ⟨w4.heap.size, 1, none⟩ (.slice va (o.os.n + 1) vc)).cell? ⟨w4.heap.size, 1, none⟩ = some (.slice va (o.os.n + 1) vc) := K8.cell (j := 1) (by decide)
              have e2' : (w2.setCell ⟨w4.heap.size, 1, none⟩ (.slice va (o.os.n + 1) vc)).cell? ⟨w4.heap.size, 2, none⟩ = some (.slice o.hs.a o.hs.n o.hs.c) := K8.cell (j := 2) (by decide)
              have e3' : (w2.setCell ⟨w4.heap.size, 1, none⟩ (.slice va (o.os.n + 1) vc)).cell? ⟨w4.heap.size, 3, none⟩ = some (.slice o.ms.a o.ms.n o.ms.c) := K8.cell (j := 3) (by decide)
              have e4' : (w2.setCell ⟨w4.heap.size, 1, none⟩ (.slice va (o.os.n + 1) vc)).cell? ⟨w4.heap.size, 4, none⟩ = some (.slice o.si.a o.si.n o.si.c) := K8.cell (j := 4) (by decide)
              have e5' : (w2.setCell ⟨w4.heap.size, 1, none⟩ (.slice va (o.os.n + 1) vc)).cell? ⟨w4.heap.size, 5, none⟩ = some (.slice o.so.a o.so.n o.so.c) := K8.cell (j := 5) (by decide)
              have e6' : (w2.setCell ⟨w4.heap.size, 1, none⟩ (.slice va (o.os.n + 1) vc)).cell? ⟨w4.heap.size, 6, none⟩ = some (.slice o.sf.a o.sf.n o.sf.c) := K8.cell (j := 6) (by decide)
              have zl := hz8.lt
              have zf0 := hz8.frozen 0
              have zc0 := hz8.cell (j := 0) (by decide)
              have zf1 := hz8.frozen 1
              have zc1 := hz8.cell (j := 1) (by decide)
              have zf2 := hz8.frozen 2
              have zc2 := hz8.cell (j := 2) (by decide)
              have zf3 := hz8.frozen 3
              have zc3 := hz8.cell (j := 3) (by decide)
              have zf4 := hz8.frozen 4
              have zc4 := hz8.cell (j := 4) (by decide)
              have zf5 := hz8.frozen 5
              have zc5 := hz8.cell (j := 5) (by decide)
              have zf6 := hz8.frozen 6
              have zc6 := hz8.cell (j := 6) (by decide)
              clear hown2 hgrow2 hOO hOS2 hB7 K7 K8 hO8 hB8 hBw8 hz8 HE HOK HK6 HBk HK17 kB hsame e1 e2 ea o1 o2 hgB hX
              refine wpList_end ⟨Late.yes, ?_⟩
              refine wpSeq_one 8 rfl ?_
              go_wp2_with fail
              refine ⟨Late.yes, ?_⟩
              refine wpSeq_one 9 rfl ?_
              go_wp2_with fail
              refine ⟨Late.yes, ?_⟩
              refine NoPanic.normal ?_
              go_wp2_with fail
              obtain ⟨hOt, hBw, hz⟩ := HEND.out
              have KZ := set7_blk hz (.slice o.on.a o.on.n o.on.c) (.slice va (o.os.n + 1) vc) (.slice o.hs.a o.hs.n o.hs.c) (.slice o.ms.a o.ms.n o.ms.c) (.slice o.si.a o.si.n o.si.c) (.slice o.so.a o.so.n o.so.c) (.slice o.sf.a o.sf.n o.sf.c)
              have hbz := set7_below (b := w.heap.size + 2) hBw (by omega) (.slice o.on.a o.on.n o.on.c) (.slice va (o.os.n + 1) vc) (.slice o.hs.a o.hs.n o.hs.c) (.slice o.ms.a o.ms.n o.ms.c) (.slice o.si.a o.si.n o.si.c) (.slice o.so.a o.so.n o.so.c) (.slice o.sf.a o.sf.n o.sf.c)
              have hOz := OwnS.set7 hOt hz (.slice o.on.a o.on.n o.on.c) (.slice va (o.os.n + 1) vc) (.slice o.hs.a o.hs.n o.hs.c) (.slice o.ms.a o.ms.n o.ms.c) (.slice o.si.a o.si.n o.si.c) (.slice o.so.a o.so.n o.so.c) (.slice o.sf.a o.sf.n o.sf.c)
              unfold set7 at KZ hbz hOz
              obtain ⟨c0', c1', c2', c3', c4', c5', c6'⟩ := box_cells KZ
              refine bodyPost_ret (v := .tuple #[(⟨o.on, ⟨va, o.os.n + 1, vc, moreO o.os ⟨0, s'⟩⟩, o.hs, o.ms, o.si, o.so, o.sf⟩ : St).val, .int .i64 0]) (by simp [results, Try.results25, go_sem, St.val, c0', c1', c2', c3', c4', c5', c6']) rfl ?_
              exact ⟨⟨o.on, ⟨va, o.os.n + 1, vc, moreO o.os ⟨0, s'⟩⟩, o.hs, o.ms, o.si, o.so, o.sf⟩, by rw [HX.out]; rfl, hOz.at, ⟨fun _ => HSM.out, fun h => absurd HX.out h⟩, hbz⟩
  · have HX : Hid (enterE p s l = stateE p s) := enterE_state h0
    clear hpk hsk hlk c0 c1 c2 c3 c4 c5 c6
    have zl := hz.lt
    have zf0 := hz.frozen 0
    have zc0 := hz.cell (j := 0) (by decide)
    have zf1 := hz.frozen 1
    have zc1 := hz.cell (j := 1) (by decide)
    have zf2 := hz.frozen 2
    have zc2 := hz.cell (j := 2) (by decide)
    have zf3 := hz.frozen 3
    have zc3 := hz.cell (j := 3) (by decide)
    have zf4 := hz.frozen 4
    have zc4 := hz.cell (j := 4) (by decide)
    have zf5 := hz.frozen 5
    have zc5 := hz.cell (j := 5) (by decide)
    have zf6 := hz.frozen 6
    have zc6 := hz.cell (j := 6) (by decide)
    go_wp2_with fail
    have KZ := set7_blk hz (.slice .none 0 0) (.slice .none 0 0) (.slice .none 0 0) (.slice .none 0 0) (.slice .none 0 0) (.slice .none 0 0) (.slice .none 0 0)
    have hbz := set7_below (b := w.heap.size + 2) hBw (by omega) (.slice .none 0 0) (.slice .none 0 0) (.slice .none 0 0) (.slice .none 0 0) (.slice .none 0 0) (.slice .none 0 0) (.slice .none 0 0)
    unfold set7 at KZ hbz
    obtain ⟨c0', c1', c2', c3', c4', c5', c6'⟩ := box_cells KZ
    refine bodyPost_ret (v := .tuple #[noneS.val, .int .i64 (stateE p s)]) (by simp [results, Try.results25, go_sem, noneS, St.val, c0', c1', c2', c3', c4', c5', c6']) rfl ?_
    exact ⟨noneS, by rw [HX.out]; rfl, noneS_at _, ⟨fun h => absurd h (by rw [HX.out]; exact h0), fun _ => ⟨rfl, rfl, rfl, rfl, rfl, rfl, rfl⟩⟩, hbz⟩

end Go.Proofs.Ytjiodlbblmbibac
/- busy. -/
namespace Go.Proofs.Ytjiodlbblmbibac
open Go.RowKit Go.Shelf Go.Sort
set_option linter.unusedVariables false

/-- The blocks of a state of the yard; a: how many the first hold has; k: the second order's kind. -/
structure BusyB (w : World) (g : Nat) (a k : Int) : Prop where
  b0 : Blk w (g) 3 2 (fun j => (#[.int .i64 9, .int .i64 0] : Array Value).getD j default)
  b1 : Blk w (g + 1) 3 2 (fun j => (#[.int .i64 3, .int .i64 0] : Array Value).getD j default)
  b2 : Blk w (g + 2) 3 2 (fun j => (#[.int .i64 0, .int .i64 6] : Array Value).getD j default)
  b3 : Blk w (g + 3) 23 3 (fun j => (#[.slice (some ⟨g, 0, none⟩) 2 2, .slice (some ⟨g + 1, 0, none⟩) 2 2, .slice (some ⟨g + 2, 0, none⟩) 2 2] : Array Value).getD j default)
  b4 : Blk w (g + 4) 53 8 (fun j => (#[.int .i64 0, .int .i64 6, .int .i64 1, .int .i64 0, .int .i64 1, .int .i64 9, .int .i64 0, .int .i64 3] : Array Value).getD j default)
  b5 : Blk w (g + 5) 53 4 (fun j => (#[.int .i64 0, .int .i64 4, .int .i64 0, .int .i64 0] : Array Value).getD j default)
  b6 : Blk w (g + 6) 51 4 (fun j => (#[.int .i64 1, .slice (some ⟨g + 4, 0, none⟩) 2 2, .int .i64 k, .slice (some ⟨g + 5, 0, none⟩) 1 1] : Array Value).getD j default)
  b7 : Blk w (g + 7) 65 12 (fun j => (#[.int .i64 0, .int .i64 0, .int .i64 0, .int .i64 a, .int .i64 0, .int .i64 0, .int .i64 1, .int .i64 3, .int .i64 0, .int .i64 1, .int .i64 2, .int .i64 6] : Array Value).getD j default)
  b8 : Blk w (g + 8) 70 4 (fun j => (#[.int .i64 0, .int .i64 0, .int .i64 1, .int .i64 5] : Array Value).getD j default)
  b9 : Blk w (g + 9) 3 2 (fun j => (#[.int .i64 13, .int .i64 6] : Array Value).getD j default)
  b10 : Blk w (g + 10) 3 2 (fun j => (#[.int .i64 1, .int .i64 0] : Array Value).getD j default)
  b11 : Blk w (g + 11) 3 2 (fun j => (#[.int .i64 0, .int .i64 0] : Array Value).getD j default)
theorem BusyB.below {w w' : World} {g : Nat} {a k : Int} (h : BusyB w g a k) (hB : Below w.heap.size w w') : BusyB w' g a k := ⟨h.b0.below hB, h.b1.below hB, h.b2.below hB, h.b3.below hB, h.b4.below hB, h.b5.below hB, h.b6.below hB, h.b7.below hB, h.b8.below hB, h.b9.below hB, h.b10.below hB, h.b11.below hB⟩
def bz0 : Nat → Int
  | 0 => 9
  | _ => 0
def bz1 : Nat → Int
  | 0 => 3
  | _ => 0
def bz2 : Nat → Int
  | 0 => 0
  | _ => 6
def bzi : Nat → Int
  | 0 => 13
  | _ => 6
def bzo : Nat → Int
  | 0 => 1
  | _ => 0
def bl0 : Nat → Hd
  | 0 => ⟨0, 6, 1, 0⟩
  | _ => ⟨1, 9, 0, 3⟩
def bhs (a : Int) : Nat → Hd
  | 0 => ⟨0, 0, 0, a⟩
  | 1 => ⟨0, 0, 1, 3⟩
  | _ => ⟨0, 1, 2, 6⟩
def bon (g : Nat) : Nat → Rw
  | 0 => ⟨some ⟨g, 0, none⟩, 2, 2, bz0⟩
  | 1 => ⟨some ⟨g + 1, 0, none⟩, 2, 2, bz1⟩
  | _ => ⟨some ⟨g + 2, 0, none⟩, 2, 2, bz2⟩
def bos (g : Nat) (k : Int) : Nat → Od
  | 0 => ⟨1, ⟨some ⟨g + 4, 0, none⟩, 2, 2, bl0⟩⟩
  | _ => ⟨k, ⟨some ⟨g + 5, 0, none⟩, 1, 1, fun _ => ⟨0, 4, 0, 0⟩⟩⟩
def busyS (g : Nat) (a k : Int) : St := ⟨⟨some ⟨g + 3, 0, none⟩, 3, 3, bon g⟩, ⟨some ⟨g + 6, 0, none⟩, 2, 2, bos g k⟩, ⟨some ⟨g + 7, 0, none⟩, 3, 3, bhs a⟩, ⟨some ⟨g + 8, 0, none⟩, 1, 1, fun _ => ⟨0, 0, 1, 5⟩⟩, ⟨some ⟨g + 9, 0, none⟩, 2, 2, bzi⟩, ⟨some ⟨g + 10, 0, none⟩, 2, 2, bzo⟩, ⟨some ⟨g + 11, 0, none⟩, 2, 2, fun _ => 0⟩⟩

theorem le_max {n : Nat} (h : n ≤ 100) : n ≤ maxLen := by unfold maxLen; omega
theorem two_at {w : World} {g : Nat} {e : TypeId} {x y : Int} {z : Nat → Int} (h : Blk w g e 2 (fun j => (#[.int .i64 x, .int .i64 y] : Array Value).getD j default)) (h0 : z 0 = x) (h1 : z 1 = y) : Rw.At w ⟨some ⟨g, 0, none⟩, 2, 2, z⟩ := by
  refine ⟨Nat.le_refl _, le_max (n := 2) (by decide), fun i hi => ?_⟩
  have hi' : i < 2 := hi
  refine ⟨g, 0, rfl, h.lt, ?_⟩
  match i, hi' with
  | 0, _ => show w.cell? ⟨g, 0 + 0, none⟩ = some (.int .i64 (z 0)); rw [h0]; exact h.cell (j := 0) (by decide)
  | 1, _ => show w.cell? ⟨g, 0 + 1, none⟩ = some (.int .i64 (z 1)); rw [h1]; exact h.cell (j := 1) (by decide)
theorem busyAt {w : World} {g : Nat} {a k : Int} (h : BusyB w g a k) : (busyS g a k).At w := by
  refine ⟨⟨Nat.le_refl _, le_max (n := 3) (by decide), fun i hi => ?_⟩, ⟨Nat.le_refl _, le_max (n := 2) (by decide), fun i hi => ?_⟩, ⟨Nat.le_refl _, le_max (n := 3) (by decide), fun i hi => ?_, fun e => by cases e⟩, ⟨Nat.le_refl _, le_max (n := 1) (by decide), fun i hi => ?_, fun e => by cases e⟩, two_at h.b9 rfl rfl, two_at h.b10 rfl rfl, two_at h.b11 rfl rfl⟩
  · have hi' : i < 3 := hi
    refine ⟨g + 3, 0, rfl, h.b3.lt, ?_⟩
    match i, hi' with
    | 0, _ => exact ⟨h.b3.cell (j := 0) (by decide), two_at h.b0 rfl rfl⟩
    | 1, _ => exact ⟨h.b3.cell (j := 1) (by decide), two_at h.b1 rfl rfl⟩
    | 2, _ => exact ⟨h.b3.cell (j := 2) (by decide), two_at h.b2 rfl rfl⟩
  · have hi' : i < 2 := hi
    refine ⟨g + 6, 0, rfl, h.b6.lt, ?_⟩
    match i, hi' with
    | 0, _ =>
      refine ⟨h.b6.cell (j := 0) (by decide), h.b6.cell (j := 1) (by decide), Nat.le_refl _, le_max (n := 2) (by decide), fun j hj => ?_, fun e => by cases e⟩
      have hj' : j < 2 := hj
      refine ⟨g + 4, 0, rfl, h.b4.lt, ?_⟩
      match j, hj' with
      | 0, _ => exact ⟨h.b4.cell (j := 0) (by decide), h.b4.cell (j := 1) (by decide), h.b4.cell (j := 2) (by decide), h.b4.cell (j := 3) (by decide)⟩
      | 1, _ => exact ⟨h.b4.cell (j := 4) (by decide), h.b4.cell (j := 5) (by decide), h.b4.cell (j := 6) (by decide), h.b4.cell (j := 7) (by decide)⟩
    | 1, _ =>
      refine ⟨h.b6.cell (j := 2) (by decide), h.b6.cell (j := 3) (by decide), Nat.le_refl _, le_max (n := 1) (by decide), fun j hj => ?_, fun e => by cases e⟩
      have hj' : j < 1 := hj
      refine ⟨g + 5, 0, rfl, h.b5.lt, ?_⟩
      match j, hj' with
      | 0, _ => exact ⟨h.b5.cell (j := 0) (by decide), h.b5.cell (j := 1) (by decide), h.b5.cell (j := 2) (by decide), h.b5.cell (j := 3) (by decide)⟩
  · have hi' : i < 3 := hi
    refine ⟨g + 7, 0, rfl, h.b7.lt, ?_⟩
    match i, hi' with
    | 0, _ => exact ⟨h.b7.cell (j := 0) (by decide), h.b7.cell (j := 1) (by decide), h.b7.cell (j := 2) (by decide), h.b7.cell (j := 3) (by decide)⟩
    | 1, _ => exact ⟨h.b7.cell (j := 4) (by decide), h.b7.cell (j := 5) (by decide), h.b7.cell (j := 6) (by decide), h.b7.cell (j := 7) (by decide)⟩
    | 2, _ => exact ⟨h.b7.cell (j := 8) (by decide), h.b7.cell (j := 9) (by decide), h.b7.cell (j := 10) (by decide), h.b7.cell (j := 11) (by decide)⟩
  · have hi' : i < 1 := hi
    refine ⟨g + 8, 0, rfl, h.b8.lt, ?_⟩
    match i, hi' with
    | 0, _ => exact ⟨h.b8.cell (j := 0) (by decide), h.b8.cell (j := 1) (by decide), h.b8.cell (j := 2) (by decide), h.b8.cell (j := 3) (by decide)⟩

theorem busyE (g1 g2 g : Nat) : stateE (yardP g1 g2) (busyS g 2 0) = 0 ∧ stateE (yardP g1 g2) (busyS g 5 0) = 7 ∧ stateE (yardP g1 g2) (busyS g 2 3) = 1 := ⟨by rfl, by rfl, by rfl⟩
theorem busyV (g1 g2 g : Nat) : availE (yardP g1 g2) (busyS g 2 0) 0 0 = 0 ∧ availV (yardP g1 g2) (busyS g 2 0) 0 0 = 2 ∧ freeE (yardP g1 g2) (busyS g 2 0) 1 = 0 ∧ freeV (yardP g1 g2) (busyS g 2 0) 1 = 14 := ⟨by rfl, by rfl, by rfl, by rfl⟩

set_option maxRecDepth 100000 in
set_option maxHeartbeats 4000000 in
theorem busy_any (w : World) :
    Calls Try.prog 29 #[] w fun e w' => ∃ g, e = .returned (busyS g 2 0).val ∧ w.heap.size < g ∧ BusyB w' g 2 0 ∧ Below w.heap.size w w' := by
  go_enter Try.func29, Try.ntmps29
  go_wp2
  refine bodyPost_ret (v := (busyS (w.heap.size + 1) 2 0).val) (by simp [results, Try.results29, go_sem, busyS, St.val]) rfl ?_
  refine ⟨w.heap.size + 1, rfl, by omega, ⟨Blk.alloc (Blk.alloc (Blk.alloc (Blk.alloc (Blk.alloc (Blk.alloc (Blk.alloc (Blk.alloc (Blk.alloc (Blk.alloc (Blk.alloc (Blk.mk' (by simp <;> omega) rfl) _) _) _) _) _) _) _) _) _) _) _, Blk.alloc (Blk.alloc (Blk.alloc (Blk.alloc (Blk.alloc (Blk.alloc (Blk.alloc (Blk.alloc (Blk.alloc (Blk.alloc (Blk.mk' (by simp <;> omega) rfl) _) _) _) _) _) _) _) _) _) _, Blk.alloc (Blk.alloc (Blk.alloc (Blk.alloc (Blk.alloc (Blk.alloc (Blk.alloc (Blk.alloc (Blk.alloc (Blk.mk' (by simp <;> omega) rfl) _) _) _) _) _) _) _) _) _, Blk.alloc (Blk.alloc (Blk.alloc (Blk.alloc (Blk.alloc (Blk.alloc (Blk.alloc (Blk.alloc (Blk.mk' (by simp <;> omega) rfl) _) _) _) _) _) _) _) _, Blk.alloc (Blk.alloc (Blk.alloc (Blk.alloc (Blk.alloc (Blk.alloc (Blk.alloc (Blk.mk' (by simp <;> omega) rfl) _) _) _) _) _) _) _, Blk.alloc (Blk.alloc (Blk.alloc (Blk.alloc (Blk.alloc (Blk.alloc (Blk.mk' (by simp <;> omega) rfl) _) _) _) _) _) _, Blk.alloc (Blk.alloc (Blk.alloc (Blk.alloc (Blk.alloc (Blk.mk' (by simp <;> omega) rfl) _) _) _) _) _, Blk.alloc (Blk.alloc (Blk.alloc (Blk.alloc (Blk.mk' (by simp <;> omega) rfl) _) _) _) _, Blk.alloc (Blk.alloc (Blk.alloc (Blk.mk' (by simp <;> omega) rfl) _) _) _, Blk.alloc (Blk.alloc (Blk.mk' (by simp <;> omega) rfl) _) _, Blk.alloc (Blk.mk' (by simp <;> omega) rfl) _, Blk.mk' (by simp <;> omega) rfl⟩, ?_⟩
  exact (((((((((((((Below.refl _ _).alloc (Nat.le_refl _) _).alloc (by simp <;> omega) _).alloc (by simp <;> omega) _).alloc (by simp <;> omega) _).alloc (by simp <;> omega) _).alloc (by simp <;> omega) _).alloc (by simp <;> omega) _).alloc (by simp <;> omega) _).alloc (by simp <;> omega) _).alloc (by simp <;> omega) _).alloc (by simp <;> omega) _).alloc (by simp <;> omega) _).alloc (by simp <;> omega) _

end Go.Proofs.Ytjiodlbblmbibac
/- What is begun is right. No walk. -/
namespace Go.Proofs.Ytjiodlbblmbibac
open Go.RowKit
set_option linter.unusedVariables false

theorem anyB_zero {n : Nat} {f : Nat → Bool} (h : n = 0) : anyB n f = false := anyB_no fun j hj => absurd hj (by omega)
theorem sumTo_zero {z : Nat → Int} : ∀ {n : Nat}, (∀ j, j < n → z j = 0) → sumTo z n = 0
  | 0, _ => rfl
  | n + 1, h => by simp only [sumTo]; rw [sumTo_zero (n := n) fun j hj => h j (by omega), h n (by omega)]; rfl
theorem usedTo_zero {z zs : Nat → Int} : ∀ {n : Nat}, (∀ j, j < n → z j = 0) → usedTo z zs n = 0
  | 0, _ => rfl
  | n + 1, h => by simp only [usedTo]; rw [usedTo_zero (n := n) fun j hj => h j (by omega), h n (by omega)]; simp

theorem begun_shelf {p : Pl} {s : St} (h0 : planE p = 0) (b : BegunS p s) : RightS p s.on :=
  ⟨rightP h0, b.1, fun i hi => (b.2.1 i (by have := b.1; omega)).1, fun i hi j hj => by rw [(b.2.1 i (by have := b.1; omega)).2 j hj]; omega⟩
theorem begun_avail {p : Pl} {s : St} (b : BegunS p s) {i j : Nat} (hi : i < p.nb) (hj : j < p.ns) : availZ s i j = 0 := by
  obtain ⟨-, hr, -, hh, hm, -⟩ := b
  unfold availZ
  rw [hh, hm, (hr i hi).2 j hj]
  rfl
theorem begun_sum {p : Pl} {r : Rw} {low : Int} (h : r.n = p.ns ∧ ∀ j, j < p.ns → r.z j = 0) (hl : low ≤ 0) : badSum p r low = false := by
  unfold badSum
  rw [Bool.or_eq_false_iff]
  refine ⟨by simp [h.1], anyB_no fun j hj => ?_⟩
  rw [h.2 j (by rw [← h.1]; exact hj), inB_mk ⟨hl, by omega⟩]
  rfl
theorem begun_state {p : Pl} {s : St} (h0 : planE p = 0) (b : BegunS p s) : stateE p s = 0 := by
  have hS := shelfE_mk h0 (begun_shelf h0 b)
  have hb := b
  obtain ⟨hn, hr, ho, hh, hm, h1, h2, h3⟩ := hb
  have e1 : tooManyB s = false := by unfold tooManyB; rw [ho, hm]; rfl
  have e2 : badOrdersB p s = false := anyB_zero ho
  have e3 : badHoldsB p s = false := by unfold badHoldsB; rw [hh]; rfl
  have e4 : badMovesB p s = false := anyB_zero hm
  have e5 : badSumsB p s = false := by
    unfold badSumsB
    rw [begun_sum h1 (by omega), begun_sum h2 (by omega), begun_sum h3 (by omega)]
    rfl
  have e6 : wrongGoodsB p s = false := anyB_no fun g hg => by
    rw [wrongGood_eq, sumTo_zero (fun i hi => (hr i (by omega)).2 g hg), h1.2 g hg, h2.2 g hg, h3.2 g hg, anyB_no fun i hi => by rw [begun_avail b hi hg]; rfl]
    rfl
  have e7 : wrongOrdersB s = false := anyB_zero ho
  rw [stateE_sum hS e1 e2 e3 e4 e5, e6, e7]
  rfl
theorem begun_free {p : Pl} {s : St} (b : BegunS p s) {i : Nat} (hi : i < p.nb) : freeZ p s i = (p.zb i).room := by
  obtain ⟨-, hr, -, -, hm, -⟩ := b
  unfold freeZ
  rw [hm, usedTo_zero (hr i hi).2]
  simp [takeTo]

end Go.Proofs.Ytjiodlbblmbibac
/- stateBegun. -/
namespace Go.Proofs.Ytjiodlbblmbibac
open Go.RowKit Go.Shelf Go.Sort
set_option linter.unusedVariables false

theorem begunBegin {w : World} {g1 g2 : Nat} (hp : (yardP g1 g2).At w) :
    Calls Try.prog 9 #[(yardP g1 g2).val] w fun e w' => ∃ s : St, e = .returned (.tuple #[s.val, .int .i64 0]) ∧ s.At w' ∧ BegunS (yardP 0 0) s ∧ Below w.heap.size w w' := by
  refine (Begin_any _ w hp).mono ?_
  rintro e w' ⟨s, rfl, hs, hok, hB⟩
  exact ⟨s, rfl, hs, hok.1 rfl, hB⟩
theorem begunAvail {w : World} {g1 g2 g : Nat} (hp : (yardP g1 g2).At w) (hs : BusyB w g 2 0) :
    Calls Try.prog 12 #[(yardP g1 g2).val, (busyS g 2 0).val, .int .i64 0, .int .i64 0] w fun e w' => e = .returned (.tuple #[.int .i64 2, .int .i64 0]) ∧ Below w.heap.size w w' := by
  have := Avail_any _ _ 0 0 w hp (busyAt hs)
  rwa [(busyV g1 g2 g).1, (busyV g1 g2 g).2.1] at this
theorem begunFree {w : World} {g1 g2 g : Nat} (hp : (yardP g1 g2).At w) (hs : BusyB w g 2 0) :
    Calls Try.prog 13 #[(yardP g1 g2).val, (busyS g 2 0).val, .int .i64 1] w fun e w' => e = .returned (.tuple #[.int .i64 14, .int .i64 0]) ∧ Below w.heap.size w w' := by
  have := Free_any _ _ 1 w hp (busyAt hs)
  rwa [(busyV g1 g2 g).2.2.1, (busyV g1 g2 g).2.2.2] at this
theorem begunChk {w : World} {g1 g2 : Nat} {s : St} (hp : (yardP g1 g2).At w) (hs : s.At w) (e : Int) (he : stateE (yardP g1 g2) s = e) :
    Calls Try.prog 14 #[(yardP g1 g2).val, s.val] w fun e' w' => e' = .returned (.int .i64 e) ∧ Below w.heap.size w w' := by
  have := stateCheck_any _ _ w hp hs
  rwa [he] at this
theorem begunOK {g1 g2 : Nat} {s : St} (h : BegunS (yardP 0 0) s) : stateE (yardP g1 g2) s = 0 := begun_state (p := yardP g1 g2) rfl h
theorem BusyB.set5 {w : World} {g : Nat} (h : BusyB w g 2 0) : BusyB (w.setCell ⟨g + 7, 3, none⟩ (.int .i64 5)) g 5 0 :=
  ⟨h.b0.other (by simp) _, h.b1.other (by simp) _, h.b2.other (by simp) _, h.b3.other (by simp) _, h.b4.other (by simp) _, h.b5.other (by simp) _, h.b6.other (by simp) _, (h.b7.set 3 _).congr (fun j hj => by match j, hj with | 0, _ => rfl | 1, _ => rfl | 2, _ => rfl | 3, _ => rfl | 4, _ => rfl | 5, _ => rfl | 6, _ => rfl | 7, _ => rfl | 8, _ => rfl | 9, _ => rfl | 10, _ => rfl | 11, _ => rfl), h.b8.other (by simp) _, h.b9.other (by simp) _, h.b10.other (by simp) _, h.b11.other (by simp) _⟩
theorem BusyB.set3 {w : World} {g : Nat} (h : BusyB w g 2 0) : BusyB (w.setCell ⟨g + 6, 2, none⟩ (.int .i64 3)) g 2 3 :=
  ⟨h.b0.other (by simp) _, h.b1.other (by simp) _, h.b2.other (by simp) _, h.b3.other (by simp) _, h.b4.other (by simp) _, h.b5.other (by simp) _, (h.b6.set 2 _).congr (fun j hj => by match j, hj with | 0, _ => rfl | 1, _ => rfl | 2, _ => rfl | 3, _ => rfl), h.b7.other (by simp) _, h.b8.other (by simp) _, h.b9.other (by simp) _, h.b10.other (by simp) _, h.b11.other (by simp) _⟩

set_option maxRecDepth 100000 in
set_option maxHeartbeats 8000000 in
theorem stateBegun_any (w : World) :
    Calls Try.prog 10 #[] w fun e w' => e = .returned (.bool true) ∧ Below w.heap.size w w' := by
  go_enter Try.func10, Try.ntmps10
  go_wp2_with fail
  refine (yard_any _).mono ?_
  rintro e w1 ⟨g1, g2, rfl, -, -, k1, k2, hA⟩
  go_wp2_with fail
  refine (begunBegin (yardAt k1 k2)).mono ?_
  rintro e w2 ⟨s, rfl, sat, sbe, hB⟩
  have hC := hA.trans (hB.mono hA.size)
  clear hA hB k1 k2
  simp only [St.val]
  go_wp2_with fail
  obtain ⟨W, hW, hWB, K1⟩ : ∃ W, w2.alloc (.cells #[.slice s.on.a s.on.n s.on.c, .slice s.os.a s.os.n s.os.c, .slice s.hs.a s.hs.n s.hs.c, .slice s.ms.a s.ms.n s.ms.c, .slice s.si.a s.si.n s.si.c, .slice s.so.a s.so.n s.so.c, .slice s.sf.a s.sf.n s.sf.c] 31) = W ∧ Below w2.heap.size w2 W ∧ Blk W w2.heap.size 31 7 (fun j => (#[.slice s.on.a s.on.n s.on.c, .slice s.os.a s.os.n s.os.c, .slice s.hs.a s.hs.n s.hs.c, .slice s.ms.a s.ms.n s.ms.c, .slice s.si.a s.si.n s.si.c, .slice s.so.a s.so.n s.so.c, .slice s.sf.a s.sf.n s.sf.c] : Array Value).getD j default) := ⟨_, rfl, (Below.refl _ _).alloc (Nat.le_refl _) _, Blk.mk' rfl rfl⟩
  rw [hW]
  have sat := sat.below hWB
  have hC := hC.trans (hWB.mono hC.size)
  clear hW hWB
  generalize w2.heap.size = B1 at *
  refine (yard_any _).mono ?_
  rintro e w3 ⟨g1, g2, rfl, -, -, k1, k2, hA⟩
  go_wp2_with fail
  refine (busy_any _).mono ?_
  rintro e w4 ⟨g, rfl, -, bb, hB⟩
  have k1 := k1.below hB
  have k2 := k2.below hB
  have hD := hA.trans (hB.mono hA.size)
  clear hA hB
  simp only [busyS, St.val]
  go_wp2_with fail
  refine (begunAvail (yardAt k1 k2) bb).mono ?_
  rintro e w5 ⟨rfl, hB⟩
  have hD := hD.trans (hB.mono hD.size)
  have hC := hC.trans (hD.mono hC.size)
  have sat := sat.below hD
  have K1 := K1.below hD
  clear hD hB k1 k2 bb
  go_wp2_with fail
  refine (yard_any _).mono ?_
  rintro e w6 ⟨g1, g2, rfl, -, -, k1, k2, hA⟩
  go_wp2_with fail
  refine (busy_any _).mono ?_
  rintro e w7 ⟨g, rfl, -, bb, hB⟩
  have k1 := k1.below hB
  have k2 := k2.below hB
  have hD := hA.trans (hB.mono hA.size)
  clear hA hB
  simp only [busyS, St.val]
  go_wp2_with fail
  refine (begunFree (yardAt k1 k2) bb).mono ?_
  rintro e w8 ⟨rfl, hB⟩
  have hD := hD.trans (hB.mono hD.size)
  have hC := hC.trans (hD.mono hC.size)
  have sat := sat.below hD
  have K1 := K1.below hD
  clear hD hB k1 k2 bb
  go_wp2_with fail
  refine (busy_any _).mono ?_
  rintro e w9 ⟨ga, rfl, hgt, bb, hB⟩
  have hf := bb.b7.frozen 3
  have hc := bb.b7.cell (j := 3) (by decide)
  have hl := bb.b7.lt
  simp only [busyS, St.val]
  go_wp2_with fail
  obtain ⟨W2, hW, hWB, K2, bx⟩ : ∃ W, (w9.setCell ⟨ga + 7, 3, none⟩ (.int .i64 5)).alloc (.cells #[.slice (some ⟨ga + 3, 0, none⟩) 3 3, .slice (some ⟨ga + 6, 0, none⟩) 2 2, .slice (some ⟨ga + 7, 0, none⟩) 3 3, .slice (some ⟨ga + 8, 0, none⟩) 1 1, .slice (some ⟨ga + 9, 0, none⟩) 2 2, .slice (some ⟨ga + 10, 0, none⟩) 2 2, .slice (some ⟨ga + 11, 0, none⟩) 2 2] 31) = W ∧ Below w8.heap.size w8 W ∧ Blk W w9.heap.size 31 7 (fun j => (#[.slice (some ⟨ga + 3, 0, none⟩) 3 3, .slice (some ⟨ga + 6, 0, none⟩) 2 2, .slice (some ⟨ga + 7, 0, none⟩) 3 3, .slice (some ⟨ga + 8, 0, none⟩) 1 1, .slice (some ⟨ga + 9, 0, none⟩) 2 2, .slice (some ⟨ga + 10, 0, none⟩) 2 2, .slice (some ⟨ga + 11, 0, none⟩) 2 2] : Array Value).getD j default) ∧ BusyB W ga 5 0 := ⟨_, rfl, (hB.setCell (p := ⟨ga + 7, 3, none⟩) (by show w8.heap.size ≤ ga + 7; omega) _).alloc (by simpa using hB.size) _, Blk.mk' (by simp) rfl, (bb.set5).below ((Below.refl _ _).alloc (Nat.le_refl _) _)⟩
  rw [hW]
  generalize w9.heap.size = B2 at *
  have hC := hC.trans (hWB.mono hC.size)
  have sat := sat.below hWB
  have K1 := K1.below hWB
  clear hW hWB hB hgt bb hf hc hl
  clear w9
  refine (busy_any _).mono ?_
  rintro e w10 ⟨gb, rfl, hgt, bb, hB⟩
  have hf := bb.b6.frozen 2
  have hc := bb.b6.cell (j := 2) (by decide)
  have hl := bb.b6.lt
  simp only [busyS, St.val]
  go_wp2_with fail
  obtain ⟨WZ, hW, hWB, K3, by_⟩ : ∃ W, (w10.setCell ⟨gb + 6, 2, none⟩ (.int .i64 3)).alloc (.cells #[.slice (some ⟨gb + 3, 0, none⟩) 3 3, .slice (some ⟨gb + 6, 0, none⟩) 2 2, .slice (some ⟨gb + 7, 0, none⟩) 3 3, .slice (some ⟨gb + 8, 0, none⟩) 1 1, .slice (some ⟨gb + 9, 0, none⟩) 2 2, .slice (some ⟨gb + 10, 0, none⟩) 2 2, .slice (some ⟨gb + 11, 0, none⟩) 2 2] 31) = W ∧ Below W2.heap.size W2 W ∧ Blk W w10.heap.size 31 7 (fun j => (#[.slice (some ⟨gb + 3, 0, none⟩) 3 3, .slice (some ⟨gb + 6, 0, none⟩) 2 2, .slice (some ⟨gb + 7, 0, none⟩) 3 3, .slice (some ⟨gb + 8, 0, none⟩) 1 1, .slice (some ⟨gb + 9, 0, none⟩) 2 2, .slice (some ⟨gb + 10, 0, none⟩) 2 2, .slice (some ⟨gb + 11, 0, none⟩) 2 2] : Array Value).getD j default) ∧ BusyB W gb 2 3 := ⟨_, rfl, (hB.setCell (p := ⟨gb + 6, 2, none⟩) (by show W2.heap.size ≤ gb + 6; omega) _).alloc (by simpa using hB.size) _, Blk.mk' (by simp) rfl, (bb.set3).below ((Below.refl _ _).alloc (Nat.le_refl _) _)⟩
  rw [hW]
  generalize w10.heap.size = B3 at *
  have hC := hC.trans (hWB.mono hC.size)
  have sat := sat.below hWB
  have K1 := K1.below hWB
  have K2 := K2.below hWB
  have bx := bx.below hWB
  clear hW hWB hB hgt bb hf hc hl
  clear w10
  have p0 : ∀ d os, (grow (redrawn WZ d) os).cell? ⟨B1, 0, none⟩ = some (.slice s.on.a s.on.n s.on.c) := fun d os => cell_regrown (K1.cell (j := 0) (by simp)) d os
  have p1 : ∀ d os, (grow (redrawn WZ d) os).cell? ⟨B1, 1, none⟩ = some (.slice s.os.a s.os.n s.os.c) := fun d os => cell_regrown (K1.cell (j := 1) (by simp)) d os
  have p2 : ∀ d os, (grow (redrawn WZ d) os).cell? ⟨B1, 2, none⟩ = some (.slice s.hs.a s.hs.n s.hs.c) := fun d os => cell_regrown (K1.cell (j := 2) (by simp)) d os
  have p3 : ∀ d os, (grow (redrawn WZ d) os).cell? ⟨B1, 3, none⟩ = some (.slice s.ms.a s.ms.n s.ms.c) := fun d os => cell_regrown (K1.cell (j := 3) (by simp)) d os
  have p4 : ∀ d os, (grow (redrawn WZ d) os).cell? ⟨B1, 4, none⟩ = some (.slice s.si.a s.si.n s.si.c) := fun d os => cell_regrown (K1.cell (j := 4) (by simp)) d os
  have p5 : ∀ d os, (grow (redrawn WZ d) os).cell? ⟨B1, 5, none⟩ = some (.slice s.so.a s.so.n s.so.c) := fun d os => cell_regrown (K1.cell (j := 5) (by simp)) d os
  have p6 : ∀ d os, (grow (redrawn WZ d) os).cell? ⟨B1, 6, none⟩ = some (.slice s.sf.a s.sf.n s.sf.c) := fun d os => cell_regrown (K1.cell (j := 6) (by simp)) d os
  have q0 : ∀ d os, (grow (redrawn WZ d) os).cell? ⟨B2, 0, none⟩ = some (.slice (some ⟨ga + 3, 0, none⟩) 3 3) := fun d os => cell_regrown (K2.cell (j := 0) (by simp)) d os
  have q1 : ∀ d os, (grow (redrawn WZ d) os).cell? ⟨B2, 1, none⟩ = some (.slice (some ⟨ga + 6, 0, none⟩) 2 2) := fun d os => cell_regrown (K2.cell (j := 1) (by simp)) d os
  have q2 : ∀ d os, (grow (redrawn WZ d) os).cell? ⟨B2, 2, none⟩ = some (.slice (some ⟨ga + 7, 0, none⟩) 3 3) := fun d os => cell_regrown (K2.cell (j := 2) (by simp)) d os
  have q3 : ∀ d os, (grow (redrawn WZ d) os).cell? ⟨B2, 3, none⟩ = some (.slice (some ⟨ga + 8, 0, none⟩) 1 1) := fun d os => cell_regrown (K2.cell (j := 3) (by simp)) d os
  have q4 : ∀ d os, (grow (redrawn WZ d) os).cell? ⟨B2, 4, none⟩ = some (.slice (some ⟨ga + 9, 0, none⟩) 2 2) := fun d os => cell_regrown (K2.cell (j := 4) (by simp)) d os
  have q5 : ∀ d os, (grow (redrawn WZ d) os).cell? ⟨B2, 5, none⟩ = some (.slice (some ⟨ga + 10, 0, none⟩) 2 2) := fun d os => cell_regrown (K2.cell (j := 5) (by simp)) d os
  have q6 : ∀ d os, (grow (redrawn WZ d) os).cell? ⟨B2, 6, none⟩ = some (.slice (some ⟨ga + 11, 0, none⟩) 2 2) := fun d os => cell_regrown (K2.cell (j := 6) (by simp)) d os
  have r0 : ∀ d os, (grow (redrawn WZ d) os).cell? ⟨B3, 0, none⟩ = some (.slice (some ⟨gb + 3, 0, none⟩) 3 3) := fun d os => cell_regrown (K3.cell (j := 0) (by simp)) d os
  have r1 : ∀ d os, (grow (redrawn WZ d) os).cell? ⟨B3, 1, none⟩ = some (.slice (some ⟨gb + 6, 0, none⟩) 2 2) := fun d os => cell_regrown (K3.cell (j := 1) (by simp)) d os
  have r2 : ∀ d os, (grow (redrawn WZ d) os).cell? ⟨B3, 2, none⟩ = some (.slice (some ⟨gb + 7, 0, none⟩) 3 3) := fun d os => cell_regrown (K3.cell (j := 2) (by simp)) d os
  have r3 : ∀ d os, (grow (redrawn WZ d) os).cell? ⟨B3, 3, none⟩ = some (.slice (some ⟨gb + 8, 0, none⟩) 1 1) := fun d os => cell_regrown (K3.cell (j := 3) (by simp)) d os
  have r4 : ∀ d os, (grow (redrawn WZ d) os).cell? ⟨B3, 4, none⟩ = some (.slice (some ⟨gb + 9, 0, none⟩) 2 2) := fun d os => cell_regrown (K3.cell (j := 4) (by simp)) d os
  have r5 : ∀ d os, (grow (redrawn WZ d) os).cell? ⟨B3, 5, none⟩ = some (.slice (some ⟨gb + 10, 0, none⟩) 2 2) := fun d os => cell_regrown (K3.cell (j := 5) (by simp)) d os
  have r6 : ∀ d os, (grow (redrawn WZ d) os).cell? ⟨B3, 6, none⟩ = some (.slice (some ⟨gb + 11, 0, none⟩) 2 2) := fun d os => cell_regrown (K3.cell (j := 6) (by simp)) d os
  have hX : Below WZ.heap.size WZ WZ.drew := (Below.refl _ _).drew
  clear K1 K2 K3
  refine wp_region_ordS (fun w' => ∃ p : Regrown, w' = grow (redrawn WZ p.d) p.os) ((List.range' 0 5).map (fun i => (false, i)) ++ [(true, 6), (false, 5)] ++ (List.range' 7 4).map (fun i => (false, i)) ++ [(true, 12), (false, 11)] ++ (List.range' 13 4).map (fun i => (false, i)) ++ [(true, 18), (false, 17)] ++ (List.range' 19 24).map (fun i => (false, i))) (by kernel_rfl) (by kernel_rfl) (by kernel_rfl) (by kernel_rfl) (regrown_of_below hX) ?_
  refine wpOrdS_one 0 (by decide) ?_
  simp only [List.drop_zero, List.take_succ_cons, List.take_zero]
  go_wp2_with fail
  refine (yard_any _).mono ?_
  rintro e wy ⟨g1, g2, rfl, -, -, k1, k2, hB⟩
  have hX := hX.trans (hB.mono hX.size)
  clear hB
  go_wp2_with fail
  refine ⟨regrown_of_below hX, ?_⟩
  refine wpOrdS_one 1 (by decide) ?_
  simp only [List.drop_succ_cons, List.drop_zero, List.take_succ_cons, List.take_zero]
  go_wp2_with fail
  refine (busy_any _).mono ?_
  rintro e wb ⟨gz, rfl, -, bz, hB⟩
  have k1 := k1.below hB
  have k2 := k2.below hB
  have hX := hX.trans (hB.mono hX.size)
  clear hB
  simp only [busyS, St.val]
  go_wp2_with fail
  refine ⟨regrown_of_below hX, ?_⟩
  refine wpOrdS_one 2 (by decide) ?_
  simp only [List.drop_succ_cons, List.drop_zero, List.take_succ_cons, List.take_zero]
  go_wp2_with fail
  refine (begunChk (s := busyS gz 2 0) (yardAt k1 k2) (busyAt bz) 0 ((busyE _ _ _).1)).mono ?_
  rintro e wc ⟨rfl, hB⟩
  have hX := hX.trans (hB.mono hX.size)
  clear hB k1 k2
  go_wp2_with fail
  refine ⟨regrown_of_below hX, ?_⟩
  refine wpOrdS_one 3 (by decide) ?_
  simp only [List.drop_succ_cons, List.drop_zero, List.take_succ_cons, List.take_zero]
  go_wp2_with fail
  refine ⟨regrown_of_below hX, ?_⟩
  refine wpOrdS_one 4 (by decide) ?_
  simp only [List.drop_succ_cons, List.drop_zero, List.take_succ_cons, List.take_zero]
  go_wp2_with fail
  refine ⟨regrown_of_below hX, ?_⟩
  refine wpOrdS_first 6 rfl rfl ?_
  go_big_quiet_step (fail)
  refine wpQuiet_nil ?_
  refine wpOrdS_one 5 (by decide) ?_
  simp only [List.drop_succ_cons, List.drop_zero, List.take_succ_cons, List.take_zero]
  go_wp2_with fail
  refine (yard_any _).mono ?_
  rintro e wy ⟨g1, g2, rfl, -, -, k1, k2, hB⟩
  have hX := hX.trans (hB.mono hX.size)
  clear hB
  go_wp2_with fail
  refine ⟨regrown_of_below hX, ?_⟩
  refine wpOrdS_one 7 (by decide) ?_
  simp only [List.drop_succ_cons, List.drop_zero, List.take_succ_cons, List.take_zero]
  go_wp2_with fail
  refine (begunChk (s := s) (yardAt k1 k2) (sat.below hX) 0 (begunOK sbe)).mono ?_
  rintro e wc ⟨rfl, hB⟩
  have hX := hX.trans (hB.mono hX.size)
  clear hB k1 k2
  go_wp2_with fail
  refine ⟨regrown_of_below hX, ?_⟩
  refine wpOrdS_one 8 (by decide) ?_
  simp only [List.drop_succ_cons, List.drop_zero, List.take_succ_cons, List.take_zero]
  go_wp2_with fail
  refine ⟨regrown_of_below hX, ?_⟩
  refine wpOrdS_one 9 (by decide) ?_
  simp only [List.drop_succ_cons, List.drop_zero, List.take_succ_cons, List.take_zero]
  go_wp2_with fail
  refine ⟨regrown_of_below hX, ?_⟩
  refine wpOrdS_one 10 (by decide) ?_
  simp only [List.drop_succ_cons, List.drop_zero, List.take_succ_cons, List.take_zero]
  go_wp2_with fail
  refine ⟨regrown_of_below hX, ?_⟩
  refine wpOrdS_first 12 rfl rfl ?_
  go_big_quiet_step (fail)
  refine wpQuiet_nil ?_
  refine wpOrdS_one 11 (by decide) ?_
  simp only [List.drop_succ_cons, List.drop_zero, List.take_succ_cons, List.take_zero]
  go_wp2_with fail
  refine (yard_any _).mono ?_
  rintro e wy ⟨g1, g2, rfl, -, -, k1, k2, hB⟩
  have hX := hX.trans (hB.mono hX.size)
  clear hB
  go_wp2_with fail
  refine ⟨regrown_of_below hX, ?_⟩
  refine wpOrdS_one 13 (by decide) ?_
  simp only [List.drop_succ_cons, List.drop_zero, List.take_succ_cons, List.take_zero]
  go_wp2_with fail
  refine (begunChk (s := busyS ga 5 0) (yardAt k1 k2) (busyAt (bx.below hX)) 7 ((busyE _ _ _).2.1)).mono ?_
  rintro e wc ⟨rfl, hB⟩
  have hX := hX.trans (hB.mono hX.size)
  clear hB k1 k2
  go_wp2_with fail
  refine ⟨regrown_of_below hX, ?_⟩
  refine wpOrdS_one 14 (by decide) ?_
  simp only [List.drop_succ_cons, List.drop_zero, List.take_succ_cons, List.take_zero]
  go_wp2_with fail
  refine ⟨regrown_of_below hX, ?_⟩
  refine wpOrdS_one 15 (by decide) ?_
  simp only [List.drop_succ_cons, List.drop_zero, List.take_succ_cons, List.take_zero]
  go_wp2_with fail
  refine ⟨regrown_of_below hX, ?_⟩
  refine wpOrdS_one 16 (by decide) ?_
  simp only [List.drop_succ_cons, List.drop_zero, List.take_succ_cons, List.take_zero]
  go_wp2_with fail
  refine ⟨regrown_of_below hX, ?_⟩
  refine wpOrdS_first 18 rfl rfl ?_
  go_big_quiet_step (fail)
  refine wpQuiet_nil ?_
  refine wpOrdS_one 17 (by decide) ?_
  simp only [List.drop_succ_cons, List.drop_zero, List.take_succ_cons, List.take_zero]
  go_wp2_with fail
  refine (yard_any _).mono ?_
  rintro e wy ⟨g1, g2, rfl, -, -, k1, k2, hB⟩
  have hX := hX.trans (hB.mono hX.size)
  clear hB
  go_wp2_with fail
  refine ⟨regrown_of_below hX, ?_⟩
  refine wpOrdS_one 19 (by decide) ?_
  simp only [List.drop_succ_cons, List.drop_zero, List.take_succ_cons, List.take_zero]
  go_wp2_with fail
  refine (begunChk (s := busyS gb 2 3) (yardAt k1 k2) (busyAt (by_.below hX)) 1 ((busyE _ _ _).2.2)).mono ?_
  rintro e wc ⟨rfl, hB⟩
  have hX := hX.trans (hB.mono hX.size)
  clear hB k1 k2
  go_wp2_with fail
  refine ⟨regrown_of_below hX, ?_⟩
  refine wpOrdS_one 20 (by decide) ?_
  simp only [List.drop_succ_cons, List.drop_zero, List.take_succ_cons, List.take_zero]
  go_wp2_with fail
  refine ⟨regrown_of_below hX, ?_⟩
  refine wpOrdS_one 21 (by decide) ?_
  simp only [List.drop_succ_cons, List.drop_zero, List.take_succ_cons, List.take_zero]
  go_wp2_with fail
  refine ⟨regrown_of_below hX, ?_⟩
  refine wpOrdS_one 22 (by decide) ?_
  simp only [List.drop_succ_cons, List.drop_zero, List.take_succ_cons, List.take_zero]
  go_wp2_with fail
  refine ⟨regrown_of_below hX, ?_⟩
  refine wpOrdS_one 23 (by decide) ?_
  simp only [List.drop_succ_cons, List.drop_zero, List.take_succ_cons, List.take_zero]
  go_wp2_with fail
  refine ⟨regrown_of_below hX, ?_⟩
  refine wpOrdS_one 24 (by decide) ?_
  simp only [List.drop_succ_cons, List.drop_zero, List.take_succ_cons, List.take_zero]
  go_wp2_with fail
  refine ⟨regrown_of_below hX, ?_⟩
  refine wpOrdS_one 25 (by decide) ?_
  simp only [List.drop_succ_cons, List.drop_zero, List.take_succ_cons, List.take_zero]
  go_wp2_with fail
  refine ⟨regrown_of_below hX, ?_⟩
  refine wpOrdS_one 26 (by decide) ?_
  simp only [List.drop_succ_cons, List.drop_zero, List.take_succ_cons, List.take_zero]
  go_wp2_with fail
  refine ⟨regrown_of_below hX, ?_⟩
  refine wpOrdS_one 27 (by decide) ?_
  simp only [List.drop_succ_cons, List.drop_zero, List.take_succ_cons, List.take_zero]
  go_wp2_with fail
  refine ⟨regrown_of_below hX, ?_⟩
  refine wpOrdS_one 28 (by decide) ?_
  simp only [List.drop_succ_cons, List.drop_zero, List.take_succ_cons, List.take_zero]
  go_wp2_with fail
  refine ⟨regrown_of_below hX, ?_⟩
  refine wpOrdS_one 29 (by decide) ?_
  simp only [List.drop_succ_cons, List.drop_zero, List.take_succ_cons, List.take_zero]
  go_wp2_with fail
  refine ⟨regrown_of_below hX, ?_⟩
  refine wpOrdS_one 30 (by decide) ?_
  simp only [List.drop_succ_cons, List.drop_zero, List.take_succ_cons, List.take_zero]
  go_wp2_with fail
  refine ⟨regrown_of_below hX, ?_⟩
  refine wpOrdS_one 31 (by decide) ?_
  simp only [List.drop_succ_cons, List.drop_zero, List.take_succ_cons, List.take_zero]
  go_wp2_with fail
  refine ⟨regrown_of_below hX, ?_⟩
  refine wpOrdS_one 32 (by decide) ?_
  simp only [List.drop_succ_cons, List.drop_zero, List.take_succ_cons, List.take_zero]
  go_wp2_with fail
  refine ⟨regrown_of_below hX, ?_⟩
  refine wpOrdS_one 33 (by decide) ?_
  simp only [List.drop_succ_cons, List.drop_zero, List.take_succ_cons, List.take_zero]
  go_wp2_with fail
  refine ⟨regrown_of_below hX, ?_⟩
  refine wpOrdS_one 34 (by decide) ?_
  simp only [List.drop_succ_cons, List.drop_zero, List.take_succ_cons, List.take_zero]
  go_wp2_with fail
  refine ⟨regrown_of_below hX, ?_⟩
  refine wpOrdS_one 35 (by decide) ?_
  simp only [List.drop_succ_cons, List.drop_zero, List.take_succ_cons, List.take_zero]
  go_wp2_with fail
  refine ⟨regrown_of_below hX, ?_⟩
  refine wpOrdS_one 36 (by decide) ?_
  simp only [List.drop_succ_cons, List.drop_zero, List.take_succ_cons, List.take_zero]
  go_wp2_with fail
  refine ⟨regrown_of_below hX, ?_⟩
  refine wpOrdS_one 37 (by decide) ?_
  simp only [List.drop_succ_cons, List.drop_zero, List.take_succ_cons, List.take_zero]
  go_wp2_with fail
  refine ⟨regrown_of_below hX, ?_⟩
  refine wpOrdS_one 38 (by decide) ?_
  simp only [List.drop_succ_cons, List.drop_zero, List.take_succ_cons, List.take_zero]
  go_wp2_with fail
  refine ⟨regrown_of_below hX, ?_⟩
  refine wpOrdS_one 39 (by decide) ?_
  simp only [List.drop_succ_cons, List.drop_zero, List.take_succ_cons, List.take_zero]
  go_wp2_with fail
  refine ⟨regrown_of_below hX, ?_⟩
  refine wpOrdS_one 40 (by decide) ?_
  simp only [List.drop_succ_cons, List.drop_zero, List.take_succ_cons, List.take_zero]
  go_wp2_with fail
  refine ⟨regrown_of_below hX, ?_⟩
  refine wpOrdS_one 41 (by decide) ?_
  simp only [List.drop_succ_cons, List.drop_zero, List.take_succ_cons, List.take_zero]
  go_wp2_with fail
  refine ⟨regrown_of_below hX, ?_⟩
  refine wpOrdS_one 42 (by decide) ?_
  simp only [List.drop_succ_cons, List.drop_zero, List.take_succ_cons, List.take_zero]
  go_wp2_with fail
  refine ⟨regrown_of_below hX, ?_⟩
  refine NoPanic.normal ?_
  go_wp2_with fail
  go_ret
  exact ⟨rfl, hC.trans (hX.mono hC.size)⟩

end Go.Proofs.Ytjiodlbblmbibac
/- recvBegun. -/
namespace Go.Proofs.Ytjiodlbblmbibac
open Go.RowKit Go.Shelf Go.Sort
set_option linter.unusedVariables false

theorem enterE_zero {p : Pl} {s : St} {l : Hs} (h : enterE p s l = 0) : stateE p s = 0 ∧ 1 ≤ l.n ∧ l.n ≤ 3 ∧ ¬ s.os.n = 4 ∧ anyB l.n (fun j => outL p (l.z j)) = false ∧ anyB l.n (fun j => begunL (l.z j)) = false := by
  by_cases h0 : stateE p s = 0
  · by_cases h1 : s.os.n = 4 ∨ ¬ (1 ≤ l.n ∧ l.n ≤ 3)
    · rw [enterE_many h0 h1] at h; exact absurd h (by decide)
    · cases h2 : anyB l.n (fun j => outL p (l.z j))
      · cases h3 : anyB l.n (fun j => begunL (l.z j))
        · exact ⟨h0, by omega, by omega, by omega, rfl, rfl⟩
        · rw [enterE_form h0 h1 (by rw [h2]; decide) h3] at h; exact absurd h (by decide)
      · rw [enterE_range h0 h1 h2] at h; exact absurd h (by decide)
  · rw [enterE_state h0] at h; exact absurd h h0
theorem enter_bound {p : Pl} {s : St} {l : Hs} (h : enterE p s l = 0) : (enterT s l).os.n ≤ 1000 ∧ (enterT s l).ms.n ≤ 1000 ∧ ∀ i, i < (enterT s l).os.n → ((enterT s l).os.z i).ls.n ≤ 1000 := by
  obtain ⟨h0, h1, h2, -⟩ := enterE_zero h
  have f := (rightT h0).fm
  have o4 := f.os4
  have m8 := f.ms8
  refine ⟨by show s.os.n + 1 ≤ 1000; omega, by show s.ms.n ≤ 1000; omega, fun i hi => ?_⟩
  have hi' : i < s.os.n + 1 := hi
  show (if i = s.os.n then (⟨0, l⟩ : Od) else s.os.z i).ls.n ≤ 1000
  by_cases hin : i = s.os.n
  · rw [if_pos hin]; show l.n ≤ 1000; omega
  · rw [if_neg hin]; have := f.lns i (by omega); omega

theorem recvBeg7 {w : World} {g1 g2 g : Nat} (hp : (yardP g1 g2).At w) (hs : BusyB w g 2 0) :
    Calls Try.prog 21 #[(yardP g1 g2).val, (busyS g 2 0).val, .int .i64 1, .int .i64 0, .int .i64 7] w fun e w' => ∃ s' : St, e = .returned (.tuple #[s'.val, .int .i64 0]) ∧ s'.At w' ∧ (s'.on.n = 3 ∧ (s'.on.r 1).n = 2 ∧ (s'.on.r 1).z 0 = 10 ∧ s'.si.n = 2 ∧ s'.si.z 0 = 20) ∧ Below w.heap.size w w' := by
  refine (Receive_any _ _ 1 0 7 w hp (busyAt hs)).mono ?_
  rintro e w' ⟨s', rfl, hat, hok, hB⟩
  have hE : recvE (yardP g1 g2) (busyS g 2 0) 1 0 7 = 0 := by rfl
  have h := hok.1 hE
  have n1 : s'.on.n = 3 := h.on.1
  have r1 := h.on.2 1 (by omega)
  have n2 : (s'.on.r 1).n = 2 := r1.1
  have z : (s'.on.r 1).z 0 = 10 := r1.2 0 (by omega)
  have n3 : s'.si.n = 2 := h.si.1
  have z2 : s'.si.z 0 = 20 := h.si.2 0 (by omega)
  rw [hE]
  exact ⟨s', rfl, hat, ⟨n1, n2, z, n3, z2⟩, hB⟩
theorem recvBeg8 {w : World} {g1 g2 g : Nat} (hp : (yardP g1 g2).At w) (hs : BusyB w g 2 0) :
    Calls Try.prog 21 #[(yardP g1 g2).val, (busyS g 2 0).val, .int .i64 1, .int .i64 0, .int .i64 8] w fun e w' => ∃ s' : St, e = .returned (.tuple #[s'.val, .int .i64 5]) ∧ Below w.heap.size w w' := by
  refine (Receive_any _ _ 1 0 8 w hp (busyAt hs)).mono ?_
  rintro e w' ⟨s', rfl, hat, hok, hB⟩
  rw [show recvE (yardP g1 g2) (busyS g 2 0) 1 0 8 = 5 by rfl]
  exact ⟨s', rfl, hB⟩
theorem entBeg1 {w : World} {g1 g2 g G : Nat} (hp : (yardP g1 g2).At w) (hs : BusyB w g 2 0) (hl : Hs.At w ⟨some ⟨G, 0, none⟩, 1, 1, fun _ => ⟨1, 2, 0, 0⟩⟩) :
    Calls Try.prog 24 #[(yardP g1 g2).val, (busyS g 2 0).val, .slice (some ⟨G, 0, none⟩) 1 1] w fun e w' => ∃ s' : St, e = .returned (.tuple #[s'.val, .int .i64 0]) ∧ s'.At w' ∧ (s'.os.n = 3 ∧ (s'.os.z 2).ls.n = 1 ∧ ((s'.os.z 2).ls.z 0).l = 2) ∧ Below w.heap.size w w' := by
  refine (Enter_any _ _ ⟨some ⟨G, 0, none⟩, 1, 1, fun _ => ⟨1, 2, 0, 0⟩⟩ w hp (busyAt hs) hl).mono ?_
  rintro e w' ⟨s', rfl, hat, hok, hB⟩
  have hE : enterE (yardP g1 g2) (busyS g 2 0) ⟨some ⟨G, 0, none⟩, 1, 1, fun _ => ⟨1, 2, 0, 0⟩⟩ = 0 := by rfl
  have h := hok.1 hE
  have n1 : s'.os.n = 3 := h.os.1
  have r1 := h.os.2 2 (by omega)
  have n2 : (s'.os.z 2).ls.n = 1 := r1.2.1
  have z : (s'.os.z 2).ls.z 0 = ⟨1, 2, 0, 0⟩ := r1.2.2 0 (by omega)
  rw [hE]
  exact ⟨s', rfl, hat, ⟨n1, n2, by rw [z]⟩, hB⟩
theorem entBeg2 {w : World} {g1 g2 g G : Nat} (hp : (yardP g1 g2).At w) (hs : BusyB w g 2 0) (hl : Hs.At w ⟨some ⟨G, 0, none⟩, 1, 1, fun _ => ⟨2, 2, 0, 0⟩⟩) :
    Calls Try.prog 24 #[(yardP g1 g2).val, (busyS g 2 0).val, .slice (some ⟨G, 0, none⟩) 1 1] w fun e w' => ∃ s' : St, e = .returned (.tuple #[s'.val, .int .i64 3]) ∧ Below w.heap.size w w' := by
  refine (Enter_any _ _ ⟨some ⟨G, 0, none⟩, 1, 1, fun _ => ⟨2, 2, 0, 0⟩⟩ w hp (busyAt hs) hl).mono ?_
  rintro e w' ⟨s', rfl, hat, hok, hB⟩
  rw [show enterE (yardP g1 g2) (busyS g 2 0) ⟨some ⟨G, 0, none⟩, 1, 1, fun _ => ⟨2, 2, 0, 0⟩⟩ = 3 by rfl]
  exact ⟨s', rfl, hB⟩

set_option maxRecDepth 100000 in
set_option maxHeartbeats 8000000 in
theorem recvBegun_any (w : World) :
    Calls Try.prog 23 #[] w fun e w' => e = .returned (.bool true) ∧ Below w.heap.size w w' := by
  go_enter Try.func23, Try.ntmps23
  go_wp2_with fail
  refine (yard_any _).mono ?_
  rintro e w1 ⟨g1, g2, rfl, -, -, k1, k2, hA⟩
  go_wp2_with fail
  refine (busy_any _).mono ?_
  rintro e w2 ⟨g, rfl, -, bb, hB⟩
  have k1 := k1.below hB
  have k2 := k2.below hB
  have hC := hA.trans (hB.mono hA.size)
  clear hA hB
  simp only [busyS, St.val]
  go_wp2_with fail
  refine (recvBeg7 (yardAt k1 k2) bb).mono ?_
  rintro e w3 ⟨x, rfl, xat, xf, hB⟩
  have hC := hC.trans (hB.mono hC.size)
  clear hB k1 k2 bb
  have HXF : Hid (x.on.n = 3 ∧ (x.on.r 1).n = 2 ∧ (x.on.r 1).z 0 = 10 ∧ x.si.n = 2 ∧ x.si.z 0 = 20) := xf
  clear xf
  simp only [St.val]
  go_wp2_with fail
  obtain ⟨W3, hW, hWB, K1⟩ : ∃ W, w3.alloc (.cells #[.slice x.on.a x.on.n x.on.c, .slice x.os.a x.os.n x.os.c, .slice x.hs.a x.hs.n x.hs.c, .slice x.ms.a x.ms.n x.ms.c, .slice x.si.a x.si.n x.si.c, .slice x.so.a x.so.n x.so.c, .slice x.sf.a x.sf.n x.sf.c] 31) = W ∧ Below w3.heap.size w3 W ∧ Blk W w3.heap.size 31 7 (fun j => x.cells.getD j default) := ⟨_, rfl, (Below.refl _ _).alloc (Nat.le_refl _) _, Blk.mk' rfl rfl⟩
  rw [hW]
  have xat := xat.below hWB
  have hC := hC.trans (hWB.mono hC.size)
  clear hW hWB
  generalize w3.heap.size = B1 at *
  refine (yard_any _).mono ?_
  rintro e w4 ⟨g1, g2, rfl, -, -, k1, k2, hA⟩
  go_wp2_with fail
  refine (busy_any _).mono ?_
  rintro e w5 ⟨g, rfl, -, bb, hB⟩
  have k1 := k1.below hB
  have k2 := k2.below hB
  have hD := hA.trans (hB.mono hA.size)
  clear hA hB
  simp only [busyS, St.val]
  go_wp2_with fail
  refine (recvBeg8 (yardAt k1 k2) bb).mono ?_
  rintro e w6 ⟨y, rfl, hB⟩
  have hD := hD.trans (hB.mono hD.size)
  have hC := hC.trans (hD.mono hC.size)
  have xat := xat.below hD
  have K1 := K1.below hD
  clear hD hB k1 k2 bb
  simp only [St.val]
  go_wp2_with fail
  obtain ⟨W6, hW, hWB⟩ : ∃ W, w6.alloc (.cells #[.slice y.on.a y.on.n y.on.c, .slice y.os.a y.os.n y.os.c, .slice y.hs.a y.hs.n y.hs.c, .slice y.ms.a y.ms.n y.ms.c, .slice y.si.a y.si.n y.si.c, .slice y.so.a y.so.n y.so.c, .slice y.sf.a y.sf.n y.sf.c] 31) = W ∧ Below w6.heap.size w6 W := ⟨_, rfl, (Below.refl _ _).alloc (Nat.le_refl _) _⟩
  rw [hW]
  have hC := hC.trans (hWB.mono hC.size)
  have xat := xat.below hWB
  have K1 := K1.below hWB
  clear hW hWB
  generalize w6.heap.size = B2 at *
  refine (yard_any _).mono ?_
  rintro e w7 ⟨g1, g2, rfl, -, -, k1, k2, hA⟩
  go_wp2_with fail
  refine (busy_any _).mono ?_
  rintro e w8 ⟨g, rfl, -, bb, hB⟩
  have k1 := k1.below hB
  have k2 := k2.below hB
  have hD := hA.trans (hB.mono hA.size)
  clear hA hB
  simp only [busyS, St.val]
  go_wp2_with fail
  obtain ⟨W8, hW, hWB, L8⟩ : ∃ W, w8.alloc (.cells #[.int .i64 1, .int .i64 2, .int .i64 0, .int .i64 0] 53) = W ∧ Below w8.heap.size w8 W ∧ Hs.At W ⟨some ⟨w8.heap.size, 0, none⟩, 1, 1, fun _ => ⟨1, 2, 0, 0⟩⟩ := ⟨_, rfl, (Below.refl _ _).alloc (Nat.le_refl _) _, Hs.one (Blk.mk' rfl rfl)⟩
  rw [hW]
  have k1 := k1.below hWB
  have k2 := k2.below hWB
  have bb := bb.below hWB
  have hD := hD.trans (hWB.mono hD.size)
  clear hW hWB
  refine (entBeg1 (yardAt k1 k2) bb L8).mono ?_
  rintro e w9 ⟨z, rfl, zat, zf, hB⟩
  have HZF : Hid (z.os.n = 3 ∧ (z.os.z 2).ls.n = 1 ∧ ((z.os.z 2).ls.z 0).l = 2) := zf
  have hD := hD.trans (hB.mono hD.size)
  have hC := hC.trans (hD.mono hC.size)
  have xat := xat.below hD
  have K1 := K1.below hD
  clear hD hB k1 k2 bb L8 zf
  simp only [St.val]
  go_wp2_with fail
  obtain ⟨W9, hW, hWB, K2⟩ : ∃ W, w9.alloc (.cells #[.slice z.on.a z.on.n z.on.c, .slice z.os.a z.os.n z.os.c, .slice z.hs.a z.hs.n z.hs.c, .slice z.ms.a z.ms.n z.ms.c, .slice z.si.a z.si.n z.si.c, .slice z.so.a z.so.n z.so.c, .slice z.sf.a z.sf.n z.sf.c] 31) = W ∧ Below w9.heap.size w9 W ∧ Blk W w9.heap.size 31 7 (fun j => z.cells.getD j default) := ⟨_, rfl, (Below.refl _ _).alloc (Nat.le_refl _) _, Blk.mk' rfl rfl⟩
  rw [hW]
  have hC := hC.trans (hWB.mono hC.size)
  have xat := xat.below hWB
  have zat := zat.below hWB
  have K1 := K1.below hWB
  clear hW hWB
  generalize w9.heap.size = B3 at *
  refine (yard_any _).mono ?_
  rintro e wa ⟨g1, g2, rfl, -, -, k1, k2, hA⟩
  go_wp2_with fail
  refine (busy_any _).mono ?_
  rintro e wb ⟨g, rfl, -, bb, hB⟩
  have k1 := k1.below hB
  have k2 := k2.below hB
  have hD := hA.trans (hB.mono hA.size)
  clear hA hB
  simp only [busyS, St.val]
  go_wp2_with fail
  obtain ⟨Wb, hW, hWB, L8⟩ : ∃ W, wb.alloc (.cells #[.int .i64 2, .int .i64 2, .int .i64 0, .int .i64 0] 53) = W ∧ Below wb.heap.size wb W ∧ Hs.At W ⟨some ⟨wb.heap.size, 0, none⟩, 1, 1, fun _ => ⟨2, 2, 0, 0⟩⟩ := ⟨_, rfl, (Below.refl _ _).alloc (Nat.le_refl _) _, Hs.one (Blk.mk' rfl rfl)⟩
  rw [hW]
  have k1 := k1.below hWB
  have k2 := k2.below hWB
  have bb := bb.below hWB
  have hD := hD.trans (hWB.mono hD.size)
  clear hW hWB
  refine (entBeg2 (yardAt k1 k2) bb L8).mono ?_
  rintro e wc ⟨y2, rfl, hB⟩
  have hD := hD.trans (hB.mono hD.size)
  have hC := hC.trans (hD.mono hC.size)
  have xat := xat.below hD
  have zat := zat.below hD
  have K1 := K1.below hD
  have K2 := K2.below hD
  clear hD hB k1 k2 bb L8
  obtain ⟨Wc, hW, hWB⟩ : ∃ W, wc.alloc (.cells #[.slice y2.on.a y2.on.n y2.on.c, .slice y2.os.a y2.os.n y2.os.c, .slice y2.hs.a y2.hs.n y2.hs.c, .slice y2.ms.a y2.ms.n y2.ms.c, .slice y2.si.a y2.si.n y2.si.c, .slice y2.so.a y2.so.n y2.so.c, .slice y2.sf.a y2.sf.n y2.sf.c] 31) = W ∧ Below wc.heap.size wc W := ⟨_, rfl, (Below.refl _ _).alloc (Nat.le_refl _) _⟩
  have HW : Hid (wc.alloc (.cells #[.slice y2.on.a y2.on.n y2.on.c, .slice y2.os.a y2.os.n y2.os.c, .slice y2.hs.a y2.hs.n y2.hs.c, .slice y2.ms.a y2.ms.n y2.ms.c, .slice y2.si.a y2.si.n y2.si.c, .slice y2.so.a y2.so.n y2.so.c, .slice y2.sf.a y2.sf.n y2.sf.c] 31) = Wc) := hW
  have hC := hC.trans (hWB.mono hC.size)
  have xat := xat.below hWB
  have zat := zat.below hWB
  have K1 := K1.below hWB
  have K2 := K2.below hWB
  have HCC : Hid (Below w.heap.size w Wc) := hC
  obtain ⟨b1, o1, ha1, hb1, t1, hr1⟩ := xat.on.rows 1 (by rw [HXF.out.1]; decide)
  obtain ⟨b2, o2, ha2, hb2, t2⟩ := hr1.ints 0 (by rw [HXF.out.2.1]; decide)
  obtain ⟨b3, o3, ha3, hb3, t3⟩ := xat.si.ints 0 (by rw [HXF.out.2.2.2.1]; decide)
  obtain ⟨b4, o4, ha4, hb4, t4, t5, hl4⟩ := zat.os.ods 2 (by rw [HZF.out.1]; decide)
  obtain ⟨b5, o5, ha5, hb5, t6, t7, t8, t9⟩ := hl4.hds 0 (by rw [HZF.out.2.1]; decide)
  have s0 : Wc.cell? ⟨B1, 0, none⟩ = some (.slice x.on.a x.on.n x.on.c) := K1.cell (j := 0) (by decide)
  have s4 : Wc.cell? ⟨B1, 4, none⟩ = some (.slice x.si.a x.si.n x.si.c) := K1.cell (j := 4) (by decide)
  have s1 : Wc.cell? ⟨B3, 1, none⟩ = some (.slice z.os.a z.os.n z.os.c) := K2.cell (j := 1) (by decide)
  have m1 := K1.lt
  have m2 := K2.lt
  have v1 := xat.on.le
  have v2 := xat.on.cap
  have v3 := hr1.le
  have v4 := hr1.cap
  have v5 := xat.si.le
  have v6 := xat.si.cap
  have v7 := zat.os.le
  have v8 := zat.os.cap
  have v9 := hl4.le
  have v10 := hl4.cap
  rw [ha1, HXF.out.1] at s0
  rw [ha3, HXF.out.2.2.2.1] at s4
  rw [ha4, HZF.out.1] at s1
  rw [ha2, HXF.out.2.1] at t1
  rw [HXF.out.2.2.1] at t2
  rw [HXF.out.2.2.2.2] at t3
  rw [ha5, HZF.out.2.1] at t5
  rw [HZF.out.2.2] at t7
  rw [HXF.out.1] at v1
  rw [HXF.out.2.1] at v3
  rw [HXF.out.2.2.2.1] at v5
  rw [HZF.out.1] at v7
  rw [HZF.out.2.1] at v9
  unfold maxLen at v2 v4 v6 v8 v10
  simp only [Nat.add_zero, Nat.zero_mul] at t2 t3 t7
  have t5a : Wc.cell? ⟨b4, o4 + 4 + 1, none⟩ = _ := t5
  have t5b : Wc.cell? ⟨b4, o4 + 5, none⟩ = _ := t5
  clear hW xat zat K1 K2 hr1 hl4 ha1 ha2 ha3 ha4 ha5 HXF HZF hWB hC
  simp only [St.val]
  have m1e := m1
  rw [← HW.out] at m1 m2 s0 s1 s4 t1 t2 t3 t5 t5a t5b t7 hb1 hb2 hb3 hb4 hb5
  go_wp2_with fail
  go_ret
  rw [HW.out]
  exact ⟨by simp, HCC.out⟩

end Go.Proofs.Ytjiodlbblmbibac
/- What is received is right, and what is entered. No walk. -/
namespace Go.Proofs.Ytjiodlbblmbibac
open Go.RowKit
set_option linter.unusedVariables false

theorem goods_no {p : Pl} {s : St} {g : Nat} (h : wrongGood p s g = false) : sumTo (fun i => (s.on.r i).z g) s.on.n = s.si.z g - s.so.z g + s.sf.z g ∧ ∀ b, b < p.nb → 0 ≤ availZ s b g := by
  rw [wrongGood_eq, Bool.or_eq_false_iff] at h
  refine ⟨by simpa using h.1, fun b hb => ?_⟩
  have := anyB_false h.2 b hb
  simpa using this
theorem goods_mk {p : Pl} {s : St} {g : Nat} (h1 : sumTo (fun i => (s.on.r i).z g) s.on.n = s.si.z g - s.so.z g + s.sf.z g) (h2 : ∀ b, b < p.nb → 0 ≤ availZ s b g) : wrongGood p s g = false := by
  rw [wrongGood_eq, Bool.or_eq_false_iff]
  exact ⟨by simp [h1], anyB_no fun b hb => by have := h2 b hb; simpa using this⟩
theorem usedTo_put {z z' zs : Nat → Int} {m : Nat} {x : Int} : ∀ {k : Nat}, m < k → (∀ i, i < k → z' i = if i = m then z i + x else z i) → usedTo z' zs k = usedTo z zs k + x * zs m
  | k + 1, hm, h => by
    simp only [usedTo]
    by_cases hk : m = k
    · subst hk
      rw [h m (by omega), if_pos rfl, usedTo_congr (z := z') (z' := z) fun j hj => by rw [h j (by omega), if_neg (by omega)], Int.add_mul]
      omega
    · rw [usedTo_put (k := k) (by omega) fun i hi => h i (by omega), h k (by omega), if_neg (by omega)]
      omega

theorem recvE_zeros {p : Pl} {s : St} {bin good n : Int} (h : recvE p s bin good n = 0) : stateE p s = 0 ∧ (0 ≤ bin ∧ bin < p.nb) ∧ (0 ≤ good ∧ good < p.ns) ∧ (1 ≤ n ∧ n ≤ 200) ∧ n * p.zs good.toNat ≤ freeZ p s bin.toNat ∧ lyingZ s bin.toNat good.toNat + n ≤ 200 ∧ s.si.z good.toNat + n ≤ 1048576 := by
  unfold recvE at h
  by_cases h0 : stateE p s = 0
  · rw [if_pos h0] at h
    cases h1 : (inB bin 0 ((p.nb : Int) - 1) && inB good 0 ((p.ns : Int) - 1) && inB n 1 200)
    · rw [h1] at h; simp at h
    · rw [h1] at h
      simp only [if_true] at h
      simp only [Bool.and_eq_true] at h1
      have a := inB_true h1.1.1
      have b := inB_true h1.1.2
      have c := inB_true h1.2
      by_cases h2 : freeZ p s bin.toNat < n * p.zs good.toNat
      · rw [if_pos h2] at h; simp at h
      · rw [if_neg h2] at h
        by_cases h3 : 200 < lyingZ s bin.toNat good.toNat + n ∨ 1048576 < s.si.z good.toNat + n
        · rw [if_pos h3] at h; simp at h
        · exact ⟨h0, by omega, by omega, c, by omega, by omega, by omega⟩
  · rw [if_neg h0] at h; exact absurd h h0

section
variable {p : Pl} {s : St} {b g : Nat} {n : Int}
theorem recv_num (i j : Nat) : ((recvT s b g n).on.r i).z j = (s.on.r i).z j + if i = b ∧ j = g then n else 0 := by
  show (if i = b then setRw (s.on.r i) g ((s.on.r b).z g + n) else s.on.r i).z j = _
  by_cases hi : i = b
  · subst hi
    rw [if_pos rfl]
    show (if j = g then (s.on.r i).z g + n else (s.on.r i).z j) = _
    by_cases hj : j = g
    · subst hj; simp
    · simp [hj]
  · rw [if_neg hi]
    simp [hi]
theorem recv_len (i : Nat) : ((recvT s b g n).on.r i).n = (s.on.r i).n := by
  show (if i = b then setRw (s.on.r i) g ((s.on.r b).z g + n) else s.on.r i).n = _
  by_cases hi : i = b
  · rw [if_pos hi]; rfl
  · rw [if_neg hi]
theorem recv_in (j : Nat) : (recvT s b g n).si.z j = s.si.z j + if j = g then n else 0 := by
  show (if j = g then s.si.z g + n else s.si.z j) = _
  by_cases hj : j = g
  · subst hj; simp
  · simp [hj]
theorem recv_avail (i j : Nat) : availZ (recvT s b g n) i j = availZ s i j + if i = b ∧ j = g then n else 0 := by
  unfold availZ
  have e1 : heldTo (recvT s b g n) i j (recvT s b g n).hs.n = heldTo s i j s.hs.n := heldTo_eq (fun _ _ => rfl) (fun _ _ => rfl)
  have e2 : fromTo (recvT s b g n) i j (recvT s b g n).ms.n = fromTo s i j s.ms.n := fromTo_eq (fun _ _ => rfl)
  rw [recv_num, e1, e2]
  omega
theorem recv_right (r : RightT p s) (hb : b < p.nb) (hg : g < p.ns) (hn : 1 ≤ n) (h1 : lyingZ s b g + n ≤ 200) (h2 : s.si.z g + n ≤ 1048576) : RightT p (recvT s b g n) := by
  have f := r.fm
  have hbn : b < s.on.n := by rw [f.sh.n]; exact hb
  have hc := (comingTo_bd (s := s) (b := b) (g := g) f.moveN).1
  have hs : RightS p (recvT s b g n).on := by
    refine ⟨f.sh.pl, f.sh.n, fun i hi => by rw [recv_len]; exact f.sh.len i hi, fun i hi j hj => ?_⟩
    have := f.sh.num i hi j hj
    rw [recv_num]
    by_cases hij : i = b ∧ j = g
    · obtain ⟨rfl, rfl⟩ := hij
      rw [if_pos ⟨rfl, rfl⟩]
      unfold lyingZ at h1
      omega
    · rw [if_neg hij]; omega
  refine ⟨⟨hs, shelfE_mk (rightS f.sh0).1 hs, f.os4, f.ms8, f.lns, f.kind, f.line, f.hold, f.home, f.move, f.sin, f.son, f.sfn, fun j hj => ?_, f.sob, f.sfb⟩, fun j hj => ?_, r.orders⟩
  · have := f.sib j hj
    rw [recv_in]
    by_cases hj' : j = g
    · subst hj'; rw [if_pos rfl]; omega
    · rw [if_neg hj']; omega
  · obtain ⟨a1, a2⟩ := goods_no (r.goods j hj)
    refine goods_mk ?_ fun i hi => ?_
    · show sumTo (fun i => ((recvT s b g n).on.r i).z j) s.on.n = (recvT s b g n).si.z j - s.so.z j + s.sf.z j
      rw [recv_in]
      by_cases hj' : j = g
      · subst hj'
        rw [sumTo_put (z := fun i => (s.on.r i).z j) (m := b) (n := n) hbn fun i hi => by
          show ((recvT s b j n).on.r i).z j = _
          rw [recv_num]
          by_cases hib : i = b <;> simp [hib], if_pos rfl, a1]
        omega
      · rw [sumTo_congr (z' := fun i => (s.on.r i).z j) fun i hi => by
          show ((recvT s b g n).on.r i).z j = _
          rw [recv_num]
          simp [hj'], if_neg hj', a1]
        omega
    · rw [recv_avail]
      have := a2 i hi
      split <;> omega
theorem recv_free (hb : b < p.nb) (hg : g < p.ns) : freeZ p (recvT s b g n) b = freeZ p s b - n * p.zs g := by
  unfold freeZ
  have e : takeTo p (recvT s b g n) b (recvT s b g n).ms.n = takeTo p s b s.ms.n := takeTo_eq (fun _ _ => rfl)
  rw [e, usedTo_put (z := (s.on.r b).z) (m := g) (x := n) hg fun j hj => by
    rw [recv_num]
    by_cases hjg : j = g <;> simp [hjg]]
  omega
end

section
variable {p : Pl} {s : St} {l : Hs}
theorem enter_old {i : Nat} (hi : i < s.os.n) : (enterT s l).os.z i = s.os.z i := by
  show (if i = s.os.n then (⟨0, l⟩ : Od) else s.os.z i) = _
  rw [if_neg (by omega)]
theorem enter_new : (enterT s l).os.z s.os.n = ⟨0, l⟩ := by
  show (if s.os.n = s.os.n then (⟨0, l⟩ : Od) else s.os.z s.os.n) = _
  rw [if_pos rfl]
theorem keptS_none {z : Nat → Hd} {o l : Int} : ∀ {n : Nat}, (∀ j, j < n → ¬ (z j).o = o) → keptS z o l n = 0
  | 0, _ => rfl
  | n + 1, h => by
    simp only [keptS]
    rw [keptS_none (n := n) fun j hj => h j (by omega), if_neg fun e => h n (by omega) e.1]
    rfl
theorem enter_right (h : enterE p s l = 0) : RightT p (enterT s l) := by
  obtain ⟨h0, l1, l3, o4, k3, k4⟩ := enterE_zero h
  have r := rightT h0
  have f := r.fm
  have os4 := f.os4
  have ln : ∀ j, j < l.n → ((0 ≤ (l.z j).o ∧ (l.z j).o < p.ns) ∧ 1 ≤ (l.z j).l ∧ (l.z j).l ≤ 200) ∧ (l.z j).b = 0 ∧ (l.z j).n = 0 := fun j hj => by
    have a := anyB_false k3 j hj
    have b := anyB_false k4 j hj
    simp only [outL, begunL, Bool.or_eq_false_iff, Bool.not_eq_false', bne_eq_false_iff_eq] at a b
    have a1 := inB_true a.1
    have a2 := inB_true a.2
    exact ⟨⟨by omega, a2⟩, b⟩
  have hl : ∀ j, j < l.n → badLine p (l.z j) = false := fun j hj => by
    obtain ⟨⟨a1, a2⟩, a3, a4⟩ := ln j hj
    unfold badLine
    rw [inB_mk (by omega), inB_mk (by omega), inB_mk (by omega), inB_mk (by omega)]
    rfl
  have hgo : ∀ j, j < s.hs.n → goodH (enterT s l) (s.hs.z j) = goodH s (s.hs.z j) := fun j hj => by
    have := (homeless_no (f.home j hj)).1
    unfold goodH
    rw [enter_old this.2]
  have hav : ∀ b g, availZ (enterT s l) b g = availZ s b g := fun b g => by
    unfold availZ
    have e1 : heldTo (enterT s l) b g (enterT s l).hs.n = heldTo s b g s.hs.n := heldTo_eq (fun _ _ => rfl) hgo
    have e2 : fromTo (enterT s l) b g (enterT s l).ms.n = fromTo s b g s.ms.n := fromTo_eq (fun _ _ => rfl)
    rw [e1, e2]
    rfl
  have hi' : ∀ i, i < (enterT s l).os.n → i < s.os.n ∨ i = s.os.n := fun i hi => by
    have : i < s.os.n + 1 := hi
    omega
  refine ⟨⟨f.sh, f.sh0, by show s.os.n + 1 ≤ 4; omega, f.ms8, fun i hi => ?_, fun i hi => ?_, fun i hi j hj => ?_, f.hold, fun i hi => ?_, f.move, f.sin, f.son, f.sfn, f.sib, f.sob, f.sfb⟩, fun g hg => ?_, fun i hi => ?_⟩
  · rcases hi' i hi with h | rfl
    · rw [enter_old h]; exact f.lns i h
    · rw [enter_new]; exact ⟨l1, l3⟩
  · rcases hi' i hi with h | rfl
    · rw [enter_old h]; exact f.kind i h
    · rw [enter_new]; show (0 : Int) ≤ 0 ∧ (0 : Int) ≤ 2; omega
  · rcases hi' i hi with h | rfl
    · rw [enter_old h] at hj ⊢; exact f.line i h j hj
    · rw [enter_new] at hj ⊢; exact hl j hj
  · obtain ⟨a1, a2, a3⟩ := homeless_no (f.home i hi)
    refine homeless_mk (s := enterT s l) ⟨a1.1, ?_⟩ ⟨a2.1, ?_⟩ a3
    · show _ < s.os.n + 1
      have := a1.2
      show (s.hs.z i).o.toNat < s.os.n + 1
      omega
    · show (s.hs.z i).l.toNat < ((enterT s l).os.z (s.hs.z i).o.toNat).ls.n
      rw [enter_old a1.2]; exact a2.2
  · obtain ⟨a1, a2⟩ := goods_no (r.goods g hg)
    exact goods_mk a1 fun b hb => by rw [hav]; exact a2 b hb
  · rcases hi' i hi with h | rfl
    · have := r.orders i h
      unfold wrongOrder at this ⊢
      rw [enter_old h]
      exact this
    · unfold wrongOrder
      rw [enter_new]
      show (((0 : Int) == 1 && !anyB l.n (fun j => lacksL (l.z j))) || anyB l.n (fun j => wrongL 0 (l.z j) (keptS s.hs.z s.os.n j s.hs.n))) = false
      rw [Bool.or_eq_false_iff]
      refine ⟨by simp, anyB_no fun j hj => ?_⟩
      obtain ⟨-, a3, a4⟩ := ln j hj
      rw [keptS_none fun q hq e => by have := (homeless_no (f.home q hq)).1; omega]
      unfold wrongL
      rw [if_pos rfl, a3, a4]
      rfl
end

end Go.Proofs.Ytjiodlbblmbibac
/- What is taken, told of whole states: what comes is right. No walk. -/
namespace Go.Proofs.Ytjiodlbblmbibac
open Go.RowKit
set_option linter.unusedVariables false

theorem sumTo_at {z z' : Nat → Int} {m : Nat} {n : Int} {k : Nat} (hm : m < k) (h : ∀ i, i < k → z' i = z i + if i = m then n else 0) : sumTo z' k = sumTo z k + n :=
  sumTo_put hm fun i hi => by rw [h i hi]; by_cases e : i = m <;> simp [e]
theorem sumTo_same {z z' : Nat → Int} {k : Nat} (h : ∀ i, i < k → z' i = z i) : sumTo z' k = sumTo z k := sumTo_congr h

/-- How many are held, line by line. -/
def lineHeld (x : St) (b g : Int) (k : Nat) (o l : Nat) : Int := if ((x.os.z o).ls.z l).o = g then keptV k x.hs.z o l b else 0
def heldSum (x : St) (b g : Int) (k : Nat) : Int := sumTo (fun o => sumTo (fun l => lineHeld x b g k o l) (x.os.z o).ls.n) x.os.n
theorem heldTo_sum {p : Pl} {x : St} (b g : Int) : ∀ k, (∀ j, j < k → homeless p x (x.hs.z j) = false) → anyB k (badH x.hs.z) = false → heldTo x b g k = heldSum x b g k
  | 0, _, _ => by
    unfold heldSum
    rw [sumTo_zero fun o _ => sumTo_zero fun l _ => by unfold lineHeld keptV; simp]
    rfl
  | k + 1, h, hr => by
    simp only [heldTo]
    rw [heldTo_sum b g k (fun j hj => h j (by omega)) (right_pred hr)]
    obtain ⟨h1, h2, h3⟩ := homeless_no (h k (by omega))
    have key : ∀ o l, lineHeld x b g (k + 1) o l = lineHeld x b g k o l + if o = (x.hs.z k).o.toNat ∧ l = (x.hs.z k).l.toNat then (if (x.hs.z k).b = b ∧ goodH x (x.hs.z k) = g then (x.hs.z k).n else 0) else 0 := fun o l => by
      unfold lineHeld
      rw [keptV_succ hr]
      by_cases hol : o = (x.hs.z k).o.toNat ∧ l = (x.hs.z k).l.toNat
      · rw [if_pos hol]
        obtain ⟨rfl, rfl⟩ := hol
        have e1 : (((x.hs.z k).o.toNat : Nat) : Int) = (x.hs.z k).o := by omega
        have e2 : (((x.hs.z k).l.toNat : Nat) : Int) = (x.hs.z k).l := by omega
        rw [e1, e2]
        by_cases hg : goodH x (x.hs.z k) = g
        · have hg' : ((x.os.z (x.hs.z k).o.toNat).ls.z (x.hs.z k).l.toNat).o = g := hg
          rw [if_pos hg', if_pos hg']
          by_cases hb : (x.hs.z k).b = b
          · have hm : matchH (x.hs.z k) (x.hs.z k).o (x.hs.z k).l b = true := by rw [← hb]; exact matchH_self _
            have e3 : (if (x.hs.z k).b = b ∧ goodH x (x.hs.z k) = g then (x.hs.z k).n else 0) = (x.hs.z k).n := if_pos ⟨hb, hg⟩
            rw [hm, e3, if_pos rfl]
          · have hm : matchH (x.hs.z k) (x.hs.z k).o (x.hs.z k).l b = false := by
              cases hm : matchH (x.hs.z k) (x.hs.z k).o (x.hs.z k).l b
              · rfl
              · exact absurd (matchH_true hm).2.2 hb
            have e3 : (if (x.hs.z k).b = b ∧ goodH x (x.hs.z k) = g then (x.hs.z k).n else 0) = 0 := if_neg (fun e => hb e.1)
            rw [hm, e3]
            simp
        · have hg' : ¬ ((x.os.z (x.hs.z k).o.toNat).ls.z (x.hs.z k).l.toNat).o = g := hg
          rw [if_neg hg', if_neg hg', if_neg (fun e => hg e.2)]
          rfl
      · rw [if_neg hol]
        have : matchH (x.hs.z k) o l b = false := by
          cases hm : matchH (x.hs.z k) o l b
          · rfl
          · have := matchH_true hm
            exact absurd ⟨by omega, by omega⟩ hol
        rw [this]
        simp
    unfold heldSum
    refine (sumTo_at h1.2 fun o ho => ?_).symm
    by_cases hoo : o = (x.hs.z k).o.toNat
    · rw [if_pos hoo]
      subst hoo
      exact sumTo_at h2.2 fun l hl => by
        rw [key]
        by_cases hll : l = (x.hs.z k).l.toNat
        · rw [if_pos ⟨rfl, hll⟩, if_pos hll]
        · rw [if_neg (fun e => hll e.2), if_neg hll]
    · rw [if_neg hoo, Int.add_zero]
      exact sumTo_same fun l hl => by rw [key, if_neg (fun e => hoo e.1)]; omega

/-- A line that lacks less. -/
def lessL (x : Hd) (n : Int) : Hd := ⟨x.o, x.l, x.b, x.n - n⟩
/-- A state of which n - t.left pieces were taken for a line, t.took of each bin. -/
structure Took (s : St) (o l : Nat) (n : Int) (t : Tk) (x : St) : Prop where
  on : x.on.n = s.on.n ∧ ∀ i, i < x.on.n → (x.on.r i).n = (s.on.r i).n ∧ ∀ j, j < (x.on.r i).n → (x.on.r i).z j = (s.on.r i).z j
  os : x.os.n = s.os.n ∧ ∀ i, i < x.os.n → (x.os.z i).k = (s.os.z i).k ∧ (x.os.z i).ls.n = (s.os.z i).ls.n ∧ ∀ j, j < (x.os.z i).ls.n → (x.os.z i).ls.z j = if i = o ∧ j = l then lessL ((s.os.z i).ls.z j) (n - t.left) else (s.os.z i).ls.z j
  right : anyB x.hs.n (badH x.hs.z) = false
  kept : ∀ a b c : Int, keptV x.hs.n x.hs.z a b c = keptV s.hs.n s.hs.z a b c + if a = o ∧ b = l then t.took c else 0
  ms : x.ms.n = s.ms.n ∧ ∀ j, j < x.ms.n → x.ms.z j = s.ms.z j
  si : x.si.n = s.si.n ∧ ∀ j, j < x.si.n → x.si.z j = s.si.z j
  so : x.so.n = s.so.n ∧ ∀ j, j < x.so.n → x.so.z j = s.so.z j
  sf : x.sf.n = s.sf.n ∧ ∀ j, j < x.sf.n → x.sf.z j = s.sf.z j
/-- Two of them are the same. -/
theorem Took.same {s : St} {o l : Nat} {n : Int} {t : Tk} {x y : St} (h : Took s o l n t x) (k : Took s o l n t y) : SameT x y := by
  have ho : ∀ i, i < x.os.n → i < y.os.n := fun i hi => by rw [k.os.1, ← h.os.1]; exact hi
  refine ⟨⟨h.on.1.trans k.on.1.symm, fun i hi => ?_⟩, ⟨h.os.1.trans k.os.1.symm, fun i hi => ?_⟩, right_ext h.right k.right fun a b c => (h.kept a b c).trans (k.kept a b c).symm, ⟨h.ms.1.trans k.ms.1.symm, fun j hj => (h.ms.2 j hj).trans (k.ms.2 j (by rw [k.ms.1, ← h.ms.1]; exact hj)).symm⟩, ⟨h.si.1.trans k.si.1.symm, fun j hj => (h.si.2 j hj).trans (k.si.2 j (by rw [k.si.1, ← h.si.1]; exact hj)).symm⟩, ⟨h.so.1.trans k.so.1.symm, fun j hj => (h.so.2 j hj).trans (k.so.2 j (by rw [k.so.1, ← h.so.1]; exact hj)).symm⟩, ⟨h.sf.1.trans k.sf.1.symm, fun j hj => (h.sf.2 j hj).trans (k.sf.2 j (by rw [k.sf.1, ← h.sf.1]; exact hj)).symm⟩⟩
  · have a := h.on.2 i hi
    have b := k.on.2 i (by rw [k.on.1, ← h.on.1]; exact hi)
    exact ⟨a.1.trans b.1.symm, fun j hj => (a.2 j hj).trans (b.2 j (by rw [b.1, ← a.1]; exact hj)).symm⟩
  · have a := h.os.2 i hi
    have b := k.os.2 i (ho i hi)
    exact ⟨a.1.trans b.1.symm, a.2.1.trans b.2.1.symm, fun j hj => (a.2.2 j hj).trans (b.2.2 j (by rw [b.2.1, ← a.2.1]; exact hj)).symm⟩

section
variable {p : Pl} {s x : St} {o l : Nat} {n : Int} {t : Tk}
theorem Took.line (h : Took s o l n t x) {i j : Nat} (hi : i < s.os.n) (hj : j < (s.os.z i).ls.n) : (x.os.z i).ls.z j = if i = o ∧ j = l then lessL ((s.os.z i).ls.z j) (n - t.left) else (s.os.z i).ls.z j := by
  have a := h.os.2 i (by rw [h.os.1]; exact hi)
  exact a.2.2 j (by rw [a.2.1]; exact hj)
theorem Took.good (h : Took s o l n t x) {i j : Nat} (hi : i < s.os.n) (hj : j < (s.os.z i).ls.n) : ((x.os.z i).ls.z j).o = ((s.os.z i).ls.z j).o := by
  rw [h.line hi hj]
  split <;> rfl
theorem Took.keptS (h : Took s o l n t x) (f : Formed p s) (hsum : sumTo (fun b => t.took b) 6 = n - t.left) (a b : Int) : Go.Proofs.Ytjiodlbblmbibac.keptS x.hs.z a b x.hs.n = Go.Proofs.Ytjiodlbblmbibac.keptS s.hs.z a b s.hs.n + if a = o ∧ b = l then n - t.left else 0 := by
  rw [← kept_eq x.hs.z a b _ h.right, ← kept_eq s.hs.z a b _ f.hold]
  by_cases hab : a = o ∧ b = l
  · rw [if_pos hab, ← hsum]
    have : ∀ m, sumTo (fun c => keptV x.hs.n x.hs.z a b c) m = sumTo (fun c => keptV s.hs.n s.hs.z a b c) m + sumTo (fun c => t.took c) m := fun m => by
      induction m with
      | zero => rfl
      | succ m ih => simp only [sumTo]; rw [ih, h.kept, if_pos hab]; omega
    exact this 6
  · rw [if_neg hab, Int.add_zero]
    exact sumTo_same fun c _ => by rw [h.kept, if_neg hab]; omega

theorem Took.home (h : Took s o l n t x) (f : Formed p s) (ho : o < s.os.n) (hl : l < (s.os.z o).ls.n) (hin : ∀ b, ¬ t.took b = 0 → 0 ≤ b ∧ b < p.nb) : ∀ i, i < x.hs.n → homeless p x (x.hs.z i) = false := by
  intro i hi
  have fx := fineH_true (right_fine h.right i hi)
  have e := (kept_at h.right hi (matchH_self (x.hs.z i))).1
  rw [h.kept] at e
  have lens : ∀ a, a < s.os.n → (x.os.z a).ls.n = (s.os.z a).ls.n := fun a ha => (h.os.2 a (by rw [h.os.1]; exact ha)).2.1
  by_cases h0 : keptV s.hs.n s.hs.z (x.hs.z i).o (x.hs.z i).l (x.hs.z i).b = 0
  · by_cases hol : (x.hs.z i).o = o ∧ (x.hs.z i).l = l
    · rw [if_pos hol, h0] at e
      have hb := hin (x.hs.z i).b (by omega)
      have eo : (x.hs.z i).o.toNat = o := by omega
      have el : (x.hs.z i).l.toNat = l := by omega
      refine homeless_mk ⟨by omega, by rw [h.os.1]; omega⟩ ⟨by omega, ?_⟩ hb
      rw [eo, el, lens o ho]
      exact hl
    · rw [if_neg hol, h0] at e
      omega
  · obtain ⟨q1, q2, -⟩ := kept_pos f.hold h0
    obtain ⟨a1, a2, a3⟩ := homeless_no (f.home _ q1)
    obtain ⟨m1, m2, m3⟩ := matchH_true q2
    rw [m1, m2] at a2
    rw [m1] at a1
    rw [m3] at a3
    exact homeless_mk ⟨a1.1, by rw [h.os.1]; exact a1.2⟩ ⟨a2.1, by rw [lens _ a1.2]; exact a2.2⟩ a3
theorem Took.num (h : Took s o l n t x) (f : Formed p s) {b g : Nat} (hb : b < p.nb) (hg : g < p.ns) : (x.on.r b).z g = (s.on.r b).z g := by
  have hb' : b < s.on.n := by rw [f.sh.n]; exact hb
  have r := h.on.2 b (by rw [h.on.1]; exact hb')
  exact r.2 g (by rw [r.1, f.sh.len b hb']; exact hg)
theorem Took.formed (h : Took s o l n t x) (f : Formed p s) (ho : o < s.os.n) (hl : l < (s.os.z o).ls.n) (hin : ∀ b, ¬ t.took b = 0 → 0 ≤ b ∧ b < p.nb) (h0 : 0 ≤ n - t.left) (h1 : n - t.left ≤ ((s.os.z o).ls.z l).n) : Formed p x := by
  have hp := (rightS f.sh0).1
  have hs : RightS p x.on := ⟨f.sh.pl, h.on.1.trans f.sh.n, fun i hi => (h.on.2 i hi).1.trans (f.sh.len i (by rw [← h.on.1]; exact hi)), fun i hi j hj => by
    have hi' : i < s.on.n := by rw [← h.on.1]; exact hi
    rw [h.num f (by rw [← f.sh.n]; exact hi') hj]
    exact f.sh.num i hi' j hj⟩
  have oo : ∀ i, i < x.os.n → i < s.os.n := fun i hi => by rw [← h.os.1]; exact hi
  refine ⟨hs, shelfE_mk hp hs, by rw [h.os.1]; exact f.os4, by rw [h.ms.1]; exact f.ms8, fun i hi => by rw [(h.os.2 i hi).2.1]; exact f.lns i (oo i hi), fun i hi => by rw [(h.os.2 i hi).1]; exact f.kind i (oo i hi), fun i hi j hj => ?_, h.right, h.home f ho hl hin, fun i hi => ?_, h.si.1.trans f.sin, h.so.1.trans f.son, h.sf.1.trans f.sfn, fun j hj => ?_, fun j hj => ?_, fun j hj => ?_⟩
  · have hj' : j < (s.os.z i).ls.n := by rw [← (h.os.2 i hi).2.1]; exact hj
    rw [(h.os.2 i hi).2.2 j hj]
    by_cases hij : i = o ∧ j = l
    · rw [if_pos hij]
      obtain ⟨rfl, rfl⟩ := hij
      obtain ⟨b1, b2, b3, b4⟩ := badLine_no (f.line i (oo i hi) j hj')
      unfold badLine lessL
      rw [inB_mk (by show _ ∧ _; dsimp only; omega), inB_mk (by show _ ∧ _; dsimp only; omega), inB_mk (by show _ ∧ _; dsimp only; omega), inB_mk (by show _ ∧ _; dsimp only; omega)]
      rfl
    · rw [if_neg hij]
      exact f.line i (oo i hi) j hj'
  · rw [h.ms.2 i hi]
    exact f.move i (by rw [← h.ms.1]; exact hi)
  · rw [h.si.2 j (by rw [h.si.1, f.sin]; exact hj)]; exact f.sib j hj
  · rw [h.so.2 j (by rw [h.so.1, f.son]; exact hj)]; exact f.sob j hj
  · rw [h.sf.2 j (by rw [h.sf.1, f.sfn]; exact hj)]; exact f.sfb j hj
theorem Took.held (h : Took s o l n t x) (f : Formed p s) (fx : Formed p x) (ho : o < s.os.n) (hl : l < (s.os.z o).ls.n) (b g : Int) : heldTo x b g x.hs.n = heldTo s b g s.hs.n + if ((s.os.z o).ls.z l).o = g then t.took b else 0 := by
  rw [heldTo_sum b g _ fx.home fx.hold, heldTo_sum b g _ f.home f.hold]
  have lens : ∀ a, a < s.os.n → (x.os.z a).ls.n = (s.os.z a).ls.n := fun a ha => (h.os.2 a (by rw [h.os.1]; exact ha)).2.1
  have key : ∀ i, i < s.os.n → ∀ j, j < (s.os.z i).ls.n → lineHeld x b g x.hs.n i j = lineHeld s b g s.hs.n i j + if i = o ∧ j = l then (if ((s.os.z o).ls.z l).o = g then t.took b else 0) else 0 := fun i hi j hj => by
    unfold lineHeld
    rw [h.good hi hj, h.kept]
    by_cases hij : i = o ∧ j = l
    · have e1 : (if ((i : Nat) : Int) = o ∧ ((j : Nat) : Int) = l then t.took b else 0) = t.took b := if_pos (by omega)
      rw [e1, if_pos hij]
      obtain ⟨rfl, rfl⟩ := hij
      by_cases hg : ((s.os.z i).ls.z j).o = g <;> simp [hg]
    · have e1 : (if ((i : Nat) : Int) = o ∧ ((j : Nat) : Int) = l then t.took b else 0) = 0 := if_neg (by omega)
      rw [e1, if_neg hij]
      by_cases hg : ((s.os.z i).ls.z j).o = g <;> simp [hg]
  unfold heldSum
  rw [h.os.1]
  refine sumTo_at ho fun i hi => ?_
  rw [lens i hi]
  by_cases hio : i = o
  · subst hio
    rw [if_pos rfl]
    exact sumTo_at hl fun j hj => by
      rw [key i hi j hj]
      by_cases hjl : j = l
      · rw [if_pos ⟨rfl, hjl⟩, if_pos hjl]
      · rw [if_neg (fun e => hjl e.2), if_neg hjl]
  · rw [if_neg hio, Int.add_zero]
    exact sumTo_same fun j hj => by rw [key i hi j hj, if_neg (fun e => hio e.1), Int.add_zero]
theorem Took.avail (h : Took s o l n t x) (f : Formed p s) (fx : Formed p x) (ho : o < s.os.n) (hl : l < (s.os.z o).ls.n) {b g : Nat} (hb : b < p.nb) (hg : g < p.ns) : availZ x b g = availZ s b g - if ((s.os.z o).ls.z l).o = g then t.took b else 0 := by
  unfold availZ
  rw [h.num f hb hg, h.held f fx ho hl, h.ms.1, fromTo_eq fun j hj => h.ms.2 j (by rw [h.ms.1]; exact hj)]
  omega
theorem Took.isRight (h : Took s o l n t x) (r : RightT p s) (ho : o < s.os.n) (hl : l < (s.os.z o).ls.n) (hk : (s.os.z o).k = 1) (hin : ∀ b, ¬ t.took b = 0 → 0 ≤ b ∧ b < p.nb) (h0 : 0 ≤ n - t.left) (h1 : n - t.left ≤ ((s.os.z o).ls.z l).n)
    (hav : ∀ b : Nat, b < p.nb → t.took b ≤ availZ s b ((s.os.z o).ls.z l).o.toNat) (ht0 : ∀ b, 0 ≤ t.took b) (hsum : sumTo (fun b => t.took b) 6 = n - t.left) : RightT p x := by
  have f := r.fm
  have fx := h.formed f ho hl hin h0 h1
  refine ⟨fx, fun g hg => ?_, fun i hi => ?_⟩
  · obtain ⟨a1, a2⟩ := goods_no (r.goods g hg)
    refine goods_mk ?_ fun b hb => ?_
    · have e : sumTo (fun i => (x.on.r i).z g) x.on.n = sumTo (fun i => (s.on.r i).z g) s.on.n := by
        rw [h.on.1]
        exact sumTo_congr fun i hi => h.num f (by rw [← f.sh.n]; exact hi) hg
      rw [e, a1, h.si.2 g (by rw [h.si.1, f.sin]; exact hg), h.so.2 g (by rw [h.so.1, f.son]; exact hg), h.sf.2 g (by rw [h.sf.1, f.sfn]; exact hg)]
    · rw [h.avail f fx ho hl hb hg]
      have a3 := a2 b hb
      by_cases hgg : ((s.os.z o).ls.z l).o = g
      · rw [if_pos hgg]
        have := hav b hb
        rw [hgg] at this
        have e : ((g : Nat) : Int).toNat = g := rfl
        rw [e] at this
        omega
      · rw [if_neg hgg]; omega
  · have hi' : i < s.os.n := by rw [← h.os.1]; exact hi
    have w := r.orders i hi'
    obtain ⟨e1, e2, e3⟩ := h.os.2 i hi
    have e4 := fun j hj => h.line (i := i) (j := j) hi' hj
    unfold wrongOrder at w ⊢
    rw [Bool.or_eq_false_iff] at w ⊢
    rw [e1, e2]
    refine ⟨?_, anyB_no fun j hj => ?_⟩
    · rw [← w.1]
      congr 2
      refine anyB_congr fun j hj => ?_
      rw [e4 j hj]
      split <;> rfl
    · have wj := anyB_false w.2 j hj
      rw [h.keptS f hsum, e4 j hj]
      by_cases hij : i = o ∧ j = l
      · obtain ⟨rfl, rfl⟩ := hij
        rw [if_pos ⟨rfl, rfl⟩, if_pos ⟨rfl, rfl⟩]
        rw [hk] at wj ⊢
        unfold wrongL at wj ⊢
        simp only [lessL] at wj ⊢
        rw [if_neg (by decide), if_neg (by decide)] at wj ⊢
        simp only [Bool.not_eq_false', beq_iff_eq] at wj ⊢
        omega
      · rw [if_neg hij, if_neg (fun e => hij ⟨by omega, by omega⟩), Int.add_zero]
        exact wj
end

end Go.Proofs.Ytjiodlbblmbibac
/- Holding: its errors, and what it answers, in plain words. No walk. -/
namespace Go.Proofs.Ytjiodlbblmbibac
open Go.RowKit
set_option linter.unusedVariables false

def missL (s : St) (order line : Int) : Bool := !(inB order 0 ((s.os.n : Int) - 1)) || !(inB line 0 (((s.os.z order.toNat).ls.n : Int) - 1))
def allocR (p : Pl) (s : St) (order line n but : Int) : Bool := missL s order line || !(inB n 0 200) || ((but != -1) && !(inB but 0 ((p.nb : Int) - 1)))
def lineAt (s : St) (order line : Int) : Hd := (s.os.z order.toNat).ls.z line.toNat
def allocE (p : Pl) (s : St) (order line n but : Int) : Int :=
  if stateE p s = 0 then (if allocR p s order line n but then 3 else if (s.os.z order.toNat).k = 1 then (if (lineAt s order line).n < n then 3 else 0) else 6) else stateE p s
def tkOf (p : Pl) (s : St) (good : Int) (n but : Int) : Tk := Tk.go (fun b => availZ s b.toNat good.toNat) n (wayT p but)
def allocL (p : Pl) (s : St) (order line n but : Int) : Int := if allocE p s order line n but = 0 then (tkOf p s (lineAt s order line).o n but).left else 0
def AllocOK (p : Pl) (s : St) (order line n but : Int) (x : St) : Prop := (allocE p s order line n but = 0 → Took s order.toNat line.toNat n (tkOf p s (lineAt s order line).o n but) x) ∧ (¬ allocE p s order line n but = 0 → NoneS x)
section
variable {p : Pl} {s : St} {order line n but : Int}
theorem allocE_state (h : ¬ stateE p s = 0) : allocE p s order line n but = stateE p s := by unfold allocE; rw [if_neg h]
theorem allocE_range (h : stateE p s = 0) (h1 : allocR p s order line n but = true) : allocE p s order line n but = 3 := by unfold allocE; rw [if_pos h, if_pos h1]
theorem allocE_done (h : stateE p s = 0) (h1 : allocR p s order line n but = false) (h2 : ¬ (s.os.z order.toNat).k = 1) : allocE p s order line n but = 6 := by unfold allocE; rw [if_pos h, h1, if_neg h2]; rfl
theorem allocE_back (h : stateE p s = 0) (h1 : allocR p s order line n but = false) (h2 : (s.os.z order.toNat).k = 1) (h3 : (lineAt s order line).n < n) : allocE p s order line n but = 3 := by unfold allocE; rw [if_pos h, h1, if_pos h2, if_pos h3]; rfl
theorem allocE_ok (h : stateE p s = 0) (h1 : allocR p s order line n but = false) (h2 : (s.os.z order.toNat).k = 1) (h3 : ¬ (lineAt s order line).n < n) : allocE p s order line n but = 0 := by unfold allocE; rw [if_pos h, h1, if_pos h2, if_neg h3]; rfl
theorem allocR_no (h : allocR p s order line n but = false) : (0 ≤ order ∧ order.toNat < s.os.n) ∧ (0 ≤ line ∧ line.toNat < (s.os.z order.toNat).ls.n) ∧ (0 ≤ n ∧ n ≤ 200) ∧ (but = -1 ∨ 0 ≤ but ∧ but < p.nb) := by
  simp only [allocR, missL, Bool.or_eq_false_iff, Bool.not_eq_false', Bool.and_eq_false_iff, bne_eq_false_iff_eq] at h
  obtain ⟨⟨⟨a, b⟩, c⟩, d⟩ := h
  have a := inB_true a
  have b := inB_true b
  have c := inB_true c
  refine ⟨by omega, by omega, c, ?_⟩
  rcases d with d | d
  · exact Or.inl d
  · have := inB_true d; exact Or.inr (by omega)
/-- What is known where holding answers no error. -/
structure AllocIn (p : Pl) (s : St) (order line n but : Int) : Prop where
  st : stateE p s = 0
  o0 : 0 ≤ order
  on : order.toNat < s.os.n
  l0 : 0 ≤ line
  ln : line.toNat < (s.os.z order.toNat).ls.n
  n0 : 0 ≤ n
  n2 : n ≤ 200
  bt : but = -1 ∨ 0 ≤ but ∧ but < p.nb
  kd : (s.os.z order.toNat).k = 1
  bk : n ≤ (lineAt s order line).n
theorem allocIn (h : allocE p s order line n but = 0) : AllocIn p s order line n but := by
  by_cases h0 : stateE p s = 0
  · cases h1 : allocR p s order line n but
    · obtain ⟨a, b, c, d⟩ := allocR_no h1
      by_cases h2 : (s.os.z order.toNat).k = 1
      · by_cases h3 : (lineAt s order line).n < n
        · rw [allocE_back h0 h1 h2 h3] at h; exact absurd h (by decide)
        · exact ⟨h0, a.1, a.2, b.1, b.2, c.1, c.2, d, h2, by omega⟩
      · rw [allocE_done h0 h1 h2] at h; exact absurd h (by decide)
    · rw [allocE_range h0 h1] at h; exact absurd h (by decide)
  · rw [allocE_state h0] at h; exact absurd h h0
theorem AllocIn.good (h : AllocIn p s order line n but) : 0 ≤ (lineAt s order line).o ∧ (lineAt s order line).o < p.ns := (badLine_no ((rightT h.st).fm.line _ h.on _ h.ln)).1
theorem AllocIn.way (h : AllocIn p s order line n but) : ∀ x, x ∈ wayT p but → 0 ≤ x ∧ x < p.nb := fun x hx => way_mem (wayT_mem.1 hx).1
/-- What holds of every front part of the way. -/
theorem AllocIn.tk (h : AllocIn p s order line n but) {l : List Int} (hl : l.Pairwise (fun x y => ¬ x = y)) (hm : ∀ x, x ∈ l → 0 ≤ x ∧ x < p.nb) : TkOK (fun b => availZ s b.toNat (lineAt s order line).o.toNat) n l (Tk.go (fun b => availZ s b.toNat (lineAt s order line).o.toNat) n l) := by
  have r := rightT h.st
  have hg := h.good
  refine tkOK h.n0 hl (fun x hx => ?_) (fun x hx => ?_)
  · have := hm x hx
    exact (goods_no (r.goods _ (by omega))).2 _ (by omega)
  · have := hm x hx
    have := r.fm.sh.pl.nb6
    omega
/-- What was taken on any part of the way is right. -/
theorem Took.rightAt {x : St} {l : List Int} {t : Tk} (h : AllocIn p s order line n but) (hm : ∀ x, x ∈ l → 0 ≤ x ∧ x < p.nb) (k : TkOK (fun b => availZ s b.toNat (lineAt s order line).o.toNat) n l t) (T : Took s order.toNat line.toNat n t x) : RightT p x := by
  have r := rightT h.st
  have hb := h.bk
  have hl0 := k.left0
  have hl1 := k.leftn
  refine T.isRight r h.on h.ln h.kd (fun b hb => ?_) (by omega) (by unfold lineAt at hb; omega) (fun b hb => ?_) k.took0 k.sum
  · apply Classical.byContradiction
    intro hc
    refine hb (k.other b fun hbl => hc ?_)
    exact hm b hbl
  · by_cases hbl : ((b : Nat) : Int) ∈ l
    · exact k.had b hbl
    · rw [k.other b hbl]
      have hg := h.good
      exact (goods_no (r.goods _ (by unfold lineAt at hg; omega))).2 b hb
end

end Go.Proofs.Ytjiodlbblmbibac
/- Holding: what alloc.check answers. -/
namespace Go.Proofs.Ytjiodlbblmbibac
open Go.RowKit Go.Shelf Go.Sort
set_option linter.unusedVariables false

set_option maxRecDepth 100000 in
set_option maxHeartbeats 2000000 in
theorem allocCheck1_any (B1 B2 B3 : Nat) (s : St) (order line : Int) (w : World) (hs : s.os.At w) (h1 : B1 < w.heap.size) (h2 : B2 < w.heap.size) (h3 : B3 < w.heap.size) (c1 : w.cell? ⟨B1, 1, none⟩ = some (.slice s.os.a s.os.n s.os.c)) (c2 : w.cell? ⟨B2, 0, none⟩ = some (.int .i64 order)) (c3 : w.cell? ⟨B3, 0, none⟩ = some (.int .i64 line)) :
    Calls Try.prog 85 #[.pointer (some ⟨B1, 0, none⟩), .pointer (some ⟨B2, 0, none⟩), .pointer (some ⟨B3, 0, none⟩)] w fun e w' => e = .returned (.bool (missL s order line)) ∧ Below w.heap.size w w' := by
  have ole := hs.le
  have ocap0 := hs.cap
  have ocap := ocap0
  unfold maxLen at ocap
  have hon : s.os.n ≤ maxLen := Nat.le_trans ole ocap0
  have r1 : ∀ d os, (grow (redrawn w d) os).cell? ⟨B1, 1, none⟩ = some (.slice s.os.a s.os.n s.os.c) := fun d os => cell_regrown c1 d os
  have r2 : ∀ d os, (grow (redrawn w d) os).cell? ⟨B2, 0, none⟩ = some (.int .i64 order) := fun d os => cell_regrown c2 d os
  have r3 : ∀ d os, (grow (redrawn w d) os).cell? ⟨B3, 0, none⟩ = some (.int .i64 line) := fun d os => cell_regrown c3 d os
  clear c1 c2 c3
  cases k1 : inB order 0 ((s.os.n : Int) - 1)
  · have HM : Hid (missL s order line = true) := by show missL s order line = true; unfold missL; rw [k1]; rfl
    clear hs
    go_enter Try.func85, Try.ntmps85
    go_wp2_with fail
    refine wp_region_quiet_below (by kernel_rfl) (by kernel_rfl) ?_
    repeat (go_big_quiet_step ((go_at_call 30; exact Calls.regrown_of ((Has_any _ _ _ (by assumption)).mono (fun _ _ h => ⟨h.1, h.2 ▸ Below.refl _ _⟩)))))
    refine wpQuiet_nil ?_
    intro _ hw'
    obtain ⟨⟨dq, osq⟩, hw''⟩ := hw'
    subst hw''
    go_wp2_with fail
    go_ret
    exact ⟨by rw [HM.out]; rfl, below_regrown _ _ _⟩
  · obtain ⟨m, rfl⟩ := Int.eq_ofNat_of_zero_le (inB_true k1).1
    have hm : m < s.os.n := by have := (inB_true k1).2; omega
    obtain ⟨b, o, hoa, hb, z0, z1, hl⟩ := hs.ods m hm
    have HM : Hid (missL s (m : Int) line = !(inB line 0 (((s.os.z m).ls.n : Int) - 1))) := by show missL s (m : Int) line = _; unfold missL; rw [k1]; rfl
    have lcap := hl.cap
    have lle := hl.le
    have hln : (s.os.z m).ls.n ≤ maxLen := Nat.le_trans lle lcap
    have r5 : ∀ d os, (grow (redrawn w d) os).cell? ⟨b, o + m * 2 + 1, none⟩ = some (.slice (s.os.z m).ls.a (s.os.z m).ls.n (s.os.z m).ls.c) := fun d os => cell_regrown z1 d os
    have m1 : (0 : Int) ≤ (m : Int) := by omega
    have m2 : (m : Int) < (s.os.n : Int) := by omega
    rw [hoa] at r1
    unfold maxLen at lcap
    clear z0 z1 hl hs hoa
    generalize (s.os.z m).ls.n = LN at *
    generalize (s.os.z m).ls.c = LC at *
    generalize (s.os.z m).ls.a = LA at *
    cases k2 : inB line 0 ((LN : Int) - 1)
    all_goals
      go_enter Try.func85, Try.ntmps85
      go_wp2_with fail
      refine wp_region_quiet_below (by kernel_rfl) (by kernel_rfl) ?_
      repeat (go_big_quiet_step ((go_at_call 30; exact Calls.regrown_of ((Has_any _ _ _ (by assumption)).mono (fun _ _ h => ⟨h.1, h.2 ▸ Below.refl _ _⟩)))))
      refine wpQuiet_nil ?_
      intro _ hw'
      obtain ⟨⟨dq, osq⟩, hw''⟩ := hw'
      subst hw''
      go_wp2_with fail
      go_ret
      exact ⟨by rw [HM.out, k2]; simp, below_regrown _ _ _⟩

set_option maxRecDepth 100000 in
set_option maxHeartbeats 4000000 in
theorem allocCheck_any (p : Pl) (s : St) (order line n but : Int) (w : World) (hp : p.At w) (hs : s.At w) :
    Calls Try.prog 41 #[p.val, s.val, .int .i64 order, .int .i64 line, .int .i64 n, .int .i64 but] w fun e w' => e = .returned (.int .i64 (allocE p s order line n but)) ∧ Below w.heap.size w w' := by
  obtain ⟨W0, hW, hWB, X0, K2, K3⟩ : ∃ W, ((((w.alloc (.cells #[.slice p.ab p.nb p.cb, .slice p.sa p.ns p.cs] 25)).alloc (.cells s.cells 31)).alloc (.cells #[.int .i64 order] 3)).alloc (.cells #[.int .i64 line] 3)) = W ∧ Below w.heap.size w W ∧ Boxes W w.heap.size (w.heap.size + 1) p s ∧ Blk W (w.heap.size + 2) 3 1 (fun _ => .int .i64 order) ∧ Blk W (w.heap.size + 3) 3 1 (fun _ => .int .i64 line) :=
    ⟨_, rfl, ((two_below _ _ _).alloc (by simp; omega) _).alloc (by simp; omega) _, ((boxes_new w p s _ _).below ((Below.refl _ _).alloc (Nat.le_refl _) _)).below ((Below.refl _ _).alloc (Nat.le_refl _) _), ((Blk.mk' (cur := #[.int .i64 order]) (by simp) rfl).congr (fun j hj => by match j, hj with | 0, _ => rfl)).alloc _, (Blk.mk' (cur := #[.int .i64 line]) (by simp) rfl).congr (fun j hj => by match j, hj with | 0, _ => rfl)⟩
  have HC : Hid (∀ wk, Below W0.heap.size W0 wk → Boxes wk w.heap.size (w.heap.size + 1) p s ∧ p.At wk ∧ s.At wk ∧ Below w.heap.size w wk ∧ Blk wk (w.heap.size + 2) 3 1 (fun _ => .int .i64 order) ∧ Blk wk (w.heap.size + 3) 3 1 (fun _ => .int .i64 line)) := fun wk h => ⟨X0.below h, (hp.below hWB).below h, (hs.below hWB).below h, hWB.trans (h.mono hWB.size), K2.below h, K3.below h⟩
  have HW : Hid ((((w.alloc (.cells #[.slice p.ab p.nb p.cb, .slice p.sa p.ns p.cs] 25)).alloc (.cells #[.slice s.on.a s.on.n s.on.c, .slice s.os.a s.os.n s.os.c, .slice s.hs.a s.hs.n s.hs.c, .slice s.ms.a s.ms.n s.ms.c, .slice s.si.a s.si.n s.si.c, .slice s.so.a s.so.n s.so.c, .slice s.sf.a s.sf.n s.sf.c] 31)).alloc (.cells #[.int .i64 order] 3)).alloc (.cells #[.int .i64 line] 3) = W0) := hW
  have leb := hp.leb
  have capb0 := hp.capb
  have capb := capb0
  unfold maxLen at capb
  have hnb : p.nb ≤ maxLen := Nat.le_trans leb capb0
  clear hW X0 K2 K3 hp hs
  unfold Pl.val St.val
  go_enter Try.func41, Try.ntmps41
  go_wp2_with fail
  rw [HW.out]
  obtain ⟨X, hpk, hsk, hBw, -, -⟩ := HC.out W0 (Below.refl _ _)
  refine (stateCheck_any p s W0 hpk hsk).mono ?_
  rintro e w1 ⟨rfl, hB⟩
  clear X hpk hsk hBw HW
  obtain ⟨⟨⟨l1, d0, d1⟩, l2, c0, c1, c2, c3, c4, c5, c6⟩, hpk, hsk, hBw, k2, k3⟩ := HC.out w1 hB
  have HBW : Hid (Below w.heap.size w w1) := hBw
  clear hBw
  by_cases h0 : stateE p s = 0
  · have H0 : Hid (stateE p s = 0) := h0
    have HF : Hid (Formed p s) := (rightT h0).fm
    rw [h0]
    clear h0
    have HCL : Hid (Calls Try.prog 85 #[.pointer (some ⟨w.heap.size + 1, 0, none⟩), .pointer (some ⟨w.heap.size + 1 + 1, 0, none⟩), .pointer (some ⟨w.heap.size + 1 + 1 + 1, 0, none⟩)] w1 fun e w' => e = .returned (.bool (missL s order line)) ∧ Below w1.heap.size w1 w') := allocCheck1_any (w.heap.size + 1) (w.heap.size + 2) (w.heap.size + 3) s order line w1 hsk.os l2 k2.lt k3.lt c1 (k2.cell (j := 0) (by decide)) (k3.cell (j := 0) (by decide))
    have eg := enters_of Try.func85 (by kernel_rfl) rfl
    clear hpk hsk k2 k3 c0 c1 c2 c3 c4 c5 c6 d1
    go_wp2_with fail
    refine HCL.out.mono ?_
    rintro e w2 ⟨rfl, hB2⟩
    have hB3 := hB.trans (hB2.mono hB.size)
    clear l1 d0 l2 hB2 HCL HBW hB eg
    obtain ⟨⟨⟨l1, d0, d1⟩, l2, c0, c1, c2, c3, c4, c5, c6⟩, hpk, hsk, hBw, k2, k3⟩ := HC.out w2 hB3
    have HBW : Hid (Below w.heap.size w w2) := hBw
    clear hBw
    have HR : Hid (∀ a b c d, missL s order line = a → inB n 0 200 = b → (but != -1) = c → inB but 0 ((p.nb : Int) - 1) = d → allocR p s order line n but = (a || !b || (c && !d))) := fun a b c d e1 e2 e3 e4 => by unfold allocR; rw [e1, e2, e3, e4]
    cases m1 : missL s order line
    · have hml := m1
      cases m2 : inB n 0 200
      · have HX : Hid (allocE p s order line n but = 3) := allocE_range H0.out (by rw [HR.out _ _ _ _ m1 m2 rfl rfl]; rfl)
        clear hpk hsk k2 k3 c0 c1 c2 c3 c4 c5 c6 m1 hml
        go_wp2_with (go_at_call 55; refine calls_to (Within_any _ _ _ _) ?_)
        go_ret
        exact ⟨by rw [HX.out]; rfl, HBW.out⟩
      · cases m3 : (but != -1)
        · have HA : Hid (allocR p s order line n but = false) := by show allocR p s order line n but = false; rw [HR.out _ _ _ _ m1 m2 m3 rfl]; rfl
          have hbx := m3
          obtain ⟨a, b, -, -⟩ := allocR_no HA.out
          obtain ⟨o, rfl⟩ := Int.eq_ofNat_of_zero_le a.1
          obtain ⟨l, rfl⟩ := Int.eq_ofNat_of_zero_le b.1
          have ho : o < s.os.n := a.2
          have hl : l < (s.os.z o).ls.n := b.2
          obtain ⟨bo, oo, hoa, hbo, z0, z1, hlk⟩ := hsk.os.ods o ho
          obtain ⟨bl, ol, hla, hbl, y0, y1, y2, y3⟩ := hlk.hds l hl
          have u0 := k2.cell (j := 0) (by decide)
          have u1 := k3.cell (j := 0) (by decide)
          have u2 := k2.lt
          have u3 := k3.lt
          have q0 : (0 : Int) ≤ (o : Int) := by omega
          have q1 : (o : Int) < (s.os.n : Int) := by omega
          have q2 : (0 : Int) ≤ (l : Int) := by omega
          have q3 : (l : Int) < ((s.os.z o).ls.n : Int) := by omega
          have v1 := hsk.os.le
          have v2 := hsk.os.cap
          have v3 := hlk.le
          have v4 := hlk.cap
          unfold maxLen at v2 v4
          have HT6 : Hid (¬ (s.os.z o).k = 1 → allocE p s o l n but = 6) := fun h => allocE_done H0.out HA.out h
          have HT3 : Hid ((s.os.z o).k = 1 → ((s.os.z o).ls.z l).n < n → allocE p s o l n but = 3) := fun h h' => allocE_back H0.out HA.out h h'
          have HT0 : Hid ((s.os.z o).k = 1 → ¬ ((s.os.z o).ls.z l).n < n → allocE p s o l n but = 0) := fun h h' => allocE_ok H0.out HA.out h h'
          rw [hoa] at c1
          rw [hla] at z1
          clear hpk hsk k2 k3 c0 c2 c3 c4 c5 c6 m1 hoa hla hlk y0 y1 y2 a b HR
          generalize (s.os.z o).k = KD at *
          generalize ((s.os.z o).ls.z l).n = LB at *
          generalize (s.os.z o).ls.n = LN at *
          generalize (s.os.z o).ls.c = LC at *
          by_cases g1 : KD = 1
          · have g2 : (KD != 1) = false := by rw [g1]; rfl
            have t1 : ∀ d os, (grow (redrawn w2 d) os).cell? ⟨w.heap.size + 1, 1, none⟩ = some (.slice (some ⟨bo, oo, none⟩) s.os.n s.os.c) := fun d os => cell_regrown c1 d os
            have t2 : ∀ d os, (grow (redrawn w2 d) os).cell? ⟨w.heap.size + 2, 0, none⟩ = some (.int .i64 (o : Int)) := fun d os => cell_regrown u0 d os
            have t3 : ∀ d os, (grow (redrawn w2 d) os).cell? ⟨w.heap.size + 3, 0, none⟩ = some (.int .i64 (l : Int)) := fun d os => cell_regrown u1 d os
            have t4 : ∀ d os, (grow (redrawn w2 d) os).cell? ⟨bo, oo + o * 2 + 1, none⟩ = some (.slice (some ⟨bl, ol, none⟩) LN LC) := fun d os => cell_regrown z1 d os
            have t5 : ∀ d os, (grow (redrawn w2 d) os).cell? ⟨bl, ol + l * 4 + 3, none⟩ = some (.int .i64 LB) := fun d os => cell_regrown y3 d os
            have HTA : Hid (LB < n → allocE p s o l n but = 3) := HT3.out g1
            have HTB : Hid (¬ LB < n → allocE p s o l n but = 0) := HT0.out g1
            clear HT6 HT3 HT0 g1
            cases g3 : decide (LB < n)
            · have HX : Hid (allocE p s o l n but = 0) := HTB.out (of_decide_eq_false g3)
              have g4 : ¬ LB < n := of_decide_eq_false g3
              clear HTA HTB
              go_wp2_with (first | (go_at_call 55; refine calls_to (Within_any _ _ _ _) ?_) | (go_at_call 30; refine calls_to (Has_any _ _ _ hnb) ?_))
              refine wp_region_quiet_below (by kernel_rfl) (by kernel_rfl) ?_
              repeat (go_big_quiet_step (fail))
              refine wpQuiet_nil ?_
              intro _ hw'
              obtain ⟨⟨dq, osq⟩, hw''⟩ := hw'
              subst hw''
              go_wp2_with fail
              go_ret
              exact ⟨by rw [HX.out]; rfl, HBW.out.trans ((below_regrown _ _ _).mono HBW.out.size)⟩
            · have HX : Hid (allocE p s o l n but = 3) := HTA.out (of_decide_eq_true g3)
              have g4 : LB < n := of_decide_eq_true g3
              clear HTA HTB
              go_wp2_with (first | (go_at_call 55; refine calls_to (Within_any _ _ _ _) ?_) | (go_at_call 30; refine calls_to (Has_any _ _ _ hnb) ?_))
              refine wp_region_quiet_below (by kernel_rfl) (by kernel_rfl) ?_
              repeat (go_big_quiet_step (fail))
              refine wpQuiet_nil ?_
              intro _ hw'
              obtain ⟨⟨dq, osq⟩, hw''⟩ := hw'
              subst hw''
              go_wp2_with fail
              go_ret
              exact ⟨by rw [HX.out]; rfl, HBW.out.trans ((below_regrown _ _ _).mono HBW.out.size)⟩
          · have HX : Hid (allocE p s o l n but = 6) := HT6.out g1
            have g2 : (KD != 1) = true := by simpa using g1
            clear HT6 HT3 HT0 g1
            go_wp2_with (first | (go_at_call 55; refine calls_to (Within_any _ _ _ _) ?_) | (go_at_call 30; refine calls_to (Has_any _ _ _ hnb) ?_))
            go_ret
            exact ⟨by rw [HX.out]; rfl, HBW.out⟩
        · cases m4 : inB but 0 ((p.nb : Int) - 1)
          · have HX : Hid (allocE p s order line n but = 3) := allocE_range H0.out (by rw [HR.out _ _ _ _ m1 m2 m3 m4]; rfl)
            clear hpk hsk k2 k3 c0 c1 c2 c3 c4 c5 c6 m1 hml
            go_wp2_with (first | (go_at_call 55; refine calls_to (Within_any _ _ _ _) ?_) | (go_at_call 30; refine calls_to (Has_any _ _ _ hnb) ?_))
            go_ret
            exact ⟨by rw [HX.out]; rfl, HBW.out⟩
          · have HA : Hid (allocR p s order line n but = false) := by show allocR p s order line n but = false; rw [HR.out _ _ _ _ m1 m2 m3 m4]; rfl
            obtain ⟨a, b, -, -⟩ := allocR_no HA.out
            obtain ⟨o, rfl⟩ := Int.eq_ofNat_of_zero_le a.1
            obtain ⟨l, rfl⟩ := Int.eq_ofNat_of_zero_le b.1
            have ho : o < s.os.n := a.2
            have hl : l < (s.os.z o).ls.n := b.2
            obtain ⟨bo, oo, hoa, hbo, z0, z1, hlk⟩ := hsk.os.ods o ho
            obtain ⟨bl, ol, hla, hbl, y0, y1, y2, y3⟩ := hlk.hds l hl
            have u0 := k2.cell (j := 0) (by decide)
            have u1 := k3.cell (j := 0) (by decide)
            have u2 := k2.lt
            have u3 := k3.lt
            have q0 : (0 : Int) ≤ (o : Int) := by omega
            have q1 : (o : Int) < (s.os.n : Int) := by omega
            have q2 : (0 : Int) ≤ (l : Int) := by omega
            have q3 : (l : Int) < ((s.os.z o).ls.n : Int) := by omega
            have v1 := hsk.os.le
            have v2 := hsk.os.cap
            have v3 := hlk.le
            have v4 := hlk.cap
            unfold maxLen at v2 v4
            have HT6 : Hid (¬ (s.os.z o).k = 1 → allocE p s o l n but = 6) := fun h => allocE_done H0.out HA.out h
            have HT3 : Hid ((s.os.z o).k = 1 → ((s.os.z o).ls.z l).n < n → allocE p s o l n but = 3) := fun h h' => allocE_back H0.out HA.out h h'
            have HT0 : Hid ((s.os.z o).k = 1 → ¬ ((s.os.z o).ls.z l).n < n → allocE p s o l n but = 0) := fun h h' => allocE_ok H0.out HA.out h h'
            rw [hoa] at c1
            rw [hla] at z1
            clear hpk hsk k2 k3 c0 c2 c3 c4 c5 c6 m1 hoa hla hlk y0 y1 y2 a b HR
            generalize (s.os.z o).k = KD at *
            generalize ((s.os.z o).ls.z l).n = LB at *
            generalize (s.os.z o).ls.n = LN at *
            generalize (s.os.z o).ls.c = LC at *
            by_cases g1 : KD = 1
            · have g2 : (KD != 1) = false := by rw [g1]; rfl
              have t1 : ∀ d os, (grow (redrawn w2 d) os).cell? ⟨w.heap.size + 1, 1, none⟩ = some (.slice (some ⟨bo, oo, none⟩) s.os.n s.os.c) := fun d os => cell_regrown c1 d os
              have t2 : ∀ d os, (grow (redrawn w2 d) os).cell? ⟨w.heap.size + 2, 0, none⟩ = some (.int .i64 (o : Int)) := fun d os => cell_regrown u0 d os
              have t3 : ∀ d os, (grow (redrawn w2 d) os).cell? ⟨w.heap.size + 3, 0, none⟩ = some (.int .i64 (l : Int)) := fun d os => cell_regrown u1 d os
              have t4 : ∀ d os, (grow (redrawn w2 d) os).cell? ⟨bo, oo + o * 2 + 1, none⟩ = some (.slice (some ⟨bl, ol, none⟩) LN LC) := fun d os => cell_regrown z1 d os
              have t5 : ∀ d os, (grow (redrawn w2 d) os).cell? ⟨bl, ol + l * 4 + 3, none⟩ = some (.int .i64 LB) := fun d os => cell_regrown y3 d os
              have HTA : Hid (LB < n → allocE p s o l n but = 3) := HT3.out g1
              have HTB : Hid (¬ LB < n → allocE p s o l n but = 0) := HT0.out g1
              clear HT6 HT3 HT0 g1
              cases g3 : decide (LB < n)
              · have HX : Hid (allocE p s o l n but = 0) := HTB.out (of_decide_eq_false g3)
                have g4 : ¬ LB < n := of_decide_eq_false g3
                clear HTA HTB
                go_wp2_with (first | (go_at_call 55; refine calls_to (Within_any _ _ _ _) ?_) | (go_at_call 30; refine calls_to (Has_any _ _ _ hnb) ?_))
                refine wp_region_quiet_below (by kernel_rfl) (by kernel_rfl) ?_
                repeat (go_big_quiet_step (fail))
                refine wpQuiet_nil ?_
                intro _ hw'
                obtain ⟨⟨dq, osq⟩, hw''⟩ := hw'
                subst hw''
                go_wp2_with fail
                go_ret
                exact ⟨by rw [HX.out]; rfl, HBW.out.trans ((below_regrown _ _ _).mono HBW.out.size)⟩
              · have HX : Hid (allocE p s o l n but = 3) := HTA.out (of_decide_eq_true g3)
                have g4 : LB < n := of_decide_eq_true g3
                clear HTA HTB
                go_wp2_with (first | (go_at_call 55; refine calls_to (Within_any _ _ _ _) ?_) | (go_at_call 30; refine calls_to (Has_any _ _ _ hnb) ?_))
                refine wp_region_quiet_below (by kernel_rfl) (by kernel_rfl) ?_
                repeat (go_big_quiet_step (fail))
                refine wpQuiet_nil ?_
                intro _ hw'
                obtain ⟨⟨dq, osq⟩, hw''⟩ := hw'
                subst hw''
                go_wp2_with fail
                go_ret
                exact ⟨by rw [HX.out]; rfl, HBW.out.trans ((below_regrown _ _ _).mono HBW.out.size)⟩
            · have HX : Hid (allocE p s o l n but = 6) := HT6.out g1
              have g2 : (KD != 1) = true := by simpa using g1
              clear HT6 HT3 HT0 g1
              go_wp2_with (first | (go_at_call 55; refine calls_to (Within_any _ _ _ _) ?_) | (go_at_call 30; refine calls_to (Has_any _ _ _ hnb) ?_))
              go_ret
              exact ⟨by rw [HX.out]; rfl, HBW.out⟩
    · have HX : Hid (allocE p s order line n but = 3) := allocE_range H0.out (by rw [HR.out _ _ _ _ m1 rfl rfl rfl]; rfl)
      clear hpk hsk k2 k3 c0 c1 c2 c3 c4 c5 c6 m1
      go_wp2_with fail
      go_ret
      exact ⟨by rw [HX.out]; rfl, HBW.out⟩
  · have HX : Hid (allocE p s order line n but = stateE p s) := allocE_state h0
    clear hpk hsk k2 k3 c0 c1 c2 c3 c4 c5 c6
    go_wp2_with fail
    go_ret
    exact ⟨by rw [HX.out]; rfl, HBW.out⟩

end Go.Proofs.Ytjiodlbblmbibac
/- A state of the call's own whose line lacks less, or that has other holds. No walk. -/
namespace Go.Proofs.Ytjiodlbblmbibac
open Go.RowKit
set_option linter.unusedVariables false

/-- The line l of the order o has the number v as its c-th one (0 good, 1 want, 2 got, 3 back). -/
def setHd (x : Hd) (c : Nat) (v : Int) : Hd := if c = 0 then ⟨v, x.l, x.b, x.n⟩ else if c = 1 then ⟨x.o, v, x.b, x.n⟩ else if c = 2 then ⟨x.o, x.l, v, x.n⟩ else ⟨x.o, x.l, x.b, v⟩
def setLn (h : Hs) (j c : Nat) (v : Int) : Hs := ⟨h.a, h.n, h.c, fun i => if i = j then setHd (h.z i) c v else h.z i⟩
def setOd (os : Os) (o l c : Nat) (v : Int) : Os := ⟨os.a, os.n, os.c, fun i => if i = o then ⟨(os.z i).k, setLn (os.z i).ls l c v⟩ else os.z i⟩
def setLine (s : St) (o l c : Nat) (v : Int) : St := ⟨s.on, setOd s.os o l c v, s.hs, s.ms, s.si, s.so, s.sf⟩
def withHolds (s : St) (h : Hs) : St := ⟨s.on, s.os, h, s.ms, s.si, s.so, s.sf⟩

theorem flatH_at {n : Nat} {z : Nat → Hd} {i c : Nat} (hi : i < n) (hc : c < 4) : (flatH n z).getD (i * 4 + c) default = (hdCells (z i)).getD c default := by
  simp only [List.getD, flatH_get n z i c hi hc]
theorem setLn_flat {h : Hs} {j c : Nat} {v : Int} (hc : c < 4) (q : Nat) (hq : q < h.n * 4) :
    (if q = j * 4 + c then Value.int .i64 v else (flatH h.n h.z).getD q default) = (flatH h.n (setLn h j c v).z).getD q default := by
  have hd : q = q / 4 * 4 + q % 4 := by omega
  have hi : q / 4 < h.n := by omega
  have hm : q % 4 < 4 := by omega
  have e1 := flatH_at (z := h.z) hi hm
  have e2 := flatH_at (z := (setLn h j c v).z) hi hm
  rw [← hd] at e1 e2
  rw [e1, e2]
  show _ = (hdCells (if q / 4 = j then setHd (h.z (q / 4)) c v else h.z (q / 4))).getD (q % 4) default
  by_cases hj : q / 4 = j
  · rw [if_pos hj]
    by_cases hqc : q = j * 4 + c
    · rw [if_pos hqc]
      have : q % 4 = c := by omega
      rw [this]
      have hc4 : c = 0 ∨ c = 1 ∨ c = 2 ∨ c = 3 := by omega
      rcases hc4 with rfl | rfl | rfl | rfl <;> rfl
    · rw [if_neg hqc]
      have hc4 : c = 0 ∨ c = 1 ∨ c = 2 ∨ c = 3 := by omega
      have hm4 : q % 4 = 0 ∨ q % 4 = 1 ∨ q % 4 = 2 ∨ q % 4 = 3 := by omega
      rcases hc4 with rfl | rfl | rfl | rfl <;> rcases hm4 with hm | hm | hm | hm <;> first | (exfalso; omega) | (rw [hm]; rfl)
  · rw [if_neg hj, if_neg (by omega)]
theorem OwnO.setLine {A : Nat} {w : World} {s : Os} {o B : Nat} (h : OwnO A w s) (ho : o < s.n) (ha : (s.z o).ls.a = some ⟨B, 0, none⟩) (l c : Nat) (hc : c < 4) (v : Int) : OwnO A (w.setCell ⟨B, l * 4 + c, none⟩ (.int .i64 v)) (setOd s o l c v) := by
  obtain ⟨B', ha', hA, h1, h2, hb⟩ := h.lines o ho
  rw [ha] at ha'
  simp only [Option.some.injEq, Addr.mk.injEq, and_true] at ha'
  subst ha'
  have hz : ∀ i, (setOd s o l c v).z i = if i = o then ⟨(s.z i).k, setLn (s.z i).ls l c v⟩ else s.z i := fun _ => rfl
  have hcells : ∀ i, odCells ((setOd s o l c v).z i) = odCells (s.z i) := fun i => by
    rw [hz]
    by_cases hio : i = o
    · rw [if_pos hio]; rfl
    · rw [if_neg hio]
  have hla : ∀ i, ((setOd s o l c v).z i).ls.a = (s.z i).ls.a := fun i => by
    rw [hz]
    by_cases hio : i = o
    · rw [if_pos hio]; rfl
    · rw [if_neg hio]
  refine ⟨h.le, h.cap, fun hn => ?_, fun i hi => ?_, fun i j hij hj => by rw [hla, hla]; exact h.apart i j hij hj, h.room.set _ _ _⟩
  · obtain ⟨g, a1, a2, a3⟩ := h.list hn
    refine ⟨g, a1, a2, (a3.other (a := ⟨B, l * 4 + c, none⟩) (Blk.ne2 a3 hb (by decide)) _).congr fun j hj => ?_⟩
    show _ = (flatO s.n (setOd s o l c v).z).getD j default
    rw [flatO_congr fun i _ => hcells i]
  · rw [hz]
    by_cases hio : i = o
    · subst hio
      rw [if_pos rfl]
      exact ⟨B, ha, hA, h1, h2, (hb.set (l * 4 + c) (.int .i64 v)).congr fun q hq => setLn_flat hc q hq⟩
    · rw [if_neg hio]
      obtain ⟨C, a1, a2, a3, a4, a5⟩ := h.lines i hi
      refine ⟨C, a1, a2, a3, a4, a5.other (a := ⟨B, l * 4 + c, none⟩) (fun e => ?_) _⟩
      have e' : C = B := e
      subst e'
      rcases Nat.lt_or_gt_of_ne hio with hlt | hgt
      · exact h.apart i o hlt ho (a1.trans ha.symm)
      · exact h.apart o i hgt hi (ha.trans a1.symm)
theorem OwnS.setLine {A : Nat} {w : World} {s : St} {o B : Nat} (h : OwnS A w s) (ho : o < s.os.n) (ha : (s.os.z o).ls.a = some ⟨B, 0, none⟩) (l c : Nat) (hc : c < 4) (v : Int) : OwnS A (w.setCell ⟨B, l * 4 + c, none⟩ (.int .i64 v)) (Go.Proofs.Ytjiodlbblmbibac.setLine s o l c v) := by
  obtain ⟨B', ha', -, -, -, hb⟩ := h.os.lines o ho
  rw [ha] at ha'
  simp only [Option.some.injEq, Addr.mk.injEq, and_true] at ha'
  subst ha'
  refine ⟨?_, fun i hi => (h.rows i hi).other hb (by decide) _ _, h.rapart, h.os.setLine ho ha l c hc v, h.hs.other hb (by decide) _ _, h.ms.other hb (by decide) _ _, h.msr.set _ _ _, h.si.other hb (by decide) _ _, h.so.other hb (by decide) _ _, h.sf.other hb (by decide) _ _, h.aio, h.aif, h.aof, h.ari⟩
  obtain ⟨g, a0, a1, a2, a3, a4⟩ := h.on
  exact ⟨g, a0, a1, a2, a3, a4.other (a := ⟨B, l * 4 + c, none⟩) (Blk.ne2 a4 hb (by decide)) _⟩
theorem OwnS.withHolds {A : Nat} {w : World} {s : St} {h : Hs} (k : OwnS A w s) (hh : OwnH A 65 w h) : OwnS A w (Go.Proofs.Ytjiodlbblmbibac.withHolds s h) :=
  ⟨k.on, k.rows, k.rapart, k.os, hh, k.ms, k.msr, k.si, k.so, k.sf, k.aio, k.aif, k.aof, k.ari⟩
/-- Where the c-th number of a line lies. -/
theorem OwnS.lineCell {A : Nat} {w : World} {s : St} {o l : Nat} (h : OwnS A w s) (ho : o < s.os.n) (hl : l < (s.os.z o).ls.n) : ∃ g B, s.os.a = some ⟨g, 0, none⟩ ∧ A ≤ g ∧ g < w.heap.size ∧ w.cell? ⟨g, o * 2 + 1, none⟩ = some (.slice (some ⟨B, 0, none⟩) (s.os.z o).ls.n (s.os.z o).ls.c) ∧ (s.os.z o).ls.a = some ⟨B, 0, none⟩ ∧ A ≤ B ∧ B < w.heap.size ∧ (s.os.z o).ls.n ≤ (s.os.z o).ls.c ∧ (s.os.z o).ls.c ≤ maxLen ∧ (∀ j, w.frozen? ⟨B, j, none⟩ = false) ∧
    w.cell? ⟨B, l * 4, none⟩ = some (.int .i64 ((s.os.z o).ls.z l).o) ∧ w.cell? ⟨B, l * 4 + 1, none⟩ = some (.int .i64 ((s.os.z o).ls.z l).l) ∧ w.cell? ⟨B, l * 4 + 2, none⟩ = some (.int .i64 ((s.os.z o).ls.z l).b) ∧ w.cell? ⟨B, l * 4 + 3, none⟩ = some (.int .i64 ((s.os.z o).ls.z l).n) := by
  obtain ⟨g, g1, g2, g3⟩ := h.os.list (by omega)
  obtain ⟨B, b1, b2, b3, b4, b5⟩ := h.os.lines o ho
  have c0 := g3.cell (j := o * 2 + 1) (by omega)
  rw [flatO_at (z := s.os.z) ho (show 1 < 2 by decide)] at c0
  have c1 : w.cell? ⟨g, o * 2 + 1, none⟩ = some (.slice (s.os.z o).ls.a (s.os.z o).ls.n (s.os.z o).ls.c) := c0
  rw [b1] at c1
  have d : ∀ c, c < 4 → w.cell? ⟨B, l * 4 + c, none⟩ = some ((hdCells ((s.os.z o).ls.z l)).getD c default) := fun c hc => by
    rw [← flatH_at (z := (s.os.z o).ls.z) hl hc]
    exact b5.cell (by omega)
  exact ⟨g, B, g1, g2, g3.lt, c1, b1, b2, b5.lt, b3, b4, fun j => b5.frozen j, d 0 (by decide), d 1 (by decide), d 2 (by decide), d 3 (by decide)⟩
theorem setLine_at {s : St} {o l c : Nat} {v : Int} (i j : Nat) : ((Go.Proofs.Ytjiodlbblmbibac.setLine s o l c v).os.z i).ls.z j = if i = o ∧ j = l then setHd ((s.os.z i).ls.z j) c v else (s.os.z i).ls.z j := by
  show (if i = o then (⟨(s.os.z i).k, setLn (s.os.z i).ls l c v⟩ : Od) else s.os.z i).ls.z j = _
  by_cases hi : i = o
  · rw [if_pos hi]
    show (if j = l then setHd ((s.os.z i).ls.z j) c v else (s.os.z i).ls.z j) = _
    by_cases hj : j = l
    · rw [if_pos hj, if_pos ⟨hi, hj⟩]
    · rw [if_neg hj, if_neg (fun e => hj e.2)]
  · rw [if_neg hi, if_neg (fun e => hi e.1)]
theorem setLine_k {s : St} {o l c : Nat} {v : Int} (i : Nat) : ((Go.Proofs.Ytjiodlbblmbibac.setLine s o l c v).os.z i).k = (s.os.z i).k := by
  show (if i = o then (⟨(s.os.z i).k, setLn (s.os.z i).ls l c v⟩ : Od) else s.os.z i).k = _
  by_cases hi : i = o
  · rw [if_pos hi]
  · rw [if_neg hi]
theorem setLine_n {s : St} {o l c : Nat} {v : Int} (i : Nat) : ((Go.Proofs.Ytjiodlbblmbibac.setLine s o l c v).os.z i).ls.n = (s.os.z i).ls.n ∧ ((Go.Proofs.Ytjiodlbblmbibac.setLine s o l c v).os.z i).ls.a = (s.os.z i).ls.a ∧ ((Go.Proofs.Ytjiodlbblmbibac.setLine s o l c v).os.z i).ls.c = (s.os.z i).ls.c := by
  show (if i = o then (⟨(s.os.z i).k, setLn (s.os.z i).ls l c v⟩ : Od) else s.os.z i).ls.n = _ ∧ (if i = o then (⟨(s.os.z i).k, setLn (s.os.z i).ls l c v⟩ : Od) else s.os.z i).ls.a = _ ∧ (if i = o then (⟨(s.os.z i).k, setLn (s.os.z i).ls l c v⟩ : Od) else s.os.z i).ls.c = _
  by_cases hi : i = o
  · rw [if_pos hi]; exact ⟨rfl, rfl, rfl⟩
  · rw [if_neg hi]; exact ⟨rfl, rfl, rfl⟩

end Go.Proofs.Ytjiodlbblmbibac
/- One step of taking: of a state, told whole. No walk. -/
namespace Go.Proofs.Ytjiodlbblmbibac
open Go.RowKit
set_option linter.unusedVariables false

theorem sumTo_ge {z : Nat → Int} {m : Nat} : ∀ {k : Nat}, m < k → (∀ i, i < k → 0 ≤ z i) → z m ≤ sumTo z k
  | k + 1, hm, h => by
    simp only [sumTo]
    have h0 : 0 ≤ sumTo z k := by
      have : ∀ q, q ≤ k → 0 ≤ sumTo z q := fun q => by
        induction q with
        | zero => intro _; exact Int.le_refl _
        | succ q ih => intro hq; simp only [sumTo]; have := ih (by omega); have := h q (by omega); omega
      exact this k (Nat.le_refl _)
    by_cases hmk : m = k
    · subst hmk; omega
    · have := sumTo_ge (z := z) (m := m) (k := k) (by omega) (fun i hi => h i (by omega))
      have := h k (by omega)
      omega
theorem kept_le {n : Nat} {z : Nat → Hd} (hr : anyB n (badH z) = false) (o l : Int) {b : Nat} (hb : b < 6) : keptV n z o l b ≤ keptS z o l n := by
  rw [← kept_eq z o l n hr]
  exact sumTo_ge (z := fun b => keptV n z o l b) hb fun i _ => (keptV_bd (fun j hj => (fineH_true (right_fine hr j hj)).2.2.2) o l i).1
/-- A released line: what it got, lacks and holds is what it wants. -/
theorem line_sum {p : Pl} {x : St} (r : RightT p x) {i j : Nat} (hi : i < x.os.n) (hj : j < (x.os.z i).ls.n) (hk : (x.os.z i).k = 1) : ((x.os.z i).ls.z j).b + ((x.os.z i).ls.z j).n + keptS x.hs.z i j x.hs.n = ((x.os.z i).ls.z j).l ∧ ((x.os.z i).ls.z j).l ≤ 200 ∧ 0 ≤ ((x.os.z i).ls.z j).b := by
  have w := r.orders i hi
  unfold wrongOrder at w
  rw [Bool.or_eq_false_iff] at w
  have wj := anyB_false w.2 j hj
  rw [hk] at wj
  unfold wrongL at wj
  rw [if_neg (by decide), if_neg (by decide)] at wj
  simp only [Bool.not_eq_false', beq_iff_eq] at wj
  have b := badLine_no (r.fm.line i hi j hj)
  exact ⟨wj, by omega, by omega⟩

theorem Took.congr {s x : St} {o l : Nat} {n : Int} {t t' : Tk} (h : Took s o l n t x) (h1 : t'.left = t.left) (h2 : ∀ c, t'.took c = t.took c) : Took s o l n t' x :=
  ⟨h.on, ⟨h.os.1, fun i hi => ⟨(h.os.2 i hi).1, (h.os.2 i hi).2.1, fun j hj => by rw [h1]; exact (h.os.2 i hi).2.2 j hj⟩⟩, h.right, fun a b c => by rw [h2]; exact h.kept a b c, h.ms, h.si, h.so, h.sf⟩
theorem Took.stepZero {s x : St} {o l : Nat} {n : Int} {t : Tk} {av : Int → Int} {b : Int} (h : Took s o l n t x) (h0 : min t.left (av b) = 0) : Took s o l n (t.step av b) x :=
  h.congr (by show t.left - min t.left (av b) = t.left; omega) fun c => by
    show (t.took c + if c = b then min t.left (av b) else 0) = t.took c
    rw [h0]
    split <;> omega
/-- The hold that is added. -/
def tookH (o l : Nat) (b m : Int) : Hd := ⟨o, l, b, m⟩
theorem Took.start {s : St} {o l : Nat} {n : Int} (hr : anyB s.hs.n (badH s.hs.z) = false) {x : St} (hx : SameT x s) : Took s o l n ⟨n, fun _ => 0⟩ x := by
  refine ⟨hx.on, ⟨hx.os.1, fun i hi => ⟨(hx.os.2 i hi).1, (hx.os.2 i hi).2.1, fun j hj => ?_⟩⟩, ?_, fun a b c => ?_, hx.ms, hx.si, hx.so, hx.sf⟩
  · rw [(hx.os.2 i hi).2.2 j hj]
    by_cases hij : i = o ∧ j = l
    · rw [if_pos hij]
      show _ = (⟨_, _, _, _ - (n - n)⟩ : Hd)
      rw [Int.sub_self, Int.sub_zero]
    · rw [if_neg hij]
  · rw [hx.hs.1, badH_congr fun j hj => hx.hs.2 j (by rw [hx.hs.1]; exact hj)]
    exact hr
  · rw [hx.hs.1, keptV_congr fun j hj => hx.hs.2 j (by rw [hx.hs.1]; exact hj)]
    show _ = _ + if _ then (0 : Int) else 0
    split <;> omega

section
variable {p : Pl} {s x : St} {order line n but : Int} {l : List Int} {t : Tk} {b : Int}
theorem Took.addE (h : AllocIn p s order line n but) (hm : ∀ x, x ∈ l → 0 ≤ x ∧ x < p.nb) (k : TkOK (fun b => availZ s b.toNat (lineAt s order line).o.toNat) n l t) (T : Took s order.toNat line.toNat n t x) (hb : 0 ≤ b ∧ b < p.nb) {m : Int} (hm0 : 0 < m) (hm1 : m ≤ t.left) :
    Go.Proofs.Ytjiodlbblmbibac.addE x.hs.n x.hs.z (tookH order.toNat line.toNat b m) = 0 := by
  have r := T.rightAt h hm k
  have nb6 := r.fm.sh.pl.nb6
  have ho : order.toNat < x.os.n := by rw [T.os.1]; exact h.on
  have e := T.os.2 order.toNat ho
  have hl : line.toNat < (x.os.z order.toNat).ls.n := by rw [e.2.1]; exact h.ln
  obtain ⟨a1, a2, a3⟩ := line_sum r ho hl (by rw [e.1]; exact h.kd)
  have e3 := e.2.2 line.toNat hl
  rw [if_pos ⟨rfl, rfl⟩] at e3
  have e4 : ((x.os.z order.toNat).ls.z line.toNat).n = (lineAt s order line).n - (n - t.left) := by rw [e3]; rfl
  have hbk := h.bk
  have hln := k.leftn
  obtain ⟨b', rfl⟩ := Int.eq_ofNat_of_zero_le hb.1
  have hkl := kept_le T.right order.toNat line.toNat (b := b') (by omega)
  have os4 := r.fm.os4
  have ls3 := (r.fm.lns _ ho).2
  have hf : fineH (tookH order.toNat line.toNat b' m) = true := by
    unfold fineH tookH
    have hk0 := (keptS_bd (z := x.hs.z) (order.toNat : Nat) (line.toNat : Nat) x.hs.n fun j hj => (fineH_true (right_fine T.right j hj)).2.2.2).1
    rw [inB_mk (by dsimp only; omega), inB_mk (by dsimp only; omega), inB_mk (by dsimp only; omega), inB_mk (by dsimp only; omega)]
    rfl
  rw [addE_of T.right hf, if_neg]
  show ¬ 200 < keptV x.hs.n x.hs.z (order.toNat : Nat) (line.toNat : Nat) b' + m
  omega
theorem Took.stepAdd {y : Hs} {av : Int → Int} (T : Took s order.toNat line.toNat n t x) (ho : order.toNat < s.os.n) (hl : line.toNat < (s.os.z order.toNat).ls.n) {m : Int} (hm : min t.left (av b) = m) (he : Go.Proofs.Ytjiodlbblmbibac.addE x.hs.n x.hs.z (tookH order.toNat line.toNat b m) = 0) (hy : AddOK x.hs.n x.hs.z (tookH order.toNat line.toNat b m) y) :
    Took s order.toNat line.toNat n (t.step av b) (withHolds (setLine x order.toNat line.toNat 3 (((x.os.z order.toNat).ls.z line.toNat).n - m)) y) := by
  obtain ⟨hr, hk⟩ := hy.right he
  refine ⟨T.on, ⟨T.os.1, fun i hi => ?_⟩, hr, fun a c d => ?_, T.ms, T.si, T.so, T.sf⟩
  · have hi' : i < x.os.n := hi
    have e := T.os.2 i hi'
    have n1 := (setLine_n (s := x) (o := order.toNat) (l := line.toNat) (c := 3) (v := ((x.os.z order.toNat).ls.z line.toNat).n - m) i).1
    refine ⟨(setLine_k i).trans e.1, n1.trans e.2.1, fun j hj => ?_⟩
    have hj' : j < (x.os.z i).ls.n := by rw [← n1]; exact hj
    show ((setLine x order.toNat line.toNat 3 (((x.os.z order.toNat).ls.z line.toNat).n - m)).os.z i).ls.z j = _
    rw [setLine_at, e.2.2 j hj']
    by_cases hij : i = order.toNat ∧ j = line.toNat
    · rw [if_pos hij, if_pos hij, if_pos hij]
      obtain ⟨rfl, rfl⟩ := hij
      have e3 := e.2.2 line.toNat hj'
      rw [if_pos ⟨rfl, rfl⟩] at e3
      rw [e3]
      show (⟨_, _, _, _ - (n - t.left) - m⟩ : Hd) = ⟨_, _, _, _ - (n - (t.left - min t.left (av b)))⟩
      rw [hm]
      congr 1
      omega
    · rw [if_neg hij, if_neg hij, if_neg hij]
  · show keptV y.n y.z a c d = _
    rw [hk, T.kept]
    show _ = _ + if _ then t.took d + (if d = b then min t.left (av b) else 0) else 0
    rw [hm]
    by_cases hac : a = order.toNat ∧ c = line.toNat
    · rw [if_pos hac, if_pos hac]
      by_cases hd : d = b
      · have : matchH (tookH order.toNat line.toNat b m) a c d = true := by
          unfold matchH tookH
          simp [hac, hd]
        rw [this, if_pos hd, if_pos rfl]
        show _ + m = _
        omega
      · have : matchH (tookH order.toNat line.toNat b m) a c d = false := by
          cases hq : matchH (tookH order.toNat line.toNat b m) a c d
          · rfl
          · exact absurd (matchH_true hq).2.2.symm hd
        rw [this, if_neg hd]
        simp
    · have : matchH (tookH order.toNat line.toNat b m) a c d = false := by
        cases hq : matchH (tookH order.toNat line.toNat b m) a c d
        · rfl
        · have := matchH_true hq
          exact absurd ⟨this.1.symm, this.2.1.symm⟩ hac
      rw [this, if_neg hac, if_neg hac]
      simp
end

end Go.Proofs.Ytjiodlbblmbibac

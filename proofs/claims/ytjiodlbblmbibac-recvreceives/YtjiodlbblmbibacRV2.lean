/- What the document receives: ReceiveOf. -/
import Derived.Test.YtjiodlbblmbibacRV1J
import Derived.Test.YtjiodlbblmbibacRO
import Derived.Test.YtjiodlbblmbibacRS4
namespace Go.Proofs.Ytjiodlbblmbibac
open Go.RowKit Go.Shelf Go.Sort
set_option linter.unusedVariables false

theorem recvE_state {p : Pl} {s : St} {bin good n : Int} (h : ¬ stateE p s = 0) : recvE p s bin good n = stateE p s := by unfold recvE; rw [if_neg h]
theorem recvE_range {p : Pl} {s : St} {bin good n : Int} (h : stateE p s = 0) (h2 : (inB bin 0 ((p.nb : Int) - 1) && inB good 0 ((p.ns : Int) - 1) && inB n 1 200) = false) : recvE p s bin good n = 3 := by unfold recvE; rw [if_pos h, h2]; rfl
theorem recvE_full {p : Pl} {s : St} {b g : Nat} {n : Int} (h : stateE p s = 0) (h1 : b < p.nb) (h2 : g < p.ns) (h3 : inB n 1 200 = true) (h4 : freeZ p s b < n * p.zs g) : recvE p s b g n = 5 := by
  unfold recvE; simp only [Int.toNat_natCast]; rw [if_pos h, inB_mk (by omega), inB_mk (by omega), h3, if_pos (by decide), if_pos h4]
theorem recvE_many {p : Pl} {s : St} {b g : Nat} {n : Int} (h : stateE p s = 0) (h1 : b < p.nb) (h2 : g < p.ns) (h3 : inB n 1 200 = true) (h4 : ¬ freeZ p s b < n * p.zs g) (h5 : 200 < lyingZ s b g + n ∨ 1048576 < s.si.z g + n) : recvE p s b g n = 2 := by
  unfold recvE; simp only [Int.toNat_natCast]; rw [if_pos h, inB_mk (by omega), inB_mk (by omega), h3, if_pos (by decide), if_neg h4, if_pos h5]
theorem recvE_ok {p : Pl} {s : St} {b g : Nat} {n : Int} (h : stateE p s = 0) (h1 : b < p.nb) (h2 : g < p.ns) (h3 : inB n 1 200 = true) (h4 : ¬ freeZ p s b < n * p.zs g) (h5 : ¬ (200 < lyingZ s b g + n ∨ 1048576 < s.si.z g + n)) : recvE p s b g n = 0 := by
  unfold recvE; simp only [Int.toNat_natCast]; rw [if_pos h, inB_mk (by omega), inB_mk (by omega), h3, if_pos (by decide), if_neg h4, if_neg h5]
theorem freeZ_bd {p : Pl} {s : St} (f : Formed p s) {b : Nat} (hb : b < p.nb) : -30000 ≤ freeZ p s b ∧ freeZ p s b ≤ 1000 := by
  have hon : b < s.on.n := by rw [f.sh.n]; exact hb
  have ub := usedTo_bd (z := (s.on.r b).z) (zs := p.zs) (n := p.ns) (fun j hj => ⟨f.sh.num b hon j hj, f.sh.pl.sizes j hj⟩) p.ns (Nat.le_refl _)
  have tb := takeTo_bd f (b : Int) s.ms.n (Nat.le_refl _)
  have room : 0 ≤ (p.zb b).room ∧ (p.zb b).room ≤ 1000 := by
    have := f.sh.pl.bins b hb
    simp only [badBin, Bool.or_eq_false_iff, Bool.not_eq_false'] at this
    exact inB_true this.1.1
  have := f.ms8
  have := f.sh.pl.ns3
  unfold freeZ
  omega

set_option maxRecDepth 100000 in
set_option maxHeartbeats 8000000 in
theorem ReceiveOf_any (p : Pl) (s : St) (bin good n : Int) (w : World) (hp : p.At w) (hs : s.At w) :
    Calls Try.prog 22 #[p.val, s.val, .int .i64 bin, .int .i64 good, .int .i64 n] w fun e w' => ∃ s' : St, e = .returned (.tuple #[s'.val, .int .i64 (recvE p s bin good n)]) ∧ s'.At w' ∧ ActOK (recvE p s bin good n) (recvT s bin.toNat good.toNat n) s' ∧ Below w.heap.size w w' := by
  obtain ⟨W0, hW, hWB, X0, Z0⟩ : ∃ W, (((w.alloc (.cells #[.slice p.ab p.nb p.cb, .slice p.sa p.ns p.cs] 25)).alloc (.cells s.cells 31)).alloc (.cells #[.slice .none 0 0, .slice .none 0 0, .slice .none 0 0, .slice .none 0 0, .slice .none 0 0, .slice .none 0 0, .slice .none 0 0] 31)) = W ∧ Below w.heap.size w W ∧ Boxes W w.heap.size (w.heap.size + 1) p s ∧ Blk W (w.heap.size + 2) 31 7 (fun _ => .slice .none 0 0) :=
    ⟨_, rfl, (two_below _ _ _).alloc (by simp; omega) _, (boxes_new w p s _ _).below ((Below.refl _ _).alloc (Nat.le_refl _) _), (Blk.mk' (cur := #[.slice .none 0 0, .slice .none 0 0, .slice .none 0 0, .slice .none 0 0, .slice .none 0 0, .slice .none 0 0, .slice .none 0 0]) (by simp) rfl).congr (fun j hj => by match j, hj with | 0, _ => rfl | 1, _ => rfl | 2, _ => rfl | 3, _ => rfl | 4, _ => rfl | 5, _ => rfl | 6, _ => rfl)⟩
  have HC : Hid (∀ wk, Below W0.heap.size W0 wk → Boxes wk w.heap.size (w.heap.size + 1) p s ∧ p.At wk ∧ s.At wk ∧ Below w.heap.size w wk ∧ Blk wk (w.heap.size + 2) 31 7 (fun _ => .slice .none 0 0)) := fun wk h => ⟨X0.below h, (hp.below hWB).below h, (hs.below hWB).below h, hWB.trans (h.mono hWB.size), Z0.below h⟩
  have HW : Hid (((w.alloc (.cells #[.slice p.ab p.nb p.cb, .slice p.sa p.ns p.cs] 25)).alloc (.cells #[.slice s.on.a s.on.n s.on.c, .slice s.os.a s.os.n s.os.c, .slice s.hs.a s.hs.n s.hs.c, .slice s.ms.a s.ms.n s.ms.c, .slice s.si.a s.si.n s.si.c, .slice s.so.a s.so.n s.so.c, .slice s.sf.a s.sf.n s.sf.c] 31)).alloc (.cells #[.slice .none 0 0, .slice .none 0 0, .slice .none 0 0, .slice .none 0 0, .slice .none 0 0, .slice .none 0 0, .slice .none 0 0] 31) = W0) := hW
  have leb := hp.leb
  have capb0 := hp.capb
  have les := hp.les
  have caps0 := hp.caps
  have capb := capb0
  have caps := caps0
  have zlt0 := Z0.lt
  unfold maxLen at capb caps
  clear hW X0 Z0 hp hs
  unfold Pl.val St.val
  go_enter Try.func22, Try.ntmps22
  go_wp2_with fail
  rw [HW.out]
  obtain ⟨X, hpk, hsk, hBw, hz⟩ := HC.out W0 (Below.refl _ _)
  refine (refCheckState_any p s W0 hpk hsk).mono ?_
  rintro e w1 ⟨rfl, hB⟩
  clear X hpk hsk hBw hz HW
  obtain ⟨⟨⟨l1, d0, d1⟩, l2, c0, c1, c2, c3, c4, c5, c6⟩, hpk, hsk, hBw, hz⟩ := HC.out w1 hB
  by_cases h0 : stateE p s = 0
  · have H0 : Hid (stateE p s = 0) := h0
    have HF : Hid (Formed p s) := (rightT h0).fm
    rw [h0]
    clear h0 c0 c1 c2 c3 c4 c5 c6 hsk
    go_wp2_with fail
    refine (isBin_any p bin w1 leb capb0).mono ?_
    rintro e w2 ⟨rfl, hB2⟩
    have hB := hB.trans (hB2.mono hB.size)
    clear l1 d0 d1 l2 hpk hBw hz hB2
    obtain ⟨⟨⟨l1, d0, d1⟩, l2, c0, c1, c2, c3, c4, c5, c6⟩, hpk, hsk, hBw, hz⟩ := HC.out w2 hB
    clear c0 c1 c2 c3 c4 c5 c6 hsk
    cases k1 : inB bin 0 ((p.nb : Int) - 1)
    · have HX : Hid (recvE p s bin good n = 3) := recvE_range H0.out (by rw [k1]; rfl)
      clear k1
      have zl := hz.lt
      have zf0 := hz.frozen 0
      have zc0 := hz.cell (j := 0) (by decide)
      have zf1 := hz.frozen 1
      have zc1 := hz.cell (j := 1) (by decide)
      have zf2 := hz.frozen 2
      have zc2 := hz.cell (j := 2) (by decide)
      have zf3 := hz.frozen 3
      have zc3 := hz.cell (j := 3) (by decide)
      have zf4 := hz.frozen 4
      have zc4 := hz.cell (j := 4) (by decide)
      have zf5 := hz.frozen 5
      have zc5 := hz.cell (j := 5) (by decide)
      have zf6 := hz.frozen 6
      have zc6 := hz.cell (j := 6) (by decide)
      go_wp2_with fail
      have KZ := set7_blk hz (.slice .none 0 0) (.slice .none 0 0) (.slice .none 0 0) (.slice .none 0 0) (.slice .none 0 0) (.slice .none 0 0) (.slice .none 0 0)
      have hbz := set7_below (b := w.heap.size + 2) hBw (by omega) (.slice .none 0 0) (.slice .none 0 0) (.slice .none 0 0) (.slice .none 0 0) (.slice .none 0 0) (.slice .none 0 0) (.slice .none 0 0)
      unfold set7 at KZ hbz
      obtain ⟨c0', c1', c2', c3', c4', c5', c6'⟩ := box_cells KZ
      refine bodyPost_ret (v := .tuple #[noneS.val, .int .i64 3]) (by simp [results, Try.results22, go_sem, noneS, St.val, c0', c1', c2', c3', c4', c5', c6']) rfl ?_
      exact ⟨noneS, by rw [HX.out]; rfl, noneS_at _, ⟨fun h => absurd h (by rw [HX.out]; decide), fun _ => ⟨rfl, rfl, rfl, rfl, rfl, rfl, rfl⟩⟩, hbz⟩
    · go_wp2_with fail
      refine (isGood_any p good w2 les caps0).mono ?_
      rintro e w3 ⟨rfl, hB2⟩
      have hB := hB.trans (hB2.mono hB.size)
      clear l1 d0 d1 l2 hpk hBw hz hB2
      obtain ⟨⟨⟨l1, d0, d1⟩, l2, c0, c1, c2, c3, c4, c5, c6⟩, hpk, hsk, hBw, hz⟩ := HC.out w3 hB
      cases k2 : inB good 0 ((p.ns : Int) - 1)
      · have HX : Hid (recvE p s bin good n = 3) := recvE_range H0.out (by rw [k1, k2]; rfl)
        clear k1 k2 c0 c1 c2 c3 c4 c5 c6 hsk
        have zl := hz.lt
        have zf0 := hz.frozen 0
        have zc0 := hz.cell (j := 0) (by decide)
        have zf1 := hz.frozen 1
        have zc1 := hz.cell (j := 1) (by decide)
        have zf2 := hz.frozen 2
        have zc2 := hz.cell (j := 2) (by decide)
        have zf3 := hz.frozen 3
        have zc3 := hz.cell (j := 3) (by decide)
        have zf4 := hz.frozen 4
        have zc4 := hz.cell (j := 4) (by decide)
        have zf5 := hz.frozen 5
        have zc5 := hz.cell (j := 5) (by decide)
        have zf6 := hz.frozen 6
        have zc6 := hz.cell (j := 6) (by decide)
        go_wp2_with fail
        have KZ := set7_blk hz (.slice .none 0 0) (.slice .none 0 0) (.slice .none 0 0) (.slice .none 0 0) (.slice .none 0 0) (.slice .none 0 0) (.slice .none 0 0)
        have hbz := set7_below (b := w.heap.size + 2) hBw (by omega) (.slice .none 0 0) (.slice .none 0 0) (.slice .none 0 0) (.slice .none 0 0) (.slice .none 0 0) (.slice .none 0 0) (.slice .none 0 0)
        unfold set7 at KZ hbz
        obtain ⟨c0', c1', c2', c3', c4', c5', c6'⟩ := box_cells KZ
        refine bodyPost_ret (v := .tuple #[noneS.val, .int .i64 3]) (by simp [results, Try.results22, go_sem, noneS, St.val, c0', c1', c2', c3', c4', c5', c6']) rfl ?_
        exact ⟨noneS, by rw [HX.out]; rfl, noneS_at _, ⟨fun h => absurd h (by rw [HX.out]; decide), fun _ => ⟨rfl, rfl, rfl, rfl, rfl, rfl, rfl⟩⟩, hbz⟩
      · cases k3 : inB n 1 200
        · have HX : Hid (recvE p s bin good n = 3) := recvE_range H0.out (by rw [k1, k2, k3]; rfl)
          clear k1 k2 c0 c1 c2 c3 c4 c5 c6 hsk
          have zl := hz.lt
          have zf0 := hz.frozen 0
          have zc0 := hz.cell (j := 0) (by decide)
          have zf1 := hz.frozen 1
          have zc1 := hz.cell (j := 1) (by decide)
          have zf2 := hz.frozen 2
          have zc2 := hz.cell (j := 2) (by decide)
          have zf3 := hz.frozen 3
          have zc3 := hz.cell (j := 3) (by decide)
          have zf4 := hz.frozen 4
          have zc4 := hz.cell (j := 4) (by decide)
          have zf5 := hz.frozen 5
          have zc5 := hz.cell (j := 5) (by decide)
          have zf6 := hz.frozen 6
          have zc6 := hz.cell (j := 6) (by decide)
          go_wp2_with (go_at_call 48; refine calls_to (within_any _ _ _ _) ?_)
          have KZ := set7_blk hz (.slice .none 0 0) (.slice .none 0 0) (.slice .none 0 0) (.slice .none 0 0) (.slice .none 0 0) (.slice .none 0 0) (.slice .none 0 0)
          have hbz := set7_below (b := w.heap.size + 2) hBw (by omega) (.slice .none 0 0) (.slice .none 0 0) (.slice .none 0 0) (.slice .none 0 0) (.slice .none 0 0) (.slice .none 0 0) (.slice .none 0 0)
          unfold set7 at KZ hbz
          obtain ⟨c0', c1', c2', c3', c4', c5', c6'⟩ := box_cells KZ
          refine bodyPost_ret (v := .tuple #[noneS.val, .int .i64 3]) (by simp [results, Try.results22, go_sem, noneS, St.val, c0', c1', c2', c3', c4', c5', c6']) rfl ?_
          exact ⟨noneS, by rw [HX.out]; rfl, noneS_at _, ⟨fun h => absurd h (by rw [HX.out]; decide), fun _ => ⟨rfl, rfl, rfl, rfl, rfl, rfl, rfl⟩⟩, hbz⟩
        · obtain ⟨b, rfl⟩ := Int.eq_ofNat_of_zero_le (inB_true k1).1
          obtain ⟨g, rfl⟩ := Int.eq_ofNat_of_zero_le (inB_true k2).1
          have hb : b < p.nb := by have := (inB_true k1).2; omega
          have hg : g < p.ns := by have := (inB_true k2).2; omega
          have hn := inB_true k3
          have K3 : Hid (inB n 1 200 = true) := k3
          have pz := HF.out.sh.pl.sizes g hg
          have fb := freeZ_bd HF.out hb
          have mb := mul_bd (a := n) (b := p.zs g) ⟨by omega, hn.2⟩ pz
          have qb : (0 : Int) ≤ (b : Int) := by omega
          have qg : (0 : Int) ≤ (g : Int) := by omega
          obtain ⟨bz, oz, hsa, hbz, y0⟩ := hpk.sizes g hg
          have HSA : Hid (p.sa = some ⟨bz, oz, none⟩ ∧ p.At w3 ∧ s.At w3) := ⟨hsa, hpk, hsk⟩
          rw [hsa] at d1
          have r0 : ∀ d os, (grow (redrawn w3 d) os).cell? ⟨w.heap.size, 0, none⟩ = some (.slice p.ab p.nb p.cb) := fun d os => cell_regrown d0 d os
          have r1 : ∀ d os, (grow (redrawn w3 d) os).cell? ⟨w.heap.size, 1, none⟩ = some (.slice (some ⟨bz, oz, none⟩) p.ns p.cs) := fun d os => cell_regrown d1 d os
          have r2 : ∀ d os, (grow (redrawn w3 d) os).cell? ⟨bz, oz + g, none⟩ = some (.int .i64 (p.zs g)) := fun d os => cell_regrown y0 d os
          have s0 : ∀ d os, (grow (redrawn w3 d) os).cell? ⟨w.heap.size + 1, 0, none⟩ = some (.slice s.on.a s.on.n s.on.c) := fun d os => cell_regrown c0 d os
          have s1 : ∀ d os, (grow (redrawn w3 d) os).cell? ⟨w.heap.size + 1, 1, none⟩ = some (.slice s.os.a s.os.n s.os.c) := fun d os => cell_regrown c1 d os
          have s2 : ∀ d os, (grow (redrawn w3 d) os).cell? ⟨w.heap.size + 1, 2, none⟩ = some (.slice s.hs.a s.hs.n s.hs.c) := fun d os => cell_regrown c2 d os
          have s3 : ∀ d os, (grow (redrawn w3 d) os).cell? ⟨w.heap.size + 1, 3, none⟩ = some (.slice s.ms.a s.ms.n s.ms.c) := fun d os => cell_regrown c3 d os
          have s4 : ∀ d os, (grow (redrawn w3 d) os).cell? ⟨w.heap.size + 1, 4, none⟩ = some (.slice s.si.a s.si.n s.si.c) := fun d os => cell_regrown c4 d os
          have s5 : ∀ d os, (grow (redrawn w3 d) os).cell? ⟨w.heap.size + 1, 5, none⟩ = some (.slice s.so.a s.so.n s.so.c) := fun d os => cell_regrown c5 d os
          have s6 : ∀ d os, (grow (redrawn w3 d) os).cell? ⟨w.heap.size + 1, 6, none⟩ = some (.slice s.sf.a s.sf.n s.sf.c) := fun d os => cell_regrown c6 d os
          have hfr : Hid (∀ wk, p.At wk → s.At wk → Calls Try.prog 59 #[.agg #[.slice p.ab p.nb p.cb, .slice (some ⟨bz, oz, none⟩) p.ns p.cs], .agg #[.slice s.on.a s.on.n s.on.c, .slice s.os.a s.os.n s.os.c, .slice s.hs.a s.hs.n s.hs.c, .slice s.ms.a s.ms.n s.ms.c, .slice s.si.a s.si.n s.si.c, .slice s.so.a s.so.n s.so.c, .slice s.sf.a s.sf.n s.sf.c], .int .i64 b] wk fun e w' => e = .returned (.int .i64 (freeZ p s b)) ∧ Below wk.heap.size wk w') := fun wk h1 h2 => by
            have := FreeOf_any p s b wk h1 h2 HF.out hb
            rw [Pl.val, HSA.out.1] at this
            exact this
          have HT5 : Hid (freeZ p s b < n * p.zs g → recvE p s b g n = 5) := fun h => recvE_full H0.out hb hg K3.out h
          have HT2 : Hid (¬ freeZ p s b < n * p.zs g → (200 < lyingZ s b g + n ∨ 1048576 < s.si.z g + n) → recvE p s b g n = 2) := fun h h2 => recvE_many H0.out hb hg K3.out h h2
          have HT0 : Hid (¬ freeZ p s b < n * p.zs g → ¬ (200 < lyingZ s b g + n ∨ 1048576 < s.si.z g + n) → recvE p s b g n = 0) := fun h h2 => recvE_ok H0.out hb hg K3.out h h2
          clear k1 k2 hsa hpk hsk c0 c1 c2 c3 c4 c5 c6 d0 d1 y0
          generalize freeZ p s b = FR at *
          generalize p.zs g = PZ at *
          go_wp2_with (go_at_call 48; refine calls_to (within_any _ _ _ _) ?_)
          refine wp_region_quiet_below (by kernel_rfl) (by kernel_rfl) ?_
          repeat (go_big_quiet_step ((go_at_call 59; exact Calls.regrown_of (hfr.out _ (HSA.out.2.1.below (below_regrown _ _ _)) (HSA.out.2.2.below (below_regrown _ _ _))))))
          refine wpQuiet_nil ?_
          intro _ hw'
          obtain ⟨⟨dq, osq⟩, hw''⟩ := hw'
          subst hw''
          have hB := hB.trans ((below_regrown w3 dq osq).mono hB.size)
          clear r0 r1 r2 s0 s1 s2 s3 s4 s5 s6 hfr HSA hBw hz l1 l2 hbz
          generalize grow (redrawn w3 dq) osq = w4 at *
          obtain ⟨⟨⟨l1, d0, d1⟩, l2, c0, c1, c2, c3, c4, c5, c6⟩, hpk, hsk, hBw, hz⟩ := HC.out w4 hB
          by_cases h5 : FR < n * PZ
          · have HX : Hid (recvE p s b g n = 5) := HT5.out h5
            clear hpk hsk c0 c1 c2 c3 c4 c5 c6
            have zl := hz.lt
            have zf0 := hz.frozen 0
            have zc0 := hz.cell (j := 0) (by decide)
            have zf1 := hz.frozen 1
            have zc1 := hz.cell (j := 1) (by decide)
            have zf2 := hz.frozen 2
            have zc2 := hz.cell (j := 2) (by decide)
            have zf3 := hz.frozen 3
            have zc3 := hz.cell (j := 3) (by decide)
            have zf4 := hz.frozen 4
            have zc4 := hz.cell (j := 4) (by decide)
            have zf5 := hz.frozen 5
            have zc5 := hz.cell (j := 5) (by decide)
            have zf6 := hz.frozen 6
            have zc6 := hz.cell (j := 6) (by decide)
            go_wp2_with fail
            have KZ := set7_blk hz (.slice .none 0 0) (.slice .none 0 0) (.slice .none 0 0) (.slice .none 0 0) (.slice .none 0 0) (.slice .none 0 0) (.slice .none 0 0)
            have hbz := set7_below (b := w.heap.size + 2) hBw (by omega) (.slice .none 0 0) (.slice .none 0 0) (.slice .none 0 0) (.slice .none 0 0) (.slice .none 0 0) (.slice .none 0 0) (.slice .none 0 0)
            unfold set7 at KZ hbz
            obtain ⟨c0', c1', c2', c3', c4', c5', c6'⟩ := box_cells KZ
            refine bodyPost_ret (v := .tuple #[noneS.val, .int .i64 5]) (by simp [results, Try.results22, go_sem, noneS, St.val, c0', c1', c2', c3', c4', c5', c6']) rfl ?_
            exact ⟨noneS, by rw [HX.out]; rfl, noneS_at _, ⟨fun h => absurd h (by rw [HX.out]; decide), fun _ => ⟨rfl, rfl, rfl, rfl, rfl, rfl, rfl⟩⟩, hbz⟩
          · have hon : b < s.on.n := by rw [HF.out.sh.n]; exact hb
            obtain ⟨bo, oo, hoa, hbo, y0, hrow⟩ := hsk.on.rows b hon
            have hrn := HF.out.sh.len b hon
            obtain ⟨br, orr, hra, hbr, y1⟩ := hrow.ints g (by rw [hrn]; exact hg)
            obtain ⟨bi, oi, hia, hbi, y2⟩ := hsk.si.ints g (by rw [HF.out.sin]; exact hg)
            have v1 := hrow.le
            have v2 := hrow.cap
            have v3 := hsk.on.le
            have v4 := hsk.on.cap
            have v5 := hsk.si.le
            have v6 := hsk.si.cap
            have u1 := HF.out.sh.num b hon g hg
            have u2 := comingTo_bd (s := s) (b := b) (g := g) HF.out.moveN
            have u3 := HF.out.sib g hg
            have ms8 := HF.out.ms8
            have si1 : g < s.si.n := by rw [HF.out.sin]; exact hg
            unfold maxLen at v2 v4 v6
            have HSA : Hid (s.At w4 ∧ s.on.a = some ⟨bo, oo, none⟩ ∧ s.si.a = some ⟨bi, oi, none⟩) := ⟨hsk, hoa, hia⟩
            rw [hra, hrn] at y0
            rw [hrn] at v1
            rw [hoa] at c0
            rw [hia] at c4
            have s0 : ∀ d os, (grow (redrawn w4 d) os).cell? ⟨w.heap.size + 1, 0, none⟩ = some (.slice (some ⟨bo, oo, none⟩) s.on.n s.on.c) := fun d os => cell_regrown c0 d os
            have s1 : ∀ d os, (grow (redrawn w4 d) os).cell? ⟨w.heap.size + 1, 1, none⟩ = some (.slice s.os.a s.os.n s.os.c) := fun d os => cell_regrown c1 d os
            have s2 : ∀ d os, (grow (redrawn w4 d) os).cell? ⟨w.heap.size + 1, 2, none⟩ = some (.slice s.hs.a s.hs.n s.hs.c) := fun d os => cell_regrown c2 d os
            have s3 : ∀ d os, (grow (redrawn w4 d) os).cell? ⟨w.heap.size + 1, 3, none⟩ = some (.slice s.ms.a s.ms.n s.ms.c) := fun d os => cell_regrown c3 d os
            have s4 : ∀ d os, (grow (redrawn w4 d) os).cell? ⟨w.heap.size + 1, 4, none⟩ = some (.slice (some ⟨bi, oi, none⟩) s.si.n s.si.c) := fun d os => cell_regrown c4 d os
            have s5 : ∀ d os, (grow (redrawn w4 d) os).cell? ⟨w.heap.size + 1, 5, none⟩ = some (.slice s.so.a s.so.n s.so.c) := fun d os => cell_regrown c5 d os
            have s6 : ∀ d os, (grow (redrawn w4 d) os).cell? ⟨w.heap.size + 1, 6, none⟩ = some (.slice s.sf.a s.sf.n s.sf.c) := fun d os => cell_regrown c6 d os
            have r1 : ∀ d os, (grow (redrawn w4 d) os).cell? ⟨bo, oo + b, none⟩ = some (.slice (some ⟨br, orr, none⟩) p.ns (s.on.r b).c) := fun d os => cell_regrown y0 d os
            have r2 : ∀ d os, (grow (redrawn w4 d) os).cell? ⟨br, orr + g, none⟩ = some (.int .i64 ((s.on.r b).z g)) := fun d os => cell_regrown y1 d os
            have r3 : ∀ d os, (grow (redrawn w4 d) os).cell? ⟨bi, oi + g, none⟩ = some (.int .i64 (s.si.z g)) := fun d os => cell_regrown y2 d os
            have hco : Hid (∀ wk, s.At wk → Calls Try.prog 60 #[.agg #[.slice (some ⟨bo, oo, none⟩) s.on.n s.on.c, .slice s.os.a s.os.n s.os.c, .slice s.hs.a s.hs.n s.hs.c, .slice s.ms.a s.ms.n s.ms.c, .slice (some ⟨bi, oi, none⟩) s.si.n s.si.c, .slice s.so.a s.so.n s.so.c, .slice s.sf.a s.sf.n s.sf.c], .int .i64 b, .int .i64 g] wk fun e w' => e = .returned (.int .i64 (comingTo s b g s.ms.n)) ∧ Below wk.heap.size wk w') := fun wk h => by
              have := coming_any p s b g wk h HF.out
              rw [St.val, HSA.out.2.1, HSA.out.2.2] at this
              exact this
            have HLY : Hid (lyingZ s b g = (s.on.r b).z g + comingTo s b g s.ms.n) := rfl
            have cm : 0 ≤ comingTo s b g s.ms.n ∧ comingTo s b g s.ms.n ≤ 1600 := by omega
            have HRT : Hid (recvT s b g n = setIn (setOn s b g ((s.on.r b).z g + n)) g (s.si.z g + n)) := rfl
            clear hoa hra hia hrow hrn hpk hsk c0 c1 c2 c3 c4 c5 c6 y0 y1 y2 d0 d1 u2
            generalize comingTo s b g s.ms.n = CM at *
            generalize hON : (s.on.r b).z g = ON at *
            have HON : Hid ((s.on.r b).z g = ON) := hON
            clear hON
            generalize (s.on.r b).c = RC at *
            generalize hSI : s.si.z g = SI at *
            have HSI : Hid (s.si.z g = SI) := hSI
            clear hSI
            by_cases h6 : 200 < ON + CM + n
            · have HX : Hid (recvE p s b g n = 2) := HT2.out (by omega) (.inl (by rw [HLY.out]; exact h6))
              have d6 : decide (200 < ON + CM + n) = true := decide_eq_true h6
              go_wp2_with fail
              refine wp_region_quiet_below (by kernel_rfl) (by kernel_rfl) ?_
              repeat (go_big_quiet_step ((go_at_call 60; exact Calls.regrown_of (hco.out _ (HSA.out.1.below (below_regrown _ _ _))))))
              refine wpQuiet_nil ?_
              intro _ hw'
              obtain ⟨⟨dq, osq⟩, hw''⟩ := hw'
              subst hw''
              have hB := hB.trans ((below_regrown w4 dq osq).mono hB.size)
              clear r1 r2 r3 s0 s1 s2 s3 s4 s5 s6 hco HSA hBw hz l1 l2
              generalize grow (redrawn w4 dq) osq = w5 at *
              obtain ⟨-, -, -, hBw, hz⟩ := HC.out w5 hB
              have zl := hz.lt
              have zf0 := hz.frozen 0
              have zc0 := hz.cell (j := 0) (by decide)
              have zf1 := hz.frozen 1
              have zc1 := hz.cell (j := 1) (by decide)
              have zf2 := hz.frozen 2
              have zc2 := hz.cell (j := 2) (by decide)
              have zf3 := hz.frozen 3
              have zc3 := hz.cell (j := 3) (by decide)
              have zf4 := hz.frozen 4
              have zc4 := hz.cell (j := 4) (by decide)
              have zf5 := hz.frozen 5
              have zc5 := hz.cell (j := 5) (by decide)
              have zf6 := hz.frozen 6
              have zc6 := hz.cell (j := 6) (by decide)
              go_wp2_with fail
              have KZ := set7_blk hz (.slice .none 0 0) (.slice .none 0 0) (.slice .none 0 0) (.slice .none 0 0) (.slice .none 0 0) (.slice .none 0 0) (.slice .none 0 0)
              have hbz := set7_below (b := w.heap.size + 2) hBw (by omega) (.slice .none 0 0) (.slice .none 0 0) (.slice .none 0 0) (.slice .none 0 0) (.slice .none 0 0) (.slice .none 0 0) (.slice .none 0 0)
              unfold set7 at KZ hbz
              obtain ⟨c0', c1', c2', c3', c4', c5', c6'⟩ := box_cells KZ
              refine bodyPost_ret (v := .tuple #[noneS.val, .int .i64 2]) (by simp [results, Try.results22, go_sem, noneS, St.val, c0', c1', c2', c3', c4', c5', c6']) rfl ?_
              exact ⟨noneS, by rw [HX.out]; rfl, noneS_at _, ⟨fun h => absurd h (by rw [HX.out]; decide), fun _ => ⟨rfl, rfl, rfl, rfl, rfl, rfl, rfl⟩⟩, hbz⟩
            · by_cases h7 : 1048576 < SI + n
              · have HX : Hid (recvE p s b g n = 2) := HT2.out (by omega) (.inr h7)
                have d6 : decide (200 < ON + CM + n) = false := decide_eq_false h6
                have d7 : decide (1048576 < SI + n) = true := decide_eq_true h7
                go_wp2_with fail
                refine wp_region_quiet_below (by kernel_rfl) (by kernel_rfl) ?_
                repeat (go_big_quiet_step ((go_at_call 60; exact Calls.regrown_of (hco.out _ (HSA.out.1.below (below_regrown _ _ _))))))
                refine wpQuiet_nil ?_
                intro _ hw'
                obtain ⟨⟨dq, osq⟩, hw''⟩ := hw'
                subst hw''
                have hB := hB.trans ((below_regrown w4 dq osq).mono hB.size)
                clear r1 r2 r3 s0 s1 s2 s3 s4 s5 s6 hco HSA hBw hz l1 l2
                generalize grow (redrawn w4 dq) osq = w5 at *
                obtain ⟨-, -, -, hBw, hz⟩ := HC.out w5 hB
                have zl := hz.lt
                have zf0 := hz.frozen 0
                have zc0 := hz.cell (j := 0) (by decide)
                have zf1 := hz.frozen 1
                have zc1 := hz.cell (j := 1) (by decide)
                have zf2 := hz.frozen 2
                have zc2 := hz.cell (j := 2) (by decide)
                have zf3 := hz.frozen 3
                have zc3 := hz.cell (j := 3) (by decide)
                have zf4 := hz.frozen 4
                have zc4 := hz.cell (j := 4) (by decide)
                have zf5 := hz.frozen 5
                have zc5 := hz.cell (j := 5) (by decide)
                have zf6 := hz.frozen 6
                have zc6 := hz.cell (j := 6) (by decide)
                go_wp2_with fail
                have KZ := set7_blk hz (.slice .none 0 0) (.slice .none 0 0) (.slice .none 0 0) (.slice .none 0 0) (.slice .none 0 0) (.slice .none 0 0) (.slice .none 0 0)
                have hbz := set7_below (b := w.heap.size + 2) hBw (by omega) (.slice .none 0 0) (.slice .none 0 0) (.slice .none 0 0) (.slice .none 0 0) (.slice .none 0 0) (.slice .none 0 0) (.slice .none 0 0)
                unfold set7 at KZ hbz
                obtain ⟨c0', c1', c2', c3', c4', c5', c6'⟩ := box_cells KZ
                refine bodyPost_ret (v := .tuple #[noneS.val, .int .i64 2]) (by simp [results, Try.results22, go_sem, noneS, St.val, c0', c1', c2', c3', c4', c5', c6']) rfl ?_
                exact ⟨noneS, by rw [HX.out]; rfl, noneS_at _, ⟨fun h => absurd h (by rw [HX.out]; decide), fun _ => ⟨rfl, rfl, rfl, rfl, rfl, rfl, rfl⟩⟩, hbz⟩
              · have HX : Hid (recvE p s b g n = 0) := HT0.out (by omega) (by rw [HLY.out]; omega)
                have d6 : decide (200 < ON + CM + n) = false := decide_eq_false h6
                have d7 : decide (1048576 < SI + n) = false := decide_eq_false h7
                go_wp2_with fail
                refine wp_region_quiet_below (by kernel_rfl) (by kernel_rfl) ?_
                repeat (go_big_quiet_step ((go_at_call 60; exact Calls.regrown_of (hco.out _ (HSA.out.1.below (below_regrown _ _ _))))))
                refine wpQuiet_nil ?_
                intro _ hw'
                obtain ⟨⟨dq, osq⟩, hw''⟩ := hw'
                subst hw''
                have hB := hB.trans ((below_regrown w4 dq osq).mono hB.size)
                clear r1 r2 r3 s0 s1 s2 s3 s4 s5 s6 hco HSA hBw hz l1 l2
                generalize grow (redrawn w4 dq) osq = w5 at *
                obtain ⟨⟨⟨l1, d0, d1⟩, l2, c0, c1, c2, c3, c4, c5, c6⟩, hpk, hsk, hBw, hz⟩ := HC.out w5 hB
                go_wp2_with fail
                refine (OwnState_any p s w5 hsk HF.out).mono ?_
                rintro e w6 ⟨o, rfl, hsame, hown, hB2⟩
                have hn1 : b < o.on.n := by rw [hsame.on.1]; exact hon
                obtain ⟨x1, x2⟩ := hsame.on.2 b hn1
                have hrn : (o.on.r b).n = p.ns := by rw [x1]; exact HF.out.sh.len b hon
                have hON : (o.on.r b).z g = ON := by rw [x2 g (by rw [hrn]; exact hg)]; exact HON.out
                have hin : o.si.n = p.ns := by rw [hsame.si.1]; exact HF.out.sin
                have hSI : o.si.z g = SI := by rw [hsame.si.2 g (by rw [hin]; exact hg)]; exact HSI.out
                have HIN : Hid (o.si.n = p.ns) := hin
                have HSM0 : Hid (SameT o s) := hsame
                have HSM : Hid (SameT (setIn (setOn o b g (ON + n)) g (SI + n)) (recvT s b g n)) := by
                  show SameT _ (recvT s b g n)
                  rw [HRT.out]
                  exact setIn_same (setOn_same hsame _ _ _) _ _
                obtain ⟨W7, hW7, hWB7, K7⟩ : ∃ W, w6.alloc (.cells #[.slice o.on.a o.on.n o.on.c, .slice o.os.a o.os.n o.os.c, .slice o.hs.a o.hs.n o.hs.c, .slice o.ms.a o.ms.n o.ms.c, .slice o.si.a o.si.n o.si.c, .slice o.so.a o.so.n o.so.c, .slice o.sf.a o.sf.n o.sf.c] 31) = W ∧ Below w6.heap.size w6 W ∧ Blk W w6.heap.size 31 7 (fun j => o.cells.getD j default) := ⟨_, rfl, (Below.refl _ _).alloc (Nat.le_refl _) _, Blk.mk' rfl rfl⟩
                have HW7 : Hid (w6.alloc (.cells #[.slice o.on.a o.on.n o.on.c, .slice o.os.a o.os.n o.os.c, .slice o.hs.a o.hs.n o.hs.c, .slice o.ms.a o.ms.n o.ms.c, .slice o.si.a o.si.n o.si.c, .slice o.so.a o.so.n o.so.c, .slice o.sf.a o.sf.n o.sf.c] 31) = W7) := hW7
                obtain ⟨B13, hB13⟩ : ∃ B, w6.heap.size = B := ⟨_, rfl⟩
                have q6 := hB.size
                have q7 := hB2.size
                have hge : W0.heap.size ≤ B13 := by omega
                rw [hB13] at K7
                have HB13 : Hid (w6.heap.size = B13) := hB13
                have hB7 := (hB.trans (hB2.mono hB.size)).trans (hWB7.mono (hB.trans (hB2.mono hB.size)).size)
                have hown7 := OwnS.below hown hWB7
                obtain ⟨gg, ga, gA, g1, g2, gk⟩ := hown7.on
                obtain ⟨Gb, ra, rA, r1', r2', rk⟩ := hown7.rows b hn1
                obtain ⟨Gi, ia, iA, i1', i2', ik⟩ := hown7.si
                have HOW : Hid (OwnS w5.heap.size W7 o ∧ o.on.a = some ⟨gg, 0, none⟩ ∧ (o.on.r b).a = some ⟨Gb, 0, none⟩ ∧ o.si.a = some ⟨Gi, 0, none⟩ ∧ w5.heap.size ≤ Gb ∧ w5.heap.size ≤ Gi ∧ Blk W7 B13 31 7 (fun j => o.cells.getD j default)) := ⟨hown7, ga, ra, ia, rA, iA, K7⟩
                obtain ⟨m7, p0, p1, p2, p3, p4, p5, p6⟩ := Boxed.of K7
                rw [ga] at p0
                rw [ia] at p4
                have y0 := gk.cell (j := b) hn1
                rw [ra, hrn] at y0
                have y1 := rk.cell (j := g) (by rw [hrn]; exact hg)
                rw [hON] at y1
                have y2 := ik.cell (j := g) (by rw [hin]; exact hg)
                rw [hSI] at y2
                have t0 : ∀ d os, (grow (redrawn W7 d) os).cell? ⟨B13, 0, none⟩ = some (.slice (some ⟨gg, 0, none⟩) o.on.n o.on.c) := fun d os => cell_regrown p0 d os
                have t1 : ∀ d os, (grow (redrawn W7 d) os).cell? ⟨gg, b, none⟩ = some (.slice (some ⟨Gb, 0, none⟩) p.ns (o.on.r b).c) := fun d os => cell_regrown y0 d os
                have t2 : ∀ d os, (grow (redrawn W7 d) os).cell? ⟨Gb, g, none⟩ = some (.int .i64 ON) := fun d os => cell_regrown y1 d os
                have v1 := g1
                have v2 := g2
                have v3 := r1'
                have v4 := r2'
                rw [hrn] at v3
                unfold maxLen at v2 v4
                unfold maxLen at i2'
                rw [hin] at i1'
                clear hown7 hown gk rk ik K7 hWB7 hW7 hB13 p0 p1 p2 p3 p4 p5 p6 y0 y1 y2 ga ra ia hpk hsk c0 c1 c2 c3 c4 c5 c6 x1 x2 hB2 hz hBw hON hSI hsame hrn hin
                simp only [St.val]
                go_wp2_with fail
                rw [HW7.out, HB13.out]
                clear HW7 HB13
                refine wp_region_made5 (fun w' => ∃ p : Regrown, w' = grow (redrawn W7 p.d) p.os) (List.range 17) [] [(true, 17)] (by kernel_rfl) (by kernel_rfl) (by kernel_rfl) (by kernel_rfl) (by kernel_rfl) (by kernel_rfl) (by kernel_rfl) (by kernel_rfl) (by kernel_rfl) (regrown_of_below ((Below.refl _ _).drew)) ?_
                rw [show List.range 17 = [0, 1, 2, 3, 4, 5, 6, 7, 8, 9, 10, 11, 12, 13, 14, 15, 16] from rfl]
                simp only [picks, List.drop_succ_cons, List.drop_zero, List.take_succ_cons, List.take_zero, List.cons_append, List.nil_append]
                repeat (go_big_quiet_step (fail))
                refine wpQuiet_nil ?_
                clear t0 t1 t2
                refine ⟨fun _ _ _ _ => True, List.forall_mem_nil _, List.forall_mem_nil _, List.forall_mem_nil _, fun V G wk hS _ _ => ?_⟩
                have hX := below_of_regrown hS
                obtain ⟨hO, hOa, hOb, hOi, hA1, hA2, hK⟩ := HOW.out
                have hO := OwnS.below hO hX
                have hK := hK.below hX
                obtain ⟨Gq, hGq, _, _, _, rk⟩ := hO.rows b hn1
                rw [hOb] at hGq
                simp only [Option.some.injEq, Addr.mk.injEq, and_true] at hGq
                subst hGq
                have zl := rk.lt
                have zf := rk.frozen g
                have HRN : Hid ((o.on.r b).n = p.ns) := (HSM0.out.on.2 b hn1).1.trans (HF.out.sh.len b hon)
                have zc := rk.cell (j := g) (by rw [HRN.out]; exact hg)
                have q8 := hX.size
                have hB8 := hB7.trans (hX.mono hB7.size)
                have q9 := hB.size
                have hst := hB8.setCell (p := ⟨Gb, g, none⟩) (by show W0.heap.size ≤ Gb; omega) (.int .i64 (ON + n))
                have hO2 := OwnS.setOn hO hn1 hOb g (ON + n)
                have hK2 := hK.other (a := ⟨Gb, g, none⟩) (Blk.ne2 hK rk (by decide)) (.int .i64 (ON + n))
                have HST : Hid (Below W0.heap.size W0 (wk.setCell ⟨Gb, g, none⟩ (.int .i64 (ON + n))) ∧ OwnS w5.heap.size (wk.setCell ⟨Gb, g, none⟩ (.int .i64 (ON + n))) (setOn o b g (ON + n)) ∧ Blk (wk.setCell ⟨Gb, g, none⟩ (.int .i64 (ON + n))) B13 31 7 (fun j => o.cells.getD j default)) := ⟨hst, hO2, hK2⟩
                clear hst hO2 hK2 hO hK rk hX hB8 hS
                simp only [putAll]
                refine wpSeq_one 17 rfl ?_
                go_wp2_with fail
                refine ⟨Late.yes, ?_⟩
                refine NoPanic.normal ?_
                generalize wk.setCell { block := Gb, off := g } (Value.int IntKind.i64 (ON + n)) = W9 at *
                clear zl zf zc
                obtain ⟨hB9, hO9, hK9⟩ := HST.out
                obtain ⟨Gq, hGq, _, _, _, ik⟩ := hO9.si
                rw [show (setOn o b g (ON + n)).si.a = some ⟨Gi, 0, none⟩ from hOi] at hGq
                simp only [Option.some.injEq, Addr.mk.injEq, and_true] at hGq
                subst hGq
                have y2 := ik.cell (j := g) (by show g < o.si.n; rw [HIN.out]; exact hg)
                have p4 := hK9.cell (j := 4) (by decide)
                have p4' : W9.cell? ⟨B13, 4, none⟩ = some (.slice o.si.a o.si.n o.si.c) := p4
                rw [hOi, HIN.out] at p4'
                have HSQ : Hid (o.si.z g = SI) := (HSM0.out.si.2 g (by rw [HIN.out]; exact hg)).trans HSI.out
                have y2' : W9.cell? ⟨Gi, g, none⟩ = some (.int .i64 (o.si.z g)) := y2
                rw [HSQ.out] at y2'
                have t0 : ∀ d os, (grow (redrawn W9 d) os).cell? ⟨B13, 4, none⟩ = some (.slice (some ⟨Gi, 0, none⟩) p.ns o.si.c) := fun d os => cell_regrown p4' d os
                have t1 : ∀ d os, (grow (redrawn W9 d) os).cell? ⟨Gi, g, none⟩ = some (.int .i64 SI) := fun d os => cell_regrown y2' d os
                clear hB9 hO9 hK9 ik y2 p4 p4' y2'
                go_wp2_with fail
                refine wp_region_made5 (fun w' => ∃ p : Regrown, w' = grow (redrawn W9 p.d) p.os) (List.range 11) [] [(true, 11)] (by kernel_rfl) (by kernel_rfl) (by kernel_rfl) (by kernel_rfl) (by kernel_rfl) (by kernel_rfl) (by kernel_rfl) (by kernel_rfl) (by kernel_rfl) (regrown_of_below ((Below.refl _ _).drew)) ?_
                rw [show List.range 11 = [0, 1, 2, 3, 4, 5, 6, 7, 8, 9, 10] from rfl]
                simp only [picks, List.drop_succ_cons, List.drop_zero, List.take_succ_cons, List.take_zero, List.cons_append, List.nil_append]
                repeat (go_big_quiet_step (fail))
                refine wpQuiet_nil ?_
                clear t0 t1
                refine ⟨fun _ _ _ _ => True, List.forall_mem_nil _, List.forall_mem_nil _, List.forall_mem_nil _, fun V G wk2 hS _ _ => ?_⟩
                have hX := below_of_regrown hS
                obtain ⟨hB9, hO9, hK9⟩ := HST.out
                have hO := OwnS.below hO9 hX
                have hK := hK9.below hX
                have hB10 := hB9.trans (hX.mono hB9.size)
                obtain ⟨Gq, hGq, _, _, _, ik⟩ := hO.si
                rw [show (setOn o b g (ON + n)).si.a = some ⟨Gi, 0, none⟩ from hOi] at hGq
                simp only [Option.some.injEq, Addr.mk.injEq, and_true] at hGq
                subst hGq
                have zl := ik.lt
                have zf := ik.frozen g
                have zc := ik.cell (j := g) (by show g < o.si.n; rw [HIN.out]; exact hg)
                have hst := hB10.setCell (p := ⟨Gi, g, none⟩) (by show W0.heap.size ≤ Gi; omega) (.int .i64 (SI + n))
                have hO2 := OwnS.setIn hO (show (setOn o b g (ON + n)).si.a = some ⟨Gi, 0, none⟩ from hOi) g (SI + n)
                have hK2 := hK.other (a := ⟨Gi, g, none⟩) (Blk.ne2 hK ik (by decide)) (.int .i64 (SI + n))
                have HS2 : Hid (Below W0.heap.size W0 (wk2.setCell ⟨Gi, g, none⟩ (.int .i64 (SI + n))) ∧ OwnS w5.heap.size (wk2.setCell ⟨Gi, g, none⟩ (.int .i64 (SI + n))) (setIn (setOn o b g (ON + n)) g (SI + n)) ∧ Blk (wk2.setCell ⟨Gi, g, none⟩ (.int .i64 (SI + n))) B13 31 7 (fun j => o.cells.getD j default)) := ⟨hst, hO2, hK2⟩
                clear hst hO2 hK2 hO hK ik hX hB10 hS hB9 hO9 hK9 HST
                simp only [putAll]
                refine wpSeq_one 11 rfl ?_
                go_wp2_with fail
                refine ⟨Late.yes, ?_⟩
                refine NoPanic.normal ?_
                generalize wk2.setCell { block := Gi, off := g } (Value.int IntKind.i64 (SI + n)) = W10 at *
                clear zl zf zc
                obtain ⟨hBt, hOt, hKt⟩ := HS2.out
                obtain ⟨_, _, _, hBw, hz⟩ := HC.out W10 hBt
                obtain ⟨m8, p0, p1, p2, p3, p4, p5, p6⟩ := Boxed.of hKt
                have zl := hz.lt
                have zf0 := hz.frozen 0
                have zc0 := hz.cell (j := 0) (by decide)
                have zf1 := hz.frozen 1
                have zc1 := hz.cell (j := 1) (by decide)
                have zf2 := hz.frozen 2
                have zc2 := hz.cell (j := 2) (by decide)
                have zf3 := hz.frozen 3
                have zc3 := hz.cell (j := 3) (by decide)
                have zf4 := hz.frozen 4
                have zc4 := hz.cell (j := 4) (by decide)
                have zf5 := hz.frozen 5
                have zc5 := hz.cell (j := 5) (by decide)
                have zf6 := hz.frozen 6
                have zc6 := hz.cell (j := 6) (by decide)
                clear hBt hOt hKt hBw hz hOa hOb hOi hO hK
                go_wp2_with fail
                obtain ⟨hBt, hOt, hKt⟩ := HS2.out
                obtain ⟨_, _, _, hBw, hz⟩ := HC.out W10 hBt
                have KZ := set7_blk hz (.slice o.on.a o.on.n o.on.c) (.slice o.os.a o.os.n o.os.c) (.slice o.hs.a o.hs.n o.hs.c) (.slice o.ms.a o.ms.n o.ms.c) (.slice o.si.a o.si.n o.si.c) (.slice o.so.a o.so.n o.so.c) (.slice o.sf.a o.sf.n o.sf.c)
                have hbz := set7_below (b := w.heap.size + 2) hBw (by omega) (.slice o.on.a o.on.n o.on.c) (.slice o.os.a o.os.n o.os.c) (.slice o.hs.a o.hs.n o.hs.c) (.slice o.ms.a o.ms.n o.ms.c) (.slice o.si.a o.si.n o.si.c) (.slice o.so.a o.so.n o.so.c) (.slice o.sf.a o.sf.n o.sf.c)
                have hOz := OwnS.set7 hOt hz (.slice o.on.a o.on.n o.on.c) (.slice o.os.a o.os.n o.os.c) (.slice o.hs.a o.hs.n o.hs.c) (.slice o.ms.a o.ms.n o.ms.c) (.slice o.si.a o.si.n o.si.c) (.slice o.so.a o.so.n o.so.c) (.slice o.sf.a o.sf.n o.sf.c)
                unfold set7 at KZ hbz hOz
                obtain ⟨c0', c1', c2', c3', c4', c5', c6'⟩ := box_cells KZ
                refine bodyPost_ret (v := .tuple #[(setIn (setOn o b g (ON + n)) g (SI + n)).val, .int .i64 0]) (by simp [results, Try.results22, go_sem, setIn, setOn, setRw, St.val, c0', c1', c2', c3', c4', c5', c6']) rfl ?_
                exact ⟨setIn (setOn o b g (ON + n)) g (SI + n), by rw [HX.out]; rfl, hOz.at, ⟨fun _ => HSM.out, fun h => absurd HX.out h⟩, hbz⟩
  · have HX : Hid (recvE p s bin good n = stateE p s) := recvE_state h0
    clear hpk hsk c0 c1 c2 c3 c4 c5 c6
    have zl := hz.lt
    have zf0 := hz.frozen 0
    have zc0 := hz.cell (j := 0) (by decide)
    have zf1 := hz.frozen 1
    have zc1 := hz.cell (j := 1) (by decide)
    have zf2 := hz.frozen 2
    have zc2 := hz.cell (j := 2) (by decide)
    have zf3 := hz.frozen 3
    have zc3 := hz.cell (j := 3) (by decide)
    have zf4 := hz.frozen 4
    have zc4 := hz.cell (j := 4) (by decide)
    have zf5 := hz.frozen 5
    have zc5 := hz.cell (j := 5) (by decide)
    have zf6 := hz.frozen 6
    have zc6 := hz.cell (j := 6) (by decide)
    go_wp2_with fail
    have KZ := set7_blk hz (.slice .none 0 0) (.slice .none 0 0) (.slice .none 0 0) (.slice .none 0 0) (.slice .none 0 0) (.slice .none 0 0) (.slice .none 0 0)
    have hbz := set7_below (b := w.heap.size + 2) hBw (by omega) (.slice .none 0 0) (.slice .none 0 0) (.slice .none 0 0) (.slice .none 0 0) (.slice .none 0 0) (.slice .none 0 0) (.slice .none 0 0)
    unfold set7 at KZ hbz
    obtain ⟨c0', c1', c2', c3', c4', c5', c6'⟩ := box_cells KZ
    refine bodyPost_ret (v := .tuple #[noneS.val, .int .i64 (stateE p s)]) (by simp [results, Try.results22, go_sem, noneS, St.val, c0', c1', c2', c3', c4', c5', c6']) rfl ?_
    exact ⟨noneS, by rw [HX.out]; rfl, noneS_at _, ⟨fun h => absurd h (by rw [HX.out]; exact h0), fun _ => ⟨rfl, rfl, rfl, rfl, rfl, rfl, rfl⟩⟩, hbz⟩

end Go.Proofs.Ytjiodlbblmbibac

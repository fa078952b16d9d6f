/- What the code receives: recv.Receive. -/
import Derived.Test.YtjiodlbblmbibacRV2
import Derived.Test.YtjiodlbblmbibacRPJ
namespace Go.Proofs.Ytjiodlbblmbibac
open Go.RowKit Go.Shelf Go.Sort
set_option linter.unusedVariables false

theorem OwnS.swap {A B : Nat} {w0 w : World} {o : St} {r : Sh} (h : OwnS A w0 o) (hB : Below w0.heap.size w0 w) (hR : OwnR B w r) (hw : w0.heap.size ≤ B) (hA : A ≤ B) : OwnS A w ⟨r, o.os, o.hs, o.ms, o.si, o.so, o.sf⟩ := by
  have k := OwnS.below h hB
  obtain ⟨G1, a1, -, -, -, k1⟩ := h.si
  obtain ⟨G2, a2, -, -, -, k2⟩ := h.so
  obtain ⟨G3, a3, -, -, -, k3⟩ := h.sf
  have l1 := k1.lt
  have l2 := k2.lt
  have l3 := k3.lt
  refine ⟨?_, fun i hi => ?_, hR.rapart, k.os, k.hs, k.ms, k.msr, k.si, k.so, k.sf, k.aio, k.aif, k.aof, fun i hi => ?_⟩
  · obtain ⟨g, h1, h2, h3⟩ := hR.on
    exact ⟨g, h1, by omega, h3⟩
  · obtain ⟨g, h1, h2, h3⟩ := hR.rows i hi
    exact ⟨g, h1, by omega, h3⟩
  · obtain ⟨g, h1, h2, h3⟩ := hR.rows i hi
    show (r.r i).a ≠ o.si.a ∧ (r.r i).a ≠ o.so.a ∧ (r.r i).a ≠ o.sf.a
    rw [h1, a1, a2, a3]
    simp only [ne_eq, Option.some.injEq, Addr.mk.injEq, and_true]
    omega

set_option maxRecDepth 100000 in
set_option maxHeartbeats 8000000 in
theorem Receive_any (p : Pl) (s : St) (bin good n : Int) (w : World) (hp : p.At w) (hs : s.At w) :
    Calls Try.prog 21 #[p.val, s.val, .int .i64 bin, .int .i64 good, .int .i64 n] w fun e w' => ∃ s' : St, e = .returned (.tuple #[s'.val, .int .i64 (recvE p s bin good n)]) ∧ s'.At w' ∧ ActOK (recvE p s bin good n) (recvT s bin.toNat good.toNat n) s' ∧ Below w.heap.size w w' := by
  obtain ⟨W0, hW, hWB, X0, Z0⟩ : ∃ W, (((w.alloc (.cells #[.slice p.ab p.nb p.cb, .slice p.sa p.ns p.cs] 25)).alloc (.cells s.cells 31)).alloc (.cells #[.slice .none 0 0, .slice .none 0 0, .slice .none 0 0, .slice .none 0 0, .slice .none 0 0, .slice .none 0 0, .slice .none 0 0] 31)) = W ∧ Below w.heap.size w W ∧ Boxes W w.heap.size (w.heap.size + 1) p s ∧ Blk W (w.heap.size + 2) 31 7 (fun _ => .slice .none 0 0) :=
    ⟨_, rfl, (two_below _ _ _).alloc (by simp; omega) _, (boxes_new w p s _ _).below ((Below.refl _ _).alloc (Nat.le_refl _) _), (Blk.mk' (cur := #[.slice .none 0 0, .slice .none 0 0, .slice .none 0 0, .slice .none 0 0, .slice .none 0 0, .slice .none 0 0, .slice .none 0 0]) (by simp) rfl).congr (fun j hj => by match j, hj with | 0, _ => rfl | 1, _ => rfl | 2, _ => rfl | 3, _ => rfl | 4, _ => rfl | 5, _ => rfl | 6, _ => rfl)⟩
  have HC : Hid (∀ wk, Below W0.heap.size W0 wk → Boxes wk w.heap.size (w.heap.size + 1) p s ∧ p.At wk ∧ s.At wk ∧ Below w.heap.size w wk ∧ Blk wk (w.heap.size + 2) 31 7 (fun _ => .slice .none 0 0)) := fun wk h => ⟨X0.below h, (hp.below hWB).below h, (hs.below hWB).below h, hWB.trans (h.mono hWB.size), Z0.below h⟩
  have HW : Hid (((w.alloc (.cells #[.slice p.ab p.nb p.cb, .slice p.sa p.ns p.cs] 25)).alloc (.cells #[.slice s.on.a s.on.n s.on.c, .slice s.os.a s.os.n s.os.c, .slice s.hs.a s.hs.n s.hs.c, .slice s.ms.a s.ms.n s.ms.c, .slice s.si.a s.si.n s.si.c, .slice s.so.a s.so.n s.so.c, .slice s.sf.a s.sf.n s.sf.c] 31)).alloc (.cells #[.slice .none 0 0, .slice .none 0 0, .slice .none 0 0, .slice .none 0 0, .slice .none 0 0, .slice .none 0 0, .slice .none 0 0] 31) = W0) := hW
  have leb := hp.leb
  have capb0 := hp.capb
  have les := hp.les
  have caps0 := hp.caps
  have capb := capb0
  have caps := caps0
  have zlt0 := Z0.lt
  unfold maxLen at capb caps
  clear hW X0 Z0 hp hs
  unfold Pl.val St.val
  go_enter Try.func21, Try.ntmps21
  go_wp2_with fail
  rw [HW.out]
  obtain ⟨X, hpk, hsk, hBw, hz⟩ := HC.out W0 (Below.refl _ _)
  refine (stateCheck_any p s W0 hpk hsk).mono ?_
  rintro e w1 ⟨rfl, hB⟩
  clear X hpk hsk hBw hz HW
  obtain ⟨⟨⟨l1, d0, d1⟩, l2, c0, c1, c2, c3, c4, c5, c6⟩, hpk, hsk, hBw, hz⟩ := HC.out w1 hB
  have hnb : p.nb ≤ maxLen := Nat.le_trans leb capb0
  have hns : p.ns ≤ maxLen := Nat.le_trans les caps0
  by_cases h0 : stateE p s = 0
  · have H0 : Hid (stateE p s = 0) := h0
    have HF : Hid (Formed p s) := (rightT h0).fm
    rw [h0]
    clear h0
    cases k1 : inB bin 0 ((p.nb : Int) - 1)
    · have HX : Hid (recvE p s bin good n = 3) := recvE_range H0.out (by rw [k1]; rfl)
      clear c0 c1 c2 c3 c4 c5 c6 hpk hsk
      have zl := hz.lt
      have zf0 := hz.frozen 0
      have zc0 := hz.cell (j := 0) (by decide)
      have zf1 := hz.frozen 1
      have zc1 := hz.cell (j := 1) (by decide)
      have zf2 := hz.frozen 2
      have zc2 := hz.cell (j := 2) (by decide)
      have zf3 := hz.frozen 3
      have zc3 := hz.cell (j := 3) (by decide)
      have zf4 := hz.frozen 4
      have zc4 := hz.cell (j := 4) (by decide)
      have zf5 := hz.frozen 5
      have zc5 := hz.cell (j := 5) (by decide)
      have zf6 := hz.frozen 6
      have zc6 := hz.cell (j := 6) (by decide)
      go_wp2_with (first | (go_at_call_of 30 (Value.int .i64 bin); refine calls_to (Has_any _ _ _ hnb) ?_) | (go_at_call_of 30 (Value.int .i64 good); refine calls_to (Has_any _ _ _ hns) ?_) | (go_at_call 55; refine calls_to (Within_any _ _ _ _) ?_))
      have KZ := set7_blk hz (.slice .none 0 0) (.slice .none 0 0) (.slice .none 0 0) (.slice .none 0 0) (.slice .none 0 0) (.slice .none 0 0) (.slice .none 0 0)
      have hbz := set7_below (b := w.heap.size + 2) hBw (by omega) (.slice .none 0 0) (.slice .none 0 0) (.slice .none 0 0) (.slice .none 0 0) (.slice .none 0 0) (.slice .none 0 0) (.slice .none 0 0)
      unfold set7 at KZ hbz
      obtain ⟨c0', c1', c2', c3', c4', c5', c6'⟩ := box_cells KZ
      refine bodyPost_ret (v := .tuple #[noneS.val, .int .i64 3]) (by simp [results, Try.results21, go_sem, noneS, St.val, c0', c1', c2', c3', c4', c5', c6']) rfl ?_
      exact ⟨noneS, by rw [HX.out]; rfl, noneS_at _, ⟨fun h => absurd h (by rw [HX.out]; decide), fun _ => ⟨rfl, rfl, rfl, rfl, rfl, rfl, rfl⟩⟩, hbz⟩
    cases k2 : inB good 0 ((p.ns : Int) - 1)
    · have HX : Hid (recvE p s bin good n = 3) := recvE_range H0.out (by rw [k1, k2]; rfl)
      clear c0 c1 c2 c3 c4 c5 c6 hpk hsk
      have zl := hz.lt
      have zf0 := hz.frozen 0
      have zc0 := hz.cell (j := 0) (by decide)
      have zf1 := hz.frozen 1
      have zc1 := hz.cell (j := 1) (by decide)
      have zf2 := hz.frozen 2
      have zc2 := hz.cell (j := 2) (by decide)
      have zf3 := hz.frozen 3
      have zc3 := hz.cell (j := 3) (by decide)
      have zf4 := hz.frozen 4
      have zc4 := hz.cell (j := 4) (by decide)
      have zf5 := hz.frozen 5
      have zc5 := hz.cell (j := 5) (by decide)
      have zf6 := hz.frozen 6
      have zc6 := hz.cell (j := 6) (by decide)
      go_wp2_with (first | (go_at_call_of 30 (Value.int .i64 bin); refine calls_to (Has_any _ _ _ hnb) ?_) | (go_at_call_of 30 (Value.int .i64 good); refine calls_to (Has_any _ _ _ hns) ?_) | (go_at_call 55; refine calls_to (Within_any _ _ _ _) ?_))
      have KZ := set7_blk hz (.slice .none 0 0) (.slice .none 0 0) (.slice .none 0 0) (.slice .none 0 0) (.slice .none 0 0) (.slice .none 0 0) (.slice .none 0 0)
      have hbz := set7_below (b := w.heap.size + 2) hBw (by omega) (.slice .none 0 0) (.slice .none 0 0) (.slice .none 0 0) (.slice .none 0 0) (.slice .none 0 0) (.slice .none 0 0) (.slice .none 0 0)
      unfold set7 at KZ hbz
      obtain ⟨c0', c1', c2', c3', c4', c5', c6'⟩ := box_cells KZ
      refine bodyPost_ret (v := .tuple #[noneS.val, .int .i64 3]) (by simp [results, Try.results21, go_sem, noneS, St.val, c0', c1', c2', c3', c4', c5', c6']) rfl ?_
      exact ⟨noneS, by rw [HX.out]; rfl, noneS_at _, ⟨fun h => absurd h (by rw [HX.out]; decide), fun _ => ⟨rfl, rfl, rfl, rfl, rfl, rfl, rfl⟩⟩, hbz⟩
    cases k3 : inB n 1 200
    · have HX : Hid (recvE p s bin good n = 3) := recvE_range H0.out (by rw [k1, k2, k3]; rfl)
      clear c0 c1 c2 c3 c4 c5 c6 hpk hsk
      have zl := hz.lt
      have zf0 := hz.frozen 0
      have zc0 := hz.cell (j := 0) (by decide)
      have zf1 := hz.frozen 1
      have zc1 := hz.cell (j := 1) (by decide)
      have zf2 := hz.frozen 2
      have zc2 := hz.cell (j := 2) (by decide)
      have zf3 := hz.frozen 3
      have zc3 := hz.cell (j := 3) (by decide)
      have zf4 := hz.frozen 4
      have zc4 := hz.cell (j := 4) (by decide)
      have zf5 := hz.frozen 5
      have zc5 := hz.cell (j := 5) (by decide)
      have zf6 := hz.frozen 6
      have zc6 := hz.cell (j := 6) (by decide)
      go_wp2_with (first | (go_at_call_of 30 (Value.int .i64 bin); refine calls_to (Has_any _ _ _ hnb) ?_) | (go_at_call_of 30 (Value.int .i64 good); refine calls_to (Has_any _ _ _ hns) ?_) | (go_at_call 55; refine calls_to (Within_any _ _ _ _) ?_))
      have KZ := set7_blk hz (.slice .none 0 0) (.slice .none 0 0) (.slice .none 0 0) (.slice .none 0 0) (.slice .none 0 0) (.slice .none 0 0) (.slice .none 0 0)
      have hbz := set7_below (b := w.heap.size + 2) hBw (by omega) (.slice .none 0 0) (.slice .none 0 0) (.slice .none 0 0) (.slice .none 0 0) (.slice .none 0 0) (.slice .none 0 0) (.slice .none 0 0)
      unfold set7 at KZ hbz
      obtain ⟨c0', c1', c2', c3', c4', c5', c6'⟩ := box_cells KZ
      refine bodyPost_ret (v := .tuple #[noneS.val, .int .i64 3]) (by simp [results, Try.results21, go_sem, noneS, St.val, c0', c1', c2', c3', c4', c5', c6']) rfl ?_
      exact ⟨noneS, by rw [HX.out]; rfl, noneS_at _, ⟨fun h => absurd h (by rw [HX.out]; decide), fun _ => ⟨rfl, rfl, rfl, rfl, rfl, rfl, rfl⟩⟩, hbz⟩
    obtain ⟨b, rfl⟩ := Int.eq_ofNat_of_zero_le (inB_true k1).1
    obtain ⟨g, rfl⟩ := Int.eq_ofNat_of_zero_le (inB_true k2).1
    have hb : b < p.nb := by have := (inB_true k1).2; omega
    have hg : g < p.ns := by have := (inB_true k2).2; omega
    have hn := inB_true k3
    have K3 : Hid (inB n 1 200 = true) := k3
    have pz := HF.out.sh.pl.sizes g hg
    have fb := freeZ_bd HF.out hb
    have mb := mul_bd (a := n) (b := p.zs g) ⟨by omega, hn.2⟩ pz
    have qb : (0 : Int) ≤ (b : Int) := by omega
    have qg : (0 : Int) ≤ (g : Int) := by omega
    have HPS : Hid (p.At w1 ∧ s.At w1) := ⟨hpk, hsk⟩
    clear hpk hsk
    go_wp2_with (first | (go_at_call_of 30 (Value.int .i64 (b : Int)); refine calls_to (Has_any _ _ _ hnb) ?_) | (go_at_call_of 30 (Value.int .i64 (g : Int)); refine calls_to (Has_any _ _ _ hns) ?_) | (go_at_call 55; refine calls_to (Within_any _ _ _ _) ?_))
    refine (Free_any p s b w1 HPS.out.1 HPS.out.2).mono ?_
    rintro e w2 ⟨rfl, hB2⟩
    have hB := hB.trans (hB2.mono hB.size)
    clear l1 d0 d1 l2 c0 c1 c2 c3 c4 c5 c6 hBw hz hB2 HPS
    obtain ⟨⟨⟨l1, d0, d1⟩, l2, c0, c1, c2, c3, c4, c5, c6⟩, hpk, hsk, hBw, hz⟩ := HC.out w2 hB
    obtain ⟨bz, oz, hsa, hbz, y0⟩ := hpk.sizes g hg
    have HSA : Hid (p.sa = some ⟨bz, oz, none⟩ ∧ p.At w2 ∧ s.At w2) := ⟨hsa, hpk, hsk⟩
    rw [hsa] at d1
    have HFV : Hid (freeV p s b = freeZ p s b ∧ freeE p s b = 0) := by
      have hu : usedE p s.on b = 0 := by unfold usedE; rw [HF.out.sh0]; simp only [beq_self_eq_true, if_true]; rw [inB_mk (by have := HF.out.sh.n; omega)]; rfl
      have e : freeE p s b = 0 := by unfold freeE; rw [if_pos H0.out, hu]
      exact ⟨by unfold freeV; rw [e, if_pos rfl]; rfl, e⟩
    rw [HFV.out.1, HFV.out.2]
    have HT5 : Hid (freeZ p s b < n * p.zs g → recvE p s b g n = 5) := fun h => recvE_full H0.out hb hg K3.out h
    have HT2 : Hid (¬ freeZ p s b < n * p.zs g → (200 < lyingZ s b g + n ∨ 1048576 < s.si.z g + n) → recvE p s b g n = 2) := fun h h2 => recvE_many H0.out hb hg K3.out h h2
    have HT0 : Hid (¬ freeZ p s b < n * p.zs g → ¬ (200 < lyingZ s b g + n ∨ 1048576 < s.si.z g + n) → recvE p s b g n = 0) := fun h h2 => recvE_ok H0.out hb hg K3.out h h2
    clear HFV k1 k2 hsa hpk hsk
    generalize freeZ p s b = FR at *
    generalize p.zs g = PZ at *
    by_cases h5 : FR < n * PZ
    · have HX : Hid (recvE p s b g n = 5) := HT5.out h5
      clear c0 c1 c2 c3 c4 c5 c6
      have zl := hz.lt
      have zf0 := hz.frozen 0
      have zc0 := hz.cell (j := 0) (by decide)
      have zf1 := hz.frozen 1
      have zc1 := hz.cell (j := 1) (by decide)
      have zf2 := hz.frozen 2
      have zc2 := hz.cell (j := 2) (by decide)
      have zf3 := hz.frozen 3
      have zc3 := hz.cell (j := 3) (by decide)
      have zf4 := hz.frozen 4
      have zc4 := hz.cell (j := 4) (by decide)
      have zf5 := hz.frozen 5
      have zc5 := hz.cell (j := 5) (by decide)
      have zf6 := hz.frozen 6
      have zc6 := hz.cell (j := 6) (by decide)
      go_wp2_with fail
      have KZ := set7_blk hz (.slice .none 0 0) (.slice .none 0 0) (.slice .none 0 0) (.slice .none 0 0) (.slice .none 0 0) (.slice .none 0 0) (.slice .none 0 0)
      have hbz := set7_below (b := w.heap.size + 2) hBw (by omega) (.slice .none 0 0) (.slice .none 0 0) (.slice .none 0 0) (.slice .none 0 0) (.slice .none 0 0) (.slice .none 0 0) (.slice .none 0 0)
      unfold set7 at KZ hbz
      obtain ⟨c0', c1', c2', c3', c4', c5', c6'⟩ := box_cells KZ
      refine bodyPost_ret (v := .tuple #[noneS.val, .int .i64 5]) (by simp [results, Try.results21, go_sem, noneS, St.val, c0', c1', c2', c3', c4', c5', c6']) rfl ?_
      exact ⟨noneS, by rw [HX.out]; rfl, noneS_at _, ⟨fun h => absurd h (by rw [HX.out]; decide), fun _ => ⟨rfl, rfl, rfl, rfl, rfl, rfl, rfl⟩⟩, hbz⟩
    · have d5 : decide (FR < n * PZ) = false := by simp; omega
      have hz0 := hz.lt
      clear hz
      go_wp2_with fail
      refine (Lying_any p s b g w2 HSA.out.2.2 HF.out hb hg).mono ?_
      rintro e w3 ⟨rfl, hB2⟩
      have hB := hB.trans (hB2.mono hB.size)
      clear l1 d0 d1 l2 c0 c1 c2 c3 c4 c5 c6 hBw hB2 HSA y0 hz0 hbz d5
      obtain ⟨⟨⟨l1, d0, d1⟩, l2, c0, c1, c2, c3, c4, c5, c6⟩, hpk, hsk, hBw, hz⟩ := HC.out w3 hB
      obtain ⟨bi, oi, hia, hbi, y2⟩ := hsk.si.ints g (by rw [HF.out.sin]; exact hg)
      have v5 := hsk.si.le
      have v6 := hsk.si.cap
      unfold maxLen at v6
      have u3 := HF.out.sib g hg
      have si1 : g < s.si.n := by rw [HF.out.sin]; exact hg
      have ly : 0 ≤ lyingZ s b g ∧ lyingZ s b g ≤ 1800 := by
        have hon : b < s.on.n := by rw [HF.out.sh.n]; exact hb
        have u1 := HF.out.sh.num b hon g hg
        have u2 := comingTo_bd (s := s) (b := b) (g := g) HF.out.moveN
        have ms8 := HF.out.ms8
        unfold lyingZ
        omega
      have HSA : Hid (p.At w3 ∧ s.At w3 ∧ s.si.a = some ⟨bi, oi, none⟩) := ⟨hpk, hsk, hia⟩
      have HT2' := HT2.out h5
      have HT0' := HT0.out h5
      have HRE : Hid (recvT s b g n = setIn (setOn s b g ((s.on.r b).z g + n)) g (s.si.z g + n)) := rfl
      clear HT2 HT0
      have HLY : Hid (lyingZ s b g = (s.on.r b).z g + comingTo s b g s.ms.n) := rfl
      clear hpk hsk
      generalize lyingZ s b g = LY at *
      generalize hSI : s.si.z g = SI at *
      have HSI : Hid (s.si.z g = SI) := hSI
      clear hSI
      rw [hia] at c4
      clear hia
      cases d6 : decide (200 - LY < n)
      · cases d7 : decide (1048576 - SI < n)
        · have HX : Hid (recvE p s b g n = 0) := HT0' (by simp at d6 d7; omega)
          have hput : putE p s.on b g n = 0 := by
            have hon : b < s.on.n := by rw [HF.out.sh.n]; exact hb
            have hu : shelfErr p s.on b g = 0 := by rw [shelfErr_eq HF.out.sh0, inB_mk (by omega), inB_mk (by omega)]; rfl
            have u1 := HF.out.sh.num b hon g hg
            have u2 := (comingTo_bd (s := s) (b := b) (g := g) HF.out.moveN).1
            have ee := HLY.out
            have hi : inB n (-((s.on.r b).z g)) (200 - (s.on.r b).z g) = true := inB_mk (by simp at d6; omega)
            simp [putE, hu, hi]
          have HPUT : Hid (putE p s.on b g n = 0) := hput
          have hz0 := hz.lt
          have hcs := copyState_any p s w3 HSA.out.2.1 HF.out
          rw [St.val, HSA.out.2.2] at hcs
          have HCS : Hid _ := hcs
          clear HT2' HT0' hput hcs hz
          go_wp2_with fail
          refine Calls.mono HCS.out ?_
          rintro e w4 ⟨o, rfl, hsame, hown, hB2⟩
          clear HCS
          have hB4 := hB.trans (hB2.mono hB.size)
          have q3 := hB.size
          have q4 := hB2.size
          have HIN : Hid (o.si.n = p.ns) := hsame.si.1.trans HF.out.sin
          have HSQ : Hid (o.si.z g = SI) := (hsame.si.2 g (by rw [HIN.out]; exact hg)).trans HSI.out
          obtain ⟨W5, hW5, hWB5, K5⟩ : ∃ W, w4.alloc (.cells #[.slice o.on.a o.on.n o.on.c, .slice o.os.a o.os.n o.os.c, .slice o.hs.a o.hs.n o.hs.c, .slice o.ms.a o.ms.n o.ms.c, .slice o.si.a o.si.n o.si.c, .slice o.so.a o.so.n o.so.c, .slice o.sf.a o.sf.n o.sf.c] 31) = W ∧ Below w4.heap.size w4 W ∧ Blk W w4.heap.size 31 7 (fun j => o.cells.getD j default) := ⟨_, rfl, (Below.refl _ _).alloc (Nat.le_refl _) _, Blk.mk' rfl rfl⟩
          have HW5 : Hid (w4.alloc (.cells #[.slice o.on.a o.on.n o.on.c, .slice o.os.a o.os.n o.os.c, .slice o.hs.a o.hs.n o.hs.c, .slice o.ms.a o.ms.n o.ms.c, .slice o.si.a o.si.n o.si.c, .slice o.so.a o.so.n o.so.c, .slice o.sf.a o.sf.n o.sf.c] 31) = W5) := hW5
          have hB5 := hB4.trans (hWB5.mono hB4.size)
          have hown5 := OwnS.below hown hWB5
          clear l1 d0 d1 l2 c0 c1 c2 c3 c4 c5 c6 hBw HSA hz0 hbi y2
          obtain ⟨⟨⟨l1, d0, d1⟩, l2, c0, -⟩, hpk, hsk, hBw, -⟩ := HC.out W5 hB5
          have HAT : Hid (p.At W5 ∧ s.At W5) := ⟨hpk, hsk⟩
          have HOW : Hid (OwnS w3.heap.size W5 o ∧ Blk W5 w4.heap.size 31 7 (fun j => o.cells.getD j default) ∧ SameT o s) := ⟨hown5, K5, hsame⟩
          have l1e := l1
          have l2e := l2
          have d0e := d0
          have d1e := d1
          have c0e := c0
          rw [← HW5.out] at l1e l2e d0e d1e c0e
          clear hown hown5 K5 hsame hpk hsk hBw l1 l2 d0 d1 c0 hW5
          simp only [St.val]
          go_wp2_with fail
          rw [HW5.out]
          clear l1e l2e d0e d1e c0e HW5
          refine (PutOwn_any p s.on b g n W5 HAT.out.1 HAT.out.2.on HPUT.out).mono ?_
          rintro e w6 ⟨r, rfl, hR, hrn, hrz, hB6⟩
          obtain ⟨hO5, K5, hsame⟩ := HOW.out
          have q5 := hWB5.size
          have q6 := hB6.size
          have hB6' := hB5.trans (hB6.mono hB5.size)
          have hOa := OwnS.swap hO5 hB6 hR (Nat.le_refl _) (by omega)
          have K6 := K5.below hB6
          obtain ⟨Gi, hia, iA, i1, i2, ik⟩ := hOa.si
          have hOb := hOa.box K6 0 (.slice r.a r.n r.c)
          have K7 := K6.set 0 (.slice r.a r.n r.c)
          have hB7 := hB6'.setCell (p := ⟨w4.heap.size, 0, none⟩) (by show W0.heap.size ≤ w4.heap.size; omega) (.slice r.a r.n r.c)
          obtain ⟨Gi', hia', -, -, -, jk⟩ := hOb.si
          rw [show (⟨r, o.os, o.hs, o.ms, o.si, o.so, o.sf⟩ : St).si = o.si from rfl] at hia hia' jk i1 i2
          rw [hia] at hia'
          simp only [Option.some.injEq, Addr.mk.injEq, and_true] at hia'
          subst hia'
          have hOc := hOb.setIn (show (⟨r, o.os, o.hs, o.ms, o.si, o.so, o.sf⟩ : St).si.a = some ⟨Gi, 0, none⟩ from hia) g (SI + n)
          have K8 := K7.other (a := ⟨Gi, g, none⟩) (Blk.ne2 K7 jk (by decide)) (.int .i64 (SI + n))
          have hB8 := hB7.setCell (p := ⟨Gi, g, none⟩) (by show W0.heap.size ≤ Gi; omega) (.int .i64 (SI + n))
          have HEND : Hid (Below W0.heap.size W0 ((w6.setCell ⟨w4.heap.size, 0, none⟩ (.slice r.a r.n r.c)).setCell ⟨Gi, g, none⟩ (.int .i64 (SI + n))) ∧ OwnS w3.heap.size ((w6.setCell ⟨w4.heap.size, 0, none⟩ (.slice r.a r.n r.c)).setCell ⟨Gi, g, none⟩ (.int .i64 (SI + n))) (setIn ⟨r, o.os, o.hs, o.ms, o.si, o.so, o.sf⟩ g (SI + n)) ∧ Blk ((w6.setCell ⟨w4.heap.size, 0, none⟩ (.slice r.a r.n r.c)).setCell ⟨Gi, g, none⟩ (.int .i64 (SI + n))) w4.heap.size 31 7 (fun i => if i = 0 then .slice r.a r.n r.c else o.cells.getD i default)) := ⟨hB8, hOc, K8⟩
          have HSM : Hid (SameT (setIn ⟨r, o.os, o.hs, o.ms, o.si, o.so, o.sf⟩ g (SI + n)) (recvT s b g n)) := by
            show SameT _ (recvT s b g n)
            rw [HRE.out]
            refine setIn_same (s := ⟨r, o.os, o.hs, o.ms, o.si, o.so, o.sf⟩) (t := setOn s b g ((s.on.r b).z g + n)) ⟨⟨hrn, fun i hi => ?_⟩, hsame.os, hsame.hs, hsame.ms, hsame.si, hsame.so, hsame.sf⟩ _ _
            have hi' : i < s.on.n := by rw [← hrn]; exact hi
            have y := hrz i hi'
            show (r.r i).n = (if i = b then setRw (s.on.r i) g ((s.on.r b).z g + n) else s.on.r i).n ∧ ∀ j, j < (r.r i).n → (r.r i).z j = (if i = b then setRw (s.on.r i) g ((s.on.r b).z g + n) else s.on.r i).z j
            by_cases hib : i = b
            · subst hib
              rw [if_pos rfl]
              refine ⟨y.1, fun j hj => ?_⟩
              rw [y.2 j (by rw [← y.1]; exact hj)]
              show putZ s.on i g n i j = if j = g then (s.on.r i).z g + n else (s.on.r i).z j
              unfold putZ
              by_cases hjg : j = g
              · subst hjg; simp
              · simp [hjg]
            · rw [if_neg hib]
              refine ⟨y.1, fun j hj => ?_⟩
              rw [y.2 j (by rw [← y.1]; exact hj)]
              unfold putZ
              simp [hib]
          have z1 := K6.lt
          have z2 := K6.frozen 0
          have z3 := K6.cell (j := 0) (by decide)
          have y4 : (w6.setCell ⟨w4.heap.size, 0, none⟩ (.slice r.a r.n r.c)).cell? ⟨w4.heap.size, 4, none⟩ = some (.slice o.si.a o.si.n o.si.c) := K7.cell (j := 4) (by decide)
          rw [hia, HIN.out] at y4
          have y5 : (w6.setCell ⟨w4.heap.size, 0, none⟩ (.slice r.a r.n r.c)).cell? ⟨Gi, g, none⟩ = some (.int .i64 (o.si.z g)) := jk.cell (j := g) (by rw [HIN.out]; exact hg)
          rw [HSQ.out] at y5
          have y6 := jk.lt
          have y7 := jk.frozen g
          have y8 := K7.lt
          have HIA : Hid (o.si.a = some ⟨Gi, 0, none⟩) := hia
          rw [HIN.out] at i1
          unfold maxLen at i2
          obtain ⟨-, -, -, hBw8, hz8⟩ := HC.out _ hB8
          have m8 := K8.lt
          have e0 : ((w6.setCell ⟨w4.heap.size, 0, none⟩ (.slice r.a r.n r.c)).setCell ⟨Gi, g, none⟩ (.int .i64 (SI + n))).cell? ⟨w4.heap.size, 0, none⟩ = some (.slice r.a r.n r.c) := K8.cell (j := 0) (by decide)
          have e1 : ((w6.setCell ⟨w4.heap.size, 0, none⟩ (.slice r.a r.n r.c)).setCell ⟨Gi, g, none⟩ (.int .i64 (SI + n))).cell? ⟨w4.heap.size, 1, none⟩ = some (.slice o.os.a o.os.n o.os.c) := K8.cell (j := 1) (by decide)
          have e2 : ((w6.setCell ⟨w4.heap.size, 0, none⟩ (.slice r.a r.n r.c)).setCell ⟨Gi, g, none⟩ (.int .i64 (SI + n))).cell? ⟨w4.heap.size, 2, none⟩ = some (.slice o.hs.a o.hs.n o.hs.c) := K8.cell (j := 2) (by decide)
          have e3 : ((w6.setCell ⟨w4.heap.size, 0, none⟩ (.slice r.a r.n r.c)).setCell ⟨Gi, g, none⟩ (.int .i64 (SI + n))).cell? ⟨w4.heap.size, 3, none⟩ = some (.slice o.ms.a o.ms.n o.ms.c) := K8.cell (j := 3) (by decide)
          have e4 : ((w6.setCell ⟨w4.heap.size, 0, none⟩ (.slice r.a r.n r.c)).setCell ⟨Gi, g, none⟩ (.int .i64 (SI + n))).cell? ⟨w4.heap.size, 4, none⟩ = some (.slice o.si.a o.si.n o.si.c) := K8.cell (j := 4) (by decide)
          have e5 : ((w6.setCell ⟨w4.heap.size, 0, none⟩ (.slice r.a r.n r.c)).setCell ⟨Gi, g, none⟩ (.int .i64 (SI + n))).cell? ⟨w4.heap.size, 5, none⟩ = some (.slice o.so.a o.so.n o.so.c) := K8.cell (j := 5) (by decide)
          have e6 : ((w6.setCell ⟨w4.heap.size, 0, none⟩ (.slice r.a r.n r.c)).setCell ⟨Gi, g, none⟩ (.int .i64 (SI + n))).cell? ⟨w4.heap.size, 6, none⟩ = some (.slice o.sf.a o.sf.n o.sf.c) := K8.cell (j := 6) (by decide)
          have zl := hz8.lt
          have zf0 := hz8.frozen 0
          have zc0 := hz8.cell (j := 0) (by decide)
          have zf1 := hz8.frozen 1
          have zc1 := hz8.cell (j := 1) (by decide)
          have zf2 := hz8.frozen 2
          have zc2 := hz8.cell (j := 2) (by decide)
          have zf3 := hz8.frozen 3
          have zc3 := hz8.cell (j := 3) (by decide)
          have zf4 := hz8.frozen 4
          have zc4 := hz8.cell (j := 4) (by decide)
          have zf5 := hz8.frozen 5
          have zc5 := hz8.cell (j := 5) (by decide)
          have zf6 := hz8.frozen 6
          have zc6 := hz8.cell (j := 6) (by decide)
          clear hR hrn hrz hO5 K5 K6 K7 K8 hOa hOb hOc hB7 hB8 hB6 hB6' ik jk hsame hia hB5 hWB5 hBw8 hz8
          simp only [Sh.val]
          go_wp2_with fail
          obtain ⟨hBt, hOt, hKt⟩ := HEND.out
          obtain ⟨_, _, _, hBw, hz⟩ := HC.out _ hBt
          have KZ := set7_blk hz (.slice r.a r.n r.c) (.slice o.os.a o.os.n o.os.c) (.slice o.hs.a o.hs.n o.hs.c) (.slice o.ms.a o.ms.n o.ms.c) (.slice o.si.a o.si.n o.si.c) (.slice o.so.a o.so.n o.so.c) (.slice o.sf.a o.sf.n o.sf.c)
          have hbz := set7_below (b := w.heap.size + 2) hBw (by omega) (.slice r.a r.n r.c) (.slice o.os.a o.os.n o.os.c) (.slice o.hs.a o.hs.n o.hs.c) (.slice o.ms.a o.ms.n o.ms.c) (.slice o.si.a o.si.n o.si.c) (.slice o.so.a o.so.n o.so.c) (.slice o.sf.a o.sf.n o.sf.c)
          have hOz := OwnS.set7 hOt hz (.slice r.a r.n r.c) (.slice o.os.a o.os.n o.os.c) (.slice o.hs.a o.hs.n o.hs.c) (.slice o.ms.a o.ms.n o.ms.c) (.slice o.si.a o.si.n o.si.c) (.slice o.so.a o.so.n o.so.c) (.slice o.sf.a o.sf.n o.sf.c)
          unfold set7 at KZ hbz hOz
          obtain ⟨c0', c1', c2', c3', c4', c5', c6'⟩ := box_cells KZ
          refine bodyPost_ret (v := .tuple #[(setIn ⟨r, o.os, o.hs, o.ms, o.si, o.so, o.sf⟩ g (SI + n)).val, .int .i64 0]) (by simp [results, Try.results21, go_sem, setIn, setRw, St.val, c0', c1', c2', c3', c4', c5', c6']) rfl ?_
          exact ⟨setIn ⟨r, o.os, o.hs, o.ms, o.si, o.so, o.sf⟩ g (SI + n), by rw [HX.out]; rfl, hOz.at, ⟨fun _ => HSM.out, fun h => absurd HX.out h⟩, hbz⟩
        · have HX : Hid (recvE p s b g n = 2) := HT2' (Or.inr (by simp at d7; omega))
          clear HT2' HT0'
          have zl := hz.lt
          have zf0 := hz.frozen 0
          have zc0 := hz.cell (j := 0) (by decide)
          have zf1 := hz.frozen 1
          have zc1 := hz.cell (j := 1) (by decide)
          have zf2 := hz.frozen 2
          have zc2 := hz.cell (j := 2) (by decide)
          have zf3 := hz.frozen 3
          have zc3 := hz.cell (j := 3) (by decide)
          have zf4 := hz.frozen 4
          have zc4 := hz.cell (j := 4) (by decide)
          have zf5 := hz.frozen 5
          have zc5 := hz.cell (j := 5) (by decide)
          have zf6 := hz.frozen 6
          have zc6 := hz.cell (j := 6) (by decide)
          go_wp2_with fail
          have KZ := set7_blk hz (.slice .none 0 0) (.slice .none 0 0) (.slice .none 0 0) (.slice .none 0 0) (.slice .none 0 0) (.slice .none 0 0) (.slice .none 0 0)
          have hbz := set7_below (b := w.heap.size + 2) hBw (by omega) (.slice .none 0 0) (.slice .none 0 0) (.slice .none 0 0) (.slice .none 0 0) (.slice .none 0 0) (.slice .none 0 0) (.slice .none 0 0)
          unfold set7 at KZ hbz
          obtain ⟨c0', c1', c2', c3', c4', c5', c6'⟩ := box_cells KZ
          refine bodyPost_ret (v := .tuple #[noneS.val, .int .i64 2]) (by simp [results, Try.results21, go_sem, noneS, St.val, c0', c1', c2', c3', c4', c5', c6']) rfl ?_
          exact ⟨noneS, by rw [HX.out]; rfl, noneS_at _, ⟨fun h => absurd h (by rw [HX.out]; decide), fun _ => ⟨rfl, rfl, rfl, rfl, rfl, rfl, rfl⟩⟩, hbz⟩
      · have HX : Hid (recvE p s b g n = 2) := HT2' (Or.inl (by simp at d6; omega))
        clear HT2' HT0'
        have zl := hz.lt
        have zf0 := hz.frozen 0
        have zc0 := hz.cell (j := 0) (by decide)
        have zf1 := hz.frozen 1
        have zc1 := hz.cell (j := 1) (by decide)
        have zf2 := hz.frozen 2
        have zc2 := hz.cell (j := 2) (by decide)
        have zf3 := hz.frozen 3
        have zc3 := hz.cell (j := 3) (by decide)
        have zf4 := hz.frozen 4
        have zc4 := hz.cell (j := 4) (by decide)
        have zf5 := hz.frozen 5
        have zc5 := hz.cell (j := 5) (by decide)
        have zf6 := hz.frozen 6
        have zc6 := hz.cell (j := 6) (by decide)
        go_wp2_with fail
        have KZ := set7_blk hz (.slice .none 0 0) (.slice .none 0 0) (.slice .none 0 0) (.slice .none 0 0) (.slice .none 0 0) (.slice .none 0 0) (.slice .none 0 0)
        have hbz := set7_below (b := w.heap.size + 2) hBw (by omega) (.slice .none 0 0) (.slice .none 0 0) (.slice .none 0 0) (.slice .none 0 0) (.slice .none 0 0) (.slice .none 0 0) (.slice .none 0 0)
        unfold set7 at KZ hbz
        obtain ⟨c0', c1', c2', c3', c4', c5', c6'⟩ := box_cells KZ
        refine bodyPost_ret (v := .tuple #[noneS.val, .int .i64 2]) (by simp [results, Try.results21, go_sem, noneS, St.val, c0', c1', c2', c3', c4', c5', c6']) rfl ?_
        exact ⟨noneS, by rw [HX.out]; rfl, noneS_at _, ⟨fun h => absurd h (by rw [HX.out]; decide), fun _ => ⟨rfl, rfl, rfl, rfl, rfl, rfl, rfl⟩⟩, hbz⟩
  · have HX : Hid (recvE p s bin good n = stateE p s) := recvE_state h0
    clear hpk hsk c0 c1 c2 c3 c4 c5 c6
    have zl := hz.lt
    have zf0 := hz.frozen 0
    have zc0 := hz.cell (j := 0) (by decide)
    have zf1 := hz.frozen 1
    have zc1 := hz.cell (j := 1) (by decide)
    have zf2 := hz.frozen 2
    have zc2 := hz.cell (j := 2) (by decide)
    have zf3 := hz.frozen 3
    have zc3 := hz.cell (j := 3) (by decide)
    have zf4 := hz.frozen 4
    have zc4 := hz.cell (j := 4) (by decide)
    have zf5 := hz.frozen 5
    have zc5 := hz.cell (j := 5) (by decide)
    have zf6 := hz.frozen 6
    have zc6 := hz.cell (j := 6) (by decide)
    go_wp2_with fail
    have KZ := set7_blk hz (.slice .none 0 0) (.slice .none 0 0) (.slice .none 0 0) (.slice .none 0 0) (.slice .none 0 0) (.slice .none 0 0) (.slice .none 0 0)
    have hbz := set7_below (b := w.heap.size + 2) hBw (by omega) (.slice .none 0 0) (.slice .none 0 0) (.slice .none 0 0) (.slice .none 0 0) (.slice .none 0 0) (.slice .none 0 0) (.slice .none 0 0)
    unfold set7 at KZ hbz
    obtain ⟨c0', c1', c2', c3', c4', c5', c6'⟩ := box_cells KZ
    refine bodyPost_ret (v := .tuple #[noneS.val, .int .i64 (stateE p s)]) (by simp [results, Try.results21, go_sem, noneS, St.val, c0', c1', c2', c3', c4', c5', c6']) rfl ?_
    exact ⟨noneS, by rw [HX.out]; rfl, noneS_at _, ⟨fun h => absurd h (by rw [HX.out]; exact h0), fun _ => ⟨rfl, rfl, rfl, rfl, rfl, rfl, rfl⟩⟩, hbz⟩

end Go.Proofs.Ytjiodlbblmbibac

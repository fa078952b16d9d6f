/- Avail and Free. -/
import Derived.Test.YtjiodlbblmbibacSW8
namespace Go.Proofs.Ytjiodlbblmbibac
open Go.RowKit Go.Shelf Go.Sort
set_option linter.unusedVariables false

def availE (p : Pl) (s : St) (bin good : Int) : Int := if stateE p s = 0 then (if inB bin 0 ((p.nb : Int) - 1) && inB good 0 ((p.ns : Int) - 1) then 0 else 3) else stateE p s
def availV (p : Pl) (s : St) (bin good : Int) : Int := if availE p s bin good = 0 then availZ s bin.toNat good.toNat else 0
def takeTo (p : Pl) (s : St) (b : Int) : Nat → Int
  | 0 => 0
  | k + 1 => takeTo p s b k + (if (s.ms.z k).b = b then (s.ms.z k).n * p.zs (s.ms.z k).o.toNat else 0)
def freeZ (p : Pl) (s : St) (b : Nat) : Int := (p.zb b).room - usedTo (s.on.r b).z p.zs p.ns - takeTo p s b s.ms.n
def freeE (p : Pl) (s : St) (bin : Int) : Int := if stateE p s = 0 then usedE p s.on bin else stateE p s
def freeV (p : Pl) (s : St) (bin : Int) : Int := if freeE p s bin = 0 then freeZ p s bin.toNat else 0

theorem takeTo_hit {p : Pl} {s : St} {b : Int} {k : Nat} (h : (s.ms.z k).b = b) : takeTo p s b (k + 1) = takeTo p s b k + (s.ms.z k).n * p.zs (s.ms.z k).o.toNat := by simp only [takeTo]; rw [if_pos h]
theorem takeTo_miss {p : Pl} {s : St} {b : Int} {k : Nat} (h : ¬ (s.ms.z k).b = b) : takeTo p s b (k + 1) = takeTo p s b k := by simp only [takeTo]; rw [if_neg h, Int.add_zero]
theorem takeTo_bd {p : Pl} {s : St} (f : Formed p s) (b : Int) : ∀ k, k ≤ s.ms.n → 0 ≤ takeTo p s b k ∧ takeTo p s b k ≤ 1800 * k
  | 0, _ => by simp [takeTo]
  | k + 1, hk => by
    have ih := takeTo_bd f b k (by omega)
    have hm := badMove_no (f.move k (by omega))
    have := mul_bd (a := (s.ms.z k).n) (b := p.zs (s.ms.z k).o.toNat) ⟨by omega, hm.2.2.2.2.2⟩ (f.sh.pl.sizes _ (by omega))
    simp only [takeTo]
    split <;> omega

set_option maxHeartbeats 4000000 in
theorem Avail_any (p : Pl) (s : St) (bin good : Int) (w : World) (hp : p.At w) (hs : s.At w) :
    Calls Try.prog 12 #[p.val, s.val, .int .i64 bin, .int .i64 good] w fun e w' => e = .returned (.tuple #[.int .i64 (availV p s bin good), .int .i64 (availE p s bin good)]) ∧ Below w.heap.size w w' := by
  obtain ⟨W0, hW, hWB, X0⟩ : ∃ W, ((w.alloc (.cells #[.slice p.ab p.nb p.cb, .slice p.sa p.ns p.cs] 25)).alloc (.cells s.cells 31)) = W ∧ Below w.heap.size w W ∧ Boxes W w.heap.size (w.heap.size + 1) p s := ⟨_, rfl, two_below _ _ _, boxes_new w p s _ _⟩
  have HC : Hid (∀ wk, Below W0.heap.size W0 wk → Boxes wk w.heap.size (w.heap.size + 1) p s ∧ p.At wk ∧ s.At wk ∧ Below w.heap.size w wk) := fun wk h => ⟨X0.below h, (hp.below hWB).below h, (hs.below hWB).below h, hWB.trans (h.mono hWB.size)⟩
  have HW : Hid ((w.alloc (.cells #[.slice p.ab p.nb p.cb, .slice p.sa p.ns p.cs] 25)).alloc (.cells #[.slice s.on.a s.on.n s.on.c, .slice s.os.a s.os.n s.os.c, .slice s.hs.a s.hs.n s.hs.c, .slice s.ms.a s.ms.n s.ms.c, .slice s.si.a s.si.n s.si.c, .slice s.so.a s.so.n s.so.c, .slice s.sf.a s.sf.n s.sf.c] 31) = W0) := hW
  have hnb : p.nb ≤ maxLen := Nat.le_trans hp.leb hp.capb
  have hns : p.ns ≤ maxLen := Nat.le_trans hp.les hp.caps
  clear hW X0
  unfold Pl.val St.val
  go_enter Try.func12, Try.ntmps12
  go_wp2_with fail
  rw [HW.out]
  obtain ⟨X, hpk, hsk, hBw⟩ := HC.out W0 (Below.refl _ _)
  refine (stateCheck_any p s W0 hpk hsk).mono ?_
  rintro e w1 ⟨rfl, hB⟩
  clear X hpk hsk hBw
  obtain ⟨X, hpk, hsk, hBw⟩ := HC.out w1 hB
  obtain ⟨⟨l1, d0, d1⟩, l2, c0, c1, c2, c3, c4, c5, c6⟩ := X
  by_cases h0 : stateE p s = 0
  · have HR : Hid (RightT p s) := rightT h0
    have H0 : Hid (stateE p s = 0) := h0
    rw [h0]
    clear h0
    cases h1 : inB bin 0 ((p.nb : Int) - 1)
    · have HE : Hid (availE p s bin good = 3 ∧ availV p s bin good = 0) := by
        have e : availE p s bin good = 3 := by unfold availE; rw [if_pos H0.out, h1]; rfl
        exact ⟨e, by unfold availV; rw [e]; rfl⟩
      go_wp2_with (go_at_call 30; refine calls_to (Has_any _ _ _ (by assumption)) ?_)
      go_ret2
      exact ⟨by rw [HE.out.1, HE.out.2]; rfl, hBw⟩
    · cases h2 : inB good 0 ((p.ns : Int) - 1)
      · have HE : Hid (availE p s bin good = 3 ∧ availV p s bin good = 0) := by
          have e : availE p s bin good = 3 := by unfold availE; rw [if_pos H0.out, h2, Bool.and_false]; rfl
          exact ⟨e, by unfold availV; rw [e]; rfl⟩
        go_wp2_with (go_at_call 30; refine calls_to (Has_any _ _ _ (by assumption)) ?_)
        go_ret2
        exact ⟨by rw [HE.out.1, HE.out.2]; rfl, hBw⟩
      · have HE : Hid (availE p s bin good = 0 ∧ availV p s bin good = availZ s bin.toNat good.toNat) := by
          have e : availE p s bin good = 0 := by unfold availE; rw [if_pos H0.out, h1, h2]; rfl
          exact ⟨e, by unfold availV; rw [e]; rfl⟩
        obtain ⟨b, hb⟩ := Int.eq_ofNat_of_zero_le (inB_true h1).1
        obtain ⟨g, hg⟩ := Int.eq_ofNat_of_zero_le (inB_true h2).1
        have hbn : b < p.nb := by have := (inB_true h1).2; omega
        have hgn : g < p.ns := by have := (inB_true h2).2; omega
        subst hb hg
        go_wp2_with (go_at_call 30; refine calls_to (Has_any _ _ _ (by assumption)) ?_)
        refine (avail_any p s b g w1 hsk HR.out.fm hbn hgn).mono ?_
        rintro e w2 ⟨rfl, hB2⟩
        go_wp2_with fail
        go_ret2
        exact ⟨by rw [HE.out.1, HE.out.2]; rfl, hBw.trans (hB2.mono hBw.size)⟩
  · have HE : Hid (availE p s bin good = stateE p s ∧ availV p s bin good = 0) := by
      have e : availE p s bin good = stateE p s := by unfold availE; rw [if_neg h0]
      exact ⟨e, by unfold availV; rw [e, if_neg h0]⟩
    go_wp2_with fail
    go_ret2
    exact ⟨by rw [HE.out.1, HE.out.2]; rfl, hBw⟩

set_option maxHeartbeats 4000000 in
theorem Free_any (p : Pl) (s : St) (bin : Int) (w : World) (hp : p.At w) (hs : s.At w) :
    Calls Try.prog 13 #[p.val, s.val, .int .i64 bin] w fun e w' => e = .returned (.tuple #[.int .i64 (freeV p s bin), .int .i64 (freeE p s bin)]) ∧ Below w.heap.size w w' := by
  obtain ⟨W0, hW, hWB, X0⟩ : ∃ W, ((w.alloc (.cells #[.slice p.ab p.nb p.cb, .slice p.sa p.ns p.cs] 25)).alloc (.cells s.cells 31)) = W ∧ Below w.heap.size w W ∧ Boxes W w.heap.size (w.heap.size + 1) p s := ⟨_, rfl, two_below _ _ _, boxes_new w p s _ _⟩
  have HC : Hid (∀ wk, Below W0.heap.size W0 wk → Boxes wk w.heap.size (w.heap.size + 1) p s ∧ p.At wk ∧ s.At wk ∧ Below w.heap.size w wk) := fun wk h => ⟨X0.below h, (hp.below hWB).below h, (hs.below hWB).below h, hWB.trans (h.mono hWB.size)⟩
  have HW : Hid ((w.alloc (.cells #[.slice p.ab p.nb p.cb, .slice p.sa p.ns p.cs] 25)).alloc (.cells #[.slice s.on.a s.on.n s.on.c, .slice s.os.a s.os.n s.os.c, .slice s.hs.a s.hs.n s.hs.c, .slice s.ms.a s.ms.n s.ms.c, .slice s.si.a s.si.n s.si.c, .slice s.so.a s.so.n s.so.c, .slice s.sf.a s.sf.n s.sf.c] 31) = W0) := hW
  have leb := hp.leb
  have capb := hp.capb
  have les := hp.les
  have caps := hp.caps
  unfold maxLen at capb caps
  clear hW X0
  unfold Pl.val St.val
  go_enter Try.func13, Try.ntmps13
  go_wp2_with fail
  rw [HW.out]
  obtain ⟨X, hpk, hsk, hBw⟩ := HC.out W0 (Below.refl _ _)
  refine (stateCheck_any p s W0 hpk hsk).mono ?_
  rintro e w1 ⟨rfl, hB⟩
  clear X hpk hsk hBw
  obtain ⟨X, hpk, hsk, hBw⟩ := HC.out w1 hB
  obtain ⟨⟨l1, d0, d1⟩, l2, c0, c1, c2, c3, c4, c5, c6⟩ := X
  by_cases h0 : stateE p s = 0
  · have HR : Hid (RightT p s) := rightT h0
    have H0 : Hid (stateE p s = 0) := h0
    rw [h0]
    clear h0
    go_wp2_with fail
    refine (Used_any p s.on bin w1 hpk hsk.on).mono ?_
    rintro e w2 ⟨rfl, hB2⟩
    have hBn := hB.trans (hB2.mono hB.size)
    clear hB2 hB l1 d0 d1 l2 c0 c1 c2 c3 c4 c5 c6 hpk hsk hBw
    obtain ⟨X, hpk, hsk, hBw⟩ := HC.out w2 hBn
    obtain ⟨⟨l1, d0, d1⟩, l2, c0, c1, c2, c3, c4, c5, c6⟩ := X
    by_cases h1 : usedE p s.on bin = 0
    · have hin : inB bin 0 ((s.on.n : Int) - 1) = true := by
        cases hq : inB bin 0 ((s.on.n : Int) - 1)
        · unfold usedE at h1; rw [HR.out.fm.sh0, hq] at h1; simp at h1
        · rfl
      have hon := HR.out.fm.sh.n
      obtain ⟨b, hb⟩ := Int.eq_ofNat_of_zero_le (inB_true hin).1
      have hbn : b < p.nb := by have := (inB_true hin).2; omega
      have HE : Hid (freeE p s bin = 0 ∧ freeV p s bin = freeZ p s b ∧ usedV p s.on bin = usedTo (s.on.r b).z p.zs p.ns) := by
        have e : freeE p s bin = 0 := by unfold freeE; rw [if_pos H0.out, h1]
        exact ⟨e, by unfold freeV; rw [e, if_pos rfl, hb]; rfl, by unfold usedV; rw [h1, hb]; rfl⟩
      rw [h1, HE.out.2.2]
      have hus := usedTo_bd (z := (s.on.r b).z) (zs := p.zs) (n := p.ns) (fun j hj => ⟨HR.out.fm.sh.num b (by omega) j hj, HR.out.fm.sh.pl.sizes j hj⟩) p.ns (Nat.le_refl _)
      have ns3 := HR.out.fm.sh.pl.ns3
      have ms8 := HR.out.fm.ms8
      have hroom : 0 ≤ (p.zb b).room ∧ (p.zb b).room ≤ 1000 := by
        have := HR.out.fm.sh.pl.bins b hbn
        simp only [badBin, Bool.or_eq_false_iff, Bool.not_eq_false'] at this
        exact inB_true this.1.1
      have TB : Hid (∀ k, k ≤ s.ms.n → 0 ≤ takeTo p s b k ∧ takeTo p s b k ≤ 1800 * k) := takeTo_bd HR.out.fm b
      have TH : Hid (freeZ p s b = (p.zb b).room - usedTo (s.on.r b).z p.zs p.ns - takeTo p s b s.ms.n) := rfl
      obtain ⟨bb, bo, hba, hblt, y0, y1, y2, y3⟩ := hpk.bins b hbn
      rw [hba] at d0
      have mle := hsk.ms.le
      have mcap := hsk.ms.cap
      unfold maxLen at mcap
      have HF : Hid (Formed p s) := HR.out.fm
      clear hba h1 hin hpk hsk hon HR
      subst hb
      generalize usedTo (s.on.r b).z p.zs p.ns = US at *
      generalize (p.zb b).room = RM at *
      have q1 : (0 : Int) ≤ (b : Int) := by omega
      go_wp2_with fail
      go_loopw [11, 42] (fun u i wk => ∃ k : Nat, k ≤ s.ms.n ∧ i = .int .i64 k ∧ u = .int .i64 (RM - US - takeTo p s b k) ∧ Below W0.heap.size W0 wk) (fun _ i _ => s.ms.n - (intOf i).toNat)
      case atStart => exact ⟨0, Nat.zero_le _, rfl, by simp [takeTo], hBn⟩
      case round =>
        clear hBn hBw l1 d0 d1 l2 c0 c1 c2 c3 c4 c5 c6 y0 y1 y2 y3 hblt
        obtain ⟨k, hk, rfl, rfl, hB⟩ := hrel
        have m1 := TB.out k hk
        by_cases hlt : k < s.ms.n
        · obtain ⟨X, hpk, hsk, hBw⟩ := HC.out wr hB
          obtain ⟨⟨l1, d0, d1⟩, l2, -⟩ := X
          obtain ⟨b1, o1, hma, hb1, z0, z1, z2, z3⟩ := hsk.ms.hds k hlt
          have hm := badMove_no (HF.out.move k hlt)
          obtain ⟨g, hg⟩ := Int.eq_ofNat_of_zero_le hm.1.1
          have hgn : g < p.ns := by omega
          obtain ⟨b2, o2, hsa, hb2, y0⟩ := hpk.sizes g hgn
          have hzs := HF.out.sh.pl.sizes g hgn
          have hnn := hm.2.2.2.2
          have hmul := mul_bd (a := (s.ms.z k).n) (b := p.zs g) ⟨by omega, hnn.2⟩ hzs
          have H1 : Hid (((s.ms.z k).b = b → takeTo p s b (k + 1) = takeTo p s b k + (s.ms.z k).n * p.zs g) ∧ (¬ (s.ms.z k).b = b → takeTo p s b (k + 1) = takeTo p s b k)) := ⟨fun h => by rw [takeTo_hit h, hg]; rfl, takeTo_miss⟩
          rw [hg] at z0
          rw [hsa] at d1
          obtain ⟨W1, hW1, hB1, hY⟩ : ∃ W1, wr.alloc (.cells #[.int .i64 g, .int .i64 (s.ms.z k).l, .int .i64 (s.ms.z k).b, .int .i64 (s.ms.z k).n] 70) = W1 ∧ Below W0.heap.size W0 W1 ∧ Blk W1 wr.heap.size 70 4 (fun j => (#[.int .i64 g, .int .i64 (s.ms.z k).l, .int .i64 (s.ms.z k).b, .int .i64 (s.ms.z k).n] : Array Value).getD j default) := ⟨_, rfl, hB.alloc hB.size _, Blk.mk' rfl rfl⟩
          have HV : Hid (wr.alloc (.cells #[.int .i64 g, .int .i64 (s.ms.z k).l, .int .i64 (s.ms.z k).b, .int .i64 (s.ms.z k).n] 70) = W1) := hW1
          have hBa : Below wr.heap.size wr W1 := by rw [← hW1]; exact (Below.refl _ _).alloc (Nat.le_refl _) _
          have r0 : ∀ d os, (grow (redrawn W1 d) os).cell? ⟨wr.heap.size, 0, none⟩ = some (.int .i64 g) := fun d os => cell_regrown (hY.cell (j := 0) (by decide)) d os
          have r3 : ∀ d os, (grow (redrawn W1 d) os).cell? ⟨wr.heap.size, 3, none⟩ = some (.int .i64 (s.ms.z k).n) := fun d os => cell_regrown (hY.cell (j := 3) (by decide)) d os
          have r4 : ∀ d os, (grow (redrawn W1 d) os).cell? ⟨w.heap.size, 1, none⟩ = some (.slice (some ⟨b2, o2, none⟩) p.ns p.cs) := fun d os => cell_regrown ((hBa.cell (p := ⟨w.heap.size, 1, none⟩) l1).trans d1) d os
          have r5 : ∀ d os, (grow (redrawn W1 d) os).cell? ⟨b2, o2 + g, none⟩ = some (.int .i64 (p.zs g)) := fun d os => cell_regrown ((hBa.cell (p := ⟨b2, o2 + g, none⟩) hb2).trans y0) d os
          have q2 : (0 : Int) ≤ (g : Int) := by omega
          have q3 : (0 : Int) ≤ (k : Int) := by omega
          rw [hma]
          clear hma hsa hg hm hW1 hpk hsk hBw y0 hBa d0 d1
          generalize takeTo p s b k = U at *
          generalize (s.ms.z k).b = BB at *
          generalize (s.ms.z k).l = LL at *
          generalize (s.ms.z k).n = NN at *
          generalize p.zs g = ZG at *
          cases h1 : (BB == (b : Int))
          · have hm := H1.out.2 (by simpa using h1)
            have HM : Hid (takeTo p s b (k + 1) = U) := hm
            clear hm H1 r0 r3 r4 r5
            go_wp2_with fail
            rw [HV.out]
            go_roundw
            case rel => exact ⟨k + 1, by omega, by go_num, by rw [HM.out], hB1⟩
            case measure => simp [intOf]; omega
          · have hm := H1.out.1 (by simpa using h1)
            have HM : Hid (takeTo p s b (k + 1) = U + NN * ZG) := hm
            clear hm H1
            go_wp2_with fail
            rw [HV.out]
            generalize hPR : NN * ZG = PR at *
            refine wp_region_quiet_below (by kernel_rfl) (by kernel_rfl) ?_
            repeat (go_big_quiet_step (fail))
            refine wpQuiet_nil ?_
            intro _ hw'
            obtain ⟨⟨dq, osq⟩, hw''⟩ := hw'
            subst hw''
            have hC := hB1.trans ((below_regrown W1 dq osq).mono hB1.size)
            clear r0 r3 r4 r5 hY hB1 HV
            generalize grow (redrawn W1 dq) osq = wz at *
            go_wp2_with fail
            go_roundw
            case rel => exact ⟨k + 1, by omega, by go_num, by rw [HM.out, Int.sub_sub _ U], hC⟩
            case measure => simp [intOf]; omega
        · have hkn : k = s.ms.n := by omega
          subst hkn
          go_wp2_with fail
          go_ret2
          exact ⟨by rw [HE.out.1, HE.out.2.1, TH.out]; rfl, hWB.trans (hB.mono hWB.size)⟩
    · have HE : Hid (freeE p s bin = usedE p s.on bin ∧ freeV p s bin = 0) := by
        have e : freeE p s bin = usedE p s.on bin := by unfold freeE; rw [if_pos H0.out]
        exact ⟨e, by unfold freeV; rw [e, if_neg h1]⟩
      go_wp2_with fail
      go_ret2
      exact ⟨by rw [HE.out.1, HE.out.2]; rfl, hBw⟩
  · have HE : Hid (freeE p s bin = stateE p s ∧ freeV p s bin = 0) := by
      have e : freeE p s bin = stateE p s := by unfold freeE; rw [if_neg h0]
      exact ⟨e, by unfold freeV; rw [e, if_neg h0]⟩
    go_wp2_with fail
    go_ret2
    exact ⟨by rw [HE.out.1, HE.out.2]; rfl, hBw⟩

end Go.Proofs.Ytjiodlbblmbibac

/- StateTells: the walk. -/
import Derived.Test.YtnoamojikbeadabSW12
import Derived.Test.YtnoamojikbeadabRS4
import Derived.Test.YtnoamojikbeadabRS5
namespace Go.Proofs.Ytnoamojikbeadab
open Go.RowKit Go.Shelf Go.Sort
set_option linter.unusedVariables false

theorem shelf_of_state {p : Pl} {s : St} (h : stateE p s = 0) : shelfE p s.on = 0 := (rightT h).fm.sh0
theorem availE_shelf {p : Pl} {s : St} {bin good : Int} (h : stateE p s = 0) : availE p s bin good = shelfErr p s.on bin good := by
  unfold availE shelfErr
  rw [if_pos h, shelf_of_state h]
  rfl
theorem freeE_shelf {p : Pl} {s : St} {bin : Int} (h : stateE p s = 0) : freeE p s bin = shelfErr p s.on bin 0 := by
  have h0 := shelf_of_state h
  have hn := (rightT h).fm.sh.n
  have ns1 := (rightT h).fm.sh.pl.ns1
  unfold freeE usedE shelfErr
  rw [if_pos h, h0, hn, inB_mk (n := 0) (low := 0) (high := (p.ns : Int) - 1) (by omega), Bool.and_true]
theorem shelfErr_zero {p : Pl} {s : Sh} {bin good : Int} (h0 : shelfE p s = 0) (h : shelfErr p s bin good = 0) : ∃ b g : Nat, bin = b ∧ good = g ∧ b < p.nb ∧ g < p.ns := by
  unfold shelfErr at h
  rw [h0] at h
  cases h1 : inB bin 0 ((p.nb : Int) - 1)
  · rw [h1] at h; simp at h
  · cases h2 : inB good 0 ((p.ns : Int) - 1)
    · rw [h2] at h; simp at h
    · have a := inB_true h1
      have c := inB_true h2
      exact ⟨bin.toNat, good.toNat, by omega, by omega, by omega, by omega⟩

set_option maxRecDepth 100000 in
set_option maxHeartbeats 8000000 in
theorem StateTells_walk (p : Pl) (s : St) (bin good : Int) (w : World) (hp : p.At w) (hs : s.At w) :
    Calls Try.prog 7 #[p.val, s.val, .int .i64 bin, .int .i64 good] w fun e w' => e = .returned (.bool true) ∧ Below w.heap.size w w' := by
  obtain ⟨W0, hW, hWB, X0⟩ : ∃ W, ((w.alloc (.cells #[.slice p.ab p.nb p.cb, .slice p.sa p.ns p.cs] 40)).alloc (.cells s.cells 45)) = W ∧ Below w.heap.size w W ∧ Boxes W w.heap.size (w.heap.size + 1) p s := ⟨_, rfl, two_below _ _ _, boxes_new w p s _ _⟩
  have HC : Hid (∀ wk, Below W0.heap.size W0 wk → Boxes wk w.heap.size (w.heap.size + 1) p s ∧ p.At wk ∧ s.At wk ∧ Below w.heap.size w wk) := fun wk h => ⟨X0.below h, (hp.below hWB).below h, (hs.below hWB).below h, hWB.trans (h.mono hWB.size)⟩
  have HW : Hid ((w.alloc (.cells #[.slice p.ab p.nb p.cb, .slice p.sa p.ns p.cs] 40)).alloc (.cells #[.slice s.on.a s.on.n s.on.c, .slice s.os.a s.os.n s.os.c, .slice s.hs.a s.hs.n s.hs.c, .slice s.ms.a s.ms.n s.ms.c, .slice s.si.a s.si.n s.si.c, .slice s.so.a s.so.n s.so.c, .slice s.sf.a s.sf.n s.sf.c] 45) = W0) := hW
  clear hW X0 hp hs
  unfold Pl.val St.val
  go_enter Try.func7, Try.ntmps7
  go_wp2_with fail
  rw [HW.out]
  obtain ⟨X, hpk, hsk, hBw⟩ := HC.out W0 (Below.refl _ _)
  refine (Avail_any p s bin good W0 hpk hsk).mono ?_
  rintro e w1 ⟨rfl, hB⟩
  clear X hpk hsk hBw HW
  obtain ⟨⟨⟨l1, d0, d1⟩, l2, c0, c1, c2, c3, c4, c5, c6⟩, hpk, hsk, hBw⟩ := HC.out w1 hB
  go_wp2_with fail
  refine (Free_any p s bin w1 hpk hsk).mono ?_
  rintro e w2 ⟨rfl, hB2⟩
  have hB := hB.trans (hB2.mono hB.size)
  clear l1 d0 d1 l2 c0 c1 c2 c3 c4 c5 c6 hpk hsk hBw hB2
  obtain ⟨⟨⟨l1, d0, d1⟩, l2, c0, c1, c2, c3, c4, c5, c6⟩, hpk, hsk, hBw⟩ := HC.out w2 hB
  go_wp2_with fail
  refine (refCheckState_any p s w2 hpk hsk).mono ?_
  rintro e w3 ⟨rfl, hB2⟩
  have hB := hB.trans (hB2.mono hB.size)
  clear l1 d0 d1 l2 c0 c1 c2 c3 c4 c5 c6 hpk hsk hBw hB2
  obtain ⟨⟨⟨l1, d0, d1⟩, l2, c0, c1, c2, c3, c4, c5, c6⟩, hpk, hsk, hBw⟩ := HC.out w3 hB
  by_cases h0 : stateE p s = 0
  · have HR : Hid (RightT p s) := rightT h0
    have HA : Hid (availE p s bin good = shelfErr p s.on bin good ∧ freeE p s bin = shelfErr p s.on bin 0) := ⟨availE_shelf h0, freeE_shelf h0⟩
    rw [h0, HA.out.1, HA.out.2]
    clear h0
    go_wp2_with fail
    refine (ShelfError_any p s.on bin good w3 hpk hsk.on).mono ?_
    rintro e w4 ⟨rfl, hB2⟩
    have hB := hB.trans (hB2.mono hB.size)
    clear l1 d0 d1 l2 c0 c1 c2 c3 c4 c5 c6 hpk hsk hBw hB2
    obtain ⟨⟨⟨l1, d0, d1⟩, l2, c0, c1, c2, c3, c4, c5, c6⟩, hpk, hsk, hBw⟩ := HC.out w4 hB
    go_wp2_with fail
    refine (ShelfError_any p s.on bin 0 w4 hpk hsk.on).mono ?_
    rintro e w5 ⟨rfl, hB2⟩
    have hB := hB.trans (hB2.mono hB.size)
    clear l1 d0 d1 l2 c0 c1 c2 c3 c4 c5 c6 hpk hsk hBw hB2
    obtain ⟨⟨⟨l1, d0, d1⟩, l2, c0, c1, c2, c3, c4, c5, c6⟩, hpk, hsk, hBw⟩ := HC.out w5 hB
    by_cases hF : shelfErr p s.on bin 0 = 0
    · obtain ⟨b, -, rfl, -, hb, -⟩ := shelfErr_zero HR.out.fm.sh0 hF
      have HFV : Hid (freeV p s b = freeZ p s b) := by show freeV p s b = freeZ p s b; unfold freeV; rw [HA.out.2, hF]; rfl
      by_cases hA : shelfErr p s.on b good = 0
      · obtain ⟨-, g, -, rfl, -, hg⟩ := shelfErr_zero HR.out.fm.sh0 hA
        have HAV : Hid (availV p s b g = availZ s b g) := by show availV p s b g = availZ s b g; unfold availV; rw [HA.out.1, hA]; rfl
        rw [hF, hA, HFV.out, HAV.out]
        clear hF hA
        go_wp2_with fail
        refine (AvailOf_any p s b g w5 hsk HR.out.fm hb hg).mono ?_
        rintro e w6 ⟨rfl, hB2⟩
        have hB := hB.trans (hB2.mono hB.size)
        clear l1 d0 d1 l2 c0 c1 c2 c3 c4 c5 c6 hpk hsk hBw hB2
        obtain ⟨⟨⟨l1, d0, d1⟩, l2, c0, c1, c2, c3, c4, c5, c6⟩, hpk, hsk, hBw⟩ := HC.out w6 hB
        go_wp2_with fail
        refine (FreeOf_any p s b w6 hpk hsk HR.out.fm hb).mono ?_
        rintro e w7 ⟨rfl, hB2⟩
        have hB := hB.trans (hB2.mono hB.size)
        clear l1 d0 d1 l2 c0 c1 c2 c3 c4 c5 c6 hpk hsk hBw hB2
        obtain ⟨⟨⟨l1, d0, d1⟩, l2, c0, c1, c2, c3, c4, c5, c6⟩, hpk, hsk, hBw⟩ := HC.out w7 hB
        go_wp2_with fail
        refine (stateBegun_any _).mono ?_
        rintro e wz ⟨rfl, hB2⟩
        have hBw := hBw.trans (hB2.mono hBw.size)
        clear hB2 l1 d0 d1 l2 c0 c1 c2 c3 c4 c5 c6 hpk hsk HC
        go_wp2_with fail
        go_ret
        exact ⟨by simp, hBw⟩
      · have HAV : Hid (availV p s b good = 0) := by show availV p s b good = 0; unfold availV; rw [HA.out.1, if_neg hA]
        rw [hF, HFV.out, HAV.out]
        clear hF
        go_wp2_with fail
        refine (FreeOf_any p s b w5 hpk hsk HR.out.fm hb).mono ?_
        rintro e w7 ⟨rfl, hB2⟩
        have hB := hB.trans (hB2.mono hB.size)
        clear l1 d0 d1 l2 c0 c1 c2 c3 c4 c5 c6 hpk hsk hBw hB2
        obtain ⟨⟨⟨l1, d0, d1⟩, l2, c0, c1, c2, c3, c4, c5, c6⟩, hpk, hsk, hBw⟩ := HC.out w7 hB
        go_wp2_with fail
        refine (stateBegun_any _).mono ?_
        rintro e wz ⟨rfl, hB2⟩
        have hBw := hBw.trans (hB2.mono hBw.size)
        clear hB2 l1 d0 d1 l2 c0 c1 c2 c3 c4 c5 c6 hpk hsk HC
        go_wp2_with fail
        go_ret
        exact ⟨by simp, hBw⟩
    · have hA : ¬ shelfErr p s.on bin good = 0 := fun hA => by
        obtain ⟨b, g, rfl, rfl, hb, hg⟩ := shelfErr_zero HR.out.fm.sh0 hA
        refine hF ?_
        unfold shelfErr
        rw [HR.out.fm.sh0, inB_mk (by omega), inB_mk (by have := HR.out.fm.sh.pl.ns1; omega)]
        rfl
      have HAV : Hid (availV p s bin good = 0 ∧ freeV p s bin = 0) := by
        refine ⟨?_, ?_⟩
        · unfold availV; rw [HA.out.1, if_neg hA]
        · unfold freeV; rw [HA.out.2, if_neg hF]
      rw [HAV.out.1, HAV.out.2]
      go_wp2_with fail
      refine (stateBegun_any _).mono ?_
      rintro e wz ⟨rfl, hB2⟩
      have hBw := hBw.trans (hB2.mono hBw.size)
      clear hB2 l1 d0 d1 l2 c0 c1 c2 c3 c4 c5 c6 hpk hsk HC
      go_wp2_with fail
      go_ret
      exact ⟨by simp, hBw⟩
  · have HA : Hid (availE p s bin good = stateE p s ∧ freeE p s bin = stateE p s ∧ availV p s bin good = 0 ∧ freeV p s bin = 0) := by
      have e1 : availE p s bin good = stateE p s := by unfold availE; rw [if_neg h0]
      have e2 : freeE p s bin = stateE p s := by unfold freeE; rw [if_neg h0]
      refine ⟨e1, e2, ?_, ?_⟩
      · unfold availV; rw [e1, if_neg h0]
      · unfold freeV; rw [e2, if_neg h0]
    rw [HA.out.1, HA.out.2.1, HA.out.2.2.1, HA.out.2.2.2]
    go_wp2_with fail
    refine (stateBegun_any _).mono ?_
    rintro e wz ⟨rfl, hB2⟩
    have hBw := hBw.trans (hB2.mono hBw.size)
    clear hB2 l1 d0 d1 l2 c0 c1 c2 c3 c4 c5 c6 hpk hsk HC
    go_wp2_with fail
    go_ret
    exact ⟨by simp, hBw⟩

end Go.Proofs.Ytnoamojikbeadab

/- Texts that were built one behind the other, joined; what CountMore does not reach is left out. -/
import Derived.Test.YtbcacebifpagpafK3CountMore
import Derived.KernelRfl
import Derived.Test.YtbcacebifpagpafRows
import Derived.ProofKit
import Derived.OpenShut
import Derived.Lib.SmallJoins
import Derived.Deep.Slices
namespace Go.Proofs.Ytbcacebifpagpaf
open Go.RowKit Go.Shelf Go.Sort
set_option linter.unusedVariables false
theorem countE_avail {p : Pl} {s : St} {bin good seen : Int} (h : ¬ availE p s bin good = 0) : countE p s bin good seen = availE p s bin good := by
  unfold availE at h ⊢
  unfold countE
  by_cases h0 : stateE p s = 0
  · rw [if_pos h0] at h ⊢
    rw [if_pos h0]
    cases h1 : (inB bin 0 ((p.nb : Int) - 1) && inB good 0 ((p.ns : Int) - 1))
    · rfl
    · rw [h1] at h; exact absurd rfl h
  · rw [if_neg h0, if_neg h0]
theorem countIn0 {p : Pl} {s : St} {bin good : Int} (h : availE p s bin good = 0) : stateE p s = 0 ∧ ∃ b g : Nat, bin = b ∧ good = g ∧ b < p.nb ∧ g < p.ns := by
  unfold availE at h
  by_cases h0 : stateE p s = 0
  · rw [if_pos h0] at h
    cases h1 : (inB bin 0 ((p.nb : Int) - 1) && inB good 0 ((p.ns : Int) - 1))
    · rw [h1] at h; exact absurd h (by decide)
    · simp only [Bool.and_eq_true] at h1
      have q1 := inB_true h1.1
      have q2 := inB_true h1.2
      exact ⟨h0, bin.toNat, good.toNat, by omega, by omega, by omega, by omega⟩
  · rw [if_neg h0] at h; exact absurd h h0
theorem countE_range {p : Pl} {s : St} {b g : Nat} {seen : Int} (h : stateE p s = 0) (h2 : inB seen 0 200 = false) : countE p s b g seen = 3 := by
  unfold countE
  rw [if_pos h, h2, Bool.and_false]
  rfl
theorem countE_many {p : Pl} {s : St} {b g : Nat} {seen : Int} (h : stateE p s = 0) (hb : b < p.nb) (hg : g < p.ns) (h2 : inB seen 0 200 = true) (h3 : inB (s.sf.z g + (seen - (s.on.r b).z g)) (-1048576) 1048576 = false) : countE p s b g seen = 2 := by
  unfold countE
  have e : (Int.toNat (b : Int)) = b := rfl
  have e2 : (Int.toNat (g : Int)) = g := rfl
  rw [if_pos h, inB_mk (by omega), inB_mk (by omega), h2, e, e2, h3]
  rfl
theorem countIn_of {p : Pl} {s : St} {b g : Nat} {seen : Int} (h : stateE p s = 0) (hb : b < p.nb) (hg : g < p.ns) (h2 : inB seen 0 200 = true) (h3 : inB (s.sf.z g + (seen - (s.on.r b).z g)) (-1048576) 1048576 = true) : CountIn p s b g seen :=
  ⟨rightT h, hb, hg, (inB_true h2).1, (inB_true h2).2, inB_true h3⟩
theorem OwnS.setFix {A : Nat} {w : World} {s : St} {G : Nat} (h : OwnS A w s) (ha : s.sf.a = some ⟨G, 0, none⟩) (g : Nat) (x : Int) : OwnS A (w.setCell ⟨G, g, none⟩ (.int .i64 x)) (Go.Proofs.Ytbcacebifpagpaf.setFix s g x) := by
  obtain ⟨q, b1, b2, b3, b4, b5⟩ := h.sf
  rw [ha] at b1
  simp only [Option.some.injEq, Addr.mk.injEq, and_true] at b1
  subst b1
  refine ⟨?_, fun i hi => (h.rows i hi).apart (fun e => (h.ari i hi).2.2 (e.trans ha.symm)) _ _, h.rapart, h.os.other b5 (by decide) (by decide) _ _, h.hs.other b5 (by decide) _ _, h.ms.other b5 (by decide) _ _, h.msr.set _ _ _, h.si.apart (fun e => h.aif (e.trans ha.symm)) _ _, h.so.apart (fun e => h.aof (e.trans ha.symm)) _ _, h.sf.set ha _ _, h.aio, h.aif, h.aof, h.ari⟩
  obtain ⟨q', a0, a1, a2, a3, a4⟩ := h.on
  exact ⟨q', a0, a1, a2, a3, a4.other (a := ⟨G, g, none⟩) (Blk.ne2 a4 b5 (by decide)) _⟩
theorem CountIn.formed0 {p : Pl} {s : St} {b g : Nat} {seen : Int} (h : CountIn p s b g seen) : Formed p (fixOn s b g seen) := by
  have f := h.r.fm
  have G := h.right.fm
  exact ⟨G.sh, G.sh0, f.os4, f.ms8, f.lns, f.kind, f.line, f.hold, f.home, f.move, G.sin, G.son, G.sfn, G.sib, G.sob, G.sfb⟩
theorem CountIn.formed1 {p : Pl} {s : St} {b g : Nat} {seen : Int} (h : CountIn p s b g seen) : Formed p (fixOn (withMoves s (cutHs (fromF b g) s.ms (missZ s b g seen))) b g seen) := by
  have f := h.r.fm
  have G := h.right.fm
  exact ⟨G.sh, G.sh0, f.os4, G.ms8, f.lns, f.kind, f.line, f.hold, f.home, G.move, G.sin, G.son, G.sfn, G.sib, G.sob, G.sfb⟩
theorem CountIn.qmax {p : Pl} {s : St} {b g : Nat} {seen : Int} (h : CountIn p s b g seen) (o l : Int) : cutQs s b g (missZ s b g seen) o l ≤ 100000 := by
  have k := (cutQs_bd (b := b) (g := g) h.r h.miss0 o l).2
  have kb := keptS_bd (z := s.hs.z) o l s.hs.n fun q hq => (fineH_true (right_fine h.r.fm.hold q hq)).2.2.2
  have h72 := h.r.fm.hs72
  omega
theorem CountIn.cutted {p : Pl} {s x2 : St} {b g : Nat} {seen v : Int} (h : CountIn p s b g seen) (e : SameT x2 (fixOn s b g seen)) (hv : max 0 v = leftL (fromF b g) (missZ s b g seen) (moveR x2)) :
    let x3 := withMoves x2 (cutHs (fromF b g) x2.ms (missZ s b g seen))
    let Q := cutQ (heldF x3 b g) (max 0 v) (holdR x3)
    SameT (withHolds (backS x3 Q) (cutHs (heldF x3 b g) x3.hs (max 0 v))) (countS s b g seen) ∧ (∀ o l, Q o l = cutQs s b g (missZ s b g seen) o l) ∧ Formed p x3 := by
  have c := cutS_same h.formed0 e b g (missZ s b g seen)
  refine ⟨?_, fun o l => ?_, ?_⟩
  · have e1 : withHolds (backS (withMoves x2 (cutHs (fromF b g) x2.ms (missZ s b g seen))) (cutQ (heldF x2 b g) (max 0 v) (holdR x2))) (cutHs (heldF x2 b g) x2.hs (max 0 v)) = cutS x2 b g (missZ s b g seen) := by
      rw [hv]
      rfl
    exact e1 ▸ c.1
  · have e1 : cutQ (heldF x2 b g) (max 0 v) (holdR x2) o l = cutQs x2 b g (missZ s b g seen) o l := by
      rw [hv]
      rfl
    exact e1.trans (c.2 o l)
  · refine SameT.formed ?_ h.formed1
    have k : revL (cutHs (fromF b g) x2.ms (missZ s b g seen)).z (cutHs (fromF b g) x2.ms (missZ s b g seen)).n = revL (cutHs (fromF b g) s.ms (missZ s b g seen)).z (cutHs (fromF b g) s.ms (missZ s b g seen)).n := by
      rw [cutHs_rev, cutHs_rev, revL_same (h := x2.ms) (k := s.ms) e.ms.1 e.ms.2]
    exact ⟨e.on, e.os, e.hs, revL_inj k, e.si, e.so, e.sf⟩
set_option maxRecDepth 100000 in
set_option maxHeartbeats 4000000 in
theorem Count_any (p : Pl) (s : St) (bin good seen : Int) (w : World) (hp : p.At w) (hs : s.At w) :
    Calls Try.prog 7 #[p.val, s.val, .int .i64 bin, .int .i64 good, .int .i64 seen] w fun e w' => ∃ x : St, e = .returned (.tuple #[x.val, .int .i64 (countE p s bin good seen)]) ∧ x.At w' ∧ ActOK (countE p s bin good seen) (countT p s bin.toNat good.toNat seen) x ∧ (countE p s bin good seen = 0 → OwnS w.heap.size w' x) ∧ Below w.heap.size w w' := by
  obtain ⟨W0, hW, hWB, X0, Z0⟩ : ∃ W, (((w.alloc (.cells #[.slice p.ab p.nb p.cb, .slice p.sa p.ns p.cs] 25)).alloc (.cells s.cells 31)).alloc (.cells #[.slice .none 0 0, .slice .none 0 0, .slice .none 0 0, .slice .none 0 0, .slice .none 0 0, .slice .none 0 0, .slice .none 0 0] 31)) = W ∧ Below w.heap.size w W ∧ Boxes W w.heap.size (w.heap.size + 1) p s ∧ Blk W (w.heap.size + 2) 31 7 (fun _ => .slice .none 0 0) :=
    ⟨_, rfl, (two_below _ _ _).alloc (by simp; omega) _, (boxes_new w p s _ _).below ((Below.refl _ _).alloc (Nat.le_refl _) _), (Blk.mk' (cur := #[.slice .none 0 0, .slice .none 0 0, .slice .none 0 0, .slice .none 0 0, .slice .none 0 0, .slice .none 0 0, .slice .none 0 0]) (by simp) rfl).congr (fun j hj => by match j, hj with | 0, _ => rfl | 1, _ => rfl | 2, _ => rfl | 3, _ => rfl | 4, _ => rfl | 5, _ => rfl | 6, _ => rfl)⟩
  have HC : Hid (∀ wk, Below W0.heap.size W0 wk → Boxes wk w.heap.size (w.heap.size + 1) p s ∧ p.At wk ∧ s.At wk ∧ Below w.heap.size w wk ∧ Blk wk (w.heap.size + 2) 31 7 (fun _ => .slice .none 0 0)) := fun wk h => ⟨X0.below h, (hp.below hWB).below h, (hs.below hWB).below h, hWB.trans (h.mono hWB.size), Z0.below h⟩
  have HW : Hid (((w.alloc (.cells #[.slice p.ab p.nb p.cb, .slice p.sa p.ns p.cs] 25)).alloc (.cells #[.slice s.on.a s.on.n s.on.c, .slice s.os.a s.os.n s.os.c, .slice s.hs.a s.hs.n s.hs.c, .slice s.ms.a s.ms.n s.ms.c, .slice s.si.a s.si.n s.si.c, .slice s.so.a s.so.n s.so.c, .slice s.sf.a s.sf.n s.sf.c] 31)).alloc (.cells #[.slice .none 0 0, .slice .none 0 0, .slice .none 0 0, .slice .none 0 0, .slice .none 0 0, .slice .none 0 0, .slice .none 0 0] 31) = W0) := hW
  have leb := hp.leb
  have capb0 := hp.capb
  have les := hp.les
  have caps0 := hp.caps
  have capb := capb0
  have caps := caps0
  have zlt0 := Z0.lt
  unfold maxLen at capb caps
  have HSL : Hid ((s.on.n ≤ s.on.c ∧ s.on.c ≤ maxLen) ∧ s.sf.n ≤ s.sf.c ∧ s.sf.c ≤ maxLen) := ⟨⟨hs.on.le, hs.on.cap⟩, hs.sf.le, hs.sf.cap⟩
  clear hW X0 Z0 hp hs
  unfold Pl.val St.val
  go_enter Try.func7, Try.ntmps7
  go_wp2_with fail
  rw [HW.out]
  obtain ⟨X, hpk, hsk, hBw, hz⟩ := HC.out W0 (Below.refl _ _)
  refine (Avail_any p s bin good W0 hpk hsk).mono ?_
  rintro e w1 ⟨rfl, hB⟩
  clear X hpk hsk hBw hz HW
  obtain ⟨⟨⟨l1, d0, d1⟩, l2, c0, c1, c2, c3, c4, c5, c6⟩, hpk, hsk, hBw, hz⟩ := HC.out w1 hB
  by_cases h0 : availE p s bin good = 0
  · obtain ⟨hse, b, g, rfl, rfl, hb, hg⟩ := countIn0 h0
    have H0 : Hid (stateE p s = 0) := hse
    have HR : Hid (RightT p s) := rightT hse
    have HAV : Hid (availV p s b g = availZ s b g) := by show availV p s b g = _; unfold availV; rw [if_pos h0]; rfl
    rw [HAV.out, h0]
    clear h0 hse
    have son := HR.out.fm.sh.n
    have hbo : b < s.on.n := by omega
    have HLEN : Hid ((s.on.r b).n = p.ns) := HR.out.fm.sh.len b hbo
    cases h2 : inB seen 0 200
    · have HX : Hid (countE p s b g seen = 3) := countE_range H0.out h2
      have HNE : Hid (¬ countE p s b g seen = 0) := by show ¬ _; rw [HX.out]; decide
      generalize availZ s b g = AV at *
      clear hpk hsk
      have zl := hz.lt
      have zf0 := hz.frozen 0
      have zc0 := hz.cell (j := 0) (by decide)
      have zf1 := hz.frozen 1
      have zc1 := hz.cell (j := 1) (by decide)
      have zf2 := hz.frozen 2
      have zc2 := hz.cell (j := 2) (by decide)
      have zf3 := hz.frozen 3
      have zc3 := hz.cell (j := 3) (by decide)
      have zf4 := hz.frozen 4
      have zc4 := hz.cell (j := 4) (by decide)
      have zf5 := hz.frozen 5
      have zc5 := hz.cell (j := 5) (by decide)
      have zf6 := hz.frozen 6
      have zc6 := hz.cell (j := 6) (by decide)
      go_wp2_with (go_at_call 21; refine calls_to (Within_any _ _ _ _) ?_)
      have KZ := set7_blk hz (.slice .none 0 0) (.slice .none 0 0) (.slice .none 0 0) (.slice .none 0 0) (.slice .none 0 0) (.slice .none 0 0) (.slice .none 0 0)
      have hbz := set7_below (b := w.heap.size + 2) hBw (by omega) (.slice .none 0 0) (.slice .none 0 0) (.slice .none 0 0) (.slice .none 0 0) (.slice .none 0 0) (.slice .none 0 0) (.slice .none 0 0)
      unfold set7 at KZ hbz
      obtain ⟨c0', c1', c2', c3', c4', c5', c6'⟩ := box_cells KZ
      refine bodyPost_ret (v := .tuple #[noneS.val, .int .i64 3]) (by simp [results, Try.results7, go_sem, noneS, St.val, c0', c1', c2', c3', c4', c5', c6']) rfl ?_
      exact ⟨noneS, by rw [HX.out]; rfl, noneS_at _, ⟨fun h => absurd h (HNE.out), fun _ => ⟨rfl, rfl, rfl, rfl, rfl, rfl, rfl⟩⟩, fun h => absurd h (HNE.out), hbz⟩
    · have sb := inB_true h2
      obtain ⟨⟨onl, onc⟩, sfl, sfc⟩ := HSL.out
      unfold maxLen at onc sfc
      obtain ⟨bb, ob, hoa, hbb, e0, hrow⟩ := hsk.on.rows b hbo
      have HLG : g < (s.on.r b).n := by rw [HLEN.out]; exact hg
      obtain ⟨bg, og, hga, hbg, e1⟩ := hrow.ints g HLG
      have rl := hrow.le
      have rc := hrow.cap
      unfold maxLen at rc
      have sfn : g < s.sf.n := by rw [HR.out.fm.sfn]; exact hg
      obtain ⟨bf, of, hfa, hbf, e2⟩ := hsk.sf.ints g sfn
      have HOA : Hid (s.on.a = some ⟨bb, ob, none⟩) := hoa
      have HFA : Hid (s.sf.a = some ⟨bf, of, none⟩) := hfa
      rw [hoa] at c0
      rw [hga] at e0
      rw [hfa] at c6
      have q0 : (0 : Int) ≤ (b : Int) := by omega
      have q1 : (b : Int) < (s.on.n : Int) := by omega
      have q2 : (0 : Int) ≤ (g : Int) := by omega
      have q3 : (g : Int) < ((s.on.r b).n : Int) := by omega
      have q4 : (g : Int) < (s.sf.n : Int) := by omega
      have onb := HR.out.fm.sh.num b hbo g hg
      have sfb := HR.out.fm.sfb g hg
      have H2 : Hid (inB seen 0 200 = true) := h2
      clear hoa hga hfa hrow son
      cases h3 : inB (s.sf.z g + (seen - (s.on.r b).z g)) (-1048576) 1048576
      · have HX : Hid (countE p s b g seen = 2) := countE_many H0.out hb hg H2.out h3
        have HNE : Hid (¬ countE p s b g seen = 0) := by show ¬ _; rw [HX.out]; decide
        generalize (s.on.r b).z g = ON at *
        generalize s.sf.z g = SF at *
        generalize availZ s b g = AV at *
        clear hpk hsk
        have zl := hz.lt
        have zf0 := hz.frozen 0
        have zc0 := hz.cell (j := 0) (by decide)
        have zf1 := hz.frozen 1
        have zc1 := hz.cell (j := 1) (by decide)
        have zf2 := hz.frozen 2
        have zc2 := hz.cell (j := 2) (by decide)
        have zf3 := hz.frozen 3
        have zc3 := hz.cell (j := 3) (by decide)
        have zf4 := hz.frozen 4
        have zc4 := hz.cell (j := 4) (by decide)
        have zf5 := hz.frozen 5
        have zc5 := hz.cell (j := 5) (by decide)
        have zf6 := hz.frozen 6
        have zc6 := hz.cell (j := 6) (by decide)
        go_wp2_with (go_at_call 21; refine calls_to (Within_any _ _ _ _) ?_)
        have KZ := set7_blk hz (.slice .none 0 0) (.slice .none 0 0) (.slice .none 0 0) (.slice .none 0 0) (.slice .none 0 0) (.slice .none 0 0) (.slice .none 0 0)
        have hbz := set7_below (b := w.heap.size + 2) hBw (by omega) (.slice .none 0 0) (.slice .none 0 0) (.slice .none 0 0) (.slice .none 0 0) (.slice .none 0 0) (.slice .none 0 0) (.slice .none 0 0)
        unfold set7 at KZ hbz
        obtain ⟨c0', c1', c2', c3', c4', c5', c6'⟩ := box_cells KZ
        refine bodyPost_ret (v := .tuple #[noneS.val, .int .i64 2]) (by simp [results, Try.results7, go_sem, noneS, St.val, c0', c1', c2', c3', c4', c5', c6']) rfl ?_
        exact ⟨noneS, by rw [HX.out]; rfl, noneS_at _, ⟨fun h => absurd h (HNE.out), fun _ => ⟨rfl, rfl, rfl, rfl, rfl, rfl, rfl⟩⟩, fun h => absurd h (HNE.out), hbz⟩
      · have HCI : Hid (CountIn p s b g seen) := countIn_of H0.out hb hg H2.out h3
        have HX : Hid (countE p s b g seen = 0) := countE_of HCI.out
        have HCS : Hid (Calls Try.prog 22 #[s.val] w1 fun e w' => ∃ s' : St, e = .returned s'.val ∧ SameT s' s ∧ OwnS w1.heap.size w' s' ∧ Below w1.heap.size w1 w') := copyState_any p s w1 hsk HR.out.fm
        obtain ⟨ON, hON⟩ : ∃ ON, (s.on.r b).z g = ON := ⟨_, rfl⟩
        obtain ⟨SF, hSF⟩ : ∃ SF, s.sf.z g = SF := ⟨_, rfl⟩
        obtain ⟨AV, hAV⟩ : ∃ AV, availZ s b g = AV := ⟨_, rfl⟩
        have HV : Hid ((s.on.r b).z g = ON ∧ s.sf.z g = SF ∧ availZ s b g = AV) := ⟨hON, hSF, hAV⟩
        have avb : 0 ≤ AV ∧ AV ≤ ON := by
          have a := (goods_no (HR.out.goods g hg)).2 b hb
          have c := HCI.out.bound
          rw [hAV] at a c
          rw [hON] at c
          omega
        rw [hON] at e1 onb h3
        rw [hSF] at e2 sfb h3
        rw [hAV]
        clear hpk hsk hBw hz hON hSF hAV HAV
        go_wp2_with (go_at_call 21; refine calls_to (Within_any _ _ _ _) ?_)
        rw [← HOA.out, ← HFA.out]
        refine Calls.mono HCS.out ?_
        rintro e w4 ⟨o, rfl, hsame, hown, hB4⟩
        clear HCS l1 d0 d1 l2 c0 c1 c2 c3 c4 c5 c6 hbb e0 hbg e1 hbf e2 h2 h3 HOA HFA
        have A1 : W0.heap.size ≤ w1.heap.size := hB.size
        have A2 : w1.heap.size ≤ w4.heap.size := hB4.size
        have HLOW : Hid (w.heap.size ≤ W0.heap.size) := (HC.out _ (Below.refl _ _)).2.2.2.1.size
        obtain ⟨W5, hW5, hWB5, K5, M5⟩ : ∃ W, (w4.alloc (.map #[] 0)).alloc (.cells #[.slice o.on.a o.on.n o.on.c, .slice o.os.a o.os.n o.os.c, .slice o.hs.a o.hs.n o.hs.c, .slice o.ms.a o.ms.n o.ms.c, .slice o.si.a o.si.n o.si.c, .slice o.so.a o.so.n o.so.c, .slice o.sf.a o.sf.n o.sf.c, .int .i64 (b : Int), .int .i64 (g : Int), .map (some w4.heap.size)] 67) = W ∧ Below w4.heap.size w4 W ∧ Blk W (w4.heap.size + 1) 67 10 (cutC o b g w4.heap.size) ∧ MapQ W w4.heap.size (fun _ _ => 0) :=
          ⟨_, rfl, ((Below.refl _ _).alloc (Nat.le_refl _) _).alloc (by simp) _, (Blk.mk' (by simp) rfl).congr (fun j hj => by match j, hj with | 0, _ => rfl | 1, _ => rfl | 2, _ => rfl | 3, _ => rfl | 4, _ => rfl | 5, _ => rfl | 6, _ => rfl | 7, _ => rfl | 8, _ => rfl | 9, _ => rfl), (MapQ.new w4).below ((Below.refl _ _).alloc (Nat.le_refl _) _)⟩
        have HW5 : Hid ((w4.alloc (.map #[] 0)).alloc (.cells #[.slice o.on.a o.on.n o.on.c, .slice o.os.a o.os.n o.os.c, .slice o.hs.a o.hs.n o.hs.c, .slice o.ms.a o.ms.n o.ms.c, .slice o.si.a o.si.n o.si.c, .slice o.so.a o.so.n o.so.c, .slice o.sf.a o.sf.n o.sf.c, .int .i64 (b : Int), .int .i64 (g : Int), .map (some w4.heap.size)] 67) = W5) := hW5
        have hB14 := hB.trans (hB4.mono hB.size)
        have hB05 := hB14.trans (hWB5.mono hB14.size)
        have HM5 : Hid (OwnS w1.heap.size w4 o ∧ Below w4.heap.size w4 W5 ∧ Blk W5 (w4.heap.size + 1) 67 10 (cutC o b g w4.heap.size) ∧ MapQ W5 w4.heap.size (fun _ _ => 0) ∧ Below W0.heap.size W0 W5 ∧ SameT o s) := ⟨hown, hWB5, K5, M5, hB05, hsame⟩
        obtain ⟨⟨⟨l1, d0, d1⟩, l2, c0, -⟩, hpk, hsk, -, -⟩ := HC.out W5 hB05
        have hput : putE p s.on b g (seen - ON) = 0 := by
          have hu : shelfErr p s.on b g = 0 := by rw [shelfErr_eq HR.out.fm.sh0, inB_mk (by omega), inB_mk (by omega)]; rfl
          have e := HV.out.1
          have hi : inB (seen - ON) (-((s.on.r b).z g)) (200 - (s.on.r b).z g) = true := inB_mk (by omega)
          simp [putE, hu, hi]
        have HPU : Hid (Calls Try.prog 23 #[p.val, s.on.val, .int .i64 b, .int .i64 g, .int .i64 (seen - ON)] W5 fun e w' => ∃ s' : Sh, e = .returned (.tuple #[s'.val, .int .i64 0]) ∧ OwnR W5.heap.size w' s' ∧ s'.n = s.on.n ∧ (∀ i, i < s.on.n → (s'.r i).n = (s.on.r i).n ∧ ∀ j, j < (s.on.r i).n → (s'.r i).z j = putZ s.on b g (seen - ON) i j) ∧ Below W5.heap.size W5 w') := PutOwn_any p s.on b g (seen - ON) W5 hpk hsk.on hput
        rw [← HW5.out] at l1 d0 d1 l2 c0
        clear hW5 hWB5 K5 M5 hB14 hB05 hown hB4 hB hsame hpk hsk hput
        have hmm : ∀ (t : TypeId) (w : World), (Instr.makeMap t none).run Try.prog w = .ok (.map (some w.heap.size)) (w.alloc (.map #[] 0)) := fun _ _ => rfl
        simp only [St.val]
        go_wp2_with fail
        rw [HW5.out]
        clear l1 d0 d1 l2 c0 HW5 hmm
        refine Calls.mono HPU.out ?_
        rintro e w6 ⟨r6, rfl, hR, hRn, hRz, hB6⟩
        clear HPU
        have HX1 : Hid (SameT (setFix ⟨r6, o.os, o.hs, o.ms, o.si, o.so, o.sf⟩ g (SF + (seen - ON))) (fixOn s b g seen)) := by
          have e := HM5.out.2.2.2.2.2
          refine ⟨⟨hRn, fun i hi => ?_⟩, e.os, e.hs, e.ms, e.si, e.so, ⟨e.sf.1, fun j hj => ?_⟩⟩
          · have hi' : i < s.on.n := by rw [← hRn]; exact hi
            have k := hRz i hi'
            refine ⟨k.1.trans (setOn_len s b g seen i).symm, fun j hj => ?_⟩
            have hj' : j < (r6.r i).n := hj
            rw [fixOn_num]
            show (r6.r i).z j = _
            rw [k.2 j (by rw [← k.1]; exact hj')]
            show (if i = b ∧ j = g then (s.on.r i).z j + (seen - ON) else (s.on.r i).z j) = _
            by_cases c : i = b ∧ j = g
            · have hv := HV.out.1
              rw [if_pos c, if_pos c, c.1, c.2, hv]
              omega
            · rw [if_neg c, if_neg c]
          · have hj' : j < o.sf.n := hj
            have hv := HV.out
            show (if j = g then SF + (seen - ON) else o.sf.z j) = if j = g then s.sf.z g + (seen - (s.on.r b).z g) else s.sf.z j
            rw [hv.1, hv.2.1, e.sf.2 j hj']
        have HZ6 : Hid (o.sf.z g = SF) := (HM5.out.2.2.2.2.2.sf.2 g (by rw [HM5.out.2.2.2.2.2.sf.1]; exact sfn)).trans HV.out.2.1
        have b65 := HM5.out.2.1.size
        have B6 := HM5.out.2.2.1.below hB6
        have osn : g < o.sf.n := by rw [HM5.out.2.2.2.2.2.sf.1]; exact sfn
        have O4 := OwnS.below HM5.out.1 (HM5.out.2.1.trans (hB6.mono HM5.out.2.1.size))
        obtain ⟨G, ga, gA, gl, gle, gc, gcell, gfz⟩ := O4.sf.cellAt osn
        have gl4 : G < w4.heap.size := by
          obtain ⟨G', ga', -, gl', -⟩ := HM5.out.1.sf.cellAt osn
          rw [ga] at ga'
          simp only [Option.some.injEq, Addr.mk.injEq, and_true] at ga'
          omega
        unfold maxLen at gc
        rw [HZ6.out] at gcell
        have HGA : Hid (o.sf.a = some ⟨G, 0, none⟩) := ga
        have gne : ¬ G = w4.heap.size + 1 := by omega
        have gne2 : ¬ w4.heap.size + 1 = G := by omega
        have y0 := B6.lt
        have y1 := B6.frozen 0
        have y2 := B6.cell (j := 0) (by decide)
        have y3 : w6.cell? ⟨w4.heap.size + 1, 6, none⟩ = some (.slice (some ⟨G, 0, none⟩) o.sf.n o.sf.c) := by have h := B6.cell (j := 6) (by decide); rw [← ga]; exact h
        have gf := gfz g
        have q5 : (g : Int) < (o.sf.n : Int) := by omega
        have HI : Hid (CutI w1.heap.size (w4.heap.size + 1) w4.heap.size W0 (setFix ⟨r6, o.os, o.hs, o.ms, o.si, o.so, o.sf⟩ g (SF + (seen - ON))) b g (fun _ _ => 0) ((w6.setCell ⟨w4.heap.size + 1, 0, none⟩ (.slice r6.a r6.n r6.c)).setCell ⟨G, g, none⟩ (.int .i64 (SF + (seen - ON))))) := by
          have m6 := HM5.out.2.2.2.1.below hB6
          have bl := HM5.out.2.2.2.2.1.trans (hB6.mono HM5.out.2.2.2.2.1.size)
          have o1 := OwnS.swap HM5.out.1 (HM5.out.2.1.trans (hB6.mono HM5.out.2.1.size)) hR b65 (by omega)
          have o2 := OwnS.boxC o1 B6 0 (.slice r6.a r6.n r6.c)
          have o3 := o2.setFix (G := G) ga g (SF + (seen - ON))
          have k2 := B6.set 0 (.slice r6.a r6.n r6.c)
          have sz := hB6.size
          obtain ⟨Gq, gq1, -, -, -, gq5⟩ := o2.sf
          have gq : G = Gq := by have e : o.sf.a = some ⟨Gq, 0, none⟩ := gq1; rw [ga] at e; simpa using e
          subst gq
          have m7 := m6.set (j := 0) (B6.noMap m6) (.slice r6.a r6.n r6.c)
          refine ⟨o3, (k2.other (a := ⟨G, g, none⟩) gne2 _).congr (fun j hj => by match j, hj with | 0, _ => rfl | 1, _ => rfl | 2, _ => rfl | 3, _ => rfl | 4, _ => rfl | 5, _ => rfl | 6, _ => rfl | 7, _ => rfl | 8, _ => rfl | 9, _ => rfl), m7.set (j := g) (gq5.noMap m7) _, (bl.setCell (p := ⟨w4.heap.size + 1, 0, none⟩) (by show W0.heap.size ≤ w4.heap.size + 1; omega) _).setCell (p := ⟨G, g, none⟩) (by show W0.heap.size ≤ G; omega) _, by simp; omega, A1, by omega, A2⟩
        have HMZ : Hid (max 0 (-(seen - ON) - AV) = missZ s b g seen) := by
          have k := HCI.out.bound
          have v := HV.out
          rw [v.1, v.2.2] at k
          show max 0 (-(seen - ON) - AV) = _
          unfold missZ
          omega
        generalize hX2 : setFix ⟨r6, o.os, o.hs, o.ms, o.si, o.so, o.sf⟩ g (SF + (seen - ON)) = x2 at HX1 HI
        clear hX2 gfz B6 O4 hR hRn hRz hB6 ga gA HM5 HZ6 gle
        simp only [Sh.val]
        go_wp2_with fail
        clear y0 y1 y2 y3 gf gcell gl gl4 gne gne2 b65
        obtain ⟨wB, hwB⟩ : ∃ wB, ((w6.setCell ⟨w4.heap.size + 1, 0, none⟩ (.slice r6.a r6.n r6.c)).setCell ⟨G, g, none⟩ (.int .i64 (SF + (seen - ON)))) = wB := ⟨_, rfl⟩
        rw [hwB] at HI ⊢
        clear hwB
        have f0 := HCI.out.formed0
        have HCM : Hid (Calls Try.prog 25 #[.pointer (some ⟨w4.heap.size + 1, 0, none⟩), .int .i64 (-(seen - ON) - AV)] wB fun e w' => ∃ v : Int, e = .returned (.int .i64 v) ∧ max 0 v = leftL (fromF b g) (missZ s b g seen) (moveR x2) ∧ (-100000 ≤ v ∧ v ≤ 100000) ∧ CutI w1.heap.size (w4.heap.size + 1) w4.heap.size W0 (withMoves x2 (cutHs (fromF b g) x2.ms (missZ s b g seen))) b g (fun _ _ => 0) w') := by
          have h := cutMoves_any w1.heap.size (w4.heap.size + 1) w4.heap.size W0 x2 b g (fun _ _ => 0) (-(seen - ON) - AV) wB HI.out (fun j hj => by
            rw [HX1.out.ms.2 j hj]
            have := f0.moveN j (by rw [← HX1.out.ms.1]; exact hj)
            omega) (by rw [HX1.out.ms.1]; exact f0.ms8) (by omega)
          rw [HMZ.out] at h
          exact h
        clear f0 HI
        refine Calls.mono HCM.out ?_
        rintro e w7 ⟨v, rfl, hv, hvb, hI7⟩
        clear HCM
        have CT := HCI.out.cutted HX1.out hv
        obtain ⟨ct1, ct2, ct3⟩ := CT
        obtain ⟨x3, hx3⟩ : ∃ x3, withMoves x2 (cutHs (fromF b g) x2.ms (missZ s b g seen)) = x3 := ⟨_, rfl⟩
        rw [hx3] at hI7 ct3
        have ct1' : SameT (withHolds (backS x3 (cutQ (heldF x3 b g) (max 0 v) (holdR x3))) (cutHs (heldF x3 b g) x3.hs (max 0 v))) (countS s b g seen) := by rw [← hx3]; exact ct1
        have ct2' : ∀ o l, cutQ (heldF x3 b g) (max 0 v) (holdR x3) o l = cutQs s b g (missZ s b g seen) o l := by rw [← hx3]; exact ct2
        clear ct1 ct2 hx3 hv
        have HCH := cutHolds_any p w1.heap.size (w4.heap.size + 1) w4.heap.size W0 x3 b g v w7 hI7 ct3 hvb (fun o l => by rw [ct2' o l]; exact HCI.out.qmax o l)
        obtain ⟨QQ, hQQ⟩ : ∃ QQ, cutQ (heldF x3 b g) (max 0 v) (holdR x3) = QQ := ⟨_, rfl⟩
        rw [hQQ] at HCH ct1' ct2'
        obtain ⟨x4, hx4⟩ : ∃ x4, withHolds (backS x3 QQ) (cutHs (heldF x3 b g) x3.hs (max 0 v)) = x4 := ⟨_, rfl⟩
        rw [hx4] at HCH ct1'
        have HCH2 : Hid (Calls Try.prog 24 #[.pointer (some ⟨w4.heap.size + 1, 0, none⟩), .int .i64 v] w7 fun e w' => e = .returned (.tuple #[]) ∧ CutI w1.heap.size (w4.heap.size + 1) w4.heap.size W0 x4 b g QQ w') := HCH
        have HS4 : Hid (SameT x4 (countS s b g seen) ∧ ∀ o l, QQ o l = cutQs s b g (missZ s b g seen) o l) := ⟨ct1', ct2'⟩
        clear HCH ct1' ct2' ct3 hQQ hx4 hI7 hvb HX1 HMZ
        go_wp2_with fail
        refine Calls.mono HCH2.out ?_
        rintro e w8 ⟨rfl, hI8⟩
        clear HCH2
        have HI8 : Hid (CutI w1.heap.size (w4.heap.size + 1) w4.heap.size W0 x4 b g QQ w8) := hI8
        obtain ⟨⟨⟨l1, d0, d1⟩, -⟩, -⟩ := HC.out w8 hI8.bel
        have HTE : Hid (Calls Try.prog 26 #[.pointer (some ⟨w4.heap.size + 1, 0, none⟩), p.val] w8 fun e w' => e = .returned (.tuple #[]) ∧ ∃ y, TkAll p b (fun i j => QQ i j) (relM x4) x4 x4.os.n y ∧ CutI w1.heap.size (w4.heap.size + 1) w4.heap.size W0 y b g QQ w') :=
          takeElsewhere_any p w1.heap.size (w4.heap.size + 1) w4.heap.size W0 x4 b g QQ w8 hI8 (fun wk hb => (HC.out wk hb).2.1) (HCI.out.qin.same HS4.out.1 fun i j _ _ => HS4.out.2 i j)
        clear hI8 HI8
        go_wp2_with fail
        clear l1 d0 d1
        refine Calls.mono HTE.out ?_
        rintro e w9 ⟨rfl, y, hT, hI9⟩
        clear HTE
        have HY : Hid (SameT y (countT p s b g seen)) := by
          refine TkAll.same HCI.out.qin (fun _ _ => rfl) (Nat.le_refl s.os.n) HCI.out.all ?_
          have n4 : x4.os.n = s.os.n := HS4.out.1.os.1
          rw [n4] at hT
          refine TkAll.base (m' := relM x4) HS4.out.1 (fun _ _ => rfl) (fun i hi => ?_) (fun i j _ _ => HS4.out.2 i j) (Nat.le_refl s.os.n) hT
          exact (HS4.out.1.os.2 i (by rw [n4]; exact hi)).2.1
        have HI9 : Hid (CutI w1.heap.size (w4.heap.size + 1) w4.heap.size W0 y b g QQ w9) := hI9
        obtain ⟨pm, p0, p1, p2, p3, p4, p5, p6, -, -, -⟩ := hI9.boxed
        obtain ⟨-, -, -, hBw, hz⟩ := HC.out w9 hI9.bel
        have HZ : Hid (Below w.heap.size w w9 ∧ Blk w9 (w.heap.size + 2) 31 7 (fun _ => .slice .none 0 0)) := ⟨hBw, hz⟩
        have zl := hz.lt
        have zf0 := hz.frozen 0
        have zc0 := hz.cell (j := 0) (by decide)
        have zf1 := hz.frozen 1
        have zc1 := hz.cell (j := 1) (by decide)
        have zf2 := hz.frozen 2
        have zc2 := hz.cell (j := 2) (by decide)
        have zf3 := hz.frozen 3
        have zc3 := hz.cell (j := 3) (by decide)
        have zf4 := hz.frozen 4
        have zc4 := hz.cell (j := 4) (by decide)
        have zf5 := hz.frozen 5
        have zc5 := hz.cell (j := 5) (by decide)
        have zf6 := hz.frozen 6
        have zc6 := hz.cell (j := 6) (by decide)
        clear hBw hz hI9 hT HS4
        go_wp2_with fail
        have KZ := set7_blk HZ.out.2 (.slice y.on.a y.on.n y.on.c) (.slice y.os.a y.os.n y.os.c) (.slice y.hs.a y.hs.n y.hs.c) (.slice y.ms.a y.ms.n y.ms.c) (.slice y.si.a y.si.n y.si.c) (.slice y.so.a y.so.n y.so.c) (.slice y.sf.a y.sf.n y.sf.c)
        have hbz := set7_below (b := w.heap.size + 2) HZ.out.1 (by omega) (.slice y.on.a y.on.n y.on.c) (.slice y.os.a y.os.n y.os.c) (.slice y.hs.a y.hs.n y.hs.c) (.slice y.ms.a y.ms.n y.ms.c) (.slice y.si.a y.si.n y.si.c) (.slice y.so.a y.so.n y.so.c) (.slice y.sf.a y.sf.n y.sf.c)
        have hOz := OwnS.set7 HI9.out.own HZ.out.2 (.slice y.on.a y.on.n y.on.c) (.slice y.os.a y.os.n y.os.c) (.slice y.hs.a y.hs.n y.hs.c) (.slice y.ms.a y.ms.n y.ms.c) (.slice y.si.a y.si.n y.si.c) (.slice y.so.a y.so.n y.so.c) (.slice y.sf.a y.sf.n y.sf.c)
        unfold set7 at KZ hbz hOz
        obtain ⟨c0', c1', c2', c3', c4', c5', c6'⟩ := box_cells KZ
        refine bodyPost_ret (v := .tuple #[y.val, .int .i64 0]) (by simp [results, Try.results7, go_sem, St.val, c0', c1', c2', c3', c4', c5', c6']) rfl ?_
        exact ⟨y, by rw [HX.out]; rfl, hOz.at, ⟨fun _ => HY.out, fun h => absurd HX.out h⟩, fun _ => hOz.mono (Nat.le_trans HLOW.out A1), hbz⟩
  · have HX : Hid (countE p s bin good seen = availE p s bin good) := countE_avail h0
    have HNE : Hid (¬ countE p s bin good seen = 0) := by show ¬ _; rw [countE_avail h0]; exact h0
    have g0 : (availE p s bin good != 0) = true := by simpa using h0
    clear h0
    generalize availV p s bin good = AV at *
    generalize availE p s bin good = AE at *
    clear hpk hsk
    have zl := hz.lt
    have zf0 := hz.frozen 0
    have zc0 := hz.cell (j := 0) (by decide)
    have zf1 := hz.frozen 1
    have zc1 := hz.cell (j := 1) (by decide)
    have zf2 := hz.frozen 2
    have zc2 := hz.cell (j := 2) (by decide)
    have zf3 := hz.frozen 3
    have zc3 := hz.cell (j := 3) (by decide)
    have zf4 := hz.frozen 4
    have zc4 := hz.cell (j := 4) (by decide)
    have zf5 := hz.frozen 5
    have zc5 := hz.cell (j := 5) (by decide)
    have zf6 := hz.frozen 6
    have zc6 := hz.cell (j := 6) (by decide)
    go_wp2_with fail
    have KZ := set7_blk hz (.slice .none 0 0) (.slice .none 0 0) (.slice .none 0 0) (.slice .none 0 0) (.slice .none 0 0) (.slice .none 0 0) (.slice .none 0 0)
    have hbz := set7_below (b := w.heap.size + 2) hBw (by omega) (.slice .none 0 0) (.slice .none 0 0) (.slice .none 0 0) (.slice .none 0 0) (.slice .none 0 0) (.slice .none 0 0) (.slice .none 0 0)
    unfold set7 at KZ hbz
    obtain ⟨c0', c1', c2', c3', c4', c5', c6'⟩ := box_cells KZ
    refine bodyPost_ret (v := .tuple #[noneS.val, .int .i64 AE]) (by simp [results, Try.results7, go_sem, noneS, St.val, c0', c1', c2', c3', c4', c5', c6']) rfl ?_
    exact ⟨noneS, by rw [HX.out]; rfl, noneS_at _, ⟨fun h => absurd h (HNE.out), fun _ => ⟨rfl, rfl, rfl, rfl, rfl, rfl, rfl⟩⟩, fun h => absurd h (HNE.out), hbz⟩
end Go.Proofs.Ytbcacebifpagpaf
namespace Go.Proofs.Ytbcacebifpagpaf
open Go.RowKit Go.Shelf Go.Sort
set_option linter.unusedVariables false
theorem countBusy (g1 g2 g : Nat) : countE (yardP g1 g2) (busyS g 2 0) 0 0 1 = 0 ∧ countE (yardP g1 g2) (busyS g 2 0) 2 1 9 = 0 ∧ countE (yardP g1 g2) (busyS g 2 0) 3 0 1 = 3 := ⟨by kernel_rfl, by kernel_rfl, by kernel_rfl⟩
def CountA (x : St) : Prop := 0 < x.on.n ∧ 0 < (x.on.r 0).n ∧ (x.on.r 0).z 0 = 1 ∧ 0 < x.sf.n ∧ x.sf.z 0 = -8 ∧ x.ms.n = 0 ∧ 0 < x.hs.n ∧ x.hs.z 0 = ⟨0, 0, 0, 1⟩ ∧ 0 < x.os.n ∧ 0 < (x.os.z 0).ls.n ∧ (x.os.z 0).ls.z 0 = ⟨0, 6, 1, 1⟩
theorem CountA_mk {g1 g2 g : Nat} {x : St} (h : ActOK (countE (yardP g1 g2) (busyS g 2 0) 0 0 1) (countT (yardP g1 g2) (busyS g 2 0) (0 : Int).toNat (0 : Int).toNat 1) x) : CountA x := by
  have e : SameT x (countT (yardP g1 g2) (busyS g 2 0) 0 0 1) := h.1 (countBusy g1 g2 g).1
  have a1 : 0 < x.on.n := by rw [e.on.1]; exact of_decide_eq_true (by kernel_rfl)
  have b1 : 0 < (x.on.r 0).n := by rw [(e.on.2 0 a1).1]; exact of_decide_eq_true (by kernel_rfl)
  have c1 : (x.on.r 0).z 0 = 1 := by rw [(e.on.2 0 a1).2 0 b1]; kernel_rfl
  have a2 : 0 < x.sf.n := by rw [e.sf.1]; exact of_decide_eq_true (by kernel_rfl)
  have b2 : x.sf.z 0 = -8 := by rw [e.sf.2 0 a2]; kernel_rfl
  have a3 : x.ms.n = 0 := by rw [e.ms.1]; kernel_rfl
  have a4 : 0 < x.hs.n := by rw [e.hs.1]; exact of_decide_eq_true (by kernel_rfl)
  have b4 : x.hs.z 0 = ⟨0, 0, 0, 1⟩ := by rw [e.hs.2 0 a4]; kernel_rfl
  have a5 : 0 < x.os.n := by rw [e.os.1]; exact of_decide_eq_true (by kernel_rfl)
  have b5 : 0 < (x.os.z 0).ls.n := by rw [(e.os.2 0 a5).2.1]; exact of_decide_eq_true (by kernel_rfl)
  have c5 : (x.os.z 0).ls.z 0 = ⟨0, 6, 1, 1⟩ := by rw [(e.os.2 0 a5).2.2 0 b5]; kernel_rfl
  exact ⟨a1, b1, c1, a2, b2, a3, a4, b4, a5, b5, c5⟩
def CountB (y : St) : Prop := 2 < y.on.n ∧ 1 < (y.on.r 2).n ∧ (y.on.r 2).z 1 = 9 ∧ 1 < y.sf.n ∧ y.sf.z 1 = 3 ∧ 0 < y.os.n ∧ 1 < (y.os.z 0).ls.n ∧ (y.os.z 0).ls.z 1 = ⟨1, 9, 0, 3⟩
theorem CountB_mk {g1 g2 g : Nat} {y : St} (h : ActOK (countE (yardP g1 g2) (busyS g 2 0) 2 1 9) (countT (yardP g1 g2) (busyS g 2 0) (2 : Int).toNat (1 : Int).toNat 9) y) : CountB y := by
  have e : SameT y (countT (yardP g1 g2) (busyS g 2 0) 2 1 9) := h.1 (countBusy g1 g2 g).2.1
  have a1 : 2 < y.on.n := by rw [e.on.1]; exact of_decide_eq_true (by kernel_rfl)
  have b1 : 1 < (y.on.r 2).n := by rw [(e.on.2 2 a1).1]; exact of_decide_eq_true (by kernel_rfl)
  have c1 : (y.on.r 2).z 1 = 9 := by rw [(e.on.2 2 a1).2 1 b1]; kernel_rfl
  have a2 : 1 < y.sf.n := by rw [e.sf.1]; exact of_decide_eq_true (by kernel_rfl)
  have b2 : y.sf.z 1 = 3 := by rw [e.sf.2 1 a2]; kernel_rfl
  have a3 : 0 < y.os.n := by rw [e.os.1]; exact of_decide_eq_true (by kernel_rfl)
  have b3 : 1 < (y.os.z 0).ls.n := by rw [(e.os.2 0 a3).2.1]; exact of_decide_eq_true (by kernel_rfl)
  have c3 : (y.os.z 0).ls.z 1 = ⟨1, 9, 0, 3⟩ := by rw [(e.os.2 0 a3).2.2 1 b3]; kernel_rfl
  exact ⟨a1, b1, c1, a2, b2, a3, b3, c3⟩
set_option maxRecDepth 100000 in
set_option maxHeartbeats 8000000 in
theorem countBegun_any (w : World) :
    Calls Try.prog 8 #[] w fun e w' => e = .returned (.bool true) ∧ Below w.heap.size w w' := by
  go_enter Try.func8, Try.ntmps8
  have HB : Hid (Below w.heap.size w w) := Below.refl _ _
  go_wp2_with fail
  refine (yard_any _).mono ?_
  rintro e wa ⟨g1, g2, rfl, -, -, k1, k2, hA⟩
  go_wp2_with fail
  refine (busy_any _).mono ?_
  rintro e wb ⟨g, rfl, -, bb, hB⟩
  have hD := hA.trans (hB.mono hA.size)
  have HAT : Hid ((yardP g1 g2).At wb ∧ (busyS g 2 0).At wb) := ⟨yardAt (k1.below hB) (k2.below hB), busyAt bb⟩
  clear hA hB k1 k2 bb
  simp only [busyS, St.val]
  go_wp2_with fail
  refine (Count_any (yardP g1 g2) (busyS g 2 0) 0 0 1 wb HAT.out.1 HAT.out.2).mono ?_
  rintro e w1 ⟨x, rfl, atx, okx, -, hB⟩
  have hE := hD.trans (hB.mono hD.size)
  rw [(countBusy g1 g2 g).1]
  have HPx : Hid (CountA x) := CountA_mk okx
  clear hD hB HAT okx
  obtain ⟨V0, hW, hWB, K1⟩ : ∃ W, w1.alloc (.cells #[.slice x.on.a x.on.n x.on.c, .slice x.os.a x.os.n x.os.c, .slice x.hs.a x.hs.n x.hs.c, .slice x.ms.a x.ms.n x.ms.c, .slice x.si.a x.si.n x.si.c, .slice x.so.a x.so.n x.so.c, .slice x.sf.a x.sf.n x.sf.c] 31) = W ∧ Below w1.heap.size w1 W ∧ Blk W w1.heap.size 31 7 (fun j => x.cells.getD j default) := ⟨_, rfl, (Below.refl _ _).alloc (Nat.le_refl _) _, Blk.mk' rfl rfl⟩
  have HW : Hid (w1.alloc (.cells #[.slice x.on.a x.on.n x.on.c, .slice x.os.a x.os.n x.os.c, .slice x.hs.a x.hs.n x.hs.c, .slice x.ms.a x.ms.n x.ms.c, .slice x.si.a x.si.n x.si.c, .slice x.so.a x.so.n x.so.c, .slice x.sf.a x.sf.n x.sf.c] 31) = V0) := hW
  have hE := hE.trans (hWB.mono hE.size)
  have HB : Hid (Below w.heap.size w V0) := HB.out.trans (hE.mono HB.out.size)
  have Hx : Hid (x.At V0 ∧ Blk V0 w1.heap.size 31 7 (fun j => x.cells.getD j default)) := ⟨atx.below hWB, K1⟩
  clear atx
  clear hW K1 hWB hE
  simp only [St.val]
  go_wp2_with fail
  rw [HW.out]
  clear HW
  generalize w1.heap.size = Bx at *
  refine (yard_any _).mono ?_
  rintro e wa ⟨g1, g2, rfl, -, -, k1, k2, hA⟩
  go_wp2_with fail
  refine (busy_any _).mono ?_
  rintro e wb ⟨g, rfl, -, bb, hB⟩
  have hD := hA.trans (hB.mono hA.size)
  have HAT : Hid ((yardP g1 g2).At wb ∧ (busyS g 2 0).At wb) := ⟨yardAt (k1.below hB) (k2.below hB), busyAt bb⟩
  clear hA hB k1 k2 bb
  simp only [busyS, St.val]
  go_wp2_with fail
  refine (Count_any (yardP g1 g2) (busyS g 2 0) 2 1 9 wb HAT.out.1 HAT.out.2).mono ?_
  rintro e w2 ⟨y, rfl, aty, oky, -, hB⟩
  have hE := hD.trans (hB.mono hD.size)
  rw [(countBusy g1 g2 g).2.1]
  have HPy : Hid (CountB y) := CountB_mk oky
  clear hD hB HAT oky
  obtain ⟨V1, hW, hWB, K1⟩ : ∃ W, w2.alloc (.cells #[.slice y.on.a y.on.n y.on.c, .slice y.os.a y.os.n y.os.c, .slice y.hs.a y.hs.n y.hs.c, .slice y.ms.a y.ms.n y.ms.c, .slice y.si.a y.si.n y.si.c, .slice y.so.a y.so.n y.so.c, .slice y.sf.a y.sf.n y.sf.c] 31) = W ∧ Below w2.heap.size w2 W ∧ Blk W w2.heap.size 31 7 (fun j => y.cells.getD j default) := ⟨_, rfl, (Below.refl _ _).alloc (Nat.le_refl _) _, Blk.mk' rfl rfl⟩
  have HW : Hid (w2.alloc (.cells #[.slice y.on.a y.on.n y.on.c, .slice y.os.a y.os.n y.os.c, .slice y.hs.a y.hs.n y.hs.c, .slice y.ms.a y.ms.n y.ms.c, .slice y.si.a y.si.n y.si.c, .slice y.so.a y.so.n y.so.c, .slice y.sf.a y.sf.n y.sf.c] 31) = V1) := hW
  have hE := hE.trans (hWB.mono hE.size)
  have HB : Hid (Below w.heap.size w V1) := HB.out.trans (hE.mono HB.out.size)
  have Hx : Hid (x.At V1 ∧ Blk V1 Bx 31 7 (fun j => x.cells.getD j default)) := ⟨Hx.out.1.below hE, Hx.out.2.below hE⟩
  have Hy : Hid (y.At V1 ∧ Blk V1 w2.heap.size 31 7 (fun j => y.cells.getD j default)) := ⟨aty.below hWB, K1⟩
  clear aty
  clear hW K1 hWB hE
  simp only [St.val]
  go_wp2_with fail
  rw [HW.out]
  clear HW
  generalize w2.heap.size = By at *
  refine (yard_any _).mono ?_
  rintro e wa ⟨g1, g2, rfl, -, -, k1, k2, hA⟩
  go_wp2_with fail
  refine (busy_any _).mono ?_
  rintro e wb ⟨g, rfl, -, bb, hB⟩
  have hD := hA.trans (hB.mono hA.size)
  have HAT : Hid ((yardP g1 g2).At wb ∧ (busyS g 2 0).At wb) := ⟨yardAt (k1.below hB) (k2.below hB), busyAt bb⟩
  clear hA hB k1 k2 bb
  simp only [busyS, St.val]
  go_wp2_with fail
  refine (Count_any (yardP g1 g2) (busyS g 2 0) 3 0 1 wb HAT.out.1 HAT.out.2).mono ?_
  rintro e w3 ⟨u, rfl, -, -, -, hB⟩
  have hE := hD.trans (hB.mono hD.size)
  rw [(countBusy g1 g2 g).2.2]
  clear hD hB HAT
  obtain ⟨V2, hW, hWB, K1⟩ : ∃ W, w3.alloc (.cells #[.slice u.on.a u.on.n u.on.c, .slice u.os.a u.os.n u.os.c, .slice u.hs.a u.hs.n u.hs.c, .slice u.ms.a u.ms.n u.ms.c, .slice u.si.a u.si.n u.si.c, .slice u.so.a u.so.n u.so.c, .slice u.sf.a u.sf.n u.sf.c] 31) = W ∧ Below w3.heap.size w3 W ∧ Blk W w3.heap.size 31 7 (fun j => u.cells.getD j default) := ⟨_, rfl, (Below.refl _ _).alloc (Nat.le_refl _) _, Blk.mk' rfl rfl⟩
  have HW : Hid (w3.alloc (.cells #[.slice u.on.a u.on.n u.on.c, .slice u.os.a u.os.n u.os.c, .slice u.hs.a u.hs.n u.hs.c, .slice u.ms.a u.ms.n u.ms.c, .slice u.si.a u.si.n u.si.c, .slice u.so.a u.so.n u.so.c, .slice u.sf.a u.sf.n u.sf.c] 31) = V2) := hW
  have hE := hE.trans (hWB.mono hE.size)
  have HB : Hid (Below w.heap.size w V2) := HB.out.trans (hE.mono HB.out.size)
  have Hx : Hid (x.At V2 ∧ Blk V2 Bx 31 7 (fun j => x.cells.getD j default)) := ⟨Hx.out.1.below hE, Hx.out.2.below hE⟩
  have Hy : Hid (y.At V2 ∧ Blk V2 By 31 7 (fun j => y.cells.getD j default)) := ⟨Hy.out.1.below hE, Hy.out.2.below hE⟩
  clear hW K1 hWB hE
  obtain ⟨xm, xc0, xc1, xc2, xc3, xc4, xc5, xc6⟩ := Boxed.of Hx.out.2
  obtain ⟨xh0, xh1, xh2, xh3, xh4, xh5, xh6, xh7, xh8, xh9, xh10⟩ := HPx.out
  obtain ⟨x1b, x1o, x1a, x1l, x1c, x1r⟩ := Hx.out.1.on.rows 0 xh0
  have Hx1a : Hid (x.on.a = some ⟨x1b, x1o, none⟩) := x1a
  rw [x1a] at xc0
  have x1u := Hx.out.1.on.le
  have x1v := Hx.out.1.on.cap
  unfold maxLen at x1v
  clear x1a
  obtain ⟨x1B, x1O, x1A, x1L, x1C⟩ := x1r.ints 0 xh1
  rw [x1A] at x1c
  rw [xh2] at x1C
  have x1x := x1r.le
  have x1y := x1r.cap
  unfold maxLen at x1y
  have x1N : (0 : Int) < ((x.on.r 0).n : Int) := by omega
  have x1M : (0 : Int) < (x.on.n : Int) := by omega
  clear x1A x1r
  obtain ⟨x2B, x2O, x2A, x2L, x2C⟩ := Hx.out.1.sf.ints 0 xh3
  rw [x2A] at xc6
  rw [xh4] at x2C
  have x2x := Hx.out.1.sf.le
  have x2y := Hx.out.1.sf.cap
  unfold maxLen at x2y
  have x2N : (0 : Int) < (x.sf.n : Int) := by omega
  clear x2A
  obtain ⟨x4B, x4O, x4A, x4L, x4C0, x4C1, x4C2, x4C3⟩ := Hx.out.1.hs.hds 0 xh6
  rw [x4A] at xc2
  rw [xh7] at x4C0 x4C1 x4C2 x4C3
  dsimp only at x4C0 x4C1 x4C2 x4C3
  have x4x := Hx.out.1.hs.le
  have x4y := Hx.out.1.hs.cap
  unfold maxLen at x4y
  have x4N : (0 : Int) < (x.hs.n : Int) := by omega
  clear x4A
  obtain ⟨x5b, x5o, x5a, x5l, x5k, x5c, x5r⟩ := Hx.out.1.os.ods 0 xh8
  rw [x5a] at xc1
  have x5u := Hx.out.1.os.le
  have x5v := Hx.out.1.os.cap
  unfold maxLen at x5v
  have x5M : (0 : Int) < (x.os.n : Int) := by omega
  clear x5a
  obtain ⟨x5B, x5O, x5A, x5L, x5C0, x5C1, x5C2, x5C3⟩ := x5r.hds 0 xh9
  rw [x5A] at x5c
  rw [xh10] at x5C0 x5C1 x5C2 x5C3
  dsimp only at x5C0 x5C1 x5C2 x5C3
  have x5x := x5r.le
  have x5y := x5r.cap
  unfold maxLen at x5y
  have x5N : (0 : Int) < ((x.os.z 0).ls.n : Int) := by omega
  clear x5A
  try rw [xh5] at xc3
  try simp only [Nat.zero_mul, Nat.add_zero] at x1l x1c x1L x1C x2L x2C x4L x4C0 x4C1 x4C2 x4C3 x5l x5k x5c x5L x5C0 x5C1 x5C2 x5C3
  clear x5r
  obtain ⟨ym, yc0, yc1, yc2, yc3, yc4, yc5, yc6⟩ := Boxed.of Hy.out.2
  obtain ⟨yh0, yh1, yh2, yh3, yh4, yh5, yh6, yh7⟩ := HPy.out
  obtain ⟨y1b, y1o, y1a, y1l, y1c, y1r⟩ := Hy.out.1.on.rows 2 yh0
  have Hy1a : Hid (y.on.a = some ⟨y1b, y1o, none⟩) := y1a
  rw [y1a] at yc0
  have y1u := Hy.out.1.on.le
  have y1v := Hy.out.1.on.cap
  unfold maxLen at y1v
  clear y1a
  obtain ⟨y1B, y1O, y1A, y1L, y1C⟩ := y1r.ints 1 yh1
  rw [y1A] at y1c
  rw [yh2] at y1C
  have y1x := y1r.le
  have y1y := y1r.cap
  unfold maxLen at y1y
  have y1N : (1 : Int) < ((y.on.r 2).n : Int) := by omega
  have y1M : (2 : Int) < (y.on.n : Int) := by omega
  clear y1A y1r
  obtain ⟨y2B, y2O, y2A, y2L, y2C⟩ := Hy.out.1.sf.ints 1 yh3
  rw [y2A] at yc6
  rw [yh4] at y2C
  have y2x := Hy.out.1.sf.le
  have y2y := Hy.out.1.sf.cap
  unfold maxLen at y2y
  have y2N : (1 : Int) < (y.sf.n : Int) := by omega
  clear y2A
  obtain ⟨y3b, y3o, y3a, y3l, y3k, y3c, y3r⟩ := Hy.out.1.os.ods 0 yh5
  rw [y3a] at yc1
  have y3u := Hy.out.1.os.le
  have y3v := Hy.out.1.os.cap
  unfold maxLen at y3v
  have y3M : (0 : Int) < (y.os.n : Int) := by omega
  clear y3a
  obtain ⟨y3B, y3O, y3A, y3L, y3C0, y3C1, y3C2, y3C3⟩ := y3r.hds 1 yh6
  rw [y3A] at y3c
  rw [yh7] at y3C0 y3C1 y3C2 y3C3
  dsimp only at y3C0 y3C1 y3C2 y3C3
  have y3x := y3r.le
  have y3y := y3r.cap
  unfold maxLen at y3y
  have y3N : (1 : Int) < ((y.os.z 0).ls.n : Int) := by omega
  clear y3A
  try simp only [Nat.zero_mul, Nat.add_zero] at y1l y1c y1L y1C y2L y2C y3l y3k y3c y3L y3C0 y3C1 y3C2 y3C3
  clear y3r
  rw [← HW.out] at xm xc0 xc1 xc2 xc3 xc4 xc5 xc6 x1l x1c x1L x1C x2L x2C x4L x4C0 x4C1 x4C2 x4C3 x5l x5k x5c x5L x5C0 x5C1 x5C2 x5C3 ym yc0 yc1 yc2 yc3 yc4 yc5 yc6 y1l y1c y1L y1C y2L y2C y3l y3k y3c y3L y3C0 y3C1 y3C2 y3C3
  simp only [St.val]
  go_wp2_with fail
  go_ret
  exact ⟨by simp, HW.out ▸ HB.out⟩
end Go.Proofs.Ytbcacebifpagpaf
namespace Go.Proofs.Ytbcacebifpagpaf
open Go.RowKit Go.Shelf Go.Sort
set_option linter.unusedVariables false
set_option maxRecDepth 100000 in
set_option maxHeartbeats 8000000 in
theorem CountMore_walk (p : Pl) (s : St) (bin good seen : Int) (w : World) (hp : p.At w) (hs : s.At w) :
    Calls Try.prog 3 #[p.val, s.val, .int .i64 bin, .int .i64 good, .int .i64 seen] w fun e w' => e = .returned (.bool true) ∧ Below w.heap.size w w' := by
  obtain ⟨W0, hW, hWB, X0⟩ : ∃ W, ((w.alloc (.cells #[.slice p.ab p.nb p.cb, .slice p.sa p.ns p.cs] 25)).alloc (.cells s.cells 31)) = W ∧ Below w.heap.size w W ∧ Boxes W w.heap.size (w.heap.size + 1) p s := ⟨_, rfl, two_below _ _ _, boxes_new w p s _ _⟩
  have HC : Hid (∀ wk, Below W0.heap.size W0 wk → Boxes wk w.heap.size (w.heap.size + 1) p s ∧ p.At wk ∧ s.At wk ∧ Below w.heap.size w wk) := fun wk h => ⟨X0.below h, (hp.below hWB).below h, (hs.below hWB).below h, hWB.trans (h.mono hWB.size)⟩
  have HW : Hid ((w.alloc (.cells #[.slice p.ab p.nb p.cb, .slice p.sa p.ns p.cs] 25)).alloc (.cells #[.slice s.on.a s.on.n s.on.c, .slice s.os.a s.os.n s.os.c, .slice s.hs.a s.hs.n s.hs.c, .slice s.ms.a s.ms.n s.ms.c, .slice s.si.a s.si.n s.si.c, .slice s.so.a s.so.n s.so.c, .slice s.sf.a s.sf.n s.sf.c] 31) = W0) := hW
  have HB : Hid (Below W0.heap.size W0 W0) := Below.refl _ _
  have leb := hp.leb
  have capb0 := hp.capb
  have capb := capb0
  unfold maxLen at capb
  have onl := hs.on.le
  have onc := hs.on.cap
  have msl := hs.ms.le
  have msc := hs.ms.cap
  unfold maxLen at onc msc
  clear hW X0 hp hs
  unfold Pl.val St.val
  go_enter Try.func3, Try.ntmps3
  go_wp2_with fail
  rw [HW.out]
  clear HW
  refine Calls.mono (Avail_any p s bin good W0 (HC.out W0 HB.out).2.1 (HC.out W0 HB.out).2.2.1) ?_
  rintro e w0 ⟨rfl, hB⟩
  have HB : Hid (Below W0.heap.size W0 w0) := HB.out.trans (hB.mono HB.out.size)
  clear hB
  obtain ⟨⟨⟨l1, d0, d1⟩, l2, c0, c1, c2, c3, c4, c5, c6⟩, -, -, -⟩ := HC.out w0 HB.out
  go_wp2_with fail
  clear l1 d0 d1 l2 c0 c1 c2 c3 c4 c5 c6
  refine Calls.mono (Count_any p s bin good seen w0 (HC.out w0 HB.out).2.1 (HC.out w0 HB.out).2.2.1) ?_
  rintro e w1 ⟨x, rfl, xat, xok, -, hB⟩
  have HXOK : Hid (ActOK (countE p s bin good seen) (countT p s bin.toNat good.toNat seen) x) := xok
  clear xok
  have HB : Hid (Below W0.heap.size W0 w1) := HB.out.trans (hB.mono HB.out.size)
  clear hB
  have xml := xat.ms.le
  have xmc := xat.ms.cap
  unfold maxLen at xmc
  obtain ⟨W2, hW, hWB, K1⟩ : ∃ W, w1.alloc (.cells #[.slice x.on.a x.on.n x.on.c, .slice x.os.a x.os.n x.os.c, .slice x.hs.a x.hs.n x.hs.c, .slice x.ms.a x.ms.n x.ms.c, .slice x.si.a x.si.n x.si.c, .slice x.so.a x.so.n x.so.c, .slice x.sf.a x.sf.n x.sf.c] 31) = W ∧ Below w1.heap.size w1 W ∧ Blk W w1.heap.size 31 7 (fun j => x.cells.getD j default) := ⟨_, rfl, (Below.refl _ _).alloc (Nat.le_refl _) _, Blk.mk' rfl rfl⟩
  have HW : Hid (w1.alloc (.cells #[.slice x.on.a x.on.n x.on.c, .slice x.os.a x.os.n x.os.c, .slice x.hs.a x.hs.n x.hs.c, .slice x.ms.a x.ms.n x.ms.c, .slice x.si.a x.si.n x.si.c, .slice x.so.a x.so.n x.so.c, .slice x.sf.a x.sf.n x.sf.c] 31) = W2) := hW
  have Hx : Hid (x.At W2 ∧ Blk W2 w1.heap.size 31 7 (fun j => x.cells.getD j default)) := ⟨xat.below hWB, K1⟩
  clear hW K1 xat
  have HB : Hid (Below W0.heap.size W0 W2) := HB.out.trans (hWB.mono HB.out.size)
  clear hWB
  by_cases h0 : countE p s bin good seen = 0
  · obtain ⟨hse, b, g, rfl, rfl, hi⟩ := countIn h0
    have HCI : Hid (CountIn p s b g seen) := hi
    have HSX : Hid (SameT x (countT p s b g seen)) := HXOK.out.1 h0
    have HR : Hid (RightT p s) := hi.r
    have HRX : Hid (RightT p x) := HSX.out.right (count_right hi)
    have HEX : Hid (stateE p x = 0) := stateE_of HRX.out
    have hb := hi.bn
    have hg := hi.gn
    rw [(avail_okA hse hb hg).1, (avail_okA hse hb hg).2, h0]
    have hbo : b < s.on.n := by rw [HR.out.fm.sh.n]; exact hb
    have HLEN : Hid ((s.on.r b).n = p.ns) := HR.out.fm.sh.len b hbo
    have HLG : g < (s.on.r b).n := by rw [HLEN.out]; exact hg
    obtain ⟨ON, hON⟩ : ∃ ON, (s.on.r b).z g = ON := ⟨_, rfl⟩
    obtain ⟨AV, hAV⟩ : ∃ AV, availZ s b g = AV := ⟨_, rfl⟩
    obtain ⟨LV, hLV⟩ : ∃ LV, availZ x b g = LV := ⟨_, rfl⟩
    have HV : Hid ((s.on.r b).z g = ON ∧ availZ s b g = AV ∧ availZ x b g = LV) := ⟨hON, hAV, hLV⟩
    have onb := HR.out.fm.sh.num b hbo g hg
    have av0 := (goods_no (HR.out.goods g hg)).2 b hb
    have bd := hi.bound
    have lf := hi.left HSX.out
    have sb0 := hi.s0
    have sb1 := hi.s1
    rw [hON] at onb bd
    rw [hAV] at bd av0
    rw [hLV] at lf
    rw [hAV]
    have avb : AV ≤ ON := by omega
    have l0 : 0 ≤ LV := by omega
    have l1' : LV ≤ seen := by omega
    have l2' : ON - AV ≤ seen ∨ LV = 0 := by omega
    clear hON hAV hLV bd lf h0 HXOK hi hse
    have kb1 : decide (s.on.n ≤ b) = false := decide_eq_false (by omega)
    have kb2 : decide ((s.on.n : Int) ≤ (b : Int)) = false := decide_eq_false (by omega)
    have kb3 : ¬ s.on.n ≤ b := by omega
    have kb4 : decide ((b : Int) < 0) = false := decide_eq_false (by omega)
    have kb5 : (0 : Int) ≤ (b : Int) := by omega
    have kb6 : (b : Int) < (s.on.n : Int) := by omega
    have kg1 : decide ((s.on.r b).n ≤ g) = false := decide_eq_false (by omega)
    have kg2 : decide (((s.on.r b).n : Int) ≤ (g : Int)) = false := decide_eq_false (by omega)
    have kg3 : ¬ (s.on.r b).n ≤ g := by omega
    have kg4 : decide ((g : Int) < 0) = false := decide_eq_false (by omega)
    have kg5 : (0 : Int) ≤ (g : Int) := by omega
    have kg6 : (g : Int) < ((s.on.r b).n : Int) := by omega
    by_cases hs : ON - AV ≤ seen
    · have HM : Hid ((x.hs.n = s.hs.n ∧ ∀ j, j < x.hs.n → x.hs.z j = s.hs.z j) ∧ x.ms.n = s.ms.n ∧ ∀ j, j < x.ms.n → x.ms.z j = s.ms.z j) := HCI.out.more HSX.out (by rw [HV.out.1, HV.out.2.1]; exact hs)
      have HMN : Hid (x.ms.n = s.ms.n) := HM.out.2.1
      have o2 : ((x.ms.n : Int) != (s.ms.n : Int)) = false := by rw [HMN.out]; simp
      have ms8 := HR.out.fm.ms8
      have hs2 : ON ≤ seen + AV := by omega
      have hs3 : decide (ON - AV ≤ seen) = true := decide_eq_true hs
      have hs4 : decide (ON ≤ seen + AV) = true := decide_eq_true hs2
      obtain ⟨⟨⟨l1, d0, d1⟩, l2, c0, c1, c2, c3, c4, c5, c6⟩, -, -, -⟩ := HC.out W2 HB.out
      obtain ⟨xm, xc0, xc1, xc2, xc3, xc4, xc5, xc6⟩ := Boxed.of Hx.out.2
      obtain ⟨bb, ob, hoa, hbb, e0, hrow⟩ := (HC.out W2 HB.out).2.2.1.on.rows b hbo
      have rl := hrow.le
      have rc := hrow.cap
      unfold maxLen at rc
      obtain ⟨bj, oj, hja, hbj, e1⟩ := hrow.ints g HLG
      rw [HV.out.1] at e1
      rw [hoa] at c0
      rw [hja] at e0
      clear hoa hja hrow
      rw [← HW.out] at l1 d0 d1 l2 c0 c1 c2 c3 c4 c5 c6 xm xc0 xc1 xc2 xc3 xc4 xc5 xc6 hbb e0 hbj e1
      simp only [St.val]
      go_wp2_with fail
      rw [HW.out]
      clear HW
      generalize w1.heap.size = Bx at *
      clear l1 d0 d1 l2 c0 c1 c2 c3 c4 c5 c6 xm xc0 xc1 xc2 xc3 xc4 xc5 xc6 hbb e0 hbj e1
      refine Calls.mono (SameHolds_yes x.hs s.hs W2 Hx.out.1.hs (HC.out W2 HB.out).2.2.1.hs HM.out.1.1 HM.out.1.2) ?_
      rintro e w3 ⟨rfl, hB⟩
      have Hx : Hid (x.At w3 ∧ Blk w3 Bx 31 7 (fun j => x.cells.getD j default)) := ⟨Hx.out.1.below hB, Hx.out.2.below hB⟩
      have HB : Hid (Below W0.heap.size W0 w3) := HB.out.trans (hB.mono HB.out.size)
      clear hB
      obtain ⟨⟨⟨l1, d0, d1⟩, l2, c0, c1, c2, c3, c4, c5, c6⟩, -, -, -⟩ := HC.out w3 HB.out
      obtain ⟨xm, xc0, xc1, xc2, xc3, xc4, xc5, xc6⟩ := Boxed.of Hx.out.2
      go_wp2_with fail
      clear l1 d0 d1 l2 c0 c1 c2 c3 c4 c5 c6 xm xc0 xc1 xc2 xc3 xc4 xc5 xc6
      go_loopw [15] (fun kv wk => ∃ (k : Nat), k ≤ s.ms.n ∧ kv = .int .i64 k ∧ Hid (x.At wk ∧ Blk wk Bx 31 7 (fun j => x.cells.getD j default)) ∧ Hid (Below W0.heap.size W0 wk)) (fun kv _ => s.ms.n - (intOf kv).toNat)
      case atStart => exact ⟨0, Nat.zero_le _, rfl, Hx, HB⟩
      case round =>
        clear Hx HB
        obtain ⟨k, hk, rfl, Hx, HB⟩ := hrel
        by_cases hlt : k < s.ms.n
        · obtain ⟨⟨⟨l1, d0, d1⟩, l2, c0, c1, c2, c3, c4, c5, c6⟩, -, -, -⟩ := HC.out wr HB.out
          obtain ⟨xm, xc0, xc1, xc2, xc3, xc4, xc5, xc6⟩ := Boxed.of Hx.out.2
          have q0 : (0 : Int) ≤ (k : Int) := by omega
          have q1 : (k : Int) < (s.ms.n : Int) := by omega
          have q2 : (k : Int) < (x.ms.n : Int) := by rw [HMN.out]; omega
          obtain ⟨b5, o5, ha5, hb5, y50, y51, y52, y53⟩ := (HC.out wr HB.out).2.2.1.ms.hds k hlt
          obtain ⟨b6, o6, ha6, hb6, y60, y61, y62, y63⟩ := Hx.out.1.ms.hds k (by rw [HMN.out]; exact hlt)
          rw [HM.out.2.2 k (by rw [HMN.out]; exact hlt)] at y60 y61 y62 y63
          rw [ha5] at c3
          rw [ha6] at xc3
          clear ha5 ha6
          generalize s.ms.z k = Z at *
          have rc3 := fun d os => cell_regrown c3 d os
          have rxc3 := fun d os => cell_regrown xc3 d os
          have ry50 := fun d os => cell_regrown y50 d os
          have ry51 := fun d os => cell_regrown y51 d os
          have ry52 := fun d os => cell_regrown y52 d os
          have ry53 := fun d os => cell_regrown y53 d os
          have ry60 := fun d os => cell_regrown y60 d os
          have ry61 := fun d os => cell_regrown y61 d os
          have ry62 := fun d os => cell_regrown y62 d os
          have ry63 := fun d os => cell_regrown y63 d os
          go_wp2_with fail
          refine wp_region_quiet_below (by kernel_rfl) (by kernel_rfl) ?_
          repeat (go_big_quiet_step ((fail)))
          refine wpQuiet_nil ?_
          intro w4 hwq
          have hB := below_of_regrown hwq
          clear hwq rc3 rxc3 ry50 ry51 ry52 ry53 ry60 ry61 ry62 ry63
          have Hx : Hid (x.At w4 ∧ Blk w4 Bx 31 7 (fun j => x.cells.getD j default)) := ⟨Hx.out.1.below hB, Hx.out.2.below hB⟩
          have HB : Hid (Below W0.heap.size W0 w4) := HB.out.trans (hB.mono HB.out.size)
          clear hB
          clear l1 d0 d1 l2 c0 c1 c2 c3 c4 c5 c6 xm xc0 xc1 xc2 xc3 xc4 xc5 xc6 hb5 y50 y51 y52 y53 hb6 y60 y61 y62 y63
          go_wp2_with fail
          go_roundw
          case rel => exact ⟨k + 1, by omega, by go_num, Hx, HB⟩
          case measure => simp [intOf]; omega
        · have q1 : (s.ms.n : Int) ≤ (k : Int) := by omega
          obtain ⟨⟨⟨l1, d0, d1⟩, l2, c0, c1, c2, c3, c4, c5, c6⟩, -, -, -⟩ := HC.out wr HB.out
          obtain ⟨xm, xc0, xc1, xc2, xc3, xc4, xc5, xc6⟩ := Boxed.of Hx.out.2
          go_wp2_with fail
          clear l1 d0 d1 l2 c0 c1 c2 c3 c4 c5 c6 xm xc0 xc1 xc2 xc3 xc4 xc5 xc6
          refine Calls.mono (Avail_rightW p x b g wr (HC.out wr HB.out).2.1 Hx.out.1 HEX.out hb hg) ?_
          rintro e w6 ⟨rfl, hB⟩
          have Hx : Hid (x.At w6 ∧ Blk w6 Bx 31 7 (fun j => x.cells.getD j default)) := ⟨Hx.out.1.below hB, Hx.out.2.below hB⟩
          have HB : Hid (Below W0.heap.size W0 w6) := HB.out.trans (hB.mono HB.out.size)
          clear hB
          rw [HV.out.2.2]
          go_wp2_with fail
          refine Calls.mono (countBegun_any w6) ?_
          rintro e w8 ⟨rfl, hB⟩
          have Hx : Hid (x.At w8 ∧ Blk w8 Bx 31 7 (fun j => x.cells.getD j default)) := ⟨Hx.out.1.below hB, Hx.out.2.below hB⟩
          have HB : Hid (Below W0.heap.size W0 w8) := HB.out.trans (hB.mono HB.out.size)
          clear hB
          obtain ⟨⟨⟨l1, d0, d1⟩, l2, c0, c1, c2, c3, c4, c5, c6⟩, -, -, -⟩ := HC.out w8 HB.out
          obtain ⟨bb, ob, hoa, hbb, e0, hrow⟩ := (HC.out w8 HB.out).2.2.1.on.rows b hbo
          have rl := hrow.le
          have rc := hrow.cap
          unfold maxLen at rc
          obtain ⟨bj, oj, hja, hbj, e1⟩ := hrow.ints g HLG
          rw [HV.out.1] at e1
          rw [hoa] at c0
          rw [hja] at e0
          clear hoa hja hrow
          go_wp2_with fail
          go_ret
          exact ⟨rfl, (HC.out w8 HB.out).2.2.2⟩
    · have hs2 : ¬ ON ≤ seen + AV := by omega
      have hs3 : decide (ON - AV ≤ seen) = false := decide_eq_false hs
      have hs4 : decide (ON ≤ seen + AV) = false := decide_eq_false hs2
      obtain ⟨⟨⟨l1, d0, d1⟩, l2, c0, c1, c2, c3, c4, c5, c6⟩, -, -, -⟩ := HC.out W2 HB.out
      obtain ⟨xm, xc0, xc1, xc2, xc3, xc4, xc5, xc6⟩ := Boxed.of Hx.out.2
      obtain ⟨bb, ob, hoa, hbb, e0, hrow⟩ := (HC.out W2 HB.out).2.2.1.on.rows b hbo
      have rl := hrow.le
      have rc := hrow.cap
      unfold maxLen at rc
      obtain ⟨bj, oj, hja, hbj, e1⟩ := hrow.ints g HLG
      rw [HV.out.1] at e1
      rw [hoa] at c0
      rw [hja] at e0
      clear hoa hja hrow
      rw [← HW.out] at l1 d0 d1 l2 c0 c1 c2 c3 c4 c5 c6 xm xc0 xc1 xc2 xc3 xc4 xc5 xc6 hbb e0 hbj e1
      simp only [St.val]
      go_wp2_with fail
      rw [HW.out]
      clear HW
      generalize w1.heap.size = Bx at *
      clear l1 d0 d1 l2 c0 c1 c2 c3 c4 c5 c6 xm xc0 xc1 xc2 xc3 xc4 xc5 xc6 hbb e0 hbj e1
      refine Calls.mono (Avail_rightW p x b g W2 (HC.out W2 HB.out).2.1 Hx.out.1 HEX.out hb hg) ?_
      rintro e w6 ⟨rfl, hB⟩
      have Hx : Hid (x.At w6 ∧ Blk w6 Bx 31 7 (fun j => x.cells.getD j default)) := ⟨Hx.out.1.below hB, Hx.out.2.below hB⟩
      have HB : Hid (Below W0.heap.size W0 w6) := HB.out.trans (hB.mono HB.out.size)
      clear hB
      rw [HV.out.2.2]
      go_wp2_with fail
      refine Calls.mono (countBegun_any w6) ?_
      rintro e w8 ⟨rfl, hB⟩
      have Hx : Hid (x.At w8 ∧ Blk w8 Bx 31 7 (fun j => x.cells.getD j default)) := ⟨Hx.out.1.below hB, Hx.out.2.below hB⟩
      have HB : Hid (Below W0.heap.size W0 w8) := HB.out.trans (hB.mono HB.out.size)
      clear hB
      obtain ⟨⟨⟨l1, d0, d1⟩, l2, c0, c1, c2, c3, c4, c5, c6⟩, -, -, -⟩ := HC.out w8 HB.out
      obtain ⟨bb, ob, hoa, hbb, e0, hrow⟩ := (HC.out w8 HB.out).2.2.1.on.rows b hbo
      have rl := hrow.le
      have rc := hrow.cap
      unfold maxLen at rc
      obtain ⟨bj, oj, hja, hbj, e1⟩ := hrow.ints g HLG
      rw [HV.out.1] at e1
      rw [hoa] at c0
      rw [hja] at e0
      clear hoa hja hrow
      have lz : (LV == 0) = true := by simp; omega
      go_wp2_with fail
      go_ret
      exact ⟨rfl, (HC.out w8 HB.out).2.2.2⟩
  · have g0 : (countE p s bin good seen != 0) = true := by simpa using h0
    by_cases ha : availE p s bin good = 0
    · rw [ha]
      clear h0 HXOK ha
      generalize countE p s bin good seen = EE at *
      generalize availV p s bin good = AV at *
      simp only [St.val]
      go_wp2_with fail
      rw [HW.out]
      clear HW
      generalize w1.heap.size = Bx at *
      refine Calls.mono (countBegun_any W2) ?_
      rintro e w3 ⟨rfl, hB⟩
      have Hx : Hid (x.At w3 ∧ Blk w3 Bx 31 7 (fun j => x.cells.getD j default)) := ⟨Hx.out.1.below hB, Hx.out.2.below hB⟩
      have HB : Hid (Below W0.heap.size W0 w3) := HB.out.trans (hB.mono HB.out.size)
      clear hB
      go_wp2_with fail
      go_ret
      exact ⟨rfl, (HC.out w3 HB.out).2.2.2⟩
    · have g1 : (availE p s bin good != 0) = true := by simpa using ha
      clear h0 HXOK ha
      generalize countE p s bin good seen = EE at *
      generalize availV p s bin good = AV at *
      generalize availE p s bin good = AE at *
      simp only [St.val]
      go_wp2_with fail
      rw [HW.out]
      clear HW
      generalize w1.heap.size = Bx at *
      refine Calls.mono (countBegun_any W2) ?_
      rintro e w3 ⟨rfl, hB⟩
      have Hx : Hid (x.At w3 ∧ Blk w3 Bx 31 7 (fun j => x.cells.getD j default)) := ⟨Hx.out.1.below hB, Hx.out.2.below hB⟩
      have HB : Hid (Below W0.heap.size W0 w3) := HB.out.trans (hB.mono HB.out.size)
      clear hB
      go_wp2_with fail
      go_ret
      exact ⟨rfl, (HC.out w3 HB.out).2.2.2⟩
end Go.Proofs.Ytbcacebifpagpaf
namespace Go.Proofs.Ytbcacebifpagpaf
open Go.ChangeShapes Go.WideShapes Go.ChangeAt Go.RowKit Go.Joins Go.Deep
set_option linter.unusedVariables false
set_option maxRecDepth 100000
theorem own : ownKnob Try.prog.godebug = none := by kernel_rfl
theorem laidOut : laidOutB Try.prog = true := by kernel_rfl
theorem cellsInt : Try.prog.cellsOf 3 = 1 := by kernel_rfl
theorem cellsInts : Try.prog.cellsOf 23 = 1 := by kernel_rfl
theorem cellsBin : Try.prog.cellsOf 105 = 4 := by kernel_rfl
theorem cellsPlan : Try.prog.cellsOf 25 = 2 := by kernel_rfl
theorem cellsBool : Try.prog.cellsOf 4 = 1 := by kernel_rfl
section
variable {H : Type} {enc : TypeId × Value → H} {w : World} {held : Bool} {spare : Nat → Bool}
theorem addrOf {a : Addr} {i : Nat} {v : Value} (h : w.cell? (a.add i) = some v) (h0 : ∃ v0, w.cell? a = some v0) : ∃ b o, a = ⟨b, o, none⟩ ∧ b < w.heap.size ∧ w.cell? ⟨b, o + i, none⟩ = some v := by
  obtain ⟨b, off, spot⟩ := a
  obtain ⟨v0, h0⟩ := h0
  have hspot : spot = none := World.cell?_spot h0
  subst hspot
  refine ⟨b, off, rfl, World.block_lt_of_cell? w _ h0, ?_⟩
  rw [← Go.WideShapes.add_plain]
  exact h
theorem readInts {fuel : Nat} {cs : List Value} {x : DataW H × List MemPlace} (h : DataW.trod enc Try.prog w 0 spare held fuel 23 cs = some x) : ∃ r : Rw, cs = [r.val] ∧ r.At w := by
  rcases open_slice1 Try.underlying23 cellsInt h with ⟨rfl, _⟩ | ⟨a, len, cap, m, n, V, D, Pl, rfl, hb, hl, hm, hmm, _, hx⟩
  · exact ⟨⟨none, 0, 0, fun _ => 0⟩, rfl, Nat.le_refl _, Nat.zero_le _, fun i hi => absurd hi (Nat.not_lt_zero _)⟩
  · have hlm : len ≤ m := by rw [hmm]; split <;> omega
    obtain ⟨z, hz⟩ := choose_lt (α := Int) (n := len) (p := fun i y => V i = .int .i64 y) (fun i hi => by
      obtain ⟨y, hy, _⟩ := DataW.trod_int Try.underlying3 (hx i (by omega)).2
      simp only [List.cons.injEq, and_true] at hy
      exact ⟨y, hy⟩)
    refine ⟨⟨some a, len, cap, z⟩, rfl, hl, hm, fun i hi => ?_⟩
    have hi' : i < len := hi
    have h0 : ∃ v0, w.cell? a = some v0 := ⟨_, by have := (hx 0 (by omega)).1; simpa [Addr.add] using this⟩
    obtain ⟨b, o, rfl, hb', hc⟩ := addrOf (hx i (by omega)).1 h0
    exact ⟨b, o, rfl, hb', by rw [hc, hz i hi']⟩
theorem readRows {fuel : Nat} {cs : List Value} {x : DataW H × List MemPlace} (h : DataW.trod enc Try.prog w 0 spare held fuel 26 cs = some x) : ∃ s : Sh, cs = [s.val] ∧ s.At w := by
  rcases open_slice1 Try.underlying26 cellsInts h with ⟨rfl, _⟩ | ⟨a, len, cap, m, n, V, D, Pl, rfl, hb, hl, hm, hmm, _, hx⟩
  · exact ⟨⟨none, 0, 0, fun _ => ⟨none, 0, 0, fun _ => 0⟩⟩, rfl, Nat.le_refl _, Nat.zero_le _, fun i hi => absurd hi (Nat.not_lt_zero _)⟩
  · have hlm : len ≤ m := by rw [hmm]; split <;> omega
    haveI : Inhabited Rw := ⟨⟨none, 0, 0, fun _ => 0⟩⟩
    obtain ⟨z, hz⟩ := choose_lt (α := Rw) (n := len) (p := fun i y => V i = y.val ∧ y.At w) (fun i hi => by
      obtain ⟨y, hy, hat⟩ := readInts (hx i (by omega)).2
      simp only [List.cons.injEq, and_true] at hy
      exact ⟨y, hy, hat⟩)
    refine ⟨⟨some a, len, cap, z⟩, rfl, hl, hm, fun i hi => ?_⟩
    have hi' : i < len := hi
    have h0 : ∃ v0, w.cell? a = some v0 := ⟨_, by have := (hx 0 (by omega)).1; simpa [Addr.add] using this⟩
    obtain ⟨b, o, rfl, hb', hc⟩ := addrOf (hx i (by omega)).1 h0
    exact ⟨b, o, rfl, hb', by rw [hc, (hz i hi').1]; rfl, (hz i hi').2⟩
theorem readBin {fuel : Nat} {c0 c1 c2 c3 : Value} {x : DataW H × List MemPlace} (h : DataW.trod enc Try.prog w 0 spare held fuel 105 [c0, c1, c2, c3] = some x) : ∃ y : Bin, c0 = .bool y.front ∧ c1 = .int .i64 y.room ∧ c2 = .int .i64 y.low ∧ c3 = .int .i64 y.high := by
  obtain ⟨y0, y1, y2, y3, n, hx, hl, h0, h1, h2, h3⟩ := trod_struct4 Try.underlying105 h
  simp only [cellsBool, cellsInt, List.drop_succ_cons, List.drop_zero, List.take_succ_cons, List.take_zero] at h0 h1 h2 h3
  obtain ⟨b, e0, _⟩ := DataW.trod_bool Try.underlying4 h0
  obtain ⟨n1, e1, _⟩ := DataW.trod_int Try.underlying3 h1
  obtain ⟨n2, e2, _⟩ := DataW.trod_int Try.underlying3 h2
  obtain ⟨n3, e3, _⟩ := DataW.trod_int Try.underlying3 h3
  simp only [List.cons.injEq, and_true] at e0 e1 e2 e3
  exact ⟨⟨b, n1, n2, n3⟩, e0, e1, e2, e3⟩
theorem cells4 {base : Nat} {a : Addr} {cs : List Value} (h : w.cells? base a 4 = some cs) : ∃ c0 c1 c2 c3, cs = [c0, c1, c2, c3] ∧ w.cell? a = some c0 ∧ w.cell? (a.add 1) = some c1 ∧ w.cell? (a.add 2) = some c2 ∧ w.cell? (a.add 3) = some c3 := by
  obtain ⟨_, hlen, hc⟩ := World.cells?_some h
  match cs, hlen with
  | [c0, c1, c2, c3], _ =>
    refine ⟨c0, c1, c2, c3, rfl, ?_, ?_, ?_, ?_⟩
    · simpa [Addr.add] using hc 0 (by decide)
    · simpa using hc 1 (by decide)
    · simpa using hc 2 (by decide)
    · simpa using hc 3 (by decide)
theorem readBins {fuel : Nat} {cs : List Value} {x : DataW H × List MemPlace} (h : DataW.trod enc Try.prog w 0 spare held fuel 22 cs = some x) : ∃ a n c z, cs = [.slice a n c] ∧ n ≤ c ∧ c ≤ maxLen ∧ BinsAt w a n z := by
  rcases open_slice Try.underlying22 h with ⟨rfl, _⟩ | ⟨a, len, cap, m, n, D, Pl, rfl, hb, hl, hm, hmm, _, hx⟩
  · exact ⟨none, 0, 0, fun _ => ⟨false, 0, 0, 0⟩, rfl, Nat.le_refl _, Nat.zero_le _, fun i hi => absurd hi (Nat.not_lt_zero _)⟩
  · have hlm : len ≤ m := by rw [hmm]; split <;> omega
    rw [cellsBin] at hx
    haveI : Inhabited Bin := ⟨⟨false, 0, 0, 0⟩⟩
    obtain ⟨z, hz⟩ := choose_lt (α := Bin) (n := len) (p := fun i y => w.cell? (a.add (i * 4)) = some (.bool y.front) ∧ w.cell? (a.add (i * 4 + 1)) = some (.int .i64 y.room) ∧ w.cell? (a.add (i * 4 + 2)) = some (.int .i64 y.low) ∧ w.cell? (a.add (i * 4 + 3)) = some (.int .i64 y.high)) (fun i hi => by
      obtain ⟨cs', hc, ht⟩ := hx i (by omega)
      obtain ⟨c0, c1, c2, c3, rfl, k0, k1, k2, k3⟩ := cells4 hc
      obtain ⟨y, rfl, rfl, rfl, rfl⟩ := readBin ht
      rw [add_add] at k1 k2 k3
      exact ⟨y, k0, k1, k2, k3⟩)
    refine ⟨some a, len, cap, z, rfl, hl, hm, fun i hi => ?_⟩
    have h0 : ∃ v0, w.cell? a = some v0 := ⟨_, by have := (hz 0 (by omega)).1; simpa [Addr.add] using this⟩
    obtain ⟨k0, k1, k2, k3⟩ := hz i hi
    obtain ⟨b, o, rfl, hb', e0⟩ := addrOf k0 h0
    rw [Go.WideShapes.add_plain] at k1 k2 k3
    exact ⟨b, o, rfl, hb', e0, by rw [Nat.add_assoc]; exact k1, by rw [Nat.add_assoc]; exact k2, by rw [Nat.add_assoc]; exact k3⟩
theorem openPlan {r : Reach} {b0 : Nat} {v : Value} {d : DataW H} {ps : List MemPlace} (hv : Value.okWide Try.prog w r b0 25 v) (h : DataW.Trod enc Try.prog w 0 spare held 25 v d ps) : ∃ p : Pl, v = p.val ∧ p.At w := by
  obtain ⟨c0, c1, y0, y1, m, rfl, rfl, rfl, hy0, hy1⟩ := open_agg2 Try.underlying25 (by kernel_rfl) cellsPlan hv h
  obtain ⟨a, n, c, z, e0, h1, h2, h3⟩ := readBins hy0
  obtain ⟨rr, e1, hr⟩ := readInts hy1
  simp only [List.cons.injEq, and_true] at e0 e1
  subst e0 e1
  exact ⟨⟨a, n, c, z, rr.a, rr.n, rr.c, rr.z⟩, rfl, h1, h2, h3, hr.le, hr.cap, hr.ints⟩
end
end Go.Proofs.Ytbcacebifpagpaf
namespace Go.Proofs.Ytbcacebifpagpaf
open Go.ChangeShapes Go.WideShapes Go.ChangeAt Go.RowKit Go.Joins Go.Deep
set_option linter.unusedVariables false
set_option maxRecDepth 100000
namespace HoldsFrames
theorem own : ownKnob Try.prog.godebug = none := by kernel_rfl
theorem laidOut : laidOutB Try.prog = true := by kernel_rfl
theorem cellsInt : Try.prog.cellsOf 3 = 1 := by kernel_rfl
theorem cellsHold : Try.prog.cellsOf 54 = 4 := by kernel_rfl
section
variable {H : Type} {enc : TypeId × Value → H} {w : World} {held : Bool} {spare : Nat → Bool}
theorem addrOf {a : Addr} {i : Nat} {v : Value} (h : w.cell? (a.add i) = some v) (h0 : ∃ v0, w.cell? a = some v0) : ∃ b o, a = ⟨b, o, none⟩ ∧ b < w.heap.size ∧ w.cell? ⟨b, o + i, none⟩ = some v := by
  obtain ⟨b, off, spot⟩ := a
  obtain ⟨v0, h0⟩ := h0
  have hspot : spot = none := World.cell?_spot h0
  subst hspot
  refine ⟨b, off, rfl, World.block_lt_of_cell? w _ h0, ?_⟩
  rw [← Go.WideShapes.add_plain]
  exact h
theorem cells4 {base : Nat} {a : Addr} {cs : List Value} (h : w.cells? base a 4 = some cs) : ∃ c0 c1 c2 c3, cs = [c0, c1, c2, c3] ∧ w.cell? a = some c0 ∧ w.cell? (a.add 1) = some c1 ∧ w.cell? (a.add 2) = some c2 ∧ w.cell? (a.add 3) = some c3 := by
  obtain ⟨_, hlen, hc⟩ := World.cells?_some h
  match cs, hlen with
  | [c0, c1, c2, c3], _ =>
    refine ⟨c0, c1, c2, c3, rfl, ?_, ?_, ?_, ?_⟩
    · simpa [Addr.add] using hc 0 (by decide)
    · simpa using hc 1 (by decide)
    · simpa using hc 2 (by decide)
    · simpa using hc 3 (by decide)
theorem readHold {fuel : Nat} {c0 c1 c2 c3 : Value} {x : DataW H × List MemPlace} (h : DataW.trod enc Try.prog w 0 spare held fuel 54 [c0, c1, c2, c3] = some x) : ∃ y : Hd, c0 = .int .i64 y.o ∧ c1 = .int .i64 y.l ∧ c2 = .int .i64 y.b ∧ c3 = .int .i64 y.n := by
  obtain ⟨y0, y1, y2, y3, n, hx, hl, h0, h1, h2, h3⟩ := trod_struct4 Try.underlying54 h
  simp only [cellsInt, List.drop_succ_cons, List.drop_zero, List.take_succ_cons, List.take_zero] at h0 h1 h2 h3
  obtain ⟨n0, e0, _⟩ := DataW.trod_int Try.underlying3 h0
  obtain ⟨n1, e1, _⟩ := DataW.trod_int Try.underlying3 h1
  obtain ⟨n2, e2, _⟩ := DataW.trod_int Try.underlying3 h2
  obtain ⟨n3, e3, _⟩ := DataW.trod_int Try.underlying3 h3
  simp only [List.cons.injEq, and_true] at e0 e1 e2 e3
  exact ⟨⟨n0, n1, n2, n3⟩, e0, e1, e2, e3⟩
theorem readHolds {fuel : Nat} {cs : List Value} {x : DataW H × List MemPlace} (h : DataW.trod enc Try.prog w 0 spare held fuel 28 cs = some x) : ∃ s : Hs, cs = [s.val] ∧ s.At w := by
  rcases open_slice Try.underlying28 h with ⟨rfl, _⟩ | ⟨a, len, cap, m, n, D, Pl, rfl, hb, hl, hm, hmm, _, hx⟩
  · exact ⟨⟨none, 0, 0, fun _ => ⟨0, 0, 0, 0⟩⟩, rfl, Nat.le_refl _, Nat.zero_le _, fun i hi => absurd hi (Nat.not_lt_zero _), fun _ => rfl⟩
  · have hlm : len ≤ m := by rw [hmm]; split <;> omega
    rw [cellsHold] at hx
    haveI : Inhabited Hd := ⟨⟨0, 0, 0, 0⟩⟩
    obtain ⟨z, hz⟩ := choose_lt (α := Hd) (n := len) (p := fun i y => w.cell? (a.add (i * 4)) = some (.int .i64 y.o) ∧ w.cell? (a.add (i * 4 + 1)) = some (.int .i64 y.l) ∧ w.cell? (a.add (i * 4 + 2)) = some (.int .i64 y.b) ∧ w.cell? (a.add (i * 4 + 3)) = some (.int .i64 y.n)) (fun i hi => by
      obtain ⟨cs', hc, ht⟩ := hx i (by omega)
      obtain ⟨c0, c1, c2, c3, rfl, k0, k1, k2, k3⟩ := cells4 hc
      obtain ⟨y, rfl, rfl, rfl, rfl⟩ := readHold ht
      rw [add_add] at k1 k2 k3
      exact ⟨y, k0, k1, k2, k3⟩)
    refine ⟨⟨some a, len, cap, z⟩, rfl, hl, hm, fun i hi => ?_, fun h => by cases h⟩
    have hi' : i < len := hi
    have h0 : ∃ v0, w.cell? a = some v0 := ⟨_, by have := (hz 0 (by omega)).1; simpa [Addr.add] using this⟩
    obtain ⟨k0, k1, k2, k3⟩ := hz i hi'
    obtain ⟨b, o, rfl, hb', e0⟩ := addrOf k0 h0
    rw [Go.WideShapes.add_plain] at k1 k2 k3
    exact ⟨b, o, rfl, hb', e0, by rw [Nat.add_assoc]; exact k1, by rw [Nat.add_assoc]; exact k2, by rw [Nat.add_assoc]; exact k3⟩
end
end HoldsFrames
end Go.Proofs.Ytbcacebifpagpaf
namespace Go.Proofs.Ytbcacebifpagpaf
open Go.ChangeShapes Go.WideShapes Go.ChangeAt Go.RowKit Go.Joins Go.Deep
set_option linter.unusedVariables false
set_option maxRecDepth 100000
theorem cellsLine : Try.prog.cellsOf 60 = 4 := by kernel_rfl
theorem cellsMove : Try.prog.cellsOf 40 = 4 := by kernel_rfl
theorem cellsOrder : Try.prog.cellsOf 58 = 2 := by kernel_rfl
theorem cellsState : Try.prog.cellsOf 31 = 7 := by kernel_rfl
theorem cellsLines : Try.prog.cellsOf 56 = 1 := by kernel_rfl
theorem cellsMoves : Try.prog.cellsOf 29 = 1 := by kernel_rfl
theorem cellsOrders : Try.prog.cellsOf 27 = 1 := by kernel_rfl
theorem cellsHolds : Try.prog.cellsOf 28 = 1 := by kernel_rfl
theorem cellsRows : Try.prog.cellsOf 26 = 1 := by kernel_rfl
section
variable {H : Type} {enc : TypeId × Value → H} {w : World} {held : Bool} {spare : Nat → Bool}
theorem readLine {fuel : Nat} {c0 c1 c2 c3 : Value} {x : DataW H × List MemPlace} (h : DataW.trod enc Try.prog w 0 spare held fuel 60 [c0, c1, c2, c3] = some x) : ∃ y : Hd, c0 = .int .i64 y.o ∧ c1 = .int .i64 y.l ∧ c2 = .int .i64 y.b ∧ c3 = .int .i64 y.n := by
  obtain ⟨y0, y1, y2, y3, n, hx, hl, h0, h1, h2, h3⟩ := trod_struct4 Try.underlying60 h
  simp only [cellsInt, List.drop_succ_cons, List.drop_zero, List.take_succ_cons, List.take_zero] at h0 h1 h2 h3
  obtain ⟨n0, e0, _⟩ := DataW.trod_int Try.underlying3 h0
  obtain ⟨n1, e1, _⟩ := DataW.trod_int Try.underlying3 h1
  obtain ⟨n2, e2, _⟩ := DataW.trod_int Try.underlying3 h2
  obtain ⟨n3, e3, _⟩ := DataW.trod_int Try.underlying3 h3
  simp only [List.cons.injEq, and_true] at e0 e1 e2 e3
  exact ⟨⟨n0, n1, n2, n3⟩, e0, e1, e2, e3⟩
theorem readLines {fuel : Nat} {cs : List Value} {x : DataW H × List MemPlace} (h : DataW.trod enc Try.prog w 0 spare held fuel 56 cs = some x) : ∃ s : Hs, cs = [s.val] ∧ s.At w := by
  rcases open_slice Try.underlying56 h with ⟨rfl, _⟩ | ⟨a, len, cap, m, n, D, Pl, rfl, hb, hl, hm, hmm, _, hx⟩
  · exact ⟨⟨none, 0, 0, fun _ => ⟨0, 0, 0, 0⟩⟩, rfl, Nat.le_refl _, Nat.zero_le _, fun i hi => absurd hi (Nat.not_lt_zero _), fun _ => rfl⟩
  · have hlm : len ≤ m := by rw [hmm]; split <;> omega
    rw [cellsLine] at hx
    haveI : Inhabited Hd := ⟨⟨0, 0, 0, 0⟩⟩
    obtain ⟨z, hz⟩ := choose_lt (α := Hd) (n := len) (p := fun i y => w.cell? (a.add (i * 4)) = some (.int .i64 y.o) ∧ w.cell? (a.add (i * 4 + 1)) = some (.int .i64 y.l) ∧ w.cell? (a.add (i * 4 + 2)) = some (.int .i64 y.b) ∧ w.cell? (a.add (i * 4 + 3)) = some (.int .i64 y.n)) (fun i hi => by
      obtain ⟨cs', hc, ht⟩ := hx i (by omega)
      obtain ⟨c0, c1, c2, c3, rfl, k0, k1, k2, k3⟩ := cells4 hc
      obtain ⟨y, rfl, rfl, rfl, rfl⟩ := readLine ht
      rw [add_add] at k1 k2 k3
      exact ⟨y, k0, k1, k2, k3⟩)
    refine ⟨⟨some a, len, cap, z⟩, rfl, hl, hm, fun i hi => ?_, fun h => by cases h⟩
    have hi' : i < len := hi
    have h0 : ∃ v0, w.cell? a = some v0 := ⟨_, by have := (hz 0 (by omega)).1; simpa [Addr.add] using this⟩
    obtain ⟨k0, k1, k2, k3⟩ := hz i hi'
    obtain ⟨b, o, rfl, hb', e0⟩ := addrOf k0 h0
    rw [Go.WideShapes.add_plain] at k1 k2 k3
    exact ⟨b, o, rfl, hb', e0, by rw [Nat.add_assoc]; exact k1, by rw [Nat.add_assoc]; exact k2, by rw [Nat.add_assoc]; exact k3⟩
theorem readMove {fuel : Nat} {c0 c1 c2 c3 : Value} {x : DataW H × List MemPlace} (h : DataW.trod enc Try.prog w 0 spare held fuel 40 [c0, c1, c2, c3] = some x) : ∃ y : Hd, c0 = .int .i64 y.o ∧ c1 = .int .i64 y.l ∧ c2 = .int .i64 y.b ∧ c3 = .int .i64 y.n := by
  obtain ⟨y0, y1, y2, y3, n, hx, hl, h0, h1, h2, h3⟩ := trod_struct4 Try.underlying40 h
  simp only [cellsInt, List.drop_succ_cons, List.drop_zero, List.take_succ_cons, List.take_zero] at h0 h1 h2 h3
  obtain ⟨n0, e0, _⟩ := DataW.trod_int Try.underlying3 h0
  obtain ⟨n1, e1, _⟩ := DataW.trod_int Try.underlying3 h1
  obtain ⟨n2, e2, _⟩ := DataW.trod_int Try.underlying3 h2
  obtain ⟨n3, e3, _⟩ := DataW.trod_int Try.underlying3 h3
  simp only [List.cons.injEq, and_true] at e0 e1 e2 e3
  exact ⟨⟨n0, n1, n2, n3⟩, e0, e1, e2, e3⟩
theorem readMoves {fuel : Nat} {cs : List Value} {x : DataW H × List MemPlace} (h : DataW.trod enc Try.prog w 0 spare held fuel 29 cs = some x) : ∃ s : Hs, cs = [s.val] ∧ s.At w := by
  rcases open_slice Try.underlying29 h with ⟨rfl, _⟩ | ⟨a, len, cap, m, n, D, Pl, rfl, hb, hl, hm, hmm, _, hx⟩
  · exact ⟨⟨none, 0, 0, fun _ => ⟨0, 0, 0, 0⟩⟩, rfl, Nat.le_refl _, Nat.zero_le _, fun i hi => absurd hi (Nat.not_lt_zero _), fun _ => rfl⟩
  · have hlm : len ≤ m := by rw [hmm]; split <;> omega
    rw [cellsMove] at hx
    haveI : Inhabited Hd := ⟨⟨0, 0, 0, 0⟩⟩
    obtain ⟨z, hz⟩ := choose_lt (α := Hd) (n := len) (p := fun i y => w.cell? (a.add (i * 4)) = some (.int .i64 y.o) ∧ w.cell? (a.add (i * 4 + 1)) = some (.int .i64 y.l) ∧ w.cell? (a.add (i * 4 + 2)) = some (.int .i64 y.b) ∧ w.cell? (a.add (i * 4 + 3)) = some (.int .i64 y.n)) (fun i hi => by
      obtain ⟨cs', hc, ht⟩ := hx i (by omega)
      obtain ⟨c0, c1, c2, c3, rfl, k0, k1, k2, k3⟩ := cells4 hc
      obtain ⟨y, rfl, rfl, rfl, rfl⟩ := readMove ht
      rw [add_add] at k1 k2 k3
      exact ⟨y, k0, k1, k2, k3⟩)
    refine ⟨⟨some a, len, cap, z⟩, rfl, hl, hm, fun i hi => ?_, fun h => by cases h⟩
    have hi' : i < len := hi
    have h0 : ∃ v0, w.cell? a = some v0 := ⟨_, by have := (hz 0 (by omega)).1; simpa [Addr.add] using this⟩
    obtain ⟨k0, k1, k2, k3⟩ := hz i hi'
    obtain ⟨b, o, rfl, hb', e0⟩ := addrOf k0 h0
    rw [Go.WideShapes.add_plain] at k1 k2 k3
    exact ⟨b, o, rfl, hb', e0, by rw [Nat.add_assoc]; exact k1, by rw [Nat.add_assoc]; exact k2, by rw [Nat.add_assoc]; exact k3⟩
theorem cells2 {base : Nat} {a : Addr} {cs : List Value} (h : w.cells? base a 2 = some cs) : ∃ c0 c1, cs = [c0, c1] ∧ w.cell? a = some c0 ∧ w.cell? (a.add 1) = some c1 := by
  obtain ⟨_, hlen, hc⟩ := World.cells?_some h
  match cs, hlen with
  | [c0, c1], _ =>
    refine ⟨c0, c1, rfl, ?_, ?_⟩
    · simpa [Addr.add] using hc 0 (by decide)
    · simpa using hc 1 (by decide)
theorem readOrder {fuel : Nat} {c0 c1 : Value} {x : DataW H × List MemPlace} (h : DataW.trod enc Try.prog w 0 spare held fuel 58 [c0, c1] = some x) : ∃ y : Od, c0 = .int .i64 y.k ∧ c1 = .slice y.ls.a y.ls.n y.ls.c ∧ y.ls.At w := by
  obtain ⟨y0, y1, n, hx, hl, h0, h1⟩ := trod_struct2 Try.underlying58 h
  simp only [cellsInt, cellsLines, List.drop_succ_cons, List.drop_zero, List.take_succ_cons, List.take_zero] at h0 h1
  obtain ⟨n0, e0, _⟩ := DataW.trod_int Try.underlying3 h0
  obtain ⟨s, e1, hs⟩ := readLines h1
  simp only [List.cons.injEq, and_true] at e0 e1
  exact ⟨⟨n0, s⟩, e0, e1, hs⟩
theorem readOrders {fuel : Nat} {cs : List Value} {x : DataW H × List MemPlace} (h : DataW.trod enc Try.prog w 0 spare held fuel 27 cs = some x) : ∃ s : Go.Proofs.Ytbcacebifpagpaf.Os, cs = [s.val] ∧ s.At w := by
  rcases open_slice Try.underlying27 h with ⟨rfl, _⟩ | ⟨a, len, cap, m, n, D, Pl, rfl, hb, hl, hm, hmm, _, hx⟩
  · exact ⟨⟨none, 0, 0, fun _ => ⟨0, ⟨none, 0, 0, fun _ => ⟨0, 0, 0, 0⟩⟩⟩⟩, rfl, Nat.le_refl _, Nat.zero_le _, fun i hi => absurd hi (Nat.not_lt_zero _)⟩
  · have hlm : len ≤ m := by rw [hmm]; split <;> omega
    rw [cellsOrder] at hx
    haveI : Inhabited Od := ⟨⟨0, ⟨none, 0, 0, fun _ => ⟨0, 0, 0, 0⟩⟩⟩⟩
    obtain ⟨z, hz⟩ := choose_lt (α := Od) (n := len) (p := fun i y => w.cell? (a.add (i * 2)) = some (.int .i64 y.k) ∧ w.cell? (a.add (i * 2 + 1)) = some (.slice y.ls.a y.ls.n y.ls.c) ∧ y.ls.At w) (fun i hi => by
      obtain ⟨cs', hc, ht⟩ := hx i (by omega)
      obtain ⟨c0, c1, rfl, k0, k1⟩ := cells2 hc
      obtain ⟨y, rfl, rfl, hy⟩ := readOrder ht
      rw [add_add] at k1
      exact ⟨y, k0, k1, hy⟩)
    refine ⟨⟨some a, len, cap, z⟩, rfl, hl, hm, fun i hi => ?_⟩
    have hi' : i < len := hi
    have h0 : ∃ v0, w.cell? a = some v0 := ⟨_, by have := (hz 0 (by omega)).1; simpa [Addr.add] using this⟩
    obtain ⟨k0, k1, hy⟩ := hz i hi'
    obtain ⟨b, o, rfl, hb', e0⟩ := addrOf k0 h0
    rw [Go.WideShapes.add_plain] at k1
    exact ⟨b, o, rfl, hb', e0, by rw [Nat.add_assoc]; exact k1, hy⟩
theorem array7 {α : Type} {cs : Array α} (h : cs.size = 7) : ∃ c0 c1 c2 c3 c4 c5 c6, cs = #[c0, c1, c2, c3, c4, c5, c6] := by
  obtain ⟨l⟩ := cs
  match l, h with
  | [c0, c1, c2, c3, c4, c5, c6], _ => exact ⟨c0, c1, c2, c3, c4, c5, c6, rfl⟩
theorem openState {r : Reach} {b0 : Nat} {v : Value} {d : DataW H} {ps : List MemPlace} (hv : Value.okWide Try.prog w r b0 31 v) (h : DataW.Trod enc Try.prog w 0 spare held 31 v d ps) : ∃ s : St, v = s.val ∧ s.At w := by
  obtain ⟨cs, rfl, hsz⟩ := okWide_struct Try.underlying31 hv
  obtain ⟨c0, c1, c2, c3, c4, c5, c6, rfl⟩ := array7 (hsz.trans cellsState)
  obtain ⟨fuel, hf⟩ := h
  obtain ⟨xs, n, _, hx, hl, hlen, hg⟩ := DataW.trod_struct Try.underlying31 hf
  match xs, hlen with
  | [y0, y1, y2, y3, y4, y5, y6], _ =>
    have k0 := hg 0 _ rfl
    have k1 := hg 1 _ rfl
    have k2 := hg 2 _ rfl
    have k3 := hg 3 _ rfl
    have k4 := hg 4 _ rfl
    have k5 := hg 5 _ rfl
    have k6 := hg 6 _ rfl
    simp [cellsRows, cellsOrders, cellsHolds, cellsMoves, cellsInts, Value.cells] at k0 k1 k2 k3 k4 k5 k6
    obtain ⟨on, e0, h0⟩ := readRows k0
    obtain ⟨os, e1, h1⟩ := readOrders k1
    obtain ⟨hs, e2, h2⟩ := HoldsFrames.readHolds k2
    obtain ⟨ms, e3, h3⟩ := readMoves k3
    obtain ⟨si, e4, h4⟩ := readInts k4
    obtain ⟨so, e5, h5⟩ := readInts k5
    obtain ⟨sf, e6, h6⟩ := readInts k6
    simp only [List.cons.injEq, and_true] at e0 e1 e2 e3 e4 e5 e6
    subst e0 e1 e2 e3 e4 e5 e6
    exact ⟨⟨on, os, hs, ms, si, so, sf⟩, rfl, h0, h1, h2, h3, h4, h5, h6⟩
end
end Go.Proofs.Ytbcacebifpagpaf
